/-
  Texts of the proof.
-/
import Derived.Test.YtagmnlmfoanelaaGreatSK11
set_option maxRecDepth 100000
set_option maxHeartbeats 25600000
namespace Go.Proofs.YtagmnlmfoanelaaGreat
open Go.RowKit Go.ChangeShapes
set_option linter.unusedVariables false
set_option linter.unusedSimpArgs false
structure Wa where
 id : Int
 sent : Int
 text : ByteArray
 due : Int
def waV (a : Wa) : Value := .agg #[.int .i64 a.id, .int .i64 a.sent, .string a.text, .int .i64 a.due]
def waKd : Kd Wa where
 T := 57
 K := 4
 Own := fun _ _ v a => v = waV a
 At := fun _ v a => v = waV a
 fp := fun _ => []
 pos := by decide
 size := fun h => by
  subst h
  refine ⟨rfl, fun x hx => ?_⟩
  change x ∈ [_, _, _, _] at hx
  simp only [List.mem_cons, List.not_mem_nil, or_false] at hx
  rcases hx with rfl | rfl | rfl | rfl
  all_goals rfl
 same := fun h _ => h
 lt := fun _ g hg => by cases hg
 base := fun h _ => h
 nodup := fun _ => List.nodup_nil
 own_at := fun h => h
 below := fun h _ => h
def zeWa : Wa := ⟨0, 0, ⟨#[]⟩, 0⟩
theorem infoWa : (Tryz.prog.info? 57).map (fun i => (i.zero, i.size, i.bytes)) = some (some (.agg #[.int .i64 0, .int .i64 0, .string ⟨#[]⟩, .int .i64 0]), 4, 40) := by kernel_rfl
def wtWa (a : Wa) : Nat := a.text.size
def wtWaS (l : List Wa) : Nat := l.length + (l.map wtWa).sum
theorem wtWaS_len (l : List Wa) : l.length <= wtWaS l := Nat.le_add_right _ _
theorem wtWaS_mem : ∀ {l : List Wa} {c : Wa}, c ∈ l -> wtWa c <= wtWaS l
 | c :: l, d, h => by
  rcases List.mem_cons.1 h with rfl | h
  ·unfold wtWaS; simp; omega
  ·have := wtWaS_mem h
   unfold wtWaS at this |-
   simp
   omega
def WdWa (a : Wa) : Prop := Wd [a.id, a.sent, a.due] /\ a.text.size <= 9223372036854775807
def szWa (a : Wa) (left : Int) : Int := if (wtWa a : Int) <= left then left - (wtWa a : Int) else -1
def ArgWaS (B : Nat) (w : World) (v : Value) (l : List Wa) : Prop := RowS 4 B (fun v a => v = waV a) w v l
theorem ArgWaS.below {B : Nat} {w w' : World} {v : Value} {l : List Wa} (h : ArgWaS B w v l) (hb : Below B w w') {B' : Nat} (hB : B <= B') : ArgWaS B' w' v l := RowS.below h hb (fun _ _ hP => hP) hB
theorem fillWa_set {l : List Wa} {k : Nat} (hk : k < l.length) : (l.take k ++ List.replicate (l.length - k) zeWa).set k l[k] = l.take (k + 1) ++ List.replicate (l.length - (k + 1)) zeWa := by
 have e : (l.take k).length = k := by rw [List.length_take]; omega
 rw [List.set_append_right _ _ (by omega), e, Nat.sub_self, show l.length - k = (l.length - (k + 1)) + 1 by omega, List.replicate_succ, List.set_cons_zero, List.take_succ_eq_append_getElem hk, List.append_assoc]
 rfl
theorem fillWa_len {l : List Wa} {k : Nat} (hk : k <= l.length) : (l.take k ++ List.replicate (l.length - k) zeWa).length = l.length := by
 rw [List.length_append, List.length_take, List.length_replicate]
 omega
theorem OwnS.cellsWa {w : World} {base g n cap : Nat} {l : List Wa} {fp : List Nat} (h : OwnS waKd w base (.slice (some ⟨g, 0, none⟩) n cap) l fp) (hn : n = l.length) {j : Nat} (hj : j < l.length) :
  (∀ i x, (waV l[j]).cells[i]? = some x -> w.cell? ⟨g, j * 4 + i, none⟩ = some x) /\ ∀ i, w.frozen? ⟨g, i, none⟩ = false := by
 subst hn
 obtain ⟨g', o, u, h1, _, hP, hs, hc⟩ := h.at.get hj
 injection h1 with h1
 injection h1 with h1 h2
 subst h1 h2
 have hP' : u = waV l[j] := hP
 subst hP'
 obtain ⟨vs, hl, hr, he, rfl, hnd⟩ := h
 refine ⟨fun i x hx => ?_, fun i => World.ownsRow.frozenAt hr i⟩
 have := hc i x hx
 rw [Nat.zero_add] at this
 exact this
theorem toWait_any (a : Wa) (w : World) : Calls Tryz.prog 49 #[.agg #[.int .i64 a.id, .int .i64 a.sent, .string a.text, .int .i64 a.due]] w fun e w' => e = .returned (.agg #[.int .i64 a.id, .int .i64 a.sent, .string a.text, .int .i64 a.due]) /\ Below w.heap.size w w' := by
 go_enter Tryz.func49, Tryz.ntmps49
 go_wp2_with fail
 refine bodyPost_ret (v := .agg #[.int .i64 a.id, .int .i64 a.sent, .string a.text, .int .i64 a.due]) (by simp [results, Tryz.results49, go_sem]) rfl ⟨rfl, ?_⟩
 exact (((Below.refl _ _).alloc (Nat.le_refl _) _).alloc (by rw [size_alloc]; omega) _).alloc (by rw [size_alloc, size_alloc]; omega) _
theorem toWaitS_any (v : Value) (l : List Wa) (B : Nat) (w : World) (hl : wtWaS l <= 1048576) (hB : B <= w.heap.size) (ha : ArgWaS B w v l) :
  Calls Tryz.prog 24 #[v] w fun e w' => ∃ u fp, e = .returned u /\ OwnS waKd w' w.heap.size u l fp /\ Below w.heap.size w w' := by
 obtain ⟨i0, hi, hz0, hz1, hz2⟩ := info_parts infoWa
 obtain ⟨a0, cap, hv⟩ := ha.shape
 obtain ⟨len, hlen⟩ := zE (l.length)
 rw [hlen] at hv
 subst hv
 have hl20 : len <= 1048576 := by unfold wtWaS at hl; omega
 have HA : Hid (ArgWaS B w (.slice a0 len cap) l /\ l.length = len) := ⟨ha, hlen⟩
 clear ha hlen hl
 go_enter Tryz.func24, Tryz.ntmps24
 go_wp2_with (at_make; refine wpList_make_full _ rfl _ _ 32 rfl w.heap.size 57 i0 (.agg #[.int .i64 0, .int .i64 0, .string ⟨#[]⟩, .int .i64 0]) 4 Tryz.underlying32 hi hz0 hz1 .i64 .i64 _ _ len rfl rfl ?m0 ?m1 ?m2 ?m3 ?m4 ?_)
 case m0 => simp
 case m1 => simp
 case m2 => rw [hz2]; omega
 case m3 => unfold maxLen; omega
 case m4 => exact Nat.le_refl _
 intro w1 hown hgrow
 have HO : Hid (∃ fp, OwnS waKd w1 w.heap.size (.slice (some ⟨w.heap.size, 0, none⟩) len len) (l.take 0 ++ List.replicate (l.length - 0) zeWa) fp /\ Below w.heap.size w w1) := by
  refine ⟨[w.heap.size], ?_, (Below.refl _ _).grown hgrow (Nat.le_refl _) (fun j hj => by cases hj)⟩
  rw [List.take_zero, List.nil_append, Nat.sub_zero, HA.out.2]
  exact OwnS.zeros waKd (c := zeWa) (z := waV zeWa) rfl rfl (by have h2 : (madeCells (waV zeWa).cells (len * 4)).toList = cellsV (List.replicate len (waV zeWa)) := made_cellsV (waV zeWa) len (by decide); rw [<- h2]; exact hown)
 clear hown hgrow
 go_wp2_with fail
 go_loopw [4] (fun iv wr => ∃ k : Nat, k <= len /\ iv = .int .i64 k /\ Hid (∃ fp, OwnS waKd wr w.heap.size (.slice (some ⟨w.heap.size, 0, none⟩) len len) (l.take k ++ List.replicate (l.length - k) zeWa) fp /\ Below w.heap.size w wr)) (fun iv _ => len - (intOf iv).toNat)
 case atStart => exact ⟨0, Nat.zero_le _, rfl, HO.out⟩
 case round =>
  obtain ⟨k, hk, rfl, H⟩ := hrel
  clear HO
  by_cases hkn : k < len
  ·have hkl : k < l.length := by rw [HA.out.2]; exact hkn
   obtain ⟨b, off, u, hao, hbB, hu, hus, hcell⟩ := HA.out.1.get hkl
   subst hao
   obtain ⟨fp, hO, hBl⟩ := H.out
   have hcb := fun i x (hx : u.cells[i]? = some x) => (hBl.cell (p := ⟨b, off + k * 4 + i, none⟩) (by show b < w.heap.size; omega)).trans (hcell i x hx)
   obtain ⟨c, hc⟩ := zE (l[k])
   rw [hc] at hu
   subst hu
   have u0 : wr.cell? ⟨b, off + k * 4, none⟩ = some (.int .i64 c.id) := hcb 0 _ rfl
   have u1 : wr.cell? ⟨b, off + k * 4 + 1, none⟩ = some (.int .i64 c.sent) := hcb 1 _ rfl
   have u2 : wr.cell? ⟨b, off + k * 4 + 2, none⟩ = some (.string c.text) := hcb 2 _ rfl
   have u3 : wr.cell? ⟨b, off + k * 4 + 3, none⟩ = some (.int .i64 c.due) := hcb 3 _ rfl
   have HN : Hid (∀ (w3 : World), Below wr.heap.size wr w3 -> ∃ fp, OwnS waKd ((((w3.setCell ⟨w.heap.size, k * 4, none⟩ (.int .i64 c.id)).setCell ⟨w.heap.size, k * 4 + 1, none⟩ (.int .i64 c.sent)).setCell ⟨w.heap.size, k * 4 + 2, none⟩ (.string c.text)).setCell ⟨w.heap.size, k * 4 + 3, none⟩ (.int .i64 c.due)) w.heap.size (.slice (some ⟨w.heap.size, 0, none⟩) len len) (l.take (k + 1) ++ List.replicate (l.length - (k + 1)) zeWa) fp /\ Below w.heap.size w ((((w3.setCell ⟨w.heap.size, k * 4, none⟩ (.int .i64 c.id)).setCell ⟨w.heap.size, k * 4 + 1, none⟩ (.int .i64 c.sent)).setCell ⟨w.heap.size, k * 4 + 2, none⟩ (.string c.text)).setCell ⟨w.heap.size, k * 4 + 3, none⟩ (.int .i64 c.due))) := fun w3 hb => by
    have h2 := (hO.stays hb).put (k := waKd) (j := k) (u := waV c) (c := c) (by rw [fillWa_len (Nat.le_of_lt hkl)]; exact HA.out.2.symm) (by rw [fillWa_len (Nat.le_of_lt hkl)]; exact hkl) rfl (fun y hy hm => by cases hy)
    obtain ⟨fp', h2, _⟩ := h2
    rw [<- hc, fillWa_set hkl] at h2
    rw [<- hc]
    refine ⟨fp', h2, ?_⟩
    iterate 4 refine Below.setCell ?_ (by show w.heap.size <= w.heap.size; exact Nat.le_refl _) _
    exact hBl.trans (hb.mono hBl.size)
   have HC : Hid (∀ w3, Below wr.heap.size wr w3 -> (∀ j, w3.frozen? ⟨w.heap.size, j, none⟩ = false) /\ ∃ x0 x1 x2 x3, w3.cell? ⟨w.heap.size, k * 4, none⟩ = some x0 /\ w3.cell? ⟨w.heap.size, k * 4 + 1, none⟩ = some x1 /\ w3.cell? ⟨w.heap.size, k * 4 + 2, none⟩ = some x2 /\ w3.cell? ⟨w.heap.size, k * 4 + 3, none⟩ = some x3) := fun w3 hb => by
    obtain ⟨hcs, hfz⟩ := (hO.stays hb).cellsWa (j := k) (by rw [fillWa_len (Nat.le_of_lt hkl)]; exact HA.out.2.symm) (by rw [fillWa_len (Nat.le_of_lt hkl)]; exact hkl)
    exact ⟨hfz, _, _, _, _, hcs 0 _ rfl, hcs 1 _ rfl, hcs 2 _ rfl, hcs 3 _ rfl⟩
   clear H hO hBl hcb hcell hus hbB hc hkl
   have hki : (k : Int) < (len : Int) := by omega
   have hk0 : (0 : Int) <= (k : Int) := by omega
   go_wp2_with fail
   refine (toWait_any c wr).mono ?_
   rintro e w3 ⟨rfl, hb3⟩
   obtain ⟨fz, x0, x1, x2, x3, d0, d1, d2, d3⟩ := HC.out w3 hb3
   have HN3 : Hid _ := HN.out w3 hb3
   clear HN HC hb3 u0 u1 u2 u3
   go_wp2_with fail
   go_roundw
   case rel => exact ⟨k + 1, by omega, by go_num, HN3.out⟩
   case measure => simp [intOf]; omega
  ·have hkl : k = len := by omega
   subst hkl
   go_wp2
   go_ret
   obtain ⟨fp, hO, hBl⟩ := H.out
   refine ⟨_, fp, rfl, ?_, hBl⟩
   rw [<- HA.out.2, List.take_length, Nat.sub_self, List.replicate_zero, List.append_nil] at hO
   rw [<- HA.out.2]
   exact hO
theorem szWait_any (a : Wa) (left : Int) (w : World) (hwd : WdWa a) (h0 : 0 <= left) (hl : left <= 1048576) : Calls Tryz.prog 41 #[.agg #[.int .i64 a.id, .int .i64 a.sent, .string a.text, .int .i64 a.due], .int .i64 left] w fun e w' => e = .returned (.int .i64 (szWa a left)) /\ Below w.heap.size w w' := by
 obtain ⟨-, wd1⟩ := hwd
 obtain ⟨R, hR⟩ := zE (szWa a left)
 rw [hR]
 have hR2 : R = if (a.text.size : Int) <= left then left - ((a.text.size : Int)) else -1 := by rw [<- hR]; rfl
 clear hR
 have w1 : IntKind.i64.wrap (left - (a.text.size : Int)) = left - (a.text.size : Int) := by rw [IntKind.wrap_i64]; omega
 by_cases g1 : left - (a.text.size : Int) < 0
 ·have HR : Hid (R = -1) := by show R = -1; rw [hR2, if_neg (by omega)]
  clear hR2
  go_enter Tryz.func41, Tryz.ntmps41
  go_wp2
  go_ret
  exact ⟨by rw [HR.out]; rfl, (Below.refl _ _).alloc (Nat.le_refl _) _⟩
 ·have HR : Hid (R = left - (a.text.size : Int)) := by show R = _; rw [hR2, if_pos (by omega)]; try omega
  clear hR2
  go_enter Tryz.func41, Tryz.ntmps41
  go_wp2
  go_ret
  exact ⟨by rw [HR.out]; rfl, (Below.refl _ _).alloc (Nat.le_refl _) _⟩
theorem szWaitS_any (v : Value) (l : List Wa) (left : Int) (w : World) (hm : l.length <= 9223372036854775807) (hwd : ∀ c ∈ l, WdWa c) (h0 : 0 <= left) (hl : left <= 1048576) (ha : ArgWaS w.heap.size w v l) :
  Calls Tryz.prog 15 #[v, .int .i64 left] w fun e w' => e = .returned (.int .i64 (if (wtWaS l : Int) <= left then left - (wtWaS l : Int) else -1)) /\ Below w.heap.size w w' := by
 obtain ⟨a0, cap, hv⟩ := ha.shape
 obtain ⟨len, hlen⟩ := zE (l.length)
 rw [hlen] at hv hm
 subst hv
 obtain ⟨R, hR⟩ : ∃ r : Int, (if (wtWaS l : Int) <= left then left - (wtWaS l : Int) else -1) = r := ⟨_, rfl⟩
 rw [hR]
 have HA : Hid (ArgWaS w.heap.size w (.slice a0 len cap) l /\ l.length = len /\ (∀ c ∈ l, WdWa c) /\ (if (wtWaS l : Int) <= left then left - (wtWaS l : Int) else -1) = R) := ⟨ha, hlen, hwd, hR⟩
 clear ha hlen hwd hR
 have w1 : IntKind.i64.wrap (left - (len : Int)) = left - (len : Int) := by rw [IntKind.wrap_i64]; omega
 by_cases hneg : left - (len : Int) < 0
 ·have HRR : Hid (R = -1) := by
   show R = -1
   rw [<- HA.out.2.2.2, if_neg]
   have h1 := HA.out.2.1
   unfold wtWaS
   omega
  go_enter Tryz.func15, Tryz.ntmps15
  go_wp2
  go_ret
  exact ⟨by rw [HRR.out]; rfl, Below.refl _ _⟩
 ·have hll : len <= 1048576 := by omega
  go_enter Tryz.func15, Tryz.ntmps15
  go_wp2_with fail
  go_loopw [1, 5] (fun lv iv wr => ∃ k : Nat, ∃ z : Int, k <= len /\ iv = .int .i64 k /\ lv = .int .i64 z /\ 0 <= z /\ z <= 1048576 /\ Hid (z = left - (len : Int) - ((((l.map wtWa).take k).sum : Nat) : Int) /\ Below w.heap.size w wr)) (fun _ iv _ => len - (intOf iv).toNat)
  case atStart => exact ⟨0, _, Nat.zero_le _, rfl, rfl, by omega, by omega, by simp, Below.refl _ _⟩
  case round =>
   obtain ⟨k, z, hk, rfl, rfl, hz0, hz1, H⟩ := hrel
   by_cases hkn : k < len
   ·have hkl : k < l.length := by rw [HA.out.2.1]; exact hkn
    obtain ⟨b, off, u, hao, hbB, hu, hus, hcell⟩ := HA.out.1.get hkl
    subst hao
    have hBl := H.out.2
    have hcb := fun i x (hx : u.cells[i]? = some x) => (hBl.cell (p := ⟨b, off + k * 4 + i, none⟩) hbB).trans (hcell i x hx)
    obtain ⟨c, hc⟩ := zE (l[k])
    rw [hc] at hu
    have HR := szWait_any c z wr (by rw [<- hc]; exact HA.out.2.2.1 _ (List.getElem_mem hkl)) hz0 hz1
    subst hu
    have u0 : wr.cell? ⟨b, off + k * 4, none⟩ = some (.int .i64 c.id) := hcb 0 _ rfl
    have u1 : wr.cell? ⟨b, off + k * 4 + 1, none⟩ = some (.int .i64 c.sent) := hcb 1 _ rfl
    have u2 : wr.cell? ⟨b, off + k * 4 + 2, none⟩ = some (.string c.text) := hcb 2 _ rfl
    have u3 : wr.cell? ⟨b, off + k * 4 + 3, none⟩ = some (.int .i64 c.due) := hcb 3 _ rfl
    have HS : Hid ((((l.map wtWa).take (k + 1)).sum = ((l.map wtWa).take k).sum + wtWa c) /\ ((l.map wtWa).take (k + 1)).sum <= (l.map wtWa).sum /\ wtWaS l = len + (l.map wtWa).sum) := by
     refine ⟨?_, sum_take_le _ _, by unfold wtWaS; rw [HA.out.2.1]⟩
     rw [sum_take (by rw [List.length_map]; exact hkl), List.getElem_map, hc]
    have hki : (k : Int) < (len : Int) := by omega
    have hk0 : (0 : Int) <= (k : Int) := by omega
    clear hcb hcell hus hbB hc hkl hBl
    obtain ⟨zz, hzz⟩ := zE (szWa c z)
    rw [hzz] at HR
    by_cases hfit : (wtWa c : Int) <= z
    ·have hzv : zz = z - (wtWa c : Int) := by rw [<- hzz]; unfold szWa; rw [if_pos hfit]
     have hz0' : ¬ zz < 0 := by omega
     have HZ : Hid (zz = left - (len : Int) - ((((l.map wtWa).take (k + 1)).sum : Nat) : Int) /\ 0 <= zz /\ zz <= 1048576) := ⟨by rw [HS.out.1, hzv, H.out.1]; omega, by omega, by omega⟩
     clear hzz hzv HS hfit
     go_wp2_with fail
     refine HR.mono ?_
     rintro e w3 ⟨rfl, hb3⟩
     clear u0 u1 u2 u3 HR
     have HB3 : Hid (Below w.heap.size w w3) := H.out.2.trans (hb3.mono H.out.2.size)
     clear H hb3
     go_wp2_with fail
     go_roundw
     case rel => exact ⟨k + 1, zz, by omega, by go_num, rfl, HZ.out.2.1, HZ.out.2.2, HZ.out.1, HB3.out⟩
     case measure => simp [intOf]; omega
    ·have hzv : zz = -1 := by rw [<- hzz]; unfold szWa; rw [if_neg hfit]
     subst hzv
     have HRR : Hid (R = -1) := by
      show R = -1
      rw [<- HA.out.2.2.2, if_neg]
      have h1 := HS.out
      have h2 := H.out.1
      omega
     clear HS hfit hzz
     go_wp2_with fail
     refine HR.mono ?_
     rintro e w3 ⟨rfl, hb3⟩
     clear u0 u1 u2 u3 HR
     have HB3 : Hid (Below w.heap.size w w3) := H.out.2.trans (hb3.mono H.out.2.size)
     clear H hb3
     go_wp2
     go_ret
     exact ⟨by rw [HRR.out]; rfl, HB3.out⟩
   ·have hkl : k = len := by omega
    subst hkl
    have HRR : Hid (R = z) := by
     show R = z
     have h1 := H.out.1
     rw [List.take_of_length_le (by rw [List.length_map, HA.out.2.1]; exact Nat.le_refl _)] at h1
     have h2 := HA.out.2.1
     rw [<- HA.out.2.2.2, if_pos (by unfold wtWaS; omega)]
     unfold wtWaS
     omega
    go_wp2
    go_ret
    exact ⟨by rw [HRR.out]; rfl, H.out.2⟩
theorem eqWait_same (a : Wa) (w : World) : Calls Tryz.prog 58 #[.agg #[.int .i64 a.id, .int .i64 a.sent, .string a.text, .int .i64 a.due], .agg #[.int .i64 a.id, .int .i64 a.sent, .string a.text, .int .i64 a.due]] w fun e w' => e = .returned (.bool true) /\ Below w.heap.size w w' := by
 go_enter Tryz.func58, Tryz.ntmps58
 go_wp2
 go_ret
 exact ⟨rfl, ((Below.refl _ _).alloc (Nat.le_refl _) _).alloc (by rw [size_alloc]; omega) _⟩
theorem eqWaitS_same (l : List Wa) (a b : Value) (w : World) (hl : l.length <= 1000000000) (ha : AtS waKd w a l) (hb : AtS waKd w b l) :
  Calls Tryz.prog 30 #[a, b] w fun e w' => e = .returned (.bool true) /\ Below w.heap.size w w' := by
 obtain ⟨ax, cx, hv⟩ := ha.shape
 obtain ⟨ay, cy, hu⟩ := hb.shape
 obtain ⟨len, hlen⟩ := zE (l.length)
 rw [hlen] at hv hu
 subst hv hu
 have hl20 : len <= 1000000000 := by omega
 have HX : Hid (AtS waKd w (.slice ax len cx) l /\ AtS waKd w (.slice ay len cy) l /\ l.length = len /\ l.length <= 1000000000) := ⟨ha, hb, hlen, hl⟩
 clear ha hb hlen hl
 go_enter Tryz.func30, Tryz.ntmps30
 go_wp2_with fail
 go_loopw [5] (fun iv wr => ∃ k : Nat, k <= len /\ iv = .int .i64 k /\ Hid (Below w.heap.size w wr)) (fun iv _ => len - (intOf iv).toNat)
 case atStart => exact ⟨0, Nat.zero_le _, rfl, Below.refl _ _⟩
 case round =>
  obtain ⟨k, hk, rfl, HB⟩ := hrel
  by_cases hkn : k < len
  ·have hkl : k < l.length := by rw [HX.out.2.2.1]; exact hkn
   obtain ⟨g1, o1, u1, hax, hg1, hP1, hs1, hc1⟩ := HX.out.1.get hkl
   obtain ⟨g2, o2, u2, hay, hg2, hP2, hs2, hc2⟩ := HX.out.2.1.get hkl
   subst hax hay
   obtain ⟨c, hc⟩ := zE (l[k])
   have hBd : Below w.heap.size w wr.drew := HB.out.drew
   have HR := eqWait_same c wr.drew
   rw [hc] at hP1 hP2
   have hu1 : u1 = waV c := hP1
   have hu2 : u2 = waV c := hP2
   subst hu1 hu2
   have HS : Hid (∀ W, Below w.heap.size w W -> (W.cell? ⟨g1, o1 + k * 4, none⟩ = some (.int .i64 c.id) /\ W.cell? ⟨g1, o1 + k * 4 + 1, none⟩ = some (.int .i64 c.sent) /\ W.cell? ⟨g1, o1 + k * 4 + 2, none⟩ = some (.string c.text) /\ W.cell? ⟨g1, o1 + k * 4 + 3, none⟩ = some (.int .i64 c.due)) /\ (W.cell? ⟨g2, o2 + k * 4, none⟩ = some (.int .i64 c.id) /\ W.cell? ⟨g2, o2 + k * 4 + 1, none⟩ = some (.int .i64 c.sent) /\ W.cell? ⟨g2, o2 + k * 4 + 2, none⟩ = some (.string c.text) /\ W.cell? ⟨g2, o2 + k * 4 + 3, none⟩ = some (.int .i64 c.due))) := fun W hW =>
    ⟨⟨(hW.cell (p := ⟨g1, o1 + k * 4 + 0, none⟩) hg1).trans (hc1 0 _ rfl), (hW.cell (p := ⟨g1, o1 + k * 4 + 1, none⟩) hg1).trans (hc1 1 _ rfl), (hW.cell (p := ⟨g1, o1 + k * 4 + 2, none⟩) hg1).trans (hc1 2 _ rfl), (hW.cell (p := ⟨g1, o1 + k * 4 + 3, none⟩) hg1).trans (hc1 3 _ rfl)⟩, ⟨(hW.cell (p := ⟨g2, o2 + k * 4 + 0, none⟩) hg2).trans (hc2 0 _ rfl), (hW.cell (p := ⟨g2, o2 + k * 4 + 1, none⟩) hg2).trans (hc2 1 _ rfl), (hW.cell (p := ⟨g2, o2 + k * 4 + 2, none⟩) hg2).trans (hc2 2 _ rfl), (hW.cell (p := ⟨g2, o2 + k * 4 + 3, none⟩) hg2).trans (hc2 3 _ rfl)⟩⟩
   have hki : (k : Int) < (len : Int) := by omega
   have hk0 : (0 : Int) <= (k : Int) := by omega
   clear hc1 hc2 hP1 hP2 hs1 hs2 hg1 hg2 hc hkl
   go_upto_region 6 with fail
   refine wp_region_held_drew (S := fun W => Below w.heap.size w W) (by kernel_rfl) hBd (fun hHeld => ?_)
   clear hBd
   have HBW : Hid (Below w.heap.size w wr.drew) := hHeld
   refine zT 0 17 ?_ rfl (by rfl) ?_ hHeld ?_
   rotate_left
   ·intro W hSw
    go_simp
    try with_reducible rfl
   try simp only [Act.put, zA, zB, zC]
   refine zT 1 18 ?_ rfl (by rfl) ?_ hHeld ?_
   rotate_left
   ·intro W hSw
    go_simp
    try with_reducible rfl
   try simp only [Act.put, zA, zB, zC]
   refine zT 2 19 ?_ rfl (by rfl) ?_ hHeld ?_
   rotate_left
   ·intro W hSw
    go_simp
    try with_reducible rfl
   try simp only [Act.put, zA, zB, zC]
   refine zT 3 20 ?_ rfl (by rfl) ?_ hHeld ?_
   rotate_left
   ·intro W hSw
    obtain ⟨⟨e0, e1, e2, e3⟩, -⟩ := HS.out W hSw
    go_simp
    try with_reducible rfl
   try simp only [Act.put, zA, zB, zC]
   refine zT 4 21 ?_ rfl (by rfl) ?_ hHeld ?_
   rotate_left
   ·intro W hSw
    go_simp
    try with_reducible rfl
   try simp only [Act.put, zA, zB, zC]
   refine zT 5 22 ?_ rfl (by rfl) ?_ hHeld ?_
   rotate_left
   ·intro W hSw
    go_simp
    try with_reducible rfl
   try simp only [Act.put, zA, zB, zC]
   refine zT 6 23 ?_ rfl (by rfl) ?_ hHeld ?_
   rotate_left
   ·intro W hSw
    go_simp
    try with_reducible rfl
   try simp only [Act.put, zA, zB, zC]
   refine zT 7 24 ?_ rfl (by rfl) ?_ hHeld ?_
   rotate_left
   ·intro W hSw
    obtain ⟨-, e0, e1, e2, e3⟩ := HS.out W hSw
    go_simp
    try with_reducible rfl
   try simp only [Act.put, zA, zB, zC]
   refine wpAnyH_ready (rs := [8]) (by kernel_rfl) (by simp) ?_
   refine AllReadyH.cons (o := ⟨some 25, _, _, _, _, _⟩) rfl (fun K hK => ?_) AllReadyH.nil
   go_simp
   refine HR.mono ?_
   rintro e w3 ⟨rfl, hb3⟩
   have HB3 : Hid (Below w.heap.size w w3) := HBW.out.trans (hb3.mono HBW.out.size)
   clear hb3 HR HBW
   refine hK.out _ _ HB3.out (fun hHeld => ?_)
   clear hK K
   try simp only [Act.put, zA, zB, zC]
   refine zT 9 26 ?_ rfl (by rfl) ?_ hHeld ?_
   rotate_left
   ·intro W hSw
    go_simp
    try with_reducible rfl
   try simp only [Act.put, zA, zB, zC]
   refine wpAnyH_done (by kernel_rfl) ?_ _
   clear HS
   go_wp2_with fail
   go_roundw
   case rel => exact ⟨k + 1, by omega, by go_num, HB3.out⟩
   case measure => simp [intOf]; omega
  ·have hkl : k = len := by omega
   subst hkl
   go_wp2
   go_ret
   exact ⟨rfl, HB.out⟩
theorem pickWa {n : Nat} {P : Nat -> Wa -> Prop} (h : ∀ j, j < n -> ∃ y, P j y) : ∃ l : List Wa, ∃ hl : l.length = n, ∀ j (hj : j < l.length), P j l[j] := by
 induction n with
 | zero => exact ⟨[], rfl, fun j hj => absurd hj (Nat.not_lt_zero _)⟩
 | succ n ih =>
  obtain ⟨l, hl, hP⟩ := ih fun j hj => h j (by omega)
  obtain ⟨y, hy⟩ := h n (by omega)
  refine ⟨l ++ [y], by simp [hl], fun j hj => ?_⟩
  by_cases e : j < l.length
  ·rw [List.getElem_append_left e]
   exact hP j e
  ·have e2 : j = l.length := by simp at hj; omega
   subst e2
   simpa [hl] using hy
theorem cellsWait : Tryz.prog.cellsOf 70 = 4 := by kernel_rfl
theorem wa_of_trod {H : Type} {enc : TypeId × Value -> H} {W : World} {fuel : Nat} {cs : List Value} {x : DataW H × List MemPlace} (h : DataW.trod enc Tryz.prog W 0 (fun _ => true) true fuel 70 cs = some x) :
  ∃ a : Wa, Value.agg cs.toArray = waV a /\ WdWa a := by
 obtain ⟨xs, m, rfl, hx, hl, hxl, hall⟩ := DataW.trod_struct Tryz.underlying70 h
 rw [cellsWait] at hl
 obtain ⟨x0, x1, x2, x3, rfl⟩ : ∃ x0 x1 x2 x3, xs = [x0, x1, x2, x3] := by
  match xs, hxl with
  | [x0, x1, x2, x3], _ => exact ⟨x0, x1, x2, x3, rfl⟩
 have f0 := hall 0 _ rfl
 change DataW.trod _ _ _ _ _ _ _ 3 ((cs.drop 0).take (Tryz.prog.cellsOf 3)) = some x0 at f0
 rw [cI] at f0
 obtain ⟨v0, h0, _, w0⟩ := DataW.trod_int Tryz.underlying3 f0
 have g0 := take_one h0
 have f1 := hall 1 _ rfl
 change DataW.trod _ _ _ _ _ _ _ 3 ((cs.drop 1).take (Tryz.prog.cellsOf 3)) = some x1 at f1
 rw [cI] at f1
 obtain ⟨v1, h1, _, w1⟩ := DataW.trod_int Tryz.underlying3 f1
 have g1 := take_one h1
 have f2 := hall 2 _ rfl
 change DataW.trod _ _ _ _ _ _ _ 9 ((cs.drop 2).take (Tryz.prog.cellsOf 9)) = some x2 at f2
 rw [cS] at f2
 obtain ⟨v2, h2, _, w2⟩ := DataW.trod_string Tryz.underlying9 f2
 have g2 := take_one h2
 have f3 := hall 3 _ rfl
 change DataW.trod _ _ _ _ _ _ _ 3 ((cs.drop 3).take (Tryz.prog.cellsOf 3)) = some x3 at f3
 rw [cI] at f3
 obtain ⟨v3, h3, _, w3⟩ := DataW.trod_int Tryz.underlying3 f3
 have g3 := take_one h3
 have hcs : cs = [.int .i64 v0, .int .i64 v1, .string v2, .int .i64 v3] := by
  match cs, hl with
  | [y0, y1, y2, y3], _ =>
   simp at g0 g1 g2 g3
   rw [g0, g1, g2, g3]
 refine ⟨⟨v0, v1, v2, v3⟩, by rw [hcs]; rfl, fun y hy => ?_, ?_⟩
 ·simp only [List.mem_cons, List.not_mem_nil, or_false] at hy
  simp [Lit.wf, IntKind.min, IntKind.max, IntKind.signed, IntKind.bits] at w0 w1 w3
  rcases hy with rfl | rfl | rfl <;> omega
 ·unfold maxLen at w2; exact w2
theorem was_in {H : Type} {enc : TypeId × Value -> H} {W : World} {fuel : Nat} {cs : List Value} {x : DataW H × List MemPlace} (h : DataW.trod enc Tryz.prog W 0 (fun _ => true) true fuel 22 cs = some x) :
  ∃ ao cap, ∃ l : List Wa, cs = [.slice ao l.length cap] /\ l.length <= maxLen /\ (∀ c ∈ l, WdWa c) /\ ArgWaS W.heap.size W (.slice ao l.length cap) l := by
 rcases DataW.trod_slice Tryz.underlying22 h with ⟨h0, _⟩ | ⟨a, len, cap, elems, rest, q, hq, hc, _, hb, hlc, hcm, hel, helem, _, _⟩
 ·exact ⟨none, 0, [], h0, Nat.zero_le _, fun x hx => by simp at hx, none, 0, rfl, fun j hj => by simp at hj⟩
 ·have each : ∀ j, j < len -> ∃ c : Wa, ∃ u : Value, u = waV c /\ WdWa c /\ u.cells.size = 4 /\ ∀ i x, u.cells[i]? = some x -> W.cell? (a.add (j * 4 + i)) = some x := by
   intro j hj
   have he := helem j hj
   rw [cellsWait] at he
   obtain ⟨z, hz⟩ : ∃ z, elems[j]? = some z := ⟨elems[j]'(by omega), by simp [show j < elems.length by omega]⟩
   rw [hz, Option.bind_eq_some_iff] at he
   obtain ⟨cs2, hcs2, htr⟩ := he
   obtain ⟨c, hv, hwd⟩ := wa_of_trod htr
   have hsome := World.cells?_some hcs2
   refine ⟨c, waV c, rfl, hwd, rfl, fun i x hx => ?_⟩
   have hcl : (waV c).cells = cs2.toArray := by rw [<- hv]; rfl
   rw [hcl] at hx
   have hi : i < cs2.length := by have := (Array.getElem?_eq_some_iff.1 hx).1; simpa using this
   have h3 := hsome.2.2 i (by omega)
   rw [Addr.add_add] at h3
   rw [h3]
   simpa using hx
  obtain ⟨l, hl, hP⟩ := pickWa each
  refine ⟨some a, cap, l, by rw [hl]; exact hc, by rw [hl]; exact Nat.le_trans hlc hcm, fun y hy => ?_, some a, cap, rfl, fun j hj => ?_⟩
  ·obtain ⟨j, hj, rfl⟩ := List.getElem_of_mem hy
   obtain ⟨u, _, h2, _⟩ := hP j hj
   exact h2
  ·obtain ⟨u, h1, h2, h3, h4⟩ := hP j hj
   obtain ⟨x0, hx0⟩ : ∃ x, u.cells[0]? = some x := ⟨u.cells[0]'(by omega), Array.getElem?_eq_getElem _⟩
   have c0 := h4 0 x0 hx0
   obtain ⟨u', _, _, g3, g4⟩ := hP 0 (by omega)
   obtain ⟨y0, hy0⟩ : ∃ x, u'.cells[0]? = some x := ⟨u'.cells[0]'(by omega), Array.getElem?_eq_getElem _⟩
   have d0 := g4 0 y0 hy0
   obtain ⟨b, off, spot⟩ := a
   have hspot : spot = none := by simpa [Addr.add] using World.cell?_spot d0
   subst hspot
   rw [Addr.add_lit] at c0
   refine ⟨b, off, u, rfl, lt_of_cell c0, h1, h3, fun i x hx => ?_⟩
   have := h4 i x hx
   rw [Addr.add_lit, <- Nat.add_assoc] at this
   exact this
theorem cellsAnswer : Tryz.prog.cellsOf 127 = 4 := by kernel_rfl
theorem cellsReply : Tryz.prog.cellsOf 74 = 8 := by kernel_rfl
theorem cellsRowA : Tryz.prog.cellsOf 72 = 1 := by kernel_rfl
theorem answer_of_trod {H : Type} {enc : TypeId × Value -> H} {W : World} {fuel : Nat} {cs : List Value} {x : DataW H × List MemPlace} (h : DataW.trod enc Tryz.prog W 0 (fun _ => true) true fuel 127 cs = some x) :
  ∃ (c : Aw) (p e : Value), Value.agg cs.toArray = awV c p e /\ ArgAw W.heap.size W (awV c p e) c /\ WdAw c := by
 obtain ⟨xs, m, rfl, hx, hl, hxl, hall⟩ := DataW.trod_struct Tryz.underlying127 h
 rw [cellsAnswer] at hl
 obtain ⟨x0, x1, x2, x3, rfl⟩ : ∃ x0 x1 x2 x3, xs = [x0, x1, x2, x3] := by
  match xs, hxl with
  | [x0, x1, x2, x3], _ => exact ⟨x0, x1, x2, x3, rfl⟩
 have f0 := hall 0 _ rfl
 change DataW.trod _ _ _ _ _ _ _ 3 ((cs.drop 0).take (Tryz.prog.cellsOf 3)) = some x0 at f0
 rw [cI] at f0
 obtain ⟨v0, h0, _, w0⟩ := DataW.trod_int Tryz.underlying3 f0
 have g0 := take_one h0
 clear f0 h0
 have f1 := hall 1 _ rfl
 change DataW.trod _ _ _ _ _ _ _ 3 ((cs.drop 1).take (Tryz.prog.cellsOf 3)) = some x1 at f1
 rw [cI] at f1
 obtain ⟨v1, h1, _, w1⟩ := DataW.trod_int Tryz.underlying3 f1
 have g1 := take_one h1
 clear f1 h1
 have f2 := hall 2 _ rfl
 change DataW.trod _ _ _ _ _ _ _ 27 ((cs.drop 2).take (Tryz.prog.cellsOf 27)) = some x2 at f2
 rw [cT] at f2
 obtain ⟨a2, p2, v2, h2, m2, w2, r2⟩ := texts_in f2
 have g2 := take_one h2
 clear f2 h2
 have f3 := hall 3 _ rfl
 change DataW.trod _ _ _ _ _ _ _ 27 ((cs.drop 3).take (Tryz.prog.cellsOf 27)) = some x3 at f3
 rw [cT] at f3
 obtain ⟨a3, p3, v3, h3, m3, w3, r3⟩ := texts_in f3
 have g3 := take_one h3
 clear f3 h3
 have hcs : cs = [.int .i64 v0, .int .i64 v1, .slice a2 v2.length p2, .slice a3 v3.length p3] := by
  match cs, hl with
  | [y0, y1, y2, y3], _ =>
   simp at g0 g1 g2 g3
   rw [g0, g1, g2, g3]
 refine ⟨⟨v0, v1, v2, v3⟩, .slice a2 v2.length p2, .slice a3 v3.length p3, by rw [hcs]; rfl, ⟨a2, p2, a3, p3, rfl, r2, r3⟩, ?_⟩
 unfold maxLen at m2 m3
 refine ⟨fun y hy => ?_, w2, w3, m2, m3⟩
 simp only [List.mem_cons, List.not_mem_nil, or_false] at hy
 simp [Lit.wf, IntKind.min, IntKind.max, IntKind.signed, IntKind.bits] at w0 w1
 rcases hy with rfl | rfl <;> omega
theorem pickAw {n : Nat} {P : Nat -> Aw -> Prop} (h : ∀ j, j < n -> ∃ y, P j y) : ∃ l : List Aw, ∃ hl : l.length = n, ∀ j (hj : j < l.length), P j l[j] := by
 induction n with
 | zero => exact ⟨[], rfl, fun j hj => absurd hj (Nat.not_lt_zero _)⟩
 | succ n ih =>
  obtain ⟨l, hl, hP⟩ := ih fun j hj => h j (by omega)
  obtain ⟨y, hy⟩ := h n (by omega)
  refine ⟨l ++ [y], by simp [hl], fun j hj => ?_⟩
  by_cases e : j < l.length
  ·rw [List.getElem_append_left e]
   exact hP j e
  ·have e2 : j = l.length := by simp at hj; omega
   subst e2
   simpa [hl] using hy
theorem answers_in {H : Type} {enc : TypeId × Value -> H} {W : World} {fuel : Nat} {cs : List Value} {x : DataW H × List MemPlace} (h : DataW.trod enc Tryz.prog W 0 (fun _ => true) true fuel 72 cs = some x) :
  ∃ ao cap, ∃ l : List Aw, cs = [.slice ao l.length cap] /\ l.length <= maxLen /\ (∀ c ∈ l, WdAw c) /\ ArgAS W.heap.size W (.slice ao l.length cap) l := by
 rcases DataW.trod_slice Tryz.underlying72 h with ⟨h0, _⟩ | ⟨a, len, cap, elems, rest, q, hq, hc, _, hb, hlc, hcm, hel, helem, _, _⟩
 ·exact ⟨none, 0, [], h0, Nat.zero_le _, fun x hx => by simp at hx, none, 0, rfl, fun j hj => by simp at hj⟩
 ·have each : ∀ j, j < len -> ∃ c : Aw, ∃ u : Value, ArgAw W.heap.size W u c /\ WdAw c /\ u.cells.size = 4 /\ ∀ i x, u.cells[i]? = some x -> W.cell? (a.add (j * 4 + i)) = some x := by
   intro j hj
   have he := helem j hj
   rw [cellsAnswer] at he
   obtain ⟨z, hz⟩ : ∃ z, elems[j]? = some z := ⟨elems[j]'(by omega), by simp [show j < elems.length by omega]⟩
   rw [hz, Option.bind_eq_some_iff] at he
   obtain ⟨cs2, hcs2, htr⟩ := he
   obtain ⟨c, p, e, hv, harg, hwd⟩ := answer_of_trod htr
   have hsome := World.cells?_some hcs2
   refine ⟨c, awV c p e, harg, hwd, rfl, fun i x hx => ?_⟩
   have hcl : (awV c p e).cells = cs2.toArray := by rw [<- hv]; rfl
   rw [hcl] at hx
   have hi : i < cs2.length := by have := (Array.getElem?_eq_some_iff.1 hx).1; simpa using this
   have h3 := hsome.2.2 i (by omega)
   rw [Addr.add_add] at h3
   rw [h3]
   simpa using hx
  obtain ⟨l, hl, hP⟩ := pickAw each
  refine ⟨some a, cap, l, by rw [hl]; exact hc, by rw [hl]; exact Nat.le_trans hlc hcm, fun y hy => ?_, some a, cap, rfl, fun j hj => ?_⟩
  ·obtain ⟨j, hj, rfl⟩ := List.getElem_of_mem hy
   obtain ⟨u, _, h2, _⟩ := hP j hj
   exact h2
  ·obtain ⟨u, h1, h2, h3, h4⟩ := hP j hj
   obtain ⟨x0, hx0⟩ : ∃ x, u.cells[0]? = some x := ⟨u.cells[0]'(by omega), Array.getElem?_eq_getElem _⟩
   have c0 := h4 0 x0 hx0
   obtain ⟨u', _, _, g3, g4⟩ := hP 0 (by omega)
   obtain ⟨y0, hy0⟩ : ∃ x, u'.cells[0]? = some x := ⟨u'.cells[0]'(by omega), Array.getElem?_eq_getElem _⟩
   have d0 := g4 0 y0 hy0
   obtain ⟨b, off, spot⟩ := a
   have hspot : spot = none := by simpa [Addr.add] using World.cell?_spot d0
   subst hspot
   rw [Addr.add_lit] at c0
   refine ⟨b, off, u, rfl, lt_of_cell c0, h1, h3, fun i x hx => ?_⟩
   have := h4 i x hx
   rw [Addr.add_lit, <- Nat.add_assoc] at this
   exact this
theorem reply_of_trod {H : Type} {enc : TypeId × Value -> H} {W : World} {fuel : Nat} {cs : List Value} {x : DataW H × List MemPlace} (h : DataW.trod enc Tryz.prog W 0 (fun _ => true) true fuel 74 cs = some x) :
  ∃ c : Rp, ArgRp W.heap.size W (.agg cs.toArray) c /\ WdRp c := by
 obtain ⟨xs, m, rfl, hx, hl, hxl, hall⟩ := DataW.trod_struct Tryz.underlying74 h
 rw [cellsReply] at hl
 obtain ⟨x0, x1, x2, x3, x4, x5, x6, x7, rfl⟩ : ∃ x0 x1 x2 x3 x4 x5 x6 x7, xs = [x0, x1, x2, x3, x4, x5, x6, x7] := by
  match xs, hxl with
  | [x0, x1, x2, x3, x4, x5, x6, x7], _ => exact ⟨x0, x1, x2, x3, x4, x5, x6, x7, rfl⟩
 have f0 := hall 0 _ rfl
 change DataW.trod _ _ _ _ _ _ _ 9 ((cs.drop 0).take (Tryz.prog.cellsOf 9)) = some x0 at f0
 rw [cS] at f0
 obtain ⟨v0, h0, _, w0⟩ := DataW.trod_string Tryz.underlying9 f0
 have g0 := take_one h0
 clear f0 h0
 have f1 := hall 1 _ rfl
 change DataW.trod _ _ _ _ _ _ _ 3 ((cs.drop 1).take (Tryz.prog.cellsOf 3)) = some x1 at f1
 rw [cI] at f1
 obtain ⟨v1, h1, _, w1⟩ := DataW.trod_int Tryz.underlying3 f1
 have g1 := take_one h1
 clear f1 h1
 have f2 := hall 2 _ rfl
 change DataW.trod _ _ _ _ _ _ _ 3 ((cs.drop 2).take (Tryz.prog.cellsOf 3)) = some x2 at f2
 rw [cI] at f2
 obtain ⟨v2, h2, _, w2⟩ := DataW.trod_int Tryz.underlying3 f2
 have g2 := take_one h2
 clear f2 h2
 have f3 := hall 3 _ rfl
 change DataW.trod _ _ _ _ _ _ _ 3 ((cs.drop 3).take (Tryz.prog.cellsOf 3)) = some x3 at f3
 rw [cI] at f3
 obtain ⟨v3, h3, _, w3⟩ := DataW.trod_int Tryz.underlying3 f3
 have g3 := take_one h3
 clear f3 h3
 have f4 := hall 4 _ rfl
 change DataW.trod _ _ _ _ _ _ _ 3 ((cs.drop 4).take (Tryz.prog.cellsOf 3)) = some x4 at f4
 rw [cI] at f4
 obtain ⟨v4, h4, _, w4⟩ := DataW.trod_int Tryz.underlying3 f4
 have g4 := take_one h4
 clear f4 h4
 have f5 := hall 5 _ rfl
 change DataW.trod _ _ _ _ _ _ _ 3 ((cs.drop 5).take (Tryz.prog.cellsOf 3)) = some x5 at f5
 rw [cI] at f5
 obtain ⟨v5, h5, _, w5⟩ := DataW.trod_int Tryz.underlying3 f5
 have g5 := take_one h5
 clear f5 h5
 have f6 := hall 6 _ rfl
 change DataW.trod _ _ _ _ _ _ _ 72 ((cs.drop 6).take (Tryz.prog.cellsOf 72)) = some x6 at f6
 rw [cellsRowA] at f6
 obtain ⟨a6, p6, v6, h6, m6, w6, r6⟩ := answers_in f6
 have g6 := take_one h6
 clear f6 h6
 have f7 := hall 7 _ rfl
 change DataW.trod _ _ _ _ _ _ _ 9 ((cs.drop 7).take (Tryz.prog.cellsOf 9)) = some x7 at f7
 rw [cS] at f7
 obtain ⟨v7, h7, _, w7⟩ := DataW.trod_string Tryz.underlying9 f7
 have g7 := take_one h7
 clear f7 h7
 have hcs : cs = [.string v0, .int .i64 v1, .int .i64 v2, .int .i64 v3, .int .i64 v4, .int .i64 v5, .slice a6 v6.length p6, .string v7] := by
  match cs, hl with
  | [y0, y1, y2, y3, y4, y5, y6, y7], _ =>
   simp at g0 g1 g2 g3 g4 g5 g6 g7
   rw [g0, g1, g2, g3, g4, g5, g6, g7]
 refine ⟨⟨v0, v1, v2, v3, v4, v5, v6, v7⟩, ⟨a6, p6, by rw [hcs]; rfl, r6⟩, ?_⟩
 unfold maxLen at m6
 refine ⟨fun y hy => ?_, fun s hs => ?_, w6, m6⟩
 ·simp only [List.mem_cons, List.not_mem_nil, or_false] at hy
  simp [Lit.wf, IntKind.min, IntKind.max, IntKind.signed, IntKind.bits] at w1 w2 w3 w4 w5
  rcases hy with rfl | rfl | rfl | rfl | rfl <;> omega
 ·simp only [List.mem_cons, List.not_mem_nil, or_false] at hs
  unfold maxLen at w0 w7
  rcases hs with rfl | rfl <;> omega
end Go.Proofs.YtagmnlmfoanelaaGreat
