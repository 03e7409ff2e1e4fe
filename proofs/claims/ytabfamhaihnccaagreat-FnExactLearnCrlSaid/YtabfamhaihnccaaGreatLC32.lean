/-
  Texts of the proof.
-/
import Derived.Test.YtabfamhaihnccaaGreatLC31
set_option linter.unusedVariables false
set_option linter.unusedSimpArgs false
set_option maxRecDepth 100000
set_option maxHeartbeats 25600000
namespace Go.Proofs.YtabfamhaihnccaaGreat
open Go.RowKit Go.ChangeShapes
structure Kt where
 ask : ByteArray
 rep : ByteArray
 til : Int
def ktV (a : Kt) : Value := .agg #[zG a.ask, zG a.rep, zI a.til]
def ktKd : Kd Kt where
 T := 133
 K := 3
 Own := fun _ _ v a => v = ktV a
 At := fun _ v a => v = ktV a
 fp := fun _ => []
 pos := by decide
 size := fun h => by
  subst h;refine ⟨rfl, fun x hx => ?_⟩;change x ∈ [_, _, _] at hx;simp only [List.mem_cons, List.not_mem_nil, or_false] at hx
  rcases hx with rfl | rfl | rfl
  all_goals rfl
 same := fun h _ => h
 lt := fun _ g hg => by cases hg
 base := fun h _ => h
 nodup := fun _ => List.nodup_nil
 own_at := fun h => h
 below := fun h _ => h
def zeKt : Kt := ⟨⟨#[]⟩, ⟨#[]⟩, 0⟩
theorem infoKt : (Tryz.prog.info? 133).map (fun i => (i.zero, i.size, i.bytes)) = some (some (.agg #[zG ⟨#[]⟩, zG ⟨#[]⟩, zI 0]), 3, 40) := by kernel_rfl
def wtKt (a : Kt) : Nat := a.ask.size + a.rep.size
def wtKtS (l : List Kt) : Nat := l.length + (l.map wtKt).sum
theorem wtKtS_mem : ∀ {l : List Kt} {c : Kt}, c ∈ l -> wtKt c <= wtKtS l
 | c :: l, d, h => by
  rcases List.mem_cons.1 h with rfl | h
  ·unfold wtKtS; simp; omega
  ·have := wtKtS_mem h
   unfold wtKtS at this |-;simp;omega
def WdKt (a : Kt) : Prop := Wd [a.til] /\ a.ask.size <= 9223372036854775807 /\ a.rep.size <= 9223372036854775807
def szKt (a : Kt) (left : Int) : Int := if (wtKt a : Int) <= left then left - (wtKt a : Int) else -1
def ArgKtS (B : Nat) (w : World) (v : Value) (l : List Kt) : Prop := RowS 3 B (fun v a => v = ktV a) w v l
theorem ArgKtS.below {B : Nat} {w w' : World} {v : Value} {l : List Kt} (h : ArgKtS B w v l) (hb : Below B w w') {B' : Nat} (hB : B <= B') : ArgKtS B' w' v l := RowS.below h hb (fun _ _ hP => hP) hB
theorem fillKt_set {l : List Kt} {k : Nat} (hk : k < l.length) : (l.take k ++ List.replicate (l.length - k) zeKt).set k l[k] = l.take (k + 1) ++ List.replicate (l.length - (k + 1)) zeKt := by
 have e : (l.take k).length = k := by rw [List.length_take]; omega
 rw [List.set_append_right _ _ (by omega), e, Nat.sub_self, show l.length - k = (l.length - (k + 1)) + 1 by omega, List.replicate_succ, List.set_cons_zero, List.take_succ_eq_append_getElem hk, List.append_assoc];rfl
theorem fillKt_len {l : List Kt} {k : Nat} (hk : k <= l.length) : (l.take k ++ List.replicate (l.length - k) zeKt).length = l.length := by
 rw [List.length_append, List.length_take, List.length_replicate];omega
theorem OwnS.cellsKt {w : World} {base g n cap : Nat} {l : List Kt} {fp : List Nat} (h : OwnS ktKd w base (zS (some ⟨g, 0, none⟩) n cap) l fp) (hn : n = l.length) {j : Nat} (hj : j < l.length) :
  (∀ i x, (ktV l[j]).cells[i]? = some x -> w.cell? ⟨g, j * 3 + i, none⟩ = some x) /\ ∀ i, w.frozen? ⟨g, i, none⟩ = false := by
 subst hn;obtain ⟨g', o, u, h1, _, hP, hs, hc⟩ := h.at.get hj;injection h1 with h1
 injection h1 with h1 h2
 subst h1 h2;have hP' : u = ktV l[j] := hP;subst hP';obtain ⟨vs, hl, hr, he, rfl, hnd⟩ := h;refine ⟨fun i x hx => ?_, fun i => World.ownsRow.frozenAt hr i⟩;have := hc i x hx;rw [Nat.zero_add] at this;exact this
theorem toKept_any (a : Kt) (w : World) : Calls Tryz.prog 83 #[.agg #[zG a.ask, zG a.rep, zI a.til]] w fun e w' => e = .returned (.agg #[zG a.ask, zG a.rep, zI a.til]) /\ zW w w' := by
 go_enter Tryz.func83, Tryz.ntmps83;go_wp2_with fail;refine bodyPost_ret (v := .agg #[zG a.ask, zG a.rep, zI a.til]) (by simp [results, Tryz.results83, go_sem]) rfl ⟨rfl, ?_⟩;exact (((Below.refl _ _).alloc (Nat.le_refl _) _).alloc (by rw [size_alloc]; omega) _).alloc (by rw [size_alloc, size_alloc]; omega) _
theorem toKeptS_any (v : Value) (l : List Kt) (B : Nat) (w : World) (hl : wtKtS l <= 1048576) (hB : B <= w.heap.size) (ha : ArgKtS B w v l) :
  Calls Tryz.prog 34 #[v] w fun e w' => ∃ u fp, e = .returned u /\ OwnS ktKd w' w.heap.size u l fp /\ zW w w' := by
 obtain ⟨i0, hi, hz0, hz1, hz2⟩ := info_parts infoKt;obtain ⟨a0, cap, hv⟩ := ha.shape;obtain ⟨len, hlen⟩ := zE (l.length);rw [hlen] at hv;subst hv;have hl20 : len <= 1048576 := by unfold wtKtS at hl; omega
 have HA : Hid (ArgKtS B w (zS a0 len cap) l /\ l.length = len) := ⟨ha, hlen⟩;clear ha hlen hl;go_enter Tryz.func34, Tryz.ntmps34;go_wp2_with (at_make; refine wpList_make_full _ rfl _ _ 39 rfl w.heap.size 133 i0 (.agg #[zG ⟨#[]⟩, zG ⟨#[]⟩, zI 0]) 3 Tryz.underlying39 hi hz0 hz1 .i64 .i64 _ _ len rfl rfl ?m0 ?m1 ?m2 ?m3 ?m4 ?_)
 case m0 => simp
 case m1 => simp
 case m2 => rw [hz2]; omega
 case m3 => unfold maxLen; omega
 case m4 => exact Nat.le_refl _
 intro w1 hown hgrow;have HO : Hid (∃ fp, OwnS ktKd w1 w.heap.size (zS (some ⟨w.heap.size, 0, none⟩) len len) (l.take 0 ++ List.replicate (l.length - 0) zeKt) fp /\ zW w w1) := by
  refine ⟨[w.heap.size], ?_, (Below.refl _ _).grown hgrow (Nat.le_refl _) (fun j hj => by cases hj)⟩;rw [List.take_zero, List.nil_append, Nat.sub_zero, HA.2];exact OwnS.zeros ktKd (c := zeKt) (z := ktV zeKt) rfl rfl (by have h2 : (madeCells (ktV zeKt).cells (len * 3)).toList = cellsV (List.replicate len (ktV zeKt)) := made_cellsV (ktV zeKt) len (by decide); rw [<- h2]; exact hown)
 clear hown hgrow;go_wp2_with fail
 go_loopw [4] (fun iv wr => ∃ k : Nat, k <= len /\ iv = zI k /\ Hid (∃ fp, OwnS ktKd wr w.heap.size (zS (some ⟨w.heap.size, 0, none⟩) len len) (l.take k ++ List.replicate (l.length - k) zeKt) fp /\ zW w wr)) (fun iv _ => len - (intOf iv).toNat)
 case atStart => exact ⟨0, Nat.zero_le _, rfl, HO.out⟩
 case round =>
  obtain ⟨k, hk, rfl, H⟩ := hrel;clear HO;by_cases hkn : k < len
  ·have hkl : k < l.length := by rw [HA.2]; exact hkn
   obtain ⟨b, off, u, hao, hbB, hu, hus, hcell⟩ := HA.1.get hkl;subst hao;obtain ⟨fp, hO, hBl⟩ := H.out;have hcb := fun i x (hx : u.cells[i]? = some x) => (hBl.cell (p := ⟨b, off + k * 3 + i, none⟩) (by show b < w.heap.size; omega)).trans (hcell i x hx)
   obtain ⟨c, hc⟩ := zE (l[k]);rw [hc] at hu;subst hu;have u0 : wr.cell? ⟨b, off + k * 3, none⟩ = some (zG c.ask) := hcb 0 _ rfl;have u1 : wr.cell? ⟨b, off + k * 3 + 1, none⟩ = some (zG c.rep) := hcb 1 _ rfl;have u2 : wr.cell? ⟨b, off + k * 3 + 2, none⟩ = some (zI c.til) := hcb 2 _ rfl;have HN : Hid (∀ (w3 : World), zW wr w3 -> ∃ fp, OwnS ktKd (((w3.setCell ⟨w.heap.size, k * 3, none⟩ (zG c.ask)).setCell ⟨w.heap.size, k * 3 + 1, none⟩ (zG c.rep)).setCell ⟨w.heap.size, k * 3 + 2, none⟩ (zI c.til)) w.heap.size (zS (some ⟨w.heap.size, 0, none⟩) len len) (l.take (k + 1) ++ List.replicate (l.length - (k + 1)) zeKt) fp /\ zW w (((w3.setCell ⟨w.heap.size, k * 3, none⟩ (zG c.ask)).setCell ⟨w.heap.size, k * 3 + 1, none⟩ (zG c.rep)).setCell ⟨w.heap.size, k * 3 + 2, none⟩ (zI c.til))) := fun w3 hb => by
    have h2 := (hO.stays hb).put (k := ktKd) (j := k) (u := ktV c) (c := c) (by rw [fillKt_len (Nat.le_of_lt hkl)]; exact HA.2.symm) (by rw [fillKt_len (Nat.le_of_lt hkl)]; exact hkl) rfl (fun y hy hm => by cases hy);obtain ⟨fp', h2, _⟩ := h2;rw [<- hc, fillKt_set hkl] at h2;rw [<- hc];refine ⟨fp', h2, ?_⟩
    iterate 3 refine Below.setCell ?_ (by show w.heap.size <= w.heap.size; exact Nat.le_refl _) _
    exact hBl.trans (hb.mono hBl.size)
   have HC : Hid (∀ w3, zW wr w3 -> (∀ j, w3.frozen? ⟨w.heap.size, j, none⟩ = false) /\ ∃ x0 x1 x2, w3.cell? ⟨w.heap.size, k * 3, none⟩ = some x0 /\ w3.cell? ⟨w.heap.size, k * 3 + 1, none⟩ = some x1 /\ w3.cell? ⟨w.heap.size, k * 3 + 2, none⟩ = some x2) := fun w3 hb => by
    obtain ⟨hcs, hfz⟩ := (hO.stays hb).cellsKt (j := k) (by rw [fillKt_len (Nat.le_of_lt hkl)]; exact HA.2.symm) (by rw [fillKt_len (Nat.le_of_lt hkl)]; exact hkl);exact ⟨hfz, _, _, _, hcs 0 _ rfl, hcs 1 _ rfl, hcs 2 _ rfl⟩
   clear H hO hBl hcb hcell hus hbB hc hkl;have hki : (k : Int) < (len : Int) := by omega
   have hk0 : (0 : Int) <= (k : Int) := by omega
   go_wp2_with fail;refine (toKept_any c wr).mono ?_;rintro e w3 ⟨rfl, hb3⟩;obtain ⟨fz, x0, x1, x2, d0, d1, d2⟩ := HC.out w3 hb3;have HN3 : Hid _ := HN.out w3 hb3;clear HN HC hb3 u0 u1 u2;go_wp2_with fail
   go_roundw
   case rel => exact ⟨k + 1, by omega, by go_num, HN3.out⟩
   case measure => simp [intOf]; omega
  ·have hkl : k = len := by omega
   subst hkl
   go_wp2
   go_ret;obtain ⟨fp, hO, hBl⟩ := H.out;refine ⟨_, fp, rfl, ?_, hBl⟩;rw [<- HA.2, List.take_length, Nat.sub_self, List.replicate_zero, List.append_nil] at hO;rw [<- HA.2];exact hO
theorem szKept_any (a : Kt) (left : Int) (w : World) (hwd : WdKt a) (h0 : 0 <= left) (hl : left <= 1048576) : Calls Tryz.prog 73 #[.agg #[zG a.ask, zG a.rep, zI a.til], zI left] w fun e w' => e = .returned (zI (szKt a left)) /\ zW w w' := by
 obtain ⟨-, wd1, wd2⟩ := hwd;obtain ⟨R, hR⟩ := zE (szKt a left);rw [hR];have hR2 : R = if (a.ask.size : Int) + (a.rep.size : Int) <= left then left - ((a.ask.size : Int) + (a.rep.size : Int)) else -1 := by rw [<- hR]; unfold szKt wtKt; rw [Int.natCast_add]
 clear hR;have w1 : IntKind.i64.wrap (left - (a.ask.size : Int)) = left - (a.ask.size : Int) := by rw [IntKind.wrap_i64]; omega
 by_cases g1 : left - (a.ask.size : Int) < 0
 ·have HR : Hid (R = -1) := by show R = -1; rw [hR2, if_neg (by omega)]
  clear hR2;go_enter Tryz.func73, Tryz.ntmps73
  go_wp2
  go_ret;exact ⟨by rw [HR.out]; rfl, (Below.refl _ _).alloc (Nat.le_refl _) _⟩
 have w2 : IntKind.i64.wrap (left - (a.ask.size : Int) - (a.rep.size : Int)) = left - (a.ask.size : Int) - (a.rep.size : Int) := by rw [IntKind.wrap_i64]; omega
 by_cases g2 : left - (a.ask.size : Int) - (a.rep.size : Int) < 0
 ·have HR : Hid (R = -1) := by show R = -1; rw [hR2, if_neg (by omega)]
  clear hR2;go_enter Tryz.func73, Tryz.ntmps73
  go_wp2
  go_ret;exact ⟨by rw [HR.out]; rfl, (Below.refl _ _).alloc (Nat.le_refl _) _⟩
 ·have HR : Hid (R = left - (a.ask.size : Int) - (a.rep.size : Int)) := by show R = _; rw [hR2, if_pos (by omega)]; omega
  clear hR2;go_enter Tryz.func73, Tryz.ntmps73
  go_wp2
  go_ret;exact ⟨by rw [HR.out]; rfl, (Below.refl _ _).alloc (Nat.le_refl _) _⟩
theorem szKeptS_any (v : Value) (l : List Kt) (left : Int) (w : World) (hm : l.length <= 9223372036854775807) (hwd : ∀ c ∈ l, WdKt c) (h0 : 0 <= left) (hl : left <= 1048576) (ha : ArgKtS w.heap.size w v l) :
  Calls Tryz.prog 27 #[v, zI left] w fun e w' => e = .returned (zI (if (wtKtS l : Int) <= left then left - (wtKtS l : Int) else -1)) /\ zW w w' := by
 obtain ⟨a0, cap, hv⟩ := ha.shape;obtain ⟨len, hlen⟩ := zE (l.length);rw [hlen] at hv hm;subst hv;obtain ⟨R, hR⟩ : ∃ r : Int, (if (wtKtS l : Int) <= left then left - (wtKtS l : Int) else -1) = r := ⟨_, rfl⟩;rw [hR];have HA : Hid (ArgKtS w.heap.size w (zS a0 len cap) l /\ l.length = len /\ (∀ c ∈ l, WdKt c) /\ (if (wtKtS l : Int) <= left then left - (wtKtS l : Int) else -1) = R) := ⟨ha, hlen, hwd, hR⟩;clear ha hlen hwd hR;have w1 : IntKind.i64.wrap (left - (len : Int)) = left - (len : Int) := by rw [IntKind.wrap_i64]; omega
 by_cases hneg : left - (len : Int) < 0
 ·have HRR : Hid (R = -1) := by
   show R = -1;rw [<- HA.2.2.2, if_neg];have h1 := HA.2.1;unfold wtKtS;omega
  go_enter Tryz.func27, Tryz.ntmps27
  go_wp2
  go_ret;exact ⟨by rw [HRR.out]; rfl, Below.refl _ _⟩
 ·have hll : len <= 1048576 := by omega
  go_enter Tryz.func27, Tryz.ntmps27;go_wp2_with fail
  go_loopw [1, 5] (fun lv iv wr => ∃ k : Nat, ∃ z : Int, k <= len /\ iv = zI k /\ lv = zI z /\ 0 <= z /\ z <= 1048576 /\ Hid (z = left - (len : Int) - ((((l.map wtKt).take k).sum : Nat) : Int) /\ zW w wr)) (fun _ iv _ => len - (intOf iv).toNat)
  case atStart => exact ⟨0, _, Nat.zero_le _, rfl, rfl, by omega, by omega, by simp, Below.refl _ _⟩
  case round =>
   obtain ⟨k, z, hk, rfl, rfl, hz0, hz1, H⟩ := hrel;by_cases hkn : k < len
   ·have hkl : k < l.length := by rw [HA.2.1]; exact hkn
    obtain ⟨b, off, u, hao, hbB, hu, hus, hcell⟩ := HA.1.get hkl;subst hao;have hBl := H.2;have hcb := fun i x (hx : u.cells[i]? = some x) => (hBl.cell (p := ⟨b, off + k * 3 + i, none⟩) hbB).trans (hcell i x hx)
    obtain ⟨c, hc⟩ := zE (l[k]);rw [hc] at hu;have HR := szKept_any c z wr (by rw [<- hc]; exact HA.2.2.1 _ (List.getElem_mem hkl)) hz0 hz1;subst hu;have u0 : wr.cell? ⟨b, off + k * 3, none⟩ = some (zG c.ask) := hcb 0 _ rfl;have u1 : wr.cell? ⟨b, off + k * 3 + 1, none⟩ = some (zG c.rep) := hcb 1 _ rfl;have u2 : wr.cell? ⟨b, off + k * 3 + 2, none⟩ = some (zI c.til) := hcb 2 _ rfl;have HS : Hid ((((l.map wtKt).take (k + 1)).sum = ((l.map wtKt).take k).sum + wtKt c) /\ ((l.map wtKt).take (k + 1)).sum <= (l.map wtKt).sum /\ wtKtS l = len + (l.map wtKt).sum) := by
     refine ⟨?_, sum_take_le _ _, by unfold wtKtS; rw [HA.2.1]⟩;rw [sum_take (by rw [List.length_map]; exact hkl), List.getElem_map, hc]
    have hki : (k : Int) < (len : Int) := by omega
    have hk0 : (0 : Int) <= (k : Int) := by omega
    clear hcb hcell hus hbB hc hkl hBl;obtain ⟨zz, hzz⟩ := zE (szKt c z);rw [hzz] at HR;by_cases hfit : (wtKt c : Int) <= z
    ·have hzv : zz = z - (wtKt c : Int) := by rw [<- hzz]; unfold szKt; rw [if_pos hfit]
     have hz0' : ¬ zz < 0 := by omega
     have HZ : Hid (zz = left - (len : Int) - ((((l.map wtKt).take (k + 1)).sum : Nat) : Int) /\ 0 <= zz /\ zz <= 1048576) := ⟨by rw [HS.1, hzv, H.1]; omega, by omega, by omega⟩;clear hzz hzv HS hfit;go_wp2_with fail;refine HR.mono ?_;rintro e w3 ⟨rfl, hb3⟩;clear u0 u1 u2 HR;have HB3 : Hid (zW w w3) := H.2.trans (hb3.mono H.2.size);clear H hb3;go_wp2_with fail
     go_roundw
     case rel => exact ⟨k + 1, zz, by omega, by go_num, rfl, HZ.2.1, HZ.2.2, HZ.1, HB3.out⟩
     case measure => simp [intOf]; omega
    ·have hzv : zz = -1 := by rw [<- hzz]; unfold szKt; rw [if_neg hfit]
     subst hzv;have HRR : Hid (R = -1) := by
      show R = -1;rw [<- HA.2.2.2, if_neg];have h1 := HS.out;have h2 := H.1;omega
     clear HS hfit hzz;go_wp2_with fail;refine HR.mono ?_;rintro e w3 ⟨rfl, hb3⟩;clear u0 u1 u2 HR;have HB3 : Hid (zW w w3) := H.2.trans (hb3.mono H.2.size);clear H hb3
     go_wp2
     go_ret;exact ⟨by rw [HRR.out]; rfl, HB3.out⟩
   ·have hkl : k = len := by omega
    subst hkl;have HRR : Hid (R = z) := by
     show R = z;have h1 := H.1;rw [List.take_of_length_le (by rw [List.length_map, HA.2.1]; exact Nat.le_refl _)] at h1;have h2 := HA.2.1;rw [<- HA.2.2.2, if_pos (by unfold wtKtS; omega)];unfold wtKtS;omega
    go_wp2
    go_ret;exact ⟨by rw [HRR.out]; rfl, H.2⟩
theorem eqKept_same (a : Kt) (w : World) : Calls Tryz.prog 96 #[.agg #[zG a.ask, zG a.rep, zI a.til], .agg #[zG a.ask, zG a.rep, zI a.til]] w fun e w' => e = .returned (.bool true) /\ zW w w' := by
 go_enter Tryz.func96, Tryz.ntmps96
 go_wp2
 go_ret;exact ⟨rfl, ((Below.refl _ _).alloc (Nat.le_refl _) _).alloc (by rw [size_alloc]; omega) _⟩
theorem eqKeptS_same (l : List Kt) (a b : Value) (w : World) (hl : l.length <= 1000000000) (ha : AtS ktKd w a l) (hb : AtS ktKd w b l) :
  Calls Tryz.prog 40 #[a, b] w fun e w' => e = .returned (.bool true) /\ zW w w' := by
 obtain ⟨ax, cx, hv⟩ := ha.shape;obtain ⟨ay, cy, hu⟩ := hb.shape;obtain ⟨len, hlen⟩ := zE (l.length);rw [hlen] at hv hu;subst hv hu;have hl20 : len <= 1000000000 := by omega
 have HX : Hid (AtS ktKd w (zS ax len cx) l /\ AtS ktKd w (zS ay len cy) l /\ l.length = len /\ l.length <= 1000000000) := ⟨ha, hb, hlen, hl⟩;clear ha hb hlen hl;go_enter Tryz.func40, Tryz.ntmps40;go_wp2_with fail
 go_loopw [5] (fun iv wr => ∃ k : Nat, k <= len /\ iv = zI k /\ Hid (zW w wr)) (fun iv _ => len - (intOf iv).toNat)
 case atStart => exact ⟨0, Nat.zero_le _, rfl, Below.refl _ _⟩
 case round =>
  obtain ⟨k, hk, rfl, HB⟩ := hrel;by_cases hkn : k < len
  ·have hkl : k < l.length := by rw [HX.2.2.1]; exact hkn
   obtain ⟨g1, o1, u1, hax, hg1, hP1, hs1, hc1⟩ := HX.1.get hkl;obtain ⟨g2, o2, u2, hay, hg2, hP2, hs2, hc2⟩ := HX.2.1.get hkl;subst hax hay;obtain ⟨c, hc⟩ := zE (l[k]);have hBd : zW w wr.drew := HB.out.drew;have HR := eqKept_same c wr.drew;rw [hc] at hP1 hP2;have hu1 : u1 = ktV c := hP1;have hu2 : u2 = ktV c := hP2;subst hu1 hu2;have HS : Hid (∀ W, zW w W -> (W.cell? ⟨g1, o1 + k * 3, none⟩ = some (zG c.ask) /\ W.cell? ⟨g1, o1 + k * 3 + 1, none⟩ = some (zG c.rep) /\ W.cell? ⟨g1, o1 + k * 3 + 2, none⟩ = some (zI c.til)) /\ (W.cell? ⟨g2, o2 + k * 3, none⟩ = some (zG c.ask) /\ W.cell? ⟨g2, o2 + k * 3 + 1, none⟩ = some (zG c.rep) /\ W.cell? ⟨g2, o2 + k * 3 + 2, none⟩ = some (zI c.til))) := fun W hW =>
    ⟨⟨(hW.cell (p := ⟨g1, o1 + k * 3 + 0, none⟩) hg1).trans (hc1 0 _ rfl), (hW.cell (p := ⟨g1, o1 + k * 3 + 1, none⟩) hg1).trans (hc1 1 _ rfl), (hW.cell (p := ⟨g1, o1 + k * 3 + 2, none⟩) hg1).trans (hc1 2 _ rfl)⟩, ⟨(hW.cell (p := ⟨g2, o2 + k * 3 + 0, none⟩) hg2).trans (hc2 0 _ rfl), (hW.cell (p := ⟨g2, o2 + k * 3 + 1, none⟩) hg2).trans (hc2 1 _ rfl), (hW.cell (p := ⟨g2, o2 + k * 3 + 2, none⟩) hg2).trans (hc2 2 _ rfl)⟩⟩
   have hki : (k : Int) < (len : Int) := by omega
   have hk0 : (0 : Int) <= (k : Int) := by omega
   clear hc1 hc2 hP1 hP2 hs1 hs2 hg1 hg2 hc hkl;go_upto_region 6 with fail;refine wp_region_held_drew (S := fun W => zW w W) (by kernel_rfl) hBd (fun hHeld => ?_);clear hBd;have HBW : Hid (zW w wr.drew) := hHeld;refine zQ 0 17 rfl hHeld ?_;refine zQ 1 18 rfl hHeld ?_;refine zQ 2 19 rfl hHeld ?_;refine zT 3 20 ?_ rfl (by rfl) ?_ hHeld ?_;rotate_left
   ·intro W hSw
    obtain ⟨⟨e0, e1, e2⟩, -⟩ := HS.out W hSw;go_simp
    try with_reducible rfl
   refine zQ 4 21 rfl hHeld ?_;refine zQ 5 22 rfl hHeld ?_;refine zQ 6 23 rfl hHeld ?_;refine zT 7 24 ?_ rfl (by rfl) ?_ hHeld ?_;rotate_left
   ·intro W hSw
    obtain ⟨-, e0, e1, e2⟩ := HS.out W hSw;go_simp
    try with_reducible rfl
   refine zR 8 25 rfl fun K hK => ?_
   go_simp;refine HR.mono ?_;rintro e w3 ⟨rfl, hb3⟩;have HB3 : Hid (zW w w3) := HBW.trans (hb3.mono HBW.size);clear hb3 HR HBW;refine hK.out _ _ HB3.out (fun hHeld => ?_);clear hK K;refine zQ 9 26 rfl hHeld ?_;refine wpAnyH_done (by kernel_rfl) ?_ _;clear HS;go_wp2_with fail
   go_roundw
   case rel => exact ⟨k + 1, by omega, by go_num, HB3.out⟩
   case measure => simp [intOf]; omega
  ·have hkl : k = len := by omega
   subst hkl
   go_wp2
   go_ret;exact ⟨rfl, HB.out⟩
theorem pickKt {n : Nat} {P : Nat -> Kt -> Prop} (h : ∀ j, j < n -> ∃ y, P j y) : ∃ l : List Kt, ∃ hl : l.length = n, ∀ j (hj : j < l.length), P j l[j] := by
 induction n with
 | zero => exact ⟨[], rfl, fun j hj => absurd hj (Nat.not_lt_zero _)⟩
 | succ n ih =>
  obtain ⟨l, hl, hP⟩ := ih fun j hj => h j (by omega)
  obtain ⟨y, hy⟩ := h n (by omega);refine ⟨l ++ [y], by simp [hl], fun j hj => ?_⟩;by_cases e : j < l.length
  ·rw [List.getElem_append_left e]
   exact hP j e
  ·have e2 : j = l.length := by simp at hj; omega
   subst e2;simpa [hl] using hy
theorem cellsKept : Tryz.prog.cellsOf 117 = 3 := by kernel_rfl
theorem kt_of_trod {H : Type} {enc : TypeId × Value -> H} {W : World} {fuel : Nat} {cs : List Value} {x : DataW H × List MemPlace} (h : DataW.trod enc Tryz.prog W 0 (fun _ => true) true fuel 117 cs = some x) :
  ∃ a : Kt, Value.agg cs.toArray = ktV a /\ WdKt a := by
 obtain ⟨xs, m, rfl, hx, hl, hxl, hall⟩ := DataW.trod_struct Tryz.underlying117 h;rw [cellsKept] at hl;obtain ⟨x0, x1, x2, rfl⟩ : ∃ x0 x1 x2, xs = [x0, x1, x2] := by
  match xs, hxl with
  | [x0, x1, x2], _ => exact ⟨x0, x1, x2, rfl⟩
 have f0 := hall 0 _ rfl;change DataW.trod _ _ _ _ _ _ _ 9 ((cs.drop 0).take (Tryz.prog.cellsOf 9)) = some x0 at f0;rw [cS] at f0;obtain ⟨v0, h0, _, w0⟩ := DataW.trod_string Tryz.underlying9 f0;have g0 := take_one h0;have f1 := hall 1 _ rfl;change DataW.trod _ _ _ _ _ _ _ 9 ((cs.drop 1).take (Tryz.prog.cellsOf 9)) = some x1 at f1;rw [cS] at f1;obtain ⟨v1, h1, _, w1⟩ := DataW.trod_string Tryz.underlying9 f1;have g1 := take_one h1;have f2 := hall 2 _ rfl;change DataW.trod _ _ _ _ _ _ _ 3 ((cs.drop 2).take (Tryz.prog.cellsOf 3)) = some x2 at f2;rw [cI] at f2;obtain ⟨v2, h2, _, w2⟩ := DataW.trod_int Tryz.underlying3 f2;have g2 := take_one h2;have hcs : cs = [zG v0, zG v1, zI v2] := by
  match cs, hl with
  | [y0, y1, y2], _ =>
   simp at g0 g1 g2;rw [g0, g1, g2]
 refine ⟨⟨v0, v1, v2⟩, by rw [hcs]; rfl, fun y hy => ?_, ?_, ?_⟩
 ·simp only [List.mem_cons, List.not_mem_nil, or_false] at hy
  simp [Lit.wf, IntKind.min, IntKind.max, IntKind.signed, IntKind.bits] at w2;subst hy;omega
 ·unfold maxLen at w0; exact w0
 ·unfold maxLen at w1; exact w1
theorem kts_in {H : Type} {enc : TypeId × Value -> H} {W : World} {fuel : Nat} {cs : List Value} {x : DataW H × List MemPlace} (h : DataW.trod enc Tryz.prog W 0 (fun _ => true) true fuel 28 cs = some x) :
  ∃ ao cap, ∃ l : List Kt, cs = [zS ao l.length cap] /\ l.length <= maxLen /\ (∀ c ∈ l, WdKt c) /\ ArgKtS W.heap.size W (zS ao l.length cap) l := by
 rcases DataW.trod_slice Tryz.underlying28 h with ⟨h0, _⟩ | ⟨a, len, cap, elems, rest, q, hq, hc, _, hb, hlc, hcm, hel, helem, _, _⟩
 ·exact ⟨none, 0, [], h0, Nat.zero_le _, fun x hx => by simp at hx, none, 0, rfl, fun j hj => by simp at hj⟩
 ·have each : ∀ j, j < len -> ∃ c : Kt, ∃ u : Value, u = ktV c /\ WdKt c /\ u.cells.size = 3 /\ ∀ i x, u.cells[i]? = some x -> W.cell? (a.add (j * 3 + i)) = some x := by
   intro j hj;have he := helem j hj;rw [cellsKept] at he;obtain ⟨z, hz⟩ : ∃ z, elems[j]? = some z := ⟨elems[j]'(by omega), by simp [show j < elems.length by omega]⟩;rw [hz, Option.bind_eq_some_iff] at he;obtain ⟨cs2, hcs2, htr⟩ := he;obtain ⟨c, hv, hwd⟩ := kt_of_trod htr;have hsome := World.cells?_some hcs2;refine ⟨c, ktV c, rfl, hwd, rfl, fun i x hx => ?_⟩;have hcl : (ktV c).cells = cs2.toArray := by rw [<- hv]; rfl
   rw [hcl] at hx;have hi : i < cs2.length := by have := (Array.getElem?_eq_some_iff.1 hx).1; simpa using this
   have h3 := hsome.2.2 i (by omega);rw [Addr.add_add] at h3;rw [h3];simpa using hx
  obtain ⟨l, hl, hP⟩ := pickKt each;refine ⟨some a, cap, l, by rw [hl]; exact hc, by rw [hl]; exact Nat.le_trans hlc hcm, fun y hy => ?_, some a, cap, rfl, fun j hj => ?_⟩
  ·obtain ⟨j, hj, rfl⟩ := List.getElem_of_mem hy
   obtain ⟨u, _, h2, _⟩ := hP j hj;exact h2
  ·obtain ⟨u, h1, h2, h3, h4⟩ := hP j hj
   obtain ⟨x0, hx0⟩ : ∃ x, u.cells[0]? = some x := ⟨u.cells[0]'(by omega), Array.getElem?_eq_getElem _⟩;have c0 := h4 0 x0 hx0;obtain ⟨u', _, _, g3, g4⟩ := hP 0 (by omega);obtain ⟨y0, hy0⟩ : ∃ x, u'.cells[0]? = some x := ⟨u'.cells[0]'(by omega), Array.getElem?_eq_getElem _⟩;have d0 := g4 0 y0 hy0;obtain ⟨b, off, spot⟩ := a;have hspot : spot = none := by simpa [Addr.add] using World.cell?_spot d0
   subst hspot;rw [Addr.add_lit] at c0;refine ⟨b, off, u, rfl, lt_of_cell c0, h1, h3, fun i x hx => ?_⟩;have := h4 i x hx;rw [Addr.add_lit, <- Nat.add_assoc] at this;exact this
theorem OwnO.nodup {w : World} {b : Nat} {v : Value} {s : So} {fp : List Nat} (h : OwnO w b v s fp) : fp.Nodup := by
 obtain ⟨_, _, _, _, _, _, _, _, _, _, _, hn⟩ := h;exact hn
structure Se where
 store : So
 pl : List Pn
 house : Int
 now : Int
 fresh : Int
 kept : List Kt
abbrev zSe (c : Se) (p e d f g : Value) : Array Value := #[p, e, d, f, .int .i64 c.house, .int .i64 c.now, .int .i64 c.fresh, g]
def SeAt (w : World) (v : Value) (s : Se) : Prop := ∃ v1 v2 v3 v4 v5, v = .agg (zSe s v1 v2 v3 v4 v5) /\ SoAt w (.agg #[v1, v2, v3]) s.store /\ AtS pnKd w (v4) s.pl /\ AtS ktKd w (v5) s.kept
theorem SeAt.shape {w : World} {v : Value} {s : Se} (h : SeAt w v s) : ∃ a1 c1 a2 c2 a3 c3 a4 c4 a5 c5, v = .agg (zSe s (zS a1 s.store.certs.length c1) (zS a2 s.store.crls.length c2) (zS a3 s.store.ancs.length c3) (zS a4 s.pl.length c4) (zS a5 s.kept.length c5)) := by
 obtain ⟨v1, v2, v3, v4, v5, hv, h1, h2, h3⟩ := h;obtain ⟨a1, c1, a2, c2, a3, c3, he⟩ := h1.shape;simp only [Value.agg.injEq, Array.mk.injEq, List.cons.injEq, and_true] at he;obtain ⟨rfl, rfl, rfl⟩ := he;obtain ⟨a4, c4, rfl⟩ := h2.shape;obtain ⟨a5, c5, rfl⟩ := h3.shape;exact ⟨a1, c1, a2, c2, a3, c3, a4, c4, a5, c5, hv⟩
theorem SeAt.rows {w : World} {v1 v2 v3 v4 v5 : Value} {s : Se} (h : SeAt w (.agg (zSe s v1 v2 v3 v4 v5)) s) : SoAt w (.agg #[v1, v2, v3]) s.store /\ AtS pnKd w (v4) s.pl /\ AtS ktKd w (v5) s.kept := by
 obtain ⟨u1, u2, u3, u4, u5, hv, h1⟩ := h;simp only [Value.agg.injEq, Array.mk.injEq, List.cons.injEq, and_true, true_and] at hv;obtain ⟨rfl, rfl, rfl, rfl, rfl⟩ := hv;exact h1
def OwnSe (w : World) (base : Nat) (v : Value) (s : Se) (fp : List Nat) : Prop := ∃ v1 v2 v3 v4 v5 f1 f2 f3, v = .agg (zSe s v1 v2 v3 v4 v5) /\ OwnO w base (.agg #[v1, v2, v3]) s.store f1 /\ OwnS pnKd w base (v4) s.pl f2 /\ OwnS ktKd w base (v5) s.kept f3 /\ fp = f1 ++ (f2 ++ (f3)) /\ fp.Nodup
theorem OwnSe.at {w : World} {base : Nat} {v : Value} {s : Se} {fp : List Nat} (h : OwnSe w base v s fp) : SeAt w v s := by
 obtain ⟨v1, v2, v3, v4, v5, f1, f2, f3, hv, h1, h2, h3, _, _⟩ := h;exact ⟨v1, v2, v3, v4, v5, hv, h1.at, h2.at, h3.at⟩
theorem OwnSe.same {w w' : World} {base : Nat} {v : Value} {s : Se} {fp : List Nat} (h : OwnSe w base v s fp) (hs : ∀ b ∈ fp, w'.heap[b]? = w.heap[b]?) : OwnSe w' base v s fp := by
 obtain ⟨v1, v2, v3, v4, v5, f1, f2, f3, hv, h1, h2, h3, rfl, hn⟩ := h;exact ⟨v1, v2, v3, v4, v5, f1, f2, f3, hv, h1.same (fun b hb => hs b (List.mem_append_left _ hb)), h2.same (fun b hb => hs b (List.mem_append_right _ (List.mem_append_left _ hb))), h3.same (fun b hb => hs b (List.mem_append_right _ (List.mem_append_right _ hb))), rfl, hn⟩
theorem OwnSe.lt {w : World} {base : Nat} {v : Value} {s : Se} {fp : List Nat} (h : OwnSe w base v s fp) : ∀ b ∈ fp, base <= b /\ b < w.heap.size := by
 obtain ⟨v1, v2, v3, v4, v5, f1, f2, f3, hv, h1, h2, h3, rfl, hn⟩ := h;intro b hb
 rcases List.mem_append.1 hb with hb | hb
 ·exact h1.lt b hb
 rcases List.mem_append.1 hb with hb | hb
 ·exact h2.lt b hb
 exact h3.lt b hb
theorem OwnSe.stays {w w' : World} {base : Nat} {v : Value} {s : Se} {fp : List Nat} (h : OwnSe w base v s fp) (hb : zW w w') : OwnSe w' base v s fp := h.same fun b hm => hb.block b (h.lt b hm).2
theorem OwnSe.out {w w' : World} {base : Nat} {v : Value} {s : Se} {fp fq : List Nat} (h : OwnSe w base v s fp) (ho : Out fq w w') (hn : ∀ b ∈ fp, b ∉ fq) : OwnSe w' base v s fp := h.same fun b hm => ho.2.2.2.2 b (h.lt b hm).2 (hn b hm)
theorem OwnSe.base {w : World} {b b' : Nat} {v : Value} {s : Se} {fp : List Nat} (h : OwnSe w b v s fp) (hb : b' <= b) : OwnSe w b' v s fp := by
 obtain ⟨v1, v2, v3, v4, v5, f1, f2, f3, hv, h1, h2, h3, rfl, hn⟩ := h;exact ⟨v1, v2, v3, v4, v5, f1, f2, f3, hv, h1.base hb, h2.base hb, h3.base hb, rfl, hn⟩
def ArgSe (B : Nat) (w : World) (v : Value) (s : Se) : Prop := ∃ a1 c1 a2 c2 a3 c3 a4 c4 a5 c5, v = .agg (zSe s (zS a1 s.store.certs.length c1) (zS a2 s.store.crls.length c2) (zS a3 s.store.ancs.length c3) (zS a4 s.pl.length c4) (zS a5 s.kept.length c5)) /\ ArgO B w (.agg #[zS a1 s.store.certs.length c1, zS a2 s.store.crls.length c2, zS a3 s.store.ancs.length c3]) s.store /\ ArgPS B w (zS a4 s.pl.length c4) s.pl /\ ArgKtS B w (zS a5 s.kept.length c5) s.kept
theorem ArgSe.below {B : Nat} {w w' : World} {v : Value} {s : Se} (h : ArgSe B w v s) (hb : Below B w w') {B' : Nat} (hB : B <= B') : ArgSe B' w' v s := by
 obtain ⟨a1, c1, a2, c2, a3, c3, a4, c4, a5, c5, hv, h1, h2, h3⟩ := h;exact ⟨a1, c1, a2, c2, a3, c3, a4, c4, a5, c5, hv, h1.below hb hB, h2.below hb hB, h3.below hb hB⟩
theorem ArgSe.shape {B : Nat} {w : World} {v : Value} {s : Se} (h : ArgSe B w v s) : ∃ a1 c1 a2 c2 a3 c3 a4 c4 a5 c5, v = .agg (zSe s (zS a1 s.store.certs.length c1) (zS a2 s.store.crls.length c2) (zS a3 s.store.ancs.length c3) (zS a4 s.pl.length c4) (zS a5 s.kept.length c5)) := by
 obtain ⟨a1, c1, a2, c2, a3, c3, a4, c4, a5, c5, hv, _⟩ := h;exact ⟨a1, c1, a2, c2, a3, c3, a4, c4, a5, c5, hv⟩
def wtSe (s : Se) : Nat := wtO s.store + wtPS s.pl + wtKtS s.kept
def WdSe (s : Se) : Prop := Wd [s.house, s.now, s.fresh] /\ (WdO s.store) /\ ((∀ c ∈ s.pl, WdPn c) /\ s.pl.length <= 9223372036854775807) /\ ((∀ c ∈ s.kept, WdKt c) /\ s.kept.length <= 9223372036854775807)
def szSe (s : Se) (left : Int) : Int := if (wtSe s : Int) <= left then left - (wtSe s : Int) else -1
theorem cellsServer : Tryz.prog.cellsOf 30 = 8 := by kernel_rfl
theorem cellsServer1 : Tryz.prog.cellsOf 26 = 3 := by kernel_rfl
theorem cellsServer2 : Tryz.prog.cellsOf 27 = 1 := by kernel_rfl
theorem cellsServer3 : Tryz.prog.cellsOf 28 = 1 := by kernel_rfl
theorem server_of_trod {H : Type} {enc : TypeId × Value -> H} {W : World} {fuel : Nat} {cs : List Value} {x : DataW H × List MemPlace} (h : DataW.trod enc Tryz.prog W 0 (fun _ => true) true fuel 30 cs = some x) :
  ∃ s : Se, ArgSe W.heap.size W (.agg cs.toArray) s /\ WdSe s := by
 obtain ⟨xs, m, rfl, hx, hl, hxl, hall⟩ := DataW.trod_struct Tryz.underlying30 h;rw [cellsServer] at hl;obtain ⟨x0, x1, x2, x3, x4, x5, rfl⟩ : ∃ x0 x1 x2 x3 x4 x5, xs = [x0, x1, x2, x3, x4, x5] := by
  match xs, hxl with
  | [x0, x1, x2, x3, x4, x5], _ => exact ⟨x0, x1, x2, x3, x4, x5, rfl⟩
 have f0 := hall 0 _ rfl;change DataW.trod _ _ _ _ _ _ _ 26 ((cs.drop 0).take (Tryz.prog.cellsOf 26)) = some x0 at f0;rw [cellsServer1] at f0;obtain ⟨l0, r0, w0⟩ := store_of_trod f0;have f1 := hall 1 _ rfl;change DataW.trod _ _ _ _ _ _ _ 27 ((cs.drop 3).take (Tryz.prog.cellsOf 27)) = some x1 at f1;rw [cellsServer2] at f1;obtain ⟨a4, c4, l1, k1, m1, w1, r1⟩ := plans_in f1;have g1 := take_one k1;have f2 := hall 2 _ rfl;change DataW.trod _ _ _ _ _ _ _ 3 ((cs.drop 4).take (Tryz.prog.cellsOf 3)) = some x2 at f2;rw [cI] at f2;obtain ⟨v2, k2, _, w2⟩ := DataW.trod_int Tryz.underlying3 f2;have g2 := take_one k2;have f3 := hall 3 _ rfl;change DataW.trod _ _ _ _ _ _ _ 3 ((cs.drop 5).take (Tryz.prog.cellsOf 3)) = some x3 at f3;rw [cI] at f3;obtain ⟨v3, k3, _, w3⟩ := DataW.trod_int Tryz.underlying3 f3;have g3 := take_one k3;have f4 := hall 4 _ rfl;change DataW.trod _ _ _ _ _ _ _ 3 ((cs.drop 6).take (Tryz.prog.cellsOf 3)) = some x4 at f4;rw [cI] at f4;obtain ⟨v4, k4, _, w4⟩ := DataW.trod_int Tryz.underlying3 f4;have g4 := take_one k4;have f5 := hall 5 _ rfl;change DataW.trod _ _ _ _ _ _ _ 28 ((cs.drop 7).take (Tryz.prog.cellsOf 28)) = some x5 at f5;rw [cellsServer3] at f5;obtain ⟨a5, c5, l5, k5, m5, w5, r5⟩ := kts_in f5;have g5 := take_one k5;obtain ⟨a1, c1, a2, c2, a3, c3, e0, q0⟩ := id r0;have hcs : cs = [zS a1 l0.certs.length c1, zS a2 l0.crls.length c2, zS a3 l0.ancs.length c3, zS a4 l1.length c4, zI v2, zI v3, zI v4, zS a5 l5.length c5] := by
  match cs, hl with
  | [y0, y1, y2, y3, y4, y5, y6, y7], _ =>
   simp at e0;simp at g1 g2 g3 g4 g5;simp [e0, g1, g2, g3, g4, g5]
 rw [e0] at r0;unfold maxLen at m1 m5;refine ⟨⟨l0, l1, v2, v3, v4, l5⟩, ⟨a1, c1, a2, c2, a3, c3, a4, c4, a5, c5, by rw [hcs], r0, r1, r5⟩, fun y hy => ?_, w0, ⟨w1, m1⟩, ⟨w5, m5⟩⟩;simp only [List.mem_cons, List.not_mem_nil, or_false] at hy;simp [Lit.wf, IntKind.min, IntKind.max, IntKind.signed, IntKind.bits] at w2 w3 w4
 rcases hy with rfl | rfl | rfl <;> omega
end Go.Proofs.YtabfamhaihnccaaGreat
