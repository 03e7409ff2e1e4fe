/-
  Texts of the proof.
-/
import Derived.Deep.Cut
import Derived.Test.YtagmnlmfoanelaaGreatSK14
set_option maxRecDepth 100000
set_option maxHeartbeats 25600000
namespace Go.Proofs.YtagmnlmfoanelaaGreat
open Go.RowKit
set_option linter.unusedVariables false
set_option linter.unusedSimpArgs false
theorem toAnswerS_any (v : Value) (l : List Aw) (B : Nat) (w : World) (hl : wtAS l <= 1048576) (hB : B <= w.heap.size) (ha : ArgAS B w v l) :
  Calls Tryz.prog 82 #[v] w fun e w' => ∃ u fp, e = .returned u /\ OwnS awKd w' w.heap.size u l fp /\ Below w.heap.size w w' := by
 obtain ⟨i0, hi, hz0, hz1, hz2⟩ := info_parts infoAns
 obtain ⟨a0, cap, hv⟩ := ha.shape
 obtain ⟨len, hlen⟩ := zE (l.length)
 rw [hlen] at hv
 subst hv
 have hl20 : len <= 1048576 := by unfold wtAS at hl; omega
 have HA : Hid (ArgAS B w (.slice a0 len cap) l /\ l.length = len /\ wtAS l <= 1048576) := ⟨ha, hlen, hl⟩
 clear ha hlen hl
 go_enter Tryz.func82, Tryz.ntmps82
 go_wp2_with (at_make; refine wpList_make_full _ rfl _ _ 77 rfl w.heap.size 103 i0 (.agg #[.int .i64 0, .int .i64 0, .slice none 0 0, .slice none 0 0]) 4 Tryz.underlying77 hi hz0 hz1 .i64 .i64 _ _ len rfl rfl ?m0 ?m1 ?m2 ?m3 ?m4 ?_)
 case m0 => simp
 case m1 => simp
 case m2 => rw [hz2]; omega
 case m3 => unfold maxLen; omega
 case m4 => exact Nat.le_refl _
 intro w1 hown hgrow
 have HO : Hid (∃ fp, OwnS awKd w1 w.heap.size (.slice (some ⟨w.heap.size, 0, none⟩) len len) (l.take 0 ++ List.replicate (l.length - 0) zeAw) fp /\ Below w.heap.size w w1) := by
  refine ⟨[w.heap.size], ?_, (Below.refl _ _).grown hgrow (Nat.le_refl _) (fun j hj => by cases hj)⟩
  rw [List.take_zero, List.nil_append, Nat.sub_zero, HA.out.2.1]
  exact OwnS.zeros awKd (own_zeAw _ _) rfl (by have h2 : (madeCells zeAwV.cells (len * 4)).toList = cellsV (List.replicate len zeAwV) := made_cellsV zeAwV len (by decide); rw [<- h2]; exact hown)
 clear hown hgrow
 go_wp2_with fail
 go_loopw [4] (fun iv wr => ∃ k : Nat, k <= len /\ iv = .int .i64 k /\ Hid (∃ fp, OwnS awKd wr w.heap.size (.slice (some ⟨w.heap.size, 0, none⟩) len len) (l.take k ++ List.replicate (l.length - k) zeAw) fp /\ Below w.heap.size w wr)) (fun iv _ => len - (intOf iv).toNat)
 case atStart => exact ⟨0, Nat.zero_le _, rfl, HO.out⟩
 case round =>
  obtain ⟨k, hk, rfl, H⟩ := hrel
  clear HO
  by_cases hkn : k < len
  ·have hkl : k < l.length := by rw [HA.out.2.1]; exact hkn
   obtain ⟨b, off, u, hao, hbB, hPu, hus, hcell⟩ := HA.out.1.get hkl
   obtain ⟨ap, aq, ep, eq, hu⟩ := hPu.shape
   subst hao
   obtain ⟨fp, hO, hBl⟩ := H.out
   have HP : Hid (ArgAw w.heap.size wr u l[k]) := (hPu.mono hB).below hBl
   have hcb := fun i x (hx : u.cells[i]? = some x) => (hBl.cell (p := ⟨b, off + k * 4 + i, none⟩) (by show b < w.heap.size; omega)).trans (hcell i x hx)
   obtain ⟨c, hc⟩ := zE (l[k])
   rw [hc] at HP hu
   have HR := toAnswer_any c u w.heap.size wr (by have h1 := wtAS_mem (List.getElem_mem hkl); rw [hc] at h1; exact wtAw_lens (Nat.le_trans h1 HA.out.2.2)) hBl.size HP.out
   subst hu
   have u0 : wr.cell? ⟨b, off + k * 4, none⟩ = some (.int .i64 c.status) := hcb 0 _ rfl
   have u1 : wr.cell? ⟨b, off + k * 4 + 1, none⟩ = some (.int .i64 c.why) := hcb 1 _ rfl
   have u2 : wr.cell? ⟨b, off + k * 4 + 2, none⟩ = some (.slice ap c.path.length aq) := hcb 2 _ rfl
   have u3 : wr.cell? ⟨b, off + k * 4 + 3, none⟩ = some (.slice ep c.lst.length eq) := hcb 3 _ rfl
   have HN : Hid (∀ (w3 : World) (p e : Value), Below wr.heap.size wr w3 -> OwnAw w3 wr.heap.size (awV c p e) c -> ∃ fp, OwnS awKd (w3.setCells w.heap.size (k * 4) [.int .i64 c.status, .int .i64 c.why, p, e]) w.heap.size (.slice (some ⟨w.heap.size, 0, none⟩) len len) (l.take (k + 1) ++ List.replicate (l.length - (k + 1)) zeAw) fp /\ Below w.heap.size w (w3.setCells w.heap.size (k * 4) [.int .i64 c.status, .int .i64 c.why, p, e])) := fun w3 p e hb hop => by
    have h2 := (hO.stays hb).put (j := k) (by rw [fillAw_len (Nat.le_of_lt hkl)]; exact HA.out.2.1.symm) (by rw [fillAw_len (Nat.le_of_lt hkl)]; exact hkl) (hop.base hBl.size) (fun y hy hm => by have h3 := fpAw_lt hop y hy; have h4 := hO.lt y hm; omega)
    obtain ⟨fp', h2, _⟩ := h2
    rw [<- hc, fillAw_set hkl] at h2
    rw [<- hc]
    have e1 : w3.setCells w.heap.size (k * 4) [.int .i64 l[k].status, .int .i64 l[k].why, p, e] = putCells w3 w.heap.size (k * 4) (awV l[k] p e).cells.toList := (putCells_set _ _ _ _).symm
    rw [e1]
    refine ⟨fp', h2, ?_⟩
    exact (hBl.trans (hb.mono hBl.size)).trans ((putCells_out _ _ _ _).below (fun b hb => by rw [List.mem_singleton.1 hb]; exact Nat.le_refl _) (hBl.trans (hb.mono hBl.size)).size)
   have HC : Hid (∀ w3, Below wr.heap.size wr w3 -> w3.there w.heap.size (k * 4) 4) := fun w3 hb => by
    obtain ⟨⟨u, hu, _, hcs⟩, hfz⟩ := (hO.stays hb).cellsAw (j := k) (by rw [fillAw_len (Nat.le_of_lt hkl)]; exact HA.out.2.1.symm) (by rw [fillAw_len (Nat.le_of_lt hkl)]; exact hkl)
    obtain ⟨p, e, rfl, _⟩ := hu
    intro j hj
    refine ⟨?_, hfz _⟩
    have h4 : j < (awV ((l.take k ++ List.replicate (l.length - k) zeAw)[k]'(by rw [fillAw_len (Nat.le_of_lt hkl)]; exact hkl)) p e).cells.size := hj
    rw [hcs j _ (Array.getElem?_eq_getElem h4)]
    rfl
   clear H hO hBl HP hcb hcell hPu hus hbB hc hkl
   have hki : (k : Int) < (len : Int) := by omega
   have hk0 : (0 : Int) <= (k : Int) := by omega
   unfold awV at HR HN
   go_wp2_with fail
   refine HR.mono ?_
   rintro e w3 ⟨v3, rfl, ⟨p3, e3, rfl, ho3, ho4, hap⟩, hb3⟩
   have hth := HC.out w3 hb3
   have HN3 := HN.out w3 p3 e3 hb3 ⟨p3, e3, rfl, ho3, ho4, hap⟩
   obtain ⟨qa, qc, hq3, -⟩ := ho3.at
   obtain ⟨qe, qf, hq4, -⟩ := ho4.at
   subst hq3 hq4
   clear HN HC hb3 u0 u1 u2 u3 HR ho3 ho4 hap
   have HN : Hid _ := HN3
   clear HN3
   unfold awV
   obtain ⟨VV, hVV⟩ : ∃ V, V = w3.setCells w.heap.size (k * 4) #[.int .i64 c.status, .int .i64 c.why, .slice qa c.path.length qc, .slice qe c.lst.length qf].toList := ⟨_, rfl⟩
   have HNV : Hid (∃ fp, OwnS awKd VV w.heap.size (.slice (some ⟨w.heap.size, 0, none⟩) len len) (l.take (k + 1) ++ List.replicate (l.length - (k + 1)) zeAw) fp /\ Below w.heap.size w VV) := by rw [hVV]; exact HN.out
   clear HN
   go_wp2_with (refine step_storeV rfl 103 _ _ rfl w.heap.size (k * 4) #[.int .i64 c.status, .int .i64 c.why, .slice qa c.path.length qc, .slice qe c.lst.length qf] rfl rfl hth (by kernel_rfl) (by simp [Value.oneCell']) hVV ?_; clear hVV hth)
   go_roundw
   case rel => exact ⟨k + 1, by omega, by go_num, HNV.out⟩
   case measure => simp [intOf]; omega
  ·have hkl : k = len := by omega
   subst hkl
   go_wp2
   go_ret
   obtain ⟨fp, hO, hBl⟩ := H.out
   refine ⟨_, fp, rfl, ?_, hBl⟩
   rw [<- HA.out.2.1, List.take_length, Nat.sub_self, List.replicate_zero, List.append_nil] at hO
   rw [<- HA.out.2.1]
   exact hO
theorem szAnswerS_any (v : Value) (l : List Aw) (left : Int) (w : World) (hm : l.length <= 9223372036854775807) (hwd : ∀ c ∈ l, WdAw c) (h0 : 0 <= left) (hl : left <= 1048576) (ha : ArgAS w.heap.size w v l) :
  Calls Tryz.prog 79 #[v, .int .i64 left] w fun e w' => e = .returned (.int .i64 (if (wtAS l : Int) <= left then left - (wtAS l : Int) else -1)) /\ Below w.heap.size w w' := by
 obtain ⟨a0, cap, hv⟩ := ha.shape
 obtain ⟨len, hlen⟩ := zE (l.length)
 rw [hlen] at hv hm
 subst hv
 obtain ⟨R, hR⟩ : ∃ r : Int, (if (wtAS l : Int) <= left then left - (wtAS l : Int) else -1) = r := ⟨_, rfl⟩
 rw [hR]
 have HA : Hid (ArgAS w.heap.size w (.slice a0 len cap) l /\ l.length = len /\ (∀ c ∈ l, WdAw c) /\ (if (wtAS l : Int) <= left then left - (wtAS l : Int) else -1) = R) := ⟨ha, hlen, hwd, hR⟩
 clear ha hlen hwd hR
 have w1 : IntKind.i64.wrap (left - (len : Int)) = left - (len : Int) := by rw [IntKind.wrap_i64]; omega
 by_cases hneg : left - (len : Int) < 0
 ·have HRR : Hid (R = -1) := by
   show R = -1
   rw [<- HA.out.2.2.2, if_neg]
   have h1 := HA.out.2.1
   unfold wtAS
   omega
  go_enter Tryz.func79, Tryz.ntmps79
  go_wp2
  go_ret
  exact ⟨by rw [HRR.out]; rfl, Below.refl _ _⟩
 ·have hll : len <= 1048576 := by omega
  go_enter Tryz.func79, Tryz.ntmps79
  go_wp2_with fail
  go_loopw [1, 5] (fun lv iv wr => ∃ k : Nat, ∃ z : Int, k <= len /\ iv = .int .i64 k /\ lv = .int .i64 z /\ 0 <= z /\ z <= 1048576 /\ Hid (z = left - (len : Int) - ((((l.map wtAw).take k).sum : Nat) : Int) /\ Below w.heap.size w wr)) (fun _ iv _ => len - (intOf iv).toNat)
  case atStart => exact ⟨0, _, Nat.zero_le _, rfl, rfl, by omega, by omega, by simp, Below.refl _ _⟩
  case round =>
   obtain ⟨k, z, hk, rfl, rfl, hz0, hz1, H⟩ := hrel
   by_cases hkn : k < len
   ·have hkl : k < l.length := by rw [HA.out.2.1]; exact hkn
    obtain ⟨b, off, u, hao, hbB, hPu, hus, hcell⟩ := HA.out.1.get hkl
    obtain ⟨ap, aq, ep, eq, hu⟩ := hPu.shape
    subst hao
    have hBl := H.out.2
    have hcb := fun i x (hx : u.cells[i]? = some x) => (hBl.cell (p := ⟨b, off + k * 4 + i, none⟩) hbB).trans (hcell i x hx)
    obtain ⟨c, hc⟩ := zE (l[k])
    have HP : ArgAw wr.heap.size wr u c := by rw [<- hc]; exact (hPu.below hBl).mono hBl.size
    rw [hc] at hu
    have HR := szAnswer_any c u z wr (by rw [<- hc]; exact HA.out.2.2.1 _ (List.getElem_mem hkl)) hz0 hz1 HP
    subst hu
    have u0 : wr.cell? ⟨b, off + k * 4, none⟩ = some (.int .i64 c.status) := hcb 0 _ rfl
    have u1 : wr.cell? ⟨b, off + k * 4 + 1, none⟩ = some (.int .i64 c.why) := hcb 1 _ rfl
    have u2 : wr.cell? ⟨b, off + k * 4 + 2, none⟩ = some (.slice ap c.path.length aq) := hcb 2 _ rfl
    have u3 : wr.cell? ⟨b, off + k * 4 + 3, none⟩ = some (.slice ep c.lst.length eq) := hcb 3 _ rfl
    have HS : Hid ((((l.map wtAw).take (k + 1)).sum = ((l.map wtAw).take k).sum + wtAw c) /\ ((l.map wtAw).take (k + 1)).sum <= (l.map wtAw).sum /\ wtAS l = len + (l.map wtAw).sum) := by
     refine ⟨?_, sumM_take_le _ _, by unfold wtAS; rw [HA.out.2.1]⟩
     rw [sumM_take (by rw [List.length_map]; exact hkl), List.getElem_map, hc]
    have hki : (k : Int) < (len : Int) := by omega
    have hk0 : (0 : Int) <= (k : Int) := by omega
    clear hcb hcell hPu hus hbB hc hkl HP hBl
    obtain ⟨zz, hzz⟩ := zE (szAw c z)
    rw [hzz] at HR
    unfold awV at HR
    by_cases hfit : (wtAw c : Int) <= z
    ·have hzv : zz = z - (wtAw c : Int) := by rw [<- hzz]; unfold szAw; rw [if_pos hfit]
     have hz0' : ¬ zz < 0 := by omega
     have HZ : Hid (zz = left - (len : Int) - ((((l.map wtAw).take (k + 1)).sum : Nat) : Int) /\ 0 <= zz /\ zz <= 1048576) := ⟨by rw [HS.out.1, hzv, H.out.1]; omega, by omega, by omega⟩
     clear hzz hzv HS hfit
     go_wp2_with fail
     refine HR.mono ?_
     rintro e w3 ⟨rfl, hb3⟩
     clear u0 u1 u2 u3 HR
     have HB3 : Hid (Below w.heap.size w w3) := H.out.2.trans (hb3.mono H.out.2.size)
     clear H hb3
     go_wp2_with fail
     go_roundw
     case rel => exact ⟨k + 1, zz, by omega, by go_num, rfl, HZ.out.2.1, HZ.out.2.2, HZ.out.1, HB3.out⟩
     case measure => simp [intOf]; omega
    ·have hzv : zz = -1 := by rw [<- hzz]; unfold szAw; rw [if_neg hfit]
     subst hzv
     have HRR : Hid (R = -1) := by
      show R = -1
      rw [<- HA.out.2.2.2, if_neg]
      have h1 := HS.out
      have h2 := H.out.1
      omega
     clear HS hfit hzz
     go_wp2_with fail
     refine HR.mono ?_
     rintro e w3 ⟨rfl, hb3⟩
     clear u0 u1 u2 u3 HR
     have HB3 : Hid (Below w.heap.size w w3) := H.out.2.trans (hb3.mono H.out.2.size)
     clear H hb3
     go_wp2
     go_ret
     exact ⟨by rw [HRR.out]; rfl, HB3.out⟩
   ·have hkl : k = len := by omega
    subst hkl
    have HRR : Hid (R = z) := by
     show R = z
     have h1 := H.out.1
     rw [List.take_of_length_le (by rw [List.length_map, HA.out.2.1]; exact Nat.le_refl _)] at h1
     have h2 := HA.out.2.1
     rw [<- HA.out.2.2.2, if_pos (by unfold wtAS; omega)]
     unfold wtAS
     omega
    go_wp2
    go_ret
    exact ⟨by rw [HRR.out]; rfl, H.out.2⟩
theorem toReply_any (c : Rp) (v : Value) (B : Nat) (w : World) (hl : wtAS c.ans <= 1048576) (hB : B <= w.heap.size) (ha : ArgRp B w v c) :
  Calls Tryz.prog 68 #[v] w fun e w' => ∃ u fp, e = .returned u /\ OwnRp w' w.heap.size u c fp /\ Below w.heap.size w w' := by
 obtain ⟨pa, pc, rfl, h1⟩ := ha
 have HA : Hid (ArgAS B w (.slice pa c.ans.length pc) c.ans /\ wtAS c.ans <= 1048576) := ⟨h1, hl⟩
 clear h1 hl
 unfold rpV
 go_enter Tryz.func68, Tryz.ntmps68
 go_upto_region 2 with fail
 obtain ⟨X0, hW3⟩ : ∃ W, W = ((w.alloc (Obj.cells #[.string c.hash, .int .i64 c.nonce, .int .i64 c.time, .int .i64 c.next, .int .i64 c.plan, .int .i64 c.err, .slice pa c.ans.length pc, .string c.sig] 74)).alloc (Obj.cells #[.string ⟨#[]⟩, .int .i64 0, .int .i64 0, .int .i64 0, .int .i64 0, .int .i64 0, .slice none 0 0, .string ⟨#[]⟩] 79)).alloc (Obj.cells #[.string ⟨#[]⟩, .int .i64 0, .int .i64 0, .int .i64 0, .int .i64 0, .int .i64 0, .slice none 0 0, .string ⟨#[]⟩] 79) := ⟨_, rfl⟩
 change Code.wp _ _ _ _ (((w.alloc (Obj.cells #[.string c.hash, .int .i64 c.nonce, .int .i64 c.time, .int .i64 c.next, .int .i64 c.plan, .int .i64 c.err, .slice pa c.ans.length pc, .string c.sig] 74)).alloc (Obj.cells #[.string ⟨#[]⟩, .int .i64 0, .int .i64 0, .int .i64 0, .int .i64 0, .int .i64 0, .slice none 0 0, .string ⟨#[]⟩] 79)).alloc (Obj.cells #[.string ⟨#[]⟩, .int .i64 0, .int .i64 0, .int .i64 0, .int .i64 0, .int .i64 0, .slice none 0 0, .string ⟨#[]⟩] 79))
 rw [<- hW3]
 have e0 : (w.alloc (Obj.cells #[.string c.hash, .int .i64 c.nonce, .int .i64 c.time, .int .i64 c.next, .int .i64 c.plan, .int .i64 c.err, .slice pa c.ans.length pc, .string c.sig] 74)).heap.size = w.heap.size + 1 := Array.size_push _
 have e1 : ((w.alloc (Obj.cells #[.string c.hash, .int .i64 c.nonce, .int .i64 c.time, .int .i64 c.next, .int .i64 c.plan, .int .i64 c.err, .slice pa c.ans.length pc, .string c.sig] 74)).alloc (Obj.cells #[.string ⟨#[]⟩, .int .i64 0, .int .i64 0, .int .i64 0, .int .i64 0, .int .i64 0, .slice none 0 0, .string ⟨#[]⟩] 79)).heap.size = w.heap.size + 1 + 1 := by rw [size_alloc, e0]
 have Y0 : Hid ((Blk X0 w.heap.size 74 #[.string c.hash, .int .i64 c.nonce, .int .i64 c.time, .int .i64 c.next, .int .i64 c.plan, .int .i64 c.err, .slice pa c.ans.length pc, .string c.sig] /\ Blk X0 (w.heap.size + 1) 79 #[.string ⟨#[]⟩, .int .i64 0, .int .i64 0, .int .i64 0, .int .i64 0, .int .i64 0, .slice none 0 0, .string ⟨#[]⟩] /\ Blk X0 (w.heap.size + 1 + 1) 79 #[.string ⟨#[]⟩, .int .i64 0, .int .i64 0, .int .i64 0, .int .i64 0, .int .i64 0, .slice none 0 0, .string ⟨#[]⟩] /\ Below w.heap.size w X0) /\ w.heap.size + 1 + 1 + 1 <= X0.heap.size) := by
  rw [hW3]
  refine ⟨⟨((Blk.new w _ _).alloc _).alloc _, ?_, ?_, (((Below.refl _ _).alloc (Nat.le_refl _) _).alloc (by rw [e0]; omega) _).alloc (by rw [e1]; omega) _⟩, by rw [size_alloc, e1]; omega⟩
  ·have h := (Blk.new (w.alloc (Obj.cells #[.string c.hash, .int .i64 c.nonce, .int .i64 c.time, .int .i64 c.next, .int .i64 c.plan, .int .i64 c.err, .slice pa c.ans.length pc, .string c.sig] 74)) 79 #[.string ⟨#[]⟩, .int .i64 0, .int .i64 0, .int .i64 0, .int .i64 0, .int .i64 0, .slice none 0 0, .string ⟨#[]⟩]).alloc (Obj.cells #[.string ⟨#[]⟩, .int .i64 0, .int .i64 0, .int .i64 0, .int .i64 0, .int .i64 0, .slice none 0 0, .string ⟨#[]⟩] 79)
   rw [e0] at h
   exact h
  ·have h := Blk.new ((w.alloc (Obj.cells #[.string c.hash, .int .i64 c.nonce, .int .i64 c.time, .int .i64 c.next, .int .i64 c.plan, .int .i64 c.err, .slice pa c.ans.length pc, .string c.sig] 74)).alloc (Obj.cells #[.string ⟨#[]⟩, .int .i64 0, .int .i64 0, .int .i64 0, .int .i64 0, .int .i64 0, .slice none 0 0, .string ⟨#[]⟩] 79)) 79 #[.string ⟨#[]⟩, .int .i64 0, .int .i64 0, .int .i64 0, .int .i64 0, .int .i64 0, .slice none 0 0, .string ⟨#[]⟩]
   rw [e1] at h
   exact h
 clear hW3 e0 e1
 have wd1 : w.heap.size ≠ w.heap.size + 1 + 1 := by omega
 have wd2 : w.heap.size + 1 ≠ w.heap.size + 1 + 1 := by omega
 have fr := fun j => Y0.out.1.2.2.1.free j
 have ca0 := fun j => Y0.out.1.1.cell j
 have c20 := fun j => Y0.out.1.2.2.1.cell j
 have ca1 := fun j => Y0.out.1.1.cell j
 have c21 := fun j => Y0.out.1.2.2.1.cell j
 go_upto_region 4 with fail
 obtain ⟨X1, hV⟩ : ∃ V, V = ((X0.setCell ⟨w.heap.size + 1 + 1, 0, none⟩ (.string c.hash)).setCell ⟨w.heap.size + 1 + 1, 1, none⟩ (.int .i64 c.nonce)) := ⟨_, rfl⟩
 rw [<- hV]
 have Y1 : Hid ((Blk X1 w.heap.size 74 #[.string c.hash, .int .i64 c.nonce, .int .i64 c.time, .int .i64 c.next, .int .i64 c.plan, .int .i64 c.err, .slice pa c.ans.length pc, .string c.sig] /\ Blk X1 (w.heap.size + 1) 79 #[.string ⟨#[]⟩, .int .i64 0, .int .i64 0, .int .i64 0, .int .i64 0, .int .i64 0, .slice none 0 0, .string ⟨#[]⟩] /\ Blk X1 (w.heap.size + 1 + 1) 79 #[.string c.hash, .int .i64 c.nonce, .int .i64 0, .int .i64 0, .int .i64 0, .int .i64 0, .slice none 0 0, .string ⟨#[]⟩] /\ Below w.heap.size w X1) /\ w.heap.size + 1 + 1 + 1 <= X1.heap.size) := by
  have hbs : Below (w.heap.size + 1 + 1) X0 X1 := by rw [hV]; exact (((Below.refl _ _).setCell (p := ⟨w.heap.size + 1 + 1, 0, none⟩) (Nat.le_refl _) _).setCell (p := ⟨w.heap.size + 1 + 1, 1, none⟩) (Nat.le_refl _) _)
  exact ⟨⟨Y0.out.1.1.below hbs (by omega), Y0.out.1.2.1.below hbs (by omega), by rw [hV]; exact ((Y0.out.1.2.2.1.set 0 _).set 1 _), Y0.out.1.2.2.2.trans (hbs.mono (by omega))⟩, Nat.le_trans Y0.out.2 hbs.size⟩
 clear hV Y0 fr ca0 c20 ca1 c21
 have fr := fun j => Y1.out.1.2.2.1.free j
 have ca2 := fun j => Y1.out.1.1.cell j
 have c22 := fun j => Y1.out.1.2.2.1.cell j
 have ca3 := fun j => Y1.out.1.1.cell j
 have c23 := fun j => Y1.out.1.2.2.1.cell j
 go_upto_region 6 with fail
 obtain ⟨X2, hV⟩ : ∃ V, V = ((X1.setCell ⟨w.heap.size + 1 + 1, 2, none⟩ (.int .i64 c.time)).setCell ⟨w.heap.size + 1 + 1, 3, none⟩ (.int .i64 c.next)) := ⟨_, rfl⟩
 rw [<- hV]
 have Y2 : Hid ((Blk X2 w.heap.size 74 #[.string c.hash, .int .i64 c.nonce, .int .i64 c.time, .int .i64 c.next, .int .i64 c.plan, .int .i64 c.err, .slice pa c.ans.length pc, .string c.sig] /\ Blk X2 (w.heap.size + 1) 79 #[.string ⟨#[]⟩, .int .i64 0, .int .i64 0, .int .i64 0, .int .i64 0, .int .i64 0, .slice none 0 0, .string ⟨#[]⟩] /\ Blk X2 (w.heap.size + 1 + 1) 79 #[.string c.hash, .int .i64 c.nonce, .int .i64 c.time, .int .i64 c.next, .int .i64 0, .int .i64 0, .slice none 0 0, .string ⟨#[]⟩] /\ Below w.heap.size w X2) /\ w.heap.size + 1 + 1 + 1 <= X2.heap.size) := by
  have hbs : Below (w.heap.size + 1 + 1) X1 X2 := by rw [hV]; exact (((Below.refl _ _).setCell (p := ⟨w.heap.size + 1 + 1, 2, none⟩) (Nat.le_refl _) _).setCell (p := ⟨w.heap.size + 1 + 1, 3, none⟩) (Nat.le_refl _) _)
  exact ⟨⟨Y1.out.1.1.below hbs (by omega), Y1.out.1.2.1.below hbs (by omega), by rw [hV]; exact ((Y1.out.1.2.2.1.set 2 _).set 3 _), Y1.out.1.2.2.2.trans (hbs.mono (by omega))⟩, Nat.le_trans Y1.out.2 hbs.size⟩
 clear hV Y1 fr ca2 c22 ca3 c23
 have fr := fun j => Y2.out.1.2.2.1.free j
 have ca4 := fun j => Y2.out.1.1.cell j
 have c24 := fun j => Y2.out.1.2.2.1.cell j
 have ca5 := fun j => Y2.out.1.1.cell j
 have c25 := fun j => Y2.out.1.2.2.1.cell j
 go_upto_region 8 with fail
 obtain ⟨W3, hV⟩ : ∃ V, V = ((X2.setCell ⟨w.heap.size + 1 + 1, 4, none⟩ (.int .i64 c.plan)).setCell ⟨w.heap.size + 1 + 1, 5, none⟩ (.int .i64 c.err)) := ⟨_, rfl⟩
 rw [<- hV]
 have G0 : Hid ((Blk W3 w.heap.size 74 #[.string c.hash, .int .i64 c.nonce, .int .i64 c.time, .int .i64 c.next, .int .i64 c.plan, .int .i64 c.err, .slice pa c.ans.length pc, .string c.sig] /\ Blk W3 (w.heap.size + 1) 79 #[.string ⟨#[]⟩, .int .i64 0, .int .i64 0, .int .i64 0, .int .i64 0, .int .i64 0, .slice none 0 0, .string ⟨#[]⟩] /\ Blk W3 (w.heap.size + 1 + 1) 79 #[.string c.hash, .int .i64 c.nonce, .int .i64 c.time, .int .i64 c.next, .int .i64 c.plan, .int .i64 c.err, .slice none 0 0, .string ⟨#[]⟩] /\ Below w.heap.size w W3) /\ w.heap.size + 1 + 1 + 1 <= W3.heap.size) := by
  have hbs : Below (w.heap.size + 1 + 1) X2 W3 := by rw [hV]; exact (((Below.refl _ _).setCell (p := ⟨w.heap.size + 1 + 1, 4, none⟩) (Nat.le_refl _) _).setCell (p := ⟨w.heap.size + 1 + 1, 5, none⟩) (Nat.le_refl _) _)
  exact ⟨⟨Y2.out.1.1.below hbs (by omega), Y2.out.1.2.1.below hbs (by omega), by rw [hV]; exact ((Y2.out.1.2.2.1.set 4 _).set 5 _), Y2.out.1.2.2.2.trans (hbs.mono (by omega))⟩, Nat.le_trans Y2.out.2 hbs.size⟩
 clear hV Y2 fr ca4 c24 ca5 c25
 have ca := fun j => G0.out.1.1.cell j
 go_wp2_with fail
 clear ca
 refine (toAnswerS_any (.slice pa c.ans.length pc) c.ans B W3 HA.out.2 (Nat.le_trans hB G0.out.1.2.2.2.size) (HA.out.1.below (G0.out.1.2.2.2.mono hB) (Nat.le_refl _))).mono ?_
 rintro r u1 ⟨p, fp, rfl, op, hb⟩
 have F1 : Hid ((Blk u1 w.heap.size 74 #[.string c.hash, .int .i64 c.nonce, .int .i64 c.time, .int .i64 c.next, .int .i64 c.plan, .int .i64 c.err, .slice pa c.ans.length pc, .string c.sig] /\ Blk u1 (w.heap.size + 1) 79 #[.string ⟨#[]⟩, .int .i64 0, .int .i64 0, .int .i64 0, .int .i64 0, .int .i64 0, .slice none 0 0, .string ⟨#[]⟩] /\ Blk u1 (w.heap.size + 1 + 1) 79 #[.string c.hash, .int .i64 c.nonce, .int .i64 c.time, .int .i64 c.next, .int .i64 c.plan, .int .i64 c.err, .slice none 0 0, .string ⟨#[]⟩] /\ Below w.heap.size w u1) /\ w.heap.size + 1 + 1 + 1 <= u1.heap.size /\ OwnS awKd u1 (w.heap.size + 1 + 1 + 1) p c.ans fp) := by
  have hz := G0.out.2
  exact ⟨⟨G0.out.1.1.below hb (by omega), G0.out.1.2.1.below hb (by omega), G0.out.1.2.2.1.below hb (by omega), G0.out.1.2.2.2.trans (hb.mono G0.out.1.2.2.2.size)⟩, Nat.le_trans hz hb.size, op.base hz⟩
 clear op hb G0
 have fr := fun j => F1.out.1.2.2.1.free j
 obtain ⟨qp, mp, hsp⟩ : ∃ ao cap, p = .slice ao c.ans.length cap := F1.out.2.2.at.shape
 obtain ⟨lp, hlp⟩ := zE (c.ans.length)
 rw [hlp] at hsp
 clear hlp
 subst hsp
 have ca := fun j => F1.out.1.1.cell j
 have c26 : u1.cell? ⟨w.heap.size + 1 + 1, 6, none⟩ = some (.slice none 0 0) := F1.out.1.2.2.1.cell 6
 have c27 : u1.cell? ⟨w.heap.size + 1 + 1, 7, none⟩ = some (.string ⟨#[]⟩) := F1.out.1.2.2.1.cell 7
 go_upto_region 10 with fail
 obtain ⟨V1, hV⟩ : ∃ V, V = (u1.setCell ⟨w.heap.size + 1 + 1, 6, none⟩ (.slice qp lp mp)).setCell ⟨w.heap.size + 1 + 1, 7, none⟩ (.string c.sig) := ⟨_, rfl⟩
 rw [<- hV]
 have G1 : Hid ((Blk V1 w.heap.size 74 #[.string c.hash, .int .i64 c.nonce, .int .i64 c.time, .int .i64 c.next, .int .i64 c.plan, .int .i64 c.err, .slice pa c.ans.length pc, .string c.sig] /\ Blk V1 (w.heap.size + 1) 79 #[.string ⟨#[]⟩, .int .i64 0, .int .i64 0, .int .i64 0, .int .i64 0, .int .i64 0, .slice none 0 0, .string ⟨#[]⟩] /\ Blk V1 (w.heap.size + 1 + 1) 79 #[.string c.hash, .int .i64 c.nonce, .int .i64 c.time, .int .i64 c.next, .int .i64 c.plan, .int .i64 c.err, .slice qp lp mp, .string c.sig] /\ Below w.heap.size w V1) /\ OwnS awKd V1 (w.heap.size + 1 + 1 + 1) (.slice qp lp mp) c.ans fp) := by
  have hbs : Below (w.heap.size + 1 + 1) u1 V1 := by rw [hV]; exact ((Below.refl _ _).setCell (p := ⟨w.heap.size + 1 + 1, 6, none⟩) (Nat.le_refl _) _).setCell (p := ⟨w.heap.size + 1 + 1, 7, none⟩) (Nat.le_refl _) _
  exact ⟨⟨F1.out.1.1.below hbs (by omega), F1.out.1.2.1.below hbs (by omega), by rw [hV]; exact (F1.out.1.2.2.1.set 6 _).set 7 _, F1.out.1.2.2.2.trans (hbs.mono (by omega))⟩, F1.out.2.2.same fun b hb => by rw [hV, heap_setCell_other _ _ _ _ (by have := (F1.out.2.2.lt b hb).1; show b ≠ w.heap.size + 1 + 1; omega), heap_setCell_other _ _ _ _ (by have := (F1.out.2.2.lt b hb).1; show b ≠ w.heap.size + 1 + 1; omega)]⟩
 clear hV F1 fr ca c26 c27
 have f1 := fun j => G1.out.1.2.1.free j
 have c10 := fun j => G1.out.1.2.1.cell j
 have c20 := fun j => G1.out.1.2.2.1.cell j
 have c11 := fun j => G1.out.1.2.1.cell j
 have c21 := fun j => G1.out.1.2.2.1.cell j
 have c12 := fun j => G1.out.1.2.1.cell j
 have c22 := fun j => G1.out.1.2.2.1.cell j
 have c13 := fun j => G1.out.1.2.1.cell j
 have c23 := fun j => G1.out.1.2.2.1.cell j
 have c14 := fun j => G1.out.1.2.1.cell j
 have c24 := fun j => G1.out.1.2.2.1.cell j
 have c15 := fun j => G1.out.1.2.1.cell j
 have c25 := fun j => G1.out.1.2.2.1.cell j
 have c16 := fun j => G1.out.1.2.1.cell j
 have c26 : V1.cell? ⟨w.heap.size + 1 + 1, 6, none⟩ = some (.slice qp lp mp) := G1.out.1.2.2.1.cell 6
 have c17 := fun j => G1.out.1.2.1.cell j
 have c27 : V1.cell? ⟨w.heap.size + 1 + 1, 7, none⟩ = some (.string c.sig) := G1.out.1.2.2.1.cell 7
 go_wp2_with fail
 refine bodyPost_ret (v := rpV c (.slice qp lp mp)) (by simp [results, Tryz.results68, go_sem, rpV, c10, c11, c12, c13, c14, c15, c16, c17]) rfl ⟨_, fp, rfl, ⟨_, rfl, (G1.out.2.same ?far).base (by omega)⟩, ?bel⟩
 case far =>
  intro b hb
  have := (G1.out.2.lt b hb).1
  iterate 8 rw [heap_setCell_other _ _ _ _ (by show b ≠ w.heap.size + 1; omega)]
 case bel =>
  iterate 8 refine Below.setCell ?_ (by show w.heap.size <= w.heap.size + 1; omega) _
  exact G1.out.1.2.2.2
theorem szReply_any (c : Rp) (v : Value) (left : Int) (w : World) (hwd : WdRp c) (h0 : 0 <= left) (hl : left <= 1048576) (ha : ArgRp w.heap.size w v c) :
  Calls Tryz.prog 63 #[v, .int .i64 left] w fun e w' => e = .returned (.int .i64 (szRp c left)) /\ Below w.heap.size w w' := by
 obtain ⟨pa, pc, rfl, h1⟩ := ha
 obtain ⟨_, hwt, hwa, hln⟩ := hwd
 have hs1 := hwt c.hash (by simp)
 have hs2 := hwt c.sig (by simp)
 unfold rpV
 have w1 : IntKind.i64.wrap (left - (c.hash.size : Int)) = left - (c.hash.size : Int) := by rw [IntKind.wrap_i64]; omega
 by_cases g0 : left < (c.hash.size : Int)
 ·have HF : Hid (szRp c left = -1) := by show szRp c left = -1; unfold szRp wtR; rw [if_neg (by omega)]
  have n1 : left - (c.hash.size : Int) < 0 := by omega
  clear h1 hwa hwt hln
  go_enter Tryz.func63, Tryz.ntmps63
  go_wp2_with fail
  go_ret
  exact ⟨by rw [HF.out]; rfl, (Below.refl _ _).alloc (Nat.le_refl _) _⟩
 have n1 : ¬ left - (c.hash.size : Int) < 0 := by omega
 obtain ⟨r1, hr1⟩ : ∃ r : Int, left - (c.hash.size : Int) = r := ⟨_, rfl⟩
 rw [hr1] at w1 n1
 obtain ⟨r2, hr2⟩ : ∃ r : Int, r = if (wtAS c.ans : Int) <= r1 then r1 - (wtAS c.ans : Int) else -1 := ⟨_, rfl⟩
 have Z2 : Hid (∀ W, Below w.heap.size w W -> Calls Tryz.prog 79 #[.slice pa c.ans.length pc, .int .i64 r1] W fun e w' => e = .returned (.int .i64 r2) /\ Below W.heap.size W w') := fun W hb => by rw [hr2]; exact szAnswerS_any (.slice pa c.ans.length pc) c.ans r1 W hln hwa (by omega) (by omega) ((h1.below hb hb.size))
 by_cases g1 : r2 < 0
 ·have HF : Hid (szRp c left = -1) := by show szRp c left = -1; unfold szRp wtR; rw [if_neg (by split at hr2 <;> omega)]
  have e2 : r2 = -1 := by split at hr2 <;> omega
  clear hr2 h1 hwa hwt hln g1
  subst e2
  go_enter Tryz.func63, Tryz.ntmps63
  go_wp2_with fail
  obtain ⟨V, hV⟩ : ∃ V, V = w.alloc (Obj.cells #[.string c.hash, .int .i64 c.nonce, .int .i64 c.time, .int .i64 c.next, .int .i64 c.plan, .int .i64 c.err, .slice pa c.ans.length pc, .string c.sig] 74) := ⟨_, rfl⟩
  rw [<- hV]
  have G : Hid (Below w.heap.size w V /\ Blk V w.heap.size 74 #[.string c.hash, .int .i64 c.nonce, .int .i64 c.time, .int .i64 c.next, .int .i64 c.plan, .int .i64 c.err, .slice pa c.ans.length pc, .string c.sig]) := by rw [hV]; exact ⟨(Below.refl _ _).alloc (Nat.le_refl _) _, Blk.new w _ _⟩
  clear hV
  refine (Z2.out V G.out.1).mono ?_
  rintro e V2 ⟨rfl, hb⟩
  have G2 := zH (zJ (G.out.1.trans (hb.mono G.out.1.size)) (G.out.2.below hb G.out.2.lt))
  clear hb G
  have c7 := fun j => G2.out.2.cell j
  go_wp2_with fail
  go_ret
  exact ⟨by rw [HF.out]; rfl, G2.out.1⟩
 have e2 : r2 = r1 - (wtAS c.ans : Int) /\ (wtAS c.ans : Int) <= r1 := by split at hr2 <;> omega
 have w3 : IntKind.i64.wrap (r2 - (c.sig.size : Int)) = r2 - (c.sig.size : Int) := by rw [IntKind.wrap_i64]; omega
 by_cases g2 : r2 < (c.sig.size : Int)
 ·have HF : Hid (szRp c left = -1) := by show szRp c left = -1; unfold szRp wtR; rw [if_neg (by omega)]
  have n3 : r2 - (c.sig.size : Int) < 0 := by omega
  clear hr2 h1 hwa hwt hln e2
  go_enter Tryz.func63, Tryz.ntmps63
  go_wp2_with fail
  obtain ⟨V, hV⟩ : ∃ V, V = w.alloc (Obj.cells #[.string c.hash, .int .i64 c.nonce, .int .i64 c.time, .int .i64 c.next, .int .i64 c.plan, .int .i64 c.err, .slice pa c.ans.length pc, .string c.sig] 74) := ⟨_, rfl⟩
  rw [<- hV]
  have G : Hid (Below w.heap.size w V /\ Blk V w.heap.size 74 #[.string c.hash, .int .i64 c.nonce, .int .i64 c.time, .int .i64 c.next, .int .i64 c.plan, .int .i64 c.err, .slice pa c.ans.length pc, .string c.sig]) := by rw [hV]; exact ⟨(Below.refl _ _).alloc (Nat.le_refl _) _, Blk.new w _ _⟩
  clear hV
  refine (Z2.out V G.out.1).mono ?_
  rintro e V2 ⟨rfl, hb⟩
  have G2 := zH (zJ (G.out.1.trans (hb.mono G.out.1.size)) (G.out.2.below hb G.out.2.lt))
  clear hb G
  have c7 := fun j => G2.out.2.cell j
  go_wp2_with fail
  go_ret
  exact ⟨by rw [HF.out]; rfl, G2.out.1⟩
 ·have HF : Hid (szRp c left = r2 - (c.sig.size : Int)) := by show szRp c left = _; unfold szRp wtR; rw [if_pos (by omega)]; omega
  have n3 : ¬ r2 - (c.sig.size : Int) < 0 := by omega
  clear hr2 h1 hwa hwt hln e2
  go_enter Tryz.func63, Tryz.ntmps63
  go_wp2_with fail
  obtain ⟨V, hV⟩ : ∃ V, V = w.alloc (Obj.cells #[.string c.hash, .int .i64 c.nonce, .int .i64 c.time, .int .i64 c.next, .int .i64 c.plan, .int .i64 c.err, .slice pa c.ans.length pc, .string c.sig] 74) := ⟨_, rfl⟩
  rw [<- hV]
  have G : Hid (Below w.heap.size w V /\ Blk V w.heap.size 74 #[.string c.hash, .int .i64 c.nonce, .int .i64 c.time, .int .i64 c.next, .int .i64 c.plan, .int .i64 c.err, .slice pa c.ans.length pc, .string c.sig]) := by rw [hV]; exact ⟨(Below.refl _ _).alloc (Nat.le_refl _) _, Blk.new w _ _⟩
  clear hV
  refine (Z2.out V G.out.1).mono ?_
  rintro e V2 ⟨rfl, hb⟩
  have G2 := zH (zJ (G.out.1.trans (hb.mono G.out.1.size)) (G.out.2.below hb G.out.2.lt))
  clear hb G
  have c7 := fun j => G2.out.2.cell j
  go_wp2_with fail
  go_ret
  exact ⟨by rw [HF.out]; rfl, G2.out.1⟩
end Go.Proofs.YtagmnlmfoanelaaGreat
