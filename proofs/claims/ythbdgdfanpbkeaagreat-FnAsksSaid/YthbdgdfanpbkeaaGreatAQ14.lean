/-
  Texts of the proof.
-/
import Derived.Deep.RegionHeld3
import Derived.Laws.CopyOwn
import Derived.Test.YthbdgdfanpbkeaaGreatAQ4
import Derived.Test.YthbdgdfanpbkeaaGreatAQ13
set_option maxRecDepth 100000
set_option maxHeartbeats 25600000
namespace Go.Proofs.YthbdgdfanpbkeaaGreat
open Go.RowKit
theorem ev_replicate (n : Nat) : ev (List.replicate n 0) = 0 := by
 induction n with
 | zero => rfl
 | succ n ih => simp [List.replicate_succ, ev, ih]
end Go.Proofs.YthbdgdfanpbkeaaGreat
namespace Go.Proofs.YthbdgdfanpbkeaaGreat
theorem quo_unique {E D q r : Int} (hD : 0 < D) (h : E = r + q * D) (h0 : 0 <= r) (h1 : r < D) : q = E / D /\ r = E % D := by
 have hq : q = E / D := by
  apply Int.le_antisymm
  ·rw [Int.le_ediv_iff_mul_le hD]; omega
  ·have : E / D < q + 1 := by
    rw [Int.ediv_lt_iff_lt_mul hD, Int.add_mul]
    omega
   omega
 refine ⟨hq, ?_⟩
 have := Int.emod_add_mul_ediv E D
 rw [<- hq, Int.mul_comm] at this
 omega
end Go.Proofs.YthbdgdfanpbkeaaGreat
namespace Go.Proofs.YthbdgdfanpbkeaaGreat
open Go.RowKit
theorem okL_true {l : List Int} (h : okL l = true) : l.length <= 40 /\ Dig l /\ Top l := (okL_iff l).1 h
def limL (l : List Int) : List Int := if l.length <= 40 then l else []
def addL (a b : List Int) : List Int := if okL a = true /\ okL b = true then limL (digs (ev a + ev b)) else []
theorem specOk_any (a : Value) (la : List Int) (w : World) (hl : la.length <= 10000000) (ha : IntAt w a la) (hw : ∀ x ∈ la, -9223372036854775808 <= x /\ x <= 9223372036854775807) :
  Calls Tryz.prog 107 #[a] w fun e w' => e = .returned (.bool (okL la)) /\ Below w.heap.size w w' := by
 obtain ⟨ao, ac, rfl, ha⟩ := ha
 have HA : Hid ((0 < la.length -> ∃ g, ao = some ⟨g, 0, none⟩ /\ g < w.heap.size /\ ∀ j (hj : j < la.length), w.cell? ⟨g, j, none⟩ = some (.int .i64 la[j])) /\ ∀ x ∈ la, -9223372036854775808 <= x /\ x <= 9223372036854775807) := ⟨ha, hw⟩
 clear ha hw
 go_enter Tryz.func107, Tryz.ntmps107
 go_wp2
 go_loopw [3] (fun iv wr => ∃ k : Nat, k <= la.length /\ iv = .int .i64 k /\ Below w.heap.size w wr /\ Hid (∀ j, j < k -> 0 <= la.getD j 0 /\ la.getD j 0 <= 9999)) (fun iv _ => la.length - (intOf iv).toNat)
 case atStart => exact ⟨0, Nat.zero_le _, rfl, Below.refl _ _, fun j hj => by omega⟩
 case round =>
  obtain ⟨k, hk, rfl, hbel, HK⟩ := hrel
  by_cases hlt : k < la.length
  ·obtain ⟨g, hao, hgl, hcs⟩ := HA.out.1 (by omega)
   have hu : wr.cell? ⟨g, k, none⟩ = some (.int .i64 (la.getD k 0)) := by
    rw [hbel.cell (p := ⟨g, k, none⟩) hgl, hcs k hlt]; simp [List.getD, hlt]
   subst hao
   clear hcs hgl
   have HX3 : Hid ((0 <= la.getD k 0 /\ la.getD k 0 <= 9999 -> ∀ j, j < k + 1 -> 0 <= la.getD j 0 /\ la.getD j 0 <= 9999) /\ (¬ (0 <= la.getD k 0 /\ la.getD k 0 <= 9999) -> okL la = false)) := by
    refine ⟨fun h j hj => ?_, fun h => okL_no fun h3 => h (h3.2.1.getD k)⟩
    by_cases e : j = k
    ·rw [e]; exact h
    ·exact HK.out j (by omega)
   clear HK
   have hki : (k : Int) < (la.length : Int) := by omega
   have hk0 : (0 : Int) <= (k : Int) := by omega
   generalize la.getD k 0 = x at *
   by_cases h0 : 0 <= x /\ x <= 9999
   ·go_wp2_with fail
    refine (in_yes x 0 9999 wr h0.1 h0.2).mono ?_
    rintro e w' ⟨rfl, rfl⟩
    go_wp2_with fail
    go_roundw
    case rel => exact ⟨k + 1, by omega, by go_num, hbel, HX3.out.1 h0⟩
    case measure => simp [intOf]; omega
   ·go_wp2_with fail
    refine (in_no x 0 9999 wr (by omega)).mono ?_
    rintro e w' ⟨rfl, rfl⟩
    go_wp2_with fail
    go_ret
    exact ⟨congrArg (fun z => Ending.returned (Value.bool z)) (HX3.out.2 h0).symm, hbel⟩
  ·have hkl : k = la.length := by omega
   subst hkl
   by_cases h40 : la.length <= 40
   ·have hq40 : (la.length : Int) <= 40 := by omega
    by_cases hz : la.length = 0
    ·have hz' : ((la.length : Int) == 0) = true := by simpa using hz
     have HE : Hid (okL la = true) := okL_yes h40 (dig_of_getD HK.out) (fun h => by omega)
     go_wp2
     go_ret
     exact ⟨congrArg (fun z => Ending.returned (Value.bool z)) HE.out.symm, hbel⟩
    ·have hz' : ((la.length : Int) == 0) = false := by simpa using hz
     obtain ⟨g, hao, hgl, hcs⟩ := HA.out.1 (by omega)
     have hu : wr.cell? ⟨g, la.length - 1, none⟩ = some (.int .i64 (la.getD (la.length - 1) 0)) := by
      rw [hbel.cell (p := ⟨g, la.length - 1, none⟩) hgl, hcs (la.length - 1) (by omega)]; simp [List.getD, show la.length - 1 < la.length by omega]
     subst hao
     clear hcs hgl
     have HE : Hid ((la.getD (la.length - 1) 0 ≠ 0 -> okL la = true) /\ (la.getD (la.length - 1) 0 = 0 -> okL la = false)) := ⟨fun h => okL_yes h40 (dig_of_getD HK.out) (fun _ => h), fun h => okL_no (fun h3 => h3.2.2 (by omega) h)⟩
     clear HK
     generalize la.getD (la.length - 1) 0 = x at *
     have hz1 : 1 <= la.length := by omega
     by_cases hx : x = 0
     ·subst hx
      go_wp2
      go_ret
      exact ⟨congrArg (fun z => Ending.returned (Value.bool z)) (HE.out.2 (by trivial)).symm, hbel⟩
     ·have hx' : (x == 0) = false := by simpa using hx
      go_wp2
      go_ret
      exact ⟨congrArg (fun z => Ending.returned (Value.bool z)) (show (x != 0) = okL la by rw [HE.out.1 hx]; simp [hx]), hbel⟩
   ·have hq40 : ¬ (la.length : Int) <= 40 := by omega
    have HE : Hid (okL la = false) := okL_no fun h => h40 h.1
    go_wp2
    go_ret
    exact ⟨congrArg (fun z => Ending.returned (Value.bool z)) HE.out.symm, hbel⟩
theorem specTrim_any (v : Value) (l : List Int) (base : Nat) (w : World) (hl : l.length <= 1000000000) (hd : Dig l) (hv : OwnI w base v l) : Calls Tryz.prog 114 #[v] w fun e w' => ∃ v', e = .returned v' /\ OwnI w' base v' (digs (ev l)) /\ Below w.heap.size w w' := by
 obtain ⟨ao, cap, rfl, hc, hcap, hcm⟩ := hv.shape
 unfold maxLen at hcm
 have HC : Hid (0 < l.length -> ∃ g, ao = some ⟨g, 0, none⟩) := hc
 have HV : Hid (OwnI w base (.slice ao l.length cap) l) := hv
 clear hc hv
 go_enter Tryz.func114, Tryz.ntmps114
 go_wp2
 go_loopw [0] (fun s wr => ∃ k : Nat, k <= l.length /\ s = .slice ao k cap /\ w = wr /\ Hid (∀ j, k <= j -> l.getD j 0 = 0)) (fun s _ => match s with | .slice _ n _ => n | _ => 0)
 case atStart => exact ⟨l.length, Nat.le_refl _, rfl, rfl, fun j hj => getD_past hj⟩
 case round =>
  obtain ⟨k, hk, rfl, rfl, HZ⟩ := hrel
  by_cases h0 : k = 0
  ·subst h0
   have hend : OwnI w base (.slice ao 0 cap) (digs (ev l)) := by
    have e := trim_digs hd hk HZ.out (.inl rfl)
    rw [<- e]
    exact OwnI.cut HV.out hk
   have HE : Hid (OwnI w base (.slice ao 0 cap) (digs (ev l))) := hend
   clear hend
   go_wp2
   go_ret
   exact ⟨_, rfl, HE.out, Below.refl _ _⟩
  ·obtain ⟨g, rfl⟩ := HC.out (by omega)
   obtain ⟨m, rfl⟩ : ∃ m, k = m + 1 := ⟨k - 1, by omega⟩
   have hu := HV.out.cell (j := m) (by omega)
   obtain ⟨x, hx⟩ := zE (l.getD m 0)
   rw [hx] at hu
   have HX : Hid (l.getD m 0 = x) := hx
   clear hx
   by_cases hz : x = 0
   ·subst hz
    go_wp2
    go_roundw
    case rel => exact ⟨m, by omega, by simp, by trivial, fun j hj => by
     by_cases e : j = m
     ·rw [e]; exact HX.out
     ·exact HZ.out j (by omega)⟩
    case measure => simp
   ·have hz' : (x == 0) = false := by simpa using hz
    have hend : OwnI w base (.slice (some ⟨g, 0, none⟩) (m + 1) cap) (digs (ev l)) := by
     have e := trim_digs hd hk HZ.out (.inr (by rw [Nat.add_sub_cancel, HX.out]; exact hz))
     rw [<- e]
     exact OwnI.cut HV.out hk
    have HE : Hid (OwnI w base (.slice (some ⟨g, 0, none⟩) (m + 1) cap) (digs (ev l))) := hend
    clear hend
    go_wp2
    go_ret
    exact ⟨_, rfl, HE.out, Below.refl _ _⟩
theorem specCmp_any (a b : Value) (la lb : List Int) (w : World) (hl : la.length <= 1000000) (hl2 : lb.length <= 1000000) (hda : Dig la) (hdb : Dig lb) (ta : Top la) (tb : Top lb) (ha : IntAt w a la) (hb : IntAt w b lb) :
  Calls Tryz.prog 117 #[a, b] w fun e w' => e = .returned (.int .i64 (cmpI (ev la) (ev lb))) /\ Below w.heap.size w w' := by
 obtain ⟨ao, ac, rfl, HA0⟩ := ha
 obtain ⟨bo, bc, rfl, HB0⟩ := hb
 have HA : Hid (Dig la /\ (0 < la.length -> ∃ g, ao = some ⟨g, 0, none⟩ /\ g < w.heap.size /\ ∀ j (hj : j < la.length), w.cell? ⟨g, j, none⟩ = some (.int .i64 la[j]))) := ⟨hda, HA0⟩
 have HB : Hid (Dig lb /\ (0 < lb.length -> ∃ g, bo = some ⟨g, 0, none⟩ /\ g < w.heap.size /\ ∀ j (hj : j < lb.length), w.cell? ⟨g, j, none⟩ = some (.int .i64 lb[j]))) := ⟨hdb, HB0⟩
 have HT : Hid (Top la /\ Top lb) := ⟨ta, tb⟩
 clear hda hdb HA0 HB0 ta tb
 go_enter Tryz.func117, Tryz.ntmps117
 by_cases hne : la.length = lb.length
 ·have hne' : ((la.length : Int) != (lb.length : Int)) = false := by simp [hne]
  have HNE : Hid (la.length = lb.length) := hne
  clear hne
  go_wp2
  go_loopw [5] (fun s wr => ∃ z : Int, -1 <= z /\ z < (la.length : Int) /\ s = .int .i64 z /\ Below w.heap.size w wr /\ Hid (∀ j : Nat, z < (j : Int) -> la.getD j 0 = lb.getD j 0)) (fun s _ => (intOf s + 1).toNat)
  case atStart => exact ⟨_, by omega, by omega, rfl, Below.refl _ _, fun j hj => by have := HNE.out; rw [getD_past (by omega), getD_past (by omega)]⟩
  case round =>
   obtain ⟨z, hz1, hz2, rfl, hbel, HZ⟩ := hrel
   by_cases hz : z < 0
   ·have e : Hid (ev la = ev lb) := ev_same fun j => HZ.out j (by omega)
    go_wp2
    go_ret
    exact ⟨congrArg (fun z => Ending.returned (Value.int .i64 z)) (cmpI_eq e.out).symm, hbel⟩
   ·have hz0 : 0 <= z := by omega
    have hzl : z.toNat < la.length := by omega
    have hzl2 : z.toNat < lb.length := by have := HNE.out; omega
    have hzb : z < (lb.length : Int) := by omega
    obtain ⟨ga, hao, hgl, hcs⟩ := HA.out.2 (by omega)
    obtain ⟨gb, hbo, hgl2, hcs2⟩ := HB.out.2 (by omega)
    have hua : wr.cell? ⟨ga, z.toNat, none⟩ = some (.int .i64 (la.getD z.toNat 0)) := by
     rw [hbel.cell (p := ⟨ga, z.toNat, none⟩) hgl, hcs z.toNat hzl]; simp [List.getD, hzl]
    have hub : wr.cell? ⟨gb, z.toNat, none⟩ = some (.int .i64 (lb.getD z.toNat 0)) := by
     rw [hbel.cell (p := ⟨gb, z.toNat, none⟩) hgl2, hcs2 z.toNat hzl2]; simp [List.getD, hzl2]
    subst hao hbo
    clear hcs hgl hcs2 hgl2 hzl hzl2
    have HQ : Hid ((la.getD z.toNat 0 < lb.getD z.toNat 0 -> cmpI (ev la) (ev lb) = -1) /\ (lb.getD z.toNat 0 < la.getD z.toNat 0 -> cmpI (ev la) (ev lb) = 1) /\ (la.getD z.toNat 0 = lb.getD z.toNat 0 -> ∀ j : Nat, z - 1 < (j : Int) -> la.getD j 0 = lb.getD j 0)) :=
     ⟨fun h => cmpI_lt (ev_lt_at HA.out.1 HB.out.1 z.toNat (fun j hj => HZ.out j (by omega)) h), fun h => cmpI_gt (ev_lt_at HB.out.1 HA.out.1 z.toNat (fun j hj => (HZ.out j (by omega)).symm) h), fun h j hj => by
      by_cases e : j = z.toNat
      ·rw [e]; exact h
      ·exact HZ.out j (by omega)⟩
    clear HZ hz
    generalize la.getD z.toNat 0 = x at *
    generalize lb.getD z.toNat 0 = y at *
    rcases Int.lt_trichotomy x y with h1 | h1 | h1
    ·go_wp2_with fail
     go_quiet (fail)
     go_wp2_with fail
     go_ret
     exact ⟨congrArg (fun z => Ending.returned (Value.int .i64 z)) (HQ.out.1 h1).symm, (by first | exact below_drewN hbel _ | exact below_drewN (below_drewN hbel _) _)⟩
    ·subst h1
     go_wp2_with fail
     go_quiet (fail)
     go_wp2_with fail
     go_quiet (fail)
     go_wp2_with fail
     go_roundw
     case rel => exact ⟨z - 1, by omega, by omega, rfl, (by first | exact below_drewN hbel _ | exact below_drewN (below_drewN hbel _) _), HQ.out.2.2 (by trivial)⟩
     case measure => simp [intOf]; omega
    ·go_wp2_with fail
     go_quiet (fail)
     go_wp2_with fail
     go_quiet (fail)
     go_wp2_with fail
     go_ret
     exact ⟨congrArg (fun z => Ending.returned (Value.int .i64 z)) (HQ.out.2.1 h1).symm, (by first | exact below_drewN hbel _ | exact below_drewN (below_drewN hbel _) _)⟩
 ·have hne' : ((la.length : Int) == (lb.length : Int)) = false := beq_eq_false_iff_ne.2 (by omega)
  by_cases hlt : la.length < lb.length
  ·have HE : Hid (cmpI (ev la) (ev lb) = -1) := cmpI_lt (Int.not_le.1 fun h => by have := len_le_of_ev HA.out.1 HB.out.1 HT.out.2 h; omega)
   go_wp2
   go_ret
   exact ⟨congrArg (fun z => Ending.returned (Value.int .i64 z)) HE.out.symm, Below.refl _ _⟩
  ·have HE : Hid (cmpI (ev la) (ev lb) = 1) := cmpI_gt (Int.not_le.1 fun h => by have := len_le_of_ev HB.out.1 HA.out.1 HT.out.1 h; omega)
   go_wp2
   go_ret
   exact ⟨congrArg (fun z => Ending.returned (Value.int .i64 z)) HE.out.symm, Below.refl _ _⟩
theorem specOf_any (n : Int) (w : World) (hn : -9223372036854775808 <= n /\ n <= 9223372036854775807) :
  Calls Tryz.prog 121 #[.int .i64 n] w fun e w' => ∃ v, e = .returned v /\ OwnI w' w.heap.size v (digs n) /\ Below w.heap.size w w' := by
 obtain ⟨i0, hi, hz0, hz1, hz2⟩ := info_parts info3
 go_enter Tryz.func121, Tryz.ntmps121
 go_wp2
 go_loopw [0, 3] (fun nv v wr => ∃ (x : Int) (l : List Int), -9223372036854775808 <= x /\ x <= 9223372036854775807 /\ nv = .int .i64 x /\ Hid (l ++ digs x = digs n /\ OwnI wr w.heap.size v l /\ Below w.heap.size w wr)) (fun nv _ _ => (intOf nv).toNat)
 case atStart => exact ⟨n, [], hn.1, hn.2, rfl, rfl, World.ownsRow_made w #[] 0 (Nat.le_refl _) (Nat.zero_le _) rfl, (Below.refl _ _).alloc (Nat.le_refl _) _⟩
 case round =>
  obtain ⟨x, l, hx1, hx2, rfl, H⟩ := hrel
  have hll : l.length <= 5 := by
   have h := congrArg List.length H.out.1
   rw [List.length_append] at h
   by_cases hn0 : 0 <= n
   ·have := digs_len (k := 5) hn0 (by (have : (10000 : Int) ^ 5 = 100000000000000000000 := by decide); omega)
    omega
   ·rw [digs_neg (x := n) (by omega)] at h
    rw [List.length_nil] at h
    omega
  by_cases hx : 0 < x
  ·have hsz := H.out.2.2.size
   have hown := H.out.2.1
   unfold OwnI at hown
   go_wp2_with (at_builtin; refine wpList_append_own _ rfl _ _ 66 rfl w.heap.size 3 i0 (.int .i64 0) 1 8 Tryz.underlying66 hi hz0 hz1 hz2 rfl (by decide) _ _ _ rfl (hown.alloc _) ⟨wr.heap.size, 0, none⟩ 1 1 [.int .i64 (x % 10000)] rfl rfl (one_new _ _ _) (one_int (x % 10000)) (by unfold maxLen; omega) (by omega) (size_ok hsz _) ?_)
   intro v' w4 hown' hgrow _
   have HN : Hid ((l ++ [x % 10000]) ++ digs (x / 10000) = digs n /\ OwnI w4 w.heap.size v' (l ++ [x % 10000]) /\ Below w.heap.size w w4) := by
    refine ⟨by rw [List.append_assoc, List.singleton_append, <- digs_step hx]; exact H.out.1, ?_, (H.out.2.2.alloc hsz _).grown hgrow (size_ok hsz _) (fun j hj => (hown.lt j hj).1)⟩
    unfold OwnI
    rw [cellsI_append, List.length_append]
    exact hown'
   clear hown hown' hgrow H
   go_wp2
   go_roundw
   case rel => exact ⟨x / 10000, _, by omega, by omega, rfl, HN.out⟩
   case measure => simp [intOf]; omega
  ·have HE : Hid (l = digs n) := by have h := H.out.1; rw [digs_neg (x := x) (by omega), List.append_nil] at h; exact h
   go_wp2
   go_ret
   exact ⟨_, rfl, by rw [<- HE.out]; exact H.out.2.1, H.out.2.2⟩
end Go.Proofs.YthbdgdfanpbkeaaGreat
