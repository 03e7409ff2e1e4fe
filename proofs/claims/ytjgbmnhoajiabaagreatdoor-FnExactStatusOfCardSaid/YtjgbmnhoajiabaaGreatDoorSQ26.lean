/-
  Texts of the proof.
-/
import Derived.Deep.RegionHeld3
import Derived.Test.YtjgbmnhoajiabaaGreatDoorSQ23
import Derived.Test.YtjgbmnhoajiabaaGreatDoorSQ25
set_option maxRecDepth 100000
namespace Go.Proofs.YtjgbmnhoajiabaaGreatDoor
open Go.RowKit
theorem okL_true {l : List Int} (h : okL l = true) : l.length <= 40 /\ Dig l /\ Top l := (okL_iff l).1 h
def limL (l : List Int) : List Int := if l.length <= 40 then l else []
def cmpL (a b : List Int) : Int := if okL a = true /\ okL b = true then cmpI (ev a) (ev b) else 0
def addL (a b : List Int) : List Int := if okL a = true /\ okL b = true then limL (digs (ev a + ev b)) else []
set_option maxHeartbeats 800000 in
theorem bothRight_any (a b : Value) (la lb : List Int) (w : World) (hl : la.length <= 10000000) (hl2 : lb.length <= 10000000) (wa : Wd la) (wb : Wd lb) (ha : IntAt w a la) (hb : IntAt w b lb) :
  Calls Tryz.prog 206 #[a, b] w fun e w' => e = .returned (.bool (okL la && okL lb)) /\ Below w.heap.size w w' := by
 have HA : Hid (Wd la /\ IntAt w a la) := ⟨wa, ha⟩
 have HB : Hid (Wd lb /\ IntAt w b lb) := ⟨wb, hb⟩
 clear wa wb ha hb
 go_enter Tryz.func206, Tryz.ntmps206
 go_wp2_with fail
 refine (right_any a la w hl HA.out.2 HA.out.1).mono ?_
 rintro e w1 ⟨rfl, hb1⟩
 have HB1 : Hid (IntAt w1 b lb /\ Below w.heap.size w w1) := ⟨HB.out.2.below hb1, hb1⟩
 clear hb1
 rcases h : okL la with _ | _
 ·go_wp2_with fail
  go_ret
  exact ⟨congrArg (fun z => Ending.returned (Value.bool z)) (show false = (okL la && okL lb) by simp [h]), HB1.out.2⟩
 ·go_wp2_with fail
  refine (right_any b lb w1 hl2 HB1.out.1 HB.out.1).mono ?_
  rintro e w2 ⟨rfl, hb2⟩
  have HB2 : Hid (Below w.heap.size w w2) := HB1.out.2.trans (hb2.mono HB1.out.2.size)
  clear hb2
  go_wp2_with fail
  go_ret
  exact ⟨congrArg (fun z => Ending.returned (Value.bool z)) (show okL lb = (okL la && okL lb) by simp [h]), HB2.out⟩
set_option maxHeartbeats 800000 in
theorem implCmp_any (a b : Value) (la lb : List Int) (w : World) (hl : la.length <= 10000000) (hl2 : lb.length <= 10000000) (wa : Wd la) (wb : Wd lb) (ha : IntAt w a la) (hb : IntAt w b lb) :
  Calls Tryz.prog 113 #[a, b] w fun e w' => e = .returned (.int .i64 (cmpL la lb)) /\ Below w.heap.size w w' := by
 have HX : Hid (IntAt w a la /\ IntAt w b lb) := ⟨ha, hb⟩
 have E := bothRight_any a b la lb w hl hl2 wa wb ha hb
 clear wa wb ha hb
 go_enter Tryz.func113, Tryz.ntmps113
 go_wp2_with fail
 refine E.mono ?_
 rintro e w1 ⟨rfl, hb1⟩
 clear E
 have HX1 : Hid (IntAt w1 a la /\ IntAt w1 b lb /\ Below w.heap.size w w1) := ⟨HX.out.1.below hb1, HX.out.2.below hb1, hb1⟩
 clear hb1 HX
 rcases h : (okL la && okL lb) with _ | _
 ·have HN : Hid (¬ (okL la = true /\ okL lb = true)) := fun h2 => by simp [h2.1, h2.2] at h
  go_wp2_with fail
  go_ret
  exact ⟨congrArg (fun z => Ending.returned (Value.int .i64 z)) (show 0 = cmpL la lb by unfold cmpL; rw [if_neg HN.out]), HX1.out.2.2⟩
 ·have HK : Hid (okL la = true /\ okL lb = true) := (by simpa using h : okL la = true /\ okL lb = true)
  have ka := okL_true HK.out.1
  have kb := okL_true HK.out.2
  have HD : Hid (Dig la /\ Dig lb) := ⟨ka.2.1, kb.2.1⟩
  have hla := ka.1
  have hlb := kb.1
  clear ka kb
  go_wp2_with fail
  refine (compare_any a b la lb w1 (by omega) (by omega) HD.out.1 HD.out.2 HX1.out.1 HX1.out.2.1).mono ?_
  rintro e w2 ⟨rfl, hb2⟩
  have HO2 : Hid (cmpI (ev la) (ev lb) = cmpL la lb /\ Below w.heap.size w w2) := ⟨by unfold cmpL; rw [if_pos HK.out], HX1.out.2.2.trans (hb2.mono HX1.out.2.2.size)⟩
  clear hb2
  go_wp2_with fail
  go_ret
  exact ⟨congrArg (fun z => Ending.returned (Value.int .i64 z)) HO2.out.1, HO2.out.2⟩
set_option maxHeartbeats 1600000 in
theorem specOk_any (a : Value) (la : List Int) (w : World) (hl : la.length <= 10000000) (ha : IntAt w a la) (hw : ∀ x ∈ la, -9223372036854775808 <= x /\ x <= 9223372036854775807) :
  Calls Tryz.prog 211 #[a] w fun e w' => e = .returned (.bool (okL la)) /\ Below w.heap.size w w' := by
 obtain ⟨ao, ac, rfl, ha⟩ := ha
 have HA : Hid ((0 < la.length -> ∃ g, ao = some ⟨g, 0, none⟩ /\ g < w.heap.size /\ ∀ j (hj : j < la.length), w.cell? ⟨g, j, none⟩ = some (.int .i64 la[j])) /\ ∀ x ∈ la, -9223372036854775808 <= x /\ x <= 9223372036854775807) := ⟨ha, hw⟩
 clear ha hw
 go_enter Tryz.func211, Tryz.ntmps211
 go_wp2
 go_loopw [3] (fun iv wr => ∃ k : Nat, k <= la.length /\ iv = .int .i64 k /\ Below w.heap.size w wr /\ Hid (∀ j, j < k -> 0 <= la.getD j 0 /\ la.getD j 0 <= 9999)) (fun iv _ => la.length - (intOf iv).toNat)
 case atStart => exact ⟨0, Nat.zero_le _, rfl, Below.refl _ _, fun j hj => by omega⟩
 case round =>
  obtain ⟨k, hk, rfl, hbel, HK⟩ := hrel
  by_cases hlt : k < la.length
  ·obtain ⟨g, hao, hgl, hcs⟩ := HA.out.1 (by omega)
   have hu : wr.cell? ⟨g, k, none⟩ = some (.int .i64 (la.getD k 0)) := by
    rw [hbel.cell (p := ⟨g, k, none⟩) hgl, hcs k hlt]; simp [List.getD, hlt]
   subst hao
   clear hcs hgl
   have HX3 : Hid ((0 <= la.getD k 0 /\ la.getD k 0 <= 9999 -> ∀ j, j < k + 1 -> 0 <= la.getD j 0 /\ la.getD j 0 <= 9999) /\ (¬ (0 <= la.getD k 0 /\ la.getD k 0 <= 9999) -> okL la = false)) := by
    refine ⟨fun h j hj => ?_, fun h => okL_no fun h3 => h (h3.2.1.getD k)⟩
    by_cases e : j = k
    ·rw [e]; exact h
    ·exact HK.out j (by omega)
   clear HK
   have hki : (k : Int) < (la.length : Int) := by omega
   have hk0 : (0 : Int) <= (k : Int) := by omega
   generalize la.getD k 0 = x at *
   by_cases h0 : 0 <= x /\ x <= 9999
   ·go_wp2_with fail
    refine (in_yes x 0 9999 wr h0.1 h0.2).mono ?_
    rintro e w' ⟨rfl, rfl⟩
    go_wp2_with fail
    go_roundw
    case rel => exact ⟨k + 1, by omega, by go_num, hbel, HX3.out.1 h0⟩
    case measure => simp [intOf]; omega
   ·go_wp2_with fail
    refine (in_no x 0 9999 wr (by omega)).mono ?_
    rintro e w' ⟨rfl, rfl⟩
    go_wp2_with fail
    go_ret
    exact ⟨congrArg (fun z => Ending.returned (Value.bool z)) (HX3.out.2 h0).symm, hbel⟩
  ·have hkl : k = la.length := by omega
   subst hkl
   by_cases h40 : la.length <= 40
   ·have hq40 : (la.length : Int) <= 40 := by omega
    by_cases hz : la.length = 0
    ·have hz' : ((la.length : Int) == 0) = true := by simpa using hz
     have HE : Hid (okL la = true) := okL_yes h40 (dig_of_getD HK.out) (fun h => by omega)
     go_wp2
     go_ret
     exact ⟨congrArg (fun z => Ending.returned (Value.bool z)) HE.out.symm, hbel⟩
    ·have hz' : ((la.length : Int) == 0) = false := by simpa using hz
     obtain ⟨g, hao, hgl, hcs⟩ := HA.out.1 (by omega)
     have hu : wr.cell? ⟨g, la.length - 1, none⟩ = some (.int .i64 (la.getD (la.length - 1) 0)) := by
      rw [hbel.cell (p := ⟨g, la.length - 1, none⟩) hgl, hcs (la.length - 1) (by omega)]; simp [List.getD, show la.length - 1 < la.length by omega]
     subst hao
     clear hcs hgl
     have HE : Hid ((la.getD (la.length - 1) 0 ≠ 0 -> okL la = true) /\ (la.getD (la.length - 1) 0 = 0 -> okL la = false)) := ⟨fun h => okL_yes h40 (dig_of_getD HK.out) (fun _ => h), fun h => okL_no (fun h3 => h3.2.2 (by omega) h)⟩
     clear HK
     generalize la.getD (la.length - 1) 0 = x at *
     have hz1 : 1 <= la.length := by omega
     by_cases hx : x = 0
     ·subst hx
      go_wp2
      go_ret
      exact ⟨congrArg (fun z => Ending.returned (Value.bool z)) (HE.out.2 (by trivial)).symm, hbel⟩
     ·have hx' : (x == 0) = false := by simpa using hx
      go_wp2
      go_ret
      exact ⟨congrArg (fun z => Ending.returned (Value.bool z)) (show (x != 0) = okL la by rw [HE.out.1 hx]; simp [hx]), hbel⟩
   ·have hq40 : ¬ (la.length : Int) <= 40 := by omega
    have HE : Hid (okL la = false) := okL_no fun h => h40 h.1
    go_wp2
    go_ret
    exact ⟨congrArg (fun z => Ending.returned (Value.bool z)) HE.out.symm, hbel⟩
set_option maxHeartbeats 1600000 in
theorem specTrim_any (v : Value) (l : List Int) (base : Nat) (w : World) (hl : l.length <= 1000000000) (hd : Dig l) (hv : OwnI w base v l) : Calls Tryz.prog 270 #[v] w fun e w' => ∃ v', e = .returned v' /\ OwnI w' base v' (digs (ev l)) /\ Below w.heap.size w w' := by
 obtain ⟨ao, cap, rfl, hc, hcap, hcm⟩ := hv.shape
 unfold maxLen at hcm
 have HC : Hid (0 < l.length -> ∃ g, ao = some ⟨g, 0, none⟩) := hc
 have HV : Hid (OwnI w base (.slice ao l.length cap) l) := hv
 clear hc hv
 go_enter Tryz.func270, Tryz.ntmps270
 go_wp2
 go_loopw [0] (fun s wr => ∃ k : Nat, k <= l.length /\ s = .slice ao k cap /\ w = wr /\ Hid (∀ j, k <= j -> l.getD j 0 = 0)) (fun s _ => match s with | .slice _ n _ => n | _ => 0)
 case atStart => exact ⟨l.length, Nat.le_refl _, rfl, rfl, fun j hj => getD_past hj⟩
 case round =>
  obtain ⟨k, hk, rfl, rfl, HZ⟩ := hrel
  by_cases h0 : k = 0
  ·subst h0
   have hend : OwnI w base (.slice ao 0 cap) (digs (ev l)) := by
    have e := trim_digs hd hk HZ.out (.inl rfl)
    rw [<- e]
    exact OwnI.cut HV.out hk
   have HE : Hid (OwnI w base (.slice ao 0 cap) (digs (ev l))) := hend
   clear hend
   go_wp2
   go_ret
   exact ⟨_, rfl, HE.out, Below.refl _ _⟩
  ·obtain ⟨g, rfl⟩ := HC.out (by omega)
   obtain ⟨m, rfl⟩ : ∃ m, k = m + 1 := ⟨k - 1, by omega⟩
   have hu := HV.out.cell (j := m) (by omega)
   obtain ⟨x, hx⟩ : ∃ x, l.getD m 0 = x := ⟨_, rfl⟩
   rw [hx] at hu
   have HX : Hid (l.getD m 0 = x) := hx
   clear hx
   by_cases hz : x = 0
   ·subst hz
    go_wp2
    go_roundw
    case rel => exact ⟨m, by omega, by simp, by trivial, fun j hj => by
     by_cases e : j = m
     ·rw [e]; exact HX.out
     ·exact HZ.out j (by omega)⟩
    case measure => simp
   ·have hz' : (x == 0) = false := by simpa using hz
    have hend : OwnI w base (.slice (some ⟨g, 0, none⟩) (m + 1) cap) (digs (ev l)) := by
     have e := trim_digs hd hk HZ.out (.inr (by rw [Nat.add_sub_cancel, HX.out]; exact hz))
     rw [<- e]
     exact OwnI.cut HV.out hk
    have HE : Hid (OwnI w base (.slice (some ⟨g, 0, none⟩) (m + 1) cap) (digs (ev l))) := hend
    clear hend
    go_wp2
    go_ret
    exact ⟨_, rfl, HE.out, Below.refl _ _⟩
set_option maxHeartbeats 1600000 in
theorem specCmp_any (a b : Value) (la lb : List Int) (w : World) (hl : la.length <= 1000000) (hl2 : lb.length <= 1000000) (hda : Dig la) (hdb : Dig lb) (ta : Top la) (tb : Top lb) (ha : IntAt w a la) (hb : IntAt w b lb) :
  Calls Tryz.prog 161 #[a, b] w fun e w' => e = .returned (.int .i64 (cmpI (ev la) (ev lb))) /\ Below w.heap.size w w' := by
 obtain ⟨ao, ac, rfl, HA0⟩ := ha
 obtain ⟨bo, bc, rfl, HB0⟩ := hb
 have HA : Hid (Dig la /\ (0 < la.length -> ∃ g, ao = some ⟨g, 0, none⟩ /\ g < w.heap.size /\ ∀ j (hj : j < la.length), w.cell? ⟨g, j, none⟩ = some (.int .i64 la[j]))) := ⟨hda, HA0⟩
 have HB : Hid (Dig lb /\ (0 < lb.length -> ∃ g, bo = some ⟨g, 0, none⟩ /\ g < w.heap.size /\ ∀ j (hj : j < lb.length), w.cell? ⟨g, j, none⟩ = some (.int .i64 lb[j]))) := ⟨hdb, HB0⟩
 have HT : Hid (Top la /\ Top lb) := ⟨ta, tb⟩
 clear hda hdb HA0 HB0 ta tb
 go_enter Tryz.func161, Tryz.ntmps161
 by_cases hne : la.length = lb.length
 ·have hne' : ((la.length : Int) != (lb.length : Int)) = false := by simp [hne]
  have HNE : Hid (la.length = lb.length) := hne
  clear hne
  go_wp2
  go_loopw [5] (fun s wr => ∃ z : Int, -1 <= z /\ z < (la.length : Int) /\ s = .int .i64 z /\ Below w.heap.size w wr /\ Hid (∀ j : Nat, z < (j : Int) -> la.getD j 0 = lb.getD j 0)) (fun s _ => (intOf s + 1).toNat)
  case atStart => exact ⟨_, by omega, by omega, rfl, Below.refl _ _, fun j hj => by have := HNE.out; rw [getD_past (by omega), getD_past (by omega)]⟩
  case round =>
   obtain ⟨z, hz1, hz2, rfl, hbel, HZ⟩ := hrel
   by_cases hz : z < 0
   ·have e : Hid (ev la = ev lb) := ev_same fun j => HZ.out j (by omega)
    go_wp2
    go_ret
    exact ⟨congrArg (fun z => Ending.returned (Value.int .i64 z)) (cmpI_eq e.out).symm, hbel⟩
   ·have hz0 : 0 <= z := by omega
    have hzl : z.toNat < la.length := by omega
    have hzl2 : z.toNat < lb.length := by have := HNE.out; omega
    have hzb : z < (lb.length : Int) := by omega
    obtain ⟨ga, hao, hgl, hcs⟩ := HA.out.2 (by omega)
    obtain ⟨gb, hbo, hgl2, hcs2⟩ := HB.out.2 (by omega)
    have hua : wr.cell? ⟨ga, z.toNat, none⟩ = some (.int .i64 (la.getD z.toNat 0)) := by
     rw [hbel.cell (p := ⟨ga, z.toNat, none⟩) hgl, hcs z.toNat hzl]; simp [List.getD, hzl]
    have hub : wr.cell? ⟨gb, z.toNat, none⟩ = some (.int .i64 (lb.getD z.toNat 0)) := by
     rw [hbel.cell (p := ⟨gb, z.toNat, none⟩) hgl2, hcs2 z.toNat hzl2]; simp [List.getD, hzl2]
    subst hao hbo
    clear hcs hgl hcs2 hgl2 hzl hzl2
    have HQ : Hid ((la.getD z.toNat 0 < lb.getD z.toNat 0 -> cmpI (ev la) (ev lb) = -1) /\ (lb.getD z.toNat 0 < la.getD z.toNat 0 -> cmpI (ev la) (ev lb) = 1) /\ (la.getD z.toNat 0 = lb.getD z.toNat 0 -> ∀ j : Nat, z - 1 < (j : Int) -> la.getD j 0 = lb.getD j 0)) :=
     ⟨fun h => cmpI_lt (ev_lt_at HA.out.1 HB.out.1 z.toNat (fun j hj => HZ.out j (by omega)) h), fun h => cmpI_gt (ev_lt_at HB.out.1 HA.out.1 z.toNat (fun j hj => (HZ.out j (by omega)).symm) h), fun h j hj => by
      by_cases e : j = z.toNat
      ·rw [e]; exact h
      ·exact HZ.out j (by omega)⟩
    clear HZ hz
    generalize la.getD z.toNat 0 = x at *
    generalize lb.getD z.toNat 0 = y at *
    rcases Int.lt_trichotomy x y with h1 | h1 | h1
    ·go_wp2_with fail
     go_quiet (fail)
     go_wp2_with fail
     go_ret
     exact ⟨congrArg (fun z => Ending.returned (Value.int .i64 z)) (HQ.out.1 h1).symm, (by first | exact below_drewN hbel _ | exact below_drewN (below_drewN hbel _) _)⟩
    ·subst h1
     go_wp2_with fail
     go_quiet (fail)
     go_wp2_with fail
     go_quiet (fail)
     go_wp2_with fail
     go_roundw
     case rel => exact ⟨z - 1, by omega, by omega, rfl, (by first | exact below_drewN hbel _ | exact below_drewN (below_drewN hbel _) _), HQ.out.2.2 (by trivial)⟩
     case measure => simp [intOf]; omega
    ·go_wp2_with fail
     go_quiet (fail)
     go_wp2_with fail
     go_quiet (fail)
     go_wp2_with fail
     go_ret
     exact ⟨congrArg (fun z => Ending.returned (Value.int .i64 z)) (HQ.out.2.1 h1).symm, (by first | exact below_drewN hbel _ | exact below_drewN (below_drewN hbel _) _)⟩
 ·have hne' : ((la.length : Int) == (lb.length : Int)) = false := beq_eq_false_iff_ne.2 (by omega)
  by_cases hlt : la.length < lb.length
  ·have HE : Hid (cmpI (ev la) (ev lb) = -1) := cmpI_lt (Int.not_le.1 fun h => by have := len_le_of_ev HA.out.1 HB.out.1 HT.out.2 h; omega)
   go_wp2
   go_ret
   exact ⟨congrArg (fun z => Ending.returned (Value.int .i64 z)) HE.out.symm, Below.refl _ _⟩
  ·have HE : Hid (cmpI (ev la) (ev lb) = 1) := cmpI_gt (Int.not_le.1 fun h => by have := len_le_of_ev HB.out.1 HA.out.1 HT.out.1 h; omega)
   go_wp2
   go_ret
   exact ⟨congrArg (fun z => Ending.returned (Value.int .i64 z)) HE.out.symm, Below.refl _ _⟩
set_option maxHeartbeats 1600000 in
theorem specOf_any (n : Int) (w : World) (hn : -9223372036854775808 <= n /\ n <= 9223372036854775807) :
  Calls Tryz.prog 163 #[.int .i64 n] w fun e w' => ∃ v, e = .returned v /\ OwnI w' w.heap.size v (digs n) /\ Below w.heap.size w w' := by
 obtain ⟨i0, hi, hz0, hz1, hz2⟩ := info_parts info3
 go_enter Tryz.func163, Tryz.ntmps163
 go_wp2
 go_loopw [0, 3] (fun nv v wr => ∃ (x : Int) (l : List Int), -9223372036854775808 <= x /\ x <= 9223372036854775807 /\ nv = .int .i64 x /\ Hid (l ++ digs x = digs n /\ OwnI wr w.heap.size v l /\ Below w.heap.size w wr)) (fun nv _ _ => (intOf nv).toNat)
 case atStart => exact ⟨n, [], hn.1, hn.2, rfl, rfl, World.ownsRow_made w #[] 0 (Nat.le_refl _) (Nat.zero_le _) rfl, (Below.refl _ _).alloc (Nat.le_refl _) _⟩
 case round =>
  obtain ⟨x, l, hx1, hx2, rfl, H⟩ := hrel
  have hll : l.length <= 5 := by
   have h := congrArg List.length H.out.1
   rw [List.length_append] at h
   by_cases hn0 : 0 <= n
   ·have := digs_len (k := 5) hn0 (by (have : (10000 : Int) ^ 5 = 100000000000000000000 := by decide); omega)
    omega
   ·rw [digs_neg (x := n) (by omega)] at h
    rw [List.length_nil] at h
    omega
  by_cases hx : 0 < x
  ·have hsz := H.out.2.2.size
   have hown := H.out.2.1
   unfold OwnI at hown
   go_wp2_with (at_builtin; refine wpList_append_own _ rfl _ _ 24 rfl w.heap.size 3 i0 (.int .i64 0) 1 8 Tryz.underlying24 hi hz0 hz1 hz2 rfl (by decide) _ _ _ rfl (hown.alloc _) ⟨wr.heap.size, 0, none⟩ 1 1 [.int .i64 (x % 10000)] rfl rfl (one_new _ _ _) (one_int (x % 10000)) (by unfold maxLen; omega) (by omega) (size_ok hsz _) ?_)
   intro v' w4 hown' hgrow _
   have HN : Hid ((l ++ [x % 10000]) ++ digs (x / 10000) = digs n /\ OwnI w4 w.heap.size v' (l ++ [x % 10000]) /\ Below w.heap.size w w4) := by
    refine ⟨by rw [List.append_assoc, List.singleton_append, <- digs_step hx]; exact H.out.1, ?_, (H.out.2.2.alloc hsz _).grown hgrow (size_ok hsz _) (fun j hj => (hown.lt j hj).1)⟩
    unfold OwnI
    rw [cellsI_append, List.length_append]
    exact hown'
   clear hown hown' hgrow H
   go_wp2
   go_roundw
   case rel => exact ⟨x / 10000, _, by omega, by omega, rfl, HN.out⟩
   case measure => simp [intOf]; omega
  ·have HE : Hid (l = digs n) := by have h := H.out.1; rw [digs_neg (x := x) (by omega), List.append_nil] at h; exact h
   go_wp2
   go_ret
   exact ⟨_, rfl, by rw [<- HE.out]; exact H.out.2.1, H.out.2.2⟩
theorem top_of_ge {l : List Int} (hd : Dig l) (h : 0 < l.length -> 10000 ^ (l.length - 1) <= ev l) : Top l := by
 intro h0 hz
 have h1 := h h0
 have h2 := ev_take_succ l (l.length - 1)
 rw [show l.length - 1 + 1 = l.length by omega, ev_take_all l (Nat.le_refl _), hz] at h2
 have h3 := ev_lt (hd.take (l.length - 1))
 have h4 := pw_le (show (l.take (l.length - 1)).length <= l.length - 1 by simp)
 simp only [Int.mul_zero, Int.add_zero] at h2
 omega
theorem dig_snoc {l : List Int} {x : Int} (h : Dig l) (hx : 0 <= x /\ x <= 9999) : Dig (l ++ [x]) := fun y hy => by
 rcases List.mem_append.1 hy with h1 | h1
 ·exact h y h1
 ·simp at h1; subst h1; exact hx
theorem ev_snoc (l : List Int) (x : Int) : ev (l ++ [x]) = ev l + 10000 ^ l.length * x := by rw [ev_append]; simp [ev]
structure Ad (la lb : List Int) (k : Nat) (l : List Int) (c : Int) : Prop where
 len : l.length = k
 dig : Dig l
 val : ev l + 10000 ^ k * c = ev (la.take k) + ev (lb.take k)
 small : 0 <= c /\ c <= 1
 past : k = 0 ∨ k <= la.length ∨ k <= lb.length ∨ (c = 0 /\ l.getD (k - 1) 0 ≠ 0 /\ k = la.length + 1) ∨ (c = 0 /\ l.getD (k - 1) 0 ≠ 0 /\ k = lb.length + 1)
theorem Ad.start (la lb : List Int) : Ad la lb 0 [] 0 := ⟨rfl, Dig.nil, by simp [ev], by omega, .inl rfl⟩
theorem Ad.step {la lb : List Int} {k : Nat} {l : List Int} {c : Int} (h : Ad la lb k l c) (ha : Dig la) (hb : Dig lb) (hgo : k < la.length ∨ k < lb.length ∨ 0 < c) :
  Ad la lb (k + 1) (l ++ [(c + la.getD k 0 + lb.getD k 0) % 10000]) ((c + la.getD k 0 + lb.getD k 0) / 10000) := by
 have h1 := ha.getD k
 have h2 := hb.getD k
 have hs := h.small
 refine ⟨by simp [h.len], dig_snoc h.dig (by omega), ?_, by omega, ?_⟩
 ·rw [ev_snoc, h.len, ev_take_succ, ev_take_succ, pw_succ]
  have hv := h.val
  have e := Int.emod_add_mul_ediv (c + la.getD k 0 + lb.getD k 0) 10000
  generalize (c + la.getD k 0 + lb.getD k 0) % 10000 = r at *
  generalize (c + la.getD k 0 + lb.getD k 0) / 10000 = q at *
  have e' : r = c + la.getD k 0 + lb.getD k 0 - 10000 * q := by omega
  rw [e']
  grind
 ·by_cases hka : k < la.length
  ·exact .inr (.inl (by omega))
  by_cases hkb : k < lb.length
  ·exact .inr (.inr (.inl (by omega)))
  have hc1 : c = 1 := by omega
  have hz : (l ++ [(c + la.getD k 0 + lb.getD k 0) % 10000]).getD (k + 1 - 1) 0 ≠ 0 := by
   rw [getD_past (l := la) (by omega), getD_past (l := lb) (by omega), hc1]
   have hl := h.len
   simp [List.getD, hl]
  have hz2 : (c + la.getD k 0 + lb.getD k 0) / 10000 = 0 := by
   rw [getD_past (l := la) (by omega), getD_past (l := lb) (by omega), hc1]; decide
  rcases h.past with hp | hp | hp | hp | hp
  ·subst hp
   have hv := h.val
   have hn : l = [] := List.eq_nil_of_length_eq_zero h.len
   subst hn
   simp [ev] at hv
   omega
  ·exact .inr (.inr (.inr (.inl ⟨hz2, hz, by omega⟩)))
  ·exact .inr (.inr (.inr (.inr ⟨hz2, hz, by omega⟩)))
  ·omega
  ·omega
theorem Ad.done {la lb : List Int} {k : Nat} {l : List Int} {c : Int} (h : Ad la lb k l c) (ha : Dig la) (hb : Dig lb) (ta : Top la) (tb : Top lb) (h1 : la.length <= k) (h2 : lb.length <= k) (h3 : c = 0) : l = digs (ev la + ev lb) := by
 have hv := h.val
 rw [h3, ev_take_all la h1, ev_take_all lb h2] at hv
 simp at hv
 refine eq_digs_of h.dig ?_ hv
 have hl := h.len
 rcases h.past with hp | hp | hp | hp | hp
 ·intro h0; omega
 ·refine top_of_ge h.dig fun h0 => ?_
  rw [hv, hl]
  have := ev_ge ha ta (by omega)
  rw [show la.length - 1 = k - 1 by omega] at this
  have := ev_nonneg hb
  omega
 ·refine top_of_ge h.dig fun h0 => ?_
  rw [hv, hl]
  have := ev_ge hb tb (by omega)
  rw [show lb.length - 1 = k - 1 by omega] at this
  have := ev_nonneg ha
  omega
 ·intro _; rw [hl]; exact hp.2.1
 ·intro _; rw [hl]; exact hp.2.1
set_option maxHeartbeats 1600000 in
theorem specAdd_any (a b : Value) (la lb : List Int) (w : World) (hl : la.length <= 10000000) (hl2 : lb.length <= 10000000) (wa : Wd la) (wb : Wd lb) (ha : IntAt w a la) (hb : IntAt w b lb) :
  Calls Tryz.prog 233 #[a, b] w fun e w' => ∃ v, e = .returned v /\ OwnI w' w.heap.size v (addL la lb) /\ Below w.heap.size w w' := by
 obtain ⟨i0, hi, hz0, hz1, hz2⟩ := info_parts info3
 have HX : Hid (IntAt w a la /\ IntAt w b lb /\ Wd la /\ Wd lb) := ⟨ha, hb, wa, wb⟩
 obtain ⟨ao, ac, hae, HA0⟩ := ha
 obtain ⟨bo, bc, hbe, HB0⟩ := hb
 subst hae hbe
 clear HA0 HB0 wa wb
 go_enter Tryz.func233, Tryz.ntmps233
 go_wp2_with fail
 refine (specOk_any _ la w hl HX.out.1 HX.out.2.2.1).mono ?_
 rintro e w1 ⟨rfl, hb1⟩
 have HX1 : Hid (IntAt w1 (.slice ao la.length ac) la /\ IntAt w1 (.slice bo lb.length bc) lb /\ Below w.heap.size w w1) := ⟨HX.out.1.below hb1, HX.out.2.1.below hb1, hb1⟩
 clear hb1
 rcases h : okL la with _ | _
 ·have HN : Hid (¬ (okL la = true /\ okL lb = true)) := fun h2 => by rw [h] at h2; simp at h2
  go_wp2_with fail
  go_ret
  refine ⟨_, rfl, by unfold addL; rw [if_neg HN.out]; exact World.ownsRow_made w1 #[] 0 HX1.out.2.2.size (Nat.zero_le _) rfl, HX1.out.2.2.alloc HX1.out.2.2.size _⟩
 ·go_wp2_with fail
  refine (specOk_any _ lb w1 hl2 HX1.out.2.1 HX.out.2.2.2).mono ?_
  rintro e w2 ⟨rfl, hb2⟩
  have HX2 : Hid (IntAt w2 (.slice ao la.length ac) la /\ IntAt w2 (.slice bo lb.length bc) lb /\ Below w.heap.size w w2) := ⟨HX1.out.1.below hb2, HX1.out.2.1.below hb2, HX1.out.2.2.trans (hb2.mono HX1.out.2.2.size)⟩
  clear hb2 HX1
  rcases h2 : okL lb with _ | _
  ·have HN : Hid (¬ (okL la = true /\ okL lb = true)) := fun h3 => by rw [h2] at h3; simp at h3
   go_wp2_with fail
   go_ret
   refine ⟨_, rfl, by unfold addL; rw [if_neg HN.out]; exact World.ownsRow_made w2 #[] 0 HX2.out.2.2.size (Nat.zero_le _) rfl, HX2.out.2.2.alloc HX2.out.2.2.size _⟩
  ·have HK : Hid (okL la = true /\ okL lb = true) := ⟨h, h2⟩
   have hla := (okL_true h).1
   have hlb := (okL_true h2).1
   have HD : Hid (Dig la /\ Dig lb /\ Top la /\ Top lb) := ⟨(okL_true h).2.1, (okL_true h2).2.1, (okL_true h).2.2, (okL_true h2).2.2⟩
   clear h h2
   have HCA : Hid (0 < la.length -> ∃ g, ao = some ⟨g, 0, none⟩ /\ g < w2.heap.size /\ ∀ j (hj : j < la.length), w2.cell? ⟨g, j, none⟩ = some (.int .i64 la[j])) := by
    obtain ⟨_, _, he, h⟩ := HX2.out.1
    simp only [Value.slice.injEq, true_and] at he
    obtain ⟨rfl, rfl⟩ := he
    exact h
   have HCB : Hid (0 < lb.length -> ∃ g, bo = some ⟨g, 0, none⟩ /\ g < w2.heap.size /\ ∀ j (hj : j < lb.length), w2.cell? ⟨g, j, none⟩ = some (.int .i64 lb[j])) := by
    obtain ⟨_, _, he, h⟩ := HX2.out.2.1
    simp only [Value.slice.injEq, true_and] at he
    obtain ⟨rfl, rfl⟩ := he
    exact h
   go_wp2_with fail
   go_loopw [5, 6, 7] (fun v cv iv wr => ∃ (k : Nat) (l : List Int) (c : Int), k <= 41 /\ iv = .int .i64 k /\ cv = .int .i64 c /\ 0 <= c /\ c <= 1 /\ Hid (Ad la lb k l c /\ OwnI wr w2.heap.size v l /\ Below w2.heap.size w2 wr)) (fun _ _ iv _ => 42 - (intOf iv).toNat)
   case atStart => exact ⟨0, [], 0, by omega, rfl, rfl, by omega, by omega, Ad.start _ _, World.ownsRow_made w2 #[] 0 (Nat.le_refl _) (Nat.zero_le _) rfl, (Below.refl _ _).alloc (Nat.le_refl _) _⟩
   case round =>
    obtain ⟨k, l, c, hk, rfl, rfl, hc0, hc1, H⟩ := hrel
    have hll : l.length = k := H.out.1.len
    by_cases hgo : k < la.length ∨ k < lb.length ∨ 0 < c
    ·have hk1 : k <= 40 := by
      rcases H.out.1.past with h | h | h | h | h <;> omega
     by_cases hka : k < la.length
     ·by_cases hkb : k < lb.length
      ·
       obtain ⟨ga, hao, hgl, hcs⟩ := HCA.out (by omega)
       have hua : wr.cell? ⟨ga, k, none⟩ = some (.int .i64 (la.getD k 0)) := by
        rw [H.out.2.2.cell (p := ⟨ga, k, none⟩) hgl, hcs k hka]; simp [List.getD, hka]
       subst hao
       clear hcs hgl
       have hki : (k : Int) < (la.length : Int) := by omega
       obtain ⟨gb, hbo, hgl, hcs⟩ := HCB.out (by omega)
       have hub : wr.cell? ⟨gb, k, none⟩ = some (.int .i64 (lb.getD k 0)) := by
        rw [H.out.2.2.cell (p := ⟨gb, k, none⟩) hgl, hcs k hkb]; simp [List.getD, hkb]
       subst hbo
       clear hcs hgl
       have hkj : (k : Int) < (lb.length : Int) := by omega
       have HS := H.out.1.step HD.out.1 HD.out.2.1 (by omega)
       have hxa := HD.out.1.getD k
       have hxb := HD.out.2.1.getD k
       generalize la.getD k 0 = x at *
       generalize lb.getD k 0 = y at *
       have hsz := H.out.2.2.size
       have hown := H.out.2.1
       unfold OwnI at hown
       have hk0 : (0 : Int) <= (k : Int) := by omega
       have HSS : Hid (Ad la lb (k + 1) (l ++ [(c + x + y) % 10000]) ((c + x + y) / 10000)) := HS
       clear HS
       go_wp2_with (at_builtin; refine wpList_append_own _ rfl _ _ 24 rfl w2.heap.size 3 i0 (.int .i64 0) 1 8 Tryz.underlying24 hi hz0 hz1 hz2 rfl (by decide) _ _ _ rfl (hown.alloc _) ⟨wr.heap.size, 0, none⟩ 1 1 [.int .i64 ((c + x + y) % 10000)] rfl rfl (one_new _ _ _) (one_int ((c + x + y) % 10000)) (by unfold maxLen; omega) (by omega) (size_ok hsz _) ?_)
       intro v' w4 hown' hgrow _
       have HN : Hid (Ad la lb (k + 1) (l ++ [(c + x + y) % 10000]) ((c + x + y) / 10000) /\ OwnI w4 w2.heap.size v' (l ++ [(c + x + y) % 10000]) /\ Below w2.heap.size w2 w4) := by
        refine ⟨HSS.out, ?_, (H.out.2.2.alloc hsz _).grown hgrow (size_ok hsz _) (fun j hj => (hown.lt j hj).1)⟩
        unfold OwnI
        rw [cellsI_append, List.length_append, hll]
        exact hown'
       clear hown hown' hgrow H HSS
       go_wp2
       go_roundw
       case rel => exact ⟨k + 1, _, _, by omega, by go_num, rfl, by omega, by omega, HN.out⟩
       case measure => simp [intOf]; omega
      ·
       obtain ⟨ga, hao, hgl, hcs⟩ := HCA.out (by omega)
       have hua : wr.cell? ⟨ga, k, none⟩ = some (.int .i64 (la.getD k 0)) := by
        rw [H.out.2.2.cell (p := ⟨ga, k, none⟩) hgl, hcs k hka]; simp [List.getD, hka]
       subst hao
       clear hcs hgl
       have hki : (k : Int) < (la.length : Int) := by omega
       have hkj : ¬ (k : Int) < (lb.length : Int) := by omega
       have HS := H.out.1.step HD.out.1 HD.out.2.1 (by omega)
       rw [getD_past (l := lb) (show lb.length <= k by omega)] at HS
       simp only [Int.add_zero] at HS
       have hxa := HD.out.1.getD k
       have hxb := HD.out.2.1.getD k
       generalize la.getD k 0 = x at *
       generalize lb.getD k 0 = y at *
       have hsz := H.out.2.2.size
       have hown := H.out.2.1
       unfold OwnI at hown
       have hk0 : (0 : Int) <= (k : Int) := by omega
       have HSS : Hid (Ad la lb (k + 1) (l ++ [(c + x) % 10000]) ((c + x) / 10000)) := HS
       clear HS
       go_wp2_with (at_builtin; refine wpList_append_own _ rfl _ _ 24 rfl w2.heap.size 3 i0 (.int .i64 0) 1 8 Tryz.underlying24 hi hz0 hz1 hz2 rfl (by decide) _ _ _ rfl (hown.alloc _) ⟨wr.heap.size, 0, none⟩ 1 1 [.int .i64 ((c + x) % 10000)] rfl rfl (one_new _ _ _) (one_int ((c + x) % 10000)) (by unfold maxLen; omega) (by omega) (size_ok hsz _) ?_)
       intro v' w4 hown' hgrow _
       have HN : Hid (Ad la lb (k + 1) (l ++ [(c + x) % 10000]) ((c + x) / 10000) /\ OwnI w4 w2.heap.size v' (l ++ [(c + x) % 10000]) /\ Below w2.heap.size w2 w4) := by
        refine ⟨HSS.out, ?_, (H.out.2.2.alloc hsz _).grown hgrow (size_ok hsz _) (fun j hj => (hown.lt j hj).1)⟩
        unfold OwnI
        rw [cellsI_append, List.length_append, hll]
        exact hown'
       clear hown hown' hgrow H HSS
       go_wp2
       go_roundw
       case rel => exact ⟨k + 1, _, _, by omega, by go_num, rfl, by omega, by omega, HN.out⟩
       case measure => simp [intOf]; omega
     ·by_cases hkb : k < lb.length
      ·
       have hki : ¬ (k : Int) < (la.length : Int) := by omega
       obtain ⟨gb, hbo, hgl, hcs⟩ := HCB.out (by omega)
       have hub : wr.cell? ⟨gb, k, none⟩ = some (.int .i64 (lb.getD k 0)) := by
        rw [H.out.2.2.cell (p := ⟨gb, k, none⟩) hgl, hcs k hkb]; simp [List.getD, hkb]
       subst hbo
       clear hcs hgl
       have hkj : (k : Int) < (lb.length : Int) := by omega
       have HS := H.out.1.step HD.out.1 HD.out.2.1 (by omega)
       rw [getD_past (l := la) (show la.length <= k by omega)] at HS
       simp only [Int.add_zero] at HS
       have hxa := HD.out.1.getD k
       have hxb := HD.out.2.1.getD k
       generalize la.getD k 0 = x at *
       generalize lb.getD k 0 = y at *
       have hsz := H.out.2.2.size
       have hown := H.out.2.1
       unfold OwnI at hown
       have hk0 : (0 : Int) <= (k : Int) := by omega
       have HSS : Hid (Ad la lb (k + 1) (l ++ [(c + y) % 10000]) ((c + y) / 10000)) := HS
       clear HS
       go_wp2_with (at_builtin; refine wpList_append_own _ rfl _ _ 24 rfl w2.heap.size 3 i0 (.int .i64 0) 1 8 Tryz.underlying24 hi hz0 hz1 hz2 rfl (by decide) _ _ _ rfl (hown.alloc _) ⟨wr.heap.size, 0, none⟩ 1 1 [.int .i64 ((c + y) % 10000)] rfl rfl (one_new _ _ _) (one_int ((c + y) % 10000)) (by unfold maxLen; omega) (by omega) (size_ok hsz _) ?_)
       intro v' w4 hown' hgrow _
       have HN : Hid (Ad la lb (k + 1) (l ++ [(c + y) % 10000]) ((c + y) / 10000) /\ OwnI w4 w2.heap.size v' (l ++ [(c + y) % 10000]) /\ Below w2.heap.size w2 w4) := by
        refine ⟨HSS.out, ?_, (H.out.2.2.alloc hsz _).grown hgrow (size_ok hsz _) (fun j hj => (hown.lt j hj).1)⟩
        unfold OwnI
        rw [cellsI_append, List.length_append, hll]
        exact hown'
       clear hown hown' hgrow H HSS
       go_wp2
       go_roundw
       case rel => exact ⟨k + 1, _, _, by omega, by go_num, rfl, by omega, by omega, HN.out⟩
       case measure => simp [intOf]; omega
      ·have hcp : 0 < c := by omega
       have hki : ¬ (k : Int) < (la.length : Int) := by omega
       have hkj : ¬ (k : Int) < (lb.length : Int) := by omega
       have HS := H.out.1.step HD.out.1 HD.out.2.1 (by omega)
       rw [getD_past (l := la) (show la.length <= k by omega)] at HS
       rw [getD_past (l := lb) (show lb.length <= k by omega)] at HS
       simp only [Int.add_zero] at HS
       have hxa := HD.out.1.getD k
       have hxb := HD.out.2.1.getD k
       generalize la.getD k 0 = x at *
       generalize lb.getD k 0 = y at *
       have hsz := H.out.2.2.size
       have hown := H.out.2.1
       unfold OwnI at hown
       have hk0 : (0 : Int) <= (k : Int) := by omega
       have HSS : Hid (Ad la lb (k + 1) (l ++ [(c) % 10000]) ((c) / 10000)) := HS
       clear HS
       go_wp2_with (at_builtin; refine wpList_append_own _ rfl _ _ 24 rfl w2.heap.size 3 i0 (.int .i64 0) 1 8 Tryz.underlying24 hi hz0 hz1 hz2 rfl (by decide) _ _ _ rfl (hown.alloc _) ⟨wr.heap.size, 0, none⟩ 1 1 [.int .i64 ((c) % 10000)] rfl rfl (one_new _ _ _) (one_int ((c) % 10000)) (by unfold maxLen; omega) (by omega) (size_ok hsz _) ?_)
       intro v' w4 hown' hgrow _
       have HN : Hid (Ad la lb (k + 1) (l ++ [(c) % 10000]) ((c) / 10000) /\ OwnI w4 w2.heap.size v' (l ++ [(c) % 10000]) /\ Below w2.heap.size w2 w4) := by
        refine ⟨HSS.out, ?_, (H.out.2.2.alloc hsz _).grown hgrow (size_ok hsz _) (fun j hj => (hown.lt j hj).1)⟩
        unfold OwnI
        rw [cellsI_append, List.length_append, hll]
        exact hown'
       clear hown hown' hgrow H HSS
       go_wp2
       go_roundw
       case rel => exact ⟨k + 1, _, _, by omega, by go_num, rfl, by omega, by omega, HN.out⟩
       case measure => simp [intOf]; omega
    ·have hi1 : ¬ (k : Int) < (la.length : Int) := by omega
     have hi2 : ¬ (k : Int) < (lb.length : Int) := by omega
     have hi3 : ¬ (0 : Int) < c := by omega
     have HE : Hid (l = digs (ev la + ev lb)) := H.out.1.done HD.out.1 HD.out.2.1 HD.out.2.2.1 HD.out.2.2.2 (by omega) (by omega) (by omega)
     have HBB : Hid (Below w.heap.size w wr /\ w.heap.size <= wr.heap.size) := ⟨HX2.out.2.2.trans (H.out.2.2.mono HX2.out.2.2.size), (HX2.out.2.2.trans (H.out.2.2.mono HX2.out.2.2.size)).size⟩
     obtain ⟨vo, vc, hve, _⟩ := H.out.2.1.shape
     subst hve
     by_cases h40 : l.length <= 40
     ·have h40' : ¬ (40 : Int) < (l.length : Int) := by omega
      go_wp2
      go_ret
      refine ⟨_, rfl, ?_, HBB.out.1⟩
      have ho := H.out.2.1
      unfold addL limL
      rw [if_pos HK.out, <- HE.out, if_pos h40]
      have hob := ho.base HX2.out.2.2.size
      rw [hll] at hob
      exact hob
     ·have h40' : (40 : Int) < (l.length : Int) := by omega
      go_wp2
      go_ret
      refine ⟨_, rfl, ?_, HBB.out.1.alloc HBB.out.2 _⟩
      unfold addL limL
      rw [if_pos HK.out, <- HE.out, if_neg h40]
      exact World.ownsRow_made wr #[] 0 HBB.out.2 (Nat.zero_le _) rfl
structure Su (la lb : List Int) (k : Nat) (l : List Int) (c : Int) : Prop where
 len : l.length = k
 dig : Dig l
 val : ev l - 10000 ^ k * c = ev (la.take k) - ev (lb.take k)
 small : 0 <= c /\ c <= 1
theorem Su.start (la lb : List Int) : Su la lb 0 [] 0 := ⟨rfl, Dig.nil, by simp [ev], by omega⟩
theorem Su.stepNo {la lb : List Int} {k : Nat} {l : List Int} {c : Int} (h : Su la lb k l c) (ha : Dig la) (hb : Dig lb) (hn : 0 <= la.getD k 0 - c - lb.getD k 0) : Su la lb (k + 1) (l ++ [la.getD k 0 - c - lb.getD k 0]) 0 := by
 have h1 := ha.getD k
 have h2 := hb.getD k
 have hs := h.small
 refine ⟨by simp [h.len], dig_snoc h.dig (by omega), ?_, by omega⟩
 rw [ev_snoc, h.len, ev_take_succ, ev_take_succ]
 have hv := h.val
 grind
theorem Su.stepLent {la lb : List Int} {k : Nat} {l : List Int} {c : Int} (h : Su la lb k l c) (ha : Dig la) (hb : Dig lb) (hn : la.getD k 0 - c - lb.getD k 0 < 0) : Su la lb (k + 1) (l ++ [la.getD k 0 - c - lb.getD k 0 + 10000]) 1 := by
 have h1 := ha.getD k
 have h2 := hb.getD k
 have hs := h.small
 refine ⟨by simp [h.len], dig_snoc h.dig (by omega), ?_, by omega⟩
 rw [ev_snoc, h.len, ev_take_succ, ev_take_succ, pw_succ]
 have hv := h.val
 grind
theorem Su.done {la lb : List Int} {l : List Int} {c : Int} (h : Su la lb la.length l c) (ha : Dig la) (hb : Dig lb) (tb : Top lb) (hle : ev lb <= ev la) : ev l = ev la - ev lb := by
 have hl := len_le_of_ev ha hb tb hle
 have hv := h.val
 rw [ev_take_all la (Nat.le_refl _), ev_take_all lb hl] at hv
 have hv2 : ev l + 10000 ^ la.length * (-c) = ev la - ev lb := by rw [Int.mul_neg]; omega
 have h1 := ev_lt h.dig
 rw [h.len] at h1
 have := ev_lt ha
 have := ev_nonneg hb
 exact (no_carry hv2 (ev_nonneg h.dig) h1 (by omega) (by omega)).2
set_option maxHeartbeats 1600000 in
theorem specSub0_any (a b : Value) (la lb : List Int) (w : World) (hl : la.length <= 1000) (hda : Dig la) (hdb : Dig lb) (htb : Top lb) (hle : ev lb <= ev la) (ha : IntAt w a la) (hb : IntAt w b lb) :
  Calls Tryz.prog 273 #[a, b] w fun e w' => ∃ v, e = .returned v /\ OwnI w' w.heap.size v (digs (ev la - ev lb)) /\ Below w.heap.size w w' := by
 obtain ⟨i0, hi, hz0, hz1, hz2⟩ := info_parts info3
 have hl2 := len_le_of_ev hda hdb htb hle
 obtain ⟨ao, ac, rfl, HA0⟩ := ha
 obtain ⟨bo, bc, rfl, HB0⟩ := hb
 have HA : Hid (Dig la /\ (0 < la.length -> ∃ g, ao = some ⟨g, 0, none⟩ /\ g < w.heap.size /\ ∀ j (hj : j < la.length), w.cell? ⟨g, j, none⟩ = some (.int .i64 la[j]))) := ⟨hda, HA0⟩
 have HB : Hid (Dig lb /\ Top lb /\ ev lb <= ev la /\ (0 < lb.length -> ∃ g, bo = some ⟨g, 0, none⟩ /\ g < w.heap.size /\ ∀ j (hj : j < lb.length), w.cell? ⟨g, j, none⟩ = some (.int .i64 lb[j]))) := ⟨hdb, htb, hle, HB0⟩
 clear hda hdb HA0 HB0 htb hle
 go_enter Tryz.func273, Tryz.ntmps273
 go_wp2
 go_loopw [5, 6, 7] (fun v cv iv wr => ∃ (k : Nat) (l : List Int) (c : Int), k <= la.length /\ iv = .int .i64 k /\ cv = .int .i64 c /\ 0 <= c /\ c <= 1 /\ Hid (Su la lb k l c /\ OwnI wr w.heap.size v l /\ Below w.heap.size w wr)) (fun _ _ iv _ => la.length - (intOf iv).toNat)
 case atStart => exact ⟨0, [], 0, by omega, rfl, rfl, by omega, by omega, Su.start _ _, World.ownsRow_made w #[] 0 (Nat.le_refl _) (Nat.zero_le _) rfl, (Below.refl _ _).alloc (Nat.le_refl _) _⟩
 case round =>
  obtain ⟨k, l, c, hk, rfl, rfl, hc0, hc1, H⟩ := hrel
  have hll : l.length = k := H.out.1.len
  by_cases hka : k < la.length
  ·by_cases hkb : k < lb.length
   ·
    obtain ⟨ga, hao, hgl, hcs⟩ := HA.out.2 (by omega)
    have hua : wr.cell? ⟨ga, k, none⟩ = some (.int .i64 (la.getD k 0)) := by
     rw [H.out.2.2.cell (p := ⟨ga, k, none⟩) hgl, hcs k hka]; simp [List.getD, hka]
    subst hao
    clear hcs hgl
    obtain ⟨gb, hbo, hgl, hcs⟩ := HB.out.2.2.2 (by omega)
    have hub : wr.cell? ⟨gb, k, none⟩ = some (.int .i64 (lb.getD k 0)) := by
     rw [H.out.2.2.cell (p := ⟨gb, k, none⟩) hgl, hcs k hkb]; simp [List.getD, hkb]
    subst hbo
    clear hcs hgl
    have hkj : (k : Int) < (lb.length : Int) := by omega
    have HY : Hid (lb.getD k 0 = lb.getD k 0) := rfl
    have hxa := HA.out.1.getD k
    have hxb := HB.out.1.getD k
    have hfull := H.out.1.stepNo HA.out.1 HB.out.1
    have hlent := H.out.1.stepLent HA.out.1 HB.out.1
    clear HY
    generalize la.getD k 0 = x at *
    generalize lb.getD k 0 = y at *
    have hsz := H.out.2.2.size
    have hown := H.out.2.1
    unfold OwnI at hown
    have hk0 : (0 : Int) <= (k : Int) := by omega
    have hki : (k : Int) < (la.length : Int) := by omega
    by_cases hneg : x - c - y < 0
    ·have HSS : Hid (Su la lb (k + 1) (l ++ [x - c - y + 10000]) 1) := hlent hneg
     clear hfull hlent
     go_wp2_with (at_builtin; refine wpList_append_own _ rfl _ _ 24 rfl w.heap.size 3 i0 (.int .i64 0) 1 8 Tryz.underlying24 hi hz0 hz1 hz2 rfl (by decide) _ _ _ rfl (hown.alloc _) ⟨wr.heap.size, 0, none⟩ 1 1 [.int .i64 (x - c - y + 10000)] rfl rfl (one_new _ _ _) (one_int (x - c - y + 10000)) (by unfold maxLen; omega) (by omega) (size_ok hsz _) ?_)
     intro v' w4 hown' hgrow _
     have HN : Hid (Su la lb (k + 1) (l ++ [x - c - y + 10000]) 1 /\ OwnI w4 w.heap.size v' (l ++ [x - c - y + 10000]) /\ Below w.heap.size w w4) := by
      refine ⟨HSS.out, ?_, (H.out.2.2.alloc hsz _).grown hgrow (size_ok hsz _) (fun j hj => (hown.lt j hj).1)⟩
      unfold OwnI
      rw [cellsI_append, List.length_append, hll]
      exact hown'
     clear hown hown' hgrow H HSS
     go_wp2
     go_roundw
     case rel => exact ⟨k + 1, _, 1, by omega, by go_num, rfl, by omega, by omega, HN.out⟩
     case measure => simp [intOf]; omega
    ·have HSS : Hid (Su la lb (k + 1) (l ++ [x - c - y]) 0) := hfull (by omega)
     clear hfull hlent
     go_wp2_with (at_builtin; refine wpList_append_own _ rfl _ _ 24 rfl w.heap.size 3 i0 (.int .i64 0) 1 8 Tryz.underlying24 hi hz0 hz1 hz2 rfl (by decide) _ _ _ rfl (hown.alloc _) ⟨wr.heap.size, 0, none⟩ 1 1 [.int .i64 (x - c - y)] rfl rfl (one_new _ _ _) (one_int (x - c - y)) (by unfold maxLen; omega) (by omega) (size_ok hsz _) ?_)
     intro v' w4 hown' hgrow _
     have HN : Hid (Su la lb (k + 1) (l ++ [x - c - y]) 0 /\ OwnI w4 w.heap.size v' (l ++ [x - c - y]) /\ Below w.heap.size w w4) := by
      refine ⟨HSS.out, ?_, (H.out.2.2.alloc hsz _).grown hgrow (size_ok hsz _) (fun j hj => (hown.lt j hj).1)⟩
      unfold OwnI
      rw [cellsI_append, List.length_append, hll]
      exact hown'
     clear hown hown' hgrow H HSS
     go_wp2
     go_roundw
     case rel => exact ⟨k + 1, _, 0, by omega, by go_num, rfl, by omega, by omega, HN.out⟩
     case measure => simp [intOf]; omega
   ·
    obtain ⟨ga, hao, hgl, hcs⟩ := HA.out.2 (by omega)
    have hua : wr.cell? ⟨ga, k, none⟩ = some (.int .i64 (la.getD k 0)) := by
     rw [H.out.2.2.cell (p := ⟨ga, k, none⟩) hgl, hcs k hka]; simp [List.getD, hka]
    subst hao
    clear hcs hgl
    have hkj : ¬ (k : Int) < (lb.length : Int) := by omega
    have HY : Hid (lb.getD k 0 = 0) := getD_past (by omega)
    have hxa := HA.out.1.getD k
    have hxb := HB.out.1.getD k
    have hfull := H.out.1.stepNo HA.out.1 HB.out.1
    have hlent := H.out.1.stepLent HA.out.1 HB.out.1
    rw [HY.out] at hfull hlent
    simp only [Int.sub_zero] at hfull hlent
    clear HY
    generalize la.getD k 0 = x at *
    generalize lb.getD k 0 = y at *
    have hsz := H.out.2.2.size
    have hown := H.out.2.1
    unfold OwnI at hown
    have hk0 : (0 : Int) <= (k : Int) := by omega
    have hki : (k : Int) < (la.length : Int) := by omega
    by_cases hneg : x - c < 0
    ·have HSS : Hid (Su la lb (k + 1) (l ++ [x - c + 10000]) 1) := hlent hneg
     clear hfull hlent
     go_wp2_with (at_builtin; refine wpList_append_own _ rfl _ _ 24 rfl w.heap.size 3 i0 (.int .i64 0) 1 8 Tryz.underlying24 hi hz0 hz1 hz2 rfl (by decide) _ _ _ rfl (hown.alloc _) ⟨wr.heap.size, 0, none⟩ 1 1 [.int .i64 (x - c + 10000)] rfl rfl (one_new _ _ _) (one_int (x - c + 10000)) (by unfold maxLen; omega) (by omega) (size_ok hsz _) ?_)
     intro v' w4 hown' hgrow _
     have HN : Hid (Su la lb (k + 1) (l ++ [x - c + 10000]) 1 /\ OwnI w4 w.heap.size v' (l ++ [x - c + 10000]) /\ Below w.heap.size w w4) := by
      refine ⟨HSS.out, ?_, (H.out.2.2.alloc hsz _).grown hgrow (size_ok hsz _) (fun j hj => (hown.lt j hj).1)⟩
      unfold OwnI
      rw [cellsI_append, List.length_append, hll]
      exact hown'
     clear hown hown' hgrow H HSS
     go_wp2
     go_roundw
     case rel => exact ⟨k + 1, _, 1, by omega, by go_num, rfl, by omega, by omega, HN.out⟩
     case measure => simp [intOf]; omega
    ·have HSS : Hid (Su la lb (k + 1) (l ++ [x - c]) 0) := hfull (by omega)
     clear hfull hlent
     go_wp2_with (at_builtin; refine wpList_append_own _ rfl _ _ 24 rfl w.heap.size 3 i0 (.int .i64 0) 1 8 Tryz.underlying24 hi hz0 hz1 hz2 rfl (by decide) _ _ _ rfl (hown.alloc _) ⟨wr.heap.size, 0, none⟩ 1 1 [.int .i64 (x - c)] rfl rfl (one_new _ _ _) (one_int (x - c)) (by unfold maxLen; omega) (by omega) (size_ok hsz _) ?_)
     intro v' w4 hown' hgrow _
     have HN : Hid (Su la lb (k + 1) (l ++ [x - c]) 0 /\ OwnI w4 w.heap.size v' (l ++ [x - c]) /\ Below w.heap.size w w4) := by
      refine ⟨HSS.out, ?_, (H.out.2.2.alloc hsz _).grown hgrow (size_ok hsz _) (fun j hj => (hown.lt j hj).1)⟩
      unfold OwnI
      rw [cellsI_append, List.length_append, hll]
      exact hown'
     clear hown hown' hgrow H HSS
     go_wp2
     go_roundw
     case rel => exact ⟨k + 1, _, 0, by omega, by go_num, rfl, by omega, by omega, HN.out⟩
     case measure => simp [intOf]; omega
  ·have hkl : k = la.length := by omega
   subst hkl
   have HE : Hid (ev l = ev la - ev lb /\ Dig l) := ⟨H.out.1.done HA.out.1 HB.out.1 HB.out.2.1 HB.out.2.2.1, H.out.1.dig⟩
   go_wp2_with fail
   refine (specTrim_any _ l w.heap.size wr (by omega) HE.out.2 H.out.2.1).mono ?_
   rintro e w3 ⟨u, rfl, ho3, hb3⟩
   rw [HE.out.1] at ho3
   have HF : Hid (OwnI w3 w.heap.size u (digs (ev la - ev lb)) /\ Below w.heap.size w w3) := ⟨ho3, H.out.2.2.trans (hb3.mono H.out.2.2.size)⟩
   clear ho3 hb3
   go_wp2
   go_ret
   exact ⟨_, rfl, HF.out⟩
end Go.Proofs.YtjgbmnhoajiabaaGreatDoor
