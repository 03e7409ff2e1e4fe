/-
  The specification's NatCmp and NatSub; the program's NatOk and NatOf; how long the answers are.
-/
import Derived.Test.YtcihpaohmngodaaSpB
namespace Go.Proofs.Ytcihpaohmngodaa
open Go.RowKit

theorem limL_len (l : List Int) : (limL l).length ≤ 40 := by unfold limL; split <;> simp_all
theorem addL_len (a b : List Int) : (addL a b).length ≤ 40 := by unfold addL; split <;> simp [limL_len]
theorem mulL_len (a b : List Int) : (mulL a b).length ≤ 40 := by unfold mulL; split <;> simp [limL_len]
theorem subL_len (a b : List Int) : (subL a b).length ≤ 40 := by
  unfold subL
  split
  · rename_i h
    have ha := okL_true h.1.1
    have hb := okL_true h.1.2
    have h1 := ev_lt ha.2.1
    have h2 := ev_nonneg hb.2.1
    have h3 := pw_le ha.1
    exact digs_len (by omega) (by omega)
  · simp
theorem quoL_len (a b : List Int) : (quoL a b).length ≤ 40 := by
  unfold quoL
  split
  · rename_i h
    have ha := okL_true h.1.1
    have hb := okL_true h.1.2
    have h0 := ev_nonneg ha.2.1
    have h1 := ev_lt ha.2.1
    have h2 := ev_pos hb.2.1 hb.2.2 h.2
    have h3 := pw_le ha.1
    have h4 := Int.ediv_le_self (ev b) h0
    exact digs_len (Int.ediv_nonneg h0 (by omega)) (by omega)
  · simp
theorem remL_len (a b : List Int) : (remL a b).length ≤ 40 := by
  unfold remL
  split
  · rename_i h
    have hb := okL_true h.1.2
    have h2 := ev_pos hb.2.1 hb.2.2 h.2
    have h1 := ev_lt hb.2.1
    have h3 := pw_le hb.1
    have h4 := Int.emod_lt_of_pos (ev a) h2
    exact digs_len (Int.emod_nonneg _ (by omega)) (by omega)
  · simp
theorem digs_len64 {n : Int} (h : -9223372036854775808 ≤ n ∧ n ≤ 9223372036854775807) : (digs n).length ≤ 5 := by
  by_cases h0 : 0 ≤ n
  · exact digs_len h0 (by have : (10000 : Int) ^ 5 = 100000000000000000000 := by decide
                          omega)
  · rw [digs_neg (by omega)]; simp

set_option maxHeartbeats 800000 in
set_option maxRecDepth 100000 in
theorem implOk_any (a : Value) (la : List Int) (w : World) (hl : la.length ≤ 10000000) (wa : Wd la) (ha : IntAt w a la) :
    Calls Try.prog 23 #[a] w fun e w' => e = .returned (.bool (okL la)) ∧ Below w.heap.size w w' := by
  have E := right_any a la w hl ha wa
  clear wa ha
  go_enter Try.func23, Try.ntmps23
  go_wp2_with fail
  refine E.mono ?_
  rintro e w1 ⟨rfl, hb1⟩
  have HB : Hid (Below w.heap.size w w1) := hb1
  clear E hb1
  go_wp2_with fail
  go_ret
  exact ⟨rfl, HB.out⟩

set_option maxHeartbeats 1600000 in
set_option maxRecDepth 100000 in
theorem implOf_any (n : Int) (w : World) (hn : -9223372036854775808 ≤ n ∧ n ≤ 9223372036854775807) :
    Calls Try.prog 37 #[.int .i64 n] w fun e w' => ∃ v, e = .returned v ∧ OwnI w' w.heap.size v (digs n) ∧ Below w.heap.size w w' := by
  obtain ⟨i0, hi, hz0, hz1, hz2⟩ := info_parts info3
  go_enter Try.func37, Try.ntmps37
  go_wp2
  go_loopw [0, 3] (fun nv v wr => ∃ (x : Int) (l : List Int), -9223372036854775808 ≤ x ∧ x ≤ 9223372036854775807 ∧ nv = .int .i64 x ∧ Hid (l ++ digs x = digs n ∧ OwnI wr w.heap.size v l ∧ Below w.heap.size w wr)) (fun nv _ _ => (intOf nv).toNat)
  case atStart => exact ⟨n, [], hn.1, hn.2, rfl, rfl, World.ownsRow_made w #[] 0 (Nat.le_refl _) (Nat.zero_le _) rfl, (Below.refl _ _).alloc (Nat.le_refl _) _⟩
  case round =>
    obtain ⟨x, l, hx1, hx2, rfl, H⟩ := hrel
    have hll : l.length ≤ 5 := by
      have h := congrArg List.length H.out.1
      rw [List.length_append] at h
      by_cases hn0 : 0 ≤ n
      · have := digs_len (k := 5) hn0 (by have : (10000 : Int) ^ 5 = 100000000000000000000 := by decide
                                          omega)
        omega
      · rw [digs_neg (x := n) (by omega)] at h
        rw [List.length_nil] at h
        omega
    by_cases hx : 0 < x
    · have hsz := H.out.2.2.size
      have hown := H.out.2.1
      unfold OwnI at hown
      go_wp2_with (at_builtin; refine wpList_append_own _ rfl _ _ 24 rfl w.heap.size 3 i0 (.int .i64 0) 1 8 Try.underlying24 hi hz0 hz1 hz2 rfl (by decide) _ _ _ rfl (hown.alloc _) ⟨wr.heap.size, 0, none⟩ 1 1 [.int .i64 (x % 10000)] rfl rfl (one_new _ _ _) (one_int (x % 10000)) (by unfold maxLen; omega) (by omega) (size_ok hsz _) ?_)
      intro v' w4 hown' hgrow _
      have HN : Hid ((l ++ [x % 10000]) ++ digs (x / 10000) = digs n ∧ OwnI w4 w.heap.size v' (l ++ [x % 10000]) ∧ Below w.heap.size w w4) := by
        refine ⟨by rw [List.append_assoc, List.singleton_append, ← digs_step hx]; exact H.out.1, ?_, (H.out.2.2.alloc hsz _).grown hgrow (size_ok hsz _) (fun j hj => (hown.lt j hj).1)⟩
        unfold OwnI
        rw [cellsI_append, List.length_append]
        exact hown'
      clear hown hown' hgrow H
      go_wp2
      go_roundw
      case rel => exact ⟨x / 10000, _, by omega, by omega, rfl, HN.out⟩
      case measure => simp [intOf]; omega
    · have HE : Hid (l = digs n) := by have h := H.out.1; rw [digs_neg (x := x) (by omega), List.append_nil] at h; exact h
      go_wp2
      go_ret
      exact ⟨_, rfl, by rw [← HE.out]; exact H.out.2.1, H.out.2.2⟩

set_option maxHeartbeats 1600000 in
set_option maxRecDepth 100000 in
theorem specCmpL_any (a b : Value) (la lb : List Int) (w : World) (hl : la.length ≤ 10000000) (hl2 : lb.length ≤ 10000000) (wa : Wd la) (wb : Wd lb) (ha : IntAt w a la) (hb : IntAt w b lb) :
    Calls Try.prog 48 #[a, b] w fun e w' => e = .returned (.int .i64 (cmpL la lb)) ∧ Below w.heap.size w w' := by
  have HX : Hid (IntAt w a la ∧ IntAt w b lb ∧ Wd la ∧ Wd lb) := ⟨ha, hb, wa, wb⟩
  clear ha hb wa wb
  go_enter Try.func48, Try.ntmps48
  go_wp2_with fail
  refine (specOk_any _ la w hl HX.out.1 HX.out.2.2.1).mono ?_
  rintro e w1 ⟨rfl, hb1⟩
  have HX1 : Hid (IntAt w1 a la ∧ IntAt w1 b lb ∧ Below w.heap.size w w1) := ⟨HX.out.1.below hb1, HX.out.2.1.below hb1, hb1⟩
  clear hb1
  rcases h : okL la with _ | _
  · have HN : Hid (¬ (okL la = true ∧ okL lb = true)) := fun h2 => by rw [h] at h2; simp at h2
    go_wp2_with fail
    go_ret
    exact ⟨congrArg (fun z => Ending.returned (Value.int .i64 z)) (show 0 = cmpL la lb by unfold cmpL; rw [if_neg HN.out]), HX1.out.2.2⟩
  · go_wp2_with fail
    refine (specOk_any _ lb w1 hl2 HX1.out.2.1 HX.out.2.2.2).mono ?_
    rintro e w2 ⟨rfl, hb2⟩
    have HX2 : Hid (IntAt w2 a la ∧ IntAt w2 b lb ∧ Below w.heap.size w w2) := ⟨HX1.out.1.below hb2, HX1.out.2.1.below hb2, HX1.out.2.2.trans (hb2.mono HX1.out.2.2.size)⟩
    clear hb2 HX1
    rcases h2 : okL lb with _ | _
    · have HN : Hid (¬ (okL la = true ∧ okL lb = true)) := fun h3 => by rw [h2] at h3; simp at h3
      go_wp2_with fail
      go_ret
      exact ⟨congrArg (fun z => Ending.returned (Value.int .i64 z)) (show 0 = cmpL la lb by unfold cmpL; rw [if_neg HN.out]), HX2.out.2.2⟩
    · have HK : Hid (okL la = true ∧ okL lb = true) := ⟨h, h2⟩
      have hla := (okL_true h).1
      have hlb := (okL_true h2).1
      have HD : Hid (Dig la ∧ Dig lb ∧ Top la ∧ Top lb) := ⟨(okL_true h).2.1, (okL_true h2).2.1, (okL_true h).2.2, (okL_true h2).2.2⟩
      clear h h2
      go_wp2_with fail
      refine (specCmp_any a b la lb w2 (by omega) (by omega) HD.out.1 HD.out.2.1 HD.out.2.2.1 HD.out.2.2.2 HX2.out.1 HX2.out.2.1).mono ?_
      rintro e w3 ⟨rfl, hb3⟩
      have HE : Hid (cmpI (ev la) (ev lb) = cmpL la lb ∧ Below w.heap.size w w3) := ⟨by unfold cmpL; rw [if_pos HK.out], HX2.out.2.2.trans (hb3.mono HX2.out.2.2.size)⟩
      clear hb3
      go_wp2_with fail
      go_ret
      exact ⟨congrArg (fun z => Ending.returned (Value.int .i64 z)) HE.out.1, HE.out.2⟩

set_option maxHeartbeats 1600000 in
set_option maxRecDepth 100000 in
theorem specSub_any (a b : Value) (la lb : List Int) (w : World) (hl : la.length ≤ 10000000) (hl2 : lb.length ≤ 10000000) (wa : Wd la) (wb : Wd lb) (ha : IntAt w a la) (hb : IntAt w b lb) :
    Calls Try.prog 42 #[a, b] w fun e w' => ∃ v, e = .returned v ∧ OwnI w' w.heap.size v (subL la lb) ∧ Below w.heap.size w w' := by
  have HX : Hid (IntAt w a la ∧ IntAt w b lb ∧ Wd la ∧ Wd lb) := ⟨ha, hb, wa, wb⟩
  clear ha hb wa wb
  go_enter Try.func42, Try.ntmps42
  go_wp2_with fail
  refine (specOk_any _ la w hl HX.out.1 HX.out.2.2.1).mono ?_
  rintro e w1 ⟨rfl, hb1⟩
  have HX1 : Hid (IntAt w1 a la ∧ IntAt w1 b lb ∧ Below w.heap.size w w1) := ⟨HX.out.1.below hb1, HX.out.2.1.below hb1, hb1⟩
  clear hb1
  rcases h : okL la with _ | _
  · have HN : Hid (¬ (okL la = true ∧ okL lb = true)) := fun h2 => by rw [h] at h2; simp at h2
    go_wp2_with fail
    go_ret
    exact ⟨_, rfl, by unfold subL; rw [if_neg (fun h => HN.out h.1)]; exact World.ownsRow_made w1 #[] 0 HX1.out.2.2.size (Nat.zero_le _) rfl, HX1.out.2.2.alloc HX1.out.2.2.size _⟩
  · go_wp2_with fail
    refine (specOk_any _ lb w1 hl2 HX1.out.2.1 HX.out.2.2.2).mono ?_
    rintro e w2 ⟨rfl, hb2⟩
    have HX2 : Hid (IntAt w2 a la ∧ IntAt w2 b lb ∧ Below w.heap.size w w2) := ⟨HX1.out.1.below hb2, HX1.out.2.1.below hb2, HX1.out.2.2.trans (hb2.mono HX1.out.2.2.size)⟩
    clear hb2 HX1
    rcases h2 : okL lb with _ | _
    · have HN : Hid (¬ (okL la = true ∧ okL lb = true)) := fun h3 => by rw [h2] at h3; simp at h3
      go_wp2_with fail
      go_ret
      exact ⟨_, rfl, by unfold subL; rw [if_neg (fun h => HN.out h.1)]; exact World.ownsRow_made w2 #[] 0 HX2.out.2.2.size (Nat.zero_le _) rfl, HX2.out.2.2.alloc HX2.out.2.2.size _⟩
    · have HK : Hid (okL la = true ∧ okL lb = true) := ⟨h, h2⟩
      have hla := (okL_true h).1
      have hlb := (okL_true h2).1
      have HD : Hid (Dig la ∧ Dig lb ∧ Top la ∧ Top lb) := ⟨(okL_true h).2.1, (okL_true h2).2.1, (okL_true h).2.2, (okL_true h2).2.2⟩
      clear h h2
      go_wp2_with fail
      refine (specCmp_any a b la lb w2 (by omega) (by omega) HD.out.1 HD.out.2.1 HD.out.2.2.1 HD.out.2.2.2 HX2.out.1 HX2.out.2.1).mono ?_
      rintro e w3 ⟨rfl, hb3⟩
      have HX3 : Hid (IntAt w3 a la ∧ IntAt w3 b lb ∧ Below w.heap.size w w3) := ⟨HX2.out.1.below hb3, HX2.out.2.1.below hb3, HX2.out.2.2.trans (hb3.mono HX2.out.2.2.size)⟩
      clear hb3
      have HC : Hid ((cmpI (ev la) (ev lb) < 0 ↔ ev la < ev lb)) := cmpI_neg
      generalize cmpI (ev la) (ev lb) = c at *
      by_cases hc : c < 0
      · have HL : Hid (ev la < ev lb) := HC.out.1 hc
        go_wp2_with fail
        go_ret
        exact ⟨_, rfl, by unfold subL; rw [if_neg (fun h => by have := HL.out; omega)]; exact World.ownsRow_made w3 #[] 0 HX3.out.2.2.size (Nat.zero_le _) rfl, HX3.out.2.2.alloc HX3.out.2.2.size _⟩
      · have hle : Hid (ev lb ≤ ev la) := Int.not_lt.1 (fun h => hc (HC.out.2 h))
        go_wp2_with fail
        refine (specSub0_any a b la lb w3 (by omega) HD.out.1 HD.out.2.1 HD.out.2.2.2 hle.out HX3.out.1 HX3.out.2.1).mono ?_
        rintro e w4 ⟨v, rfl, ho4, hb4⟩
        have HO4 : Hid (OwnI w4 w.heap.size v (subL la lb) ∧ Below w.heap.size w w4) := by
          refine ⟨?_, HX3.out.2.2.trans (hb4.mono HX3.out.2.2.size)⟩
          unfold subL
          rw [if_pos ⟨HK.out, hle.out⟩]
          exact ho4.base HX3.out.2.2.size
        clear ho4 hb4
        go_wp2_with fail
        go_ret
        exact ⟨_, rfl, HO4.out⟩
end Go.Proofs.Ytcihpaohmngodaa
