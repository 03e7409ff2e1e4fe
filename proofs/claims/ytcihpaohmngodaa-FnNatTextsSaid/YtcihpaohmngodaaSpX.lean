/-
  The specification's NatMul and NatDiv.
-/
import Derived.Test.YtcihpaohmngodaaSpE
namespace Go.Proofs.Ytcihpaohmngodaa
open Go.RowKit
theorem OwnI.empty (w : World) {base : Nat} (h : base ≤ w.heap.size) : OwnI (w.alloc (.cells #[] 3)) base (.slice (some ⟨w.heap.size, 0, none⟩) 0 0) [] := World.ownsRow_made w #[] 0 h (Nat.zero_le _) rfl
theorem OwnI.empty2 (w : World) (o : Obj) {base : Nat} (h : base ≤ w.heap.size) : OwnI ((w.alloc o).alloc (.cells #[] 3)) base (.slice (some ⟨w.heap.size + 1, 0, none⟩) 0 0) [] := by
  have h2 := OwnI.empty (base := base) (w.alloc o) (size_ok h o)
  have e : (w.alloc o).heap.size = w.heap.size + 1 := by simp
  rw [e] at h2
  exact h2

set_option maxHeartbeats 1600000 in
set_option maxRecDepth 100000 in
theorem specMul_any (a b : Value) (la lb : List Int) (w : World) (hl : la.length ≤ 10000000) (hl2 : lb.length ≤ 10000000) (wa : Wd la) (wb : Wd lb) (ha : IntAt w a la) (hb : IntAt w b lb) :
    Calls Try.prog 50 #[a, b] w fun e w' => ∃ v, e = .returned v ∧ OwnI w' w.heap.size v (mulL la lb) ∧ Below w.heap.size w w' := by
  have HX : Hid (IntAt w a la ∧ IntAt w b lb ∧ Wd la ∧ Wd lb) := ⟨ha, hb, wa, wb⟩
  clear ha hb wa wb
  go_enter Try.func50, Try.ntmps50
  go_wp2_with fail
  refine (specOk_any _ la w hl HX.out.1 HX.out.2.2.1).mono ?_
  rintro e w1 ⟨rfl, hb1⟩
  have HX1 : Hid (IntAt w1 a la ∧ IntAt w1 b lb ∧ Below w.heap.size w w1) := ⟨HX.out.1.below hb1, HX.out.2.1.below hb1, hb1⟩
  clear hb1
  rcases h : okL la with _ | _
  · have HN : Hid (¬ (okL la = true ∧ okL lb = true)) := fun h2 => by rw [h] at h2; simp at h2
    go_wp2_with fail
    go_ret
    exact ⟨_, rfl, by unfold mulL; rw [if_neg HN.out]; exact World.ownsRow_made w1 #[] 0 HX1.out.2.2.size (Nat.zero_le _) rfl, HX1.out.2.2.alloc HX1.out.2.2.size _⟩
  · go_wp2_with fail
    refine (specOk_any _ lb w1 hl2 HX1.out.2.1 HX.out.2.2.2).mono ?_
    rintro e w2 ⟨rfl, hb2⟩
    have HX2 : Hid (IntAt w2 a la ∧ IntAt w2 b lb ∧ Below w.heap.size w w2) := ⟨HX1.out.1.below hb2, HX1.out.2.1.below hb2, HX1.out.2.2.trans (hb2.mono HX1.out.2.2.size)⟩
    clear hb2 HX1
    rcases h2 : okL lb with _ | _
    · have HN : Hid (¬ (okL la = true ∧ okL lb = true)) := fun h3 => by rw [h2] at h3; simp at h3
      go_wp2_with fail
      go_ret
      exact ⟨_, rfl, by unfold mulL; rw [if_neg HN.out]; exact World.ownsRow_made w2 #[] 0 HX2.out.2.2.size (Nat.zero_le _) rfl, HX2.out.2.2.alloc HX2.out.2.2.size _⟩
    · have HK : Hid (okL la = true ∧ okL lb = true) := ⟨h, h2⟩
      have hla := (okL_true h).1
      have hlb := (okL_true h2).1
      have HD : Hid (Dig la ∧ Dig lb ∧ Top la ∧ Top lb) := ⟨(okL_true h).2.1, (okL_true h2).2.1, (okL_true h).2.2, (okL_true h2).2.2⟩
      clear h h2
      have hlen : (digs (ev la * ev lb)).length ≤ 80 := by
        have a1 := ev_nonneg HD.out.1
        have a2 := ev_nonneg HD.out.2.1
        have a3 := ev_lt HD.out.1
        have a4 := ev_lt HD.out.2.1
        have p1 := pw_le hla
        have p2 := pw_le hlb
        have h3 := Int.mul_le_mul_of_nonneg_right (show ev la ≤ 10000 ^ 40 by omega) a2
        have h4 := Int.mul_lt_mul_of_pos_left (show ev lb < 10000 ^ 40 by omega) (pw_pos 40)
        exact digs_len (k := 80) (Int.mul_nonneg a1 a2) (by rw [show (80 : Nat) = 40 + 40 from rfl, pw_add]; omega)
      go_wp2_with fail
      refine (specMul0_any a b la lb w2 (by omega) (by omega) HD.out.1 HD.out.2.1 HX2.out.1 HX2.out.2.1).mono ?_
      rintro e w3 ⟨v, rfl, ho3, hb3⟩
      have HO3 : Hid (OwnI w3 w.heap.size v (digs (ev la * ev lb)) ∧ Below w.heap.size w w3) := ⟨ho3.base HX2.out.2.2.size, HX2.out.2.2.trans (hb3.mono HX2.out.2.2.size)⟩
      clear ho3 hb3
      obtain ⟨vo, vc, hve, _⟩ := HO3.out.1.shape
      subst hve
      by_cases h40 : (digs (ev la * ev lb)).length ≤ 40
      · have h40' : ¬ (40 : Int) < ((digs (ev la * ev lb)).length : Int) := by omega
        go_wp2_with fail
        go_ret
        refine ⟨_, rfl, ?_, HO3.out.2⟩
        unfold mulL limL
        rw [if_pos HK.out, if_pos h40]
        exact HO3.out.1
      · have h40' : (40 : Int) < ((digs (ev la * ev lb)).length : Int) := by omega
        go_wp2_with fail
        go_ret
        refine ⟨_, rfl, ?_, HO3.out.2.alloc HO3.out.2.size _⟩
        unfold mulL limL
        rw [if_pos HK.out, if_neg h40]
        exact World.ownsRow_made w3 #[] 0 HO3.out.2.size (Nat.zero_le _) rfl

set_option maxHeartbeats 1600000 in
set_option maxRecDepth 100000 in
theorem specDiv_any (a b : Value) (la lb : List Int) (w : World) (hl : la.length ≤ 10000000) (hl2 : lb.length ≤ 10000000) (wa : Wd la) (wb : Wd lb) (ha : IntAt w a la) (hb : IntAt w b lb) :
    Calls Try.prog 26 #[a, b] w fun e w' => ∃ v u, e = .returned (.tuple #[v, u]) ∧ OwnI w' w.heap.size v (quoL la lb) ∧ OwnI w' w.heap.size u (remL la lb) ∧ Below w.heap.size w w' := by
  have HX : Hid (IntAt w a la ∧ IntAt w b lb ∧ Wd la ∧ Wd lb) := ⟨ha, hb, wa, wb⟩
  clear ha hb wa wb
  obtain ⟨bo, bc, hbe, _⟩ := HX.out.2.1
  subst hbe
  go_enter Try.func26, Try.ntmps26
  go_wp2_with fail
  refine (specOk_any _ la w hl HX.out.1 HX.out.2.2.1).mono ?_
  rintro e w1 ⟨rfl, hb1⟩
  have HX1 : Hid (IntAt w1 a la ∧ IntAt w1 (.slice bo lb.length bc) lb ∧ Below w.heap.size w w1) := ⟨HX.out.1.below hb1, HX.out.2.1.below hb1, hb1⟩
  clear hb1
  rcases h : okL la with _ | _
  · have HN : Hid (¬ (okL la = true ∧ okL lb = true)) := fun h2 => by rw [h] at h2; simp at h2
    go_wp2_with fail
    go_ret2
    exact ⟨_, _, rfl, by unfold quoL; rw [if_neg (fun h => HN.out h.1)]; exact (OwnI.empty w1 HX1.out.2.2.size).stays ((Below.refl _ _).alloc (Nat.le_refl _) _), by unfold remL; rw [if_neg (fun h => HN.out h.1)]; exact OwnI.empty2 w1 _ HX1.out.2.2.size, (HX1.out.2.2.alloc HX1.out.2.2.size _).alloc (size_ok HX1.out.2.2.size _) _⟩
  · go_wp2_with fail
    refine (specOk_any _ lb w1 hl2 HX1.out.2.1 HX.out.2.2.2).mono ?_
    rintro e w2 ⟨rfl, hb2⟩
    have HX2 : Hid (IntAt w2 a la ∧ IntAt w2 (.slice bo lb.length bc) lb ∧ Below w.heap.size w w2) := ⟨HX1.out.1.below hb2, HX1.out.2.1.below hb2, HX1.out.2.2.trans (hb2.mono HX1.out.2.2.size)⟩
    clear hb2 HX1
    rcases h2 : okL lb with _ | _
    · have HN : Hid (¬ (okL la = true ∧ okL lb = true)) := fun h3 => by rw [h2] at h3; simp at h3
      go_wp2_with fail
      go_ret2
      exact ⟨_, _, rfl, by unfold quoL; rw [if_neg (fun h => HN.out h.1)]; exact (OwnI.empty w2 HX2.out.2.2.size).stays ((Below.refl _ _).alloc (Nat.le_refl _) _), by unfold remL; rw [if_neg (fun h => HN.out h.1)]; exact OwnI.empty2 w2 _ HX2.out.2.2.size, (HX2.out.2.2.alloc HX2.out.2.2.size _).alloc (size_ok HX2.out.2.2.size _) _⟩
    · have HK : Hid (okL la = true ∧ okL lb = true) := ⟨h, h2⟩
      have hla := (okL_true h).1
      have hlb := (okL_true h2).1
      have HD : Hid (Dig la ∧ Dig lb ∧ Top la ∧ Top lb) := ⟨(okL_true h).2.1, (okL_true h2).2.1, (okL_true h).2.2, (okL_true h2).2.2⟩
      clear h h2
      by_cases h0 : lb.length = 0
      · have h0' : ((lb.length : Int) == 0) = true := by simpa using h0
        have HN : Hid (¬ 0 < lb.length) := by show ¬ 0 < lb.length; omega
        clear h0
        go_wp2_with fail
        go_ret2
        exact ⟨_, _, rfl, by unfold quoL; rw [if_neg (fun h => HN.out h.2)]; exact (OwnI.empty w2 HX2.out.2.2.size).stays ((Below.refl _ _).alloc (Nat.le_refl _) _), by unfold remL; rw [if_neg (fun h => HN.out h.2)]; exact OwnI.empty2 w2 _ HX2.out.2.2.size, (HX2.out.2.2.alloc HX2.out.2.2.size _).alloc (size_ok HX2.out.2.2.size _) _⟩
      · have h0' : ((lb.length : Int) == 0) = false := by simpa using h0
        have hpos : 0 < lb.length := by omega
        go_wp2_with fail
        refine (specDiv0_any a _ la lb w2 (by omega) (by omega) HD.out.1 HD.out.2.1 HD.out.2.2.2 hpos HX2.out.1 HX2.out.2.1).mono ?_
        rintro e w3 ⟨v, u, rfl, ho3, hp3, hb3⟩
        have HO3 : Hid (OwnI w3 w.heap.size v (quoL la lb) ∧ OwnI w3 w.heap.size u (remL la lb) ∧ Below w.heap.size w w3) := by
          refine ⟨?_, ?_, HX2.out.2.2.trans (hb3.mono HX2.out.2.2.size)⟩
          · unfold quoL
            rw [if_pos ⟨HK.out, hpos⟩]
            exact ho3.base HX2.out.2.2.size
          · unfold remL
            rw [if_pos ⟨HK.out, hpos⟩]
            exact hp3.base HX2.out.2.2.size
        clear ho3 hp3 hb3
        go_wp2_with fail
        go_ret2
        exact ⟨_, _, rfl, HO3.out⟩
end Go.Proofs.Ytcihpaohmngodaa
