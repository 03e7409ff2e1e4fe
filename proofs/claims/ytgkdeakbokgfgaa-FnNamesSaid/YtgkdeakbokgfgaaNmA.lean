/-
  Under one of some, and Allowed, of both.
-/
import Derived.Test.YtgkdeakbokgfgaaNmL
namespace Go.Proofs.Ytgkdeakbokgfgaa
open Go.RowKit
set_option linter.unusedVariables false

theorem any_drop {l : List ByteArray} (f : ByteArray → Bool) {k : Nat} (h : k < l.length) : (l.drop k).any f = (f (l.getD k ByteArray.empty) || (l.drop (k + 1)).any f) := by
  rw [List.drop_eq_getElem_cons h, List.getD_eq_getElem?_getD, List.getElem?_eq_getElem h]
  rfl
theorem TxtAt.size_of {l : List ByteArray} (hsz : ∀ s ∈ l, s.size ≤ 1000000000000) {k : Nat} (h : k < l.length) : (l.getD k ByteArray.empty).size ≤ 1000000000000 :=
  hsz _ (by rw [List.getD_eq_getElem?_getD, List.getElem?_eq_getElem h]; exact List.getElem_mem _)
set_option maxHeartbeats 1600000 in
set_option maxRecDepth 100000 in
theorem underOne_any (n : ByteArray) (v : Value) (l : List ByteArray) (w : World) (hn : n.size ≤ 1000000000000) (hl : l.length ≤ 1000000000) (hsz : ∀ s ∈ l, s.size ≤ 1000000000000) (h : TxtAt w v l) : Calls Try.prog 56 #[.string n, v] w fun e w' => e = .returned (.bool (undAny n l)) ∧ w = w' := by
  obtain ⟨ao, cap, rfl, hc⟩ := h
  have HC : Hid (∀ j, j < l.length → ∃ g, ao = some ⟨g, 0, none⟩ ∧ g < w.heap.size ∧ w.cell? ⟨g, j, none⟩ = some (.string (l.getD j ByteArray.empty))) := hc
  have HS : Hid (∀ s ∈ l, s.size ≤ 1000000000000) := hsz
  clear hc hsz
  go_enter Try.func56, Try.ntmps56
  go_wp2
  go_loopw [9] (fun iv wr => ∃ k : Nat, k ≤ l.length ∧ iv = .int .i64 k ∧ Hid (∀ j, j < k → undB n (l.getD j ByteArray.empty) = false) ∧ w = wr) (fun iv _ => l.length - (intOf iv).toNat)
  case atStart => exact ⟨0, Nat.zero_le _, rfl, fun j hj => absurd hj (Nat.not_lt_zero _), rfl⟩
  case round =>
    obtain ⟨k, hk, rfl, HI, rfl⟩ := hrel
    by_cases hlt : k < l.length
    · obtain ⟨g, hao, hg, hcx⟩ := HC.out k hlt
      have hki : (k : Int) < (l.length : Int) := by omega
      have hk0 : (0 : Int) ≤ (k : Int) := by omega
      have hxs := TxtAt.size_of HS.out hlt
      have HQ1 : Hid (undB n (l.getD k ByteArray.empty) = true → undAny n l = true) := fun q => any_yes k hlt q
      have HQ3 : Hid (undB n (l.getD k ByteArray.empty) = false → ∀ j, j < k + 1 → undB n (l.getD j ByteArray.empty) = false) := fun q j hj => by
          by_cases e : j = k
          · rw [e]; exact q
          · exact HI.out j (by omega)
      generalize hx : l.getD k ByteArray.empty = x at *
      have EC := fun w => implUnder_any n x w hn hxs
      subst hao
      clear HI hx
      cases hok : undB n x with
      | true =>
        have HF : Hid (undAny n l = true) := HQ1.out hok
        rw [hok] at EC
        clear HQ1 HQ3
        go_wp2_with (go_at_call 15; refine (EC _).mono ?_; rintro e w' ⟨rfl, rfl⟩)
        go_ret
        exact ⟨by rw [HF.out]; rfl, rfl⟩
      | false =>
        have HN : Hid (∀ j, j < k + 1 → undB n (l.getD j ByteArray.empty) = false) := HQ3.out hok
        rw [hok] at EC
        clear HQ1 HQ3
        go_wp2_with (go_at_call 15; refine (EC _).mono ?_; rintro e w' ⟨rfl, rfl⟩)
        go_roundw
        case rel => exact ⟨k + 1, by omega, by go_num, HN, by first | rfl | trivial⟩
        case measure => simp [intOf]; omega
    · have hki : ¬ (k : Int) < (l.length : Int) := by omega
      have HF : Hid (undAny n l = false) := any_no fun i hi => HI.out i (by omega)
      go_wp2
      go_ret
      exact ⟨by rw [HF.out]; rfl, rfl⟩
set_option maxHeartbeats 1600000 in
set_option maxRecDepth 100000 in
theorem implAllowed_any (n : ByteArray) (u v : Value) (ps ds : List ByteArray) (w : World) (hn : n.size ≤ 1000000000000) (hp : ps.length ≤ 1000000000) (hd : ds.length ≤ 1000000000) (hps : ∀ s ∈ ps, s.size ≤ 1000000000000) (hds : ∀ s ∈ ds, s.size ≤ 1000000000000) (hu : TxtAt w u ps) (hv : TxtAt w v ds) : Calls Try.prog 26 #[.string n, u, v] w fun e w' => e = .returned (.bool (allowed n ps ds)) ∧ w = w' := by
  have EU := underOne_any n u ps w hn hp hps hu
  have EV := underOne_any n v ds w hn hd hds hv
  obtain ⟨ao, cap, rfl, _⟩ := hu
  have HF : Hid (allowed n ps ds = ((decide (ps.length = 0) || undAny n ps) && !undAny n ds)) := rfl
  generalize undAny n ps = a at *
  generalize undAny n ds = b at *
  have HU : Hid (Calls Try.prog 56 #[.string n, .slice ao ps.length cap] w fun e w' => e = .returned (.bool a) ∧ w = w') := EU
  have HV : Hid (Calls Try.prog 56 #[.string n, v] w fun e w' => e = .returned (.bool b) ∧ w = w') := EV
  clear EU EV hv hps hds
  by_cases h0 : ps.length = 0
  · have h0i : ((ps.length : Int) == 0) = true := beq_iff_eq.2 (by omega)
    rw [decide_eq_true h0] at HF
    have HG : Hid (allowed n ps ds = !b) := by show allowed n ps ds = _; rw [HF.out]; simp
    clear HF
    go_enter Try.func26, Try.ntmps26
    go_wp2_with (go_at_call 56; refine (HV.out).mono ?_; rintro e w' ⟨rfl, rfl⟩)
    go_ret
    exact ⟨by rw [HG.out]; rfl, rfl⟩
  · have h0i : ((ps.length : Int) == 0) = false := beq_eq_false_iff_ne.2 (by omega)
    rw [decide_eq_false h0] at HF
    cases a with
    | false =>
      have HG : Hid (allowed n ps ds = false) := by show allowed n ps ds = _; rw [HF.out]; simp
      clear HF
      go_enter Try.func26, Try.ntmps26
      go_wp2_with (go_at_call 56; refine (HU.out).mono ?_; rintro e w' ⟨rfl, rfl⟩)
      go_ret
      exact ⟨by rw [HG.out]; rfl, rfl⟩
    | true =>
      have HG : Hid (allowed n ps ds = !b) := by show allowed n ps ds = _; rw [HF.out]; simp
      clear HF
      go_enter Try.func26, Try.ntmps26
      go_wp2_with fail
      refine (HU.out).mono ?_
      rintro e w' ⟨rfl, rfl⟩
      go_wp2_with fail
      refine (HV.out).mono ?_
      rintro e w' ⟨rfl, rfl⟩
      go_wp2_with fail
      go_ret
      exact ⟨by rw [HG.out]; rfl, rfl⟩
set_option maxHeartbeats 3200000 in
set_option maxRecDepth 100000 in
theorem specAllowed_any (n : ByteArray) (u v : Value) (ps ds : List ByteArray) (w : World) (hn : n.size ≤ 1000000000000) (hp : ps.length ≤ 1000000000) (hd : ds.length ≤ 1000000000) (hps : ∀ s ∈ ps, s.size ≤ 1000000000000) (hds : ∀ s ∈ ds, s.size ≤ 1000000000000) (hu : TxtAt w u ps) (hv : TxtAt w v ds) : Calls Try.prog 25 #[.string n, u, v] w fun e w' => e = .returned (.bool (allowed n ps ds)) ∧ w = w' := by
  obtain ⟨ao, cap, rfl, hcu⟩ := hu
  obtain ⟨bo, bap, rfl, hcv⟩ := hv
  have HU : Hid (∀ j, j < ps.length → ∃ g, ao = some ⟨g, 0, none⟩ ∧ g < w.heap.size ∧ w.cell? ⟨g, j, none⟩ = some (.string (ps.getD j ByteArray.empty))) := hcu
  have HV : Hid (∀ j, j < ds.length → ∃ g, bo = some ⟨g, 0, none⟩ ∧ g < w.heap.size ∧ w.cell? ⟨g, j, none⟩ = some (.string (ds.getD j ByteArray.empty))) := hcv
  have HS : Hid ((∀ s ∈ ps, s.size ≤ 1000000000000) ∧ ∀ s ∈ ds, s.size ≤ 1000000000000) := ⟨hps, hds⟩
  clear hcu hcv hps hds
  have HB : Hid (∃ b0 : Bool, ((ps.length : Int) == 0) = b0 ∧ (b0 || (ps.drop 0).any (undB n)) = (decide (ps.length = 0) || undAny n ps)) := ⟨_, rfl, by
    rw [List.drop_zero]
    show (((ps.length : Int) == 0) || undAny n ps) = _
    congr 1
    rw [Bool.eq_iff_iff]
    simp⟩
  obtain ⟨b0, hb0, hI0⟩ := HB.out
  have HI0 : Hid ((b0 || (ps.drop 0).any (undB n)) = (decide (ps.length = 0) || undAny n ps)) := hI0
  clear hI0 HB
  go_enter Try.func25, Try.ntmps25
  go_wp2
  go_loopw [7, 8] (fun bv iv wr => ∃ (k : Nat) (b : Bool), k ≤ ps.length ∧ bv = .bool b ∧ iv = .int .i64 k ∧ Hid ((b || (ps.drop k).any (undB n)) = (decide (ps.length = 0) || undAny n ps)) ∧ w = wr) (fun _ iv _ => ps.length - (intOf iv).toNat)
  case atStart => exact ⟨0, b0, Nat.zero_le _, rfl, rfl, HI0, rfl⟩
  case round =>
    obtain ⟨k, b, hk, rfl, rfl, HI, rfl⟩ := hrel
    by_cases hlt : k < ps.length
    · obtain ⟨g, hao, hg, hcx⟩ := HU.out k hlt
      have hki : (k : Int) < (ps.length : Int) := by omega
      have hk0 : (0 : Int) ≤ (k : Int) := by omega
      have hxs := TxtAt.size_of HS.out.1 hlt
      have hI := HI.out
      rw [any_drop _ hlt] at hI
      generalize hx : ps.getD k ByteArray.empty = x at *
      have EC := fun w => specUnder_any n x w hn hxs
      subst hao
      clear HI hx HI0 hb0
      cases b with
      | true =>
        have HN : Hid ((true || (ps.drop (k + 1)).any (undB n)) = (decide (ps.length = 0) || undAny n ps)) := by rw [← hI]; rfl
        clear hI EC
        go_wp2
        go_roundw
        case rel => exact ⟨k + 1, true, by omega, rfl, by go_num, HN, by first | rfl | trivial⟩
        case measure => simp [intOf]; omega
      | false =>
        have HN : Hid ((undB n x || (ps.drop (k + 1)).any (undB n)) = (decide (ps.length = 0) || undAny n ps)) := by rw [← hI]; rfl
        clear hI
        generalize undB n x = c at *
        go_wp2_with (go_at_call 14; refine (EC _).mono ?_; rintro e w' ⟨rfl, rfl⟩)
        go_roundw
        case rel => exact ⟨k + 1, c, by omega, rfl, by go_num, HN, by first | rfl | trivial⟩
        case measure => simp [intOf]; omega
    · have hki : ¬ (k : Int) < (ps.length : Int) := by omega
      have HI2 : Hid ((b && !(ds.drop 0).any (undB n)) = allowed n ps ds) := by
        have hI := HI.out
        rw [List.drop_eq_nil_of_le (by omega)] at hI
        simp only [List.any_nil, Bool.or_false] at hI
        show (b && !(ds.drop 0).any (undB n)) = _
        unfold allowed
        rw [← hI]
        rfl
      clear HI HI0 hb0
      go_wp2
      go_loopw [7, 9] (fun bv iv wr => ∃ (k : Nat) (b : Bool), k ≤ ds.length ∧ bv = .bool b ∧ iv = .int .i64 k ∧ Hid ((b && !(ds.drop k).any (undB n)) = allowed n ps ds) ∧ w = wr) (fun _ iv _ => ds.length - (intOf iv).toNat)
      case atStart => exact ⟨0, b, Nat.zero_le _, rfl, rfl, HI2, rfl⟩
      case round =>
        obtain ⟨k, b, hk, rfl, rfl, HI, rfl⟩ := hrel
        by_cases hlt : k < ds.length
        · obtain ⟨g, hao, hg, hcx⟩ := HV.out k hlt
          have hki : (k : Int) < (ds.length : Int) := by omega
          have hk0 : (0 : Int) ≤ (k : Int) := by omega
          have hxs := TxtAt.size_of HS.out.2 hlt
          have hI := HI.out
          rw [any_drop _ hlt] at hI
          generalize hx : ds.getD k ByteArray.empty = x at *
          have EC := fun w => specUnder_any n x w hn hxs
          subst hao
          clear HI hx HI2
          cases b with
          | false =>
            have HN : Hid ((false && !(ds.drop (k + 1)).any (undB n)) = allowed n ps ds) := by rw [← hI]; rfl
            clear hI EC
            go_wp2
            go_roundw
            case rel => exact ⟨k + 1, false, by omega, rfl, by go_num, HN, by first | rfl | trivial⟩
            case measure => simp [intOf]; omega
          | true =>
            have HN : Hid (((!undB n x) && !(ds.drop (k + 1)).any (undB n)) = allowed n ps ds) := by rw [← hI]; show _ = _; simp
            clear hI
            generalize undB n x = c at *
            go_wp2_with (go_at_call 14; refine (EC _).mono ?_; rintro e w' ⟨rfl, rfl⟩)
            go_roundw
            case rel => exact ⟨k + 1, !c, by omega, rfl, by go_num, HN, by first | rfl | trivial⟩
            case measure => simp [intOf]; omega
        · have hki : ¬ (k : Int) < (ds.length : Int) := by omega
          have HF : Hid (allowed n ps ds = b) := by
            have hI := HI.out
            rw [List.drop_eq_nil_of_le (by omega)] at hI
            show _ = _
            simpa using hI.symm
          clear HI HI2
          go_wp2
          go_ret
          exact ⟨by rw [HF.out]; rfl, rfl⟩
end Go.Proofs.Ytgkdeakbokgfgaa
