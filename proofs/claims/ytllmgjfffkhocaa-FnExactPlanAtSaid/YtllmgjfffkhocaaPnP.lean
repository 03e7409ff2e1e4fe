/-
  The specification's PlanAt.
-/
import Derived.Test.YtllmgjfffkhocaaPnA
namespace Go.Proofs.Ytllmgjfffkhocaa
open Go.RowKit
set_option linter.unusedVariables false
set_option linter.unusedSimpArgs false

/-- Where a plan stands. -/
def planAt : List Pn → Int → Nat → Int
  | [], _, _ => -1
  | p :: l, id, k => if p.id = id then (k : Int) else planAt l id (k + 1)
theorem planAt_drop {l : List Pn} {id : Int} {k : Nat} (hk : k < l.length) : planAt (l.drop k) id k = if l[k].id = id then (k : Int) else planAt (l.drop (k + 1)) id (k + 1) := by
  rw [List.drop_eq_getElem_cons hk]
  rfl
theorem planAt_end {l : List Pn} {id : Int} {k : Nat} (hk : l.length ≤ k) : planAt (l.drop k) id k = -1 := by
  rw [List.drop_eq_nil_of_le hk]
  rfl
set_option maxHeartbeats 1600000 in
set_option maxRecDepth 100000 in
theorem specPlanAt_any (l : List Pn) (v : Value) (id : Int) (w : World) (hl : l.length ≤ 1000000000) (ha : AtS pnKd w v l) :
    Calls Try.prog 15 #[v, .int .i64 id] w fun e w' => e = .returned (.int .i64 (planAt l id 0)) ∧ Below w.heap.size w w' := by
  obtain ⟨ao, cap, hv⟩ := ha.shape
  obtain ⟨n, hn⟩ : ∃ n, l.length = n := ⟨_, rfl⟩
  rw [hn] at hv
  subst hv
  obtain ⟨R, hR⟩ : ∃ R, planAt l id 0 = R := ⟨_, rfl⟩
  have HX : Hid (AtS pnKd w (.slice ao n cap) l ∧ l.length = n) := ⟨ha, hn⟩
  have HR : Hid (planAt (l.drop 0) id 0 = R) := hR
  rw [hn] at hl
  rw [hR]
  clear ha hn hR
  go_enter Try.func15, Try.ntmps15
  go_wp2_with fail
  go_loopw [5] (fun iv wr => ∃ k : Nat, k ≤ n ∧ iv = .int .i64 k ∧ Hid (planAt (l.drop k) id k = R ∧ Below w.heap.size w wr)) (fun iv _ => n - (intOf iv).toNat)
  case atStart => exact ⟨0, Nat.zero_le _, rfl, HR.out, Below.refl _ _⟩
  case round =>
    obtain ⟨k, hk, rfl, H⟩ := hrel
    by_cases hkn : k < n
    · have hkl : k < l.length := by rw [HX.out.2]; exact hkn
      obtain ⟨g, o, u, hax, hg, hP, hs, hc⟩ := HX.out.1.get hkl
      obtain ⟨p1, q1, e1, r1, hu⟩ := PnAt.shape hP
      subst hax
      have hki : (k : Int) < (n : Int) := by omega
      have hk0 : (0 : Int) ≤ (k : Int) := by omega
      have hst := planAt_drop (id := id) hkl
      obtain ⟨x, hx⟩ : ∃ x, l[k].id = x := ⟨_, rfl⟩
      have c0 : wr.cell? ⟨g, o + k * 7, none⟩ = some (.int .i64 x) := by
        have h := hc 0 (.int .i64 x) (by rw [hu, ← hx]; rfl)
        exact (H.out.2.cell (p := ⟨g, o + k * 7, none⟩) hg).trans h
      rw [hx, H.out.1] at hst
      have HS : Hid (R = if x = id then (k : Int) else planAt (l.drop (k + 1)) id (k + 1)) := hst
      have HB : Hid (Below w.heap.size w wr) := H.out.2
      clear hst hP hs hc hu hg hx H
      by_cases hxi : x = id
      · have HF : Hid (R = (k : Int)) := by show R = (k : Int); rw [HS.out, if_pos hxi]
        clear HS
        go_wp2_with fail
        go_ret
        exact ⟨by rw [HF.out]; rfl, HB.out⟩
      · have HF : Hid (planAt (l.drop (k + 1)) id (k + 1) = R) := by show _ = R; rw [HS.out, if_neg hxi]
        clear HS
        go_wp2_with fail
        go_roundw
        case rel => exact ⟨k + 1, by omega, by go_num, HF.out, HB.out⟩
        case measure => simp [intOf]; omega
    · have hkn2 : k = n := by omega
      have HF : Hid (R = -1) := by show R = -1; rw [← H.out.1]; exact planAt_end (by rw [HX.out.2]; omega)
      go_wp2_with fail
      go_ret
      exact ⟨by rw [HF.out]; rfl, H.out.2⟩
end Go.Proofs.Ytllmgjfffkhocaa
