/-
  Rows of plans: the laws' eqPlanS.
-/
import Derived.Test.YtllmgjfffkhocaaPnB
namespace Go.Proofs.Ytllmgjfffkhocaa
open Go.RowKit
set_option linter.unusedVariables false
set_option linter.unusedSimpArgs false

set_option maxHeartbeats 6400000 in
set_option maxRecDepth 100000 in
theorem eqPlanS_same (l : List Pn) (a b : Value) (w : World) (hl : wtPS l ≤ 1000000000) (ha : AtS pnKd w a l) (hb : AtS pnKd w b l) :
    Calls Try.prog 13 #[a, b] w fun e w' => e = .returned (.bool true) ∧ Below w.heap.size w w' := by
  obtain ⟨ax, cx, hv⟩ := ha.shape
  obtain ⟨ay, cy, hu⟩ := hb.shape
  obtain ⟨len, hlen⟩ : ∃ n, l.length = n := ⟨_, rfl⟩
  rw [hlen] at hv hu
  subst hv hu
  have hl20 : len ≤ 1000000000 := by unfold wtPS at hl; omega
  have HX : Hid (AtS pnKd w (.slice ax len cx) l ∧ AtS pnKd w (.slice ay len cy) l ∧ l.length = len ∧ wtPS l ≤ 1000000000) := ⟨ha, hb, hlen, hl⟩
  clear ha hb hlen hl
  go_enter Try.func13, Try.ntmps13
  go_wp2_with fail
  go_loopw [5] (fun iv wr => ∃ k : Nat, k ≤ len ∧ iv = .int .i64 k ∧ Hid (Below w.heap.size w wr)) (fun iv _ => len - (intOf iv).toNat)
  case atStart => exact ⟨0, Nat.zero_le _, rfl, Below.refl _ _⟩
  case round =>
    obtain ⟨k, hk, rfl, HB⟩ := hrel
    by_cases hkn : k < len
    · have hkl : k < l.length := by rw [HX.out.2.2.1]; exact hkn
      obtain ⟨g1, o1, u1, hax, hg1, hP1, hs1, hc1⟩ := HX.out.1.get hkl
      obtain ⟨g2, o2, u2, hay, hg2, hP2, hs2, hc2⟩ := HX.out.2.1.get hkl
      subst hax hay
      obtain ⟨c, hc⟩ : ∃ c, l[k] = c := ⟨_, rfl⟩
      have hBd : Below w.heap.size w wr.drew := HB.out.drew
      have hrl : c.anc.length ≤ 1000000000 ∧ c.ru.pol.length ≤ 1000000000 := by
        have h1 := wtPS_mem (List.getElem_mem hkl)
        rw [hc] at h1
        exact wtPn_lens (Nat.le_trans h1 HX.out.2.2.2)
      have HR := eqPlan_same c u1 u2 wr.drew hrl (by rw [← hc]; exact PnAt.below hP1 hBd) (by rw [← hc]; exact PnAt.below hP2 hBd)
      obtain ⟨p1, q1, e1, r1, hu1⟩ := PnAt.shape hP1
      obtain ⟨p2, q2, e2, r2, hu2⟩ := PnAt.shape hP2
      rw [hc] at hu1 hu2
      subst hu1 hu2
      have hf1 : ∀ (W : World) (i : Nat) (x : Value), Below w.heap.size w W → (pnV c (.slice p1 c.anc.length q1) (.slice e1 c.ru.pol.length r1)).cells[i]? = some x → W.cell? ⟨g1, o1 + k * 7 + i, none⟩ = some x := fun W i x hW hx => (hW.cell (p := ⟨g1, o1 + k * 7 + i, none⟩) hg1).trans (hc1 i x hx)
      have hf2 : ∀ (W : World) (i : Nat) (x : Value), Below w.heap.size w W → (pnV c (.slice p2 c.anc.length q2) (.slice e2 c.ru.pol.length r2)).cells[i]? = some x → W.cell? ⟨g2, o2 + k * 7 + i, none⟩ = some x := fun W i x hW hx => (hW.cell (p := ⟨g2, o2 + k * 7 + i, none⟩) hg2).trans (hc2 i x hx)
      have HS : Hid (∀ W, Below w.heap.size w W → (W.cell? ⟨g1, o1 + k * 7, none⟩ = some (.int .i64 c.id) ∧ W.cell? ⟨g1, o1 + k * 7 + 1, none⟩ = some (.slice p1 c.anc.length q1) ∧ W.cell? ⟨g1, o1 + k * 7 + 2, none⟩ = some (.int .i64 c.ru.time) ∧ W.cell? ⟨g1, o1 + k * 7 + 3, none⟩ = some (.slice e1 c.ru.pol.length r1) ∧ W.cell? ⟨g1, o1 + k * 7 + 4, none⟩ = some (.bool c.ru.expl) ∧ W.cell? ⟨g1, o1 + k * 7 + 5, none⟩ = some (.bool c.ru.chk) ∧ W.cell? ⟨g1, o1 + k * 7 + 6, none⟩ = some (.int .i64 c.ru.usage)) ∧ (W.cell? ⟨g2, o2 + k * 7, none⟩ = some (.int .i64 c.id) ∧ W.cell? ⟨g2, o2 + k * 7 + 1, none⟩ = some (.slice p2 c.anc.length q2) ∧ W.cell? ⟨g2, o2 + k * 7 + 2, none⟩ = some (.int .i64 c.ru.time) ∧ W.cell? ⟨g2, o2 + k * 7 + 3, none⟩ = some (.slice e2 c.ru.pol.length r2) ∧ W.cell? ⟨g2, o2 + k * 7 + 4, none⟩ = some (.bool c.ru.expl) ∧ W.cell? ⟨g2, o2 + k * 7 + 5, none⟩ = some (.bool c.ru.chk) ∧ W.cell? ⟨g2, o2 + k * 7 + 6, none⟩ = some (.int .i64 c.ru.usage))) := fun W hW =>
        ⟨⟨hf1 W 0 _ hW rfl, hf1 W 1 _ hW rfl, hf1 W 2 _ hW rfl, hf1 W 3 _ hW rfl, hf1 W 4 _ hW rfl, hf1 W 5 _ hW rfl, hf1 W 6 _ hW rfl⟩, hf2 W 0 _ hW rfl, hf2 W 1 _ hW rfl, hf2 W 2 _ hW rfl, hf2 W 3 _ hW rfl, hf2 W 4 _ hW rfl, hf2 W 5 _ hW rfl, hf2 W 6 _ hW rfl⟩
      have hki : (k : Int) < (len : Int) := by omega
      have hk0 : (0 : Int) ≤ (k : Int) := by omega
      unfold pnV at HR
      clear hf1 hf2 hc1 hc2 hP1 hP2 hs1 hs2 hg1 hg2 hc hkl
      go_upto_region 6 with fail
      refine wp_region_held_drew (S := fun W => Below w.heap.size w W) (by kernel_rfl) hBd (fun hHeld => ?_)
      clear hBd
      have HBW : Hid (Below w.heap.size w wr.drew) := hHeld
      refine wpAnyH_take (i := 0) (oi := ⟨some 17, _, _, _, _, _⟩) (v := ?_) rfl (by kernel_rfl) (by kernel_rfl) (by kernel_rfl) (fun _ _ _ h => h) (Or.inl ⟨by rfl, ?_⟩) hHeld ?_
      rotate_left
      · intro W hSw
        go_simp
        try with_reducible rfl
      try simp only [Act.put, List.setIfInBounds_toArray, List.set_cons_zero, List.set_cons_succ]
      refine wpAnyH_take (i := 1) (oi := ⟨some 18, _, _, _, _, _⟩) (v := ?_) rfl (by kernel_rfl) (by kernel_rfl) (by kernel_rfl) (fun _ _ _ h => h) (Or.inl ⟨by rfl, ?_⟩) hHeld ?_
      rotate_left
      · intro W hSw
        go_simp
        try with_reducible rfl
      try simp only [Act.put, List.setIfInBounds_toArray, List.set_cons_zero, List.set_cons_succ]
      refine wpAnyH_take (i := 2) (oi := ⟨some 19, _, _, _, _, _⟩) (v := ?_) rfl (by kernel_rfl) (by kernel_rfl) (by kernel_rfl) (fun _ _ _ h => h) (Or.inl ⟨by rfl, ?_⟩) hHeld ?_
      rotate_left
      · intro W hSw
        go_simp
        try with_reducible rfl
      try simp only [Act.put, List.setIfInBounds_toArray, List.set_cons_zero, List.set_cons_succ]
      refine wpAnyH_take (i := 3) (oi := ⟨some 20, _, _, _, _, _⟩) (v := ?_) rfl (by kernel_rfl) (by kernel_rfl) (by kernel_rfl) (fun _ _ _ h => h) (Or.inl ⟨by rfl, ?_⟩) hHeld ?_
      rotate_left
      · intro W hSw
        obtain ⟨⟨e0, e1, e2, e3, e4, e5, e6⟩, -⟩ := HS.out W hSw
        go_simp
        try with_reducible rfl
      try simp only [Act.put, List.setIfInBounds_toArray, List.set_cons_zero, List.set_cons_succ]
      refine wpAnyH_take (i := 4) (oi := ⟨some 21, _, _, _, _, _⟩) (v := ?_) rfl (by kernel_rfl) (by kernel_rfl) (by kernel_rfl) (fun _ _ _ h => h) (Or.inl ⟨by rfl, ?_⟩) hHeld ?_
      rotate_left
      · intro W hSw
        go_simp
        try with_reducible rfl
      try simp only [Act.put, List.setIfInBounds_toArray, List.set_cons_zero, List.set_cons_succ]
      refine wpAnyH_take (i := 5) (oi := ⟨some 22, _, _, _, _, _⟩) (v := ?_) rfl (by kernel_rfl) (by kernel_rfl) (by kernel_rfl) (fun _ _ _ h => h) (Or.inl ⟨by rfl, ?_⟩) hHeld ?_
      rotate_left
      · intro W hSw
        go_simp
        try with_reducible rfl
      try simp only [Act.put, List.setIfInBounds_toArray, List.set_cons_zero, List.set_cons_succ]
      refine wpAnyH_take (i := 6) (oi := ⟨some 23, _, _, _, _, _⟩) (v := ?_) rfl (by kernel_rfl) (by kernel_rfl) (by kernel_rfl) (fun _ _ _ h => h) (Or.inl ⟨by rfl, ?_⟩) hHeld ?_
      rotate_left
      · intro W hSw
        go_simp
        try with_reducible rfl
      try simp only [Act.put, List.setIfInBounds_toArray, List.set_cons_zero, List.set_cons_succ]
      refine wpAnyH_take (i := 7) (oi := ⟨some 24, _, _, _, _, _⟩) (v := ?_) rfl (by kernel_rfl) (by kernel_rfl) (by kernel_rfl) (fun _ _ _ h => h) (Or.inl ⟨by rfl, ?_⟩) hHeld ?_
      rotate_left
      · intro W hSw
        obtain ⟨-, e0, e1, e2, e3, e4, e5, e6⟩ := HS.out W hSw
        go_simp
        try with_reducible rfl
      try simp only [Act.put, List.setIfInBounds_toArray, List.set_cons_zero, List.set_cons_succ]
      refine wpAnyH_ready (rs := [8]) (by kernel_rfl) (by simp) ?_
      refine AllReadyH.cons (o := ⟨some 25, _, _, _, _, _⟩) rfl (fun K hK => ?_) AllReadyH.nil
      go_simp
      refine HR.mono ?_
      rintro e w3 ⟨rfl, hb3⟩
      have HB3 : Hid (Below w.heap.size w w3) := HBW.out.trans (hb3.mono HBW.out.size)
      clear hb3 HR HBW
      refine hK.out _ _ HB3.out (fun hHeld => ?_)
      clear hK K
      try simp only [Act.put, List.setIfInBounds_toArray, List.set_cons_zero, List.set_cons_succ]
      refine wpAnyH_take (i := 9) (oi := ⟨some 26, _, _, _, _, _⟩) (v := ?_) rfl (by kernel_rfl) (by kernel_rfl) (by kernel_rfl) (fun _ _ _ h => h) (Or.inl ⟨by rfl, ?_⟩) hHeld ?_
      rotate_left
      · intro W hSw
        go_simp
        try with_reducible rfl
      try simp only [Act.put, List.setIfInBounds_toArray, List.set_cons_zero, List.set_cons_succ]
      refine wpAnyH_done (by kernel_rfl) ?_ _
      clear HS
      go_wp2_with fail
      go_roundw
      case rel => exact ⟨k + 1, by omega, by go_num, HB3.out⟩
      case measure => simp [intOf]; omega
    · have hkl : k = len := by omega
      subst hkl
      go_wp2
      go_ret
      exact ⟨rfl, HB.out⟩
end Go.Proofs.Ytllmgjfffkhocaa
