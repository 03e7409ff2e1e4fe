/-
  Texts of the proof, one behind the other: SvH, SvG, LcA.
-/
import Derived.Test.YtfgkpjjjjnollaaGreatDoorCO11
import Derived.Test.YtfgkpjjjjnollaaGreatDoorCO47

/-
  The laws' heldCrlS: what was marked is held.
-/
namespace Go.Proofs.YtfgkpjjjjnollaaGreatDoor
open Go.RowKit
set_option linter.unusedVariables false
set_option linter.unusedSimpArgs false

set_option maxHeartbeats 12800000 in
set_option maxRecDepth 100000 in
theorem heldCrlS_same (l : List Cl) (v : Value) (k : Nat) (w : World) (hl : wtS l ≤ 1048576) (hk1 : 1 ≤ k) (hk : k ≤ 100000000) (ha : AtS crlKd w v (mkS k l)) :
    Calls Tryz.prog 67 #[v, .int .i64 k] w fun e w' => e = .returned (.int .i64 ((posS k l l.length : Nat) : Int)) ∧ Below w.heap.size w w' := by
  obtain ⟨ao, cap, hv⟩ := ha.shape
  obtain ⟨n, hn⟩ : ∃ n, l.length = n := ⟨_, rfl⟩
  rw [mkS_len, hn] at hv
  subst hv
  obtain ⟨KK, hKK⟩ : ∃ q : Nat, posS k l l.length = q := ⟨_, rfl⟩
  rw [hKK]
  have HA : Hid (AtS crlKd w (.slice ao n cap) (mkS k l) ∧ l.length = n ∧ wtS l ≤ 1048576 ∧ posS k l l.length = KK) := ⟨ha, hn, hl, hKK⟩
  have hn20 : n ≤ 1048576 := by unfold wtS at hl; omega
  clear ha hn hl hKK
  go_enter Tryz.func67, Tryz.ntmps67
  go_wp2_with fail
  go_loopw [1, 5] (fun kv iv wr => ∃ j q : Nat, j ≤ n ∧ iv = .int .i64 j ∧ kv = .int .i64 q ∧ (1 ≤ q ∧ q ≤ 200000000) ∧ Hid (q = posS k l j ∧ Below w.heap.size w wr)) (fun _ iv _ => n - (intOf iv).toNat)
  case atStart => exact ⟨0, k, Nat.zero_le _, rfl, rfl, ⟨hk1, by omega⟩, by simp [posS], Below.refl _ _⟩
  case round =>
    obtain ⟨j, q, hj, rfl, rfl, ⟨hq1, hq2⟩, H⟩ := hrel
    by_cases hjn : j < n
    · have hjl : j < l.length := by rw [HA.out.2.1]; exact hjn
      have hjm : j < (mkS k l).length := by rw [mkS_len]; exact hjl
      obtain ⟨g, off, u, hao, hgB, hPu, hus, hcell⟩ := HA.out.1.get hjm
      rw [mkS_get l k j hjl hjm, ← H.out.1] at hPu
      obtain ⟨c, hc⟩ : ∃ c, l[j] = c := ⟨_, rfl⟩
      rw [hc] at hPu
      obtain ⟨m, hm⟩ : ∃ m, c.revs.length = m := ⟨_, rfl⟩
      have hm20 : m ≤ 1048576 := by
        have h1 := wtS_mem (List.getElem_mem hjl)
        rw [hc] at h1
        have h2 := HA.out.2.2.1
        unfold wtL at h1
        omega
      obtain ⟨p, hup, hrv⟩ := hPu
      change RevAt w p (marksR (q + 5) c.revs.length) at hrv
      obtain ⟨pa, pc, hp, -⟩ := id hrv
      rw [marksR_len, hm] at hp
      subst hp
      subst hao
      rw [hm] at hrv
      obtain ⟨q5, hq5⟩ : ∃ t, q + 5 + 2 * m = t := ⟨_, rfl⟩
      have HC : Hid (∀ (W : World), Below w.heap.size w W → ∀ i x, (Value.agg #[.string ⟨(mt q).toArray⟩, .int .i64 ((q : Int) + 1), .int .i64 ((q : Int) + 1 + 1), .int .i64 ((q : Int) + 1 + 1 + 1), .int .i64 ((q : Int) + 1 + 1 + 1 + 1), .slice pa m pc, .string ⟨(mt q5).toArray⟩]).cells[i]? = some x → W.cell? ⟨g, off + j * 7 + i, none⟩ = some x) := fun W hb i x hx => by
        refine (hb.cell (p := ⟨g, off + j * 7 + i, none⟩) hgB).trans (hcell i x ?_)
        rw [hup]
        unfold mkE clV
        rw [hm, hq5]
        exact hx
      have HRV : Hid (RevAt w (.slice pa m pc) (marksR (q + 5) m)) := hrv
      have HQ : Hid (posS k l (j + 1) = q + (6 + 2 * m) ∧ posS k l (j + 1) ≤ k + 6 * wtS l ∧ wtS l ≤ 1048576 ∧ q + 5 + 2 * m = q5) := ⟨by rw [posS_next hjl, hc, ← H.out.1]; unfold szE; rw [hm], posS_le _ _ _, HA.out.2.2.1, hq5⟩
      have hq5b : q5 ≤ 200000000 := by have := HQ.out; omega
      have hq51 : 1 ≤ q5 := by omega
      have HB : Hid (Below w.heap.size w wr) := H.out.2
      clear H hus hcell hup hrv hc hm hq5 hgB hjm
      have hki : (j : Int) < (n : Int) := by omega
      have hk0 : (0 : Int) ≤ (j : Int) := by omega
      go_upto_region 4 with fail
      have hDr : Below wr.heap.size wr wr.drew := (Below.refl _ _).drew
      refine wp_region_held_drew (S := fun W => Below wr.heap.size wr W) (by kernel_rfl) hDr (fun hHeld => ?_)
      clear hDr
      generalize wr.drew = wd at hHeld ⊢
      refine wpAnyH_take (i := 0) (oi := ⟨some 12, _, _, _, _, _⟩) (v := ?_) rfl (by kernel_rfl) (by kernel_rfl) (by kernel_rfl) (fun _ _ _ h => h) (Or.inl ⟨by rfl, ?_⟩) hHeld ?_
      rotate_left
      · intro W hSw
        go_simp
        try with_reducible rfl
      try simp only [Act.put, List.setIfInBounds_toArray, List.set_cons_zero, List.set_cons_succ]
      refine wpAnyH_take (i := 1) (oi := ⟨some 13, _, _, _, _, _⟩) (v := ?_) rfl (by kernel_rfl) (by kernel_rfl) (by kernel_rfl) (fun _ _ _ h => h) (Or.inl ⟨by rfl, ?_⟩) hHeld ?_
      rotate_left
      · intro W hSw
        go_simp
        try with_reducible rfl
      try simp only [Act.put, List.setIfInBounds_toArray, List.set_cons_zero, List.set_cons_succ]
      refine wpAnyH_take (i := 2) (oi := ⟨some 14, _, _, _, _, _⟩) (v := ?_) rfl (by kernel_rfl) (by kernel_rfl) (by kernel_rfl) (fun _ _ _ h => h) (Or.inl ⟨by rfl, ?_⟩) hHeld ?_
      rotate_left
      · intro W hSw
        go_simp
        try with_reducible rfl
      try simp only [Act.put, List.setIfInBounds_toArray, List.set_cons_zero, List.set_cons_succ]
      refine wpAnyH_take (i := 3) (oi := ⟨some 15, _, _, _, _, _⟩) (v := ?_) rfl (by kernel_rfl) (by kernel_rfl) (by kernel_rfl) (fun _ _ _ h => h) (Or.inl ⟨by rfl, ?_⟩) hHeld ?_
      rotate_left
      · intro W hSw
        go_simp
        try with_reducible rfl
      try simp only [Act.put, List.setIfInBounds_toArray, List.set_cons_zero, List.set_cons_succ]
      refine wpAnyH_take (i := 4) (oi := ⟨some 16, _, _, _, _, _⟩) (v := ?_) rfl (by kernel_rfl) (by kernel_rfl) (by kernel_rfl) (fun _ _ _ h => h) (Or.inl ⟨by rfl, ?_⟩) hHeld ?_
      rotate_left
      · intro W hSw
        have e0 : W.cell? ⟨g, off + j * 7, none⟩ = some (.string ⟨(mt q).toArray⟩) := HC.out W (HB.out.trans (hSw.mono HB.out.size)) 0 _ rfl
        go_simp
        try with_reducible rfl
      try simp only [Act.put, List.setIfInBounds_toArray, List.set_cons_zero, List.set_cons_succ]
      refine wpAnyH_take (i := 5) (oi := ⟨some 17, _, _, _, _, _⟩) (v := ?_) rfl (by kernel_rfl) (by kernel_rfl) (by kernel_rfl) (fun _ _ _ h => h) (Or.inl ⟨by rfl, ?_⟩) hHeld ?_
      rotate_left
      · intro W hSw
        go_simp
        try with_reducible rfl
      try simp only [Act.put, List.setIfInBounds_toArray, List.set_cons_zero, List.set_cons_succ]
      refine wpAnyH_ready (rs := [6]) (by kernel_rfl) (by simp) ?_
      refine AllReadyH.cons (o := ⟨some 18, _, _, _, _, _⟩) rfl (fun K hK => ?_) AllReadyH.nil
      go_simp
      refine (markText_str q wd hq1 (by omega)).mono ?_
      rintro e w3 ⟨rfl, hb3⟩
      have hS3 : Below wr.heap.size wr w3 := hHeld.trans (hb3.mono hHeld.size)
      clear hb3
      refine hK.out _ _ hS3 (fun hHeld => ?_)
      clear hK K hS3
      try simp only [Act.put, List.setIfInBounds_toArray, List.set_cons_zero, List.set_cons_succ]
      refine wpAnyH_take (i := 7) (oi := ⟨some 19, _, _, _, _, _⟩) (v := ?_) rfl (by kernel_rfl) (by kernel_rfl) (by kernel_rfl) (fun _ _ _ h => h) (Or.inl ⟨by rfl, ?_⟩) hHeld ?_
      rotate_left
      · intro W hSw
        go_simp
        try with_reducible rfl
      try simp only [Act.put, List.setIfInBounds_toArray, List.set_cons_zero, List.set_cons_succ]
      refine wpAnyH_done (by kernel_rfl) ?_ _
      have HBn : Hid (Below w.heap.size w w3) := HB.out.trans (hHeld.mono HB.out.size)
      clear HB hHeld
      have HB := HBn
      clear HBn
      have c1 : w3.cell? ⟨g, off + j * 7 + 1, none⟩ = some (.int .i64 ((q : Int) + 1)) := HC.out w3 HB.out 1 _ rfl
      have c2 : w3.cell? ⟨g, off + j * 7 + 2, none⟩ = some (.int .i64 ((q : Int) + 1 + 1)) := HC.out w3 HB.out 2 _ rfl
      have c3 : w3.cell? ⟨g, off + j * 7 + 3, none⟩ = some (.int .i64 ((q : Int) + 1 + 1 + 1)) := HC.out w3 HB.out 3 _ rfl
      have c4 : w3.cell? ⟨g, off + j * 7 + 4, none⟩ = some (.int .i64 ((q : Int) + 1 + 1 + 1 + 1)) := HC.out w3 HB.out 4 _ rfl
      have c5 : w3.cell? ⟨g, off + j * 7 + 5, none⟩ = some (.slice pa m pc) := HC.out w3 HB.out 5 _ rfl
      have E5 := heldR_same (.slice pa m pc) m (q + 5) w3 (by omega) (by omega) (HRV.out.below HB.out)
      rw [HQ.out.2.2.2, show (((q + 5 : Nat)) : Int) = (q : Int) + 1 + 1 + 1 + 1 + 1 from by omega] at E5
      go_wp2_with fail
      clear c1 c2 c3 c4 c5
      refine E5.mono ?_
      rintro e w4 ⟨rfl, hb4⟩
      have HBn : Hid (Below w.heap.size w w4) := HB.out.trans (hb4.mono HB.out.size)
      clear HB hb4 E5
      have HB := HBn
      clear HBn
      have hq5n : ¬ (q5 : Int) < 0 := by omega
      go_upto_region 22 with fail
      have hDr : Below w4.heap.size w4 w4.drew := (Below.refl _ _).drew
      refine wp_region_held_drew (S := fun W => Below w4.heap.size w4 W) (by kernel_rfl) hDr (fun hHeld => ?_)
      clear hDr
      generalize w4.drew = wd at hHeld ⊢
      refine wpAnyH_take (i := 0) (oi := ⟨some 67, _, _, _, _, _⟩) (v := ?_) rfl (by kernel_rfl) (by kernel_rfl) (by kernel_rfl) (fun _ _ _ h => h) (Or.inl ⟨by rfl, ?_⟩) hHeld ?_
      rotate_left
      · intro W hSw
        go_simp
        try with_reducible rfl
      try simp only [Act.put, List.setIfInBounds_toArray, List.set_cons_zero, List.set_cons_succ]
      refine wpAnyH_take (i := 1) (oi := ⟨some 68, _, _, _, _, _⟩) (v := ?_) rfl (by kernel_rfl) (by kernel_rfl) (by kernel_rfl) (fun _ _ _ h => h) (Or.inl ⟨by rfl, ?_⟩) hHeld ?_
      rotate_left
      · intro W hSw
        go_simp
        try with_reducible rfl
      try simp only [Act.put, List.setIfInBounds_toArray, List.set_cons_zero, List.set_cons_succ]
      refine wpAnyH_take (i := 2) (oi := ⟨some 69, _, _, _, _, _⟩) (v := ?_) rfl (by kernel_rfl) (by kernel_rfl) (by kernel_rfl) (fun _ _ _ h => h) (Or.inl ⟨by rfl, ?_⟩) hHeld ?_
      rotate_left
      · intro W hSw
        go_simp
        try with_reducible rfl
      try simp only [Act.put, List.setIfInBounds_toArray, List.set_cons_zero, List.set_cons_succ]
      refine wpAnyH_take (i := 3) (oi := ⟨some 70, _, _, _, _, _⟩) (v := ?_) rfl (by kernel_rfl) (by kernel_rfl) (by kernel_rfl) (fun _ _ _ h => h) (Or.inl ⟨by rfl, ?_⟩) hHeld ?_
      rotate_left
      · intro W hSw
        go_simp
        try with_reducible rfl
      try simp only [Act.put, List.setIfInBounds_toArray, List.set_cons_zero, List.set_cons_succ]
      refine wpAnyH_take (i := 4) (oi := ⟨some 71, _, _, _, _, _⟩) (v := ?_) rfl (by kernel_rfl) (by kernel_rfl) (by kernel_rfl) (fun _ _ _ h => h) (Or.inl ⟨by rfl, ?_⟩) hHeld ?_
      rotate_left
      · intro W hSw
        have e0 : W.cell? ⟨g, off + j * 7 + 6, none⟩ = some (.string ⟨(mt q5).toArray⟩) := HC.out W (HB.out.trans (hSw.mono HB.out.size)) 6 _ rfl
        go_simp
        try with_reducible rfl
      try simp only [Act.put, List.setIfInBounds_toArray, List.set_cons_zero, List.set_cons_succ]
      refine wpAnyH_take (i := 5) (oi := ⟨some 72, _, _, _, _, _⟩) (v := ?_) rfl (by kernel_rfl) (by kernel_rfl) (by kernel_rfl) (fun _ _ _ h => h) (Or.inl ⟨by rfl, ?_⟩) hHeld ?_
      rotate_left
      · intro W hSw
        go_simp
        try with_reducible rfl
      try simp only [Act.put, List.setIfInBounds_toArray, List.set_cons_zero, List.set_cons_succ]
      refine wpAnyH_ready (rs := [6]) (by kernel_rfl) (by simp) ?_
      refine AllReadyH.cons (o := ⟨some 73, _, _, _, _, _⟩) rfl (fun K hK => ?_) AllReadyH.nil
      go_simp
      refine (markText_str q5 wd hq51 (by omega)).mono ?_
      rintro e w3 ⟨rfl, hb3⟩
      have hS3 : Below w4.heap.size w4 w3 := hHeld.trans (hb3.mono hHeld.size)
      clear hb3
      refine hK.out _ _ hS3 (fun hHeld => ?_)
      clear hK K hS3
      try simp only [Act.put, List.setIfInBounds_toArray, List.set_cons_zero, List.set_cons_succ]
      refine wpAnyH_take (i := 7) (oi := ⟨some 74, _, _, _, _, _⟩) (v := ?_) rfl (by kernel_rfl) (by kernel_rfl) (by kernel_rfl) (fun _ _ _ h => h) (Or.inl ⟨by rfl, ?_⟩) hHeld ?_
      rotate_left
      · intro W hSw
        go_simp
        try with_reducible rfl
      try simp only [Act.put, List.setIfInBounds_toArray, List.set_cons_zero, List.set_cons_succ]
      refine wpAnyH_done (by kernel_rfl) ?_ _
      have HBn : Hid (Below w.heap.size w w3) := HB.out.trans (hHeld.mono HB.out.size)
      clear HB hHeld
      have HB := HBn
      clear HBn
      go_wp2_with fail
      go_roundw
      case rel => exact ⟨j + 1, q5 + 1, by omega, by go_num, by go_num, ⟨by omega, by have := HQ.out; omega⟩, by have := HQ.out; omega, HB.out⟩
      case measure => simp [intOf]; omega
    · have hjl : j = n := by omega
      subst hjl
      have HE : Hid (q = KK) := by
        show q = KK
        rw [← HA.out.2.2.2, HA.out.2.1]
        exact H.out.1
      go_wp2
      go_ret
      exact ⟨by rw [HE.out]; rfl, H.out.2⟩
end Go.Proofs.YtfgkpjjjjnollaaGreatDoor

/-
  A row of lists of what was called back that came in, opened.
-/
namespace Go.Proofs.YtfgkpjjjjnollaaGreatDoor
open Go.RowKit
set_option linter.unusedVariables false

theorem pickL {n : Nat} {P : Nat → Cl → Prop} (h : ∀ j, j < n → ∃ y, P j y) : ∃ l : List Cl, ∃ hl : l.length = n, ∀ j (hj : j < l.length), P j l[j] := by
  induction n with
  | zero => exact ⟨[], rfl, fun j hj => absurd hj (Nat.not_lt_zero _)⟩
  | succ n ih =>
    obtain ⟨l, hl, hP⟩ := ih fun j hj => h j (by omega)
    obtain ⟨y, hy⟩ := h n (by omega)
    refine ⟨l ++ [y], by simp [hl], fun j hj => ?_⟩
    by_cases e : j < l.length
    · rw [List.getElem_append_left e]
      exact hP j e
    · have e2 : j = l.length := by simp at hj; omega
      subst e2
      simpa [hl] using hy
theorem crls_in {H : Type} {enc : TypeId × Value → H} {W : World} {fuel : Nat} {cs : List Value} {x : DataW H × List MemPlace} (h : DataW.trod enc Tryz.prog W 0 (fun _ => true) true fuel 81 cs = some x) :
    ∃ ao cap, ∃ l : List Cl, cs = [.slice ao l.length cap] ∧ l.length ≤ maxLen ∧ (∀ c ∈ l, WdL c) ∧ ArgS W.heap.size W (.slice ao l.length cap) l := by
  rcases DataW.trod_slice Tryz.underlying81 h with ⟨h0, _⟩ | ⟨a, len, cap, elems, rest, q, hq, hc, _, hb, hlc, hcm, hel, helem, _, _⟩
  · exact ⟨none, 0, [], h0, Nat.zero_le _, fun x hx => by simp at hx, none, 0, rfl, fun j hj => by simp at hj⟩
  · have each : ∀ j, j < len → ∃ c : Cl, ∃ u : Value, ArgL W.heap.size W u c ∧ WdL c ∧ u.cells.size = 7 ∧ ∀ i x, u.cells[i]? = some x → W.cell? (a.add (j * 7 + i)) = some x := by
      intro j hj
      have he := helem j hj
      rw [cellsCrl] at he
      obtain ⟨z, hz⟩ : ∃ z, elems[j]? = some z := ⟨elems[j]'(by omega), by simp [show j < elems.length by omega]⟩
      rw [hz, Option.bind_eq_some_iff] at he
      obtain ⟨cs2, hcs2, htr⟩ := he
      obtain ⟨c, p, hv, harg, hwd⟩ := crl_of_trod htr
      have hsome := World.cells?_some hcs2
      refine ⟨c, clV c p, harg, hwd, rfl, fun i x hx => ?_⟩
      have hcl : (clV c p).cells = cs2.toArray := by rw [← hv]; rfl
      rw [hcl] at hx
      have hi : i < cs2.length := by have := (Array.getElem?_eq_some_iff.1 hx).1; simpa using this
      have h3 := hsome.2.2 i (by omega)
      rw [Addr.add_add] at h3
      rw [h3]
      simpa using hx
    obtain ⟨l, hl, hP⟩ := pickL each
    refine ⟨some a, cap, l, by rw [hl]; exact hc, by rw [hl]; exact Nat.le_trans hlc hcm, fun y hy => ?_, some a, cap, rfl, fun j hj => ?_⟩
    · obtain ⟨j, hj, rfl⟩ := List.getElem_of_mem hy
      obtain ⟨u, _, h2, _⟩ := hP j hj
      exact h2
    · obtain ⟨u, h1, h2, h3, h4⟩ := hP j hj
      obtain ⟨x0, hx0⟩ : ∃ x, u.cells[0]? = some x := ⟨u.cells[0]'(by omega), Array.getElem?_eq_getElem _⟩
      have c0 := h4 0 x0 hx0
      obtain ⟨u', _, _, g3, g4⟩ := hP 0 (by omega)
      obtain ⟨y0, hy0⟩ : ∃ x, u'.cells[0]? = some x := ⟨u'.cells[0]'(by omega), Array.getElem?_eq_getElem _⟩
      have d0 := g4 0 y0 hy0
      obtain ⟨b, off, spot⟩ := a
      have hspot : spot = none := by simpa [Addr.add] using World.cell?_spot d0
      subst hspot
      rw [Addr.add_lit] at c0
      refine ⟨b, off, u, rfl, lt_of_cell c0, h1, h3, fun i x hx => ?_⟩
      have := h4 i x hx
      rw [Addr.add_lit, ← Nat.add_assoc] at this
      exact this
end Go.Proofs.YtfgkpjjjjnollaaGreatDoor

/-
  What is kept of lists weighs no more than they do.
-/
namespace Go.Proofs.YtfgkpjjjjnollaaGreatDoor
open Go.RowKit
set_option linter.unusedVariables false

theorem wtS_filter (p : Cl → Bool) : ∀ l : List Cl, wtS (l.filter p) ≤ wtS l
  | [] => Nat.le_refl _
  | c :: l => by
    have ih := wtS_filter p l
    unfold wtS at ih ⊢
    by_cases h : p c = true
    · rw [List.filter_cons_of_pos h]
      simp only [List.map_cons, List.sum_cons, List.length_cons]
      omega
    · rw [List.filter_cons_of_neg h]
      simp only [List.map_cons, List.sum_cons, List.length_cons]
      omega
end Go.Proofs.YtfgkpjjjjnollaaGreatDoor
