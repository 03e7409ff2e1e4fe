/-
  The program's sameAnswer and SameAnswers.
-/
import Derived.Test.YtbiiihjohbnodaaRpS
import Derived.Deep.Cut
import Derived.Deep.RegionHeld3
namespace Go.Proofs.Ytbiiihjohbnodaa
open Go.RowKit
set_option linter.unusedVariables false
set_option linter.unusedSimpArgs false

set_option maxHeartbeats 1600000 in
set_option maxRecDepth 100000 in
theorem equalT_any (a b : List ByteArray) (u v : Value) (w : World) (hz1 : a.length ≤ 1000000000) (hz2 : b.length ≤ 1000000000) (h1 : TxtAt w u a) (h2 : TxtAt w v b) :
    Calls Try.prog 105 #[u, v] w fun e w' => e = .returned (.bool (sameTx a b)) ∧ Below w.heap.size w w' := by
  obtain ⟨pa, pc, rfl, ha⟩ := h1
  obtain ⟨qa, qc, rfl, hb⟩ := h2
  obtain ⟨n, hn⟩ : ∃ n, a.length = n := ⟨_, rfl⟩
  obtain ⟨m, hm⟩ : ∃ n, b.length = n := ⟨_, rfl⟩
  have HA : Hid ((∀ j, j < a.length → ∃ g, pa = some ⟨g, 0, none⟩ ∧ g < w.heap.size ∧ w.cell? ⟨g, j, none⟩ = some (.string (a.getD j ByteArray.empty))) ∧ a.length = n) := ⟨ha, hn⟩
  have HB : Hid ((∀ j, j < b.length → ∃ g, qa = some ⟨g, 0, none⟩ ∧ g < w.heap.size ∧ w.cell? ⟨g, j, none⟩ = some (.string (b.getD j ByteArray.empty))) ∧ b.length = m) := ⟨hb, hm⟩
  rw [hn] at hz1 ⊢
  rw [hm] at hz2 ⊢
  clear ha hb hn hm
  by_cases hnm : n = m
  rotate_left
  · have hni : ¬ (n : Int) = (m : Int) := by omega
    have HF : Hid (sameTx a b = false) := decide_eq_false fun q => hnm (by rw [← HA.out.2, ← HB.out.2]; exact q.1)
    go_enter Try.func105, Try.ntmps105
    go_wp2_with fail
    go_ret
    exact ⟨by rw [HF.out]; rfl, Below.refl _ _⟩
  subst hnm
  go_enter Try.func105, Try.ntmps105
  go_wp2_with fail
  go_loopw [13] (fun iv wr => ∃ k : Nat, k ≤ n ∧ iv = .int .i64 k ∧ Hid (∀ j, j < k → (a.getD j ByteArray.empty).toList = (b.getD j ByteArray.empty).toList) ∧ Hid (Below w.heap.size w wr)) (fun iv _ => n - (intOf iv).toNat)
  case atStart => exact ⟨0, Nat.zero_le _, rfl, fun j hj => absurd hj (Nat.not_lt_zero _), Below.refl _ _⟩
  case round =>
    obtain ⟨k, hk, rfl, HL, G1⟩ := hrel
    by_cases hlt : k < n
    · obtain ⟨g, hpg, hgw, hcs⟩ := HA.out.1 k (by rw [HA.out.2]; exact hlt)
      obtain ⟨h, hph, hhw, hds⟩ := HB.out.1 k (by rw [HB.out.2]; exact hlt)
      have hki : (k : Int) < (n : Int) := by omega
      have hk0 : (0 : Int) ≤ (k : Int) := by omega
      obtain ⟨x, hx⟩ : ∃ x, a.getD k ByteArray.empty = x := ⟨_, rfl⟩
      obtain ⟨y, hy⟩ : ∃ x, b.getD k ByteArray.empty = x := ⟨_, rfl⟩
      rw [hx] at hcs
      rw [hy] at hds
      have HC : Hid (∀ W, Below w.heap.size w W → W.cell? ⟨g, k, none⟩ = some (.string x) ∧ W.cell? ⟨h, k, none⟩ = some (.string y)) := fun W hW => ⟨(hW.cell (p := ⟨g, k, none⟩) hgw).trans hcs, (hW.cell (p := ⟨h, k, none⟩) hhw).trans hds⟩
      have HX : Hid (a.getD k ByteArray.empty = x ∧ b.getD k ByteArray.empty = y) := ⟨hx, hy⟩
      subst hpg hph
      clear hcs hx hgw hds hy hhw
      by_cases hxy : x.toList = y.toList
      · have hq : (x.toList == y.toList) = true := by rw [hxy]; simp
        have HN : Hid (∀ j, j < k + 1 → (a.getD j ByteArray.empty).toList = (b.getD j ByteArray.empty).toList) := fun j hj => by
          rcases Nat.lt_or_ge j k with h | h
          · exact HL.out j h
          · have : j = k := by omega
            subst this
            rw [HX.out.1, HX.out.2]; exact hxy
        clear HL hxy
        go_upto_region 6 with fail
        refine wp_region_held_drew (S := fun W => Below w.heap.size w W) (by kernel_rfl) G1.out.drew (fun hHeld => ?_)
        have GD : Hid (Below w.heap.size w wr.drew) := hHeld
        refine wpAnyH_take (i := 0) (oi := ⟨some 16, _, _, _, _, _⟩) (v := ?_) rfl (by kernel_rfl) (by kernel_rfl) (by kernel_rfl) (fun _ _ _ h => h) (Or.inl ⟨by rfl, ?_⟩) hHeld ?_
        rotate_left
        · intro W hSw
          go_simp
          try with_reducible rfl
        try simp only [Act.put, List.setIfInBounds_toArray, List.set_cons_zero, List.set_cons_succ]
        refine wpAnyH_take (i := 1) (oi := ⟨some 17, _, _, _, _, _⟩) (v := ?_) rfl (by kernel_rfl) (by kernel_rfl) (by kernel_rfl) (fun _ _ _ h => h) (Or.inl ⟨by rfl, ?_⟩) hHeld ?_
        rotate_left
        · intro W hSw
          go_simp
          try with_reducible rfl
        try simp only [Act.put, List.setIfInBounds_toArray, List.set_cons_zero, List.set_cons_succ]
        refine wpAnyH_take (i := 2) (oi := ⟨some 18, _, _, _, _, _⟩) (v := ?_) rfl (by kernel_rfl) (by kernel_rfl) (by kernel_rfl) (fun _ _ _ h => h) (Or.inl ⟨by rfl, ?_⟩) hHeld ?_
        rotate_left
        · intro W hSw
          go_simp
          try with_reducible rfl
        try simp only [Act.put, List.setIfInBounds_toArray, List.set_cons_zero, List.set_cons_succ]
        refine wpAnyH_take (i := 3) (oi := ⟨some 19, _, _, _, _, _⟩) (v := ?_) rfl (by kernel_rfl) (by kernel_rfl) (by kernel_rfl) (fun _ _ _ h => h) (Or.inl ⟨by rfl, ?_⟩) hHeld ?_
        rotate_left
        · intro W hSw
          obtain ⟨c1, d1⟩ := HC.out W hSw
          go_simp
          try with_reducible rfl
        try simp only [Act.put, List.setIfInBounds_toArray, List.set_cons_zero, List.set_cons_succ]
        refine wpAnyH_take (i := 4) (oi := ⟨some 20, _, _, _, _, _⟩) (v := ?_) rfl (by kernel_rfl) (by kernel_rfl) (by kernel_rfl) (fun _ _ _ h => h) (Or.inl ⟨by rfl, ?_⟩) hHeld ?_
        rotate_left
        · intro W hSw
          go_simp
          try with_reducible rfl
        try simp only [Act.put, List.setIfInBounds_toArray, List.set_cons_zero, List.set_cons_succ]
        refine wpAnyH_take (i := 5) (oi := ⟨some 21, _, _, _, _, _⟩) (v := ?_) rfl (by kernel_rfl) (by kernel_rfl) (by kernel_rfl) (fun _ _ _ h => h) (Or.inl ⟨by rfl, ?_⟩) hHeld ?_
        rotate_left
        · intro W hSw
          go_simp
          try with_reducible rfl
        try simp only [Act.put, List.setIfInBounds_toArray, List.set_cons_zero, List.set_cons_succ]
        refine wpAnyH_take (i := 6) (oi := ⟨some 22, _, _, _, _, _⟩) (v := ?_) rfl (by kernel_rfl) (by kernel_rfl) (by kernel_rfl) (fun _ _ _ h => h) (Or.inl ⟨by rfl, ?_⟩) hHeld ?_
        rotate_left
        · intro W hSw
          go_simp
          try with_reducible rfl
        try simp only [Act.put, List.setIfInBounds_toArray, List.set_cons_zero, List.set_cons_succ]
        refine wpAnyH_take (i := 7) (oi := ⟨some 23, _, _, _, _, _⟩) (v := ?_) rfl (by kernel_rfl) (by kernel_rfl) (by kernel_rfl) (fun _ _ _ h => h) (Or.inl ⟨by rfl, ?_⟩) hHeld ?_
        rotate_left
        · intro W hSw
          obtain ⟨c1, d1⟩ := HC.out W hSw
          go_simp
          try with_reducible rfl
        try simp only [Act.put, List.setIfInBounds_toArray, List.set_cons_zero, List.set_cons_succ]
        refine wpAnyH_take (i := 8) (oi := ⟨some 24, _, _, _, _, _⟩) (v := ?_) rfl (by kernel_rfl) (by kernel_rfl) (by kernel_rfl) (fun _ _ _ h => h) (Or.inl ⟨by rfl, ?_⟩) hHeld ?_
        rotate_left
        · intro W hSw
          go_simp
          try with_reducible rfl
        try simp only [Act.put, List.setIfInBounds_toArray, List.set_cons_zero, List.set_cons_succ]
        refine wpAnyH_done (by kernel_rfl) ?_ _
        go_wp2_with fail
        go_roundw
        case rel => exact ⟨k + 1, by omega, by go_num, HN, GD⟩
        case measure => simp [intOf]; omega
      · have hq : (x.toList == y.toList) = false := beq_eq_false_iff_ne.2 hxy
        have HF : Hid (sameTx a b = false) := decide_eq_false fun q => hxy (by have := q.2 k (by rw [HA.out.2]; exact hlt); rw [HX.out.1, HX.out.2] at this; exact this)
        clear hxy
        go_upto_region 6 with fail
        refine wp_region_held_drew (S := fun W => Below w.heap.size w W) (by kernel_rfl) G1.out.drew (fun hHeld => ?_)
        have GD : Hid (Below w.heap.size w wr.drew) := hHeld
        refine wpAnyH_take (i := 0) (oi := ⟨some 16, _, _, _, _, _⟩) (v := ?_) rfl (by kernel_rfl) (by kernel_rfl) (by kernel_rfl) (fun _ _ _ h => h) (Or.inl ⟨by rfl, ?_⟩) hHeld ?_
        rotate_left
        · intro W hSw
          go_simp
          try with_reducible rfl
        try simp only [Act.put, List.setIfInBounds_toArray, List.set_cons_zero, List.set_cons_succ]
        refine wpAnyH_take (i := 1) (oi := ⟨some 17, _, _, _, _, _⟩) (v := ?_) rfl (by kernel_rfl) (by kernel_rfl) (by kernel_rfl) (fun _ _ _ h => h) (Or.inl ⟨by rfl, ?_⟩) hHeld ?_
        rotate_left
        · intro W hSw
          go_simp
          try with_reducible rfl
        try simp only [Act.put, List.setIfInBounds_toArray, List.set_cons_zero, List.set_cons_succ]
        refine wpAnyH_take (i := 2) (oi := ⟨some 18, _, _, _, _, _⟩) (v := ?_) rfl (by kernel_rfl) (by kernel_rfl) (by kernel_rfl) (fun _ _ _ h => h) (Or.inl ⟨by rfl, ?_⟩) hHeld ?_
        rotate_left
        · intro W hSw
          go_simp
          try with_reducible rfl
        try simp only [Act.put, List.setIfInBounds_toArray, List.set_cons_zero, List.set_cons_succ]
        refine wpAnyH_take (i := 3) (oi := ⟨some 19, _, _, _, _, _⟩) (v := ?_) rfl (by kernel_rfl) (by kernel_rfl) (by kernel_rfl) (fun _ _ _ h => h) (Or.inl ⟨by rfl, ?_⟩) hHeld ?_
        rotate_left
        · intro W hSw
          obtain ⟨c1, d1⟩ := HC.out W hSw
          go_simp
          try with_reducible rfl
        try simp only [Act.put, List.setIfInBounds_toArray, List.set_cons_zero, List.set_cons_succ]
        refine wpAnyH_take (i := 4) (oi := ⟨some 20, _, _, _, _, _⟩) (v := ?_) rfl (by kernel_rfl) (by kernel_rfl) (by kernel_rfl) (fun _ _ _ h => h) (Or.inl ⟨by rfl, ?_⟩) hHeld ?_
        rotate_left
        · intro W hSw
          go_simp
          try with_reducible rfl
        try simp only [Act.put, List.setIfInBounds_toArray, List.set_cons_zero, List.set_cons_succ]
        refine wpAnyH_take (i := 5) (oi := ⟨some 21, _, _, _, _, _⟩) (v := ?_) rfl (by kernel_rfl) (by kernel_rfl) (by kernel_rfl) (fun _ _ _ h => h) (Or.inl ⟨by rfl, ?_⟩) hHeld ?_
        rotate_left
        · intro W hSw
          go_simp
          try with_reducible rfl
        try simp only [Act.put, List.setIfInBounds_toArray, List.set_cons_zero, List.set_cons_succ]
        refine wpAnyH_take (i := 6) (oi := ⟨some 22, _, _, _, _, _⟩) (v := ?_) rfl (by kernel_rfl) (by kernel_rfl) (by kernel_rfl) (fun _ _ _ h => h) (Or.inl ⟨by rfl, ?_⟩) hHeld ?_
        rotate_left
        · intro W hSw
          go_simp
          try with_reducible rfl
        try simp only [Act.put, List.setIfInBounds_toArray, List.set_cons_zero, List.set_cons_succ]
        refine wpAnyH_take (i := 7) (oi := ⟨some 23, _, _, _, _, _⟩) (v := ?_) rfl (by kernel_rfl) (by kernel_rfl) (by kernel_rfl) (fun _ _ _ h => h) (Or.inl ⟨by rfl, ?_⟩) hHeld ?_
        rotate_left
        · intro W hSw
          obtain ⟨c1, d1⟩ := HC.out W hSw
          go_simp
          try with_reducible rfl
        try simp only [Act.put, List.setIfInBounds_toArray, List.set_cons_zero, List.set_cons_succ]
        refine wpAnyH_take (i := 8) (oi := ⟨some 24, _, _, _, _, _⟩) (v := ?_) rfl (by kernel_rfl) (by kernel_rfl) (by kernel_rfl) (fun _ _ _ h => h) (Or.inl ⟨by rfl, ?_⟩) hHeld ?_
        rotate_left
        · intro W hSw
          go_simp
          try with_reducible rfl
        try simp only [Act.put, List.setIfInBounds_toArray, List.set_cons_zero, List.set_cons_succ]
        refine wpAnyH_done (by kernel_rfl) ?_ _
        go_wp2_with fail
        go_ret
        exact ⟨by rw [HF.out]; rfl, GD.out⟩
    · have hkl : n = k := by omega
      subst hkl
      have HF : Hid (sameTx a b = true) := decide_eq_true ⟨by rw [HA.out.2, HB.out.2], fun j hj => HL.out j (by rw [← HA.out.2]; exact hj)⟩
      go_wp2_with fail
      go_ret
      exact ⟨by rw [HF.out]; rfl, G1.out⟩
set_option maxHeartbeats 3200000 in
set_option maxRecDepth 100000 in
theorem sameAnswer_any (x y : Aw) (u v : Value) (w : World) (hzx : wtAw x ≤ 1000000000) (hzy : wtAw y ≤ 1000000000) (ha : AwAt w u x) (hb : AwAt w v y) :
    Calls Try.prog 76 #[u, v] w fun e w' => e = .returned (.bool (sameAw x y)) ∧ Below w.heap.size w w' := by
  obtain ⟨p1, q1, e1, r1, hu⟩ := AwAt.shape ha
  obtain ⟨p2, q2, e2, r2, hv⟩ := AwAt.shape hb
  subst hu hv
  have hr1 := AwAt.rows ha
  have hr2 := AwAt.rows hb
  have hlx := wtAw_lens hzx
  have hly := wtAw_lens hzy
  obtain ⟨B3, hB3⟩ : ∃ z, sameTx x.path y.path = z := ⟨_, rfl⟩
  obtain ⟨B4, hB4⟩ : ∃ z, sameTx x.lst y.lst = z := ⟨_, rfl⟩
  have E3 : Hid (∀ W, Below w.heap.size w W → Calls Try.prog 105 #[.slice p1 x.path.length q1, .slice p2 y.path.length q2] W fun e w' => e = .returned (.bool B3) ∧ Below W.heap.size W w') := fun W hb => by rw [← hB3]; exact equalT_any _ _ _ _ W hlx.1 hly.1 (hr1.1.below hb) (hr2.1.below hb)
  have E4 : Hid (∀ W, Below w.heap.size w W → Calls Try.prog 105 #[.slice e1 x.lst.length r1, .slice e2 y.lst.length r2] W fun e w' => e = .returned (.bool B4) ∧ Below W.heap.size W w') := fun W hb => by rw [← hB4]; exact equalT_any _ _ _ _ W hlx.2 hly.2 (hr1.2.below hb) (hr2.2.below hb)
  have HC : Hid (sameAw x y = (decide (x.status = y.status) && (decide (x.why = y.why) && (B3 && B4)))) := by show sameAw x y = _; unfold sameAw; rw [hB3, hB4]
  clear hB3 hB4 hr1 hr2 hlx hly ha hb hzx hzy
  unfold awV
  by_cases hs : x.status = y.status
  rotate_left
  · have HF : Hid (sameAw x y = false) := by show sameAw x y = false; rw [HC.out, decide_eq_false hs]; rfl
    have hsq : (x.status == y.status) = false := by simpa using hs
    clear HC E3 E4
    go_enter Try.func76, Try.ntmps76
    go_wp2_with fail
    go_ret
    exact ⟨by rw [HF.out]; try rfl, ((Below.refl _ _).alloc (Nat.le_refl _) _).alloc (by rw [size_alloc]; omega) _⟩
  have hsq : (x.status == y.status) = true := by simpa using hs
  by_cases hw : x.why = y.why
  rotate_left
  · have HF : Hid (sameAw x y = false) := by show sameAw x y = false; rw [HC.out, decide_eq_false hw]; simp
    have hwq : (x.why == y.why) = false := by simpa using hw
    clear HC E3 E4 hs hw
    go_enter Try.func76, Try.ntmps76
    go_wp2_with fail
    go_ret
    exact ⟨by rw [HF.out]; try rfl, ((Below.refl _ _).alloc (Nat.le_refl _) _).alloc (by rw [size_alloc]; omega) _⟩
  have hwq : (x.why == y.why) = true := by simpa using hw
  have HC2 : Hid (sameAw x y = (B3 && B4)) := by show sameAw x y = _; rw [HC.out, decide_eq_true hs, decide_eq_true hw]; rfl
  clear HC hs hw
  go_enter Try.func76, Try.ntmps76
  go_wp2_with fail
  obtain ⟨V0, hV⟩ : ∃ V, V = (w.alloc (Obj.cells #[.int .i64 x.status, .int .i64 x.why, .slice p1 x.path.length q1, .slice e1 x.lst.length r1] 84)).alloc (Obj.cells #[.int .i64 y.status, .int .i64 y.why, .slice p2 y.path.length q2, .slice e2 y.lst.length r2] 84) := ⟨_, rfl⟩
  rw [← hV]
  have G0 : Hid (Below w.heap.size w V0 ∧ Blk V0 w.heap.size 84 #[.int .i64 x.status, .int .i64 x.why, .slice p1 x.path.length q1, .slice e1 x.lst.length r1] ∧ Blk V0 (w.heap.size + 1) 84 #[.int .i64 y.status, .int .i64 y.why, .slice p2 y.path.length q2, .slice e2 y.lst.length r2] ∧ w.heap.size + 1 < V0.heap.size) := by
    have e0 : (w.alloc (Obj.cells #[.int .i64 x.status, .int .i64 x.why, .slice p1 x.path.length q1, .slice e1 x.lst.length r1] 84)).heap.size = w.heap.size + 1 := Array.size_push _
    have h := Blk.new (w.alloc (Obj.cells #[.int .i64 x.status, .int .i64 x.why, .slice p1 x.path.length q1, .slice e1 x.lst.length r1] 84)) 84 #[.int .i64 y.status, .int .i64 y.why, .slice p2 y.path.length q2, .slice e2 y.lst.length r2]
    rw [e0] at h
    rw [hV]
    exact ⟨((Below.refl _ _).alloc (Nat.le_refl _) _).alloc (by rw [e0]; omega) _, (Blk.new w _ _).alloc _, h, by rw [size_alloc, e0]; omega⟩
  clear hV
  refine (E3.out V0 G0.out.1).mono ?_
  rintro e V1 ⟨rfl, hb⟩
  have G1 : Hid (Below w.heap.size w V1 ∧ Blk V1 w.heap.size 84 #[.int .i64 x.status, .int .i64 x.why, .slice p1 x.path.length q1, .slice e1 x.lst.length r1] ∧ Blk V1 (w.heap.size + 1) 84 #[.int .i64 y.status, .int .i64 y.why, .slice p2 y.path.length q2, .slice e2 y.lst.length r2] ∧ w.heap.size + 1 < V1.heap.size) := ⟨G0.out.1.trans (hb.mono G0.out.1.size), G0.out.2.1.below hb (by have := G0.out.2.2.2; omega), G0.out.2.2.1.below hb G0.out.2.2.2, Nat.lt_of_lt_of_le G0.out.2.2.2 hb.size⟩
  clear hb E3 G0
  have a10 : V1.cell? ⟨w.heap.size, 0, none⟩ = some (.int .i64 x.status) := G1.out.2.1.cell 0
  have b10 : V1.cell? ⟨w.heap.size + 1, 0, none⟩ = some (.int .i64 y.status) := G1.out.2.2.1.cell 0
  have a11 : V1.cell? ⟨w.heap.size, 1, none⟩ = some (.int .i64 x.why) := G1.out.2.1.cell 1
  have b11 : V1.cell? ⟨w.heap.size + 1, 1, none⟩ = some (.int .i64 y.why) := G1.out.2.2.1.cell 1
  have a12 : V1.cell? ⟨w.heap.size, 2, none⟩ = some (.slice p1 x.path.length q1) := G1.out.2.1.cell 2
  have b12 : V1.cell? ⟨w.heap.size + 1, 2, none⟩ = some (.slice p2 y.path.length q2) := G1.out.2.2.1.cell 2
  have a13 : V1.cell? ⟨w.heap.size, 3, none⟩ = some (.slice e1 x.lst.length r1) := G1.out.2.1.cell 3
  have b13 : V1.cell? ⟨w.heap.size + 1, 3, none⟩ = some (.slice e2 y.lst.length r2) := G1.out.2.2.1.cell 3
  cases B3 with
  | false =>
    have HF : Hid (sameAw x y = false) := HC2.out
    go_wp2_with fail
    go_ret
    exact ⟨by rw [HF.out]; try rfl, G1.out.1⟩
  | true =>
    go_wp2_with fail
    clear a10 b10 a11 b11 a12 b12 a13 b13
    refine (E4.out V1 G1.out.1).mono ?_
    rintro e V2 ⟨rfl, hb⟩
    have G2 : Hid (Below w.heap.size w V2 ∧ Blk V2 w.heap.size 84 #[.int .i64 x.status, .int .i64 x.why, .slice p1 x.path.length q1, .slice e1 x.lst.length r1] ∧ Blk V2 (w.heap.size + 1) 84 #[.int .i64 y.status, .int .i64 y.why, .slice p2 y.path.length q2, .slice e2 y.lst.length r2] ∧ w.heap.size + 1 < V2.heap.size) := ⟨G1.out.1.trans (hb.mono G1.out.1.size), G1.out.2.1.below hb (by have := G1.out.2.2.2; omega), G1.out.2.2.1.below hb G1.out.2.2.2, Nat.lt_of_lt_of_le G1.out.2.2.2 hb.size⟩
    clear hb E4 G1
    have a20 : V2.cell? ⟨w.heap.size, 0, none⟩ = some (.int .i64 x.status) := G2.out.2.1.cell 0
    have b20 : V2.cell? ⟨w.heap.size + 1, 0, none⟩ = some (.int .i64 y.status) := G2.out.2.2.1.cell 0
    have a21 : V2.cell? ⟨w.heap.size, 1, none⟩ = some (.int .i64 x.why) := G2.out.2.1.cell 1
    have b21 : V2.cell? ⟨w.heap.size + 1, 1, none⟩ = some (.int .i64 y.why) := G2.out.2.2.1.cell 1
    have a22 : V2.cell? ⟨w.heap.size, 2, none⟩ = some (.slice p1 x.path.length q1) := G2.out.2.1.cell 2
    have b22 : V2.cell? ⟨w.heap.size + 1, 2, none⟩ = some (.slice p2 y.path.length q2) := G2.out.2.2.1.cell 2
    have a23 : V2.cell? ⟨w.heap.size, 3, none⟩ = some (.slice e1 x.lst.length r1) := G2.out.2.1.cell 3
    have b23 : V2.cell? ⟨w.heap.size + 1, 3, none⟩ = some (.slice e2 y.lst.length r2) := G2.out.2.2.1.cell 3
    have HF : Hid (sameAw x y = B4) := HC2.out
    cases B4 with
    | false =>
      go_wp2_with fail
      go_ret
      exact ⟨by rw [HF.out]; try rfl, G2.out.1⟩
    | true =>
      go_wp2_with fail
      go_ret
      exact ⟨by rw [HF.out]; try rfl, G2.out.1⟩
set_option maxHeartbeats 6400000 in
set_option maxRecDepth 100000 in
theorem equalFunc_any (a b : List Aw) (u v : Value) (w : World) (hz1 : wtAS a ≤ 1000000000) (hz2 : wtAS b ≤ 1000000000) (h1 : AtS awKd w u a) (h2 : AtS awKd w v b) :
    Calls Try.prog 75 #[u, v, .func (.func 76) #[] #[]] w fun e w' => e = .returned (.bool (sameAs a b)) ∧ Below w.heap.size w w' := by
  obtain ⟨pa, pc, hpa⟩ := h1.shape
  obtain ⟨qa, qc, hqa⟩ := h2.shape
  obtain ⟨n, hn⟩ : ∃ n, a.length = n := ⟨_, rfl⟩
  obtain ⟨m, hm⟩ : ∃ n, b.length = n := ⟨_, rfl⟩
  rw [hn] at hpa
  rw [hm] at hqa
  subst hpa hqa
  have hnl : n ≤ 1000000000 := by have := wtAS_len a; omega
  have hml : m ≤ 1000000000 := by have := wtAS_len b; omega
  have HA : Hid (AtS awKd w (.slice pa n pc) a ∧ a.length = n ∧ wtAS a ≤ 1000000000) := ⟨h1, hn, hz1⟩
  have HB : Hid (AtS awKd w (.slice qa m qc) b ∧ b.length = m ∧ wtAS b ≤ 1000000000) := ⟨h2, hm, hz2⟩
  clear h1 h2 hn hm hz1 hz2
  by_cases hnm : n = m
  rotate_left
  · have hni : ¬ (n : Int) = (m : Int) := by omega
    have HF : Hid (sameAs a b = false) := decide_eq_false fun q => hnm (by rw [← HA.out.2.1, ← HB.out.2.1]; exact q.1)
    go_enter Try.func75, Try.ntmps75
    go_wp2_with fail
    go_ret
    exact ⟨by rw [HF.out]; rfl, Below.refl _ _⟩
  subst hnm
  go_enter Try.func75, Try.ntmps75
  go_wp2_with fail
  go_loopw [17] (fun iv wr => ∃ k : Nat, k ≤ n ∧ iv = .int .i64 k ∧ Hid (∀ j, j < k → sameAw (a.getD j zeAw) (b.getD j zeAw) = true) ∧ Hid (Below w.heap.size w wr)) (fun iv _ => n - (intOf iv).toNat)
  case atStart => exact ⟨0, Nat.zero_le _, rfl, fun j hj => absurd hj (Nat.not_lt_zero _), Below.refl _ _⟩
  case round =>
    obtain ⟨k, hk, rfl, HL, G1⟩ := hrel
    by_cases hlt : k < n
    · have hka : k < a.length := by rw [HA.out.2.1]; exact hlt
      have hkb : k < b.length := by rw [HB.out.2.1]; exact hlt
      obtain ⟨g1, o1, u1, hax, hg1, hP1, hs1, hc1⟩ := HA.out.1.get hka
      obtain ⟨g2, o2, u2, hay, hg2, hP2, hs2, hc2⟩ := HB.out.1.get hkb
      subst hax hay
      obtain ⟨x, hx⟩ : ∃ c, a[k] = c := ⟨_, rfl⟩
      obtain ⟨y, hy⟩ : ∃ c, b[k] = c := ⟨_, rfl⟩
      have hwx : wtAw x ≤ 1000000000 := by rw [← hx]; exact Nat.le_trans (wtAS_mem (List.getElem_mem hka)) HA.out.2.2
      have hwy : wtAw y ≤ 1000000000 := by rw [← hy]; exact Nat.le_trans (wtAS_mem (List.getElem_mem hkb)) HB.out.2.2
      have hlx := wtAw_lens hwx
      have hly := wtAw_lens hwy
      obtain ⟨p1, q1, e1, r1, hu1⟩ := AwAt.shape hP1
      obtain ⟨p2, q2, e2, r2, hu2⟩ := AwAt.shape hP2
      rw [hx] at hu1 hP1
      rw [hy] at hu2 hP2
      subst hu1 hu2
      have hr1 := AwAt.rows hP1
      have hr2 := AwAt.rows hP2
      have hf1 : ∀ (W : World) (i : Nat) (z : Value), Below w.heap.size w W → (awV x (.slice p1 x.path.length q1) (.slice e1 x.lst.length r1)).cells[i]? = some z → W.cell? ⟨g1, o1 + k * 4 + i, none⟩ = some z := fun W i z hW hz => (hW.cell (p := ⟨g1, o1 + k * 4 + i, none⟩) hg1).trans (hc1 i z hz)
      have hf2 : ∀ (W : World) (i : Nat) (z : Value), Below w.heap.size w W → (awV y (.slice p2 y.path.length q2) (.slice e2 y.lst.length r2)).cells[i]? = some z → W.cell? ⟨g2, o2 + k * 4 + i, none⟩ = some z := fun W i z hW hz => (hW.cell (p := ⟨g2, o2 + k * 4 + i, none⟩) hg2).trans (hc2 i z hz)
      have HS : Hid (∀ W, Below w.heap.size w W → (W.cell? ⟨g1, o1 + k * 4, none⟩ = some (.int .i64 x.status) ∧ W.cell? ⟨g1, o1 + k * 4 + 1, none⟩ = some (.int .i64 x.why) ∧ W.cell? ⟨g1, o1 + k * 4 + 2, none⟩ = some (.slice p1 x.path.length q1) ∧ W.cell? ⟨g1, o1 + k * 4 + 3, none⟩ = some (.slice e1 x.lst.length r1)) ∧ (W.cell? ⟨g2, o2 + k * 4, none⟩ = some (.int .i64 y.status) ∧ W.cell? ⟨g2, o2 + k * 4 + 1, none⟩ = some (.int .i64 y.why) ∧ W.cell? ⟨g2, o2 + k * 4 + 2, none⟩ = some (.slice p2 y.path.length q2) ∧ W.cell? ⟨g2, o2 + k * 4 + 3, none⟩ = some (.slice e2 y.lst.length r2))) := fun W hW =>
        ⟨⟨hf1 W 0 _ hW rfl, hf1 W 1 _ hW rfl, hf1 W 2 _ hW rfl, hf1 W 3 _ hW rfl⟩, hf2 W 0 _ hW rfl, hf2 W 1 _ hW rfl, hf2 W 2 _ hW rfl, hf2 W 3 _ hW rfl⟩
      have EA := fun W (hb : Below w.heap.size w W) => sameAnswer_any x y _ _ W hwx hwy (hP1.below hb) (hP2.below hb)
      obtain ⟨B, hB⟩ : ∃ z, sameAw x y = z := ⟨_, rfl⟩
      rw [hB] at EA
      have EB : Hid (∀ W, Below w.heap.size w W → Calls Try.prog 76 #[.agg #[.int .i64 x.status, .int .i64 x.why, .slice p1 x.path.length q1, .slice e1 x.lst.length r1], .agg #[.int .i64 y.status, .int .i64 y.why, .slice p2 y.path.length q2, .slice e2 y.lst.length r2]] W fun e w' => e = .returned (.bool B) ∧ Below W.heap.size W w') := EA
      have HXY : Hid (a.getD k zeAw = x ∧ b.getD k zeAw = y ∧ sameAw x y = B) := ⟨by rw [List.getD_eq_getElem?_getD, List.getElem?_eq_getElem hka]; exact hx, by rw [List.getD_eq_getElem?_getD, List.getElem?_eq_getElem hkb]; exact hy, hB⟩
      have HKA : Hid (k < a.length) := hka
      have hki : (k : Int) < (n : Int) := by omega
      have hk0 : (0 : Int) ≤ (k : Int) := by omega
      clear hf1 hf2 hc1 hc2 hP1 hP2 hs1 hs2 hg1 hg2 hx hy hwx hwy hr1 hr2 hB hka hkb hlx hly EA
      obtain ⟨⟨a00, a01, a02, a03⟩, b00, b01, b02, b03⟩ := HS.out wr G1.out
      obtain ⟨V2, hV⟩ : ∃ V, V = wr.alloc (Obj.cells #[.int .i64 x.status, .int .i64 x.why, .slice p1 x.path.length q1, .slice e1 x.lst.length r1] 84) := ⟨_, rfl⟩
      have hsz2 : V2.heap.size = wr.heap.size + 1 := by rw [hV]; exact size_alloc _ _
      have G2 : Hid (Below w.heap.size w V2 ∧ Blk V2 wr.heap.size 84 #[.int .i64 x.status, .int .i64 x.why, .slice p1 x.path.length q1, .slice e1 x.lst.length r1]) := by
        rw [hV]
        exact ⟨G1.out.trans ((Below.refl _ _).alloc G1.out.size _), Blk.new wr _ _⟩
      clear G1
      go_upto_region 6 with fail
      rw [← hV]
      clear hV a00 a01 a02 a03 b00 b01 b02 b03
      obtain ⟨-, b10, b11, b12, b13⟩ := HS.out V2 G2.out.1
      obtain ⟨V3, hV⟩ : ∃ V, V = V2.alloc (Obj.cells #[.int .i64 y.status, .int .i64 y.why, .slice p2 y.path.length q2, .slice e2 y.lst.length r2] 84) := ⟨_, rfl⟩
      have G3 : Hid (Below w.heap.size w V3 ∧ Blk V3 wr.heap.size 84 #[.int .i64 x.status, .int .i64 x.why, .slice p1 x.path.length q1, .slice e1 x.lst.length r1] ∧ Blk V3 (wr.heap.size + 1) 84 #[.int .i64 y.status, .int .i64 y.why, .slice p2 y.path.length q2, .slice e2 y.lst.length r2]) := by
        have h := Blk.new V2 84 #[.int .i64 y.status, .int .i64 y.why, .slice p2 y.path.length q2, .slice e2 y.lst.length r2]
        rw [hsz2] at h
        rw [hV]
        exact ⟨G2.out.1.trans ((Below.refl _ _).alloc G2.out.1.size _), G2.out.2.alloc _, h⟩
      have HE2 : Hid (V2.heap.size = wr.heap.size + 1) := hsz2
      clear hsz2 G2
      go_upto_region 7 with fail
      try rw [HE2.out]
      rw [← hV]
      clear hV b10 b11 b12 b13
      have a30 : V3.cell? ⟨wr.heap.size, 0, none⟩ = some (.int .i64 x.status) := G3.out.2.1.cell 0
      have b30 : V3.cell? ⟨wr.heap.size + 1, 0, none⟩ = some (.int .i64 y.status) := G3.out.2.2.cell 0
      have a31 : V3.cell? ⟨wr.heap.size, 1, none⟩ = some (.int .i64 x.why) := G3.out.2.1.cell 1
      have b31 : V3.cell? ⟨wr.heap.size + 1, 1, none⟩ = some (.int .i64 y.why) := G3.out.2.2.cell 1
      have a32 : V3.cell? ⟨wr.heap.size, 2, none⟩ = some (.slice p1 x.path.length q1) := G3.out.2.1.cell 2
      have b32 : V3.cell? ⟨wr.heap.size + 1, 2, none⟩ = some (.slice p2 y.path.length q2) := G3.out.2.2.cell 2
      have a33 : V3.cell? ⟨wr.heap.size, 3, none⟩ = some (.slice e1 x.lst.length r1) := G3.out.2.1.cell 3
      have b33 : V3.cell? ⟨wr.heap.size + 1, 3, none⟩ = some (.slice e2 y.lst.length r2) := G3.out.2.2.cell 3
      go_wp2_with fail
      refine (EB.out V3 G3.out.1).mono ?_
      rintro e V4 ⟨rfl, hb⟩
      have G4 : Hid (Below w.heap.size w V4) := G3.out.1.trans (hb.mono G3.out.1.size)
      clear hb EB G3 a30 b30 a31 b31 a32 b32 a33 b33 HS HE2
      cases B with
      | false =>
        have HF : Hid (sameAs a b = false) := decide_eq_false fun q => by
          have := q.2 k HKA.out
          rw [HXY.out.1, HXY.out.2.1, HXY.out.2.2] at this
          cases this
        go_wp2_with fail
        go_ret
        exact ⟨by rw [HF.out]; rfl, G4.out⟩
      | true =>
        have HN : Hid (∀ j, j < k + 1 → sameAw (a.getD j zeAw) (b.getD j zeAw) = true) := fun j hj => by
          rcases Nat.lt_or_ge j k with h | h
          · exact HL.out j h
          · have : j = k := by omega
            subst this
            rw [HXY.out.1, HXY.out.2.1]; exact HXY.out.2.2
        clear HL HXY HKA
        go_wp2_with fail
        go_roundw
        case rel => exact ⟨k + 1, by omega, by go_num, HN, G4⟩
        case measure => simp [intOf]; omega
    · have hkl : n = k := by omega
      subst hkl
      have HF : Hid (sameAs a b = true) := decide_eq_true ⟨by rw [HA.out.2.1, HB.out.2.1], fun j hj => HL.out j (by rw [← HA.out.2.1]; exact hj)⟩
      go_wp2_with fail
      go_ret
      exact ⟨by rw [HF.out]; rfl, G1.out⟩
set_option maxRecDepth 100000 in
theorem implSameAnswers_any (a b : List Aw) (u v : Value) (w : World) (hz1 : wtAS a ≤ 1000000000) (hz2 : wtAS b ≤ 1000000000) (h1 : AtS awKd w u a) (h2 : AtS awKd w v b) :
    Calls Try.prog 38 #[u, v] w fun e w' => e = .returned (.bool (sameAs a b)) ∧ Below w.heap.size w w' := by
  have EA := equalFunc_any a b u v w hz1 hz2 h1 h2
  obtain ⟨pa, pc, hpa⟩ := h1.shape
  obtain ⟨qa, qc, hqa⟩ := h2.shape
  obtain ⟨n, hn⟩ : ∃ n, a.length = n := ⟨_, rfl⟩
  obtain ⟨m, hm⟩ : ∃ n, b.length = n := ⟨_, rfl⟩
  obtain ⟨R, hR⟩ : ∃ z, sameAs a b = z := ⟨_, rfl⟩
  rw [hn] at hpa
  rw [hm] at hqa
  subst hpa hqa
  rw [hR] at EA ⊢
  clear hR hn hm hz1 hz2 h1 h2
  go_enter Try.func38, Try.ntmps38
  go_wp2_with fail
  refine EA.mono ?_
  rintro e w2 ⟨rfl, hb⟩
  have G2 : Hid (Below w.heap.size w w2) := hb
  clear EA hb
  go_wp2_with fail
  go_ret
  exact ⟨rfl, G2.out⟩
end Go.Proofs.Ytbiiihjohbnodaa
