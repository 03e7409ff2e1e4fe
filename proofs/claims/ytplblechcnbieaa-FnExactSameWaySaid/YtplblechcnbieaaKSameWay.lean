/-
  Proved: FnExactSameWay of chapter 13 holds for every two ways: the program's SameWay answers as its model does, and writes into no argument.
-/
import Derived.Test.YtplblechcnbieaaRows
import Derived.Deep.RegionHeld3
import Derived.ProofKit
import Derived.OpenShut
import Derived.ShutString
import Derived.Test.YtplblechcnbieaaSW32
namespace Go.Proofs.Ytplblechcnbieaa
open Go.ChangeShapes Go.WideShapes Go.ChangeAt Go.RowKit
open Go.ChangeMaps (open_string shut_string)
set_option linter.unusedVariables false

set_option maxHeartbeats 12800000 in
set_option maxRecDepth 100000 in
theorem walk_FnExactSameWay (a b : Array Value) (w : World) (h1 : ∃ y, ArgY w.heap.size w (.agg a) y ∧ WdY y) (h2 : ∃ y, ArgY w.heap.size w (.agg b) y ∧ WdY y) : Calls Try.prog 3 #[.agg a, .agg b] w fun e w' => e = .returned (.bool true) ∧ Below w.heap.size w w' := by
  obtain ⟨y1, hx, wd1⟩ := h1
  obtain ⟨y2, hy, wd2⟩ := h2
  obtain ⟨pa, pc, hva, -⟩ := id hx
  obtain ⟨pb, qc, hvb, -⟩ := id hy
  injection hva with hva
  injection hvb with hvb
  subst hva hvb
  obtain ⟨n, hn⟩ : ∃ n, y1.path.length = n := ⟨_, rfl⟩
  obtain ⟨m, hm⟩ : ∃ m, y2.path.length = m := ⟨_, rfl⟩
  rw [hn] at hx ⊢
  rw [hm] at hy ⊢
  have HN : Hid (y1.path.length = n) := hn
  have HM : Hid (y2.path.length = m) := hm
  have Z1 : Hid (∀ W, Below w.heap.size w W → Calls Try.prog 4 #[.agg #[.int .i64 y1.anchor, .slice pa n pc], .int .i64 1048576] W fun e w' => e = .returned (.int .i64 (if (wtM y1.path : Int) ≤ 1048576 then 1048576 - (wtM y1.path : Int) else -1)) ∧ Below W.heap.size W w') := fun W hb => szWay_any y1 _ 1048576 W wd1 (by decide) (by decide) (hx.below hb hb.size)
  by_cases hz : wtM y1.path ≤ 1048576
  rotate_left
  · rw [if_neg (by omega)] at Z1
    clear hz hx hy wd1 wd2 hn hm
    go_enter Try.func3, Try.ntmps3
    go_wp2_with fail
    obtain ⟨W0, hW0⟩ : ∃ W, W = (w.alloc (Obj.cells #[.int .i64 y1.anchor, .slice pa n pc] 24)).alloc (Obj.cells #[.int .i64 y2.anchor, .slice pb m qc] 24) := ⟨_, rfl⟩
    rw [← hW0]
    have HK : Hid (K2 w W0 24 #[.int .i64 y1.anchor, .slice pa n pc] #[.int .i64 y2.anchor, .slice pb m qc]) := by
      have e0 : (w.alloc (Obj.cells #[.int .i64 y1.anchor, .slice pa n pc] 24)).heap.size = w.heap.size + 1 := Array.size_push _
      have h := Blk.new (w.alloc (Obj.cells #[.int .i64 y1.anchor, .slice pa n pc] 24)) 24 #[.int .i64 y2.anchor, .slice pb m qc]
      rw [e0] at h
      rw [hW0]
      exact ⟨((Below.refl _ _).alloc (Nat.le_refl _) _).alloc (by rw [e0]; omega) _, (Blk.new w _ _).alloc _, h⟩
    clear hW0
    refine (Z1.out W0 HK.out.1).mono ?_
    rintro e w1 ⟨rfl, hb⟩
    have H1 : Hid (K2 w w1 24 #[.int .i64 y1.anchor, .slice pa n pc] #[.int .i64 y2.anchor, .slice pb m qc]) := HK.out.below hb
    clear hb HK
    go_wp2_with fail
    go_ret
    exact ⟨rfl, H1.out.1⟩
  rw [if_pos (by omega)] at Z1
  obtain ⟨z, hze⟩ : ∃ z : Int, z = 1048576 - (wtM y1.path : Int) := ⟨_, rfl⟩
  have hz0 : ¬ z < 0 := by omega
  rw [← hze] at Z1
  have Z2 : Hid (∀ W, Below w.heap.size w W → Calls Try.prog 4 #[.agg #[.int .i64 y2.anchor, .slice pb m qc], .int .i64 z] W fun e w' => e = .returned (.int .i64 (if (wtM y2.path : Int) ≤ z then z - (wtM y2.path : Int) else -1)) ∧ Below W.heap.size W w') := fun W hb => szWay_any y2 _ z W wd2 (by omega) (by omega) (hy.below hb hb.size)
  by_cases hq : (wtM y2.path : Int) ≤ z
  rotate_left
  · rw [if_neg hq] at Z2
    clear hz hx hy wd1 wd2 hn hm hq hze
    go_enter Try.func3, Try.ntmps3
    go_wp2_with fail
    obtain ⟨W0, hW0⟩ : ∃ W, W = (w.alloc (Obj.cells #[.int .i64 y1.anchor, .slice pa n pc] 24)).alloc (Obj.cells #[.int .i64 y2.anchor, .slice pb m qc] 24) := ⟨_, rfl⟩
    rw [← hW0]
    have HK : Hid (K2 w W0 24 #[.int .i64 y1.anchor, .slice pa n pc] #[.int .i64 y2.anchor, .slice pb m qc]) := by
      have e0 : (w.alloc (Obj.cells #[.int .i64 y1.anchor, .slice pa n pc] 24)).heap.size = w.heap.size + 1 := Array.size_push _
      have h := Blk.new (w.alloc (Obj.cells #[.int .i64 y1.anchor, .slice pa n pc] 24)) 24 #[.int .i64 y2.anchor, .slice pb m qc]
      rw [e0] at h
      rw [hW0]
      exact ⟨((Below.refl _ _).alloc (Nat.le_refl _) _).alloc (by rw [e0]; omega) _, (Blk.new w _ _).alloc _, h⟩
    clear hW0
    refine (Z1.out W0 HK.out.1).mono ?_
    rintro e w1 ⟨rfl, hb⟩
    have H1 : Hid (K2 w w1 24 #[.int .i64 y1.anchor, .slice pa n pc] #[.int .i64 y2.anchor, .slice pb m qc]) := HK.out.below hb
    clear hb HK
    have c0 : w1.cell? ⟨w.heap.size + 1, 0, none⟩ = some (.int .i64 y2.anchor) := H1.out.2.2.cell 0
    have c1 : w1.cell? ⟨w.heap.size + 1, 1, none⟩ = some (.slice pb m qc) := H1.out.2.2.cell 1
    go_wp2_with fail
    clear c0 c1
    refine (Z2.out w1 H1.out.1).mono ?_
    rintro e w2 ⟨rfl, hb⟩
    have H2 : Hid (K2 w w2 24 #[.int .i64 y1.anchor, .slice pa n pc] #[.int .i64 y2.anchor, .slice pb m qc]) := H1.out.below hb
    clear hb H1
    go_wp2_with fail
    go_ret
    exact ⟨rfl, H2.out.1⟩
  rw [if_pos hq] at Z2
  obtain ⟨z2, hze2⟩ : ∃ q : Int, q = z - (wtM y2.path : Int) := ⟨_, rfl⟩
  have hz2 : ¬ z2 < 0 := by omega
  rw [← hze2] at Z2
  have hw2 : wtM y2.path ≤ 1048576 := by omega
  obtain ⟨R, hR⟩ : ∃ b, swB y1 y2 = b := ⟨_, rfl⟩
  have TA : Hid (∀ W, Below w.heap.size w W → Calls Try.prog 6 #[.agg #[.int .i64 y1.anchor, .slice pa n pc]] W fun e w' => ∃ u, e = .returned u ∧ WyAt w' u y1 ∧ Below W.heap.size W w') := fun W hb => toWay_any y1 _ w.heap.size W hz hb.size (hx.below hb (Nat.le_refl _))
  have TB : Hid (∀ W, Below w.heap.size w W → Calls Try.prog 6 #[.agg #[.int .i64 y2.anchor, .slice pb m qc]] W fun e w' => ∃ u, e = .returned u ∧ WyAt w' u y2 ∧ Below W.heap.size W w') := fun W hb => toWay_any y2 _ w.heap.size W hw2 hb.size (hy.below hb (Nat.le_refl _))
  have SP : Hid (∀ (u v : Value) (W : World), WyAt W u y1 → WyAt W v y2 → Calls Try.prog 5 #[u, v] W fun e w' => e = .returned (.bool R) ∧ Below W.heap.size W w') := fun u v W h1 h2 => by rw [← hR]; exact specSameWay_any y1 y2 u v W hz hw2 wd1.1 wd2.1 h1 h2
  have IM : Hid (∀ (u v : Value) (W : World), WyAt W u y1 → WyAt W v y2 → Calls Try.prog 7 #[u, v] W fun e w' => e = .returned (.bool R) ∧ Below W.heap.size W w') := fun u v W h1 h2 => by rw [← hR]; exact implSameWay_any y1 y2 u v W hz hw2 wd1.1 wd2.1 h1 h2
  have EQy1 : Hid (∀ (u v : Value) (W : World), WyAt W u y1 → WyAt W v y1 → Calls Try.prog 8 #[u, v] W fun e w' => e = .returned (.bool true) ∧ Below W.heap.size W w') := fun u v W h1 h2 => eqWay_same y1 u v W (by omega) h1 h2
  have EQy2 : Hid (∀ (u v : Value) (W : World), WyAt W u y2 → WyAt W v y2 → Calls Try.prog 8 #[u, v] W fun e w' => e = .returned (.bool true) ∧ Below W.heap.size W w') := fun u v W h1 h2 => eqWay_same y2 u v W (by omega) h1 h2
  clear hz hx hy wd1 wd2 hn hm hq hze hze2 hw2 hR
  go_enter Try.func3, Try.ntmps3
  go_wp2_with fail
  obtain ⟨W0, hW0⟩ : ∃ W, W = (w.alloc (Obj.cells #[.int .i64 y1.anchor, .slice pa n pc] 24)).alloc (Obj.cells #[.int .i64 y2.anchor, .slice pb m qc] 24) := ⟨_, rfl⟩
  rw [← hW0]
  have HK : Hid (K2 w W0 24 #[.int .i64 y1.anchor, .slice pa n pc] #[.int .i64 y2.anchor, .slice pb m qc]) := by
    have e0 : (w.alloc (Obj.cells #[.int .i64 y1.anchor, .slice pa n pc] 24)).heap.size = w.heap.size + 1 := Array.size_push _
    have h := Blk.new (w.alloc (Obj.cells #[.int .i64 y1.anchor, .slice pa n pc] 24)) 24 #[.int .i64 y2.anchor, .slice pb m qc]
    rw [e0] at h
    rw [hW0]
    exact ⟨((Below.refl _ _).alloc (Nat.le_refl _) _).alloc (by rw [e0]; omega) _, (Blk.new w _ _).alloc _, h⟩
  clear hW0
  refine (Z1.out W0 HK.out.1).mono ?_
  rintro e w1 ⟨rfl, hb⟩
  have H1 : Hid (K2 w w1 24 #[.int .i64 y1.anchor, .slice pa n pc] #[.int .i64 y2.anchor, .slice pb m qc]) := HK.out.below hb
  clear hb HK
  have c0 : w1.cell? ⟨w.heap.size + 1, 0, none⟩ = some (.int .i64 y2.anchor) := H1.out.2.2.cell 0
  have c1 : w1.cell? ⟨w.heap.size + 1, 1, none⟩ = some (.slice pb m qc) := H1.out.2.2.cell 1
  go_wp2_with fail
  clear c0 c1
  refine (Z2.out w1 H1.out.1).mono ?_
  rintro e w2 ⟨rfl, hb⟩
  have H2 : Hid (K2 w w2 24 #[.int .i64 y1.anchor, .slice pa n pc] #[.int .i64 y2.anchor, .slice pb m qc]) := H1.out.below hb
  clear hb H1
  go_upto_region 8 with fail
  refine wp_region_held_drew (S := fun W => K2 w W 24 #[.int .i64 y1.anchor, .slice pa n pc] #[.int .i64 y2.anchor, .slice pb m qc]) (by kernel_rfl) (H2.out.below (Below.refl _ _).drew) (fun hHeld => ?_)
  clear H2
  refine wpAnyH_take (i := 0) (oi := ⟨some 20, _, _, _, _, _⟩) (v := ?_) rfl (by kernel_rfl) (by kernel_rfl) (by kernel_rfl) (fun _ _ _ h => h) (Or.inl ⟨by rfl, ?_⟩) hHeld ?_
  rotate_left
  · intro W hSw
    have l0 : W.cell? ⟨w.heap.size, 0, none⟩ = some (.int .i64 y1.anchor) := hSw.2.1.cell 0
    have l1 : W.cell? ⟨w.heap.size, 1, none⟩ = some (.slice pa n pc) := hSw.2.1.cell 1
    have m0 : W.cell? ⟨w.heap.size + 1, 0, none⟩ = some (.int .i64 y2.anchor) := hSw.2.2.cell 0
    have m1 : W.cell? ⟨w.heap.size + 1, 1, none⟩ = some (.slice pb m qc) := hSw.2.2.cell 1
    go_simp
    try with_reducible rfl
  try simp only [Act.put, List.setIfInBounds_toArray, List.set_cons_zero, List.set_cons_succ]
  refine wpAnyH_take (i := 2) (oi := ⟨some 22, _, _, _, _, _⟩) (v := ?_) rfl (by kernel_rfl) (by kernel_rfl) (by kernel_rfl) (fun _ _ _ h => h) (Or.inl ⟨by rfl, ?_⟩) hHeld ?_
  rotate_left
  · intro W hSw
    have l0 : W.cell? ⟨w.heap.size, 0, none⟩ = some (.int .i64 y1.anchor) := hSw.2.1.cell 0
    have l1 : W.cell? ⟨w.heap.size, 1, none⟩ = some (.slice pa n pc) := hSw.2.1.cell 1
    have m0 : W.cell? ⟨w.heap.size + 1, 0, none⟩ = some (.int .i64 y2.anchor) := hSw.2.2.cell 0
    have m1 : W.cell? ⟨w.heap.size + 1, 1, none⟩ = some (.slice pb m qc) := hSw.2.2.cell 1
    go_simp
    try with_reducible rfl
  try simp only [Act.put, List.setIfInBounds_toArray, List.set_cons_zero, List.set_cons_succ]
  refine wpAnyH_ready (rs := [1]) (by kernel_rfl) (by simp) ?_
  refine AllReadyH.cons (o := ⟨some 21, _, _, _, _, _⟩) rfl (fun K hK => ?_) AllReadyH.nil
  go_simp
  refine (TA.out _ hHeld.1).mono ?_
  rintro e w3 ⟨u3, rfl, ho3, hb⟩
  obtain ⟨ta, n', tc, hnta, huta⟩ := WyAt.shape ho3
  rw [hnta.trans HN.out] at huta
  subst huta
  clear hnta
  have H3 : Hid (K2 w w3 24 #[.int .i64 y1.anchor, .slice pa n pc] #[.int .i64 y2.anchor, .slice pb m qc]) := hHeld.below hb
  have HO3 : Hid (WyAt w3 (.agg #[.int .i64 y1.anchor, .slice ta n tc]) y1) := ho3
  clear hb hHeld ho3
  refine hK.out _ _ (H3.out) (fun hHeld => ?_)
  clear hK K
  try simp only [Act.put, List.setIfInBounds_toArray, List.set_cons_zero, List.set_cons_succ]
  refine wpAnyH_ready (rs := [3]) (by kernel_rfl) (by simp) ?_
  refine AllReadyH.cons (o := ⟨some 23, _, _, _, _, _⟩) rfl (fun K hK => ?_) AllReadyH.nil
  go_simp
  refine (TB.out _ hHeld.1).mono ?_
  rintro e w4 ⟨u4, rfl, ho4, hb⟩
  obtain ⟨tb, m', td, hntb, hutb⟩ := WyAt.shape ho4
  rw [hntb.trans HM.out] at hutb
  subst hutb
  clear hntb
  have H4 : Hid (K2 w w4 24 #[.int .i64 y1.anchor, .slice pa n pc] #[.int .i64 y2.anchor, .slice pb m qc]) := hHeld.below hb
  have E4 := SP.out _ _ w4 (HO3.out.below hb) ho4
  clear hb hHeld ho4 H3 HO3
  refine hK.out _ _ (H4.out) (fun hHeld => ?_)
  clear hK K
  try simp only [Act.put, List.setIfInBounds_toArray, List.set_cons_zero, List.set_cons_succ]
  refine wpAnyH_ready (rs := [4]) (by kernel_rfl) (by simp) ?_
  refine AllReadyH.cons (o := ⟨some 24, _, _, _, _, _⟩) rfl (fun K hK => ?_) AllReadyH.nil
  go_simp
  refine E4.mono ?_
  rintro e w5 ⟨rfl, hb⟩
  have H5 : Hid (K2 w w5 24 #[.int .i64 y1.anchor, .slice pa n pc] #[.int .i64 y2.anchor, .slice pb m qc]) := H4.out.below hb
  clear hb hHeld H4 E4
  refine hK.out _ _ (H5.out) (fun hHeld => ?_)
  clear hK K
  try simp only [Act.put, List.setIfInBounds_toArray, List.set_cons_zero, List.set_cons_succ]
  refine wpAnyH_take (i := 5) (oi := ⟨some 6, _, _, _, _, _⟩) (v := ?_) rfl (by kernel_rfl) (by kernel_rfl) (by kernel_rfl) (fun _ _ _ h => h) (Or.inl ⟨by rfl, ?_⟩) hHeld ?_
  rotate_left
  · intro W hSw
    go_simp
    try with_reducible rfl
  try simp only [Act.put, List.setIfInBounds_toArray, List.set_cons_zero, List.set_cons_succ]
  refine wpAnyH_done (by kernel_rfl) ?_ _
  clear hHeld
  have c0 : w5.cell? ⟨w.heap.size, 0, none⟩ = some (.int .i64 y1.anchor) := H5.out.2.1.cell 0
  have c1 : w5.cell? ⟨w.heap.size, 1, none⟩ = some (.slice pa n pc) := H5.out.2.1.cell 1
  go_wp2_with fail
  clear c0 c1
  refine (TA.out w5 H5.out.1).mono ?_
  rintro e w6 ⟨u6, rfl, ho6, hb⟩
  obtain ⟨xa, n', xc, hnxa, huxa⟩ := WyAt.shape ho6
  rw [hnxa.trans HN.out] at huxa
  subst huxa
  clear hnxa
  have H6 : Hid (K2 w w6 24 #[.int .i64 y1.anchor, .slice pa n pc] #[.int .i64 y2.anchor, .slice pb m qc]) := H5.out.below hb
  have HO6 : Hid (WyAt w6 (.agg #[.int .i64 y1.anchor, .slice xa n xc]) y1) := ho6
  clear hb H5 ho6
  have c0 := fun o => (show (w6.alloc o).cell? ⟨w.heap.size + 1, 0, none⟩ = some (.int .i64 y2.anchor) from (H6.out.2.2.alloc o).cell 0)
  have c1 := fun o => (show (w6.alloc o).cell? ⟨w.heap.size + 1, 1, none⟩ = some (.slice pb m qc) from (H6.out.2.2.alloc o).cell 1)
  go_wp2_with fail
  clear c0 c1
  obtain ⟨g1, hg1⟩ : ∃ g, w6.heap.size = g := ⟨_, rfl⟩
  obtain ⟨V6, hV6⟩ : ∃ V, V = w6.alloc (Obj.cells #[.int .i64 y1.anchor, .slice xa n xc] 29) := ⟨_, rfl⟩
  rw [← hV6]
  have H7 : Hid (K2 w V6 24 #[.int .i64 y1.anchor, .slice pa n pc] #[.int .i64 y2.anchor, .slice pb m qc] ∧ Blk V6 g1 29 #[.int .i64 y1.anchor, .slice xa n xc] ∧ WyAt V6 (.agg #[.int .i64 y1.anchor, .slice xa n xc]) y1) := by
    rw [hV6, ← hg1]
    have hb : Below w6.heap.size w6 (w6.alloc (Obj.cells #[.int .i64 y1.anchor, .slice xa n xc] 29)) := (Below.refl _ _).alloc (Nat.le_refl _) _
    exact ⟨H6.out.below hb, Blk.new w6 _ _, HO6.out.below hb⟩
  rw [hg1]
  clear H6 HO6 hV6 hg1
  refine (TB.out V6 H7.out.1.1).mono ?_
  rintro e w8 ⟨u8, rfl, ho8, hb⟩
  obtain ⟨xb, m', xd, hnxb, huxb⟩ := WyAt.shape ho8
  rw [hnxb.trans HM.out] at huxb
  subst huxb
  clear hnxb
  have H8 : Hid (K2 w w8 24 #[.int .i64 y1.anchor, .slice pa n pc] #[.int .i64 y2.anchor, .slice pb m qc] ∧ Blk w8 g1 29 #[.int .i64 y1.anchor, .slice xa n xc] ∧ WyAt w8 (.agg #[.int .i64 y1.anchor, .slice xa n xc]) y1) := ⟨H7.out.1.below hb, H7.out.2.1.below hb H7.out.2.1.lt, H7.out.2.2.below hb⟩
  have HO8 : Hid (WyAt w8 (.agg #[.int .i64 y2.anchor, .slice xb m xd]) y2) := ho8
  clear hb H7 ho8
  have c0 := fun o => (show (w8.alloc o).cell? ⟨g1, 0, none⟩ = some (.int .i64 y1.anchor) from (H8.out.2.1.alloc o).cell 0)
  have c1 := fun o => (show (w8.alloc o).cell? ⟨g1, 1, none⟩ = some (.slice xa n xc) from (H8.out.2.1.alloc o).cell 1)
  go_wp2_with fail
  clear c0 c1
  obtain ⟨g2, hg2⟩ : ∃ g, w8.heap.size = g := ⟨_, rfl⟩
  obtain ⟨V8, hV8⟩ : ∃ V, V = w8.alloc (Obj.cells #[.int .i64 y2.anchor, .slice xb m xd] 29) := ⟨_, rfl⟩
  rw [← hV8]
  have H9 : Hid (K2 w V8 24 #[.int .i64 y1.anchor, .slice pa n pc] #[.int .i64 y2.anchor, .slice pb m qc] ∧ Blk V8 g1 29 #[.int .i64 y1.anchor, .slice xa n xc] ∧ Blk V8 g2 29 #[.int .i64 y2.anchor, .slice xb m xd] ∧ WyAt V8 (.agg #[.int .i64 y1.anchor, .slice xa n xc]) y1 ∧ WyAt V8 (.agg #[.int .i64 y2.anchor, .slice xb m xd]) y2) := by
    rw [hV8, ← hg2]
    have hb : Below w8.heap.size w8 (w8.alloc (Obj.cells #[.int .i64 y2.anchor, .slice xb m xd] 29)) := (Below.refl _ _).alloc (Nat.le_refl _) _
    exact ⟨H8.out.1.below hb, H8.out.2.1.below hb H8.out.2.1.lt, Blk.new w8 _ _, H8.out.2.2.below hb, HO8.out.below hb⟩
  rw [hg2]
  clear H8 HO8 hV8 hg2
  refine (IM.out _ _ V8 H9.out.2.2.2.1 H9.out.2.2.2.2).mono ?_
  rintro e w9 ⟨rfl, hb⟩
  have H10 : Hid (K2 w w9 24 #[.int .i64 y1.anchor, .slice pa n pc] #[.int .i64 y2.anchor, .slice pb m qc] ∧ Blk w9 g1 29 #[.int .i64 y1.anchor, .slice xa n xc] ∧ Blk w9 g2 29 #[.int .i64 y2.anchor, .slice xb m xd] ∧ WyAt w9 (.agg #[.int .i64 y1.anchor, .slice xa n xc]) y1 ∧ WyAt w9 (.agg #[.int .i64 y2.anchor, .slice xb m xd]) y2) := ⟨H9.out.1.below hb, H9.out.2.1.below hb H9.out.2.1.lt, H9.out.2.2.1.below hb H9.out.2.2.1.lt, H9.out.2.2.2.1.below hb, H9.out.2.2.2.2.below hb⟩
  clear hb H9
  go_upto_region 14 with fail
  refine wp_region_held_drew (S := fun W => K2 w W 24 #[.int .i64 y1.anchor, .slice pa n pc] #[.int .i64 y2.anchor, .slice pb m qc] ∧ Blk W g1 29 #[.int .i64 y1.anchor, .slice xa n xc] ∧ Blk W g2 29 #[.int .i64 y2.anchor, .slice xb m xd] ∧ WyAt W (.agg #[.int .i64 y1.anchor, .slice xa n xc]) y1 ∧ WyAt W (.agg #[.int .i64 y2.anchor, .slice xb m xd]) y2) (by kernel_rfl) (⟨H10.out.1.below (Below.refl _ _).drew, H10.out.2.1.below (Below.refl _ _).drew H10.out.2.1.lt, H10.out.2.2.1.below (Below.refl _ _).drew H10.out.2.2.1.lt, H10.out.2.2.2.1.below (Below.refl _ _).drew, H10.out.2.2.2.2.below (Below.refl _ _).drew⟩) (fun hHeld => ?_)
  clear H10
  refine wpAnyH_take (i := 0) (oi := ⟨some 35, _, _, _, _, _⟩) (v := ?_) rfl (by kernel_rfl) (by kernel_rfl) (by kernel_rfl) (fun _ _ _ h => h) (Or.inl ⟨by rfl, ?_⟩) hHeld ?_
  rotate_left
  · intro W hSw
    have l0 : W.cell? ⟨w.heap.size, 0, none⟩ = some (.int .i64 y1.anchor) := hSw.1.2.1.cell 0
    have l1 : W.cell? ⟨w.heap.size, 1, none⟩ = some (.slice pa n pc) := hSw.1.2.1.cell 1
    have m0 : W.cell? ⟨w.heap.size + 1, 0, none⟩ = some (.int .i64 y2.anchor) := hSw.1.2.2.cell 0
    have m1 : W.cell? ⟨w.heap.size + 1, 1, none⟩ = some (.slice pb m qc) := hSw.1.2.2.cell 1
    have c0 : W.cell? ⟨g1, 0, none⟩ = some (.int .i64 y1.anchor) := hSw.2.1.cell 0
    have c1 : W.cell? ⟨g1, 1, none⟩ = some (.slice xa n xc) := hSw.2.1.cell 1
    have d0 : W.cell? ⟨g2, 0, none⟩ = some (.int .i64 y2.anchor) := hSw.2.2.1.cell 0
    have d1 : W.cell? ⟨g2, 1, none⟩ = some (.slice xb m xd) := hSw.2.2.1.cell 1
    go_simp
    try with_reducible rfl
  try simp only [Act.put, List.setIfInBounds_toArray, List.set_cons_zero, List.set_cons_succ]
  refine wpAnyH_take (i := 1) (oi := ⟨some 36, _, _, _, _, _⟩) (v := ?_) rfl (by kernel_rfl) (by kernel_rfl) (by kernel_rfl) (fun _ _ _ h => h) (Or.inl ⟨by rfl, ?_⟩) hHeld ?_
  rotate_left
  · intro W hSw
    have l0 : W.cell? ⟨w.heap.size, 0, none⟩ = some (.int .i64 y1.anchor) := hSw.1.2.1.cell 0
    have l1 : W.cell? ⟨w.heap.size, 1, none⟩ = some (.slice pa n pc) := hSw.1.2.1.cell 1
    have m0 : W.cell? ⟨w.heap.size + 1, 0, none⟩ = some (.int .i64 y2.anchor) := hSw.1.2.2.cell 0
    have m1 : W.cell? ⟨w.heap.size + 1, 1, none⟩ = some (.slice pb m qc) := hSw.1.2.2.cell 1
    have c0 : W.cell? ⟨g1, 0, none⟩ = some (.int .i64 y1.anchor) := hSw.2.1.cell 0
    have c1 : W.cell? ⟨g1, 1, none⟩ = some (.slice xa n xc) := hSw.2.1.cell 1
    have d0 : W.cell? ⟨g2, 0, none⟩ = some (.int .i64 y2.anchor) := hSw.2.2.1.cell 0
    have d1 : W.cell? ⟨g2, 1, none⟩ = some (.slice xb m xd) := hSw.2.2.1.cell 1
    go_simp
    try with_reducible rfl
  try simp only [Act.put, List.setIfInBounds_toArray, List.set_cons_zero, List.set_cons_succ]
  refine wpAnyH_ready (rs := [2]) (by kernel_rfl) (by simp) ?_
  refine AllReadyH.cons (o := ⟨some 37, _, _, _, _, _⟩) rfl (fun K hK => ?_) AllReadyH.nil
  go_simp
  refine (TA.out _ hHeld.1.1).mono ?_
  rintro e w10 ⟨u, rfl, ho, hb⟩
  obtain ⟨sa, n', sc, hnsa, husa⟩ := WyAt.shape ho
  rw [hnsa.trans HN.out] at husa
  subst husa
  clear hnsa
  have H11a : Hid (K2 w w10 24 #[.int .i64 y1.anchor, .slice pa n pc] #[.int .i64 y2.anchor, .slice pb m qc] ∧ Blk w10 g1 29 #[.int .i64 y1.anchor, .slice xa n xc] ∧ Blk w10 g2 29 #[.int .i64 y2.anchor, .slice xb m xd] ∧ WyAt w10 (.agg #[.int .i64 y1.anchor, .slice xa n xc]) y1 ∧ WyAt w10 (.agg #[.int .i64 y2.anchor, .slice xb m xd]) y2) := ⟨hHeld.1.below hb, hHeld.2.1.below hb hHeld.2.1.lt, hHeld.2.2.1.below hb hHeld.2.2.1.lt, hHeld.2.2.2.1.below hb, hHeld.2.2.2.2.below hb⟩
  have EE := EQy1.out _ _ w10 H11a.out.2.2.2.1 ho
  clear hb hHeld ho
  refine hK.out _ _ (H11a.out) (fun hHeld => ?_)
  clear hK K
  try simp only [Act.put, List.setIfInBounds_toArray, List.set_cons_zero, List.set_cons_succ]
  refine wpAnyH_ready (rs := [3]) (by kernel_rfl) (by simp) ?_
  refine AllReadyH.cons (o := ⟨some 38, _, _, _, _, _⟩) rfl (fun K hK => ?_) AllReadyH.nil
  go_simp
  refine EE.mono ?_
  rintro e w11 ⟨rfl, hb⟩
  have H11 : Hid (K2 w w11 24 #[.int .i64 y1.anchor, .slice pa n pc] #[.int .i64 y2.anchor, .slice pb m qc] ∧ Blk w11 g1 29 #[.int .i64 y1.anchor, .slice xa n xc] ∧ Blk w11 g2 29 #[.int .i64 y2.anchor, .slice xb m xd] ∧ WyAt w11 (.agg #[.int .i64 y1.anchor, .slice xa n xc]) y1 ∧ WyAt w11 (.agg #[.int .i64 y2.anchor, .slice xb m xd]) y2) := ⟨H11a.out.1.below hb, H11a.out.2.1.below hb H11a.out.2.1.lt, H11a.out.2.2.1.below hb H11a.out.2.2.1.lt, H11a.out.2.2.2.1.below hb, H11a.out.2.2.2.2.below hb⟩
  clear hb hHeld H11a EE
  refine hK.out _ _ (H11.out) (fun hHeld => ?_)
  clear hK K
  try simp only [Act.put, List.setIfInBounds_toArray, List.set_cons_zero, List.set_cons_succ]
  refine wpAnyH_take (i := 4) (oi := ⟨some 39, _, _, _, _, _⟩) (v := ?_) rfl (by kernel_rfl) (by kernel_rfl) (by kernel_rfl) (fun _ _ _ h => h) (Or.inl ⟨by rfl, ?_⟩) hHeld ?_
  rotate_left
  · intro W hSw
    go_simp
    try with_reducible rfl
  try simp only [Act.put, List.setIfInBounds_toArray, List.set_cons_zero, List.set_cons_succ]
  refine wpAnyH_done (by kernel_rfl) ?_ _
  clear hHeld
  go_upto_region 16 with fail
  refine wp_region_held_drew (S := fun W => K2 w W 24 #[.int .i64 y1.anchor, .slice pa n pc] #[.int .i64 y2.anchor, .slice pb m qc] ∧ Blk W g1 29 #[.int .i64 y1.anchor, .slice xa n xc] ∧ Blk W g2 29 #[.int .i64 y2.anchor, .slice xb m xd] ∧ WyAt W (.agg #[.int .i64 y1.anchor, .slice xa n xc]) y1 ∧ WyAt W (.agg #[.int .i64 y2.anchor, .slice xb m xd]) y2) (by kernel_rfl) (⟨H11.out.1.below (Below.refl _ _).drew, H11.out.2.1.below (Below.refl _ _).drew H11.out.2.1.lt, H11.out.2.2.1.below (Below.refl _ _).drew H11.out.2.2.1.lt, H11.out.2.2.2.1.below (Below.refl _ _).drew, H11.out.2.2.2.2.below (Below.refl _ _).drew⟩) (fun hHeld => ?_)
  clear H11
  refine wpAnyH_take (i := 0) (oi := ⟨some 40, _, _, _, _, _⟩) (v := ?_) rfl (by kernel_rfl) (by kernel_rfl) (by kernel_rfl) (fun _ _ _ h => h) (Or.inl ⟨by rfl, ?_⟩) hHeld ?_
  rotate_left
  · intro W hSw
    have l0 : W.cell? ⟨w.heap.size, 0, none⟩ = some (.int .i64 y1.anchor) := hSw.1.2.1.cell 0
    have l1 : W.cell? ⟨w.heap.size, 1, none⟩ = some (.slice pa n pc) := hSw.1.2.1.cell 1
    have m0 : W.cell? ⟨w.heap.size + 1, 0, none⟩ = some (.int .i64 y2.anchor) := hSw.1.2.2.cell 0
    have m1 : W.cell? ⟨w.heap.size + 1, 1, none⟩ = some (.slice pb m qc) := hSw.1.2.2.cell 1
    have c0 : W.cell? ⟨g1, 0, none⟩ = some (.int .i64 y1.anchor) := hSw.2.1.cell 0
    have c1 : W.cell? ⟨g1, 1, none⟩ = some (.slice xa n xc) := hSw.2.1.cell 1
    have d0 : W.cell? ⟨g2, 0, none⟩ = some (.int .i64 y2.anchor) := hSw.2.2.1.cell 0
    have d1 : W.cell? ⟨g2, 1, none⟩ = some (.slice xb m xd) := hSw.2.2.1.cell 1
    go_simp
    try with_reducible rfl
  try simp only [Act.put, List.setIfInBounds_toArray, List.set_cons_zero, List.set_cons_succ]
  refine wpAnyH_take (i := 1) (oi := ⟨some 41, _, _, _, _, _⟩) (v := ?_) rfl (by kernel_rfl) (by kernel_rfl) (by kernel_rfl) (fun _ _ _ h => h) (Or.inl ⟨by rfl, ?_⟩) hHeld ?_
  rotate_left
  · intro W hSw
    have l0 : W.cell? ⟨w.heap.size, 0, none⟩ = some (.int .i64 y1.anchor) := hSw.1.2.1.cell 0
    have l1 : W.cell? ⟨w.heap.size, 1, none⟩ = some (.slice pa n pc) := hSw.1.2.1.cell 1
    have m0 : W.cell? ⟨w.heap.size + 1, 0, none⟩ = some (.int .i64 y2.anchor) := hSw.1.2.2.cell 0
    have m1 : W.cell? ⟨w.heap.size + 1, 1, none⟩ = some (.slice pb m qc) := hSw.1.2.2.cell 1
    have c0 : W.cell? ⟨g1, 0, none⟩ = some (.int .i64 y1.anchor) := hSw.2.1.cell 0
    have c1 : W.cell? ⟨g1, 1, none⟩ = some (.slice xa n xc) := hSw.2.1.cell 1
    have d0 : W.cell? ⟨g2, 0, none⟩ = some (.int .i64 y2.anchor) := hSw.2.2.1.cell 0
    have d1 : W.cell? ⟨g2, 1, none⟩ = some (.slice xb m xd) := hSw.2.2.1.cell 1
    go_simp
    try with_reducible rfl
  try simp only [Act.put, List.setIfInBounds_toArray, List.set_cons_zero, List.set_cons_succ]
  refine wpAnyH_ready (rs := [2]) (by kernel_rfl) (by simp) ?_
  refine AllReadyH.cons (o := ⟨some 42, _, _, _, _, _⟩) rfl (fun K hK => ?_) AllReadyH.nil
  go_simp
  refine (TB.out _ hHeld.1.1).mono ?_
  rintro e w12 ⟨u, rfl, ho, hb⟩
  obtain ⟨sb, m', sd, hnsb, husb⟩ := WyAt.shape ho
  rw [hnsb.trans HM.out] at husb
  subst husb
  clear hnsb
  have H12a : Hid (K2 w w12 24 #[.int .i64 y1.anchor, .slice pa n pc] #[.int .i64 y2.anchor, .slice pb m qc] ∧ Blk w12 g1 29 #[.int .i64 y1.anchor, .slice xa n xc] ∧ Blk w12 g2 29 #[.int .i64 y2.anchor, .slice xb m xd] ∧ WyAt w12 (.agg #[.int .i64 y1.anchor, .slice xa n xc]) y1 ∧ WyAt w12 (.agg #[.int .i64 y2.anchor, .slice xb m xd]) y2) := ⟨hHeld.1.below hb, hHeld.2.1.below hb hHeld.2.1.lt, hHeld.2.2.1.below hb hHeld.2.2.1.lt, hHeld.2.2.2.1.below hb, hHeld.2.2.2.2.below hb⟩
  have EE := EQy2.out _ _ w12 H12a.out.2.2.2.2 ho
  clear hb hHeld ho
  refine hK.out _ _ (H12a.out) (fun hHeld => ?_)
  clear hK K
  try simp only [Act.put, List.setIfInBounds_toArray, List.set_cons_zero, List.set_cons_succ]
  refine wpAnyH_ready (rs := [3]) (by kernel_rfl) (by simp) ?_
  refine AllReadyH.cons (o := ⟨some 43, _, _, _, _, _⟩) rfl (fun K hK => ?_) AllReadyH.nil
  go_simp
  refine EE.mono ?_
  rintro e w13 ⟨rfl, hb⟩
  have H12 : Hid (K2 w w13 24 #[.int .i64 y1.anchor, .slice pa n pc] #[.int .i64 y2.anchor, .slice pb m qc] ∧ Blk w13 g1 29 #[.int .i64 y1.anchor, .slice xa n xc] ∧ Blk w13 g2 29 #[.int .i64 y2.anchor, .slice xb m xd] ∧ WyAt w13 (.agg #[.int .i64 y1.anchor, .slice xa n xc]) y1 ∧ WyAt w13 (.agg #[.int .i64 y2.anchor, .slice xb m xd]) y2) := ⟨H12a.out.1.below hb, H12a.out.2.1.below hb H12a.out.2.1.lt, H12a.out.2.2.1.below hb H12a.out.2.2.1.lt, H12a.out.2.2.2.1.below hb, H12a.out.2.2.2.2.below hb⟩
  clear hb hHeld H12a EE
  refine hK.out _ _ (H12.out) (fun hHeld => ?_)
  clear hK K
  try simp only [Act.put, List.setIfInBounds_toArray, List.set_cons_zero, List.set_cons_succ]
  refine wpAnyH_take (i := 4) (oi := ⟨some 44, _, _, _, _, _⟩) (v := ?_) rfl (by kernel_rfl) (by kernel_rfl) (by kernel_rfl) (fun _ _ _ h => h) (Or.inl ⟨by rfl, ?_⟩) hHeld ?_
  rotate_left
  · intro W hSw
    go_simp
    try with_reducible rfl
  try simp only [Act.put, List.setIfInBounds_toArray, List.set_cons_zero, List.set_cons_succ]
  refine wpAnyH_done (by kernel_rfl) ?_ _
  clear hHeld
  go_wp2_with fail
  go_ret
  exact ⟨rfl, H12.out.1.1⟩
theorem laidOut_FnExactSameWay : laidOutB Try.prog = true := by kernel_rfl
theorem own_FnExactSameWay : ownKnob Try.prog.godebug = none := by kernel_rfl
set_option maxRecDepth 100000 in
theorem lifted_FnExactSameWay (os : Os) (started : os.Started) (H : Type) (enc : TypeId × Value → H) :
    ReturnsInHanded {} Try.checked os 3 .any (Rows.fnExactSameWaySpec.pre6 enc Try.prog Try.f3 Rows.fnExactSameWayRow.domain false) (Rows.fnExactSameWaySpec.post enc Try.prog Try.f3 false true false false) := by
  refine returnsInHanded_of_change (C := Try.checked) own_FnExactSameWay started (by kernel_rfl) Try.func3
    (ChangeSpec.witness6 (enc := enc) (C := Try.checked) false ⟨#[], #[.agg #[.int .i64 0, .slice none 0 0], .agg #[.int .i64 0, .slice none 0 0]], []⟩ 8 (by kernel_rfl) (by kernel_rfl) (by kernel_rfl) (by kernel_rfl)) ?_
  intro W base args ds gs before hval0 hW hcnd _
  have hval : ∀ (j : Nat) t v, Try.f3.params[j]? = some t → args[j]? = some v → Value.okWide Try.prog W .any base t v := hval0
  have hW' := hW
  obtain ⟨p, q, hA0, hV, rfl, hfz, hnd⟩ := hW
  have hA : DataW.TrodAll enc Try.prog W 0 (fun _ => true) true Try.f3.params.toList args.toList ds p := hA0
  rw [Try.params3] at hA hval
  obtain ⟨v0, vs0, d0, ds0, p0, q0, hargs, rfl, rfl, h0, r0⟩ := trodAll_cons hA
  obtain ⟨v1, vs1, d1, ds1, p1, q1, rfl, rfl, rfl, h1, r1⟩ := trodAll_cons r0
  obtain ⟨rfl, rfl, rfl⟩ := trodAll_nil r1
  obtain rfl : args = #[v0, v1] := by cases args; simp_all
  obtain ⟨rfl, rfl⟩ := trodVars_none hV
  obtain ⟨a0, rfl, ca0⟩ := okWide_struct Try.underlying24 (hval 0 24 v0 rfl rfl)
  have k0 := h0
  have lt0 : ∀ x ∈ p0, x.block < W.heap.size := by obtain ⟨m, hm⟩ := k0; exact DataW.trod_lt m _ _ _ hm
  have w0 : ∃ c : Wy, ArgY W.heap.size W (.agg a0) c ∧ WdY c := by
    obtain ⟨fuel, hf⟩ := h0
    exact way_of_trod hf
  obtain ⟨a1, rfl, ca1⟩ := okWide_struct Try.underlying24 (hval 1 24 v1 rfl rfl)
  have k1 := h1
  have lt1 : ∀ x ∈ p1, x.block < W.heap.size := by obtain ⟨m, hm⟩ := k1; exact DataW.trod_lt m _ _ _ hm
  have w1 : ∃ c : Wy, ArgY W.heap.size W (.agg a1) c ∧ WdY c := by
    obtain ⟨fuel, hf⟩ := h1
    exact way_of_trod hf
  clear hA0 hval0
  simp only [List.append_nil] at hW'
  refine (walk_FnExactSameWay a0 a1 W w0 w1).mono fun e W' ⟨he, bel⟩ => ?_
  subst he
  exact ⟨_, rfl, _, _, _, [], _, [], hW', trodAll_mk1 (shut_bool Try.underlying4 _), (trodAll_cons_mk (Below.trod laidOut_FnExactSameWay (by kernel_rfl) (of_decide_eq_true (by kernel_rfl)) k0 bel lt0) (trodAll_cons_mk (Below.trod laidOut_FnExactSameWay (by kernel_rfl) (of_decide_eq_true (by kernel_rfl)) k1 bel lt1) trodAll_mk0)), rfl, bel.frame _, fun h => by cases h⟩
theorem over_FnExactSameWay : Rows.fnExactSameWayRow.holds Try.pinned (OpenSpec.ofChange Rows.fnExactSameWaySpec) :=
  OpenClaim.holds_of_wide 3 Try.f3 rfl rfl rfl rfl rfl rfl rfl ⟨rfl, rfl, rfl, rfl, rfl⟩ rfl rfl rfl rfl rfl (by kernel_rfl) Try.func3 (by kernel_rfl)
    (of_decide_eq_true (by kernel_rfl)) (by unfold Func.isWrapper; first | (rw [if_pos (by decide +kernel)]; kernel_rfl) | (rw [if_neg (by decide +kernel)]; exact ⟨rfl, rfl⟩))
    (fun os started H enc _ => lifted_FnExactSameWay os started H enc)
theorem proved_FnExactSameWay : Rows.FnExactSameWaySaid := over_FnExactSameWay
#print axioms proved_FnExactSameWay
end Go.Proofs.Ytplblechcnbieaa
