/-
  Proved: FnExactStoreOk of chapter 13 holds for every store: the program's StoreOk answers as its model does, and writes into no argument.
-/
import Derived.Test.YtplblechcnbieaaGreatRows
import Derived.Deep.RegionHeld3
import Derived.ProofKit
import Derived.OpenShut
import Derived.ShutString
import Derived.Test.YtplblechcnbieaaGreatSK44
namespace Go.Proofs.YtplblechcnbieaaGreat
open Go.ChangeShapes Go.WideShapes Go.ChangeAt Go.RowKit
open Go.ChangeMaps (open_string shut_string)
set_option linter.unusedVariables false

theorem ok_of {s : So} (hz : wtO s ≤ 1048576) (wd : WdO s) : OkO s := by
  unfold wtO at hz
  have h1 : wtM s.certs = s.certs.length + (s.certs.map wtC).sum := rfl
  have h2 : wtS s.crls = s.crls.length + (s.crls.map wtL).sum := rfl
  have h3 : wtN s.ancs = s.ancs.length + (s.ancs.map wtA).sum := rfl
  exact ⟨⟨by omega, by omega, by omega⟩, fun c hc => ⟨by have := wtM_mem hc; omega, wd.1.1 c hc⟩, fun c hc => ⟨by have := wtS_mem hc; omega, wd.2.1.1 c hc⟩, fun c hc => by have := wtN_mem hc; omega⟩
set_option maxHeartbeats 12800000 in
set_option maxRecDepth 100000 in
theorem walk_FnExactStoreOk (a : Array Value) (w : World) (h1 : ∃ s, ArgO w.heap.size w (.agg a) s ∧ WdO s) : Calls Tryz.prog 3 #[.agg a] w fun e w' => e = .returned (.bool true) ∧ Below w.heap.size w w' := by
  obtain ⟨s, hx, wd⟩ := h1
  obtain ⟨a1, c1, a2, c2, a3, c3, hva, -⟩ := id hx
  injection hva with hva
  subst hva
  obtain ⟨n1, e1⟩ : ∃ n, s.certs.length = n := ⟨_, rfl⟩
  obtain ⟨n2, e2⟩ : ∃ n, s.crls.length = n := ⟨_, rfl⟩
  obtain ⟨n3, e3⟩ : ∃ n, s.ancs.length = n := ⟨_, rfl⟩
  rw [e1, e2, e3] at hx ⊢
  have HN : Hid (s.certs.length = n1 ∧ s.crls.length = n2 ∧ s.ancs.length = n3) := ⟨e1, e2, e3⟩
  have Z1 : Hid (∀ W, Below w.heap.size w W → Calls Tryz.prog 7 #[.agg #[.slice a1 n1 c1, .slice a2 n2 c2, .slice a3 n3 c3], .int .i64 1048576] W fun e w' => e = .returned (.int .i64 (szO s 1048576)) ∧ Below W.heap.size W w') := fun W hb => szStore_any s _ 1048576 W wd (by decide) (by decide) (hx.below hb hb.size)
  unfold szO at Z1
  by_cases hz : wtO s ≤ 1048576
  rotate_left
  · rw [if_neg (by omega)] at Z1
    clear hz hx wd e1 e2 e3
    go_enter Tryz.func3, Tryz.ntmps3
    go_wp2_with fail
    obtain ⟨W0, hW0⟩ : ∃ W, W = w.alloc (Obj.cells #[.slice a1 n1 c1, .slice a2 n2 c2, .slice a3 n3 c3] 26) := ⟨_, rfl⟩
    rw [← hW0]
    have HK : Hid (Below w.heap.size w W0 ∧ Blk W0 w.heap.size 26 #[.slice a1 n1 c1, .slice a2 n2 c2, .slice a3 n3 c3]) := by rw [hW0]; exact ⟨(Below.refl _ _).alloc (Nat.le_refl _) _, Blk.new w _ _⟩
    clear hW0
    refine (Z1.out W0 HK.out.1).mono ?_
    rintro e w1 ⟨rfl, hb⟩
    have H1 : Hid (Below w.heap.size w w1 ∧ Blk w1 w.heap.size 26 #[.slice a1 n1 c1, .slice a2 n2 c2, .slice a3 n3 c3]) := ⟨HK.out.1.trans (hb.mono HK.out.1.size), HK.out.2.below hb HK.out.2.lt⟩
    clear hb HK
    go_wp2_with fail
    go_ret
    exact ⟨rfl, H1.out.1⟩
  rw [if_pos (by omega)] at Z1
  obtain ⟨z, hze⟩ : ∃ z : Int, z = 1048576 - (wtO s : Int) := ⟨_, rfl⟩
  have hz0 : ¬ z < 0 := by omega
  rw [← hze] at Z1
  obtain ⟨R, hR⟩ : ∃ b, stoOk s = b := ⟨_, rfl⟩
  have hok := ok_of hz wd
  have TA : Hid (∀ W, Below w.heap.size w W → Calls Tryz.prog 9 #[.agg #[.slice a1 n1 c1, .slice a2 n2 c2, .slice a3 n3 c3]] W fun e w' => ∃ u fp, e = .returned u ∧ OwnO w' W.heap.size u s fp ∧ Below W.heap.size W w') := fun W hb => toStore_any s _ w.heap.size W hz hb.size (hx.below hb (Nat.le_refl _))
  have SP : Hid (∀ (u : Value) (W : World), SoAt W u s → Calls Tryz.prog 8 #[u] W fun e w' => e = .returned (.bool R) ∧ Below W.heap.size W w') := fun u W h1 => by rw [← hR]; exact specStoreOk_any s u W hok h1
  have IM : Hid (∀ (u : Value) (W : World), SoAt W u s → Calls Tryz.prog 10 #[u] W fun e w' => e = .returned (.bool R) ∧ Below W.heap.size W w') := fun u W h1 => by rw [← hR]; exact implStoreOk_any s u W hok h1
  have EQ : Hid (∀ (u v : Value) (W : World), SoAt W u s → SoAt W v s → Calls Tryz.prog 11 #[u, v] W fun e w' => e = .returned (.bool true) ∧ Below W.heap.size W w') := fun u v W h1 h2 => eqStore_same s u v W (by omega) h1 h2
  clear hz hx wd hze hR hok e1 e2 e3
  go_enter Tryz.func3, Tryz.ntmps3
  go_wp2_with fail
  obtain ⟨W0, hW0⟩ : ∃ W, W = w.alloc (Obj.cells #[.slice a1 n1 c1, .slice a2 n2 c2, .slice a3 n3 c3] 26) := ⟨_, rfl⟩
  rw [← hW0]
  have HK : Hid (Below w.heap.size w W0 ∧ Blk W0 w.heap.size 26 #[.slice a1 n1 c1, .slice a2 n2 c2, .slice a3 n3 c3]) := by rw [hW0]; exact ⟨(Below.refl _ _).alloc (Nat.le_refl _) _, Blk.new w _ _⟩
  clear hW0
  refine (Z1.out W0 HK.out.1).mono ?_
  rintro e w1 ⟨rfl, hb⟩
  have H1 : Hid (Below w.heap.size w w1 ∧ Blk w1 w.heap.size 26 #[.slice a1 n1 c1, .slice a2 n2 c2, .slice a3 n3 c3]) := ⟨HK.out.1.trans (hb.mono HK.out.1.size), HK.out.2.below hb HK.out.2.lt⟩
  clear hb HK
  have c0 : w1.cell? ⟨w.heap.size, 0, none⟩ = some (.slice a1 n1 c1) := H1.out.2.cell 0
  have c1 : w1.cell? ⟨w.heap.size, 1, none⟩ = some (.slice a2 n2 c2) := H1.out.2.cell 1
  have c2 : w1.cell? ⟨w.heap.size, 2, none⟩ = some (.slice a3 n3 c3) := H1.out.2.cell 2
  go_wp2_with fail
  clear c0 c1 c2
  refine (TA.out w1 H1.out.1).mono ?_
  rintro e w2 ⟨u2, fp2, rfl, ho, hb⟩
  have hat := ho.at
  obtain ⟨t1, tc1, t2, tc2, t3, tc3, hu⟩ := SoAt.shape hat
  rw [HN.out.1, HN.out.2.1, HN.out.2.2] at hu
  subst hu
  have H2 : Hid (Below w.heap.size w w2 ∧ Blk w2 w.heap.size 26 #[.slice a1 n1 c1, .slice a2 n2 c2, .slice a3 n3 c3]) := ⟨H1.out.1.trans (hb.mono H1.out.1.size), H1.out.2.below hb H1.out.2.lt⟩
  have E2 := SP.out _ w2 hat
  clear hb H1 ho hat
  go_wp2_with fail
  refine E2.mono ?_
  rintro e w3 ⟨rfl, hb⟩
  have H3 : Hid (Below w.heap.size w w3 ∧ Blk w3 w.heap.size 26 #[.slice a1 n1 c1, .slice a2 n2 c2, .slice a3 n3 c3]) := ⟨H2.out.1.trans (hb.mono H2.out.1.size), H2.out.2.below hb H2.out.2.lt⟩
  clear hb H2 E2
  have c0 : w3.cell? ⟨w.heap.size, 0, none⟩ = some (.slice a1 n1 c1) := H3.out.2.cell 0
  have c1 : w3.cell? ⟨w.heap.size, 1, none⟩ = some (.slice a2 n2 c2) := H3.out.2.cell 1
  have c2 : w3.cell? ⟨w.heap.size, 2, none⟩ = some (.slice a3 n3 c3) := H3.out.2.cell 2
  go_wp2_with fail
  clear c0 c1 c2
  refine (TA.out w3 H3.out.1).mono ?_
  rintro e w4 ⟨u4, fp4, rfl, ho, hb⟩
  have hat := ho.at
  obtain ⟨x1, y1, x2, y2, x3, y3, hu⟩ := SoAt.shape hat
  rw [HN.out.1, HN.out.2.1, HN.out.2.2] at hu
  subst hu
  have H4 : Hid (Below w.heap.size w w4 ∧ Blk w4 w.heap.size 26 #[.slice a1 n1 c1, .slice a2 n2 c2, .slice a3 n3 c3]) := ⟨H3.out.1.trans (hb.mono H3.out.1.size), H3.out.2.below hb H3.out.2.lt⟩
  have HO4 : Hid (SoAt w4 (.agg #[.slice x1 n1 y1, .slice x2 n2 y2, .slice x3 n3 y3]) s) := hat
  clear hb H3 ho hat
  go_wp2_with fail
  obtain ⟨g1, hg1⟩ : ∃ g, w4.heap.size = g := ⟨_, rfl⟩
  obtain ⟨V4, hV4⟩ : ∃ V, V = w4.alloc (Obj.cells #[.slice x1 n1 y1, .slice x2 n2 y2, .slice x3 n3 y3] 33) := ⟨_, rfl⟩
  rw [← hV4]
  have H5 : Hid ((Below w.heap.size w V4 ∧ Blk V4 w.heap.size 26 #[.slice a1 n1 c1, .slice a2 n2 c2, .slice a3 n3 c3]) ∧ Blk V4 g1 33 #[.slice x1 n1 y1, .slice x2 n2 y2, .slice x3 n3 y3] ∧ SoAt V4 (.agg #[.slice x1 n1 y1, .slice x2 n2 y2, .slice x3 n3 y3]) s) := by
    rw [hV4, ← hg1]
    have hb : Below w4.heap.size w4 (w4.alloc (Obj.cells #[.slice x1 n1 y1, .slice x2 n2 y2, .slice x3 n3 y3] 33)) := (Below.refl _ _).alloc (Nat.le_refl _) _
    exact ⟨⟨H4.out.1.trans (hb.mono H4.out.1.size), H4.out.2.below hb H4.out.2.lt⟩, Blk.new w4 _ _, HO4.out.below hb⟩
  rw [hg1]
  clear H4 HO4 hV4 hg1
  refine (IM.out _ V4 H5.out.2.2).mono ?_
  rintro e w5 ⟨rfl, hb⟩
  have H6 : Hid ((Below w.heap.size w w5 ∧ Blk w5 w.heap.size 26 #[.slice a1 n1 c1, .slice a2 n2 c2, .slice a3 n3 c3]) ∧ Blk w5 g1 33 #[.slice x1 n1 y1, .slice x2 n2 y2, .slice x3 n3 y3] ∧ SoAt w5 (.agg #[.slice x1 n1 y1, .slice x2 n2 y2, .slice x3 n3 y3]) s) := ⟨⟨H5.out.1.1.trans (hb.mono H5.out.1.1.size), H5.out.1.2.below hb H5.out.1.2.lt⟩, H5.out.2.1.below hb H5.out.2.1.lt, H5.out.2.2.below hb⟩
  clear hb H5
  go_upto_region 10 with fail
  refine wp_region_held_drew (S := fun W => (Below w.heap.size w W ∧ Blk W w.heap.size 26 #[.slice a1 n1 c1, .slice a2 n2 c2, .slice a3 n3 c3]) ∧ Blk W g1 33 #[.slice x1 n1 y1, .slice x2 n2 y2, .slice x3 n3 y3] ∧ SoAt W (.agg #[.slice x1 n1 y1, .slice x2 n2 y2, .slice x3 n3 y3]) s) (by kernel_rfl) (⟨⟨H6.out.1.1.trans ((Below.refl _ _).drew.mono H6.out.1.1.size), H6.out.1.2.below (Below.refl _ _).drew H6.out.1.2.lt⟩, H6.out.2.1.below (Below.refl _ _).drew H6.out.2.1.lt, H6.out.2.2.below (Below.refl _ _).drew⟩) (fun hHeld => ?_)
  clear H6
  refine wpAnyH_take (i := 0) (oi := ⟨some 22, _, _, _, _, _⟩) (v := ?_) rfl (by kernel_rfl) (by kernel_rfl) (by kernel_rfl) (fun _ _ _ h => h) (Or.inl ⟨by rfl, ?_⟩) hHeld ?_
  rotate_left
  · intro W hSw
    have l0 : W.cell? ⟨w.heap.size, 0, none⟩ = some (.slice a1 n1 c1) := hSw.1.2.cell 0
    have l1 : W.cell? ⟨w.heap.size, 1, none⟩ = some (.slice a2 n2 c2) := hSw.1.2.cell 1
    have l2 : W.cell? ⟨w.heap.size, 2, none⟩ = some (.slice a3 n3 c3) := hSw.1.2.cell 2
    have c0 : W.cell? ⟨g1, 0, none⟩ = some (.slice x1 n1 y1) := hSw.2.1.cell 0
    have c1 : W.cell? ⟨g1, 1, none⟩ = some (.slice x2 n2 y2) := hSw.2.1.cell 1
    have c2 : W.cell? ⟨g1, 2, none⟩ = some (.slice x3 n3 y3) := hSw.2.1.cell 2
    go_simp
    try with_reducible rfl
  try simp only [Act.put, List.setIfInBounds_toArray, List.set_cons_zero, List.set_cons_succ]
  refine wpAnyH_take (i := 1) (oi := ⟨some 23, _, _, _, _, _⟩) (v := ?_) rfl (by kernel_rfl) (by kernel_rfl) (by kernel_rfl) (fun _ _ _ h => h) (Or.inl ⟨by rfl, ?_⟩) hHeld ?_
  rotate_left
  · intro W hSw
    have l0 : W.cell? ⟨w.heap.size, 0, none⟩ = some (.slice a1 n1 c1) := hSw.1.2.cell 0
    have l1 : W.cell? ⟨w.heap.size, 1, none⟩ = some (.slice a2 n2 c2) := hSw.1.2.cell 1
    have l2 : W.cell? ⟨w.heap.size, 2, none⟩ = some (.slice a3 n3 c3) := hSw.1.2.cell 2
    have c0 : W.cell? ⟨g1, 0, none⟩ = some (.slice x1 n1 y1) := hSw.2.1.cell 0
    have c1 : W.cell? ⟨g1, 1, none⟩ = some (.slice x2 n2 y2) := hSw.2.1.cell 1
    have c2 : W.cell? ⟨g1, 2, none⟩ = some (.slice x3 n3 y3) := hSw.2.1.cell 2
    go_simp
    try with_reducible rfl
  try simp only [Act.put, List.setIfInBounds_toArray, List.set_cons_zero, List.set_cons_succ]
  refine wpAnyH_ready (rs := [2]) (by kernel_rfl) (by simp) ?_
  refine AllReadyH.cons (o := ⟨some 24, _, _, _, _, _⟩) rfl (fun K hK => ?_) AllReadyH.nil
  go_simp
  refine (TA.out _ hHeld.1.1).mono ?_
  rintro e w6 ⟨u6, fp6, rfl, ho, hb⟩
  have hat := ho.at
  obtain ⟨t1, tc1, t2, tc2, t3, tc3, hu⟩ := SoAt.shape hat
  rw [HN.out.1, HN.out.2.1, HN.out.2.2] at hu
  subst hu
  have H7 : Hid ((Below w.heap.size w w6 ∧ Blk w6 w.heap.size 26 #[.slice a1 n1 c1, .slice a2 n2 c2, .slice a3 n3 c3]) ∧ Blk w6 g1 33 #[.slice x1 n1 y1, .slice x2 n2 y2, .slice x3 n3 y3] ∧ SoAt w6 (.agg #[.slice x1 n1 y1, .slice x2 n2 y2, .slice x3 n3 y3]) s) := ⟨⟨hHeld.1.1.trans (hb.mono hHeld.1.1.size), hHeld.1.2.below hb hHeld.1.2.lt⟩, hHeld.2.1.below hb hHeld.2.1.lt, hHeld.2.2.below hb⟩
  have E7 := EQ.out _ _ w6 H7.out.2.2 hat
  clear hb hHeld ho hat
  refine hK.out _ _ (H7.out) (fun hHeld => ?_)
  clear hK K
  try simp only [Act.put, List.setIfInBounds_toArray, List.set_cons_zero, List.set_cons_succ]
  refine wpAnyH_ready (rs := [3]) (by kernel_rfl) (by simp) ?_
  refine AllReadyH.cons (o := ⟨some 25, _, _, _, _, _⟩) rfl (fun K hK => ?_) AllReadyH.nil
  go_simp
  refine E7.mono ?_
  rintro e w7 ⟨rfl, hb⟩
  have H8 : Hid ((Below w.heap.size w w7 ∧ Blk w7 w.heap.size 26 #[.slice a1 n1 c1, .slice a2 n2 c2, .slice a3 n3 c3]) ∧ Blk w7 g1 33 #[.slice x1 n1 y1, .slice x2 n2 y2, .slice x3 n3 y3] ∧ SoAt w7 (.agg #[.slice x1 n1 y1, .slice x2 n2 y2, .slice x3 n3 y3]) s) := ⟨⟨H7.out.1.1.trans (hb.mono H7.out.1.1.size), H7.out.1.2.below hb H7.out.1.2.lt⟩, H7.out.2.1.below hb H7.out.2.1.lt, H7.out.2.2.below hb⟩
  clear hb hHeld H7 E7
  refine hK.out _ _ (H8.out) (fun hHeld => ?_)
  clear hK K
  try simp only [Act.put, List.setIfInBounds_toArray, List.set_cons_zero, List.set_cons_succ]
  refine wpAnyH_take (i := 4) (oi := ⟨some 26, _, _, _, _, _⟩) (v := ?_) rfl (by kernel_rfl) (by kernel_rfl) (by kernel_rfl) (fun _ _ _ h => h) (Or.inl ⟨by rfl, ?_⟩) hHeld ?_
  rotate_left
  · intro W hSw
    go_simp
    try with_reducible rfl
  try simp only [Act.put, List.setIfInBounds_toArray, List.set_cons_zero, List.set_cons_succ]
  refine wpAnyH_done (by kernel_rfl) ?_ _
  clear hHeld
  go_wp2_with fail
  go_ret
  exact ⟨rfl, H8.out.1.1⟩
theorem laidOut_FnExactStoreOk : laidOutB Tryz.prog = true := by kernel_rfl
theorem own_FnExactStoreOk : ownKnob Tryz.prog.godebug = none := by kernel_rfl
set_option maxRecDepth 100000 in
theorem lifted_FnExactStoreOk (os : Os) (started : os.Started) (H : Type) (enc : TypeId × Value → H) :
    ReturnsInHanded {} Tryz.checked os 3 .any (Rows.fnExactStoreOkSpec.pre6 enc Tryz.prog Tryz.f3 Rows.fnExactStoreOkRow.domain false) (Rows.fnExactStoreOkSpec.post enc Tryz.prog Tryz.f3 false true false false) := by
  refine returnsInHanded_of_change (C := Tryz.checked) own_FnExactStoreOk started (by kernel_rfl) Tryz.func3
    (ChangeSpec.witness6 (enc := enc) (C := Tryz.checked) false ⟨#[], #[.agg #[.slice none 0 0, .slice none 0 0, .slice none 0 0]], []⟩ 8 (by kernel_rfl) (by kernel_rfl) (by kernel_rfl) (by kernel_rfl)) ?_
  intro W base args ds gs before hval0 hW hcnd _
  have hval : ∀ (j : Nat) t v, Tryz.f3.params[j]? = some t → args[j]? = some v → Value.okWide Tryz.prog W .any base t v := hval0
  have hW' := hW
  obtain ⟨p, q, hA0, hV, rfl, hfz, hnd⟩ := hW
  have hA : DataW.TrodAll enc Tryz.prog W 0 (fun _ => true) true Tryz.f3.params.toList args.toList ds p := hA0
  rw [Tryz.params3] at hA hval
  obtain ⟨v0, vs0, d0, ds0, p0, q0, hargs, rfl, rfl, h0, r0⟩ := trodAll_cons hA
  obtain ⟨rfl, rfl, rfl⟩ := trodAll_nil r0
  obtain rfl : args = #[v0] := by cases args; simp_all
  obtain ⟨rfl, rfl⟩ := trodVars_none hV
  obtain ⟨a0, rfl, ca0⟩ := okWide_struct Tryz.underlying26 (hval 0 26 v0 rfl rfl)
  have k0 := h0
  have lt0 : ∀ x ∈ p0, x.block < W.heap.size := by obtain ⟨m, hm⟩ := k0; exact DataW.trod_lt m _ _ _ hm
  have w0 : ∃ c : So, ArgO W.heap.size W (.agg a0) c ∧ WdO c := by
    obtain ⟨fuel, hf⟩ := h0
    exact store_of_trod hf
  clear hA0 hval0
  simp only [List.append_nil] at hW'
  refine (walk_FnExactStoreOk a0 W w0).mono fun e W' ⟨he, bel⟩ => ?_
  subst he
  exact ⟨_, rfl, _, _, _, [], _, [], hW', trodAll_mk1 (shut_bool Tryz.underlying4 _), (trodAll_cons_mk (Below.trod laidOut_FnExactStoreOk (by kernel_rfl) (of_decide_eq_true (by kernel_rfl)) k0 bel lt0) trodAll_mk0), rfl, bel.frame _, fun h => by cases h⟩
theorem over_FnExactStoreOk : Rows.fnExactStoreOkRow.holds Tryz.pinned (OpenSpec.ofChange Rows.fnExactStoreOkSpec) :=
  OpenClaim.holds_of_wide 3 Tryz.f3 rfl rfl rfl rfl rfl rfl rfl ⟨rfl, rfl, rfl, rfl, rfl⟩ rfl rfl rfl rfl rfl (by kernel_rfl) Tryz.func3 (by kernel_rfl)
    (of_decide_eq_true (by kernel_rfl)) (by unfold Func.isWrapper; first | (rw [if_pos (by decide +kernel)]; kernel_rfl) | (rw [if_neg (by decide +kernel)]; exact ⟨rfl, rfl⟩))
    (fun os started H enc _ => lifted_FnExactStoreOk os started H enc)
theorem proved_FnExactStoreOk : Rows.FnExactStoreOkSaid := over_FnExactStoreOk
#print axioms proved_FnExactStoreOk
end Go.Proofs.YtplblechcnbieaaGreat
