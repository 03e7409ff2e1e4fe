/-
  Proved: FnExactAskOk of chapter 14 holds for every question: the program's AskOk answers as its model does, and writes into no argument.
-/
import Derived.Test.YtbiiihjohbnodaaRows
import Derived.Test.YtbiiihjohbnodaaAkB
import Derived.Test.YtbiiihjohbnodaaAkG
import Derived.Test.YtbiiihjohbnodaaAkQ
import Derived.Deep.RegionHeld3
import Derived.ProofKit
import Derived.OpenShut
import Derived.ShutString
namespace Go.Proofs.Ytbiiihjohbnodaa
open Go.ChangeShapes Go.WideShapes Go.ChangeAt Go.RowKit
open Go.ChangeMaps (open_string shut_string)
set_option linter.unusedVariables false

set_option maxHeartbeats 6400000 in
set_option maxRecDepth 100000 in
theorem walk_FnExactAskOk (a : Array Value) (w : World) (h : ∃ c, ArgAk w.heap.size w (.agg a) c ∧ WdAk c) : Calls Try.prog 3 #[.agg a] w fun e w' => e = .returned (.bool true) ∧ Below w.heap.size w w' := by
  obtain ⟨c, hx, hw⟩ := h
  obtain ⟨pa, pc, hv, -⟩ := id hx
  injection hv with hv
  subst hv
  obtain ⟨W1, hW1⟩ : ∃ W, W = w.alloc (Obj.cells #[.slice pa c.tg.length pc, .int .i64 c.plan, .int .i64 c.want, .int .i64 c.nonce, .int .i64 c.time, .bool c.cac] 24) := ⟨_, rfl⟩
  have hB1 : Below w.heap.size w W1 ∧ Blk W1 w.heap.size 24 #[.slice pa c.tg.length pc, .int .i64 c.plan, .int .i64 c.want, .int .i64 c.nonce, .int .i64 c.time, .bool c.cac] := by rw [hW1]; exact ⟨(Below.refl _ _).alloc (Nat.le_refl _) _, Blk.new w _ _⟩
  have HX : Hid (ArgAk w.heap.size w (.agg #[.slice pa c.tg.length pc, .int .i64 c.plan, .int .i64 c.want, .int .i64 c.nonce, .int .i64 c.time, .bool c.cac]) c) := hx
  have HWd : Hid (WdAk c) := hw
  have E := szAsk_any c _ 1048576 W1 hw (by decide) (by decide) ((hx.below hB1.1).mono hB1.1.size)
  have HA : Hid (Below w.heap.size w W1 ∧ Blk W1 w.heap.size 24 #[.slice pa c.tg.length pc, .int .i64 c.plan, .int .i64 c.want, .int .i64 c.nonce, .int .i64 c.time, .bool c.cac]) := hB1
  clear hx hw hB1
  by_cases hz : wtAk c ≤ 1048576
  rotate_left
  · rw [szAk_no hz] at E
    clear hz
    go_enter Try.func3, Try.ntmps3
    go_wp2_with fail
    rw [← hW1]
    clear hW1
    refine E.mono ?_
    rintro e w2 ⟨rfl, hb2⟩
    have HA2 : Hid (Below w.heap.size w w2) := HA.out.1.trans (hb2.mono HA.out.1.size)
    clear E HA hb2
    go_wp2_with fail
    go_ret
    exact ⟨rfl, HA2.out⟩
  · rw [szAk_yes hz] at E
    have HZ : Hid (wtAk c ≤ 1048576) := hz
    obtain ⟨z, hze⟩ : ∃ z : Int, z = 1048576 - (wtAk c : Int) := ⟨_, rfl⟩
    have hz0 : ¬ z < 0 := by omega
    rw [← hze] at E
    clear hze hz
    go_enter Try.func3, Try.ntmps3
    go_wp2_with fail
    rw [← hW1]
    clear hW1
    refine E.mono ?_
    rintro e w2 ⟨rfl, hb2⟩
    have HA2 : Hid (Below w.heap.size w w2 ∧ Blk w2 w.heap.size 24 #[.slice pa c.tg.length pc, .int .i64 c.plan, .int .i64 c.want, .int .i64 c.nonce, .int .i64 c.time, .bool c.cac]) := ⟨HA.out.1.trans (hb2.mono HA.out.1.size), HA.out.2.below hb2 HA.out.2.lt⟩
    have E2 := toAsk_any c _ w.heap.size w2 (wtAk_len HZ.out) HA2.out.1.size (HX.out.below HA2.out.1)
    clear E HA hb2
    have c0 : w2.cell? ⟨w.heap.size, 0, none⟩ = some (.slice pa c.tg.length pc) := HA2.out.2.cell 0
    have c1 : w2.cell? ⟨w.heap.size, 1, none⟩ = some (.int .i64 c.plan) := HA2.out.2.cell 1
    have c2 : w2.cell? ⟨w.heap.size, 2, none⟩ = some (.int .i64 c.want) := HA2.out.2.cell 2
    have c3 : w2.cell? ⟨w.heap.size, 3, none⟩ = some (.int .i64 c.nonce) := HA2.out.2.cell 3
    have c4 : w2.cell? ⟨w.heap.size, 4, none⟩ = some (.int .i64 c.time) := HA2.out.2.cell 4
    have c5 : w2.cell? ⟨w.heap.size, 5, none⟩ = some (.bool c.cac) := HA2.out.2.cell 5
    go_wp2_with fail
    clear c0 c1 c2 c3 c4 c5
    refine E2.mono ?_
    rintro e w3 ⟨u3, rfl, ho3, hb3⟩
    have HA3 : Hid (Below w.heap.size w w3 ∧ Blk w3 w.heap.size 24 #[.slice pa c.tg.length pc, .int .i64 c.plan, .int .i64 c.want, .int .i64 c.nonce, .int .i64 c.time, .bool c.cac]) := ⟨HA2.out.1.trans (hb3.mono HA2.out.1.size), HA2.out.2.below hb3 HA2.out.2.lt⟩
    have E3 := specAskOk_any c u3 w3 (Nat.le_trans HZ.out (by decide)) ho3.at
    obtain ⟨P0, hP0⟩ : ∃ P, askOk c = P := ⟨_, rfl⟩
    have HP : Hid (askOk c = P0) := hP0
    rw [hP0] at E3
    clear HA2 E2 ho3 hb3 hP0
    go_wp2_with fail
    refine E3.mono ?_
    rintro e w4 ⟨rfl, hb4⟩
    have HA4 : Hid (Below w.heap.size w w4 ∧ Blk w4 w.heap.size 24 #[.slice pa c.tg.length pc, .int .i64 c.plan, .int .i64 c.want, .int .i64 c.nonce, .int .i64 c.time, .bool c.cac]) := ⟨HA3.out.1.trans (hb4.mono HA3.out.1.size), HA3.out.2.below hb4 HA3.out.2.lt⟩
    have E4 := toAsk_any c _ w.heap.size w4 (wtAk_len HZ.out) HA4.out.1.size (HX.out.below HA4.out.1)
    clear HA3 E3 hb4
    have c0 : w4.cell? ⟨w.heap.size, 0, none⟩ = some (.slice pa c.tg.length pc) := HA4.out.2.cell 0
    have c1 : w4.cell? ⟨w.heap.size, 1, none⟩ = some (.int .i64 c.plan) := HA4.out.2.cell 1
    have c2 : w4.cell? ⟨w.heap.size, 2, none⟩ = some (.int .i64 c.want) := HA4.out.2.cell 2
    have c3 : w4.cell? ⟨w.heap.size, 3, none⟩ = some (.int .i64 c.nonce) := HA4.out.2.cell 3
    have c4 : w4.cell? ⟨w.heap.size, 4, none⟩ = some (.int .i64 c.time) := HA4.out.2.cell 4
    have c5 : w4.cell? ⟨w.heap.size, 5, none⟩ = some (.bool c.cac) := HA4.out.2.cell 5
    go_wp2_with fail
    clear c0 c1 c2 c3 c4 c5
    refine E4.mono ?_
    rintro e w5 ⟨u5, rfl, ho5, hb5⟩
    have HA5 : Hid (Below w.heap.size w w5 ∧ Blk w5 w.heap.size 24 #[.slice pa c.tg.length pc, .int .i64 c.plan, .int .i64 c.want, .int .i64 c.nonce, .int .i64 c.time, .bool c.cac]) := ⟨HA4.out.1.trans (hb5.mono HA4.out.1.size), HA4.out.2.below hb5 HA4.out.2.lt⟩
    obtain ⟨p5, q5, hu5⟩ := AkAt.shape ho5.at
    have HO5 : Hid (AkAt w5 u5 c) := ho5.at
    clear HA4 E4 ho5 hb5
    subst hu5
    unfold akV at HO5 ⊢
    go_wp2_with fail
    obtain ⟨W6, hW6⟩ : ∃ W, W = w5.alloc (Obj.cells #[.slice p5 c.tg.length q5, .int .i64 c.plan, .int .i64 c.want, .int .i64 c.nonce, .int .i64 c.time, .bool c.cac] 27) := ⟨_, rfl⟩
    rw [← hW6]
    have hb6 : Below w5.heap.size w5 W6 ∧ Blk W6 w5.heap.size 27 #[.slice p5 c.tg.length q5, .int .i64 c.plan, .int .i64 c.want, .int .i64 c.nonce, .int .i64 c.time, .bool c.cac] := by rw [hW6]; exact ⟨(Below.refl _ _).alloc (Nat.le_refl _) _, Blk.new w5 _ _⟩
    have HK6 : Hid (KAk w W6 w.heap.size w5.heap.size 24 27 #[.slice pa c.tg.length pc, .int .i64 c.plan, .int .i64 c.want, .int .i64 c.nonce, .int .i64 c.time, .bool c.cac] #[.slice p5 c.tg.length q5, .int .i64 c.plan, .int .i64 c.want, .int .i64 c.nonce, .int .i64 c.time, .bool c.cac] c) := ⟨HA5.out.1.trans (hb6.1.mono HA5.out.1.size), HA5.out.2.below hb6.1 HA5.out.2.lt, hb6.2, HO5.out.below hb6.1⟩
    have E6 := implAskOk_any c _ W6 (Nat.le_trans HZ.out (by decide)) HK6.out.2.2.2
    rw [HP.out] at E6
    clear hb6 hW6 HA5 HO5
    refine E6.mono ?_
    rintro e w7 ⟨rfl, hb7⟩
    have HK7 : Hid (KAk w w7 w.heap.size w5.heap.size 24 27 #[.slice pa c.tg.length pc, .int .i64 c.plan, .int .i64 c.want, .int .i64 c.nonce, .int .i64 c.time, .bool c.cac] #[.slice p5 c.tg.length q5, .int .i64 c.plan, .int .i64 c.want, .int .i64 c.nonce, .int .i64 c.time, .bool c.cac] c) := HK6.out.below hb7
    clear HK6 E6 hb7
    go_wp2_with fail
    refine wp_region_held_drew (S := fun W => KAk w W w.heap.size w5.heap.size 24 27 #[.slice pa c.tg.length pc, .int .i64 c.plan, .int .i64 c.want, .int .i64 c.nonce, .int .i64 c.time, .bool c.cac] #[.slice p5 c.tg.length q5, .int .i64 c.plan, .int .i64 c.want, .int .i64 c.nonce, .int .i64 c.time, .bool c.cac] c) (by kernel_rfl) (HK7.out.below ((Below.refl _ _).drew)) (fun hHeld => ?_)
    refine wpAnyH_take (i := 0) (oi := ⟨some 22, _, _, _, _, _⟩) (v := ?_) rfl (by kernel_rfl) (by kernel_rfl) (by kernel_rfl) (fun _ _ _ h => h) (Or.inl ⟨by rfl, ?_⟩) hHeld ?_
    rotate_left
    · intro W hSw
      have l0 : W.cell? ⟨w5.heap.size, 0, none⟩ = some (.slice p5 c.tg.length q5) := hSw.2.2.1.cell 0
      have l1 : W.cell? ⟨w5.heap.size, 1, none⟩ = some (.int .i64 c.plan) := hSw.2.2.1.cell 1
      have l2 : W.cell? ⟨w5.heap.size, 2, none⟩ = some (.int .i64 c.want) := hSw.2.2.1.cell 2
      have l3 : W.cell? ⟨w5.heap.size, 3, none⟩ = some (.int .i64 c.nonce) := hSw.2.2.1.cell 3
      have l4 : W.cell? ⟨w5.heap.size, 4, none⟩ = some (.int .i64 c.time) := hSw.2.2.1.cell 4
      have l5 : W.cell? ⟨w5.heap.size, 5, none⟩ = some (.bool c.cac) := hSw.2.2.1.cell 5
      go_simp
      try with_reducible rfl
    try simp only [Act.put, List.setIfInBounds_toArray, List.set_cons_zero, List.set_cons_succ]
    refine wpAnyH_take (i := 1) (oi := ⟨some 23, _, _, _, _, _⟩) (v := ?_) rfl (by kernel_rfl) (by kernel_rfl) (by kernel_rfl) (fun _ _ _ h => h) (Or.inl ⟨by rfl, ?_⟩) hHeld ?_
    rotate_left
    · intro W hSw
      have l0 : W.cell? ⟨w.heap.size, 0, none⟩ = some (.slice pa c.tg.length pc) := hSw.2.1.cell 0
      have l1 : W.cell? ⟨w.heap.size, 1, none⟩ = some (.int .i64 c.plan) := hSw.2.1.cell 1
      have l2 : W.cell? ⟨w.heap.size, 2, none⟩ = some (.int .i64 c.want) := hSw.2.1.cell 2
      have l3 : W.cell? ⟨w.heap.size, 3, none⟩ = some (.int .i64 c.nonce) := hSw.2.1.cell 3
      have l4 : W.cell? ⟨w.heap.size, 4, none⟩ = some (.int .i64 c.time) := hSw.2.1.cell 4
      have l5 : W.cell? ⟨w.heap.size, 5, none⟩ = some (.bool c.cac) := hSw.2.1.cell 5
      go_simp
      try with_reducible rfl
    try simp only [Act.put, List.setIfInBounds_toArray, List.set_cons_zero, List.set_cons_succ]
    refine wpAnyH_ready (rs := [2]) (by kernel_rfl) (by simp) ?_
    refine AllReadyH.cons (o := ⟨some 24, _, _, _, _, _⟩) rfl (fun K hK => ?_) AllReadyH.nil
    go_simp
    refine (toAsk_any c _ w.heap.size _ (wtAk_len HZ.out) hHeld.1.size (HX.out.below hHeld.1)).mono ?_
    rintro e v1 ⟨u8, rfl, ho8, hv1⟩
    have hH1 := KAk.below hHeld hv1
    have HO8 : Hid (AkAt v1 u8 c) := ho8.at
    clear ho8
    go_wp2_with fail
    refine hK.out _ _ hH1 (fun hHeld => ?_)
    clear hK K hH1 hv1
    try simp only [Act.put, List.setIfInBounds_toArray, List.set_cons_zero, List.set_cons_succ]
    refine wpAnyH_ready (rs := [3]) (by kernel_rfl) (by simp) ?_
    refine AllReadyH.cons (o := ⟨some 25, _, _, _, _, _⟩) rfl (fun K hK => ?_) AllReadyH.nil
    go_simp
    refine (eqAsk_same c _ _ _ (by have := wtAk_len HZ.out; omega) hHeld.2.2.2 HO8.out).mono ?_
    rintro e v2 ⟨rfl, hv2⟩
    have hH2 := KAk.below hHeld hv2
    go_wp2_with fail
    refine hK.out _ _ hH2 (fun hHeld => ?_)
    clear hK K hH2 hv2
    try simp only [Act.put, List.setIfInBounds_toArray, List.set_cons_zero, List.set_cons_succ]
    refine wpAnyH_take (i := 4) (oi := ⟨some 26, _, _, _, _, _⟩) (v := ?_) rfl (by kernel_rfl) (by kernel_rfl) (by kernel_rfl) (fun _ _ _ h => h) (Or.inl ⟨by rfl, ?_⟩) hHeld ?_
    rotate_left
    · intro W hSw
      go_simp
      try with_reducible rfl
    try simp only [Act.put, List.setIfInBounds_toArray, List.set_cons_zero, List.set_cons_succ]
    refine wpAnyH_done (by kernel_rfl) ?_ _
    have HEND : Hid (Below w.heap.size w _) := hHeld.1
    clear hHeld
    go_wp2_with fail
    go_ret
    exact ⟨rfl, HEND.out⟩
theorem laidOut_FnExactAskOk : laidOutB Try.prog = true := by kernel_rfl
theorem own_FnExactAskOk : ownKnob Try.prog.godebug = none := by kernel_rfl
set_option maxRecDepth 100000 in
theorem lifted_FnExactAskOk (os : Os) (started : os.Started) (H : Type) (enc : TypeId × Value → H) :
    ReturnsInHanded {} Try.checked os 3 .any (Rows.fnExactAskOkSpec.pre6 enc Try.prog Try.f3 Rows.fnExactAskOkRow.domain false) (Rows.fnExactAskOkSpec.post enc Try.prog Try.f3 false true false false) := by
  refine returnsInHanded_of_change (C := Try.checked) own_FnExactAskOk started (by kernel_rfl) Try.func3
    (ChangeSpec.witness6 (enc := enc) (C := Try.checked) false ⟨#[], #[.agg #[.slice none 0 0, .int .i64 0, .int .i64 0, .int .i64 0, .int .i64 0, .bool false]], []⟩ 8 (by kernel_rfl) (by kernel_rfl) (by kernel_rfl) (by kernel_rfl)) ?_
  intro W base args ds gs before hval0 hW hcnd _
  have hval : ∀ (j : Nat) t v, Try.f3.params[j]? = some t → args[j]? = some v → Value.okWide Try.prog W .any base t v := hval0
  have hW' := hW
  obtain ⟨p, q, hA0, hV, rfl, hfz, hnd⟩ := hW
  have hA : DataW.TrodAll enc Try.prog W 0 (fun _ => true) true Try.f3.params.toList args.toList ds p := hA0
  rw [Try.params3] at hA hval
  obtain ⟨v0, vs0, d0, ds0, p0, q0, hargs, rfl, rfl, h0, r0⟩ := trodAll_cons hA
  obtain ⟨rfl, rfl, rfl⟩ := trodAll_nil r0
  obtain rfl : args = #[v0] := by cases args; simp_all
  obtain ⟨rfl, rfl⟩ := trodVars_none hV
  obtain ⟨a0, rfl, ca0⟩ := okWide_struct Try.underlying24 (hval 0 24 v0 rfl rfl)
  have k0 := h0
  have lt0 : ∀ x ∈ p0, x.block < W.heap.size := by obtain ⟨m, hm⟩ := k0; exact DataW.trod_lt m _ _ _ hm
  have w0 : ∃ c : Ak, ArgAk W.heap.size W (.agg a0) c ∧ WdAk c := by
    obtain ⟨fuel, hf⟩ := h0
    exact ask_of_trod hf
  clear hA0 hval0
  simp only [List.append_nil] at hW'
  refine (walk_FnExactAskOk a0 W w0).mono fun e W' ⟨he, bel⟩ => ?_
  subst he
  exact ⟨_, rfl, _, _, _, [], _, [], hW', trodAll_mk1 (shut_bool Try.underlying4 _), (trodAll_cons_mk (Below.trod laidOut_FnExactAskOk (by kernel_rfl) (of_decide_eq_true (by kernel_rfl)) k0 bel lt0) trodAll_mk0), rfl, bel.frame _, fun h => by cases h⟩
theorem over_FnExactAskOk : Rows.fnExactAskOkRow.holds Try.pinned (OpenSpec.ofChange Rows.fnExactAskOkSpec) :=
  OpenClaim.holds_of_wide 3 Try.f3 rfl rfl rfl rfl rfl rfl rfl ⟨rfl, rfl, rfl, rfl, rfl⟩ rfl rfl rfl rfl rfl (by kernel_rfl) Try.func3 (by kernel_rfl)
    (of_decide_eq_true (by kernel_rfl)) (by unfold Func.isWrapper; first | (rw [if_pos (by decide +kernel)]; kernel_rfl) | (rw [if_neg (by decide +kernel)]; exact ⟨rfl, rfl⟩))
    (fun os started H enc _ => lifted_FnExactAskOk os started H enc)
theorem proved_FnExactAskOk : Rows.FnExactAskOkSaid := over_FnExactAskOk
#print axioms proved_FnExactAskOk
end Go.Proofs.Ytbiiihjohbnodaa
