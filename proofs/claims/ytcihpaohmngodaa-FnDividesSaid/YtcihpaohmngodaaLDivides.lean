/-
  Proves FnDividesSaid: whatever is drawn, how often one number is in another and what is left make it again, and what is left is less; by nothing, nothing; and the program divides as the specification does.
-/
import Derived.Test.YtcihpaohmngodaaRows
import Derived.Test.YtcihpaohmngodaaNumN
import Derived.Test.YtcihpaohmngodaaDrawR
import Derived.ProofKit
import Derived.OpenShut
import Derived.ShutString
namespace Go.Proofs.Ytcihpaohmngodaa
open Go.ChangeShapes Go.WideShapes Go.ChangeAt Go.RowKit
open Go.ChangeMaps (open_string shut_string)
set_option linter.unusedVariables false

theorem big40 : (10000 : Int) ^ 40 = 10000000000000000000000000000000000000000000000000000000000000000000000000000000000000000000000000000000000000000000000000000000000000000000000000000000000000000 := by decide
set_option maxHeartbeats 1600000 in
set_option maxRecDepth 100000 in
theorem drawNatDiv_any (B : Nat) (w : World) (a0 : Option Addr) (len cap : Nat) (hl : len ≤ 1048576) (hB : B ≤ w.heap.size) (hcode : CodeAt B w a0 len) : Calls Try.prog 25 #[.slice a0 len cap] w fun e w' =>
    ∃ (v u : Value) (l r : List Int), e = .returned (.tuple #[v, u]) ∧ TwoAt w' v u l r ∧ Below w.heap.size w w' := by
  have E := l04Pair_any B w a0 len cap hl hB hcode
  clear hcode
  go_enter Try.func25, Try.ntmps25
  go_wp2_with fail
  refine E.mono ?_
  rintro e w1 ⟨v, u, l, r, rfl, h, hb⟩
  have H : Hid (TwoAt w1 v u l r ∧ Below w.heap.size w w1) := ⟨h, hb⟩
  clear E h hb
  go_wp2_with fail
  go_ret2
  exact ⟨_, _, _, _, rfl, H.out⟩
set_option maxHeartbeats 6400000 in
set_option maxRecDepth 100000 in
theorem walk_FnDivides (a0 : Option Addr) (len0 cap0 : Nat) (w : World) (h0 : len0 ≤ maxLen ∧ CodeAt w.heap.size w a0 len0) :
    Calls Try.prog 4 #[.slice a0 len0 cap0] w fun e w' => e = .returned (.bool true) ∧ Below w.heap.size w w' := by
  have hm := h0.1
  unfold maxLen at hm
  have HC : Hid (CodeAt w.heap.size w a0 len0) := h0.2
  clear h0
  by_cases big : 1048576 < len0
  · have bg : (1048576 : Int) < (len0 : Int) := by omega
    go_enter Try.func4, Try.ntmps4
    go_wp2_with (go_at_call 16; go_in)
    go_ret
    exact ⟨rfl, Below.refl _ _⟩
  have ng : ¬ (1048576 : Int) < (len0 : Int) := by omega
  go_enter Try.func4, Try.ntmps4
  go_wp2_with (go_at_call 16; go_in)
  refine (drawNats_any w.heap.size w a0 len0 cap0 (by omega) (Nat.le_refl _) HC.out).mono ?_
  rintro e w1 ⟨a, b, c, x, y, z, rfl, hx, hy, hz, ia, ib, ic, hb⟩
  have ic' := ic
  obtain ⟨co, cc, hce, _⟩ := ic
  subst hce
  have hcl := digs_ne hz.1
  have hcl' : (0 : Int) < ((digs z).length : Int) := by omega
  have HB : Hid ((0 ≤ x ∧ x < 340282366920938463463374607431768211456) ∧ (0 ≤ y ∧ y < 340282366920938463463374607431768211456) ∧ (0 < z ∧ z < 340282366920938463463374607431768211456) ∧ (0 ≤ x * y ∧ x * y < 115792089237316195423570985008687907853269984665640564039457584007913129639936) ∧ (0 ≤ x * y / z ∧ x * y / z ≤ x * y) ∧ (x * y / z * z + x * y % z = x * y) ∧ 0 ≤ x * y / z * z ∧ 0 ≤ x * y % z ∧ x * y % z < z) := by
    have h1 := prod16 hx hy
    have h2 := Int.emod_add_mul_ediv (x * y) z
    rw [Int.mul_comm z] at h2
    exact ⟨hx, hy, hz, h1, ⟨Int.ediv_nonneg h1.1 (by omega), Int.ediv_le_self _ h1.1⟩, by omega, Int.mul_nonneg (Int.ediv_nonneg h1.1 (by omega)) (by omega), Int.emod_nonneg _ (by omega), Int.emod_lt_of_pos _ hz.1⟩
  have H1 : Hid (IntAt w1 a (digs (x)) ∧ IntAt w1 b (digs (y)) ∧ IntAt w1 (.slice co (digs z).length cc) (digs (z)) ∧ Below w.heap.size w w1) := ⟨ia, ib, ic', hb⟩
  clear hx hy hz ia ib hb ic'
  go_wp2_with fail
  refine (implMulN a b (x) (y) w1 (by have := HB.out; have := big40; omega) (by have := HB.out; have := big40; omega) (by have := HB.out; have := big40; omega) H1.out.1 H1.out.2.1).mono ?_
  rintro e w2 ⟨p, rfl, ho, hb⟩
  have H2 : Hid (IntAt w2 (.slice co (digs z).length cc) (digs (z)) ∧ IntAt w2 p (digs ((x) * (y))) ∧ Below w.heap.size w w2) := ⟨H1.out.2.2.1.below hb, ho.at, below_go H1.out.2.2.2 hb⟩
  clear hb H1 ho
  go_wp2_with fail
  refine (implDivN p (.slice co (digs z).length cc) ((x) * (y)) (z) w2 (by have := HB.out; have := big40; omega) (by have := HB.out; have := big40; omega) H2.out.2.1 H2.out.1).mono ?_
  rintro e w3 ⟨q, r, rfl, ho, hp, hb⟩
  have H3 : Hid (IntAt w3 (.slice co (digs z).length cc) (digs (z)) ∧ IntAt w3 p (digs ((x) * (y))) ∧ IntAt w3 q (digs (((x) * (y)) / (z))) ∧ IntAt w3 r (digs (((x) * (y)) % (z))) ∧ Below w.heap.size w w3) := ⟨H2.out.1.below hb, H2.out.2.1.below hb, ho.at, hp.at, below_go H2.out.2.2 hb⟩
  clear hb H2 ho hp
  go_wp2_with fail
  refine (implMulN q (.slice co (digs z).length cc) (((x) * (y)) / (z)) (z) w3 (by have := HB.out; have := big40; omega) (by have := HB.out; have := big40; omega) (by have := HB.out; have := big40; omega) H3.out.2.2.1 H3.out.1).mono ?_
  rintro e w4 ⟨t1, rfl, ho, hb⟩
  have H4 : Hid (IntAt w4 (.slice co (digs z).length cc) (digs (z)) ∧ IntAt w4 p (digs ((x) * (y))) ∧ IntAt w4 r (digs (((x) * (y)) % (z))) ∧ IntAt w4 t1 (digs ((((x) * (y)) / (z)) * (z))) ∧ Below w.heap.size w w4) := ⟨H3.out.1.below hb, H3.out.2.1.below hb, H3.out.2.2.2.1.below hb, ho.at, below_go H3.out.2.2.2.2 hb⟩
  clear hb H3 ho
  go_wp2_with fail
  refine (implAddN t1 r ((((x) * (y)) / (z)) * (z)) (((x) * (y)) % (z)) w4 (by have := HB.out; have := big40; omega) (by have := HB.out; have := big40; omega) (by have := HB.out; have := big40; omega) H4.out.2.2.2.1 H4.out.2.2.1).mono ?_
  rintro e w5 ⟨y1, rfl, ho, hb⟩
  have H5 : Hid (IntAt w5 (.slice co (digs z).length cc) (digs (z)) ∧ IntAt w5 p (digs ((x) * (y))) ∧ IntAt w5 r (digs (((x) * (y)) % (z))) ∧ IntAt w5 y1 (digs (((((x) * (y)) / (z)) * (z)) + (((x) * (y)) % (z)))) ∧ Below w.heap.size w w5) := ⟨H4.out.1.below hb, H4.out.2.1.below hb, H4.out.2.2.1.below hb, ho.at, below_go H4.out.2.2.2.2 hb⟩
  clear hb H4 ho
  go_wp2_with fail
  have ha := (Below.refl w5.heap.size w5).alloc (Nat.le_refl _) (Obj.cells #[] 3)
  have he := OwnI.empty w5 (Nat.le_refl w5.heap.size)
  have HM : Hid (IntAt (w5.alloc (Obj.cells #[] 3)) (.slice co (digs z).length cc) (digs (z)) ∧ IntAt (w5.alloc (Obj.cells #[] 3)) p (digs ((x) * (y))) ∧ IntAt (w5.alloc (Obj.cells #[] 3)) r (digs (((x) * (y)) % (z))) ∧ IntAt (w5.alloc (Obj.cells #[] 3)) y1 (digs (((((x) * (y)) / (z)) * (z)) + (((x) * (y)) % (z)))) ∧ Below w.heap.size w (w5.alloc (Obj.cells #[] 3))) := ⟨H5.out.1.below ha, H5.out.2.1.below ha, H5.out.2.2.1.below ha, H5.out.2.2.2.1.below ha, below_go H5.out.2.2.2.2 ha⟩
  have EN := implDiv_any p (.slice (some ⟨w5.heap.size, 0, none⟩) 0 0) (digs ((x) * (y))) [] (w5.alloc (Obj.cells #[] 3)) (digs_l40 (by have := HB.out; have := big40; omega) (by have := HB.out; have := big40; omega)) (by simp) (dig_digs _).wd (fun x hx => by simp at hx) (H5.out.2.1.below ha) he.at
  have e1 : quoL (digs ((x) * (y))) [] = [] := by unfold quoL; rw [if_neg (fun h => by simp at h)]
  have e2 : remL (digs ((x) * (y))) [] = [] := by unfold remL; rw [if_neg (fun h => by simp at h)]
  rw [e1, e2] at EN
  clear e1 e2 ha he H5
  refine EN.mono ?_
  rintro e w6 ⟨k0, l0, rfl, ho, hp, hb, _⟩
  clear EN
  obtain ⟨ko, kc, hke, _⟩ := ho.shape
  obtain ⟨lo, lc, hle, _⟩ := hp.shape
  subst hke hle
  have H6 : Hid (IntAt w6 (.slice co (digs z).length cc) (digs (z)) ∧ IntAt w6 p (digs ((x) * (y))) ∧ IntAt w6 r (digs (((x) * (y)) % (z))) ∧ IntAt w6 y1 (digs (((((x) * (y)) / (z)) * (z)) + (((x) * (y)) % (z)))) ∧ Below w.heap.size w w6) := ⟨HM.out.1.below hb, HM.out.2.1.below hb, HM.out.2.2.1.below hb, HM.out.2.2.2.1.below hb, below_go HM.out.2.2.2.2 hb⟩
  clear hb ho hp HM
  go_wp2_with fail
  refine (drawNatDiv_any w.heap.size w6 a0 len0 cap0 (by omega) H6.out.2.2.2.2.size (HC.out.below H6.out.2.2.2.2)).mono ?_
  rintro e w7 ⟨u, v, lu, lv, rfl, ht, hb⟩
  have HW : Hid (Wd lu ∧ Wd lv ∧ lu.length ≤ 50 ∧ lv.length ≤ 50) := ht.2.2
  have hu := ht.1
  have hv := ht.2.1
  have H7 : Hid (IntAt w7 (.slice co (digs z).length cc) (digs (z)) ∧ IntAt w7 p (digs ((x) * (y))) ∧ IntAt w7 r (digs (((x) * (y)) % (z))) ∧ IntAt w7 y1 (digs (((((x) * (y)) / (z)) * (z)) + (((x) * (y)) % (z)))) ∧ IntAt w7 u (lu) ∧ IntAt w7 v (lv) ∧ Below w.heap.size w w7) := ⟨H6.out.1.below hb, H6.out.2.1.below hb, H6.out.2.2.1.below hb, H6.out.2.2.2.1.below hb, hu, hv, below_go H6.out.2.2.2.2 hb⟩
  clear hb ht hu hv H6
  go_wp2_with fail
  refine (implDiv_any u v lu lv w7 (by have := HW.out.2.2.1; omega) (by have := HW.out.2.2.2; omega) HW.out.1 HW.out.2.1 H7.out.2.2.2.2.1 H7.out.2.2.2.2.2.1).mono ?_
  rintro e w8 ⟨m, n, rfl, ho, hp, hb, _⟩
  have H8 : Hid (IntAt w8 (.slice co (digs z).length cc) (digs (z)) ∧ IntAt w8 p (digs ((x) * (y))) ∧ IntAt w8 r (digs (((x) * (y)) % (z))) ∧ IntAt w8 y1 (digs (((((x) * (y)) / (z)) * (z)) + (((x) * (y)) % (z)))) ∧ IntAt w8 u (lu) ∧ IntAt w8 v (lv) ∧ IntAt w8 m (quoL lu lv) ∧ IntAt w8 n (remL lu lv) ∧ Below w.heap.size w w8) := ⟨H7.out.1.below hb, H7.out.2.1.below hb, H7.out.2.2.1.below hb, H7.out.2.2.2.1.below hb, H7.out.2.2.2.2.1.below hb, H7.out.2.2.2.2.2.1.below hb, ho.at, hp.at, below_go H7.out.2.2.2.2.2.2 hb⟩
  clear hb H7 ho hp
  go_wp2_with fail
  refine (specDiv_any u v lu lv w8 (by have := HW.out.2.2.1; omega) (by have := HW.out.2.2.2; omega) HW.out.1 HW.out.2.1 H8.out.2.2.2.2.1 H8.out.2.2.2.2.2.1).mono ?_
  rintro e w9 ⟨o1, p1, rfl, ho, hp, hb⟩
  have H9 : Hid (IntAt w9 (.slice co (digs z).length cc) (digs (z)) ∧ IntAt w9 p (digs ((x) * (y))) ∧ IntAt w9 r (digs (((x) * (y)) % (z))) ∧ IntAt w9 y1 (digs (((((x) * (y)) / (z)) * (z)) + (((x) * (y)) % (z)))) ∧ IntAt w9 m (quoL lu lv) ∧ IntAt w9 n (remL lu lv) ∧ IntAt w9 o1 (quoL lu lv) ∧ IntAt w9 p1 (remL lu lv) ∧ Below w.heap.size w w9) := ⟨H8.out.1.below hb, H8.out.2.1.below hb, H8.out.2.2.1.below hb, H8.out.2.2.2.1.below hb, H8.out.2.2.2.2.2.2.1.below hb, H8.out.2.2.2.2.2.2.2.1.below hb, ho.at, hp.at, below_go H8.out.2.2.2.2.2.2.2.2 hb⟩
  clear hb H8 ho hp
  go_wp2_with fail
  refine (sameN y1 p (((((x) * (y)) / (z)) * (z)) + (((x) * (y)) % (z))) ((x) * (y)) w9 (by have := HB.out; have := big40; omega) (by have := HB.out; have := big40; omega) (by have := HB.out; have := big40; omega) H9.out.2.2.2.1 H9.out.2.1).mono ?_
  rintro e w10 ⟨rfl, hb⟩
  have H10 : Hid (IntAt w10 (.slice co (digs z).length cc) (digs (z)) ∧ IntAt w10 r (digs (((x) * (y)) % (z))) ∧ IntAt w10 m (quoL lu lv) ∧ IntAt w10 n (remL lu lv) ∧ IntAt w10 o1 (quoL lu lv) ∧ IntAt w10 p1 (remL lu lv) ∧ Below w.heap.size w w10) := ⟨H9.out.1.below hb, H9.out.2.2.1.below hb, H9.out.2.2.2.2.1.below hb, H9.out.2.2.2.2.2.1.below hb, H9.out.2.2.2.2.2.2.1.below hb, H9.out.2.2.2.2.2.2.2.1.below hb, below_go H9.out.2.2.2.2.2.2.2.2 hb⟩
  clear hb H9
  have EC := implCmpN r (.slice co (digs z).length cc) (((x) * (y)) % (z)) (z) w10 (by have := HB.out; have := big40; omega) (by have := HB.out; have := big40; omega) H10.out.2.1 H10.out.1
  rw [cmpI_lt (show (((x) * (y)) % (z)) < (z) by have := HB.out; omega)] at EC
  go_wp2_with fail
  refine (EC).mono ?_
  rintro e w11 ⟨rfl, hb⟩
  have H11 : Hid (IntAt w11 (.slice co (digs z).length cc) (digs (z)) ∧ IntAt w11 m (quoL lu lv) ∧ IntAt w11 n (remL lu lv) ∧ IntAt w11 o1 (quoL lu lv) ∧ IntAt w11 p1 (remL lu lv) ∧ Below w.heap.size w w11) := ⟨H10.out.1.below hb, H10.out.2.2.1.below hb, H10.out.2.2.2.1.below hb, H10.out.2.2.2.2.1.below hb, H10.out.2.2.2.2.2.1.below hb, below_go H10.out.2.2.2.2.2.2 hb⟩
  clear hb H10
  clear EC
  go_wp2_with fail
  refine (sameInts_same m o1 (quoL lu lv) w11 (by have := quoL_len lu lv; omega) H11.out.2.1 H11.out.2.2.2.1).mono ?_
  rintro e w12 ⟨rfl, hb⟩
  have H12 : Hid (IntAt w12 (.slice co (digs z).length cc) (digs (z)) ∧ IntAt w12 n (remL lu lv) ∧ IntAt w12 p1 (remL lu lv) ∧ Below w.heap.size w w12) := ⟨H11.out.1.below hb, H11.out.2.2.1.below hb, H11.out.2.2.2.2.1.below hb, below_go H11.out.2.2.2.2.2 hb⟩
  clear hb H11
  go_wp2_with fail
  refine (sameInts_same n p1 (remL lu lv) w12 (by have := remL_len lu lv; omega) H12.out.2.1 H12.out.2.2.1).mono ?_
  rintro e w13 ⟨rfl, hb⟩
  have H13 : Hid (IntAt w13 (.slice co (digs z).length cc) (digs (z)) ∧ Below w.heap.size w w13) := ⟨H12.out.1.below hb, below_go H12.out.2.2.2 hb⟩
  clear hb H12
  go_wp2_with fail
  go_ret
  exact ⟨rfl, H13.out.2⟩

theorem laidOut_FnDivides : laidOutB Try.prog = true := by kernel_rfl
theorem own_FnDivides : ownKnob Try.prog.godebug = none := by kernel_rfl
set_option maxRecDepth 100000 in
theorem lifted_FnDivides (os : Os) (started : os.Started) (H : Type) (enc : TypeId × Value → H) :
    ReturnsInHanded {} Try.checked os 4 .any (Rows.fnDividesSpec.pre6 enc Try.prog Try.f4 Rows.fnDividesRow.domain false) (Rows.fnDividesSpec.post enc Try.prog Try.f4 false true false false) := by
  refine returnsInHanded_of_change (C := Try.checked) own_FnDivides started (by kernel_rfl) Try.func4
    (ChangeSpec.witness6 (enc := enc) (C := Try.checked) false ⟨#[], #[.slice none 0 0], []⟩ 8 (by kernel_rfl) (by kernel_rfl) (by kernel_rfl) (by kernel_rfl)) ?_
  intro W base args ds gs before hval0 hW hcnd _
  have hval : ∀ (j : Nat) t v, Try.f4.params[j]? = some t → args[j]? = some v → Value.okWide Try.prog W .any base t v := hval0
  have hW' := hW
  obtain ⟨p, q, hA0, hV, rfl, hfz, hnd⟩ := hW
  have hA : DataW.TrodAll enc Try.prog W 0 (fun _ => true) true Try.f4.params.toList args.toList ds p := hA0
  rw [Try.params4] at hA hval
  obtain ⟨v0, vs0, d0, ds0, p0, q0, hargs, rfl, rfl, h0, r0⟩ := trodAll_cons hA
  obtain ⟨rfl, rfl, rfl⟩ := trodAll_nil r0
  obtain rfl : args = #[v0] := by cases args; simp_all
  obtain ⟨rfl, rfl⟩ := trodVars_none hV
  obtain ⟨a0, len0, cap0, rfl⟩ := okWide_slice Try.underlying22 (hval 0 22 v0 rfl rfl)
  have k0 := h0
  have lt0 : ∀ x ∈ p0, x.block < W.heap.size := by obtain ⟨m, hm⟩ := k0; exact DataW.trod_lt m _ _ _ hm
  have w0 : len0 ≤ maxLen ∧ CodeAt W.heap.size W a0 len0 := by
    obtain ⟨fuel, hf⟩ := h0
    rcases open_ints Try.underlying22 Try.underlying5 (by kernel_rfl) hf with ⟨hcs, _⟩ | ⟨x, l, c, zs, hcs, _, hl, hm, hz, _, hcell, hwz⟩
    · simp [Value.cells] at hcs
      obtain ⟨rfl, rfl, rfl⟩ := hcs
      exact ⟨Nat.zero_le _, fun j hj => absurd hj (Nat.not_lt_zero _)⟩
    · simp [Value.cells] at hcs
      obtain ⟨rfl, rfl, rfl⟩ := hcs
      exact ⟨Nat.le_trans hl hm, codeAt_of hl (by simpa using hz) hcell hwz⟩
  clear hA0 hval0
  simp only [List.append_nil] at hW'
  refine (walk_FnDivides a0 len0 cap0 W w0).mono fun e W' ⟨he, bel⟩ => ?_
  subst he
  exact ⟨_, rfl, _, _, _, [], _, [], hW', trodAll_mk1 (shut_bool Try.underlying4 _), (trodAll_cons_mk (Below.trod laidOut_FnDivides (by kernel_rfl) (of_decide_eq_true (by kernel_rfl)) k0 bel lt0) trodAll_mk0), rfl, bel.frame _, fun h => by cases h⟩
theorem over_FnDivides : Rows.fnDividesRow.holds Try.pinned (OpenSpec.ofChange Rows.fnDividesSpec) :=
  OpenClaim.holds_of_wide 4 Try.f4 rfl rfl rfl rfl rfl rfl rfl ⟨rfl, rfl, rfl, rfl, rfl⟩ rfl rfl rfl rfl rfl (by kernel_rfl) Try.func4 (by kernel_rfl)
    (of_decide_eq_true (by kernel_rfl)) (by unfold Func.isWrapper; first | (rw [if_pos (by decide +kernel)]; kernel_rfl) | (rw [if_neg (by decide +kernel)]; exact ⟨rfl, rfl⟩))
    (fun os started H enc _ => lifted_FnDivides os started H enc)
theorem proved_FnDivides : Rows.FnDividesSaid := over_FnDivides
#print axioms proved_FnDivides
end Go.Proofs.Ytcihpaohmngodaa
