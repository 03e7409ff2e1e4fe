/-
  Proves FnSignsCardSaid: whatever is drawn, what the program's SignWith signs for a house is right by its SigOk with that house's key, by what all may know it is the padded text again, both are of the length of a key, a byte more is not right, and what its SigOk, SignWith, PublicAt and SecretAt answer at what is drawn is what the specification answers; what the program's own variables hold is tied by the given tie.
-/
import Derived.Test.YtoildgknpfehoaaGreatDoorCards
import Derived.Test.YtoildgknpfehoaaGreatDoorTie
import Derived.OpenVars
import Derived.Deep.DeepHandedRow
import Derived.LaidSub
import Derived.Lay
import Derived.ChangeOld
import Derived.ProofKit
import Derived.OpenShut
import Derived.ShutString
import Derived.Test.YtoildgknpfehoaaGreatDoorM39
namespace Go.Proofs.YtoildgknpfehoaaGreatDoor
open Go.ChangeShapes Go.WideShapes Go.ChangeAt Go.RowKit
open Go.ChangeMaps (open_string shut_string)
set_option linter.unusedVariables false

theorem list_FnSigns : Rows.fnSignsRow.laid = [("loop.example/g00394/impl.roundNumbers", Lib.tabData .u32 (keysN.map fun n => ((n : Nat) : Int))), ("loop.example/g00394/impl.startNumbers", Lib.tabData .u32 firstI), ("loop.example/g00394/impl.houses", housesD)] := by kernel_rfl
set_option maxHeartbeats 6400000 in
set_option maxRecDepth 100000 in
theorem walk_FnSigns (a0 : Option Addr) (len0 cap0 : Nat) (w : World) (h0 : len0 ≤ maxLen ∧ CodeAt w.heap.size w a0 len0) (hL : laidMetH Tryz.prog Rows.fnSignsRow.laid w) :
    Calls Tryz.prog 3 #[.slice a0 len0 cap0] w fun e w' => e = .returned (.bool true) ∧ Below w.heap.size w w' := by
  have hkk : HousesOk w ∧ KeysOk w ∧ StartOk w := all_of (by rw [list_FnSigns] at hL; exact hL)
  have HK : Hid (∀ w', Below w.heap.size w w' → HousesOk w' ∧ KeysOk w' ∧ StartOk w') := fun w' hb => ⟨housesBelow hkk.1 w' hb, keysBelow hkk.2.1 w' hb, startBelow hkk.2.2 w' hb⟩
  clear hL hkk
  have hm := h0.1
  unfold maxLen at hm
  have HC : Hid (CodeAt w.heap.size w a0 len0) := h0.2
  clear h0
  by_cases big : 1048576 < len0
  · have bg : (1048576 : Int) < (len0 : Int) := by omega
    go_enter Tryz.func3, Tryz.ntmps3
    go_wp2_with (go_at_call 4; go_in)
    go_ret
    exact ⟨rfl, Below.refl _ _⟩
  have ng : ¬ (1048576 : Int) < (len0 : Int) := by omega
  go_enter Tryz.func3, Tryz.ntmps3
  go_wp2_with (go_at_call 4; go_in)
  refine (drawPlaces_any w.heap.size w a0 len0 cap0 (by omega) (Nat.le_refl _) HC.out).mono ?_
  rintro e w1 ⟨g, cp, zs, rfl, hg0, hg1, hzl, hzb, hzc, hb⟩
  have hz0 : 0 ≤ zs[0] ∧ zs[0] < 10000 := hzb _ (List.getElem_mem (by omega))
  have hc0 := hzc 0 (by omega)
  obtain ⟨z0, hze0⟩ : ∃ z0, zs[0] = z0 := ⟨_, rfl⟩
  rw [hze0] at hz0 hc0
  have q0 : z0.tmod 6 = z0 % 6 := Int.tmod_eq_emod_of_nonneg hz0.1
  obtain ⟨n, hn⟩ : ∃ n : Nat, z0 % 6 = (n : Int) := ⟨(z0 % 6).toNat, by omega⟩
  rw [hn] at q0
  have hn6 : n < 6 := by omega
  have H1 : Hid (Below w.heap.size w w1) := hb
  clear hb hze0 hzb hzc hn hz0 hzl
  go_wp2_with fail
  refine (drawTextOf_any w.heap.size w1 a0 len0 cap0 (by omega) H1.out.size (HC.out.below H1.out)).mono ?_
  rintro e w2 ⟨t, rfl, ht, hb⟩
  have H2 : Hid (Below w.heap.size w w2) := below_on H1.out hb
  clear hb H1 hc0 q0 hg0 hg1
  go_wp2_with fail
  refine (implSign_any (n : Int) t w2 (by omega) (by omega) (HK.out _ H2.out).1 (HK.out _ H2.out).2.1 (HK.out _ H2.out).2.2).mono ?_
  rintro e w3 ⟨rfl, hb⟩
  have H3 : Hid (Below w.heap.size w w3) := below_on H2.out hb
  clear hb H2
  go_wp2_with fail
  refine (implPublic_any (n : Int) w3 (by omega) (HK.out _ H3.out).1).mono ?_
  rintro e w4 ⟨rfl, hb⟩
  have H4 : Hid (Below w.heap.size w w4) := below_on H3.out hb
  clear hb H3
  have HS : Hid (sokB (pubB (n : Int)) t (sigB (n : Int) t) = true ∧ pmL (readL (sigB (n : Int) t)) (digs 65537) (readL (pubB (n : Int))) = readL (pddB t) ∧ sokB (pubB (n : Int)) t (sigB (n : Int) t ++ ⟨#[120]⟩) = false) := ⟨sok_right hn6 t, open_is hn6 t, sok_longer hn6 t _ rfl⟩
  have hsz1 : (sigB (n : Int) t).size = 15 := sigB_size t hn6
  have hsz2 : (pubB (n : Int)).size = 15 := pubB_size hn6
  generalize sigB (n : Int) t = G at *
  generalize pubB (n : Int) = P at *
  have EG := fun W => implReadL_any G W (by omega)
  go_wp2_with fail
  refine (EG w4).mono ?_
  clear EG
  rintro e w5 ⟨v1, rfl, ho, hb⟩
  have H5 : Hid (IntAt w5 v1 (readL G) ∧ Below w.heap.size w w5) := ⟨ho.at, below_on H4.out hb⟩
  clear ho hb H4
  go_wp2_with fail
  refine (implOf_any 65537 w5 (by decide)).mono ?_
  rintro e w6 ⟨v2, rfl, ho, hb⟩
  have H6 : Hid (IntAt w6 v1 (readL G) ∧ IntAt w6 v2 (digs 65537) ∧ Below w.heap.size w w6) := ⟨H5.out.1.below hb, ho.at, below_on H5.out.2 hb⟩
  clear ho hb H5
  go_wp2_with fail
  refine (implReadL_any P w6 (by omega)).mono ?_
  rintro e w7 ⟨v3, rfl, ho, hb⟩
  have H7 : Hid (IntAt w7 v1 (readL G) ∧ IntAt w7 v2 (digs 65537) ∧ IntAt w7 v3 (readL P) ∧ Below w.heap.size w w7) := ⟨H6.out.1.below hb, H6.out.2.1.below hb, ho.at, below_on H6.out.2.2 hb⟩
  clear ho hb H6
  go_wp2_with fail
  refine (implPowMod_any v1 v2 v3 _ _ _ w7 (by have := readL_len2 G; omega) exp_ok.1 (by have := readL_len2 P; omega) (readL_wd _) exp_ok.2 (readL_wd _) H7.out.1 H7.out.2.1 H7.out.2.2.1).mono ?_
  rintro e w8 ⟨op, rfl, ho, hb⟩
  have H8 : Hid (IntAt w8 op (readL (pddB t)) ∧ Below w.heap.size w w8) := ⟨by rw [← HS.out.2.1]; exact ho.at, below_on H7.out.2.2.2 hb⟩
  clear ho hb H7
  go_wp2_with fail
  refine (drawSigOk_any w.heap.size w8 a0 len0 cap0 (by omega) H8.out.2.size (HC.out.below H8.out.2)).mono ?_
  rintro e w9 ⟨k, x, y, hk, hx, hy, rfl, hb⟩
  have H9 : Hid (IntAt w9 op (readL (pddB t)) ∧ Below w.heap.size w w9) := ⟨H8.out.1.below hb, below_on H8.out.2 hb⟩
  clear hb H8
  go_wp2_with fail
  refine (drawSignWith_any w.heap.size w9 a0 len0 cap0 (by omega) H9.out.2.size (HC.out.below H9.out.2)).mono ?_
  rintro e w10 ⟨m, u, hm0, hm1, hu, rfl, hb⟩
  have H10 : Hid (IntAt w10 op (readL (pddB t)) ∧ Below w.heap.size w w10) := ⟨H9.out.1.below hb, below_on H9.out.2 hb⟩
  clear hb H9
  go_wp2_with fail
  refine (drawPublicAt_any w.heap.size w10 a0 len0 cap0 (by omega) H10.out.2.size (HC.out.below H10.out.2)).mono ?_
  rintro e w11 ⟨o, ho0, ho1, rfl, hb⟩
  have H11 : Hid (IntAt w11 op (readL (pddB t)) ∧ Below w.heap.size w w11) := ⟨H10.out.1.below hb, below_on H10.out.2 hb⟩
  clear hb H10
  have HX : Hid ((G ++ (⟨#[120]⟩ : ByteArray)).size ≤ 1048576) := by
    show (G ++ (⟨#[120]⟩ : ByteArray)).size ≤ 1048576
    rw [ByteArray.size_append, hsz1]
    decide
  have hz1 : (G.size : Int) = 15 := by omega
  have hz2 : (P.size : Int) = 15 := by omega
  go_wp2_with fail
  have EE := implSok_any P t G w11 (by omega) (by omega) (by omega) (HK.out _ H11.out.2).2.1 (HK.out _ H11.out.2).2.2
  rw [HS.out.1] at EE
  refine EE.mono ?_
  clear EE
  rintro e w12 ⟨rfl, hb⟩
  have H12 : Hid (IntAt w12 op (readL (pddB t)) ∧ Below w.heap.size w w12) := ⟨H11.out.1.below hb, below_on H11.out.2 hb⟩
  clear hb H11
  go_wp2_with fail
  refine (implPadded_any t w12 (by omega) (HK.out _ H12.out.2).2.1 (HK.out _ H12.out.2).2.2).mono ?_
  rintro e w13 ⟨rfl, hb⟩
  have H13 : Hid (IntAt w13 op (readL (pddB t)) ∧ Below w.heap.size w w13) := ⟨H12.out.1.below hb, below_on H12.out.2 hb⟩
  clear hb H12
  go_wp2_with fail
  refine (implReadL_any (pddB t) w13 (by rw [pddB_size]; omega)).mono ?_
  rintro e w14 ⟨v4, rfl, ho, hb⟩
  have H14 : Hid (IntAt w14 op (readL (pddB t)) ∧ IntAt w14 v4 (readL (pddB t)) ∧ Below w.heap.size w w14) := ⟨H13.out.1.below hb, ho.at, below_on H13.out.2 hb⟩
  clear ho hb H13
  go_wp2_with fail
  refine (sameInts_same op v4 _ w14 (by have := readL_len2 (pddB t); omega) H14.out.1 H14.out.2.1).mono ?_
  rintro e w15 ⟨rfl, hb⟩
  have H15 : Hid (Below w.heap.size w w15) := below_on H14.out.2.2 hb
  clear hb H14
  go_wp2_with fail
  refine (implSok_any k x y w15 (by omega) (by omega) (by omega) (HK.out _ H15.out).2.1 (HK.out _ H15.out).2.2).mono ?_
  rintro e w16 ⟨rfl, hb⟩
  have H16 : Hid (Below w.heap.size w w16) := below_on H15.out hb
  clear hb H15
  go_wp2_with fail
  refine (specSok_any k x y w16 (by omega) (by omega) (by omega)).mono ?_
  rintro e w17 ⟨rfl, hb⟩
  have H17 : Hid (Below w.heap.size w w17) := below_on H16.out hb
  clear hb H16
  generalize sokB k x y = bb at *
  go_wp2_with fail
  refine (implSign_any m u w17 (by omega) ⟨hm0, hm1⟩ (HK.out _ H17.out).1 (HK.out _ H17.out).2.1 (HK.out _ H17.out).2.2).mono ?_
  rintro e w18 ⟨rfl, hb⟩
  have H18 : Hid (Below w.heap.size w w18) := below_on H17.out hb
  clear hb H17
  go_wp2_with fail
  refine (specSign_any m u w18 (by omega) ⟨hm0, hm1⟩).mono ?_
  rintro e w19 ⟨rfl, hb⟩
  have H19 : Hid (Below w.heap.size w w19) := below_on H18.out hb
  clear hb H18
  generalize sigB m u = SS at *
  go_wp2_with fail
  refine (implPublic_any o w19 ⟨ho0, ho1⟩ (HK.out _ H19.out).1).mono ?_
  rintro e w20 ⟨rfl, hb⟩
  have H20 : Hid (Below w.heap.size w w20) := below_on H19.out hb
  clear hb H19
  go_wp2_with fail
  refine (specPublic_any o w20 ⟨ho0, ho1⟩).mono ?_
  rintro e w21 ⟨rfl, hb⟩
  have H21 : Hid (Below w.heap.size w w21) := below_on H20.out hb
  clear hb H20
  generalize pubB o = PP at *
  go_wp2_with fail
  refine (implSecret_any o w21 ⟨ho0, ho1⟩ (HK.out _ H21.out).1).mono ?_
  rintro e w22 ⟨v5, rfl, ho, hb⟩
  have H22 : Hid (IntAt w22 v5 (secL o) ∧ Below w.heap.size w w22) := ⟨ho.at, below_on H21.out hb⟩
  clear ho hb H21
  go_wp2_with fail
  refine (specSecret_any o w22 ⟨ho0, ho1⟩).mono ?_
  rintro e w23 ⟨v6, rfl, ho, hb⟩
  have H23 : Hid (IntAt w23 v5 (secL o) ∧ IntAt w23 v6 (secL o) ∧ Below w.heap.size w w23) := ⟨H22.out.1.below hb, ho.at, below_on H22.out.2 hb⟩
  clear ho hb H22
  go_wp2_with fail
  refine (sameInts_same v5 v6 _ w23 (by have := secL_len o; omega) H23.out.1 H23.out.2.1).mono ?_
  rintro e w24 ⟨rfl, hb⟩
  have H24 : Hid (Below w.heap.size w w24) := below_on H23.out.2.2 hb
  clear hb H23
  go_wp2_with fail
  have EE := implSok_any P t (G ++ ⟨#[120]⟩) w24 (by omega) (by omega) HX.out (HK.out _ H24.out).2.1 (HK.out _ H24.out).2.2
  rw [HS.out.2.2] at EE
  refine EE.mono ?_
  clear EE
  rintro e w25 ⟨rfl, hb⟩
  have H25 : Hid (Below w.heap.size w w25) := below_on H24.out hb
  clear hb H24
  go_wp2_with fail
  refine (implPadded_any t w25 (by omega) (HK.out _ H25.out).2.1 (HK.out _ H25.out).2.2).mono ?_
  rintro e w26 ⟨rfl, hb⟩
  have H26 : Hid (Below w.heap.size w w26) := below_on H25.out hb
  have hpz : ((pddB t).size : Int) = 15 := by rw [pddB_size]; rfl
  clear hb H25
  go_wp2_with fail
  go_ret
  exact ⟨rfl, H26.out⟩

theorem laidOut_FnSigns : laidOutB Tryz.prog = true := by kernel_rfl
theorem own_FnSigns : ownKnob Tryz.prog.godebug = none := by kernel_rfl
set_option maxRecDepth 100000 in
theorem contract_FnSigns (H : Type) (enc : TypeId × Value → H) (W : World) (base : Nat) (args : Array Value) (ds gs : List (DataW H)) (before : List MemPlace)
    (hval : ∀ (j : Nat) t v, Tryz.f3.params[j]? = some t → args[j]? = some v → Value.okWide Tryz.prog W .any base t v)
    (hW : DataW.Whole enc Tryz.prog Tryz.f3.params.toList Rows.fnSignsSpec.vars false W args.toList ds gs before) (hL : laidMetH Tryz.prog Rows.fnSignsRow.laid W) :
    Calls Tryz.prog 3 args W fun e W' => ∃ v, e = .returned v ∧ Rows.fnSignsSpec.post enc Tryz.prog Tryz.f3 false true false false W args v W' := by
  have hW' := hW
  obtain ⟨p, q, hA0, hV, rfl, hfz, hnd⟩ := hW
  have hA : DataW.TrodAll enc Tryz.prog W 0 (fun _ => true) true Tryz.f3.params.toList args.toList ds p := hA0
  rw [Tryz.params3] at hA hval
  obtain ⟨v0, vs0, d0, ds0, p0, q0, hargs, rfl, rfl, h0, r0⟩ := trodAll_cons hA
  obtain ⟨rfl, rfl, rfl⟩ := trodAll_nil r0
  obtain rfl : args = #[v0] := by cases args; simp_all
  have hV1 : DataW.TrodVars enc Tryz.prog W (fun _ => true) Rows.fnSignsSpec.vars gs q := hV
  obtain ⟨_, _, _, rfl⟩ := trodVars_three hV1
  obtain ⟨a0, len0, cap0, rfl⟩ := okWide_slice Tryz.underlying22 (hval 0 22 v0 rfl rfl)
  have k0 := h0
  have lt0 : ∀ x ∈ p0, x.block < W.heap.size := by obtain ⟨m, hm⟩ := k0; exact DataW.trod_lt m _ _ _ hm
  have w0 : len0 ≤ maxLen ∧ CodeAt W.heap.size W a0 len0 := by
    obtain ⟨fuel, hf⟩ := h0
    rcases open_ints Tryz.underlying22 Tryz.underlying5 (by kernel_rfl) hf with ⟨hcs, _⟩ | ⟨x, l, c, zs, hcs, _, hl, hm, hz, _, hcell, hwz⟩
    · simp [Value.cells] at hcs
      obtain ⟨rfl, rfl, rfl⟩ := hcs
      exact ⟨Nat.zero_le _, fun j hj => absurd hj (Nat.not_lt_zero _)⟩
    · simp [Value.cells] at hcs
      obtain ⟨rfl, rfl, rfl⟩ := hcs
      exact ⟨Nat.le_trans hl hm, codeAt_of hl (by simpa using hz) hcell hwz⟩
  clear hA0
  simp only [List.append_nil] at hW'
  refine (walk_FnSigns a0 len0 cap0 W w0 hL).mono fun e W' ⟨he, bel⟩ => ?_
  subst he
  exact ⟨_, rfl, _, _, _, [], _, _, hW', trodAll_mk1 (shut_bool Tryz.underlying4 _), (trodAll_cons_mk (Below.trod laidOut_FnSigns (by kernel_rfl) (of_decide_eq_true (by kernel_rfl)) k0 bel lt0) trodAll_mk0), Below.trodVars laidOut_FnSigns bel (by kernel_rfl) hV, bel.frame _, fun h => by cases h⟩
theorem met_FnSigns (os : Os) : laidMet Tryz.prog Rows.fnSignsRow.laid ((World.laidAll Tryz.prog os Rows.fnSignsRow.laid).forCall (fun _ _ => 0) ⟨#[], #[.slice none 0 0], []⟩).memory :=
  laidMet_laidAll _ (by kernel_rfl) (by kernel_rfl)
theorem reads_FnSigns (os : Os) {H : Type} (enc : TypeId × Value → H) : (DataW.whole enc Tryz.prog ((World.laidAll Tryz.prog os Rows.fnSignsRow.laid).forCall (fun _ _ => 0) ⟨#[], #[.slice none 0 0], []⟩).memory Tryz.f3.params.toList Rows.fnSignsSpec.vars false (#[.slice none 0 0] : Array Value).toList 8).isSome = true := by kernel_rfl
set_option maxRecDepth 100000 in
theorem lifted_FnSigns (os : Os) (started : os.Started) (H : Type) (enc : TypeId × Value → H) (F : Stop.Interp) :
    ReturnsInHanded {} Tryz.checked os 3 .any ((OpenSpec.ofChange Rows.fnSignsSpec).preRow enc Tryz.prog Tryz.f3 Rows.fnSignsRow.domain false Rows.fnSignsRow.laid) (((OpenSpec.ofChange Rows.fnSignsSpec).at F).post enc Tryz.prog Tryz.f3 false true false false) := by
  obtain ⟨x, hx⟩ := Option.isSome_iff_exists.1 (reads_FnSigns os enc)
  refine returnsInHanded_of_row (C := Tryz.checked) (s := OpenSpec.ofChange Rows.fnSignsSpec) own_FnSigns started (by kernel_rfl) Tryz.func3
    (witness_row_at (enc := enc) (C := Tryz.checked) false (World.laidAll Tryz.prog os Rows.fnSignsRow.laid) #[.slice none 0 0] (World.laidAll_os _ _ _) (by kernel_rfl) (by kernel_rfl) (by kernel_rfl)
      (OpenSpec.preRow_of_cond 8 hx rfl (fun k hk => by cases hk) (by kernel_rfl) (met_FnSigns os))) ?_
  intro W base args ds gs before hval hW _ _ _ hL _ _
  exact contract_FnSigns H enc W base args ds gs before hval hW hL
theorem said_FnSigns : Rows.FnSignsSaid :=
  OpenClaim.holds_of_cond 3 Tryz.f3 rfl rfl rfl rfl rfl rfl rfl ⟨rfl, rfl, rfl, rfl, rfl⟩ rfl rfl rfl rfl rfl (by kernel_rfl) Tryz.func3 (by kernel_rfl)
    (of_decide_eq_true (by kernel_rfl)) (by unfold Func.isWrapper; first | (rw [if_pos (by decide +kernel)]; kernel_rfl) | (rw [if_neg (by decide +kernel)]; exact ⟨rfl, rfl⟩))
    (fun os started H enc _ F => by rw [OpenClaim.pre_eq_preRow]; exact lifted_FnSigns os started H enc F)
theorem plain_FnSigns (f : FuncId) (fn : Func) (hf : Tryz.pinned.checked.prog.funcNamed Rows.fnSignsRow.func = some f) (hfn : Tryz.pinned.checked.prog.funcs[f]? = some fn) :
    false = Tryz.pinned.checked.prog.looks [] ∧ ∀ (j : Nat) t, fn.params[j]? = some t → Tryz.pinned.checked.prog.wantsStandIn t = false := by
  obtain rfl : f = 3 := Option.some.inj ((show Tryz.prog.funcNamed Rows.fnSignsRow.func = some 3 by kernel_rfl).symm.trans hf) |>.symm
  obtain rfl : fn = Tryz.f3 := (Option.some.inj (Tryz.func3.symm.trans hfn)).symm
  refine ⟨by kernel_rfl, fun j t ht => ?_⟩
  rw [Tryz.params3] at ht
  have hm := Array.mem_of_getElem? ht
  simp only [List.mem_toArray, List.mem_cons, List.not_mem_nil, or_false] at hm
  subst hm
  exact (show Tryz.prog.wantsStandIn 22 = false by kernel_rfl)
theorem proved_FnSigns : Rows.FnSignsCardSaid :=
  Claim7.holds_tied_plain_at .later [] _ _ _ _ said_FnSigns (fun _ h => by cases h) (by kernel_rfl) (fun _ h => by cases h) fnSigns_row_tie rfl ⟨rfl, rfl⟩ (by kernel_rfl) rfl plain_FnSigns (by kernel_rfl)
#print axioms proved_FnSigns
end Go.Proofs.YtoildgknpfehoaaGreatDoor
