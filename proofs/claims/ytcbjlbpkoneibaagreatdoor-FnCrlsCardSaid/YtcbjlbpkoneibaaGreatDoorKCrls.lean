/-
  Texts of the proof.
-/
import Derived.Test.YtcbjlbpkoneibaaGreatDoorCards
import Derived.Test.YtcbjlbpkoneibaaGreatDoorTie
import Derived.OpenVars
import Derived.Deep.DeepHandedRow
import Derived.LaidSub
import Derived.Lay
import Derived.ChangeOld
import Derived.Deep.Cut
import Derived.ProofKit
import Derived.OpenShut
import Derived.ShutString
import Derived.Test.YtcbjlbpkoneibaaGreatDoorSR46
set_option linter.unusedVariables false
set_option linter.unusedSimpArgs false
set_option maxRecDepth 100000
namespace Go.Proofs.YtcbjlbpkoneibaaGreatDoor
open Go.ChangeShapes Go.WideShapes Go.ChangeAt Go.RowKit Der
open Go.ChangeMaps (open_string shut_string)
theorem laidOut_FnCrls : laidOutB Tryz.prog = true := by kernel_rfl
theorem own_FnCrls : ownKnob Tryz.prog.godebug = none := by kernel_rfl
theorem contract_FnCrls (H : Type) (enc : TypeId × Value -> H) (W : World) (base : Nat) (args : Array Value) (ds gs : List (DataW H)) (before : List MemPlace)
  (hval : ∀ (j : Nat) t v, Tryz.f3.params[j]? = some t -> args[j]? = some v -> Value.okWide Tryz.prog W .any base t v)
  (hW : DataW.Whole enc Tryz.prog Tryz.f3.params.toList Rows.fnCrlsSpec.vars false W args.toList ds gs before) (hL : laidMetH Tryz.prog Rows.fnCrlsRow.laid W) :
  Calls Tryz.prog 3 args W fun e W' => ∃ v, e = .returned v /\ Rows.fnCrlsSpec.post enc Tryz.prog Tryz.f3 false true false false W args v W' := by
 have hW' := hW;obtain ⟨p, q, hA0, hV, rfl, hfz, hnd⟩ := hW;have hA : DataW.TrodAll enc Tryz.prog W 0 (fun _ => true) true Tryz.f3.params.toList args.toList ds p := hA0;rw [Tryz.params3] at hA hval;obtain ⟨v0, vs0, d0, ds0, p0, q0, hargs, rfl, rfl, h0, r0⟩ := trodAll_cons hA;obtain ⟨rfl, rfl, rfl⟩ := trodAll_nil r0;obtain rfl : args = #[v0] := by cases args; simp_all
 have hV1 : DataW.TrodVars enc Tryz.prog W (fun _ => true) Rows.fnCrlsSpec.vars gs q := hV;obtain ⟨_, _, _, rfl⟩ := trodVars_three hV1;obtain ⟨a0, len0, cap0, rfl⟩ := okWide_slice Tryz.underlying22 (hval 0 22 v0 rfl rfl);have k0 := h0;have lt0 : ∀ x ∈ p0, x.block < W.heap.size := by obtain ⟨m, hm⟩ := k0; exact DataW.trod_lt m _ _ _ hm
 have w0 : len0 <= maxLen /\ CodeAt W.heap.size W a0 len0 := by
  obtain ⟨fuel, hf⟩ := h0
  rcases open_ints Tryz.underlying22 Tryz.underlying5 (by kernel_rfl) hf with ⟨hcs, _⟩ | ⟨x, l, c, zs, hcs, _, hl, hm, hz, _, hcell, hwz⟩
  ·simp [Value.cells] at hcs
   obtain ⟨rfl, rfl, rfl⟩ := hcs;exact ⟨Nat.zero_le _, fun j hj => absurd hj (Nat.not_lt_zero _)⟩
  ·simp [Value.cells] at hcs
   obtain ⟨rfl, rfl, rfl⟩ := hcs;exact ⟨Nat.le_trans hl hm, codeAt_of hl (by simpa using hz) hcell hwz⟩
 clear hA0;simp only [List.append_nil] at hW';refine (walk_FnCrls a0 len0 cap0 W w0 hL).mono fun e W' ⟨he, bel⟩ => ?_
 subst he;exact ⟨_, rfl, _, _, _, [], _, _, hW', trodAll_mk1 (shut_bool Tryz.underlying4 _), (trodAll_cons_mk (Below.trod laidOut_FnCrls (by kernel_rfl) (of_decide_eq_true (by kernel_rfl)) k0 bel lt0) trodAll_mk0), Below.trodVars laidOut_FnCrls bel (by kernel_rfl) hV, bel.frame _, fun h => by cases h⟩
theorem met_FnCrls (os : Os) : laidMet Tryz.prog Rows.fnCrlsRow.laid ((World.laidAll Tryz.prog os Rows.fnCrlsRow.laid).forCall (fun _ _ => 0) ⟨#[], #[zZ], []⟩).memory :=
 laidMet_laidAll _ (by kernel_rfl) (by kernel_rfl)
theorem reads_FnCrls (os : Os) {H : Type} (enc : TypeId × Value -> H) : (DataW.whole enc Tryz.prog ((World.laidAll Tryz.prog os Rows.fnCrlsRow.laid).forCall (fun _ _ => 0) ⟨#[], #[zZ], []⟩).memory Tryz.f3.params.toList Rows.fnCrlsSpec.vars false (#[zZ] : Array Value).toList 8).isSome = true := by kernel_rfl
theorem lifted_FnCrls (os : Os) (started : os.Started) (H : Type) (enc : TypeId × Value -> H) (F : Stop.Interp) :
  ReturnsInHanded {} Tryz.checked os 3 .any ((OpenSpec.ofChange Rows.fnCrlsSpec).preRow enc Tryz.prog Tryz.f3 Rows.fnCrlsRow.domain false Rows.fnCrlsRow.laid) (((OpenSpec.ofChange Rows.fnCrlsSpec).at F).post enc Tryz.prog Tryz.f3 false true false false) := by
 obtain ⟨x, hx⟩ := Option.isSome_iff_exists.1 (reads_FnCrls os enc);refine returnsInHanded_of_row (C := Tryz.checked) (s := OpenSpec.ofChange Rows.fnCrlsSpec) own_FnCrls started (by kernel_rfl) Tryz.func3
  (witness_row_at (enc := enc) (C := Tryz.checked) false (World.laidAll Tryz.prog os Rows.fnCrlsRow.laid) #[zZ] (World.laidAll_os _ _ _) (by kernel_rfl) (by kernel_rfl) (by kernel_rfl)
   (OpenSpec.preRow_of_cond 8 hx rfl (fun k hk => by cases hk) (by kernel_rfl) (met_FnCrls os))) ?_
 intro W base args ds gs before hval hW _ _ _ hL _ _;exact contract_FnCrls H enc W base args ds gs before hval hW hL
theorem cl1_FnCrls : (Rows.fnCrlsRow.inPlace == Tryz.pinned.checked.prog.inPlace 3) = true := by kernel_rfl
theorem cl2_FnCrls : (Rows.fnCrlsRow.unfollowed == Tryz.pinned.checked.prog.unfollowed 3) = true := by kernel_rfl
theorem cl3_FnCrls : (Rows.fnCrlsRow.recurses == Tryz.pinned.checked.prog.recurses 3) = true := by kernel_rfl
theorem cl4_FnCrls : (Rows.fnCrlsRow.named == Tryz.pinned.checked.prog.varsNamed 3) = true := by kernel_rfl
theorem cl5_FnCrls : laidOutB Tryz.pinned.checked.prog = true := by kernel_rfl
theorem cl6_FnCrls : mapsRowed Tryz.pinned.checked.prog = true := by kernel_rfl
theorem closed_FnCrls : joinedFacts Tryz.pinned.checked.prog 3 Tryz.f3 (OpenSpec.ofChange Rows.fnCrlsSpec).bare Rows.fnCrlsRow = true := by
 unfold joinedFacts;rw [cl1_FnCrls, cl2_FnCrls, cl3_FnCrls, cl4_FnCrls, cl5_FnCrls, cl6_FnCrls]
 kernel_rfl
theorem said_FnCrls : Rows.FnCrlsSaid :=
 OpenClaim.holds_of_cond 3 Tryz.f3 rfl rfl rfl rfl rfl rfl rfl ⟨rfl, rfl, rfl, rfl, rfl⟩ rfl rfl rfl rfl rfl (by kernel_rfl) Tryz.func3 closed_FnCrls
  (of_decide_eq_true (by kernel_rfl)) (by unfold Func.isWrapper; first | (rw [if_pos (by decide +kernel)]; kernel_rfl) | (rw [if_neg (by decide +kernel)]; exact ⟨rfl, rfl⟩))
  (fun os started H enc _ F => by rw [OpenClaim.pre_eq_preRow]; exact lifted_FnCrls os started H enc F)
theorem plain_FnCrls (f : FuncId) (fn : Func) (hf : Tryz.pinned.checked.prog.funcNamed Rows.fnCrlsRow.func = some f) (hfn : Tryz.pinned.checked.prog.funcs[f]? = some fn) :
  true = Tryz.pinned.checked.prog.looks [] /\ ∀ (j : Nat) t, fn.params[j]? = some t -> Tryz.pinned.checked.prog.wantsStandIn t = false := by
 obtain rfl : f = 3 := Option.some.inj ((show Tryz.prog.funcNamed Rows.fnCrlsRow.func = some 3 by kernel_rfl).symm.trans hf) |>.symm;obtain rfl : fn = Tryz.f3 := (Option.some.inj (Tryz.func3.symm.trans hfn)).symm;refine ⟨by kernel_rfl, fun j t ht => ?_⟩;rw [Tryz.params3] at ht;have hm := Array.mem_of_getElem? ht;simp only [List.mem_toArray, List.mem_cons, List.not_mem_nil, or_false] at hm;subst hm;exact (show Tryz.prog.wantsStandIn 22 = false by kernel_rfl)
theorem proved_FnCrls : Rows.FnCrlsCardSaid :=
 Claim7.holds_tied_plain_at .later [] _ _ _ _ said_FnCrls (fun _ h => by cases h) (by kernel_rfl) (fun _ h => by cases h) fnCrls_row_tie rfl ⟨rfl, rfl⟩ (by kernel_rfl) rfl plain_FnCrls (by kernel_rfl)
#print axioms proved_FnCrls
end Go.Proofs.YtcbjlbpkoneibaaGreatDoor
