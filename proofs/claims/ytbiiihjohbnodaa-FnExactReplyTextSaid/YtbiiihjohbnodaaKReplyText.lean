/-
  Texts of the proof.
-/
import Derived.Test.YtbiiihjohbnodaaRows
import Derived.Deep.RegionHeld3
import Derived.ProofKit
import Derived.OpenShut
import Derived.ShutString
import Derived.Test.YtbiiihjohbnodaaMRT18
import Derived.Test.YtbiiihjohbnodaaMRT20
set_option maxRecDepth 100000
namespace Go.Proofs.Ytbiiihjohbnodaa
open Go.ChangeShapes Go.WideShapes Go.ChangeAt Go.RowKit
open Go.ChangeMaps (open_string shut_string)
set_option linter.unusedVariables false
theorem walk_FnExactReplyText (a : Array Value) (w : World) (h : ∃ c, ArgRp w.heap.size w (.agg a) c /\ WdRp c) : Calls Try.prog 8 #[.agg a] w fun e w' => e = .returned (.bool true) /\ Below w.heap.size w w' := walkRT (fun c => (⟨((rtxt c).getD []).toArray⟩ : ByteArray)) (fun c => (rtxt c).isSome) (fun c v w h1 h2 h3 => specReplyText_of l15Item_any c v w h1 h2 h3) implReplyText_any a w h
theorem laidOut_FnExactReplyText : laidOutB Try.prog = true := by kernel_rfl
theorem own_FnExactReplyText : ownKnob Try.prog.godebug = none := by kernel_rfl
theorem lifted_FnExactReplyText (os : Os) (started : os.Started) (H : Type) (enc : TypeId × Value -> H) :
  ReturnsInHanded {} Try.checked os 8 .any (Rows.fnExactReplyTextSpec.pre6 enc Try.prog Try.f8 Rows.fnExactReplyTextRow.domain false) (Rows.fnExactReplyTextSpec.post enc Try.prog Try.f8 false true false false) := by
 refine returnsInHanded_of_change (C := Try.checked) own_FnExactReplyText started (by kernel_rfl) Try.func8
  (ChangeSpec.witness6 (enc := enc) (C := Try.checked) false ⟨#[], #[.agg #[.string ⟨#[]⟩, .int .i64 0, .int .i64 0, .int .i64 0, .int .i64 0, .int .i64 0, .slice none 0 0, .string ⟨#[]⟩]], []⟩ 8 (by kernel_rfl) (by kernel_rfl) (by kernel_rfl) (by kernel_rfl)) ?_
 intro W base args ds gs before hval0 hW hcnd _
 have hval : ∀ (j : Nat) t v, Try.f8.params[j]? = some t -> args[j]? = some v -> Value.okWide Try.prog W .any base t v := hval0
 have hW' := hW
 obtain ⟨p, q, hA0, hV, rfl, hfz, hnd⟩ := hW
 have hA : DataW.TrodAll enc Try.prog W 0 (fun _ => true) true Try.f8.params.toList args.toList ds p := hA0
 rw [Try.params8] at hA hval
 obtain ⟨v0, vs0, d0, ds0, p0, q0, hargs, rfl, rfl, h0, r0⟩ := trodAll_cons hA
 obtain ⟨rfl, rfl, rfl⟩ := trodAll_nil r0
 obtain rfl : args = #[v0] := by cases args; simp_all
 obtain ⟨rfl, rfl⟩ := trodVars_none hV
 obtain ⟨a0, rfl, ca0⟩ := okWide_struct Try.underlying39 (hval 0 39 v0 rfl rfl)
 have k0 := h0
 have lt0 : ∀ x ∈ p0, x.block < W.heap.size := by obtain ⟨m, hm⟩ := k0; exact DataW.trod_lt m _ _ _ hm
 have w0 : ∃ c : Rp, ArgRp W.heap.size W (.agg a0) c /\ WdRp c := by
  obtain ⟨fuel, hf⟩ := h0
  exact reply_of_trod hf
 clear hA0 hval0
 simp only [List.append_nil] at hW'
 refine (walk_FnExactReplyText a0 W w0).mono fun e W' ⟨he, bel⟩ => ?_
 subst he
 exact ⟨_, rfl, _, _, _, [], _, [], hW', trodAll_mk1 (shut_bool Try.underlying4 _), (trodAll_cons_mk (Below.trod laidOut_FnExactReplyText (by kernel_rfl) (of_decide_eq_true (by kernel_rfl)) k0 bel lt0) trodAll_mk0), rfl, bel.frame _, fun h => by cases h⟩
theorem over_FnExactReplyText : Rows.fnExactReplyTextRow.holds Try.pinned (OpenSpec.ofChange Rows.fnExactReplyTextSpec) :=
 OpenClaim.holds_of_wide 8 Try.f8 rfl rfl rfl rfl rfl rfl rfl ⟨rfl, rfl, rfl, rfl, rfl⟩ rfl rfl rfl rfl rfl (by kernel_rfl) Try.func8 (by kernel_rfl)
  (of_decide_eq_true (by kernel_rfl)) (by unfold Func.isWrapper; first | (rw [if_pos (by decide +kernel)]; kernel_rfl) | (rw [if_neg (by decide +kernel)]; exact ⟨rfl, rfl⟩))
  (fun os started H enc _ => lifted_FnExactReplyText os started H enc)
theorem proved_FnExactReplyText : Rows.FnExactReplyTextSaid := over_FnExactReplyText
#print axioms proved_FnExactReplyText
end Go.Proofs.Ytbiiihjohbnodaa
