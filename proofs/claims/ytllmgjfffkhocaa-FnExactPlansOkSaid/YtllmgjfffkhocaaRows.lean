/-
  No cell of these rows narrows 'for every input' (looked for: loops, veiled, ifaces, maps, wideKeys, modest, calm, conditions, laid).
  DERIVED. THE GIVEN ROWS OF THIS SEAT. 4 by the template 'for every input the law returns true; each argument reads behind the call as it read before'; 0 by the template 'total and deterministic' (their statements: YtllmgjfffkhocaaTotals.lean).
  GIVEN WITH THE SEED: the statements are not yours to turn. If you find one false, say at which input.
  Laid BY PROGRAM, IN A SANDBOX (cutbox-rows.mjs): the forced cells as the released guide's own fill.sh prints them over the translation 7b22dc064904edd6… (all of the seat's roots in one cut). By AI agents, Wed Nov 11 2026. No macro, syntax, notation, axiom, sorry.
-/
import Derived.Test.YtllmgjfffkhocaaChecked
import GoSem.Claim
import GoSem.ClaimJoined
import GoSem.ClaimMapViews
import Derived.JoinedTies
import Derived.KernelRfl
namespace Go.Proofs.Ytllmgjfffkhocaa
/- THE CELL 'sum', in the pinned program and in every row, IS THE sha256 OF THE DUMP (.gsa) THAT YtllmgjfffkhocaaProg.lean LOADS. Nothing in Lean hashes anything: it is a label: what it is worth is what the hold of that sum in a sandbox is worth. -/
noncomputable def Try.pinned : Pinned := { name := "ytllmgjfffkhocaa", sum := "7b22dc064904edd6520b113295abbc91a241610d69d5156d3bffe9b8bb068066", checked := Try.checked }
namespace Rows
def none {H : Type} : Left H := { results := [], args := [] }

/-- 'laws.FnExactPlansOk': WHATEVER THE INPUT: true; the input reads as it did. -/
def fnExactPlansOkSpec : ChangeSpec := { name := "fnExactPlansOk", fn := fun _ => fun
  | [d1, d2] => { results := [.lit (.bool true)], args := [d1, d2] }
  | _ => none }
def fnExactPlansOkRow : OpenClaim := { program := "ytllmgjfffkhocaa", sum := "7b22dc064904edd6520b113295abbc91a241610d69d5156d3bffe9b8bb068066", func := "loop.example/g00394/laws.FnExactPlansOk", spec := "fnExactPlansOk", unfollowed := true, recurses := true, apart := false }
def FnExactPlansOkSaid : Prop := fnExactPlansOkRow.holds Try.pinned (OpenSpec.ofChange fnExactPlansOkSpec)

/-- ITS FALSE NEIGHBOUR: 'it returns false'. Refute it at one input. -/
def fnExactPlansOkWrong : ChangeSpec := { name := "fnExactPlansOk", fn := fun _ => fun
  | [d1, d2] => { results := [.lit (.bool false)], args := [d1, d2] }
  | _ => none }
def FnExactPlansOkWrongFalsely : Prop := fnExactPlansOkRow.holds Try.pinned (OpenSpec.ofChange fnExactPlansOkWrong)

/-- 'laws.FnExactPlanAt': WHATEVER THE INPUT: true; the input reads as it did. -/
def fnExactPlanAtSpec : ChangeSpec := { name := "fnExactPlanAt", fn := fun _ => fun
  | [d1, d2] => { results := [.lit (.bool true)], args := [d1, d2] }
  | _ => none }
def fnExactPlanAtRow : OpenClaim := { program := "ytllmgjfffkhocaa", sum := "7b22dc064904edd6520b113295abbc91a241610d69d5156d3bffe9b8bb068066", func := "loop.example/g00394/laws.FnExactPlanAt", spec := "fnExactPlanAt", unfollowed := true, recurses := true, apart := false }
def FnExactPlanAtSaid : Prop := fnExactPlanAtRow.holds Try.pinned (OpenSpec.ofChange fnExactPlanAtSpec)

/-- ITS FALSE NEIGHBOUR: 'it returns false'. Refute it at one input. -/
def fnExactPlanAtWrong : ChangeSpec := { name := "fnExactPlanAt", fn := fun _ => fun
  | [d1, d2] => { results := [.lit (.bool false)], args := [d1, d2] }
  | _ => none }
def FnExactPlanAtWrongFalsely : Prop := fnExactPlanAtRow.holds Try.pinned (OpenSpec.ofChange fnExactPlanAtWrong)

/-- 'laws.FnExactMerged': WHATEVER THE INPUT: true; the input reads as it did. -/
def fnExactMergedSpec : ChangeSpec := { name := "fnExactMerged", fn := fun _ => fun
  | [d1, d2, d3] => { results := [.lit (.bool true)], args := [d1, d2, d3] }
  | _ => none }
def fnExactMergedRow : OpenClaim := { program := "ytllmgjfffkhocaa", sum := "7b22dc064904edd6520b113295abbc91a241610d69d5156d3bffe9b8bb068066", func := "loop.example/g00394/laws.FnExactMerged", spec := "fnExactMerged", apart := false }
def FnExactMergedSaid : Prop := fnExactMergedRow.holds Try.pinned (OpenSpec.ofChange fnExactMergedSpec)

/-- ITS FALSE NEIGHBOUR: 'it returns false'. Refute it at one input. -/
def fnExactMergedWrong : ChangeSpec := { name := "fnExactMerged", fn := fun _ => fun
  | [d1, d2, d3] => { results := [.lit (.bool false)], args := [d1, d2, d3] }
  | _ => none }
def FnExactMergedWrongFalsely : Prop := fnExactMergedRow.holds Try.pinned (OpenSpec.ofChange fnExactMergedWrong)

/-- 'laws.FnExactTrusting': WHATEVER THE INPUT: true; the input reads as it did. -/
def fnExactTrustingSpec : ChangeSpec := { name := "fnExactTrusting", fn := fun _ => fun
  | [d1, d2] => { results := [.lit (.bool true)], args := [d1, d2] }
  | _ => none }
def fnExactTrustingRow : OpenClaim := { program := "ytllmgjfffkhocaa", sum := "7b22dc064904edd6520b113295abbc91a241610d69d5156d3bffe9b8bb068066", func := "loop.example/g00394/laws.FnExactTrusting", spec := "fnExactTrusting", apart := false }
def FnExactTrustingSaid : Prop := fnExactTrustingRow.holds Try.pinned (OpenSpec.ofChange fnExactTrustingSpec)

/-- ITS FALSE NEIGHBOUR: 'it returns false'. Refute it at one input. -/
def fnExactTrustingWrong : ChangeSpec := { name := "fnExactTrusting", fn := fun _ => fun
  | [d1, d2] => { results := [.lit (.bool false)], args := [d1, d2] }
  | _ => none }
def FnExactTrustingWrongFalsely : Prop := fnExactTrustingRow.holds Try.pinned (OpenSpec.ofChange fnExactTrustingWrong)

/- THE SECOND FORM. 'bulk': how many values and letters a reading holds, each counted each time it is reached (what is shared counts as often as it is met; a slice's spare places count too). A statement '..UptoSaid' is the law's where the arguments, and the package variables that the reading takes, are together of bulk at most 1048576: NARROWER than '..Said'. Prove '..Said' where nothing that the law and all that it calls make is longer than what came in: it says more and counts as full. Else prove '..UptoSaid'. A law counts once. -/
mutual
def uptoBulk {H : Type} : DataW H → Nat
  | .lit (.string bytes) => bytes.length + 1
  | .lit _ => 1
  | .nil => 1
  | .ptr d => uptoBulk d + 1
  | .slice elems spare => uptoBulkAll elems + uptoBulkAll spare + 1
  | .agg parts => uptoBulkAll parts + 1
  | .iface _ d => uptoBulk d + 1
  | .map entries => uptoBulkEntries entries + 1
  | .held _ => 1
def uptoBulkAll {H : Type} : List (DataW H) → Nat
  | [] => 0
  | d :: r => uptoBulk d + uptoBulkAll r
def uptoBulkEntries {H : Type} : List (Lit × DataW H) → Nat
  | [] => 0
  | x :: r => uptoBulkEntry x + uptoBulkEntries r
def uptoBulkEntry {H : Type} : Lit × DataW H → Nat
  | (.string bytes, d) => bytes.length + uptoBulk d + 1
  | (_, d) => uptoBulk d + 1
 end
def uptoSmall : (H : Type) → List (DataW H) → Bool := fun _ ds => decide (uptoBulkAll ds ≤ 1048576)
def OpenSpec.upto (s : _root_.Go.ChangeSpec) : _root_.Go.OpenSpec := { _root_.Go.OpenSpec.ofChange s with cond := some uptoSmall }

/-- 'laws.FnExactPlansOk', WHERE WHAT IT READS IS OF BULK AT MOST 1048576: true; the input reads as it did. -/
def fnExactPlansOkUptoRow : OpenClaim := { program := "ytllmgjfffkhocaa", sum := "7b22dc064904edd6520b113295abbc91a241610d69d5156d3bffe9b8bb068066", func := "loop.example/g00394/laws.FnExactPlansOk", spec := "fnExactPlansOk", unfollowed := true, recurses := true, apart := false, narrowed := true }
def FnExactPlansOkUptoSaid : Prop := fnExactPlansOkUptoRow.holds Try.pinned (OpenSpec.upto fnExactPlansOkSpec)

/-- 'laws.FnExactPlanAt', WHERE WHAT IT READS IS OF BULK AT MOST 1048576: true; the input reads as it did. -/
def fnExactPlanAtUptoRow : OpenClaim := { program := "ytllmgjfffkhocaa", sum := "7b22dc064904edd6520b113295abbc91a241610d69d5156d3bffe9b8bb068066", func := "loop.example/g00394/laws.FnExactPlanAt", spec := "fnExactPlanAt", unfollowed := true, recurses := true, apart := false, narrowed := true }
def FnExactPlanAtUptoSaid : Prop := fnExactPlanAtUptoRow.holds Try.pinned (OpenSpec.upto fnExactPlanAtSpec)

/-- 'laws.FnExactMerged', WHERE WHAT IT READS IS OF BULK AT MOST 1048576: true; the input reads as it did. -/
def fnExactMergedUptoRow : OpenClaim := { program := "ytllmgjfffkhocaa", sum := "7b22dc064904edd6520b113295abbc91a241610d69d5156d3bffe9b8bb068066", func := "loop.example/g00394/laws.FnExactMerged", spec := "fnExactMerged", apart := false, narrowed := true }
def FnExactMergedUptoSaid : Prop := fnExactMergedUptoRow.holds Try.pinned (OpenSpec.upto fnExactMergedSpec)

/-- 'laws.FnExactTrusting', WHERE WHAT IT READS IS OF BULK AT MOST 1048576: true; the input reads as it did. -/
def fnExactTrustingUptoRow : OpenClaim := { program := "ytllmgjfffkhocaa", sum := "7b22dc064904edd6520b113295abbc91a241610d69d5156d3bffe9b8bb068066", func := "loop.example/g00394/laws.FnExactTrusting", spec := "fnExactTrusting", apart := false, narrowed := true }
def FnExactTrustingUptoSaid : Prop := fnExactTrustingUptoRow.holds Try.pinned (OpenSpec.upto fnExactTrustingSpec)

end Rows
end Go.Proofs.Ytllmgjfffkhocaa
