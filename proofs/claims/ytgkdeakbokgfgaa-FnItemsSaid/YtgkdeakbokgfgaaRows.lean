/-
  NARROWER THAN 'FOR EVERY INPUT', by the rows' own cells (each row's printed sentence says how): FnExactSameItem: loops.
  DERIVED. THE GIVEN ROWS OF THIS SEAT. 9 by the template 'for every input the law returns true; each argument reads behind the call as it read before'; 0 by the template 'total and deterministic' (their statements: YtgkdeakbokgfgaaTotals.lean).
  GIVEN WITH THE SEED: the statements are not yours to turn. If you find one false, say at which input.
  Laid BY PROGRAM, IN A SANDBOX (cutbox-rows.mjs): the forced cells as the released guide's own fill.sh prints them over the translation e9371e2bd9790ecd… (all of the seat's roots in one cut). By AI agents, Wed Nov 11 2026. No macro, syntax, notation, axiom, sorry.
-/
import Derived.Test.YtgkdeakbokgfgaaChecked
import GoSem.Claim
import GoSem.ClaimJoined
import GoSem.ClaimMapViews
import Derived.JoinedTies
import Derived.KernelRfl
namespace Go.Proofs.Ytgkdeakbokgfgaa
/- THE CELL 'sum', in the pinned program and in every row, IS THE sha256 OF THE DUMP (.gsa) THAT YtgkdeakbokgfgaaProg.lean LOADS. Nothing in Lean hashes anything: it is a label: what it is worth is what the hold of that sum in a sandbox is worth. -/
noncomputable def Try.pinned : Pinned := { name := "ytgkdeakbokgfgaa", sum := "e9371e2bd9790ecd932aee87c657a0840bf20d9adeb557e814e0eac91f0ee57f", checked := Try.checked }
namespace Rows
def none {H : Type} : Left H := { results := [], args := [] }

/-- 'laws.FnExactNameOk': WHATEVER THE INPUT: true; the input reads as it did. -/
def fnExactNameOkSpec : ChangeSpec := { name := "fnExactNameOk", fn := fun _ => fun
  | [d] => { results := [.lit (.bool true)], args := [d] }
  | _ => none }
def fnExactNameOkRow : OpenClaim := { program := "ytgkdeakbokgfgaa", sum := "e9371e2bd9790ecd932aee87c657a0840bf20d9adeb557e814e0eac91f0ee57f", func := "loop.example/g00394/laws.FnExactNameOk", spec := "fnExactNameOk", plainKeys := false, apart := false }
def FnExactNameOkSaid : Prop := fnExactNameOkRow.holds Try.pinned (OpenSpec.ofChange fnExactNameOkSpec)

/-- ITS FALSE NEIGHBOUR: 'it returns false'. Refute it at one input. -/
def fnExactNameOkWrong : ChangeSpec := { name := "fnExactNameOk", fn := fun _ => fun
  | [d] => { results := [.lit (.bool false)], args := [d] }
  | _ => none }
def FnExactNameOkWrongFalsely : Prop := fnExactNameOkRow.holds Try.pinned (OpenSpec.ofChange fnExactNameOkWrong)

/-- 'laws.FnExactUnder': WHATEVER THE INPUT: true; the input reads as it did. -/
def fnExactUnderSpec : ChangeSpec := { name := "fnExactUnder", fn := fun _ => fun
  | [d1, d2] => { results := [.lit (.bool true)], args := [d1, d2] }
  | _ => none }
def fnExactUnderRow : OpenClaim := { program := "ytgkdeakbokgfgaa", sum := "e9371e2bd9790ecd932aee87c657a0840bf20d9adeb557e814e0eac91f0ee57f", func := "loop.example/g00394/laws.FnExactUnder", spec := "fnExactUnder", plainKeys := false, apart := false }
def FnExactUnderSaid : Prop := fnExactUnderRow.holds Try.pinned (OpenSpec.ofChange fnExactUnderSpec)

/-- ITS FALSE NEIGHBOUR: 'it returns false'. Refute it at one input. -/
def fnExactUnderWrong : ChangeSpec := { name := "fnExactUnder", fn := fun _ => fun
  | [d1, d2] => { results := [.lit (.bool false)], args := [d1, d2] }
  | _ => none }
def FnExactUnderWrongFalsely : Prop := fnExactUnderRow.holds Try.pinned (OpenSpec.ofChange fnExactUnderWrong)

/-- 'laws.FnExactNamesOk': WHATEVER THE INPUT: true; the input reads as it did. -/
def fnExactNamesOkSpec : ChangeSpec := { name := "fnExactNamesOk", fn := fun _ => fun
  | [d] => { results := [.lit (.bool true)], args := [d] }
  | _ => none }
def fnExactNamesOkRow : OpenClaim := { program := "ytgkdeakbokgfgaa", sum := "e9371e2bd9790ecd932aee87c657a0840bf20d9adeb557e814e0eac91f0ee57f", func := "loop.example/g00394/laws.FnExactNamesOk", spec := "fnExactNamesOk", plainKeys := false, apart := false }
def FnExactNamesOkSaid : Prop := fnExactNamesOkRow.holds Try.pinned (OpenSpec.ofChange fnExactNamesOkSpec)

/-- ITS FALSE NEIGHBOUR: 'it returns false'. Refute it at one input. -/
def fnExactNamesOkWrong : ChangeSpec := { name := "fnExactNamesOk", fn := fun _ => fun
  | [d] => { results := [.lit (.bool false)], args := [d] }
  | _ => none }
def FnExactNamesOkWrongFalsely : Prop := fnExactNamesOkRow.holds Try.pinned (OpenSpec.ofChange fnExactNamesOkWrong)

/-- 'laws.FnExactPoliciesOk': WHATEVER THE INPUT: true; the input reads as it did. -/
def fnExactPoliciesOkSpec : ChangeSpec := { name := "fnExactPoliciesOk", fn := fun _ => fun
  | [d] => { results := [.lit (.bool true)], args := [d] }
  | _ => none }
def fnExactPoliciesOkRow : OpenClaim := { program := "ytgkdeakbokgfgaa", sum := "e9371e2bd9790ecd932aee87c657a0840bf20d9adeb557e814e0eac91f0ee57f", func := "loop.example/g00394/laws.FnExactPoliciesOk", spec := "fnExactPoliciesOk", plainKeys := false, apart := false }
def FnExactPoliciesOkSaid : Prop := fnExactPoliciesOkRow.holds Try.pinned (OpenSpec.ofChange fnExactPoliciesOkSpec)

/-- ITS FALSE NEIGHBOUR: 'it returns false'. Refute it at one input. -/
def fnExactPoliciesOkWrong : ChangeSpec := { name := "fnExactPoliciesOk", fn := fun _ => fun
  | [d] => { results := [.lit (.bool false)], args := [d] }
  | _ => none }
def FnExactPoliciesOkWrongFalsely : Prop := fnExactPoliciesOkRow.holds Try.pinned (OpenSpec.ofChange fnExactPoliciesOkWrong)

/-- 'laws.FnExactAllowed': WHATEVER THE INPUT: true; the input reads as it did. -/
def fnExactAllowedSpec : ChangeSpec := { name := "fnExactAllowed", fn := fun _ => fun
  | [d1, d2, d3] => { results := [.lit (.bool true)], args := [d1, d2, d3] }
  | _ => none }
def fnExactAllowedRow : OpenClaim := { program := "ytgkdeakbokgfgaa", sum := "e9371e2bd9790ecd932aee87c657a0840bf20d9adeb557e814e0eac91f0ee57f", func := "loop.example/g00394/laws.FnExactAllowed", spec := "fnExactAllowed", plainKeys := false, apart := false }
def FnExactAllowedSaid : Prop := fnExactAllowedRow.holds Try.pinned (OpenSpec.ofChange fnExactAllowedSpec)

/-- ITS FALSE NEIGHBOUR: 'it returns false'. Refute it at one input. -/
def fnExactAllowedWrong : ChangeSpec := { name := "fnExactAllowed", fn := fun _ => fun
  | [d1, d2, d3] => { results := [.lit (.bool false)], args := [d1, d2, d3] }
  | _ => none }
def FnExactAllowedWrongFalsely : Prop := fnExactAllowedRow.holds Try.pinned (OpenSpec.ofChange fnExactAllowedWrong)

/-- 'laws.FnNames': WHATEVER THE INPUT: true; the input reads as it did. -/
def fnNamesSpec : ChangeSpec := { name := "fnNames", fn := fun _ => fun
  | [d] => { results := [.lit (.bool true)], args := [d] }
  | _ => none }
def fnNamesRow : OpenClaim := { program := "ytgkdeakbokgfgaa", sum := "e9371e2bd9790ecd932aee87c657a0840bf20d9adeb557e814e0eac91f0ee57f", func := "loop.example/g00394/laws.FnNames", spec := "fnNames", plainKeys := false, apart := false }
def FnNamesSaid : Prop := fnNamesRow.holds Try.pinned (OpenSpec.ofChange fnNamesSpec)

/-- ITS FALSE NEIGHBOUR: 'it returns false'. Refute it at one input. -/
def fnNamesWrong : ChangeSpec := { name := "fnNames", fn := fun _ => fun
  | [d] => { results := [.lit (.bool false)], args := [d] }
  | _ => none }
def FnNamesWrongFalsely : Prop := fnNamesRow.holds Try.pinned (OpenSpec.ofChange fnNamesWrong)

/-- 'laws.FnPolicies': WHATEVER THE INPUT: true; the input reads as it did. -/
def fnPoliciesSpec : ChangeSpec := { name := "fnPolicies", fn := fun _ => fun
  | [d] => { results := [.lit (.bool true)], args := [d] }
  | _ => none }
def fnPoliciesRow : OpenClaim := { program := "ytgkdeakbokgfgaa", sum := "e9371e2bd9790ecd932aee87c657a0840bf20d9adeb557e814e0eac91f0ee57f", func := "loop.example/g00394/laws.FnPolicies", spec := "fnPolicies", recurses := true, plainKeys := false, apart := false }
def FnPoliciesSaid : Prop := fnPoliciesRow.holds Try.pinned (OpenSpec.ofChange fnPoliciesSpec)

/-- ITS FALSE NEIGHBOUR: 'it returns false'. Refute it at one input. -/
def fnPoliciesWrong : ChangeSpec := { name := "fnPolicies", fn := fun _ => fun
  | [d] => { results := [.lit (.bool false)], args := [d] }
  | _ => none }
def FnPoliciesWrongFalsely : Prop := fnPoliciesRow.holds Try.pinned (OpenSpec.ofChange fnPoliciesWrong)

/-- 'laws.FnExactSameItem': WHATEVER THE INPUT: true; the input reads as it did. -/
def fnExactSameItemSpec : ChangeSpec := { name := "fnExactSameItem", fn := fun _ => fun
  | [d1, d2] => { results := [.lit (.bool true)], args := [d1, d2] }
  | _ => none }
def fnExactSameItemRow : OpenClaim := { program := "ytgkdeakbokgfgaa", sum := "e9371e2bd9790ecd932aee87c657a0840bf20d9adeb557e814e0eac91f0ee57f", func := "loop.example/g00394/laws.FnExactSameItem", spec := "fnExactSameItem", recurses := true, loops := true, plainKeys := false, apart := false }
def FnExactSameItemSaid : Prop := fnExactSameItemRow.holds Try.pinned (OpenSpec.ofChange fnExactSameItemSpec)

/-- ITS FALSE NEIGHBOUR: 'it returns false'. Refute it at one input. -/
def fnExactSameItemWrong : ChangeSpec := { name := "fnExactSameItem", fn := fun _ => fun
  | [d1, d2] => { results := [.lit (.bool false)], args := [d1, d2] }
  | _ => none }
def FnExactSameItemWrongFalsely : Prop := fnExactSameItemRow.holds Try.pinned (OpenSpec.ofChange fnExactSameItemWrong)

/-- 'laws.FnItems': WHATEVER THE INPUT: true; the input reads as it did. -/
def fnItemsSpec : ChangeSpec := { name := "fnItems", fn := fun _ => fun
  | [d] => { results := [.lit (.bool true)], args := [d] }
  | _ => none }
def fnItemsRow : OpenClaim := { program := "ytgkdeakbokgfgaa", sum := "e9371e2bd9790ecd932aee87c657a0840bf20d9adeb557e814e0eac91f0ee57f", func := "loop.example/g00394/laws.FnItems", spec := "fnItems", unfollowed := true, recurses := true, plainKeys := false, apart := false }
def FnItemsSaid : Prop := fnItemsRow.holds Try.pinned (OpenSpec.ofChange fnItemsSpec)

/-- ITS FALSE NEIGHBOUR: 'it returns false'. Refute it at one input. -/
def fnItemsWrong : ChangeSpec := { name := "fnItems", fn := fun _ => fun
  | [d] => { results := [.lit (.bool false)], args := [d] }
  | _ => none }
def FnItemsWrongFalsely : Prop := fnItemsRow.holds Try.pinned (OpenSpec.ofChange fnItemsWrong)

/- THE SECOND FORM. 'bulk': how many values and letters a reading holds, each counted each time it is reached (what is shared counts as often as it is met; a slice's spare places count too). A statement '..UptoSaid' is the law's where the arguments, and the package variables that the reading takes, are together of bulk at most 1048576: NARROWER than '..Said'. Prove '..Said' where nothing that the law and all that it calls make is longer than what came in: it says more and counts as full. Else prove '..UptoSaid'. A law counts once. -/
mutual
def uptoBulk {H : Type} : DataW H → Nat
  | .lit (.string bytes) => bytes.length + 1
  | .lit _ => 1
  | .nil => 1
  | .ptr d => uptoBulk d + 1
  | .slice elems spare => uptoBulkAll elems + uptoBulkAll spare + 1
  | .agg parts => uptoBulkAll parts + 1
  | .iface _ d => uptoBulk d + 1
  | .map entries => uptoBulkEntries entries + 1
  | .held _ => 1
def uptoBulkAll {H : Type} : List (DataW H) → Nat
  | [] => 0
  | d :: r => uptoBulk d + uptoBulkAll r
def uptoBulkEntries {H : Type} : List (Lit × DataW H) → Nat
  | [] => 0
  | x :: r => uptoBulkEntry x + uptoBulkEntries r
def uptoBulkEntry {H : Type} : Lit × DataW H → Nat
  | (.string bytes, d) => bytes.length + uptoBulk d + 1
  | (_, d) => uptoBulk d + 1
 end
def uptoSmall : (H : Type) → List (DataW H) → Bool := fun _ ds => decide (uptoBulkAll ds ≤ 1048576)
def OpenSpec.upto (s : _root_.Go.ChangeSpec) : _root_.Go.OpenSpec := { _root_.Go.OpenSpec.ofChange s with cond := some uptoSmall }

/-- 'laws.FnExactNameOk', WHERE WHAT IT READS IS OF BULK AT MOST 1048576: true; the input reads as it did. -/
def fnExactNameOkUptoRow : OpenClaim := { program := "ytgkdeakbokgfgaa", sum := "e9371e2bd9790ecd932aee87c657a0840bf20d9adeb557e814e0eac91f0ee57f", func := "loop.example/g00394/laws.FnExactNameOk", spec := "fnExactNameOk", plainKeys := false, apart := false, narrowed := true }
def FnExactNameOkUptoSaid : Prop := fnExactNameOkUptoRow.holds Try.pinned (OpenSpec.upto fnExactNameOkSpec)

/-- 'laws.FnExactUnder', WHERE WHAT IT READS IS OF BULK AT MOST 1048576: true; the input reads as it did. -/
def fnExactUnderUptoRow : OpenClaim := { program := "ytgkdeakbokgfgaa", sum := "e9371e2bd9790ecd932aee87c657a0840bf20d9adeb557e814e0eac91f0ee57f", func := "loop.example/g00394/laws.FnExactUnder", spec := "fnExactUnder", plainKeys := false, apart := false, narrowed := true }
def FnExactUnderUptoSaid : Prop := fnExactUnderUptoRow.holds Try.pinned (OpenSpec.upto fnExactUnderSpec)

/-- 'laws.FnExactNamesOk', WHERE WHAT IT READS IS OF BULK AT MOST 1048576: true; the input reads as it did. -/
def fnExactNamesOkUptoRow : OpenClaim := { program := "ytgkdeakbokgfgaa", sum := "e9371e2bd9790ecd932aee87c657a0840bf20d9adeb557e814e0eac91f0ee57f", func := "loop.example/g00394/laws.FnExactNamesOk", spec := "fnExactNamesOk", plainKeys := false, apart := false, narrowed := true }
def FnExactNamesOkUptoSaid : Prop := fnExactNamesOkUptoRow.holds Try.pinned (OpenSpec.upto fnExactNamesOkSpec)

/-- 'laws.FnExactPoliciesOk', WHERE WHAT IT READS IS OF BULK AT MOST 1048576: true; the input reads as it did. -/
def fnExactPoliciesOkUptoRow : OpenClaim := { program := "ytgkdeakbokgfgaa", sum := "e9371e2bd9790ecd932aee87c657a0840bf20d9adeb557e814e0eac91f0ee57f", func := "loop.example/g00394/laws.FnExactPoliciesOk", spec := "fnExactPoliciesOk", plainKeys := false, apart := false, narrowed := true }
def FnExactPoliciesOkUptoSaid : Prop := fnExactPoliciesOkUptoRow.holds Try.pinned (OpenSpec.upto fnExactPoliciesOkSpec)

/-- 'laws.FnExactAllowed', WHERE WHAT IT READS IS OF BULK AT MOST 1048576: true; the input reads as it did. -/
def fnExactAllowedUptoRow : OpenClaim := { program := "ytgkdeakbokgfgaa", sum := "e9371e2bd9790ecd932aee87c657a0840bf20d9adeb557e814e0eac91f0ee57f", func := "loop.example/g00394/laws.FnExactAllowed", spec := "fnExactAllowed", plainKeys := false, apart := false, narrowed := true }
def FnExactAllowedUptoSaid : Prop := fnExactAllowedUptoRow.holds Try.pinned (OpenSpec.upto fnExactAllowedSpec)

/-- 'laws.FnNames', WHERE WHAT IT READS IS OF BULK AT MOST 1048576: true; the input reads as it did. -/
def fnNamesUptoRow : OpenClaim := { program := "ytgkdeakbokgfgaa", sum := "e9371e2bd9790ecd932aee87c657a0840bf20d9adeb557e814e0eac91f0ee57f", func := "loop.example/g00394/laws.FnNames", spec := "fnNames", plainKeys := false, apart := false, narrowed := true }
def FnNamesUptoSaid : Prop := fnNamesUptoRow.holds Try.pinned (OpenSpec.upto fnNamesSpec)

/-- 'laws.FnPolicies', WHERE WHAT IT READS IS OF BULK AT MOST 1048576: true; the input reads as it did. -/
def fnPoliciesUptoRow : OpenClaim := { program := "ytgkdeakbokgfgaa", sum := "e9371e2bd9790ecd932aee87c657a0840bf20d9adeb557e814e0eac91f0ee57f", func := "loop.example/g00394/laws.FnPolicies", spec := "fnPolicies", recurses := true, plainKeys := false, apart := false, narrowed := true }
def FnPoliciesUptoSaid : Prop := fnPoliciesUptoRow.holds Try.pinned (OpenSpec.upto fnPoliciesSpec)

/-- 'laws.FnExactSameItem', WHERE WHAT IT READS IS OF BULK AT MOST 1048576: true; the input reads as it did. -/
def fnExactSameItemUptoRow : OpenClaim := { program := "ytgkdeakbokgfgaa", sum := "e9371e2bd9790ecd932aee87c657a0840bf20d9adeb557e814e0eac91f0ee57f", func := "loop.example/g00394/laws.FnExactSameItem", spec := "fnExactSameItem", recurses := true, loops := true, plainKeys := false, apart := false, narrowed := true }
def FnExactSameItemUptoSaid : Prop := fnExactSameItemUptoRow.holds Try.pinned (OpenSpec.upto fnExactSameItemSpec)

/-- 'laws.FnItems', WHERE WHAT IT READS IS OF BULK AT MOST 1048576: true; the input reads as it did. -/
def fnItemsUptoRow : OpenClaim := { program := "ytgkdeakbokgfgaa", sum := "e9371e2bd9790ecd932aee87c657a0840bf20d9adeb557e814e0eac91f0ee57f", func := "loop.example/g00394/laws.FnItems", spec := "fnItems", unfollowed := true, recurses := true, plainKeys := false, apart := false, narrowed := true }
def FnItemsUptoSaid : Prop := fnItemsUptoRow.holds Try.pinned (OpenSpec.upto fnItemsSpec)

end Rows
end Go.Proofs.Ytgkdeakbokgfgaa
