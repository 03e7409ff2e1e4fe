/-
  NARROWER THAN 'FOR EVERY INPUT', by the rows' own cells (each row's printed sentence says how): FnExactItemOk: loops · FnExactItemText: loops · FnExactSameItem: loops · FnExactIntIn: loops · FnExactListItem: loops.
  DERIVED. THE GIVEN ROWS OF THIS SEAT. 10 by the template 'for every input the law returns true; each argument reads behind the call as it read before'; 0 by the template 'total and deterministic' (their statements: YtbbmobgknnjfbaaTotals.lean).
  GIVEN WITH THE SEED: the statements are not yours to turn. If you find one false, say at which input.
  Laid BY PROGRAM, IN A SANDBOX (cutbox-rows.mjs): the forced cells as the released guide's own fill.sh prints them over the translation c0d5f98c37378e2c… (all of the seat's roots in one cut). By AI agents, Wed Nov 11 2026. No macro, syntax, notation, axiom, sorry.
-/
import Derived.Test.YtbbmobgknnjfbaaChecked
import GoSem.Claim
import GoSem.ClaimJoined
import GoSem.ClaimMapViews
import Derived.JoinedTies
import Derived.KernelRfl
namespace Go.Proofs.Ytbbmobgknnjfbaa
/- THE CELL 'sum', in the pinned program and in every row, IS THE sha256 OF THE DUMP (.gsa) THAT YtbbmobgknnjfbaaProg.lean LOADS. Nothing in Lean hashes anything: it is a label: what it is worth is what the hold of that sum in a sandbox is worth. -/
noncomputable def Try.pinned : Pinned := { name := "ytbbmobgknnjfbaa", sum := "c0d5f98c37378e2ca50da0177127377a1519f6c9fe5e04713e15f0f6cf46b7da", checked := Try.checked }
namespace Rows
def none {H : Type} : Left H := { results := [], args := [] }

/-- 'laws.FnItems': WHATEVER THE INPUT: true; the input reads as it did. -/
def fnItemsSpec : ChangeSpec := { name := "fnItems", fn := fun _ => fun
  | [d] => { results := [.lit (.bool true)], args := [d] }
  | _ => none }
def fnItemsRow : OpenClaim := { program := "ytbbmobgknnjfbaa", sum := "c0d5f98c37378e2ca50da0177127377a1519f6c9fe5e04713e15f0f6cf46b7da", func := "loop.example/g00394/laws.FnItems", spec := "fnItems", unfollowed := true, recurses := true, plainKeys := false, apart := false }
def FnItemsSaid : Prop := fnItemsRow.holds Try.pinned (OpenSpec.ofChange fnItemsSpec)

/-- ITS FALSE NEIGHBOUR: 'it returns false'. Refute it at one input. -/
def fnItemsWrong : ChangeSpec := { name := "fnItems", fn := fun _ => fun
  | [d] => { results := [.lit (.bool false)], args := [d] }
  | _ => none }
def FnItemsWrongFalsely : Prop := fnItemsRow.holds Try.pinned (OpenSpec.ofChange fnItemsWrong)

/-- 'laws.FnInts': WHATEVER THE INPUT: true; the input reads as it did. -/
def fnIntsSpec : ChangeSpec := { name := "fnInts", fn := fun _ => fun
  | [d] => { results := [.lit (.bool true)], args := [d] }
  | _ => none }
def fnIntsRow : OpenClaim := { program := "ytbbmobgknnjfbaa", sum := "c0d5f98c37378e2ca50da0177127377a1519f6c9fe5e04713e15f0f6cf46b7da", func := "loop.example/g00394/laws.FnInts", spec := "fnInts", recurses := true, plainKeys := false, apart := false }
def FnIntsSaid : Prop := fnIntsRow.holds Try.pinned (OpenSpec.ofChange fnIntsSpec)

/-- ITS FALSE NEIGHBOUR: 'it returns false'. Refute it at one input. -/
def fnIntsWrong : ChangeSpec := { name := "fnInts", fn := fun _ => fun
  | [d] => { results := [.lit (.bool false)], args := [d] }
  | _ => none }
def FnIntsWrongFalsely : Prop := fnIntsRow.holds Try.pinned (OpenSpec.ofChange fnIntsWrong)

/-- 'laws.FnExactItemOk': WHATEVER THE INPUT: true; the input reads as it did. -/
def fnExactItemOkSpec : ChangeSpec := { name := "fnExactItemOk", fn := fun _ => fun
  | [d] => { results := [.lit (.bool true)], args := [d] }
  | _ => none }
def fnExactItemOkRow : OpenClaim := { program := "ytbbmobgknnjfbaa", sum := "c0d5f98c37378e2ca50da0177127377a1519f6c9fe5e04713e15f0f6cf46b7da", func := "loop.example/g00394/laws.FnExactItemOk", spec := "fnExactItemOk", recurses := true, loops := true, plainKeys := false, apart := false }
def FnExactItemOkSaid : Prop := fnExactItemOkRow.holds Try.pinned (OpenSpec.ofChange fnExactItemOkSpec)

/-- ITS FALSE NEIGHBOUR: 'it returns false'. Refute it at one input. -/
def fnExactItemOkWrong : ChangeSpec := { name := "fnExactItemOk", fn := fun _ => fun
  | [d] => { results := [.lit (.bool false)], args := [d] }
  | _ => none }
def FnExactItemOkWrongFalsely : Prop := fnExactItemOkRow.holds Try.pinned (OpenSpec.ofChange fnExactItemOkWrong)

/-- 'laws.FnExactItemText': WHATEVER THE INPUT: true; the input reads as it did. -/
def fnExactItemTextSpec : ChangeSpec := { name := "fnExactItemText", fn := fun _ => fun
  | [d] => { results := [.lit (.bool true)], args := [d] }
  | _ => none }
def fnExactItemTextRow : OpenClaim := { program := "ytbbmobgknnjfbaa", sum := "c0d5f98c37378e2ca50da0177127377a1519f6c9fe5e04713e15f0f6cf46b7da", func := "loop.example/g00394/laws.FnExactItemText", spec := "fnExactItemText", unfollowed := true, recurses := true, loops := true, plainKeys := false, apart := false }
def FnExactItemTextSaid : Prop := fnExactItemTextRow.holds Try.pinned (OpenSpec.ofChange fnExactItemTextSpec)

/-- ITS FALSE NEIGHBOUR: 'it returns false'. Refute it at one input. -/
def fnExactItemTextWrong : ChangeSpec := { name := "fnExactItemText", fn := fun _ => fun
  | [d] => { results := [.lit (.bool false)], args := [d] }
  | _ => none }
def FnExactItemTextWrongFalsely : Prop := fnExactItemTextRow.holds Try.pinned (OpenSpec.ofChange fnExactItemTextWrong)

/-- 'laws.FnExactReadItem': WHATEVER THE INPUT: true; the input reads as it did. -/
def fnExactReadItemSpec : ChangeSpec := { name := "fnExactReadItem", fn := fun _ => fun
  | [d] => { results := [.lit (.bool true)], args := [d] }
  | _ => none }
def fnExactReadItemRow : OpenClaim := { program := "ytbbmobgknnjfbaa", sum := "c0d5f98c37378e2ca50da0177127377a1519f6c9fe5e04713e15f0f6cf46b7da", func := "loop.example/g00394/laws.FnExactReadItem", spec := "fnExactReadItem", recurses := true, plainKeys := false, apart := false }
def FnExactReadItemSaid : Prop := fnExactReadItemRow.holds Try.pinned (OpenSpec.ofChange fnExactReadItemSpec)

/-- ITS FALSE NEIGHBOUR: 'it returns false'. Refute it at one input. -/
def fnExactReadItemWrong : ChangeSpec := { name := "fnExactReadItem", fn := fun _ => fun
  | [d] => { results := [.lit (.bool false)], args := [d] }
  | _ => none }
def FnExactReadItemWrongFalsely : Prop := fnExactReadItemRow.holds Try.pinned (OpenSpec.ofChange fnExactReadItemWrong)

/-- 'laws.FnExactSameItem': WHATEVER THE INPUT: true; the input reads as it did. -/
def fnExactSameItemSpec : ChangeSpec := { name := "fnExactSameItem", fn := fun _ => fun
  | [d1, d2] => { results := [.lit (.bool true)], args := [d1, d2] }
  | _ => none }
def fnExactSameItemRow : OpenClaim := { program := "ytbbmobgknnjfbaa", sum := "c0d5f98c37378e2ca50da0177127377a1519f6c9fe5e04713e15f0f6cf46b7da", func := "loop.example/g00394/laws.FnExactSameItem", spec := "fnExactSameItem", recurses := true, loops := true, plainKeys := false, apart := false }
def FnExactSameItemSaid : Prop := fnExactSameItemRow.holds Try.pinned (OpenSpec.ofChange fnExactSameItemSpec)

/-- ITS FALSE NEIGHBOUR: 'it returns false'. Refute it at one input. -/
def fnExactSameItemWrong : ChangeSpec := { name := "fnExactSameItem", fn := fun _ => fun
  | [d1, d2] => { results := [.lit (.bool false)], args := [d1, d2] }
  | _ => none }
def FnExactSameItemWrongFalsely : Prop := fnExactSameItemRow.holds Try.pinned (OpenSpec.ofChange fnExactSameItemWrong)

/-- 'laws.FnExactIntItem': WHATEVER THE INPUT: true; the input reads as it did. -/
def fnExactIntItemSpec : ChangeSpec := { name := "fnExactIntItem", fn := fun _ => fun
  | [d] => { results := [.lit (.bool true)], args := [d] }
  | _ => none }
def fnExactIntItemRow : OpenClaim := { program := "ytbbmobgknnjfbaa", sum := "c0d5f98c37378e2ca50da0177127377a1519f6c9fe5e04713e15f0f6cf46b7da", func := "loop.example/g00394/laws.FnExactIntItem", spec := "fnExactIntItem", recurses := true, plainKeys := false, apart := false }
def FnExactIntItemSaid : Prop := fnExactIntItemRow.holds Try.pinned (OpenSpec.ofChange fnExactIntItemSpec)

/-- ITS FALSE NEIGHBOUR: 'it returns false'. Refute it at one input. -/
def fnExactIntItemWrong : ChangeSpec := { name := "fnExactIntItem", fn := fun _ => fun
  | [d] => { results := [.lit (.bool false)], args := [d] }
  | _ => none }
def FnExactIntItemWrongFalsely : Prop := fnExactIntItemRow.holds Try.pinned (OpenSpec.ofChange fnExactIntItemWrong)

/-- 'laws.FnExactIntIn': WHATEVER THE INPUT: true; the input reads as it did. -/
def fnExactIntInSpec : ChangeSpec := { name := "fnExactIntIn", fn := fun _ => fun
  | [d] => { results := [.lit (.bool true)], args := [d] }
  | _ => none }
def fnExactIntInRow : OpenClaim := { program := "ytbbmobgknnjfbaa", sum := "c0d5f98c37378e2ca50da0177127377a1519f6c9fe5e04713e15f0f6cf46b7da", func := "loop.example/g00394/laws.FnExactIntIn", spec := "fnExactIntIn", recurses := true, loops := true, plainKeys := false, apart := false }
def FnExactIntInSaid : Prop := fnExactIntInRow.holds Try.pinned (OpenSpec.ofChange fnExactIntInSpec)

/-- ITS FALSE NEIGHBOUR: 'it returns false'. Refute it at one input. -/
def fnExactIntInWrong : ChangeSpec := { name := "fnExactIntIn", fn := fun _ => fun
  | [d] => { results := [.lit (.bool false)], args := [d] }
  | _ => none }
def FnExactIntInWrongFalsely : Prop := fnExactIntInRow.holds Try.pinned (OpenSpec.ofChange fnExactIntInWrong)

/-- 'laws.FnExactTextItem': WHATEVER THE INPUT: true; the input reads as it did. -/
def fnExactTextItemSpec : ChangeSpec := { name := "fnExactTextItem", fn := fun _ => fun
  | [d] => { results := [.lit (.bool true)], args := [d] }
  | _ => none }
def fnExactTextItemRow : OpenClaim := { program := "ytbbmobgknnjfbaa", sum := "c0d5f98c37378e2ca50da0177127377a1519f6c9fe5e04713e15f0f6cf46b7da", func := "loop.example/g00394/laws.FnExactTextItem", spec := "fnExactTextItem", recurses := true, plainKeys := false, apart := false }
def FnExactTextItemSaid : Prop := fnExactTextItemRow.holds Try.pinned (OpenSpec.ofChange fnExactTextItemSpec)

/-- ITS FALSE NEIGHBOUR: 'it returns false'. Refute it at one input. -/
def fnExactTextItemWrong : ChangeSpec := { name := "fnExactTextItem", fn := fun _ => fun
  | [d] => { results := [.lit (.bool false)], args := [d] }
  | _ => none }
def FnExactTextItemWrongFalsely : Prop := fnExactTextItemRow.holds Try.pinned (OpenSpec.ofChange fnExactTextItemWrong)

/-- 'laws.FnExactListItem': WHATEVER THE INPUT: true; the input reads as it did. -/
def fnExactListItemSpec : ChangeSpec := { name := "fnExactListItem", fn := fun _ => fun
  | [d] => { results := [.lit (.bool true)], args := [d] }
  | _ => none }
def fnExactListItemRow : OpenClaim := { program := "ytbbmobgknnjfbaa", sum := "c0d5f98c37378e2ca50da0177127377a1519f6c9fe5e04713e15f0f6cf46b7da", func := "loop.example/g00394/laws.FnExactListItem", spec := "fnExactListItem", recurses := true, loops := true, plainKeys := false, apart := false }
def FnExactListItemSaid : Prop := fnExactListItemRow.holds Try.pinned (OpenSpec.ofChange fnExactListItemSpec)

/-- ITS FALSE NEIGHBOUR: 'it returns false'. Refute it at one input. -/
def fnExactListItemWrong : ChangeSpec := { name := "fnExactListItem", fn := fun _ => fun
  | [d] => { results := [.lit (.bool false)], args := [d] }
  | _ => none }
def FnExactListItemWrongFalsely : Prop := fnExactListItemRow.holds Try.pinned (OpenSpec.ofChange fnExactListItemWrong)

/- THE SECOND FORM. 'bulk': how many values and letters a reading holds, each counted each time it is reached (what is shared counts as often as it is met; a slice's spare places count too). A statement '..UptoSaid' is the law's where the arguments, and the package variables that the reading takes, are together of bulk at most 1048576: NARROWER than '..Said'. Prove '..Said' where nothing that the law and all that it calls make is longer than what came in: it says more and counts as full. Else prove '..UptoSaid'. A law counts once. -/
mutual
def uptoBulk {H : Type} : DataW H → Nat
  | .lit (.string bytes) => bytes.length + 1
  | .lit _ => 1
  | .nil => 1
  | .ptr d => uptoBulk d + 1
  | .slice elems spare => uptoBulkAll elems + uptoBulkAll spare + 1
  | .agg parts => uptoBulkAll parts + 1
  | .iface _ d => uptoBulk d + 1
  | .map entries => uptoBulkEntries entries + 1
  | .held _ => 1
def uptoBulkAll {H : Type} : List (DataW H) → Nat
  | [] => 0
  | d :: r => uptoBulk d + uptoBulkAll r
def uptoBulkEntries {H : Type} : List (Lit × DataW H) → Nat
  | [] => 0
  | x :: r => uptoBulkEntry x + uptoBulkEntries r
def uptoBulkEntry {H : Type} : Lit × DataW H → Nat
  | (.string bytes, d) => bytes.length + uptoBulk d + 1
  | (_, d) => uptoBulk d + 1
 end
def uptoSmall : (H : Type) → List (DataW H) → Bool := fun _ ds => decide (uptoBulkAll ds ≤ 1048576)
def OpenSpec.upto (s : _root_.Go.ChangeSpec) : _root_.Go.OpenSpec := { _root_.Go.OpenSpec.ofChange s with cond := some uptoSmall }

/-- 'laws.FnItems', WHERE WHAT IT READS IS OF BULK AT MOST 1048576: true; the input reads as it did. -/
def fnItemsUptoRow : OpenClaim := { program := "ytbbmobgknnjfbaa", sum := "c0d5f98c37378e2ca50da0177127377a1519f6c9fe5e04713e15f0f6cf46b7da", func := "loop.example/g00394/laws.FnItems", spec := "fnItems", unfollowed := true, recurses := true, plainKeys := false, apart := false, narrowed := true }
def FnItemsUptoSaid : Prop := fnItemsUptoRow.holds Try.pinned (OpenSpec.upto fnItemsSpec)

/-- 'laws.FnInts', WHERE WHAT IT READS IS OF BULK AT MOST 1048576: true; the input reads as it did. -/
def fnIntsUptoRow : OpenClaim := { program := "ytbbmobgknnjfbaa", sum := "c0d5f98c37378e2ca50da0177127377a1519f6c9fe5e04713e15f0f6cf46b7da", func := "loop.example/g00394/laws.FnInts", spec := "fnInts", recurses := true, plainKeys := false, apart := false, narrowed := true }
def FnIntsUptoSaid : Prop := fnIntsUptoRow.holds Try.pinned (OpenSpec.upto fnIntsSpec)

/-- 'laws.FnExactItemOk', WHERE WHAT IT READS IS OF BULK AT MOST 1048576: true; the input reads as it did. -/
def fnExactItemOkUptoRow : OpenClaim := { program := "ytbbmobgknnjfbaa", sum := "c0d5f98c37378e2ca50da0177127377a1519f6c9fe5e04713e15f0f6cf46b7da", func := "loop.example/g00394/laws.FnExactItemOk", spec := "fnExactItemOk", recurses := true, loops := true, plainKeys := false, apart := false, narrowed := true }
def FnExactItemOkUptoSaid : Prop := fnExactItemOkUptoRow.holds Try.pinned (OpenSpec.upto fnExactItemOkSpec)

/-- 'laws.FnExactItemText', WHERE WHAT IT READS IS OF BULK AT MOST 1048576: true; the input reads as it did. -/
def fnExactItemTextUptoRow : OpenClaim := { program := "ytbbmobgknnjfbaa", sum := "c0d5f98c37378e2ca50da0177127377a1519f6c9fe5e04713e15f0f6cf46b7da", func := "loop.example/g00394/laws.FnExactItemText", spec := "fnExactItemText", unfollowed := true, recurses := true, loops := true, plainKeys := false, apart := false, narrowed := true }
def FnExactItemTextUptoSaid : Prop := fnExactItemTextUptoRow.holds Try.pinned (OpenSpec.upto fnExactItemTextSpec)

/-- 'laws.FnExactReadItem', WHERE WHAT IT READS IS OF BULK AT MOST 1048576: true; the input reads as it did. -/
def fnExactReadItemUptoRow : OpenClaim := { program := "ytbbmobgknnjfbaa", sum := "c0d5f98c37378e2ca50da0177127377a1519f6c9fe5e04713e15f0f6cf46b7da", func := "loop.example/g00394/laws.FnExactReadItem", spec := "fnExactReadItem", recurses := true, plainKeys := false, apart := false, narrowed := true }
def FnExactReadItemUptoSaid : Prop := fnExactReadItemUptoRow.holds Try.pinned (OpenSpec.upto fnExactReadItemSpec)

/-- 'laws.FnExactSameItem', WHERE WHAT IT READS IS OF BULK AT MOST 1048576: true; the input reads as it did. -/
def fnExactSameItemUptoRow : OpenClaim := { program := "ytbbmobgknnjfbaa", sum := "c0d5f98c37378e2ca50da0177127377a1519f6c9fe5e04713e15f0f6cf46b7da", func := "loop.example/g00394/laws.FnExactSameItem", spec := "fnExactSameItem", recurses := true, loops := true, plainKeys := false, apart := false, narrowed := true }
def FnExactSameItemUptoSaid : Prop := fnExactSameItemUptoRow.holds Try.pinned (OpenSpec.upto fnExactSameItemSpec)

/-- 'laws.FnExactIntItem', WHERE WHAT IT READS IS OF BULK AT MOST 1048576: true; the input reads as it did. -/
def fnExactIntItemUptoRow : OpenClaim := { program := "ytbbmobgknnjfbaa", sum := "c0d5f98c37378e2ca50da0177127377a1519f6c9fe5e04713e15f0f6cf46b7da", func := "loop.example/g00394/laws.FnExactIntItem", spec := "fnExactIntItem", recurses := true, plainKeys := false, apart := false, narrowed := true }
def FnExactIntItemUptoSaid : Prop := fnExactIntItemUptoRow.holds Try.pinned (OpenSpec.upto fnExactIntItemSpec)

/-- 'laws.FnExactIntIn', WHERE WHAT IT READS IS OF BULK AT MOST 1048576: true; the input reads as it did. -/
def fnExactIntInUptoRow : OpenClaim := { program := "ytbbmobgknnjfbaa", sum := "c0d5f98c37378e2ca50da0177127377a1519f6c9fe5e04713e15f0f6cf46b7da", func := "loop.example/g00394/laws.FnExactIntIn", spec := "fnExactIntIn", recurses := true, loops := true, plainKeys := false, apart := false, narrowed := true }
def FnExactIntInUptoSaid : Prop := fnExactIntInUptoRow.holds Try.pinned (OpenSpec.upto fnExactIntInSpec)

/-- 'laws.FnExactTextItem', WHERE WHAT IT READS IS OF BULK AT MOST 1048576: true; the input reads as it did. -/
def fnExactTextItemUptoRow : OpenClaim := { program := "ytbbmobgknnjfbaa", sum := "c0d5f98c37378e2ca50da0177127377a1519f6c9fe5e04713e15f0f6cf46b7da", func := "loop.example/g00394/laws.FnExactTextItem", spec := "fnExactTextItem", recurses := true, plainKeys := false, apart := false, narrowed := true }
def FnExactTextItemUptoSaid : Prop := fnExactTextItemUptoRow.holds Try.pinned (OpenSpec.upto fnExactTextItemSpec)

/-- 'laws.FnExactListItem', WHERE WHAT IT READS IS OF BULK AT MOST 1048576: true; the input reads as it did. -/
def fnExactListItemUptoRow : OpenClaim := { program := "ytbbmobgknnjfbaa", sum := "c0d5f98c37378e2ca50da0177127377a1519f6c9fe5e04713e15f0f6cf46b7da", func := "loop.example/g00394/laws.FnExactListItem", spec := "fnExactListItem", recurses := true, loops := true, plainKeys := false, apart := false, narrowed := true }
def FnExactListItemUptoSaid : Prop := fnExactListItemUptoRow.holds Try.pinned (OpenSpec.upto fnExactListItemSpec)

end Rows
end Go.Proofs.Ytbbmobgknnjfbaa
