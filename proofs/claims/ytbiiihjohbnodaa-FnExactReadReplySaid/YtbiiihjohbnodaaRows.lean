/-
  No cell of these rows narrows 'for every input' (looked for: loops, veiled, ifaces, maps, wideKeys, modest, calm, conditions, laid).
  DERIVED. THE GIVEN ROWS OF THIS SEAT. 8 by the template 'for every input the law returns true; each argument reads behind the call as it read before'; 0 by the template 'total and deterministic' (their statements: YtbiiihjohbnodaaTotals.lean).
  GIVEN WITH THE SEED: the statements are not yours to turn. If you find one false, say at which input.
  Laid BY PROGRAM, IN A SANDBOX (cutbox-rows.mjs): the forced cells as the released guide's own fill.sh prints them over the translation b9a18dabdb4c5d57… (all of the seat's roots in one cut). By AI agents, Wed Nov 11 2026. No macro, syntax, notation, axiom, sorry.
-/
import Derived.Test.YtbiiihjohbnodaaChecked
import GoSem.Claim
import GoSem.ClaimJoined
import GoSem.ClaimMapViews
import Derived.JoinedTies
import Derived.KernelRfl
namespace Go.Proofs.Ytbiiihjohbnodaa
/- THE CELL 'sum', in the pinned program and in every row, IS THE sha256 OF THE DUMP (.gsa) THAT YtbiiihjohbnodaaProg.lean LOADS. Nothing in Lean hashes anything: it is a label: what it is worth is what the hold of that sum in a sandbox is worth. -/
noncomputable def Try.pinned : Pinned := { name := "ytbiiihjohbnodaa", sum := "b9a18dabdb4c5d578bd05e1774f4fb04d221cc981a627a2cdc91d1c034297ffa", checked := Try.checked }
namespace Rows
def none {H : Type} : Left H := { results := [], args := [] }

/-- 'laws.FnExactAskOk': WHATEVER THE INPUT: true; the input reads as it did. -/
def fnExactAskOkSpec : ChangeSpec := { name := "fnExactAskOk", fn := fun _ => fun
  | [d] => { results := [.lit (.bool true)], args := [d] }
  | _ => none }
def fnExactAskOkRow : OpenClaim := { program := "ytbiiihjohbnodaa", sum := "b9a18dabdb4c5d578bd05e1774f4fb04d221cc981a627a2cdc91d1c034297ffa", func := "loop.example/g00394/laws.FnExactAskOk", spec := "fnExactAskOk", unfollowed := true, recurses := true, apart := false }
def FnExactAskOkSaid : Prop := fnExactAskOkRow.holds Try.pinned (OpenSpec.ofChange fnExactAskOkSpec)

/-- ITS FALSE NEIGHBOUR: 'it returns false'. Refute it at one input. -/
def fnExactAskOkWrong : ChangeSpec := { name := "fnExactAskOk", fn := fun _ => fun
  | [d] => { results := [.lit (.bool false)], args := [d] }
  | _ => none }
def FnExactAskOkWrongFalsely : Prop := fnExactAskOkRow.holds Try.pinned (OpenSpec.ofChange fnExactAskOkWrong)

/-- 'laws.FnExactAskText': WHATEVER THE INPUT: true; the input reads as it did. -/
def fnExactAskTextSpec : ChangeSpec := { name := "fnExactAskText", fn := fun _ => fun
  | [d] => { results := [.lit (.bool true)], args := [d] }
  | _ => none }
def fnExactAskTextRow : OpenClaim := { program := "ytbiiihjohbnodaa", sum := "b9a18dabdb4c5d578bd05e1774f4fb04d221cc981a627a2cdc91d1c034297ffa", func := "loop.example/g00394/laws.FnExactAskText", spec := "fnExactAskText", unfollowed := true, recurses := true, apart := false }
def FnExactAskTextSaid : Prop := fnExactAskTextRow.holds Try.pinned (OpenSpec.ofChange fnExactAskTextSpec)

/-- ITS FALSE NEIGHBOUR: 'it returns false'. Refute it at one input. -/
def fnExactAskTextWrong : ChangeSpec := { name := "fnExactAskText", fn := fun _ => fun
  | [d] => { results := [.lit (.bool false)], args := [d] }
  | _ => none }
def FnExactAskTextWrongFalsely : Prop := fnExactAskTextRow.holds Try.pinned (OpenSpec.ofChange fnExactAskTextWrong)

/-- 'laws.FnExactReadAsk': WHATEVER THE INPUT: true; the input reads as it did. -/
def fnExactReadAskSpec : ChangeSpec := { name := "fnExactReadAsk", fn := fun _ => fun
  | [d] => { results := [.lit (.bool true)], args := [d] }
  | _ => none }
def fnExactReadAskRow : OpenClaim := { program := "ytbiiihjohbnodaa", sum := "b9a18dabdb4c5d578bd05e1774f4fb04d221cc981a627a2cdc91d1c034297ffa", func := "loop.example/g00394/laws.FnExactReadAsk", spec := "fnExactReadAsk", unfollowed := true, recurses := true, apart := false }
def FnExactReadAskSaid : Prop := fnExactReadAskRow.holds Try.pinned (OpenSpec.ofChange fnExactReadAskSpec)

/-- ITS FALSE NEIGHBOUR: 'it returns false'. Refute it at one input. -/
def fnExactReadAskWrong : ChangeSpec := { name := "fnExactReadAsk", fn := fun _ => fun
  | [d] => { results := [.lit (.bool false)], args := [d] }
  | _ => none }
def FnExactReadAskWrongFalsely : Prop := fnExactReadAskRow.holds Try.pinned (OpenSpec.ofChange fnExactReadAskWrong)

/-- 'laws.FnExactReplyOk': WHATEVER THE INPUT: true; the input reads as it did. -/
def fnExactReplyOkSpec : ChangeSpec := { name := "fnExactReplyOk", fn := fun _ => fun
  | [d] => { results := [.lit (.bool true)], args := [d] }
  | _ => none }
def fnExactReplyOkRow : OpenClaim := { program := "ytbiiihjohbnodaa", sum := "b9a18dabdb4c5d578bd05e1774f4fb04d221cc981a627a2cdc91d1c034297ffa", func := "loop.example/g00394/laws.FnExactReplyOk", spec := "fnExactReplyOk", unfollowed := true, recurses := true, apart := false }
def FnExactReplyOkSaid : Prop := fnExactReplyOkRow.holds Try.pinned (OpenSpec.ofChange fnExactReplyOkSpec)

/-- ITS FALSE NEIGHBOUR: 'it returns false'. Refute it at one input. -/
def fnExactReplyOkWrong : ChangeSpec := { name := "fnExactReplyOk", fn := fun _ => fun
  | [d] => { results := [.lit (.bool false)], args := [d] }
  | _ => none }
def FnExactReplyOkWrongFalsely : Prop := fnExactReplyOkRow.holds Try.pinned (OpenSpec.ofChange fnExactReplyOkWrong)

/-- 'laws.FnExactReplyBody': WHATEVER THE INPUT: true; the input reads as it did. -/
def fnExactReplyBodySpec : ChangeSpec := { name := "fnExactReplyBody", fn := fun _ => fun
  | [d] => { results := [.lit (.bool true)], args := [d] }
  | _ => none }
def fnExactReplyBodyRow : OpenClaim := { program := "ytbiiihjohbnodaa", sum := "b9a18dabdb4c5d578bd05e1774f4fb04d221cc981a627a2cdc91d1c034297ffa", func := "loop.example/g00394/laws.FnExactReplyBody", spec := "fnExactReplyBody", unfollowed := true, recurses := true, apart := false }
def FnExactReplyBodySaid : Prop := fnExactReplyBodyRow.holds Try.pinned (OpenSpec.ofChange fnExactReplyBodySpec)

/-- ITS FALSE NEIGHBOUR: 'it returns false'. Refute it at one input. -/
def fnExactReplyBodyWrong : ChangeSpec := { name := "fnExactReplyBody", fn := fun _ => fun
  | [d] => { results := [.lit (.bool false)], args := [d] }
  | _ => none }
def FnExactReplyBodyWrongFalsely : Prop := fnExactReplyBodyRow.holds Try.pinned (OpenSpec.ofChange fnExactReplyBodyWrong)

/-- 'laws.FnExactReplyText': WHATEVER THE INPUT: true; the input reads as it did. -/
def fnExactReplyTextSpec : ChangeSpec := { name := "fnExactReplyText", fn := fun _ => fun
  | [d] => { results := [.lit (.bool true)], args := [d] }
  | _ => none }
def fnExactReplyTextRow : OpenClaim := { program := "ytbiiihjohbnodaa", sum := "b9a18dabdb4c5d578bd05e1774f4fb04d221cc981a627a2cdc91d1c034297ffa", func := "loop.example/g00394/laws.FnExactReplyText", spec := "fnExactReplyText", unfollowed := true, recurses := true, apart := false }
def FnExactReplyTextSaid : Prop := fnExactReplyTextRow.holds Try.pinned (OpenSpec.ofChange fnExactReplyTextSpec)

/-- ITS FALSE NEIGHBOUR: 'it returns false'. Refute it at one input. -/
def fnExactReplyTextWrong : ChangeSpec := { name := "fnExactReplyText", fn := fun _ => fun
  | [d] => { results := [.lit (.bool false)], args := [d] }
  | _ => none }
def FnExactReplyTextWrongFalsely : Prop := fnExactReplyTextRow.holds Try.pinned (OpenSpec.ofChange fnExactReplyTextWrong)

/-- 'laws.FnExactReadReply': WHATEVER THE INPUT: true; the input reads as it did. -/
def fnExactReadReplySpec : ChangeSpec := { name := "fnExactReadReply", fn := fun _ => fun
  | [d] => { results := [.lit (.bool true)], args := [d] }
  | _ => none }
def fnExactReadReplyRow : OpenClaim := { program := "ytbiiihjohbnodaa", sum := "b9a18dabdb4c5d578bd05e1774f4fb04d221cc981a627a2cdc91d1c034297ffa", func := "loop.example/g00394/laws.FnExactReadReply", spec := "fnExactReadReply", unfollowed := true, recurses := true, apart := false }
def FnExactReadReplySaid : Prop := fnExactReadReplyRow.holds Try.pinned (OpenSpec.ofChange fnExactReadReplySpec)

/-- ITS FALSE NEIGHBOUR: 'it returns false'. Refute it at one input. -/
def fnExactReadReplyWrong : ChangeSpec := { name := "fnExactReadReply", fn := fun _ => fun
  | [d] => { results := [.lit (.bool false)], args := [d] }
  | _ => none }
def FnExactReadReplyWrongFalsely : Prop := fnExactReadReplyRow.holds Try.pinned (OpenSpec.ofChange fnExactReadReplyWrong)

/-- 'laws.FnExactSameAnswers': WHATEVER THE INPUT: true; the input reads as it did. -/
def fnExactSameAnswersSpec : ChangeSpec := { name := "fnExactSameAnswers", fn := fun _ => fun
  | [d1, d2] => { results := [.lit (.bool true)], args := [d1, d2] }
  | _ => none }
def fnExactSameAnswersRow : OpenClaim := { program := "ytbiiihjohbnodaa", sum := "b9a18dabdb4c5d578bd05e1774f4fb04d221cc981a627a2cdc91d1c034297ffa", func := "loop.example/g00394/laws.FnExactSameAnswers", spec := "fnExactSameAnswers", unfollowed := true, recurses := true, apart := false }
def FnExactSameAnswersSaid : Prop := fnExactSameAnswersRow.holds Try.pinned (OpenSpec.ofChange fnExactSameAnswersSpec)

/-- ITS FALSE NEIGHBOUR: 'it returns false'. Refute it at one input. -/
def fnExactSameAnswersWrong : ChangeSpec := { name := "fnExactSameAnswers", fn := fun _ => fun
  | [d1, d2] => { results := [.lit (.bool false)], args := [d1, d2] }
  | _ => none }
def FnExactSameAnswersWrongFalsely : Prop := fnExactSameAnswersRow.holds Try.pinned (OpenSpec.ofChange fnExactSameAnswersWrong)

/- THE SECOND FORM. 'bulk': how many values and letters a reading holds, each counted each time it is reached (what is shared counts as often as it is met; a slice's spare places count too). A statement '..UptoSaid' is the law's where the arguments, and the package variables that the reading takes, are together of bulk at most 1048576: NARROWER than '..Said'. Prove '..Said' where nothing that the law and all that it calls make is longer than what came in: it says more and counts as full. Else prove '..UptoSaid'. A law counts once. -/
mutual
def uptoBulk {H : Type} : DataW H → Nat
  | .lit (.string bytes) => bytes.length + 1
  | .lit _ => 1
  | .nil => 1
  | .ptr d => uptoBulk d + 1
  | .slice elems spare => uptoBulkAll elems + uptoBulkAll spare + 1
  | .agg parts => uptoBulkAll parts + 1
  | .iface _ d => uptoBulk d + 1
  | .map entries => uptoBulkEntries entries + 1
  | .held _ => 1
def uptoBulkAll {H : Type} : List (DataW H) → Nat
  | [] => 0
  | d :: r => uptoBulk d + uptoBulkAll r
def uptoBulkEntries {H : Type} : List (Lit × DataW H) → Nat
  | [] => 0
  | x :: r => uptoBulkEntry x + uptoBulkEntries r
def uptoBulkEntry {H : Type} : Lit × DataW H → Nat
  | (.string bytes, d) => bytes.length + uptoBulk d + 1
  | (_, d) => uptoBulk d + 1
 end
def uptoSmall : (H : Type) → List (DataW H) → Bool := fun _ ds => decide (uptoBulkAll ds ≤ 1048576)
def OpenSpec.upto (s : _root_.Go.ChangeSpec) : _root_.Go.OpenSpec := { _root_.Go.OpenSpec.ofChange s with cond := some uptoSmall }

/-- 'laws.FnExactAskOk', WHERE WHAT IT READS IS OF BULK AT MOST 1048576: true; the input reads as it did. -/
def fnExactAskOkUptoRow : OpenClaim := { program := "ytbiiihjohbnodaa", sum := "b9a18dabdb4c5d578bd05e1774f4fb04d221cc981a627a2cdc91d1c034297ffa", func := "loop.example/g00394/laws.FnExactAskOk", spec := "fnExactAskOk", unfollowed := true, recurses := true, apart := false, narrowed := true }
def FnExactAskOkUptoSaid : Prop := fnExactAskOkUptoRow.holds Try.pinned (OpenSpec.upto fnExactAskOkSpec)

/-- 'laws.FnExactAskText', WHERE WHAT IT READS IS OF BULK AT MOST 1048576: true; the input reads as it did. -/
def fnExactAskTextUptoRow : OpenClaim := { program := "ytbiiihjohbnodaa", sum := "b9a18dabdb4c5d578bd05e1774f4fb04d221cc981a627a2cdc91d1c034297ffa", func := "loop.example/g00394/laws.FnExactAskText", spec := "fnExactAskText", unfollowed := true, recurses := true, apart := false, narrowed := true }
def FnExactAskTextUptoSaid : Prop := fnExactAskTextUptoRow.holds Try.pinned (OpenSpec.upto fnExactAskTextSpec)

/-- 'laws.FnExactReadAsk', WHERE WHAT IT READS IS OF BULK AT MOST 1048576: true; the input reads as it did. -/
def fnExactReadAskUptoRow : OpenClaim := { program := "ytbiiihjohbnodaa", sum := "b9a18dabdb4c5d578bd05e1774f4fb04d221cc981a627a2cdc91d1c034297ffa", func := "loop.example/g00394/laws.FnExactReadAsk", spec := "fnExactReadAsk", unfollowed := true, recurses := true, apart := false, narrowed := true }
def FnExactReadAskUptoSaid : Prop := fnExactReadAskUptoRow.holds Try.pinned (OpenSpec.upto fnExactReadAskSpec)

/-- 'laws.FnExactReplyOk', WHERE WHAT IT READS IS OF BULK AT MOST 1048576: true; the input reads as it did. -/
def fnExactReplyOkUptoRow : OpenClaim := { program := "ytbiiihjohbnodaa", sum := "b9a18dabdb4c5d578bd05e1774f4fb04d221cc981a627a2cdc91d1c034297ffa", func := "loop.example/g00394/laws.FnExactReplyOk", spec := "fnExactReplyOk", unfollowed := true, recurses := true, apart := false, narrowed := true }
def FnExactReplyOkUptoSaid : Prop := fnExactReplyOkUptoRow.holds Try.pinned (OpenSpec.upto fnExactReplyOkSpec)

/-- 'laws.FnExactReplyBody', WHERE WHAT IT READS IS OF BULK AT MOST 1048576: true; the input reads as it did. -/
def fnExactReplyBodyUptoRow : OpenClaim := { program := "ytbiiihjohbnodaa", sum := "b9a18dabdb4c5d578bd05e1774f4fb04d221cc981a627a2cdc91d1c034297ffa", func := "loop.example/g00394/laws.FnExactReplyBody", spec := "fnExactReplyBody", unfollowed := true, recurses := true, apart := false, narrowed := true }
def FnExactReplyBodyUptoSaid : Prop := fnExactReplyBodyUptoRow.holds Try.pinned (OpenSpec.upto fnExactReplyBodySpec)

/-- 'laws.FnExactReplyText', WHERE WHAT IT READS IS OF BULK AT MOST 1048576: true; the input reads as it did. -/
def fnExactReplyTextUptoRow : OpenClaim := { program := "ytbiiihjohbnodaa", sum := "b9a18dabdb4c5d578bd05e1774f4fb04d221cc981a627a2cdc91d1c034297ffa", func := "loop.example/g00394/laws.FnExactReplyText", spec := "fnExactReplyText", unfollowed := true, recurses := true, apart := false, narrowed := true }
def FnExactReplyTextUptoSaid : Prop := fnExactReplyTextUptoRow.holds Try.pinned (OpenSpec.upto fnExactReplyTextSpec)

/-- 'laws.FnExactReadReply', WHERE WHAT IT READS IS OF BULK AT MOST 1048576: true; the input reads as it did. -/
def fnExactReadReplyUptoRow : OpenClaim := { program := "ytbiiihjohbnodaa", sum := "b9a18dabdb4c5d578bd05e1774f4fb04d221cc981a627a2cdc91d1c034297ffa", func := "loop.example/g00394/laws.FnExactReadReply", spec := "fnExactReadReply", unfollowed := true, recurses := true, apart := false, narrowed := true }
def FnExactReadReplyUptoSaid : Prop := fnExactReadReplyUptoRow.holds Try.pinned (OpenSpec.upto fnExactReadReplySpec)

/-- 'laws.FnExactSameAnswers', WHERE WHAT IT READS IS OF BULK AT MOST 1048576: true; the input reads as it did. -/
def fnExactSameAnswersUptoRow : OpenClaim := { program := "ytbiiihjohbnodaa", sum := "b9a18dabdb4c5d578bd05e1774f4fb04d221cc981a627a2cdc91d1c034297ffa", func := "loop.example/g00394/laws.FnExactSameAnswers", spec := "fnExactSameAnswers", unfollowed := true, recurses := true, apart := false, narrowed := true }
def FnExactSameAnswersUptoSaid : Prop := fnExactSameAnswersUptoRow.holds Try.pinned (OpenSpec.upto fnExactSameAnswersSpec)

end Rows
end Go.Proofs.Ytbiiihjohbnodaa
