/-
  No cell of these rows narrows 'for every input' (looked for: loops, veiled, ifaces, maps, wideKeys, modest, calm, conditions, laid).
  DERIVED. THE GIVEN ROWS OF THIS SEAT. 7 by the template 'for every input the law returns true; each argument reads behind the call as it read before'; 0 by the template 'total and deterministic' (their statements: YtajbalokcfghbaaTotals.lean).
  GIVEN WITH THE SEED: the statements are not yours to turn. If you find one false, say at which input.
  Laid BY PROGRAM, IN A SANDBOX (cutbox-rows.mjs): the forced cells as the released guide's own fill.sh prints them over the translation 8b67876cbaa55ce0… (all of the seat's roots in one cut). By AI agents, Wed Nov 11 2026. No macro, syntax, notation, axiom, sorry.
-/
import Derived.Test.YtajbalokcfghbaaChecked
import GoSem.Claim
import GoSem.ClaimJoined
import GoSem.ClaimMapViews
import Derived.JoinedTies
import Derived.KernelRfl
namespace Go.Proofs.Ytajbalokcfghbaa
/- THE CELL 'sum', in the pinned program and in every row, IS THE sha256 OF THE DUMP (.gsa) THAT YtajbalokcfghbaaProg.lean LOADS. Nothing in Lean hashes anything: it is a label: what it is worth is what the hold of that sum in a sandbox is worth. -/
noncomputable def Try.pinned : Pinned := { name := "ytajbalokcfghbaa", sum := "8b67876cbaa55ce0fb71ecf8e82c99407ca908e54f7429066388f1df7646eed4", checked := Try.checked }
namespace Rows
def none {H : Type} : Left H := { results := [], args := [] }

/-- 'laws.FnExactCertText': WHATEVER THE INPUT: true; the input reads as it did. -/
def fnExactCertTextSpec : ChangeSpec := { name := "fnExactCertText", fn := fun _ => fun
  | [d] => { results := [.lit (.bool true)], args := [d] }
  | _ => none }
def fnExactCertTextRow : OpenClaim := { program := "ytajbalokcfghbaa", sum := "8b67876cbaa55ce0fb71ecf8e82c99407ca908e54f7429066388f1df7646eed4", func := "loop.example/g00394/laws.FnExactCertText", spec := "fnExactCertText", unfollowed := true, recurses := true, apart := false }
def FnExactCertTextSaid : Prop := fnExactCertTextRow.holds Try.pinned (OpenSpec.ofChange fnExactCertTextSpec)

/-- ITS FALSE NEIGHBOUR: 'it returns false'. Refute it at one input. -/
def fnExactCertTextWrong : ChangeSpec := { name := "fnExactCertText", fn := fun _ => fun
  | [d] => { results := [.lit (.bool false)], args := [d] }
  | _ => none }
def FnExactCertTextWrongFalsely : Prop := fnExactCertTextRow.holds Try.pinned (OpenSpec.ofChange fnExactCertTextWrong)

/-- 'laws.FnExactReadCert': WHATEVER THE INPUT: true; the input reads as it did. -/
def fnExactReadCertSpec : ChangeSpec := { name := "fnExactReadCert", fn := fun _ => fun
  | [d] => { results := [.lit (.bool true)], args := [d] }
  | _ => none }
def fnExactReadCertRow : OpenClaim := { program := "ytajbalokcfghbaa", sum := "8b67876cbaa55ce0fb71ecf8e82c99407ca908e54f7429066388f1df7646eed4", func := "loop.example/g00394/laws.FnExactReadCert", spec := "fnExactReadCert", unfollowed := true, recurses := true, apart := false }
def FnExactReadCertSaid : Prop := fnExactReadCertRow.holds Try.pinned (OpenSpec.ofChange fnExactReadCertSpec)

/-- ITS FALSE NEIGHBOUR: 'it returns false'. Refute it at one input. -/
def fnExactReadCertWrong : ChangeSpec := { name := "fnExactReadCert", fn := fun _ => fun
  | [d] => { results := [.lit (.bool false)], args := [d] }
  | _ => none }
def FnExactReadCertWrongFalsely : Prop := fnExactReadCertRow.holds Try.pinned (OpenSpec.ofChange fnExactReadCertWrong)

/-- 'laws.FnExactCrlOk': WHATEVER THE INPUT: true; the input reads as it did. -/
def fnExactCrlOkSpec : ChangeSpec := { name := "fnExactCrlOk", fn := fun _ => fun
  | [d] => { results := [.lit (.bool true)], args := [d] }
  | _ => none }
def fnExactCrlOkRow : OpenClaim := { program := "ytajbalokcfghbaa", sum := "8b67876cbaa55ce0fb71ecf8e82c99407ca908e54f7429066388f1df7646eed4", func := "loop.example/g00394/laws.FnExactCrlOk", spec := "fnExactCrlOk", apart := false }
def FnExactCrlOkSaid : Prop := fnExactCrlOkRow.holds Try.pinned (OpenSpec.ofChange fnExactCrlOkSpec)

/-- ITS FALSE NEIGHBOUR: 'it returns false'. Refute it at one input. -/
def fnExactCrlOkWrong : ChangeSpec := { name := "fnExactCrlOk", fn := fun _ => fun
  | [d] => { results := [.lit (.bool false)], args := [d] }
  | _ => none }
def FnExactCrlOkWrongFalsely : Prop := fnExactCrlOkRow.holds Try.pinned (OpenSpec.ofChange fnExactCrlOkWrong)

/-- 'laws.FnExactCrlBody': WHATEVER THE INPUT: true; the input reads as it did. -/
def fnExactCrlBodySpec : ChangeSpec := { name := "fnExactCrlBody", fn := fun _ => fun
  | [d] => { results := [.lit (.bool true)], args := [d] }
  | _ => none }
def fnExactCrlBodyRow : OpenClaim := { program := "ytajbalokcfghbaa", sum := "8b67876cbaa55ce0fb71ecf8e82c99407ca908e54f7429066388f1df7646eed4", func := "loop.example/g00394/laws.FnExactCrlBody", spec := "fnExactCrlBody", unfollowed := true, recurses := true, apart := false }
def FnExactCrlBodySaid : Prop := fnExactCrlBodyRow.holds Try.pinned (OpenSpec.ofChange fnExactCrlBodySpec)

/-- ITS FALSE NEIGHBOUR: 'it returns false'. Refute it at one input. -/
def fnExactCrlBodyWrong : ChangeSpec := { name := "fnExactCrlBody", fn := fun _ => fun
  | [d] => { results := [.lit (.bool false)], args := [d] }
  | _ => none }
def FnExactCrlBodyWrongFalsely : Prop := fnExactCrlBodyRow.holds Try.pinned (OpenSpec.ofChange fnExactCrlBodyWrong)

/-- 'laws.FnExactCrlText': WHATEVER THE INPUT: true; the input reads as it did. -/
def fnExactCrlTextSpec : ChangeSpec := { name := "fnExactCrlText", fn := fun _ => fun
  | [d] => { results := [.lit (.bool true)], args := [d] }
  | _ => none }
def fnExactCrlTextRow : OpenClaim := { program := "ytajbalokcfghbaa", sum := "8b67876cbaa55ce0fb71ecf8e82c99407ca908e54f7429066388f1df7646eed4", func := "loop.example/g00394/laws.FnExactCrlText", spec := "fnExactCrlText", unfollowed := true, recurses := true, apart := false }
def FnExactCrlTextSaid : Prop := fnExactCrlTextRow.holds Try.pinned (OpenSpec.ofChange fnExactCrlTextSpec)

/-- ITS FALSE NEIGHBOUR: 'it returns false'. Refute it at one input. -/
def fnExactCrlTextWrong : ChangeSpec := { name := "fnExactCrlText", fn := fun _ => fun
  | [d] => { results := [.lit (.bool false)], args := [d] }
  | _ => none }
def FnExactCrlTextWrongFalsely : Prop := fnExactCrlTextRow.holds Try.pinned (OpenSpec.ofChange fnExactCrlTextWrong)

/-- 'laws.FnExactReadCrl': WHATEVER THE INPUT: true; the input reads as it did. -/
def fnExactReadCrlSpec : ChangeSpec := { name := "fnExactReadCrl", fn := fun _ => fun
  | [d] => { results := [.lit (.bool true)], args := [d] }
  | _ => none }
def fnExactReadCrlRow : OpenClaim := { program := "ytajbalokcfghbaa", sum := "8b67876cbaa55ce0fb71ecf8e82c99407ca908e54f7429066388f1df7646eed4", func := "loop.example/g00394/laws.FnExactReadCrl", spec := "fnExactReadCrl", unfollowed := true, recurses := true, apart := false }
def FnExactReadCrlSaid : Prop := fnExactReadCrlRow.holds Try.pinned (OpenSpec.ofChange fnExactReadCrlSpec)

/-- ITS FALSE NEIGHBOUR: 'it returns false'. Refute it at one input. -/
def fnExactReadCrlWrong : ChangeSpec := { name := "fnExactReadCrl", fn := fun _ => fun
  | [d] => { results := [.lit (.bool false)], args := [d] }
  | _ => none }
def FnExactReadCrlWrongFalsely : Prop := fnExactReadCrlRow.holds Try.pinned (OpenSpec.ofChange fnExactReadCrlWrong)

/-- 'laws.FnExactListed': WHATEVER THE INPUT: true; the input reads as it did. -/
def fnExactListedSpec : ChangeSpec := { name := "fnExactListed", fn := fun _ => fun
  | [d1, d2] => { results := [.lit (.bool true)], args := [d1, d2] }
  | _ => none }
def fnExactListedRow : OpenClaim := { program := "ytajbalokcfghbaa", sum := "8b67876cbaa55ce0fb71ecf8e82c99407ca908e54f7429066388f1df7646eed4", func := "loop.example/g00394/laws.FnExactListed", spec := "fnExactListed", apart := false }
def FnExactListedSaid : Prop := fnExactListedRow.holds Try.pinned (OpenSpec.ofChange fnExactListedSpec)

/-- ITS FALSE NEIGHBOUR: 'it returns false'. Refute it at one input. -/
def fnExactListedWrong : ChangeSpec := { name := "fnExactListed", fn := fun _ => fun
  | [d1, d2] => { results := [.lit (.bool false)], args := [d1, d2] }
  | _ => none }
def FnExactListedWrongFalsely : Prop := fnExactListedRow.holds Try.pinned (OpenSpec.ofChange fnExactListedWrong)

/- THE SECOND FORM. 'bulk': how many values and letters a reading holds, each counted each time it is reached (what is shared counts as often as it is met; a slice's spare places count too). A statement '..UptoSaid' is the law's where the arguments, and the package variables that the reading takes, are together of bulk at most 1048576: NARROWER than '..Said'. Prove '..Said' where nothing that the law and all that it calls make is longer than what came in: it says more and counts as full. Else prove '..UptoSaid'. A law counts once. -/
mutual
def uptoBulk {H : Type} : DataW H → Nat
  | .lit (.string bytes) => bytes.length + 1
  | .lit _ => 1
  | .nil => 1
  | .ptr d => uptoBulk d + 1
  | .slice elems spare => uptoBulkAll elems + uptoBulkAll spare + 1
  | .agg parts => uptoBulkAll parts + 1
  | .iface _ d => uptoBulk d + 1
  | .map entries => uptoBulkEntries entries + 1
  | .held _ => 1
def uptoBulkAll {H : Type} : List (DataW H) → Nat
  | [] => 0
  | d :: r => uptoBulk d + uptoBulkAll r
def uptoBulkEntries {H : Type} : List (Lit × DataW H) → Nat
  | [] => 0
  | x :: r => uptoBulkEntry x + uptoBulkEntries r
def uptoBulkEntry {H : Type} : Lit × DataW H → Nat
  | (.string bytes, d) => bytes.length + uptoBulk d + 1
  | (_, d) => uptoBulk d + 1
 end
def uptoSmall : (H : Type) → List (DataW H) → Bool := fun _ ds => decide (uptoBulkAll ds ≤ 1048576)
def OpenSpec.upto (s : _root_.Go.ChangeSpec) : _root_.Go.OpenSpec := { _root_.Go.OpenSpec.ofChange s with cond := some uptoSmall }

/-- 'laws.FnExactCertText', WHERE WHAT IT READS IS OF BULK AT MOST 1048576: true; the input reads as it did. -/
def fnExactCertTextUptoRow : OpenClaim := { program := "ytajbalokcfghbaa", sum := "8b67876cbaa55ce0fb71ecf8e82c99407ca908e54f7429066388f1df7646eed4", func := "loop.example/g00394/laws.FnExactCertText", spec := "fnExactCertText", unfollowed := true, recurses := true, apart := false, narrowed := true }
def FnExactCertTextUptoSaid : Prop := fnExactCertTextUptoRow.holds Try.pinned (OpenSpec.upto fnExactCertTextSpec)

/-- 'laws.FnExactReadCert', WHERE WHAT IT READS IS OF BULK AT MOST 1048576: true; the input reads as it did. -/
def fnExactReadCertUptoRow : OpenClaim := { program := "ytajbalokcfghbaa", sum := "8b67876cbaa55ce0fb71ecf8e82c99407ca908e54f7429066388f1df7646eed4", func := "loop.example/g00394/laws.FnExactReadCert", spec := "fnExactReadCert", unfollowed := true, recurses := true, apart := false, narrowed := true }
def FnExactReadCertUptoSaid : Prop := fnExactReadCertUptoRow.holds Try.pinned (OpenSpec.upto fnExactReadCertSpec)

/-- 'laws.FnExactCrlOk', WHERE WHAT IT READS IS OF BULK AT MOST 1048576: true; the input reads as it did. -/
def fnExactCrlOkUptoRow : OpenClaim := { program := "ytajbalokcfghbaa", sum := "8b67876cbaa55ce0fb71ecf8e82c99407ca908e54f7429066388f1df7646eed4", func := "loop.example/g00394/laws.FnExactCrlOk", spec := "fnExactCrlOk", apart := false, narrowed := true }
def FnExactCrlOkUptoSaid : Prop := fnExactCrlOkUptoRow.holds Try.pinned (OpenSpec.upto fnExactCrlOkSpec)

/-- 'laws.FnExactCrlBody', WHERE WHAT IT READS IS OF BULK AT MOST 1048576: true; the input reads as it did. -/
def fnExactCrlBodyUptoRow : OpenClaim := { program := "ytajbalokcfghbaa", sum := "8b67876cbaa55ce0fb71ecf8e82c99407ca908e54f7429066388f1df7646eed4", func := "loop.example/g00394/laws.FnExactCrlBody", spec := "fnExactCrlBody", unfollowed := true, recurses := true, apart := false, narrowed := true }
def FnExactCrlBodyUptoSaid : Prop := fnExactCrlBodyUptoRow.holds Try.pinned (OpenSpec.upto fnExactCrlBodySpec)

/-- 'laws.FnExactCrlText', WHERE WHAT IT READS IS OF BULK AT MOST 1048576: true; the input reads as it did. -/
def fnExactCrlTextUptoRow : OpenClaim := { program := "ytajbalokcfghbaa", sum := "8b67876cbaa55ce0fb71ecf8e82c99407ca908e54f7429066388f1df7646eed4", func := "loop.example/g00394/laws.FnExactCrlText", spec := "fnExactCrlText", unfollowed := true, recurses := true, apart := false, narrowed := true }
def FnExactCrlTextUptoSaid : Prop := fnExactCrlTextUptoRow.holds Try.pinned (OpenSpec.upto fnExactCrlTextSpec)

/-- 'laws.FnExactReadCrl', WHERE WHAT IT READS IS OF BULK AT MOST 1048576: true; the input reads as it did. -/
def fnExactReadCrlUptoRow : OpenClaim := { program := "ytajbalokcfghbaa", sum := "8b67876cbaa55ce0fb71ecf8e82c99407ca908e54f7429066388f1df7646eed4", func := "loop.example/g00394/laws.FnExactReadCrl", spec := "fnExactReadCrl", unfollowed := true, recurses := true, apart := false, narrowed := true }
def FnExactReadCrlUptoSaid : Prop := fnExactReadCrlUptoRow.holds Try.pinned (OpenSpec.upto fnExactReadCrlSpec)

/-- 'laws.FnExactListed', WHERE WHAT IT READS IS OF BULK AT MOST 1048576: true; the input reads as it did. -/
def fnExactListedUptoRow : OpenClaim := { program := "ytajbalokcfghbaa", sum := "8b67876cbaa55ce0fb71ecf8e82c99407ca908e54f7429066388f1df7646eed4", func := "loop.example/g00394/laws.FnExactListed", spec := "fnExactListed", apart := false, narrowed := true }
def FnExactListedUptoSaid : Prop := fnExactListedUptoRow.holds Try.pinned (OpenSpec.upto fnExactListedSpec)

end Rows
end Go.Proofs.Ytajbalokcfghbaa
