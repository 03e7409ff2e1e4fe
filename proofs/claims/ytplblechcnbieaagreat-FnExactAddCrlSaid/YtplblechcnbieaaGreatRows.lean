/-
  No cell of these rows narrows 'for every input' (looked for: loops, veiled, ifaces, maps, wideKeys, modest, calm, conditions, laid).
  DERIVED. THE GIVEN ROWS OF THIS SEAT. 4 by the template 'for every input the law returns true; each argument reads behind the call as it read before'; 0 by the template 'total and deterministic' (their statements: YtplblechcnbieaaGreatTotals.lean).
  GIVEN WITH THE SEED: the statements are not yours to turn. If you find one false, say at which input.
  Laid BY PROGRAM, IN A SANDBOX (cutbox-rows.mjs): the forced cells as the released guide's own fill.sh prints them over the translation 28596f816415b1f7… (all of the seat's roots in one cut). By AI agents, Wed Nov 11 2026. No macro, syntax, notation, axiom, sorry.
-/
import Derived.Test.YtplblechcnbieaaGreatChecked
import GoSem.Claim
import GoSem.ClaimJoined
import GoSem.ClaimMapViews
import Derived.JoinedTies
import Derived.KernelRfl
namespace Go.Proofs.YtplblechcnbieaaGreat
/- THE CELL 'sum', in the pinned program and in every row, IS THE sha256 OF THE DUMP (.gsa) THAT YtplblechcnbieaaGreatProg.lean LOADS. Nothing in Lean hashes anything: it is a label: what it is worth is what the hold of that sum in a sandbox is worth. -/
noncomputable def Tryz.pinned : Pinned := { name := "ytplblechcnbieaagreat", sum := "28596f816415b1f7aed09334c8bc8a81de69f3c9df4d7bd367ece02c9e15a61b", checked := Tryz.checked }
namespace Rows
def none {H : Type} : Left H := { results := [], args := [] }

/-- 'laws.FnExactStoreOk': WHATEVER THE INPUT: true; the input reads as it did. -/
def fnExactStoreOkSpec : ChangeSpec := { name := "fnExactStoreOk", fn := fun _ => fun
  | [d] => { results := [.lit (.bool true)], args := [d] }
  | _ => none }
def fnExactStoreOkRow : OpenClaim := { program := "ytplblechcnbieaagreat", sum := "28596f816415b1f7aed09334c8bc8a81de69f3c9df4d7bd367ece02c9e15a61b", func := "loop.example/g00394/laws.FnExactStoreOk", spec := "fnExactStoreOk", unfollowed := true, recurses := true, apart := false }
def FnExactStoreOkSaid : Prop := fnExactStoreOkRow.holds Tryz.pinned (OpenSpec.ofChange fnExactStoreOkSpec)

/-- ITS FALSE NEIGHBOUR: 'it returns false'. Refute it at one input. -/
def fnExactStoreOkWrong : ChangeSpec := { name := "fnExactStoreOk", fn := fun _ => fun
  | [d] => { results := [.lit (.bool false)], args := [d] }
  | _ => none }
def FnExactStoreOkWrongFalsely : Prop := fnExactStoreOkRow.holds Tryz.pinned (OpenSpec.ofChange fnExactStoreOkWrong)

/-- 'laws.FnExactAddCert': WHATEVER THE INPUT: true; the input reads as it did. -/
def fnExactAddCertSpec : ChangeSpec := { name := "fnExactAddCert", fn := fun _ => fun
  | [d1, d2] => { results := [.lit (.bool true)], args := [d1, d2] }
  | _ => none }
def fnExactAddCertRow : OpenClaim := { program := "ytplblechcnbieaagreat", sum := "28596f816415b1f7aed09334c8bc8a81de69f3c9df4d7bd367ece02c9e15a61b", func := "loop.example/g00394/laws.FnExactAddCert", spec := "fnExactAddCert", unfollowed := true, recurses := true, apart := false }
def FnExactAddCertSaid : Prop := fnExactAddCertRow.holds Tryz.pinned (OpenSpec.ofChange fnExactAddCertSpec)

/-- ITS FALSE NEIGHBOUR: 'it returns false'. Refute it at one input. -/
def fnExactAddCertWrong : ChangeSpec := { name := "fnExactAddCert", fn := fun _ => fun
  | [d1, d2] => { results := [.lit (.bool false)], args := [d1, d2] }
  | _ => none }
def FnExactAddCertWrongFalsely : Prop := fnExactAddCertRow.holds Tryz.pinned (OpenSpec.ofChange fnExactAddCertWrong)

/-- 'laws.FnExactAddCrl': WHATEVER THE INPUT: true; the input reads as it did. -/
def fnExactAddCrlSpec : ChangeSpec := { name := "fnExactAddCrl", fn := fun _ => fun
  | [d1, d2] => { results := [.lit (.bool true)], args := [d1, d2] }
  | _ => none }
def fnExactAddCrlRow : OpenClaim := { program := "ytplblechcnbieaagreat", sum := "28596f816415b1f7aed09334c8bc8a81de69f3c9df4d7bd367ece02c9e15a61b", func := "loop.example/g00394/laws.FnExactAddCrl", spec := "fnExactAddCrl", unfollowed := true, recurses := true, apart := false }
def FnExactAddCrlSaid : Prop := fnExactAddCrlRow.holds Tryz.pinned (OpenSpec.ofChange fnExactAddCrlSpec)

/-- ITS FALSE NEIGHBOUR: 'it returns false'. Refute it at one input. -/
def fnExactAddCrlWrong : ChangeSpec := { name := "fnExactAddCrl", fn := fun _ => fun
  | [d1, d2] => { results := [.lit (.bool false)], args := [d1, d2] }
  | _ => none }
def FnExactAddCrlWrongFalsely : Prop := fnExactAddCrlRow.holds Tryz.pinned (OpenSpec.ofChange fnExactAddCrlWrong)

/-- 'laws.FnExactWaysTo': WHATEVER THE INPUT: true; the input reads as it did. -/
def fnExactWaysToSpec : ChangeSpec := { name := "fnExactWaysTo", fn := fun _ => fun
  | [d1, d2] => { results := [.lit (.bool true)], args := [d1, d2] }
  | _ => none }
def fnExactWaysToRow : OpenClaim := { program := "ytplblechcnbieaagreat", sum := "28596f816415b1f7aed09334c8bc8a81de69f3c9df4d7bd367ece02c9e15a61b", func := "loop.example/g00394/laws.FnExactWaysTo", spec := "fnExactWaysTo", unfollowed := true, recurses := true, apart := false }
def FnExactWaysToSaid : Prop := fnExactWaysToRow.holds Tryz.pinned (OpenSpec.ofChange fnExactWaysToSpec)

/-- ITS FALSE NEIGHBOUR: 'it returns false'. Refute it at one input. -/
def fnExactWaysToWrong : ChangeSpec := { name := "fnExactWaysTo", fn := fun _ => fun
  | [d1, d2] => { results := [.lit (.bool false)], args := [d1, d2] }
  | _ => none }
def FnExactWaysToWrongFalsely : Prop := fnExactWaysToRow.holds Tryz.pinned (OpenSpec.ofChange fnExactWaysToWrong)

/- THE SECOND FORM. 'bulk': how many values and letters a reading holds, each counted each time it is reached (what is shared counts as often as it is met; a slice's spare places count too). A statement '..UptoSaid' is the law's where the arguments, and the package variables that the reading takes, are together of bulk at most 1048576: NARROWER than '..Said'. Prove '..Said' where nothing that the law and all that it calls make is longer than what came in: it says more and counts as full. Else prove '..UptoSaid'. A law counts once. -/
mutual
def uptoBulk {H : Type} : DataW H → Nat
  | .lit (.string bytes) => bytes.length + 1
  | .lit _ => 1
  | .nil => 1
  | .ptr d => uptoBulk d + 1
  | .slice elems spare => uptoBulkAll elems + uptoBulkAll spare + 1
  | .agg parts => uptoBulkAll parts + 1
  | .iface _ d => uptoBulk d + 1
  | .map entries => uptoBulkEntries entries + 1
  | .held _ => 1
def uptoBulkAll {H : Type} : List (DataW H) → Nat
  | [] => 0
  | d :: r => uptoBulk d + uptoBulkAll r
def uptoBulkEntries {H : Type} : List (Lit × DataW H) → Nat
  | [] => 0
  | x :: r => uptoBulkEntry x + uptoBulkEntries r
def uptoBulkEntry {H : Type} : Lit × DataW H → Nat
  | (.string bytes, d) => bytes.length + uptoBulk d + 1
  | (_, d) => uptoBulk d + 1
 end
def uptoSmall : (H : Type) → List (DataW H) → Bool := fun _ ds => decide (uptoBulkAll ds ≤ 1048576)
def OpenSpec.upto (s : _root_.Go.ChangeSpec) : _root_.Go.OpenSpec := { _root_.Go.OpenSpec.ofChange s with cond := some uptoSmall }

/-- 'laws.FnExactStoreOk', WHERE WHAT IT READS IS OF BULK AT MOST 1048576: true; the input reads as it did. -/
def fnExactStoreOkUptoRow : OpenClaim := { program := "ytplblechcnbieaagreat", sum := "28596f816415b1f7aed09334c8bc8a81de69f3c9df4d7bd367ece02c9e15a61b", func := "loop.example/g00394/laws.FnExactStoreOk", spec := "fnExactStoreOk", unfollowed := true, recurses := true, apart := false, narrowed := true }
def FnExactStoreOkUptoSaid : Prop := fnExactStoreOkUptoRow.holds Tryz.pinned (OpenSpec.upto fnExactStoreOkSpec)

/-- 'laws.FnExactAddCert', WHERE WHAT IT READS IS OF BULK AT MOST 1048576: true; the input reads as it did. -/
def fnExactAddCertUptoRow : OpenClaim := { program := "ytplblechcnbieaagreat", sum := "28596f816415b1f7aed09334c8bc8a81de69f3c9df4d7bd367ece02c9e15a61b", func := "loop.example/g00394/laws.FnExactAddCert", spec := "fnExactAddCert", unfollowed := true, recurses := true, apart := false, narrowed := true }
def FnExactAddCertUptoSaid : Prop := fnExactAddCertUptoRow.holds Tryz.pinned (OpenSpec.upto fnExactAddCertSpec)

/-- 'laws.FnExactAddCrl', WHERE WHAT IT READS IS OF BULK AT MOST 1048576: true; the input reads as it did. -/
def fnExactAddCrlUptoRow : OpenClaim := { program := "ytplblechcnbieaagreat", sum := "28596f816415b1f7aed09334c8bc8a81de69f3c9df4d7bd367ece02c9e15a61b", func := "loop.example/g00394/laws.FnExactAddCrl", spec := "fnExactAddCrl", unfollowed := true, recurses := true, apart := false, narrowed := true }
def FnExactAddCrlUptoSaid : Prop := fnExactAddCrlUptoRow.holds Tryz.pinned (OpenSpec.upto fnExactAddCrlSpec)

/-- 'laws.FnExactWaysTo', WHERE WHAT IT READS IS OF BULK AT MOST 1048576: true; the input reads as it did. -/
def fnExactWaysToUptoRow : OpenClaim := { program := "ytplblechcnbieaagreat", sum := "28596f816415b1f7aed09334c8bc8a81de69f3c9df4d7bd367ece02c9e15a61b", func := "loop.example/g00394/laws.FnExactWaysTo", spec := "fnExactWaysTo", unfollowed := true, recurses := true, apart := false, narrowed := true }
def FnExactWaysToUptoSaid : Prop := fnExactWaysToUptoRow.holds Tryz.pinned (OpenSpec.upto fnExactWaysToSpec)

end Rows
end Go.Proofs.YtplblechcnbieaaGreat
