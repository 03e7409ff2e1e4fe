/-
  NARROWER THAN 'FOR EVERY INPUT', by the rows' own cells (each row's printed sentence says how): FnCrls: laid.
  DERIVED. THE GIVEN ROWS OF THIS SEAT. 1 by the template 'for every input the law returns true; each argument reads behind the call as it read before'; 0 by the template 'total and deterministic' (their statements: YtcbjlbpkoneibaaGreatDoorTotals.lean).
  GIVEN WITH THE SEED: the statements are not yours to turn. If you find one false, say at which input.
  Laid BY PROGRAM, IN A SANDBOX (cutbox-rows.mjs): the forced cells as the released guide's own fill.sh prints them over the translation f6e08aada64b4fc4… (all of the seat's roots in one cut). By AI agents, Wed Nov 11 2026. No macro, syntax, notation, axiom, sorry.
-/
import Derived.Test.YtcbjlbpkoneibaaGreatDoorChecked
import GoSem.Claim
import GoSem.ClaimJoined
import GoSem.ClaimMapViews
import Derived.JoinedTies
import Derived.KernelRfl
namespace Go.Proofs.YtcbjlbpkoneibaaGreatDoor
/- THE CELL 'sum', in the pinned program and in every row, IS THE sha256 OF THE DUMP (.gsa) THAT YtcbjlbpkoneibaaGreatDoorProg.lean LOADS. Nothing in Lean hashes anything: it is a label: what it is worth is what the hold of that sum in a sandbox is worth. -/
noncomputable def Tryz.pinned : Pinned := { name := "ytcbjlbpkoneibaagreatdoor", sum := "f6e08aada64b4fc43f1bc9e1370bee58c56b54aa25eb31ac98b987aa1acc6ee9", checked := Tryz.checked }
namespace Rows
def none {H : Type} : Left H := { results := [], args := [] }

/- WHAT THE LISTED PACKAGE-LEVEL VARIABLES READ AS WHEN THE CALL BEGINS. Each datum BY PROGRAM (the guide's laid-datum.mjs) off the statement by which the dump's own 'gosem.cut.vars' lays the variable. In a bare row this is a premise. The card (YtcbjlbpkoneibaaGreatDoorCards.lean) ties it to the program's text. -/
def laid_loop_example_g00394_impl_roundNumbers {H : Type} : DataW H := .agg [.lit (.int .u32 1116352408), .lit (.int .u32 1899447441), .lit (.int .u32 3049323471), .lit (.int .u32 3921009573), .lit (.int .u32 961987163), .lit (.int .u32 1508970993), .lit (.int .u32 2453635748), .lit (.int .u32 2870763221), .lit (.int .u32 3624381080), .lit (.int .u32 310598401), .lit (.int .u32 607225278), .lit (.int .u32 1426881987), .lit (.int .u32 1925078388), .lit (.int .u32 2162078206), .lit (.int .u32 2614888103), .lit (.int .u32 3248222580), .lit (.int .u32 3835390401), .lit (.int .u32 4022224774), .lit (.int .u32 264347078), .lit (.int .u32 604807628), .lit (.int .u32 770255983), .lit (.int .u32 1249150122), .lit (.int .u32 1555081692), .lit (.int .u32 1996064986), .lit (.int .u32 2554220882), .lit (.int .u32 2821834349), .lit (.int .u32 2952996808), .lit (.int .u32 3210313671), .lit (.int .u32 3336571891), .lit (.int .u32 3584528711), .lit (.int .u32 113926993), .lit (.int .u32 338241895), .lit (.int .u32 666307205), .lit (.int .u32 773529912), .lit (.int .u32 1294757372), .lit (.int .u32 1396182291), .lit (.int .u32 1695183700), .lit (.int .u32 1986661051), .lit (.int .u32 2177026350), .lit (.int .u32 2456956037), .lit (.int .u32 2730485921), .lit (.int .u32 2820302411), .lit (.int .u32 3259730800), .lit (.int .u32 3345764771), .lit (.int .u32 3516065817), .lit (.int .u32 3600352804), .lit (.int .u32 4094571909), .lit (.int .u32 275423344), .lit (.int .u32 430227734), .lit (.int .u32 506948616), .lit (.int .u32 659060556), .lit (.int .u32 883997877), .lit (.int .u32 958139571), .lit (.int .u32 1322822218), .lit (.int .u32 1537002063), .lit (.int .u32 1747873779), .lit (.int .u32 1955562222), .lit (.int .u32 2024104815), .lit (.int .u32 2227730452), .lit (.int .u32 2361852424), .lit (.int .u32 2428436474), .lit (.int .u32 2756734187), .lit (.int .u32 3204031479), .lit (.int .u32 3329325298)]
def laid_loop_example_g00394_impl_startNumbers {H : Type} : DataW H := .agg [.lit (.int .u32 1779033703), .lit (.int .u32 3144134277), .lit (.int .u32 1013904242), .lit (.int .u32 2773480762), .lit (.int .u32 1359893119), .lit (.int .u32 2600822924), .lit (.int .u32 528734635), .lit (.int .u32 1541459225)]
def laid_loop_example_g00394_impl_houses {H : Type} : DataW H := .agg [.agg [.lit (.string [49, 49, 50, 54, 56, 52, 50, 52, 56, 50, 50, 57, 52, 55, 55, 53, 51, 48, 56, 49, 57, 53, 54, 57, 52, 54, 50, 51, 51, 48, 56, 50, 52, 48, 53, 57, 55]), .lit (.string [54, 50, 55, 48, 56, 49, 57, 56, 54, 56, 52, 51, 54, 53, 55, 48, 50, 49, 48, 51, 56, 49, 48, 51, 48, 52, 54, 56, 51, 50, 49, 57, 48, 48, 56, 49])], .agg [.lit (.string [49, 50, 52, 55, 57, 56, 49, 54, 53, 53, 52, 50, 51, 53, 51, 50, 49, 53, 52, 48, 57, 50, 53, 53, 52, 56, 54, 51, 56, 56, 56, 56, 57, 55, 50, 48, 57]), .lit (.string [50, 51, 53, 57, 55, 51, 51, 57, 57, 51, 54, 50, 51, 50, 48, 54, 56, 48, 51, 49, 53, 50, 57, 57, 49, 54, 55, 51, 54, 51, 49, 53, 57, 55, 49, 51])], .agg [.lit (.string [49, 49, 52, 56, 54, 56, 54, 51, 50, 48, 48, 50, 57, 57, 54, 55, 55, 54, 53, 49, 55, 52, 50, 53, 54, 55, 48, 52, 54, 56, 52, 51, 53, 48, 49, 49, 49]), .lit (.string [50, 56, 49, 48, 51, 50, 54, 52, 52, 57, 57, 57, 57, 51, 49, 51, 56, 51, 57, 56, 55, 55, 57, 54, 56, 52, 57, 51, 48, 48, 48, 57, 55, 48, 53, 55])], .agg [.lit (.string [49, 48, 52, 49, 54, 57, 49, 55, 51, 56, 57, 54, 51, 57, 50, 48, 52, 52, 48, 51, 50, 51, 57, 49, 49, 48, 55, 56, 50, 53, 57, 51, 49, 54, 48, 51, 57]), .lit (.string [53, 52, 55, 48, 49, 54, 53, 49, 50, 55, 53, 53, 50, 56, 56, 49, 56, 54, 53, 55, 48, 49, 57, 48, 50, 56, 53, 49, 57, 54, 56, 57, 51, 53, 53, 51])], .agg [.lit (.string [49, 49, 56, 56, 50, 52, 52, 51, 56, 51, 50, 57, 56, 53, 50, 56, 55, 53, 52, 52, 55, 57, 57, 55, 51, 54, 53, 50, 50, 49, 54, 53, 52, 55, 56, 55, 55]), .lit (.string [54, 56, 53, 49, 54, 54, 52, 55, 52, 53, 56, 52, 54, 48, 55, 49, 57, 50, 49, 49, 48, 52, 57, 48, 54, 52, 53, 50, 57, 50, 50, 53, 48, 55, 57, 51])], .agg [.lit (.string [49, 48, 55, 53, 49, 55, 48, 53, 51, 48, 57, 52, 53, 51, 54, 56, 54, 49, 55, 53, 49, 56, 55, 55, 49, 52, 54, 54, 55, 56, 56, 55, 56, 53, 56, 49, 51]), .lit (.string [57, 54, 48, 50, 49, 54, 56, 52, 50, 48, 51, 49, 55, 49, 51, 55, 54, 53, 54, 56, 54, 57, 48, 51, 54, 56, 51, 49, 54, 49, 49, 57, 50, 57, 51])]]

/-- 'laws.FnCrls': WHATEVER THE INPUT: true; the input reads as it did. -/
def fnCrlsSpec : ChangeSpec := { name := "fnCrls", vars := ["loop.example/g00394/impl.houses", "loop.example/g00394/impl.startNumbers", "loop.example/g00394/impl.roundNumbers"], fn := fun _ => fun
  | [d, g1, g2, g3] => { results := [.lit (.bool true)], args := [d], vars := [g1, g2, g3] }
  | _ => none }
def fnCrlsRow : OpenClaim := { program := "ytcbjlbpkoneibaagreatdoor", sum := "f6e08aada64b4fc43f1bc9e1370bee58c56b54aa25eb31ac98b987aa1acc6ee9", func := "loop.example/g00394/laws.FnCrls", spec := "fnCrls", inPlace := ["internal/abi.NoEscape", "internal/bytealg.MakeNoZero"], unfollowed := true, recurses := true, named := ["loop.example/g00394/impl.houses", "loop.example/g00394/impl.startNumbers", "loop.example/g00394/impl.roundNumbers"], apart := false, laid := [("loop.example/g00394/impl.roundNumbers", laid_loop_example_g00394_impl_roundNumbers), ("loop.example/g00394/impl.startNumbers", laid_loop_example_g00394_impl_startNumbers), ("loop.example/g00394/impl.houses", laid_loop_example_g00394_impl_houses)] }
def FnCrlsSaid : Prop := fnCrlsRow.holds Tryz.pinned (OpenSpec.ofChange fnCrlsSpec)

/-- ITS FALSE NEIGHBOUR: 'it returns false'. Refute it at one input. -/
def fnCrlsWrong : ChangeSpec := { name := "fnCrls", vars := ["loop.example/g00394/impl.houses", "loop.example/g00394/impl.startNumbers", "loop.example/g00394/impl.roundNumbers"], fn := fun _ => fun
  | [d, g1, g2, g3] => { results := [.lit (.bool false)], args := [d], vars := [g1, g2, g3] }
  | _ => none }
def FnCrlsWrongFalsely : Prop := fnCrlsRow.holds Tryz.pinned (OpenSpec.ofChange fnCrlsWrong)

/- THE SECOND FORM. 'bulk': how many values and letters a reading holds, each counted each time it is reached (what is shared counts as often as it is met; a slice's spare places count too). A statement '..UptoSaid' is the law's where the arguments, and the package variables that the reading takes, are together of bulk at most 1048576: NARROWER than '..Said'. Prove '..Said' where nothing that the law and all that it calls make is longer than what came in: it says more and counts as full. Else prove '..UptoSaid'. A law counts once. -/
mutual
def uptoBulk {H : Type} : DataW H → Nat
  | .lit (.string bytes) => bytes.length + 1
  | .lit _ => 1
  | .nil => 1
  | .ptr d => uptoBulk d + 1
  | .slice elems spare => uptoBulkAll elems + uptoBulkAll spare + 1
  | .agg parts => uptoBulkAll parts + 1
  | .iface _ d => uptoBulk d + 1
  | .map entries => uptoBulkEntries entries + 1
  | .held _ => 1
def uptoBulkAll {H : Type} : List (DataW H) → Nat
  | [] => 0
  | d :: r => uptoBulk d + uptoBulkAll r
def uptoBulkEntries {H : Type} : List (Lit × DataW H) → Nat
  | [] => 0
  | x :: r => uptoBulkEntry x + uptoBulkEntries r
def uptoBulkEntry {H : Type} : Lit × DataW H → Nat
  | (.string bytes, d) => bytes.length + uptoBulk d + 1
  | (_, d) => uptoBulk d + 1
 end
def uptoSmall : (H : Type) → List (DataW H) → Bool := fun _ ds => decide (uptoBulkAll ds ≤ 1048576)
def OpenSpec.upto (s : _root_.Go.ChangeSpec) : _root_.Go.OpenSpec := { _root_.Go.OpenSpec.ofChange s with cond := some uptoSmall }

/-- 'laws.FnCrls', WHERE WHAT IT READS IS OF BULK AT MOST 1048576: true; the input reads as it did. -/
def fnCrlsUptoRow : OpenClaim := { program := "ytcbjlbpkoneibaagreatdoor", sum := "f6e08aada64b4fc43f1bc9e1370bee58c56b54aa25eb31ac98b987aa1acc6ee9", func := "loop.example/g00394/laws.FnCrls", spec := "fnCrls", inPlace := ["internal/abi.NoEscape", "internal/bytealg.MakeNoZero"], unfollowed := true, recurses := true, named := ["loop.example/g00394/impl.houses", "loop.example/g00394/impl.startNumbers", "loop.example/g00394/impl.roundNumbers"], apart := false, laid := [("loop.example/g00394/impl.roundNumbers", laid_loop_example_g00394_impl_roundNumbers), ("loop.example/g00394/impl.startNumbers", laid_loop_example_g00394_impl_startNumbers), ("loop.example/g00394/impl.houses", laid_loop_example_g00394_impl_houses)], narrowed := true }
def FnCrlsUptoSaid : Prop := fnCrlsUptoRow.holds Tryz.pinned (OpenSpec.upto fnCrlsSpec)

end Rows
end Go.Proofs.YtcbjlbpkoneibaaGreatDoor
