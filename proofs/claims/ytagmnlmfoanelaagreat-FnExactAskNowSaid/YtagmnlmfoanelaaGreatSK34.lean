/-
  Texts of the proof.
-/
import Derived.Deep.RegionHeld3
import Derived.Deep.AppendLies
import Derived.Test.YtagmnlmfoanelaaGreatShelf
import Derived.ArgAppend
import Derived.Laws.IdiomStrings
import Derived.Deep.Cut
import Derived.Deep.DeepMust
import Derived.WalkLawsBesides
import Derived.LaidEqlPtr
import Derived.Laws.StructEq
import Derived.ChangeKeysEq
import Derived.Recover
import Derived.Laws.OwnMore
import Derived.Laws.AppendOwnNone
import Derived.Laws.CopyOwn
import Derived.Deep.LoopGhost
import Derived.Lib.LaidU8
import Derived.Laws.Rows
import Derived.Test.YtagmnlmfoanelaaGreatChecked
import Derived.WalkKit
import Derived.WalkSpells
import Derived.Handy
import Derived.Laws.BitsAllLaws
import Derived.Laws.Tables
import Derived.Deep.MidRow
import Derived.Laws.ResultCell
import Derived.Lib.LaidTab
import Derived.Deep.QuietTactic
import Derived.Lib.AppendIntMem
import Derived.StillTailTactics
import Derived.Deep.WholeRow
import Derived.RangeFuncNested
import Derived.RangeFuncBound
import Derived.RangeFuncCalls
import Derived.RangeFuncLeaves
import Derived.RangeFuncBox
import Derived.Shelf.Abstract
import Derived.Shelf.RegionOpen
import Derived.OwnWalkIn
import Derived.TacticsInMore
import Derived.LoopNIn
import Derived.LoopIn
import Derived.Maps.AppendAt
import Derived.BigQuiet
import Derived.Laws.Bits128
import Derived.Laws.RangeString
import Derived.Laws.RangeAny
import Derived.Deep.CutRange
import Derived.Deep.CutBlock
import Derived.Deep.RegionLaw
import Derived.Test.YtagmnlmfoanelaaGreatSK22
import Derived.Test.YtagmnlmfoanelaaGreatSK32
import Derived.Test.YtagmnlmfoanelaaGreatSK33
set_option maxRecDepth 100000
set_option maxHeartbeats 25600000
namespace Go.Proofs.YtagmnlmfoanelaaGreat
open Go.RowKit
def low8 (x : Nat) : UInt8 := UInt8.ofNat x
def lenB (n : Nat) : List UInt8 := [UInt8.ofNat (8 * n / 72057594037927936), UInt8.ofNat (8 * n / 281474976710656), UInt8.ofNat (8 * n / 1099511627776), UInt8.ofNat (8 * n / 4294967296), UInt8.ofNat (8 * n / 16777216), UInt8.ofNat (8 * n / 65536), UInt8.ofNat (8 * n / 256), low8 (8 * n)]
end Go.Proofs.YtagmnlmfoanelaaGreat
namespace Go.Proofs.YtagmnlmfoanelaaGreat
open Go.RowKit Der
set_option linter.unusedVariables false
theorem atxt_len (c : Ak) : ((atxt c).getD []).length <= 4000 := by
 unfold atxt
 split
 ·unfold writeI
  split
  ·rename_i h
   exact h.2
  ·exact Nat.zero_le _
 ·exact Nat.zero_le _
end Go.Proofs.YtagmnlmfoanelaaGreat
namespace Go.Proofs.YtagmnlmfoanelaaGreat
open Go.RowKit Der
set_option linter.unusedVariables false
set_option linter.unusedSimpArgs false
theorem askCopy_any (c : Ak) (v : Value) (bs : Nat) (w : World) (hl : c.tg.length <= 20000000) (ha : OwnAk w bs v c) :
  Calls Tryz.prog 20 #[v] w fun e w' => ∃ u, e = .returned u /\ OwnAk w' w.heap.size u c /\ Below w.heap.size w w' := by
 obtain ⟨i9, hi9, hz09, hz19, hz29⟩ := info_parts info9
 obtain ⟨p, rfl, h1⟩ := ha
 obtain ⟨pa, pc, hp⟩ : ∃ ao cap, p = .slice ao c.tg.length cap := by obtain ⟨ao, cap, h, _⟩ := h1.at; exact ⟨ao, cap, h⟩
 obtain ⟨lp, hlp⟩ := zE (c.tg.length)
 rw [hlp] at hp
 subst hp
 have HA : Hid (OwnT w bs (.slice pa lp pc) c.tg /\ c.tg.length <= 20000000) := ⟨h1, hl⟩
 clear h1 hl hlp
 unfold akV
 go_enter Tryz.func20, Tryz.ntmps20
 obtain ⟨V0, hV0⟩ : ∃ W, W = (((w.alloc (Obj.cells #[.slice pa lp pc, .int .i64 c.plan, .int .i64 c.want, .int .i64 c.nonce, .int .i64 c.time, .bool c.cac] 39)).alloc (Obj.cells #[.slice none 0 0, .int .i64 0, .int .i64 0, .int .i64 0, .int .i64 0, .bool false] 39)).alloc (Obj.cells #[.slice pa lp pc, .int .i64 c.plan, .int .i64 c.want, .int .i64 c.nonce, .int .i64 c.time, .bool c.cac] 39)) := ⟨_, rfl⟩
 have e0 : (w.alloc (Obj.cells #[.slice pa lp pc, .int .i64 c.plan, .int .i64 c.want, .int .i64 c.nonce, .int .i64 c.time, .bool c.cac] 39)).heap.size = w.heap.size + 1 := Array.size_push _
 have e1 : ((w.alloc (Obj.cells #[.slice pa lp pc, .int .i64 c.plan, .int .i64 c.want, .int .i64 c.nonce, .int .i64 c.time, .bool c.cac] 39)).alloc (Obj.cells #[.slice none 0 0, .int .i64 0, .int .i64 0, .int .i64 0, .int .i64 0, .bool false] 39)).heap.size = w.heap.size + 1 + 1 := by rw [size_alloc, e0]
 have z0 : V0.heap.size = w.heap.size + 1 + 1 + 1 := by rw [hV0, size_alloc, e1]
 have G0 : Hid (Blk V0 w.heap.size 39 #[.slice pa lp pc, .int .i64 c.plan, .int .i64 c.want, .int .i64 c.nonce, .int .i64 c.time, .bool c.cac] /\ Blk V0 (w.heap.size + 1) 39 #[.slice none 0 0, .int .i64 0, .int .i64 0, .int .i64 0, .int .i64 0, .bool false] /\ Blk V0 (w.heap.size + 1 + 1) 39 #[.slice pa lp pc, .int .i64 c.plan, .int .i64 c.want, .int .i64 c.nonce, .int .i64 c.time, .bool c.cac] /\ Below w.heap.size w V0) := by
  rw [hV0]
  refine ⟨((Blk.new w _ _).alloc _).alloc _, ?_, ?_, (((Below.refl _ _).alloc (Nat.le_refl _) _).alloc (by rw [e0]; omega) _).alloc (by rw [e1]; omega) _⟩
  ·have h := (Blk.new (w.alloc (Obj.cells #[.slice pa lp pc, .int .i64 c.plan, .int .i64 c.want, .int .i64 c.nonce, .int .i64 c.time, .bool c.cac] 39)) 39 #[.slice none 0 0, .int .i64 0, .int .i64 0, .int .i64 0, .int .i64 0, .bool false]).alloc (Obj.cells #[.slice pa lp pc, .int .i64 c.plan, .int .i64 c.want, .int .i64 c.nonce, .int .i64 c.time, .bool c.cac] 39)
   rw [e0] at h
   exact h
  ·have h := Blk.new ((w.alloc (Obj.cells #[.slice pa lp pc, .int .i64 c.plan, .int .i64 c.want, .int .i64 c.nonce, .int .i64 c.time, .bool c.cac] 39)).alloc (Obj.cells #[.slice none 0 0, .int .i64 0, .int .i64 0, .int .i64 0, .int .i64 0, .bool false] 39)) 39 #[.slice pa lp pc, .int .i64 c.plan, .int .i64 c.want, .int .i64 c.nonce, .int .i64 c.time, .bool c.cac]
   rw [e1] at h
   exact h
 clear e0 e1
 have HM0 : Hid ((V0.alloc (Obj.cells #[] 9)).ownsRow V0.heap.size 9 1 (.slice (some ⟨w.heap.size + 1 + 1 + 1, 0, none⟩) 0 0) 0 [] /\ OwnT (V0.alloc (Obj.cells #[] 9)) bs (.slice pa lp pc) c.tg) := by
  refine ⟨?_, HA.out.1.stays (G0.out.2.2.2.alloc G0.out.2.2.2.size _)⟩
  have h := World.ownsRow_made V0 (base := V0.heap.size) (e := 9) (size := 1) #[] 0 (Nat.le_refl _) (Nat.zero_le _) rfl
  rw [z0] at h |-
  exact h
 have hle0 : 0 + c.tg.length <= 100000000 := by have := HA.out.2; omega
 have hss0 : V0.heap.size <= (V0.alloc (Obj.cells #[] 9)).heap.size := by simp
 go_wp2_with (at_builtin; rw [<- hV0]; refine wpList_append_texts2 rfl _ _ 27 rfl V0.heap.size i9 Tryz.underlying27 hi9 hz09 hz19 hz29 _ 0 [] rfl HM0.out.1 (.slice pa lp pc) c.tg bs HM0.out.2 rfl hle0 hss0 ?_)
 intro vp u0 ho hg
 try rw [<- hV0] at hg
 have F0 : Hid ((Blk u0 w.heap.size 39 #[.slice pa lp pc, .int .i64 c.plan, .int .i64 c.want, .int .i64 c.nonce, .int .i64 c.time, .bool c.cac] /\ Blk u0 (w.heap.size + 1) 39 #[.slice none 0 0, .int .i64 0, .int .i64 0, .int .i64 0, .int .i64 0, .bool false] /\ Blk u0 (w.heap.size + 1 + 1) 39 #[.slice pa lp pc, .int .i64 c.plan, .int .i64 c.want, .int .i64 c.nonce, .int .i64 c.time, .bool c.cac] /\ Below w.heap.size w u0) /\ w.heap.size + 1 + 1 + 1 <= u0.heap.size /\ OwnT u0 (w.heap.size + 1 + 1 + 1) vp c.tg) := by
  have hb : Below V0.heap.size V0 u0 := ((Below.refl _ _).alloc (Nat.le_refl _) _).grown hg hss0 (fun q hq => by simp [Value.ownBlock] at hq; omega)
  have on : OwnT u0 V0.heap.size vp c.tg := by rw [z0]; simpa [OwnT] using ho
  exact ⟨⟨G0.out.1.below hb (by omega), G0.out.2.1.below hb (by omega), G0.out.2.2.1.below hb (by omega), G0.out.2.2.2.trans (hb.mono G0.out.2.2.2.size)⟩, by have := hb.size; omega, on.base (by omega)⟩
 clear ho hg G0 HM0 hle0 hss0 z0 hV0
 have fr := fun j => F0.out.1.2.2.1.free j
 obtain ⟨qv, mv, hsv⟩ : ∃ ao cap, vp = .slice ao c.tg.length cap := by obtain ⟨ao, cap, h, _⟩ := (F0.out.2.2).at; exact ⟨ao, cap, h⟩
 obtain ⟨lv, hlv⟩ := zE (c.tg.length)
 rw [hlv] at hsv
 clear hlv
 subst hsv
 have wd2 : w.heap.size + 1 ≠ w.heap.size + 1 + 1 := by omega
 have f1 := fun j => F0.out.1.2.1.free j
 have c10 := fun j => F0.out.1.2.1.cell j
 have c20 := fun j => F0.out.1.2.2.1.cell j
 have c11 := fun j => F0.out.1.2.1.cell j
 have c21 := fun j => F0.out.1.2.2.1.cell j
 have c12 := fun j => F0.out.1.2.1.cell j
 have c22 := fun j => F0.out.1.2.2.1.cell j
 have c13 := fun j => F0.out.1.2.1.cell j
 have c23 := fun j => F0.out.1.2.2.1.cell j
 have c14 := fun j => F0.out.1.2.1.cell j
 have c24 := fun j => F0.out.1.2.2.1.cell j
 have c15 := fun j => F0.out.1.2.1.cell j
 have c25 := fun j => F0.out.1.2.2.1.cell j
 go_wp2_with fail
 refine bodyPost_ret (v := akV c (.slice qv lv mv)) (by simp [results, Tryz.results20, go_sem, akV, c10, c11, c12, c13, c14, c15]) rfl ⟨_, rfl, ⟨_, rfl, (F0.out.2.2.block ?far).base (by omega)⟩, ?bel⟩
 case far =>
  intro b hb
  iterate 7 rw [heap_setCell_other _ _ _ _ (by first | (show b ≠ w.heap.size + 1; omega) | (show b ≠ w.heap.size + 1 + 1; omega))]
 case bel =>
  iterate 7 refine Below.setCell ?_ (by first | (show w.heap.size <= w.heap.size + 1; omega) | (show w.heap.size <= w.heap.size + 1 + 1; omega)) _
  exact F0.out.1.2.2.2
end Go.Proofs.YtagmnlmfoanelaaGreat
