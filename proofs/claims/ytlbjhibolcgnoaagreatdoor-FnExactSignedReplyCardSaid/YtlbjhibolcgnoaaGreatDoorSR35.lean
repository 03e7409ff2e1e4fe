/-
  Texts of the proof.
-/
import Derived.Deep.Cut
import Derived.Deep.RegionHeld3
import Derived.Test.YtlbjhibolcgnoaaGreatDoorSR34
set_option maxRecDepth 100000
set_option maxHeartbeats 25600000
namespace Go.Proofs.YtlbjhibolcgnoaaGreatDoor
open Go.RowKit
set_option linter.unusedVariables false
set_option linter.unusedSimpArgs false
theorem toReply_any (c : Rp) (v : Value) (B : Nat) (w : World) (hl : wtAS c.ans <= 1048576) (hB : B <= w.heap.size) (ha : ArgRp B w v c) :
  Calls Tryz.prog 6 #[v] w fun e w' => ∃ u fp, e = .returned u /\ OwnRp w' w.heap.size u c fp /\ Below w.heap.size w w' := by
 obtain ⟨pa, pc, rfl, h1⟩ := ha
 have HA : Hid (ArgAS B w (.slice pa c.ans.length pc) c.ans /\ wtAS c.ans <= 1048576) := ⟨h1, hl⟩
 clear h1 hl
 unfold rpV
 go_enter Tryz.func6, Tryz.ntmps6
 go_upto_region 2 with fail
 obtain ⟨X0, hW3⟩ : ∃ W, W = ((w.alloc (Obj.cells #[.string c.hash, .int .i64 c.nonce, .int .i64 c.time, .int .i64 c.next, .int .i64 c.plan, .int .i64 c.err, .slice pa c.ans.length pc, .string c.sig] 24)).alloc (Obj.cells #[.string ⟨#[]⟩, .int .i64 0, .int .i64 0, .int .i64 0, .int .i64 0, .int .i64 0, .slice none 0 0, .string ⟨#[]⟩] 28)).alloc (Obj.cells #[.string ⟨#[]⟩, .int .i64 0, .int .i64 0, .int .i64 0, .int .i64 0, .int .i64 0, .slice none 0 0, .string ⟨#[]⟩] 28) := ⟨_, rfl⟩
 change Code.wp _ _ _ _ (((w.alloc (Obj.cells #[.string c.hash, .int .i64 c.nonce, .int .i64 c.time, .int .i64 c.next, .int .i64 c.plan, .int .i64 c.err, .slice pa c.ans.length pc, .string c.sig] 24)).alloc (Obj.cells #[.string ⟨#[]⟩, .int .i64 0, .int .i64 0, .int .i64 0, .int .i64 0, .int .i64 0, .slice none 0 0, .string ⟨#[]⟩] 28)).alloc (Obj.cells #[.string ⟨#[]⟩, .int .i64 0, .int .i64 0, .int .i64 0, .int .i64 0, .int .i64 0, .slice none 0 0, .string ⟨#[]⟩] 28))
 rw [<- hW3]
 have e0 : (w.alloc (Obj.cells #[.string c.hash, .int .i64 c.nonce, .int .i64 c.time, .int .i64 c.next, .int .i64 c.plan, .int .i64 c.err, .slice pa c.ans.length pc, .string c.sig] 24)).heap.size = w.heap.size + 1 := Array.size_push _
 have e1 : ((w.alloc (Obj.cells #[.string c.hash, .int .i64 c.nonce, .int .i64 c.time, .int .i64 c.next, .int .i64 c.plan, .int .i64 c.err, .slice pa c.ans.length pc, .string c.sig] 24)).alloc (Obj.cells #[.string ⟨#[]⟩, .int .i64 0, .int .i64 0, .int .i64 0, .int .i64 0, .int .i64 0, .slice none 0 0, .string ⟨#[]⟩] 28)).heap.size = w.heap.size + 1 + 1 := by rw [size_alloc, e0]
 have Y0 : Hid ((Blk X0 w.heap.size 24 #[.string c.hash, .int .i64 c.nonce, .int .i64 c.time, .int .i64 c.next, .int .i64 c.plan, .int .i64 c.err, .slice pa c.ans.length pc, .string c.sig] /\ Blk X0 (w.heap.size + 1) 28 #[.string ⟨#[]⟩, .int .i64 0, .int .i64 0, .int .i64 0, .int .i64 0, .int .i64 0, .slice none 0 0, .string ⟨#[]⟩] /\ Blk X0 (w.heap.size + 1 + 1) 28 #[.string ⟨#[]⟩, .int .i64 0, .int .i64 0, .int .i64 0, .int .i64 0, .int .i64 0, .slice none 0 0, .string ⟨#[]⟩] /\ Below w.heap.size w X0) /\ w.heap.size + 1 + 1 + 1 <= X0.heap.size) := by
  rw [hW3]
  refine ⟨⟨((Blk.new w _ _).alloc _).alloc _, ?_, ?_, (((Below.refl _ _).alloc (Nat.le_refl _) _).alloc (by rw [e0]; omega) _).alloc (by rw [e1]; omega) _⟩, by rw [size_alloc, e1]; omega⟩
  ·have h := (Blk.new (w.alloc (Obj.cells #[.string c.hash, .int .i64 c.nonce, .int .i64 c.time, .int .i64 c.next, .int .i64 c.plan, .int .i64 c.err, .slice pa c.ans.length pc, .string c.sig] 24)) 28 #[.string ⟨#[]⟩, .int .i64 0, .int .i64 0, .int .i64 0, .int .i64 0, .int .i64 0, .slice none 0 0, .string ⟨#[]⟩]).alloc (Obj.cells #[.string ⟨#[]⟩, .int .i64 0, .int .i64 0, .int .i64 0, .int .i64 0, .int .i64 0, .slice none 0 0, .string ⟨#[]⟩] 28)
   rw [e0] at h
   exact h
  ·have h := Blk.new ((w.alloc (Obj.cells #[.string c.hash, .int .i64 c.nonce, .int .i64 c.time, .int .i64 c.next, .int .i64 c.plan, .int .i64 c.err, .slice pa c.ans.length pc, .string c.sig] 24)).alloc (Obj.cells #[.string ⟨#[]⟩, .int .i64 0, .int .i64 0, .int .i64 0, .int .i64 0, .int .i64 0, .slice none 0 0, .string ⟨#[]⟩] 28)) 28 #[.string ⟨#[]⟩, .int .i64 0, .int .i64 0, .int .i64 0, .int .i64 0, .int .i64 0, .slice none 0 0, .string ⟨#[]⟩]
   rw [e1] at h
   exact h
 clear hW3 e0 e1
 have wd1 : w.heap.size ≠ w.heap.size + 1 + 1 := by omega
 have wd2 : w.heap.size + 1 ≠ w.heap.size + 1 + 1 := by omega
 have fr := fun j => Y0.out.1.2.2.1.free j
 have ca0 : X0.cell? ⟨w.heap.size, 0, none⟩ = some (.string c.hash) := Y0.out.1.1.cell 0
 have c20 : X0.cell? ⟨w.heap.size + 1 + 1, 0, none⟩ = some (.string ⟨#[]⟩) := Y0.out.1.2.2.1.cell 0
 have ca1 : X0.cell? ⟨w.heap.size, 1, none⟩ = some (.int .i64 c.nonce) := Y0.out.1.1.cell 1
 have c21 : X0.cell? ⟨w.heap.size + 1 + 1, 1, none⟩ = some (.int .i64 0) := Y0.out.1.2.2.1.cell 1
 go_upto_region 4 with fail
 obtain ⟨X1, hV⟩ : ∃ V, V = ((X0.setCell ⟨w.heap.size + 1 + 1, 0, none⟩ (.string c.hash)).setCell ⟨w.heap.size + 1 + 1, 1, none⟩ (.int .i64 c.nonce)) := ⟨_, rfl⟩
 rw [<- hV]
 have Y1 : Hid ((Blk X1 w.heap.size 24 #[.string c.hash, .int .i64 c.nonce, .int .i64 c.time, .int .i64 c.next, .int .i64 c.plan, .int .i64 c.err, .slice pa c.ans.length pc, .string c.sig] /\ Blk X1 (w.heap.size + 1) 28 #[.string ⟨#[]⟩, .int .i64 0, .int .i64 0, .int .i64 0, .int .i64 0, .int .i64 0, .slice none 0 0, .string ⟨#[]⟩] /\ Blk X1 (w.heap.size + 1 + 1) 28 #[.string c.hash, .int .i64 c.nonce, .int .i64 0, .int .i64 0, .int .i64 0, .int .i64 0, .slice none 0 0, .string ⟨#[]⟩] /\ Below w.heap.size w X1) /\ w.heap.size + 1 + 1 + 1 <= X1.heap.size) := by
  have hbs : Below (w.heap.size + 1 + 1) X0 X1 := by rw [hV]; exact (((Below.refl _ _).setCell (p := ⟨w.heap.size + 1 + 1, 0, none⟩) (Nat.le_refl _) _).setCell (p := ⟨w.heap.size + 1 + 1, 1, none⟩) (Nat.le_refl _) _)
  exact ⟨⟨Y0.out.1.1.below hbs (by omega), Y0.out.1.2.1.below hbs (by omega), by rw [hV]; exact ((Y0.out.1.2.2.1.set 0 _).set 1 _), Y0.out.1.2.2.2.trans (hbs.mono (by omega))⟩, Nat.le_trans Y0.out.2 hbs.size⟩
 clear hV Y0 fr ca0 c20 ca1 c21
 have fr := fun j => Y1.out.1.2.2.1.free j
 have ca2 : X1.cell? ⟨w.heap.size, 2, none⟩ = some (.int .i64 c.time) := Y1.out.1.1.cell 2
 have c22 : X1.cell? ⟨w.heap.size + 1 + 1, 2, none⟩ = some (.int .i64 0) := Y1.out.1.2.2.1.cell 2
 have ca3 : X1.cell? ⟨w.heap.size, 3, none⟩ = some (.int .i64 c.next) := Y1.out.1.1.cell 3
 have c23 : X1.cell? ⟨w.heap.size + 1 + 1, 3, none⟩ = some (.int .i64 0) := Y1.out.1.2.2.1.cell 3
 go_upto_region 6 with fail
 obtain ⟨X2, hV⟩ : ∃ V, V = ((X1.setCell ⟨w.heap.size + 1 + 1, 2, none⟩ (.int .i64 c.time)).setCell ⟨w.heap.size + 1 + 1, 3, none⟩ (.int .i64 c.next)) := ⟨_, rfl⟩
 rw [<- hV]
 have Y2 : Hid ((Blk X2 w.heap.size 24 #[.string c.hash, .int .i64 c.nonce, .int .i64 c.time, .int .i64 c.next, .int .i64 c.plan, .int .i64 c.err, .slice pa c.ans.length pc, .string c.sig] /\ Blk X2 (w.heap.size + 1) 28 #[.string ⟨#[]⟩, .int .i64 0, .int .i64 0, .int .i64 0, .int .i64 0, .int .i64 0, .slice none 0 0, .string ⟨#[]⟩] /\ Blk X2 (w.heap.size + 1 + 1) 28 #[.string c.hash, .int .i64 c.nonce, .int .i64 c.time, .int .i64 c.next, .int .i64 0, .int .i64 0, .slice none 0 0, .string ⟨#[]⟩] /\ Below w.heap.size w X2) /\ w.heap.size + 1 + 1 + 1 <= X2.heap.size) := by
  have hbs : Below (w.heap.size + 1 + 1) X1 X2 := by rw [hV]; exact (((Below.refl _ _).setCell (p := ⟨w.heap.size + 1 + 1, 2, none⟩) (Nat.le_refl _) _).setCell (p := ⟨w.heap.size + 1 + 1, 3, none⟩) (Nat.le_refl _) _)
  exact ⟨⟨Y1.out.1.1.below hbs (by omega), Y1.out.1.2.1.below hbs (by omega), by rw [hV]; exact ((Y1.out.1.2.2.1.set 2 _).set 3 _), Y1.out.1.2.2.2.trans (hbs.mono (by omega))⟩, Nat.le_trans Y1.out.2 hbs.size⟩
 clear hV Y1 fr ca2 c22 ca3 c23
 have fr := fun j => Y2.out.1.2.2.1.free j
 have ca4 : X2.cell? ⟨w.heap.size, 4, none⟩ = some (.int .i64 c.plan) := Y2.out.1.1.cell 4
 have c24 : X2.cell? ⟨w.heap.size + 1 + 1, 4, none⟩ = some (.int .i64 0) := Y2.out.1.2.2.1.cell 4
 have ca5 : X2.cell? ⟨w.heap.size, 5, none⟩ = some (.int .i64 c.err) := Y2.out.1.1.cell 5
 have c25 : X2.cell? ⟨w.heap.size + 1 + 1, 5, none⟩ = some (.int .i64 0) := Y2.out.1.2.2.1.cell 5
 go_upto_region 8 with fail
 obtain ⟨W3, hV⟩ : ∃ V, V = ((X2.setCell ⟨w.heap.size + 1 + 1, 4, none⟩ (.int .i64 c.plan)).setCell ⟨w.heap.size + 1 + 1, 5, none⟩ (.int .i64 c.err)) := ⟨_, rfl⟩
 rw [<- hV]
 have G0 : Hid ((Blk W3 w.heap.size 24 #[.string c.hash, .int .i64 c.nonce, .int .i64 c.time, .int .i64 c.next, .int .i64 c.plan, .int .i64 c.err, .slice pa c.ans.length pc, .string c.sig] /\ Blk W3 (w.heap.size + 1) 28 #[.string ⟨#[]⟩, .int .i64 0, .int .i64 0, .int .i64 0, .int .i64 0, .int .i64 0, .slice none 0 0, .string ⟨#[]⟩] /\ Blk W3 (w.heap.size + 1 + 1) 28 #[.string c.hash, .int .i64 c.nonce, .int .i64 c.time, .int .i64 c.next, .int .i64 c.plan, .int .i64 c.err, .slice none 0 0, .string ⟨#[]⟩] /\ Below w.heap.size w W3) /\ w.heap.size + 1 + 1 + 1 <= W3.heap.size) := by
  have hbs : Below (w.heap.size + 1 + 1) X2 W3 := by rw [hV]; exact (((Below.refl _ _).setCell (p := ⟨w.heap.size + 1 + 1, 4, none⟩) (Nat.le_refl _) _).setCell (p := ⟨w.heap.size + 1 + 1, 5, none⟩) (Nat.le_refl _) _)
  exact ⟨⟨Y2.out.1.1.below hbs (by omega), Y2.out.1.2.1.below hbs (by omega), by rw [hV]; exact ((Y2.out.1.2.2.1.set 4 _).set 5 _), Y2.out.1.2.2.2.trans (hbs.mono (by omega))⟩, Nat.le_trans Y2.out.2 hbs.size⟩
 clear hV Y2 fr ca4 c24 ca5 c25
 have ca : W3.cell? ⟨w.heap.size, 6, none⟩ = some (.slice pa c.ans.length pc) := G0.out.1.1.cell 6
 go_wp2_with fail
 clear ca
 refine (toAnswerS_any (.slice pa c.ans.length pc) c.ans B W3 HA.out.2 (Nat.le_trans hB G0.out.1.2.2.2.size) (HA.out.1.below (G0.out.1.2.2.2.mono hB) (Nat.le_refl _))).mono ?_
 rintro r u1 ⟨p, fp, rfl, op, hb⟩
 have F1 : Hid ((Blk u1 w.heap.size 24 #[.string c.hash, .int .i64 c.nonce, .int .i64 c.time, .int .i64 c.next, .int .i64 c.plan, .int .i64 c.err, .slice pa c.ans.length pc, .string c.sig] /\ Blk u1 (w.heap.size + 1) 28 #[.string ⟨#[]⟩, .int .i64 0, .int .i64 0, .int .i64 0, .int .i64 0, .int .i64 0, .slice none 0 0, .string ⟨#[]⟩] /\ Blk u1 (w.heap.size + 1 + 1) 28 #[.string c.hash, .int .i64 c.nonce, .int .i64 c.time, .int .i64 c.next, .int .i64 c.plan, .int .i64 c.err, .slice none 0 0, .string ⟨#[]⟩] /\ Below w.heap.size w u1) /\ w.heap.size + 1 + 1 + 1 <= u1.heap.size /\ OwnS awKd u1 (w.heap.size + 1 + 1 + 1) p c.ans fp) := by
  have hz := G0.out.2
  exact ⟨⟨G0.out.1.1.below hb (by omega), G0.out.1.2.1.below hb (by omega), G0.out.1.2.2.1.below hb (by omega), G0.out.1.2.2.2.trans (hb.mono G0.out.1.2.2.2.size)⟩, Nat.le_trans hz hb.size, op.base hz⟩
 clear op hb G0
 have fr := fun j => F1.out.1.2.2.1.free j
 obtain ⟨qp, mp, hsp⟩ : ∃ ao cap, p = .slice ao c.ans.length cap := F1.out.2.2.at.shape
 obtain ⟨lp, hlp⟩ := zE (c.ans.length)
 rw [hlp] at hsp
 clear hlp
 subst hsp
 have ca : u1.cell? ⟨w.heap.size, 7, none⟩ = some (.string c.sig) := F1.out.1.1.cell 7
 have c26 : u1.cell? ⟨w.heap.size + 1 + 1, 6, none⟩ = some (.slice none 0 0) := F1.out.1.2.2.1.cell 6
 have c27 : u1.cell? ⟨w.heap.size + 1 + 1, 7, none⟩ = some (.string ⟨#[]⟩) := F1.out.1.2.2.1.cell 7
 go_upto_region 10 with fail
 obtain ⟨V1, hV⟩ : ∃ V, V = (u1.setCell ⟨w.heap.size + 1 + 1, 6, none⟩ (.slice qp lp mp)).setCell ⟨w.heap.size + 1 + 1, 7, none⟩ (.string c.sig) := ⟨_, rfl⟩
 rw [<- hV]
 have G1 : Hid ((Blk V1 w.heap.size 24 #[.string c.hash, .int .i64 c.nonce, .int .i64 c.time, .int .i64 c.next, .int .i64 c.plan, .int .i64 c.err, .slice pa c.ans.length pc, .string c.sig] /\ Blk V1 (w.heap.size + 1) 28 #[.string ⟨#[]⟩, .int .i64 0, .int .i64 0, .int .i64 0, .int .i64 0, .int .i64 0, .slice none 0 0, .string ⟨#[]⟩] /\ Blk V1 (w.heap.size + 1 + 1) 28 #[.string c.hash, .int .i64 c.nonce, .int .i64 c.time, .int .i64 c.next, .int .i64 c.plan, .int .i64 c.err, .slice qp lp mp, .string c.sig] /\ Below w.heap.size w V1) /\ OwnS awKd V1 (w.heap.size + 1 + 1 + 1) (.slice qp lp mp) c.ans fp) := by
  have hbs : Below (w.heap.size + 1 + 1) u1 V1 := by rw [hV]; exact ((Below.refl _ _).setCell (p := ⟨w.heap.size + 1 + 1, 6, none⟩) (Nat.le_refl _) _).setCell (p := ⟨w.heap.size + 1 + 1, 7, none⟩) (Nat.le_refl _) _
  exact ⟨⟨F1.out.1.1.below hbs (by omega), F1.out.1.2.1.below hbs (by omega), by rw [hV]; exact (F1.out.1.2.2.1.set 6 _).set 7 _, F1.out.1.2.2.2.trans (hbs.mono (by omega))⟩, F1.out.2.2.same fun b hb => by rw [hV, heap_setCell_other _ _ _ _ (by have := (F1.out.2.2.lt b hb).1; show b ≠ w.heap.size + 1 + 1; omega), heap_setCell_other _ _ _ _ (by have := (F1.out.2.2.lt b hb).1; show b ≠ w.heap.size + 1 + 1; omega)]⟩
 clear hV F1 fr ca c26 c27
 have f1 := fun j => G1.out.1.2.1.free j
 have c10 : V1.cell? ⟨w.heap.size + 1, 0, none⟩ = some (.string ⟨#[]⟩) := G1.out.1.2.1.cell 0
 have c20 : V1.cell? ⟨w.heap.size + 1 + 1, 0, none⟩ = some (.string c.hash) := G1.out.1.2.2.1.cell 0
 have c11 : V1.cell? ⟨w.heap.size + 1, 1, none⟩ = some (.int .i64 0) := G1.out.1.2.1.cell 1
 have c21 : V1.cell? ⟨w.heap.size + 1 + 1, 1, none⟩ = some (.int .i64 c.nonce) := G1.out.1.2.2.1.cell 1
 have c12 : V1.cell? ⟨w.heap.size + 1, 2, none⟩ = some (.int .i64 0) := G1.out.1.2.1.cell 2
 have c22 : V1.cell? ⟨w.heap.size + 1 + 1, 2, none⟩ = some (.int .i64 c.time) := G1.out.1.2.2.1.cell 2
 have c13 : V1.cell? ⟨w.heap.size + 1, 3, none⟩ = some (.int .i64 0) := G1.out.1.2.1.cell 3
 have c23 : V1.cell? ⟨w.heap.size + 1 + 1, 3, none⟩ = some (.int .i64 c.next) := G1.out.1.2.2.1.cell 3
 have c14 : V1.cell? ⟨w.heap.size + 1, 4, none⟩ = some (.int .i64 0) := G1.out.1.2.1.cell 4
 have c24 : V1.cell? ⟨w.heap.size + 1 + 1, 4, none⟩ = some (.int .i64 c.plan) := G1.out.1.2.2.1.cell 4
 have c15 : V1.cell? ⟨w.heap.size + 1, 5, none⟩ = some (.int .i64 0) := G1.out.1.2.1.cell 5
 have c25 : V1.cell? ⟨w.heap.size + 1 + 1, 5, none⟩ = some (.int .i64 c.err) := G1.out.1.2.2.1.cell 5
 have c16 : V1.cell? ⟨w.heap.size + 1, 6, none⟩ = some (.slice none 0 0) := G1.out.1.2.1.cell 6
 have c26 : V1.cell? ⟨w.heap.size + 1 + 1, 6, none⟩ = some (.slice qp lp mp) := G1.out.1.2.2.1.cell 6
 have c17 : V1.cell? ⟨w.heap.size + 1, 7, none⟩ = some (.string ⟨#[]⟩) := G1.out.1.2.1.cell 7
 have c27 : V1.cell? ⟨w.heap.size + 1 + 1, 7, none⟩ = some (.string c.sig) := G1.out.1.2.2.1.cell 7
 go_wp2_with fail
 refine bodyPost_ret (v := rpV c (.slice qp lp mp)) (by simp [results, Tryz.results6, go_sem, rpV, c10, c11, c12, c13, c14, c15, c16, c17]) rfl ⟨_, fp, rfl, ⟨_, rfl, (G1.out.2.same ?far).base (by omega)⟩, ?bel⟩
 case far =>
  intro b hb
  have := (G1.out.2.lt b hb).1
  iterate 8 rw [heap_setCell_other _ _ _ _ (by show b ≠ w.heap.size + 1; omega)]
 case bel =>
  iterate 8 refine Below.setCell ?_ (by show w.heap.size <= w.heap.size + 1; omega) _
  exact G1.out.1.2.2.2
theorem szReply_any (c : Rp) (v : Value) (left : Int) (w : World) (hwd : WdRp c) (h0 : 0 <= left) (hl : left <= 1048576) (ha : ArgRp w.heap.size w v c) :
  Calls Tryz.prog 4 #[v, .int .i64 left] w fun e w' => e = .returned (.int .i64 (szRp c left)) /\ Below w.heap.size w w' := by
 obtain ⟨pa, pc, rfl, h1⟩ := ha
 obtain ⟨_, hwt, hwa, hln⟩ := hwd
 have hs1 := hwt c.hash (by simp)
 have hs2 := hwt c.sig (by simp)
 unfold rpV
 have w1 : IntKind.i64.wrap (left - (c.hash.size : Int)) = left - (c.hash.size : Int) := by rw [IntKind.wrap_i64]; omega
 by_cases g0 : left < (c.hash.size : Int)
 ·have HF : Hid (szRp c left = -1) := by show szRp c left = -1; unfold szRp wtR; rw [if_neg (by omega)]
  have n1 : left - (c.hash.size : Int) < 0 := by omega
  clear h1 hwa hwt hln
  go_enter Tryz.func4, Tryz.ntmps4
  go_wp2_with fail
  go_ret
  exact ⟨by rw [HF.out]; rfl, (Below.refl _ _).alloc (Nat.le_refl _) _⟩
 have n1 : ¬ left - (c.hash.size : Int) < 0 := by omega
 obtain ⟨r1, hr1⟩ : ∃ r : Int, left - (c.hash.size : Int) = r := ⟨_, rfl⟩
 rw [hr1] at w1 n1
 obtain ⟨r2, hr2⟩ : ∃ r : Int, r = if (wtAS c.ans : Int) <= r1 then r1 - (wtAS c.ans : Int) else -1 := ⟨_, rfl⟩
 have Z2 : Hid (∀ W, Below w.heap.size w W -> Calls Tryz.prog 11 #[.slice pa c.ans.length pc, .int .i64 r1] W fun e w' => e = .returned (.int .i64 r2) /\ Below W.heap.size W w') := fun W hb => by rw [hr2]; exact szAnswerS_any (.slice pa c.ans.length pc) c.ans r1 W hln hwa (by omega) (by omega) ((h1.below hb hb.size))
 by_cases g1 : r2 < 0
 ·have HF : Hid (szRp c left = -1) := by show szRp c left = -1; unfold szRp wtR; rw [if_neg (by split at hr2 <;> omega)]
  have e2 : r2 = -1 := by split at hr2 <;> omega
  clear hr2 h1 hwa hwt hln g1
  subst e2
  go_enter Tryz.func4, Tryz.ntmps4
  go_wp2_with fail
  obtain ⟨V, hV⟩ : ∃ V, V = w.alloc (Obj.cells #[.string c.hash, .int .i64 c.nonce, .int .i64 c.time, .int .i64 c.next, .int .i64 c.plan, .int .i64 c.err, .slice pa c.ans.length pc, .string c.sig] 24) := ⟨_, rfl⟩
  rw [<- hV]
  have G : Hid (Below w.heap.size w V /\ Blk V w.heap.size 24 #[.string c.hash, .int .i64 c.nonce, .int .i64 c.time, .int .i64 c.next, .int .i64 c.plan, .int .i64 c.err, .slice pa c.ans.length pc, .string c.sig]) := by rw [hV]; exact ⟨(Below.refl _ _).alloc (Nat.le_refl _) _, Blk.new w _ _⟩
  clear hV
  refine (Z2.out V G.out.1).mono ?_
  rintro e V2 ⟨rfl, hb⟩
  have G2 : Hid (Below w.heap.size w V2 /\ Blk V2 w.heap.size 24 #[.string c.hash, .int .i64 c.nonce, .int .i64 c.time, .int .i64 c.next, .int .i64 c.plan, .int .i64 c.err, .slice pa c.ans.length pc, .string c.sig]) := ⟨G.out.1.trans (hb.mono G.out.1.size), G.out.2.below hb G.out.2.lt⟩
  clear hb G
  have c7 : V2.cell? ⟨w.heap.size, 7, none⟩ = some (.string c.sig) := G2.out.2.cell 7
  go_wp2_with fail
  go_ret
  exact ⟨by rw [HF.out]; rfl, G2.out.1⟩
 have e2 : r2 = r1 - (wtAS c.ans : Int) /\ (wtAS c.ans : Int) <= r1 := by split at hr2 <;> omega
 have w3 : IntKind.i64.wrap (r2 - (c.sig.size : Int)) = r2 - (c.sig.size : Int) := by rw [IntKind.wrap_i64]; omega
 by_cases g2 : r2 < (c.sig.size : Int)
 ·have HF : Hid (szRp c left = -1) := by show szRp c left = -1; unfold szRp wtR; rw [if_neg (by omega)]
  have n3 : r2 - (c.sig.size : Int) < 0 := by omega
  clear hr2 h1 hwa hwt hln e2
  go_enter Tryz.func4, Tryz.ntmps4
  go_wp2_with fail
  obtain ⟨V, hV⟩ : ∃ V, V = w.alloc (Obj.cells #[.string c.hash, .int .i64 c.nonce, .int .i64 c.time, .int .i64 c.next, .int .i64 c.plan, .int .i64 c.err, .slice pa c.ans.length pc, .string c.sig] 24) := ⟨_, rfl⟩
  rw [<- hV]
  have G : Hid (Below w.heap.size w V /\ Blk V w.heap.size 24 #[.string c.hash, .int .i64 c.nonce, .int .i64 c.time, .int .i64 c.next, .int .i64 c.plan, .int .i64 c.err, .slice pa c.ans.length pc, .string c.sig]) := by rw [hV]; exact ⟨(Below.refl _ _).alloc (Nat.le_refl _) _, Blk.new w _ _⟩
  clear hV
  refine (Z2.out V G.out.1).mono ?_
  rintro e V2 ⟨rfl, hb⟩
  have G2 : Hid (Below w.heap.size w V2 /\ Blk V2 w.heap.size 24 #[.string c.hash, .int .i64 c.nonce, .int .i64 c.time, .int .i64 c.next, .int .i64 c.plan, .int .i64 c.err, .slice pa c.ans.length pc, .string c.sig]) := ⟨G.out.1.trans (hb.mono G.out.1.size), G.out.2.below hb G.out.2.lt⟩
  clear hb G
  have c7 : V2.cell? ⟨w.heap.size, 7, none⟩ = some (.string c.sig) := G2.out.2.cell 7
  go_wp2_with fail
  go_ret
  exact ⟨by rw [HF.out]; rfl, G2.out.1⟩
 ·have HF : Hid (szRp c left = r2 - (c.sig.size : Int)) := by show szRp c left = _; unfold szRp wtR; rw [if_pos (by omega)]; omega
  have n3 : ¬ r2 - (c.sig.size : Int) < 0 := by omega
  clear hr2 h1 hwa hwt hln e2
  go_enter Tryz.func4, Tryz.ntmps4
  go_wp2_with fail
  obtain ⟨V, hV⟩ : ∃ V, V = w.alloc (Obj.cells #[.string c.hash, .int .i64 c.nonce, .int .i64 c.time, .int .i64 c.next, .int .i64 c.plan, .int .i64 c.err, .slice pa c.ans.length pc, .string c.sig] 24) := ⟨_, rfl⟩
  rw [<- hV]
  have G : Hid (Below w.heap.size w V /\ Blk V w.heap.size 24 #[.string c.hash, .int .i64 c.nonce, .int .i64 c.time, .int .i64 c.next, .int .i64 c.plan, .int .i64 c.err, .slice pa c.ans.length pc, .string c.sig]) := by rw [hV]; exact ⟨(Below.refl _ _).alloc (Nat.le_refl _) _, Blk.new w _ _⟩
  clear hV
  refine (Z2.out V G.out.1).mono ?_
  rintro e V2 ⟨rfl, hb⟩
  have G2 : Hid (Below w.heap.size w V2 /\ Blk V2 w.heap.size 24 #[.string c.hash, .int .i64 c.nonce, .int .i64 c.time, .int .i64 c.next, .int .i64 c.plan, .int .i64 c.err, .slice pa c.ans.length pc, .string c.sig]) := ⟨G.out.1.trans (hb.mono G.out.1.size), G.out.2.below hb G.out.2.lt⟩
  clear hb G
  have c7 : V2.cell? ⟨w.heap.size, 7, none⟩ = some (.string c.sig) := G2.out.2.cell 7
  go_wp2_with fail
  go_ret
  exact ⟨by rw [HF.out]; rfl, G2.out.1⟩
theorem eqReply_same (c : Rp) (a b : Value) (w : World) (hl : wtAS c.ans <= 1000000000) (ha : RpAt w a c) (hb : RpAt w b c) :
  Calls Tryz.prog 8 #[a, b] w fun e w' => e = .returned (.bool true) /\ Below w.heap.size w w' := by
 obtain ⟨pv, rfl, h1⟩ := ha
 obtain ⟨pu, rfl, k1⟩ := hb
 have HQ : Hid (∀ W, Below w.heap.size w W -> Calls Tryz.prog 19 #[pv, pu] W (fun e w' => e = .returned (.bool true) /\ Below W.heap.size W w')) := fun W hb => eqAnswerS_same c.ans pv pu W hl (h1.below hb) (k1.below hb)
 obtain ⟨lp, hlp⟩ := zE (c.ans.length)
 obtain ⟨pa, pc, hpa⟩ := h1.shape
 obtain ⟨pb, qc, hpb⟩ := k1.shape
 rw [hlp] at hpa hpb
 subst hpa hpb
 clear hlp hl h1 k1
 unfold rpV
 go_enter Tryz.func8, Tryz.ntmps8
 go_upto_region 1 with fail
 obtain ⟨V1, hV⟩ : ∃ V, V = (w.alloc (Obj.cells #[.string c.hash, .int .i64 c.nonce, .int .i64 c.time, .int .i64 c.next, .int .i64 c.plan, .int .i64 c.err, .slice pa lp pc, .string c.sig] 28)).alloc (Obj.cells #[.string c.hash, .int .i64 c.nonce, .int .i64 c.time, .int .i64 c.next, .int .i64 c.plan, .int .i64 c.err, .slice pb lp qc, .string c.sig] 28) := ⟨_, rfl⟩
 rw [<- hV]
 have G1 : Hid (Blk V1 w.heap.size 28 #[.string c.hash, .int .i64 c.nonce, .int .i64 c.time, .int .i64 c.next, .int .i64 c.plan, .int .i64 c.err, .slice pa lp pc, .string c.sig] /\ Blk V1 (w.heap.size + 1) 28 #[.string c.hash, .int .i64 c.nonce, .int .i64 c.time, .int .i64 c.next, .int .i64 c.plan, .int .i64 c.err, .slice pb lp qc, .string c.sig] /\ Below w.heap.size w V1 /\ w.heap.size + 1 < V1.heap.size) := by
  have e0 : (w.alloc (Obj.cells #[.string c.hash, .int .i64 c.nonce, .int .i64 c.time, .int .i64 c.next, .int .i64 c.plan, .int .i64 c.err, .slice pa lp pc, .string c.sig] 28)).heap.size = w.heap.size + 1 := Array.size_push _
  have h := Blk.new (w.alloc (Obj.cells #[.string c.hash, .int .i64 c.nonce, .int .i64 c.time, .int .i64 c.next, .int .i64 c.plan, .int .i64 c.err, .slice pa lp pc, .string c.sig] 28)) 28 #[.string c.hash, .int .i64 c.nonce, .int .i64 c.time, .int .i64 c.next, .int .i64 c.plan, .int .i64 c.err, .slice pb lp qc, .string c.sig]
  rw [e0] at h
  rw [hV]
  exact ⟨(Blk.new w _ _).alloc _, h, ((Below.refl _ _).alloc (Nat.le_refl _) _).alloc (by rw [e0]; omega) _, by rw [size_alloc, e0]; omega⟩
 clear hV
 have a0 : V1.cell? ⟨w.heap.size, 0, none⟩ = some (.string c.hash) := G1.out.1.cell 0
 have b0 : V1.cell? ⟨w.heap.size + 1, 0, none⟩ = some (.string c.hash) := G1.out.2.1.cell 0
 have a1 : V1.cell? ⟨w.heap.size, 1, none⟩ = some (.int .i64 c.nonce) := G1.out.1.cell 1
 have b1 : V1.cell? ⟨w.heap.size + 1, 1, none⟩ = some (.int .i64 c.nonce) := G1.out.2.1.cell 1
 have a2 : V1.cell? ⟨w.heap.size, 2, none⟩ = some (.int .i64 c.time) := G1.out.1.cell 2
 have b2 : V1.cell? ⟨w.heap.size + 1, 2, none⟩ = some (.int .i64 c.time) := G1.out.2.1.cell 2
 have a3 : V1.cell? ⟨w.heap.size, 3, none⟩ = some (.int .i64 c.next) := G1.out.1.cell 3
 have b3 : V1.cell? ⟨w.heap.size + 1, 3, none⟩ = some (.int .i64 c.next) := G1.out.2.1.cell 3
 have a4 : V1.cell? ⟨w.heap.size, 4, none⟩ = some (.int .i64 c.plan) := G1.out.1.cell 4
 have b4 : V1.cell? ⟨w.heap.size + 1, 4, none⟩ = some (.int .i64 c.plan) := G1.out.2.1.cell 4
 have a5 : V1.cell? ⟨w.heap.size, 5, none⟩ = some (.int .i64 c.err) := G1.out.1.cell 5
 have b5 : V1.cell? ⟨w.heap.size + 1, 5, none⟩ = some (.int .i64 c.err) := G1.out.2.1.cell 5
 have a6 : V1.cell? ⟨w.heap.size, 6, none⟩ = some (.slice pa lp pc) := G1.out.1.cell 6
 have b6 : V1.cell? ⟨w.heap.size + 1, 6, none⟩ = some (.slice pb lp qc) := G1.out.2.1.cell 6
 go_wp2_with fail
 clear a0 b0 a1 b1 a2 b2 a3 b3 a4 b4 a5 b5 a6 b6
 refine (HQ.out V1 G1.out.2.2.1).mono ?_
 rintro e V2 ⟨rfl, hb⟩
 have G2 : Hid (Blk V2 w.heap.size 28 #[.string c.hash, .int .i64 c.nonce, .int .i64 c.time, .int .i64 c.next, .int .i64 c.plan, .int .i64 c.err, .slice pa lp pc, .string c.sig] /\ Blk V2 (w.heap.size + 1) 28 #[.string c.hash, .int .i64 c.nonce, .int .i64 c.time, .int .i64 c.next, .int .i64 c.plan, .int .i64 c.err, .slice pb lp qc, .string c.sig] /\ Below w.heap.size w V2 /\ w.heap.size + 1 < V2.heap.size) := ⟨G1.out.1.below hb (by have := G1.out.2.2.2; omega), G1.out.2.1.below hb G1.out.2.2.2, G1.out.2.2.1.trans (hb.mono G1.out.2.2.1.size), Nat.lt_of_lt_of_le G1.out.2.2.2 hb.size⟩
 clear hb G1
 have ca : V2.cell? ⟨w.heap.size, 7, none⟩ = some (.string c.sig) := G2.out.1.cell 7
 have cb : V2.cell? ⟨w.heap.size + 1, 7, none⟩ = some (.string c.sig) := G2.out.2.1.cell 7
 go_wp2_with fail
 go_ret
 exact ⟨rfl, G2.out.2.2.1⟩
theorem eqT_sameO (a b : Value) (l : List ByteArray) (w : World) (hl : l.length <= 1000000000) (ha : TxtO w a l) (hb : TxtO w b l) : Calls Tryz.prog 78 #[a, b] w fun e w' => e = .returned (.bool true) /\ Below w.heap.size w w' := by
 obtain ⟨ao, ca, rfl, hca⟩ := ha
 obtain ⟨bo, cb, rfl, hcb⟩ := hb
 have HA : Hid (∀ j, j < l.length -> ∃ g o, ao = some ⟨g, o, none⟩ /\ g < w.heap.size /\ w.cell? ⟨g, o + j, none⟩ = some (.string (l.getD j ByteArray.empty))) := hca
 have HB : Hid (∀ j, j < l.length -> ∃ g o, bo = some ⟨g, o, none⟩ /\ g < w.heap.size /\ w.cell? ⟨g, o + j, none⟩ = some (.string (l.getD j ByteArray.empty))) := hcb
 clear hca hcb
 go_enter Tryz.func78, Tryz.ntmps78
 go_wp2
 go_loopw [5] (fun iv wr => ∃ k : Nat, k <= l.length /\ iv = .int .i64 k /\ Below w.heap.size w wr) (fun iv _ => l.length - (intOf iv).toNat)
 case atStart => exact ⟨0, Nat.zero_le _, rfl, Below.refl _ _⟩
 case round =>
  obtain ⟨k, hk, rfl, hbel⟩ := hrel
  by_cases hlt : k < l.length
  ·obtain ⟨ga, oa, hao, hga, hca⟩ := HA.out k hlt
   obtain ⟨gb, ob, hbo, hgb, hcb⟩ := HB.out k hlt
   have c1 : wr.cell? ⟨ga, oa + k, none⟩ = some (.string (l.getD k ByteArray.empty)) := (hbel.cell (p := ⟨ga, oa + k, none⟩) hga).trans hca
   have c2 : wr.cell? ⟨gb, ob + k, none⟩ = some (.string (l.getD k ByteArray.empty)) := (hbel.cell (p := ⟨gb, ob + k, none⟩) hgb).trans hcb
   generalize l.getD k ByteArray.empty = x at *
   subst hao hbo
   clear hca hcb
   have hki : (k : Int) < (l.length : Int) := by omega
   have hk0 : (0 : Int) <= (k : Int) := by omega
   go_wp2_with fail
   go_region_held3 (fun w' => w'.cell? ⟨ga, oa + k, none⟩ = some (.string x) /\ w'.cell? ⟨gb, ob + k, none⟩ = some (.string x)) (go_keep) (fail)
   all_goals
    go_wp2
    go_roundw
    case rel => exact ⟨k + 1, by omega, by go_num, hbel.drew⟩
    case measure => simp [intOf]; omega
  ·go_wp2
   go_ret
   exact ⟨rfl, hbel⟩
theorem eqAnswer_sameO (c : Aw) (a b : Value) (w : World) (hl : c.path.length <= 1000000000 /\ c.lst.length <= 1000000000) (ha : AwO w a c) (hb : AwO w b c) :
  Calls Tryz.prog 43 #[a, b] w fun e w' => e = .returned (.bool true) /\ Below w.heap.size w w' := by
 obtain ⟨pv, ev, rfl, h1, h2⟩ := ha
 obtain ⟨pu, eu, rfl, k1, k2⟩ := hb
 have HQ : Hid (∀ W, Below w.heap.size w W -> Calls Tryz.prog 78 #[pv, pu] W (fun e w' => e = .returned (.bool true) /\ Below W.heap.size W w')) := fun W hb => eqT_sameO pv pu c.path W hl.1 (h1.below hb) (k1.below hb)
 have HQ2 : Hid (∀ W, Below w.heap.size w W -> Calls Tryz.prog 78 #[ev, eu] W (fun e w' => e = .returned (.bool true) /\ Below W.heap.size W w')) := fun W hb => eqT_sameO ev eu c.lst W hl.2 (h2.below hb) (k2.below hb)
 obtain ⟨lp, hlp⟩ := zE (c.path.length)
 obtain ⟨le, hle⟩ := zE (c.lst.length)
 obtain ⟨pa, pc, hpa, _⟩ := h1
 obtain ⟨pb, qc, hpb, _⟩ := k1
 obtain ⟨ea, ec, hea, _⟩ := h2
 obtain ⟨eb, fc, heb, _⟩ := k2
 rw [hlp] at hpa hpb
 rw [hle] at hea heb
 subst hpa hpb hea heb
 clear hlp hle hl
 unfold awV
 go_enter Tryz.func43, Tryz.ntmps43
 go_wp2_with fail
 obtain ⟨V1, hV⟩ : ∃ V, V = (w.alloc (Obj.cells #[.int .i64 c.status, .int .i64 c.why, .slice pa lp pc, .slice ea le ec] 45)).alloc (Obj.cells #[.int .i64 c.status, .int .i64 c.why, .slice pb lp qc, .slice eb le fc] 45) := ⟨_, rfl⟩
 rw [<- hV]
 have G1 : Hid (Blk V1 w.heap.size 45 #[.int .i64 c.status, .int .i64 c.why, .slice pa lp pc, .slice ea le ec] /\ Blk V1 (w.heap.size + 1) 45 #[.int .i64 c.status, .int .i64 c.why, .slice pb lp qc, .slice eb le fc] /\ Below w.heap.size w V1 /\ w.heap.size + 1 < V1.heap.size) := by
  have e0 : (w.alloc (Obj.cells #[.int .i64 c.status, .int .i64 c.why, .slice pa lp pc, .slice ea le ec] 45)).heap.size = w.heap.size + 1 := Array.size_push _
  have h := Blk.new (w.alloc (Obj.cells #[.int .i64 c.status, .int .i64 c.why, .slice pa lp pc, .slice ea le ec] 45)) 45 #[.int .i64 c.status, .int .i64 c.why, .slice pb lp qc, .slice eb le fc]
  rw [e0] at h
  rw [hV]
  exact ⟨(Blk.new w _ _).alloc _, h, ((Below.refl _ _).alloc (Nat.le_refl _) _).alloc (by rw [e0]; omega) _, by rw [size_alloc, e0]; omega⟩
 clear hV
 refine (HQ.out V1 G1.out.2.2.1).mono ?_
 rintro e V2 ⟨rfl, hb⟩
 have G2 : Hid (Blk V2 w.heap.size 45 #[.int .i64 c.status, .int .i64 c.why, .slice pa lp pc, .slice ea le ec] /\ Blk V2 (w.heap.size + 1) 45 #[.int .i64 c.status, .int .i64 c.why, .slice pb lp qc, .slice eb le fc] /\ Below w.heap.size w V2 /\ w.heap.size + 1 < V2.heap.size) := ⟨G1.out.1.below hb (by have := G1.out.2.2.2; omega), G1.out.2.1.below hb G1.out.2.2.2, G1.out.2.2.1.trans (hb.mono G1.out.2.2.1.size), Nat.lt_of_lt_of_le G1.out.2.2.2 hb.size⟩
 clear hb G1
 have ca3 : V2.cell? ⟨w.heap.size, 3, none⟩ = some (.slice ea le ec) := G2.out.1.cell 3
 have cb3 : V2.cell? ⟨w.heap.size + 1, 3, none⟩ = some (.slice eb le fc) := G2.out.2.1.cell 3
 go_wp2_with fail
 clear ca3 cb3
 refine (HQ2.out V2 G2.out.2.2.1).mono ?_
 rintro e V3 ⟨rfl, hb⟩
 have G3 : Hid (Below w.heap.size w V3) := G2.out.2.2.1.trans (hb.mono G2.out.2.2.1.size)
 clear hb G2
 go_wp2_with fail
 go_ret
 exact ⟨rfl, G3.out⟩
theorem eqAnswerS_sameO (l : List Aw) (a b : Value) (w : World) (hl : wtAS l <= 1000000000) (ha : AtS awWd w a l) (hb : AtS awWd w b l) :
  Calls Tryz.prog 19 #[a, b] w fun e w' => e = .returned (.bool true) /\ Below w.heap.size w w' := by
 obtain ⟨ax, cx, hv⟩ := ha.shape
 obtain ⟨ay, cy, hu⟩ := hb.shape
 obtain ⟨len, hlen⟩ := zE (l.length)
 rw [hlen] at hv hu
 subst hv hu
 have hl20 : len <= 1000000000 := by unfold wtAS at hl; omega
 have HX : Hid (AtS awWd w (.slice ax len cx) l /\ AtS awWd w (.slice ay len cy) l /\ l.length = len /\ wtAS l <= 1000000000) := ⟨ha, hb, hlen, hl⟩
 clear ha hb hlen hl
 go_enter Tryz.func19, Tryz.ntmps19
 go_wp2_with fail
 go_loopw [5] (fun iv wr => ∃ k : Nat, k <= len /\ iv = .int .i64 k /\ Hid (Below w.heap.size w wr)) (fun iv _ => len - (intOf iv).toNat)
 case atStart => exact ⟨0, Nat.zero_le _, rfl, Below.refl _ _⟩
 case round =>
  obtain ⟨k, hk, rfl, HB⟩ := hrel
  by_cases hkn : k < len
  ·have hkl : k < l.length := by rw [HX.out.2.2.1]; exact hkn
   obtain ⟨g1, o1, u1, hax, hg1, hP1, hs1, hc1⟩ := HX.out.1.get hkl
   obtain ⟨g2, o2, u2, hay, hg2, hP2, hs2, hc2⟩ := HX.out.2.1.get hkl
   subst hax hay
   obtain ⟨c, hc⟩ := zE (l[k])
   have hBd : Below w.heap.size w wr.drew := HB.out.drew
   have hrl : c.path.length <= 1000000000 /\ c.lst.length <= 1000000000 := by
    have h1 := wtAS_mem (List.getElem_mem hkl)
    rw [hc] at h1
    exact wtAw_lens (Nat.le_trans h1 HX.out.2.2.2)
   have HR := eqAnswer_sameO c u1 u2 wr.drew hrl (by rw [<- hc]; exact AwO.below hP1 hBd) (by rw [<- hc]; exact AwO.below hP2 hBd)
   obtain ⟨p1, q1, e1, r1, hu1⟩ := AwO.shape hP1
   obtain ⟨p2, q2, e2, r2, hu2⟩ := AwO.shape hP2
   rw [hc] at hu1 hu2
   subst hu1 hu2
   have hf1 : ∀ (W : World) (i : Nat) (x : Value), Below w.heap.size w W -> (awV c (.slice p1 c.path.length q1) (.slice e1 c.lst.length r1)).cells[i]? = some x -> W.cell? ⟨g1, o1 + k * 4 + i, none⟩ = some x := fun W i x hW hx => (hW.cell (p := ⟨g1, o1 + k * 4 + i, none⟩) hg1).trans (hc1 i x hx)
   have hf2 : ∀ (W : World) (i : Nat) (x : Value), Below w.heap.size w W -> (awV c (.slice p2 c.path.length q2) (.slice e2 c.lst.length r2)).cells[i]? = some x -> W.cell? ⟨g2, o2 + k * 4 + i, none⟩ = some x := fun W i x hW hx => (hW.cell (p := ⟨g2, o2 + k * 4 + i, none⟩) hg2).trans (hc2 i x hx)
   have HS : Hid (∀ W, Below w.heap.size w W -> (W.cell? ⟨g1, o1 + k * 4, none⟩ = some (.int .i64 c.status) /\ W.cell? ⟨g1, o1 + k * 4 + 1, none⟩ = some (.int .i64 c.why) /\ W.cell? ⟨g1, o1 + k * 4 + 2, none⟩ = some (.slice p1 c.path.length q1) /\ W.cell? ⟨g1, o1 + k * 4 + 3, none⟩ = some (.slice e1 c.lst.length r1)) /\ (W.cell? ⟨g2, o2 + k * 4, none⟩ = some (.int .i64 c.status) /\ W.cell? ⟨g2, o2 + k * 4 + 1, none⟩ = some (.int .i64 c.why) /\ W.cell? ⟨g2, o2 + k * 4 + 2, none⟩ = some (.slice p2 c.path.length q2) /\ W.cell? ⟨g2, o2 + k * 4 + 3, none⟩ = some (.slice e2 c.lst.length r2))) := fun W hW =>
    ⟨⟨hf1 W 0 _ hW rfl, hf1 W 1 _ hW rfl, hf1 W 2 _ hW rfl, hf1 W 3 _ hW rfl⟩, hf2 W 0 _ hW rfl, hf2 W 1 _ hW rfl, hf2 W 2 _ hW rfl, hf2 W 3 _ hW rfl⟩
   have hki : (k : Int) < (len : Int) := by omega
   have hk0 : (0 : Int) <= (k : Int) := by omega
   unfold awV at HR
   clear hf1 hf2 hc1 hc2 hP1 hP2 hs1 hs2 hg1 hg2 hc hkl
   go_upto_region 6 with fail
   refine wp_region_held_drew (S := fun W => Below w.heap.size w W) (by kernel_rfl) hBd (fun hHeld => ?_)
   clear hBd
   have HBW : Hid (Below w.heap.size w wr.drew) := hHeld
   refine zT 0 17 ?_ rfl (by rfl) ?_ hHeld ?_
   rotate_left
   ·intro W hSw
    go_simp
    try with_reducible rfl
   try simp only [Act.put, zA, zB, zC]
   refine zT 1 18 ?_ rfl (by rfl) ?_ hHeld ?_
   rotate_left
   ·intro W hSw
    go_simp
    try with_reducible rfl
   try simp only [Act.put, zA, zB, zC]
   refine zT 2 19 ?_ rfl (by rfl) ?_ hHeld ?_
   rotate_left
   ·intro W hSw
    go_simp
    try with_reducible rfl
   try simp only [Act.put, zA, zB, zC]
   refine zT 3 20 ?_ rfl (by rfl) ?_ hHeld ?_
   rotate_left
   ·intro W hSw
    obtain ⟨⟨e0, e1, e2, e3⟩, -⟩ := HS.out W hSw
    go_simp
    try with_reducible rfl
   try simp only [Act.put, zA, zB, zC]
   refine zT 4 21 ?_ rfl (by rfl) ?_ hHeld ?_
   rotate_left
   ·intro W hSw
    go_simp
    try with_reducible rfl
   try simp only [Act.put, zA, zB, zC]
   refine zT 5 22 ?_ rfl (by rfl) ?_ hHeld ?_
   rotate_left
   ·intro W hSw
    go_simp
    try with_reducible rfl
   try simp only [Act.put, zA, zB, zC]
   refine zT 6 23 ?_ rfl (by rfl) ?_ hHeld ?_
   rotate_left
   ·intro W hSw
    go_simp
    try with_reducible rfl
   try simp only [Act.put, zA, zB, zC]
   refine zT 7 24 ?_ rfl (by rfl) ?_ hHeld ?_
   rotate_left
   ·intro W hSw
    obtain ⟨-, e0, e1, e2, e3⟩ := HS.out W hSw
    go_simp
    try with_reducible rfl
   try simp only [Act.put, zA, zB, zC]
   refine wpAnyH_ready (rs := [8]) (by kernel_rfl) (by simp) ?_
   refine AllReadyH.cons (o := ⟨some 25, _, _, _, _, _⟩) rfl (fun K hK => ?_) AllReadyH.nil
   go_simp
   refine HR.mono ?_
   rintro e w3 ⟨rfl, hb3⟩
   have HB3 : Hid (Below w.heap.size w w3) := HBW.out.trans (hb3.mono HBW.out.size)
   clear hb3 HR HBW
   refine hK.out _ _ HB3.out (fun hHeld => ?_)
   clear hK K
   try simp only [Act.put, zA, zB, zC]
   refine zT 9 26 ?_ rfl (by rfl) ?_ hHeld ?_
   rotate_left
   ·intro W hSw
    go_simp
    try with_reducible rfl
   try simp only [Act.put, zA, zB, zC]
   refine wpAnyH_done (by kernel_rfl) ?_ _
   clear HS
   go_wp2_with fail
   go_roundw
   case rel => exact ⟨k + 1, by omega, by go_num, HB3.out⟩
   case measure => simp [intOf]; omega
  ·have hkl : k = len := by omega
   subst hkl
   go_wp2
   go_ret
   exact ⟨rfl, HB.out⟩
theorem eqReply_sameO (c : Rp) (a b : Value) (w : World) (hl : wtAS c.ans <= 1000000000) (ha : RpO w a c) (hb : RpO w b c) :
  Calls Tryz.prog 8 #[a, b] w fun e w' => e = .returned (.bool true) /\ Below w.heap.size w w' := by
 obtain ⟨pv, rfl, h1⟩ := ha
 obtain ⟨pu, rfl, k1⟩ := hb
 have HQ : Hid (∀ W, Below w.heap.size w W -> Calls Tryz.prog 19 #[pv, pu] W (fun e w' => e = .returned (.bool true) /\ Below W.heap.size W w')) := fun W hb => eqAnswerS_sameO c.ans pv pu W hl (h1.below hb) (k1.below hb)
 obtain ⟨lp, hlp⟩ := zE (c.ans.length)
 obtain ⟨pa, pc, hpa⟩ := h1.shape
 obtain ⟨pb, qc, hpb⟩ := k1.shape
 rw [hlp] at hpa hpb
 subst hpa hpb
 clear hlp hl h1 k1
 unfold rpV
 go_enter Tryz.func8, Tryz.ntmps8
 go_upto_region 1 with fail
 obtain ⟨V1, hV⟩ : ∃ V, V = (w.alloc (Obj.cells #[.string c.hash, .int .i64 c.nonce, .int .i64 c.time, .int .i64 c.next, .int .i64 c.plan, .int .i64 c.err, .slice pa lp pc, .string c.sig] 28)).alloc (Obj.cells #[.string c.hash, .int .i64 c.nonce, .int .i64 c.time, .int .i64 c.next, .int .i64 c.plan, .int .i64 c.err, .slice pb lp qc, .string c.sig] 28) := ⟨_, rfl⟩
 rw [<- hV]
 have G1 : Hid (Blk V1 w.heap.size 28 #[.string c.hash, .int .i64 c.nonce, .int .i64 c.time, .int .i64 c.next, .int .i64 c.plan, .int .i64 c.err, .slice pa lp pc, .string c.sig] /\ Blk V1 (w.heap.size + 1) 28 #[.string c.hash, .int .i64 c.nonce, .int .i64 c.time, .int .i64 c.next, .int .i64 c.plan, .int .i64 c.err, .slice pb lp qc, .string c.sig] /\ Below w.heap.size w V1 /\ w.heap.size + 1 < V1.heap.size) := by
  have e0 : (w.alloc (Obj.cells #[.string c.hash, .int .i64 c.nonce, .int .i64 c.time, .int .i64 c.next, .int .i64 c.plan, .int .i64 c.err, .slice pa lp pc, .string c.sig] 28)).heap.size = w.heap.size + 1 := Array.size_push _
  have h := Blk.new (w.alloc (Obj.cells #[.string c.hash, .int .i64 c.nonce, .int .i64 c.time, .int .i64 c.next, .int .i64 c.plan, .int .i64 c.err, .slice pa lp pc, .string c.sig] 28)) 28 #[.string c.hash, .int .i64 c.nonce, .int .i64 c.time, .int .i64 c.next, .int .i64 c.plan, .int .i64 c.err, .slice pb lp qc, .string c.sig]
  rw [e0] at h
  rw [hV]
  exact ⟨(Blk.new w _ _).alloc _, h, ((Below.refl _ _).alloc (Nat.le_refl _) _).alloc (by rw [e0]; omega) _, by rw [size_alloc, e0]; omega⟩
 clear hV
 have a0 : V1.cell? ⟨w.heap.size, 0, none⟩ = some (.string c.hash) := G1.out.1.cell 0
 have b0 : V1.cell? ⟨w.heap.size + 1, 0, none⟩ = some (.string c.hash) := G1.out.2.1.cell 0
 have a1 : V1.cell? ⟨w.heap.size, 1, none⟩ = some (.int .i64 c.nonce) := G1.out.1.cell 1
 have b1 : V1.cell? ⟨w.heap.size + 1, 1, none⟩ = some (.int .i64 c.nonce) := G1.out.2.1.cell 1
 have a2 : V1.cell? ⟨w.heap.size, 2, none⟩ = some (.int .i64 c.time) := G1.out.1.cell 2
 have b2 : V1.cell? ⟨w.heap.size + 1, 2, none⟩ = some (.int .i64 c.time) := G1.out.2.1.cell 2
 have a3 : V1.cell? ⟨w.heap.size, 3, none⟩ = some (.int .i64 c.next) := G1.out.1.cell 3
 have b3 : V1.cell? ⟨w.heap.size + 1, 3, none⟩ = some (.int .i64 c.next) := G1.out.2.1.cell 3
 have a4 : V1.cell? ⟨w.heap.size, 4, none⟩ = some (.int .i64 c.plan) := G1.out.1.cell 4
 have b4 : V1.cell? ⟨w.heap.size + 1, 4, none⟩ = some (.int .i64 c.plan) := G1.out.2.1.cell 4
 have a5 : V1.cell? ⟨w.heap.size, 5, none⟩ = some (.int .i64 c.err) := G1.out.1.cell 5
 have b5 : V1.cell? ⟨w.heap.size + 1, 5, none⟩ = some (.int .i64 c.err) := G1.out.2.1.cell 5
 have a6 : V1.cell? ⟨w.heap.size, 6, none⟩ = some (.slice pa lp pc) := G1.out.1.cell 6
 have b6 : V1.cell? ⟨w.heap.size + 1, 6, none⟩ = some (.slice pb lp qc) := G1.out.2.1.cell 6
 go_wp2_with fail
 clear a0 b0 a1 b1 a2 b2 a3 b3 a4 b4 a5 b5 a6 b6
 refine (HQ.out V1 G1.out.2.2.1).mono ?_
 rintro e V2 ⟨rfl, hb⟩
 have G2 : Hid (Blk V2 w.heap.size 28 #[.string c.hash, .int .i64 c.nonce, .int .i64 c.time, .int .i64 c.next, .int .i64 c.plan, .int .i64 c.err, .slice pa lp pc, .string c.sig] /\ Blk V2 (w.heap.size + 1) 28 #[.string c.hash, .int .i64 c.nonce, .int .i64 c.time, .int .i64 c.next, .int .i64 c.plan, .int .i64 c.err, .slice pb lp qc, .string c.sig] /\ Below w.heap.size w V2 /\ w.heap.size + 1 < V2.heap.size) := ⟨G1.out.1.below hb (by have := G1.out.2.2.2; omega), G1.out.2.1.below hb G1.out.2.2.2, G1.out.2.2.1.trans (hb.mono G1.out.2.2.1.size), Nat.lt_of_lt_of_le G1.out.2.2.2 hb.size⟩
 clear hb G1
 have ca : V2.cell? ⟨w.heap.size, 7, none⟩ = some (.string c.sig) := G2.out.1.cell 7
 have cb : V2.cell? ⟨w.heap.size + 1, 7, none⟩ = some (.string c.sig) := G2.out.2.1.cell 7
 go_wp2_with fail
 go_ret
 exact ⟨rfl, G2.out.2.2.1⟩
end Go.Proofs.YtlbjhibolcgnoaaGreatDoor
namespace Go.Proofs.YtlbjhibolcgnoaaGreatDoor
open Go.RowKit Go.ChangeShapes
set_option linter.unusedVariables false
set_option linter.unusedSimpArgs false
theorem cellsAnswer : Tryz.prog.cellsOf 44 = 4 := by kernel_rfl
theorem cellsReply : Tryz.prog.cellsOf 24 = 8 := by kernel_rfl
theorem cellsRowA : Tryz.prog.cellsOf 22 = 1 := by kernel_rfl
theorem answer_of_trod {H : Type} {enc : TypeId × Value -> H} {W : World} {fuel : Nat} {cs : List Value} {x : DataW H × List MemPlace} (h : DataW.trod enc Tryz.prog W 0 (fun _ => true) true fuel 44 cs = some x) :
  ∃ (c : Aw) (p e : Value), Value.agg cs.toArray = awV c p e /\ ArgAw W.heap.size W (awV c p e) c /\ WdAw c := by
 obtain ⟨xs, m, rfl, hx, hl, hxl, hall⟩ := DataW.trod_struct Tryz.underlying44 h
 rw [cellsAnswer] at hl
 obtain ⟨x0, x1, x2, x3, rfl⟩ : ∃ x0 x1 x2 x3, xs = [x0, x1, x2, x3] := by
  match xs, hxl with
  | [x0, x1, x2, x3], _ => exact ⟨x0, x1, x2, x3, rfl⟩
 have f0 := hall 0 _ rfl
 change DataW.trod _ _ _ _ _ _ _ 3 ((cs.drop 0).take (Tryz.prog.cellsOf 3)) = some x0 at f0
 rw [cI] at f0
 obtain ⟨v0, h0, _, w0⟩ := DataW.trod_int Tryz.underlying3 f0
 have g0 := take_one h0
 clear f0 h0
 have f1 := hall 1 _ rfl
 change DataW.trod _ _ _ _ _ _ _ 3 ((cs.drop 1).take (Tryz.prog.cellsOf 3)) = some x1 at f1
 rw [cI] at f1
 obtain ⟨v1, h1, _, w1⟩ := DataW.trod_int Tryz.underlying3 f1
 have g1 := take_one h1
 clear f1 h1
 have f2 := hall 2 _ rfl
 change DataW.trod _ _ _ _ _ _ _ 42 ((cs.drop 2).take (Tryz.prog.cellsOf 42)) = some x2 at f2
 rw [cT] at f2
 obtain ⟨a2, p2, v2, h2, m2, w2, r2⟩ := texts_in f2
 have g2 := take_one h2
 clear f2 h2
 have f3 := hall 3 _ rfl
 change DataW.trod _ _ _ _ _ _ _ 42 ((cs.drop 3).take (Tryz.prog.cellsOf 42)) = some x3 at f3
 rw [cT] at f3
 obtain ⟨a3, p3, v3, h3, m3, w3, r3⟩ := texts_in f3
 have g3 := take_one h3
 clear f3 h3
 have hcs : cs = [.int .i64 v0, .int .i64 v1, .slice a2 v2.length p2, .slice a3 v3.length p3] := by
  match cs, hl with
  | [y0, y1, y2, y3], _ =>
   simp at g0 g1 g2 g3
   rw [g0, g1, g2, g3]
 refine ⟨⟨v0, v1, v2, v3⟩, .slice a2 v2.length p2, .slice a3 v3.length p3, by rw [hcs]; rfl, ⟨a2, p2, a3, p3, rfl, r2, r3⟩, ?_⟩
 unfold maxLen at m2 m3
 refine ⟨fun y hy => ?_, w2, w3, m2, m3⟩
 simp only [List.mem_cons, List.not_mem_nil, or_false] at hy
 simp [Lit.wf, IntKind.min, IntKind.max, IntKind.signed, IntKind.bits] at w0 w1
 rcases hy with rfl | rfl <;> omega
theorem pickAw {n : Nat} {P : Nat -> Aw -> Prop} (h : ∀ j, j < n -> ∃ y, P j y) : ∃ l : List Aw, ∃ hl : l.length = n, ∀ j (hj : j < l.length), P j l[j] := by
 induction n with
 | zero => exact ⟨[], rfl, fun j hj => absurd hj (Nat.not_lt_zero _)⟩
 | succ n ih =>
  obtain ⟨l, hl, hP⟩ := ih fun j hj => h j (by omega)
  obtain ⟨y, hy⟩ := h n (by omega)
  refine ⟨l ++ [y], by simp [hl], fun j hj => ?_⟩
  by_cases e : j < l.length
  ·rw [List.getElem_append_left e]
   exact hP j e
  ·have e2 : j = l.length := by simp at hj; omega
   subst e2
   simpa [hl] using hy
theorem answers_in {H : Type} {enc : TypeId × Value -> H} {W : World} {fuel : Nat} {cs : List Value} {x : DataW H × List MemPlace} (h : DataW.trod enc Tryz.prog W 0 (fun _ => true) true fuel 22 cs = some x) :
  ∃ ao cap, ∃ l : List Aw, cs = [.slice ao l.length cap] /\ l.length <= maxLen /\ (∀ c ∈ l, WdAw c) /\ ArgAS W.heap.size W (.slice ao l.length cap) l := by
 rcases DataW.trod_slice Tryz.underlying22 h with ⟨h0, _⟩ | ⟨a, len, cap, elems, rest, q, hq, hc, _, hb, hlc, hcm, hel, helem, _, _⟩
 ·exact ⟨none, 0, [], h0, Nat.zero_le _, fun x hx => by simp at hx, none, 0, rfl, fun j hj => by simp at hj⟩
 ·have each : ∀ j, j < len -> ∃ c : Aw, ∃ u : Value, ArgAw W.heap.size W u c /\ WdAw c /\ u.cells.size = 4 /\ ∀ i x, u.cells[i]? = some x -> W.cell? (a.add (j * 4 + i)) = some x := by
   intro j hj
   have he := helem j hj
   rw [cellsAnswer] at he
   obtain ⟨z, hz⟩ : ∃ z, elems[j]? = some z := ⟨elems[j]'(by omega), by simp [show j < elems.length by omega]⟩
   rw [hz, Option.bind_eq_some_iff] at he
   obtain ⟨cs2, hcs2, htr⟩ := he
   obtain ⟨c, p, e, hv, harg, hwd⟩ := answer_of_trod htr
   have hsome := World.cells?_some hcs2
   refine ⟨c, awV c p e, harg, hwd, rfl, fun i x hx => ?_⟩
   have hcl : (awV c p e).cells = cs2.toArray := by rw [<- hv]; rfl
   rw [hcl] at hx
   have hi : i < cs2.length := by have := (Array.getElem?_eq_some_iff.1 hx).1; simpa using this
   have h3 := hsome.2.2 i (by omega)
   rw [Addr.add_add] at h3
   rw [h3]
   simpa using hx
  obtain ⟨l, hl, hP⟩ := pickAw each
  refine ⟨some a, cap, l, by rw [hl]; exact hc, by rw [hl]; exact Nat.le_trans hlc hcm, fun y hy => ?_, some a, cap, rfl, fun j hj => ?_⟩
  ·obtain ⟨j, hj, rfl⟩ := List.getElem_of_mem hy
   obtain ⟨u, _, h2, _⟩ := hP j hj
   exact h2
  ·obtain ⟨u, h1, h2, h3, h4⟩ := hP j hj
   obtain ⟨x0, hx0⟩ : ∃ x, u.cells[0]? = some x := ⟨u.cells[0]'(by omega), Array.getElem?_eq_getElem _⟩
   have c0 := h4 0 x0 hx0
   obtain ⟨u', _, _, g3, g4⟩ := hP 0 (by omega)
   obtain ⟨y0, hy0⟩ : ∃ x, u'.cells[0]? = some x := ⟨u'.cells[0]'(by omega), Array.getElem?_eq_getElem _⟩
   have d0 := g4 0 y0 hy0
   obtain ⟨b, off, spot⟩ := a
   have hspot : spot = none := by simpa [Addr.add] using World.cell?_spot d0
   subst hspot
   rw [Addr.add_lit] at c0
   refine ⟨b, off, u, rfl, lt_of_cell c0, h1, h3, fun i x hx => ?_⟩
   have := h4 i x hx
   rw [Addr.add_lit, <- Nat.add_assoc] at this
   exact this
theorem reply_of_trod {H : Type} {enc : TypeId × Value -> H} {W : World} {fuel : Nat} {cs : List Value} {x : DataW H × List MemPlace} (h : DataW.trod enc Tryz.prog W 0 (fun _ => true) true fuel 24 cs = some x) :
  ∃ c : Rp, ArgRp W.heap.size W (.agg cs.toArray) c /\ WdRp c := by
 obtain ⟨xs, m, rfl, hx, hl, hxl, hall⟩ := DataW.trod_struct Tryz.underlying24 h
 rw [cellsReply] at hl
 obtain ⟨x0, x1, x2, x3, x4, x5, x6, x7, rfl⟩ : ∃ x0 x1 x2 x3 x4 x5 x6 x7, xs = [x0, x1, x2, x3, x4, x5, x6, x7] := by
  match xs, hxl with
  | [x0, x1, x2, x3, x4, x5, x6, x7], _ => exact ⟨x0, x1, x2, x3, x4, x5, x6, x7, rfl⟩
 have f0 := hall 0 _ rfl
 change DataW.trod _ _ _ _ _ _ _ 9 ((cs.drop 0).take (Tryz.prog.cellsOf 9)) = some x0 at f0
 rw [cS] at f0
 obtain ⟨v0, h0, _, w0⟩ := DataW.trod_string Tryz.underlying9 f0
 have g0 := take_one h0
 clear f0 h0
 have f1 := hall 1 _ rfl
 change DataW.trod _ _ _ _ _ _ _ 3 ((cs.drop 1).take (Tryz.prog.cellsOf 3)) = some x1 at f1
 rw [cI] at f1
 obtain ⟨v1, h1, _, w1⟩ := DataW.trod_int Tryz.underlying3 f1
 have g1 := take_one h1
 clear f1 h1
 have f2 := hall 2 _ rfl
 change DataW.trod _ _ _ _ _ _ _ 3 ((cs.drop 2).take (Tryz.prog.cellsOf 3)) = some x2 at f2
 rw [cI] at f2
 obtain ⟨v2, h2, _, w2⟩ := DataW.trod_int Tryz.underlying3 f2
 have g2 := take_one h2
 clear f2 h2
 have f3 := hall 3 _ rfl
 change DataW.trod _ _ _ _ _ _ _ 3 ((cs.drop 3).take (Tryz.prog.cellsOf 3)) = some x3 at f3
 rw [cI] at f3
 obtain ⟨v3, h3, _, w3⟩ := DataW.trod_int Tryz.underlying3 f3
 have g3 := take_one h3
 clear f3 h3
 have f4 := hall 4 _ rfl
 change DataW.trod _ _ _ _ _ _ _ 3 ((cs.drop 4).take (Tryz.prog.cellsOf 3)) = some x4 at f4
 rw [cI] at f4
 obtain ⟨v4, h4, _, w4⟩ := DataW.trod_int Tryz.underlying3 f4
 have g4 := take_one h4
 clear f4 h4
 have f5 := hall 5 _ rfl
 change DataW.trod _ _ _ _ _ _ _ 3 ((cs.drop 5).take (Tryz.prog.cellsOf 3)) = some x5 at f5
 rw [cI] at f5
 obtain ⟨v5, h5, _, w5⟩ := DataW.trod_int Tryz.underlying3 f5
 have g5 := take_one h5
 clear f5 h5
 have f6 := hall 6 _ rfl
 change DataW.trod _ _ _ _ _ _ _ 22 ((cs.drop 6).take (Tryz.prog.cellsOf 22)) = some x6 at f6
 rw [cellsRowA] at f6
 obtain ⟨a6, p6, v6, h6, m6, w6, r6⟩ := answers_in f6
 have g6 := take_one h6
 clear f6 h6
 have f7 := hall 7 _ rfl
 change DataW.trod _ _ _ _ _ _ _ 9 ((cs.drop 7).take (Tryz.prog.cellsOf 9)) = some x7 at f7
 rw [cS] at f7
 obtain ⟨v7, h7, _, w7⟩ := DataW.trod_string Tryz.underlying9 f7
 have g7 := take_one h7
 clear f7 h7
 have hcs : cs = [.string v0, .int .i64 v1, .int .i64 v2, .int .i64 v3, .int .i64 v4, .int .i64 v5, .slice a6 v6.length p6, .string v7] := by
  match cs, hl with
  | [y0, y1, y2, y3, y4, y5, y6, y7], _ =>
   simp at g0 g1 g2 g3 g4 g5 g6 g7
   rw [g0, g1, g2, g3, g4, g5, g6, g7]
 refine ⟨⟨v0, v1, v2, v3, v4, v5, v6, v7⟩, ⟨a6, p6, by rw [hcs]; rfl, r6⟩, ?_⟩
 unfold maxLen at m6
 refine ⟨fun y hy => ?_, fun s hs => ?_, w6, m6⟩
 ·simp only [List.mem_cons, List.not_mem_nil, or_false] at hy
  simp [Lit.wf, IntKind.min, IntKind.max, IntKind.signed, IntKind.bits] at w1 w2 w3 w4 w5
  rcases hy with rfl | rfl | rfl | rfl | rfl <;> omega
 ·simp only [List.mem_cons, List.not_mem_nil, or_false] at hs
  unfold maxLen at w0 w7
  rcases hs with rfl | rfl <;> omega
end Go.Proofs.YtlbjhibolcgnoaaGreatDoor
namespace Go.Proofs.YtlbjhibolcgnoaaGreatDoor
open Go.RowKit
set_option linter.unusedVariables false
theorem Blk.out {w w' : World} {b : Nat} {t : TypeId} {vs : Array Value} {fp : List Nat} (h : Blk w b t vs) (ho : Out fp w w') (hn : b ∉ fp) : Blk w' b t vs := (ho.2.2.2.2 b h.lt hn).trans h
theorem Below.on {B : Nat} {w W W' : World} (h : Below B w W) (hb : Below W.heap.size W W') (hB : B <= W.heap.size) : Below B w W' := h.trans (hb.mono hB)
theorem Below.out {B : Nat} {w W W' : World} {fp : List Nat} (h : Below B w W) (ho : Out fp W W') (hf : ∀ b ∈ fp, B <= b) (hB : B <= W.heap.size) : Below B w W' := h.trans (ho.below hf hB)
end Go.Proofs.YtlbjhibolcgnoaaGreatDoor
