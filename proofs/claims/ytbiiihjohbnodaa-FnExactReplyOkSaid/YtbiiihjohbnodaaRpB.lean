/-
  The laws' toReply, szReply, eqReply.
-/
import Derived.Test.YtbiiihjohbnodaaRpA
import Derived.Test.YtbiiihjohbnodaaAwC
import Derived.Test.YtbiiihjohbnodaaAwD
import Derived.Test.YtbiiihjohbnodaaAwE
import Derived.Deep.Cut
namespace Go.Proofs.Ytbiiihjohbnodaa
open Go.RowKit
set_option linter.unusedVariables false
set_option linter.unusedSimpArgs false

set_option maxHeartbeats 6400000 in
set_option maxRecDepth 100000 in
theorem toReply_any (c : Rp) (v : Value) (B : Nat) (w : World) (hl : wtAS c.ans ≤ 1048576) (hB : B ≤ w.heap.size) (ha : ArgRp B w v c) :
    Calls Try.prog 24 #[v] w fun e w' => ∃ u fp, e = .returned u ∧ OwnRp w' w.heap.size u c fp ∧ Below w.heap.size w w' := by
  obtain ⟨pa, pc, rfl, h1⟩ := ha
  have HA : Hid (ArgAS B w (.slice pa c.ans.length pc) c.ans ∧ wtAS c.ans ≤ 1048576) := ⟨h1, hl⟩
  clear h1 hl
  unfold rpV
  go_enter Try.func24, Try.ntmps24
  go_upto_region 2 with fail
  obtain ⟨X0, hW3⟩ : ∃ W, W = ((w.alloc (Obj.cells #[.string c.hash, .int .i64 c.nonce, .int .i64 c.time, .int .i64 c.next, .int .i64 c.plan, .int .i64 c.err, .slice pa c.ans.length pc, .string c.sig] 39)).alloc (Obj.cells #[.string ⟨#[]⟩, .int .i64 0, .int .i64 0, .int .i64 0, .int .i64 0, .int .i64 0, .slice none 0 0, .string ⟨#[]⟩] 44)).alloc (Obj.cells #[.string ⟨#[]⟩, .int .i64 0, .int .i64 0, .int .i64 0, .int .i64 0, .int .i64 0, .slice none 0 0, .string ⟨#[]⟩] 44) := ⟨_, rfl⟩
  change Code.wp _ _ _ _ (((w.alloc (Obj.cells #[.string c.hash, .int .i64 c.nonce, .int .i64 c.time, .int .i64 c.next, .int .i64 c.plan, .int .i64 c.err, .slice pa c.ans.length pc, .string c.sig] 39)).alloc (Obj.cells #[.string ⟨#[]⟩, .int .i64 0, .int .i64 0, .int .i64 0, .int .i64 0, .int .i64 0, .slice none 0 0, .string ⟨#[]⟩] 44)).alloc (Obj.cells #[.string ⟨#[]⟩, .int .i64 0, .int .i64 0, .int .i64 0, .int .i64 0, .int .i64 0, .slice none 0 0, .string ⟨#[]⟩] 44))
  rw [← hW3]
  have e0 : (w.alloc (Obj.cells #[.string c.hash, .int .i64 c.nonce, .int .i64 c.time, .int .i64 c.next, .int .i64 c.plan, .int .i64 c.err, .slice pa c.ans.length pc, .string c.sig] 39)).heap.size = w.heap.size + 1 := Array.size_push _
  have e1 : ((w.alloc (Obj.cells #[.string c.hash, .int .i64 c.nonce, .int .i64 c.time, .int .i64 c.next, .int .i64 c.plan, .int .i64 c.err, .slice pa c.ans.length pc, .string c.sig] 39)).alloc (Obj.cells #[.string ⟨#[]⟩, .int .i64 0, .int .i64 0, .int .i64 0, .int .i64 0, .int .i64 0, .slice none 0 0, .string ⟨#[]⟩] 44)).heap.size = w.heap.size + 1 + 1 := by rw [size_alloc, e0]
  have Y0 : Hid ((Blk X0 w.heap.size 39 #[.string c.hash, .int .i64 c.nonce, .int .i64 c.time, .int .i64 c.next, .int .i64 c.plan, .int .i64 c.err, .slice pa c.ans.length pc, .string c.sig] ∧ Blk X0 (w.heap.size + 1) 44 #[.string ⟨#[]⟩, .int .i64 0, .int .i64 0, .int .i64 0, .int .i64 0, .int .i64 0, .slice none 0 0, .string ⟨#[]⟩] ∧ Blk X0 (w.heap.size + 1 + 1) 44 #[.string ⟨#[]⟩, .int .i64 0, .int .i64 0, .int .i64 0, .int .i64 0, .int .i64 0, .slice none 0 0, .string ⟨#[]⟩] ∧ Below w.heap.size w X0) ∧ w.heap.size + 1 + 1 + 1 ≤ X0.heap.size) := by
    rw [hW3]
    refine ⟨⟨((Blk.new w _ _).alloc _).alloc _, ?_, ?_, (((Below.refl _ _).alloc (Nat.le_refl _) _).alloc (by rw [e0]; omega) _).alloc (by rw [e1]; omega) _⟩, by rw [size_alloc, e1]; omega⟩
    · have h := (Blk.new (w.alloc (Obj.cells #[.string c.hash, .int .i64 c.nonce, .int .i64 c.time, .int .i64 c.next, .int .i64 c.plan, .int .i64 c.err, .slice pa c.ans.length pc, .string c.sig] 39)) 44 #[.string ⟨#[]⟩, .int .i64 0, .int .i64 0, .int .i64 0, .int .i64 0, .int .i64 0, .slice none 0 0, .string ⟨#[]⟩]).alloc (Obj.cells #[.string ⟨#[]⟩, .int .i64 0, .int .i64 0, .int .i64 0, .int .i64 0, .int .i64 0, .slice none 0 0, .string ⟨#[]⟩] 44)
      rw [e0] at h
      exact h
    · have h := Blk.new ((w.alloc (Obj.cells #[.string c.hash, .int .i64 c.nonce, .int .i64 c.time, .int .i64 c.next, .int .i64 c.plan, .int .i64 c.err, .slice pa c.ans.length pc, .string c.sig] 39)).alloc (Obj.cells #[.string ⟨#[]⟩, .int .i64 0, .int .i64 0, .int .i64 0, .int .i64 0, .int .i64 0, .slice none 0 0, .string ⟨#[]⟩] 44)) 44 #[.string ⟨#[]⟩, .int .i64 0, .int .i64 0, .int .i64 0, .int .i64 0, .int .i64 0, .slice none 0 0, .string ⟨#[]⟩]
      rw [e1] at h
      exact h
  clear hW3 e0 e1
  have wd1 : w.heap.size ≠ w.heap.size + 1 + 1 := by omega
  have wd2 : w.heap.size + 1 ≠ w.heap.size + 1 + 1 := by omega
  have fr := fun j => Y0.out.1.2.2.1.free j
  have ca0 : X0.cell? ⟨w.heap.size, 0, none⟩ = some (.string c.hash) := Y0.out.1.1.cell 0
  have c20 : X0.cell? ⟨w.heap.size + 1 + 1, 0, none⟩ = some (.string ⟨#[]⟩) := Y0.out.1.2.2.1.cell 0
  have ca1 : X0.cell? ⟨w.heap.size, 1, none⟩ = some (.int .i64 c.nonce) := Y0.out.1.1.cell 1
  have c21 : X0.cell? ⟨w.heap.size + 1 + 1, 1, none⟩ = some (.int .i64 0) := Y0.out.1.2.2.1.cell 1
  go_upto_region 4 with fail
  obtain ⟨X1, hV⟩ : ∃ V, V = ((X0.setCell ⟨w.heap.size + 1 + 1, 0, none⟩ (.string c.hash)).setCell ⟨w.heap.size + 1 + 1, 1, none⟩ (.int .i64 c.nonce)) := ⟨_, rfl⟩
  rw [← hV]
  have Y1 : Hid ((Blk X1 w.heap.size 39 #[.string c.hash, .int .i64 c.nonce, .int .i64 c.time, .int .i64 c.next, .int .i64 c.plan, .int .i64 c.err, .slice pa c.ans.length pc, .string c.sig] ∧ Blk X1 (w.heap.size + 1) 44 #[.string ⟨#[]⟩, .int .i64 0, .int .i64 0, .int .i64 0, .int .i64 0, .int .i64 0, .slice none 0 0, .string ⟨#[]⟩] ∧ Blk X1 (w.heap.size + 1 + 1) 44 #[.string c.hash, .int .i64 c.nonce, .int .i64 0, .int .i64 0, .int .i64 0, .int .i64 0, .slice none 0 0, .string ⟨#[]⟩] ∧ Below w.heap.size w X1) ∧ w.heap.size + 1 + 1 + 1 ≤ X1.heap.size) := by
    have hbs : Below (w.heap.size + 1 + 1) X0 X1 := by rw [hV]; exact (((Below.refl _ _).setCell (p := ⟨w.heap.size + 1 + 1, 0, none⟩) (Nat.le_refl _) _).setCell (p := ⟨w.heap.size + 1 + 1, 1, none⟩) (Nat.le_refl _) _)
    exact ⟨⟨Y0.out.1.1.below hbs (by omega), Y0.out.1.2.1.below hbs (by omega), by rw [hV]; exact ((Y0.out.1.2.2.1.set 0 _).set 1 _), Y0.out.1.2.2.2.trans (hbs.mono (by omega))⟩, Nat.le_trans Y0.out.2 hbs.size⟩
  clear hV Y0 fr ca0 c20 ca1 c21
  have fr := fun j => Y1.out.1.2.2.1.free j
  have ca2 : X1.cell? ⟨w.heap.size, 2, none⟩ = some (.int .i64 c.time) := Y1.out.1.1.cell 2
  have c22 : X1.cell? ⟨w.heap.size + 1 + 1, 2, none⟩ = some (.int .i64 0) := Y1.out.1.2.2.1.cell 2
  have ca3 : X1.cell? ⟨w.heap.size, 3, none⟩ = some (.int .i64 c.next) := Y1.out.1.1.cell 3
  have c23 : X1.cell? ⟨w.heap.size + 1 + 1, 3, none⟩ = some (.int .i64 0) := Y1.out.1.2.2.1.cell 3
  go_upto_region 6 with fail
  obtain ⟨X2, hV⟩ : ∃ V, V = ((X1.setCell ⟨w.heap.size + 1 + 1, 2, none⟩ (.int .i64 c.time)).setCell ⟨w.heap.size + 1 + 1, 3, none⟩ (.int .i64 c.next)) := ⟨_, rfl⟩
  rw [← hV]
  have Y2 : Hid ((Blk X2 w.heap.size 39 #[.string c.hash, .int .i64 c.nonce, .int .i64 c.time, .int .i64 c.next, .int .i64 c.plan, .int .i64 c.err, .slice pa c.ans.length pc, .string c.sig] ∧ Blk X2 (w.heap.size + 1) 44 #[.string ⟨#[]⟩, .int .i64 0, .int .i64 0, .int .i64 0, .int .i64 0, .int .i64 0, .slice none 0 0, .string ⟨#[]⟩] ∧ Blk X2 (w.heap.size + 1 + 1) 44 #[.string c.hash, .int .i64 c.nonce, .int .i64 c.time, .int .i64 c.next, .int .i64 0, .int .i64 0, .slice none 0 0, .string ⟨#[]⟩] ∧ Below w.heap.size w X2) ∧ w.heap.size + 1 + 1 + 1 ≤ X2.heap.size) := by
    have hbs : Below (w.heap.size + 1 + 1) X1 X2 := by rw [hV]; exact (((Below.refl _ _).setCell (p := ⟨w.heap.size + 1 + 1, 2, none⟩) (Nat.le_refl _) _).setCell (p := ⟨w.heap.size + 1 + 1, 3, none⟩) (Nat.le_refl _) _)
    exact ⟨⟨Y1.out.1.1.below hbs (by omega), Y1.out.1.2.1.below hbs (by omega), by rw [hV]; exact ((Y1.out.1.2.2.1.set 2 _).set 3 _), Y1.out.1.2.2.2.trans (hbs.mono (by omega))⟩, Nat.le_trans Y1.out.2 hbs.size⟩
  clear hV Y1 fr ca2 c22 ca3 c23
  have fr := fun j => Y2.out.1.2.2.1.free j
  have ca4 : X2.cell? ⟨w.heap.size, 4, none⟩ = some (.int .i64 c.plan) := Y2.out.1.1.cell 4
  have c24 : X2.cell? ⟨w.heap.size + 1 + 1, 4, none⟩ = some (.int .i64 0) := Y2.out.1.2.2.1.cell 4
  have ca5 : X2.cell? ⟨w.heap.size, 5, none⟩ = some (.int .i64 c.err) := Y2.out.1.1.cell 5
  have c25 : X2.cell? ⟨w.heap.size + 1 + 1, 5, none⟩ = some (.int .i64 0) := Y2.out.1.2.2.1.cell 5
  go_upto_region 8 with fail
  obtain ⟨W3, hV⟩ : ∃ V, V = ((X2.setCell ⟨w.heap.size + 1 + 1, 4, none⟩ (.int .i64 c.plan)).setCell ⟨w.heap.size + 1 + 1, 5, none⟩ (.int .i64 c.err)) := ⟨_, rfl⟩
  rw [← hV]
  have G0 : Hid ((Blk W3 w.heap.size 39 #[.string c.hash, .int .i64 c.nonce, .int .i64 c.time, .int .i64 c.next, .int .i64 c.plan, .int .i64 c.err, .slice pa c.ans.length pc, .string c.sig] ∧ Blk W3 (w.heap.size + 1) 44 #[.string ⟨#[]⟩, .int .i64 0, .int .i64 0, .int .i64 0, .int .i64 0, .int .i64 0, .slice none 0 0, .string ⟨#[]⟩] ∧ Blk W3 (w.heap.size + 1 + 1) 44 #[.string c.hash, .int .i64 c.nonce, .int .i64 c.time, .int .i64 c.next, .int .i64 c.plan, .int .i64 c.err, .slice none 0 0, .string ⟨#[]⟩] ∧ Below w.heap.size w W3) ∧ w.heap.size + 1 + 1 + 1 ≤ W3.heap.size) := by
    have hbs : Below (w.heap.size + 1 + 1) X2 W3 := by rw [hV]; exact (((Below.refl _ _).setCell (p := ⟨w.heap.size + 1 + 1, 4, none⟩) (Nat.le_refl _) _).setCell (p := ⟨w.heap.size + 1 + 1, 5, none⟩) (Nat.le_refl _) _)
    exact ⟨⟨Y2.out.1.1.below hbs (by omega), Y2.out.1.2.1.below hbs (by omega), by rw [hV]; exact ((Y2.out.1.2.2.1.set 4 _).set 5 _), Y2.out.1.2.2.2.trans (hbs.mono (by omega))⟩, Nat.le_trans Y2.out.2 hbs.size⟩
  clear hV Y2 fr ca4 c24 ca5 c25
  have ca : W3.cell? ⟨w.heap.size, 6, none⟩ = some (.slice pa c.ans.length pc) := G0.out.1.1.cell 6
  go_wp2_with fail
  clear ca
  refine (toAnswerS_any (.slice pa c.ans.length pc) c.ans B W3 HA.out.2 (Nat.le_trans hB G0.out.1.2.2.2.size) (HA.out.1.below (G0.out.1.2.2.2.mono hB) (Nat.le_refl _))).mono ?_
  rintro r u1 ⟨p, fp, rfl, op, hb⟩
  have F1 : Hid ((Blk u1 w.heap.size 39 #[.string c.hash, .int .i64 c.nonce, .int .i64 c.time, .int .i64 c.next, .int .i64 c.plan, .int .i64 c.err, .slice pa c.ans.length pc, .string c.sig] ∧ Blk u1 (w.heap.size + 1) 44 #[.string ⟨#[]⟩, .int .i64 0, .int .i64 0, .int .i64 0, .int .i64 0, .int .i64 0, .slice none 0 0, .string ⟨#[]⟩] ∧ Blk u1 (w.heap.size + 1 + 1) 44 #[.string c.hash, .int .i64 c.nonce, .int .i64 c.time, .int .i64 c.next, .int .i64 c.plan, .int .i64 c.err, .slice none 0 0, .string ⟨#[]⟩] ∧ Below w.heap.size w u1) ∧ w.heap.size + 1 + 1 + 1 ≤ u1.heap.size ∧ OwnS awKd u1 (w.heap.size + 1 + 1 + 1) p c.ans fp) := by
    have hz := G0.out.2
    exact ⟨⟨G0.out.1.1.below hb (by omega), G0.out.1.2.1.below hb (by omega), G0.out.1.2.2.1.below hb (by omega), G0.out.1.2.2.2.trans (hb.mono G0.out.1.2.2.2.size)⟩, Nat.le_trans hz hb.size, op.base hz⟩
  clear op hb G0
  have fr := fun j => F1.out.1.2.2.1.free j
  obtain ⟨qp, mp, hsp⟩ : ∃ ao cap, p = .slice ao c.ans.length cap := F1.out.2.2.at.shape
  obtain ⟨lp, hlp⟩ : ∃ l, c.ans.length = l := ⟨_, rfl⟩
  rw [hlp] at hsp
  clear hlp
  subst hsp
  have ca : u1.cell? ⟨w.heap.size, 7, none⟩ = some (.string c.sig) := F1.out.1.1.cell 7
  have c26 : u1.cell? ⟨w.heap.size + 1 + 1, 6, none⟩ = some (.slice none 0 0) := F1.out.1.2.2.1.cell 6
  have c27 : u1.cell? ⟨w.heap.size + 1 + 1, 7, none⟩ = some (.string ⟨#[]⟩) := F1.out.1.2.2.1.cell 7
  go_upto_region 10 with fail
  obtain ⟨V1, hV⟩ : ∃ V, V = (u1.setCell ⟨w.heap.size + 1 + 1, 6, none⟩ (.slice qp lp mp)).setCell ⟨w.heap.size + 1 + 1, 7, none⟩ (.string c.sig) := ⟨_, rfl⟩
  rw [← hV]
  have G1 : Hid ((Blk V1 w.heap.size 39 #[.string c.hash, .int .i64 c.nonce, .int .i64 c.time, .int .i64 c.next, .int .i64 c.plan, .int .i64 c.err, .slice pa c.ans.length pc, .string c.sig] ∧ Blk V1 (w.heap.size + 1) 44 #[.string ⟨#[]⟩, .int .i64 0, .int .i64 0, .int .i64 0, .int .i64 0, .int .i64 0, .slice none 0 0, .string ⟨#[]⟩] ∧ Blk V1 (w.heap.size + 1 + 1) 44 #[.string c.hash, .int .i64 c.nonce, .int .i64 c.time, .int .i64 c.next, .int .i64 c.plan, .int .i64 c.err, .slice qp lp mp, .string c.sig] ∧ Below w.heap.size w V1) ∧ OwnS awKd V1 (w.heap.size + 1 + 1 + 1) (.slice qp lp mp) c.ans fp) := by
    have hbs : Below (w.heap.size + 1 + 1) u1 V1 := by rw [hV]; exact ((Below.refl _ _).setCell (p := ⟨w.heap.size + 1 + 1, 6, none⟩) (Nat.le_refl _) _).setCell (p := ⟨w.heap.size + 1 + 1, 7, none⟩) (Nat.le_refl _) _
    exact ⟨⟨F1.out.1.1.below hbs (by omega), F1.out.1.2.1.below hbs (by omega), by rw [hV]; exact (F1.out.1.2.2.1.set 6 _).set 7 _, F1.out.1.2.2.2.trans (hbs.mono (by omega))⟩, F1.out.2.2.same fun b hb => by rw [hV, heap_setCell_other _ _ _ _ (by have := (F1.out.2.2.lt b hb).1; show b ≠ w.heap.size + 1 + 1; omega), heap_setCell_other _ _ _ _ (by have := (F1.out.2.2.lt b hb).1; show b ≠ w.heap.size + 1 + 1; omega)]⟩
  clear hV F1 fr ca c26 c27
  have f1 := fun j => G1.out.1.2.1.free j
  have c10 : V1.cell? ⟨w.heap.size + 1, 0, none⟩ = some (.string ⟨#[]⟩) := G1.out.1.2.1.cell 0
  have c20 : V1.cell? ⟨w.heap.size + 1 + 1, 0, none⟩ = some (.string c.hash) := G1.out.1.2.2.1.cell 0
  have c11 : V1.cell? ⟨w.heap.size + 1, 1, none⟩ = some (.int .i64 0) := G1.out.1.2.1.cell 1
  have c21 : V1.cell? ⟨w.heap.size + 1 + 1, 1, none⟩ = some (.int .i64 c.nonce) := G1.out.1.2.2.1.cell 1
  have c12 : V1.cell? ⟨w.heap.size + 1, 2, none⟩ = some (.int .i64 0) := G1.out.1.2.1.cell 2
  have c22 : V1.cell? ⟨w.heap.size + 1 + 1, 2, none⟩ = some (.int .i64 c.time) := G1.out.1.2.2.1.cell 2
  have c13 : V1.cell? ⟨w.heap.size + 1, 3, none⟩ = some (.int .i64 0) := G1.out.1.2.1.cell 3
  have c23 : V1.cell? ⟨w.heap.size + 1 + 1, 3, none⟩ = some (.int .i64 c.next) := G1.out.1.2.2.1.cell 3
  have c14 : V1.cell? ⟨w.heap.size + 1, 4, none⟩ = some (.int .i64 0) := G1.out.1.2.1.cell 4
  have c24 : V1.cell? ⟨w.heap.size + 1 + 1, 4, none⟩ = some (.int .i64 c.plan) := G1.out.1.2.2.1.cell 4
  have c15 : V1.cell? ⟨w.heap.size + 1, 5, none⟩ = some (.int .i64 0) := G1.out.1.2.1.cell 5
  have c25 : V1.cell? ⟨w.heap.size + 1 + 1, 5, none⟩ = some (.int .i64 c.err) := G1.out.1.2.2.1.cell 5
  have c16 : V1.cell? ⟨w.heap.size + 1, 6, none⟩ = some (.slice none 0 0) := G1.out.1.2.1.cell 6
  have c26 : V1.cell? ⟨w.heap.size + 1 + 1, 6, none⟩ = some (.slice qp lp mp) := G1.out.1.2.2.1.cell 6
  have c17 : V1.cell? ⟨w.heap.size + 1, 7, none⟩ = some (.string ⟨#[]⟩) := G1.out.1.2.1.cell 7
  have c27 : V1.cell? ⟨w.heap.size + 1 + 1, 7, none⟩ = some (.string c.sig) := G1.out.1.2.2.1.cell 7
  go_wp2_with fail
  refine bodyPost_ret (v := rpV c (.slice qp lp mp)) (by simp [results, Try.results24, go_sem, rpV, c10, c11, c12, c13, c14, c15, c16, c17]) rfl ⟨_, fp, rfl, ⟨_, rfl, (G1.out.2.same ?far).base (by omega)⟩, ?bel⟩
  case far =>
    intro b hb
    have := (G1.out.2.lt b hb).1
    iterate 8 rw [heap_setCell_other _ _ _ _ (by show b ≠ w.heap.size + 1; omega)]
  case bel =>
    iterate 8 refine Below.setCell ?_ (by show w.heap.size ≤ w.heap.size + 1; omega) _
    exact G1.out.1.2.2.2
set_option maxHeartbeats 6400000 in
set_option maxRecDepth 100000 in
theorem szReply_any (c : Rp) (v : Value) (left : Int) (w : World) (hwd : WdRp c) (h0 : 0 ≤ left) (hl : left ≤ 1048576) (ha : ArgRp w.heap.size w v c) :
    Calls Try.prog 22 #[v, .int .i64 left] w fun e w' => e = .returned (.int .i64 (szRp c left)) ∧ Below w.heap.size w w' := by
  obtain ⟨pa, pc, rfl, h1⟩ := ha
  obtain ⟨_, hwt, hwa, hln⟩ := hwd
  have hs1 := hwt c.hash (by simp)
  have hs2 := hwt c.sig (by simp)
  unfold rpV
  have w1 : IntKind.i64.wrap (left - (c.hash.size : Int)) = left - (c.hash.size : Int) := by rw [IntKind.wrap_i64]; omega
  by_cases g0 : left < (c.hash.size : Int)
  · have HF : Hid (szRp c left = -1) := by show szRp c left = -1; unfold szRp wtR; rw [if_neg (by omega)]
    have n1 : left - (c.hash.size : Int) < 0 := by omega
    clear h1 hwa hwt hln
    go_enter Try.func22, Try.ntmps22
    go_wp2_with fail
    go_ret
    exact ⟨by rw [HF.out]; rfl, (Below.refl _ _).alloc (Nat.le_refl _) _⟩
  have n1 : ¬ left - (c.hash.size : Int) < 0 := by omega
  obtain ⟨r1, hr1⟩ : ∃ r : Int, left - (c.hash.size : Int) = r := ⟨_, rfl⟩
  rw [hr1] at w1 n1
  obtain ⟨r2, hr2⟩ : ∃ r : Int, r = if (wtAS c.ans : Int) ≤ r1 then r1 - (wtAS c.ans : Int) else -1 := ⟨_, rfl⟩
  have Z2 : Hid (∀ W, Below w.heap.size w W → Calls Try.prog 35 #[.slice pa c.ans.length pc, .int .i64 r1] W fun e w' => e = .returned (.int .i64 r2) ∧ Below W.heap.size W w') := fun W hb => by rw [hr2]; exact szAnswerS_any (.slice pa c.ans.length pc) c.ans r1 W hln hwa (by omega) (by omega) ((h1.below hb hb.size))
  by_cases g1 : r2 < 0
  · have HF : Hid (szRp c left = -1) := by show szRp c left = -1; unfold szRp wtR; rw [if_neg (by split at hr2 <;> omega)]
    have e2 : r2 = -1 := by split at hr2 <;> omega
    clear hr2 h1 hwa hwt hln g1
    subst e2
    go_enter Try.func22, Try.ntmps22
    go_wp2_with fail
    obtain ⟨V, hV⟩ : ∃ V, V = w.alloc (Obj.cells #[.string c.hash, .int .i64 c.nonce, .int .i64 c.time, .int .i64 c.next, .int .i64 c.plan, .int .i64 c.err, .slice pa c.ans.length pc, .string c.sig] 39) := ⟨_, rfl⟩
    rw [← hV]
    have G : Hid (Below w.heap.size w V ∧ Blk V w.heap.size 39 #[.string c.hash, .int .i64 c.nonce, .int .i64 c.time, .int .i64 c.next, .int .i64 c.plan, .int .i64 c.err, .slice pa c.ans.length pc, .string c.sig]) := by rw [hV]; exact ⟨(Below.refl _ _).alloc (Nat.le_refl _) _, Blk.new w _ _⟩
    clear hV
    refine (Z2.out V G.out.1).mono ?_
    rintro e V2 ⟨rfl, hb⟩
    have G2 : Hid (Below w.heap.size w V2 ∧ Blk V2 w.heap.size 39 #[.string c.hash, .int .i64 c.nonce, .int .i64 c.time, .int .i64 c.next, .int .i64 c.plan, .int .i64 c.err, .slice pa c.ans.length pc, .string c.sig]) := ⟨G.out.1.trans (hb.mono G.out.1.size), G.out.2.below hb G.out.2.lt⟩
    clear hb G
    have c7 : V2.cell? ⟨w.heap.size, 7, none⟩ = some (.string c.sig) := G2.out.2.cell 7
    go_wp2_with fail
    go_ret
    exact ⟨by rw [HF.out]; rfl, G2.out.1⟩
  have e2 : r2 = r1 - (wtAS c.ans : Int) ∧ (wtAS c.ans : Int) ≤ r1 := by split at hr2 <;> omega
  have w3 : IntKind.i64.wrap (r2 - (c.sig.size : Int)) = r2 - (c.sig.size : Int) := by rw [IntKind.wrap_i64]; omega
  by_cases g2 : r2 < (c.sig.size : Int)
  · have HF : Hid (szRp c left = -1) := by show szRp c left = -1; unfold szRp wtR; rw [if_neg (by omega)]
    have n3 : r2 - (c.sig.size : Int) < 0 := by omega
    clear hr2 h1 hwa hwt hln e2
    go_enter Try.func22, Try.ntmps22
    go_wp2_with fail
    obtain ⟨V, hV⟩ : ∃ V, V = w.alloc (Obj.cells #[.string c.hash, .int .i64 c.nonce, .int .i64 c.time, .int .i64 c.next, .int .i64 c.plan, .int .i64 c.err, .slice pa c.ans.length pc, .string c.sig] 39) := ⟨_, rfl⟩
    rw [← hV]
    have G : Hid (Below w.heap.size w V ∧ Blk V w.heap.size 39 #[.string c.hash, .int .i64 c.nonce, .int .i64 c.time, .int .i64 c.next, .int .i64 c.plan, .int .i64 c.err, .slice pa c.ans.length pc, .string c.sig]) := by rw [hV]; exact ⟨(Below.refl _ _).alloc (Nat.le_refl _) _, Blk.new w _ _⟩
    clear hV
    refine (Z2.out V G.out.1).mono ?_
    rintro e V2 ⟨rfl, hb⟩
    have G2 : Hid (Below w.heap.size w V2 ∧ Blk V2 w.heap.size 39 #[.string c.hash, .int .i64 c.nonce, .int .i64 c.time, .int .i64 c.next, .int .i64 c.plan, .int .i64 c.err, .slice pa c.ans.length pc, .string c.sig]) := ⟨G.out.1.trans (hb.mono G.out.1.size), G.out.2.below hb G.out.2.lt⟩
    clear hb G
    have c7 : V2.cell? ⟨w.heap.size, 7, none⟩ = some (.string c.sig) := G2.out.2.cell 7
    go_wp2_with fail
    go_ret
    exact ⟨by rw [HF.out]; rfl, G2.out.1⟩
  · have HF : Hid (szRp c left = r2 - (c.sig.size : Int)) := by show szRp c left = _; unfold szRp wtR; rw [if_pos (by omega)]; omega
    have n3 : ¬ r2 - (c.sig.size : Int) < 0 := by omega
    clear hr2 h1 hwa hwt hln e2
    go_enter Try.func22, Try.ntmps22
    go_wp2_with fail
    obtain ⟨V, hV⟩ : ∃ V, V = w.alloc (Obj.cells #[.string c.hash, .int .i64 c.nonce, .int .i64 c.time, .int .i64 c.next, .int .i64 c.plan, .int .i64 c.err, .slice pa c.ans.length pc, .string c.sig] 39) := ⟨_, rfl⟩
    rw [← hV]
    have G : Hid (Below w.heap.size w V ∧ Blk V w.heap.size 39 #[.string c.hash, .int .i64 c.nonce, .int .i64 c.time, .int .i64 c.next, .int .i64 c.plan, .int .i64 c.err, .slice pa c.ans.length pc, .string c.sig]) := by rw [hV]; exact ⟨(Below.refl _ _).alloc (Nat.le_refl _) _, Blk.new w _ _⟩
    clear hV
    refine (Z2.out V G.out.1).mono ?_
    rintro e V2 ⟨rfl, hb⟩
    have G2 : Hid (Below w.heap.size w V2 ∧ Blk V2 w.heap.size 39 #[.string c.hash, .int .i64 c.nonce, .int .i64 c.time, .int .i64 c.next, .int .i64 c.plan, .int .i64 c.err, .slice pa c.ans.length pc, .string c.sig]) := ⟨G.out.1.trans (hb.mono G.out.1.size), G.out.2.below hb G.out.2.lt⟩
    clear hb G
    have c7 : V2.cell? ⟨w.heap.size, 7, none⟩ = some (.string c.sig) := G2.out.2.cell 7
    go_wp2_with fail
    go_ret
    exact ⟨by rw [HF.out]; rfl, G2.out.1⟩
set_option maxHeartbeats 6400000 in
set_option maxRecDepth 100000 in
theorem eqReply_same (c : Rp) (a b : Value) (w : World) (hl : wtAS c.ans ≤ 1000000000) (ha : RpAt w a c) (hb : RpAt w b c) :
    Calls Try.prog 26 #[a, b] w fun e w' => e = .returned (.bool true) ∧ Below w.heap.size w w' := by
  obtain ⟨pv, rfl, h1⟩ := ha
  obtain ⟨pu, rfl, k1⟩ := hb
  have HQ : Hid (∀ W, Below w.heap.size w W → Calls Try.prog 39 #[pv, pu] W (fun e w' => e = .returned (.bool true) ∧ Below W.heap.size W w')) := fun W hb => eqAnswerS_same c.ans pv pu W hl (h1.below hb) (k1.below hb)
  obtain ⟨lp, hlp⟩ : ∃ l, c.ans.length = l := ⟨_, rfl⟩
  obtain ⟨pa, pc, hpa⟩ := h1.shape
  obtain ⟨pb, qc, hpb⟩ := k1.shape
  rw [hlp] at hpa hpb
  subst hpa hpb
  clear hlp hl h1 k1
  unfold rpV
  go_enter Try.func26, Try.ntmps26
  go_upto_region 1 with fail
  obtain ⟨V1, hV⟩ : ∃ V, V = (w.alloc (Obj.cells #[.string c.hash, .int .i64 c.nonce, .int .i64 c.time, .int .i64 c.next, .int .i64 c.plan, .int .i64 c.err, .slice pa lp pc, .string c.sig] 44)).alloc (Obj.cells #[.string c.hash, .int .i64 c.nonce, .int .i64 c.time, .int .i64 c.next, .int .i64 c.plan, .int .i64 c.err, .slice pb lp qc, .string c.sig] 44) := ⟨_, rfl⟩
  rw [← hV]
  have G1 : Hid (Blk V1 w.heap.size 44 #[.string c.hash, .int .i64 c.nonce, .int .i64 c.time, .int .i64 c.next, .int .i64 c.plan, .int .i64 c.err, .slice pa lp pc, .string c.sig] ∧ Blk V1 (w.heap.size + 1) 44 #[.string c.hash, .int .i64 c.nonce, .int .i64 c.time, .int .i64 c.next, .int .i64 c.plan, .int .i64 c.err, .slice pb lp qc, .string c.sig] ∧ Below w.heap.size w V1 ∧ w.heap.size + 1 < V1.heap.size) := by
    have e0 : (w.alloc (Obj.cells #[.string c.hash, .int .i64 c.nonce, .int .i64 c.time, .int .i64 c.next, .int .i64 c.plan, .int .i64 c.err, .slice pa lp pc, .string c.sig] 44)).heap.size = w.heap.size + 1 := Array.size_push _
    have h := Blk.new (w.alloc (Obj.cells #[.string c.hash, .int .i64 c.nonce, .int .i64 c.time, .int .i64 c.next, .int .i64 c.plan, .int .i64 c.err, .slice pa lp pc, .string c.sig] 44)) 44 #[.string c.hash, .int .i64 c.nonce, .int .i64 c.time, .int .i64 c.next, .int .i64 c.plan, .int .i64 c.err, .slice pb lp qc, .string c.sig]
    rw [e0] at h
    rw [hV]
    exact ⟨(Blk.new w _ _).alloc _, h, ((Below.refl _ _).alloc (Nat.le_refl _) _).alloc (by rw [e0]; omega) _, by rw [size_alloc, e0]; omega⟩
  clear hV
  have a0 : V1.cell? ⟨w.heap.size, 0, none⟩ = some (.string c.hash) := G1.out.1.cell 0
  have b0 : V1.cell? ⟨w.heap.size + 1, 0, none⟩ = some (.string c.hash) := G1.out.2.1.cell 0
  have a1 : V1.cell? ⟨w.heap.size, 1, none⟩ = some (.int .i64 c.nonce) := G1.out.1.cell 1
  have b1 : V1.cell? ⟨w.heap.size + 1, 1, none⟩ = some (.int .i64 c.nonce) := G1.out.2.1.cell 1
  have a2 : V1.cell? ⟨w.heap.size, 2, none⟩ = some (.int .i64 c.time) := G1.out.1.cell 2
  have b2 : V1.cell? ⟨w.heap.size + 1, 2, none⟩ = some (.int .i64 c.time) := G1.out.2.1.cell 2
  have a3 : V1.cell? ⟨w.heap.size, 3, none⟩ = some (.int .i64 c.next) := G1.out.1.cell 3
  have b3 : V1.cell? ⟨w.heap.size + 1, 3, none⟩ = some (.int .i64 c.next) := G1.out.2.1.cell 3
  have a4 : V1.cell? ⟨w.heap.size, 4, none⟩ = some (.int .i64 c.plan) := G1.out.1.cell 4
  have b4 : V1.cell? ⟨w.heap.size + 1, 4, none⟩ = some (.int .i64 c.plan) := G1.out.2.1.cell 4
  have a5 : V1.cell? ⟨w.heap.size, 5, none⟩ = some (.int .i64 c.err) := G1.out.1.cell 5
  have b5 : V1.cell? ⟨w.heap.size + 1, 5, none⟩ = some (.int .i64 c.err) := G1.out.2.1.cell 5
  have a6 : V1.cell? ⟨w.heap.size, 6, none⟩ = some (.slice pa lp pc) := G1.out.1.cell 6
  have b6 : V1.cell? ⟨w.heap.size + 1, 6, none⟩ = some (.slice pb lp qc) := G1.out.2.1.cell 6
  go_wp2_with fail
  clear a0 b0 a1 b1 a2 b2 a3 b3 a4 b4 a5 b5 a6 b6
  refine (HQ.out V1 G1.out.2.2.1).mono ?_
  rintro e V2 ⟨rfl, hb⟩
  have G2 : Hid (Blk V2 w.heap.size 44 #[.string c.hash, .int .i64 c.nonce, .int .i64 c.time, .int .i64 c.next, .int .i64 c.plan, .int .i64 c.err, .slice pa lp pc, .string c.sig] ∧ Blk V2 (w.heap.size + 1) 44 #[.string c.hash, .int .i64 c.nonce, .int .i64 c.time, .int .i64 c.next, .int .i64 c.plan, .int .i64 c.err, .slice pb lp qc, .string c.sig] ∧ Below w.heap.size w V2 ∧ w.heap.size + 1 < V2.heap.size) := ⟨G1.out.1.below hb (by have := G1.out.2.2.2; omega), G1.out.2.1.below hb G1.out.2.2.2, G1.out.2.2.1.trans (hb.mono G1.out.2.2.1.size), Nat.lt_of_lt_of_le G1.out.2.2.2 hb.size⟩
  clear hb G1
  have ca : V2.cell? ⟨w.heap.size, 7, none⟩ = some (.string c.sig) := G2.out.1.cell 7
  have cb : V2.cell? ⟨w.heap.size + 1, 7, none⟩ = some (.string c.sig) := G2.out.2.1.cell 7
  go_wp2_with fail
  go_ret
  exact ⟨rfl, G2.out.2.2.1⟩
end Go.Proofs.Ytbiiihjohbnodaa
