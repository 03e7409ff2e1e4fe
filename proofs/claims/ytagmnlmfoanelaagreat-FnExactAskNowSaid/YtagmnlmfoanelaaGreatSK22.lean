/-
  Texts of the proof.
-/
import Derived.Deep.Cut
import Derived.Test.YtagmnlmfoanelaaGreatSK21
set_option maxRecDepth 100000
set_option maxHeartbeats 25600000
namespace Go.Proofs.YtagmnlmfoanelaaGreat
open Go.RowKit
set_option linter.unusedVariables false
def mkAk (k : Nat) (c : Ak) : Ak := { c with tg := marksT k c.tg.length }
def fpAk (v : Value) : List Nat := match v with
 | .agg a => (a.getD 0 (.slice none 0 0)).ownBlock.toList
 | _ => []
theorem fpAk_mem {c : Ak} {p : Value} {g : Nat} : g ∈ fpAk (akV c p) ↔ p.ownBlock = some g := by
 show g ∈ p.ownBlock.toList ↔ _
 simp [Option.mem_toList]
theorem fpAk_lt {w : World} {base : Nat} {v : Value} {c : Ak} (h : OwnAk w base v c) : ∀ b ∈ fpAk v, base <= b /\ b < w.heap.size := by
 obtain ⟨p, rfl, h1⟩ := h
 intro b hb
 exact World.ownsRow.lt h1 b (fpAk_mem.1 hb)
theorem OwnAk.out {w w' : World} {base : Nat} {v : Value} {c : Ak} {fp : List Nat} (h : OwnAk w base v c) (ho : Out fp w w') (hn : ∀ b ∈ fpAk v, b ∉ fp) : OwnAk w' base v c := by
 obtain ⟨p, rfl, h1⟩ := h
 exact ⟨p, rfl, ho.row (fun g hg => hn g (fpAk_mem.2 hg)) h1⟩
theorem markAsk_out (c : Ak) (v : Value) (k base : Nat) (w : World) (hl : c.tg.length <= 20000000) (hk1 : 1 <= k) (hk : k <= 100000000) (ha : OwnAk w base v c) :
  Calls Tryz.prog 13 #[v, .int .i64 k] w fun e w' => e = .returned (.int .i64 (((k + c.tg.length : Nat)) : Int)) /\ OwnAk w' base v (mkAk k c) /\ Out (fpAk v) w w' := by
 obtain ⟨p, rfl, h1⟩ := ha
 obtain ⟨ap, cp, hp⟩ : ∃ ao cap, p = .slice ao c.tg.length cap := by obtain ⟨ao, cap, h, _⟩ := h1.at; exact ⟨ao, cap, h⟩
 obtain ⟨lp, hlp⟩ := zE (c.tg.length)
 rw [hlp] at hp
 subst hp
 have HB : Hid (∀ g, (Value.slice ap lp cp).ownBlock = some g -> g < w.heap.size) := fun g hg => (World.ownsRow.lt h1 g hg).2
 have HA : Hid (OwnT w base (.slice ap lp cp) c.tg /\ c.tg.length = lp) := ⟨h1, hlp⟩
 rw [hlp] at hl
 have hm : mkAk k c = { c with tg := marksT k lp } := by unfold mkAk; rw [hlp]
 rw [hm, hlp]
 clear h1 hm hlp
 unfold akV
 go_enter Tryz.func13, Tryz.ntmps13
 go_wp2_with fail
 obtain ⟨V, hV⟩ : ∃ V, V = w.alloc (Obj.cells #[.slice ap lp cp, .int .i64 c.plan, .int .i64 c.want, .int .i64 c.nonce, .int .i64 c.time, .bool c.cac] 39) := ⟨_, rfl⟩
 rw [<- hV]
 have G : Hid (Out (fpAk (akV c (.slice ap lp cp))) w V /\ OwnT V base (.slice ap lp cp) c.tg) := by
  have hb : Below w.heap.size w V := by rw [hV]; exact (Below.refl _ _).alloc (Nat.le_refl _) _
  exact ⟨Out.of_below hb, HA.out.1.stays hb⟩
 clear hV
 have E0 := markT_any (.slice ap lp cp) c.tg k base V (by rw [HA.out.2]; omega) hk1 (by omega) G.out.2
 rw [HA.out.2] at E0
 refine E0.mono ?_
 rintro r u0 ⟨rfl, ho, hg⟩
 have G0 : Hid (Out (fpAk (akV c (.slice ap lp cp))) w u0 /\ OwnT u0 base (.slice ap lp cp) (marksT k lp)) := ⟨G.out.1.grown hg (fun q hq => fpAk_mem.2 hq), ho⟩
 clear ho hg G E0
 go_wp2_with fail
 go_ret
 exact ⟨by rw [Int.natCast_add]; rfl, ⟨_, rfl, G0.out.2⟩, G0.out.1⟩
theorem toAsk_any (c : Ak) (v : Value) (B : Nat) (w : World) (hl : c.tg.length <= 1048576) (hB : B <= w.heap.size) (ha : ArgAk B w v c) :
  Calls Tryz.prog 8 #[v] w fun e w' => ∃ u, e = .returned u /\ OwnAk w' w.heap.size u c /\ Below w.heap.size w w' := by
 obtain ⟨pa, pc, rfl, h1⟩ := ha
 have HA : Hid (ArgT B w pa c.tg /\ c.tg.length <= 1048576) := ⟨h1, hl⟩
 clear h1 hl
 unfold akV
 go_enter Tryz.func8, Tryz.ntmps8
 go_wp2_with fail
 obtain ⟨W3, hW3⟩ : ∃ W, W = ((w.alloc (Obj.cells #[.slice pa c.tg.length pc, .int .i64 c.plan, .int .i64 c.want, .int .i64 c.nonce, .int .i64 c.time, .bool c.cac] 29)).alloc (Obj.cells #[.slice none 0 0, .int .i64 0, .int .i64 0, .int .i64 0, .int .i64 0, .bool false] 39)).alloc (Obj.cells #[.slice none 0 0, .int .i64 0, .int .i64 0, .int .i64 0, .int .i64 0, .bool false] 39) := ⟨_, rfl⟩
 change Calls _ _ _ (((w.alloc (Obj.cells #[.slice pa c.tg.length pc, .int .i64 c.plan, .int .i64 c.want, .int .i64 c.nonce, .int .i64 c.time, .bool c.cac] 29)).alloc (Obj.cells #[.slice none 0 0, .int .i64 0, .int .i64 0, .int .i64 0, .int .i64 0, .bool false] 39)).alloc (Obj.cells #[.slice none 0 0, .int .i64 0, .int .i64 0, .int .i64 0, .int .i64 0, .bool false] 39)) _
 rw [<- hW3]
 have e0 : (w.alloc (Obj.cells #[.slice pa c.tg.length pc, .int .i64 c.plan, .int .i64 c.want, .int .i64 c.nonce, .int .i64 c.time, .bool c.cac] 29)).heap.size = w.heap.size + 1 := Array.size_push _
 have e1 : ((w.alloc (Obj.cells #[.slice pa c.tg.length pc, .int .i64 c.plan, .int .i64 c.want, .int .i64 c.nonce, .int .i64 c.time, .bool c.cac] 29)).alloc (Obj.cells #[.slice none 0 0, .int .i64 0, .int .i64 0, .int .i64 0, .int .i64 0, .bool false] 39)).heap.size = w.heap.size + 1 + 1 := by rw [size_alloc, e0]
 have G0 : Hid ((Blk W3 w.heap.size 29 #[.slice pa c.tg.length pc, .int .i64 c.plan, .int .i64 c.want, .int .i64 c.nonce, .int .i64 c.time, .bool c.cac] /\ Blk W3 (w.heap.size + 1) 39 #[.slice none 0 0, .int .i64 0, .int .i64 0, .int .i64 0, .int .i64 0, .bool false] /\ Blk W3 (w.heap.size + 1 + 1) 39 #[.slice none 0 0, .int .i64 0, .int .i64 0, .int .i64 0, .int .i64 0, .bool false] /\ Below w.heap.size w W3) /\ w.heap.size + 1 + 1 + 1 <= W3.heap.size) := by
  rw [hW3]
  refine ⟨⟨((Blk.new w _ _).alloc _).alloc _, ?_, ?_, (((Below.refl _ _).alloc (Nat.le_refl _) _).alloc (by rw [e0]; omega) _).alloc (by rw [e1]; omega) _⟩, by rw [size_alloc, e1]; omega⟩
  ·have h := (Blk.new (w.alloc (Obj.cells #[.slice pa c.tg.length pc, .int .i64 c.plan, .int .i64 c.want, .int .i64 c.nonce, .int .i64 c.time, .bool c.cac] 29)) 39 #[.slice none 0 0, .int .i64 0, .int .i64 0, .int .i64 0, .int .i64 0, .bool false]).alloc (Obj.cells #[.slice none 0 0, .int .i64 0, .int .i64 0, .int .i64 0, .int .i64 0, .bool false] 39)
   rw [e0] at h
   exact h
  ·have h := Blk.new ((w.alloc (Obj.cells #[.slice pa c.tg.length pc, .int .i64 c.plan, .int .i64 c.want, .int .i64 c.nonce, .int .i64 c.time, .bool c.cac] 29)).alloc (Obj.cells #[.slice none 0 0, .int .i64 0, .int .i64 0, .int .i64 0, .int .i64 0, .bool false] 39)) 39 #[.slice none 0 0, .int .i64 0, .int .i64 0, .int .i64 0, .int .i64 0, .bool false]
   rw [e1] at h
   exact h
 clear hW3 e0 e1
 have wd1 : w.heap.size ≠ w.heap.size + 1 + 1 := by omega
 have wd2 : w.heap.size + 1 ≠ w.heap.size + 1 + 1 := by omega
 refine (toStringS_any pa c.tg c.tg.length pc B W3 rfl HA.out.2 (Nat.le_trans hB G0.out.1.2.2.2.size) (HA.out.1.below (G0.out.1.2.2.2.mono hB))).mono ?_
 rintro r u2 ⟨p, rfl, op, hb⟩
 have F2 : Hid ((Blk u2 w.heap.size 29 #[.slice pa c.tg.length pc, .int .i64 c.plan, .int .i64 c.want, .int .i64 c.nonce, .int .i64 c.time, .bool c.cac] /\ Blk u2 (w.heap.size + 1) 39 #[.slice none 0 0, .int .i64 0, .int .i64 0, .int .i64 0, .int .i64 0, .bool false] /\ Blk u2 (w.heap.size + 1 + 1) 39 #[.slice none 0 0, .int .i64 0, .int .i64 0, .int .i64 0, .int .i64 0, .bool false] /\ Below w.heap.size w u2) /\ w.heap.size + 1 + 1 + 1 <= u2.heap.size /\ OwnT u2 (w.heap.size + 1 + 1 + 1) p c.tg) := by
  have hz := G0.out.2
  exact ⟨⟨G0.out.1.1.below hb (by omega), G0.out.1.2.1.below hb (by omega), G0.out.1.2.2.1.below hb (by omega), G0.out.1.2.2.2.trans (hb.mono G0.out.1.2.2.2.size)⟩, Nat.le_trans hz hb.size, op.base hz⟩
 clear op hb G0
 have fr := fun j => F2.out.1.2.2.1.free j
 have f1 := fun j => F2.out.1.2.1.free j
 obtain ⟨qp, mp, hsp⟩ : ∃ ao cap, p = .slice ao c.tg.length cap := by obtain ⟨ao, cap, h, _⟩ := F2.out.2.2.at; exact ⟨ao, cap, h⟩
 obtain ⟨lp, hlp⟩ := zE (c.tg.length)
 rw [hlp] at hsp
 clear hlp
 subst hsp
 clear fr f1
 have fr := fun j => F2.out.1.2.2.1.free j
 have ca1 : u2.cell? ⟨w.heap.size, 1, none⟩ = some (.int .i64 c.plan) := F2.out.1.1.cell 1
 have c20 : u2.cell? ⟨w.heap.size + 1 + 1, 0, none⟩ = some (.slice none 0 0) := F2.out.1.2.2.1.cell 0
 have c21 : u2.cell? ⟨w.heap.size + 1 + 1, 1, none⟩ = some (.int .i64 0) := F2.out.1.2.2.1.cell 1
 go_upto_region 4 with fail
 obtain ⟨X0, hV⟩ : ∃ V, V = ((u2.setCell ⟨w.heap.size + 1 + 1, 0, none⟩ (.slice qp lp mp)).setCell ⟨w.heap.size + 1 + 1, 1, none⟩ (.int .i64 c.plan)) := ⟨_, rfl⟩
 rw [<- hV]
 have Y0 : Hid ((Blk X0 w.heap.size 29 #[.slice pa c.tg.length pc, .int .i64 c.plan, .int .i64 c.want, .int .i64 c.nonce, .int .i64 c.time, .bool c.cac] /\ Blk X0 (w.heap.size + 1) 39 #[.slice none 0 0, .int .i64 0, .int .i64 0, .int .i64 0, .int .i64 0, .bool false] /\ Blk X0 (w.heap.size + 1 + 1) 39 #[.slice qp lp mp, .int .i64 c.plan, .int .i64 0, .int .i64 0, .int .i64 0, .bool false] /\ Below w.heap.size w X0) /\ w.heap.size + 1 + 1 + 1 <= X0.heap.size /\ OwnT X0 (w.heap.size + 1 + 1 + 1) (.slice qp lp mp) c.tg) := by
  have hbs : Below (w.heap.size + 1 + 1) u2 X0 := by rw [hV]; exact (((Below.refl _ _).setCell (p := ⟨w.heap.size + 1 + 1, 0, none⟩) (Nat.le_refl _) _).setCell (p := ⟨w.heap.size + 1 + 1, 1, none⟩) (Nat.le_refl _) _)
  have hot : ∀ b, w.heap.size + 1 + 1 + 1 <= b -> X0.heap[b]? = u2.heap[b]? := fun b hb => by rw [hV, heap_setCell_other _ _ _ _ (by show b ≠ w.heap.size + 1 + 1; omega), heap_setCell_other _ _ _ _ (by show b ≠ w.heap.size + 1 + 1; omega)]
  exact ⟨⟨F2.out.1.1.below hbs (by omega), F2.out.1.2.1.below hbs (by omega), by rw [hV]; exact ((F2.out.1.2.2.1.set 0 _).set 1 _), F2.out.1.2.2.2.trans (hbs.mono (by omega))⟩, Nat.le_trans F2.out.2.1 hbs.size, F2.out.2.2.block hot⟩
 clear hV F2 fr ca1 c20 c21
 have fr := fun j => Y0.out.1.2.2.1.free j
 have ca2 : X0.cell? ⟨w.heap.size, 2, none⟩ = some (.int .i64 c.want) := Y0.out.1.1.cell 2
 have ca3 : X0.cell? ⟨w.heap.size, 3, none⟩ = some (.int .i64 c.nonce) := Y0.out.1.1.cell 3
 have c22 : X0.cell? ⟨w.heap.size + 1 + 1, 2, none⟩ = some (.int .i64 0) := Y0.out.1.2.2.1.cell 2
 have c23 : X0.cell? ⟨w.heap.size + 1 + 1, 3, none⟩ = some (.int .i64 0) := Y0.out.1.2.2.1.cell 3
 go_upto_region 6 with fail
 obtain ⟨X1, hV⟩ : ∃ V, V = ((X0.setCell ⟨w.heap.size + 1 + 1, 2, none⟩ (.int .i64 c.want)).setCell ⟨w.heap.size + 1 + 1, 3, none⟩ (.int .i64 c.nonce)) := ⟨_, rfl⟩
 rw [<- hV]
 have Y1 : Hid ((Blk X1 w.heap.size 29 #[.slice pa c.tg.length pc, .int .i64 c.plan, .int .i64 c.want, .int .i64 c.nonce, .int .i64 c.time, .bool c.cac] /\ Blk X1 (w.heap.size + 1) 39 #[.slice none 0 0, .int .i64 0, .int .i64 0, .int .i64 0, .int .i64 0, .bool false] /\ Blk X1 (w.heap.size + 1 + 1) 39 #[.slice qp lp mp, .int .i64 c.plan, .int .i64 c.want, .int .i64 c.nonce, .int .i64 0, .bool false] /\ Below w.heap.size w X1) /\ w.heap.size + 1 + 1 + 1 <= X1.heap.size /\ OwnT X1 (w.heap.size + 1 + 1 + 1) (.slice qp lp mp) c.tg) := by
  have hbs : Below (w.heap.size + 1 + 1) X0 X1 := by rw [hV]; exact (((Below.refl _ _).setCell (p := ⟨w.heap.size + 1 + 1, 2, none⟩) (Nat.le_refl _) _).setCell (p := ⟨w.heap.size + 1 + 1, 3, none⟩) (Nat.le_refl _) _)
  have hot : ∀ b, w.heap.size + 1 + 1 + 1 <= b -> X1.heap[b]? = X0.heap[b]? := fun b hb => by rw [hV, heap_setCell_other _ _ _ _ (by show b ≠ w.heap.size + 1 + 1; omega), heap_setCell_other _ _ _ _ (by show b ≠ w.heap.size + 1 + 1; omega)]
  exact ⟨⟨Y0.out.1.1.below hbs (by omega), Y0.out.1.2.1.below hbs (by omega), by rw [hV]; exact ((Y0.out.1.2.2.1.set 2 _).set 3 _), Y0.out.1.2.2.2.trans (hbs.mono (by omega))⟩, Nat.le_trans Y0.out.2.1 hbs.size, Y0.out.2.2.block hot⟩
 clear hV Y0 fr ca2 ca3 c22 c23
 have fr := fun j => Y1.out.1.2.2.1.free j
 have ca4 : X1.cell? ⟨w.heap.size, 4, none⟩ = some (.int .i64 c.time) := Y1.out.1.1.cell 4
 have ca5 : X1.cell? ⟨w.heap.size, 5, none⟩ = some (.bool c.cac) := Y1.out.1.1.cell 5
 have c24 : X1.cell? ⟨w.heap.size + 1 + 1, 4, none⟩ = some (.int .i64 0) := Y1.out.1.2.2.1.cell 4
 have c25 : X1.cell? ⟨w.heap.size + 1 + 1, 5, none⟩ = some (.bool false) := Y1.out.1.2.2.1.cell 5
 go_upto_region 8 with fail
 obtain ⟨X2, hV⟩ : ∃ V, V = ((X1.setCell ⟨w.heap.size + 1 + 1, 4, none⟩ (.int .i64 c.time)).setCell ⟨w.heap.size + 1 + 1, 5, none⟩ (.bool c.cac)) := ⟨_, rfl⟩
 rw [<- hV]
 have Y2 : Hid ((Blk X2 w.heap.size 29 #[.slice pa c.tg.length pc, .int .i64 c.plan, .int .i64 c.want, .int .i64 c.nonce, .int .i64 c.time, .bool c.cac] /\ Blk X2 (w.heap.size + 1) 39 #[.slice none 0 0, .int .i64 0, .int .i64 0, .int .i64 0, .int .i64 0, .bool false] /\ Blk X2 (w.heap.size + 1 + 1) 39 #[.slice qp lp mp, .int .i64 c.plan, .int .i64 c.want, .int .i64 c.nonce, .int .i64 c.time, .bool c.cac] /\ Below w.heap.size w X2) /\ w.heap.size + 1 + 1 + 1 <= X2.heap.size /\ OwnT X2 (w.heap.size + 1 + 1 + 1) (.slice qp lp mp) c.tg) := by
  have hbs : Below (w.heap.size + 1 + 1) X1 X2 := by rw [hV]; exact (((Below.refl _ _).setCell (p := ⟨w.heap.size + 1 + 1, 4, none⟩) (Nat.le_refl _) _).setCell (p := ⟨w.heap.size + 1 + 1, 5, none⟩) (Nat.le_refl _) _)
  have hot : ∀ b, w.heap.size + 1 + 1 + 1 <= b -> X2.heap[b]? = X1.heap[b]? := fun b hb => by rw [hV, heap_setCell_other _ _ _ _ (by show b ≠ w.heap.size + 1 + 1; omega), heap_setCell_other _ _ _ _ (by show b ≠ w.heap.size + 1 + 1; omega)]
  exact ⟨⟨Y1.out.1.1.below hbs (by omega), Y1.out.1.2.1.below hbs (by omega), by rw [hV]; exact ((Y1.out.1.2.2.1.set 4 _).set 5 _), Y1.out.1.2.2.2.trans (hbs.mono (by omega))⟩, Nat.le_trans Y1.out.2.1 hbs.size, Y1.out.2.2.block hot⟩
 clear hV Y1 fr ca4 ca5 c24 c25
 have c10 : X2.cell? ⟨w.heap.size + 1, 0, none⟩ = some (.slice none 0 0) := Y2.out.1.2.1.cell 0
 have c20 : X2.cell? ⟨w.heap.size + 1 + 1, 0, none⟩ = some (.slice qp lp mp) := Y2.out.1.2.2.1.cell 0
 have c11 : X2.cell? ⟨w.heap.size + 1, 1, none⟩ = some (.int .i64 0) := Y2.out.1.2.1.cell 1
 have c21 : X2.cell? ⟨w.heap.size + 1 + 1, 1, none⟩ = some (.int .i64 c.plan) := Y2.out.1.2.2.1.cell 1
 have c12 : X2.cell? ⟨w.heap.size + 1, 2, none⟩ = some (.int .i64 0) := Y2.out.1.2.1.cell 2
 have c22 : X2.cell? ⟨w.heap.size + 1 + 1, 2, none⟩ = some (.int .i64 c.want) := Y2.out.1.2.2.1.cell 2
 have c13 : X2.cell? ⟨w.heap.size + 1, 3, none⟩ = some (.int .i64 0) := Y2.out.1.2.1.cell 3
 have c23 : X2.cell? ⟨w.heap.size + 1 + 1, 3, none⟩ = some (.int .i64 c.nonce) := Y2.out.1.2.2.1.cell 3
 have c14 : X2.cell? ⟨w.heap.size + 1, 4, none⟩ = some (.int .i64 0) := Y2.out.1.2.1.cell 4
 have c24 : X2.cell? ⟨w.heap.size + 1 + 1, 4, none⟩ = some (.int .i64 c.time) := Y2.out.1.2.2.1.cell 4
 have c15 : X2.cell? ⟨w.heap.size + 1, 5, none⟩ = some (.bool false) := Y2.out.1.2.1.cell 5
 have c25 : X2.cell? ⟨w.heap.size + 1 + 1, 5, none⟩ = some (.bool c.cac) := Y2.out.1.2.2.1.cell 5
 have f1 := fun j => Y2.out.1.2.1.free j
 go_wp2_with fail
 refine bodyPost_ret (v := akV c (.slice qp lp mp)) (by simp [results, Tryz.results8, go_sem, akV, c10, c11, c12, c13, c14, c15]) rfl ⟨_, rfl, ⟨_, rfl, (Y2.out.2.2.block ?far).base (by omega)⟩, ?bel⟩
 case far =>
  intro b hb
  iterate 6 rw [heap_setCell_other _ _ _ _ (by show b ≠ w.heap.size + 1; omega)]
 case bel =>
  iterate 6 refine Below.setCell ?_ (by show w.heap.size <= w.heap.size + 1; omega) _
  exact Y2.out.1.2.2.2
theorem szAsk_any (c : Ak) (v : Value) (left : Int) (w : World) (hwd : WdAk c) (h0 : 0 <= left) (hl : left <= 1048576) (ha : ArgAk w.heap.size w v c) :
  Calls Tryz.prog 5 #[v, .int .i64 left] w fun e w' => e = .returned (.int .i64 (szAk c left)) /\ Below w.heap.size w w' := by
 obtain ⟨pa, pc, rfl, h1⟩ := ha
 obtain ⟨_, hwt, hpl⟩ := hwd
 unfold akV
 obtain ⟨r2, hr2⟩ : ∃ r : Int, r = if (totT c.tg : Int) <= left then left - (totT c.tg : Int) else -1 := ⟨_, rfl⟩
 have Z2 : Hid (∀ W, Below w.heap.size w W -> Calls Tryz.prog 18 #[.slice pa c.tg.length pc, .int .i64 left] W fun e w' => e = .returned (.int .i64 r2) /\ Below W.heap.size W w') := fun W hb => by rw [hr2]; exact szStringS_any pa c.tg c.tg.length pc w.heap.size left W rfl hpl hwt (by omega) (by omega) hb.size (h1.below hb)
 have HF : Hid (szAk c left = r2) := by rw [hr2]; rfl
 clear h1
 by_cases g2 : r2 < 0
 ·have h1 : r2 = -1 := by split at hr2 <;> omega
  clear hr2 g2
  subst h1
  go_enter Tryz.func5, Tryz.ntmps5
  go_wp2_with fail
  obtain ⟨V, hV⟩ : ∃ V, V = w.alloc (Obj.cells #[.slice pa c.tg.length pc, .int .i64 c.plan, .int .i64 c.want, .int .i64 c.nonce, .int .i64 c.time, .bool c.cac] 29) := ⟨_, rfl⟩
  rw [<- hV]
  have G : Hid (Below w.heap.size w V) := by rw [hV]; exact (Below.refl _ _).alloc (Nat.le_refl _) _
  clear hV
  refine (Z2.out V G.out).mono ?_
  rintro e V2 ⟨rfl, hb⟩
  have G2 : Hid (Below w.heap.size w V2) := G.out.trans (hb.mono G.out.size)
  clear hb G
  go_wp2_with fail
  go_ret
  exact ⟨by rw [HF.out]; rfl, G2.out⟩
 ·clear hr2
  go_enter Tryz.func5, Tryz.ntmps5
  go_wp2_with fail
  obtain ⟨V, hV⟩ : ∃ V, V = w.alloc (Obj.cells #[.slice pa c.tg.length pc, .int .i64 c.plan, .int .i64 c.want, .int .i64 c.nonce, .int .i64 c.time, .bool c.cac] 29) := ⟨_, rfl⟩
  rw [<- hV]
  have G : Hid (Below w.heap.size w V) := by rw [hV]; exact (Below.refl _ _).alloc (Nat.le_refl _) _
  clear hV
  refine (Z2.out V G.out).mono ?_
  rintro e V2 ⟨rfl, hb⟩
  have G2 : Hid (Below w.heap.size w V2) := G.out.trans (hb.mono G.out.size)
  clear hb G
  go_wp2_with fail
  go_ret
  exact ⟨by rw [HF.out]; rfl, G2.out⟩
theorem eqAsk_same (c : Ak) (a b : Value) (w : World) (hl : c.tg.length <= 1000000000) (ha : AkAt w a c) (hb : AkAt w b c) :
  Calls Tryz.prog 11 #[a, b] w fun e w' => e = .returned (.bool true) /\ Below w.heap.size w w' := by
 obtain ⟨pv, rfl, h1⟩ := ha
 obtain ⟨pu, rfl, k1⟩ := hb
 have HQ : Hid (∀ W, Below w.heap.size w W -> Calls Tryz.prog 33 #[pv, pu] W (fun e w' => e = .returned (.bool true) /\ Below W.heap.size W w')) := fun W hb => eqT_same pv pu c.tg W hl (h1.below hb) (k1.below hb)
 obtain ⟨lp, hlp⟩ := zE (c.tg.length)
 obtain ⟨pa, pc, hpa, _⟩ := h1
 obtain ⟨pb, qc, hpb, _⟩ := k1
 rw [hlp] at hpa hpb
 subst hpa hpb
 clear hlp hl
 unfold akV
 go_enter Tryz.func11, Tryz.ntmps11
 go_wp2_with fail
 obtain ⟨V, hV⟩ : ∃ V, V = (w.alloc (Obj.cells #[.slice pa lp pc, .int .i64 c.plan, .int .i64 c.want, .int .i64 c.nonce, .int .i64 c.time, .bool c.cac] 39)).alloc (Obj.cells #[.slice pb lp qc, .int .i64 c.plan, .int .i64 c.want, .int .i64 c.nonce, .int .i64 c.time, .bool c.cac] 39) := ⟨_, rfl⟩
 rw [<- hV]
 have G : Hid (Blk V w.heap.size 39 #[.slice pa lp pc, .int .i64 c.plan, .int .i64 c.want, .int .i64 c.nonce, .int .i64 c.time, .bool c.cac] /\ Blk V (w.heap.size + 1) 39 #[.slice pb lp qc, .int .i64 c.plan, .int .i64 c.want, .int .i64 c.nonce, .int .i64 c.time, .bool c.cac] /\ Below w.heap.size w V /\ w.heap.size + 1 < V.heap.size) := by
  have e0 : (w.alloc (Obj.cells #[.slice pa lp pc, .int .i64 c.plan, .int .i64 c.want, .int .i64 c.nonce, .int .i64 c.time, .bool c.cac] 39)).heap.size = w.heap.size + 1 := Array.size_push _
  have h := Blk.new (w.alloc (Obj.cells #[.slice pa lp pc, .int .i64 c.plan, .int .i64 c.want, .int .i64 c.nonce, .int .i64 c.time, .bool c.cac] 39)) 39 #[.slice pb lp qc, .int .i64 c.plan, .int .i64 c.want, .int .i64 c.nonce, .int .i64 c.time, .bool c.cac]
  rw [e0] at h
  rw [hV]
  exact ⟨(Blk.new w _ _).alloc _, h, ((Below.refl _ _).alloc (Nat.le_refl _) _).alloc (by rw [e0]; omega) _, by rw [size_alloc, e0]; omega⟩
 clear hV
 refine (HQ.out V G.out.2.2.1).mono ?_
 rintro e V2 ⟨rfl, hb⟩
 have G2 : Hid (Blk V2 w.heap.size 39 #[.slice pa lp pc, .int .i64 c.plan, .int .i64 c.want, .int .i64 c.nonce, .int .i64 c.time, .bool c.cac] /\ Blk V2 (w.heap.size + 1) 39 #[.slice pb lp qc, .int .i64 c.plan, .int .i64 c.want, .int .i64 c.nonce, .int .i64 c.time, .bool c.cac] /\ Below w.heap.size w V2 /\ w.heap.size + 1 < V2.heap.size) := ⟨G.out.1.below hb (by have := G.out.2.2.2; omega), G.out.2.1.below hb G.out.2.2.2, G.out.2.2.1.trans (hb.mono G.out.2.2.1.size), Nat.lt_of_lt_of_le G.out.2.2.2 hb.size⟩
 clear hb G
 have ca1 : V2.cell? ⟨w.heap.size, 1, none⟩ = some (.int .i64 c.plan) := G2.out.1.cell 1
 have cb1 : V2.cell? ⟨w.heap.size + 1, 1, none⟩ = some (.int .i64 c.plan) := G2.out.2.1.cell 1
 have ca2 : V2.cell? ⟨w.heap.size, 2, none⟩ = some (.int .i64 c.want) := G2.out.1.cell 2
 have cb2 : V2.cell? ⟨w.heap.size + 1, 2, none⟩ = some (.int .i64 c.want) := G2.out.2.1.cell 2
 have ca3 : V2.cell? ⟨w.heap.size, 3, none⟩ = some (.int .i64 c.nonce) := G2.out.1.cell 3
 have cb3 : V2.cell? ⟨w.heap.size + 1, 3, none⟩ = some (.int .i64 c.nonce) := G2.out.2.1.cell 3
 have ca4 : V2.cell? ⟨w.heap.size, 4, none⟩ = some (.int .i64 c.time) := G2.out.1.cell 4
 have cb4 : V2.cell? ⟨w.heap.size + 1, 4, none⟩ = some (.int .i64 c.time) := G2.out.2.1.cell 4
 have ca5 : V2.cell? ⟨w.heap.size, 5, none⟩ = some (.bool c.cac) := G2.out.1.cell 5
 have cb5 : V2.cell? ⟨w.heap.size + 1, 5, none⟩ = some (.bool c.cac) := G2.out.2.1.cell 5
 go_wp2_with fail
 go_ret
 exact ⟨rfl, G2.out.2.2.1⟩
end Go.Proofs.YtagmnlmfoanelaaGreat
namespace Go.Proofs.YtagmnlmfoanelaaGreat
open Go.RowKit Go.ChangeShapes
set_option linter.unusedVariables false
theorem cellsAsk : Tryz.prog.cellsOf 29 = 6 := by kernel_rfl
theorem ask_of_trod {H : Type} {enc : TypeId × Value -> H} {W : World} {fuel : Nat} {cs : List Value} {x : DataW H × List MemPlace} (h : DataW.trod enc Tryz.prog W 0 (fun _ => true) true fuel 29 cs = some x) :
  ∃ c : Ak, ArgAk W.heap.size W (.agg cs.toArray) c /\ WdAk c := by
 obtain ⟨xs, m, rfl, hx, hl, hxl, hall⟩ := DataW.trod_struct Tryz.underlying29 h
 rw [cellsAsk] at hl
 obtain ⟨x0, x1, x2, x3, x4, x5, rfl⟩ : ∃ x0 x1 x2 x3 x4 x5, xs = [x0, x1, x2, x3, x4, x5] := by
  match xs, hxl with
  | [x0, x1, x2, x3, x4, x5], _ => exact ⟨x0, x1, x2, x3, x4, x5, rfl⟩
 have f0 := hall 0 _ rfl
 change DataW.trod _ _ _ _ _ _ _ 27 ((cs.drop 0).take (Tryz.prog.cellsOf 27)) = some x0 at f0
 rw [cT] at f0
 obtain ⟨a0, p0, v0, h0, m0, w0, r0⟩ := texts_in f0
 have g0 := take_one h0
 clear f0 h0
 have f1 := hall 1 _ rfl
 change DataW.trod _ _ _ _ _ _ _ 3 ((cs.drop 1).take (Tryz.prog.cellsOf 3)) = some x1 at f1
 rw [cI] at f1
 obtain ⟨v1, h1, _, w1⟩ := DataW.trod_int Tryz.underlying3 f1
 have g1 := take_one h1
 clear f1 h1
 have f2 := hall 2 _ rfl
 change DataW.trod _ _ _ _ _ _ _ 3 ((cs.drop 2).take (Tryz.prog.cellsOf 3)) = some x2 at f2
 rw [cI] at f2
 obtain ⟨v2, h2, _, w2⟩ := DataW.trod_int Tryz.underlying3 f2
 have g2 := take_one h2
 clear f2 h2
 have f3 := hall 3 _ rfl
 change DataW.trod _ _ _ _ _ _ _ 3 ((cs.drop 3).take (Tryz.prog.cellsOf 3)) = some x3 at f3
 rw [cI] at f3
 obtain ⟨v3, h3, _, w3⟩ := DataW.trod_int Tryz.underlying3 f3
 have g3 := take_one h3
 clear f3 h3
 have f4 := hall 4 _ rfl
 change DataW.trod _ _ _ _ _ _ _ 3 ((cs.drop 4).take (Tryz.prog.cellsOf 3)) = some x4 at f4
 rw [cI] at f4
 obtain ⟨v4, h4, _, w4⟩ := DataW.trod_int Tryz.underlying3 f4
 have g4 := take_one h4
 clear f4 h4
 have f5 := hall 5 _ rfl
 change DataW.trod _ _ _ _ _ _ _ 4 ((cs.drop 5).take (Tryz.prog.cellsOf 4)) = some x5 at f5
 rw [cB] at f5
 obtain ⟨v5, h5, _⟩ := DataW.trod_bool Tryz.underlying4 f5
 have g5 := take_one h5
 clear f5 h5
 have hcs : cs = [.slice a0 v0.length p0, .int .i64 v1, .int .i64 v2, .int .i64 v3, .int .i64 v4, .bool v5] := by
  match cs, hl with
  | [y0, y1, y2, y3, y4, y5], _ =>
   simp at g0 g1 g2 g3 g4 g5
   rw [g0, g1, g2, g3, g4, g5]
 refine ⟨⟨v0, v1, v2, v3, v4, v5⟩, ⟨a0, p0, by rw [hcs]; rfl, r0⟩, ?_⟩
 unfold maxLen at m0
 refine ⟨fun y hy => ?_, w0, m0⟩
 simp only [List.mem_cons, List.not_mem_nil, or_false] at hy
 simp [Lit.wf, IntKind.min, IntKind.max, IntKind.signed, IntKind.bits] at w1 w2 w3 w4
 rcases hy with rfl | rfl | rfl | rfl <;> omega
end Go.Proofs.YtagmnlmfoanelaaGreat
