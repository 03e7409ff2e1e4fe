/-
  Texts of the proof.
-/
import Derived.Test.YtllmgjfffkhocaaTR22
set_option maxRecDepth 100000
set_option maxHeartbeats 25600000
namespace Go.Proofs.Ytllmgjfffkhocaa
open Go.RowKit
set_option linter.unusedVariables false
set_option linter.unusedSimpArgs false
theorem toPlan_any (c : Pn) (v : Value) (B : Nat) (w : World) (hl : c.anc.length <= 1048576 /\ c.ru.pol.length <= 1048576) (hB : B <= w.heap.size) (ha : ArgPn B w v c) :
  Calls Try.prog 20 #[v] w fun e w' => ∃ u, e = .returned u /\ OwnPn w' w.heap.size u c /\ Below w.heap.size w w' := by
 obtain ⟨pa, pc, ea, ec, rfl, h1, h2⟩ := ha
 have HA : Hid (ArgAt B w pa c.anc /\ ArgAt B w ea c.ru.pol /\ c.anc.length <= 1048576 /\ c.ru.pol.length <= 1048576) := ⟨h1, h2, hl⟩
 clear h1 h2 hl
 unfold pnV
 go_enter Try.func20, Try.ntmps20
 go_wp2_with fail
 obtain ⟨W3, hW3⟩ : ∃ W, W = ((w.alloc (Obj.cells #[.int .i64 c.id, .slice pa c.anc.length pc, .int .i64 c.ru.time, .slice ea c.ru.pol.length ec, .bool c.ru.expl, .bool c.ru.chk, .int .i64 c.ru.usage] 48)).alloc (Obj.cells #[.int .i64 0, .slice none 0 0, .int .i64 0, .slice none 0 0, .bool false, .bool false, .int .i64 0] 57)).alloc (Obj.cells #[.int .i64 c.id, .slice none 0 0, .int .i64 0, .slice none 0 0, .bool false, .bool false, .int .i64 0] 57) := ⟨_, rfl⟩
 change Calls _ _ _ (((w.alloc (Obj.cells #[.int .i64 c.id, .slice pa c.anc.length pc, .int .i64 c.ru.time, .slice ea c.ru.pol.length ec, .bool c.ru.expl, .bool c.ru.chk, .int .i64 c.ru.usage] 48)).alloc (Obj.cells #[.int .i64 0, .slice none 0 0, .int .i64 0, .slice none 0 0, .bool false, .bool false, .int .i64 0] 57)).alloc (Obj.cells #[.int .i64 c.id, .slice none 0 0, .int .i64 0, .slice none 0 0, .bool false, .bool false, .int .i64 0] 57)) _
 rw [<- hW3]
 have e0 : (w.alloc (Obj.cells #[.int .i64 c.id, .slice pa c.anc.length pc, .int .i64 c.ru.time, .slice ea c.ru.pol.length ec, .bool c.ru.expl, .bool c.ru.chk, .int .i64 c.ru.usage] 48)).heap.size = w.heap.size + 1 := Array.size_push _
 have e1 : ((w.alloc (Obj.cells #[.int .i64 c.id, .slice pa c.anc.length pc, .int .i64 c.ru.time, .slice ea c.ru.pol.length ec, .bool c.ru.expl, .bool c.ru.chk, .int .i64 c.ru.usage] 48)).alloc (Obj.cells #[.int .i64 0, .slice none 0 0, .int .i64 0, .slice none 0 0, .bool false, .bool false, .int .i64 0] 57)).heap.size = w.heap.size + 1 + 1 := by rw [size_alloc, e0]
 have G0 : Hid ((Blk W3 w.heap.size 48 #[.int .i64 c.id, .slice pa c.anc.length pc, .int .i64 c.ru.time, .slice ea c.ru.pol.length ec, .bool c.ru.expl, .bool c.ru.chk, .int .i64 c.ru.usage] /\ Blk W3 (w.heap.size + 1) 57 #[.int .i64 0, .slice none 0 0, .int .i64 0, .slice none 0 0, .bool false, .bool false, .int .i64 0] /\ Blk W3 (w.heap.size + 1 + 1) 57 #[.int .i64 c.id, .slice none 0 0, .int .i64 0, .slice none 0 0, .bool false, .bool false, .int .i64 0] /\ Below w.heap.size w W3) /\ w.heap.size + 1 + 1 + 1 <= W3.heap.size) := by
  rw [hW3]
  refine ⟨⟨((Blk.new w _ _).alloc _).alloc _, ?_, ?_, (((Below.refl _ _).alloc (Nat.le_refl _) _).alloc (by rw [e0]; omega) _).alloc (by rw [e1]; omega) _⟩, by rw [size_alloc, e1]; omega⟩
  ·have h := (Blk.new (w.alloc (Obj.cells #[.int .i64 c.id, .slice pa c.anc.length pc, .int .i64 c.ru.time, .slice ea c.ru.pol.length ec, .bool c.ru.expl, .bool c.ru.chk, .int .i64 c.ru.usage] 48)) 57 #[.int .i64 0, .slice none 0 0, .int .i64 0, .slice none 0 0, .bool false, .bool false, .int .i64 0]).alloc (Obj.cells #[.int .i64 c.id, .slice none 0 0, .int .i64 0, .slice none 0 0, .bool false, .bool false, .int .i64 0] 57)
   rw [e0] at h
   exact h
  ·have h := Blk.new ((w.alloc (Obj.cells #[.int .i64 c.id, .slice pa c.anc.length pc, .int .i64 c.ru.time, .slice ea c.ru.pol.length ec, .bool c.ru.expl, .bool c.ru.chk, .int .i64 c.ru.usage] 48)).alloc (Obj.cells #[.int .i64 0, .slice none 0 0, .int .i64 0, .slice none 0 0, .bool false, .bool false, .int .i64 0] 57)) 57 #[.int .i64 c.id, .slice none 0 0, .int .i64 0, .slice none 0 0, .bool false, .bool false, .int .i64 0]
   rw [e1] at h
   exact h
 clear hW3 e0 e1
 have wd1 : w.heap.size ≠ w.heap.size + 1 + 1 := by omega
 have wd2 : w.heap.size + 1 ≠ w.heap.size + 1 + 1 := by omega
 refine (toIntS_any pa c.anc c.anc.length pc B W3 rfl HA.out.2.2.1 (Nat.le_trans hB G0.out.1.2.2.2.size) (HA.out.1.below (G0.out.1.2.2.2.mono hB))).mono ?_
 rintro r u1 ⟨p, rfl, op, hb⟩
 have F1 : Hid ((Blk u1 w.heap.size 48 #[.int .i64 c.id, .slice pa c.anc.length pc, .int .i64 c.ru.time, .slice ea c.ru.pol.length ec, .bool c.ru.expl, .bool c.ru.chk, .int .i64 c.ru.usage] /\ Blk u1 (w.heap.size + 1) 57 #[.int .i64 0, .slice none 0 0, .int .i64 0, .slice none 0 0, .bool false, .bool false, .int .i64 0] /\ Blk u1 (w.heap.size + 1 + 1) 57 #[.int .i64 c.id, .slice none 0 0, .int .i64 0, .slice none 0 0, .bool false, .bool false, .int .i64 0] /\ Below w.heap.size w u1) /\ w.heap.size + 1 + 1 + 1 <= u1.heap.size /\ OwnI u1 (w.heap.size + 1 + 1 + 1) p c.anc) := by
  have hz := G0.out.2
  exact ⟨⟨G0.out.1.1.below hb (by omega), G0.out.1.2.1.below hb (by omega), G0.out.1.2.2.1.below hb (by omega), G0.out.1.2.2.2.trans (hb.mono G0.out.1.2.2.2.size)⟩, Nat.le_trans hz hb.size, op.base hz⟩
 clear op hb G0
 have fr := fun j => F1.out.1.2.2.1.free j
 obtain ⟨qp, mp, hsp⟩ : ∃ ao cap, p = .slice ao c.anc.length cap := by obtain ⟨ao, cap, h, _⟩ := F1.out.2.2.at; exact ⟨ao, cap, h⟩
 obtain ⟨lp, hlp⟩ := zE (c.anc.length)
 rw [hlp] at hsp
 clear hlp
 subst hsp
 have ca2 : u1.cell? ⟨w.heap.size, 2, none⟩ = some (.int .i64 c.ru.time) := F1.out.1.1.cell 2
 have ca3 : u1.cell? ⟨w.heap.size, 3, none⟩ = some (.slice ea c.ru.pol.length ec) := F1.out.1.1.cell 3
 have ca4 : u1.cell? ⟨w.heap.size, 4, none⟩ = some (.bool c.ru.expl) := F1.out.1.1.cell 4
 have ca5 : u1.cell? ⟨w.heap.size, 5, none⟩ = some (.bool c.ru.chk) := F1.out.1.1.cell 5
 have ca6 : u1.cell? ⟨w.heap.size, 6, none⟩ = some (.int .i64 c.ru.usage) := F1.out.1.1.cell 6
 have cg : u1.cell? ⟨w.heap.size + 1 + 1, 1, none⟩ = some (.slice none 0 0) := F1.out.1.2.2.1.cell 1
 go_wp2_with fail
 obtain ⟨V1, hV⟩ : ∃ V, V = u1.setCell ⟨w.heap.size + 1 + 1, 1, none⟩ (.slice qp lp mp) := ⟨_, rfl⟩
 rw [<- hV]
 have G1 : Hid ((Blk V1 w.heap.size 48 #[.int .i64 c.id, .slice pa c.anc.length pc, .int .i64 c.ru.time, .slice ea c.ru.pol.length ec, .bool c.ru.expl, .bool c.ru.chk, .int .i64 c.ru.usage] /\ Blk V1 (w.heap.size + 1) 57 #[.int .i64 0, .slice none 0 0, .int .i64 0, .slice none 0 0, .bool false, .bool false, .int .i64 0] /\ Blk V1 (w.heap.size + 1 + 1) 57 #[.int .i64 c.id, .slice qp lp mp, .int .i64 0, .slice none 0 0, .bool false, .bool false, .int .i64 0] /\ Below w.heap.size w V1) /\ w.heap.size + 1 + 1 + 1 <= V1.heap.size /\ OwnI V1 (w.heap.size + 1 + 1 + 1) (.slice qp lp mp) c.anc) := by
  have hbs : Below (w.heap.size + 1 + 1) u1 V1 := by rw [hV]; exact (Below.refl _ _).setCell (p := ⟨w.heap.size + 1 + 1, 1, none⟩) (Nat.le_refl _) _
  have hot : ∀ b, w.heap.size + 1 + 1 + 1 <= b -> V1.heap[b]? = u1.heap[b]? := fun b hb => by rw [hV]; exact heap_setCell_other _ _ _ _ (by show b ≠ w.heap.size + 1 + 1; omega)
  exact ⟨⟨F1.out.1.1.below hbs (by omega), F1.out.1.2.1.below hbs (by omega), by rw [hV]; exact F1.out.1.2.2.1.set 1 _, F1.out.1.2.2.2.trans (hbs.mono (by omega))⟩, Nat.le_trans F1.out.2.1 hbs.size, F1.out.2.2.block hot⟩
 clear hV F1 fr ca2 ca3 ca4 ca5 ca6 cg
 refine (toRules_any c.ru (.agg #[.int .i64 c.ru.time, .slice ea c.ru.pol.length ec, .bool c.ru.expl, .bool c.ru.chk, .int .i64 c.ru.usage]) B V1 HA.out.2.2.2 (Nat.le_trans hB G1.out.1.2.2.2.size) ⟨ea, ec, rfl, HA.out.2.1.below (G1.out.1.2.2.2.mono hB)⟩).mono ?_
 rintro r u2 ⟨_, rfl, ⟨e, rfl, oe⟩, hb⟩
 have F2 : Hid ((Blk u2 w.heap.size 48 #[.int .i64 c.id, .slice pa c.anc.length pc, .int .i64 c.ru.time, .slice ea c.ru.pol.length ec, .bool c.ru.expl, .bool c.ru.chk, .int .i64 c.ru.usage] /\ Blk u2 (w.heap.size + 1) 57 #[.int .i64 0, .slice none 0 0, .int .i64 0, .slice none 0 0, .bool false, .bool false, .int .i64 0] /\ Blk u2 (w.heap.size + 1 + 1) 57 #[.int .i64 c.id, .slice qp lp mp, .int .i64 0, .slice none 0 0, .bool false, .bool false, .int .i64 0] /\ Below w.heap.size w u2) /\ w.heap.size + 1 + 1 + 1 <= u2.heap.size /\ OwnI u2 (w.heap.size + 1 + 1 + 1) (.slice qp lp mp) c.anc /\ OwnI u2 (w.heap.size + 1 + 1 + 1) e c.ru.pol /\ (Ap (.slice qp lp mp) e /\ Ap e (.slice qp lp mp))) := by
  have hz := G1.out.2.1
  exact ⟨⟨G1.out.1.1.below hb (by omega), G1.out.1.2.1.below hb (by omega), G1.out.1.2.2.1.below hb (by omega), G1.out.1.2.2.2.trans (hb.mono G1.out.1.2.2.2.size)⟩, Nat.le_trans hz hb.size, G1.out.2.2.stays hb, oe.base hz, rows_apart G1.out.2.2 oe (Nat.le_refl _)⟩
 clear oe hb G1
 have fr := fun j => F2.out.1.2.2.1.free j
 have f1 := fun j => F2.out.1.2.1.free j
 obtain ⟨qe, me, hse⟩ : ∃ ao cap, e = .slice ao c.ru.pol.length cap := by obtain ⟨ao, cap, h, _⟩ := F2.out.2.2.2.1.at; exact ⟨ao, cap, h⟩
 obtain ⟨le, hle⟩ := zE (c.ru.pol.length)
 rw [hle] at hse
 clear hle
 subst hse
 unfold ruV
 have c10 : u2.cell? ⟨w.heap.size + 1, 0, none⟩ = some (.int .i64 0) := F2.out.1.2.1.cell 0
 have c20 : u2.cell? ⟨w.heap.size + 1 + 1, 0, none⟩ = some (.int .i64 c.id) := F2.out.1.2.2.1.cell 0
 have c11 : u2.cell? ⟨w.heap.size + 1, 1, none⟩ = some (.slice none 0 0) := F2.out.1.2.1.cell 1
 have c21 : u2.cell? ⟨w.heap.size + 1 + 1, 1, none⟩ = some (.slice qp lp mp) := F2.out.1.2.2.1.cell 1
 have c12 : u2.cell? ⟨w.heap.size + 1, 2, none⟩ = some (.int .i64 0) := F2.out.1.2.1.cell 2
 have c22 : u2.cell? ⟨w.heap.size + 1 + 1, 2, none⟩ = some (.int .i64 0) := F2.out.1.2.2.1.cell 2
 have c13 : u2.cell? ⟨w.heap.size + 1, 3, none⟩ = some (.slice none 0 0) := F2.out.1.2.1.cell 3
 have c23 : u2.cell? ⟨w.heap.size + 1 + 1, 3, none⟩ = some (.slice none 0 0) := F2.out.1.2.2.1.cell 3
 have c14 : u2.cell? ⟨w.heap.size + 1, 4, none⟩ = some (.bool false) := F2.out.1.2.1.cell 4
 have c24 : u2.cell? ⟨w.heap.size + 1 + 1, 4, none⟩ = some (.bool false) := F2.out.1.2.2.1.cell 4
 have c15 : u2.cell? ⟨w.heap.size + 1, 5, none⟩ = some (.bool false) := F2.out.1.2.1.cell 5
 have c25 : u2.cell? ⟨w.heap.size + 1 + 1, 5, none⟩ = some (.bool false) := F2.out.1.2.2.1.cell 5
 have c16 : u2.cell? ⟨w.heap.size + 1, 6, none⟩ = some (.int .i64 0) := F2.out.1.2.1.cell 6
 have c26 : u2.cell? ⟨w.heap.size + 1 + 1, 6, none⟩ = some (.int .i64 0) := F2.out.1.2.2.1.cell 6
 go_wp2_with fail
 refine bodyPost_ret (v := pnV c (.slice qp lp mp) (.slice qe le me)) (by simp [results, Try.results20, go_sem, pnV, c10, c11, c12, c13, c14, c15, c16]) rfl ⟨_, rfl, ⟨_, _, rfl, (F2.out.2.2.1.block ?far).base (by omega), (F2.out.2.2.2.1.block ?far).base (by omega), F2.out.2.2.2.2⟩, ?bel⟩
 case far =>
  intro b hb
  iterate 12 rw [heap_setCell_other _ _ _ _ (by first | (show b ≠ w.heap.size + 1; omega) | (show b ≠ w.heap.size + 1 + 1; omega))]
 case bel =>
  iterate 12 refine Below.setCell ?_ (by first | (show w.heap.size <= w.heap.size + 1; omega) | (show w.heap.size <= w.heap.size + 1 + 1; omega)) _
  exact F2.out.1.2.2.2
theorem szPlan_any (c : Pn) (v : Value) (left : Int) (w : World) (hwd : WdPn c) (h0 : 0 <= left) (hl : left <= 1048576) (ha : ArgPn w.heap.size w v c) :
  Calls Try.prog 17 #[v, .int .i64 left] w fun e w' => e = .returned (.int .i64 (szPn c left)) /\ Below w.heap.size w w' := by
 obtain ⟨pa, pc, ea, ec, rfl, h1, h2⟩ := ha
 obtain ⟨hw0, hw1, hw2, hp1, hp2⟩ := hwd
 have hwu : WdU c.ru := ⟨fun y hy => hw0 y (by simp only [List.mem_cons, List.not_mem_nil, or_false] at hy |-; exact .inr hy), hw2, hp2⟩
 unfold pnV
 obtain ⟨r1, hr1⟩ : ∃ r : Int, r = if (c.anc.length : Int) <= left then left - (c.anc.length : Int) else -1 := ⟨_, rfl⟩
 have Z1 : Hid (∀ W, Below w.heap.size w W -> Calls Try.prog 49 #[.slice pa c.anc.length pc, .int .i64 left] W fun e w' => e = .returned (.int .i64 r1) /\ Below W.heap.size W w') := fun W hb => by rw [hr1]; exact szIntS_any pa c.anc.length pc left W hp1 (by omega) (by omega)
 by_cases g1 : r1 < 0
 ·have e1 : r1 = -1 := by split at hr1 <;> omega
  have HF : Hid (szPn c left = -1) := by
   show szPn c left = -1
   unfold szPn wtPn
   rw [if_neg (by split at hr1 <;> omega)]
  clear hr1 g1 h1 h2 hw0 hw1 hw2 hp1 hp2 hwu
  subst e1
  go_enter Try.func17, Try.ntmps17
  go_wp2_with fail
  obtain ⟨V, hV⟩ : ∃ V, V = w.alloc (Obj.cells #[.int .i64 c.id, .slice pa c.anc.length pc, .int .i64 c.ru.time, .slice ea c.ru.pol.length ec, .bool c.ru.expl, .bool c.ru.chk, .int .i64 c.ru.usage] 48) := ⟨_, rfl⟩
  rw [<- hV]
  have G : Hid (Below w.heap.size w V) := by rw [hV]; exact (Below.refl _ _).alloc (Nat.le_refl _) _
  clear hV
  refine (Z1.out V G.out).mono ?_
  rintro e V2 ⟨rfl, hb⟩
  have G2 : Hid (Below w.heap.size w V2) := G.out.trans (hb.mono G.out.size)
  clear hb G
  go_wp2_with fail
  go_ret
  exact ⟨by rw [HF.out]; rfl, G2.out⟩
 ·have e1 : r1 = left - (c.anc.length : Int) /\ (c.anc.length : Int) <= left := by split at hr1 <;> omega
  obtain ⟨r2, hr2⟩ : ∃ r : Int, r = szU c.ru r1 := ⟨_, rfl⟩
  have Z2 : Hid (∀ W, Below w.heap.size w W -> Calls Try.prog 50 #[.agg #[.int .i64 c.ru.time, .slice ea c.ru.pol.length ec, .bool c.ru.expl, .bool c.ru.chk, .int .i64 c.ru.usage], .int .i64 r1] W fun e w' => e = .returned (.int .i64 r2) /\ Below W.heap.size W w') := fun W hb => by rw [hr2]; exact szRules_any c.ru (.agg #[.int .i64 c.ru.time, .slice ea c.ru.pol.length ec, .bool c.ru.expl, .bool c.ru.chk, .int .i64 c.ru.usage]) r1 W hwu (by omega) (by omega) (ArgU.mono ⟨ea, ec, rfl, h2.below hb⟩ hb.size)
  have HF : Hid (szPn c left = r2) := by
   show szPn c left = r2
   rw [hr2]
   unfold szPn wtPn szU wtU
   by_cases q : ((c.anc.length + c.ru.pol.length : Nat) : Int) <= left
   ·rw [if_pos q, if_pos (by omega)]; omega
   ·rw [if_neg q, if_neg (by omega)]
  have g2 : r2 < 0 -> r2 = -1 := by unfold szU at hr2; split at hr2 <;> omega
  clear hr1 hr2 h1 h2 hw0 hw1 hw2 hp1 hp2 e1 hwu
  go_enter Try.func17, Try.ntmps17
  go_wp2_with fail
  obtain ⟨V, hV⟩ : ∃ V, V = w.alloc (Obj.cells #[.int .i64 c.id, .slice pa c.anc.length pc, .int .i64 c.ru.time, .slice ea c.ru.pol.length ec, .bool c.ru.expl, .bool c.ru.chk, .int .i64 c.ru.usage] 48) := ⟨_, rfl⟩
  rw [<- hV]
  have G : Hid (Below w.heap.size w V /\ Blk V w.heap.size 48 #[.int .i64 c.id, .slice pa c.anc.length pc, .int .i64 c.ru.time, .slice ea c.ru.pol.length ec, .bool c.ru.expl, .bool c.ru.chk, .int .i64 c.ru.usage]) := by rw [hV]; exact ⟨(Below.refl _ _).alloc (Nat.le_refl _) _, Blk.new w _ _⟩
  clear hV
  refine (Z1.out V G.out.1).mono ?_
  rintro e V2 ⟨rfl, hb⟩
  have G2 : Hid (Below w.heap.size w V2 /\ Blk V2 w.heap.size 48 #[.int .i64 c.id, .slice pa c.anc.length pc, .int .i64 c.ru.time, .slice ea c.ru.pol.length ec, .bool c.ru.expl, .bool c.ru.chk, .int .i64 c.ru.usage]) := ⟨G.out.1.trans (hb.mono G.out.1.size), G.out.2.below hb G.out.2.lt⟩
  clear hb G
  have c2 : V2.cell? ⟨w.heap.size, 2, none⟩ = some (.int .i64 c.ru.time) := G2.out.2.cell 2
  have c3 : V2.cell? ⟨w.heap.size, 3, none⟩ = some (.slice ea c.ru.pol.length ec) := G2.out.2.cell 3
  have c4 : V2.cell? ⟨w.heap.size, 4, none⟩ = some (.bool c.ru.expl) := G2.out.2.cell 4
  have c5 : V2.cell? ⟨w.heap.size, 5, none⟩ = some (.bool c.ru.chk) := G2.out.2.cell 5
  have c6 : V2.cell? ⟨w.heap.size, 6, none⟩ = some (.int .i64 c.ru.usage) := G2.out.2.cell 6
  go_wp2_with fail
  refine (Z2.out V2 G2.out.1).mono ?_
  rintro e V3 ⟨rfl, hb⟩
  have G3 : Hid (Below w.heap.size w V3) := G2.out.1.trans (hb.mono G2.out.1.size)
  clear hb G2 c2 c3 c4 c5 c6
  by_cases q2 : r2 < 0
  ·obtain rfl := g2 q2
   go_wp2_with fail
   go_ret
   exact ⟨by rw [HF.out]; rfl, G3.out⟩
  ·go_wp2_with fail
   go_ret
   exact ⟨by rw [HF.out]; rfl, G3.out⟩
theorem eqPlan_same (c : Pn) (a b : Value) (w : World) (hl : c.anc.length <= 1000000000 /\ c.ru.pol.length <= 1000000000) (ha : PnAt w a c) (hb : PnAt w b c) :
  Calls Try.prog 24 #[a, b] w fun e w' => e = .returned (.bool true) /\ Below w.heap.size w w' := by
 obtain ⟨pv, ev, rfl, h1, h2⟩ := ha
 obtain ⟨pu, eu, rfl, k1, k2⟩ := hb
 have HQ : Hid (∀ W, Below w.heap.size w W -> Calls Try.prog 55 #[pv, pu] W (fun e w' => e = .returned (.bool true) /\ Below W.heap.size W w')) := fun W hb => eqIntS_same pv pu c.anc W hl.1 (h1.below hb) (k1.below hb)
 have HQ2 : Hid (∀ W, Below w.heap.size w W -> Calls Try.prog 23 #[ruV c.ru ev, ruV c.ru eu] W (fun e w' => e = .returned (.bool true) /\ Below W.heap.size W w')) := fun W hb => eqRules_same c.ru _ _ W hl.2 ⟨_, rfl, h2.below hb⟩ ⟨_, rfl, k2.below hb⟩
 obtain ⟨lp, hlp⟩ := zE (c.anc.length)
 obtain ⟨le, hle⟩ := zE (c.ru.pol.length)
 obtain ⟨pa, pc, hpa, _⟩ := h1
 obtain ⟨pb, qc, hpb, _⟩ := k1
 obtain ⟨ea, ec, hea, _⟩ := h2
 obtain ⟨eb, fc, heb, _⟩ := k2
 rw [hlp] at hpa hpb
 rw [hle] at hea heb
 subst hpa hpb hea heb
 clear hlp hle hl
 unfold ruV at HQ2
 unfold pnV
 go_enter Try.func24, Try.ntmps24
 go_wp2_with fail
 obtain ⟨V1, hV⟩ : ∃ V, V = (w.alloc (Obj.cells #[.int .i64 c.id, .slice pa lp pc, .int .i64 c.ru.time, .slice ea le ec, .bool c.ru.expl, .bool c.ru.chk, .int .i64 c.ru.usage] 57)).alloc (Obj.cells #[.int .i64 c.id, .slice pb lp qc, .int .i64 c.ru.time, .slice eb le fc, .bool c.ru.expl, .bool c.ru.chk, .int .i64 c.ru.usage] 57) := ⟨_, rfl⟩
 rw [<- hV]
 have G1 : Hid (Blk V1 w.heap.size 57 #[.int .i64 c.id, .slice pa lp pc, .int .i64 c.ru.time, .slice ea le ec, .bool c.ru.expl, .bool c.ru.chk, .int .i64 c.ru.usage] /\ Blk V1 (w.heap.size + 1) 57 #[.int .i64 c.id, .slice pb lp qc, .int .i64 c.ru.time, .slice eb le fc, .bool c.ru.expl, .bool c.ru.chk, .int .i64 c.ru.usage] /\ Below w.heap.size w V1 /\ w.heap.size + 1 < V1.heap.size) := by
  have e0 : (w.alloc (Obj.cells #[.int .i64 c.id, .slice pa lp pc, .int .i64 c.ru.time, .slice ea le ec, .bool c.ru.expl, .bool c.ru.chk, .int .i64 c.ru.usage] 57)).heap.size = w.heap.size + 1 := Array.size_push _
  have h := Blk.new (w.alloc (Obj.cells #[.int .i64 c.id, .slice pa lp pc, .int .i64 c.ru.time, .slice ea le ec, .bool c.ru.expl, .bool c.ru.chk, .int .i64 c.ru.usage] 57)) 57 #[.int .i64 c.id, .slice pb lp qc, .int .i64 c.ru.time, .slice eb le fc, .bool c.ru.expl, .bool c.ru.chk, .int .i64 c.ru.usage]
  rw [e0] at h
  rw [hV]
  exact ⟨(Blk.new w _ _).alloc _, h, ((Below.refl _ _).alloc (Nat.le_refl _) _).alloc (by rw [e0]; omega) _, by rw [size_alloc, e0]; omega⟩
 clear hV
 refine (HQ.out V1 G1.out.2.2.1).mono ?_
 rintro e V2 ⟨rfl, hb⟩
 have G2 : Hid (Blk V2 w.heap.size 57 #[.int .i64 c.id, .slice pa lp pc, .int .i64 c.ru.time, .slice ea le ec, .bool c.ru.expl, .bool c.ru.chk, .int .i64 c.ru.usage] /\ Blk V2 (w.heap.size + 1) 57 #[.int .i64 c.id, .slice pb lp qc, .int .i64 c.ru.time, .slice eb le fc, .bool c.ru.expl, .bool c.ru.chk, .int .i64 c.ru.usage] /\ Below w.heap.size w V2 /\ w.heap.size + 1 < V2.heap.size) := ⟨G1.out.1.below hb (by have := G1.out.2.2.2; omega), G1.out.2.1.below hb G1.out.2.2.2, G1.out.2.2.1.trans (hb.mono G1.out.2.2.1.size), Nat.lt_of_lt_of_le G1.out.2.2.2 hb.size⟩
 clear hb G1
 have ca2 : V2.cell? ⟨w.heap.size, 2, none⟩ = some (.int .i64 c.ru.time) := G2.out.1.cell 2
 have cb2 : V2.cell? ⟨w.heap.size + 1, 2, none⟩ = some (.int .i64 c.ru.time) := G2.out.2.1.cell 2
 have ca3 : V2.cell? ⟨w.heap.size, 3, none⟩ = some (.slice ea le ec) := G2.out.1.cell 3
 have cb3 : V2.cell? ⟨w.heap.size + 1, 3, none⟩ = some (.slice eb le fc) := G2.out.2.1.cell 3
 have ca4 : V2.cell? ⟨w.heap.size, 4, none⟩ = some (.bool c.ru.expl) := G2.out.1.cell 4
 have cb4 : V2.cell? ⟨w.heap.size + 1, 4, none⟩ = some (.bool c.ru.expl) := G2.out.2.1.cell 4
 have ca5 : V2.cell? ⟨w.heap.size, 5, none⟩ = some (.bool c.ru.chk) := G2.out.1.cell 5
 have cb5 : V2.cell? ⟨w.heap.size + 1, 5, none⟩ = some (.bool c.ru.chk) := G2.out.2.1.cell 5
 have ca6 : V2.cell? ⟨w.heap.size, 6, none⟩ = some (.int .i64 c.ru.usage) := G2.out.1.cell 6
 have cb6 : V2.cell? ⟨w.heap.size + 1, 6, none⟩ = some (.int .i64 c.ru.usage) := G2.out.2.1.cell 6
 go_wp2_with fail
 clear ca2 cb2 ca3 cb3 ca4 cb4 ca5 cb5 ca6 cb6
 refine (HQ2.out V2 G2.out.2.2.1).mono ?_
 rintro e V3 ⟨rfl, hb⟩
 have G3 : Hid (Below w.heap.size w V3) := G2.out.2.2.1.trans (hb.mono G2.out.2.2.1.size)
 clear hb G2
 go_wp2_with fail
 go_ret
 exact ⟨rfl, G3.out⟩
end Go.Proofs.Ytllmgjfffkhocaa
namespace Go.Proofs.Ytllmgjfffkhocaa
open Go.RowKit Go.ChangeShapes
set_option linter.unusedVariables false
theorem cellsRules : Try.prog.cellsOf 46 = 5 := by kernel_rfl
theorem rules_of_trod {H : Type} {enc : TypeId × Value -> H} {W : World} {fuel : Nat} {cs : List Value} {x : DataW H × List MemPlace} (h : DataW.trod enc Try.prog W 0 (fun _ => true) true fuel 46 cs = some x) :
  ∃ (c : Ru) (p : Value), Value.agg cs.toArray = ruV c p /\ ArgU W.heap.size W (ruV c p) c /\ WdU c := by
 obtain ⟨xs, m, rfl, hx, hl, hxl, hall⟩ := DataW.trod_struct Try.underlying46 h
 rw [cellsRules] at hl
 obtain ⟨x0, x1, x2, x3, x4, rfl⟩ : ∃ x0 x1 x2 x3 x4, xs = [x0, x1, x2, x3, x4] := by
  match xs, hxl with
  | [x0, x1, x2, x3, x4], _ => exact ⟨x0, x1, x2, x3, x4, rfl⟩
 have f0 := hall 0 _ rfl
 change DataW.trod _ _ _ _ _ _ _ 3 ((cs.drop 0).take (Try.prog.cellsOf 3)) = some x0 at f0
 rw [cI] at f0
 obtain ⟨v0, h0, _, w0⟩ := DataW.trod_int Try.underlying3 f0
 have g0 := take_one h0
 clear f0 h0
 have f1 := hall 1 _ rfl
 change DataW.trod _ _ _ _ _ _ _ 44 ((cs.drop 1).take (Try.prog.cellsOf 44)) = some x1 at f1
 rw [cL] at f1
 obtain ⟨a1, p1, v1, h1, m1, w1, r1⟩ := ints_in f1
 have g1 := take_one h1
 clear f1 h1
 have f2 := hall 2 _ rfl
 change DataW.trod _ _ _ _ _ _ _ 4 ((cs.drop 2).take (Try.prog.cellsOf 4)) = some x2 at f2
 rw [cB] at f2
 obtain ⟨v2, h2, _⟩ := DataW.trod_bool Try.underlying4 f2
 have g2 := take_one h2
 clear f2 h2
 have f3 := hall 3 _ rfl
 change DataW.trod _ _ _ _ _ _ _ 4 ((cs.drop 3).take (Try.prog.cellsOf 4)) = some x3 at f3
 rw [cB] at f3
 obtain ⟨v3, h3, _⟩ := DataW.trod_bool Try.underlying4 f3
 have g3 := take_one h3
 clear f3 h3
 have f4 := hall 4 _ rfl
 change DataW.trod _ _ _ _ _ _ _ 3 ((cs.drop 4).take (Try.prog.cellsOf 3)) = some x4 at f4
 rw [cI] at f4
 obtain ⟨v4, h4, _, w4⟩ := DataW.trod_int Try.underlying3 f4
 have g4 := take_one h4
 clear f4 h4
 have hcs : cs = [.int .i64 v0, .slice a1 v1.length p1, .bool v2, .bool v3, .int .i64 v4] := by
  match cs, hl with
  | [y0, y1, y2, y3, y4], _ =>
   simp at g0 g1 g2 g3 g4
   rw [g0, g1, g2, g3, g4]
 refine ⟨⟨v0, v1, v2, v3, v4⟩, .slice a1 v1.length p1, by rw [hcs]; rfl, ⟨a1, p1, rfl, r1⟩, ?_⟩
 unfold maxLen at m1
 refine ⟨fun y hy => ?_, w1, m1⟩
 simp only [List.mem_cons, List.not_mem_nil, or_false] at hy
 simp [Lit.wf, IntKind.min, IntKind.max, IntKind.signed, IntKind.bits] at w0 w4
 rcases hy with rfl | rfl <;> omega
end Go.Proofs.Ytllmgjfffkhocaa
namespace Go.Proofs.Ytllmgjfffkhocaa
open Go.RowKit Go.ChangeShapes
set_option linter.unusedVariables false
set_option linter.unusedSimpArgs false
theorem cellsPlan : Try.prog.cellsOf 48 = 7 := by kernel_rfl
theorem plan_of_trod {H : Type} {enc : TypeId × Value -> H} {W : World} {fuel : Nat} {cs : List Value} {x : DataW H × List MemPlace} (h : DataW.trod enc Try.prog W 0 (fun _ => true) true fuel 48 cs = some x) :
  ∃ (c : Pn) (p e : Value), Value.agg cs.toArray = pnV c p e /\ ArgPn W.heap.size W (pnV c p e) c /\ WdPn c := by
 obtain ⟨xs, m, rfl, hx, hl, hxl, hall⟩ := DataW.trod_struct Try.underlying48 h
 rw [cellsPlan] at hl
 obtain ⟨x0, x1, x2, rfl⟩ : ∃ x0 x1 x2, xs = [x0, x1, x2] := by
  match xs, hxl with
  | [x0, x1, x2], _ => exact ⟨x0, x1, x2, rfl⟩
 have f0 := hall 0 _ rfl
 change DataW.trod _ _ _ _ _ _ _ 3 ((cs.drop 0).take (Try.prog.cellsOf 3)) = some x0 at f0
 rw [cI] at f0
 obtain ⟨v0, h0, _, w0⟩ := DataW.trod_int Try.underlying3 f0
 have g0 := take_one h0
 clear f0 h0
 have f1 := hall 1 _ rfl
 change DataW.trod _ _ _ _ _ _ _ 44 ((cs.drop 1).take (Try.prog.cellsOf 44)) = some x1 at f1
 rw [cL] at f1
 obtain ⟨a1, p1, v1, h1, m1, w1, r1⟩ := ints_in f1
 have g1 := take_one h1
 clear f1 h1
 have f2 := hall 2 _ rfl
 change DataW.trod _ _ _ _ _ _ _ 46 ((cs.drop 2).take (Try.prog.cellsOf 46)) = some x2 at f2
 rw [cellsRules] at f2
 obtain ⟨cr, pr, hv, ⟨pa, pc, hpv, har⟩, hw1, hw2, hw3⟩ := rules_of_trod f2
 rw [hpv] at hv
 unfold ruV at hv
 injection hv with hv
 have hcs : cs = [.int .i64 v0, .slice a1 v1.length p1, .int .i64 cr.time, .slice pa cr.pol.length pc, .bool cr.expl, .bool cr.chk, .int .i64 cr.usage] := by
  match cs, hl with
  | [y0, y1, y2, y3, y4, y5, y6], _ =>
   simp at g0 g1 hv
   obtain ⟨k2, k3, k4, k5, k6⟩ := hv
   rw [g0, g1, k2, k3, k4, k5, k6]
 refine ⟨⟨v0, v1, cr⟩, .slice a1 v1.length p1, .slice pa cr.pol.length pc, by rw [hcs]; rfl, ⟨a1, p1, pa, pc, rfl, r1, har⟩, ?_⟩
 unfold maxLen at m1
 refine ⟨fun y hy => ?_, w1, hw2, m1, hw3⟩
 simp only [List.mem_cons, List.not_mem_nil, or_false] at hy
 simp [Lit.wf, IntKind.min, IntKind.max, IntKind.signed, IntKind.bits] at w0
 rcases hy with rfl | rfl | rfl
 ·omega
 ·exact hw1 _ (by simp)
 ·exact hw1 _ (by simp)
end Go.Proofs.Ytllmgjfffkhocaa
