/-
  Texts of the proof.
-/
import Derived.Test.YtabfamhaihnccaaGreatLC31
set_option linter.unusedVariables false
set_option linter.unusedSimpArgs false
set_option maxRecDepth 100000
set_option maxHeartbeats 25600000
namespace Go.Proofs.YtabfamhaihnccaaGreat
open Go.RowKit
theorem toRules_any (c : Ru) (v : Value) (B : Nat) (w : World) (hl : c.pol.length <= 1048576) (hB : B <= w.heap.size) (ha : ArgU B w v c) :
  Calls Tryz.prog 127 #[v] w fun e w' => ∃ u, e = .returned u /\ OwnU w' w.heap.size u c /\ zW w w' := by
 obtain ⟨pa, pc, rfl, h1⟩ := ha;have HA : Hid (ArgAt B w pa c.pol /\ c.pol.length <= 1048576) := ⟨h1, hl⟩;clear h1 hl;unfold ruV;go_enter Tryz.func127, Tryz.ntmps127;go_wp2_with fail;obtain ⟨W3, hW3⟩ : ∃ W, W = ((w.alloc (Obj.cells #[zI c.time, zS pa c.pol.length pc, .bool c.expl, .bool c.chk, zI c.usage] 112)).alloc (Obj.cells #[zI 0, zZ, .bool false, .bool false, zI 0] 125)).alloc (Obj.cells #[zI c.time, zZ, .bool false, .bool false, zI 0] 125) := ⟨_, rfl⟩;change Calls _ _ _ (((w.alloc (Obj.cells #[zI c.time, zS pa c.pol.length pc, .bool c.expl, .bool c.chk, zI c.usage] 112)).alloc (Obj.cells #[zI 0, zZ, .bool false, .bool false, zI 0] 125)).alloc (Obj.cells #[zI c.time, zZ, .bool false, .bool false, zI 0] 125)) _;rw [<- hW3];have e0 : (w.alloc (Obj.cells #[zI c.time, zS pa c.pol.length pc, .bool c.expl, .bool c.chk, zI c.usage] 112)).heap.size = w.heap.size + 1 := Array.size_push _;have e1 : ((w.alloc (Obj.cells #[zI c.time, zS pa c.pol.length pc, .bool c.expl, .bool c.chk, zI c.usage] 112)).alloc (Obj.cells #[zI 0, zZ, .bool false, .bool false, zI 0] 125)).heap.size = w.heap.size + 1 + 1 := by rw [size_alloc, e0]
 have G0 : Hid ((Blk W3 w.heap.size 112 #[zI c.time, zS pa c.pol.length pc, .bool c.expl, .bool c.chk, zI c.usage] /\ Blk W3 (w.heap.size + 1) 125 #[zI 0, zZ, .bool false, .bool false, zI 0] /\ Blk W3 (w.heap.size + 1 + 1) 125 #[zI c.time, zZ, .bool false, .bool false, zI 0] /\ zW w W3) /\ w.heap.size + 1 + 1 + 1 <= W3.heap.size) := by
  rw [hW3];refine ⟨⟨((Blk.new w _ _).alloc _).alloc _, ?_, ?_, (((Below.refl _ _).alloc (Nat.le_refl _) _).alloc (by rw [e0]; omega) _).alloc (by rw [e1]; omega) _⟩, by rw [size_alloc, e1]; omega⟩
  ·have h := (Blk.new (w.alloc (Obj.cells #[zI c.time, zS pa c.pol.length pc, .bool c.expl, .bool c.chk, zI c.usage] 112)) 125 #[zI 0, zZ, .bool false, .bool false, zI 0]).alloc (Obj.cells #[zI c.time, zZ, .bool false, .bool false, zI 0] 125)
   rw [e0] at h;exact h
  ·have h := Blk.new ((w.alloc (Obj.cells #[zI c.time, zS pa c.pol.length pc, .bool c.expl, .bool c.chk, zI c.usage] 112)).alloc (Obj.cells #[zI 0, zZ, .bool false, .bool false, zI 0] 125)) 125 #[zI c.time, zZ, .bool false, .bool false, zI 0]
   rw [e1] at h;exact h
 clear hW3 e0 e1;have wd1 : w.heap.size ≠ w.heap.size + 1 + 1 := by omega
 have wd2 : w.heap.size + 1 ≠ w.heap.size + 1 + 1 := by omega
 refine (toIntS_any pa c.pol c.pol.length pc B W3 rfl HA.2 (Nat.le_trans hB G0.1.2.2.2.size) (HA.1.below (G0.1.2.2.2.mono hB))).mono ?_;rintro r u2 ⟨p, rfl, op, hb⟩;have F2 : Hid ((Blk u2 w.heap.size 112 #[zI c.time, zS pa c.pol.length pc, .bool c.expl, .bool c.chk, zI c.usage] /\ Blk u2 (w.heap.size + 1) 125 #[zI 0, zZ, .bool false, .bool false, zI 0] /\ Blk u2 (w.heap.size + 1 + 1) 125 #[zI c.time, zZ, .bool false, .bool false, zI 0] /\ zW w u2) /\ w.heap.size + 1 + 1 + 1 <= u2.heap.size /\ OwnI u2 (w.heap.size + 1 + 1 + 1) p c.pol) := by
  have hz := G0.2;exact ⟨⟨G0.1.1.below hb (by omega), G0.1.2.1.below hb (by omega), G0.1.2.2.1.below hb (by omega), G0.1.2.2.2.trans (hb.mono G0.1.2.2.2.size)⟩, Nat.le_trans hz hb.size, op.base hz⟩
 clear op hb G0;have fr := fun j => F2.1.2.2.1.free j
 have f1 := fun j => F2.1.2.1.free j
 obtain ⟨qp, mp, hsp⟩ : ∃ ao cap, p = zS ao c.pol.length cap := by obtain ⟨ao, cap, h, _⟩ := F2.2.2.at; exact ⟨ao, cap, h⟩
 obtain ⟨lp, hlp⟩ := zE (c.pol.length);rw [hlp] at hsp;clear hlp;subst hsp;have ca2 := fun j => F2.1.1.cell j
 have c10 := fun j => F2.1.2.1.cell j
 have c20 := fun j => F2.1.2.2.1.cell j
 have c11 := fun j => F2.1.2.1.cell j
 have c21 := fun j => F2.1.2.2.1.cell j
 have c12 := fun j => F2.1.2.1.cell j
 have c22 := fun j => F2.1.2.2.1.cell j
 have c13 := fun j => F2.1.2.1.cell j
 have c23 := fun j => F2.1.2.2.1.cell j
 have c14 := fun j => F2.1.2.1.cell j
 have c24 := fun j => F2.1.2.2.1.cell j
 go_wp2_with fail;refine bodyPost_ret (v := ruV c (zS qp lp mp)) (by simp [results, Tryz.results127, go_sem, ruV, c10, c11, c12, c13, c14]) rfl ⟨_, rfl, ⟨_, rfl, (F2.2.2.block ?far).base (by omega)⟩, ?bel⟩
 case far =>
  intro b hb
  iterate 9 rw [heap_setCell_other _ _ _ _ (by first | (show b ≠ w.heap.size + 1; omega) | (show b ≠ w.heap.size + 1 + 1; omega))]
 case bel =>
  iterate 9 refine Below.setCell ?_ (by first | (show w.heap.size <= w.heap.size + 1; omega) | (show w.heap.size <= w.heap.size + 1 + 1; omega)) _
  exact F2.1.2.2.2
theorem szRules_any (c : Ru) (v : Value) (left : Int) (w : World) (hwd : WdU c) (h0 : 0 <= left) (hl : left <= 1048576) (ha : ArgU w.heap.size w v c) :
  Calls Tryz.prog 117 #[v, zI left] w fun e w' => e = .returned (zI (szU c left)) /\ zW w w' := by
 obtain ⟨pa, pc, rfl, h1⟩ := ha;obtain ⟨_, _, hpl⟩ := hwd;clear h1;unfold ruV;obtain ⟨r2, hr2⟩ : ∃ r : Int, r = if (c.pol.length : Int) <= left then left - (c.pol.length : Int) else -1 := ⟨_, rfl⟩;have Z2 : Hid (∀ W, zW w W -> Calls Tryz.prog 41 #[zS pa c.pol.length pc, zI left] W fun e w' => e = .returned (zI r2) /\ zW W w') := fun W hb => by rw [hr2]; exact szIntS_any pa c.pol.length pc left W hpl (by omega) (by omega)
 have HF : Hid (szU c left = r2) := by rw [hr2]; rfl
 by_cases g2 : r2 < 0
 ·have h1 : r2 = -1 := by split at hr2 <;> omega
  clear hr2 g2;subst h1;go_enter Tryz.func117, Tryz.ntmps117;go_wp2_with fail;obtain ⟨V, hV⟩ : ∃ V, V = w.alloc (Obj.cells #[zI c.time, zS pa c.pol.length pc, .bool c.expl, .bool c.chk, zI c.usage] 112) := ⟨_, rfl⟩;rw [<- hV];have G : Hid (zW w V) := by rw [hV]; exact (Below.refl _ _).alloc (Nat.le_refl _) _
  clear hV;refine (Z2.out V G.out).mono ?_;rintro e V2 ⟨rfl, hb⟩;have G2 : Hid (zW w V2) := G.trans (hb.mono G.size);clear hb G;go_wp2_with fail;go_ret;exact ⟨by rw [HF.out]; rfl, G2.out⟩
 ·clear hr2
  go_enter Tryz.func117, Tryz.ntmps117;go_wp2_with fail;obtain ⟨V, hV⟩ : ∃ V, V = w.alloc (Obj.cells #[zI c.time, zS pa c.pol.length pc, .bool c.expl, .bool c.chk, zI c.usage] 112) := ⟨_, rfl⟩;rw [<- hV];have G : Hid (zW w V) := by rw [hV]; exact (Below.refl _ _).alloc (Nat.le_refl _) _
  clear hV;refine (Z2.out V G.out).mono ?_;rintro e V2 ⟨rfl, hb⟩;have G2 : Hid (zW w V2) := G.trans (hb.mono G.size);clear hb G;go_wp2_with fail;go_ret;exact ⟨by rw [HF.out]; rfl, G2.out⟩
theorem eqRules_same (c : Ru) (a b : Value) (w : World) (hl : c.pol.length <= 1000000000) (ha : RuAt w a c) (hb : RuAt w b c) :
  Calls Tryz.prog 143 #[a, b] w fun e w' => e = .returned (.bool true) /\ zW w w' := by
 obtain ⟨pv, rfl, h1⟩ := ha;obtain ⟨pu, rfl, k1⟩ := hb;have HQ : Hid (∀ W, zW w W -> Calls Tryz.prog 52 #[pv, pu] W (fun e w' => e = .returned (.bool true) /\ zW W w')) := fun W hb => eqIntS_same pv pu c.pol W hl (h1.below hb) (k1.below hb)
 obtain ⟨lp, hlp⟩ := zE (c.pol.length);obtain ⟨pa, pc, hpa, _⟩ := h1;obtain ⟨pb, qc, hpb, _⟩ := k1;rw [hlp] at hpa hpb;subst hpa hpb;clear hlp hl;unfold ruV;go_enter Tryz.func143, Tryz.ntmps143;go_wp2_with fail;obtain ⟨V, hV⟩ : ∃ V, V = (w.alloc (Obj.cells #[zI c.time, zS pa lp pc, .bool c.expl, .bool c.chk, zI c.usage] 125)).alloc (Obj.cells #[zI c.time, zS pb lp qc, .bool c.expl, .bool c.chk, zI c.usage] 125) := ⟨_, rfl⟩;rw [<- hV];have G : Hid (Blk V w.heap.size 125 #[zI c.time, zS pa lp pc, .bool c.expl, .bool c.chk, zI c.usage] /\ Blk V (w.heap.size + 1) 125 #[zI c.time, zS pb lp qc, .bool c.expl, .bool c.chk, zI c.usage] /\ zW w V /\ w.heap.size + 1 < V.heap.size) := by
  have e0 : (w.alloc (Obj.cells #[zI c.time, zS pa lp pc, .bool c.expl, .bool c.chk, zI c.usage] 125)).heap.size = w.heap.size + 1 := Array.size_push _;have h := Blk.new (w.alloc (Obj.cells #[zI c.time, zS pa lp pc, .bool c.expl, .bool c.chk, zI c.usage] 125)) 125 #[zI c.time, zS pb lp qc, .bool c.expl, .bool c.chk, zI c.usage];rw [e0] at h;rw [hV];exact ⟨(Blk.new w _ _).alloc _, h, ((Below.refl _ _).alloc (Nat.le_refl _) _).alloc (by rw [e0]; omega) _, by rw [size_alloc, e0]; omega⟩
 clear hV;refine (HQ.out V G.2.2.1).mono ?_;rintro e V2 ⟨rfl, hb⟩;have G2 := zH (zJ (G.1.below hb (by have := G.2.2.2; omega) : Blk V2 w.heap.size 125 #[zI c.time, zS pa lp pc, .bool c.expl, .bool c.chk, zI c.usage]) (zJ (G.2.1.below hb G.2.2.2) (zJ (G.2.2.1.trans (hb.mono G.2.2.1.size)) (Nat.lt_of_lt_of_le G.2.2.2 hb.size))));clear hb G;have ca2 := fun j => G2.1.cell j
 have cb2 := fun j => G2.2.1.cell j
 have ca3 := fun j => G2.1.cell j
 have cb3 := fun j => G2.2.1.cell j
 have ca4 := fun j => G2.1.cell j
 have cb4 := fun j => G2.2.1.cell j
 go_wp2_with fail;go_ret;exact ⟨rfl, G2.2.2.1⟩
theorem toPlan_any (c : Pn) (v : Value) (B : Nat) (w : World) (hl : c.anc.length <= 1048576 /\ c.ru.pol.length <= 1048576) (hB : B <= w.heap.size) (ha : ArgPn B w v c) :
  Calls Tryz.prog 82 #[v] w fun e w' => ∃ u, e = .returned u /\ OwnPn w' w.heap.size u c /\ zW w w' := by
 obtain ⟨pa, pc, ea, ec, rfl, h1, h2⟩ := ha;have HA : Hid (ArgAt B w pa c.anc /\ ArgAt B w ea c.ru.pol /\ c.anc.length <= 1048576 /\ c.ru.pol.length <= 1048576) := ⟨h1, h2, hl⟩;clear h1 h2 hl;unfold pnV;go_enter Tryz.func82, Tryz.ntmps82;go_wp2_with fail;obtain ⟨W3, hW3⟩ : ∃ W, W = ((w.alloc (Obj.cells (zPn c (zS pa c.anc.length pc) (zS ea c.ru.pol.length ec)) 114)).alloc (Obj.cells #[zI 0, zZ, zI 0, zZ, .bool false, .bool false, zI 0] 127)).alloc (Obj.cells #[zI c.id, zZ, zI 0, zZ, .bool false, .bool false, zI 0] 127) := ⟨_, rfl⟩;change Calls _ _ _ (((w.alloc (Obj.cells (zPn c (zS pa c.anc.length pc) (zS ea c.ru.pol.length ec)) 114)).alloc (Obj.cells #[zI 0, zZ, zI 0, zZ, .bool false, .bool false, zI 0] 127)).alloc (Obj.cells #[zI c.id, zZ, zI 0, zZ, .bool false, .bool false, zI 0] 127)) _;rw [<- hW3];have e0 : (w.alloc (Obj.cells (zPn c (zS pa c.anc.length pc) (zS ea c.ru.pol.length ec)) 114)).heap.size = w.heap.size + 1 := Array.size_push _;have e1 : ((w.alloc (Obj.cells (zPn c (zS pa c.anc.length pc) (zS ea c.ru.pol.length ec)) 114)).alloc (Obj.cells #[zI 0, zZ, zI 0, zZ, .bool false, .bool false, zI 0] 127)).heap.size = w.heap.size + 1 + 1 := by rw [size_alloc, e0]
 have G0 : Hid ((Blk W3 w.heap.size 114 (zPn c (zS pa c.anc.length pc) (zS ea c.ru.pol.length ec)) /\ Blk W3 (w.heap.size + 1) 127 #[zI 0, zZ, zI 0, zZ, .bool false, .bool false, zI 0] /\ Blk W3 (w.heap.size + 1 + 1) 127 #[zI c.id, zZ, zI 0, zZ, .bool false, .bool false, zI 0] /\ zW w W3) /\ w.heap.size + 1 + 1 + 1 <= W3.heap.size) := by
  rw [hW3];refine ⟨⟨((Blk.new w _ _).alloc _).alloc _, ?_, ?_, (((Below.refl _ _).alloc (Nat.le_refl _) _).alloc (by rw [e0]; omega) _).alloc (by rw [e1]; omega) _⟩, by rw [size_alloc, e1]; omega⟩
  ·have h := (Blk.new (w.alloc (Obj.cells (zPn c (zS pa c.anc.length pc) (zS ea c.ru.pol.length ec)) 114)) 127 #[zI 0, zZ, zI 0, zZ, .bool false, .bool false, zI 0]).alloc (Obj.cells #[zI c.id, zZ, zI 0, zZ, .bool false, .bool false, zI 0] 127)
   rw [e0] at h;exact h
  ·have h := Blk.new ((w.alloc (Obj.cells (zPn c (zS pa c.anc.length pc) (zS ea c.ru.pol.length ec)) 114)).alloc (Obj.cells #[zI 0, zZ, zI 0, zZ, .bool false, .bool false, zI 0] 127)) 127 #[zI c.id, zZ, zI 0, zZ, .bool false, .bool false, zI 0]
   rw [e1] at h;exact h
 clear hW3 e0 e1;have wd1 : w.heap.size ≠ w.heap.size + 1 + 1 := by omega
 have wd2 : w.heap.size + 1 ≠ w.heap.size + 1 + 1 := by omega
 refine (toIntS_any pa c.anc c.anc.length pc B W3 rfl HA.2.2.1 (Nat.le_trans hB G0.1.2.2.2.size) (HA.1.below (G0.1.2.2.2.mono hB))).mono ?_;rintro r u1 ⟨p, rfl, op, hb⟩;have F1 : Hid ((Blk u1 w.heap.size 114 (zPn c (zS pa c.anc.length pc) (zS ea c.ru.pol.length ec)) /\ Blk u1 (w.heap.size + 1) 127 #[zI 0, zZ, zI 0, zZ, .bool false, .bool false, zI 0] /\ Blk u1 (w.heap.size + 1 + 1) 127 #[zI c.id, zZ, zI 0, zZ, .bool false, .bool false, zI 0] /\ zW w u1) /\ w.heap.size + 1 + 1 + 1 <= u1.heap.size /\ OwnI u1 (w.heap.size + 1 + 1 + 1) p c.anc) := by
  have hz := G0.2;exact ⟨⟨G0.1.1.below hb (by omega), G0.1.2.1.below hb (by omega), G0.1.2.2.1.below hb (by omega), G0.1.2.2.2.trans (hb.mono G0.1.2.2.2.size)⟩, Nat.le_trans hz hb.size, op.base hz⟩
 clear op hb G0;have fr := fun j => F1.1.2.2.1.free j
 obtain ⟨qp, mp, hsp⟩ : ∃ ao cap, p = zS ao c.anc.length cap := by obtain ⟨ao, cap, h, _⟩ := F1.2.2.at; exact ⟨ao, cap, h⟩
 obtain ⟨lp, hlp⟩ := zE (c.anc.length);rw [hlp] at hsp;clear hlp;subst hsp;have ca2 := fun j => F1.1.1.cell j
 have cg := fun j => F1.1.2.2.1.cell j
 go_wp2_with fail;obtain ⟨V1, hV⟩ : ∃ V, V = u1.setCell ⟨w.heap.size + 1 + 1, 1, none⟩ (zS qp lp mp) := ⟨_, rfl⟩;rw [<- hV];have G1 : Hid ((Blk V1 w.heap.size 114 (zPn c (zS pa c.anc.length pc) (zS ea c.ru.pol.length ec)) /\ Blk V1 (w.heap.size + 1) 127 #[zI 0, zZ, zI 0, zZ, .bool false, .bool false, zI 0] /\ Blk V1 (w.heap.size + 1 + 1) 127 #[zI c.id, zS qp lp mp, zI 0, zZ, .bool false, .bool false, zI 0] /\ zW w V1) /\ w.heap.size + 1 + 1 + 1 <= V1.heap.size /\ OwnI V1 (w.heap.size + 1 + 1 + 1) (zS qp lp mp) c.anc) := by
  have hbs : Below (w.heap.size + 1 + 1) u1 V1 := by rw [hV]; exact (Below.refl _ _).setCell (p := ⟨w.heap.size + 1 + 1, 1, none⟩) (Nat.le_refl _) _
  have hot : ∀ b, w.heap.size + 1 + 1 + 1 <= b -> V1.heap[b]? = u1.heap[b]? := fun b hb => by rw [hV]; exact heap_setCell_other _ _ _ _ (by show b ≠ w.heap.size + 1 + 1; omega)
  exact ⟨⟨F1.1.1.below hbs (by omega), F1.1.2.1.below hbs (by omega), by rw [hV]; exact F1.1.2.2.1.set 1 _, F1.1.2.2.2.trans (hbs.mono (by omega))⟩, Nat.le_trans F1.2.1 hbs.size, F1.2.2.block hot⟩
 clear hV F1 fr ca2 cg;refine (toRules_any c.ru (.agg #[zI c.ru.time, zS ea c.ru.pol.length ec, .bool c.ru.expl, .bool c.ru.chk, zI c.ru.usage]) B V1 HA.2.2.2 (Nat.le_trans hB G1.1.2.2.2.size) ⟨ea, ec, rfl, HA.2.1.below (G1.1.2.2.2.mono hB)⟩).mono ?_;rintro r u2 ⟨_, rfl, ⟨e, rfl, oe⟩, hb⟩;have F2 : Hid ((Blk u2 w.heap.size 114 (zPn c (zS pa c.anc.length pc) (zS ea c.ru.pol.length ec)) /\ Blk u2 (w.heap.size + 1) 127 #[zI 0, zZ, zI 0, zZ, .bool false, .bool false, zI 0] /\ Blk u2 (w.heap.size + 1 + 1) 127 #[zI c.id, zS qp lp mp, zI 0, zZ, .bool false, .bool false, zI 0] /\ zW w u2) /\ w.heap.size + 1 + 1 + 1 <= u2.heap.size /\ OwnI u2 (w.heap.size + 1 + 1 + 1) (zS qp lp mp) c.anc /\ OwnI u2 (w.heap.size + 1 + 1 + 1) e c.ru.pol /\ (Ap (zS qp lp mp) e /\ Ap e (zS qp lp mp))) := by
  have hz := G1.2.1;exact ⟨⟨G1.1.1.below hb (by omega), G1.1.2.1.below hb (by omega), G1.1.2.2.1.below hb (by omega), G1.1.2.2.2.trans (hb.mono G1.1.2.2.2.size)⟩, Nat.le_trans hz hb.size, G1.2.2.stays hb, oe.base hz, rows_apart G1.2.2 oe (Nat.le_refl _)⟩
 clear oe hb G1;have fr := fun j => F2.1.2.2.1.free j
 have f1 := fun j => F2.1.2.1.free j
 obtain ⟨qe, me, hse⟩ : ∃ ao cap, e = zS ao c.ru.pol.length cap := by obtain ⟨ao, cap, h, _⟩ := F2.2.2.2.1.at; exact ⟨ao, cap, h⟩
 obtain ⟨le, hle⟩ := zE (c.ru.pol.length);rw [hle] at hse;clear hle;subst hse;unfold ruV;have c10 := fun j => F2.1.2.1.cell j
 have c20 := fun j => F2.1.2.2.1.cell j
 have c11 := fun j => F2.1.2.1.cell j
 have c21 := fun j => F2.1.2.2.1.cell j
 have c12 := fun j => F2.1.2.1.cell j
 have c22 := fun j => F2.1.2.2.1.cell j
 have c13 := fun j => F2.1.2.1.cell j
 have c23 := fun j => F2.1.2.2.1.cell j
 have c14 := fun j => F2.1.2.1.cell j
 have c24 := fun j => F2.1.2.2.1.cell j
 have c15 := fun j => F2.1.2.1.cell j
 have c25 := fun j => F2.1.2.2.1.cell j
 have c16 := fun j => F2.1.2.1.cell j
 have c26 := fun j => F2.1.2.2.1.cell j
 go_wp2_with fail;refine bodyPost_ret (v := pnV c (zS qp lp mp) (zS qe le me)) (by simp [results, Tryz.results82, go_sem, pnV, c10, c11, c12, c13, c14, c15, c16]) rfl ⟨_, rfl, ⟨_, _, rfl, (F2.2.2.1.block ?far).base (by omega), (F2.2.2.2.1.block ?far).base (by omega), F2.2.2.2.2⟩, ?bel⟩
 case far =>
  intro b hb
  iterate 12 rw [heap_setCell_other _ _ _ _ (by first | (show b ≠ w.heap.size + 1; omega) | (show b ≠ w.heap.size + 1 + 1; omega))]
 case bel =>
  iterate 12 refine Below.setCell ?_ (by first | (show w.heap.size <= w.heap.size + 1; omega) | (show w.heap.size <= w.heap.size + 1 + 1; omega)) _
  exact F2.1.2.2.2
theorem szPlan_any (c : Pn) (v : Value) (left : Int) (w : World) (hwd : WdPn c) (h0 : 0 <= left) (hl : left <= 1048576) (ha : ArgPn w.heap.size w v c) :
  Calls Tryz.prog 72 #[v, zI left] w fun e w' => e = .returned (zI (szPn c left)) /\ zW w w' := by
 obtain ⟨pa, pc, ea, ec, rfl, h1, h2⟩ := ha;obtain ⟨hw0, hw1, hw2, hp1, hp2⟩ := hwd;have hwu : WdU c.ru := ⟨fun y hy => hw0 y (by simp only [List.mem_cons, List.not_mem_nil, or_false] at hy |-; exact .inr hy), hw2, hp2⟩;unfold pnV;obtain ⟨r1, hr1⟩ : ∃ r : Int, r = if (c.anc.length : Int) <= left then left - (c.anc.length : Int) else -1 := ⟨_, rfl⟩;have Z1 : Hid (∀ W, zW w W -> Calls Tryz.prog 41 #[zS pa c.anc.length pc, zI left] W fun e w' => e = .returned (zI r1) /\ zW W w') := fun W hb => by rw [hr1]; exact szIntS_any pa c.anc.length pc left W hp1 (by omega) (by omega)
 by_cases g1 : r1 < 0
 ·have e1 : r1 = -1 := by split at hr1 <;> omega
  have HF : Hid (szPn c left = -1) := by
   show szPn c left = -1;unfold szPn wtPn;rw [if_neg (by split at hr1 <;> omega)]
  clear hr1 g1 h1 h2 hw0 hw1 hw2 hp1 hp2 hwu;subst e1;go_enter Tryz.func72, Tryz.ntmps72;go_wp2_with fail;obtain ⟨V, hV⟩ : ∃ V, V = w.alloc (Obj.cells (zPn c (zS pa c.anc.length pc) (zS ea c.ru.pol.length ec)) 114) := ⟨_, rfl⟩;rw [<- hV];have G : Hid (zW w V) := by rw [hV]; exact (Below.refl _ _).alloc (Nat.le_refl _) _
  clear hV;refine (Z1.out V G.out).mono ?_;rintro e V2 ⟨rfl, hb⟩;have G2 : Hid (zW w V2) := G.trans (hb.mono G.size);clear hb G;go_wp2_with fail;go_ret;exact ⟨by rw [HF.out]; rfl, G2.out⟩
 ·have e1 : r1 = left - (c.anc.length : Int) /\ (c.anc.length : Int) <= left := by split at hr1 <;> omega
  obtain ⟨r2, hr2⟩ : ∃ r : Int, r = szU c.ru r1 := ⟨_, rfl⟩;have Z2 : Hid (∀ W, zW w W -> Calls Tryz.prog 117 #[.agg #[zI c.ru.time, zS ea c.ru.pol.length ec, .bool c.ru.expl, .bool c.ru.chk, zI c.ru.usage], zI r1] W fun e w' => e = .returned (zI r2) /\ zW W w') := fun W hb => by rw [hr2]; exact szRules_any c.ru (.agg #[zI c.ru.time, zS ea c.ru.pol.length ec, .bool c.ru.expl, .bool c.ru.chk, zI c.ru.usage]) r1 W hwu (by omega) (by omega) (ArgU.mono ⟨ea, ec, rfl, h2.below hb⟩ hb.size)
  have HF : Hid (szPn c left = r2) := by
   show szPn c left = r2;rw [hr2];unfold szPn wtPn szU wtU;by_cases q : ((c.anc.length + c.ru.pol.length : Nat) : Int) <= left
   ·rw [if_pos q, if_pos (by omega)]; omega
   ·rw [if_neg q, if_neg (by omega)]
  have g2 : r2 < 0 -> r2 = -1 := by unfold szU at hr2; split at hr2 <;> omega
  clear hr1 hr2 h1 h2 hw0 hw1 hw2 hp1 hp2 e1 hwu;go_enter Tryz.func72, Tryz.ntmps72;go_wp2_with fail;obtain ⟨V, hV⟩ : ∃ V, V = w.alloc (Obj.cells (zPn c (zS pa c.anc.length pc) (zS ea c.ru.pol.length ec)) 114) := ⟨_, rfl⟩;rw [<- hV];have G : Hid (zW w V /\ Blk V w.heap.size 114 (zPn c (zS pa c.anc.length pc) (zS ea c.ru.pol.length ec))) := by rw [hV]; exact ⟨(Below.refl _ _).alloc (Nat.le_refl _) _, Blk.new w _ _⟩
  clear hV;refine (Z1.out V G.1).mono ?_;rintro e V2 ⟨rfl, hb⟩;have G2 := zH (zJ (G.1.trans (hb.mono G.1.size)) (G.2.below hb G.2.lt));clear hb G;have c2 := fun j => G2.2.cell j
  go_wp2_with fail;refine (Z2.out V2 G2.1).mono ?_;rintro e V3 ⟨rfl, hb⟩;have G3 : Hid (zW w V3) := G2.1.trans (hb.mono G2.1.size);clear hb G2 c2;by_cases q2 : r2 < 0
  ·obtain rfl := g2 q2
   go_wp2_with fail;go_ret;exact ⟨by rw [HF.out]; rfl, G3.out⟩
  ·go_wp2_with fail
   go_ret;exact ⟨by rw [HF.out]; rfl, G3.out⟩
theorem eqPlan_same (c : Pn) (a b : Value) (w : World) (hl : c.anc.length <= 1000000000 /\ c.ru.pol.length <= 1000000000) (ha : PnAt w a c) (hb : PnAt w b c) :
  Calls Tryz.prog 95 #[a, b] w fun e w' => e = .returned (.bool true) /\ zW w w' := by
 obtain ⟨pv, ev, rfl, h1, h2⟩ := ha;obtain ⟨pu, eu, rfl, k1, k2⟩ := hb;have HQ : Hid (∀ W, zW w W -> Calls Tryz.prog 52 #[pv, pu] W (fun e w' => e = .returned (.bool true) /\ zW W w')) := fun W hb => eqIntS_same pv pu c.anc W hl.1 (h1.below hb) (k1.below hb)
 have HQ2 : Hid (∀ W, zW w W -> Calls Tryz.prog 143 #[ruV c.ru ev, ruV c.ru eu] W (fun e w' => e = .returned (.bool true) /\ zW W w')) := fun W hb => eqRules_same c.ru _ _ W hl.2 ⟨_, rfl, h2.below hb⟩ ⟨_, rfl, k2.below hb⟩
 obtain ⟨lp, hlp⟩ := zE (c.anc.length);obtain ⟨le, hle⟩ := zE (c.ru.pol.length);obtain ⟨pa, pc, hpa, _⟩ := h1;obtain ⟨pb, qc, hpb, _⟩ := k1;obtain ⟨ea, ec, hea, _⟩ := h2;obtain ⟨eb, fc, heb, _⟩ := k2;rw [hlp] at hpa hpb;rw [hle] at hea heb;subst hpa hpb hea heb;clear hlp hle hl;unfold ruV at HQ2;unfold pnV;go_enter Tryz.func95, Tryz.ntmps95;go_wp2_with fail;obtain ⟨V1, hV⟩ : ∃ V, V = (w.alloc (Obj.cells (zPn c (zS pa lp pc) (zS ea le ec)) 127)).alloc (Obj.cells (zPn c (zS pb lp qc) (zS eb le fc)) 127) := ⟨_, rfl⟩;rw [<- hV];have G1 : Hid (Blk V1 w.heap.size 127 (zPn c (zS pa lp pc) (zS ea le ec)) /\ Blk V1 (w.heap.size + 1) 127 (zPn c (zS pb lp qc) (zS eb le fc)) /\ zW w V1 /\ w.heap.size + 1 < V1.heap.size) := by
  have e0 : (w.alloc (Obj.cells (zPn c (zS pa lp pc) (zS ea le ec)) 127)).heap.size = w.heap.size + 1 := Array.size_push _;have h := Blk.new (w.alloc (Obj.cells (zPn c (zS pa lp pc) (zS ea le ec)) 127)) 127 (zPn c (zS pb lp qc) (zS eb le fc));rw [e0] at h;rw [hV];exact ⟨(Blk.new w _ _).alloc _, h, ((Below.refl _ _).alloc (Nat.le_refl _) _).alloc (by rw [e0]; omega) _, by rw [size_alloc, e0]; omega⟩
 clear hV;refine (HQ.out V1 G1.2.2.1).mono ?_;rintro e V2 ⟨rfl, hb⟩;have G2 := zH (zJ (G1.1.below hb (by have := G1.2.2.2; omega) : Blk V2 w.heap.size 127 (zPn c (zS pa lp pc) (zS ea le ec))) (zJ (G1.2.1.below hb G1.2.2.2) (zJ (G1.2.2.1.trans (hb.mono G1.2.2.1.size)) (Nat.lt_of_lt_of_le G1.2.2.2 hb.size))));clear hb G1;have ca2 := fun j => G2.1.cell j
 have cb2 := fun j => G2.2.1.cell j
 have ca3 := fun j => G2.1.cell j
 have cb3 := fun j => G2.2.1.cell j
 have ca4 := fun j => G2.1.cell j
 have cb4 := fun j => G2.2.1.cell j
 have ca5 := fun j => G2.1.cell j
 have cb5 := fun j => G2.2.1.cell j
 have ca6 := fun j => G2.1.cell j
 have cb6 := fun j => G2.2.1.cell j
 go_wp2_with fail;clear ca2 cb2 ca3 cb3 ca4 cb4 ca5 cb5 ca6 cb6;refine (HQ2.out V2 G2.2.2.1).mono ?_;rintro e V3 ⟨rfl, hb⟩;have G3 : Hid (zW w V3) := G2.2.2.1.trans (hb.mono G2.2.2.1.size);clear hb G2;go_wp2_with fail;go_ret;exact ⟨rfl, G3.out⟩
theorem toPlanS_any (v : Value) (l : List Pn) (B : Nat) (w : World) (hl : wtPS l <= 1048576) (hB : B <= w.heap.size) (ha : ArgPS B w v l) :
  Calls Tryz.prog 33 #[v] w fun e w' => ∃ u fp, e = .returned u /\ OwnS pnKd w' w.heap.size u l fp /\ zW w w' := by
 obtain ⟨i0, hi, hz0, hz1, hz2⟩ := info_parts infoPlan;obtain ⟨a0, cap, hv⟩ := ha.shape;obtain ⟨len, hlen⟩ := zE (l.length);rw [hlen] at hv;subst hv;have hl20 : len <= 1048576 := by unfold wtPS at hl; omega
 have HA : Hid (ArgPS B w (zS a0 len cap) l /\ l.length = len /\ wtPS l <= 1048576) := ⟨ha, hlen, hl⟩;clear ha hlen hl;go_enter Tryz.func33, Tryz.ntmps33;go_wp2_with (at_make; refine wpList_make_full _ rfl _ _ 38 rfl w.heap.size 127 i0 (.agg #[zI 0, zZ, zI 0, zZ, .bool false, .bool false, zI 0]) 7 Tryz.underlying38 hi hz0 hz1 .i64 .i64 _ _ len rfl rfl ?m0 ?m1 ?m2 ?m3 ?m4 ?_)
 case m0 => simp
 case m1 => simp
 case m2 => rw [hz2]; omega
 case m3 => unfold maxLen; omega
 case m4 => exact Nat.le_refl _
 intro w1 hown hgrow;have HO : Hid (∃ fp, OwnS pnKd w1 w.heap.size (zS (some ⟨w.heap.size, 0, none⟩) len len) (l.take 0 ++ List.replicate (l.length - 0) zePn) fp /\ zW w w1) := by
  refine ⟨[w.heap.size], ?_, (Below.refl _ _).grown hgrow (Nat.le_refl _) (fun j hj => by cases hj)⟩;rw [List.take_zero, List.nil_append, Nat.sub_zero, HA.2.1];exact OwnS.zeros pnKd (own_zePn _ _) rfl (by have h2 : (madeCells zePnV.cells (len * 7)).toList = cellsV (List.replicate len zePnV) := made_cellsV zePnV len (by decide); rw [<- h2]; exact hown)
 clear hown hgrow;go_wp2_with fail
 go_loopw [4] (fun iv wr => ∃ k : Nat, k <= len /\ iv = zI k /\ Hid (∃ fp, OwnS pnKd wr w.heap.size (zS (some ⟨w.heap.size, 0, none⟩) len len) (l.take k ++ List.replicate (l.length - k) zePn) fp /\ zW w wr)) (fun iv _ => len - (intOf iv).toNat)
 case atStart => exact ⟨0, Nat.zero_le _, rfl, HO.out⟩
 case round =>
  obtain ⟨k, hk, rfl, H⟩ := hrel;clear HO;by_cases hkn : k < len
  ·have hkl : k < l.length := by rw [HA.2.1]; exact hkn
   obtain ⟨b, off, u, hao, hbB, hPu, hus, hcell⟩ := HA.1.get hkl;obtain ⟨ap, aq, ep, eq, hu⟩ := hPu.shape;subst hao;obtain ⟨fp, hO, hBl⟩ := H.out;have HP : Hid (ArgPn w.heap.size wr u l[k]) := (hPu.mono hB).below hBl;have hcb := fun i x (hx : u.cells[i]? = some x) => (hBl.cell (p := ⟨b, off + k * 7 + i, none⟩) (by show b < w.heap.size; omega)).trans (hcell i x hx)
   obtain ⟨c, hc⟩ := zE (l[k]);rw [hc] at HP hu;have HR := toPlan_any c u w.heap.size wr (by have h1 := wtPS_mem (List.getElem_mem hkl); rw [hc] at h1; exact wtPn_lens (Nat.le_trans h1 HA.2.2)) hBl.size HP.out;subst hu;have u0 : wr.cell? ⟨b, off + k * 7, none⟩ = some (zI c.id) := hcb 0 _ rfl;have u1 : wr.cell? ⟨b, off + k * 7 + 1, none⟩ = some (zS ap c.anc.length aq) := hcb 1 _ rfl;have u2 : wr.cell? ⟨b, off + k * 7 + 2, none⟩ = some (zI c.ru.time) := hcb 2 _ rfl;have u3 : wr.cell? ⟨b, off + k * 7 + 3, none⟩ = some (zS ep c.ru.pol.length eq) := hcb 3 _ rfl;have u4 : wr.cell? ⟨b, off + k * 7 + 4, none⟩ = some (.bool c.ru.expl) := hcb 4 _ rfl;have u5 : wr.cell? ⟨b, off + k * 7 + 5, none⟩ = some (.bool c.ru.chk) := hcb 5 _ rfl;have u6 : wr.cell? ⟨b, off + k * 7 + 6, none⟩ = some (zI c.ru.usage) := hcb 6 _ rfl;have HN : Hid (∀ (w3 : World) (p e : Value), zW wr w3 -> OwnPn w3 wr.heap.size (pnV c p e) c -> ∃ fp, OwnS pnKd (w3.setCells w.heap.size (k * 7) [zI c.id, p, zI c.ru.time, e, .bool c.ru.expl, .bool c.ru.chk, zI c.ru.usage]) w.heap.size (zS (some ⟨w.heap.size, 0, none⟩) len len) (l.take (k + 1) ++ List.replicate (l.length - (k + 1)) zePn) fp /\ zW w (w3.setCells w.heap.size (k * 7) [zI c.id, p, zI c.ru.time, e, .bool c.ru.expl, .bool c.ru.chk, zI c.ru.usage])) := fun w3 p e hb hop => by
    have h2 := (hO.stays hb).put (j := k) (by rw [fillPn_len (Nat.le_of_lt hkl)]; exact HA.2.1.symm) (by rw [fillPn_len (Nat.le_of_lt hkl)]; exact hkl) (hop.base hBl.size) (fun y hy hm => by have h3 := fpPn_lt hop y hy; have h4 := hO.lt y hm; omega);obtain ⟨fp', h2, _⟩ := h2;rw [<- hc, fillPn_set hkl] at h2;rw [<- hc];have e1 : w3.setCells w.heap.size (k * 7) [zI l[k].id, p, zI l[k].ru.time, e, .bool l[k].ru.expl, .bool l[k].ru.chk, zI l[k].ru.usage] = putCells w3 w.heap.size (k * 7) (pnV l[k] p e).cells.toList := (putCells_set _ _ _ _).symm;rw [e1];refine ⟨fp', h2, ?_⟩;exact (hBl.trans (hb.mono hBl.size)).trans ((putCells_out _ _ _ _).below (fun b hb => by rw [List.mem_singleton.1 hb]; exact Nat.le_refl _) (hBl.trans (hb.mono hBl.size)).size)
   have HC : Hid (∀ w3, zW wr w3 -> w3.there w.heap.size (k * 7) 7) := fun w3 hb => by
    obtain ⟨⟨u, hu, _, hcs⟩, hfz⟩ := (hO.stays hb).cellsPn (j := k) (by rw [fillPn_len (Nat.le_of_lt hkl)]; exact HA.2.1.symm) (by rw [fillPn_len (Nat.le_of_lt hkl)]; exact hkl);obtain ⟨p, e, rfl, _⟩ := hu;intro j hj;refine ⟨?_, hfz _⟩;have h7 : j < (pnV ((l.take k ++ List.replicate (l.length - k) zePn)[k]'(by rw [fillPn_len (Nat.le_of_lt hkl)]; exact hkl)) p e).cells.size := hj;rw [hcs j _ (Array.getElem?_eq_getElem h7)];rfl
   clear H hO hBl HP hcb hcell hPu hus hbB hc hkl;have hki : (k : Int) < (len : Int) := by omega
   have hk0 : (0 : Int) <= (k : Int) := by omega
   unfold pnV at HR HN;go_wp2_with fail;refine HR.mono ?_;rintro e w3 ⟨v3, rfl, ⟨p3, e3, rfl, ho3, ho4, hap⟩, hb3⟩;have hth := HC.out w3 hb3;have HN3 := HN.out w3 p3 e3 hb3 ⟨p3, e3, rfl, ho3, ho4, hap⟩;obtain ⟨qa, qc, hq3, -⟩ := ho3.at
   obtain ⟨qe, qf, hq4, -⟩ := ho4.at
   subst hq3 hq4;clear HN HC hb3 u0 u1 u2 u3 u4 u5 u6 HR ho3 ho4 hap;have HN : Hid _ := HN3;clear HN3;unfold pnV;obtain ⟨VV, hVV⟩ : ∃ V, V = w3.setCells w.heap.size (k * 7) (zPn c (zS qa c.anc.length qc) (zS qe c.ru.pol.length qf)).toList := ⟨_, rfl⟩;have HNV : Hid (∃ fp, OwnS pnKd VV w.heap.size (zS (some ⟨w.heap.size, 0, none⟩) len len) (l.take (k + 1) ++ List.replicate (l.length - (k + 1)) zePn) fp /\ zW w VV) := by rw [hVV]; exact HN.out
   clear HN;go_wp2_with (refine step_storeV rfl 127 _ _ rfl w.heap.size (k * 7) #[zI c.id, zS qa c.anc.length qc, zI c.ru.time, zS qe c.ru.pol.length qf, .bool c.ru.expl, .bool c.ru.chk, zI c.ru.usage] rfl rfl hth (by kernel_rfl) (by simp [Value.oneCell']) hVV ?_; clear hVV hth)
   go_roundw
   case rel => exact ⟨k + 1, by omega, by go_num, HNV.out⟩
   case measure => simp [intOf]; omega
  ·have hkl : k = len := by omega
   subst hkl
   go_wp2
   go_ret;obtain ⟨fp, hO, hBl⟩ := H.out;refine ⟨_, fp, rfl, ?_, hBl⟩;rw [<- HA.2.1, List.take_length, Nat.sub_self, List.replicate_zero, List.append_nil] at hO;rw [<- HA.2.1];exact hO
end Go.Proofs.YtabfamhaihnccaaGreat
