/-
  Texts of the proof.
-/
import Derived.Deep.RegionHeld3
import Derived.Laws.OwnMore
import Derived.Test.YtabfamhaihnccaaGreatLC5
set_option linter.unusedVariables false
set_option linter.unusedSimpArgs false
set_option maxRecDepth 100000
set_option maxHeartbeats 25600000
namespace Go.Proofs.YtabfamhaihnccaaGreat
open Go.RowKit
def Blk (w : World) (b : Nat) (t : TypeId) (vs : Array Value) : Prop := w.heap[b]? = some (.cells vs t (0, 0))
theorem Blk.lt {w : World} {b : Nat} {t : TypeId} {vs : Array Value} (h : Blk w b t vs) : b < w.heap.size := by
 rcases Nat.lt_or_ge b w.heap.size with h1 | h1
 ·exact h1
 ·unfold Blk at h; rw [Array.getElem?_eq_none h1] at h; cases h
theorem Blk.below {w w' : World} {b : Nat} {t : TypeId} {vs : Array Value} (h : Blk w b t vs) {B : Nat} (hb : Below B w w') (hB : b < B) : Blk w' b t vs := (hb.block b hB).trans h
theorem Blk.other {w : World} {b : Nat} {t : TypeId} {vs : Array Value} (h : Blk w b t vs) {p : Addr} (v : Value) (hp : b ≠ p.block) : Blk (w.setCell p v) b t vs := (heap_setCell_other _ _ _ _ hp).trans h
theorem Blk.set {w : World} {b : Nat} {t : TypeId} {vs : Array Value} (h : Blk w b t vs) (i : Nat) (v : Value) : Blk (w.setCell ⟨b, i, none⟩ v) b t (vs.setIfInBounds i v) := heap_setCell_same w b i _ t _ h
theorem size_alloc (w : World) (o : Obj) : (w.alloc o).heap.size = w.heap.size + 1 := Array.size_push _
theorem Blk.free {w : World} {b : Nat} {t : TypeId} {vs : Array Value} (h : Blk w b t vs) (j : Nat) : w.frozen? ⟨b, j, none⟩ = false := by
 unfold Blk at h;simp [World.frozen?, h]
theorem Blk.cell {w : World} {b : Nat} {t : TypeId} {vs : Array Value} (h : Blk w b t vs) (j : Nat) : w.cell? ⟨b, j, none⟩ = vs[j]? := by
 unfold Blk at h;simp [World.cell?, h]
theorem zc7 {w : World} {b : Nat} {t : TypeId} {a0 a1 a2 a3 a4 a5 a6 : Value} (h : Blk w b t #[a0, a1, a2, a3, a4, a5, a6]) : w.cell? ⟨b, 0, none⟩ = some a0 /\ w.cell? ⟨b, 1, none⟩ = some a1 /\ w.cell? ⟨b, 2, none⟩ = some a2 /\ w.cell? ⟨b, 3, none⟩ = some a3 /\ w.cell? ⟨b, 4, none⟩ = some a4 /\ w.cell? ⟨b, 5, none⟩ = some a5 /\ w.cell? ⟨b, 6, none⟩ = some a6 := ⟨h.cell 0, h.cell 1, h.cell 2, h.cell 3, h.cell 4, h.cell 5, h.cell 6⟩
theorem zc13 {w : World} {b : Nat} {t : TypeId} {a0 a1 a2 a3 a4 a5 a6 a7 a8 a9 a10 a11 a12 : Value} (h : Blk w b t #[a0, a1, a2, a3, a4, a5, a6, a7, a8, a9, a10, a11, a12]) : w.cell? ⟨b, 0, none⟩ = some a0 /\ w.cell? ⟨b, 1, none⟩ = some a1 /\ w.cell? ⟨b, 2, none⟩ = some a2 /\ w.cell? ⟨b, 3, none⟩ = some a3 /\ w.cell? ⟨b, 4, none⟩ = some a4 /\ w.cell? ⟨b, 5, none⟩ = some a5 /\ w.cell? ⟨b, 6, none⟩ = some a6 /\ w.cell? ⟨b, 7, none⟩ = some a7 /\ w.cell? ⟨b, 8, none⟩ = some a8 /\ w.cell? ⟨b, 9, none⟩ = some a9 /\ w.cell? ⟨b, 10, none⟩ = some a10 /\ w.cell? ⟨b, 11, none⟩ = some a11 /\ w.cell? ⟨b, 12, none⟩ = some a12 := ⟨h.cell 0, h.cell 1, h.cell 2, h.cell 3, h.cell 4, h.cell 5, h.cell 6, h.cell 7, h.cell 8, h.cell 9, h.cell 10, h.cell 11, h.cell 12⟩
theorem Blk.new (w : World) (t : TypeId) (vs : Array Value) : Blk (w.alloc (.cells vs t)) w.heap.size t vs := heap_alloc_new w _
theorem Blk.alloc {w : World} {b : Nat} {t : TypeId} {vs : Array Value} (h : Blk w b t vs) (o : Obj) : Blk (w.alloc o) b t vs := (heap_alloc_old w o h.lt).trans h
theorem OwnI.block {w w' : World} {b : Nat} {v : Value} {l : List Int} (h : OwnI w b v l) (hh : ∀ g, b <= g -> w'.heap[g]? = w.heap[g]?) : OwnI w' b v l := by
 obtain ⟨h1, h2⟩ := h;refine ⟨h1, ?_⟩
 rcases h2 with h2 | ⟨g, cap, cur, hv, hbg, hg, r⟩
 ·exact .inl h2
 ·exact .inr ⟨g, cap, cur, hv, hbg, (hh g hbg).trans hg, r⟩
theorem OwnT.block {w w' : World} {b : Nat} {v : Value} {l : List ByteArray} (h : OwnT w b v l) (hh : ∀ g, b <= g -> w'.heap[g]? = w.heap[g]?) : OwnT w' b v l := by
 obtain ⟨h1, h2⟩ := h;refine ⟨h1, ?_⟩
 rcases h2 with h2 | ⟨g, cap, cur, hv, hbg, hg, r⟩
 ·exact .inl h2
 ·exact .inr ⟨g, cap, cur, hv, hbg, (hh g hbg).trans hg, r⟩
theorem szIntS_any (a0 : Option Addr) (len cap : Nat) (left : Int) (w : World) (hm : len <= 9223372036854775807) (h0 : 0 <= left) (hl : left <= 1048576) :
  Calls Tryz.prog 41 #[zS a0 len cap, zI left] w fun e w' => e = .returned (zI (if (len : Int) <= left then left - (len : Int) else -1)) /\ zW w w' := by
 have w1 : IntKind.i64.wrap (left - (len : Int)) = left - (len : Int) := by rw [IntKind.wrap_i64]; omega
 by_cases h : (len : Int) <= left
 ·have hneg : ¬ left - (len : Int) < 0 := by omega
  rw [if_pos h];go_enter Tryz.func41, Tryz.ntmps41
  go_wp2
  go_ret;exact ⟨rfl, Below.refl _ _⟩
 ·have hneg : left - (len : Int) < 0 := by omega
  rw [if_neg h];go_enter Tryz.func41, Tryz.ntmps41
  go_wp2
  go_ret;exact ⟨rfl, Below.refl _ _⟩
theorem toCert_any (c : Ct) (v : Value) (B : Nat) (w : World) (hl : c.pol.length <= 1048576 /\ c.per.length <= 1048576 /\ c.den.length <= 1048576) (hB : B <= w.heap.size) (ha : ArgC B w v c) :
  Calls Tryz.prog 13 #[v] w fun e w' => ∃ u, e = .returned u /\ OwnC w' w.heap.size u c /\ zW w w' := by
 obtain ⟨pa, pc, ea, ec, da, dc, rfl, h1, h2, h3⟩ := ha;have HA : Hid (ArgAt B w pa c.pol /\ ArgT B w ea c.per /\ ArgT B w da c.den /\ c.pol.length <= 1048576 /\ c.per.length <= 1048576 /\ c.den.length <= 1048576) := ⟨h1, h2, h3, hl⟩;clear h1 h2 h3 hl;unfold ctV;go_enter Tryz.func13, Tryz.ntmps13;go_wp2_with fail;obtain ⟨W3, hW3⟩ : ∃ W, W = ((w.alloc (Obj.cells (zCt c (zS pa c.pol.length pc) (zS ea c.per.length ec) (zS da c.den.length dc)) 48)).alloc (Obj.cells #[zI 0, zG ⟨#[]⟩, zG ⟨#[]⟩, zI 0, zI 0, zG ⟨#[]⟩, .bool false, zI 0, zI 0, zZ, zZ, zZ, zG ⟨#[]⟩] 52)).alloc (Obj.cells #[zI c.serial, zG c.issuer, zG c.subject, zI c.frm, zI c.upto, zG c.key, .bool c.ca, zI c.pathLen, zI c.usage, zZ, zZ, zZ, zG ⟨#[]⟩] 52) := ⟨_, rfl⟩;change Calls _ _ _ (((w.alloc (Obj.cells (zCt c (zS pa c.pol.length pc) (zS ea c.per.length ec) (zS da c.den.length dc)) 48)).alloc (Obj.cells #[zI 0, zG ⟨#[]⟩, zG ⟨#[]⟩, zI 0, zI 0, zG ⟨#[]⟩, .bool false, zI 0, zI 0, zZ, zZ, zZ, zG ⟨#[]⟩] 52)).alloc (Obj.cells #[zI c.serial, zG c.issuer, zG c.subject, zI c.frm, zI c.upto, zG c.key, .bool c.ca, zI c.pathLen, zI c.usage, zZ, zZ, zZ, zG ⟨#[]⟩] 52)) _;rw [<- hW3];have e0 : (w.alloc (Obj.cells (zCt c (zS pa c.pol.length pc) (zS ea c.per.length ec) (zS da c.den.length dc)) 48)).heap.size = w.heap.size + 1 := Array.size_push _;have e1 : ((w.alloc (Obj.cells (zCt c (zS pa c.pol.length pc) (zS ea c.per.length ec) (zS da c.den.length dc)) 48)).alloc (Obj.cells #[zI 0, zG ⟨#[]⟩, zG ⟨#[]⟩, zI 0, zI 0, zG ⟨#[]⟩, .bool false, zI 0, zI 0, zZ, zZ, zZ, zG ⟨#[]⟩] 52)).heap.size = w.heap.size + 1 + 1 := by rw [size_alloc, e0]
 have H3 : Hid ((Blk W3 w.heap.size 48 (zCt c (zS pa c.pol.length pc) (zS ea c.per.length ec) (zS da c.den.length dc)) /\ Blk W3 (w.heap.size + 1) 52 #[zI 0, zG ⟨#[]⟩, zG ⟨#[]⟩, zI 0, zI 0, zG ⟨#[]⟩, .bool false, zI 0, zI 0, zZ, zZ, zZ, zG ⟨#[]⟩] /\ Blk W3 (w.heap.size + 1 + 1) 52 #[zI c.serial, zG c.issuer, zG c.subject, zI c.frm, zI c.upto, zG c.key, .bool c.ca, zI c.pathLen, zI c.usage, zZ, zZ, zZ, zG ⟨#[]⟩] /\ zW w W3) /\ W3.heap.size = w.heap.size + 1 + 1 + 1) := by
  rw [hW3];refine ⟨⟨((Blk.new w _ _).alloc _).alloc _, ?_, ?_, (((Below.refl _ _).alloc (Nat.le_refl _) _).alloc (by rw [e0]; omega) _).alloc (by rw [e1]; omega) _⟩, by rw [size_alloc, e1]⟩
  ·have h := (Blk.new (w.alloc (Obj.cells (zCt c (zS pa c.pol.length pc) (zS ea c.per.length ec) (zS da c.den.length dc)) 48)) 52 #[zI 0, zG ⟨#[]⟩, zG ⟨#[]⟩, zI 0, zI 0, zG ⟨#[]⟩, .bool false, zI 0, zI 0, zZ, zZ, zZ, zG ⟨#[]⟩]).alloc (Obj.cells #[zI c.serial, zG c.issuer, zG c.subject, zI c.frm, zI c.upto, zG c.key, .bool c.ca, zI c.pathLen, zI c.usage, zZ, zZ, zZ, zG ⟨#[]⟩] 52)
   rw [e0] at h;exact h
  ·have h := Blk.new ((w.alloc (Obj.cells (zCt c (zS pa c.pol.length pc) (zS ea c.per.length ec) (zS da c.den.length dc)) 48)).alloc (Obj.cells #[zI 0, zG ⟨#[]⟩, zG ⟨#[]⟩, zI 0, zI 0, zG ⟨#[]⟩, .bool false, zI 0, zI 0, zZ, zZ, zZ, zG ⟨#[]⟩] 52)) 52 #[zI c.serial, zG c.issuer, zG c.subject, zI c.frm, zI c.upto, zG c.key, .bool c.ca, zI c.pathLen, zI c.usage, zZ, zZ, zZ, zG ⟨#[]⟩]
   rw [e1] at h;exact h
 clear hW3 e0 e1;have G0 := zH (zJ H3.1 (zJ (by have := H3.2; omega : w.heap.size + 1 + 1 + 1 <= W3.heap.size) (trivial : True)));clear H3;have wd1 : w.heap.size ≠ w.heap.size + 1 + 1 := by omega
 have wd2 : w.heap.size + 1 ≠ w.heap.size + 1 + 1 := by omega
 refine (toIntS_any pa c.pol c.pol.length pc B W3 rfl HA.2.2.2.1 (Nat.le_trans hB G0.1.2.2.2.size) (HA.1.below (G0.1.2.2.2.mono hB))).mono ?_;rintro r u0 ⟨p, rfl, op, hb⟩;have F0 : Hid ((Blk u0 w.heap.size 48 (zCt c (zS pa c.pol.length pc) (zS ea c.per.length ec) (zS da c.den.length dc)) /\ Blk u0 (w.heap.size + 1) 52 #[zI 0, zG ⟨#[]⟩, zG ⟨#[]⟩, zI 0, zI 0, zG ⟨#[]⟩, .bool false, zI 0, zI 0, zZ, zZ, zZ, zG ⟨#[]⟩] /\ Blk u0 (w.heap.size + 1 + 1) 52 #[zI c.serial, zG c.issuer, zG c.subject, zI c.frm, zI c.upto, zG c.key, .bool c.ca, zI c.pathLen, zI c.usage, zZ, zZ, zZ, zG ⟨#[]⟩] /\ zW w u0) /\ w.heap.size + 1 + 1 + 1 <= u0.heap.size /\ OwnI u0 (w.heap.size + 1 + 1 + 1) p c.pol) := by
  have hz := G0.2.1;exact ⟨⟨G0.1.1.below hb (by omega), G0.1.2.1.below hb (by omega), G0.1.2.2.1.below hb (by omega), G0.1.2.2.2.trans (hb.mono G0.1.2.2.2.size)⟩, Nat.le_trans hz hb.size, op.base hz⟩
 clear op hb G0;obtain ⟨tp, htp⟩ := zE (p);have fr := fun j => F0.1.2.2.1.free j
 clear htp tp;obtain ⟨qp, mp, hsp⟩ : ∃ ao cap, p = zS ao c.pol.length cap := by obtain ⟨ao, cap, h, _⟩ := (F0.2.2).at; exact ⟨ao, cap, h⟩
 obtain ⟨lp, hlp⟩ := zE (c.pol.length);rw [hlp] at hsp;have HLp : Hid (p = zS qp lp mp) := hsp;clear hlp;subst hsp;clear HLp;have ca : u0.cell? ⟨w.heap.size, 10, none⟩ = some (zS ea c.per.length ec) := F0.1.1.cell 10;have cg := fun j => F0.1.2.2.1.cell j
 go_wp2_with fail;obtain ⟨V0, hV⟩ : ∃ V, V = u0.setCell ⟨w.heap.size + 1 + 1, 9, none⟩ (zS qp lp mp) := ⟨_, rfl⟩;rw [<- hV];have G1 : Hid ((Blk V0 w.heap.size 48 (zCt c (zS pa c.pol.length pc) (zS ea c.per.length ec) (zS da c.den.length dc)) /\ Blk V0 (w.heap.size + 1) 52 #[zI 0, zG ⟨#[]⟩, zG ⟨#[]⟩, zI 0, zI 0, zG ⟨#[]⟩, .bool false, zI 0, zI 0, zZ, zZ, zZ, zG ⟨#[]⟩] /\ Blk V0 (w.heap.size + 1 + 1) 52 #[zI c.serial, zG c.issuer, zG c.subject, zI c.frm, zI c.upto, zG c.key, .bool c.ca, zI c.pathLen, zI c.usage, zS qp lp mp, zZ, zZ, zG ⟨#[]⟩] /\ zW w V0) /\ w.heap.size + 1 + 1 + 1 <= V0.heap.size /\ OwnI V0 (w.heap.size + 1 + 1 + 1) (zS qp lp mp) c.pol) := by
  have hbs : Below (w.heap.size + 1 + 1) u0 V0 := by rw [hV]; exact (Below.refl _ _).setCell (p := ⟨w.heap.size + 1 + 1, 9, none⟩) (Nat.le_refl _) _
  have hot : ∀ b, w.heap.size + 1 + 1 + 1 <= b -> V0.heap[b]? = u0.heap[b]? := fun b hb => by rw [hV]; exact heap_setCell_other _ _ _ _ (by show b ≠ w.heap.size + 1 + 1; omega)
  refine ⟨⟨F0.1.1.below hbs (by omega), F0.1.2.1.below hbs (by omega), by rw [hV]; exact F0.1.2.2.1.set 9 _, F0.1.2.2.2.trans (hbs.mono (by omega))⟩, Nat.le_trans F0.2.1 hbs.size, ?_⟩;exact F0.2.2.block hot
 clear hV F0 fr ca cg;refine (toStringS_any ea c.per c.per.length ec B V0 rfl HA.2.2.2.2.1 (Nat.le_trans hB G1.1.2.2.2.size) (HA.2.1.below (G1.1.2.2.2.mono hB))).mono ?_;rintro r u1 ⟨e, rfl, oe, hb⟩;have F1 : Hid ((Blk u1 w.heap.size 48 (zCt c (zS pa c.pol.length pc) (zS ea c.per.length ec) (zS da c.den.length dc)) /\ Blk u1 (w.heap.size + 1) 52 #[zI 0, zG ⟨#[]⟩, zG ⟨#[]⟩, zI 0, zI 0, zG ⟨#[]⟩, .bool false, zI 0, zI 0, zZ, zZ, zZ, zG ⟨#[]⟩] /\ Blk u1 (w.heap.size + 1 + 1) 52 #[zI c.serial, zG c.issuer, zG c.subject, zI c.frm, zI c.upto, zG c.key, .bool c.ca, zI c.pathLen, zI c.usage, zS qp lp mp, zZ, zZ, zG ⟨#[]⟩] /\ zW w u1) /\ w.heap.size + 1 + 1 + 1 <= u1.heap.size /\ OwnI u1 (w.heap.size + 1 + 1 + 1) (zS qp lp mp) c.pol /\ OwnT u1 (w.heap.size + 1 + 1 + 1) e c.per /\ (Ap (zS qp lp mp) e /\ Ap e (zS qp lp mp))) := by
  have hz := G1.2.1;exact ⟨⟨G1.1.1.below hb (by omega), G1.1.2.1.below hb (by omega), G1.1.2.2.1.below hb (by omega), G1.1.2.2.2.trans (hb.mono G1.1.2.2.2.size)⟩, Nat.le_trans hz hb.size, G1.2.2.stays hb, oe.base hz, rows_apart G1.2.2 oe (Nat.le_refl _)⟩
 clear oe hb G1;obtain ⟨te, hte⟩ := zE (e);have fr := fun j => F1.1.2.2.1.free j
 clear hte te;obtain ⟨qe, me, hse⟩ : ∃ ao cap, e = zS ao c.per.length cap := by obtain ⟨ao, cap, h, _⟩ := (F1.2.2.2.1).at; exact ⟨ao, cap, h⟩
 obtain ⟨le, hle⟩ := zE (c.per.length);rw [hle] at hse;have HLe : Hid (e = zS qe le me) := hse;clear hle;subst hse;clear HLe;have ca : u1.cell? ⟨w.heap.size, 11, none⟩ = some (zS da c.den.length dc) := F1.1.1.cell 11;have cg := fun j => F1.1.2.2.1.cell j
 go_wp2_with fail;obtain ⟨V1, hV⟩ : ∃ V, V = u1.setCell ⟨w.heap.size + 1 + 1, 10, none⟩ (zS qe le me) := ⟨_, rfl⟩;rw [<- hV];have G2 : Hid ((Blk V1 w.heap.size 48 (zCt c (zS pa c.pol.length pc) (zS ea c.per.length ec) (zS da c.den.length dc)) /\ Blk V1 (w.heap.size + 1) 52 #[zI 0, zG ⟨#[]⟩, zG ⟨#[]⟩, zI 0, zI 0, zG ⟨#[]⟩, .bool false, zI 0, zI 0, zZ, zZ, zZ, zG ⟨#[]⟩] /\ Blk V1 (w.heap.size + 1 + 1) 52 #[zI c.serial, zG c.issuer, zG c.subject, zI c.frm, zI c.upto, zG c.key, .bool c.ca, zI c.pathLen, zI c.usage, zS qp lp mp, zS qe le me, zZ, zG ⟨#[]⟩] /\ zW w V1) /\ w.heap.size + 1 + 1 + 1 <= V1.heap.size /\ OwnI V1 (w.heap.size + 1 + 1 + 1) (zS qp lp mp) c.pol /\ OwnT V1 (w.heap.size + 1 + 1 + 1) (zS qe le me) c.per /\ (Ap (zS qp lp mp) (zS qe le me) /\ Ap (zS qe le me) (zS qp lp mp))) := by
  have hbs : Below (w.heap.size + 1 + 1) u1 V1 := by rw [hV]; exact (Below.refl _ _).setCell (p := ⟨w.heap.size + 1 + 1, 10, none⟩) (Nat.le_refl _) _
  have hot : ∀ b, w.heap.size + 1 + 1 + 1 <= b -> V1.heap[b]? = u1.heap[b]? := fun b hb => by rw [hV]; exact heap_setCell_other _ _ _ _ (by show b ≠ w.heap.size + 1 + 1; omega)
  refine ⟨⟨F1.1.1.below hbs (by omega), F1.1.2.1.below hbs (by omega), by rw [hV]; exact F1.1.2.2.1.set 10 _, F1.1.2.2.2.trans (hbs.mono (by omega))⟩, Nat.le_trans F1.2.1 hbs.size, ?_⟩;exact ⟨F1.2.2.1.block hot, F1.2.2.2.1.block hot, F1.2.2.2.2⟩
 clear hV F1 fr ca cg;refine (toStringS_any da c.den c.den.length dc B V1 rfl HA.2.2.2.2.2 (Nat.le_trans hB G2.1.2.2.2.size) (HA.2.2.1.below (G2.1.2.2.2.mono hB))).mono ?_;rintro r u2 ⟨d, rfl, od, hb⟩;have F2 : Hid ((Blk u2 w.heap.size 48 (zCt c (zS pa c.pol.length pc) (zS ea c.per.length ec) (zS da c.den.length dc)) /\ Blk u2 (w.heap.size + 1) 52 #[zI 0, zG ⟨#[]⟩, zG ⟨#[]⟩, zI 0, zI 0, zG ⟨#[]⟩, .bool false, zI 0, zI 0, zZ, zZ, zZ, zG ⟨#[]⟩] /\ Blk u2 (w.heap.size + 1 + 1) 52 #[zI c.serial, zG c.issuer, zG c.subject, zI c.frm, zI c.upto, zG c.key, .bool c.ca, zI c.pathLen, zI c.usage, zS qp lp mp, zS qe le me, zZ, zG ⟨#[]⟩] /\ zW w u2) /\ w.heap.size + 1 + 1 + 1 <= u2.heap.size /\ OwnI u2 (w.heap.size + 1 + 1 + 1) (zS qp lp mp) c.pol /\ OwnT u2 (w.heap.size + 1 + 1 + 1) (zS qe le me) c.per /\ OwnT u2 (w.heap.size + 1 + 1 + 1) d c.den /\ (Ap (zS qp lp mp) (zS qe le me) /\ Ap (zS qe le me) (zS qp lp mp)) /\ (Ap (zS qp lp mp) d /\ Ap d (zS qp lp mp)) /\ (Ap (zS qe le me) d /\ Ap d (zS qe le me))) := by
  have hz := G2.2.1;exact ⟨⟨G2.1.1.below hb (by omega), G2.1.2.1.below hb (by omega), G2.1.2.2.1.below hb (by omega), G2.1.2.2.2.trans (hb.mono G2.1.2.2.2.size)⟩, Nat.le_trans hz hb.size, G2.2.2.1.stays hb, G2.2.2.2.1.stays hb, od.base hz, G2.2.2.2.2, rows_apart G2.2.2.1 od (Nat.le_refl _), rows_apart G2.2.2.2.1 od (Nat.le_refl _)⟩
 clear od hb G2;obtain ⟨td, htd⟩ := zE (d);have fr := fun j => F2.1.2.2.1.free j
 clear htd td;obtain ⟨qd, md, hsd⟩ : ∃ ao cap, d = zS ao c.den.length cap := by obtain ⟨ao, cap, h, _⟩ := (F2.2.2.2.2.1).at; exact ⟨ao, cap, h⟩
 obtain ⟨ld, hld⟩ := zE (c.den.length);rw [hld] at hsd;have HLd : Hid (d = zS qd ld md) := hsd;clear hld;subst hsd;clear HLd;have f1 := fun j => F2.1.2.1.free j
 have ca : u2.cell? ⟨w.heap.size, 12, none⟩ = some (zG c.sig) := F2.1.1.cell 12;have c10 := fun j => F2.1.2.1.cell j
 have c20 := fun j => F2.1.2.2.1.cell j
 have c11 := fun j => F2.1.2.1.cell j
 have c21 := fun j => F2.1.2.2.1.cell j
 have c12 := fun j => F2.1.2.1.cell j
 have c22 := fun j => F2.1.2.2.1.cell j
 have c13 := fun j => F2.1.2.1.cell j
 have c23 := fun j => F2.1.2.2.1.cell j
 have c14 := fun j => F2.1.2.1.cell j
 have c24 := fun j => F2.1.2.2.1.cell j
 have c15 := fun j => F2.1.2.1.cell j
 have c25 := fun j => F2.1.2.2.1.cell j
 have c16 := fun j => F2.1.2.1.cell j
 have c26 := fun j => F2.1.2.2.1.cell j
 have c17 := fun j => F2.1.2.1.cell j
 have c27 := fun j => F2.1.2.2.1.cell j
 have c18 := fun j => F2.1.2.1.cell j
 have c28 := fun j => F2.1.2.2.1.cell j
 have c19 := fun j => F2.1.2.1.cell j
 have c29 := fun j => F2.1.2.2.1.cell j
 have c110 := fun j => F2.1.2.1.cell j
 have c210 := fun j => F2.1.2.2.1.cell j
 have c111 := fun j => F2.1.2.1.cell j
 have c211 := fun j => F2.1.2.2.1.cell j
 have c112 := fun j => F2.1.2.1.cell j
 have c212 := fun j => F2.1.2.2.1.cell j
 go_wp2_with fail;refine bodyPost_ret (v := ctV c (zS qp lp mp) (zS qe le me) (zS qd ld md)) (by simp [results, Tryz.results13, go_sem, ctV, c10, c11, c12, c13, c14, c15, c16, c17, c18, c19, c110, c111, c112]) rfl ⟨_, rfl, ⟨_, _, _, rfl, (F2.2.2.1.block ?far).base (by omega), (F2.2.2.2.1.block ?far).base (by omega), (F2.2.2.2.2.1.block ?far).base (by omega), F2.2.2.2.2.2.1, F2.2.2.2.2.2.2.1, F2.2.2.2.2.2.2.2⟩, ?bel⟩
 case far =>
  intro b hb
  iterate 15 rw [heap_setCell_other _ _ _ _ (by first | (show b ≠ w.heap.size + 1; omega) | (show b ≠ w.heap.size + 1 + 1; omega))]
 case bel =>
  iterate 15 refine Below.setCell ?_ (by first | (show w.heap.size <= w.heap.size + 1; omega) | (show w.heap.size <= w.heap.size + 1 + 1; omega)) _
  exact F2.1.2.2.2
end Go.Proofs.YtabfamhaihnccaaGreat
namespace Go.Proofs.YtabfamhaihnccaaGreat
open Go.RowKit
def mfig (n : Nat) : UInt8 := UInt8.ofNat (48 + n % 10)
def mdg (n : Nat) : List UInt8 := if _h : n = 0 then [] else mdg (n / 10) ++ [mfig n]
theorem mdg_zero : mdg 0 = [] := by rw [mdg, dif_pos rfl]
theorem mdg_pos {n : Nat} (h : n ≠ 0) : mdg n = mdg (n / 10) ++ [mfig n] := by rw [mdg, dif_neg h]
theorem mdg_step {m n : Nat} {ds : List UInt8} (h : mdg m ++ ds = mdg n) (hm : m ≠ 0) : mdg (m / 10) ++ (mfig m :: ds) = mdg n := by
 rw [<- h, mdg_pos hm]; simp
theorem mdg_len (n : Nat) : (mdg n).length <= n := by
 induction n using Nat.strongRecOn with
 | _ n ih =>
  by_cases h : n = 0
  ·subst h; rw [mdg_zero]; exact Nat.le_refl _
  ·rw [mdg_pos h]
   have := ih (n / 10) (by omega);simp; omega
def mt (k : Nat) : List UInt8 := 109 :: mdg k
theorem conv_oneM (m : Nat) (W : World) : (convert 201 9 (zS (some ⟨W.heap.size, 0, none⟩) 1 1)).run Tryz.prog (W.alloc (.cells #[.int .u8 (48 + (m : Int) % 10)] 5)) = .ok (zG ⟨#[mfig m]⟩) (W.alloc (.cells #[.int .u8 (48 + (m : Int) % 10)] 5)) := by
 have ho := World.ownsRow_lit (base := W.heap.size) (e := 5) (size := 1) W #[.int .u8 (48 + (m : Int) % 10)] 1 (Nat.le_refl _) (by decide) rfl;have e : (#[Value.int .u8 (48 + (m : Int) % 10)]).toList = [mfig m].map cellB := by
  unfold mfig;simp only [List.map_cons, List.map_nil, cellB_of (show 48 + m % 10 < 256 by omega)];simp
 rw [e] at ho;exact conv_own ho
theorem cat_oneM (f : UInt8) (ds : List UInt8) : (⟨#[f]⟩ : ByteArray) ++ (⟨ds.toArray⟩ : ByteArray) = ⟨(f :: ds).toArray⟩ := by
 apply ByteArray.ext;simp [ByteArray.data_append]
theorem markText_str (k : Nat) (w : World) (h1 : 1 <= k) (hk : k <= 1000000000000) : Calls Tryz.prog 107 #[zI k] w fun e w' => e = .returned (zG ⟨(mt k).toArray⟩) /\ zW w w' := by
 have hpos : ¬ (k : Int) <= 0 := by omega
 go_enter Tryz.func107, Tryz.ntmps107
 go_wp2
 go_loopw [3, 0] (fun sv kv wr => ∃ (m : Nat) (ds : List UInt8), m <= k /\ kv = zI m /\ sv = zG ⟨ds.toArray⟩ /\ Hid (mdg m ++ ds = mdg k) /\ zW w wr) (fun _ kv _ => (intOf kv).toNat)
 case atStart => exact ⟨k, [], Nat.le_refl _, rfl, rfl, by show _ = _; simp, Below.refl _ _⟩
 case round =>
  obtain ⟨m, ds, hm, rfl, rfl, HD, hbel⟩ := hrel;have hdl : ds.length <= k := by
   have h1 := mdg_len k;rw [<- HD.out] at h1;simp at h1;omega
  by_cases hm0 : m = 0
  ·subst hm0
   have HF : Hid (ds = mdg k) := by have := HD.out; rw [mdg_zero] at this; exact this
   go_wp2
   go_ret;exact ⟨by rw [HF.out]; rfl, hbel⟩
  ·have hmp : (0 : Int) < (m : Int) := by omega
   have hcv := conv_oneM m
   go_wp2
   go_roundw
   case rel => exact ⟨m / 10, mfig m :: ds, by omega, by go_num, by rw [cat_oneM], mdg_step HD.out hm0, hbel.alloc hbel.size _⟩
   case measure => simp [intOf]; omega
theorem markText_int (x : Int) (w : World) (h1 : 1 <= x) (hk : x <= 1000000000000) : Calls Tryz.prog 107 #[zI x] w fun e w' => e = .returned (zG ⟨(mt x.toNat).toArray⟩) /\ zW w w' := by
 obtain ⟨k, rfl⟩ := Int.eq_ofNat_of_zero_le (show 0 <= x by omega);rw [Int.toNat_natCast];exact markText_str k w (by omega) (by omega)
def marksT (k n : Nat) : List ByteArray := (List.range n).map fun i : Nat => (⟨(mt (k + i)).toArray⟩ : ByteArray)
theorem marksT_len (k n : Nat) : (marksT k n).length = n := by simp [marksT]
theorem marksT_at {k n j : Nat} (h : j < n) : (marksT k n).getD j ByteArray.empty = ⟨(mt (k + j)).toArray⟩ := by simp [marksT, List.getD, h]
theorem getT_set {l : List ByteArray} {k j : Nat} (x : ByteArray) (hk : k < l.length) : (l.set k x).getD j ByteArray.empty = if j = k then x else l.getD j ByteArray.empty := by
 simp only [List.getD_eq_getElem?_getD, List.getElem?_set];by_cases e : k = j
 ·subst e; simp [hk]
 ·rw [if_neg e, if_neg (fun h => e h.symm)]
theorem extT_getD {a b : List ByteArray} (hl : a.length = b.length) (h : ∀ j, j < a.length -> a.getD j ByteArray.empty = b.getD j ByteArray.empty) : a = b := by
 apply List.ext_getElem hl;intro j h1 h2;have := h j h1;simpa [List.getD, h1, h2] using this
theorem grown_below {a b : World} {row : Option Nat} (h : zW a b) : a.grownBy b row := ⟨h.os, h.tape, h.output, h.size, fun k hk _ => h.block k hk⟩
theorem markT_any (v : Value) (l : List ByteArray) (k base : Nat) (w : World) (hl : l.length <= 1000000000) (hk1 : 1 <= k) (hk : k <= 1000000000) (hv : OwnT w base v l) :
  Calls Tryz.prog 58 #[v, zI k] w fun e w' => e = .returned (zI ((k : Int) + (l.length : Int))) /\ OwnT w' base v (marksT k l.length) /\ w.grownBy w' v.ownBlock := by
 obtain ⟨n, hn⟩ := zE (l.length);have HN : Hid (l.length = n) := hn;obtain ⟨ao, cap, hva, hc⟩ : ∃ ao cap, v = zS ao l.length cap /\ (0 < l.length -> ∃ g, ao = some ⟨g, 0, none⟩) := by
  rcases hv.2 with ⟨h1, h0⟩ | ⟨g, cap, cur, hv, _⟩
  ·exact ⟨none, 0, by rw [h1, h0], fun h => by omega⟩
  ·exact ⟨some ⟨g, 0, none⟩, cap, hv, fun _ => ⟨g, rfl⟩⟩
 subst hva;rw [hn] at hc hl;have hv' : OwnT w base (zS ao n cap) l := hn ▸ hv;rw [hn];have HV : Hid (OwnT w base (zS ao n cap) l) := hv';have HC : Hid (0 < n -> ∃ g, ao = some ⟨g, 0, none⟩) := hc;clear hv hv' hc hn;go_enter Tryz.func58, Tryz.ntmps58
 go_wp2
 go_loopw [1, 5] (fun kv iv wr => ∃ (j : Nat) (L : List ByteArray), j <= n /\ kv = zI ((k : Int) + (j : Int)) /\ iv = zI j /\ Hid (L.length = n /\ (∀ i, i < j -> L.getD i ByteArray.empty = ⟨(mt (k + i)).toArray⟩) /\ OwnT wr base (zS ao n cap) L /\ w.grownBy wr (Value.slice ao n cap).ownBlock)) (fun _ iv _ => n - (intOf iv).toNat)
 case atStart => exact ⟨0, l, Nat.zero_le _, by simp, rfl, HN.out, fun i hi => by omega, HV.out, World.grownBy.refl _ _⟩
 case round =>
  obtain ⟨j, L, hj, rfl, rfl, H⟩ := hrel;by_cases hlt : j < n
  ·obtain ⟨g, hao⟩ := HC.out (by omega)
   subst hao;have hL := H.1;have hO : OwnT wr base (zS (some ⟨g, 0, none⟩) L.length cap) L := by rw [hL]; exact H.2.2.1
   have hu := hO.cell (j := j) (by omega);have hf := hO.frozen j;have hgl : g < wr.heap.size := (World.ownsRow.lt hO g rfl).2;have HX : Hid (∀ w1, zW wr w1 -> (L.set j ⟨(mt (k + j)).toArray⟩).length = n /\ (∀ i, i < j + 1 -> (L.set j ⟨(mt (k + j)).toArray⟩).getD i ByteArray.empty = ⟨(mt (k + i)).toArray⟩) /\ OwnT (w1.setCell ⟨g, j, none⟩ (zG ⟨(mt (k + j)).toArray⟩)) base (zS (some ⟨g, 0, none⟩) n cap) (L.set j ⟨(mt (k + j)).toArray⟩) /\ w.grownBy (w1.setCell ⟨g, j, none⟩ (zG ⟨(mt (k + j)).toArray⟩)) (Value.slice (some ⟨g, 0, none⟩) n cap).ownBlock) := by
    intro w1 hb1;refine ⟨by simp [hL], fun i hi => ?_, ?_, grown_trans H.2.2.2 (grown_trans (grown_below hb1) (grown_set w1 g j _))⟩
    ·rw [getT_set _ (by omega)]
     by_cases e : i = j
     ·rw [if_pos e, e]
     ·rw [if_neg e]; exact H.2.1 i (by omega)
    ·have h := (hO.stays hb1).set j ⟨(mt (k + j)).toArray⟩
     rw [List.length_set, hL] at h;exact h
   clear H hO hL;generalize L.getD j ByteArray.empty = z at *;have hji : (j : Int) < (n : Int) := by omega
   have hj0 : (0 : Int) <= (j : Int) := by omega
   have e : ((k : Int) + (j : Int)).toNat = k + j := by omega
   go_wp2_with (go_at_call 107; refine (markText_int _ _ ?_ ?_).mono ?_; omega; omega; rintro e w1 ⟨rfl, hb1⟩; have hu1 := (hb1.cell (p := ⟨g, j, none⟩) hgl).trans hu; have hf1 := (hb1.frozen (p := ⟨g, j, none⟩) hgl).trans hf);have HX1 := HX.out w1 hb1
   go_roundw
   case rel => exact ⟨j + 1, L.set j ⟨(mt (k + j)).toArray⟩, by omega, by go_num, by go_num, by first | exact HX1 | (rw [e]; exact HX1)⟩
   case measure => simp [intOf]; omega
  ·have hjn : j = n := by omega
   subst hjn;have HE : Hid (L = marksT k j) := extT_getD (by rw [H.1, marksT_len]) (fun i hi => by
    rw [H.1] at hi;rw [H.2.1 i hi, marksT_at hi])
   go_wp2
   go_ret;exact ⟨rfl, by rw [<- HE.out]; exact H.2.2.1, H.2.2.2⟩
theorem heldT_same (v : Value) (n k : Nat) (w : World) (hn : n <= 1000000000) (hk1 : 1 <= k) (hk : k <= 1000000000) (hv : TxtAt w v (marksT k n)) :
  Calls Tryz.prog 149 #[v, zI k] w fun e w' => e = .returned (zI ((k : Int) + (n : Int))) /\ zW w w' := by
 obtain ⟨ao, cap, rfl, hc⟩ := hv;rw [marksT_len];have HC : Hid (∀ j, j < n -> ∃ g, ao = some ⟨g, 0, none⟩ /\ g < w.heap.size /\ w.cell? ⟨g, j, none⟩ = some (zG ⟨(mt (k + j)).toArray⟩)) := fun j h => by
  obtain ⟨g, hg, hl, hcs⟩ := hc j (by rw [marksT_len]; exact h);rw [marksT_at h] at hcs;exact ⟨g, hg, hl, hcs⟩
 clear hc;go_enter Tryz.func149, Tryz.ntmps149
 go_wp2
 go_loopw [1, 5] (fun kv iv wr => ∃ j : Nat, j <= n /\ kv = zI ((k : Int) + (j : Int)) /\ iv = zI j /\ zW w wr) (fun _ iv _ => n - (intOf iv).toNat)
 case atStart => exact ⟨0, Nat.zero_le _, by simp, rfl, Below.refl _ _⟩
 case round =>
  obtain ⟨j, hj, rfl, rfl, hbel⟩ := hrel;have hsz := hbel.size;by_cases hlt : j < n
  ·obtain ⟨g, hao, hgl, hcs⟩ := HC.out j hlt
   subst hao;have hu : wr.cell? ⟨g, j, none⟩ = some (zG ⟨(mt (k + j)).toArray⟩) := (hbel.cell (p := ⟨g, j, none⟩) hgl).trans hcs;have hgr : g < wr.heap.size := by omega
   have hji : (j : Int) < (n : Int) := by omega
   have hj0 : (0 : Int) <= (j : Int) := by omega
   clear hcs;have he : ((k : Int) + (j : Int)).toNat = k + j := by omega
   go_wp2_with fail
   go_region_held3 (fun w' => w'.cell? ⟨g, j, none⟩ = some (zG ⟨(mt (k + j)).toArray⟩)) (first | go_keep | exact (hb1.cell (p := ⟨g, j, none⟩) hgr).trans hu) ((go_at_call 107; refine (markText_int _ _ ?_ ?_).mono ?_; omega; omega; rintro e w1 ⟨rfl, hb1⟩))
   all_goals
    have hb2 : zW w w1 := hbel.drew.trans (hb1.mono hsz)
    go_wp2
    go_roundw
    case rel => exact ⟨j + 1, by omega, by go_num, by go_num, hb2⟩
    case measure => simp [intOf]; omega
  ·have hjn : j = n := by omega
   subst hjn
   go_wp2
   go_ret;exact ⟨rfl, hbel⟩
end Go.Proofs.YtabfamhaihnccaaGreat
