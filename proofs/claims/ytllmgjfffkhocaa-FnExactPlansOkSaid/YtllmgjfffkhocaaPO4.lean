/-
  Texts of the proof.
-/
import Derived.Deep.RegionHeld3
import Derived.Laws.StructEq
import Derived.Laws.Rows
import Derived.OwnWalk
import Derived.Laws.OwnMore
import Derived.Test.YtllmgjfffkhocaaPO3
set_option maxRecDepth 100000
set_option maxHeartbeats 25600000
namespace Go.Proofs.Ytllmgjfffkhocaa
open Go.RowKit
set_option linter.unusedVariables false
def Blk (w : World) (b : Nat) (t : TypeId) (vs : Array Value) : Prop := w.heap[b]? = some (.cells vs t (0, 0))
theorem Blk.lt {w : World} {b : Nat} {t : TypeId} {vs : Array Value} (h : Blk w b t vs) : b < w.heap.size := by
 rcases Nat.lt_or_ge b w.heap.size with h1 | h1
 ·exact h1
 ·unfold Blk at h; rw [Array.getElem?_eq_none h1] at h; cases h
theorem Blk.below {w w' : World} {b : Nat} {t : TypeId} {vs : Array Value} (h : Blk w b t vs) {B : Nat} (hb : Below B w w') (hB : b < B) : Blk w' b t vs := (hb.block b hB).trans h
theorem Blk.other {w : World} {b : Nat} {t : TypeId} {vs : Array Value} (h : Blk w b t vs) {p : Addr} (v : Value) (hp : b ≠ p.block) : Blk (w.setCell p v) b t vs := (heap_setCell_other _ _ _ _ hp).trans h
theorem Blk.set {w : World} {b : Nat} {t : TypeId} {vs : Array Value} (h : Blk w b t vs) (i : Nat) (v : Value) : Blk (w.setCell ⟨b, i, none⟩ v) b t (vs.setIfInBounds i v) := heap_setCell_same w b i _ t _ h
theorem size_alloc (w : World) (o : Obj) : (w.alloc o).heap.size = w.heap.size + 1 := Array.size_push _
theorem Blk.free {w : World} {b : Nat} {t : TypeId} {vs : Array Value} (h : Blk w b t vs) (j : Nat) : w.frozen? ⟨b, j, none⟩ = false := by
 unfold Blk at h
 simp [World.frozen?, h]
theorem Blk.cell {w : World} {b : Nat} {t : TypeId} {vs : Array Value} (h : Blk w b t vs) (j : Nat) : w.cell? ⟨b, j, none⟩ = vs[j]? := by
 unfold Blk at h
 simp [World.cell?, h]
theorem zc7 {w : World} {b : Nat} {t : TypeId} {a0 a1 a2 a3 a4 a5 a6 : Value} (h : Blk w b t #[a0, a1, a2, a3, a4, a5, a6]) : w.cell? ⟨b, 0, none⟩ = some a0 /\ w.cell? ⟨b, 1, none⟩ = some a1 /\ w.cell? ⟨b, 2, none⟩ = some a2 /\ w.cell? ⟨b, 3, none⟩ = some a3 /\ w.cell? ⟨b, 4, none⟩ = some a4 /\ w.cell? ⟨b, 5, none⟩ = some a5 /\ w.cell? ⟨b, 6, none⟩ = some a6 := ⟨h.cell 0, h.cell 1, h.cell 2, h.cell 3, h.cell 4, h.cell 5, h.cell 6⟩
theorem zc13 {w : World} {b : Nat} {t : TypeId} {a0 a1 a2 a3 a4 a5 a6 a7 a8 a9 a10 a11 a12 : Value} (h : Blk w b t #[a0, a1, a2, a3, a4, a5, a6, a7, a8, a9, a10, a11, a12]) : w.cell? ⟨b, 0, none⟩ = some a0 /\ w.cell? ⟨b, 1, none⟩ = some a1 /\ w.cell? ⟨b, 2, none⟩ = some a2 /\ w.cell? ⟨b, 3, none⟩ = some a3 /\ w.cell? ⟨b, 4, none⟩ = some a4 /\ w.cell? ⟨b, 5, none⟩ = some a5 /\ w.cell? ⟨b, 6, none⟩ = some a6 /\ w.cell? ⟨b, 7, none⟩ = some a7 /\ w.cell? ⟨b, 8, none⟩ = some a8 /\ w.cell? ⟨b, 9, none⟩ = some a9 /\ w.cell? ⟨b, 10, none⟩ = some a10 /\ w.cell? ⟨b, 11, none⟩ = some a11 /\ w.cell? ⟨b, 12, none⟩ = some a12 := ⟨h.cell 0, h.cell 1, h.cell 2, h.cell 3, h.cell 4, h.cell 5, h.cell 6, h.cell 7, h.cell 8, h.cell 9, h.cell 10, h.cell 11, h.cell 12⟩
theorem Blk.new (w : World) (t : TypeId) (vs : Array Value) : Blk (w.alloc (.cells vs t)) w.heap.size t vs := heap_alloc_new w _
theorem Blk.alloc {w : World} {b : Nat} {t : TypeId} {vs : Array Value} (h : Blk w b t vs) (o : Obj) : Blk (w.alloc o) b t vs := (heap_alloc_old w o h.lt).trans h
theorem OwnI.block {w w' : World} {b : Nat} {v : Value} {l : List Int} (h : OwnI w b v l) (hh : ∀ g, b <= g -> w'.heap[g]? = w.heap[g]?) : OwnI w' b v l := by
 obtain ⟨h1, h2⟩ := h
 refine ⟨h1, ?_⟩
 rcases h2 with h2 | ⟨g, cap, cur, hv, hbg, hg, r⟩
 ·exact .inl h2
 ·exact .inr ⟨g, cap, cur, hv, hbg, (hh g hbg).trans hg, r⟩
theorem OwnT.block {w w' : World} {b : Nat} {v : Value} {l : List ByteArray} (h : OwnT w b v l) (hh : ∀ g, b <= g -> w'.heap[g]? = w.heap[g]?) : OwnT w' b v l := by
 obtain ⟨h1, h2⟩ := h
 refine ⟨h1, ?_⟩
 rcases h2 with h2 | ⟨g, cap, cur, hv, hbg, hg, r⟩
 ·exact .inl h2
 ·exact .inr ⟨g, cap, cur, hv, hbg, (hh g hbg).trans hg, r⟩
theorem szIntS_any (a0 : Option Addr) (len cap : Nat) (left : Int) (w : World) (hm : len <= 9223372036854775807) (h0 : 0 <= left) (hl : left <= 1048576) :
  Calls Try.prog 49 #[.slice a0 len cap, .int .i64 left] w fun e w' => e = .returned (.int .i64 (if (len : Int) <= left then left - (len : Int) else -1)) /\ Below w.heap.size w w' := by
 have w1 : IntKind.i64.wrap (left - (len : Int)) = left - (len : Int) := by rw [IntKind.wrap_i64]; omega
 by_cases h : (len : Int) <= left
 ·have hneg : ¬ left - (len : Int) < 0 := by omega
  rw [if_pos h]
  go_enter Try.func49, Try.ntmps49
  go_wp2
  go_ret
  exact ⟨rfl, Below.refl _ _⟩
 ·have hneg : left - (len : Int) < 0 := by omega
  rw [if_neg h]
  go_enter Try.func49, Try.ntmps49
  go_wp2
  go_ret
  exact ⟨rfl, Below.refl _ _⟩
theorem toCert_any (c : Ct) (v : Value) (B : Nat) (w : World) (hl : c.pol.length <= 1048576 /\ c.per.length <= 1048576 /\ c.den.length <= 1048576) (hB : B <= w.heap.size) (ha : ArgC B w v c) :
  Calls Try.prog 74 #[v] w fun e w' => ∃ u, e = .returned u /\ OwnC w' w.heap.size u c /\ Below w.heap.size w w' := by
 obtain ⟨pa, pc, ea, ec, da, dc, rfl, h1, h2, h3⟩ := ha
 have HA : Hid (ArgAt B w pa c.pol /\ ArgT B w ea c.per /\ ArgT B w da c.den /\ c.pol.length <= 1048576 /\ c.per.length <= 1048576 /\ c.den.length <= 1048576) := ⟨h1, h2, h3, hl⟩
 clear h1 h2 h3 hl
 unfold ctV
 go_enter Try.func74, Try.ntmps74
 go_wp2_with fail
 obtain ⟨W3, hW3⟩ : ∃ W, W = ((w.alloc (Obj.cells #[.int .i64 c.serial, .string c.issuer, .string c.subject, .int .i64 c.frm, .int .i64 c.upto, .string c.key, .bool c.ca, .int .i64 c.pathLen, .int .i64 c.usage, .slice pa c.pol.length pc, .slice ea c.per.length ec, .slice da c.den.length dc, .string c.sig] 104)).alloc (Obj.cells #[.int .i64 0, .string ⟨#[]⟩, .string ⟨#[]⟩, .int .i64 0, .int .i64 0, .string ⟨#[]⟩, .bool false, .int .i64 0, .int .i64 0, .slice none 0 0, .slice none 0 0, .slice none 0 0, .string ⟨#[]⟩] 112)).alloc (Obj.cells #[.int .i64 c.serial, .string c.issuer, .string c.subject, .int .i64 c.frm, .int .i64 c.upto, .string c.key, .bool c.ca, .int .i64 c.pathLen, .int .i64 c.usage, .slice none 0 0, .slice none 0 0, .slice none 0 0, .string ⟨#[]⟩] 112) := ⟨_, rfl⟩
 change Calls _ _ _ (((w.alloc (Obj.cells #[.int .i64 c.serial, .string c.issuer, .string c.subject, .int .i64 c.frm, .int .i64 c.upto, .string c.key, .bool c.ca, .int .i64 c.pathLen, .int .i64 c.usage, .slice pa c.pol.length pc, .slice ea c.per.length ec, .slice da c.den.length dc, .string c.sig] 104)).alloc (Obj.cells #[.int .i64 0, .string ⟨#[]⟩, .string ⟨#[]⟩, .int .i64 0, .int .i64 0, .string ⟨#[]⟩, .bool false, .int .i64 0, .int .i64 0, .slice none 0 0, .slice none 0 0, .slice none 0 0, .string ⟨#[]⟩] 112)).alloc (Obj.cells #[.int .i64 c.serial, .string c.issuer, .string c.subject, .int .i64 c.frm, .int .i64 c.upto, .string c.key, .bool c.ca, .int .i64 c.pathLen, .int .i64 c.usage, .slice none 0 0, .slice none 0 0, .slice none 0 0, .string ⟨#[]⟩] 112)) _
 rw [<- hW3]
 have e0 : (w.alloc (Obj.cells #[.int .i64 c.serial, .string c.issuer, .string c.subject, .int .i64 c.frm, .int .i64 c.upto, .string c.key, .bool c.ca, .int .i64 c.pathLen, .int .i64 c.usage, .slice pa c.pol.length pc, .slice ea c.per.length ec, .slice da c.den.length dc, .string c.sig] 104)).heap.size = w.heap.size + 1 := Array.size_push _
 have e1 : ((w.alloc (Obj.cells #[.int .i64 c.serial, .string c.issuer, .string c.subject, .int .i64 c.frm, .int .i64 c.upto, .string c.key, .bool c.ca, .int .i64 c.pathLen, .int .i64 c.usage, .slice pa c.pol.length pc, .slice ea c.per.length ec, .slice da c.den.length dc, .string c.sig] 104)).alloc (Obj.cells #[.int .i64 0, .string ⟨#[]⟩, .string ⟨#[]⟩, .int .i64 0, .int .i64 0, .string ⟨#[]⟩, .bool false, .int .i64 0, .int .i64 0, .slice none 0 0, .slice none 0 0, .slice none 0 0, .string ⟨#[]⟩] 112)).heap.size = w.heap.size + 1 + 1 := by rw [size_alloc, e0]
 have H3 : Hid ((Blk W3 w.heap.size 104 #[.int .i64 c.serial, .string c.issuer, .string c.subject, .int .i64 c.frm, .int .i64 c.upto, .string c.key, .bool c.ca, .int .i64 c.pathLen, .int .i64 c.usage, .slice pa c.pol.length pc, .slice ea c.per.length ec, .slice da c.den.length dc, .string c.sig] /\ Blk W3 (w.heap.size + 1) 112 #[.int .i64 0, .string ⟨#[]⟩, .string ⟨#[]⟩, .int .i64 0, .int .i64 0, .string ⟨#[]⟩, .bool false, .int .i64 0, .int .i64 0, .slice none 0 0, .slice none 0 0, .slice none 0 0, .string ⟨#[]⟩] /\ Blk W3 (w.heap.size + 1 + 1) 112 #[.int .i64 c.serial, .string c.issuer, .string c.subject, .int .i64 c.frm, .int .i64 c.upto, .string c.key, .bool c.ca, .int .i64 c.pathLen, .int .i64 c.usage, .slice none 0 0, .slice none 0 0, .slice none 0 0, .string ⟨#[]⟩] /\ Below w.heap.size w W3) /\ W3.heap.size = w.heap.size + 1 + 1 + 1) := by
  rw [hW3]
  refine ⟨⟨((Blk.new w _ _).alloc _).alloc _, ?_, ?_, (((Below.refl _ _).alloc (Nat.le_refl _) _).alloc (by rw [e0]; omega) _).alloc (by rw [e1]; omega) _⟩, by rw [size_alloc, e1]⟩
  ·have h := (Blk.new (w.alloc (Obj.cells #[.int .i64 c.serial, .string c.issuer, .string c.subject, .int .i64 c.frm, .int .i64 c.upto, .string c.key, .bool c.ca, .int .i64 c.pathLen, .int .i64 c.usage, .slice pa c.pol.length pc, .slice ea c.per.length ec, .slice da c.den.length dc, .string c.sig] 104)) 112 #[.int .i64 0, .string ⟨#[]⟩, .string ⟨#[]⟩, .int .i64 0, .int .i64 0, .string ⟨#[]⟩, .bool false, .int .i64 0, .int .i64 0, .slice none 0 0, .slice none 0 0, .slice none 0 0, .string ⟨#[]⟩]).alloc (Obj.cells #[.int .i64 c.serial, .string c.issuer, .string c.subject, .int .i64 c.frm, .int .i64 c.upto, .string c.key, .bool c.ca, .int .i64 c.pathLen, .int .i64 c.usage, .slice none 0 0, .slice none 0 0, .slice none 0 0, .string ⟨#[]⟩] 112)
   rw [e0] at h
   exact h
  ·have h := Blk.new ((w.alloc (Obj.cells #[.int .i64 c.serial, .string c.issuer, .string c.subject, .int .i64 c.frm, .int .i64 c.upto, .string c.key, .bool c.ca, .int .i64 c.pathLen, .int .i64 c.usage, .slice pa c.pol.length pc, .slice ea c.per.length ec, .slice da c.den.length dc, .string c.sig] 104)).alloc (Obj.cells #[.int .i64 0, .string ⟨#[]⟩, .string ⟨#[]⟩, .int .i64 0, .int .i64 0, .string ⟨#[]⟩, .bool false, .int .i64 0, .int .i64 0, .slice none 0 0, .slice none 0 0, .slice none 0 0, .string ⟨#[]⟩] 112)) 112 #[.int .i64 c.serial, .string c.issuer, .string c.subject, .int .i64 c.frm, .int .i64 c.upto, .string c.key, .bool c.ca, .int .i64 c.pathLen, .int .i64 c.usage, .slice none 0 0, .slice none 0 0, .slice none 0 0, .string ⟨#[]⟩]
   rw [e1] at h
   exact h
 clear hW3 e0 e1
 have G0 : Hid ((Blk W3 w.heap.size 104 #[.int .i64 c.serial, .string c.issuer, .string c.subject, .int .i64 c.frm, .int .i64 c.upto, .string c.key, .bool c.ca, .int .i64 c.pathLen, .int .i64 c.usage, .slice pa c.pol.length pc, .slice ea c.per.length ec, .slice da c.den.length dc, .string c.sig] /\ Blk W3 (w.heap.size + 1) 112 #[.int .i64 0, .string ⟨#[]⟩, .string ⟨#[]⟩, .int .i64 0, .int .i64 0, .string ⟨#[]⟩, .bool false, .int .i64 0, .int .i64 0, .slice none 0 0, .slice none 0 0, .slice none 0 0, .string ⟨#[]⟩] /\ Blk W3 (w.heap.size + 1 + 1) 112 #[.int .i64 c.serial, .string c.issuer, .string c.subject, .int .i64 c.frm, .int .i64 c.upto, .string c.key, .bool c.ca, .int .i64 c.pathLen, .int .i64 c.usage, .slice none 0 0, .slice none 0 0, .slice none 0 0, .string ⟨#[]⟩] /\ Below w.heap.size w W3) /\ w.heap.size + 1 + 1 + 1 <= W3.heap.size /\ True) := ⟨H3.out.1, by have := H3.out.2; omega, trivial⟩
 clear H3
 have wd1 : w.heap.size ≠ w.heap.size + 1 + 1 := by omega
 have wd2 : w.heap.size + 1 ≠ w.heap.size + 1 + 1 := by omega
 refine (toIntS_any pa c.pol c.pol.length pc B W3 rfl HA.out.2.2.2.1 (Nat.le_trans hB G0.out.1.2.2.2.size) (HA.out.1.below (G0.out.1.2.2.2.mono hB))).mono ?_
 rintro r u0 ⟨p, rfl, op, hb⟩
 have F0 : Hid ((Blk u0 w.heap.size 104 #[.int .i64 c.serial, .string c.issuer, .string c.subject, .int .i64 c.frm, .int .i64 c.upto, .string c.key, .bool c.ca, .int .i64 c.pathLen, .int .i64 c.usage, .slice pa c.pol.length pc, .slice ea c.per.length ec, .slice da c.den.length dc, .string c.sig] /\ Blk u0 (w.heap.size + 1) 112 #[.int .i64 0, .string ⟨#[]⟩, .string ⟨#[]⟩, .int .i64 0, .int .i64 0, .string ⟨#[]⟩, .bool false, .int .i64 0, .int .i64 0, .slice none 0 0, .slice none 0 0, .slice none 0 0, .string ⟨#[]⟩] /\ Blk u0 (w.heap.size + 1 + 1) 112 #[.int .i64 c.serial, .string c.issuer, .string c.subject, .int .i64 c.frm, .int .i64 c.upto, .string c.key, .bool c.ca, .int .i64 c.pathLen, .int .i64 c.usage, .slice none 0 0, .slice none 0 0, .slice none 0 0, .string ⟨#[]⟩] /\ Below w.heap.size w u0) /\ w.heap.size + 1 + 1 + 1 <= u0.heap.size /\ OwnI u0 (w.heap.size + 1 + 1 + 1) p c.pol) := by
  have hz := G0.out.2.1
  exact ⟨⟨G0.out.1.1.below hb (by omega), G0.out.1.2.1.below hb (by omega), G0.out.1.2.2.1.below hb (by omega), G0.out.1.2.2.2.trans (hb.mono G0.out.1.2.2.2.size)⟩, Nat.le_trans hz hb.size, op.base hz⟩
 clear op hb G0
 obtain ⟨tp, htp⟩ := zE (p)
 have fr := fun j => F0.out.1.2.2.1.free j
 clear htp tp
 obtain ⟨qp, mp, hsp⟩ : ∃ ao cap, p = .slice ao c.pol.length cap := by obtain ⟨ao, cap, h, _⟩ := (F0.out.2.2).at; exact ⟨ao, cap, h⟩
 obtain ⟨lp, hlp⟩ := zE (c.pol.length)
 rw [hlp] at hsp
 have HLp : Hid (p = .slice qp lp mp) := hsp
 clear hlp
 subst hsp
 clear HLp
 have ca : u0.cell? ⟨w.heap.size, 10, none⟩ = some (.slice ea c.per.length ec) := F0.out.1.1.cell 10
 have cg : u0.cell? ⟨w.heap.size + 1 + 1, 9, none⟩ = some (.slice none 0 0) := F0.out.1.2.2.1.cell 9
 go_wp2_with fail
 obtain ⟨V0, hV⟩ : ∃ V, V = u0.setCell ⟨w.heap.size + 1 + 1, 9, none⟩ (.slice qp lp mp) := ⟨_, rfl⟩
 rw [<- hV]
 have G1 : Hid ((Blk V0 w.heap.size 104 #[.int .i64 c.serial, .string c.issuer, .string c.subject, .int .i64 c.frm, .int .i64 c.upto, .string c.key, .bool c.ca, .int .i64 c.pathLen, .int .i64 c.usage, .slice pa c.pol.length pc, .slice ea c.per.length ec, .slice da c.den.length dc, .string c.sig] /\ Blk V0 (w.heap.size + 1) 112 #[.int .i64 0, .string ⟨#[]⟩, .string ⟨#[]⟩, .int .i64 0, .int .i64 0, .string ⟨#[]⟩, .bool false, .int .i64 0, .int .i64 0, .slice none 0 0, .slice none 0 0, .slice none 0 0, .string ⟨#[]⟩] /\ Blk V0 (w.heap.size + 1 + 1) 112 #[.int .i64 c.serial, .string c.issuer, .string c.subject, .int .i64 c.frm, .int .i64 c.upto, .string c.key, .bool c.ca, .int .i64 c.pathLen, .int .i64 c.usage, .slice qp lp mp, .slice none 0 0, .slice none 0 0, .string ⟨#[]⟩] /\ Below w.heap.size w V0) /\ w.heap.size + 1 + 1 + 1 <= V0.heap.size /\ OwnI V0 (w.heap.size + 1 + 1 + 1) (.slice qp lp mp) c.pol) := by
  have hbs : Below (w.heap.size + 1 + 1) u0 V0 := by rw [hV]; exact (Below.refl _ _).setCell (p := ⟨w.heap.size + 1 + 1, 9, none⟩) (Nat.le_refl _) _
  have hot : ∀ b, w.heap.size + 1 + 1 + 1 <= b -> V0.heap[b]? = u0.heap[b]? := fun b hb => by rw [hV]; exact heap_setCell_other _ _ _ _ (by show b ≠ w.heap.size + 1 + 1; omega)
  refine ⟨⟨F0.out.1.1.below hbs (by omega), F0.out.1.2.1.below hbs (by omega), by rw [hV]; exact F0.out.1.2.2.1.set 9 _, F0.out.1.2.2.2.trans (hbs.mono (by omega))⟩, Nat.le_trans F0.out.2.1 hbs.size, ?_⟩
  exact F0.out.2.2.block hot
 clear hV F0 fr ca cg
 refine (toStringS_any ea c.per c.per.length ec B V0 rfl HA.out.2.2.2.2.1 (Nat.le_trans hB G1.out.1.2.2.2.size) (HA.out.2.1.below (G1.out.1.2.2.2.mono hB))).mono ?_
 rintro r u1 ⟨e, rfl, oe, hb⟩
 have F1 : Hid ((Blk u1 w.heap.size 104 #[.int .i64 c.serial, .string c.issuer, .string c.subject, .int .i64 c.frm, .int .i64 c.upto, .string c.key, .bool c.ca, .int .i64 c.pathLen, .int .i64 c.usage, .slice pa c.pol.length pc, .slice ea c.per.length ec, .slice da c.den.length dc, .string c.sig] /\ Blk u1 (w.heap.size + 1) 112 #[.int .i64 0, .string ⟨#[]⟩, .string ⟨#[]⟩, .int .i64 0, .int .i64 0, .string ⟨#[]⟩, .bool false, .int .i64 0, .int .i64 0, .slice none 0 0, .slice none 0 0, .slice none 0 0, .string ⟨#[]⟩] /\ Blk u1 (w.heap.size + 1 + 1) 112 #[.int .i64 c.serial, .string c.issuer, .string c.subject, .int .i64 c.frm, .int .i64 c.upto, .string c.key, .bool c.ca, .int .i64 c.pathLen, .int .i64 c.usage, .slice qp lp mp, .slice none 0 0, .slice none 0 0, .string ⟨#[]⟩] /\ Below w.heap.size w u1) /\ w.heap.size + 1 + 1 + 1 <= u1.heap.size /\ OwnI u1 (w.heap.size + 1 + 1 + 1) (.slice qp lp mp) c.pol /\ OwnT u1 (w.heap.size + 1 + 1 + 1) e c.per /\ (Ap (.slice qp lp mp) e /\ Ap e (.slice qp lp mp))) := by
  have hz := G1.out.2.1
  exact ⟨⟨G1.out.1.1.below hb (by omega), G1.out.1.2.1.below hb (by omega), G1.out.1.2.2.1.below hb (by omega), G1.out.1.2.2.2.trans (hb.mono G1.out.1.2.2.2.size)⟩, Nat.le_trans hz hb.size, G1.out.2.2.stays hb, oe.base hz, rows_apart G1.out.2.2 oe (Nat.le_refl _)⟩
 clear oe hb G1
 obtain ⟨te, hte⟩ := zE (e)
 have fr := fun j => F1.out.1.2.2.1.free j
 clear hte te
 obtain ⟨qe, me, hse⟩ : ∃ ao cap, e = .slice ao c.per.length cap := by obtain ⟨ao, cap, h, _⟩ := (F1.out.2.2.2.1).at; exact ⟨ao, cap, h⟩
 obtain ⟨le, hle⟩ := zE (c.per.length)
 rw [hle] at hse
 have HLe : Hid (e = .slice qe le me) := hse
 clear hle
 subst hse
 clear HLe
 have ca : u1.cell? ⟨w.heap.size, 11, none⟩ = some (.slice da c.den.length dc) := F1.out.1.1.cell 11
 have cg : u1.cell? ⟨w.heap.size + 1 + 1, 10, none⟩ = some (.slice none 0 0) := F1.out.1.2.2.1.cell 10
 go_wp2_with fail
 obtain ⟨V1, hV⟩ : ∃ V, V = u1.setCell ⟨w.heap.size + 1 + 1, 10, none⟩ (.slice qe le me) := ⟨_, rfl⟩
 rw [<- hV]
 have G2 : Hid ((Blk V1 w.heap.size 104 #[.int .i64 c.serial, .string c.issuer, .string c.subject, .int .i64 c.frm, .int .i64 c.upto, .string c.key, .bool c.ca, .int .i64 c.pathLen, .int .i64 c.usage, .slice pa c.pol.length pc, .slice ea c.per.length ec, .slice da c.den.length dc, .string c.sig] /\ Blk V1 (w.heap.size + 1) 112 #[.int .i64 0, .string ⟨#[]⟩, .string ⟨#[]⟩, .int .i64 0, .int .i64 0, .string ⟨#[]⟩, .bool false, .int .i64 0, .int .i64 0, .slice none 0 0, .slice none 0 0, .slice none 0 0, .string ⟨#[]⟩] /\ Blk V1 (w.heap.size + 1 + 1) 112 #[.int .i64 c.serial, .string c.issuer, .string c.subject, .int .i64 c.frm, .int .i64 c.upto, .string c.key, .bool c.ca, .int .i64 c.pathLen, .int .i64 c.usage, .slice qp lp mp, .slice qe le me, .slice none 0 0, .string ⟨#[]⟩] /\ Below w.heap.size w V1) /\ w.heap.size + 1 + 1 + 1 <= V1.heap.size /\ OwnI V1 (w.heap.size + 1 + 1 + 1) (.slice qp lp mp) c.pol /\ OwnT V1 (w.heap.size + 1 + 1 + 1) (.slice qe le me) c.per /\ (Ap (.slice qp lp mp) (.slice qe le me) /\ Ap (.slice qe le me) (.slice qp lp mp))) := by
  have hbs : Below (w.heap.size + 1 + 1) u1 V1 := by rw [hV]; exact (Below.refl _ _).setCell (p := ⟨w.heap.size + 1 + 1, 10, none⟩) (Nat.le_refl _) _
  have hot : ∀ b, w.heap.size + 1 + 1 + 1 <= b -> V1.heap[b]? = u1.heap[b]? := fun b hb => by rw [hV]; exact heap_setCell_other _ _ _ _ (by show b ≠ w.heap.size + 1 + 1; omega)
  refine ⟨⟨F1.out.1.1.below hbs (by omega), F1.out.1.2.1.below hbs (by omega), by rw [hV]; exact F1.out.1.2.2.1.set 10 _, F1.out.1.2.2.2.trans (hbs.mono (by omega))⟩, Nat.le_trans F1.out.2.1 hbs.size, ?_⟩
  exact ⟨F1.out.2.2.1.block hot, F1.out.2.2.2.1.block hot, F1.out.2.2.2.2⟩
 clear hV F1 fr ca cg
 refine (toStringS_any da c.den c.den.length dc B V1 rfl HA.out.2.2.2.2.2 (Nat.le_trans hB G2.out.1.2.2.2.size) (HA.out.2.2.1.below (G2.out.1.2.2.2.mono hB))).mono ?_
 rintro r u2 ⟨d, rfl, od, hb⟩
 have F2 : Hid ((Blk u2 w.heap.size 104 #[.int .i64 c.serial, .string c.issuer, .string c.subject, .int .i64 c.frm, .int .i64 c.upto, .string c.key, .bool c.ca, .int .i64 c.pathLen, .int .i64 c.usage, .slice pa c.pol.length pc, .slice ea c.per.length ec, .slice da c.den.length dc, .string c.sig] /\ Blk u2 (w.heap.size + 1) 112 #[.int .i64 0, .string ⟨#[]⟩, .string ⟨#[]⟩, .int .i64 0, .int .i64 0, .string ⟨#[]⟩, .bool false, .int .i64 0, .int .i64 0, .slice none 0 0, .slice none 0 0, .slice none 0 0, .string ⟨#[]⟩] /\ Blk u2 (w.heap.size + 1 + 1) 112 #[.int .i64 c.serial, .string c.issuer, .string c.subject, .int .i64 c.frm, .int .i64 c.upto, .string c.key, .bool c.ca, .int .i64 c.pathLen, .int .i64 c.usage, .slice qp lp mp, .slice qe le me, .slice none 0 0, .string ⟨#[]⟩] /\ Below w.heap.size w u2) /\ w.heap.size + 1 + 1 + 1 <= u2.heap.size /\ OwnI u2 (w.heap.size + 1 + 1 + 1) (.slice qp lp mp) c.pol /\ OwnT u2 (w.heap.size + 1 + 1 + 1) (.slice qe le me) c.per /\ OwnT u2 (w.heap.size + 1 + 1 + 1) d c.den /\ (Ap (.slice qp lp mp) (.slice qe le me) /\ Ap (.slice qe le me) (.slice qp lp mp)) /\ (Ap (.slice qp lp mp) d /\ Ap d (.slice qp lp mp)) /\ (Ap (.slice qe le me) d /\ Ap d (.slice qe le me))) := by
  have hz := G2.out.2.1
  exact ⟨⟨G2.out.1.1.below hb (by omega), G2.out.1.2.1.below hb (by omega), G2.out.1.2.2.1.below hb (by omega), G2.out.1.2.2.2.trans (hb.mono G2.out.1.2.2.2.size)⟩, Nat.le_trans hz hb.size, G2.out.2.2.1.stays hb, G2.out.2.2.2.1.stays hb, od.base hz, G2.out.2.2.2.2, rows_apart G2.out.2.2.1 od (Nat.le_refl _), rows_apart G2.out.2.2.2.1 od (Nat.le_refl _)⟩
 clear od hb G2
 obtain ⟨td, htd⟩ := zE (d)
 have fr := fun j => F2.out.1.2.2.1.free j
 clear htd td
 obtain ⟨qd, md, hsd⟩ : ∃ ao cap, d = .slice ao c.den.length cap := by obtain ⟨ao, cap, h, _⟩ := (F2.out.2.2.2.2.1).at; exact ⟨ao, cap, h⟩
 obtain ⟨ld, hld⟩ := zE (c.den.length)
 rw [hld] at hsd
 have HLd : Hid (d = .slice qd ld md) := hsd
 clear hld
 subst hsd
 clear HLd
 have f1 := fun j => F2.out.1.2.1.free j
 have ca : u2.cell? ⟨w.heap.size, 12, none⟩ = some (.string c.sig) := F2.out.1.1.cell 12
 have c10 : u2.cell? ⟨w.heap.size + 1, 0, none⟩ = some (.int .i64 0) := F2.out.1.2.1.cell 0
 have c20 : u2.cell? ⟨w.heap.size + 1 + 1, 0, none⟩ = some (.int .i64 c.serial) := F2.out.1.2.2.1.cell 0
 have c11 : u2.cell? ⟨w.heap.size + 1, 1, none⟩ = some (.string ⟨#[]⟩) := F2.out.1.2.1.cell 1
 have c21 : u2.cell? ⟨w.heap.size + 1 + 1, 1, none⟩ = some (.string c.issuer) := F2.out.1.2.2.1.cell 1
 have c12 : u2.cell? ⟨w.heap.size + 1, 2, none⟩ = some (.string ⟨#[]⟩) := F2.out.1.2.1.cell 2
 have c22 : u2.cell? ⟨w.heap.size + 1 + 1, 2, none⟩ = some (.string c.subject) := F2.out.1.2.2.1.cell 2
 have c13 : u2.cell? ⟨w.heap.size + 1, 3, none⟩ = some (.int .i64 0) := F2.out.1.2.1.cell 3
 have c23 : u2.cell? ⟨w.heap.size + 1 + 1, 3, none⟩ = some (.int .i64 c.frm) := F2.out.1.2.2.1.cell 3
 have c14 : u2.cell? ⟨w.heap.size + 1, 4, none⟩ = some (.int .i64 0) := F2.out.1.2.1.cell 4
 have c24 : u2.cell? ⟨w.heap.size + 1 + 1, 4, none⟩ = some (.int .i64 c.upto) := F2.out.1.2.2.1.cell 4
 have c15 : u2.cell? ⟨w.heap.size + 1, 5, none⟩ = some (.string ⟨#[]⟩) := F2.out.1.2.1.cell 5
 have c25 : u2.cell? ⟨w.heap.size + 1 + 1, 5, none⟩ = some (.string c.key) := F2.out.1.2.2.1.cell 5
 have c16 : u2.cell? ⟨w.heap.size + 1, 6, none⟩ = some (.bool false) := F2.out.1.2.1.cell 6
 have c26 : u2.cell? ⟨w.heap.size + 1 + 1, 6, none⟩ = some (.bool c.ca) := F2.out.1.2.2.1.cell 6
 have c17 : u2.cell? ⟨w.heap.size + 1, 7, none⟩ = some (.int .i64 0) := F2.out.1.2.1.cell 7
 have c27 : u2.cell? ⟨w.heap.size + 1 + 1, 7, none⟩ = some (.int .i64 c.pathLen) := F2.out.1.2.2.1.cell 7
 have c18 : u2.cell? ⟨w.heap.size + 1, 8, none⟩ = some (.int .i64 0) := F2.out.1.2.1.cell 8
 have c28 : u2.cell? ⟨w.heap.size + 1 + 1, 8, none⟩ = some (.int .i64 c.usage) := F2.out.1.2.2.1.cell 8
 have c19 : u2.cell? ⟨w.heap.size + 1, 9, none⟩ = some (.slice none 0 0) := F2.out.1.2.1.cell 9
 have c29 : u2.cell? ⟨w.heap.size + 1 + 1, 9, none⟩ = some (.slice qp lp mp) := F2.out.1.2.2.1.cell 9
 have c110 : u2.cell? ⟨w.heap.size + 1, 10, none⟩ = some (.slice none 0 0) := F2.out.1.2.1.cell 10
 have c210 : u2.cell? ⟨w.heap.size + 1 + 1, 10, none⟩ = some (.slice qe le me) := F2.out.1.2.2.1.cell 10
 have c111 : u2.cell? ⟨w.heap.size + 1, 11, none⟩ = some (.slice none 0 0) := F2.out.1.2.1.cell 11
 have c211 : u2.cell? ⟨w.heap.size + 1 + 1, 11, none⟩ = some (.slice none 0 0) := F2.out.1.2.2.1.cell 11
 have c112 : u2.cell? ⟨w.heap.size + 1, 12, none⟩ = some (.string ⟨#[]⟩) := F2.out.1.2.1.cell 12
 have c212 : u2.cell? ⟨w.heap.size + 1 + 1, 12, none⟩ = some (.string ⟨#[]⟩) := F2.out.1.2.2.1.cell 12
 go_wp2_with fail
 refine bodyPost_ret (v := ctV c (.slice qp lp mp) (.slice qe le me) (.slice qd ld md)) (by simp [results, Try.results74, go_sem, ctV, c10, c11, c12, c13, c14, c15, c16, c17, c18, c19, c110, c111, c112]) rfl ⟨_, rfl, ⟨_, _, _, rfl, (F2.out.2.2.1.block ?far).base (by omega), (F2.out.2.2.2.1.block ?far).base (by omega), (F2.out.2.2.2.2.1.block ?far).base (by omega), F2.out.2.2.2.2.2.1, F2.out.2.2.2.2.2.2.1, F2.out.2.2.2.2.2.2.2⟩, ?bel⟩
 case far =>
  intro b hb
  iterate 15 rw [heap_setCell_other _ _ _ _ (by first | (show b ≠ w.heap.size + 1; omega) | (show b ≠ w.heap.size + 1 + 1; omega))]
 case bel =>
  iterate 15 refine Below.setCell ?_ (by first | (show w.heap.size <= w.heap.size + 1; omega) | (show w.heap.size <= w.heap.size + 1 + 1; omega)) _
  exact F2.out.1.2.2.2
end Go.Proofs.Ytllmgjfffkhocaa
namespace Go.Proofs.Ytllmgjfffkhocaa
open Go.RowKit Der
set_option linter.unusedVariables false
def Out (fp : List Nat) (w w' : World) : Prop := w'.os = w.os /\ w'.tape = w.tape /\ w'.output = w.output /\ w.heap.size <= w'.heap.size /\ ∀ b, b < w.heap.size -> b ∉ fp -> w'.heap[b]? = w.heap[b]?
theorem Out.refl (fp : List Nat) (w : World) : Out fp w w := ⟨rfl, rfl, rfl, Nat.le_refl _, fun _ _ _ => rfl⟩
theorem Out.trans {fp : List Nat} {a b c : World} (h1 : Out fp a b) (h2 : Out fp b c) : Out fp a c :=
 ⟨h2.1.trans h1.1, h2.2.1.trans h1.2.1, h2.2.2.1.trans h1.2.2.1, Nat.le_trans h1.2.2.2.1 h2.2.2.2.1, fun k hk hn => (h2.2.2.2.2 k (Nat.lt_of_lt_of_le hk h1.2.2.2.1) hn).trans (h1.2.2.2.2 k hk hn)⟩
theorem Out.setCell {fp : List Nat} {a b : World} (h : Out fp a b) (p : Addr) (v : Value) (hp : p.block ∈ fp) : Out fp a (b.setCell p v) := by
 have hb := (Below.refl 0 b).setCell (p := p) (Nat.zero_le _) v
 exact ⟨hb.os.trans h.1, hb.tape.trans h.2.1, hb.output.trans h.2.2.1, Nat.le_trans h.2.2.2.1 hb.size, fun k hk hn => by
  have hne : k ≠ p.block := fun e => hn (by rw [e]; exact hp)
  rw [heap_setCell_other b p k v hne]
  exact h.2.2.2.2 k hk hn⟩
theorem Out.below {fp : List Nat} {a b : World} {B : Nat} (h : Out fp a b) (hB : ∀ x ∈ fp, B <= x) (hs : B <= a.heap.size) : Below B a b := ⟨h.1, h.2.1, h.2.2.1, h.2.2.2.1, fun k hk => h.2.2.2.2 k (Nat.lt_of_lt_of_le hk hs) fun hm => by have := hB k hm; omega⟩
end Go.Proofs.Ytllmgjfffkhocaa
namespace Go.Proofs.Ytllmgjfffkhocaa
open Go.RowKit
set_option linter.unusedVariables false
def fpC (v : Value) : List Nat := match v with
 | .agg a => (a.getD 9 (.slice none 0 0)).ownBlock.toList ++ ((a.getD 10 (.slice none 0 0)).ownBlock.toList ++ (a.getD 11 (.slice none 0 0)).ownBlock.toList)
 | _ => []
theorem fpC_mem {c : Ct} {p e d : Value} {g : Nat} : g ∈ fpC (ctV c p e d) ↔ p.ownBlock = some g ∨ e.ownBlock = some g ∨ d.ownBlock = some g := by
 show g ∈ p.ownBlock.toList ++ (e.ownBlock.toList ++ d.ownBlock.toList) ↔ _
 simp [List.mem_append, Option.mem_toList]
theorem fpC_lt {w : World} {base : Nat} {v : Value} {c : Ct} (h : OwnC w base v c) : ∀ b ∈ fpC v, base <= b /\ b < w.heap.size := by
 obtain ⟨p, e, d, rfl, h1, h2, h3, _⟩ := h
 intro b hb
 rcases fpC_mem.1 hb with h | h | h
 ·exact World.ownsRow.lt h1 b h
 ·exact World.ownsRow.lt h2 b h
 ·exact World.ownsRow.lt h3 b h
end Go.Proofs.Ytllmgjfffkhocaa
