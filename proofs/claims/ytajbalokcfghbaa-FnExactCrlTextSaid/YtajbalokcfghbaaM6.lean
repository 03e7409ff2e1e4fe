/-
  Texts of the proof, one behind the other: CrB, RvB.
-/
import Derived.Test.YtajbalokcfghbaaM4
import Derived.Test.YtajbalokcfghbaaM5

/-
  The laws' szIntS, toCert, szCert, eqCert.
-/
namespace Go.Proofs.Ytajbalokcfghbaa
open Go.RowKit
set_option linter.unusedVariables false

/-- A block of cells that a call laid. -/
def Blk (w : World) (b : Nat) (t : TypeId) (vs : Array Value) : Prop := w.heap[b]? = some (.cells vs t (0, 0))
theorem Blk.lt {w : World} {b : Nat} {t : TypeId} {vs : Array Value} (h : Blk w b t vs) : b < w.heap.size := by
  rcases Nat.lt_or_ge b w.heap.size with h1 | h1
  · exact h1
  · unfold Blk at h; rw [Array.getElem?_eq_none h1] at h; cases h
theorem Blk.below {w w' : World} {b : Nat} {t : TypeId} {vs : Array Value} (h : Blk w b t vs) {B : Nat} (hb : Below B w w') (hB : b < B) : Blk w' b t vs := (hb.block b hB).trans h
theorem Blk.other {w : World} {b : Nat} {t : TypeId} {vs : Array Value} (h : Blk w b t vs) {p : Addr} (v : Value) (hp : b ≠ p.block) : Blk (w.setCell p v) b t vs := (heap_setCell_other _ _ _ _ hp).trans h
theorem Blk.set {w : World} {b : Nat} {t : TypeId} {vs : Array Value} (h : Blk w b t vs) (i : Nat) (v : Value) : Blk (w.setCell ⟨b, i, none⟩ v) b t (vs.setIfInBounds i v) := heap_setCell_same w b i _ t _ h
theorem size_alloc (w : World) (o : Obj) : (w.alloc o).heap.size = w.heap.size + 1 := Array.size_push _
theorem Blk.free {w : World} {b : Nat} {t : TypeId} {vs : Array Value} (h : Blk w b t vs) (j : Nat) : w.frozen? ⟨b, j, none⟩ = false := by
  unfold Blk at h
  simp [World.frozen?, h]
theorem Blk.cell {w : World} {b : Nat} {t : TypeId} {vs : Array Value} (h : Blk w b t vs) (j : Nat) : w.cell? ⟨b, j, none⟩ = vs[j]? := by
  unfold Blk at h
  simp [World.cell?, h]
theorem Blk.new (w : World) (t : TypeId) (vs : Array Value) : Blk (w.alloc (.cells vs t)) w.heap.size t vs := heap_alloc_new w _
theorem Blk.alloc {w : World} {b : Nat} {t : TypeId} {vs : Array Value} (h : Blk w b t vs) (o : Obj) : Blk (w.alloc o) b t vs := (heap_alloc_old w o h.lt).trans h

theorem OwnI.block {w w' : World} {b : Nat} {v : Value} {l : List Int} (h : OwnI w b v l) (hh : ∀ g, b ≤ g → w'.heap[g]? = w.heap[g]?) : OwnI w' b v l := by
  obtain ⟨h1, h2⟩ := h
  refine ⟨h1, ?_⟩
  rcases h2 with h2 | ⟨g, cap, cur, hv, hbg, hg, r⟩
  · exact .inl h2
  · exact .inr ⟨g, cap, cur, hv, hbg, (hh g hbg).trans hg, r⟩
theorem OwnT.block {w w' : World} {b : Nat} {v : Value} {l : List ByteArray} (h : OwnT w b v l) (hh : ∀ g, b ≤ g → w'.heap[g]? = w.heap[g]?) : OwnT w' b v l := by
  obtain ⟨h1, h2⟩ := h
  refine ⟨h1, ?_⟩
  rcases h2 with h2 | ⟨g, cap, cur, hv, hbg, hg, r⟩
  · exact .inl h2
  · exact .inr ⟨g, cap, cur, hv, hbg, (hh g hbg).trans hg, r⟩

set_option maxRecDepth 100000 in
theorem szIntS_any (a0 : Option Addr) (len cap : Nat) (left : Int) (w : World) (hm : len ≤ 9223372036854775807) (h0 : 0 ≤ left) (hl : left ≤ 1048576) :
    Calls Try.prog 34 #[.slice a0 len cap, .int .i64 left] w fun e w' => e = .returned (.int .i64 (if (len : Int) ≤ left then left - (len : Int) else -1)) ∧ Below w.heap.size w w' := by
  have w1 : IntKind.i64.wrap (left - (len : Int)) = left - (len : Int) := by rw [IntKind.wrap_i64]; omega
  by_cases h : (len : Int) ≤ left
  · have hneg : ¬ left - (len : Int) < 0 := by omega
    rw [if_pos h]
    go_enter Try.func34, Try.ntmps34
    go_wp2
    go_ret
    exact ⟨rfl, Below.refl _ _⟩
  · have hneg : left - (len : Int) < 0 := by omega
    rw [if_neg h]
    go_enter Try.func34, Try.ntmps34
    go_wp2
    go_ret
    exact ⟨rfl, Below.refl _ _⟩
set_option maxHeartbeats 6400000 in
set_option maxRecDepth 100000 in
theorem toCert_any (c : Ct) (v : Value) (B : Nat) (w : World) (hl : c.pol.length ≤ 1048576 ∧ c.per.length ≤ 1048576 ∧ c.den.length ≤ 1048576) (hB : B ≤ w.heap.size) (ha : ArgC B w v c) :
    Calls Try.prog 12 #[v] w fun e w' => ∃ u, e = .returned u ∧ OwnC w' w.heap.size u c ∧ Below w.heap.size w w' := by
  obtain ⟨pa, pc, ea, ec, da, dc, rfl, h1, h2, h3⟩ := ha
  have HA : Hid (ArgAt B w pa c.pol ∧ ArgT B w ea c.per ∧ ArgT B w da c.den ∧ c.pol.length ≤ 1048576 ∧ c.per.length ≤ 1048576 ∧ c.den.length ≤ 1048576) := ⟨h1, h2, h3, hl⟩
  clear h1 h2 h3 hl
  unfold ctV
  go_enter Try.func12, Try.ntmps12
  go_wp2_with fail
  obtain ⟨W3, hW3⟩ : ∃ W, W = ((w.alloc (Obj.cells #[.int .i64 c.serial, .string c.issuer, .string c.subject, .int .i64 c.frm, .int .i64 c.upto, .string c.key, .bool c.ca, .int .i64 c.pathLen, .int .i64 c.usage, .slice pa c.pol.length pc, .slice ea c.per.length ec, .slice da c.den.length dc, .string c.sig] 25)).alloc (Obj.cells #[.int .i64 0, .string ⟨#[]⟩, .string ⟨#[]⟩, .int .i64 0, .int .i64 0, .string ⟨#[]⟩, .bool false, .int .i64 0, .int .i64 0, .slice none 0 0, .slice none 0 0, .slice none 0 0, .string ⟨#[]⟩] 29)).alloc (Obj.cells #[.int .i64 c.serial, .string c.issuer, .string c.subject, .int .i64 c.frm, .int .i64 c.upto, .string c.key, .bool c.ca, .int .i64 c.pathLen, .int .i64 c.usage, .slice none 0 0, .slice none 0 0, .slice none 0 0, .string ⟨#[]⟩] 29) := ⟨_, rfl⟩
  change Calls _ _ _ (((w.alloc (Obj.cells #[.int .i64 c.serial, .string c.issuer, .string c.subject, .int .i64 c.frm, .int .i64 c.upto, .string c.key, .bool c.ca, .int .i64 c.pathLen, .int .i64 c.usage, .slice pa c.pol.length pc, .slice ea c.per.length ec, .slice da c.den.length dc, .string c.sig] 25)).alloc (Obj.cells #[.int .i64 0, .string ⟨#[]⟩, .string ⟨#[]⟩, .int .i64 0, .int .i64 0, .string ⟨#[]⟩, .bool false, .int .i64 0, .int .i64 0, .slice none 0 0, .slice none 0 0, .slice none 0 0, .string ⟨#[]⟩] 29)).alloc (Obj.cells #[.int .i64 c.serial, .string c.issuer, .string c.subject, .int .i64 c.frm, .int .i64 c.upto, .string c.key, .bool c.ca, .int .i64 c.pathLen, .int .i64 c.usage, .slice none 0 0, .slice none 0 0, .slice none 0 0, .string ⟨#[]⟩] 29)) _
  rw [← hW3]
  have e0 : (w.alloc (Obj.cells #[.int .i64 c.serial, .string c.issuer, .string c.subject, .int .i64 c.frm, .int .i64 c.upto, .string c.key, .bool c.ca, .int .i64 c.pathLen, .int .i64 c.usage, .slice pa c.pol.length pc, .slice ea c.per.length ec, .slice da c.den.length dc, .string c.sig] 25)).heap.size = w.heap.size + 1 := Array.size_push _
  have e1 : ((w.alloc (Obj.cells #[.int .i64 c.serial, .string c.issuer, .string c.subject, .int .i64 c.frm, .int .i64 c.upto, .string c.key, .bool c.ca, .int .i64 c.pathLen, .int .i64 c.usage, .slice pa c.pol.length pc, .slice ea c.per.length ec, .slice da c.den.length dc, .string c.sig] 25)).alloc (Obj.cells #[.int .i64 0, .string ⟨#[]⟩, .string ⟨#[]⟩, .int .i64 0, .int .i64 0, .string ⟨#[]⟩, .bool false, .int .i64 0, .int .i64 0, .slice none 0 0, .slice none 0 0, .slice none 0 0, .string ⟨#[]⟩] 29)).heap.size = w.heap.size + 1 + 1 := by rw [size_alloc, e0]
  have H3 : Hid ((Blk W3 w.heap.size 25 #[.int .i64 c.serial, .string c.issuer, .string c.subject, .int .i64 c.frm, .int .i64 c.upto, .string c.key, .bool c.ca, .int .i64 c.pathLen, .int .i64 c.usage, .slice pa c.pol.length pc, .slice ea c.per.length ec, .slice da c.den.length dc, .string c.sig] ∧ Blk W3 (w.heap.size + 1) 29 #[.int .i64 0, .string ⟨#[]⟩, .string ⟨#[]⟩, .int .i64 0, .int .i64 0, .string ⟨#[]⟩, .bool false, .int .i64 0, .int .i64 0, .slice none 0 0, .slice none 0 0, .slice none 0 0, .string ⟨#[]⟩] ∧ Blk W3 (w.heap.size + 1 + 1) 29 #[.int .i64 c.serial, .string c.issuer, .string c.subject, .int .i64 c.frm, .int .i64 c.upto, .string c.key, .bool c.ca, .int .i64 c.pathLen, .int .i64 c.usage, .slice none 0 0, .slice none 0 0, .slice none 0 0, .string ⟨#[]⟩] ∧ Below w.heap.size w W3) ∧ W3.heap.size = w.heap.size + 1 + 1 + 1) := by
    rw [hW3]
    refine ⟨⟨((Blk.new w _ _).alloc _).alloc _, ?_, ?_, (((Below.refl _ _).alloc (Nat.le_refl _) _).alloc (by rw [e0]; omega) _).alloc (by rw [e1]; omega) _⟩, by rw [size_alloc, e1]⟩
    · have h := (Blk.new (w.alloc (Obj.cells #[.int .i64 c.serial, .string c.issuer, .string c.subject, .int .i64 c.frm, .int .i64 c.upto, .string c.key, .bool c.ca, .int .i64 c.pathLen, .int .i64 c.usage, .slice pa c.pol.length pc, .slice ea c.per.length ec, .slice da c.den.length dc, .string c.sig] 25)) 29 #[.int .i64 0, .string ⟨#[]⟩, .string ⟨#[]⟩, .int .i64 0, .int .i64 0, .string ⟨#[]⟩, .bool false, .int .i64 0, .int .i64 0, .slice none 0 0, .slice none 0 0, .slice none 0 0, .string ⟨#[]⟩]).alloc (Obj.cells #[.int .i64 c.serial, .string c.issuer, .string c.subject, .int .i64 c.frm, .int .i64 c.upto, .string c.key, .bool c.ca, .int .i64 c.pathLen, .int .i64 c.usage, .slice none 0 0, .slice none 0 0, .slice none 0 0, .string ⟨#[]⟩] 29)
      rw [e0] at h
      exact h
    · have h := Blk.new ((w.alloc (Obj.cells #[.int .i64 c.serial, .string c.issuer, .string c.subject, .int .i64 c.frm, .int .i64 c.upto, .string c.key, .bool c.ca, .int .i64 c.pathLen, .int .i64 c.usage, .slice pa c.pol.length pc, .slice ea c.per.length ec, .slice da c.den.length dc, .string c.sig] 25)).alloc (Obj.cells #[.int .i64 0, .string ⟨#[]⟩, .string ⟨#[]⟩, .int .i64 0, .int .i64 0, .string ⟨#[]⟩, .bool false, .int .i64 0, .int .i64 0, .slice none 0 0, .slice none 0 0, .slice none 0 0, .string ⟨#[]⟩] 29)) 29 #[.int .i64 c.serial, .string c.issuer, .string c.subject, .int .i64 c.frm, .int .i64 c.upto, .string c.key, .bool c.ca, .int .i64 c.pathLen, .int .i64 c.usage, .slice none 0 0, .slice none 0 0, .slice none 0 0, .string ⟨#[]⟩]
      rw [e1] at h
      exact h
  clear hW3 e0 e1
  have G0 : Hid ((Blk W3 w.heap.size 25 #[.int .i64 c.serial, .string c.issuer, .string c.subject, .int .i64 c.frm, .int .i64 c.upto, .string c.key, .bool c.ca, .int .i64 c.pathLen, .int .i64 c.usage, .slice pa c.pol.length pc, .slice ea c.per.length ec, .slice da c.den.length dc, .string c.sig] ∧ Blk W3 (w.heap.size + 1) 29 #[.int .i64 0, .string ⟨#[]⟩, .string ⟨#[]⟩, .int .i64 0, .int .i64 0, .string ⟨#[]⟩, .bool false, .int .i64 0, .int .i64 0, .slice none 0 0, .slice none 0 0, .slice none 0 0, .string ⟨#[]⟩] ∧ Blk W3 (w.heap.size + 1 + 1) 29 #[.int .i64 c.serial, .string c.issuer, .string c.subject, .int .i64 c.frm, .int .i64 c.upto, .string c.key, .bool c.ca, .int .i64 c.pathLen, .int .i64 c.usage, .slice none 0 0, .slice none 0 0, .slice none 0 0, .string ⟨#[]⟩] ∧ Below w.heap.size w W3) ∧ w.heap.size + 1 + 1 + 1 ≤ W3.heap.size ∧ True) := ⟨H3.out.1, by have := H3.out.2; omega, trivial⟩
  clear H3
  have wd1 : w.heap.size ≠ w.heap.size + 1 + 1 := by omega
  have wd2 : w.heap.size + 1 ≠ w.heap.size + 1 + 1 := by omega
  refine (toIntS_any pa c.pol c.pol.length pc B W3 rfl HA.out.2.2.2.1 (Nat.le_trans hB G0.out.1.2.2.2.size) (HA.out.1.below (G0.out.1.2.2.2.mono hB))).mono ?_
  rintro r u0 ⟨p, rfl, op, hb⟩
  have F0 : Hid ((Blk u0 w.heap.size 25 #[.int .i64 c.serial, .string c.issuer, .string c.subject, .int .i64 c.frm, .int .i64 c.upto, .string c.key, .bool c.ca, .int .i64 c.pathLen, .int .i64 c.usage, .slice pa c.pol.length pc, .slice ea c.per.length ec, .slice da c.den.length dc, .string c.sig] ∧ Blk u0 (w.heap.size + 1) 29 #[.int .i64 0, .string ⟨#[]⟩, .string ⟨#[]⟩, .int .i64 0, .int .i64 0, .string ⟨#[]⟩, .bool false, .int .i64 0, .int .i64 0, .slice none 0 0, .slice none 0 0, .slice none 0 0, .string ⟨#[]⟩] ∧ Blk u0 (w.heap.size + 1 + 1) 29 #[.int .i64 c.serial, .string c.issuer, .string c.subject, .int .i64 c.frm, .int .i64 c.upto, .string c.key, .bool c.ca, .int .i64 c.pathLen, .int .i64 c.usage, .slice none 0 0, .slice none 0 0, .slice none 0 0, .string ⟨#[]⟩] ∧ Below w.heap.size w u0) ∧ w.heap.size + 1 + 1 + 1 ≤ u0.heap.size ∧ OwnI u0 (w.heap.size + 1 + 1 + 1) p c.pol) := by
    have hz := G0.out.2.1
    exact ⟨⟨G0.out.1.1.below hb (by omega), G0.out.1.2.1.below hb (by omega), G0.out.1.2.2.1.below hb (by omega), G0.out.1.2.2.2.trans (hb.mono G0.out.1.2.2.2.size)⟩, Nat.le_trans hz hb.size, op.base hz⟩
  clear op hb G0
  obtain ⟨tp, htp⟩ : ∃ t, p = t := ⟨_, rfl⟩
  have fr := fun j => F0.out.1.2.2.1.free j
  clear htp tp
  obtain ⟨qp, mp, hsp⟩ : ∃ ao cap, p = .slice ao c.pol.length cap := by obtain ⟨ao, cap, h, _⟩ := (F0.out.2.2).at; exact ⟨ao, cap, h⟩
  obtain ⟨lp, hlp⟩ : ∃ l, c.pol.length = l := ⟨_, rfl⟩
  rw [hlp] at hsp
  have HLp : Hid (p = .slice qp lp mp) := hsp
  clear hlp
  subst hsp
  clear HLp
  have ca : u0.cell? ⟨w.heap.size, 10, none⟩ = some (.slice ea c.per.length ec) := F0.out.1.1.cell 10
  have cg : u0.cell? ⟨w.heap.size + 1 + 1, 9, none⟩ = some (.slice none 0 0) := F0.out.1.2.2.1.cell 9
  go_wp2_with fail
  obtain ⟨V0, hV⟩ : ∃ V, V = u0.setCell ⟨w.heap.size + 1 + 1, 9, none⟩ (.slice qp lp mp) := ⟨_, rfl⟩
  rw [← hV]
  have G1 : Hid ((Blk V0 w.heap.size 25 #[.int .i64 c.serial, .string c.issuer, .string c.subject, .int .i64 c.frm, .int .i64 c.upto, .string c.key, .bool c.ca, .int .i64 c.pathLen, .int .i64 c.usage, .slice pa c.pol.length pc, .slice ea c.per.length ec, .slice da c.den.length dc, .string c.sig] ∧ Blk V0 (w.heap.size + 1) 29 #[.int .i64 0, .string ⟨#[]⟩, .string ⟨#[]⟩, .int .i64 0, .int .i64 0, .string ⟨#[]⟩, .bool false, .int .i64 0, .int .i64 0, .slice none 0 0, .slice none 0 0, .slice none 0 0, .string ⟨#[]⟩] ∧ Blk V0 (w.heap.size + 1 + 1) 29 #[.int .i64 c.serial, .string c.issuer, .string c.subject, .int .i64 c.frm, .int .i64 c.upto, .string c.key, .bool c.ca, .int .i64 c.pathLen, .int .i64 c.usage, .slice qp lp mp, .slice none 0 0, .slice none 0 0, .string ⟨#[]⟩] ∧ Below w.heap.size w V0) ∧ w.heap.size + 1 + 1 + 1 ≤ V0.heap.size ∧ OwnI V0 (w.heap.size + 1 + 1 + 1) (.slice qp lp mp) c.pol) := by
    have hbs : Below (w.heap.size + 1 + 1) u0 V0 := by rw [hV]; exact (Below.refl _ _).setCell (p := ⟨w.heap.size + 1 + 1, 9, none⟩) (Nat.le_refl _) _
    have hot : ∀ b, w.heap.size + 1 + 1 + 1 ≤ b → V0.heap[b]? = u0.heap[b]? := fun b hb => by rw [hV]; exact heap_setCell_other _ _ _ _ (by show b ≠ w.heap.size + 1 + 1; omega)
    refine ⟨⟨F0.out.1.1.below hbs (by omega), F0.out.1.2.1.below hbs (by omega), by rw [hV]; exact F0.out.1.2.2.1.set 9 _, F0.out.1.2.2.2.trans (hbs.mono (by omega))⟩, Nat.le_trans F0.out.2.1 hbs.size, ?_⟩
    exact F0.out.2.2.block hot
  clear hV F0 fr ca cg
  refine (toStringS_any ea c.per c.per.length ec B V0 rfl HA.out.2.2.2.2.1 (Nat.le_trans hB G1.out.1.2.2.2.size) (HA.out.2.1.below (G1.out.1.2.2.2.mono hB))).mono ?_
  rintro r u1 ⟨e, rfl, oe, hb⟩
  have F1 : Hid ((Blk u1 w.heap.size 25 #[.int .i64 c.serial, .string c.issuer, .string c.subject, .int .i64 c.frm, .int .i64 c.upto, .string c.key, .bool c.ca, .int .i64 c.pathLen, .int .i64 c.usage, .slice pa c.pol.length pc, .slice ea c.per.length ec, .slice da c.den.length dc, .string c.sig] ∧ Blk u1 (w.heap.size + 1) 29 #[.int .i64 0, .string ⟨#[]⟩, .string ⟨#[]⟩, .int .i64 0, .int .i64 0, .string ⟨#[]⟩, .bool false, .int .i64 0, .int .i64 0, .slice none 0 0, .slice none 0 0, .slice none 0 0, .string ⟨#[]⟩] ∧ Blk u1 (w.heap.size + 1 + 1) 29 #[.int .i64 c.serial, .string c.issuer, .string c.subject, .int .i64 c.frm, .int .i64 c.upto, .string c.key, .bool c.ca, .int .i64 c.pathLen, .int .i64 c.usage, .slice qp lp mp, .slice none 0 0, .slice none 0 0, .string ⟨#[]⟩] ∧ Below w.heap.size w u1) ∧ w.heap.size + 1 + 1 + 1 ≤ u1.heap.size ∧ OwnI u1 (w.heap.size + 1 + 1 + 1) (.slice qp lp mp) c.pol ∧ OwnT u1 (w.heap.size + 1 + 1 + 1) e c.per ∧ (Ap (.slice qp lp mp) e ∧ Ap e (.slice qp lp mp))) := by
    have hz := G1.out.2.1
    exact ⟨⟨G1.out.1.1.below hb (by omega), G1.out.1.2.1.below hb (by omega), G1.out.1.2.2.1.below hb (by omega), G1.out.1.2.2.2.trans (hb.mono G1.out.1.2.2.2.size)⟩, Nat.le_trans hz hb.size, G1.out.2.2.stays hb, oe.base hz, rows_apart G1.out.2.2 oe (Nat.le_refl _)⟩
  clear oe hb G1
  obtain ⟨te, hte⟩ : ∃ t, e = t := ⟨_, rfl⟩
  have fr := fun j => F1.out.1.2.2.1.free j
  clear hte te
  obtain ⟨qe, me, hse⟩ : ∃ ao cap, e = .slice ao c.per.length cap := by obtain ⟨ao, cap, h, _⟩ := (F1.out.2.2.2.1).at; exact ⟨ao, cap, h⟩
  obtain ⟨le, hle⟩ : ∃ l, c.per.length = l := ⟨_, rfl⟩
  rw [hle] at hse
  have HLe : Hid (e = .slice qe le me) := hse
  clear hle
  subst hse
  clear HLe
  have ca : u1.cell? ⟨w.heap.size, 11, none⟩ = some (.slice da c.den.length dc) := F1.out.1.1.cell 11
  have cg : u1.cell? ⟨w.heap.size + 1 + 1, 10, none⟩ = some (.slice none 0 0) := F1.out.1.2.2.1.cell 10
  go_wp2_with fail
  obtain ⟨V1, hV⟩ : ∃ V, V = u1.setCell ⟨w.heap.size + 1 + 1, 10, none⟩ (.slice qe le me) := ⟨_, rfl⟩
  rw [← hV]
  have G2 : Hid ((Blk V1 w.heap.size 25 #[.int .i64 c.serial, .string c.issuer, .string c.subject, .int .i64 c.frm, .int .i64 c.upto, .string c.key, .bool c.ca, .int .i64 c.pathLen, .int .i64 c.usage, .slice pa c.pol.length pc, .slice ea c.per.length ec, .slice da c.den.length dc, .string c.sig] ∧ Blk V1 (w.heap.size + 1) 29 #[.int .i64 0, .string ⟨#[]⟩, .string ⟨#[]⟩, .int .i64 0, .int .i64 0, .string ⟨#[]⟩, .bool false, .int .i64 0, .int .i64 0, .slice none 0 0, .slice none 0 0, .slice none 0 0, .string ⟨#[]⟩] ∧ Blk V1 (w.heap.size + 1 + 1) 29 #[.int .i64 c.serial, .string c.issuer, .string c.subject, .int .i64 c.frm, .int .i64 c.upto, .string c.key, .bool c.ca, .int .i64 c.pathLen, .int .i64 c.usage, .slice qp lp mp, .slice qe le me, .slice none 0 0, .string ⟨#[]⟩] ∧ Below w.heap.size w V1) ∧ w.heap.size + 1 + 1 + 1 ≤ V1.heap.size ∧ OwnI V1 (w.heap.size + 1 + 1 + 1) (.slice qp lp mp) c.pol ∧ OwnT V1 (w.heap.size + 1 + 1 + 1) (.slice qe le me) c.per ∧ (Ap (.slice qp lp mp) (.slice qe le me) ∧ Ap (.slice qe le me) (.slice qp lp mp))) := by
    have hbs : Below (w.heap.size + 1 + 1) u1 V1 := by rw [hV]; exact (Below.refl _ _).setCell (p := ⟨w.heap.size + 1 + 1, 10, none⟩) (Nat.le_refl _) _
    have hot : ∀ b, w.heap.size + 1 + 1 + 1 ≤ b → V1.heap[b]? = u1.heap[b]? := fun b hb => by rw [hV]; exact heap_setCell_other _ _ _ _ (by show b ≠ w.heap.size + 1 + 1; omega)
    refine ⟨⟨F1.out.1.1.below hbs (by omega), F1.out.1.2.1.below hbs (by omega), by rw [hV]; exact F1.out.1.2.2.1.set 10 _, F1.out.1.2.2.2.trans (hbs.mono (by omega))⟩, Nat.le_trans F1.out.2.1 hbs.size, ?_⟩
    exact ⟨F1.out.2.2.1.block hot, F1.out.2.2.2.1.block hot, F1.out.2.2.2.2⟩
  clear hV F1 fr ca cg
  refine (toStringS_any da c.den c.den.length dc B V1 rfl HA.out.2.2.2.2.2 (Nat.le_trans hB G2.out.1.2.2.2.size) (HA.out.2.2.1.below (G2.out.1.2.2.2.mono hB))).mono ?_
  rintro r u2 ⟨d, rfl, od, hb⟩
  have F2 : Hid ((Blk u2 w.heap.size 25 #[.int .i64 c.serial, .string c.issuer, .string c.subject, .int .i64 c.frm, .int .i64 c.upto, .string c.key, .bool c.ca, .int .i64 c.pathLen, .int .i64 c.usage, .slice pa c.pol.length pc, .slice ea c.per.length ec, .slice da c.den.length dc, .string c.sig] ∧ Blk u2 (w.heap.size + 1) 29 #[.int .i64 0, .string ⟨#[]⟩, .string ⟨#[]⟩, .int .i64 0, .int .i64 0, .string ⟨#[]⟩, .bool false, .int .i64 0, .int .i64 0, .slice none 0 0, .slice none 0 0, .slice none 0 0, .string ⟨#[]⟩] ∧ Blk u2 (w.heap.size + 1 + 1) 29 #[.int .i64 c.serial, .string c.issuer, .string c.subject, .int .i64 c.frm, .int .i64 c.upto, .string c.key, .bool c.ca, .int .i64 c.pathLen, .int .i64 c.usage, .slice qp lp mp, .slice qe le me, .slice none 0 0, .string ⟨#[]⟩] ∧ Below w.heap.size w u2) ∧ w.heap.size + 1 + 1 + 1 ≤ u2.heap.size ∧ OwnI u2 (w.heap.size + 1 + 1 + 1) (.slice qp lp mp) c.pol ∧ OwnT u2 (w.heap.size + 1 + 1 + 1) (.slice qe le me) c.per ∧ OwnT u2 (w.heap.size + 1 + 1 + 1) d c.den ∧ (Ap (.slice qp lp mp) (.slice qe le me) ∧ Ap (.slice qe le me) (.slice qp lp mp)) ∧ (Ap (.slice qp lp mp) d ∧ Ap d (.slice qp lp mp)) ∧ (Ap (.slice qe le me) d ∧ Ap d (.slice qe le me))) := by
    have hz := G2.out.2.1
    exact ⟨⟨G2.out.1.1.below hb (by omega), G2.out.1.2.1.below hb (by omega), G2.out.1.2.2.1.below hb (by omega), G2.out.1.2.2.2.trans (hb.mono G2.out.1.2.2.2.size)⟩, Nat.le_trans hz hb.size, G2.out.2.2.1.stays hb, G2.out.2.2.2.1.stays hb, od.base hz, G2.out.2.2.2.2, rows_apart G2.out.2.2.1 od (Nat.le_refl _), rows_apart G2.out.2.2.2.1 od (Nat.le_refl _)⟩
  clear od hb G2
  obtain ⟨td, htd⟩ : ∃ t, d = t := ⟨_, rfl⟩
  have fr := fun j => F2.out.1.2.2.1.free j
  clear htd td
  obtain ⟨qd, md, hsd⟩ : ∃ ao cap, d = .slice ao c.den.length cap := by obtain ⟨ao, cap, h, _⟩ := (F2.out.2.2.2.2.1).at; exact ⟨ao, cap, h⟩
  obtain ⟨ld, hld⟩ : ∃ l, c.den.length = l := ⟨_, rfl⟩
  rw [hld] at hsd
  have HLd : Hid (d = .slice qd ld md) := hsd
  clear hld
  subst hsd
  clear HLd
  have f1 := fun j => F2.out.1.2.1.free j
  have ca : u2.cell? ⟨w.heap.size, 12, none⟩ = some (.string c.sig) := F2.out.1.1.cell 12
  have c10 : u2.cell? ⟨w.heap.size + 1, 0, none⟩ = some (.int .i64 0) := F2.out.1.2.1.cell 0
  have c20 : u2.cell? ⟨w.heap.size + 1 + 1, 0, none⟩ = some (.int .i64 c.serial) := F2.out.1.2.2.1.cell 0
  have c11 : u2.cell? ⟨w.heap.size + 1, 1, none⟩ = some (.string ⟨#[]⟩) := F2.out.1.2.1.cell 1
  have c21 : u2.cell? ⟨w.heap.size + 1 + 1, 1, none⟩ = some (.string c.issuer) := F2.out.1.2.2.1.cell 1
  have c12 : u2.cell? ⟨w.heap.size + 1, 2, none⟩ = some (.string ⟨#[]⟩) := F2.out.1.2.1.cell 2
  have c22 : u2.cell? ⟨w.heap.size + 1 + 1, 2, none⟩ = some (.string c.subject) := F2.out.1.2.2.1.cell 2
  have c13 : u2.cell? ⟨w.heap.size + 1, 3, none⟩ = some (.int .i64 0) := F2.out.1.2.1.cell 3
  have c23 : u2.cell? ⟨w.heap.size + 1 + 1, 3, none⟩ = some (.int .i64 c.frm) := F2.out.1.2.2.1.cell 3
  have c14 : u2.cell? ⟨w.heap.size + 1, 4, none⟩ = some (.int .i64 0) := F2.out.1.2.1.cell 4
  have c24 : u2.cell? ⟨w.heap.size + 1 + 1, 4, none⟩ = some (.int .i64 c.upto) := F2.out.1.2.2.1.cell 4
  have c15 : u2.cell? ⟨w.heap.size + 1, 5, none⟩ = some (.string ⟨#[]⟩) := F2.out.1.2.1.cell 5
  have c25 : u2.cell? ⟨w.heap.size + 1 + 1, 5, none⟩ = some (.string c.key) := F2.out.1.2.2.1.cell 5
  have c16 : u2.cell? ⟨w.heap.size + 1, 6, none⟩ = some (.bool false) := F2.out.1.2.1.cell 6
  have c26 : u2.cell? ⟨w.heap.size + 1 + 1, 6, none⟩ = some (.bool c.ca) := F2.out.1.2.2.1.cell 6
  have c17 : u2.cell? ⟨w.heap.size + 1, 7, none⟩ = some (.int .i64 0) := F2.out.1.2.1.cell 7
  have c27 : u2.cell? ⟨w.heap.size + 1 + 1, 7, none⟩ = some (.int .i64 c.pathLen) := F2.out.1.2.2.1.cell 7
  have c18 : u2.cell? ⟨w.heap.size + 1, 8, none⟩ = some (.int .i64 0) := F2.out.1.2.1.cell 8
  have c28 : u2.cell? ⟨w.heap.size + 1 + 1, 8, none⟩ = some (.int .i64 c.usage) := F2.out.1.2.2.1.cell 8
  have c19 : u2.cell? ⟨w.heap.size + 1, 9, none⟩ = some (.slice none 0 0) := F2.out.1.2.1.cell 9
  have c29 : u2.cell? ⟨w.heap.size + 1 + 1, 9, none⟩ = some (.slice qp lp mp) := F2.out.1.2.2.1.cell 9
  have c110 : u2.cell? ⟨w.heap.size + 1, 10, none⟩ = some (.slice none 0 0) := F2.out.1.2.1.cell 10
  have c210 : u2.cell? ⟨w.heap.size + 1 + 1, 10, none⟩ = some (.slice qe le me) := F2.out.1.2.2.1.cell 10
  have c111 : u2.cell? ⟨w.heap.size + 1, 11, none⟩ = some (.slice none 0 0) := F2.out.1.2.1.cell 11
  have c211 : u2.cell? ⟨w.heap.size + 1 + 1, 11, none⟩ = some (.slice none 0 0) := F2.out.1.2.2.1.cell 11
  have c112 : u2.cell? ⟨w.heap.size + 1, 12, none⟩ = some (.string ⟨#[]⟩) := F2.out.1.2.1.cell 12
  have c212 : u2.cell? ⟨w.heap.size + 1 + 1, 12, none⟩ = some (.string ⟨#[]⟩) := F2.out.1.2.2.1.cell 12
  go_wp2_with fail
  refine bodyPost_ret (v := ctV c (.slice qp lp mp) (.slice qe le me) (.slice qd ld md)) (by simp [results, Try.results12, go_sem, ctV, c10, c11, c12, c13, c14, c15, c16, c17, c18, c19, c110, c111, c112]) rfl ⟨_, rfl, ⟨_, _, _, rfl, (F2.out.2.2.1.block ?far).base (by omega), (F2.out.2.2.2.1.block ?far).base (by omega), (F2.out.2.2.2.2.1.block ?far).base (by omega), F2.out.2.2.2.2.2.1, F2.out.2.2.2.2.2.2.1, F2.out.2.2.2.2.2.2.2⟩, ?bel⟩
  case far =>
    intro b hb
    iterate 15 rw [heap_setCell_other _ _ _ _ (by first | (show b ≠ w.heap.size + 1; omega) | (show b ≠ w.heap.size + 1 + 1; omega))]
  case bel =>
    iterate 15 refine Below.setCell ?_ (by first | (show w.heap.size ≤ w.heap.size + 1; omega) | (show w.heap.size ≤ w.heap.size + 1 + 1; omega)) _
    exact F2.out.1.2.2.2
end Go.Proofs.Ytajbalokcfghbaa

/-
  The laws' helpers over what was called back: toRev, toRevS, szRevS, eqRev, eqRevS, markRevS, heldRevS.
-/
namespace Go.Proofs.Ytajbalokcfghbaa
open Go.RowKit
set_option linter.unusedVariables false

set_option maxHeartbeats 800000 in
set_option maxRecDepth 100000 in
theorem toRev_any (s r : Int) (w : World) : Calls Try.prog 104 #[.agg #[.int .i64 s, .int .i64 r]] w fun e w' => e = .returned (.agg #[.int .i64 s, .int .i64 r]) ∧ Below w.heap.size w w' := by
  go_enter Try.func104, Try.ntmps104
  go_wp2_with fail
  refine bodyPost_ret (v := .agg #[.int .i64 s, .int .i64 r]) (by simp [results, Try.results104, go_sem]) rfl ⟨rfl, ?_⟩
  have e0 := size_alloc w (Obj.cells #[.int .i64 s, .int .i64 r] 120)
  have e1 := size_alloc (w.alloc (Obj.cells #[.int .i64 s, .int .i64 r] 120)) (Obj.cells #[.int .i64 s, .int .i64 r] 84)
  exact (((Below.refl _ _).alloc (Nat.le_refl _) _).alloc (by omega) _).alloc (by omega) _
set_option maxHeartbeats 1600000 in
set_option maxRecDepth 100000 in
theorem toRevS_any (a0 : Option Addr) (l : List (Int × Int)) (len cap B : Nat) (w : World) (hlen : l.length = len) (hl : len ≤ 1048576) (hB : B ≤ w.heap.size) (ha : ArgR B w a0 l) :
    Calls Try.prog 63 #[.slice a0 len cap] w fun e w' => ∃ v, e = .returned v ∧ OwnR w' w.heap.size v l ∧ Below w.heap.size w w' := by
  obtain ⟨i0, hi, hz0, hz1, hz2⟩ := info_parts infoRev
  have HA : Hid (ArgR B w a0 l ∧ l.length = len) := ⟨ha, hlen⟩
  clear ha hlen
  obtain ⟨f, hf⟩ : ∃ f : Nat → Int × Int, (fun j => l.getD j (0, 0)) = f := ⟨_, rfl⟩
  have HF : Hid ((fun j => l.getD j (0, 0)) = f) := hf
  clear hf
  go_enter Try.func63, Try.ntmps63
  go_wp2_with (at_make; refine wpList_make_full _ rfl _ _ 42 rfl w.heap.size 84 i0 (.agg #[.int .i64 0, .int .i64 0]) 2 Try.underlying42 hi hz0 hz1 .i64 .i64 _ _ len rfl rfl ?m0 ?m1 ?m2 ?m3 ?m4 ?_)
  case m0 => simp
  case m1 => simp
  case m2 => rw [hz2]; omega
  case m3 => unfold maxLen; omega
  case m4 => exact Nat.le_refl _
  intro w1 hown hgrow
  have HO : Hid (OwnR w1 w.heap.size (.slice (some ⟨w.heap.size, 0, none⟩) (fillR f 0 len).length len) (fillR f 0 len) ∧ Below w.heap.size w w1) := by
    refine ⟨?_, (Below.refl _ _).grown hgrow (Nat.le_refl _) (fun j hj => by cases hj)⟩
    rw [fillR_zero]
    exact OwnR.of_made hown
  clear hown hgrow
  go_wp2_with fail
  go_loopw [4] (fun iv wr => ∃ k : Nat, k ≤ len ∧ iv = .int .i64 k ∧ Hid (OwnR wr w.heap.size (.slice (some ⟨w.heap.size, 0, none⟩) (fillR f k len).length len) (fillR f k len) ∧ Below w.heap.size w wr)) (fun iv _ => len - (intOf iv).toNat)
  case atStart => exact ⟨0, Nat.zero_le _, rfl, HO.out⟩
  case round =>
    obtain ⟨k, hk, rfl, H⟩ := hrel
    clear HO
    have hfl := fillR_len f k len
    by_cases hkn : k < len
    · obtain ⟨b, off, hao, hbB, hc1, hc2⟩ := HA.out.1 k (by rw [HA.out.2]; exact hkn)
      have hfk : l.getD k (0, 0) = f k := congrFun HF.out k
      rw [hfk] at hc1 hc2
      have u1 : wr.cell? ⟨b, off + k * 2, none⟩ = some (.int .i64 (f k).1) := (H.out.2.cell (p := ⟨b, off + k * 2, none⟩) (by show b < w.heap.size; omega)).trans hc1
      have u2 : wr.cell? ⟨b, off + k * 2 + 1, none⟩ = some (.int .i64 (f k).2) := (H.out.2.cell (p := ⟨b, off + k * 2 + 1, none⟩) (by show b < w.heap.size; omega)).trans hc2
      subst hao
      have HR := toRev_any (f k).1 (f k).2 wr
      have HN : Hid (∀ w3, Below wr.heap.size wr w3 → OwnR ((w3.setCell ⟨w.heap.size, k * 2, none⟩ (.int .i64 (f k).1)).setCell ⟨w.heap.size, k * 2 + 1, none⟩ (.int .i64 (f k).2)) w.heap.size (.slice (some ⟨w.heap.size, 0, none⟩) (fillR f (k + 1) len).length len) (fillR f (k + 1) len) ∧ Below w.heap.size w ((w3.setCell ⟨w.heap.size, k * 2, none⟩ (.int .i64 (f k).1)).setCell ⟨w.heap.size, k * 2 + 1, none⟩ (.int .i64 (f k).2))) := fun w3 hb => by
        refine ⟨?_, Below.setCell (p := ⟨w.heap.size, k * 2 + 1, none⟩) (Below.setCell (p := ⟨w.heap.size, k * 2, none⟩) (H.out.2.trans (hb.mono H.out.2.size)) (Nat.le_refl _) _) (Nat.le_refl _) _⟩
        have := (H.out.1.stays hb).set k (f k)
        rwa [fillR_set f k _ hkn] at this
      have HC : Hid (∀ w3, Below wr.heap.size wr w3 → (∀ j, w3.frozen? ⟨w.heap.size, j, none⟩ = false) ∧ ∃ x y, w3.cell? ⟨w.heap.size, k * 2, none⟩ = some (.int .i64 x) ∧ w3.cell? ⟨w.heap.size, k * 2 + 1, none⟩ = some (.int .i64 y)) := fun w3 hb =>
        ⟨fun j => (H.out.1.stays hb).frozen j, _, _, (H.out.1.stays hb).cell (j := k) (by rw [fillR_len]; exact hkn)⟩
      clear hfk H hfl hc1 hc2 hbB
      generalize (f k).1 = x at *
      generalize (f k).2 = y at *
      have hki : (k : Int) < (len : Int) := by omega
      have hk0 : (0 : Int) ≤ (k : Int) := by omega
      go_wp2_with fail
      refine HR.mono ?_
      rintro e w3 ⟨rfl, hb3⟩
      obtain ⟨fz, x0, y0, d0, d1⟩ := HC.out w3 hb3
      have HN3 := HN.out w3 hb3
      clear HN HC hb3 u1 u2 HR
      have HN : Hid _ := HN3
      clear HN3
      go_wp2_with fail
      go_roundw
      case rel => exact ⟨k + 1, by omega, by go_num, HN.out⟩
      case measure => simp [intOf]; omega
    · have hkl : k = len := by omega
      subst hkl
      have HE : Hid (fillR f k k = l) := by
        rw [← HF.out, ← HA.out.2]
        exact fillR_all l
      go_wp2
      go_ret
      refine ⟨_, rfl, ?_, H.out.2⟩
      have h := H.out.1
      rw [HE.out, HA.out.2] at h
      exact h
set_option maxRecDepth 100000 in
theorem szRevS_any (a0 : Option Addr) (len cap : Nat) (left : Int) (w : World) (hm : len ≤ 9223372036854775807) (h0 : 0 ≤ left) (hl : left ≤ 1048576) :
    Calls Try.prog 59 #[.slice a0 len cap, .int .i64 left] w fun e w' => e = .returned (.int .i64 (if (len : Int) ≤ left then left - (len : Int) else -1)) ∧ Below w.heap.size w w' := by
  have w1 : IntKind.i64.wrap (left - (len : Int)) = left - (len : Int) := by rw [IntKind.wrap_i64]; omega
  by_cases h : (len : Int) ≤ left
  · have hneg : ¬ left - (len : Int) < 0 := by omega
    rw [if_pos h]
    go_enter Try.func59, Try.ntmps59
    go_wp2
    go_ret
    exact ⟨rfl, Below.refl _ _⟩
  · have hneg : left - (len : Int) < 0 := by omega
    rw [if_neg h]
    go_enter Try.func59, Try.ntmps59
    go_wp2
    go_ret
    exact ⟨rfl, Below.refl _ _⟩
set_option maxHeartbeats 800000 in
set_option maxRecDepth 100000 in
theorem eqRev_same (s r : Int) (w : World) : Calls Try.prog 107 #[.agg #[.int .i64 s, .int .i64 r], .agg #[.int .i64 s, .int .i64 r]] w fun e w' => e = .returned (.bool true) ∧ Below w.heap.size w w' := by
  have e0 := size_alloc w (Obj.cells #[.int .i64 s, .int .i64 r] 84)
  go_enter Try.func107, Try.ntmps107
  go_wp2_with fail
  go_ret
  exact ⟨rfl, ((Below.refl _ _).alloc (Nat.le_refl _) _).alloc (by omega) _⟩
set_option maxHeartbeats 1600000 in
set_option maxRecDepth 100000 in
theorem eqRevS_same (a b : Value) (l : List (Int × Int)) (w : World) (hl : l.length ≤ 1000000000) (ha : RevAt w a l) (hb : RevAt w b l) : Calls Try.prog 66 #[a, b] w fun e w' => e = .returned (.bool true) ∧ Below w.heap.size w w' := by
  obtain ⟨ao, ca, rfl, hca⟩ := ha
  obtain ⟨bo, cb, rfl, hcb⟩ := hb
  have HA : Hid (∀ j, j < l.length → ∃ g, ao = some ⟨g, 0, none⟩ ∧ g < w.heap.size ∧ w.cell? ⟨g, j * 2, none⟩ = some (.int .i64 (l.getD j (0, 0)).1) ∧ w.cell? ⟨g, j * 2 + 1, none⟩ = some (.int .i64 (l.getD j (0, 0)).2)) := hca
  have HB : Hid (∀ j, j < l.length → ∃ g, bo = some ⟨g, 0, none⟩ ∧ g < w.heap.size ∧ w.cell? ⟨g, j * 2, none⟩ = some (.int .i64 (l.getD j (0, 0)).1) ∧ w.cell? ⟨g, j * 2 + 1, none⟩ = some (.int .i64 (l.getD j (0, 0)).2)) := hcb
  clear hca hcb
  go_enter Try.func66, Try.ntmps66
  go_wp2_with fail
  go_loopw [5] (fun iv wr => ∃ k : Nat, k ≤ l.length ∧ iv = .int .i64 k ∧ Hid (Below w.heap.size w wr)) (fun iv _ => l.length - (intOf iv).toNat)
  case atStart => exact ⟨0, Nat.zero_le _, rfl, Below.refl _ _⟩
  case round =>
    obtain ⟨k, hk, rfl, HW⟩ := hrel
    by_cases hlt : k < l.length
    · obtain ⟨ga, hao, hga, ha1, ha2⟩ := HA.out k hlt
      obtain ⟨gb, hbo, hgb, hb1, hb2⟩ := HB.out k hlt
      have hbel := HW.out
      have c1 : wr.cell? ⟨ga, k * 2, none⟩ = some (.int .i64 (l.getD k (0, 0)).1) := (hbel.cell (p := ⟨ga, k * 2, none⟩) hga).trans ha1
      have c2 : wr.cell? ⟨ga, k * 2 + 1, none⟩ = some (.int .i64 (l.getD k (0, 0)).2) := (hbel.cell (p := ⟨ga, k * 2 + 1, none⟩) hga).trans ha2
      have c3 : wr.cell? ⟨gb, k * 2, none⟩ = some (.int .i64 (l.getD k (0, 0)).1) := (hbel.cell (p := ⟨gb, k * 2, none⟩) hgb).trans hb1
      have c4 : wr.cell? ⟨gb, k * 2 + 1, none⟩ = some (.int .i64 (l.getD k (0, 0)).2) := (hbel.cell (p := ⟨gb, k * 2 + 1, none⟩) hgb).trans hb2
      generalize (l.getD k (0, 0)).1 = x at *
      generalize (l.getD k (0, 0)).2 = y at *
      have HQ : Hid (ga < w.heap.size ∧ gb < w.heap.size) := ⟨hga, hgb⟩
      subst hao hbo
      clear ha1 ha2 hb1 hb2 hbel hga hgb
      have hki : (k : Int) < (l.length : Int) := by omega
      have hk0 : (0 : Int) ≤ (k : Int) := by omega
      have HR := eqRev_same x y wr.drew
      have hcs : wr.cell? ⟨ga, k * 2, none⟩ = some (.int .i64 x) ∧ wr.cell? ⟨ga, k * 2 + 1, none⟩ = some (.int .i64 y) ∧ wr.cell? ⟨gb, k * 2, none⟩ = some (.int .i64 x) ∧ wr.cell? ⟨gb, k * 2 + 1, none⟩ = some (.int .i64 y) := ⟨c1, c2, c3, c4⟩
      have HS : Hid (∀ w3, Below wr.drew.heap.size wr.drew w3 → w3.cell? ⟨ga, k * 2, none⟩ = some (.int .i64 x) ∧ w3.cell? ⟨ga, k * 2 + 1, none⟩ = some (.int .i64 y) ∧ w3.cell? ⟨gb, k * 2, none⟩ = some (.int .i64 x) ∧ w3.cell? ⟨gb, k * 2 + 1, none⟩ = some (.int .i64 y)) := fun w3 hb => by
        have e : wr.drew.heap.size = wr.heap.size := rfl
        have h1 := HW.out.size
        have h2 := HQ.out
        exact ⟨(hb.cell (p := ⟨ga, k * 2, none⟩) (by show ga < _; omega)).trans c1, (hb.cell (p := ⟨ga, k * 2 + 1, none⟩) (by show ga < _; omega)).trans c2, (hb.cell (p := ⟨gb, k * 2, none⟩) (by show gb < _; omega)).trans c3, (hb.cell (p := ⟨gb, k * 2 + 1, none⟩) (by show gb < _; omega)).trans c4⟩
      go_wp2_with fail
      go_region_held3 (fun W => W.cell? ⟨ga, k * 2, none⟩ = some (.int .i64 x) ∧ W.cell? ⟨ga, k * 2 + 1, none⟩ = some (.int .i64 y) ∧ W.cell? ⟨gb, k * 2, none⟩ = some (.int .i64 x) ∧ W.cell? ⟨gb, k * 2 + 1, none⟩ = some (.int .i64 y)) (first | exact hc3 | exact hcs) ((go_at_call 107; refine HR.mono ?_; rintro e w3 ⟨rfl, hb3⟩; have hc3 := HS.out w3 hb3))
      all_goals (
        go_wp2_with fail
        exact ⟨⟨k + 1, by omega, by go_num, HW.out.drew.trans (hb3.mono HW.out.drew.size)⟩, by simp [intOf]; omega⟩)
    · go_wp2_with fail
      go_ret
      exact ⟨rfl, HW.out⟩
set_option maxHeartbeats 1600000 in
set_option maxRecDepth 100000 in
theorem markR_any (v : Value) (l : List (Int × Int)) (k base : Nat) (w : World) (hl : l.length ≤ 100000000) (hk : k ≤ 1000000000) (hv : OwnR w base v l) :
    Calls Try.prog 71 #[v, .int .i64 k] w fun e w' => e = .returned (.int .i64 (((k + 2 * l.length : Nat)) : Int)) ∧ OwnR w' base v (marksR k l.length) ∧ w.grownBy w' v.ownBlock := by
  obtain ⟨n, hn⟩ : ∃ n, l.length = n := ⟨_, rfl⟩
  have HN : Hid (l.length = n) := hn
  obtain ⟨ao, cap, rfl, hc, _⟩ := hv.shape
  rw [hn] at hc hl
  have hv' : OwnR w base (.slice ao n cap) l := hn ▸ hv
  rw [hn]
  have HV : Hid (OwnR w base (.slice ao n cap) l) := hv'
  have HC : Hid (0 < n → ∃ g, ao = some ⟨g, 0, none⟩) := hc
  clear hv hv' hc hn
  go_enter Try.func71, Try.ntmps71
  go_wp2_with fail
  go_loopw [1, 5] (fun kv iv wr => ∃ (j : Nat) (L : List (Int × Int)), j ≤ n ∧ kv = .int .i64 ((k + 2 * j : Nat) : Int) ∧ iv = .int .i64 j ∧ Hid (L.length = n ∧ (∀ i, i < j → L.getD i (0, 0) = (((k + 2 * i : Nat) : Int), ((k + 2 * i + 1 : Nat) : Int))) ∧ OwnR wr base (.slice ao n cap) L ∧ w.grownBy wr (Value.slice ao n cap).ownBlock)) (fun _ iv _ => n - (intOf iv).toNat)
  case atStart => exact ⟨0, l, Nat.zero_le _, by simp, rfl, HN.out, fun i hi => by omega, HV.out, World.grownBy.refl _ _⟩
  case round =>
    obtain ⟨j, L, hj, rfl, rfl, H⟩ := hrel
    by_cases hlt : j < n
    · obtain ⟨g, hao⟩ := HC.out (by omega)
      subst hao
      have hL := H.out.1
      have hO : OwnR wr base (.slice (some ⟨g, 0, none⟩) L.length cap) L := by rw [hL]; exact H.out.2.2.1
      obtain ⟨c1, c2⟩ := hO.cell (j := j) (by omega)
      have fz := fun i => hO.frozen i
      obtain ⟨q, hq⟩ : ∃ q : Nat, k + 2 * j = q := ⟨_, rfl⟩
      have HNx : Hid (OwnR ((wr.setCell ⟨g, j * 2, none⟩ (.int .i64 (q : Int))).setCell ⟨g, j * 2 + 1, none⟩ (.int .i64 ((q + 1 : Nat) : Int))) base (.slice (some ⟨g, 0, none⟩) n cap) (L.set j ((q : Int), ((q + 1 : Nat) : Int))) ∧ w.grownBy ((wr.setCell ⟨g, j * 2, none⟩ (.int .i64 (q : Int))).setCell ⟨g, j * 2 + 1, none⟩ (.int .i64 ((q + 1 : Nat) : Int))) (some g)) := by
        refine ⟨?_, grown_trans H.out.2.2.2 (hO.grown_set rfl j _ _)⟩
        have := hO.set j ((q : Int), ((q + 1 : Nat) : Int))
        rw [List.length_set, hL] at this
        exact this
      have HLs : Hid (∀ i, i < j + 1 → (L.set j ((q : Int), ((q + 1 : Nat) : Int))).getD i (0, 0) = (((k + 2 * i : Nat) : Int), ((k + 2 * i + 1 : Nat) : Int))) := fun i hi => by
        by_cases e : i = j
        · subst e
          rw [hq]
          simp [List.getD, show i < L.length by omega]
        · have := H.out.2.1 i (by omega)
          rw [← this]
          simp [List.getD, List.getElem?_set_ne (show j ≠ i by omega)]
      have HLl : Hid ((L.set j ((q : Int), ((q + 1 : Nat) : Int))).length = n) := by show _ = n; rw [List.length_set]; exact hL
      have hqb : q ≤ 2000000000 := by omega
      have HQ : Hid (k + 2 * (j + 1) = q + 1 + 1) := by show k + 2 * (j + 1) = q + 1 + 1; omega
      rw [hq]
      have q1 : IntKind.i64.wrap ((q : Int) + 1) = ((q + 1 : Nat) : Int) := by rw [IntKind.wrap_i64]; omega
      have q2 : IntKind.i64.wrap (((q + 1 : Nat) : Int) + 1) = ((q + 1 + 1 : Nat) : Int) := by rw [IntKind.wrap_i64]; omega
      obtain ⟨Q1, hQ1⟩ : ∃ z : Int, ((q + 1 : Nat) : Int) = z := ⟨_, rfl⟩
      obtain ⟨Q2, hQ2⟩ : ∃ z : Int, ((q + 1 + 1 : Nat) : Int) = z := ⟨_, rfl⟩
      have HQ2 : Hid (((q + 1 + 1 : Nat) : Int) = Q2) := hQ2
      rw [hQ1] at q1 q2 HNx HLs HLl
      rw [hQ2] at q2
      clear hQ1 hQ2 hq H hO hL
      generalize (L.getD j (0, 0)).1 = x0 at *
      generalize (L.getD j (0, 0)).2 = y0 at *
      have hji : (j : Int) < (n : Int) := by omega
      have hj0 : (0 : Int) ≤ (j : Int) := by omega
      go_wp2_with fail
      go_roundw
      case rel => exact ⟨j + 1, _, by omega, by rw [HQ.out, HQ2.out], by go_num, HLl.out, HLs.out, HNx.out.1, HNx.out.2⟩
      case measure => simp [intOf]; omega
    · have hjn : j = n := by omega
      subst hjn
      have HE : Hid (L = marksR k j) := by
        refine List.ext_getElem (by rw [marksR_len]; exact H.out.1) fun i h1 h2 => ?_
        have := H.out.2.1 i (by have := H.out.1; omega)
        simp only [List.getD, List.getElem?_eq_getElem h1, Option.getD_some] at this
        rw [this]
        simp [marksR]
      go_wp2_with fail
      go_ret
      refine ⟨rfl, ?_, H.out.2.2.2⟩
      rw [← HE.out]
      exact H.out.2.2.1
set_option maxHeartbeats 1600000 in
set_option maxRecDepth 100000 in
theorem heldR_same (v : Value) (n k : Nat) (w : World) (hn : n ≤ 100000000) (hk : k ≤ 1000000000) (hv : RevAt w v (marksR k n)) :
    Calls Try.prog 72 #[v, .int .i64 k] w fun e w' => e = .returned (.int .i64 (((k + 2 * n : Nat)) : Int)) ∧ Below w.heap.size w w' := by
  obtain ⟨ao, cap, rfl, hc⟩ := hv
  rw [marksR_len] at hc ⊢
  have HC : Hid (∀ j, j < n → ∃ g, ao = some ⟨g, 0, none⟩ ∧ g < w.heap.size ∧ w.cell? ⟨g, j * 2, none⟩ = some (.int .i64 ((k + 2 * j : Nat) : Int)) ∧ w.cell? ⟨g, j * 2 + 1, none⟩ = some (.int .i64 ((k + 2 * j + 1 : Nat) : Int))) := fun j hj => by
    have := hc j hj
    rw [marksR_getD hj] at this
    exact this
  clear hc
  go_enter Try.func72, Try.ntmps72
  go_wp2_with fail
  go_loopw [1, 5] (fun kv iv wr => ∃ j : Nat, j ≤ n ∧ kv = .int .i64 ((k + 2 * j : Nat) : Int) ∧ iv = .int .i64 j ∧ wr = w) (fun _ iv _ => n - (intOf iv).toNat)
  case atStart => exact ⟨0, Nat.zero_le _, by simp, rfl, rfl⟩
  case round =>
    obtain ⟨j, hj, rfl, rfl, rfl⟩ := hrel
    by_cases hlt : j < n
    · obtain ⟨g, hao, hg, c1, c2⟩ := HC.out j hlt
      subst hao
      obtain ⟨q, hq⟩ : ∃ q : Nat, k + 2 * j = q := ⟨_, rfl⟩
      have hqb : q ≤ 2000000000 := by omega
      have HQ : Hid (k + 2 * (j + 1) = q + 1 + 1) := by show k + 2 * (j + 1) = q + 1 + 1; omega
      rw [hq] at c1 c2 ⊢
      have q1 : IntKind.i64.wrap ((q : Int) + 1) = ((q + 1 : Nat) : Int) := by rw [IntKind.wrap_i64]; omega
      have q2 : IntKind.i64.wrap (((q + 1 : Nat) : Int) + 1) = ((q + 1 + 1 : Nat) : Int) := by rw [IntKind.wrap_i64]; omega
      obtain ⟨Q1, hQ1⟩ : ∃ z : Int, ((q + 1 : Nat) : Int) = z := ⟨_, rfl⟩
      obtain ⟨Q2, hQ2⟩ : ∃ z : Int, ((q + 1 + 1 : Nat) : Int) = z := ⟨_, rfl⟩
      have HQ2 : Hid (((q + 1 + 1 : Nat) : Int) = Q2) := hQ2
      rw [hQ1] at q1 q2 c2
      rw [hQ2] at q2
      clear hQ1 hQ2 hq
      have hji : (j : Int) < (n : Int) := by omega
      have hj0 : (0 : Int) ≤ (j : Int) := by omega
      go_wp2_with fail
      go_roundw
      case rel => exact ⟨j + 1, by omega, by rw [HQ.out, HQ2.out], by go_num, by first | rfl | trivial⟩
      case measure => simp [intOf]; omega
    · have hjn : j = n := by omega
      subst hjn
      go_wp2_with fail
      go_ret
      exact ⟨rfl, Below.refl _ _⟩
end Go.Proofs.Ytajbalokcfghbaa
