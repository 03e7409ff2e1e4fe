/-
  Texts of the proof, one behind the other: CrD, CrL.
-/
import Derived.Deep.RegionHeld3
import Derived.Test.YtajbalokcfghbaaC5
import Derived.Test.YtajbalokcfghbaaC7

/-
  The laws' eqCert, of letters that are the same.
-/
namespace Go.Proofs.Ytajbalokcfghbaa
open Go.RowKit
set_option linter.unusedVariables false

set_option maxHeartbeats 6400000 in
set_option maxRecDepth 100000 in
theorem eqCert_same (c : Ct) (a b : Value) (w : World) (hl : c.pol.length ≤ 1000000000 ∧ c.per.length ≤ 1000000000 ∧ c.den.length ≤ 1000000000) (ha : CtAt w a c) (hb : CtAt w b c) :
    Calls Try.prog 14 #[a, b] w fun e w' => e = .returned (.bool true) ∧ Below w.heap.size w w' := by
  obtain ⟨pv, ev, dv, rfl, h1, h2, h3⟩ := ha
  obtain ⟨pu, eu, du, rfl, k1, k2, k3⟩ := hb
  have HQ : Hid (∀ W, Below w.heap.size w W → Calls Try.prog 46 #[pv, pu] W (fun e w' => e = .returned (.bool true) ∧ Below W.heap.size W w') ∧ Calls Try.prog 47 #[ev, eu] W (fun e w' => e = .returned (.bool true) ∧ Below W.heap.size W w') ∧ Calls Try.prog 47 #[dv, du] W (fun e w' => e = .returned (.bool true) ∧ Below W.heap.size W w')) :=
    fun W hb => ⟨eqIntS_same pv pu c.pol W hl.1 (h1.below hb) (k1.below hb), eqT_same ev eu c.per W hl.2.1 (h2.below hb) (k2.below hb), eqT_same dv du c.den W hl.2.2 (h3.below hb) (k3.below hb)⟩
  obtain ⟨lp, hlp⟩ : ∃ l, c.pol.length = l := ⟨_, rfl⟩
  obtain ⟨le, hle⟩ : ∃ l, c.per.length = l := ⟨_, rfl⟩
  obtain ⟨ld, hld⟩ : ∃ l, c.den.length = l := ⟨_, rfl⟩
  obtain ⟨pa, pc, hpa, _⟩ := h1
  obtain ⟨ea, ec, hea, _⟩ := h2
  obtain ⟨da, dc, hda, _⟩ := h3
  obtain ⟨pb, qc, hpb, _⟩ := k1
  obtain ⟨eb, fc, heb, _⟩ := k2
  obtain ⟨db, gc, hdb, _⟩ := k3
  rw [hlp] at hpa hpb
  rw [hle] at hea heb
  rw [hld] at hda hdb
  subst hpa hea hda hpb heb hdb
  clear hlp hle hld hl
  unfold ctV
  go_enter Try.func14, Try.ntmps14
  go_wp2_with fail
  obtain ⟨V, hV⟩ : ∃ V, V = (w.alloc (Obj.cells #[.int .i64 c.serial, .string c.issuer, .string c.subject, .int .i64 c.frm, .int .i64 c.upto, .string c.key, .bool c.ca, .int .i64 c.pathLen, .int .i64 c.usage, .slice pa lp pc, .slice ea le ec, .slice da ld dc, .string c.sig] 29)).alloc (Obj.cells #[.int .i64 c.serial, .string c.issuer, .string c.subject, .int .i64 c.frm, .int .i64 c.upto, .string c.key, .bool c.ca, .int .i64 c.pathLen, .int .i64 c.usage, .slice pb lp qc, .slice eb le fc, .slice db ld gc, .string c.sig] 29) := ⟨_, rfl⟩
  rw [← hV]
  have G : Hid (Blk V w.heap.size 29 #[.int .i64 c.serial, .string c.issuer, .string c.subject, .int .i64 c.frm, .int .i64 c.upto, .string c.key, .bool c.ca, .int .i64 c.pathLen, .int .i64 c.usage, .slice pa lp pc, .slice ea le ec, .slice da ld dc, .string c.sig] ∧ Blk V (w.heap.size + 1) 29 #[.int .i64 c.serial, .string c.issuer, .string c.subject, .int .i64 c.frm, .int .i64 c.upto, .string c.key, .bool c.ca, .int .i64 c.pathLen, .int .i64 c.usage, .slice pb lp qc, .slice eb le fc, .slice db ld gc, .string c.sig] ∧ Below w.heap.size w V ∧ w.heap.size + 1 < V.heap.size) := by
    have e0 : (w.alloc (Obj.cells #[.int .i64 c.serial, .string c.issuer, .string c.subject, .int .i64 c.frm, .int .i64 c.upto, .string c.key, .bool c.ca, .int .i64 c.pathLen, .int .i64 c.usage, .slice pa lp pc, .slice ea le ec, .slice da ld dc, .string c.sig] 29)).heap.size = w.heap.size + 1 := Array.size_push _
    have h := Blk.new (w.alloc (Obj.cells #[.int .i64 c.serial, .string c.issuer, .string c.subject, .int .i64 c.frm, .int .i64 c.upto, .string c.key, .bool c.ca, .int .i64 c.pathLen, .int .i64 c.usage, .slice pa lp pc, .slice ea le ec, .slice da ld dc, .string c.sig] 29)) 29 #[.int .i64 c.serial, .string c.issuer, .string c.subject, .int .i64 c.frm, .int .i64 c.upto, .string c.key, .bool c.ca, .int .i64 c.pathLen, .int .i64 c.usage, .slice pb lp qc, .slice eb le fc, .slice db ld gc, .string c.sig]
    rw [e0] at h
    rw [hV]
    exact ⟨(Blk.new w _ _).alloc _, h, ((Below.refl _ _).alloc (Nat.le_refl _) _).alloc (by rw [e0]; omega) _, by rw [size_alloc, e0]; omega⟩
  clear hV
  refine ((HQ.out V G.out.2.2.1).1).mono ?_
  rintro e V0 ⟨rfl, hb⟩
  have G0 : Hid (Blk V0 w.heap.size 29 #[.int .i64 c.serial, .string c.issuer, .string c.subject, .int .i64 c.frm, .int .i64 c.upto, .string c.key, .bool c.ca, .int .i64 c.pathLen, .int .i64 c.usage, .slice pa lp pc, .slice ea le ec, .slice da ld dc, .string c.sig] ∧ Blk V0 (w.heap.size + 1) 29 #[.int .i64 c.serial, .string c.issuer, .string c.subject, .int .i64 c.frm, .int .i64 c.upto, .string c.key, .bool c.ca, .int .i64 c.pathLen, .int .i64 c.usage, .slice pb lp qc, .slice eb le fc, .slice db ld gc, .string c.sig] ∧ Below w.heap.size w V0 ∧ w.heap.size + 1 < V0.heap.size) := ⟨G.out.1.below hb (by have := G.out.2.2.2; omega), G.out.2.1.below hb G.out.2.2.2, G.out.2.2.1.trans (hb.mono G.out.2.2.1.size), Nat.lt_of_lt_of_le G.out.2.2.2 hb.size⟩
  clear hb G
  have ca : V0.cell? ⟨w.heap.size, 10, none⟩ = some (.slice ea le ec) := G0.out.1.cell 10
  have cb : V0.cell? ⟨w.heap.size + 1, 10, none⟩ = some (.slice eb le fc) := G0.out.2.1.cell 10
  go_wp2_with fail
  clear ca cb
  refine ((HQ.out V0 G0.out.2.2.1).2.1).mono ?_
  rintro e V1 ⟨rfl, hb⟩
  have G1 : Hid (Blk V1 w.heap.size 29 #[.int .i64 c.serial, .string c.issuer, .string c.subject, .int .i64 c.frm, .int .i64 c.upto, .string c.key, .bool c.ca, .int .i64 c.pathLen, .int .i64 c.usage, .slice pa lp pc, .slice ea le ec, .slice da ld dc, .string c.sig] ∧ Blk V1 (w.heap.size + 1) 29 #[.int .i64 c.serial, .string c.issuer, .string c.subject, .int .i64 c.frm, .int .i64 c.upto, .string c.key, .bool c.ca, .int .i64 c.pathLen, .int .i64 c.usage, .slice pb lp qc, .slice eb le fc, .slice db ld gc, .string c.sig] ∧ Below w.heap.size w V1 ∧ w.heap.size + 1 < V1.heap.size) := ⟨G0.out.1.below hb (by have := G0.out.2.2.2; omega), G0.out.2.1.below hb G0.out.2.2.2, G0.out.2.2.1.trans (hb.mono G0.out.2.2.1.size), Nat.lt_of_lt_of_le G0.out.2.2.2 hb.size⟩
  clear hb G0
  have ca : V1.cell? ⟨w.heap.size, 11, none⟩ = some (.slice da ld dc) := G1.out.1.cell 11
  have cb : V1.cell? ⟨w.heap.size + 1, 11, none⟩ = some (.slice db ld gc) := G1.out.2.1.cell 11
  go_wp2_with fail
  clear ca cb
  refine ((HQ.out V1 G1.out.2.2.1).2.2).mono ?_
  rintro e V2 ⟨rfl, hb⟩
  have G2 : Hid (Blk V2 w.heap.size 29 #[.int .i64 c.serial, .string c.issuer, .string c.subject, .int .i64 c.frm, .int .i64 c.upto, .string c.key, .bool c.ca, .int .i64 c.pathLen, .int .i64 c.usage, .slice pa lp pc, .slice ea le ec, .slice da ld dc, .string c.sig] ∧ Blk V2 (w.heap.size + 1) 29 #[.int .i64 c.serial, .string c.issuer, .string c.subject, .int .i64 c.frm, .int .i64 c.upto, .string c.key, .bool c.ca, .int .i64 c.pathLen, .int .i64 c.usage, .slice pb lp qc, .slice eb le fc, .slice db ld gc, .string c.sig] ∧ Below w.heap.size w V2 ∧ w.heap.size + 1 < V2.heap.size) := ⟨G1.out.1.below hb (by have := G1.out.2.2.2; omega), G1.out.2.1.below hb G1.out.2.2.2, G1.out.2.2.1.trans (hb.mono G1.out.2.2.1.size), Nat.lt_of_lt_of_le G1.out.2.2.2 hb.size⟩
  clear hb G1
  have ca : V2.cell? ⟨w.heap.size, 12, none⟩ = some (.string c.sig) := G2.out.1.cell 12
  have cb : V2.cell? ⟨w.heap.size + 1, 12, none⟩ = some (.string c.sig) := G2.out.2.1.cell 12
  go_wp2_with fail
  go_ret
  exact ⟨rfl, G2.out.2.2.1⟩
end Go.Proofs.Ytajbalokcfghbaa

/-
  What the laws over letters share: a letter that came in in a variable's block, a letter of one's own in another.
-/
namespace Go.Proofs.Ytajbalokcfghbaa
open Go.RowKit
set_option linter.unusedVariables false

theorem ArgC.mono {B B' : Nat} {w : World} {v : Value} {c : Ct} (h : ArgC B w v c) (hB : B ≤ B') : ArgC B' w v c := by
  obtain ⟨pa, pc, ea, ec, da, dc, hv, h1, h2, h3⟩ := h
  refine ⟨pa, pc, ea, ec, da, dc, hv, fun j hj => ?_, fun j hj => ?_, fun j hj => ?_⟩
  · obtain ⟨b, off, e, hb, hc⟩ := h1 j hj; exact ⟨b, off, e, by omega, hc⟩
  · obtain ⟨b, off, e, hb, hc⟩ := h2 j hj; exact ⟨b, off, e, by omega, hc⟩
  · obtain ⟨b, off, e, hb, hc⟩ := h3 j hj; exact ⟨b, off, e, by omega, hc⟩
/-- What came in, and a letter of one's own, each in a variable's block. -/
def KC (w W : World) (g1 g2 : Nat) (t1 t2 : TypeId) (a b : Array Value) (c : Ct) : Prop := Below w.heap.size w W ∧ Blk W g1 t1 a ∧ Blk W g2 t2 b ∧ CtAt W (.agg b) c
theorem KC.below {w W W' : World} {g1 g2 : Nat} {t1 t2 : TypeId} {a b : Array Value} {c : Ct} (h : KC w W g1 g2 t1 t2 a b c) (hb : Below W.heap.size W W') : KC w W' g1 g2 t1 t2 a b c :=
  ⟨h.1.trans (hb.mono h.1.size), h.2.1.below hb h.2.1.lt, h.2.2.1.below hb h.2.2.1.lt, h.2.2.2.below hb⟩
theorem CtAt.shape {w : World} {v : Value} {c : Ct} (h : CtAt w v c) : ∃ p q e r d s, v = ctV c (.slice p c.pol.length q) (.slice e c.per.length r) (.slice d c.den.length s) := by
  obtain ⟨pv, ev, dv, hv, ⟨p, q, h1, _⟩, ⟨e, r, h2, _⟩, ⟨d, s, h3, _⟩⟩ := h
  exact ⟨p, q, e, r, d, s, by rw [hv, h1, h2, h3]⟩
end Go.Proofs.Ytajbalokcfghbaa
