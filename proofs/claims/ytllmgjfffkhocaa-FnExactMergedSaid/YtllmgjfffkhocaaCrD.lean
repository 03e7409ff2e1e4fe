/-
  The laws' eqCert, of letters that are the same.
-/
import Derived.Test.YtllmgjfffkhocaaCrB
namespace Go.Proofs.Ytllmgjfffkhocaa
open Go.RowKit
set_option linter.unusedVariables false

set_option maxHeartbeats 6400000 in
set_option maxRecDepth 100000 in
theorem eqCert_same (c : Ct) (a b : Value) (w : World) (hl : c.pol.length ≤ 1000000000 ∧ c.per.length ≤ 1000000000 ∧ c.den.length ≤ 1000000000) (ha : CtAt w a c) (hb : CtAt w b c) :
    Calls Try.prog 82 #[a, b] w fun e w' => e = .returned (.bool true) ∧ Below w.heap.size w w' := by
  obtain ⟨pv, ev, dv, rfl, h1, h2, h3⟩ := ha
  obtain ⟨pu, eu, du, rfl, k1, k2, k3⟩ := hb
  have HQ : Hid (∀ W, Below w.heap.size w W → Calls Try.prog 55 #[pv, pu] W (fun e w' => e = .returned (.bool true) ∧ Below W.heap.size W w') ∧ Calls Try.prog 56 #[ev, eu] W (fun e w' => e = .returned (.bool true) ∧ Below W.heap.size W w') ∧ Calls Try.prog 56 #[dv, du] W (fun e w' => e = .returned (.bool true) ∧ Below W.heap.size W w')) :=
    fun W hb => ⟨eqIntS_same pv pu c.pol W hl.1 (h1.below hb) (k1.below hb), eqT_same ev eu c.per W hl.2.1 (h2.below hb) (k2.below hb), eqT_same dv du c.den W hl.2.2 (h3.below hb) (k3.below hb)⟩
  obtain ⟨lp, hlp⟩ : ∃ l, c.pol.length = l := ⟨_, rfl⟩
  obtain ⟨le, hle⟩ : ∃ l, c.per.length = l := ⟨_, rfl⟩
  obtain ⟨ld, hld⟩ : ∃ l, c.den.length = l := ⟨_, rfl⟩
  obtain ⟨pa, pc, hpa, _⟩ := h1
  obtain ⟨ea, ec, hea, _⟩ := h2
  obtain ⟨da, dc, hda, _⟩ := h3
  obtain ⟨pb, qc, hpb, _⟩ := k1
  obtain ⟨eb, fc, heb, _⟩ := k2
  obtain ⟨db, gc, hdb, _⟩ := k3
  rw [hlp] at hpa hpb
  rw [hle] at hea heb
  rw [hld] at hda hdb
  subst hpa hea hda hpb heb hdb
  clear hlp hle hld hl
  unfold ctV
  go_enter Try.func82, Try.ntmps82
  go_wp2_with fail
  obtain ⟨V, hV⟩ : ∃ V, V = (w.alloc (Obj.cells #[.int .i64 c.serial, .string c.issuer, .string c.subject, .int .i64 c.frm, .int .i64 c.upto, .string c.key, .bool c.ca, .int .i64 c.pathLen, .int .i64 c.usage, .slice pa lp pc, .slice ea le ec, .slice da ld dc, .string c.sig] 112)).alloc (Obj.cells #[.int .i64 c.serial, .string c.issuer, .string c.subject, .int .i64 c.frm, .int .i64 c.upto, .string c.key, .bool c.ca, .int .i64 c.pathLen, .int .i64 c.usage, .slice pb lp qc, .slice eb le fc, .slice db ld gc, .string c.sig] 112) := ⟨_, rfl⟩
  rw [← hV]
  have G : Hid (Blk V w.heap.size 112 #[.int .i64 c.serial, .string c.issuer, .string c.subject, .int .i64 c.frm, .int .i64 c.upto, .string c.key, .bool c.ca, .int .i64 c.pathLen, .int .i64 c.usage, .slice pa lp pc, .slice ea le ec, .slice da ld dc, .string c.sig] ∧ Blk V (w.heap.size + 1) 112 #[.int .i64 c.serial, .string c.issuer, .string c.subject, .int .i64 c.frm, .int .i64 c.upto, .string c.key, .bool c.ca, .int .i64 c.pathLen, .int .i64 c.usage, .slice pb lp qc, .slice eb le fc, .slice db ld gc, .string c.sig] ∧ Below w.heap.size w V ∧ w.heap.size + 1 < V.heap.size) := by
    have e0 : (w.alloc (Obj.cells #[.int .i64 c.serial, .string c.issuer, .string c.subject, .int .i64 c.frm, .int .i64 c.upto, .string c.key, .bool c.ca, .int .i64 c.pathLen, .int .i64 c.usage, .slice pa lp pc, .slice ea le ec, .slice da ld dc, .string c.sig] 112)).heap.size = w.heap.size + 1 := Array.size_push _
    have h := Blk.new (w.alloc (Obj.cells #[.int .i64 c.serial, .string c.issuer, .string c.subject, .int .i64 c.frm, .int .i64 c.upto, .string c.key, .bool c.ca, .int .i64 c.pathLen, .int .i64 c.usage, .slice pa lp pc, .slice ea le ec, .slice da ld dc, .string c.sig] 112)) 112 #[.int .i64 c.serial, .string c.issuer, .string c.subject, .int .i64 c.frm, .int .i64 c.upto, .string c.key, .bool c.ca, .int .i64 c.pathLen, .int .i64 c.usage, .slice pb lp qc, .slice eb le fc, .slice db ld gc, .string c.sig]
    rw [e0] at h
    rw [hV]
    exact ⟨(Blk.new w _ _).alloc _, h, ((Below.refl _ _).alloc (Nat.le_refl _) _).alloc (by rw [e0]; omega) _, by rw [size_alloc, e0]; omega⟩
  clear hV
  refine ((HQ.out V G.out.2.2.1).1).mono ?_
  rintro e V0 ⟨rfl, hb⟩
  have G0 : Hid (Blk V0 w.heap.size 112 #[.int .i64 c.serial, .string c.issuer, .string c.subject, .int .i64 c.frm, .int .i64 c.upto, .string c.key, .bool c.ca, .int .i64 c.pathLen, .int .i64 c.usage, .slice pa lp pc, .slice ea le ec, .slice da ld dc, .string c.sig] ∧ Blk V0 (w.heap.size + 1) 112 #[.int .i64 c.serial, .string c.issuer, .string c.subject, .int .i64 c.frm, .int .i64 c.upto, .string c.key, .bool c.ca, .int .i64 c.pathLen, .int .i64 c.usage, .slice pb lp qc, .slice eb le fc, .slice db ld gc, .string c.sig] ∧ Below w.heap.size w V0 ∧ w.heap.size + 1 < V0.heap.size) := ⟨G.out.1.below hb (by have := G.out.2.2.2; omega), G.out.2.1.below hb G.out.2.2.2, G.out.2.2.1.trans (hb.mono G.out.2.2.1.size), Nat.lt_of_lt_of_le G.out.2.2.2 hb.size⟩
  clear hb G
  have ca : V0.cell? ⟨w.heap.size, 10, none⟩ = some (.slice ea le ec) := G0.out.1.cell 10
  have cb : V0.cell? ⟨w.heap.size + 1, 10, none⟩ = some (.slice eb le fc) := G0.out.2.1.cell 10
  go_wp2_with fail
  clear ca cb
  refine ((HQ.out V0 G0.out.2.2.1).2.1).mono ?_
  rintro e V1 ⟨rfl, hb⟩
  have G1 : Hid (Blk V1 w.heap.size 112 #[.int .i64 c.serial, .string c.issuer, .string c.subject, .int .i64 c.frm, .int .i64 c.upto, .string c.key, .bool c.ca, .int .i64 c.pathLen, .int .i64 c.usage, .slice pa lp pc, .slice ea le ec, .slice da ld dc, .string c.sig] ∧ Blk V1 (w.heap.size + 1) 112 #[.int .i64 c.serial, .string c.issuer, .string c.subject, .int .i64 c.frm, .int .i64 c.upto, .string c.key, .bool c.ca, .int .i64 c.pathLen, .int .i64 c.usage, .slice pb lp qc, .slice eb le fc, .slice db ld gc, .string c.sig] ∧ Below w.heap.size w V1 ∧ w.heap.size + 1 < V1.heap.size) := ⟨G0.out.1.below hb (by have := G0.out.2.2.2; omega), G0.out.2.1.below hb G0.out.2.2.2, G0.out.2.2.1.trans (hb.mono G0.out.2.2.1.size), Nat.lt_of_lt_of_le G0.out.2.2.2 hb.size⟩
  clear hb G0
  have ca : V1.cell? ⟨w.heap.size, 11, none⟩ = some (.slice da ld dc) := G1.out.1.cell 11
  have cb : V1.cell? ⟨w.heap.size + 1, 11, none⟩ = some (.slice db ld gc) := G1.out.2.1.cell 11
  go_wp2_with fail
  clear ca cb
  refine ((HQ.out V1 G1.out.2.2.1).2.2).mono ?_
  rintro e V2 ⟨rfl, hb⟩
  have G2 : Hid (Blk V2 w.heap.size 112 #[.int .i64 c.serial, .string c.issuer, .string c.subject, .int .i64 c.frm, .int .i64 c.upto, .string c.key, .bool c.ca, .int .i64 c.pathLen, .int .i64 c.usage, .slice pa lp pc, .slice ea le ec, .slice da ld dc, .string c.sig] ∧ Blk V2 (w.heap.size + 1) 112 #[.int .i64 c.serial, .string c.issuer, .string c.subject, .int .i64 c.frm, .int .i64 c.upto, .string c.key, .bool c.ca, .int .i64 c.pathLen, .int .i64 c.usage, .slice pb lp qc, .slice eb le fc, .slice db ld gc, .string c.sig] ∧ Below w.heap.size w V2 ∧ w.heap.size + 1 < V2.heap.size) := ⟨G1.out.1.below hb (by have := G1.out.2.2.2; omega), G1.out.2.1.below hb G1.out.2.2.2, G1.out.2.2.1.trans (hb.mono G1.out.2.2.1.size), Nat.lt_of_lt_of_le G1.out.2.2.2 hb.size⟩
  clear hb G1
  have ca : V2.cell? ⟨w.heap.size, 12, none⟩ = some (.string c.sig) := G2.out.1.cell 12
  have cb : V2.cell? ⟨w.heap.size + 1, 12, none⟩ = some (.string c.sig) := G2.out.2.1.cell 12
  go_wp2_with fail
  go_ret
  exact ⟨rfl, G2.out.2.2.1⟩
end Go.Proofs.Ytllmgjfffkhocaa
