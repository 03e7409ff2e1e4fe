/-
  Texts of the proof, one behind the other: ClB, AppI, ClC.
-/
import Derived.Laws.AppendOwnNone
import Derived.Test.YtfgkpjjjjnollaaGreatDoorSC2
import Derived.Test.YtfgkpjjjjnollaaGreatDoorSC4
import Derived.Test.YtfgkpjjjjnollaaGreatDoorSC7

/-
  The laws' toCrl, szCrl, eqCrl, markCrl, heldCrl.
-/
namespace Go.Proofs.YtfgkpjjjjnollaaGreatDoor
open Go.RowKit
set_option linter.unusedVariables false

set_option maxHeartbeats 6400000 in
set_option maxRecDepth 100000 in
theorem toCrl_any (c : Cl) (v : Value) (B : Nat) (w : World) (hl : c.revs.length ≤ 1048576) (hB : B ≤ w.heap.size) (ha : ArgL B w v c) :
    Calls Tryz.prog 59 #[v] w fun e w' => ∃ u, e = .returned u ∧ OwnL w' w.heap.size u c ∧ Below w.heap.size w w' := by
  obtain ⟨pa, pc, rfl, h1⟩ := ha
  have HA : Hid (ArgR B w pa c.revs ∧ c.revs.length ≤ 1048576) := ⟨h1, hl⟩
  clear h1 hl
  unfold clV
  go_enter Tryz.func59, Tryz.ntmps59
  go_wp2_with fail
  obtain ⟨W3, hW3⟩ : ∃ W, W = ((w.alloc (Obj.cells #[.string c.issuer, .int .i64 c.num, .int .i64 c.ths, .int .i64 c.nxt, .int .i64 c.bas, .slice pa c.revs.length pc, .string c.sig] 77)).alloc (Obj.cells #[.string ⟨#[]⟩, .int .i64 0, .int .i64 0, .int .i64 0, .int .i64 0, .slice none 0 0, .string ⟨#[]⟩] 49)).alloc (Obj.cells #[.string c.issuer, .int .i64 c.num, .int .i64 c.ths, .int .i64 c.nxt, .int .i64 c.bas, .slice none 0 0, .string ⟨#[]⟩] 49) := ⟨_, rfl⟩
  change Calls _ _ _ (((w.alloc (Obj.cells #[.string c.issuer, .int .i64 c.num, .int .i64 c.ths, .int .i64 c.nxt, .int .i64 c.bas, .slice pa c.revs.length pc, .string c.sig] 77)).alloc (Obj.cells #[.string ⟨#[]⟩, .int .i64 0, .int .i64 0, .int .i64 0, .int .i64 0, .slice none 0 0, .string ⟨#[]⟩] 49)).alloc (Obj.cells #[.string c.issuer, .int .i64 c.num, .int .i64 c.ths, .int .i64 c.nxt, .int .i64 c.bas, .slice none 0 0, .string ⟨#[]⟩] 49)) _
  rw [← hW3]
  have e0 : (w.alloc (Obj.cells #[.string c.issuer, .int .i64 c.num, .int .i64 c.ths, .int .i64 c.nxt, .int .i64 c.bas, .slice pa c.revs.length pc, .string c.sig] 77)).heap.size = w.heap.size + 1 := Array.size_push _
  have e1 : ((w.alloc (Obj.cells #[.string c.issuer, .int .i64 c.num, .int .i64 c.ths, .int .i64 c.nxt, .int .i64 c.bas, .slice pa c.revs.length pc, .string c.sig] 77)).alloc (Obj.cells #[.string ⟨#[]⟩, .int .i64 0, .int .i64 0, .int .i64 0, .int .i64 0, .slice none 0 0, .string ⟨#[]⟩] 49)).heap.size = w.heap.size + 1 + 1 := by rw [size_alloc, e0]
  have G0 : Hid ((Blk W3 w.heap.size 77 #[.string c.issuer, .int .i64 c.num, .int .i64 c.ths, .int .i64 c.nxt, .int .i64 c.bas, .slice pa c.revs.length pc, .string c.sig] ∧ Blk W3 (w.heap.size + 1) 49 #[.string ⟨#[]⟩, .int .i64 0, .int .i64 0, .int .i64 0, .int .i64 0, .slice none 0 0, .string ⟨#[]⟩] ∧ Blk W3 (w.heap.size + 1 + 1) 49 #[.string c.issuer, .int .i64 c.num, .int .i64 c.ths, .int .i64 c.nxt, .int .i64 c.bas, .slice none 0 0, .string ⟨#[]⟩] ∧ Below w.heap.size w W3) ∧ w.heap.size + 1 + 1 + 1 ≤ W3.heap.size) := by
    rw [hW3]
    refine ⟨⟨((Blk.new w _ _).alloc _).alloc _, ?_, ?_, (((Below.refl _ _).alloc (Nat.le_refl _) _).alloc (by rw [e0]; omega) _).alloc (by rw [e1]; omega) _⟩, by rw [size_alloc, e1]; omega⟩
    · have h := (Blk.new (w.alloc (Obj.cells #[.string c.issuer, .int .i64 c.num, .int .i64 c.ths, .int .i64 c.nxt, .int .i64 c.bas, .slice pa c.revs.length pc, .string c.sig] 77)) 49 #[.string ⟨#[]⟩, .int .i64 0, .int .i64 0, .int .i64 0, .int .i64 0, .slice none 0 0, .string ⟨#[]⟩]).alloc (Obj.cells #[.string c.issuer, .int .i64 c.num, .int .i64 c.ths, .int .i64 c.nxt, .int .i64 c.bas, .slice none 0 0, .string ⟨#[]⟩] 49)
      rw [e0] at h
      exact h
    · have h := Blk.new ((w.alloc (Obj.cells #[.string c.issuer, .int .i64 c.num, .int .i64 c.ths, .int .i64 c.nxt, .int .i64 c.bas, .slice pa c.revs.length pc, .string c.sig] 77)).alloc (Obj.cells #[.string ⟨#[]⟩, .int .i64 0, .int .i64 0, .int .i64 0, .int .i64 0, .slice none 0 0, .string ⟨#[]⟩] 49)) 49 #[.string c.issuer, .int .i64 c.num, .int .i64 c.ths, .int .i64 c.nxt, .int .i64 c.bas, .slice none 0 0, .string ⟨#[]⟩]
      rw [e1] at h
      exact h
  clear hW3 e0 e1
  have wd1 : w.heap.size ≠ w.heap.size + 1 + 1 := by omega
  have wd2 : w.heap.size + 1 ≠ w.heap.size + 1 + 1 := by omega
  refine (toRevS_any pa c.revs c.revs.length pc B W3 rfl HA.out.2 (Nat.le_trans hB G0.out.1.2.2.2.size) (HA.out.1.below (G0.out.1.2.2.2.mono hB))).mono ?_
  rintro r u2 ⟨p, rfl, op, hb⟩
  have F2 : Hid ((Blk u2 w.heap.size 77 #[.string c.issuer, .int .i64 c.num, .int .i64 c.ths, .int .i64 c.nxt, .int .i64 c.bas, .slice pa c.revs.length pc, .string c.sig] ∧ Blk u2 (w.heap.size + 1) 49 #[.string ⟨#[]⟩, .int .i64 0, .int .i64 0, .int .i64 0, .int .i64 0, .slice none 0 0, .string ⟨#[]⟩] ∧ Blk u2 (w.heap.size + 1 + 1) 49 #[.string c.issuer, .int .i64 c.num, .int .i64 c.ths, .int .i64 c.nxt, .int .i64 c.bas, .slice none 0 0, .string ⟨#[]⟩] ∧ Below w.heap.size w u2) ∧ w.heap.size + 1 + 1 + 1 ≤ u2.heap.size ∧ OwnR u2 (w.heap.size + 1 + 1 + 1) p c.revs) := by
    have hz := G0.out.2
    exact ⟨⟨G0.out.1.1.below hb (by omega), G0.out.1.2.1.below hb (by omega), G0.out.1.2.2.1.below hb (by omega), G0.out.1.2.2.2.trans (hb.mono G0.out.1.2.2.2.size)⟩, Nat.le_trans hz hb.size, op.base hz⟩
  clear op hb G0
  have fr := fun j => F2.out.1.2.2.1.free j
  have f1 := fun j => F2.out.1.2.1.free j
  obtain ⟨qp, mp, hsp⟩ : ∃ ao cap, p = .slice ao c.revs.length cap := by obtain ⟨ao, cap, h, _⟩ := F2.out.2.2.at; exact ⟨ao, cap, h⟩
  obtain ⟨lp, hlp⟩ : ∃ l, c.revs.length = l := ⟨_, rfl⟩
  rw [hlp] at hsp
  clear hlp
  subst hsp
  have ca : u2.cell? ⟨w.heap.size, 6, none⟩ = some (.string c.sig) := F2.out.1.1.cell 6
  have c10 : u2.cell? ⟨w.heap.size + 1, 0, none⟩ = some (.string ⟨#[]⟩) := F2.out.1.2.1.cell 0
  have c20 : u2.cell? ⟨w.heap.size + 1 + 1, 0, none⟩ = some (.string c.issuer) := F2.out.1.2.2.1.cell 0
  have c11 : u2.cell? ⟨w.heap.size + 1, 1, none⟩ = some (.int .i64 0) := F2.out.1.2.1.cell 1
  have c21 : u2.cell? ⟨w.heap.size + 1 + 1, 1, none⟩ = some (.int .i64 c.num) := F2.out.1.2.2.1.cell 1
  have c12 : u2.cell? ⟨w.heap.size + 1, 2, none⟩ = some (.int .i64 0) := F2.out.1.2.1.cell 2
  have c22 : u2.cell? ⟨w.heap.size + 1 + 1, 2, none⟩ = some (.int .i64 c.ths) := F2.out.1.2.2.1.cell 2
  have c13 : u2.cell? ⟨w.heap.size + 1, 3, none⟩ = some (.int .i64 0) := F2.out.1.2.1.cell 3
  have c23 : u2.cell? ⟨w.heap.size + 1 + 1, 3, none⟩ = some (.int .i64 c.nxt) := F2.out.1.2.2.1.cell 3
  have c14 : u2.cell? ⟨w.heap.size + 1, 4, none⟩ = some (.int .i64 0) := F2.out.1.2.1.cell 4
  have c24 : u2.cell? ⟨w.heap.size + 1 + 1, 4, none⟩ = some (.int .i64 c.bas) := F2.out.1.2.2.1.cell 4
  have c15 : u2.cell? ⟨w.heap.size + 1, 5, none⟩ = some (.slice none 0 0) := F2.out.1.2.1.cell 5
  have c25 : u2.cell? ⟨w.heap.size + 1 + 1, 5, none⟩ = some (.slice none 0 0) := F2.out.1.2.2.1.cell 5
  have c16 : u2.cell? ⟨w.heap.size + 1, 6, none⟩ = some (.string ⟨#[]⟩) := F2.out.1.2.1.cell 6
  have c26 : u2.cell? ⟨w.heap.size + 1 + 1, 6, none⟩ = some (.string ⟨#[]⟩) := F2.out.1.2.2.1.cell 6
  go_wp2_with fail
  refine bodyPost_ret (v := clV c (.slice qp lp mp)) (by simp [results, Tryz.results59, go_sem, clV, c10, c11, c12, c13, c14, c15, c16]) rfl ⟨_, rfl, ⟨_, rfl, (F2.out.2.2.block ?far).base (by omega)⟩, ?bel⟩
  case far =>
    intro b hb
    iterate 9 rw [heap_setCell_other _ _ _ _ (by first | (show b ≠ w.heap.size + 1; omega) | (show b ≠ w.heap.size + 1 + 1; omega))]
  case bel =>
    iterate 9 refine Below.setCell ?_ (by first | (show w.heap.size ≤ w.heap.size + 1; omega) | (show w.heap.size ≤ w.heap.size + 1 + 1; omega)) _
    exact F2.out.1.2.2.2
set_option maxHeartbeats 6400000 in
set_option maxRecDepth 100000 in
theorem szCrl_any (c : Cl) (v : Value) (left : Int) (w : World) (hwd : WdL c) (h0 : 0 ≤ left) (hl : left ≤ 1048576) (ha : ArgL w.heap.size w v c) :
    Calls Tryz.prog 58 #[v, .int .i64 left] w fun e w' => e = .returned (.int .i64 (szL c left)) ∧ Below w.heap.size w w' := by
  obtain ⟨pa, pc, rfl, h1⟩ := ha
  obtain ⟨_, _, hs, hpl⟩ := hwd
  have s1 : c.issuer.size ≤ 9223372036854775807 := hs _ (by simp)
  have s7 : c.sig.size ≤ 9223372036854775807 := hs _ (by simp)
  clear h1 hs
  have HW : Hid ((wtL c : Int) = c.issuer.size + c.revs.length + c.sig.size) := by show (wtL c : Int) = _; unfold wtL; omega
  unfold clV
  obtain ⟨r1, hr1⟩ : ∃ r : Int, r = left - (c.issuer.size : Int) := ⟨_, rfl⟩
  have wr1 : IntKind.i64.wrap (left - (c.issuer.size : Int)) = r1 := by rw [IntKind.wrap_i64]; omega
  by_cases g1 : r1 < 0
  · have HF : Hid (szL c left = -1) := by show szL c left = _; have hw := HW.out; unfold szL; rw [if_neg (by omega)]
    clear HW hr1
    go_enter Tryz.func58, Tryz.ntmps58
    go_wp2_with fail
    go_ret
    exact ⟨by rw [HF.out]; rfl, (Below.refl _ _).alloc (Nat.le_refl _) _⟩
  obtain ⟨r2, hr2⟩ : ∃ r : Int, r = if (c.revs.length : Int) ≤ r1 then r1 - (c.revs.length : Int) else -1 := ⟨_, rfl⟩
  have Z2 : Hid (∀ W, Below w.heap.size w W → Calls Tryz.prog 146 #[.slice pa c.revs.length pc, .int .i64 r1] W fun e w' => e = .returned (.int .i64 r2) ∧ Below W.heap.size W w') := fun W hb => by rw [hr2]; exact szRevS_any pa c.revs.length pc r1 W hpl (by omega) (by omega)
  by_cases g2 : r2 < 0
  · have HF : Hid (szL c left = -1) := by show szL c left = _; have hw := HW.out; unfold szL; rw [if_neg (by split at hr2 <;> omega)]
    clear HW hr1 hr2
    go_enter Tryz.func58, Tryz.ntmps58
    go_wp2_with fail
    obtain ⟨V, hV⟩ : ∃ V, V = w.alloc (Obj.cells #[.string c.issuer, .int .i64 c.num, .int .i64 c.ths, .int .i64 c.nxt, .int .i64 c.bas, .slice pa c.revs.length pc, .string c.sig] 77) := ⟨_, rfl⟩
    rw [← hV]
    have G : Hid (Blk V w.heap.size 77 #[.string c.issuer, .int .i64 c.num, .int .i64 c.ths, .int .i64 c.nxt, .int .i64 c.bas, .slice pa c.revs.length pc, .string c.sig] ∧ Below w.heap.size w V) := by rw [hV]; exact ⟨Blk.new w _ _, (Below.refl _ _).alloc (Nat.le_refl _) _⟩
    have hsz : w.heap.size < V.heap.size := G.out.1.lt
    clear hV
    refine (Z2.out V G.out.2).mono ?_
    rintro e V2 ⟨rfl, hb⟩
    have G2 : Hid (Blk V2 w.heap.size 77 #[.string c.issuer, .int .i64 c.num, .int .i64 c.ths, .int .i64 c.nxt, .int .i64 c.bas, .slice pa c.revs.length pc, .string c.sig] ∧ Below w.heap.size w V2) := ⟨G.out.1.below hb hsz, G.out.2.trans (hb.mono G.out.2.size)⟩
    clear hb G hsz
    go_wp2_with fail
    go_ret
    exact ⟨by rw [HF.out]; rfl, G2.out.2⟩
  have hq2 : r2 = r1 - (c.revs.length : Int) := by split at hr2 <;> omega
  clear hr2
  have hr2 := hq2
  clear hq2
  obtain ⟨r3, hr3⟩ : ∃ r : Int, r = r2 - (c.sig.size : Int) := ⟨_, rfl⟩
  have wr3 : IntKind.i64.wrap (r2 - (c.sig.size : Int)) = r3 := by rw [IntKind.wrap_i64]; omega
  by_cases g3 : r3 < 0
  · have HF : Hid (szL c left = -1) := by show szL c left = _; have hw := HW.out; unfold szL; rw [if_neg (by omega)]
    clear HW hr1 hr2 hr3
    go_enter Tryz.func58, Tryz.ntmps58
    go_wp2_with fail
    obtain ⟨V, hV⟩ : ∃ V, V = w.alloc (Obj.cells #[.string c.issuer, .int .i64 c.num, .int .i64 c.ths, .int .i64 c.nxt, .int .i64 c.bas, .slice pa c.revs.length pc, .string c.sig] 77) := ⟨_, rfl⟩
    rw [← hV]
    have G : Hid (Blk V w.heap.size 77 #[.string c.issuer, .int .i64 c.num, .int .i64 c.ths, .int .i64 c.nxt, .int .i64 c.bas, .slice pa c.revs.length pc, .string c.sig] ∧ Below w.heap.size w V) := by rw [hV]; exact ⟨Blk.new w _ _, (Below.refl _ _).alloc (Nat.le_refl _) _⟩
    have hsz : w.heap.size < V.heap.size := G.out.1.lt
    clear hV
    refine (Z2.out V G.out.2).mono ?_
    rintro e V2 ⟨rfl, hb⟩
    have G2 : Hid (Blk V2 w.heap.size 77 #[.string c.issuer, .int .i64 c.num, .int .i64 c.ths, .int .i64 c.nxt, .int .i64 c.bas, .slice pa c.revs.length pc, .string c.sig] ∧ Below w.heap.size w V2) := ⟨G.out.1.below hb hsz, G.out.2.trans (hb.mono G.out.2.size)⟩
    clear hb G hsz
    have ca : V2.cell? ⟨w.heap.size, 6, none⟩ = some (.string c.sig) := G2.out.1.cell 6
    go_wp2_with fail
    go_ret
    exact ⟨by rw [HF.out]; rfl, G2.out.2⟩
  have HF : Hid (szL c left = r3) := by show szL c left = _; have hw := HW.out; unfold szL; rw [if_pos (by omega)]; omega
  clear HW hr1 hr2 hr3
  go_enter Tryz.func58, Tryz.ntmps58
  go_wp2_with fail
  obtain ⟨V, hV⟩ : ∃ V, V = w.alloc (Obj.cells #[.string c.issuer, .int .i64 c.num, .int .i64 c.ths, .int .i64 c.nxt, .int .i64 c.bas, .slice pa c.revs.length pc, .string c.sig] 77) := ⟨_, rfl⟩
  rw [← hV]
  have G : Hid (Blk V w.heap.size 77 #[.string c.issuer, .int .i64 c.num, .int .i64 c.ths, .int .i64 c.nxt, .int .i64 c.bas, .slice pa c.revs.length pc, .string c.sig] ∧ Below w.heap.size w V) := by rw [hV]; exact ⟨Blk.new w _ _, (Below.refl _ _).alloc (Nat.le_refl _) _⟩
  have hsz : w.heap.size < V.heap.size := G.out.1.lt
  clear hV
  refine (Z2.out V G.out.2).mono ?_
  rintro e V2 ⟨rfl, hb⟩
  have G2 : Hid (Blk V2 w.heap.size 77 #[.string c.issuer, .int .i64 c.num, .int .i64 c.ths, .int .i64 c.nxt, .int .i64 c.bas, .slice pa c.revs.length pc, .string c.sig] ∧ Below w.heap.size w V2) := ⟨G.out.1.below hb hsz, G.out.2.trans (hb.mono G.out.2.size)⟩
  clear hb G hsz
  have ca : V2.cell? ⟨w.heap.size, 6, none⟩ = some (.string c.sig) := G2.out.1.cell 6
  go_wp2_with fail
  go_ret
  exact ⟨by rw [HF.out]; rfl, G2.out.2⟩
set_option maxHeartbeats 6400000 in
set_option maxRecDepth 100000 in
theorem eqCrl_same (c : Cl) (a b : Value) (w : World) (hl : c.revs.length ≤ 1000000000) (ha : ClAt w a c) (hb : ClAt w b c) :
    Calls Tryz.prog 60 #[a, b] w fun e w' => e = .returned (.bool true) ∧ Below w.heap.size w w' := by
  obtain ⟨pv, rfl, h1⟩ := ha
  obtain ⟨pu, rfl, k1⟩ := hb
  have HQ : Hid (∀ W, Below w.heap.size w W → Calls Tryz.prog 148 #[pv, pu] W (fun e w' => e = .returned (.bool true) ∧ Below W.heap.size W w')) := fun W hb => eqRevS_same pv pu c.revs W hl (h1.below hb) (k1.below hb)
  obtain ⟨lp, hlp⟩ : ∃ l, c.revs.length = l := ⟨_, rfl⟩
  obtain ⟨pa, pc, hpa, _⟩ := h1
  obtain ⟨pb, qc, hpb, _⟩ := k1
  rw [hlp] at hpa hpb
  subst hpa hpb
  clear hlp hl
  unfold clV
  go_enter Tryz.func60, Tryz.ntmps60
  go_wp2_with fail
  obtain ⟨V, hV⟩ : ∃ V, V = (w.alloc (Obj.cells #[.string c.issuer, .int .i64 c.num, .int .i64 c.ths, .int .i64 c.nxt, .int .i64 c.bas, .slice pa lp pc, .string c.sig] 49)).alloc (Obj.cells #[.string c.issuer, .int .i64 c.num, .int .i64 c.ths, .int .i64 c.nxt, .int .i64 c.bas, .slice pb lp qc, .string c.sig] 49) := ⟨_, rfl⟩
  rw [← hV]
  have G : Hid (Blk V w.heap.size 49 #[.string c.issuer, .int .i64 c.num, .int .i64 c.ths, .int .i64 c.nxt, .int .i64 c.bas, .slice pa lp pc, .string c.sig] ∧ Blk V (w.heap.size + 1) 49 #[.string c.issuer, .int .i64 c.num, .int .i64 c.ths, .int .i64 c.nxt, .int .i64 c.bas, .slice pb lp qc, .string c.sig] ∧ Below w.heap.size w V ∧ w.heap.size + 1 < V.heap.size) := by
    have e0 : (w.alloc (Obj.cells #[.string c.issuer, .int .i64 c.num, .int .i64 c.ths, .int .i64 c.nxt, .int .i64 c.bas, .slice pa lp pc, .string c.sig] 49)).heap.size = w.heap.size + 1 := Array.size_push _
    have h := Blk.new (w.alloc (Obj.cells #[.string c.issuer, .int .i64 c.num, .int .i64 c.ths, .int .i64 c.nxt, .int .i64 c.bas, .slice pa lp pc, .string c.sig] 49)) 49 #[.string c.issuer, .int .i64 c.num, .int .i64 c.ths, .int .i64 c.nxt, .int .i64 c.bas, .slice pb lp qc, .string c.sig]
    rw [e0] at h
    rw [hV]
    exact ⟨(Blk.new w _ _).alloc _, h, ((Below.refl _ _).alloc (Nat.le_refl _) _).alloc (by rw [e0]; omega) _, by rw [size_alloc, e0]; omega⟩
  clear hV
  refine (HQ.out V G.out.2.2.1).mono ?_
  rintro e V2 ⟨rfl, hb⟩
  have G2 : Hid (Blk V2 w.heap.size 49 #[.string c.issuer, .int .i64 c.num, .int .i64 c.ths, .int .i64 c.nxt, .int .i64 c.bas, .slice pa lp pc, .string c.sig] ∧ Blk V2 (w.heap.size + 1) 49 #[.string c.issuer, .int .i64 c.num, .int .i64 c.ths, .int .i64 c.nxt, .int .i64 c.bas, .slice pb lp qc, .string c.sig] ∧ Below w.heap.size w V2 ∧ w.heap.size + 1 < V2.heap.size) := ⟨G.out.1.below hb (by have := G.out.2.2.2; omega), G.out.2.1.below hb G.out.2.2.2, G.out.2.2.1.trans (hb.mono G.out.2.2.1.size), Nat.lt_of_lt_of_le G.out.2.2.2 hb.size⟩
  clear hb G
  have ca : V2.cell? ⟨w.heap.size, 6, none⟩ = some (.string c.sig) := G2.out.1.cell 6
  have cb : V2.cell? ⟨w.heap.size + 1, 6, none⟩ = some (.string c.sig) := G2.out.2.1.cell 6
  go_wp2_with fail
  go_ret
  exact ⟨rfl, G2.out.2.2.1⟩
/-- A list whose row is marked from k on. -/
def mkL (k : Nat) (c : Cl) : Cl := { c with revs := marksR k c.revs.length }
/-- The block that a list's row takes. -/
def fpL (v : Value) : List Nat := match v with
  | .agg a => (a.getD 5 (.slice none 0 0)).ownBlock.toList
  | _ => []
theorem fpL_mem {c : Cl} {p : Value} {g : Nat} : g ∈ fpL (clV c p) ↔ p.ownBlock = some g := by
  show g ∈ p.ownBlock.toList ↔ _
  simp [Option.mem_toList]
theorem fpL_lt {w : World} {base : Nat} {v : Value} {c : Cl} (h : OwnL w base v c) : ∀ b ∈ fpL v, base ≤ b ∧ b < w.heap.size := by
  obtain ⟨p, rfl, h1⟩ := h
  intro b hb
  exact World.ownsRow.lt h1 b (fpL_mem.1 hb)
theorem OwnL.out {w w' : World} {base : Nat} {v : Value} {c : Cl} {fp : List Nat} (h : OwnL w base v c) (ho : Out fp w w') (hn : ∀ b ∈ fpL v, b ∉ fp) : OwnL w' base v c := by
  obtain ⟨p, rfl, h1⟩ := h
  exact ⟨p, rfl, ho.row (fun g hg => hn g (fpL_mem.2 hg)) h1⟩
set_option maxHeartbeats 3200000 in
set_option maxRecDepth 100000 in
theorem markCrl_out (c : Cl) (v : Value) (k base : Nat) (w : World) (hl : c.revs.length ≤ 20000000) (hk : k ≤ 100000000) (ha : OwnL w base v c) :
    Calls Tryz.prog 61 #[v, .int .i64 k] w fun e w' => e = .returned (.int .i64 (((k + 2 * c.revs.length : Nat)) : Int)) ∧ OwnL w' base v (mkL k c) ∧ Out (fpL v) w w' := by
  obtain ⟨p, rfl, h1⟩ := ha
  obtain ⟨ap, cp, hp⟩ : ∃ ao cap, p = .slice ao c.revs.length cap := by obtain ⟨ao, cap, h, _⟩ := h1.at; exact ⟨ao, cap, h⟩
  obtain ⟨lp, hlp⟩ : ∃ l, c.revs.length = l := ⟨_, rfl⟩
  rw [hlp] at hp
  subst hp
  have HB : Hid (∀ g, (Value.slice ap lp cp).ownBlock = some g → g < w.heap.size) := fun g hg => (World.ownsRow.lt h1 g hg).2
  have HA : Hid (OwnR w base (.slice ap lp cp) c.revs ∧ c.revs.length = lp) := ⟨h1, hlp⟩
  rw [hlp] at hl
  have hm : mkL k c = { c with revs := marksR k lp } := by unfold mkL; rw [hlp]
  rw [hm, hlp]
  clear h1 hm hlp
  unfold clV
  go_enter Tryz.func61, Tryz.ntmps61
  go_wp2_with fail
  obtain ⟨V, hV⟩ : ∃ V, V = w.alloc (Obj.cells #[.string c.issuer, .int .i64 c.num, .int .i64 c.ths, .int .i64 c.nxt, .int .i64 c.bas, .slice ap lp cp, .string c.sig] 49) := ⟨_, rfl⟩
  rw [← hV]
  have G : Hid (Out (fpL (clV c (.slice ap lp cp))) w V ∧ OwnR V base (.slice ap lp cp) c.revs) := by
    have hb : Below w.heap.size w V := by rw [hV]; exact (Below.refl _ _).alloc (Nat.le_refl _) _
    exact ⟨Out.of_below hb, HA.out.1.stays hb⟩
  clear hV
  have E0 := markR_any (.slice ap lp cp) c.revs k base V (by rw [HA.out.2]; omega) (by omega) G.out.2
  rw [HA.out.2] at E0
  refine E0.mono ?_
  rintro r u0 ⟨rfl, ho, hg⟩
  have G0 : Hid (Out (fpL (clV c (.slice ap lp cp))) w u0 ∧ OwnR u0 base (.slice ap lp cp) (marksR k lp)) := ⟨G.out.1.grown hg (fun q hq => fpL_mem.2 hq), ho⟩
  clear ho hg G E0
  obtain ⟨KK, hKK⟩ : ∃ K : Int, ((k + 2 * lp : Nat) : Int) = K := ⟨_, rfl⟩
  rw [hKK]
  have HKK : Hid (((k + 2 * lp : Nat) : Int) = KK) := hKK
  clear hKK
  go_wp2_with fail
  go_ret
  exact ⟨by rw [HKK.out]; rfl, ⟨_, rfl, G0.out.2⟩, G0.out.1⟩
set_option maxHeartbeats 3200000 in
set_option maxRecDepth 100000 in
theorem heldCrl_same (c : Cl) (v : Value) (k : Nat) (w : World) (hl : c.revs.length ≤ 20000000) (hk : k ≤ 100000000) (ha : ClAt w v (mkL k c)) :
    Calls Tryz.prog 62 #[v, .int .i64 k] w fun e w' => e = .returned (.int .i64 (((k + 2 * c.revs.length : Nat)) : Int)) ∧ Below w.heap.size w w' := by
  obtain ⟨p, rfl, h1⟩ := ha
  change RevAt w p (marksR k c.revs.length) at h1
  obtain ⟨ap, cp, hp⟩ : ∃ ao cap, p = .slice ao c.revs.length cap := by obtain ⟨ao, cap, h, _⟩ := h1; exact ⟨ao, cap, by rw [marksR_len] at h; exact h⟩
  obtain ⟨lp, hlp⟩ : ∃ l, c.revs.length = l := ⟨_, rfl⟩
  rw [hlp] at hp
  subst hp
  rw [hlp] at h1 hl ⊢
  obtain ⟨KK, hKK⟩ : ∃ K : Int, ((k + 2 * lp : Nat) : Int) = K := ⟨_, rfl⟩
  have hK0 : ¬ KK < 0 := by omega
  have HQ : Hid (∀ W, Below w.heap.size w W → Calls Tryz.prog 150 #[.slice ap lp cp, .int .i64 (k : Int)] W (fun e w' => e = .returned (.int .i64 KK) ∧ Below W.heap.size W w')) := fun W hb => by rw [← hKK]; exact heldR_same _ lp k W (by omega) (by omega) (h1.below hb)
  rw [hKK]
  clear h1 hlp hKK
  show Calls Tryz.prog 62 #[clV c (.slice ap lp cp), .int .i64 k] w _
  unfold clV
  go_enter Tryz.func62, Tryz.ntmps62
  go_wp2_with fail
  obtain ⟨V, hV⟩ : ∃ V, V = w.alloc (Obj.cells #[.string c.issuer, .int .i64 c.num, .int .i64 c.ths, .int .i64 c.nxt, .int .i64 c.bas, .slice ap lp cp, .string c.sig] 49) := ⟨_, rfl⟩
  rw [← hV]
  have G : Hid (Below w.heap.size w V) := by rw [hV]; exact (Below.refl _ _).alloc (Nat.le_refl _) _
  clear hV
  refine (HQ.out V G.out).mono ?_
  rintro r u0 ⟨rfl, hb⟩
  have G0 : Hid (Below w.heap.size w u0) := G.out.trans (hb.mono G.out.size)
  clear hb G
  go_wp2_with fail
  go_ret
  exact ⟨rfl, G0.out⟩
end Go.Proofs.YtfgkpjjjjnollaaGreatDoor

/-
  'append(out, list...)' of a list of numbers that a call owns, nil or not.
-/
namespace Go.Proofs.YtfgkpjjjjnollaaGreatDoor
open Go.RowKit
theorem wpList_append_list {w : World} {ops : Array Oper} {rest : List Oper} {o : Oper} {a : Act} {Q : Exit → Act → World → Prop} (hgd : o.guard = none) (s x : Operand) (t : TypeId)
    (ho : o.op = .call { callee := .builtin .append, args := #[s, x], argTypes := #[t, t] }) (base : Nat) (i0 : TypeInfo) (ht : Tryz.prog.underlying t = some (.slice 3)) (hi : Tryz.prog.info? 3 = some i0) (hz0 : i0.zero = some (.int .i64 0)) (hz1 : i0.size = 1) (hz2 : i0.bytes = 8)
    (v : Value) (n : Nat) (xs : List Value) (hs : a.eval s = v) (hown : w.ownsRow base 3 1 v n xs) (u : Value) (lu : List Int) (bu : Nat) (hu : OwnI w bu u lu) (hx : a.eval x = u) (hlen : n + lu.length ≤ 1000000) (hbase : base ≤ w.heap.size)
    (h : ∀ v' w', w'.ownsRow base 3 1 v' (n + lu.length) (xs ++ cellsI lu) → w.grownBy w' v.ownBlock → wpList Tryz.prog ops Q rest (a.put o.dst v') w') : wpList Tryz.prog ops Q (o :: rest) a w := by
  rcases hu.2 with ⟨rfl, h0⟩ | ⟨g, cap, cur, rfl, hbg, hg, hn, hm, hsz, htk⟩
  · have hl : lu = [] := List.eq_nil_of_length_eq_zero h0
    subst hl
    refine wpList_append_own_none hgd s x t ho base 3 i0 1 ht hi v n xs hs hown hx (h v w (by simpa [cellsI] using hown) (World.grownBy.refl _ _))
  · refine wpList_append_own w hgd s x t ho base 3 i0 (.int .i64 0) 1 8 ht hi hz0 hz1 hz2 rfl (by decide) v n xs hs hown ⟨g, 0, none⟩ lu.length cap (cellsI lu) hx (by simp [cellsI]) (fun j q hq => ?_) (fun q hq => ?_) (by unfold maxLen; omega) (by omega) hbase (fun v' w' h1 h2 _ => h v' w' h1 h2)
    · have hj : j < lu.length := by
        refine Nat.lt_of_not_le fun h => ?_
        rw [List.getElem?_eq_none (by rw [cellsI_len]; exact h)] at hq
        cases hq
      rw [Addr.add_lit, Nat.zero_add, hu.cell hj, ← hq, cellsI_getD hj]
    · obtain ⟨y, _, rfl⟩ := List.mem_map.1 hq
      rfl
end Go.Proofs.YtfgkpjjjjnollaaGreatDoor

/-
  Pairs appended; the specification's l10Copy.
-/
namespace Go.Proofs.YtfgkpjjjjnollaaGreatDoor
open Go.RowKit
set_option linter.unusedVariables false

theorem revs_one (l : List (Int × Int)) : ∀ q ∈ cellsR l, q.oneCell' = true := by
  intro q hq
  unfold cellsR at hq
  obtain ⟨p, _, hp⟩ := List.mem_flatMap.1 hq
  simp only [List.mem_cons, List.not_mem_nil, or_false] at hp
  rcases hp with rfl | rfl <;> rfl
theorem wpList_append_revs {w : World} {ops : Array Oper} {rest : List Oper} {o : Oper} {a : Act} {Q : Exit → Act → World → Prop} (hgd : o.guard = none) (s x : Operand)
    (ho : o.op = .call { callee := .builtin .append, args := #[s, x], argTypes := #[47, 47] }) (base : Nat)
    (v : Value) (n : Nat) (xs : List Value) (hs : a.eval s = v) (hown : w.ownsRow base 145 2 v n xs) (u : Value) (lu : List (Int × Int)) (bu : Nat) (hu : OwnR w bu u lu) (hx : a.eval x = u) (hlen : n + lu.length ≤ 100000000) (hbase : base ≤ w.heap.size)
    (h : ∀ v' w', w'.ownsRow base 145 2 v' (n + lu.length) (xs ++ cellsR lu) → w.grownBy w' v.ownBlock → wpList Tryz.prog ops Q rest (a.put o.dst v') w') : wpList Tryz.prog ops Q (o :: rest) a w := by
  obtain ⟨i0, hi, hz0, hz1, hz2⟩ := info_parts infoRev
  rcases hu.2 with ⟨rfl, h0⟩ | ⟨g, cap, cur, rfl, hbg, hg, hn, hm, hsz, htk⟩
  · have hl : lu = [] := List.eq_nil_of_length_eq_zero h0
    subst hl
    refine wpList_append_own_none hgd s x 47 ho base 145 i0 2 Tryz.underlying47 hi v n xs hs hown hx (h v w (by simpa [cellsR] using hown) (World.grownBy.refl _ _))
  · refine wpList_append_own w hgd s x 47 ho base 145 i0 (.agg #[.int .i64 0, .int .i64 0]) 2 16 Tryz.underlying47 hi hz0 hz1 hz2 rfl (by decide) v n xs hs hown ⟨g, 0, none⟩ lu.length cap (cellsR lu) hx (by rw [cellsR_len]) (fun j q hq => ?_) (revs_one lu) (by unfold maxLen; omega) (by omega) hbase (fun v' w' h1 h2 _ => h v' w' h1 h2)
    have hj : j < lu.length * 2 := by
      refine Nat.lt_of_not_le fun h => ?_
      rw [List.getElem?_eq_none (by rw [cellsR_len]; exact h)] at hq
      cases hq
    rw [Addr.add_lit, Nat.zero_add, World.ownsRow.cellAt hu j hj]
    exact hq
set_option maxHeartbeats 6400000 in
set_option maxRecDepth 100000 in
theorem crlCopy_any (c : Cl) (v : Value) (bs : Nat) (w : World) (hl : c.revs.length ≤ 20000000) (ha : OwnL w bs v c) :
    Calls Tryz.prog 133 #[v] w fun e w' => ∃ u, e = .returned u ∧ OwnL w' w.heap.size u c ∧ Below w.heap.size w w' := by
  obtain ⟨pv, rfl, h1⟩ := ha
  obtain ⟨pa, pc, hpv, -, -, -⟩ := OwnR.shape h1
  obtain ⟨lp, hlp⟩ : ∃ l, c.revs.length = l := ⟨_, rfl⟩
  rw [hlp] at hpv
  subst hpv
  have HO : Hid (OwnR w bs (.slice pa lp pc) c.revs ∧ c.revs.length = lp ∧ c.revs.length ≤ 20000000) := ⟨h1, hlp, hl⟩
  clear h1 hlp hl
  unfold clV
  go_enter Tryz.func133, Tryz.ntmps133
  obtain ⟨W3, hW3⟩ : ∃ W, W = ((w.alloc (Obj.cells #[.string c.issuer, .int .i64 c.num, .int .i64 c.ths, .int .i64 c.nxt, .int .i64 c.bas, .slice pa lp pc, .string c.sig] 49)).alloc (Obj.cells #[.string ⟨#[]⟩, .int .i64 0, .int .i64 0, .int .i64 0, .int .i64 0, .slice none 0 0, .string ⟨#[]⟩] 49)).alloc (Obj.cells #[.string c.issuer, .int .i64 c.num, .int .i64 c.ths, .int .i64 c.nxt, .int .i64 c.bas, .slice pa lp pc, .string c.sig] 49) := ⟨_, rfl⟩
  have e0 : (w.alloc (Obj.cells #[.string c.issuer, .int .i64 c.num, .int .i64 c.ths, .int .i64 c.nxt, .int .i64 c.bas, .slice pa lp pc, .string c.sig] 49)).heap.size = w.heap.size + 1 := Array.size_push _
  have e1 : ((w.alloc (Obj.cells #[.string c.issuer, .int .i64 c.num, .int .i64 c.ths, .int .i64 c.nxt, .int .i64 c.bas, .slice pa lp pc, .string c.sig] 49)).alloc (Obj.cells #[.string ⟨#[]⟩, .int .i64 0, .int .i64 0, .int .i64 0, .int .i64 0, .slice none 0 0, .string ⟨#[]⟩] 49)).heap.size = w.heap.size + 1 + 1 := by rw [size_alloc, e0]
  have G0 : Hid (Blk W3 w.heap.size 49 #[.string c.issuer, .int .i64 c.num, .int .i64 c.ths, .int .i64 c.nxt, .int .i64 c.bas, .slice pa lp pc, .string c.sig] ∧ Blk W3 (w.heap.size + 1) 49 #[.string ⟨#[]⟩, .int .i64 0, .int .i64 0, .int .i64 0, .int .i64 0, .slice none 0 0, .string ⟨#[]⟩] ∧ Blk W3 (w.heap.size + 1 + 1) 49 #[.string c.issuer, .int .i64 c.num, .int .i64 c.ths, .int .i64 c.nxt, .int .i64 c.bas, .slice pa lp pc, .string c.sig] ∧ Below w.heap.size w W3 ∧ w.heap.size + 3 ≤ W3.heap.size) := by
    rw [hW3]
    refine ⟨((Blk.new w _ _).alloc _).alloc _, ?_, ?_, (((Below.refl _ _).alloc (Nat.le_refl _) _).alloc (by rw [e0]; omega) _).alloc (by rw [e1]; omega) _, by rw [size_alloc, e1]; omega⟩
    · have h := (Blk.new (w.alloc (Obj.cells #[.string c.issuer, .int .i64 c.num, .int .i64 c.ths, .int .i64 c.nxt, .int .i64 c.bas, .slice pa lp pc, .string c.sig] 49)) 49 #[.string ⟨#[]⟩, .int .i64 0, .int .i64 0, .int .i64 0, .int .i64 0, .slice none 0 0, .string ⟨#[]⟩]).alloc (Obj.cells #[.string c.issuer, .int .i64 c.num, .int .i64 c.ths, .int .i64 c.nxt, .int .i64 c.bas, .slice pa lp pc, .string c.sig] 49)
      rw [e0] at h
      exact h
    · have h := Blk.new ((w.alloc (Obj.cells #[.string c.issuer, .int .i64 c.num, .int .i64 c.ths, .int .i64 c.nxt, .int .i64 c.bas, .slice pa lp pc, .string c.sig] 49)).alloc (Obj.cells #[.string ⟨#[]⟩, .int .i64 0, .int .i64 0, .int .i64 0, .int .i64 0, .slice none 0 0, .string ⟨#[]⟩] 49)) 49 #[.string c.issuer, .int .i64 c.num, .int .i64 c.ths, .int .i64 c.nxt, .int .i64 c.bas, .slice pa lp pc, .string c.sig]
      rw [e1] at h
      exact h
  obtain ⟨W4, hW4⟩ : ∃ W, W = W3.alloc (Obj.cells #[] 145) := ⟨_, rfl⟩
  have hb4 : Below W3.heap.size W3 W4 := by rw [hW4]; exact (Below.refl _ _).alloc (Nat.le_refl _) _
  have H4 : Hid ((Blk W4 w.heap.size 49 #[.string c.issuer, .int .i64 c.num, .int .i64 c.ths, .int .i64 c.nxt, .int .i64 c.bas, .slice pa lp pc, .string c.sig] ∧ Blk W4 (w.heap.size + 1) 49 #[.string ⟨#[]⟩, .int .i64 0, .int .i64 0, .int .i64 0, .int .i64 0, .slice none 0 0, .string ⟨#[]⟩] ∧ Blk W4 (w.heap.size + 1 + 1) 49 #[.string c.issuer, .int .i64 c.num, .int .i64 c.ths, .int .i64 c.nxt, .int .i64 c.bas, .slice pa lp pc, .string c.sig] ∧ Below w.heap.size w W4 ∧ w.heap.size + 3 ≤ W4.heap.size) ∧ W4.ownsRow (w.heap.size + 3) 145 2 (.slice (some ⟨w.heap.size + 1 + 1 + 1, 0, none⟩) 0 0) 0 [] ∧ OwnR W4 bs (.slice pa lp pc) c.revs ∧ W3.heap.size = w.heap.size + 1 + 1 + 1) := by
    have hs3 : W3.heap.size = w.heap.size + 1 + 1 + 1 := by rw [hW3, size_alloc, e1]
    refine ⟨⟨G0.out.1.below hb4 G0.out.1.lt, G0.out.2.1.below hb4 G0.out.2.1.lt, G0.out.2.2.1.below hb4 G0.out.2.2.1.lt, G0.out.2.2.2.1.trans (hb4.mono G0.out.2.2.2.1.size), Nat.le_trans G0.out.2.2.2.2 hb4.size⟩, ?_, ?_, hs3⟩
    · rw [hW4]
      have h := World.ownsRow_made (base := w.heap.size + 3) (e := 145) (size := 2) W3 #[] 0 G0.out.2.2.2.2 (Nat.zero_le _) rfl
      rw [hs3] at h
      exact h
    · exact HO.out.1.stays (G0.out.2.2.2.1.trans (hb4.mono G0.out.2.2.2.1.size))
  clear hb4 G0 e0 e1
  have a5 : W4.cell? ⟨w.heap.size, 5, none⟩ = some (.slice pa lp pc) := H4.out.1.1.cell 5
  go_wp2_with (at_builtin; rw [← hW3]; rw [← hW4]; refine wpList_append_revs rfl _ _ rfl (w.heap.size + 3) (.slice (some ⟨w.heap.size + 1 + 1 + 1, 0, none⟩) 0 0) 0 [] rfl H4.out.2.1 _ c.revs bs H4.out.2.2.1 rfl (by have := HO.out.2.2; omega) H4.out.1.2.2.2.2 ?_)
  intro v9 w9 ho9 hg9
  try rw [← hW3] at hg9
  try rw [← hW4] at hg9
  have H9 : Hid ((Blk w9 w.heap.size 49 #[.string c.issuer, .int .i64 c.num, .int .i64 c.ths, .int .i64 c.nxt, .int .i64 c.bas, .slice pa lp pc, .string c.sig] ∧ Blk w9 (w.heap.size + 1) 49 #[.string ⟨#[]⟩, .int .i64 0, .int .i64 0, .int .i64 0, .int .i64 0, .slice none 0 0, .string ⟨#[]⟩] ∧ Blk w9 (w.heap.size + 1 + 1) 49 #[.string c.issuer, .int .i64 c.num, .int .i64 c.ths, .int .i64 c.nxt, .int .i64 c.bas, .slice pa lp pc, .string c.sig] ∧ Below w.heap.size w w9 ∧ w.heap.size + 3 ≤ w9.heap.size) ∧ OwnR w9 (w.heap.size + 3) v9 c.revs) := by
    have hrl := fun b hb => (World.ownsRow.lt H4.out.2.1 b hb).1
    have hH := H4.out.1
    refine ⟨⟨(hg9.block _ hH.1.lt (fun e => by have := hrl _ e.symm; omega)).trans hH.1, (hg9.block _ hH.2.1.lt (fun e => by have := hrl _ e.symm; omega)).trans hH.2.1, (hg9.block _ hH.2.2.1.lt (fun e => by have := hrl _ e.symm; omega)).trans hH.2.2.1, hH.2.2.2.1.grown hg9 hH.2.2.2.1.size (fun b hb => by have := hrl b hb; omega), Nat.le_trans hH.2.2.2.2 hg9.size⟩, ?_⟩
    simpa [OwnR] using ho9
  clear ho9 hg9 H4 a5
  obtain ⟨qa, qc, hq9, -, -, -⟩ := OwnR.shape H9.out.2
  obtain ⟨ql, hql⟩ : ∃ l, c.revs.length = l := ⟨_, rfl⟩
  rw [hql] at hq9
  clear hql
  subst hq9
  have b0 : w9.cell? ⟨w.heap.size + 1, 0, none⟩ = some (.string ⟨#[]⟩) := H9.out.1.2.1.cell 0
  have b1 : w9.cell? ⟨w.heap.size + 1, 1, none⟩ = some (.int .i64 0) := H9.out.1.2.1.cell 1
  have b2 : w9.cell? ⟨w.heap.size + 1, 2, none⟩ = some (.int .i64 0) := H9.out.1.2.1.cell 2
  have b3 : w9.cell? ⟨w.heap.size + 1, 3, none⟩ = some (.int .i64 0) := H9.out.1.2.1.cell 3
  have b4 : w9.cell? ⟨w.heap.size + 1, 4, none⟩ = some (.int .i64 0) := H9.out.1.2.1.cell 4
  have b5 : w9.cell? ⟨w.heap.size + 1, 5, none⟩ = some (.slice none 0 0) := H9.out.1.2.1.cell 5
  have b6 : w9.cell? ⟨w.heap.size + 1, 6, none⟩ = some (.string ⟨#[]⟩) := H9.out.1.2.1.cell 6
  have d0 : w9.cell? ⟨w.heap.size + 1 + 1, 0, none⟩ = some (.string c.issuer) := H9.out.1.2.2.1.cell 0
  have d1 : w9.cell? ⟨w.heap.size + 1 + 1, 1, none⟩ = some (.int .i64 c.num) := H9.out.1.2.2.1.cell 1
  have d2 : w9.cell? ⟨w.heap.size + 1 + 1, 2, none⟩ = some (.int .i64 c.ths) := H9.out.1.2.2.1.cell 2
  have d3 : w9.cell? ⟨w.heap.size + 1 + 1, 3, none⟩ = some (.int .i64 c.nxt) := H9.out.1.2.2.1.cell 3
  have d4 : w9.cell? ⟨w.heap.size + 1 + 1, 4, none⟩ = some (.int .i64 c.bas) := H9.out.1.2.2.1.cell 4
  have d5 : w9.cell? ⟨w.heap.size + 1 + 1, 5, none⟩ = some (.slice pa lp pc) := H9.out.1.2.2.1.cell 5
  have d6 : w9.cell? ⟨w.heap.size + 1 + 1, 6, none⟩ = some (.string c.sig) := H9.out.1.2.2.1.cell 6
  have fb := fun j => H9.out.1.2.1.free j
  have fd := fun j => H9.out.1.2.2.1.free j
  have wd1 : w.heap.size ≠ w.heap.size + 1 + 1 := by omega
  have wd2 : w.heap.size + 1 ≠ w.heap.size + 1 + 1 := by omega
  go_wp2_with fail
  refine bodyPost_ret (v := clV c (.slice qa ql qc)) (by simp [results, Tryz.results133, go_sem, clV, b0, b1, b2, b3, b4, b5, b6]) rfl ⟨_, rfl, ⟨_, rfl, (H9.out.2.block ?far).base (by omega)⟩, ?bel⟩
  case far =>
    intro b hb
    iterate 8 rw [heap_setCell_other _ _ _ _ (by first | (show b ≠ w.heap.size + 1; omega) | (show b ≠ w.heap.size + 1 + 1; omega))]
  case bel =>
    iterate 8 refine Below.setCell ?_ (by first | (show w.heap.size ≤ w.heap.size + 1; omega) | (show w.heap.size ≤ w.heap.size + 1 + 1; omega)) _
    exact H9.out.1.2.2.2.1
end Go.Proofs.YtfgkpjjjjnollaaGreatDoor
