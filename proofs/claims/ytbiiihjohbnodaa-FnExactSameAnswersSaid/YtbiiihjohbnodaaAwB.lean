/-
  The laws' toAnswer, szAnswer, eqAnswer.
-/
import Derived.Test.YtbiiihjohbnodaaAwA
namespace Go.Proofs.Ytbiiihjohbnodaa
open Go.RowKit
set_option linter.unusedVariables false
set_option linter.unusedSimpArgs false

set_option maxHeartbeats 6400000 in
set_option maxRecDepth 100000 in
theorem toAnswer_any (c : Aw) (v : Value) (B : Nat) (w : World) (hl : c.path.length ≤ 1048576 ∧ c.lst.length ≤ 1048576) (hB : B ≤ w.heap.size) (ha : ArgAw B w v c) :
    Calls Try.prog 74 #[v] w fun e w' => ∃ u, e = .returned u ∧ OwnAw w' w.heap.size u c ∧ Below w.heap.size w w' := by
  obtain ⟨pa, pc, ea, ec, rfl, h1, h2⟩ := ha
  have HA : Hid (ArgT B w pa c.path ∧ ArgT B w ea c.lst ∧ c.path.length ≤ 1048576 ∧ c.lst.length ≤ 1048576) := ⟨h1, h2, hl⟩
  clear h1 h2 hl
  unfold awV
  go_enter Try.func74, Try.ntmps74
  go_wp2_with fail
  obtain ⟨W3, hW3⟩ : ∃ W, W = ((w.alloc (Obj.cells #[.int .i64 c.status, .int .i64 c.why, .slice pa c.path.length pc, .slice ea c.lst.length ec] 96)).alloc (Obj.cells #[.int .i64 0, .int .i64 0, .slice none 0 0, .slice none 0 0] 84)).alloc (Obj.cells #[.int .i64 c.status, .int .i64 c.why, .slice none 0 0, .slice none 0 0] 84) := ⟨_, rfl⟩
  change Calls _ _ _ (((w.alloc (Obj.cells #[.int .i64 c.status, .int .i64 c.why, .slice pa c.path.length pc, .slice ea c.lst.length ec] 96)).alloc (Obj.cells #[.int .i64 0, .int .i64 0, .slice none 0 0, .slice none 0 0] 84)).alloc (Obj.cells #[.int .i64 c.status, .int .i64 c.why, .slice none 0 0, .slice none 0 0] 84)) _
  rw [← hW3]
  have e0 : (w.alloc (Obj.cells #[.int .i64 c.status, .int .i64 c.why, .slice pa c.path.length pc, .slice ea c.lst.length ec] 96)).heap.size = w.heap.size + 1 := Array.size_push _
  have e1 : ((w.alloc (Obj.cells #[.int .i64 c.status, .int .i64 c.why, .slice pa c.path.length pc, .slice ea c.lst.length ec] 96)).alloc (Obj.cells #[.int .i64 0, .int .i64 0, .slice none 0 0, .slice none 0 0] 84)).heap.size = w.heap.size + 1 + 1 := by rw [size_alloc, e0]
  have G0 : Hid ((Blk W3 w.heap.size 96 #[.int .i64 c.status, .int .i64 c.why, .slice pa c.path.length pc, .slice ea c.lst.length ec] ∧ Blk W3 (w.heap.size + 1) 84 #[.int .i64 0, .int .i64 0, .slice none 0 0, .slice none 0 0] ∧ Blk W3 (w.heap.size + 1 + 1) 84 #[.int .i64 c.status, .int .i64 c.why, .slice none 0 0, .slice none 0 0] ∧ Below w.heap.size w W3) ∧ w.heap.size + 1 + 1 + 1 ≤ W3.heap.size) := by
    rw [hW3]
    refine ⟨⟨((Blk.new w _ _).alloc _).alloc _, ?_, ?_, (((Below.refl _ _).alloc (Nat.le_refl _) _).alloc (by rw [e0]; omega) _).alloc (by rw [e1]; omega) _⟩, by rw [size_alloc, e1]; omega⟩
    · have h := (Blk.new (w.alloc (Obj.cells #[.int .i64 c.status, .int .i64 c.why, .slice pa c.path.length pc, .slice ea c.lst.length ec] 96)) 84 #[.int .i64 0, .int .i64 0, .slice none 0 0, .slice none 0 0]).alloc (Obj.cells #[.int .i64 c.status, .int .i64 c.why, .slice none 0 0, .slice none 0 0] 84)
      rw [e0] at h
      exact h
    · have h := Blk.new ((w.alloc (Obj.cells #[.int .i64 c.status, .int .i64 c.why, .slice pa c.path.length pc, .slice ea c.lst.length ec] 96)).alloc (Obj.cells #[.int .i64 0, .int .i64 0, .slice none 0 0, .slice none 0 0] 84)) 84 #[.int .i64 c.status, .int .i64 c.why, .slice none 0 0, .slice none 0 0]
      rw [e1] at h
      exact h
  clear hW3 e0 e1
  have wd1 : w.heap.size ≠ w.heap.size + 1 + 1 := by omega
  have wd2 : w.heap.size + 1 ≠ w.heap.size + 1 + 1 := by omega
  refine (toStringS_any pa c.path c.path.length pc B W3 rfl HA.out.2.2.1 (Nat.le_trans hB G0.out.1.2.2.2.size) (HA.out.1.below (G0.out.1.2.2.2.mono hB))).mono ?_
  rintro r u1 ⟨p, rfl, op, hb⟩
  have F1 : Hid ((Blk u1 w.heap.size 96 #[.int .i64 c.status, .int .i64 c.why, .slice pa c.path.length pc, .slice ea c.lst.length ec] ∧ Blk u1 (w.heap.size + 1) 84 #[.int .i64 0, .int .i64 0, .slice none 0 0, .slice none 0 0] ∧ Blk u1 (w.heap.size + 1 + 1) 84 #[.int .i64 c.status, .int .i64 c.why, .slice none 0 0, .slice none 0 0] ∧ Below w.heap.size w u1) ∧ w.heap.size + 1 + 1 + 1 ≤ u1.heap.size ∧ OwnT u1 (w.heap.size + 1 + 1 + 1) p c.path) := by
    have hz := G0.out.2
    exact ⟨⟨G0.out.1.1.below hb (by omega), G0.out.1.2.1.below hb (by omega), G0.out.1.2.2.1.below hb (by omega), G0.out.1.2.2.2.trans (hb.mono G0.out.1.2.2.2.size)⟩, Nat.le_trans hz hb.size, op.base hz⟩
  clear op hb G0
  have fr := fun j => F1.out.1.2.2.1.free j
  obtain ⟨qp, mp, hsp⟩ : ∃ ao cap, p = .slice ao c.path.length cap := by obtain ⟨ao, cap, h, _⟩ := F1.out.2.2.at; exact ⟨ao, cap, h⟩
  obtain ⟨lp, hlp⟩ : ∃ l, c.path.length = l := ⟨_, rfl⟩
  rw [hlp] at hsp
  clear hlp
  subst hsp
  have ca : u1.cell? ⟨w.heap.size, 3, none⟩ = some (.slice ea c.lst.length ec) := F1.out.1.1.cell 3
  have cg : u1.cell? ⟨w.heap.size + 1 + 1, 2, none⟩ = some (.slice none 0 0) := F1.out.1.2.2.1.cell 2
  go_wp2_with fail
  obtain ⟨V1, hV⟩ : ∃ V, V = u1.setCell ⟨w.heap.size + 1 + 1, 2, none⟩ (.slice qp lp mp) := ⟨_, rfl⟩
  rw [← hV]
  have G1 : Hid ((Blk V1 w.heap.size 96 #[.int .i64 c.status, .int .i64 c.why, .slice pa c.path.length pc, .slice ea c.lst.length ec] ∧ Blk V1 (w.heap.size + 1) 84 #[.int .i64 0, .int .i64 0, .slice none 0 0, .slice none 0 0] ∧ Blk V1 (w.heap.size + 1 + 1) 84 #[.int .i64 c.status, .int .i64 c.why, .slice qp lp mp, .slice none 0 0] ∧ Below w.heap.size w V1) ∧ w.heap.size + 1 + 1 + 1 ≤ V1.heap.size ∧ OwnT V1 (w.heap.size + 1 + 1 + 1) (.slice qp lp mp) c.path) := by
    have hbs : Below (w.heap.size + 1 + 1) u1 V1 := by rw [hV]; exact (Below.refl _ _).setCell (p := ⟨w.heap.size + 1 + 1, 2, none⟩) (Nat.le_refl _) _
    have hot : ∀ b, w.heap.size + 1 + 1 + 1 ≤ b → V1.heap[b]? = u1.heap[b]? := fun b hb => by rw [hV]; exact heap_setCell_other _ _ _ _ (by show b ≠ w.heap.size + 1 + 1; omega)
    exact ⟨⟨F1.out.1.1.below hbs (by omega), F1.out.1.2.1.below hbs (by omega), by rw [hV]; exact F1.out.1.2.2.1.set 2 _, F1.out.1.2.2.2.trans (hbs.mono (by omega))⟩, Nat.le_trans F1.out.2.1 hbs.size, F1.out.2.2.block hot⟩
  clear hV F1 fr ca cg
  refine (toStringS_any ea c.lst c.lst.length ec B V1 rfl HA.out.2.2.2 (Nat.le_trans hB G1.out.1.2.2.2.size) (HA.out.2.1.below (G1.out.1.2.2.2.mono hB))).mono ?_
  rintro r u2 ⟨e, rfl, oe, hb⟩
  have F2 : Hid ((Blk u2 w.heap.size 96 #[.int .i64 c.status, .int .i64 c.why, .slice pa c.path.length pc, .slice ea c.lst.length ec] ∧ Blk u2 (w.heap.size + 1) 84 #[.int .i64 0, .int .i64 0, .slice none 0 0, .slice none 0 0] ∧ Blk u2 (w.heap.size + 1 + 1) 84 #[.int .i64 c.status, .int .i64 c.why, .slice qp lp mp, .slice none 0 0] ∧ Below w.heap.size w u2) ∧ w.heap.size + 1 + 1 + 1 ≤ u2.heap.size ∧ OwnT u2 (w.heap.size + 1 + 1 + 1) (.slice qp lp mp) c.path ∧ OwnT u2 (w.heap.size + 1 + 1 + 1) e c.lst ∧ (Ap (.slice qp lp mp) e ∧ Ap e (.slice qp lp mp))) := by
    have hz := G1.out.2.1
    exact ⟨⟨G1.out.1.1.below hb (by omega), G1.out.1.2.1.below hb (by omega), G1.out.1.2.2.1.below hb (by omega), G1.out.1.2.2.2.trans (hb.mono G1.out.1.2.2.2.size)⟩, Nat.le_trans hz hb.size, G1.out.2.2.stays hb, oe.base hz, rows_apart G1.out.2.2 oe (Nat.le_refl _)⟩
  clear oe hb G1
  have fr := fun j => F2.out.1.2.2.1.free j
  have f1 := fun j => F2.out.1.2.1.free j
  obtain ⟨qe, me, hse⟩ : ∃ ao cap, e = .slice ao c.lst.length cap := by obtain ⟨ao, cap, h, _⟩ := F2.out.2.2.2.1.at; exact ⟨ao, cap, h⟩
  obtain ⟨le, hle⟩ : ∃ l, c.lst.length = l := ⟨_, rfl⟩
  rw [hle] at hse
  clear hle
  subst hse
  have c10 : u2.cell? ⟨w.heap.size + 1, 0, none⟩ = some (.int .i64 0) := F2.out.1.2.1.cell 0
  have c20 : u2.cell? ⟨w.heap.size + 1 + 1, 0, none⟩ = some (.int .i64 c.status) := F2.out.1.2.2.1.cell 0
  have c11 : u2.cell? ⟨w.heap.size + 1, 1, none⟩ = some (.int .i64 0) := F2.out.1.2.1.cell 1
  have c21 : u2.cell? ⟨w.heap.size + 1 + 1, 1, none⟩ = some (.int .i64 c.why) := F2.out.1.2.2.1.cell 1
  have c12 : u2.cell? ⟨w.heap.size + 1, 2, none⟩ = some (.slice none 0 0) := F2.out.1.2.1.cell 2
  have c22 : u2.cell? ⟨w.heap.size + 1 + 1, 2, none⟩ = some (.slice qp lp mp) := F2.out.1.2.2.1.cell 2
  have c13 : u2.cell? ⟨w.heap.size + 1, 3, none⟩ = some (.slice none 0 0) := F2.out.1.2.1.cell 3
  have c23 : u2.cell? ⟨w.heap.size + 1 + 1, 3, none⟩ = some (.slice none 0 0) := F2.out.1.2.2.1.cell 3
  go_wp2_with fail
  refine bodyPost_ret (v := awV c (.slice qp lp mp) (.slice qe le me)) (by simp [results, Try.results74, go_sem, awV, c10, c11, c12, c13]) rfl ⟨_, rfl, ⟨_, _, rfl, (F2.out.2.2.1.block ?far).base (by omega), (F2.out.2.2.2.1.block ?far).base (by omega), F2.out.2.2.2.2⟩, ?bel⟩
  case far =>
    intro b hb
    iterate 5 rw [heap_setCell_other _ _ _ _ (by first | (show b ≠ w.heap.size + 1; omega) | (show b ≠ w.heap.size + 1 + 1; omega))]
  case bel =>
    iterate 5 refine Below.setCell ?_ (by first | (show w.heap.size ≤ w.heap.size + 1; omega) | (show w.heap.size ≤ w.heap.size + 1 + 1; omega)) _
    exact F2.out.1.2.2.2
set_option maxHeartbeats 6400000 in
set_option maxRecDepth 100000 in
theorem szAnswer_any (c : Aw) (v : Value) (left : Int) (w : World) (hwd : WdAw c) (h0 : 0 ≤ left) (hl : left ≤ 1048576) (ha : ArgAw w.heap.size w v c) :
    Calls Try.prog 72 #[v, .int .i64 left] w fun e w' => e = .returned (.int .i64 (szAw c left)) ∧ Below w.heap.size w w' := by
  obtain ⟨pa, pc, ea, ec, rfl, h1, h2⟩ := ha
  obtain ⟨_, hw1, hw2, hp1, hp2⟩ := hwd
  unfold awV
  obtain ⟨r1, hr1⟩ : ∃ r : Int, r = szT c.path left := ⟨_, rfl⟩
  have Z1 : Hid (∀ W, Below w.heap.size w W → Calls Try.prog 40 #[.slice pa c.path.length pc, .int .i64 left] W fun e w' => e = .returned (.int .i64 r1) ∧ Below W.heap.size W w') := fun W hb => by rw [hr1]; exact szStringS_any pa c.path c.path.length pc w.heap.size left W rfl hp1 hw1 (by omega) (by omega) hb.size (h1.below hb)
  by_cases g1 : r1 < 0
  · have e1 : r1 = -1 := by unfold szT at hr1; split at hr1 <;> omega
    have HF : Hid (szAw c left = -1) := by
      show szAw c left = -1
      unfold szAw wtAw
      rw [if_neg (by unfold szT at hr1; split at hr1 <;> omega)]
    clear hr1 g1 h1 h2 hw1 hw2 hp1 hp2
    subst e1
    go_enter Try.func72, Try.ntmps72
    go_wp2_with fail
    obtain ⟨V, hV⟩ : ∃ V, V = w.alloc (Obj.cells #[.int .i64 c.status, .int .i64 c.why, .slice pa c.path.length pc, .slice ea c.lst.length ec] 96) := ⟨_, rfl⟩
    rw [← hV]
    have G : Hid (Below w.heap.size w V) := by rw [hV]; exact (Below.refl _ _).alloc (Nat.le_refl _) _
    clear hV
    refine (Z1.out V G.out).mono ?_
    rintro e V2 ⟨rfl, hb⟩
    have G2 : Hid (Below w.heap.size w V2) := G.out.trans (hb.mono G.out.size)
    clear hb G
    go_wp2_with fail
    go_ret
    exact ⟨by rw [HF.out]; rfl, G2.out⟩
  · have e1 : r1 = left - (totT c.path : Int) ∧ (totT c.path : Int) ≤ left := by unfold szT at hr1; split at hr1 <;> omega
    obtain ⟨r2, hr2⟩ : ∃ r : Int, r = szT c.lst r1 := ⟨_, rfl⟩
    have Z2 : Hid (∀ W, Below w.heap.size w W → Calls Try.prog 40 #[.slice ea c.lst.length ec, .int .i64 r1] W fun e w' => e = .returned (.int .i64 r2) ∧ Below W.heap.size W w') := fun W hb => by rw [hr2]; exact szStringS_any ea c.lst c.lst.length ec w.heap.size r1 W rfl hp2 hw2 (by omega) (by omega) hb.size (h2.below hb)
    have HF : Hid (szAw c left = r2) := by
      show szAw c left = r2
      rw [hr2]
      unfold szAw wtAw szT
      by_cases q : ((totT c.path + totT c.lst : Nat) : Int) ≤ left
      · rw [if_pos q, if_pos (by omega)]; omega
      · rw [if_neg q, if_neg (by omega)]
    have g2 : r2 < 0 → r2 = -1 := by unfold szT at hr2; split at hr2 <;> omega
    clear hr1 hr2 h1 h2 hw1 hw2 hp1 hp2 e1
    go_enter Try.func72, Try.ntmps72
    go_wp2_with fail
    obtain ⟨V, hV⟩ : ∃ V, V = w.alloc (Obj.cells #[.int .i64 c.status, .int .i64 c.why, .slice pa c.path.length pc, .slice ea c.lst.length ec] 96) := ⟨_, rfl⟩
    rw [← hV]
    have G : Hid (Below w.heap.size w V ∧ Blk V w.heap.size 96 #[.int .i64 c.status, .int .i64 c.why, .slice pa c.path.length pc, .slice ea c.lst.length ec]) := by rw [hV]; exact ⟨(Below.refl _ _).alloc (Nat.le_refl _) _, Blk.new w _ _⟩
    clear hV
    refine (Z1.out V G.out.1).mono ?_
    rintro e V2 ⟨rfl, hb⟩
    have G2 : Hid (Below w.heap.size w V2 ∧ Blk V2 w.heap.size 96 #[.int .i64 c.status, .int .i64 c.why, .slice pa c.path.length pc, .slice ea c.lst.length ec]) := ⟨G.out.1.trans (hb.mono G.out.1.size), G.out.2.below hb G.out.2.lt⟩
    clear hb G
    have c3 : V2.cell? ⟨w.heap.size, 3, none⟩ = some (.slice ea c.lst.length ec) := G2.out.2.cell 3
    go_wp2_with fail
    refine (Z2.out V2 G2.out.1).mono ?_
    rintro e V3 ⟨rfl, hb⟩
    have G3 : Hid (Below w.heap.size w V3) := G2.out.1.trans (hb.mono G2.out.1.size)
    clear hb G2 c3
    by_cases q2 : r2 < 0
    · obtain rfl := g2 q2
      go_wp2_with fail
      go_ret
      exact ⟨by rw [HF.out]; rfl, G3.out⟩
    · go_wp2_with fail
      go_ret
      exact ⟨by rw [HF.out]; rfl, G3.out⟩
set_option maxHeartbeats 6400000 in
set_option maxRecDepth 100000 in
theorem eqAnswer_same (c : Aw) (a b : Value) (w : World) (hl : c.path.length ≤ 1000000000 ∧ c.lst.length ≤ 1000000000) (ha : AwAt w a c) (hb : AwAt w b c) :
    Calls Try.prog 77 #[a, b] w fun e w' => e = .returned (.bool true) ∧ Below w.heap.size w w' := by
  obtain ⟨pv, ev, rfl, h1, h2⟩ := ha
  obtain ⟨pu, eu, rfl, k1, k2⟩ := hb
  have HQ : Hid (∀ W, Below w.heap.size w W → Calls Try.prog 46 #[pv, pu] W (fun e w' => e = .returned (.bool true) ∧ Below W.heap.size W w')) := fun W hb => eqT_same pv pu c.path W hl.1 (h1.below hb) (k1.below hb)
  have HQ2 : Hid (∀ W, Below w.heap.size w W → Calls Try.prog 46 #[ev, eu] W (fun e w' => e = .returned (.bool true) ∧ Below W.heap.size W w')) := fun W hb => eqT_same ev eu c.lst W hl.2 (h2.below hb) (k2.below hb)
  obtain ⟨lp, hlp⟩ : ∃ l, c.path.length = l := ⟨_, rfl⟩
  obtain ⟨le, hle⟩ : ∃ l, c.lst.length = l := ⟨_, rfl⟩
  obtain ⟨pa, pc, hpa, _⟩ := h1
  obtain ⟨pb, qc, hpb, _⟩ := k1
  obtain ⟨ea, ec, hea, _⟩ := h2
  obtain ⟨eb, fc, heb, _⟩ := k2
  rw [hlp] at hpa hpb
  rw [hle] at hea heb
  subst hpa hpb hea heb
  clear hlp hle hl
  unfold awV
  go_enter Try.func77, Try.ntmps77
  go_wp2_with fail
  obtain ⟨V1, hV⟩ : ∃ V, V = (w.alloc (Obj.cells #[.int .i64 c.status, .int .i64 c.why, .slice pa lp pc, .slice ea le ec] 84)).alloc (Obj.cells #[.int .i64 c.status, .int .i64 c.why, .slice pb lp qc, .slice eb le fc] 84) := ⟨_, rfl⟩
  rw [← hV]
  have G1 : Hid (Blk V1 w.heap.size 84 #[.int .i64 c.status, .int .i64 c.why, .slice pa lp pc, .slice ea le ec] ∧ Blk V1 (w.heap.size + 1) 84 #[.int .i64 c.status, .int .i64 c.why, .slice pb lp qc, .slice eb le fc] ∧ Below w.heap.size w V1 ∧ w.heap.size + 1 < V1.heap.size) := by
    have e0 : (w.alloc (Obj.cells #[.int .i64 c.status, .int .i64 c.why, .slice pa lp pc, .slice ea le ec] 84)).heap.size = w.heap.size + 1 := Array.size_push _
    have h := Blk.new (w.alloc (Obj.cells #[.int .i64 c.status, .int .i64 c.why, .slice pa lp pc, .slice ea le ec] 84)) 84 #[.int .i64 c.status, .int .i64 c.why, .slice pb lp qc, .slice eb le fc]
    rw [e0] at h
    rw [hV]
    exact ⟨(Blk.new w _ _).alloc _, h, ((Below.refl _ _).alloc (Nat.le_refl _) _).alloc (by rw [e0]; omega) _, by rw [size_alloc, e0]; omega⟩
  clear hV
  refine (HQ.out V1 G1.out.2.2.1).mono ?_
  rintro e V2 ⟨rfl, hb⟩
  have G2 : Hid (Blk V2 w.heap.size 84 #[.int .i64 c.status, .int .i64 c.why, .slice pa lp pc, .slice ea le ec] ∧ Blk V2 (w.heap.size + 1) 84 #[.int .i64 c.status, .int .i64 c.why, .slice pb lp qc, .slice eb le fc] ∧ Below w.heap.size w V2 ∧ w.heap.size + 1 < V2.heap.size) := ⟨G1.out.1.below hb (by have := G1.out.2.2.2; omega), G1.out.2.1.below hb G1.out.2.2.2, G1.out.2.2.1.trans (hb.mono G1.out.2.2.1.size), Nat.lt_of_lt_of_le G1.out.2.2.2 hb.size⟩
  clear hb G1
  have ca3 : V2.cell? ⟨w.heap.size, 3, none⟩ = some (.slice ea le ec) := G2.out.1.cell 3
  have cb3 : V2.cell? ⟨w.heap.size + 1, 3, none⟩ = some (.slice eb le fc) := G2.out.2.1.cell 3
  go_wp2_with fail
  clear ca3 cb3
  refine (HQ2.out V2 G2.out.2.2.1).mono ?_
  rintro e V3 ⟨rfl, hb⟩
  have G3 : Hid (Below w.heap.size w V3) := G2.out.2.2.1.trans (hb.mono G2.out.2.2.1.size)
  clear hb G2
  go_wp2_with fail
  go_ret
  exact ⟨rfl, G3.out⟩
end Go.Proofs.Ytbiiihjohbnodaa
