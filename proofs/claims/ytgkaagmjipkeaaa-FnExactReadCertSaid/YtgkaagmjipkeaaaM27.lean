/-
  Texts of the proof, one behind the other: CsB, CrQ.
-/
import Derived.Test.YtgkaagmjipkeaaaM7
import Derived.Test.YtgkaagmjipkeaaaM25
import Derived.Test.YtgkaagmjipkeaaaM26

/-
  The program's letterIn: the letter that an item tells, or none, a reader's panic being caught.
-/
namespace Go.Proofs.Ytgkaagmjipkeaaa
open Go.RowKit Der
set_option linter.unusedVariables false
set_option linter.unusedSimpArgs false

/-- What letterIn leaves. -/
def LetPost (w : World) (ol : Option Ct) (e : Ending) (W' : World) : Prop := Below w.heap.size w W' ∧
  ((ol = none ∧ e = .returned (.tuple #[.agg #[.int .i64 0, .string ⟨#[]⟩, .string ⟨#[]⟩, .int .i64 0, .int .i64 0, .string ⟨#[]⟩, .bool false, .int .i64 0, .int .i64 0, .slice none 0 0, .slice none 0 0, .slice none 0 0, .string ⟨#[]⟩], .bool false])) ∨ ∃ (c : Ct) (u : Value), ol = some c ∧ e = .returned (.tuple #[u, .bool true]) ∧ OwnC W' w.heap.size u c)
theorem set13 {V0 : World} {p : Nat} {ta : TypeId} {a0 a1 a2 a3 a4 a5 a6 a7 a8 a9 a10 a11 a12 z0 z1 z2 z3 z4 z5 z6 z7 z8 z9 z10 z11 z12 : Value} (h : Blk V0 p ta #[a0, a1, a2, a3, a4, a5, a6, a7, a8, a9, a10, a11, a12]) : Blk (((((((((((((V0.setCell ⟨p, 0, none⟩ z0).setCell ⟨p, 1, none⟩ z1).setCell ⟨p, 2, none⟩ z2).setCell ⟨p, 3, none⟩ z3).setCell ⟨p, 4, none⟩ z4).setCell ⟨p, 5, none⟩ z5).setCell ⟨p, 6, none⟩ z6).setCell ⟨p, 7, none⟩ z7).setCell ⟨p, 8, none⟩ z8).setCell ⟨p, 9, none⟩ z9).setCell ⟨p, 10, none⟩ z10).setCell ⟨p, 11, none⟩ z11).setCell ⟨p, 12, none⟩ z12) p ta #[z0, z1, z2, z3, z4, z5, z6, z7, z8, z9, z10, z11, z12] := by
  have g0 : Blk _ p ta #[z0, a1, a2, a3, a4, a5, a6, a7, a8, a9, a10, a11, a12] := h.set 0 z0
  have g1 : Blk _ p ta #[z0, z1, a2, a3, a4, a5, a6, a7, a8, a9, a10, a11, a12] := g0.set 1 z1
  have g2 : Blk _ p ta #[z0, z1, z2, a3, a4, a5, a6, a7, a8, a9, a10, a11, a12] := g1.set 2 z2
  have g3 : Blk _ p ta #[z0, z1, z2, z3, a4, a5, a6, a7, a8, a9, a10, a11, a12] := g2.set 3 z3
  have g4 : Blk _ p ta #[z0, z1, z2, z3, z4, a5, a6, a7, a8, a9, a10, a11, a12] := g3.set 4 z4
  have g5 : Blk _ p ta #[z0, z1, z2, z3, z4, z5, a6, a7, a8, a9, a10, a11, a12] := g4.set 5 z5
  have g6 : Blk _ p ta #[z0, z1, z2, z3, z4, z5, z6, a7, a8, a9, a10, a11, a12] := g5.set 6 z6
  have g7 : Blk _ p ta #[z0, z1, z2, z3, z4, z5, z6, z7, a8, a9, a10, a11, a12] := g6.set 7 z7
  have g8 : Blk _ p ta #[z0, z1, z2, z3, z4, z5, z6, z7, z8, a9, a10, a11, a12] := g7.set 8 z8
  have g9 : Blk _ p ta #[z0, z1, z2, z3, z4, z5, z6, z7, z8, z9, a10, a11, a12] := g8.set 9 z9
  have g10 : Blk _ p ta #[z0, z1, z2, z3, z4, z5, z6, z7, z8, z9, z10, a11, a12] := g9.set 10 z10
  have g11 : Blk _ p ta #[z0, z1, z2, z3, z4, z5, z6, z7, z8, z9, z10, z11, a12] := g10.set 11 z11
  have g12 : Blk _ p ta #[z0, z1, z2, z3, z4, z5, z6, z7, z8, z9, z10, z11, z12] := g11.set 12 z12
  exact g12
set_option maxHeartbeats 12800000 in
set_option maxRecDepth 100000 in
theorem letterIn_any (m : Nat) (x : It (m + 4)) (k : Value) (w : World) (hk : KcAt w (m + 3) k (It.kids x)) (hz : SzL [x]) :
    Calls Try.prog 66 #[.agg #[.int .i64 (It.tag x), .string ⟨(It.text x).toArray⟩, k]] w fun e W' => LetPost w (letP x) e W' := by
  have hmf : ∀ (fn : Fn) (first cap : Array Value) (w : World), (Instr.makeFunc fn first cap).run Try.prog w = .ok (.func fn first cap) w := fun _ _ _ _ => rfl
  obtain ⟨oB, hoB⟩ : ∃ b, letP x = b := ⟨_, rfl⟩
  have HP : Hid (letP x = oB) := hoB
  rw [hoB]
  clear hoB
  obtain ⟨ak, ck, hks⟩ := hk.shape
  obtain ⟨lk, hlk⟩ : ∃ l, (It.kids x).length = l := ⟨_, rfl⟩
  rw [hlk] at hks
  subst hks
  obtain ⟨t, ht⟩ : ∃ t, It.tag x = t := ⟨_, rfl⟩
  obtain ⟨s, hs⟩ : ∃ s : ByteArray, (⟨(It.text x).toArray⟩ : ByteArray) = s := ⟨_, rfl⟩
  rw [ht, hs]
  have KW : Hid (KcAt w (m + 3) (.slice ak lk ck) (It.kids x) ∧ SzL (It.kids x) ∧ It.tag x = t) := ⟨hk, SzL.kids hz, ht⟩
  clear hk hz hlk ht hs
  go_enter_defers Try.func66, Try.ntmps66
  go_wp2_with fail
  obtain ⟨W1, hW1⟩ : ∃ V, V = ((w.alloc (Obj.cells #[.int .i64 t, .string s, .slice ak lk ck] 34)).alloc (Obj.cells #[.int .i64 0, .string ⟨#[]⟩, .string ⟨#[]⟩, .int .i64 0, .int .i64 0, .string ⟨#[]⟩, .bool false, .int .i64 0, .int .i64 0, .slice none 0 0, .slice none 0 0, .slice none 0 0, .string ⟨#[]⟩] 28)).alloc (Obj.cells #[.bool false] 4) := ⟨_, rfl⟩
  rw [← hW1]
  have e0 : (w.alloc (Obj.cells #[.int .i64 t, .string s, .slice ak lk ck] 34)).heap.size = w.heap.size + 1 := Array.size_push _
  have e1 : ((w.alloc (Obj.cells #[.int .i64 t, .string s, .slice ak lk ck] 34)).alloc (Obj.cells #[.int .i64 0, .string ⟨#[]⟩, .string ⟨#[]⟩, .int .i64 0, .int .i64 0, .string ⟨#[]⟩, .bool false, .int .i64 0, .int .i64 0, .slice none 0 0, .slice none 0 0, .slice none 0 0, .string ⟨#[]⟩] 28)).heap.size = w.heap.size + 2 := by rw [size_alloc, e0]
  have hb1 : Below w.heap.size w W1 := by rw [hW1]; exact (((Below.refl _ _).alloc (Nat.le_refl _) _).alloc (by rw [e0]; omega) _).alloc (by rw [e1]; omega) _
  have hv1 : Blk W1 (w.heap.size + 1) 28 #[.int .i64 0, .string ⟨#[]⟩, .string ⟨#[]⟩, .int .i64 0, .int .i64 0, .string ⟨#[]⟩, .bool false, .int .i64 0, .int .i64 0, .slice none 0 0, .slice none 0 0, .slice none 0 0, .string ⟨#[]⟩] := by
    rw [hW1]
    have h := Blk.new (w.alloc (Obj.cells #[.int .i64 t, .string s, .slice ak lk ck] 34)) 28 #[.int .i64 0, .string ⟨#[]⟩, .string ⟨#[]⟩, .int .i64 0, .int .i64 0, .string ⟨#[]⟩, .bool false, .int .i64 0, .int .i64 0, .slice none 0 0, .slice none 0 0, .slice none 0 0, .string ⟨#[]⟩]
    rw [e0] at h
    exact h.alloc _
  have hv2 : Blk W1 (w.heap.size + 2) 4 #[.bool false] := by
    rw [hW1]
    have h := Blk.new ((w.alloc (Obj.cells #[.int .i64 t, .string s, .slice ak lk ck] 34)).alloc (Obj.cells #[.int .i64 0, .string ⟨#[]⟩, .string ⟨#[]⟩, .int .i64 0, .int .i64 0, .string ⟨#[]⟩, .bool false, .int .i64 0, .int .i64 0, .slice none 0 0, .slice none 0 0, .slice none 0 0, .string ⟨#[]⟩] 28)) 4 #[.bool false]
    rw [e1] at h
    exact h
  have hs1 : W1.heap.size = w.heap.size + 3 := by rw [hW1, size_alloc, e1]
  have HB : Hid (Below w.heap.size w W1) := hb1
  have VC : Hid (Blk W1 (w.heap.size + 1) 28 #[.int .i64 0, .string ⟨#[]⟩, .string ⟨#[]⟩, .int .i64 0, .int .i64 0, .string ⟨#[]⟩, .bool false, .int .i64 0, .int .i64 0, .slice none 0 0, .slice none 0 0, .slice none 0 0, .string ⟨#[]⟩]) := hv1
  have VK : Hid (Blk W1 (w.heap.size + 2) 4 #[.bool false]) := hv2
  have O0 : Hid (W1.heap.size = w.heap.size + 3) := hs1
  clear hW1 e0 e1 hb1 hv1 hv2 hs1
  refine (readerOf_any t s ak lk ck W1).mono ?_
  rintro e w1 ⟨hb, ⟨hn, rfl⟩ | ⟨hn, gw, hgw, rfl, hBw⟩⟩
  · have VCn : Blk w1 (w.heap.size + 1) 28 #[.int .i64 0, .string ⟨#[]⟩, .string ⟨#[]⟩, .int .i64 0, .int .i64 0, .string ⟨#[]⟩, .bool false, .int .i64 0, .int .i64 0, .slice none 0 0, .slice none 0 0, .slice none 0 0, .string ⟨#[]⟩] := VC.out.on hb
    have VKn : Blk w1 (w.heap.size + 2) 4 #[.bool false] := VK.out.on hb
    have HBn : Below w.heap.size w w1 := HB.out.trans (hb.mono HB.out.size)
    have HF : Hid (oB = none) := by
      show oB = none
      rw [← HP.out]
      unfold letP; rw [if_neg (by rw [KW.out.2.2]; exact hn)]
    have EC := catch_misfit (w.heap.size + 1) (w.heap.size + 2) (.int .i64 0) (.string ⟨#[]⟩) (.string ⟨#[]⟩) (.int .i64 0) (.int .i64 0) (.string ⟨#[]⟩) (.bool false) (.int .i64 0) (.int .i64 0) (.slice none 0 0) (.slice none 0 0) (.slice none 0 0) (.string ⟨#[]⟩) (.bool false) 28 4 [] w1 VCn VKn (by omega)
    have HE : Hid (Below w.heap.size w w1 ∧ w.heap.size ≤ w1.heap.size) := ⟨HBn, HBn.size⟩
    clear VCn VKn HBn hn hb
    unfold misfit
    go_wp2_with fail
    refine leaves_cons (f := 80) (args := #[.pointer (some ⟨w.heap.size + 1, 0, none⟩), .pointer (some ⟨w.heap.size + 2, 0, none⟩)]) (by simp) (by simp [go_sem]) ?_
    refine EC.mono ?_
    rintro e u' W9 ⟨rfl, rfl, ho9, hC9, hK9⟩
    have HE9 : Hid (LetPost w oB (.returned (.tuple #[.agg #[.int .i64 0, .string ⟨#[]⟩, .string ⟨#[]⟩, .int .i64 0, .int .i64 0, .string ⟨#[]⟩, .bool false, .int .i64 0, .int .i64 0, .slice none 0 0, .slice none 0 0, .slice none 0 0, .string ⟨#[]⟩], .bool false])) W9) := by
      refine ⟨HE.out.1.trans (ho9.below (fun b hb => by simp at hb; rcases hb with rfl | rfl <;> omega) HE.out.2), .inl ⟨HF.out, rfl⟩⟩
    have q0 : W9.cell? ⟨w.heap.size + 1, 0, none⟩ = some (.int .i64 0) := hC9.cell 0
    have q1 : W9.cell? ⟨w.heap.size + 1, 1, none⟩ = some (.string ⟨#[]⟩) := hC9.cell 1
    have q2 : W9.cell? ⟨w.heap.size + 1, 2, none⟩ = some (.string ⟨#[]⟩) := hC9.cell 2
    have q3 : W9.cell? ⟨w.heap.size + 1, 3, none⟩ = some (.int .i64 0) := hC9.cell 3
    have q4 : W9.cell? ⟨w.heap.size + 1, 4, none⟩ = some (.int .i64 0) := hC9.cell 4
    have q5 : W9.cell? ⟨w.heap.size + 1, 5, none⟩ = some (.string ⟨#[]⟩) := hC9.cell 5
    have q6 : W9.cell? ⟨w.heap.size + 1, 6, none⟩ = some (.bool false) := hC9.cell 6
    have q7 : W9.cell? ⟨w.heap.size + 1, 7, none⟩ = some (.int .i64 0) := hC9.cell 7
    have q8 : W9.cell? ⟨w.heap.size + 1, 8, none⟩ = some (.int .i64 0) := hC9.cell 8
    have q9 : W9.cell? ⟨w.heap.size + 1, 9, none⟩ = some (.slice none 0 0) := hC9.cell 9
    have q10 : W9.cell? ⟨w.heap.size + 1, 10, none⟩ = some (.slice none 0 0) := hC9.cell 10
    have q11 : W9.cell? ⟨w.heap.size + 1, 11, none⟩ = some (.slice none 0 0) := hC9.cell 11
    have q12 : W9.cell? ⟨w.heap.size + 1, 12, none⟩ = some (.string ⟨#[]⟩) := hC9.cell 12
    have q13 : W9.cell? ⟨w.heap.size + 2, 0, none⟩ = some (.bool false) := hK9.cell 0
    clear EC ho9 hC9 hK9 HE
    have HE8 := HE9.out
    clear HE9
    generalize hL : LetPost w oB = LP at HE8 ⊢
    simp [Leaves, settle, results, Try.results66, go_sem, q0, q1, q2, q3, q4, q5, q6, q7, q8, q9, q10, q11, q12, q13]
    exact HE8
  have NT : Hid (It.tag x = 48) := by show It.tag x = 48; rw [KW.out.2.2]; exact hn
  have HBn : Hid (Below w.heap.size w w1) := HB.out.trans (hb.mono HB.out.size)
  clear HB
  have HB := HBn
  clear HBn
  have VCn : Hid (Blk w1 (w.heap.size + 1) 28 #[.int .i64 0, .string ⟨#[]⟩, .string ⟨#[]⟩, .int .i64 0, .int .i64 0, .string ⟨#[]⟩, .bool false, .int .i64 0, .int .i64 0, .slice none 0 0, .slice none 0 0, .slice none 0 0, .string ⟨#[]⟩]) := VC.out.on hb
  clear VC
  have VC := VCn
  clear VCn
  have VKn : Hid (Blk w1 (w.heap.size + 2) 4 #[.bool false]) := VK.out.on hb
  clear VK
  have VK := VKn
  clear VKn
  have O1 : Hid (W1.heap.size ≤ w1.heap.size) := hb.size
  have RW : Hid (Blk w1 gw 103 #[.slice ak lk ck]) := hBw
  have O2 : Hid (W1.heap.size ≤ gw ∧ gw < w1.heap.size) := ⟨hgw, hBw.lt⟩
  clear hn hb hgw hBw
  go_wp2_with fail
  refine (list_any w w1 gw (m + 2) (.slice ak lk ck) (It.kids x) HB.out KW.out.1 RW.out (by have := O0.out; have := O1.out; have := O2.out; omega) KW.out.2.1.1).mono ?_
  rintro e w2 ⟨ho, ⟨hn, rfl⟩ | ⟨i2, r2, v2, vi2, gi, hn, rfl, hgi, hki, hkr, hB, hBi⟩⟩
  · have VCn : Blk w2 (w.heap.size + 1) 28 #[.int .i64 0, .string ⟨#[]⟩, .string ⟨#[]⟩, .int .i64 0, .int .i64 0, .string ⟨#[]⟩, .bool false, .int .i64 0, .int .i64 0, .slice none 0 0, .slice none 0 0, .slice none 0 0, .string ⟨#[]⟩] := VC.out.outX ho (by have := O0.out; have := O1.out; have := O2.out; simp <;> omega)
    have VKn : Blk w2 (w.heap.size + 2) 4 #[.bool false] := VK.out.outX ho (by have := O0.out; have := O1.out; have := O2.out; simp <;> omega)
    have HBn : Below w.heap.size w w2 := below_out HB.out ho (by have := O0.out; have := O1.out; have := O2.out; omega)
    have HF : Hid (oB = none) := by
      show oB = none
      rw [← HP.out]
      unfold letP; rw [if_pos NT.out]; simp only [hn, Option.bind_some, Option.bind_none]
    have EC := catch_misfit (w.heap.size + 1) (w.heap.size + 2) (.int .i64 0) (.string ⟨#[]⟩) (.string ⟨#[]⟩) (.int .i64 0) (.int .i64 0) (.string ⟨#[]⟩) (.bool false) (.int .i64 0) (.int .i64 0) (.slice none 0 0) (.slice none 0 0) (.slice none 0 0) (.string ⟨#[]⟩) (.bool false) 28 4 [] w2 VCn VKn (by omega)
    have HE : Hid (Below w.heap.size w w2 ∧ w.heap.size ≤ w2.heap.size) := ⟨HBn, HBn.size⟩
    clear VCn VKn HBn hn ho
    unfold misfit
    go_wp2_with fail
    refine leaves_cons (f := 80) (args := #[.pointer (some ⟨w.heap.size + 1, 0, none⟩), .pointer (some ⟨w.heap.size + 2, 0, none⟩)]) (by simp) (by simp [go_sem]) ?_
    refine EC.mono ?_
    rintro e u' W9 ⟨rfl, rfl, ho9, hC9, hK9⟩
    have HE9 : Hid (LetPost w oB (.returned (.tuple #[.agg #[.int .i64 0, .string ⟨#[]⟩, .string ⟨#[]⟩, .int .i64 0, .int .i64 0, .string ⟨#[]⟩, .bool false, .int .i64 0, .int .i64 0, .slice none 0 0, .slice none 0 0, .slice none 0 0, .string ⟨#[]⟩], .bool false])) W9) := by
      refine ⟨HE.out.1.trans (ho9.below (fun b hb => by simp at hb; rcases hb with rfl | rfl <;> omega) HE.out.2), .inl ⟨HF.out, rfl⟩⟩
    have q0 : W9.cell? ⟨w.heap.size + 1, 0, none⟩ = some (.int .i64 0) := hC9.cell 0
    have q1 : W9.cell? ⟨w.heap.size + 1, 1, none⟩ = some (.string ⟨#[]⟩) := hC9.cell 1
    have q2 : W9.cell? ⟨w.heap.size + 1, 2, none⟩ = some (.string ⟨#[]⟩) := hC9.cell 2
    have q3 : W9.cell? ⟨w.heap.size + 1, 3, none⟩ = some (.int .i64 0) := hC9.cell 3
    have q4 : W9.cell? ⟨w.heap.size + 1, 4, none⟩ = some (.int .i64 0) := hC9.cell 4
    have q5 : W9.cell? ⟨w.heap.size + 1, 5, none⟩ = some (.string ⟨#[]⟩) := hC9.cell 5
    have q6 : W9.cell? ⟨w.heap.size + 1, 6, none⟩ = some (.bool false) := hC9.cell 6
    have q7 : W9.cell? ⟨w.heap.size + 1, 7, none⟩ = some (.int .i64 0) := hC9.cell 7
    have q8 : W9.cell? ⟨w.heap.size + 1, 8, none⟩ = some (.int .i64 0) := hC9.cell 8
    have q9 : W9.cell? ⟨w.heap.size + 1, 9, none⟩ = some (.slice none 0 0) := hC9.cell 9
    have q10 : W9.cell? ⟨w.heap.size + 1, 10, none⟩ = some (.slice none 0 0) := hC9.cell 10
    have q11 : W9.cell? ⟨w.heap.size + 1, 11, none⟩ = some (.slice none 0 0) := hC9.cell 11
    have q12 : W9.cell? ⟨w.heap.size + 1, 12, none⟩ = some (.string ⟨#[]⟩) := hC9.cell 12
    have q13 : W9.cell? ⟨w.heap.size + 2, 0, none⟩ = some (.bool false) := hK9.cell 0
    clear EC ho9 hC9 hK9 HE
    have HE8 := HE9.out
    clear HE9
    generalize hL : LetPost w oB = LP at HE8 ⊢
    simp [Leaves, settle, results, Try.results66, go_sem, q0, q1, q2, q3, q4, q5, q6, q7, q8, q9, q10, q11, q12, q13]
    exact HE8
  have N2 : Hid (lstP (It.kids x) = some (i2, r2)) := hn
  have HBn : Hid (Below w.heap.size w w2) := below_out HB.out ho (by have := O0.out; have := O1.out; have := O2.out; omega)
  clear HB
  have HB := HBn
  clear HBn
  have VCn : Hid (Blk w2 (w.heap.size + 1) 28 #[.int .i64 0, .string ⟨#[]⟩, .string ⟨#[]⟩, .int .i64 0, .int .i64 0, .string ⟨#[]⟩, .bool false, .int .i64 0, .int .i64 0, .slice none 0 0, .slice none 0 0, .slice none 0 0, .string ⟨#[]⟩]) := VC.out.outX ho (by have := O0.out; have := O1.out; have := O2.out; simp <;> omega)
  clear VC
  have VC := VCn
  clear VCn
  have VKn : Hid (Blk w2 (w.heap.size + 2) 4 #[.bool false]) := VK.out.outX ho (by have := O0.out; have := O1.out; have := O2.out; simp <;> omega)
  clear VK
  have VK := VKn
  clear VKn
  clear RW
  have O3 : Hid (w1.heap.size ≤ w2.heap.size) := ho.size
  have RW : Hid (Blk w2 gw 103 #[v2]) := hB
  have RI : Hid (Blk w2 gi 103 #[vi2]) := hBi
  have O4 : Hid (w1.heap.size ≤ gi ∧ gi < w2.heap.size) := ⟨hgi, hBi.lt⟩
  have KI : Hid (KcAt w (m + 2) vi2 i2 ∧ SzL i2) := ⟨hki, (KW.out.2.1.lst hn).1⟩
  have KR : Hid (KcAt w (m + 3) v2 r2 ∧ SzL r2) := ⟨hkr, (KW.out.2.1.lst hn).2⟩
  clear hn ho hgi hki hkr hB hBi
  go_wp2_with fail
  refine (letterBody_any w w2 gi m vi2 i2 HB.out KI.out.1 RI.out (by have := O0.out; have := O1.out; have := O2.out; have := O3.out; have := O4.out; omega) KI.out.2).mono ?_
  rintro e w3 ⟨ho, ⟨hn, rfl⟩ | ⟨c, u3, v3, hn, rfl, hown, hB⟩⟩
  · have VCn : Blk w3 (w.heap.size + 1) 28 #[.int .i64 0, .string ⟨#[]⟩, .string ⟨#[]⟩, .int .i64 0, .int .i64 0, .string ⟨#[]⟩, .bool false, .int .i64 0, .int .i64 0, .slice none 0 0, .slice none 0 0, .slice none 0 0, .string ⟨#[]⟩] := VC.out.outX ho (by have := O0.out; have := O1.out; have := O2.out; have := O3.out; have := O4.out; simp <;> omega)
    have VKn : Blk w3 (w.heap.size + 2) 4 #[.bool false] := VK.out.outX ho (by have := O0.out; have := O1.out; have := O2.out; have := O3.out; have := O4.out; simp <;> omega)
    have HBn : Below w.heap.size w w3 := below_out HB.out ho (by have := O0.out; have := O1.out; have := O2.out; have := O3.out; have := O4.out; omega)
    have HF : Hid (oB = none) := by
      show oB = none
      rw [← HP.out]
      unfold letP; rw [if_pos NT.out]; simp only [N2.out, hn, Option.bind_some, Option.bind_none]
    have EC := catch_misfit (w.heap.size + 1) (w.heap.size + 2) (.int .i64 0) (.string ⟨#[]⟩) (.string ⟨#[]⟩) (.int .i64 0) (.int .i64 0) (.string ⟨#[]⟩) (.bool false) (.int .i64 0) (.int .i64 0) (.slice none 0 0) (.slice none 0 0) (.slice none 0 0) (.string ⟨#[]⟩) (.bool false) 28 4 [] w3 VCn VKn (by omega)
    have HE : Hid (Below w.heap.size w w3 ∧ w.heap.size ≤ w3.heap.size) := ⟨HBn, HBn.size⟩
    clear VCn VKn HBn hn ho
    unfold misfit
    go_wp2_with fail
    refine leaves_cons (f := 80) (args := #[.pointer (some ⟨w.heap.size + 1, 0, none⟩), .pointer (some ⟨w.heap.size + 2, 0, none⟩)]) (by simp) (by simp [go_sem]) ?_
    refine EC.mono ?_
    rintro e u' W9 ⟨rfl, rfl, ho9, hC9, hK9⟩
    have HE9 : Hid (LetPost w oB (.returned (.tuple #[.agg #[.int .i64 0, .string ⟨#[]⟩, .string ⟨#[]⟩, .int .i64 0, .int .i64 0, .string ⟨#[]⟩, .bool false, .int .i64 0, .int .i64 0, .slice none 0 0, .slice none 0 0, .slice none 0 0, .string ⟨#[]⟩], .bool false])) W9) := by
      refine ⟨HE.out.1.trans (ho9.below (fun b hb => by simp at hb; rcases hb with rfl | rfl <;> omega) HE.out.2), .inl ⟨HF.out, rfl⟩⟩
    have q0 : W9.cell? ⟨w.heap.size + 1, 0, none⟩ = some (.int .i64 0) := hC9.cell 0
    have q1 : W9.cell? ⟨w.heap.size + 1, 1, none⟩ = some (.string ⟨#[]⟩) := hC9.cell 1
    have q2 : W9.cell? ⟨w.heap.size + 1, 2, none⟩ = some (.string ⟨#[]⟩) := hC9.cell 2
    have q3 : W9.cell? ⟨w.heap.size + 1, 3, none⟩ = some (.int .i64 0) := hC9.cell 3
    have q4 : W9.cell? ⟨w.heap.size + 1, 4, none⟩ = some (.int .i64 0) := hC9.cell 4
    have q5 : W9.cell? ⟨w.heap.size + 1, 5, none⟩ = some (.string ⟨#[]⟩) := hC9.cell 5
    have q6 : W9.cell? ⟨w.heap.size + 1, 6, none⟩ = some (.bool false) := hC9.cell 6
    have q7 : W9.cell? ⟨w.heap.size + 1, 7, none⟩ = some (.int .i64 0) := hC9.cell 7
    have q8 : W9.cell? ⟨w.heap.size + 1, 8, none⟩ = some (.int .i64 0) := hC9.cell 8
    have q9 : W9.cell? ⟨w.heap.size + 1, 9, none⟩ = some (.slice none 0 0) := hC9.cell 9
    have q10 : W9.cell? ⟨w.heap.size + 1, 10, none⟩ = some (.slice none 0 0) := hC9.cell 10
    have q11 : W9.cell? ⟨w.heap.size + 1, 11, none⟩ = some (.slice none 0 0) := hC9.cell 11
    have q12 : W9.cell? ⟨w.heap.size + 1, 12, none⟩ = some (.string ⟨#[]⟩) := hC9.cell 12
    have q13 : W9.cell? ⟨w.heap.size + 2, 0, none⟩ = some (.bool false) := hK9.cell 0
    clear EC ho9 hC9 hK9 HE
    have HE8 := HE9.out
    clear HE9
    generalize hL : LetPost w oB = LP at HE8 ⊢
    simp [Leaves, settle, results, Try.results66, go_sem, q0, q1, q2, q3, q4, q5, q6, q7, q8, q9, q10, q11, q12, q13]
    exact HE8
  have N3 : Hid (bodyP i2 = some c) := hn
  have HBn : Hid (Below w.heap.size w w3) := below_out HB.out ho (by have := O0.out; have := O1.out; have := O2.out; have := O3.out; have := O4.out; omega)
  clear HB
  have HB := HBn
  clear HBn
  have VCn : Hid (Blk w3 (w.heap.size + 1) 28 #[.int .i64 0, .string ⟨#[]⟩, .string ⟨#[]⟩, .int .i64 0, .int .i64 0, .string ⟨#[]⟩, .bool false, .int .i64 0, .int .i64 0, .slice none 0 0, .slice none 0 0, .slice none 0 0, .string ⟨#[]⟩]) := VC.out.outX ho (by have := O0.out; have := O1.out; have := O2.out; have := O3.out; have := O4.out; simp <;> omega)
  clear VC
  have VC := VCn
  clear VCn
  have VKn : Hid (Blk w3 (w.heap.size + 2) 4 #[.bool false]) := VK.out.outX ho (by have := O0.out; have := O1.out; have := O2.out; have := O3.out; have := O4.out; simp <;> omega)
  clear VK
  have VK := VKn
  clear VKn
  have RWn : Hid (Blk w3 gw 103 #[v2]) := RW.out.outX ho (by have := O0.out; have := O1.out; have := O2.out; have := O3.out; have := O4.out; simp <;> omega)
  clear RW
  have RW := RWn
  clear RWn
  clear RI
  have O5 : Hid (w2.heap.size ≤ w3.heap.size) := ho.size
  obtain ⟨pX, qX, eX, rX, dX, sX, hu⟩ := CtAt.shape hown.at
  subst hu
  unfold ctV at hown ⊢
  have LX : Hid (∀ b ∈ fpC (.agg #[.int .i64 c.serial, .string c.issuer, .string c.subject, .int .i64 c.frm, .int .i64 c.upto, .string c.key, .bool c.ca, .int .i64 c.pathLen, .int .i64 c.usage, .slice pX c.pol.length qX, .slice eX c.per.length rX, .slice dX c.den.length sX, .string c.sig]), w2.heap.size ≤ b ∧ b < w3.heap.size) := fpC_lt hown
  have HX : Hid (OwnC w3 w2.heap.size (.agg #[.int .i64 c.serial, .string c.issuer, .string c.subject, .int .i64 c.frm, .int .i64 c.upto, .string c.key, .bool c.ca, .int .i64 c.pathLen, .int .i64 c.usage, .slice pX c.pol.length qX, .slice eX c.per.length rX, .slice dX c.den.length sX, .string c.sig]) c) := hown
  clear hn ho hown hB KI
  have c10 : w3.cell? ⟨w.heap.size + 1, 0, none⟩ = some (.int .i64 0) := VC.out.cell 0
  have c11 : w3.cell? ⟨w.heap.size + 1, 1, none⟩ = some (.string ⟨#[]⟩) := VC.out.cell 1
  have c12 : w3.cell? ⟨w.heap.size + 1, 2, none⟩ = some (.string ⟨#[]⟩) := VC.out.cell 2
  have c13 : w3.cell? ⟨w.heap.size + 1, 3, none⟩ = some (.int .i64 0) := VC.out.cell 3
  have c14 : w3.cell? ⟨w.heap.size + 1, 4, none⟩ = some (.int .i64 0) := VC.out.cell 4
  have c15 : w3.cell? ⟨w.heap.size + 1, 5, none⟩ = some (.string ⟨#[]⟩) := VC.out.cell 5
  have c16 : w3.cell? ⟨w.heap.size + 1, 6, none⟩ = some (.bool false) := VC.out.cell 6
  have c17 : w3.cell? ⟨w.heap.size + 1, 7, none⟩ = some (.int .i64 0) := VC.out.cell 7
  have c18 : w3.cell? ⟨w.heap.size + 1, 8, none⟩ = some (.int .i64 0) := VC.out.cell 8
  have c19 : w3.cell? ⟨w.heap.size + 1, 9, none⟩ = some (.slice none 0 0) := VC.out.cell 9
  have c110 : w3.cell? ⟨w.heap.size + 1, 10, none⟩ = some (.slice none 0 0) := VC.out.cell 10
  have c111 : w3.cell? ⟨w.heap.size + 1, 11, none⟩ = some (.slice none 0 0) := VC.out.cell 11
  have c112 : w3.cell? ⟨w.heap.size + 1, 12, none⟩ = some (.string ⟨#[]⟩) := VC.out.cell 12
  have f1 := fun j => VC.out.free j
  go_wp2_with fail
  clear f1 c10 c11 c12 c13 c14 c15 c16 c17 c18 c19 c110 c111 c112
  obtain ⟨V4, hV4⟩ : ∃ V, V = (((((((((((((w3.setCell ⟨w.heap.size + 1, 0, none⟩ (.int .i64 c.serial)).setCell ⟨w.heap.size + 1, 1, none⟩ (.string c.issuer)).setCell ⟨w.heap.size + 1, 2, none⟩ (.string c.subject)).setCell ⟨w.heap.size + 1, 3, none⟩ (.int .i64 c.frm)).setCell ⟨w.heap.size + 1, 4, none⟩ (.int .i64 c.upto)).setCell ⟨w.heap.size + 1, 5, none⟩ (.string c.key)).setCell ⟨w.heap.size + 1, 6, none⟩ (.bool c.ca)).setCell ⟨w.heap.size + 1, 7, none⟩ (.int .i64 c.pathLen)).setCell ⟨w.heap.size + 1, 8, none⟩ (.int .i64 c.usage)).setCell ⟨w.heap.size + 1, 9, none⟩ (.slice pX c.pol.length qX)).setCell ⟨w.heap.size + 1, 10, none⟩ (.slice eX c.per.length rX)).setCell ⟨w.heap.size + 1, 11, none⟩ (.slice dX c.den.length sX)).setCell ⟨w.heap.size + 1, 12, none⟩ (.string c.sig)) := ⟨_, rfl⟩
  rw [← hV4]
  have hset : Out [w.heap.size + 1] w3 V4 := by
    rw [hV4]
    iterate 13 refine Out.setCell ?_ _ _ (by simp)
    exact Out.refl _ _
  have hVC : Blk V4 (w.heap.size + 1) 28 #[.int .i64 c.serial, .string c.issuer, .string c.subject, .int .i64 c.frm, .int .i64 c.upto, .string c.key, .bool c.ca, .int .i64 c.pathLen, .int .i64 c.usage, .slice pX c.pol.length qX, .slice eX c.per.length rX, .slice dX c.den.length sX, .string c.sig] := by rw [hV4]; exact set13 VC.out
  have HBn : Hid (Below w.heap.size w V4) := below_out HB.out hset (by have := O0.out; have := O1.out; have := O2.out; have := O3.out; have := O4.out; have := O5.out; omega)
  clear HB
  have HB := HBn
  clear HBn
  have VKn : Hid (Blk V4 (w.heap.size + 2) 4 #[.bool false]) := VK.out.outX hset (by have := O0.out; have := O1.out; have := O2.out; have := O3.out; have := O4.out; have := O5.out; simp <;> omega)
  clear VK
  have VK := VKn
  clear VKn
  have RWn : Hid (Blk V4 gw 103 #[v2]) := RW.out.outX hset (by have := O0.out; have := O1.out; have := O2.out; have := O3.out; have := O4.out; have := O5.out; simp <;> omega)
  clear RW
  have RW := RWn
  clear RWn
  have HXn : Hid (OwnC V4 w2.heap.size (.agg #[.int .i64 c.serial, .string c.issuer, .string c.subject, .int .i64 c.frm, .int .i64 c.upto, .string c.key, .bool c.ca, .int .i64 c.pathLen, .int .i64 c.usage, .slice pX c.pol.length qX, .slice eX c.per.length rX, .slice dX c.den.length sX, .string c.sig]) c) := HX.out.out hset (fun b hb => by have := LX.out b hb; have := O0.out; have := O1.out; have := O2.out; have := O3.out; have := O4.out; have := O5.out; simp <;> omega)
  clear HX
  have HX := HXn
  clear HXn
  clear VC
  have O6 : Hid (w3.heap.size ≤ V4.heap.size) := hset.size
  have VC : Hid (Blk V4 (w.heap.size + 1) 28 #[.int .i64 c.serial, .string c.issuer, .string c.subject, .int .i64 c.frm, .int .i64 c.upto, .string c.key, .bool c.ca, .int .i64 c.pathLen, .int .i64 c.usage, .slice pX c.pol.length qX, .slice eX c.per.length rX, .slice dX c.den.length sX, .string c.sig]) := hVC
  clear hset hVC hV4
  refine (rbytes_any w V4 gw (m + 2) v2 r2 HB.out KR.out.1 RW.out (by have := O0.out; have := O1.out; have := O2.out; have := O3.out; have := O4.out; have := O5.out; have := O6.out; omega) KR.out.2.1).mono ?_
  rintro e w5 ⟨ho, ⟨hn, rfl⟩ | ⟨xs, r5, v5, hn, rfl, hkr, hB⟩⟩
  · have VCn : Blk w5 (w.heap.size + 1) 28 #[.int .i64 c.serial, .string c.issuer, .string c.subject, .int .i64 c.frm, .int .i64 c.upto, .string c.key, .bool c.ca, .int .i64 c.pathLen, .int .i64 c.usage, .slice pX c.pol.length qX, .slice eX c.per.length rX, .slice dX c.den.length sX, .string c.sig] := VC.out.outX ho (by have := O0.out; have := O1.out; have := O2.out; have := O3.out; have := O4.out; have := O5.out; have := O6.out; simp <;> omega)
    have VKn : Blk w5 (w.heap.size + 2) 4 #[.bool false] := VK.out.outX ho (by have := O0.out; have := O1.out; have := O2.out; have := O3.out; have := O4.out; have := O5.out; have := O6.out; simp <;> omega)
    have HBn : Below w.heap.size w w5 := below_out HB.out ho (by have := O0.out; have := O1.out; have := O2.out; have := O3.out; have := O4.out; have := O5.out; have := O6.out; omega)
    have HF : Hid (oB = none) := by
      show oB = none
      rw [← HP.out]
      unfold letP; rw [if_pos NT.out]; simp only [N2.out, N3.out, hn, Option.bind_some, Option.bind_none]
    have EC := catch_misfit (w.heap.size + 1) (w.heap.size + 2) (.int .i64 c.serial) (.string c.issuer) (.string c.subject) (.int .i64 c.frm) (.int .i64 c.upto) (.string c.key) (.bool c.ca) (.int .i64 c.pathLen) (.int .i64 c.usage) (.slice pX c.pol.length qX) (.slice eX c.per.length rX) (.slice dX c.den.length sX) (.string c.sig) (.bool false) 28 4 [] w5 VCn VKn (by omega)
    have HE : Hid (Below w.heap.size w w5 ∧ w.heap.size ≤ w5.heap.size) := ⟨HBn, HBn.size⟩
    clear VCn VKn HBn hn ho
    unfold misfit
    go_wp2_with fail
    refine leaves_cons (f := 80) (args := #[.pointer (some ⟨w.heap.size + 1, 0, none⟩), .pointer (some ⟨w.heap.size + 2, 0, none⟩)]) (by simp) (by simp [go_sem]) ?_
    refine EC.mono ?_
    rintro e u' W9 ⟨rfl, rfl, ho9, hC9, hK9⟩
    have HE9 : Hid (LetPost w oB (.returned (.tuple #[.agg #[.int .i64 0, .string ⟨#[]⟩, .string ⟨#[]⟩, .int .i64 0, .int .i64 0, .string ⟨#[]⟩, .bool false, .int .i64 0, .int .i64 0, .slice none 0 0, .slice none 0 0, .slice none 0 0, .string ⟨#[]⟩], .bool false])) W9) := by
      refine ⟨HE.out.1.trans (ho9.below (fun b hb => by simp at hb; rcases hb with rfl | rfl <;> omega) HE.out.2), .inl ⟨HF.out, rfl⟩⟩
    have q0 : W9.cell? ⟨w.heap.size + 1, 0, none⟩ = some (.int .i64 0) := hC9.cell 0
    have q1 : W9.cell? ⟨w.heap.size + 1, 1, none⟩ = some (.string ⟨#[]⟩) := hC9.cell 1
    have q2 : W9.cell? ⟨w.heap.size + 1, 2, none⟩ = some (.string ⟨#[]⟩) := hC9.cell 2
    have q3 : W9.cell? ⟨w.heap.size + 1, 3, none⟩ = some (.int .i64 0) := hC9.cell 3
    have q4 : W9.cell? ⟨w.heap.size + 1, 4, none⟩ = some (.int .i64 0) := hC9.cell 4
    have q5 : W9.cell? ⟨w.heap.size + 1, 5, none⟩ = some (.string ⟨#[]⟩) := hC9.cell 5
    have q6 : W9.cell? ⟨w.heap.size + 1, 6, none⟩ = some (.bool false) := hC9.cell 6
    have q7 : W9.cell? ⟨w.heap.size + 1, 7, none⟩ = some (.int .i64 0) := hC9.cell 7
    have q8 : W9.cell? ⟨w.heap.size + 1, 8, none⟩ = some (.int .i64 0) := hC9.cell 8
    have q9 : W9.cell? ⟨w.heap.size + 1, 9, none⟩ = some (.slice none 0 0) := hC9.cell 9
    have q10 : W9.cell? ⟨w.heap.size + 1, 10, none⟩ = some (.slice none 0 0) := hC9.cell 10
    have q11 : W9.cell? ⟨w.heap.size + 1, 11, none⟩ = some (.slice none 0 0) := hC9.cell 11
    have q12 : W9.cell? ⟨w.heap.size + 1, 12, none⟩ = some (.string ⟨#[]⟩) := hC9.cell 12
    have q13 : W9.cell? ⟨w.heap.size + 2, 0, none⟩ = some (.bool false) := hK9.cell 0
    clear EC ho9 hC9 hK9 HE
    have HE8 := HE9.out
    clear HE9
    generalize hL : LetPost w oB = LP at HE8 ⊢
    simp [Leaves, settle, results, Try.results66, go_sem, q0, q1, q2, q3, q4, q5, q6, q7, q8, q9, q10, q11, q12, q13]
    exact HE8
  have N5 : Hid (txtP 4 r2 = some (xs, r5)) := hn
  have HBn : Hid (Below w.heap.size w w5) := below_out HB.out ho (by have := O0.out; have := O1.out; have := O2.out; have := O3.out; have := O4.out; have := O5.out; have := O6.out; omega)
  clear HB
  have HB := HBn
  clear HBn
  have VKn : Hid (Blk w5 (w.heap.size + 2) 4 #[.bool false]) := VK.out.outX ho (by have := O0.out; have := O1.out; have := O2.out; have := O3.out; have := O4.out; have := O5.out; have := O6.out; simp <;> omega)
  clear VK
  have VK := VKn
  clear VKn
  have HXn : Hid (OwnC w5 w2.heap.size (.agg #[.int .i64 c.serial, .string c.issuer, .string c.subject, .int .i64 c.frm, .int .i64 c.upto, .string c.key, .bool c.ca, .int .i64 c.pathLen, .int .i64 c.usage, .slice pX c.pol.length qX, .slice eX c.per.length rX, .slice dX c.den.length sX, .string c.sig]) c) := HX.out.out ho (fun b hb => by have := LX.out b hb; have := O0.out; have := O1.out; have := O2.out; have := O3.out; have := O4.out; have := O5.out; have := O6.out; simp <;> omega)
  clear HX
  have HX := HXn
  clear HXn
  have VCn : Hid (Blk w5 (w.heap.size + 1) 28 #[.int .i64 c.serial, .string c.issuer, .string c.subject, .int .i64 c.frm, .int .i64 c.upto, .string c.key, .bool c.ca, .int .i64 c.pathLen, .int .i64 c.usage, .slice pX c.pol.length qX, .slice eX c.per.length rX, .slice dX c.den.length sX, .string c.sig]) := VC.out.outX ho (by have := O0.out; have := O1.out; have := O2.out; have := O3.out; have := O4.out; have := O5.out; have := O6.out; simp <;> omega)
  clear VC
  have VC := VCn
  clear VCn
  clear RW
  have O7 : Hid (V4.heap.size ≤ w5.heap.size) := ho.size
  have RW : Hid (Blk w5 gw 103 #[v5]) := hB
  have KRn : Hid (KcAt w (m + 3) v5 r5 ∧ SzL r5) := ⟨hkr, KR.out.2.txt hn⟩
  clear KR
  have KR := KRn
  clear KRn hn ho hkr hB
  have cc : w5.cell? ⟨w.heap.size + 1, 12, none⟩ = some (.string c.sig) := VC.out.cell 12
  have cf := VC.out.free 12
  go_wp2_with fail
  clear cc cf
  obtain ⟨V6, hV6⟩ : ∃ V, V = w5.setCell ⟨w.heap.size + 1, 12, none⟩ (.string xs) := ⟨_, rfl⟩
  rw [← hV6]
  have hset : Out [w.heap.size + 1] w5 V6 := by rw [hV6]; exact out_set _ _ _
  have hVC : Blk V6 (w.heap.size + 1) 28 #[.int .i64 c.serial, .string c.issuer, .string c.subject, .int .i64 c.frm, .int .i64 c.upto, .string c.key, .bool c.ca, .int .i64 c.pathLen, .int .i64 c.usage, .slice pX c.pol.length qX, .slice eX c.per.length rX, .slice dX c.den.length sX, .string xs] := by rw [hV6]; exact VC.out.set 12 _
  have HBn : Hid (Below w.heap.size w V6) := below_out HB.out hset (by have := O0.out; have := O1.out; have := O2.out; have := O3.out; have := O4.out; have := O5.out; have := O6.out; have := O7.out; omega)
  clear HB
  have HB := HBn
  clear HBn
  have VKn : Hid (Blk V6 (w.heap.size + 2) 4 #[.bool false]) := VK.out.outX hset (by have := O0.out; have := O1.out; have := O2.out; have := O3.out; have := O4.out; have := O5.out; have := O6.out; have := O7.out; simp <;> omega)
  clear VK
  have VK := VKn
  clear VKn
  have HXn : Hid (OwnC V6 w2.heap.size (.agg #[.int .i64 c.serial, .string c.issuer, .string c.subject, .int .i64 c.frm, .int .i64 c.upto, .string c.key, .bool c.ca, .int .i64 c.pathLen, .int .i64 c.usage, .slice pX c.pol.length qX, .slice eX c.per.length rX, .slice dX c.den.length sX, .string c.sig]) c) := HX.out.out hset (fun b hb => by have := LX.out b hb; have := O0.out; have := O1.out; have := O2.out; have := O3.out; have := O4.out; have := O5.out; have := O6.out; have := O7.out; simp <;> omega)
  clear HX
  have HX := HXn
  clear HXn
  have RWn : Hid (Blk V6 gw 103 #[v5]) := RW.out.outX hset (by have := O0.out; have := O1.out; have := O2.out; have := O3.out; have := O4.out; have := O5.out; have := O6.out; have := O7.out; simp <;> omega)
  clear RW
  have RW := RWn
  clear RWn
  clear VC
  have O8 : Hid (w5.heap.size ≤ V6.heap.size) := hset.size
  have VC : Hid (Blk V6 (w.heap.size + 1) 28 #[.int .i64 c.serial, .string c.issuer, .string c.subject, .int .i64 c.frm, .int .i64 c.upto, .string c.key, .bool c.ca, .int .i64 c.pathLen, .int .i64 c.usage, .slice pX c.pol.length qX, .slice eX c.per.length rX, .slice dX c.den.length sX, .string xs]) := hVC
  clear hset hVC hV6
  obtain ⟨ea, ec, he⟩ := KR.out.1.shape
  have hRE : Blk V6 gw 103 #[.slice ea r5.length ec] := by rw [← he]; exact RW.out
  refine (end_any V6 gw r5.length ec ea r5 rfl hRE).mono ?_
  rintro e w7 ⟨hb, ⟨hn, rfl⟩ | ⟨hnil, hn, rfl⟩⟩
  · have VCn : Blk w7 (w.heap.size + 1) 28 #[.int .i64 c.serial, .string c.issuer, .string c.subject, .int .i64 c.frm, .int .i64 c.upto, .string c.key, .bool c.ca, .int .i64 c.pathLen, .int .i64 c.usage, .slice pX c.pol.length qX, .slice eX c.per.length rX, .slice dX c.den.length sX, .string xs] := VC.out.on hb
    have VKn : Blk w7 (w.heap.size + 2) 4 #[.bool false] := VK.out.on hb
    have HBn : Below w.heap.size w w7 := HB.out.trans (hb.mono HB.out.size)
    have HF : Hid (oB = none) := by
      show oB = none
      rw [← HP.out]
      unfold letP; rw [if_pos NT.out]; simp only [N2.out, N3.out, N5.out, hn, Option.bind_some, Option.bind_none]
    have EC := catch_misfit (w.heap.size + 1) (w.heap.size + 2) (.int .i64 c.serial) (.string c.issuer) (.string c.subject) (.int .i64 c.frm) (.int .i64 c.upto) (.string c.key) (.bool c.ca) (.int .i64 c.pathLen) (.int .i64 c.usage) (.slice pX c.pol.length qX) (.slice eX c.per.length rX) (.slice dX c.den.length sX) (.string xs) (.bool false) 28 4 [] w7 VCn VKn (by omega)
    have HE : Hid (Below w.heap.size w w7 ∧ w.heap.size ≤ w7.heap.size) := ⟨HBn, HBn.size⟩
    clear VCn VKn HBn hn hb
    unfold misfit
    go_wp2_with fail
    refine leaves_cons (f := 80) (args := #[.pointer (some ⟨w.heap.size + 1, 0, none⟩), .pointer (some ⟨w.heap.size + 2, 0, none⟩)]) (by simp) (by simp [go_sem]) ?_
    refine EC.mono ?_
    rintro e u' W9 ⟨rfl, rfl, ho9, hC9, hK9⟩
    have HE9 : Hid (LetPost w oB (.returned (.tuple #[.agg #[.int .i64 0, .string ⟨#[]⟩, .string ⟨#[]⟩, .int .i64 0, .int .i64 0, .string ⟨#[]⟩, .bool false, .int .i64 0, .int .i64 0, .slice none 0 0, .slice none 0 0, .slice none 0 0, .string ⟨#[]⟩], .bool false])) W9) := by
      refine ⟨HE.out.1.trans (ho9.below (fun b hb => by simp at hb; rcases hb with rfl | rfl <;> omega) HE.out.2), .inl ⟨HF.out, rfl⟩⟩
    have q0 : W9.cell? ⟨w.heap.size + 1, 0, none⟩ = some (.int .i64 0) := hC9.cell 0
    have q1 : W9.cell? ⟨w.heap.size + 1, 1, none⟩ = some (.string ⟨#[]⟩) := hC9.cell 1
    have q2 : W9.cell? ⟨w.heap.size + 1, 2, none⟩ = some (.string ⟨#[]⟩) := hC9.cell 2
    have q3 : W9.cell? ⟨w.heap.size + 1, 3, none⟩ = some (.int .i64 0) := hC9.cell 3
    have q4 : W9.cell? ⟨w.heap.size + 1, 4, none⟩ = some (.int .i64 0) := hC9.cell 4
    have q5 : W9.cell? ⟨w.heap.size + 1, 5, none⟩ = some (.string ⟨#[]⟩) := hC9.cell 5
    have q6 : W9.cell? ⟨w.heap.size + 1, 6, none⟩ = some (.bool false) := hC9.cell 6
    have q7 : W9.cell? ⟨w.heap.size + 1, 7, none⟩ = some (.int .i64 0) := hC9.cell 7
    have q8 : W9.cell? ⟨w.heap.size + 1, 8, none⟩ = some (.int .i64 0) := hC9.cell 8
    have q9 : W9.cell? ⟨w.heap.size + 1, 9, none⟩ = some (.slice none 0 0) := hC9.cell 9
    have q10 : W9.cell? ⟨w.heap.size + 1, 10, none⟩ = some (.slice none 0 0) := hC9.cell 10
    have q11 : W9.cell? ⟨w.heap.size + 1, 11, none⟩ = some (.slice none 0 0) := hC9.cell 11
    have q12 : W9.cell? ⟨w.heap.size + 1, 12, none⟩ = some (.string ⟨#[]⟩) := hC9.cell 12
    have q13 : W9.cell? ⟨w.heap.size + 2, 0, none⟩ = some (.bool false) := hK9.cell 0
    clear EC ho9 hC9 hK9 HE
    have HE8 := HE9.out
    clear HE9
    generalize hL : LetPost w oB = LP at HE8 ⊢
    simp [Leaves, settle, results, Try.results66, go_sem, q0, q1, q2, q3, q4, q5, q6, q7, q8, q9, q10, q11, q12, q13]
    exact HE8
  have N7 : Hid (endP r5 = some ()) := hn
  have HBn : Hid (Below w.heap.size w w7) := HB.out.trans (hb.mono HB.out.size)
  clear HB
  have HB := HBn
  clear HBn
  have VKn : Hid (Blk w7 (w.heap.size + 2) 4 #[.bool false]) := VK.out.on hb
  clear VK
  have VK := VKn
  clear VKn
  have HXn : Hid (OwnC w7 w2.heap.size (.agg #[.int .i64 c.serial, .string c.issuer, .string c.subject, .int .i64 c.frm, .int .i64 c.upto, .string c.key, .bool c.ca, .int .i64 c.pathLen, .int .i64 c.usage, .slice pX c.pol.length qX, .slice eX c.per.length rX, .slice dX c.den.length sX, .string c.sig]) c) := HX.out.stays hb
  clear HX
  have HX := HXn
  clear HXn
  have RWn : Hid (Blk w7 gw 103 #[v5]) := RW.out.on hb
  clear RW
  have RW := RWn
  clear RWn
  have VCn : Hid (Blk w7 (w.heap.size + 1) 28 #[.int .i64 c.serial, .string c.issuer, .string c.subject, .int .i64 c.frm, .int .i64 c.upto, .string c.key, .bool c.ca, .int .i64 c.pathLen, .int .i64 c.usage, .slice pX c.pol.length qX, .slice eX c.per.length rX, .slice dX c.den.length sX, .string xs]) := VC.out.on hb
  clear VC
  have VC := VCn
  clear VCn
  have O9 : Hid (V6.heap.size ≤ w7.heap.size) := hb.size
  clear hn hb hnil hRE he
  have HF : Hid (oB = some { c with sig := xs }) := by
    show oB = _
    rw [← HP.out]
    unfold letP; rw [if_pos NT.out]; simp only [N2.out, N3.out, N5.out, N7.out, Option.bind_some, Option.bind_none]
  have c10 : w7.cell? ⟨w.heap.size + 1, 0, none⟩ = some (.int .i64 c.serial) := VC.out.cell 0
  have c11 : w7.cell? ⟨w.heap.size + 1, 1, none⟩ = some (.string c.issuer) := VC.out.cell 1
  have c12 : w7.cell? ⟨w.heap.size + 1, 2, none⟩ = some (.string c.subject) := VC.out.cell 2
  have c13 : w7.cell? ⟨w.heap.size + 1, 3, none⟩ = some (.int .i64 c.frm) := VC.out.cell 3
  have c14 : w7.cell? ⟨w.heap.size + 1, 4, none⟩ = some (.int .i64 c.upto) := VC.out.cell 4
  have c15 : w7.cell? ⟨w.heap.size + 1, 5, none⟩ = some (.string c.key) := VC.out.cell 5
  have c16 : w7.cell? ⟨w.heap.size + 1, 6, none⟩ = some (.bool c.ca) := VC.out.cell 6
  have c17 : w7.cell? ⟨w.heap.size + 1, 7, none⟩ = some (.int .i64 c.pathLen) := VC.out.cell 7
  have c18 : w7.cell? ⟨w.heap.size + 1, 8, none⟩ = some (.int .i64 c.usage) := VC.out.cell 8
  have c19 : w7.cell? ⟨w.heap.size + 1, 9, none⟩ = some (.slice pX c.pol.length qX) := VC.out.cell 9
  have c110 : w7.cell? ⟨w.heap.size + 1, 10, none⟩ = some (.slice eX c.per.length rX) := VC.out.cell 10
  have c111 : w7.cell? ⟨w.heap.size + 1, 11, none⟩ = some (.slice dX c.den.length sX) := VC.out.cell 11
  have c112 : w7.cell? ⟨w.heap.size + 1, 12, none⟩ = some (.string xs) := VC.out.cell 12
  have f1 := fun j => VC.out.free j
  have k1 : w7.cell? ⟨w.heap.size + 2, 0, none⟩ = some (.bool false) := VK.out.cell 0
  have k2 := fun j => VK.out.free j
  have n1 : ¬ w.heap.size + 1 = w.heap.size + 2 := by omega
  have n2 : ¬ w.heap.size + 2 = w.heap.size + 1 := by omega
  go_wp2_with fail
  clear f1 k1 k2 n1 n2 c10 c11 c12 c13 c14 c15 c16 c17 c18 c19 c110 c111 c112
  generalize hV8 : World.setCell _ { block := w.heap.size + 2, off := 0 } (Value.bool true) = V8
  have FIN : Out [w.heap.size + 1, w.heap.size + 2] w7 V8 ∧ Blk V8 (w.heap.size + 1) 28 #[.int .i64 c.serial, .string c.issuer, .string c.subject, .int .i64 c.frm, .int .i64 c.upto, .string c.key, .bool c.ca, .int .i64 c.pathLen, .int .i64 c.usage, .slice pX c.pol.length qX, .slice eX c.per.length rX, .slice dX c.den.length sX, .string xs] ∧ Blk V8 (w.heap.size + 2) 4 #[.bool true] := by
    rw [← hV8]
    refine ⟨?_, ?_, ?_⟩
    · iterate 14 refine Out.setCell ?_ _ _ (by simp)
      exact Out.refl _ _
    · refine Blk.other ?_ _ (by show w.heap.size + 1 ≠ w.heap.size + 2; omega)
      exact set13 VC.out
    · refine Blk.set (vs := #[.bool false]) ?_ 0 _
      iterate 13 refine Blk.other ?_ _ (by show w.heap.size + 2 ≠ w.heap.size + 1; omega)
      exact VK.out
  clear hV8
  have HE8 : LetPost w oB (.returned (.tuple #[.agg #[.int .i64 c.serial, .string c.issuer, .string c.subject, .int .i64 c.frm, .int .i64 c.upto, .string c.key, .bool c.ca, .int .i64 c.pathLen, .int .i64 c.usage, .slice pX c.pol.length qX, .slice eX c.per.length rX, .slice dX c.den.length sX, .string xs], .bool true])) V8 := by
    refine ⟨HB.out.trans (FIN.1.below (fun b hb => by simp at hb; rcases hb with rfl | rfl <;> omega) HB.out.size), .inr ⟨{ c with sig := xs }, .agg #[.int .i64 c.serial, .string c.issuer, .string c.subject, .int .i64 c.frm, .int .i64 c.upto, .string c.key, .bool c.ca, .int .i64 c.pathLen, .int .i64 c.usage, .slice pX c.pol.length qX, .slice eX c.per.length rX, .slice dX c.den.length sX, .string xs], HF.out, rfl, ?_⟩⟩
    have hx := HX.out.out FIN.1 (fun b hb => by have := LX.out b hb; have := O0.out; have := O1.out; have := O2.out; have := O3.out; have := O4.out; have := O5.out; have := O6.out; have := O7.out; have := O8.out; have := O9.out; simp <;> omega)
    obtain ⟨p9, e9, d9, hv9, h1, h2, h3, h4⟩ := hx
    have hv9' : (#[.int .i64 c.serial, .string c.issuer, .string c.subject, .int .i64 c.frm, .int .i64 c.upto, .string c.key, .bool c.ca, .int .i64 c.pathLen, .int .i64 c.usage, .slice pX c.pol.length qX, .slice eX c.per.length rX, .slice dX c.den.length sX, .string c.sig] : Array Value) = #[.int .i64 c.serial, .string c.issuer, .string c.subject, .int .i64 c.frm, .int .i64 c.upto, .string c.key, .bool c.ca, .int .i64 c.pathLen, .int .i64 c.usage, p9, e9, d9, .string c.sig] := by injection hv9
    simp only [Array.mk.injEq, List.cons.injEq, and_true, true_and] at hv9'
    obtain ⟨rfl, rfl, rfl⟩ := hv9'
    exact ⟨_, _, _, rfl, h1.base (by have := O0.out; have := O1.out; have := O2.out; have := O3.out; have := O4.out; have := O5.out; have := O6.out; have := O7.out; have := O8.out; have := O9.out; omega), h2.base (by have := O0.out; have := O1.out; have := O2.out; have := O3.out; have := O4.out; have := O5.out; have := O6.out; have := O7.out; have := O8.out; have := O9.out; omega), h3.base (by have := O0.out; have := O1.out; have := O2.out; have := O3.out; have := O4.out; have := O5.out; have := O6.out; have := O7.out; have := O8.out; have := O9.out; omega), h4⟩
  have q0 : V8.cell? ⟨w.heap.size + 1, 0, none⟩ = some (.int .i64 c.serial) := FIN.2.1.cell 0
  have q1 : V8.cell? ⟨w.heap.size + 1, 1, none⟩ = some (.string c.issuer) := FIN.2.1.cell 1
  have q2 : V8.cell? ⟨w.heap.size + 1, 2, none⟩ = some (.string c.subject) := FIN.2.1.cell 2
  have q3 : V8.cell? ⟨w.heap.size + 1, 3, none⟩ = some (.int .i64 c.frm) := FIN.2.1.cell 3
  have q4 : V8.cell? ⟨w.heap.size + 1, 4, none⟩ = some (.int .i64 c.upto) := FIN.2.1.cell 4
  have q5 : V8.cell? ⟨w.heap.size + 1, 5, none⟩ = some (.string c.key) := FIN.2.1.cell 5
  have q6 : V8.cell? ⟨w.heap.size + 1, 6, none⟩ = some (.bool c.ca) := FIN.2.1.cell 6
  have q7 : V8.cell? ⟨w.heap.size + 1, 7, none⟩ = some (.int .i64 c.pathLen) := FIN.2.1.cell 7
  have q8 : V8.cell? ⟨w.heap.size + 1, 8, none⟩ = some (.int .i64 c.usage) := FIN.2.1.cell 8
  have q9 : V8.cell? ⟨w.heap.size + 1, 9, none⟩ = some (.slice pX c.pol.length qX) := FIN.2.1.cell 9
  have q10 : V8.cell? ⟨w.heap.size + 1, 10, none⟩ = some (.slice eX c.per.length rX) := FIN.2.1.cell 10
  have q11 : V8.cell? ⟨w.heap.size + 1, 11, none⟩ = some (.slice dX c.den.length sX) := FIN.2.1.cell 11
  have q12 : V8.cell? ⟨w.heap.size + 1, 12, none⟩ = some (.string xs) := FIN.2.1.cell 12
  have q13 : V8.cell? ⟨w.heap.size + 2, 0, none⟩ = some (.bool true) := FIN.2.2.cell 0
  clear FIN HX LX
  refine leaves_cons (f := 80) (args := #[.pointer (some ⟨w.heap.size + 1, 0, none⟩), .pointer (some ⟨w.heap.size + 2, 0, none⟩)]) (by simp) (by simp [go_sem]) ?_
  refine (catch_idle ⟨w.heap.size + 1, 0, none⟩ ⟨w.heap.size + 2, 0, none⟩ _).mono ?_
  rintro e u' W9 ⟨rfl, rfl, rfl⟩
  generalize hL : LetPost w oB = LP at HE8 ⊢
  simp [Leaves, settle, results, Try.results66, go_sem, q0, q1, q2, q3, q4, q5, q6, q7, q8, q9, q10, q11, q12, q13]
  exact HE8
end Go.Proofs.Ytgkaagmjipkeaaa

/-
  The program's upTo and CertOk.
-/
namespace Go.Proofs.Ytgkaagmjipkeaaa
open Go.RowKit
set_option linter.unusedVariables false

set_option maxRecDepth 100000 in
theorem upTo_any (hi n : Int) (w : World) : Calls Try.prog 35 #[.int .i64 hi, .int .i64 n] w fun e w' => e = .returned (.bool (inB n 0 hi)) ∧ Below w.heap.size w w' := by
  by_cases h : 0 ≤ n
  · by_cases h2 : n ≤ hi
    · have HB : Hid (inB n 0 hi = true) := decide_eq_true ⟨h, h2⟩
      go_enter Try.func35, Try.ntmps35
      go_wp2_with fail
      go_ret
      exact ⟨by rw [HB.out]; simp [*], Below.refl _ _⟩
    · have HB : Hid (inB n 0 hi = false) := decide_eq_false (fun q => h2 q.2)
      go_enter Try.func35, Try.ntmps35
      go_wp2_with fail
      go_ret
      exact ⟨by rw [HB.out]; simp [*], Below.refl _ _⟩
  · have HB : Hid (inB n 0 hi = false) := decide_eq_false (fun q => h q.1)
    go_enter Try.func35, Try.ntmps35
    go_wp2_with fail
    go_ret
    exact ⟨by rw [HB.out]; simp [*], Below.refl _ _⟩
set_option maxHeartbeats 6400000 in
set_option maxRecDepth 100000 in
theorem implCertOk_any (c : Ct) (v : Value) (w : World) (hz : wtC c ≤ 1000000000) (ha : CtAt w v c) :
    Calls Try.prog 11 #[v] w fun e w' => e = .returned (.bool (certOk c)) ∧ Below w.heap.size w w' := by
  obtain ⟨pv, ev, dv, rfl, h1, h2, h3⟩ := ha
  obtain ⟨z1, z2, z3, z4, z5, z6, z7, z8, z9⟩ := wt_parts hz
  clear hz
  obtain ⟨pa, pc, hpa⟩ : ∃ ao cap, pv = .slice ao c.pol.length cap := by obtain ⟨ao, cap, h, _⟩ := h1; exact ⟨ao, cap, h⟩
  obtain ⟨ea, ec, hea⟩ : ∃ ao cap, ev = .slice ao c.per.length cap := by obtain ⟨ao, cap, h, _⟩ := h2; exact ⟨ao, cap, h⟩
  obtain ⟨da, dc, hda⟩ : ∃ ao cap, dv = .slice ao c.den.length cap := by obtain ⟨ao, cap, h, _⟩ := h3; exact ⟨ao, cap, h⟩
  obtain ⟨lp, hlp⟩ : ∃ l, c.pol.length = l := ⟨_, rfl⟩
  obtain ⟨le, hle⟩ : ∃ l, c.per.length = l := ⟨_, rfl⟩
  obtain ⟨ld, hld⟩ : ∃ l, c.den.length = l := ⟨_, rfl⟩
  rw [hlp] at hpa
  rw [hle] at hea
  rw [hld] at hda
  subst hpa hea hda
  obtain ⟨B1, hB1⟩ : ∃ b, inB c.serial 0 9999 = b := ⟨_, rfl⟩
  have E1 : Hid (∀ W, Below w.heap.size w W → Calls Try.prog 35 #[.int .i64 9999, .int .i64 c.serial] W fun e w' => e = .returned (.bool B1) ∧ Below W.heap.size W w') := fun W hb => by rw [← hB1]; exact upTo_any _ _ W
  obtain ⟨B2, hB2⟩ : ∃ b, inB c.frm 0 9999 = b := ⟨_, rfl⟩
  have E2 : Hid (∀ W, Below w.heap.size w W → Calls Try.prog 35 #[.int .i64 9999, .int .i64 c.frm] W fun e w' => e = .returned (.bool B2) ∧ Below W.heap.size W w') := fun W hb => by rw [← hB2]; exact upTo_any _ _ W
  obtain ⟨B3, hB3⟩ : ∃ b, inB c.upto 0 9999 = b := ⟨_, rfl⟩
  have E3 : Hid (∀ W, Below w.heap.size w W → Calls Try.prog 35 #[.int .i64 9999, .int .i64 c.upto] W fun e w' => e = .returned (.bool B3) ∧ Below W.heap.size W w') := fun W hb => by rw [← hB3]; exact upTo_any _ _ W
  obtain ⟨B4, hB4⟩ : ∃ b, nameOk c.issuer = b := ⟨_, rfl⟩
  have E4 : Hid (∀ W, Below w.heap.size w W → Calls Try.prog 36 #[.string c.issuer] W fun e w' => e = .returned (.bool B4) ∧ Below W.heap.size W w') := fun W hb => by rw [← hB4]; exact implName_any c.issuer W (by omega)
  obtain ⟨B5, hB5⟩ : ∃ b, nameOk c.subject = b := ⟨_, rfl⟩
  have E5 : Hid (∀ W, Below w.heap.size w W → Calls Try.prog 36 #[.string c.subject] W fun e w' => e = .returned (.bool B5) ∧ Below W.heap.size W w') := fun W hb => by rw [← hB5]; exact implName_any c.subject W (by omega)
  obtain ⟨B7, hB7⟩ : ∃ b, inB c.pathLen 0 99 = b := ⟨_, rfl⟩
  have E7 : Hid (∀ W, Below w.heap.size w W → Calls Try.prog 35 #[.int .i64 99, .int .i64 c.pathLen] W fun e w' => e = .returned (.bool B7) ∧ Below W.heap.size W w') := fun W hb => by rw [← hB7]; exact upTo_any _ _ W
  obtain ⟨B8, hB8⟩ : ∃ b, inB c.usage 0 7 = b := ⟨_, rfl⟩
  have E8 : Hid (∀ W, Below w.heap.size w W → Calls Try.prog 35 #[.int .i64 7, .int .i64 c.usage] W fun e w' => e = .returned (.bool B8) ∧ Below W.heap.size W w') := fun W hb => by rw [← hB8]; exact upTo_any _ _ W
  obtain ⟨B9, hB9⟩ : ∃ b, polOk c.pol = b := ⟨_, rfl⟩
  have E9 : Hid (∀ W, Below w.heap.size w W → Calls Try.prog 37 #[.slice pa lp pc] W fun e w' => e = .returned (.bool B9) ∧ Below W.heap.size W w') := fun W hb => by rw [← hB9]; exact implIok_any _ c.pol W (by omega) (h1.below hb)
  obtain ⟨B10, hB10⟩ : ∃ b, namesOk c.per = b := ⟨_, rfl⟩
  have E10 : Hid (∀ W, Below w.heap.size w W → Calls Try.prog 38 #[.slice ea le ec] W fun e w' => e = .returned (.bool B10) ∧ Below W.heap.size W w') := fun W hb => by rw [← hB10]; exact implTok_any _ c.per W (by omega) (fun s hs => by have := z8 s hs; omega) (h2.below hb)
  obtain ⟨B11, hB11⟩ : ∃ b, namesOk c.den = b := ⟨_, rfl⟩
  have E11 : Hid (∀ W, Below w.heap.size w W → Calls Try.prog 38 #[.slice da ld dc] W fun e w' => e = .returned (.bool B11) ∧ Below W.heap.size W w') := fun W hb => by rw [← hB11]; exact implTok_any _ c.den W (by omega) (fun s hs => by have := z9 s hs; omega) (h3.below hb)
  have HC : Hid (certOk c = (B1 && (B2 && (B3 && (B4 && (B5 && (decide (c.key.size = 15) && (B7 && (B8 && (B9 && (B10 && (B11 && decide (c.sig.size = 15))))))))))))) := by show certOk c = _; unfold certOk; rw [hB1, hB2, hB3, hB4, hB5, hB7, hB8, hB9, hB10, hB11]
  clear hB1 hB2 hB3 hB4 hB5 hB7 hB8 hB9 hB10 hB11 h1 h2 h3 hlp hle hld z8 z9
  unfold ctV
  go_enter Try.func11, Try.ntmps11
  go_wp2_with fail
  obtain ⟨V, hV⟩ : ∃ V, V = w.alloc (Obj.cells #[.int .i64 c.serial, .string c.issuer, .string c.subject, .int .i64 c.frm, .int .i64 c.upto, .string c.key, .bool c.ca, .int .i64 c.pathLen, .int .i64 c.usage, .slice pa lp pc, .slice ea le ec, .slice da ld dc, .string c.sig] 28) := ⟨_, rfl⟩
  rw [← hV]
  have G : Hid (Blk V w.heap.size 28 #[.int .i64 c.serial, .string c.issuer, .string c.subject, .int .i64 c.frm, .int .i64 c.upto, .string c.key, .bool c.ca, .int .i64 c.pathLen, .int .i64 c.usage, .slice pa lp pc, .slice ea le ec, .slice da ld dc, .string c.sig] ∧ Below w.heap.size w V ∧ w.heap.size < V.heap.size) := by rw [hV]; exact ⟨Blk.new w _ _, (Below.refl _ _).alloc (Nat.le_refl _) _, (Blk.new w _ _).lt⟩
  clear hV
  refine (E1.out V G.out.2.1).mono ?_
  rintro e V1 ⟨rfl, hb⟩
  have G1 : Hid (Blk V1 w.heap.size 28 #[.int .i64 c.serial, .string c.issuer, .string c.subject, .int .i64 c.frm, .int .i64 c.upto, .string c.key, .bool c.ca, .int .i64 c.pathLen, .int .i64 c.usage, .slice pa lp pc, .slice ea le ec, .slice da ld dc, .string c.sig] ∧ Below w.heap.size w V1 ∧ w.heap.size < V1.heap.size) := ⟨G.out.1.below hb G.out.2.2, G.out.2.1.trans (hb.mono G.out.2.1.size), Nat.lt_of_lt_of_le G.out.2.2 hb.size⟩
  clear hb G E1
  have c_frm : V1.cell? ⟨w.heap.size, 3, none⟩ = some (.int .i64 c.frm) := G1.out.1.cell 3
  cases B1 with
  | false =>
    go_wp2_with fail
    go_ret
    exact ⟨by rw [HC.out]; simp, G1.out.2.1⟩
  | true =>
    go_wp2_with fail
    clear c_frm
    refine (E2.out V1 G1.out.2.1).mono ?_
    rintro e V2 ⟨rfl, hb⟩
    have G2 : Hid (Blk V2 w.heap.size 28 #[.int .i64 c.serial, .string c.issuer, .string c.subject, .int .i64 c.frm, .int .i64 c.upto, .string c.key, .bool c.ca, .int .i64 c.pathLen, .int .i64 c.usage, .slice pa lp pc, .slice ea le ec, .slice da ld dc, .string c.sig] ∧ Below w.heap.size w V2 ∧ w.heap.size < V2.heap.size) := ⟨G1.out.1.below hb G1.out.2.2, G1.out.2.1.trans (hb.mono G1.out.2.1.size), Nat.lt_of_lt_of_le G1.out.2.2 hb.size⟩
    clear hb G1 E2
    have c_upto : V2.cell? ⟨w.heap.size, 4, none⟩ = some (.int .i64 c.upto) := G2.out.1.cell 4
    cases B2 with
    | false =>
      go_wp2_with fail
      go_ret
      exact ⟨by rw [HC.out]; simp, G2.out.2.1⟩
    | true =>
      go_wp2_with fail
      clear c_upto
      refine (E3.out V2 G2.out.2.1).mono ?_
      rintro e V3 ⟨rfl, hb⟩
      have G3 : Hid (Blk V3 w.heap.size 28 #[.int .i64 c.serial, .string c.issuer, .string c.subject, .int .i64 c.frm, .int .i64 c.upto, .string c.key, .bool c.ca, .int .i64 c.pathLen, .int .i64 c.usage, .slice pa lp pc, .slice ea le ec, .slice da ld dc, .string c.sig] ∧ Below w.heap.size w V3 ∧ w.heap.size < V3.heap.size) := ⟨G2.out.1.below hb G2.out.2.2, G2.out.2.1.trans (hb.mono G2.out.2.1.size), Nat.lt_of_lt_of_le G2.out.2.2 hb.size⟩
      clear hb G2 E3
      have c_issuer : V3.cell? ⟨w.heap.size, 1, none⟩ = some (.string c.issuer) := G3.out.1.cell 1
      cases B3 with
      | false =>
        go_wp2_with fail
        go_ret
        exact ⟨by rw [HC.out]; simp, G3.out.2.1⟩
      | true =>
        go_wp2_with fail
        clear c_issuer
        refine (E4.out V3 G3.out.2.1).mono ?_
        rintro e V4 ⟨rfl, hb⟩
        have G4 : Hid (Blk V4 w.heap.size 28 #[.int .i64 c.serial, .string c.issuer, .string c.subject, .int .i64 c.frm, .int .i64 c.upto, .string c.key, .bool c.ca, .int .i64 c.pathLen, .int .i64 c.usage, .slice pa lp pc, .slice ea le ec, .slice da ld dc, .string c.sig] ∧ Below w.heap.size w V4 ∧ w.heap.size < V4.heap.size) := ⟨G3.out.1.below hb G3.out.2.2, G3.out.2.1.trans (hb.mono G3.out.2.1.size), Nat.lt_of_lt_of_le G3.out.2.2 hb.size⟩
        clear hb G3 E4
        have c_subject : V4.cell? ⟨w.heap.size, 2, none⟩ = some (.string c.subject) := G4.out.1.cell 2
        cases B4 with
        | false =>
          go_wp2_with fail
          go_ret
          exact ⟨by rw [HC.out]; simp, G4.out.2.1⟩
        | true =>
          go_wp2_with fail
          clear c_subject
          refine (E5.out V4 G4.out.2.1).mono ?_
          rintro e V5 ⟨rfl, hb⟩
          have G5 : Hid (Blk V5 w.heap.size 28 #[.int .i64 c.serial, .string c.issuer, .string c.subject, .int .i64 c.frm, .int .i64 c.upto, .string c.key, .bool c.ca, .int .i64 c.pathLen, .int .i64 c.usage, .slice pa lp pc, .slice ea le ec, .slice da ld dc, .string c.sig] ∧ Below w.heap.size w V5 ∧ w.heap.size < V5.heap.size) := ⟨G4.out.1.below hb G4.out.2.2, G4.out.2.1.trans (hb.mono G4.out.2.1.size), Nat.lt_of_lt_of_le G4.out.2.2 hb.size⟩
          clear hb G4 E5
          have c_key : V5.cell? ⟨w.heap.size, 5, none⟩ = some (.string c.key) := G5.out.1.cell 5
          have c_pathLen : V5.cell? ⟨w.heap.size, 7, none⟩ = some (.int .i64 c.pathLen) := G5.out.1.cell 7
          cases B5 with
          | false =>
            go_wp2_with fail
            go_ret
            exact ⟨by rw [HC.out]; simp, G5.out.2.1⟩
          | true =>
            by_cases s6 : c.key.size = 15
            rotate_left
            · have si : ¬ (c.key.size : Int) = 15 := by omega
              have HN : Hid (decide (c.key.size = 15) = false) := decide_eq_false s6
              clear s6
              go_wp2_with fail
              go_ret
              exact ⟨by rw [HC.out, HN.out]; simp, G5.out.2.1⟩
            have si6 : (c.key.size : Int) = 15 := by omega
            go_wp2_with fail
            skip
            refine (E7.out V5 G5.out.2.1).mono ?_
            rintro e V7 ⟨rfl, hb⟩
            have G7 : Hid (Blk V7 w.heap.size 28 #[.int .i64 c.serial, .string c.issuer, .string c.subject, .int .i64 c.frm, .int .i64 c.upto, .string c.key, .bool c.ca, .int .i64 c.pathLen, .int .i64 c.usage, .slice pa lp pc, .slice ea le ec, .slice da ld dc, .string c.sig] ∧ Below w.heap.size w V7 ∧ w.heap.size < V7.heap.size) := ⟨G5.out.1.below hb G5.out.2.2, G5.out.2.1.trans (hb.mono G5.out.2.1.size), Nat.lt_of_lt_of_le G5.out.2.2 hb.size⟩
            clear hb G5 E7
            have c_usage : V7.cell? ⟨w.heap.size, 8, none⟩ = some (.int .i64 c.usage) := G7.out.1.cell 8
            cases B7 with
            | false =>
              go_wp2_with fail
              go_ret
              exact ⟨by rw [HC.out]; simp, G7.out.2.1⟩
            | true =>
              go_wp2_with fail
              clear c_usage
              refine (E8.out V7 G7.out.2.1).mono ?_
              rintro e V8 ⟨rfl, hb⟩
              have G8 : Hid (Blk V8 w.heap.size 28 #[.int .i64 c.serial, .string c.issuer, .string c.subject, .int .i64 c.frm, .int .i64 c.upto, .string c.key, .bool c.ca, .int .i64 c.pathLen, .int .i64 c.usage, .slice pa lp pc, .slice ea le ec, .slice da ld dc, .string c.sig] ∧ Below w.heap.size w V8 ∧ w.heap.size < V8.heap.size) := ⟨G7.out.1.below hb G7.out.2.2, G7.out.2.1.trans (hb.mono G7.out.2.1.size), Nat.lt_of_lt_of_le G7.out.2.2 hb.size⟩
              clear hb G7 E8
              have c_pol : V8.cell? ⟨w.heap.size, 9, none⟩ = some (.slice pa lp pc) := G8.out.1.cell 9
              cases B8 with
              | false =>
                go_wp2_with fail
                go_ret
                exact ⟨by rw [HC.out]; simp, G8.out.2.1⟩
              | true =>
                go_wp2_with fail
                clear c_pol
                refine (E9.out V8 G8.out.2.1).mono ?_
                rintro e V9 ⟨rfl, hb⟩
                have G9 : Hid (Blk V9 w.heap.size 28 #[.int .i64 c.serial, .string c.issuer, .string c.subject, .int .i64 c.frm, .int .i64 c.upto, .string c.key, .bool c.ca, .int .i64 c.pathLen, .int .i64 c.usage, .slice pa lp pc, .slice ea le ec, .slice da ld dc, .string c.sig] ∧ Below w.heap.size w V9 ∧ w.heap.size < V9.heap.size) := ⟨G8.out.1.below hb G8.out.2.2, G8.out.2.1.trans (hb.mono G8.out.2.1.size), Nat.lt_of_lt_of_le G8.out.2.2 hb.size⟩
                clear hb G8 E9
                have c_per : V9.cell? ⟨w.heap.size, 10, none⟩ = some (.slice ea le ec) := G9.out.1.cell 10
                cases B9 with
                | false =>
                  go_wp2_with fail
                  go_ret
                  exact ⟨by rw [HC.out]; simp, G9.out.2.1⟩
                | true =>
                  go_wp2_with fail
                  clear c_per
                  refine (E10.out V9 G9.out.2.1).mono ?_
                  rintro e V10 ⟨rfl, hb⟩
                  have G10 : Hid (Blk V10 w.heap.size 28 #[.int .i64 c.serial, .string c.issuer, .string c.subject, .int .i64 c.frm, .int .i64 c.upto, .string c.key, .bool c.ca, .int .i64 c.pathLen, .int .i64 c.usage, .slice pa lp pc, .slice ea le ec, .slice da ld dc, .string c.sig] ∧ Below w.heap.size w V10 ∧ w.heap.size < V10.heap.size) := ⟨G9.out.1.below hb G9.out.2.2, G9.out.2.1.trans (hb.mono G9.out.2.1.size), Nat.lt_of_lt_of_le G9.out.2.2 hb.size⟩
                  clear hb G9 E10
                  have c_den : V10.cell? ⟨w.heap.size, 11, none⟩ = some (.slice da ld dc) := G10.out.1.cell 11
                  cases B10 with
                  | false =>
                    go_wp2_with fail
                    go_ret
                    exact ⟨by rw [HC.out]; simp, G10.out.2.1⟩
                  | true =>
                    go_wp2_with fail
                    clear c_den
                    refine (E11.out V10 G10.out.2.1).mono ?_
                    rintro e V11 ⟨rfl, hb⟩
                    have G11 : Hid (Blk V11 w.heap.size 28 #[.int .i64 c.serial, .string c.issuer, .string c.subject, .int .i64 c.frm, .int .i64 c.upto, .string c.key, .bool c.ca, .int .i64 c.pathLen, .int .i64 c.usage, .slice pa lp pc, .slice ea le ec, .slice da ld dc, .string c.sig] ∧ Below w.heap.size w V11 ∧ w.heap.size < V11.heap.size) := ⟨G10.out.1.below hb G10.out.2.2, G10.out.2.1.trans (hb.mono G10.out.2.1.size), Nat.lt_of_lt_of_le G10.out.2.2 hb.size⟩
                    clear hb G10 E11
                    have c_sig : V11.cell? ⟨w.heap.size, 12, none⟩ = some (.string c.sig) := G11.out.1.cell 12
                    cases B11 with
                    | false =>
                      go_wp2_with fail
                      go_ret
                      exact ⟨by rw [HC.out]; simp, G11.out.2.1⟩
                    | true =>
                      by_cases s12 : c.sig.size = 15
                      rotate_left
                      · have si : ¬ (c.sig.size : Int) = 15 := by omega
                        have HN : Hid (decide (c.sig.size = 15) = false) := decide_eq_false s12
                        clear s12
                        go_wp2_with fail
                        go_ret
                        exact ⟨by rw [HC.out, HN.out]; simp [si], G11.out.2.1⟩
                      have si12 : (c.sig.size : Int) = 15 := by omega
                      go_wp2_with fail
                      go_ret
                      exact ⟨by rw [HC.out, decide_eq_true s6, decide_eq_true s12]; rfl, G11.out.2.1⟩
end Go.Proofs.Ytgkaagmjipkeaaa
