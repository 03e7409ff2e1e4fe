/-
  Texts of the proof.
-/
import Derived.Deep.Cut
import Derived.Deep.DeepCutAuto
import Derived.Test.YthbdgdfanpbkeaaGreatAQ35
set_option maxRecDepth 100000
set_option maxHeartbeats 25600000
namespace Go.Proofs.YthbdgdfanpbkeaaGreat
open Go.RowKit Der
set_option linter.unusedVariables false
set_option linter.unusedSimpArgs false
def RK8 (w w2 W : World) (g : Nat) (cells : Array Value) (p : Value) (tg : List ByteArray) : Prop :=
 Below w.heap.size w W /\ Below w2.heap.size w2 W /\ Blk W w.heap.size 26 #[.slice none 0 0, .int .i64 0, .int .i64 0, .int .i64 0, .int .i64 0, .bool false] /\ Blk W g 26 cells /\ OwnT W w2.heap.size p tg /\ (∀ b, p.ownBlock = some b -> b ≠ g) /\ (w2.heap.size <= g /\ w.heap.size < w2.heap.size)
theorem RK8.below {w w2 W W' : World} {g : Nat} {cells : Array Value} {p : Value} {tg : List ByteArray} (h : RK8 w w2 W g cells p tg) (hb : Below W.heap.size W W') : RK8 w w2 W' g cells p tg :=
 ⟨h.1.trans (hb.mono h.1.size), h.2.1.trans (hb.mono h.2.1.size), h.2.2.1.on hb, h.2.2.2.1.on hb, h.2.2.2.2.1.stays hb, h.2.2.2.2.2⟩
theorem RK8.set {w w2 W : World} {g : Nat} {cells cells' : Array Value} {p : Value} {tg : List ByteArray} (h : RK8 w w2 W g cells p tg) (j : Nat) (v : Value) (hc : cells.setIfInBounds j v = cells') : RK8 w w2 (W.setCell ⟨g, j, none⟩ v) g cells' p tg := by
 obtain ⟨h1, h2, h3, h4, h5, h9, h10⟩ := h
 have ho : Out [g] W (W.setCell ⟨g, j, none⟩ v) := out_set _ _ _
 refine ⟨below_out h1 ho (by omega), below_out h2 ho h10.1, h3.outX ho (by simp; omega), by rw [<- hc]; exact h4.set j v, ho.row (fun b hb => by have := h9 b hb; simp; omega) h5, h9, h10⟩
theorem que_none {m : Nat} {x : It (m + 4)} (h : ¬ (It.tag x = 48 /\ (It.kids x).length = 6)) : quS x = none := by
 unfold quS
 split
 ·next hk => rw [if_neg (fun q => h ⟨q, by rw [hk]; rfl⟩)]
 ·rfl
theorem que_some {m : Nat} {x : It (m + 4)} {k0 k1 k2 k3 k4 k5 : It (m + 3)} (hx : It.kids x = [k0, k1, k2, k3, k4, k5]) (h1 : It.tag x = 48) : quS x = some ⟨(It.kids k0).map fun y => baL (It.text y), numI k1, numI k2, numI k3, numI k4, decide (It.text k5 = [255])⟩ := by
 unfold quS
 rw [hx]
 dsimp only
 rw [if_pos h1]
theorem numK_in {k : Nat} (y : It (k + 1)) : 0 <= numI y /\ numI y <= 1000000000 := by
 unfold numI
 cases h : inI (k + 1) y with
 | none => exact ⟨by decide, by decide⟩
 | some v =>
  have := (in_some h).2.2.2
  show (0 : Int) <= ((v : Nat) : Int) /\ ((v : Nat) : Int) <= 1000000000
  omega
theorem wtk_spec {m : Nat} {x : It (m + 4)} {k0 k1 k2 k3 k4 k5 : It (m + 3)} (hx : It.kids x = [k0, k1, k2, k3, k4, k5]) (hz : szI (m + 4) x <= 4000) (c : Ak) (hc : c = ⟨(It.kids k0).map fun y => baL (It.text y), numI k1, numI k2, numI k3, numI k4, decide (It.text k5 = [255])⟩) : wtAk c <= 1048576 /\ WdAk c := by
 have ht := tot_kid hx hz
 have hw : wtAk c <= 4000 := by subst hc; exact ht
 have hl := Nat.le_trans (tot_len c.tg) hw
 refine ⟨by omega, fun y hy => ?_, fun s hs => ?_, by omega⟩
 ·subst hc
  simp only [List.mem_cons, List.not_mem_nil, or_false] at hy
  have b1 := numK_in k1
  have b2 := numK_in k2
  have b3 := numK_in k3
  have b4 := numK_in k4
  rcases hy with rfl | rfl | rfl | rfl <;> omega
 ·have := Nat.le_trans (tot_mem c.tg s hs) hw; omega
theorem specReadAsk_any (T : ByteArray) (w : World) (hT : T.size <= 1000000000000) :
  Calls Tryz.prog 10 #[.string T] w fun e W' => RkPost w ((Der.readI T.data.toList).bind (readR (m := 3) T.data.toList)) e W' := by
 obtain ⟨oR, hoR⟩ := zE ((Der.readI T.data.toList).bind (readR (m := 3) T.data.toList))
 have HP : Hid ((Der.readI T.data.toList).bind (readR (m := 3) T.data.toList) = oR) := hoR
 rw [hoR]
 clear hoR
 obtain ⟨W1, hW1⟩ : ∃ V, V = w.alloc (Obj.cells #[.slice none 0 0, .int .i64 0, .int .i64 0, .int .i64 0, .int .i64 0, .bool false] 26) := ⟨_, rfl⟩
 have E1 := specRead_any T W1 hT
 have H1 : Hid (Below w.heap.size w W1 /\ Blk W1 w.heap.size 26 #[.slice none 0 0, .int .i64 0, .int .i64 0, .int .i64 0, .int .i64 0, .bool false] /\ W1.heap.size = w.heap.size + 1) := by rw [hW1]; exact ⟨(Below.refl _ _).alloc (Nat.le_refl _) _, Blk.new _ _ _, size_alloc _ _⟩
 go_enter Tryz.func10, Tryz.ntmps10
 go_wp2_with fail
 rw [<- hW1]
 clear hW1
 refine E1.mono ?_
 rintro e w2 ⟨hb2, ⟨hn, rfl⟩ | ⟨x, t, s, ax, l, cx, fp, hx, rfl, hsz, ht, hs, hown⟩⟩
 ·obtain ⟨W3, hW3⟩ : ∃ V, V = w2.alloc (Obj.cells #[.int .i64 0, .string ⟨#[]⟩, .slice none 0 0] 41) := ⟨_, rfl⟩
  have hb3 : Below w2.heap.size w2 W3 := by rw [hW3]; exact (Below.refl _ _).alloc (Nat.le_refl _) _
  have H3 : Hid (Below w.heap.size w W3 /\ Blk W3 w.heap.size 26 #[.slice none 0 0, .int .i64 0, .int .i64 0, .int .i64 0, .int .i64 0, .bool false]) := ⟨(H1.out.1.trans (hb2.mono H1.out.1.size)).trans (hb3.mono (Nat.le_trans H1.out.1.size hb2.size)), (H1.out.2.1.on hb2).on hb3⟩
  have HNO : Hid (Der.readI T.data.toList = none) := hn
  clear hb3 hb2 H1 E1 hn
  go_wp2_with fail
  rw [<- hW3]
  clear hW3
  have E4 := l09Kids_any 0 ⟨#[]⟩ none 0 0 6 W3
  generalize decide ((0 : Int) = 48 /\ ((0 : Nat) : Int) = 6) = B4 at E4
  refine E4.mono ?_
  rintro e w4 ⟨rfl, hb4⟩
  have H4 : Hid (Below w.heap.size w w4 /\ Blk w4 w.heap.size 26 #[.slice none 0 0, .int .i64 0, .int .i64 0, .int .i64 0, .int .i64 0, .bool false]) := ⟨H3.out.1.trans (hb4.mono H3.out.1.size), H3.out.2.on hb4⟩
  clear E4 hb4 H3
  have r0 : w4.cell? ⟨w.heap.size, 0, none⟩ = some (.slice none 0 0) := H4.out.2.cell 0
  have r1 : w4.cell? ⟨w.heap.size, 1, none⟩ = some (.int .i64 0) := H4.out.2.cell 1
  have r2 : w4.cell? ⟨w.heap.size, 2, none⟩ = some (.int .i64 0) := H4.out.2.cell 2
  have r3 : w4.cell? ⟨w.heap.size, 3, none⟩ = some (.int .i64 0) := H4.out.2.cell 3
  have r4 : w4.cell? ⟨w.heap.size, 4, none⟩ = some (.int .i64 0) := H4.out.2.cell 4
  have r5 : w4.cell? ⟨w.heap.size, 5, none⟩ = some (.bool false) := H4.out.2.cell 5
  have rf := fun j => H4.out.2.free j
  have HN : Hid (oR = none) := by
   show oR = none
   rw [<- HP.out]
   rw [HNO.out]; rfl
  go_wp2_with fail
  refine bodyPost_ret (v := .tuple #[.agg #[.slice none 0 0, .int .i64 0, .int .i64 0, .int .i64 0, .int .i64 0, .bool false], .bool false]) (by simp [results, Tryz.results10, go_sem, r0, r1, r2, r3, r4, r5]; try rfl) rfl ⟨?_, .inl ⟨HN.out, rfl⟩⟩
  iterate 6 refine Below.setCell ?_ (by show w.heap.size <= w.heap.size; exact Nat.le_refl _) _
  exact H4.out.1
 ·have hkc : KcAt w2 6 (.slice ax l cx) (It.kids x) := KcAt.of hown
  obtain ⟨W3, hW3⟩ : ∃ V, V = w2.alloc (Obj.cells #[.int .i64 t, .string s, .slice ax l cx] 41) := ⟨_, rfl⟩
  have hb3 : Below w2.heap.size w2 W3 := by rw [hW3]; exact (Below.refl _ _).alloc (Nat.le_refl _) _
  have H3 : Hid ((Below w.heap.size w W3 /\ Blk W3 w.heap.size 26 #[.slice none 0 0, .int .i64 0, .int .i64 0, .int .i64 0, .int .i64 0, .bool false]) /\ Below w2.heap.size w2 W3) := ⟨⟨(H1.out.1.trans (hb2.mono H1.out.1.size)).trans (hb3.mono (Nat.le_trans H1.out.1.size hb2.size)), (H1.out.2.1.on hb2).on hb3⟩, hb3⟩
  have HX : Hid (Der.readI T.data.toList = some x /\ szI 7 x <= 4000 /\ It.tag x = t /\ w.heap.size < w2.heap.size) := ⟨hx, hsz, ht, by have := H1.out.2.2; have := hb2.size; omega⟩
  have hln : l = (It.kids x).length := by obtain ⟨ao, cap, h, _⟩ := hkc; injection h
  have HKC : Hid (KcAt w2 6 (.slice ax l cx) (It.kids x) /\ l = (It.kids x).length /\ Der.readI T.data.toList = some x) := ⟨hkc, hln, hx⟩
  clear hkc hb3 hown hx hsz hb2 E1 H1 ht hs hln
  go_wp2_with fail
  rw [<- hW3]
  clear hW3
  have E4 := l09Kids_any t s ax l cx 6 W3
  obtain ⟨B4, hB4⟩ := zE (decide (t = 48 /\ (l : Int) = 6))
  rw [hB4] at E4
  refine E4.mono ?_
  rintro e w4 ⟨rfl, hb4⟩
  have H4 : Hid ((Below w.heap.size w w4 /\ Blk w4 w.heap.size 26 #[.slice none 0 0, .int .i64 0, .int .i64 0, .int .i64 0, .int .i64 0, .bool false]) /\ Below w2.heap.size w2 w4) := ⟨⟨H3.out.1.1.trans (hb4.mono H3.out.1.1.size), H3.out.1.2.on hb4⟩, H3.out.2.trans (hb4.mono H3.out.2.size)⟩
  clear E4 hb4 H3
  cases B4 with
  | false =>
   have hno := of_decide_eq_false hB4
   clear hB4
   have r0 : w4.cell? ⟨w.heap.size, 0, none⟩ = some (.slice none 0 0) := H4.out.1.2.cell 0
   have r1 : w4.cell? ⟨w.heap.size, 1, none⟩ = some (.int .i64 0) := H4.out.1.2.cell 1
   have r2 : w4.cell? ⟨w.heap.size, 2, none⟩ = some (.int .i64 0) := H4.out.1.2.cell 2
   have r3 : w4.cell? ⟨w.heap.size, 3, none⟩ = some (.int .i64 0) := H4.out.1.2.cell 3
   have r4 : w4.cell? ⟨w.heap.size, 4, none⟩ = some (.int .i64 0) := H4.out.1.2.cell 4
   have r5 : w4.cell? ⟨w.heap.size, 5, none⟩ = some (.bool false) := H4.out.1.2.cell 5
   have rf := fun j => H4.out.1.2.free j
   have HN : Hid (oR = none) := by
    show oR = none
    rw [<- HP.out]
    rw [HX.out.1]; show readR (m := 3) T.data.toList x = none; unfold readR; rw [que_none (m := 3) (x := x) (fun q => hno ⟨by rw [<- HX.out.2.2.1]; exact q.1, by have h1 := HKC.out.2.1; have h2 := q.2; omega⟩)]; rfl
   clear hno
   go_wp2_with fail
   refine bodyPost_ret (v := .tuple #[.agg #[.slice none 0 0, .int .i64 0, .int .i64 0, .int .i64 0, .int .i64 0, .bool false], .bool false]) (by simp [results, Tryz.results10, go_sem, r0, r1, r2, r3, r4, r5]; try rfl) rfl ⟨?_, .inl ⟨HN.out, rfl⟩⟩
   iterate 6 refine Below.setCell ?_ (by show w.heap.size <= w.heap.size; exact Nat.le_refl _) _
   exact H4.out.1.1
  | true =>
   have hyes := of_decide_eq_true hB4
   clear hB4
   obtain ⟨rfl, hl2⟩ := hyes
   obtain rfl : l = 6 := by omega
   clear hl2
   obtain ⟨k0, k1, k2, k3, k4, k5, hkx⟩ := listK_six (l := It.kids x) (HKC.out.2.1).symm
   obtain ⟨ao, cap, hv, _, hcell⟩ := HKC.out.1
   injection hv with hv1 hvx hv3
   clear hvx
   subst hv1 hv3
   rw [hkx] at hcell
   obtain ⟨g1, o1, ha1, hg1, hcs⟩ := hcell (by simp)
   subst ha1
   obtain ⟨v0, p0a, p0b, p0c, hk0⟩ := hcs 0 (by simp)
   obtain ⟨v1, p1a, p1b, p1c, hk1⟩ := hcs 1 (by simp)
   obtain ⟨v2, p2a, p2b, p2c, hk2⟩ := hcs 2 (by simp)
   obtain ⟨v3, p3a, p3b, p3c, hk3⟩ := hcs 3 (by simp)
   obtain ⟨v4, p4a, p4b, p4c, hk4⟩ := hcs 4 (by simp)
   obtain ⟨v5, p5a, p5b, p5c, hk5⟩ := hcs 5 (by simp)
   have HY : Hid (It.kids x = [k0, k1, k2, k3, k4, k5] /\ Der.readI T.data.toList = some x /\ szI 7 x <= 4000 /\ It.tag x = 48 /\ w.heap.size < w2.heap.size) := ⟨hkx, HX.out.1, HX.out.2.1, HX.out.2.2.1, HX.out.2.2.2⟩
   obtain ⟨S5, hS5⟩ := zE (baL (It.text k5))
   obtain ⟨t0, ht0⟩ := zE (It.tag k0)
   obtain ⟨s0, hs0⟩ : ∃ q : ByteArray, (⟨(It.text k0).toArray⟩ : ByteArray) = q := ⟨_, rfl⟩
   obtain ⟨a0, c0, hv0⟩ := hk0.shape
   change v0 = .slice a0 (It.kids k0).length c0 at hv0
   obtain ⟨l0, hl0⟩ := zE ((It.kids k0).length)
   rw [hl0] at hv0
   subst hv0
   obtain ⟨t1, ht1⟩ := zE (It.tag k1)
   obtain ⟨s1, hs1⟩ : ∃ q : ByteArray, (⟨(It.text k1).toArray⟩ : ByteArray) = q := ⟨_, rfl⟩
   obtain ⟨a1, c1, hv1⟩ := hk1.shape
   change v1 = .slice a1 (It.kids k1).length c1 at hv1
   obtain ⟨l1, hl1⟩ := zE ((It.kids k1).length)
   rw [hl1] at hv1
   subst hv1
   obtain ⟨t2, ht2⟩ := zE (It.tag k2)
   obtain ⟨s2, hs2⟩ : ∃ q : ByteArray, (⟨(It.text k2).toArray⟩ : ByteArray) = q := ⟨_, rfl⟩
   obtain ⟨a2, c2, hv2⟩ := hk2.shape
   change v2 = .slice a2 (It.kids k2).length c2 at hv2
   obtain ⟨l2, hl2⟩ := zE ((It.kids k2).length)
   rw [hl2] at hv2
   subst hv2
   obtain ⟨t3, ht3⟩ := zE (It.tag k3)
   obtain ⟨s3, hs3⟩ : ∃ q : ByteArray, (⟨(It.text k3).toArray⟩ : ByteArray) = q := ⟨_, rfl⟩
   obtain ⟨a3, c3, hv3⟩ := hk3.shape
   change v3 = .slice a3 (It.kids k3).length c3 at hv3
   obtain ⟨l3, hl3⟩ := zE ((It.kids k3).length)
   rw [hl3] at hv3
   subst hv3
   obtain ⟨t4, ht4⟩ := zE (It.tag k4)
   obtain ⟨s4, hs4⟩ : ∃ q : ByteArray, (⟨(It.text k4).toArray⟩ : ByteArray) = q := ⟨_, rfl⟩
   obtain ⟨a4, c4, hv4⟩ := hk4.shape
   change v4 = .slice a4 (It.kids k4).length c4 at hv4
   obtain ⟨l4, hl4⟩ := zE ((It.kids k4).length)
   rw [hl4] at hv4
   subst hv4
   have m5 : w2.cell? ⟨g1, o1 + 16, none⟩ = some (.string S5) := by rw [<- hS5]; exact p5b
   have m0a : w2.cell? ⟨g1, o1, none⟩ = some (.int .i64 t0) := by rw [<- ht0]; exact p0a
   have m0b : w2.cell? ⟨g1, o1 + 1, none⟩ = some (.string s0) := by rw [<- hs0]; exact p0b
   have m0c : w2.cell? ⟨g1, o1 + 2, none⟩ = some (.slice a0 l0 c0) := by exact p0c
   have m1a : w2.cell? ⟨g1, o1 + 3, none⟩ = some (.int .i64 t1) := by rw [<- ht1]; exact p1a
   have m1b : w2.cell? ⟨g1, o1 + 4, none⟩ = some (.string s1) := by rw [<- hs1]; exact p1b
   have m1c : w2.cell? ⟨g1, o1 + 5, none⟩ = some (.slice a1 l1 c1) := by exact p1c
   have m2a : w2.cell? ⟨g1, o1 + 6, none⟩ = some (.int .i64 t2) := by rw [<- ht2]; exact p2a
   have m2b : w2.cell? ⟨g1, o1 + 7, none⟩ = some (.string s2) := by rw [<- hs2]; exact p2b
   have m2c : w2.cell? ⟨g1, o1 + 8, none⟩ = some (.slice a2 l2 c2) := by exact p2c
   have m3a : w2.cell? ⟨g1, o1 + 9, none⟩ = some (.int .i64 t3) := by rw [<- ht3]; exact p3a
   have m3b : w2.cell? ⟨g1, o1 + 10, none⟩ = some (.string s3) := by rw [<- hs3]; exact p3b
   have m3c : w2.cell? ⟨g1, o1 + 11, none⟩ = some (.slice a3 l3 c3) := by exact p3c
   have m4a : w2.cell? ⟨g1, o1 + 12, none⟩ = some (.int .i64 t4) := by rw [<- ht4]; exact p4a
   have m4b : w2.cell? ⟨g1, o1 + 13, none⟩ = some (.string s4) := by rw [<- hs4]; exact p4b
   have m4c : w2.cell? ⟨g1, o1 + 14, none⟩ = some (.slice a4 l4 c4) := by exact p4c
   have HG : Hid (g1 < w2.heap.size) := hg1
   have HM : Hid (w2.cell? ⟨g1, o1 + 16, none⟩ = some (.string S5) /\ w2.cell? ⟨g1, o1, none⟩ = some (.int .i64 t0) /\ w2.cell? ⟨g1, o1 + 1, none⟩ = some (.string s0) /\ w2.cell? ⟨g1, o1 + 2, none⟩ = some (.slice a0 l0 c0) /\ w2.cell? ⟨g1, o1 + 3, none⟩ = some (.int .i64 t1) /\ w2.cell? ⟨g1, o1 + 4, none⟩ = some (.string s1) /\ w2.cell? ⟨g1, o1 + 5, none⟩ = some (.slice a1 l1 c1) /\ w2.cell? ⟨g1, o1 + 6, none⟩ = some (.int .i64 t2) /\ w2.cell? ⟨g1, o1 + 7, none⟩ = some (.string s2) /\ w2.cell? ⟨g1, o1 + 8, none⟩ = some (.slice a2 l2 c2) /\ w2.cell? ⟨g1, o1 + 9, none⟩ = some (.int .i64 t3) /\ w2.cell? ⟨g1, o1 + 10, none⟩ = some (.string s3) /\ w2.cell? ⟨g1, o1 + 11, none⟩ = some (.slice a3 l3 c3) /\ w2.cell? ⟨g1, o1 + 12, none⟩ = some (.int .i64 t4) /\ w2.cell? ⟨g1, o1 + 13, none⟩ = some (.string s4) /\ w2.cell? ⟨g1, o1 + 14, none⟩ = some (.slice a4 l4 c4)) := ⟨m5, m0a, m0b, m0c, m1a, m1b, m1c, m2a, m2b, m2c, m3a, m3b, m3c, m4a, m4b, m4c⟩
   have HKS : Hid (KcAt w2 5 (.slice a0 l0 c0) (It.kids k0) /\ KcAt w2 5 (.slice a1 l1 c1) (It.kids k1) /\ KcAt w2 5 (.slice a2 l2 c2) (It.kids k2) /\ KcAt w2 5 (.slice a3 l3 c3) (It.kids k3) /\ KcAt w2 5 (.slice a4 l4 c4) (It.kids k4)) := ⟨by show KcAt w2 5 (.slice a0 l0 c0) (It.kids k0); exact hk0, by show KcAt w2 5 (.slice a1 l1 c1) (It.kids k1); exact hk1, by show KcAt w2 5 (.slice a2 l2 c2) (It.kids k2); exact hk2, by show KcAt w2 5 (.slice a3 l3 c3) (It.kids k3); exact hk3, by show KcAt w2 5 (.slice a4 l4 c4) (It.kids k4); exact hk4⟩
   have HTS : Hid ((It.tag k0 = t0 /\ (⟨(It.text k0).toArray⟩ : ByteArray) = s0) /\ (It.tag k1 = t1 /\ (⟨(It.text k1).toArray⟩ : ByteArray) = s1) /\ (It.tag k2 = t2 /\ (⟨(It.text k2).toArray⟩ : ByteArray) = s2) /\ (It.tag k3 = t3 /\ (⟨(It.text k3).toArray⟩ : ByteArray) = s3) /\ (It.tag k4 = t4 /\ (⟨(It.text k4).toArray⟩ : ByteArray) = s4)) := ⟨⟨ht0, hs0⟩, ⟨ht1, hs1⟩, ⟨ht2, hs2⟩, ⟨ht3, hs3⟩, ⟨ht4, hs4⟩⟩
   have HTX : Hid (baL (It.text k5) = S5) := hS5
   have hSZ : ∀ y ∈ It.kids x, szI 6 y <= 4000 := (szI_kid (t := It.tag x) (s := It.text x) (ks := It.kids x) HY.out.2.2.1).2.2
   have HSZ : Hid (∀ y ∈ [k0, k1, k2, k3, k4, k5], szI 6 y <= 4000) := by rw [<- hkx]; exact hSZ
   clear hcell hcs hkx hg1 hSZ hS5 hk5 HKC HX p0a p0b p0c p1a p1b p1c p2a p2b p2c p3a p3b p3c p4a p4b p4c p5a p5b p5c hk0 ht0 hs0 hl0 hk1 ht1 hs1 hl1 hk2 ht2 hs2 hl2 hk3 ht3 hs3 hl3 hk4 ht4 hs4 hl4 m5 m0a m0b m0c m1a m1b m1c m2a m2b m2c m3a m3b m3c m4a m4b m4c
   obtain ⟨x1, hx1⟩ := zE (numI k1)
   obtain ⟨x2, hx2⟩ := zE (numI k2)
   obtain ⟨x3, hx3⟩ := zE (numI k3)
   obtain ⟨x4, hx4⟩ := zE (numI k4)
   obtain ⟨cac, hca⟩ := zE (decide (It.text k5 = [255]))
   obtain ⟨tg, htg⟩ := zE ((It.kids k0).map (fun y => baL (It.text y)))
   obtain ⟨c, hc⟩ : ∃ c : Ak, c = ⟨tg, x1, x2, x3, x4, cac⟩ := ⟨_, rfl⟩
   have hcc : c = ⟨(It.kids k0).map fun y => baL (It.text y), numI k1, numI k2, numI k3, numI k4, decide (It.text k5 = [255])⟩ := by rw [hc, hx1, hx2, hx3, hx4, hca, htg]
   have HSP : Hid (quS (m := 3) x = some c /\ wtAk c <= 1048576 /\ WdAk c) := ⟨by rw [hcc]; exact que_some (m := 3) HY.out.1 HY.out.2.2.2.1, wtk_spec (m := 3) HY.out.1 HY.out.2.2.1 c hcc⟩
   have HCC : Hid (c = ⟨tg, x1, x2, x3, x4, cac⟩ /\ (numI k1 = x1 /\ numI k2 = x2 /\ numI k3 = x3 /\ numI k4 = x4) /\ (It.kids k0).map (fun y => baL (It.text y)) = tg) := ⟨hc, ⟨hx1, hx2, hx3, hx4⟩, htg⟩
   have hq5 : (S5.toList == [255]) = cac := by
    rw [<- hca, <- HTX.out]
    have e : ∀ l : List UInt8, (baL l).toList = l := fun l => by unfold baL; simp
    rw [e, Bool.eq_iff_iff]
    simp
   clear hcc hc hx1 hx2 hx3 hx4 hca htg
   go_upto_region 5 with fail
   go_cut [8] from 11 (fun s8 wx => ∃ gC : Nat, s8 = .pointer (some ⟨gC, 0, none⟩) /\ Hid (∃ (pa : Option Addr) (pl pc : Nat), RK8 w w2 wx gC #[.slice pa pl pc, .int .i64 0, .int .i64 0, .int .i64 0, .int .i64 0, .bool cac] (.slice pa pl pc) tg))
   case first =>
    have SB : ∀ (W W' : World), ((Below w.heap.size w W /\ Blk W w.heap.size 26 #[.slice none 0 0, .int .i64 0, .int .i64 0, .int .i64 0, .int .i64 0, .bool false]) /\ Below w2.heap.size w2 W) -> Below W.heap.size W W' -> ((Below w.heap.size w W' /\ Blk W' w.heap.size 26 #[.slice none 0 0, .int .i64 0, .int .i64 0, .int .i64 0, .int .i64 0, .bool false]) /\ Below w2.heap.size w2 W') := fun W W' h hb => ⟨⟨h.1.1.trans (hb.mono h.1.1.size), h.1.2.on hb⟩, h.2.trans (hb.mono h.2.size)⟩
    refine wp_region_held_drew (S := fun W => (Below w.heap.size w W /\ Blk W w.heap.size 26 #[.slice none 0 0, .int .i64 0, .int .i64 0, .int .i64 0, .int .i64 0, .bool false]) /\ Below w2.heap.size w2 W) (by kernel_rfl) (SB _ _ H4.out ((Below.refl _ _).drew)) (fun hHeld => ?_)
    clear H4
    generalize w4.drew = wd at hHeld |-
    refine zT 0 28 ?_ rfl (by rfl) ?_ hHeld ?_
    rotate_left
    ·intro W hSw
     go_simp
     try with_reducible rfl
    try simp only [Act.put, zA, zB, zC]
    refine zT 1 29 ?_ rfl (by rfl) ?_ hHeld ?_
    rotate_left
    ·intro W hSw
     go_simp
     try with_reducible rfl
    try simp only [Act.put, zA, zB, zC]
    refine zT 2 30 ?_ rfl (by rfl) ?_ hHeld ?_
    rotate_left
    ·intro W hSw
     have m0a : W.cell? ⟨g1, o1, none⟩ = some (.int .i64 t0) := (hSw.2.cell (p := ⟨g1, o1, none⟩) HG.out).trans HM.out.2.1
     have m0b : W.cell? ⟨g1, o1 + 1, none⟩ = some (.string s0) := (hSw.2.cell (p := ⟨g1, o1 + 1, none⟩) HG.out).trans HM.out.2.2.1
     have m0c : W.cell? ⟨g1, o1 + 2, none⟩ = some (.slice a0 l0 c0) := (hSw.2.cell (p := ⟨g1, o1 + 2, none⟩) HG.out).trans HM.out.2.2.2.1
     go_simp
     try with_reducible rfl
    try simp only [Act.put, zA, zB, zC]
    refine zT 4 32 ?_ rfl (by rfl) ?_ hHeld ?_
    rotate_left
    ·intro W hSw
     go_simp
     try with_reducible rfl
    try simp only [Act.put, zA, zB, zC]
    refine zT 5 33 ?_ rfl (by rfl) ?_ hHeld ?_
    rotate_left
    ·intro W hSw
     go_simp
     try with_reducible rfl
    try simp only [Act.put, zA, zB, zC]
    refine zT 6 34 ?_ rfl (by rfl) ?_ hHeld ?_
    rotate_left
    ·intro W hSw
     go_simp
     try with_reducible rfl
    try simp only [Act.put, zA, zB, zC]
    refine zT 7 35 ?_ rfl (by rfl) ?_ hHeld ?_
    rotate_left
    ·intro W hSw
     have m5 : W.cell? ⟨g1, o1 + 16, none⟩ = some (.string S5) := (hSw.2.cell (p := ⟨g1, o1 + 16, none⟩) HG.out).trans HM.out.1
     go_simp
     try with_reducible rfl
    try simp only [Act.put, zA, zB, zC]
    refine zT 8 36 ?_ rfl (by rfl) ?_ hHeld ?_
    rotate_left
    ·intro W hSw
     go_simp
     try with_reducible rfl
    try simp only [Act.put, zA, zB, zC]
    refine wpAnyH_ready (rs := [3, 10]) (by kernel_rfl) (by simp) ?_
    refine AllReadyH.cons (o := ⟨some 31, _, _, _, _, _⟩) rfl (fun K hK => ?_) ?_
    rotate_left
    ·refine AllReadyH.cons (o := ⟨some 8, _, _, _, _, _⟩) rfl (fun K hK => ?_) AllReadyH.nil
     obtain ⟨y1, hy1⟩ : ∃ V, V = wd.alloc (Obj.cells #[.slice none 0 0, .int .i64 0, .int .i64 0, .int .i64 0, .int .i64 0, .bool false] 26) := ⟨_, rfl⟩
     have hb : Below wd.heap.size wd y1 := by rw [hy1]; exact (Below.refl _ _).alloc (Nat.le_refl _) _
     have HGC : Hid (Blk y1 wd.heap.size 26 #[.slice none 0 0, .int .i64 0, .int .i64 0, .int .i64 0, .int .i64 0, .bool false]) := by rw [hy1]; exact Blk.new _ _ _
     have HGS : Hid (w2.heap.size <= wd.heap.size /\ y1.heap.size = wd.heap.size + 1) := ⟨hHeld.2.size, by rw [hy1]; exact size_alloc _ _⟩
     have hH := SB _ _ hHeld hb
     go_simp
     rw [<- hy1]
     refine hK.out _ _ hH (fun hHeld => ?_)
     clear hK K hH hb hy1
     try simp only [Act.put, zA, zB, zC]
     obtain ⟨gC, hgC⟩ := zE (wd.heap.size)
     rw [hgC] at HGC HGS |-
     have HGE : Hid (wd.heap.size = gC) := hgC
     clear hgC
     refine wpAnyH_ready (rs := [3]) (by kernel_rfl) (by simp) ?_
     refine AllReadyH.cons (o := ⟨some 31, _, _, _, _, _⟩) rfl (fun K hK => ?_) AllReadyH.nil
     have EK := textsIn_any 4 t0 s0 (It.kids k0) a0 l0 c0 y1 ((HKS.out.1).below hHeld.2) (Nat.le_trans (szI_kid (t := It.tag k0) (s := It.text k0) (ks := It.kids k0) (HSZ.out k0 (by simp))).2.1 (by decide)) (fun y hy => Nat.le_trans ((szI_kid (t := It.tag k0) (s := It.text k0) (ks := It.kids k0) (HSZ.out k0 (by simp))).2.2 y hy) (by decide))
     rw [HCC.out.2.2] at EK
     go_simp
     refine EK.mono ?_
     rintro e y2 ⟨up, rfl, hown, hb⟩
     obtain ⟨pa, pc, hup⟩ : ∃ ao cap, up = .slice ao tg.length cap := by obtain ⟨ao, cap, h, _⟩ := hown.at; exact ⟨ao, cap, h⟩
     obtain ⟨pl, hpl⟩ := zE (tg.length)
     rw [hpl] at hup
     subst hup
     have hH := SB _ _ hHeld hb
     have Bp : Hid (∀ b, (Value.slice pa pl pc).ownBlock = some b -> y1.heap.size <= b /\ b < y2.heap.size) := fun b hb => World.ownsRow.lt hown b hb
     have Zp : Hid (y1.heap.size <= y2.heap.size) := hb.size
     replace HGC := zH (HGC.out.on hb)
     have Hp : Hid (OwnT y2 w2.heap.size (.slice pa pl pc) tg) := hown.base hHeld.2.size
     go_wp2_with fail
     refine hK.out _ _ hH (fun hHeld => ?_)
     clear hK K hH hb hown EK hpl
     try simp only [Act.put, zA, zB, zC]
     refine zT 9 37 ?_ rfl (by rfl) ?_ hHeld ?_
     rotate_left
     ·intro W hSw
      go_simp
      try with_reducible rfl
     try simp only [Act.put, zA, zB, zC]
     refine wpAnyH_ready (rs := [11]) (by kernel_rfl) (by simp) ?_
     refine AllReadyH.cons (o := ⟨none, _, _, _, _, _⟩) rfl (fun K hK => ?_) AllReadyH.nil
     have g0c : y2.cell? ⟨gC, 0, none⟩ = some (.slice none 0 0) := HGC.out.cell 0
     have g1c : y2.cell? ⟨gC, 1, none⟩ = some (.int .i64 0) := HGC.out.cell 1
     have g2c : y2.cell? ⟨gC, 2, none⟩ = some (.int .i64 0) := HGC.out.cell 2
     have g3c : y2.cell? ⟨gC, 3, none⟩ = some (.int .i64 0) := HGC.out.cell 3
     have g4c : y2.cell? ⟨gC, 4, none⟩ = some (.int .i64 0) := HGC.out.cell 4
     have g5c : y2.cell? ⟨gC, 5, none⟩ = some (.bool false) := HGC.out.cell 5
     have gf := fun j => HGC.out.free j
     have FZ : Hid (∀ b, (Value.slice pa pl pc).ownBlock = some b -> b ≠ gC) := by
      have := HGE.out; have := HGS.out; have := Zp.out
      exact fun b hb => by have := Bp.out b hb; omega
     go_simp
     generalize hV : World.setCell _ { block := gC, off := 5 } (Value.bool cac) = V
     have FIN : Out [gC] y2 V /\ Blk V gC 26 #[.slice pa pl pc, .int .i64 0, .int .i64 0, .int .i64 0, .int .i64 0, .bool cac] := by
      rw [<- hV]
      refine ⟨?_, ?_⟩
      ·iterate 6 refine Out.setCell ?_ _ _ (by simp)
       exact Out.refl _ _
      ·exact set6 HGC.out
     clear hV gf g0c g1c g2c g3c g4c g5c
     have hgw : w2.heap.size <= gC /\ w.heap.size < w2.heap.size := ⟨by have := HGS.out; omega, HY.out.2.2.2.2⟩
     have hH : (Below w.heap.size w V /\ Blk V w.heap.size 26 #[.slice none 0 0, .int .i64 0, .int .i64 0, .int .i64 0, .int .i64 0, .bool false]) /\ Below w2.heap.size w2 V := ⟨⟨below_out hHeld.1.1 FIN.1 (by omega), hHeld.1.2.outX FIN.1 (by simp; omega)⟩, below_out hHeld.2 FIN.1 hgw.1⟩
     have HR : Hid (RK8 w w2 V gC #[.slice pa pl pc, .int .i64 0, .int .i64 0, .int .i64 0, .int .i64 0, .bool cac] (.slice pa pl pc) tg) := ⟨hH.1.1, hH.2, hH.1.2, FIN.2, FIN.1.row (fun b hb => by have := FZ.out b hb; simp; omega) Hp.out, FZ.out, hgw⟩
     refine hK.out _ _ hH (fun hHeld => ?_)
     clear hK K hH FIN hHeld
     try simp only [Act.put, zA, zB, zC]
     refine wpAnyH_done (by kernel_rfl) ?_ _
     go_wp2_with fail
     go_meet
     case rel => exact ⟨gC, rfl, _, _, _, HR.out⟩
    have EK := textsIn_any 4 t0 s0 (It.kids k0) a0 l0 c0 wd ((HKS.out.1).below hHeld.2) (Nat.le_trans (szI_kid (t := It.tag k0) (s := It.text k0) (ks := It.kids k0) (HSZ.out k0 (by simp))).2.1 (by decide)) (fun y hy => Nat.le_trans ((szI_kid (t := It.tag k0) (s := It.text k0) (ks := It.kids k0) (HSZ.out k0 (by simp))).2.2 y hy) (by decide))
    rw [HCC.out.2.2] at EK
    go_simp
    refine EK.mono ?_
    rintro e y3 ⟨up, rfl, hown, hb⟩
    obtain ⟨pa, pc, hup⟩ : ∃ ao cap, up = .slice ao tg.length cap := by obtain ⟨ao, cap, h, _⟩ := hown.at; exact ⟨ao, cap, h⟩
    obtain ⟨pl, hpl⟩ := zE (tg.length)
    rw [hpl] at hup
    subst hup
    have hH := SB _ _ hHeld hb
    have Bp : Hid (∀ b, (Value.slice pa pl pc).ownBlock = some b -> wd.heap.size <= b /\ b < y3.heap.size) := fun b hb => World.ownsRow.lt hown b hb
    have Zp : Hid (wd.heap.size <= y3.heap.size) := hb.size
    have Hp : Hid (OwnT y3 w2.heap.size (.slice pa pl pc) tg) := hown.base hHeld.2.size
    go_wp2_with fail
    refine hK.out _ _ hH (fun hHeld => ?_)
    clear hK K hH hb hown EK hpl
    try simp only [Act.put, zA, zB, zC]
    refine zT 9 37 ?_ rfl (by rfl) ?_ hHeld ?_
    rotate_left
    ·intro W hSw
     go_simp
     try with_reducible rfl
    try simp only [Act.put, zA, zB, zC]
    refine wpAnyH_ready (rs := [10]) (by kernel_rfl) (by simp) ?_
    refine AllReadyH.cons (o := ⟨some 8, _, _, _, _, _⟩) rfl (fun K hK => ?_) AllReadyH.nil
    obtain ⟨y4, hy4⟩ : ∃ V, V = y3.alloc (Obj.cells #[.slice none 0 0, .int .i64 0, .int .i64 0, .int .i64 0, .int .i64 0, .bool false] 26) := ⟨_, rfl⟩
    have hb : Below y3.heap.size y3 y4 := by rw [hy4]; exact (Below.refl _ _).alloc (Nat.le_refl _) _
    have HGC : Hid (Blk y4 y3.heap.size 26 #[.slice none 0 0, .int .i64 0, .int .i64 0, .int .i64 0, .int .i64 0, .bool false]) := by rw [hy4]; exact Blk.new _ _ _
    have HGS : Hid (w2.heap.size <= y3.heap.size /\ y4.heap.size = y3.heap.size + 1) := ⟨hHeld.2.size, by rw [hy4]; exact size_alloc _ _⟩
    have hH := SB _ _ hHeld hb
    replace Hp := zH (Hp.out.stays hb)
    go_simp
    rw [<- hy4]
    refine hK.out _ _ hH (fun hHeld => ?_)
    clear hK K hH hb hy4
    try simp only [Act.put, zA, zB, zC]
    obtain ⟨gC, hgC⟩ := zE (y3.heap.size)
    rw [hgC] at HGC HGS |-
    have HGE : Hid (y3.heap.size = gC) := hgC
    clear hgC
    refine wpAnyH_ready (rs := [11]) (by kernel_rfl) (by simp) ?_
    refine AllReadyH.cons (o := ⟨none, _, _, _, _, _⟩) rfl (fun K hK => ?_) AllReadyH.nil
    have g0c : y4.cell? ⟨gC, 0, none⟩ = some (.slice none 0 0) := HGC.out.cell 0
    have g1c : y4.cell? ⟨gC, 1, none⟩ = some (.int .i64 0) := HGC.out.cell 1
    have g2c : y4.cell? ⟨gC, 2, none⟩ = some (.int .i64 0) := HGC.out.cell 2
    have g3c : y4.cell? ⟨gC, 3, none⟩ = some (.int .i64 0) := HGC.out.cell 3
    have g4c : y4.cell? ⟨gC, 4, none⟩ = some (.int .i64 0) := HGC.out.cell 4
    have g5c : y4.cell? ⟨gC, 5, none⟩ = some (.bool false) := HGC.out.cell 5
    have gf := fun j => HGC.out.free j
    have FZ : Hid (∀ b, (Value.slice pa pl pc).ownBlock = some b -> b ≠ gC) := by
     have := HGE.out; have := HGS.out; have := Zp.out
     exact fun b hb => by have := Bp.out b hb; omega
    go_simp
    generalize hV : World.setCell _ { block := gC, off := 5 } (Value.bool cac) = V
    have FIN : Out [gC] y4 V /\ Blk V gC 26 #[.slice pa pl pc, .int .i64 0, .int .i64 0, .int .i64 0, .int .i64 0, .bool cac] := by
     rw [<- hV]
     refine ⟨?_, ?_⟩
     ·iterate 6 refine Out.setCell ?_ _ _ (by simp)
      exact Out.refl _ _
     ·exact set6 HGC.out
    clear hV gf g0c g1c g2c g3c g4c g5c
    have hgw : w2.heap.size <= gC /\ w.heap.size < w2.heap.size := ⟨by have := HGS.out; omega, HY.out.2.2.2.2⟩
    have hH : (Below w.heap.size w V /\ Blk V w.heap.size 26 #[.slice none 0 0, .int .i64 0, .int .i64 0, .int .i64 0, .int .i64 0, .bool false]) /\ Below w2.heap.size w2 V := ⟨⟨below_out hHeld.1.1 FIN.1 (by omega), hHeld.1.2.outX FIN.1 (by simp; omega)⟩, below_out hHeld.2 FIN.1 hgw.1⟩
    have HR : Hid (RK8 w w2 V gC #[.slice pa pl pc, .int .i64 0, .int .i64 0, .int .i64 0, .int .i64 0, .bool cac] (.slice pa pl pc) tg) := ⟨hH.1.1, hH.2, hH.1.2, FIN.2, FIN.1.row (fun b hb => by have := FZ.out b hb; simp; omega) Hp.out, FZ.out, hgw⟩
    refine hK.out _ _ hH (fun hHeld => ?_)
    clear hK K hH FIN hHeld
    try simp only [Act.put, zA, zB, zC]
    refine wpAnyH_done (by kernel_rfl) ?_ _
    go_wp2_with fail
    go_meet
    case rel => exact ⟨gC, rfl, _, _, _, HR.out⟩
   case rest =>
    obtain ⟨gC, rfl, pa, pl, pc, hRC⟩ := hcut
    have HR : Hid (RK8 w w2 wc gC #[.slice pa pl pc, .int .i64 0, .int .i64 0, .int .i64 0, .int .i64 0, .bool cac] (.slice pa pl pc) tg) := hRC
    clear hRC H4 hq5
    have m1a : wc.cell? ⟨g1, o1 + 3, none⟩ = some (.int .i64 t1) := (HR.out.2.1.cell (p := ⟨g1, o1 + 3, none⟩) HG.out).trans HM.out.2.2.2.2.1
    have m1b : wc.cell? ⟨g1, o1 + 4, none⟩ = some (.string s1) := (HR.out.2.1.cell (p := ⟨g1, o1 + 4, none⟩) HG.out).trans HM.out.2.2.2.2.2.1
    have m1c : wc.cell? ⟨g1, o1 + 5, none⟩ = some (.slice a1 l1 c1) := (HR.out.2.1.cell (p := ⟨g1, o1 + 5, none⟩) HG.out).trans HM.out.2.2.2.2.2.2.1
    go_wp2_with fail
    clear m1a m1b m1c
    have EI := specIntIn_any 6 k1 (.agg #[.int .i64 t1, .string s1, .slice a1 l1 c1]) wc (ItAt.below HR.out.2.1 ⟨.slice a1 l1 c1, by rw [(HTS.out.2.1).1, (HTS.out.2.1).2], (HKS.out.2.1).at⟩) (Nat.le_trans (HSZ.out k1 (by simp)) (by decide))
    rw [show (((inI 6 k1).getD 0 : Nat) : Int) = x1 from HCC.out.2.1.1] at EI
    generalize (inI 6 k1).isSome = okI at EI
    refine EI.mono ?_
    rintro e z5 ⟨rfl, hb⟩
    have HRn : Hid (RK8 w w2 z5 gC #[.slice pa pl pc, .int .i64 0, .int .i64 0, .int .i64 0, .int .i64 0, .bool cac] (.slice pa pl pc) tg) := HR.out.below hb
    clear HR EI hb
    have HR := HRn
    clear HRn
    have cc : z5.cell? ⟨gC, 1, none⟩ = some (.int .i64 0) := HR.out.2.2.2.1.cell 1
    have cfz := HR.out.2.2.2.1.free 1
    have HS : ∀ g, g < w2.heap.size -> g ≠ gC := fun g hg => by have := HR.out.2.2.2.2.2.2.1; omega
    have m2a : (z5.setCell ⟨gC, 1, none⟩ (.int .i64 x1)).cell? ⟨g1, o1 + 6, none⟩ = some (.int .i64 t2) := (World.cell?_of_block (heap_setCell_other _ _ _ _ (by show g1 ≠ gC; exact HS _ HG.out))).trans ((HR.out.2.1.cell (p := ⟨g1, o1 + 6, none⟩) HG.out).trans HM.out.2.2.2.2.2.2.2.1)
    have m2b : (z5.setCell ⟨gC, 1, none⟩ (.int .i64 x1)).cell? ⟨g1, o1 + 7, none⟩ = some (.string s2) := (World.cell?_of_block (heap_setCell_other _ _ _ _ (by show g1 ≠ gC; exact HS _ HG.out))).trans ((HR.out.2.1.cell (p := ⟨g1, o1 + 7, none⟩) HG.out).trans HM.out.2.2.2.2.2.2.2.2.1)
    have m2c : (z5.setCell ⟨gC, 1, none⟩ (.int .i64 x1)).cell? ⟨g1, o1 + 8, none⟩ = some (.slice a2 l2 c2) := (World.cell?_of_block (heap_setCell_other _ _ _ _ (by show g1 ≠ gC; exact HS _ HG.out))).trans ((HR.out.2.1.cell (p := ⟨g1, o1 + 8, none⟩) HG.out).trans HM.out.2.2.2.2.2.2.2.2.2.1)
    clear HS
    go_wp2_with fail
    clear cc cfz m2a m2b m2c
    obtain ⟨V6, hV6⟩ : ∃ V, V = z5.setCell ⟨gC, 1, none⟩ (.int .i64 x1) := ⟨_, rfl⟩
    rw [<- hV6]
    have HRn : Hid (RK8 w w2 V6 gC #[.slice pa pl pc, .int .i64 x1, .int .i64 0, .int .i64 0, .int .i64 0, .bool cac] (.slice pa pl pc) tg) := by rw [hV6]; exact HR.out.set 1 _ rfl
    clear HR hV6
    have HR := HRn
    clear HRn
    have EI := specIntIn_any 6 k2 (.agg #[.int .i64 t2, .string s2, .slice a2 l2 c2]) V6 (ItAt.below HR.out.2.1 ⟨.slice a2 l2 c2, by rw [(HTS.out.2.2.1).1, (HTS.out.2.2.1).2], (HKS.out.2.2.1).at⟩) (Nat.le_trans (HSZ.out k2 (by simp)) (by decide))
    rw [show (((inI 6 k2).getD 0 : Nat) : Int) = x2 from HCC.out.2.1.2.1] at EI
    generalize (inI 6 k2).isSome = okI at EI
    refine EI.mono ?_
    rintro e z7 ⟨rfl, hb⟩
    have HRn : Hid (RK8 w w2 z7 gC #[.slice pa pl pc, .int .i64 x1, .int .i64 0, .int .i64 0, .int .i64 0, .bool cac] (.slice pa pl pc) tg) := HR.out.below hb
    clear HR EI hb
    have HR := HRn
    clear HRn
    have cc : z7.cell? ⟨gC, 2, none⟩ = some (.int .i64 0) := HR.out.2.2.2.1.cell 2
    have cfz := HR.out.2.2.2.1.free 2
    have HS : ∀ g, g < w2.heap.size -> g ≠ gC := fun g hg => by have := HR.out.2.2.2.2.2.2.1; omega
    have m3a : (z7.setCell ⟨gC, 2, none⟩ (.int .i64 x2)).cell? ⟨g1, o1 + 9, none⟩ = some (.int .i64 t3) := (World.cell?_of_block (heap_setCell_other _ _ _ _ (by show g1 ≠ gC; exact HS _ HG.out))).trans ((HR.out.2.1.cell (p := ⟨g1, o1 + 9, none⟩) HG.out).trans HM.out.2.2.2.2.2.2.2.2.2.2.1)
    have m3b : (z7.setCell ⟨gC, 2, none⟩ (.int .i64 x2)).cell? ⟨g1, o1 + 10, none⟩ = some (.string s3) := (World.cell?_of_block (heap_setCell_other _ _ _ _ (by show g1 ≠ gC; exact HS _ HG.out))).trans ((HR.out.2.1.cell (p := ⟨g1, o1 + 10, none⟩) HG.out).trans HM.out.2.2.2.2.2.2.2.2.2.2.2.1)
    have m3c : (z7.setCell ⟨gC, 2, none⟩ (.int .i64 x2)).cell? ⟨g1, o1 + 11, none⟩ = some (.slice a3 l3 c3) := (World.cell?_of_block (heap_setCell_other _ _ _ _ (by show g1 ≠ gC; exact HS _ HG.out))).trans ((HR.out.2.1.cell (p := ⟨g1, o1 + 11, none⟩) HG.out).trans HM.out.2.2.2.2.2.2.2.2.2.2.2.2.1)
    clear HS
    go_wp2_with fail
    clear cc cfz m3a m3b m3c
    obtain ⟨V8, hV8⟩ : ∃ V, V = z7.setCell ⟨gC, 2, none⟩ (.int .i64 x2) := ⟨_, rfl⟩
    rw [<- hV8]
    have HRn : Hid (RK8 w w2 V8 gC #[.slice pa pl pc, .int .i64 x1, .int .i64 x2, .int .i64 0, .int .i64 0, .bool cac] (.slice pa pl pc) tg) := by rw [hV8]; exact HR.out.set 2 _ rfl
    clear HR hV8
    have HR := HRn
    clear HRn
    have EI := specIntIn_any 6 k3 (.agg #[.int .i64 t3, .string s3, .slice a3 l3 c3]) V8 (ItAt.below HR.out.2.1 ⟨.slice a3 l3 c3, by rw [(HTS.out.2.2.2.1).1, (HTS.out.2.2.2.1).2], (HKS.out.2.2.2.1).at⟩) (Nat.le_trans (HSZ.out k3 (by simp)) (by decide))
    rw [show (((inI 6 k3).getD 0 : Nat) : Int) = x3 from HCC.out.2.1.2.2.1] at EI
    generalize (inI 6 k3).isSome = okI at EI
    refine EI.mono ?_
    rintro e z9 ⟨rfl, hb⟩
    have HRn : Hid (RK8 w w2 z9 gC #[.slice pa pl pc, .int .i64 x1, .int .i64 x2, .int .i64 0, .int .i64 0, .bool cac] (.slice pa pl pc) tg) := HR.out.below hb
    clear HR EI hb
    have HR := HRn
    clear HRn
    have cc : z9.cell? ⟨gC, 3, none⟩ = some (.int .i64 0) := HR.out.2.2.2.1.cell 3
    have cfz := HR.out.2.2.2.1.free 3
    have HS : ∀ g, g < w2.heap.size -> g ≠ gC := fun g hg => by have := HR.out.2.2.2.2.2.2.1; omega
    have m4a : (z9.setCell ⟨gC, 3, none⟩ (.int .i64 x3)).cell? ⟨g1, o1 + 12, none⟩ = some (.int .i64 t4) := (World.cell?_of_block (heap_setCell_other _ _ _ _ (by show g1 ≠ gC; exact HS _ HG.out))).trans ((HR.out.2.1.cell (p := ⟨g1, o1 + 12, none⟩) HG.out).trans HM.out.2.2.2.2.2.2.2.2.2.2.2.2.2.1)
    have m4b : (z9.setCell ⟨gC, 3, none⟩ (.int .i64 x3)).cell? ⟨g1, o1 + 13, none⟩ = some (.string s4) := (World.cell?_of_block (heap_setCell_other _ _ _ _ (by show g1 ≠ gC; exact HS _ HG.out))).trans ((HR.out.2.1.cell (p := ⟨g1, o1 + 13, none⟩) HG.out).trans HM.out.2.2.2.2.2.2.2.2.2.2.2.2.2.2.1)
    have m4c : (z9.setCell ⟨gC, 3, none⟩ (.int .i64 x3)).cell? ⟨g1, o1 + 14, none⟩ = some (.slice a4 l4 c4) := (World.cell?_of_block (heap_setCell_other _ _ _ _ (by show g1 ≠ gC; exact HS _ HG.out))).trans ((HR.out.2.1.cell (p := ⟨g1, o1 + 14, none⟩) HG.out).trans HM.out.2.2.2.2.2.2.2.2.2.2.2.2.2.2.2)
    clear HS
    go_wp2_with fail
    clear cc cfz m4a m4b m4c
    obtain ⟨V10, hV10⟩ : ∃ V, V = z9.setCell ⟨gC, 3, none⟩ (.int .i64 x3) := ⟨_, rfl⟩
    rw [<- hV10]
    have HRn : Hid (RK8 w w2 V10 gC #[.slice pa pl pc, .int .i64 x1, .int .i64 x2, .int .i64 x3, .int .i64 0, .bool cac] (.slice pa pl pc) tg) := by rw [hV10]; exact HR.out.set 3 _ rfl
    clear HR hV10
    have HR := HRn
    clear HRn
    have EI := specIntIn_any 6 k4 (.agg #[.int .i64 t4, .string s4, .slice a4 l4 c4]) V10 (ItAt.below HR.out.2.1 ⟨.slice a4 l4 c4, by rw [(HTS.out.2.2.2.2).1, (HTS.out.2.2.2.2).2], (HKS.out.2.2.2.2).at⟩) (Nat.le_trans (HSZ.out k4 (by simp)) (by decide))
    rw [show (((inI 6 k4).getD 0 : Nat) : Int) = x4 from HCC.out.2.1.2.2.2] at EI
    generalize (inI 6 k4).isSome = okI at EI
    refine EI.mono ?_
    rintro e z11 ⟨rfl, hb⟩
    have HRn : Hid (RK8 w w2 z11 gC #[.slice pa pl pc, .int .i64 x1, .int .i64 x2, .int .i64 x3, .int .i64 0, .bool cac] (.slice pa pl pc) tg) := HR.out.below hb
    clear HR EI hb
    have HR := HRn
    clear HRn
    have cc : z11.cell? ⟨gC, 4, none⟩ = some (.int .i64 0) := HR.out.2.2.2.1.cell 4
    have cfz := HR.out.2.2.2.1.free 4
    have hBV : Blk (z11.setCell ⟨gC, 4, none⟩ (.int .i64 x4)) gC 26 #[.slice pa pl pc, .int .i64 x1, .int .i64 x2, .int .i64 x3, .int .i64 x4, .bool cac] := HR.out.2.2.2.1.set 4 _
    have h0c : (z11.setCell ⟨gC, 4, none⟩ (.int .i64 x4)).cell? ⟨gC, 0, none⟩ = some (.slice pa pl pc) := hBV.cell 0
    have h1c : (z11.setCell ⟨gC, 4, none⟩ (.int .i64 x4)).cell? ⟨gC, 1, none⟩ = some (.int .i64 x1) := hBV.cell 1
    have h2c : (z11.setCell ⟨gC, 4, none⟩ (.int .i64 x4)).cell? ⟨gC, 2, none⟩ = some (.int .i64 x2) := hBV.cell 2
    have h3c : (z11.setCell ⟨gC, 4, none⟩ (.int .i64 x4)).cell? ⟨gC, 3, none⟩ = some (.int .i64 x3) := hBV.cell 3
    have h4c : (z11.setCell ⟨gC, 4, none⟩ (.int .i64 x4)).cell? ⟨gC, 4, none⟩ = some (.int .i64 x4) := hBV.cell 4
    have h5c : (z11.setCell ⟨gC, 4, none⟩ (.int .i64 x4)).cell? ⟨gC, 5, none⟩ = some (.bool cac) := hBV.cell 5
    clear hBV
    go_wp2_with fail
    clear cc cfz h0c h1c h2c h3c h4c h5c
    obtain ⟨V9, hV9⟩ : ∃ V, V = z11.setCell ⟨gC, 4, none⟩ (.int .i64 x4) := ⟨_, rfl⟩
    rw [<- hV9]
    have HRn : Hid (RK8 w w2 V9 gC #[.slice pa pl pc, .int .i64 x1, .int .i64 x2, .int .i64 x3, .int .i64 x4, .bool cac] (.slice pa pl pc) tg) := by rw [hV9]; exact HR.out.set 4 _ rfl
    clear HR hV9
    have HR := HRn
    clear HRn
    have HCT : Hid (∀ W, RK8 w w2 W gC #[.slice pa pl pc, .int .i64 x1, .int .i64 x2, .int .i64 x3, .int .i64 x4, .bool cac] (.slice pa pl pc) tg -> OwnAk W w2.heap.size (.agg #[.slice pa pl pc, .int .i64 x1, .int .i64 x2, .int .i64 x3, .int .i64 x4, .bool cac]) c) := fun W h => by
     rw [HCC.out.1]
     exact ⟨_, rfl, h.2.2.2.2.1⟩
    have E9 := specAskText_any c (.agg #[.slice pa pl pc, .int .i64 x1, .int .i64 x2, .int .i64 x3, .int .i64 x4, .bool cac]) V9 HSP.out.2.1 HSP.out.2.2 (HCT.out _ HR.out).at
    obtain ⟨bk, hbk⟩ : ∃ q : ByteArray, (⟨((atxt c).getD []).toArray⟩ : ByteArray) = q := ⟨_, rfl⟩
    obtain ⟨rt, hrt⟩ := zE ((atxt c).isSome)
    rw [hbk, hrt] at E9
    have HBK : Hid ((⟨((atxt c).getD []).toArray⟩ : ByteArray) = bk /\ (atxt c).isSome = rt) := ⟨hbk, hrt⟩
    clear hbk hrt
    refine E9.mono ?_
    rintro e y9 ⟨rfl, hb⟩
    have HRn : Hid (RK8 w w2 y9 gC #[.slice pa pl pc, .int .i64 x1, .int .i64 x2, .int .i64 x3, .int .i64 x4, .bool cac] (.slice pa pl pc) tg) := HR.out.below hb
    clear HR E9 hb
    have HR := HRn
    clear HRn
    have HRS : Hid (oR = if askOk c = true /\ writeI 3 (askI c) = some T.data.toList then some c else none) := by
     show oR = _
     rw [<- HP.out, HY.out.2.1]
     show readR (m := 3) T.data.toList x = _
     unfold readR
     rw [HSP.out.1, Option.bind_some]
    have HFR : Hid (Below w.heap.size w y9 /\ Blk y9 w.heap.size 26 #[.slice none 0 0, .int .i64 0, .int .i64 0, .int .i64 0, .int .i64 0, .bool false]) := ⟨HR.out.1, HR.out.2.2.1⟩
    have HTL : Hid (∀ B : ByteArray, B.toList = B.data.toList) := fun B => by
     obtain ⟨d⟩ := B
     obtain ⟨l⟩ := d
     show (⟨l.toArray⟩ : ByteArray).toList = _
     simp
    cases rt with
    | false =>
     have r0 : y9.cell? ⟨w.heap.size, 0, none⟩ = some (.slice none 0 0) := HFR.out.2.cell 0
     have r1 : y9.cell? ⟨w.heap.size, 1, none⟩ = some (.int .i64 0) := HFR.out.2.cell 1
     have r2 : y9.cell? ⟨w.heap.size, 2, none⟩ = some (.int .i64 0) := HFR.out.2.cell 2
     have r3 : y9.cell? ⟨w.heap.size, 3, none⟩ = some (.int .i64 0) := HFR.out.2.cell 3
     have r4 : y9.cell? ⟨w.heap.size, 4, none⟩ = some (.int .i64 0) := HFR.out.2.cell 4
     have r5 : y9.cell? ⟨w.heap.size, 5, none⟩ = some (.bool false) := HFR.out.2.cell 5
     have rf := fun j => HFR.out.2.free j
     have HN : Hid (oR = none) := by
      show oR = none
      rw [<- HP.out]
      rw [HP.out, HRS.out, if_neg (fun q => by have h := HBK.out.2; unfold atxt at h; rw [if_pos q.1, q.2] at h; cases h)]
     clear HCC HSP HM HKS HTS HTX HSZ HG HP HRS HTL HBK HCT HR HY
     go_wp2_with fail
     refine bodyPost_ret (v := .tuple #[.agg #[.slice none 0 0, .int .i64 0, .int .i64 0, .int .i64 0, .int .i64 0, .bool false], .bool false]) (by simp [results, Tryz.results10, go_sem, r0, r1, r2, r3, r4, r5]; try rfl) rfl ⟨?_, .inl ⟨HN.out, rfl⟩⟩
     iterate 6 refine Below.setCell ?_ (by show w.heap.size <= w.heap.size; exact Nat.le_refl _) _
     exact HFR.out.1
    | true =>
     obtain ⟨tx, htx⟩ := Option.isSome_iff_exists.1 HBK.out.2
     have HTX2 : Hid (bk.data.toList = tx /\ askOk c = true /\ writeI 3 (askI c) = some tx) := by
      have h := htx
      unfold atxt at h
      split at h
      ·next hco => exact ⟨by rw [<- HBK.out.1, htx]; rfl, hco, h⟩
      ·cases h
     clear htx
     by_cases hbt : bk.toList = T.toList
     ·have hbq : (bk.toList == T.toList) = true := by rw [hbt]; simp
      have HYES : Hid (oR = some c) := by
       show oR = some c
       have h1 := HTL.out bk
       have h2 := HTL.out T
       rw [HRS.out, if_pos ⟨HTX2.out.2.1, by rw [HTX2.out.2.2, <- HTX2.out.1, <- h1, hbt, h2]⟩]
      have HOWN : Hid (∀ V, Out [w.heap.size] y9 V -> OwnAk V w.heap.size (.agg #[.slice pa pl pc, .int .i64 x1, .int .i64 x2, .int .i64 x3, .int .i64 x4, .bool cac]) c) := fun V ho => by
       have hoc := HCT.out _ HR.out
       exact (hoc.out ho (fun b hb => by have := fpAk_lt hoc b hb; have := HY.out.2.2.2.2; simp; omega)).base (by have := HY.out.2.2.2.2; omega)
      have hgw : ¬ gC = w.heap.size := by have := HR.out.2.2.2.2.2.2; omega
      have q0 : y9.cell? ⟨gC, 0, none⟩ = some (.slice pa pl pc) := HR.out.2.2.2.1.cell 0
      have r0 : y9.cell? ⟨w.heap.size, 0, none⟩ = some (.slice none 0 0) := HFR.out.2.cell 0
      have q1 : y9.cell? ⟨gC, 1, none⟩ = some (.int .i64 x1) := HR.out.2.2.2.1.cell 1
      have r1 : y9.cell? ⟨w.heap.size, 1, none⟩ = some (.int .i64 0) := HFR.out.2.cell 1
      have q2 : y9.cell? ⟨gC, 2, none⟩ = some (.int .i64 x2) := HR.out.2.2.2.1.cell 2
      have r2 : y9.cell? ⟨w.heap.size, 2, none⟩ = some (.int .i64 0) := HFR.out.2.cell 2
      have q3 : y9.cell? ⟨gC, 3, none⟩ = some (.int .i64 x3) := HR.out.2.2.2.1.cell 3
      have r3 : y9.cell? ⟨w.heap.size, 3, none⟩ = some (.int .i64 0) := HFR.out.2.cell 3
      have q4 : y9.cell? ⟨gC, 4, none⟩ = some (.int .i64 x4) := HR.out.2.2.2.1.cell 4
      have r4 : y9.cell? ⟨w.heap.size, 4, none⟩ = some (.int .i64 0) := HFR.out.2.cell 4
      have q5 : y9.cell? ⟨gC, 5, none⟩ = some (.bool cac) := HR.out.2.2.2.1.cell 5
      have r5 : y9.cell? ⟨w.heap.size, 5, none⟩ = some (.bool false) := HFR.out.2.cell 5
      have rf := fun j => HFR.out.2.free j
      clear hbt HCC HSP HM HKS HTS HTX HSZ HG HP HRS HTL HBK HCT HR HY
      go_wp2_with fail
      refine bodyPost_ret (v := .tuple #[.agg #[.slice pa pl pc, .int .i64 x1, .int .i64 x2, .int .i64 x3, .int .i64 x4, .bool cac], .bool true]) (by simp [results, Tryz.results10, go_sem, r0, r1, r2, r3, r4, r5]; try rfl) rfl ?_
      generalize hV : World.setCell _ { block := w.heap.size, off := 5 } (Value.bool cac) = V8
      have ho8 : Out [w.heap.size] y9 V8 := by
       rw [<- hV]
       iterate 6 refine Out.setCell ?_ _ _ (by simp)
       exact Out.refl _ _
      exact ⟨HFR.out.1.trans (ho8.below (fun b hb => by rw [List.mem_singleton.1 hb]; exact Nat.le_refl _) HFR.out.1.size), .inr ⟨c, _, HYES.out, rfl, HOWN.out V8 ho8, HTX2.out.2.1⟩⟩
     ·have hbq : (bk.toList == T.toList) = false := beq_eq_false_iff_ne.2 hbt
      have r0 : y9.cell? ⟨w.heap.size, 0, none⟩ = some (.slice none 0 0) := HFR.out.2.cell 0
      have r1 : y9.cell? ⟨w.heap.size, 1, none⟩ = some (.int .i64 0) := HFR.out.2.cell 1
      have r2 : y9.cell? ⟨w.heap.size, 2, none⟩ = some (.int .i64 0) := HFR.out.2.cell 2
      have r3 : y9.cell? ⟨w.heap.size, 3, none⟩ = some (.int .i64 0) := HFR.out.2.cell 3
      have r4 : y9.cell? ⟨w.heap.size, 4, none⟩ = some (.int .i64 0) := HFR.out.2.cell 4
      have r5 : y9.cell? ⟨w.heap.size, 5, none⟩ = some (.bool false) := HFR.out.2.cell 5
      have rf := fun j => HFR.out.2.free j
      have HN : Hid (oR = none) := by
       show oR = none
       rw [<- HP.out]
       rw [HP.out, HRS.out, if_neg (fun q => hbt (by have h1 := HTL.out bk; have h2 := HTL.out T; have h3 := HTX2.out.2.2; rw [q.2] at h3; injection h3 with h3; rw [h1, h2, HTX2.out.1, h3]))]
      clear HCC HSP HM HKS HTS HTX HSZ HG HP HRS HTL HBK HCT HR HY HTX2 hbt
      go_wp2_with fail
      refine bodyPost_ret (v := .tuple #[.agg #[.slice none 0 0, .int .i64 0, .int .i64 0, .int .i64 0, .int .i64 0, .bool false], .bool false]) (by simp [results, Tryz.results10, go_sem, r0, r1, r2, r3, r4, r5]; try rfl) rfl ⟨?_, .inl ⟨HN.out, rfl⟩⟩
      iterate 6 refine Below.setCell ?_ (by show w.heap.size <= w.heap.size; exact Nat.le_refl _) _
      exact HFR.out.1
end Go.Proofs.YthbdgdfanpbkeaaGreat
namespace Go.Proofs.YthbdgdfanpbkeaaGreat
open Go.RowKit Der
set_option linter.unusedVariables false
theorem Below.on {B : Nat} {w W W' : World} (h : Below B w W) (hb : Below W.heap.size W W') (hB : B <= W.heap.size) : Below B w W' := h.trans (hb.mono hB)
end Go.Proofs.YthbdgdfanpbkeaaGreat
