/-
  Texts of the proof.
-/
import Derived.Test.YtcbjlbpkoneibaaGreatDoorSR42
set_option linter.unusedVariables false
set_option linter.unusedSimpArgs false
set_option maxRecDepth 100000
set_option maxHeartbeats 25600000
namespace Go.Proofs.YtcbjlbpkoneibaaGreatDoor
open Go.RowKit Der
def Fits (n : Nat) (x : It n) (d k : Nat) : Prop := rightI n x d = true /\ (txtI n x).length <= k
theorem Fits.mono {n : Nat} {x : It n} {d k m : Nat} (h : Fits n x d k) (hk : k <= m) : Fits n x d m := ⟨h.1, Nat.le_trans h.2 hk⟩
theorem lenB_le {n : Nat} (h : n < 65536) : (Der.lenB n).length <= 3 := by
 unfold Der.lenB
 split
 ·simp
 ·have := beN_len2 (n := n) (by omega) h
  simp;omega
theorem fits_leaf {n : Nat} {t : Int} {s : List UInt8} {d : Nat} (ht : t ≠ 48) (hp : plainOk t s = true) (hs : s.length < 65536) : Fits (n + 1) (It.mk t s []) d (s.length + 4) := by
 refine ⟨?_, ?_⟩
 ·show (if It.tag (It.mk t s ([] : List (It n))) ≠ 48 then decide ((It.kids (It.mk t s ([] : List (It n)))).length = 0) && plainOk (It.tag (It.mk t s ([] : List (It n)))) (It.text (It.mk t s ([] : List (It n)))) else _) = true
  rw [It.tag_mk, if_pos ht, It.kids_mk, It.text_mk, hp];rfl
 ·show (UInt8.ofNat _ :: (Der.lenB (if It.tag (It.mk t s ([] : List (It n))) = 48 then _ else It.text (It.mk t s ([] : List (It n)))).length ++ (if It.tag (It.mk t s ([] : List (It n))) = 48 then _ else It.text (It.mk t s ([] : List (It n)))))).length <= _
  rw [It.tag_mk, if_neg ht, It.text_mk];have := lenB_le hs;rw [List.length_cons, List.length_append];omega
theorem fits_int {n : Nat} (d : Nat) (x : Int) : Fits (n + 1) (intI x) d 9 := by
 have h := intT_ok (numN_le x);have hl : (intT (numN x)).length <= 5 := by
  unfold plainOk at h;rw [if_neg (by decide), if_pos rfl] at h;simp only [Bool.and_eq_true, decide_eq_true_eq] at h;exact h.1.1.2
 exact (fits_leaf (by decide) h (by omega)).mono (by omega)
theorem nmL_print : ∀ {s : List UInt8} {p : Bool}, nmL s p = true -> (s.all fun b => decide (32 <= b) && decide (b <= 126)) = true
 | [], _, _ => rfl
 | b :: r, p, h => by
  unfold nmL at h;rw [List.all_cons]
  split at h
  ·rename_i hb
   rw [nmL_print h, Bool.and_true, Bool.and_eq_true, decide_eq_true_eq, decide_eq_true_eq, UInt8.le_iff_toNat_le, UInt8.le_iff_toNat_le];constructor
   ·show 32 <= _; omega
   ·show _ <= 126; omega
  ·split at h
   ·rename_i hb
    rw [nmL_print h, Bool.and_true, Bool.and_eq_true, decide_eq_true_eq, decide_eq_true_eq, UInt8.le_iff_toNat_le, UInt8.le_iff_toNat_le];constructor
    ·show 32 <= _; omega
    ·show _ <= 126; omega
   ·cases h
theorem fits_txt {n : Nat} (d : Nat) {s : ByteArray} (h : nameOk s = true) : Fits (n + 1) (txtJ s) d 24 := by
 unfold nameOk at h;rw [Bool.and_eq_true, decide_eq_true_eq] at h;have hs : s.data.toList.length <= 20 := h.1;refine (fits_leaf (by decide) ?_ (by omega)).mono (by omega);unfold plainOk;rw [if_neg (by decide), if_neg (by decide), if_pos rfl];exact nmL_print h.2
theorem fits_byt {n : Nat} (d : Nat) {s : ByteArray} (h : s.size = 15) : Fits (n + 1) (bytJ s) d 19 := by
 have hs : s.data.toList.length = 15 := h;exact (fits_leaf (by decide) (by unfold plainOk; rw [if_neg (by decide), if_neg (by decide), if_neg (by decide)]; rfl) (by omega)).mono (by omega)
def FitsL (n : Nat) (ks : List (It n)) (d k : Nat) : Prop := (∀ y ∈ ks, rightI n y d = true) /\ ((ks.map (txtI n)).flatten).length <= k
theorem FitsL.nil {n d : Nat} : FitsL n [] d 0 := ⟨fun y hy => absurd hy List.not_mem_nil, Nat.le_refl _⟩
theorem FitsL.cons {n : Nat} {x : It n} {ks : List (It n)} {d a b : Nat} (h : Fits n x d a) (hl : FitsL n ks d b) : FitsL n (x :: ks) d (a + b) := by
 refine ⟨fun y hy => ?_, ?_⟩
 ·rcases List.mem_cons.1 hy with rfl | hy
  ·exact h.1
  ·exact hl.1 y hy
 ·rw [List.map_cons, List.flatten_cons, List.length_append]
  exact Nat.add_le_add h.2 hl.2
theorem Fits.cons' {n : Nat} {x : It n} {ks : List (It n)} {d a b : Nat} (h : Fits n x d a) (hl : FitsL n ks d b) : FitsL n (x :: ks) d (a + b) := FitsL.cons h hl
theorem FitsL.each {n d a : Nat} : ∀ {ks : List (It n)}, (∀ y ∈ ks, Fits n y d a) -> FitsL n ks d (ks.length * a)
 | [], _ => by rw [List.length_nil, Nat.zero_mul]; exact FitsL.nil
 | x :: ks, h => by
  have h2 := FitsL.cons (h x (List.mem_cons_self ..)) (FitsL.each fun y hy => h y (List.mem_cons_of_mem _ hy));rw [List.length_cons, Nat.succ_mul, Nat.add_comm];exact h2
theorem fits_lst {n : Nat} {ks : List (It n)} {d k : Nat} (h : FitsL n ks (d + 1) k) (hk : ks.length <= 40) (hd : d < 6) (hb : k < 65536) : Fits (n + 1) (lstJ ks) d (k + 4) := by
 refine ⟨?_, ?_⟩
 ·show (if It.tag (It.mk 48 [] ks) ≠ 48 then _ else decide ((It.text (It.mk 48 [] ks)).length = 0) && decide ((It.kids (It.mk 48 [] ks)).length <= 40) && decide (d < 6) && (It.kids (It.mk 48 [] ks)).all fun y => rightI n y (d + 1)) = true
  rw [It.tag_mk, if_neg (by simp), It.text_mk, It.kids_mk, decide_eq_true hk, decide_eq_true hd, List.all_eq_true.2 h.1];rfl
 ·show (UInt8.ofNat _ :: (Der.lenB (if It.tag (It.mk 48 [] ks) = 48 then It.text (It.mk 48 [] ks) ++ ((It.kids (It.mk 48 [] ks)).map (txtI n)).flatten else _).length ++ (if It.tag (It.mk 48 [] ks) = 48 then It.text (It.mk 48 [] ks) ++ ((It.kids (It.mk 48 [] ks)).map (txtI n)).flatten else _))).length <= _
  rw [It.tag_mk, if_pos rfl, It.text_mk, It.kids_mk, List.nil_append];have h2 := h.2;have := lenB_le (n := ((ks.map (txtI n)).flatten).length) (by omega);rw [List.length_cons, List.length_append];omega
theorem fits_writes {n : Nat} {x : It n} {k : Nat} (h : Fits n x 0 k) (hk : k <= 4000) : writeI n x = some (txtI n x) := by
 unfold writeI;rw [if_pos ⟨h.1, Nat.le_trans h.2 hk⟩]
def RlPost (w : World) (ol : Option Cl) (e : Ending) (W' : World) : Prop := zW w W' /\
 ((ol = none /\ e = .returned (.tuple #[.agg #[zG ⟨#[]⟩, zI 0, zI 0, zI 0, zI 0, zZ, zG ⟨#[]⟩], .bool false])) ∨ ∃ (c : Cl) (u : Value), ol = some c /\ e = .returned (.tuple #[u, .bool true]) /\ OwnL W' w.heap.size u c /\ crlOk c = true)
theorem revs_len {k : Nat} : ∀ {ks : List (It (k + 2))} {l : List (Int × Int)}, revsP ks = some l -> l.length = ks.length
 | [], l, h => by
  simp only [revsP, Option.some.injEq] at h;subst h;rfl
 | y :: r, l, h => by
  unfold revsP at h
  split at h
  ·cases h
  ·split at h
   ·cases h
   ·next l' hl =>
    simp only [Option.some.injEq] at h;subst h;simp only [List.length_cons, revs_len hl]
theorem szL_item {n : Nat} (y : It (n + 1)) : szI (n + 1) y = (It.text y).length + (It.kids y).length + ((It.kids y).map (szI n)).sum := rfl
theorem itxtL_le {n : Nat} (y : It (n + 1)) : (baL (It.text y)).size <= szI (n + 1) y := by
 rw [szL_item];show (It.text y).length <= _;omega
theorem wtL_of {c : Cl} {m : Nat} {x : It (m + 5)} (h : crlP x = some c) (hz : szI (m + 5) x <= 4000) : wtL c <= 1048576 := by
 unfold crlP at h
 split at h
 rotate_left
 ·cases h
 next ht =>
 unfold cbP at h;obtain ⟨b, hb, h⟩ := Option.bind_eq_some_iff.1 h;obtain ⟨cb, hcb, h⟩ := Option.bind_eq_some_iff.1 h;obtain ⟨s, hs, h⟩ := Option.bind_eq_some_iff.1 h;obtain ⟨_, he, h⟩ := Option.bind_eq_some_iff.1 h;simp only [Option.some.injEq] at h;obtain ⟨yb, b1, b2, b3⟩ := lst_some hb;obtain ⟨ys, s1, s2, s3⟩ := txt_some hs;rw [s1] at b1;have z0 : szI (m + 5) x = (It.text x).length + (It.kids x).length + ((It.kids x).map (szI (m + 4))).sum := szL_item x;rw [b1] at z0;simp only [List.map_cons, List.sum_cons, List.length_cons] at z0;have z1 : szI (m + 4) yb = (It.text yb).length + (It.kids yb).length + ((It.kids yb).map (szI (m + 3))).sum := szL_item yb;rw [b3] at hcb;unfold tidP headP at hcb;obtain ⟨hh, hhd, hcb⟩ := Option.bind_eq_some_iff.1 hcb;obtain ⟨a0, h0, hhd⟩ := Option.bind_eq_some_iff.1 hhd;obtain ⟨a1, h1, hhd⟩ := Option.bind_eq_some_iff.1 hhd;obtain ⟨a2, h2, hhd⟩ := Option.bind_eq_some_iff.1 hhd;obtain ⟨a3, h3, hhd⟩ := Option.bind_eq_some_iff.1 hhd;obtain ⟨a4, h4, hhd⟩ := Option.bind_eq_some_iff.1 hhd;simp only [Option.some.injEq] at hhd;subst hhd;obtain ⟨a5, h5, hcb⟩ := Option.bind_eq_some_iff.1 hcb;obtain ⟨_, hze, hcb⟩ := Option.bind_eq_some_iff.1 hcb;simp only [Option.some.injEq] at hcb;obtain ⟨y0, p0, q0, v0⟩ := txt_some h0;obtain ⟨y1, n1, p1, q1, i1, v1⟩ := num_some h1;obtain ⟨y2, n2, p2, q2, i2, v2⟩ := num_some h2;obtain ⟨y3, n3, p3, q3, i3, v3⟩ := num_some h3;obtain ⟨y4, n4, p4, q4, i4, v4⟩ := num_some h4;have h5' : ∃ y, a4.2 = y :: a5.2 /\ It.tag y = 48 /\ revsP (It.kids y) = some a5.1 := by
  have h := h5;change revsL a4.2 = some a5 at h;unfold revsL at h
  split at h
  ·cases h
  ·next i r hl =>
   split at h
   ·cases h
   ·next l hl2 =>
    simp only [Option.some.injEq] at h;subst h;obtain ⟨y, e1, e2, e3⟩ := lst_some hl;change i = It.kids y at e3;exact ⟨y, e1, e2, by rw [<- e3]; exact hl2⟩
 obtain ⟨y5, p5, q5, v5⟩ := h5';rw [p5] at p4;rw [p4] at p3;rw [p3] at p2;rw [p2] at p1;rw [p1] at p0;rw [p0] at z1;simp only [List.map_cons, List.sum_cons, List.length_cons] at z1;have t0 : (baL (It.text y0)).size <= szI (m + 3) y0 := itxtL_le y0;have ts : (baL (It.text ys)).size <= szI (m + 4) ys := itxtL_le ys;have t5 := revs_len v5;have s5 : szI (m + 3) y5 = (It.text y5).length + (It.kids y5).length + ((It.kids y5).map (szI (m + 2))).sum := szL_item y5;subst h hcb;unfold wtL;show a0.1.size + a5.1.length + s.1.size <= 1048576;rw [v0, s3];omega
theorem implReadCrl_any (m : Nat) (hm : 4000 <= m + 4) (T : ByteArray) (w : World) (hT : T.size <= 1000000000000) :
  Calls Tryz.prog 7 #[zG T] w fun e W' => RlPost w ((readG (m + 4 + 1) T.data.toList).bind readPL) e W' := by
 obtain ⟨oR, hoR⟩ := zE ((readG (m + 4 + 1) T.data.toList).bind readPL);have HP : Hid ((readG (m + 4 + 1) T.data.toList).bind readPL = oR) := hoR;rw [hoR];clear hoR;obtain ⟨W1, hW1⟩ : ∃ V, V = w.alloc (Obj.cells #[zG ⟨#[]⟩, zI 0, zI 0, zI 0, zI 0, zZ, zG ⟨#[]⟩] 26) := ⟨_, rfl⟩;have E1 := readWholeL_any m hm T W1 hT;have H1 : Hid (zW w W1 /\ Blk W1 w.heap.size 26 #[zG ⟨#[]⟩, zI 0, zI 0, zI 0, zI 0, zZ, zG ⟨#[]⟩] /\ W1.heap.size = w.heap.size + 1) := by rw [hW1]; exact ⟨(Below.refl _ _).alloc (Nat.le_refl _) _, Blk.new _ _ _, size_alloc _ _⟩
 go_enter Tryz.func7, Tryz.ntmps7;go_wp2_with fail;rw [<- hW1];clear hW1;refine E1.mono ?_;rintro e w4 ⟨hb4, ⟨hn, rfl⟩ | ⟨x, c, u, hx, hsz, hc, rfl, hown⟩⟩
 ·have H4 := zH (zJ (H1.1.trans (hb4.mono H1.1.size)) (H1.2.1.on hb4))
  have r0 := fun o => (show (w4.alloc o).cell? ⟨w.heap.size, 0, none⟩ = some (zG ⟨#[]⟩) from (H4.2.alloc o).cell 0)
  have r1 := fun o => (show (w4.alloc o).cell? ⟨w.heap.size, 1, none⟩ = some (zI 0) from (H4.2.alloc o).cell 1)
  have r2 := fun o => (show (w4.alloc o).cell? ⟨w.heap.size, 2, none⟩ = some (zI 0) from (H4.2.alloc o).cell 2)
  have r3 := fun o => (show (w4.alloc o).cell? ⟨w.heap.size, 3, none⟩ = some (zI 0) from (H4.2.alloc o).cell 3)
  have r4 := fun o => (show (w4.alloc o).cell? ⟨w.heap.size, 4, none⟩ = some (zI 0) from (H4.2.alloc o).cell 4)
  have r5 := fun o => (show (w4.alloc o).cell? ⟨w.heap.size, 5, none⟩ = some zZ from (H4.2.alloc o).cell 5)
  have r6 := fun o => (show (w4.alloc o).cell? ⟨w.heap.size, 6, none⟩ = some (zG ⟨#[]⟩) from (H4.2.alloc o).cell 6)
  have rf := fun o j => (H4.2.alloc o).free j
  have HN : Hid (oR = none) := by
   show oR = none;rw [<- HP.out]
   cases hr : readG (m + 4 + 1) T.data.toList with
   | none => rfl
   | some y => rw [hr] at hn; show readPL y = none; unfold readPL; rw [show crlP y = none from hn]; rfl
  clear hn hb4 H1 E1;go_wp2_with fail;refine bodyPost_ret (v := .tuple #[.agg #[zG ⟨#[]⟩, zI 0, zI 0, zI 0, zI 0, zZ, zG ⟨#[]⟩], .bool false]) (by simp [results, Tryz.results7, go_sem, r0, r1, r2, r3, r4, r5, r6]; try rfl) rfl ⟨?_, .inl ⟨HN.out, rfl⟩⟩
  iterate 7 refine Below.setCell ?_ (by show w.heap.size <= w.heap.size; exact Nat.le_refl _) _
  exact H4.1.alloc H4.1.size _
 ·
   obtain ⟨pX, qX, hu⟩ := ClAt.shape hown.at
   subst hu;unfold clV at hown |-;obtain ⟨W5, hW5⟩ : ∃ V, V = w4.alloc (Obj.cells (zCl c (zS pX c.revs.length qX)) 26) := ⟨_, rfl⟩;have hb5 : zW w4 W5 := by rw [hW5]; exact (Below.refl _ _).alloc (Nat.le_refl _) _
   have H5 := zH (zJ (⟨(H1.1.trans (hb4.mono H1.1.size)).trans (hb5.mono (Nat.le_trans H1.1.size hb4.size)), (H1.2.1.on hb4).on hb5⟩ : (zW w W5 /\ Blk W5 w.heap.size 26 #[zG ⟨#[]⟩, zI 0, zI 0, zI 0, zI 0, zZ, zG ⟨#[]⟩])) (zJ (by rw [hW5]; exact Blk.new _ _ _ : Blk W5 w4.heap.size 26 (zCl c (zS pX c.revs.length qX))) (zJ (hown.stays hb5) (zJ H1.2.1.lt hb4.size))));have E5 := implCrlOk_any c (.agg (zCl c (zS pX c.revs.length qX))) W5 (Nat.le_trans (wtL_of hc hsz) (by decide)) (hown.stays hb5).at
   have HC : Hid (crlP x = some c) := hc;have HX : Hid (readG (m + 4 + 1) T.data.toList = some x /\ szI (m + 5) x <= 4000) := ⟨hx, hsz⟩;clear hown hb4 hb5 H1 E1 hc hx hsz;go_wp2_with fail;rw [<- hW5];clear hW5;obtain ⟨B, hB⟩ := zE (crlOk c);rw [hB] at E5;refine E5.mono ?_;rintro e w6 ⟨rfl, hb6⟩;have H6 : Hid ((zW w w6 /\ Blk w6 w.heap.size 26 #[zG ⟨#[]⟩, zI 0, zI 0, zI 0, zI 0, zZ, zG ⟨#[]⟩]) /\ Blk w6 w4.heap.size 26 (zCl c (zS pX c.revs.length qX)) /\ OwnL w6 W1.heap.size (.agg (zCl c (zS pX c.revs.length qX))) c /\ w.heap.size < W1.heap.size /\ W1.heap.size <= w4.heap.size) := ⟨⟨H5.1.1.trans (hb6.mono H5.1.1.size), H5.1.2.on hb6⟩, H5.2.1.on hb6, H5.2.2.1.stays hb6, H5.2.2.2⟩;have HB : Hid (crlOk c = B) := hB;clear hb6 H5 E5 hB
   cases B with
   | false =>
    obtain ⟨r0, r1, r2, r3, r4, r5, r6⟩ := zc7 H6.1.2;have rf := fun j => H6.1.2.free j
    have HN : Hid (oR = none) := by
     show oR = none;rw [<- HP.out];rw [HX.1]; show readPL x = none; unfold readPL; rw [HC.out]; show (if crlOk c = true then some c else none) = none; rw [HB.out]; rfl
    skip;go_wp2_with fail;refine bodyPost_ret (v := .tuple #[.agg #[zG ⟨#[]⟩, zI 0, zI 0, zI 0, zI 0, zZ, zG ⟨#[]⟩], .bool false]) (by simp [results, Tryz.results7, go_sem, r0, r1, r2, r3, r4, r5, r6]; try rfl) rfl ⟨?_, .inl ⟨HN.out, rfl⟩⟩
    iterate 7 refine Below.setCell ?_ (by show w.heap.size <= w.heap.size; exact Nat.le_refl _) _
    exact H6.1.1
   | true =>
    have HY : Hid (oR = some c) := by
     show oR = some c;rw [<- HP.out, HX.1];show readPL x = some c;unfold readPL;rw [HC.out];show (if crlOk c = true then some c else none) = some c;rw [if_pos HB.out]
    have r0 : w6.cell? ⟨w.heap.size, 0, none⟩ = some (zG ⟨#[]⟩) := H6.1.2.cell 0;have c20 := fun j => H6.2.1.cell j
    have r1 : w6.cell? ⟨w.heap.size, 1, none⟩ = some (zI 0) := H6.1.2.cell 1;have c21 := fun j => H6.2.1.cell j
    have r2 : w6.cell? ⟨w.heap.size, 2, none⟩ = some (zI 0) := H6.1.2.cell 2;have c22 := fun j => H6.2.1.cell j
    have r3 : w6.cell? ⟨w.heap.size, 3, none⟩ = some (zI 0) := H6.1.2.cell 3;have c23 := fun j => H6.2.1.cell j
    have r4 : w6.cell? ⟨w.heap.size, 4, none⟩ = some (zI 0) := H6.1.2.cell 4;have c24 := fun j => H6.2.1.cell j
    have r5 : w6.cell? ⟨w.heap.size, 5, none⟩ = some zZ := H6.1.2.cell 5;have c25 := fun j => H6.2.1.cell j
    have r6 : w6.cell? ⟨w.heap.size, 6, none⟩ = some (zG ⟨#[]⟩) := H6.1.2.cell 6;have c26 := fun j => H6.2.1.cell j
    have rf := fun j => H6.1.2.free j
    go_wp2_with fail;refine bodyPost_ret (v := .tuple #[.agg (zCl c (zS pX c.revs.length qX)), .bool true]) (by simp [results, Tryz.results7, go_sem, r0, r1, r2, r3, r4, r5, r6]; try rfl) rfl ?_;generalize hV : World.setCell _ { block := w.heap.size, off := 6 } (Value.string c.sig) = V;have ho : Out [w.heap.size] w6 V := by
     rw [<- hV]
     iterate 7 refine Out.setCell ?_ _ _ (by simp)
     exact Out.refl _ _
    refine ⟨H6.1.1.trans (ho.below (fun b hb => by rw [List.mem_singleton.1 hb]; exact Nat.le_refl _) H6.1.1.size), .inr ⟨c, _, HY.out, rfl, ?_, HB.out⟩⟩;exact (H6.2.2.1.out ho (fun b hb => by have := fpL_lt H6.2.2.1 b hb; have := H6.2.2.2.1; simp; omega)).base (by have := H6.2.2.2.1; omega)
end Go.Proofs.YtcbjlbpkoneibaaGreatDoor
namespace Go.Proofs.YtcbjlbpkoneibaaGreatDoor
open Go.RowKit Der
theorem fits_rev {n d : Nat} (hd : d < 6) (p : Int × Int) : Fits 2 (revI p) d 22 :=
 (fits_lst ((fits_int _ _).cons' ((fits_int _ _).cons' FitsL.nil)) (by simp) hd (by decide)).mono (by decide)
theorem crl_fits {c : Cl} (h : crlOk c = true) : Fits 5 (crlI c) 0 600 := by
 unfold crlOk headOk revsOk at h;simp only [Bool.and_eq_true, decide_eq_true_eq] at h;obtain ⟨⟨h1, -⟩, ⟨h2, -⟩, h3⟩ := h;have hr : FitsL 2 (c.revs.map revI) 3 ((c.revs.map revI).length * 22) := FitsL.each fun y hy => by
  obtain ⟨x, -, rfl⟩ := List.mem_map.1 hy;exact fits_rev (n := 0) (by decide) x
 rw [List.length_map] at hr;have hb : Fits 4 (bodyL c) 1 400 := (fits_lst ((fits_txt _ h1).cons' ((fits_int _ _).cons' ((fits_int _ _).cons' ((fits_int _ _).cons' ((fits_int _ _).cons' ((fits_lst hr (by rw [List.length_map]; omega) (by decide) (by omega)).cons' FitsL.nil)))))) (by simp) (by decide) (by omega)).mono (by omega);exact (fits_lst (hb.cons' ((fits_byt _ h3).cons' FitsL.nil)) (by simp) (by decide) (by decide)).mono (by decide)
theorem ltxt_some (c : Cl) : (ltxt c).isSome = crlOk c := by
 unfold ltxt;by_cases h : crlOk c = true
 ·rw [if_pos h, fits_writes (crl_fits h) (by decide), h]
  rfl
 ·rw [if_neg h, (Bool.eq_false_iff.2 h)]
  rfl
def rdL (t : List UInt8) : Option Cl := (readG (3996 + 4 + 1) t).bind readPL
theorem rdL_same (t : List UInt8) : rdL t = (Der.readI t).bind (readSL (m := 2) t) := by
 unfold rdL
 cases hG : readG (3996 + 4 + 1) t with
 | none => rw [(readG_none (by decide) t).1 hG]; rfl
 | some x =>
  obtain ⟨y, _, hy⟩ := readG_same hG;rw [hy];exact readsL_same (m := 3996) (k := 2) (readG_some hG) (read_some hy).1
theorem rdL_back {c : Cl} {t : List UInt8} (h : ltxt c = some t) : rdL t = some c := by
 unfold ltxt at h
 split at h
 ·rename_i hc
  obtain ⟨y, _, hy⟩ := read_back h;obtain ⟨x, hx, _⟩ := readG_of (n := 3996 + 4 + 1) (by decide) hy;unfold rdL;rw [hx];exact (readPL_iff (m := 3996) (readG_some hx) c).2 ⟨hc, h⟩
 ·cases h
theorem rdL_text {c : Cl} {t : List UInt8} (h : rdL t = some c) : ltxt c = some t := by
 unfold rdL at h
 cases hG : readG (3996 + 4 + 1) t with
 | none => rw [hG] at h; cases h
 | some x =>
  rw [hG] at h;obtain ⟨h1, h2⟩ := (readPL_iff (m := 3996) (readG_some hG) c).1 h;unfold ltxt;rw [if_pos h1];exact h2
theorem ltxt_len (c : Cl) : ((ltxt c).getD []).length <= 4000 := by
 unfold ltxt
 split
 ·unfold writeI
  split
  ·rename_i h
   exact h.2
  ·exact Nat.zero_le _
 ·exact Nat.zero_le _
theorem ok_small {c : Cl} (h : crlOk c = true) : wtL c <= 200 /\ WdL c := by
 have hr := h;unfold crlOk headOk at h;simp only [Bool.and_eq_true, decide_eq_true_eq] at h;obtain ⟨⟨h1, h2, h3, h4, h5⟩, h6, h7⟩ := h;have hw := revs_in_word h6;unfold revsOk at h6;simp only [Bool.and_eq_true, decide_eq_true_eq] at h6;unfold nameOk at h1;simp only [Bool.and_eq_true, decide_eq_true_eq] at h1;unfold inB at h2 h3 h4 h5;rw [decide_eq_true_eq] at h2 h3 h4 h5;refine ⟨by unfold wtL; omega, fun y hy => ?_, ?_, fun s hs => ?_, by omega⟩
 ·simp only [List.mem_cons, List.not_mem_nil, or_false] at hy
  rcases hy with rfl | rfl | rfl | rfl <;> omega
 ·first
  | exact fun p hp => by have := hw p hp; omega
  | exact fun p hp => ⟨by have := hw p hp; omega, by have := hw p hp; omega⟩
  | exact fun p hp => ⟨⟨by have := hw p hp; omega, by have := hw p hp; omega⟩, by have := hw p hp; omega, by have := hw p hp; omega⟩
 ·simp only [List.mem_cons, List.not_mem_nil, or_false] at hs
  rcases hs with rfl | rfl <;> omega
theorem rdL_small (t : List UInt8) : wtL ((rdL t).getD zeL) <= 200 /\ WdL ((rdL t).getD zeL) := by
 cases h : rdL t with
 | none => exact ⟨by decide, fun y hy => by simp [zeL] at hy; omega, fun p hp => by simp [zeL] at hp, fun s hs => by simp [zeL] at hs; rw [hs]; decide, by decide⟩
 | some c =>
  have h2 := rdL_text h;unfold ltxt at h2
  split at h2
  ·rename_i hc
   exact ok_small hc
  ·cases h2
theorem RlPost.one {w W' : World} {ol : Option Cl} {e : Ending} (h : RlPost w ol e W') : ∃ u, e = .returned (.tuple #[u, .bool ol.isSome]) /\ OwnL W' w.heap.size u (ol.getD zeL) /\ zW w W' := by
 obtain ⟨hb, ⟨rfl, rfl⟩ | ⟨c, u, rfl, rfl, ho, -⟩⟩ := h
 ·exact ⟨_, rfl, own_zeL _ _, hb⟩
 ·exact ⟨u, rfl, ho, hb⟩
def CtPost (w : World) (e : Ending) (w' : World) : Prop := ∃ u x, e = .returned u /\ OwnL w' w.heap.size u x /\ MdL x /\ zW w w'
def ScPost (w : World) (e : Ending) (w' : World) : Prop := ∃ u x i, e = .returned (.tuple #[u, zI i]) /\ OwnL w' w.heap.size u x /\ MdL x /\ (-9223372036854775808 <= i /\ i <= 9223372036854775807) /\ zW w w'
def RcPost2 (w : World) (e : Ending) (w' : World) : Prop := ∃ t : ByteArray, e = .returned (zG t) /\ t.size <= 100000 /\ zW w w'
theorem drawCrlText_any (B : Nat) (w : World) (a0 : Option Addr) (len cap : Nat) (hl : len <= 1048576) (hB : B <= w.heap.size) (hcode : CodeAt B w a0 len) :
  Calls Tryz.prog 5 #[zS a0 len cap] w fun e w' => CtPost w e w' := by
 obtain ⟨W0, hW0⟩ : ∃ V, V = w.alloc (Obj.cells #[zG ⟨#[]⟩, zI 0, zI 0, zI 0, zI 0, zZ, zG ⟨#[]⟩] 26) := ⟨_, rfl⟩;have H0 : Hid (zW w W0 /\ Blk W0 w.heap.size 26 #[zG ⟨#[]⟩, zI 0, zI 0, zI 0, zI 0, zZ, zG ⟨#[]⟩]) := by rw [hW0]; exact ⟨(Below.refl _ _).alloc (Nat.le_refl _) _, Blk.new _ _ _⟩
 have HN := l01New_any B W0 a0 len cap hl (Nat.le_trans hB H0.1.size) (hcode.below (H0.1.mono hB));clear hl hB hcode;go_enter Tryz.func5, Tryz.ntmps5;go_upto_region 1 with fail;rw [<- hW0];clear hW0;go_wp2_with fail;refine HN.mono ?_;rintro e w1 ⟨c, rfl, hC, hbw, hcw⟩;have H1 := zH (zJ (⟨⟨H0.1.trans (hbw.mono H0.1.size), Nat.le_trans H0.1.size hcw⟩, grownBy_refl _ _, hC⟩ : Cs B w w1 w1 c a0 len cap) (zJ (H0.2.below hbw H0.2.lt) (Nat.lt_of_lt_of_le H0.2.lt hcw)));clear hC hbw hcw HN H0;go_wp2_with fail;refine (l10Any_any B w1 c a0 len cap H1.1.2.2).mono ?_;rintro e wx ⟨u2, x, rfl, hu2, hmx, hc, hg⟩;obtain ⟨pX, qX, huX⟩ := hu2.at.shape;subst huX;have HM : Hid (MdL x) := hmx;have HX := zH (zJ (⟨(Cs.draw (show Cs B w w1 w1 c a0 len cap from H1.1) hc hg).all, H1.2.1.grown hg (fun e => by have := Option.some.inj e; have := H1.2.2; omega)⟩ : (zW w wx /\ Blk wx w.heap.size 26 #[zG ⟨#[]⟩, zI 0, zI 0, zI 0, zI 0, zZ, zG ⟨#[]⟩])) (zJ (hu2 : OwnL wx w1.heap.size (clV x (zS pX x.revs.length qX)) x) H1.2.1.lt));clear hu2 hmx hc hg H1;obtain ⟨V, hV⟩ : ∃ V, V = wx.setCells w.heap.size 0 (zCl x (zS pX x.revs.length qX)).toList := ⟨_, rfl⟩;have HF : Hid (zW w V /\ Blk V w.heap.size 26 (zCl x (zS pX x.revs.length qX)) /\ OwnL V w.heap.size (clV x (zS pX x.revs.length qX)) x) := by
  have ho : Out [w.heap.size] wx V := by rw [hV]; exact setCells_out _ _ _ _
  refine ⟨HX.1.1.trans (ho.below (fun b hb => by rw [List.mem_singleton.1 hb]; exact Nat.le_refl _) HX.1.1.size), by rw [hV]; exact HX.1.2.setAll rfl, (OwnL.out HX.2.1 ho (fun b hb hm => ?_)).base (Nat.le_of_lt HX.2.2)⟩;have h1 := (fpL_lt HX.2.1 b hb).1;have h2 := List.mem_singleton.1 hm;have h3 := HX.2.2;omega
 have hth := HX.1.2.there (n := 7) rfl;unfold clV;clear HX;go_wp2_with (refine step_storeV rfl 26 _ _ rfl w.heap.size 0 #[zG x.issuer, zI x.num, zI x.ths, zI x.nxt, zI x.bas, zS pX x.revs.length qX, zG x.sig] rfl rfl hth (by kernel_rfl) (by simp [Value.oneCell']) hV ?_; clear hV hth);have r0 := fun j => HF.2.1.cell j
 go_wp2_with fail;refine bodyPost_ret (v := .agg (zCl x (zS pX x.revs.length qX))) (by simp [results, Tryz.results5, go_sem, r0]; try rfl) rfl ?_;exact ⟨_, x, rfl, HF.2.2, HM.out, HF.1⟩
theorem drawSignedCrl_any (B : Nat) (w : World) (a0 : Option Addr) (len cap : Nat) (hl : len <= 1048576) (hB : B <= w.heap.size) (hcode : CodeAt B w a0 len) :
  Calls Tryz.prog 10 #[zS a0 len cap] w fun e w' => ScPost w e w' := by
 obtain ⟨W0, hW0⟩ : ∃ V, V = w.alloc (Obj.cells #[zG ⟨#[]⟩, zI 0, zI 0, zI 0, zI 0, zZ, zG ⟨#[]⟩] 26) := ⟨_, rfl⟩;have H0 : Hid (zW w W0 /\ Blk W0 w.heap.size 26 #[zG ⟨#[]⟩, zI 0, zI 0, zI 0, zI 0, zZ, zG ⟨#[]⟩]) := by rw [hW0]; exact ⟨(Below.refl _ _).alloc (Nat.le_refl _) _, Blk.new _ _ _⟩
 have HN := l01New_any B W0 a0 len cap hl (Nat.le_trans hB H0.1.size) (hcode.below (H0.1.mono hB));clear hl hB hcode;go_enter Tryz.func10, Tryz.ntmps10;go_upto_region 1 with fail;rw [<- hW0];clear hW0;go_wp2_with fail;refine HN.mono ?_;rintro e w1 ⟨c, rfl, hC, hbw, hcw⟩;have H1 := zH (zJ (⟨⟨H0.1.trans (hbw.mono H0.1.size), Nat.le_trans H0.1.size hcw⟩, grownBy_refl _ _, hC⟩ : Cs B w w1 w1 c a0 len cap) (zJ (H0.2.below hbw H0.2.lt) (Nat.lt_of_lt_of_le H0.2.lt hcw)));clear hC hbw hcw HN H0;go_wp2_with fail;refine (l01Place_any 5 B w1 c a0 len cap (by decide) H1.1.2.2).mono ?_;rintro e w2 ⟨xi, hi0, hi1, rfl, hc, hg⟩;have HI : Hid (-9223372036854775808 <= xi /\ xi <= 9223372036854775807) := ⟨by omega, by omega⟩;have H2 := zH (zJ (Cs.draw (show Cs B w w1 w1 c a0 len cap from H1.1) hc hg) (zJ (H1.2.1.grown hg (fun e => by have := Option.some.inj e; have := H1.2.2; omega) : Blk w2 w.heap.size 26 #[zG ⟨#[]⟩, zI 0, zI 0, zI 0, zI 0, zZ, zG ⟨#[]⟩]) H1.2.2));clear hc hg H1 hi0 hi1;go_wp2_with fail;refine (l10Any_any B w2 c a0 len cap H2.1.2.2).mono ?_;rintro e wx ⟨u2, x, rfl, hu2, hmx, hc, hg⟩;obtain ⟨pX, qX, huX⟩ := hu2.at.shape;subst huX;have HM : Hid (MdL x) := hmx;have HX := zH (zJ (⟨(H2.1.draw hc hg).all, H2.2.1.grown hg (fun e => by have := Option.some.inj e; have := H2.2.2; omega)⟩ : (zW w wx /\ Blk wx w.heap.size 26 #[zG ⟨#[]⟩, zI 0, zI 0, zI 0, zI 0, zZ, zG ⟨#[]⟩])) (zJ (hu2 : OwnL wx w2.heap.size (clV x (zS pX x.revs.length qX)) x) H2.2.1.lt));clear hu2 hmx hc hg H2;obtain ⟨V, hV⟩ : ∃ V, V = wx.setCells w.heap.size 0 (zCl x (zS pX x.revs.length qX)).toList := ⟨_, rfl⟩
 have HF : Hid (zW w V /\ Blk V w.heap.size 26 (zCl x (zS pX x.revs.length qX)) /\ OwnL V w.heap.size (clV x (zS pX x.revs.length qX)) x) := by
  have ho : Out [w.heap.size] wx V := by rw [hV]; exact setCells_out _ _ _ _
  refine ⟨HX.1.1.trans (ho.below (fun b hb => by rw [List.mem_singleton.1 hb]; exact Nat.le_refl _) HX.1.1.size), by rw [hV]; exact HX.1.2.setAll rfl, (OwnL.out HX.2.1 ho (fun b hb hm => ?_)).base (Nat.le_of_lt HX.2.2)⟩;have h1 := (fpL_lt HX.2.1 b hb).1;have h2 := List.mem_singleton.1 hm;have h3 := HX.2.2;omega
 have hth := HX.1.2.there (n := 7) rfl;unfold clV;clear HX;go_wp2_with (refine step_storeV rfl 26 _ _ rfl w.heap.size 0 #[zG x.issuer, zI x.num, zI x.ths, zI x.nxt, zI x.bas, zS pX x.revs.length qX, zG x.sig] rfl rfl hth (by kernel_rfl) (by simp [Value.oneCell']) hV ?_; clear hV hth);have r0 := fun j => HF.2.1.cell j
 go_wp2_with fail;refine bodyPost_ret (v := .tuple #[.agg (zCl x (zS pX x.revs.length qX)), zI xi]) (by simp [results, Tryz.results10, go_sem, r0]; try rfl) rfl ?_;exact ⟨_, x, xi, rfl, HF.2.2, HM.out, HI.out, HF.1⟩
theorem drawListed_any (B : Nat) (w : World) (a0 : Option Addr) (len cap : Nat) (hl : len <= 1048576) (hB : B <= w.heap.size) (hcode : CodeAt B w a0 len) :
  Calls Tryz.prog 13 #[zS a0 len cap] w fun e w' => ScPost w e w' := by
 obtain ⟨W0, hW0⟩ : ∃ V, V = w.alloc (Obj.cells #[zG ⟨#[]⟩, zI 0, zI 0, zI 0, zI 0, zZ, zG ⟨#[]⟩] 26) := ⟨_, rfl⟩;have H0 : Hid (zW w W0 /\ Blk W0 w.heap.size 26 #[zG ⟨#[]⟩, zI 0, zI 0, zI 0, zI 0, zZ, zG ⟨#[]⟩]) := by rw [hW0]; exact ⟨(Below.refl _ _).alloc (Nat.le_refl _) _, Blk.new _ _ _⟩
 have HN := l01New_any B W0 a0 len cap hl (Nat.le_trans hB H0.1.size) (hcode.below (H0.1.mono hB));clear hl hB hcode;go_enter Tryz.func13, Tryz.ntmps13;go_upto_region 1 with fail;rw [<- hW0];clear hW0;go_wp2_with fail;refine HN.mono ?_;rintro e w1 ⟨c, rfl, hC, hbw, hcw⟩;have H1 := zH (zJ (⟨⟨H0.1.trans (hbw.mono H0.1.size), Nat.le_trans H0.1.size hcw⟩, grownBy_refl _ _, hC⟩ : Cs B w w1 w1 c a0 len cap) (zJ (H0.2.below hbw H0.2.lt) (Nat.lt_of_lt_of_le H0.2.lt hcw)));clear hC hbw hcw HN H0;go_wp2_with fail;refine (l01Below_any 7 B w1 c a0 len cap (by decide) H1.1.2.2).mono ?_;rintro e w2 ⟨xi, hi0, hi1, -, rfl, hc, hg⟩;have HI : Hid (-9223372036854775808 <= xi /\ xi <= 9223372036854775807) := ⟨by omega, by omega⟩;have H2 := zH (zJ (Cs.draw (show Cs B w w1 w1 c a0 len cap from H1.1) hc hg) (zJ (H1.2.1.grown hg (fun e => by have := Option.some.inj e; have := H1.2.2; omega) : Blk w2 w.heap.size 26 #[zG ⟨#[]⟩, zI 0, zI 0, zI 0, zI 0, zZ, zG ⟨#[]⟩]) H1.2.2));clear hc hg H1 hi0 hi1;go_wp2_with fail;refine (l10Any_any B w2 c a0 len cap H2.1.2.2).mono ?_;rintro e wx ⟨u2, x, rfl, hu2, hmx, hc, hg⟩;obtain ⟨pX, qX, huX⟩ := hu2.at.shape;subst huX;have HM : Hid (MdL x) := hmx;have HX := zH (zJ (⟨(H2.1.draw hc hg).all, H2.2.1.grown hg (fun e => by have := Option.some.inj e; have := H2.2.2; omega)⟩ : (zW w wx /\ Blk wx w.heap.size 26 #[zG ⟨#[]⟩, zI 0, zI 0, zI 0, zI 0, zZ, zG ⟨#[]⟩])) (zJ (hu2 : OwnL wx w2.heap.size (clV x (zS pX x.revs.length qX)) x) H2.2.1.lt));clear hu2 hmx hc hg H2;obtain ⟨V, hV⟩ : ∃ V, V = wx.setCells w.heap.size 0 (zCl x (zS pX x.revs.length qX)).toList := ⟨_, rfl⟩
 have HF : Hid (zW w V /\ Blk V w.heap.size 26 (zCl x (zS pX x.revs.length qX)) /\ OwnL V w.heap.size (clV x (zS pX x.revs.length qX)) x) := by
  have ho : Out [w.heap.size] wx V := by rw [hV]; exact setCells_out _ _ _ _
  refine ⟨HX.1.1.trans (ho.below (fun b hb => by rw [List.mem_singleton.1 hb]; exact Nat.le_refl _) HX.1.1.size), by rw [hV]; exact HX.1.2.setAll rfl, (OwnL.out HX.2.1 ho (fun b hb hm => ?_)).base (Nat.le_of_lt HX.2.2)⟩;have h1 := (fpL_lt HX.2.1 b hb).1;have h2 := List.mem_singleton.1 hm;have h3 := HX.2.2;omega
 have hth := HX.1.2.there (n := 7) rfl;unfold clV;clear HX;go_wp2_with (refine step_storeV rfl 26 _ _ rfl w.heap.size 0 #[zG x.issuer, zI x.num, zI x.ths, zI x.nxt, zI x.bas, zS pX x.revs.length qX, zG x.sig] rfl rfl hth (by kernel_rfl) (by simp [Value.oneCell']) hV ?_; clear hV hth);have r0 := fun j => HF.2.1.cell j
 go_wp2_with fail;refine bodyPost_ret (v := .tuple #[.agg (zCl x (zS pX x.revs.length qX)), zI xi]) (by simp [results, Tryz.results13, go_sem, r0]; try rfl) rfl ?_;exact ⟨_, x, xi, rfl, HF.2.2, HM.out, HI.out, HF.1⟩
theorem drawReadCrl_any (B : Nat) (w : World) (a0 : Option Addr) (len cap : Nat) (hl : len <= 1048576) (hB : B <= w.heap.size) (hcode : CodeAt B w a0 len) :
  Calls Tryz.prog 8 #[zS a0 len cap] w fun e w' => RcPost2 w e w' := by
 have HN := l01New_any B w a0 len cap hl hB hcode;clear hl hB hcode;go_enter Tryz.func8, Tryz.ntmps8;go_wp2_with fail;refine HN.mono ?_;rintro e w1 ⟨c, rfl, hC, hbw, hcw⟩;have H1 : Hid (Cs B w w1 w1 c a0 len cap) := ⟨⟨hbw, hcw⟩, grownBy_refl _ _, hC⟩;clear hC hbw hcw HN;go_wp2_with fail;refine (l01Below_any 4 B w1 c a0 len cap (by decide) H1.2.2).mono ?_;rintro e w2 ⟨xk, hk0, hk1, -, rfl, hc, hg⟩;have H2 : Hid (Cs B w w1 w2 c a0 len cap) := H1.out.draw hc hg;clear hc hg H1 hk1;go_wp2_with fail;refine (l10Any_any B w2 c a0 len cap H2.2.2).mono ?_;rintro e w3 ⟨u2, x, rfl, hu2, hmx, hc, hg⟩;have H3 : Hid (Cs B w w1 w3 c a0 len cap) := H2.out.draw hc hg;have ET := specCrlText_any x u2 w3 (Nat.le_trans hmx.wt (by decide)) hmx.wd hu2.at
 obtain ⟨pX, qX, huX⟩ := hu2.at.shape;subst huX;unfold clV at ET |-;obtain ⟨T, hT⟩ : ∃ q : ByteArray, (⟨((ltxt x).getD []).toArray⟩ : ByteArray) = q := ⟨_, rfl⟩;obtain ⟨BT, hBT⟩ := zE ((ltxt x).isSome);have HTS : Hid (T.size <= 4000) := by show _ <= _; rw [<- hT]; exact ltxt_len x
 rw [hT, hBT] at ET;clear hu2 hmx hc hg H2 hT hBT;go_wp2_with fail;refine ET.mono ?_;rintro e w4 ⟨rfl, hb4⟩;have H4 : Hid (Cs B w w1 w4 c a0 len cap) := H3.out.on hb4;clear hb4 H3 ET;by_cases hk : xk = 0
 ·subst hk
  go_wp2_with fail;refine (l02Spoilt_any T B w4 c a0 len cap (Nat.le_trans HTS.out (by decide)) H4.2.2).mono ?_;rintro e w5 ⟨t, rfl, hts, hc, hg⟩;have H5 : Hid (zW w w5 /\ t.size <= 100000) := ⟨(H4.out.draw hc hg).all, by have := HTS.out; omega⟩;clear hc hg hts H4;go_wp2_with fail;go_ret;exact ⟨t, rfl, H5.2, H5.1⟩
 ·go_wp2_with fail
  go_ret;exact ⟨T, rfl, Nat.le_trans HTS.out (by decide), H4.out.all⟩
end Go.Proofs.YtcbjlbpkoneibaaGreatDoor
