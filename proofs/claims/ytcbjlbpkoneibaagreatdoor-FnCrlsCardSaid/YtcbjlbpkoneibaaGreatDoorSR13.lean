/-
  Texts of the proof.
-/
import Derived.Deep.RegionHeld3
import Derived.Test.YtcbjlbpkoneibaaGreatDoorSR12
set_option linter.unusedVariables false
set_option linter.unusedSimpArgs false
set_option maxRecDepth 100000
set_option maxHeartbeats 25600000
namespace Go.Proofs.YtcbjlbpkoneibaaGreatDoor
open Go.RowKit Der
def KH (w W : World) (a : Array Value) : Prop := zW w W /\ Blk W w.heap.size 53 a
theorem KH.below {w W W' : World} {a : Array Value} (h : KH w W a) (hb : zW W W') : KH w W' a := ⟨h.1.trans (hb.mono h.1.size), h.2.below hb h.2.lt⟩
theorem head_row {W W' : World} {b : Nat} {c : Cl} (hb : b <= W.heap.size) (hW : W' = W.alloc (.cells (zI 12 :: zG c.issuer :: zZ :: zI 2 :: zG ⟨(intT (numN c.num)).toArray⟩ :: zZ :: zI 2 :: zG ⟨(intT (numN c.ths)).toArray⟩ :: zZ :: zI 2 :: zG ⟨(intT (numN c.nxt)).toArray⟩ :: zZ :: zI 2 :: zG ⟨(intT (numN c.bas)).toArray⟩ :: zZ :: []).toArray 50)) : GrowK W' b 2 (zS (some ⟨W.heap.size, 0, none⟩) 5 5) (headL c) := by
 have nn := own_none W b 2;have R : RowsK W b 2 (headL c) [zZ, zZ, zZ, zZ, zZ] [[], [], [], [], []] := ⟨nn, nn, nn, nn, nn, trivial⟩;exact R.grow (W' := W') (cap := 5) hb (by simp) (by show 5 <= 1000; decide) rfl (by rw [hW]; rfl)
theorem headItems_any (c : Cl) (w : World) (hz : c.issuer.size <= 20000000) (hw : Wd [c.num, c.ths, c.nxt, c.bas]) : Calls Tryz.prog 63 #[hdV c] w fun e w' => ∃ q, e = .returned (zS (some ⟨q, 0, none⟩) 5 5) /\ GrowK w' w.heap.size 2 (zS (some ⟨q, 0, none⟩) 5 5) (headL c) /\ zW w w' := by
 have w1 := hw c.num (by simp);have w2 := hw c.ths (by simp);have w3 := hw c.nxt (by simp);have w4 := hw c.bas (by simp);have HW : Hid (c.issuer.size <= 20000000 /\ (-9223372036854775808 <= c.num /\ c.num <= 9223372036854775807) /\ (-9223372036854775808 <= c.ths /\ c.ths <= 9223372036854775807) /\ (-9223372036854775808 <= c.nxt /\ c.nxt <= 9223372036854775807) /\ (-9223372036854775808 <= c.bas /\ c.bas <= 9223372036854775807)) := ⟨hz, w1, w2, w3, w4⟩;clear hz hw w1 w2 w3 w4;unfold hdV;go_enter Tryz.func63, Tryz.ntmps63;go_wp2_with fail;obtain ⟨W0, hW0⟩ : ∃ W, W = w.alloc (Obj.cells #[zG c.issuer, zI c.num, zI c.ths, zI c.nxt, zI c.bas] 53) := ⟨_, rfl⟩;rw [<- hW0];have H0 : KH w W0 #[zG c.issuer, zI c.num, zI c.ths, zI c.nxt, zI c.bas] := by rw [hW0]; exact ⟨(Below.refl _ _).alloc (Nat.le_refl _) _, Blk.new w _ _⟩
 clear hW0;refine wp_region_held_drew (S := fun W => KH w W #[zG c.issuer, zI c.num, zI c.ths, zI c.nxt, zI c.bas]) (by kernel_rfl) (KH.below H0 ((Below.refl _ _).drew)) (fun hHeld => ?_);clear H0;refine zQ 0 3 rfl hHeld ?_;refine zT 1 4 ?_ rfl (by rfl) ?_ hHeld ?_;rotate_left
 ·intro W hSw
  have l0 := fun j => hSw.2.cell j
  go_simp
  try with_reducible rfl
 refine zQ 3 6 rfl hHeld ?_;refine zT 4 7 ?_ rfl (by rfl) ?_ hHeld ?_;rotate_left
 ·intro W hSw
  have l0 := fun j => hSw.2.cell j
  go_simp
  try with_reducible rfl
 refine zQ 6 9 rfl hHeld ?_;refine zT 7 10 ?_ rfl (by rfl) ?_ hHeld ?_;rotate_left
 ·intro W hSw
  have l0 := fun j => hSw.2.cell j
  go_simp
  try with_reducible rfl
 refine zQ 9 12 rfl hHeld ?_;refine zT 10 13 ?_ rfl (by rfl) ?_ hHeld ?_;rotate_left
 ·intro W hSw
  have l0 := fun j => hSw.2.cell j
  go_simp
  try with_reducible rfl
 refine zQ 12 15 rfl hHeld ?_;refine zT 13 16 ?_ rfl (by rfl) ?_ hHeld ?_;rotate_left
 ·intro W hSw
  have l0 := fun j => hSw.2.cell j
  go_simp
  try with_reducible rfl
 refine zR 2 5 rfl fun K hK => ?_
 go_simp;refine (implTextItem_any c.issuer _ HW.1).mono ?_;rintro e v1 ⟨rfl, hv⟩;have hH := KH.below hHeld hv;go_wp2_with fail;refine hK.out _ _ hH (fun hHeld => ?_);clear hK K hH hv;refine zR 5 8 rfl fun K hK => ?_
 go_simp;refine (implIntItem_any c.num _ HW.2.1).mono ?_;rintro e v2 ⟨rfl, hv⟩;have hH := KH.below hHeld hv;go_wp2_with fail;refine hK.out _ _ hH (fun hHeld => ?_);clear hK K hH hv;refine zR 8 11 rfl fun K hK => ?_
 go_simp;refine (implIntItem_any c.ths _ HW.2.2.1).mono ?_;rintro e v3 ⟨rfl, hv⟩;have hH := KH.below hHeld hv;go_wp2_with fail;refine hK.out _ _ hH (fun hHeld => ?_);clear hK K hH hv;refine zR 11 14 rfl fun K hK => ?_
 go_simp;refine (implIntItem_any c.nxt _ HW.2.2.2.1).mono ?_;rintro e v4 ⟨rfl, hv⟩;have hH := KH.below hHeld hv;go_wp2_with fail;refine hK.out _ _ hH (fun hHeld => ?_);clear hK K hH hv;refine zR 14 17 rfl fun K hK => ?_
 go_simp;refine (implIntItem_any c.bas _ HW.2.2.2.2).mono ?_;rintro e v5 ⟨rfl, hv⟩;have hH := KH.below hHeld hv;go_wp2_with fail;refine hK.out _ _ hH (fun hHeld => ?_);clear hK K hH hv;refine zR 15 18 rfl fun K hK => ?_
 have HF : Hid (GrowK (v5.alloc (Obj.cells (zI 12 :: zG c.issuer :: zZ :: zI 2 :: zG ⟨(intT (numN c.num)).toArray⟩ :: zZ :: zI 2 :: zG ⟨(intT (numN c.ths)).toArray⟩ :: zZ :: zI 2 :: zG ⟨(intT (numN c.nxt)).toArray⟩ :: zZ :: zI 2 :: zG ⟨(intT (numN c.bas)).toArray⟩ :: zZ :: []).toArray 50)) w.heap.size 2 (zS (some ⟨v5.heap.size, 0, none⟩) 5 5) (headL c)) := head_row hHeld.1.size rfl;go_simp;refine hK.out _ _ (KH.below hHeld ((Below.refl _ _).alloc (Nat.le_refl _) _)) (fun hHeld => ?_);clear hK K;obtain ⟨W9, hW9⟩ : ∃ W, W = v5.alloc (Obj.cells (zI 12 :: zG c.issuer :: zZ :: zI 2 :: zG ⟨(intT (numN c.num)).toArray⟩ :: zZ :: zI 2 :: zG ⟨(intT (numN c.ths)).toArray⟩ :: zZ :: zI 2 :: zG ⟨(intT (numN c.nxt)).toArray⟩ :: zZ :: zI 2 :: zG ⟨(intT (numN c.bas)).toArray⟩ :: zZ :: []).toArray 50) := ⟨_, rfl⟩;obtain ⟨q9, hq9⟩ := zE (v5.heap.size);rw [<- hW9] at HF hHeld |-;rw [hq9] at HF |-;clear hW9 hq9;refine zQ 16 2 rfl hHeld ?_;refine wpAnyH_done (by kernel_rfl) ?_ _;have HEND : Hid (zW w _) := hHeld.1;clear hHeld;go_wp2_with fail;go_ret;exact ⟨q9, rfl, HF.out, HEND.out⟩
def KJ (w W : World) (a : Array Value) : Prop := zW w W /\ Blk W w.heap.size 55 a /\ ∃ x y z, Blk3 W (w.heap.size + 1) x y z
theorem KJ.below {w W W' : World} {a : Array Value} (h : KJ w W a) (hb : zW W W') : KJ w W' a := by
 obtain ⟨h1, h2, x, y, z, h3⟩ := h;exact ⟨h1.trans (hb.mono h1.size), h2.below hb h2.lt, x, y, z, h3.below hb⟩
theorem KJ.grown {w W W' : World} {a : Array Value} {row : Option Nat} (h : KJ w W a) (hg : W.grownBy W' row) (hr : ∀ q, row = some q -> w.heap.size + 2 <= q) : KJ w W' a := by
 obtain ⟨h1, h2, x, y, z, h3⟩ := h;exact ⟨h1.grown hg h1.size (fun q hq => by have := hr q hq; omega), (hg.block _ h2.lt (fun e => by have := hr _ e.symm; omega)).trans h2, x, y, z, h3.grown hg (fun e => by have := hr _ e.symm; omega)⟩
theorem KJ.size {w W : World} {a : Array Value} (h : KJ w W a) : w.heap.size + 2 <= W.heap.size := by
 obtain ⟨_, _, x, y, z, h3⟩ := h;have := h3.lt;omega
theorem KJ.set {w W : World} {a : Array Value} (h : KJ w W a) (p q r : Value) : KJ w (((W.setCell ⟨w.heap.size + 1, 0, none⟩ p).setCell ⟨w.heap.size + 1, 1, none⟩ q).setCell ⟨w.heap.size + 1, 2, none⟩ r) a := by
 obtain ⟨h1, h2, x, y, z, h3⟩ := h;refine ⟨((h1.setCell (p := ⟨w.heap.size + 1, 0, none⟩) (Nat.le_succ _) _).setCell (p := ⟨w.heap.size + 1, 1, none⟩) (Nat.le_succ _) _).setCell (p := ⟨w.heap.size + 1, 2, none⟩) (Nat.le_succ _) _, ?_, p, q, r, ?_⟩
 ·have ne : w.heap.size ≠ w.heap.size + 1 := by omega
  exact ((h2.other _ ne).other _ ne).other _ ne
 ·have e := (((show Blk W (w.heap.size + 1) 50 #[x, y, z] from h3).set 0 p).set 1 q).set 2 r
  exact e
theorem KJ.start (w : World) (a : Array Value) (x y z : Value) (W : World) (hW : W = (w.alloc (Obj.cells a 55)).alloc (Obj.cells #[x, y, z] 50)) : KJ w W a := by
 have e0 : (w.alloc (Obj.cells a 55)).heap.size = w.heap.size + 1 := Array.size_push _;have hb : zW w W := by rw [hW]; exact ((Below.refl _ _).alloc (Nat.le_refl _) _).alloc (by rw [e0]; omega) _
 refine ⟨hb, ?_, x, y, z, ?_⟩
 ·rw [hW]; exact (Blk.new w _ _).alloc _
 ·rw [hW]
  have h := heap_alloc_new (w.alloc (Obj.cells a 55)) (Obj.cells #[x, y, z] 50);rw [e0] at h;exact h
theorem tidItem_any (c : Cl) (pa : Option Addr) (lp pc : Nat) (w : World) (hz : wtL c <= 20000000) (hw : WdL c) (ha : RevAt w (zS pa lp pc) c.revs) : Calls Tryz.prog 29 #[tdV c (zS pa lp pc)] w fun e w' => ToIt w 3 (bodyL c) e w' := by
 obtain ⟨z1, z2, z3⟩ := wtL_parts hz;have HW := zH (zJ (z1 : c.issuer.size <= 20000000) (zJ hw.1 (zJ (z2 : c.revs.length <= 20000000) hw.2.1)));have HL : Hid (RevAt w (zS pa lp pc) c.revs) := ha;clear hz hw ha z1 z2 z3;unfold tdV;go_enter Tryz.func29, Tryz.ntmps29;go_wp2_with fail;obtain ⟨W0, hW0⟩ : ∃ W, W = (w.alloc (Obj.cells #[zG c.issuer, zI c.num, zI c.ths, zI c.nxt, zI c.bas, zS pa lp pc] 55)).alloc (Obj.cells #[Value.int IntKind.i64 0, Value.string ⟨#[]⟩, Value.slice none 0 0] 50) := ⟨_, rfl⟩;rw [<- hW0];have H0 : KJ w W0 #[zG c.issuer, zI c.num, zI c.ths, zI c.nxt, zI c.bas, zS pa lp pc] := KJ.start w _ _ _ _ W0 hW0;clear hW0;refine wp_region_held_drew (S := fun W => KJ w W #[zG c.issuer, zI c.num, zI c.ths, zI c.nxt, zI c.bas, zS pa lp pc]) (by kernel_rfl) (KJ.below H0 ((Below.refl _ _).drew)) (fun hHeld => ?_);clear H0;generalize W0.drew = Wd0 at hHeld |-;refine zQ 0 3 rfl hHeld ?_;refine zT 1 4 ?_ rfl (by rfl) ?_ hHeld ?_;rotate_left
 ·intro W hSw
  have l0 : W.cell? ⟨w.heap.size, 0, none⟩ = some (zG c.issuer) := hSw.2.1.cell 0;have l1 : W.cell? ⟨w.heap.size, 1, none⟩ = some (zI c.num) := hSw.2.1.cell 1;have l2 : W.cell? ⟨w.heap.size, 2, none⟩ = some (zI c.ths) := hSw.2.1.cell 2;have l3 : W.cell? ⟨w.heap.size, 3, none⟩ = some (zI c.nxt) := hSw.2.1.cell 3;have l4 : W.cell? ⟨w.heap.size, 4, none⟩ = some (zI c.bas) := hSw.2.1.cell 4;go_simp
  try with_reducible rfl
 refine zQ 3 6 rfl hHeld ?_;refine zT 4 7 ?_ rfl (by rfl) ?_ hHeld ?_;rotate_left
 ·intro W hSw
  have l0 : W.cell? ⟨w.heap.size, 5, none⟩ = some (zS pa lp pc) := hSw.2.1.cell 5;go_simp
  try with_reducible rfl
 refine zR 2 5 rfl fun K hK => ?_
 have HS0 : Hid (w.heap.size + 2 <= Wd0.heap.size) := KJ.size hHeld;go_simp;refine (headItems_any c _ HW.1 HW.2.1).mono ?_;rintro e v1 ⟨q1, rfl, hG1, hv⟩;have hH := KJ.below hHeld hv;have HG1 := zH (zJ (hG1 : GrowK v1 Wd0.heap.size 2 (zS (some ⟨q1, 0, none⟩) 5 5) (headL c)) hv.size);go_wp2_with fail;refine hK.out _ _ hH (fun hHeld => ?_);clear hK K hH hv hG1;refine zR 5 8 rfl fun K hK => ?_
 go_simp;refine (rowRev_any c.revs _ _ HW.2.2.1 HW.2.2.2 (HL.below hHeld.1)).mono ?_;intro e v2 hto;obtain ⟨a2, l2, x2, f2, rfl, ho2, hv⟩ := to_any hto;clear hto;have hH := KJ.below hHeld hv;have H2 : Hid (OwnK v2 v1.heap.size 2 (zS a2 l2 x2) (c.revs.map revI) f2 /\ zW v1 v2) := ⟨ho2, hv⟩;go_wp2_with fail;refine hK.out _ _ hH (fun hHeld => ?_);clear hK K hH hv ho2;refine zR 6 9 rfl fun K hK => ?_
 go_simp;refine hK.out _ _ (KJ.below hHeld ((Below.refl _ _).alloc (Nat.le_refl _) _)) (fun hHeld => ?_);clear hK K;refine zR 7 10 rfl fun K hK => ?_
 refine step_append_item0 (o := ⟨some 10, _, _, _, _, _⟩) rfl (.tmp 5) (.tmp 9) rfl Wd0.heap.size 2 (zS (some ⟨q1, 0, none⟩) 5 5) (headL c) (lstJ (c.revs.map revI)) 48 ⟨#[]⟩ (zS a2 l2 x2) f2 rfl rfl (by rfl) v2.heap.size (by rfl) rfl HG1.1 H2.2 H2.1 HG1.2 (by show 5 <= 1000000000; decide) ?_;intro g6 cap6 w6 hG6 hgrow6;have hrl := fun q hq => (HG1.1.lt q hq).1
 have hH : KJ w w6 #[zG c.issuer, zI c.num, zI c.ths, zI c.nxt, zI c.bas, zS pa lp pc] := KJ.grown hHeld hgrow6 (fun q hq => Nat.le_trans HS0.out (hrl q hq));have HF : Hid (∃ fp, OwnK w6 Wd0.heap.size 3 (zS (some ⟨g6, 0, none⟩) 6 cap6) (It.kids (bodyL c)) fp) := hG6.own;clear hG6 hgrow6 hrl HG1 H2;refine hK.out _ _ hH (fun hHeld => ?_);clear hK K hH;refine zQ 8 11 rfl hHeld ?_;refine zN 9 rfl fun K hK => ?_
 obtain ⟨x9, y9, z9, hB9⟩ := hHeld.2.2;obtain ⟨⟨r0, r1, r2⟩, rf⟩ := cell_in hB9;go_simp;refine hK.out _ _ (KJ.set hHeld _ _ _) (fun hHeld => ?_);clear hK K;refine wpAnyH_done (by kernel_rfl) ?_ _;have HEND : Hid (zW w _) := hHeld.1;clear hHeld;go_wp2_with fail;refine bodyPost_ret (v := .agg #[zI 48, zG ⟨#[]⟩, zS (some ⟨g6, 0, none⟩) 6 cap6]) (by simp [results, Tryz.results29, go_sem, r0, r1, r2]; try rfl) rfl ?_;obtain ⟨fp, hfp⟩ := HF.out;refine ⟨zS (some ⟨g6, 0, none⟩) 6 cap6, fp, rfl, ?_, HEND.out⟩;refine OwnK.base (base := Wd0.heap.size) (by have := HS0.out; omega) (hfp.same fun b hb => ?_);have h1 := (OwnK.lt hfp b hb).1;have h2 := HS0.out;rw [heap_setCell_other _ _ _ _ (by show b ≠ w.heap.size + 1; omega), heap_setCell_other _ _ _ _ (by show b ≠ w.heap.size + 1; omega), heap_setCell_other _ _ _ _ (by show b ≠ w.heap.size + 1; omega)]
end Go.Proofs.YtcbjlbpkoneibaaGreatDoor
