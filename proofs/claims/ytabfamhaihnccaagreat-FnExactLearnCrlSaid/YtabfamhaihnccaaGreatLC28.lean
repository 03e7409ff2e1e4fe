/-
  Texts of the proof.
-/
import Derived.Deep.RegionHeld3
import Derived.Test.YtabfamhaihnccaaGreatLC27
set_option linter.unusedVariables false
set_option linter.unusedSimpArgs false
set_option maxRecDepth 100000
set_option maxHeartbeats 25600000
namespace Go.Proofs.YtabfamhaihnccaaGreat
open Go.RowKit Der
def KH (w W : World) (a : Array Value) : Prop := zW w W /\ Blk W w.heap.size 188 a
theorem KH.below {w W W' : World} {a : Array Value} (h : KH w W a) (hb : zW W W') : KH w W' a := ⟨h.1.trans (hb.mono h.1.size), h.2.below hb h.2.lt⟩
theorem head_row {W W' : World} {b : Nat} {c : Cl} (hb : b <= W.heap.size) (hW : W' = W.alloc (.cells (zI 12 :: zG c.issuer :: zZ :: zI 2 :: zG ⟨(intT (numN c.num)).toArray⟩ :: zZ :: zI 2 :: zG ⟨(intT (numN c.ths)).toArray⟩ :: zZ :: zI 2 :: zG ⟨(intT (numN c.nxt)).toArray⟩ :: zZ :: zI 2 :: zG ⟨(intT (numN c.bas)).toArray⟩ :: zZ :: []).toArray 178)) : GrowK W' b 2 (zS (some ⟨W.heap.size, 0, none⟩) 5 5) (headL c) := by
 have nn := own_none W b 2;have R : RowsK W b 2 (headL c) [zZ, zZ, zZ, zZ, zZ] [[], [], [], [], []] := ⟨nn, nn, nn, nn, nn, trivial⟩;exact R.grow (W' := W') (cap := 5) hb (by simp) (by show 5 <= 1000; decide) rfl (by rw [hW]; rfl)
theorem headItems_any (c : Cl) (w : World) (hz : c.issuer.size <= 20000000) (hw : Wd [c.num, c.ths, c.nxt, c.bas]) : Calls Tryz.prog 171 #[hdV c] w fun e w' => ∃ q, e = .returned (zS (some ⟨q, 0, none⟩) 5 5) /\ GrowK w' w.heap.size 2 (zS (some ⟨q, 0, none⟩) 5 5) (headL c) /\ zW w w' := by
 have w1 := hw c.num (by simp);have w2 := hw c.ths (by simp);have w3 := hw c.nxt (by simp);have w4 := hw c.bas (by simp);have HW : Hid (c.issuer.size <= 20000000 /\ (-9223372036854775808 <= c.num /\ c.num <= 9223372036854775807) /\ (-9223372036854775808 <= c.ths /\ c.ths <= 9223372036854775807) /\ (-9223372036854775808 <= c.nxt /\ c.nxt <= 9223372036854775807) /\ (-9223372036854775808 <= c.bas /\ c.bas <= 9223372036854775807)) := ⟨hz, w1, w2, w3, w4⟩;clear hz hw w1 w2 w3 w4;unfold hdV;go_enter Tryz.func171, Tryz.ntmps171;go_wp2_with fail;obtain ⟨W0, hW0⟩ : ∃ W, W = w.alloc (Obj.cells #[zG c.issuer, zI c.num, zI c.ths, zI c.nxt, zI c.bas] 188) := ⟨_, rfl⟩;rw [<- hW0];have H0 : KH w W0 #[zG c.issuer, zI c.num, zI c.ths, zI c.nxt, zI c.bas] := by rw [hW0]; exact ⟨(Below.refl _ _).alloc (Nat.le_refl _) _, Blk.new w _ _⟩
 clear hW0;refine wp_region_held_drew (S := fun W => KH w W #[zG c.issuer, zI c.num, zI c.ths, zI c.nxt, zI c.bas]) (by kernel_rfl) (KH.below H0 ((Below.refl _ _).drew)) (fun hHeld => ?_);clear H0;refine zQ 0 3 rfl hHeld ?_;refine zT 1 4 ?_ rfl (by rfl) ?_ hHeld ?_;rotate_left
 ·intro W hSw
  have l0 := fun j => hSw.2.cell j
  go_simp
  try with_reducible rfl
 refine zQ 3 6 rfl hHeld ?_;refine zT 4 7 ?_ rfl (by rfl) ?_ hHeld ?_;rotate_left
 ·intro W hSw
  have l0 := fun j => hSw.2.cell j
  go_simp
  try with_reducible rfl
 refine zQ 6 9 rfl hHeld ?_;refine zT 7 10 ?_ rfl (by rfl) ?_ hHeld ?_;rotate_left
 ·intro W hSw
  have l0 := fun j => hSw.2.cell j
  go_simp
  try with_reducible rfl
 refine zQ 9 12 rfl hHeld ?_;refine zT 10 13 ?_ rfl (by rfl) ?_ hHeld ?_;rotate_left
 ·intro W hSw
  have l0 := fun j => hSw.2.cell j
  go_simp
  try with_reducible rfl
 refine zQ 12 15 rfl hHeld ?_;refine zT 13 16 ?_ rfl (by rfl) ?_ hHeld ?_;rotate_left
 ·intro W hSw
  have l0 := fun j => hSw.2.cell j
  go_simp
  try with_reducible rfl
 refine zR 2 5 rfl fun K hK => ?_
 go_simp;refine (implTextItem_any c.issuer _ HW.1).mono ?_;rintro e v1 ⟨rfl, hv⟩;have hH := KH.below hHeld hv;go_wp2_with fail;refine hK.out _ _ hH (fun hHeld => ?_);clear hK K hH hv;refine zR 5 8 rfl fun K hK => ?_
 go_simp;refine (implIntItem_any c.num _ HW.2.1).mono ?_;rintro e v2 ⟨rfl, hv⟩;have hH := KH.below hHeld hv;go_wp2_with fail;refine hK.out _ _ hH (fun hHeld => ?_);clear hK K hH hv;refine zR 8 11 rfl fun K hK => ?_
 go_simp;refine (implIntItem_any c.ths _ HW.2.2.1).mono ?_;rintro e v3 ⟨rfl, hv⟩;have hH := KH.below hHeld hv;go_wp2_with fail;refine hK.out _ _ hH (fun hHeld => ?_);clear hK K hH hv;refine zR 11 14 rfl fun K hK => ?_
 go_simp;refine (implIntItem_any c.nxt _ HW.2.2.2.1).mono ?_;rintro e v4 ⟨rfl, hv⟩;have hH := KH.below hHeld hv;go_wp2_with fail;refine hK.out _ _ hH (fun hHeld => ?_);clear hK K hH hv;refine zR 14 17 rfl fun K hK => ?_
 go_simp;refine (implIntItem_any c.bas _ HW.2.2.2.2).mono ?_;rintro e v5 ⟨rfl, hv⟩;have hH := KH.below hHeld hv;go_wp2_with fail;refine hK.out _ _ hH (fun hHeld => ?_);clear hK K hH hv;refine zR 15 18 rfl fun K hK => ?_
 have HF : Hid (GrowK (v5.alloc (Obj.cells (zI 12 :: zG c.issuer :: zZ :: zI 2 :: zG ⟨(intT (numN c.num)).toArray⟩ :: zZ :: zI 2 :: zG ⟨(intT (numN c.ths)).toArray⟩ :: zZ :: zI 2 :: zG ⟨(intT (numN c.nxt)).toArray⟩ :: zZ :: zI 2 :: zG ⟨(intT (numN c.bas)).toArray⟩ :: zZ :: []).toArray 178)) w.heap.size 2 (zS (some ⟨v5.heap.size, 0, none⟩) 5 5) (headL c)) := head_row hHeld.1.size rfl;go_simp;refine hK.out _ _ (KH.below hHeld ((Below.refl _ _).alloc (Nat.le_refl _) _)) (fun hHeld => ?_);clear hK K;obtain ⟨W9, hW9⟩ : ∃ W, W = v5.alloc (Obj.cells (zI 12 :: zG c.issuer :: zZ :: zI 2 :: zG ⟨(intT (numN c.num)).toArray⟩ :: zZ :: zI 2 :: zG ⟨(intT (numN c.ths)).toArray⟩ :: zZ :: zI 2 :: zG ⟨(intT (numN c.nxt)).toArray⟩ :: zZ :: zI 2 :: zG ⟨(intT (numN c.bas)).toArray⟩ :: zZ :: []).toArray 178) := ⟨_, rfl⟩;obtain ⟨q9, hq9⟩ := zE (v5.heap.size);rw [<- hW9] at HF hHeld |-;rw [hq9] at HF |-;clear hW9 hq9;refine zQ 16 2 rfl hHeld ?_;refine wpAnyH_done (by kernel_rfl) ?_ _;have HEND : Hid (zW w _) := hHeld.1;clear hHeld;go_wp2_with fail;go_ret;exact ⟨q9, rfl, HF.out, HEND.out⟩
def KJ (w W : World) (a : Array Value) : Prop := zW w W /\ Blk W w.heap.size 190 a /\ ∃ x y z, Blk3 W (w.heap.size + 1) x y z
theorem KJ.below {w W W' : World} {a : Array Value} (h : KJ w W a) (hb : zW W W') : KJ w W' a := by
 obtain ⟨h1, h2, x, y, z, h3⟩ := h;exact ⟨h1.trans (hb.mono h1.size), h2.below hb h2.lt, x, y, z, h3.below hb⟩
theorem KJ.grown {w W W' : World} {a : Array Value} {row : Option Nat} (h : KJ w W a) (hg : W.grownBy W' row) (hr : ∀ q, row = some q -> w.heap.size + 2 <= q) : KJ w W' a := by
 obtain ⟨h1, h2, x, y, z, h3⟩ := h;exact ⟨h1.grown hg h1.size (fun q hq => by have := hr q hq; omega), (hg.block _ h2.lt (fun e => by have := hr _ e.symm; omega)).trans h2, x, y, z, h3.grown hg (fun e => by have := hr _ e.symm; omega)⟩
theorem KJ.size {w W : World} {a : Array Value} (h : KJ w W a) : w.heap.size + 2 <= W.heap.size := by
 obtain ⟨_, _, x, y, z, h3⟩ := h;have := h3.lt;omega
theorem KJ.set {w W : World} {a : Array Value} (h : KJ w W a) (p q r : Value) : KJ w (((W.setCell ⟨w.heap.size + 1, 0, none⟩ p).setCell ⟨w.heap.size + 1, 1, none⟩ q).setCell ⟨w.heap.size + 1, 2, none⟩ r) a := by
 obtain ⟨h1, h2, x, y, z, h3⟩ := h;refine ⟨((h1.setCell (p := ⟨w.heap.size + 1, 0, none⟩) (Nat.le_succ _) _).setCell (p := ⟨w.heap.size + 1, 1, none⟩) (Nat.le_succ _) _).setCell (p := ⟨w.heap.size + 1, 2, none⟩) (Nat.le_succ _) _, ?_, p, q, r, ?_⟩
 ·have ne : w.heap.size ≠ w.heap.size + 1 := by omega
  exact ((h2.other _ ne).other _ ne).other _ ne
 ·have e := (((show Blk W (w.heap.size + 1) 178 #[x, y, z] from h3).set 0 p).set 1 q).set 2 r
  exact e
theorem KJ.start (w : World) (a : Array Value) (x y z : Value) (W : World) (hW : W = (w.alloc (Obj.cells a 190)).alloc (Obj.cells #[x, y, z] 178)) : KJ w W a := by
 have e0 : (w.alloc (Obj.cells a 190)).heap.size = w.heap.size + 1 := Array.size_push _;have hb : zW w W := by rw [hW]; exact ((Below.refl _ _).alloc (Nat.le_refl _) _).alloc (by rw [e0]; omega) _
 refine ⟨hb, ?_, x, y, z, ?_⟩
 ·rw [hW]; exact (Blk.new w _ _).alloc _
 ·rw [hW]
  have h := heap_alloc_new (w.alloc (Obj.cells a 190)) (Obj.cells #[x, y, z] 178);rw [e0] at h;exact h
theorem tidItem_any (c : Cl) (pa : Option Addr) (lp pc : Nat) (w : World) (hz : wtL c <= 20000000) (hw : WdL c) (ha : RevAt w (zS pa lp pc) c.revs) : Calls Tryz.prog 135 #[tdV c (zS pa lp pc)] w fun e w' => ToIt w 3 (bodyL c) e w' := by
 obtain ⟨z1, z2, z3⟩ := wtL_parts hz;have HW := zH (zJ (z1 : c.issuer.size <= 20000000) (zJ hw.1 (zJ (z2 : c.revs.length <= 20000000) hw.2.1)));have HL : Hid (RevAt w (zS pa lp pc) c.revs) := ha;clear hz hw ha z1 z2 z3;unfold tdV;go_enter Tryz.func135, Tryz.ntmps135;go_wp2_with fail;obtain ⟨W0, hW0⟩ : ∃ W, W = (w.alloc (Obj.cells #[zG c.issuer, zI c.num, zI c.ths, zI c.nxt, zI c.bas, zS pa lp pc] 190)).alloc (Obj.cells #[Value.int IntKind.i64 0, Value.string ⟨#[]⟩, Value.slice none 0 0] 178) := ⟨_, rfl⟩;rw [<- hW0];have H0 : KJ w W0 #[zG c.issuer, zI c.num, zI c.ths, zI c.nxt, zI c.bas, zS pa lp pc] := KJ.start w _ _ _ _ W0 hW0;clear hW0;refine wp_region_held_drew (S := fun W => KJ w W #[zG c.issuer, zI c.num, zI c.ths, zI c.nxt, zI c.bas, zS pa lp pc]) (by kernel_rfl) (KJ.below H0 ((Below.refl _ _).drew)) (fun hHeld => ?_);clear H0;generalize W0.drew = Wd0 at hHeld |-;refine zQ 0 3 rfl hHeld ?_;refine zT 1 4 ?_ rfl (by rfl) ?_ hHeld ?_;rotate_left
 ·intro W hSw
  have l0 : W.cell? ⟨w.heap.size, 0, none⟩ = some (zG c.issuer) := hSw.2.1.cell 0;have l1 : W.cell? ⟨w.heap.size, 1, none⟩ = some (zI c.num) := hSw.2.1.cell 1;have l2 : W.cell? ⟨w.heap.size, 2, none⟩ = some (zI c.ths) := hSw.2.1.cell 2;have l3 : W.cell? ⟨w.heap.size, 3, none⟩ = some (zI c.nxt) := hSw.2.1.cell 3;have l4 : W.cell? ⟨w.heap.size, 4, none⟩ = some (zI c.bas) := hSw.2.1.cell 4;go_simp
  try with_reducible rfl
 refine zQ 3 6 rfl hHeld ?_;refine zT 4 7 ?_ rfl (by rfl) ?_ hHeld ?_;rotate_left
 ·intro W hSw
  have l0 : W.cell? ⟨w.heap.size, 5, none⟩ = some (zS pa lp pc) := hSw.2.1.cell 5;go_simp
  try with_reducible rfl
 refine zR 2 5 rfl fun K hK => ?_
 have HS0 : Hid (w.heap.size + 2 <= Wd0.heap.size) := KJ.size hHeld;go_simp;refine (headItems_any c _ HW.1 HW.2.1).mono ?_;rintro e v1 ⟨q1, rfl, hG1, hv⟩;have hH := KJ.below hHeld hv;have HG1 := zH (zJ (hG1 : GrowK v1 Wd0.heap.size 2 (zS (some ⟨q1, 0, none⟩) 5 5) (headL c)) hv.size);go_wp2_with fail;refine hK.out _ _ hH (fun hHeld => ?_);clear hK K hH hv hG1;refine zR 5 8 rfl fun K hK => ?_
 go_simp;refine (rowRev_any c.revs _ _ HW.2.2.1 HW.2.2.2 (HL.below hHeld.1)).mono ?_;intro e v2 hto;obtain ⟨a2, l2, x2, f2, rfl, ho2, hv⟩ := to_any hto;clear hto;have hH := KJ.below hHeld hv;have H2 : Hid (OwnK v2 v1.heap.size 2 (zS a2 l2 x2) (c.revs.map revI) f2 /\ zW v1 v2) := ⟨ho2, hv⟩;go_wp2_with fail;refine hK.out _ _ hH (fun hHeld => ?_);clear hK K hH hv ho2;refine zR 6 9 rfl fun K hK => ?_
 go_simp;refine hK.out _ _ (KJ.below hHeld ((Below.refl _ _).alloc (Nat.le_refl _) _)) (fun hHeld => ?_);clear hK K;refine zR 7 10 rfl fun K hK => ?_
 refine step_append_item0 (o := ⟨some 10, _, _, _, _, _⟩) rfl (.tmp 5) (.tmp 9) rfl Wd0.heap.size 2 (zS (some ⟨q1, 0, none⟩) 5 5) (headL c) (lstJ (c.revs.map revI)) 48 ⟨#[]⟩ (zS a2 l2 x2) f2 rfl rfl (by rfl) v2.heap.size (by rfl) rfl HG1.1 H2.2 H2.1 HG1.2 (by show 5 <= 1000000000; decide) ?_;intro g6 cap6 w6 hG6 hgrow6;have hrl := fun q hq => (HG1.1.lt q hq).1
 have hH : KJ w w6 #[zG c.issuer, zI c.num, zI c.ths, zI c.nxt, zI c.bas, zS pa lp pc] := KJ.grown hHeld hgrow6 (fun q hq => Nat.le_trans HS0.out (hrl q hq));have HF : Hid (∃ fp, OwnK w6 Wd0.heap.size 3 (zS (some ⟨g6, 0, none⟩) 6 cap6) (It.kids (bodyL c)) fp) := hG6.own;clear hG6 hgrow6 hrl HG1 H2;refine hK.out _ _ hH (fun hHeld => ?_);clear hK K hH;refine zQ 8 11 rfl hHeld ?_;refine zN 9 rfl fun K hK => ?_
 obtain ⟨x9, y9, z9, hB9⟩ := hHeld.2.2;obtain ⟨⟨r0, r1, r2⟩, rf⟩ := cell_in hB9;go_simp;refine hK.out _ _ (KJ.set hHeld _ _ _) (fun hHeld => ?_);clear hK K;refine wpAnyH_done (by kernel_rfl) ?_ _;have HEND : Hid (zW w _) := hHeld.1;clear hHeld;go_wp2_with fail;refine bodyPost_ret (v := .agg #[zI 48, zG ⟨#[]⟩, zS (some ⟨g6, 0, none⟩) 6 cap6]) (by simp [results, Tryz.results135, go_sem, r0, r1, r2]; try rfl) rfl ?_;obtain ⟨fp, hfp⟩ := HF.out;refine ⟨zS (some ⟨g6, 0, none⟩) 6 cap6, fp, rfl, ?_, HEND.out⟩;refine OwnK.base (base := Wd0.heap.size) (by have := HS0.out; omega) (hfp.same fun b hb => ?_);have h1 := (OwnK.lt hfp b hb).1;have h2 := HS0.out;rw [heap_setCell_other _ _ _ _ (by show b ≠ w.heap.size + 1; omega), heap_setCell_other _ _ _ _ (by show b ≠ w.heap.size + 1; omega), heap_setCell_other _ _ _ _ (by show b ≠ w.heap.size + 1; omega)]
end Go.Proofs.YtabfamhaihnccaaGreat
namespace Go.Proofs.YtabfamhaihnccaaGreat
open Go.RowKit Der
def KM (w W : World) (a : Array Value) (kv : Value) : Prop := zW w W /\ Blk W w.heap.size 65 a /\ (∃ x y z, Blk3 W (w.heap.size + 1) x y z) /\ Blk3 W (w.heap.size + 1 + 1) (zI 48) (zG ⟨#[]⟩) kv
theorem KM.below {w W W' : World} {a : Array Value} {kv : Value} (h : KM w W a kv) (hb : zW W W') : KM w W' a kv := by
 obtain ⟨h1, h2, ⟨x, y, z, h3⟩, h4⟩ := h;exact ⟨h1.trans (hb.mono h1.size), h2.below hb h2.lt, ⟨x, y, z, h3.below hb⟩, h4.below hb⟩
theorem KM.size {w W : World} {a : Array Value} {kv : Value} (h : KM w W a kv) : w.heap.size + 3 <= W.heap.size := by
 have := h.2.2.2.lt;omega
theorem KM.grown {w W W' : World} {a : Array Value} {kv : Value} {row : Option Nat} (h : KM w W a kv) (hg : W.grownBy W' row) (hr : ∀ q, row = some q -> w.heap.size + 3 <= q) : KM w W' a kv := by
 obtain ⟨h1, h2, ⟨x, y, z, h3⟩, h4⟩ := h;exact ⟨h1.grown hg h1.size (fun q hq => by have := hr q hq; omega), (hg.block _ h2.lt (fun e => by have := hr _ e.symm; omega)).trans h2, ⟨x, y, z, h3.grown hg (fun e => by have := hr _ e.symm; omega)⟩, h4.grown hg (fun e => by have := hr _ e.symm; omega)⟩
theorem KM.laid {w W : World} {a : Array Value} {kv : Value} (h : KM w W a kv) (k : Value) : KM w (W.setCell ⟨w.heap.size + 1 + 1, 2, none⟩ k) a k := by
 obtain ⟨h1, h2, ⟨x, y, z, h3⟩, h4⟩ := h;exact ⟨h1.setCell (p := ⟨w.heap.size + 1 + 1, 2, none⟩) (by show w.heap.size <= w.heap.size + 1 + 1; omega) _, h2.other (p := ⟨w.heap.size + 1 + 1, 2, none⟩) _ (by show w.heap.size ≠ w.heap.size + 1 + 1; omega), ⟨x, y, z, h3.other (p := ⟨w.heap.size + 1 + 1, 2, none⟩) (by show w.heap.size + 1 ≠ w.heap.size + 1 + 1; omega) _⟩, h4.set _⟩
theorem KM.set {w W : World} {a : Array Value} {kv : Value} (h : KM w W a kv) (p q r : Value) : KM w (((W.setCell ⟨w.heap.size + 1, 0, none⟩ p).setCell ⟨w.heap.size + 1, 1, none⟩ q).setCell ⟨w.heap.size + 1, 2, none⟩ r) a kv := by
 obtain ⟨h1, h2, ⟨x, y, z, h3⟩, h4⟩ := h;refine ⟨((h1.setCell (p := ⟨w.heap.size + 1, 0, none⟩) (Nat.le_succ _) _).setCell (p := ⟨w.heap.size + 1, 1, none⟩) (Nat.le_succ _) _).setCell (p := ⟨w.heap.size + 1, 2, none⟩) (Nat.le_succ _) _, ?_, ⟨p, q, r, ?_⟩, ?_⟩
 ·have ne : w.heap.size ≠ w.heap.size + 1 := by omega
  exact ((h2.other _ ne).other _ ne).other _ ne
 ·have e := (((show Blk W (w.heap.size + 1) 178 #[x, y, z] from h3).set 0 p).set 1 q).set 2 r
  exact e
 ·have ne : w.heap.size + 1 + 1 ≠ w.heap.size + 1 := by omega
  exact ((h4.other (p := ⟨w.heap.size + 1, 0, none⟩) ne _).other (p := ⟨w.heap.size + 1, 1, none⟩) ne _).other (p := ⟨w.heap.size + 1, 2, none⟩) ne _
theorem KM.start (w : World) (a : Array Value) (W : World) (hW : W = ((w.alloc (Obj.cells a 65)).alloc (Obj.cells #[Value.int IntKind.i64 0, Value.string ⟨#[]⟩, Value.slice none 0 0] 178)).alloc (Obj.cells #[Value.int IntKind.i64 48, Value.string ⟨#[]⟩, Value.slice none 0 0] 178)) : KM w W a zZ := by
 have e0 : (w.alloc (Obj.cells a 65)).heap.size = w.heap.size + 1 := Array.size_push _;have e1 : ((w.alloc (Obj.cells a 65)).alloc (Obj.cells #[Value.int IntKind.i64 0, Value.string ⟨#[]⟩, Value.slice none 0 0] 178)).heap.size = w.heap.size + 1 + 1 := by rw [size_alloc, e0]
 refine ⟨by rw [hW]; exact (((Below.refl _ _).alloc (Nat.le_refl _) _).alloc (by rw [e0]; omega) _).alloc (by rw [e1]; omega) _, by rw [hW]; exact ((Blk.new w _ _).alloc _).alloc _, ⟨zI 0, zG ⟨#[]⟩, zZ, ?_⟩, ?_⟩
 ·have h := heap_alloc_new (w.alloc (Obj.cells a 65)) (Obj.cells #[Value.int IntKind.i64 0, Value.string ⟨#[]⟩, Value.slice none 0 0] 178)
  rw [e0] at h;rw [hW];exact (heap_alloc_old _ _ (by rw [e1]; omega)).trans h
 ·have h := heap_alloc_new ((w.alloc (Obj.cells a 65)).alloc (Obj.cells #[Value.int IntKind.i64 0, Value.string ⟨#[]⟩, Value.slice none 0 0] 178)) (Obj.cells #[Value.int IntKind.i64 48, Value.string ⟨#[]⟩, Value.slice none 0 0] 178)
  rw [e1] at h;rw [hW];exact h
def KX (w W : World) (a : Array Value) : Prop := ∃ kv, KM w W a kv
theorem KX.below {w W W' : World} {a : Array Value} (h : KX w W a) (hb : zW W W') : KX w W' a := by
 obtain ⟨kv, h⟩ := h;exact ⟨kv, h.below hb⟩
theorem bodyL_row {W W' : World} {b : Nat} {c : Cl} {kv : Value} {fp : List Nat} (h : OwnK W b 2 kv (c.revs.map revI) fp) (hb : b <= W.heap.size) (hW : W' = W.alloc (.cells (zI 12 :: zG c.issuer :: zZ :: zI 2 :: zG ⟨(intT (numN c.num)).toArray⟩ :: zZ :: zI 2 :: zG ⟨(intT (numN c.ths)).toArray⟩ :: zZ :: zI 2 :: zG ⟨(intT (numN c.nxt)).toArray⟩ :: zZ :: zI 2 :: zG ⟨(intT (numN c.bas)).toArray⟩ :: zZ :: zI 48 :: zG ⟨#[]⟩ :: kv :: []).toArray 178)) : ∃ fq, OwnK W' b 3 (zS (some ⟨W.heap.size, 0, none⟩) 6 6) (It.kids (bodyL c)) fq := by
 have nn := own_none W b 2;have R : RowsK W b 2 (It.kids (bodyL c)) [zZ, zZ, zZ, zZ, zZ, kv] [[], [], [], [], [], fp] := ⟨nn, nn, nn, nn, nn, h, trivial⟩;exact (R.grow (W' := W') (cap := 6) hb (by have := h.nodup; simpa using this) (by show 6 <= 1000; decide) rfl (by rw [hW]; rfl)).own
theorem l10Item_any (c : Cl) (v : Value) (w : World) (hz : wtL c <= 20000000) (hw : WdL c) (ha : ClAt w v c) : Calls Tryz.prog 123 #[v] w fun e w' => ToIt w 3 (bodyL c) e w' := by
 obtain ⟨z1, z2, z3⟩ := wtL_parts hz;obtain ⟨pv, rfl, hrv⟩ := ha;obtain ⟨pa, pc, hpa, hcell⟩ := hrv;have w1 := hw.1 c.num (by simp);have w2 := hw.1 c.ths (by simp);have w3 := hw.1 c.nxt (by simp);have w4 := hw.1 c.bas (by simp);have HN : Hid ((-9223372036854775808 <= c.num /\ c.num <= 9223372036854775807) /\ (-9223372036854775808 <= c.ths /\ c.ths <= 9223372036854775807) /\ (-9223372036854775808 <= c.nxt /\ c.nxt <= 9223372036854775807) /\ (-9223372036854775808 <= c.bas /\ c.bas <= 9223372036854775807)) := ⟨w1, w2, w3, w4⟩;obtain ⟨lp, hlp⟩ := zE (c.revs.length);rw [hlp] at hpa z2;subst hpa;have HX := zH (zJ (hcell : (∀ j, j < c.revs.length -> ∃ g, pa = some ⟨g, 0, none⟩ /\ g < w.heap.size /\ w.cell? ⟨g, j * 2, none⟩ = some (zI (c.revs.getD j (0, 0)).1) /\ w.cell? ⟨g, j * 2 + 1, none⟩ = some (zI (c.revs.getD j (0, 0)).2))) (zJ (hlp : c.revs.length = lp) hw.2.1));clear hcell hlp hw w1 w2 w3 w4 hz z1 z3;obtain ⟨ks, hks⟩ : ∃ ks : List (It 2), c.revs.map revI = ks := ⟨_, rfl⟩;have HK0 : Hid (c.revs.map revI = ks /\ ks.length = lp) := ⟨hks, by rw [<- hks, List.length_map]; exact HX.2.1⟩;clear hks;unfold clV;go_enter Tryz.func123, Tryz.ntmps123;go_wp2_with fail;obtain ⟨W3, hW3⟩ : ∃ W, W = ((w.alloc (Obj.cells (zCl c (zS pa lp pc)) 65)).alloc (Obj.cells #[Value.int IntKind.i64 0, Value.string ⟨#[]⟩, Value.slice none 0 0] 178)).alloc (Obj.cells #[Value.int IntKind.i64 48, Value.string ⟨#[]⟩, Value.slice none 0 0] 178) := ⟨_, rfl⟩;rw [<- hW3];have H3 : Hid (KM w W3 (zCl c (zS pa lp pc)) zZ) := KM.start w _ W3 hW3
 clear hW3
 go_loopw [4] (fun iv wr => ∃ k : Nat, k <= lp /\ iv = zI k /\ Hid (∃ kv : Value, KM w wr (zCl c (zS pa lp pc)) (kv) /\ GrowK wr (w.heap.size + 3) 1 kv (ks.take k))) (fun iv _ => lp - (intOf iv).toNat)
 case atStart => exact ⟨0, Nat.zero_le _, rfl, _, H3.out, GrowK.nil _ _ _⟩
 case round =>
  obtain ⟨k, hk, rfl, HR⟩ := hrel;obtain ⟨kv, hr1, hrG⟩ := HR.out;have HK : Hid (KM w wr (zCl c (zS pa lp pc)) (kv) /\ GrowK wr (w.heap.size + 3) 1 kv (ks.take k)) := ⟨hr1, hrG⟩;clear HR hr1 hrG H3;have y5 := fun j => HK.1.2.1.cell j
  by_cases hlt : k < lp
  ·have hlti : (k : Int) < (lp : Int) := by omega
   have hk0 : (0 : Int) <= (k : Int) := by omega
   have hj0 : k < c.revs.length := by rw [HX.2.1]; exact hlt
   have hj1 : k < ks.length := by rw [HK0.2]; exact hlt
   obtain ⟨g1, hax, hg1, hc1, hc2⟩ := HX.1 k hj0;have c10 : wr.cell? ⟨g1, k * 2, none⟩ = some (zI (c.revs.getD k (0, 0)).1) := (HK.1.1.cell (p := ⟨g1, k * 2, none⟩) hg1).trans hc1;have c11 : wr.cell? ⟨g1, k * 2 + 1, none⟩ = some (zI (c.revs.getD k (0, 0)).2) := (HK.1.1.cell (p := ⟨g1, k * 2 + 1, none⟩) hg1).trans hc2;have hm := HX.2.2 _ (getR_mem hj0);have hkx : ks[k] = revI ((c.revs.getD k (0, 0)).1, (c.revs.getD k (0, 0)).2) := by
    have h := HK0.1;subst h;simp [List.getD, hj0]
   generalize (c.revs.getD k (0, 0)).1 = s at *;generalize (c.revs.getD k (0, 0)).2 = r at *;have HT : Hid (It.tag ks[k] = 48 /\ (⟨(It.text ks[k]).toArray⟩ : ByteArray) = ⟨#[]⟩ /\ It.kids ks[k] = [intI s, intI r]) := by
    rw [hkx];exact ⟨rfl, rfl, rfl⟩
   have HWD : Hid (Wd [s, r]) := fun x hx => by
    simp only [List.mem_cons, List.not_mem_nil, or_false] at hx
    rcases hx with rfl | rfl
    ·exact hm.1
    ·exact hm.2
   have htl : (ks.take k).length = k := by rw [List.length_take]; omega
   have hsz3 := HK.1.size;have HG1 : Hid (g1 < w.heap.size /\ w.heap.size + 3 <= wr.heap.size) := ⟨hg1, hsz3⟩;subst hax;obtain ⟨⟨_, _, y2⟩, fy⟩ := cell_in HK.1.2.2.2;have HC : Hid (w.cell? ⟨g1, k * 2, none⟩ = some (zI s) /\ w.cell? ⟨g1, k * 2 + 1, none⟩ = some (zI r)) := ⟨hc1, hc2⟩;have HNE : Hid (∀ q, q < w.heap.size + 3 -> some q ≠ kv.ownBlock) := fun q hq e => by have := (HK.2.lt q e.symm).1; omega
   have HB : Hid (zW wr wr.drew) := (Below.refl _ _).drew;have HG : Hid (Blk3 wr.drew (w.heap.size + 1 + 1) (zI 48) (zG ⟨#[]⟩) kv) := HK.1.2.2.2.below ((Below.refl _ _).drew);clear hc1 hc2 hg1 hkx hm hsz3 y2 fy;go_wp2_with fail;refine wp_region_held_drew (S := fun W => KX w W (zCl c (zS (some ⟨g1, 0, none⟩) lp pc))) (by kernel_rfl) (KX.below ⟨_, HK.1⟩ ((Below.refl _ _).drew)) (fun hHeld => ?_);generalize wr.drew = Wd0 at hHeld HB HG |-;clear y5 c10 c11;refine zQ 0 13 rfl hHeld ?_;refine zQ 2 15 rfl hHeld ?_;refine zT 3 16 ?_ rfl (by rfl) ?_ hHeld ?_;rotate_left
   ·intro W hSw
    obtain ⟨_, hS1⟩ := hSw;have l0 : W.cell? ⟨w.heap.size, 5, none⟩ = some (zS (some ⟨g1, 0, none⟩) lp pc) := hS1.2.1.cell 5;go_simp
    try with_reducible rfl
   refine zQ 4 17 rfl hHeld ?_;refine zQ 5 18 rfl hHeld ?_;refine zQ 6 19 rfl hHeld ?_;refine zT 7 20 ?_ rfl (by rfl) ?_ hHeld ?_;rotate_left
   ·intro W hSw
    obtain ⟨_, hS1⟩ := hSw;have l0 : W.cell? ⟨g1, k * 2, none⟩ = some (zI s) := (hS1.1.cell (p := ⟨g1, k * 2, none⟩) HG1.1).trans HC.1;go_simp
    try with_reducible rfl
   refine zQ 8 21 rfl hHeld ?_;refine zT 9 22 ?_ rfl (by rfl) ?_ hHeld ?_;rotate_left
   ·intro W hSw
    obtain ⟨_, hS1⟩ := hSw;have l0 : W.cell? ⟨w.heap.size, 5, none⟩ = some (zS (some ⟨g1, 0, none⟩) lp pc) := hS1.2.1.cell 5;go_simp
    try with_reducible rfl
   refine zQ 10 23 rfl hHeld ?_;refine zQ 11 24 rfl hHeld ?_;refine zQ 12 25 rfl hHeld ?_;refine zT 13 26 ?_ rfl (by rfl) ?_ hHeld ?_;rotate_left
   ·intro W hSw
    obtain ⟨_, hS1⟩ := hSw;have l0 : W.cell? ⟨g1, k * 2 + 1, none⟩ = some (zI r) := (hS1.1.cell (p := ⟨g1, k * 2 + 1, none⟩) HG1.1).trans HC.2;go_simp
    try with_reducible rfl
   refine wpAnyH_ready (rs := [1, 14]) (by kernel_rfl) (by simp) ?_;refine AllReadyH.cons (o := ⟨some 14, _, _, _, _, _⟩) rfl (fun K hK => ?_) ?_;rotate_left
   ·refine AllReadyH.cons (o := ⟨some 27, _, _, _, _, _⟩) rfl (fun K hK => ?_) AllReadyH.nil
    obtain ⟨Wi1, hWi⟩ : ∃ W, W = Wd0.alloc (Obj.cells #[zI s, zI r] 3) := ⟨_, rfl⟩;have hv : zW Wd0 Wi1 := by rw [hWi]; exact (Below.refl _ _).alloc (Nat.le_refl _) _
    have HI : Hid (IntAt Wi1 (zS (some ⟨Wd0.heap.size, 0, none⟩) 2 2) [s, r]) := ints_own hWi;replace HB := zH (HB.trans (hv.mono HB.size));replace HG := zH (HG.below hv);have hH := KX.below hHeld hv;go_simp;rw [<- hWi];refine hK.out _ _ hH (fun hHeld => ?_);clear hK K hH hv hWi;obtain ⟨gi, hgi⟩ := zE (Wd0.heap.size);rw [hgi] at HI |-;clear hgi;refine wpAnyH_ready (rs := [1, 15]) (by kernel_rfl) (by simp) ?_;refine AllReadyH.cons (o := ⟨some 14, _, _, _, _, _⟩) rfl (fun K hK => ?_) ?_;rotate_left
    ·refine AllReadyH.cons (o := ⟨some 28, _, _, _, _, _⟩) rfl (fun K hK => ?_) AllReadyH.nil
     go_simp;refine (ints_any 0 [s, r] _ _ (by show 2 <= 20000000; decide) HWD.out HI.out).mono ?_;intro e v2 hto;obtain ⟨a3, l3, x3, f3, rfl, ho3, hv⟩ := to_any hto;clear hto HI;have hH := KX.below hHeld hv;have H3 := zH (zJ (by rw [HT.2.2]; exact OwnK.base HB.size ho3 : OwnK v2 wr.heap.size 1 (zS a3 l3 x3) (It.kids ks[k]) f3) (HB.trans (hv.mono HB.size)));clear HB;replace HG := zH (HG.below hv);go_wp2_with fail;refine hK.out _ _ hH (fun hHeld => ?_);clear hK K hH hv ho3;refine wpAnyH_ready (rs := [1, 16]) (by kernel_rfl) (by simp) ?_;refine AllReadyH.cons (o := ⟨some 14, _, _, _, _, _⟩) rfl (fun K hK => ?_) ?_;rotate_left
     ·refine AllReadyH.cons (o := ⟨some 29, _, _, _, _, _⟩) rfl (fun K hK => ?_) AllReadyH.nil
      have hH := KX.below hHeld ((Below.refl v2.heap.size v2).alloc (Nat.le_refl _) (Obj.cells #[zI 48, zG ⟨#[]⟩, zS a3 l3 x3] 178));have HGn : Hid (Blk3 (v2.alloc (Obj.cells #[zI 48, zG ⟨#[]⟩, zS a3 l3 x3] 178)) (w.heap.size + 1 + 1) (zI 48) (zG ⟨#[]⟩) kv) := HG.below ((Below.refl _ _).alloc (Nat.le_refl _) _);clear HG;have HG := HGn;clear HGn;go_simp;refine hK.out _ _ hH (fun hHeld => ?_);clear hK K hH;refine zR 1 14 rfl fun K hK => ?_
      have lk : (v2.alloc (Obj.cells #[zI 48, zG ⟨#[]⟩, zS a3 l3 x3] 178)).cell? ⟨w.heap.size + 1 + 1, 2, none⟩ = some kv := (cell_in HG.out).1.2.2;go_simp;refine hK.out _ _ hHeld (fun hHeld => ?_);clear hK K lk;refine zR 17 30 rfl fun K hK => ?_
      refine step_append_item0 (o := ⟨some 30, _, _, _, _, _⟩) rfl (.tmp 14) (.tmp 29) rfl (w.heap.size + 3) 1 kv (ks.take k) ks[k] 48 ⟨#[]⟩ (zS a3 l3 x3) f3 HT.1 HT.2.1 (by rfl) v2.heap.size (by rfl) rfl HK.2 H3.2 H3.1 HG1.2 (by omega) ?_;intro g cap w6 hG6 hgrow6;have hm6 := (HK.1.below (H3.2.alloc H3.2.size (Obj.cells #[zI 48, zG ⟨#[]⟩, zS a3 l3 x3] 178))).grown hgrow6 (fun q hq => (HK.2.lt q hq).1);have H6 : Hid (KM w w6 (zCl c (zS (some ⟨g1, 0, none⟩) lp pc)) kv /\ GrowK w6 (w.heap.size + 3) 1 (zS (some ⟨g, 0, none⟩) (k + 1) cap) (ks.take (k + 1))) := by
       have e := List.take_append_getElem hj1;rw [htl, e] at hG6;exact ⟨hm6, hG6⟩
      try rw [htl]
      clear hG6 hgrow6 hm6 HG H3;refine hK.out _ _ ⟨kv, H6.1⟩ (fun hHeld => ?_);clear hK K;refine zQ 18 31 rfl hHeld ?_;refine zN 19 rfl fun K hK => ?_
      obtain ⟨⟨q0, q1, q2⟩, qf⟩ := cell_in H6.1.2.2.2;go_simp;refine hK.out _ _ ⟨_, H6.1.laid _⟩ (fun hHeld => ?_);clear hK K hHeld q0 q1 q2 qf;refine wpAnyH_done (by kernel_rfl) ?_ _;go_wp2_with fail;refine ⟨⟨k + 1, by omega, by go_num, zS (some ⟨g, 0, none⟩) (k + 1) cap, H6.1.laid _, ?_⟩, by simp [intOf]; omega⟩;exact H6.2.out fun b hb => heap_setCell_other _ _ _ _ (by show b ≠ w.heap.size + 1 + 1; omega)
     have lk : v2.cell? ⟨w.heap.size + 1 + 1, 2, none⟩ = some kv := (cell_in HG.out).1.2.2;go_simp;refine hK.out _ _ hHeld (fun hHeld => ?_);clear hK K lk;refine zR 16 29 rfl fun K hK => ?_
     have hH := KX.below hHeld ((Below.refl v2.heap.size v2).alloc (Nat.le_refl _) (Obj.cells #[zI 48, zG ⟨#[]⟩, zS a3 l3 x3] 178));have HGn : Hid (Blk3 (v2.alloc (Obj.cells #[zI 48, zG ⟨#[]⟩, zS a3 l3 x3] 178)) (w.heap.size + 1 + 1) (zI 48) (zG ⟨#[]⟩) kv) := HG.below ((Below.refl _ _).alloc (Nat.le_refl _) _);clear HG;have HG := HGn;clear HGn;go_simp;refine hK.out _ _ hH (fun hHeld => ?_);clear hK K hH;refine zR 17 30 rfl fun K hK => ?_
     refine step_append_item0 (o := ⟨some 30, _, _, _, _, _⟩) rfl (.tmp 14) (.tmp 29) rfl (w.heap.size + 3) 1 kv (ks.take k) ks[k] 48 ⟨#[]⟩ (zS a3 l3 x3) f3 HT.1 HT.2.1 (by rfl) v2.heap.size (by rfl) rfl HK.2 H3.2 H3.1 HG1.2 (by omega) ?_;intro g cap w6 hG6 hgrow6;have hm6 := (HK.1.below (H3.2.alloc H3.2.size (Obj.cells #[zI 48, zG ⟨#[]⟩, zS a3 l3 x3] 178))).grown hgrow6 (fun q hq => (HK.2.lt q hq).1);have H6 : Hid (KM w w6 (zCl c (zS (some ⟨g1, 0, none⟩) lp pc)) kv /\ GrowK w6 (w.heap.size + 3) 1 (zS (some ⟨g, 0, none⟩) (k + 1) cap) (ks.take (k + 1))) := by
      have e := List.take_append_getElem hj1;rw [htl, e] at hG6;exact ⟨hm6, hG6⟩
     try rw [htl]
     clear hG6 hgrow6 hm6 HG H3;refine hK.out _ _ ⟨kv, H6.1⟩ (fun hHeld => ?_);clear hK K;refine zQ 18 31 rfl hHeld ?_;refine zN 19 rfl fun K hK => ?_
     obtain ⟨⟨q0, q1, q2⟩, qf⟩ := cell_in H6.1.2.2.2;go_simp;refine hK.out _ _ ⟨_, H6.1.laid _⟩ (fun hHeld => ?_);clear hK K hHeld q0 q1 q2 qf;refine wpAnyH_done (by kernel_rfl) ?_ _;go_wp2_with fail;refine ⟨⟨k + 1, by omega, by go_num, zS (some ⟨g, 0, none⟩) (k + 1) cap, H6.1.laid _, ?_⟩, by simp [intOf]; omega⟩;exact H6.2.out fun b hb => heap_setCell_other _ _ _ _ (by show b ≠ w.heap.size + 1 + 1; omega)
    have lk : Wi1.cell? ⟨w.heap.size + 1 + 1, 2, none⟩ = some kv := (cell_in HG.out).1.2.2;go_simp;refine hK.out _ _ hHeld (fun hHeld => ?_);clear hK K lk;refine zR 15 28 rfl fun K hK => ?_
    go_simp;refine (ints_any 0 [s, r] _ _ (by show 2 <= 20000000; decide) HWD.out HI.out).mono ?_;intro e v5 hto;obtain ⟨a3, l3, x3, f3, rfl, ho3, hv⟩ := to_any hto;clear hto HI;have hH := KX.below hHeld hv;have H3 := zH (zJ (by rw [HT.2.2]; exact OwnK.base HB.size ho3 : OwnK v5 wr.heap.size 1 (zS a3 l3 x3) (It.kids ks[k]) f3) (HB.trans (hv.mono HB.size)));clear HB;replace HG := zH (HG.below hv);go_wp2_with fail;refine hK.out _ _ hH (fun hHeld => ?_);clear hK K hH hv ho3;refine zR 16 29 rfl fun K hK => ?_
    have hH := KX.below hHeld ((Below.refl v5.heap.size v5).alloc (Nat.le_refl _) (Obj.cells #[zI 48, zG ⟨#[]⟩, zS a3 l3 x3] 178));have HGn : Hid (Blk3 (v5.alloc (Obj.cells #[zI 48, zG ⟨#[]⟩, zS a3 l3 x3] 178)) (w.heap.size + 1 + 1) (zI 48) (zG ⟨#[]⟩) kv) := HG.below ((Below.refl _ _).alloc (Nat.le_refl _) _);clear HG;have HG := HGn;clear HGn;go_simp;refine hK.out _ _ hH (fun hHeld => ?_);clear hK K hH;refine zR 17 30 rfl fun K hK => ?_
    refine step_append_item0 (o := ⟨some 30, _, _, _, _, _⟩) rfl (.tmp 14) (.tmp 29) rfl (w.heap.size + 3) 1 kv (ks.take k) ks[k] 48 ⟨#[]⟩ (zS a3 l3 x3) f3 HT.1 HT.2.1 (by rfl) v5.heap.size (by rfl) rfl HK.2 H3.2 H3.1 HG1.2 (by omega) ?_;intro g cap w6 hG6 hgrow6;have hm6 := (HK.1.below (H3.2.alloc H3.2.size (Obj.cells #[zI 48, zG ⟨#[]⟩, zS a3 l3 x3] 178))).grown hgrow6 (fun q hq => (HK.2.lt q hq).1);have H6 : Hid (KM w w6 (zCl c (zS (some ⟨g1, 0, none⟩) lp pc)) kv /\ GrowK w6 (w.heap.size + 3) 1 (zS (some ⟨g, 0, none⟩) (k + 1) cap) (ks.take (k + 1))) := by
     have e := List.take_append_getElem hj1;rw [htl, e] at hG6;exact ⟨hm6, hG6⟩
    try rw [htl]
    clear hG6 hgrow6 hm6 HG H3;refine hK.out _ _ ⟨kv, H6.1⟩ (fun hHeld => ?_);clear hK K;refine zQ 18 31 rfl hHeld ?_;refine zN 19 rfl fun K hK => ?_
    obtain ⟨⟨q0, q1, q2⟩, qf⟩ := cell_in H6.1.2.2.2;go_simp;refine hK.out _ _ ⟨_, H6.1.laid _⟩ (fun hHeld => ?_);clear hK K hHeld q0 q1 q2 qf;refine wpAnyH_done (by kernel_rfl) ?_ _;go_wp2_with fail;refine ⟨⟨k + 1, by omega, by go_num, zS (some ⟨g, 0, none⟩) (k + 1) cap, H6.1.laid _, ?_⟩, by simp [intOf]; omega⟩;exact H6.2.out fun b hb => heap_setCell_other _ _ _ _ (by show b ≠ w.heap.size + 1 + 1; omega)
   have lk : Wd0.cell? ⟨w.heap.size + 1 + 1, 2, none⟩ = some kv := (cell_in HG.out).1.2.2;go_simp;refine hK.out _ _ hHeld (fun hHeld => ?_);clear hK K lk;refine zR 14 27 rfl fun K hK => ?_
   obtain ⟨Wi7, hWi⟩ : ∃ W, W = Wd0.alloc (Obj.cells #[zI s, zI r] 3) := ⟨_, rfl⟩;have hv : zW Wd0 Wi7 := by rw [hWi]; exact (Below.refl _ _).alloc (Nat.le_refl _) _
   have HI : Hid (IntAt Wi7 (zS (some ⟨Wd0.heap.size, 0, none⟩) 2 2) [s, r]) := ints_own hWi;replace HB := zH (HB.trans (hv.mono HB.size));replace HG := zH (HG.below hv);have hH := KX.below hHeld hv;go_simp;rw [<- hWi];refine hK.out _ _ hH (fun hHeld => ?_);clear hK K hH hv hWi;obtain ⟨gi, hgi⟩ := zE (Wd0.heap.size);rw [hgi] at HI |-;clear hgi;refine zR 15 28 rfl fun K hK => ?_
   go_simp;refine (ints_any 0 [s, r] _ _ (by show 2 <= 20000000; decide) HWD.out HI.out).mono ?_;intro e v8 hto;obtain ⟨a3, l3, x3, f3, rfl, ho3, hv⟩ := to_any hto;clear hto HI;have hH := KX.below hHeld hv;have H3 := zH (zJ (by rw [HT.2.2]; exact OwnK.base HB.size ho3 : OwnK v8 wr.heap.size 1 (zS a3 l3 x3) (It.kids ks[k]) f3) (HB.trans (hv.mono HB.size)));clear HB;replace HG := zH (HG.below hv);go_wp2_with fail;refine hK.out _ _ hH (fun hHeld => ?_);clear hK K hH hv ho3;refine zR 16 29 rfl fun K hK => ?_
   have hH := KX.below hHeld ((Below.refl v8.heap.size v8).alloc (Nat.le_refl _) (Obj.cells #[zI 48, zG ⟨#[]⟩, zS a3 l3 x3] 178));have HGn : Hid (Blk3 (v8.alloc (Obj.cells #[zI 48, zG ⟨#[]⟩, zS a3 l3 x3] 178)) (w.heap.size + 1 + 1) (zI 48) (zG ⟨#[]⟩) kv) := HG.below ((Below.refl _ _).alloc (Nat.le_refl _) _);clear HG;have HG := HGn;clear HGn;go_simp;refine hK.out _ _ hH (fun hHeld => ?_);clear hK K hH;refine zR 17 30 rfl fun K hK => ?_
   refine step_append_item0 (o := ⟨some 30, _, _, _, _, _⟩) rfl (.tmp 14) (.tmp 29) rfl (w.heap.size + 3) 1 kv (ks.take k) ks[k] 48 ⟨#[]⟩ (zS a3 l3 x3) f3 HT.1 HT.2.1 (by rfl) v8.heap.size (by rfl) rfl HK.2 H3.2 H3.1 HG1.2 (by omega) ?_;intro g cap w6 hG6 hgrow6;have hm6 := (HK.1.below (H3.2.alloc H3.2.size (Obj.cells #[zI 48, zG ⟨#[]⟩, zS a3 l3 x3] 178))).grown hgrow6 (fun q hq => (HK.2.lt q hq).1);have H6 : Hid (KM w w6 (zCl c (zS (some ⟨g1, 0, none⟩) lp pc)) kv /\ GrowK w6 (w.heap.size + 3) 1 (zS (some ⟨g, 0, none⟩) (k + 1) cap) (ks.take (k + 1))) := by
    have e := List.take_append_getElem hj1;rw [htl, e] at hG6;exact ⟨hm6, hG6⟩
   try rw [htl]
   clear hG6 hgrow6 hm6 HG H3;refine hK.out _ _ ⟨kv, H6.1⟩ (fun hHeld => ?_);clear hK K;refine zQ 18 31 rfl hHeld ?_;refine zN 19 rfl fun K hK => ?_
   obtain ⟨⟨q0, q1, q2⟩, qf⟩ := cell_in H6.1.2.2.2;go_simp;refine hK.out _ _ ⟨_, H6.1.laid _⟩ (fun hHeld => ?_);clear hK K hHeld q0 q1 q2 qf;refine wpAnyH_done (by kernel_rfl) ?_ _;go_wp2_with fail;refine ⟨⟨k + 1, by omega, by go_num, zS (some ⟨g, 0, none⟩) (k + 1) cap, H6.1.laid _, ?_⟩, by simp [intOf]; omega⟩;exact H6.2.out fun b hb => heap_setCell_other _ _ _ _ (by show b ≠ w.heap.size + 1 + 1; omega)
  ·have hlti : ¬ (k : Int) < (lp : Int) := by omega
   have HE : Hid (∃ fp, OwnK wr (w.heap.size + 3) 2 kv (c.revs.map revI) fp) := by
    have h := HK.2;rw [List.take_of_length_le (by have := HK0.2; omega), <- HK0.1] at h;exact h.own
   obtain ⟨axe, cape, hkv⟩ := HK.2.shape;obtain ⟨le, hle⟩ := zE ((ks.take k).length);rw [hle] at hkv;subst hkv;clear hle;have HM : Hid (KM w wr (zCl c (zS pa lp pc)) (zS axe le cape)) := HK.1;clear HK;go_wp2_with fail;clear y5;refine wp_region_held_drew (S := fun W => KM w W (zCl c (zS pa lp pc)) (zS axe le cape)) (by kernel_rfl) (KM.below HM.out ((Below.refl _ _).drew)) (fun hHeld => ?_);have HE0 : Hid (∃ fp, OwnK wr.drew (w.heap.size + 3) 2 (zS axe le cape) (c.revs.map revI) fp) := by
    obtain ⟨fp, h⟩ := HE.out;exact ⟨fp, h.below (Below.refl _ _).drew (fun b hb => (OwnK.lt h b hb).2)⟩
   clear HM HE;generalize wr.drew = Wd0 at hHeld HE0 |-;refine zQ 0 32 rfl hHeld ?_;refine zT 1 33 ?_ rfl (by rfl) ?_ hHeld ?_;rotate_left
   ·intro W hSw
    have l0 : W.cell? ⟨w.heap.size, 0, none⟩ = some (zG c.issuer) := hSw.2.1.cell 0;go_simp
    try with_reducible rfl
   refine zQ 3 35 rfl hHeld ?_;refine zT 4 36 ?_ rfl (by rfl) ?_ hHeld ?_;rotate_left
   ·intro W hSw
    have l0 : W.cell? ⟨w.heap.size, 1, none⟩ = some (zI c.num) := hSw.2.1.cell 1;go_simp
    try with_reducible rfl
   refine zQ 6 38 rfl hHeld ?_;refine zT 7 39 ?_ rfl (by rfl) ?_ hHeld ?_;rotate_left
   ·intro W hSw
    have l0 : W.cell? ⟨w.heap.size, 2, none⟩ = some (zI c.ths) := hSw.2.1.cell 2;go_simp
    try with_reducible rfl
   refine zQ 9 41 rfl hHeld ?_;refine zT 10 42 ?_ rfl (by rfl) ?_ hHeld ?_;rotate_left
   ·intro W hSw
    have l0 : W.cell? ⟨w.heap.size, 3, none⟩ = some (zI c.nxt) := hSw.2.1.cell 3;go_simp
    try with_reducible rfl
   refine zQ 12 44 rfl hHeld ?_;refine zT 13 45 ?_ rfl (by rfl) ?_ hHeld ?_;rotate_left
   ·intro W hSw
    have l0 : W.cell? ⟨w.heap.size, 4, none⟩ = some (zI c.bas) := hSw.2.1.cell 4;go_simp
    try with_reducible rfl
   refine zT 15 47 ?_ rfl (by rfl) ?_ hHeld ?_;rotate_left
   ·intro W hSw
    obtain ⟨⟨l0, l1, l2⟩, -⟩ := cell_in hSw.2.2.2;go_simp
    try with_reducible rfl
   refine zR 2 34 rfl fun K hK => ?_
   go_simp;refine (specTextItem_any c.issuer _).mono ?_;rintro e v1 ⟨rfl, hv⟩;have hH := KM.below hHeld hv;have HE1 : Hid (∃ fp, OwnK v1 (w.heap.size + 3) 2 (zS axe le cape) (c.revs.map revI) fp) := by
    obtain ⟨fp, h⟩ := HE0.out;exact ⟨fp, h.below hv (fun b hb => (OwnK.lt h b hb).2)⟩
   clear HE0;go_wp2_with fail;refine hK.out _ _ hH (fun hHeld => ?_);clear hK K hH hv;refine zR 5 37 rfl fun K hK => ?_
   go_simp;refine (specIntItem_any c.num _ HN.1).mono ?_;rintro e v2 ⟨rfl, hv⟩;have hH := KM.below hHeld hv;have HE2 : Hid (∃ fp, OwnK v2 (w.heap.size + 3) 2 (zS axe le cape) (c.revs.map revI) fp) := by
    obtain ⟨fp, h⟩ := HE1.out;exact ⟨fp, h.below hv (fun b hb => (OwnK.lt h b hb).2)⟩
   clear HE1;go_wp2_with fail;refine hK.out _ _ hH (fun hHeld => ?_);clear hK K hH hv;refine zR 8 40 rfl fun K hK => ?_
   go_simp;refine (specIntItem_any c.ths _ HN.2.1).mono ?_;rintro e v3 ⟨rfl, hv⟩;have hH := KM.below hHeld hv;have HE3 : Hid (∃ fp, OwnK v3 (w.heap.size + 3) 2 (zS axe le cape) (c.revs.map revI) fp) := by
    obtain ⟨fp, h⟩ := HE2.out;exact ⟨fp, h.below hv (fun b hb => (OwnK.lt h b hb).2)⟩
   clear HE2;go_wp2_with fail;refine hK.out _ _ hH (fun hHeld => ?_);clear hK K hH hv;refine zR 11 43 rfl fun K hK => ?_
   go_simp;refine (specIntItem_any c.nxt _ HN.2.2.1).mono ?_;rintro e v4 ⟨rfl, hv⟩;have hH := KM.below hHeld hv;have HE4 : Hid (∃ fp, OwnK v4 (w.heap.size + 3) 2 (zS axe le cape) (c.revs.map revI) fp) := by
    obtain ⟨fp, h⟩ := HE3.out;exact ⟨fp, h.below hv (fun b hb => (OwnK.lt h b hb).2)⟩
   clear HE3;go_wp2_with fail;refine hK.out _ _ hH (fun hHeld => ?_);clear hK K hH hv;refine zR 14 46 rfl fun K hK => ?_
   go_simp;refine (specIntItem_any c.bas _ HN.2.2.2).mono ?_;rintro e v5 ⟨rfl, hv⟩;have hH := KM.below hHeld hv;have HE5 : Hid (∃ fp, OwnK v5 (w.heap.size + 3) 2 (zS axe le cape) (c.revs.map revI) fp) := by
    obtain ⟨fp, h⟩ := HE4.out;exact ⟨fp, h.below hv (fun b hb => (OwnK.lt h b hb).2)⟩
   clear HE4;go_wp2_with fail;refine hK.out _ _ hH (fun hHeld => ?_);clear hK K hH hv;refine zR 16 48 rfl fun K hK => ?_
   have HF : Hid (∃ fq, OwnK (v5.alloc (Obj.cells (zI 12 :: zG c.issuer :: zZ :: zI 2 :: zG ⟨(intT (numN c.num)).toArray⟩ :: zZ :: zI 2 :: zG ⟨(intT (numN c.ths)).toArray⟩ :: zZ :: zI 2 :: zG ⟨(intT (numN c.nxt)).toArray⟩ :: zZ :: zI 2 :: zG ⟨(intT (numN c.bas)).toArray⟩ :: zZ :: zI 48 :: zG ⟨#[]⟩ :: zS axe le cape :: []).toArray 178)) (w.heap.size + 3) 3 (zS (some ⟨v5.heap.size, 0, none⟩) 6 6) (It.kids (bodyL c)) fq) := by
    obtain ⟨fp, h⟩ := HE5.out;exact bodyL_row h (KM.size hHeld) rfl
   clear HE5;go_simp;refine hK.out _ _ (KM.below hHeld ((Below.refl _ _).alloc (Nat.le_refl _) _)) (fun hHeld => ?_);clear hK K;refine zQ 17 49 rfl hHeld ?_;refine zN 18 rfl fun K hK => ?_
   obtain ⟨W9, hW9⟩ : ∃ W, W = v5.alloc (Obj.cells (zI 12 :: zG c.issuer :: zZ :: zI 2 :: zG ⟨(intT (numN c.num)).toArray⟩ :: zZ :: zI 2 :: zG ⟨(intT (numN c.ths)).toArray⟩ :: zZ :: zI 2 :: zG ⟨(intT (numN c.nxt)).toArray⟩ :: zZ :: zI 2 :: zG ⟨(intT (numN c.bas)).toArray⟩ :: zZ :: zI 48 :: zG ⟨#[]⟩ :: zS axe le cape :: []).toArray 178) := ⟨_, rfl⟩;obtain ⟨q9, hq9⟩ := zE (v5.heap.size);rw [<- hW9] at HF hHeld |-;rw [hq9] at HF |-;clear hW9 hq9;obtain ⟨x9, y9, z9, hB9⟩ := hHeld.2.2.1;obtain ⟨⟨r0, r1, r2⟩, rf⟩ := cell_in hB9;go_simp;refine hK.out _ _ (KM.set hHeld _ _ _) (fun hHeld => ?_);clear hK K;refine wpAnyH_done (by kernel_rfl) ?_ _;have HEND : Hid (zW w _) := hHeld.1;clear hHeld;go_wp2_with fail;refine bodyPost_ret (v := .agg #[zI 48, zG ⟨#[]⟩, zS (some ⟨q9, 0, none⟩) 6 6]) (by simp [results, Tryz.results123, go_sem, r0, r1, r2]; try rfl) rfl ?_;obtain ⟨fp, hfp⟩ := HF.out;refine ⟨zS (some ⟨q9, 0, none⟩) 6 6, fp, rfl, ?_, HEND.out⟩;refine OwnK.base (base := w.heap.size + 3) (by omega) (hfp.same fun b hb => ?_);have h1 := (OwnK.lt hfp b hb).1;rw [heap_setCell_other _ _ _ _ (by show b ≠ w.heap.size + 1; omega), heap_setCell_other _ _ _ _ (by show b ≠ w.heap.size + 1; omega), heap_setCell_other _ _ _ _ (by show b ≠ w.heap.size + 1; omega)]
theorem sz_rev (p : Int × Int) : szI 2 (revI p) <= 12 := by
 have h1 : szI 1 (intI p.1) <= 5 := sz_int p.1;have h2 : szI 1 (intI p.2) <= 5 := sz_int p.2;unfold revI;rw [sz_lst];simp only [List.map_cons, List.map_nil, List.sum_cons, List.sum_nil, List.length_cons, List.length_nil];omega
theorem sz_revs : ∀ l : List (Int × Int), ((l.map revI).map (szI 2)).sum <= 12 * l.length
 | [] => Nat.le_refl _
 | x :: l => by
  have h1 := sz_revs l;have h2 := sz_rev x;simp only [List.map_cons, List.sum_cons, List.length_cons];omega
theorem sz_bodyL {c : Cl} (h : wtL c <= 1048576) : szI 4 (bodyL c) <= 16000000 := by
 obtain ⟨z1, z2, z3⟩ := wtL_parts h;have a1 : szI 3 (intI c.num) <= 5 := sz_int c.num;have a2 : szI 3 (intI c.ths) <= 5 := sz_int c.ths;have a3 : szI 3 (intI c.nxt) <= 5 := sz_int c.nxt;have a4 : szI 3 (intI c.bas) <= 5 := sz_int c.bas;have t0 : szI 3 (txtJ c.issuer) = c.issuer.size := rfl;have r := sz_revs c.revs;unfold bodyL headL;rw [sz_lst];simp only [List.cons_append, List.nil_append, List.map_cons, List.map_nil, List.sum_cons, List.sum_nil, List.length_cons, List.length_nil];rw [sz_lst];simp only [List.length_map];omega
theorem sz_crl {c : Cl} (h : wtL c <= 1048576) : szI 5 (crlI c) <= 20000000 := by
 have hb := sz_bodyL h;have hs := (wtL_parts h).2.2;have t : szI 4 (bytJ c.sig) = c.sig.size := rfl;unfold crlI;rw [sz_lst];simp only [List.map_cons, List.map_nil, List.sum_cons, List.sum_nil, List.length_cons, List.length_nil];omega
def ltxt (c : Cl) : Option (List UInt8) := if crlOk c = true then writeI 5 (crlI c) else none
theorem to_bodyL {w w' : World} {c : Cl} {e : Ending} (h : ToIt w 3 (bodyL c) e w') : ∃ (a : Option Addr) (l cx : Nat) (fp : List Nat), e = .returned (.agg #[zI 48, zG ⟨#[]⟩, zS a l cx]) /\ OwnK w' w.heap.size 3 (zS a l cx) (It.kids (bodyL c)) fp /\ zW w w' := to_any h
theorem crl_row {W W' : World} {b : Nat} {c : Cl} {k : Value} {fp : List Nat} (h : OwnK W b 3 k (It.kids (bodyL c)) fp) (hb : b <= W.heap.size)
  (hW : W' = W.alloc (.cells #[zI 48, zG ⟨#[]⟩, k, zI 4, zG c.sig, zZ] 178)) : ItAt W' 5 (.agg #[zI 48, zG ⟨#[]⟩, zS (some ⟨W.heap.size, 0, none⟩) 2 2]) (crlI c) := by
 have R : RowsK W b 3 (It.kids (crlI c)) [k, zZ] [fp, []] := ⟨h, own_none W b 3, trivial⟩;obtain ⟨fq, hq⟩ := (R.grow (W' := W') (cap := 2) hb (by have := h.nodup; simpa using this) (by show 2 <= 1000; decide) rfl (by rw [hW]; rfl)).own;exact ⟨_, rfl, hq.at⟩
def KR (w W : World) (a : Array Value) : Prop := zW w W /\ Blk W w.heap.size 65 a
theorem KR.below {w W W' : World} {a : Array Value} (h : KR w W a) (hb : zW W W') : KR w W' a := ⟨h.1.trans (hb.mono h.1.size), h.2.below hb h.2.lt⟩
theorem KR.start {w W : World} {a : Array Value} (hW : W = w.alloc (Obj.cells a 65)) : KR w W a := by rw [hW]; exact ⟨(Below.refl _ _).alloc (Nat.le_refl _) _, Blk.new w _ _⟩
theorem specCrlText_any (c : Cl) (v : Value) (w : World) (hz : wtL c <= 1048576) (hw : WdL c) (ha : ClAt w v c) : Calls Tryz.prog 76 #[v] w fun e w' => e = .returned (.tuple #[zG ⟨((ltxt c).getD []).toArray⟩, .bool (ltxt c).isSome]) /\ zW w w' := by
 obtain ⟨pv, rfl, hrv⟩ := ha;obtain ⟨pa, pc, hpv⟩ : ∃ pa pc, pv = zS pa c.revs.length pc := by obtain ⟨a, b, h, _⟩ := hrv; exact ⟨a, b, h⟩
 obtain ⟨lp, hlp⟩ := zE (c.revs.length);rw [hlp] at hpv;subst hpv;have HC : Hid (ClAt w (clV c (zS pa lp pc)) c /\ RevAt w (zS pa lp pc) c.revs) := ⟨⟨_, rfl, hrv⟩, hrv⟩;clear hrv hlp;unfold clV at HC |-;obtain ⟨T, hT⟩ : ∃ T : ByteArray, (⟨((ltxt c).getD []).toArray⟩ : ByteArray) = T := ⟨_, rfl⟩;obtain ⟨okT, hok⟩ := zE ((ltxt c).isSome);rw [hT, hok];have HT : Hid ((⟨((ltxt c).getD []).toArray⟩ : ByteArray) = T /\ (ltxt c).isSome = okT) := ⟨hT, hok⟩;have HZ : Hid (wtL c <= 1048576 /\ WdL c) := ⟨hz, hw⟩;clear hT hz hw hok;obtain ⟨B, hB⟩ := zE (crlOk c);have HB : Hid (crlOk c = B) := hB;go_enter Tryz.func76, Tryz.ntmps76;go_wp2_with fail;obtain ⟨W1, hW1⟩ : ∃ W, W = w.alloc (Obj.cells (zCl c (zS pa lp pc)) 65) := ⟨_, rfl⟩;rw [<- hW1];have H1 : Hid (KR w W1 (zCl c (zS pa lp pc))) := KR.start hW1;clear hW1;have E1 := specCrlOk_any c _ W1 (Nat.le_trans HZ.1 (by decide)) (HC.1.below H1.1);rw [hB] at E1;clear hB;refine E1.mono ?_;rintro e w2 ⟨rfl, hb2⟩;have H2 : Hid (KR w w2 (zCl c (zS pa lp pc))) := H1.below hb2;clear E1 H1 hb2
 cases B with
 | false =>
  have HN : Hid (T = ⟨#[]⟩ /\ okT = false) := by
   have e : ltxt c = none := by unfold ltxt; rw [HB.out]; rfl
   rw [<- HT.1, <- HT.2, e];exact ⟨rfl, rfl⟩
  go_wp2_with fail
  go_ret2
  exact ⟨by rw [HN.1, HN.2]; rfl, H2.1⟩
 | true =>
  have HE : Hid (ltxt c = writeI 5 (crlI c)) := by show ltxt c = _; unfold ltxt; rw [HB.out]; rfl
  go_wp2_with fail;refine wp_region_held_drew (S := fun W => KR w W (zCl c (zS pa lp pc))) (by kernel_rfl) (KR.below H2.out ((Below.refl _ _).drew)) (fun hHeld => ?_);clear H2;generalize w2.drew = Wd at hHeld |-;refine zT 0 7 ?_ rfl (by rfl) ?_ hHeld ?_;rotate_left
  ·intro W hSw
   obtain ⟨c0, c1, c2, c3, c4, c5, c6⟩ := zc7 hSw.2;go_simp
   try with_reducible rfl
  refine zQ 2 9 rfl hHeld ?_;refine zT 3 10 ?_ rfl (by rfl) ?_ hHeld ?_;rotate_left
  ·intro W hSw
   have c6 : W.cell? ⟨w.heap.size, 6, none⟩ = some (zG c.sig) := hSw.2.cell 6;go_simp
   try with_reducible rfl
  refine zR 1 8 rfl fun K hK => ?_
  go_simp;refine (l10Item_any c _ _ (Nat.le_trans HZ.1 (by decide)) HZ.2 (HC.1.below hHeld.1)).mono ?_;intro e v1 hto;obtain ⟨a1, l1, x1, f1, rfl, ho1, hv⟩ := to_bodyL hto;clear hto;have hH := KR.below hHeld hv;have HO : Hid (OwnK v1 w.heap.size 3 (zS a1 l1 x1) (It.kids (bodyL c)) f1) := OwnK.base hHeld.1.size ho1;clear ho1;go_wp2_with fail;refine hK.out _ _ hH (fun hHeld => ?_);clear hK K hH hv;refine zR 4 11 rfl fun K hK => ?_
  go_simp;refine (bytes_any c.sig _).mono ?_;rintro e v2 ⟨rfl, hv⟩;have hH := KR.below hHeld hv;have HO2 : Hid (OwnK v2 w.heap.size 3 (zS a1 l1 x1) (It.kids (bodyL c)) f1) := HO.below hv (fun b hm => (OwnK.lt HO.out b hm).2);clear HO;go_wp2_with fail;refine hK.out _ _ hH (fun hHeld => ?_);clear hK K hH hv;refine zR 5 12 rfl fun K hK => ?_
  obtain ⟨W3, hW3⟩ : ∃ W, W = v2.alloc (Obj.cells #[zI 48, zG ⟨#[]⟩, zS a1 l1 x1, zI 4, zG c.sig, zZ] 178) := ⟨_, rfl⟩;have HI : Hid (ItAt W3 5 (.agg #[zI 48, zG ⟨#[]⟩, zS (some ⟨v2.heap.size, 0, none⟩) 2 2]) (crlI c)) := crl_row HO2.out hHeld.1.size hW3;have hH : KR w W3 (zCl c (zS pa lp pc)) := KR.below hHeld (by rw [hW3]; exact (Below.refl _ _).alloc (Nat.le_refl _) _);go_simp;rw [<- hW3];refine hK.out _ _ hH (fun hHeld => ?_);clear hK K hH hW3 HO2;refine zQ 6 13 rfl hHeld ?_;refine zR 7 14 rfl fun K hK => ?_
  have E7 := specItemText_any 5 (crlI c) _ W3 HI.out (sz_crl HZ.1);rw [<- HE.out, HT.1, HT.2] at E7;go_simp;refine E7.mono ?_;rintro e v4 ⟨rfl, hv⟩;have hH := KR.below hHeld hv;clear E7;go_wp2_with fail;refine hK.out _ _ hH (fun hHeld => ?_);clear hK K hH hv;refine zQ 8 15 rfl hHeld ?_;refine zQ 9 16 rfl hHeld ?_;refine zQ 10 2 rfl hHeld ?_;refine zQ 11 3 rfl hHeld ?_;refine wpAnyH_done (by kernel_rfl) ?_ _;have HEND : Hid (zW w _) := hHeld.1;clear hHeld;go_wp2_with fail
  go_ret2
  exact ⟨rfl, HEND.out⟩
theorem implCrlText_any (c : Cl) (v : Value) (w : World) (hz : wtL c <= 1048576) (hw : WdL c) (ha : ClAt w v c) : Calls Tryz.prog 87 #[v] w fun e w' => e = .returned (.tuple #[zG ⟨((ltxt c).getD []).toArray⟩, .bool (ltxt c).isSome]) /\ zW w w' := by
 obtain ⟨pv, rfl, hrv⟩ := ha;obtain ⟨pa, pc, hpv⟩ : ∃ pa pc, pv = zS pa c.revs.length pc := by obtain ⟨a, b, h, _⟩ := hrv; exact ⟨a, b, h⟩
 obtain ⟨lp, hlp⟩ := zE (c.revs.length);rw [hlp] at hpv;subst hpv;have HC : Hid (ClAt w (clV c (zS pa lp pc)) c /\ RevAt w (zS pa lp pc) c.revs) := ⟨⟨_, rfl, hrv⟩, hrv⟩;clear hrv hlp;unfold clV at HC |-;obtain ⟨T, hT⟩ : ∃ T : ByteArray, (⟨((ltxt c).getD []).toArray⟩ : ByteArray) = T := ⟨_, rfl⟩;obtain ⟨okT, hok⟩ := zE ((ltxt c).isSome);rw [hT, hok];have HT : Hid ((⟨((ltxt c).getD []).toArray⟩ : ByteArray) = T /\ (ltxt c).isSome = okT) := ⟨hT, hok⟩;have HZ : Hid (wtL c <= 1048576 /\ WdL c) := ⟨hz, hw⟩;clear hT hz hw hok;obtain ⟨B, hB⟩ := zE (crlOk c);have HB : Hid (crlOk c = B) := hB;go_enter Tryz.func87, Tryz.ntmps87;go_wp2_with fail;obtain ⟨W1, hW1⟩ : ∃ W, W = w.alloc (Obj.cells (zCl c (zS pa lp pc)) 65) := ⟨_, rfl⟩;rw [<- hW1];have H1 : Hid (KR w W1 (zCl c (zS pa lp pc))) := KR.start hW1;clear hW1;have E1 := implCrlOk_any c _ W1 (Nat.le_trans HZ.1 (by decide)) (HC.1.below H1.1);rw [hB] at E1;clear hB;refine E1.mono ?_;rintro e w2 ⟨rfl, hb2⟩;have H2 : Hid (KR w w2 (zCl c (zS pa lp pc))) := H1.below hb2;clear E1 H1 hb2
 cases B with
 | false =>
  have HN : Hid (T = ⟨#[]⟩ /\ okT = false) := by
   have e : ltxt c = none := by unfold ltxt; rw [HB.out]; rfl
   rw [<- HT.1, <- HT.2, e];exact ⟨rfl, rfl⟩
  go_wp2_with fail
  go_ret2
  exact ⟨by rw [HN.1, HN.2]; rfl, H2.1⟩
 | true =>
  have HE : Hid (ltxt c = writeI 5 (crlI c)) := by show ltxt c = _; unfold ltxt; rw [HB.out]; rfl
  go_wp2_with fail;refine wp_region_held_drew (S := fun W => KR w W (zCl c (zS pa lp pc))) (by kernel_rfl) (KR.below H2.out ((Below.refl _ _).drew)) (fun hHeld => ?_);clear H2;generalize w2.drew = Wd at hHeld |-;refine zT 0 7 ?_ rfl (by rfl) ?_ hHeld ?_;rotate_left
  ·intro W hSw
   obtain ⟨c0, c1, c2, c3, c4, c5, c6⟩ := zc7 hSw.2;go_simp
   try with_reducible rfl
  refine zQ 3 10 rfl hHeld ?_;refine zT 4 11 ?_ rfl (by rfl) ?_ hHeld ?_;rotate_left
  ·intro W hSw
   have c6 : W.cell? ⟨w.heap.size, 6, none⟩ = some (zG c.sig) := hSw.2.cell 6;go_simp
   try with_reducible rfl
  refine zR 1 8 rfl fun K hK => ?_
  go_simp;refine (tidingsOf_any c (zS pa lp pc) _ ⟨_, _, _, rfl⟩).mono ?_;rintro e v0 ⟨rfl, hv⟩;have hH := KR.below hHeld hv;unfold tdV;go_wp2_with fail;refine hK.out _ _ hH (fun hHeld => ?_);clear hK K hH hv;refine zR 2 9 rfl fun K hK => ?_
  go_simp;refine (tidItem_any c pa lp pc _ (Nat.le_trans HZ.1 (by decide)) HZ.2 (HC.2.below hHeld.1)).mono ?_;intro e v1 hto;obtain ⟨a1, l1, x1, f1, rfl, ho1, hv⟩ := to_bodyL hto;clear hto;have hH := KR.below hHeld hv;have HO : Hid (OwnK v1 w.heap.size 3 (zS a1 l1 x1) (It.kids (bodyL c)) f1) := OwnK.base hHeld.1.size ho1;clear ho1;go_wp2_with fail;refine hK.out _ _ hH (fun hHeld => ?_);clear hK K hH hv;refine zR 5 12 rfl fun K hK => ?_
  go_simp;refine (signedItem_any 3 (bodyL c) 48 ⟨#[]⟩ c.sig (zS a1 l1 x1) f1 w.heap.size _ rfl rfl ⟨_, _, _, rfl⟩ (by have := (wtL_parts HZ.1).2.2; omega) HO.out hHeld.1.size).mono ?_;rintro e v2 ⟨q2, f2, rfl, ho2, hv⟩;have hH := KR.below hHeld hv;have HI : Hid (ItAt v2 5 (.agg #[zI 48, zG ⟨#[]⟩, zS (some ⟨q2, 0, none⟩) 2 2]) (crlI c)) := ⟨_, rfl, ho2.at⟩;clear HO ho2;go_wp2_with fail;refine hK.out _ _ hH (fun hHeld => ?_);clear hK K hH hv;refine zR 6 13 rfl fun K hK => ?_
  have E7 := implItemText_any 5 (crlI c) _ v2 HI.out (sz_crl HZ.1);rw [<- HE.out, HT.1, HT.2] at E7;go_simp;refine E7.mono ?_;rintro e v4 ⟨rfl, hv⟩;have hH := KR.below hHeld hv;clear E7;go_wp2_with fail;refine hK.out _ _ hH (fun hHeld => ?_);clear hK K hH hv;refine zQ 7 14 rfl hHeld ?_;refine zQ 8 15 rfl hHeld ?_;refine zQ 9 2 rfl hHeld ?_;refine zQ 10 3 rfl hHeld ?_;refine wpAnyH_done (by kernel_rfl) ?_ _;have HEND : Hid (zW w _) := hHeld.1;clear hHeld;go_wp2_with fail
  go_ret2
  exact ⟨rfl, HEND.out⟩
end Go.Proofs.YtabfamhaihnccaaGreat
