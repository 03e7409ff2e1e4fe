/-
  Texts of the proof.
-/
import Derived.Deep.RegionHeld3
import Derived.Test.YtcbjlbpkoneibaaGreatDoorSR12
set_option linter.unusedVariables false
set_option linter.unusedSimpArgs false
set_option maxRecDepth 100000
set_option maxHeartbeats 25600000
namespace Go.Proofs.YtcbjlbpkoneibaaGreatDoor
open Go.RowKit Der
def KM (w W : World) (a : Array Value) (kv : Value) : Prop := zW w W /\ Blk W w.heap.size 26 a /\ (∃ x y z, Blk3 W (w.heap.size + 1) x y z) /\ Blk3 W (w.heap.size + 1 + 1) (zI 48) (zG ⟨#[]⟩) kv
theorem KM.below {w W W' : World} {a : Array Value} {kv : Value} (h : KM w W a kv) (hb : zW W W') : KM w W' a kv := by
 obtain ⟨h1, h2, ⟨x, y, z, h3⟩, h4⟩ := h;exact ⟨h1.trans (hb.mono h1.size), h2.below hb h2.lt, ⟨x, y, z, h3.below hb⟩, h4.below hb⟩
theorem KM.size {w W : World} {a : Array Value} {kv : Value} (h : KM w W a kv) : w.heap.size + 3 <= W.heap.size := by
 have := h.2.2.2.lt;omega
theorem KM.grown {w W W' : World} {a : Array Value} {kv : Value} {row : Option Nat} (h : KM w W a kv) (hg : W.grownBy W' row) (hr : ∀ q, row = some q -> w.heap.size + 3 <= q) : KM w W' a kv := by
 obtain ⟨h1, h2, ⟨x, y, z, h3⟩, h4⟩ := h;exact ⟨h1.grown hg h1.size (fun q hq => by have := hr q hq; omega), (hg.block _ h2.lt (fun e => by have := hr _ e.symm; omega)).trans h2, ⟨x, y, z, h3.grown hg (fun e => by have := hr _ e.symm; omega)⟩, h4.grown hg (fun e => by have := hr _ e.symm; omega)⟩
theorem KM.laid {w W : World} {a : Array Value} {kv : Value} (h : KM w W a kv) (k : Value) : KM w (W.setCell ⟨w.heap.size + 1 + 1, 2, none⟩ k) a k := by
 obtain ⟨h1, h2, ⟨x, y, z, h3⟩, h4⟩ := h;exact ⟨h1.setCell (p := ⟨w.heap.size + 1 + 1, 2, none⟩) (by show w.heap.size <= w.heap.size + 1 + 1; omega) _, h2.other (p := ⟨w.heap.size + 1 + 1, 2, none⟩) _ (by show w.heap.size ≠ w.heap.size + 1 + 1; omega), ⟨x, y, z, h3.other (p := ⟨w.heap.size + 1 + 1, 2, none⟩) (by show w.heap.size + 1 ≠ w.heap.size + 1 + 1; omega) _⟩, h4.set _⟩
theorem KM.set {w W : World} {a : Array Value} {kv : Value} (h : KM w W a kv) (p q r : Value) : KM w (((W.setCell ⟨w.heap.size + 1, 0, none⟩ p).setCell ⟨w.heap.size + 1, 1, none⟩ q).setCell ⟨w.heap.size + 1, 2, none⟩ r) a kv := by
 obtain ⟨h1, h2, ⟨x, y, z, h3⟩, h4⟩ := h;refine ⟨((h1.setCell (p := ⟨w.heap.size + 1, 0, none⟩) (Nat.le_succ _) _).setCell (p := ⟨w.heap.size + 1, 1, none⟩) (Nat.le_succ _) _).setCell (p := ⟨w.heap.size + 1, 2, none⟩) (Nat.le_succ _) _, ?_, ⟨p, q, r, ?_⟩, ?_⟩
 ·have ne : w.heap.size ≠ w.heap.size + 1 := by omega
  exact ((h2.other _ ne).other _ ne).other _ ne
 ·have e := (((show Blk W (w.heap.size + 1) 50 #[x, y, z] from h3).set 0 p).set 1 q).set 2 r
  exact e
 ·have ne : w.heap.size + 1 + 1 ≠ w.heap.size + 1 := by omega
  exact ((h4.other (p := ⟨w.heap.size + 1, 0, none⟩) ne _).other (p := ⟨w.heap.size + 1, 1, none⟩) ne _).other (p := ⟨w.heap.size + 1, 2, none⟩) ne _
theorem KM.start (w : World) (a : Array Value) (W : World) (hW : W = ((w.alloc (Obj.cells a 26)).alloc (Obj.cells #[Value.int IntKind.i64 0, Value.string ⟨#[]⟩, Value.slice none 0 0] 50)).alloc (Obj.cells #[Value.int IntKind.i64 48, Value.string ⟨#[]⟩, Value.slice none 0 0] 50)) : KM w W a zZ := by
 have e0 : (w.alloc (Obj.cells a 26)).heap.size = w.heap.size + 1 := Array.size_push _;have e1 : ((w.alloc (Obj.cells a 26)).alloc (Obj.cells #[Value.int IntKind.i64 0, Value.string ⟨#[]⟩, Value.slice none 0 0] 50)).heap.size = w.heap.size + 1 + 1 := by rw [size_alloc, e0]
 refine ⟨by rw [hW]; exact (((Below.refl _ _).alloc (Nat.le_refl _) _).alloc (by rw [e0]; omega) _).alloc (by rw [e1]; omega) _, by rw [hW]; exact ((Blk.new w _ _).alloc _).alloc _, ⟨zI 0, zG ⟨#[]⟩, zZ, ?_⟩, ?_⟩
 ·have h := heap_alloc_new (w.alloc (Obj.cells a 26)) (Obj.cells #[Value.int IntKind.i64 0, Value.string ⟨#[]⟩, Value.slice none 0 0] 50)
  rw [e0] at h;rw [hW];exact (heap_alloc_old _ _ (by rw [e1]; omega)).trans h
 ·have h := heap_alloc_new ((w.alloc (Obj.cells a 26)).alloc (Obj.cells #[Value.int IntKind.i64 0, Value.string ⟨#[]⟩, Value.slice none 0 0] 50)) (Obj.cells #[Value.int IntKind.i64 48, Value.string ⟨#[]⟩, Value.slice none 0 0] 50)
  rw [e1] at h;rw [hW];exact h
def KX (w W : World) (a : Array Value) : Prop := ∃ kv, KM w W a kv
theorem KX.below {w W W' : World} {a : Array Value} (h : KX w W a) (hb : zW W W') : KX w W' a := by
 obtain ⟨kv, h⟩ := h;exact ⟨kv, h.below hb⟩
theorem bodyL_row {W W' : World} {b : Nat} {c : Cl} {kv : Value} {fp : List Nat} (h : OwnK W b 2 kv (c.revs.map revI) fp) (hb : b <= W.heap.size) (hW : W' = W.alloc (.cells (zI 12 :: zG c.issuer :: zZ :: zI 2 :: zG ⟨(intT (numN c.num)).toArray⟩ :: zZ :: zI 2 :: zG ⟨(intT (numN c.ths)).toArray⟩ :: zZ :: zI 2 :: zG ⟨(intT (numN c.nxt)).toArray⟩ :: zZ :: zI 2 :: zG ⟨(intT (numN c.bas)).toArray⟩ :: zZ :: zI 48 :: zG ⟨#[]⟩ :: kv :: []).toArray 50)) : ∃ fq, OwnK W' b 3 (zS (some ⟨W.heap.size, 0, none⟩) 6 6) (It.kids (bodyL c)) fq := by
 have nn := own_none W b 2;have R : RowsK W b 2 (It.kids (bodyL c)) [zZ, zZ, zZ, zZ, zZ, kv] [[], [], [], [], [], fp] := ⟨nn, nn, nn, nn, nn, h, trivial⟩;exact (R.grow (W' := W') (cap := 6) hb (by have := h.nodup; simpa using this) (by show 6 <= 1000; decide) rfl (by rw [hW]; rfl)).own
theorem l10Item_any (c : Cl) (v : Value) (w : World) (hz : wtL c <= 20000000) (hw : WdL c) (ha : ClAt w v c) : Calls Tryz.prog 58 #[v] w fun e w' => ToIt w 3 (bodyL c) e w' := by
 obtain ⟨z1, z2, z3⟩ := wtL_parts hz;obtain ⟨pv, rfl, hrv⟩ := ha;obtain ⟨pa, pc, hpa, hcell⟩ := hrv;have w1 := hw.1 c.num (by simp);have w2 := hw.1 c.ths (by simp);have w3 := hw.1 c.nxt (by simp);have w4 := hw.1 c.bas (by simp);have HN : Hid ((-9223372036854775808 <= c.num /\ c.num <= 9223372036854775807) /\ (-9223372036854775808 <= c.ths /\ c.ths <= 9223372036854775807) /\ (-9223372036854775808 <= c.nxt /\ c.nxt <= 9223372036854775807) /\ (-9223372036854775808 <= c.bas /\ c.bas <= 9223372036854775807)) := ⟨w1, w2, w3, w4⟩;obtain ⟨lp, hlp⟩ := zE (c.revs.length);rw [hlp] at hpa z2;subst hpa;have HX := zH (zJ (hcell : (∀ j, j < c.revs.length -> ∃ g, pa = some ⟨g, 0, none⟩ /\ g < w.heap.size /\ w.cell? ⟨g, j * 2, none⟩ = some (zI (c.revs.getD j (0, 0)).1) /\ w.cell? ⟨g, j * 2 + 1, none⟩ = some (zI (c.revs.getD j (0, 0)).2))) (zJ (hlp : c.revs.length = lp) hw.2.1));clear hcell hlp hw w1 w2 w3 w4 hz z1 z3;obtain ⟨ks, hks⟩ : ∃ ks : List (It 2), c.revs.map revI = ks := ⟨_, rfl⟩;have HK0 : Hid (c.revs.map revI = ks /\ ks.length = lp) := ⟨hks, by rw [<- hks, List.length_map]; exact HX.2.1⟩;clear hks;unfold clV;go_enter Tryz.func58, Tryz.ntmps58;go_wp2_with fail;obtain ⟨W3, hW3⟩ : ∃ W, W = ((w.alloc (Obj.cells (zCl c (zS pa lp pc)) 26)).alloc (Obj.cells #[Value.int IntKind.i64 0, Value.string ⟨#[]⟩, Value.slice none 0 0] 50)).alloc (Obj.cells #[Value.int IntKind.i64 48, Value.string ⟨#[]⟩, Value.slice none 0 0] 50) := ⟨_, rfl⟩;rw [<- hW3];have H3 : Hid (KM w W3 (zCl c (zS pa lp pc)) zZ) := KM.start w _ W3 hW3
 clear hW3
 go_loopw [4] (fun iv wr => ∃ k : Nat, k <= lp /\ iv = zI k /\ Hid (∃ kv : Value, KM w wr (zCl c (zS pa lp pc)) (kv) /\ GrowK wr (w.heap.size + 3) 1 kv (ks.take k))) (fun iv _ => lp - (intOf iv).toNat)
 case atStart => exact ⟨0, Nat.zero_le _, rfl, _, H3.out, GrowK.nil _ _ _⟩
 case round =>
  obtain ⟨k, hk, rfl, HR⟩ := hrel;obtain ⟨kv, hr1, hrG⟩ := HR.out;have HK : Hid (KM w wr (zCl c (zS pa lp pc)) (kv) /\ GrowK wr (w.heap.size + 3) 1 kv (ks.take k)) := ⟨hr1, hrG⟩;clear HR hr1 hrG H3;have y5 := fun j => HK.1.2.1.cell j
  by_cases hlt : k < lp
  ·have hlti : (k : Int) < (lp : Int) := by omega
   have hk0 : (0 : Int) <= (k : Int) := by omega
   have hj0 : k < c.revs.length := by rw [HX.2.1]; exact hlt
   have hj1 : k < ks.length := by rw [HK0.2]; exact hlt
   obtain ⟨g1, hax, hg1, hc1, hc2⟩ := HX.1 k hj0;have c10 : wr.cell? ⟨g1, k * 2, none⟩ = some (zI (c.revs.getD k (0, 0)).1) := (HK.1.1.cell (p := ⟨g1, k * 2, none⟩) hg1).trans hc1;have c11 : wr.cell? ⟨g1, k * 2 + 1, none⟩ = some (zI (c.revs.getD k (0, 0)).2) := (HK.1.1.cell (p := ⟨g1, k * 2 + 1, none⟩) hg1).trans hc2;have hm := HX.2.2 _ (getR_mem hj0);have hkx : ks[k] = revI ((c.revs.getD k (0, 0)).1, (c.revs.getD k (0, 0)).2) := by
    have h := HK0.1;subst h;simp [List.getD, hj0]
   generalize (c.revs.getD k (0, 0)).1 = s at *;generalize (c.revs.getD k (0, 0)).2 = r at *;have HT : Hid (It.tag ks[k] = 48 /\ (⟨(It.text ks[k]).toArray⟩ : ByteArray) = ⟨#[]⟩ /\ It.kids ks[k] = [intI s, intI r]) := by
    rw [hkx];exact ⟨rfl, rfl, rfl⟩
   have HWD : Hid (Wd [s, r]) := fun x hx => by
    simp only [List.mem_cons, List.not_mem_nil, or_false] at hx
    rcases hx with rfl | rfl
    ·exact hm.1
    ·exact hm.2
   have htl : (ks.take k).length = k := by rw [List.length_take]; omega
   have hsz3 := HK.1.size;have HG1 : Hid (g1 < w.heap.size /\ w.heap.size + 3 <= wr.heap.size) := ⟨hg1, hsz3⟩;subst hax;obtain ⟨⟨_, _, y2⟩, fy⟩ := cell_in HK.1.2.2.2;have HC : Hid (w.cell? ⟨g1, k * 2, none⟩ = some (zI s) /\ w.cell? ⟨g1, k * 2 + 1, none⟩ = some (zI r)) := ⟨hc1, hc2⟩;have HNE : Hid (∀ q, q < w.heap.size + 3 -> some q ≠ kv.ownBlock) := fun q hq e => by have := (HK.2.lt q e.symm).1; omega
   have HB : Hid (zW wr wr.drew) := (Below.refl _ _).drew;have HG : Hid (Blk3 wr.drew (w.heap.size + 1 + 1) (zI 48) (zG ⟨#[]⟩) kv) := HK.1.2.2.2.below ((Below.refl _ _).drew);clear hc1 hc2 hg1 hkx hm hsz3 y2 fy;go_wp2_with fail;refine wp_region_held_drew (S := fun W => KX w W (zCl c (zS (some ⟨g1, 0, none⟩) lp pc))) (by kernel_rfl) (KX.below ⟨_, HK.1⟩ ((Below.refl _ _).drew)) (fun hHeld => ?_);generalize wr.drew = Wd0 at hHeld HB HG |-;clear y5 c10 c11;refine zQ 0 13 rfl hHeld ?_;refine zQ 2 15 rfl hHeld ?_;refine zT 3 16 ?_ rfl (by rfl) ?_ hHeld ?_;rotate_left
   ·intro W hSw
    obtain ⟨_, hS1⟩ := hSw;have l0 : W.cell? ⟨w.heap.size, 5, none⟩ = some (zS (some ⟨g1, 0, none⟩) lp pc) := hS1.2.1.cell 5;go_simp
    try with_reducible rfl
   refine zQ 4 17 rfl hHeld ?_;refine zQ 5 18 rfl hHeld ?_;refine zQ 6 19 rfl hHeld ?_;refine zT 7 20 ?_ rfl (by rfl) ?_ hHeld ?_;rotate_left
   ·intro W hSw
    obtain ⟨_, hS1⟩ := hSw;have l0 : W.cell? ⟨g1, k * 2, none⟩ = some (zI s) := (hS1.1.cell (p := ⟨g1, k * 2, none⟩) HG1.1).trans HC.1;go_simp
    try with_reducible rfl
   refine zQ 8 21 rfl hHeld ?_;refine zT 9 22 ?_ rfl (by rfl) ?_ hHeld ?_;rotate_left
   ·intro W hSw
    obtain ⟨_, hS1⟩ := hSw;have l0 : W.cell? ⟨w.heap.size, 5, none⟩ = some (zS (some ⟨g1, 0, none⟩) lp pc) := hS1.2.1.cell 5;go_simp
    try with_reducible rfl
   refine zQ 10 23 rfl hHeld ?_;refine zQ 11 24 rfl hHeld ?_;refine zQ 12 25 rfl hHeld ?_;refine zT 13 26 ?_ rfl (by rfl) ?_ hHeld ?_;rotate_left
   ·intro W hSw
    obtain ⟨_, hS1⟩ := hSw;have l0 : W.cell? ⟨g1, k * 2 + 1, none⟩ = some (zI r) := (hS1.1.cell (p := ⟨g1, k * 2 + 1, none⟩) HG1.1).trans HC.2;go_simp
    try with_reducible rfl
   refine wpAnyH_ready (rs := [1, 14]) (by kernel_rfl) (by simp) ?_;refine AllReadyH.cons (o := ⟨some 14, _, _, _, _, _⟩) rfl (fun K hK => ?_) ?_;rotate_left
   ·refine AllReadyH.cons (o := ⟨some 27, _, _, _, _, _⟩) rfl (fun K hK => ?_) AllReadyH.nil
    obtain ⟨Wi1, hWi⟩ : ∃ W, W = Wd0.alloc (Obj.cells #[zI s, zI r] 3) := ⟨_, rfl⟩;have hv : zW Wd0 Wi1 := by rw [hWi]; exact (Below.refl _ _).alloc (Nat.le_refl _) _
    have HI : Hid (IntAt Wi1 (zS (some ⟨Wd0.heap.size, 0, none⟩) 2 2) [s, r]) := ints_own hWi;replace HB := zH (HB.trans (hv.mono HB.size));replace HG := zH (HG.below hv);have hH := KX.below hHeld hv;go_simp;rw [<- hWi];refine hK.out _ _ hH (fun hHeld => ?_);clear hK K hH hv hWi;obtain ⟨gi, hgi⟩ := zE (Wd0.heap.size);rw [hgi] at HI |-;clear hgi;refine wpAnyH_ready (rs := [1, 15]) (by kernel_rfl) (by simp) ?_;refine AllReadyH.cons (o := ⟨some 14, _, _, _, _, _⟩) rfl (fun K hK => ?_) ?_;rotate_left
    ·refine AllReadyH.cons (o := ⟨some 28, _, _, _, _, _⟩) rfl (fun K hK => ?_) AllReadyH.nil
     go_simp;refine (ints_any 0 [s, r] _ _ (by show 2 <= 20000000; decide) HWD.out HI.out).mono ?_;intro e v2 hto;obtain ⟨a3, l3, x3, f3, rfl, ho3, hv⟩ := to_any hto;clear hto HI;have hH := KX.below hHeld hv;have H3 := zH (zJ (by rw [HT.2.2]; exact OwnK.base HB.size ho3 : OwnK v2 wr.heap.size 1 (zS a3 l3 x3) (It.kids ks[k]) f3) (HB.trans (hv.mono HB.size)));clear HB;replace HG := zH (HG.below hv);go_wp2_with fail;refine hK.out _ _ hH (fun hHeld => ?_);clear hK K hH hv ho3;refine wpAnyH_ready (rs := [1, 16]) (by kernel_rfl) (by simp) ?_;refine AllReadyH.cons (o := ⟨some 14, _, _, _, _, _⟩) rfl (fun K hK => ?_) ?_;rotate_left
     ·refine AllReadyH.cons (o := ⟨some 29, _, _, _, _, _⟩) rfl (fun K hK => ?_) AllReadyH.nil
      have hH := KX.below hHeld ((Below.refl v2.heap.size v2).alloc (Nat.le_refl _) (Obj.cells #[zI 48, zG ⟨#[]⟩, zS a3 l3 x3] 50));have HGn : Hid (Blk3 (v2.alloc (Obj.cells #[zI 48, zG ⟨#[]⟩, zS a3 l3 x3] 50)) (w.heap.size + 1 + 1) (zI 48) (zG ⟨#[]⟩) kv) := HG.below ((Below.refl _ _).alloc (Nat.le_refl _) _);clear HG;have HG := HGn;clear HGn;go_simp;refine hK.out _ _ hH (fun hHeld => ?_);clear hK K hH;refine zR 1 14 rfl fun K hK => ?_
      have lk : (v2.alloc (Obj.cells #[zI 48, zG ⟨#[]⟩, zS a3 l3 x3] 50)).cell? ⟨w.heap.size + 1 + 1, 2, none⟩ = some kv := (cell_in HG.out).1.2.2;go_simp;refine hK.out _ _ hHeld (fun hHeld => ?_);clear hK K lk;refine zR 17 30 rfl fun K hK => ?_
      refine step_append_item0 (o := ⟨some 30, _, _, _, _, _⟩) rfl (.tmp 14) (.tmp 29) rfl (w.heap.size + 3) 1 kv (ks.take k) ks[k] 48 ⟨#[]⟩ (zS a3 l3 x3) f3 HT.1 HT.2.1 (by rfl) v2.heap.size (by rfl) rfl HK.2 H3.2 H3.1 HG1.2 (by omega) ?_;intro g cap w6 hG6 hgrow6;have hm6 := (HK.1.below (H3.2.alloc H3.2.size (Obj.cells #[zI 48, zG ⟨#[]⟩, zS a3 l3 x3] 50))).grown hgrow6 (fun q hq => (HK.2.lt q hq).1);have H6 : Hid (KM w w6 (zCl c (zS (some ⟨g1, 0, none⟩) lp pc)) kv /\ GrowK w6 (w.heap.size + 3) 1 (zS (some ⟨g, 0, none⟩) (k + 1) cap) (ks.take (k + 1))) := by
       have e := List.take_append_getElem hj1;rw [htl, e] at hG6;exact ⟨hm6, hG6⟩
      try rw [htl]
      clear hG6 hgrow6 hm6 HG H3;refine hK.out _ _ ⟨kv, H6.1⟩ (fun hHeld => ?_);clear hK K;refine zQ 18 31 rfl hHeld ?_;refine zN 19 rfl fun K hK => ?_
      obtain ⟨⟨q0, q1, q2⟩, qf⟩ := cell_in H6.1.2.2.2;go_simp;refine hK.out _ _ ⟨_, H6.1.laid _⟩ (fun hHeld => ?_);clear hK K hHeld q0 q1 q2 qf;refine wpAnyH_done (by kernel_rfl) ?_ _;go_wp2_with fail;refine ⟨⟨k + 1, by omega, by go_num, zS (some ⟨g, 0, none⟩) (k + 1) cap, H6.1.laid _, ?_⟩, by simp [intOf]; omega⟩;exact H6.2.out fun b hb => heap_setCell_other _ _ _ _ (by show b ≠ w.heap.size + 1 + 1; omega)
     have lk : v2.cell? ⟨w.heap.size + 1 + 1, 2, none⟩ = some kv := (cell_in HG.out).1.2.2;go_simp;refine hK.out _ _ hHeld (fun hHeld => ?_);clear hK K lk;refine zR 16 29 rfl fun K hK => ?_
     have hH := KX.below hHeld ((Below.refl v2.heap.size v2).alloc (Nat.le_refl _) (Obj.cells #[zI 48, zG ⟨#[]⟩, zS a3 l3 x3] 50));have HGn : Hid (Blk3 (v2.alloc (Obj.cells #[zI 48, zG ⟨#[]⟩, zS a3 l3 x3] 50)) (w.heap.size + 1 + 1) (zI 48) (zG ⟨#[]⟩) kv) := HG.below ((Below.refl _ _).alloc (Nat.le_refl _) _);clear HG;have HG := HGn;clear HGn;go_simp;refine hK.out _ _ hH (fun hHeld => ?_);clear hK K hH;refine zR 17 30 rfl fun K hK => ?_
     refine step_append_item0 (o := ⟨some 30, _, _, _, _, _⟩) rfl (.tmp 14) (.tmp 29) rfl (w.heap.size + 3) 1 kv (ks.take k) ks[k] 48 ⟨#[]⟩ (zS a3 l3 x3) f3 HT.1 HT.2.1 (by rfl) v2.heap.size (by rfl) rfl HK.2 H3.2 H3.1 HG1.2 (by omega) ?_;intro g cap w6 hG6 hgrow6;have hm6 := (HK.1.below (H3.2.alloc H3.2.size (Obj.cells #[zI 48, zG ⟨#[]⟩, zS a3 l3 x3] 50))).grown hgrow6 (fun q hq => (HK.2.lt q hq).1);have H6 : Hid (KM w w6 (zCl c (zS (some ⟨g1, 0, none⟩) lp pc)) kv /\ GrowK w6 (w.heap.size + 3) 1 (zS (some ⟨g, 0, none⟩) (k + 1) cap) (ks.take (k + 1))) := by
      have e := List.take_append_getElem hj1;rw [htl, e] at hG6;exact ⟨hm6, hG6⟩
     try rw [htl]
     clear hG6 hgrow6 hm6 HG H3;refine hK.out _ _ ⟨kv, H6.1⟩ (fun hHeld => ?_);clear hK K;refine zQ 18 31 rfl hHeld ?_;refine zN 19 rfl fun K hK => ?_
     obtain ⟨⟨q0, q1, q2⟩, qf⟩ := cell_in H6.1.2.2.2;go_simp;refine hK.out _ _ ⟨_, H6.1.laid _⟩ (fun hHeld => ?_);clear hK K hHeld q0 q1 q2 qf;refine wpAnyH_done (by kernel_rfl) ?_ _;go_wp2_with fail;refine ⟨⟨k + 1, by omega, by go_num, zS (some ⟨g, 0, none⟩) (k + 1) cap, H6.1.laid _, ?_⟩, by simp [intOf]; omega⟩;exact H6.2.out fun b hb => heap_setCell_other _ _ _ _ (by show b ≠ w.heap.size + 1 + 1; omega)
    have lk : Wi1.cell? ⟨w.heap.size + 1 + 1, 2, none⟩ = some kv := (cell_in HG.out).1.2.2;go_simp;refine hK.out _ _ hHeld (fun hHeld => ?_);clear hK K lk;refine zR 15 28 rfl fun K hK => ?_
    go_simp;refine (ints_any 0 [s, r] _ _ (by show 2 <= 20000000; decide) HWD.out HI.out).mono ?_;intro e v5 hto;obtain ⟨a3, l3, x3, f3, rfl, ho3, hv⟩ := to_any hto;clear hto HI;have hH := KX.below hHeld hv;have H3 := zH (zJ (by rw [HT.2.2]; exact OwnK.base HB.size ho3 : OwnK v5 wr.heap.size 1 (zS a3 l3 x3) (It.kids ks[k]) f3) (HB.trans (hv.mono HB.size)));clear HB;replace HG := zH (HG.below hv);go_wp2_with fail;refine hK.out _ _ hH (fun hHeld => ?_);clear hK K hH hv ho3;refine zR 16 29 rfl fun K hK => ?_
    have hH := KX.below hHeld ((Below.refl v5.heap.size v5).alloc (Nat.le_refl _) (Obj.cells #[zI 48, zG ⟨#[]⟩, zS a3 l3 x3] 50));have HGn : Hid (Blk3 (v5.alloc (Obj.cells #[zI 48, zG ⟨#[]⟩, zS a3 l3 x3] 50)) (w.heap.size + 1 + 1) (zI 48) (zG ⟨#[]⟩) kv) := HG.below ((Below.refl _ _).alloc (Nat.le_refl _) _);clear HG;have HG := HGn;clear HGn;go_simp;refine hK.out _ _ hH (fun hHeld => ?_);clear hK K hH;refine zR 17 30 rfl fun K hK => ?_
    refine step_append_item0 (o := ⟨some 30, _, _, _, _, _⟩) rfl (.tmp 14) (.tmp 29) rfl (w.heap.size + 3) 1 kv (ks.take k) ks[k] 48 ⟨#[]⟩ (zS a3 l3 x3) f3 HT.1 HT.2.1 (by rfl) v5.heap.size (by rfl) rfl HK.2 H3.2 H3.1 HG1.2 (by omega) ?_;intro g cap w6 hG6 hgrow6;have hm6 := (HK.1.below (H3.2.alloc H3.2.size (Obj.cells #[zI 48, zG ⟨#[]⟩, zS a3 l3 x3] 50))).grown hgrow6 (fun q hq => (HK.2.lt q hq).1);have H6 : Hid (KM w w6 (zCl c (zS (some ⟨g1, 0, none⟩) lp pc)) kv /\ GrowK w6 (w.heap.size + 3) 1 (zS (some ⟨g, 0, none⟩) (k + 1) cap) (ks.take (k + 1))) := by
     have e := List.take_append_getElem hj1;rw [htl, e] at hG6;exact ⟨hm6, hG6⟩
    try rw [htl]
    clear hG6 hgrow6 hm6 HG H3;refine hK.out _ _ ⟨kv, H6.1⟩ (fun hHeld => ?_);clear hK K;refine zQ 18 31 rfl hHeld ?_;refine zN 19 rfl fun K hK => ?_
    obtain ⟨⟨q0, q1, q2⟩, qf⟩ := cell_in H6.1.2.2.2;go_simp;refine hK.out _ _ ⟨_, H6.1.laid _⟩ (fun hHeld => ?_);clear hK K hHeld q0 q1 q2 qf;refine wpAnyH_done (by kernel_rfl) ?_ _;go_wp2_with fail;refine ⟨⟨k + 1, by omega, by go_num, zS (some ⟨g, 0, none⟩) (k + 1) cap, H6.1.laid _, ?_⟩, by simp [intOf]; omega⟩;exact H6.2.out fun b hb => heap_setCell_other _ _ _ _ (by show b ≠ w.heap.size + 1 + 1; omega)
   have lk : Wd0.cell? ⟨w.heap.size + 1 + 1, 2, none⟩ = some kv := (cell_in HG.out).1.2.2;go_simp;refine hK.out _ _ hHeld (fun hHeld => ?_);clear hK K lk;refine zR 14 27 rfl fun K hK => ?_
   obtain ⟨Wi7, hWi⟩ : ∃ W, W = Wd0.alloc (Obj.cells #[zI s, zI r] 3) := ⟨_, rfl⟩;have hv : zW Wd0 Wi7 := by rw [hWi]; exact (Below.refl _ _).alloc (Nat.le_refl _) _
   have HI : Hid (IntAt Wi7 (zS (some ⟨Wd0.heap.size, 0, none⟩) 2 2) [s, r]) := ints_own hWi;replace HB := zH (HB.trans (hv.mono HB.size));replace HG := zH (HG.below hv);have hH := KX.below hHeld hv;go_simp;rw [<- hWi];refine hK.out _ _ hH (fun hHeld => ?_);clear hK K hH hv hWi;obtain ⟨gi, hgi⟩ := zE (Wd0.heap.size);rw [hgi] at HI |-;clear hgi;refine zR 15 28 rfl fun K hK => ?_
   go_simp;refine (ints_any 0 [s, r] _ _ (by show 2 <= 20000000; decide) HWD.out HI.out).mono ?_;intro e v8 hto;obtain ⟨a3, l3, x3, f3, rfl, ho3, hv⟩ := to_any hto;clear hto HI;have hH := KX.below hHeld hv;have H3 := zH (zJ (by rw [HT.2.2]; exact OwnK.base HB.size ho3 : OwnK v8 wr.heap.size 1 (zS a3 l3 x3) (It.kids ks[k]) f3) (HB.trans (hv.mono HB.size)));clear HB;replace HG := zH (HG.below hv);go_wp2_with fail;refine hK.out _ _ hH (fun hHeld => ?_);clear hK K hH hv ho3;refine zR 16 29 rfl fun K hK => ?_
   have hH := KX.below hHeld ((Below.refl v8.heap.size v8).alloc (Nat.le_refl _) (Obj.cells #[zI 48, zG ⟨#[]⟩, zS a3 l3 x3] 50));have HGn : Hid (Blk3 (v8.alloc (Obj.cells #[zI 48, zG ⟨#[]⟩, zS a3 l3 x3] 50)) (w.heap.size + 1 + 1) (zI 48) (zG ⟨#[]⟩) kv) := HG.below ((Below.refl _ _).alloc (Nat.le_refl _) _);clear HG;have HG := HGn;clear HGn;go_simp;refine hK.out _ _ hH (fun hHeld => ?_);clear hK K hH;refine zR 17 30 rfl fun K hK => ?_
   refine step_append_item0 (o := ⟨some 30, _, _, _, _, _⟩) rfl (.tmp 14) (.tmp 29) rfl (w.heap.size + 3) 1 kv (ks.take k) ks[k] 48 ⟨#[]⟩ (zS a3 l3 x3) f3 HT.1 HT.2.1 (by rfl) v8.heap.size (by rfl) rfl HK.2 H3.2 H3.1 HG1.2 (by omega) ?_;intro g cap w6 hG6 hgrow6;have hm6 := (HK.1.below (H3.2.alloc H3.2.size (Obj.cells #[zI 48, zG ⟨#[]⟩, zS a3 l3 x3] 50))).grown hgrow6 (fun q hq => (HK.2.lt q hq).1);have H6 : Hid (KM w w6 (zCl c (zS (some ⟨g1, 0, none⟩) lp pc)) kv /\ GrowK w6 (w.heap.size + 3) 1 (zS (some ⟨g, 0, none⟩) (k + 1) cap) (ks.take (k + 1))) := by
    have e := List.take_append_getElem hj1;rw [htl, e] at hG6;exact ⟨hm6, hG6⟩
   try rw [htl]
   clear hG6 hgrow6 hm6 HG H3;refine hK.out _ _ ⟨kv, H6.1⟩ (fun hHeld => ?_);clear hK K;refine zQ 18 31 rfl hHeld ?_;refine zN 19 rfl fun K hK => ?_
   obtain ⟨⟨q0, q1, q2⟩, qf⟩ := cell_in H6.1.2.2.2;go_simp;refine hK.out _ _ ⟨_, H6.1.laid _⟩ (fun hHeld => ?_);clear hK K hHeld q0 q1 q2 qf;refine wpAnyH_done (by kernel_rfl) ?_ _;go_wp2_with fail;refine ⟨⟨k + 1, by omega, by go_num, zS (some ⟨g, 0, none⟩) (k + 1) cap, H6.1.laid _, ?_⟩, by simp [intOf]; omega⟩;exact H6.2.out fun b hb => heap_setCell_other _ _ _ _ (by show b ≠ w.heap.size + 1 + 1; omega)
  ·have hlti : ¬ (k : Int) < (lp : Int) := by omega
   have HE : Hid (∃ fp, OwnK wr (w.heap.size + 3) 2 kv (c.revs.map revI) fp) := by
    have h := HK.2;rw [List.take_of_length_le (by have := HK0.2; omega), <- HK0.1] at h;exact h.own
   obtain ⟨axe, cape, hkv⟩ := HK.2.shape;obtain ⟨le, hle⟩ := zE ((ks.take k).length);rw [hle] at hkv;subst hkv;clear hle;have HM : Hid (KM w wr (zCl c (zS pa lp pc)) (zS axe le cape)) := HK.1;clear HK;go_wp2_with fail;clear y5;refine wp_region_held_drew (S := fun W => KM w W (zCl c (zS pa lp pc)) (zS axe le cape)) (by kernel_rfl) (KM.below HM.out ((Below.refl _ _).drew)) (fun hHeld => ?_);have HE0 : Hid (∃ fp, OwnK wr.drew (w.heap.size + 3) 2 (zS axe le cape) (c.revs.map revI) fp) := by
    obtain ⟨fp, h⟩ := HE.out;exact ⟨fp, h.below (Below.refl _ _).drew (fun b hb => (OwnK.lt h b hb).2)⟩
   clear HM HE;generalize wr.drew = Wd0 at hHeld HE0 |-;refine zQ 0 32 rfl hHeld ?_;refine zT 1 33 ?_ rfl (by rfl) ?_ hHeld ?_;rotate_left
   ·intro W hSw
    have l0 : W.cell? ⟨w.heap.size, 0, none⟩ = some (zG c.issuer) := hSw.2.1.cell 0;go_simp
    try with_reducible rfl
   refine zQ 3 35 rfl hHeld ?_;refine zT 4 36 ?_ rfl (by rfl) ?_ hHeld ?_;rotate_left
   ·intro W hSw
    have l0 : W.cell? ⟨w.heap.size, 1, none⟩ = some (zI c.num) := hSw.2.1.cell 1;go_simp
    try with_reducible rfl
   refine zQ 6 38 rfl hHeld ?_;refine zT 7 39 ?_ rfl (by rfl) ?_ hHeld ?_;rotate_left
   ·intro W hSw
    have l0 : W.cell? ⟨w.heap.size, 2, none⟩ = some (zI c.ths) := hSw.2.1.cell 2;go_simp
    try with_reducible rfl
   refine zQ 9 41 rfl hHeld ?_;refine zT 10 42 ?_ rfl (by rfl) ?_ hHeld ?_;rotate_left
   ·intro W hSw
    have l0 : W.cell? ⟨w.heap.size, 3, none⟩ = some (zI c.nxt) := hSw.2.1.cell 3;go_simp
    try with_reducible rfl
   refine zQ 12 44 rfl hHeld ?_;refine zT 13 45 ?_ rfl (by rfl) ?_ hHeld ?_;rotate_left
   ·intro W hSw
    have l0 : W.cell? ⟨w.heap.size, 4, none⟩ = some (zI c.bas) := hSw.2.1.cell 4;go_simp
    try with_reducible rfl
   refine zT 15 47 ?_ rfl (by rfl) ?_ hHeld ?_;rotate_left
   ·intro W hSw
    obtain ⟨⟨l0, l1, l2⟩, -⟩ := cell_in hSw.2.2.2;go_simp
    try with_reducible rfl
   refine zR 2 34 rfl fun K hK => ?_
   go_simp;refine (specTextItem_any c.issuer _).mono ?_;rintro e v1 ⟨rfl, hv⟩;have hH := KM.below hHeld hv;have HE1 : Hid (∃ fp, OwnK v1 (w.heap.size + 3) 2 (zS axe le cape) (c.revs.map revI) fp) := by
    obtain ⟨fp, h⟩ := HE0.out;exact ⟨fp, h.below hv (fun b hb => (OwnK.lt h b hb).2)⟩
   clear HE0;go_wp2_with fail;refine hK.out _ _ hH (fun hHeld => ?_);clear hK K hH hv;refine zR 5 37 rfl fun K hK => ?_
   go_simp;refine (specIntItem_any c.num _ HN.1).mono ?_;rintro e v2 ⟨rfl, hv⟩;have hH := KM.below hHeld hv;have HE2 : Hid (∃ fp, OwnK v2 (w.heap.size + 3) 2 (zS axe le cape) (c.revs.map revI) fp) := by
    obtain ⟨fp, h⟩ := HE1.out;exact ⟨fp, h.below hv (fun b hb => (OwnK.lt h b hb).2)⟩
   clear HE1;go_wp2_with fail;refine hK.out _ _ hH (fun hHeld => ?_);clear hK K hH hv;refine zR 8 40 rfl fun K hK => ?_
   go_simp;refine (specIntItem_any c.ths _ HN.2.1).mono ?_;rintro e v3 ⟨rfl, hv⟩;have hH := KM.below hHeld hv;have HE3 : Hid (∃ fp, OwnK v3 (w.heap.size + 3) 2 (zS axe le cape) (c.revs.map revI) fp) := by
    obtain ⟨fp, h⟩ := HE2.out;exact ⟨fp, h.below hv (fun b hb => (OwnK.lt h b hb).2)⟩
   clear HE2;go_wp2_with fail;refine hK.out _ _ hH (fun hHeld => ?_);clear hK K hH hv;refine zR 11 43 rfl fun K hK => ?_
   go_simp;refine (specIntItem_any c.nxt _ HN.2.2.1).mono ?_;rintro e v4 ⟨rfl, hv⟩;have hH := KM.below hHeld hv;have HE4 : Hid (∃ fp, OwnK v4 (w.heap.size + 3) 2 (zS axe le cape) (c.revs.map revI) fp) := by
    obtain ⟨fp, h⟩ := HE3.out;exact ⟨fp, h.below hv (fun b hb => (OwnK.lt h b hb).2)⟩
   clear HE3;go_wp2_with fail;refine hK.out _ _ hH (fun hHeld => ?_);clear hK K hH hv;refine zR 14 46 rfl fun K hK => ?_
   go_simp;refine (specIntItem_any c.bas _ HN.2.2.2).mono ?_;rintro e v5 ⟨rfl, hv⟩;have hH := KM.below hHeld hv;have HE5 : Hid (∃ fp, OwnK v5 (w.heap.size + 3) 2 (zS axe le cape) (c.revs.map revI) fp) := by
    obtain ⟨fp, h⟩ := HE4.out;exact ⟨fp, h.below hv (fun b hb => (OwnK.lt h b hb).2)⟩
   clear HE4;go_wp2_with fail;refine hK.out _ _ hH (fun hHeld => ?_);clear hK K hH hv;refine zR 16 48 rfl fun K hK => ?_
   have HF : Hid (∃ fq, OwnK (v5.alloc (Obj.cells (zI 12 :: zG c.issuer :: zZ :: zI 2 :: zG ⟨(intT (numN c.num)).toArray⟩ :: zZ :: zI 2 :: zG ⟨(intT (numN c.ths)).toArray⟩ :: zZ :: zI 2 :: zG ⟨(intT (numN c.nxt)).toArray⟩ :: zZ :: zI 2 :: zG ⟨(intT (numN c.bas)).toArray⟩ :: zZ :: zI 48 :: zG ⟨#[]⟩ :: zS axe le cape :: []).toArray 50)) (w.heap.size + 3) 3 (zS (some ⟨v5.heap.size, 0, none⟩) 6 6) (It.kids (bodyL c)) fq) := by
    obtain ⟨fp, h⟩ := HE5.out;exact bodyL_row h (KM.size hHeld) rfl
   clear HE5;go_simp;refine hK.out _ _ (KM.below hHeld ((Below.refl _ _).alloc (Nat.le_refl _) _)) (fun hHeld => ?_);clear hK K;refine zQ 17 49 rfl hHeld ?_;refine zN 18 rfl fun K hK => ?_
   obtain ⟨W9, hW9⟩ : ∃ W, W = v5.alloc (Obj.cells (zI 12 :: zG c.issuer :: zZ :: zI 2 :: zG ⟨(intT (numN c.num)).toArray⟩ :: zZ :: zI 2 :: zG ⟨(intT (numN c.ths)).toArray⟩ :: zZ :: zI 2 :: zG ⟨(intT (numN c.nxt)).toArray⟩ :: zZ :: zI 2 :: zG ⟨(intT (numN c.bas)).toArray⟩ :: zZ :: zI 48 :: zG ⟨#[]⟩ :: zS axe le cape :: []).toArray 50) := ⟨_, rfl⟩;obtain ⟨q9, hq9⟩ := zE (v5.heap.size);rw [<- hW9] at HF hHeld |-;rw [hq9] at HF |-;clear hW9 hq9;obtain ⟨x9, y9, z9, hB9⟩ := hHeld.2.2.1;obtain ⟨⟨r0, r1, r2⟩, rf⟩ := cell_in hB9;go_simp;refine hK.out _ _ (KM.set hHeld _ _ _) (fun hHeld => ?_);clear hK K;refine wpAnyH_done (by kernel_rfl) ?_ _;have HEND : Hid (zW w _) := hHeld.1;clear hHeld;go_wp2_with fail;refine bodyPost_ret (v := .agg #[zI 48, zG ⟨#[]⟩, zS (some ⟨q9, 0, none⟩) 6 6]) (by simp [results, Tryz.results58, go_sem, r0, r1, r2]; try rfl) rfl ?_;obtain ⟨fp, hfp⟩ := HF.out;refine ⟨zS (some ⟨q9, 0, none⟩) 6 6, fp, rfl, ?_, HEND.out⟩;refine OwnK.base (base := w.heap.size + 3) (by omega) (hfp.same fun b hb => ?_);have h1 := (OwnK.lt hfp b hb).1;rw [heap_setCell_other _ _ _ _ (by show b ≠ w.heap.size + 1; omega), heap_setCell_other _ _ _ _ (by show b ≠ w.heap.size + 1; omega), heap_setCell_other _ _ _ _ (by show b ≠ w.heap.size + 1; omega)]
end Go.Proofs.YtcbjlbpkoneibaaGreatDoor
