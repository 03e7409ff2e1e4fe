/-
  Texts of the proof.
-/
import Derived.Test.YtcbjlbpkoneibaaGreatDoorSR43
set_option linter.unusedVariables false
set_option linter.unusedSimpArgs false
set_option maxRecDepth 100000
set_option maxHeartbeats 25600000
namespace Go.Proofs.YtcbjlbpkoneibaaGreatDoor
open Go.RowKit
def listedL : List (Int × Int) -> Int -> Int
 | [], _ => 0
 | p :: l, s => if p.1 = s then p.2 else listedL l s
theorem listed_hit {l : List (Int × Int)} {s : Int} {k : Nat} (hk : k < l.length) (h : (l.getD k (0, 0)).1 = s) : listedL (l.drop k) s = (l.getD k (0, 0)).2 := by
 rw [List.drop_eq_getElem_cons hk];have e : l.getD k (0, 0) = l[k] := by simp [List.getD, hk]
 rw [e] at h |-;show (if _ then _ else _) = _;rw [if_pos h]
theorem listed_miss {l : List (Int × Int)} {s : Int} {k : Nat} (hk : k < l.length) (h : ¬ (l.getD k (0, 0)).1 = s) : listedL (l.drop k) s = listedL (l.drop (k + 1)) s := by
 have e : l.getD k (0, 0) = l[k] := by simp [List.getD, hk]
 rw [e] at h;rw [List.drop_eq_getElem_cons hk];show (if _ then _ else _) = _;rw [if_neg h]
theorem listed_end {l : List (Int × Int)} {s : Int} {k : Nat} (hk : l.length <= k) : listedL (l.drop k) s = 0 := by
 rw [List.drop_eq_nil_of_le hk]; rfl
theorem specListed_any (c : Cl) (v : Value) (s : Int) (w : World) (hz : wtL c <= 1000000000) (ha : ClAt w v c) :
  Calls Tryz.prog 22 #[v, zI s] w fun e w' => e = .returned (zI (listedL c.revs s)) /\ zW w w' := by
 obtain ⟨pv, rfl, h1⟩ := ha;obtain ⟨z1, z2, z3⟩ := wtL_parts hz;clear hz;obtain ⟨pa, pc, hpa, hrev⟩ := h1;obtain ⟨lp, hlp⟩ := zE (c.revs.length);rw [hlp] at hpa z2;subst hpa;have HRV : Hid (c.revs.length = lp /\ ∀ j, j < c.revs.length -> ∃ g, pa = some ⟨g, 0, none⟩ /\ g < w.heap.size /\ w.cell? ⟨g, j * 2, none⟩ = some (zI (c.revs.getD j (0, 0)).1) /\ w.cell? ⟨g, j * 2 + 1, none⟩ = some (zI (c.revs.getD j (0, 0)).2)) := ⟨hlp, hrev⟩;clear hrev hlp;unfold clV;go_enter Tryz.func22, Tryz.ntmps22;go_wp2_with fail;obtain ⟨V, hV⟩ : ∃ V, V = w.alloc (Obj.cells (zCl c (zS pa lp pc)) 26) := ⟨_, rfl⟩;rw [<- hV];have G : Hid (zW w V /\ Blk V w.heap.size 26 (zCl c (zS pa lp pc))) := by rw [hV]; exact ⟨(Below.refl _ _).alloc (Nat.le_refl _) _, Blk.new w _ _⟩
 clear hV
 go_loopw [5] (fun iv wr => ∃ k : Nat, k <= lp /\ iv = zI k /\ Hid (listedL c.revs s = listedL (c.revs.drop k) s) /\ Hid (zW w wr /\ Blk wr w.heap.size 26 (zCl c (zS pa lp pc)))) (fun iv _ => lp - (intOf iv).toNat)
 case atStart => exact ⟨0, Nat.zero_le _, rfl, rfl, G.out⟩
 case round =>
  obtain ⟨k, hk, rfl, HI, HG⟩ := hrel;have c5 := fun j => HG.2.cell j
  by_cases hlt : k < lp
  ·obtain ⟨g, hao, hg, hc1, hc2⟩ := HRV.2 k (by rw [HRV.1]; exact hlt)
   have d1 : wr.cell? ⟨g, k * 2, none⟩ = some (zI (c.revs.getD k (0, 0)).1) := (HG.1.cell (p := ⟨g, k * 2, none⟩) hg).trans hc1;have d2 : wr.cell? ⟨g, k * 2 + 1, none⟩ = some (zI (c.revs.getD k (0, 0)).2) := (HG.1.cell (p := ⟨g, k * 2 + 1, none⟩) hg).trans hc2;have HX1 : Hid ((c.revs.getD k (0, 0)).1 = s -> listedL c.revs s = (c.revs.getD k (0, 0)).2) := fun q => by rw [HI.out]; exact listed_hit (by rw [HRV.1]; exact hlt) q
   have HX2 : Hid (¬ (c.revs.getD k (0, 0)).1 = s -> listedL c.revs s = listedL (c.revs.drop (k + 1)) s) := fun q => by rw [HI.out]; exact listed_miss (by rw [HRV.1]; exact hlt) q
   generalize (c.revs.getD k (0, 0)).1 = x at *;generalize (c.revs.getD k (0, 0)).2 = r at *;subst hao;have HGL : Hid (g < w.heap.size) := hg;have HAL : Hid (∀ o, zW w (wr.alloc o) /\ Blk (wr.alloc o) w.heap.size 26 (zCl c (zS (some ⟨g, 0, none⟩) lp pc))) := fun o => ⟨HG.1.alloc HG.1.size o, HG.2.alloc o⟩
   clear hc1 hc2 hg HI;have hki : (k : Int) < (lp : Int) := by omega
   have hk0 : (0 : Int) <= (k : Int) := by omega
   by_cases he : x = s
   ·have HF : Hid (listedL c.revs s = r) := HX1.out he
    subst he;clear HX1 HX2;go_wp2_with fail;go_ret;exact ⟨by rw [HF.out]; rfl, by first | exact HG.1 | exact (HAL.out _).1⟩
   ·have HN : Hid (listedL c.revs s = listedL (c.revs.drop (k + 1)) s) := HX2.out he
    have hq : (x == s) = false := beq_eq_false_iff_ne.2 he;clear HX1 HX2;go_wp2_with fail
    go_roundw
    case rel => exact ⟨k + 1, by omega, by go_num, HN, by first | exact HG.out | exact HAL.out _⟩
    case measure => simp [intOf]; omega
  ·have hki : ¬ (k : Int) < (lp : Int) := by omega
   have HF : Hid (listedL c.revs s = 0) := by show listedL c.revs s = 0; rw [HI.out]; exact listed_end (by rw [HRV.1]; omega)
   go_wp2_with fail;go_ret;exact ⟨by rw [HF.out]; rfl, HG.1⟩
theorem implListed_any (c : Cl) (v : Value) (s : Int) (w : World) (hz : wtL c <= 1000000000) (ha : ClAt w v c) :
  Calls Tryz.prog 21 #[v, zI s] w fun e w' => e = .returned (zI (listedL c.revs s)) /\ zW w w' := by
 obtain ⟨pv, rfl, h1⟩ := ha;obtain ⟨z1, z2, z3⟩ := wtL_parts hz;clear hz;obtain ⟨pa, pc, hpa, hrev⟩ := h1;obtain ⟨lp, hlp⟩ := zE (c.revs.length);rw [hlp] at hpa z2;subst hpa;have HRV : Hid (c.revs.length = lp /\ ∀ j, j < c.revs.length -> ∃ g, pa = some ⟨g, 0, none⟩ /\ g < w.heap.size /\ w.cell? ⟨g, j * 2, none⟩ = some (zI (c.revs.getD j (0, 0)).1) /\ w.cell? ⟨g, j * 2 + 1, none⟩ = some (zI (c.revs.getD j (0, 0)).2)) := ⟨hlp, hrev⟩;clear hrev hlp;unfold clV;go_enter Tryz.func21, Tryz.ntmps21;go_wp2_with fail;obtain ⟨V, hV⟩ : ∃ V, V = w.alloc (Obj.cells (zCl c (zS pa lp pc)) 26) := ⟨_, rfl⟩;rw [<- hV];have G : Hid (zW w V /\ Blk V w.heap.size 26 (zCl c (zS pa lp pc))) := by rw [hV]; exact ⟨(Below.refl _ _).alloc (Nat.le_refl _) _, Blk.new w _ _⟩
 clear hV
 go_loopw [10] (fun iv wr => ∃ k : Nat, k <= lp /\ iv = zI k /\ Hid (listedL c.revs s = listedL (c.revs.drop k) s) /\ Hid (zW w wr /\ Blk wr w.heap.size 26 (zCl c (zS pa lp pc)))) (fun iv _ => lp - (intOf iv).toNat)
 case atStart => exact ⟨0, Nat.zero_le _, rfl, rfl, G.out⟩
 case round =>
  obtain ⟨k, hk, rfl, HI, HG⟩ := hrel;have c5 := fun j => HG.2.cell j
  by_cases hlt : k < lp
  ·obtain ⟨g, hao, hg, hc1, hc2⟩ := HRV.2 k (by rw [HRV.1]; exact hlt)
   have d1 : wr.cell? ⟨g, k * 2, none⟩ = some (zI (c.revs.getD k (0, 0)).1) := (HG.1.cell (p := ⟨g, k * 2, none⟩) hg).trans hc1;have d2 : wr.cell? ⟨g, k * 2 + 1, none⟩ = some (zI (c.revs.getD k (0, 0)).2) := (HG.1.cell (p := ⟨g, k * 2 + 1, none⟩) hg).trans hc2;have HX1 : Hid ((c.revs.getD k (0, 0)).1 = s -> listedL c.revs s = (c.revs.getD k (0, 0)).2) := fun q => by rw [HI.out]; exact listed_hit (by rw [HRV.1]; exact hlt) q
   have HX2 : Hid (¬ (c.revs.getD k (0, 0)).1 = s -> listedL c.revs s = listedL (c.revs.drop (k + 1)) s) := fun q => by rw [HI.out]; exact listed_miss (by rw [HRV.1]; exact hlt) q
   generalize (c.revs.getD k (0, 0)).1 = x at *;generalize (c.revs.getD k (0, 0)).2 = r at *;subst hao;have HGL : Hid (g < w.heap.size) := hg;have HAL : Hid (∀ o, zW w (wr.alloc o) /\ Blk (wr.alloc o) w.heap.size 26 (zCl c (zS (some ⟨g, 0, none⟩) lp pc))) := fun o => ⟨HG.1.alloc HG.1.size o, HG.2.alloc o⟩
   clear hc1 hc2 hg HI;have hki : (k : Int) < (lp : Int) := by omega
   have hk0 : (0 : Int) <= (k : Int) := by omega
   by_cases he : x = s
   ·have HF : Hid (listedL c.revs s = r) := HX1.out he
    subst he;clear HX1 HX2;go_wp2_with fail;go_ret;exact ⟨by rw [HF.out]; rfl, by first | exact HG.1 | exact (HAL.out _).1⟩
   ·have HN : Hid (listedL c.revs s = listedL (c.revs.drop (k + 1)) s) := HX2.out he
    have hq : (x == s) = false := beq_eq_false_iff_ne.2 he;clear HX1 HX2;go_wp2_with fail
    go_roundw
    case rel => exact ⟨k + 1, by omega, by go_num, HN, by first | exact HG.out | exact HAL.out _⟩
    case measure => simp [intOf]; omega
  ·have hki : ¬ (k : Int) < (lp : Int) := by omega
   have HF : Hid (listedL c.revs s = 0) := by show listedL c.revs s = 0; rw [HI.out]; exact listed_end (by rw [HRV.1]; omega)
   go_wp2_with fail;go_ret;exact ⟨by rw [HF.out]; rfl, HG.1⟩
open Go.RowKit Der
theorem l09Kids_any (t : Int) (s : ByteArray) (a : Option Addr) (l c : Nat) (n : Int) (w : World) : Calls Tryz.prog 36 #[.agg #[zI t, zG s, zS a l c], zI n] w fun e w' => e = .returned (.tuple #[zS a l c, .bool (decide (t = 48 /\ (l : Int) = n))]) /\ zW w w' := by
 obtain ⟨B, hB⟩ := zE (decide (t = 48 /\ (l : Int) = n));rw [hB];have HB : Hid (decide (t = 48 /\ (l : Int) = n) = B) := hB;clear hB;obtain ⟨W1, hW1⟩ : ∃ V, V = w.alloc (Obj.cells #[zI t, zG s, zS a l c] 50) := ⟨_, rfl⟩;have hB1 : Blk W1 w.heap.size 50 #[zI t, zG s, zS a l c] := by rw [hW1]; exact Blk.new _ _ _
 have HB1 : Hid (zW w W1) := by rw [hW1]; exact (Below.refl _ _).alloc (Nat.le_refl _) _
 have c0 := fun j => hB1.cell j
 clear hB1;by_cases ht : t = 48
 ·subst ht
  have HB2 : Hid (((l : Int) == n) = B) := by
   have h := HB.out;rw [<- h];show ((l : Int) == n) = decide _;rw [Bool.eq_iff_iff];simp
  go_enter Tryz.func36, Tryz.ntmps36;go_wp2_with fail;rw [<- hW1];clear hW1
  go_quiet (fail)
  go_wp2_with fail
  go_ret2
  exact ⟨by rw [<- HB2.out]; rfl, ⟨HB1.out.os, HB1.out.tape, HB1.out.output, HB1.size, HB1.out.block⟩⟩
 ·have hbq : (t == 48) = false := beq_eq_false_iff_ne.2 ht
  have HB2 : Hid (B = false) := by
   have h := HB.out;rw [<- h];exact decide_eq_false (fun q => ht q.1)
  clear ht;go_enter Tryz.func36, Tryz.ntmps36;go_wp2_with fail;rw [<- hW1];clear hW1
  go_quiet (fail)
  go_wp2_with fail
  go_ret2
  exact ⟨by rw [HB2.out]; rfl, ⟨HB1.out.os, HB1.out.tape, HB1.out.output, HB1.size, HB1.out.block⟩⟩
theorem intsIn_any (n : Nat) (t : Int) (s : ByteArray) (ks : List (It (n + 1))) (a : Option Addr) (l c : Nat) (w : World) (hk : KcAt w (n + 1) (zS a l c) ks) (hl : ks.length <= 1000000) (hz : ∀ y ∈ ks, szI (n + 1) y <= 1000000) : Calls Tryz.prog 38 #[.agg #[zI t, zG s, zS a l c]] w fun e w' => ∃ u, e = .returned u /\ OwnI w' w.heap.size u (ks.map numI) /\ zW w w' := by
 obtain ⟨i0, hi, hz0, hz1, hz2⟩ := info_parts info3;obtain ⟨ao, cap, hv, _, hcell⟩ := hk;injection hv with hv1 hv2 hv3
 subst hv1 hv3;have HX : Hid ((0 < ks.length -> ∃ g o, a = some ⟨g, o, none⟩ /\ g < w.heap.size /\ ∀ j (hj : j < ks.length), ∃ k, w.cell? ⟨g, o + j * 3, none⟩ = some (zI (It.tag ks[j])) /\ w.cell? ⟨g, o + j * 3 + 1, none⟩ = some (zG ⟨(It.text ks[j]).toArray⟩) /\ w.cell? ⟨g, o + j * 3 + 2, none⟩ = some k /\ KcAt w n k (It.kids ks[j])) /\ l = ks.length /\ (∀ y ∈ ks, szI (n + 1) y <= 1000000)) := ⟨hcell, hv2, hz⟩;have hlb : l <= 1000000 := by omega
 clear hcell hv2 hl hz;go_enter Tryz.func38, Tryz.ntmps38;go_wp2_with fail;obtain ⟨W3, hW3⟩ : ∃ V, V = (w.alloc (Obj.cells #[zI t, zG s, zS a l c] 50)).alloc (Obj.cells #[] 3) := ⟨_, rfl⟩;rw [<- hW3];have e0 : (w.alloc (Obj.cells #[zI t, zG s, zS a l c] 50)).heap.size = w.heap.size + 1 := Array.size_push _;have H3 : Hid (zW w W3 /\ W3.heap.size = w.heap.size + 2 /\ Blk W3 w.heap.size 50 #[zI t, zG s, zS a l c] /\ OwnI W3 (w.heap.size + 1) (zS (some ⟨w.heap.size + 1, 0, none⟩) 0 0) []) := by
  rw [hW3];refine ⟨((Below.refl _ _).alloc (Nat.le_refl _) _).alloc (by rw [e0]; omega) _, by rw [size_alloc, e0], (Blk.new w _ _).alloc _, ?_⟩;have h := World.ownsRow_made (base := w.heap.size + 1) (e := 3) (size := 1) (w.alloc (Obj.cells #[zI t, zG s, zS a l c] 50)) #[] 0 (by rw [e0]; exact Nat.le_refl _) (Nat.zero_le _) rfl;rw [e0] at h;exact h
 clear hW3 e0
 go_loopw [3, 4] (fun lv iv wr => ∃ k : Nat, k <= l /\ iv = zI k /\ Hid (OwnI wr (w.heap.size + 1) lv ((ks.take k).map numI) /\ Blk wr w.heap.size 50 #[zI t, zG s, zS a l c] /\ zW w wr /\ w.heap.size + 1 <= wr.heap.size)) (fun _ iv _ => l - (intOf iv).toNat)
 case atStart => exact ⟨0, Nat.zero_le _, rfl, H3.2.2.2, H3.2.2.1, H3.1, by rw [H3.2.1]; omega⟩
 case round =>
  obtain ⟨k, hk, rfl, HK⟩ := hrel;clear H3;obtain ⟨la, lc, hlv⟩ : ∃ ao cap, u3 = zS ao ((ks.take k).map numI).length cap := by obtain ⟨ao, cap, h, _⟩ := HK.1.at; exact ⟨ao, cap, h⟩
  have hlen : ((ks.take k).map numI).length = k := by rw [List.length_map, List.length_take]; have := HX.2.1; omega
  rw [hlen] at hlv;subst hlv;have HLEN : Hid (((ks.take k).map numI).length = k) := hlen;clear hlen;have cB := fun j => HK.2.1.cell j
  by_cases hlt : k < l
  ·have hlti : (k : Int) < (l : Int) := by omega
   have hk0 : (0 : Int) <= (k : Int) := by omega
   have hj : k < ks.length := by have := HX.2.1; omega
   obtain ⟨g1, o1, ha, hg1, hcs⟩ := HX.1 (by omega);obtain ⟨kk, d0, d1, d2, hkk⟩ := hcs k hj;have c0 : wr.cell? ⟨g1, o1 + k * 3, none⟩ = some (zI (It.tag ks[k])) := (HK.2.2.1.cell (p := ⟨g1, o1 + k * 3, none⟩) hg1).trans d0;have c1 : wr.cell? ⟨g1, o1 + k * 3 + 1, none⟩ = some (zG ⟨(It.text ks[k]).toArray⟩) := (HK.2.2.1.cell (p := ⟨g1, o1 + k * 3 + 1, none⟩) hg1).trans d1;have c2 : wr.cell? ⟨g1, o1 + k * 3 + 2, none⟩ = some kk := (HK.2.2.1.cell (p := ⟨g1, o1 + k * 3 + 2, none⟩) hg1).trans d2;obtain ⟨ak, ck, hks⟩ := hkk.shape;have HN : Hid ((ks.take (k + 1)).map numI = (ks.take k).map numI ++ [numI ks[k]]) := by
    show (ks.take (k + 1)).map numI = _;rw [<- List.take_append_getElem hj, List.map_append];rfl
   have E := specIntIn_any (n + 1) ks[k] (.agg #[zI (It.tag ks[k]), zG ⟨(It.text ks[k]).toArray⟩, kk]) wr (ItAt.below HK.2.2.1 ⟨kk, rfl, hkk.at⟩) (Nat.le_trans (HX.2.2 ks[k] (List.getElem_mem _)) (by decide));obtain ⟨x, hx⟩ : ∃ x : Int, (((inI (n + 1) ks[k]).getD 0 : Nat) : Int) = x := ⟨_, rfl⟩;have HXK : Hid (numI ks[k] = x) := hx;rw [hx] at E;generalize (inI (n + 1) ks[k]).isSome = okk at E;generalize It.tag ks[k] = tk at E c0;generalize (⟨(It.text ks[k]).toArray⟩ : ByteArray) = sk at E c1;subst ha;obtain ⟨lk, hlk⟩ := zE ((It.kids ks[k]).length);rw [hlk] at hks;subst hks;clear d0 d1 d2 hkk hcs hg1 hx hlk;go_wp2_with fail;refine E.mono ?_;rintro e w3 ⟨rfl, hb3⟩;obtain ⟨W4, hW4⟩ : ∃ V, V = w3.alloc (Obj.cells #[zI x] 3) := ⟨_, rfl⟩;have hb4 : zW w3 W4 := by rw [hW4]; exact (Below.refl _ _).alloc (Nat.le_refl _) _
   have hb34 : zW wr W4 := hb3.trans (hb4.mono hb3.size);have H4 := zH (zJ (HK.1.stays hb34) (zJ (by rw [hW4]; exact rone_int w3 x : OwnI W4 w3.heap.size (zS (some ⟨w3.heap.size, 0, none⟩) 1 1) [x]) (zJ (HK.2.1.on hb34) (zJ (HK.2.2.1.trans (hb34.mono HK.2.2.1.size)) (Nat.le_trans HK.2.2.2 hb34.size)))));clear hb3 hb4 hb34 E HK c0 c1 c2 cB;go_wp2_with (at_builtin; rw [<- hW4]; refine wpList_append_ints2 rfl _ _ 70 rfl (w.heap.size + 1) i0 Tryz.underlying70 hi hz0 hz1 hz2 (zS la k lc) ((ks.take k).map numI).length (cellsI ((ks.take k).map numI)) rfl H4.1 _ [x] w3.heap.size H4.2.1 rfl (by have := HLEN.out; simp only [List.length_singleton]; omega) H4.2.2.2.2 ?_);intro v9 w9 ho9 hg9;rw [<- hW4] at hg9;have H9 : Hid (OwnI w9 (w.heap.size + 1) v9 ((ks.take (k + 1)).map numI) /\ Blk w9 w.heap.size 50 #[zI t, zG s, zS (some ⟨g1, o1, none⟩) l c] /\ zW w w9 /\ w.heap.size + 1 <= w9.heap.size) := by
    have hrl := fun b hb => (World.ownsRow.lt H4.1 b hb).1
    refine ⟨?_, H4.2.2.1.grown hg9 (fun e => by have := hrl _ e.symm; omega), H4.2.2.2.1.grown hg9 H4.2.2.2.1.size (fun b hb => by have := hrl b hb; omega), Nat.le_trans H4.2.2.2.2 hg9.size⟩;rw [HN.out, HXK.out];simpa [OwnI, cellsI_append] using ho9
   clear ho9 hg9 H4 hW4;go_wp2_with fail;exact ⟨⟨k + 1, by omega, by go_num, H9⟩, by simp [intOf]; omega⟩
  ·have hlti : ¬ (k : Int) < (l : Int) := by omega
   have HE : Hid (OwnI wr (w.heap.size + 1) (zS la k lc) (ks.map numI) /\ zW w wr) := by
    have h := HK.1;rw [List.take_of_length_le (by have := HX.2.1; omega)] at h;exact ⟨h, HK.2.2.1⟩
   go_wp2_with fail;go_ret;exact ⟨_, rfl, HE.1.base (by omega), HE.2⟩
theorem specL_none {m : Nat} {x : It (m + 5)} (h : ¬ (It.tag x = 48 /\ (It.kids x).length = 2)) : specL x = none := by
 unfold specL
 split
 ·next b sg hk =>
  split
  ·rw [if_neg (fun q => h ⟨q.1, by rw [hk]; rfl⟩)]
  ·rfl
 ·rfl
theorem specL_none2 {m : Nat} {x : It (m + 5)} {b sg : It (m + 4)} (hx : It.kids x = [b, sg]) (h : ¬ (It.tag b = 48 /\ (It.kids b).length = 6)) : specL x = none := by
 unfold specL;rw [hx];dsimp only
 split
 ·next hk => rw [if_neg (fun q => h ⟨q.2, by rw [hk]; rfl⟩)]
 ·rfl
theorem specL_some {m : Nat} {x : It (m + 5)} {b sg : It (m + 4)} {k0 k1 k2 k3 k4 k5 : It (m + 3)} (hx : It.kids x = [b, sg]) (hb : It.kids b = [k0, k1, k2, k3, k4, k5]) (h1 : It.tag x = 48) (h2 : It.tag b = 48) : specL x = (pairsI (It.kids k5)).map fun l => ⟨baL (It.text k0), numI k1, numI k2, numI k3, numI k4, l, baL (It.text sg)⟩ := by
 unfold specL;rw [hx];dsimp only;rw [hb];dsimp only;rw [if_pos ⟨h1, h2⟩]
theorem numI_inL {k : Nat} (y : It (k + 1)) : 0 <= numI y /\ numI y <= 1000000000 := by
 unfold numI
 cases h : inI (k + 1) y with
 | none => exact ⟨by decide, by decide⟩
 | some v =>
  have := (in_some h).2.2.2;show (0 : Int) <= ((v : Nat) : Int) /\ ((v : Nat) : Int) <= 1000000000;omega
theorem pairs_in {k : Nat} : ∀ {ks : List (It (k + 2))} {l : List (Int × Int)}, pairsI ks = some l -> l.length = ks.length /\ ∀ v ∈ l, (0 <= v.1 /\ v.1 <= 1000000000) /\ (0 <= v.2 /\ v.2 <= 1000000000)
 | [], l, h => by
  simp only [pairsI, Option.some.injEq] at h;subst h;exact ⟨rfl, fun v hv => by simp at hv⟩
 | y :: r, l, h => by
  unfold pairsI at h;obtain ⟨p, hp, h⟩ := Option.bind_eq_some_iff.1 h;obtain ⟨l', hl, h⟩ := Option.map_eq_some_iff.1 h;subst h;obtain ⟨e1, e2⟩ := pairs_in hl;refine ⟨by simp [e1], fun v hv => ?_⟩
  rcases List.mem_cons.1 hv with rfl | hv
  ·unfold pairI at hp
   split at hp
   ·simp only [Option.some.injEq] at hp
    subst hp;exact ⟨numI_inL _, numI_inL _⟩
   ·cases hp
  ·exact e2 v hv
theorem wtL_spec {m : Nat} {x : It (m + 5)} {b sg : It (m + 4)} {k0 k1 k2 k3 k4 k5 : It (m + 3)} {l : List (Int × Int)} (hx : It.kids x = [b, sg]) (hb : It.kids b = [k0, k1, k2, k3, k4, k5]) (hl : pairsI (It.kids k5) = some l) (hz : szI (m + 5) x <= 4000) (c : Cl) (hc : c = ⟨baL (It.text k0), numI k1, numI k2, numI k3, numI k4, l, baL (It.text sg)⟩) : wtL c <= 1048576 /\ WdL c := by
 have z0 : szI (m + 5) x = (It.text x).length + (It.kids x).length + ((It.kids x).map (szI (m + 4))).sum := szL_item x;rw [hx] at z0;simp only [List.map_cons, List.map_nil, List.sum_cons, List.sum_nil, List.length_cons, List.length_nil] at z0;have z1 : szI (m + 4) b = (It.text b).length + (It.kids b).length + ((It.kids b).map (szI (m + 3))).sum := szL_item b;rw [hb] at z1;simp only [List.map_cons, List.map_nil, List.sum_cons, List.sum_nil, List.length_cons, List.length_nil] at z1;have t0 : (baL (It.text k0)).size <= szI (m + 3) k0 := itxtL_le k0;have ts : (baL (It.text sg)).size <= szI (m + 4) sg := itxtL_le sg;have s5 : szI (m + 3) k5 = (It.text k5).length + (It.kids k5).length + ((It.kids k5).map (szI (m + 2))).sum := szL_item k5;obtain ⟨e1, e2⟩ := pairs_in hl;have w1 : (baL (It.text k0)).size <= 4000 := by omega
 have w2 : (baL (It.text sg)).size <= 4000 := by omega
 have w3 : l.length <= 4000 := by omega
 subst hc;refine ⟨by unfold wtL; show (baL (It.text k0)).size + l.length + (baL (It.text sg)).size <= 1048576; omega, fun y hy => ?_, fun v hv => ?_, fun s hs => ?_, by show l.length <= _; omega⟩
 ·simp only [List.mem_cons, List.not_mem_nil, or_false] at hy
  have b1 := numI_inL k1;have b2 := numI_inL k2;have b3 := numI_inL k3;have b4 := numI_inL k4
  rcases hy with rfl | rfl | rfl | rfl <;> omega
 ·have := e2 v hv
  omega
 ·simp only [List.mem_cons, List.not_mem_nil, or_false] at hs
  rcases hs with rfl | rfl
  ·show (baL (It.text k0)).size <= _; omega
  ·show (baL (It.text sg)).size <= _; omega
def RL8 (w w2 W : World) (g : Nat) (cells : Array Value) : Prop :=
 zW w W /\ zW w2 W /\ Blk W w.heap.size 26 #[zG ⟨#[]⟩, zI 0, zI 0, zI 0, zI 0, zZ, zG ⟨#[]⟩] /\ Blk W g 26 cells /\ (w2.heap.size <= g /\ w.heap.size < w2.heap.size)
theorem RL8.below {w w2 W W' : World} {g : Nat} {cells : Array Value} (h : RL8 w w2 W g cells) (hb : zW W W') : RL8 w w2 W' g cells :=
 ⟨h.1.trans (hb.mono h.1.size), h.2.1.trans (hb.mono h.2.1.size), h.2.2.1.on hb, h.2.2.2.1.on hb, h.2.2.2.2⟩
theorem RL8.set {w w2 W : World} {g : Nat} {cells cells' : Array Value} (h : RL8 w w2 W g cells) (j : Nat) (v : Value) (hc : cells.setIfInBounds j v = cells') : RL8 w w2 (W.setCell ⟨g, j, none⟩ v) g cells' := by
 obtain ⟨h1, h2, h3, h4, h10⟩ := h;have ho : Out [g] W (W.setCell ⟨g, j, none⟩ v) := out_set _ _ _;exact ⟨below_out h1 ho (by omega), below_out h2 ho h10.1, h3.outX ho (by simp; omega), by rw [<- hc]; exact h4.set j v, h10⟩
theorem step_append_revs {w : World} {ops : Array Oper} {o : Oper} {a : Act} {K : Act -> World -> Prop} {Q : Exit -> Act -> World -> Prop} {E : Prop} (hgd : o.guard = none) (s x : Operand)
  (ho : o.op = .call { callee := .builtin .append, args := #[s, x], argTypes := #[24, 24] }) (base : Nat)
  (v : Value) (l : List (Int × Int)) (hs : a.eval s = v) (hown : OwnR w base v l) (g cap : Nat) (p : Int × Int) (bu : Nat) (hu : OwnR w bu (zS (some ⟨g, 0, none⟩) 1 cap) [p]) (hx : a.eval x = zS (some ⟨g, 0, none⟩) 1 cap) (hlen : l.length <= 100000) (hbase : base <= w.heap.size)
  (h : ∀ v' w', OwnR w' base v' (l ++ [p]) -> w.grownBy w' v.ownBlock -> K (a.put o.dst v') w') :
  if Region.wanted o (yielded ops a.tmps) = true then Oper.wp Tryz.prog o a w K Q else E := by
 rw [if_pos (by simp [Region.wanted, hgd])];obtain ⟨i0, hi, hz0, hz1, hz2⟩ := info_parts infoRev;refine wp_append_own w s x 24 ho base 73 i0 (.agg #[zI 0, zI 0]) 2 16 Tryz.underlying24 hi hz0 hz1 hz2 rfl (by decide) v l.length (cellsR l) hs hown ⟨g, 0, none⟩ 1 cap (cellsR [p]) hx (by rw [cellsR_len]; rfl) (fun j q hq => ?_) (revs_one [p]) (by unfold maxLen; omega) (by omega) hbase (fun v' w' h1 h2 _ => h v' w' (by simpa [OwnR, cellsR_append] using h1) h2);have hj : j < 1 * 2 := by
  refine Nat.lt_of_not_le fun h => ?_
  rw [List.getElem?_eq_none (by rw [cellsR_len]; exact h)] at hq
  cases hq
 rw [Addr.add_lit, Nat.zero_add, World.ownsRow.cellAt hu j hj];exact hq
theorem pairs_none {k : Nat} {ks : List (It (k + 2))} {j : Nat} (hj : j < ks.length) (h : ¬ (It.kids ks[j]).length = 2) : pairsI (ks.drop j) = none := by
 rw [List.drop_eq_getElem_cons hj];unfold pairsI;have e : pairI ks[j] = none := by
  unfold pairI
  split
  ·next hk => exact absurd (by rw [hk]; rfl) h
  ·rfl
 rw [e];rfl
theorem pairs_step {k : Nat} {ks : List (It (k + 2))} {j : Nat} {a b : It (k + 1)} (hj : j < ks.length) (h : It.kids ks[j] = [a, b]) : pairsI (ks.drop j) = (pairsI (ks.drop (j + 1))).map ((numI a, numI b) :: ·) := by
 rw [List.drop_eq_getElem_cons hj];have e : pairI ks[j] = some (numI a, numI b) := by
  unfold pairI;rw [h]
 show (pairI ks[j]).bind _ = _;rw [e];rfl
theorem specReadCrl_any (T : ByteArray) (w : World) (hT : T.size <= 1000000000000) :
  Calls Tryz.prog 9 #[zG T] w fun e W' => RlPost w ((Der.readI T.data.toList).bind (readSL (m := 2) T.data.toList)) e W' := by
 obtain ⟨oR, hoR⟩ := zE ((Der.readI T.data.toList).bind (readSL (m := 2) T.data.toList));have HP : Hid ((Der.readI T.data.toList).bind (readSL (m := 2) T.data.toList) = oR) := hoR;rw [hoR];clear hoR;obtain ⟨W1, hW1⟩ : ∃ V, V = w.alloc (Obj.cells #[zG ⟨#[]⟩, zI 0, zI 0, zI 0, zI 0, zZ, zG ⟨#[]⟩] 26) := ⟨_, rfl⟩;have E1 := specRead_any T W1 hT;have H1 : Hid (zW w W1 /\ Blk W1 w.heap.size 26 #[zG ⟨#[]⟩, zI 0, zI 0, zI 0, zI 0, zZ, zG ⟨#[]⟩] /\ W1.heap.size = w.heap.size + 1) := by rw [hW1]; exact ⟨(Below.refl _ _).alloc (Nat.le_refl _) _, Blk.new _ _ _, size_alloc _ _⟩
 go_enter Tryz.func9, Tryz.ntmps9;go_wp2_with fail;rw [<- hW1];clear hW1;refine E1.mono ?_;rintro e w2 ⟨hb2, ⟨hn, rfl⟩ | ⟨x, t, s, ax, l, cx, fp, hx, rfl, hsz, ht, hs, hown⟩⟩
 ·obtain ⟨W3, hW3⟩ : ∃ V, V = w2.alloc (Obj.cells #[zI 0, zG ⟨#[]⟩, zZ] 50) := ⟨_, rfl⟩
  have hb3 : zW w2 W3 := by rw [hW3]; exact (Below.refl _ _).alloc (Nat.le_refl _) _
  have H3 : Hid (zW w W3 /\ Blk W3 w.heap.size 26 #[zG ⟨#[]⟩, zI 0, zI 0, zI 0, zI 0, zZ, zG ⟨#[]⟩]) := ⟨(H1.1.trans (hb2.mono H1.1.size)).trans (hb3.mono (Nat.le_trans H1.1.size hb2.size)), (H1.2.1.on hb2).on hb3⟩;have HNO : Hid (Der.readI T.data.toList = none) := hn;clear hb3 hb2 H1 E1 hn;go_wp2_with fail;rw [<- hW3];clear hW3;have E4 := l09Kids_any 0 ⟨#[]⟩ none 0 0 2 W3;generalize decide ((0 : Int) = 48 /\ ((0 : Nat) : Int) = 2) = B4 at E4;refine E4.mono ?_;rintro e w4 ⟨rfl, hb4⟩;have H4 := zH (zJ (H3.1.trans (hb4.mono H3.1.size)) (H3.2.on hb4));clear E4 hb4 H3;obtain ⟨r0, r1, r2, r3, r4, r5, r6⟩ := zc7 H4.2;have rf := fun j => H4.2.free j
  have HN : Hid (oR = none) := by
   show oR = none;rw [<- HP.out];rw [HNO.out]; rfl
  go_wp2_with fail;refine bodyPost_ret (v := .tuple #[.agg #[zG ⟨#[]⟩, zI 0, zI 0, zI 0, zI 0, zZ, zG ⟨#[]⟩], .bool false]) (by simp [results, Tryz.results9, go_sem, r0, r1, r2, r3, r4, r5, r6]; try rfl) rfl ⟨?_, .inl ⟨HN.out, rfl⟩⟩
  iterate 7 refine Below.setCell ?_ (by show w.heap.size <= w.heap.size; exact Nat.le_refl _) _
  exact H4.1
 ·have hkc : KcAt w2 6 (zS ax l cx) (It.kids x) := KcAt.of hown
  obtain ⟨W3, hW3⟩ : ∃ V, V = w2.alloc (Obj.cells #[zI t, zG s, zS ax l cx] 50) := ⟨_, rfl⟩;have hb3 : zW w2 W3 := by rw [hW3]; exact (Below.refl _ _).alloc (Nat.le_refl _) _
  have H3 : Hid ((zW w W3 /\ Blk W3 w.heap.size 26 #[zG ⟨#[]⟩, zI 0, zI 0, zI 0, zI 0, zZ, zG ⟨#[]⟩]) /\ zW w2 W3) := ⟨⟨(H1.1.trans (hb2.mono H1.1.size)).trans (hb3.mono (Nat.le_trans H1.1.size hb2.size)), (H1.2.1.on hb2).on hb3⟩, hb3⟩;have HX : Hid (Der.readI T.data.toList = some x /\ szI 7 x <= 4000 /\ It.tag x = t /\ w.heap.size < w2.heap.size) := ⟨hx, hsz, ht, by have := H1.2.2; have := hb2.size; omega⟩;have hln : l = (It.kids x).length := by obtain ⟨ao, cap, h, _⟩ := hkc; injection h
  have HKC : Hid (KcAt w2 6 (zS ax l cx) (It.kids x) /\ l = (It.kids x).length /\ Der.readI T.data.toList = some x) := ⟨hkc, hln, hx⟩;clear hkc hb3 hown hx hsz hb2 E1 H1 ht hs hln;go_wp2_with fail;rw [<- hW3];clear hW3;have E4 := l09Kids_any t s ax l cx 2 W3;obtain ⟨B4, hB4⟩ := zE (decide (t = 48 /\ (l : Int) = 2));rw [hB4] at E4;refine E4.mono ?_;rintro e w4 ⟨rfl, hb4⟩;have H4 := zH (zJ (⟨H3.1.1.trans (hb4.mono H3.1.1.size), H3.1.2.on hb4⟩ : (zW w w4 /\ Blk w4 w.heap.size 26 #[zG ⟨#[]⟩, zI 0, zI 0, zI 0, zI 0, zZ, zG ⟨#[]⟩])) (H3.2.trans (hb4.mono H3.2.size)));clear E4 hb4 H3
  cases B4 with
  | false =>
   have hno := of_decide_eq_false hB4;clear hB4;obtain ⟨r0, r1, r2, r3, r4, r5, r6⟩ := zc7 H4.1.2;have rf := fun j => H4.1.2.free j
   have HN : Hid (oR = none) := by
    show oR = none;rw [<- HP.out];rw [HX.1]; show readSL (m := 2) T.data.toList x = none; unfold readSL; rw [specL_none (m := 2) (x := x) (fun q => hno ⟨by rw [<- HX.2.2.1]; exact q.1, by have h1 := HKC.2.1; have h2 := q.2; omega⟩)]; rfl
   clear hno;go_wp2_with fail;refine bodyPost_ret (v := .tuple #[.agg #[zG ⟨#[]⟩, zI 0, zI 0, zI 0, zI 0, zZ, zG ⟨#[]⟩], .bool false]) (by simp [results, Tryz.results9, go_sem, r0, r1, r2, r3, r4, r5, r6]; try rfl) rfl ⟨?_, .inl ⟨HN.out, rfl⟩⟩
   iterate 7 refine Below.setCell ?_ (by show w.heap.size <= w.heap.size; exact Nat.le_refl _) _
   exact H4.1.1
  | true =>
   have hyes := of_decide_eq_true hB4;clear hB4;obtain ⟨rfl, hl2⟩ := hyes;obtain rfl : l = 2 := by omega
   clear hl2;obtain ⟨yb, sg, hkx⟩ := list_two (l := It.kids x) (HKC.2.1).symm;obtain ⟨ao, cap, hv, _, hcell⟩ := HKC.1;injection hv with hv1 hvx hv3
   clear hvx;subst hv1 hv3;rw [hkx] at hcell;obtain ⟨g1, o1, ha1, hg1, hcs⟩ := hcell (by simp);obtain ⟨vb, d0, d1, d2, hkb⟩ := hcs 0 (by simp);obtain ⟨vs, s0, s1, s2, hks⟩ := hcs 1 (by simp);subst ha1;have HY := zH (zJ (hkx : It.kids x = [yb, sg]) (zJ HX.1 (zJ HX.2.1 (zJ HX.2.2.1 HX.2.2.2))));obtain ⟨sgt, hsgt⟩ := zE (baL (It.text sg));obtain ⟨tb, htb⟩ := zE (It.tag yb);obtain ⟨sb, hsb⟩ : ∃ q : ByteArray, (⟨(It.text yb).toArray⟩ : ByteArray) = q := ⟨_, rfl⟩;obtain ⟨ab, cb, hvb⟩ := hkb.shape;change vb = zS ab (It.kids yb).length cb at hvb;change KcAt w2 5 vb (It.kids yb) at hkb;obtain ⟨lb, hlb⟩ := zE ((It.kids yb).length);have b0 : w2.cell? ⟨g1, o1, none⟩ = some (zI tb) := by rw [<- htb]; exact d0
   have b1 : w2.cell? ⟨g1, o1 + 1, none⟩ = some (zG sb) := by rw [<- hsb]; exact d1
   have b2 : w2.cell? ⟨g1, o1 + 2, none⟩ = some (zS ab lb cb) := by rw [<- hlb, <- hvb]; exact d2
   have b4 : w2.cell? ⟨g1, o1 + 4, none⟩ = some (zG sgt) := by rw [<- hsgt]; exact s1
   have HB1 : Hid (g1 < w2.heap.size /\ w2.cell? ⟨g1, o1 + 4, none⟩ = some (zG sgt) /\ baL (It.text sg) = sgt /\ It.tag yb = tb /\ (It.kids yb).length = lb) := ⟨hg1, b4, hsgt, htb, hlb⟩;have HKB : Hid (KcAt w2 5 (zS ab lb cb) (It.kids yb)) := by show KcAt w2 5 (zS ab lb cb) (It.kids yb); rw [<- hlb, <- hvb]; exact hkb
   have f0 : w4.cell? ⟨g1, o1, none⟩ = some (zI tb) := (H4.2.cell (p := ⟨g1, o1, none⟩) hg1).trans b0;have f1 : w4.cell? ⟨g1, o1 + 1, none⟩ = some (zG sb) := (H4.2.cell (p := ⟨g1, o1 + 1, none⟩) hg1).trans b1;have f2 : w4.cell? ⟨g1, o1 + 2, none⟩ = some (zS ab lb cb) := (H4.2.cell (p := ⟨g1, o1 + 2, none⟩) hg1).trans b2;clear hcell hcs d0 d1 d2 s0 s1 s2 hkb hks hkx hsgt htb hsb hvb hlb b0 b1 b2 b4 hg1 HKC HX;go_wp2_with fail;clear f0 f1 f2;have E5 := l09Kids_any tb sb ab lb cb 6 w4;obtain ⟨B5, hB5⟩ := zE (decide (tb = 48 /\ (lb : Int) = 6));rw [hB5] at E5;refine E5.mono ?_;rintro e w5 ⟨rfl, hb5⟩;have H5 := zH (zJ (⟨H4.1.1.trans (hb5.mono H4.1.1.size), H4.1.2.on hb5⟩ : (zW w w5 /\ Blk w5 w.heap.size 26 #[zG ⟨#[]⟩, zI 0, zI 0, zI 0, zI 0, zZ, zG ⟨#[]⟩])) (H4.2.trans (hb5.mono H4.2.size)));clear E5 hb5 H4
   cases B5 with
   | false =>
    have hno := of_decide_eq_false hB5;clear hB5;obtain ⟨r0, r1, r2, r3, r4, r5, r6⟩ := zc7 H5.1.2;have rf := fun j => H5.1.2.free j
    have HN : Hid (oR = none) := by
     show oR = none;rw [<- HP.out];rw [HY.2.1]; show readSL (m := 2) T.data.toList x = none; unfold readSL; rw [specL_none2 (m := 2) (x := x) HY.1 (fun q => hno ⟨by rw [<- HB1.2.2.2.1]; exact q.1, by have h1 := HB1.2.2.2.2; have h2 := q.2; omega⟩)]; rfl
    clear hno;go_wp2_with fail;refine bodyPost_ret (v := .tuple #[.agg #[zG ⟨#[]⟩, zI 0, zI 0, zI 0, zI 0, zZ, zG ⟨#[]⟩], .bool false]) (by simp [results, Tryz.results9, go_sem, r0, r1, r2, r3, r4, r5, r6]; try rfl) rfl ⟨?_, .inl ⟨HN.out, rfl⟩⟩
    iterate 7 refine Below.setCell ?_ (by show w.heap.size <= w.heap.size; exact Nat.le_refl _) _
    exact H5.1.1
   | true =>
    have hyes := of_decide_eq_true hB5;clear hB5;obtain ⟨rfl, hl2⟩ := hyes;obtain rfl : lb = 6 := by omega
    clear hl2;obtain ⟨k0, k1, k2, k3, k4, k5, hky⟩ := list_six (l := It.kids yb) HB1.2.2.2.2;obtain ⟨ao, cap, hv, _, hcell⟩ := HKB.out;injection hv with hv1 hvx hv3
    clear hvx;subst hv1 hv3;rw [hky] at hcell;obtain ⟨g2, o2, ha2, hg2, hcs⟩ := hcell (by simp);subst ha2;obtain ⟨v0, p0a, p0b, p0c, hk0⟩ := hcs 0 (by simp);obtain ⟨v1, p1a, p1b, p1c, hk1⟩ := hcs 1 (by simp);obtain ⟨v2, p2a, p2b, p2c, hk2⟩ := hcs 2 (by simp);obtain ⟨v3, p3a, p3b, p3c, hk3⟩ := hcs 3 (by simp);obtain ⟨v4, p4a, p4b, p4c, hk4⟩ := hcs 4 (by simp);obtain ⟨v5, p5a, p5b, p5c, hk5⟩ := hcs 5 (by simp);have HYB := zH (zJ (hky : It.kids yb = [k0, k1, k2, k3, k4, k5]) HB1.2.2.2.1);obtain ⟨iss, hiss⟩ := zE (baL (It.text k0));obtain ⟨t1, ht1⟩ := zE (It.tag k1);obtain ⟨s1, hs1⟩ : ∃ q : ByteArray, (⟨(It.text k1).toArray⟩ : ByteArray) = q := ⟨_, rfl⟩;obtain ⟨a1, c1, hv1⟩ := hk1.shape;change v1 = zS a1 (It.kids k1).length c1 at hv1;obtain ⟨l1, hl1⟩ := zE ((It.kids k1).length);rw [hl1] at hv1;subst hv1;obtain ⟨t2, ht2⟩ := zE (It.tag k2);obtain ⟨s2, hs2⟩ : ∃ q : ByteArray, (⟨(It.text k2).toArray⟩ : ByteArray) = q := ⟨_, rfl⟩;obtain ⟨a2, c2, hv2⟩ := hk2.shape;change v2 = zS a2 (It.kids k2).length c2 at hv2;obtain ⟨l2, hl2⟩ := zE ((It.kids k2).length);rw [hl2] at hv2;subst hv2;obtain ⟨t3, ht3⟩ := zE (It.tag k3);obtain ⟨s3, hs3⟩ : ∃ q : ByteArray, (⟨(It.text k3).toArray⟩ : ByteArray) = q := ⟨_, rfl⟩;obtain ⟨a3, c3, hv3⟩ := hk3.shape;change v3 = zS a3 (It.kids k3).length c3 at hv3;obtain ⟨l3, hl3⟩ := zE ((It.kids k3).length);rw [hl3] at hv3;subst hv3;obtain ⟨t4, ht4⟩ := zE (It.tag k4);obtain ⟨s4, hs4⟩ : ∃ q : ByteArray, (⟨(It.text k4).toArray⟩ : ByteArray) = q := ⟨_, rfl⟩;obtain ⟨a4, c4, hv4⟩ := hk4.shape
    change v4 = zS a4 (It.kids k4).length c4 at hv4;obtain ⟨l4, hl4⟩ := zE ((It.kids k4).length);rw [hl4] at hv4;subst hv4;obtain ⟨t5, ht5⟩ := zE (It.tag k5);obtain ⟨s5, hs5⟩ : ∃ q : ByteArray, (⟨(It.text k5).toArray⟩ : ByteArray) = q := ⟨_, rfl⟩;obtain ⟨a5, c5, hv5⟩ := hk5.shape;change v5 = zS a5 (It.kids k5).length c5 at hv5;obtain ⟨l5, hl5⟩ := zE ((It.kids k5).length);rw [hl5] at hv5;subst hv5;have HG2 : Hid (g2 < w2.heap.size) := hg2;have HM : Hid (w2.cell? ⟨g2, o2 + 1, none⟩ = some (zG iss) /\ w2.cell? ⟨g2, o2 + 3, none⟩ = some (zI t1) /\ w2.cell? ⟨g2, o2 + 4, none⟩ = some (zG s1) /\ w2.cell? ⟨g2, o2 + 5, none⟩ = some (zS a1 l1 c1) /\ w2.cell? ⟨g2, o2 + 6, none⟩ = some (zI t2) /\ w2.cell? ⟨g2, o2 + 7, none⟩ = some (zG s2) /\ w2.cell? ⟨g2, o2 + 8, none⟩ = some (zS a2 l2 c2) /\ w2.cell? ⟨g2, o2 + 9, none⟩ = some (zI t3) /\ w2.cell? ⟨g2, o2 + 10, none⟩ = some (zG s3) /\ w2.cell? ⟨g2, o2 + 11, none⟩ = some (zS a3 l3 c3) /\ w2.cell? ⟨g2, o2 + 12, none⟩ = some (zI t4) /\ w2.cell? ⟨g2, o2 + 13, none⟩ = some (zG s4) /\ w2.cell? ⟨g2, o2 + 14, none⟩ = some (zS a4 l4 c4) /\ w2.cell? ⟨g2, o2 + 17, none⟩ = some (zS a5 l5 c5)) := ⟨by rw [<- hiss]; exact p0b, by rw [<- ht1]; exact p1a, by rw [<- hs1]; exact p1b, by exact p1c, by rw [<- ht2]; exact p2a, by rw [<- hs2]; exact p2b, by exact p2c, by rw [<- ht3]; exact p3a, by rw [<- hs3]; exact p3b, by exact p3c, by rw [<- ht4]; exact p4a, by rw [<- hs4]; exact p4b, by exact p4c, by exact p5c⟩;have HKS : Hid (KcAt w2 4 (zS a1 l1 c1) (It.kids k1) /\ KcAt w2 4 (zS a2 l2 c2) (It.kids k2) /\ KcAt w2 4 (zS a3 l3 c3) (It.kids k3) /\ KcAt w2 4 (zS a4 l4 c4) (It.kids k4) /\ KcAt w2 4 (zS a5 l5 c5) (It.kids k5)) := ⟨by show KcAt w2 4 (zS a1 l1 c1) (It.kids k1); exact hk1, by show KcAt w2 4 (zS a2 l2 c2) (It.kids k2); exact hk2, by show KcAt w2 4 (zS a3 l3 c3) (It.kids k3); exact hk3, by show KcAt w2 4 (zS a4 l4 c4) (It.kids k4); exact hk4, by show KcAt w2 4 (zS a5 l5 c5) (It.kids k5); exact hk5⟩
    have HTS : Hid ((It.tag k1 = t1 /\ (⟨(It.text k1).toArray⟩ : ByteArray) = s1) /\ (It.tag k2 = t2 /\ (⟨(It.text k2).toArray⟩ : ByteArray) = s2) /\ (It.tag k3 = t3 /\ (⟨(It.text k3).toArray⟩ : ByteArray) = s3) /\ (It.tag k4 = t4 /\ (⟨(It.text k4).toArray⟩ : ByteArray) = s4) /\ (It.tag k5 = t5 /\ (⟨(It.text k5).toArray⟩ : ByteArray) = s5)) := ⟨⟨ht1, hs1⟩, ⟨ht2, hs2⟩, ⟨ht3, hs3⟩, ⟨ht4, hs4⟩, ⟨ht5, hs5⟩⟩;have HSZ : Hid (∀ y ∈ [k0, k1, k2, k3, k4, k5], szI 5 y <= 4000) := by
     show ∀ y ∈ _, _;rw [<- hky];have h1 := szI_kid (t := It.tag x) (s := It.text x) (ks := It.kids x) HY.2.2.1;have h2 := h1.2.2 yb (by rw [HY.1]; simp);exact (szI_kid (t := It.tag yb) (s := It.text yb) (ks := It.kids yb) h2).2.2
    obtain ⟨x1, hx1⟩ := zE (numI k1);obtain ⟨x2, hx2⟩ := zE (numI k2);obtain ⟨x3, hx3⟩ := zE (numI k3);obtain ⟨x4, hx4⟩ := zE (numI k4);have HXX : Hid ((numI k1 = x1 /\ numI k2 = x2 /\ numI k3 = x3 /\ numI k4 = x4) /\ baL (It.text k0) = iss /\ (It.kids k5).length = l5) := ⟨⟨hx1, hx2, hx3, hx4⟩, hiss, hl5⟩;clear hcell hcs hky hg2 hiss hx1 hx2 hx3 hx4 hk0 p0a p0b p0c p1a p1b p1c p2a p2b p2c p3a p3b p3c p4a p4b p4c p5a p5b p5c hk1 ht1 hs1 hl1 hk2 ht2 hs2 hl2 hk3 ht3 hs3 hl3 hk4 ht4 hs4 hl4 hk5 ht5 hs5 hl5;have m0 : w5.cell? ⟨g2, o2 + 1, none⟩ = some (zG iss) := (H5.2.cell (p := ⟨g2, o2 + 1, none⟩) HG2.out).trans HM.1;have b4 : w5.cell? ⟨g1, o1 + 4, none⟩ = some (zG sgt) := (H5.2.cell (p := ⟨g1, o1 + 4, none⟩) HB1.1).trans HB1.2.1;go_upto_region 8 with fail;clear m0 b4;have SB : ∀ (W W' : World), ((zW w W /\ Blk W w.heap.size 26 #[zG ⟨#[]⟩, zI 0, zI 0, zI 0, zI 0, zZ, zG ⟨#[]⟩]) /\ zW w2 W) -> zW W W' -> ((zW w W' /\ Blk W' w.heap.size 26 #[zG ⟨#[]⟩, zI 0, zI 0, zI 0, zI 0, zZ, zG ⟨#[]⟩]) /\ zW w2 W') := fun W W' h hb => ⟨⟨h.1.1.trans (hb.mono h.1.1.size), h.1.2.on hb⟩, h.2.trans (hb.mono h.2.size)⟩
    refine wp_region_held_drew (S := fun W => (zW w W /\ Blk W w.heap.size 26 #[zG ⟨#[]⟩, zI 0, zI 0, zI 0, zI 0, zZ, zG ⟨#[]⟩]) /\ zW w2 W) (by kernel_rfl) (SB _ _ H5.out ((Below.refl _ _).drew)) (fun hHeld => ?_);clear H5;generalize w5.drew = wd at hHeld |-;refine zQ 0 42 rfl hHeld ?_
    try simp only [Act.put, zA, zB, zC]
    refine zQ 1 43 rfl hHeld ?_
    try simp only [Act.put, zA, zB, zC]
    refine zQ 2 44 rfl hHeld ?_
    try simp only [Act.put, zA, zB, zC]
    refine zT 3 45 ?_ rfl (by rfl) ?_ hHeld ?_;rotate_left
    ·intro W hSw
     have m0 : W.cell? ⟨g2, o2 + 1, none⟩ = some (zG iss) := (hSw.2.cell (p := ⟨g2, o2 + 1, none⟩) HG2.out).trans HM.1;go_simp
     try with_reducible rfl
    try simp only [Act.put, zA, zB, zC]
    refine zQ 4 46 rfl hHeld ?_
    try simp only [Act.put, zA, zB, zC]
    refine zQ 5 47 rfl hHeld ?_
    try simp only [Act.put, zA, zB, zC]
    refine zQ 6 48 rfl hHeld ?_
    try simp only [Act.put, zA, zB, zC]
    refine zT 7 49 ?_ rfl (by rfl) ?_ hHeld ?_;rotate_left
    ·intro W hSw
     have b4 : W.cell? ⟨g1, o1 + 4, none⟩ = some (zG sgt) := (hSw.2.cell (p := ⟨g1, o1 + 4, none⟩) HB1.1).trans HB1.2.1;go_simp
     try with_reducible rfl
    try simp only [Act.put, zA, zB, zC]
    refine zQ 8 50 rfl hHeld ?_
    try simp only [Act.put, zA, zB, zC]
    refine zR 9 10 rfl fun K hK => ?_
    obtain ⟨y1, hy1⟩ : ∃ V, V = wd.alloc (Obj.cells #[zG ⟨#[]⟩, zI 0, zI 0, zI 0, zI 0, zZ, zG ⟨#[]⟩] 26) := ⟨_, rfl⟩;have hb : zW wd y1 := by rw [hy1]; exact (Below.refl _ _).alloc (Nat.le_refl _) _
    have HGC : Hid (Blk y1 wd.heap.size 26 #[zG ⟨#[]⟩, zI 0, zI 0, zI 0, zI 0, zZ, zG ⟨#[]⟩]) := by rw [hy1]; exact Blk.new _ _ _
    have HGS : Hid (w2.heap.size <= wd.heap.size) := hHeld.2.size;have hH := SB _ _ hHeld hb;go_simp;rw [<- hy1];refine hK.out _ _ hH (fun hHeld => ?_);clear hK K hH hb hy1
    try simp only [Act.put, zA, zB, zC]
    obtain ⟨gC, hgC⟩ := zE (wd.heap.size);rw [hgC] at HGC HGS |-;clear hgC;refine zN 10 rfl fun K hK => ?_
    have g0c := fun j => HGC.cell j
    have gf := fun j => HGC.free j
    go_simp;generalize hV : World.setCell _ { block := gC, off := 6 } (Value.string sgt) = V;have FIN : Out [gC] y1 V /\ Blk V gC 26 #[zG iss, zI 0, zI 0, zI 0, zI 0, zZ, zG sgt] := by
     rw [<- hV];refine ⟨?_, ?_⟩
     ·iterate 7 refine Out.setCell ?_ _ _ (by simp)
      exact Out.refl _ _
     ·exact set7 HGC.out
    clear hV gf g0c;have hgw : w2.heap.size <= gC /\ w.heap.size < w2.heap.size := ⟨HGS.out, HY.2.2.2.2⟩;have hH : (zW w V /\ Blk V w.heap.size 26 #[zG ⟨#[]⟩, zI 0, zI 0, zI 0, zI 0, zZ, zG ⟨#[]⟩]) /\ zW w2 V := ⟨⟨below_out hHeld.1.1 FIN.1 (by omega), hHeld.1.2.outX FIN.1 (by simp; omega)⟩, below_out hHeld.2 FIN.1 hgw.1⟩;have HR : Hid (RL8 w w2 V gC #[zG iss, zI 0, zI 0, zI 0, zI 0, zZ, zG sgt]) := ⟨hH.1.1, hH.2, hH.1.2, FIN.2, hgw⟩;refine hK.out _ _ hH (fun hHeld => ?_);clear hK K hH FIN hHeld hgw HGC HGS SB
    try simp only [Act.put, zA, zB, zC]
    refine wpAnyH_done (by kernel_rfl) ?_ _;have m1a : V.cell? ⟨g2, o2 + 3, none⟩ = some (zI t1) := (HR.2.1.cell (p := ⟨g2, o2 + 3, none⟩) HG2.out).trans HM.2.1;have m1b : V.cell? ⟨g2, o2 + 4, none⟩ = some (zG s1) := (HR.2.1.cell (p := ⟨g2, o2 + 4, none⟩) HG2.out).trans HM.2.2.1;have m1c : V.cell? ⟨g2, o2 + 5, none⟩ = some (zS a1 l1 c1) := (HR.2.1.cell (p := ⟨g2, o2 + 5, none⟩) HG2.out).trans HM.2.2.2.1;go_wp2_with fail;clear m1a m1b m1c;have EI := specIntIn_any 5 k1 (.agg #[zI t1, zG s1, zS a1 l1 c1]) V (ItAt.below HR.2.1 ⟨zS a1 l1 c1, by rw [(HTS.1).1, (HTS.1).2], (HKS.1).at⟩) (Nat.le_trans (HSZ.out k1 (by simp)) (by decide));rw [show (((inI 5 k1).getD 0 : Nat) : Int) = x1 from HXX.1.1] at EI;generalize (inI 5 k1).isSome = okI at EI;refine EI.mono ?_;rintro e z1 ⟨rfl, hb⟩;have HRn : Hid (RL8 w w2 z1 gC #[zG iss, zI 0, zI 0, zI 0, zI 0, zZ, zG sgt]) := HR.below hb;clear HR EI hb;have HR := HRn;clear HRn;have cc := fun j => HR.2.2.2.1.cell j
    have cfz := HR.2.2.2.1.free 1;have HS : ∀ g, g < w2.heap.size -> g ≠ gC := fun g hg => by have := HR.2.2.2.2.1; omega
    have m2a : (z1.setCell ⟨gC, 1, none⟩ (zI x1)).cell? ⟨g2, o2 + 6, none⟩ = some (zI t2) := (World.cell?_of_block (heap_setCell_other _ _ _ _ (by show g2 ≠ gC; exact HS _ HG2.out))).trans ((HR.2.1.cell (p := ⟨g2, o2 + 6, none⟩) HG2.out).trans HM.2.2.2.2.1);have m2b : (z1.setCell ⟨gC, 1, none⟩ (zI x1)).cell? ⟨g2, o2 + 7, none⟩ = some (zG s2) := (World.cell?_of_block (heap_setCell_other _ _ _ _ (by show g2 ≠ gC; exact HS _ HG2.out))).trans ((HR.2.1.cell (p := ⟨g2, o2 + 7, none⟩) HG2.out).trans HM.2.2.2.2.2.1);have m2c : (z1.setCell ⟨gC, 1, none⟩ (zI x1)).cell? ⟨g2, o2 + 8, none⟩ = some (zS a2 l2 c2) := (World.cell?_of_block (heap_setCell_other _ _ _ _ (by show g2 ≠ gC; exact HS _ HG2.out))).trans ((HR.2.1.cell (p := ⟨g2, o2 + 8, none⟩) HG2.out).trans HM.2.2.2.2.2.2.1);clear HS;go_wp2_with fail;clear cc cfz m2a m2b m2c;obtain ⟨V1, hV1⟩ : ∃ V, V = (z1.setCell ⟨gC, 1, none⟩ (zI x1)) := ⟨_, rfl⟩;rw [<- hV1];have HRn : Hid (RL8 w w2 V1 gC #[zG iss, zI x1, zI 0, zI 0, zI 0, zZ, zG sgt]) := by rw [hV1]; exact HR.set 1 _ rfl
    clear HR hV1;have HR := HRn;clear HRn;have EI := specIntIn_any 5 k2 (.agg #[zI t2, zG s2, zS a2 l2 c2]) V1 (ItAt.below HR.2.1 ⟨zS a2 l2 c2, by rw [(HTS.2.1).1, (HTS.2.1).2], (HKS.2.1).at⟩) (Nat.le_trans (HSZ.out k2 (by simp)) (by decide));rw [show (((inI 5 k2).getD 0 : Nat) : Int) = x2 from HXX.1.2.1] at EI;generalize (inI 5 k2).isSome = okI at EI;refine EI.mono ?_;rintro e z2 ⟨rfl, hb⟩;have HRn : Hid (RL8 w w2 z2 gC #[zG iss, zI x1, zI 0, zI 0, zI 0, zZ, zG sgt]) := HR.below hb;clear HR EI hb;have HR := HRn;clear HRn;have cc := fun j => HR.2.2.2.1.cell j
    have cfz := HR.2.2.2.1.free 2;have HS : ∀ g, g < w2.heap.size -> g ≠ gC := fun g hg => by have := HR.2.2.2.2.1; omega
    have m3a : (z2.setCell ⟨gC, 2, none⟩ (zI x2)).cell? ⟨g2, o2 + 9, none⟩ = some (zI t3) := (World.cell?_of_block (heap_setCell_other _ _ _ _ (by show g2 ≠ gC; exact HS _ HG2.out))).trans ((HR.2.1.cell (p := ⟨g2, o2 + 9, none⟩) HG2.out).trans HM.2.2.2.2.2.2.2.1);have m3b : (z2.setCell ⟨gC, 2, none⟩ (zI x2)).cell? ⟨g2, o2 + 10, none⟩ = some (zG s3) := (World.cell?_of_block (heap_setCell_other _ _ _ _ (by show g2 ≠ gC; exact HS _ HG2.out))).trans ((HR.2.1.cell (p := ⟨g2, o2 + 10, none⟩) HG2.out).trans HM.2.2.2.2.2.2.2.2.1);have m3c : (z2.setCell ⟨gC, 2, none⟩ (zI x2)).cell? ⟨g2, o2 + 11, none⟩ = some (zS a3 l3 c3) := (World.cell?_of_block (heap_setCell_other _ _ _ _ (by show g2 ≠ gC; exact HS _ HG2.out))).trans ((HR.2.1.cell (p := ⟨g2, o2 + 11, none⟩) HG2.out).trans HM.2.2.2.2.2.2.2.2.2.1);clear HS;go_wp2_with fail;clear cc cfz m3a m3b m3c;obtain ⟨V2, hV2⟩ : ∃ V, V = (z2.setCell ⟨gC, 2, none⟩ (zI x2)) := ⟨_, rfl⟩;rw [<- hV2];have HRn : Hid (RL8 w w2 V2 gC #[zG iss, zI x1, zI x2, zI 0, zI 0, zZ, zG sgt]) := by rw [hV2]; exact HR.set 2 _ rfl
    clear HR hV2;have HR := HRn;clear HRn;have EI := specIntIn_any 5 k3 (.agg #[zI t3, zG s3, zS a3 l3 c3]) V2 (ItAt.below HR.2.1 ⟨zS a3 l3 c3, by rw [(HTS.2.2.1).1, (HTS.2.2.1).2], (HKS.2.2.1).at⟩) (Nat.le_trans (HSZ.out k3 (by simp)) (by decide));rw [show (((inI 5 k3).getD 0 : Nat) : Int) = x3 from HXX.1.2.2.1] at EI;generalize (inI 5 k3).isSome = okI at EI;refine EI.mono ?_;rintro e z3 ⟨rfl, hb⟩;have HRn : Hid (RL8 w w2 z3 gC #[zG iss, zI x1, zI x2, zI 0, zI 0, zZ, zG sgt]) := HR.below hb;clear HR EI hb;have HR := HRn;clear HRn;have cc := fun j => HR.2.2.2.1.cell j
    have cfz := HR.2.2.2.1.free 3;have HS : ∀ g, g < w2.heap.size -> g ≠ gC := fun g hg => by have := HR.2.2.2.2.1; omega
    have m4a : (z3.setCell ⟨gC, 3, none⟩ (zI x3)).cell? ⟨g2, o2 + 12, none⟩ = some (zI t4) := (World.cell?_of_block (heap_setCell_other _ _ _ _ (by show g2 ≠ gC; exact HS _ HG2.out))).trans ((HR.2.1.cell (p := ⟨g2, o2 + 12, none⟩) HG2.out).trans HM.2.2.2.2.2.2.2.2.2.2.1);have m4b : (z3.setCell ⟨gC, 3, none⟩ (zI x3)).cell? ⟨g2, o2 + 13, none⟩ = some (zG s4) := (World.cell?_of_block (heap_setCell_other _ _ _ _ (by show g2 ≠ gC; exact HS _ HG2.out))).trans ((HR.2.1.cell (p := ⟨g2, o2 + 13, none⟩) HG2.out).trans HM.2.2.2.2.2.2.2.2.2.2.2.1);have m4c : (z3.setCell ⟨gC, 3, none⟩ (zI x3)).cell? ⟨g2, o2 + 14, none⟩ = some (zS a4 l4 c4) := (World.cell?_of_block (heap_setCell_other _ _ _ _ (by show g2 ≠ gC; exact HS _ HG2.out))).trans ((HR.2.1.cell (p := ⟨g2, o2 + 14, none⟩) HG2.out).trans HM.2.2.2.2.2.2.2.2.2.2.2.2.1);clear HS;go_wp2_with fail;clear cc cfz m4a m4b m4c;obtain ⟨V3, hV3⟩ : ∃ V, V = (z3.setCell ⟨gC, 3, none⟩ (zI x3)) := ⟨_, rfl⟩;rw [<- hV3];have HRn : Hid (RL8 w w2 V3 gC #[zG iss, zI x1, zI x2, zI x3, zI 0, zZ, zG sgt]) := by rw [hV3]; exact HR.set 3 _ rfl
    clear HR hV3;have HR := HRn;clear HRn;have EI := specIntIn_any 5 k4 (.agg #[zI t4, zG s4, zS a4 l4 c4]) V3 (ItAt.below HR.2.1 ⟨zS a4 l4 c4, by rw [(HTS.2.2.2.1).1, (HTS.2.2.2.1).2], (HKS.2.2.2.1).at⟩) (Nat.le_trans (HSZ.out k4 (by simp)) (by decide));rw [show (((inI 5 k4).getD 0 : Nat) : Int) = x4 from HXX.1.2.2.2] at EI;generalize (inI 5 k4).isSome = okI at EI;refine EI.mono ?_;rintro e z4 ⟨rfl, hb⟩;have HRn : Hid (RL8 w w2 z4 gC #[zG iss, zI x1, zI x2, zI x3, zI 0, zZ, zG sgt]) := HR.below hb;clear HR EI hb;have HR := HRn;clear HRn;have cc := fun j => HR.2.2.2.1.cell j
    have cfz := HR.2.2.2.1.free 4;go_wp2_with fail;clear cc cfz;obtain ⟨V4, hV4⟩ : ∃ V, V = (z4.setCell ⟨gC, 4, none⟩ (zI x4)) := ⟨_, rfl⟩;rw [<- hV4];have HRn : Hid (RL8 w w2 V4 gC #[zG iss, zI x1, zI x2, zI x3, zI x4, zZ, zG sgt]) := by rw [hV4]; exact HR.set 4 _ rfl
    clear HR hV4;have HR := HRn;clear HRn;have HL5 : Hid (l5 <= 4000) := by show l5 <= 4000; rw [<- HXX.2.2]; exact (szI_kid (t := It.tag k5) (s := It.text k5) (ks := It.kids k5) (HSZ.out k5 (by simp))).2.1
    go_loopw [11] (fun iv wr => ∃ k : Nat, k <= l5 /\ iv = zI k /\ Hid (∃ (ps : List (Int × Int)) (pa : Option Addr) (pc : Nat), RL8 w w2 wr gC #[zG iss, zI x1, zI x2, zI x3, zI x4, zS pa k pc, zG sgt] /\ OwnR wr (gC + 1) (zS pa k pc) ps /\ gC + 1 <= wr.heap.size /\ ps.length = k /\ pairsI (It.kids k5) = (pairsI ((It.kids k5).drop k)).map (ps ++ ·))) (fun iv _ => l5 - (intOf iv).toNat)
    case atStart =>
     refine ⟨0, Nat.zero_le _, rfl, [], none, 0, HR.out, World.ownsRow_nil _ _ _ _, by have := HR.2.2.2.1.lt; omega, rfl, ?_⟩;show pairsI (It.kids k5) = (pairsI (It.kids k5)).map (([] : List (Int × Int)) ++ ·)
     cases pairsI (It.kids k5) <;> simp
    case round =>
     clear HR;obtain ⟨k, hk, rfl, HK0⟩ := hrel;obtain ⟨ps, pa, pc, hK1⟩ := HK0.out;have HK : Hid (RL8 w w2 wr gC #[zG iss, zI x1, zI x2, zI x3, zI x4, zS pa k pc, zG sgt] /\ OwnR wr (gC + 1) (zS pa k pc) ps /\ gC + 1 <= wr.heap.size /\ ps.length = k /\ pairsI (It.kids k5) = (pairsI ((It.kids k5).drop k)).map (ps ++ ·)) := hK1;clear HK0 hK1;have m5 : wr.cell? ⟨g2, o2 + 17, none⟩ = some (zS a5 l5 c5) := (HK.1.2.1.cell (p := ⟨g2, o2 + 17, none⟩) HG2.out).trans HM.2.2.2.2.2.2.2.2.2.2.2.2.2;by_cases hlt : k < l5;rotate_left
     ·skip
      as_aux_lemma =>
       have hlti : ¬ (k : Int) < (l5 : Int) := by omega
       have hpl : pairsI (It.kids k5) = some ps := by
        rw [HK.2.2.2.2, List.drop_eq_nil_of_le (by have := HXX.2.2; omega)];simp [pairsI]
       obtain ⟨c, hc⟩ : ∃ c : Cl, c = ⟨iss, x1, x2, x3, x4, ps, sgt⟩ := ⟨_, rfl⟩;have hcc : c = ⟨baL (It.text k0), numI k1, numI k2, numI k3, numI k4, ps, baL (It.text sg)⟩ := by rw [hc, HXX.1.1, HXX.1.2.1, HXX.1.2.2.1, HXX.1.2.2.2, HXX.2.1, HB1.2.2.1]
       have HSP : Hid (specL (m := 2) x = some c /\ wtL c <= 1048576 /\ WdL c) := by
        refine ⟨?_, wtL_spec (m := 2) HY.1 HYB.1 hpl HY.2.2.1 c hcc⟩;rw [specL_some (m := 2) HY.1 HYB.1 HY.2.2.2.1 HYB.2, hpl, hcc];rfl
       have HCT : Hid (∀ W, OwnR W (gC + 1) (zS pa k pc) ps -> OwnL W (gC + 1) (.agg #[zG iss, zI x1, zI x2, zI x3, zI x4, zS pa k pc, zG sgt]) c) := fun W h => by rw [hc]; exact ⟨_, rfl, h⟩
       clear hpl hcc hc;have h0c := fun j => HK.1.2.2.2.1.cell j
       go_wp2_with fail;clear m5 h0c;have E9 := specCrlText_any c (.agg #[zG iss, zI x1, zI x2, zI x3, zI x4, zS pa k pc, zG sgt]) wr HSP.2.1 HSP.2.2 (HCT.out _ HK.2.1).at
       obtain ⟨bk, hbk⟩ : ∃ q : ByteArray, (⟨((ltxt c).getD []).toArray⟩ : ByteArray) = q := ⟨_, rfl⟩;obtain ⟨rt, hrt⟩ := zE ((ltxt c).isSome);rw [hbk, hrt] at E9;have HBK : Hid ((⟨((ltxt c).getD []).toArray⟩ : ByteArray) = bk /\ (ltxt c).isSome = rt) := ⟨hbk, hrt⟩;clear hbk hrt;refine E9.mono ?_;rintro e y9 ⟨rfl, hb⟩;have HR := zH (zJ (HK.1.below hb) (HK.2.1.stays hb));clear HK E9 hb;have HRS : Hid (oR = if crlOk c = true /\ writeI 5 (crlI c) = some T.data.toList then some c else none) := by
        show oR = _;rw [<- HP.out, HY.2.1];show readSL (m := 2) T.data.toList x = _;unfold readSL;rw [HSP.1, Option.bind_some]
       have HFR := zH (zJ HR.1.1 HR.1.2.2.1);have HTL : Hid (∀ B : ByteArray, B.toList = B.data.toList) := fun B => by
        obtain ⟨d⟩ := B;obtain ⟨l⟩ := d;show (⟨l.toArray⟩ : ByteArray).toList = _;simp
       have HGC : Hid (w2.heap.size <= gC /\ w.heap.size < w2.heap.size) := HR.1.2.2.2.2
       cases rt with
       | false =>
        have HN : Hid (oR = none) := by
         show oR = none;rw [<- HP.out];rw [HP.out, HRS.out, if_neg (fun q => by have h := HBK.2; unfold ltxt at h; rw [if_pos q.1, q.2] at h; cases h)]
        clear HSP HM HKS HTS HSZ HYB HB1 HG2 HP HRS HTL HBK HCT HR HY HXX HL5 HGC hlt hlti hk;go_upto_region 22 with fail;refine wp_region_lit ?_;refine step_buildL rfl rfl ?_;refine step_store7 w.heap.size ⟨#[]⟩ 0 0 0 0 none 0 0 ⟨#[]⟩ HFR.2 rfl rfl rfl rfl rfl ?_;intro V8 ho8 hB8;refine step_assign rfl rfl ?_;unfold wpList
        rename_i hret
        refine hret _ _ ?_;refine wp_ret ?_;obtain ⟨q0, q1, q2, q3, q4, q5, q6⟩ := zc7 hB8;refine bodyPost_ret (v := .tuple #[.agg #[zG ⟨#[]⟩, zI 0, zI 0, zI 0, zI 0, zZ, zG ⟨#[]⟩], .bool false]) (by simp [results, Tryz.results9, go_sem, q0, q1, q2, q3, q4, q5, q6]; try rfl) rfl ⟨?_, .inl ⟨HN.out, rfl⟩⟩;exact HFR.1.trans (ho8.below (fun b hb => by rw [List.mem_singleton.1 hb]; exact Nat.le_refl _) HFR.1.size)
       | true =>
        obtain ⟨tx, htx⟩ := Option.isSome_iff_exists.1 HBK.2;have HTX2 : Hid (bk.data.toList = tx /\ crlOk c = true /\ writeI 5 (crlI c) = some tx) := by
         have h := htx;unfold ltxt at h
         split at h
         ·next hco => exact ⟨by rw [<- HBK.1, htx]; rfl, hco, h⟩
         ·cases h
        clear htx;by_cases hbt : bk.toList = T.toList
        ·have hbq : (bk.toList == T.toList) = true := by rw [hbt]; simp
         have HYES : Hid (oR = some c) := by
          show oR = some c;have h1 := HTL.out bk;have h2 := HTL.out T;rw [HRS.out, if_pos ⟨HTX2.2.1, by rw [HTX2.2.2, <- HTX2.1, <- h1, hbt, h2]⟩]
         have HOWN : Hid (∀ V, Out [w.heap.size] y9 V -> OwnL V w.heap.size (.agg #[zG iss, zI x1, zI x2, zI x3, zI x4, zS pa k pc, zG sgt]) c) := fun V ho => by
          have hoc := HCT.out _ HR.2;exact (hoc.out ho (fun b hb => by have := fpL_lt hoc b hb; have := HGC.out; simp; omega)).base (by have := HGC.out; omega)
         have HBC : Hid (Blk y9 gC 26 #[zG iss, zI x1, zI x2, zI x3, zI x4, zS pa k pc, zG sgt]) := HR.1.2.2.2.1;clear HSP HM HKS HTS HSZ HYB HB1 HG2 HP HRS HTL HBK HCT HR HY HXX HL5 HGC hlt hlti hk hbt;go_upto_region 23 with fail;refine wp_region_lit ?_;refine step_load7 gC iss x1 x2 x3 x4 pa k pc sgt HBC.out rfl rfl rfl ?_;refine step_store7 w.heap.size iss x1 x2 x3 x4 pa k pc sgt HFR.2 rfl rfl rfl rfl rfl ?_;intro V8 ho8 hB8;refine step_assign rfl rfl ?_;unfold wpList
         rename_i hret
         refine hret _ _ ?_;refine wp_ret ?_;obtain ⟨q0, q1, q2, q3, q4, q5, q6⟩ := zc7 hB8;refine bodyPost_ret (v := .tuple #[.agg #[zG iss, zI x1, zI x2, zI x3, zI x4, zS pa k pc, zG sgt], .bool true]) (by simp [results, Tryz.results9, go_sem, q0, q1, q2, q3, q4, q5, q6]; try rfl) rfl ?_;exact ⟨HFR.1.trans (ho8.below (fun b hb => by rw [List.mem_singleton.1 hb]; exact Nat.le_refl _) HFR.1.size), .inr ⟨c, _, HYES.out, rfl, HOWN.out V8 ho8, HTX2.2.1⟩⟩
        ·have hbq : (bk.toList == T.toList) = false := beq_eq_false_iff_ne.2 hbt
         have HN : Hid (oR = none) := by
          show oR = none;rw [<- HP.out];rw [HP.out, HRS.out, if_neg (fun q => hbt (by have h1 := HTL.out bk; have h2 := HTL.out T; have h3 := HTX2.2.2; rw [q.2] at h3; injection h3 with h3; rw [h1, h2, HTX2.1, h3]))]
         clear HSP HM HKS HTS HSZ HYB HB1 HG2 HP HRS HTL HBK HCT HR HY HXX HL5 HGC hlt hlti hk HTX2 hbt;go_upto_region 22 with fail;refine wp_region_lit ?_;refine step_buildL rfl rfl ?_;refine step_store7 w.heap.size ⟨#[]⟩ 0 0 0 0 none 0 0 ⟨#[]⟩ HFR.2 rfl rfl rfl rfl rfl ?_;intro V8 ho8 hB8;refine step_assign rfl rfl ?_;unfold wpList
         rename_i hret
         refine hret _ _ ?_;refine wp_ret ?_;obtain ⟨q0, q1, q2, q3, q4, q5, q6⟩ := zc7 hB8;refine bodyPost_ret (v := .tuple #[.agg #[zG ⟨#[]⟩, zI 0, zI 0, zI 0, zI 0, zZ, zG ⟨#[]⟩], .bool false]) (by simp [results, Tryz.results9, go_sem, q0, q1, q2, q3, q4, q5, q6]; try rfl) rfl ⟨?_, .inl ⟨HN.out, rfl⟩⟩;exact HFR.1.trans (ho8.below (fun b hb => by rw [List.mem_singleton.1 hb]; exact Nat.le_refl _) HFR.1.size)
     have HLT : Hid (k < l5) := hlt;have hlti : (k : Int) < (l5 : Int) := by omega
     have hk0 : (0 : Int) <= (k : Int) := by omega
     have hj : k < (It.kids k5).length := by have := HXX.2.2; omega
     obtain ⟨ao, cap, hv, _, hcell⟩ := HKS.2.2.2.2;injection hv with hv1 hvx hv3
     clear hvx;obtain ⟨g5, o5, ha, hg5, hcs⟩ := hcell (by omega);obtain ⟨kk, d0, d1, d2, hkk⟩ := hcs k hj;have c0 : wr.cell? ⟨g5, o5 + k * 3, none⟩ = some (zI (It.tag (It.kids k5)[k])) := (HK.1.2.1.cell (p := ⟨g5, o5 + k * 3, none⟩) hg5).trans d0;have c1 : wr.cell? ⟨g5, o5 + k * 3 + 1, none⟩ = some (zG ⟨(It.text (It.kids k5)[k]).toArray⟩) := (HK.1.2.1.cell (p := ⟨g5, o5 + k * 3 + 1, none⟩) hg5).trans d1;have c2 : wr.cell? ⟨g5, o5 + k * 3 + 2, none⟩ = some kk := (HK.1.2.1.cell (p := ⟨g5, o5 + k * 3 + 2, none⟩) hg5).trans d2;obtain ⟨ak, ck, hks⟩ := hkk.shape;obtain ⟨yk, hyk⟩ := zE ((It.kids k5)[k]);rw [hyk] at c0 c1 hkk hks;have HYK : Hid (∃ hj : k < (It.kids k5).length, (It.kids k5)[k] = yk) := ⟨hj, hyk⟩;have hzk : szI 4 yk <= 4000 := by rw [<- hyk]; exact (szI_kid (t := It.tag k5) (s := It.text k5) (ks := It.kids k5) (HSZ.out k5 (by simp))).2.2 _ (List.getElem_mem _)
     obtain ⟨lk, hlk⟩ := zE ((It.kids yk).length);change kk = zS ak (It.kids yk).length ck at hks;rw [hlk] at hks;subst hks;have E := intsIn_any 2 (It.tag yk) ⟨(It.text yk).toArray⟩ (It.kids yk) ak lk ck wr (hkk.below HK.1.2.1) (Nat.le_trans (szI_kid (t := It.tag yk) (s := It.text yk) (ks := It.kids yk) hzk).2.1 (by decide)) (fun y hy => Nat.le_trans ((szI_kid (t := It.tag yk) (s := It.text yk) (ks := It.kids yk) hzk).2.2 y hy) (by decide));generalize It.tag yk = tk at E c0;generalize (⟨(It.text yk).toArray⟩ : ByteArray) = sk at E c1;have ha' : a5 = some ⟨g5, o5, none⟩ := hv1.trans ha;subst hv1 hv3;obtain ⟨nl, hnl⟩ := zE ((It.kids yk).map numI);rw [hnl] at E;have HLK : Hid ((It.kids yk).length = lk /\ (It.kids yk).map numI = nl) := ⟨hlk, hnl⟩;rw [ha'] at m5;clear hcell hcs d0 d1 d2 hkk hg5 hj hyk hlk hnl hzk ha;go_wp2_with fail;clear m5 c0 c1 c2;refine E.mono ?_;rintro e w3 ⟨un, rfl, hown, hb3⟩;clear E;have hln : nl.length = lk := by rw [<- HLK.2, List.length_map]; exact HLK.1
     have HK3 := zH (zJ (HK.1.below hb3) (zJ (HK.2.1.stays hb3) (zJ HK.2.2.1 (zJ hb3.size (zJ HK.2.2.2.1 (zJ HK.2.2.2.2 (fun b hb => World.ownsRow.lt HK.2.1 b hb : (∀ b, (Value.slice pa k pc).ownBlock = some b -> gC + 1 <= b /\ b < wr.heap.size))))))));clear HK hb3;by_cases h2 : lk = 2;rotate_left
     ·obtain ⟨na, nc, hun⟩ : ∃ ao cap, un = zS ao nl.length cap := by obtain ⟨ao, cap, h, _⟩ := hown.at; exact ⟨ao, cap, h⟩
      rw [hln] at hun;subst hun;have h2i : ¬ (lk : Int) = 2 := by omega
      have HFR := zH (zJ HK3.1.1 HK3.1.2.2.1);clear hown hln;obtain ⟨r0, r1, r2, r3, r4, r5, r6⟩ := zc7 HFR.2;have rf := fun j => HFR.2.free j
      have HN : Hid (oR = none) := by
       show oR = none;rw [<- HP.out];obtain ⟨hj', hyk'⟩ := HYK.out;rw [HY.2.1]; show readSL (m := 2) T.data.toList x = none; unfold readSL; rw [specL_some (m := 2) HY.1 HYB.1 HY.2.2.2.1 HYB.2, HK3.2.2.2.2.2.1, pairs_none (k := 2) (ks := It.kids k5) hj' (by rw [hyk', HLK.1]; exact h2)]; rfl
      clear h2;go_wp2_with fail;refine bodyPost_ret (v := .tuple #[.agg #[zG ⟨#[]⟩, zI 0, zI 0, zI 0, zI 0, zZ, zG ⟨#[]⟩], .bool false]) (by simp [results, Tryz.results9, go_sem, r0, r1, r2, r3, r4, r5, r6]; try rfl) rfl ⟨?_, .inl ⟨HN.out, rfl⟩⟩
      iterate 7 refine Below.setCell ?_ (by show w.heap.size <= w.heap.size; exact Nat.le_refl _) _
      exact HFR.1
     subst h2;obtain ⟨ya, yc, hkk⟩ := list_two (l := It.kids yk) HLK.1;obtain ⟨X, hX⟩ := zE (numI ya);obtain ⟨Y, hY⟩ := zE (numI yc);have hnl : nl = [X, Y] := by rw [<- HLK.2, hkk, <- hX, <- hY]; rfl
     rw [hnl] at hown;have HPS : Hid (pairsI (It.kids k5) = (pairsI ((It.kids k5).drop (k + 1))).map ((ps ++ [(X, Y)]) ++ ·)) := by
      obtain ⟨hj', hyk'⟩ := HYK.out;show pairsI (It.kids k5) = _;rw [HK3.2.2.2.2.2.1, pairs_step (k := 2) (ks := It.kids k5) hj' (by rw [hyk']; exact hkk), hX, hY]
      cases pairsI ((It.kids k5).drop (k + 1)) <;> simp
     obtain ⟨gn, cn, hun, hgn, hgw⟩ : ∃ gn cn, un = zS (some ⟨gn, 0, none⟩) 2 cn /\ wr.heap.size <= gn /\ gn < w3.heap.size := by
      rcases hown.2 with ⟨_, h0⟩ | ⟨gn, cn, cur, hun, hbg, _⟩
      ·cases h0
      ·refine ⟨gn, cn, hun, hbg, (World.ownsRow.lt hown gn (by rw [hun]; rfl)).2⟩
     subst hun;have q0 : w3.cell? ⟨gn, 0, none⟩ = some (zI X) := World.ownsRow.cellAt hown 0 (by decide);have q1 : w3.cell? ⟨gn, 1, none⟩ = some (zI Y) := World.ownsRow.cellAt hown 1 (by decide);have HN3 : Hid (w3.cell? ⟨gn, 0, none⟩ = some (zI X) /\ w3.cell? ⟨gn, 1, none⟩ = some (zI Y) /\ wr.heap.size <= gn /\ gn < w3.heap.size) := ⟨q0, q1, hgn, hgw⟩;have e2i : ((2 : Nat) : Int) = 2 := rfl;clear hown hnl hX hY hkk hgn hgw q0 q1 HYK HLK hln;go_upto_region 14 with fail
     as_aux_lemma =>
      have HC := zH (zJ HK3.2.2.2.2.2.2 (zJ HN3.2.2.1 (zJ HK3.2.2.2.2.1 (zJ HK3.2.2.1 HLT.out))));have HA0 := zH (zJ HK3.1 (zJ HK3.2.1 (zJ (⟨HN3.1, HN3.2.1⟩ : (w3.cell? ⟨gn, 0, none⟩ = some (zI X) /\ w3.cell? ⟨gn, 1, none⟩ = some (zI Y))) (zJ HN3.2.2.2 (Nat.le_trans HK3.2.2.1 HK3.2.2.2.1)))));have HD : zW w3 w3.drew := (Below.refl _ _).drew;have HA := zH (zJ (HA0.1.below HD) (zJ (HA0.2.1.stays HD) (zJ (⟨(HD.cell (p := ⟨gn, 0, none⟩) HA0.2.2.2.1).trans HA0.2.2.1.1, (HD.cell (p := ⟨gn, 1, none⟩) HA0.2.2.2.1).trans HA0.2.2.1.2⟩ : (w3.drew.cell? ⟨gn, 0, none⟩ = some (zI X) /\ w3.drew.cell? ⟨gn, 1, none⟩ = some (zI Y))) (zJ (Nat.lt_of_lt_of_le HA0.2.2.2.1 HD.size) (Nat.le_trans HA0.2.2.2.2 HD.size)))));refine wp_region_held_drew (S := fun W => (∃ p, RL8 w w2 W gC #[zG iss, zI x1, zI x2, zI x3, zI x4, p, zG sgt]) /\ (W.cell? ⟨gn, 0, none⟩ = some (zI X) /\ W.cell? ⟨gn, 1, none⟩ = some (zI Y))) (by kernel_rfl) ⟨⟨_, HA.1⟩, HA.2.2.1⟩ (fun hHeld => ?_);clear HD HA0 HK3 HN3;generalize w3.drew = wd at *;refine zQ 0 104 rfl hHeld ?_
      try simp only [Act.put, zA, zB, zC]
      refine zQ 2 106 rfl hHeld ?_
      try simp only [Act.put, zA, zB, zC]
      refine zQ 3 107 rfl hHeld ?_
      try simp only [Act.put, zA, zB, zC]
      refine zT 4 108 ?_ rfl (by rfl) ?_ hHeld ?_;rotate_left
      ·intro W hSw
       have n0 := hSw.2.1;go_simp
       try with_reducible rfl
      try simp only [Act.put, zA, zB, zC]
      refine zQ 5 109 rfl hHeld ?_
      try simp only [Act.put, zA, zB, zC]
      refine zQ 6 110 rfl hHeld ?_
      try simp only [Act.put, zA, zB, zC]
      refine zT 7 111 ?_ rfl (by rfl) ?_ hHeld ?_;rotate_left
      ·intro W hSw
       have n1 := hSw.2.2;go_simp
       try with_reducible rfl
      try simp only [Act.put, zA, zB, zC]
      refine zQ 8 112 rfl hHeld ?_
      try simp only [Act.put, zA, zB, zC]
      refine wpAnyH_ready (rs := [1, 9]) (by kernel_rfl) (by simp) ?_;refine AllReadyH.cons (o := ⟨some 105, _, _, _, _, _⟩) rfl (fun K hK => ?_) ?_;rotate_left
      ·refine AllReadyH.cons (o := ⟨some 113, _, _, _, _, _⟩) rfl (fun K hK => ?_) AllReadyH.nil
       obtain ⟨y2, hy2⟩ : ∃ V, V = wd.alloc (Obj.cells #[zI X, zI Y] 73) := ⟨_, rfl⟩;have hb : zW wd y2 := by rw [hy2]; exact (Below.refl _ _).alloc (Nat.le_refl _) _
       have HNEW : Hid (OwnR y2 wd.heap.size (zS (some ⟨wd.heap.size, 0, none⟩) 1 1) [(X, Y)]) := by rw [hy2]; exact rone_rev wd (X, Y)
       have HAn := zH (zJ (HA.1.below hb) (zJ (HA.2.1.stays hb) (zJ (⟨(hb.cell (p := ⟨gn, 0, none⟩) HA.2.2.2.1).trans HA.2.2.1.1, (hb.cell (p := ⟨gn, 1, none⟩) HA.2.2.2.1).trans HA.2.2.1.2⟩ : (y2.cell? ⟨gn, 0, none⟩ = some (zI X) /\ y2.cell? ⟨gn, 1, none⟩ = some (zI Y))) (zJ (Nat.lt_of_lt_of_le HA.2.2.2.1 hb.size) (Nat.le_trans HA.2.2.2.2 hb.size)))));go_simp;rw [<- hy2];refine hK.out _ _ ⟨⟨_, HAn.1⟩, HAn.2.2.1⟩ (fun hHeld => ?_);clear hK K hb hy2 HA;have HA := HAn;clear HAn
       try simp only [Act.put, zA, zB, zC]
       obtain ⟨gb, hgb⟩ := zE (wd.heap.size);rw [hgb] at HNEW |-;clear hgb;refine zR 1 105 rfl fun K hK => ?_
       have ld := fun j => HA.1.2.2.2.1.cell j
       go_simp;refine hK.out _ _ hHeld (fun hHeld => ?_);clear hK K ld
       try simp only [Act.put, zA, zB, zC]
       refine zR 10 114 rfl fun K hK => ?_
       refine step_append_revs (o := ⟨some 114, _, _, _, _, _⟩) rfl (.tmp 105) (.tmp 113) rfl (gC + 1) (zS pa k pc) ps (by rfl) HA.2.1 gb 1 (X, Y) gb HNEW.out (by rfl) (by have := HC.out; have := HL5.out; omega) HA.2.2.2.2 ?_;intro v9 w9 ho9 hg9;obtain ⟨a9, c9, hv9⟩ : ∃ ao cap, v9 = zS ao (ps ++ [(X, Y)]).length cap := by obtain ⟨ao, cap, h, _⟩ := OwnR.at ho9; exact ⟨ao, cap, h⟩
       rw [List.length_append, HC.2.2.1] at hv9;change v9 = zS a9 (k + 1) c9 at hv9;subst hv9;have hR9 : RL8 w w2 w9 gC #[zG iss, zI x1, zI x2, zI x3, zI x4, zS pa k pc, zG sgt] := by
        have h1 := HA.1;have hrl := fun b hb => (HC.1 b hb).1
        have hgw := h1.2.2.2.2;exact ⟨belowGrown h1.1 hg9 (fun b hb => by have := hrl b hb; omega), belowGrown h1.2.1 hg9 (fun b hb => by have := hrl b hb; omega), h1.2.2.1.grown hg9 (fun e => by have := hrl _ e.symm; omega), h1.2.2.2.1.grown hg9 (fun e => by have := hrl _ e.symm; omega), hgw⟩
       have hne : ¬ some gn = (Value.slice pa k pc).ownBlock := fun e => by have := (HC.1 gn e.symm).2; have := HC.2.1; omega
       have hc0 : w9.cell? ⟨gn, 0, none⟩ = some (zI X) := (World.cell?_of_block (hg9.block gn HA.2.2.2.1 hne)).trans HA.2.2.1.1;have hc1 : w9.cell? ⟨gn, 1, none⟩ = some (zI Y) := (World.cell?_of_block (hg9.block gn HA.2.2.2.1 hne)).trans HA.2.2.1.2;have H9 := zH (zJ (hR9 : RL8 w w2 w9 gC #[zG iss, zI x1, zI x2, zI x3, zI x4, zS pa k pc, zG sgt]) (zJ (ho9 : OwnR w9 (gC + 1) (zS a9 (k + 1) c9) (ps ++ [(X, Y)])) (zJ (⟨hc0, hc1⟩ : (w9.cell? ⟨gn, 0, none⟩ = some (zI X) /\ w9.cell? ⟨gn, 1, none⟩ = some (zI Y))) (Nat.le_trans HA.2.2.2.2 hg9.size))));refine hK.out _ _ ⟨⟨_, hR9⟩, hc0, hc1⟩ (fun hHeld => ?_);clear hK K hR9 hne hc0 hc1 ho9 hg9 HA HNEW
       try simp only [Act.put, zA, zB, zC]
       refine zQ 11 115 rfl hHeld ?_
       try simp only [Act.put, zA, zB, zC]
       refine zN 12 rfl fun K hK => ?_
       have r5 : w9.cell? ⟨gC, 5, none⟩ = some (zS pa k pc) := H9.1.2.2.2.1.cell 5;have rfz := H9.1.2.2.2.1.free 5;have hne : gn ≠ gC := by have := HC.out; omega
       have FIN : Hid ((∃ (ps : List (Int × Int)) (pa : Option Addr) (pc : Nat), RL8 w w2 (w9.setCell ⟨gC, 5, none⟩ (zS a9 (k + 1) c9)) gC #[zG iss, zI x1, zI x2, zI x3, zI x4, zS pa (k + 1) pc, zG sgt] /\ OwnR (w9.setCell ⟨gC, 5, none⟩ (zS a9 (k + 1) c9)) (gC + 1) (zS pa (k + 1) pc) ps /\ gC + 1 <= (w9.setCell ⟨gC, 5, none⟩ (zS a9 (k + 1) c9)).heap.size /\ ps.length = k + 1 /\ pairsI (It.kids k5) = (pairsI ((It.kids k5).drop (k + 1))).map (ps ++ ·))) := by
        have ho : Out [gC] w9 (w9.setCell ⟨gC, 5, none⟩ (zS a9 (k + 1) c9)) := out_set _ _ _;exact ⟨ps ++ [(X, Y)], a9, c9, H9.1.set 5 _ rfl, ho.row (fun b hb => by have := (World.ownsRow.lt H9.2.1 b hb).1; simp; omega) H9.2.1, Nat.le_trans H9.2.2.2 ho.size, by rw [List.length_append, HC.2.2.1]; rfl, HPS.out⟩
       have hS : (∃ p, RL8 w w2 (w9.setCell ⟨gC, 5, none⟩ (zS a9 (k + 1) c9)) gC #[zG iss, zI x1, zI x2, zI x3, zI x4, p, zG sgt]) /\ ((w9.setCell ⟨gC, 5, none⟩ (zS a9 (k + 1) c9)).cell? ⟨gn, 0, none⟩ = some (zI X) /\ (w9.setCell ⟨gC, 5, none⟩ (zS a9 (k + 1) c9)).cell? ⟨gn, 1, none⟩ = some (zI Y)) := ⟨⟨_, H9.1.set 5 _ rfl⟩, (World.cell?_of_block (heap_setCell_other _ _ _ _ (by show gn ≠ gC; exact hne))).trans H9.2.2.1.1, (World.cell?_of_block (heap_setCell_other _ _ _ _ (by show gn ≠ gC; exact hne))).trans H9.2.2.1.2⟩;clear hne;go_simp;refine hK.out _ _ hS (fun hHeld => ?_);clear hK K hHeld r5 rfz H9 hS
       try simp only [Act.put, zA, zB, zC]
       refine wpAnyH_done (by kernel_rfl) ?_ _;have hkb : (k : Int) < 4000 := by have := HC.2.2.2.2; have := HL5.out; omega
       go_wp2_with fail;exact ⟨⟨k + 1, by have := HC.2.2.2.2; omega, by go_num, FIN⟩, by have := HC.2.2.2.2; simp [intOf]; omega⟩
      have ld := fun j => HA.1.2.2.2.1.cell j
      go_simp;refine hK.out _ _ hHeld (fun hHeld => ?_);clear hK K ld
      try simp only [Act.put, zA, zB, zC]
      refine zR 9 113 rfl fun K hK => ?_
      obtain ⟨y2, hy2⟩ : ∃ V, V = wd.alloc (Obj.cells #[zI X, zI Y] 73) := ⟨_, rfl⟩;have hb : zW wd y2 := by rw [hy2]; exact (Below.refl _ _).alloc (Nat.le_refl _) _
      have HNEW : Hid (OwnR y2 wd.heap.size (zS (some ⟨wd.heap.size, 0, none⟩) 1 1) [(X, Y)]) := by rw [hy2]; exact rone_rev wd (X, Y)
      have HAn := zH (zJ (HA.1.below hb) (zJ (HA.2.1.stays hb) (zJ (⟨(hb.cell (p := ⟨gn, 0, none⟩) HA.2.2.2.1).trans HA.2.2.1.1, (hb.cell (p := ⟨gn, 1, none⟩) HA.2.2.2.1).trans HA.2.2.1.2⟩ : (y2.cell? ⟨gn, 0, none⟩ = some (zI X) /\ y2.cell? ⟨gn, 1, none⟩ = some (zI Y))) (zJ (Nat.lt_of_lt_of_le HA.2.2.2.1 hb.size) (Nat.le_trans HA.2.2.2.2 hb.size)))));go_simp;rw [<- hy2];refine hK.out _ _ ⟨⟨_, HAn.1⟩, HAn.2.2.1⟩ (fun hHeld => ?_);clear hK K hb hy2 HA;have HA := HAn;clear HAn
      try simp only [Act.put, zA, zB, zC]
      obtain ⟨gb, hgb⟩ := zE (wd.heap.size);rw [hgb] at HNEW |-;clear hgb;refine zR 10 114 rfl fun K hK => ?_
      refine step_append_revs (o := ⟨some 114, _, _, _, _, _⟩) rfl (.tmp 105) (.tmp 113) rfl (gC + 1) (zS pa k pc) ps (by rfl) HA.2.1 gb 1 (X, Y) gb HNEW.out (by rfl) (by have := HC.out; have := HL5.out; omega) HA.2.2.2.2 ?_;intro v9 w9 ho9 hg9;obtain ⟨a9, c9, hv9⟩ : ∃ ao cap, v9 = zS ao (ps ++ [(X, Y)]).length cap := by obtain ⟨ao, cap, h, _⟩ := OwnR.at ho9; exact ⟨ao, cap, h⟩
      rw [List.length_append, HC.2.2.1] at hv9;change v9 = zS a9 (k + 1) c9 at hv9;subst hv9;have hR9 : RL8 w w2 w9 gC #[zG iss, zI x1, zI x2, zI x3, zI x4, zS pa k pc, zG sgt] := by
       have h1 := HA.1;have hrl := fun b hb => (HC.1 b hb).1
       have hgw := h1.2.2.2.2;exact ⟨belowGrown h1.1 hg9 (fun b hb => by have := hrl b hb; omega), belowGrown h1.2.1 hg9 (fun b hb => by have := hrl b hb; omega), h1.2.2.1.grown hg9 (fun e => by have := hrl _ e.symm; omega), h1.2.2.2.1.grown hg9 (fun e => by have := hrl _ e.symm; omega), hgw⟩
      have hne : ¬ some gn = (Value.slice pa k pc).ownBlock := fun e => by have := (HC.1 gn e.symm).2; have := HC.2.1; omega
      have hc0 : w9.cell? ⟨gn, 0, none⟩ = some (zI X) := (World.cell?_of_block (hg9.block gn HA.2.2.2.1 hne)).trans HA.2.2.1.1;have hc1 : w9.cell? ⟨gn, 1, none⟩ = some (zI Y) := (World.cell?_of_block (hg9.block gn HA.2.2.2.1 hne)).trans HA.2.2.1.2;have H9 := zH (zJ (hR9 : RL8 w w2 w9 gC #[zG iss, zI x1, zI x2, zI x3, zI x4, zS pa k pc, zG sgt]) (zJ (ho9 : OwnR w9 (gC + 1) (zS a9 (k + 1) c9) (ps ++ [(X, Y)])) (zJ (⟨hc0, hc1⟩ : (w9.cell? ⟨gn, 0, none⟩ = some (zI X) /\ w9.cell? ⟨gn, 1, none⟩ = some (zI Y))) (Nat.le_trans HA.2.2.2.2 hg9.size))));refine hK.out _ _ ⟨⟨_, hR9⟩, hc0, hc1⟩ (fun hHeld => ?_);clear hK K hR9 hne hc0 hc1 ho9 hg9 HA HNEW
      try simp only [Act.put, zA, zB, zC]
      refine zQ 11 115 rfl hHeld ?_
      try simp only [Act.put, zA, zB, zC]
      refine zN 12 rfl fun K hK => ?_
      have r5 : w9.cell? ⟨gC, 5, none⟩ = some (zS pa k pc) := H9.1.2.2.2.1.cell 5;have rfz := H9.1.2.2.2.1.free 5;have hne : gn ≠ gC := by have := HC.out; omega
      have FIN : Hid ((∃ (ps : List (Int × Int)) (pa : Option Addr) (pc : Nat), RL8 w w2 (w9.setCell ⟨gC, 5, none⟩ (zS a9 (k + 1) c9)) gC #[zG iss, zI x1, zI x2, zI x3, zI x4, zS pa (k + 1) pc, zG sgt] /\ OwnR (w9.setCell ⟨gC, 5, none⟩ (zS a9 (k + 1) c9)) (gC + 1) (zS pa (k + 1) pc) ps /\ gC + 1 <= (w9.setCell ⟨gC, 5, none⟩ (zS a9 (k + 1) c9)).heap.size /\ ps.length = k + 1 /\ pairsI (It.kids k5) = (pairsI ((It.kids k5).drop (k + 1))).map (ps ++ ·))) := by
       have ho : Out [gC] w9 (w9.setCell ⟨gC, 5, none⟩ (zS a9 (k + 1) c9)) := out_set _ _ _;exact ⟨ps ++ [(X, Y)], a9, c9, H9.1.set 5 _ rfl, ho.row (fun b hb => by have := (World.ownsRow.lt H9.2.1 b hb).1; simp; omega) H9.2.1, Nat.le_trans H9.2.2.2 ho.size, by rw [List.length_append, HC.2.2.1]; rfl, HPS.out⟩
      have hS : (∃ p, RL8 w w2 (w9.setCell ⟨gC, 5, none⟩ (zS a9 (k + 1) c9)) gC #[zG iss, zI x1, zI x2, zI x3, zI x4, p, zG sgt]) /\ ((w9.setCell ⟨gC, 5, none⟩ (zS a9 (k + 1) c9)).cell? ⟨gn, 0, none⟩ = some (zI X) /\ (w9.setCell ⟨gC, 5, none⟩ (zS a9 (k + 1) c9)).cell? ⟨gn, 1, none⟩ = some (zI Y)) := ⟨⟨_, H9.1.set 5 _ rfl⟩, (World.cell?_of_block (heap_setCell_other _ _ _ _ (by show gn ≠ gC; exact hne))).trans H9.2.2.1.1, (World.cell?_of_block (heap_setCell_other _ _ _ _ (by show gn ≠ gC; exact hne))).trans H9.2.2.1.2⟩;clear hne;go_simp;refine hK.out _ _ hS (fun hHeld => ?_);clear hK K hHeld r5 rfz H9 hS
      try simp only [Act.put, zA, zB, zC]
      refine wpAnyH_done (by kernel_rfl) ?_ _;have hkb : (k : Int) < 4000 := by have := HC.2.2.2.2; have := HL5.out; omega
      go_wp2_with fail;exact ⟨⟨k + 1, by have := HC.2.2.2.2; omega, by go_num, FIN⟩, by have := HC.2.2.2.2; simp [intOf]; omega⟩
end Go.Proofs.YtcbjlbpkoneibaaGreatDoor
namespace Go.Proofs.YtcbjlbpkoneibaaGreatDoor
open Go.RowKit Der
def bodyB (c : Cl) : ByteArray := ⟨((writeI 4 (bodyL c)).getD []).toArray⟩
theorem three : (3 : Int) = ((3 : Nat) : Int) := rfl
theorem sig_cast {i : Int} {n : Nat} (h : i = (n : Int)) (hn : n < 6) (s : ByteArray) : (sigB i s).size = 15 /\ sokB (pubB i) s (sigB i s) = true := by
 subst h;exact ⟨sigB_size s hn, sok_right hn s⟩
theorem sgL_parts (c : Cl) (i : Int) : (sgL c i).issuer = c.issuer /\ (sgL c i).revs = c.revs /\ (sgL c i).sig = sigB i (bodyB c) /\ bodyL (sgL c i) = bodyL c := by
 refine ⟨?_, ?_, ?_, ?_⟩ <;> (unfold sgL; rfl)
theorem sgL_wt {c : Cl} (h : MdL c) : wtL (sgL c 3) <= 1048576 := by
 obtain ⟨h1, h2, h3, -⟩ := sgL_parts c 3;have h4 := (sig_cast three (by decide) (bodyB c)).1;have h5 := h.1;unfold wtL;rw [h1, h2, h3, h4];omega
theorem sgL_wd {c : Cl} (h : MdL c) : WdL (sgL c 3) := by
 obtain ⟨k1, k2, k3, k4⟩ := h.wd;have h4 := (sig_cast three (by decide) (bodyB c)).1;have h3 := (sgL_parts c 3).2.2.1;have hs : (sgL c 3).sig.size = 15 := by rw [h3, h4]
 refine ⟨?_, ?_, fun s hm => ?_, ?_⟩
 ·unfold sgL; exact k1
 ·unfold sgL; exact k2
 ·simp only [List.mem_cons, List.not_mem_nil, or_false] at hm
  rcases hm with rfl | rfl
  ·rw [(sgL_parts c 3).1]
   exact k3 _ (by simp)
  ·rw [hs]
   decide
 ·rw [(sgL_parts c 3).2.1]
  exact k4
end Go.Proofs.YtcbjlbpkoneibaaGreatDoor
