/-
  Texts of the proof.
-/
import Derived.Test.YtcbjlbpkoneibaaGreatDoorSR20
set_option linter.unusedVariables false
set_option linter.unusedSimpArgs false
set_option maxRecDepth 100000
set_option maxHeartbeats 25600000
namespace Go.Proofs.YtcbjlbpkoneibaaGreatDoor
open Go.RowKit
theorem top_of_ge {l : List Int} (hd : Dig l) (h : 0 < l.length -> 10000 ^ (l.length - 1) <= ev l) : Top l := by
 intro h0 hz;have h1 := h h0;have h2 := ev_take_succ l (l.length - 1);rw [show l.length - 1 + 1 = l.length by omega, ev_take_all l (Nat.le_refl _), hz] at h2;have h3 := ev_lt (hd.take (l.length - 1));have h4 := pw_le (show (l.take (l.length - 1)).length <= l.length - 1 by simp);simp only [Int.mul_zero, Int.add_zero] at h2;omega
theorem dig_snoc {l : List Int} {x : Int} (h : Dig l) (hx : 0 <= x /\ x <= 9999) : Dig (l ++ [x]) := fun y hy => by
 rcases List.mem_append.1 hy with h1 | h1
 ·exact h y h1
 ·simp at h1; subst h1; exact hx
theorem ev_snoc (l : List Int) (x : Int) : ev (l ++ [x]) = ev l + 10000 ^ l.length * x := by rw [ev_append]; simp [ev]
structure Ad (la lb : List Int) (k : Nat) (l : List Int) (c : Int) : Prop where
 len : l.length = k
 dig : Dig l
 val : ev l + 10000 ^ k * c = ev (la.take k) + ev (lb.take k)
 small : 0 <= c /\ c <= 1
 past : k = 0 ∨ k <= la.length ∨ k <= lb.length ∨ (c = 0 /\ l.getD (k - 1) 0 ≠ 0 /\ k = la.length + 1) ∨ (c = 0 /\ l.getD (k - 1) 0 ≠ 0 /\ k = lb.length + 1)
theorem Ad.start (la lb : List Int) : Ad la lb 0 [] 0 := ⟨rfl, Dig.nil, by simp [ev], by omega, .inl rfl⟩
theorem Ad.step {la lb : List Int} {k : Nat} {l : List Int} {c : Int} (h : Ad la lb k l c) (ha : Dig la) (hb : Dig lb) (hgo : k < la.length ∨ k < lb.length ∨ 0 < c) :
  Ad la lb (k + 1) (l ++ [(c + la.getD k 0 + lb.getD k 0) % 10000]) ((c + la.getD k 0 + lb.getD k 0) / 10000) := by
 have h1 := ha.getD k;have h2 := hb.getD k;have hs := h.small;refine ⟨by simp [h.len], dig_snoc h.dig (by omega), ?_, by omega, ?_⟩
 ·rw [ev_snoc, h.len, ev_take_succ, ev_take_succ, pw_succ]
  have hv := h.val;have e := Int.emod_add_mul_ediv (c + la.getD k 0 + lb.getD k 0) 10000;generalize (c + la.getD k 0 + lb.getD k 0) % 10000 = r at *;generalize (c + la.getD k 0 + lb.getD k 0) / 10000 = q at *;have e' : r = c + la.getD k 0 + lb.getD k 0 - 10000 * q := by omega
  rw [e']
  grind
 ·by_cases hka : k < la.length
  ·exact .inr (.inl (by omega))
  by_cases hkb : k < lb.length
  ·exact .inr (.inr (.inl (by omega)))
  have hc1 : c = 1 := by omega
  have hz : (l ++ [(c + la.getD k 0 + lb.getD k 0) % 10000]).getD (k + 1 - 1) 0 ≠ 0 := by
   rw [getD_past (l := la) (by omega), getD_past (l := lb) (by omega), hc1];have hl := h.len;simp [List.getD, hl]
  have hz2 : (c + la.getD k 0 + lb.getD k 0) / 10000 = 0 := by
   rw [getD_past (l := la) (by omega), getD_past (l := lb) (by omega), hc1]; decide
  rcases h.past with hp | hp | hp | hp | hp
  ·subst hp
   have hv := h.val;have hn : l = [] := List.eq_nil_of_length_eq_zero h.len;subst hn;simp [ev] at hv;omega
  ·exact .inr (.inr (.inr (.inl ⟨hz2, hz, by omega⟩)))
  ·exact .inr (.inr (.inr (.inr ⟨hz2, hz, by omega⟩)))
  ·omega
  ·omega
theorem Ad.done {la lb : List Int} {k : Nat} {l : List Int} {c : Int} (h : Ad la lb k l c) (ha : Dig la) (hb : Dig lb) (ta : Top la) (tb : Top lb) (h1 : la.length <= k) (h2 : lb.length <= k) (h3 : c = 0) : l = digs (ev la + ev lb) := by
 have hv := h.val;rw [h3, ev_take_all la h1, ev_take_all lb h2] at hv;simp at hv;refine eq_digs_of h.dig ?_ hv;have hl := h.len
 rcases h.past with hp | hp | hp | hp | hp
 ·intro h0; omega
 ·refine top_of_ge h.dig fun h0 => ?_
  rw [hv, hl];have := ev_ge ha ta (by omega);rw [show la.length - 1 = k - 1 by omega] at this;have := ev_nonneg hb;omega
 ·refine top_of_ge h.dig fun h0 => ?_
  rw [hv, hl];have := ev_ge hb tb (by omega);rw [show lb.length - 1 = k - 1 by omega] at this;have := ev_nonneg ha;omega
 ·intro _; rw [hl]; exact hp.2.1
 ·intro _; rw [hl]; exact hp.2.1
theorem specAdd_any (a b : Value) (la lb : List Int) (w : World) (hl : la.length <= 10000000) (hl2 : lb.length <= 10000000) (wa : Wd la) (wb : Wd lb) (ha : IntAt w a la) (hb : IntAt w b lb) :
  Calls Tryz.prog 129 #[a, b] w fun e w' => ∃ v, e = .returned v /\ OwnI w' w.heap.size v (addL la lb) /\ zW w w' := by
 obtain ⟨i0, hi, hz0, hz1, hz2⟩ := info_parts info3;have HX : Hid (IntAt w a la /\ IntAt w b lb /\ Wd la /\ Wd lb) := ⟨ha, hb, wa, wb⟩;obtain ⟨ao, ac, hae, HA0⟩ := ha;obtain ⟨bo, bc, hbe, HB0⟩ := hb;subst hae hbe;clear HA0 HB0 wa wb;go_enter Tryz.func129, Tryz.ntmps129;go_wp2_with fail;refine (specOk_any _ la w hl HX.1 HX.2.2.1).mono ?_;rintro e w1 ⟨rfl, hb1⟩;have HX1 := zH (zJ (HX.1.below hb1) (zJ (HX.2.1.below hb1) (hb1 : zW w w1)));clear hb1
 rcases h : okL la with _ | _
 ·have HN : Hid (¬ (okL la = true /\ okL lb = true)) := fun h2 => by rw [h] at h2; simp at h2
  go_wp2_with fail;go_ret;refine ⟨_, rfl, by unfold addL; rw [if_neg HN.out]; exact World.ownsRow_made w1 #[] 0 HX1.2.2.size (Nat.zero_le _) rfl, HX1.2.2.alloc HX1.2.2.size _⟩
 ·go_wp2_with fail
  refine (specOk_any _ lb w1 hl2 HX1.2.1 HX.2.2.2).mono ?_;rintro e w2 ⟨rfl, hb2⟩;have HX2 := zH (zJ (HX1.1.below hb2) (zJ (HX1.2.1.below hb2) (HX1.2.2.trans (hb2.mono HX1.2.2.size))));clear hb2 HX1
  rcases h2 : okL lb with _ | _
  ·have HN : Hid (¬ (okL la = true /\ okL lb = true)) := fun h3 => by rw [h2] at h3; simp at h3
   go_wp2_with fail;go_ret;refine ⟨_, rfl, by unfold addL; rw [if_neg HN.out]; exact World.ownsRow_made w2 #[] 0 HX2.2.2.size (Nat.zero_le _) rfl, HX2.2.2.alloc HX2.2.2.size _⟩
  ·have HK : Hid (okL la = true /\ okL lb = true) := ⟨h, h2⟩
   have hla := (okL_true h).1;have hlb := (okL_true h2).1;have HD : Hid (Dig la /\ Dig lb /\ Top la /\ Top lb) := ⟨(okL_true h).2.1, (okL_true h2).2.1, (okL_true h).2.2, (okL_true h2).2.2⟩;clear h h2;have HCA : Hid (0 < la.length -> ∃ g, ao = some ⟨g, 0, none⟩ /\ g < w2.heap.size /\ ∀ j (hj : j < la.length), w2.cell? ⟨g, j, none⟩ = some (zI la[j])) := by
    obtain ⟨_, _, he, h⟩ := HX2.1;simp only [Value.slice.injEq, true_and] at he;obtain ⟨rfl, rfl⟩ := he;exact h
   have HCB : Hid (0 < lb.length -> ∃ g, bo = some ⟨g, 0, none⟩ /\ g < w2.heap.size /\ ∀ j (hj : j < lb.length), w2.cell? ⟨g, j, none⟩ = some (zI lb[j])) := by
    obtain ⟨_, _, he, h⟩ := HX2.2.1;simp only [Value.slice.injEq, true_and] at he;obtain ⟨rfl, rfl⟩ := he;exact h
   go_wp2_with fail
   go_loopw [5, 6, 7] (fun v cv iv wr => ∃ (k : Nat) (l : List Int) (c : Int), k <= 41 /\ iv = zI k /\ cv = zI c /\ 0 <= c /\ c <= 1 /\ Hid (Ad la lb k l c /\ OwnI wr w2.heap.size v l /\ zW w2 wr)) (fun _ _ iv _ => 42 - (intOf iv).toNat)
   case atStart => exact ⟨0, [], 0, by omega, rfl, rfl, by omega, by omega, Ad.start _ _, World.ownsRow_made w2 #[] 0 (Nat.le_refl _) (Nat.zero_le _) rfl, (Below.refl _ _).alloc (Nat.le_refl _) _⟩
   case round =>
    obtain ⟨k, l, c, hk, rfl, rfl, hc0, hc1, H⟩ := hrel;have hll : l.length = k := H.1.len;by_cases hgo : k < la.length ∨ k < lb.length ∨ 0 < c
    ·have hk1 : k <= 40 := by
      rcases H.1.past with h | h | h | h | h <;> omega
     by_cases hka : k < la.length
     ·by_cases hkb : k < lb.length
      ·
       obtain ⟨ga, hao, hgl, hcs⟩ := HCA.out (by omega);have hua : wr.cell? ⟨ga, k, none⟩ = some (zI (la.getD k 0)) := by
        rw [H.2.2.cell (p := ⟨ga, k, none⟩) hgl, hcs k hka]; simp [List.getD, hka]
       subst hao;clear hcs hgl;have hki : (k : Int) < (la.length : Int) := by omega
       obtain ⟨gb, hbo, hgl, hcs⟩ := HCB.out (by omega);have hub : wr.cell? ⟨gb, k, none⟩ = some (zI (lb.getD k 0)) := by
        rw [H.2.2.cell (p := ⟨gb, k, none⟩) hgl, hcs k hkb]; simp [List.getD, hkb]
       subst hbo;clear hcs hgl;have hkj : (k : Int) < (lb.length : Int) := by omega
       have HS := H.1.step HD.1 HD.2.1 (by omega);have hxa := HD.1.getD k;have hxb := HD.2.1.getD k;generalize la.getD k 0 = x at *;generalize lb.getD k 0 = y at *;have hsz := H.2.2.size;have hown := H.2.1;unfold OwnI at hown;have hk0 : (0 : Int) <= (k : Int) := by omega
       have HSS : Hid (Ad la lb (k + 1) (l ++ [(c + x + y) % 10000]) ((c + x + y) / 10000)) := HS;clear HS;go_wp2_with (at_builtin; refine wpList_append_own _ rfl _ _ 70 rfl w2.heap.size 3 i0 (zI 0) 1 8 Tryz.underlying70 hi hz0 hz1 hz2 rfl (by decide) _ _ _ rfl (hown.alloc _) ⟨wr.heap.size, 0, none⟩ 1 1 [zI ((c + x + y) % 10000)] rfl rfl (one_new _ _ _) (one_int ((c + x + y) % 10000)) (by unfold maxLen; omega) (by omega) (size_ok hsz _) ?_);intro v' w4 hown' hgrow _;have HN : Hid (Ad la lb (k + 1) (l ++ [(c + x + y) % 10000]) ((c + x + y) / 10000) /\ OwnI w4 w2.heap.size v' (l ++ [(c + x + y) % 10000]) /\ zW w2 w4) := by
        refine ⟨HSS.out, ?_, (H.2.2.alloc hsz _).grown hgrow (size_ok hsz _) (fun j hj => (hown.lt j hj).1)⟩;unfold OwnI;rw [cellsI_append, List.length_append, hll];exact hown'
       clear hown hown' hgrow H HSS
       go_wp2
       go_roundw
       case rel => exact ⟨k + 1, _, _, by omega, by go_num, rfl, by omega, by omega, HN.out⟩
       case measure => simp [intOf]; omega
      ·
       obtain ⟨ga, hao, hgl, hcs⟩ := HCA.out (by omega);have hua : wr.cell? ⟨ga, k, none⟩ = some (zI (la.getD k 0)) := by
        rw [H.2.2.cell (p := ⟨ga, k, none⟩) hgl, hcs k hka]; simp [List.getD, hka]
       subst hao;clear hcs hgl;have hki : (k : Int) < (la.length : Int) := by omega
       have hkj : ¬ (k : Int) < (lb.length : Int) := by omega
       have HS := H.1.step HD.1 HD.2.1 (by omega);rw [getD_past (l := lb) (show lb.length <= k by omega)] at HS;simp only [Int.add_zero] at HS;have hxa := HD.1.getD k;have hxb := HD.2.1.getD k;generalize la.getD k 0 = x at *;generalize lb.getD k 0 = y at *;have hsz := H.2.2.size;have hown := H.2.1;unfold OwnI at hown;have hk0 : (0 : Int) <= (k : Int) := by omega
       have HSS : Hid (Ad la lb (k + 1) (l ++ [(c + x) % 10000]) ((c + x) / 10000)) := HS;clear HS;go_wp2_with (at_builtin; refine wpList_append_own _ rfl _ _ 70 rfl w2.heap.size 3 i0 (zI 0) 1 8 Tryz.underlying70 hi hz0 hz1 hz2 rfl (by decide) _ _ _ rfl (hown.alloc _) ⟨wr.heap.size, 0, none⟩ 1 1 [zI ((c + x) % 10000)] rfl rfl (one_new _ _ _) (one_int ((c + x) % 10000)) (by unfold maxLen; omega) (by omega) (size_ok hsz _) ?_);intro v' w4 hown' hgrow _;have HN : Hid (Ad la lb (k + 1) (l ++ [(c + x) % 10000]) ((c + x) / 10000) /\ OwnI w4 w2.heap.size v' (l ++ [(c + x) % 10000]) /\ zW w2 w4) := by
        refine ⟨HSS.out, ?_, (H.2.2.alloc hsz _).grown hgrow (size_ok hsz _) (fun j hj => (hown.lt j hj).1)⟩;unfold OwnI;rw [cellsI_append, List.length_append, hll];exact hown'
       clear hown hown' hgrow H HSS
       go_wp2
       go_roundw
       case rel => exact ⟨k + 1, _, _, by omega, by go_num, rfl, by omega, by omega, HN.out⟩
       case measure => simp [intOf]; omega
     ·by_cases hkb : k < lb.length
      ·
       have hki : ¬ (k : Int) < (la.length : Int) := by omega
       obtain ⟨gb, hbo, hgl, hcs⟩ := HCB.out (by omega);have hub : wr.cell? ⟨gb, k, none⟩ = some (zI (lb.getD k 0)) := by
        rw [H.2.2.cell (p := ⟨gb, k, none⟩) hgl, hcs k hkb]; simp [List.getD, hkb]
       subst hbo;clear hcs hgl;have hkj : (k : Int) < (lb.length : Int) := by omega
       have HS := H.1.step HD.1 HD.2.1 (by omega);rw [getD_past (l := la) (show la.length <= k by omega)] at HS;simp only [Int.add_zero] at HS;have hxa := HD.1.getD k;have hxb := HD.2.1.getD k;generalize la.getD k 0 = x at *;generalize lb.getD k 0 = y at *;have hsz := H.2.2.size;have hown := H.2.1;unfold OwnI at hown;have hk0 : (0 : Int) <= (k : Int) := by omega
       have HSS : Hid (Ad la lb (k + 1) (l ++ [(c + y) % 10000]) ((c + y) / 10000)) := HS;clear HS;go_wp2_with (at_builtin; refine wpList_append_own _ rfl _ _ 70 rfl w2.heap.size 3 i0 (zI 0) 1 8 Tryz.underlying70 hi hz0 hz1 hz2 rfl (by decide) _ _ _ rfl (hown.alloc _) ⟨wr.heap.size, 0, none⟩ 1 1 [zI ((c + y) % 10000)] rfl rfl (one_new _ _ _) (one_int ((c + y) % 10000)) (by unfold maxLen; omega) (by omega) (size_ok hsz _) ?_);intro v' w4 hown' hgrow _;have HN : Hid (Ad la lb (k + 1) (l ++ [(c + y) % 10000]) ((c + y) / 10000) /\ OwnI w4 w2.heap.size v' (l ++ [(c + y) % 10000]) /\ zW w2 w4) := by
        refine ⟨HSS.out, ?_, (H.2.2.alloc hsz _).grown hgrow (size_ok hsz _) (fun j hj => (hown.lt j hj).1)⟩;unfold OwnI;rw [cellsI_append, List.length_append, hll];exact hown'
       clear hown hown' hgrow H HSS
       go_wp2
       go_roundw
       case rel => exact ⟨k + 1, _, _, by omega, by go_num, rfl, by omega, by omega, HN.out⟩
       case measure => simp [intOf]; omega
      ·have hcp : 0 < c := by omega
       have hki : ¬ (k : Int) < (la.length : Int) := by omega
       have hkj : ¬ (k : Int) < (lb.length : Int) := by omega
       have HS := H.1.step HD.1 HD.2.1 (by omega);rw [getD_past (l := la) (show la.length <= k by omega)] at HS;rw [getD_past (l := lb) (show lb.length <= k by omega)] at HS;simp only [Int.add_zero] at HS;have hxa := HD.1.getD k;have hxb := HD.2.1.getD k;generalize la.getD k 0 = x at *;generalize lb.getD k 0 = y at *;have hsz := H.2.2.size;have hown := H.2.1;unfold OwnI at hown;have hk0 : (0 : Int) <= (k : Int) := by omega
       have HSS : Hid (Ad la lb (k + 1) (l ++ [(c) % 10000]) ((c) / 10000)) := HS;clear HS;go_wp2_with (at_builtin; refine wpList_append_own _ rfl _ _ 70 rfl w2.heap.size 3 i0 (zI 0) 1 8 Tryz.underlying70 hi hz0 hz1 hz2 rfl (by decide) _ _ _ rfl (hown.alloc _) ⟨wr.heap.size, 0, none⟩ 1 1 [zI ((c) % 10000)] rfl rfl (one_new _ _ _) (one_int ((c) % 10000)) (by unfold maxLen; omega) (by omega) (size_ok hsz _) ?_);intro v' w4 hown' hgrow _;have HN : Hid (Ad la lb (k + 1) (l ++ [(c) % 10000]) ((c) / 10000) /\ OwnI w4 w2.heap.size v' (l ++ [(c) % 10000]) /\ zW w2 w4) := by
        refine ⟨HSS.out, ?_, (H.2.2.alloc hsz _).grown hgrow (size_ok hsz _) (fun j hj => (hown.lt j hj).1)⟩;unfold OwnI;rw [cellsI_append, List.length_append, hll];exact hown'
       clear hown hown' hgrow H HSS
       go_wp2
       go_roundw
       case rel => exact ⟨k + 1, _, _, by omega, by go_num, rfl, by omega, by omega, HN.out⟩
       case measure => simp [intOf]; omega
    ·have hi1 : ¬ (k : Int) < (la.length : Int) := by omega
     have hi2 : ¬ (k : Int) < (lb.length : Int) := by omega
     have hi3 : ¬ (0 : Int) < c := by omega
     have HE : Hid (l = digs (ev la + ev lb)) := H.1.done HD.1 HD.2.1 HD.2.2.1 HD.2.2.2 (by omega) (by omega) (by omega);have HBB := zH (zJ (HX2.2.2.trans (H.2.2.mono HX2.2.2.size)) ((HX2.2.2.trans (H.2.2.mono HX2.2.2.size)).size : w.heap.size <= wr.heap.size));obtain ⟨vo, vc, hve, _⟩ := H.2.1.shape;subst hve;by_cases h40 : l.length <= 40
     ·have h40' : ¬ (40 : Int) < (l.length : Int) := by omega
      go_wp2
      go_ret;refine ⟨_, rfl, ?_, HBB.1⟩;have ho := H.2.1;unfold addL limL;rw [if_pos HK.out, <- HE.out, if_pos h40];have hob := ho.base HX2.2.2.size;rw [hll] at hob;exact hob
     ·have h40' : (40 : Int) < (l.length : Int) := by omega
      go_wp2
      go_ret;refine ⟨_, rfl, ?_, HBB.1.alloc HBB.2 _⟩;unfold addL limL;rw [if_pos HK.out, <- HE.out, if_neg h40];exact World.ownsRow_made wr #[] 0 HBB.2 (Nat.zero_le _) rfl
structure Su (la lb : List Int) (k : Nat) (l : List Int) (c : Int) : Prop where
 len : l.length = k
 dig : Dig l
 val : ev l - 10000 ^ k * c = ev (la.take k) - ev (lb.take k)
 small : 0 <= c /\ c <= 1
theorem Su.start (la lb : List Int) : Su la lb 0 [] 0 := ⟨rfl, Dig.nil, by simp [ev], by omega⟩
theorem Su.stepNo {la lb : List Int} {k : Nat} {l : List Int} {c : Int} (h : Su la lb k l c) (ha : Dig la) (hb : Dig lb) (hn : 0 <= la.getD k 0 - c - lb.getD k 0) : Su la lb (k + 1) (l ++ [la.getD k 0 - c - lb.getD k 0]) 0 := by
 have h1 := ha.getD k;have h2 := hb.getD k;have hs := h.small;refine ⟨by simp [h.len], dig_snoc h.dig (by omega), ?_, by omega⟩;rw [ev_snoc, h.len, ev_take_succ, ev_take_succ];have hv := h.val
 grind
theorem Su.stepLent {la lb : List Int} {k : Nat} {l : List Int} {c : Int} (h : Su la lb k l c) (ha : Dig la) (hb : Dig lb) (hn : la.getD k 0 - c - lb.getD k 0 < 0) : Su la lb (k + 1) (l ++ [la.getD k 0 - c - lb.getD k 0 + 10000]) 1 := by
 have h1 := ha.getD k;have h2 := hb.getD k;have hs := h.small;refine ⟨by simp [h.len], dig_snoc h.dig (by omega), ?_, by omega⟩;rw [ev_snoc, h.len, ev_take_succ, ev_take_succ, pw_succ];have hv := h.val
 grind
theorem Su.done {la lb : List Int} {l : List Int} {c : Int} (h : Su la lb la.length l c) (ha : Dig la) (hb : Dig lb) (tb : Top lb) (hle : ev lb <= ev la) : ev l = ev la - ev lb := by
 have hl := len_le_of_ev ha hb tb hle;have hv := h.val;rw [ev_take_all la (Nat.le_refl _), ev_take_all lb hl] at hv;have hv2 : ev l + 10000 ^ la.length * (-c) = ev la - ev lb := by rw [Int.mul_neg]; omega
 have h1 := ev_lt h.dig;rw [h.len] at h1;have := ev_lt ha;have := ev_nonneg hb;exact (no_carry hv2 (ev_nonneg h.dig) h1 (by omega) (by omega)).2
theorem specSub0_any (a b : Value) (la lb : List Int) (w : World) (hl : la.length <= 1000) (hda : Dig la) (hdb : Dig lb) (htb : Top lb) (hle : ev lb <= ev la) (ha : IntAt w a la) (hb : IntAt w b lb) :
  Calls Tryz.prog 144 #[a, b] w fun e w' => ∃ v, e = .returned v /\ OwnI w' w.heap.size v (digs (ev la - ev lb)) /\ zW w w' := by
 obtain ⟨i0, hi, hz0, hz1, hz2⟩ := info_parts info3;have hl2 := len_le_of_ev hda hdb htb hle;obtain ⟨ao, ac, rfl, HA0⟩ := ha;obtain ⟨bo, bc, rfl, HB0⟩ := hb;have HA : Hid (Dig la /\ (0 < la.length -> ∃ g, ao = some ⟨g, 0, none⟩ /\ g < w.heap.size /\ ∀ j (hj : j < la.length), w.cell? ⟨g, j, none⟩ = some (zI la[j]))) := ⟨hda, HA0⟩;have HB : Hid (Dig lb /\ Top lb /\ ev lb <= ev la /\ (0 < lb.length -> ∃ g, bo = some ⟨g, 0, none⟩ /\ g < w.heap.size /\ ∀ j (hj : j < lb.length), w.cell? ⟨g, j, none⟩ = some (zI lb[j]))) := ⟨hdb, htb, hle, HB0⟩;clear hda hdb HA0 HB0 htb hle;go_enter Tryz.func144, Tryz.ntmps144
 go_wp2
 go_loopw [5, 6, 7] (fun v cv iv wr => ∃ (k : Nat) (l : List Int) (c : Int), k <= la.length /\ iv = zI k /\ cv = zI c /\ 0 <= c /\ c <= 1 /\ Hid (Su la lb k l c /\ OwnI wr w.heap.size v l /\ zW w wr)) (fun _ _ iv _ => la.length - (intOf iv).toNat)
 case atStart => exact ⟨0, [], 0, by omega, rfl, rfl, by omega, by omega, Su.start _ _, World.ownsRow_made w #[] 0 (Nat.le_refl _) (Nat.zero_le _) rfl, (Below.refl _ _).alloc (Nat.le_refl _) _⟩
 case round =>
  obtain ⟨k, l, c, hk, rfl, rfl, hc0, hc1, H⟩ := hrel;have hll : l.length = k := H.1.len;by_cases hka : k < la.length
  ·by_cases hkb : k < lb.length
   ·
    obtain ⟨ga, hao, hgl, hcs⟩ := HA.2 (by omega);have hua : wr.cell? ⟨ga, k, none⟩ = some (zI (la.getD k 0)) := by
     rw [H.2.2.cell (p := ⟨ga, k, none⟩) hgl, hcs k hka]; simp [List.getD, hka]
    subst hao;clear hcs hgl;obtain ⟨gb, hbo, hgl, hcs⟩ := HB.2.2.2 (by omega);have hub : wr.cell? ⟨gb, k, none⟩ = some (zI (lb.getD k 0)) := by
     rw [H.2.2.cell (p := ⟨gb, k, none⟩) hgl, hcs k hkb]; simp [List.getD, hkb]
    subst hbo;clear hcs hgl;have hkj : (k : Int) < (lb.length : Int) := by omega
    have HY : Hid (lb.getD k 0 = lb.getD k 0) := rfl;have hxa := HA.1.getD k;have hxb := HB.1.getD k;have hfull := H.1.stepNo HA.1 HB.1;have hlent := H.1.stepLent HA.1 HB.1;clear HY;generalize la.getD k 0 = x at *;generalize lb.getD k 0 = y at *;have hsz := H.2.2.size;have hown := H.2.1;unfold OwnI at hown;have hk0 : (0 : Int) <= (k : Int) := by omega
    have hki : (k : Int) < (la.length : Int) := by omega
    by_cases hneg : x - c - y < 0
    ·have HSS : Hid (Su la lb (k + 1) (l ++ [x - c - y + 10000]) 1) := hlent hneg
     clear hfull hlent;go_wp2_with (at_builtin; refine wpList_append_own _ rfl _ _ 70 rfl w.heap.size 3 i0 (zI 0) 1 8 Tryz.underlying70 hi hz0 hz1 hz2 rfl (by decide) _ _ _ rfl (hown.alloc _) ⟨wr.heap.size, 0, none⟩ 1 1 [zI (x - c - y + 10000)] rfl rfl (one_new _ _ _) (one_int (x - c - y + 10000)) (by unfold maxLen; omega) (by omega) (size_ok hsz _) ?_);intro v' w4 hown' hgrow _;have HN : Hid (Su la lb (k + 1) (l ++ [x - c - y + 10000]) 1 /\ OwnI w4 w.heap.size v' (l ++ [x - c - y + 10000]) /\ zW w w4) := by
      refine ⟨HSS.out, ?_, (H.2.2.alloc hsz _).grown hgrow (size_ok hsz _) (fun j hj => (hown.lt j hj).1)⟩;unfold OwnI;rw [cellsI_append, List.length_append, hll];exact hown'
     clear hown hown' hgrow H HSS
     go_wp2
     go_roundw
     case rel => exact ⟨k + 1, _, 1, by omega, by go_num, rfl, by omega, by omega, HN.out⟩
     case measure => simp [intOf]; omega
    ·have HSS : Hid (Su la lb (k + 1) (l ++ [x - c - y]) 0) := hfull (by omega)
     clear hfull hlent;go_wp2_with (at_builtin; refine wpList_append_own _ rfl _ _ 70 rfl w.heap.size 3 i0 (zI 0) 1 8 Tryz.underlying70 hi hz0 hz1 hz2 rfl (by decide) _ _ _ rfl (hown.alloc _) ⟨wr.heap.size, 0, none⟩ 1 1 [zI (x - c - y)] rfl rfl (one_new _ _ _) (one_int (x - c - y)) (by unfold maxLen; omega) (by omega) (size_ok hsz _) ?_);intro v' w4 hown' hgrow _;have HN : Hid (Su la lb (k + 1) (l ++ [x - c - y]) 0 /\ OwnI w4 w.heap.size v' (l ++ [x - c - y]) /\ zW w w4) := by
      refine ⟨HSS.out, ?_, (H.2.2.alloc hsz _).grown hgrow (size_ok hsz _) (fun j hj => (hown.lt j hj).1)⟩;unfold OwnI;rw [cellsI_append, List.length_append, hll];exact hown'
     clear hown hown' hgrow H HSS
     go_wp2
     go_roundw
     case rel => exact ⟨k + 1, _, 0, by omega, by go_num, rfl, by omega, by omega, HN.out⟩
     case measure => simp [intOf]; omega
   ·
    obtain ⟨ga, hao, hgl, hcs⟩ := HA.2 (by omega);have hua : wr.cell? ⟨ga, k, none⟩ = some (zI (la.getD k 0)) := by
     rw [H.2.2.cell (p := ⟨ga, k, none⟩) hgl, hcs k hka]; simp [List.getD, hka]
    subst hao;clear hcs hgl;have hkj : ¬ (k : Int) < (lb.length : Int) := by omega
    have HY : Hid (lb.getD k 0 = 0) := getD_past (by omega);have hxa := HA.1.getD k;have hxb := HB.1.getD k;have hfull := H.1.stepNo HA.1 HB.1;have hlent := H.1.stepLent HA.1 HB.1;rw [HY.out] at hfull hlent;simp only [Int.sub_zero] at hfull hlent;clear HY;generalize la.getD k 0 = x at *;generalize lb.getD k 0 = y at *;have hsz := H.2.2.size;have hown := H.2.1;unfold OwnI at hown;have hk0 : (0 : Int) <= (k : Int) := by omega
    have hki : (k : Int) < (la.length : Int) := by omega
    by_cases hneg : x - c < 0
    ·have HSS : Hid (Su la lb (k + 1) (l ++ [x - c + 10000]) 1) := hlent hneg
     clear hfull hlent;go_wp2_with (at_builtin; refine wpList_append_own _ rfl _ _ 70 rfl w.heap.size 3 i0 (zI 0) 1 8 Tryz.underlying70 hi hz0 hz1 hz2 rfl (by decide) _ _ _ rfl (hown.alloc _) ⟨wr.heap.size, 0, none⟩ 1 1 [zI (x - c + 10000)] rfl rfl (one_new _ _ _) (one_int (x - c + 10000)) (by unfold maxLen; omega) (by omega) (size_ok hsz _) ?_);intro v' w4 hown' hgrow _;have HN : Hid (Su la lb (k + 1) (l ++ [x - c + 10000]) 1 /\ OwnI w4 w.heap.size v' (l ++ [x - c + 10000]) /\ zW w w4) := by
      refine ⟨HSS.out, ?_, (H.2.2.alloc hsz _).grown hgrow (size_ok hsz _) (fun j hj => (hown.lt j hj).1)⟩;unfold OwnI;rw [cellsI_append, List.length_append, hll];exact hown'
     clear hown hown' hgrow H HSS
     go_wp2
     go_roundw
     case rel => exact ⟨k + 1, _, 1, by omega, by go_num, rfl, by omega, by omega, HN.out⟩
     case measure => simp [intOf]; omega
    ·have HSS : Hid (Su la lb (k + 1) (l ++ [x - c]) 0) := hfull (by omega)
     clear hfull hlent;go_wp2_with (at_builtin; refine wpList_append_own _ rfl _ _ 70 rfl w.heap.size 3 i0 (zI 0) 1 8 Tryz.underlying70 hi hz0 hz1 hz2 rfl (by decide) _ _ _ rfl (hown.alloc _) ⟨wr.heap.size, 0, none⟩ 1 1 [zI (x - c)] rfl rfl (one_new _ _ _) (one_int (x - c)) (by unfold maxLen; omega) (by omega) (size_ok hsz _) ?_);intro v' w4 hown' hgrow _;have HN : Hid (Su la lb (k + 1) (l ++ [x - c]) 0 /\ OwnI w4 w.heap.size v' (l ++ [x - c]) /\ zW w w4) := by
      refine ⟨HSS.out, ?_, (H.2.2.alloc hsz _).grown hgrow (size_ok hsz _) (fun j hj => (hown.lt j hj).1)⟩;unfold OwnI;rw [cellsI_append, List.length_append, hll];exact hown'
     clear hown hown' hgrow H HSS
     go_wp2
     go_roundw
     case rel => exact ⟨k + 1, _, 0, by omega, by go_num, rfl, by omega, by omega, HN.out⟩
     case measure => simp [intOf]; omega
  ·have hkl : k = la.length := by omega
   subst hkl;have HE := zH (zJ (H.1.done HA.1 HB.1 HB.2.1 HB.2.2.1) H.1.dig);go_wp2_with fail;refine (specTrim_any _ l w.heap.size wr (by omega) HE.2 H.2.1).mono ?_;rintro e w3 ⟨u, rfl, ho3, hb3⟩;rw [HE.1] at ho3;have HF := zH (zJ (ho3 : OwnI w3 w.heap.size u (digs (ev la - ev lb))) (H.2.2.trans (hb3.mono H.2.2.size)));clear ho3 hb3
   go_wp2
   go_ret;exact ⟨_, rfl, HF.out⟩
end Go.Proofs.YtcbjlbpkoneibaaGreatDoor
namespace Go.Proofs.YtcbjlbpkoneibaaGreatDoor
open Go.RowKit
theorem digs_len64 {n : Int} (h : -9223372036854775808 <= n /\ n <= 9223372036854775807) : (digs n).length <= 5 := by
 by_cases h0 : 0 <= n
 ·exact digs_len h0 (by (have : (10000 : Int) ^ 5 = 100000000000000000000 := by decide); omega)
 ·rw [digs_neg (by omega)]; simp
theorem implOf_any (n : Int) (w : World) (hn : -9223372036854775808 <= n /\ n <= 9223372036854775807) :
  Calls Tryz.prog 53 #[zI n] w fun e w' => ∃ v, e = .returned v /\ OwnI w' w.heap.size v (digs n) /\ zW w w' := by
 obtain ⟨i0, hi, hz0, hz1, hz2⟩ := info_parts info3;go_enter Tryz.func53, Tryz.ntmps53
 go_wp2
 go_loopw [0, 3] (fun nv v wr => ∃ (x : Int) (l : List Int), -9223372036854775808 <= x /\ x <= 9223372036854775807 /\ nv = zI x /\ Hid (l ++ digs x = digs n /\ OwnI wr w.heap.size v l /\ zW w wr)) (fun nv _ _ => (intOf nv).toNat)
 case atStart => exact ⟨n, [], hn.1, hn.2, rfl, rfl, World.ownsRow_made w #[] 0 (Nat.le_refl _) (Nat.zero_le _) rfl, (Below.refl _ _).alloc (Nat.le_refl _) _⟩
 case round =>
  obtain ⟨x, l, hx1, hx2, rfl, H⟩ := hrel;have hll : l.length <= 5 := by
   have h := congrArg List.length H.1;rw [List.length_append] at h;by_cases hn0 : 0 <= n
   ·have := digs_len (k := 5) hn0 (by (have : (10000 : Int) ^ 5 = 100000000000000000000 := by decide); omega)
    omega
   ·rw [digs_neg (x := n) (by omega)] at h
    rw [List.length_nil] at h;omega
  by_cases hx : 0 < x
  ·have hsz := H.2.2.size
   have hown := H.2.1;unfold OwnI at hown;go_wp2_with (at_builtin; refine wpList_append_own _ rfl _ _ 70 rfl w.heap.size 3 i0 (zI 0) 1 8 Tryz.underlying70 hi hz0 hz1 hz2 rfl (by decide) _ _ _ rfl (hown.alloc _) ⟨wr.heap.size, 0, none⟩ 1 1 [zI (x % 10000)] rfl rfl (one_new _ _ _) (one_int (x % 10000)) (by unfold maxLen; omega) (by omega) (size_ok hsz _) ?_);intro v' w4 hown' hgrow _;have HN : Hid ((l ++ [x % 10000]) ++ digs (x / 10000) = digs n /\ OwnI w4 w.heap.size v' (l ++ [x % 10000]) /\ zW w w4) := by
    refine ⟨by rw [List.append_assoc, List.singleton_append, <- digs_step hx]; exact H.1, ?_, (H.2.2.alloc hsz _).grown hgrow (size_ok hsz _) (fun j hj => (hown.lt j hj).1)⟩;unfold OwnI;rw [cellsI_append, List.length_append];exact hown'
   clear hown hown' hgrow H
   go_wp2
   go_roundw
   case rel => exact ⟨x / 10000, _, by omega, by omega, rfl, HN.out⟩
   case measure => simp [intOf]; omega
  ·have HE : Hid (l = digs n) := by have h := H.1; rw [digs_neg (x := x) (by omega), List.append_nil] at h; exact h
   go_wp2
   go_ret;exact ⟨_, rfl, by rw [<- HE.out]; exact H.2.1, H.2.2⟩
theorem fig_prod2 {x y : Int} (hx : 0 <= x /\ x <= 9999) (hy : 0 <= y /\ y <= 9999) : 0 <= x * y /\ x * y <= 99980001 := by
 have h1 := Int.mul_le_mul_of_nonneg_left hy.2 hx.1;have h2 := Int.mul_nonneg hx.1 hy.1;omega
theorem OwnI.drewN {w : World} {base : Nat} {v : Value} {l : List Int} (h : OwnI w base v l) (n : Nat) : OwnI (w.drewN n) base v l := h.stays ⟨rfl, rfl, rfl, Nat.le_refl _, fun _ _ => rfl⟩
structure Mu (la lb : List Int) (i k : Nat) (L : List Int) (c : Int) : Prop where
 len : L.length = la.length + lb.length
 dig : Dig L
 val : ev L + 10000 ^ (i + k) * c = ev (la.take i) * ev lb + 10000 ^ i * la.getD i 0 * ev (lb.take k)
 small : 0 <= c /\ c <= 9999
 hi : ∀ q, i + lb.length <= q -> L.getD q 0 = 0
theorem Mu.start (la lb : List Int) : Mu la lb 0 0 (List.replicate (la.length + lb.length) 0) 0 := by
 have h0 : ∀ q, (List.replicate (la.length + lb.length) (0 : Int)).getD q 0 = 0 := fun q => by
  by_cases h : q < la.length + lb.length
  ·simp [List.getD, h]
  ·rw [getD_past (by simp; omega)]
 exact ⟨by simp, fun x hx => by simp at hx; omega, by rw [ev_replicate]; simp [ev], by omega, fun q _ => h0 q⟩
theorem Mu.step {la lb : List Int} {i k : Nat} {L : List Int} {c : Int} (h : Mu la lb i k L c) (ha : Dig la) (hb : Dig lb) (hi : i < la.length) (hk : k < lb.length) :
  Mu la lb i (k + 1) (L.set (i + k) ((L.getD (i + k) 0 + la.getD i 0 * lb.getD k 0 + c) % 10000)) ((L.getD (i + k) 0 + la.getD i 0 * lb.getD k 0 + c) / 10000) := by
 have hl := h.len;have hkl : i + k < L.length := by omega
 have h1 := h.dig.getD (i + k);have h2 := fig_prod2 (ha.getD i) (hb.getD k);have hs := h.small;refine ⟨by simp [hl], ?_, ?_, by omega, fun q hq => ?_⟩
 ·refine dig_of_getD fun j hj => ?_
  rw [getD_set _ hkl]
  split
  ·omega
  ·exact h.dig.getD j
 ·rw [ev_set _ hkl, ev_take_succ, <- Nat.add_assoc, pw_succ]
  have hv := h.val;have e := Int.emod_add_mul_ediv (L.getD (i + k) 0 + la.getD i 0 * lb.getD k 0 + c) 10000;generalize (L.getD (i + k) 0 + la.getD i 0 * lb.getD k 0 + c) % 10000 = r at *;generalize (L.getD (i + k) 0 + la.getD i 0 * lb.getD k 0 + c) / 10000 = q at *;have e' : r = L.getD (i + k) 0 + la.getD i 0 * lb.getD k 0 + c - 10000 * q := by omega
  rw [e'];rw [pw_add] at hv |-
  grind
 ·rw [getD_set _ hkl, if_neg (by omega)]
  exact h.hi q hq
theorem Mu.next {la lb : List Int} {i : Nat} {L : List Int} {c : Int} (h : Mu la lb i lb.length L c) (hi : i < la.length) (_hb : 0 < lb.length) :
  Mu la lb (i + 1) 0 (L.set (i + lb.length) (L.getD (i + lb.length) 0 + c)) 0 := by
 have hl := h.len;have hkl : i + lb.length < L.length := by omega
 have h0 := h.hi (i + lb.length) (Nat.le_refl _);have hs := h.small;refine ⟨by simp [hl], ?_, ?_, by omega, fun q hq => ?_⟩
 ·refine dig_of_getD fun j hj => ?_
  rw [getD_set _ hkl]
  split
  ·omega
  ·exact h.dig.getD j
 ·rw [ev_set _ hkl, h0, ev_take_succ]
  have hv := h.val;rw [ev_take_all lb (Nat.le_refl _)] at hv;simp only [List.take_zero, ev, Int.mul_zero, Int.add_zero, Int.zero_add, Int.sub_zero]
  grind
 ·rw [getD_set _ hkl, if_neg (by omega)]
  exact h.hi q (by omega)
theorem specMul0_any (a b : Value) (la lb : List Int) (w : World) (hl : la.length <= 1000) (hl2 : lb.length <= 1000) (hda : Dig la) (hdb : Dig lb) (ha : IntAt w a la) (hb : IntAt w b lb) :
  Calls Tryz.prog 130 #[a, b] w fun e w' => ∃ v, e = .returned v /\ OwnI w' w.heap.size v (digs (ev la * ev lb)) /\ zW w w' := by
 obtain ⟨i0, hi, hz0, hz1, hz2⟩ := info_parts info3;obtain ⟨ao, ac, rfl, HA0⟩ := ha;obtain ⟨bo, bc, rfl, HB0⟩ := hb;have HA : Hid (Dig la /\ (0 < la.length -> ∃ g, ao = some ⟨g, 0, none⟩ /\ g < w.heap.size /\ ∀ j (hj : j < la.length), w.cell? ⟨g, j, none⟩ = some (zI la[j]))) := ⟨hda, HA0⟩;have HB : Hid (Dig lb /\ (0 < lb.length -> ∃ g, bo = some ⟨g, 0, none⟩ /\ g < w.heap.size /\ ∀ j (hj : j < lb.length), w.cell? ⟨g, j, none⟩ = some (zI lb[j]))) := ⟨hdb, HB0⟩;clear hda hdb HA0 HB0;by_cases ha0 : la.length = 0
 ·have ha0' : ((la.length : Int) == 0) = true := by simpa using ha0
  have he : digs (ev la * ev lb) = [] := by
   rw [List.eq_nil_of_length_eq_zero ha0];simp [ev, digs_zero]
  have HE : Hid (digs (ev la * ev lb) = []) := he;clear he;go_enter Tryz.func130, Tryz.ntmps130
  go_wp2
  go_ret;exact ⟨_, rfl, by rw [HE.out]; exact World.ownsRow_made w #[] 0 (Nat.le_refl _) (Nat.zero_le _) rfl, (Below.refl _ _).alloc (Nat.le_refl _) _⟩
 have ha0' : ((la.length : Int) == 0) = false := by simpa using ha0
 by_cases hb0 : lb.length = 0
 ·have hb0' : ((lb.length : Int) == 0) = true := by simpa using hb0
  have he : digs (ev la * ev lb) = [] := by
   rw [List.eq_nil_of_length_eq_zero hb0];simp [ev, digs_zero]
  have HE : Hid (digs (ev la * ev lb) = []) := he;clear he;go_enter Tryz.func130, Tryz.ntmps130
  go_wp2
  go_ret;exact ⟨_, rfl, by rw [HE.out]; exact World.ownsRow_made w #[] 0 (Nat.le_refl _) (Nat.zero_le _) rfl, (Below.refl _ _).alloc (Nat.le_refl _) _⟩
 have hb0' : ((lb.length : Int) == 0) = false := by simpa using hb0
 have hbp : 0 < lb.length := by omega
 have HZ : Hid (¬ la.length = 0 /\ ¬ lb.length = 0) := ⟨ha0, hb0⟩;clear ha0 hb0;go_enter Tryz.func130, Tryz.ntmps130;go_wp2_with (at_make; refine wpList_make_full _ rfl _ _ 70 rfl w.heap.size 3 i0 (zI 0) 1 Tryz.underlying70 hi hz0 hz1 .i64 .i64 _ _ (la.length + lb.length) rfl rfl ?m0 ?m1 ?m2 ?m3 ?m4 ?_)
 case m0 => simp
 case m1 => simp
 case m2 => rw [hz2]; omega
 case m3 => unfold maxLen; omega
 case m4 => exact Nat.le_refl _
 intro w1 hown hgrow;have HO : Hid (∃ L, Mu la lb 0 0 L 0 /\ OwnI w1 w.heap.size (zS (some ⟨w.heap.size, 0, none⟩) L.length (la.length + lb.length)) L /\ zW w w1) :=
  ⟨_, Mu.start la lb, OwnI.of_made hown, (Below.refl _ _).grown hgrow (Nat.le_refl _) (fun j hj => by cases hj)⟩
 clear hown hgrow;go_wp2_with fail
 go_loopw [6] (fun iv wr => ∃ (i : Nat) (L : List Int), i <= la.length /\ iv = zI i /\ Hid (Mu la lb i 0 L 0 /\ OwnI wr w.heap.size (zS (some ⟨w.heap.size, 0, none⟩) L.length (la.length + lb.length)) L /\ zW w wr)) (fun iv _ => la.length - (intOf iv).toNat)
 case atStart => obtain ⟨L, h⟩ := HO.out; exact ⟨0, L, Nat.zero_le _, rfl, h⟩
 case round =>
  obtain ⟨i, L, hi1, rfl, H⟩ := hrel;clear HO;by_cases hin : i < la.length
  ·have hii : (i : Int) < (la.length : Int) := by omega
   have hi0 : (0 : Int) <= (i : Int) := by omega
   obtain ⟨ga, hao, hgl, hcs⟩ := HA.2 (by omega);have HUA : Hid (∀ w', zW w w' -> w'.cell? ⟨ga, i, none⟩ = some (zI (la.getD i 0))) := fun w' hb => by
    rw [hb.cell (p := ⟨ga, i, none⟩) hgl, hcs i hin]; simp [List.getD, hin]
   have hga : ga ≠ w.heap.size := by omega
   subst hao;clear hcs hgl;go_wp2_with fail
   go_loopw [7, 8] (fun cv jv wj => ∃ (k : Nat) (M : List Int) (c : Int), k <= lb.length /\ jv = zI k /\ cv = zI c /\ 0 <= c /\ c <= 9999 /\ Hid (Mu la lb i k M c /\ OwnI wj w.heap.size (zS (some ⟨w.heap.size, 0, none⟩) M.length (la.length + lb.length)) M /\ zW w wj)) (fun _ jv _ => lb.length - (intOf jv).toNat)
   case atStart => exact ⟨0, L, 0, Nat.zero_le _, rfl, rfl, by omega, by omega, H.out⟩
   case round =>
    obtain ⟨k, M, c, hk, rfl, rfl, hc0, hc1, HJ⟩ := hrel;clear H;by_cases hkn : k < lb.length
    ·obtain ⟨gb, hbo, hgl, hcs⟩ := HB.2 (by omega)
     have hub : wr.cell? ⟨gb, k, none⟩ = some (zI (lb.getD k 0)) := by
      rw [HJ.2.2.cell (p := ⟨gb, k, none⟩) hgl, hcs k hkn]; simp [List.getD, hkn]
     subst hbo;clear hcs hgl;have hua := HUA.out wr HJ.2.2;have hxa := HA.1.getD i;have hxb := HB.1.getD k;have hml := HJ.1.len;have hu := HJ.2.1.cell (j := i + k) (by omega);have hfz := HJ.2.1.frozen (i + k);have hbd := HJ.1.dig.getD (i + k);have hpr := fig_prod2 hxa hxb;have HN : Hid (Mu la lb i (k + 1) (M.set (i + k) ((M.getD (i + k) 0 + la.getD i 0 * lb.getD k 0 + c) % 10000)) ((M.getD (i + k) 0 + la.getD i 0 * lb.getD k 0 + c) / 10000) /\ (∀ y nq, OwnI ((wr.drewN nq).setCell ⟨w.heap.size, i + k, none⟩ (zI y)) w.heap.size (zS (some ⟨w.heap.size, 0, none⟩) (M.set (i + k) y).length (la.length + lb.length)) (M.set (i + k) y)) /\ ∀ y nq, zW w ((wr.drewN nq).setCell ⟨w.heap.size, i + k, none⟩ (zI y))) :=
      ⟨HJ.1.step HA.1 HB.1 hin hkn, fun y nq => (OwnI.drewN HJ.2.1 nq).set (i + k) y, fun y nq => Below.setCell (p := ⟨w.heap.size, i + k, none⟩) (below_drewN HJ.2.2 nq) (Nat.le_refl _) (zI y)⟩
     clear HJ hml;generalize M.getD (i + k) 0 = z at *;generalize lb.getD k 0 = y at *;generalize la.getD i 0 = x at *;have hki : (k : Int) < (lb.length : Int) := by omega
     have hk0 : (0 : Int) <= (k : Int) := by omega
     have hik : (i : Int) + (k : Int) < (la.length : Int) + (lb.length : Int) := by omega
     go_wp2_with fail
     go_quiet (fail)
     go_wp2_with fail
     go_roundw
     case rel => exact ⟨k + 1, _, _, by omega, by go_num, rfl, by omega, by omega, HN.1, HN.2.1 _ _, HN.2.2 _ _⟩
     case measure => simp [intOf]; omega
    ·have hjl : k = lb.length := by omega
     subst hjl;have hml := HJ.1.len;have hu := HJ.2.1.cell (j := i + lb.length) (by omega);have hfz := HJ.2.1.frozen (i + lb.length);have hbd := HJ.1.dig.getD (i + lb.length);have HT := HJ.1.next hin hbp;have HK : Hid (Mu la lb (i + 1) 0 (M.set (i + lb.length) (M.getD (i + lb.length) 0 + c)) 0 /\ (∀ y, OwnI (wr.setCell ⟨w.heap.size, i + lb.length, none⟩ (zI y)) w.heap.size (zS (some ⟨w.heap.size, 0, none⟩) (M.set (i + lb.length) y).length (la.length + lb.length)) (M.set (i + lb.length) y)) /\ ∀ y, zW w (wr.setCell ⟨w.heap.size, i + lb.length, none⟩ (zI y))) :=
      ⟨HT, fun y => HJ.2.1.set (i + lb.length) y, fun y => Below.setCell (p := ⟨w.heap.size, i + lb.length, none⟩) HJ.2.2 (Nat.le_refl _) (zI y)⟩
     clear HT HJ hml;generalize M.getD (i + lb.length) 0 = z at *;have hik : (i : Int) + (lb.length : Int) < (la.length : Int) + (lb.length : Int) := by omega
     go_wp2_with fail
     go_roundw
     case rel => exact ⟨i + 1, _, by omega, by go_num, HK.1, HK.2.1 _, HK.2.2 _⟩
     case measure => simp [intOf]; omega
  ·have hkl : i = la.length := by omega
   subst hkl;have HV : Hid (ev L = ev la * ev lb) := by
    have hv := H.1.val;rw [ev_take_all la (Nat.le_refl _)] at hv;simp only [List.take_zero, ev, Int.mul_zero, Int.add_zero] at hv;exact hv
   go_wp2_with fail;have ho := H.2.1;rw [H.1.len] at ho;refine (specTrim_any _ L w.heap.size wr (by rw [H.1.len]; omega) H.1.dig ho).mono ?_;clear ho;rintro e w3 ⟨v, rfl, ho3, hb3⟩;rw [HV.out] at ho3;have HE := zH (zJ (ho3 : OwnI w3 w.heap.size v (digs (ev la * ev lb))) (H.2.2.trans (hb3.mono H.2.2.size)));clear ho3 hb3
   go_wp2
   go_ret;exact ⟨_, rfl, HE.out⟩
theorem specTimes_any (a : Value) (la : List Int) (n : Int) (w : World) (hl : la.length <= 1000) (hda : Dig la) (hn : 0 <= n /\ n <= 9999) (ha : IntAt w a la) :
  Calls Tryz.prog 142 #[a, zI n] w fun e w' => ∃ v, e = .returned v /\ OwnI w' w.heap.size v (digs (ev la * n)) /\ zW w w' := by
 have HA : Hid (IntAt w a la /\ Dig la) := ⟨ha, hda⟩;clear ha hda;by_cases h0 : n = 0
 ·subst h0
  have he : digs (ev la * 0) = [] := by rw [Int.mul_zero]; exact digs_zero
  have HE : Hid (digs (ev la * 0) = []) := he;clear he;go_enter Tryz.func142, Tryz.ntmps142
  go_wp2
  go_ret;exact ⟨_, rfl, by rw [HE.out]; exact World.ownsRow_made w #[] 0 (Nat.le_refl _) (Nat.zero_le _) rfl, (Below.refl _ _).alloc (Nat.le_refl _) _⟩
 ·have h0' : (n == 0) = false := by simpa using h0
  go_enter Tryz.func142, Tryz.ntmps142;go_wp2_with fail;have HL : Hid (OwnI (w.alloc (Obj.cells #[Value.int IntKind.i64 n] 3)) w.heap.size (zS (some ⟨w.heap.size, 0, none⟩) 1 1) [n] /\ zW w (w.alloc (Obj.cells #[Value.int IntKind.i64 n] 3))) :=
   ⟨World.ownsRow_lit w #[Value.int .i64 n] 1 (Nat.le_refl _) (by unfold maxLen; omega) rfl, (Below.refl _ _).alloc (Nat.le_refl _) _⟩
  have hev : ev [n] = n := by simp [ev]
  have hdn : Dig [n] := fun x hx => by simp at hx; subst hx; exact hn
  have E := specMul0_any a (zS (some ⟨w.heap.size, 0, none⟩) 1 1) la [n] (w.alloc (Obj.cells #[Value.int IntKind.i64 n] 3)) hl (by simp) HA.2 hdn (HA.1.below HL.2) HL.1.at
  rw [hev] at E;clear hev hdn;refine E.mono ?_;clear E;rintro e w2 ⟨v, rfl, ho2, hb2⟩;have HE := zH (zJ (ho2.base HL.2.size) (HL.2.trans (hb2.mono HL.2.size)));clear ho2 hb2;go_wp2_with fail;go_ret;exact ⟨_, rfl, HE.out⟩
theorem specGuess_any (a b : Value) (la lb : List Int) (w : World) (hl : la.length <= lb.length + 1) (hl2 : lb.length <= 1000) (hb0 : 0 < lb.length) (hda : Dig la) (hdb : Dig lb) (tb : Top lb) (ha : IntAt w a la) (hb : IntAt w b lb) :
  Calls Tryz.prog 141 #[a, b] w fun e w' => ∃ q : Int, e = .returned (zI q) /\ 0 <= q /\ q <= 9999 /\ zW w w' := by
 obtain ⟨ao, ac, rfl, HA0⟩ := ha;obtain ⟨bo, bc, rfl, HB0⟩ := hb;have HA : Hid (Dig la /\ (0 < la.length -> ∃ g, ao = some ⟨g, 0, none⟩ /\ g < w.heap.size /\ ∀ j (hj : j < la.length), w.cell? ⟨g, j, none⟩ = some (zI la[j]))) := ⟨hda, HA0⟩;have HB : Hid (Dig lb /\ Top lb /\ (0 < lb.length -> ∃ g, bo = some ⟨g, 0, none⟩ /\ g < w.heap.size /\ ∀ j (hj : j < lb.length), w.cell? ⟨g, j, none⟩ = some (zI lb[j]))) := ⟨hdb, tb, HB0⟩;clear hda hdb HA0 HB0 tb;by_cases hlt : la.length < lb.length
 ·have hlt' : (la.length : Int) < (lb.length : Int) := by omega
  go_enter Tryz.func141, Tryz.ntmps141
  go_wp2
  go_ret;exact ⟨0, rfl, by omega, by omega, Below.refl _ _⟩
 ·have hlt' : ¬ (la.length : Int) < (lb.length : Int) := by omega
  go_enter Tryz.func141, Tryz.ntmps141
  go_wp2
  go_loopw [6, 7] (fun tv iv wr => ∃ t z : Int, tv = zI t /\ iv = zI z /\ (lb.length : Int) - 2 <= z /\ z <= (la.length : Int) - 1 /\ 0 <= t /\ t < 100000000 /\ zW w wr /\ Hid ((z = (la.length : Int) - 1 /\ t = 0) ∨ (z = (la.length : Int) - 2 /\ t < 10000) ∨ z = (la.length : Int) - 3)) (fun _ iv _ => (intOf iv + 2).toNat)
  case atStart => exact ⟨0, _, rfl, rfl, by omega, by omega, by omega, by omega, Below.refl _ _, .inl ⟨rfl, rfl⟩⟩
  case round =>
   obtain ⟨t, z, rfl, rfl, hz1, hz2, ht0, ht1, hbel, HD⟩ := hrel;by_cases hz : (lb.length : Int) - 1 <= z
   ·have hz0 : 0 <= z := by omega
    have hzl : z.toNat < la.length := by omega
    have hzl' : z < (la.length : Int) := by omega
    have ht2 : t < 10000 := by rcases HD.out with h | h | h <;> omega
    obtain ⟨ga, hao, hgl, hcs⟩ := HA.2 (by omega);have hua : wr.cell? ⟨ga, z.toNat, none⟩ = some (zI (la.getD z.toNat 0)) := by
     rw [hbel.cell (p := ⟨ga, z.toNat, none⟩) hgl, hcs z.toNat hzl]; simp [List.getD, hzl]
    subst hao;have hx := HA.1.getD z.toNat;have HN : Hid (∀ x, 0 <= x /\ x <= 9999 -> ((z - 1 = (la.length : Int) - 1 /\ t * 10000 + x = 0) ∨ (z - 1 = (la.length : Int) - 2 /\ t * 10000 + x < 10000) ∨ z - 1 = (la.length : Int) - 3)) := fun x hx => by
     rcases HD.out with h | h | h <;> omega
    clear hcs hgl HD hzl;generalize la.getD z.toNat 0 = x at *;go_wp2_with fail
    go_roundw
    case rel => exact ⟨t * 10000 + x, z - 1, rfl, rfl, by omega, by omega, by omega, by omega, hbel, HN.out x hx⟩
    case measure => simp [intOf]; omega
   ·have hzz : ¬ (lb.length : Int) - 1 <= z := hz
    obtain ⟨gb, hbo, hgl, hcs⟩ := HB.2.2 hb0;have hub : wr.cell? ⟨gb, lb.length - 1, none⟩ = some (zI (lb.getD (lb.length - 1) 0)) := by
     rw [hbel.cell (p := ⟨gb, lb.length - 1, none⟩) hgl, hcs (lb.length - 1) (by omega)]; simp [List.getD, show lb.length - 1 < lb.length by omega]
    have hy := HB.1.getD (lb.length - 1);have hy1 : 1 <= lb.getD (lb.length - 1) 0 := by have := HB.2.1 hb0; omega
    by_cases hone : lb.length = 1
    ·have hone' : ¬ (1 : Int) < (lb.length : Int) := by omega
     clear hone;subst hbo;clear hcs hgl;generalize lb.getD (lb.length - 1) 0 = y at *;have hq0 : 0 <= t / y := Int.ediv_nonneg ht0 (by omega);have hq1 : t / y <= t := Int.ediv_le_self y ht0;by_cases hq : (9999 : Int) < t / y
     ·go_wp2_with fail
      go_ret;exact ⟨_, rfl, by omega, by omega, hbel⟩
     ·go_wp2_with fail
      go_ret;exact ⟨_, rfl, by omega, by omega, hbel⟩
    ·have hone' : (1 : Int) < (lb.length : Int) := by omega
     have hub2 : wr.cell? ⟨gb, lb.length - 2, none⟩ = some (zI (lb.getD (lb.length - 2) 0)) := by
      rw [hbel.cell (p := ⟨gb, lb.length - 2, none⟩) hgl, hcs (lb.length - 2) (by omega)]; simp [List.getD, show lb.length - 2 < lb.length by omega]
     have hv := HB.1.getD (lb.length - 2);subst hbo;clear hcs hgl;obtain ⟨ga, hao, hgl, hcs⟩ := HA.2 (by omega);have hua : wr.cell? ⟨ga, lb.length - 2, none⟩ = some (zI (la.getD (lb.length - 2) 0)) := by
      rw [hbel.cell (p := ⟨ga, lb.length - 2, none⟩) hgl, hcs (lb.length - 2) (by omega)]; simp [List.getD, show lb.length - 2 < la.length by omega]
     have hx := HA.1.getD (lb.length - 2);subst hao;clear hcs hgl;generalize lb.getD (lb.length - 1) 0 = y at *;generalize lb.getD (lb.length - 2) 0 = v at *;generalize la.getD (lb.length - 2) 0 = x at *;have hin : (lb.length : Int) - 2 < (la.length : Int) := by omega
     have hq0 : 0 <= (t * 10000 + x) / (y * 10000 + v) := Int.ediv_nonneg (by omega) (by omega);have hq1 : (t * 10000 + x) / (y * 10000 + v) <= t * 10000 + x := Int.ediv_le_self _ (by omega);by_cases hq : (9999 : Int) < (t * 10000 + x) / (y * 10000 + v)
     ·go_wp2_with fail
      go_ret;exact ⟨_, rfl, by omega, by omega, hbel⟩
     ·go_wp2_with fail
      go_ret;exact ⟨_, rfl, by omega, by omega, hbel⟩
end Go.Proofs.YtcbjlbpkoneibaaGreatDoor
