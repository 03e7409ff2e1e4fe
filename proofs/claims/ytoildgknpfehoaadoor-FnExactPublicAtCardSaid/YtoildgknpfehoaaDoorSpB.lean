/-
  The specification's NatAdd and l04Sub: figure by figure.
-/
import Derived.Test.YtoildgknpfehoaaDoorNatK
import Derived.Test.YtoildgknpfehoaaDoorSpA
namespace Go.Proofs.YtoildgknpfehoaaDoor
open Go.RowKit

theorem top_of_ge {l : List Int} (hd : Dig l) (h : 0 < l.length → 10000 ^ (l.length - 1) ≤ ev l) : Top l := by
  intro h0 hz
  have h1 := h h0
  have h2 := ev_take_succ l (l.length - 1)
  rw [show l.length - 1 + 1 = l.length by omega, ev_take_all l (Nat.le_refl _), hz] at h2
  have h3 := ev_lt (hd.take (l.length - 1))
  have h4 := pw_le (show (l.take (l.length - 1)).length ≤ l.length - 1 by simp)
  simp only [Int.mul_zero, Int.add_zero] at h2
  omega
theorem dig_snoc {l : List Int} {x : Int} (h : Dig l) (hx : 0 ≤ x ∧ x ≤ 9999) : Dig (l ++ [x]) := fun y hy => by
  rcases List.mem_append.1 hy with h1 | h1
  · exact h y h1
  · simp at h1; subst h1; exact hx
theorem ev_snoc (l : List Int) (x : Int) : ev (l ++ [x]) = ev l + 10000 ^ l.length * x := by rw [ev_append]; simp [ev]

/-- Where the sum stands: k figures are there, and what is carried. -/
structure Ad (la lb : List Int) (k : Nat) (l : List Int) (c : Int) : Prop where
  len : l.length = k
  dig : Dig l
  val : ev l + 10000 ^ k * c = ev (la.take k) + ev (lb.take k)
  small : 0 ≤ c ∧ c ≤ 1
  past : k = 0 ∨ k ≤ la.length ∨ k ≤ lb.length ∨ (c = 0 ∧ l.getD (k - 1) 0 ≠ 0 ∧ k = la.length + 1) ∨ (c = 0 ∧ l.getD (k - 1) 0 ≠ 0 ∧ k = lb.length + 1)
theorem Ad.start (la lb : List Int) : Ad la lb 0 [] 0 := ⟨rfl, Dig.nil, by simp [ev], by omega, .inl rfl⟩
theorem Ad.step {la lb : List Int} {k : Nat} {l : List Int} {c : Int} (h : Ad la lb k l c) (ha : Dig la) (hb : Dig lb) (hgo : k < la.length ∨ k < lb.length ∨ 0 < c) :
    Ad la lb (k + 1) (l ++ [(c + la.getD k 0 + lb.getD k 0) % 10000]) ((c + la.getD k 0 + lb.getD k 0) / 10000) := by
  have h1 := ha.getD k
  have h2 := hb.getD k
  have hs := h.small
  refine ⟨by simp [h.len], dig_snoc h.dig (by omega), ?_, by omega, ?_⟩
  · rw [ev_snoc, h.len, ev_take_succ, ev_take_succ, pw_succ]
    have hv := h.val
    have e := Int.emod_add_mul_ediv (c + la.getD k 0 + lb.getD k 0) 10000
    generalize (c + la.getD k 0 + lb.getD k 0) % 10000 = r at *
    generalize (c + la.getD k 0 + lb.getD k 0) / 10000 = q at *
    have e' : r = c + la.getD k 0 + lb.getD k 0 - 10000 * q := by omega
    rw [e']
    grind
  · by_cases hka : k < la.length
    · exact .inr (.inl (by omega))
    by_cases hkb : k < lb.length
    · exact .inr (.inr (.inl (by omega)))
    have hc1 : c = 1 := by omega
    have hz : (l ++ [(c + la.getD k 0 + lb.getD k 0) % 10000]).getD (k + 1 - 1) 0 ≠ 0 := by
      rw [getD_past (l := la) (by omega), getD_past (l := lb) (by omega), hc1]
      have hl := h.len
      simp [List.getD, hl]
    have hz2 : (c + la.getD k 0 + lb.getD k 0) / 10000 = 0 := by
      rw [getD_past (l := la) (by omega), getD_past (l := lb) (by omega), hc1]; decide
    rcases h.past with hp | hp | hp | hp | hp
    · subst hp
      have hv := h.val
      have hn : l = [] := List.eq_nil_of_length_eq_zero h.len
      subst hn
      simp [ev] at hv
      omega
    · exact .inr (.inr (.inr (.inl ⟨hz2, hz, by omega⟩)))
    · exact .inr (.inr (.inr (.inr ⟨hz2, hz, by omega⟩)))
    · omega
    · omega
theorem Ad.done {la lb : List Int} {k : Nat} {l : List Int} {c : Int} (h : Ad la lb k l c) (ha : Dig la) (hb : Dig lb) (ta : Top la) (tb : Top lb) (h1 : la.length ≤ k) (h2 : lb.length ≤ k) (h3 : c = 0) : l = digs (ev la + ev lb) := by
  have hv := h.val
  rw [h3, ev_take_all la h1, ev_take_all lb h2] at hv
  simp at hv
  refine eq_digs_of h.dig ?_ hv
  have hl := h.len
  rcases h.past with hp | hp | hp | hp | hp
  · intro h0; omega
  · refine top_of_ge h.dig fun h0 => ?_
    rw [hv, hl]
    have := ev_ge ha ta (by omega)
    rw [show la.length - 1 = k - 1 by omega] at this
    have := ev_nonneg hb
    omega
  · refine top_of_ge h.dig fun h0 => ?_
    rw [hv, hl]
    have := ev_ge hb tb (by omega)
    rw [show lb.length - 1 = k - 1 by omega] at this
    have := ev_nonneg ha
    omega
  · intro _; rw [hl]; exact hp.2.1
  · intro _; rw [hl]; exact hp.2.1

set_option maxHeartbeats 1600000 in
set_option maxRecDepth 100000 in
theorem specAdd_any (a b : Value) (la lb : List Int) (w : World) (hl : la.length ≤ 10000000) (hl2 : lb.length ≤ 10000000) (wa : Wd la) (wb : Wd lb) (ha : IntAt w a la) (hb : IntAt w b lb) :
    Calls Tryd.prog 48 #[a, b] w fun e w' => ∃ v, e = .returned v ∧ OwnI w' w.heap.size v (addL la lb) ∧ Below w.heap.size w w' := by
  obtain ⟨i0, hi, hz0, hz1, hz2⟩ := info_parts info3
  have HX : Hid (IntAt w a la ∧ IntAt w b lb ∧ Wd la ∧ Wd lb) := ⟨ha, hb, wa, wb⟩
  obtain ⟨ao, ac, hae, HA0⟩ := ha
  obtain ⟨bo, bc, hbe, HB0⟩ := hb
  subst hae hbe
  clear HA0 HB0 wa wb
  go_enter Tryd.func48, Tryd.ntmps48
  go_wp2_with fail
  refine (specOk_any _ la w hl HX.out.1 HX.out.2.2.1).mono ?_
  rintro e w1 ⟨rfl, hb1⟩
  have HX1 : Hid (IntAt w1 (.slice ao la.length ac) la ∧ IntAt w1 (.slice bo lb.length bc) lb ∧ Below w.heap.size w w1) := ⟨HX.out.1.below hb1, HX.out.2.1.below hb1, hb1⟩
  clear hb1
  rcases h : okL la with _ | _
  · have HN : Hid (¬ (okL la = true ∧ okL lb = true)) := fun h2 => by rw [h] at h2; simp at h2
    go_wp2_with fail
    go_ret
    refine ⟨_, rfl, by unfold addL; rw [if_neg HN.out]; exact World.ownsRow_made w1 #[] 0 HX1.out.2.2.size (Nat.zero_le _) rfl, HX1.out.2.2.alloc HX1.out.2.2.size _⟩
  · go_wp2_with fail
    refine (specOk_any _ lb w1 hl2 HX1.out.2.1 HX.out.2.2.2).mono ?_
    rintro e w2 ⟨rfl, hb2⟩
    have HX2 : Hid (IntAt w2 (.slice ao la.length ac) la ∧ IntAt w2 (.slice bo lb.length bc) lb ∧ Below w.heap.size w w2) := ⟨HX1.out.1.below hb2, HX1.out.2.1.below hb2, HX1.out.2.2.trans (hb2.mono HX1.out.2.2.size)⟩
    clear hb2 HX1
    rcases h2 : okL lb with _ | _
    · have HN : Hid (¬ (okL la = true ∧ okL lb = true)) := fun h3 => by rw [h2] at h3; simp at h3
      go_wp2_with fail
      go_ret
      refine ⟨_, rfl, by unfold addL; rw [if_neg HN.out]; exact World.ownsRow_made w2 #[] 0 HX2.out.2.2.size (Nat.zero_le _) rfl, HX2.out.2.2.alloc HX2.out.2.2.size _⟩
    · have HK : Hid (okL la = true ∧ okL lb = true) := ⟨h, h2⟩
      have hla := (okL_true h).1
      have hlb := (okL_true h2).1
      have HD : Hid (Dig la ∧ Dig lb ∧ Top la ∧ Top lb) := ⟨(okL_true h).2.1, (okL_true h2).2.1, (okL_true h).2.2, (okL_true h2).2.2⟩
      clear h h2
      have HCA : Hid (0 < la.length → ∃ g, ao = some ⟨g, 0, none⟩ ∧ g < w2.heap.size ∧ ∀ j (hj : j < la.length), w2.cell? ⟨g, j, none⟩ = some (.int .i64 la[j])) := by
        obtain ⟨_, _, he, h⟩ := HX2.out.1
        simp only [Value.slice.injEq, true_and] at he
        obtain ⟨rfl, rfl⟩ := he
        exact h
      have HCB : Hid (0 < lb.length → ∃ g, bo = some ⟨g, 0, none⟩ ∧ g < w2.heap.size ∧ ∀ j (hj : j < lb.length), w2.cell? ⟨g, j, none⟩ = some (.int .i64 lb[j])) := by
        obtain ⟨_, _, he, h⟩ := HX2.out.2.1
        simp only [Value.slice.injEq, true_and] at he
        obtain ⟨rfl, rfl⟩ := he
        exact h
      go_wp2_with fail
      go_loopw [5, 6, 7] (fun v cv iv wr => ∃ (k : Nat) (l : List Int) (c : Int), k ≤ 41 ∧ iv = .int .i64 k ∧ cv = .int .i64 c ∧ 0 ≤ c ∧ c ≤ 1 ∧ Hid (Ad la lb k l c ∧ OwnI wr w2.heap.size v l ∧ Below w2.heap.size w2 wr)) (fun _ _ iv _ => 42 - (intOf iv).toNat)
      case atStart => exact ⟨0, [], 0, by omega, rfl, rfl, by omega, by omega, Ad.start _ _, World.ownsRow_made w2 #[] 0 (Nat.le_refl _) (Nat.zero_le _) rfl, (Below.refl _ _).alloc (Nat.le_refl _) _⟩
      case round =>
        obtain ⟨k, l, c, hk, rfl, rfl, hc0, hc1, H⟩ := hrel
        have hll : l.length = k := H.out.1.len
        by_cases hgo : k < la.length ∨ k < lb.length ∨ 0 < c
        · have hk1 : k ≤ 40 := by
            rcases H.out.1.past with h | h | h | h | h <;> omega
          by_cases hka : k < la.length
          · by_cases hkb : k < lb.length
            · 
              obtain ⟨ga, hao, hgl, hcs⟩ := HCA.out (by omega)
              have hua : wr.cell? ⟨ga, k, none⟩ = some (.int .i64 (la.getD k 0)) := by
                rw [H.out.2.2.cell (p := ⟨ga, k, none⟩) hgl, hcs k hka]; simp [List.getD, hka]
              subst hao
              clear hcs hgl
              have hki : (k : Int) < (la.length : Int) := by omega
              obtain ⟨gb, hbo, hgl, hcs⟩ := HCB.out (by omega)
              have hub : wr.cell? ⟨gb, k, none⟩ = some (.int .i64 (lb.getD k 0)) := by
                rw [H.out.2.2.cell (p := ⟨gb, k, none⟩) hgl, hcs k hkb]; simp [List.getD, hkb]
              subst hbo
              clear hcs hgl
              have hkj : (k : Int) < (lb.length : Int) := by omega
              have HS := H.out.1.step HD.out.1 HD.out.2.1 (by omega)
              have hxa := HD.out.1.getD k
              have hxb := HD.out.2.1.getD k
              generalize la.getD k 0 = x at *
              generalize lb.getD k 0 = y at *
              have hsz := H.out.2.2.size
              have hown := H.out.2.1
              unfold OwnI at hown
              have hk0 : (0 : Int) ≤ (k : Int) := by omega
              have HSS : Hid (Ad la lb (k + 1) (l ++ [(c + x + y) % 10000]) ((c + x + y) / 10000)) := HS
              clear HS
              go_wp2_with (at_builtin; refine wpList_append_own _ rfl _ _ 24 rfl w2.heap.size 3 i0 (.int .i64 0) 1 8 Tryd.underlying24 hi hz0 hz1 hz2 rfl (by decide) _ _ _ rfl (hown.alloc _) ⟨wr.heap.size, 0, none⟩ 1 1 [.int .i64 ((c + x + y) % 10000)] rfl rfl (one_new _ _ _) (one_int ((c + x + y) % 10000)) (by unfold maxLen; omega) (by omega) (size_ok hsz _) ?_)
              intro v' w4 hown' hgrow _
              have HN : Hid (Ad la lb (k + 1) (l ++ [(c + x + y) % 10000]) ((c + x + y) / 10000) ∧ OwnI w4 w2.heap.size v' (l ++ [(c + x + y) % 10000]) ∧ Below w2.heap.size w2 w4) := by
                refine ⟨HSS.out, ?_, (H.out.2.2.alloc hsz _).grown hgrow (size_ok hsz _) (fun j hj => (hown.lt j hj).1)⟩
                unfold OwnI
                rw [cellsI_append, List.length_append, hll]
                exact hown'
              clear hown hown' hgrow H HSS
              go_wp2
              go_roundw
              case rel => exact ⟨k + 1, _, _, by omega, by go_num, rfl, by omega, by omega, HN.out⟩
              case measure => simp [intOf]; omega
            · 
              obtain ⟨ga, hao, hgl, hcs⟩ := HCA.out (by omega)
              have hua : wr.cell? ⟨ga, k, none⟩ = some (.int .i64 (la.getD k 0)) := by
                rw [H.out.2.2.cell (p := ⟨ga, k, none⟩) hgl, hcs k hka]; simp [List.getD, hka]
              subst hao
              clear hcs hgl
              have hki : (k : Int) < (la.length : Int) := by omega
              have hkj : ¬ (k : Int) < (lb.length : Int) := by omega
              have HS := H.out.1.step HD.out.1 HD.out.2.1 (by omega)
              rw [getD_past (l := lb) (show lb.length ≤ k by omega)] at HS
              simp only [Int.add_zero] at HS
              have hxa := HD.out.1.getD k
              have hxb := HD.out.2.1.getD k
              generalize la.getD k 0 = x at *
              generalize lb.getD k 0 = y at *
              have hsz := H.out.2.2.size
              have hown := H.out.2.1
              unfold OwnI at hown
              have hk0 : (0 : Int) ≤ (k : Int) := by omega
              have HSS : Hid (Ad la lb (k + 1) (l ++ [(c + x) % 10000]) ((c + x) / 10000)) := HS
              clear HS
              go_wp2_with (at_builtin; refine wpList_append_own _ rfl _ _ 24 rfl w2.heap.size 3 i0 (.int .i64 0) 1 8 Tryd.underlying24 hi hz0 hz1 hz2 rfl (by decide) _ _ _ rfl (hown.alloc _) ⟨wr.heap.size, 0, none⟩ 1 1 [.int .i64 ((c + x) % 10000)] rfl rfl (one_new _ _ _) (one_int ((c + x) % 10000)) (by unfold maxLen; omega) (by omega) (size_ok hsz _) ?_)
              intro v' w4 hown' hgrow _
              have HN : Hid (Ad la lb (k + 1) (l ++ [(c + x) % 10000]) ((c + x) / 10000) ∧ OwnI w4 w2.heap.size v' (l ++ [(c + x) % 10000]) ∧ Below w2.heap.size w2 w4) := by
                refine ⟨HSS.out, ?_, (H.out.2.2.alloc hsz _).grown hgrow (size_ok hsz _) (fun j hj => (hown.lt j hj).1)⟩
                unfold OwnI
                rw [cellsI_append, List.length_append, hll]
                exact hown'
              clear hown hown' hgrow H HSS
              go_wp2
              go_roundw
              case rel => exact ⟨k + 1, _, _, by omega, by go_num, rfl, by omega, by omega, HN.out⟩
              case measure => simp [intOf]; omega
          · by_cases hkb : k < lb.length
            · 
              have hki : ¬ (k : Int) < (la.length : Int) := by omega
              obtain ⟨gb, hbo, hgl, hcs⟩ := HCB.out (by omega)
              have hub : wr.cell? ⟨gb, k, none⟩ = some (.int .i64 (lb.getD k 0)) := by
                rw [H.out.2.2.cell (p := ⟨gb, k, none⟩) hgl, hcs k hkb]; simp [List.getD, hkb]
              subst hbo
              clear hcs hgl
              have hkj : (k : Int) < (lb.length : Int) := by omega
              have HS := H.out.1.step HD.out.1 HD.out.2.1 (by omega)
              rw [getD_past (l := la) (show la.length ≤ k by omega)] at HS
              simp only [Int.add_zero] at HS
              have hxa := HD.out.1.getD k
              have hxb := HD.out.2.1.getD k
              generalize la.getD k 0 = x at *
              generalize lb.getD k 0 = y at *
              have hsz := H.out.2.2.size
              have hown := H.out.2.1
              unfold OwnI at hown
              have hk0 : (0 : Int) ≤ (k : Int) := by omega
              have HSS : Hid (Ad la lb (k + 1) (l ++ [(c + y) % 10000]) ((c + y) / 10000)) := HS
              clear HS
              go_wp2_with (at_builtin; refine wpList_append_own _ rfl _ _ 24 rfl w2.heap.size 3 i0 (.int .i64 0) 1 8 Tryd.underlying24 hi hz0 hz1 hz2 rfl (by decide) _ _ _ rfl (hown.alloc _) ⟨wr.heap.size, 0, none⟩ 1 1 [.int .i64 ((c + y) % 10000)] rfl rfl (one_new _ _ _) (one_int ((c + y) % 10000)) (by unfold maxLen; omega) (by omega) (size_ok hsz _) ?_)
              intro v' w4 hown' hgrow _
              have HN : Hid (Ad la lb (k + 1) (l ++ [(c + y) % 10000]) ((c + y) / 10000) ∧ OwnI w4 w2.heap.size v' (l ++ [(c + y) % 10000]) ∧ Below w2.heap.size w2 w4) := by
                refine ⟨HSS.out, ?_, (H.out.2.2.alloc hsz _).grown hgrow (size_ok hsz _) (fun j hj => (hown.lt j hj).1)⟩
                unfold OwnI
                rw [cellsI_append, List.length_append, hll]
                exact hown'
              clear hown hown' hgrow H HSS
              go_wp2
              go_roundw
              case rel => exact ⟨k + 1, _, _, by omega, by go_num, rfl, by omega, by omega, HN.out⟩
              case measure => simp [intOf]; omega
            · have hcp : 0 < c := by omega
              have hki : ¬ (k : Int) < (la.length : Int) := by omega
              have hkj : ¬ (k : Int) < (lb.length : Int) := by omega
              have HS := H.out.1.step HD.out.1 HD.out.2.1 (by omega)
              rw [getD_past (l := la) (show la.length ≤ k by omega)] at HS
              rw [getD_past (l := lb) (show lb.length ≤ k by omega)] at HS
              simp only [Int.add_zero] at HS
              have hxa := HD.out.1.getD k
              have hxb := HD.out.2.1.getD k
              generalize la.getD k 0 = x at *
              generalize lb.getD k 0 = y at *
              have hsz := H.out.2.2.size
              have hown := H.out.2.1
              unfold OwnI at hown
              have hk0 : (0 : Int) ≤ (k : Int) := by omega
              have HSS : Hid (Ad la lb (k + 1) (l ++ [(c) % 10000]) ((c) / 10000)) := HS
              clear HS
              go_wp2_with (at_builtin; refine wpList_append_own _ rfl _ _ 24 rfl w2.heap.size 3 i0 (.int .i64 0) 1 8 Tryd.underlying24 hi hz0 hz1 hz2 rfl (by decide) _ _ _ rfl (hown.alloc _) ⟨wr.heap.size, 0, none⟩ 1 1 [.int .i64 ((c) % 10000)] rfl rfl (one_new _ _ _) (one_int ((c) % 10000)) (by unfold maxLen; omega) (by omega) (size_ok hsz _) ?_)
              intro v' w4 hown' hgrow _
              have HN : Hid (Ad la lb (k + 1) (l ++ [(c) % 10000]) ((c) / 10000) ∧ OwnI w4 w2.heap.size v' (l ++ [(c) % 10000]) ∧ Below w2.heap.size w2 w4) := by
                refine ⟨HSS.out, ?_, (H.out.2.2.alloc hsz _).grown hgrow (size_ok hsz _) (fun j hj => (hown.lt j hj).1)⟩
                unfold OwnI
                rw [cellsI_append, List.length_append, hll]
                exact hown'
              clear hown hown' hgrow H HSS
              go_wp2
              go_roundw
              case rel => exact ⟨k + 1, _, _, by omega, by go_num, rfl, by omega, by omega, HN.out⟩
              case measure => simp [intOf]; omega
        · have hi1 : ¬ (k : Int) < (la.length : Int) := by omega
          have hi2 : ¬ (k : Int) < (lb.length : Int) := by omega
          have hi3 : ¬ (0 : Int) < c := by omega
          have HE : Hid (l = digs (ev la + ev lb)) := H.out.1.done HD.out.1 HD.out.2.1 HD.out.2.2.1 HD.out.2.2.2 (by omega) (by omega) (by omega)
          have HBB : Hid (Below w.heap.size w wr ∧ w.heap.size ≤ wr.heap.size) := ⟨HX2.out.2.2.trans (H.out.2.2.mono HX2.out.2.2.size), (HX2.out.2.2.trans (H.out.2.2.mono HX2.out.2.2.size)).size⟩
          obtain ⟨vo, vc, hve, _⟩ := H.out.2.1.shape
          subst hve
          by_cases h40 : l.length ≤ 40
          · have h40' : ¬ (40 : Int) < (l.length : Int) := by omega
            go_wp2
            go_ret
            refine ⟨_, rfl, ?_, HBB.out.1⟩
            have ho := H.out.2.1
            unfold addL limL
            rw [if_pos HK.out, ← HE.out, if_pos h40]
            have hob := ho.base HX2.out.2.2.size
            rw [hll] at hob
            exact hob
          · have h40' : (40 : Int) < (l.length : Int) := by omega
            go_wp2
            go_ret
            refine ⟨_, rfl, ?_, HBB.out.1.alloc HBB.out.2 _⟩
            unfold addL limL
            rw [if_pos HK.out, ← HE.out, if_neg h40]
            exact World.ownsRow_made wr #[] 0 HBB.out.2 (Nat.zero_le _) rfl

/-- Where the difference stands. -/
structure Su (la lb : List Int) (k : Nat) (l : List Int) (c : Int) : Prop where
  len : l.length = k
  dig : Dig l
  val : ev l - 10000 ^ k * c = ev (la.take k) - ev (lb.take k)
  small : 0 ≤ c ∧ c ≤ 1
theorem Su.start (la lb : List Int) : Su la lb 0 [] 0 := ⟨rfl, Dig.nil, by simp [ev], by omega⟩
theorem Su.stepNo {la lb : List Int} {k : Nat} {l : List Int} {c : Int} (h : Su la lb k l c) (ha : Dig la) (hb : Dig lb) (hn : 0 ≤ la.getD k 0 - c - lb.getD k 0) : Su la lb (k + 1) (l ++ [la.getD k 0 - c - lb.getD k 0]) 0 := by
  have h1 := ha.getD k
  have h2 := hb.getD k
  have hs := h.small
  refine ⟨by simp [h.len], dig_snoc h.dig (by omega), ?_, by omega⟩
  rw [ev_snoc, h.len, ev_take_succ, ev_take_succ]
  have hv := h.val
  grind
theorem Su.stepLent {la lb : List Int} {k : Nat} {l : List Int} {c : Int} (h : Su la lb k l c) (ha : Dig la) (hb : Dig lb) (hn : la.getD k 0 - c - lb.getD k 0 < 0) : Su la lb (k + 1) (l ++ [la.getD k 0 - c - lb.getD k 0 + 10000]) 1 := by
  have h1 := ha.getD k
  have h2 := hb.getD k
  have hs := h.small
  refine ⟨by simp [h.len], dig_snoc h.dig (by omega), ?_, by omega⟩
  rw [ev_snoc, h.len, ev_take_succ, ev_take_succ, pw_succ]
  have hv := h.val
  grind
theorem Su.done {la lb : List Int} {l : List Int} {c : Int} (h : Su la lb la.length l c) (ha : Dig la) (hb : Dig lb) (tb : Top lb) (hle : ev lb ≤ ev la) : ev l = ev la - ev lb := by
  have hl := len_le_of_ev ha hb tb hle
  have hv := h.val
  rw [ev_take_all la (Nat.le_refl _), ev_take_all lb hl] at hv
  have hv2 : ev l + 10000 ^ la.length * (-c) = ev la - ev lb := by rw [Int.mul_neg]; omega
  have h1 := ev_lt h.dig
  rw [h.len] at h1
  have := ev_lt ha
  have := ev_nonneg hb
  exact (no_carry hv2 (ev_nonneg h.dig) h1 (by omega) (by omega)).2
set_option maxHeartbeats 1600000 in
set_option maxRecDepth 100000 in
theorem specSub0_any (a b : Value) (la lb : List Int) (w : World) (hl : la.length ≤ 1000) (hda : Dig la) (hdb : Dig lb) (htb : Top lb) (hle : ev lb ≤ ev la) (ha : IntAt w a la) (hb : IntAt w b lb) :
    Calls Tryd.prog 65 #[a, b] w fun e w' => ∃ v, e = .returned v ∧ OwnI w' w.heap.size v (digs (ev la - ev lb)) ∧ Below w.heap.size w w' := by
  obtain ⟨i0, hi, hz0, hz1, hz2⟩ := info_parts info3
  have hl2 := len_le_of_ev hda hdb htb hle
  obtain ⟨ao, ac, rfl, HA0⟩ := ha
  obtain ⟨bo, bc, rfl, HB0⟩ := hb
  have HA : Hid (Dig la ∧ (0 < la.length → ∃ g, ao = some ⟨g, 0, none⟩ ∧ g < w.heap.size ∧ ∀ j (hj : j < la.length), w.cell? ⟨g, j, none⟩ = some (.int .i64 la[j]))) := ⟨hda, HA0⟩
  have HB : Hid (Dig lb ∧ Top lb ∧ ev lb ≤ ev la ∧ (0 < lb.length → ∃ g, bo = some ⟨g, 0, none⟩ ∧ g < w.heap.size ∧ ∀ j (hj : j < lb.length), w.cell? ⟨g, j, none⟩ = some (.int .i64 lb[j]))) := ⟨hdb, htb, hle, HB0⟩
  clear hda hdb HA0 HB0 htb hle
  go_enter Tryd.func65, Tryd.ntmps65
  go_wp2
  go_loopw [5, 6, 7] (fun v cv iv wr => ∃ (k : Nat) (l : List Int) (c : Int), k ≤ la.length ∧ iv = .int .i64 k ∧ cv = .int .i64 c ∧ 0 ≤ c ∧ c ≤ 1 ∧ Hid (Su la lb k l c ∧ OwnI wr w.heap.size v l ∧ Below w.heap.size w wr)) (fun _ _ iv _ => la.length - (intOf iv).toNat)
  case atStart => exact ⟨0, [], 0, by omega, rfl, rfl, by omega, by omega, Su.start _ _, World.ownsRow_made w #[] 0 (Nat.le_refl _) (Nat.zero_le _) rfl, (Below.refl _ _).alloc (Nat.le_refl _) _⟩
  case round =>
    obtain ⟨k, l, c, hk, rfl, rfl, hc0, hc1, H⟩ := hrel
    have hll : l.length = k := H.out.1.len
    by_cases hka : k < la.length
    · by_cases hkb : k < lb.length
      · 
        obtain ⟨ga, hao, hgl, hcs⟩ := HA.out.2 (by omega)
        have hua : wr.cell? ⟨ga, k, none⟩ = some (.int .i64 (la.getD k 0)) := by
          rw [H.out.2.2.cell (p := ⟨ga, k, none⟩) hgl, hcs k hka]; simp [List.getD, hka]
        subst hao
        clear hcs hgl
        obtain ⟨gb, hbo, hgl, hcs⟩ := HB.out.2.2.2 (by omega)
        have hub : wr.cell? ⟨gb, k, none⟩ = some (.int .i64 (lb.getD k 0)) := by
          rw [H.out.2.2.cell (p := ⟨gb, k, none⟩) hgl, hcs k hkb]; simp [List.getD, hkb]
        subst hbo
        clear hcs hgl
        have hkj : (k : Int) < (lb.length : Int) := by omega
        have HY : Hid (lb.getD k 0 = lb.getD k 0) := rfl
        have hxa := HA.out.1.getD k
        have hxb := HB.out.1.getD k
        have hfull := H.out.1.stepNo HA.out.1 HB.out.1
        have hlent := H.out.1.stepLent HA.out.1 HB.out.1
        clear HY
        generalize la.getD k 0 = x at *
        generalize lb.getD k 0 = y at *
        have hsz := H.out.2.2.size
        have hown := H.out.2.1
        unfold OwnI at hown
        have hk0 : (0 : Int) ≤ (k : Int) := by omega
        have hki : (k : Int) < (la.length : Int) := by omega
        by_cases hneg : x - c - y < 0
        · have HSS : Hid (Su la lb (k + 1) (l ++ [x - c - y + 10000]) 1) := hlent hneg
          clear hfull hlent
          go_wp2_with (at_builtin; refine wpList_append_own _ rfl _ _ 24 rfl w.heap.size 3 i0 (.int .i64 0) 1 8 Tryd.underlying24 hi hz0 hz1 hz2 rfl (by decide) _ _ _ rfl (hown.alloc _) ⟨wr.heap.size, 0, none⟩ 1 1 [.int .i64 (x - c - y + 10000)] rfl rfl (one_new _ _ _) (one_int (x - c - y + 10000)) (by unfold maxLen; omega) (by omega) (size_ok hsz _) ?_)
          intro v' w4 hown' hgrow _
          have HN : Hid (Su la lb (k + 1) (l ++ [x - c - y + 10000]) 1 ∧ OwnI w4 w.heap.size v' (l ++ [x - c - y + 10000]) ∧ Below w.heap.size w w4) := by
            refine ⟨HSS.out, ?_, (H.out.2.2.alloc hsz _).grown hgrow (size_ok hsz _) (fun j hj => (hown.lt j hj).1)⟩
            unfold OwnI
            rw [cellsI_append, List.length_append, hll]
            exact hown'
          clear hown hown' hgrow H HSS
          go_wp2
          go_roundw
          case rel => exact ⟨k + 1, _, 1, by omega, by go_num, rfl, by omega, by omega, HN.out⟩
          case measure => simp [intOf]; omega
        · have HSS : Hid (Su la lb (k + 1) (l ++ [x - c - y]) 0) := hfull (by omega)
          clear hfull hlent
          go_wp2_with (at_builtin; refine wpList_append_own _ rfl _ _ 24 rfl w.heap.size 3 i0 (.int .i64 0) 1 8 Tryd.underlying24 hi hz0 hz1 hz2 rfl (by decide) _ _ _ rfl (hown.alloc _) ⟨wr.heap.size, 0, none⟩ 1 1 [.int .i64 (x - c - y)] rfl rfl (one_new _ _ _) (one_int (x - c - y)) (by unfold maxLen; omega) (by omega) (size_ok hsz _) ?_)
          intro v' w4 hown' hgrow _
          have HN : Hid (Su la lb (k + 1) (l ++ [x - c - y]) 0 ∧ OwnI w4 w.heap.size v' (l ++ [x - c - y]) ∧ Below w.heap.size w w4) := by
            refine ⟨HSS.out, ?_, (H.out.2.2.alloc hsz _).grown hgrow (size_ok hsz _) (fun j hj => (hown.lt j hj).1)⟩
            unfold OwnI
            rw [cellsI_append, List.length_append, hll]
            exact hown'
          clear hown hown' hgrow H HSS
          go_wp2
          go_roundw
          case rel => exact ⟨k + 1, _, 0, by omega, by go_num, rfl, by omega, by omega, HN.out⟩
          case measure => simp [intOf]; omega
      · 
        obtain ⟨ga, hao, hgl, hcs⟩ := HA.out.2 (by omega)
        have hua : wr.cell? ⟨ga, k, none⟩ = some (.int .i64 (la.getD k 0)) := by
          rw [H.out.2.2.cell (p := ⟨ga, k, none⟩) hgl, hcs k hka]; simp [List.getD, hka]
        subst hao
        clear hcs hgl
        have hkj : ¬ (k : Int) < (lb.length : Int) := by omega
        have HY : Hid (lb.getD k 0 = 0) := getD_past (by omega)
        have hxa := HA.out.1.getD k
        have hxb := HB.out.1.getD k
        have hfull := H.out.1.stepNo HA.out.1 HB.out.1
        have hlent := H.out.1.stepLent HA.out.1 HB.out.1
        rw [HY.out] at hfull hlent
        simp only [Int.sub_zero] at hfull hlent
        clear HY
        generalize la.getD k 0 = x at *
        generalize lb.getD k 0 = y at *
        have hsz := H.out.2.2.size
        have hown := H.out.2.1
        unfold OwnI at hown
        have hk0 : (0 : Int) ≤ (k : Int) := by omega
        have hki : (k : Int) < (la.length : Int) := by omega
        by_cases hneg : x - c < 0
        · have HSS : Hid (Su la lb (k + 1) (l ++ [x - c + 10000]) 1) := hlent hneg
          clear hfull hlent
          go_wp2_with (at_builtin; refine wpList_append_own _ rfl _ _ 24 rfl w.heap.size 3 i0 (.int .i64 0) 1 8 Tryd.underlying24 hi hz0 hz1 hz2 rfl (by decide) _ _ _ rfl (hown.alloc _) ⟨wr.heap.size, 0, none⟩ 1 1 [.int .i64 (x - c + 10000)] rfl rfl (one_new _ _ _) (one_int (x - c + 10000)) (by unfold maxLen; omega) (by omega) (size_ok hsz _) ?_)
          intro v' w4 hown' hgrow _
          have HN : Hid (Su la lb (k + 1) (l ++ [x - c + 10000]) 1 ∧ OwnI w4 w.heap.size v' (l ++ [x - c + 10000]) ∧ Below w.heap.size w w4) := by
            refine ⟨HSS.out, ?_, (H.out.2.2.alloc hsz _).grown hgrow (size_ok hsz _) (fun j hj => (hown.lt j hj).1)⟩
            unfold OwnI
            rw [cellsI_append, List.length_append, hll]
            exact hown'
          clear hown hown' hgrow H HSS
          go_wp2
          go_roundw
          case rel => exact ⟨k + 1, _, 1, by omega, by go_num, rfl, by omega, by omega, HN.out⟩
          case measure => simp [intOf]; omega
        · have HSS : Hid (Su la lb (k + 1) (l ++ [x - c]) 0) := hfull (by omega)
          clear hfull hlent
          go_wp2_with (at_builtin; refine wpList_append_own _ rfl _ _ 24 rfl w.heap.size 3 i0 (.int .i64 0) 1 8 Tryd.underlying24 hi hz0 hz1 hz2 rfl (by decide) _ _ _ rfl (hown.alloc _) ⟨wr.heap.size, 0, none⟩ 1 1 [.int .i64 (x - c)] rfl rfl (one_new _ _ _) (one_int (x - c)) (by unfold maxLen; omega) (by omega) (size_ok hsz _) ?_)
          intro v' w4 hown' hgrow _
          have HN : Hid (Su la lb (k + 1) (l ++ [x - c]) 0 ∧ OwnI w4 w.heap.size v' (l ++ [x - c]) ∧ Below w.heap.size w w4) := by
            refine ⟨HSS.out, ?_, (H.out.2.2.alloc hsz _).grown hgrow (size_ok hsz _) (fun j hj => (hown.lt j hj).1)⟩
            unfold OwnI
            rw [cellsI_append, List.length_append, hll]
            exact hown'
          clear hown hown' hgrow H HSS
          go_wp2
          go_roundw
          case rel => exact ⟨k + 1, _, 0, by omega, by go_num, rfl, by omega, by omega, HN.out⟩
          case measure => simp [intOf]; omega
    · have hkl : k = la.length := by omega
      subst hkl
      have HE : Hid (ev l = ev la - ev lb ∧ Dig l) := ⟨H.out.1.done HA.out.1 HB.out.1 HB.out.2.1 HB.out.2.2.1, H.out.1.dig⟩
      go_wp2_with fail
      refine (specTrim_any _ l w.heap.size wr (by omega) HE.out.2 H.out.2.1).mono ?_
      rintro e w3 ⟨u, rfl, ho3, hb3⟩
      rw [HE.out.1] at ho3
      have HF : Hid (OwnI w3 w.heap.size u (digs (ev la - ev lb)) ∧ Below w.heap.size w w3) := ⟨ho3, H.out.2.2.trans (hb3.mono H.out.2.2.size)⟩
      clear ho3 hb3
      go_wp2
      go_ret
      exact ⟨_, rfl, HF.out⟩
end Go.Proofs.YtoildgknpfehoaaDoor
