/-
  Texts of the proof, one behind the other: SpD, SpE, SpX.
-/
import Derived.Test.YtfgkpjjjjnollaaGreatDoorSC8
import Derived.Test.YtfgkpjjjjnollaaGreatDoorSC22

/-
  The specification's l04Guess: a figure, whatever it is worth.
-/
namespace Go.Proofs.YtfgkpjjjjnollaaGreatDoor
open Go.RowKit

set_option maxHeartbeats 1600000 in
set_option maxRecDepth 100000 in
theorem specGuess_any (a b : Value) (la lb : List Int) (w : World) (hl : la.length ≤ lb.length + 1) (hl2 : lb.length ≤ 1000) (hb0 : 0 < lb.length) (hda : Dig la) (hdb : Dig lb) (tb : Top lb) (ha : IntAt w a la) (hb : IntAt w b lb) :
    Calls Tryz.prog 241 #[a, b] w fun e w' => ∃ q : Int, e = .returned (.int .i64 q) ∧ 0 ≤ q ∧ q ≤ 9999 ∧ Below w.heap.size w w' := by
  obtain ⟨ao, ac, rfl, HA0⟩ := ha
  obtain ⟨bo, bc, rfl, HB0⟩ := hb
  have HA : Hid (Dig la ∧ (0 < la.length → ∃ g, ao = some ⟨g, 0, none⟩ ∧ g < w.heap.size ∧ ∀ j (hj : j < la.length), w.cell? ⟨g, j, none⟩ = some (.int .i64 la[j]))) := ⟨hda, HA0⟩
  have HB : Hid (Dig lb ∧ Top lb ∧ (0 < lb.length → ∃ g, bo = some ⟨g, 0, none⟩ ∧ g < w.heap.size ∧ ∀ j (hj : j < lb.length), w.cell? ⟨g, j, none⟩ = some (.int .i64 lb[j]))) := ⟨hdb, tb, HB0⟩
  clear hda hdb HA0 HB0 tb
  by_cases hlt : la.length < lb.length
  · have hlt' : (la.length : Int) < (lb.length : Int) := by omega
    go_enter Tryz.func241, Tryz.ntmps241
    go_wp2
    go_ret
    exact ⟨0, rfl, by omega, by omega, Below.refl _ _⟩
  · have hlt' : ¬ (la.length : Int) < (lb.length : Int) := by omega
    go_enter Tryz.func241, Tryz.ntmps241
    go_wp2
    go_loopw [6, 7] (fun tv iv wr => ∃ t z : Int, tv = .int .i64 t ∧ iv = .int .i64 z ∧ (lb.length : Int) - 2 ≤ z ∧ z ≤ (la.length : Int) - 1 ∧ 0 ≤ t ∧ t < 100000000 ∧ Below w.heap.size w wr ∧ Hid ((z = (la.length : Int) - 1 ∧ t = 0) ∨ (z = (la.length : Int) - 2 ∧ t < 10000) ∨ z = (la.length : Int) - 3)) (fun _ iv _ => (intOf iv + 2).toNat)
    case atStart => exact ⟨0, _, rfl, rfl, by omega, by omega, by omega, by omega, Below.refl _ _, .inl ⟨rfl, rfl⟩⟩
    case round =>
      obtain ⟨t, z, rfl, rfl, hz1, hz2, ht0, ht1, hbel, HD⟩ := hrel
      by_cases hz : (lb.length : Int) - 1 ≤ z
      · have hz0 : 0 ≤ z := by omega
        have hzl : z.toNat < la.length := by omega
        have hzl' : z < (la.length : Int) := by omega
        have ht2 : t < 10000 := by rcases HD.out with h | h | h <;> omega
        obtain ⟨ga, hao, hgl, hcs⟩ := HA.out.2 (by omega)
        have hua : wr.cell? ⟨ga, z.toNat, none⟩ = some (.int .i64 (la.getD z.toNat 0)) := by
          rw [hbel.cell (p := ⟨ga, z.toNat, none⟩) hgl, hcs z.toNat hzl]; simp [List.getD, hzl]
        subst hao
        have hx := HA.out.1.getD z.toNat
        have HN : Hid (∀ x, 0 ≤ x ∧ x ≤ 9999 → ((z - 1 = (la.length : Int) - 1 ∧ t * 10000 + x = 0) ∨ (z - 1 = (la.length : Int) - 2 ∧ t * 10000 + x < 10000) ∨ z - 1 = (la.length : Int) - 3)) := fun x hx => by
          rcases HD.out with h | h | h <;> omega
        clear hcs hgl HD hzl
        generalize la.getD z.toNat 0 = x at *
        go_wp2_with fail
        go_roundw
        case rel => exact ⟨t * 10000 + x, z - 1, rfl, rfl, by omega, by omega, by omega, by omega, hbel, HN.out x hx⟩
        case measure => simp [intOf]; omega
      · have hzz : ¬ (lb.length : Int) - 1 ≤ z := hz
        obtain ⟨gb, hbo, hgl, hcs⟩ := HB.out.2.2 hb0
        have hub : wr.cell? ⟨gb, lb.length - 1, none⟩ = some (.int .i64 (lb.getD (lb.length - 1) 0)) := by
          rw [hbel.cell (p := ⟨gb, lb.length - 1, none⟩) hgl, hcs (lb.length - 1) (by omega)]; simp [List.getD, show lb.length - 1 < lb.length by omega]
        have hy := HB.out.1.getD (lb.length - 1)
        have hy1 : 1 ≤ lb.getD (lb.length - 1) 0 := by have := HB.out.2.1 hb0; omega
        by_cases hone : lb.length = 1
        · have hone' : ¬ (1 : Int) < (lb.length : Int) := by omega
          clear hone
          subst hbo
          clear hcs hgl
          generalize lb.getD (lb.length - 1) 0 = y at *
          have hq0 : 0 ≤ t / y := Int.ediv_nonneg ht0 (by omega)
          have hq1 : t / y ≤ t := Int.ediv_le_self y ht0
          by_cases hq : (9999 : Int) < t / y
          · go_wp2_with fail
            go_ret
            exact ⟨_, rfl, by omega, by omega, hbel⟩
          · go_wp2_with fail
            go_ret
            exact ⟨_, rfl, by omega, by omega, hbel⟩
        · have hone' : (1 : Int) < (lb.length : Int) := by omega
          have hub2 : wr.cell? ⟨gb, lb.length - 2, none⟩ = some (.int .i64 (lb.getD (lb.length - 2) 0)) := by
            rw [hbel.cell (p := ⟨gb, lb.length - 2, none⟩) hgl, hcs (lb.length - 2) (by omega)]; simp [List.getD, show lb.length - 2 < lb.length by omega]
          have hv := HB.out.1.getD (lb.length - 2)
          subst hbo
          clear hcs hgl
          obtain ⟨ga, hao, hgl, hcs⟩ := HA.out.2 (by omega)
          have hua : wr.cell? ⟨ga, lb.length - 2, none⟩ = some (.int .i64 (la.getD (lb.length - 2) 0)) := by
            rw [hbel.cell (p := ⟨ga, lb.length - 2, none⟩) hgl, hcs (lb.length - 2) (by omega)]; simp [List.getD, show lb.length - 2 < la.length by omega]
          have hx := HA.out.1.getD (lb.length - 2)
          subst hao
          clear hcs hgl
          generalize lb.getD (lb.length - 1) 0 = y at *
          generalize lb.getD (lb.length - 2) 0 = v at *
          generalize la.getD (lb.length - 2) 0 = x at *
          have hin : (lb.length : Int) - 2 < (la.length : Int) := by omega
          have hq0 : 0 ≤ (t * 10000 + x) / (y * 10000 + v) := Int.ediv_nonneg (by omega) (by omega)
          have hq1 : (t * 10000 + x) / (y * 10000 + v) ≤ t * 10000 + x := Int.ediv_le_self _ (by omega)
          by_cases hq : (9999 : Int) < (t * 10000 + x) / (y * 10000 + v)
          · go_wp2_with fail
            go_ret
            exact ⟨_, rfl, by omega, by omega, hbel⟩
          · go_wp2_with fail
            go_ret
            exact ⟨_, rfl, by omega, by omega, hbel⟩
end Go.Proofs.YtfgkpjjjjnollaaGreatDoor

/-
  The specification's l04Div: figure by figure from above.
-/
namespace Go.Proofs.YtfgkpjjjjnollaaGreatDoor
open Go.RowKit

/-- Where the specification's division stands: k figures are still to come; what is left is a right number. -/
structure Dv (la lb : List Int) (k : Nat) (O : List Int) (r : Int) : Prop where
  olen : O.length = la.length
  odig : Dig O
  lo : ∀ j, j < k → O.getD j 0 = 0
  val : ev (la.drop k) * 10000 ^ k = r * 10000 ^ k + ev O * ev lb
  small : 0 ≤ r ∧ r < ev lb
theorem Dv.start (la lb : List Int) (h : 0 < ev lb) : Dv la lb la.length (List.replicate la.length 0) 0 := by
  have h0 : ∀ q, (List.replicate la.length (0 : Int)).getD q 0 = 0 := fun q => by
    by_cases h : q < la.length
    · simp [List.getD, h]
    · rw [getD_past (by simp; omega)]
  exact ⟨by simp, fun x hx => by simp at hx; omega, fun j _ => h0 j, by rw [ev_replicate]; simp [ev], by omega⟩
theorem ev_drop (l : List Int) (k : Nat) (h : k < l.length) : ev (l.drop k) = l.getD k 0 + 10000 * ev (l.drop (k + 1)) := by
  rw [List.drop_eq_getElem_cons h]
  simp [ev, List.getD, h]
theorem Dv.step {la lb : List Int} {k : Nat} {O : List Int} {r q s : Int} (h : Dv la lb (k + 1) O r) (hk : k < la.length) (hq : 0 ≤ q ∧ q ≤ 9999) (hs : 0 ≤ s ∧ s < ev lb) (hv : la.getD k 0 + 10000 * r = s + q * ev lb) :
    Dv la lb k (O.set k q) s := by
  have hkO : k < O.length := by rw [h.olen]; exact hk
  refine ⟨by simp [h.olen], ?_, fun j hj => ?_, ?_, hs⟩
  · refine dig_of_getD fun j _ => ?_
    rw [getD_set _ hkO]
    split
    · exact hq
    · exact h.odig.getD j
  · rw [getD_set _ hkO, if_neg (by omega)]
    exact h.lo j (by omega)
  · rw [ev_set _ hkO, h.lo k (by omega), ev_drop la k hk]
    have hv2 := h.val
    rw [pw_succ] at hv2
    grind
theorem Dv.done {la lb : List Int} {O : List Int} {r : Int} (h : Dv la lb 0 O r) (hb : 0 < ev lb) : ev O = ev la / ev lb ∧ r = ev la % ev lb := by
  have hv := h.val
  simp at hv
  exact quo_unique hb hv h.small.1 h.small.2

set_option maxHeartbeats 3200000 in
set_option maxRecDepth 100000 in
theorem specDiv0_any (a b : Value) (la lb : List Int) (w : World) (hl : la.length ≤ 1000) (hl2 : lb.length ≤ 900) (hda : Dig la) (hdb : Dig lb) (htb : Top lb) (hb0 : 0 < lb.length) (ha : IntAt w a la) (hb : IntAt w b lb) :
    Calls Tryz.prog 194 #[a, b] w fun e w' => ∃ v u, e = .returned (.tuple #[v, u]) ∧ OwnI w' w.heap.size v (digs (ev la / ev lb)) ∧ OwnI w' w.heap.size u (digs (ev la % ev lb)) ∧ Below w.heap.size w w' := by
  obtain ⟨i0, hi, hz0, hz1, hz2⟩ := info_parts info3
  obtain ⟨ao, ac, rfl, HA0⟩ := ha
  have HA : Hid (Dig la ∧ (0 < la.length → ∃ g, ao = some ⟨g, 0, none⟩ ∧ g < w.heap.size ∧ ∀ j (hj : j < la.length), w.cell? ⟨g, j, none⟩ = some (.int .i64 la[j]))) := ⟨hda, HA0⟩
  have HB : Hid (IntAt w b lb ∧ Dig lb ∧ Top lb ∧ 0 < ev lb) := ⟨hb, hdb, htb, ev_pos hdb htb hb0⟩
  obtain ⟨bo, bc, hbe, HB0⟩ := hb
  subst hbe
  clear hda hdb htb HA0 HB0
  go_enter Tryz.func194, Tryz.ntmps194
  go_wp2_with (at_make; refine wpList_make_full _ rfl _ _ 24 rfl w.heap.size 3 i0 (.int .i64 0) 1 Tryz.underlying24 hi hz0 hz1 .i64 .i64 _ _ la.length rfl rfl ?m0 ?m1 ?m2 ?m3 ?m4 ?_)
  case m0 => simp
  case m1 => simp
  case m2 => rw [hz2]; omega
  case m3 => unfold maxLen; omega
  case m4 => exact Nat.le_refl _
  intro w1 hown hgrow
  have HO : Hid (OwnI w1 w.heap.size (.slice (some ⟨w.heap.size, 0, none⟩) (List.replicate la.length (0 : Int)).length la.length) (List.replicate la.length 0) ∧ Below w.heap.size w w1) := by
    refine ⟨?_, (Below.refl _ _).grown hgrow (Nat.le_refl _) (fun j hj => by cases hj)⟩
    exact OwnI.of_made hown
  clear hown hgrow
  go_wp2_with fail
  have HI : Hid (Dv la lb la.length (List.replicate la.length 0) 0 ∧ OwnI (w1.alloc (Obj.cells #[] 3)) w.heap.size (.slice (some ⟨w.heap.size, 0, none⟩) (List.replicate la.length (0 : Int)).length la.length) (List.replicate la.length 0) ∧ OwnI (w1.alloc (Obj.cells #[] 3)) (w.heap.size + 1) (.slice (some ⟨w1.heap.size, 0, none⟩) 0 0) (digs 0) ∧ Below w.heap.size w (w1.alloc (Obj.cells #[] 3))) := by
    have hlt := HO.out.1.lt.2
    exact ⟨Dv.start la lb HB.out.2.2.2, HO.out.1.stays ((Below.refl _ _).alloc (Nat.le_refl _) _), by rw [digs_zero]; exact World.ownsRow_made w1 #[] 0 (by omega) (Nat.zero_le _) rfl, HO.out.2.alloc HO.out.2.size _⟩
  clear HO
  go_loopw [7, 8] (fun lv s wr => ∃ (z : Int) (O : List Int) (r : Int), -1 ≤ z ∧ z < (la.length : Int) ∧ s = .int .i64 z ∧ Hid (Dv la lb (z + 1).toNat O r ∧ OwnI wr w.heap.size (.slice (some ⟨w.heap.size, 0, none⟩) O.length la.length) O ∧ OwnI wr (w.heap.size + 1) lv (digs r) ∧ Below w.heap.size w wr)) (fun _ s _ => (intOf s + 1).toNat)
  case atStart => exact ⟨(la.length : Int) - 1, _, 0, by omega, by omega, rfl, by rw [show ((la.length : Int) - 1 + 1).toNat = la.length by omega]; exact HI.out⟩
  case round =>
    obtain ⟨z, O, r, hq1, hq2, rfl, H⟩ := hrel
    clear HI
    by_cases hz : z < 0
    · have hz3 : (z + 1).toNat = 0 := by omega
      have HF : Hid (Dig O ∧ O.length = la.length ∧ ev O = ev la / ev lb ∧ r = ev la % ev lb) := by
        have hO := H.out.1
        rw [hz3] at hO
        have hd := hO.done HB.out.2.2.2
        exact ⟨hO.odig, hO.olen, hd.1, hd.2⟩
      have ho := H.out.2.1
      rw [HF.out.2.1] at ho
      have HO : Hid (OwnI wr w.heap.size (.slice (some ⟨w.heap.size, 0, none⟩) la.length la.length) O) := ho
      clear hz3 ho
      go_wp2_with fail
      refine (specTrim_any _ O w.heap.size wr (by rw [HF.out.2.1]; omega) HF.out.1 HO.out).mono ?_
      rintro e w4 ⟨v, rfl, ho4, hb4⟩
      rw [HF.out.2.2.1] at ho4
      have HK : Hid (OwnI w4 w.heap.size v (digs (ev la / ev lb)) ∧ OwnI w4 w.heap.size u7 (digs (ev la % ev lb)) ∧ Below w.heap.size w w4) := by
        have h5 := H.out.2.2.1.stays hb4
        rw [HF.out.2.2.2] at h5
        exact ⟨ho4, h5.base (by omega), H.out.2.2.2.trans (hb4.mono H.out.2.2.2.size)⟩
      clear ho4 hb4
      go_wp2
      go_ret2
      exact ⟨_, _, rfl, HK.out⟩
    · have hq0 : 0 ≤ z := by omega
      have hp : z.toNat < la.length := by omega
      have hpz : z < (la.length : Int) := hq2
      have HDV : Hid (Dv la lb (z.toNat + 1) O r) := by
        have hO := H.out.1
        rw [show (z + 1).toNat = z.toNat + 1 by omega] at hO
        exact hO
      obtain ⟨ga, hao, hgl, hcs⟩ := HA.out.2 (by omega)
      have hua : wr.cell? ⟨ga, z.toNat, none⟩ = some (.int .i64 (la.getD z.toNat 0)) := by
        rw [H.out.2.2.2.cell (p := ⟨ga, z.toNat, none⟩) hgl, hcs z.toNat hp]; simp [List.getD, hp]
      subst hao
      clear hcs hgl hz
      have hxa := HA.out.1.getD z.toNat
      obtain ⟨x, hx⟩ : ∃ x, la.getD z.toNat 0 = x := ⟨_, rfl⟩
      have HX : Hid (la.getD z.toNat 0 = x) := hx
      rw [hx] at hua hxa
      clear hx
      obtain ⟨X, hX⟩ : ∃ X, X = x + 10000 * r := ⟨_, rfl⟩
      have HXX : Hid (X = x + 10000 * r ∧ ev (x :: digs r) = X ∧ Dig (x :: digs r) ∧ 0 ≤ X ∧ X < 10000 * ev lb ∧ (digs r).length ≤ lb.length ∧ (digs X).length ≤ lb.length + 1) := by
        have hr := HDV.out.small
        have he : ev (x :: digs r) = X := by simp only [ev]; rw [ev_digs hr.1, hX]
        have hbl := ev_lt HB.out.2.1
        refine ⟨hX, he, fun y hy => ?_, by omega, by omega, digs_len hr.1 (by omega), digs_len (by omega) (by rw [pw_succ]; omega)⟩
        rcases List.mem_cons.1 hy with rfl | hy
        · exact hxa
        · exact dig_digs r y hy
      clear hX
      have hrl := HXX.out.2.2.2.2.2.1
      have hsz := H.out.2.2.2.size
      have hsz1 := H.out.2.1.lt.2
      have HLIT : Hid ((wr.alloc (Obj.cells #[Value.int IntKind.i64 x] 3)).ownsRow wr.heap.size 3 1 (.slice (some ⟨wr.heap.size, 0, none⟩) 1 1) 1 [Value.int IntKind.i64 x]) := World.ownsRow_lit wr #[Value.int .i64 x] 1 (Nat.le_refl _) (by unfold maxLen; omega) rfl
      have HLV : Hid (OwnI (wr.alloc (Obj.cells #[Value.int IntKind.i64 x] 3)) (w.heap.size + 1) u7 (digs r)) := H.out.2.2.1.stays ((Below.refl _ _).alloc (Nat.le_refl _) _)
      go_wp2_with (at_builtin; refine wpList_append_list rfl _ _ 24 rfl wr.heap.size i0 Tryz.underlying24 hi hz0 hz1 hz2 _ _ _ rfl HLIT.out _ _ _ HLV.out rfl (by omega) (size_ok (Nat.le_refl _) _) ?_)
      intro v1 w2 hown2 hgrow2
      have HS2 : Hid (OwnI w2 (w.heap.size + 1) v1 (x :: digs r) ∧ OwnI w2 w.heap.size (.slice (some ⟨w.heap.size, 0, none⟩) O.length la.length) O ∧ Below w.heap.size w w2) := by
        have ha := (Below.refl wr.heap.size wr).alloc (Nat.le_refl _) (Obj.cells #[Value.int IntKind.i64 x] 3)
        refine ⟨?_, (H.out.2.1.stays ha).kept hgrow2 (by intro e; simp [Value.ownBlock] at e; omega), ?_⟩
        · have h1 : OwnI w2 wr.heap.size v1 (x :: digs r) := by
            unfold OwnI
            rw [List.length_cons, Nat.add_comm]
            exact hown2
          exact h1.base (by omega)
        · exact (H.out.2.2.2.trans (ha.mono hsz)).grown hgrow2 (size_ok hsz _) (fun k hk => by simp [Value.ownBlock] at hk; omega)
      clear hown2 hgrow2 HLIT HLV H
      have hlx : (x :: digs r).length ≤ 1001 := by simp; omega
      go_wp2_with fail
      refine (specTrim_any v1 (x :: digs r) (w.heap.size + 1) w2 (by omega) HXX.out.2.2.1 HS2.out.1).mono ?_
      rintro e w3 ⟨v2, rfl, ho3, hb3⟩
      rw [HXX.out.2.1] at ho3
      have HS3 : Hid (OwnI w3 (w.heap.size + 1) v2 (digs X) ∧ OwnI w3 w.heap.size (.slice (some ⟨w.heap.size, 0, none⟩) O.length la.length) O ∧ Below w.heap.size w w3) := ⟨ho3, HS2.out.2.1.stays hb3, HS2.out.2.2.trans (hb3.mono HS2.out.2.2.size)⟩
      clear ho3 hb3 HS2 hlx
      have hXl := HXX.out.2.2.2.2.2.2
      go_wp2_with fail
      refine (specGuess_any v2 (.slice bo lb.length bc) (digs X) lb w3 hXl (by omega) hb0 (dig_digs X) HB.out.2.1 HB.out.2.2.1 HS3.out.1.at (HB.out.1.below HS3.out.2.2)).mono ?_
      rintro e w4 ⟨q0, rfl, hqa, hqb, hb4⟩
      have HS4 : Hid (OwnI w4 (w.heap.size + 1) v2 (digs X) ∧ OwnI w4 w.heap.size (.slice (some ⟨w.heap.size, 0, none⟩) O.length la.length) O ∧ Below w.heap.size w w4) := ⟨HS3.out.1.stays hb4, HS3.out.2.1.stays hb4, HS3.out.2.2.trans (hb4.mono HS3.out.2.2.size)⟩
      clear hb4 HS3
      go_wp2_with fail
      refine (specTimes_any (.slice bo lb.length bc) lb q0 w4 (by omega) HB.out.2.1 ⟨hqa, hqb⟩ (HB.out.1.below HS4.out.2.2)).mono ?_
      rintro e w5 ⟨tv, rfl, ho5, hb5⟩
      have HS5 : Hid (OwnI w5 (w.heap.size + 1) tv (digs (ev lb * q0)) ∧ OwnI w5 (w.heap.size + 1) v2 (digs X) ∧ OwnI w5 w.heap.size (.slice (some ⟨w.heap.size, 0, none⟩) O.length la.length) O ∧ Below w.heap.size w w5) :=
        ⟨ho5.base (by have := HS4.out.2.1.lt.2; omega), HS4.out.1.stays hb5, HS4.out.2.1.stays hb5, HS4.out.2.2.trans (hb5.mono HS4.out.2.2.size)⟩
      clear ho5 hb5 HS4
      go_wp2_with fail
      go_loopw [9, 10] (fun qv tv wt => ∃ q : Int, 0 ≤ q ∧ q ≤ 9999 ∧ qv = .int .i64 q ∧ Hid (OwnI wt (w.heap.size + 1) tv (digs (ev lb * q)) ∧ OwnI wt (w.heap.size + 1) v2 (digs X) ∧ OwnI wt w.heap.size (.slice (some ⟨w.heap.size, 0, none⟩) O.length la.length) O ∧ Below w.heap.size w wt)) (fun qv _ _ => (intOf qv).toNat)
      case atStart => exact ⟨q0, hqa, hqb, rfl, HS5.out⟩
      case round =>
        obtain ⟨q, hqc, hqd, rfl, HT⟩ := hrel
        clear HS5 hqa hqb
        have HP : Hid (0 ≤ ev lb * q ∧ (digs (ev lb * q)).length ≤ lb.length + 1) := by
          have h1 := Int.mul_nonneg (Int.le_of_lt HB.out.2.2.2) hqc
          have h2 := ev_lt HB.out.2.1
          have h3 := Int.mul_le_mul_of_nonneg_left (show q ≤ 10000 by omega) (Int.le_of_lt HB.out.2.2.2)
          exact ⟨h1, digs_len h1 (by rw [pw_succ]; omega)⟩
        have hpl := HP.out.2
        have EC := specCmp_any u10 v2 (digs (ev lb * q)) (digs X) wr (by omega) (by omega) (dig_digs _) (dig_digs _) (top_digs _) (top_digs _) HT.out.1.at HT.out.2.1.at
        rw [ev_digs HP.out.1, ev_digs HXX.out.2.2.2.1] at EC
        have HC : Hid (0 < cmpI (ev lb * q) X ↔ X < ev lb * q) := cmpI_pos
        generalize cmpI (ev lb * q) X = c at *
        go_wp2_with fail
        refine EC.mono ?_
        rintro e w6 ⟨rfl, hb6⟩
        have HT6 : Hid (OwnI w6 (w.heap.size + 1) u10 (digs (ev lb * q)) ∧ OwnI w6 (w.heap.size + 1) v2 (digs X) ∧ OwnI w6 w.heap.size (.slice (some ⟨w.heap.size, 0, none⟩) O.length la.length) O ∧ Below w.heap.size w w6) :=
          ⟨HT.out.1.stays hb6, HT.out.2.1.stays hb6, HT.out.2.2.1.stays hb6, HT.out.2.2.2.trans (hb6.mono HT.out.2.2.2.size)⟩
        clear EC hb6 HT
        by_cases hc : 0 < c
        · have HG : Hid (1 ≤ q ∧ ev lb ≤ ev lb * q) := by
            have h1 := HC.out.1 hc
            have h2 := HXX.out.2.2.2.1
            have h3 : 1 ≤ q := by
              refine Int.not_lt.1 fun h => ?_
              have : q = 0 := by omega
              rw [this, Int.mul_zero] at h1
              omega
            have h4 := Int.mul_le_mul_of_nonneg_left h3 (Int.le_of_lt HB.out.2.2.2)
            rw [Int.mul_one] at h4
            exact ⟨h3, h4⟩
          have hg1 := HG.out.1
          go_wp2_with fail
          refine (specSub0_any u10 (.slice bo lb.length bc) (digs (ev lb * q)) lb w6 (by omega) (dig_digs _) HB.out.2.1 HB.out.2.2.1 (by rw [ev_digs HP.out.1]; exact HG.out.2) HT6.out.1.at (HB.out.1.below HT6.out.2.2.2)).mono ?_
          rintro e w7 ⟨tv2, rfl, ho7, hb7⟩
          have HT7 : Hid (OwnI w7 (w.heap.size + 1) tv2 (digs (ev lb * (q - 1))) ∧ OwnI w7 (w.heap.size + 1) v2 (digs X) ∧ OwnI w7 w.heap.size (.slice (some ⟨w.heap.size, 0, none⟩) O.length la.length) O ∧ Below w.heap.size w w7) := by
            rw [ev_digs HP.out.1] at ho7
            have e1 : ev lb * q - ev lb = ev lb * (q - 1) := by rw [Int.mul_sub, Int.mul_one]
            rw [e1] at ho7
            exact ⟨ho7.base (by have := HT6.out.2.2.1.lt.2; omega), HT6.out.2.1.stays hb7, HT6.out.2.2.1.stays hb7, HT6.out.2.2.2.trans (hb7.mono HT6.out.2.2.2.size)⟩
          clear ho7 hb7 HT6
          go_wp2_with fail
          go_roundw
          case rel => exact ⟨q - 1, by omega, by omega, rfl, HT7.out⟩
          case measure => simp [intOf]; omega
        · have HG : Hid (ev lb * q ≤ X) := Int.not_lt.1 fun h => hc (HC.out.2 h)
          go_wp2_with fail
          refine (specSub0_any v2 u10 (digs X) (digs (ev lb * q)) w6 (by omega) (dig_digs _) (dig_digs _) (top_digs _) (by rw [ev_digs HP.out.1, ev_digs HXX.out.2.2.2.1]; exact HG.out) HT6.out.2.1.at HT6.out.1.at).mono ?_
          rintro e w7 ⟨lv, rfl, ho7, hb7⟩
          rw [ev_digs HP.out.1, ev_digs HXX.out.2.2.2.1] at ho7
          have HT7 : Hid (OwnI w7 (w.heap.size + 1) lv (digs (X - ev lb * q)) ∧ OwnI w7 w.heap.size (.slice (some ⟨w.heap.size, 0, none⟩) O.length la.length) O ∧ Below w.heap.size w w7) :=
            ⟨ho7.base (by have := HT6.out.2.2.1.lt.2; omega), HT6.out.2.2.1.stays hb7, HT6.out.2.2.2.trans (hb7.mono HT6.out.2.2.2.size)⟩
          clear ho7 hb7 HT6 HC hc
          go_wp2_with fail
          go_loopw [7, 9] (fun lv qv wt => ∃ q R : Int, 0 ≤ q ∧ q ≤ 9999 ∧ qv = .int .i64 q ∧ 0 ≤ R ∧ Hid (X = R + q * ev lb ∧ OwnI wt (w.heap.size + 1) lv (digs R) ∧ OwnI wt w.heap.size (.slice (some ⟨w.heap.size, 0, none⟩) O.length la.length) O ∧ Below w.heap.size w wt)) (fun _ qv _ => 10000 - (intOf qv).toNat)
          case atStart => exact ⟨q, X - ev lb * q, hqc, hqd, rfl, (by have := HG.out; omega), (by rw [Int.mul_comm q]; omega), HT7.out⟩
          case round =>
            obtain ⟨q2, R, hqe, hqf, rfl, hR0, HU⟩ := hrel
            clear HT7
            have HR : Hid (R ≤ X ∧ (digs R).length ≤ lb.length + 1) := by
              have h1 := Int.mul_nonneg hqe (Int.le_of_lt HB.out.2.2.2)
              have h2 := HU.out.1
              have h3 := HXX.out.2.2.2.2.1
              have h4 := ev_lt HB.out.2.1
              exact ⟨by omega, digs_len hR0 (by rw [pw_succ]; omega)⟩
            have hrl2 := HR.out.2
            have EC2 := specCmp_any u7 (.slice bo lb.length bc) (digs R) lb wr (by omega) (by omega) (dig_digs _) HB.out.2.1 (top_digs _) HB.out.2.2.1 HU.out.2.1.at (HB.out.1.below HU.out.2.2.2)
            rw [ev_digs hR0] at EC2
            have HC2 : Hid (0 ≤ cmpI R (ev lb) ↔ ev lb ≤ R) := cmpI_nonneg
            generalize cmpI R (ev lb) = c2 at *
            go_wp2_with fail
            refine EC2.mono ?_
            rintro e w8 ⟨rfl, hb8⟩
            have HU8 : Hid (X = R + q2 * ev lb ∧ OwnI w8 (w.heap.size + 1) u7 (digs R) ∧ OwnI w8 w.heap.size (.slice (some ⟨w.heap.size, 0, none⟩) O.length la.length) O ∧ Below w.heap.size w w8) :=
              ⟨HU.out.1, HU.out.2.1.stays hb8, HU.out.2.2.1.stays hb8, HU.out.2.2.2.trans (hb8.mono HU.out.2.2.2.size)⟩
            clear EC2 hb8 HU
            by_cases hc2 : 0 ≤ c2
            · have HG2 : Hid (ev lb ≤ R ∧ q2 + 1 ≤ 9999) := by
                have h1 := HC2.out.1 hc2
                refine ⟨h1, ?_⟩
                refine Int.not_lt.1 fun h => ?_
                have h3 := Int.mul_le_mul_of_nonneg_right (show 9999 ≤ q2 by omega) (Int.le_of_lt HB.out.2.2.2)
                have h4 := HXX.out.2.2.2.2.1
                have h5 := HU8.out.1
                omega
              have hg2 := HG2.out.2
              go_wp2_with fail
              refine (specSub0_any u7 (.slice bo lb.length bc) (digs R) lb w8 (by omega) (dig_digs _) HB.out.2.1 HB.out.2.2.1 (by rw [ev_digs hR0]; exact HG2.out.1) HU8.out.2.1.at (HB.out.1.below HU8.out.2.2.2)).mono ?_
              rintro e w9 ⟨lv2, rfl, ho9, hb9⟩
              rw [ev_digs hR0] at ho9
              have HU9 : Hid (X = (R - ev lb) + (q2 + 1) * ev lb ∧ OwnI w9 (w.heap.size + 1) lv2 (digs (R - ev lb)) ∧ OwnI w9 w.heap.size (.slice (some ⟨w.heap.size, 0, none⟩) O.length la.length) O ∧ Below w.heap.size w w9) :=
                ⟨by rw [Int.add_mul, Int.one_mul]; have := HU8.out.1; omega, ho9.base (by have := HU8.out.2.2.1.lt.2; omega), HU8.out.2.2.1.stays hb9, HU8.out.2.2.2.trans (hb9.mono HU8.out.2.2.2.size)⟩
              clear ho9 hb9 HU8
              go_wp2_with fail
              go_roundw
              case rel => exact ⟨q2 + 1, R - ev lb, by omega, by omega, rfl, (by have := HG2.out.1; omega), HU9.out⟩
              case measure => simp [intOf]; omega
            · have HG2 : Hid (R < ev lb) := Int.not_le.1 fun h => hc2 (HC2.out.2 h)
              have HST : Hid (Dv la lb z.toNat (O.set z.toNat q2) R) := HDV.out.step hp ⟨hqe, hqf⟩ ⟨hR0, HG2.out⟩ (by rw [HX.out, ← HXX.out.1]; exact HU8.out.1)
              have hol : O.length = la.length := HDV.out.olen
              have hu := HU8.out.2.2.1.cell (j := z.toNat) (by omega)
              have hfz := HU8.out.2.2.1.frozen z.toNat
              have HE : Hid (Dv la lb z.toNat (O.set z.toNat q2) R ∧ OwnI (w8.setCell ⟨w.heap.size, z.toNat, none⟩ (.int .i64 q2)) w.heap.size (.slice (some ⟨w.heap.size, 0, none⟩) (O.set z.toNat q2).length la.length) (O.set z.toNat q2) ∧ OwnI (w8.setCell ⟨w.heap.size, z.toNat, none⟩ (.int .i64 q2)) (w.heap.size + 1) u7 (digs R) ∧ Below w.heap.size w (w8.setCell ⟨w.heap.size, z.toNat, none⟩ (.int .i64 q2))) :=
                ⟨HST.out, HU8.out.2.2.1.set z.toNat q2, World.ownsRow.kept HU8.out.2.1 (grown_set w8 w.heap.size z.toNat _) (.inr (fun e => by have := (World.ownsRow.lt HU8.out.2.1 w.heap.size e).1; omega)), Below.setCell (p := ⟨w.heap.size, z.toNat, none⟩) HU8.out.2.2.2 (Nat.le_refl _) _⟩
              clear HU8 HST hol
              generalize O.getD z.toNat 0 = oz at *
              go_wp2_with fail
              go_roundw
              case rel => exact ⟨z - 1, _, R, by omega, by omega, rfl, (by rw [show (z - 1 + 1).toNat = z.toNat by omega]; exact HE.out)⟩
              case measure => simp [intOf]; omega
end Go.Proofs.YtfgkpjjjjnollaaGreatDoor

/-
  The specification's NatMul and NatDiv.
-/
namespace Go.Proofs.YtfgkpjjjjnollaaGreatDoor
open Go.RowKit
theorem OwnI.empty (w : World) {base : Nat} (h : base ≤ w.heap.size) : OwnI (w.alloc (.cells #[] 3)) base (.slice (some ⟨w.heap.size, 0, none⟩) 0 0) [] := World.ownsRow_made w #[] 0 h (Nat.zero_le _) rfl
end Go.Proofs.YtfgkpjjjjnollaaGreatDoor
