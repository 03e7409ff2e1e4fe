/-
  The program's plus.
-/
import Derived.Test.YtfepknjdehannaaNatC
import Derived.Deep.RegionHeld3
namespace Go.Proofs.Ytfepknjdehannaa
open Go.RowKit

set_option maxHeartbeats 1600000 in
set_option maxRecDepth 100000 in
theorem plus_any (a b : Value) (la lb : List Int) (w : World) (hl : la.length ≤ 1000) (hl2 : lb.length ≤ 1000) (hda : Dig la) (hdb : Dig lb) (ha : IntAt w a la) (hb : IntAt w b lb) :
    Calls Try.prog 34 #[a, b] w fun e w' => ∃ v, e = .returned v ∧ OwnI w' w.heap.size v (digs (ev la + ev lb)) ∧ Below w.heap.size w w' := by
  obtain ⟨i0, hi, hz0, hz1, hz2⟩ := info_parts info3
  have HA : Hid (IntAt w a la ∧ Dig la) := ⟨ha, hda⟩
  have HB : Hid (IntAt w b lb ∧ Dig lb) := ⟨hb, hdb⟩
  obtain ⟨ao, ac, hae, HA0⟩ := ha
  obtain ⟨bo, bc, hbe, HB0⟩ := hb
  subst hae hbe
  clear hda hdb HA0 HB0
  obtain ⟨f, hf⟩ : ∃ f : Nat → Int, (fun j => la.getD j 0 + lb.getD j 0) = f := ⟨_, rfl⟩
  have HF : Hid ((fun j => la.getD j 0 + lb.getD j 0) = f) := hf
  clear hf
  by_cases hlt : la.length < lb.length
  · go_enter Try.func34, Try.ntmps34
    go_wp2_with (at_make; refine wpList_make_full _ rfl _ _ 44 rfl w.heap.size 3 i0 (.int .i64 0) 1 Try.underlying44 hi hz0 hz1 .i64 .i64 _ _ (lb.length + 1) rfl rfl ?m0 ?m1 ?m2 ?m3 ?m4 ?_)
    case m0 => simp
    case m1 => simp
    case m2 => rw [hz2]; omega
    case m3 => unfold maxLen; omega
    case m4 => exact Nat.le_refl _
    intro w1 hown hgrow
    have HO : Hid (OwnI w1 w.heap.size (.slice (some ⟨w.heap.size, 0, none⟩) (fillL f 0 (lb.length + 1)).length (lb.length + 1)) (fillL f 0 (lb.length + 1)) ∧ Below w.heap.size w w1) := by
      refine ⟨?_, (Below.refl _ _).grown hgrow (Nat.le_refl _) (fun j hj => by cases hj)⟩
      rw [fillL_zero]
      exact OwnI.of_made hown
    clear hown hgrow
    go_wp2_with fail
    go_loopw [16] (fun iv wr => ∃ k : Nat, k ≤ lb.length + 1 ∧ iv = .int .i64 k ∧ Hid (OwnI wr w.heap.size (.slice (some ⟨w.heap.size, 0, none⟩) (fillL f k (lb.length + 1)).length (lb.length + 1)) (fillL f k (lb.length + 1)) ∧ Below w.heap.size w wr)) (fun iv _ => lb.length + 1 - (intOf iv).toNat)
    case atStart => exact ⟨0, Nat.zero_le _, rfl, HO.out⟩
    case round =>
      obtain ⟨k, hk, rfl, H⟩ := hrel
      clear HO
      have hfl := fillL_len f k (lb.length + 1)
      by_cases hkn : k < lb.length + 1
      · have hu := H.out.1.cell (j := k) (by omega)
        have hfz := H.out.1.frozen k
        have EA := at_any (.slice ao la.length ac) la (k : Int) wr (by omega) (HA.out.1.below H.out.2)
        have EB := at_any (.slice bo lb.length bc) lb (k : Int) wr (by omega) (HB.out.1.below H.out.2)
        rw [atI_nat] at EA EB
        have hxa := HA.out.2.getD k
        have hxb := HB.out.2.getD k
        have hfk : la.getD k 0 + lb.getD k 0 = f k := congrFun HF.out k
        have HN : Hid (la.getD k 0 + lb.getD k 0 = f k ∧ OwnI (wr.setCell ⟨w.heap.size, k, none⟩ (.int .i64 (f k))) w.heap.size (.slice (some ⟨w.heap.size, 0, none⟩) (fillL f (k + 1) (lb.length + 1)).length (lb.length + 1)) (fillL f (k + 1) (lb.length + 1)) ∧ ∀ y, Below w.heap.size w (wr.setCell ⟨w.heap.size, k, none⟩ (.int .i64 y))) :=
          ⟨hfk, by have := H.out.1.set k (f k); rwa [fillL_set f k _ hkn] at this, fun y => Below.setCell (p := ⟨w.heap.size, k, none⟩) H.out.2 (Nat.le_refl _) (.int .i64 y)⟩
        clear hfk H hfl
        generalize la.getD k 0 = x at *
        generalize lb.getD k 0 = y at *
        generalize (fillL f k (lb.length + 1)).getD k 0 = z at *
        have hki : (k : Int) < (lb.length : Int) + 1 := by omega
        have hk0 : (0 : Int) ≤ (k : Int) := by omega
        go_wp2_with fail
        refine EA.mono ?_
        rintro e w' ⟨rfl, rfl⟩
        go_wp2_with fail
        refine EB.mono ?_
        rintro e w' ⟨rfl, rfl⟩
        go_wp2_with fail
        go_roundw
        case rel => exact ⟨k + 1, by omega, by go_num, by have h := HN.out.1; rw [← h] at HN; exact HN.out.2.1, HN.out.2.2 _⟩
        case measure => simp [intOf]; omega
      · have hkl : k = lb.length + 1 := by omega
        subst hkl
        go_wp2_with fail
        refine (settle_any w.heap.size 0 (lb.length + 1) (lb.length + 1) (lb.length + 1) w.heap.size _ wr (by rw [hfl]; omega) (by rw [hfl]; omega) (fun j => by rw [fillL_getD, ← congrFun HF.out j]; have h1 := HA.out.2.getD j; have h2 := HB.out.2.getD j; split <;> omega) H.out.1).mono ?_
        rintro e w2 ⟨L, cy, rfl, hst, ho2, hb2, _⟩
        have HS : Hid (Dig L ∧ L.length = lb.length + 1 ∧ ev L = ev la + ev lb ∧ OwnI w2 w.heap.size (.slice (some ⟨w.heap.size, 0, none⟩) (lb.length + 1) (lb.length + 1)) L ∧ Below w.heap.size w w2) := by
          have hl3 : L.length = lb.length + 1 := by rw [hst.len, hfl]
          have hd : Dig L := dig_of_getD fun j hj => hst.mid j (Nat.zero_le _) (by omega)
          have hval := hst.val
          rw [← HF.out, fillL_ev_add, fillL_ev_list la _ (by omega), fillL_ev_list lb _ (by omega), Nat.zero_add] at hval
          have h1 := ev_lt hd
          rw [hl3] at h1 ho2
          have p1 := pw_le (show la.length ≤ lb.length by omega)
          have p2 := pw_le (show lb.length ≤ lb.length by omega)
          have a1 := ev_lt HA.out.2
          have a2 := ev_lt HB.out.2
          have p3 := pw_succ lb.length
          have p4 := pw_pos lb.length
          exact ⟨hd, hl3, (no_carry hval (ev_nonneg hd) h1 (by have := ev_nonneg HA.out.2; have := ev_nonneg HB.out.2; omega) (by omega)).2, ho2, H.out.2.trans hb2⟩
        clear hst ho2 hb2
        go_wp2_with fail
        refine (trimmed_any _ L w.heap.size w2 (by have := HS.out.2.1; omega) HS.out.1 HS.out.2.2.2.1).mono ?_
        rintro e w3 ⟨v, rfl, ho3, hb3⟩
        rw [HS.out.2.2.1] at ho3
        have HE : Hid (OwnI w3 w.heap.size v (digs (ev la + ev lb)) ∧ Below w.heap.size w w3) := ⟨ho3, HS.out.2.2.2.2.trans (hb3.mono HS.out.2.2.2.2.size)⟩
        clear ho3 hb3
        go_wp2
        go_ret
        exact ⟨_, rfl, HE.out⟩
  · go_enter Try.func34, Try.ntmps34
    go_wp2_with (at_make; refine wpList_make_full _ rfl _ _ 44 rfl w.heap.size 3 i0 (.int .i64 0) 1 Try.underlying44 hi hz0 hz1 .i64 .i64 _ _ (la.length + 1) rfl rfl ?m0 ?m1 ?m2 ?m3 ?m4 ?_)
    case m0 => simp
    case m1 => simp
    case m2 => rw [hz2]; omega
    case m3 => unfold maxLen; omega
    case m4 => exact Nat.le_refl _
    intro w1 hown hgrow
    have HO : Hid (OwnI w1 w.heap.size (.slice (some ⟨w.heap.size, 0, none⟩) (fillL f 0 (la.length + 1)).length (la.length + 1)) (fillL f 0 (la.length + 1)) ∧ Below w.heap.size w w1) := by
      refine ⟨?_, (Below.refl _ _).grown hgrow (Nat.le_refl _) (fun j hj => by cases hj)⟩
      rw [fillL_zero]
      exact OwnI.of_made hown
    clear hown hgrow
    go_wp2_with fail
    go_loopw [16] (fun iv wr => ∃ k : Nat, k ≤ la.length + 1 ∧ iv = .int .i64 k ∧ Hid (OwnI wr w.heap.size (.slice (some ⟨w.heap.size, 0, none⟩) (fillL f k (la.length + 1)).length (la.length + 1)) (fillL f k (la.length + 1)) ∧ Below w.heap.size w wr)) (fun iv _ => la.length + 1 - (intOf iv).toNat)
    case atStart => exact ⟨0, Nat.zero_le _, rfl, HO.out⟩
    case round =>
      obtain ⟨k, hk, rfl, H⟩ := hrel
      clear HO
      have hfl := fillL_len f k (la.length + 1)
      by_cases hkn : k < la.length + 1
      · have hu := H.out.1.cell (j := k) (by omega)
        have hfz := H.out.1.frozen k
        have EA := at_any (.slice ao la.length ac) la (k : Int) wr (by omega) (HA.out.1.below H.out.2)
        have EB := at_any (.slice bo lb.length bc) lb (k : Int) wr (by omega) (HB.out.1.below H.out.2)
        rw [atI_nat] at EA EB
        have hxa := HA.out.2.getD k
        have hxb := HB.out.2.getD k
        have hfk : la.getD k 0 + lb.getD k 0 = f k := congrFun HF.out k
        have HN : Hid (la.getD k 0 + lb.getD k 0 = f k ∧ OwnI (wr.setCell ⟨w.heap.size, k, none⟩ (.int .i64 (f k))) w.heap.size (.slice (some ⟨w.heap.size, 0, none⟩) (fillL f (k + 1) (la.length + 1)).length (la.length + 1)) (fillL f (k + 1) (la.length + 1)) ∧ ∀ y, Below w.heap.size w (wr.setCell ⟨w.heap.size, k, none⟩ (.int .i64 y))) :=
          ⟨hfk, by have := H.out.1.set k (f k); rwa [fillL_set f k _ hkn] at this, fun y => Below.setCell (p := ⟨w.heap.size, k, none⟩) H.out.2 (Nat.le_refl _) (.int .i64 y)⟩
        clear hfk H hfl
        generalize la.getD k 0 = x at *
        generalize lb.getD k 0 = y at *
        generalize (fillL f k (la.length + 1)).getD k 0 = z at *
        have hki : (k : Int) < (la.length : Int) + 1 := by omega
        have hk0 : (0 : Int) ≤ (k : Int) := by omega
        go_wp2_with fail
        refine EA.mono ?_
        rintro e w' ⟨rfl, rfl⟩
        go_wp2_with fail
        refine EB.mono ?_
        rintro e w' ⟨rfl, rfl⟩
        go_wp2_with fail
        go_roundw
        case rel => exact ⟨k + 1, by omega, by go_num, by have h := HN.out.1; rw [← h] at HN; exact HN.out.2.1, HN.out.2.2 _⟩
        case measure => simp [intOf]; omega
      · have hkl : k = la.length + 1 := by omega
        subst hkl
        go_wp2_with fail
        refine (settle_any w.heap.size 0 (la.length + 1) (la.length + 1) (la.length + 1) w.heap.size _ wr (by rw [hfl]; omega) (by rw [hfl]; omega) (fun j => by rw [fillL_getD, ← congrFun HF.out j]; have h1 := HA.out.2.getD j; have h2 := HB.out.2.getD j; split <;> omega) H.out.1).mono ?_
        rintro e w2 ⟨L, cy, rfl, hst, ho2, hb2, _⟩
        have HS : Hid (Dig L ∧ L.length = la.length + 1 ∧ ev L = ev la + ev lb ∧ OwnI w2 w.heap.size (.slice (some ⟨w.heap.size, 0, none⟩) (la.length + 1) (la.length + 1)) L ∧ Below w.heap.size w w2) := by
          have hl3 : L.length = la.length + 1 := by rw [hst.len, hfl]
          have hd : Dig L := dig_of_getD fun j hj => hst.mid j (Nat.zero_le _) (by omega)
          have hval := hst.val
          rw [← HF.out, fillL_ev_add, fillL_ev_list la _ (by omega), fillL_ev_list lb _ (by omega), Nat.zero_add] at hval
          have h1 := ev_lt hd
          rw [hl3] at h1 ho2
          have p1 := pw_le (show la.length ≤ la.length by omega)
          have p2 := pw_le (show lb.length ≤ la.length by omega)
          have a1 := ev_lt HA.out.2
          have a2 := ev_lt HB.out.2
          have p3 := pw_succ la.length
          have p4 := pw_pos la.length
          exact ⟨hd, hl3, (no_carry hval (ev_nonneg hd) h1 (by have := ev_nonneg HA.out.2; have := ev_nonneg HB.out.2; omega) (by omega)).2, ho2, H.out.2.trans hb2⟩
        clear hst ho2 hb2
        go_wp2_with fail
        refine (trimmed_any _ L w.heap.size w2 (by have := HS.out.2.1; omega) HS.out.1 HS.out.2.2.2.1).mono ?_
        rintro e w3 ⟨v, rfl, ho3, hb3⟩
        rw [HS.out.2.2.1] at ho3
        have HE : Hid (OwnI w3 w.heap.size v (digs (ev la + ev lb)) ∧ Below w.heap.size w w3) := ⟨ho3, HS.out.2.2.2.2.trans (hb3.mono HS.out.2.2.2.2.size)⟩
        clear ho3 hb3
        go_wp2
        go_ret
        exact ⟨_, rfl, HE.out⟩
end Go.Proofs.Ytfepknjdehannaa
