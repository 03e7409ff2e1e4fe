/-
  Texts of the proof, one behind the other: ClQ, ClD.
-/
import Derived.Test.YtplblechcnbieaaGreatSK11
import Derived.Test.YtplblechcnbieaaGreatSK27
import Derived.Test.YtplblechcnbieaaGreatSK38

/-
  The program's CrlOk.
-/
namespace Go.Proofs.YtplblechcnbieaaGreat
open Go.RowKit
set_option linter.unusedVariables false

theorem serials_take {l : List (Int × Int)} {k : Nat} (h : k < l.length) : serials (l.take (k + 1)) = serials (l.take k) ++ [(l.getD k (0, 0)).1] := by
  unfold serials
  rw [← List.take_append_getElem h, List.map_append]
  simp [List.getD, h]
set_option maxHeartbeats 6400000 in
set_option maxRecDepth 100000 in
theorem revsRight_any (c : Cl) (pa : Option Addr) (pc : Nat) (w : World) (ha : RevAt w (.slice pa c.revs.length pc) c.revs) (hz : c.revs.length ≤ 1000000000) : Calls Tryz.prog 148 #[tdV c (.slice pa c.revs.length pc)] w fun e w' => e = .returned (.bool (revsOk c.bas c.revs)) ∧ Below w.heap.size w w' := by
  obtain ⟨pa', pc', hpa, hrev⟩ := ha
  obtain ⟨lp, hlp⟩ : ∃ l, c.revs.length = l := ⟨_, rfl⟩
  rw [hlp] at hpa hz ⊢
  simp only [Value.slice.injEq, true_and] at hpa
  obtain ⟨rfl, rfl⟩ := hpa
  have HRV : Hid (c.revs.length = lp ∧ ∀ j, j < c.revs.length → ∃ g, pa = some ⟨g, 0, none⟩ ∧ g < w.heap.size ∧ w.cell? ⟨g, j * 2, none⟩ = some (.int .i64 (c.revs.getD j (0, 0)).1) ∧ w.cell? ⟨g, j * 2 + 1, none⟩ = some (.int .i64 (c.revs.getD j (0, 0)).2)) := ⟨hlp, hrev⟩
  clear hrev hlp
  obtain ⟨i0, hi, hz0, hz1, hz2⟩ := info_parts info3
  unfold tdV
  by_cases h8 : lp ≤ 8
  rotate_left
  · have h8i : (8 : Int) < (lp : Int) := by omega
    have HF : Hid (revsOk c.bas c.revs = false) := revs_long (by rw [HRV.out.1]; exact h8)
    go_enter Tryz.func148, Tryz.ntmps148
    go_wp2_with fail
    go_ret
    exact ⟨by rw [HF.out]; rfl, (Below.refl _ _).alloc (Nat.le_refl _) _⟩
  have h8i : ¬ (8 : Int) < (lp : Int) := by omega
  go_enter Tryz.func148, Tryz.ntmps148
  go_wp2_with fail
  obtain ⟨V, hV⟩ : ∃ V, V = w.alloc (Obj.cells #[.string c.issuer, .int .i64 c.num, .int .i64 c.ths, .int .i64 c.nxt, .int .i64 c.bas, .slice pa lp pc] 133) := ⟨_, rfl⟩
  rw [← hV]
  have G : Hid (Below w.heap.size w V ∧ Blk V w.heap.size 133 #[.string c.issuer, .int .i64 c.num, .int .i64 c.ths, .int .i64 c.nxt, .int .i64 c.bas, .slice pa lp pc]) := by rw [hV]; exact ⟨(Below.refl _ _).alloc (Nat.le_refl _) _, Blk.new w _ _⟩
  clear hV
  go_loopw [3, 13] (fun sv iv wr => ∃ k : Nat, k ≤ lp ∧ iv = .int .i64 k ∧ Hid ((∀ j, j < k → revIn c.bas (c.revs.getD j (0, 0)) = true) ∧ Below w.heap.size w wr ∧ Blk wr w.heap.size 133 #[.string c.issuer, .int .i64 c.num, .int .i64 c.ths, .int .i64 c.nxt, .int .i64 c.bas, .slice pa lp pc] ∧ OwnI wr (w.heap.size + 1) sv (serials (c.revs.take k)))) (fun _ iv _ => lp - (intOf iv).toNat)
  case atStart => exact ⟨0, Nat.zero_le _, rfl, fun j hj => absurd hj (Nat.not_lt_zero _), G.out.1, G.out.2, OwnI.nil _ _⟩
  case round =>
    obtain ⟨k, hk, rfl, HI⟩ := hrel
    clear G
    by_cases hlt : k < lp
    rotate_left
    · have hki : ¬ (k : Int) < (lp : Int) := by omega
      obtain ⟨ao, cap, hsv⟩ : ∃ ao cap, u3 = .slice ao (serials (c.revs.take k)).length cap := by obtain ⟨ao, cap, h, _⟩ := HI.out.2.2.2.at; exact ⟨ao, cap, h⟩
      obtain ⟨q, hq⟩ : ∃ q, (serials (c.revs.take k)).length = q := ⟨_, rfl⟩
      rw [hq] at hsv
      clear hq
      subst hsv
      have EA := ascI_any (.slice ao q cap) (serials (c.revs.take k)) wr (by rw [serials_len, List.length_take]; omega) HI.out.2.2.2.at
      have HT : Hid (ascG lsI 0 (serials (c.revs.take k)) = revsOk c.bas c.revs) := by
        have e := HRV.out.1
        have ht : c.revs.take k = c.revs := List.take_of_length_le (by omega)
        show _ = revsOk c.bas c.revs
        rw [ht]
        unfold revsOk
        rw [decide_eq_true (show c.revs.length ≤ 8 by omega), all_yes (d := (0, 0)) (fun i hi => HI.out.1 i (by omega))]
        rfl
      rw [HT.out] at EA
      have HB : Hid (Below w.heap.size w wr) := HI.out.2.1
      go_wp2_with fail
      refine EA.mono ?_
      rintro e w2 ⟨rfl, hb⟩
      have HB2 : Hid (Below w.heap.size w w2) := HB.out.trans (hb.mono HB.out.size)
      clear hb EA
      go_wp2_with fail
      go_ret
      exact ⟨rfl, HB2.out⟩
    obtain ⟨g, hao, hg, hc1, hc2⟩ := HRV.out.2 k (by rw [HRV.out.1]; exact hlt)
    have d1 : wr.cell? ⟨g, k * 2, none⟩ = some (.int .i64 (c.revs.getD k (0, 0)).1) := (HI.out.2.1.cell (p := ⟨g, k * 2, none⟩) hg).trans hc1
    have d2 : wr.cell? ⟨g, k * 2 + 1, none⟩ = some (.int .i64 (c.revs.getD k (0, 0)).2) := (HI.out.2.1.cell (p := ⟨g, k * 2 + 1, none⟩) hg).trans hc2
    have HX1 : Hid (revIn c.bas (c.revs.getD k (0, 0)) = false → revsOk c.bas c.revs = false) := fun q => revs_bad (by rw [HRV.out.1]; exact hlt) q
    have HREV : Hid (revIn c.bas (c.revs.getD k (0, 0)) = (inB (c.revs.getD k (0, 0)).1 0 9999 && (inB (c.revs.getD k (0, 0)).2 1 10 && !(decide ((c.revs.getD k (0, 0)).2 = 8) && decide (c.bas = 0))))) := rfl
    have HS : Hid (serials (c.revs.take (k + 1)) = serials (c.revs.take k) ++ [(c.revs.getD k (0, 0)).1]) := serials_take (by rw [HRV.out.1]; exact hlt)
    have HX3 : Hid (revIn c.bas (c.revs.getD k (0, 0)) = true → ∀ j, j < k + 1 → revIn c.bas (c.revs.getD j (0, 0)) = true) := fun q j hj => by
      by_cases e : j = k
      · rw [e]; exact q
      · exact HI.out.1 j (by omega)
    generalize revIn c.bas (c.revs.getD k (0, 0)) = R at *
    generalize (c.revs.getD k (0, 0)).1 = s at *
    generalize (c.revs.getD k (0, 0)).2 = r at *
    subst hao
    clear hc1 hc2 hg
    have hki : (k : Int) < (lp : Int) := by omega
    have hk0 : (0 : Int) ≤ (k : Int) := by omega
    obtain ⟨S, hS⟩ : ∃ b, inB s 0 9999 = b := ⟨_, rfl⟩
    obtain ⟨Q, hQ⟩ : ∃ b, (inB r 1 10 && !(decide (r = 8) && decide (c.bas = 0))) = b := ⟨_, rfl⟩
    have EA : Hid (∀ W, Calls Tryz.prog 111 #[.int .i64 9999, .int .i64 s] W fun e w' => e = .returned (.bool S) ∧ Below W.heap.size W w') := fun W => by rw [← hS]; exact upTo_any _ _ W
    have EB : Hid (∀ W, Calls Tryz.prog 155 #[.agg #[.string c.issuer, .int .i64 c.num, .int .i64 c.ths, .int .i64 c.nxt, .int .i64 c.bas], .int .i64 r] W fun e w' => e = .returned (.bool Q) ∧ Below W.heap.size W w') := fun W => by rw [← hQ]; exact allows_any c r W
    rw [hS, hQ] at HREV
    clear hS hQ
    go_wp2_with fail
    obtain ⟨W1, hW1⟩ : ∃ W, W = wr.alloc (Obj.cells #[.int .i64 s, .int .i64 r] 140) := ⟨_, rfl⟩
    rw [← hW1]
    have hbW : Below wr.heap.size wr W1 := by rw [hW1]; exact (Below.refl _ _).alloc (Nat.le_refl _) _
    have HG1 : Hid (Below w.heap.size w W1 ∧ Blk W1 w.heap.size 133 #[.string c.issuer, .int .i64 c.num, .int .i64 c.ths, .int .i64 c.nxt, .int .i64 c.bas, .slice (some ⟨g, 0, none⟩) lp pc] ∧ OwnI W1 (w.heap.size + 1) u3 (serials (c.revs.take k)) ∧ Blk W1 wr.heap.size 140 #[.int .i64 s, .int .i64 r]) := ⟨HI.out.2.1.trans (hbW.mono HI.out.2.1.size), HI.out.2.2.1.below hbW HI.out.2.2.1.lt, HI.out.2.2.2.stays hbW, by rw [hW1]; exact Blk.new wr _ _⟩
    have HWS : Hid (w.heap.size + 1 ≤ wr.heap.size) := by show w.heap.size + 1 ≤ wr.heap.size; have := HI.out.2.2.1.lt; omega
    clear hW1 hbW HI d1 d2
    refine (EA.out W1).mono ?_
    rintro e W2 ⟨rfl, hb⟩
    have HG2 : Hid (Below w.heap.size w W2 ∧ Blk W2 w.heap.size 133 #[.string c.issuer, .int .i64 c.num, .int .i64 c.ths, .int .i64 c.nxt, .int .i64 c.bas, .slice (some ⟨g, 0, none⟩) lp pc] ∧ OwnI W2 (w.heap.size + 1) u3 (serials (c.revs.take k)) ∧ Blk W2 wr.heap.size 140 #[.int .i64 s, .int .i64 r]) := ⟨HG1.out.1.trans (hb.mono HG1.out.1.size), HG1.out.2.1.below hb HG1.out.2.1.lt, HG1.out.2.2.1.stays hb, HG1.out.2.2.2.below hb HG1.out.2.2.2.lt⟩
    clear hb HG1
    have d1 : W2.cell? ⟨wr.heap.size, 1, none⟩ = some (.int .i64 r) := HG2.out.2.2.2.cell 1
    have c0 : W2.cell? ⟨w.heap.size, 0, none⟩ = some (.string c.issuer) := HG2.out.2.1.cell 0
    have c1 : W2.cell? ⟨w.heap.size, 1, none⟩ = some (.int .i64 c.num) := HG2.out.2.1.cell 1
    have c2 : W2.cell? ⟨w.heap.size, 2, none⟩ = some (.int .i64 c.ths) := HG2.out.2.1.cell 2
    have c3 : W2.cell? ⟨w.heap.size, 3, none⟩ = some (.int .i64 c.nxt) := HG2.out.2.1.cell 3
    have c4 : W2.cell? ⟨w.heap.size, 4, none⟩ = some (.int .i64 c.bas) := HG2.out.2.1.cell 4
    cases S with
    | false =>
      have HF : Hid (revsOk c.bas c.revs = false) := HX1.out (by rw [HREV.out]; rfl)
      clear HX1 HX3
      go_wp2_with fail
      go_ret
      exact ⟨by rw [HF.out]; rfl, HG2.out.1⟩
    | true =>
      go_wp2_with fail
      refine (EB.out W2).mono ?_
      rintro e W3 ⟨rfl, hb⟩
      have HG3 : Hid (Below w.heap.size w W3 ∧ Blk W3 w.heap.size 133 #[.string c.issuer, .int .i64 c.num, .int .i64 c.ths, .int .i64 c.nxt, .int .i64 c.bas, .slice (some ⟨g, 0, none⟩) lp pc] ∧ OwnI W3 (w.heap.size + 1) u3 (serials (c.revs.take k)) ∧ Blk W3 wr.heap.size 140 #[.int .i64 s, .int .i64 r]) := ⟨HG2.out.1.trans (hb.mono HG2.out.1.size), HG2.out.2.1.below hb HG2.out.2.1.lt, HG2.out.2.2.1.stays hb, HG2.out.2.2.2.below hb HG2.out.2.2.2.lt⟩
      clear hb HG2 d1 c0 c1 c2 c3 c4
      cases Q with
      | false =>
        have HF : Hid (revsOk c.bas c.revs = false) := HX1.out (by rw [HREV.out]; rfl)
        clear HX1 HX3
        go_wp2_with fail
        go_ret
        exact ⟨by rw [HF.out]; rfl, HG3.out.1⟩
      | true =>
        have HN : Hid (∀ j, j < k + 1 → revIn c.bas (c.revs.getD j (0, 0)) = true) := HX3.out (by rw [HREV.out]; rfl)
        clear HX1 HX3
        have d0 : W3.cell? ⟨wr.heap.size, 0, none⟩ = some (.int .i64 s) := HG3.out.2.2.2.cell 0
        obtain ⟨ao, cap, hsv, hpos, hcap, hcm⟩ := OwnI.shape HG3.out.2.2.1
        have hlk : (serials (c.revs.take k)).length = k := by rw [serials_len, List.length_take, HRV.out.1]; omega
        rw [hlk] at hsv
        subst hsv
        have hO3 : W3.ownsRow (w.heap.size + 1) 3 1 (.slice ao k cap) k (cellsI (serials (c.revs.take k))) := by have h := HG3.out.2.2.1; unfold OwnI at h; rwa [hlk] at h
        clear hpos hcap hcm
        obtain ⟨W4, hW4⟩ : ∃ V, V = W3.alloc (Obj.cells #[.int .i64 s] 3) := ⟨_, rfl⟩
        have hb4 : Below W3.heap.size W3 W4 := by rw [hW4]; exact (Below.refl _ _).alloc (Nat.le_refl _) _
        have H4 : Hid (W4.ownsRow (w.heap.size + 1) 3 1 (.slice ao k cap) k (cellsI (serials (c.revs.take k))) ∧ OwnI W4 W3.heap.size (.slice (some ⟨W3.heap.size, 0, none⟩) 1 1) [s] ∧ Blk W4 w.heap.size 133 #[.string c.issuer, .int .i64 c.num, .int .i64 c.ths, .int .i64 c.nxt, .int .i64 c.bas, .slice (some ⟨g, 0, none⟩) lp pc] ∧ Below w.heap.size w W4 ∧ w.heap.size + 1 ≤ W4.heap.size) := ⟨by rw [hW4]; exact hO3.alloc _, by rw [hW4]; exact World.ownsRow_lit W3 #[.int .i64 s] 1 (Nat.le_refl _) (by decide) rfl, HG3.out.2.1.below hb4 HG3.out.2.1.lt, HG3.out.1.trans (hb4.mono HG3.out.1.size), by have h1 := HWS.out; have h2 := hb4.size; have h3 := HG3.out.2.2.2.lt; omega⟩
        clear hb4 HG3 hO3
        go_wp2_with (at_builtin; rw [← hW4]; refine wpList_append_list rfl _ _ 37 rfl (w.heap.size + 1) i0 Tryz.underlying37 hi hz0 hz1 hz2 (.slice ao k cap) k (cellsI (serials (c.revs.take k))) rfl H4.out.1 _ [s] W3.heap.size H4.out.2.1 rfl (by simp only [List.length_singleton]; omega) H4.out.2.2.2.2 ?_)
        intro v9 w9 ho9 hg9
        rw [← hW4] at hg9
        have H9 : Hid ((∀ j, j < k + 1 → revIn c.bas (c.revs.getD j (0, 0)) = true) ∧ Below w.heap.size w w9 ∧ Blk w9 w.heap.size 133 #[.string c.issuer, .int .i64 c.num, .int .i64 c.ths, .int .i64 c.nxt, .int .i64 c.bas, .slice (some ⟨g, 0, none⟩) lp pc] ∧ OwnI w9 (w.heap.size + 1) v9 (serials (c.revs.take (k + 1)))) := by
          have hrl := fun b hb => (World.ownsRow.lt H4.out.1 b hb).1
          refine ⟨HN.out, H4.out.2.2.2.1.grown hg9 H4.out.2.2.2.1.size (fun b hb => by have := hrl b hb; omega), (hg9.block _ H4.out.2.2.1.lt (fun e => by have := hrl _ e.symm; omega)).trans H4.out.2.2.1, ?_⟩
          rw [HS.out]
          unfold OwnI
          rw [cellsI_append, List.length_append, hlk]
          exact ho9
        clear ho9 hg9 H4 hW4 d0
        go_wp2_with fail
        exact ⟨⟨k + 1, by omega, by go_num, H9⟩, by simp [intOf]; omega⟩
set_option maxHeartbeats 3200000 in
set_option maxRecDepth 100000 in
theorem tidRight_any (c : Cl) (pa : Option Addr) (pc : Nat) (w : World) (ha : RevAt w (.slice pa c.revs.length pc) c.revs) (hz : wtL c ≤ 1000000000) : Calls Tryz.prog 132 #[tdV c (.slice pa c.revs.length pc)] w fun e w' => e = .returned (.bool (headOk c && revsOk c.bas c.revs)) ∧ Below w.heap.size w w' := by
  obtain ⟨z1, z2, z3⟩ := wtL_parts hz
  obtain ⟨A, hA⟩ : ∃ b, headOk c = b := ⟨_, rfl⟩
  obtain ⟨B, hB⟩ : ∃ b, revsOk c.bas c.revs = b := ⟨_, rfl⟩
  obtain ⟨lp, hlp⟩ : ∃ l, c.revs.length = l := ⟨_, rfl⟩
  have E1 : Hid (∀ W, Calls Tryz.prog 147 #[.agg #[.string c.issuer, .int .i64 c.num, .int .i64 c.ths, .int .i64 c.nxt, .int .i64 c.bas]] W fun e w' => e = .returned (.bool A) ∧ Below W.heap.size W w') := fun W => by rw [← hA]; exact headRight_any c W z1
  have E2 : Hid (∀ W, Below w.heap.size w W → Calls Tryz.prog 148 #[.agg #[.string c.issuer, .int .i64 c.num, .int .i64 c.ths, .int .i64 c.nxt, .int .i64 c.bas, .slice pa lp pc]] W fun e w' => e = .returned (.bool B) ∧ Below W.heap.size W w') := fun W hb => by rw [← hB, ← hlp]; exact revsRight_any c pa pc W (ha.below hb) z2
  rw [hlp, hA, hB]
  clear hA hB hlp ha
  unfold tdV
  go_enter Tryz.func132, Tryz.ntmps132
  go_wp2_with fail
  obtain ⟨V, hV⟩ : ∃ V, V = w.alloc (Obj.cells #[.string c.issuer, .int .i64 c.num, .int .i64 c.ths, .int .i64 c.nxt, .int .i64 c.bas, .slice pa lp pc] 133) := ⟨_, rfl⟩
  rw [← hV]
  have G : Hid (Below w.heap.size w V ∧ Blk V w.heap.size 133 #[.string c.issuer, .int .i64 c.num, .int .i64 c.ths, .int .i64 c.nxt, .int .i64 c.bas, .slice pa lp pc]) := by rw [hV]; exact ⟨(Below.refl _ _).alloc (Nat.le_refl _) _, Blk.new w _ _⟩
  clear hV
  refine (E1.out V).mono ?_
  rintro e V1 ⟨rfl, hb⟩
  have G1 : Hid (Below w.heap.size w V1 ∧ Blk V1 w.heap.size 133 #[.string c.issuer, .int .i64 c.num, .int .i64 c.ths, .int .i64 c.nxt, .int .i64 c.bas, .slice pa lp pc]) := ⟨G.out.1.trans (hb.mono G.out.1.size), G.out.2.below hb G.out.2.lt⟩
  clear hb G
  cases A with
  | false =>
    go_wp2_with fail
    go_ret
    exact ⟨rfl, G1.out.1⟩
  | true =>
    have c0 : V1.cell? ⟨w.heap.size, 0, none⟩ = some (.string c.issuer) := G1.out.2.cell 0
    have c1 : V1.cell? ⟨w.heap.size, 1, none⟩ = some (.int .i64 c.num) := G1.out.2.cell 1
    have c2 : V1.cell? ⟨w.heap.size, 2, none⟩ = some (.int .i64 c.ths) := G1.out.2.cell 2
    have c3 : V1.cell? ⟨w.heap.size, 3, none⟩ = some (.int .i64 c.nxt) := G1.out.2.cell 3
    have c4 : V1.cell? ⟨w.heap.size, 4, none⟩ = some (.int .i64 c.bas) := G1.out.2.cell 4
    have c5 : V1.cell? ⟨w.heap.size, 5, none⟩ = some (.slice pa lp pc) := G1.out.2.cell 5
    go_wp2_with fail
    refine (E2.out V1 G1.out.1).mono ?_
    rintro e V2 ⟨rfl, hb⟩
    have G2 : Hid (Below w.heap.size w V2) := G1.out.1.trans (hb.mono G1.out.1.size)
    clear hb G1 c0 c1 c2 c3 c4 c5
    go_wp2_with fail
    go_ret
    exact ⟨by simp, G2.out⟩
set_option maxHeartbeats 3200000 in
set_option maxRecDepth 100000 in
theorem implCrlOk_any (c : Cl) (v : Value) (w : World) (hz : wtL c ≤ 1000000000) (ha : ClAt w v c) :
    Calls Tryz.prog 93 #[v] w fun e w' => e = .returned (.bool (crlOk c)) ∧ Below w.heap.size w w' := by
  obtain ⟨pv, rfl, h1⟩ := ha
  obtain ⟨pa, pc, hpa⟩ : ∃ pa pc, pv = .slice pa c.revs.length pc := by obtain ⟨a, b, h, _⟩ := h1; exact ⟨a, b, h⟩
  subst hpa
  obtain ⟨A, hA⟩ : ∃ b, (headOk c && revsOk c.bas c.revs) = b := ⟨_, rfl⟩
  have HC : Hid (crlOk c = (A && decide (c.sig.size = 15))) := by show crlOk c = _; unfold crlOk; rw [← hA, Bool.and_assoc]
  obtain ⟨lp, hlp⟩ : ∃ l, c.revs.length = l := ⟨_, rfl⟩
  have E1 : Hid (∀ W, Calls Tryz.prog 94 #[.agg #[.string c.issuer, .int .i64 c.num, .int .i64 c.ths, .int .i64 c.nxt, .int .i64 c.bas, .slice pa lp pc, .string c.sig]] W fun e w' => e = .returned (.agg #[.string c.issuer, .int .i64 c.num, .int .i64 c.ths, .int .i64 c.nxt, .int .i64 c.bas, .slice pa lp pc]) ∧ Below W.heap.size W w') := fun W => tidingsOf_any c (.slice pa lp pc) W ⟨_, _, _, rfl⟩
  have E2 : Hid (∀ W, Below w.heap.size w W → Calls Tryz.prog 132 #[.agg #[.string c.issuer, .int .i64 c.num, .int .i64 c.ths, .int .i64 c.nxt, .int .i64 c.bas, .slice pa lp pc]] W fun e w' => e = .returned (.bool A) ∧ Below W.heap.size W w') := fun W hb => by rw [← hA, ← hlp]; exact tidRight_any c pa pc W (h1.below hb) hz
  rw [hlp]
  clear hA hlp h1
  unfold clV
  go_enter Tryz.func93, Tryz.ntmps93
  go_wp2_with fail
  obtain ⟨V, hV⟩ : ∃ V, V = w.alloc (Obj.cells #[.string c.issuer, .int .i64 c.num, .int .i64 c.ths, .int .i64 c.nxt, .int .i64 c.bas, .slice pa lp pc, .string c.sig] 57) := ⟨_, rfl⟩
  rw [← hV]
  have G : Hid (Below w.heap.size w V ∧ Blk V w.heap.size 57 #[.string c.issuer, .int .i64 c.num, .int .i64 c.ths, .int .i64 c.nxt, .int .i64 c.bas, .slice pa lp pc, .string c.sig]) := by rw [hV]; exact ⟨(Below.refl _ _).alloc (Nat.le_refl _) _, Blk.new w _ _⟩
  clear hV
  refine (E1.out V).mono ?_
  rintro e V1 ⟨rfl, hb⟩
  have G1 : Hid (Below w.heap.size w V1 ∧ Blk V1 w.heap.size 57 #[.string c.issuer, .int .i64 c.num, .int .i64 c.ths, .int .i64 c.nxt, .int .i64 c.bas, .slice pa lp pc, .string c.sig]) := ⟨G.out.1.trans (hb.mono G.out.1.size), G.out.2.below hb G.out.2.lt⟩
  clear hb G
  go_wp2_with fail
  refine (E2.out V1 G1.out.1).mono ?_
  rintro e V2 ⟨rfl, hb⟩
  have G2 : Hid (Below w.heap.size w V2 ∧ Blk V2 w.heap.size 57 #[.string c.issuer, .int .i64 c.num, .int .i64 c.ths, .int .i64 c.nxt, .int .i64 c.bas, .slice pa lp pc, .string c.sig]) := ⟨G1.out.1.trans (hb.mono G1.out.1.size), G1.out.2.below hb G1.out.2.lt⟩
  clear hb G1
  have c6 : V2.cell? ⟨w.heap.size, 6, none⟩ = some (.string c.sig) := G2.out.2.cell 6
  cases A with
  | false =>
    go_wp2_with fail
    go_ret
    exact ⟨by rw [HC.out]; rfl, G2.out.1⟩
  | true =>
    by_cases s15 : c.sig.size = 15
    · have si : (c.sig.size : Int) = 15 := by omega
      have HN : Hid (decide (c.sig.size = 15) = true) := decide_eq_true s15
      go_wp2_with fail
      go_ret
      exact ⟨by rw [HC.out, HN.out]; simp, G2.out.1⟩
    · have si : ¬ (c.sig.size : Int) = 15 := by omega
      have HN : Hid (decide (c.sig.size = 15) = false) := decide_eq_false s15
      go_wp2_with fail
      go_ret
      exact ⟨by rw [HC.out, HN.out]; simp [si], G2.out.1⟩
end Go.Proofs.YtplblechcnbieaaGreat

/-
  Lists as items.
-/
namespace Go.Proofs.YtplblechcnbieaaGreat
open Go.RowKit Der
set_option linter.unusedVariables false

/-- One that was called back, as an item. -/
def revI (p : Int × Int) : It 2 := lstJ [intI p.1, intI p.2]
/-- What a list's head tells, as items. -/
def headL (c : Cl) : List (It 3) := [txtJ c.issuer, intI c.num, intI c.ths, intI c.nxt, intI c.bas]
/-- What of a list is signed. -/
def bodyL (c : Cl) : It 4 := lstJ (headL c ++ [lstJ (c.revs.map revI)])
/-- A list. -/
def crlI (c : Cl) : It 5 := lstJ [bodyL c, bytJ c.sig]
end Go.Proofs.YtplblechcnbieaaGreat
