/-
  Texts of the proof, one behind the other: ClQ, DrF.
-/
import Derived.Test.YtbfbaofjkefmmaaRL26
import Derived.Test.YtbfbaofjkefmmaaRL34

/-
  The program's CrlOk.
-/
namespace Go.Proofs.Ytbfbaofjkefmmaa
open Go.RowKit
set_option linter.unusedVariables false

theorem serials_take {l : List (Int × Int)} {k : Nat} (h : k < l.length) : serials (l.take (k + 1)) = serials (l.take k) ++ [(l.getD k (0, 0)).1] := by
  unfold serials
  rw [← List.take_append_getElem h, List.map_append]
  simp [List.getD, h]
set_option maxHeartbeats 6400000 in
set_option maxRecDepth 100000 in
theorem revsRight_any (c : Cl) (pa : Option Addr) (pc : Nat) (w : World) (ha : RevAt w (.slice pa c.revs.length pc) c.revs) (hz : c.revs.length ≤ 1000000000) : Calls Try.prog 75 #[tdV c (.slice pa c.revs.length pc)] w fun e w' => e = .returned (.bool (revsOk c.bas c.revs)) ∧ Below w.heap.size w w' := by
  obtain ⟨pa', pc', hpa, hrev⟩ := ha
  obtain ⟨lp, hlp⟩ : ∃ l, c.revs.length = l := ⟨_, rfl⟩
  rw [hlp] at hpa hz ⊢
  simp only [Value.slice.injEq, true_and] at hpa
  obtain ⟨rfl, rfl⟩ := hpa
  have HRV : Hid (c.revs.length = lp ∧ ∀ j, j < c.revs.length → ∃ g, pa = some ⟨g, 0, none⟩ ∧ g < w.heap.size ∧ w.cell? ⟨g, j * 2, none⟩ = some (.int .i64 (c.revs.getD j (0, 0)).1) ∧ w.cell? ⟨g, j * 2 + 1, none⟩ = some (.int .i64 (c.revs.getD j (0, 0)).2)) := ⟨hlp, hrev⟩
  clear hrev hlp
  obtain ⟨i0, hi, hz0, hz1, hz2⟩ := info_parts info3
  unfold tdV
  by_cases h8 : lp ≤ 8
  rotate_left
  · have h8i : (8 : Int) < (lp : Int) := by omega
    have HF : Hid (revsOk c.bas c.revs = false) := revs_long (by rw [HRV.out.1]; exact h8)
    go_enter Try.func75, Try.ntmps75
    go_wp2_with fail
    go_ret
    exact ⟨by rw [HF.out]; rfl, (Below.refl _ _).alloc (Nat.le_refl _) _⟩
  have h8i : ¬ (8 : Int) < (lp : Int) := by omega
  go_enter Try.func75, Try.ntmps75
  go_wp2_with fail
  obtain ⟨V, hV⟩ : ∃ V, V = w.alloc (Obj.cells #[.string c.issuer, .int .i64 c.num, .int .i64 c.ths, .int .i64 c.nxt, .int .i64 c.bas, .slice pa lp pc] 85) := ⟨_, rfl⟩
  rw [← hV]
  have G : Hid (Below w.heap.size w V ∧ Blk V w.heap.size 85 #[.string c.issuer, .int .i64 c.num, .int .i64 c.ths, .int .i64 c.nxt, .int .i64 c.bas, .slice pa lp pc]) := by rw [hV]; exact ⟨(Below.refl _ _).alloc (Nat.le_refl _) _, Blk.new w _ _⟩
  clear hV
  go_loopw [3, 13] (fun sv iv wr => ∃ k : Nat, k ≤ lp ∧ iv = .int .i64 k ∧ Hid ((∀ j, j < k → revIn c.bas (c.revs.getD j (0, 0)) = true) ∧ Below w.heap.size w wr ∧ Blk wr w.heap.size 85 #[.string c.issuer, .int .i64 c.num, .int .i64 c.ths, .int .i64 c.nxt, .int .i64 c.bas, .slice pa lp pc] ∧ OwnI wr (w.heap.size + 1) sv (serials (c.revs.take k)))) (fun _ iv _ => lp - (intOf iv).toNat)
  case atStart => exact ⟨0, Nat.zero_le _, rfl, fun j hj => absurd hj (Nat.not_lt_zero _), G.out.1, G.out.2, OwnI.nil _ _⟩
  case round =>
    obtain ⟨k, hk, rfl, HI⟩ := hrel
    clear G
    by_cases hlt : k < lp
    rotate_left
    · have hki : ¬ (k : Int) < (lp : Int) := by omega
      obtain ⟨ao, cap, hsv⟩ : ∃ ao cap, u3 = .slice ao (serials (c.revs.take k)).length cap := by obtain ⟨ao, cap, h, _⟩ := HI.out.2.2.2.at; exact ⟨ao, cap, h⟩
      obtain ⟨q, hq⟩ : ∃ q, (serials (c.revs.take k)).length = q := ⟨_, rfl⟩
      rw [hq] at hsv
      clear hq
      subst hsv
      have EA := ascI_any (.slice ao q cap) (serials (c.revs.take k)) wr (by rw [serials_len, List.length_take]; omega) HI.out.2.2.2.at
      have HT : Hid (ascG lsI 0 (serials (c.revs.take k)) = revsOk c.bas c.revs) := by
        have e := HRV.out.1
        have ht : c.revs.take k = c.revs := List.take_of_length_le (by omega)
        show _ = revsOk c.bas c.revs
        rw [ht]
        unfold revsOk
        rw [decide_eq_true (show c.revs.length ≤ 8 by omega), all_yes (d := (0, 0)) (fun i hi => HI.out.1 i (by omega))]
        rfl
      rw [HT.out] at EA
      have HB : Hid (Below w.heap.size w wr) := HI.out.2.1
      go_wp2_with fail
      refine EA.mono ?_
      rintro e w2 ⟨rfl, hb⟩
      have HB2 : Hid (Below w.heap.size w w2) := HB.out.trans (hb.mono HB.out.size)
      clear hb EA
      go_wp2_with fail
      go_ret
      exact ⟨rfl, HB2.out⟩
    obtain ⟨g, hao, hg, hc1, hc2⟩ := HRV.out.2 k (by rw [HRV.out.1]; exact hlt)
    have d1 : wr.cell? ⟨g, k * 2, none⟩ = some (.int .i64 (c.revs.getD k (0, 0)).1) := (HI.out.2.1.cell (p := ⟨g, k * 2, none⟩) hg).trans hc1
    have d2 : wr.cell? ⟨g, k * 2 + 1, none⟩ = some (.int .i64 (c.revs.getD k (0, 0)).2) := (HI.out.2.1.cell (p := ⟨g, k * 2 + 1, none⟩) hg).trans hc2
    have HX1 : Hid (revIn c.bas (c.revs.getD k (0, 0)) = false → revsOk c.bas c.revs = false) := fun q => revs_bad (by rw [HRV.out.1]; exact hlt) q
    have HREV : Hid (revIn c.bas (c.revs.getD k (0, 0)) = (inB (c.revs.getD k (0, 0)).1 0 9999 && (inB (c.revs.getD k (0, 0)).2 1 10 && !(decide ((c.revs.getD k (0, 0)).2 = 8) && decide (c.bas = 0))))) := rfl
    have HS : Hid (serials (c.revs.take (k + 1)) = serials (c.revs.take k) ++ [(c.revs.getD k (0, 0)).1]) := serials_take (by rw [HRV.out.1]; exact hlt)
    have HX3 : Hid (revIn c.bas (c.revs.getD k (0, 0)) = true → ∀ j, j < k + 1 → revIn c.bas (c.revs.getD j (0, 0)) = true) := fun q j hj => by
      by_cases e : j = k
      · rw [e]; exact q
      · exact HI.out.1 j (by omega)
    generalize revIn c.bas (c.revs.getD k (0, 0)) = R at *
    generalize (c.revs.getD k (0, 0)).1 = s at *
    generalize (c.revs.getD k (0, 0)).2 = r at *
    subst hao
    clear hc1 hc2 hg
    have hki : (k : Int) < (lp : Int) := by omega
    have hk0 : (0 : Int) ≤ (k : Int) := by omega
    obtain ⟨S, hS⟩ : ∃ b, inB s 0 9999 = b := ⟨_, rfl⟩
    obtain ⟨Q, hQ⟩ : ∃ b, (inB r 1 10 && !(decide (r = 8) && decide (c.bas = 0))) = b := ⟨_, rfl⟩
    have EA : Hid (∀ W, Calls Try.prog 86 #[.int .i64 9999, .int .i64 s] W fun e w' => e = .returned (.bool S) ∧ Below W.heap.size W w') := fun W => by rw [← hS]; exact upTo_any _ _ W
    have EB : Hid (∀ W, Calls Try.prog 87 #[.agg #[.string c.issuer, .int .i64 c.num, .int .i64 c.ths, .int .i64 c.nxt, .int .i64 c.bas], .int .i64 r] W fun e w' => e = .returned (.bool Q) ∧ Below W.heap.size W w') := fun W => by rw [← hQ]; exact allows_any c r W
    rw [hS, hQ] at HREV
    clear hS hQ
    go_wp2_with fail
    obtain ⟨W1, hW1⟩ : ∃ W, W = wr.alloc (Obj.cells #[.int .i64 s, .int .i64 r] 57) := ⟨_, rfl⟩
    rw [← hW1]
    have hbW : Below wr.heap.size wr W1 := by rw [hW1]; exact (Below.refl _ _).alloc (Nat.le_refl _) _
    have HG1 : Hid (Below w.heap.size w W1 ∧ Blk W1 w.heap.size 85 #[.string c.issuer, .int .i64 c.num, .int .i64 c.ths, .int .i64 c.nxt, .int .i64 c.bas, .slice (some ⟨g, 0, none⟩) lp pc] ∧ OwnI W1 (w.heap.size + 1) u3 (serials (c.revs.take k)) ∧ Blk W1 wr.heap.size 57 #[.int .i64 s, .int .i64 r]) := ⟨HI.out.2.1.trans (hbW.mono HI.out.2.1.size), HI.out.2.2.1.below hbW HI.out.2.2.1.lt, HI.out.2.2.2.stays hbW, by rw [hW1]; exact Blk.new wr _ _⟩
    have HWS : Hid (w.heap.size + 1 ≤ wr.heap.size) := by show w.heap.size + 1 ≤ wr.heap.size; have := HI.out.2.2.1.lt; omega
    clear hW1 hbW HI d1 d2
    refine (EA.out W1).mono ?_
    rintro e W2 ⟨rfl, hb⟩
    have HG2 : Hid (Below w.heap.size w W2 ∧ Blk W2 w.heap.size 85 #[.string c.issuer, .int .i64 c.num, .int .i64 c.ths, .int .i64 c.nxt, .int .i64 c.bas, .slice (some ⟨g, 0, none⟩) lp pc] ∧ OwnI W2 (w.heap.size + 1) u3 (serials (c.revs.take k)) ∧ Blk W2 wr.heap.size 57 #[.int .i64 s, .int .i64 r]) := ⟨HG1.out.1.trans (hb.mono HG1.out.1.size), HG1.out.2.1.below hb HG1.out.2.1.lt, HG1.out.2.2.1.stays hb, HG1.out.2.2.2.below hb HG1.out.2.2.2.lt⟩
    clear hb HG1
    have d1 : W2.cell? ⟨wr.heap.size, 1, none⟩ = some (.int .i64 r) := HG2.out.2.2.2.cell 1
    have c0 : W2.cell? ⟨w.heap.size, 0, none⟩ = some (.string c.issuer) := HG2.out.2.1.cell 0
    have c1 : W2.cell? ⟨w.heap.size, 1, none⟩ = some (.int .i64 c.num) := HG2.out.2.1.cell 1
    have c2 : W2.cell? ⟨w.heap.size, 2, none⟩ = some (.int .i64 c.ths) := HG2.out.2.1.cell 2
    have c3 : W2.cell? ⟨w.heap.size, 3, none⟩ = some (.int .i64 c.nxt) := HG2.out.2.1.cell 3
    have c4 : W2.cell? ⟨w.heap.size, 4, none⟩ = some (.int .i64 c.bas) := HG2.out.2.1.cell 4
    cases S with
    | false =>
      have HF : Hid (revsOk c.bas c.revs = false) := HX1.out (by rw [HREV.out]; rfl)
      clear HX1 HX3
      go_wp2_with fail
      go_ret
      exact ⟨by rw [HF.out]; rfl, HG2.out.1⟩
    | true =>
      go_wp2_with fail
      refine (EB.out W2).mono ?_
      rintro e W3 ⟨rfl, hb⟩
      have HG3 : Hid (Below w.heap.size w W3 ∧ Blk W3 w.heap.size 85 #[.string c.issuer, .int .i64 c.num, .int .i64 c.ths, .int .i64 c.nxt, .int .i64 c.bas, .slice (some ⟨g, 0, none⟩) lp pc] ∧ OwnI W3 (w.heap.size + 1) u3 (serials (c.revs.take k)) ∧ Blk W3 wr.heap.size 57 #[.int .i64 s, .int .i64 r]) := ⟨HG2.out.1.trans (hb.mono HG2.out.1.size), HG2.out.2.1.below hb HG2.out.2.1.lt, HG2.out.2.2.1.stays hb, HG2.out.2.2.2.below hb HG2.out.2.2.2.lt⟩
      clear hb HG2 d1 c0 c1 c2 c3 c4
      cases Q with
      | false =>
        have HF : Hid (revsOk c.bas c.revs = false) := HX1.out (by rw [HREV.out]; rfl)
        clear HX1 HX3
        go_wp2_with fail
        go_ret
        exact ⟨by rw [HF.out]; rfl, HG3.out.1⟩
      | true =>
        have HN : Hid (∀ j, j < k + 1 → revIn c.bas (c.revs.getD j (0, 0)) = true) := HX3.out (by rw [HREV.out]; rfl)
        clear HX1 HX3
        have d0 : W3.cell? ⟨wr.heap.size, 0, none⟩ = some (.int .i64 s) := HG3.out.2.2.2.cell 0
        obtain ⟨ao, cap, hsv, hpos, hcap, hcm⟩ := OwnI.shape HG3.out.2.2.1
        have hlk : (serials (c.revs.take k)).length = k := by rw [serials_len, List.length_take, HRV.out.1]; omega
        rw [hlk] at hsv
        subst hsv
        have hO3 : W3.ownsRow (w.heap.size + 1) 3 1 (.slice ao k cap) k (cellsI (serials (c.revs.take k))) := by have h := HG3.out.2.2.1; unfold OwnI at h; rwa [hlk] at h
        clear hpos hcap hcm
        obtain ⟨W4, hW4⟩ : ∃ V, V = W3.alloc (Obj.cells #[.int .i64 s] 3) := ⟨_, rfl⟩
        have hb4 : Below W3.heap.size W3 W4 := by rw [hW4]; exact (Below.refl _ _).alloc (Nat.le_refl _) _
        have H4 : Hid (W4.ownsRow (w.heap.size + 1) 3 1 (.slice ao k cap) k (cellsI (serials (c.revs.take k))) ∧ OwnI W4 W3.heap.size (.slice (some ⟨W3.heap.size, 0, none⟩) 1 1) [s] ∧ Blk W4 w.heap.size 85 #[.string c.issuer, .int .i64 c.num, .int .i64 c.ths, .int .i64 c.nxt, .int .i64 c.bas, .slice (some ⟨g, 0, none⟩) lp pc] ∧ Below w.heap.size w W4 ∧ w.heap.size + 1 ≤ W4.heap.size) := ⟨by rw [hW4]; exact hO3.alloc _, by rw [hW4]; exact World.ownsRow_lit W3 #[.int .i64 s] 1 (Nat.le_refl _) (by decide) rfl, HG3.out.2.1.below hb4 HG3.out.2.1.lt, HG3.out.1.trans (hb4.mono HG3.out.1.size), by have h1 := HWS.out; have h2 := hb4.size; have h3 := HG3.out.2.2.2.lt; omega⟩
        clear hb4 HG3 hO3
        go_wp2_with (at_builtin; rw [← hW4]; refine wpList_append_list rfl _ _ 54 rfl (w.heap.size + 1) i0 Try.underlying54 hi hz0 hz1 hz2 (.slice ao k cap) k (cellsI (serials (c.revs.take k))) rfl H4.out.1 _ [s] W3.heap.size H4.out.2.1 rfl (by simp only [List.length_singleton]; omega) H4.out.2.2.2.2 ?_)
        intro v9 w9 ho9 hg9
        rw [← hW4] at hg9
        have H9 : Hid ((∀ j, j < k + 1 → revIn c.bas (c.revs.getD j (0, 0)) = true) ∧ Below w.heap.size w w9 ∧ Blk w9 w.heap.size 85 #[.string c.issuer, .int .i64 c.num, .int .i64 c.ths, .int .i64 c.nxt, .int .i64 c.bas, .slice (some ⟨g, 0, none⟩) lp pc] ∧ OwnI w9 (w.heap.size + 1) v9 (serials (c.revs.take (k + 1)))) := by
          have hrl := fun b hb => (World.ownsRow.lt H4.out.1 b hb).1
          refine ⟨HN.out, H4.out.2.2.2.1.grown hg9 H4.out.2.2.2.1.size (fun b hb => by have := hrl b hb; omega), (hg9.block _ H4.out.2.2.1.lt (fun e => by have := hrl _ e.symm; omega)).trans H4.out.2.2.1, ?_⟩
          rw [HS.out]
          unfold OwnI
          rw [cellsI_append, List.length_append, hlk]
          exact ho9
        clear ho9 hg9 H4 hW4 d0
        go_wp2_with fail
        exact ⟨⟨k + 1, by omega, by go_num, H9⟩, by simp [intOf]; omega⟩
set_option maxHeartbeats 3200000 in
set_option maxRecDepth 100000 in
theorem tidRight_any (c : Cl) (pa : Option Addr) (pc : Nat) (w : World) (ha : RevAt w (.slice pa c.revs.length pc) c.revs) (hz : wtL c ≤ 1000000000) : Calls Try.prog 55 #[tdV c (.slice pa c.revs.length pc)] w fun e w' => e = .returned (.bool (headOk c && revsOk c.bas c.revs)) ∧ Below w.heap.size w w' := by
  obtain ⟨z1, z2, z3⟩ := wtL_parts hz
  obtain ⟨A, hA⟩ : ∃ b, headOk c = b := ⟨_, rfl⟩
  obtain ⟨B, hB⟩ : ∃ b, revsOk c.bas c.revs = b := ⟨_, rfl⟩
  obtain ⟨lp, hlp⟩ : ∃ l, c.revs.length = l := ⟨_, rfl⟩
  have E1 : Hid (∀ W, Calls Try.prog 74 #[.agg #[.string c.issuer, .int .i64 c.num, .int .i64 c.ths, .int .i64 c.nxt, .int .i64 c.bas]] W fun e w' => e = .returned (.bool A) ∧ Below W.heap.size W w') := fun W => by rw [← hA]; exact headRight_any c W z1
  have E2 : Hid (∀ W, Below w.heap.size w W → Calls Try.prog 75 #[.agg #[.string c.issuer, .int .i64 c.num, .int .i64 c.ths, .int .i64 c.nxt, .int .i64 c.bas, .slice pa lp pc]] W fun e w' => e = .returned (.bool B) ∧ Below W.heap.size W w') := fun W hb => by rw [← hB, ← hlp]; exact revsRight_any c pa pc W (ha.below hb) z2
  rw [hlp, hA, hB]
  clear hA hB hlp ha
  unfold tdV
  go_enter Try.func55, Try.ntmps55
  go_wp2_with fail
  obtain ⟨V, hV⟩ : ∃ V, V = w.alloc (Obj.cells #[.string c.issuer, .int .i64 c.num, .int .i64 c.ths, .int .i64 c.nxt, .int .i64 c.bas, .slice pa lp pc] 85) := ⟨_, rfl⟩
  rw [← hV]
  have G : Hid (Below w.heap.size w V ∧ Blk V w.heap.size 85 #[.string c.issuer, .int .i64 c.num, .int .i64 c.ths, .int .i64 c.nxt, .int .i64 c.bas, .slice pa lp pc]) := by rw [hV]; exact ⟨(Below.refl _ _).alloc (Nat.le_refl _) _, Blk.new w _ _⟩
  clear hV
  refine (E1.out V).mono ?_
  rintro e V1 ⟨rfl, hb⟩
  have G1 : Hid (Below w.heap.size w V1 ∧ Blk V1 w.heap.size 85 #[.string c.issuer, .int .i64 c.num, .int .i64 c.ths, .int .i64 c.nxt, .int .i64 c.bas, .slice pa lp pc]) := ⟨G.out.1.trans (hb.mono G.out.1.size), G.out.2.below hb G.out.2.lt⟩
  clear hb G
  cases A with
  | false =>
    go_wp2_with fail
    go_ret
    exact ⟨rfl, G1.out.1⟩
  | true =>
    have c0 : V1.cell? ⟨w.heap.size, 0, none⟩ = some (.string c.issuer) := G1.out.2.cell 0
    have c1 : V1.cell? ⟨w.heap.size, 1, none⟩ = some (.int .i64 c.num) := G1.out.2.cell 1
    have c2 : V1.cell? ⟨w.heap.size, 2, none⟩ = some (.int .i64 c.ths) := G1.out.2.cell 2
    have c3 : V1.cell? ⟨w.heap.size, 3, none⟩ = some (.int .i64 c.nxt) := G1.out.2.cell 3
    have c4 : V1.cell? ⟨w.heap.size, 4, none⟩ = some (.int .i64 c.bas) := G1.out.2.cell 4
    have c5 : V1.cell? ⟨w.heap.size, 5, none⟩ = some (.slice pa lp pc) := G1.out.2.cell 5
    go_wp2_with fail
    refine (E2.out V1 G1.out.1).mono ?_
    rintro e V2 ⟨rfl, hb⟩
    have G2 : Hid (Below w.heap.size w V2) := G1.out.1.trans (hb.mono G1.out.1.size)
    clear hb G1 c0 c1 c2 c3 c4 c5
    go_wp2_with fail
    go_ret
    exact ⟨by simp, G2.out⟩
set_option maxHeartbeats 3200000 in
set_option maxRecDepth 100000 in
theorem implCrlOk_any (c : Cl) (v : Value) (w : World) (hz : wtL c ≤ 1000000000) (ha : ClAt w v c) :
    Calls Try.prog 28 #[v] w fun e w' => e = .returned (.bool (crlOk c)) ∧ Below w.heap.size w w' := by
  obtain ⟨pv, rfl, h1⟩ := ha
  obtain ⟨pa, pc, hpa⟩ : ∃ pa pc, pv = .slice pa c.revs.length pc := by obtain ⟨a, b, h, _⟩ := h1; exact ⟨a, b, h⟩
  subst hpa
  obtain ⟨A, hA⟩ : ∃ b, (headOk c && revsOk c.bas c.revs) = b := ⟨_, rfl⟩
  have HC : Hid (crlOk c = (A && decide (c.sig.size = 15))) := by show crlOk c = _; unfold crlOk; rw [← hA, Bool.and_assoc]
  obtain ⟨lp, hlp⟩ : ∃ l, c.revs.length = l := ⟨_, rfl⟩
  have E1 : Hid (∀ W, Calls Try.prog 54 #[.agg #[.string c.issuer, .int .i64 c.num, .int .i64 c.ths, .int .i64 c.nxt, .int .i64 c.bas, .slice pa lp pc, .string c.sig]] W fun e w' => e = .returned (.agg #[.string c.issuer, .int .i64 c.num, .int .i64 c.ths, .int .i64 c.nxt, .int .i64 c.bas, .slice pa lp pc]) ∧ Below W.heap.size W w') := fun W => tidingsOf_any c (.slice pa lp pc) W ⟨_, _, _, rfl⟩
  have E2 : Hid (∀ W, Below w.heap.size w W → Calls Try.prog 55 #[.agg #[.string c.issuer, .int .i64 c.num, .int .i64 c.ths, .int .i64 c.nxt, .int .i64 c.bas, .slice pa lp pc]] W fun e w' => e = .returned (.bool A) ∧ Below W.heap.size W w') := fun W hb => by rw [← hA, ← hlp]; exact tidRight_any c pa pc W (h1.below hb) hz
  rw [hlp]
  clear hA hlp h1
  unfold clV
  go_enter Try.func28, Try.ntmps28
  go_wp2_with fail
  obtain ⟨V, hV⟩ : ∃ V, V = w.alloc (Obj.cells #[.string c.issuer, .int .i64 c.num, .int .i64 c.ths, .int .i64 c.nxt, .int .i64 c.bas, .slice pa lp pc, .string c.sig] 24) := ⟨_, rfl⟩
  rw [← hV]
  have G : Hid (Below w.heap.size w V ∧ Blk V w.heap.size 24 #[.string c.issuer, .int .i64 c.num, .int .i64 c.ths, .int .i64 c.nxt, .int .i64 c.bas, .slice pa lp pc, .string c.sig]) := by rw [hV]; exact ⟨(Below.refl _ _).alloc (Nat.le_refl _) _, Blk.new w _ _⟩
  clear hV
  refine (E1.out V).mono ?_
  rintro e V1 ⟨rfl, hb⟩
  have G1 : Hid (Below w.heap.size w V1 ∧ Blk V1 w.heap.size 24 #[.string c.issuer, .int .i64 c.num, .int .i64 c.ths, .int .i64 c.nxt, .int .i64 c.bas, .slice pa lp pc, .string c.sig]) := ⟨G.out.1.trans (hb.mono G.out.1.size), G.out.2.below hb G.out.2.lt⟩
  clear hb G
  go_wp2_with fail
  refine (E2.out V1 G1.out.1).mono ?_
  rintro e V2 ⟨rfl, hb⟩
  have G2 : Hid (Below w.heap.size w V2 ∧ Blk V2 w.heap.size 24 #[.string c.issuer, .int .i64 c.num, .int .i64 c.ths, .int .i64 c.nxt, .int .i64 c.bas, .slice pa lp pc, .string c.sig]) := ⟨G1.out.1.trans (hb.mono G1.out.1.size), G1.out.2.below hb G1.out.2.lt⟩
  clear hb G1
  have c6 : V2.cell? ⟨w.heap.size, 6, none⟩ = some (.string c.sig) := G2.out.2.cell 6
  cases A with
  | false =>
    go_wp2_with fail
    go_ret
    exact ⟨by rw [HC.out]; rfl, G2.out.1⟩
  | true =>
    by_cases s15 : c.sig.size = 15
    · have si : (c.sig.size : Int) = 15 := by omega
      have HN : Hid (decide (c.sig.size = 15) = true) := decide_eq_true s15
      go_wp2_with fail
      go_ret
      exact ⟨by rw [HC.out, HN.out]; simp, G2.out.1⟩
    · have si : ¬ (c.sig.size : Int) = 15 := by omega
      have HN : Hid (decide (c.sig.size = 15) = false) := decide_eq_false s15
      go_wp2_with fail
      go_ret
      exact ⟨by rw [HC.out, HN.out]; simp [si], G2.out.1⟩
end Go.Proofs.Ytbfbaofjkefmmaa

/-
  The program's ReadCrl: the list that bytes are, or none.
-/
namespace Go.Proofs.Ytbfbaofjkefmmaa
open Go.RowKit Der
set_option linter.unusedVariables false
set_option linter.unusedSimpArgs false

/-- What a ReadCrl leaves. -/
def RlPost (w : World) (ol : Option Cl) (e : Ending) (W' : World) : Prop := Below w.heap.size w W' ∧
  ((ol = none ∧ e = .returned (.tuple #[.agg #[.string ⟨#[]⟩, .int .i64 0, .int .i64 0, .int .i64 0, .int .i64 0, .slice none 0 0, .string ⟨#[]⟩], .bool false])) ∨ ∃ (c : Cl) (u : Value), ol = some c ∧ e = .returned (.tuple #[u, .bool true]) ∧ OwnL W' w.heap.size u c ∧ crlOk c = true)
theorem revs_len {k : Nat} : ∀ {ks : List (It (k + 2))} {l : List (Int × Int)}, revsP ks = some l → l.length = ks.length
  | [], l, h => by
    simp only [revsP, Option.some.injEq] at h
    subst h
    rfl
  | y :: r, l, h => by
    unfold revsP at h
    split at h
    · cases h
    · split at h
      · cases h
      · next l' hl =>
        simp only [Option.some.injEq] at h
        subst h
        simp only [List.length_cons, revs_len hl]
theorem szL_item {n : Nat} (y : It (n + 1)) : szI (n + 1) y = (It.text y).length + (It.kids y).length + ((It.kids y).map (szI n)).sum := rfl
theorem itxtL_le {n : Nat} (y : It (n + 1)) : (baL (It.text y)).size ≤ szI (n + 1) y := by
  rw [szL_item]
  show (It.text y).length ≤ _
  omega
theorem wtL_of {c : Cl} {m : Nat} {x : It (m + 5)} (h : crlP x = some c) (hz : szI (m + 5) x ≤ 4000) : wtL c ≤ 1048576 := by
  unfold crlP at h
  split at h
  rotate_left
  · cases h
  next ht =>
  unfold cbP at h
  obtain ⟨b, hb, h⟩ := Option.bind_eq_some_iff.1 h
  obtain ⟨cb, hcb, h⟩ := Option.bind_eq_some_iff.1 h
  obtain ⟨s, hs, h⟩ := Option.bind_eq_some_iff.1 h
  obtain ⟨_, he, h⟩ := Option.bind_eq_some_iff.1 h
  simp only [Option.some.injEq] at h
  obtain ⟨yb, b1, b2, b3⟩ := lst_some hb
  obtain ⟨ys, s1, s2, s3⟩ := txt_some hs
  rw [s1] at b1
  have z0 : szI (m + 5) x = (It.text x).length + (It.kids x).length + ((It.kids x).map (szI (m + 4))).sum := szL_item x
  rw [b1] at z0
  simp only [List.map_cons, List.sum_cons, List.length_cons] at z0
  have z1 : szI (m + 4) yb = (It.text yb).length + (It.kids yb).length + ((It.kids yb).map (szI (m + 3))).sum := szL_item yb
  rw [b3] at hcb
  unfold tidP headP at hcb
  obtain ⟨hh, hhd, hcb⟩ := Option.bind_eq_some_iff.1 hcb
  obtain ⟨a0, h0, hhd⟩ := Option.bind_eq_some_iff.1 hhd
  obtain ⟨a1, h1, hhd⟩ := Option.bind_eq_some_iff.1 hhd
  obtain ⟨a2, h2, hhd⟩ := Option.bind_eq_some_iff.1 hhd
  obtain ⟨a3, h3, hhd⟩ := Option.bind_eq_some_iff.1 hhd
  obtain ⟨a4, h4, hhd⟩ := Option.bind_eq_some_iff.1 hhd
  simp only [Option.some.injEq] at hhd
  subst hhd
  obtain ⟨a5, h5, hcb⟩ := Option.bind_eq_some_iff.1 hcb
  obtain ⟨_, hze, hcb⟩ := Option.bind_eq_some_iff.1 hcb
  simp only [Option.some.injEq] at hcb
  obtain ⟨y0, p0, q0, v0⟩ := txt_some h0
  obtain ⟨y1, n1, p1, q1, i1, v1⟩ := num_some h1
  obtain ⟨y2, n2, p2, q2, i2, v2⟩ := num_some h2
  obtain ⟨y3, n3, p3, q3, i3, v3⟩ := num_some h3
  obtain ⟨y4, n4, p4, q4, i4, v4⟩ := num_some h4
  have h5' : ∃ y, a4.2 = y :: a5.2 ∧ It.tag y = 48 ∧ revsP (It.kids y) = some a5.1 := by
    have h := h5
    change revsL a4.2 = some a5 at h
    unfold revsL at h
    split at h
    · cases h
    · next i r hl =>
      split at h
      · cases h
      · next l hl2 =>
        simp only [Option.some.injEq] at h
        subst h
        obtain ⟨y, e1, e2, e3⟩ := lst_some hl
        change i = It.kids y at e3
        exact ⟨y, e1, e2, by rw [← e3]; exact hl2⟩
  obtain ⟨y5, p5, q5, v5⟩ := h5'
  rw [p5] at p4
  rw [p4] at p3
  rw [p3] at p2
  rw [p2] at p1
  rw [p1] at p0
  rw [p0] at z1
  simp only [List.map_cons, List.sum_cons, List.length_cons] at z1
  have t0 : (baL (It.text y0)).size ≤ szI (m + 3) y0 := itxtL_le y0
  have ts : (baL (It.text ys)).size ≤ szI (m + 4) ys := itxtL_le ys
  have t5 := revs_len v5
  have s5 : szI (m + 3) y5 = (It.text y5).length + (It.kids y5).length + ((It.kids y5).map (szI (m + 2))).sum := szL_item y5
  subst h hcb
  unfold wtL
  show a0.1.size + a5.1.length + s.1.size ≤ 1048576
  rw [v0, s3]
  omega
set_option maxHeartbeats 6400000 in
set_option maxRecDepth 100000 in
theorem implReadCrl_any (m : Nat) (hm : 4000 ≤ m + 4) (T : ByteArray) (w : World) (hT : T.size ≤ 1000000000000) :
    Calls Try.prog 7 #[.string T] w fun e W' => RlPost w ((readG (m + 4 + 1) T.data.toList).bind readPL) e W' := by
  obtain ⟨oR, hoR⟩ : ∃ r, (readG (m + 4 + 1) T.data.toList).bind readPL = r := ⟨_, rfl⟩
  have HP : Hid ((readG (m + 4 + 1) T.data.toList).bind readPL = oR) := hoR
  rw [hoR]
  clear hoR
  obtain ⟨W1, hW1⟩ : ∃ V, V = w.alloc (Obj.cells #[.string ⟨#[]⟩, .int .i64 0, .int .i64 0, .int .i64 0, .int .i64 0, .slice none 0 0, .string ⟨#[]⟩] 24) := ⟨_, rfl⟩
  have E1 := readWholeL_any m hm T W1 hT
  have H1 : Hid (Below w.heap.size w W1 ∧ Blk W1 w.heap.size 24 #[.string ⟨#[]⟩, .int .i64 0, .int .i64 0, .int .i64 0, .int .i64 0, .slice none 0 0, .string ⟨#[]⟩] ∧ W1.heap.size = w.heap.size + 1) := by rw [hW1]; exact ⟨(Below.refl _ _).alloc (Nat.le_refl _) _, Blk.new _ _ _, size_alloc _ _⟩
  go_enter Try.func7, Try.ntmps7
  go_wp2_with fail
  rw [← hW1]
  clear hW1
  refine E1.mono ?_
  rintro e w4 ⟨hb4, ⟨hn, rfl⟩ | ⟨x, c, u, hx, hsz, hc, rfl, hown⟩⟩
  · have H4 : Hid (Below w.heap.size w w4 ∧ Blk w4 w.heap.size 24 #[.string ⟨#[]⟩, .int .i64 0, .int .i64 0, .int .i64 0, .int .i64 0, .slice none 0 0, .string ⟨#[]⟩]) := ⟨H1.out.1.trans (hb4.mono H1.out.1.size), H1.out.2.1.on hb4⟩
    have r0 := fun o => (show (w4.alloc o).cell? ⟨w.heap.size, 0, none⟩ = some (.string ⟨#[]⟩) from (H4.out.2.alloc o).cell 0)
    have r1 := fun o => (show (w4.alloc o).cell? ⟨w.heap.size, 1, none⟩ = some (.int .i64 0) from (H4.out.2.alloc o).cell 1)
    have r2 := fun o => (show (w4.alloc o).cell? ⟨w.heap.size, 2, none⟩ = some (.int .i64 0) from (H4.out.2.alloc o).cell 2)
    have r3 := fun o => (show (w4.alloc o).cell? ⟨w.heap.size, 3, none⟩ = some (.int .i64 0) from (H4.out.2.alloc o).cell 3)
    have r4 := fun o => (show (w4.alloc o).cell? ⟨w.heap.size, 4, none⟩ = some (.int .i64 0) from (H4.out.2.alloc o).cell 4)
    have r5 := fun o => (show (w4.alloc o).cell? ⟨w.heap.size, 5, none⟩ = some (.slice none 0 0) from (H4.out.2.alloc o).cell 5)
    have r6 := fun o => (show (w4.alloc o).cell? ⟨w.heap.size, 6, none⟩ = some (.string ⟨#[]⟩) from (H4.out.2.alloc o).cell 6)
    have rf := fun o j => (H4.out.2.alloc o).free j
    have HN : Hid (oR = none) := by
      show oR = none
      rw [← HP.out]
      cases hr : readG (m + 4 + 1) T.data.toList with
      | none => rfl
      | some y => rw [hr] at hn; show readPL y = none; unfold readPL; rw [show crlP y = none from hn]; rfl
    clear hn hb4 H1 E1
    go_wp2_with fail
    refine bodyPost_ret (v := .tuple #[.agg #[.string ⟨#[]⟩, .int .i64 0, .int .i64 0, .int .i64 0, .int .i64 0, .slice none 0 0, .string ⟨#[]⟩], .bool false]) (by simp [results, Try.results7, go_sem, r0, r1, r2, r3, r4, r5, r6]; try rfl) rfl ⟨?_, .inl ⟨HN.out, rfl⟩⟩
    iterate 7 refine Below.setCell ?_ (by show w.heap.size ≤ w.heap.size; exact Nat.le_refl _) _
    exact H4.out.1.alloc H4.out.1.size _
  ·
      obtain ⟨pX, qX, hu⟩ := ClAt.shape hown.at
      subst hu
      unfold clV at hown ⊢
      obtain ⟨W5, hW5⟩ : ∃ V, V = w4.alloc (Obj.cells #[.string c.issuer, .int .i64 c.num, .int .i64 c.ths, .int .i64 c.nxt, .int .i64 c.bas, .slice pX c.revs.length qX, .string c.sig] 24) := ⟨_, rfl⟩
      have hb5 : Below w4.heap.size w4 W5 := by rw [hW5]; exact (Below.refl _ _).alloc (Nat.le_refl _) _
      have H5 : Hid ((Below w.heap.size w W5 ∧ Blk W5 w.heap.size 24 #[.string ⟨#[]⟩, .int .i64 0, .int .i64 0, .int .i64 0, .int .i64 0, .slice none 0 0, .string ⟨#[]⟩]) ∧ Blk W5 w4.heap.size 24 #[.string c.issuer, .int .i64 c.num, .int .i64 c.ths, .int .i64 c.nxt, .int .i64 c.bas, .slice pX c.revs.length qX, .string c.sig] ∧ OwnL W5 W1.heap.size (.agg #[.string c.issuer, .int .i64 c.num, .int .i64 c.ths, .int .i64 c.nxt, .int .i64 c.bas, .slice pX c.revs.length qX, .string c.sig]) c ∧ w.heap.size < W1.heap.size ∧ W1.heap.size ≤ w4.heap.size) := ⟨⟨(H1.out.1.trans (hb4.mono H1.out.1.size)).trans (hb5.mono (Nat.le_trans H1.out.1.size hb4.size)), (H1.out.2.1.on hb4).on hb5⟩, by rw [hW5]; exact Blk.new _ _ _, hown.stays hb5, H1.out.2.1.lt, hb4.size⟩
      have E5 := implCrlOk_any c (.agg #[.string c.issuer, .int .i64 c.num, .int .i64 c.ths, .int .i64 c.nxt, .int .i64 c.bas, .slice pX c.revs.length qX, .string c.sig]) W5 (Nat.le_trans (wtL_of hc hsz) (by decide)) (hown.stays hb5).at
      have HC : Hid (crlP x = some c) := hc
      have HX : Hid (readG (m + 4 + 1) T.data.toList = some x ∧ szI (m + 5) x ≤ 4000) := ⟨hx, hsz⟩
      clear hown hb4 hb5 H1 E1 hc hx hsz
      go_wp2_with fail
      rw [← hW5]
      clear hW5
      obtain ⟨B, hB⟩ : ∃ B, crlOk c = B := ⟨_, rfl⟩
      rw [hB] at E5
      refine E5.mono ?_
      rintro e w6 ⟨rfl, hb6⟩
      have H6 : Hid ((Below w.heap.size w w6 ∧ Blk w6 w.heap.size 24 #[.string ⟨#[]⟩, .int .i64 0, .int .i64 0, .int .i64 0, .int .i64 0, .slice none 0 0, .string ⟨#[]⟩]) ∧ Blk w6 w4.heap.size 24 #[.string c.issuer, .int .i64 c.num, .int .i64 c.ths, .int .i64 c.nxt, .int .i64 c.bas, .slice pX c.revs.length qX, .string c.sig] ∧ OwnL w6 W1.heap.size (.agg #[.string c.issuer, .int .i64 c.num, .int .i64 c.ths, .int .i64 c.nxt, .int .i64 c.bas, .slice pX c.revs.length qX, .string c.sig]) c ∧ w.heap.size < W1.heap.size ∧ W1.heap.size ≤ w4.heap.size) := ⟨⟨H5.out.1.1.trans (hb6.mono H5.out.1.1.size), H5.out.1.2.on hb6⟩, H5.out.2.1.on hb6, H5.out.2.2.1.stays hb6, H5.out.2.2.2⟩
      have HB : Hid (crlOk c = B) := hB
      clear hb6 H5 E5 hB
      cases B with
      | false =>
        have r0 : w6.cell? ⟨w.heap.size, 0, none⟩ = some (.string ⟨#[]⟩) := H6.out.1.2.cell 0
        have r1 : w6.cell? ⟨w.heap.size, 1, none⟩ = some (.int .i64 0) := H6.out.1.2.cell 1
        have r2 : w6.cell? ⟨w.heap.size, 2, none⟩ = some (.int .i64 0) := H6.out.1.2.cell 2
        have r3 : w6.cell? ⟨w.heap.size, 3, none⟩ = some (.int .i64 0) := H6.out.1.2.cell 3
        have r4 : w6.cell? ⟨w.heap.size, 4, none⟩ = some (.int .i64 0) := H6.out.1.2.cell 4
        have r5 : w6.cell? ⟨w.heap.size, 5, none⟩ = some (.slice none 0 0) := H6.out.1.2.cell 5
        have r6 : w6.cell? ⟨w.heap.size, 6, none⟩ = some (.string ⟨#[]⟩) := H6.out.1.2.cell 6
        have rf := fun j => H6.out.1.2.free j
        have HN : Hid (oR = none) := by
          show oR = none
          rw [← HP.out]
          rw [HX.out.1]; show readPL x = none; unfold readPL; rw [HC.out]; show (if crlOk c = true then some c else none) = none; rw [HB.out]; rfl
        skip
        go_wp2_with fail
        refine bodyPost_ret (v := .tuple #[.agg #[.string ⟨#[]⟩, .int .i64 0, .int .i64 0, .int .i64 0, .int .i64 0, .slice none 0 0, .string ⟨#[]⟩], .bool false]) (by simp [results, Try.results7, go_sem, r0, r1, r2, r3, r4, r5, r6]; try rfl) rfl ⟨?_, .inl ⟨HN.out, rfl⟩⟩
        iterate 7 refine Below.setCell ?_ (by show w.heap.size ≤ w.heap.size; exact Nat.le_refl _) _
        exact H6.out.1.1
      | true =>
        have HY : Hid (oR = some c) := by
          show oR = some c
          rw [← HP.out, HX.out.1]
          show readPL x = some c
          unfold readPL
          rw [HC.out]
          show (if crlOk c = true then some c else none) = some c
          rw [if_pos HB.out]
        have r0 : w6.cell? ⟨w.heap.size, 0, none⟩ = some (.string ⟨#[]⟩) := H6.out.1.2.cell 0
        have c20 : w6.cell? ⟨w4.heap.size, 0, none⟩ = some (.string c.issuer) := H6.out.2.1.cell 0
        have r1 : w6.cell? ⟨w.heap.size, 1, none⟩ = some (.int .i64 0) := H6.out.1.2.cell 1
        have c21 : w6.cell? ⟨w4.heap.size, 1, none⟩ = some (.int .i64 c.num) := H6.out.2.1.cell 1
        have r2 : w6.cell? ⟨w.heap.size, 2, none⟩ = some (.int .i64 0) := H6.out.1.2.cell 2
        have c22 : w6.cell? ⟨w4.heap.size, 2, none⟩ = some (.int .i64 c.ths) := H6.out.2.1.cell 2
        have r3 : w6.cell? ⟨w.heap.size, 3, none⟩ = some (.int .i64 0) := H6.out.1.2.cell 3
        have c23 : w6.cell? ⟨w4.heap.size, 3, none⟩ = some (.int .i64 c.nxt) := H6.out.2.1.cell 3
        have r4 : w6.cell? ⟨w.heap.size, 4, none⟩ = some (.int .i64 0) := H6.out.1.2.cell 4
        have c24 : w6.cell? ⟨w4.heap.size, 4, none⟩ = some (.int .i64 c.bas) := H6.out.2.1.cell 4
        have r5 : w6.cell? ⟨w.heap.size, 5, none⟩ = some (.slice none 0 0) := H6.out.1.2.cell 5
        have c25 : w6.cell? ⟨w4.heap.size, 5, none⟩ = some (.slice pX c.revs.length qX) := H6.out.2.1.cell 5
        have r6 : w6.cell? ⟨w.heap.size, 6, none⟩ = some (.string ⟨#[]⟩) := H6.out.1.2.cell 6
        have c26 : w6.cell? ⟨w4.heap.size, 6, none⟩ = some (.string c.sig) := H6.out.2.1.cell 6
        have rf := fun j => H6.out.1.2.free j
        go_wp2_with fail
        refine bodyPost_ret (v := .tuple #[.agg #[.string c.issuer, .int .i64 c.num, .int .i64 c.ths, .int .i64 c.nxt, .int .i64 c.bas, .slice pX c.revs.length qX, .string c.sig], .bool true]) (by simp [results, Try.results7, go_sem, r0, r1, r2, r3, r4, r5, r6]; try rfl) rfl ?_
        generalize hV : World.setCell _ { block := w.heap.size, off := 6 } (Value.string c.sig) = V
        have ho : Out [w.heap.size] w6 V := by
          rw [← hV]
          iterate 7 refine Out.setCell ?_ _ _ (by simp)
          exact Out.refl _ _
        refine ⟨H6.out.1.1.trans (ho.below (fun b hb => by rw [List.mem_singleton.1 hb]; exact Nat.le_refl _) H6.out.1.1.size), .inr ⟨c, _, HY.out, rfl, ?_, HB.out⟩⟩
        exact (H6.out.2.2.1.out ho (fun b hb => by have := fpL_lt H6.out.2.2.1 b hb; have := H6.out.2.2.2.1; simp; omega)).base (by have := H6.out.2.2.2.1; omega)
end Go.Proofs.Ytbfbaofjkefmmaa
