/-
  Texts of the proof, one behind the other: ClQ, ItZ.
-/
import Derived.OwnWalk
import Derived.Deep.AppendLies
import Derived.Deep.RegionLaw
import Derived.Test.YtajbalokcfghbaaM11
import Derived.Test.YtajbalokcfghbaaM18

/-
  The program's CrlOk.
-/
namespace Go.Proofs.Ytajbalokcfghbaa
open Go.RowKit
set_option linter.unusedVariables false

theorem serials_take {l : List (Int × Int)} {k : Nat} (h : k < l.length) : serials (l.take (k + 1)) = serials (l.take k) ++ [(l.getD k (0, 0)).1] := by
  unfold serials
  rw [← List.take_append_getElem h, List.map_append]
  simp [List.getD, h]
set_option maxHeartbeats 6400000 in
set_option maxRecDepth 100000 in
theorem revsRight_any (c : Cl) (pa : Option Addr) (pc : Nat) (w : World) (ha : RevAt w (.slice pa c.revs.length pc) c.revs) (hz : c.revs.length ≤ 1000000000) : Calls Try.prog 106 #[tdV c (.slice pa c.revs.length pc)] w fun e w' => e = .returned (.bool (revsOk c.bas c.revs)) ∧ Below w.heap.size w w' := by
  obtain ⟨pa', pc', hpa, hrev⟩ := ha
  obtain ⟨lp, hlp⟩ : ∃ l, c.revs.length = l := ⟨_, rfl⟩
  rw [hlp] at hpa hz ⊢
  simp only [Value.slice.injEq, true_and] at hpa
  obtain ⟨rfl, rfl⟩ := hpa
  have HRV : Hid (c.revs.length = lp ∧ ∀ j, j < c.revs.length → ∃ g, pa = some ⟨g, 0, none⟩ ∧ g < w.heap.size ∧ w.cell? ⟨g, j * 2, none⟩ = some (.int .i64 (c.revs.getD j (0, 0)).1) ∧ w.cell? ⟨g, j * 2 + 1, none⟩ = some (.int .i64 (c.revs.getD j (0, 0)).2)) := ⟨hlp, hrev⟩
  clear hrev hlp
  obtain ⟨i0, hi, hz0, hz1, hz2⟩ := info_parts info3
  unfold tdV
  by_cases h8 : lp ≤ 8
  rotate_left
  · have h8i : (8 : Int) < (lp : Int) := by omega
    have HF : Hid (revsOk c.bas c.revs = false) := revs_long (by rw [HRV.out.1]; exact h8)
    go_enter Try.func106, Try.ntmps106
    go_wp2_with fail
    go_ret
    exact ⟨by rw [HF.out]; rfl, (Below.refl _ _).alloc (Nat.le_refl _) _⟩
  have h8i : ¬ (8 : Int) < (lp : Int) := by omega
  go_enter Try.func106, Try.ntmps106
  go_wp2_with fail
  obtain ⟨V, hV⟩ : ∃ V, V = w.alloc (Obj.cells #[.string c.issuer, .int .i64 c.num, .int .i64 c.ths, .int .i64 c.nxt, .int .i64 c.bas, .slice pa lp pc] 89) := ⟨_, rfl⟩
  rw [← hV]
  have G : Hid (Below w.heap.size w V ∧ Blk V w.heap.size 89 #[.string c.issuer, .int .i64 c.num, .int .i64 c.ths, .int .i64 c.nxt, .int .i64 c.bas, .slice pa lp pc]) := by rw [hV]; exact ⟨(Below.refl _ _).alloc (Nat.le_refl _) _, Blk.new w _ _⟩
  clear hV
  go_loopw [3, 13] (fun sv iv wr => ∃ k : Nat, k ≤ lp ∧ iv = .int .i64 k ∧ Hid ((∀ j, j < k → revIn c.bas (c.revs.getD j (0, 0)) = true) ∧ Below w.heap.size w wr ∧ Blk wr w.heap.size 89 #[.string c.issuer, .int .i64 c.num, .int .i64 c.ths, .int .i64 c.nxt, .int .i64 c.bas, .slice pa lp pc] ∧ OwnI wr (w.heap.size + 1) sv (serials (c.revs.take k)))) (fun _ iv _ => lp - (intOf iv).toNat)
  case atStart => exact ⟨0, Nat.zero_le _, rfl, fun j hj => absurd hj (Nat.not_lt_zero _), G.out.1, G.out.2, OwnI.nil _ _⟩
  case round =>
    obtain ⟨k, hk, rfl, HI⟩ := hrel
    clear G
    by_cases hlt : k < lp
    rotate_left
    · have hki : ¬ (k : Int) < (lp : Int) := by omega
      obtain ⟨ao, cap, hsv⟩ : ∃ ao cap, u3 = .slice ao (serials (c.revs.take k)).length cap := by obtain ⟨ao, cap, h, _⟩ := HI.out.2.2.2.at; exact ⟨ao, cap, h⟩
      obtain ⟨q, hq⟩ : ∃ q, (serials (c.revs.take k)).length = q := ⟨_, rfl⟩
      rw [hq] at hsv
      clear hq
      subst hsv
      have EA := ascI_any (.slice ao q cap) (serials (c.revs.take k)) wr (by rw [serials_len, List.length_take]; omega) HI.out.2.2.2.at
      have HT : Hid (ascG lsI 0 (serials (c.revs.take k)) = revsOk c.bas c.revs) := by
        have e := HRV.out.1
        have ht : c.revs.take k = c.revs := List.take_of_length_le (by omega)
        show _ = revsOk c.bas c.revs
        rw [ht]
        unfold revsOk
        rw [decide_eq_true (show c.revs.length ≤ 8 by omega), all_yes (d := (0, 0)) (fun i hi => HI.out.1 i (by omega))]
        rfl
      rw [HT.out] at EA
      have HB : Hid (Below w.heap.size w wr) := HI.out.2.1
      go_wp2_with fail
      refine EA.mono ?_
      rintro e w2 ⟨rfl, hb⟩
      have HB2 : Hid (Below w.heap.size w w2) := HB.out.trans (hb.mono HB.out.size)
      clear hb EA
      go_wp2_with fail
      go_ret
      exact ⟨rfl, HB2.out⟩
    obtain ⟨g, hao, hg, hc1, hc2⟩ := HRV.out.2 k (by rw [HRV.out.1]; exact hlt)
    have d1 : wr.cell? ⟨g, k * 2, none⟩ = some (.int .i64 (c.revs.getD k (0, 0)).1) := (HI.out.2.1.cell (p := ⟨g, k * 2, none⟩) hg).trans hc1
    have d2 : wr.cell? ⟨g, k * 2 + 1, none⟩ = some (.int .i64 (c.revs.getD k (0, 0)).2) := (HI.out.2.1.cell (p := ⟨g, k * 2 + 1, none⟩) hg).trans hc2
    have HX1 : Hid (revIn c.bas (c.revs.getD k (0, 0)) = false → revsOk c.bas c.revs = false) := fun q => revs_bad (by rw [HRV.out.1]; exact hlt) q
    have HREV : Hid (revIn c.bas (c.revs.getD k (0, 0)) = (inB (c.revs.getD k (0, 0)).1 0 9999 && (inB (c.revs.getD k (0, 0)).2 1 10 && !(decide ((c.revs.getD k (0, 0)).2 = 8) && decide (c.bas = 0))))) := rfl
    have HS : Hid (serials (c.revs.take (k + 1)) = serials (c.revs.take k) ++ [(c.revs.getD k (0, 0)).1]) := serials_take (by rw [HRV.out.1]; exact hlt)
    have HX3 : Hid (revIn c.bas (c.revs.getD k (0, 0)) = true → ∀ j, j < k + 1 → revIn c.bas (c.revs.getD j (0, 0)) = true) := fun q j hj => by
      by_cases e : j = k
      · rw [e]; exact q
      · exact HI.out.1 j (by omega)
    generalize revIn c.bas (c.revs.getD k (0, 0)) = R at *
    generalize (c.revs.getD k (0, 0)).1 = s at *
    generalize (c.revs.getD k (0, 0)).2 = r at *
    subst hao
    clear hc1 hc2 hg
    have hki : (k : Int) < (lp : Int) := by omega
    have hk0 : (0 : Int) ≤ (k : Int) := by omega
    obtain ⟨S, hS⟩ : ∃ b, inB s 0 9999 = b := ⟨_, rfl⟩
    obtain ⟨Q, hQ⟩ : ∃ b, (inB r 1 10 && !(decide (r = 8) && decide (c.bas = 0))) = b := ⟨_, rfl⟩
    have EA : Hid (∀ W, Calls Try.prog 82 #[.int .i64 9999, .int .i64 s] W fun e w' => e = .returned (.bool S) ∧ Below W.heap.size W w') := fun W => by rw [← hS]; exact upTo_any _ _ W
    have EB : Hid (∀ W, Calls Try.prog 131 #[.agg #[.string c.issuer, .int .i64 c.num, .int .i64 c.ths, .int .i64 c.nxt, .int .i64 c.bas], .int .i64 r] W fun e w' => e = .returned (.bool Q) ∧ Below W.heap.size W w') := fun W => by rw [← hQ]; exact allows_any c r W
    rw [hS, hQ] at HREV
    clear hS hQ
    go_wp2_with fail
    obtain ⟨W1, hW1⟩ : ∃ W, W = wr.alloc (Obj.cells #[.int .i64 s, .int .i64 r] 84) := ⟨_, rfl⟩
    rw [← hW1]
    have hbW : Below wr.heap.size wr W1 := by rw [hW1]; exact (Below.refl _ _).alloc (Nat.le_refl _) _
    have HG1 : Hid (Below w.heap.size w W1 ∧ Blk W1 w.heap.size 89 #[.string c.issuer, .int .i64 c.num, .int .i64 c.ths, .int .i64 c.nxt, .int .i64 c.bas, .slice (some ⟨g, 0, none⟩) lp pc] ∧ OwnI W1 (w.heap.size + 1) u3 (serials (c.revs.take k)) ∧ Blk W1 wr.heap.size 84 #[.int .i64 s, .int .i64 r]) := ⟨HI.out.2.1.trans (hbW.mono HI.out.2.1.size), HI.out.2.2.1.below hbW HI.out.2.2.1.lt, HI.out.2.2.2.stays hbW, by rw [hW1]; exact Blk.new wr _ _⟩
    have HWS : Hid (w.heap.size + 1 ≤ wr.heap.size) := by show w.heap.size + 1 ≤ wr.heap.size; have := HI.out.2.2.1.lt; omega
    clear hW1 hbW HI d1 d2
    refine (EA.out W1).mono ?_
    rintro e W2 ⟨rfl, hb⟩
    have HG2 : Hid (Below w.heap.size w W2 ∧ Blk W2 w.heap.size 89 #[.string c.issuer, .int .i64 c.num, .int .i64 c.ths, .int .i64 c.nxt, .int .i64 c.bas, .slice (some ⟨g, 0, none⟩) lp pc] ∧ OwnI W2 (w.heap.size + 1) u3 (serials (c.revs.take k)) ∧ Blk W2 wr.heap.size 84 #[.int .i64 s, .int .i64 r]) := ⟨HG1.out.1.trans (hb.mono HG1.out.1.size), HG1.out.2.1.below hb HG1.out.2.1.lt, HG1.out.2.2.1.stays hb, HG1.out.2.2.2.below hb HG1.out.2.2.2.lt⟩
    clear hb HG1
    have d1 : W2.cell? ⟨wr.heap.size, 1, none⟩ = some (.int .i64 r) := HG2.out.2.2.2.cell 1
    have c0 : W2.cell? ⟨w.heap.size, 0, none⟩ = some (.string c.issuer) := HG2.out.2.1.cell 0
    have c1 : W2.cell? ⟨w.heap.size, 1, none⟩ = some (.int .i64 c.num) := HG2.out.2.1.cell 1
    have c2 : W2.cell? ⟨w.heap.size, 2, none⟩ = some (.int .i64 c.ths) := HG2.out.2.1.cell 2
    have c3 : W2.cell? ⟨w.heap.size, 3, none⟩ = some (.int .i64 c.nxt) := HG2.out.2.1.cell 3
    have c4 : W2.cell? ⟨w.heap.size, 4, none⟩ = some (.int .i64 c.bas) := HG2.out.2.1.cell 4
    cases S with
    | false =>
      have HF : Hid (revsOk c.bas c.revs = false) := HX1.out (by rw [HREV.out]; rfl)
      clear HX1 HX3
      go_wp2_with fail
      go_ret
      exact ⟨by rw [HF.out]; rfl, HG2.out.1⟩
    | true =>
      go_wp2_with fail
      refine (EB.out W2).mono ?_
      rintro e W3 ⟨rfl, hb⟩
      have HG3 : Hid (Below w.heap.size w W3 ∧ Blk W3 w.heap.size 89 #[.string c.issuer, .int .i64 c.num, .int .i64 c.ths, .int .i64 c.nxt, .int .i64 c.bas, .slice (some ⟨g, 0, none⟩) lp pc] ∧ OwnI W3 (w.heap.size + 1) u3 (serials (c.revs.take k)) ∧ Blk W3 wr.heap.size 84 #[.int .i64 s, .int .i64 r]) := ⟨HG2.out.1.trans (hb.mono HG2.out.1.size), HG2.out.2.1.below hb HG2.out.2.1.lt, HG2.out.2.2.1.stays hb, HG2.out.2.2.2.below hb HG2.out.2.2.2.lt⟩
      clear hb HG2 d1 c0 c1 c2 c3 c4
      cases Q with
      | false =>
        have HF : Hid (revsOk c.bas c.revs = false) := HX1.out (by rw [HREV.out]; rfl)
        clear HX1 HX3
        go_wp2_with fail
        go_ret
        exact ⟨by rw [HF.out]; rfl, HG3.out.1⟩
      | true =>
        have HN : Hid (∀ j, j < k + 1 → revIn c.bas (c.revs.getD j (0, 0)) = true) := HX3.out (by rw [HREV.out]; rfl)
        clear HX1 HX3
        have d0 : W3.cell? ⟨wr.heap.size, 0, none⟩ = some (.int .i64 s) := HG3.out.2.2.2.cell 0
        obtain ⟨ao, cap, hsv, hpos, hcap, hcm⟩ := OwnI.shape HG3.out.2.2.1
        have hlk : (serials (c.revs.take k)).length = k := by rw [serials_len, List.length_take, HRV.out.1]; omega
        rw [hlk] at hsv
        subst hsv
        have hO3 : W3.ownsRow (w.heap.size + 1) 3 1 (.slice ao k cap) k (cellsI (serials (c.revs.take k))) := by have h := HG3.out.2.2.1; unfold OwnI at h; rwa [hlk] at h
        clear hpos hcap hcm
        obtain ⟨W4, hW4⟩ : ∃ V, V = W3.alloc (Obj.cells #[.int .i64 s] 3) := ⟨_, rfl⟩
        have hb4 : Below W3.heap.size W3 W4 := by rw [hW4]; exact (Below.refl _ _).alloc (Nat.le_refl _) _
        have H4 : Hid (W4.ownsRow (w.heap.size + 1) 3 1 (.slice ao k cap) k (cellsI (serials (c.revs.take k))) ∧ OwnI W4 W3.heap.size (.slice (some ⟨W3.heap.size, 0, none⟩) 1 1) [s] ∧ Blk W4 w.heap.size 89 #[.string c.issuer, .int .i64 c.num, .int .i64 c.ths, .int .i64 c.nxt, .int .i64 c.bas, .slice (some ⟨g, 0, none⟩) lp pc] ∧ Below w.heap.size w W4 ∧ w.heap.size + 1 ≤ W4.heap.size) := ⟨by rw [hW4]; exact hO3.alloc _, by rw [hW4]; exact World.ownsRow_lit W3 #[.int .i64 s] 1 (Nat.le_refl _) (by decide) rfl, HG3.out.2.1.below hb4 HG3.out.2.1.lt, HG3.out.1.trans (hb4.mono HG3.out.1.size), by have h1 := HWS.out; have h2 := hb4.size; have h3 := HG3.out.2.2.2.lt; omega⟩
        clear hb4 HG3 hO3
        go_wp2_with (at_builtin; rw [← hW4]; refine wpList_append_list rfl _ _ 22 rfl (w.heap.size + 1) i0 Try.underlying22 hi hz0 hz1 hz2 (.slice ao k cap) k (cellsI (serials (c.revs.take k))) rfl H4.out.1 _ [s] W3.heap.size H4.out.2.1 rfl (by simp only [List.length_singleton]; omega) H4.out.2.2.2.2 ?_)
        intro v9 w9 ho9 hg9
        rw [← hW4] at hg9
        have H9 : Hid ((∀ j, j < k + 1 → revIn c.bas (c.revs.getD j (0, 0)) = true) ∧ Below w.heap.size w w9 ∧ Blk w9 w.heap.size 89 #[.string c.issuer, .int .i64 c.num, .int .i64 c.ths, .int .i64 c.nxt, .int .i64 c.bas, .slice (some ⟨g, 0, none⟩) lp pc] ∧ OwnI w9 (w.heap.size + 1) v9 (serials (c.revs.take (k + 1)))) := by
          have hrl := fun b hb => (World.ownsRow.lt H4.out.1 b hb).1
          refine ⟨HN.out, H4.out.2.2.2.1.grown hg9 H4.out.2.2.2.1.size (fun b hb => by have := hrl b hb; omega), (hg9.block _ H4.out.2.2.1.lt (fun e => by have := hrl _ e.symm; omega)).trans H4.out.2.2.1, ?_⟩
          rw [HS.out]
          unfold OwnI
          rw [cellsI_append, List.length_append, hlk]
          exact ho9
        clear ho9 hg9 H4 hW4 d0
        go_wp2_with fail
        exact ⟨⟨k + 1, by omega, by go_num, H9⟩, by simp [intOf]; omega⟩
set_option maxHeartbeats 3200000 in
set_option maxRecDepth 100000 in
theorem tidRight_any (c : Cl) (pa : Option Addr) (pc : Nat) (w : World) (ha : RevAt w (.slice pa c.revs.length pc) c.revs) (hz : wtL c ≤ 1000000000) : Calls Try.prog 65 #[tdV c (.slice pa c.revs.length pc)] w fun e w' => e = .returned (.bool (headOk c && revsOk c.bas c.revs)) ∧ Below w.heap.size w w' := by
  obtain ⟨z1, z2, z3⟩ := wtL_parts hz
  obtain ⟨A, hA⟩ : ∃ b, headOk c = b := ⟨_, rfl⟩
  obtain ⟨B, hB⟩ : ∃ b, revsOk c.bas c.revs = b := ⟨_, rfl⟩
  obtain ⟨lp, hlp⟩ : ∃ l, c.revs.length = l := ⟨_, rfl⟩
  have E1 : Hid (∀ W, Calls Try.prog 105 #[.agg #[.string c.issuer, .int .i64 c.num, .int .i64 c.ths, .int .i64 c.nxt, .int .i64 c.bas]] W fun e w' => e = .returned (.bool A) ∧ Below W.heap.size W w') := fun W => by rw [← hA]; exact headRight_any c W z1
  have E2 : Hid (∀ W, Below w.heap.size w W → Calls Try.prog 106 #[.agg #[.string c.issuer, .int .i64 c.num, .int .i64 c.ths, .int .i64 c.nxt, .int .i64 c.bas, .slice pa lp pc]] W fun e w' => e = .returned (.bool B) ∧ Below W.heap.size W w') := fun W hb => by rw [← hB, ← hlp]; exact revsRight_any c pa pc W (ha.below hb) z2
  rw [hlp, hA, hB]
  clear hA hB hlp ha
  unfold tdV
  go_enter Try.func65, Try.ntmps65
  go_wp2_with fail
  obtain ⟨V, hV⟩ : ∃ V, V = w.alloc (Obj.cells #[.string c.issuer, .int .i64 c.num, .int .i64 c.ths, .int .i64 c.nxt, .int .i64 c.bas, .slice pa lp pc] 89) := ⟨_, rfl⟩
  rw [← hV]
  have G : Hid (Below w.heap.size w V ∧ Blk V w.heap.size 89 #[.string c.issuer, .int .i64 c.num, .int .i64 c.ths, .int .i64 c.nxt, .int .i64 c.bas, .slice pa lp pc]) := by rw [hV]; exact ⟨(Below.refl _ _).alloc (Nat.le_refl _) _, Blk.new w _ _⟩
  clear hV
  refine (E1.out V).mono ?_
  rintro e V1 ⟨rfl, hb⟩
  have G1 : Hid (Below w.heap.size w V1 ∧ Blk V1 w.heap.size 89 #[.string c.issuer, .int .i64 c.num, .int .i64 c.ths, .int .i64 c.nxt, .int .i64 c.bas, .slice pa lp pc]) := ⟨G.out.1.trans (hb.mono G.out.1.size), G.out.2.below hb G.out.2.lt⟩
  clear hb G
  cases A with
  | false =>
    go_wp2_with fail
    go_ret
    exact ⟨rfl, G1.out.1⟩
  | true =>
    have c0 : V1.cell? ⟨w.heap.size, 0, none⟩ = some (.string c.issuer) := G1.out.2.cell 0
    have c1 : V1.cell? ⟨w.heap.size, 1, none⟩ = some (.int .i64 c.num) := G1.out.2.cell 1
    have c2 : V1.cell? ⟨w.heap.size, 2, none⟩ = some (.int .i64 c.ths) := G1.out.2.cell 2
    have c3 : V1.cell? ⟨w.heap.size, 3, none⟩ = some (.int .i64 c.nxt) := G1.out.2.cell 3
    have c4 : V1.cell? ⟨w.heap.size, 4, none⟩ = some (.int .i64 c.bas) := G1.out.2.cell 4
    have c5 : V1.cell? ⟨w.heap.size, 5, none⟩ = some (.slice pa lp pc) := G1.out.2.cell 5
    go_wp2_with fail
    refine (E2.out V1 G1.out.1).mono ?_
    rintro e V2 ⟨rfl, hb⟩
    have G2 : Hid (Below w.heap.size w V2) := G1.out.1.trans (hb.mono G1.out.1.size)
    clear hb G1 c0 c1 c2 c3 c4 c5
    go_wp2_with fail
    go_ret
    exact ⟨by simp, G2.out⟩
set_option maxHeartbeats 3200000 in
set_option maxRecDepth 100000 in
theorem implCrlOk_any (c : Cl) (v : Value) (w : World) (hz : wtL c ≤ 1000000000) (ha : ClAt w v c) :
    Calls Try.prog 22 #[v] w fun e w' => e = .returned (.bool (crlOk c)) ∧ Below w.heap.size w w' := by
  obtain ⟨pv, rfl, h1⟩ := ha
  obtain ⟨pa, pc, hpa⟩ : ∃ pa pc, pv = .slice pa c.revs.length pc := by obtain ⟨a, b, h, _⟩ := h1; exact ⟨a, b, h⟩
  subst hpa
  obtain ⟨A, hA⟩ : ∃ b, (headOk c && revsOk c.bas c.revs) = b := ⟨_, rfl⟩
  have HC : Hid (crlOk c = (A && decide (c.sig.size = 15))) := by show crlOk c = _; unfold crlOk; rw [← hA, Bool.and_assoc]
  obtain ⟨lp, hlp⟩ : ∃ l, c.revs.length = l := ⟨_, rfl⟩
  have E1 : Hid (∀ W, Calls Try.prog 64 #[.agg #[.string c.issuer, .int .i64 c.num, .int .i64 c.ths, .int .i64 c.nxt, .int .i64 c.bas, .slice pa lp pc, .string c.sig]] W fun e w' => e = .returned (.agg #[.string c.issuer, .int .i64 c.num, .int .i64 c.ths, .int .i64 c.nxt, .int .i64 c.bas, .slice pa lp pc]) ∧ Below W.heap.size W w') := fun W => tidingsOf_any c (.slice pa lp pc) W ⟨_, _, _, rfl⟩
  have E2 : Hid (∀ W, Below w.heap.size w W → Calls Try.prog 65 #[.agg #[.string c.issuer, .int .i64 c.num, .int .i64 c.ths, .int .i64 c.nxt, .int .i64 c.bas, .slice pa lp pc]] W fun e w' => e = .returned (.bool A) ∧ Below W.heap.size W w') := fun W hb => by rw [← hA, ← hlp]; exact tidRight_any c pa pc W (h1.below hb) hz
  rw [hlp]
  clear hA hlp h1
  unfold clV
  go_enter Try.func22, Try.ntmps22
  go_wp2_with fail
  obtain ⟨V, hV⟩ : ∃ V, V = w.alloc (Obj.cells #[.string c.issuer, .int .i64 c.num, .int .i64 c.ths, .int .i64 c.nxt, .int .i64 c.bas, .slice pa lp pc, .string c.sig] 44) := ⟨_, rfl⟩
  rw [← hV]
  have G : Hid (Below w.heap.size w V ∧ Blk V w.heap.size 44 #[.string c.issuer, .int .i64 c.num, .int .i64 c.ths, .int .i64 c.nxt, .int .i64 c.bas, .slice pa lp pc, .string c.sig]) := by rw [hV]; exact ⟨(Below.refl _ _).alloc (Nat.le_refl _) _, Blk.new w _ _⟩
  clear hV
  refine (E1.out V).mono ?_
  rintro e V1 ⟨rfl, hb⟩
  have G1 : Hid (Below w.heap.size w V1 ∧ Blk V1 w.heap.size 44 #[.string c.issuer, .int .i64 c.num, .int .i64 c.ths, .int .i64 c.nxt, .int .i64 c.bas, .slice pa lp pc, .string c.sig]) := ⟨G.out.1.trans (hb.mono G.out.1.size), G.out.2.below hb G.out.2.lt⟩
  clear hb G
  go_wp2_with fail
  refine (E2.out V1 G1.out.1).mono ?_
  rintro e V2 ⟨rfl, hb⟩
  have G2 : Hid (Below w.heap.size w V2 ∧ Blk V2 w.heap.size 44 #[.string c.issuer, .int .i64 c.num, .int .i64 c.ths, .int .i64 c.nxt, .int .i64 c.bas, .slice pa lp pc, .string c.sig]) := ⟨G1.out.1.trans (hb.mono G1.out.1.size), G1.out.2.below hb G1.out.2.lt⟩
  clear hb G1
  have c6 : V2.cell? ⟨w.heap.size, 6, none⟩ = some (.string c.sig) := G2.out.2.cell 6
  cases A with
  | false =>
    go_wp2_with fail
    go_ret
    exact ⟨by rw [HC.out]; rfl, G2.out.1⟩
  | true =>
    by_cases s15 : c.sig.size = 15
    · have si : (c.sig.size : Int) = 15 := by omega
      have HN : Hid (decide (c.sig.size = 15) = true) := decide_eq_true s15
      go_wp2_with fail
      go_ret
      exact ⟨by rw [HC.out, HN.out]; simp, G2.out.1⟩
    · have si : ¬ (c.sig.size : Int) = 15 := by omega
      have HN : Hid (decide (c.sig.size = 15) = false) := decide_eq_false s15
      go_wp2_with fail
      go_ret
      exact ⟨by rw [HC.out, HN.out]; simp [si], G2.out.1⟩
end Go.Proofs.Ytajbalokcfghbaa

/-
  A row of items that a call makes, one behind the other.
-/
namespace Go.Proofs.Ytajbalokcfghbaa
open Go.RowKit Der
set_option linter.unusedVariables false

/-- The cells of items, with the values that lead to their kids. -/
def cellsK {n : Nat} (ks : List (It (n + 1))) (kvs : List Value) : List Value := (ks.zip kvs).flatMap fun p => [.int .i64 (It.tag p.1), .string ⟨(It.text p.1).toArray⟩, p.2]
theorem cellsK_snoc {n : Nat} {ks : List (It (n + 1))} {kvs : List Value} (h : ks.length = kvs.length) (x : It (n + 1)) (k : Value) : cellsK (ks ++ [x]) (kvs ++ [k]) = cellsK ks kvs ++ [.int .i64 (It.tag x), .string ⟨(It.text x).toArray⟩, k] := by
  unfold cellsK
  rw [List.zip_append h, List.flatMap_append]
  rfl
theorem cellsK_len {n : Nat} : ∀ {ks : List (It (n + 1))} {kvs : List Value}, ks.length = kvs.length → (cellsK ks kvs).length = ks.length * 3
  | [], [], _ => rfl
  | [], _ :: _, h => by simp at h
  | _ :: _, [], h => by simp at h
  | x :: ks, k :: kvs, h => by
    have ih := cellsK_len (ks := ks) (kvs := kvs) (by simpa using h)
    unfold cellsK at ih ⊢
    rw [List.zip_cons_cons, List.flatMap_cons, List.length_append, ih]
    simp
    omega
theorem cellsK_at {n : Nat} : ∀ {ks : List (It (n + 1))} {kvs : List Value} (h : ks.length = kvs.length) (j : Nat) (hj : j < ks.length), (cellsK ks kvs)[j * 3]? = some (.int .i64 (It.tag ks[j])) ∧ (cellsK ks kvs)[j * 3 + 1]? = some (.string ⟨(It.text ks[j]).toArray⟩) ∧ (cellsK ks kvs)[j * 3 + 2]? = some (kvs[j]'(by omega))
  | [], _, _, _, hj => by simp at hj
  | _ :: _, [], h, _, _ => by simp at h
  | x :: ks, k :: kvs, h, 0, hj => by
    unfold cellsK
    rw [List.zip_cons_cons, List.flatMap_cons]
    exact ⟨rfl, rfl, rfl⟩
  | x :: ks, k :: kvs, h, j + 1, hj => by
    have ih := cellsK_at (ks := ks) (kvs := kvs) (by simpa using h) j (by simpa using hj)
    have e : cellsK (x :: ks) (k :: kvs) = .int .i64 (It.tag x) :: .string ⟨(It.text x).toArray⟩ :: k :: cellsK ks kvs := by
      unfold cellsK
      rw [List.zip_cons_cons, List.flatMap_cons]
      rfl
    rw [e, show (j + 1) * 3 = j * 3 + 3 by omega]
    exact ih
/-- A row of items that the call makes: its own row, and its kids' in blocks of their own. -/
def GrowK (w : World) (base n : Nat) (v : Value) (ks : List (It (n + 1))) : Prop := ∃ (kvs : List Value) (fps : List (List Nat)), ks.length = kvs.length ∧ ks.length = fps.length ∧ w.ownsRow base 60 3 v ks.length (cellsK ks kvs) ∧ fps.flatten.Nodup ∧ (∀ g, v.ownBlock = some g → g ∉ fps.flatten) ∧
  ∀ j (h1 : j < ks.length) (h2 : j < kvs.length) (h3 : j < fps.length), OwnK w base n kvs[j] (It.kids ks[j]) fps[j]
theorem GrowK.nil (w : World) (base n : Nat) : GrowK w base n (.slice none 0 0) [] := ⟨[], [], rfl, rfl, World.ownsRow_nil _ _ _ _, by simp, fun g hg => by simp [Value.ownBlock] at hg, fun j h => absurd h (Nat.not_lt_zero _)⟩
theorem GrowK.made (w : World) (base n : Nat) (hb : base ≤ w.heap.size) : GrowK (w.alloc (.cells #[] 60)) base n (.slice (some ⟨w.heap.size, 0, none⟩) 0 0) [] :=
  ⟨[], [], rfl, rfl, World.ownsRow_made w #[] 0 hb (Nat.zero_le _) rfl, by simp, fun g _ => by simp, fun j h => absurd h (Nat.not_lt_zero _)⟩
theorem GrowK.shape {w : World} {base n : Nat} {v : Value} {ks : List (It (n + 1))} (h : GrowK w base n v ks) : ∃ ao cap, v = .slice ao ks.length cap := by
  obtain ⟨kvs, fps, h1, h2, ho, _⟩ := h
  rcases ho.2 with ⟨h, h0⟩ | ⟨g, cap, cur, hv, _⟩
  · exact ⟨none, 0, by rw [h, h0]⟩
  · exact ⟨_, cap, hv⟩
theorem GrowK.lt {w : World} {base n : Nat} {v : Value} {ks : List (It (n + 1))} (h : GrowK w base n v ks) : ∀ g, v.ownBlock = some g → base ≤ g ∧ g < w.heap.size := by
  obtain ⟨kvs, fps, h1, h2, ho, _⟩ := h
  exact ho.lt
theorem own_kept {w w' : World} {base : Nat} {e : TypeId} {size : Nat} {v : Value} {n : Nat} {xs : List Value} (h : w.ownsRow base e size v n xs) (hb : Below w.heap.size w w') : w'.ownsRow base e size v n xs :=
  h.kept ⟨hb.os, hb.tape, hb.output, hb.size, fun k hk _ => hb.block k hk⟩ (row := none) (by cases hv : v.ownBlock <;> simp)
theorem GrowK.below {w w' : World} {base n : Nat} {v : Value} {ks : List (It (n + 1))} (h : GrowK w base n v ks) (hb : Below w.heap.size w w') : GrowK w' base n v ks := by
  obtain ⟨kvs, fps, h1, h2, ho, h3, h4, h5⟩ := h
  refine ⟨kvs, fps, h1, h2, own_kept ho hb, h3, h4, fun j a b c => ?_⟩
  have := h5 j a b c
  exact this.below hb fun x hx => (OwnK.lt this x hx).2
/-- What was made is owned. -/
theorem GrowK.own {w : World} {base n : Nat} {v : Value} {ks : List (It (n + 1))} (h : GrowK w base n v ks) : ∃ fp, OwnK w base (n + 1) v ks fp := by
  obtain ⟨kvs, fps, h1, h2, ho, h3, h4, h5⟩ := h
  rcases ho.2 with ⟨hv, h0⟩ | ⟨g, cap, cur, hv, hbg, hg, hnc, hcm, hcs, htk⟩
  · exact ⟨[], none, 0, by rw [hv, h0], fun _ => rfl, fun hp => by omega⟩
  · by_cases hp : 0 < ks.length
    · refine ⟨g :: fps.flatten, some ⟨g, 0, none⟩, cap, hv, fun h => by omega, fun _ => ⟨g, 0, cap * 3, fun j => cur.getD j (.int .i64 0), fps, rfl, hbg, rowV_of hg hcs, by omega, rfl, ?_, h2.symm, fun j hj hj2 => ?_⟩⟩
      · rw [List.nodup_cons]
        exact ⟨h4 g (by rw [hv]; rfl), h3⟩
      · obtain ⟨c0, c1, c2⟩ := cellsK_at h1 j hj
        have hcell : ∀ q u, (cellsK ks kvs)[q]? = some u → cur.getD q (.int .i64 0) = u := fun q u hq => by
          rw [← htk, List.getElem?_take] at hq
          split at hq
          · rw [Array.getElem?_toList] at hq
            simp [Array.getD_eq_getD_getElem?, hq]
          · cases hq
        show cur.getD (0 + j * 3) _ = _ ∧ cur.getD (0 + j * 3 + 1) _ = _ ∧ OwnK w base n (cur.getD (0 + j * 3 + 2) _) _ _
        rw [Nat.zero_add, hcell _ _ c0, hcell _ _ c1, hcell _ _ c2]
        exact ⟨rfl, rfl, h5 j hj (by omega) hj2⟩
    · exact ⟨[], some ⟨g, 0, none⟩, cap, hv, fun _ => rfl, fun h => absurd h hp⟩
theorem news_three (w : World) (a b c : Value) (t : TypeId) : ∀ j u, [a, b, c][j]? = some u → (w.alloc (.cells #[a, b, c] t)).cell? ((⟨w.heap.size, 0, none⟩ : Addr).add j) = some u := by
  intro j u hj
  rw [Addr.add_lit, Nat.zero_add, World.cell?_alloc_mark w _ t _ j]
  simpa using hj
theorem nodup_app {a b : List Nat} (ha : a.Nodup) (hb : b.Nodup) (hd : ∀ x ∈ a, x ∉ b) : (a ++ b).Nodup := List.nodup_append.2 ⟨ha, hb, fun x hx y hy e => hd x hx (e ▸ hy)⟩
/-- One item more: its kids were made behind the row. -/
theorem GrowK.snoc {wr w W w' : World} {base n g cap : Nat} {v : Value} {ks : List (It (n + 1))} {x : It (n + 1)} {kv : Value} {fp : List Nat} {kvs : List Value} {fps : List (List Nat)} (h1 : ks.length = kvs.length) (h2 : ks.length = fps.length) (hro : wr.ownsRow base 60 3 v ks.length (cellsK ks kvs)) (h3 : fps.flatten.Nodup) (h4 : ∀ g, v.ownBlock = some g → g ∉ fps.flatten)
    (h5 : ∀ j (h1 : j < ks.length) (h2 : j < kvs.length) (h3 : j < fps.length), OwnK wr base n kvs[j] (It.kids ks[j]) fps[j]) (hb : Below wr.heap.size wr w) (hbase : base ≤ wr.heap.size) (ho : OwnK w wr.heap.size n kv (It.kids x) fp) (hW : Below w.heap.size w W)
    (hown : w'.ownsRow base 60 3 (.slice (some ⟨g, 0, none⟩) (ks.length + 1) cap) (ks.length + 1) (cellsK ks kvs ++ [.int .i64 (It.tag x), .string ⟨(It.text x).toArray⟩, kv])) (hgrow : W.grownBy w' v.ownBlock) (hg : v.ownBlock = some g ∨ w.heap.size ≤ g) :
    GrowK w' base n (.slice (some ⟨g, 0, none⟩) (ks.length + 1) cap) (ks ++ [x]) := by
  have old : ∀ y ∈ fps.flatten, y < wr.heap.size := fun y hy => by
    obtain ⟨q, hq, hyq⟩ := List.mem_flatten.1 hy
    obtain ⟨j, hj, rfl⟩ := List.getElem_of_mem hq
    exact (OwnK.lt (h5 j (by omega) (by omega) hj) y hyq).2
  have new : ∀ y ∈ fp, wr.heap.size ≤ y ∧ y < w.heap.size := OwnK.lt ho
  have s1 := hb.size
  have s2 := hW.size
  refine ⟨kvs ++ [kv], fps ++ [fp], by simp [h1], by simp [h2], ?_, ?_, ?_, ?_⟩
  · rw [cellsK_snoc h1, List.length_append, List.length_singleton]
    exact hown
  · rw [List.flatten_append, List.flatten_singleton]
    refine nodup_app h3 (OwnK.nodup ho) fun y hy hy2 => ?_
    have a := old y hy
    have b := (new y hy2).1
    omega
  · intro q hq hm
    obtain rfl : g = q := by simpa [Value.ownBlock] using hq
    rw [List.flatten_append, List.flatten_singleton, List.mem_append] at hm
    rcases hg with hg | hg
    · rcases hm with hm | hm
      · exact h4 g hg hm
      · have a := (hro.lt g hg).2
        have b := (new g hm).1
        omega
    · rcases hm with hm | hm
      · have := old g hm; omega
      · have := (new g hm).2; omega
  · intro j a b c
    by_cases hj : j < ks.length
    · have e1 : (ks ++ [x])[j] = ks[j] := List.getElem_append_left hj
      have e2 : (kvs ++ [kv])[j] = kvs[j]'(by omega) := List.getElem_append_left (by omega)
      have e3 : (fps ++ [fp])[j] = fps[j]'(by omega) := List.getElem_append_left (by omega)
      rw [e1, e2, e3]
      refine (h5 j hj (by omega) (by omega)).same fun y hy => ?_
      have hy2 : y ∈ fps.flatten := List.mem_flatten.2 ⟨_, List.getElem_mem (by omega), hy⟩
      have hlt := old y hy2
      rw [hgrow.block y (by omega) (fun e => h4 y e.symm hy2), hW.block y (by omega), hb.block y hlt]
    · have hj2 : j = ks.length := by simp at a; omega
      subst hj2
      have e1 : (ks ++ [x])[ks.length] = x := by simp
      have e2 : (kvs ++ [kv])[ks.length] = kv := by simp [h1]
      have e3 : (fps ++ [fp])[ks.length] = fp := by simp [h2]
      rw [e1, e2, e3]
      refine (OwnK.base hbase ho).same fun y hy => ?_
      have hlt := new y hy
      rw [hgrow.block y (by omega) (fun e => by have := (hro.lt y e.symm).2; omega), hW.block y hlt.2]
theorem wpList_append_item {wr w : World} {ops : Array Oper} {rest : List Oper} {o : Oper} {a : Act} {Q : Exit → Act → World → Prop} (hgd : o.guard = none) (p q : Operand) (ho : o.op = .call { callee := .builtin .append, args := #[p, q], argTypes := #[58, 58] })
    (base n : Nat) (v : Value) (ks : List (It (n + 1))) (x : It (n + 1)) (t : Int) (s : ByteArray) (kv : Value) (fp : List Nat) (ht : It.tag x = t) (hs : (⟨(It.text x).toArray⟩ : ByteArray) = s) (hp : a.eval p = v) (H : Nat) (hq : a.eval q = .slice (some ⟨H, 0, none⟩) 1 1) (hH : w.heap.size = H) (hG : GrowK wr base n v ks) (hb : Below wr.heap.size wr w) (hk : OwnK w wr.heap.size n kv (It.kids x) fp) (hbase : base ≤ wr.heap.size) (hl : ks.length ≤ 1000000000)
    (h : ∀ g cap w', GrowK w' base n (.slice (some ⟨g, 0, none⟩) (ks.length + 1) cap) (ks ++ [x]) → (w.alloc (.cells #[.int .i64 t, .string s, kv] 60)).grownBy w' v.ownBlock → wpList Try.prog ops Q rest (a.put o.dst (.slice (some ⟨g, 0, none⟩) (ks.length + 1) cap)) w') :
    wpList Try.prog ops Q (o :: rest) a (w.alloc (.cells #[.int .i64 t, .string s, kv] 60)) := by
  subst ht hs hH
  obtain ⟨kvs, fps, h1, h2, hro, h3, h4, h5⟩ := hG
  obtain ⟨i0, hi, hz0, hz1, hz2⟩ := infoItem_parts
  obtain ⟨ao, cap, hkv⟩ := hk.shape
  have hb1 : Below w.heap.size w (w.alloc (.cells #[.int .i64 (It.tag x), .string ⟨(It.text x).toArray⟩, kv] 60)) := (Below.refl _ _).alloc (Nat.le_refl _) _
  have hbw := hb.trans (hb1.mono hb.size)
  refine wpList_append_lies _ hgd p q 58 ho base 60 i0 (.agg #[.int .i64 0, .string ⟨#[]⟩, .slice none 0 0]) 3 48 Try.underlying58 hi hz0 hz1 hz2 rfl (by decide) v ks.length (cellsK ks kvs) hp (own_kept hro hbw)
    ⟨w.heap.size, 0, none⟩ 1 1 [.int .i64 (It.tag x), .string ⟨(It.text x).toArray⟩, kv] hq rfl (news_three w _ _ _ _) (by
      intro u hu
      simp only [List.mem_cons, List.not_mem_nil, or_false] at hu
      rcases hu with rfl | rfl | rfl
      · rfl
      · rfl
      · rw [hkv]; rfl) (by decide) (by unfold maxLen; omega) (by omega) (Nat.le_trans hbase hbw.size) _ rfl ?_
  intro g cap w' hown hgrow hg _
  refine h g cap w' (GrowK.snoc h1 h2 hro h3 h4 h5 hb hbase hk hb1 hown hgrow ?_) hgrow
  rcases hg with hg | hg
  · exact .inl hg
  · exact .inr (by rw [hg]; exact hb1.size)
theorem step_append_item {wr w : World} {ops : Array Oper} {o : Oper} {a : Act} {K : Act → World → Prop} {Q : Exit → Act → World → Prop} {E : Prop} (hgd : o.guard = none) (p q : Operand) (ho : o.op = .call { callee := .builtin .append, args := #[p, q], argTypes := #[58, 58] })
    (base n : Nat) (v : Value) (ks : List (It (n + 1))) (x : It (n + 1)) (t : Int) (s : ByteArray) (kv : Value) (fp : List Nat) (ht : It.tag x = t) (hs : (⟨(It.text x).toArray⟩ : ByteArray) = s) (hp : a.eval p = v) (H : Nat) (hq : a.eval q = .slice (some ⟨H, 0, none⟩) 1 1) (hH : w.heap.size = H) (hG : GrowK wr base n v ks) (hb : Below wr.heap.size wr w) (hk : OwnK w wr.heap.size n kv (It.kids x) fp) (hbase : base ≤ wr.heap.size) (hl : ks.length ≤ 1000000000)
    (h : ∀ g cap w', GrowK w' base n (.slice (some ⟨g, 0, none⟩) (ks.length + 1) cap) (ks ++ [x]) → (w.alloc (.cells #[.int .i64 t, .string s, kv] 60)).drew.grownBy w' v.ownBlock → K (a.put o.dst (.slice (some ⟨g, 0, none⟩) (ks.length + 1) cap)) w') :
    if Region.wanted o (yielded ops a.tmps) = true then Oper.wp Try.prog o a ((w.alloc (.cells #[.int .i64 t, .string s, kv] 60)).drew) K Q else E := by
  subst ht hs hH
  obtain ⟨kvs, fps, h1, h2, hro, h3, h4, h5⟩ := hG
  obtain ⟨i0, hi, hz0, hz1, hz2⟩ := infoItem_parts
  obtain ⟨ao, cap, hkv⟩ := hk.shape
  have hb1 : Below w.heap.size w ((w.alloc (.cells #[.int .i64 (It.tag x), .string ⟨(It.text x).toArray⟩, kv] 60)).drew) := ((Below.refl _ _).alloc (Nat.le_refl _) _).drew
  have hbw := hb.trans (hb1.mono hb.size)
  refine step_append_lies _ hgd p q 58 ho base 60 i0 (.agg #[.int .i64 0, .string ⟨#[]⟩, .slice none 0 0]) 3 48 Try.underlying58 hi hz0 hz1 hz2 rfl (by decide) v ks.length (cellsK ks kvs) hp (own_kept hro hbw)
    ⟨w.heap.size, 0, none⟩ 1 1 [.int .i64 (It.tag x), .string ⟨(It.text x).toArray⟩, kv] hq rfl (news_three w _ _ _ _) (by
      intro u hu
      simp only [List.mem_cons, List.not_mem_nil, or_false] at hu
      rcases hu with rfl | rfl | rfl
      · rfl
      · rfl
      · rw [hkv]; rfl) (by decide) (by unfold maxLen; omega) (by omega) (Nat.le_trans hbase hbw.size) _ rfl ?_
  intro g cap w' hown hgrow hg _
  refine h g cap w' (GrowK.snoc h1 h2 hro h3 h4 h5 hb hbase hk hb1 hown hgrow ?_) hgrow
  rcases hg with hg | hg
  · exact .inl hg
  · exact .inr (by rw [hg]; exact hb1.size)
theorem step_append_item0 {wr w : World} {ops : Array Oper} {o : Oper} {a : Act} {K : Act → World → Prop} {Q : Exit → Act → World → Prop} {E : Prop} (hgd : o.guard = none) (p q : Operand) (ho : o.op = .call { callee := .builtin .append, args := #[p, q], argTypes := #[58, 58] })
    (base n : Nat) (v : Value) (ks : List (It (n + 1))) (x : It (n + 1)) (t : Int) (s : ByteArray) (kv : Value) (fp : List Nat) (ht : It.tag x = t) (hs : (⟨(It.text x).toArray⟩ : ByteArray) = s) (hp : a.eval p = v) (H : Nat) (hq : a.eval q = .slice (some ⟨H, 0, none⟩) 1 1) (hH : w.heap.size = H) (hG : GrowK wr base n v ks) (hb : Below wr.heap.size wr w) (hk : OwnK w wr.heap.size n kv (It.kids x) fp) (hbase : base ≤ wr.heap.size) (hl : ks.length ≤ 1000000000)
    (h : ∀ g cap w', GrowK w' base n (.slice (some ⟨g, 0, none⟩) (ks.length + 1) cap) (ks ++ [x]) → (w.alloc (.cells #[.int .i64 t, .string s, kv] 60)).grownBy w' v.ownBlock → K (a.put o.dst (.slice (some ⟨g, 0, none⟩) (ks.length + 1) cap)) w') :
    if Region.wanted o (yielded ops a.tmps) = true then Oper.wp Try.prog o a (w.alloc (.cells #[.int .i64 t, .string s, kv] 60)) K Q else E := by
  subst ht hs hH
  obtain ⟨kvs, fps, h1, h2, hro, h3, h4, h5⟩ := hG
  obtain ⟨i0, hi, hz0, hz1, hz2⟩ := infoItem_parts
  obtain ⟨ao, cap, hkv⟩ := hk.shape
  have hb1 : Below w.heap.size w (w.alloc (.cells #[.int .i64 (It.tag x), .string ⟨(It.text x).toArray⟩, kv] 60)) := (Below.refl _ _).alloc (Nat.le_refl _) _
  have hbw := hb.trans (hb1.mono hb.size)
  refine step_append_lies _ hgd p q 58 ho base 60 i0 (.agg #[.int .i64 0, .string ⟨#[]⟩, .slice none 0 0]) 3 48 Try.underlying58 hi hz0 hz1 hz2 rfl (by decide) v ks.length (cellsK ks kvs) hp (own_kept hro hbw)
    ⟨w.heap.size, 0, none⟩ 1 1 [.int .i64 (It.tag x), .string ⟨(It.text x).toArray⟩, kv] hq rfl (news_three w _ _ _ _) (by
      intro u hu
      simp only [List.mem_cons, List.not_mem_nil, or_false] at hu
      rcases hu with rfl | rfl | rfl
      · rfl
      · rfl
      · rw [hkv]; rfl) (by decide) (by unfold maxLen; omega) (by omega) (Nat.le_trans hbase hbw.size) _ rfl ?_
  intro g cap w' hown hgrow hg _
  refine h g cap w' (GrowK.snoc h1 h2 hro h3 h4 h5 hb hbase hk hb1 hown hgrow ?_) hgrow
  rcases hg with hg | hg
  · exact .inl hg
  · exact .inr (by rw [hg]; exact hb1.size)
/-- A call of a Go function, as one step of a region that draws, where a law is handed in (go_region_law). -/
theorem step_call {P : Program} {ops : Array Oper} {o : Oper} {a : Act} {w : World} {K : Act → World → Prop} {Q : Exit → Act → World → Prop} {E : Prop} (hgd : o.guard = none) (f : Nat) (xs : Array Operand) (tys : Array TypeId) (hop : o.op = .call { callee := .value (.func f), args := xs, argTypes := tys })
    (vs : Array Value) (hv0 : xs.toList.map a.eval = vs.toList) (hr : (callFunc f vs).run P w = .ok (.enter f vs) w)
    (h : Calls P f vs w fun | .returned v, w'' => K (a.put o.dst v) w'' | .panicked chain, w'' => Q (.panic chain) a w'' | .outgrown, _ => LetsOut Q) :
    if Region.wanted o (yielded ops a.tmps) = true then Oper.wp P o a w K Q else E := by
  have hw : Region.wanted o (yielded ops a.tmps) = true := by simp [Region.wanted, hgd]
  rw [if_pos hw]
  have hv : xs.map a.eval = vs := Array.ext' (by rw [Array.toList_map]; exact hv0)
  have e : (execOp a.eval o).run P w = .ok (.enter f vs) w := by
    simp [execOp, hop, resolve, invoke, Deferred.ofValue, Act.eval, hv, hr]
  unfold Oper.wp
  rw [e]
  exact h
end Go.Proofs.Ytajbalokcfghbaa
