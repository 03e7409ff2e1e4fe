/-
  Texts of the proof, one behind the other: ClG, CrQ.
-/
import Derived.Test.YtajbalokcfghbaaM5
import Derived.Test.YtajbalokcfghbaaM14
import Derived.Test.YtajbalokcfghbaaM16

/-
  A list that came in, opened.
-/
namespace Go.Proofs.Ytajbalokcfghbaa
open Go.RowKit Go.ChangeShapes
set_option linter.unusedVariables false

theorem cellsCrl : Try.prog.cellsOf 39 = 7 := by kernel_rfl
theorem cellsRev : Try.prog.cellsOf 120 = 2 := by kernel_rfl
theorem cR : Try.prog.cellsOf 37 = 1 := by kernel_rfl
set_option maxRecDepth 100000 in
theorem rev_of_trod {H : Type} {enc : TypeId × Value → H} {W : World} {fuel : Nat} {cs : List Value} {x : DataW H × List MemPlace} (h : DataW.trod enc Try.prog W 0 (fun _ => true) true fuel 120 cs = some x) :
    ∃ s r : Int, cs = [.int .i64 s, .int .i64 r] ∧ (-9223372036854775808 ≤ s ∧ s ≤ 9223372036854775807) ∧ (-9223372036854775808 ≤ r ∧ r ≤ 9223372036854775807) := by
  obtain ⟨xs, m, rfl, hx, hl, hxl, hall⟩ := DataW.trod_struct Try.underlying120 h
  rw [cellsRev] at hl
  obtain ⟨x0, x1, rfl⟩ : ∃ x0 x1, xs = [x0, x1] := by
    match xs, hxl with
    | [x0, x1], _ => exact ⟨x0, x1, rfl⟩
  have f0 := hall 0 _ rfl
  change DataW.trod _ _ _ _ _ _ _ 3 ((cs.drop 0).take (Try.prog.cellsOf 3)) = some x0 at f0
  rw [cI] at f0
  obtain ⟨v0, h0, _, w0⟩ := DataW.trod_int Try.underlying3 f0
  have g0 := take_one h0
  have f1 := hall 1 _ rfl
  change DataW.trod _ _ _ _ _ _ _ 3 ((cs.drop 1).take (Try.prog.cellsOf 3)) = some x1 at f1
  rw [cI] at f1
  obtain ⟨v1, h1, _, w1⟩ := DataW.trod_int Try.underlying3 f1
  have g1 := take_one h1
  refine ⟨v0, v1, ?_, ?_, ?_⟩
  · match cs, hl with
    | [y0, y1], _ =>
      simp at g0 g1
      rw [g0, g1]
  · simp [Lit.wf, IntKind.min, IntKind.max, IntKind.signed, IntKind.bits] at w0
    omega
  · simp [Lit.wf, IntKind.min, IntKind.max, IntKind.signed, IntKind.bits] at w1
    omega
theorem pickR {n : Nat} {P : Nat → Int × Int → Prop} (h : ∀ j, j < n → ∃ y, P j y) : ∃ l : List (Int × Int), l.length = n ∧ ∀ j, j < n → P j (l.getD j (0, 0)) := by
  induction n with
  | zero => exact ⟨[], rfl, fun j hj => absurd hj (Nat.not_lt_zero _)⟩
  | succ n ih =>
    obtain ⟨l, hl, hP⟩ := ih fun j hj => h j (by omega)
    obtain ⟨y, hy⟩ := h n (by omega)
    refine ⟨l ++ [y], by simp [hl], fun j hj => ?_⟩
    by_cases e : j < n
    · have := hP j e
      simpa [List.getD, List.getElem?_append_left (show j < l.length by omega)] using this
    · have e2 : j = n := by omega
      subst e2
      simpa [List.getD, ← hl] using hy
theorem revs_in {H : Type} {enc : TypeId × Value → H} {W : World} {fuel : Nat} {cs : List Value} {x : DataW H × List MemPlace} (h : DataW.trod enc Try.prog W 0 (fun _ => true) true fuel 37 cs = some x) :
    ∃ ao cap, ∃ l : List (Int × Int), cs = [.slice ao l.length cap] ∧ l.length ≤ maxLen ∧ WdR l ∧ ArgR W.heap.size W ao l := by
  rcases DataW.trod_slice Try.underlying37 h with ⟨h0, _⟩ | ⟨a, len, cap, elems, rest, q, hq, hc, _, hb, hlc, hcm, hel, helem, _, _⟩
  · exact ⟨none, 0, [], h0, Nat.zero_le _, fun x hx => by simp at hx, fun j hj => by simp at hj⟩
  · have each : ∀ j, j < len → ∃ y : Int × Int, (W.cell? (a.add (j * 2)) = some (.int .i64 y.1) ∧ W.cell? (a.add (j * 2 + 1)) = some (.int .i64 y.2)) ∧ (-9223372036854775808 ≤ y.1 ∧ y.1 ≤ 9223372036854775807) ∧ (-9223372036854775808 ≤ y.2 ∧ y.2 ≤ 9223372036854775807) := by
      intro j hj
      have he := helem j hj
      rw [cellsRev] at he
      obtain ⟨z, hz⟩ : ∃ z, elems[j]? = some z := ⟨elems[j]'(by omega), by simp [show j < elems.length by omega]⟩
      rw [hz, Option.bind_eq_some_iff] at he
      obtain ⟨cs2, hcs2, htr⟩ := he
      obtain ⟨s, r, hcs3, hs, hr⟩ := rev_of_trod htr
      have hsome := World.cells?_some hcs2
      subst hcs3
      refine ⟨(s, r), ⟨?_, ?_⟩, hs, hr⟩
      · have := hsome.2.2 0 (by omega)
        rw [Addr.add_add] at this
        simpa using this
      · have := hsome.2.2 1 (by omega)
        rw [Addr.add_add] at this
        simpa using this
    obtain ⟨l, hl, hP⟩ := pickR each
    refine ⟨some a, cap, l, by rw [hl]; exact hc, by rw [hl]; exact Nat.le_trans hlc hcm, fun y hy => ?_, fun j hj => ?_⟩
    · obtain ⟨j, hj, rfl⟩ := List.getElem_of_mem hy
      have := (hP j (by omega)).2
      simpa [List.getD, hj] using this
    · obtain ⟨⟨c1, c2⟩, _⟩ := hP j (by omega)
      obtain ⟨⟨c0, _⟩, _⟩ := hP 0 (by omega)
      obtain ⟨b, off, spot⟩ := a
      have hspot : spot = none := by simpa [Addr.add] using World.cell?_spot c0
      subst hspot
      rw [Addr.add_lit] at c1 c2
      exact ⟨b, off, rfl, lt_of_cell c1, c1, c2⟩
set_option maxRecDepth 100000 in
/-- What reads as a list is one. -/
theorem crl_of_trod {H : Type} {enc : TypeId × Value → H} {W : World} {fuel : Nat} {cs : List Value} {x : DataW H × List MemPlace} (h : DataW.trod enc Try.prog W 0 (fun _ => true) true fuel 39 cs = some x) :
    ∃ (c : Cl) (p : Value), Value.agg cs.toArray = clV c p ∧ ArgL W.heap.size W (clV c p) c ∧ WdL c := by
  obtain ⟨xs, m, rfl, hx, hl, hxl, hall⟩ := DataW.trod_struct Try.underlying39 h
  rw [cellsCrl] at hl
  obtain ⟨x0, x1, x2, x3, x4, x5, x6, rfl⟩ : ∃ x0 x1 x2 x3 x4 x5 x6, xs = [x0, x1, x2, x3, x4, x5, x6] := by
    match xs, hxl with
    | [x0, x1, x2, x3, x4, x5, x6], _ => exact ⟨x0, x1, x2, x3, x4, x5, x6, rfl⟩
  have f0 := hall 0 _ rfl
  change DataW.trod _ _ _ _ _ _ _ 9 ((cs.drop 0).take (Try.prog.cellsOf 9)) = some x0 at f0
  rw [cS] at f0
  obtain ⟨v0, h0, _, w0⟩ := DataW.trod_string Try.underlying9 f0
  have g0 := take_one h0
  clear f0 h0
  have f1 := hall 1 _ rfl
  change DataW.trod _ _ _ _ _ _ _ 3 ((cs.drop 1).take (Try.prog.cellsOf 3)) = some x1 at f1
  rw [cI] at f1
  obtain ⟨v1, h1, _, w1⟩ := DataW.trod_int Try.underlying3 f1
  have g1 := take_one h1
  clear f1 h1
  have f2 := hall 2 _ rfl
  change DataW.trod _ _ _ _ _ _ _ 3 ((cs.drop 2).take (Try.prog.cellsOf 3)) = some x2 at f2
  rw [cI] at f2
  obtain ⟨v2, h2, _, w2⟩ := DataW.trod_int Try.underlying3 f2
  have g2 := take_one h2
  clear f2 h2
  have f3 := hall 3 _ rfl
  change DataW.trod _ _ _ _ _ _ _ 3 ((cs.drop 3).take (Try.prog.cellsOf 3)) = some x3 at f3
  rw [cI] at f3
  obtain ⟨v3, h3, _, w3⟩ := DataW.trod_int Try.underlying3 f3
  have g3 := take_one h3
  clear f3 h3
  have f4 := hall 4 _ rfl
  change DataW.trod _ _ _ _ _ _ _ 3 ((cs.drop 4).take (Try.prog.cellsOf 3)) = some x4 at f4
  rw [cI] at f4
  obtain ⟨v4, h4, _, w4⟩ := DataW.trod_int Try.underlying3 f4
  have g4 := take_one h4
  clear f4 h4
  have f5 := hall 5 _ rfl
  change DataW.trod _ _ _ _ _ _ _ 37 ((cs.drop 5).take (Try.prog.cellsOf 37)) = some x5 at f5
  rw [cR] at f5
  obtain ⟨a5, p5, v5, h5, m5, w5, r5⟩ := revs_in f5
  have g5 := take_one h5
  clear f5 h5
  have f6 := hall 6 _ rfl
  change DataW.trod _ _ _ _ _ _ _ 9 ((cs.drop 6).take (Try.prog.cellsOf 9)) = some x6 at f6
  rw [cS] at f6
  obtain ⟨v6, h6, _, w6⟩ := DataW.trod_string Try.underlying9 f6
  have g6 := take_one h6
  clear f6 h6
  have hcs : cs = [.string v0, .int .i64 v1, .int .i64 v2, .int .i64 v3, .int .i64 v4, .slice a5 v5.length p5, .string v6] := by
    match cs, hl with
    | [y0, y1, y2, y3, y4, y5, y6], _ =>
      simp at g0 g1 g2 g3 g4 g5 g6
      rw [g0, g1, g2, g3, g4, g5, g6]
  refine ⟨⟨v0, v1, v2, v3, v4, v5, v6⟩, .slice a5 v5.length p5, by rw [hcs]; rfl, ⟨a5, p5, rfl, r5⟩, ?_⟩
  unfold maxLen at m5 w0 w6
  refine ⟨fun y hy => ?_, w5, fun s hs => ?_, m5⟩
  · simp only [List.mem_cons, List.not_mem_nil, or_false] at hy
    simp [Lit.wf, IntKind.min, IntKind.max, IntKind.signed, IntKind.bits] at w1 w2 w3 w4
    rcases hy with rfl | rfl | rfl | rfl <;> omega
  · simp only [List.mem_cons, List.not_mem_nil, or_false] at hs
    rcases hs with rfl | rfl <;> assumption
end Go.Proofs.Ytajbalokcfghbaa

/-
  The program's upTo and CertOk.
-/
namespace Go.Proofs.Ytajbalokcfghbaa
open Go.RowKit
set_option linter.unusedVariables false

set_option maxRecDepth 100000 in
theorem upTo_any (hi n : Int) (w : World) : Calls Try.prog 82 #[.int .i64 hi, .int .i64 n] w fun e w' => e = .returned (.bool (inB n 0 hi)) ∧ Below w.heap.size w w' := by
  by_cases h : 0 ≤ n
  · by_cases h2 : n ≤ hi
    · have HB : Hid (inB n 0 hi = true) := decide_eq_true ⟨h, h2⟩
      go_enter Try.func82, Try.ntmps82
      go_wp2_with fail
      go_ret
      exact ⟨by rw [HB.out]; simp [*], Below.refl _ _⟩
    · have HB : Hid (inB n 0 hi = false) := decide_eq_false (fun q => h2 q.2)
      go_enter Try.func82, Try.ntmps82
      go_wp2_with fail
      go_ret
      exact ⟨by rw [HB.out]; simp [*], Below.refl _ _⟩
  · have HB : Hid (inB n 0 hi = false) := decide_eq_false (fun q => h q.1)
    go_enter Try.func82, Try.ntmps82
    go_wp2_with fail
    go_ret
    exact ⟨by rw [HB.out]; simp [*], Below.refl _ _⟩
set_option maxHeartbeats 6400000 in
set_option maxRecDepth 100000 in
theorem implCertOk_any (c : Ct) (v : Value) (w : World) (hz : wtC c ≤ 1000000000) (ha : CtAt w v c) :
    Calls Try.prog 42 #[v] w fun e w' => e = .returned (.bool (certOk c)) ∧ Below w.heap.size w w' := by
  obtain ⟨pv, ev, dv, rfl, h1, h2, h3⟩ := ha
  obtain ⟨z1, z2, z3, z4, z5, z6, z7, z8, z9⟩ := wt_parts hz
  clear hz
  obtain ⟨pa, pc, hpa⟩ : ∃ ao cap, pv = .slice ao c.pol.length cap := by obtain ⟨ao, cap, h, _⟩ := h1; exact ⟨ao, cap, h⟩
  obtain ⟨ea, ec, hea⟩ : ∃ ao cap, ev = .slice ao c.per.length cap := by obtain ⟨ao, cap, h, _⟩ := h2; exact ⟨ao, cap, h⟩
  obtain ⟨da, dc, hda⟩ : ∃ ao cap, dv = .slice ao c.den.length cap := by obtain ⟨ao, cap, h, _⟩ := h3; exact ⟨ao, cap, h⟩
  obtain ⟨lp, hlp⟩ : ∃ l, c.pol.length = l := ⟨_, rfl⟩
  obtain ⟨le, hle⟩ : ∃ l, c.per.length = l := ⟨_, rfl⟩
  obtain ⟨ld, hld⟩ : ∃ l, c.den.length = l := ⟨_, rfl⟩
  rw [hlp] at hpa
  rw [hle] at hea
  rw [hld] at hda
  subst hpa hea hda
  obtain ⟨B1, hB1⟩ : ∃ b, inB c.serial 0 9999 = b := ⟨_, rfl⟩
  have E1 : Hid (∀ W, Below w.heap.size w W → Calls Try.prog 82 #[.int .i64 9999, .int .i64 c.serial] W fun e w' => e = .returned (.bool B1) ∧ Below W.heap.size W w') := fun W hb => by rw [← hB1]; exact upTo_any _ _ W
  obtain ⟨B2, hB2⟩ : ∃ b, inB c.frm 0 9999 = b := ⟨_, rfl⟩
  have E2 : Hid (∀ W, Below w.heap.size w W → Calls Try.prog 82 #[.int .i64 9999, .int .i64 c.frm] W fun e w' => e = .returned (.bool B2) ∧ Below W.heap.size W w') := fun W hb => by rw [← hB2]; exact upTo_any _ _ W
  obtain ⟨B3, hB3⟩ : ∃ b, inB c.upto 0 9999 = b := ⟨_, rfl⟩
  have E3 : Hid (∀ W, Below w.heap.size w W → Calls Try.prog 82 #[.int .i64 9999, .int .i64 c.upto] W fun e w' => e = .returned (.bool B3) ∧ Below W.heap.size W w') := fun W hb => by rw [← hB3]; exact upTo_any _ _ W
  obtain ⟨B4, hB4⟩ : ∃ b, nameOk c.issuer = b := ⟨_, rfl⟩
  have E4 : Hid (∀ W, Below w.heap.size w W → Calls Try.prog 83 #[.string c.issuer] W fun e w' => e = .returned (.bool B4) ∧ Below W.heap.size W w') := fun W hb => by rw [← hB4]; exact implName_any c.issuer W (by omega)
  obtain ⟨B5, hB5⟩ : ∃ b, nameOk c.subject = b := ⟨_, rfl⟩
  have E5 : Hid (∀ W, Below w.heap.size w W → Calls Try.prog 83 #[.string c.subject] W fun e w' => e = .returned (.bool B5) ∧ Below W.heap.size W w') := fun W hb => by rw [← hB5]; exact implName_any c.subject W (by omega)
  obtain ⟨B7, hB7⟩ : ∃ b, inB c.pathLen 0 99 = b := ⟨_, rfl⟩
  have E7 : Hid (∀ W, Below w.heap.size w W → Calls Try.prog 82 #[.int .i64 99, .int .i64 c.pathLen] W fun e w' => e = .returned (.bool B7) ∧ Below W.heap.size W w') := fun W hb => by rw [← hB7]; exact upTo_any _ _ W
  obtain ⟨B8, hB8⟩ : ∃ b, inB c.usage 0 7 = b := ⟨_, rfl⟩
  have E8 : Hid (∀ W, Below w.heap.size w W → Calls Try.prog 82 #[.int .i64 7, .int .i64 c.usage] W fun e w' => e = .returned (.bool B8) ∧ Below W.heap.size W w') := fun W hb => by rw [← hB8]; exact upTo_any _ _ W
  obtain ⟨B9, hB9⟩ : ∃ b, polOk c.pol = b := ⟨_, rfl⟩
  have E9 : Hid (∀ W, Below w.heap.size w W → Calls Try.prog 84 #[.slice pa lp pc] W fun e w' => e = .returned (.bool B9) ∧ Below W.heap.size W w') := fun W hb => by rw [← hB9]; exact implIok_any _ c.pol W (by omega) (h1.below hb)
  obtain ⟨B10, hB10⟩ : ∃ b, namesOk c.per = b := ⟨_, rfl⟩
  have E10 : Hid (∀ W, Below w.heap.size w W → Calls Try.prog 85 #[.slice ea le ec] W fun e w' => e = .returned (.bool B10) ∧ Below W.heap.size W w') := fun W hb => by rw [← hB10]; exact implTok_any _ c.per W (by omega) (fun s hs => by have := z8 s hs; omega) (h2.below hb)
  obtain ⟨B11, hB11⟩ : ∃ b, namesOk c.den = b := ⟨_, rfl⟩
  have E11 : Hid (∀ W, Below w.heap.size w W → Calls Try.prog 85 #[.slice da ld dc] W fun e w' => e = .returned (.bool B11) ∧ Below W.heap.size W w') := fun W hb => by rw [← hB11]; exact implTok_any _ c.den W (by omega) (fun s hs => by have := z9 s hs; omega) (h3.below hb)
  have HC : Hid (certOk c = (B1 && (B2 && (B3 && (B4 && (B5 && (decide (c.key.size = 15) && (B7 && (B8 && (B9 && (B10 && (B11 && decide (c.sig.size = 15))))))))))))) := by show certOk c = _; unfold certOk; rw [hB1, hB2, hB3, hB4, hB5, hB7, hB8, hB9, hB10, hB11]
  clear hB1 hB2 hB3 hB4 hB5 hB7 hB8 hB9 hB10 hB11 h1 h2 h3 hlp hle hld z8 z9
  unfold ctV
  go_enter Try.func42, Try.ntmps42
  go_wp2_with fail
  obtain ⟨V, hV⟩ : ∃ V, V = w.alloc (Obj.cells #[.int .i64 c.serial, .string c.issuer, .string c.subject, .int .i64 c.frm, .int .i64 c.upto, .string c.key, .bool c.ca, .int .i64 c.pathLen, .int .i64 c.usage, .slice pa lp pc, .slice ea le ec, .slice da ld dc, .string c.sig] 29) := ⟨_, rfl⟩
  rw [← hV]
  have G : Hid (Blk V w.heap.size 29 #[.int .i64 c.serial, .string c.issuer, .string c.subject, .int .i64 c.frm, .int .i64 c.upto, .string c.key, .bool c.ca, .int .i64 c.pathLen, .int .i64 c.usage, .slice pa lp pc, .slice ea le ec, .slice da ld dc, .string c.sig] ∧ Below w.heap.size w V ∧ w.heap.size < V.heap.size) := by rw [hV]; exact ⟨Blk.new w _ _, (Below.refl _ _).alloc (Nat.le_refl _) _, (Blk.new w _ _).lt⟩
  clear hV
  refine (E1.out V G.out.2.1).mono ?_
  rintro e V1 ⟨rfl, hb⟩
  have G1 : Hid (Blk V1 w.heap.size 29 #[.int .i64 c.serial, .string c.issuer, .string c.subject, .int .i64 c.frm, .int .i64 c.upto, .string c.key, .bool c.ca, .int .i64 c.pathLen, .int .i64 c.usage, .slice pa lp pc, .slice ea le ec, .slice da ld dc, .string c.sig] ∧ Below w.heap.size w V1 ∧ w.heap.size < V1.heap.size) := ⟨G.out.1.below hb G.out.2.2, G.out.2.1.trans (hb.mono G.out.2.1.size), Nat.lt_of_lt_of_le G.out.2.2 hb.size⟩
  clear hb G E1
  have c_frm : V1.cell? ⟨w.heap.size, 3, none⟩ = some (.int .i64 c.frm) := G1.out.1.cell 3
  cases B1 with
  | false =>
    go_wp2_with fail
    go_ret
    exact ⟨by rw [HC.out]; simp, G1.out.2.1⟩
  | true =>
    go_wp2_with fail
    clear c_frm
    refine (E2.out V1 G1.out.2.1).mono ?_
    rintro e V2 ⟨rfl, hb⟩
    have G2 : Hid (Blk V2 w.heap.size 29 #[.int .i64 c.serial, .string c.issuer, .string c.subject, .int .i64 c.frm, .int .i64 c.upto, .string c.key, .bool c.ca, .int .i64 c.pathLen, .int .i64 c.usage, .slice pa lp pc, .slice ea le ec, .slice da ld dc, .string c.sig] ∧ Below w.heap.size w V2 ∧ w.heap.size < V2.heap.size) := ⟨G1.out.1.below hb G1.out.2.2, G1.out.2.1.trans (hb.mono G1.out.2.1.size), Nat.lt_of_lt_of_le G1.out.2.2 hb.size⟩
    clear hb G1 E2
    have c_upto : V2.cell? ⟨w.heap.size, 4, none⟩ = some (.int .i64 c.upto) := G2.out.1.cell 4
    cases B2 with
    | false =>
      go_wp2_with fail
      go_ret
      exact ⟨by rw [HC.out]; simp, G2.out.2.1⟩
    | true =>
      go_wp2_with fail
      clear c_upto
      refine (E3.out V2 G2.out.2.1).mono ?_
      rintro e V3 ⟨rfl, hb⟩
      have G3 : Hid (Blk V3 w.heap.size 29 #[.int .i64 c.serial, .string c.issuer, .string c.subject, .int .i64 c.frm, .int .i64 c.upto, .string c.key, .bool c.ca, .int .i64 c.pathLen, .int .i64 c.usage, .slice pa lp pc, .slice ea le ec, .slice da ld dc, .string c.sig] ∧ Below w.heap.size w V3 ∧ w.heap.size < V3.heap.size) := ⟨G2.out.1.below hb G2.out.2.2, G2.out.2.1.trans (hb.mono G2.out.2.1.size), Nat.lt_of_lt_of_le G2.out.2.2 hb.size⟩
      clear hb G2 E3
      have c_issuer : V3.cell? ⟨w.heap.size, 1, none⟩ = some (.string c.issuer) := G3.out.1.cell 1
      cases B3 with
      | false =>
        go_wp2_with fail
        go_ret
        exact ⟨by rw [HC.out]; simp, G3.out.2.1⟩
      | true =>
        go_wp2_with fail
        clear c_issuer
        refine (E4.out V3 G3.out.2.1).mono ?_
        rintro e V4 ⟨rfl, hb⟩
        have G4 : Hid (Blk V4 w.heap.size 29 #[.int .i64 c.serial, .string c.issuer, .string c.subject, .int .i64 c.frm, .int .i64 c.upto, .string c.key, .bool c.ca, .int .i64 c.pathLen, .int .i64 c.usage, .slice pa lp pc, .slice ea le ec, .slice da ld dc, .string c.sig] ∧ Below w.heap.size w V4 ∧ w.heap.size < V4.heap.size) := ⟨G3.out.1.below hb G3.out.2.2, G3.out.2.1.trans (hb.mono G3.out.2.1.size), Nat.lt_of_lt_of_le G3.out.2.2 hb.size⟩
        clear hb G3 E4
        have c_subject : V4.cell? ⟨w.heap.size, 2, none⟩ = some (.string c.subject) := G4.out.1.cell 2
        cases B4 with
        | false =>
          go_wp2_with fail
          go_ret
          exact ⟨by rw [HC.out]; simp, G4.out.2.1⟩
        | true =>
          go_wp2_with fail
          clear c_subject
          refine (E5.out V4 G4.out.2.1).mono ?_
          rintro e V5 ⟨rfl, hb⟩
          have G5 : Hid (Blk V5 w.heap.size 29 #[.int .i64 c.serial, .string c.issuer, .string c.subject, .int .i64 c.frm, .int .i64 c.upto, .string c.key, .bool c.ca, .int .i64 c.pathLen, .int .i64 c.usage, .slice pa lp pc, .slice ea le ec, .slice da ld dc, .string c.sig] ∧ Below w.heap.size w V5 ∧ w.heap.size < V5.heap.size) := ⟨G4.out.1.below hb G4.out.2.2, G4.out.2.1.trans (hb.mono G4.out.2.1.size), Nat.lt_of_lt_of_le G4.out.2.2 hb.size⟩
          clear hb G4 E5
          have c_key : V5.cell? ⟨w.heap.size, 5, none⟩ = some (.string c.key) := G5.out.1.cell 5
          have c_pathLen : V5.cell? ⟨w.heap.size, 7, none⟩ = some (.int .i64 c.pathLen) := G5.out.1.cell 7
          cases B5 with
          | false =>
            go_wp2_with fail
            go_ret
            exact ⟨by rw [HC.out]; simp, G5.out.2.1⟩
          | true =>
            by_cases s6 : c.key.size = 15
            rotate_left
            · have si : ¬ (c.key.size : Int) = 15 := by omega
              have HN : Hid (decide (c.key.size = 15) = false) := decide_eq_false s6
              clear s6
              go_wp2_with fail
              go_ret
              exact ⟨by rw [HC.out, HN.out]; simp, G5.out.2.1⟩
            have si6 : (c.key.size : Int) = 15 := by omega
            go_wp2_with fail
            skip
            refine (E7.out V5 G5.out.2.1).mono ?_
            rintro e V7 ⟨rfl, hb⟩
            have G7 : Hid (Blk V7 w.heap.size 29 #[.int .i64 c.serial, .string c.issuer, .string c.subject, .int .i64 c.frm, .int .i64 c.upto, .string c.key, .bool c.ca, .int .i64 c.pathLen, .int .i64 c.usage, .slice pa lp pc, .slice ea le ec, .slice da ld dc, .string c.sig] ∧ Below w.heap.size w V7 ∧ w.heap.size < V7.heap.size) := ⟨G5.out.1.below hb G5.out.2.2, G5.out.2.1.trans (hb.mono G5.out.2.1.size), Nat.lt_of_lt_of_le G5.out.2.2 hb.size⟩
            clear hb G5 E7
            have c_usage : V7.cell? ⟨w.heap.size, 8, none⟩ = some (.int .i64 c.usage) := G7.out.1.cell 8
            cases B7 with
            | false =>
              go_wp2_with fail
              go_ret
              exact ⟨by rw [HC.out]; simp, G7.out.2.1⟩
            | true =>
              go_wp2_with fail
              clear c_usage
              refine (E8.out V7 G7.out.2.1).mono ?_
              rintro e V8 ⟨rfl, hb⟩
              have G8 : Hid (Blk V8 w.heap.size 29 #[.int .i64 c.serial, .string c.issuer, .string c.subject, .int .i64 c.frm, .int .i64 c.upto, .string c.key, .bool c.ca, .int .i64 c.pathLen, .int .i64 c.usage, .slice pa lp pc, .slice ea le ec, .slice da ld dc, .string c.sig] ∧ Below w.heap.size w V8 ∧ w.heap.size < V8.heap.size) := ⟨G7.out.1.below hb G7.out.2.2, G7.out.2.1.trans (hb.mono G7.out.2.1.size), Nat.lt_of_lt_of_le G7.out.2.2 hb.size⟩
              clear hb G7 E8
              have c_pol : V8.cell? ⟨w.heap.size, 9, none⟩ = some (.slice pa lp pc) := G8.out.1.cell 9
              cases B8 with
              | false =>
                go_wp2_with fail
                go_ret
                exact ⟨by rw [HC.out]; simp, G8.out.2.1⟩
              | true =>
                go_wp2_with fail
                clear c_pol
                refine (E9.out V8 G8.out.2.1).mono ?_
                rintro e V9 ⟨rfl, hb⟩
                have G9 : Hid (Blk V9 w.heap.size 29 #[.int .i64 c.serial, .string c.issuer, .string c.subject, .int .i64 c.frm, .int .i64 c.upto, .string c.key, .bool c.ca, .int .i64 c.pathLen, .int .i64 c.usage, .slice pa lp pc, .slice ea le ec, .slice da ld dc, .string c.sig] ∧ Below w.heap.size w V9 ∧ w.heap.size < V9.heap.size) := ⟨G8.out.1.below hb G8.out.2.2, G8.out.2.1.trans (hb.mono G8.out.2.1.size), Nat.lt_of_lt_of_le G8.out.2.2 hb.size⟩
                clear hb G8 E9
                have c_per : V9.cell? ⟨w.heap.size, 10, none⟩ = some (.slice ea le ec) := G9.out.1.cell 10
                cases B9 with
                | false =>
                  go_wp2_with fail
                  go_ret
                  exact ⟨by rw [HC.out]; simp, G9.out.2.1⟩
                | true =>
                  go_wp2_with fail
                  clear c_per
                  refine (E10.out V9 G9.out.2.1).mono ?_
                  rintro e V10 ⟨rfl, hb⟩
                  have G10 : Hid (Blk V10 w.heap.size 29 #[.int .i64 c.serial, .string c.issuer, .string c.subject, .int .i64 c.frm, .int .i64 c.upto, .string c.key, .bool c.ca, .int .i64 c.pathLen, .int .i64 c.usage, .slice pa lp pc, .slice ea le ec, .slice da ld dc, .string c.sig] ∧ Below w.heap.size w V10 ∧ w.heap.size < V10.heap.size) := ⟨G9.out.1.below hb G9.out.2.2, G9.out.2.1.trans (hb.mono G9.out.2.1.size), Nat.lt_of_lt_of_le G9.out.2.2 hb.size⟩
                  clear hb G9 E10
                  have c_den : V10.cell? ⟨w.heap.size, 11, none⟩ = some (.slice da ld dc) := G10.out.1.cell 11
                  cases B10 with
                  | false =>
                    go_wp2_with fail
                    go_ret
                    exact ⟨by rw [HC.out]; simp, G10.out.2.1⟩
                  | true =>
                    go_wp2_with fail
                    clear c_den
                    refine (E11.out V10 G10.out.2.1).mono ?_
                    rintro e V11 ⟨rfl, hb⟩
                    have G11 : Hid (Blk V11 w.heap.size 29 #[.int .i64 c.serial, .string c.issuer, .string c.subject, .int .i64 c.frm, .int .i64 c.upto, .string c.key, .bool c.ca, .int .i64 c.pathLen, .int .i64 c.usage, .slice pa lp pc, .slice ea le ec, .slice da ld dc, .string c.sig] ∧ Below w.heap.size w V11 ∧ w.heap.size < V11.heap.size) := ⟨G10.out.1.below hb G10.out.2.2, G10.out.2.1.trans (hb.mono G10.out.2.1.size), Nat.lt_of_lt_of_le G10.out.2.2 hb.size⟩
                    clear hb G10 E11
                    have c_sig : V11.cell? ⟨w.heap.size, 12, none⟩ = some (.string c.sig) := G11.out.1.cell 12
                    cases B11 with
                    | false =>
                      go_wp2_with fail
                      go_ret
                      exact ⟨by rw [HC.out]; simp, G11.out.2.1⟩
                    | true =>
                      by_cases s12 : c.sig.size = 15
                      rotate_left
                      · have si : ¬ (c.sig.size : Int) = 15 := by omega
                        have HN : Hid (decide (c.sig.size = 15) = false) := decide_eq_false s12
                        clear s12
                        go_wp2_with fail
                        go_ret
                        exact ⟨by rw [HC.out, HN.out]; simp [si], G11.out.2.1⟩
                      have si12 : (c.sig.size : Int) = 15 := by omega
                      go_wp2_with fail
                      go_ret
                      exact ⟨by rw [HC.out, decide_eq_true s6, decide_eq_true s12]; rfl, G11.out.2.1⟩
end Go.Proofs.Ytajbalokcfghbaa
