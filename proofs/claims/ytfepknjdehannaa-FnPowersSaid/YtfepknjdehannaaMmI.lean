/-
  The program's products by a modulus: modulo, timesModulo, rightByModulus, MulMod.
-/
import Derived.Test.YtfepknjdehannaaNatK
import Derived.Test.YtfepknjdehannaaBitP
namespace Go.Proofs.Ytfepknjdehannaa
open Go.RowKit

/-- Three right lists, the last one not 0. -/
def ok3 (a b m : List Int) : Prop := ((okL a = true ∧ okL b = true) ∧ okL m = true) ∧ 0 < m.length
def mmL (a b m : List Int) : List Int := if ((okL a && okL b) && okL m && decide (0 < m.length)) = true then digs (ev a * ev b % ev m) else []
def pmL (a e m : List Int) : List Int := if ((okL a && okL e) && okL m && decide (0 < m.length)) = true then digs (ev a ^ (ev e).toNat % ev m) else []
theorem ok3_of {a b m : List Int} (h : ((okL a && okL b) && okL m && decide (0 < m.length)) = true) : ok3 a b m := by simpa [ok3] using h
structure Mo (m : List Int) : Prop where
  len : m.length ≤ 40
  dig : Dig m
  top : Top m
  pos : 0 < m.length
theorem Mo.of {m : List Int} (h : okL m = true) (h0 : 0 < m.length) : Mo m := ⟨(okL_true h).1, (okL_true h).2.1, (okL_true h).2.2, h0⟩
theorem Mo.ev_pos {m : List Int} (h : Mo m) : 0 < ev m := Go.Proofs.Ytfepknjdehannaa.ev_pos h.dig h.top h.pos
theorem Mo.ev_lt {m : List Int} (h : Mo m) : ev m < 10000 ^ 40 := Int.lt_of_lt_of_le (Go.Proofs.Ytfepknjdehannaa.ev_lt h.dig) (pw_le h.len)
theorem Mo.rem {m : List Int} (h : Mo m) (x : Int) : 0 ≤ x % ev m ∧ x % ev m < 10000 ^ 40 := ⟨Int.emod_nonneg _ (by have := h.ev_pos; omega), Int.lt_trans (Int.emod_lt_of_pos _ h.ev_pos) h.ev_lt⟩
theorem okL_lt {l : List Int} (h : okL l = true) : 0 ≤ ev l ∧ ev l < 10000 ^ 40 := ⟨ev_nonneg (okL_true h).2.1, Int.lt_of_lt_of_le (Go.Proofs.Ytfepknjdehannaa.ev_lt (okL_true h).2.1) (pw_le (okL_true h).1)⟩
theorem mmL_len (a b m : List Int) : (mmL a b m).length ≤ 40 := by
  unfold mmL
  split
  · rename_i h
    have h := ok3_of h
    have hm := Mo.of h.1.2 h.2
    exact digs_len (hm.rem _).1 (hm.rem _).2
  · simp
theorem pmL_len (a e m : List Int) : (pmL a e m).length ≤ 40 := by
  unfold pmL
  split
  · rename_i h
    have h := ok3_of h
    have hm := Mo.of h.1.2 h.2
    exact digs_len (hm.rem _).1 (hm.rem _).2
  · simp
theorem prod_len {a b : List Int} (ha : Dig a) (hb : Dig b) (hla : a.length ≤ 40) (hlb : b.length ≤ 40) : (digs (ev a * ev b)).length ≤ 80 := by
  have a1 := ev_nonneg ha
  have a2 := ev_nonneg hb
  have a3 := ev_lt ha
  have a4 := ev_lt hb
  have p1 := pw_le hla
  have p2 := pw_le hlb
  have h3 := Int.mul_le_mul_of_nonneg_right (show ev a ≤ 10000 ^ 40 by omega) a2
  have h4 := Int.mul_lt_mul_of_pos_left (show ev b < 10000 ^ 40 by omega) (pw_pos 40)
  exact digs_len (k := 80) (Int.mul_nonneg a1 a2) (by rw [show (80 : Nat) = 40 + 40 from rfl, pw_add]; omega)

set_option maxHeartbeats 800000 in
set_option maxRecDepth 100000 in
theorem modulo_any (a m : Value) (la lm : List Int) (w : World) (hl : la.length ≤ 1000) (hda : Dig la) (hm : Mo lm) (ha : IntAt w a la) (hb : IntAt w m lm) :
    Calls Try.prog 45 #[a, m] w fun e w' => ∃ v, e = .returned v ∧ OwnI w' w.heap.size v (digs (ev la % ev lm)) ∧ Below w.heap.size w w' := by
  have E := over_any a m la lm w hl (by have := hm.len; omega) hda hm.dig hm.top hm.pos ha hb
  clear ha hb hda
  go_enter Try.func45, Try.ntmps45
  go_wp2_with fail
  refine E.mono ?_
  rintro e w1 ⟨q, r, rfl, _, h2, h3, _⟩
  have H : Hid (OwnI w1 w.heap.size r (digs (ev la % ev lm)) ∧ Below w.heap.size w w1) := ⟨h2, h3⟩
  clear h2 h3 E
  go_wp2_with fail
  go_ret
  exact ⟨_, rfl, H.out⟩

set_option maxHeartbeats 800000 in
set_option maxRecDepth 100000 in
theorem timesMod_any (a b m : Value) (la lb lm : List Int) (w : World) (hla : la.length ≤ 40) (hlb : lb.length ≤ 40) (hda : Dig la) (hdb : Dig lb) (hm : Mo lm) (ha : IntAt w a la) (hb : IntAt w b lb) (hmm : IntAt w m lm) :
    Calls Try.prog 35 #[a, b, m] w fun e w' => ∃ v, e = .returned v ∧ OwnI w' w.heap.size v (digs (ev la * ev lb % ev lm)) ∧ Below w.heap.size w w' := by
  have E := times_any a b la lb w (by omega) (by omega) hda hdb ha hb
  have HX : Hid (IntAt w m lm ∧ Mo lm ∧ Dig la ∧ Dig lb) := ⟨hmm, hm, hda, hdb⟩
  have hlen := prod_len hda hdb hla hlb
  have hnn := Int.mul_nonneg (ev_nonneg hda) (ev_nonneg hdb)
  clear ha hb hmm hm hda hdb
  go_enter Try.func35, Try.ntmps35
  go_wp2_with fail
  refine E.mono ?_
  rintro e w1 ⟨v, rfl, h1, h2⟩
  have H1 : Hid (IntAt w1 v (digs (ev la * ev lb)) ∧ IntAt w1 m lm ∧ Below w.heap.size w w1) := ⟨h1.at, HX.out.1.below h2, h2⟩
  clear h1 h2 E
  go_wp2_with fail
  refine (modulo_any v m _ lm w1 (by omega) (dig_digs _) HX.out.2.1 H1.out.1 H1.out.2.1).mono ?_
  rintro e w2 ⟨u, rfl, h1, h2⟩
  rw [ev_digs hnn] at h1
  have H2 : Hid (OwnI w2 w.heap.size u (digs (ev la * ev lb % ev lm)) ∧ Below w.heap.size w w2) := ⟨h1.base H1.out.2.2.size, H1.out.2.2.trans (h2.mono H1.out.2.2.size)⟩
  clear h1 h2
  go_wp2_with fail
  go_ret
  exact ⟨_, rfl, H2.out⟩

set_option maxHeartbeats 800000 in
set_option maxRecDepth 100000 in
theorem right3_any (a b m : Value) (la lb lm : List Int) (w : World) (hla : la.length ≤ 10000000) (hlb : lb.length ≤ 10000000) (hlm : lm.length ≤ 10000000) (wa : Wd la) (wb : Wd lb) (wm : Wd lm) (ha : IntAt w a la) (hb : IntAt w b lb) (hm : IntAt w m lm) :
    Calls Try.prog 30 #[a, b, m] w fun e w' => e = .returned (.bool ((okL la && okL lb) && okL lm && decide (0 < lm.length))) ∧ Below w.heap.size w w' := by
  have E := bothRight_any a b la lb w hla hlb wa wb ha hb
  have HX : Hid (IntAt w m lm ∧ Wd lm) := ⟨hm, wm⟩
  obtain ⟨mo, mc, hme, _⟩ := hm
  subst hme
  clear ha hb wa wb wm
  go_enter Try.func30, Try.ntmps30
  go_wp2_with fail
  refine E.mono ?_
  rintro e w1 ⟨rfl, hb1⟩
  have H1 : Hid (IntAt w1 (.slice mo lm.length mc) lm ∧ Below w.heap.size w w1) := ⟨HX.out.1.below hb1, hb1⟩
  clear hb1 E
  rcases hq : (okL la && okL lb) with _ | _
  · have HQ : Hid ((okL la && okL lb) = false) := hq
    clear hq
    go_wp2_with fail
    go_ret
    exact ⟨congrArg (fun z => Ending.returned (Value.bool z)) (show false = (okL la && okL lb && okL lm && decide (0 < lm.length)) by rw [HQ.out]; simp), H1.out.2⟩
  · have HQ : Hid ((okL la && okL lb) = true) := hq
    clear hq
    go_wp2_with fail
    refine (right_any _ lm w1 hlm H1.out.1 HX.out.2).mono ?_
    rintro e w2 ⟨rfl, hb2⟩
    have H2 : Hid (Below w.heap.size w w2) := H1.out.2.trans (hb2.mono H1.out.2.size)
    clear hb2 H1
    rcases hq2 : okL lm with _ | _
    · have HQ2 : Hid (okL lm = false) := hq2
      clear hq2
      go_wp2_with fail
      go_ret
      exact ⟨congrArg (fun z => Ending.returned (Value.bool z)) (show false = (okL la && okL lb && okL lm && decide (0 < lm.length)) by rw [HQ.out, HQ2.out]; simp), H2.out⟩
    · have HQ2 : Hid (okL lm = true) := hq2
      clear hq2
      by_cases h0 : 0 < lm.length
      · have h0' : (0 : Int) < (lm.length : Int) := by omega
        have HD : Hid (decide (0 < lm.length) = true) := decide_eq_true h0
        go_wp2_with fail
        go_ret
        exact ⟨congrArg (fun z => Ending.returned (Value.bool z)) (show true = (okL la && okL lb && okL lm && decide (0 < lm.length)) by rw [HQ.out, HQ2.out, HD.out]; simp), H2.out⟩
      · have h0' : ¬ (0 : Int) < (lm.length : Int) := by omega
        have HD : Hid (decide (0 < lm.length) = false) := decide_eq_false h0
        go_wp2_with fail
        go_ret
        exact ⟨congrArg (fun z => Ending.returned (Value.bool z)) (show false = (okL la && okL lb && okL lm && decide (0 < lm.length)) by rw [HQ.out, HQ2.out, HD.out]; simp), H2.out⟩

set_option maxHeartbeats 800000 in
set_option maxRecDepth 100000 in
theorem implMulMod_any (a b m : Value) (la lb lm : List Int) (w : World) (hla : la.length ≤ 10000000) (hlb : lb.length ≤ 10000000) (hlm : lm.length ≤ 10000000) (wa : Wd la) (wb : Wd lb) (wm : Wd lm) (ha : IntAt w a la) (hb : IntAt w b lb) (hm : IntAt w m lm) :
    Calls Try.prog 13 #[a, b, m] w fun e w' => ∃ v, e = .returned v ∧ OwnI w' w.heap.size v (mmL la lb lm) ∧ Below w.heap.size w w' := by
  have E := right3_any a b m la lb lm w hla hlb hlm wa wb wm ha hb hm
  have HX : Hid (IntAt w a la ∧ IntAt w b lb ∧ IntAt w m lm) := ⟨ha, hb, hm⟩
  clear ha hb hm wa wb wm
  go_enter Try.func13, Try.ntmps13
  go_wp2_with fail
  refine E.mono ?_
  rintro e w1 ⟨rfl, hb1⟩
  have H1 : Hid (IntAt w1 a la ∧ IntAt w1 b lb ∧ IntAt w1 m lm ∧ Below w.heap.size w w1) := ⟨HX.out.1.below hb1, HX.out.2.1.below hb1, HX.out.2.2.below hb1, hb1⟩
  clear hb1 HX E
  rcases h : ((okL la && okL lb) && okL lm && decide (0 < lm.length)) with _ | _
  · have HN : Hid (mmL la lb lm = []) := by show mmL la lb lm = []; unfold mmL; rw [if_neg (by rw [h]; decide)]
    clear h
    go_wp2_with fail
    go_ret
    exact ⟨_, rfl, by rw [HN.out]; exact OwnI.nil _ _, H1.out.2.2.2⟩
  · have HN : Hid (mmL la lb lm = digs (ev la * ev lb % ev lm)) := by show mmL la lb lm = _; unfold mmL; rw [if_pos h]
    have h3 := ok3_of h
    have ka := okL_true h3.1.1.1
    have kb := okL_true h3.1.1.2
    have km := Mo.of h3.1.2 h3.2
    clear h h3
    go_wp2_with fail
    refine (timesMod_any a b m la lb lm w1 ka.1 kb.1 ka.2.1 kb.2.1 km H1.out.1 H1.out.2.1 H1.out.2.2.1).mono ?_
    rintro e w2 ⟨v, rfl, ho2, hb2⟩
    have H2 : Hid (OwnI w2 w.heap.size v (mmL la lb lm) ∧ Below w.heap.size w w2) := ⟨by rw [HN.out]; exact ho2.base H1.out.2.2.2.size, H1.out.2.2.2.trans (hb2.mono H1.out.2.2.2.size)⟩
    clear ho2 hb2
    go_wp2_with fail
    go_ret
    exact ⟨_, rfl, H2.out⟩
end Go.Proofs.Ytfepknjdehannaa
