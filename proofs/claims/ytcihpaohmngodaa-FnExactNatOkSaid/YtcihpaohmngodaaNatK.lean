/-
  The program's own functions over great numbers: both are right; within the limit; compared, added, taken away, multiplied, divided.
-/
import Derived.Test.YtcihpaohmngodaaNatF
import Derived.Test.YtcihpaohmngodaaNatG
import Derived.Test.YtcihpaohmngodaaNatH
import Derived.Test.YtcihpaohmngodaaNatI
import Derived.Test.YtcihpaohmngodaaNatJ
import Derived.Test.YtcihpaohmngodaaArgI
namespace Go.Proofs.Ytcihpaohmngodaa
open Go.RowKit

theorem okL_true {l : List Int} (h : okL l = true) : l.length ≤ 40 ∧ Dig l ∧ Top l := (okL_iff l).1 h
def limL (l : List Int) : List Int := if l.length ≤ 40 then l else []
def cmpL (a b : List Int) : Int := if okL a = true ∧ okL b = true then cmpI (ev a) (ev b) else 0
def addL (a b : List Int) : List Int := if okL a = true ∧ okL b = true then limL (digs (ev a + ev b)) else []
def subL (a b : List Int) : List Int := if (okL a = true ∧ okL b = true) ∧ ev b ≤ ev a then digs (ev a - ev b) else []
def mulL (a b : List Int) : List Int := if okL a = true ∧ okL b = true then limL (digs (ev a * ev b)) else []
def quoL (a b : List Int) : List Int := if (okL a = true ∧ okL b = true) ∧ 0 < b.length then digs (ev a / ev b) else []
def remL (a b : List Int) : List Int := if (okL a = true ∧ okL b = true) ∧ 0 < b.length then digs (ev a % ev b) else []

set_option maxHeartbeats 800000 in
set_option maxRecDepth 100000 in
theorem bothRight_any (a b : Value) (la lb : List Int) (w : World) (hl : la.length ≤ 10000000) (hl2 : lb.length ≤ 10000000) (wa : Wd la) (wb : Wd lb) (ha : IntAt w a la) (hb : IntAt w b lb) :
    Calls Try.prog 54 #[a, b] w fun e w' => e = .returned (.bool (okL la && okL lb)) ∧ Below w.heap.size w w' := by
  have HA : Hid (Wd la ∧ IntAt w a la) := ⟨wa, ha⟩
  have HB : Hid (Wd lb ∧ IntAt w b lb) := ⟨wb, hb⟩
  clear wa wb ha hb
  go_enter Try.func54, Try.ntmps54
  go_wp2_with fail
  refine (right_any a la w hl HA.out.2 HA.out.1).mono ?_
  rintro e w1 ⟨rfl, hb1⟩
  have HB1 : Hid (IntAt w1 b lb ∧ Below w.heap.size w w1) := ⟨HB.out.2.below hb1, hb1⟩
  clear hb1
  rcases h : okL la with _ | _
  · go_wp2_with fail
    go_ret
    exact ⟨congrArg (fun z => Ending.returned (Value.bool z)) (show false = (okL la && okL lb) by simp [h]), HB1.out.2⟩
  · go_wp2_with fail
    refine (right_any b lb w1 hl2 HB1.out.1 HB.out.1).mono ?_
    rintro e w2 ⟨rfl, hb2⟩
    have HB2 : Hid (Below w.heap.size w w2) := HB1.out.2.trans (hb2.mono HB1.out.2.size)
    clear hb2
    go_wp2_with fail
    go_ret
    exact ⟨congrArg (fun z => Ending.returned (Value.bool z)) (show okL lb = (okL la && okL lb) by simp [h]), HB2.out⟩

set_option maxHeartbeats 800000 in
set_option maxRecDepth 100000 in
theorem within_any (v : Value) (l : List Int) (base : Nat) (w : World) (hl : l.length ≤ 10000000) (hv : OwnI w base v l) :
    Calls Try.prog 55 #[v] w fun e w' => ∃ v', e = .returned v' ∧ OwnI w' base v' (limL l) ∧ Below w.heap.size w w' := by
  obtain ⟨ao, cap, rfl, _⟩ := hv.shape
  have HV : Hid (OwnI w base (.slice ao l.length cap) l) := hv
  clear hv
  by_cases h : l.length ≤ 40
  · have hq : ¬ (40 : Int) < (l.length : Int) := by omega
    go_enter Try.func55, Try.ntmps55
    go_wp2
    go_ret
    exact ⟨_, rfl, by unfold limL; rw [if_pos h]; exact HV.out, Below.refl _ _⟩
  · have hq : (40 : Int) < (l.length : Int) := by omega
    go_enter Try.func55, Try.ntmps55
    go_wp2
    go_ret
    exact ⟨_, rfl, by unfold limL; rw [if_neg h]; exact OwnI.nil _ _, Below.refl _ _⟩

set_option maxHeartbeats 800000 in
set_option maxRecDepth 100000 in
theorem implAdd_any (a b : Value) (la lb : List Int) (w : World) (hl : la.length ≤ 10000000) (hl2 : lb.length ≤ 10000000) (wa : Wd la) (wb : Wd lb) (ha : IntAt w a la) (hb : IntAt w b lb) :
    Calls Try.prog 18 #[a, b] w fun e w' => ∃ v, e = .returned v ∧ OwnI w' w.heap.size v (addL la lb) ∧ Below w.heap.size w w' := by
  have HX : Hid (IntAt w a la ∧ IntAt w b lb) := ⟨ha, hb⟩
  have E := bothRight_any a b la lb w hl hl2 wa wb ha hb
  clear wa wb ha hb
  go_enter Try.func18, Try.ntmps18
  go_wp2_with fail
  refine E.mono ?_
  rintro e w1 ⟨rfl, hb1⟩
  clear E
  have HX1 : Hid (IntAt w1 a la ∧ IntAt w1 b lb ∧ Below w.heap.size w w1) := ⟨HX.out.1.below hb1, HX.out.2.below hb1, hb1⟩
  clear hb1 HX
  rcases h : (okL la && okL lb) with _ | _
  · have HN : Hid (¬ (okL la = true ∧ okL lb = true)) := fun h2 => by simp [h2.1, h2.2] at h
    go_wp2_with fail
    go_ret
    exact ⟨_, rfl, by unfold addL; rw [if_neg HN.out]; exact OwnI.nil _ _, HX1.out.2.2⟩
  · have HK : Hid (okL la = true ∧ okL lb = true) := (by simpa using h : okL la = true ∧ okL lb = true)
    have ka := okL_true HK.out.1
    have kb := okL_true HK.out.2
    have HD : Hid (Dig la ∧ Dig lb) := ⟨ka.2.1, kb.2.1⟩
    have hla := ka.1
    have hlb := kb.1
    clear ka kb
    go_wp2_with fail
    refine (plus_any a b la lb w1 (by omega) (by omega) HD.out.1 HD.out.2 HX1.out.1 HX1.out.2.1).mono ?_
    rintro e w2 ⟨v, rfl, ho2, hb2⟩
    have HO2 : Hid (OwnI w2 w1.heap.size v (digs (ev la + ev lb)) ∧ Below w.heap.size w w2) := ⟨ho2, HX1.out.2.2.trans (hb2.mono HX1.out.2.2.size)⟩
    clear ho2 hb2
    have hlen : (digs (ev la + ev lb)).length ≤ 10000 := by
      have a1 := ev_nonneg HD.out.1
      have a2 := ev_nonneg HD.out.2
      have a3 := ev_lt HD.out.1
      have a4 := ev_lt HD.out.2
      have p1 := pw_le hla
      have p2 := pw_le hlb
      have := digs_len (k := 41) (show 0 ≤ ev la + ev lb by omega) (by rw [pw_succ 40]; omega)
      omega
    go_wp2_with fail
    refine (within_any v _ w1.heap.size w2 (by omega) HO2.out.1).mono ?_
    rintro e w3 ⟨v', rfl, ho3, hb3⟩
    have HO3 : Hid (OwnI w3 w.heap.size v' (addL la lb) ∧ Below w.heap.size w w3) := by
      refine ⟨?_, HO2.out.2.trans (hb3.mono HO2.out.2.size)⟩
      unfold addL
      rw [if_pos HK.out]
      exact ho3.base HX1.out.2.2.size
    clear ho3 hb3
    go_wp2_with fail
    go_ret
    exact ⟨_, rfl, HO3.out⟩

set_option maxHeartbeats 800000 in
set_option maxRecDepth 100000 in
theorem implMul_any (a b : Value) (la lb : List Int) (w : World) (hl : la.length ≤ 10000000) (hl2 : lb.length ≤ 10000000) (wa : Wd la) (wb : Wd lb) (ha : IntAt w a la) (hb : IntAt w b lb) :
    Calls Try.prog 19 #[a, b] w fun e w' => ∃ v, e = .returned v ∧ OwnI w' w.heap.size v (mulL la lb) ∧ Below w.heap.size w w' := by
  have HX : Hid (IntAt w a la ∧ IntAt w b lb) := ⟨ha, hb⟩
  have E := bothRight_any a b la lb w hl hl2 wa wb ha hb
  clear wa wb ha hb
  go_enter Try.func19, Try.ntmps19
  go_wp2_with fail
  refine E.mono ?_
  rintro e w1 ⟨rfl, hb1⟩
  clear E
  have HX1 : Hid (IntAt w1 a la ∧ IntAt w1 b lb ∧ Below w.heap.size w w1) := ⟨HX.out.1.below hb1, HX.out.2.below hb1, hb1⟩
  clear hb1 HX
  rcases h : (okL la && okL lb) with _ | _
  · have HN : Hid (¬ (okL la = true ∧ okL lb = true)) := fun h2 => by simp [h2.1, h2.2] at h
    go_wp2_with fail
    go_ret
    exact ⟨_, rfl, by unfold mulL; rw [if_neg HN.out]; exact OwnI.nil _ _, HX1.out.2.2⟩
  · have HK : Hid (okL la = true ∧ okL lb = true) := (by simpa using h : okL la = true ∧ okL lb = true)
    have ka := okL_true HK.out.1
    have kb := okL_true HK.out.2
    have HD : Hid (Dig la ∧ Dig lb) := ⟨ka.2.1, kb.2.1⟩
    have hla := ka.1
    have hlb := kb.1
    clear ka kb
    go_wp2_with fail
    refine (times_any a b la lb w1 (by omega) (by omega) HD.out.1 HD.out.2 HX1.out.1 HX1.out.2.1).mono ?_
    rintro e w2 ⟨v, rfl, ho2, hb2⟩
    have HO2 : Hid (OwnI w2 w1.heap.size v (digs (ev la * ev lb)) ∧ Below w.heap.size w w2) := ⟨ho2, HX1.out.2.2.trans (hb2.mono HX1.out.2.2.size)⟩
    clear ho2 hb2
    have hlen : (digs (ev la * ev lb)).length ≤ 10000 := by
      have a1 := ev_nonneg HD.out.1
      have a2 := ev_nonneg HD.out.2
      have a3 := ev_lt HD.out.1
      have a4 := ev_lt HD.out.2
      have p1 := pw_le hla
      have p2 := pw_le hlb
      have h3 := Int.mul_le_mul_of_nonneg_right (show ev la ≤ 10000 ^ 40 by omega) a2
      have h4 := Int.mul_lt_mul_of_pos_left (show ev lb < 10000 ^ 40 by omega) (pw_pos 40)
      have := digs_len (k := 80) (Int.mul_nonneg a1 a2) (by rw [show (80 : Nat) = 40 + 40 from rfl, pw_add]; omega)
      omega
    go_wp2_with fail
    refine (within_any v _ w1.heap.size w2 (by omega) HO2.out.1).mono ?_
    rintro e w3 ⟨v', rfl, ho3, hb3⟩
    have HO3 : Hid (OwnI w3 w.heap.size v' (mulL la lb) ∧ Below w.heap.size w w3) := by
      refine ⟨?_, HO2.out.2.trans (hb3.mono HO2.out.2.size)⟩
      unfold mulL
      rw [if_pos HK.out]
      exact ho3.base HX1.out.2.2.size
    clear ho3 hb3
    go_wp2_with fail
    go_ret
    exact ⟨_, rfl, HO3.out⟩

set_option maxHeartbeats 800000 in
set_option maxRecDepth 100000 in
theorem implCmp_any (a b : Value) (la lb : List Int) (w : World) (hl : la.length ≤ 10000000) (hl2 : lb.length ≤ 10000000) (wa : Wd la) (wb : Wd lb) (ha : IntAt w a la) (hb : IntAt w b lb) :
    Calls Try.prog 22 #[a, b] w fun e w' => e = .returned (.int .i64 (cmpL la lb)) ∧ Below w.heap.size w w' := by
  have HX : Hid (IntAt w a la ∧ IntAt w b lb) := ⟨ha, hb⟩
  have E := bothRight_any a b la lb w hl hl2 wa wb ha hb
  clear wa wb ha hb
  go_enter Try.func22, Try.ntmps22
  go_wp2_with fail
  refine E.mono ?_
  rintro e w1 ⟨rfl, hb1⟩
  clear E
  have HX1 : Hid (IntAt w1 a la ∧ IntAt w1 b lb ∧ Below w.heap.size w w1) := ⟨HX.out.1.below hb1, HX.out.2.below hb1, hb1⟩
  clear hb1 HX
  rcases h : (okL la && okL lb) with _ | _
  · have HN : Hid (¬ (okL la = true ∧ okL lb = true)) := fun h2 => by simp [h2.1, h2.2] at h
    go_wp2_with fail
    go_ret
    exact ⟨congrArg (fun z => Ending.returned (Value.int .i64 z)) (show 0 = cmpL la lb by unfold cmpL; rw [if_neg HN.out]), HX1.out.2.2⟩
  · have HK : Hid (okL la = true ∧ okL lb = true) := (by simpa using h : okL la = true ∧ okL lb = true)
    have ka := okL_true HK.out.1
    have kb := okL_true HK.out.2
    have HD : Hid (Dig la ∧ Dig lb) := ⟨ka.2.1, kb.2.1⟩
    have hla := ka.1
    have hlb := kb.1
    clear ka kb
    go_wp2_with fail
    refine (compare_any a b la lb w1 (by omega) (by omega) HD.out.1 HD.out.2 HX1.out.1 HX1.out.2.1).mono ?_
    rintro e w2 ⟨rfl, hb2⟩
    have HO2 : Hid (cmpI (ev la) (ev lb) = cmpL la lb ∧ Below w.heap.size w w2) := ⟨by unfold cmpL; rw [if_pos HK.out], HX1.out.2.2.trans (hb2.mono HX1.out.2.2.size)⟩
    clear hb2
    go_wp2_with fail
    go_ret
    exact ⟨congrArg (fun z => Ending.returned (Value.int .i64 z)) HO2.out.1, HO2.out.2⟩

set_option maxHeartbeats 800000 in
set_option maxRecDepth 100000 in
theorem implSub_any (a b : Value) (la lb : List Int) (w : World) (hl : la.length ≤ 10000000) (hl2 : lb.length ≤ 10000000) (wa : Wd la) (wb : Wd lb) (ha : IntAt w a la) (hb : IntAt w b lb) :
    Calls Try.prog 21 #[a, b] w fun e w' => ∃ v, e = .returned v ∧ OwnI w' w.heap.size v (subL la lb) ∧ Below w.heap.size w w' := by
  have HX : Hid (IntAt w a la ∧ IntAt w b lb) := ⟨ha, hb⟩
  have E := bothRight_any a b la lb w hl hl2 wa wb ha hb
  clear wa wb ha hb
  go_enter Try.func21, Try.ntmps21
  go_wp2_with fail
  refine E.mono ?_
  rintro e w1 ⟨rfl, hb1⟩
  clear E
  have HX1 : Hid (IntAt w1 a la ∧ IntAt w1 b lb ∧ Below w.heap.size w w1) := ⟨HX.out.1.below hb1, HX.out.2.below hb1, hb1⟩
  clear hb1 HX
  rcases h : (okL la && okL lb) with _ | _
  · have HN : Hid (¬ (okL la = true ∧ okL lb = true)) := fun h2 => by simp [h2.1, h2.2] at h
    go_wp2_with fail
    go_ret
    exact ⟨_, rfl, by unfold subL; rw [if_neg (fun h => HN.out h.1)]; exact OwnI.nil _ _, HX1.out.2.2⟩
  · have HK : Hid (okL la = true ∧ okL lb = true) := (by simpa using h : okL la = true ∧ okL lb = true)
    have ka := okL_true HK.out.1
    have kb := okL_true HK.out.2
    have HD : Hid (Dig la ∧ Dig lb ∧ Top lb) := ⟨ka.2.1, kb.2.1, kb.2.2⟩
    have hla := ka.1
    have hlb := kb.1
    clear ka kb
    go_wp2_with fail
    refine (compare_any a b la lb w1 (by omega) (by omega) HD.out.1 HD.out.2.1 HX1.out.1 HX1.out.2.1).mono ?_
    rintro e w2 ⟨rfl, hb2⟩
    have HO2 : Hid (IntAt w2 a la ∧ IntAt w2 b lb ∧ Below w.heap.size w w2) := ⟨HX1.out.1.below hb2, HX1.out.2.1.below hb2, HX1.out.2.2.trans (hb2.mono HX1.out.2.2.size)⟩
    clear hb2
    have HC : Hid ((cmpI (ev la) (ev lb) < 0 ↔ ev la < ev lb)) := cmpI_neg
    generalize cmpI (ev la) (ev lb) = c at *
    by_cases hc : c < 0
    · go_wp2_with fail
      go_ret
      exact ⟨_, rfl, by unfold subL; rw [if_neg (fun h => by have := HC.out.1 hc; omega)]; exact OwnI.nil _ _, HO2.out.2.2⟩
    · have hle : Hid (ev lb ≤ ev la) := Int.not_lt.1 (fun h => hc (HC.out.2 h))
      go_wp2_with fail
      refine (minus_any a b la lb w2 (by omega) HD.out.1 HD.out.2.1 HD.out.2.2 hle.out HO2.out.1 HO2.out.2.1).mono ?_
      rintro e w3 ⟨v, rfl, ho3, hb3⟩
      have HO3 : Hid (OwnI w3 w.heap.size v (subL la lb) ∧ Below w.heap.size w w3) := by
        refine ⟨?_, HO2.out.2.2.trans (hb3.mono HO2.out.2.2.size)⟩
        unfold subL
        rw [if_pos ⟨HK.out, hle.out⟩]
        exact ho3.base HO2.out.2.2.size
      clear ho3 hb3
      go_wp2_with fail
      go_ret
      exact ⟨_, rfl, HO3.out⟩

set_option maxHeartbeats 800000 in
set_option maxRecDepth 100000 in
theorem implDiv_any (a b : Value) (la lb : List Int) (w : World) (hl : la.length ≤ 10000000) (hl2 : lb.length ≤ 10000000) (wa : Wd la) (wb : Wd lb) (ha : IntAt w a la) (hb : IntAt w b lb) :
    Calls Try.prog 24 #[a, b] w fun e w' => ∃ v u, e = .returned (.tuple #[v, u]) ∧ OwnI w' w.heap.size v (quoL la lb) ∧ OwnI w' w.heap.size u (remL la lb) ∧ Below w.heap.size w w' ∧ Ap v u ∧ Ap u v := by
  have HX : Hid (IntAt w a la ∧ IntAt w b lb) := ⟨ha, hb⟩
  have E := bothRight_any a b la lb w hl hl2 wa wb ha hb
  clear wa wb ha hb
  go_enter Try.func24, Try.ntmps24
  go_wp2_with fail
  refine E.mono ?_
  rintro e w1 ⟨rfl, hb1⟩
  clear E
  have HX1 : Hid (IntAt w1 a la ∧ IntAt w1 b lb ∧ Below w.heap.size w w1) := ⟨HX.out.1.below hb1, HX.out.2.below hb1, hb1⟩
  clear hb1 HX
  obtain ⟨bo, bc, hbe, _⟩ := HX1.out.2.1
  subst hbe
  rcases h : (okL la && okL lb) with _ | _
  · have HN : Hid (¬ (okL la = true ∧ okL lb = true)) := fun h2 => by simp [h2.1, h2.2] at h
    go_wp2_with fail
    go_ret2
    exact ⟨_, _, rfl, by unfold quoL; rw [if_neg (fun h => HN.out h.1)]; exact OwnI.nil _ _, by unfold remL; rw [if_neg (fun h => HN.out h.1)]; exact OwnI.nil _ _, HX1.out.2.2, .inl rfl, .inl rfl⟩
  · have HK : Hid (okL la = true ∧ okL lb = true) := (by simpa using h : okL la = true ∧ okL lb = true)
    have ka := okL_true HK.out.1
    have kb := okL_true HK.out.2
    have HD : Hid (Dig la ∧ Dig lb ∧ Top lb) := ⟨ka.2.1, kb.2.1, kb.2.2⟩
    have hla := ka.1
    have hlb := kb.1
    clear ka kb
    by_cases h0 : lb.length = 0
    · have h0' : ((lb.length : Int) == 0) = true := by simpa using h0
      have HN : Hid (¬ 0 < lb.length) := by show ¬ 0 < lb.length; omega
      go_wp2_with fail
      go_ret2
      exact ⟨_, _, rfl, by unfold quoL; rw [if_neg (fun h => HN.out h.2)]; exact OwnI.nil _ _, by unfold remL; rw [if_neg (fun h => HN.out h.2)]; exact OwnI.nil _ _, HX1.out.2.2, .inl rfl, .inl rfl⟩
    · have h0' : ((lb.length : Int) == 0) = false := by simpa using h0
      have hpos : 0 < lb.length := by omega
      go_wp2_with fail
      refine (over_any a _ la lb w1 (by omega) (by omega) HD.out.1 HD.out.2.1 HD.out.2.2 hpos HX1.out.1 HX1.out.2.1).mono ?_
      rintro e w2 ⟨v, u, rfl, ho2, hp2, hb2, hap⟩
      have HO2 : Hid (OwnI w2 w.heap.size v (quoL la lb) ∧ OwnI w2 w.heap.size u (remL la lb) ∧ Below w.heap.size w w2 ∧ Ap v u ∧ Ap u v) := by
        refine ⟨?_, ?_, HX1.out.2.2.trans (hb2.mono HX1.out.2.2.size), hap⟩
        · unfold quoL
          rw [if_pos ⟨HK.out, hpos⟩]
          exact ho2.base HX1.out.2.2.size
        · unfold remL
          rw [if_pos ⟨HK.out, hpos⟩]
          exact hp2.base HX1.out.2.2.size
      clear ho2 hp2 hb2 hap
      go_wp2_with fail
      go_ret2
      exact ⟨_, _, rfl, HO2.out⟩
end Go.Proofs.Ytcihpaohmngodaa
