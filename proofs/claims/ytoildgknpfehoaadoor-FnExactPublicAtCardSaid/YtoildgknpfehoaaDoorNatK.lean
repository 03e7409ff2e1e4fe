/-
  The program's own functions over great numbers: both are right; within the limit; compared, added, taken away, multiplied, divided.
-/
import Derived.Test.YtoildgknpfehoaaDoorNatF
import Derived.Test.YtoildgknpfehoaaDoorNatG
import Derived.Test.YtoildgknpfehoaaDoorNatH
import Derived.Test.YtoildgknpfehoaaDoorNatI
import Derived.Test.YtoildgknpfehoaaDoorNatJ
import Derived.Test.YtoildgknpfehoaaDoorArgI
namespace Go.Proofs.YtoildgknpfehoaaDoor
open Go.RowKit

theorem okL_true {l : List Int} (h : okL l = true) : l.length ≤ 40 ∧ Dig l ∧ Top l := (okL_iff l).1 h
def limL (l : List Int) : List Int := if l.length ≤ 40 then l else []
def cmpL (a b : List Int) : Int := if okL a = true ∧ okL b = true then cmpI (ev a) (ev b) else 0
def addL (a b : List Int) : List Int := if okL a = true ∧ okL b = true then limL (digs (ev a + ev b)) else []
def subL (a b : List Int) : List Int := if (okL a = true ∧ okL b = true) ∧ ev b ≤ ev a then digs (ev a - ev b) else []
def mulL (a b : List Int) : List Int := if okL a = true ∧ okL b = true then limL (digs (ev a * ev b)) else []
def quoL (a b : List Int) : List Int := if (okL a = true ∧ okL b = true) ∧ 0 < b.length then digs (ev a / ev b) else []
def remL (a b : List Int) : List Int := if (okL a = true ∧ okL b = true) ∧ 0 < b.length then digs (ev a % ev b) else []

set_option maxHeartbeats 800000 in
set_option maxRecDepth 100000 in
theorem bothRight_any (a b : Value) (la lb : List Int) (w : World) (hl : la.length ≤ 10000000) (hl2 : lb.length ≤ 10000000) (wa : Wd la) (wb : Wd lb) (ha : IntAt w a la) (hb : IntAt w b lb) :
    Calls Tryd.prog 60 #[a, b] w fun e w' => e = .returned (.bool (okL la && okL lb)) ∧ Below w.heap.size w w' := by
  have HA : Hid (Wd la ∧ IntAt w a la) := ⟨wa, ha⟩
  have HB : Hid (Wd lb ∧ IntAt w b lb) := ⟨wb, hb⟩
  clear wa wb ha hb
  go_enter Tryd.func60, Tryd.ntmps60
  go_wp2_with fail
  refine (right_any a la w hl HA.out.2 HA.out.1).mono ?_
  rintro e w1 ⟨rfl, hb1⟩
  have HB1 : Hid (IntAt w1 b lb ∧ Below w.heap.size w w1) := ⟨HB.out.2.below hb1, hb1⟩
  clear hb1
  rcases h : okL la with _ | _
  · go_wp2_with fail
    go_ret
    exact ⟨congrArg (fun z => Ending.returned (Value.bool z)) (show false = (okL la && okL lb) by simp [h]), HB1.out.2⟩
  · go_wp2_with fail
    refine (right_any b lb w1 hl2 HB1.out.1 HB.out.1).mono ?_
    rintro e w2 ⟨rfl, hb2⟩
    have HB2 : Hid (Below w.heap.size w w2) := HB1.out.2.trans (hb2.mono HB1.out.2.size)
    clear hb2
    go_wp2_with fail
    go_ret
    exact ⟨congrArg (fun z => Ending.returned (Value.bool z)) (show okL lb = (okL la && okL lb) by simp [h]), HB2.out⟩

set_option maxHeartbeats 800000 in
set_option maxRecDepth 100000 in
theorem implCmp_any (a b : Value) (la lb : List Int) (w : World) (hl : la.length ≤ 10000000) (hl2 : lb.length ≤ 10000000) (wa : Wd la) (wb : Wd lb) (ha : IntAt w a la) (hb : IntAt w b lb) :
    Calls Tryd.prog 37 #[a, b] w fun e w' => e = .returned (.int .i64 (cmpL la lb)) ∧ Below w.heap.size w w' := by
  have HX : Hid (IntAt w a la ∧ IntAt w b lb) := ⟨ha, hb⟩
  have E := bothRight_any a b la lb w hl hl2 wa wb ha hb
  clear wa wb ha hb
  go_enter Tryd.func37, Tryd.ntmps37
  go_wp2_with fail
  refine E.mono ?_
  rintro e w1 ⟨rfl, hb1⟩
  clear E
  have HX1 : Hid (IntAt w1 a la ∧ IntAt w1 b lb ∧ Below w.heap.size w w1) := ⟨HX.out.1.below hb1, HX.out.2.below hb1, hb1⟩
  clear hb1 HX
  rcases h : (okL la && okL lb) with _ | _
  · have HN : Hid (¬ (okL la = true ∧ okL lb = true)) := fun h2 => by simp [h2.1, h2.2] at h
    go_wp2_with fail
    go_ret
    exact ⟨congrArg (fun z => Ending.returned (Value.int .i64 z)) (show 0 = cmpL la lb by unfold cmpL; rw [if_neg HN.out]), HX1.out.2.2⟩
  · have HK : Hid (okL la = true ∧ okL lb = true) := (by simpa using h : okL la = true ∧ okL lb = true)
    have ka := okL_true HK.out.1
    have kb := okL_true HK.out.2
    have HD : Hid (Dig la ∧ Dig lb) := ⟨ka.2.1, kb.2.1⟩
    have hla := ka.1
    have hlb := kb.1
    clear ka kb
    go_wp2_with fail
    refine (compare_any a b la lb w1 (by omega) (by omega) HD.out.1 HD.out.2 HX1.out.1 HX1.out.2.1).mono ?_
    rintro e w2 ⟨rfl, hb2⟩
    have HO2 : Hid (cmpI (ev la) (ev lb) = cmpL la lb ∧ Below w.heap.size w w2) := ⟨by unfold cmpL; rw [if_pos HK.out], HX1.out.2.2.trans (hb2.mono HX1.out.2.2.size)⟩
    clear hb2
    go_wp2_with fail
    go_ret
    exact ⟨congrArg (fun z => Ending.returned (Value.int .i64 z)) HO2.out.1, HO2.out.2⟩

end Go.Proofs.YtoildgknpfehoaaDoor
