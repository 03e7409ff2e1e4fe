/-
  Texts of the proof.
-/
import Derived.Test.YtllmgjfffkhocaaPO17
set_option maxRecDepth 100000
set_option maxHeartbeats 25600000
namespace Go.Proofs.Ytllmgjfffkhocaa
open Go.RowKit
set_option linter.unusedVariables false
def IxP (b : Bool) (w : World) (e : Ending) (w' : World) : Prop := ∃ n : Int, e = .returned (.int .i64 n) /\ decide (0 <= n) = b /\ Below w.heap.size w w'
end Go.Proofs.Ytllmgjfffkhocaa
namespace Go.Proofs.Ytllmgjfffkhocaa
open Go.RowKit
set_option linter.unusedVariables false
set_option linter.unusedSimpArgs false
def inN (n : Nat) (K : Int) : Bool := decide (0 <= K /\ K < (n : Int))
def plOk (m : Nat) (p : Pn) : Bool := inB p.id 0 99 && (ruOk { p.ru with time := 0 } && (inB (p.anc.length : Int) 1 3 && (ascG lsI 0 p.anc && p.anc.all (inN m))))
def plansOk (m : Nat) (l : List Pn) : Bool := decide (l.length <= 6) && (l.all (plOk m) && ascG lsI 0 (l.map Pn.id))
theorem inN_no {l : List Int} {m k : Nat} (hk : k < l.length) (h : inN m (l.getD k 0) = false) : l.all (inN m) = false := by
 rw [Bool.eq_false_iff]
 intro q
 have e : l.getD k 0 = l[k] := by simp [List.getD, hk]
 have := List.all_eq_true.1 q l[k] (List.getElem_mem hk)
 rw [<- e, h] at this
 cases this
theorem inN_yes {l : List Int} {m : Nat} (h : ∀ k, k < l.length -> inN m (l.getD k 0) = true) : l.all (inN m) = true := by
 rw [List.all_eq_true]
 intro x hx
 obtain ⟨k, hk, rfl⟩ := List.getElem_of_mem hx
 have := h k hk
 have e : l.getD k 0 = l[k] := by simp [List.getD, hk]
 rwa [e] at this
theorem plans_no {l : List Pn} {m k : Nat} (hk : k < l.length) (h : plOk m l[k] = false) : plansOk m l = false := by
 have : l.all (plOk m) = false := by
  rw [Bool.eq_false_iff]
  intro q
  have := List.all_eq_true.1 q l[k] (List.getElem_mem hk)
  rw [h] at this
  cases this
 unfold plansOk
 rw [this]
 simp
theorem plans_long {l : List Pn} {m : Nat} (h : ¬ l.length <= 6) : plansOk m l = false := by
 unfold plansOk
 rw [decide_eq_false h]
 rfl
theorem plans_all {l : List Pn} {m : Nat} (h6 : l.length <= 6) (h : ∀ k (hk : k < l.length), plOk m l[k] = true) : plansOk m l = ascG lsI 0 (l.map Pn.id) := by
 have : l.all (plOk m) = true := by
  rw [List.all_eq_true]
  intro x hx
  obtain ⟨k, hk, rfl⟩ := List.getElem_of_mem hx
  exact h k hk
 unfold plansOk
 rw [this, decide_eq_true h6]
 rfl
theorem oneI_new (w : World) (x : Int) : OwnI (w.alloc (Obj.cells #[.int .i64 x] 3)) w.heap.size (.slice (some ⟨w.heap.size, 0, none⟩) 1 1) [x] :=
 ⟨rfl, .inr ⟨w.heap.size, 1, #[.int .i64 x], rfl, Nat.le_refl _, heap_alloc_new w _, Nat.le_refl _, by decide, rfl, rfl⟩⟩
def orM (n one : Int) (met : Bool) : Int := if met then bits BinOp.or IntKind.u8 n one else n
def nmV (b1 b2 b3 b4 b5 : Bool) : Int := orM (orM (orM (orM (orM 0 1 b1) 2 b2) 4 b3) 8 b4) 16 b5
theorem nm_all (b1 b2 b3 b4 b5 : Bool) : (nmV b1 b2 b3 b4 b5 != 31) = !(b1 && (b2 && (b3 && (b4 && b5)))) := by
 cases b1 <;> cases b2 <;> cases b3 <;> cases b4 <;> cases b5 <;> decide
theorem plus_any (n one : Int) (met : Bool) (w : World) : Calls Try.prog 78 #[.int .u8 n, .int .u8 one, .bool met] w fun e w' => e = .returned (.int .u8 (orM n one met)) /\ Below w.heap.size w w' := by
 cases met with
 | false =>
  go_enter Try.func78, Try.ntmps78
  go_wp2_with fail
  go_ret
  exact ⟨rfl, Below.refl _ _⟩
 | true =>
  go_enter Try.func78, Try.ntmps78
  go_wp2_with fail
  go_ret
  exact ⟨rfl, Below.refl _ _⟩
theorem missing_any (a1 : Option Addr) (n1 c1 : Nat) (a2 : Option Addr) (n2 c2 : Nat) (a3 : Option Addr) (n3 c3 : Nat) (gS : Nat) (K : Int) (w : World) (hn : n3 <= 1000000000) (hs : Blk w gS 37 #[.slice a1 n1 c1, .slice a2 n2 c2, .slice a3 n3 c3]) :
  Calls Try.prog 77 #[.int .i64 K, .pointer (some ⟨gS, 0, none⟩)] w fun e w' => e = .returned (.bool (!inN n3 K)) /\ Below w.heap.size w w' := by
 have EH := hasAnchor_any a1 n1 c1 a2 n2 c2 a3 n3 c3 K w hn
 obtain ⟨B, hB⟩ := zE (decide (0 <= K /\ K < (n3 : Int)))
 have hB2 : inN n3 K = B := hB
 rw [hB] at EH
 rw [hB2]
 have s0 : w.cell? ⟨gS, 0, none⟩ = some (.slice a1 n1 c1) := hs.cell 0
 have s1 : w.cell? ⟨gS, 1, none⟩ = some (.slice a2 n2 c2) := hs.cell 1
 have s2 : w.cell? ⟨gS, 2, none⟩ = some (.slice a3 n3 c3) := hs.cell 2
 clear hB hB2 hs
 go_enter Try.func77, Try.ntmps77
 go_wp2_with fail
 refine EH.mono ?_
 rintro e w2 ⟨rfl, hb⟩
 have G : Hid (Below w.heap.size w w2) := hb
 clear EH hb s0 s1 s2
 go_wp2_with fail
 go_ret
 exact ⟨rfl, G.out⟩
theorem indexMissing_any (l : List Int) (v : Value) (a1 : Option Addr) (n1 c1 : Nat) (a2 : Option Addr) (n2 c2 : Nat) (a3 : Option Addr) (n3 c3 : Nat) (gS : Nat) (w : World) (hl : l.length <= 1000000000) (hn : n3 <= 1000000000) (hs : Blk w gS 37 #[.slice a1 n1 c1, .slice a2 n2 c2, .slice a3 n3 c3]) (ha : IntAt w v l) :
  Calls Try.prog 97 #[v, .func (.func 77) #[] #[.pointer (some ⟨gS, 0, none⟩)]] w fun e w' => IxP (!l.all (inN n3)) w e w' := by
 obtain ⟨pa, pc, hpa, hcell⟩ := ha.each
 obtain ⟨n, hn2⟩ := zE (l.length)
 rw [hn2] at hpa hl
 subst hpa
 have HT : Hid ((∀ j, j < n -> ∃ g, pa = some ⟨g, 0, none⟩ /\ g < w.heap.size /\ w.cell? ⟨g, j, none⟩ = some (.int .i64 (l.getD j 0))) /\ l.length = n) := ⟨fun j hj => hcell j (by omega), hn2⟩
 have HM : Hid (∀ (K : Int) (W : World), Below w.heap.size w W -> Calls Try.prog 77 #[.int .i64 K, .pointer (some ⟨gS, 0, none⟩)] W fun e w' => e = .returned (.bool (!inN n3 K)) /\ Below W.heap.size W w') := fun K W hb => missing_any a1 n1 c1 a2 n2 c2 a3 n3 c3 gS K W hn (hs.below hb hs.lt)
 clear hcell hn2 ha hs
 go_enter Try.func97, Try.ntmps97
 go_wp2_with fail
 go_loopw [8] (fun iv wr => ∃ k : Nat, k <= n /\ iv = .int .i64 k /\ Hid (∀ j, j < k -> inN n3 (l.getD j 0) = true) /\ Hid (Below w.heap.size w wr)) (fun iv _ => n - (intOf iv).toNat)
 case atStart => exact ⟨0, Nat.zero_le _, rfl, fun j hj => absurd hj (Nat.not_lt_zero _), Below.refl _ _⟩
 case round =>
  obtain ⟨k, hk, rfl, HL, G1⟩ := hrel
  by_cases hlt : k < n
  ·obtain ⟨g, hpg, hgw, hcs⟩ := HT.out.1 k hlt
   obtain ⟨K, hK⟩ := zE (l.getD k 0)
   rw [hK] at hcs
   have HK : Hid (l.getD k 0 = K) := hK
   have hc1 : wr.cell? ⟨g, k, none⟩ = some (.int .i64 K) := (G1.out.cell (p := ⟨g, k, none⟩) hgw).trans hcs
   have hki : (k : Int) < (n : Int) := by omega
   have hk0 : (0 : Int) <= (k : Int) := by omega
   have EA := HM.out K wr G1.out
   obtain ⟨B, hB⟩ := zE (inN n3 K)
   have HB : Hid (inN n3 K = B) := hB
   rw [hB] at EA
   subst hpg
   clear hcs hgw hK hB
   go_wp2_with fail
   refine EA.mono ?_
   rintro e w2 ⟨rfl, hb⟩
   have G2 : Hid (Below w.heap.size w w2) := G1.out.trans (hb.mono G1.out.size)
   clear EA hb G1 hc1
   cases B with
   | false =>
    have HF : Hid (l.all (inN n3) = false) := inN_no (k := k) (by rw [HT.out.2]; exact hlt) (by rw [HK.out]; exact HB.out)
    go_wp2_with fail
    go_ret
    exact ⟨_, rfl, by rw [HF.out]; exact decide_eq_true hk0, G2.out⟩
   | true =>
    have HN : Hid (∀ j, j < k + 1 -> inN n3 (l.getD j 0) = true) := fun j h => by
     rcases Nat.lt_or_ge j k with h | h
     ·exact HL.out j h
     ·have : j = k := by omega
      subst this
      rw [HK.out]
      exact HB.out
    clear HL
    go_wp2_with fail
    go_roundw
    case rel => exact ⟨k + 1, by omega, by go_num, HN, G2⟩
    case measure => simp [intOf]; omega
  ·have hkl : n = k := by omega
   subst hkl
   have HF : Hid (l.all (inN n3) = true) := inN_yes (fun j hj => HL.out j (by rw [<- HT.out.2]; exact hj))
   go_wp2_with fail
   go_ret
   exact ⟨_, rfl, by rw [HF.out]; rfl, G1.out⟩
theorem containsMissing_any (l : List Int) (v : Value) (a1 : Option Addr) (n1 c1 : Nat) (a2 : Option Addr) (n2 c2 : Nat) (a3 : Option Addr) (n3 c3 : Nat) (gS : Nat) (w : World) (hl : l.length <= 1000000000) (hn : n3 <= 1000000000) (hs : Blk w gS 37 #[.slice a1 n1 c1, .slice a2 n2 c2, .slice a3 n3 c3]) (ha : IntAt w v l) :
  Calls Try.prog 81 #[v, .func (.func 77) #[] #[.pointer (some ⟨gS, 0, none⟩)]] w fun e w' => e = .returned (.bool (!l.all (inN n3))) /\ Below w.heap.size w w' := by
 have EA := indexMissing_any l v a1 n1 c1 a2 n2 c2 a3 n3 c3 gS w hl hn hs ha
 obtain ⟨pa, pc, hpa, -⟩ := ha.each
 obtain ⟨n, hn2⟩ := zE (l.length)
 rw [hn2] at hpa
 subst hpa
 obtain ⟨B, hB⟩ := zE ((!l.all (inN n3)))
 rw [hB] at EA |-
 clear hB ha hn2 hs hl
 go_enter Try.func81, Try.ntmps81
 go_wp2_with fail
 refine EA.mono ?_
 rintro e w2 ⟨q, rfl, hq, hb⟩
 have G2 : Hid (Below w.heap.size w w2) := hb
 have HN : Hid (decide (0 <= q) = B) := hq
 clear EA hb hq
 go_wp2_with fail
 go_ret
 exact ⟨by show Ending.returned (.bool (decide (0 <= q))) = _; rw [HN.out], G2.out⟩
theorem anyTime_any (c : Ru) (v : Value) (w : World) (hz : wtU c <= 1000000000) (ha : RuAt w v c) :
  Calls Try.prog 80 #[v] w fun e w' => e = .returned (.bool (ruOk { c with time := 0 })) /\ Below w.heap.size w w' := by
 obtain ⟨pv, rfl, h1⟩ := ha
 obtain ⟨pa, pc, hpa, -⟩ := h1.each
 obtain ⟨lp, hlp⟩ := zE (c.pol.length)
 rw [hlp] at hpa
 subst hpa
 obtain ⟨V, hV⟩ : ∃ V, V = w.alloc (Obj.cells #[.int .i64 0, .slice pa lp pc, .bool c.expl, .bool c.chk, .int .i64 c.usage] 54) := ⟨_, rfl⟩
 have HV : Hid (Below w.heap.size w V /\ Blk V w.heap.size 54 #[.int .i64 0, .slice pa lp pc, .bool c.expl, .bool c.chk, .int .i64 c.usage]) := by rw [hV]; exact ⟨(Below.refl _ _).alloc (Nat.le_refl _) _, Blk.new _ _ _⟩
 have ER : Calls Try.prog 96 #[.agg #[.int .i64 0, .slice pa lp pc, .bool c.expl, .bool c.chk, .int .i64 c.usage]] V fun e w' => e = .returned (.bool (ruOk { c with time := 0 })) /\ Below V.heap.size V w' := implRulesOk_any { c with time := 0 } _ V hz ⟨.slice pa lp pc, rfl, h1.below HV.out.1⟩
 obtain ⟨B, hB⟩ := zE (ruOk { c with time := 0 })
 rw [hB] at ER |-
 have d0 : V.cell? ⟨w.heap.size, 0, none⟩ = some (.int .i64 0) := HV.out.2.cell 0
 have d1 : V.cell? ⟨w.heap.size, 1, none⟩ = some (.slice pa lp pc) := HV.out.2.cell 1
 have d2 : V.cell? ⟨w.heap.size, 2, none⟩ = some (.bool c.expl) := HV.out.2.cell 2
 have d3 : V.cell? ⟨w.heap.size, 3, none⟩ = some (.bool c.chk) := HV.out.2.cell 3
 have d4 : V.cell? ⟨w.heap.size, 4, none⟩ = some (.int .i64 c.usage) := HV.out.2.cell 4
 clear hB h1 hlp hz
 unfold ruV
 go_enter Try.func80, Try.ntmps80
 go_upto_region 2 with fail
 change Code.wp _ _ _ _ (w.alloc (Obj.cells #[.int .i64 0, .slice pa lp pc, .bool c.expl, .bool c.chk, .int .i64 c.usage] 54))
 rw [<- hV]
 clear hV
 go_wp2_with fail
 refine ER.mono ?_
 rintro e w2 ⟨rfl, hb⟩
 have G : Hid (Below w.heap.size w w2) := HV.out.1.trans (hb.mono HV.out.1.size)
 clear ER hb d0 d1 d2 d3 d4
 go_wp2_with fail
 go_ret
 exact ⟨rfl, G.out⟩
theorem needsMet_any (p : Pn) (u : Value) (a1 : Option Addr) (n1 c1 : Nat) (a2 : Option Addr) (n2 c2 : Nat) (a3 : Option Addr) (n3 c3 : Nat) (w : World) (hz : wtPn p <= 1000000000) (hn : n3 <= 1000000000) (hp : PnAt w u p) :
  Calls Try.prog 42 #[u, .agg #[.slice a1 n1 c1, .slice a2 n2 c2, .slice a3 n3 c3]] w fun e w' => (∃ r : Int, e = .returned (.int .u8 r) /\ (r != 31) = !plOk n3 p) /\ Below w.heap.size w w' := by
 obtain ⟨pp, pe, rfl, hp1, hp2⟩ := hp
 obtain ⟨ap, cp, hpv, -⟩ := id hp1.each
 obtain ⟨ae, ce, hev, -⟩ := id hp2.each
 obtain ⟨np, hnp⟩ := zE (p.anc.length)
 obtain ⟨ne, hne⟩ := zE (p.ru.pol.length)
 rw [hnp] at hpv
 rw [hne] at hev
 subst hpv hev
 have hlz : p.anc.length <= 1000000000 /\ p.ru.pol.length <= 1000000000 := wtPn_lens hz
 obtain ⟨B1, hB1⟩ := zE (inB p.id 0 99)
 obtain ⟨B2, hB2⟩ := zE (ruOk { p.ru with time := 0 })
 obtain ⟨B3, hB3⟩ := zE (inB (p.anc.length : Int) 1 3)
 obtain ⟨B4, hB4⟩ := zE (ascG lsI 0 p.anc)
 obtain ⟨B5, hB5⟩ := zE (p.anc.all (inN n3))
 have E1 : Hid (∀ W, Below w.heap.size w W -> Blk W (w.heap.size + 1) 37 #[.slice a1 n1 c1, .slice a2 n2 c2, .slice a3 n3 c3] -> Calls Try.prog 79 #[.int .i64 99, .int .i64 p.id] W fun e w' => e = .returned (.bool B1) /\ Below W.heap.size W w') := fun W _ _ => by rw [<- hB1]; exact upTo_any _ _ W
 have E2 : Hid (∀ W, Below w.heap.size w W -> Blk W (w.heap.size + 1) 37 #[.slice a1 n1 c1, .slice a2 n2 c2, .slice a3 n3 c3] -> Calls Try.prog 80 #[.agg #[.int .i64 p.ru.time, .slice ae ne ce, .bool p.ru.expl, .bool p.ru.chk, .int .i64 p.ru.usage]] W fun e w' => e = .returned (.bool B2) /\ Below W.heap.size W w') := fun W hb _ => by rw [<- hB2]; exact anyTime_any p.ru _ W hlz.2 ⟨.slice ae ne ce, rfl, hp2.below hb⟩
 have E4 : Hid (∀ W, Below w.heap.size w W -> Blk W (w.heap.size + 1) 37 #[.slice a1 n1 c1, .slice a2 n2 c2, .slice a3 n3 c3] -> Calls Try.prog 43 #[.slice ap np cp] W fun e w' => e = .returned (.bool B4) /\ Below W.heap.size W w') := fun W hb _ => by rw [<- hB4]; exact ascI_any _ p.anc W hlz.1 (hp1.below hb)
 have E5 : Hid (∀ W, Below w.heap.size w W -> Blk W (w.heap.size + 1) 37 #[.slice a1 n1 c1, .slice a2 n2 c2, .slice a3 n3 c3] -> Calls Try.prog 81 #[.slice ap np cp, .func (.func 77) #[] #[.pointer (some ⟨w.heap.size + 1, 0, none⟩)]] W fun e w' => e = .returned (.bool (!B5)) /\ Below W.heap.size W w') := fun W hb hs => by rw [<- hB5]; exact containsMissing_any p.anc _ a1 n1 c1 a2 n2 c2 a3 n3 c3 (w.heap.size + 1) W hlz.1 hn hs (hp1.below hb)
 obtain ⟨X0, hX0⟩ : ∃ x : Int, (0 : Int) = x := ⟨_, rfl⟩
 obtain ⟨X1, hX1⟩ := zE (orM X0 1 B1)
 obtain ⟨X2, hX2⟩ := zE (orM X1 2 B2)
 obtain ⟨X3, hX3⟩ := zE (orM X2 4 B3)
 obtain ⟨X4, hX4⟩ := zE (orM X3 8 B4)
 obtain ⟨X5, hX5⟩ := zE (orM X4 16 B5)
 have HF : Hid ((X5 != 31) = !plOk n3 p) := by
  show (X5 != 31) = _
  rw [<- hX5, <- hX4, <- hX3, <- hX2, <- hX1, <- hX0]
  unfold plOk
  rw [hB1, hB2, hB3, hB4, hB5]
  exact nm_all B1 B2 B3 B4 B5
 have HB3 : Hid (decide ((1 : Int) <= (np : Int) /\ (np : Int) <= 3) = B3) := by show _ = B3; rw [<- hB3, hnp]; rfl
 have hnpl : np <= 1000000000 := by rw [<- hnp]; exact hlz.1
 have hmf : ∀ (fn : Fn) (first cap : Array Value) (w : World), (Instr.makeFunc fn first cap).run Try.prog w = .ok (.func fn first cap) w := fun _ _ _ _ => rfl
 clear hB1 hB2 hB3 hB4 hB5 hp1 hp2 hlz hz hnp hne
 obtain ⟨V0, hV⟩ : ∃ V, V = (w.alloc (Obj.cells #[.int .i64 p.id, .slice ap np cp, .int .i64 p.ru.time, .slice ae ne ce, .bool p.ru.expl, .bool p.ru.chk, .int .i64 p.ru.usage] 57)).alloc (Obj.cells #[.slice a1 n1 c1, .slice a2 n2 c2, .slice a3 n3 c3] 37) := ⟨_, rfl⟩
 have G0 : Hid (Below w.heap.size w V0 /\ Blk V0 w.heap.size 57 #[.int .i64 p.id, .slice ap np cp, .int .i64 p.ru.time, .slice ae ne ce, .bool p.ru.expl, .bool p.ru.chk, .int .i64 p.ru.usage] /\ Blk V0 (w.heap.size + 1) 37 #[.slice a1 n1 c1, .slice a2 n2 c2, .slice a3 n3 c3]) := by
  have e0 : (w.alloc (Obj.cells #[.int .i64 p.id, .slice ap np cp, .int .i64 p.ru.time, .slice ae ne ce, .bool p.ru.expl, .bool p.ru.chk, .int .i64 p.ru.usage] 57)).heap.size = w.heap.size + 1 := Array.size_push _
  have h := Blk.new (w.alloc (Obj.cells #[.int .i64 p.id, .slice ap np cp, .int .i64 p.ru.time, .slice ae ne ce, .bool p.ru.expl, .bool p.ru.chk, .int .i64 p.ru.usage] 57)) 37 #[.slice a1 n1 c1, .slice a2 n2 c2, .slice a3 n3 c3]
  rw [e0] at h
  rw [hV]
  exact ⟨((Below.refl _ _).alloc (Nat.le_refl _) _).alloc (by rw [e0]; omega) _, (Blk.new w _ _).alloc _, h⟩
 unfold pnV
 go_enter Try.func42, Try.ntmps42
 go_upto_region 1 with fail
 rw [<- hV]
 clear hV
 go_upto_region 3 with fail
 try rw [hX0]
 obtain ⟨d0, d1, d2, d3, d4, d5, d6⟩ := zc7 G0.out.2.1
 go_wp2_with fail
 refine (E1.out V0 G0.out.1 G0.out.2.2).mono ?_
 rintro e V1 ⟨rfl, hb⟩
 have G1 : Hid (Below w.heap.size w V1 /\ Blk V1 w.heap.size 57 #[.int .i64 p.id, .slice ap np cp, .int .i64 p.ru.time, .slice ae ne ce, .bool p.ru.expl, .bool p.ru.chk, .int .i64 p.ru.usage] /\ Blk V1 (w.heap.size + 1) 37 #[.slice a1 n1 c1, .slice a2 n2 c2, .slice a3 n3 c3]) := ⟨G0.out.1.trans (hb.mono G0.out.1.size), G0.out.2.1.below hb G0.out.2.1.lt, G0.out.2.2.below hb G0.out.2.2.lt⟩
 clear hb G0
 clear d0 d1 d2 d3 d4 d5 d6
 go_wp2_with fail
 refine (plus_any X0 1 B1 V1).mono ?_
 rintro e V2 ⟨rfl, hb⟩
 have G2 : Hid (Below w.heap.size w V2 /\ Blk V2 w.heap.size 57 #[.int .i64 p.id, .slice ap np cp, .int .i64 p.ru.time, .slice ae ne ce, .bool p.ru.expl, .bool p.ru.chk, .int .i64 p.ru.usage] /\ Blk V2 (w.heap.size + 1) 37 #[.slice a1 n1 c1, .slice a2 n2 c2, .slice a3 n3 c3]) := ⟨G1.out.1.trans (hb.mono G1.out.1.size), G1.out.2.1.below hb G1.out.2.1.lt, G1.out.2.2.below hb G1.out.2.2.lt⟩
 clear hb G1
 rw [hX1]
 obtain ⟨d0, d1, d2, d3, d4, d5, d6⟩ := zc7 G2.out.2.1
 go_wp2_with fail
 refine (E2.out V2 G2.out.1 G2.out.2.2).mono ?_
 rintro e V3 ⟨rfl, hb⟩
 have G3 : Hid (Below w.heap.size w V3 /\ Blk V3 w.heap.size 57 #[.int .i64 p.id, .slice ap np cp, .int .i64 p.ru.time, .slice ae ne ce, .bool p.ru.expl, .bool p.ru.chk, .int .i64 p.ru.usage] /\ Blk V3 (w.heap.size + 1) 37 #[.slice a1 n1 c1, .slice a2 n2 c2, .slice a3 n3 c3]) := ⟨G2.out.1.trans (hb.mono G2.out.1.size), G2.out.2.1.below hb G2.out.2.1.lt, G2.out.2.2.below hb G2.out.2.2.lt⟩
 clear hb G2
 clear d0 d1 d2 d3 d4 d5 d6
 go_wp2_with fail
 refine (plus_any X1 2 B2 V3).mono ?_
 rintro e V4 ⟨rfl, hb⟩
 have G4 : Hid (Below w.heap.size w V4 /\ Blk V4 w.heap.size 57 #[.int .i64 p.id, .slice ap np cp, .int .i64 p.ru.time, .slice ae ne ce, .bool p.ru.expl, .bool p.ru.chk, .int .i64 p.ru.usage] /\ Blk V4 (w.heap.size + 1) 37 #[.slice a1 n1 c1, .slice a2 n2 c2, .slice a3 n3 c3]) := ⟨G3.out.1.trans (hb.mono G3.out.1.size), G3.out.2.1.below hb G3.out.2.1.lt, G3.out.2.2.below hb G3.out.2.2.lt⟩
 clear hb G3
 rw [hX2]
 go_upto_region 5 with fail
 go_cut [6] from 8 (fun s6 wx => s6 = .int .u8 X3 /\ Hid (Below w.heap.size w wx /\ Blk wx w.heap.size 57 #[.int .i64 p.id, .slice ap np cp, .int .i64 p.ru.time, .slice ae ne ce, .bool p.ru.expl, .bool p.ru.chk, .int .i64 p.ru.usage] /\ Blk wx (w.heap.size + 1) 37 #[.slice a1 n1 c1, .slice a2 n2 c2, .slice a3 n3 c3]))
 case first =>
  obtain ⟨d0, d1, d2, d3, d4, d5, d6⟩ := zc7 G4.out.2.1
  by_cases h0 : 0 < np
  ·by_cases h3 : np <= 3
   ·have hq : B3 = true := by rw [<- HB3.out]; exact decide_eq_true ⟨by omega, by omega⟩
    have h0i : (0 : Int) < (np : Int) := by omega
    have h3i : (np : Int) <= 3 := by omega
    clear h0 h3
    subst hq
    go_wp2_with fail
    refine (plus_any X2 4 true V4).mono ?_
    rintro e V6 ⟨rfl, hb⟩
    have G6 : Hid (Below w.heap.size w V6 /\ Blk V6 w.heap.size 57 #[.int .i64 p.id, .slice ap np cp, .int .i64 p.ru.time, .slice ae ne ce, .bool p.ru.expl, .bool p.ru.chk, .int .i64 p.ru.usage] /\ Blk V6 (w.heap.size + 1) 37 #[.slice a1 n1 c1, .slice a2 n2 c2, .slice a3 n3 c3]) := ⟨G4.out.1.trans (hb.mono G4.out.1.size), G4.out.2.1.below hb G4.out.2.1.lt, G4.out.2.2.below hb G4.out.2.2.lt⟩
    clear hb G4
    rw [hX3]
    clear d0 d1 d2 d3 d4 d5 d6
    go_wp2_with fail
    go_meet
    exact ⟨rfl, G6.out⟩
   ·have hq : B3 = false := by rw [<- HB3.out]; exact decide_eq_false (fun q => h3 (by omega))
    have h0i : (0 : Int) < (np : Int) := by omega
    have h3i : ¬ (np : Int) <= 3 := by omega
    clear h0 h3
    subst hq
    go_wp2_with fail
    refine (plus_any X2 4 false V4).mono ?_
    rintro e V6 ⟨rfl, hb⟩
    have G6 : Hid (Below w.heap.size w V6 /\ Blk V6 w.heap.size 57 #[.int .i64 p.id, .slice ap np cp, .int .i64 p.ru.time, .slice ae ne ce, .bool p.ru.expl, .bool p.ru.chk, .int .i64 p.ru.usage] /\ Blk V6 (w.heap.size + 1) 37 #[.slice a1 n1 c1, .slice a2 n2 c2, .slice a3 n3 c3]) := ⟨G4.out.1.trans (hb.mono G4.out.1.size), G4.out.2.1.below hb G4.out.2.1.lt, G4.out.2.2.below hb G4.out.2.2.lt⟩
    clear hb G4
    rw [hX3]
    clear d0 d1 d2 d3 d4 d5 d6
    go_wp2_with fail
    go_meet
    exact ⟨rfl, G6.out⟩
  ·have hq : B3 = false := by rw [<- HB3.out]; exact decide_eq_false (fun q => h0 (by omega))
   have h0i : ¬ (0 : Int) < (np : Int) := by omega
   clear h0
   subst hq
   go_wp2_with fail
   refine (plus_any X2 4 false V4).mono ?_
   rintro e V6 ⟨rfl, hb⟩
   have G6 : Hid (Below w.heap.size w V6 /\ Blk V6 w.heap.size 57 #[.int .i64 p.id, .slice ap np cp, .int .i64 p.ru.time, .slice ae ne ce, .bool p.ru.expl, .bool p.ru.chk, .int .i64 p.ru.usage] /\ Blk V6 (w.heap.size + 1) 37 #[.slice a1 n1 c1, .slice a2 n2 c2, .slice a3 n3 c3]) := ⟨G4.out.1.trans (hb.mono G4.out.1.size), G4.out.2.1.below hb G4.out.2.1.lt, G4.out.2.2.below hb G4.out.2.2.lt⟩
   clear hb G4
   rw [hX3]
   clear d0 d1 d2 d3 d4 d5 d6
   go_wp2_with fail
   go_meet
   exact ⟨rfl, G6.out⟩
 case rest =>
  obtain ⟨rfl, HCUT⟩ := hcut
  rename World => V6
  have G6 : Hid (Below w.heap.size w V6 /\ Blk V6 w.heap.size 57 #[.int .i64 p.id, .slice ap np cp, .int .i64 p.ru.time, .slice ae ne ce, .bool p.ru.expl, .bool p.ru.chk, .int .i64 p.ru.usage] /\ Blk V6 (w.heap.size + 1) 37 #[.slice a1 n1 c1, .slice a2 n2 c2, .slice a3 n3 c3]) := HCUT.out
  clear HCUT
  obtain ⟨d0, d1, d2, d3, d4, d5, d6⟩ := zc7 G6.out.2.1
  go_wp2_with fail
  refine (E4.out V6 G6.out.1 G6.out.2.2).mono ?_
  rintro e V7 ⟨rfl, hb⟩
  have G7 : Hid (Below w.heap.size w V7 /\ Blk V7 w.heap.size 57 #[.int .i64 p.id, .slice ap np cp, .int .i64 p.ru.time, .slice ae ne ce, .bool p.ru.expl, .bool p.ru.chk, .int .i64 p.ru.usage] /\ Blk V7 (w.heap.size + 1) 37 #[.slice a1 n1 c1, .slice a2 n2 c2, .slice a3 n3 c3]) := ⟨G6.out.1.trans (hb.mono G6.out.1.size), G6.out.2.1.below hb G6.out.2.1.lt, G6.out.2.2.below hb G6.out.2.2.lt⟩
  clear hb G6
  clear d0 d1 d2 d3 d4 d5 d6
  go_wp2_with fail
  refine (plus_any X3 8 B4 V7).mono ?_
  rintro e V8 ⟨rfl, hb⟩
  have G8 : Hid (Below w.heap.size w V8 /\ Blk V8 w.heap.size 57 #[.int .i64 p.id, .slice ap np cp, .int .i64 p.ru.time, .slice ae ne ce, .bool p.ru.expl, .bool p.ru.chk, .int .i64 p.ru.usage] /\ Blk V8 (w.heap.size + 1) 37 #[.slice a1 n1 c1, .slice a2 n2 c2, .slice a3 n3 c3]) := ⟨G7.out.1.trans (hb.mono G7.out.1.size), G7.out.2.1.below hb G7.out.2.1.lt, G7.out.2.2.below hb G7.out.2.2.lt⟩
  clear hb G7
  rw [hX4]
  obtain ⟨d0, d1, d2, d3, d4, d5, d6⟩ := zc7 G8.out.2.1
  go_wp2_with fail
  refine (E5.out V8 G8.out.1 G8.out.2.2).mono ?_
  rintro e V9 ⟨rfl, hb⟩
  have G9 : Hid (Below w.heap.size w V9 /\ Blk V9 w.heap.size 57 #[.int .i64 p.id, .slice ap np cp, .int .i64 p.ru.time, .slice ae ne ce, .bool p.ru.expl, .bool p.ru.chk, .int .i64 p.ru.usage] /\ Blk V9 (w.heap.size + 1) 37 #[.slice a1 n1 c1, .slice a2 n2 c2, .slice a3 n3 c3]) := ⟨G8.out.1.trans (hb.mono G8.out.1.size), G8.out.2.1.below hb G8.out.2.1.lt, G8.out.2.2.below hb G8.out.2.2.lt⟩
  clear hb G8
  clear d0 d1 d2 d3 d4 d5 d6
  go_wp2_with fail
  refine (plus_any X4 16 B5 V9).mono ?_
  rintro e V10 ⟨rfl, hb⟩
  have G10 : Hid (Below w.heap.size w V10 /\ Blk V10 w.heap.size 57 #[.int .i64 p.id, .slice ap np cp, .int .i64 p.ru.time, .slice ae ne ce, .bool p.ru.expl, .bool p.ru.chk, .int .i64 p.ru.usage] /\ Blk V10 (w.heap.size + 1) 37 #[.slice a1 n1 c1, .slice a2 n2 c2, .slice a3 n3 c3]) := ⟨G9.out.1.trans (hb.mono G9.out.1.size), G9.out.2.1.below hb G9.out.2.1.lt, G9.out.2.2.below hb G9.out.2.2.lt⟩
  clear hb G9
  rw [hX5]
  go_wp2_with fail
  go_ret
  exact ⟨⟨_, rfl, HF.out⟩, G10.out.1⟩
theorem implPlansOk_any (l : List Pn) (v : Value) (a1 : Option Addr) (n1 c1 : Nat) (a2 : Option Addr) (n2 c2 : Nat) (a3 : Option Addr) (n3 c3 : Nat) (w : World) (hl : wtPS l <= 1000000000) (hn : n3 <= 1000000000) (ha : AtS pnKd w v l) :
  Calls Try.prog 12 #[v, .agg #[.slice a1 n1 c1, .slice a2 n2 c2, .slice a3 n3 c3]] w fun e w' => e = .returned (.bool (plansOk n3 l)) /\ Below w.heap.size w w' := by
 obtain ⟨i0, hi, hz0, hz1, hz2⟩ := info_parts info3
 obtain ⟨pa, pc, hpa⟩ := ha.shape
 obtain ⟨n, hnl⟩ := zE (l.length)
 rw [hnl] at hpa
 subst hpa
 obtain ⟨V0, hV⟩ : ∃ V, V = w.alloc (Obj.cells #[.slice a1 n1 c1, .slice a2 n2 c2, .slice a3 n3 c3] 37) := ⟨_, rfl⟩
 have G0 : Hid (Below w.heap.size w V0 /\ Blk V0 w.heap.size 37 #[.slice a1 n1 c1, .slice a2 n2 c2, .slice a3 n3 c3]) := by rw [hV]; exact ⟨(Below.refl _ _).alloc (Nat.le_refl _) _, Blk.new w _ _⟩
 have HT : Hid (AtS pnKd w (.slice pa n pc) l /\ l.length = n /\ wtPS l <= 1000000000) := ⟨ha, hnl, hl⟩
 by_cases h6 : n <= 6
 rotate_left
 ·have h6i : (6 : Int) < (n : Int) := by omega
  have HF : Hid (plansOk n3 l = false) := plans_long (by rw [hnl]; exact h6)
  clear ha hnl hl h6
  go_enter Try.func12, Try.ntmps12
  go_upto_region 1 with fail
  rw [<- hV]
  clear hV
  go_wp2_with fail
  go_ret
  exact ⟨by rw [HF.out]; rfl, G0.out.1⟩
 have h6i : ¬ (6 : Int) < (n : Int) := by omega
 obtain ⟨R, hR⟩ := zE (plansOk n3 l)
 have HR : Hid (plansOk n3 l = R /\ l.length <= 6) := ⟨hR, by rw [hnl]; exact h6⟩
 rw [hR]
 clear ha hnl hl hR
 go_enter Try.func12, Try.ntmps12
 go_upto_region 1 with fail
 rw [<- hV]
 clear hV
 go_wp2_with fail
 go_loopw [5, 13] (fun lv iv wr => ∃ k : Nat, k <= n /\ iv = .int .i64 k /\ Hid ((∀ j (hj : j < l.length), j < k -> plOk n3 l[j] = true) /\ Below w.heap.size w wr /\ Blk wr w.heap.size 37 #[.slice a1 n1 c1, .slice a2 n2 c2, .slice a3 n3 c3] /\ OwnI wr (w.heap.size + 1) (lv) ((l.take k).map Pn.id))) (fun _ iv _ => n - (intOf iv).toNat)
 case atStart => exact ⟨0, Nat.zero_le _, rfl, fun j _ hj => absurd hj (Nat.not_lt_zero _), G0.out.1, G0.out.2, World.ownsRow_nil _ _ _ _⟩
 case round =>
  clear G0
  obtain ⟨k, hk, rfl, HK⟩ := hrel
  obtain ⟨la, lc, hlv⟩ : ∃ ao cap, u5 = .slice ao ((l.take k).map Pn.id).length cap := by obtain ⟨ao, cap, h, _⟩ := HK.out.2.2.2.at; exact ⟨ao, cap, h⟩
  rw [show ((l.take k).map Pn.id).length = k by rw [List.length_map, List.length_take]; have := HT.out.2.1; omega] at hlv
  subst hlv
  by_cases hkn : k < n
  ·have hkl : k < l.length := by rw [HT.out.2.1]; exact hkn
   obtain ⟨b, off, u, hao, hbB, hPu, hus, hcell⟩ := HT.out.1.get hkl
   obtain ⟨p1, q1, e1, r1, hu⟩ := PnAt.shape hPu
   obtain ⟨x, hx⟩ := zE (l[k])
   rw [hx] at hu
   obtain ⟨l1, hl1⟩ := zE (x.anc.length)
   obtain ⟨l2, hl2⟩ := zE (x.ru.pol.length)
   rw [hl1, hl2] at hu
   have hrg0 := fun i z (hz : u.cells[i]? = some z) => (HK.out.2.1.cell (p := ⟨b, off + k * 7 + i, none⟩) (by show b < w.heap.size; exact hbB)).trans (hcell i z hz)
   have HP : PnAt wr u x := by rw [<- hx]; exact PnAt.below hPu HK.out.2.1
   have hxw : wtPn x <= 1000000000 := by rw [<- hx]; exact Nat.le_trans (wtPS_mem (List.getElem_mem hkl)) HT.out.2.2
   subst hao hu
   have hrg : wr.rangeAt b (off + k * 7) #[.int .i64 x.id, .slice p1 l1 q1, .int .i64 x.ru.time, .slice e1 l2 r1, .bool x.ru.expl, .bool x.ru.chk, .int .i64 x.ru.usage].toList := fun j y hy => hrg0 j y (by rw [<- hy]; exact Array.getElem?_toList.symm)
   obtain ⟨V, hV⟩ : ∃ V, V = (wr.alloc (Obj.cells #[.int .i64 0, .slice none 0 0, .int .i64 0, .slice none 0 0, .bool false, .bool false, .int .i64 0] 57)).setCells wr.heap.size 0 #[.int .i64 x.id, .slice p1 l1 q1, .int .i64 x.ru.time, .slice e1 l2 r1, .bool x.ru.expl, .bool x.ru.chk, .int .i64 x.ru.usage].toList := ⟨_, rfl⟩
   have hBV : Below wr.heap.size wr V /\ Blk V wr.heap.size 57 #[.int .i64 x.id, .slice p1 l1 q1, .int .i64 x.ru.time, .slice e1 l2 r1, .bool x.ru.expl, .bool x.ru.chk, .int .i64 x.ru.usage] := fresh_store hV rfl
   have hth := (Blk.new wr 57 #[.int .i64 0, .slice none 0 0, .int .i64 0, .slice none 0 0, .bool false, .bool false, .int .i64 0]).there (n := 7) rfl
   have HV : Hid ((∀ j (hj : j < l.length), j < k -> plOk n3 l[j] = true) /\ Below w.heap.size w V /\ Blk V w.heap.size 37 #[.slice a1 n1 c1, .slice a2 n2 c2, .slice a3 n3 c3] /\ OwnI V (w.heap.size + 1) (.slice la k lc) ((l.take k).map Pn.id) /\ Blk V wr.heap.size 57 #[.int .i64 x.id, .slice p1 l1 q1, .int .i64 x.ru.time, .slice e1 l2 r1, .bool x.ru.expl, .bool x.ru.chk, .int .i64 x.ru.usage] /\ w.heap.size + 1 <= wr.heap.size) := ⟨HK.out.1, HK.out.2.1.trans (hBV.1.mono HK.out.2.1.size), HK.out.2.2.1.below hBV.1 HK.out.2.2.1.lt, HK.out.2.2.2.stays hBV.1, hBV.2, HK.out.2.2.1.lt⟩
   have EN := needsMet_any x (pnV x (.slice p1 l1 q1) (.slice e1 l2 r1)) a1 n1 c1 a2 n2 c2 a3 n3 c3 V hxw hn (PnAt.below HP hBV.1)
   have HX : Hid (l[k] = x) := hx
   have hki : (k : Int) < (n : Int) := by omega
   have hk0 : (0 : Int) <= (k : Int) := by omega
   clear hcell hPu hus hbB hx hrg0 hBV HP HK hl1 hl2 hxw
   unfold pnV at EN
   go_upto_region 7 with (first | refine wpList_load_mid rfl 57 _ rfl b (off + k * 7) rfl _ _ hrg Try.underlying57 rfl (by kernel_rfl) ?_ | (refine step_storeV rfl 57 _ _ rfl wr.heap.size 0 #[.int .i64 x.id, .slice p1 l1 q1, .int .i64 x.ru.time, .slice e1 l2 r1, .bool x.ru.expl, .bool x.ru.chk, .int .i64 x.ru.usage] rfl rfl hth (by kernel_rfl) (by simp [Value.oneCell']) hV ?_; clear hV hth))
   obtain ⟨gP, hgP⟩ := zE (wr.heap.size)
   rw [hgP] at HV |-
   clear hgP
   obtain ⟨u30, u31, u32, u33, u34, u35, u36⟩ := zc7 HV.out.2.2.2.2.1
   have s0 : V.cell? ⟨w.heap.size, 0, none⟩ = some (.slice a1 n1 c1) := HV.out.2.2.1.cell 0
   have s1 : V.cell? ⟨w.heap.size, 1, none⟩ = some (.slice a2 n2 c2) := HV.out.2.2.1.cell 1
   have s2 : V.cell? ⟨w.heap.size, 2, none⟩ = some (.slice a3 n3 c3) := HV.out.2.2.1.cell 2
   clear hrg
   go_wp2_with fail
   refine EN.mono ?_
   rintro e w3 ⟨⟨r, rfl, hr⟩, hb3⟩
   have H3 : Hid ((∀ j (hj : j < l.length), j < k -> plOk n3 l[j] = true) /\ Below w.heap.size w w3 /\ Blk w3 w.heap.size 37 #[.slice a1 n1 c1, .slice a2 n2 c2, .slice a3 n3 c3] /\ OwnI w3 (w.heap.size + 1) (.slice la k lc) ((l.take k).map Pn.id) /\ Blk w3 gP 57 #[.int .i64 x.id, .slice p1 l1 q1, .int .i64 x.ru.time, .slice e1 l2 r1, .bool x.ru.expl, .bool x.ru.chk, .int .i64 x.ru.usage] /\ w.heap.size + 1 <= w3.heap.size) := ⟨HV.out.1, HV.out.2.1.trans (hb3.mono HV.out.2.1.size), HV.out.2.2.1.below hb3 HV.out.2.2.1.lt, HV.out.2.2.2.1.stays hb3, HV.out.2.2.2.2.1.below hb3 HV.out.2.2.2.2.1.lt, Nat.le_trans HV.out.2.2.1.lt hb3.size⟩
   clear EN hb3 HV u30 u31 u32 u33 u34 u35 u36 s0 s1 s2
   obtain ⟨B, hB⟩ := zE (plOk n3 x)
   have HB : Hid (plOk n3 x = B) := hB
   rw [hB] at hr
   clear hB
   cases B with
   | false =>
    have hr31 : (r != 31) = true := hr
    have HF : Hid (R = false) := by show R = false; rw [<- HR.out.1]; exact plans_no hkl (by rw [HX.out]; exact HB.out)
    clear hr
    go_wp2_with fail
    go_ret
    exact ⟨by rw [HF.out]; rfl, H3.out.2.1⟩
   | true =>
    have hr31 : (r != 31) = false := hr
    have hid : w3.cell? ⟨gP, 0, none⟩ = some (.int .i64 x.id) := H3.out.2.2.2.2.1.cell 0
    clear hr
    obtain ⟨W4, hW4⟩ : ∃ V, V = w3.alloc (Obj.cells #[.int .i64 x.id] 3) := ⟨_, rfl⟩
    have hb4 : Below w3.heap.size w3 W4 := by rw [hW4]; exact (Below.refl _ _).alloc (Nat.le_refl _) _
    have H4 : Hid (OwnI W4 (w.heap.size + 1) (.slice la k lc) ((l.take k).map Pn.id) /\ OwnI W4 w3.heap.size (.slice (some ⟨w3.heap.size, 0, none⟩) 1 1) [x.id] /\ Blk W4 w.heap.size 37 #[.slice a1 n1 c1, .slice a2 n2 c2, .slice a3 n3 c3] /\ Below w.heap.size w W4 /\ w.heap.size + 1 <= W4.heap.size /\ ((l.take k).map Pn.id).length = k /\ (l.take (k + 1)).map Pn.id = (l.take k).map Pn.id ++ [x.id]) := by
     refine ⟨H3.out.2.2.2.1.stays hb4, by rw [hW4]; exact oneI_new w3 x.id, H3.out.2.2.1.below hb4 H3.out.2.2.1.lt, H3.out.2.1.trans (hb4.mono H3.out.2.1.size), Nat.le_trans H3.out.2.2.2.2.2 hb4.size, by rw [List.length_map, List.length_take]; omega, ?_⟩
     rw [List.take_succ_eq_append_getElem hkl, List.map_append, HX.out]
     rfl
    have HL : Hid (∀ j (hj : j < l.length), j < k + 1 -> plOk n3 l[j] = true) := fun j hj h => by
     rcases Nat.lt_or_ge j k with h | h
     ·exact H3.out.1 j hj h
     ·have : j = k := by omega
      subst this
      rw [HX.out]
      exact HB.out
    clear hb4 H3
    go_wp2_with (at_builtin; rw [<- hW4]; refine wpList_append_ints2 rfl _ _ 44 rfl (w.heap.size + 1) i0 Try.underlying44 hi hz0 hz1 hz2 (.slice la k lc) ((l.take k).map Pn.id).length (cellsI ((l.take k).map Pn.id)) rfl H4.out.1 _ [x.id] w3.heap.size H4.out.2.1 rfl (by rw [H4.out.2.2.2.2.2.1]; simp only [List.length_singleton]; omega) H4.out.2.2.2.2.1 ?_)
    intro v9 w9 ho9 hg9
    rw [<- hW4] at hg9
    have H9 : Hid ((∀ j (hj : j < l.length), j < k + 1 -> plOk n3 l[j] = true) /\ Below w.heap.size w w9 /\ Blk w9 w.heap.size 37 #[.slice a1 n1 c1, .slice a2 n2 c2, .slice a3 n3 c3] /\ OwnI w9 (w.heap.size + 1) (v9) ((l.take (k + 1)).map Pn.id)) := by
     have hrl := fun b hb => (World.ownsRow.lt H4.out.1 b hb).1
     refine ⟨HL.out, H4.out.2.2.2.1.grown hg9 H4.out.2.2.2.1.size (fun b hb => by have := hrl b hb; omega), (hg9.block _ H4.out.2.2.1.lt (fun e => by have := hrl _ e.symm; omega)).trans H4.out.2.2.1, ?_⟩
     rw [H4.out.2.2.2.2.2.2]
     simpa [OwnI, cellsI_append] using ho9
    clear ho9 hg9 H4 hW4 hid HL
    go_wp2_with fail
    exact ⟨⟨k + 1, by omega, by go_num, H9⟩, by simp [intOf]; omega⟩
  ·have hkl : n = k := by omega
   subst hkl
   have HE : Hid (Below w.heap.size w wr /\ IntAt wr (.slice la n lc) (l.map Pn.id) /\ R = ascG lsI 0 (l.map Pn.id) /\ (l.map Pn.id).length <= 1000000000) := by
    have h := HK.out.2.2.2.at
    rw [List.take_of_length_le (by rw [HT.out.2.1]; exact Nat.le_refl _)] at h
    exact ⟨HK.out.2.1, h, by rw [<- HR.out.1]; exact plans_all HR.out.2 (fun j hj => HK.out.1 j hj (by rw [<- HT.out.2.1]; exact hj)), by rw [List.length_map]; have := HR.out.2; omega⟩
   have EA := ascI_any (.slice la n lc) (l.map Pn.id) wr HE.out.2.2.2 HE.out.2.1
   rw [<- HE.out.2.2.1] at EA
   clear HK
   go_wp2_with fail
   refine EA.mono ?_
   rintro e w5 ⟨rfl, hb⟩
   have G5 : Hid (Below w.heap.size w w5) := HE.out.1.trans (hb.mono HE.out.1.size)
   clear EA hb
   go_wp2_with fail
   go_ret
   exact ⟨rfl, G5.out⟩
end Go.Proofs.Ytllmgjfffkhocaa
