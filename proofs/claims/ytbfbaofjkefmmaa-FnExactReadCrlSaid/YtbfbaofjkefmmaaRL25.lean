/-
  Texts of the proof, one behind the other: DrP, CrQ.
-/
import Derived.Test.YtbfbaofjkefmmaaRL7
import Derived.Test.YtbfbaofjkefmmaaRL15
import Derived.Test.YtbfbaofjkefmmaaRL24

/-
  Plain: lists as items tell them: kid by kid, as the program reads them, and all at once, as the specification does; of a right item both tell the one list whose item it is.
-/
namespace Go.Proofs.Ytbfbaofjkefmmaa
open Go.RowKit Der
set_option linter.unusedVariables false

/-- One that was called back, and what is behind it. -/
def revP {k : Nat} (ks : List (It (k + 2))) : Option ((Int × Int) × List (It (k + 2))) := (lstP ks).bind fun a => (numP a.1).bind fun s => (numP s.2).bind fun r => (endP r.2).bind fun _ => some ((s.1, r.1), a.2)
def revsP {k : Nat} : List (It (k + 2)) → Option (List (Int × Int))
  | [] => some []
  | y :: r => match revP (y :: r) with
    | none => none
    | some (v, _) => match revsP r with
      | none => none
      | some l => some (v :: l)
def revsL {k : Nat} (ks : List (It (k + 3))) : Option (List (Int × Int) × List (It (k + 3))) :=
  match lstP ks with
  | none => none
  | some (i, r) => match revsP i with
    | none => none
    | some l => some (l, r)
/-- A list's head, and what is behind it. -/
def headP {m : Nat} (ks : List (It (m + 3))) : Option (Cl × List (It (m + 3))) := (txtP 12 ks).bind fun a0 => (numP a0.2).bind fun a1 => (numP a1.2).bind fun a2 => (numP a2.2).bind fun a3 => (numP a3.2).bind fun a4 => some (⟨a0.1, a1.1, a2.1, a3.1, a4.1, [], ⟨#[]⟩⟩, a4.2)
/-- What is signed of a list. -/
def tidP {m : Nat} (ks : List (It (m + 3))) : Option Cl := (headP ks).bind fun h => (revsL h.2).bind fun a5 => (endP a5.2).bind fun _ => some { h.1 with revs := a5.1 }
def cbP {m : Nat} (ks : List (It (m + 4))) : Option Cl := (lstP ks).bind fun b => (tidP b.1).bind fun c => (txtP 4 b.2).bind fun s => (endP s.2).bind fun _ => some { c with sig := s.1 }
/-- The list that an item tells. -/
def crlP {m : Nat} (x : It (m + 5)) : Option Cl := if It.tag x = 48 then cbP (It.kids x) else none
def pairI {k : Nat} (y : It (k + 2)) : Option (Int × Int) :=
  match It.kids y with
  | [a, b] => some (numI a, numI b)
  | _ => none
def pairsI {k : Nat} : List (It (k + 2)) → Option (List (Int × Int))
  | [] => some []
  | y :: r => (pairI y).bind fun p => (pairsI r).map (p :: ·)
/-- The list that an item of that shape tells, whatever its tags. -/
def specL {m : Nat} (x : It (m + 5)) : Option Cl :=
  match It.kids x with
  | [b, sg] => match It.kids b with
    | [k0, k1, k2, k3, k4, k5] => if It.tag x = 48 ∧ It.tag b = 48 then (pairsI (It.kids k5)).map fun l => ⟨baL (It.text k0), numI k1, numI k2, numI k3, numI k4, l, baL (It.text sg)⟩ else none
    | _ => none
  | _ => none
theorem rev_some {k : Nat} {ks : List (It (k + 2))} {p : (Int × Int) × List (It (k + 2))} (h : revP ks = some p) : ∃ y a b n r, ks = y :: p.2 ∧ It.tag y = 48 ∧ It.kids y = [a, b] ∧ inI (k + 1) a = some n ∧ inI (k + 1) b = some r ∧ p.1 = ((n : Int), (r : Int)) := by
  unfold revP at h
  obtain ⟨a, ha, h⟩ := Option.bind_eq_some_iff.1 h
  obtain ⟨s, hs, h⟩ := Option.bind_eq_some_iff.1 h
  obtain ⟨r, hr, h⟩ := Option.bind_eq_some_iff.1 h
  obtain ⟨_, he, h⟩ := Option.bind_eq_some_iff.1 h
  simp only [Option.some.injEq] at h
  obtain ⟨y, e1, e2, e3⟩ := lst_some ha
  obtain ⟨ya, n, p1, p2, p3, p4⟩ := num_some hs
  obtain ⟨yb, n2, q1, q2, q3, q4⟩ := num_some hr
  have e4 := end_some he
  rw [e4] at q1
  rw [q1] at p1
  rw [e3] at p1
  subst h
  exact ⟨y, ya, yb, n, n2, e1, e2, p1, p3, q3, by rw [p4, q4]⟩
theorem rev_same {n m d : Nat} {y : It (n + 2)} {a b : It (n + 1)} {s r : Nat} (h : rightI (n + 2) y d = true) (ht : It.tag y = 48) (hk : It.kids y = [a, b]) (h1 : inI (n + 1) a = some s) (h2 : inI (n + 1) b = some r) : sameI (n + 2) (m + 2) y (lstJ [intI (s : Int), intI (r : Int)]) = true := by
  refine same_lst ht (right_list h ht).1 hk ⟨rfl, ?_⟩
  simp only [List.zip_cons_cons, List.zip_nil_right, List.all_cons, List.all_nil, Bool.and_true, Bool.and_eq_true]
  exact ⟨leaf_int h1, leaf_int h2⟩
theorem revs_same {n d : Nat} : ∀ {ks : List (It (n + 2))} {l : List (Int × Int)}, (∀ z ∈ ks, rightI (n + 2) z d = true) → revsP ks = some l → ks.length = (l.map revI).length ∧ ((ks.zip (l.map revI)).all fun p => sameI (n + 2) 2 p.1 p.2) = true
  | [], l, _, h => by
    simp only [revsP, Option.some.injEq] at h
    subst h
    exact ⟨rfl, rfl⟩
  | y :: q, l, hr, h => by
    unfold revsP at h
    split at h
    · cases h
    · next v q' hv =>
      split at h
      · cases h
      · next l' hl =>
        simp only [Option.some.injEq] at h
        subst h
        obtain ⟨y', a, b, s, r, e1, e2, e3, e4, e5, e6⟩ := rev_some hv
        simp only [List.cons.injEq] at e1
        obtain ⟨rfl, -⟩ := e1
        obtain ⟨i1, i2⟩ := revs_same (fun z hz => hr z (by simp [hz])) hl
        change v = ((s : Int), (r : Int)) at e6
        refine ⟨by simp only [List.map_cons, List.length_cons, i1], ?_⟩
        simp only [List.map_cons, List.zip_cons_cons, List.all_cons, Bool.and_eq_true]
        refine ⟨?_, i2⟩
        rw [e6]
        exact rev_same (hr y (by simp)) e2 e3 e4 e5
/-- What the program reads of a right item is the list whose item it is. -/
theorem crl_let {m : Nat} {x : It (m + 5)} {c : Cl} (h : crlP x = some c) (hr : rightI (m + 5) x 0 = true) : sameI (m + 5) 5 x (crlI c) = true := by
  unfold crlP at h
  split at h
  rotate_left
  · cases h
  next ht =>
  unfold cbP at h
  obtain ⟨b, hb, h⟩ := Option.bind_eq_some_iff.1 h
  obtain ⟨cb, hcb, h⟩ := Option.bind_eq_some_iff.1 h
  obtain ⟨s, hs, h⟩ := Option.bind_eq_some_iff.1 h
  obtain ⟨_, he, h⟩ := Option.bind_eq_some_iff.1 h
  simp only [Option.some.injEq] at h
  obtain ⟨yb, b1, b2, b3⟩ := lst_some hb
  obtain ⟨ys, s1, s2, s3⟩ := txt_some hs
  have s4 := end_some he
  rw [s4] at s1
  rw [s1] at b1
  obtain ⟨t1, t2⟩ := right_list hr ht
  have rb : rightI (m + 4) yb 1 = true := t2 yb (by rw [b1]; simp)
  have rs : rightI (m + 4) ys 1 = true := t2 ys (by rw [b1]; simp)
  obtain ⟨u1, u2⟩ := right_list rb b2
  rw [b3] at hcb
  unfold tidP headP at hcb
  obtain ⟨hh, hhd, hcb⟩ := Option.bind_eq_some_iff.1 hcb
  obtain ⟨a0, h0, hhd⟩ := Option.bind_eq_some_iff.1 hhd
  obtain ⟨a1, h1, hhd⟩ := Option.bind_eq_some_iff.1 hhd
  obtain ⟨a2, h2, hhd⟩ := Option.bind_eq_some_iff.1 hhd
  obtain ⟨a3, h3, hhd⟩ := Option.bind_eq_some_iff.1 hhd
  obtain ⟨a4, h4, hhd⟩ := Option.bind_eq_some_iff.1 hhd
  simp only [Option.some.injEq] at hhd
  subst hhd
  obtain ⟨a5, h5, hcb⟩ := Option.bind_eq_some_iff.1 hcb
  obtain ⟨_, hze, hcb⟩ := Option.bind_eq_some_iff.1 hcb
  simp only [Option.some.injEq] at hcb
  obtain ⟨y0, p0, q0, v0⟩ := txt_some h0
  obtain ⟨y1, n1, p1, q1, i1, v1⟩ := num_some h1
  obtain ⟨y2, n2, p2, q2, i2, v2⟩ := num_some h2
  obtain ⟨y3, n3, p3, q3, i3, v3⟩ := num_some h3
  obtain ⟨y4, n4, p4, q4, i4, v4⟩ := num_some h4
  have h5' : ∃ y, a4.2 = y :: a5.2 ∧ It.tag y = 48 ∧ revsP (It.kids y) = some a5.1 := by
    have h := h5
    change revsL a4.2 = some a5 at h
    unfold revsL at h
    split at h
    · cases h
    · next i r hl =>
      split at h
      · cases h
      · next l hl2 =>
        simp only [Option.some.injEq] at h
        subst h
        obtain ⟨y, e1, e2, e3⟩ := lst_some hl
        change i = It.kids y at e3
        exact ⟨y, e1, e2, by rw [← e3]; exact hl2⟩
  obtain ⟨y5, p5, q5, v5⟩ := h5'
  have ze := end_some hze
  rw [ze] at p5
  rw [p5] at p4
  rw [p4] at p3
  rw [p3] at p2
  rw [p2] at p1
  rw [p1] at p0
  have rk : ∀ z ∈ [y0, y1, y2, y3, y4, y5], rightI (m + 3) z 2 = true := fun z hz => u2 z (by rw [p0]; exact hz)
  obtain ⟨r5, r6⟩ := right_list (rk y5 (by simp)) q5
  subst h hcb
  refine same_lst ht t1 b1 ⟨rfl, ?_⟩
  simp only [List.zip_cons_cons, List.zip_nil_right, List.all_cons, List.all_nil, Bool.and_true, Bool.and_eq_true]
  refine ⟨?_, by rw [s3]; exact leaf_byt rs s2⟩
  refine same_lst b2 u1 p0 ⟨rfl, ?_⟩
  simp only [headL, List.cons_append, List.nil_append, List.zip_cons_cons, List.zip_nil_right, List.all_cons, List.all_nil, Bool.and_true, Bool.and_eq_true]
  refine ⟨by rw [v0]; exact leaf_txt (rk y0 (by simp)) q0, by rw [v1]; exact leaf_int i1, by rw [v2]; exact leaf_int i2, by rw [v3]; exact leaf_int i3, by rw [v4]; exact leaf_int i4, ?_⟩
  exact same_lst q5 r5 rfl (revs_same r6 v5)
theorem list_six {α : Type} {l : List α} (h : l.length = 6) : ∃ a b c d e f, l = [a, b, c, d, e, f] := by
  match l, h with
  | [a, b, c, d, e, f], _ => exact ⟨a, b, c, d, e, f, rfl⟩
theorem revs_read {n : Nat} : ∀ {ks : List (It (n + 2))} {l : List (Int × Int)}, ks.length = l.length → (∀ p ∈ ks.zip (l.map revI), sameI (n + 2) 2 p.1 p.2 = true) → (∀ v ∈ l, (0 ≤ v.1 ∧ v.1 ≤ 1000000000) ∧ (0 ≤ v.2 ∧ v.2 ≤ 1000000000)) → revsP ks = some l ∧ pairsI ks = some l
  | [], [], _, _, _ => ⟨rfl, rfl⟩
  | [], _ :: _, h, _, _ => by simp at h
  | _ :: _, [], h, _, _ => by simp at h
  | y :: r, v :: l, h, hp, hv => by
    obtain ⟨i1, i2⟩ := revs_read (ks := r) (l := l) (by simpa using h) (fun p q => hp p (by simp [q])) (fun z hz => hv z (by simp [hz]))
    obtain ⟨⟨b0, b1⟩, c0, c1⟩ := hv v (by simp)
    have sy : sameI (n + 2) 2 y (revI v) = true := hp (y, revI v) (by simp)
    obtain ⟨t1, _, t3, t4⟩ := same_parts sy
    obtain ⟨a, b, hk⟩ := list_two (show (It.kids y).length = 2 from t3)
    rw [hk] at t4
    have sa : sameI (n + 1) 1 a (intI v.1) = true := t4 (a, intI v.1) (by show _ ∈ List.zip [a, b] [intI v.1, intI v.2]; simp)
    have sb : sameI (n + 1) 1 b (intI v.2) = true := t4 (b, intI v.2) (by show _ ∈ List.zip [a, b] [intI v.1, intI v.2]; simp)
    obtain ⟨x1, x2, x3⟩ := in_same sa b0 b1
    obtain ⟨z1, z2, z3⟩ := in_same sb c0 c1
    have ty : It.tag y = 48 := t1
    have e1 : ((v.1.toNat : Nat) : Int) = v.1 := by omega
    have e2 : ((v.2.toNat : Nat) : Int) = v.2 := by omega
    have hrev : revP (y :: r) = some (v, r) := by simp [revP, lstP, nextP, ty, hk, numP, x1, x2, z1, z2, endP, e1, e2]
    have hpair : pairI y = some v := by unfold pairI; rw [hk]; dsimp only; rw [x3, z3]
    refine ⟨?_, ?_⟩
    · unfold revsP
      rw [hrev]
      dsimp only
      rw [i1]
    · unfold pairsI
      rw [hpair, i2]
      rfl
theorem revs_in_word {b : Int} {l : List (Int × Int)} (h : revsOk b l = true) : ∀ v ∈ l, (0 ≤ v.1 ∧ v.1 ≤ 1000000000) ∧ (0 ≤ v.2 ∧ v.2 ≤ 1000000000) := by
  intro v hv
  unfold revsOk at h
  simp only [Bool.and_eq_true, List.all_eq_true] at h
  have := h.2.1 v hv
  unfold revIn at this
  simp only [Bool.and_eq_true] at this
  have h1 := inB_of this.1
  have h2 := inB_of this.2.1
  omega
/-- Of an item that is a right list's both read that list. -/
theorem crl_same {m : Nat} {x : It (m + 5)} {c : Cl} (h : sameI (m + 5) 5 x (crlI c) = true) (hc : crlOk c = true) : crlP x = some c ∧ specL x = some c := by
  unfold crlOk headOk at hc
  simp only [Bool.and_eq_true, decide_eq_true_eq] at hc
  obtain ⟨⟨c1, c2, c3, c4, c5⟩, c6, c7⟩ := hc
  have d2 := inB_of c2
  have d3 := inB_of c3
  have d4 := inB_of c4
  have d5 := inB_of c5
  obtain ⟨t1, t2, t3, t4⟩ := same_parts h
  obtain ⟨yb, ys, hk⟩ := list_two (show (It.kids x).length = 2 from t3)
  rw [hk] at t4
  have sb : sameI (m + 4) 4 yb (bodyL c) = true := t4 (yb, bodyL c) (by show _ ∈ List.zip [yb, ys] [bodyL c, bytJ c.sig]; simp)
  have ss : sameI (m + 4) 4 ys (bytJ c.sig) = true := t4 (ys, bytJ c.sig) (by show _ ∈ List.zip [yb, ys] [bodyL c, bytJ c.sig]; simp)
  obtain ⟨u1, u2, u3, u4⟩ := same_parts sb
  obtain ⟨k0, k1, k2, k3, k4, k5, hb⟩ := list_six (show (It.kids yb).length = 6 from u3)
  rw [hb] at u4
  have each : ∀ p ∈ List.zip [k0, k1, k2, k3, k4, k5] (It.kids (bodyL c)), sameI (m + 3) 3 p.1 p.2 = true := u4
  change ∀ p ∈ List.zip [k0, k1, k2, k3, k4, k5] [txtJ c.issuer, intI c.num, intI c.ths, intI c.nxt, intI c.bas, lstJ (c.revs.map revI)], sameI (m + 3) 3 p.1 p.2 = true at each
  simp only [List.zip_cons_cons, List.zip_nil_right, List.forall_mem_cons] at each
  obtain ⟨e0, e1, e2, e3, e4, e5, -⟩ := each
  obtain ⟨a0, n0⟩ := txt_same e0
  obtain ⟨a1, b1, n1⟩ := in_same e1 (by omega) (by omega)
  obtain ⟨a2, b2, n2⟩ := in_same e2 d4.1 (by omega)
  obtain ⟨a3, b3, n3⟩ := in_same e3 d5.1 (by omega)
  obtain ⟨a4, b4, n4⟩ := in_same e4 d3.1 (by omega)
  obtain ⟨a5, _, l5, q5⟩ := same_parts e5
  obtain ⟨g5, n5⟩ := revs_read (ks := It.kids k5) (l := c.revs) (by rw [l5]; show (c.revs.map revI).length = _; rw [List.length_map]) q5 (revs_in_word c6)
  obtain ⟨asg, ns⟩ := byt_same ss
  have ht : It.tag x = 48 := t1
  have hbt : It.tag yb = 48 := u1
  have h5t : It.tag k5 = 48 := a5
  have z1 : ((c.num.toNat : Nat) : Int) = c.num := by omega
  have z2 : ((c.ths.toNat : Nat) : Int) = c.ths := by omega
  have z3 : ((c.nxt.toNat : Nat) : Int) = c.nxt := by omega
  have z4 : ((c.bas.toNat : Nat) : Int) = c.bas := by omega
  refine ⟨?_, ?_⟩
  · have hbody : tidP [k0, k1, k2, k3, k4, k5] = some { c with sig := ⟨#[]⟩ } := by
      simp [tidP, headP, numP, txtP, lstP, nextP, revsL, endP, a0, a1, a2, a3, a4, h5t, b1, b2, b3, b4, g5, n0, z1, z2, z3, z4]
    simp [crlP, cbP, ht, hk, lstP, nextP, hbt, hb, hbody, txtP, asg, ns, endP]
  · unfold specL
    rw [hk]
    dsimp only
    rw [hb]
    dsimp only
    rw [if_pos ⟨ht, hbt⟩, n5, n0, n1, n2, n3, n4, ns]
    rfl
/-- The list that a text is, as the program finds it of its item. -/
def readPL {m : Nat} (x : It (m + 5)) : Option Cl := (crlP x).bind fun c => if crlOk c = true then some c else none
/-- The same, as the specification finds it. -/
def readSL {m : Nat} (t : List UInt8) (x : It (m + 5)) : Option Cl := (specL x).bind fun c => if crlOk c = true ∧ writeI 5 (crlI c) = some t then some c else none
theorem readPL_iff {m : Nat} {x : It (m + 5)} {t : List UInt8} (h : writeI (m + 5) x = some t) (c : Cl) : readPL x = some c ↔ crlOk c = true ∧ writeI 5 (crlI c) = some t := by
  unfold readPL
  constructor
  · intro q
    obtain ⟨c', h1, h2⟩ := Option.bind_eq_some_iff.1 q
    split at h2
    · next hc =>
      simp only [Option.some.injEq] at h2
      subst h2
      exact ⟨hc, by rw [← write_same (crl_let h1 (write_some h).1)]; exact h⟩
    · cases h2
  · rintro ⟨h1, h2⟩
    rw [(crl_same (same_written h h2) h1).1]
    simp [h1]
theorem readSL_iff {m : Nat} {x : It (m + 5)} {t : List UInt8} (h : writeI (m + 5) x = some t) (c : Cl) : readSL t x = some c ↔ crlOk c = true ∧ writeI 5 (crlI c) = some t := by
  unfold readSL
  constructor
  · intro q
    obtain ⟨c', h1, h2⟩ := Option.bind_eq_some_iff.1 q
    split at h2
    · next hc =>
      simp only [Option.some.injEq] at h2
      subst h2
      exact hc
    · cases h2
  · rintro ⟨h1, h2⟩
    rw [(crl_same (same_written h h2) h1).2]
    simp [h1, h2]
theorem readsL_same {m k : Nat} {x : It (m + 5)} {y : It (k + 5)} {t : List UInt8} (hx : writeI (m + 5) x = some t) (hy : writeI (k + 5) y = some t) : readPL x = readSL t y := by
  apply Option.ext
  intro c
  rw [readPL_iff hx, readSL_iff hy]
end Go.Proofs.Ytbfbaofjkefmmaa

/-
  The program's upTo and CertOk.
-/
namespace Go.Proofs.Ytbfbaofjkefmmaa
open Go.RowKit
set_option linter.unusedVariables false

set_option maxRecDepth 100000 in
theorem upTo_any (hi n : Int) (w : World) : Calls Try.prog 86 #[.int .i64 hi, .int .i64 n] w fun e w' => e = .returned (.bool (inB n 0 hi)) ∧ Below w.heap.size w w' := by
  by_cases h : 0 ≤ n
  · by_cases h2 : n ≤ hi
    · have HB : Hid (inB n 0 hi = true) := decide_eq_true ⟨h, h2⟩
      go_enter Try.func86, Try.ntmps86
      go_wp2_with fail
      go_ret
      exact ⟨by rw [HB.out]; simp [*], Below.refl _ _⟩
    · have HB : Hid (inB n 0 hi = false) := decide_eq_false (fun q => h2 q.2)
      go_enter Try.func86, Try.ntmps86
      go_wp2_with fail
      go_ret
      exact ⟨by rw [HB.out]; simp [*], Below.refl _ _⟩
  · have HB : Hid (inB n 0 hi = false) := decide_eq_false (fun q => h q.1)
    go_enter Try.func86, Try.ntmps86
    go_wp2_with fail
    go_ret
    exact ⟨by rw [HB.out]; simp [*], Below.refl _ _⟩
end Go.Proofs.Ytbfbaofjkefmmaa
