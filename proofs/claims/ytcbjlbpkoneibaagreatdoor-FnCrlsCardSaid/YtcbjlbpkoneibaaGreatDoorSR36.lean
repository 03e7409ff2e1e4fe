/-
  Texts of the proof.
-/
import Derived.Recover
import Derived.Deep.RegionHeld3
import Derived.Test.YtcbjlbpkoneibaaGreatDoorSR35
set_option linter.unusedVariables false
set_option linter.unusedSimpArgs false
set_option maxRecDepth 100000
set_option maxHeartbeats 25600000
namespace Go.Proofs.YtcbjlbpkoneibaaGreatDoor
open Go.RowKit Der
theorem step_assign {P : Program} {ops : Array Oper} {rest : List Oper} {op : Oper} {a : Act} {w : World} {Q : Exit -> Act -> World -> Prop} {v : Value} (hgd : op.guard = none) (ho : op.op = .assign (.const v)) (hk : wpList P ops Q rest (a.put op.dst v) w) : wpList P ops Q (op :: rest) a w :=
 wpList_plain hgd fun _ hK => by
  unfold Oper.wp execOp;simp only [ho];simp [go_sem];exact hK _ _ hk
end Go.Proofs.YtcbjlbpkoneibaaGreatDoor
namespace Go.Proofs.YtcbjlbpkoneibaaGreatDoor
open Go.RowKit Der
def revP {k : Nat} (ks : List (It (k + 2))) : Option ((Int × Int) × List (It (k + 2))) := (lstP ks).bind fun a => (numP a.1).bind fun s => (numP s.2).bind fun r => (endP r.2).bind fun _ => some ((s.1, r.1), a.2)
def revsP {k : Nat} : List (It (k + 2)) -> Option (List (Int × Int))
 | [] => some []
 | y :: r => match revP (y :: r) with
  | none => none
  | some (v, _) => match revsP r with
   | none => none
   | some l => some (v :: l)
def revsL {k : Nat} (ks : List (It (k + 3))) : Option (List (Int × Int) × List (It (k + 3))) :=
 match lstP ks with
 | none => none
 | some (i, r) => match revsP i with
  | none => none
  | some l => some (l, r)
def headP {m : Nat} (ks : List (It (m + 3))) : Option (Cl × List (It (m + 3))) := (txtP 12 ks).bind fun a0 => (numP a0.2).bind fun a1 => (numP a1.2).bind fun a2 => (numP a2.2).bind fun a3 => (numP a3.2).bind fun a4 => some (⟨a0.1, a1.1, a2.1, a3.1, a4.1, [], ⟨#[]⟩⟩, a4.2)
def tidP {m : Nat} (ks : List (It (m + 3))) : Option Cl := (headP ks).bind fun h => (revsL h.2).bind fun a5 => (endP a5.2).bind fun _ => some { h.1 with revs := a5.1 }
def cbP {m : Nat} (ks : List (It (m + 4))) : Option Cl := (lstP ks).bind fun b => (tidP b.1).bind fun c => (txtP 4 b.2).bind fun s => (endP s.2).bind fun _ => some { c with sig := s.1 }
def crlP {m : Nat} (x : It (m + 5)) : Option Cl := if It.tag x = 48 then cbP (It.kids x) else none
def pairI {k : Nat} (y : It (k + 2)) : Option (Int × Int) :=
 match It.kids y with
 | [a, b] => some (numI a, numI b)
 | _ => none
def pairsI {k : Nat} : List (It (k + 2)) -> Option (List (Int × Int))
 | [] => some []
 | y :: r => (pairI y).bind fun p => (pairsI r).map (p :: ·)
def specL {m : Nat} (x : It (m + 5)) : Option Cl :=
 match It.kids x with
 | [b, sg] => match It.kids b with
  | [k0, k1, k2, k3, k4, k5] => if It.tag x = 48 /\ It.tag b = 48 then (pairsI (It.kids k5)).map fun l => ⟨baL (It.text k0), numI k1, numI k2, numI k3, numI k4, l, baL (It.text sg)⟩ else none
  | _ => none
 | _ => none
theorem rev_some {k : Nat} {ks : List (It (k + 2))} {p : (Int × Int) × List (It (k + 2))} (h : revP ks = some p) : ∃ y a b n r, ks = y :: p.2 /\ It.tag y = 48 /\ It.kids y = [a, b] /\ inI (k + 1) a = some n /\ inI (k + 1) b = some r /\ p.1 = ((n : Int), (r : Int)) := by
 unfold revP at h;obtain ⟨a, ha, h⟩ := Option.bind_eq_some_iff.1 h;obtain ⟨s, hs, h⟩ := Option.bind_eq_some_iff.1 h;obtain ⟨r, hr, h⟩ := Option.bind_eq_some_iff.1 h;obtain ⟨_, he, h⟩ := Option.bind_eq_some_iff.1 h;simp only [Option.some.injEq] at h;obtain ⟨y, e1, e2, e3⟩ := lst_some ha;obtain ⟨ya, n, p1, p2, p3, p4⟩ := num_some hs;obtain ⟨yb, n2, q1, q2, q3, q4⟩ := num_some hr;have e4 := end_some he;rw [e4] at q1;rw [q1] at p1;rw [e3] at p1;subst h;exact ⟨y, ya, yb, n, n2, e1, e2, p1, p3, q3, by rw [p4, q4]⟩
theorem rev_same {n m d : Nat} {y : It (n + 2)} {a b : It (n + 1)} {s r : Nat} (h : rightI (n + 2) y d = true) (ht : It.tag y = 48) (hk : It.kids y = [a, b]) (h1 : inI (n + 1) a = some s) (h2 : inI (n + 1) b = some r) : sameI (n + 2) (m + 2) y (lstJ [intI (s : Int), intI (r : Int)]) = true := by
 refine same_lst ht (right_list h ht).1 hk ⟨rfl, ?_⟩;simp only [List.zip_cons_cons, List.zip_nil_right, List.all_cons, List.all_nil, Bool.and_true, Bool.and_eq_true];exact ⟨leaf_int h1, leaf_int h2⟩
theorem revs_same {n d : Nat} : ∀ {ks : List (It (n + 2))} {l : List (Int × Int)}, (∀ z ∈ ks, rightI (n + 2) z d = true) -> revsP ks = some l -> ks.length = (l.map revI).length /\ ((ks.zip (l.map revI)).all fun p => sameI (n + 2) 2 p.1 p.2) = true
 | [], l, _, h => by
  simp only [revsP, Option.some.injEq] at h;subst h;exact ⟨rfl, rfl⟩
 | y :: q, l, hr, h => by
  unfold revsP at h
  split at h
  ·cases h
  ·next v q' hv =>
   split at h
   ·cases h
   ·next l' hl =>
    simp only [Option.some.injEq] at h;subst h;obtain ⟨y', a, b, s, r, e1, e2, e3, e4, e5, e6⟩ := rev_some hv;simp only [List.cons.injEq] at e1;obtain ⟨rfl, -⟩ := e1;obtain ⟨i1, i2⟩ := revs_same (fun z hz => hr z (by simp [hz])) hl;change v = ((s : Int), (r : Int)) at e6;refine ⟨by simp only [List.map_cons, List.length_cons, i1], ?_⟩;simp only [List.map_cons, List.zip_cons_cons, List.all_cons, Bool.and_eq_true];refine ⟨?_, i2⟩;rw [e6];exact rev_same (hr y (by simp)) e2 e3 e4 e5
theorem crl_let {m : Nat} {x : It (m + 5)} {c : Cl} (h : crlP x = some c) (hr : rightI (m + 5) x 0 = true) : sameI (m + 5) 5 x (crlI c) = true := by
 unfold crlP at h
 split at h
 rotate_left
 ·cases h
 next ht =>
 unfold cbP at h;obtain ⟨b, hb, h⟩ := Option.bind_eq_some_iff.1 h;obtain ⟨cb, hcb, h⟩ := Option.bind_eq_some_iff.1 h;obtain ⟨s, hs, h⟩ := Option.bind_eq_some_iff.1 h;obtain ⟨_, he, h⟩ := Option.bind_eq_some_iff.1 h;simp only [Option.some.injEq] at h;obtain ⟨yb, b1, b2, b3⟩ := lst_some hb;obtain ⟨ys, s1, s2, s3⟩ := txt_some hs;have s4 := end_some he;rw [s4] at s1;rw [s1] at b1;obtain ⟨t1, t2⟩ := right_list hr ht;have rb : rightI (m + 4) yb 1 = true := t2 yb (by rw [b1]; simp);have rs : rightI (m + 4) ys 1 = true := t2 ys (by rw [b1]; simp);obtain ⟨u1, u2⟩ := right_list rb b2;rw [b3] at hcb;unfold tidP headP at hcb;obtain ⟨hh, hhd, hcb⟩ := Option.bind_eq_some_iff.1 hcb;obtain ⟨a0, h0, hhd⟩ := Option.bind_eq_some_iff.1 hhd;obtain ⟨a1, h1, hhd⟩ := Option.bind_eq_some_iff.1 hhd;obtain ⟨a2, h2, hhd⟩ := Option.bind_eq_some_iff.1 hhd;obtain ⟨a3, h3, hhd⟩ := Option.bind_eq_some_iff.1 hhd;obtain ⟨a4, h4, hhd⟩ := Option.bind_eq_some_iff.1 hhd;simp only [Option.some.injEq] at hhd;subst hhd;obtain ⟨a5, h5, hcb⟩ := Option.bind_eq_some_iff.1 hcb;obtain ⟨_, hze, hcb⟩ := Option.bind_eq_some_iff.1 hcb;simp only [Option.some.injEq] at hcb;obtain ⟨y0, p0, q0, v0⟩ := txt_some h0;obtain ⟨y1, n1, p1, q1, i1, v1⟩ := num_some h1;obtain ⟨y2, n2, p2, q2, i2, v2⟩ := num_some h2;obtain ⟨y3, n3, p3, q3, i3, v3⟩ := num_some h3;obtain ⟨y4, n4, p4, q4, i4, v4⟩ := num_some h4;have h5' : ∃ y, a4.2 = y :: a5.2 /\ It.tag y = 48 /\ revsP (It.kids y) = some a5.1 := by
  have h := h5;change revsL a4.2 = some a5 at h;unfold revsL at h
  split at h
  ·cases h
  ·next i r hl =>
   split at h
   ·cases h
   ·next l hl2 =>
    simp only [Option.some.injEq] at h;subst h;obtain ⟨y, e1, e2, e3⟩ := lst_some hl;change i = It.kids y at e3;exact ⟨y, e1, e2, by rw [<- e3]; exact hl2⟩
 obtain ⟨y5, p5, q5, v5⟩ := h5';have ze := end_some hze;rw [ze] at p5;rw [p5] at p4;rw [p4] at p3;rw [p3] at p2;rw [p2] at p1;rw [p1] at p0;have rk : ∀ z ∈ [y0, y1, y2, y3, y4, y5], rightI (m + 3) z 2 = true := fun z hz => u2 z (by rw [p0]; exact hz)
 obtain ⟨r5, r6⟩ := right_list (rk y5 (by simp)) q5;subst h hcb;refine same_lst ht t1 b1 ⟨rfl, ?_⟩;simp only [List.zip_cons_cons, List.zip_nil_right, List.all_cons, List.all_nil, Bool.and_true, Bool.and_eq_true];refine ⟨?_, by rw [s3]; exact leaf_byt rs s2⟩;refine same_lst b2 u1 p0 ⟨rfl, ?_⟩;simp only [headL, List.cons_append, List.nil_append, List.zip_cons_cons, List.zip_nil_right, List.all_cons, List.all_nil, Bool.and_true, Bool.and_eq_true];refine ⟨by rw [v0]; exact leaf_txt (rk y0 (by simp)) q0, by rw [v1]; exact leaf_int i1, by rw [v2]; exact leaf_int i2, by rw [v3]; exact leaf_int i3, by rw [v4]; exact leaf_int i4, ?_⟩;exact same_lst q5 r5 rfl (revs_same r6 v5)
theorem list_six {α : Type} {l : List α} (h : l.length = 6) : ∃ a b c d e f, l = [a, b, c, d, e, f] := by
 match l, h with
 | [a, b, c, d, e, f], _ => exact ⟨a, b, c, d, e, f, rfl⟩
theorem revs_read {n : Nat} : ∀ {ks : List (It (n + 2))} {l : List (Int × Int)}, ks.length = l.length -> (∀ p ∈ ks.zip (l.map revI), sameI (n + 2) 2 p.1 p.2 = true) -> (∀ v ∈ l, (0 <= v.1 /\ v.1 <= 1000000000) /\ (0 <= v.2 /\ v.2 <= 1000000000)) -> revsP ks = some l /\ pairsI ks = some l
 | [], [], _, _, _ => ⟨rfl, rfl⟩
 | [], _ :: _, h, _, _ => by simp at h
 | _ :: _, [], h, _, _ => by simp at h
 | y :: r, v :: l, h, hp, hv => by
  obtain ⟨i1, i2⟩ := revs_read (ks := r) (l := l) (by simpa using h) (fun p q => hp p (by simp [q])) (fun z hz => hv z (by simp [hz]));obtain ⟨⟨b0, b1⟩, c0, c1⟩ := hv v (by simp);have sy : sameI (n + 2) 2 y (revI v) = true := hp (y, revI v) (by simp);obtain ⟨t1, _, t3, t4⟩ := same_parts sy;obtain ⟨a, b, hk⟩ := list_two (show (It.kids y).length = 2 from t3);rw [hk] at t4;have sa : sameI (n + 1) 1 a (intI v.1) = true := t4 (a, intI v.1) (by show _ ∈ List.zip [a, b] [intI v.1, intI v.2]; simp);have sb : sameI (n + 1) 1 b (intI v.2) = true := t4 (b, intI v.2) (by show _ ∈ List.zip [a, b] [intI v.1, intI v.2]; simp);obtain ⟨x1, x2, x3⟩ := in_same sa b0 b1;obtain ⟨z1, z2, z3⟩ := in_same sb c0 c1;have ty : It.tag y = 48 := t1;have e1 : ((v.1.toNat : Nat) : Int) = v.1 := by omega
  have e2 : ((v.2.toNat : Nat) : Int) = v.2 := by omega
  have hrev : revP (y :: r) = some (v, r) := by simp [revP, lstP, nextP, ty, hk, numP, x1, x2, z1, z2, endP, e1, e2]
  have hpair : pairI y = some v := by unfold pairI; rw [hk]; dsimp only; rw [x3, z3]
  refine ⟨?_, ?_⟩
  ·unfold revsP
   rw [hrev];dsimp only;rw [i1]
  ·unfold pairsI
   rw [hpair, i2];rfl
theorem revs_in_word {b : Int} {l : List (Int × Int)} (h : revsOk b l = true) : ∀ v ∈ l, (0 <= v.1 /\ v.1 <= 1000000000) /\ (0 <= v.2 /\ v.2 <= 1000000000) := by
 intro v hv;unfold revsOk at h;simp only [Bool.and_eq_true, List.all_eq_true] at h;have := h.2.1 v hv;unfold revIn at this;simp only [Bool.and_eq_true] at this;have h1 := inB_of this.1;have h2 := inB_of this.2.1;omega
theorem crl_same {m : Nat} {x : It (m + 5)} {c : Cl} (h : sameI (m + 5) 5 x (crlI c) = true) (hc : crlOk c = true) : crlP x = some c /\ specL x = some c := by
 unfold crlOk headOk at hc;simp only [Bool.and_eq_true, decide_eq_true_eq] at hc;obtain ⟨⟨c1, c2, c3, c4, c5⟩, c6, c7⟩ := hc;have d2 := inB_of c2;have d3 := inB_of c3;have d4 := inB_of c4;have d5 := inB_of c5;obtain ⟨t1, t2, t3, t4⟩ := same_parts h;obtain ⟨yb, ys, hk⟩ := list_two (show (It.kids x).length = 2 from t3);rw [hk] at t4;have sb : sameI (m + 4) 4 yb (bodyL c) = true := t4 (yb, bodyL c) (by show _ ∈ List.zip [yb, ys] [bodyL c, bytJ c.sig]; simp);have ss : sameI (m + 4) 4 ys (bytJ c.sig) = true := t4 (ys, bytJ c.sig) (by show _ ∈ List.zip [yb, ys] [bodyL c, bytJ c.sig]; simp);obtain ⟨u1, u2, u3, u4⟩ := same_parts sb;obtain ⟨k0, k1, k2, k3, k4, k5, hb⟩ := list_six (show (It.kids yb).length = 6 from u3);rw [hb] at u4;have each : ∀ p ∈ List.zip [k0, k1, k2, k3, k4, k5] (It.kids (bodyL c)), sameI (m + 3) 3 p.1 p.2 = true := u4;change ∀ p ∈ List.zip [k0, k1, k2, k3, k4, k5] [txtJ c.issuer, intI c.num, intI c.ths, intI c.nxt, intI c.bas, lstJ (c.revs.map revI)], sameI (m + 3) 3 p.1 p.2 = true at each;simp only [List.zip_cons_cons, List.zip_nil_right, List.forall_mem_cons] at each;obtain ⟨e0, e1, e2, e3, e4, e5, -⟩ := each;obtain ⟨a0, n0⟩ := txt_same e0;obtain ⟨a1, b1, n1⟩ := in_same e1 (by omega) (by omega);obtain ⟨a2, b2, n2⟩ := in_same e2 d4.1 (by omega);obtain ⟨a3, b3, n3⟩ := in_same e3 d5.1 (by omega);obtain ⟨a4, b4, n4⟩ := in_same e4 d3.1 (by omega);obtain ⟨a5, _, l5, q5⟩ := same_parts e5;obtain ⟨g5, n5⟩ := revs_read (ks := It.kids k5) (l := c.revs) (by rw [l5]; show (c.revs.map revI).length = _; rw [List.length_map]) q5 (revs_in_word c6)
 obtain ⟨asg, ns⟩ := byt_same ss;have ht : It.tag x = 48 := t1;have hbt : It.tag yb = 48 := u1;have h5t : It.tag k5 = 48 := a5;have z1 : ((c.num.toNat : Nat) : Int) = c.num := by omega
 have z2 : ((c.ths.toNat : Nat) : Int) = c.ths := by omega
 have z3 : ((c.nxt.toNat : Nat) : Int) = c.nxt := by omega
 have z4 : ((c.bas.toNat : Nat) : Int) = c.bas := by omega
 refine ⟨?_, ?_⟩
 ·have hbody : tidP [k0, k1, k2, k3, k4, k5] = some { c with sig := ⟨#[]⟩ } := by
   simp [tidP, headP, numP, txtP, lstP, nextP, revsL, endP, a0, a1, a2, a3, a4, h5t, b1, b2, b3, b4, g5, n0, z1, z2, z3, z4]
  simp [crlP, cbP, ht, hk, lstP, nextP, hbt, hb, hbody, txtP, asg, ns, endP]
 ·unfold specL
  rw [hk];dsimp only;rw [hb];dsimp only;rw [if_pos ⟨ht, hbt⟩, n5, n0, n1, n2, n3, n4, ns];rfl
def readPL {m : Nat} (x : It (m + 5)) : Option Cl := (crlP x).bind fun c => if crlOk c = true then some c else none
def readSL {m : Nat} (t : List UInt8) (x : It (m + 5)) : Option Cl := (specL x).bind fun c => if crlOk c = true /\ writeI 5 (crlI c) = some t then some c else none
theorem readPL_iff {m : Nat} {x : It (m + 5)} {t : List UInt8} (h : writeI (m + 5) x = some t) (c : Cl) : readPL x = some c ↔ crlOk c = true /\ writeI 5 (crlI c) = some t := by
 unfold readPL;constructor
 ·intro q
  obtain ⟨c', h1, h2⟩ := Option.bind_eq_some_iff.1 q
  split at h2
  ·next hc =>
   simp only [Option.some.injEq] at h2;subst h2;exact ⟨hc, by rw [<- write_same (crl_let h1 (write_some h).1)]; exact h⟩
  ·cases h2
 ·rintro ⟨h1, h2⟩
  rw [(crl_same (same_written h h2) h1).1];simp [h1]
theorem readSL_iff {m : Nat} {x : It (m + 5)} {t : List UInt8} (h : writeI (m + 5) x = some t) (c : Cl) : readSL t x = some c ↔ crlOk c = true /\ writeI 5 (crlI c) = some t := by
 unfold readSL;constructor
 ·intro q
  obtain ⟨c', h1, h2⟩ := Option.bind_eq_some_iff.1 q
  split at h2
  ·next hc =>
   simp only [Option.some.injEq] at h2;subst h2;exact hc
  ·cases h2
 ·rintro ⟨h1, h2⟩
  rw [(crl_same (same_written h h2) h1).2];simp [h1, h2]
theorem readsL_same {m k : Nat} {x : It (m + 5)} {y : It (k + 5)} {t : List UInt8} (hx : writeI (m + 5) x = some t) (hy : writeI (k + 5) y = some t) : readPL x = readSL t y := by
 apply Option.ext;intro c;rw [readPL_iff hx, readSL_iff hy]
theorem rev_any (w0 w : World) (g n : Nat) (v : Value) (ks : List (It (n + 2))) (hw : zW w0 w) (hk : KcAt w0 (n + 2) v ks) (hr : Blk w g 137 #[v]) (hg : w0.heap.size <= g) (hz : SzL ks) :
  Calls Tryz.prog 116 #[.pointer (some ⟨g, 0, none⟩)] w fun e W' => OnePost (fun p : Int × Int => .agg #[zI p.1, zI p.2]) w0 w g (n + 1) (revP ks) e W' := by
 obtain ⟨oB, hoB⟩ := zE (revP ks);have HP : Hid (revP ks = oB) := hoB;rw [hoB];clear hoB;have KW : Hid (KcAt w0 (n + 2) v ks /\ SzL ks) := ⟨hk, hz⟩;have O0 := zH (zJ (hg : w0.heap.size <= g) (zJ hr.lt hw.size));clear hk hz hg;go_enter Tryz.func116, Tryz.ntmps116;go_wp2_with fail;obtain ⟨W1, hW1⟩ : ∃ V, V = (w.alloc (Obj.cells #[zI 0, zI 0] 73)).alloc (Obj.cells #[zI 0, zI 0] 73) := ⟨_, rfl⟩;rw [<- hW1];have e0 : (w.alloc (Obj.cells #[zI 0, zI 0] 73)).heap.size = w.heap.size + 1 := Array.size_push _;have hb1 : zW w W1 := by rw [hW1]; exact ((Below.refl _ _).alloc (Nat.le_refl _) _).alloc (by rw [e0]; omega) _
 have hv1 : Blk W1 w.heap.size 73 #[zI 0, zI 0] := by rw [hW1]; exact (Blk.new w _ _).alloc _
 have hv2 : Blk W1 (w.heap.size + 1) 73 #[zI 0, zI 0] := by
  rw [hW1];have h := Blk.new (w.alloc (Obj.cells #[zI 0, zI 0] 73)) 73 #[zI 0, zI 0];rw [e0] at h;exact h
 have hs1 : W1.heap.size = w.heap.size + 2 := by rw [hW1, size_alloc, e0]
 have HB : Hid (zW w0 W1) := hw.trans (hb1.mono hw.size);have HO : Hid (Out [g] w W1) := Out.of_below hb1;have VC : Hid (Blk W1 w.heap.size 73 #[zI 0, zI 0]) := hv1;have VA : Hid (Blk W1 (w.heap.size + 1) 73 #[zI 0, zI 0]) := hv2;have RW : Hid (Blk W1 g 137 #[v]) := hr.below hb1 hr.lt;have O1 : Hid (W1.heap.size = w.heap.size + 2) := hs1;clear hW1 e0 hb1 hv1 hv2 hs1 hr hw;refine (list_any w0 W1 g (n + 1) v ks HB.out KW.1 RW.out (by have := O0.out; have := O1.out; omega) KW.2.1).mono ?_;rintro e w2 ⟨ho, ⟨hn, rfl⟩ | ⟨i2, r2, v2, vi2, gi, hn, rfl, hgi, hki, hkr, hB, hBi⟩⟩
 ·have HF : Hid (Out [g] w w2 /\ oB = none) := by
   refine ⟨HO.trans ho, ?_⟩;rw [<- HP.out];unfold revP; simp only [hn, Option.bind_some, Option.bind_none]
  clear hn ho;unfold misfit;go_wp2_with fail;exact ⟨rfl, HF.1, .inl ⟨HF.2, rfl⟩⟩
 have N2 : Hid (lstP ks = some (i2, r2)) := hn;replace HB := zH (below_out HB.out ho (by have := O0.out; have := O1.out; omega));replace HO := zH (HO.trans ho);replace VC := zH (VC.out.outX ho (by have := O0.out; have := O1.out; simp <;> omega))
 replace VA := zH (VA.out.outX ho (by have := O0.out; have := O1.out; simp <;> omega))
 clear RW;have O2 : Hid (W1.heap.size <= w2.heap.size) := ho.size;have RW : Hid (Blk w2 g 137 #[v2]) := hB;have RI : Hid (Blk w2 gi 137 #[vi2]) := hBi;have O3 := zH (zJ (hgi : W1.heap.size <= gi) hBi.lt);have KI : Hid (KcAt w0 (n + 1) vi2 i2 /\ SzL i2) := ⟨hki, (KW.2.lst hn).1⟩;have KR : Hid (KcAt w0 (n + 2) v2 r2) := hkr;clear hn ho hgi hki hkr hB hBi;go_wp2_with fail;refine (number_any w0 w2 gi n vi2 i2 HB.out KI.1 RI.out (by have := O0.out; have := O1.out; have := O2.out; have := O3.out; omega) KI.2.1 (fun y hy => Nat.le_trans (KI.2.2 y hy) (by decide))).mono ?_;rintro e w3 ⟨ho, ⟨hn, rfl⟩ | ⟨x3, r3, v3, hn, rfl, hkq, hB⟩⟩
 ·have HF : Hid (Out [g] w w3 /\ oB = none) := by
   refine ⟨HO.out.aside ho (by have := O0.out; have := O1.out; have := O2.out; have := O3.out; omega), ?_⟩;rw [<- HP.out];unfold revP; simp only [N2.out, hn, Option.bind_some, Option.bind_none]
  clear hn ho;unfold misfit;go_wp2_with fail;exact ⟨rfl, HF.1, .inl ⟨HF.2, rfl⟩⟩
 have N3 : Hid (numP i2 = some (x3, r3)) := hn;replace HB := zH (below_out HB.out ho (by have := O0.out; have := O1.out; have := O2.out; have := O3.out; omega));replace HO := zH (HO.out.aside ho (by have := O0.out; have := O1.out; have := O2.out; have := O3.out; omega));replace VC := zH (VC.out.outX ho (by have := O0.out; have := O1.out; have := O2.out; have := O3.out; simp <;> omega))
 replace VA := zH (VA.out.outX ho (by have := O0.out; have := O1.out; have := O2.out; have := O3.out; simp <;> omega))
 replace RW := zH (RW.out.outX ho (by have := O0.out; have := O1.out; have := O2.out; have := O3.out; simp <;> omega))
 clear RI;have O4 : Hid (w2.heap.size <= w3.heap.size) := ho.size;have RI : Hid (Blk w3 gi 137 #[v3]) := hB;have KIn : Hid (KcAt w0 (n + 1) v3 r3 /\ SzL r3) := ⟨hkq, by obtain ⟨y', _, h1, _⟩ := num_some hn; have h := KI.2; rw [h1] at h; exact h.tail⟩;clear KI;have KI := KIn;clear KIn hn ho hkq hB;have cc := fun j => VA.cell j
 have cf := VA.free 0;go_wp2_with fail;clear cc cf;obtain ⟨V3, hV⟩ : ∃ V, V = w3.setCell ⟨w.heap.size + 1, 0, none⟩ (zI x3) := ⟨_, rfl⟩;rw [<- hV];have hset : Out [w.heap.size + 1] w3 V3 := by rw [hV]; exact out_set _ _ _
 have hVA : Blk V3 (w.heap.size + 1) 73 #[zI x3, zI 0] := by rw [hV]; exact VA.set 0 _
 replace HB := zH (below_out HB.out hset (by have := O0.out; have := O1.out; have := O2.out; have := O3.out; have := O4.out; omega));replace HO := zH (HO.out.aside hset (by have := O0.out; have := O1.out; have := O2.out; have := O3.out; have := O4.out; omega));replace VC := zH (VC.out.outX hset (by have := O0.out; have := O1.out; have := O2.out; have := O3.out; have := O4.out; simp <;> omega))
 replace RW := zH (RW.out.outX hset (by have := O0.out; have := O1.out; have := O2.out; have := O3.out; have := O4.out; simp <;> omega))
 replace RI := zH (RI.out.outX hset (by have := O0.out; have := O1.out; have := O2.out; have := O3.out; have := O4.out; simp <;> omega))
 clear VA;have O5 : Hid (w3.heap.size <= V3.heap.size) := hset.size;have VA : Hid (Blk V3 (w.heap.size + 1) 73 #[zI x3, zI 0]) := hVA;clear hset hVA hV;refine (number_any w0 V3 gi n v3 r3 HB.out KI.1 RI.out (by have := O0.out; have := O1.out; have := O2.out; have := O3.out; have := O4.out; have := O5.out; omega) KI.2.1 (fun y hy => Nat.le_trans (KI.2.2 y hy) (by decide))).mono ?_;rintro e w4 ⟨ho, ⟨hn, rfl⟩ | ⟨x4, r4, v4, hn, rfl, hkq, hB⟩⟩
 ·have HF : Hid (Out [g] w w4 /\ oB = none) := by
   refine ⟨HO.out.aside ho (by have := O0.out; have := O1.out; have := O2.out; have := O3.out; have := O4.out; have := O5.out; omega), ?_⟩;rw [<- HP.out];unfold revP; simp only [N2.out, N3.out, hn, Option.bind_some, Option.bind_none]
  clear hn ho;unfold misfit;go_wp2_with fail;exact ⟨rfl, HF.1, .inl ⟨HF.2, rfl⟩⟩
 have N4 : Hid (numP r3 = some (x4, r4)) := hn;replace HB := zH (below_out HB.out ho (by have := O0.out; have := O1.out; have := O2.out; have := O3.out; have := O4.out; have := O5.out; omega));replace HO := zH (HO.out.aside ho (by have := O0.out; have := O1.out; have := O2.out; have := O3.out; have := O4.out; have := O5.out; omega));replace VC := zH (VC.out.outX ho (by have := O0.out; have := O1.out; have := O2.out; have := O3.out; have := O4.out; have := O5.out; simp <;> omega))
 replace RW := zH (RW.out.outX ho (by have := O0.out; have := O1.out; have := O2.out; have := O3.out; have := O4.out; have := O5.out; simp <;> omega))
 replace VA := zH (VA.out.outX ho (by have := O0.out; have := O1.out; have := O2.out; have := O3.out; have := O4.out; have := O5.out; simp <;> omega))
 clear RI;have O6 : Hid (V3.heap.size <= w4.heap.size) := ho.size;have RI : Hid (Blk w4 gi 137 #[v4]) := hB;have KIn : Hid (KcAt w0 (n + 1) v4 r4 /\ SzL r4) := ⟨hkq, by obtain ⟨y', _, h1, _⟩ := num_some hn; have h := KI.2; rw [h1] at h; exact h.tail⟩;clear KI;have KI := KIn;clear KIn hn ho hkq hB;have cc := fun j => VA.cell j
 have cf := VA.free 1;go_wp2_with fail;clear cc cf;obtain ⟨V4, hV⟩ : ∃ V, V = w4.setCell ⟨w.heap.size + 1, 1, none⟩ (zI x4) := ⟨_, rfl⟩;rw [<- hV];have hset : Out [w.heap.size + 1] w4 V4 := by rw [hV]; exact out_set _ _ _
 have hVA : Blk V4 (w.heap.size + 1) 73 #[zI x3, zI x4] := by rw [hV]; exact VA.set 1 _
 replace HB := zH (below_out HB.out hset (by have := O0.out; have := O1.out; have := O2.out; have := O3.out; have := O4.out; have := O5.out; have := O6.out; omega));replace HO := zH (HO.out.aside hset (by have := O0.out; have := O1.out; have := O2.out; have := O3.out; have := O4.out; have := O5.out; have := O6.out; omega));replace VC := zH (VC.out.outX hset (by have := O0.out; have := O1.out; have := O2.out; have := O3.out; have := O4.out; have := O5.out; have := O6.out; simp <;> omega))
 replace RW := zH (RW.out.outX hset (by have := O0.out; have := O1.out; have := O2.out; have := O3.out; have := O4.out; have := O5.out; have := O6.out; simp <;> omega))
 replace RI := zH (RI.out.outX hset (by have := O0.out; have := O1.out; have := O2.out; have := O3.out; have := O4.out; have := O5.out; have := O6.out; simp <;> omega))
 clear VA;have O7 : Hid (w4.heap.size <= V4.heap.size) := hset.size;have VA : Hid (Blk V4 (w.heap.size + 1) 73 #[zI x3, zI x4]) := hVA;clear hset hVA hV;obtain ⟨ea, ec, he⟩ := KI.1.shape;have hRE : Blk V4 gi 137 #[zS ea r4.length ec] := by rw [<- he]; exact RI.out
 refine (end_any V4 gi r4.length ec ea r4 rfl hRE).mono ?_;rintro e w7 ⟨hb, ⟨hn, rfl⟩ | ⟨hnil, hn, rfl⟩⟩
 ·have HF : Hid (Out [g] w w7 /\ oB = none) := by
   refine ⟨HO.trans (Out.of_below hb), ?_⟩;rw [<- HP.out];unfold revP; simp only [N2.out, N3.out, N4.out, hn, Option.bind_some, Option.bind_none]
  clear hn hb;unfold misfit;go_wp2_with fail;exact ⟨rfl, HF.1, .inl ⟨HF.2, rfl⟩⟩
 have N7 : Hid (endP r4 = some ()) := hn;replace HB := zH (HB.trans (hb.mono HB.size));replace HO := zH (HO.trans (Out.of_below hb));replace VC := zH (VC.out.on hb);replace RW := zH (RW.out.on hb);replace RI := zH (RI.out.on hb);replace VA := zH (VA.out.on hb);have O8 : Hid (V4.heap.size <= w7.heap.size) := hb.size;clear hn hb hnil hRE he;have HF : Hid (oB = some ((x3, x4), r2)) := by
  show oB = _;rw [<- HP.out];unfold revP; simp only [N2.out, N3.out, N4.out, N7.out, Option.bind_some, Option.bind_none]
 have a0 := fun j => VA.cell j
 have b0 := fun j => VC.cell j
 have a1 := fun j => VA.cell j
 have b1 := fun j => VC.cell j
 have fb := fun j => VC.free j
 go_wp2_with fail;generalize hV8 : World.setCell _ { block := w.heap.size, off := 1 } _ = V8;have FIN : Out [w.heap.size] w7 V8 /\ Blk V8 w.heap.size 73 #[zI x3, zI x4] := by
  rw [<- hV8];refine ⟨?_, ?_⟩
  ·iterate 2 refine Out.setCell ?_ _ _ (by simp)
   exact Out.refl _ _
  ·have h0 := VC.out
   have h1 : Blk _ w.heap.size 73 #[zI x3, zI 0] := h0.set 0 (zI x3);have h2 : Blk _ w.heap.size 73 #[zI x3, zI x4] := h1.set 1 (zI x4);exact h2
 clear hV8 fb a0 b0 a1 b1;have HE8 : OnePost (fun p : Int × Int => .agg #[zI p.1, zI p.2]) w0 w g (n + 1) oB (.returned (.agg #[zI x3, zI x4])) V8 := ⟨HO.out.aside FIN.1 (by have := O0.out; have := O1.out; have := O2.out; have := O3.out; have := O4.out; have := O5.out; have := O6.out; have := O7.out; have := O8.out; omega), .inr ⟨(x3, x4), r2, v2, HF.out, rfl, KR.out, RW.out.outX FIN.1 (by have := O0.out; have := O1.out; have := O2.out; have := O3.out; have := O4.out; have := O5.out; have := O6.out; have := O7.out; have := O8.out; simp <;> omega)⟩⟩
 have q0 := fun j => FIN.2.cell j
 refine bodyPost_ret (v := .agg #[zI x3, zI x4]) (by simp [results, Tryz.results116, go_sem, q0]) rfl HE8
theorem rhead_any (w0 w : World) (g n : Nat) (v : Value) (ks : List (It (n + 3))) (hw : zW w0 w) (hk : KcAt w0 (n + 3) v ks) (hr : Blk w g 137 #[v]) (hg : w0.heap.size <= g) (hz : SzL ks) :
  Calls Tryz.prog 114 #[.pointer (some ⟨g, 0, none⟩)] w fun e W' => OnePost (fun c : Cl => hdV c) w0 w g (n + 2) (headP ks) e W' := by
 obtain ⟨oB, hoB⟩ := zE (headP ks);have HP : Hid (headP ks = oB) := hoB;rw [hoB];clear hoB;have KW : Hid (KcAt w0 (n + 3) v ks /\ SzL ks) := ⟨hk, hz⟩;have O0 := zH (zJ (hg : w0.heap.size <= g) (zJ hr.lt hw.size));clear hk hz hg;go_enter Tryz.func114, Tryz.ntmps114;go_wp2_with fail;obtain ⟨W1, hW1⟩ : ∃ V, V = (w.alloc (Obj.cells #[zG ⟨#[]⟩, zI 0, zI 0, zI 0, zI 0] 53)).alloc (Obj.cells #[zG ⟨#[]⟩, zI 0, zI 0, zI 0, zI 0] 53) := ⟨_, rfl⟩;rw [<- hW1];have e0 : (w.alloc (Obj.cells #[zG ⟨#[]⟩, zI 0, zI 0, zI 0, zI 0] 53)).heap.size = w.heap.size + 1 := Array.size_push _;have hb1 : zW w W1 := by rw [hW1]; exact ((Below.refl _ _).alloc (Nat.le_refl _) _).alloc (by rw [e0]; omega) _
 have hv1 : Blk W1 w.heap.size 53 #[zG ⟨#[]⟩, zI 0, zI 0, zI 0, zI 0] := by rw [hW1]; exact (Blk.new w _ _).alloc _
 have hv2 : Blk W1 (w.heap.size + 1) 53 #[zG ⟨#[]⟩, zI 0, zI 0, zI 0, zI 0] := by
  rw [hW1];have h := Blk.new (w.alloc (Obj.cells #[zG ⟨#[]⟩, zI 0, zI 0, zI 0, zI 0] 53)) 53 #[zG ⟨#[]⟩, zI 0, zI 0, zI 0, zI 0];rw [e0] at h;exact h
 have hs1 : W1.heap.size = w.heap.size + 2 := by rw [hW1, size_alloc, e0]
 have HB : Hid (zW w0 W1) := hw.trans (hb1.mono hw.size);have HO : Hid (Out [g] w W1) := Out.of_below hb1;have VC : Hid (Blk W1 w.heap.size 53 #[zG ⟨#[]⟩, zI 0, zI 0, zI 0, zI 0]) := hv1;have VA : Hid (Blk W1 (w.heap.size + 1) 53 #[zG ⟨#[]⟩, zI 0, zI 0, zI 0, zI 0]) := hv2;have RW : Hid (Blk W1 g 137 #[v]) := hr.below hb1 hr.lt;have O1 : Hid (W1.heap.size = w.heap.size + 2) := hs1;clear hW1 e0 hb1 hv1 hv2 hs1 hr hw;have KI : Hid (KcAt w0 (n + 3) v ks /\ SzL ks) := KW.out;refine (rtext_any w0 W1 g (n + 2) v ks HB.out KI.1 RW.out (by have := O0.out; have := O1.out; omega) KI.2.1).mono ?_;rintro e w2 ⟨ho, ⟨hn, rfl⟩ | ⟨x2, r2, v2, hn, rfl, hkq, hB⟩⟩
 ·have HF : Hid (Out [g] w w2 /\ oB = none) := by
   refine ⟨HO.trans ho, ?_⟩;rw [<- HP.out];unfold headP; simp only [hn, Option.bind_some, Option.bind_none]
  clear hn ho;unfold misfit;go_wp2_with fail;exact ⟨rfl, HF.1, .inl ⟨HF.2, rfl⟩⟩
 have N2 : Hid (txtP 12 ks = some (x2, r2)) := hn;replace HB := zH (below_out HB.out ho (by have := O0.out; have := O1.out; omega));replace HO := zH (HO.trans ho);replace VC := zH (VC.out.outX ho (by have := O0.out; have := O1.out; simp <;> omega))
 replace VA := zH (VA.out.outX ho (by have := O0.out; have := O1.out; simp <;> omega))
 clear RW;have O2 : Hid (W1.heap.size <= w2.heap.size) := ho.size;have RW : Hid (Blk w2 g 137 #[v2]) := hB;have KIn : Hid (KcAt w0 (n + 3) v2 r2 /\ SzL r2) := ⟨hkq, by obtain ⟨y', h1, _⟩ := txt_some hn; have h := KI.2; rw [h1] at h; exact h.tail⟩;clear KI;have KI := KIn;clear KIn hn ho hkq hB;have cc := fun j => VA.cell j
 have cf := VA.free 0;go_wp2_with fail;clear cc cf;obtain ⟨V2, hV⟩ : ∃ V, V = w2.setCell ⟨w.heap.size + 1, 0, none⟩ (zG x2) := ⟨_, rfl⟩;rw [<- hV];have hset : Out [w.heap.size + 1] w2 V2 := by rw [hV]; exact out_set _ _ _
 have hVA : Blk V2 (w.heap.size + 1) 53 #[zG x2, zI 0, zI 0, zI 0, zI 0] := by rw [hV]; exact VA.set 0 _
 replace HB := zH (below_out HB.out hset (by have := O0.out; have := O1.out; have := O2.out; omega));replace HO := zH (HO.out.aside hset (by have := O0.out; have := O1.out; have := O2.out; omega));replace VC := zH (VC.out.outX hset (by have := O0.out; have := O1.out; have := O2.out; simp <;> omega))
 replace RW := zH (RW.out.outX hset (by have := O0.out; have := O1.out; have := O2.out; simp <;> omega))
 clear VA;have O3 : Hid (w2.heap.size <= V2.heap.size) := hset.size;have VA : Hid (Blk V2 (w.heap.size + 1) 53 #[zG x2, zI 0, zI 0, zI 0, zI 0]) := hVA;clear hset hVA hV;refine (number_any w0 V2 g (n + 2) v2 r2 HB.out KI.1 RW.out (by have := O0.out; have := O1.out; have := O2.out; have := O3.out; omega) KI.2.1 (fun y hy => Nat.le_trans (KI.2.2 y hy) (by decide))).mono ?_;rintro e w3 ⟨ho, ⟨hn, rfl⟩ | ⟨x3, r3, v3, hn, rfl, hkq, hB⟩⟩
 ·have HF : Hid (Out [g] w w3 /\ oB = none) := by
   refine ⟨HO.trans ho, ?_⟩;rw [<- HP.out];unfold headP; simp only [N2.out, hn, Option.bind_some, Option.bind_none]
  clear hn ho;unfold misfit;go_wp2_with fail;exact ⟨rfl, HF.1, .inl ⟨HF.2, rfl⟩⟩
 have N3 : Hid (numP r2 = some (x3, r3)) := hn;replace HB := zH (below_out HB.out ho (by have := O0.out; have := O1.out; have := O2.out; have := O3.out; omega));replace HO := zH (HO.trans ho);replace VC := zH (VC.out.outX ho (by have := O0.out; have := O1.out; have := O2.out; have := O3.out; simp <;> omega))
 replace VA := zH (VA.out.outX ho (by have := O0.out; have := O1.out; have := O2.out; have := O3.out; simp <;> omega))
 clear RW;have O4 : Hid (V2.heap.size <= w3.heap.size) := ho.size;have RW : Hid (Blk w3 g 137 #[v3]) := hB;have KIn : Hid (KcAt w0 (n + 3) v3 r3 /\ SzL r3) := ⟨hkq, by obtain ⟨y', _, h1, _⟩ := num_some hn; have h := KI.2; rw [h1] at h; exact h.tail⟩;clear KI;have KI := KIn;clear KIn hn ho hkq hB;have cc := fun j => VA.cell j
 have cf := VA.free 1;go_wp2_with fail;clear cc cf;obtain ⟨V3, hV⟩ : ∃ V, V = w3.setCell ⟨w.heap.size + 1, 1, none⟩ (zI x3) := ⟨_, rfl⟩;rw [<- hV];have hset : Out [w.heap.size + 1] w3 V3 := by rw [hV]; exact out_set _ _ _
 have hVA : Blk V3 (w.heap.size + 1) 53 #[zG x2, zI x3, zI 0, zI 0, zI 0] := by rw [hV]; exact VA.set 1 _
 replace HB := zH (below_out HB.out hset (by have := O0.out; have := O1.out; have := O2.out; have := O3.out; have := O4.out; omega));replace HO := zH (HO.out.aside hset (by have := O0.out; have := O1.out; have := O2.out; have := O3.out; have := O4.out; omega));replace VC := zH (VC.out.outX hset (by have := O0.out; have := O1.out; have := O2.out; have := O3.out; have := O4.out; simp <;> omega))
 replace RW := zH (RW.out.outX hset (by have := O0.out; have := O1.out; have := O2.out; have := O3.out; have := O4.out; simp <;> omega))
 clear VA;have O5 : Hid (w3.heap.size <= V3.heap.size) := hset.size;have VA : Hid (Blk V3 (w.heap.size + 1) 53 #[zG x2, zI x3, zI 0, zI 0, zI 0]) := hVA;clear hset hVA hV;refine (number_any w0 V3 g (n + 2) v3 r3 HB.out KI.1 RW.out (by have := O0.out; have := O1.out; have := O2.out; have := O3.out; have := O4.out; have := O5.out; omega) KI.2.1 (fun y hy => Nat.le_trans (KI.2.2 y hy) (by decide))).mono ?_;rintro e w4 ⟨ho, ⟨hn, rfl⟩ | ⟨x4, r4, v4, hn, rfl, hkq, hB⟩⟩
 ·have HF : Hid (Out [g] w w4 /\ oB = none) := by
   refine ⟨HO.trans ho, ?_⟩;rw [<- HP.out];unfold headP; simp only [N2.out, N3.out, hn, Option.bind_some, Option.bind_none]
  clear hn ho;unfold misfit;go_wp2_with fail;exact ⟨rfl, HF.1, .inl ⟨HF.2, rfl⟩⟩
 have N4 : Hid (numP r3 = some (x4, r4)) := hn;replace HB := zH (below_out HB.out ho (by have := O0.out; have := O1.out; have := O2.out; have := O3.out; have := O4.out; have := O5.out; omega));replace HO := zH (HO.trans ho);replace VC := zH (VC.out.outX ho (by have := O0.out; have := O1.out; have := O2.out; have := O3.out; have := O4.out; have := O5.out; simp <;> omega))
 replace VA := zH (VA.out.outX ho (by have := O0.out; have := O1.out; have := O2.out; have := O3.out; have := O4.out; have := O5.out; simp <;> omega))
 clear RW;have O6 : Hid (V3.heap.size <= w4.heap.size) := ho.size;have RW : Hid (Blk w4 g 137 #[v4]) := hB;have KIn : Hid (KcAt w0 (n + 3) v4 r4 /\ SzL r4) := ⟨hkq, by obtain ⟨y', _, h1, _⟩ := num_some hn; have h := KI.2; rw [h1] at h; exact h.tail⟩;clear KI;have KI := KIn;clear KIn hn ho hkq hB;have cc := fun j => VA.cell j
 have cf := VA.free 2;go_wp2_with fail;clear cc cf;obtain ⟨V4, hV⟩ : ∃ V, V = w4.setCell ⟨w.heap.size + 1, 2, none⟩ (zI x4) := ⟨_, rfl⟩;rw [<- hV];have hset : Out [w.heap.size + 1] w4 V4 := by rw [hV]; exact out_set _ _ _
 have hVA : Blk V4 (w.heap.size + 1) 53 #[zG x2, zI x3, zI x4, zI 0, zI 0] := by rw [hV]; exact VA.set 2 _
 replace HB := zH (below_out HB.out hset (by have := O0.out; have := O1.out; have := O2.out; have := O3.out; have := O4.out; have := O5.out; have := O6.out; omega));replace HO := zH (HO.out.aside hset (by have := O0.out; have := O1.out; have := O2.out; have := O3.out; have := O4.out; have := O5.out; have := O6.out; omega));replace VC := zH (VC.out.outX hset (by have := O0.out; have := O1.out; have := O2.out; have := O3.out; have := O4.out; have := O5.out; have := O6.out; simp <;> omega))
 replace RW := zH (RW.out.outX hset (by have := O0.out; have := O1.out; have := O2.out; have := O3.out; have := O4.out; have := O5.out; have := O6.out; simp <;> omega))
 clear VA;have O7 : Hid (w4.heap.size <= V4.heap.size) := hset.size;have VA : Hid (Blk V4 (w.heap.size + 1) 53 #[zG x2, zI x3, zI x4, zI 0, zI 0]) := hVA;clear hset hVA hV;refine (number_any w0 V4 g (n + 2) v4 r4 HB.out KI.1 RW.out (by have := O0.out; have := O1.out; have := O2.out; have := O3.out; have := O4.out; have := O5.out; have := O6.out; have := O7.out; omega) KI.2.1 (fun y hy => Nat.le_trans (KI.2.2 y hy) (by decide))).mono ?_;rintro e w5 ⟨ho, ⟨hn, rfl⟩ | ⟨x5, r5, v5, hn, rfl, hkq, hB⟩⟩
 ·have HF : Hid (Out [g] w w5 /\ oB = none) := by
   refine ⟨HO.trans ho, ?_⟩;rw [<- HP.out];unfold headP; simp only [N2.out, N3.out, N4.out, hn, Option.bind_some, Option.bind_none]
  clear hn ho;unfold misfit;go_wp2_with fail;exact ⟨rfl, HF.1, .inl ⟨HF.2, rfl⟩⟩
 have N5 : Hid (numP r4 = some (x5, r5)) := hn;replace HB := zH (below_out HB.out ho (by have := O0.out; have := O1.out; have := O2.out; have := O3.out; have := O4.out; have := O5.out; have := O6.out; have := O7.out; omega));replace HO := zH (HO.trans ho);replace VC := zH (VC.out.outX ho (by have := O0.out; have := O1.out; have := O2.out; have := O3.out; have := O4.out; have := O5.out; have := O6.out; have := O7.out; simp <;> omega))
 replace VA := zH (VA.out.outX ho (by have := O0.out; have := O1.out; have := O2.out; have := O3.out; have := O4.out; have := O5.out; have := O6.out; have := O7.out; simp <;> omega))
 clear RW;have O8 : Hid (V4.heap.size <= w5.heap.size) := ho.size;have RW : Hid (Blk w5 g 137 #[v5]) := hB;have KIn : Hid (KcAt w0 (n + 3) v5 r5 /\ SzL r5) := ⟨hkq, by obtain ⟨y', _, h1, _⟩ := num_some hn; have h := KI.2; rw [h1] at h; exact h.tail⟩;clear KI;have KI := KIn;clear KIn hn ho hkq hB;have cc := fun j => VA.cell j
 have cf := VA.free 3;go_wp2_with fail;clear cc cf;obtain ⟨V5, hV⟩ : ∃ V, V = w5.setCell ⟨w.heap.size + 1, 3, none⟩ (zI x5) := ⟨_, rfl⟩;rw [<- hV];have hset : Out [w.heap.size + 1] w5 V5 := by rw [hV]; exact out_set _ _ _
 have hVA : Blk V5 (w.heap.size + 1) 53 #[zG x2, zI x3, zI x4, zI x5, zI 0] := by rw [hV]; exact VA.set 3 _
 replace HB := zH (below_out HB.out hset (by have := O0.out; have := O1.out; have := O2.out; have := O3.out; have := O4.out; have := O5.out; have := O6.out; have := O7.out; have := O8.out; omega));replace HO := zH (HO.out.aside hset (by have := O0.out; have := O1.out; have := O2.out; have := O3.out; have := O4.out; have := O5.out; have := O6.out; have := O7.out; have := O8.out; omega));replace VC := zH (VC.out.outX hset (by have := O0.out; have := O1.out; have := O2.out; have := O3.out; have := O4.out; have := O5.out; have := O6.out; have := O7.out; have := O8.out; simp <;> omega))
 replace RW := zH (RW.out.outX hset (by have := O0.out; have := O1.out; have := O2.out; have := O3.out; have := O4.out; have := O5.out; have := O6.out; have := O7.out; have := O8.out; simp <;> omega))
 clear VA;have O9 : Hid (w5.heap.size <= V5.heap.size) := hset.size;have VA : Hid (Blk V5 (w.heap.size + 1) 53 #[zG x2, zI x3, zI x4, zI x5, zI 0]) := hVA;clear hset hVA hV;refine (number_any w0 V5 g (n + 2) v5 r5 HB.out KI.1 RW.out (by have := O0.out; have := O1.out; have := O2.out; have := O3.out; have := O4.out; have := O5.out; have := O6.out; have := O7.out; have := O8.out; have := O9.out; omega) KI.2.1 (fun y hy => Nat.le_trans (KI.2.2 y hy) (by decide))).mono ?_;rintro e w6 ⟨ho, ⟨hn, rfl⟩ | ⟨x6, r6, v6, hn, rfl, hkq, hB⟩⟩
 ·have HF : Hid (Out [g] w w6 /\ oB = none) := by
   refine ⟨HO.trans ho, ?_⟩;rw [<- HP.out];unfold headP; simp only [N2.out, N3.out, N4.out, N5.out, hn, Option.bind_some, Option.bind_none]
  clear hn ho;unfold misfit;go_wp2_with fail;exact ⟨rfl, HF.1, .inl ⟨HF.2, rfl⟩⟩
 have N6 : Hid (numP r5 = some (x6, r6)) := hn;replace HB := zH (below_out HB.out ho (by have := O0.out; have := O1.out; have := O2.out; have := O3.out; have := O4.out; have := O5.out; have := O6.out; have := O7.out; have := O8.out; have := O9.out; omega));replace HO := zH (HO.trans ho);replace VC := zH (VC.out.outX ho (by have := O0.out; have := O1.out; have := O2.out; have := O3.out; have := O4.out; have := O5.out; have := O6.out; have := O7.out; have := O8.out; have := O9.out; simp <;> omega))
 replace VA := zH (VA.out.outX ho (by have := O0.out; have := O1.out; have := O2.out; have := O3.out; have := O4.out; have := O5.out; have := O6.out; have := O7.out; have := O8.out; have := O9.out; simp <;> omega))
 clear RW;have O10 : Hid (V5.heap.size <= w6.heap.size) := ho.size;have RW : Hid (Blk w6 g 137 #[v6]) := hB;have KIn : Hid (KcAt w0 (n + 3) v6 r6 /\ SzL r6) := ⟨hkq, by obtain ⟨y', _, h1, _⟩ := num_some hn; have h := KI.2; rw [h1] at h; exact h.tail⟩;clear KI;have KI := KIn;clear KIn hn ho hkq hB;have HF : Hid (oB = some (⟨x2, x3, x4, x5, x6, [], ⟨#[]⟩⟩, r6)) := by
  show oB = _;rw [<- HP.out];unfold headP; simp only [N2.out, N3.out, N4.out, N5.out, N6.out, Option.bind_some, Option.bind_none]
 have a0 := fun j => VA.cell j
 have b0 := fun j => VC.cell j
 have a1 := fun j => VA.cell j
 have b1 := fun j => VC.cell j
 have a2 := fun j => VA.cell j
 have b2 := fun j => VC.cell j
 have a3 := fun j => VA.cell j
 have b3 := fun j => VC.cell j
 have a4 := fun j => VA.cell j
 have b4 := fun j => VC.cell j
 have fb := fun j => VC.free j
 have fa := fun j => VA.free j
 have nb : ¬ w.heap.size = w.heap.size + 1 := by omega
 have na : ¬ w.heap.size + 1 = w.heap.size := by omega
 go_wp2_with fail;clear fb fa nb na a0 b0 a1 b1 a2 b2 a3 b3 a4 b4;generalize hV7 : World.setCell w6 { block := w.heap.size + 1, off := 4 } _ = V7;have hset : Out [w.heap.size + 1] w6 V7 := by rw [<- hV7]; exact out_set _ _ _
 have hVA : Blk V7 (w.heap.size + 1) 53 #[zG x2, zI x3, zI x4, zI x5, zI x6] := by rw [<- hV7]; exact VA.set 4 _
 replace HB := zH (below_out HB.out hset (by have := O0.out; have := O1.out; have := O2.out; have := O3.out; have := O4.out; have := O5.out; have := O6.out; have := O7.out; have := O8.out; have := O9.out; have := O10.out; omega));replace HO := zH (HO.out.aside hset (by have := O0.out; have := O1.out; have := O2.out; have := O3.out; have := O4.out; have := O5.out; have := O6.out; have := O7.out; have := O8.out; have := O9.out; have := O10.out; omega));replace VC := zH (VC.out.outX hset (by have := O0.out; have := O1.out; have := O2.out; have := O3.out; have := O4.out; have := O5.out; have := O6.out; have := O7.out; have := O8.out; have := O9.out; have := O10.out; simp <;> omega))
 replace RW := zH (RW.out.outX hset (by have := O0.out; have := O1.out; have := O2.out; have := O3.out; have := O4.out; have := O5.out; have := O6.out; have := O7.out; have := O8.out; have := O9.out; have := O10.out; simp <;> omega))
 clear VA;have O11 : Hid (w6.heap.size <= V7.heap.size) := hset.size;have VA : Hid (Blk V7 (w.heap.size + 1) 53 #[zG x2, zI x3, zI x4, zI x5, zI x6]) := hVA;clear hset hVA hV7;generalize hV8 : World.setCell _ { block := w.heap.size, off := 4 } _ = V8;have FIN : Out [w.heap.size] V7 V8 /\ Blk V8 w.heap.size 53 #[zG x2, zI x3, zI x4, zI x5, zI x6] := by
  rw [<- hV8];refine ⟨?_, ?_⟩
  ·iterate 5 refine Out.setCell ?_ _ _ (by simp)
   exact Out.refl _ _
  ·have h0 := VC.out
   have h1 : Blk _ w.heap.size 53 #[zG x2, zI 0, zI 0, zI 0, zI 0] := h0.set 0 (zG x2);have h2 : Blk _ w.heap.size 53 #[zG x2, zI x3, zI 0, zI 0, zI 0] := h1.set 1 (zI x3);have h3 : Blk _ w.heap.size 53 #[zG x2, zI x3, zI x4, zI 0, zI 0] := h2.set 2 (zI x4);have h4 : Blk _ w.heap.size 53 #[zG x2, zI x3, zI x4, zI x5, zI 0] := h3.set 3 (zI x5);have h5 : Blk _ w.heap.size 53 #[zG x2, zI x3, zI x4, zI x5, zI x6] := h4.set 4 (zI x6);exact h5
 clear hV8;have HE8 : OnePost (fun c : Cl => hdV c) w0 w g (n + 2) oB (.returned (.agg #[zG x2, zI x3, zI x4, zI x5, zI x6])) V8 := ⟨HO.out.aside FIN.1 (by have := O0.out; have := O1.out; have := O2.out; have := O3.out; have := O4.out; have := O5.out; have := O6.out; have := O7.out; have := O8.out; have := O9.out; have := O10.out; have := O11.out; omega), .inr ⟨⟨x2, x3, x4, x5, x6, [], ⟨#[]⟩⟩, r6, v6, HF.out, rfl, KI.1, RW.out.outX FIN.1 (by have := O0.out; have := O1.out; have := O2.out; have := O3.out; have := O4.out; have := O5.out; have := O6.out; have := O7.out; have := O8.out; have := O9.out; have := O10.out; have := O11.out; simp <;> omega)⟩⟩
 have q0 := fun j => FIN.2.cell j
 refine bodyPost_ret (v := .agg #[zG x2, zI x3, zI x4, zI x5, zI x6]) (by simp [results, Tryz.results114, go_sem, q0]) rfl HE8
theorem rone_rev (w : World) (x : Int × Int) : OwnR (w.alloc (Obj.cells #[zI x.1, zI x.2] 73)) w.heap.size (zS (some ⟨w.heap.size, 0, none⟩) 1 1) [x] := World.ownsRow_lit w #[zI x.1, zI x.2] 1 (Nat.le_refl _) (by decide) rfl
theorem rev_tail {k : Nat} {y : It (k + 2)} {q q' : List (It (k + 2))} {x : Int × Int} (h : revP (y :: q) = some (x, q')) : ∃ y', y :: q = y' :: q' := by
 obtain ⟨y', _, _, _, _, h1, _⟩ := rev_some h;exact ⟨y', h1⟩
def RevsPost (w0 W : World) (g n : Nat) (o : Option (List (Int × Int) × List (It (n + 3)))) (e : Ending) (W' : World) : Prop := Out [g] W W' /\
 ((o = none /\ e = misfit) ∨ ∃ (l : List (Int × Int)) (r : List (It (n + 3))) (v' u : Value), o = some (l, r) /\ e = .returned u /\ OwnR W' W.heap.size u l /\ KcAt w0 (n + 3) v' r /\ Blk W' g 137 #[v'])
theorem revsP_step {k : Nat} {y : It (k + 2)} {q : List (It (k + 2))} {x : (Int × Int)} (h : revP (y :: q) = some (x, q)) : revsP (y :: q) = (revsP q).map (x :: ·) := by
 show (match revP (y :: q) with
  | none => none
  | some (v, _) => match revsP q with
   | none => none
   | some l => some (v :: l)) = _
 rw [h]
 cases revsP q <;> rfl
theorem revsP_none {k : Nat} {y : It (k + 2)} {q : List (It (k + 2))} (h : revP (y :: q) = none) : revsP (y :: q) = none := by
 show (match revP (y :: q) with
  | none => none
  | some (v, _) => match revsP q with
   | none => none
   | some l => some (v :: l)) = _
 rw [h]
theorem rrevs_any (w0 W : World) (g n : Nat) (v : Value) (ks : List (It (n + 3))) (hw : zW w0 W) (hk : KcAt w0 (n + 3) v ks) (hr : Blk W g 137 #[v]) (hg : w0.heap.size <= g) (hl : ks.length <= 1000000) (hz : ∀ y ∈ ks, szI (n + 3) y <= 1000000) :
  Calls Tryz.prog 115 #[.pointer (some ⟨g, 0, none⟩), .func (.func 116) #[] #[]] W fun e W' => RevsPost w0 W g n (revsL ks) e W' := by
 obtain ⟨i0, hi, hz0, hz1, hz2⟩ := info_parts infoRev;have E := list_any w0 W g (n + 2) v ks hw hk hr hg hl;have HP : Hid (revsL ks = match lstP ks with
  | none => none
  | some (i, r) => match revsP i with
   | none => none
   | some l => some (l, r)) := rfl
 generalize revsL ks = oL at HP |-;have HW := zH (zJ (hw : zW w0 W) (zJ (hg : w0.heap.size <= g) (zJ (hz : (∀ y ∈ ks, szI (n + 3) y <= 1000000)) hr.lt)));clear hw hk hr hg hl hz;go_enter Tryz.func115, Tryz.ntmps115;go_wp2_with fail;refine E.mono ?_;rintro e w2 ⟨ho, ⟨hn, rfl⟩ | ⟨i, r, v', vi, gi, hn, rfl, hgi, hki, hkr, hB, hBi⟩⟩
 ·have HE : Hid (Out [g] W w2 /\ oL = none) := ⟨ho, by rw [HP.out, hn]⟩
  clear ho hn E;unfold misfit;go_wp2_with fail;exact ⟨rfl, HE.1, .inl ⟨HE.2, rfl⟩⟩
 have hsz : i.length <= 1000000 /\ ∀ y ∈ i, szI (n + 2) y <= 1000000 := by
  obtain ⟨y, h1, h2, h3⟩ := lst_some hn;have h4 := HW.2.2.1 y (by rw [h1]; simp);have h5 := szI_kid (t := It.tag y) (s := It.text y) (ks := It.kids y) h4;change i = It.kids y at h3;rw [h3];exact ⟨h5.2.1, fun z hz => by have := h5.2.2 z hz; omega⟩
 have HE : Hid (oL = match revsP i with
   | none => none
   | some l => some (l, r)) := by show oL = _; rw [HP.out, hn]
 have HI := zH (zJ (Nat.le_refl _ : w2.heap.size <= w2.heap.size) (zJ (hgi : W.heap.size <= gi) (zJ hBi.lt (zJ HW.2.2.2 (zJ ho.size (zJ HW.2.1 (zJ HW.1.size (zJ (hkr : KcAt w0 (n + 3) v' r) hsz.1))))))));have HS := zH (zJ (World.ownsRow_nil _ _ _ _ : OwnR w2 w2.heap.size zZ []) (zJ (hki : KcAt w0 (n + 2) vi i) (zJ (hBi : Blk w2 gi 137 #[vi]) (zJ (hB : Blk w2 g 137 #[v']) (zJ (by simp : revsP i = (revsP i).map (([] : List (Int × Int)) ++ ·)) (zJ (ho : Out [g] W w2) (zJ (below_out HW.1 ho HW.2.1 : zW w0 w2) (zJ (Nat.le_refl _ : w2.heap.size <= w2.heap.size) (zJ (by simp : ([] : List (Int × Int)).length + i.length = i.length) hsz.2)))))))));clear ho hn hgi hki hkr hB hBi E hsz HP HW;go_wp2_with fail
 go_loopw [5] (fun lv wr => Hid (∃ (ps : List (Int × Int)) (q : List (It (n + 2))) (vr : Value), OwnR wr w2.heap.size lv ps /\ KcAt w0 (n + 2) vr q /\ Blk wr gi 137 #[vr] /\ Blk wr g 137 #[v'] /\ revsP i = (revsP q).map (ps ++ ·) /\ Out [g] W wr /\ zW w0 wr /\ w2.heap.size <= wr.heap.size /\ ps.length + q.length = i.length /\ (∀ y ∈ q, szI (n + 2) y <= 1000000))) (fun lv _ => i.length - lenV lv)
 case atStart => exact ⟨[], i, vi, HS.out⟩
 case round =>
  clear HS;obtain ⟨ps, q, vr, h1, h2, h3, h4, h5, h6, h7, h8, h9, h10⟩ := hrel;obtain ⟨la, lc, hlv⟩ : ∃ ao cap, u5 = zS ao ps.length cap := by obtain ⟨ao, cap, h, _⟩ := h1.at; exact ⟨ao, cap, h⟩
  obtain ⟨qa, qc, hvr⟩ := h2.shape;subst hvr
  cases q with
  | nil =>
   have HF : Hid (RevsPost w0 W g n oL (.returned u5) wr) := by
    have e : revsP i = some ps := by rw [h5]; show Option.map (ps ++ ·) (some []) = _; simp
    refine ⟨h6, .inr ⟨ps, r, v', u5, ?_, rfl, h1.base HI.2.2.2.2.1, HI.2.2.2.2.2.2.2.1, h4⟩⟩;rw [HE.out, e]
   have c1 : wr.cell? ⟨gi, 0, none⟩ = some (zS qa 0 qc) := h3.cell 0;clear h1 h2 h3 h4 h5 h6 h7 h8 h9 h10 hlv;go_wp2_with fail;go_ret;exact HF.out
  | cons y q =>
   rw [List.length_cons] at h3 h9;have c1 : wr.cell? ⟨gi, 0, none⟩ = some (zS qa (q.length + 1) qc) := h3.cell 0;have hql : ps.length + (q.length + 1) <= 1000000 := by have := HI.2.2.2.2.2.2.2.2; omega
   have E3 := rev_any w0 wr gi n (zS qa (q.length + 1) qc) (y :: q) h7 h2 h3 (by have := HI.out; omega) ⟨by rw [List.length_cons]; omega, h10⟩;have HK : Hid (OwnR wr w2.heap.size u5 ps /\ Blk wr g 137 #[v'] /\ revsP i = (revsP (y :: q)).map (ps ++ ·) /\ Out [g] W wr /\ zW w0 wr /\ w2.heap.size <= wr.heap.size /\ ps.length + (q.length + 1) = i.length /\ (∀ z ∈ (y :: q), szI (n + 2) z <= 1000000) /\ (∀ b, u5.ownBlock = some b -> w2.heap.size <= b)) := ⟨h1, h4, h5, h6, h7, h8, h9, h10, fun b hb => (World.ownsRow.lt h1 b hb).1⟩;obtain ⟨m, hm⟩ := zE (q.length);rw [hm] at c1;have hm0 : (0 : Int) < (m : Int) + 1 := by omega
   have HM : Hid (q.length = m /\ ps.length + (m + 1) <= 1000000) := ⟨hm, by rw [<- hm]; exact hql⟩;clear h1 h2 h3 h4 h5 h6 h7 h8 h9 h10 hql hm;obtain ⟨pl, hpl⟩ := zE (ps.length);rw [hpl] at hlv;have HPL : Hid (ps.length = pl) := hpl;clear hpl;subst hlv;go_wp2_with fail;clear c1;refine E3.mono ?_;rintro e w3 ⟨ho3, ⟨hn3, rfl⟩ | ⟨x, q', vq, hn3, rfl, hkq, hBq⟩⟩
   ·have HF : Hid (Out [g] W w3 /\ oL = none) := by
     refine ⟨HK.2.2.2.1.aside ho3 HI.2.1, ?_⟩;rw [HE.out, HK.2.2.1, revsP_none hn3];rfl
    clear ho3 hn3 E3;unfold misfit;go_wp2_with fail;exact ⟨rfl, HF.1, .inl ⟨HF.2, rfl⟩⟩
   ·have hq' : q' = q := by
     obtain ⟨y', hh⟩ := rev_tail hn3;exact (List.cons.inj hh).2.symm
    subst hq';have hx3 : revP (y :: q') = some (x, q') := hn3;obtain ⟨W4, hW4⟩ : ∃ V, V = w3.alloc (Obj.cells #[zI x.1, zI x.2] 73) := ⟨_, rfl⟩;have hb4 : zW w3 W4 := by rw [hW4]; exact (Below.refl _ _).alloc (Nat.le_refl _) _
    have H4 : Hid (OwnR W4 w2.heap.size (zS la pl lc) ps /\ OwnR W4 w3.heap.size (zS (some ⟨w3.heap.size, 0, none⟩) 1 1) [x] /\ KcAt w0 (n + 2) vq q' /\ Blk W4 gi 137 #[vq] /\ Blk W4 g 137 #[v'] /\ revsP i = (revsP q').map ((ps ++ [x]) ++ ·) /\ Out [g] W W4 /\ zW w0 W4 /\ w2.heap.size <= W4.heap.size /\ (∀ z ∈ q', szI (n + 2) z <= 1000000)) := by
     have hrow := ho3.row (v := zS la pl lc) (fun b hb => by have := HK.2.2.2.2.2.2.2.2 b hb; have := HI.out; simp; omega) HK.1;refine ⟨OwnR.stays hrow hb4, by rw [hW4]; exact rone_rev w3 x, hkq, hBq.on hb4, (HK.2.1.outX ho3 (by have := HI.out; simp; omega)).on hb4, ?_, (HK.2.2.2.1.aside ho3 HI.2.1).trans (Out.of_below hb4), ?_, Nat.le_trans HK.2.2.2.2.2.1 (Nat.le_trans ho3.size hb4.size), fun z hz => HK.2.2.2.2.2.2.2.1 z (by simp [hz])⟩
     ·rw [HK.2.2.1, revsP_step hx3]
      cases revsP q' with
      | none => rfl
      | some l => simp
     ·have := below_out HK.2.2.2.2.1 ho3 (by have := HI.out; omega)
      exact this.trans (hb4.mono this.size)
    have HLQ := zH (zJ HK.2.2.2.2.2.2.1 (zJ HM.1 HM.2));clear ho3 hn3 hkq hBq hx3 hb4 E3 HK HM;go_wp2_with (at_builtin; rw [<- hW4]; refine wpList_append_revs rfl _ _ rfl w2.heap.size (zS la pl lc) ps.length (cellsR ps) rfl H4.1 _ [x] w3.heap.size H4.2.1 rfl (by have := HLQ.out; simp only [List.length_singleton]; omega) H4.2.2.2.2.2.2.2.2.1 ?_);intro v9 w9 ho9 hg9;rw [<- hW4] at hg9;have H9 : Hid (OwnR w9 w2.heap.size v9 (ps ++ [x]) /\ KcAt w0 (n + 2) vq q' /\ Blk w9 gi 137 #[vq] /\ Blk w9 g 137 #[v'] /\ revsP i = (revsP q').map ((ps ++ [x]) ++ ·) /\ Out [g] W w9 /\ zW w0 w9 /\ w2.heap.size <= w9.heap.size /\ (ps ++ [x]).length + q'.length = i.length /\ (∀ z ∈ q', szI (n + 2) z <= 1000000)) := by
     have hrl := fun b hb => (World.ownsRow.lt H4.1 b hb).1
     refine ⟨?_, H4.2.2.1, H4.2.2.2.1.grown hg9 (fun e => by have := hrl _ e.symm; have := HI.out; omega), H4.2.2.2.2.1.grown hg9 (fun e => by have := hrl _ e.symm; have := HI.out; omega), H4.2.2.2.2.2.1, H4.2.2.2.2.2.2.1.grow hg9 (fun b hb => by have := hrl b hb; have := HI.out; omega), belowGrown H4.2.2.2.2.2.2.2.1 hg9 (fun b hb => by have := hrl b hb; have := HI.out; omega), Nat.le_trans H4.2.2.2.2.2.2.2.2.1 hg9.size, by have := HLQ.out; simp only [List.length_append, List.length_singleton]; omega, H4.2.2.2.2.2.2.2.2.2⟩;simpa [OwnR, cellsR_append] using ho9
    obtain ⟨a9, c9, hv9⟩ : ∃ ao cap, v9 = zS ao (ps ++ [x]).length cap := by obtain ⟨ao, cap, h, _⟩ := H9.1.at; exact ⟨ao, cap, h⟩
    have HL9 : Hid (v9 = zS a9 (pl + 1) c9) := by show v9 = _; rw [hv9, List.length_append, HPL.out]; rfl
    clear ho9 hg9 H4 hW4 hv9;go_wp2_with fail;exact ⟨⟨ps ++ [x], q', vq, H9.out⟩, by rw [HL9.out]; show i.length - (pl + 1) < i.length - pl; have := HLQ.out; have := HPL.out; omega⟩
end Go.Proofs.YtcbjlbpkoneibaaGreatDoor
