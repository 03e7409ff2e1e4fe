/-
  Texts of the proof.
-/
import Derived.Test.YtagmnlmfoanelaaNA9
import Derived.Test.YtagmnlmfoanelaaNA10
set_option maxRecDepth 100000
set_option maxHeartbeats 25600000
namespace Go.Proofs.Ytagmnlmfoanelaa
open Go.RowKit Go.ChangeShapes
set_option linter.unusedVariables false
set_option linter.unusedSimpArgs false
theorem eqClient_wide (s : Cn) (a b : Value) (w : World) (hl : s.waits.length <= 1000000000 /\ wtGtS s.gots <= 1000000000 /\ s.late.length <= 1000000000) (ha : CnAt w a s) (hb : CnAt w b s) :
  Calls Try.prog 7 #[a, b] w fun e w' => e = .returned (.bool true) /\ Below w.heap.size w w' := by
 obtain ⟨a1, c1, a2, c2, a3, c3, rfl⟩ := ha.shape
 obtain ⟨b1, d1, b2, d2, b3, d3, rfl⟩ := hb.shape
 obtain ⟨k1, k2, k3⟩ := ha.rows
 obtain ⟨j1, j2, j3⟩ := hb.rows
 obtain ⟨l1, l2, l3⟩ := hl
 obtain ⟨n1, e1⟩ := zE (s.waits.length)
 obtain ⟨n2, e2⟩ := zE (s.gots.length)
 obtain ⟨n3, e3⟩ := zE (s.late.length)
 rw [e1, e2, e3]
 rw [e1] at k1 j1
 rw [e2] at k2 j2
 rw [e3] at k3 j3
 have Q1 : Hid (∀ W, Below w.heap.size w W -> Calls Try.prog 18 #[.slice a1 n1 c1, .slice b1 n1 d1] W (fun e w' => e = .returned (.bool true) /\ Below W.heap.size W w')) := fun W h => eqWaitS_same s.waits _ _ W l1 (k1.below h) (j1.below h)
 have Q2 : Hid (∀ W, Below w.heap.size w W -> Calls Try.prog 19 #[.slice a2 n2 c2, .slice b2 n2 d2] W (fun e w' => e = .returned (.bool true) /\ Below W.heap.size W w')) := fun W h => eqGotS_same s.gots _ _ W l2 (k2.below h) (j2.below h)
 have Q3 : Hid (∀ W, Below w.heap.size w W -> Calls Try.prog 20 #[.slice a3 n3 c3, .slice b3 n3 d3] W (fun e w' => e = .returned (.bool true) /\ Below W.heap.size W w')) := fun W h => eqIntS_same _ _ s.late W l3 (k3.below h) (j3.below h)
 clear ha hb k1 j1 l1 k2 j2 l2 k3 j3 l3 e1 e2 e3
 go_enter Try.func7, Try.ntmps7
 go_wp2_with fail
 obtain ⟨W2, hW2⟩ : ∃ W, W = ((w.alloc (Obj.cells #[.string s.key, .int .i64 s.now, .slice a1 n1 c1, .slice a2 n2 c2, .slice a3 n3 c3] 26)).alloc (Obj.cells #[.string s.key, .int .i64 s.now, .slice b1 n1 d1, .slice b2 n2 d2, .slice b3 n3 d3] 26)) := ⟨_, rfl⟩
 rw [<- hW2]
 have e0 : (w.alloc (Obj.cells #[.string s.key, .int .i64 s.now, .slice a1 n1 c1, .slice a2 n2 c2, .slice a3 n3 c3] 26)).heap.size = w.heap.size + 1 := Array.size_push _
 have HB : Hid (Below w.heap.size w W2) := by rw [hW2]; exact ((Below.refl _ _).alloc (Nat.le_refl _) _).alloc (by rw [e0]; omega) _
 have HA : Hid (Blk W2 w.heap.size 26 #[.string s.key, .int .i64 s.now, .slice a1 n1 c1, .slice a2 n2 c2, .slice a3 n3 c3]) := by rw [hW2]; exact (Blk.new w _ _).alloc _
 have HC : Hid (Blk W2 (w.heap.size + 1) 26 #[.string s.key, .int .i64 s.now, .slice b1 n1 d1, .slice b2 n2 d2, .slice b3 n3 d3]) := by
  have h := Blk.new (w.alloc (Obj.cells #[.string s.key, .int .i64 s.now, .slice a1 n1 c1, .slice a2 n2 c2, .slice a3 n3 c3] 26)) 26 #[.string s.key, .int .i64 s.now, .slice b1 n1 d1, .slice b2 n2 d2, .slice b3 n3 d3]
  rw [e0] at h
  rw [hW2]
  exact h
 have O0 : Hid (w.heap.size + 1 + 1 <= W2.heap.size) := by show _ <= _; rw [hW2, size_alloc, e0]; omega
 clear hW2 e0
 refine (Q1.out W2 HB.out).mono ?_
 rintro e w1 ⟨rfl, hb⟩
 replace HB := zH (Below.on HB.out hb HB.out.size)
 replace HA := zH (HA.out.below hb HA.out.lt)
 replace HC := zH (HC.out.below hb HC.out.lt)
 have O1 : Hid (W2.heap.size <= w1.heap.size) := hb.size
 clear hb
 have c0 := fun j => HA.out.cell j
 have d0 := fun j => HC.out.cell j
 go_wp2_with fail
 clear c0 d0
 refine (Q2.out w1 HB.out).mono ?_
 rintro e w2 ⟨rfl, hb⟩
 replace HB := zH (Below.on HB.out hb HB.out.size)
 replace HA := zH (HA.out.below hb HA.out.lt)
 replace HC := zH (HC.out.below hb HC.out.lt)
 have O2 : Hid (w1.heap.size <= w2.heap.size) := hb.size
 clear hb
 have c0 := fun j => HA.out.cell j
 have d0 := fun j => HC.out.cell j
 go_wp2_with fail
 clear c0 d0
 refine (Q3.out w2 HB.out).mono ?_
 rintro e w3 ⟨rfl, hb⟩
 replace HB := zH (Below.on HB.out hb HB.out.size)
 replace HA := zH (HA.out.below hb HA.out.lt)
 replace HC := zH (HC.out.below hb HC.out.lt)
 have O3 : Hid (w2.heap.size <= w3.heap.size) := hb.size
 clear hb
 go_wp2_with fail
 go_ret
 exact ⟨rfl, HB.out⟩
end Go.Proofs.Ytagmnlmfoanelaa
namespace Go.Proofs.Ytagmnlmfoanelaa
open Go.RowKit
set_option linter.unusedVariables false
set_option linter.unusedSimpArgs false
def mkI (k : Nat) (l : List Int) : List Int := marksI k l.length
theorem markIntSF_out (l : List Int) (v : Value) (k base : Nat) (fp : List Nat) (w : World) (hl : l.length <= 1000000000) (hk : k <= 1000000000) (ha : OwnIF w base v l fp) :
  Calls Try.prog 23 #[v, .int .i64 k] w fun e w' => e = .returned (.int .i64 ((k + l.length : Nat) : Int)) /\ OwnIF w' base v (mkI k l) fp /\ Out fp w w' := by
 refine (mark_any v l k base w hl hk ha.1).mono fun e w' h => ?_
 obtain ⟨rfl, ho, hg⟩ := h
 exact ⟨by rw [Int.natCast_add], ⟨ho, ha.2⟩, (Out.refl _ _).grown hg fun q hq => by rw [ha.2]; exact Option.mem_toList.2 hq⟩
theorem heldIntSF_same (l : List Int) (v : Value) (k : Nat) (w : World) (hl : l.length <= 1000000000) (hk : k <= 1000000000) (ha : AtI w v (mkI k l)) :
  Calls Try.prog 26 #[v, .int .i64 k] w fun e w' => e = .returned (.int .i64 ((k + l.length : Nat) : Int)) /\ Below w.heap.size w w' := by
 refine (heldIntS_same v l.length k w hl hk ha).mono fun e w' h => ?_
 obtain ⟨rfl, hb⟩ := h
 exact ⟨by rw [Int.natCast_add], hb⟩
end Go.Proofs.Ytagmnlmfoanelaa
namespace Go.Proofs.Ytagmnlmfoanelaa
open Go.RowKit
set_option linter.unusedVariables false
section
variable {α : Type} (mk : Nat -> α -> α) (sz : α -> Nat)
def mkG : Nat -> List α -> List α
 | _, [] => []
 | k, c :: l => mk k c :: mkG (k + sz c) l
def posG (k : Nat) (l : List α) (j : Nat) : Nat := k + ((l.map sz).take j).sum
theorem mkG_len : ∀ (k : Nat) (l : List α), (mkG mk sz k l).length = l.length
 | _, [] => rfl
 | k, c :: l => by simp [mkG, mkG_len]
theorem mkG_get : ∀ (l : List α) (k j : Nat) (h : j < l.length) (h' : j < (mkG mk sz k l).length), (mkG mk sz k l)[j] = mk (posG sz k l j) l[j]
 | c :: l, k, 0, h, h' => by simp [mkG, posG]
 | c :: l, k, j + 1, h, h' => by
  have := mkG_get l (k + sz c) j (by simpa using h) (by rw [mkG_len]; simpa using h)
  simp only [mkG, List.getElem_cons_succ, this]
  congr 1
  simp [posG]
  omega
theorem posG_next {k : Nat} {l : List α} {j : Nat} (h : j < l.length) : posG sz k l (j + 1) = posG sz k l j + sz l[j] := by
 unfold posG
 rw [sum_take (by rw [List.length_map]; exact h), List.getElem_map]
 omega
theorem posG_le (k : Nat) (l : List α) (j : Nat) : posG sz k l j <= k + (l.map sz).sum := by
 have h1 := sum_take_le (l.map sz) j
 unfold posG
 omega
theorem markG_set {k : Nat} {l : List α} {j : Nat} (h : j < l.length) : ((mkG mk sz k l).take j ++ l.drop j).set j (mk (posG sz k l j) l[j]) = (mkG mk sz k l).take (j + 1) ++ l.drop (j + 1) := by
 have hm : j < (mkG mk sz k l).length := by rw [mkG_len]; exact h
 have e : ((mkG mk sz k l).take j).length = j := by rw [List.length_take]; omega
 rw [List.set_append_right _ _ (by omega), e, Nat.sub_self, List.drop_eq_getElem_cons h, List.set_cons_zero, List.take_succ_eq_append_getElem hm, mkG_get mk sz l k j h hm, List.append_assoc]
 rfl
theorem markG_len {k : Nat} {l : List α} {j : Nat} (h : j <= l.length) : ((mkG mk sz k l).take j ++ l.drop j).length = l.length := by
 rw [List.length_append, List.length_take, List.length_drop, mkG_len]
 omega
theorem markG_get {k : Nat} {l : List α} {j : Nat} (h : j < l.length) (h' : j < ((mkG mk sz k l).take j ++ l.drop j).length) : ((mkG mk sz k l).take j ++ l.drop j)[j] = l[j] := by
 have e : ((mkG mk sz k l).take j).length = j := by rw [List.length_take, mkG_len]; omega
 rw [List.getElem_append_right (by omega)]
 simp [e]
theorem markG_all {k : Nat} {l : List α} {j : Nat} (h : l.length <= j) : (mkG mk sz k l).take j ++ l.drop j = mkG mk sz k l := by
 rw [List.drop_eq_nil_of_le h, List.append_nil, List.take_of_length_le (by rw [mkG_len]; exact h)]
end
theorem set_selfG {l : List Value} {i : Nat} {a : Value} (h : l[i]? = some a) : l.set i a = l := by
 apply List.ext_getElem?
 intro j
 rw [List.getElem?_set]
 split
 ·next e =>
  subst e
  rw [h]
  split
  ·rfl
  ·next hn => rw [List.getElem?_eq_none (by omega)] at h; cases h
 ·rfl
theorem OwnS.turnK {α : Type} (k : Kd α) {w W : World} {base g n cap : Nat} {l : List α} {vs : List Value} {c' : α} {j : Nat} (hj : j < l.length) (hl : vs.length = l.length) (he : ∀ i (h1 : i < vs.length) (h2 : i < l.length), k.Own w base vs[i] l[i]) (hn : ((Value.slice (some ⟨g, 0, none⟩) n cap).ownBlock.toList ++ vs.flatMap k.fp).Nodup) {u : Value} (hfp : k.fp u = k.fp (vs[j]'(by omega)))
  (hr : W.ownsRow base k.T k.K (.slice (some ⟨g, 0, none⟩) n cap) l.length (cellsV (vs.set j u))) (hu : k.Own W base u c') (ho : Out (g :: k.fp (vs[j]'(by omega))) w W) : OwnS k W base (.slice (some ⟨g, 0, none⟩) n cap) (l.set j c') ((Value.slice (some ⟨g, 0, none⟩) n cap).ownBlock.toList ++ vs.flatMap k.fp) := by
 have hjv : j < vs.length := by omega
 have e1 : vs = vs.take j ++ vs[j] :: vs.drop (j + 1) := by rw [List.getElem_cons_drop, List.take_append_drop]
 have e2 : vs.set j u = vs.take j ++ u :: vs.drop (j + 1) := List.set_eq_take_append_cons_drop.trans (by rw [if_pos hjv])
 have e3 : (vs.set j u).flatMap k.fp = vs.flatMap k.fp := by
  rw [e2, List.flatMap_append, List.flatMap_cons, hfp, <- List.flatMap_cons, <- List.flatMap_append, <- e1]
 refine ⟨vs.set j u, by simp [hl], by rw [List.length_set]; exact hr, fun i h1 h2 => ?_, ?_, hn⟩
 ·rw [List.getElem_set, List.getElem_set]
  by_cases e : j = i
  ·rw [if_pos e, if_pos e]
   exact hu
  ·rw [if_neg e, if_neg e]
   have h3 : i < vs.length := by simpa using h1
   refine k.same (he i h3 (by omega)) fun b hb => ho.2.2.2.2 b (k.lt (he i h3 (by omega)) b hb).2 fun hm => ?_
   have hq := List.nodup_append.1 hn
   rcases List.mem_cons.1 hm with rfl | hm
   ·exact hq.2.2 b (by simp [Value.ownBlock]) b (mem_flat h3 hb) rfl
   ·have hA : (vs.take j).flatMap k.fp ++ (k.fp vs[j] ++ (vs.drop (j + 1)).flatMap k.fp) = vs.flatMap k.fp := by
     rw [<- List.flatMap_cons, <- List.flatMap_append, <- e1]
    have hnf := hq.2.1
    rw [<- hA] at hnf
    have q1 := List.nodup_append.1 hnf
    have q2 := List.nodup_append.1 q1.2.1
    rcases Nat.lt_or_ge i j with hij | hij
    ·refine q1.2.2 b (List.mem_flatMap.2 ⟨vs[i], ?_, hb⟩) b (List.mem_append_left _ hm) rfl
     rw [List.mem_take_iff_getElem]
     exact ⟨i, by omega, rfl⟩
    ·refine q2.2.2 b hm b (List.mem_flatMap.2 ⟨vs[i], ?_, hb⟩) rfl
     rw [List.mem_drop_iff_getElem]
     exact ⟨i - (j + 1), by omega, by congr 1; omega⟩
 ·show _ = _ ++ (vs.set j u).flatMap k.fp
  rw [e3]
end Go.Proofs.Ytagmnlmfoanelaa
