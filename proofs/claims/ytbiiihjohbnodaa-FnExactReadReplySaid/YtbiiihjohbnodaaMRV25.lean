/-
  Texts of the proof.
-/
import Derived.Deep.Cut
import Derived.Laws.OwnMore
import Derived.Deep.RegionHeld3
import Derived.Test.YtbiiihjohbnodaaMRV24
set_option maxRecDepth 100000
set_option maxHeartbeats 25600000
namespace Go.Proofs.Ytbiiihjohbnodaa
open Go.RowKit
set_option linter.unusedVariables false
set_option linter.unusedSimpArgs false
theorem eqReply_same (c : Rp) (a b : Value) (w : World) (hl : wtAS c.ans <= 1000000000) (ha : RpAt w a c) (hb : RpAt w b c) :
  Calls Try.prog 26 #[a, b] w fun e w' => e = .returned (.bool true) /\ Below w.heap.size w w' := by
 obtain ⟨pv, rfl, h1⟩ := ha
 obtain ⟨pu, rfl, k1⟩ := hb
 have HQ : Hid (∀ W, Below w.heap.size w W -> Calls Try.prog 39 #[pv, pu] W (fun e w' => e = .returned (.bool true) /\ Below W.heap.size W w')) := fun W hb => eqAnswerS_same c.ans pv pu W hl (h1.below hb) (k1.below hb)
 obtain ⟨lp, hlp⟩ := zE (c.ans.length)
 obtain ⟨pa, pc, hpa⟩ := h1.shape
 obtain ⟨pb, qc, hpb⟩ := k1.shape
 rw [hlp] at hpa hpb
 subst hpa hpb
 clear hlp hl h1 k1
 unfold rpV
 go_enter Try.func26, Try.ntmps26
 go_upto_region 1 with fail
 obtain ⟨V1, hV⟩ : ∃ V, V = (w.alloc (Obj.cells #[.string c.hash, .int .i64 c.nonce, .int .i64 c.time, .int .i64 c.next, .int .i64 c.plan, .int .i64 c.err, .slice pa lp pc, .string c.sig] 44)).alloc (Obj.cells #[.string c.hash, .int .i64 c.nonce, .int .i64 c.time, .int .i64 c.next, .int .i64 c.plan, .int .i64 c.err, .slice pb lp qc, .string c.sig] 44) := ⟨_, rfl⟩
 rw [<- hV]
 have G1 : Hid (Blk V1 w.heap.size 44 #[.string c.hash, .int .i64 c.nonce, .int .i64 c.time, .int .i64 c.next, .int .i64 c.plan, .int .i64 c.err, .slice pa lp pc, .string c.sig] /\ Blk V1 (w.heap.size + 1) 44 #[.string c.hash, .int .i64 c.nonce, .int .i64 c.time, .int .i64 c.next, .int .i64 c.plan, .int .i64 c.err, .slice pb lp qc, .string c.sig] /\ Below w.heap.size w V1 /\ w.heap.size + 1 < V1.heap.size) := by
  have e0 : (w.alloc (Obj.cells #[.string c.hash, .int .i64 c.nonce, .int .i64 c.time, .int .i64 c.next, .int .i64 c.plan, .int .i64 c.err, .slice pa lp pc, .string c.sig] 44)).heap.size = w.heap.size + 1 := Array.size_push _
  have h := Blk.new (w.alloc (Obj.cells #[.string c.hash, .int .i64 c.nonce, .int .i64 c.time, .int .i64 c.next, .int .i64 c.plan, .int .i64 c.err, .slice pa lp pc, .string c.sig] 44)) 44 #[.string c.hash, .int .i64 c.nonce, .int .i64 c.time, .int .i64 c.next, .int .i64 c.plan, .int .i64 c.err, .slice pb lp qc, .string c.sig]
  rw [e0] at h
  rw [hV]
  exact ⟨(Blk.new w _ _).alloc _, h, ((Below.refl _ _).alloc (Nat.le_refl _) _).alloc (by rw [e0]; omega) _, by rw [size_alloc, e0]; omega⟩
 clear hV
 have a0 : V1.cell? ⟨w.heap.size, 0, none⟩ = some (.string c.hash) := G1.out.1.cell 0
 have b0 : V1.cell? ⟨w.heap.size + 1, 0, none⟩ = some (.string c.hash) := G1.out.2.1.cell 0
 have a1 : V1.cell? ⟨w.heap.size, 1, none⟩ = some (.int .i64 c.nonce) := G1.out.1.cell 1
 have b1 : V1.cell? ⟨w.heap.size + 1, 1, none⟩ = some (.int .i64 c.nonce) := G1.out.2.1.cell 1
 have a2 : V1.cell? ⟨w.heap.size, 2, none⟩ = some (.int .i64 c.time) := G1.out.1.cell 2
 have b2 : V1.cell? ⟨w.heap.size + 1, 2, none⟩ = some (.int .i64 c.time) := G1.out.2.1.cell 2
 have a3 : V1.cell? ⟨w.heap.size, 3, none⟩ = some (.int .i64 c.next) := G1.out.1.cell 3
 have b3 : V1.cell? ⟨w.heap.size + 1, 3, none⟩ = some (.int .i64 c.next) := G1.out.2.1.cell 3
 have a4 : V1.cell? ⟨w.heap.size, 4, none⟩ = some (.int .i64 c.plan) := G1.out.1.cell 4
 have b4 : V1.cell? ⟨w.heap.size + 1, 4, none⟩ = some (.int .i64 c.plan) := G1.out.2.1.cell 4
 have a5 : V1.cell? ⟨w.heap.size, 5, none⟩ = some (.int .i64 c.err) := G1.out.1.cell 5
 have b5 : V1.cell? ⟨w.heap.size + 1, 5, none⟩ = some (.int .i64 c.err) := G1.out.2.1.cell 5
 have a6 : V1.cell? ⟨w.heap.size, 6, none⟩ = some (.slice pa lp pc) := G1.out.1.cell 6
 have b6 : V1.cell? ⟨w.heap.size + 1, 6, none⟩ = some (.slice pb lp qc) := G1.out.2.1.cell 6
 go_wp2_with fail
 clear a0 b0 a1 b1 a2 b2 a3 b3 a4 b4 a5 b5 a6 b6
 refine (HQ.out V1 G1.out.2.2.1).mono ?_
 rintro e V2 ⟨rfl, hb⟩
 have G2 : Hid (Blk V2 w.heap.size 44 #[.string c.hash, .int .i64 c.nonce, .int .i64 c.time, .int .i64 c.next, .int .i64 c.plan, .int .i64 c.err, .slice pa lp pc, .string c.sig] /\ Blk V2 (w.heap.size + 1) 44 #[.string c.hash, .int .i64 c.nonce, .int .i64 c.time, .int .i64 c.next, .int .i64 c.plan, .int .i64 c.err, .slice pb lp qc, .string c.sig] /\ Below w.heap.size w V2 /\ w.heap.size + 1 < V2.heap.size) := ⟨G1.out.1.below hb (by have := G1.out.2.2.2; omega), G1.out.2.1.below hb G1.out.2.2.2, G1.out.2.2.1.trans (hb.mono G1.out.2.2.1.size), Nat.lt_of_lt_of_le G1.out.2.2.2 hb.size⟩
 clear hb G1
 have ca : V2.cell? ⟨w.heap.size, 7, none⟩ = some (.string c.sig) := G2.out.1.cell 7
 have cb : V2.cell? ⟨w.heap.size + 1, 7, none⟩ = some (.string c.sig) := G2.out.2.1.cell 7
 go_wp2_with fail
 go_ret
 exact ⟨rfl, G2.out.2.2.1⟩
theorem sum_take {l : List Nat} {k : Nat} (h : k < l.length) : (l.take (k + 1)).sum = (l.take k).sum + l[k] := by
 rw [List.take_add_one, List.sum_append, List.getElem?_eq_getElem h]
 simp
theorem sum_take_le (l : List Nat) (k : Nat) : (l.take k).sum <= l.sum := by
 have h : (l.take k ++ l.drop k).sum = (l.take k).sum + (l.drop k).sum := List.sum_append
 rw [List.take_append_drop] at h
 omega
end Go.Proofs.Ytbiiihjohbnodaa
namespace Go.Proofs.Ytbiiihjohbnodaa
open Go.RowKit
set_option linter.unusedVariables false
section
variable {α : Type} (mk : Nat -> α -> α) (sz : α -> Nat)
def mkG : Nat -> List α -> List α
 | _, [] => []
 | k, c :: l => mk k c :: mkG (k + sz c) l
def posG (k : Nat) (l : List α) (j : Nat) : Nat := k + ((l.map sz).take j).sum
theorem mkG_len : ∀ (k : Nat) (l : List α), (mkG mk sz k l).length = l.length
 | _, [] => rfl
 | k, c :: l => by simp [mkG, mkG_len]
theorem mkG_get : ∀ (l : List α) (k j : Nat) (h : j < l.length) (h' : j < (mkG mk sz k l).length), (mkG mk sz k l)[j] = mk (posG sz k l j) l[j]
 | c :: l, k, 0, h, h' => by simp [mkG, posG]
 | c :: l, k, j + 1, h, h' => by
  have := mkG_get l (k + sz c) j (by simpa using h) (by rw [mkG_len]; simpa using h)
  simp only [mkG, List.getElem_cons_succ, this]
  congr 1
  simp [posG]
  omega
theorem posG_next {k : Nat} {l : List α} {j : Nat} (h : j < l.length) : posG sz k l (j + 1) = posG sz k l j + sz l[j] := by
 unfold posG
 rw [sum_take (by rw [List.length_map]; exact h), List.getElem_map]
 omega
theorem posG_le (k : Nat) (l : List α) (j : Nat) : posG sz k l j <= k + (l.map sz).sum := by
 have h1 := sum_take_le (l.map sz) j
 unfold posG
 omega
theorem markG_set {k : Nat} {l : List α} {j : Nat} (h : j < l.length) : ((mkG mk sz k l).take j ++ l.drop j).set j (mk (posG sz k l j) l[j]) = (mkG mk sz k l).take (j + 1) ++ l.drop (j + 1) := by
 have hm : j < (mkG mk sz k l).length := by rw [mkG_len]; exact h
 have e : ((mkG mk sz k l).take j).length = j := by rw [List.length_take]; omega
 rw [List.set_append_right _ _ (by omega), e, Nat.sub_self, List.drop_eq_getElem_cons h, List.set_cons_zero, List.take_succ_eq_append_getElem hm, mkG_get mk sz l k j h hm, List.append_assoc]
 rfl
theorem markG_len {k : Nat} {l : List α} {j : Nat} (h : j <= l.length) : ((mkG mk sz k l).take j ++ l.drop j).length = l.length := by
 rw [List.length_append, List.length_take, List.length_drop, mkG_len]
 omega
theorem markG_get {k : Nat} {l : List α} {j : Nat} (h : j < l.length) (h' : j < ((mkG mk sz k l).take j ++ l.drop j).length) : ((mkG mk sz k l).take j ++ l.drop j)[j] = l[j] := by
 have e : ((mkG mk sz k l).take j).length = j := by rw [List.length_take, mkG_len]; omega
 rw [List.getElem_append_right (by omega)]
 simp [e]
theorem markG_all {k : Nat} {l : List α} {j : Nat} (h : l.length <= j) : (mkG mk sz k l).take j ++ l.drop j = mkG mk sz k l := by
 rw [List.drop_eq_nil_of_le h, List.append_nil, List.take_of_length_le (by rw [mkG_len]; exact h)]
end
theorem set_selfG {l : List Value} {i : Nat} {a : Value} (h : l[i]? = some a) : l.set i a = l := by
 apply List.ext_getElem?
 intro j
 rw [List.getElem?_set]
 split
 ·next e =>
  subst e
  rw [h]
  split
  ·rfl
  ·next hn => rw [List.getElem?_eq_none (by omega)] at h; cases h
 ·rfl
theorem OwnS.turnK {α : Type} (k : Kd α) {w W : World} {base g n cap : Nat} {l : List α} {vs : List Value} {c' : α} {j : Nat} (hj : j < l.length) (hl : vs.length = l.length) (he : ∀ i (h1 : i < vs.length) (h2 : i < l.length), k.Own w base vs[i] l[i]) (hn : ((Value.slice (some ⟨g, 0, none⟩) n cap).ownBlock.toList ++ vs.flatMap k.fp).Nodup) {u : Value} (hfp : k.fp u = k.fp (vs[j]'(by omega)))
  (hr : W.ownsRow base k.T k.K (.slice (some ⟨g, 0, none⟩) n cap) l.length (cellsV (vs.set j u))) (hu : k.Own W base u c') (ho : Out (g :: k.fp (vs[j]'(by omega))) w W) : OwnS k W base (.slice (some ⟨g, 0, none⟩) n cap) (l.set j c') ((Value.slice (some ⟨g, 0, none⟩) n cap).ownBlock.toList ++ vs.flatMap k.fp) := by
 have hjv : j < vs.length := by omega
 have e1 : vs = vs.take j ++ vs[j] :: vs.drop (j + 1) := by rw [List.getElem_cons_drop, List.take_append_drop]
 have e2 : vs.set j u = vs.take j ++ u :: vs.drop (j + 1) := List.set_eq_take_append_cons_drop.trans (by rw [if_pos hjv])
 have e3 : (vs.set j u).flatMap k.fp = vs.flatMap k.fp := by
  rw [e2, List.flatMap_append, List.flatMap_cons, hfp, <- List.flatMap_cons, <- List.flatMap_append, <- e1]
 refine ⟨vs.set j u, by simp [hl], by rw [List.length_set]; exact hr, fun i h1 h2 => ?_, ?_, hn⟩
 ·rw [List.getElem_set, List.getElem_set]
  by_cases e : j = i
  ·rw [if_pos e, if_pos e]
   exact hu
  ·rw [if_neg e, if_neg e]
   have h3 : i < vs.length := by simpa using h1
   refine k.same (he i h3 (by omega)) fun b hb => ho.2.2.2.2 b (k.lt (he i h3 (by omega)) b hb).2 fun hm => ?_
   have hq := List.nodup_append.1 hn
   rcases List.mem_cons.1 hm with rfl | hm
   ·exact hq.2.2 b (by simp [Value.ownBlock]) b (mem_flat h3 hb) rfl
   ·have hA : (vs.take j).flatMap k.fp ++ (k.fp vs[j] ++ (vs.drop (j + 1)).flatMap k.fp) = vs.flatMap k.fp := by
     rw [<- List.flatMap_cons, <- List.flatMap_append, <- e1]
    have hnf := hq.2.1
    rw [<- hA] at hnf
    have q1 := List.nodup_append.1 hnf
    have q2 := List.nodup_append.1 q1.2.1
    rcases Nat.lt_or_ge i j with hij | hij
    ·refine q1.2.2 b (List.mem_flatMap.2 ⟨vs[i], ?_, hb⟩) b (List.mem_append_left _ hm) rfl
     rw [List.mem_take_iff_getElem]
     exact ⟨i, by omega, rfl⟩
    ·refine q2.2.2 b hm b (List.mem_flatMap.2 ⟨vs[i], ?_, hb⟩) rfl
     rw [List.mem_drop_iff_getElem]
     exact ⟨i - (j + 1), by omega, by congr 1; omega⟩
 ·show _ = _ ++ (vs.set j u).flatMap k.fp
  rw [e3]
end Go.Proofs.Ytbiiihjohbnodaa
