/-
  Texts of the proof.
-/
import Derived.Test.YtagmnlmfoanelaaGreatSK17
set_option maxRecDepth 100000
set_option maxHeartbeats 25600000
namespace Go.Proofs.YtagmnlmfoanelaaGreat
open Go.RowKit
set_option linter.unusedVariables false
set_option linter.unusedSimpArgs false
theorem eqGot_same (c : Gt) (a b : Value) (w : World) (hl : wtAS c.rp.ans <= 1000000000) (ha : GtAt w a c) (hb : GtAt w b c) :
  Calls Tryz.prog 59 #[a, b] w fun e w' => e = .returned (.bool true) /\ Below w.heap.size w w' := by
 obtain ⟨pv, rfl, h1⟩ := ha
 obtain ⟨pu, rfl, k1⟩ := hb
 obtain ⟨lp, hlp⟩ := zE (c.rp.ans.length)
 obtain ⟨pa, pc, hpa⟩ := h1.shape
 obtain ⟨pb, qc, hpb⟩ := k1.shape
 rw [hlp] at hpa hpb
 subst hpa hpb
 have HQ : Hid (∀ W, Below w.heap.size w W -> Calls Tryz.prog 77 #[.agg #[.string c.rp.hash, .int .i64 c.rp.nonce, .int .i64 c.rp.time, .int .i64 c.rp.next, .int .i64 c.rp.plan, .int .i64 c.rp.err, .slice pa lp pc, .string c.rp.sig], .agg #[.string c.rp.hash, .int .i64 c.rp.nonce, .int .i64 c.rp.time, .int .i64 c.rp.next, .int .i64 c.rp.plan, .int .i64 c.rp.err, .slice pb lp qc, .string c.rp.sig]] W (fun e w' => e = .returned (.bool true) /\ Below W.heap.size W w')) := fun W hb => eqReply_sameO c.rp _ _ W hl ⟨_, rfl, h1.below hb⟩ ⟨_, rfl, k1.below hb⟩
 clear hlp hl h1 k1
 unfold gtV
 go_enter Tryz.func59, Tryz.ntmps59
 go_upto_region 1 with fail
 obtain ⟨V1, hV⟩ : ∃ V, V = (w.alloc (Obj.cells #[.int .i64 c.id, .string c.rp.hash, .int .i64 c.rp.nonce, .int .i64 c.rp.time, .int .i64 c.rp.next, .int .i64 c.rp.plan, .int .i64 c.rp.err, .slice pa lp pc, .string c.rp.sig] 81)).alloc (Obj.cells #[.int .i64 c.id, .string c.rp.hash, .int .i64 c.rp.nonce, .int .i64 c.rp.time, .int .i64 c.rp.next, .int .i64 c.rp.plan, .int .i64 c.rp.err, .slice pb lp qc, .string c.rp.sig] 81) := ⟨_, rfl⟩
 rw [<- hV]
 have G1 : Hid (Blk V1 w.heap.size 81 #[.int .i64 c.id, .string c.rp.hash, .int .i64 c.rp.nonce, .int .i64 c.rp.time, .int .i64 c.rp.next, .int .i64 c.rp.plan, .int .i64 c.rp.err, .slice pa lp pc, .string c.rp.sig] /\ Blk V1 (w.heap.size + 1) 81 #[.int .i64 c.id, .string c.rp.hash, .int .i64 c.rp.nonce, .int .i64 c.rp.time, .int .i64 c.rp.next, .int .i64 c.rp.plan, .int .i64 c.rp.err, .slice pb lp qc, .string c.rp.sig] /\ Below w.heap.size w V1) := by
  have e0 : (w.alloc (Obj.cells #[.int .i64 c.id, .string c.rp.hash, .int .i64 c.rp.nonce, .int .i64 c.rp.time, .int .i64 c.rp.next, .int .i64 c.rp.plan, .int .i64 c.rp.err, .slice pa lp pc, .string c.rp.sig] 81)).heap.size = w.heap.size + 1 := Array.size_push _
  have h := Blk.new (w.alloc (Obj.cells #[.int .i64 c.id, .string c.rp.hash, .int .i64 c.rp.nonce, .int .i64 c.rp.time, .int .i64 c.rp.next, .int .i64 c.rp.plan, .int .i64 c.rp.err, .slice pa lp pc, .string c.rp.sig] 81)) 81 #[.int .i64 c.id, .string c.rp.hash, .int .i64 c.rp.nonce, .int .i64 c.rp.time, .int .i64 c.rp.next, .int .i64 c.rp.plan, .int .i64 c.rp.err, .slice pb lp qc, .string c.rp.sig]
  rw [e0] at h
  rw [hV]
  exact ⟨(Blk.new w _ _).alloc _, h, ((Below.refl _ _).alloc (Nat.le_refl _) _).alloc (by rw [e0]; omega) _⟩
 clear hV
 have a0 := fun j => G1.out.1.cell j
 have b0 := fun j => G1.out.2.1.cell j
 have a1 := fun j => G1.out.1.cell j
 have b1 := fun j => G1.out.2.1.cell j
 have a2 := fun j => G1.out.1.cell j
 have b2 := fun j => G1.out.2.1.cell j
 have a3 := fun j => G1.out.1.cell j
 have b3 := fun j => G1.out.2.1.cell j
 have a4 := fun j => G1.out.1.cell j
 have b4 := fun j => G1.out.2.1.cell j
 have a5 := fun j => G1.out.1.cell j
 have b5 := fun j => G1.out.2.1.cell j
 have a6 := fun j => G1.out.1.cell j
 have b6 := fun j => G1.out.2.1.cell j
 have a7 := fun j => G1.out.1.cell j
 have b7 := fun j => G1.out.2.1.cell j
 have a8 := fun j => G1.out.1.cell j
 have b8 := fun j => G1.out.2.1.cell j
 go_wp2_with fail
 clear a0 b0 a1 b1 a2 b2 a3 b3 a4 b4 a5 b5 a6 b6 a7 b7 a8 b8
 refine (HQ.out V1 G1.out.2.2).mono ?_
 rintro e V3 ⟨rfl, hb⟩
 have G3 : Hid (Below w.heap.size w V3) := G1.out.2.2.trans (hb.mono G1.out.2.2.size)
 clear hb G1
 go_wp2_with fail
 go_ret
 exact ⟨rfl, G3.out⟩
theorem eqGotS_same (l : List Gt) (a b : Value) (w : World) (hl : wtGtS l <= 1000000000) (ha : AtX gtW w a l) (hb : AtX gtW w b l) :
  Calls Tryz.prog 31 #[a, b] w fun e w' => e = .returned (.bool true) /\ Below w.heap.size w w' := by
 obtain ⟨ax, cx, hv⟩ := ha.shape
 obtain ⟨ay, cy, hu⟩ := hb.shape
 obtain ⟨len, hlen⟩ := zE (l.length)
 rw [hlen] at hv hu
 subst hv hu
 have hl20 : len <= 1000000000 := by unfold wtGtS at hl; omega
 have HX : Hid (AtX gtW w (.slice ax len cx) l /\ AtX gtW w (.slice ay len cy) l /\ l.length = len /\ wtGtS l <= 1000000000) := ⟨ha, hb, hlen, hl⟩
 clear ha hb hlen hl
 go_enter Tryz.func31, Tryz.ntmps31
 go_wp2_with fail
 go_loopw [5] (fun iv wr => ∃ k : Nat, k <= len /\ iv = .int .i64 k /\ Hid (Below w.heap.size w wr)) (fun iv _ => len - (intOf iv).toNat)
 case atStart => exact ⟨0, Nat.zero_le _, rfl, Below.refl _ _⟩
 case round =>
  obtain ⟨k, hk, rfl, HB⟩ := hrel
  by_cases hkn : k < len
  ·have hkl : k < l.length := by rw [HX.out.2.2.1]; exact hkn
   obtain ⟨g1, o1, u1, hax, hg1, hP1, hs1, hc1⟩ := HX.out.1.get hkl
   obtain ⟨g2, o2, u2, hay, hg2, hP2, hs2, hc2⟩ := HX.out.2.1.get hkl
   subst hax hay
   obtain ⟨c, hc⟩ := zE (l[k])
   have hBd : Below w.heap.size w wr.drew := HB.out.drew
   have hrl : wtAS c.rp.ans <= 1000000000 := by
    have h1 := wtGtS_mem (List.getElem_mem hkl)
    rw [hc] at h1
    exact wtR_ans (Nat.le_trans h1 HX.out.2.2.2)
   have HR := eqGot_same c u1 u2 wr.drew hrl (by rw [<- hc]; exact GtAt.below hP1 hBd) (by rw [<- hc]; exact GtAt.below hP2 hBd)
   obtain ⟨p1, q1, hu1⟩ := GtAt.shape hP1
   obtain ⟨p2, q2, hu2⟩ := GtAt.shape hP2
   rw [hc] at hu1 hu2
   subst hu1 hu2
   have hf1 : ∀ (W : World) (i : Nat) (x : Value), Below w.heap.size w W -> (gtV c (.slice p1 c.rp.ans.length q1)).cells[i]? = some x -> W.cell? ⟨g1, o1 + k * 9 + i, none⟩ = some x := fun W i x hW hx => (hW.cell (p := ⟨g1, o1 + k * 9 + i, none⟩) hg1).trans (hc1 i x hx)
   have hf2 : ∀ (W : World) (i : Nat) (x : Value), Below w.heap.size w W -> (gtV c (.slice p2 c.rp.ans.length q2)).cells[i]? = some x -> W.cell? ⟨g2, o2 + k * 9 + i, none⟩ = some x := fun W i x hW hx => (hW.cell (p := ⟨g2, o2 + k * 9 + i, none⟩) hg2).trans (hc2 i x hx)
   have HS : Hid (∀ W, Below w.heap.size w W -> (W.cell? ⟨g1, o1 + k * 9, none⟩ = some (.int .i64 c.id) /\ W.cell? ⟨g1, o1 + k * 9 + 1, none⟩ = some (.string c.rp.hash) /\ W.cell? ⟨g1, o1 + k * 9 + 2, none⟩ = some (.int .i64 c.rp.nonce) /\ W.cell? ⟨g1, o1 + k * 9 + 3, none⟩ = some (.int .i64 c.rp.time) /\ W.cell? ⟨g1, o1 + k * 9 + 4, none⟩ = some (.int .i64 c.rp.next) /\ W.cell? ⟨g1, o1 + k * 9 + 5, none⟩ = some (.int .i64 c.rp.plan) /\ W.cell? ⟨g1, o1 + k * 9 + 6, none⟩ = some (.int .i64 c.rp.err) /\ W.cell? ⟨g1, o1 + k * 9 + 7, none⟩ = some (.slice p1 c.rp.ans.length q1) /\ W.cell? ⟨g1, o1 + k * 9 + 8, none⟩ = some (.string c.rp.sig)) /\ (W.cell? ⟨g2, o2 + k * 9, none⟩ = some (.int .i64 c.id) /\ W.cell? ⟨g2, o2 + k * 9 + 1, none⟩ = some (.string c.rp.hash) /\ W.cell? ⟨g2, o2 + k * 9 + 2, none⟩ = some (.int .i64 c.rp.nonce) /\ W.cell? ⟨g2, o2 + k * 9 + 3, none⟩ = some (.int .i64 c.rp.time) /\ W.cell? ⟨g2, o2 + k * 9 + 4, none⟩ = some (.int .i64 c.rp.next) /\ W.cell? ⟨g2, o2 + k * 9 + 5, none⟩ = some (.int .i64 c.rp.plan) /\ W.cell? ⟨g2, o2 + k * 9 + 6, none⟩ = some (.int .i64 c.rp.err) /\ W.cell? ⟨g2, o2 + k * 9 + 7, none⟩ = some (.slice p2 c.rp.ans.length q2) /\ W.cell? ⟨g2, o2 + k * 9 + 8, none⟩ = some (.string c.rp.sig))) := fun W hW =>
    ⟨⟨hf1 W 0 _ hW rfl, hf1 W 1 _ hW rfl, hf1 W 2 _ hW rfl, hf1 W 3 _ hW rfl, hf1 W 4 _ hW rfl, hf1 W 5 _ hW rfl, hf1 W 6 _ hW rfl, hf1 W 7 _ hW rfl, hf1 W 8 _ hW rfl⟩, hf2 W 0 _ hW rfl, hf2 W 1 _ hW rfl, hf2 W 2 _ hW rfl, hf2 W 3 _ hW rfl, hf2 W 4 _ hW rfl, hf2 W 5 _ hW rfl, hf2 W 6 _ hW rfl, hf2 W 7 _ hW rfl, hf2 W 8 _ hW rfl⟩
   have hki : (k : Int) < (len : Int) := by omega
   have hk0 : (0 : Int) <= (k : Int) := by omega
   unfold gtV at HR
   clear hf1 hf2 hc1 hc2 hP1 hP2 hs1 hs2 hg1 hg2 hc hkl
   go_upto_region 6 with fail
   refine wp_region_held_drew (S := fun W => Below w.heap.size w W) (by kernel_rfl) hBd (fun hHeld => ?_)
   clear hBd
   have HBW : Hid (Below w.heap.size w wr.drew) := hHeld
   refine zT 0 17 ?_ rfl (by rfl) ?_ hHeld ?_
   rotate_left
   ·intro W hSw
    go_simp
    try with_reducible rfl
   try simp only [Act.put, zA, zB, zC]
   refine zT 1 18 ?_ rfl (by rfl) ?_ hHeld ?_
   rotate_left
   ·intro W hSw
    go_simp
    try with_reducible rfl
   try simp only [Act.put, zA, zB, zC]
   refine zT 2 19 ?_ rfl (by rfl) ?_ hHeld ?_
   rotate_left
   ·intro W hSw
    go_simp
    try with_reducible rfl
   try simp only [Act.put, zA, zB, zC]
   refine zT 3 20 ?_ rfl (by rfl) ?_ hHeld ?_
   rotate_left
   ·intro W hSw
    obtain ⟨⟨e0, e1, e2, e3, e4, e5, e6, e7, e8⟩, -⟩ := HS.out W hSw
    go_simp
    try with_reducible rfl
   try simp only [Act.put, zA, zB, zC]
   refine zT 4 21 ?_ rfl (by rfl) ?_ hHeld ?_
   rotate_left
   ·intro W hSw
    go_simp
    try with_reducible rfl
   try simp only [Act.put, zA, zB, zC]
   refine zT 5 22 ?_ rfl (by rfl) ?_ hHeld ?_
   rotate_left
   ·intro W hSw
    go_simp
    try with_reducible rfl
   try simp only [Act.put, zA, zB, zC]
   refine zT 6 23 ?_ rfl (by rfl) ?_ hHeld ?_
   rotate_left
   ·intro W hSw
    go_simp
    try with_reducible rfl
   try simp only [Act.put, zA, zB, zC]
   refine zT 7 24 ?_ rfl (by rfl) ?_ hHeld ?_
   rotate_left
   ·intro W hSw
    obtain ⟨-, e0, e1, e2, e3, e4, e5, e6, e7, e8⟩ := HS.out W hSw
    go_simp
    try with_reducible rfl
   try simp only [Act.put, zA, zB, zC]
   refine wpAnyH_ready (rs := [8]) (by kernel_rfl) (by simp) ?_
   refine AllReadyH.cons (o := ⟨some 25, _, _, _, _, _⟩) rfl (fun K hK => ?_) AllReadyH.nil
   go_simp
   refine HR.mono ?_
   rintro e w3 ⟨rfl, hb3⟩
   have HB3 : Hid (Below w.heap.size w w3) := HBW.out.trans (hb3.mono HBW.out.size)
   clear hb3 HR HBW
   refine hK.out _ _ HB3.out (fun hHeld => ?_)
   clear hK K
   try simp only [Act.put, zA, zB, zC]
   refine zT 9 26 ?_ rfl (by rfl) ?_ hHeld ?_
   rotate_left
   ·intro W hSw
    go_simp
    try with_reducible rfl
   try simp only [Act.put, zA, zB, zC]
   refine wpAnyH_done (by kernel_rfl) ?_ _
   clear HS
   go_wp2_with fail
   go_roundw
   case rel => exact ⟨k + 1, by omega, by go_num, HB3.out⟩
   case measure => simp [intOf]; omega
  ·have hkl : k = len := by omega
   subst hkl
   go_wp2
   go_ret
   exact ⟨rfl, HB.out⟩
end Go.Proofs.YtagmnlmfoanelaaGreat
namespace Go.Proofs.YtagmnlmfoanelaaGreat
open Go.RowKit Go.ChangeShapes
set_option linter.unusedVariables false
set_option linter.unusedSimpArgs false
theorem eqClient_wide (s : Cn) (a b : Value) (w : World) (hl : s.waits.length <= 1000000000 /\ wtGtS s.gots <= 1000000000 /\ s.late.length <= 1000000000) (ha : CnAt w a s) (hb : CnAt w b s) :
  Calls Tryz.prog 10 #[a, b] w fun e w' => e = .returned (.bool true) /\ Below w.heap.size w w' := by
 obtain ⟨a1, c1, a2, c2, a3, c3, rfl⟩ := ha.shape
 obtain ⟨b1, d1, b2, d2, b3, d3, rfl⟩ := hb.shape
 obtain ⟨k1, k2, k3⟩ := ha.rows
 obtain ⟨j1, j2, j3⟩ := hb.rows
 obtain ⟨l1, l2, l3⟩ := hl
 obtain ⟨n1, e1⟩ := zE (s.waits.length)
 obtain ⟨n2, e2⟩ := zE (s.gots.length)
 obtain ⟨n3, e3⟩ := zE (s.late.length)
 rw [e1, e2, e3]
 rw [e1] at k1 j1
 rw [e2] at k2 j2
 rw [e3] at k3 j3
 have Q1 : Hid (∀ W, Below w.heap.size w W -> Calls Tryz.prog 30 #[.slice a1 n1 c1, .slice b1 n1 d1] W (fun e w' => e = .returned (.bool true) /\ Below W.heap.size W w')) := fun W h => eqWaitS_same s.waits _ _ W l1 (k1.below h) (j1.below h)
 have Q2 : Hid (∀ W, Below w.heap.size w W -> Calls Tryz.prog 31 #[.slice a2 n2 c2, .slice b2 n2 d2] W (fun e w' => e = .returned (.bool true) /\ Below W.heap.size W w')) := fun W h => eqGotS_same s.gots _ _ W l2 (k2.below h) (j2.below h)
 have Q3 : Hid (∀ W, Below w.heap.size w W -> Calls Tryz.prog 32 #[.slice a3 n3 c3, .slice b3 n3 d3] W (fun e w' => e = .returned (.bool true) /\ Below W.heap.size W w')) := fun W h => eqIntS_same _ _ s.late W l3 (k3.below h) (j3.below h)
 clear ha hb k1 j1 l1 k2 j2 l2 k3 j3 l3 e1 e2 e3
 go_enter Tryz.func10, Tryz.ntmps10
 go_wp2_with fail
 obtain ⟨W2, hW2⟩ : ∃ W, W = ((w.alloc (Obj.cells #[.string s.key, .int .i64 s.now, .slice a1 n1 c1, .slice a2 n2 c2, .slice a3 n3 c3] 35)).alloc (Obj.cells #[.string s.key, .int .i64 s.now, .slice b1 n1 d1, .slice b2 n2 d2, .slice b3 n3 d3] 35)) := ⟨_, rfl⟩
 rw [<- hW2]
 have e0 : (w.alloc (Obj.cells #[.string s.key, .int .i64 s.now, .slice a1 n1 c1, .slice a2 n2 c2, .slice a3 n3 c3] 35)).heap.size = w.heap.size + 1 := Array.size_push _
 have HB : Hid (Below w.heap.size w W2) := by rw [hW2]; exact ((Below.refl _ _).alloc (Nat.le_refl _) _).alloc (by rw [e0]; omega) _
 have HA : Hid (Blk W2 w.heap.size 35 #[.string s.key, .int .i64 s.now, .slice a1 n1 c1, .slice a2 n2 c2, .slice a3 n3 c3]) := by rw [hW2]; exact (Blk.new w _ _).alloc _
 have HC : Hid (Blk W2 (w.heap.size + 1) 35 #[.string s.key, .int .i64 s.now, .slice b1 n1 d1, .slice b2 n2 d2, .slice b3 n3 d3]) := by
  have h := Blk.new (w.alloc (Obj.cells #[.string s.key, .int .i64 s.now, .slice a1 n1 c1, .slice a2 n2 c2, .slice a3 n3 c3] 35)) 35 #[.string s.key, .int .i64 s.now, .slice b1 n1 d1, .slice b2 n2 d2, .slice b3 n3 d3]
  rw [e0] at h
  rw [hW2]
  exact h
 have O0 : Hid (w.heap.size + 1 + 1 <= W2.heap.size) := by show _ <= _; rw [hW2, size_alloc, e0]; omega
 clear hW2 e0
 refine (Q1.out W2 HB.out).mono ?_
 rintro e w1 ⟨rfl, hb⟩
 replace HB := zH (Below.on HB.out hb HB.out.size)
 replace HA := zH (HA.out.below hb HA.out.lt)
 replace HC := zH (HC.out.below hb HC.out.lt)
 have O1 : Hid (W2.heap.size <= w1.heap.size) := hb.size
 clear hb
 have c0 := fun j => HA.out.cell j
 have d0 := fun j => HC.out.cell j
 go_wp2_with fail
 clear c0 d0
 refine (Q2.out w1 HB.out).mono ?_
 rintro e w2 ⟨rfl, hb⟩
 replace HB := zH (Below.on HB.out hb HB.out.size)
 replace HA := zH (HA.out.below hb HA.out.lt)
 replace HC := zH (HC.out.below hb HC.out.lt)
 have O2 : Hid (w1.heap.size <= w2.heap.size) := hb.size
 clear hb
 have c0 := fun j => HA.out.cell j
 have d0 := fun j => HC.out.cell j
 go_wp2_with fail
 clear c0 d0
 refine (Q3.out w2 HB.out).mono ?_
 rintro e w3 ⟨rfl, hb⟩
 replace HB := zH (Below.on HB.out hb HB.out.size)
 replace HA := zH (HA.out.below hb HA.out.lt)
 replace HC := zH (HC.out.below hb HC.out.lt)
 have O3 : Hid (w2.heap.size <= w3.heap.size) := hb.size
 clear hb
 go_wp2_with fail
 go_ret
 exact ⟨rfl, HB.out⟩
end Go.Proofs.YtagmnlmfoanelaaGreat
namespace Go.Proofs.YtagmnlmfoanelaaGreat
open Go.RowKit
set_option linter.unusedVariables false
set_option linter.unusedSimpArgs false
def mkI (k : Nat) (l : List Int) : List Int := marksI k l.length
theorem markIntSF_out (l : List Int) (v : Value) (k base : Nat) (fp : List Nat) (w : World) (hl : l.length <= 1000000000) (hk : k <= 1000000000) (ha : OwnIF w base v l fp) :
  Calls Tryz.prog 36 #[v, .int .i64 k] w fun e w' => e = .returned (.int .i64 ((k + l.length : Nat) : Int)) /\ OwnIF w' base v (mkI k l) fp /\ Out fp w w' := by
 refine (mark_any v l k base w hl hk ha.1).mono fun e w' h => ?_
 obtain ⟨rfl, ho, hg⟩ := h
 exact ⟨by rw [Int.natCast_add], ⟨ho, ha.2⟩, (Out.refl _ _).grown hg fun q hq => by rw [ha.2]; exact Option.mem_toList.2 hq⟩
theorem heldIntSF_same (l : List Int) (v : Value) (k : Nat) (w : World) (hl : l.length <= 1000000000) (hk : k <= 1000000000) (ha : AtI w v (mkI k l)) :
  Calls Tryz.prog 40 #[v, .int .i64 k] w fun e w' => e = .returned (.int .i64 ((k + l.length : Nat) : Int)) /\ Below w.heap.size w w' := by
 refine (heldIntS_same v l.length k w hl hk ha).mono fun e w' h => ?_
 obtain ⟨rfl, hb⟩ := h
 exact ⟨by rw [Int.natCast_add], hb⟩
end Go.Proofs.YtagmnlmfoanelaaGreat
