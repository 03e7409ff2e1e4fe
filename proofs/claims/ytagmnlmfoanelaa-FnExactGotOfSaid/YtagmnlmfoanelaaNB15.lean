/-
  Texts of the proof.
-/
import Derived.Deep.RegionHeld3
import Derived.Test.YtagmnlmfoanelaaNB11
import Derived.Test.YtagmnlmfoanelaaNB13
set_option maxRecDepth 100000
set_option maxHeartbeats 25600000
namespace Go.Proofs.Ytagmnlmfoanelaa
open Go.RowKit
set_option linter.unusedVariables false
set_option linter.unusedSimpArgs false
theorem eqT_sameO (a b : Value) (l : List ByteArray) (w : World) (hl : l.length <= 1000000000) (ha : TxtO w a l) (hb : TxtO w b l) : Calls Try.prog 56 #[a, b] w fun e w' => e = .returned (.bool true) /\ Below w.heap.size w w' := by
 obtain ⟨ao, ca, rfl, hca⟩ := ha
 obtain ⟨bo, cb, rfl, hcb⟩ := hb
 have HA : Hid (∀ j, j < l.length -> ∃ g o, ao = some ⟨g, o, none⟩ /\ g < w.heap.size /\ w.cell? ⟨g, o + j, none⟩ = some (.string (l.getD j ByteArray.empty))) := hca
 have HB : Hid (∀ j, j < l.length -> ∃ g o, bo = some ⟨g, o, none⟩ /\ g < w.heap.size /\ w.cell? ⟨g, o + j, none⟩ = some (.string (l.getD j ByteArray.empty))) := hcb
 clear hca hcb
 go_enter Try.func56, Try.ntmps56
 go_wp2
 go_loopw [5] (fun iv wr => ∃ k : Nat, k <= l.length /\ iv = .int .i64 k /\ Below w.heap.size w wr) (fun iv _ => l.length - (intOf iv).toNat)
 case atStart => exact ⟨0, Nat.zero_le _, rfl, Below.refl _ _⟩
 case round =>
  obtain ⟨k, hk, rfl, hbel⟩ := hrel
  by_cases hlt : k < l.length
  ·obtain ⟨ga, oa, hao, hga, hca⟩ := HA.out k hlt
   obtain ⟨gb, ob, hbo, hgb, hcb⟩ := HB.out k hlt
   have c1 : wr.cell? ⟨ga, oa + k, none⟩ = some (.string (l.getD k ByteArray.empty)) := (hbel.cell (p := ⟨ga, oa + k, none⟩) hga).trans hca
   have c2 : wr.cell? ⟨gb, ob + k, none⟩ = some (.string (l.getD k ByteArray.empty)) := (hbel.cell (p := ⟨gb, ob + k, none⟩) hgb).trans hcb
   generalize l.getD k ByteArray.empty = x at *
   subst hao hbo
   clear hca hcb
   have hki : (k : Int) < (l.length : Int) := by omega
   have hk0 : (0 : Int) <= (k : Int) := by omega
   go_wp2_with fail
   go_region_held3 (fun w' => w'.cell? ⟨ga, oa + k, none⟩ = some (.string x) /\ w'.cell? ⟨gb, ob + k, none⟩ = some (.string x)) (go_keep) (fail)
   all_goals
    go_wp2
    go_roundw
    case rel => exact ⟨k + 1, by omega, by go_num, hbel.drew⟩
    case measure => simp [intOf]; omega
  ·go_wp2
   go_ret
   exact ⟨rfl, hbel⟩
theorem eqAnswer_sameO (c : Aw) (a b : Value) (w : World) (hl : c.path.length <= 1000000000 /\ c.lst.length <= 1000000000) (ha : AwO w a c) (hb : AwO w b c) :
  Calls Try.prog 50 #[a, b] w fun e w' => e = .returned (.bool true) /\ Below w.heap.size w w' := by
 obtain ⟨pv, ev, rfl, h1, h2⟩ := ha
 obtain ⟨pu, eu, rfl, k1, k2⟩ := hb
 have HQ : Hid (∀ W, Below w.heap.size w W -> Calls Try.prog 56 #[pv, pu] W (fun e w' => e = .returned (.bool true) /\ Below W.heap.size W w')) := fun W hb => eqT_sameO pv pu c.path W hl.1 (h1.below hb) (k1.below hb)
 have HQ2 : Hid (∀ W, Below w.heap.size w W -> Calls Try.prog 56 #[ev, eu] W (fun e w' => e = .returned (.bool true) /\ Below W.heap.size W w')) := fun W hb => eqT_sameO ev eu c.lst W hl.2 (h2.below hb) (k2.below hb)
 obtain ⟨lp, hlp⟩ := zE (c.path.length)
 obtain ⟨le, hle⟩ := zE (c.lst.length)
 obtain ⟨pa, pc, hpa, _⟩ := h1
 obtain ⟨pb, qc, hpb, _⟩ := k1
 obtain ⟨ea, ec, hea, _⟩ := h2
 obtain ⟨eb, fc, heb, _⟩ := k2
 rw [hlp] at hpa hpb
 rw [hle] at hea heb
 subst hpa hpb hea heb
 clear hlp hle hl
 unfold awV
 go_enter Try.func50, Try.ntmps50
 go_wp2_with fail
 obtain ⟨V1, hV⟩ : ∃ V, V = (w.alloc (Obj.cells #[.int .i64 c.status, .int .i64 c.why, .slice pa lp pc, .slice ea le ec] 77)).alloc (Obj.cells #[.int .i64 c.status, .int .i64 c.why, .slice pb lp qc, .slice eb le fc] 77) := ⟨_, rfl⟩
 rw [<- hV]
 have G1 : Hid (Blk V1 w.heap.size 77 #[.int .i64 c.status, .int .i64 c.why, .slice pa lp pc, .slice ea le ec] /\ Blk V1 (w.heap.size + 1) 77 #[.int .i64 c.status, .int .i64 c.why, .slice pb lp qc, .slice eb le fc] /\ Below w.heap.size w V1 /\ w.heap.size + 1 < V1.heap.size) := by
  have e0 : (w.alloc (Obj.cells #[.int .i64 c.status, .int .i64 c.why, .slice pa lp pc, .slice ea le ec] 77)).heap.size = w.heap.size + 1 := Array.size_push _
  have h := Blk.new (w.alloc (Obj.cells #[.int .i64 c.status, .int .i64 c.why, .slice pa lp pc, .slice ea le ec] 77)) 77 #[.int .i64 c.status, .int .i64 c.why, .slice pb lp qc, .slice eb le fc]
  rw [e0] at h
  rw [hV]
  exact ⟨(Blk.new w _ _).alloc _, h, ((Below.refl _ _).alloc (Nat.le_refl _) _).alloc (by rw [e0]; omega) _, by rw [size_alloc, e0]; omega⟩
 clear hV
 refine (HQ.out V1 G1.out.2.2.1).mono ?_
 rintro e V2 ⟨rfl, hb⟩
 have G2 := zH (zJ (G1.out.1.below hb (by have := G1.out.2.2.2; omega) : Blk V2 w.heap.size 77 #[.int .i64 c.status, .int .i64 c.why, .slice pa lp pc, .slice ea le ec]) (zJ (G1.out.2.1.below hb G1.out.2.2.2) (zJ (G1.out.2.2.1.trans (hb.mono G1.out.2.2.1.size)) (Nat.lt_of_lt_of_le G1.out.2.2.2 hb.size))))
 clear hb G1
 have ca3 := fun j => G2.out.1.cell j
 have cb3 := fun j => G2.out.2.1.cell j
 go_wp2_with fail
 clear ca3 cb3
 refine (HQ2.out V2 G2.out.2.2.1).mono ?_
 rintro e V3 ⟨rfl, hb⟩
 have G3 : Hid (Below w.heap.size w V3) := G2.out.2.2.1.trans (hb.mono G2.out.2.2.1.size)
 clear hb G2
 go_wp2_with fail
 go_ret
 exact ⟨rfl, G3.out⟩
theorem eqAnswerS_sameO (l : List Aw) (a b : Value) (w : World) (hl : wtAS l <= 1000000000) (ha : AtS awWd w a l) (hb : AtS awWd w b l) :
  Calls Try.prog 36 #[a, b] w fun e w' => e = .returned (.bool true) /\ Below w.heap.size w w' := by
 obtain ⟨ax, cx, hv⟩ := ha.shape
 obtain ⟨ay, cy, hu⟩ := hb.shape
 obtain ⟨len, hlen⟩ := zE (l.length)
 rw [hlen] at hv hu
 subst hv hu
 have hl20 : len <= 1000000000 := by unfold wtAS at hl; omega
 have HX : Hid (AtS awWd w (.slice ax len cx) l /\ AtS awWd w (.slice ay len cy) l /\ l.length = len /\ wtAS l <= 1000000000) := ⟨ha, hb, hlen, hl⟩
 clear ha hb hlen hl
 go_enter Try.func36, Try.ntmps36
 go_wp2_with fail
 go_loopw [5] (fun iv wr => ∃ k : Nat, k <= len /\ iv = .int .i64 k /\ Hid (Below w.heap.size w wr)) (fun iv _ => len - (intOf iv).toNat)
 case atStart => exact ⟨0, Nat.zero_le _, rfl, Below.refl _ _⟩
 case round =>
  obtain ⟨k, hk, rfl, HB⟩ := hrel
  by_cases hkn : k < len
  ·have hkl : k < l.length := by rw [HX.out.2.2.1]; exact hkn
   obtain ⟨g1, o1, u1, hax, hg1, hP1, hs1, hc1⟩ := HX.out.1.get hkl
   obtain ⟨g2, o2, u2, hay, hg2, hP2, hs2, hc2⟩ := HX.out.2.1.get hkl
   subst hax hay
   obtain ⟨c, hc⟩ := zE (l[k])
   have hBd : Below w.heap.size w wr.drew := HB.out.drew
   have hrl : c.path.length <= 1000000000 /\ c.lst.length <= 1000000000 := by
    have h1 := wtAS_mem (List.getElem_mem hkl)
    rw [hc] at h1
    exact wtAw_lens (Nat.le_trans h1 HX.out.2.2.2)
   have HR := eqAnswer_sameO c u1 u2 wr.drew hrl (by rw [<- hc]; exact AwO.below hP1 hBd) (by rw [<- hc]; exact AwO.below hP2 hBd)
   obtain ⟨p1, q1, e1, r1, hu1⟩ := AwO.shape hP1
   obtain ⟨p2, q2, e2, r2, hu2⟩ := AwO.shape hP2
   rw [hc] at hu1 hu2
   subst hu1 hu2
   have hf1 : ∀ (W : World) (i : Nat) (x : Value), Below w.heap.size w W -> (awV c (.slice p1 c.path.length q1) (.slice e1 c.lst.length r1)).cells[i]? = some x -> W.cell? ⟨g1, o1 + k * 4 + i, none⟩ = some x := fun W i x hW hx => (hW.cell (p := ⟨g1, o1 + k * 4 + i, none⟩) hg1).trans (hc1 i x hx)
   have hf2 : ∀ (W : World) (i : Nat) (x : Value), Below w.heap.size w W -> (awV c (.slice p2 c.path.length q2) (.slice e2 c.lst.length r2)).cells[i]? = some x -> W.cell? ⟨g2, o2 + k * 4 + i, none⟩ = some x := fun W i x hW hx => (hW.cell (p := ⟨g2, o2 + k * 4 + i, none⟩) hg2).trans (hc2 i x hx)
   have HS : Hid (∀ W, Below w.heap.size w W -> (W.cell? ⟨g1, o1 + k * 4, none⟩ = some (.int .i64 c.status) /\ W.cell? ⟨g1, o1 + k * 4 + 1, none⟩ = some (.int .i64 c.why) /\ W.cell? ⟨g1, o1 + k * 4 + 2, none⟩ = some (.slice p1 c.path.length q1) /\ W.cell? ⟨g1, o1 + k * 4 + 3, none⟩ = some (.slice e1 c.lst.length r1)) /\ (W.cell? ⟨g2, o2 + k * 4, none⟩ = some (.int .i64 c.status) /\ W.cell? ⟨g2, o2 + k * 4 + 1, none⟩ = some (.int .i64 c.why) /\ W.cell? ⟨g2, o2 + k * 4 + 2, none⟩ = some (.slice p2 c.path.length q2) /\ W.cell? ⟨g2, o2 + k * 4 + 3, none⟩ = some (.slice e2 c.lst.length r2))) := fun W hW =>
    ⟨⟨hf1 W 0 _ hW rfl, hf1 W 1 _ hW rfl, hf1 W 2 _ hW rfl, hf1 W 3 _ hW rfl⟩, hf2 W 0 _ hW rfl, hf2 W 1 _ hW rfl, hf2 W 2 _ hW rfl, hf2 W 3 _ hW rfl⟩
   have hki : (k : Int) < (len : Int) := by omega
   have hk0 : (0 : Int) <= (k : Int) := by omega
   unfold awV at HR
   clear hf1 hf2 hc1 hc2 hP1 hP2 hs1 hs2 hg1 hg2 hc hkl
   go_upto_region 6 with fail
   refine wp_region_held_drew (S := fun W => Below w.heap.size w W) (by kernel_rfl) hBd (fun hHeld => ?_)
   clear hBd
   have HBW : Hid (Below w.heap.size w wr.drew) := hHeld
   refine zT 0 17 ?_ rfl (by rfl) ?_ hHeld ?_
   rotate_left
   ·intro W hSw
    go_simp
    try with_reducible rfl
   try simp only [Act.put, zA, zB, zC]
   refine zT 1 18 ?_ rfl (by rfl) ?_ hHeld ?_
   rotate_left
   ·intro W hSw
    go_simp
    try with_reducible rfl
   try simp only [Act.put, zA, zB, zC]
   refine zT 2 19 ?_ rfl (by rfl) ?_ hHeld ?_
   rotate_left
   ·intro W hSw
    go_simp
    try with_reducible rfl
   try simp only [Act.put, zA, zB, zC]
   refine zT 3 20 ?_ rfl (by rfl) ?_ hHeld ?_
   rotate_left
   ·intro W hSw
    obtain ⟨⟨e0, e1, e2, e3⟩, -⟩ := HS.out W hSw
    go_simp
    try with_reducible rfl
   try simp only [Act.put, zA, zB, zC]
   refine zT 4 21 ?_ rfl (by rfl) ?_ hHeld ?_
   rotate_left
   ·intro W hSw
    go_simp
    try with_reducible rfl
   try simp only [Act.put, zA, zB, zC]
   refine zT 5 22 ?_ rfl (by rfl) ?_ hHeld ?_
   rotate_left
   ·intro W hSw
    go_simp
    try with_reducible rfl
   try simp only [Act.put, zA, zB, zC]
   refine zT 6 23 ?_ rfl (by rfl) ?_ hHeld ?_
   rotate_left
   ·intro W hSw
    go_simp
    try with_reducible rfl
   try simp only [Act.put, zA, zB, zC]
   refine zT 7 24 ?_ rfl (by rfl) ?_ hHeld ?_
   rotate_left
   ·intro W hSw
    obtain ⟨-, e0, e1, e2, e3⟩ := HS.out W hSw
    go_simp
    try with_reducible rfl
   try simp only [Act.put, zA, zB, zC]
   refine wpAnyH_ready (rs := [8]) (by kernel_rfl) (by simp) ?_
   refine AllReadyH.cons (o := ⟨some 25, _, _, _, _, _⟩) rfl (fun K hK => ?_) AllReadyH.nil
   go_simp
   refine HR.mono ?_
   rintro e w3 ⟨rfl, hb3⟩
   have HB3 : Hid (Below w.heap.size w w3) := HBW.out.trans (hb3.mono HBW.out.size)
   clear hb3 HR HBW
   refine hK.out _ _ HB3.out (fun hHeld => ?_)
   clear hK K
   try simp only [Act.put, zA, zB, zC]
   refine zT 9 26 ?_ rfl (by rfl) ?_ hHeld ?_
   rotate_left
   ·intro W hSw
    go_simp
    try with_reducible rfl
   try simp only [Act.put, zA, zB, zC]
   refine wpAnyH_done (by kernel_rfl) ?_ _
   clear HS
   go_wp2_with fail
   go_roundw
   case rel => exact ⟨k + 1, by omega, by go_num, HB3.out⟩
   case measure => simp [intOf]; omega
  ·have hkl : k = len := by omega
   subst hkl
   go_wp2
   go_ret
   exact ⟨rfl, HB.out⟩
theorem eqReply_sameO (c : Rp) (a b : Value) (w : World) (hl : wtAS c.ans <= 1000000000) (ha : RpO w a c) (hb : RpO w b c) :
  Calls Try.prog 14 #[a, b] w fun e w' => e = .returned (.bool true) /\ Below w.heap.size w w' := by
 obtain ⟨pv, rfl, h1⟩ := ha
 obtain ⟨pu, rfl, k1⟩ := hb
 have HQ : Hid (∀ W, Below w.heap.size w W -> Calls Try.prog 36 #[pv, pu] W (fun e w' => e = .returned (.bool true) /\ Below W.heap.size W w')) := fun W hb => eqAnswerS_sameO c.ans pv pu W hl (h1.below hb) (k1.below hb)
 obtain ⟨lp, hlp⟩ := zE (c.ans.length)
 obtain ⟨pa, pc, hpa⟩ := h1.shape
 obtain ⟨pb, qc, hpb⟩ := k1.shape
 rw [hlp] at hpa hpb
 subst hpa hpb
 clear hlp hl h1 k1
 unfold rpV
 go_enter Try.func14, Try.ntmps14
 go_upto_region 1 with fail
 obtain ⟨V1, hV⟩ : ∃ V, V = (w.alloc (Obj.cells #[.string c.hash, .int .i64 c.nonce, .int .i64 c.time, .int .i64 c.next, .int .i64 c.plan, .int .i64 c.err, .slice pa lp pc, .string c.sig] 38)).alloc (Obj.cells #[.string c.hash, .int .i64 c.nonce, .int .i64 c.time, .int .i64 c.next, .int .i64 c.plan, .int .i64 c.err, .slice pb lp qc, .string c.sig] 38) := ⟨_, rfl⟩
 rw [<- hV]
 have G1 : Hid (Blk V1 w.heap.size 38 #[.string c.hash, .int .i64 c.nonce, .int .i64 c.time, .int .i64 c.next, .int .i64 c.plan, .int .i64 c.err, .slice pa lp pc, .string c.sig] /\ Blk V1 (w.heap.size + 1) 38 #[.string c.hash, .int .i64 c.nonce, .int .i64 c.time, .int .i64 c.next, .int .i64 c.plan, .int .i64 c.err, .slice pb lp qc, .string c.sig] /\ Below w.heap.size w V1 /\ w.heap.size + 1 < V1.heap.size) := by
  have e0 : (w.alloc (Obj.cells #[.string c.hash, .int .i64 c.nonce, .int .i64 c.time, .int .i64 c.next, .int .i64 c.plan, .int .i64 c.err, .slice pa lp pc, .string c.sig] 38)).heap.size = w.heap.size + 1 := Array.size_push _
  have h := Blk.new (w.alloc (Obj.cells #[.string c.hash, .int .i64 c.nonce, .int .i64 c.time, .int .i64 c.next, .int .i64 c.plan, .int .i64 c.err, .slice pa lp pc, .string c.sig] 38)) 38 #[.string c.hash, .int .i64 c.nonce, .int .i64 c.time, .int .i64 c.next, .int .i64 c.plan, .int .i64 c.err, .slice pb lp qc, .string c.sig]
  rw [e0] at h
  rw [hV]
  exact ⟨(Blk.new w _ _).alloc _, h, ((Below.refl _ _).alloc (Nat.le_refl _) _).alloc (by rw [e0]; omega) _, by rw [size_alloc, e0]; omega⟩
 clear hV
 have a0 := fun j => G1.out.1.cell j
 have b0 := fun j => G1.out.2.1.cell j
 have a1 := fun j => G1.out.1.cell j
 have b1 := fun j => G1.out.2.1.cell j
 have a2 := fun j => G1.out.1.cell j
 have b2 := fun j => G1.out.2.1.cell j
 have a3 := fun j => G1.out.1.cell j
 have b3 := fun j => G1.out.2.1.cell j
 have a4 := fun j => G1.out.1.cell j
 have b4 := fun j => G1.out.2.1.cell j
 have a5 := fun j => G1.out.1.cell j
 have b5 := fun j => G1.out.2.1.cell j
 have a6 := fun j => G1.out.1.cell j
 have b6 := fun j => G1.out.2.1.cell j
 go_wp2_with fail
 clear a0 b0 a1 b1 a2 b2 a3 b3 a4 b4 a5 b5 a6 b6
 refine (HQ.out V1 G1.out.2.2.1).mono ?_
 rintro e V2 ⟨rfl, hb⟩
 have G2 := zH (zJ (G1.out.1.below hb (by have := G1.out.2.2.2; omega) : Blk V2 w.heap.size 38 #[.string c.hash, .int .i64 c.nonce, .int .i64 c.time, .int .i64 c.next, .int .i64 c.plan, .int .i64 c.err, .slice pa lp pc, .string c.sig]) (zJ (G1.out.2.1.below hb G1.out.2.2.2) (zJ (G1.out.2.2.1.trans (hb.mono G1.out.2.2.1.size)) (Nat.lt_of_lt_of_le G1.out.2.2.2 hb.size))))
 clear hb G1
 have ca := fun j => G2.out.1.cell j
 have cb := fun j => G2.out.2.1.cell j
 go_wp2_with fail
 go_ret
 exact ⟨rfl, G2.out.2.2.1⟩
theorem eqGot_same (c : Gt) (a b : Value) (w : World) (hl : wtAS c.rp.ans <= 1000000000) (ha : GtAt w a c) (hb : GtAt w b c) :
  Calls Try.prog 41 #[a, b] w fun e w' => e = .returned (.bool true) /\ Below w.heap.size w w' := by
 obtain ⟨pv, rfl, h1⟩ := ha
 obtain ⟨pu, rfl, k1⟩ := hb
 obtain ⟨lp, hlp⟩ := zE (c.rp.ans.length)
 obtain ⟨pa, pc, hpa⟩ := h1.shape
 obtain ⟨pb, qc, hpb⟩ := k1.shape
 rw [hlp] at hpa hpb
 subst hpa hpb
 have HQ : Hid (∀ W, Below w.heap.size w W -> Calls Try.prog 14 #[.agg #[.string c.rp.hash, .int .i64 c.rp.nonce, .int .i64 c.rp.time, .int .i64 c.rp.next, .int .i64 c.rp.plan, .int .i64 c.rp.err, .slice pa lp pc, .string c.rp.sig], .agg #[.string c.rp.hash, .int .i64 c.rp.nonce, .int .i64 c.rp.time, .int .i64 c.rp.next, .int .i64 c.rp.plan, .int .i64 c.rp.err, .slice pb lp qc, .string c.rp.sig]] W (fun e w' => e = .returned (.bool true) /\ Below W.heap.size W w')) := fun W hb => eqReply_sameO c.rp _ _ W hl ⟨_, rfl, h1.below hb⟩ ⟨_, rfl, k1.below hb⟩
 clear hlp hl h1 k1
 unfold gtV
 go_enter Try.func41, Try.ntmps41
 go_upto_region 1 with fail
 obtain ⟨V1, hV⟩ : ∃ V, V = (w.alloc (Obj.cells #[.int .i64 c.id, .string c.rp.hash, .int .i64 c.rp.nonce, .int .i64 c.rp.time, .int .i64 c.rp.next, .int .i64 c.rp.plan, .int .i64 c.rp.err, .slice pa lp pc, .string c.rp.sig] 55)).alloc (Obj.cells #[.int .i64 c.id, .string c.rp.hash, .int .i64 c.rp.nonce, .int .i64 c.rp.time, .int .i64 c.rp.next, .int .i64 c.rp.plan, .int .i64 c.rp.err, .slice pb lp qc, .string c.rp.sig] 55) := ⟨_, rfl⟩
 rw [<- hV]
 have G1 : Hid (Blk V1 w.heap.size 55 #[.int .i64 c.id, .string c.rp.hash, .int .i64 c.rp.nonce, .int .i64 c.rp.time, .int .i64 c.rp.next, .int .i64 c.rp.plan, .int .i64 c.rp.err, .slice pa lp pc, .string c.rp.sig] /\ Blk V1 (w.heap.size + 1) 55 #[.int .i64 c.id, .string c.rp.hash, .int .i64 c.rp.nonce, .int .i64 c.rp.time, .int .i64 c.rp.next, .int .i64 c.rp.plan, .int .i64 c.rp.err, .slice pb lp qc, .string c.rp.sig] /\ Below w.heap.size w V1) := by
  have e0 : (w.alloc (Obj.cells #[.int .i64 c.id, .string c.rp.hash, .int .i64 c.rp.nonce, .int .i64 c.rp.time, .int .i64 c.rp.next, .int .i64 c.rp.plan, .int .i64 c.rp.err, .slice pa lp pc, .string c.rp.sig] 55)).heap.size = w.heap.size + 1 := Array.size_push _
  have h := Blk.new (w.alloc (Obj.cells #[.int .i64 c.id, .string c.rp.hash, .int .i64 c.rp.nonce, .int .i64 c.rp.time, .int .i64 c.rp.next, .int .i64 c.rp.plan, .int .i64 c.rp.err, .slice pa lp pc, .string c.rp.sig] 55)) 55 #[.int .i64 c.id, .string c.rp.hash, .int .i64 c.rp.nonce, .int .i64 c.rp.time, .int .i64 c.rp.next, .int .i64 c.rp.plan, .int .i64 c.rp.err, .slice pb lp qc, .string c.rp.sig]
  rw [e0] at h
  rw [hV]
  exact ⟨(Blk.new w _ _).alloc _, h, ((Below.refl _ _).alloc (Nat.le_refl _) _).alloc (by rw [e0]; omega) _⟩
 clear hV
 have a0 := fun j => G1.out.1.cell j
 have b0 := fun j => G1.out.2.1.cell j
 have a1 := fun j => G1.out.1.cell j
 have b1 := fun j => G1.out.2.1.cell j
 have a2 := fun j => G1.out.1.cell j
 have b2 := fun j => G1.out.2.1.cell j
 have a3 := fun j => G1.out.1.cell j
 have b3 := fun j => G1.out.2.1.cell j
 have a4 := fun j => G1.out.1.cell j
 have b4 := fun j => G1.out.2.1.cell j
 have a5 := fun j => G1.out.1.cell j
 have b5 := fun j => G1.out.2.1.cell j
 have a6 := fun j => G1.out.1.cell j
 have b6 := fun j => G1.out.2.1.cell j
 have a7 := fun j => G1.out.1.cell j
 have b7 := fun j => G1.out.2.1.cell j
 have a8 := fun j => G1.out.1.cell j
 have b8 := fun j => G1.out.2.1.cell j
 go_wp2_with fail
 clear a0 b0 a1 b1 a2 b2 a3 b3 a4 b4 a5 b5 a6 b6 a7 b7 a8 b8
 refine (HQ.out V1 G1.out.2.2).mono ?_
 rintro e V3 ⟨rfl, hb⟩
 have G3 : Hid (Below w.heap.size w V3) := G1.out.2.2.trans (hb.mono G1.out.2.2.size)
 clear hb G1
 go_wp2_with fail
 go_ret
 exact ⟨rfl, G3.out⟩
theorem eqGotS_same (l : List Gt) (a b : Value) (w : World) (hl : wtGtS l <= 1000000000) (ha : AtX gtW w a l) (hb : AtX gtW w b l) :
  Calls Try.prog 19 #[a, b] w fun e w' => e = .returned (.bool true) /\ Below w.heap.size w w' := by
 obtain ⟨ax, cx, hv⟩ := ha.shape
 obtain ⟨ay, cy, hu⟩ := hb.shape
 obtain ⟨len, hlen⟩ := zE (l.length)
 rw [hlen] at hv hu
 subst hv hu
 have hl20 : len <= 1000000000 := by unfold wtGtS at hl; omega
 have HX : Hid (AtX gtW w (.slice ax len cx) l /\ AtX gtW w (.slice ay len cy) l /\ l.length = len /\ wtGtS l <= 1000000000) := ⟨ha, hb, hlen, hl⟩
 clear ha hb hlen hl
 go_enter Try.func19, Try.ntmps19
 go_wp2_with fail
 go_loopw [5] (fun iv wr => ∃ k : Nat, k <= len /\ iv = .int .i64 k /\ Hid (Below w.heap.size w wr)) (fun iv _ => len - (intOf iv).toNat)
 case atStart => exact ⟨0, Nat.zero_le _, rfl, Below.refl _ _⟩
 case round =>
  obtain ⟨k, hk, rfl, HB⟩ := hrel
  by_cases hkn : k < len
  ·have hkl : k < l.length := by rw [HX.out.2.2.1]; exact hkn
   obtain ⟨g1, o1, u1, hax, hg1, hP1, hs1, hc1⟩ := HX.out.1.get hkl
   obtain ⟨g2, o2, u2, hay, hg2, hP2, hs2, hc2⟩ := HX.out.2.1.get hkl
   subst hax hay
   obtain ⟨c, hc⟩ := zE (l[k])
   have hBd : Below w.heap.size w wr.drew := HB.out.drew
   have hrl : wtAS c.rp.ans <= 1000000000 := by
    have h1 := wtGtS_mem (List.getElem_mem hkl)
    rw [hc] at h1
    exact wtR_ans (Nat.le_trans h1 HX.out.2.2.2)
   have HR := eqGot_same c u1 u2 wr.drew hrl (by rw [<- hc]; exact GtAt.below hP1 hBd) (by rw [<- hc]; exact GtAt.below hP2 hBd)
   obtain ⟨p1, q1, hu1⟩ := GtAt.shape hP1
   obtain ⟨p2, q2, hu2⟩ := GtAt.shape hP2
   rw [hc] at hu1 hu2
   subst hu1 hu2
   have hf1 : ∀ (W : World) (i : Nat) (x : Value), Below w.heap.size w W -> (gtV c (.slice p1 c.rp.ans.length q1)).cells[i]? = some x -> W.cell? ⟨g1, o1 + k * 9 + i, none⟩ = some x := fun W i x hW hx => (hW.cell (p := ⟨g1, o1 + k * 9 + i, none⟩) hg1).trans (hc1 i x hx)
   have hf2 : ∀ (W : World) (i : Nat) (x : Value), Below w.heap.size w W -> (gtV c (.slice p2 c.rp.ans.length q2)).cells[i]? = some x -> W.cell? ⟨g2, o2 + k * 9 + i, none⟩ = some x := fun W i x hW hx => (hW.cell (p := ⟨g2, o2 + k * 9 + i, none⟩) hg2).trans (hc2 i x hx)
   have HS : Hid (∀ W, Below w.heap.size w W -> (W.cell? ⟨g1, o1 + k * 9, none⟩ = some (.int .i64 c.id) /\ W.cell? ⟨g1, o1 + k * 9 + 1, none⟩ = some (.string c.rp.hash) /\ W.cell? ⟨g1, o1 + k * 9 + 2, none⟩ = some (.int .i64 c.rp.nonce) /\ W.cell? ⟨g1, o1 + k * 9 + 3, none⟩ = some (.int .i64 c.rp.time) /\ W.cell? ⟨g1, o1 + k * 9 + 4, none⟩ = some (.int .i64 c.rp.next) /\ W.cell? ⟨g1, o1 + k * 9 + 5, none⟩ = some (.int .i64 c.rp.plan) /\ W.cell? ⟨g1, o1 + k * 9 + 6, none⟩ = some (.int .i64 c.rp.err) /\ W.cell? ⟨g1, o1 + k * 9 + 7, none⟩ = some (.slice p1 c.rp.ans.length q1) /\ W.cell? ⟨g1, o1 + k * 9 + 8, none⟩ = some (.string c.rp.sig)) /\ (W.cell? ⟨g2, o2 + k * 9, none⟩ = some (.int .i64 c.id) /\ W.cell? ⟨g2, o2 + k * 9 + 1, none⟩ = some (.string c.rp.hash) /\ W.cell? ⟨g2, o2 + k * 9 + 2, none⟩ = some (.int .i64 c.rp.nonce) /\ W.cell? ⟨g2, o2 + k * 9 + 3, none⟩ = some (.int .i64 c.rp.time) /\ W.cell? ⟨g2, o2 + k * 9 + 4, none⟩ = some (.int .i64 c.rp.next) /\ W.cell? ⟨g2, o2 + k * 9 + 5, none⟩ = some (.int .i64 c.rp.plan) /\ W.cell? ⟨g2, o2 + k * 9 + 6, none⟩ = some (.int .i64 c.rp.err) /\ W.cell? ⟨g2, o2 + k * 9 + 7, none⟩ = some (.slice p2 c.rp.ans.length q2) /\ W.cell? ⟨g2, o2 + k * 9 + 8, none⟩ = some (.string c.rp.sig))) := fun W hW =>
    ⟨⟨hf1 W 0 _ hW rfl, hf1 W 1 _ hW rfl, hf1 W 2 _ hW rfl, hf1 W 3 _ hW rfl, hf1 W 4 _ hW rfl, hf1 W 5 _ hW rfl, hf1 W 6 _ hW rfl, hf1 W 7 _ hW rfl, hf1 W 8 _ hW rfl⟩, hf2 W 0 _ hW rfl, hf2 W 1 _ hW rfl, hf2 W 2 _ hW rfl, hf2 W 3 _ hW rfl, hf2 W 4 _ hW rfl, hf2 W 5 _ hW rfl, hf2 W 6 _ hW rfl, hf2 W 7 _ hW rfl, hf2 W 8 _ hW rfl⟩
   have hki : (k : Int) < (len : Int) := by omega
   have hk0 : (0 : Int) <= (k : Int) := by omega
   unfold gtV at HR
   clear hf1 hf2 hc1 hc2 hP1 hP2 hs1 hs2 hg1 hg2 hc hkl
   go_upto_region 6 with fail
   refine wp_region_held_drew (S := fun W => Below w.heap.size w W) (by kernel_rfl) hBd (fun hHeld => ?_)
   clear hBd
   have HBW : Hid (Below w.heap.size w wr.drew) := hHeld
   refine zT 0 17 ?_ rfl (by rfl) ?_ hHeld ?_
   rotate_left
   ·intro W hSw
    go_simp
    try with_reducible rfl
   try simp only [Act.put, zA, zB, zC]
   refine zT 1 18 ?_ rfl (by rfl) ?_ hHeld ?_
   rotate_left
   ·intro W hSw
    go_simp
    try with_reducible rfl
   try simp only [Act.put, zA, zB, zC]
   refine zT 2 19 ?_ rfl (by rfl) ?_ hHeld ?_
   rotate_left
   ·intro W hSw
    go_simp
    try with_reducible rfl
   try simp only [Act.put, zA, zB, zC]
   refine zT 3 20 ?_ rfl (by rfl) ?_ hHeld ?_
   rotate_left
   ·intro W hSw
    obtain ⟨⟨e0, e1, e2, e3, e4, e5, e6, e7, e8⟩, -⟩ := HS.out W hSw
    go_simp
    try with_reducible rfl
   try simp only [Act.put, zA, zB, zC]
   refine zT 4 21 ?_ rfl (by rfl) ?_ hHeld ?_
   rotate_left
   ·intro W hSw
    go_simp
    try with_reducible rfl
   try simp only [Act.put, zA, zB, zC]
   refine zT 5 22 ?_ rfl (by rfl) ?_ hHeld ?_
   rotate_left
   ·intro W hSw
    go_simp
    try with_reducible rfl
   try simp only [Act.put, zA, zB, zC]
   refine zT 6 23 ?_ rfl (by rfl) ?_ hHeld ?_
   rotate_left
   ·intro W hSw
    go_simp
    try with_reducible rfl
   try simp only [Act.put, zA, zB, zC]
   refine zT 7 24 ?_ rfl (by rfl) ?_ hHeld ?_
   rotate_left
   ·intro W hSw
    obtain ⟨-, e0, e1, e2, e3, e4, e5, e6, e7, e8⟩ := HS.out W hSw
    go_simp
    try with_reducible rfl
   try simp only [Act.put, zA, zB, zC]
   refine wpAnyH_ready (rs := [8]) (by kernel_rfl) (by simp) ?_
   refine AllReadyH.cons (o := ⟨some 25, _, _, _, _, _⟩) rfl (fun K hK => ?_) AllReadyH.nil
   go_simp
   refine HR.mono ?_
   rintro e w3 ⟨rfl, hb3⟩
   have HB3 : Hid (Below w.heap.size w w3) := HBW.out.trans (hb3.mono HBW.out.size)
   clear hb3 HR HBW
   refine hK.out _ _ HB3.out (fun hHeld => ?_)
   clear hK K
   try simp only [Act.put, zA, zB, zC]
   refine zT 9 26 ?_ rfl (by rfl) ?_ hHeld ?_
   rotate_left
   ·intro W hSw
    go_simp
    try with_reducible rfl
   try simp only [Act.put, zA, zB, zC]
   refine wpAnyH_done (by kernel_rfl) ?_ _
   clear HS
   go_wp2_with fail
   go_roundw
   case rel => exact ⟨k + 1, by omega, by go_num, HB3.out⟩
   case measure => simp [intOf]; omega
  ·have hkl : k = len := by omega
   subst hkl
   go_wp2
   go_ret
   exact ⟨rfl, HB.out⟩
end Go.Proofs.Ytagmnlmfoanelaa
namespace Go.Proofs.Ytagmnlmfoanelaa
open Go.RowKit Go.ChangeShapes
set_option linter.unusedVariables false
set_option linter.unusedSimpArgs false
theorem eqClient_wide (s : Cn) (a b : Value) (w : World) (hl : s.waits.length <= 1000000000 /\ wtGtS s.gots <= 1000000000 /\ s.late.length <= 1000000000) (ha : CnAt w a s) (hb : CnAt w b s) :
  Calls Try.prog 7 #[a, b] w fun e w' => e = .returned (.bool true) /\ Below w.heap.size w w' := by
 obtain ⟨a1, c1, a2, c2, a3, c3, rfl⟩ := ha.shape
 obtain ⟨b1, d1, b2, d2, b3, d3, rfl⟩ := hb.shape
 obtain ⟨k1, k2, k3⟩ := ha.rows
 obtain ⟨j1, j2, j3⟩ := hb.rows
 obtain ⟨l1, l2, l3⟩ := hl
 obtain ⟨n1, e1⟩ := zE (s.waits.length)
 obtain ⟨n2, e2⟩ := zE (s.gots.length)
 obtain ⟨n3, e3⟩ := zE (s.late.length)
 rw [e1, e2, e3]
 rw [e1] at k1 j1
 rw [e2] at k2 j2
 rw [e3] at k3 j3
 have Q1 : Hid (∀ W, Below w.heap.size w W -> Calls Try.prog 18 #[.slice a1 n1 c1, .slice b1 n1 d1] W (fun e w' => e = .returned (.bool true) /\ Below W.heap.size W w')) := fun W h => eqWaitS_same s.waits _ _ W l1 (k1.below h) (j1.below h)
 have Q2 : Hid (∀ W, Below w.heap.size w W -> Calls Try.prog 19 #[.slice a2 n2 c2, .slice b2 n2 d2] W (fun e w' => e = .returned (.bool true) /\ Below W.heap.size W w')) := fun W h => eqGotS_same s.gots _ _ W l2 (k2.below h) (j2.below h)
 have Q3 : Hid (∀ W, Below w.heap.size w W -> Calls Try.prog 20 #[.slice a3 n3 c3, .slice b3 n3 d3] W (fun e w' => e = .returned (.bool true) /\ Below W.heap.size W w')) := fun W h => eqIntS_same _ _ s.late W l3 (k3.below h) (j3.below h)
 clear ha hb k1 j1 l1 k2 j2 l2 k3 j3 l3 e1 e2 e3
 go_enter Try.func7, Try.ntmps7
 go_wp2_with fail
 obtain ⟨W2, hW2⟩ : ∃ W, W = ((w.alloc (Obj.cells #[.string s.key, .int .i64 s.now, .slice a1 n1 c1, .slice a2 n2 c2, .slice a3 n3 c3] 26)).alloc (Obj.cells #[.string s.key, .int .i64 s.now, .slice b1 n1 d1, .slice b2 n2 d2, .slice b3 n3 d3] 26)) := ⟨_, rfl⟩
 rw [<- hW2]
 have e0 : (w.alloc (Obj.cells #[.string s.key, .int .i64 s.now, .slice a1 n1 c1, .slice a2 n2 c2, .slice a3 n3 c3] 26)).heap.size = w.heap.size + 1 := Array.size_push _
 have HB : Hid (Below w.heap.size w W2) := by rw [hW2]; exact ((Below.refl _ _).alloc (Nat.le_refl _) _).alloc (by rw [e0]; omega) _
 have HA : Hid (Blk W2 w.heap.size 26 #[.string s.key, .int .i64 s.now, .slice a1 n1 c1, .slice a2 n2 c2, .slice a3 n3 c3]) := by rw [hW2]; exact (Blk.new w _ _).alloc _
 have HC : Hid (Blk W2 (w.heap.size + 1) 26 #[.string s.key, .int .i64 s.now, .slice b1 n1 d1, .slice b2 n2 d2, .slice b3 n3 d3]) := by
  have h := Blk.new (w.alloc (Obj.cells #[.string s.key, .int .i64 s.now, .slice a1 n1 c1, .slice a2 n2 c2, .slice a3 n3 c3] 26)) 26 #[.string s.key, .int .i64 s.now, .slice b1 n1 d1, .slice b2 n2 d2, .slice b3 n3 d3]
  rw [e0] at h
  rw [hW2]
  exact h
 have O0 : Hid (w.heap.size + 1 + 1 <= W2.heap.size) := by show _ <= _; rw [hW2, size_alloc, e0]; omega
 clear hW2 e0
 refine (Q1.out W2 HB.out).mono ?_
 rintro e w1 ⟨rfl, hb⟩
 replace HB := zH (Below.on HB.out hb HB.out.size)
 replace HA := zH (HA.out.below hb HA.out.lt)
 replace HC := zH (HC.out.below hb HC.out.lt)
 have O1 : Hid (W2.heap.size <= w1.heap.size) := hb.size
 clear hb
 have c0 := fun j => HA.out.cell j
 have d0 := fun j => HC.out.cell j
 go_wp2_with fail
 clear c0 d0
 refine (Q2.out w1 HB.out).mono ?_
 rintro e w2 ⟨rfl, hb⟩
 replace HB := zH (Below.on HB.out hb HB.out.size)
 replace HA := zH (HA.out.below hb HA.out.lt)
 replace HC := zH (HC.out.below hb HC.out.lt)
 have O2 : Hid (w1.heap.size <= w2.heap.size) := hb.size
 clear hb
 have c0 := fun j => HA.out.cell j
 have d0 := fun j => HC.out.cell j
 go_wp2_with fail
 clear c0 d0
 refine (Q3.out w2 HB.out).mono ?_
 rintro e w3 ⟨rfl, hb⟩
 replace HB := zH (Below.on HB.out hb HB.out.size)
 replace HA := zH (HA.out.below hb HA.out.lt)
 replace HC := zH (HC.out.below hb HC.out.lt)
 have O3 : Hid (w2.heap.size <= w3.heap.size) := hb.size
 clear hb
 go_wp2_with fail
 go_ret
 exact ⟨rfl, HB.out⟩
end Go.Proofs.Ytagmnlmfoanelaa
