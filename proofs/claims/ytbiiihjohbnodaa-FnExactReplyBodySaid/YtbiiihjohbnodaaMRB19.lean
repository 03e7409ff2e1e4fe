/-
  Texts of the proof.
-/
import Derived.Deep.RegionHeld3
import Derived.Test.YtbiiihjohbnodaaMRB18
set_option maxRecDepth 100000
set_option maxHeartbeats 25600000
namespace Go.Proofs.Ytbiiihjohbnodaa
open Go.RowKit
set_option linter.unusedVariables false
theorem walkRB (RB : Rp -> ByteArray) (SP0 : ∀ (c : Rp) (v : Value) (w : World), wtR c <= 1048576 -> WdRp c -> RpAt w v c -> Calls Try.prog 27 #[v] w fun e w' => e = .returned (.string (RB c)) /\ Below w.heap.size w w') (IM0 : ∀ (c : Rp) (v : Value) (w : World), wtR c <= 1048576 -> WdRp c -> RpAt w v c -> Calls Try.prog 28 #[v] w fun e w' => e = .returned (.string (RB c)) /\ Below w.heap.size w w') (a : Array Value) (w : World) (h : ∃ c, ArgRp w.heap.size w (.agg a) c /\ WdRp c) : Calls Try.prog 7 #[.agg a] w fun e w' => e = .returned (.bool true) /\ Below w.heap.size w w' := by
 obtain ⟨c, hx, hw⟩ := h
 obtain ⟨pa, pc, hv, -⟩ := id hx
 injection hv with hv
 subst hv
 obtain ⟨W1, hW1⟩ : ∃ W, W = w.alloc (Obj.cells #[.string c.hash, .int .i64 c.nonce, .int .i64 c.time, .int .i64 c.next, .int .i64 c.plan, .int .i64 c.err, .slice pa c.ans.length pc, .string c.sig] 39) := ⟨_, rfl⟩
 have hB1 : Below w.heap.size w W1 /\ Blk W1 w.heap.size 39 #[.string c.hash, .int .i64 c.nonce, .int .i64 c.time, .int .i64 c.next, .int .i64 c.plan, .int .i64 c.err, .slice pa c.ans.length pc, .string c.sig] := by rw [hW1]; exact ⟨(Below.refl _ _).alloc (Nat.le_refl _) _, Blk.new w _ _⟩
 have HX : Hid (ArgRp w.heap.size w (.agg #[.string c.hash, .int .i64 c.nonce, .int .i64 c.time, .int .i64 c.next, .int .i64 c.plan, .int .i64 c.err, .slice pa c.ans.length pc, .string c.sig]) c) := hx
 have HWd : Hid (WdRp c) := hw
 have E := szReply_any c _ 1048576 W1 hw (by decide) (by decide) ((hx.below hB1.1).mono hB1.1.size)
 have HA : Hid (Below w.heap.size w W1 /\ Blk W1 w.heap.size 39 #[.string c.hash, .int .i64 c.nonce, .int .i64 c.time, .int .i64 c.next, .int .i64 c.plan, .int .i64 c.err, .slice pa c.ans.length pc, .string c.sig]) := hB1
 clear hx hw hB1
 by_cases hz : wtR c <= 1048576
 rotate_left
 ·rw [szRp_no hz] at E
  clear hz
  go_enter Try.func7, Try.ntmps7
  go_wp2_with fail
  rw [<- hW1]
  clear hW1
  refine E.mono ?_
  rintro e w2 ⟨rfl, hb2⟩
  have HA2 : Hid (Below w.heap.size w w2) := HA.out.1.trans (hb2.mono HA.out.1.size)
  clear E HA hb2
  go_wp2_with fail
  go_ret
  exact ⟨rfl, HA2.out⟩
 ·rw [szRp_yes hz] at E
  have HZ : Hid (wtR c <= 1048576) := hz
  obtain ⟨z, hze⟩ : ∃ z : Int, z = 1048576 - (wtR c : Int) := ⟨_, rfl⟩
  have hz0 : ¬ z < 0 := by omega
  rw [<- hze] at E
  clear hze hz
  go_enter Try.func7, Try.ntmps7
  go_wp2_with fail
  rw [<- hW1]
  clear hW1
  refine E.mono ?_
  rintro e w2 ⟨rfl, hb2⟩
  have HA2 : Hid (Below w.heap.size w w2 /\ Blk w2 w.heap.size 39 #[.string c.hash, .int .i64 c.nonce, .int .i64 c.time, .int .i64 c.next, .int .i64 c.plan, .int .i64 c.err, .slice pa c.ans.length pc, .string c.sig]) := ⟨HA.out.1.trans (hb2.mono HA.out.1.size), HA.out.2.below hb2 HA.out.2.lt⟩
  have E2 := toReply_any c _ w.heap.size w2 (wtR_ans HZ.out) HA2.out.1.size (HX.out.below HA2.out.1)
  clear E HA hb2
  have c0 : w2.cell? ⟨w.heap.size, 0, none⟩ = some (.string c.hash) := HA2.out.2.cell 0
  have c1 : w2.cell? ⟨w.heap.size, 1, none⟩ = some (.int .i64 c.nonce) := HA2.out.2.cell 1
  have c2 : w2.cell? ⟨w.heap.size, 2, none⟩ = some (.int .i64 c.time) := HA2.out.2.cell 2
  have c3 : w2.cell? ⟨w.heap.size, 3, none⟩ = some (.int .i64 c.next) := HA2.out.2.cell 3
  have c4 : w2.cell? ⟨w.heap.size, 4, none⟩ = some (.int .i64 c.plan) := HA2.out.2.cell 4
  have c5 : w2.cell? ⟨w.heap.size, 5, none⟩ = some (.int .i64 c.err) := HA2.out.2.cell 5
  have c6 : w2.cell? ⟨w.heap.size, 6, none⟩ = some (.slice pa c.ans.length pc) := HA2.out.2.cell 6
  have c7 : w2.cell? ⟨w.heap.size, 7, none⟩ = some (.string c.sig) := HA2.out.2.cell 7
  go_wp2_with fail
  clear c0 c1 c2 c3 c4 c5 c6 c7
  refine E2.mono ?_
  rintro e w3 ⟨u3, fp_u3, rfl, ho3, hb3⟩
  have HA3 : Hid (Below w.heap.size w w3 /\ Blk w3 w.heap.size 39 #[.string c.hash, .int .i64 c.nonce, .int .i64 c.time, .int .i64 c.next, .int .i64 c.plan, .int .i64 c.err, .slice pa c.ans.length pc, .string c.sig]) := ⟨HA2.out.1.trans (hb3.mono HA2.out.1.size), HA2.out.2.below hb3 HA2.out.2.lt⟩
  have E3 := SP0 c u3 w3 HZ.out HWd.out ho3.at
  obtain ⟨P0, hP0⟩ := zE (RB c)
  have HP : Hid (RB c = P0) := hP0
  rw [hP0] at E3
  clear HA2 E2 ho3 hb3 hP0
  go_wp2_with fail
  refine E3.mono ?_
  rintro e w4 ⟨rfl, hb4⟩
  have HA4 : Hid (Below w.heap.size w w4 /\ Blk w4 w.heap.size 39 #[.string c.hash, .int .i64 c.nonce, .int .i64 c.time, .int .i64 c.next, .int .i64 c.plan, .int .i64 c.err, .slice pa c.ans.length pc, .string c.sig]) := ⟨HA3.out.1.trans (hb4.mono HA3.out.1.size), HA3.out.2.below hb4 HA3.out.2.lt⟩
  have E4 := toReply_any c _ w.heap.size w4 (wtR_ans HZ.out) HA4.out.1.size (HX.out.below HA4.out.1)
  clear HA3 E3 hb4
  have c0 : w4.cell? ⟨w.heap.size, 0, none⟩ = some (.string c.hash) := HA4.out.2.cell 0
  have c1 : w4.cell? ⟨w.heap.size, 1, none⟩ = some (.int .i64 c.nonce) := HA4.out.2.cell 1
  have c2 : w4.cell? ⟨w.heap.size, 2, none⟩ = some (.int .i64 c.time) := HA4.out.2.cell 2
  have c3 : w4.cell? ⟨w.heap.size, 3, none⟩ = some (.int .i64 c.next) := HA4.out.2.cell 3
  have c4 : w4.cell? ⟨w.heap.size, 4, none⟩ = some (.int .i64 c.plan) := HA4.out.2.cell 4
  have c5 : w4.cell? ⟨w.heap.size, 5, none⟩ = some (.int .i64 c.err) := HA4.out.2.cell 5
  have c6 : w4.cell? ⟨w.heap.size, 6, none⟩ = some (.slice pa c.ans.length pc) := HA4.out.2.cell 6
  have c7 : w4.cell? ⟨w.heap.size, 7, none⟩ = some (.string c.sig) := HA4.out.2.cell 7
  go_wp2_with fail
  clear c0 c1 c2 c3 c4 c5 c6 c7
  refine E4.mono ?_
  rintro e w5 ⟨u5, fp_u5, rfl, ho5, hb5⟩
  have HA5 : Hid (Below w.heap.size w w5 /\ Blk w5 w.heap.size 39 #[.string c.hash, .int .i64 c.nonce, .int .i64 c.time, .int .i64 c.next, .int .i64 c.plan, .int .i64 c.err, .slice pa c.ans.length pc, .string c.sig]) := ⟨HA4.out.1.trans (hb5.mono HA4.out.1.size), HA4.out.2.below hb5 HA4.out.2.lt⟩
  obtain ⟨p5, q5, hu5⟩ := RpAt.shape ho5.at
  have HO5 : Hid (RpAt w5 u5 c) := ho5.at
  clear HA4 E4 ho5 hb5
  subst hu5
  unfold rpV at HO5 |-
  go_wp2_with fail
  obtain ⟨W6, hW6⟩ : ∃ W, W = w5.alloc (Obj.cells #[.string c.hash, .int .i64 c.nonce, .int .i64 c.time, .int .i64 c.next, .int .i64 c.plan, .int .i64 c.err, .slice p5 c.ans.length q5, .string c.sig] 44) := ⟨_, rfl⟩
  rw [<- hW6]
  have hb6 : Below w5.heap.size w5 W6 /\ Blk W6 w5.heap.size 44 #[.string c.hash, .int .i64 c.nonce, .int .i64 c.time, .int .i64 c.next, .int .i64 c.plan, .int .i64 c.err, .slice p5 c.ans.length q5, .string c.sig] := by rw [hW6]; exact ⟨(Below.refl _ _).alloc (Nat.le_refl _) _, Blk.new w5 _ _⟩
  have HK6 : Hid (KRp w W6 w.heap.size w5.heap.size 39 44 #[.string c.hash, .int .i64 c.nonce, .int .i64 c.time, .int .i64 c.next, .int .i64 c.plan, .int .i64 c.err, .slice pa c.ans.length pc, .string c.sig] #[.string c.hash, .int .i64 c.nonce, .int .i64 c.time, .int .i64 c.next, .int .i64 c.plan, .int .i64 c.err, .slice p5 c.ans.length q5, .string c.sig] c) := ⟨HA5.out.1.trans (hb6.1.mono HA5.out.1.size), HA5.out.2.below hb6.1 HA5.out.2.lt, hb6.2, HO5.out.below hb6.1⟩
  have E6 := IM0 c _ W6 HZ.out HWd.out HK6.out.2.2.2
  rw [HP.out] at E6
  clear hb6 hW6 HA5 HO5
  refine E6.mono ?_
  rintro e w7 ⟨rfl, hb7⟩
  have HK7 : Hid (KRp w w7 w.heap.size w5.heap.size 39 44 #[.string c.hash, .int .i64 c.nonce, .int .i64 c.time, .int .i64 c.next, .int .i64 c.plan, .int .i64 c.err, .slice pa c.ans.length pc, .string c.sig] #[.string c.hash, .int .i64 c.nonce, .int .i64 c.time, .int .i64 c.next, .int .i64 c.plan, .int .i64 c.err, .slice p5 c.ans.length q5, .string c.sig] c) := HK6.out.below hb7
  clear HK6 E6 hb7
  go_wp2_with fail
  refine wp_region_held_drew (S := fun W => KRp w W w.heap.size w5.heap.size 39 44 #[.string c.hash, .int .i64 c.nonce, .int .i64 c.time, .int .i64 c.next, .int .i64 c.plan, .int .i64 c.err, .slice pa c.ans.length pc, .string c.sig] #[.string c.hash, .int .i64 c.nonce, .int .i64 c.time, .int .i64 c.next, .int .i64 c.plan, .int .i64 c.err, .slice p5 c.ans.length q5, .string c.sig] c) (by kernel_rfl) (HK7.out.below ((Below.refl _ _).drew)) (fun hHeld => ?_)
  refine zT 0 22 ?_ rfl (by rfl) ?_ hHeld ?_
  rotate_left
  ·intro W hSw
   have l0 : W.cell? ⟨w5.heap.size, 0, none⟩ = some (.string c.hash) := hSw.2.2.1.cell 0
   have l1 : W.cell? ⟨w5.heap.size, 1, none⟩ = some (.int .i64 c.nonce) := hSw.2.2.1.cell 1
   have l2 : W.cell? ⟨w5.heap.size, 2, none⟩ = some (.int .i64 c.time) := hSw.2.2.1.cell 2
   have l3 : W.cell? ⟨w5.heap.size, 3, none⟩ = some (.int .i64 c.next) := hSw.2.2.1.cell 3
   have l4 : W.cell? ⟨w5.heap.size, 4, none⟩ = some (.int .i64 c.plan) := hSw.2.2.1.cell 4
   have l5 : W.cell? ⟨w5.heap.size, 5, none⟩ = some (.int .i64 c.err) := hSw.2.2.1.cell 5
   have l6 : W.cell? ⟨w5.heap.size, 6, none⟩ = some (.slice p5 c.ans.length q5) := hSw.2.2.1.cell 6
   have l7 : W.cell? ⟨w5.heap.size, 7, none⟩ = some (.string c.sig) := hSw.2.2.1.cell 7
   go_simp
   try with_reducible rfl
  try simp only [Act.put, zA, zB, zC]
  refine zT 1 23 ?_ rfl (by rfl) ?_ hHeld ?_
  rotate_left
  ·intro W hSw
   have l0 : W.cell? ⟨w.heap.size, 0, none⟩ = some (.string c.hash) := hSw.2.1.cell 0
   have l1 : W.cell? ⟨w.heap.size, 1, none⟩ = some (.int .i64 c.nonce) := hSw.2.1.cell 1
   have l2 : W.cell? ⟨w.heap.size, 2, none⟩ = some (.int .i64 c.time) := hSw.2.1.cell 2
   have l3 : W.cell? ⟨w.heap.size, 3, none⟩ = some (.int .i64 c.next) := hSw.2.1.cell 3
   have l4 : W.cell? ⟨w.heap.size, 4, none⟩ = some (.int .i64 c.plan) := hSw.2.1.cell 4
   have l5 : W.cell? ⟨w.heap.size, 5, none⟩ = some (.int .i64 c.err) := hSw.2.1.cell 5
   have l6 : W.cell? ⟨w.heap.size, 6, none⟩ = some (.slice pa c.ans.length pc) := hSw.2.1.cell 6
   have l7 : W.cell? ⟨w.heap.size, 7, none⟩ = some (.string c.sig) := hSw.2.1.cell 7
   go_simp
   try with_reducible rfl
  try simp only [Act.put, zA, zB, zC]
  refine wpAnyH_ready (rs := [2]) (by kernel_rfl) (by simp) ?_
  refine AllReadyH.cons (o := ⟨some 24, _, _, _, _, _⟩) rfl (fun K hK => ?_) AllReadyH.nil
  go_simp
  refine (toReply_any c _ w.heap.size _ (wtR_ans HZ.out) hHeld.1.size (HX.out.below hHeld.1)).mono ?_
  rintro e v1 ⟨u8, fp_u8, rfl, ho8, hv1⟩
  have hH1 := KRp.below hHeld hv1
  have HO8 : Hid (RpAt v1 u8 c) := ho8.at
  clear ho8
  go_wp2_with fail
  refine hK.out _ _ hH1 (fun hHeld => ?_)
  clear hK K hH1 hv1
  try simp only [Act.put, zA, zB, zC]
  refine wpAnyH_ready (rs := [3]) (by kernel_rfl) (by simp) ?_
  refine AllReadyH.cons (o := ⟨some 25, _, _, _, _, _⟩) rfl (fun K hK => ?_) AllReadyH.nil
  go_simp
  refine (eqReply_same c _ _ _ (by have := wtR_ans HZ.out; omega) hHeld.2.2.2 HO8.out).mono ?_
  rintro e v2 ⟨rfl, hv2⟩
  have hH2 := KRp.below hHeld hv2
  go_wp2_with fail
  refine hK.out _ _ hH2 (fun hHeld => ?_)
  clear hK K hH2 hv2
  try simp only [Act.put, zA, zB, zC]
  refine zT 4 26 ?_ rfl (by rfl) ?_ hHeld ?_
  rotate_left
  ·intro W hSw
   go_simp
   try with_reducible rfl
  try simp only [Act.put, zA, zB, zC]
  refine wpAnyH_done (by kernel_rfl) ?_ _
  have HEND : Hid (Below w.heap.size w _) := hHeld.1
  clear hHeld
  go_wp2_with fail
  go_ret
  exact ⟨rfl, HEND.out⟩
end Go.Proofs.Ytbiiihjohbnodaa
