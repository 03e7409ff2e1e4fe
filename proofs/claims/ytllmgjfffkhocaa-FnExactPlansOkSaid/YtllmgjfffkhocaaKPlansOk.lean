/-
  Texts of the proof.
-/
import Derived.Test.YtllmgjfffkhocaaRows
import Derived.Deep.RegionHeld3
import Derived.Laws.StructEq
import Derived.Laws.Rows
import Derived.Test.YtllmgjfffkhocaaShelf
import Derived.Laws.IdiomStrings
import Derived.Laws.AppendOwnNone
import Derived.Deep.AppendLies
import Derived.Deep.AppendSrc
import Derived.Deep.RegionLaw
import Derived.Deep.WholeRow
import Derived.StillTailTactics
import Derived.Laws.OwnMore
import Derived.OwnWalk
import Derived.Deep.LoopGhost
import Derived.Deep.MidRow
import Derived.Laws.RangeString
import Derived.Laws.RangeAny
import Derived.Lib.SlicesS
import Derived.ProofKit
import Derived.OpenShut
import Derived.ShutString
import Derived.Test.YtllmgjfffkhocaaPO19
set_option maxRecDepth 100000
set_option maxHeartbeats 25600000
namespace Go.Proofs.Ytllmgjfffkhocaa
open Go.ChangeShapes Go.WideShapes Go.ChangeAt Go.RowKit
open Go.ChangeMaps (open_string shut_string)
set_option linter.unusedVariables false
set_option linter.unusedSimpArgs false
theorem ArgO.shape {B : Nat} {w : World} {v : Value} {s : So} (h : ArgO B w v s) : ∃ a1 c1 a2 c2 a3 c3, v = .agg #[.slice a1 s.certs.length c1, .slice a2 s.crls.length c2, .slice a3 s.ancs.length c3] := by
 obtain ⟨a1, c1, a2, c2, a3, c3, hv, _⟩ := h
 exact ⟨a1, c1, a2, c2, a3, c3, hv⟩
theorem walk_FnExactPlansOk (aL : Option Addr) (nL cL : Nat) (b1 : Array Value) (w : World) (h0 : nL <= maxLen /\ ∃ l : List Pn, l.length = nL /\ (∀ c ∈ l, WdPn c) /\ ArgPS w.heap.size w (.slice aL nL cL) l) (h1 : ∃ s, ArgO w.heap.size w (.agg b1) s /\ WdO s) : Calls Try.prog 3 #[.slice aL nL cL, .agg b1] w fun e w' => e = .returned (.bool true) /\ Below w.heap.size w w' := by
 obtain ⟨hm0, l, hn0, wd0, hx0⟩ := h0
 have hl0 : l.length <= 9223372036854775807 := by rw [hn0]; exact Nat.le_trans hm0 (by decide)
 obtain ⟨s, hx1, wd1⟩ := h1
 obtain ⟨pO00, qO00, pO10, qO10, pO20, qO20, hv1⟩ := ArgO.shape hx1
 injection hv1 with hv1
 subst hv1
 obtain ⟨lO0, eO0⟩ := zE (s.certs.length)
 obtain ⟨lO1, eO1⟩ := zE (s.crls.length)
 obtain ⟨lO2, eO2⟩ := zE (s.ancs.length)
 rw [eO0, eO1, eO2] at hx1 |-
 have Z0 : Hid (∀ W, Below w.heap.size w W -> Calls Try.prog 7 #[.slice aL nL cL, .int .i64 1048576] W fun e w' => e = .returned (.int .i64 (if (wtPS l : Int) <= 1048576 then 1048576 - (wtPS l : Int) else -1)) /\ Below W.heap.size W w') := fun W hb => szPlanS_any _ l 1048576 W hl0 wd0 (by omega) (by omega) (hx0.below hb hb.size)
 by_cases hz0 : (wtPS l : Int) <= 1048576
 rotate_left
 ·rw [if_neg hz0] at Z0
  clear hx0 wd0 hm0 hn0 hl0 hx1 wd1 eO0 eO1 eO2 hz0
  go_enter Try.func3, Try.ntmps3
  go_wp2_with fail
  obtain ⟨W0, hW0⟩ : ∃ W, W = (w.alloc (Obj.cells #[.slice pO00 lO0 qO00, .slice pO10 lO1 qO10, .slice pO20 lO2 qO20] 27)) := ⟨_, rfl⟩
  rw [<- hW0]
  have HB : Hid (Below w.heap.size w W0) := by rw [hW0]; exact (Below.refl _ _).alloc (Nat.le_refl _) _
  have HA1 : Hid (Blk W0 (w.heap.size) 27 #[.slice pO00 lO0 qO00, .slice pO10 lO1 qO10, .slice pO20 lO2 qO20]) := by rw [hW0]; exact Blk.new w _ _
  have O0 : Hid (w.heap.size + 1 <= W0.heap.size) := by show _ <= _; rw [hW0, size_alloc]; omega
  clear hW0
  refine (Z0.out W0 HB.out).mono ?_
  rintro e w1 ⟨rfl, hb⟩
  replace HB := zH (Below.on HB.out hb HB.out.size)
  replace HA1 := zH (HA1.out.below hb HA1.out.lt)
  have O1 : Hid (W0.heap.size <= w1.heap.size) := hb.size
  clear hb Z0
  go_wp2_with fail
  go_ret
  exact ⟨rfl, HB.out⟩
 rw [if_pos hz0] at Z0
 obtain ⟨z0, hze0⟩ : ∃ z : Int, z = 1048576 - (wtPS l : Int) := ⟨_, rfl⟩
 have hzn0 : ¬ z0 < 0 := by omega
 rw [<- hze0] at Z0
 have Z1 : Hid (∀ W, Below w.heap.size w W -> Calls Try.prog 8 #[.agg #[.slice pO00 lO0 qO00, .slice pO10 lO1 qO10, .slice pO20 lO2 qO20], .int .i64 z0] W fun e w' => e = .returned (.int .i64 (szO s z0)) /\ Below W.heap.size W w') := fun W hb => szStore_any s _ z0 W wd1 (by omega) (by omega) (hx1.below hb hb.size)
 unfold szO at Z1
 by_cases hz1 : (wtO s : Int) <= z0
 rotate_left
 ·rw [if_neg hz1] at Z1
  clear hx0 wd0 hm0 hn0 hl0 hx1 wd1 eO0 eO1 eO2 hz1 hz0 hze0
  go_enter Try.func3, Try.ntmps3
  go_wp2_with fail
  obtain ⟨W0, hW0⟩ : ∃ W, W = (w.alloc (Obj.cells #[.slice pO00 lO0 qO00, .slice pO10 lO1 qO10, .slice pO20 lO2 qO20] 27)) := ⟨_, rfl⟩
  rw [<- hW0]
  have HB : Hid (Below w.heap.size w W0) := by rw [hW0]; exact (Below.refl _ _).alloc (Nat.le_refl _) _
  have HA1 : Hid (Blk W0 (w.heap.size) 27 #[.slice pO00 lO0 qO00, .slice pO10 lO1 qO10, .slice pO20 lO2 qO20]) := by rw [hW0]; exact Blk.new w _ _
  have O0 : Hid (w.heap.size + 1 <= W0.heap.size) := by show _ <= _; rw [hW0, size_alloc]; omega
  clear hW0
  refine (Z0.out W0 HB.out).mono ?_
  rintro e w1 ⟨rfl, hb⟩
  replace HB := zH (Below.on HB.out hb HB.out.size)
  replace HA1 := zH (HA1.out.below hb HA1.out.lt)
  have O1 : Hid (W0.heap.size <= w1.heap.size) := hb.size
  clear hb Z0
  have c0 : w1.cell? ⟨w.heap.size, 0, none⟩ = some (.slice pO00 lO0 qO00) := HA1.out.cell 0
  have c1 : w1.cell? ⟨w.heap.size, 1, none⟩ = some (.slice pO10 lO1 qO10) := HA1.out.cell 1
  have c2 : w1.cell? ⟨w.heap.size, 2, none⟩ = some (.slice pO20 lO2 qO20) := HA1.out.cell 2
  go_wp2_with fail
  clear c0 c1 c2
  refine (Z1.out w1 HB.out).mono ?_
  rintro e w2 ⟨rfl, hb⟩
  replace HB := zH (Below.on HB.out hb HB.out.size)
  replace HA1 := zH (HA1.out.below hb HA1.out.lt)
  have O2 : Hid (w1.heap.size <= w2.heap.size) := hb.size
  clear hb Z1
  go_wp2_with fail
  go_ret
  exact ⟨rfl, HB.out⟩
 rw [if_pos hz1] at Z1
 obtain ⟨z1, hze1⟩ : ∃ z : Int, z = z0 - (wtO s : Int) := ⟨_, rfl⟩
 have hzn1 : ¬ z1 < 0 := by omega
 rw [<- hze1] at Z1
 have hw0 : wtPS l <= 1048576 := by omega
 have hw1 : wtO s <= 1048576 := by omega
 obtain ⟨B, hB⟩ := zE (plansOk s.ancs.length l)
 have hn3 : s.ancs.length <= 1048576 := by have h1 : wtN s.ancs = s.ancs.length + (s.ancs.map wtA).sum := rfl; unfold wtO at hw1; omega
 have T0 : Hid (∀ W : World, Below w.heap.size w W -> Calls Try.prog 10 #[.slice aL nL cL] W fun e w' => ∃ aLQ cLQ, e = .returned (.slice aLQ nL cLQ) /\ AtS pnKd w' (.slice aLQ nL cLQ) l /\ Below W.heap.size W w') := fun W hb => (toPlanS_any _ l w.heap.size W hw0 hb.size (hx0.below hb (Nat.le_refl _))).mono fun e w' h => by
  obtain ⟨u, fp, rfl, ho, hb⟩ := h
  obtain ⟨xa, xc, hu⟩ := ho.at.shape
  rw [hn0] at hu
  subst hu
  exact ⟨xa, xc, rfl, ho.at, hb⟩
 have Q0 : Hid (∀ (W : World) (u v : Value), AtS pnKd W u l -> AtS pnKd W v l -> Calls Try.prog 13 #[u, v] W fun e w' => e = .returned (.bool true) /\ Below W.heap.size W w') := fun W u v h1 h2 => eqPlanS_same l u v W (by have := hw0; unfold wtPS at this |-; omega) h1 h2
 have T1 : Hid (∀ W : World, Below w.heap.size w W -> Calls Try.prog 11 #[.agg #[.slice pO00 lO0 qO00, .slice pO10 lO1 qO10, .slice pO20 lO2 qO20]] W fun e w' => ∃ pO0Q qO0Q pO1Q qO1Q pO2Q qO2Q fOQ, e = .returned (.agg #[.slice pO0Q lO0 qO0Q, .slice pO1Q lO1 qO1Q, .slice pO2Q lO2 qO2Q]) /\ OwnO w' W.heap.size (.agg #[.slice pO0Q lO0 qO0Q, .slice pO1Q lO1 qO1Q, .slice pO2Q lO2 qO2Q]) s fOQ /\ Below W.heap.size W w') := fun W hb => (toStore_any s _ w.heap.size W hw1 hb.size (hx1.below hb (Nat.le_refl _))).mono fun e w' h => by
  obtain ⟨u, fp, rfl, ho, hb⟩ := h
  obtain ⟨x0, y0, x1, y1, x2, y2, hu⟩ := SoAt.shape ho.at
  rw [eO0, eO1, eO2] at hu
  subst hu
  exact ⟨x0, y0, x1, y1, x2, y2, fp, rfl, ho, hb⟩
 have Q1 : Hid (∀ (W : World) (u v : Value), SoAt W u s -> SoAt W v s -> Calls Try.prog 14 #[u, v] W fun e w' => e = .returned (.bool true) /\ Below W.heap.size W w') := fun W u v h1 h2 => eqStore_same s u v W (by omega) h1 h2
 have SP : Hid (∀ (W : World) (v0 : Value) (b1 : Nat) (v1 : Value) (f1 : List Nat), AtS pnKd W v0 l -> OwnO W b1 v1 s f1 -> Calls Try.prog 9 #[v0, v1] W fun e w' => e = .returned (.bool B) /\ Below W.heap.size W w') := fun W v0 b1 v1 f1 k0 k1 => by rw [<- hB]; obtain ⟨a1, c1, a2, c2, a3, c3, rfl⟩ := k1.at.shape; exact specPlansOk_any l v0 _ _ _ _ _ _ _ _ _ W (Nat.le_trans hw0 (by decide)) (by omega) k0
 have IM : Hid (∀ (W : World) (v0 : Value) (b1 : Nat) (v1 : Value) (f1 : List Nat), AtS pnKd W v0 l -> OwnO W b1 v1 s f1 -> Calls Try.prog 12 #[v0, v1] W fun e w' => e = .returned (.bool B) /\ Below W.heap.size W w') := fun W v0 b1 v1 f1 k0 k1 => by rw [<- hB]; obtain ⟨a1, c1, a2, c2, a3, c3, rfl⟩ := k1.at.shape; exact implPlansOk_any l v0 _ _ _ _ _ _ _ _ _ W (Nat.le_trans hw0 (by decide)) (by omega) k0
 clear hx0 wd0 hm0 hn0 hl0 hx1 wd1 eO0 eO1 eO2 hz0 hze0 hz1 hze1 hw0 hw1 hB hn3
 go_enter Try.func3, Try.ntmps3
 go_wp2_with fail
 obtain ⟨W0, hW0⟩ : ∃ W, W = (w.alloc (Obj.cells #[.slice pO00 lO0 qO00, .slice pO10 lO1 qO10, .slice pO20 lO2 qO20] 27)) := ⟨_, rfl⟩
 rw [<- hW0]
 have HB : Hid (Below w.heap.size w W0) := by rw [hW0]; exact (Below.refl _ _).alloc (Nat.le_refl _) _
 have HA1 : Hid (Blk W0 (w.heap.size) 27 #[.slice pO00 lO0 qO00, .slice pO10 lO1 qO10, .slice pO20 lO2 qO20]) := by rw [hW0]; exact Blk.new w _ _
 have O0 : Hid (w.heap.size + 1 <= W0.heap.size) := by show _ <= _; rw [hW0, size_alloc]; omega
 clear hW0
 refine (Z0.out W0 HB.out).mono ?_
 rintro e w1 ⟨rfl, hb⟩
 replace HB := zH (Below.on HB.out hb HB.out.size)
 replace HA1 := zH (HA1.out.below hb HA1.out.lt)
 have O1 : Hid (W0.heap.size <= w1.heap.size) := hb.size
 clear hb Z0
 have c0 : w1.cell? ⟨w.heap.size, 0, none⟩ = some (.slice pO00 lO0 qO00) := HA1.out.cell 0
 have c1 : w1.cell? ⟨w.heap.size, 1, none⟩ = some (.slice pO10 lO1 qO10) := HA1.out.cell 1
 have c2 : w1.cell? ⟨w.heap.size, 2, none⟩ = some (.slice pO20 lO2 qO20) := HA1.out.cell 2
 go_wp2_with fail
 clear c0 c1 c2
 refine (Z1.out w1 HB.out).mono ?_
 rintro e w2 ⟨rfl, hb⟩
 replace HB := zH (Below.on HB.out hb HB.out.size)
 replace HA1 := zH (HA1.out.below hb HA1.out.lt)
 have O2 : Hid (w1.heap.size <= w2.heap.size) := hb.size
 clear hb Z1
 go_upto_region 8 with fail
 have HD : Below w2.heap.size w2 w2.drew := (Below.refl _ _).drew
 refine wp_region_held_drew (S := fun W => Below w2.heap.size w2 W) (by kernel_rfl) HD (fun hHeld => ?_)
 clear HD
 generalize w2.drew = wd at hHeld |-
 refine zT 0 20 ?_ rfl (by rfl) ?_ hHeld ?_
 rotate_left
 ·intro W hSw
  go_simp
  try with_reducible rfl
 try simp only [Act.put, zA, zB, zC]
 refine zT 2 22 ?_ rfl (by rfl) ?_ hHeld ?_
 rotate_left
 ·intro W hSw
  have l0 : W.cell? ⟨w.heap.size, 0, none⟩ = some (.slice pO00 lO0 qO00) := (hSw.cell (p := ⟨w.heap.size, 0, none⟩) HA1.out.lt).trans (HA1.out.cell 0)
  have l1 : W.cell? ⟨w.heap.size, 1, none⟩ = some (.slice pO10 lO1 qO10) := (hSw.cell (p := ⟨w.heap.size, 1, none⟩) HA1.out.lt).trans (HA1.out.cell 1)
  have l2 : W.cell? ⟨w.heap.size, 2, none⟩ = some (.slice pO20 lO2 qO20) := (hSw.cell (p := ⟨w.heap.size, 2, none⟩) HA1.out.lt).trans (HA1.out.cell 2)
  go_simp
  try with_reducible rfl
 try simp only [Act.put, zA, zB, zC]
 refine wpAnyH_ready (rs := [1]) (by kernel_rfl) (by simp) ?_
 refine AllReadyH.cons (o := ⟨some 21, _, _, _, _, _⟩) rfl (fun K hK => ?_) AllReadyH.nil
 go_simp
 refine (T0.out wd (Below.on HB.out hHeld HB.out.size)).mono ?_
 rintro e y0 ⟨aLT, cLT, rfl, ho, hb⟩
 have HT0 : Hid (AtS pnKd y0 (.slice aLT nL cLT) l) := ho
 have hH : Below w2.heap.size w2 y0 := Below.on hHeld hb hHeld.size
 clear ho hb
 go_wp2_with fail
 refine hK.out _ _ hH (fun hHeld => ?_)
 clear hK K hH
 try simp only [Act.put, zA, zB, zC]
 refine wpAnyH_ready (rs := [3]) (by kernel_rfl) (by simp) ?_
 refine AllReadyH.cons (o := ⟨some 23, _, _, _, _, _⟩) rfl (fun K hK => ?_) AllReadyH.nil
 go_simp
 refine (T1.out y0 (Below.on HB.out hHeld HB.out.size)).mono ?_
 rintro e y1 ⟨pO0T, qO0T, pO1T, qO1T, pO2T, qO2T, fOT, rfl, ho, hb⟩
 replace HT0 := zH (HT0.out.below hb)
 have HT1 : Hid (OwnO y1 y0.heap.size (.agg #[.slice pO0T lO0 qO0T, .slice pO1T lO1 qO1T, .slice pO2T lO2 qO2T]) s fOT) := ho
 have hH : Below w2.heap.size w2 y1 := Below.on hHeld hb hHeld.size
 clear ho hb
 go_wp2_with fail
 refine hK.out _ _ hH (fun hHeld => ?_)
 clear hK K hH
 try simp only [Act.put, zA, zB, zC]
 refine wpAnyH_ready (rs := [4]) (by kernel_rfl) (by simp) ?_
 refine AllReadyH.cons (o := ⟨some 24, _, _, _, _, _⟩) rfl (fun K hK => ?_) AllReadyH.nil
 go_simp
 refine (SP.out y1 _ _ _ _ HT0.out HT1.out).mono ?_
 rintro e yS ⟨rfl, hb⟩
 have hH : Below w2.heap.size w2 yS := Below.on hHeld hb hHeld.size
 clear hb HT0 HT1
 refine hK.out _ _ hH (fun hHeld => ?_)
 clear hK K hH
 try simp only [Act.put, zA, zB, zC]
 refine zT 5 6 ?_ rfl (by rfl) ?_ hHeld ?_
 rotate_left
 ·intro W hSw
  go_simp
  try with_reducible rfl
 try simp only [Act.put, zA, zB, zC]
 refine wpAnyH_done (by kernel_rfl) ?_ _
 replace HB := zH (Below.on HB.out hHeld HB.out.size)
 replace HA1 := zH (HA1.out.below hHeld HA1.out.lt)
 have O3 : Hid (w2.heap.size <= yS.heap.size) := hHeld.size
 clear hHeld
 go_wp2_with fail
 refine (T0.out yS HB.out).mono ?_
 rintro e w3 ⟨aLX, cLX, rfl, ho, hb⟩
 replace HB := zH (Below.on HB.out hb HB.out.size)
 replace HA1 := zH (HA1.out.below hb HA1.out.lt)
 have O4 : Hid (yS.heap.size <= w3.heap.size) := hb.size
 have H0 : Hid (AtS pnKd w3 (.slice aLX nL cLX) l) := ho
 clear ho hb
 have c0 : w3.cell? ⟨w.heap.size, 0, none⟩ = some (.slice pO00 lO0 qO00) := HA1.out.cell 0
 have c1 : w3.cell? ⟨w.heap.size, 1, none⟩ = some (.slice pO10 lO1 qO10) := HA1.out.cell 1
 have c2 : w3.cell? ⟨w.heap.size, 2, none⟩ = some (.slice pO20 lO2 qO20) := HA1.out.cell 2
 go_wp2_with fail
 clear c0 c1 c2
 refine (T1.out w3 HB.out).mono ?_
 rintro e w4 ⟨pO0X, qO0X, pO1X, qO1X, pO2X, qO2X, fOX, rfl, ho, hb⟩
 replace HB := zH (Below.on HB.out hb HB.out.size)
 replace HA1 := zH (HA1.out.below hb HA1.out.lt)
 replace H0 := zH (H0.out.below hb)
 have O5 : Hid (w3.heap.size <= w4.heap.size) := hb.size
 have H1 : Hid (OwnO w4 w3.heap.size (.agg #[.slice pO0X lO0 qO0X, .slice pO1X lO1 qO1X, .slice pO2X lO2 qO2X]) s fOX) := ho
 clear ho hb
 go_wp2_with fail
 obtain ⟨W5, hW5⟩ : ∃ W, W = w4.alloc (Obj.cells #[.slice pO0X lO0 qO0X, .slice pO1X lO1 qO1X, .slice pO2X lO2 qO2X] 37) := ⟨_, rfl⟩
 rw [<- hW5]
 have hbW5 : Below w4.heap.size w4 W5 := by rw [hW5]; exact (Below.refl _ _).alloc (Nat.le_refl _) _
 replace HB := zH (Below.on HB.out hbW5 HB.out.size)
 replace HA1 := zH (HA1.out.below hbW5 HA1.out.lt)
 replace H0 := zH (H0.out.below hbW5)
 replace H1 := zH (H1.out.stays hbW5)
 have O6 : Hid (w4.heap.size <= W5.heap.size) := hbW5.size
 have V1 : Hid (Blk W5 w4.heap.size 37 #[.slice pO0X lO0 qO0X, .slice pO1X lO1 qO1X, .slice pO2X lO2 qO2X]) := by rw [hW5]; exact Blk.new w4 _ _
 have O7 : Hid (W5.heap.size = w4.heap.size + 1) := by rw [hW5]; exact size_alloc _ _
 clear hW5 hbW5
 refine (IM.out W5 _ _ _ _ H0.out H1.out).mono ?_
 rintro e w6 ⟨rfl, hb⟩
 replace HB := zH (Below.on HB.out hb HB.out.size)
 replace HA1 := zH (HA1.out.below hb HA1.out.lt)
 replace H0 := zH (H0.out.below hb)
 replace H1 := zH (H1.out.stays hb)
 replace V1 := zH (V1.out.below hb V1.out.lt)
 have O8 : Hid (W5.heap.size <= w6.heap.size) := hb.size
 clear hb
 go_wp2_with fail
 refine (T0.out w6 HB.out).mono ?_
 rintro e w7 ⟨aLE, cLE, rfl, ho, hb⟩
 replace HB := zH (Below.on HB.out hb HB.out.size)
 replace HA1 := zH (HA1.out.below hb HA1.out.lt)
 replace H0 := zH (H0.out.below hb)
 replace H1 := zH (H1.out.stays hb)
 replace V1 := zH (V1.out.below hb V1.out.lt)
 have O9 : Hid (w6.heap.size <= w7.heap.size) := hb.size
 have HE0 : Hid (AtS pnKd w7 (.slice aLE nL cLE) l) := ho
 clear ho hb
 go_wp2_with fail
 refine (Q0.out w7 _ _ H0.out HE0.out).mono ?_
 rintro e w8 ⟨rfl, hb⟩
 replace HB := zH (Below.on HB.out hb HB.out.size)
 replace HA1 := zH (HA1.out.below hb HA1.out.lt)
 replace H0 := zH (H0.out.below hb)
 replace H1 := zH (H1.out.stays hb)
 replace V1 := zH (V1.out.below hb V1.out.lt)
 replace HE0 := zH (HE0.out.below hb)
 have O10 : Hid (w7.heap.size <= w8.heap.size) := hb.size
 clear hb
 clear HE0
 go_upto_region 16 with fail
 have HD : Below w8.heap.size w8 w8.drew := (Below.refl _ _).drew
 refine wp_region_held_drew (S := fun W => Below w8.heap.size w8 W) (by kernel_rfl) HD (fun hHeld => ?_)
 clear HD
 generalize w8.drew = wd at hHeld |-
 refine zT 0 40 ?_ rfl (by rfl) ?_ hHeld ?_
 rotate_left
 ·intro W hSw
  have l0 : W.cell? ⟨w4.heap.size, 0, none⟩ = some (.slice pO0X lO0 qO0X) := (hSw.cell (p := ⟨w4.heap.size, 0, none⟩) V1.out.lt).trans (V1.out.cell 0)
  have l1 : W.cell? ⟨w4.heap.size, 1, none⟩ = some (.slice pO1X lO1 qO1X) := (hSw.cell (p := ⟨w4.heap.size, 1, none⟩) V1.out.lt).trans (V1.out.cell 1)
  have l2 : W.cell? ⟨w4.heap.size, 2, none⟩ = some (.slice pO2X lO2 qO2X) := (hSw.cell (p := ⟨w4.heap.size, 2, none⟩) V1.out.lt).trans (V1.out.cell 2)
  go_simp
  try with_reducible rfl
 try simp only [Act.put, zA, zB, zC]
 refine zT 1 41 ?_ rfl (by rfl) ?_ hHeld ?_
 rotate_left
 ·intro W hSw
  have m0 : W.cell? ⟨w.heap.size, 0, none⟩ = some (.slice pO00 lO0 qO00) := (hSw.cell (p := ⟨w.heap.size, 0, none⟩) HA1.out.lt).trans (HA1.out.cell 0)
  have m1 : W.cell? ⟨w.heap.size, 1, none⟩ = some (.slice pO10 lO1 qO10) := (hSw.cell (p := ⟨w.heap.size, 1, none⟩) HA1.out.lt).trans (HA1.out.cell 1)
  have m2 : W.cell? ⟨w.heap.size, 2, none⟩ = some (.slice pO20 lO2 qO20) := (hSw.cell (p := ⟨w.heap.size, 2, none⟩) HA1.out.lt).trans (HA1.out.cell 2)
  go_simp
  try with_reducible rfl
 try simp only [Act.put, zA, zB, zC]
 refine wpAnyH_ready (rs := [2]) (by kernel_rfl) (by simp) ?_
 refine AllReadyH.cons (o := ⟨some 42, _, _, _, _, _⟩) rfl (fun K hK => ?_) AllReadyH.nil
 go_simp
 refine (T1.out wd (Below.on HB.out hHeld HB.out.size)).mono ?_
 rintro e z9 ⟨pO0E, qO0E, pO1E, qO1E, pO2E, qO2E, fOE, rfl, ho, hb⟩
 have hH : Below w8.heap.size w8 z9 := Below.on hHeld hb hHeld.size
 have EE := Q1.out z9 _ _ (H1.out.stays hH).at ho.at
 clear ho hb hHeld
 refine hK.out _ _ hH (fun hHeld => ?_)
 clear hK K hH
 try simp only [Act.put, zA, zB, zC]
 refine wpAnyH_ready (rs := [3]) (by kernel_rfl) (by simp) ?_
 refine AllReadyH.cons (o := ⟨some 43, _, _, _, _, _⟩) rfl (fun K hK => ?_) AllReadyH.nil
 go_simp
 refine EE.mono ?_
 rintro e zz9 ⟨rfl, hb⟩
 have hH : Below w8.heap.size w8 zz9 := Below.on hHeld hb hHeld.size
 clear hb hHeld EE
 refine hK.out _ _ hH (fun hHeld => ?_)
 clear hK K hH
 try simp only [Act.put, zA, zB, zC]
 refine zT 4 44 ?_ rfl (by rfl) ?_ hHeld ?_
 rotate_left
 ·intro W hSw
  go_simp
  try with_reducible rfl
 try simp only [Act.put, zA, zB, zC]
 refine wpAnyH_done (by kernel_rfl) ?_ _
 replace HB := zH (Below.on HB.out hHeld HB.out.size)
 replace HA1 := zH (HA1.out.below hHeld HA1.out.lt)
 replace H0 := zH (H0.out.below hHeld)
 replace H1 := zH (H1.out.stays hHeld)
 replace V1 := zH (V1.out.below hHeld V1.out.lt)
 have O11 : Hid (w8.heap.size <= zz9.heap.size) := hHeld.size
 clear hHeld
 go_wp2_with fail
 go_ret
 exact ⟨rfl, HB.out⟩
theorem laidOut_FnExactPlansOk : laidOutB Try.prog = true := by kernel_rfl
theorem own_FnExactPlansOk : ownKnob Try.prog.godebug = none := by kernel_rfl
theorem lifted_FnExactPlansOk (os : Os) (started : os.Started) (H : Type) (enc : TypeId × Value -> H) :
  ReturnsInHanded {} Try.checked os 3 .any (Rows.fnExactPlansOkSpec.pre6 enc Try.prog Try.f3 Rows.fnExactPlansOkRow.domain false) (Rows.fnExactPlansOkSpec.post enc Try.prog Try.f3 false true false false) := by
 refine returnsInHanded_of_change (C := Try.checked) own_FnExactPlansOk started (by kernel_rfl) Try.func3
  (ChangeSpec.witness6 (enc := enc) (C := Try.checked) false ⟨#[], #[.slice none 0 0, .agg #[.slice none 0 0, .slice none 0 0, .slice none 0 0]], []⟩ 8 (by kernel_rfl) (by kernel_rfl) (by kernel_rfl) (by kernel_rfl)) ?_
 intro W base args ds gs before hval0 hW hcnd _
 have hval : ∀ (j : Nat) t v, Try.f3.params[j]? = some t -> args[j]? = some v -> Value.okWide Try.prog W .any base t v := hval0
 have hW' := hW
 obtain ⟨p, q, hA0, hV, rfl, hfz, hnd⟩ := hW
 have hA : DataW.TrodAll enc Try.prog W 0 (fun _ => true) true Try.f3.params.toList args.toList ds p := hA0
 rw [Try.params3] at hA hval
 obtain ⟨v0, vs0, d0, ds0, p0, q0, hargs, rfl, rfl, h0, r0⟩ := trodAll_cons hA
 obtain ⟨v1, vs1, d1, ds1, p1, q1, rfl, rfl, rfl, h1, r1⟩ := trodAll_cons r0
 obtain ⟨rfl, rfl, rfl⟩ := trodAll_nil r1
 obtain rfl : args = #[v0, v1] := by cases args; simp_all
 obtain ⟨rfl, rfl⟩ := trodVars_none hV
 obtain ⟨a0, len0, cap0, rfl⟩ := okWide_slice Try.underlying22 (hval 0 22 v0 rfl rfl)
 have k0 := h0
 have lt0 : ∀ x ∈ p0, x.block < W.heap.size := by obtain ⟨m, hm⟩ := k0; exact DataW.trod_lt m _ _ _ hm
 have w0 : len0 <= maxLen /\ ∃ l : List Pn, l.length = len0 /\ (∀ c ∈ l, WdPn c) /\ ArgPS W.heap.size W (.slice a0 len0 cap0) l := by
  obtain ⟨fuel, hf⟩ := h0
  obtain ⟨ao, cap, l, hcs, hm, hwd, ha⟩ := plans_in hf
  simp [Value.cells] at hcs
  obtain ⟨rfl, rfl, rfl⟩ := hcs
  exact ⟨hm, l, rfl, hwd, ha⟩
 obtain ⟨a1, rfl, ca1⟩ := okWide_struct Try.underlying27 (hval 1 27 v1 rfl rfl)
 have k1 := h1
 have lt1 : ∀ x ∈ p1, x.block < W.heap.size := by obtain ⟨m, hm⟩ := k1; exact DataW.trod_lt m _ _ _ hm
 have w1 : ∃ c : So, ArgO W.heap.size W (.agg a1) c /\ WdO c := by
  obtain ⟨fuel, hf⟩ := h1
  exact store_of_trod hf
 clear hA0 hval0
 simp only [List.append_nil] at hW'
 refine (walk_FnExactPlansOk a0 len0 cap0 a1 W w0 w1).mono fun e W' ⟨he, bel⟩ => ?_
 subst he
 exact ⟨_, rfl, _, _, _, [], _, [], hW', trodAll_mk1 (shut_bool Try.underlying4 _), (trodAll_cons_mk (Below.trod laidOut_FnExactPlansOk (by kernel_rfl) (of_decide_eq_true (by kernel_rfl)) k0 bel lt0) (trodAll_cons_mk (Below.trod laidOut_FnExactPlansOk (by kernel_rfl) (of_decide_eq_true (by kernel_rfl)) k1 bel lt1) trodAll_mk0)), rfl, bel.frame _, fun h => by cases h⟩
theorem over_FnExactPlansOk : Rows.fnExactPlansOkRow.holds Try.pinned (OpenSpec.ofChange Rows.fnExactPlansOkSpec) :=
 OpenClaim.holds_of_wide 3 Try.f3 rfl rfl rfl rfl rfl rfl rfl ⟨rfl, rfl, rfl, rfl, rfl⟩ rfl rfl rfl rfl rfl (by kernel_rfl) Try.func3 (by kernel_rfl)
  (of_decide_eq_true (by kernel_rfl)) (by unfold Func.isWrapper; first | (rw [if_pos (by decide +kernel)]; kernel_rfl) | (rw [if_neg (by decide +kernel)]; exact ⟨rfl, rfl⟩))
  (fun os started H enc _ => lifted_FnExactPlansOk os started H enc)
theorem proved_FnExactPlansOk : Rows.FnExactPlansOkSaid := over_FnExactPlansOk
#print axioms proved_FnExactPlansOk
end Go.Proofs.Ytllmgjfffkhocaa
