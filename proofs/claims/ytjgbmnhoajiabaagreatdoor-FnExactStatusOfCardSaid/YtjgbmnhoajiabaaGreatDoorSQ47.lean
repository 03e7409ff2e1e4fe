/-
  Texts of the proof.
-/
import Derived.Test.YtjgbmnhoajiabaaGreatDoorSQ46
set_option maxRecDepth 100000
namespace Go.Proofs.YtjgbmnhoajiabaaGreatDoor
open Go.RowKit Der
set_option linter.unusedVariables false
set_option linter.unusedSimpArgs false
set_option maxHeartbeats 25600000 in
theorem believed_any (c : Cl) (v : Value) (iss key : ByteArray) (time : Int) (w : World) (hz : wtL c <= 1048576) (hw : WdL c) (hk : key.size <= 1048576) (hH : ∀ w', Below w.heap.size w w' -> KeysOk w' /\ StartOk w') (ha : ClAt w v c) :
  Calls Tryz.prog 146 #[v, .string iss, .string key, .int .i64 time] w fun e w' => e = .returned (.bool (belB iss key time c)) /\ Below w.heap.size w w' := by
 obtain ⟨p1, q1, hv⟩ := ha.shape
 subst hv
 obtain ⟨m1, hm1⟩ : ∃ m, c.revs.length = m := ⟨_, rfl⟩
 rw [hm1] at ha |-
 clear hm1
 have HA : Hid (ClAt w (.agg #[.string c.issuer, .int .i64 c.num, .int .i64 c.ths, .int .i64 c.nxt, .int .i64 c.bas, .slice p1 m1 q1, .string c.sig]) c /\ key.size <= 1048576 /\ (∀ w', Below w.heap.size w w' -> KeysOk w' /\ StartOk w')) := ⟨ha, hk, hH⟩
 have HW : Hid (wtL c <= 1048576 /\ WdL c) := ⟨hz, hw⟩
 clear ha hk hH hz hw
 unfold clV
 obtain ⟨V, hV⟩ : ∃ V, V = w.alloc (Obj.cells #[.string c.issuer, .int .i64 c.num, .int .i64 c.ths, .int .i64 c.nxt, .int .i64 c.bas, .slice p1 m1 q1, .string c.sig] 49) := ⟨_, rfl⟩
 obtain ⟨gx, hgx⟩ : ∃ q, w.heap.size = q := ⟨_, rfl⟩
 have HV : Hid (CS w V gx #[.string c.issuer, .int .i64 c.num, .int .i64 c.ths, .int .i64 c.nxt, .int .i64 c.bas, .slice p1 m1 q1, .string c.sig]) := by rw [hV, <- hgx]; exact ⟨(Below.refl _ _).alloc (Nat.le_refl _) _, Blk.new _ _ _⟩
 have HSB : Hid (∀ W W' : World, CS w W gx #[.string c.issuer, .int .i64 c.num, .int .i64 c.ths, .int .i64 c.nxt, .int .i64 c.bas, .slice p1 m1 q1, .string c.sig] -> Below W.heap.size W W' -> CS w W' gx #[.string c.issuer, .int .i64 c.num, .int .i64 c.ths, .int .i64 c.nxt, .int .i64 c.bas, .slice p1 m1 q1, .string c.sig]) := fun W W' h hb => h.below hb
 have HCA : Hid (∀ W : World, CS w W gx #[.string c.issuer, .int .i64 c.num, .int .i64 c.ths, .int .i64 c.nxt, .int .i64 c.bas, .slice p1 m1 q1, .string c.sig] -> ClAt W (.agg #[.string c.issuer, .int .i64 c.num, .int .i64 c.ths, .int .i64 c.nxt, .int .i64 c.bas, .slice p1 m1 q1, .string c.sig]) c) := fun W h => HA.out.1.below h.1
 obtain ⟨RR, hRR⟩ : ∃ b, belB iss key time c = b := ⟨_, rfl⟩
 have HRR : Hid (belB iss key time c = RR) := hRR
 rw [hRR]
 clear hRR
 go_enter Tryz.func146, Tryz.ntmps146
 go_upto_region 1 with fail
 rw [<- hV]
 try rw [hgx]
 clear hV hgx
 have t2 : V.cell? ⟨gx, 2, none⟩ = some (.int .i64 c.ths) := HV.out.2.cell 2
 have t3 : V.cell? ⟨gx, 3, none⟩ = some (.int .i64 c.nxt) := HV.out.2.cell 3
 by_cases hC : c.ths <= time
 rotate_left
 ·skip
  go_upto_region 2 with fail
  clear t2 t3
  have hDr : Below V.heap.size V V.drew := (Below.refl _ _).drew
  refine wp_region_held_drew (S := fun W => CS w W gx #[.string c.issuer, .int .i64 c.num, .int .i64 c.ths, .int .i64 c.nxt, .int .i64 c.bas, .slice p1 m1 q1, .string c.sig]) (by kernel_rfl) (HV.out.below hDr) (fun hHeld => ?_)
  clear hDr HV
  generalize V.drew = wd at hHeld |-
  refine zT 0 20 ?_ rfl (by kernel_rfl) (by kernel_rfl) (by kernel_rfl) (fun _ _ _ h => h) (by rfl) ?_ hHeld ?_
  rotate_left
  ·intro W hSw
   have e0 : W.cell? ⟨gx, 0, none⟩ = some (.string c.issuer) := hSw.2.cell 0
   have e1 : W.cell? ⟨gx, 1, none⟩ = some (.int .i64 c.num) := hSw.2.cell 1
   have e2 : W.cell? ⟨gx, 2, none⟩ = some (.int .i64 c.ths) := hSw.2.cell 2
   have e3 : W.cell? ⟨gx, 3, none⟩ = some (.int .i64 c.nxt) := hSw.2.cell 3
   have e4 : W.cell? ⟨gx, 4, none⟩ = some (.int .i64 c.bas) := hSw.2.cell 4
   have e5 : W.cell? ⟨gx, 5, none⟩ = some (.slice p1 m1 q1) := hSw.2.cell 5
   have e6 : W.cell? ⟨gx, 6, none⟩ = some (.string c.sig) := hSw.2.cell 6
   go_simp
   try with_reducible rfl
  try simp only [Act.put, zA, zB, zC]
  refine wpAnyH_ready (rs := [1]) (by kernel_rfl) (by simp) ?_
  refine AllReadyH.cons (o := ⟨some 21, _, _, _, _, _⟩) rfl (fun K hK => ?_) AllReadyH.nil
  have EQ := implCrlOk_any c (.agg #[.string c.issuer, .int .i64 c.num, .int .i64 c.ths, .int .i64 c.nxt, .int .i64 c.bas, .slice p1 m1 q1, .string c.sig]) wd (Nat.le_trans HW.out.1 (by decide)) (HCA.out _ hHeld)
  try unfold clV at EQ
  go_simp
  refine EQ.mono ?_
  rintro e w1 ⟨rfl, hb⟩
  have hS3 := HSB.out _ _ hHeld hb
  clear hb EQ
  refine hK.out _ _ hS3 (fun hHeld => ?_)
  clear hK K hS3
  try simp only [Act.put, zA, zB, zC]
  obtain ⟨A, hA⟩ : ∃ b, crlOk c = b := ⟨_, rfl⟩
  rw [hA]
  refine zT 2 22 ?_ rfl (by kernel_rfl) (by kernel_rfl) (by kernel_rfl) (fun _ _ _ h => h) (by rfl) ?_ hHeld ?_
  rotate_left
  ·intro W hSw
   go_simp
   try with_reducible rfl
  try simp only [Act.put, zA, zB, zC]
  cases A with
  | false =>
   refine zU 3 23 rfl (by kernel_rfl) (by kernel_rfl) (by kernel_rfl) (fun _ _ _ h => h) (by rfl) hHeld ?_
   try simp only [Act.put, zA, zB, zC]
   refine zU 4 24 rfl (by kernel_rfl) (by kernel_rfl) (by kernel_rfl) (fun _ _ _ h => h) (by rfl) hHeld ?_
   try simp only [Act.put, zA, zB, zC]
   refine zU 5 25 rfl (by kernel_rfl) (by kernel_rfl) (by kernel_rfl) (fun _ _ _ h => h) (by rfl) hHeld ?_
   try simp only [Act.put, zA, zB, zC]
   refine zU 6 26 rfl (by kernel_rfl) (by kernel_rfl) (by kernel_rfl) (fun _ _ _ h => h) (by rfl) hHeld ?_
   try simp only [Act.put, zA, zB, zC]
   refine zT 7 27 ?_ rfl (by kernel_rfl) (by kernel_rfl) (by kernel_rfl) (fun _ _ _ h => h) (by rfl) ?_ hHeld ?_
   rotate_left
   ·intro W hSw
    go_simp
    try with_reducible rfl
   try simp only [Act.put, zA, zB, zC]
   refine zT 8 28 ?_ rfl (by kernel_rfl) (by kernel_rfl) (by kernel_rfl) (fun _ _ _ h => h) (by rfl) ?_ hHeld ?_
   rotate_left
   ·intro W hSw
    go_simp
    try with_reducible rfl
   try simp only [Act.put, zA, zB, zC]
   refine zU 9 29 rfl (by kernel_rfl) (by kernel_rfl) (by kernel_rfl) (fun _ _ _ h => h) (by rfl) hHeld ?_
   try simp only [Act.put, zA, zB, zC]
   refine zT 10 30 ?_ rfl (by kernel_rfl) (by kernel_rfl) (by kernel_rfl) (fun _ _ _ h => h) (by rfl) ?_ hHeld ?_
   rotate_left
   ·intro W hSw
    go_simp
    try with_reducible rfl
   try simp only [Act.put, zA, zB, zC]
   refine zT 11 31 ?_ rfl (by kernel_rfl) (by kernel_rfl) (by kernel_rfl) (fun _ _ _ h => h) (by rfl) ?_ hHeld ?_
   rotate_left
   ·intro W hSw
    go_simp
    try with_reducible rfl
   try simp only [Act.put, zA, zB, zC]
   refine zU 12 32 rfl (by kernel_rfl) (by kernel_rfl) (by kernel_rfl) (fun _ _ _ h => h) (by rfl) hHeld ?_
   try simp only [Act.put, zA, zB, zC]
   refine zU 13 33 rfl (by kernel_rfl) (by kernel_rfl) (by kernel_rfl) (fun _ _ _ h => h) (by rfl) hHeld ?_
   try simp only [Act.put, zA, zB, zC]
   refine zU 14 34 rfl (by kernel_rfl) (by kernel_rfl) (by kernel_rfl) (fun _ _ _ h => h) (by rfl) hHeld ?_
   try simp only [Act.put, zA, zB, zC]
   refine zU 15 35 rfl (by kernel_rfl) (by kernel_rfl) (by kernel_rfl) (fun _ _ _ h => h) (by rfl) hHeld ?_
   try simp only [Act.put, zA, zB, zC]
   refine zU 16 36 rfl (by kernel_rfl) (by kernel_rfl) (by kernel_rfl) (fun _ _ _ h => h) (by rfl) hHeld ?_
   try simp only [Act.put, zA, zB, zC]
   refine zU 17 37 rfl (by kernel_rfl) (by kernel_rfl) (by kernel_rfl) (fun _ _ _ h => h) (by rfl) hHeld ?_
   try simp only [Act.put, zA, zB, zC]
   refine zT 18 38 ?_ rfl (by kernel_rfl) (by kernel_rfl) (by kernel_rfl) (fun _ _ _ h => h) (by rfl) ?_ hHeld ?_
   rotate_left
   ·intro W hSw
    go_simp
    try with_reducible rfl
   try simp only [Act.put, zA, zB, zC]
   refine zT 19 8 ?_ rfl (by kernel_rfl) (by kernel_rfl) (by kernel_rfl) (fun _ _ _ h => h) (by rfl) ?_ hHeld ?_
   rotate_left
   ·intro W hSw
    go_simp
    try with_reducible rfl
   try simp only [Act.put, zA, zB, zC]
   refine wpAnyH_done (by kernel_rfl) ?_ _
   have HQ : Hid (RR = false /\ Below w.heap.size w w1) := ⟨by rw [<- HRR.out]; exact bel_ok hA, hHeld.1⟩
   clear hHeld HSB HCA
   go_wp2_with fail
   go_ret
   exact ⟨by rw [HQ.out.1]; rfl, HQ.out.2⟩
  | true =>
   by_cases hB : (c.issuer.toList == iss.toList) = true
   rotate_left
   ·have hB2 : (c.issuer.toList == iss.toList) = false := by simpa using hB
    clear hB
    refine zT 3 23 ?_ rfl (by kernel_rfl) (by kernel_rfl) (by kernel_rfl) (fun _ _ _ h => h) (by rfl) ?_ hHeld ?_
    rotate_left
    ·intro W hSw
     go_simp
     try with_reducible rfl
    try simp only [Act.put, zA, zB, zC]
    refine zT 4 24 ?_ rfl (by kernel_rfl) (by kernel_rfl) (by kernel_rfl) (fun _ _ _ h => h) (by rfl) ?_ hHeld ?_
    rotate_left
    ·intro W hSw
     have e0 : W.cell? ⟨gx, 0, none⟩ = some (.string c.issuer) := hSw.2.cell 0
     go_simp
     try with_reducible rfl
    try simp only [Act.put, zA, zB, zC]
    refine zT 5 25 ?_ rfl (by kernel_rfl) (by kernel_rfl) (by kernel_rfl) (fun _ _ _ h => h) (by rfl) ?_ hHeld ?_
    rotate_left
    ·intro W hSw
     go_simp
     try with_reducible rfl
    try simp only [Act.put, zA, zB, zC]
    refine zT 6 26 ?_ rfl (by kernel_rfl) (by kernel_rfl) (by kernel_rfl) (fun _ _ _ h => h) (by rfl) ?_ hHeld ?_
    rotate_left
    ·intro W hSw
     go_simp
     try with_reducible rfl
    try simp only [Act.put, zA, zB, zC]
    refine zT 7 27 ?_ rfl (by kernel_rfl) (by kernel_rfl) (by kernel_rfl) (fun _ _ _ h => h) (by rfl) ?_ hHeld ?_
    rotate_left
    ·intro W hSw
     go_simp
     try with_reducible rfl
    try simp only [Act.put, zA, zB, zC]
    refine zT 8 28 ?_ rfl (by kernel_rfl) (by kernel_rfl) (by kernel_rfl) (fun _ _ _ h => h) (by rfl) ?_ hHeld ?_
    rotate_left
    ·intro W hSw
     go_simp
     try with_reducible rfl
    try simp only [Act.put, zA, zB, zC]
    refine zU 9 29 rfl (by kernel_rfl) (by kernel_rfl) (by kernel_rfl) (fun _ _ _ h => h) (by rfl) hHeld ?_
    try simp only [Act.put, zA, zB, zC]
    refine zT 10 30 ?_ rfl (by kernel_rfl) (by kernel_rfl) (by kernel_rfl) (fun _ _ _ h => h) (by rfl) ?_ hHeld ?_
    rotate_left
    ·intro W hSw
     go_simp
     try with_reducible rfl
    try simp only [Act.put, zA, zB, zC]
    refine zT 11 31 ?_ rfl (by kernel_rfl) (by kernel_rfl) (by kernel_rfl) (fun _ _ _ h => h) (by rfl) ?_ hHeld ?_
    rotate_left
    ·intro W hSw
     go_simp
     try with_reducible rfl
    try simp only [Act.put, zA, zB, zC]
    refine zU 12 32 rfl (by kernel_rfl) (by kernel_rfl) (by kernel_rfl) (fun _ _ _ h => h) (by rfl) hHeld ?_
    try simp only [Act.put, zA, zB, zC]
    refine zU 13 33 rfl (by kernel_rfl) (by kernel_rfl) (by kernel_rfl) (fun _ _ _ h => h) (by rfl) hHeld ?_
    try simp only [Act.put, zA, zB, zC]
    refine zU 14 34 rfl (by kernel_rfl) (by kernel_rfl) (by kernel_rfl) (fun _ _ _ h => h) (by rfl) hHeld ?_
    try simp only [Act.put, zA, zB, zC]
    refine zU 15 35 rfl (by kernel_rfl) (by kernel_rfl) (by kernel_rfl) (fun _ _ _ h => h) (by rfl) hHeld ?_
    try simp only [Act.put, zA, zB, zC]
    refine zU 16 36 rfl (by kernel_rfl) (by kernel_rfl) (by kernel_rfl) (fun _ _ _ h => h) (by rfl) hHeld ?_
    try simp only [Act.put, zA, zB, zC]
    refine zU 17 37 rfl (by kernel_rfl) (by kernel_rfl) (by kernel_rfl) (fun _ _ _ h => h) (by rfl) hHeld ?_
    try simp only [Act.put, zA, zB, zC]
    refine zT 18 38 ?_ rfl (by kernel_rfl) (by kernel_rfl) (by kernel_rfl) (fun _ _ _ h => h) (by rfl) ?_ hHeld ?_
    rotate_left
    ·intro W hSw
     go_simp
     try with_reducible rfl
    try simp only [Act.put, zA, zB, zC]
    refine zT 19 8 ?_ rfl (by kernel_rfl) (by kernel_rfl) (by kernel_rfl) (fun _ _ _ h => h) (by rfl) ?_ hHeld ?_
    rotate_left
    ·intro W hSw
     go_simp
     try with_reducible rfl
    try simp only [Act.put, zA, zB, zC]
    refine wpAnyH_done (by kernel_rfl) ?_ _
    have HQ : Hid (RR = false /\ Below w.heap.size w w1) := ⟨by rw [<- HRR.out]; exact bel_iss hB2, hHeld.1⟩
    clear hHeld HSB HCA
    go_wp2_with fail
    go_ret
    exact ⟨by rw [HQ.out.1]; rfl, HQ.out.2⟩
   refine zT 3 23 ?_ rfl (by kernel_rfl) (by kernel_rfl) (by kernel_rfl) (fun _ _ _ h => h) (by rfl) ?_ hHeld ?_
   rotate_left
   ·intro W hSw
    go_simp
    try with_reducible rfl
   try simp only [Act.put, zA, zB, zC]
   refine zT 4 24 ?_ rfl (by kernel_rfl) (by kernel_rfl) (by kernel_rfl) (fun _ _ _ h => h) (by rfl) ?_ hHeld ?_
   rotate_left
   ·intro W hSw
    have e0 : W.cell? ⟨gx, 0, none⟩ = some (.string c.issuer) := hSw.2.cell 0
    go_simp
    try with_reducible rfl
   try simp only [Act.put, zA, zB, zC]
   refine zT 5 25 ?_ rfl (by kernel_rfl) (by kernel_rfl) (by kernel_rfl) (fun _ _ _ h => h) (by rfl) ?_ hHeld ?_
   rotate_left
   ·intro W hSw
    go_simp
    try with_reducible rfl
   try simp only [Act.put, zA, zB, zC]
   refine zT 6 26 ?_ rfl (by kernel_rfl) (by kernel_rfl) (by kernel_rfl) (fun _ _ _ h => h) (by rfl) ?_ hHeld ?_
   rotate_left
   ·intro W hSw
    go_simp
    try with_reducible rfl
   try simp only [Act.put, zA, zB, zC]
   refine zT 7 27 ?_ rfl (by kernel_rfl) (by kernel_rfl) (by kernel_rfl) (fun _ _ _ h => h) (by rfl) ?_ hHeld ?_
   rotate_left
   ·intro W hSw
    go_simp
    try with_reducible rfl
   try simp only [Act.put, zA, zB, zC]
   refine zT 8 28 ?_ rfl (by kernel_rfl) (by kernel_rfl) (by kernel_rfl) (fun _ _ _ h => h) (by rfl) ?_ hHeld ?_
   rotate_left
   ·intro W hSw
    go_simp
    try with_reducible rfl
   try simp only [Act.put, zA, zB, zC]
   refine zT 9 29 ?_ rfl (by kernel_rfl) (by kernel_rfl) (by kernel_rfl) (fun _ _ _ h => h) (by rfl) ?_ hHeld ?_
   rotate_left
   ·intro W hSw
    go_simp
    try with_reducible rfl
   try simp only [Act.put, zA, zB, zC]
   refine zT 10 30 ?_ rfl (by kernel_rfl) (by kernel_rfl) (by kernel_rfl) (fun _ _ _ h => h) (by rfl) ?_ hHeld ?_
   rotate_left
   ·intro W hSw
    go_simp
    try with_reducible rfl
   try simp only [Act.put, zA, zB, zC]
   refine zT 11 31 ?_ rfl (by kernel_rfl) (by kernel_rfl) (by kernel_rfl) (fun _ _ _ h => h) (by rfl) ?_ hHeld ?_
   rotate_left
   ·intro W hSw
    go_simp
    try with_reducible rfl
   try simp only [Act.put, zA, zB, zC]
   refine zU 12 32 rfl (by kernel_rfl) (by kernel_rfl) (by kernel_rfl) (fun _ _ _ h => h) (by rfl) hHeld ?_
   try simp only [Act.put, zA, zB, zC]
   refine zU 13 33 rfl (by kernel_rfl) (by kernel_rfl) (by kernel_rfl) (fun _ _ _ h => h) (by rfl) hHeld ?_
   try simp only [Act.put, zA, zB, zC]
   refine zU 14 34 rfl (by kernel_rfl) (by kernel_rfl) (by kernel_rfl) (fun _ _ _ h => h) (by rfl) hHeld ?_
   try simp only [Act.put, zA, zB, zC]
   refine zU 15 35 rfl (by kernel_rfl) (by kernel_rfl) (by kernel_rfl) (fun _ _ _ h => h) (by rfl) hHeld ?_
   try simp only [Act.put, zA, zB, zC]
   refine zU 16 36 rfl (by kernel_rfl) (by kernel_rfl) (by kernel_rfl) (fun _ _ _ h => h) (by rfl) hHeld ?_
   try simp only [Act.put, zA, zB, zC]
   refine zU 17 37 rfl (by kernel_rfl) (by kernel_rfl) (by kernel_rfl) (fun _ _ _ h => h) (by rfl) hHeld ?_
   try simp only [Act.put, zA, zB, zC]
   refine zT 18 38 ?_ rfl (by kernel_rfl) (by kernel_rfl) (by kernel_rfl) (fun _ _ _ h => h) (by rfl) ?_ hHeld ?_
   rotate_left
   ·intro W hSw
    go_simp
    try with_reducible rfl
   try simp only [Act.put, zA, zB, zC]
   refine zT 19 8 ?_ rfl (by kernel_rfl) (by kernel_rfl) (by kernel_rfl) (fun _ _ _ h => h) (by rfl) ?_ hHeld ?_
   rotate_left
   ·intro W hSw
    go_simp
    try with_reducible rfl
   try simp only [Act.put, zA, zB, zC]
   refine wpAnyH_done (by kernel_rfl) ?_ _
   have HQ : Hid (RR = false /\ Below w.heap.size w w1) := ⟨by rw [<- HRR.out]; exact bel_ths hC, hHeld.1⟩
   clear hHeld HSB HCA
   go_wp2_with fail
   go_ret
   exact ⟨by rw [HQ.out.1]; rfl, HQ.out.2⟩
 by_cases hD : time <= c.nxt
 rotate_left
 ·skip
  go_upto_region 2 with fail
  clear t2 t3
  have hDr : Below V.heap.size V V.drew := (Below.refl _ _).drew
  refine wp_region_held_drew (S := fun W => CS w W gx #[.string c.issuer, .int .i64 c.num, .int .i64 c.ths, .int .i64 c.nxt, .int .i64 c.bas, .slice p1 m1 q1, .string c.sig]) (by kernel_rfl) (HV.out.below hDr) (fun hHeld => ?_)
  clear hDr HV
  generalize V.drew = wd at hHeld |-
  refine zT 0 20 ?_ rfl (by kernel_rfl) (by kernel_rfl) (by kernel_rfl) (fun _ _ _ h => h) (by rfl) ?_ hHeld ?_
  rotate_left
  ·intro W hSw
   have e0 : W.cell? ⟨gx, 0, none⟩ = some (.string c.issuer) := hSw.2.cell 0
   have e1 : W.cell? ⟨gx, 1, none⟩ = some (.int .i64 c.num) := hSw.2.cell 1
   have e2 : W.cell? ⟨gx, 2, none⟩ = some (.int .i64 c.ths) := hSw.2.cell 2
   have e3 : W.cell? ⟨gx, 3, none⟩ = some (.int .i64 c.nxt) := hSw.2.cell 3
   have e4 : W.cell? ⟨gx, 4, none⟩ = some (.int .i64 c.bas) := hSw.2.cell 4
   have e5 : W.cell? ⟨gx, 5, none⟩ = some (.slice p1 m1 q1) := hSw.2.cell 5
   have e6 : W.cell? ⟨gx, 6, none⟩ = some (.string c.sig) := hSw.2.cell 6
   go_simp
   try with_reducible rfl
  try simp only [Act.put, zA, zB, zC]
  refine wpAnyH_ready (rs := [1]) (by kernel_rfl) (by simp) ?_
  refine AllReadyH.cons (o := ⟨some 21, _, _, _, _, _⟩) rfl (fun K hK => ?_) AllReadyH.nil
  have EQ := implCrlOk_any c (.agg #[.string c.issuer, .int .i64 c.num, .int .i64 c.ths, .int .i64 c.nxt, .int .i64 c.bas, .slice p1 m1 q1, .string c.sig]) wd (Nat.le_trans HW.out.1 (by decide)) (HCA.out _ hHeld)
  try unfold clV at EQ
  go_simp
  refine EQ.mono ?_
  rintro e w1 ⟨rfl, hb⟩
  have hS3 := HSB.out _ _ hHeld hb
  clear hb EQ
  refine hK.out _ _ hS3 (fun hHeld => ?_)
  clear hK K hS3
  try simp only [Act.put, zA, zB, zC]
  obtain ⟨A, hA⟩ : ∃ b, crlOk c = b := ⟨_, rfl⟩
  rw [hA]
  refine zT 2 22 ?_ rfl (by kernel_rfl) (by kernel_rfl) (by kernel_rfl) (fun _ _ _ h => h) (by rfl) ?_ hHeld ?_
  rotate_left
  ·intro W hSw
   go_simp
   try with_reducible rfl
  try simp only [Act.put, zA, zB, zC]
  cases A with
  | false =>
   refine zU 3 23 rfl (by kernel_rfl) (by kernel_rfl) (by kernel_rfl) (fun _ _ _ h => h) (by rfl) hHeld ?_
   try simp only [Act.put, zA, zB, zC]
   refine zU 4 24 rfl (by kernel_rfl) (by kernel_rfl) (by kernel_rfl) (fun _ _ _ h => h) (by rfl) hHeld ?_
   try simp only [Act.put, zA, zB, zC]
   refine zU 5 25 rfl (by kernel_rfl) (by kernel_rfl) (by kernel_rfl) (fun _ _ _ h => h) (by rfl) hHeld ?_
   try simp only [Act.put, zA, zB, zC]
   refine zU 6 26 rfl (by kernel_rfl) (by kernel_rfl) (by kernel_rfl) (fun _ _ _ h => h) (by rfl) hHeld ?_
   try simp only [Act.put, zA, zB, zC]
   refine zT 7 27 ?_ rfl (by kernel_rfl) (by kernel_rfl) (by kernel_rfl) (fun _ _ _ h => h) (by rfl) ?_ hHeld ?_
   rotate_left
   ·intro W hSw
    go_simp
    try with_reducible rfl
   try simp only [Act.put, zA, zB, zC]
   refine zT 8 28 ?_ rfl (by kernel_rfl) (by kernel_rfl) (by kernel_rfl) (fun _ _ _ h => h) (by rfl) ?_ hHeld ?_
   rotate_left
   ·intro W hSw
    go_simp
    try with_reducible rfl
   try simp only [Act.put, zA, zB, zC]
   refine zU 9 29 rfl (by kernel_rfl) (by kernel_rfl) (by kernel_rfl) (fun _ _ _ h => h) (by rfl) hHeld ?_
   try simp only [Act.put, zA, zB, zC]
   refine zT 10 30 ?_ rfl (by kernel_rfl) (by kernel_rfl) (by kernel_rfl) (fun _ _ _ h => h) (by rfl) ?_ hHeld ?_
   rotate_left
   ·intro W hSw
    go_simp
    try with_reducible rfl
   try simp only [Act.put, zA, zB, zC]
   refine zT 11 31 ?_ rfl (by kernel_rfl) (by kernel_rfl) (by kernel_rfl) (fun _ _ _ h => h) (by rfl) ?_ hHeld ?_
   rotate_left
   ·intro W hSw
    go_simp
    try with_reducible rfl
   try simp only [Act.put, zA, zB, zC]
   refine zU 12 32 rfl (by kernel_rfl) (by kernel_rfl) (by kernel_rfl) (fun _ _ _ h => h) (by rfl) hHeld ?_
   try simp only [Act.put, zA, zB, zC]
   refine zU 13 33 rfl (by kernel_rfl) (by kernel_rfl) (by kernel_rfl) (fun _ _ _ h => h) (by rfl) hHeld ?_
   try simp only [Act.put, zA, zB, zC]
   refine zU 14 34 rfl (by kernel_rfl) (by kernel_rfl) (by kernel_rfl) (fun _ _ _ h => h) (by rfl) hHeld ?_
   try simp only [Act.put, zA, zB, zC]
   refine zU 15 35 rfl (by kernel_rfl) (by kernel_rfl) (by kernel_rfl) (fun _ _ _ h => h) (by rfl) hHeld ?_
   try simp only [Act.put, zA, zB, zC]
   refine zU 16 36 rfl (by kernel_rfl) (by kernel_rfl) (by kernel_rfl) (fun _ _ _ h => h) (by rfl) hHeld ?_
   try simp only [Act.put, zA, zB, zC]
   refine zU 17 37 rfl (by kernel_rfl) (by kernel_rfl) (by kernel_rfl) (fun _ _ _ h => h) (by rfl) hHeld ?_
   try simp only [Act.put, zA, zB, zC]
   refine zT 18 38 ?_ rfl (by kernel_rfl) (by kernel_rfl) (by kernel_rfl) (fun _ _ _ h => h) (by rfl) ?_ hHeld ?_
   rotate_left
   ·intro W hSw
    go_simp
    try with_reducible rfl
   try simp only [Act.put, zA, zB, zC]
   refine zT 19 8 ?_ rfl (by kernel_rfl) (by kernel_rfl) (by kernel_rfl) (fun _ _ _ h => h) (by rfl) ?_ hHeld ?_
   rotate_left
   ·intro W hSw
    go_simp
    try with_reducible rfl
   try simp only [Act.put, zA, zB, zC]
   refine wpAnyH_done (by kernel_rfl) ?_ _
   have HQ : Hid (RR = false /\ Below w.heap.size w w1) := ⟨by rw [<- HRR.out]; exact bel_ok hA, hHeld.1⟩
   clear hHeld HSB HCA
   go_wp2_with fail
   go_ret
   exact ⟨by rw [HQ.out.1]; rfl, HQ.out.2⟩
  | true =>
   by_cases hB : (c.issuer.toList == iss.toList) = true
   rotate_left
   ·have hB2 : (c.issuer.toList == iss.toList) = false := by simpa using hB
    clear hB
    refine zT 3 23 ?_ rfl (by kernel_rfl) (by kernel_rfl) (by kernel_rfl) (fun _ _ _ h => h) (by rfl) ?_ hHeld ?_
    rotate_left
    ·intro W hSw
     go_simp
     try with_reducible rfl
    try simp only [Act.put, zA, zB, zC]
    refine zT 4 24 ?_ rfl (by kernel_rfl) (by kernel_rfl) (by kernel_rfl) (fun _ _ _ h => h) (by rfl) ?_ hHeld ?_
    rotate_left
    ·intro W hSw
     have e0 : W.cell? ⟨gx, 0, none⟩ = some (.string c.issuer) := hSw.2.cell 0
     go_simp
     try with_reducible rfl
    try simp only [Act.put, zA, zB, zC]
    refine zT 5 25 ?_ rfl (by kernel_rfl) (by kernel_rfl) (by kernel_rfl) (fun _ _ _ h => h) (by rfl) ?_ hHeld ?_
    rotate_left
    ·intro W hSw
     go_simp
     try with_reducible rfl
    try simp only [Act.put, zA, zB, zC]
    refine zT 6 26 ?_ rfl (by kernel_rfl) (by kernel_rfl) (by kernel_rfl) (fun _ _ _ h => h) (by rfl) ?_ hHeld ?_
    rotate_left
    ·intro W hSw
     go_simp
     try with_reducible rfl
    try simp only [Act.put, zA, zB, zC]
    refine zT 7 27 ?_ rfl (by kernel_rfl) (by kernel_rfl) (by kernel_rfl) (fun _ _ _ h => h) (by rfl) ?_ hHeld ?_
    rotate_left
    ·intro W hSw
     go_simp
     try with_reducible rfl
    try simp only [Act.put, zA, zB, zC]
    refine zT 8 28 ?_ rfl (by kernel_rfl) (by kernel_rfl) (by kernel_rfl) (fun _ _ _ h => h) (by rfl) ?_ hHeld ?_
    rotate_left
    ·intro W hSw
     go_simp
     try with_reducible rfl
    try simp only [Act.put, zA, zB, zC]
    refine zU 9 29 rfl (by kernel_rfl) (by kernel_rfl) (by kernel_rfl) (fun _ _ _ h => h) (by rfl) hHeld ?_
    try simp only [Act.put, zA, zB, zC]
    refine zT 10 30 ?_ rfl (by kernel_rfl) (by kernel_rfl) (by kernel_rfl) (fun _ _ _ h => h) (by rfl) ?_ hHeld ?_
    rotate_left
    ·intro W hSw
     go_simp
     try with_reducible rfl
    try simp only [Act.put, zA, zB, zC]
    refine zT 11 31 ?_ rfl (by kernel_rfl) (by kernel_rfl) (by kernel_rfl) (fun _ _ _ h => h) (by rfl) ?_ hHeld ?_
    rotate_left
    ·intro W hSw
     go_simp
     try with_reducible rfl
    try simp only [Act.put, zA, zB, zC]
    refine zU 12 32 rfl (by kernel_rfl) (by kernel_rfl) (by kernel_rfl) (fun _ _ _ h => h) (by rfl) hHeld ?_
    try simp only [Act.put, zA, zB, zC]
    refine zU 13 33 rfl (by kernel_rfl) (by kernel_rfl) (by kernel_rfl) (fun _ _ _ h => h) (by rfl) hHeld ?_
    try simp only [Act.put, zA, zB, zC]
    refine zU 14 34 rfl (by kernel_rfl) (by kernel_rfl) (by kernel_rfl) (fun _ _ _ h => h) (by rfl) hHeld ?_
    try simp only [Act.put, zA, zB, zC]
    refine zU 15 35 rfl (by kernel_rfl) (by kernel_rfl) (by kernel_rfl) (fun _ _ _ h => h) (by rfl) hHeld ?_
    try simp only [Act.put, zA, zB, zC]
    refine zU 16 36 rfl (by kernel_rfl) (by kernel_rfl) (by kernel_rfl) (fun _ _ _ h => h) (by rfl) hHeld ?_
    try simp only [Act.put, zA, zB, zC]
    refine zU 17 37 rfl (by kernel_rfl) (by kernel_rfl) (by kernel_rfl) (fun _ _ _ h => h) (by rfl) hHeld ?_
    try simp only [Act.put, zA, zB, zC]
    refine zT 18 38 ?_ rfl (by kernel_rfl) (by kernel_rfl) (by kernel_rfl) (fun _ _ _ h => h) (by rfl) ?_ hHeld ?_
    rotate_left
    ·intro W hSw
     go_simp
     try with_reducible rfl
    try simp only [Act.put, zA, zB, zC]
    refine zT 19 8 ?_ rfl (by kernel_rfl) (by kernel_rfl) (by kernel_rfl) (fun _ _ _ h => h) (by rfl) ?_ hHeld ?_
    rotate_left
    ·intro W hSw
     go_simp
     try with_reducible rfl
    try simp only [Act.put, zA, zB, zC]
    refine wpAnyH_done (by kernel_rfl) ?_ _
    have HQ : Hid (RR = false /\ Below w.heap.size w w1) := ⟨by rw [<- HRR.out]; exact bel_iss hB2, hHeld.1⟩
    clear hHeld HSB HCA
    go_wp2_with fail
    go_ret
    exact ⟨by rw [HQ.out.1]; rfl, HQ.out.2⟩
   refine zT 3 23 ?_ rfl (by kernel_rfl) (by kernel_rfl) (by kernel_rfl) (fun _ _ _ h => h) (by rfl) ?_ hHeld ?_
   rotate_left
   ·intro W hSw
    go_simp
    try with_reducible rfl
   try simp only [Act.put, zA, zB, zC]
   refine zT 4 24 ?_ rfl (by kernel_rfl) (by kernel_rfl) (by kernel_rfl) (fun _ _ _ h => h) (by rfl) ?_ hHeld ?_
   rotate_left
   ·intro W hSw
    have e0 : W.cell? ⟨gx, 0, none⟩ = some (.string c.issuer) := hSw.2.cell 0
    go_simp
    try with_reducible rfl
   try simp only [Act.put, zA, zB, zC]
   refine zT 5 25 ?_ rfl (by kernel_rfl) (by kernel_rfl) (by kernel_rfl) (fun _ _ _ h => h) (by rfl) ?_ hHeld ?_
   rotate_left
   ·intro W hSw
    go_simp
    try with_reducible rfl
   try simp only [Act.put, zA, zB, zC]
   refine zT 6 26 ?_ rfl (by kernel_rfl) (by kernel_rfl) (by kernel_rfl) (fun _ _ _ h => h) (by rfl) ?_ hHeld ?_
   rotate_left
   ·intro W hSw
    go_simp
    try with_reducible rfl
   try simp only [Act.put, zA, zB, zC]
   refine zT 7 27 ?_ rfl (by kernel_rfl) (by kernel_rfl) (by kernel_rfl) (fun _ _ _ h => h) (by rfl) ?_ hHeld ?_
   rotate_left
   ·intro W hSw
    go_simp
    try with_reducible rfl
   try simp only [Act.put, zA, zB, zC]
   refine zT 8 28 ?_ rfl (by kernel_rfl) (by kernel_rfl) (by kernel_rfl) (fun _ _ _ h => h) (by rfl) ?_ hHeld ?_
   rotate_left
   ·intro W hSw
    go_simp
    try with_reducible rfl
   try simp only [Act.put, zA, zB, zC]
   refine zT 9 29 ?_ rfl (by kernel_rfl) (by kernel_rfl) (by kernel_rfl) (fun _ _ _ h => h) (by rfl) ?_ hHeld ?_
   rotate_left
   ·intro W hSw
    go_simp
    try with_reducible rfl
   try simp only [Act.put, zA, zB, zC]
   refine zT 10 30 ?_ rfl (by kernel_rfl) (by kernel_rfl) (by kernel_rfl) (fun _ _ _ h => h) (by rfl) ?_ hHeld ?_
   rotate_left
   ·intro W hSw
    go_simp
    try with_reducible rfl
   try simp only [Act.put, zA, zB, zC]
   refine zT 11 31 ?_ rfl (by kernel_rfl) (by kernel_rfl) (by kernel_rfl) (fun _ _ _ h => h) (by rfl) ?_ hHeld ?_
   rotate_left
   ·intro W hSw
    go_simp
    try with_reducible rfl
   try simp only [Act.put, zA, zB, zC]
   refine zU 12 32 rfl (by kernel_rfl) (by kernel_rfl) (by kernel_rfl) (fun _ _ _ h => h) (by rfl) hHeld ?_
   try simp only [Act.put, zA, zB, zC]
   refine zU 13 33 rfl (by kernel_rfl) (by kernel_rfl) (by kernel_rfl) (fun _ _ _ h => h) (by rfl) hHeld ?_
   try simp only [Act.put, zA, zB, zC]
   refine zU 14 34 rfl (by kernel_rfl) (by kernel_rfl) (by kernel_rfl) (fun _ _ _ h => h) (by rfl) hHeld ?_
   try simp only [Act.put, zA, zB, zC]
   refine zU 15 35 rfl (by kernel_rfl) (by kernel_rfl) (by kernel_rfl) (fun _ _ _ h => h) (by rfl) hHeld ?_
   try simp only [Act.put, zA, zB, zC]
   refine zU 16 36 rfl (by kernel_rfl) (by kernel_rfl) (by kernel_rfl) (fun _ _ _ h => h) (by rfl) hHeld ?_
   try simp only [Act.put, zA, zB, zC]
   refine zU 17 37 rfl (by kernel_rfl) (by kernel_rfl) (by kernel_rfl) (fun _ _ _ h => h) (by rfl) hHeld ?_
   try simp only [Act.put, zA, zB, zC]
   refine zT 18 38 ?_ rfl (by kernel_rfl) (by kernel_rfl) (by kernel_rfl) (fun _ _ _ h => h) (by rfl) ?_ hHeld ?_
   rotate_left
   ·intro W hSw
    go_simp
    try with_reducible rfl
   try simp only [Act.put, zA, zB, zC]
   refine zT 19 8 ?_ rfl (by kernel_rfl) (by kernel_rfl) (by kernel_rfl) (fun _ _ _ h => h) (by rfl) ?_ hHeld ?_
   rotate_left
   ·intro W hSw
    go_simp
    try with_reducible rfl
   try simp only [Act.put, zA, zB, zC]
   refine wpAnyH_done (by kernel_rfl) ?_ _
   have HQ : Hid (RR = false /\ Below w.heap.size w w1) := ⟨by rw [<- HRR.out]; exact bel_nxt hD, hHeld.1⟩
   clear hHeld HSB HCA
   go_wp2_with fail
   go_ret
   exact ⟨by rw [HQ.out.1]; rfl, HQ.out.2⟩
 go_upto_region 2 with fail
 clear t2 t3
 have hDr : Below V.heap.size V V.drew := (Below.refl _ _).drew
 refine wp_region_held_drew (S := fun W => CS w W gx #[.string c.issuer, .int .i64 c.num, .int .i64 c.ths, .int .i64 c.nxt, .int .i64 c.bas, .slice p1 m1 q1, .string c.sig]) (by kernel_rfl) (HV.out.below hDr) (fun hHeld => ?_)
 clear hDr HV
 generalize V.drew = wd at hHeld |-
 refine zT 0 20 ?_ rfl (by kernel_rfl) (by kernel_rfl) (by kernel_rfl) (fun _ _ _ h => h) (by rfl) ?_ hHeld ?_
 rotate_left
 ·intro W hSw
  have e0 : W.cell? ⟨gx, 0, none⟩ = some (.string c.issuer) := hSw.2.cell 0
  have e1 : W.cell? ⟨gx, 1, none⟩ = some (.int .i64 c.num) := hSw.2.cell 1
  have e2 : W.cell? ⟨gx, 2, none⟩ = some (.int .i64 c.ths) := hSw.2.cell 2
  have e3 : W.cell? ⟨gx, 3, none⟩ = some (.int .i64 c.nxt) := hSw.2.cell 3
  have e4 : W.cell? ⟨gx, 4, none⟩ = some (.int .i64 c.bas) := hSw.2.cell 4
  have e5 : W.cell? ⟨gx, 5, none⟩ = some (.slice p1 m1 q1) := hSw.2.cell 5
  have e6 : W.cell? ⟨gx, 6, none⟩ = some (.string c.sig) := hSw.2.cell 6
  go_simp
  try with_reducible rfl
 try simp only [Act.put, zA, zB, zC]
 refine wpAnyH_ready (rs := [1]) (by kernel_rfl) (by simp) ?_
 refine AllReadyH.cons (o := ⟨some 21, _, _, _, _, _⟩) rfl (fun K hK => ?_) AllReadyH.nil
 have EQ := implCrlOk_any c (.agg #[.string c.issuer, .int .i64 c.num, .int .i64 c.ths, .int .i64 c.nxt, .int .i64 c.bas, .slice p1 m1 q1, .string c.sig]) wd (Nat.le_trans HW.out.1 (by decide)) (HCA.out _ hHeld)
 try unfold clV at EQ
 go_simp
 refine EQ.mono ?_
 rintro e w1 ⟨rfl, hb⟩
 have hS3 := HSB.out _ _ hHeld hb
 clear hb EQ
 refine hK.out _ _ hS3 (fun hHeld => ?_)
 clear hK K hS3
 try simp only [Act.put, zA, zB, zC]
 obtain ⟨A, hA⟩ : ∃ b, crlOk c = b := ⟨_, rfl⟩
 rw [hA]
 refine zT 2 22 ?_ rfl (by kernel_rfl) (by kernel_rfl) (by kernel_rfl) (fun _ _ _ h => h) (by rfl) ?_ hHeld ?_
 rotate_left
 ·intro W hSw
  go_simp
  try with_reducible rfl
 try simp only [Act.put, zA, zB, zC]
 cases A with
 | false =>
  refine zU 3 23 rfl (by kernel_rfl) (by kernel_rfl) (by kernel_rfl) (fun _ _ _ h => h) (by rfl) hHeld ?_
  try simp only [Act.put, zA, zB, zC]
  refine zU 4 24 rfl (by kernel_rfl) (by kernel_rfl) (by kernel_rfl) (fun _ _ _ h => h) (by rfl) hHeld ?_
  try simp only [Act.put, zA, zB, zC]
  refine zU 5 25 rfl (by kernel_rfl) (by kernel_rfl) (by kernel_rfl) (fun _ _ _ h => h) (by rfl) hHeld ?_
  try simp only [Act.put, zA, zB, zC]
  refine zU 6 26 rfl (by kernel_rfl) (by kernel_rfl) (by kernel_rfl) (fun _ _ _ h => h) (by rfl) hHeld ?_
  try simp only [Act.put, zA, zB, zC]
  refine zT 7 27 ?_ rfl (by kernel_rfl) (by kernel_rfl) (by kernel_rfl) (fun _ _ _ h => h) (by rfl) ?_ hHeld ?_
  rotate_left
  ·intro W hSw
   go_simp
   try with_reducible rfl
  try simp only [Act.put, zA, zB, zC]
  refine zT 8 28 ?_ rfl (by kernel_rfl) (by kernel_rfl) (by kernel_rfl) (fun _ _ _ h => h) (by rfl) ?_ hHeld ?_
  rotate_left
  ·intro W hSw
   go_simp
   try with_reducible rfl
  try simp only [Act.put, zA, zB, zC]
  refine zU 9 29 rfl (by kernel_rfl) (by kernel_rfl) (by kernel_rfl) (fun _ _ _ h => h) (by rfl) hHeld ?_
  try simp only [Act.put, zA, zB, zC]
  refine zT 10 30 ?_ rfl (by kernel_rfl) (by kernel_rfl) (by kernel_rfl) (fun _ _ _ h => h) (by rfl) ?_ hHeld ?_
  rotate_left
  ·intro W hSw
   go_simp
   try with_reducible rfl
  try simp only [Act.put, zA, zB, zC]
  refine zT 11 31 ?_ rfl (by kernel_rfl) (by kernel_rfl) (by kernel_rfl) (fun _ _ _ h => h) (by rfl) ?_ hHeld ?_
  rotate_left
  ·intro W hSw
   go_simp
   try with_reducible rfl
  try simp only [Act.put, zA, zB, zC]
  refine zU 12 32 rfl (by kernel_rfl) (by kernel_rfl) (by kernel_rfl) (fun _ _ _ h => h) (by rfl) hHeld ?_
  try simp only [Act.put, zA, zB, zC]
  refine zU 13 33 rfl (by kernel_rfl) (by kernel_rfl) (by kernel_rfl) (fun _ _ _ h => h) (by rfl) hHeld ?_
  try simp only [Act.put, zA, zB, zC]
  refine zU 14 34 rfl (by kernel_rfl) (by kernel_rfl) (by kernel_rfl) (fun _ _ _ h => h) (by rfl) hHeld ?_
  try simp only [Act.put, zA, zB, zC]
  refine zU 15 35 rfl (by kernel_rfl) (by kernel_rfl) (by kernel_rfl) (fun _ _ _ h => h) (by rfl) hHeld ?_
  try simp only [Act.put, zA, zB, zC]
  refine zU 16 36 rfl (by kernel_rfl) (by kernel_rfl) (by kernel_rfl) (fun _ _ _ h => h) (by rfl) hHeld ?_
  try simp only [Act.put, zA, zB, zC]
  refine zU 17 37 rfl (by kernel_rfl) (by kernel_rfl) (by kernel_rfl) (fun _ _ _ h => h) (by rfl) hHeld ?_
  try simp only [Act.put, zA, zB, zC]
  refine zT 18 38 ?_ rfl (by kernel_rfl) (by kernel_rfl) (by kernel_rfl) (fun _ _ _ h => h) (by rfl) ?_ hHeld ?_
  rotate_left
  ·intro W hSw
   go_simp
   try with_reducible rfl
  try simp only [Act.put, zA, zB, zC]
  refine zT 19 8 ?_ rfl (by kernel_rfl) (by kernel_rfl) (by kernel_rfl) (fun _ _ _ h => h) (by rfl) ?_ hHeld ?_
  rotate_left
  ·intro W hSw
   go_simp
   try with_reducible rfl
  try simp only [Act.put, zA, zB, zC]
  refine wpAnyH_done (by kernel_rfl) ?_ _
  have HQ : Hid (RR = false /\ Below w.heap.size w w1) := ⟨by rw [<- HRR.out]; exact bel_ok hA, hHeld.1⟩
  clear hHeld HSB HCA
  go_wp2_with fail
  go_ret
  exact ⟨by rw [HQ.out.1]; rfl, HQ.out.2⟩
 | true =>
  by_cases hB : (c.issuer.toList == iss.toList) = true
  rotate_left
  ·have hB2 : (c.issuer.toList == iss.toList) = false := by simpa using hB
   clear hB
   refine zT 3 23 ?_ rfl (by kernel_rfl) (by kernel_rfl) (by kernel_rfl) (fun _ _ _ h => h) (by rfl) ?_ hHeld ?_
   rotate_left
   ·intro W hSw
    go_simp
    try with_reducible rfl
   try simp only [Act.put, zA, zB, zC]
   refine zT 4 24 ?_ rfl (by kernel_rfl) (by kernel_rfl) (by kernel_rfl) (fun _ _ _ h => h) (by rfl) ?_ hHeld ?_
   rotate_left
   ·intro W hSw
    have e0 : W.cell? ⟨gx, 0, none⟩ = some (.string c.issuer) := hSw.2.cell 0
    go_simp
    try with_reducible rfl
   try simp only [Act.put, zA, zB, zC]
   refine zT 5 25 ?_ rfl (by kernel_rfl) (by kernel_rfl) (by kernel_rfl) (fun _ _ _ h => h) (by rfl) ?_ hHeld ?_
   rotate_left
   ·intro W hSw
    go_simp
    try with_reducible rfl
   try simp only [Act.put, zA, zB, zC]
   refine zT 6 26 ?_ rfl (by kernel_rfl) (by kernel_rfl) (by kernel_rfl) (fun _ _ _ h => h) (by rfl) ?_ hHeld ?_
   rotate_left
   ·intro W hSw
    go_simp
    try with_reducible rfl
   try simp only [Act.put, zA, zB, zC]
   refine zT 7 27 ?_ rfl (by kernel_rfl) (by kernel_rfl) (by kernel_rfl) (fun _ _ _ h => h) (by rfl) ?_ hHeld ?_
   rotate_left
   ·intro W hSw
    go_simp
    try with_reducible rfl
   try simp only [Act.put, zA, zB, zC]
   refine zT 8 28 ?_ rfl (by kernel_rfl) (by kernel_rfl) (by kernel_rfl) (fun _ _ _ h => h) (by rfl) ?_ hHeld ?_
   rotate_left
   ·intro W hSw
    go_simp
    try with_reducible rfl
   try simp only [Act.put, zA, zB, zC]
   refine zU 9 29 rfl (by kernel_rfl) (by kernel_rfl) (by kernel_rfl) (fun _ _ _ h => h) (by rfl) hHeld ?_
   try simp only [Act.put, zA, zB, zC]
   refine zT 10 30 ?_ rfl (by kernel_rfl) (by kernel_rfl) (by kernel_rfl) (fun _ _ _ h => h) (by rfl) ?_ hHeld ?_
   rotate_left
   ·intro W hSw
    go_simp
    try with_reducible rfl
   try simp only [Act.put, zA, zB, zC]
   refine zT 11 31 ?_ rfl (by kernel_rfl) (by kernel_rfl) (by kernel_rfl) (fun _ _ _ h => h) (by rfl) ?_ hHeld ?_
   rotate_left
   ·intro W hSw
    go_simp
    try with_reducible rfl
   try simp only [Act.put, zA, zB, zC]
   refine zU 12 32 rfl (by kernel_rfl) (by kernel_rfl) (by kernel_rfl) (fun _ _ _ h => h) (by rfl) hHeld ?_
   try simp only [Act.put, zA, zB, zC]
   refine zU 13 33 rfl (by kernel_rfl) (by kernel_rfl) (by kernel_rfl) (fun _ _ _ h => h) (by rfl) hHeld ?_
   try simp only [Act.put, zA, zB, zC]
   refine zU 14 34 rfl (by kernel_rfl) (by kernel_rfl) (by kernel_rfl) (fun _ _ _ h => h) (by rfl) hHeld ?_
   try simp only [Act.put, zA, zB, zC]
   refine zU 15 35 rfl (by kernel_rfl) (by kernel_rfl) (by kernel_rfl) (fun _ _ _ h => h) (by rfl) hHeld ?_
   try simp only [Act.put, zA, zB, zC]
   refine zU 16 36 rfl (by kernel_rfl) (by kernel_rfl) (by kernel_rfl) (fun _ _ _ h => h) (by rfl) hHeld ?_
   try simp only [Act.put, zA, zB, zC]
   refine zU 17 37 rfl (by kernel_rfl) (by kernel_rfl) (by kernel_rfl) (fun _ _ _ h => h) (by rfl) hHeld ?_
   try simp only [Act.put, zA, zB, zC]
   refine zT 18 38 ?_ rfl (by kernel_rfl) (by kernel_rfl) (by kernel_rfl) (fun _ _ _ h => h) (by rfl) ?_ hHeld ?_
   rotate_left
   ·intro W hSw
    go_simp
    try with_reducible rfl
   try simp only [Act.put, zA, zB, zC]
   refine zT 19 8 ?_ rfl (by kernel_rfl) (by kernel_rfl) (by kernel_rfl) (fun _ _ _ h => h) (by rfl) ?_ hHeld ?_
   rotate_left
   ·intro W hSw
    go_simp
    try with_reducible rfl
   try simp only [Act.put, zA, zB, zC]
   refine wpAnyH_done (by kernel_rfl) ?_ _
   have HQ : Hid (RR = false /\ Below w.heap.size w w1) := ⟨by rw [<- HRR.out]; exact bel_iss hB2, hHeld.1⟩
   clear hHeld HSB HCA
   go_wp2_with fail
   go_ret
   exact ⟨by rw [HQ.out.1]; rfl, HQ.out.2⟩
  refine zT 3 23 ?_ rfl (by kernel_rfl) (by kernel_rfl) (by kernel_rfl) (fun _ _ _ h => h) (by rfl) ?_ hHeld ?_
  rotate_left
  ·intro W hSw
   go_simp
   try with_reducible rfl
  try simp only [Act.put, zA, zB, zC]
  refine zT 4 24 ?_ rfl (by kernel_rfl) (by kernel_rfl) (by kernel_rfl) (fun _ _ _ h => h) (by rfl) ?_ hHeld ?_
  rotate_left
  ·intro W hSw
   have e0 : W.cell? ⟨gx, 0, none⟩ = some (.string c.issuer) := hSw.2.cell 0
   go_simp
   try with_reducible rfl
  try simp only [Act.put, zA, zB, zC]
  refine zT 5 25 ?_ rfl (by kernel_rfl) (by kernel_rfl) (by kernel_rfl) (fun _ _ _ h => h) (by rfl) ?_ hHeld ?_
  rotate_left
  ·intro W hSw
   go_simp
   try with_reducible rfl
  try simp only [Act.put, zA, zB, zC]
  refine zT 6 26 ?_ rfl (by kernel_rfl) (by kernel_rfl) (by kernel_rfl) (fun _ _ _ h => h) (by rfl) ?_ hHeld ?_
  rotate_left
  ·intro W hSw
   go_simp
   try with_reducible rfl
  try simp only [Act.put, zA, zB, zC]
  refine zT 7 27 ?_ rfl (by kernel_rfl) (by kernel_rfl) (by kernel_rfl) (fun _ _ _ h => h) (by rfl) ?_ hHeld ?_
  rotate_left
  ·intro W hSw
   go_simp
   try with_reducible rfl
  try simp only [Act.put, zA, zB, zC]
  refine zT 8 28 ?_ rfl (by kernel_rfl) (by kernel_rfl) (by kernel_rfl) (fun _ _ _ h => h) (by rfl) ?_ hHeld ?_
  rotate_left
  ·intro W hSw
   go_simp
   try with_reducible rfl
  try simp only [Act.put, zA, zB, zC]
  refine zT 9 29 ?_ rfl (by kernel_rfl) (by kernel_rfl) (by kernel_rfl) (fun _ _ _ h => h) (by rfl) ?_ hHeld ?_
  rotate_left
  ·intro W hSw
   go_simp
   try with_reducible rfl
  try simp only [Act.put, zA, zB, zC]
  refine zT 10 30 ?_ rfl (by kernel_rfl) (by kernel_rfl) (by kernel_rfl) (fun _ _ _ h => h) (by rfl) ?_ hHeld ?_
  rotate_left
  ·intro W hSw
   go_simp
   try with_reducible rfl
  try simp only [Act.put, zA, zB, zC]
  refine zT 11 31 ?_ rfl (by kernel_rfl) (by kernel_rfl) (by kernel_rfl) (fun _ _ _ h => h) (by rfl) ?_ hHeld ?_
  rotate_left
  ·intro W hSw
   go_simp
   try with_reducible rfl
  try simp only [Act.put, zA, zB, zC]
  obtain ⟨T, hT⟩ : ∃ T, (⟨((writeI 4 (bodyL c)).getD []).toArray⟩ : ByteArray) = T := ⟨_, rfl⟩
  have HT : Hid ((⟨((writeI 4 (bodyL c)).getD []).toArray⟩ : ByteArray) = T /\ T.size <= 1048576) := ⟨hT, by rw [<- hT]; exact write_small c⟩
  obtain ⟨SG, hSG⟩ : ∃ b, sokB key T c.sig = b := ⟨_, rfl⟩
  have HBL : Hid (RR = SG) := by show _ = _; rw [<- HRR.out, bel_all hA hB hC hD, hT, hSG]
  refine zT 12 32 ?_ rfl (by kernel_rfl) (by kernel_rfl) (by kernel_rfl) (fun _ _ _ h => h) (by rfl) ?_ hHeld ?_
  rotate_left
  ·intro W hSw
   go_simp
   try with_reducible rfl
  try simp only [Act.put, zA, zB, zC]
  refine zT 13 33 ?_ rfl (by kernel_rfl) (by kernel_rfl) (by kernel_rfl) (fun _ _ _ h => h) (by rfl) ?_ hHeld ?_
  rotate_left
  ·intro W hSw
   have e0 : W.cell? ⟨gx, 0, none⟩ = some (.string c.issuer) := hSw.2.cell 0
   have e1 : W.cell? ⟨gx, 1, none⟩ = some (.int .i64 c.num) := hSw.2.cell 1
   have e2 : W.cell? ⟨gx, 2, none⟩ = some (.int .i64 c.ths) := hSw.2.cell 2
   have e3 : W.cell? ⟨gx, 3, none⟩ = some (.int .i64 c.nxt) := hSw.2.cell 3
   have e4 : W.cell? ⟨gx, 4, none⟩ = some (.int .i64 c.bas) := hSw.2.cell 4
   have e5 : W.cell? ⟨gx, 5, none⟩ = some (.slice p1 m1 q1) := hSw.2.cell 5
   have e6 : W.cell? ⟨gx, 6, none⟩ = some (.string c.sig) := hSw.2.cell 6
   go_simp
   try with_reducible rfl
  try simp only [Act.put, zA, zB, zC]
  refine zT 15 35 ?_ rfl (by kernel_rfl) (by kernel_rfl) (by kernel_rfl) (fun _ _ _ h => h) (by rfl) ?_ hHeld ?_
  rotate_left
  ·intro W hSw
   go_simp
   try with_reducible rfl
  try simp only [Act.put, zA, zB, zC]
  refine zT 16 36 ?_ rfl (by kernel_rfl) (by kernel_rfl) (by kernel_rfl) (fun _ _ _ h => h) (by rfl) ?_ hHeld ?_
  rotate_left
  ·intro W hSw
   have e6 : W.cell? ⟨gx, 6, none⟩ = some (.string c.sig) := hSw.2.cell 6
   go_simp
   try with_reducible rfl
  try simp only [Act.put, zA, zB, zC]
  refine wpAnyH_ready (rs := [14]) (by kernel_rfl) (by simp) ?_
  refine AllReadyH.cons (o := ⟨some 34, _, _, _, _, _⟩) rfl (fun K hK => ?_) AllReadyH.nil
  have EQ := implCrlBody_any c (.agg #[.string c.issuer, .int .i64 c.num, .int .i64 c.ths, .int .i64 c.nxt, .int .i64 c.bas, .slice p1 m1 q1, .string c.sig]) w1 HW.out.1 HW.out.2 (HCA.out _ hHeld)
  rw [hT] at EQ
  try unfold clV at EQ
  go_simp
  refine EQ.mono ?_
  rintro e w2 ⟨rfl, hb⟩
  have hS3 := HSB.out _ _ hHeld hb
  clear hb EQ
  refine hK.out _ _ hS3 (fun hHeld => ?_)
  clear hK K hS3
  try simp only [Act.put, zA, zB, zC]
  refine wpAnyH_ready (rs := [17]) (by kernel_rfl) (by simp) ?_
  refine AllReadyH.cons (o := ⟨some 37, _, _, _, _, _⟩) rfl (fun K hK => ?_) AllReadyH.nil
  have EQ := implSok_any key T c.sig w2 HA.out.2.1 HT.out.2 (wtL_parts HW.out.1).2.2 (HA.out.2.2 _ hHeld.1).1 (HA.out.2.2 _ hHeld.1).2
  rw [hSG] at EQ
  try unfold clV at EQ
  go_simp
  refine EQ.mono ?_
  rintro e w3 ⟨rfl, hb⟩
  have hS3 := HSB.out _ _ hHeld hb
  clear hb EQ
  refine hK.out _ _ hS3 (fun hHeld => ?_)
  clear hK K hS3
  try simp only [Act.put, zA, zB, zC]
  refine zT 18 38 ?_ rfl (by kernel_rfl) (by kernel_rfl) (by kernel_rfl) (fun _ _ _ h => h) (by rfl) ?_ hHeld ?_
  rotate_left
  ·intro W hSw
   go_simp
   try with_reducible rfl
  try simp only [Act.put, zA, zB, zC]
  refine zT 19 8 ?_ rfl (by kernel_rfl) (by kernel_rfl) (by kernel_rfl) (fun _ _ _ h => h) (by rfl) ?_ hHeld ?_
  rotate_left
  ·intro W hSw
   go_simp
   try with_reducible rfl
  try simp only [Act.put, zA, zB, zC]
  refine wpAnyH_done (by kernel_rfl) ?_ _
  have HQ : Hid (RR = SG /\ Below w.heap.size w w3) := ⟨HBL.out, hHeld.1⟩
  clear hHeld HSB HCA hT hSG HT
  go_wp2_with fail
  go_ret
  exact ⟨by rw [HQ.out.1]; rfl, HQ.out.2⟩
set_option maxHeartbeats 25600000 in
theorem implCrlsOf_any (l : List Cl) (v : Value) (iss key : ByteArray) (time : Int) (bs : Nat) (fp : List Nat) (w : World) (hl : wtS l <= 1048576) (hwd : ∀ c ∈ l, WdL c) (hk : key.size <= 1048576) (hH : ∀ w', Below w.heap.size w w' -> KeysOk w' /\ StartOk w') (ha : OwnS crlKd w bs v l fp) :
  Calls Tryz.prog 48 #[v, .string iss, .string key, .int .i64 time] w fun e w' => CoPost w (l.filter (belB iss key time)) e w' := by
 obtain ⟨ao, cap, hv, hg⟩ := ha.row
 obtain ⟨n, hn⟩ : ∃ n, l.length = n := ⟨_, rfl⟩
 rw [hn] at hv hg
 subst hv
 have hn20 : n <= 1048576 := by unfold wtS at hl; omega
 have HA : Hid (OwnS crlKd w bs (.slice ao n cap) l fp /\ l.length = n /\ wtS l <= 1048576 /\ (0 < n -> ∃ g, ao = some ⟨g, 0, none⟩ /\ g < w.heap.size) /\ (∀ c ∈ l, WdL c) /\ key.size <= 1048576) := ⟨ha, hn, hl, hg, hwd, hk⟩
 have HTB : Hid (∀ w', Below w.heap.size w w' -> KeysOk w' /\ StartOk w') := hH
 clear ha hn hl hg hwd hk hH
 have H1 : Hid (Below w.heap.size w w /\ OwnS crlKd w w.heap.size (.slice none 0 0) [] []) := ⟨Below.refl _ _, OwnS.nil _ _ _⟩
 go_enter Tryz.func48, Tryz.ntmps48
 go_wp2_with fail
 go_loopw [9, 14] (fun ov iv wr => ∃ k : Nat, k <= n /\ iv = .int .i64 k /\ Hid (∃ fpo, Below w.heap.size w wr /\ OwnS crlKd wr w.heap.size ov ((l.take k).filter (belB iss key time)) fpo)) (fun _ iv _ => n - (intOf iv).toNat)
 case atStart => exact ⟨0, Nat.zero_le _, rfl, _, H1.out⟩
 case round =>
  clear H1
  obtain ⟨k, hk, rfl, H0⟩ := hrel
  obtain ⟨fpo, hH⟩ := H0.out
  have H : Hid (Below w.heap.size w wr /\ OwnS crlKd wr w.heap.size u9 ((l.take k).filter (belB iss key time)) fpo) := hH
  clear H0 hH
  by_cases hkn : k < n
  ·have hkl : k < l.length := by rw [HA.out.2.1]; exact hkn
   obtain ⟨g, hg, hgw⟩ := HA.out.2.2.2.1 (by omega)
   subst hg
   obtain ⟨p1, q1, hoc, hc1⟩ := HA.out.1.one HA.out.2.1.symm hkl
   have hki : (k : Int) < (n : Int) := by omega
   have hk0 : (0 : Int) <= (k : Int) := by omega
   obtain ⟨c, hc⟩ : ∃ c, l.getD k zeL = c := ⟨_, rfl⟩
   have HFN : Hid ((l.take (k + 1)).filter (belB iss key time) = (l.take k).filter (belB iss key time) ++ (if belB iss key time c = true then [c] else [])) := by show _ = _; rw [filter_next hkl, hc]
   have HW : Hid (wtL c <= 1048576 /\ WdL c) := by rw [<- hc]; exact ⟨wtS_getD2 HA.out.2.2.1 hkl, wd_getD HA.out.2.2.2.2.1 hkl⟩
   rw [hc] at hc1 hoc
   obtain ⟨m1, hm1⟩ : ∃ m, c.revs.length = m := ⟨_, rfl⟩
   rw [hm1] at hc1 hoc
   have x0 : wr.cell? ⟨g, k * 7, none⟩ = some (.string c.issuer) := (H.out.1.cell (p := ⟨g, k * 7, none⟩) hgw).trans (hc1 0 _ rfl)
   have x1 : wr.cell? ⟨g, k * 7 + 1, none⟩ = some (.int .i64 c.num) := (H.out.1.cell (p := ⟨g, k * 7 + 1, none⟩) hgw).trans (hc1 1 _ rfl)
   have x2 : wr.cell? ⟨g, k * 7 + 2, none⟩ = some (.int .i64 c.ths) := (H.out.1.cell (p := ⟨g, k * 7 + 2, none⟩) hgw).trans (hc1 2 _ rfl)
   have x3 : wr.cell? ⟨g, k * 7 + 3, none⟩ = some (.int .i64 c.nxt) := (H.out.1.cell (p := ⟨g, k * 7 + 3, none⟩) hgw).trans (hc1 3 _ rfl)
   have x4 : wr.cell? ⟨g, k * 7 + 4, none⟩ = some (.int .i64 c.bas) := (H.out.1.cell (p := ⟨g, k * 7 + 4, none⟩) hgw).trans (hc1 4 _ rfl)
   have x5 : wr.cell? ⟨g, k * 7 + 5, none⟩ = some (.slice p1 m1 q1) := (H.out.1.cell (p := ⟨g, k * 7 + 5, none⟩) hgw).trans (hc1 5 _ rfl)
   have x6 : wr.cell? ⟨g, k * 7 + 6, none⟩ = some (.string c.sig) := (H.out.1.cell (p := ⟨g, k * 7 + 6, none⟩) hgw).trans (hc1 6 _ rfl)
   have HOC : Hid (OwnL wr bs (.agg #[.string c.issuer, .int .i64 c.num, .int .i64 c.ths, .int .i64 c.nxt, .int .i64 c.bas, .slice p1 m1 q1, .string c.sig]) c) := hoc.stays H.out.1
   obtain ⟨V, hV⟩ : ∃ V, V = wr.alloc (Obj.cells #[.string c.issuer, .int .i64 c.num, .int .i64 c.ths, .int .i64 c.nxt, .int .i64 c.bas, .slice p1 m1 q1, .string c.sig] 49) := ⟨_, rfl⟩
   obtain ⟨gx, hgx⟩ : ∃ q, wr.heap.size = q := ⟨_, rfl⟩
   have HV : Hid (CS wr V gx #[.string c.issuer, .int .i64 c.num, .int .i64 c.ths, .int .i64 c.nxt, .int .i64 c.bas, .slice p1 m1 q1, .string c.sig]) := by rw [hV, <- hgx]; exact ⟨(Below.refl _ _).alloc (Nat.le_refl _) _, Blk.new _ _ _⟩
   clear hc1 hm1 hc hoc
   go_upto_region 5 with fail
   rw [<- hV]
   try rw [hgx]
   clear hV hgx x0 x1 x2 x3 x4 x5 x6 hgw
   obtain ⟨BL, hBL⟩ : ∃ b, belB iss key time c = b := ⟨_, rfl⟩
   have HBL : Hid (belB iss key time c = BL) := hBL
   have hBw : Below w.heap.size w V := H.out.1.trans (HV.out.1.mono H.out.1.size)
   have EB := believed_any c (.agg #[.string c.issuer, .int .i64 c.num, .int .i64 c.ths, .int .i64 c.nxt, .int .i64 c.bas, .slice p1 m1 q1, .string c.sig]) iss key time V HW.out.1 HW.out.2 HA.out.2.2.2.2.2 (fun w' hb => HTB.out w' (hBw.trans (hb.mono hBw.size))) (HOC.out.stays HV.out.1).at
   rw [hBL] at EB
   clear hBL hBw
   have e0 : V.cell? ⟨gx, 0, none⟩ = some (.string c.issuer) := HV.out.2.cell 0
   have e1 : V.cell? ⟨gx, 1, none⟩ = some (.int .i64 c.num) := HV.out.2.cell 1
   have e2 : V.cell? ⟨gx, 2, none⟩ = some (.int .i64 c.ths) := HV.out.2.cell 2
   have e3 : V.cell? ⟨gx, 3, none⟩ = some (.int .i64 c.nxt) := HV.out.2.cell 3
   have e4 : V.cell? ⟨gx, 4, none⟩ = some (.int .i64 c.bas) := HV.out.2.cell 4
   have e5 : V.cell? ⟨gx, 5, none⟩ = some (.slice p1 m1 q1) := HV.out.2.cell 5
   have e6 : V.cell? ⟨gx, 6, none⟩ = some (.string c.sig) := HV.out.2.cell 6
   go_wp2_with fail
   refine EB.mono ?_
   rintro e w3 ⟨rfl, hb3⟩
   have hHeld : CS wr w3 gx #[.string c.issuer, .int .i64 c.num, .int .i64 c.ths, .int .i64 c.nxt, .int .i64 c.bas, .slice p1 m1 q1, .string c.sig] := HV.out.below hb3
   clear hb3 HV EB e0 e1 e2 e3 e4 e5 e6
   cases BL with
   | false =>
    have HF : Hid ((l.take (k + 1)).filter (belB iss key time) = (l.take k).filter (belB iss key time)) := by show _ = _; rw [HFN.out, HBL.out, if_neg Bool.false_ne_true, List.append_nil]
    have HD : Hid (∃ fpo, Below w.heap.size w w3 /\ OwnS crlKd w3 w.heap.size u9 ((l.take (k + 1)).filter (belB iss key time)) fpo) := ⟨fpo, H.out.1.trans (hHeld.1.mono H.out.1.size), by rw [HF.out]; exact H.out.2.stays hHeld.1⟩
    clear H hHeld HF HFN HOC
    go_wp2_with fail
    go_roundw
    case rel => exact ⟨k + 1, by omega, by go_num, HD.out⟩
    case measure => simp [intOf]; omega
   | true =>
    have HF : Hid ((l.take (k + 1)).filter (belB iss key time) = (l.take k).filter (belB iss key time) ++ [c]) := by show _ = _; rw [HFN.out, HBL.out, if_pos rfl]
    have HL0 : Hid (((l.take k).filter (belB iss key time)).length <= 1048576) := by show _ <= _; have h1 := List.length_filter_le (belB iss key time) (l.take k); have h2 := List.length_take_le k l; omega
    obtain ⟨LF, hLF⟩ : ∃ q, (l.take k).filter (belB iss key time) = q := ⟨_, rfl⟩
    rw [hLF] at HF HL0 H
    clear hLF HFN HBL
    obtain ⟨va, vc, hvo, -⟩ := H.out.2.shape
    obtain ⟨ln, hln⟩ : ∃ q, LF.length = q := ⟨_, rfl⟩
    rw [hln] at hvo
    subst hvo
    have HX : Hid (CS wr w3 gx #[.string c.issuer, .int .i64 c.num, .int .i64 c.ths, .int .i64 c.nxt, .int .i64 c.bas, .slice p1 m1 q1, .string c.sig]) := hHeld
    have EC := ownCrl_any c (.agg #[.string c.issuer, .int .i64 c.num, .int .i64 c.ths, .int .i64 c.nxt, .int .i64 c.bas, .slice p1 m1 q1, .string c.sig]) bs w3 (by have := (wtL_parts HW.out.1).2.1; omega) (by have := (wtL_parts HW.out.1).1; omega) (by have := (wtL_parts HW.out.1).2.2; omega) (HOC.out.stays hHeld.1)
    have e0 : w3.cell? ⟨gx, 0, none⟩ = some (.string c.issuer) := HX.out.2.cell 0
    have e1 : w3.cell? ⟨gx, 1, none⟩ = some (.int .i64 c.num) := HX.out.2.cell 1
    have e2 : w3.cell? ⟨gx, 2, none⟩ = some (.int .i64 c.ths) := HX.out.2.cell 2
    have e3 : w3.cell? ⟨gx, 3, none⟩ = some (.int .i64 c.nxt) := HX.out.2.cell 3
    have e4 : w3.cell? ⟨gx, 4, none⟩ = some (.int .i64 c.bas) := HX.out.2.cell 4
    have e5 : w3.cell? ⟨gx, 5, none⟩ = some (.slice p1 m1 q1) := HX.out.2.cell 5
    have e6 : w3.cell? ⟨gx, 6, none⟩ = some (.string c.sig) := HX.out.2.cell 6
    clear hHeld
    go_wp2_with fail
    refine EC.mono ?_
    rintro e w5 ⟨u5, rfl, ⟨p5, rfl, ho5⟩, hb5⟩
    obtain ⟨qa, qc, hq5, -, -, -⟩ := OwnR.shape ho5
    subst hq5
    have H5 : Hid ((Below w.heap.size w w5 /\ OwnS crlKd w5 w.heap.size (.slice va ln vc) LF fpo) /\ OwnL w5 w.heap.size (clV c (.slice qa c.revs.length qc)) c /\ (∀ b ∈ fpL (clV c (.slice qa c.revs.length qc)), b ∉ fpo) /\ w.heap.size <= w5.heap.size) := by
     have hb : Below wr.heap.size wr w5 := HX.out.1.trans (hb5.mono HX.out.1.size)
     have h1 := H.out.1.size
     have h2 := HX.out.1.size
     refine ⟨⟨H.out.1.trans (hb.mono H.out.1.size), H.out.2.stays hb⟩, ⟨_, rfl, OwnR.base ho5 (by omega)⟩, fun b hb1 hm => ?_, by have := hb5.size; omega⟩
     have h3 := (H.out.2.lt b hm).2
     have h4 := (World.ownsRow.lt ho5 b (fpL_mem.1 hb1)).1
     omega
    clear EC ho5 hb5 H HX e0 e1 e2 e3 e4 e5 e6
    unfold clV
    go_wp2_with (at_builtin; refine wpList_append_crl rfl _ _ rfl w.heap.size (.slice va ln vc) LF fpo c (.slice qa c.revs.length qc) rfl _ rfl rfl H5.out.1.2 H5.out.2.1 H5.out.2.2.1 H5.out.2.2.2 (by have := HL0.out; omega) ?_)
    intro g9 cap9 w9 fp9 hO9 hb9
    have HD : Hid (∃ fpo, Below w.heap.size w w9 /\ OwnS crlKd w9 w.heap.size (.slice (some ⟨g9, 0, none⟩) (ln + 1) cap9) ((l.take (k + 1)).filter (belB iss key time)) fpo) := ⟨fp9, H5.out.1.1.trans hb9, by rw [HF.out]; first | exact hO9 | (have h := hO9; rw [List.length_append, hln] at h; exact h)⟩
    clear hO9 hb9 H5 HF
    go_wp2_with fail
    go_roundw
    case rel => exact ⟨k + 1, by omega, by go_num, HD.out⟩
    case measure => simp [intOf]; omega
  ·have hki : ¬ (k : Int) < (n : Int) := by omega
   have hkl : k = n := by omega
   subst hkl
   have HF : Hid ((l.take k).filter (belB iss key time) = l.filter (belB iss key time)) := by show _ = _; rw [List.take_of_length_le (by rw [HA.out.2.1]; exact Nat.le_refl _)]
   go_wp2_with fail
   go_ret
   exact ⟨_, fpo, rfl, by rw [<- HF.out]; exact H.out.2, H.out.1⟩
def NS (w W : World) (gx : Nat) (cells : Array Value) : Prop := Below w.heap.size w W /\ Blk W w.heap.size 49 #[.string ⟨#[]⟩, .int .i64 0, .int .i64 0, .int .i64 0, .int .i64 0, .slice none 0 0, .string ⟨#[]⟩] /\ Blk W gx 49 cells
theorem NS.below {w W W' : World} {gx : Nat} {cells : Array Value} (h : NS w W gx cells) (hb : Below W.heap.size W W') : NS w W' gx cells :=
 ⟨h.1.trans (hb.mono h.1.size), h.2.1.below hb h.2.1.lt, h.2.2.below hb h.2.2.lt⟩
theorem wt_parts2 {l : List Cl} {k m : Nat} (h : wtS l <= m) (hk : k < l.length) : (l.getD k zeL).issuer.size <= m /\ (l.getD k zeL).sig.size <= m := by
 rw [List.getD_eq_getElem?_getD, List.getElem?_eq_getElem hk]
 have h1 := wtS_mem (List.getElem_mem hk)
 show l[k].issuer.size <= m /\ l[k].sig.size <= m
 unfold wtL at h1
 omega
theorem whole1_any (c : Cl) (p : Value) (w : World) : Calls Tryz.prog 223 #[clV c p] w fun e w' => e = .returned (.bool (wholeB c)) /\ Below w.heap.size w w' := by
 unfold clV wholeB
 go_enter Tryz.func223, Tryz.ntmps223
 by_cases h : c.bas = 0
 ·have h1 : (c.bas == 0) = true := by rw [h]; rfl
  go_wp2_with fail
  go_ret
  refine ⟨?_, (Below.refl _ _).alloc (Nat.le_refl _) _⟩
  rw [decide_eq_true h]
  rfl
 ·have h1 : (c.bas == 0) = false := beq_eq_false_iff_ne.2 h
  go_wp2_with fail
  go_ret
  refine ⟨?_, (Below.refl _ _).alloc (Nat.le_refl _) _⟩
  rw [decide_eq_false h]
  rfl
set_option maxHeartbeats 3200000 in
theorem delta1_any (c : Cl) (p : Value) (gd : Nat) (wn : Int) (w : World) (hd : w.cell? ⟨gd, 1, none⟩ = some (.int .i64 wn)) : Calls Tryz.prog 151 #[clV c p, .pointer (some ⟨gd, 0, none⟩)] w fun e w' => e = .returned (.bool (deltaB wn c)) /\ Below w.heap.size w w' := by
 obtain ⟨D, hD⟩ : ∃ d, deltaB wn c = d := ⟨_, rfl⟩
 rw [hD]
 have HD : Hid (decide (¬ c.bas = 0 /\ c.bas <= wn /\ wn < c.num) = D) := hD
 clear hD
 have hgd := Below.refl w.heap.size w
 have hlt : gd < w.heap.size := lt_of_cell hd
 unfold clV
 obtain ⟨B, hB⟩ : ∃ b, c.bas = b := ⟨_, rfl⟩
 obtain ⟨N, hN⟩ : ∃ b, c.num = b := ⟨_, rfl⟩
 rw [hB, hN] at HD |-
 clear hB hN
 obtain ⟨V, hV⟩ : ∃ V, V = w.alloc (Obj.cells #[.string c.issuer, .int .i64 N, .int .i64 c.ths, .int .i64 c.nxt, .int .i64 B, p, .string c.sig] 49) := ⟨_, rfl⟩
 have HV : Hid (Below w.heap.size w V) := by rw [hV]; exact (Below.refl _ _).alloc (Nat.le_refl _) _
 have c1 : V.cell? ⟨w.heap.size, 1, none⟩ = some (.int .i64 N) := by rw [hV]; exact (Blk.new _ _ _).cell 1
 have c4 : V.cell? ⟨w.heap.size, 4, none⟩ = some (.int .i64 B) := by rw [hV]; exact (Blk.new _ _ _).cell 4
 have d1 : V.cell? ⟨gd, 1, none⟩ = some (.int .i64 wn) := (HV.out.cell (p := ⟨gd, 1, none⟩) hlt).trans hd
 clear hd hlt hgd
 go_enter Tryz.func151, Tryz.ntmps151
 go_upto_region 1 with fail
 rw [<- hV]
 clear hV
 by_cases hz : B = 0
 ·have hzb : (B != 0) = false := by rw [hz]; rfl
  have HQ : Hid (D = false) := by show D = false; rw [<- HD.out]; exact decide_eq_false (fun q => q.1 hz)
  go_wp2_with fail
  go_ret
  exact ⟨by rw [HQ.out]; rfl, HV.out⟩
 ·have hzb : (B != 0) = true := bne_iff_ne.2 hz
  by_cases h2 : B <= wn
  ·by_cases h3 : wn < N
   ·skip
    have HQ : Hid (D = true) := by show D = true; rw [<- HD.out]; exact decide_eq_true ⟨hz, h2, h3⟩
    go_wp2_with fail
    go_ret
    exact ⟨by rw [HQ.out]; rfl, HV.out⟩
   ·skip
    have HQ : Hid (D = false) := by show D = false; rw [<- HD.out]; exact decide_eq_false (fun q => h3 q.2.2)
    go_wp2_with fail
    go_ret
    exact ⟨by rw [HQ.out]; rfl, HV.out⟩
  ·skip
   have HQ : Hid (D = false) := by show D = false; rw [<- HD.out]; exact decide_eq_false (fun q => h2 q.2.1)
   go_wp2_with fail
   go_ret
   exact ⟨by rw [HQ.out]; rfl, HV.out⟩
set_option maxHeartbeats 12800000 in
theorem newestWhole_any (l : List Cl) (v : Value) (bs : Nat) (fp : List Nat) (w : World) (hl : wtS l <= 20000000) (ha : OwnS crlKd w bs v l fp) :
  Calls Tryz.prog 150 #[v, .func (.func 223) #[] #[]] w fun e w' => NwPost w (nwL wholeB l) e w' := by
 obtain ⟨ao, cap, hv, hg⟩ := ha.row
 obtain ⟨n, hn⟩ : ∃ n, l.length = n := ⟨_, rfl⟩
 rw [hn] at hv hg
 subst hv
 have hn20 : n <= 20000000 := by unfold wtS at hl; omega
 have HA : Hid (OwnS crlKd w bs (.slice ao n cap) l fp /\ l.length = n /\ wtS l <= 20000000 /\ (0 < n -> ∃ g, ao = some ⟨g, 0, none⟩ /\ g < w.heap.size)) := ⟨ha, hn, hl, hg⟩
 clear ha hn hl hg
 have HCL : Hid (∀ (c : Cl) (p : Value) (W : World), Below w.heap.size w W -> Calls Tryz.prog 223 #[clV c p] W fun e w' => e = .returned (.bool (wholeB c)) /\ Below W.heap.size W w') := fun c p W hb => whole1_any c p W
 obtain ⟨oR, hoR⟩ : ∃ r, nwL wholeB l = r := ⟨_, rfl⟩
 have HR : Hid (nwL wholeB l = oR) := hoR
 rw [hoR]
 clear hoR
 obtain ⟨W1, hW1⟩ : ∃ V, V = w.alloc (Obj.cells #[.string ⟨#[]⟩, .int .i64 0, .int .i64 0, .int .i64 0, .int .i64 0, .slice none 0 0, .string ⟨#[]⟩] 49) := ⟨_, rfl⟩
 have H1 : Hid (Below w.heap.size w W1 /\ Blk W1 w.heap.size 49 #[.string ⟨#[]⟩, .int .i64 0, .int .i64 0, .int .i64 0, .int .i64 0, .slice none 0 0, .string ⟨#[]⟩]) := by rw [hW1]; exact ⟨(Below.refl _ _).alloc (Nat.le_refl _) _, Blk.new _ _ _⟩
 go_enter Tryz.func150, Tryz.ntmps150
 go_wp2_with fail
 rw [<- hW1]
 clear hW1
 go_loopw [6, 11] (fun av iv wr => ∃ k : Nat, k <= n /\ iv = .int .i64 k /\ av = .int .i64 (plV (bst wholeB l k)) /\ Hid (Below w.heap.size w wr /\ Blk wr w.heap.size 49 #[.string ⟨#[]⟩, .int .i64 0, .int .i64 0, .int .i64 0, .int .i64 0, .slice none 0 0, .string ⟨#[]⟩])) (fun _ iv _ => n - (intOf iv).toNat)
 case atStart => exact ⟨0, Nat.zero_le _, rfl, rfl, H1.out⟩
 case round =>
  clear H1
  obtain ⟨k, hk, rfl, rfl, H⟩ := hrel
  by_cases hkn : k < n
  ·have hkl : k < l.length := by rw [HA.out.2.1]; exact hkn
   obtain ⟨g, hg, hgw⟩ := HA.out.2.2.2 (by omega)
   subst hg
   obtain ⟨p1, q1, -, hc1⟩ := HA.out.1.one HA.out.2.1.symm hkl
   have hki : (k : Int) < (n : Int) := by omega
   have hk0 : (0 : Int) <= (k : Int) := by omega
   obtain ⟨c, hc⟩ : ∃ c, l.getD k zeL = c := ⟨_, rfl⟩
   rw [hc] at hc1
   obtain ⟨m1, hm1⟩ : ∃ m, c.revs.length = m := ⟨_, rfl⟩
   rw [hm1] at hc1
   have x0 : wr.cell? ⟨g, k * 7, none⟩ = some (.string c.issuer) := (H.out.1.cell (p := ⟨g, k * 7, none⟩) hgw).trans (hc1 0 _ rfl)
   have x1 : wr.cell? ⟨g, k * 7 + 1, none⟩ = some (.int .i64 c.num) := (H.out.1.cell (p := ⟨g, k * 7 + 1, none⟩) hgw).trans (hc1 1 _ rfl)
   have x2 : wr.cell? ⟨g, k * 7 + 2, none⟩ = some (.int .i64 c.ths) := (H.out.1.cell (p := ⟨g, k * 7 + 2, none⟩) hgw).trans (hc1 2 _ rfl)
   have x3 : wr.cell? ⟨g, k * 7 + 3, none⟩ = some (.int .i64 c.nxt) := (H.out.1.cell (p := ⟨g, k * 7 + 3, none⟩) hgw).trans (hc1 3 _ rfl)
   have x4 : wr.cell? ⟨g, k * 7 + 4, none⟩ = some (.int .i64 c.bas) := (H.out.1.cell (p := ⟨g, k * 7 + 4, none⟩) hgw).trans (hc1 4 _ rfl)
   have x5 : wr.cell? ⟨g, k * 7 + 5, none⟩ = some (.slice p1 m1 q1) := (H.out.1.cell (p := ⟨g, k * 7 + 5, none⟩) hgw).trans (hc1 5 _ rfl)
   have x6 : wr.cell? ⟨g, k * 7 + 6, none⟩ = some (.string c.sig) := (H.out.1.cell (p := ⟨g, k * 7 + 6, none⟩) hgw).trans (hc1 6 _ rfl)
   obtain ⟨V, hV⟩ : ∃ V, V = wr.alloc (Obj.cells #[.string c.issuer, .int .i64 c.num, .int .i64 c.ths, .int .i64 c.nxt, .int .i64 c.bas, .slice p1 m1 q1, .string c.sig] 49) := ⟨_, rfl⟩
   obtain ⟨gx, hgx⟩ : ∃ q, wr.heap.size = q := ⟨_, rfl⟩
   have HV : Hid (NS w V gx #[.string c.issuer, .int .i64 c.num, .int .i64 c.ths, .int .i64 c.nxt, .int .i64 c.bas, .slice p1 m1 q1, .string c.sig]) := by
    have hb : Below wr.heap.size wr V := by rw [hV]; exact (Below.refl _ _).alloc (Nat.le_refl _) _
    exact ⟨H.out.1.trans (hb.mono H.out.1.size), H.out.2.below hb H.out.2.lt, by rw [hV, <- hgx]; exact Blk.new _ _ _⟩
   have HBW : Hid (∀ b W, bst wholeB l k = some b -> Below w.heap.size w W -> W.cell? ⟨g, b * 7 + 1, none⟩ = some (.int .i64 (l.getD b zeL).num)) := fun b W hb hW => by
    obtain ⟨p2, q2, -, hc2⟩ := HA.out.1.one HA.out.2.1.symm (show b < l.length by have := bst_lt hb; omega)
    exact (hW.cell (p := ⟨g, b * 7 + 1, none⟩) hgw).trans (hc2 1 _ rfl)
   have HC : Hid (l.getD k zeL = c) := hc
   clear hc1 hm1 hc
   go_upto_region 5 with fail
   rw [<- hV]
   try rw [hgx]
   clear hV hgx x0 x1 x2 x3 x4 x5 x6 H hgw
   have hDr : Below V.heap.size V V.drew := (Below.refl _ _).drew
   refine wp_region_held_drew (S := fun W => NS w W gx #[.string c.issuer, .int .i64 c.num, .int .i64 c.ths, .int .i64 c.nxt, .int .i64 c.bas, .slice p1 m1 q1, .string c.sig]) (by kernel_rfl) (HV.out.below hDr) (fun hHeld => ?_)
   clear hDr HV
   generalize V.drew = wd at hHeld |-
   refine zT 0 16 ?_ rfl (by kernel_rfl) (by kernel_rfl) (by kernel_rfl) (fun _ _ _ h => h) (by rfl) ?_ hHeld ?_
   rotate_left
   ·intro W hSw
    go_simp
    try with_reducible rfl
   try simp only [Act.put, zA, zB, zC]
   refine zT 1 17 ?_ rfl (by kernel_rfl) (by kernel_rfl) (by kernel_rfl) (fun _ _ _ h => h) (by rfl) ?_ hHeld ?_
   rotate_left
   ·intro W hSw
    have e0 : W.cell? ⟨gx, 0, none⟩ = some (.string c.issuer) := hSw.2.2.cell 0
    have e1 : W.cell? ⟨gx, 1, none⟩ = some (.int .i64 c.num) := hSw.2.2.cell 1
    have e2 : W.cell? ⟨gx, 2, none⟩ = some (.int .i64 c.ths) := hSw.2.2.cell 2
    have e3 : W.cell? ⟨gx, 3, none⟩ = some (.int .i64 c.nxt) := hSw.2.2.cell 3
    have e4 : W.cell? ⟨gx, 4, none⟩ = some (.int .i64 c.bas) := hSw.2.2.cell 4
    have e5 : W.cell? ⟨gx, 5, none⟩ = some (.slice p1 m1 q1) := hSw.2.2.cell 5
    have e6 : W.cell? ⟨gx, 6, none⟩ = some (.string c.sig) := hSw.2.2.cell 6
    go_simp
    try with_reducible rfl
   try simp only [Act.put, zA, zB, zC]
   refine wpAnyH_ready (rs := [2]) (by kernel_rfl) (by simp) ?_
   refine AllReadyH.cons (o := ⟨some 18, _, _, _, _, _⟩) rfl (fun K hK => ?_) AllReadyH.nil
   have EQ := HCL.out c (.slice p1 m1 q1) wd hHeld.1
   obtain ⟨M, hM⟩ : ∃ b, wholeB c = b := ⟨_, rfl⟩
   rw [hM] at EQ
   unfold clV at EQ
   go_simp
   refine EQ.mono ?_
   rintro e w3 ⟨rfl, hb3⟩
   have H3 : NS w w3 gx #[.string c.issuer, .int .i64 c.num, .int .i64 c.ths, .int .i64 c.nxt, .int .i64 c.bas, .slice p1 m1 q1, .string c.sig] := hHeld.below hb3
   clear hb3 EQ
   refine hK.out _ _ H3 (fun hHeld => ?_)
   clear hK K
   have HH : Hid (NS w w3 gx #[.string c.issuer, .int .i64 c.num, .int .i64 c.ths, .int .i64 c.nxt, .int .i64 c.bas, .slice p1 m1 q1, .string c.sig]) := H3
   clear H3
   try simp only [Act.put, zA, zB, zC]
   refine zT 3 19 ?_ rfl (by kernel_rfl) (by kernel_rfl) (by kernel_rfl) (fun _ _ _ h => h) (by rfl) ?_ hHeld ?_
   rotate_left
   ·intro W hSw
    go_simp
    try with_reducible rfl
   try simp only [Act.put, zA, zB, zC]
   cases M with
   | false =>
    have HNX : Hid (bst wholeB l (k + 1) = bst wholeB l k) := bst_no (by rw [HC.out]; exact hM)
    clear hM
    obtain ⟨pv, hpv⟩ : ∃ q, plV (bst wholeB l k) = q := ⟨_, rfl⟩
    have HPV : Hid (plV (bst wholeB l k) = pv) := hpv
    rw [hpv]
    clear hpv
    refine zU 4 20 rfl (by kernel_rfl) (by kernel_rfl) (by kernel_rfl) (fun _ _ _ h => h) (by rfl) hHeld ?_
    try simp only [Act.put, zA, zB, zC]
    refine zU 5 21 rfl (by kernel_rfl) (by kernel_rfl) (by kernel_rfl) (fun _ _ _ h => h) (by rfl) hHeld ?_
    try simp only [Act.put, zA, zB, zC]
    refine zU 6 22 rfl (by kernel_rfl) (by kernel_rfl) (by kernel_rfl) (fun _ _ _ h => h) (by rfl) hHeld ?_
    try simp only [Act.put, zA, zB, zC]
    refine zU 7 23 rfl (by kernel_rfl) (by kernel_rfl) (by kernel_rfl) (fun _ _ _ h => h) (by rfl) hHeld ?_
    try simp only [Act.put, zA, zB, zC]
    refine zU 8 24 rfl (by kernel_rfl) (by kernel_rfl) (by kernel_rfl) (fun _ _ _ h => h) (by rfl) hHeld ?_
    try simp only [Act.put, zA, zB, zC]
    refine zU 9 25 rfl (by kernel_rfl) (by kernel_rfl) (by kernel_rfl) (fun _ _ _ h => h) (by rfl) hHeld ?_
    try simp only [Act.put, zA, zB, zC]
    refine zU 10 26 rfl (by kernel_rfl) (by kernel_rfl) (by kernel_rfl) (fun _ _ _ h => h) (by rfl) hHeld ?_
    try simp only [Act.put, zA, zB, zC]
    refine zU 11 27 rfl (by kernel_rfl) (by kernel_rfl) (by kernel_rfl) (fun _ _ _ h => h) (by rfl) hHeld ?_
    try simp only [Act.put, zA, zB, zC]
    refine zU 12 28 rfl (by kernel_rfl) (by kernel_rfl) (by kernel_rfl) (fun _ _ _ h => h) (by rfl) hHeld ?_
    try simp only [Act.put, zA, zB, zC]
    refine zU 13 29 rfl (by kernel_rfl) (by kernel_rfl) (by kernel_rfl) (fun _ _ _ h => h) (by rfl) hHeld ?_
    try simp only [Act.put, zA, zB, zC]
    refine zU 14 30 rfl (by kernel_rfl) (by kernel_rfl) (by kernel_rfl) (fun _ _ _ h => h) (by rfl) hHeld ?_
    try simp only [Act.put, zA, zB, zC]
    refine zU 15 31 rfl (by kernel_rfl) (by kernel_rfl) (by kernel_rfl) (fun _ _ _ h => h) (by rfl) hHeld ?_
    try simp only [Act.put, zA, zB, zC]
    refine zT 16 32 ?_ rfl (by kernel_rfl) (by kernel_rfl) (by kernel_rfl) (fun _ _ _ h => h) (by rfl) ?_ hHeld ?_
    rotate_left
    ·intro W hSw
     go_simp
     try with_reducible rfl
    try simp only [Act.put, zA, zB, zC]
    refine wpAnyH_done (by kernel_rfl) ?_ _
    have HD : Hid (Below w.heap.size w w3 /\ Blk w3 w.heap.size 49 #[.string ⟨#[]⟩, .int .i64 0, .int .i64 0, .int .i64 0, .int .i64 0, .slice none 0 0, .string ⟨#[]⟩]) := ⟨HH.out.1, HH.out.2.1⟩
    clear HH hHeld HBW HCL
    go_wp2_with fail
    go_roundw
    case rel => exact ⟨k + 1, by omega, by go_num, by rw [HNX.out]; rw [HPV.out], HD.out⟩
    case measure => simp [intOf]; omega
   | true =>
    have HP : Hid (wholeB (l.getD k zeL) = true) := by show wholeB _ = true; rw [HC.out]; exact hM
    clear hM
    cases hb : bst wholeB l k with
    | none =>
     have HNX : Hid (bst wholeB l (k + 1) = some k) := bst_first hb HP.out
     simp only [plV]
     refine zT 4 20 ?_ rfl (by kernel_rfl) (by kernel_rfl) (by kernel_rfl) (fun _ _ _ h => h) (by rfl) ?_ hHeld ?_
     rotate_left
     ·intro W hSw
      go_simp
      try with_reducible rfl
     try simp only [Act.put, zA, zB, zC]
     refine zT 5 21 ?_ rfl (by kernel_rfl) (by kernel_rfl) (by kernel_rfl) (fun _ _ _ h => h) (by rfl) ?_ hHeld ?_
     rotate_left
     ·intro W hSw
      go_simp
      try with_reducible rfl
     try simp only [Act.put, zA, zB, zC]
     refine zT 6 22 ?_ rfl (by kernel_rfl) (by kernel_rfl) (by kernel_rfl) (fun _ _ _ h => h) (by rfl) ?_ hHeld ?_
     rotate_left
     ·intro W hSw
      go_simp
      try with_reducible rfl
     try simp only [Act.put, zA, zB, zC]
     refine zU 7 23 rfl (by kernel_rfl) (by kernel_rfl) (by kernel_rfl) (fun _ _ _ h => h) (by rfl) hHeld ?_
     try simp only [Act.put, zA, zB, zC]
     refine zU 8 24 rfl (by kernel_rfl) (by kernel_rfl) (by kernel_rfl) (fun _ _ _ h => h) (by rfl) hHeld ?_
     try simp only [Act.put, zA, zB, zC]
     refine zU 9 25 rfl (by kernel_rfl) (by kernel_rfl) (by kernel_rfl) (fun _ _ _ h => h) (by rfl) hHeld ?_
     try simp only [Act.put, zA, zB, zC]
     refine zU 10 26 rfl (by kernel_rfl) (by kernel_rfl) (by kernel_rfl) (fun _ _ _ h => h) (by rfl) hHeld ?_
     try simp only [Act.put, zA, zB, zC]
     refine zU 11 27 rfl (by kernel_rfl) (by kernel_rfl) (by kernel_rfl) (fun _ _ _ h => h) (by rfl) hHeld ?_
     try simp only [Act.put, zA, zB, zC]
     refine zU 12 28 rfl (by kernel_rfl) (by kernel_rfl) (by kernel_rfl) (fun _ _ _ h => h) (by rfl) hHeld ?_
     try simp only [Act.put, zA, zB, zC]
     refine zU 13 29 rfl (by kernel_rfl) (by kernel_rfl) (by kernel_rfl) (fun _ _ _ h => h) (by rfl) hHeld ?_
     try simp only [Act.put, zA, zB, zC]
     refine zU 14 30 rfl (by kernel_rfl) (by kernel_rfl) (by kernel_rfl) (fun _ _ _ h => h) (by rfl) hHeld ?_
     try simp only [Act.put, zA, zB, zC]
     refine zT 15 31 ?_ rfl (by kernel_rfl) (by kernel_rfl) (by kernel_rfl) (fun _ _ _ h => h) (by rfl) ?_ hHeld ?_
     rotate_left
     ·intro W hSw
      go_simp
      try with_reducible rfl
     try simp only [Act.put, zA, zB, zC]
     refine zT 16 32 ?_ rfl (by kernel_rfl) (by kernel_rfl) (by kernel_rfl) (fun _ _ _ h => h) (by rfl) ?_ hHeld ?_
     rotate_left
     ·intro W hSw
      go_simp
      try with_reducible rfl
     try simp only [Act.put, zA, zB, zC]
     refine wpAnyH_done (by kernel_rfl) ?_ _
     have HD : Hid (Below w.heap.size w w3 /\ Blk w3 w.heap.size 49 #[.string ⟨#[]⟩, .int .i64 0, .int .i64 0, .int .i64 0, .int .i64 0, .slice none 0 0, .string ⟨#[]⟩]) := ⟨HH.out.1, HH.out.2.1⟩
     clear HH hHeld HBW HCL
     go_wp2_with fail
     go_roundw
     case rel => exact ⟨k + 1, by omega, by go_num, by rw [HNX.out]; try rfl, HD.out⟩
     case measure => simp [intOf]; omega
    | some b =>
     have hblt := bst_lt hb
     have hbi : (b : Int) < (n : Int) := by omega
     have hb0 : (0 : Int) <= (b : Int) := by omega
     have hbn : ¬ (b : Int) < 0 := by omega
     obtain ⟨NB, hNB⟩ : ∃ q, (l.getD b zeL).num = q := ⟨_, rfl⟩
     have HB2 : Hid (∀ W, Below w.heap.size w W -> W.cell? ⟨g, b * 7 + 1, none⟩ = some (.int .i64 NB)) := fun W hW => by rw [<- hNB]; exact HBW.out b W hb hW
     simp only [plV]
     refine zT 4 20 ?_ rfl (by kernel_rfl) (by kernel_rfl) (by kernel_rfl) (fun _ _ _ h => h) (by rfl) ?_ hHeld ?_
     rotate_left
     ·intro W hSw
      go_simp
      try with_reducible rfl
     try simp only [Act.put, zA, zB, zC]
     refine zT 5 21 ?_ rfl (by kernel_rfl) (by kernel_rfl) (by kernel_rfl) (fun _ _ _ h => h) (by rfl) ?_ hHeld ?_
     rotate_left
     ·intro W hSw
      go_simp
      try with_reducible rfl
     try simp only [Act.put, zA, zB, zC]
     refine zT 6 22 ?_ rfl (by kernel_rfl) (by kernel_rfl) (by kernel_rfl) (fun _ _ _ h => h) (by rfl) ?_ hHeld ?_
     rotate_left
     ·intro W hSw
      go_simp
      try with_reducible rfl
     try simp only [Act.put, zA, zB, zC]
     refine zT 7 23 ?_ rfl (by kernel_rfl) (by kernel_rfl) (by kernel_rfl) (fun _ _ _ h => h) (by rfl) ?_ hHeld ?_
     rotate_left
     ·intro W hSw
      go_simp
      try with_reducible rfl
     try simp only [Act.put, zA, zB, zC]
     refine zT 8 24 ?_ rfl (by kernel_rfl) (by kernel_rfl) (by kernel_rfl) (fun _ _ _ h => h) (by rfl) ?_ hHeld ?_
     rotate_left
     ·intro W hSw
      have e1 : W.cell? ⟨gx, 1, none⟩ = some (.int .i64 c.num) := hSw.2.2.cell 1
      go_simp
      try with_reducible rfl
     try simp only [Act.put, zA, zB, zC]
     refine zT 9 25 ?_ rfl (by kernel_rfl) (by kernel_rfl) (by kernel_rfl) (fun _ _ _ h => h) (by rfl) ?_ hHeld ?_
     rotate_left
     ·intro W hSw
      go_simp
      try with_reducible rfl
     try simp only [Act.put, zA, zB, zC]
     refine zT 10 26 ?_ rfl (by kernel_rfl) (by kernel_rfl) (by kernel_rfl) (fun _ _ _ h => h) (by rfl) ?_ hHeld ?_
     rotate_left
     ·intro W hSw
      go_simp
      try with_reducible rfl
     try simp only [Act.put, zA, zB, zC]
     refine zT 11 27 ?_ rfl (by kernel_rfl) (by kernel_rfl) (by kernel_rfl) (fun _ _ _ h => h) (by rfl) ?_ hHeld ?_
     rotate_left
     ·intro W hSw
      go_simp
      try with_reducible rfl
     try simp only [Act.put, zA, zB, zC]
     refine zT 12 28 ?_ rfl (by kernel_rfl) (by kernel_rfl) (by kernel_rfl) (fun _ _ _ h => h) (by rfl) ?_ hHeld ?_
     rotate_left
     ·intro W hSw
      go_simp
      try with_reducible rfl
     try simp only [Act.put, zA, zB, zC]
     refine zT 13 29 ?_ rfl (by kernel_rfl) (by kernel_rfl) (by kernel_rfl) (fun _ _ _ h => h) (by rfl) ?_ hHeld ?_
     rotate_left
     ·intro W hSw
      have e2 := HB2.out W hSw.1
      go_simp
      try with_reducible rfl
     try simp only [Act.put, zA, zB, zC]
     refine zT 14 30 ?_ rfl (by kernel_rfl) (by kernel_rfl) (by kernel_rfl) (fun _ _ _ h => h) (by rfl) ?_ hHeld ?_
     rotate_left
     ·intro W hSw
      go_simp
      try with_reducible rfl
     try simp only [Act.put, zA, zB, zC]
     refine zT 15 31 ?_ rfl (by kernel_rfl) (by kernel_rfl) (by kernel_rfl) (fun _ _ _ h => h) (by rfl) ?_ hHeld ?_
     rotate_left
     ·intro W hSw
      go_simp
      try with_reducible rfl
     try simp only [Act.put, zA, zB, zC]
     refine zT 16 32 ?_ rfl (by kernel_rfl) (by kernel_rfl) (by kernel_rfl) (fun _ _ _ h => h) (by rfl) ?_ hHeld ?_
     rotate_left
     ·intro W hSw
      go_simp
      try with_reducible rfl
     try simp only [Act.put, zA, zB, zC]
     by_cases hmore : NB < c.num
     ·have HNX : Hid (bst wholeB l (k + 1) = some k) := bst_more hb HP.out (by rw [hNB, HC.out]; exact hmore)
      refine wpAnyH_done (by kernel_rfl) ?_ _
      have HD : Hid (Below w.heap.size w w3 /\ Blk w3 w.heap.size 49 #[.string ⟨#[]⟩, .int .i64 0, .int .i64 0, .int .i64 0, .int .i64 0, .slice none 0 0, .string ⟨#[]⟩]) := ⟨HH.out.1, HH.out.2.1⟩
      clear HH hHeld HBW HCL
      go_wp2_with fail
      go_roundw
      case rel => exact ⟨k + 1, by omega, by go_num, by rw [HNX.out]; try rfl, HD.out⟩
      case measure => simp [intOf]; omega
     ·have HNX : Hid (bst wholeB l (k + 1) = some b) := bst_less hb (by rw [hNB, HC.out]; exact hmore)
      refine wpAnyH_done (by kernel_rfl) ?_ _
      have HD : Hid (Below w.heap.size w w3 /\ Blk w3 w.heap.size 49 #[.string ⟨#[]⟩, .int .i64 0, .int .i64 0, .int .i64 0, .int .i64 0, .slice none 0 0, .string ⟨#[]⟩]) := ⟨HH.out.1, HH.out.2.1⟩
      clear HH hHeld HBW HCL
      go_wp2_with fail
      go_roundw
      case rel => exact ⟨k + 1, by omega, by go_num, by rw [HNX.out]; try rfl, HD.out⟩
      case measure => simp [intOf]; omega
  ·have hki : ¬ (k : Int) < (n : Int) := by omega
   have hkl : k = n := by omega
   subst hkl
   have HNW : Hid (nwL wholeB l = (bst wholeB l k).map fun b => l.getD b zeL) := by show nwL wholeB l = _; unfold nwL; rw [HA.out.2.1]
   cases hb : bst wholeB l k with
   | none =>
    have HN : Hid (oR = none) := by show oR = none; rw [<- HR.out, HNW.out, hb]; rfl
    have r0 : wr.cell? ⟨w.heap.size, 0, none⟩ = some (.string ⟨#[]⟩) := H.out.2.cell 0
    have r1 : wr.cell? ⟨w.heap.size, 1, none⟩ = some (.int .i64 0) := H.out.2.cell 1
    have r2 : wr.cell? ⟨w.heap.size, 2, none⟩ = some (.int .i64 0) := H.out.2.cell 2
    have r3 : wr.cell? ⟨w.heap.size, 3, none⟩ = some (.int .i64 0) := H.out.2.cell 3
    have r4 : wr.cell? ⟨w.heap.size, 4, none⟩ = some (.int .i64 0) := H.out.2.cell 4
    have r5 : wr.cell? ⟨w.heap.size, 5, none⟩ = some (.slice none 0 0) := H.out.2.cell 5
    have r6 : wr.cell? ⟨w.heap.size, 6, none⟩ = some (.string ⟨#[]⟩) := H.out.2.cell 6
    have rf := fun i => H.out.2.free i
    simp only [plV]
    go_wp2_with fail
    refine bodyPost_ret (v := .tuple #[.agg #[.string ⟨#[]⟩, .int .i64 0, .int .i64 0, .int .i64 0, .int .i64 0, .slice none 0 0, .string ⟨#[]⟩], .bool false]) (by simp [results, Tryz.results150, go_sem, r0, r1, r2, r3, r4, r5, r6]; try rfl) rfl ⟨_, by rw [HN.out]; rfl, ?_, ?_⟩
    ·rw [HN.out]
     exact own_zeL _ _
    ·iterate 7 refine Below.setCell ?_ (by show w.heap.size <= w.heap.size; exact Nat.le_refl _) _
     exact H.out.1
   | some b =>
    have hblt := bst_lt hb
    have hbi : (b : Int) < (k : Int) := by omega
    have hb0 : (0 : Int) <= (b : Int) := by omega
    have hbn : ¬ (b : Int) < 0 := by omega
    obtain ⟨g, hg, hgw⟩ := HA.out.2.2.2 (by omega)
    subst hg
    obtain ⟨p1, q1, hoc, hc1⟩ := HA.out.1.one HA.out.2.1.symm (show b < l.length by have := HA.out.2.1; omega)
    obtain ⟨c, hc⟩ : ∃ c, l.getD b zeL = c := ⟨_, rfl⟩
    have HN : Hid (oR = some c) := by show oR = some c; rw [<- HR.out, HNW.out, hb, <- hc]; rfl
    rw [hc] at hc1 hoc
    have hrl : c.revs.length <= 20000000 := by rw [<- hc]; exact wtS_getD HA.out.2.2.1 (by have := HA.out.2.1; omega)
    have hwt := wt_parts2 HA.out.2.2.1 (show b < l.length by have := HA.out.2.1; omega)
    rw [hc] at hwt
    have EC := ownCrl_any c (clV c (.slice p1 c.revs.length q1)) bs wr hrl (by omega) (by omega) (hoc.stays H.out.1)
    have x0 : wr.cell? ⟨g, b * 7, none⟩ = some (.string c.issuer) := (H.out.1.cell (p := ⟨g, b * 7, none⟩) hgw).trans (hc1 0 _ rfl)
    have x1 : wr.cell? ⟨g, b * 7 + 1, none⟩ = some (.int .i64 c.num) := (H.out.1.cell (p := ⟨g, b * 7 + 1, none⟩) hgw).trans (hc1 1 _ rfl)
    have x2 : wr.cell? ⟨g, b * 7 + 2, none⟩ = some (.int .i64 c.ths) := (H.out.1.cell (p := ⟨g, b * 7 + 2, none⟩) hgw).trans (hc1 2 _ rfl)
    have x3 : wr.cell? ⟨g, b * 7 + 3, none⟩ = some (.int .i64 c.nxt) := (H.out.1.cell (p := ⟨g, b * 7 + 3, none⟩) hgw).trans (hc1 3 _ rfl)
    have x4 : wr.cell? ⟨g, b * 7 + 4, none⟩ = some (.int .i64 c.bas) := (H.out.1.cell (p := ⟨g, b * 7 + 4, none⟩) hgw).trans (hc1 4 _ rfl)
    have x5 : wr.cell? ⟨g, b * 7 + 5, none⟩ = some (.slice p1 c.revs.length q1) := (H.out.1.cell (p := ⟨g, b * 7 + 5, none⟩) hgw).trans (hc1 5 _ rfl)
    have x6 : wr.cell? ⟨g, b * 7 + 6, none⟩ = some (.string c.sig) := (H.out.1.cell (p := ⟨g, b * 7 + 6, none⟩) hgw).trans (hc1 6 _ rfl)
    unfold clV at EC
    clear hc1 hoc hc hrl hwt
    simp only [plV]
    go_wp2_with fail
    refine EC.mono ?_
    rintro e w3 ⟨u3, rfl, ⟨p3, rfl, ho3⟩, hb3⟩
    obtain ⟨qa, qc, hq3, -, -, -⟩ := OwnR.shape ho3
    subst hq3
    have H3 : Hid ((Below w.heap.size w w3 /\ Blk w3 w.heap.size 49 #[.string ⟨#[]⟩, .int .i64 0, .int .i64 0, .int .i64 0, .int .i64 0, .slice none 0 0, .string ⟨#[]⟩]) /\ OwnR w3 wr.heap.size (.slice qa c.revs.length qc) c.revs /\ w.heap.size < wr.heap.size) := ⟨⟨H.out.1.trans (hb3.mono H.out.1.size), H.out.2.below hb3 H.out.2.lt⟩, ho3, H.out.2.lt⟩
    clear H EC ho3 hb3 x0 x1 x2 x3 x4 x5 x6
    have r0 : w3.cell? ⟨w.heap.size, 0, none⟩ = some (.string ⟨#[]⟩) := H3.out.1.2.cell 0
    have r1 : w3.cell? ⟨w.heap.size, 1, none⟩ = some (.int .i64 0) := H3.out.1.2.cell 1
    have r2 : w3.cell? ⟨w.heap.size, 2, none⟩ = some (.int .i64 0) := H3.out.1.2.cell 2
    have r3 : w3.cell? ⟨w.heap.size, 3, none⟩ = some (.int .i64 0) := H3.out.1.2.cell 3
    have r4 : w3.cell? ⟨w.heap.size, 4, none⟩ = some (.int .i64 0) := H3.out.1.2.cell 4
    have r5 : w3.cell? ⟨w.heap.size, 5, none⟩ = some (.slice none 0 0) := H3.out.1.2.cell 5
    have r6 : w3.cell? ⟨w.heap.size, 6, none⟩ = some (.string ⟨#[]⟩) := H3.out.1.2.cell 6
    have rf := fun i => H3.out.1.2.free i
    unfold clV
    go_wp2_with fail
    refine bodyPost_ret (v := .tuple #[.agg #[.string c.issuer, .int .i64 c.num, .int .i64 c.ths, .int .i64 c.nxt, .int .i64 c.bas, .slice qa c.revs.length qc, .string c.sig], .bool true]) (by simp [results, Tryz.results150, go_sem, r0, r1, r2, r3, r4, r5, r6]; try rfl) rfl ⟨_, by rw [HN.out]; rfl, ?_, ?_⟩
    ·rw [HN.out]
     refine ⟨_, rfl, OwnR.base (row_same H3.out.2.1 (fun y hy => ?_)) (by have := H3.out.2.2; omega)⟩
     have hy2 := (World.ownsRow.lt H3.out.2.1 y hy).1
     have hy3 := H3.out.2.2
     iterate 7 rw [heap_setCell_other _ _ _ _ (by show y ≠ w.heap.size; omega)]
    ·iterate 7 refine Below.setCell ?_ (by show w.heap.size <= w.heap.size; exact Nat.le_refl _) _
     exact H3.out.1.1
set_option maxHeartbeats 12800000 in
theorem newestDelta_any (l : List Cl) (v : Value) (gd : Nat) (wn : Int) (bs : Nat) (fp : List Nat) (w : World) (hl : wtS l <= 20000000) (hd : w.cell? ⟨gd, 1, none⟩ = some (.int .i64 wn)) (ha : OwnS crlKd w bs v l fp) :
  Calls Tryz.prog 150 #[v, .func (.func 151) #[] #[.pointer (some ⟨gd, 0, none⟩)]] w fun e w' => NwPost w (nwL (deltaB wn) l) e w' := by
 obtain ⟨ao, cap, hv, hg⟩ := ha.row
 obtain ⟨n, hn⟩ : ∃ n, l.length = n := ⟨_, rfl⟩
 rw [hn] at hv hg
 subst hv
 have hn20 : n <= 20000000 := by unfold wtS at hl; omega
 have HA : Hid (OwnS crlKd w bs (.slice ao n cap) l fp /\ l.length = n /\ wtS l <= 20000000 /\ (0 < n -> ∃ g, ao = some ⟨g, 0, none⟩ /\ g < w.heap.size)) := ⟨ha, hn, hl, hg⟩
 clear ha hn hl hg
 have HCL : Hid (∀ (c : Cl) (p : Value) (W : World), Below w.heap.size w W -> Calls Tryz.prog 151 #[clV c p, .pointer (some ⟨gd, 0, none⟩)] W fun e w' => e = .returned (.bool ((deltaB wn) c)) /\ Below W.heap.size W w') := fun c p W hb => delta1_any c p gd wn W ((hb.cell (p := ⟨gd, 1, none⟩) (lt_of_cell hd)).trans hd)
 clear hd
 obtain ⟨oR, hoR⟩ : ∃ r, nwL (deltaB wn) l = r := ⟨_, rfl⟩
 have HR : Hid (nwL (deltaB wn) l = oR) := hoR
 rw [hoR]
 clear hoR
 obtain ⟨W1, hW1⟩ : ∃ V, V = w.alloc (Obj.cells #[.string ⟨#[]⟩, .int .i64 0, .int .i64 0, .int .i64 0, .int .i64 0, .slice none 0 0, .string ⟨#[]⟩] 49) := ⟨_, rfl⟩
 have H1 : Hid (Below w.heap.size w W1 /\ Blk W1 w.heap.size 49 #[.string ⟨#[]⟩, .int .i64 0, .int .i64 0, .int .i64 0, .int .i64 0, .slice none 0 0, .string ⟨#[]⟩]) := by rw [hW1]; exact ⟨(Below.refl _ _).alloc (Nat.le_refl _) _, Blk.new _ _ _⟩
 go_enter Tryz.func150, Tryz.ntmps150
 go_wp2_with fail
 rw [<- hW1]
 clear hW1
 go_loopw [6, 11] (fun av iv wr => ∃ k : Nat, k <= n /\ iv = .int .i64 k /\ av = .int .i64 (plV (bst (deltaB wn) l k)) /\ Hid (Below w.heap.size w wr /\ Blk wr w.heap.size 49 #[.string ⟨#[]⟩, .int .i64 0, .int .i64 0, .int .i64 0, .int .i64 0, .slice none 0 0, .string ⟨#[]⟩])) (fun _ iv _ => n - (intOf iv).toNat)
 case atStart => exact ⟨0, Nat.zero_le _, rfl, rfl, H1.out⟩
 case round =>
  clear H1
  obtain ⟨k, hk, rfl, rfl, H⟩ := hrel
  by_cases hkn : k < n
  ·have hkl : k < l.length := by rw [HA.out.2.1]; exact hkn
   obtain ⟨g, hg, hgw⟩ := HA.out.2.2.2 (by omega)
   subst hg
   obtain ⟨p1, q1, -, hc1⟩ := HA.out.1.one HA.out.2.1.symm hkl
   have hki : (k : Int) < (n : Int) := by omega
   have hk0 : (0 : Int) <= (k : Int) := by omega
   obtain ⟨c, hc⟩ : ∃ c, l.getD k zeL = c := ⟨_, rfl⟩
   rw [hc] at hc1
   obtain ⟨m1, hm1⟩ : ∃ m, c.revs.length = m := ⟨_, rfl⟩
   rw [hm1] at hc1
   have x0 : wr.cell? ⟨g, k * 7, none⟩ = some (.string c.issuer) := (H.out.1.cell (p := ⟨g, k * 7, none⟩) hgw).trans (hc1 0 _ rfl)
   have x1 : wr.cell? ⟨g, k * 7 + 1, none⟩ = some (.int .i64 c.num) := (H.out.1.cell (p := ⟨g, k * 7 + 1, none⟩) hgw).trans (hc1 1 _ rfl)
   have x2 : wr.cell? ⟨g, k * 7 + 2, none⟩ = some (.int .i64 c.ths) := (H.out.1.cell (p := ⟨g, k * 7 + 2, none⟩) hgw).trans (hc1 2 _ rfl)
   have x3 : wr.cell? ⟨g, k * 7 + 3, none⟩ = some (.int .i64 c.nxt) := (H.out.1.cell (p := ⟨g, k * 7 + 3, none⟩) hgw).trans (hc1 3 _ rfl)
   have x4 : wr.cell? ⟨g, k * 7 + 4, none⟩ = some (.int .i64 c.bas) := (H.out.1.cell (p := ⟨g, k * 7 + 4, none⟩) hgw).trans (hc1 4 _ rfl)
   have x5 : wr.cell? ⟨g, k * 7 + 5, none⟩ = some (.slice p1 m1 q1) := (H.out.1.cell (p := ⟨g, k * 7 + 5, none⟩) hgw).trans (hc1 5 _ rfl)
   have x6 : wr.cell? ⟨g, k * 7 + 6, none⟩ = some (.string c.sig) := (H.out.1.cell (p := ⟨g, k * 7 + 6, none⟩) hgw).trans (hc1 6 _ rfl)
   obtain ⟨V, hV⟩ : ∃ V, V = wr.alloc (Obj.cells #[.string c.issuer, .int .i64 c.num, .int .i64 c.ths, .int .i64 c.nxt, .int .i64 c.bas, .slice p1 m1 q1, .string c.sig] 49) := ⟨_, rfl⟩
   obtain ⟨gx, hgx⟩ : ∃ q, wr.heap.size = q := ⟨_, rfl⟩
   have HV : Hid (NS w V gx #[.string c.issuer, .int .i64 c.num, .int .i64 c.ths, .int .i64 c.nxt, .int .i64 c.bas, .slice p1 m1 q1, .string c.sig]) := by
    have hb : Below wr.heap.size wr V := by rw [hV]; exact (Below.refl _ _).alloc (Nat.le_refl _) _
    exact ⟨H.out.1.trans (hb.mono H.out.1.size), H.out.2.below hb H.out.2.lt, by rw [hV, <- hgx]; exact Blk.new _ _ _⟩
   have HBW : Hid (∀ b W, bst (deltaB wn) l k = some b -> Below w.heap.size w W -> W.cell? ⟨g, b * 7 + 1, none⟩ = some (.int .i64 (l.getD b zeL).num)) := fun b W hb hW => by
    obtain ⟨p2, q2, -, hc2⟩ := HA.out.1.one HA.out.2.1.symm (show b < l.length by have := bst_lt hb; omega)
    exact (hW.cell (p := ⟨g, b * 7 + 1, none⟩) hgw).trans (hc2 1 _ rfl)
   have HC : Hid (l.getD k zeL = c) := hc
   clear hc1 hm1 hc
   go_upto_region 5 with fail
   rw [<- hV]
   try rw [hgx]
   clear hV hgx x0 x1 x2 x3 x4 x5 x6 H hgw
   have hDr : Below V.heap.size V V.drew := (Below.refl _ _).drew
   refine wp_region_held_drew (S := fun W => NS w W gx #[.string c.issuer, .int .i64 c.num, .int .i64 c.ths, .int .i64 c.nxt, .int .i64 c.bas, .slice p1 m1 q1, .string c.sig]) (by kernel_rfl) (HV.out.below hDr) (fun hHeld => ?_)
   clear hDr HV
   generalize V.drew = wd at hHeld |-
   refine zT 0 16 ?_ rfl (by kernel_rfl) (by kernel_rfl) (by kernel_rfl) (fun _ _ _ h => h) (by rfl) ?_ hHeld ?_
   rotate_left
   ·intro W hSw
    go_simp
    try with_reducible rfl
   try simp only [Act.put, zA, zB, zC]
   refine zT 1 17 ?_ rfl (by kernel_rfl) (by kernel_rfl) (by kernel_rfl) (fun _ _ _ h => h) (by rfl) ?_ hHeld ?_
   rotate_left
   ·intro W hSw
    have e0 : W.cell? ⟨gx, 0, none⟩ = some (.string c.issuer) := hSw.2.2.cell 0
    have e1 : W.cell? ⟨gx, 1, none⟩ = some (.int .i64 c.num) := hSw.2.2.cell 1
    have e2 : W.cell? ⟨gx, 2, none⟩ = some (.int .i64 c.ths) := hSw.2.2.cell 2
    have e3 : W.cell? ⟨gx, 3, none⟩ = some (.int .i64 c.nxt) := hSw.2.2.cell 3
    have e4 : W.cell? ⟨gx, 4, none⟩ = some (.int .i64 c.bas) := hSw.2.2.cell 4
    have e5 : W.cell? ⟨gx, 5, none⟩ = some (.slice p1 m1 q1) := hSw.2.2.cell 5
    have e6 : W.cell? ⟨gx, 6, none⟩ = some (.string c.sig) := hSw.2.2.cell 6
    go_simp
    try with_reducible rfl
   try simp only [Act.put, zA, zB, zC]
   refine wpAnyH_ready (rs := [2]) (by kernel_rfl) (by simp) ?_
   refine AllReadyH.cons (o := ⟨some 18, _, _, _, _, _⟩) rfl (fun K hK => ?_) AllReadyH.nil
   have EQ := HCL.out c (.slice p1 m1 q1) wd hHeld.1
   obtain ⟨M, hM⟩ : ∃ b, (deltaB wn) c = b := ⟨_, rfl⟩
   rw [hM] at EQ
   unfold clV at EQ
   go_simp
   refine EQ.mono ?_
   rintro e w3 ⟨rfl, hb3⟩
   have H3 : NS w w3 gx #[.string c.issuer, .int .i64 c.num, .int .i64 c.ths, .int .i64 c.nxt, .int .i64 c.bas, .slice p1 m1 q1, .string c.sig] := hHeld.below hb3
   clear hb3 EQ
   refine hK.out _ _ H3 (fun hHeld => ?_)
   clear hK K
   have HH : Hid (NS w w3 gx #[.string c.issuer, .int .i64 c.num, .int .i64 c.ths, .int .i64 c.nxt, .int .i64 c.bas, .slice p1 m1 q1, .string c.sig]) := H3
   clear H3
   try simp only [Act.put, zA, zB, zC]
   refine zT 3 19 ?_ rfl (by kernel_rfl) (by kernel_rfl) (by kernel_rfl) (fun _ _ _ h => h) (by rfl) ?_ hHeld ?_
   rotate_left
   ·intro W hSw
    go_simp
    try with_reducible rfl
   try simp only [Act.put, zA, zB, zC]
   cases M with
   | false =>
    have HNX : Hid (bst (deltaB wn) l (k + 1) = bst (deltaB wn) l k) := bst_no (by rw [HC.out]; exact hM)
    clear hM
    obtain ⟨pv, hpv⟩ : ∃ q, plV (bst (deltaB wn) l k) = q := ⟨_, rfl⟩
    have HPV : Hid (plV (bst (deltaB wn) l k) = pv) := hpv
    rw [hpv]
    clear hpv
    refine zU 4 20 rfl (by kernel_rfl) (by kernel_rfl) (by kernel_rfl) (fun _ _ _ h => h) (by rfl) hHeld ?_
    try simp only [Act.put, zA, zB, zC]
    refine zU 5 21 rfl (by kernel_rfl) (by kernel_rfl) (by kernel_rfl) (fun _ _ _ h => h) (by rfl) hHeld ?_
    try simp only [Act.put, zA, zB, zC]
    refine zU 6 22 rfl (by kernel_rfl) (by kernel_rfl) (by kernel_rfl) (fun _ _ _ h => h) (by rfl) hHeld ?_
    try simp only [Act.put, zA, zB, zC]
    refine zU 7 23 rfl (by kernel_rfl) (by kernel_rfl) (by kernel_rfl) (fun _ _ _ h => h) (by rfl) hHeld ?_
    try simp only [Act.put, zA, zB, zC]
    refine zU 8 24 rfl (by kernel_rfl) (by kernel_rfl) (by kernel_rfl) (fun _ _ _ h => h) (by rfl) hHeld ?_
    try simp only [Act.put, zA, zB, zC]
    refine zU 9 25 rfl (by kernel_rfl) (by kernel_rfl) (by kernel_rfl) (fun _ _ _ h => h) (by rfl) hHeld ?_
    try simp only [Act.put, zA, zB, zC]
    refine zU 10 26 rfl (by kernel_rfl) (by kernel_rfl) (by kernel_rfl) (fun _ _ _ h => h) (by rfl) hHeld ?_
    try simp only [Act.put, zA, zB, zC]
    refine zU 11 27 rfl (by kernel_rfl) (by kernel_rfl) (by kernel_rfl) (fun _ _ _ h => h) (by rfl) hHeld ?_
    try simp only [Act.put, zA, zB, zC]
    refine zU 12 28 rfl (by kernel_rfl) (by kernel_rfl) (by kernel_rfl) (fun _ _ _ h => h) (by rfl) hHeld ?_
    try simp only [Act.put, zA, zB, zC]
    refine zU 13 29 rfl (by kernel_rfl) (by kernel_rfl) (by kernel_rfl) (fun _ _ _ h => h) (by rfl) hHeld ?_
    try simp only [Act.put, zA, zB, zC]
    refine zU 14 30 rfl (by kernel_rfl) (by kernel_rfl) (by kernel_rfl) (fun _ _ _ h => h) (by rfl) hHeld ?_
    try simp only [Act.put, zA, zB, zC]
    refine zU 15 31 rfl (by kernel_rfl) (by kernel_rfl) (by kernel_rfl) (fun _ _ _ h => h) (by rfl) hHeld ?_
    try simp only [Act.put, zA, zB, zC]
    refine zT 16 32 ?_ rfl (by kernel_rfl) (by kernel_rfl) (by kernel_rfl) (fun _ _ _ h => h) (by rfl) ?_ hHeld ?_
    rotate_left
    ·intro W hSw
     go_simp
     try with_reducible rfl
    try simp only [Act.put, zA, zB, zC]
    refine wpAnyH_done (by kernel_rfl) ?_ _
    have HD : Hid (Below w.heap.size w w3 /\ Blk w3 w.heap.size 49 #[.string ⟨#[]⟩, .int .i64 0, .int .i64 0, .int .i64 0, .int .i64 0, .slice none 0 0, .string ⟨#[]⟩]) := ⟨HH.out.1, HH.out.2.1⟩
    clear HH hHeld HBW HCL
    go_wp2_with fail
    go_roundw
    case rel => exact ⟨k + 1, by omega, by go_num, by rw [HNX.out]; rw [HPV.out], HD.out⟩
    case measure => simp [intOf]; omega
   | true =>
    have HP : Hid ((deltaB wn) (l.getD k zeL) = true) := by show (deltaB wn) _ = true; rw [HC.out]; exact hM
    clear hM
    cases hb : bst (deltaB wn) l k with
    | none =>
     have HNX : Hid (bst (deltaB wn) l (k + 1) = some k) := bst_first hb HP.out
     simp only [plV]
     refine zT 4 20 ?_ rfl (by kernel_rfl) (by kernel_rfl) (by kernel_rfl) (fun _ _ _ h => h) (by rfl) ?_ hHeld ?_
     rotate_left
     ·intro W hSw
      go_simp
      try with_reducible rfl
     try simp only [Act.put, zA, zB, zC]
     refine zT 5 21 ?_ rfl (by kernel_rfl) (by kernel_rfl) (by kernel_rfl) (fun _ _ _ h => h) (by rfl) ?_ hHeld ?_
     rotate_left
     ·intro W hSw
      go_simp
      try with_reducible rfl
     try simp only [Act.put, zA, zB, zC]
     refine zT 6 22 ?_ rfl (by kernel_rfl) (by kernel_rfl) (by kernel_rfl) (fun _ _ _ h => h) (by rfl) ?_ hHeld ?_
     rotate_left
     ·intro W hSw
      go_simp
      try with_reducible rfl
     try simp only [Act.put, zA, zB, zC]
     refine zU 7 23 rfl (by kernel_rfl) (by kernel_rfl) (by kernel_rfl) (fun _ _ _ h => h) (by rfl) hHeld ?_
     try simp only [Act.put, zA, zB, zC]
     refine zU 8 24 rfl (by kernel_rfl) (by kernel_rfl) (by kernel_rfl) (fun _ _ _ h => h) (by rfl) hHeld ?_
     try simp only [Act.put, zA, zB, zC]
     refine zU 9 25 rfl (by kernel_rfl) (by kernel_rfl) (by kernel_rfl) (fun _ _ _ h => h) (by rfl) hHeld ?_
     try simp only [Act.put, zA, zB, zC]
     refine zU 10 26 rfl (by kernel_rfl) (by kernel_rfl) (by kernel_rfl) (fun _ _ _ h => h) (by rfl) hHeld ?_
     try simp only [Act.put, zA, zB, zC]
     refine zU 11 27 rfl (by kernel_rfl) (by kernel_rfl) (by kernel_rfl) (fun _ _ _ h => h) (by rfl) hHeld ?_
     try simp only [Act.put, zA, zB, zC]
     refine zU 12 28 rfl (by kernel_rfl) (by kernel_rfl) (by kernel_rfl) (fun _ _ _ h => h) (by rfl) hHeld ?_
     try simp only [Act.put, zA, zB, zC]
     refine zU 13 29 rfl (by kernel_rfl) (by kernel_rfl) (by kernel_rfl) (fun _ _ _ h => h) (by rfl) hHeld ?_
     try simp only [Act.put, zA, zB, zC]
     refine zU 14 30 rfl (by kernel_rfl) (by kernel_rfl) (by kernel_rfl) (fun _ _ _ h => h) (by rfl) hHeld ?_
     try simp only [Act.put, zA, zB, zC]
     refine zT 15 31 ?_ rfl (by kernel_rfl) (by kernel_rfl) (by kernel_rfl) (fun _ _ _ h => h) (by rfl) ?_ hHeld ?_
     rotate_left
     ·intro W hSw
      go_simp
      try with_reducible rfl
     try simp only [Act.put, zA, zB, zC]
     refine zT 16 32 ?_ rfl (by kernel_rfl) (by kernel_rfl) (by kernel_rfl) (fun _ _ _ h => h) (by rfl) ?_ hHeld ?_
     rotate_left
     ·intro W hSw
      go_simp
      try with_reducible rfl
     try simp only [Act.put, zA, zB, zC]
     refine wpAnyH_done (by kernel_rfl) ?_ _
     have HD : Hid (Below w.heap.size w w3 /\ Blk w3 w.heap.size 49 #[.string ⟨#[]⟩, .int .i64 0, .int .i64 0, .int .i64 0, .int .i64 0, .slice none 0 0, .string ⟨#[]⟩]) := ⟨HH.out.1, HH.out.2.1⟩
     clear HH hHeld HBW HCL
     go_wp2_with fail
     go_roundw
     case rel => exact ⟨k + 1, by omega, by go_num, by rw [HNX.out]; try rfl, HD.out⟩
     case measure => simp [intOf]; omega
    | some b =>
     have hblt := bst_lt hb
     have hbi : (b : Int) < (n : Int) := by omega
     have hb0 : (0 : Int) <= (b : Int) := by omega
     have hbn : ¬ (b : Int) < 0 := by omega
     obtain ⟨NB, hNB⟩ : ∃ q, (l.getD b zeL).num = q := ⟨_, rfl⟩
     have HB2 : Hid (∀ W, Below w.heap.size w W -> W.cell? ⟨g, b * 7 + 1, none⟩ = some (.int .i64 NB)) := fun W hW => by rw [<- hNB]; exact HBW.out b W hb hW
     simp only [plV]
     refine zT 4 20 ?_ rfl (by kernel_rfl) (by kernel_rfl) (by kernel_rfl) (fun _ _ _ h => h) (by rfl) ?_ hHeld ?_
     rotate_left
     ·intro W hSw
      go_simp
      try with_reducible rfl
     try simp only [Act.put, zA, zB, zC]
     refine zT 5 21 ?_ rfl (by kernel_rfl) (by kernel_rfl) (by kernel_rfl) (fun _ _ _ h => h) (by rfl) ?_ hHeld ?_
     rotate_left
     ·intro W hSw
      go_simp
      try with_reducible rfl
     try simp only [Act.put, zA, zB, zC]
     refine zT 6 22 ?_ rfl (by kernel_rfl) (by kernel_rfl) (by kernel_rfl) (fun _ _ _ h => h) (by rfl) ?_ hHeld ?_
     rotate_left
     ·intro W hSw
      go_simp
      try with_reducible rfl
     try simp only [Act.put, zA, zB, zC]
     refine zT 7 23 ?_ rfl (by kernel_rfl) (by kernel_rfl) (by kernel_rfl) (fun _ _ _ h => h) (by rfl) ?_ hHeld ?_
     rotate_left
     ·intro W hSw
      go_simp
      try with_reducible rfl
     try simp only [Act.put, zA, zB, zC]
     refine zT 8 24 ?_ rfl (by kernel_rfl) (by kernel_rfl) (by kernel_rfl) (fun _ _ _ h => h) (by rfl) ?_ hHeld ?_
     rotate_left
     ·intro W hSw
      have e1 : W.cell? ⟨gx, 1, none⟩ = some (.int .i64 c.num) := hSw.2.2.cell 1
      go_simp
      try with_reducible rfl
     try simp only [Act.put, zA, zB, zC]
     refine zT 9 25 ?_ rfl (by kernel_rfl) (by kernel_rfl) (by kernel_rfl) (fun _ _ _ h => h) (by rfl) ?_ hHeld ?_
     rotate_left
     ·intro W hSw
      go_simp
      try with_reducible rfl
     try simp only [Act.put, zA, zB, zC]
     refine zT 10 26 ?_ rfl (by kernel_rfl) (by kernel_rfl) (by kernel_rfl) (fun _ _ _ h => h) (by rfl) ?_ hHeld ?_
     rotate_left
     ·intro W hSw
      go_simp
      try with_reducible rfl
     try simp only [Act.put, zA, zB, zC]
     refine zT 11 27 ?_ rfl (by kernel_rfl) (by kernel_rfl) (by kernel_rfl) (fun _ _ _ h => h) (by rfl) ?_ hHeld ?_
     rotate_left
     ·intro W hSw
      go_simp
      try with_reducible rfl
     try simp only [Act.put, zA, zB, zC]
     refine zT 12 28 ?_ rfl (by kernel_rfl) (by kernel_rfl) (by kernel_rfl) (fun _ _ _ h => h) (by rfl) ?_ hHeld ?_
     rotate_left
     ·intro W hSw
      go_simp
      try with_reducible rfl
     try simp only [Act.put, zA, zB, zC]
     refine zT 13 29 ?_ rfl (by kernel_rfl) (by kernel_rfl) (by kernel_rfl) (fun _ _ _ h => h) (by rfl) ?_ hHeld ?_
     rotate_left
     ·intro W hSw
      have e2 := HB2.out W hSw.1
      go_simp
      try with_reducible rfl
     try simp only [Act.put, zA, zB, zC]
     refine zT 14 30 ?_ rfl (by kernel_rfl) (by kernel_rfl) (by kernel_rfl) (fun _ _ _ h => h) (by rfl) ?_ hHeld ?_
     rotate_left
     ·intro W hSw
      go_simp
      try with_reducible rfl
     try simp only [Act.put, zA, zB, zC]
     refine zT 15 31 ?_ rfl (by kernel_rfl) (by kernel_rfl) (by kernel_rfl) (fun _ _ _ h => h) (by rfl) ?_ hHeld ?_
     rotate_left
     ·intro W hSw
      go_simp
      try with_reducible rfl
     try simp only [Act.put, zA, zB, zC]
     refine zT 16 32 ?_ rfl (by kernel_rfl) (by kernel_rfl) (by kernel_rfl) (fun _ _ _ h => h) (by rfl) ?_ hHeld ?_
     rotate_left
     ·intro W hSw
      go_simp
      try with_reducible rfl
     try simp only [Act.put, zA, zB, zC]
     by_cases hmore : NB < c.num
     ·have HNX : Hid (bst (deltaB wn) l (k + 1) = some k) := bst_more hb HP.out (by rw [hNB, HC.out]; exact hmore)
      refine wpAnyH_done (by kernel_rfl) ?_ _
      have HD : Hid (Below w.heap.size w w3 /\ Blk w3 w.heap.size 49 #[.string ⟨#[]⟩, .int .i64 0, .int .i64 0, .int .i64 0, .int .i64 0, .slice none 0 0, .string ⟨#[]⟩]) := ⟨HH.out.1, HH.out.2.1⟩
      clear HH hHeld HBW HCL
      go_wp2_with fail
      go_roundw
      case rel => exact ⟨k + 1, by omega, by go_num, by rw [HNX.out]; try rfl, HD.out⟩
      case measure => simp [intOf]; omega
     ·have HNX : Hid (bst (deltaB wn) l (k + 1) = some b) := bst_less hb (by rw [hNB, HC.out]; exact hmore)
      refine wpAnyH_done (by kernel_rfl) ?_ _
      have HD : Hid (Below w.heap.size w w3 /\ Blk w3 w.heap.size 49 #[.string ⟨#[]⟩, .int .i64 0, .int .i64 0, .int .i64 0, .int .i64 0, .slice none 0 0, .string ⟨#[]⟩]) := ⟨HH.out.1, HH.out.2.1⟩
      clear HH hHeld HBW HCL
      go_wp2_with fail
      go_roundw
      case rel => exact ⟨k + 1, by omega, by go_num, by rw [HNX.out]; try rfl, HD.out⟩
      case measure => simp [intOf]; omega
  ·have hki : ¬ (k : Int) < (n : Int) := by omega
   have hkl : k = n := by omega
   subst hkl
   have HNW : Hid (nwL (deltaB wn) l = (bst (deltaB wn) l k).map fun b => l.getD b zeL) := by show nwL (deltaB wn) l = _; unfold nwL; rw [HA.out.2.1]
   cases hb : bst (deltaB wn) l k with
   | none =>
    have HN : Hid (oR = none) := by show oR = none; rw [<- HR.out, HNW.out, hb]; rfl
    have r0 : wr.cell? ⟨w.heap.size, 0, none⟩ = some (.string ⟨#[]⟩) := H.out.2.cell 0
    have r1 : wr.cell? ⟨w.heap.size, 1, none⟩ = some (.int .i64 0) := H.out.2.cell 1
    have r2 : wr.cell? ⟨w.heap.size, 2, none⟩ = some (.int .i64 0) := H.out.2.cell 2
    have r3 : wr.cell? ⟨w.heap.size, 3, none⟩ = some (.int .i64 0) := H.out.2.cell 3
    have r4 : wr.cell? ⟨w.heap.size, 4, none⟩ = some (.int .i64 0) := H.out.2.cell 4
    have r5 : wr.cell? ⟨w.heap.size, 5, none⟩ = some (.slice none 0 0) := H.out.2.cell 5
    have r6 : wr.cell? ⟨w.heap.size, 6, none⟩ = some (.string ⟨#[]⟩) := H.out.2.cell 6
    have rf := fun i => H.out.2.free i
    simp only [plV]
    go_wp2_with fail
    refine bodyPost_ret (v := .tuple #[.agg #[.string ⟨#[]⟩, .int .i64 0, .int .i64 0, .int .i64 0, .int .i64 0, .slice none 0 0, .string ⟨#[]⟩], .bool false]) (by simp [results, Tryz.results150, go_sem, r0, r1, r2, r3, r4, r5, r6]; try rfl) rfl ⟨_, by rw [HN.out]; rfl, ?_, ?_⟩
    ·rw [HN.out]
     exact own_zeL _ _
    ·iterate 7 refine Below.setCell ?_ (by show w.heap.size <= w.heap.size; exact Nat.le_refl _) _
     exact H.out.1
   | some b =>
    have hblt := bst_lt hb
    have hbi : (b : Int) < (k : Int) := by omega
    have hb0 : (0 : Int) <= (b : Int) := by omega
    have hbn : ¬ (b : Int) < 0 := by omega
    obtain ⟨g, hg, hgw⟩ := HA.out.2.2.2 (by omega)
    subst hg
    obtain ⟨p1, q1, hoc, hc1⟩ := HA.out.1.one HA.out.2.1.symm (show b < l.length by have := HA.out.2.1; omega)
    obtain ⟨c, hc⟩ : ∃ c, l.getD b zeL = c := ⟨_, rfl⟩
    have HN : Hid (oR = some c) := by show oR = some c; rw [<- HR.out, HNW.out, hb, <- hc]; rfl
    rw [hc] at hc1 hoc
    have hrl : c.revs.length <= 20000000 := by rw [<- hc]; exact wtS_getD HA.out.2.2.1 (by have := HA.out.2.1; omega)
    have hwt := wt_parts2 HA.out.2.2.1 (show b < l.length by have := HA.out.2.1; omega)
    rw [hc] at hwt
    have EC := ownCrl_any c (clV c (.slice p1 c.revs.length q1)) bs wr hrl (by omega) (by omega) (hoc.stays H.out.1)
    have x0 : wr.cell? ⟨g, b * 7, none⟩ = some (.string c.issuer) := (H.out.1.cell (p := ⟨g, b * 7, none⟩) hgw).trans (hc1 0 _ rfl)
    have x1 : wr.cell? ⟨g, b * 7 + 1, none⟩ = some (.int .i64 c.num) := (H.out.1.cell (p := ⟨g, b * 7 + 1, none⟩) hgw).trans (hc1 1 _ rfl)
    have x2 : wr.cell? ⟨g, b * 7 + 2, none⟩ = some (.int .i64 c.ths) := (H.out.1.cell (p := ⟨g, b * 7 + 2, none⟩) hgw).trans (hc1 2 _ rfl)
    have x3 : wr.cell? ⟨g, b * 7 + 3, none⟩ = some (.int .i64 c.nxt) := (H.out.1.cell (p := ⟨g, b * 7 + 3, none⟩) hgw).trans (hc1 3 _ rfl)
    have x4 : wr.cell? ⟨g, b * 7 + 4, none⟩ = some (.int .i64 c.bas) := (H.out.1.cell (p := ⟨g, b * 7 + 4, none⟩) hgw).trans (hc1 4 _ rfl)
    have x5 : wr.cell? ⟨g, b * 7 + 5, none⟩ = some (.slice p1 c.revs.length q1) := (H.out.1.cell (p := ⟨g, b * 7 + 5, none⟩) hgw).trans (hc1 5 _ rfl)
    have x6 : wr.cell? ⟨g, b * 7 + 6, none⟩ = some (.string c.sig) := (H.out.1.cell (p := ⟨g, b * 7 + 6, none⟩) hgw).trans (hc1 6 _ rfl)
    unfold clV at EC
    clear hc1 hoc hc hrl hwt
    simp only [plV]
    go_wp2_with fail
    refine EC.mono ?_
    rintro e w3 ⟨u3, rfl, ⟨p3, rfl, ho3⟩, hb3⟩
    obtain ⟨qa, qc, hq3, -, -, -⟩ := OwnR.shape ho3
    subst hq3
    have H3 : Hid ((Below w.heap.size w w3 /\ Blk w3 w.heap.size 49 #[.string ⟨#[]⟩, .int .i64 0, .int .i64 0, .int .i64 0, .int .i64 0, .slice none 0 0, .string ⟨#[]⟩]) /\ OwnR w3 wr.heap.size (.slice qa c.revs.length qc) c.revs /\ w.heap.size < wr.heap.size) := ⟨⟨H.out.1.trans (hb3.mono H.out.1.size), H.out.2.below hb3 H.out.2.lt⟩, ho3, H.out.2.lt⟩
    clear H EC ho3 hb3 x0 x1 x2 x3 x4 x5 x6
    have r0 : w3.cell? ⟨w.heap.size, 0, none⟩ = some (.string ⟨#[]⟩) := H3.out.1.2.cell 0
    have r1 : w3.cell? ⟨w.heap.size, 1, none⟩ = some (.int .i64 0) := H3.out.1.2.cell 1
    have r2 : w3.cell? ⟨w.heap.size, 2, none⟩ = some (.int .i64 0) := H3.out.1.2.cell 2
    have r3 : w3.cell? ⟨w.heap.size, 3, none⟩ = some (.int .i64 0) := H3.out.1.2.cell 3
    have r4 : w3.cell? ⟨w.heap.size, 4, none⟩ = some (.int .i64 0) := H3.out.1.2.cell 4
    have r5 : w3.cell? ⟨w.heap.size, 5, none⟩ = some (.slice none 0 0) := H3.out.1.2.cell 5
    have r6 : w3.cell? ⟨w.heap.size, 6, none⟩ = some (.string ⟨#[]⟩) := H3.out.1.2.cell 6
    have rf := fun i => H3.out.1.2.free i
    unfold clV
    go_wp2_with fail
    refine bodyPost_ret (v := .tuple #[.agg #[.string c.issuer, .int .i64 c.num, .int .i64 c.ths, .int .i64 c.nxt, .int .i64 c.bas, .slice qa c.revs.length qc, .string c.sig], .bool true]) (by simp [results, Tryz.results150, go_sem, r0, r1, r2, r3, r4, r5, r6]; try rfl) rfl ⟨_, by rw [HN.out]; rfl, ?_, ?_⟩
    ·rw [HN.out]
     refine ⟨_, rfl, OwnR.base (row_same H3.out.2.1 (fun y hy => ?_)) (by have := H3.out.2.2; omega)⟩
     have hy2 := (World.ownsRow.lt H3.out.2.1 y hy).1
     have hy3 := H3.out.2.2
     iterate 7 rw [heap_setCell_other _ _ _ _ (by show y ≠ w.heap.size; omega)]
    ·iterate 7 refine Below.setCell ?_ (by show w.heap.size <= w.heap.size; exact Nat.le_refl _) _
     exact H3.out.1.1
set_option maxHeartbeats 6400000 in
theorem implWholeOf_any (l : List Cl) (v : Value) (bs : Nat) (fp : List Nat) (w : World) (hl : wtS l <= 20000000) (ha : OwnS crlKd w bs v l fp) :
  Calls Tryz.prog 147 #[v] w fun e w' => NwPost w (nwL wholeB l) e w' := by
 obtain ⟨W1, hW1⟩ : ∃ V, V = w.alloc (Obj.cells #[.string ⟨#[]⟩, .int .i64 0, .int .i64 0, .int .i64 0, .int .i64 0, .slice none 0 0, .string ⟨#[]⟩] 49) := ⟨_, rfl⟩
 have H1 : Hid (Below w.heap.size w W1 /\ Blk W1 w.heap.size 49 #[.string ⟨#[]⟩, .int .i64 0, .int .i64 0, .int .i64 0, .int .i64 0, .slice none 0 0, .string ⟨#[]⟩]) := by rw [hW1]; exact ⟨(Below.refl _ _).alloc (Nat.le_refl _) _, Blk.new _ _ _⟩
 have EN := newestWhole_any l v bs fp W1 hl (ha.stays H1.out.1)
 obtain ⟨oR, hoR⟩ : ∃ r, nwL wholeB l = r := ⟨_, rfl⟩
 rw [hoR] at EN |-
 clear hoR
 obtain ⟨ao, cap, hv, -⟩ := ha.row
 obtain ⟨n, hn⟩ : ∃ n, l.length = n := ⟨_, rfl⟩
 rw [hn] at hv
 subst hv
 clear hn ha hl
 go_enter Tryz.func147, Tryz.ntmps147
 go_upto_region 1 with fail
 rw [<- hW1]
 clear hW1
 go_wp2_with fail
 refine EN.mono ?_
 rintro e w3 ⟨u3, rfl, ⟨p3, rfl, ho3⟩, hb3⟩
 obtain ⟨cR, hcR⟩ : ∃ c, oR.getD zeL = c := ⟨_, rfl⟩
 have HCR : Hid (oR.getD zeL = cR) := hcR
 rw [hcR] at ho3 |-
 clear hcR
 obtain ⟨qa, qc, hq3, -, -, -⟩ := OwnR.shape ho3
 obtain ⟨ql, hql⟩ : ∃ q, cR.revs.length = q := ⟨_, rfl⟩
 rw [hql] at hq3
 subst hq3
 have H3 : Hid ((Below w.heap.size w w3 /\ Blk w3 w.heap.size 49 #[.string ⟨#[]⟩, .int .i64 0, .int .i64 0, .int .i64 0, .int .i64 0, .slice none 0 0, .string ⟨#[]⟩]) /\ OwnR w3 W1.heap.size (.slice qa ql qc) cR.revs /\ w.heap.size < W1.heap.size) := ⟨⟨H1.out.1.trans (hb3.mono H1.out.1.size), H1.out.2.below hb3 H1.out.2.lt⟩, ho3, H1.out.2.lt⟩
 clear H1 EN ho3 hb3 hql
 have r0 : w3.cell? ⟨w.heap.size, 0, none⟩ = some (.string ⟨#[]⟩) := H3.out.1.2.cell 0
 have r1 : w3.cell? ⟨w.heap.size, 1, none⟩ = some (.int .i64 0) := H3.out.1.2.cell 1
 have r2 : w3.cell? ⟨w.heap.size, 2, none⟩ = some (.int .i64 0) := H3.out.1.2.cell 2
 have r3 : w3.cell? ⟨w.heap.size, 3, none⟩ = some (.int .i64 0) := H3.out.1.2.cell 3
 have r4 : w3.cell? ⟨w.heap.size, 4, none⟩ = some (.int .i64 0) := H3.out.1.2.cell 4
 have r5 : w3.cell? ⟨w.heap.size, 5, none⟩ = some (.slice none 0 0) := H3.out.1.2.cell 5
 have r6 : w3.cell? ⟨w.heap.size, 6, none⟩ = some (.string ⟨#[]⟩) := H3.out.1.2.cell 6
 have rf := fun i => H3.out.1.2.free i
 obtain ⟨ok, hok⟩ : ∃ b, oR.isSome = b := ⟨_, rfl⟩
 rw [hok]
 have HOK : Hid (oR.isSome = ok) := hok
 clear hok
 unfold clV
 go_wp2_with fail
 refine bodyPost_ret (v := .tuple #[.agg #[.string cR.issuer, .int .i64 cR.num, .int .i64 cR.ths, .int .i64 cR.nxt, .int .i64 cR.bas, .slice qa ql qc, .string cR.sig], .bool ok]) (by simp [results, Tryz.results147, go_sem, r0, r1, r2, r3, r4, r5, r6]; try rfl) rfl ⟨_, by rw [HOK.out], ?_, ?_⟩
 ·rw [HCR.out]
  refine ⟨_, rfl, OwnR.base (row_same H3.out.2.1 (fun y hy => ?_)) (by have := H3.out.2.2; omega)⟩
  have hy2 := (World.ownsRow.lt H3.out.2.1 y hy).1
  have hy3 := H3.out.2.2
  iterate 7 rw [heap_setCell_other _ _ _ _ (by show y ≠ w.heap.size; omega)]
 ·iterate 7 refine Below.setCell ?_ (by show w.heap.size <= w.heap.size; omega) _
  exact H3.out.1.1
set_option maxHeartbeats 6400000 in
theorem implDeltaOf_any (l : List Cl) (v : Value) (wc : Cl) (wp : Value) (bs : Nat) (fp : List Nat) (w : World) (hl : wtS l <= 20000000) (ha : OwnS crlKd w bs v l fp) :
  Calls Tryz.prog 54 #[v, clV wc wp] w fun e w' => NwPost w (nwL (deltaB wc.num) l) e w' := by
 obtain ⟨wn, hwn⟩ : ∃ q, wc.num = q := ⟨_, rfl⟩
 unfold clV
 rw [hwn]
 clear hwn
 have hmf : ∀ (fn : Fn) (first cap : Array Value) (w : World), (Instr.makeFunc fn first cap).run Tryz.prog w = .ok (.func fn first cap) w := fun _ _ _ _ => rfl
 obtain ⟨W0, hW0⟩ : ∃ V, V = w.alloc (Obj.cells #[.string wc.issuer, .int .i64 wn, .int .i64 wc.ths, .int .i64 wc.nxt, .int .i64 wc.bas, wp, .string wc.sig] 49) := ⟨_, rfl⟩
 obtain ⟨W1, hW1⟩ : ∃ V, V = W0.alloc (Obj.cells #[.string ⟨#[]⟩, .int .i64 0, .int .i64 0, .int .i64 0, .int .i64 0, .slice none 0 0, .string ⟨#[]⟩] 49) := ⟨_, rfl⟩
 have hs0 : W0.heap.size = w.heap.size + 1 := by rw [hW0]; exact size_alloc _ _
 have H1 : Hid (Below w.heap.size w W1 /\ Blk W1 (w.heap.size + 1) 49 #[.string ⟨#[]⟩, .int .i64 0, .int .i64 0, .int .i64 0, .int .i64 0, .slice none 0 0, .string ⟨#[]⟩]) := by
  have h1 := Blk.new W0 49 #[.string ⟨#[]⟩, .int .i64 0, .int .i64 0, .int .i64 0, .int .i64 0, .slice none 0 0, .string ⟨#[]⟩]
  rw [hs0] at h1
  rw [hW1]
  refine ⟨?_, h1⟩
  rw [hW0]
  exact ((Below.refl _ _).alloc (Nat.le_refl _) _).alloc (by rw [size_alloc]; omega) _
 have hd : Blk W1 w.heap.size 49 #[.string wc.issuer, .int .i64 wn, .int .i64 wc.ths, .int .i64 wc.nxt, .int .i64 wc.bas, wp, .string wc.sig] := by rw [hW1, hW0]; exact (Blk.new _ _ _).alloc _
 have EN := newestDelta_any l v w.heap.size wn bs fp W1 hl (hd.cell 1) (ha.stays H1.out.1)
 clear hd
 obtain ⟨oR, hoR⟩ : ∃ r, nwL (deltaB wn) l = r := ⟨_, rfl⟩
 rw [hoR] at EN |-
 clear hoR
 obtain ⟨ao, cap, hv, -⟩ := ha.row
 obtain ⟨n, hn⟩ : ∃ n, l.length = n := ⟨_, rfl⟩
 rw [hn] at hv
 subst hv
 clear hn ha hl
 go_enter Tryz.func54, Tryz.ntmps54
 go_upto_region 1 with fail
 rw [<- hW0, <- hW1]
 try rw [hs0]
 clear hW1 hW0 hs0
 go_wp2_with fail
 refine EN.mono ?_
 rintro e w3 ⟨u3, rfl, ⟨p3, rfl, ho3⟩, hb3⟩
 obtain ⟨cR, hcR⟩ : ∃ c, oR.getD zeL = c := ⟨_, rfl⟩
 have HCR : Hid (oR.getD zeL = cR) := hcR
 rw [hcR] at ho3 |-
 clear hcR
 obtain ⟨qa, qc, hq3, -, -, -⟩ := OwnR.shape ho3
 obtain ⟨ql, hql⟩ : ∃ q, cR.revs.length = q := ⟨_, rfl⟩
 rw [hql] at hq3
 subst hq3
 have H3 : Hid ((Below w.heap.size w w3 /\ Blk w3 (w.heap.size + 1) 49 #[.string ⟨#[]⟩, .int .i64 0, .int .i64 0, .int .i64 0, .int .i64 0, .slice none 0 0, .string ⟨#[]⟩]) /\ OwnR w3 W1.heap.size (.slice qa ql qc) cR.revs /\ (w.heap.size + 1) < W1.heap.size) := ⟨⟨H1.out.1.trans (hb3.mono H1.out.1.size), H1.out.2.below hb3 H1.out.2.lt⟩, ho3, H1.out.2.lt⟩
 clear H1 EN ho3 hb3 hql
 have r0 : w3.cell? ⟨w.heap.size + 1, 0, none⟩ = some (.string ⟨#[]⟩) := H3.out.1.2.cell 0
 have r1 : w3.cell? ⟨w.heap.size + 1, 1, none⟩ = some (.int .i64 0) := H3.out.1.2.cell 1
 have r2 : w3.cell? ⟨w.heap.size + 1, 2, none⟩ = some (.int .i64 0) := H3.out.1.2.cell 2
 have r3 : w3.cell? ⟨w.heap.size + 1, 3, none⟩ = some (.int .i64 0) := H3.out.1.2.cell 3
 have r4 : w3.cell? ⟨w.heap.size + 1, 4, none⟩ = some (.int .i64 0) := H3.out.1.2.cell 4
 have r5 : w3.cell? ⟨w.heap.size + 1, 5, none⟩ = some (.slice none 0 0) := H3.out.1.2.cell 5
 have r6 : w3.cell? ⟨w.heap.size + 1, 6, none⟩ = some (.string ⟨#[]⟩) := H3.out.1.2.cell 6
 have rf := fun i => H3.out.1.2.free i
 obtain ⟨ok, hok⟩ : ∃ b, oR.isSome = b := ⟨_, rfl⟩
 rw [hok]
 have HOK : Hid (oR.isSome = ok) := hok
 clear hok
 unfold clV
 go_wp2_with fail
 refine bodyPost_ret (v := .tuple #[.agg #[.string cR.issuer, .int .i64 cR.num, .int .i64 cR.ths, .int .i64 cR.nxt, .int .i64 cR.bas, .slice qa ql qc, .string cR.sig], .bool ok]) (by simp [results, Tryz.results54, go_sem, r0, r1, r2, r3, r4, r5, r6]; try rfl) rfl ⟨_, by rw [HOK.out], ?_, ?_⟩
 ·rw [HCR.out]
  refine ⟨_, rfl, OwnR.base (row_same H3.out.2.1 (fun y hy => ?_)) (by have := H3.out.2.2; omega)⟩
  have hy2 := (World.ownsRow.lt H3.out.2.1 y hy).1
  have hy3 := H3.out.2.2
  iterate 7 rw [heap_setCell_other _ _ _ _ (by show y ≠ (w.heap.size + 1); omega)]
 ·iterate 7 refine Below.setCell ?_ (by show w.heap.size <= (w.heap.size + 1); omega) _
  exact H3.out.1.1
end Go.Proofs.YtjgbmnhoajiabaaGreatDoor
