/-
  Texts of the proof.
-/
import Derived.Test.YtjgbmnhoajiabaaGreatDoorSR44
set_option maxRecDepth 100000
namespace Go.Proofs.YtjgbmnhoajiabaaGreatDoor
open Go.RowKit Der
set_option linter.unusedVariables false
set_option linter.unusedSimpArgs false
def CS (w0 W : World) (gx : Nat) (cells : Array Value) : Prop := Below w0.heap.size w0 W /\ Blk W gx 49 cells
theorem CS.below {w0 W W' : World} {gx : Nat} {cells : Array Value} (h : CS w0 W gx cells) (hb : Below W.heap.size W W') : CS w0 W' gx cells := ⟨h.1.trans (hb.mono h.1.size), h.2.below hb h.2.lt⟩
set_option maxHeartbeats 25600000 in
theorem specCrlsOf_any (l : List Cl) (v : Value) (iss key : ByteArray) (time : Int) (bs : Nat) (fp : List Nat) (w : World) (hl : wtS l <= 1048576) (hwd : ∀ c ∈ l, WdL c) (hk : key.size <= 1048576) (ha : OwnS crlKd w bs v l fp) :
  Calls Tryz.prog 49 #[v, .string iss, .string key, .int .i64 time] w fun e w' => CoPost w (l.filter (belB iss key time)) e w' := by
 obtain ⟨ao, cap, hv, hg⟩ := ha.row
 obtain ⟨n, hn⟩ : ∃ n, l.length = n := ⟨_, rfl⟩
 rw [hn] at hv hg
 subst hv
 have hn20 : n <= 1048576 := by unfold wtS at hl; omega
 have HA : Hid (OwnS crlKd w bs (.slice ao n cap) l fp /\ l.length = n /\ wtS l <= 1048576 /\ (0 < n -> ∃ g, ao = some ⟨g, 0, none⟩ /\ g < w.heap.size) /\ (∀ c ∈ l, WdL c) /\ key.size <= 1048576) := ⟨ha, hn, hl, hg, hwd, hk⟩
 clear ha hn hl hg hwd hk
 obtain ⟨W1, hW1⟩ : ∃ V, V = w.alloc (Obj.cells #[] 49) := ⟨_, rfl⟩
 have H1 : Hid (Below w.heap.size w W1 /\ OwnS crlKd W1 w.heap.size (.slice (some ⟨w.heap.size, 0, none⟩) 0 0) [] [w.heap.size]) := by rw [hW1]; exact ⟨(Below.refl _ _).alloc (Nat.le_refl _) _, OwnS.made crlKd w _ (Nat.le_refl _)⟩
 go_enter Tryz.func49, Tryz.ntmps49
 go_wp2_with fail
 rw [<- hW1]
 clear hW1
 go_loopw [9, 10] (fun ov iv wr => ∃ k : Nat, k <= n /\ iv = .int .i64 k /\ Hid (∃ fpo, Below w.heap.size w wr /\ OwnS crlKd wr w.heap.size ov ((l.take k).filter (belB iss key time)) fpo)) (fun _ iv _ => n - (intOf iv).toNat)
 case atStart => exact ⟨0, Nat.zero_le _, rfl, _, H1.out⟩
 case round =>
  clear H1
  obtain ⟨k, hk, rfl, H0⟩ := hrel
  obtain ⟨fpo, hH⟩ := H0.out
  have H : Hid (Below w.heap.size w wr /\ OwnS crlKd wr w.heap.size u9 ((l.take k).filter (belB iss key time)) fpo) := hH
  clear H0 hH
  by_cases hkn : k < n
  ·have hkl : k < l.length := by rw [HA.out.2.1]; exact hkn
   obtain ⟨g, hg, hgw⟩ := HA.out.2.2.2.1 (by omega)
   subst hg
   obtain ⟨p1, q1, hoc, hc1⟩ := HA.out.1.one HA.out.2.1.symm hkl
   have hki : (k : Int) < (n : Int) := by omega
   have hk0 : (0 : Int) <= (k : Int) := by omega
   obtain ⟨c, hc⟩ : ∃ c, l.getD k zeL = c := ⟨_, rfl⟩
   have HFN : Hid ((l.take (k + 1)).filter (belB iss key time) = (l.take k).filter (belB iss key time) ++ (if belB iss key time c = true then [c] else [])) := by show _ = _; rw [filter_next hkl, hc]
   have HW : Hid (wtL c <= 1048576 /\ WdL c) := by rw [<- hc]; exact ⟨wtS_getD2 HA.out.2.2.1 hkl, wd_getD HA.out.2.2.2.2.1 hkl⟩
   rw [hc] at hc1 hoc
   obtain ⟨m1, hm1⟩ : ∃ m, c.revs.length = m := ⟨_, rfl⟩
   rw [hm1] at hc1 hoc
   have x0 : wr.cell? ⟨g, k * 7, none⟩ = some (.string c.issuer) := (H.out.1.cell (p := ⟨g, k * 7, none⟩) hgw).trans (hc1 0 _ rfl)
   have x1 : wr.cell? ⟨g, k * 7 + 1, none⟩ = some (.int .i64 c.num) := (H.out.1.cell (p := ⟨g, k * 7 + 1, none⟩) hgw).trans (hc1 1 _ rfl)
   have x2 : wr.cell? ⟨g, k * 7 + 2, none⟩ = some (.int .i64 c.ths) := (H.out.1.cell (p := ⟨g, k * 7 + 2, none⟩) hgw).trans (hc1 2 _ rfl)
   have x3 : wr.cell? ⟨g, k * 7 + 3, none⟩ = some (.int .i64 c.nxt) := (H.out.1.cell (p := ⟨g, k * 7 + 3, none⟩) hgw).trans (hc1 3 _ rfl)
   have x4 : wr.cell? ⟨g, k * 7 + 4, none⟩ = some (.int .i64 c.bas) := (H.out.1.cell (p := ⟨g, k * 7 + 4, none⟩) hgw).trans (hc1 4 _ rfl)
   have x5 : wr.cell? ⟨g, k * 7 + 5, none⟩ = some (.slice p1 m1 q1) := (H.out.1.cell (p := ⟨g, k * 7 + 5, none⟩) hgw).trans (hc1 5 _ rfl)
   have x6 : wr.cell? ⟨g, k * 7 + 6, none⟩ = some (.string c.sig) := (H.out.1.cell (p := ⟨g, k * 7 + 6, none⟩) hgw).trans (hc1 6 _ rfl)
   have HOC : Hid (OwnL wr bs (.agg #[.string c.issuer, .int .i64 c.num, .int .i64 c.ths, .int .i64 c.nxt, .int .i64 c.bas, .slice p1 m1 q1, .string c.sig]) c) := hoc.stays H.out.1
   obtain ⟨V, hV⟩ : ∃ V, V = wr.alloc (Obj.cells #[.string c.issuer, .int .i64 c.num, .int .i64 c.ths, .int .i64 c.nxt, .int .i64 c.bas, .slice p1 m1 q1, .string c.sig] 49) := ⟨_, rfl⟩
   obtain ⟨gx, hgx⟩ : ∃ q, wr.heap.size = q := ⟨_, rfl⟩
   have HV : Hid (CS wr V gx #[.string c.issuer, .int .i64 c.num, .int .i64 c.ths, .int .i64 c.nxt, .int .i64 c.bas, .slice p1 m1 q1, .string c.sig]) := by rw [hV, <- hgx]; exact ⟨(Below.refl _ _).alloc (Nat.le_refl _) _, Blk.new _ _ _⟩
   have HSB : Hid (∀ W W' : World, CS wr W gx #[.string c.issuer, .int .i64 c.num, .int .i64 c.ths, .int .i64 c.nxt, .int .i64 c.bas, .slice p1 m1 q1, .string c.sig] -> Below W.heap.size W W' -> CS wr W' gx #[.string c.issuer, .int .i64 c.num, .int .i64 c.ths, .int .i64 c.nxt, .int .i64 c.bas, .slice p1 m1 q1, .string c.sig]) := fun W W' h hb => h.below hb
   have HCA : Hid (∀ W : World, CS wr W gx #[.string c.issuer, .int .i64 c.num, .int .i64 c.ths, .int .i64 c.nxt, .int .i64 c.bas, .slice p1 m1 q1, .string c.sig] -> ClAt W (.agg #[.string c.issuer, .int .i64 c.num, .int .i64 c.ths, .int .i64 c.nxt, .int .i64 c.bas, .slice p1 m1 q1, .string c.sig]) c) := fun W h => (HOC.out.stays h.1).at
   clear hc1 hm1 hc hoc
   go_upto_region 6 with fail
   rw [<- hV]
   try rw [hgx]
   clear hV hgx x0 x1 x2 x3 x4 x5 x6 hgw
   have hDr : Below V.heap.size V V.drew := (Below.refl _ _).drew
   refine wp_region_held_drew (S := fun W => CS wr W gx #[.string c.issuer, .int .i64 c.num, .int .i64 c.ths, .int .i64 c.nxt, .int .i64 c.bas, .slice p1 m1 q1, .string c.sig]) (by kernel_rfl) (HV.out.below hDr) (fun hHeld => ?_)
   clear hDr HV
   generalize V.drew = wd at hHeld |-
   refine zT 0 23 ?_ rfl (by kernel_rfl) (by kernel_rfl) (by kernel_rfl) (fun _ _ _ h => h) (by rfl) ?_ hHeld ?_
   rotate_left
   ·intro W hSw
    have e0 : W.cell? ⟨gx, 0, none⟩ = some (.string c.issuer) := hSw.2.cell 0
    have e1 : W.cell? ⟨gx, 1, none⟩ = some (.int .i64 c.num) := hSw.2.cell 1
    have e2 : W.cell? ⟨gx, 2, none⟩ = some (.int .i64 c.ths) := hSw.2.cell 2
    have e3 : W.cell? ⟨gx, 3, none⟩ = some (.int .i64 c.nxt) := hSw.2.cell 3
    have e4 : W.cell? ⟨gx, 4, none⟩ = some (.int .i64 c.bas) := hSw.2.cell 4
    have e5 : W.cell? ⟨gx, 5, none⟩ = some (.slice p1 m1 q1) := hSw.2.cell 5
    have e6 : W.cell? ⟨gx, 6, none⟩ = some (.string c.sig) := hSw.2.cell 6
    go_simp
    try with_reducible rfl
   try simp only [Act.put, zA, zB, zC]
   refine wpAnyH_ready (rs := [1]) (by kernel_rfl) (by simp) ?_
   refine AllReadyH.cons (o := ⟨some 24, _, _, _, _, _⟩) rfl (fun K hK => ?_) AllReadyH.nil
   have EQ := specCrlOk_any c (.agg #[.string c.issuer, .int .i64 c.num, .int .i64 c.ths, .int .i64 c.nxt, .int .i64 c.bas, .slice p1 m1 q1, .string c.sig]) wd (Nat.le_trans HW.out.1 (by decide)) (HCA.out _ hHeld)
   try unfold clV at EQ
   go_simp
   refine EQ.mono ?_
   rintro e w1 ⟨rfl, hb⟩
   have hS3 := HSB.out _ _ hHeld hb
   clear hb EQ
   refine hK.out _ _ hS3 (fun hHeld => ?_)
   clear hK K hS3
   try simp only [Act.put, zA, zB, zC]
   have HH1 : Hid (CS wr w1 gx #[.string c.issuer, .int .i64 c.num, .int .i64 c.ths, .int .i64 c.nxt, .int .i64 c.bas, .slice p1 m1 q1, .string c.sig]) := hHeld
   obtain ⟨A, hA⟩ : ∃ b, crlOk c = b := ⟨_, rfl⟩
   rw [hA]
   refine zT 2 25 ?_ rfl (by kernel_rfl) (by kernel_rfl) (by kernel_rfl) (fun _ _ _ h => h) (by rfl) ?_ hHeld ?_
   rotate_left
   ·intro W hSw
    go_simp
    try with_reducible rfl
   try simp only [Act.put, zA, zB, zC]
   cases A with
   | false =>
    refine zU 3 26 rfl (by kernel_rfl) (by kernel_rfl) (by kernel_rfl) (fun _ _ _ h => h) (by rfl) hHeld ?_
    try simp only [Act.put, zA, zB, zC]
    refine zU 4 27 rfl (by kernel_rfl) (by kernel_rfl) (by kernel_rfl) (fun _ _ _ h => h) (by rfl) hHeld ?_
    try simp only [Act.put, zA, zB, zC]
    refine zU 5 28 rfl (by kernel_rfl) (by kernel_rfl) (by kernel_rfl) (fun _ _ _ h => h) (by rfl) hHeld ?_
    try simp only [Act.put, zA, zB, zC]
    refine zU 6 29 rfl (by kernel_rfl) (by kernel_rfl) (by kernel_rfl) (fun _ _ _ h => h) (by rfl) hHeld ?_
    try simp only [Act.put, zA, zB, zC]
    refine zT 7 30 ?_ rfl (by kernel_rfl) (by kernel_rfl) (by kernel_rfl) (fun _ _ _ h => h) (by rfl) ?_ hHeld ?_
    rotate_left
    ·intro W hSw
     go_simp
     try with_reducible rfl
    try simp only [Act.put, zA, zB, zC]
    refine zT 8 31 ?_ rfl (by kernel_rfl) (by kernel_rfl) (by kernel_rfl) (fun _ _ _ h => h) (by rfl) ?_ hHeld ?_
    rotate_left
    ·intro W hSw
     go_simp
     try with_reducible rfl
    try simp only [Act.put, zA, zB, zC]
    refine zU 9 32 rfl (by kernel_rfl) (by kernel_rfl) (by kernel_rfl) (fun _ _ _ h => h) (by rfl) hHeld ?_
    try simp only [Act.put, zA, zB, zC]
    refine zU 10 33 rfl (by kernel_rfl) (by kernel_rfl) (by kernel_rfl) (fun _ _ _ h => h) (by rfl) hHeld ?_
    try simp only [Act.put, zA, zB, zC]
    refine zU 11 34 rfl (by kernel_rfl) (by kernel_rfl) (by kernel_rfl) (fun _ _ _ h => h) (by rfl) hHeld ?_
    try simp only [Act.put, zA, zB, zC]
    refine zU 12 35 rfl (by kernel_rfl) (by kernel_rfl) (by kernel_rfl) (fun _ _ _ h => h) (by rfl) hHeld ?_
    try simp only [Act.put, zA, zB, zC]
    refine zT 13 36 ?_ rfl (by kernel_rfl) (by kernel_rfl) (by kernel_rfl) (fun _ _ _ h => h) (by rfl) ?_ hHeld ?_
    rotate_left
    ·intro W hSw
     go_simp
     try with_reducible rfl
    try simp only [Act.put, zA, zB, zC]
    refine zT 14 37 ?_ rfl (by kernel_rfl) (by kernel_rfl) (by kernel_rfl) (fun _ _ _ h => h) (by rfl) ?_ hHeld ?_
    rotate_left
    ·intro W hSw
     go_simp
     try with_reducible rfl
    try simp only [Act.put, zA, zB, zC]
    refine zU 15 38 rfl (by kernel_rfl) (by kernel_rfl) (by kernel_rfl) (fun _ _ _ h => h) (by rfl) hHeld ?_
    try simp only [Act.put, zA, zB, zC]
    refine zU 16 39 rfl (by kernel_rfl) (by kernel_rfl) (by kernel_rfl) (fun _ _ _ h => h) (by rfl) hHeld ?_
    try simp only [Act.put, zA, zB, zC]
    refine zU 17 40 rfl (by kernel_rfl) (by kernel_rfl) (by kernel_rfl) (fun _ _ _ h => h) (by rfl) hHeld ?_
    try simp only [Act.put, zA, zB, zC]
    refine zU 18 41 rfl (by kernel_rfl) (by kernel_rfl) (by kernel_rfl) (fun _ _ _ h => h) (by rfl) hHeld ?_
    try simp only [Act.put, zA, zB, zC]
    refine zT 19 42 ?_ rfl (by kernel_rfl) (by kernel_rfl) (by kernel_rfl) (fun _ _ _ h => h) (by rfl) ?_ hHeld ?_
    rotate_left
    ·intro W hSw
     go_simp
     try with_reducible rfl
    try simp only [Act.put, zA, zB, zC]
    refine zT 20 43 ?_ rfl (by kernel_rfl) (by kernel_rfl) (by kernel_rfl) (fun _ _ _ h => h) (by rfl) ?_ hHeld ?_
    rotate_left
    ·intro W hSw
     go_simp
     try with_reducible rfl
    try simp only [Act.put, zA, zB, zC]
    refine zU 21 44 rfl (by kernel_rfl) (by kernel_rfl) (by kernel_rfl) (fun _ _ _ h => h) (by rfl) hHeld ?_
    try simp only [Act.put, zA, zB, zC]
    refine zU 22 45 rfl (by kernel_rfl) (by kernel_rfl) (by kernel_rfl) (fun _ _ _ h => h) (by rfl) hHeld ?_
    try simp only [Act.put, zA, zB, zC]
    refine zU 23 46 rfl (by kernel_rfl) (by kernel_rfl) (by kernel_rfl) (fun _ _ _ h => h) (by rfl) hHeld ?_
    try simp only [Act.put, zA, zB, zC]
    refine zU 24 47 rfl (by kernel_rfl) (by kernel_rfl) (by kernel_rfl) (fun _ _ _ h => h) (by rfl) hHeld ?_
    try simp only [Act.put, zA, zB, zC]
    refine zU 25 48 rfl (by kernel_rfl) (by kernel_rfl) (by kernel_rfl) (fun _ _ _ h => h) (by rfl) hHeld ?_
    try simp only [Act.put, zA, zB, zC]
    refine zU 26 49 rfl (by kernel_rfl) (by kernel_rfl) (by kernel_rfl) (fun _ _ _ h => h) (by rfl) hHeld ?_
    try simp only [Act.put, zA, zB, zC]
    refine zT 27 50 ?_ rfl (by kernel_rfl) (by kernel_rfl) (by kernel_rfl) (fun _ _ _ h => h) (by rfl) ?_ hHeld ?_
    rotate_left
    ·intro W hSw
     go_simp
     try with_reducible rfl
    try simp only [Act.put, zA, zB, zC]
    refine wpAnyH_done (by kernel_rfl) ?_ _
    have HF : Hid ((l.take (k + 1)).filter (belB iss key time) = (l.take k).filter (belB iss key time)) := by show _ = _; rw [HFN.out, bel_ok hA, if_neg Bool.false_ne_true, List.append_nil]
    have HD : Hid (∃ fpo, Below w.heap.size w w1 /\ OwnS crlKd w1 w.heap.size u9 ((l.take (k + 1)).filter (belB iss key time)) fpo) := ⟨fpo, H.out.1.trans (hHeld.1.mono H.out.1.size), by rw [HF.out]; exact H.out.2.stays hHeld.1⟩
    clear H hHeld HF HFN HSB HCA HOC
    go_wp2_with fail
    go_roundw
    case rel => exact ⟨k + 1, by omega, by go_num, HD.out⟩
    case measure => simp [intOf]; omega
   | true =>
    by_cases hB : (c.issuer.toList == iss.toList) = true
    rotate_left
    ·have hB2 : (c.issuer.toList == iss.toList) = false := by simpa using hB
     clear hB
     refine zT 3 26 ?_ rfl (by kernel_rfl) (by kernel_rfl) (by kernel_rfl) (fun _ _ _ h => h) (by rfl) ?_ hHeld ?_
     rotate_left
     ·intro W hSw
      go_simp
      try with_reducible rfl
     try simp only [Act.put, zA, zB, zC]
     refine zT 4 27 ?_ rfl (by kernel_rfl) (by kernel_rfl) (by kernel_rfl) (fun _ _ _ h => h) (by rfl) ?_ hHeld ?_
     rotate_left
     ·intro W hSw
      have e0 : W.cell? ⟨gx, 0, none⟩ = some (.string c.issuer) := hSw.2.cell 0
      go_simp
      try with_reducible rfl
     try simp only [Act.put, zA, zB, zC]
     refine zT 5 28 ?_ rfl (by kernel_rfl) (by kernel_rfl) (by kernel_rfl) (fun _ _ _ h => h) (by rfl) ?_ hHeld ?_
     rotate_left
     ·intro W hSw
      go_simp
      try with_reducible rfl
     try simp only [Act.put, zA, zB, zC]
     refine zT 6 29 ?_ rfl (by kernel_rfl) (by kernel_rfl) (by kernel_rfl) (fun _ _ _ h => h) (by rfl) ?_ hHeld ?_
     rotate_left
     ·intro W hSw
      go_simp
      try with_reducible rfl
     try simp only [Act.put, zA, zB, zC]
     refine zT 7 30 ?_ rfl (by kernel_rfl) (by kernel_rfl) (by kernel_rfl) (fun _ _ _ h => h) (by rfl) ?_ hHeld ?_
     rotate_left
     ·intro W hSw
      go_simp
      try with_reducible rfl
     try simp only [Act.put, zA, zB, zC]
     refine zT 8 31 ?_ rfl (by kernel_rfl) (by kernel_rfl) (by kernel_rfl) (fun _ _ _ h => h) (by rfl) ?_ hHeld ?_
     rotate_left
     ·intro W hSw
      go_simp
      try with_reducible rfl
     try simp only [Act.put, zA, zB, zC]
     refine zU 9 32 rfl (by kernel_rfl) (by kernel_rfl) (by kernel_rfl) (fun _ _ _ h => h) (by rfl) hHeld ?_
     try simp only [Act.put, zA, zB, zC]
     refine zU 10 33 rfl (by kernel_rfl) (by kernel_rfl) (by kernel_rfl) (fun _ _ _ h => h) (by rfl) hHeld ?_
     try simp only [Act.put, zA, zB, zC]
     refine zU 11 34 rfl (by kernel_rfl) (by kernel_rfl) (by kernel_rfl) (fun _ _ _ h => h) (by rfl) hHeld ?_
     try simp only [Act.put, zA, zB, zC]
     refine zU 12 35 rfl (by kernel_rfl) (by kernel_rfl) (by kernel_rfl) (fun _ _ _ h => h) (by rfl) hHeld ?_
     try simp only [Act.put, zA, zB, zC]
     refine zT 13 36 ?_ rfl (by kernel_rfl) (by kernel_rfl) (by kernel_rfl) (fun _ _ _ h => h) (by rfl) ?_ hHeld ?_
     rotate_left
     ·intro W hSw
      go_simp
      try with_reducible rfl
     try simp only [Act.put, zA, zB, zC]
     refine zT 14 37 ?_ rfl (by kernel_rfl) (by kernel_rfl) (by kernel_rfl) (fun _ _ _ h => h) (by rfl) ?_ hHeld ?_
     rotate_left
     ·intro W hSw
      go_simp
      try with_reducible rfl
     try simp only [Act.put, zA, zB, zC]
     refine zU 15 38 rfl (by kernel_rfl) (by kernel_rfl) (by kernel_rfl) (fun _ _ _ h => h) (by rfl) hHeld ?_
     try simp only [Act.put, zA, zB, zC]
     refine zU 16 39 rfl (by kernel_rfl) (by kernel_rfl) (by kernel_rfl) (fun _ _ _ h => h) (by rfl) hHeld ?_
     try simp only [Act.put, zA, zB, zC]
     refine zU 17 40 rfl (by kernel_rfl) (by kernel_rfl) (by kernel_rfl) (fun _ _ _ h => h) (by rfl) hHeld ?_
     try simp only [Act.put, zA, zB, zC]
     refine zU 18 41 rfl (by kernel_rfl) (by kernel_rfl) (by kernel_rfl) (fun _ _ _ h => h) (by rfl) hHeld ?_
     try simp only [Act.put, zA, zB, zC]
     refine zT 19 42 ?_ rfl (by kernel_rfl) (by kernel_rfl) (by kernel_rfl) (fun _ _ _ h => h) (by rfl) ?_ hHeld ?_
     rotate_left
     ·intro W hSw
      go_simp
      try with_reducible rfl
     try simp only [Act.put, zA, zB, zC]
     refine zT 20 43 ?_ rfl (by kernel_rfl) (by kernel_rfl) (by kernel_rfl) (fun _ _ _ h => h) (by rfl) ?_ hHeld ?_
     rotate_left
     ·intro W hSw
      go_simp
      try with_reducible rfl
     try simp only [Act.put, zA, zB, zC]
     refine zU 21 44 rfl (by kernel_rfl) (by kernel_rfl) (by kernel_rfl) (fun _ _ _ h => h) (by rfl) hHeld ?_
     try simp only [Act.put, zA, zB, zC]
     refine zU 22 45 rfl (by kernel_rfl) (by kernel_rfl) (by kernel_rfl) (fun _ _ _ h => h) (by rfl) hHeld ?_
     try simp only [Act.put, zA, zB, zC]
     refine zU 23 46 rfl (by kernel_rfl) (by kernel_rfl) (by kernel_rfl) (fun _ _ _ h => h) (by rfl) hHeld ?_
     try simp only [Act.put, zA, zB, zC]
     refine zU 24 47 rfl (by kernel_rfl) (by kernel_rfl) (by kernel_rfl) (fun _ _ _ h => h) (by rfl) hHeld ?_
     try simp only [Act.put, zA, zB, zC]
     refine zU 25 48 rfl (by kernel_rfl) (by kernel_rfl) (by kernel_rfl) (fun _ _ _ h => h) (by rfl) hHeld ?_
     try simp only [Act.put, zA, zB, zC]
     refine zU 26 49 rfl (by kernel_rfl) (by kernel_rfl) (by kernel_rfl) (fun _ _ _ h => h) (by rfl) hHeld ?_
     try simp only [Act.put, zA, zB, zC]
     refine zT 27 50 ?_ rfl (by kernel_rfl) (by kernel_rfl) (by kernel_rfl) (fun _ _ _ h => h) (by rfl) ?_ hHeld ?_
     rotate_left
     ·intro W hSw
      go_simp
      try with_reducible rfl
     try simp only [Act.put, zA, zB, zC]
     refine wpAnyH_done (by kernel_rfl) ?_ _
     have HF : Hid ((l.take (k + 1)).filter (belB iss key time) = (l.take k).filter (belB iss key time)) := by show _ = _; rw [HFN.out, bel_iss hB2, if_neg Bool.false_ne_true, List.append_nil]
     have HD : Hid (∃ fpo, Below w.heap.size w w1 /\ OwnS crlKd w1 w.heap.size u9 ((l.take (k + 1)).filter (belB iss key time)) fpo) := ⟨fpo, H.out.1.trans (hHeld.1.mono H.out.1.size), by rw [HF.out]; exact H.out.2.stays hHeld.1⟩
     clear H hHeld HF HFN HSB HCA HOC
     go_wp2_with fail
     go_roundw
     case rel => exact ⟨k + 1, by omega, by go_num, HD.out⟩
     case measure => simp [intOf]; omega
    refine zT 3 26 ?_ rfl (by kernel_rfl) (by kernel_rfl) (by kernel_rfl) (fun _ _ _ h => h) (by rfl) ?_ hHeld ?_
    rotate_left
    ·intro W hSw
     go_simp
     try with_reducible rfl
    try simp only [Act.put, zA, zB, zC]
    refine zT 4 27 ?_ rfl (by kernel_rfl) (by kernel_rfl) (by kernel_rfl) (fun _ _ _ h => h) (by rfl) ?_ hHeld ?_
    rotate_left
    ·intro W hSw
     have e0 : W.cell? ⟨gx, 0, none⟩ = some (.string c.issuer) := hSw.2.cell 0
     go_simp
     try with_reducible rfl
    try simp only [Act.put, zA, zB, zC]
    refine zT 5 28 ?_ rfl (by kernel_rfl) (by kernel_rfl) (by kernel_rfl) (fun _ _ _ h => h) (by rfl) ?_ hHeld ?_
    rotate_left
    ·intro W hSw
     go_simp
     try with_reducible rfl
    try simp only [Act.put, zA, zB, zC]
    refine zT 6 29 ?_ rfl (by kernel_rfl) (by kernel_rfl) (by kernel_rfl) (fun _ _ _ h => h) (by rfl) ?_ hHeld ?_
    rotate_left
    ·intro W hSw
     go_simp
     try with_reducible rfl
    try simp only [Act.put, zA, zB, zC]
    refine zT 7 30 ?_ rfl (by kernel_rfl) (by kernel_rfl) (by kernel_rfl) (fun _ _ _ h => h) (by rfl) ?_ hHeld ?_
    rotate_left
    ·intro W hSw
     go_simp
     try with_reducible rfl
    try simp only [Act.put, zA, zB, zC]
    refine zT 8 31 ?_ rfl (by kernel_rfl) (by kernel_rfl) (by kernel_rfl) (fun _ _ _ h => h) (by rfl) ?_ hHeld ?_
    rotate_left
    ·intro W hSw
     go_simp
     try with_reducible rfl
    try simp only [Act.put, zA, zB, zC]
    by_cases hC : c.ths <= time
    rotate_left
    ·skip
     refine zT 9 32 ?_ rfl (by kernel_rfl) (by kernel_rfl) (by kernel_rfl) (fun _ _ _ h => h) (by rfl) ?_ hHeld ?_
     rotate_left
     ·intro W hSw
      go_simp
      try with_reducible rfl
     try simp only [Act.put, zA, zB, zC]
     refine zT 10 33 ?_ rfl (by kernel_rfl) (by kernel_rfl) (by kernel_rfl) (fun _ _ _ h => h) (by rfl) ?_ hHeld ?_
     rotate_left
     ·intro W hSw
      have e2 : W.cell? ⟨gx, 2, none⟩ = some (.int .i64 c.ths) := hSw.2.cell 2
      go_simp
      try with_reducible rfl
     try simp only [Act.put, zA, zB, zC]
     refine zT 11 34 ?_ rfl (by kernel_rfl) (by kernel_rfl) (by kernel_rfl) (fun _ _ _ h => h) (by rfl) ?_ hHeld ?_
     rotate_left
     ·intro W hSw
      go_simp
      try with_reducible rfl
     try simp only [Act.put, zA, zB, zC]
     refine zT 12 35 ?_ rfl (by kernel_rfl) (by kernel_rfl) (by kernel_rfl) (fun _ _ _ h => h) (by rfl) ?_ hHeld ?_
     rotate_left
     ·intro W hSw
      go_simp
      try with_reducible rfl
     try simp only [Act.put, zA, zB, zC]
     refine zT 13 36 ?_ rfl (by kernel_rfl) (by kernel_rfl) (by kernel_rfl) (fun _ _ _ h => h) (by rfl) ?_ hHeld ?_
     rotate_left
     ·intro W hSw
      go_simp
      try with_reducible rfl
     try simp only [Act.put, zA, zB, zC]
     refine zT 14 37 ?_ rfl (by kernel_rfl) (by kernel_rfl) (by kernel_rfl) (fun _ _ _ h => h) (by rfl) ?_ hHeld ?_
     rotate_left
     ·intro W hSw
      go_simp
      try with_reducible rfl
     try simp only [Act.put, zA, zB, zC]
     refine zU 15 38 rfl (by kernel_rfl) (by kernel_rfl) (by kernel_rfl) (fun _ _ _ h => h) (by rfl) hHeld ?_
     try simp only [Act.put, zA, zB, zC]
     refine zU 16 39 rfl (by kernel_rfl) (by kernel_rfl) (by kernel_rfl) (fun _ _ _ h => h) (by rfl) hHeld ?_
     try simp only [Act.put, zA, zB, zC]
     refine zU 17 40 rfl (by kernel_rfl) (by kernel_rfl) (by kernel_rfl) (fun _ _ _ h => h) (by rfl) hHeld ?_
     try simp only [Act.put, zA, zB, zC]
     refine zU 18 41 rfl (by kernel_rfl) (by kernel_rfl) (by kernel_rfl) (fun _ _ _ h => h) (by rfl) hHeld ?_
     try simp only [Act.put, zA, zB, zC]
     refine zT 19 42 ?_ rfl (by kernel_rfl) (by kernel_rfl) (by kernel_rfl) (fun _ _ _ h => h) (by rfl) ?_ hHeld ?_
     rotate_left
     ·intro W hSw
      go_simp
      try with_reducible rfl
     try simp only [Act.put, zA, zB, zC]
     refine zT 20 43 ?_ rfl (by kernel_rfl) (by kernel_rfl) (by kernel_rfl) (fun _ _ _ h => h) (by rfl) ?_ hHeld ?_
     rotate_left
     ·intro W hSw
      go_simp
      try with_reducible rfl
     try simp only [Act.put, zA, zB, zC]
     refine zU 21 44 rfl (by kernel_rfl) (by kernel_rfl) (by kernel_rfl) (fun _ _ _ h => h) (by rfl) hHeld ?_
     try simp only [Act.put, zA, zB, zC]
     refine zU 22 45 rfl (by kernel_rfl) (by kernel_rfl) (by kernel_rfl) (fun _ _ _ h => h) (by rfl) hHeld ?_
     try simp only [Act.put, zA, zB, zC]
     refine zU 23 46 rfl (by kernel_rfl) (by kernel_rfl) (by kernel_rfl) (fun _ _ _ h => h) (by rfl) hHeld ?_
     try simp only [Act.put, zA, zB, zC]
     refine zU 24 47 rfl (by kernel_rfl) (by kernel_rfl) (by kernel_rfl) (fun _ _ _ h => h) (by rfl) hHeld ?_
     try simp only [Act.put, zA, zB, zC]
     refine zU 25 48 rfl (by kernel_rfl) (by kernel_rfl) (by kernel_rfl) (fun _ _ _ h => h) (by rfl) hHeld ?_
     try simp only [Act.put, zA, zB, zC]
     refine zU 26 49 rfl (by kernel_rfl) (by kernel_rfl) (by kernel_rfl) (fun _ _ _ h => h) (by rfl) hHeld ?_
     try simp only [Act.put, zA, zB, zC]
     refine zT 27 50 ?_ rfl (by kernel_rfl) (by kernel_rfl) (by kernel_rfl) (fun _ _ _ h => h) (by rfl) ?_ hHeld ?_
     rotate_left
     ·intro W hSw
      go_simp
      try with_reducible rfl
     try simp only [Act.put, zA, zB, zC]
     refine wpAnyH_done (by kernel_rfl) ?_ _
     have HF : Hid ((l.take (k + 1)).filter (belB iss key time) = (l.take k).filter (belB iss key time)) := by show _ = _; rw [HFN.out, bel_ths hC, if_neg Bool.false_ne_true, List.append_nil]
     have HD : Hid (∃ fpo, Below w.heap.size w w1 /\ OwnS crlKd w1 w.heap.size u9 ((l.take (k + 1)).filter (belB iss key time)) fpo) := ⟨fpo, H.out.1.trans (hHeld.1.mono H.out.1.size), by rw [HF.out]; exact H.out.2.stays hHeld.1⟩
     clear H hHeld HF HFN HSB HCA HOC
     go_wp2_with fail
     go_roundw
     case rel => exact ⟨k + 1, by omega, by go_num, HD.out⟩
     case measure => simp [intOf]; omega
    refine zT 9 32 ?_ rfl (by kernel_rfl) (by kernel_rfl) (by kernel_rfl) (fun _ _ _ h => h) (by rfl) ?_ hHeld ?_
    rotate_left
    ·intro W hSw
     go_simp
     try with_reducible rfl
    try simp only [Act.put, zA, zB, zC]
    refine zT 10 33 ?_ rfl (by kernel_rfl) (by kernel_rfl) (by kernel_rfl) (fun _ _ _ h => h) (by rfl) ?_ hHeld ?_
    rotate_left
    ·intro W hSw
     have e2 : W.cell? ⟨gx, 2, none⟩ = some (.int .i64 c.ths) := hSw.2.cell 2
     go_simp
     try with_reducible rfl
    try simp only [Act.put, zA, zB, zC]
    refine zT 11 34 ?_ rfl (by kernel_rfl) (by kernel_rfl) (by kernel_rfl) (fun _ _ _ h => h) (by rfl) ?_ hHeld ?_
    rotate_left
    ·intro W hSw
     go_simp
     try with_reducible rfl
    try simp only [Act.put, zA, zB, zC]
    refine zT 12 35 ?_ rfl (by kernel_rfl) (by kernel_rfl) (by kernel_rfl) (fun _ _ _ h => h) (by rfl) ?_ hHeld ?_
    rotate_left
    ·intro W hSw
     go_simp
     try with_reducible rfl
    try simp only [Act.put, zA, zB, zC]
    refine zT 13 36 ?_ rfl (by kernel_rfl) (by kernel_rfl) (by kernel_rfl) (fun _ _ _ h => h) (by rfl) ?_ hHeld ?_
    rotate_left
    ·intro W hSw
     go_simp
     try with_reducible rfl
    try simp only [Act.put, zA, zB, zC]
    refine zT 14 37 ?_ rfl (by kernel_rfl) (by kernel_rfl) (by kernel_rfl) (fun _ _ _ h => h) (by rfl) ?_ hHeld ?_
    rotate_left
    ·intro W hSw
     go_simp
     try with_reducible rfl
    try simp only [Act.put, zA, zB, zC]
    by_cases hD : time <= c.nxt
    rotate_left
    ·skip
     refine zT 15 38 ?_ rfl (by kernel_rfl) (by kernel_rfl) (by kernel_rfl) (fun _ _ _ h => h) (by rfl) ?_ hHeld ?_
     rotate_left
     ·intro W hSw
      go_simp
      try with_reducible rfl
     try simp only [Act.put, zA, zB, zC]
     refine zT 16 39 ?_ rfl (by kernel_rfl) (by kernel_rfl) (by kernel_rfl) (fun _ _ _ h => h) (by rfl) ?_ hHeld ?_
     rotate_left
     ·intro W hSw
      go_simp
      try with_reducible rfl
     try simp only [Act.put, zA, zB, zC]
     refine zT 17 40 ?_ rfl (by kernel_rfl) (by kernel_rfl) (by kernel_rfl) (fun _ _ _ h => h) (by rfl) ?_ hHeld ?_
     rotate_left
     ·intro W hSw
      have e3 : W.cell? ⟨gx, 3, none⟩ = some (.int .i64 c.nxt) := hSw.2.cell 3
      go_simp
      try with_reducible rfl
     try simp only [Act.put, zA, zB, zC]
     refine zT 18 41 ?_ rfl (by kernel_rfl) (by kernel_rfl) (by kernel_rfl) (fun _ _ _ h => h) (by rfl) ?_ hHeld ?_
     rotate_left
     ·intro W hSw
      go_simp
      try with_reducible rfl
     try simp only [Act.put, zA, zB, zC]
     refine zT 19 42 ?_ rfl (by kernel_rfl) (by kernel_rfl) (by kernel_rfl) (fun _ _ _ h => h) (by rfl) ?_ hHeld ?_
     rotate_left
     ·intro W hSw
      go_simp
      try with_reducible rfl
     try simp only [Act.put, zA, zB, zC]
     refine zT 20 43 ?_ rfl (by kernel_rfl) (by kernel_rfl) (by kernel_rfl) (fun _ _ _ h => h) (by rfl) ?_ hHeld ?_
     rotate_left
     ·intro W hSw
      go_simp
      try with_reducible rfl
     try simp only [Act.put, zA, zB, zC]
     refine zU 21 44 rfl (by kernel_rfl) (by kernel_rfl) (by kernel_rfl) (fun _ _ _ h => h) (by rfl) hHeld ?_
     try simp only [Act.put, zA, zB, zC]
     refine zU 22 45 rfl (by kernel_rfl) (by kernel_rfl) (by kernel_rfl) (fun _ _ _ h => h) (by rfl) hHeld ?_
     try simp only [Act.put, zA, zB, zC]
     refine zU 23 46 rfl (by kernel_rfl) (by kernel_rfl) (by kernel_rfl) (fun _ _ _ h => h) (by rfl) hHeld ?_
     try simp only [Act.put, zA, zB, zC]
     refine zU 24 47 rfl (by kernel_rfl) (by kernel_rfl) (by kernel_rfl) (fun _ _ _ h => h) (by rfl) hHeld ?_
     try simp only [Act.put, zA, zB, zC]
     refine zU 25 48 rfl (by kernel_rfl) (by kernel_rfl) (by kernel_rfl) (fun _ _ _ h => h) (by rfl) hHeld ?_
     try simp only [Act.put, zA, zB, zC]
     refine zU 26 49 rfl (by kernel_rfl) (by kernel_rfl) (by kernel_rfl) (fun _ _ _ h => h) (by rfl) hHeld ?_
     try simp only [Act.put, zA, zB, zC]
     refine zT 27 50 ?_ rfl (by kernel_rfl) (by kernel_rfl) (by kernel_rfl) (fun _ _ _ h => h) (by rfl) ?_ hHeld ?_
     rotate_left
     ·intro W hSw
      go_simp
      try with_reducible rfl
     try simp only [Act.put, zA, zB, zC]
     refine wpAnyH_done (by kernel_rfl) ?_ _
     have HF : Hid ((l.take (k + 1)).filter (belB iss key time) = (l.take k).filter (belB iss key time)) := by show _ = _; rw [HFN.out, bel_nxt hD, if_neg Bool.false_ne_true, List.append_nil]
     have HD : Hid (∃ fpo, Below w.heap.size w w1 /\ OwnS crlKd w1 w.heap.size u9 ((l.take (k + 1)).filter (belB iss key time)) fpo) := ⟨fpo, H.out.1.trans (hHeld.1.mono H.out.1.size), by rw [HF.out]; exact H.out.2.stays hHeld.1⟩
     clear H hHeld HF HFN HSB HCA HOC
     go_wp2_with fail
     go_roundw
     case rel => exact ⟨k + 1, by omega, by go_num, HD.out⟩
     case measure => simp [intOf]; omega
    refine zT 15 38 ?_ rfl (by kernel_rfl) (by kernel_rfl) (by kernel_rfl) (fun _ _ _ h => h) (by rfl) ?_ hHeld ?_
    rotate_left
    ·intro W hSw
     go_simp
     try with_reducible rfl
    try simp only [Act.put, zA, zB, zC]
    refine zT 16 39 ?_ rfl (by kernel_rfl) (by kernel_rfl) (by kernel_rfl) (fun _ _ _ h => h) (by rfl) ?_ hHeld ?_
    rotate_left
    ·intro W hSw
     go_simp
     try with_reducible rfl
    try simp only [Act.put, zA, zB, zC]
    refine zT 17 40 ?_ rfl (by kernel_rfl) (by kernel_rfl) (by kernel_rfl) (fun _ _ _ h => h) (by rfl) ?_ hHeld ?_
    rotate_left
    ·intro W hSw
     have e3 : W.cell? ⟨gx, 3, none⟩ = some (.int .i64 c.nxt) := hSw.2.cell 3
     go_simp
     try with_reducible rfl
    try simp only [Act.put, zA, zB, zC]
    refine zT 18 41 ?_ rfl (by kernel_rfl) (by kernel_rfl) (by kernel_rfl) (fun _ _ _ h => h) (by rfl) ?_ hHeld ?_
    rotate_left
    ·intro W hSw
     go_simp
     try with_reducible rfl
    try simp only [Act.put, zA, zB, zC]
    refine zT 19 42 ?_ rfl (by kernel_rfl) (by kernel_rfl) (by kernel_rfl) (fun _ _ _ h => h) (by rfl) ?_ hHeld ?_
    rotate_left
    ·intro W hSw
     go_simp
     try with_reducible rfl
    try simp only [Act.put, zA, zB, zC]
    refine zT 20 43 ?_ rfl (by kernel_rfl) (by kernel_rfl) (by kernel_rfl) (fun _ _ _ h => h) (by rfl) ?_ hHeld ?_
    rotate_left
    ·intro W hSw
     go_simp
     try with_reducible rfl
    try simp only [Act.put, zA, zB, zC]
    obtain ⟨T, hT⟩ : ∃ T, (⟨((writeI 4 (bodyL c)).getD []).toArray⟩ : ByteArray) = T := ⟨_, rfl⟩
    have HT : Hid ((⟨((writeI 4 (bodyL c)).getD []).toArray⟩ : ByteArray) = T /\ T.size <= 1048576) := ⟨hT, by rw [<- hT]; exact write_small c⟩
    obtain ⟨SG, hSG⟩ : ∃ b, sokB key T c.sig = b := ⟨_, rfl⟩
    have HBL : Hid (belB iss key time c = SG) := by show _ = _; rw [bel_all hA hB hC hD, hT, hSG]
    refine zT 21 44 ?_ rfl (by kernel_rfl) (by kernel_rfl) (by kernel_rfl) (fun _ _ _ h => h) (by rfl) ?_ hHeld ?_
    rotate_left
    ·intro W hSw
     go_simp
     try with_reducible rfl
    try simp only [Act.put, zA, zB, zC]
    refine zT 22 45 ?_ rfl (by kernel_rfl) (by kernel_rfl) (by kernel_rfl) (fun _ _ _ h => h) (by rfl) ?_ hHeld ?_
    rotate_left
    ·intro W hSw
     have e0 : W.cell? ⟨gx, 0, none⟩ = some (.string c.issuer) := hSw.2.cell 0
     have e1 : W.cell? ⟨gx, 1, none⟩ = some (.int .i64 c.num) := hSw.2.cell 1
     have e2 : W.cell? ⟨gx, 2, none⟩ = some (.int .i64 c.ths) := hSw.2.cell 2
     have e3 : W.cell? ⟨gx, 3, none⟩ = some (.int .i64 c.nxt) := hSw.2.cell 3
     have e4 : W.cell? ⟨gx, 4, none⟩ = some (.int .i64 c.bas) := hSw.2.cell 4
     have e5 : W.cell? ⟨gx, 5, none⟩ = some (.slice p1 m1 q1) := hSw.2.cell 5
     have e6 : W.cell? ⟨gx, 6, none⟩ = some (.string c.sig) := hSw.2.cell 6
     go_simp
     try with_reducible rfl
    try simp only [Act.put, zA, zB, zC]
    refine zT 24 47 ?_ rfl (by kernel_rfl) (by kernel_rfl) (by kernel_rfl) (fun _ _ _ h => h) (by rfl) ?_ hHeld ?_
    rotate_left
    ·intro W hSw
     go_simp
     try with_reducible rfl
    try simp only [Act.put, zA, zB, zC]
    refine zT 25 48 ?_ rfl (by kernel_rfl) (by kernel_rfl) (by kernel_rfl) (fun _ _ _ h => h) (by rfl) ?_ hHeld ?_
    rotate_left
    ·intro W hSw
     have e6 : W.cell? ⟨gx, 6, none⟩ = some (.string c.sig) := hSw.2.cell 6
     go_simp
     try with_reducible rfl
    try simp only [Act.put, zA, zB, zC]
    refine wpAnyH_ready (rs := [23]) (by kernel_rfl) (by simp) ?_
    refine AllReadyH.cons (o := ⟨some 46, _, _, _, _, _⟩) rfl (fun K hK => ?_) AllReadyH.nil
    have EQ := specCrlBody_any c (.agg #[.string c.issuer, .int .i64 c.num, .int .i64 c.ths, .int .i64 c.nxt, .int .i64 c.bas, .slice p1 m1 q1, .string c.sig]) w1 HW.out.1 HW.out.2 (HCA.out _ hHeld)
    rw [hT] at EQ
    try unfold clV at EQ
    go_simp
    refine EQ.mono ?_
    rintro e w2 ⟨rfl, hb⟩
    have hS3 := HSB.out _ _ hHeld hb
    clear hb EQ
    refine hK.out _ _ hS3 (fun hHeld => ?_)
    clear hK K hS3
    try simp only [Act.put, zA, zB, zC]
    refine wpAnyH_ready (rs := [26]) (by kernel_rfl) (by simp) ?_
    refine AllReadyH.cons (o := ⟨some 49, _, _, _, _, _⟩) rfl (fun K hK => ?_) AllReadyH.nil
    have EQ := specSok_any key T c.sig w2 HA.out.2.2.2.2.2 HT.out.2 (wtL_parts HW.out.1).2.2
    rw [hSG] at EQ
    try unfold clV at EQ
    go_simp
    refine EQ.mono ?_
    rintro e w3 ⟨rfl, hb⟩
    have hS3 := HSB.out _ _ hHeld hb
    clear hb EQ
    refine hK.out _ _ hS3 (fun hHeld => ?_)
    clear hK K hS3
    try simp only [Act.put, zA, zB, zC]
    refine zT 27 50 ?_ rfl (by kernel_rfl) (by kernel_rfl) (by kernel_rfl) (fun _ _ _ h => h) (by rfl) ?_ hHeld ?_
    rotate_left
    ·intro W hSw
     go_simp
     try with_reducible rfl
    try simp only [Act.put, zA, zB, zC]
    clear hT hSG HT
    cases SG with
    | false =>
     refine wpAnyH_done (by kernel_rfl) ?_ _
     have HF : Hid ((l.take (k + 1)).filter (belB iss key time) = (l.take k).filter (belB iss key time)) := by show _ = _; rw [HFN.out, HBL.out, if_neg Bool.false_ne_true, List.append_nil]
     have HD : Hid (∃ fpo, Below w.heap.size w w3 /\ OwnS crlKd w3 w.heap.size u9 ((l.take (k + 1)).filter (belB iss key time)) fpo) := ⟨fpo, H.out.1.trans (hHeld.1.mono H.out.1.size), by rw [HF.out]; exact H.out.2.stays hHeld.1⟩
     clear H hHeld HF HFN HSB HCA HOC
     go_wp2_with fail
     go_roundw
     case rel => exact ⟨k + 1, by omega, by go_num, HD.out⟩
     case measure => simp [intOf]; omega
    | true =>
     refine wpAnyH_done (by kernel_rfl) ?_ _
     have HF : Hid ((l.take (k + 1)).filter (belB iss key time) = (l.take k).filter (belB iss key time) ++ [c]) := by show _ = _; rw [HFN.out, HBL.out, if_pos rfl]
     have HL0 : Hid (((l.take k).filter (belB iss key time)).length <= 1048576) := by show _ <= _; have h1 := List.length_filter_le (belB iss key time) (l.take k); have h2 := List.length_take_le k l; omega
     obtain ⟨LF, hLF⟩ : ∃ q, (l.take k).filter (belB iss key time) = q := ⟨_, rfl⟩
     rw [hLF] at HF HL0 H
     clear hLF HFN HBL
     obtain ⟨va, vc, hvo, -⟩ := H.out.2.shape
     obtain ⟨ln, hln⟩ : ∃ q, LF.length = q := ⟨_, rfl⟩
     rw [hln] at hvo
     subst hvo
     have HX : Hid (CS wr w3 gx #[.string c.issuer, .int .i64 c.num, .int .i64 c.ths, .int .i64 c.nxt, .int .i64 c.bas, .slice p1 m1 q1, .string c.sig]) := hHeld
     have EC := crlCopy_any c (.agg #[.string c.issuer, .int .i64 c.num, .int .i64 c.ths, .int .i64 c.nxt, .int .i64 c.bas, .slice p1 m1 q1, .string c.sig]) bs w3 (by have := (wtL_parts HW.out.1).2.1; omega) (HOC.out.stays hHeld.1)
     have e0 : w3.cell? ⟨gx, 0, none⟩ = some (.string c.issuer) := HX.out.2.cell 0
     have e1 : w3.cell? ⟨gx, 1, none⟩ = some (.int .i64 c.num) := HX.out.2.cell 1
     have e2 : w3.cell? ⟨gx, 2, none⟩ = some (.int .i64 c.ths) := HX.out.2.cell 2
     have e3 : w3.cell? ⟨gx, 3, none⟩ = some (.int .i64 c.nxt) := HX.out.2.cell 3
     have e4 : w3.cell? ⟨gx, 4, none⟩ = some (.int .i64 c.bas) := HX.out.2.cell 4
     have e5 : w3.cell? ⟨gx, 5, none⟩ = some (.slice p1 m1 q1) := HX.out.2.cell 5
     have e6 : w3.cell? ⟨gx, 6, none⟩ = some (.string c.sig) := HX.out.2.cell 6
     clear hHeld
     go_wp2_with fail
     refine EC.mono ?_
     rintro e w5 ⟨u5, rfl, ⟨p5, rfl, ho5⟩, hb5⟩
     obtain ⟨qa, qc, hq5, -, -, -⟩ := OwnR.shape ho5
     subst hq5
     have H5 : Hid ((Below w.heap.size w w5 /\ OwnS crlKd w5 w.heap.size (.slice va ln vc) LF fpo) /\ OwnL w5 w.heap.size (clV c (.slice qa c.revs.length qc)) c /\ (∀ b ∈ fpL (clV c (.slice qa c.revs.length qc)), b ∉ fpo) /\ w.heap.size <= w5.heap.size) := by
      have hb : Below wr.heap.size wr w5 := HX.out.1.trans (hb5.mono HX.out.1.size)
      have h1 := H.out.1.size
      have h2 := HX.out.1.size
      refine ⟨⟨H.out.1.trans (hb.mono H.out.1.size), H.out.2.stays hb⟩, ⟨_, rfl, OwnR.base ho5 (by omega)⟩, fun b hb1 hm => ?_, by have := hb5.size; omega⟩
      have h3 := (H.out.2.lt b hm).2
      have h4 := (World.ownsRow.lt ho5 b (fpL_mem.1 hb1)).1
      omega
     clear EC ho5 hb5 H HX e0 e1 e2 e3 e4 e5 e6
     unfold clV
     go_wp2_with (at_builtin; refine wpList_append_crl rfl _ _ rfl w.heap.size (.slice va ln vc) LF fpo c (.slice qa c.revs.length qc) rfl _ rfl rfl H5.out.1.2 H5.out.2.1 H5.out.2.2.1 H5.out.2.2.2 (by have := HL0.out; omega) ?_)
     intro g9 cap9 w9 fp9 hO9 hb9
     have HD : Hid (∃ fpo, Below w.heap.size w w9 /\ OwnS crlKd w9 w.heap.size (.slice (some ⟨g9, 0, none⟩) (ln + 1) cap9) ((l.take (k + 1)).filter (belB iss key time)) fpo) := ⟨fp9, H5.out.1.1.trans hb9, by rw [HF.out]; first | exact hO9 | (have h := hO9; rw [List.length_append, hln] at h; exact h)⟩
     clear hO9 hb9 H5 HF
     go_wp2_with fail
     go_roundw
     case rel => exact ⟨k + 1, by omega, by go_num, HD.out⟩
     case measure => simp [intOf]; omega
  ·have hki : ¬ (k : Int) < (n : Int) := by omega
   have hkl : k = n := by omega
   subst hkl
   have HF : Hid ((l.take k).filter (belB iss key time) = l.filter (belB iss key time)) := by show _ = _; rw [List.take_of_length_le (by rw [HA.out.2.1]; exact Nat.le_refl _)]
   go_wp2_with fail
   go_ret
   exact ⟨_, fpo, rfl, by rw [<- HF.out]; exact H.out.2, H.out.1⟩
end Go.Proofs.YtjgbmnhoajiabaaGreatDoor
namespace Go.Proofs.YtjgbmnhoajiabaaGreatDoor
open Go.RowKit
set_option linter.unusedVariables false
set_option linter.unusedSimpArgs false
def OC (w W : World) (cells : Array Value) : Prop := Blk W w.heap.size 49 cells /\ Blk W (w.heap.size + 1) 49 #[.string ⟨#[]⟩, .int .i64 0, .int .i64 0, .int .i64 0, .int .i64 0, .slice none 0 0, .string ⟨#[]⟩] /\ Below w.heap.size w W /\ w.heap.size + 2 <= W.heap.size
theorem OC.below {w W W' : World} {cells : Array Value} (h : OC w W cells) (hb : Below W.heap.size W W') : OC w W' cells :=
 ⟨h.1.below hb h.1.lt, h.2.1.below hb h.2.1.lt, h.2.2.1.trans (hb.mono h.2.2.1.size), Nat.le_trans h.2.2.2 hb.size⟩
theorem OC.set {w W : World} {cells cells' : Array Value} (h : OC w W cells) (j : Nat) (v : Value) (hc : cells.setIfInBounds j v = cells') : OC w (W.setCell ⟨w.heap.size, j, none⟩ v) cells' :=
 ⟨by rw [<- hc]; exact h.1.set j v, h.2.1.other v (by show w.heap.size + 1 ≠ w.heap.size; omega), Below.setCell h.2.2.1 (Nat.le_refl _) _, by have := h.2.2.2; have e := ((Out.refl [w.heap.size] W).setCell ⟨w.heap.size, j, none⟩ v (by simp)).2.2.2.1; omega⟩
theorem OC.grown {w W W' : World} {cells : Array Value} (h : OC w W cells) (hg : W.grownBy W' none) : OC w W' cells :=
 ⟨(hg.block _ h.1.lt (fun e => by cases e)).trans h.1, (hg.block _ h.2.1.lt (fun e => by cases e)).trans h.2.1, h.2.2.1.grown hg h.2.2.1.size (fun b hb => by cases hb), Nat.le_trans h.2.2.2 hg.size⟩
set_option maxHeartbeats 6400000 in
theorem ownCrl_any (c : Cl) (v : Value) (bs : Nat) (w : World) (hl : c.revs.length <= 20000000) (hs1 : c.issuer.size <= 1000000000000) (hs2 : c.sig.size <= 1000000000000) (ha : OwnL w bs v c) :
  Calls Tryz.prog 139 #[v] w fun e w' => ∃ u, e = .returned u /\ OwnL w' w.heap.size u c /\ Below w.heap.size w w' := by
 obtain ⟨pv, rfl, h1⟩ := ha
 obtain ⟨pa, pc, hpv, -, -, -⟩ := OwnR.shape h1
 obtain ⟨lp, hlp⟩ : ∃ l, c.revs.length = l := ⟨_, rfl⟩
 rw [hlp] at hpv
 subst hpv
 have HO : Hid (OwnR w bs (.slice pa lp pc) c.revs /\ c.revs.length = lp /\ c.revs.length <= 20000000) := ⟨h1, hlp, hl⟩
 clear h1 hlp hl
 unfold clV
 obtain ⟨W0, hW0⟩ : ∃ V, V = w.alloc (Obj.cells #[.string c.issuer, .int .i64 c.num, .int .i64 c.ths, .int .i64 c.nxt, .int .i64 c.bas, .slice pa lp pc, .string c.sig] 49) := ⟨_, rfl⟩
 obtain ⟨W2, hW2⟩ : ∃ V, V = W0.alloc (Obj.cells #[.string ⟨#[]⟩, .int .i64 0, .int .i64 0, .int .i64 0, .int .i64 0, .slice none 0 0, .string ⟨#[]⟩] 49) := ⟨_, rfl⟩
 have hs0 : W0.heap.size = w.heap.size + 1 := by rw [hW0]; exact size_alloc _ _
 have H2 : Hid (OC w W2 #[.string c.issuer, .int .i64 c.num, .int .i64 c.ths, .int .i64 c.nxt, .int .i64 c.bas, .slice pa lp pc, .string c.sig]) := by
  have h1 := Blk.new W0 49 #[.string ⟨#[]⟩, .int .i64 0, .int .i64 0, .int .i64 0, .int .i64 0, .slice none 0 0, .string ⟨#[]⟩]
  rw [hs0] at h1
  rw [hW2]
  refine ⟨?_, h1, ?_, by rw [size_alloc]; omega⟩
  ·rw [hW0]
   exact (Blk.new _ _ _).alloc _
  ·rw [hW0]
   exact ((Below.refl _ _).alloc (Nat.le_refl _) _).alloc (by rw [size_alloc]; omega) _
 have wd1 : w.heap.size ≠ w.heap.size + 1 := by omega
 go_enter Tryz.func139, Tryz.ntmps139
 go_upto_region 1 with fail
 rw [<- hW0, <- hW2]
 try rw [hs0]
 clear hW0 hW2 hs0
 have a0 : W2.cell? ⟨w.heap.size, 0, none⟩ = some (.string c.issuer) := H2.out.1.cell 0
 go_wp2_with fail
 refine (cloneB_any c.issuer W2 hs1).mono ?_
 rintro e w3 ⟨rfl, hb3⟩
 have H3 : Hid (OC w w3 #[.string c.issuer, .int .i64 c.num, .int .i64 c.ths, .int .i64 c.nxt, .int .i64 c.bas, .slice pa lp pc, .string c.sig]) := H2.out.below hb3
 clear H2 hb3 a0
 have a0 : w3.cell? ⟨w.heap.size, 0, none⟩ = some (.string c.issuer) := H3.out.1.cell 0
 have a5 : w3.cell? ⟨w.heap.size, 5, none⟩ = some (.slice pa lp pc) := H3.out.1.cell 5
 have fz := fun i => H3.out.1.free i
 obtain ⟨V3, hV3⟩ : ∃ V, V = w3.setCell ⟨w.heap.size, 0, none⟩ (.string c.issuer) := ⟨_, rfl⟩
 have H4 : Hid (OC w V3 #[.string c.issuer, .int .i64 c.num, .int .i64 c.ths, .int .i64 c.nxt, .int .i64 c.bas, .slice pa lp pc, .string c.sig]) := by rw [hV3]; exact H3.out.set 0 _ rfl
 go_wp2_with (at_builtin; rw [<- hV3]; refine wpList_append_revs rfl _ _ rfl (w.heap.size + 2) (.slice none 0 0) 0 [] rfl (World.ownsRow_nil _ _ _ _) _ c.revs bs (HO.out.1.stays H4.out.2.2.1) rfl (by have := HO.out.2.2; omega) H4.out.2.2.2 ?_)
 intro v9 w9 ho9 hg9
 try rw [<- hV3] at hg9
 have H9 : Hid (OC w w9 #[.string c.issuer, .int .i64 c.num, .int .i64 c.ths, .int .i64 c.nxt, .int .i64 c.bas, .slice pa lp pc, .string c.sig] /\ OwnR w9 (w.heap.size + 2) v9 c.revs) := ⟨H4.out.grown hg9, by simpa [OwnR] using ho9⟩
 clear a0 a5 fz hV3 H3 H4 ho9 hg9
 obtain ⟨qa, qc, hq9, -, -, -⟩ := OwnR.shape H9.out.2
 obtain ⟨ql, hql⟩ : ∃ l, c.revs.length = l := ⟨_, rfl⟩
 rw [hql] at hq9
 clear hql
 subst hq9
 have a5 : w9.cell? ⟨w.heap.size, 5, none⟩ = some (.slice pa lp pc) := H9.out.1.1.cell 5
 have a6 : w9.cell? ⟨w.heap.size, 6, none⟩ = some (.string c.sig) := H9.out.1.1.cell 6
 have fz := fun i => H9.out.1.1.free i
 obtain ⟨V5, hV5⟩ : ∃ V, V = w9.setCell ⟨w.heap.size, 5, none⟩ (.slice qa ql qc) := ⟨_, rfl⟩
 have H5 : Hid (OC w V5 #[.string c.issuer, .int .i64 c.num, .int .i64 c.ths, .int .i64 c.nxt, .int .i64 c.bas, .slice qa ql qc, .string c.sig] /\ OwnR V5 (w.heap.size + 2) (.slice qa ql qc) c.revs) := by
  rw [hV5]
  exact ⟨H9.out.1.set 5 _ rfl, row_same H9.out.2 (fun g hg => heap_setCell_other _ _ _ _ (by have := (World.ownsRow.lt H9.out.2 g hg).1; show g ≠ w.heap.size; omega))⟩
 go_wp2_with fail
 rw [<- hV5]
 clear hV5 a5 a6 fz H9
 refine (cloneB_any c.sig V5 hs2).mono ?_
 rintro e w6 ⟨rfl, hb6⟩
 have H6 : Hid (OC w w6 #[.string c.issuer, .int .i64 c.num, .int .i64 c.ths, .int .i64 c.nxt, .int .i64 c.bas, .slice qa ql qc, .string c.sig] /\ OwnR w6 (w.heap.size + 2) (.slice qa ql qc) c.revs) := ⟨H5.out.1.below hb6, H5.out.2.stays hb6⟩
 clear hb6 H5
 have d0 : w6.cell? ⟨w.heap.size, 0, none⟩ = some (.string c.issuer) := H6.out.1.1.cell 0
 have d1 : w6.cell? ⟨w.heap.size, 1, none⟩ = some (.int .i64 c.num) := H6.out.1.1.cell 1
 have d2 : w6.cell? ⟨w.heap.size, 2, none⟩ = some (.int .i64 c.ths) := H6.out.1.1.cell 2
 have d3 : w6.cell? ⟨w.heap.size, 3, none⟩ = some (.int .i64 c.nxt) := H6.out.1.1.cell 3
 have d4 : w6.cell? ⟨w.heap.size, 4, none⟩ = some (.int .i64 c.bas) := H6.out.1.1.cell 4
 have d5 : w6.cell? ⟨w.heap.size, 5, none⟩ = some (.slice qa ql qc) := H6.out.1.1.cell 5
 have d6 : w6.cell? ⟨w.heap.size, 6, none⟩ = some (.string c.sig) := H6.out.1.1.cell 6
 have b0 : w6.cell? ⟨w.heap.size + 1, 0, none⟩ = some (.string ⟨#[]⟩) := H6.out.1.2.1.cell 0
 have b1 : w6.cell? ⟨w.heap.size + 1, 1, none⟩ = some (.int .i64 0) := H6.out.1.2.1.cell 1
 have b2 : w6.cell? ⟨w.heap.size + 1, 2, none⟩ = some (.int .i64 0) := H6.out.1.2.1.cell 2
 have b3 : w6.cell? ⟨w.heap.size + 1, 3, none⟩ = some (.int .i64 0) := H6.out.1.2.1.cell 3
 have b4 : w6.cell? ⟨w.heap.size + 1, 4, none⟩ = some (.int .i64 0) := H6.out.1.2.1.cell 4
 have b5 : w6.cell? ⟨w.heap.size + 1, 5, none⟩ = some (.slice none 0 0) := H6.out.1.2.1.cell 5
 have b6 : w6.cell? ⟨w.heap.size + 1, 6, none⟩ = some (.string ⟨#[]⟩) := H6.out.1.2.1.cell 6
 have fd := fun i => H6.out.1.1.free i
 have fb := fun i => H6.out.1.2.1.free i
 go_wp2_with fail
 refine bodyPost_ret (v := clV c (.slice qa ql qc)) (by simp [results, Tryz.results139, go_sem, clV, b0, b1, b2, b3, b4, b5, b6]) rfl ⟨_, rfl, ⟨_, rfl, OwnR.base (row_same H6.out.2 ?far) (by omega)⟩, ?bel⟩
 case far =>
  intro b hb
  have h2 := (World.ownsRow.lt H6.out.2 b hb).1
  iterate 8 rw [heap_setCell_other _ _ _ _ (by first | (show b ≠ w.heap.size + 1; omega) | (show b ≠ w.heap.size; omega))]
 case bel =>
  iterate 8 refine Below.setCell ?_ (by first | (show w.heap.size <= w.heap.size + 1; omega) | (show w.heap.size <= w.heap.size; omega)) _
  exact H6.out.1.2.2.1
end Go.Proofs.YtjgbmnhoajiabaaGreatDoor
namespace Go.Proofs.YtjgbmnhoajiabaaGreatDoor
open Go.RowKit Der
set_option linter.unusedVariables false
set_option linter.unusedSimpArgs false
set_option maxHeartbeats 25600000 in
theorem believed_any (c : Cl) (v : Value) (iss key : ByteArray) (time : Int) (w : World) (hz : wtL c <= 1048576) (hw : WdL c) (hk : key.size <= 1048576) (hH : ∀ w', Below w.heap.size w w' -> KeysOk w' /\ StartOk w') (ha : ClAt w v c) :
  Calls Tryz.prog 146 #[v, .string iss, .string key, .int .i64 time] w fun e w' => e = .returned (.bool (belB iss key time c)) /\ Below w.heap.size w w' := by
 obtain ⟨p1, q1, hv⟩ := ha.shape
 subst hv
 obtain ⟨m1, hm1⟩ : ∃ m, c.revs.length = m := ⟨_, rfl⟩
 rw [hm1] at ha |-
 clear hm1
 have HA : Hid (ClAt w (.agg #[.string c.issuer, .int .i64 c.num, .int .i64 c.ths, .int .i64 c.nxt, .int .i64 c.bas, .slice p1 m1 q1, .string c.sig]) c /\ key.size <= 1048576 /\ (∀ w', Below w.heap.size w w' -> KeysOk w' /\ StartOk w')) := ⟨ha, hk, hH⟩
 have HW : Hid (wtL c <= 1048576 /\ WdL c) := ⟨hz, hw⟩
 clear ha hk hH hz hw
 unfold clV
 obtain ⟨V, hV⟩ : ∃ V, V = w.alloc (Obj.cells #[.string c.issuer, .int .i64 c.num, .int .i64 c.ths, .int .i64 c.nxt, .int .i64 c.bas, .slice p1 m1 q1, .string c.sig] 49) := ⟨_, rfl⟩
 obtain ⟨gx, hgx⟩ : ∃ q, w.heap.size = q := ⟨_, rfl⟩
 have HV : Hid (CS w V gx #[.string c.issuer, .int .i64 c.num, .int .i64 c.ths, .int .i64 c.nxt, .int .i64 c.bas, .slice p1 m1 q1, .string c.sig]) := by rw [hV, <- hgx]; exact ⟨(Below.refl _ _).alloc (Nat.le_refl _) _, Blk.new _ _ _⟩
 have HSB : Hid (∀ W W' : World, CS w W gx #[.string c.issuer, .int .i64 c.num, .int .i64 c.ths, .int .i64 c.nxt, .int .i64 c.bas, .slice p1 m1 q1, .string c.sig] -> Below W.heap.size W W' -> CS w W' gx #[.string c.issuer, .int .i64 c.num, .int .i64 c.ths, .int .i64 c.nxt, .int .i64 c.bas, .slice p1 m1 q1, .string c.sig]) := fun W W' h hb => h.below hb
 have HCA : Hid (∀ W : World, CS w W gx #[.string c.issuer, .int .i64 c.num, .int .i64 c.ths, .int .i64 c.nxt, .int .i64 c.bas, .slice p1 m1 q1, .string c.sig] -> ClAt W (.agg #[.string c.issuer, .int .i64 c.num, .int .i64 c.ths, .int .i64 c.nxt, .int .i64 c.bas, .slice p1 m1 q1, .string c.sig]) c) := fun W h => HA.out.1.below h.1
 obtain ⟨RR, hRR⟩ : ∃ b, belB iss key time c = b := ⟨_, rfl⟩
 have HRR : Hid (belB iss key time c = RR) := hRR
 rw [hRR]
 clear hRR
 go_enter Tryz.func146, Tryz.ntmps146
 go_upto_region 1 with fail
 rw [<- hV]
 try rw [hgx]
 clear hV hgx
 have t2 : V.cell? ⟨gx, 2, none⟩ = some (.int .i64 c.ths) := HV.out.2.cell 2
 have t3 : V.cell? ⟨gx, 3, none⟩ = some (.int .i64 c.nxt) := HV.out.2.cell 3
 by_cases hC : c.ths <= time
 rotate_left
 ·skip
  go_upto_region 2 with fail
  clear t2 t3
  have hDr : Below V.heap.size V V.drew := (Below.refl _ _).drew
  refine wp_region_held_drew (S := fun W => CS w W gx #[.string c.issuer, .int .i64 c.num, .int .i64 c.ths, .int .i64 c.nxt, .int .i64 c.bas, .slice p1 m1 q1, .string c.sig]) (by kernel_rfl) (HV.out.below hDr) (fun hHeld => ?_)
  clear hDr HV
  generalize V.drew = wd at hHeld |-
  refine zT 0 20 ?_ rfl (by kernel_rfl) (by kernel_rfl) (by kernel_rfl) (fun _ _ _ h => h) (by rfl) ?_ hHeld ?_
  rotate_left
  ·intro W hSw
   have e0 : W.cell? ⟨gx, 0, none⟩ = some (.string c.issuer) := hSw.2.cell 0
   have e1 : W.cell? ⟨gx, 1, none⟩ = some (.int .i64 c.num) := hSw.2.cell 1
   have e2 : W.cell? ⟨gx, 2, none⟩ = some (.int .i64 c.ths) := hSw.2.cell 2
   have e3 : W.cell? ⟨gx, 3, none⟩ = some (.int .i64 c.nxt) := hSw.2.cell 3
   have e4 : W.cell? ⟨gx, 4, none⟩ = some (.int .i64 c.bas) := hSw.2.cell 4
   have e5 : W.cell? ⟨gx, 5, none⟩ = some (.slice p1 m1 q1) := hSw.2.cell 5
   have e6 : W.cell? ⟨gx, 6, none⟩ = some (.string c.sig) := hSw.2.cell 6
   go_simp
   try with_reducible rfl
  try simp only [Act.put, zA, zB, zC]
  refine wpAnyH_ready (rs := [1]) (by kernel_rfl) (by simp) ?_
  refine AllReadyH.cons (o := ⟨some 21, _, _, _, _, _⟩) rfl (fun K hK => ?_) AllReadyH.nil
  have EQ := implCrlOk_any c (.agg #[.string c.issuer, .int .i64 c.num, .int .i64 c.ths, .int .i64 c.nxt, .int .i64 c.bas, .slice p1 m1 q1, .string c.sig]) wd (Nat.le_trans HW.out.1 (by decide)) (HCA.out _ hHeld)
  try unfold clV at EQ
  go_simp
  refine EQ.mono ?_
  rintro e w1 ⟨rfl, hb⟩
  have hS3 := HSB.out _ _ hHeld hb
  clear hb EQ
  refine hK.out _ _ hS3 (fun hHeld => ?_)
  clear hK K hS3
  try simp only [Act.put, zA, zB, zC]
  obtain ⟨A, hA⟩ : ∃ b, crlOk c = b := ⟨_, rfl⟩
  rw [hA]
  refine zT 2 22 ?_ rfl (by kernel_rfl) (by kernel_rfl) (by kernel_rfl) (fun _ _ _ h => h) (by rfl) ?_ hHeld ?_
  rotate_left
  ·intro W hSw
   go_simp
   try with_reducible rfl
  try simp only [Act.put, zA, zB, zC]
  cases A with
  | false =>
   refine zU 3 23 rfl (by kernel_rfl) (by kernel_rfl) (by kernel_rfl) (fun _ _ _ h => h) (by rfl) hHeld ?_
   try simp only [Act.put, zA, zB, zC]
   refine zU 4 24 rfl (by kernel_rfl) (by kernel_rfl) (by kernel_rfl) (fun _ _ _ h => h) (by rfl) hHeld ?_
   try simp only [Act.put, zA, zB, zC]
   refine zU 5 25 rfl (by kernel_rfl) (by kernel_rfl) (by kernel_rfl) (fun _ _ _ h => h) (by rfl) hHeld ?_
   try simp only [Act.put, zA, zB, zC]
   refine zU 6 26 rfl (by kernel_rfl) (by kernel_rfl) (by kernel_rfl) (fun _ _ _ h => h) (by rfl) hHeld ?_
   try simp only [Act.put, zA, zB, zC]
   refine zT 7 27 ?_ rfl (by kernel_rfl) (by kernel_rfl) (by kernel_rfl) (fun _ _ _ h => h) (by rfl) ?_ hHeld ?_
   rotate_left
   ·intro W hSw
    go_simp
    try with_reducible rfl
   try simp only [Act.put, zA, zB, zC]
   refine zT 8 28 ?_ rfl (by kernel_rfl) (by kernel_rfl) (by kernel_rfl) (fun _ _ _ h => h) (by rfl) ?_ hHeld ?_
   rotate_left
   ·intro W hSw
    go_simp
    try with_reducible rfl
   try simp only [Act.put, zA, zB, zC]
   refine zU 9 29 rfl (by kernel_rfl) (by kernel_rfl) (by kernel_rfl) (fun _ _ _ h => h) (by rfl) hHeld ?_
   try simp only [Act.put, zA, zB, zC]
   refine zT 10 30 ?_ rfl (by kernel_rfl) (by kernel_rfl) (by kernel_rfl) (fun _ _ _ h => h) (by rfl) ?_ hHeld ?_
   rotate_left
   ·intro W hSw
    go_simp
    try with_reducible rfl
   try simp only [Act.put, zA, zB, zC]
   refine zT 11 31 ?_ rfl (by kernel_rfl) (by kernel_rfl) (by kernel_rfl) (fun _ _ _ h => h) (by rfl) ?_ hHeld ?_
   rotate_left
   ·intro W hSw
    go_simp
    try with_reducible rfl
   try simp only [Act.put, zA, zB, zC]
   refine zU 12 32 rfl (by kernel_rfl) (by kernel_rfl) (by kernel_rfl) (fun _ _ _ h => h) (by rfl) hHeld ?_
   try simp only [Act.put, zA, zB, zC]
   refine zU 13 33 rfl (by kernel_rfl) (by kernel_rfl) (by kernel_rfl) (fun _ _ _ h => h) (by rfl) hHeld ?_
   try simp only [Act.put, zA, zB, zC]
   refine zU 14 34 rfl (by kernel_rfl) (by kernel_rfl) (by kernel_rfl) (fun _ _ _ h => h) (by rfl) hHeld ?_
   try simp only [Act.put, zA, zB, zC]
   refine zU 15 35 rfl (by kernel_rfl) (by kernel_rfl) (by kernel_rfl) (fun _ _ _ h => h) (by rfl) hHeld ?_
   try simp only [Act.put, zA, zB, zC]
   refine zU 16 36 rfl (by kernel_rfl) (by kernel_rfl) (by kernel_rfl) (fun _ _ _ h => h) (by rfl) hHeld ?_
   try simp only [Act.put, zA, zB, zC]
   refine zU 17 37 rfl (by kernel_rfl) (by kernel_rfl) (by kernel_rfl) (fun _ _ _ h => h) (by rfl) hHeld ?_
   try simp only [Act.put, zA, zB, zC]
   refine zT 18 38 ?_ rfl (by kernel_rfl) (by kernel_rfl) (by kernel_rfl) (fun _ _ _ h => h) (by rfl) ?_ hHeld ?_
   rotate_left
   ·intro W hSw
    go_simp
    try with_reducible rfl
   try simp only [Act.put, zA, zB, zC]
   refine zT 19 8 ?_ rfl (by kernel_rfl) (by kernel_rfl) (by kernel_rfl) (fun _ _ _ h => h) (by rfl) ?_ hHeld ?_
   rotate_left
   ·intro W hSw
    go_simp
    try with_reducible rfl
   try simp only [Act.put, zA, zB, zC]
   refine wpAnyH_done (by kernel_rfl) ?_ _
   have HQ : Hid (RR = false /\ Below w.heap.size w w1) := ⟨by rw [<- HRR.out]; exact bel_ok hA, hHeld.1⟩
   clear hHeld HSB HCA
   go_wp2_with fail
   go_ret
   exact ⟨by rw [HQ.out.1]; rfl, HQ.out.2⟩
  | true =>
   by_cases hB : (c.issuer.toList == iss.toList) = true
   rotate_left
   ·have hB2 : (c.issuer.toList == iss.toList) = false := by simpa using hB
    clear hB
    refine zT 3 23 ?_ rfl (by kernel_rfl) (by kernel_rfl) (by kernel_rfl) (fun _ _ _ h => h) (by rfl) ?_ hHeld ?_
    rotate_left
    ·intro W hSw
     go_simp
     try with_reducible rfl
    try simp only [Act.put, zA, zB, zC]
    refine zT 4 24 ?_ rfl (by kernel_rfl) (by kernel_rfl) (by kernel_rfl) (fun _ _ _ h => h) (by rfl) ?_ hHeld ?_
    rotate_left
    ·intro W hSw
     have e0 : W.cell? ⟨gx, 0, none⟩ = some (.string c.issuer) := hSw.2.cell 0
     go_simp
     try with_reducible rfl
    try simp only [Act.put, zA, zB, zC]
    refine zT 5 25 ?_ rfl (by kernel_rfl) (by kernel_rfl) (by kernel_rfl) (fun _ _ _ h => h) (by rfl) ?_ hHeld ?_
    rotate_left
    ·intro W hSw
     go_simp
     try with_reducible rfl
    try simp only [Act.put, zA, zB, zC]
    refine zT 6 26 ?_ rfl (by kernel_rfl) (by kernel_rfl) (by kernel_rfl) (fun _ _ _ h => h) (by rfl) ?_ hHeld ?_
    rotate_left
    ·intro W hSw
     go_simp
     try with_reducible rfl
    try simp only [Act.put, zA, zB, zC]
    refine zT 7 27 ?_ rfl (by kernel_rfl) (by kernel_rfl) (by kernel_rfl) (fun _ _ _ h => h) (by rfl) ?_ hHeld ?_
    rotate_left
    ·intro W hSw
     go_simp
     try with_reducible rfl
    try simp only [Act.put, zA, zB, zC]
    refine zT 8 28 ?_ rfl (by kernel_rfl) (by kernel_rfl) (by kernel_rfl) (fun _ _ _ h => h) (by rfl) ?_ hHeld ?_
    rotate_left
    ·intro W hSw
     go_simp
     try with_reducible rfl
    try simp only [Act.put, zA, zB, zC]
    refine zU 9 29 rfl (by kernel_rfl) (by kernel_rfl) (by kernel_rfl) (fun _ _ _ h => h) (by rfl) hHeld ?_
    try simp only [Act.put, zA, zB, zC]
    refine zT 10 30 ?_ rfl (by kernel_rfl) (by kernel_rfl) (by kernel_rfl) (fun _ _ _ h => h) (by rfl) ?_ hHeld ?_
    rotate_left
    ·intro W hSw
     go_simp
     try with_reducible rfl
    try simp only [Act.put, zA, zB, zC]
    refine zT 11 31 ?_ rfl (by kernel_rfl) (by kernel_rfl) (by kernel_rfl) (fun _ _ _ h => h) (by rfl) ?_ hHeld ?_
    rotate_left
    ·intro W hSw
     go_simp
     try with_reducible rfl
    try simp only [Act.put, zA, zB, zC]
    refine zU 12 32 rfl (by kernel_rfl) (by kernel_rfl) (by kernel_rfl) (fun _ _ _ h => h) (by rfl) hHeld ?_
    try simp only [Act.put, zA, zB, zC]
    refine zU 13 33 rfl (by kernel_rfl) (by kernel_rfl) (by kernel_rfl) (fun _ _ _ h => h) (by rfl) hHeld ?_
    try simp only [Act.put, zA, zB, zC]
    refine zU 14 34 rfl (by kernel_rfl) (by kernel_rfl) (by kernel_rfl) (fun _ _ _ h => h) (by rfl) hHeld ?_
    try simp only [Act.put, zA, zB, zC]
    refine zU 15 35 rfl (by kernel_rfl) (by kernel_rfl) (by kernel_rfl) (fun _ _ _ h => h) (by rfl) hHeld ?_
    try simp only [Act.put, zA, zB, zC]
    refine zU 16 36 rfl (by kernel_rfl) (by kernel_rfl) (by kernel_rfl) (fun _ _ _ h => h) (by rfl) hHeld ?_
    try simp only [Act.put, zA, zB, zC]
    refine zU 17 37 rfl (by kernel_rfl) (by kernel_rfl) (by kernel_rfl) (fun _ _ _ h => h) (by rfl) hHeld ?_
    try simp only [Act.put, zA, zB, zC]
    refine zT 18 38 ?_ rfl (by kernel_rfl) (by kernel_rfl) (by kernel_rfl) (fun _ _ _ h => h) (by rfl) ?_ hHeld ?_
    rotate_left
    ·intro W hSw
     go_simp
     try with_reducible rfl
    try simp only [Act.put, zA, zB, zC]
    refine zT 19 8 ?_ rfl (by kernel_rfl) (by kernel_rfl) (by kernel_rfl) (fun _ _ _ h => h) (by rfl) ?_ hHeld ?_
    rotate_left
    ·intro W hSw
     go_simp
     try with_reducible rfl
    try simp only [Act.put, zA, zB, zC]
    refine wpAnyH_done (by kernel_rfl) ?_ _
    have HQ : Hid (RR = false /\ Below w.heap.size w w1) := ⟨by rw [<- HRR.out]; exact bel_iss hB2, hHeld.1⟩
    clear hHeld HSB HCA
    go_wp2_with fail
    go_ret
    exact ⟨by rw [HQ.out.1]; rfl, HQ.out.2⟩
   refine zT 3 23 ?_ rfl (by kernel_rfl) (by kernel_rfl) (by kernel_rfl) (fun _ _ _ h => h) (by rfl) ?_ hHeld ?_
   rotate_left
   ·intro W hSw
    go_simp
    try with_reducible rfl
   try simp only [Act.put, zA, zB, zC]
   refine zT 4 24 ?_ rfl (by kernel_rfl) (by kernel_rfl) (by kernel_rfl) (fun _ _ _ h => h) (by rfl) ?_ hHeld ?_
   rotate_left
   ·intro W hSw
    have e0 : W.cell? ⟨gx, 0, none⟩ = some (.string c.issuer) := hSw.2.cell 0
    go_simp
    try with_reducible rfl
   try simp only [Act.put, zA, zB, zC]
   refine zT 5 25 ?_ rfl (by kernel_rfl) (by kernel_rfl) (by kernel_rfl) (fun _ _ _ h => h) (by rfl) ?_ hHeld ?_
   rotate_left
   ·intro W hSw
    go_simp
    try with_reducible rfl
   try simp only [Act.put, zA, zB, zC]
   refine zT 6 26 ?_ rfl (by kernel_rfl) (by kernel_rfl) (by kernel_rfl) (fun _ _ _ h => h) (by rfl) ?_ hHeld ?_
   rotate_left
   ·intro W hSw
    go_simp
    try with_reducible rfl
   try simp only [Act.put, zA, zB, zC]
   refine zT 7 27 ?_ rfl (by kernel_rfl) (by kernel_rfl) (by kernel_rfl) (fun _ _ _ h => h) (by rfl) ?_ hHeld ?_
   rotate_left
   ·intro W hSw
    go_simp
    try with_reducible rfl
   try simp only [Act.put, zA, zB, zC]
   refine zT 8 28 ?_ rfl (by kernel_rfl) (by kernel_rfl) (by kernel_rfl) (fun _ _ _ h => h) (by rfl) ?_ hHeld ?_
   rotate_left
   ·intro W hSw
    go_simp
    try with_reducible rfl
   try simp only [Act.put, zA, zB, zC]
   refine zT 9 29 ?_ rfl (by kernel_rfl) (by kernel_rfl) (by kernel_rfl) (fun _ _ _ h => h) (by rfl) ?_ hHeld ?_
   rotate_left
   ·intro W hSw
    go_simp
    try with_reducible rfl
   try simp only [Act.put, zA, zB, zC]
   refine zT 10 30 ?_ rfl (by kernel_rfl) (by kernel_rfl) (by kernel_rfl) (fun _ _ _ h => h) (by rfl) ?_ hHeld ?_
   rotate_left
   ·intro W hSw
    go_simp
    try with_reducible rfl
   try simp only [Act.put, zA, zB, zC]
   refine zT 11 31 ?_ rfl (by kernel_rfl) (by kernel_rfl) (by kernel_rfl) (fun _ _ _ h => h) (by rfl) ?_ hHeld ?_
   rotate_left
   ·intro W hSw
    go_simp
    try with_reducible rfl
   try simp only [Act.put, zA, zB, zC]
   refine zU 12 32 rfl (by kernel_rfl) (by kernel_rfl) (by kernel_rfl) (fun _ _ _ h => h) (by rfl) hHeld ?_
   try simp only [Act.put, zA, zB, zC]
   refine zU 13 33 rfl (by kernel_rfl) (by kernel_rfl) (by kernel_rfl) (fun _ _ _ h => h) (by rfl) hHeld ?_
   try simp only [Act.put, zA, zB, zC]
   refine zU 14 34 rfl (by kernel_rfl) (by kernel_rfl) (by kernel_rfl) (fun _ _ _ h => h) (by rfl) hHeld ?_
   try simp only [Act.put, zA, zB, zC]
   refine zU 15 35 rfl (by kernel_rfl) (by kernel_rfl) (by kernel_rfl) (fun _ _ _ h => h) (by rfl) hHeld ?_
   try simp only [Act.put, zA, zB, zC]
   refine zU 16 36 rfl (by kernel_rfl) (by kernel_rfl) (by kernel_rfl) (fun _ _ _ h => h) (by rfl) hHeld ?_
   try simp only [Act.put, zA, zB, zC]
   refine zU 17 37 rfl (by kernel_rfl) (by kernel_rfl) (by kernel_rfl) (fun _ _ _ h => h) (by rfl) hHeld ?_
   try simp only [Act.put, zA, zB, zC]
   refine zT 18 38 ?_ rfl (by kernel_rfl) (by kernel_rfl) (by kernel_rfl) (fun _ _ _ h => h) (by rfl) ?_ hHeld ?_
   rotate_left
   ·intro W hSw
    go_simp
    try with_reducible rfl
   try simp only [Act.put, zA, zB, zC]
   refine zT 19 8 ?_ rfl (by kernel_rfl) (by kernel_rfl) (by kernel_rfl) (fun _ _ _ h => h) (by rfl) ?_ hHeld ?_
   rotate_left
   ·intro W hSw
    go_simp
    try with_reducible rfl
   try simp only [Act.put, zA, zB, zC]
   refine wpAnyH_done (by kernel_rfl) ?_ _
   have HQ : Hid (RR = false /\ Below w.heap.size w w1) := ⟨by rw [<- HRR.out]; exact bel_ths hC, hHeld.1⟩
   clear hHeld HSB HCA
   go_wp2_with fail
   go_ret
   exact ⟨by rw [HQ.out.1]; rfl, HQ.out.2⟩
 by_cases hD : time <= c.nxt
 rotate_left
 ·skip
  go_upto_region 2 with fail
  clear t2 t3
  have hDr : Below V.heap.size V V.drew := (Below.refl _ _).drew
  refine wp_region_held_drew (S := fun W => CS w W gx #[.string c.issuer, .int .i64 c.num, .int .i64 c.ths, .int .i64 c.nxt, .int .i64 c.bas, .slice p1 m1 q1, .string c.sig]) (by kernel_rfl) (HV.out.below hDr) (fun hHeld => ?_)
  clear hDr HV
  generalize V.drew = wd at hHeld |-
  refine zT 0 20 ?_ rfl (by kernel_rfl) (by kernel_rfl) (by kernel_rfl) (fun _ _ _ h => h) (by rfl) ?_ hHeld ?_
  rotate_left
  ·intro W hSw
   have e0 : W.cell? ⟨gx, 0, none⟩ = some (.string c.issuer) := hSw.2.cell 0
   have e1 : W.cell? ⟨gx, 1, none⟩ = some (.int .i64 c.num) := hSw.2.cell 1
   have e2 : W.cell? ⟨gx, 2, none⟩ = some (.int .i64 c.ths) := hSw.2.cell 2
   have e3 : W.cell? ⟨gx, 3, none⟩ = some (.int .i64 c.nxt) := hSw.2.cell 3
   have e4 : W.cell? ⟨gx, 4, none⟩ = some (.int .i64 c.bas) := hSw.2.cell 4
   have e5 : W.cell? ⟨gx, 5, none⟩ = some (.slice p1 m1 q1) := hSw.2.cell 5
   have e6 : W.cell? ⟨gx, 6, none⟩ = some (.string c.sig) := hSw.2.cell 6
   go_simp
   try with_reducible rfl
  try simp only [Act.put, zA, zB, zC]
  refine wpAnyH_ready (rs := [1]) (by kernel_rfl) (by simp) ?_
  refine AllReadyH.cons (o := ⟨some 21, _, _, _, _, _⟩) rfl (fun K hK => ?_) AllReadyH.nil
  have EQ := implCrlOk_any c (.agg #[.string c.issuer, .int .i64 c.num, .int .i64 c.ths, .int .i64 c.nxt, .int .i64 c.bas, .slice p1 m1 q1, .string c.sig]) wd (Nat.le_trans HW.out.1 (by decide)) (HCA.out _ hHeld)
  try unfold clV at EQ
  go_simp
  refine EQ.mono ?_
  rintro e w1 ⟨rfl, hb⟩
  have hS3 := HSB.out _ _ hHeld hb
  clear hb EQ
  refine hK.out _ _ hS3 (fun hHeld => ?_)
  clear hK K hS3
  try simp only [Act.put, zA, zB, zC]
  obtain ⟨A, hA⟩ : ∃ b, crlOk c = b := ⟨_, rfl⟩
  rw [hA]
  refine zT 2 22 ?_ rfl (by kernel_rfl) (by kernel_rfl) (by kernel_rfl) (fun _ _ _ h => h) (by rfl) ?_ hHeld ?_
  rotate_left
  ·intro W hSw
   go_simp
   try with_reducible rfl
  try simp only [Act.put, zA, zB, zC]
  cases A with
  | false =>
   refine zU 3 23 rfl (by kernel_rfl) (by kernel_rfl) (by kernel_rfl) (fun _ _ _ h => h) (by rfl) hHeld ?_
   try simp only [Act.put, zA, zB, zC]
   refine zU 4 24 rfl (by kernel_rfl) (by kernel_rfl) (by kernel_rfl) (fun _ _ _ h => h) (by rfl) hHeld ?_
   try simp only [Act.put, zA, zB, zC]
   refine zU 5 25 rfl (by kernel_rfl) (by kernel_rfl) (by kernel_rfl) (fun _ _ _ h => h) (by rfl) hHeld ?_
   try simp only [Act.put, zA, zB, zC]
   refine zU 6 26 rfl (by kernel_rfl) (by kernel_rfl) (by kernel_rfl) (fun _ _ _ h => h) (by rfl) hHeld ?_
   try simp only [Act.put, zA, zB, zC]
   refine zT 7 27 ?_ rfl (by kernel_rfl) (by kernel_rfl) (by kernel_rfl) (fun _ _ _ h => h) (by rfl) ?_ hHeld ?_
   rotate_left
   ·intro W hSw
    go_simp
    try with_reducible rfl
   try simp only [Act.put, zA, zB, zC]
   refine zT 8 28 ?_ rfl (by kernel_rfl) (by kernel_rfl) (by kernel_rfl) (fun _ _ _ h => h) (by rfl) ?_ hHeld ?_
   rotate_left
   ·intro W hSw
    go_simp
    try with_reducible rfl
   try simp only [Act.put, zA, zB, zC]
   refine zU 9 29 rfl (by kernel_rfl) (by kernel_rfl) (by kernel_rfl) (fun _ _ _ h => h) (by rfl) hHeld ?_
   try simp only [Act.put, zA, zB, zC]
   refine zT 10 30 ?_ rfl (by kernel_rfl) (by kernel_rfl) (by kernel_rfl) (fun _ _ _ h => h) (by rfl) ?_ hHeld ?_
   rotate_left
   ·intro W hSw
    go_simp
    try with_reducible rfl
   try simp only [Act.put, zA, zB, zC]
   refine zT 11 31 ?_ rfl (by kernel_rfl) (by kernel_rfl) (by kernel_rfl) (fun _ _ _ h => h) (by rfl) ?_ hHeld ?_
   rotate_left
   ·intro W hSw
    go_simp
    try with_reducible rfl
   try simp only [Act.put, zA, zB, zC]
   refine zU 12 32 rfl (by kernel_rfl) (by kernel_rfl) (by kernel_rfl) (fun _ _ _ h => h) (by rfl) hHeld ?_
   try simp only [Act.put, zA, zB, zC]
   refine zU 13 33 rfl (by kernel_rfl) (by kernel_rfl) (by kernel_rfl) (fun _ _ _ h => h) (by rfl) hHeld ?_
   try simp only [Act.put, zA, zB, zC]
   refine zU 14 34 rfl (by kernel_rfl) (by kernel_rfl) (by kernel_rfl) (fun _ _ _ h => h) (by rfl) hHeld ?_
   try simp only [Act.put, zA, zB, zC]
   refine zU 15 35 rfl (by kernel_rfl) (by kernel_rfl) (by kernel_rfl) (fun _ _ _ h => h) (by rfl) hHeld ?_
   try simp only [Act.put, zA, zB, zC]
   refine zU 16 36 rfl (by kernel_rfl) (by kernel_rfl) (by kernel_rfl) (fun _ _ _ h => h) (by rfl) hHeld ?_
   try simp only [Act.put, zA, zB, zC]
   refine zU 17 37 rfl (by kernel_rfl) (by kernel_rfl) (by kernel_rfl) (fun _ _ _ h => h) (by rfl) hHeld ?_
   try simp only [Act.put, zA, zB, zC]
   refine zT 18 38 ?_ rfl (by kernel_rfl) (by kernel_rfl) (by kernel_rfl) (fun _ _ _ h => h) (by rfl) ?_ hHeld ?_
   rotate_left
   ·intro W hSw
    go_simp
    try with_reducible rfl
   try simp only [Act.put, zA, zB, zC]
   refine zT 19 8 ?_ rfl (by kernel_rfl) (by kernel_rfl) (by kernel_rfl) (fun _ _ _ h => h) (by rfl) ?_ hHeld ?_
   rotate_left
   ·intro W hSw
    go_simp
    try with_reducible rfl
   try simp only [Act.put, zA, zB, zC]
   refine wpAnyH_done (by kernel_rfl) ?_ _
   have HQ : Hid (RR = false /\ Below w.heap.size w w1) := ⟨by rw [<- HRR.out]; exact bel_ok hA, hHeld.1⟩
   clear hHeld HSB HCA
   go_wp2_with fail
   go_ret
   exact ⟨by rw [HQ.out.1]; rfl, HQ.out.2⟩
  | true =>
   by_cases hB : (c.issuer.toList == iss.toList) = true
   rotate_left
   ·have hB2 : (c.issuer.toList == iss.toList) = false := by simpa using hB
    clear hB
    refine zT 3 23 ?_ rfl (by kernel_rfl) (by kernel_rfl) (by kernel_rfl) (fun _ _ _ h => h) (by rfl) ?_ hHeld ?_
    rotate_left
    ·intro W hSw
     go_simp
     try with_reducible rfl
    try simp only [Act.put, zA, zB, zC]
    refine zT 4 24 ?_ rfl (by kernel_rfl) (by kernel_rfl) (by kernel_rfl) (fun _ _ _ h => h) (by rfl) ?_ hHeld ?_
    rotate_left
    ·intro W hSw
     have e0 : W.cell? ⟨gx, 0, none⟩ = some (.string c.issuer) := hSw.2.cell 0
     go_simp
     try with_reducible rfl
    try simp only [Act.put, zA, zB, zC]
    refine zT 5 25 ?_ rfl (by kernel_rfl) (by kernel_rfl) (by kernel_rfl) (fun _ _ _ h => h) (by rfl) ?_ hHeld ?_
    rotate_left
    ·intro W hSw
     go_simp
     try with_reducible rfl
    try simp only [Act.put, zA, zB, zC]
    refine zT 6 26 ?_ rfl (by kernel_rfl) (by kernel_rfl) (by kernel_rfl) (fun _ _ _ h => h) (by rfl) ?_ hHeld ?_
    rotate_left
    ·intro W hSw
     go_simp
     try with_reducible rfl
    try simp only [Act.put, zA, zB, zC]
    refine zT 7 27 ?_ rfl (by kernel_rfl) (by kernel_rfl) (by kernel_rfl) (fun _ _ _ h => h) (by rfl) ?_ hHeld ?_
    rotate_left
    ·intro W hSw
     go_simp
     try with_reducible rfl
    try simp only [Act.put, zA, zB, zC]
    refine zT 8 28 ?_ rfl (by kernel_rfl) (by kernel_rfl) (by kernel_rfl) (fun _ _ _ h => h) (by rfl) ?_ hHeld ?_
    rotate_left
    ·intro W hSw
     go_simp
     try with_reducible rfl
    try simp only [Act.put, zA, zB, zC]
    refine zU 9 29 rfl (by kernel_rfl) (by kernel_rfl) (by kernel_rfl) (fun _ _ _ h => h) (by rfl) hHeld ?_
    try simp only [Act.put, zA, zB, zC]
    refine zT 10 30 ?_ rfl (by kernel_rfl) (by kernel_rfl) (by kernel_rfl) (fun _ _ _ h => h) (by rfl) ?_ hHeld ?_
    rotate_left
    ·intro W hSw
     go_simp
     try with_reducible rfl
    try simp only [Act.put, zA, zB, zC]
    refine zT 11 31 ?_ rfl (by kernel_rfl) (by kernel_rfl) (by kernel_rfl) (fun _ _ _ h => h) (by rfl) ?_ hHeld ?_
    rotate_left
    ·intro W hSw
     go_simp
     try with_reducible rfl
    try simp only [Act.put, zA, zB, zC]
    refine zU 12 32 rfl (by kernel_rfl) (by kernel_rfl) (by kernel_rfl) (fun _ _ _ h => h) (by rfl) hHeld ?_
    try simp only [Act.put, zA, zB, zC]
    refine zU 13 33 rfl (by kernel_rfl) (by kernel_rfl) (by kernel_rfl) (fun _ _ _ h => h) (by rfl) hHeld ?_
    try simp only [Act.put, zA, zB, zC]
    refine zU 14 34 rfl (by kernel_rfl) (by kernel_rfl) (by kernel_rfl) (fun _ _ _ h => h) (by rfl) hHeld ?_
    try simp only [Act.put, zA, zB, zC]
    refine zU 15 35 rfl (by kernel_rfl) (by kernel_rfl) (by kernel_rfl) (fun _ _ _ h => h) (by rfl) hHeld ?_
    try simp only [Act.put, zA, zB, zC]
    refine zU 16 36 rfl (by kernel_rfl) (by kernel_rfl) (by kernel_rfl) (fun _ _ _ h => h) (by rfl) hHeld ?_
    try simp only [Act.put, zA, zB, zC]
    refine zU 17 37 rfl (by kernel_rfl) (by kernel_rfl) (by kernel_rfl) (fun _ _ _ h => h) (by rfl) hHeld ?_
    try simp only [Act.put, zA, zB, zC]
    refine zT 18 38 ?_ rfl (by kernel_rfl) (by kernel_rfl) (by kernel_rfl) (fun _ _ _ h => h) (by rfl) ?_ hHeld ?_
    rotate_left
    ·intro W hSw
     go_simp
     try with_reducible rfl
    try simp only [Act.put, zA, zB, zC]
    refine zT 19 8 ?_ rfl (by kernel_rfl) (by kernel_rfl) (by kernel_rfl) (fun _ _ _ h => h) (by rfl) ?_ hHeld ?_
    rotate_left
    ·intro W hSw
     go_simp
     try with_reducible rfl
    try simp only [Act.put, zA, zB, zC]
    refine wpAnyH_done (by kernel_rfl) ?_ _
    have HQ : Hid (RR = false /\ Below w.heap.size w w1) := ⟨by rw [<- HRR.out]; exact bel_iss hB2, hHeld.1⟩
    clear hHeld HSB HCA
    go_wp2_with fail
    go_ret
    exact ⟨by rw [HQ.out.1]; rfl, HQ.out.2⟩
   refine zT 3 23 ?_ rfl (by kernel_rfl) (by kernel_rfl) (by kernel_rfl) (fun _ _ _ h => h) (by rfl) ?_ hHeld ?_
   rotate_left
   ·intro W hSw
    go_simp
    try with_reducible rfl
   try simp only [Act.put, zA, zB, zC]
   refine zT 4 24 ?_ rfl (by kernel_rfl) (by kernel_rfl) (by kernel_rfl) (fun _ _ _ h => h) (by rfl) ?_ hHeld ?_
   rotate_left
   ·intro W hSw
    have e0 : W.cell? ⟨gx, 0, none⟩ = some (.string c.issuer) := hSw.2.cell 0
    go_simp
    try with_reducible rfl
   try simp only [Act.put, zA, zB, zC]
   refine zT 5 25 ?_ rfl (by kernel_rfl) (by kernel_rfl) (by kernel_rfl) (fun _ _ _ h => h) (by rfl) ?_ hHeld ?_
   rotate_left
   ·intro W hSw
    go_simp
    try with_reducible rfl
   try simp only [Act.put, zA, zB, zC]
   refine zT 6 26 ?_ rfl (by kernel_rfl) (by kernel_rfl) (by kernel_rfl) (fun _ _ _ h => h) (by rfl) ?_ hHeld ?_
   rotate_left
   ·intro W hSw
    go_simp
    try with_reducible rfl
   try simp only [Act.put, zA, zB, zC]
   refine zT 7 27 ?_ rfl (by kernel_rfl) (by kernel_rfl) (by kernel_rfl) (fun _ _ _ h => h) (by rfl) ?_ hHeld ?_
   rotate_left
   ·intro W hSw
    go_simp
    try with_reducible rfl
   try simp only [Act.put, zA, zB, zC]
   refine zT 8 28 ?_ rfl (by kernel_rfl) (by kernel_rfl) (by kernel_rfl) (fun _ _ _ h => h) (by rfl) ?_ hHeld ?_
   rotate_left
   ·intro W hSw
    go_simp
    try with_reducible rfl
   try simp only [Act.put, zA, zB, zC]
   refine zT 9 29 ?_ rfl (by kernel_rfl) (by kernel_rfl) (by kernel_rfl) (fun _ _ _ h => h) (by rfl) ?_ hHeld ?_
   rotate_left
   ·intro W hSw
    go_simp
    try with_reducible rfl
   try simp only [Act.put, zA, zB, zC]
   refine zT 10 30 ?_ rfl (by kernel_rfl) (by kernel_rfl) (by kernel_rfl) (fun _ _ _ h => h) (by rfl) ?_ hHeld ?_
   rotate_left
   ·intro W hSw
    go_simp
    try with_reducible rfl
   try simp only [Act.put, zA, zB, zC]
   refine zT 11 31 ?_ rfl (by kernel_rfl) (by kernel_rfl) (by kernel_rfl) (fun _ _ _ h => h) (by rfl) ?_ hHeld ?_
   rotate_left
   ·intro W hSw
    go_simp
    try with_reducible rfl
   try simp only [Act.put, zA, zB, zC]
   refine zU 12 32 rfl (by kernel_rfl) (by kernel_rfl) (by kernel_rfl) (fun _ _ _ h => h) (by rfl) hHeld ?_
   try simp only [Act.put, zA, zB, zC]
   refine zU 13 33 rfl (by kernel_rfl) (by kernel_rfl) (by kernel_rfl) (fun _ _ _ h => h) (by rfl) hHeld ?_
   try simp only [Act.put, zA, zB, zC]
   refine zU 14 34 rfl (by kernel_rfl) (by kernel_rfl) (by kernel_rfl) (fun _ _ _ h => h) (by rfl) hHeld ?_
   try simp only [Act.put, zA, zB, zC]
   refine zU 15 35 rfl (by kernel_rfl) (by kernel_rfl) (by kernel_rfl) (fun _ _ _ h => h) (by rfl) hHeld ?_
   try simp only [Act.put, zA, zB, zC]
   refine zU 16 36 rfl (by kernel_rfl) (by kernel_rfl) (by kernel_rfl) (fun _ _ _ h => h) (by rfl) hHeld ?_
   try simp only [Act.put, zA, zB, zC]
   refine zU 17 37 rfl (by kernel_rfl) (by kernel_rfl) (by kernel_rfl) (fun _ _ _ h => h) (by rfl) hHeld ?_
   try simp only [Act.put, zA, zB, zC]
   refine zT 18 38 ?_ rfl (by kernel_rfl) (by kernel_rfl) (by kernel_rfl) (fun _ _ _ h => h) (by rfl) ?_ hHeld ?_
   rotate_left
   ·intro W hSw
    go_simp
    try with_reducible rfl
   try simp only [Act.put, zA, zB, zC]
   refine zT 19 8 ?_ rfl (by kernel_rfl) (by kernel_rfl) (by kernel_rfl) (fun _ _ _ h => h) (by rfl) ?_ hHeld ?_
   rotate_left
   ·intro W hSw
    go_simp
    try with_reducible rfl
   try simp only [Act.put, zA, zB, zC]
   refine wpAnyH_done (by kernel_rfl) ?_ _
   have HQ : Hid (RR = false /\ Below w.heap.size w w1) := ⟨by rw [<- HRR.out]; exact bel_nxt hD, hHeld.1⟩
   clear hHeld HSB HCA
   go_wp2_with fail
   go_ret
   exact ⟨by rw [HQ.out.1]; rfl, HQ.out.2⟩
 go_upto_region 2 with fail
 clear t2 t3
 have hDr : Below V.heap.size V V.drew := (Below.refl _ _).drew
 refine wp_region_held_drew (S := fun W => CS w W gx #[.string c.issuer, .int .i64 c.num, .int .i64 c.ths, .int .i64 c.nxt, .int .i64 c.bas, .slice p1 m1 q1, .string c.sig]) (by kernel_rfl) (HV.out.below hDr) (fun hHeld => ?_)
 clear hDr HV
 generalize V.drew = wd at hHeld |-
 refine zT 0 20 ?_ rfl (by kernel_rfl) (by kernel_rfl) (by kernel_rfl) (fun _ _ _ h => h) (by rfl) ?_ hHeld ?_
 rotate_left
 ·intro W hSw
  have e0 : W.cell? ⟨gx, 0, none⟩ = some (.string c.issuer) := hSw.2.cell 0
  have e1 : W.cell? ⟨gx, 1, none⟩ = some (.int .i64 c.num) := hSw.2.cell 1
  have e2 : W.cell? ⟨gx, 2, none⟩ = some (.int .i64 c.ths) := hSw.2.cell 2
  have e3 : W.cell? ⟨gx, 3, none⟩ = some (.int .i64 c.nxt) := hSw.2.cell 3
  have e4 : W.cell? ⟨gx, 4, none⟩ = some (.int .i64 c.bas) := hSw.2.cell 4
  have e5 : W.cell? ⟨gx, 5, none⟩ = some (.slice p1 m1 q1) := hSw.2.cell 5
  have e6 : W.cell? ⟨gx, 6, none⟩ = some (.string c.sig) := hSw.2.cell 6
  go_simp
  try with_reducible rfl
 try simp only [Act.put, zA, zB, zC]
 refine wpAnyH_ready (rs := [1]) (by kernel_rfl) (by simp) ?_
 refine AllReadyH.cons (o := ⟨some 21, _, _, _, _, _⟩) rfl (fun K hK => ?_) AllReadyH.nil
 have EQ := implCrlOk_any c (.agg #[.string c.issuer, .int .i64 c.num, .int .i64 c.ths, .int .i64 c.nxt, .int .i64 c.bas, .slice p1 m1 q1, .string c.sig]) wd (Nat.le_trans HW.out.1 (by decide)) (HCA.out _ hHeld)
 try unfold clV at EQ
 go_simp
 refine EQ.mono ?_
 rintro e w1 ⟨rfl, hb⟩
 have hS3 := HSB.out _ _ hHeld hb
 clear hb EQ
 refine hK.out _ _ hS3 (fun hHeld => ?_)
 clear hK K hS3
 try simp only [Act.put, zA, zB, zC]
 obtain ⟨A, hA⟩ : ∃ b, crlOk c = b := ⟨_, rfl⟩
 rw [hA]
 refine zT 2 22 ?_ rfl (by kernel_rfl) (by kernel_rfl) (by kernel_rfl) (fun _ _ _ h => h) (by rfl) ?_ hHeld ?_
 rotate_left
 ·intro W hSw
  go_simp
  try with_reducible rfl
 try simp only [Act.put, zA, zB, zC]
 cases A with
 | false =>
  refine zU 3 23 rfl (by kernel_rfl) (by kernel_rfl) (by kernel_rfl) (fun _ _ _ h => h) (by rfl) hHeld ?_
  try simp only [Act.put, zA, zB, zC]
  refine zU 4 24 rfl (by kernel_rfl) (by kernel_rfl) (by kernel_rfl) (fun _ _ _ h => h) (by rfl) hHeld ?_
  try simp only [Act.put, zA, zB, zC]
  refine zU 5 25 rfl (by kernel_rfl) (by kernel_rfl) (by kernel_rfl) (fun _ _ _ h => h) (by rfl) hHeld ?_
  try simp only [Act.put, zA, zB, zC]
  refine zU 6 26 rfl (by kernel_rfl) (by kernel_rfl) (by kernel_rfl) (fun _ _ _ h => h) (by rfl) hHeld ?_
  try simp only [Act.put, zA, zB, zC]
  refine zT 7 27 ?_ rfl (by kernel_rfl) (by kernel_rfl) (by kernel_rfl) (fun _ _ _ h => h) (by rfl) ?_ hHeld ?_
  rotate_left
  ·intro W hSw
   go_simp
   try with_reducible rfl
  try simp only [Act.put, zA, zB, zC]
  refine zT 8 28 ?_ rfl (by kernel_rfl) (by kernel_rfl) (by kernel_rfl) (fun _ _ _ h => h) (by rfl) ?_ hHeld ?_
  rotate_left
  ·intro W hSw
   go_simp
   try with_reducible rfl
  try simp only [Act.put, zA, zB, zC]
  refine zU 9 29 rfl (by kernel_rfl) (by kernel_rfl) (by kernel_rfl) (fun _ _ _ h => h) (by rfl) hHeld ?_
  try simp only [Act.put, zA, zB, zC]
  refine zT 10 30 ?_ rfl (by kernel_rfl) (by kernel_rfl) (by kernel_rfl) (fun _ _ _ h => h) (by rfl) ?_ hHeld ?_
  rotate_left
  ·intro W hSw
   go_simp
   try with_reducible rfl
  try simp only [Act.put, zA, zB, zC]
  refine zT 11 31 ?_ rfl (by kernel_rfl) (by kernel_rfl) (by kernel_rfl) (fun _ _ _ h => h) (by rfl) ?_ hHeld ?_
  rotate_left
  ·intro W hSw
   go_simp
   try with_reducible rfl
  try simp only [Act.put, zA, zB, zC]
  refine zU 12 32 rfl (by kernel_rfl) (by kernel_rfl) (by kernel_rfl) (fun _ _ _ h => h) (by rfl) hHeld ?_
  try simp only [Act.put, zA, zB, zC]
  refine zU 13 33 rfl (by kernel_rfl) (by kernel_rfl) (by kernel_rfl) (fun _ _ _ h => h) (by rfl) hHeld ?_
  try simp only [Act.put, zA, zB, zC]
  refine zU 14 34 rfl (by kernel_rfl) (by kernel_rfl) (by kernel_rfl) (fun _ _ _ h => h) (by rfl) hHeld ?_
  try simp only [Act.put, zA, zB, zC]
  refine zU 15 35 rfl (by kernel_rfl) (by kernel_rfl) (by kernel_rfl) (fun _ _ _ h => h) (by rfl) hHeld ?_
  try simp only [Act.put, zA, zB, zC]
  refine zU 16 36 rfl (by kernel_rfl) (by kernel_rfl) (by kernel_rfl) (fun _ _ _ h => h) (by rfl) hHeld ?_
  try simp only [Act.put, zA, zB, zC]
  refine zU 17 37 rfl (by kernel_rfl) (by kernel_rfl) (by kernel_rfl) (fun _ _ _ h => h) (by rfl) hHeld ?_
  try simp only [Act.put, zA, zB, zC]
  refine zT 18 38 ?_ rfl (by kernel_rfl) (by kernel_rfl) (by kernel_rfl) (fun _ _ _ h => h) (by rfl) ?_ hHeld ?_
  rotate_left
  ·intro W hSw
   go_simp
   try with_reducible rfl
  try simp only [Act.put, zA, zB, zC]
  refine zT 19 8 ?_ rfl (by kernel_rfl) (by kernel_rfl) (by kernel_rfl) (fun _ _ _ h => h) (by rfl) ?_ hHeld ?_
  rotate_left
  ·intro W hSw
   go_simp
   try with_reducible rfl
  try simp only [Act.put, zA, zB, zC]
  refine wpAnyH_done (by kernel_rfl) ?_ _
  have HQ : Hid (RR = false /\ Below w.heap.size w w1) := ⟨by rw [<- HRR.out]; exact bel_ok hA, hHeld.1⟩
  clear hHeld HSB HCA
  go_wp2_with fail
  go_ret
  exact ⟨by rw [HQ.out.1]; rfl, HQ.out.2⟩
 | true =>
  by_cases hB : (c.issuer.toList == iss.toList) = true
  rotate_left
  ·have hB2 : (c.issuer.toList == iss.toList) = false := by simpa using hB
   clear hB
   refine zT 3 23 ?_ rfl (by kernel_rfl) (by kernel_rfl) (by kernel_rfl) (fun _ _ _ h => h) (by rfl) ?_ hHeld ?_
   rotate_left
   ·intro W hSw
    go_simp
    try with_reducible rfl
   try simp only [Act.put, zA, zB, zC]
   refine zT 4 24 ?_ rfl (by kernel_rfl) (by kernel_rfl) (by kernel_rfl) (fun _ _ _ h => h) (by rfl) ?_ hHeld ?_
   rotate_left
   ·intro W hSw
    have e0 : W.cell? ⟨gx, 0, none⟩ = some (.string c.issuer) := hSw.2.cell 0
    go_simp
    try with_reducible rfl
   try simp only [Act.put, zA, zB, zC]
   refine zT 5 25 ?_ rfl (by kernel_rfl) (by kernel_rfl) (by kernel_rfl) (fun _ _ _ h => h) (by rfl) ?_ hHeld ?_
   rotate_left
   ·intro W hSw
    go_simp
    try with_reducible rfl
   try simp only [Act.put, zA, zB, zC]
   refine zT 6 26 ?_ rfl (by kernel_rfl) (by kernel_rfl) (by kernel_rfl) (fun _ _ _ h => h) (by rfl) ?_ hHeld ?_
   rotate_left
   ·intro W hSw
    go_simp
    try with_reducible rfl
   try simp only [Act.put, zA, zB, zC]
   refine zT 7 27 ?_ rfl (by kernel_rfl) (by kernel_rfl) (by kernel_rfl) (fun _ _ _ h => h) (by rfl) ?_ hHeld ?_
   rotate_left
   ·intro W hSw
    go_simp
    try with_reducible rfl
   try simp only [Act.put, zA, zB, zC]
   refine zT 8 28 ?_ rfl (by kernel_rfl) (by kernel_rfl) (by kernel_rfl) (fun _ _ _ h => h) (by rfl) ?_ hHeld ?_
   rotate_left
   ·intro W hSw
    go_simp
    try with_reducible rfl
   try simp only [Act.put, zA, zB, zC]
   refine zU 9 29 rfl (by kernel_rfl) (by kernel_rfl) (by kernel_rfl) (fun _ _ _ h => h) (by rfl) hHeld ?_
   try simp only [Act.put, zA, zB, zC]
   refine zT 10 30 ?_ rfl (by kernel_rfl) (by kernel_rfl) (by kernel_rfl) (fun _ _ _ h => h) (by rfl) ?_ hHeld ?_
   rotate_left
   ·intro W hSw
    go_simp
    try with_reducible rfl
   try simp only [Act.put, zA, zB, zC]
   refine zT 11 31 ?_ rfl (by kernel_rfl) (by kernel_rfl) (by kernel_rfl) (fun _ _ _ h => h) (by rfl) ?_ hHeld ?_
   rotate_left
   ·intro W hSw
    go_simp
    try with_reducible rfl
   try simp only [Act.put, zA, zB, zC]
   refine zU 12 32 rfl (by kernel_rfl) (by kernel_rfl) (by kernel_rfl) (fun _ _ _ h => h) (by rfl) hHeld ?_
   try simp only [Act.put, zA, zB, zC]
   refine zU 13 33 rfl (by kernel_rfl) (by kernel_rfl) (by kernel_rfl) (fun _ _ _ h => h) (by rfl) hHeld ?_
   try simp only [Act.put, zA, zB, zC]
   refine zU 14 34 rfl (by kernel_rfl) (by kernel_rfl) (by kernel_rfl) (fun _ _ _ h => h) (by rfl) hHeld ?_
   try simp only [Act.put, zA, zB, zC]
   refine zU 15 35 rfl (by kernel_rfl) (by kernel_rfl) (by kernel_rfl) (fun _ _ _ h => h) (by rfl) hHeld ?_
   try simp only [Act.put, zA, zB, zC]
   refine zU 16 36 rfl (by kernel_rfl) (by kernel_rfl) (by kernel_rfl) (fun _ _ _ h => h) (by rfl) hHeld ?_
   try simp only [Act.put, zA, zB, zC]
   refine zU 17 37 rfl (by kernel_rfl) (by kernel_rfl) (by kernel_rfl) (fun _ _ _ h => h) (by rfl) hHeld ?_
   try simp only [Act.put, zA, zB, zC]
   refine zT 18 38 ?_ rfl (by kernel_rfl) (by kernel_rfl) (by kernel_rfl) (fun _ _ _ h => h) (by rfl) ?_ hHeld ?_
   rotate_left
   ·intro W hSw
    go_simp
    try with_reducible rfl
   try simp only [Act.put, zA, zB, zC]
   refine zT 19 8 ?_ rfl (by kernel_rfl) (by kernel_rfl) (by kernel_rfl) (fun _ _ _ h => h) (by rfl) ?_ hHeld ?_
   rotate_left
   ·intro W hSw
    go_simp
    try with_reducible rfl
   try simp only [Act.put, zA, zB, zC]
   refine wpAnyH_done (by kernel_rfl) ?_ _
   have HQ : Hid (RR = false /\ Below w.heap.size w w1) := ⟨by rw [<- HRR.out]; exact bel_iss hB2, hHeld.1⟩
   clear hHeld HSB HCA
   go_wp2_with fail
   go_ret
   exact ⟨by rw [HQ.out.1]; rfl, HQ.out.2⟩
  refine zT 3 23 ?_ rfl (by kernel_rfl) (by kernel_rfl) (by kernel_rfl) (fun _ _ _ h => h) (by rfl) ?_ hHeld ?_
  rotate_left
  ·intro W hSw
   go_simp
   try with_reducible rfl
  try simp only [Act.put, zA, zB, zC]
  refine zT 4 24 ?_ rfl (by kernel_rfl) (by kernel_rfl) (by kernel_rfl) (fun _ _ _ h => h) (by rfl) ?_ hHeld ?_
  rotate_left
  ·intro W hSw
   have e0 : W.cell? ⟨gx, 0, none⟩ = some (.string c.issuer) := hSw.2.cell 0
   go_simp
   try with_reducible rfl
  try simp only [Act.put, zA, zB, zC]
  refine zT 5 25 ?_ rfl (by kernel_rfl) (by kernel_rfl) (by kernel_rfl) (fun _ _ _ h => h) (by rfl) ?_ hHeld ?_
  rotate_left
  ·intro W hSw
   go_simp
   try with_reducible rfl
  try simp only [Act.put, zA, zB, zC]
  refine zT 6 26 ?_ rfl (by kernel_rfl) (by kernel_rfl) (by kernel_rfl) (fun _ _ _ h => h) (by rfl) ?_ hHeld ?_
  rotate_left
  ·intro W hSw
   go_simp
   try with_reducible rfl
  try simp only [Act.put, zA, zB, zC]
  refine zT 7 27 ?_ rfl (by kernel_rfl) (by kernel_rfl) (by kernel_rfl) (fun _ _ _ h => h) (by rfl) ?_ hHeld ?_
  rotate_left
  ·intro W hSw
   go_simp
   try with_reducible rfl
  try simp only [Act.put, zA, zB, zC]
  refine zT 8 28 ?_ rfl (by kernel_rfl) (by kernel_rfl) (by kernel_rfl) (fun _ _ _ h => h) (by rfl) ?_ hHeld ?_
  rotate_left
  ·intro W hSw
   go_simp
   try with_reducible rfl
  try simp only [Act.put, zA, zB, zC]
  refine zT 9 29 ?_ rfl (by kernel_rfl) (by kernel_rfl) (by kernel_rfl) (fun _ _ _ h => h) (by rfl) ?_ hHeld ?_
  rotate_left
  ·intro W hSw
   go_simp
   try with_reducible rfl
  try simp only [Act.put, zA, zB, zC]
  refine zT 10 30 ?_ rfl (by kernel_rfl) (by kernel_rfl) (by kernel_rfl) (fun _ _ _ h => h) (by rfl) ?_ hHeld ?_
  rotate_left
  ·intro W hSw
   go_simp
   try with_reducible rfl
  try simp only [Act.put, zA, zB, zC]
  refine zT 11 31 ?_ rfl (by kernel_rfl) (by kernel_rfl) (by kernel_rfl) (fun _ _ _ h => h) (by rfl) ?_ hHeld ?_
  rotate_left
  ·intro W hSw
   go_simp
   try with_reducible rfl
  try simp only [Act.put, zA, zB, zC]
  obtain ⟨T, hT⟩ : ∃ T, (⟨((writeI 4 (bodyL c)).getD []).toArray⟩ : ByteArray) = T := ⟨_, rfl⟩
  have HT : Hid ((⟨((writeI 4 (bodyL c)).getD []).toArray⟩ : ByteArray) = T /\ T.size <= 1048576) := ⟨hT, by rw [<- hT]; exact write_small c⟩
  obtain ⟨SG, hSG⟩ : ∃ b, sokB key T c.sig = b := ⟨_, rfl⟩
  have HBL : Hid (RR = SG) := by show _ = _; rw [<- HRR.out, bel_all hA hB hC hD, hT, hSG]
  refine zT 12 32 ?_ rfl (by kernel_rfl) (by kernel_rfl) (by kernel_rfl) (fun _ _ _ h => h) (by rfl) ?_ hHeld ?_
  rotate_left
  ·intro W hSw
   go_simp
   try with_reducible rfl
  try simp only [Act.put, zA, zB, zC]
  refine zT 13 33 ?_ rfl (by kernel_rfl) (by kernel_rfl) (by kernel_rfl) (fun _ _ _ h => h) (by rfl) ?_ hHeld ?_
  rotate_left
  ·intro W hSw
   have e0 : W.cell? ⟨gx, 0, none⟩ = some (.string c.issuer) := hSw.2.cell 0
   have e1 : W.cell? ⟨gx, 1, none⟩ = some (.int .i64 c.num) := hSw.2.cell 1
   have e2 : W.cell? ⟨gx, 2, none⟩ = some (.int .i64 c.ths) := hSw.2.cell 2
   have e3 : W.cell? ⟨gx, 3, none⟩ = some (.int .i64 c.nxt) := hSw.2.cell 3
   have e4 : W.cell? ⟨gx, 4, none⟩ = some (.int .i64 c.bas) := hSw.2.cell 4
   have e5 : W.cell? ⟨gx, 5, none⟩ = some (.slice p1 m1 q1) := hSw.2.cell 5
   have e6 : W.cell? ⟨gx, 6, none⟩ = some (.string c.sig) := hSw.2.cell 6
   go_simp
   try with_reducible rfl
  try simp only [Act.put, zA, zB, zC]
  refine zT 15 35 ?_ rfl (by kernel_rfl) (by kernel_rfl) (by kernel_rfl) (fun _ _ _ h => h) (by rfl) ?_ hHeld ?_
  rotate_left
  ·intro W hSw
   go_simp
   try with_reducible rfl
  try simp only [Act.put, zA, zB, zC]
  refine zT 16 36 ?_ rfl (by kernel_rfl) (by kernel_rfl) (by kernel_rfl) (fun _ _ _ h => h) (by rfl) ?_ hHeld ?_
  rotate_left
  ·intro W hSw
   have e6 : W.cell? ⟨gx, 6, none⟩ = some (.string c.sig) := hSw.2.cell 6
   go_simp
   try with_reducible rfl
  try simp only [Act.put, zA, zB, zC]
  refine wpAnyH_ready (rs := [14]) (by kernel_rfl) (by simp) ?_
  refine AllReadyH.cons (o := ⟨some 34, _, _, _, _, _⟩) rfl (fun K hK => ?_) AllReadyH.nil
  have EQ := implCrlBody_any c (.agg #[.string c.issuer, .int .i64 c.num, .int .i64 c.ths, .int .i64 c.nxt, .int .i64 c.bas, .slice p1 m1 q1, .string c.sig]) w1 HW.out.1 HW.out.2 (HCA.out _ hHeld)
  rw [hT] at EQ
  try unfold clV at EQ
  go_simp
  refine EQ.mono ?_
  rintro e w2 ⟨rfl, hb⟩
  have hS3 := HSB.out _ _ hHeld hb
  clear hb EQ
  refine hK.out _ _ hS3 (fun hHeld => ?_)
  clear hK K hS3
  try simp only [Act.put, zA, zB, zC]
  refine wpAnyH_ready (rs := [17]) (by kernel_rfl) (by simp) ?_
  refine AllReadyH.cons (o := ⟨some 37, _, _, _, _, _⟩) rfl (fun K hK => ?_) AllReadyH.nil
  have EQ := implSok_any key T c.sig w2 HA.out.2.1 HT.out.2 (wtL_parts HW.out.1).2.2 (HA.out.2.2 _ hHeld.1).1 (HA.out.2.2 _ hHeld.1).2
  rw [hSG] at EQ
  try unfold clV at EQ
  go_simp
  refine EQ.mono ?_
  rintro e w3 ⟨rfl, hb⟩
  have hS3 := HSB.out _ _ hHeld hb
  clear hb EQ
  refine hK.out _ _ hS3 (fun hHeld => ?_)
  clear hK K hS3
  try simp only [Act.put, zA, zB, zC]
  refine zT 18 38 ?_ rfl (by kernel_rfl) (by kernel_rfl) (by kernel_rfl) (fun _ _ _ h => h) (by rfl) ?_ hHeld ?_
  rotate_left
  ·intro W hSw
   go_simp
   try with_reducible rfl
  try simp only [Act.put, zA, zB, zC]
  refine zT 19 8 ?_ rfl (by kernel_rfl) (by kernel_rfl) (by kernel_rfl) (fun _ _ _ h => h) (by rfl) ?_ hHeld ?_
  rotate_left
  ·intro W hSw
   go_simp
   try with_reducible rfl
  try simp only [Act.put, zA, zB, zC]
  refine wpAnyH_done (by kernel_rfl) ?_ _
  have HQ : Hid (RR = SG /\ Below w.heap.size w w3) := ⟨HBL.out, hHeld.1⟩
  clear hHeld HSB HCA hT hSG HT
  go_wp2_with fail
  go_ret
  exact ⟨by rw [HQ.out.1]; rfl, HQ.out.2⟩
set_option maxHeartbeats 25600000 in
theorem implCrlsOf_any (l : List Cl) (v : Value) (iss key : ByteArray) (time : Int) (bs : Nat) (fp : List Nat) (w : World) (hl : wtS l <= 1048576) (hwd : ∀ c ∈ l, WdL c) (hk : key.size <= 1048576) (hH : ∀ w', Below w.heap.size w w' -> KeysOk w' /\ StartOk w') (ha : OwnS crlKd w bs v l fp) :
  Calls Tryz.prog 48 #[v, .string iss, .string key, .int .i64 time] w fun e w' => CoPost w (l.filter (belB iss key time)) e w' := by
 obtain ⟨ao, cap, hv, hg⟩ := ha.row
 obtain ⟨n, hn⟩ : ∃ n, l.length = n := ⟨_, rfl⟩
 rw [hn] at hv hg
 subst hv
 have hn20 : n <= 1048576 := by unfold wtS at hl; omega
 have HA : Hid (OwnS crlKd w bs (.slice ao n cap) l fp /\ l.length = n /\ wtS l <= 1048576 /\ (0 < n -> ∃ g, ao = some ⟨g, 0, none⟩ /\ g < w.heap.size) /\ (∀ c ∈ l, WdL c) /\ key.size <= 1048576) := ⟨ha, hn, hl, hg, hwd, hk⟩
 have HTB : Hid (∀ w', Below w.heap.size w w' -> KeysOk w' /\ StartOk w') := hH
 clear ha hn hl hg hwd hk hH
 have H1 : Hid (Below w.heap.size w w /\ OwnS crlKd w w.heap.size (.slice none 0 0) [] []) := ⟨Below.refl _ _, OwnS.nil _ _ _⟩
 go_enter Tryz.func48, Tryz.ntmps48
 go_wp2_with fail
 go_loopw [9, 14] (fun ov iv wr => ∃ k : Nat, k <= n /\ iv = .int .i64 k /\ Hid (∃ fpo, Below w.heap.size w wr /\ OwnS crlKd wr w.heap.size ov ((l.take k).filter (belB iss key time)) fpo)) (fun _ iv _ => n - (intOf iv).toNat)
 case atStart => exact ⟨0, Nat.zero_le _, rfl, _, H1.out⟩
 case round =>
  clear H1
  obtain ⟨k, hk, rfl, H0⟩ := hrel
  obtain ⟨fpo, hH⟩ := H0.out
  have H : Hid (Below w.heap.size w wr /\ OwnS crlKd wr w.heap.size u9 ((l.take k).filter (belB iss key time)) fpo) := hH
  clear H0 hH
  by_cases hkn : k < n
  ·have hkl : k < l.length := by rw [HA.out.2.1]; exact hkn
   obtain ⟨g, hg, hgw⟩ := HA.out.2.2.2.1 (by omega)
   subst hg
   obtain ⟨p1, q1, hoc, hc1⟩ := HA.out.1.one HA.out.2.1.symm hkl
   have hki : (k : Int) < (n : Int) := by omega
   have hk0 : (0 : Int) <= (k : Int) := by omega
   obtain ⟨c, hc⟩ : ∃ c, l.getD k zeL = c := ⟨_, rfl⟩
   have HFN : Hid ((l.take (k + 1)).filter (belB iss key time) = (l.take k).filter (belB iss key time) ++ (if belB iss key time c = true then [c] else [])) := by show _ = _; rw [filter_next hkl, hc]
   have HW : Hid (wtL c <= 1048576 /\ WdL c) := by rw [<- hc]; exact ⟨wtS_getD2 HA.out.2.2.1 hkl, wd_getD HA.out.2.2.2.2.1 hkl⟩
   rw [hc] at hc1 hoc
   obtain ⟨m1, hm1⟩ : ∃ m, c.revs.length = m := ⟨_, rfl⟩
   rw [hm1] at hc1 hoc
   have x0 : wr.cell? ⟨g, k * 7, none⟩ = some (.string c.issuer) := (H.out.1.cell (p := ⟨g, k * 7, none⟩) hgw).trans (hc1 0 _ rfl)
   have x1 : wr.cell? ⟨g, k * 7 + 1, none⟩ = some (.int .i64 c.num) := (H.out.1.cell (p := ⟨g, k * 7 + 1, none⟩) hgw).trans (hc1 1 _ rfl)
   have x2 : wr.cell? ⟨g, k * 7 + 2, none⟩ = some (.int .i64 c.ths) := (H.out.1.cell (p := ⟨g, k * 7 + 2, none⟩) hgw).trans (hc1 2 _ rfl)
   have x3 : wr.cell? ⟨g, k * 7 + 3, none⟩ = some (.int .i64 c.nxt) := (H.out.1.cell (p := ⟨g, k * 7 + 3, none⟩) hgw).trans (hc1 3 _ rfl)
   have x4 : wr.cell? ⟨g, k * 7 + 4, none⟩ = some (.int .i64 c.bas) := (H.out.1.cell (p := ⟨g, k * 7 + 4, none⟩) hgw).trans (hc1 4 _ rfl)
   have x5 : wr.cell? ⟨g, k * 7 + 5, none⟩ = some (.slice p1 m1 q1) := (H.out.1.cell (p := ⟨g, k * 7 + 5, none⟩) hgw).trans (hc1 5 _ rfl)
   have x6 : wr.cell? ⟨g, k * 7 + 6, none⟩ = some (.string c.sig) := (H.out.1.cell (p := ⟨g, k * 7 + 6, none⟩) hgw).trans (hc1 6 _ rfl)
   have HOC : Hid (OwnL wr bs (.agg #[.string c.issuer, .int .i64 c.num, .int .i64 c.ths, .int .i64 c.nxt, .int .i64 c.bas, .slice p1 m1 q1, .string c.sig]) c) := hoc.stays H.out.1
   obtain ⟨V, hV⟩ : ∃ V, V = wr.alloc (Obj.cells #[.string c.issuer, .int .i64 c.num, .int .i64 c.ths, .int .i64 c.nxt, .int .i64 c.bas, .slice p1 m1 q1, .string c.sig] 49) := ⟨_, rfl⟩
   obtain ⟨gx, hgx⟩ : ∃ q, wr.heap.size = q := ⟨_, rfl⟩
   have HV : Hid (CS wr V gx #[.string c.issuer, .int .i64 c.num, .int .i64 c.ths, .int .i64 c.nxt, .int .i64 c.bas, .slice p1 m1 q1, .string c.sig]) := by rw [hV, <- hgx]; exact ⟨(Below.refl _ _).alloc (Nat.le_refl _) _, Blk.new _ _ _⟩
   clear hc1 hm1 hc hoc
   go_upto_region 5 with fail
   rw [<- hV]
   try rw [hgx]
   clear hV hgx x0 x1 x2 x3 x4 x5 x6 hgw
   obtain ⟨BL, hBL⟩ : ∃ b, belB iss key time c = b := ⟨_, rfl⟩
   have HBL : Hid (belB iss key time c = BL) := hBL
   have hBw : Below w.heap.size w V := H.out.1.trans (HV.out.1.mono H.out.1.size)
   have EB := believed_any c (.agg #[.string c.issuer, .int .i64 c.num, .int .i64 c.ths, .int .i64 c.nxt, .int .i64 c.bas, .slice p1 m1 q1, .string c.sig]) iss key time V HW.out.1 HW.out.2 HA.out.2.2.2.2.2 (fun w' hb => HTB.out w' (hBw.trans (hb.mono hBw.size))) (HOC.out.stays HV.out.1).at
   rw [hBL] at EB
   clear hBL hBw
   have e0 : V.cell? ⟨gx, 0, none⟩ = some (.string c.issuer) := HV.out.2.cell 0
   have e1 : V.cell? ⟨gx, 1, none⟩ = some (.int .i64 c.num) := HV.out.2.cell 1
   have e2 : V.cell? ⟨gx, 2, none⟩ = some (.int .i64 c.ths) := HV.out.2.cell 2
   have e3 : V.cell? ⟨gx, 3, none⟩ = some (.int .i64 c.nxt) := HV.out.2.cell 3
   have e4 : V.cell? ⟨gx, 4, none⟩ = some (.int .i64 c.bas) := HV.out.2.cell 4
   have e5 : V.cell? ⟨gx, 5, none⟩ = some (.slice p1 m1 q1) := HV.out.2.cell 5
   have e6 : V.cell? ⟨gx, 6, none⟩ = some (.string c.sig) := HV.out.2.cell 6
   go_wp2_with fail
   refine EB.mono ?_
   rintro e w3 ⟨rfl, hb3⟩
   have hHeld : CS wr w3 gx #[.string c.issuer, .int .i64 c.num, .int .i64 c.ths, .int .i64 c.nxt, .int .i64 c.bas, .slice p1 m1 q1, .string c.sig] := HV.out.below hb3
   clear hb3 HV EB e0 e1 e2 e3 e4 e5 e6
   cases BL with
   | false =>
    have HF : Hid ((l.take (k + 1)).filter (belB iss key time) = (l.take k).filter (belB iss key time)) := by show _ = _; rw [HFN.out, HBL.out, if_neg Bool.false_ne_true, List.append_nil]
    have HD : Hid (∃ fpo, Below w.heap.size w w3 /\ OwnS crlKd w3 w.heap.size u9 ((l.take (k + 1)).filter (belB iss key time)) fpo) := ⟨fpo, H.out.1.trans (hHeld.1.mono H.out.1.size), by rw [HF.out]; exact H.out.2.stays hHeld.1⟩
    clear H hHeld HF HFN HOC
    go_wp2_with fail
    go_roundw
    case rel => exact ⟨k + 1, by omega, by go_num, HD.out⟩
    case measure => simp [intOf]; omega
   | true =>
    have HF : Hid ((l.take (k + 1)).filter (belB iss key time) = (l.take k).filter (belB iss key time) ++ [c]) := by show _ = _; rw [HFN.out, HBL.out, if_pos rfl]
    have HL0 : Hid (((l.take k).filter (belB iss key time)).length <= 1048576) := by show _ <= _; have h1 := List.length_filter_le (belB iss key time) (l.take k); have h2 := List.length_take_le k l; omega
    obtain ⟨LF, hLF⟩ : ∃ q, (l.take k).filter (belB iss key time) = q := ⟨_, rfl⟩
    rw [hLF] at HF HL0 H
    clear hLF HFN HBL
    obtain ⟨va, vc, hvo, -⟩ := H.out.2.shape
    obtain ⟨ln, hln⟩ : ∃ q, LF.length = q := ⟨_, rfl⟩
    rw [hln] at hvo
    subst hvo
    have HX : Hid (CS wr w3 gx #[.string c.issuer, .int .i64 c.num, .int .i64 c.ths, .int .i64 c.nxt, .int .i64 c.bas, .slice p1 m1 q1, .string c.sig]) := hHeld
    have EC := ownCrl_any c (.agg #[.string c.issuer, .int .i64 c.num, .int .i64 c.ths, .int .i64 c.nxt, .int .i64 c.bas, .slice p1 m1 q1, .string c.sig]) bs w3 (by have := (wtL_parts HW.out.1).2.1; omega) (by have := (wtL_parts HW.out.1).1; omega) (by have := (wtL_parts HW.out.1).2.2; omega) (HOC.out.stays hHeld.1)
    have e0 : w3.cell? ⟨gx, 0, none⟩ = some (.string c.issuer) := HX.out.2.cell 0
    have e1 : w3.cell? ⟨gx, 1, none⟩ = some (.int .i64 c.num) := HX.out.2.cell 1
    have e2 : w3.cell? ⟨gx, 2, none⟩ = some (.int .i64 c.ths) := HX.out.2.cell 2
    have e3 : w3.cell? ⟨gx, 3, none⟩ = some (.int .i64 c.nxt) := HX.out.2.cell 3
    have e4 : w3.cell? ⟨gx, 4, none⟩ = some (.int .i64 c.bas) := HX.out.2.cell 4
    have e5 : w3.cell? ⟨gx, 5, none⟩ = some (.slice p1 m1 q1) := HX.out.2.cell 5
    have e6 : w3.cell? ⟨gx, 6, none⟩ = some (.string c.sig) := HX.out.2.cell 6
    clear hHeld
    go_wp2_with fail
    refine EC.mono ?_
    rintro e w5 ⟨u5, rfl, ⟨p5, rfl, ho5⟩, hb5⟩
    obtain ⟨qa, qc, hq5, -, -, -⟩ := OwnR.shape ho5
    subst hq5
    have H5 : Hid ((Below w.heap.size w w5 /\ OwnS crlKd w5 w.heap.size (.slice va ln vc) LF fpo) /\ OwnL w5 w.heap.size (clV c (.slice qa c.revs.length qc)) c /\ (∀ b ∈ fpL (clV c (.slice qa c.revs.length qc)), b ∉ fpo) /\ w.heap.size <= w5.heap.size) := by
     have hb : Below wr.heap.size wr w5 := HX.out.1.trans (hb5.mono HX.out.1.size)
     have h1 := H.out.1.size
     have h2 := HX.out.1.size
     refine ⟨⟨H.out.1.trans (hb.mono H.out.1.size), H.out.2.stays hb⟩, ⟨_, rfl, OwnR.base ho5 (by omega)⟩, fun b hb1 hm => ?_, by have := hb5.size; omega⟩
     have h3 := (H.out.2.lt b hm).2
     have h4 := (World.ownsRow.lt ho5 b (fpL_mem.1 hb1)).1
     omega
    clear EC ho5 hb5 H HX e0 e1 e2 e3 e4 e5 e6
    unfold clV
    go_wp2_with (at_builtin; refine wpList_append_crl rfl _ _ rfl w.heap.size (.slice va ln vc) LF fpo c (.slice qa c.revs.length qc) rfl _ rfl rfl H5.out.1.2 H5.out.2.1 H5.out.2.2.1 H5.out.2.2.2 (by have := HL0.out; omega) ?_)
    intro g9 cap9 w9 fp9 hO9 hb9
    have HD : Hid (∃ fpo, Below w.heap.size w w9 /\ OwnS crlKd w9 w.heap.size (.slice (some ⟨g9, 0, none⟩) (ln + 1) cap9) ((l.take (k + 1)).filter (belB iss key time)) fpo) := ⟨fp9, H5.out.1.1.trans hb9, by rw [HF.out]; first | exact hO9 | (have h := hO9; rw [List.length_append, hln] at h; exact h)⟩
    clear hO9 hb9 H5 HF
    go_wp2_with fail
    go_roundw
    case rel => exact ⟨k + 1, by omega, by go_num, HD.out⟩
    case measure => simp [intOf]; omega
  ·have hki : ¬ (k : Int) < (n : Int) := by omega
   have hkl : k = n := by omega
   subst hkl
   have HF : Hid ((l.take k).filter (belB iss key time) = l.filter (belB iss key time)) := by show _ = _; rw [List.take_of_length_le (by rw [HA.out.2.1]; exact Nat.le_refl _)]
   go_wp2_with fail
   go_ret
   exact ⟨_, fpo, rfl, by rw [<- HF.out]; exact H.out.2, H.out.1⟩
end Go.Proofs.YtjgbmnhoajiabaaGreatDoor
