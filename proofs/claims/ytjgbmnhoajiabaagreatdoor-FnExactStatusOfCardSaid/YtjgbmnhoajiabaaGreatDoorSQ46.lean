/-
  Texts of the proof.
-/
import Derived.Test.YtjgbmnhoajiabaaGreatDoorSQ45
set_option maxRecDepth 100000
namespace Go.Proofs.YtjgbmnhoajiabaaGreatDoor
open Go.RowKit Der
set_option linter.unusedVariables false
set_option linter.unusedSimpArgs false
def CS (w0 W : World) (gx : Nat) (cells : Array Value) : Prop := Below w0.heap.size w0 W /\ Blk W gx 49 cells
theorem CS.below {w0 W W' : World} {gx : Nat} {cells : Array Value} (h : CS w0 W gx cells) (hb : Below W.heap.size W W') : CS w0 W' gx cells := ⟨h.1.trans (hb.mono h.1.size), h.2.below hb h.2.lt⟩
set_option maxHeartbeats 25600000 in
theorem specCrlsOf_any (l : List Cl) (v : Value) (iss key : ByteArray) (time : Int) (bs : Nat) (fp : List Nat) (w : World) (hl : wtS l <= 1048576) (hwd : ∀ c ∈ l, WdL c) (hk : key.size <= 1048576) (ha : OwnS crlKd w bs v l fp) :
  Calls Tryz.prog 49 #[v, .string iss, .string key, .int .i64 time] w fun e w' => CoPost w (l.filter (belB iss key time)) e w' := by
 obtain ⟨ao, cap, hv, hg⟩ := ha.row
 obtain ⟨n, hn⟩ : ∃ n, l.length = n := ⟨_, rfl⟩
 rw [hn] at hv hg
 subst hv
 have hn20 : n <= 1048576 := by unfold wtS at hl; omega
 have HA : Hid (OwnS crlKd w bs (.slice ao n cap) l fp /\ l.length = n /\ wtS l <= 1048576 /\ (0 < n -> ∃ g, ao = some ⟨g, 0, none⟩ /\ g < w.heap.size) /\ (∀ c ∈ l, WdL c) /\ key.size <= 1048576) := ⟨ha, hn, hl, hg, hwd, hk⟩
 clear ha hn hl hg hwd hk
 obtain ⟨W1, hW1⟩ : ∃ V, V = w.alloc (Obj.cells #[] 49) := ⟨_, rfl⟩
 have H1 : Hid (Below w.heap.size w W1 /\ OwnS crlKd W1 w.heap.size (.slice (some ⟨w.heap.size, 0, none⟩) 0 0) [] [w.heap.size]) := by rw [hW1]; exact ⟨(Below.refl _ _).alloc (Nat.le_refl _) _, OwnS.made crlKd w _ (Nat.le_refl _)⟩
 go_enter Tryz.func49, Tryz.ntmps49
 go_wp2_with fail
 rw [<- hW1]
 clear hW1
 go_loopw [9, 10] (fun ov iv wr => ∃ k : Nat, k <= n /\ iv = .int .i64 k /\ Hid (∃ fpo, Below w.heap.size w wr /\ OwnS crlKd wr w.heap.size ov ((l.take k).filter (belB iss key time)) fpo)) (fun _ iv _ => n - (intOf iv).toNat)
 case atStart => exact ⟨0, Nat.zero_le _, rfl, _, H1.out⟩
 case round =>
  clear H1
  obtain ⟨k, hk, rfl, H0⟩ := hrel
  obtain ⟨fpo, hH⟩ := H0.out
  have H : Hid (Below w.heap.size w wr /\ OwnS crlKd wr w.heap.size u9 ((l.take k).filter (belB iss key time)) fpo) := hH
  clear H0 hH
  by_cases hkn : k < n
  ·have hkl : k < l.length := by rw [HA.out.2.1]; exact hkn
   obtain ⟨g, hg, hgw⟩ := HA.out.2.2.2.1 (by omega)
   subst hg
   obtain ⟨p1, q1, hoc, hc1⟩ := HA.out.1.one HA.out.2.1.symm hkl
   have hki : (k : Int) < (n : Int) := by omega
   have hk0 : (0 : Int) <= (k : Int) := by omega
   obtain ⟨c, hc⟩ : ∃ c, l.getD k zeL = c := ⟨_, rfl⟩
   have HFN : Hid ((l.take (k + 1)).filter (belB iss key time) = (l.take k).filter (belB iss key time) ++ (if belB iss key time c = true then [c] else [])) := by show _ = _; rw [filter_next hkl, hc]
   have HW : Hid (wtL c <= 1048576 /\ WdL c) := by rw [<- hc]; exact ⟨wtS_getD2 HA.out.2.2.1 hkl, wd_getD HA.out.2.2.2.2.1 hkl⟩
   rw [hc] at hc1 hoc
   obtain ⟨m1, hm1⟩ : ∃ m, c.revs.length = m := ⟨_, rfl⟩
   rw [hm1] at hc1 hoc
   have x0 : wr.cell? ⟨g, k * 7, none⟩ = some (.string c.issuer) := (H.out.1.cell (p := ⟨g, k * 7, none⟩) hgw).trans (hc1 0 _ rfl)
   have x1 : wr.cell? ⟨g, k * 7 + 1, none⟩ = some (.int .i64 c.num) := (H.out.1.cell (p := ⟨g, k * 7 + 1, none⟩) hgw).trans (hc1 1 _ rfl)
   have x2 : wr.cell? ⟨g, k * 7 + 2, none⟩ = some (.int .i64 c.ths) := (H.out.1.cell (p := ⟨g, k * 7 + 2, none⟩) hgw).trans (hc1 2 _ rfl)
   have x3 : wr.cell? ⟨g, k * 7 + 3, none⟩ = some (.int .i64 c.nxt) := (H.out.1.cell (p := ⟨g, k * 7 + 3, none⟩) hgw).trans (hc1 3 _ rfl)
   have x4 : wr.cell? ⟨g, k * 7 + 4, none⟩ = some (.int .i64 c.bas) := (H.out.1.cell (p := ⟨g, k * 7 + 4, none⟩) hgw).trans (hc1 4 _ rfl)
   have x5 : wr.cell? ⟨g, k * 7 + 5, none⟩ = some (.slice p1 m1 q1) := (H.out.1.cell (p := ⟨g, k * 7 + 5, none⟩) hgw).trans (hc1 5 _ rfl)
   have x6 : wr.cell? ⟨g, k * 7 + 6, none⟩ = some (.string c.sig) := (H.out.1.cell (p := ⟨g, k * 7 + 6, none⟩) hgw).trans (hc1 6 _ rfl)
   have HOC : Hid (OwnL wr bs (.agg #[.string c.issuer, .int .i64 c.num, .int .i64 c.ths, .int .i64 c.nxt, .int .i64 c.bas, .slice p1 m1 q1, .string c.sig]) c) := hoc.stays H.out.1
   obtain ⟨V, hV⟩ : ∃ V, V = wr.alloc (Obj.cells #[.string c.issuer, .int .i64 c.num, .int .i64 c.ths, .int .i64 c.nxt, .int .i64 c.bas, .slice p1 m1 q1, .string c.sig] 49) := ⟨_, rfl⟩
   obtain ⟨gx, hgx⟩ : ∃ q, wr.heap.size = q := ⟨_, rfl⟩
   have HV : Hid (CS wr V gx #[.string c.issuer, .int .i64 c.num, .int .i64 c.ths, .int .i64 c.nxt, .int .i64 c.bas, .slice p1 m1 q1, .string c.sig]) := by rw [hV, <- hgx]; exact ⟨(Below.refl _ _).alloc (Nat.le_refl _) _, Blk.new _ _ _⟩
   have HSB : Hid (∀ W W' : World, CS wr W gx #[.string c.issuer, .int .i64 c.num, .int .i64 c.ths, .int .i64 c.nxt, .int .i64 c.bas, .slice p1 m1 q1, .string c.sig] -> Below W.heap.size W W' -> CS wr W' gx #[.string c.issuer, .int .i64 c.num, .int .i64 c.ths, .int .i64 c.nxt, .int .i64 c.bas, .slice p1 m1 q1, .string c.sig]) := fun W W' h hb => h.below hb
   have HCA : Hid (∀ W : World, CS wr W gx #[.string c.issuer, .int .i64 c.num, .int .i64 c.ths, .int .i64 c.nxt, .int .i64 c.bas, .slice p1 m1 q1, .string c.sig] -> ClAt W (.agg #[.string c.issuer, .int .i64 c.num, .int .i64 c.ths, .int .i64 c.nxt, .int .i64 c.bas, .slice p1 m1 q1, .string c.sig]) c) := fun W h => (HOC.out.stays h.1).at
   clear hc1 hm1 hc hoc
   go_upto_region 6 with fail
   rw [<- hV]
   try rw [hgx]
   clear hV hgx x0 x1 x2 x3 x4 x5 x6 hgw
   have hDr : Below V.heap.size V V.drew := (Below.refl _ _).drew
   refine wp_region_held_drew (S := fun W => CS wr W gx #[.string c.issuer, .int .i64 c.num, .int .i64 c.ths, .int .i64 c.nxt, .int .i64 c.bas, .slice p1 m1 q1, .string c.sig]) (by kernel_rfl) (HV.out.below hDr) (fun hHeld => ?_)
   clear hDr HV
   generalize V.drew = wd at hHeld |-
   refine zT 0 23 ?_ rfl (by kernel_rfl) (by kernel_rfl) (by kernel_rfl) (fun _ _ _ h => h) (by rfl) ?_ hHeld ?_
   rotate_left
   ·intro W hSw
    have e0 : W.cell? ⟨gx, 0, none⟩ = some (.string c.issuer) := hSw.2.cell 0
    have e1 : W.cell? ⟨gx, 1, none⟩ = some (.int .i64 c.num) := hSw.2.cell 1
    have e2 : W.cell? ⟨gx, 2, none⟩ = some (.int .i64 c.ths) := hSw.2.cell 2
    have e3 : W.cell? ⟨gx, 3, none⟩ = some (.int .i64 c.nxt) := hSw.2.cell 3
    have e4 : W.cell? ⟨gx, 4, none⟩ = some (.int .i64 c.bas) := hSw.2.cell 4
    have e5 : W.cell? ⟨gx, 5, none⟩ = some (.slice p1 m1 q1) := hSw.2.cell 5
    have e6 : W.cell? ⟨gx, 6, none⟩ = some (.string c.sig) := hSw.2.cell 6
    go_simp
    try with_reducible rfl
   try simp only [Act.put, zA, zB, zC]
   refine wpAnyH_ready (rs := [1]) (by kernel_rfl) (by simp) ?_
   refine AllReadyH.cons (o := ⟨some 24, _, _, _, _, _⟩) rfl (fun K hK => ?_) AllReadyH.nil
   have EQ := specCrlOk_any c (.agg #[.string c.issuer, .int .i64 c.num, .int .i64 c.ths, .int .i64 c.nxt, .int .i64 c.bas, .slice p1 m1 q1, .string c.sig]) wd (Nat.le_trans HW.out.1 (by decide)) (HCA.out _ hHeld)
   try unfold clV at EQ
   go_simp
   refine EQ.mono ?_
   rintro e w1 ⟨rfl, hb⟩
   have hS3 := HSB.out _ _ hHeld hb
   clear hb EQ
   refine hK.out _ _ hS3 (fun hHeld => ?_)
   clear hK K hS3
   try simp only [Act.put, zA, zB, zC]
   have HH1 : Hid (CS wr w1 gx #[.string c.issuer, .int .i64 c.num, .int .i64 c.ths, .int .i64 c.nxt, .int .i64 c.bas, .slice p1 m1 q1, .string c.sig]) := hHeld
   obtain ⟨A, hA⟩ : ∃ b, crlOk c = b := ⟨_, rfl⟩
   rw [hA]
   refine zT 2 25 ?_ rfl (by kernel_rfl) (by kernel_rfl) (by kernel_rfl) (fun _ _ _ h => h) (by rfl) ?_ hHeld ?_
   rotate_left
   ·intro W hSw
    go_simp
    try with_reducible rfl
   try simp only [Act.put, zA, zB, zC]
   cases A with
   | false =>
    refine zU 3 26 rfl (by kernel_rfl) (by kernel_rfl) (by kernel_rfl) (fun _ _ _ h => h) (by rfl) hHeld ?_
    try simp only [Act.put, zA, zB, zC]
    refine zU 4 27 rfl (by kernel_rfl) (by kernel_rfl) (by kernel_rfl) (fun _ _ _ h => h) (by rfl) hHeld ?_
    try simp only [Act.put, zA, zB, zC]
    refine zU 5 28 rfl (by kernel_rfl) (by kernel_rfl) (by kernel_rfl) (fun _ _ _ h => h) (by rfl) hHeld ?_
    try simp only [Act.put, zA, zB, zC]
    refine zU 6 29 rfl (by kernel_rfl) (by kernel_rfl) (by kernel_rfl) (fun _ _ _ h => h) (by rfl) hHeld ?_
    try simp only [Act.put, zA, zB, zC]
    refine zT 7 30 ?_ rfl (by kernel_rfl) (by kernel_rfl) (by kernel_rfl) (fun _ _ _ h => h) (by rfl) ?_ hHeld ?_
    rotate_left
    ·intro W hSw
     go_simp
     try with_reducible rfl
    try simp only [Act.put, zA, zB, zC]
    refine zT 8 31 ?_ rfl (by kernel_rfl) (by kernel_rfl) (by kernel_rfl) (fun _ _ _ h => h) (by rfl) ?_ hHeld ?_
    rotate_left
    ·intro W hSw
     go_simp
     try with_reducible rfl
    try simp only [Act.put, zA, zB, zC]
    refine zU 9 32 rfl (by kernel_rfl) (by kernel_rfl) (by kernel_rfl) (fun _ _ _ h => h) (by rfl) hHeld ?_
    try simp only [Act.put, zA, zB, zC]
    refine zU 10 33 rfl (by kernel_rfl) (by kernel_rfl) (by kernel_rfl) (fun _ _ _ h => h) (by rfl) hHeld ?_
    try simp only [Act.put, zA, zB, zC]
    refine zU 11 34 rfl (by kernel_rfl) (by kernel_rfl) (by kernel_rfl) (fun _ _ _ h => h) (by rfl) hHeld ?_
    try simp only [Act.put, zA, zB, zC]
    refine zU 12 35 rfl (by kernel_rfl) (by kernel_rfl) (by kernel_rfl) (fun _ _ _ h => h) (by rfl) hHeld ?_
    try simp only [Act.put, zA, zB, zC]
    refine zT 13 36 ?_ rfl (by kernel_rfl) (by kernel_rfl) (by kernel_rfl) (fun _ _ _ h => h) (by rfl) ?_ hHeld ?_
    rotate_left
    ·intro W hSw
     go_simp
     try with_reducible rfl
    try simp only [Act.put, zA, zB, zC]
    refine zT 14 37 ?_ rfl (by kernel_rfl) (by kernel_rfl) (by kernel_rfl) (fun _ _ _ h => h) (by rfl) ?_ hHeld ?_
    rotate_left
    ·intro W hSw
     go_simp
     try with_reducible rfl
    try simp only [Act.put, zA, zB, zC]
    refine zU 15 38 rfl (by kernel_rfl) (by kernel_rfl) (by kernel_rfl) (fun _ _ _ h => h) (by rfl) hHeld ?_
    try simp only [Act.put, zA, zB, zC]
    refine zU 16 39 rfl (by kernel_rfl) (by kernel_rfl) (by kernel_rfl) (fun _ _ _ h => h) (by rfl) hHeld ?_
    try simp only [Act.put, zA, zB, zC]
    refine zU 17 40 rfl (by kernel_rfl) (by kernel_rfl) (by kernel_rfl) (fun _ _ _ h => h) (by rfl) hHeld ?_
    try simp only [Act.put, zA, zB, zC]
    refine zU 18 41 rfl (by kernel_rfl) (by kernel_rfl) (by kernel_rfl) (fun _ _ _ h => h) (by rfl) hHeld ?_
    try simp only [Act.put, zA, zB, zC]
    refine zT 19 42 ?_ rfl (by kernel_rfl) (by kernel_rfl) (by kernel_rfl) (fun _ _ _ h => h) (by rfl) ?_ hHeld ?_
    rotate_left
    ·intro W hSw
     go_simp
     try with_reducible rfl
    try simp only [Act.put, zA, zB, zC]
    refine zT 20 43 ?_ rfl (by kernel_rfl) (by kernel_rfl) (by kernel_rfl) (fun _ _ _ h => h) (by rfl) ?_ hHeld ?_
    rotate_left
    ·intro W hSw
     go_simp
     try with_reducible rfl
    try simp only [Act.put, zA, zB, zC]
    refine zU 21 44 rfl (by kernel_rfl) (by kernel_rfl) (by kernel_rfl) (fun _ _ _ h => h) (by rfl) hHeld ?_
    try simp only [Act.put, zA, zB, zC]
    refine zU 22 45 rfl (by kernel_rfl) (by kernel_rfl) (by kernel_rfl) (fun _ _ _ h => h) (by rfl) hHeld ?_
    try simp only [Act.put, zA, zB, zC]
    refine zU 23 46 rfl (by kernel_rfl) (by kernel_rfl) (by kernel_rfl) (fun _ _ _ h => h) (by rfl) hHeld ?_
    try simp only [Act.put, zA, zB, zC]
    refine zU 24 47 rfl (by kernel_rfl) (by kernel_rfl) (by kernel_rfl) (fun _ _ _ h => h) (by rfl) hHeld ?_
    try simp only [Act.put, zA, zB, zC]
    refine zU 25 48 rfl (by kernel_rfl) (by kernel_rfl) (by kernel_rfl) (fun _ _ _ h => h) (by rfl) hHeld ?_
    try simp only [Act.put, zA, zB, zC]
    refine zU 26 49 rfl (by kernel_rfl) (by kernel_rfl) (by kernel_rfl) (fun _ _ _ h => h) (by rfl) hHeld ?_
    try simp only [Act.put, zA, zB, zC]
    refine zT 27 50 ?_ rfl (by kernel_rfl) (by kernel_rfl) (by kernel_rfl) (fun _ _ _ h => h) (by rfl) ?_ hHeld ?_
    rotate_left
    ·intro W hSw
     go_simp
     try with_reducible rfl
    try simp only [Act.put, zA, zB, zC]
    refine wpAnyH_done (by kernel_rfl) ?_ _
    have HF : Hid ((l.take (k + 1)).filter (belB iss key time) = (l.take k).filter (belB iss key time)) := by show _ = _; rw [HFN.out, bel_ok hA, if_neg Bool.false_ne_true, List.append_nil]
    have HD : Hid (∃ fpo, Below w.heap.size w w1 /\ OwnS crlKd w1 w.heap.size u9 ((l.take (k + 1)).filter (belB iss key time)) fpo) := ⟨fpo, H.out.1.trans (hHeld.1.mono H.out.1.size), by rw [HF.out]; exact H.out.2.stays hHeld.1⟩
    clear H hHeld HF HFN HSB HCA HOC
    go_wp2_with fail
    go_roundw
    case rel => exact ⟨k + 1, by omega, by go_num, HD.out⟩
    case measure => simp [intOf]; omega
   | true =>
    by_cases hB : (c.issuer.toList == iss.toList) = true
    rotate_left
    ·have hB2 : (c.issuer.toList == iss.toList) = false := by simpa using hB
     clear hB
     refine zT 3 26 ?_ rfl (by kernel_rfl) (by kernel_rfl) (by kernel_rfl) (fun _ _ _ h => h) (by rfl) ?_ hHeld ?_
     rotate_left
     ·intro W hSw
      go_simp
      try with_reducible rfl
     try simp only [Act.put, zA, zB, zC]
     refine zT 4 27 ?_ rfl (by kernel_rfl) (by kernel_rfl) (by kernel_rfl) (fun _ _ _ h => h) (by rfl) ?_ hHeld ?_
     rotate_left
     ·intro W hSw
      have e0 : W.cell? ⟨gx, 0, none⟩ = some (.string c.issuer) := hSw.2.cell 0
      go_simp
      try with_reducible rfl
     try simp only [Act.put, zA, zB, zC]
     refine zT 5 28 ?_ rfl (by kernel_rfl) (by kernel_rfl) (by kernel_rfl) (fun _ _ _ h => h) (by rfl) ?_ hHeld ?_
     rotate_left
     ·intro W hSw
      go_simp
      try with_reducible rfl
     try simp only [Act.put, zA, zB, zC]
     refine zT 6 29 ?_ rfl (by kernel_rfl) (by kernel_rfl) (by kernel_rfl) (fun _ _ _ h => h) (by rfl) ?_ hHeld ?_
     rotate_left
     ·intro W hSw
      go_simp
      try with_reducible rfl
     try simp only [Act.put, zA, zB, zC]
     refine zT 7 30 ?_ rfl (by kernel_rfl) (by kernel_rfl) (by kernel_rfl) (fun _ _ _ h => h) (by rfl) ?_ hHeld ?_
     rotate_left
     ·intro W hSw
      go_simp
      try with_reducible rfl
     try simp only [Act.put, zA, zB, zC]
     refine zT 8 31 ?_ rfl (by kernel_rfl) (by kernel_rfl) (by kernel_rfl) (fun _ _ _ h => h) (by rfl) ?_ hHeld ?_
     rotate_left
     ·intro W hSw
      go_simp
      try with_reducible rfl
     try simp only [Act.put, zA, zB, zC]
     refine zU 9 32 rfl (by kernel_rfl) (by kernel_rfl) (by kernel_rfl) (fun _ _ _ h => h) (by rfl) hHeld ?_
     try simp only [Act.put, zA, zB, zC]
     refine zU 10 33 rfl (by kernel_rfl) (by kernel_rfl) (by kernel_rfl) (fun _ _ _ h => h) (by rfl) hHeld ?_
     try simp only [Act.put, zA, zB, zC]
     refine zU 11 34 rfl (by kernel_rfl) (by kernel_rfl) (by kernel_rfl) (fun _ _ _ h => h) (by rfl) hHeld ?_
     try simp only [Act.put, zA, zB, zC]
     refine zU 12 35 rfl (by kernel_rfl) (by kernel_rfl) (by kernel_rfl) (fun _ _ _ h => h) (by rfl) hHeld ?_
     try simp only [Act.put, zA, zB, zC]
     refine zT 13 36 ?_ rfl (by kernel_rfl) (by kernel_rfl) (by kernel_rfl) (fun _ _ _ h => h) (by rfl) ?_ hHeld ?_
     rotate_left
     ·intro W hSw
      go_simp
      try with_reducible rfl
     try simp only [Act.put, zA, zB, zC]
     refine zT 14 37 ?_ rfl (by kernel_rfl) (by kernel_rfl) (by kernel_rfl) (fun _ _ _ h => h) (by rfl) ?_ hHeld ?_
     rotate_left
     ·intro W hSw
      go_simp
      try with_reducible rfl
     try simp only [Act.put, zA, zB, zC]
     refine zU 15 38 rfl (by kernel_rfl) (by kernel_rfl) (by kernel_rfl) (fun _ _ _ h => h) (by rfl) hHeld ?_
     try simp only [Act.put, zA, zB, zC]
     refine zU 16 39 rfl (by kernel_rfl) (by kernel_rfl) (by kernel_rfl) (fun _ _ _ h => h) (by rfl) hHeld ?_
     try simp only [Act.put, zA, zB, zC]
     refine zU 17 40 rfl (by kernel_rfl) (by kernel_rfl) (by kernel_rfl) (fun _ _ _ h => h) (by rfl) hHeld ?_
     try simp only [Act.put, zA, zB, zC]
     refine zU 18 41 rfl (by kernel_rfl) (by kernel_rfl) (by kernel_rfl) (fun _ _ _ h => h) (by rfl) hHeld ?_
     try simp only [Act.put, zA, zB, zC]
     refine zT 19 42 ?_ rfl (by kernel_rfl) (by kernel_rfl) (by kernel_rfl) (fun _ _ _ h => h) (by rfl) ?_ hHeld ?_
     rotate_left
     ·intro W hSw
      go_simp
      try with_reducible rfl
     try simp only [Act.put, zA, zB, zC]
     refine zT 20 43 ?_ rfl (by kernel_rfl) (by kernel_rfl) (by kernel_rfl) (fun _ _ _ h => h) (by rfl) ?_ hHeld ?_
     rotate_left
     ·intro W hSw
      go_simp
      try with_reducible rfl
     try simp only [Act.put, zA, zB, zC]
     refine zU 21 44 rfl (by kernel_rfl) (by kernel_rfl) (by kernel_rfl) (fun _ _ _ h => h) (by rfl) hHeld ?_
     try simp only [Act.put, zA, zB, zC]
     refine zU 22 45 rfl (by kernel_rfl) (by kernel_rfl) (by kernel_rfl) (fun _ _ _ h => h) (by rfl) hHeld ?_
     try simp only [Act.put, zA, zB, zC]
     refine zU 23 46 rfl (by kernel_rfl) (by kernel_rfl) (by kernel_rfl) (fun _ _ _ h => h) (by rfl) hHeld ?_
     try simp only [Act.put, zA, zB, zC]
     refine zU 24 47 rfl (by kernel_rfl) (by kernel_rfl) (by kernel_rfl) (fun _ _ _ h => h) (by rfl) hHeld ?_
     try simp only [Act.put, zA, zB, zC]
     refine zU 25 48 rfl (by kernel_rfl) (by kernel_rfl) (by kernel_rfl) (fun _ _ _ h => h) (by rfl) hHeld ?_
     try simp only [Act.put, zA, zB, zC]
     refine zU 26 49 rfl (by kernel_rfl) (by kernel_rfl) (by kernel_rfl) (fun _ _ _ h => h) (by rfl) hHeld ?_
     try simp only [Act.put, zA, zB, zC]
     refine zT 27 50 ?_ rfl (by kernel_rfl) (by kernel_rfl) (by kernel_rfl) (fun _ _ _ h => h) (by rfl) ?_ hHeld ?_
     rotate_left
     ·intro W hSw
      go_simp
      try with_reducible rfl
     try simp only [Act.put, zA, zB, zC]
     refine wpAnyH_done (by kernel_rfl) ?_ _
     have HF : Hid ((l.take (k + 1)).filter (belB iss key time) = (l.take k).filter (belB iss key time)) := by show _ = _; rw [HFN.out, bel_iss hB2, if_neg Bool.false_ne_true, List.append_nil]
     have HD : Hid (∃ fpo, Below w.heap.size w w1 /\ OwnS crlKd w1 w.heap.size u9 ((l.take (k + 1)).filter (belB iss key time)) fpo) := ⟨fpo, H.out.1.trans (hHeld.1.mono H.out.1.size), by rw [HF.out]; exact H.out.2.stays hHeld.1⟩
     clear H hHeld HF HFN HSB HCA HOC
     go_wp2_with fail
     go_roundw
     case rel => exact ⟨k + 1, by omega, by go_num, HD.out⟩
     case measure => simp [intOf]; omega
    refine zT 3 26 ?_ rfl (by kernel_rfl) (by kernel_rfl) (by kernel_rfl) (fun _ _ _ h => h) (by rfl) ?_ hHeld ?_
    rotate_left
    ·intro W hSw
     go_simp
     try with_reducible rfl
    try simp only [Act.put, zA, zB, zC]
    refine zT 4 27 ?_ rfl (by kernel_rfl) (by kernel_rfl) (by kernel_rfl) (fun _ _ _ h => h) (by rfl) ?_ hHeld ?_
    rotate_left
    ·intro W hSw
     have e0 : W.cell? ⟨gx, 0, none⟩ = some (.string c.issuer) := hSw.2.cell 0
     go_simp
     try with_reducible rfl
    try simp only [Act.put, zA, zB, zC]
    refine zT 5 28 ?_ rfl (by kernel_rfl) (by kernel_rfl) (by kernel_rfl) (fun _ _ _ h => h) (by rfl) ?_ hHeld ?_
    rotate_left
    ·intro W hSw
     go_simp
     try with_reducible rfl
    try simp only [Act.put, zA, zB, zC]
    refine zT 6 29 ?_ rfl (by kernel_rfl) (by kernel_rfl) (by kernel_rfl) (fun _ _ _ h => h) (by rfl) ?_ hHeld ?_
    rotate_left
    ·intro W hSw
     go_simp
     try with_reducible rfl
    try simp only [Act.put, zA, zB, zC]
    refine zT 7 30 ?_ rfl (by kernel_rfl) (by kernel_rfl) (by kernel_rfl) (fun _ _ _ h => h) (by rfl) ?_ hHeld ?_
    rotate_left
    ·intro W hSw
     go_simp
     try with_reducible rfl
    try simp only [Act.put, zA, zB, zC]
    refine zT 8 31 ?_ rfl (by kernel_rfl) (by kernel_rfl) (by kernel_rfl) (fun _ _ _ h => h) (by rfl) ?_ hHeld ?_
    rotate_left
    ·intro W hSw
     go_simp
     try with_reducible rfl
    try simp only [Act.put, zA, zB, zC]
    by_cases hC : c.ths <= time
    rotate_left
    ·skip
     refine zT 9 32 ?_ rfl (by kernel_rfl) (by kernel_rfl) (by kernel_rfl) (fun _ _ _ h => h) (by rfl) ?_ hHeld ?_
     rotate_left
     ·intro W hSw
      go_simp
      try with_reducible rfl
     try simp only [Act.put, zA, zB, zC]
     refine zT 10 33 ?_ rfl (by kernel_rfl) (by kernel_rfl) (by kernel_rfl) (fun _ _ _ h => h) (by rfl) ?_ hHeld ?_
     rotate_left
     ·intro W hSw
      have e2 : W.cell? ⟨gx, 2, none⟩ = some (.int .i64 c.ths) := hSw.2.cell 2
      go_simp
      try with_reducible rfl
     try simp only [Act.put, zA, zB, zC]
     refine zT 11 34 ?_ rfl (by kernel_rfl) (by kernel_rfl) (by kernel_rfl) (fun _ _ _ h => h) (by rfl) ?_ hHeld ?_
     rotate_left
     ·intro W hSw
      go_simp
      try with_reducible rfl
     try simp only [Act.put, zA, zB, zC]
     refine zT 12 35 ?_ rfl (by kernel_rfl) (by kernel_rfl) (by kernel_rfl) (fun _ _ _ h => h) (by rfl) ?_ hHeld ?_
     rotate_left
     ·intro W hSw
      go_simp
      try with_reducible rfl
     try simp only [Act.put, zA, zB, zC]
     refine zT 13 36 ?_ rfl (by kernel_rfl) (by kernel_rfl) (by kernel_rfl) (fun _ _ _ h => h) (by rfl) ?_ hHeld ?_
     rotate_left
     ·intro W hSw
      go_simp
      try with_reducible rfl
     try simp only [Act.put, zA, zB, zC]
     refine zT 14 37 ?_ rfl (by kernel_rfl) (by kernel_rfl) (by kernel_rfl) (fun _ _ _ h => h) (by rfl) ?_ hHeld ?_
     rotate_left
     ·intro W hSw
      go_simp
      try with_reducible rfl
     try simp only [Act.put, zA, zB, zC]
     refine zU 15 38 rfl (by kernel_rfl) (by kernel_rfl) (by kernel_rfl) (fun _ _ _ h => h) (by rfl) hHeld ?_
     try simp only [Act.put, zA, zB, zC]
     refine zU 16 39 rfl (by kernel_rfl) (by kernel_rfl) (by kernel_rfl) (fun _ _ _ h => h) (by rfl) hHeld ?_
     try simp only [Act.put, zA, zB, zC]
     refine zU 17 40 rfl (by kernel_rfl) (by kernel_rfl) (by kernel_rfl) (fun _ _ _ h => h) (by rfl) hHeld ?_
     try simp only [Act.put, zA, zB, zC]
     refine zU 18 41 rfl (by kernel_rfl) (by kernel_rfl) (by kernel_rfl) (fun _ _ _ h => h) (by rfl) hHeld ?_
     try simp only [Act.put, zA, zB, zC]
     refine zT 19 42 ?_ rfl (by kernel_rfl) (by kernel_rfl) (by kernel_rfl) (fun _ _ _ h => h) (by rfl) ?_ hHeld ?_
     rotate_left
     ·intro W hSw
      go_simp
      try with_reducible rfl
     try simp only [Act.put, zA, zB, zC]
     refine zT 20 43 ?_ rfl (by kernel_rfl) (by kernel_rfl) (by kernel_rfl) (fun _ _ _ h => h) (by rfl) ?_ hHeld ?_
     rotate_left
     ·intro W hSw
      go_simp
      try with_reducible rfl
     try simp only [Act.put, zA, zB, zC]
     refine zU 21 44 rfl (by kernel_rfl) (by kernel_rfl) (by kernel_rfl) (fun _ _ _ h => h) (by rfl) hHeld ?_
     try simp only [Act.put, zA, zB, zC]
     refine zU 22 45 rfl (by kernel_rfl) (by kernel_rfl) (by kernel_rfl) (fun _ _ _ h => h) (by rfl) hHeld ?_
     try simp only [Act.put, zA, zB, zC]
     refine zU 23 46 rfl (by kernel_rfl) (by kernel_rfl) (by kernel_rfl) (fun _ _ _ h => h) (by rfl) hHeld ?_
     try simp only [Act.put, zA, zB, zC]
     refine zU 24 47 rfl (by kernel_rfl) (by kernel_rfl) (by kernel_rfl) (fun _ _ _ h => h) (by rfl) hHeld ?_
     try simp only [Act.put, zA, zB, zC]
     refine zU 25 48 rfl (by kernel_rfl) (by kernel_rfl) (by kernel_rfl) (fun _ _ _ h => h) (by rfl) hHeld ?_
     try simp only [Act.put, zA, zB, zC]
     refine zU 26 49 rfl (by kernel_rfl) (by kernel_rfl) (by kernel_rfl) (fun _ _ _ h => h) (by rfl) hHeld ?_
     try simp only [Act.put, zA, zB, zC]
     refine zT 27 50 ?_ rfl (by kernel_rfl) (by kernel_rfl) (by kernel_rfl) (fun _ _ _ h => h) (by rfl) ?_ hHeld ?_
     rotate_left
     ·intro W hSw
      go_simp
      try with_reducible rfl
     try simp only [Act.put, zA, zB, zC]
     refine wpAnyH_done (by kernel_rfl) ?_ _
     have HF : Hid ((l.take (k + 1)).filter (belB iss key time) = (l.take k).filter (belB iss key time)) := by show _ = _; rw [HFN.out, bel_ths hC, if_neg Bool.false_ne_true, List.append_nil]
     have HD : Hid (∃ fpo, Below w.heap.size w w1 /\ OwnS crlKd w1 w.heap.size u9 ((l.take (k + 1)).filter (belB iss key time)) fpo) := ⟨fpo, H.out.1.trans (hHeld.1.mono H.out.1.size), by rw [HF.out]; exact H.out.2.stays hHeld.1⟩
     clear H hHeld HF HFN HSB HCA HOC
     go_wp2_with fail
     go_roundw
     case rel => exact ⟨k + 1, by omega, by go_num, HD.out⟩
     case measure => simp [intOf]; omega
    refine zT 9 32 ?_ rfl (by kernel_rfl) (by kernel_rfl) (by kernel_rfl) (fun _ _ _ h => h) (by rfl) ?_ hHeld ?_
    rotate_left
    ·intro W hSw
     go_simp
     try with_reducible rfl
    try simp only [Act.put, zA, zB, zC]
    refine zT 10 33 ?_ rfl (by kernel_rfl) (by kernel_rfl) (by kernel_rfl) (fun _ _ _ h => h) (by rfl) ?_ hHeld ?_
    rotate_left
    ·intro W hSw
     have e2 : W.cell? ⟨gx, 2, none⟩ = some (.int .i64 c.ths) := hSw.2.cell 2
     go_simp
     try with_reducible rfl
    try simp only [Act.put, zA, zB, zC]
    refine zT 11 34 ?_ rfl (by kernel_rfl) (by kernel_rfl) (by kernel_rfl) (fun _ _ _ h => h) (by rfl) ?_ hHeld ?_
    rotate_left
    ·intro W hSw
     go_simp
     try with_reducible rfl
    try simp only [Act.put, zA, zB, zC]
    refine zT 12 35 ?_ rfl (by kernel_rfl) (by kernel_rfl) (by kernel_rfl) (fun _ _ _ h => h) (by rfl) ?_ hHeld ?_
    rotate_left
    ·intro W hSw
     go_simp
     try with_reducible rfl
    try simp only [Act.put, zA, zB, zC]
    refine zT 13 36 ?_ rfl (by kernel_rfl) (by kernel_rfl) (by kernel_rfl) (fun _ _ _ h => h) (by rfl) ?_ hHeld ?_
    rotate_left
    ·intro W hSw
     go_simp
     try with_reducible rfl
    try simp only [Act.put, zA, zB, zC]
    refine zT 14 37 ?_ rfl (by kernel_rfl) (by kernel_rfl) (by kernel_rfl) (fun _ _ _ h => h) (by rfl) ?_ hHeld ?_
    rotate_left
    ·intro W hSw
     go_simp
     try with_reducible rfl
    try simp only [Act.put, zA, zB, zC]
    by_cases hD : time <= c.nxt
    rotate_left
    ·skip
     refine zT 15 38 ?_ rfl (by kernel_rfl) (by kernel_rfl) (by kernel_rfl) (fun _ _ _ h => h) (by rfl) ?_ hHeld ?_
     rotate_left
     ·intro W hSw
      go_simp
      try with_reducible rfl
     try simp only [Act.put, zA, zB, zC]
     refine zT 16 39 ?_ rfl (by kernel_rfl) (by kernel_rfl) (by kernel_rfl) (fun _ _ _ h => h) (by rfl) ?_ hHeld ?_
     rotate_left
     ·intro W hSw
      go_simp
      try with_reducible rfl
     try simp only [Act.put, zA, zB, zC]
     refine zT 17 40 ?_ rfl (by kernel_rfl) (by kernel_rfl) (by kernel_rfl) (fun _ _ _ h => h) (by rfl) ?_ hHeld ?_
     rotate_left
     ·intro W hSw
      have e3 : W.cell? ⟨gx, 3, none⟩ = some (.int .i64 c.nxt) := hSw.2.cell 3
      go_simp
      try with_reducible rfl
     try simp only [Act.put, zA, zB, zC]
     refine zT 18 41 ?_ rfl (by kernel_rfl) (by kernel_rfl) (by kernel_rfl) (fun _ _ _ h => h) (by rfl) ?_ hHeld ?_
     rotate_left
     ·intro W hSw
      go_simp
      try with_reducible rfl
     try simp only [Act.put, zA, zB, zC]
     refine zT 19 42 ?_ rfl (by kernel_rfl) (by kernel_rfl) (by kernel_rfl) (fun _ _ _ h => h) (by rfl) ?_ hHeld ?_
     rotate_left
     ·intro W hSw
      go_simp
      try with_reducible rfl
     try simp only [Act.put, zA, zB, zC]
     refine zT 20 43 ?_ rfl (by kernel_rfl) (by kernel_rfl) (by kernel_rfl) (fun _ _ _ h => h) (by rfl) ?_ hHeld ?_
     rotate_left
     ·intro W hSw
      go_simp
      try with_reducible rfl
     try simp only [Act.put, zA, zB, zC]
     refine zU 21 44 rfl (by kernel_rfl) (by kernel_rfl) (by kernel_rfl) (fun _ _ _ h => h) (by rfl) hHeld ?_
     try simp only [Act.put, zA, zB, zC]
     refine zU 22 45 rfl (by kernel_rfl) (by kernel_rfl) (by kernel_rfl) (fun _ _ _ h => h) (by rfl) hHeld ?_
     try simp only [Act.put, zA, zB, zC]
     refine zU 23 46 rfl (by kernel_rfl) (by kernel_rfl) (by kernel_rfl) (fun _ _ _ h => h) (by rfl) hHeld ?_
     try simp only [Act.put, zA, zB, zC]
     refine zU 24 47 rfl (by kernel_rfl) (by kernel_rfl) (by kernel_rfl) (fun _ _ _ h => h) (by rfl) hHeld ?_
     try simp only [Act.put, zA, zB, zC]
     refine zU 25 48 rfl (by kernel_rfl) (by kernel_rfl) (by kernel_rfl) (fun _ _ _ h => h) (by rfl) hHeld ?_
     try simp only [Act.put, zA, zB, zC]
     refine zU 26 49 rfl (by kernel_rfl) (by kernel_rfl) (by kernel_rfl) (fun _ _ _ h => h) (by rfl) hHeld ?_
     try simp only [Act.put, zA, zB, zC]
     refine zT 27 50 ?_ rfl (by kernel_rfl) (by kernel_rfl) (by kernel_rfl) (fun _ _ _ h => h) (by rfl) ?_ hHeld ?_
     rotate_left
     ·intro W hSw
      go_simp
      try with_reducible rfl
     try simp only [Act.put, zA, zB, zC]
     refine wpAnyH_done (by kernel_rfl) ?_ _
     have HF : Hid ((l.take (k + 1)).filter (belB iss key time) = (l.take k).filter (belB iss key time)) := by show _ = _; rw [HFN.out, bel_nxt hD, if_neg Bool.false_ne_true, List.append_nil]
     have HD : Hid (∃ fpo, Below w.heap.size w w1 /\ OwnS crlKd w1 w.heap.size u9 ((l.take (k + 1)).filter (belB iss key time)) fpo) := ⟨fpo, H.out.1.trans (hHeld.1.mono H.out.1.size), by rw [HF.out]; exact H.out.2.stays hHeld.1⟩
     clear H hHeld HF HFN HSB HCA HOC
     go_wp2_with fail
     go_roundw
     case rel => exact ⟨k + 1, by omega, by go_num, HD.out⟩
     case measure => simp [intOf]; omega
    refine zT 15 38 ?_ rfl (by kernel_rfl) (by kernel_rfl) (by kernel_rfl) (fun _ _ _ h => h) (by rfl) ?_ hHeld ?_
    rotate_left
    ·intro W hSw
     go_simp
     try with_reducible rfl
    try simp only [Act.put, zA, zB, zC]
    refine zT 16 39 ?_ rfl (by kernel_rfl) (by kernel_rfl) (by kernel_rfl) (fun _ _ _ h => h) (by rfl) ?_ hHeld ?_
    rotate_left
    ·intro W hSw
     go_simp
     try with_reducible rfl
    try simp only [Act.put, zA, zB, zC]
    refine zT 17 40 ?_ rfl (by kernel_rfl) (by kernel_rfl) (by kernel_rfl) (fun _ _ _ h => h) (by rfl) ?_ hHeld ?_
    rotate_left
    ·intro W hSw
     have e3 : W.cell? ⟨gx, 3, none⟩ = some (.int .i64 c.nxt) := hSw.2.cell 3
     go_simp
     try with_reducible rfl
    try simp only [Act.put, zA, zB, zC]
    refine zT 18 41 ?_ rfl (by kernel_rfl) (by kernel_rfl) (by kernel_rfl) (fun _ _ _ h => h) (by rfl) ?_ hHeld ?_
    rotate_left
    ·intro W hSw
     go_simp
     try with_reducible rfl
    try simp only [Act.put, zA, zB, zC]
    refine zT 19 42 ?_ rfl (by kernel_rfl) (by kernel_rfl) (by kernel_rfl) (fun _ _ _ h => h) (by rfl) ?_ hHeld ?_
    rotate_left
    ·intro W hSw
     go_simp
     try with_reducible rfl
    try simp only [Act.put, zA, zB, zC]
    refine zT 20 43 ?_ rfl (by kernel_rfl) (by kernel_rfl) (by kernel_rfl) (fun _ _ _ h => h) (by rfl) ?_ hHeld ?_
    rotate_left
    ·intro W hSw
     go_simp
     try with_reducible rfl
    try simp only [Act.put, zA, zB, zC]
    obtain ⟨T, hT⟩ : ∃ T, (⟨((writeI 4 (bodyL c)).getD []).toArray⟩ : ByteArray) = T := ⟨_, rfl⟩
    have HT : Hid ((⟨((writeI 4 (bodyL c)).getD []).toArray⟩ : ByteArray) = T /\ T.size <= 1048576) := ⟨hT, by rw [<- hT]; exact write_small c⟩
    obtain ⟨SG, hSG⟩ : ∃ b, sokB key T c.sig = b := ⟨_, rfl⟩
    have HBL : Hid (belB iss key time c = SG) := by show _ = _; rw [bel_all hA hB hC hD, hT, hSG]
    refine zT 21 44 ?_ rfl (by kernel_rfl) (by kernel_rfl) (by kernel_rfl) (fun _ _ _ h => h) (by rfl) ?_ hHeld ?_
    rotate_left
    ·intro W hSw
     go_simp
     try with_reducible rfl
    try simp only [Act.put, zA, zB, zC]
    refine zT 22 45 ?_ rfl (by kernel_rfl) (by kernel_rfl) (by kernel_rfl) (fun _ _ _ h => h) (by rfl) ?_ hHeld ?_
    rotate_left
    ·intro W hSw
     have e0 : W.cell? ⟨gx, 0, none⟩ = some (.string c.issuer) := hSw.2.cell 0
     have e1 : W.cell? ⟨gx, 1, none⟩ = some (.int .i64 c.num) := hSw.2.cell 1
     have e2 : W.cell? ⟨gx, 2, none⟩ = some (.int .i64 c.ths) := hSw.2.cell 2
     have e3 : W.cell? ⟨gx, 3, none⟩ = some (.int .i64 c.nxt) := hSw.2.cell 3
     have e4 : W.cell? ⟨gx, 4, none⟩ = some (.int .i64 c.bas) := hSw.2.cell 4
     have e5 : W.cell? ⟨gx, 5, none⟩ = some (.slice p1 m1 q1) := hSw.2.cell 5
     have e6 : W.cell? ⟨gx, 6, none⟩ = some (.string c.sig) := hSw.2.cell 6
     go_simp
     try with_reducible rfl
    try simp only [Act.put, zA, zB, zC]
    refine zT 24 47 ?_ rfl (by kernel_rfl) (by kernel_rfl) (by kernel_rfl) (fun _ _ _ h => h) (by rfl) ?_ hHeld ?_
    rotate_left
    ·intro W hSw
     go_simp
     try with_reducible rfl
    try simp only [Act.put, zA, zB, zC]
    refine zT 25 48 ?_ rfl (by kernel_rfl) (by kernel_rfl) (by kernel_rfl) (fun _ _ _ h => h) (by rfl) ?_ hHeld ?_
    rotate_left
    ·intro W hSw
     have e6 : W.cell? ⟨gx, 6, none⟩ = some (.string c.sig) := hSw.2.cell 6
     go_simp
     try with_reducible rfl
    try simp only [Act.put, zA, zB, zC]
    refine wpAnyH_ready (rs := [23]) (by kernel_rfl) (by simp) ?_
    refine AllReadyH.cons (o := ⟨some 46, _, _, _, _, _⟩) rfl (fun K hK => ?_) AllReadyH.nil
    have EQ := specCrlBody_any c (.agg #[.string c.issuer, .int .i64 c.num, .int .i64 c.ths, .int .i64 c.nxt, .int .i64 c.bas, .slice p1 m1 q1, .string c.sig]) w1 HW.out.1 HW.out.2 (HCA.out _ hHeld)
    rw [hT] at EQ
    try unfold clV at EQ
    go_simp
    refine EQ.mono ?_
    rintro e w2 ⟨rfl, hb⟩
    have hS3 := HSB.out _ _ hHeld hb
    clear hb EQ
    refine hK.out _ _ hS3 (fun hHeld => ?_)
    clear hK K hS3
    try simp only [Act.put, zA, zB, zC]
    refine wpAnyH_ready (rs := [26]) (by kernel_rfl) (by simp) ?_
    refine AllReadyH.cons (o := ⟨some 49, _, _, _, _, _⟩) rfl (fun K hK => ?_) AllReadyH.nil
    have EQ := specSok_any key T c.sig w2 HA.out.2.2.2.2.2 HT.out.2 (wtL_parts HW.out.1).2.2
    rw [hSG] at EQ
    try unfold clV at EQ
    go_simp
    refine EQ.mono ?_
    rintro e w3 ⟨rfl, hb⟩
    have hS3 := HSB.out _ _ hHeld hb
    clear hb EQ
    refine hK.out _ _ hS3 (fun hHeld => ?_)
    clear hK K hS3
    try simp only [Act.put, zA, zB, zC]
    refine zT 27 50 ?_ rfl (by kernel_rfl) (by kernel_rfl) (by kernel_rfl) (fun _ _ _ h => h) (by rfl) ?_ hHeld ?_
    rotate_left
    ·intro W hSw
     go_simp
     try with_reducible rfl
    try simp only [Act.put, zA, zB, zC]
    clear hT hSG HT
    cases SG with
    | false =>
     refine wpAnyH_done (by kernel_rfl) ?_ _
     have HF : Hid ((l.take (k + 1)).filter (belB iss key time) = (l.take k).filter (belB iss key time)) := by show _ = _; rw [HFN.out, HBL.out, if_neg Bool.false_ne_true, List.append_nil]
     have HD : Hid (∃ fpo, Below w.heap.size w w3 /\ OwnS crlKd w3 w.heap.size u9 ((l.take (k + 1)).filter (belB iss key time)) fpo) := ⟨fpo, H.out.1.trans (hHeld.1.mono H.out.1.size), by rw [HF.out]; exact H.out.2.stays hHeld.1⟩
     clear H hHeld HF HFN HSB HCA HOC
     go_wp2_with fail
     go_roundw
     case rel => exact ⟨k + 1, by omega, by go_num, HD.out⟩
     case measure => simp [intOf]; omega
    | true =>
     refine wpAnyH_done (by kernel_rfl) ?_ _
     have HF : Hid ((l.take (k + 1)).filter (belB iss key time) = (l.take k).filter (belB iss key time) ++ [c]) := by show _ = _; rw [HFN.out, HBL.out, if_pos rfl]
     have HL0 : Hid (((l.take k).filter (belB iss key time)).length <= 1048576) := by show _ <= _; have h1 := List.length_filter_le (belB iss key time) (l.take k); have h2 := List.length_take_le k l; omega
     obtain ⟨LF, hLF⟩ : ∃ q, (l.take k).filter (belB iss key time) = q := ⟨_, rfl⟩
     rw [hLF] at HF HL0 H
     clear hLF HFN HBL
     obtain ⟨va, vc, hvo, -⟩ := H.out.2.shape
     obtain ⟨ln, hln⟩ : ∃ q, LF.length = q := ⟨_, rfl⟩
     rw [hln] at hvo
     subst hvo
     have HX : Hid (CS wr w3 gx #[.string c.issuer, .int .i64 c.num, .int .i64 c.ths, .int .i64 c.nxt, .int .i64 c.bas, .slice p1 m1 q1, .string c.sig]) := hHeld
     have EC := crlCopy_any c (.agg #[.string c.issuer, .int .i64 c.num, .int .i64 c.ths, .int .i64 c.nxt, .int .i64 c.bas, .slice p1 m1 q1, .string c.sig]) bs w3 (by have := (wtL_parts HW.out.1).2.1; omega) (HOC.out.stays hHeld.1)
     have e0 : w3.cell? ⟨gx, 0, none⟩ = some (.string c.issuer) := HX.out.2.cell 0
     have e1 : w3.cell? ⟨gx, 1, none⟩ = some (.int .i64 c.num) := HX.out.2.cell 1
     have e2 : w3.cell? ⟨gx, 2, none⟩ = some (.int .i64 c.ths) := HX.out.2.cell 2
     have e3 : w3.cell? ⟨gx, 3, none⟩ = some (.int .i64 c.nxt) := HX.out.2.cell 3
     have e4 : w3.cell? ⟨gx, 4, none⟩ = some (.int .i64 c.bas) := HX.out.2.cell 4
     have e5 : w3.cell? ⟨gx, 5, none⟩ = some (.slice p1 m1 q1) := HX.out.2.cell 5
     have e6 : w3.cell? ⟨gx, 6, none⟩ = some (.string c.sig) := HX.out.2.cell 6
     clear hHeld
     go_wp2_with fail
     refine EC.mono ?_
     rintro e w5 ⟨u5, rfl, ⟨p5, rfl, ho5⟩, hb5⟩
     obtain ⟨qa, qc, hq5, -, -, -⟩ := OwnR.shape ho5
     subst hq5
     have H5 : Hid ((Below w.heap.size w w5 /\ OwnS crlKd w5 w.heap.size (.slice va ln vc) LF fpo) /\ OwnL w5 w.heap.size (clV c (.slice qa c.revs.length qc)) c /\ (∀ b ∈ fpL (clV c (.slice qa c.revs.length qc)), b ∉ fpo) /\ w.heap.size <= w5.heap.size) := by
      have hb : Below wr.heap.size wr w5 := HX.out.1.trans (hb5.mono HX.out.1.size)
      have h1 := H.out.1.size
      have h2 := HX.out.1.size
      refine ⟨⟨H.out.1.trans (hb.mono H.out.1.size), H.out.2.stays hb⟩, ⟨_, rfl, OwnR.base ho5 (by omega)⟩, fun b hb1 hm => ?_, by have := hb5.size; omega⟩
      have h3 := (H.out.2.lt b hm).2
      have h4 := (World.ownsRow.lt ho5 b (fpL_mem.1 hb1)).1
      omega
     clear EC ho5 hb5 H HX e0 e1 e2 e3 e4 e5 e6
     unfold clV
     go_wp2_with (at_builtin; refine wpList_append_crl rfl _ _ rfl w.heap.size (.slice va ln vc) LF fpo c (.slice qa c.revs.length qc) rfl _ rfl rfl H5.out.1.2 H5.out.2.1 H5.out.2.2.1 H5.out.2.2.2 (by have := HL0.out; omega) ?_)
     intro g9 cap9 w9 fp9 hO9 hb9
     have HD : Hid (∃ fpo, Below w.heap.size w w9 /\ OwnS crlKd w9 w.heap.size (.slice (some ⟨g9, 0, none⟩) (ln + 1) cap9) ((l.take (k + 1)).filter (belB iss key time)) fpo) := ⟨fp9, H5.out.1.1.trans hb9, by rw [HF.out]; first | exact hO9 | (have h := hO9; rw [List.length_append, hln] at h; exact h)⟩
     clear hO9 hb9 H5 HF
     go_wp2_with fail
     go_roundw
     case rel => exact ⟨k + 1, by omega, by go_num, HD.out⟩
     case measure => simp [intOf]; omega
  ·have hki : ¬ (k : Int) < (n : Int) := by omega
   have hkl : k = n := by omega
   subst hkl
   have HF : Hid ((l.take k).filter (belB iss key time) = l.filter (belB iss key time)) := by show _ = _; rw [List.take_of_length_le (by rw [HA.out.2.1]; exact Nat.le_refl _)]
   go_wp2_with fail
   go_ret
   exact ⟨_, fpo, rfl, by rw [<- HF.out]; exact H.out.2, H.out.1⟩
end Go.Proofs.YtjgbmnhoajiabaaGreatDoor
namespace Go.Proofs.YtjgbmnhoajiabaaGreatDoor
open Go.RowKit Go.Maps Der
set_option linter.unusedVariables false
set_option linter.unusedSimpArgs false
set_option maxHeartbeats 12800000 in
theorem specStatusOf_any (l : List Cl) (v : Value) (ct : Ct) (cp ce cd : Value) (key : ByteArray) (time : Int) (bs : Nat) (fp : List Nat) (w : World) (hl : wtS l <= 1048576) (hwd : ∀ c ∈ l, WdL c) (hk : key.size <= 1048576) (hs : -9223372036854775808 <= ct.serial /\ ct.serial <= 9223372036854775807) (ha : OwnS crlKd w bs v l fp) :
  Calls Tryz.prog 52 #[v, ctV ct cp ce cd, .string key, .int .i64 time] w fun e w' => e = .returned (.tuple #[.int .i64 (stB (l.filter (belB ct.issuer key time)) ct.serial).1, .int .i64 (stB (l.filter (belB ct.issuer key time)) ct.serial).2]) /\ Below w.heap.size w w' := by
 obtain ⟨told, htold⟩ : ∃ t, l.filter (belB ct.issuer key time) = t := ⟨_, rfl⟩
 obtain ⟨S, hS⟩ : ∃ s, ct.serial = s := ⟨_, rfl⟩
 obtain ⟨R1, hR1⟩ : ∃ r, (stB told S).1 = r := ⟨_, rfl⟩
 obtain ⟨R2, hR2⟩ : ∃ r, (stB told S).2 = r := ⟨_, rfl⟩
 have hwt : wtS told <= 1048576 := by rw [<- htold]; exact Nat.le_trans (wtS_filter _ _) hl
 have hok : ∀ c ∈ told, WdL c /\ crlOk c = true := fun c hc => by
  rw [<- htold] at hc
  obtain ⟨h1, h2⟩ := List.mem_filter.1 hc
  refine ⟨hwd c h1, ?_⟩
  cases h : crlOk c with
  | true => rfl
  | false =>
   rw [bel_ok h] at h2
   cases h2
 have HT0 : Hid ((∀ c ∈ told, WdL c /\ crlOk c = true) /\ wtS told <= 1048576) := ⟨hok, hwt⟩
 clear hok
 rw [hS] at hs
 rw [hS, htold, hR1, hR2]
 have HR : Hid ((stB told S).1 = R1 /\ (stB told S).2 = R2) := ⟨hR1, hR2⟩
 obtain ⟨oW, hoW⟩ : ∃ o, nwL wholeB told = o := ⟨_, rfl⟩
 have HOW : Hid (nwL wholeB told = oW) := hoW
 obtain ⟨wh, hwh⟩ : ∃ c, oW.getD zeL = c := ⟨_, rfl⟩
 obtain ⟨kW, hkW⟩ : ∃ b, oW.isSome = b := ⟨_, rfl⟩
 have HWH : Hid (oW.getD zeL = wh /\ oW.isSome = kW /\ wtL wh <= 1048576) := ⟨hwh, hkW, by rw [<- hwh, <- hoW]; exact nw_wt hwt⟩
 obtain ⟨oD, hoD⟩ : ∃ o, nwL (deltaB wh.num) told = o := ⟨_, rfl⟩
 have HOD : Hid (nwL (deltaB wh.num) told = oD) := hoD
 obtain ⟨dl, hdl⟩ : ∃ c, oD.getD zeL = c := ⟨_, rfl⟩
 obtain ⟨kD, hkD⟩ : ∃ b, oD.isSome = b := ⟨_, rfl⟩
 have HDL : Hid (oD.getD zeL = dl /\ oD.isSome = kD /\ wtL dl <= 1048576) := ⟨hdl, hkD, by rw [<- hdl, <- hoD]; exact nw_wt hwt⟩
 have CO : Hid (∀ W : World, Below w.heap.size w W -> Calls Tryz.prog 49 #[v, .string ct.issuer, .string key, .int .i64 time] W fun e w' => ∃ u fq, e = .returned u /\ OwnS crlKd w' W.heap.size u told fq /\ Below W.heap.size W w') := fun W hb => by rw [<- htold]; exact specCrlsOf_any l v ct.issuer key time bs fp W hl hwd hk (ha.stays hb)
 have CW : Hid (∀ (W : World) (b : Nat) (u : Value) (fq : List Nat), OwnS crlKd W b u told fq -> Calls Tryz.prog 149 #[u] W fun e w' => ∃ u, e = .returned (.tuple #[u, .bool kW]) /\ OwnL w' W.heap.size u wh /\ Below W.heap.size W w') := fun W b u fq h => (specWholeOf_any told u b fq W (by omega) h).mono fun e w' h => by
  obtain ⟨u, h1, h2, h3⟩ := h
  rw [hoW, hwh] at h2
  rw [hoW, hkW] at h1
  exact ⟨u, h1, h2, h3⟩
 have CD : Hid (∀ (W : World) (b : Nat) (u p : Value) (fq : List Nat), OwnS crlKd W b u told fq -> Calls Tryz.prog 55 #[u, clV wh p] W fun e w' => ∃ u, e = .returned (.tuple #[u, .bool kD]) /\ OwnL w' W.heap.size u dl /\ Below W.heap.size W w') := fun W b u p fq h => (specDeltaOf_any told u wh p b fq W (by omega) h).mono fun e w' h => by
  obtain ⟨u, h1, h2, h3⟩ := h
  rw [hoD, hdl] at h2
  rw [hoD, hkD] at h1
  exact ⟨u, h1, h2, h3⟩
 have HSX : Hid (-9223372036854775808 <= S /\ S <= 9223372036854775807) := hs
 unfold ctV
 rw [hS]
 clear hR1 hR2 hoW hwh hkW hoD hdl hkD hwt htold hS hl hwd hk hs ha
 obtain ⟨W1, hW1⟩ : ∃ V, V = w.alloc (Obj.cells #[.int .i64 S, .string ct.issuer, .string ct.subject, .int .i64 ct.frm, .int .i64 ct.upto, .string ct.key, .bool ct.ca, .int .i64 ct.pathLen, .int .i64 ct.usage, cp, ce, cd, .string ct.sig] 27) := ⟨_, rfl⟩
 have HA0 : Hid ((Below w.heap.size w W1 /\ Blk W1 w.heap.size 27 #[.int .i64 S, .string ct.issuer, .string ct.subject, .int .i64 ct.frm, .int .i64 ct.upto, .string ct.key, .bool ct.ca, .int .i64 ct.pathLen, .int .i64 ct.usage, cp, ce, cd, .string ct.sig]) /\ W1.heap.size = w.heap.size + 1) := ⟨by rw [hW1]; exact ⟨(Below.refl _ _).alloc (Nat.le_refl _) _, Blk.new _ _ _⟩, by rw [hW1]; exact size_alloc _ _⟩
 go_enter Tryz.func52, Tryz.ntmps52
 go_upto_region 1 with fail
 rw [<- hW1]
 clear hW1
 have HB : Hid (Below w.heap.size w W1) := HA0.out.1.1
 have HA : Hid (Blk W1 w.heap.size 27 #[.int .i64 S, .string ct.issuer, .string ct.subject, .int .i64 ct.frm, .int .i64 ct.upto, .string ct.key, .bool ct.ca, .int .i64 ct.pathLen, .int .i64 ct.usage, cp, ce, cd, .string ct.sig]) := HA0.out.1.2
 have O0 : Hid (W1.heap.size = w.heap.size + 1) := HA0.out.2
 clear HA0
 have i1 : W1.cell? ⟨w.heap.size, 1, none⟩ = some (.string ct.issuer) := HA.out.cell 1
 go_wp2_with fail
 clear i1
 refine (CO.out W1 HB.out).mono ?_
 rintro e w2 ⟨uT, fpT, rfl, ho, hb⟩
 have HBn : Hid (Below w.heap.size w w2) := Below.on HB.out hb HB.out.size
 clear HB
 have HB := HBn
 clear HBn
 have HAn : Hid (Blk w2 w.heap.size 27 #[.int .i64 S, .string ct.issuer, .string ct.subject, .int .i64 ct.frm, .int .i64 ct.upto, .string ct.key, .bool ct.ca, .int .i64 ct.pathLen, .int .i64 ct.usage, cp, ce, cd, .string ct.sig]) := HA.out.below hb HA.out.lt
 clear HA
 have HA := HAn
 clear HAn
 have O1 : Hid (W1.heap.size <= w2.heap.size) := hb.size
 have LT : Hid (∀ b ∈ fpT, W1.heap.size <= b /\ b < w2.heap.size) := ho.lt
 have HT : Hid (OwnS crlKd w2 W1.heap.size uT told fpT) := ho
 clear ho hb
 go_wp2_with fail
 refine (CW.out w2 _ _ _ HT.out).mono ?_
 rintro e w3 ⟨uW, rfl, ho, hb⟩
 have HBn : Hid (Below w.heap.size w w3) := Below.on HB.out hb HB.out.size
 clear HB
 have HB := HBn
 clear HBn
 have HAn : Hid (Blk w3 w.heap.size 27 #[.int .i64 S, .string ct.issuer, .string ct.subject, .int .i64 ct.frm, .int .i64 ct.upto, .string ct.key, .bool ct.ca, .int .i64 ct.pathLen, .int .i64 ct.usage, cp, ce, cd, .string ct.sig]) := HA.out.below hb HA.out.lt
 clear HA
 have HA := HAn
 clear HAn
 have HTn : Hid (OwnS crlKd w3 W1.heap.size uT told fpT) := HT.out.stays hb
 clear HT
 have HT := HTn
 clear HTn
 have O2 : Hid (w2.heap.size <= w3.heap.size) := hb.size
 obtain ⟨pW, qW, huW⟩ := ClAt.shape ho.at
 subst huW
 unfold clV at ho |-
 have LW : Hid (∀ b ∈ fpL (.agg #[.string wh.issuer, .int .i64 wh.num, .int .i64 wh.ths, .int .i64 wh.nxt, .int .i64 wh.bas, .slice pW wh.revs.length qW, .string wh.sig]), w2.heap.size <= b /\ b < w3.heap.size) := fpL_lt ho
 have HW : Hid (OwnL w3 w2.heap.size (.agg #[.string wh.issuer, .int .i64 wh.num, .int .i64 wh.ths, .int .i64 wh.nxt, .int .i64 wh.bas, .slice pW wh.revs.length qW, .string wh.sig]) wh) := ho
 clear ho hb
 cases kW with
 | false =>
  have HNW : Hid (nwL wholeB told = none) := by
   show _ = _
   rw [HOW.out]
   have h := HWH.out.2.1
   cases oW with
   | none => rfl
   | some x => cases h
  go_wp2_with fail
  obtain ⟨W4, hW4⟩ : ∃ W, W = w3.alloc (Obj.cells #[.string wh.issuer, .int .i64 wh.num, .int .i64 wh.ths, .int .i64 wh.nxt, .int .i64 wh.bas, .slice pW wh.revs.length qW, .string wh.sig] 49) := ⟨_, rfl⟩
  rw [<- hW4]
  have hbW4 : Below w3.heap.size w3 W4 := by rw [hW4]; exact (Below.refl _ _).alloc (Nat.le_refl _) _
  have HBn : Hid (Below w.heap.size w W4) := Below.on HB.out hbW4 HB.out.size
  clear HB
  have HB := HBn
  clear HBn
  have HAn : Hid (Blk W4 w.heap.size 27 #[.int .i64 S, .string ct.issuer, .string ct.subject, .int .i64 ct.frm, .int .i64 ct.upto, .string ct.key, .bool ct.ca, .int .i64 ct.pathLen, .int .i64 ct.usage, cp, ce, cd, .string ct.sig]) := HA.out.below hbW4 HA.out.lt
  clear HA
  have HA := HAn
  clear HAn
  have HTn : Hid (OwnS crlKd W4 W1.heap.size uT told fpT) := HT.out.stays hbW4
  clear HT
  have HT := HTn
  clear HTn
  have HWn : Hid (OwnL W4 w2.heap.size (.agg #[.string wh.issuer, .int .i64 wh.num, .int .i64 wh.ths, .int .i64 wh.nxt, .int .i64 wh.bas, .slice pW wh.revs.length qW, .string wh.sig]) wh) := HW.out.stays hbW4
  clear HW
  have HW := HWn
  clear HWn
  have O3 : Hid (w3.heap.size <= W4.heap.size) := hbW4.size
  have VW : Hid (Blk W4 w3.heap.size 49 #[.string wh.issuer, .int .i64 wh.num, .int .i64 wh.ths, .int .i64 wh.nxt, .int .i64 wh.bas, .slice pW wh.revs.length qW, .string wh.sig]) := by rw [hW4]; exact Blk.new w3 _ _
  have O4 : Hid (W4.heap.size = w3.heap.size + 1) := by rw [hW4]; exact size_alloc _ _
  clear hW4 hbW4
  have HQ : Hid (R1 = 3 /\ R2 = 0) := by
   have h := HR.out
   rw [st_none HNW.out] at h
   exact ⟨h.1.symm, h.2.symm⟩
  go_wp2_with fail
  go_ret2
  exact ⟨by rw [HQ.out.1, HQ.out.2]; rfl, HB.out⟩
 | true =>
  have HNW : Hid (nwL wholeB told = some wh) := by
   show _ = _
   rw [HOW.out]
   have h := HWH.out
   cases oW with
   | none => cases h.2.1
   | some x => rw [<- h.1]; rfl
  go_wp2_with fail
  obtain ⟨W4, hW4⟩ : ∃ W, W = w3.alloc (Obj.cells #[.string wh.issuer, .int .i64 wh.num, .int .i64 wh.ths, .int .i64 wh.nxt, .int .i64 wh.bas, .slice pW wh.revs.length qW, .string wh.sig] 49) := ⟨_, rfl⟩
  rw [<- hW4]
  have hbW4 : Below w3.heap.size w3 W4 := by rw [hW4]; exact (Below.refl _ _).alloc (Nat.le_refl _) _
  have HBn : Hid (Below w.heap.size w W4) := Below.on HB.out hbW4 HB.out.size
  clear HB
  have HB := HBn
  clear HBn
  have HAn : Hid (Blk W4 w.heap.size 27 #[.int .i64 S, .string ct.issuer, .string ct.subject, .int .i64 ct.frm, .int .i64 ct.upto, .string ct.key, .bool ct.ca, .int .i64 ct.pathLen, .int .i64 ct.usage, cp, ce, cd, .string ct.sig]) := HA.out.below hbW4 HA.out.lt
  clear HA
  have HA := HAn
  clear HAn
  have HTn : Hid (OwnS crlKd W4 W1.heap.size uT told fpT) := HT.out.stays hbW4
  clear HT
  have HT := HTn
  clear HTn
  have HWn : Hid (OwnL W4 w2.heap.size (.agg #[.string wh.issuer, .int .i64 wh.num, .int .i64 wh.ths, .int .i64 wh.nxt, .int .i64 wh.bas, .slice pW wh.revs.length qW, .string wh.sig]) wh) := HW.out.stays hbW4
  clear HW
  have HW := HWn
  clear HWn
  have O3 : Hid (w3.heap.size <= W4.heap.size) := hbW4.size
  have VW : Hid (Blk W4 w3.heap.size 49 #[.string wh.issuer, .int .i64 wh.num, .int .i64 wh.ths, .int .i64 wh.nxt, .int .i64 wh.bas, .slice pW wh.revs.length qW, .string wh.sig]) := by rw [hW4]; exact Blk.new w3 _ _
  have O4 : Hid (W4.heap.size = w3.heap.size + 1) := by rw [hW4]; exact size_alloc _ _
  clear hW4 hbW4
  have c0 : W4.cell? ⟨w3.heap.size, 0, none⟩ = some (.string wh.issuer) := VW.out.cell 0
  have c1 : W4.cell? ⟨w3.heap.size, 1, none⟩ = some (.int .i64 wh.num) := VW.out.cell 1
  have c2 : W4.cell? ⟨w3.heap.size, 2, none⟩ = some (.int .i64 wh.ths) := VW.out.cell 2
  have c3 : W4.cell? ⟨w3.heap.size, 3, none⟩ = some (.int .i64 wh.nxt) := VW.out.cell 3
  have c4 : W4.cell? ⟨w3.heap.size, 4, none⟩ = some (.int .i64 wh.bas) := VW.out.cell 4
  have c5 : W4.cell? ⟨w3.heap.size, 5, none⟩ = some (.slice pW wh.revs.length qW) := VW.out.cell 5
  have c6 : W4.cell? ⟨w3.heap.size, 6, none⟩ = some (.string wh.sig) := VW.out.cell 6
  go_wp2_with fail
  clear c0 c1 c2 c3 c4 c5 c6
  refine (CD.out W4 _ _ _ _ HT.out).mono ?_
  rintro e w5 ⟨uD, rfl, ho, hb⟩
  have HBn : Hid (Below w.heap.size w w5) := Below.on HB.out hb HB.out.size
  clear HB
  have HB := HBn
  clear HBn
  have HAn : Hid (Blk w5 w.heap.size 27 #[.int .i64 S, .string ct.issuer, .string ct.subject, .int .i64 ct.frm, .int .i64 ct.upto, .string ct.key, .bool ct.ca, .int .i64 ct.pathLen, .int .i64 ct.usage, cp, ce, cd, .string ct.sig]) := HA.out.below hb HA.out.lt
  clear HA
  have HA := HAn
  clear HAn
  have HTn : Hid (OwnS crlKd w5 W1.heap.size uT told fpT) := HT.out.stays hb
  clear HT
  have HT := HTn
  clear HTn
  have HWn : Hid (OwnL w5 w2.heap.size (.agg #[.string wh.issuer, .int .i64 wh.num, .int .i64 wh.ths, .int .i64 wh.nxt, .int .i64 wh.bas, .slice pW wh.revs.length qW, .string wh.sig]) wh) := HW.out.stays hb
  clear HW
  have HW := HWn
  clear HWn
  have VWn : Hid (Blk w5 w3.heap.size 49 #[.string wh.issuer, .int .i64 wh.num, .int .i64 wh.ths, .int .i64 wh.nxt, .int .i64 wh.bas, .slice pW wh.revs.length qW, .string wh.sig]) := VW.out.below hb VW.out.lt
  clear VW
  have VW := VWn
  clear VWn
  have O5 : Hid (W4.heap.size <= w5.heap.size) := hb.size
  obtain ⟨pD, qD, huD⟩ := ClAt.shape ho.at
  subst huD
  unfold clV at ho |-
  have LD : Hid (∀ b ∈ fpL (.agg #[.string dl.issuer, .int .i64 dl.num, .int .i64 dl.ths, .int .i64 dl.nxt, .int .i64 dl.bas, .slice pD dl.revs.length qD, .string dl.sig]), W4.heap.size <= b /\ b < w5.heap.size) := fpL_lt ho
  have HD : Hid (OwnL w5 W4.heap.size (.agg #[.string dl.issuer, .int .i64 dl.num, .int .i64 dl.ths, .int .i64 dl.nxt, .int .i64 dl.bas, .slice pD dl.revs.length qD, .string dl.sig]) dl) := ho
  clear ho hb
  cases kD with
  | false =>
   have HND : Hid (nwL (deltaB wh.num) told = none) := by
    show _ = _
    rw [HOD.out]
    have h := HDL.out.2.1
    cases oD with
    | none => rfl
    | some x => cases h
   have c0 := fun o => (show (w5.alloc o).cell? ⟨w3.heap.size, 0, none⟩ = some (.string wh.issuer) from (VW.out.alloc o).cell 0)
   have c1 := fun o => (show (w5.alloc o).cell? ⟨w3.heap.size, 1, none⟩ = some (.int .i64 wh.num) from (VW.out.alloc o).cell 1)
   have c2 := fun o => (show (w5.alloc o).cell? ⟨w3.heap.size, 2, none⟩ = some (.int .i64 wh.ths) from (VW.out.alloc o).cell 2)
   have c3 := fun o => (show (w5.alloc o).cell? ⟨w3.heap.size, 3, none⟩ = some (.int .i64 wh.nxt) from (VW.out.alloc o).cell 3)
   have c4 := fun o => (show (w5.alloc o).cell? ⟨w3.heap.size, 4, none⟩ = some (.int .i64 wh.bas) from (VW.out.alloc o).cell 4)
   have c5 := fun o => (show (w5.alloc o).cell? ⟨w3.heap.size, 5, none⟩ = some (.slice pW wh.revs.length qW) from (VW.out.alloc o).cell 5)
   have c6 := fun o => (show (w5.alloc o).cell? ⟨w3.heap.size, 6, none⟩ = some (.string wh.sig) from (VW.out.alloc o).cell 6)
   have i0 := fun o => (show (w5.alloc o).cell? ⟨w.heap.size, 0, none⟩ = some (.int .i64 S) from (HA.out.alloc o).cell 0)
   go_wp2_with fail
   clear c0 c1 c2 c3 c4 c5 c6 i0
   obtain ⟨W6, hW6⟩ : ∃ W, W = w5.alloc (Obj.cells #[.string dl.issuer, .int .i64 dl.num, .int .i64 dl.ths, .int .i64 dl.nxt, .int .i64 dl.bas, .slice pD dl.revs.length qD, .string dl.sig] 49) := ⟨_, rfl⟩
   rw [<- hW6]
   have hbW6 : Below w5.heap.size w5 W6 := by rw [hW6]; exact (Below.refl _ _).alloc (Nat.le_refl _) _
   have HBn : Hid (Below w.heap.size w W6) := Below.on HB.out hbW6 HB.out.size
   clear HB
   have HB := HBn
   clear HBn
   have HAn : Hid (Blk W6 w.heap.size 27 #[.int .i64 S, .string ct.issuer, .string ct.subject, .int .i64 ct.frm, .int .i64 ct.upto, .string ct.key, .bool ct.ca, .int .i64 ct.pathLen, .int .i64 ct.usage, cp, ce, cd, .string ct.sig]) := HA.out.below hbW6 HA.out.lt
   clear HA
   have HA := HAn
   clear HAn
   have HTn : Hid (OwnS crlKd W6 W1.heap.size uT told fpT) := HT.out.stays hbW6
   clear HT
   have HT := HTn
   clear HTn
   have HWn : Hid (OwnL W6 w2.heap.size (.agg #[.string wh.issuer, .int .i64 wh.num, .int .i64 wh.ths, .int .i64 wh.nxt, .int .i64 wh.bas, .slice pW wh.revs.length qW, .string wh.sig]) wh) := HW.out.stays hbW6
   clear HW
   have HW := HWn
   clear HWn
   have VWn : Hid (Blk W6 w3.heap.size 49 #[.string wh.issuer, .int .i64 wh.num, .int .i64 wh.ths, .int .i64 wh.nxt, .int .i64 wh.bas, .slice pW wh.revs.length qW, .string wh.sig]) := VW.out.below hbW6 VW.out.lt
   clear VW
   have VW := VWn
   clear VWn
   have HDn : Hid (OwnL W6 W4.heap.size (.agg #[.string dl.issuer, .int .i64 dl.num, .int .i64 dl.ths, .int .i64 dl.nxt, .int .i64 dl.bas, .slice pD dl.revs.length qD, .string dl.sig]) dl) := HD.out.stays hbW6
   clear HD
   have HD := HDn
   clear HDn
   have O6 : Hid (w5.heap.size <= W6.heap.size) := hbW6.size
   have VD : Hid (Blk W6 w5.heap.size 49 #[.string dl.issuer, .int .i64 dl.num, .int .i64 dl.ths, .int .i64 dl.nxt, .int .i64 dl.bas, .slice pD dl.revs.length qD, .string dl.sig]) := by rw [hW6]; exact Blk.new w5 _ _
   have O7 : Hid (W6.heap.size = w5.heap.size + 1) := by rw [hW6]; exact size_alloc _ _
   clear hW6 hbW6
   obtain ⟨q, hq⟩ : ∃ q, listedL wh.revs S = q := ⟨_, rfl⟩
   have Hq : Hid (listedL wh.revs S = q) := hq
   have EL := specListed_any wh (.agg #[.string wh.issuer, .int .i64 wh.num, .int .i64 wh.ths, .int .i64 wh.nxt, .int .i64 wh.bas, .slice pW wh.revs.length qW, .string wh.sig]) S W6 (Nat.le_trans HWH.out.2.2 (by decide)) HW.out.at
   rw [hq] at EL
   clear hq
   refine (EL).mono ?_
   rintro e w7 ⟨rfl, hb⟩
   have HBn : Hid (Below w.heap.size w w7) := Below.on HB.out hb HB.out.size
   clear HB
   have HB := HBn
   clear HBn
   have HAn : Hid (Blk w7 w.heap.size 27 #[.int .i64 S, .string ct.issuer, .string ct.subject, .int .i64 ct.frm, .int .i64 ct.upto, .string ct.key, .bool ct.ca, .int .i64 ct.pathLen, .int .i64 ct.usage, cp, ce, cd, .string ct.sig]) := HA.out.below hb HA.out.lt
   clear HA
   have HA := HAn
   clear HAn
   have HTn : Hid (OwnS crlKd w7 W1.heap.size uT told fpT) := HT.out.stays hb
   clear HT
   have HT := HTn
   clear HTn
   have HWn : Hid (OwnL w7 w2.heap.size (.agg #[.string wh.issuer, .int .i64 wh.num, .int .i64 wh.ths, .int .i64 wh.nxt, .int .i64 wh.bas, .slice pW wh.revs.length qW, .string wh.sig]) wh) := HW.out.stays hb
   clear HW
   have HW := HWn
   clear HWn
   have VWn : Hid (Blk w7 w3.heap.size 49 #[.string wh.issuer, .int .i64 wh.num, .int .i64 wh.ths, .int .i64 wh.nxt, .int .i64 wh.bas, .slice pW wh.revs.length qW, .string wh.sig]) := VW.out.below hb VW.out.lt
   clear VW
   have VW := VWn
   clear VWn
   have HDn : Hid (OwnL w7 W4.heap.size (.agg #[.string dl.issuer, .int .i64 dl.num, .int .i64 dl.ths, .int .i64 dl.nxt, .int .i64 dl.bas, .slice pD dl.revs.length qD, .string dl.sig]) dl) := HD.out.stays hb
   clear HD
   have HD := HDn
   clear HDn
   have VDn : Hid (Blk w7 w5.heap.size 49 #[.string dl.issuer, .int .i64 dl.num, .int .i64 dl.ths, .int .i64 dl.nxt, .int .i64 dl.bas, .slice pD dl.revs.length qD, .string dl.sig]) := VD.out.below hb VD.out.lt
   clear VD
   have VD := VDn
   clear VDn
   have O8 : Hid (W6.heap.size <= w7.heap.size) := hb.size
   clear hb EL
   by_cases hq0 : q = 0
   ·have hqb : (q != 0) = false := by rw [hq0]; rfl
    have HQ : Hid (R1 = 1 /\ R2 = 0) := by
     have h := HR.out
     rw [st_base HNW.out HND.out, base_no (by rw [Hq.out]; exact hq0)] at h
     exact ⟨h.1.symm, h.2.symm⟩
    go_wp2_with fail
    go_ret2
    exact ⟨by rw [HQ.out.1, HQ.out.2]; rfl, HB.out⟩
   ·have hqb : (q != 0) = true := bne_iff_ne.2 hq0
    have HQ : Hid (R1 = 2 /\ R2 = q) := by
     have h := HR.out
     rw [st_base HNW.out HND.out, base_yes (by rw [Hq.out]; exact hq0), Hq.out] at h
     exact ⟨h.1.symm, h.2.symm⟩
    go_wp2_with fail
    go_ret2
    exact ⟨by rw [HQ.out.1, HQ.out.2]; rfl, HB.out⟩
  | true =>
   have HND : Hid (nwL (deltaB wh.num) told = some dl) := by
    show _ = _
    rw [HOD.out]
    have h := HDL.out
    cases oD with
    | none => cases h.2.1
    | some x => rw [<- h.1]; rfl
   have i0 := fun o => (show (w5.alloc o).cell? ⟨w.heap.size, 0, none⟩ = some (.int .i64 S) from (HA.out.alloc o).cell 0)
   go_wp2_with fail
   clear i0
   obtain ⟨W6, hW6⟩ : ∃ W, W = w5.alloc (Obj.cells #[.string dl.issuer, .int .i64 dl.num, .int .i64 dl.ths, .int .i64 dl.nxt, .int .i64 dl.bas, .slice pD dl.revs.length qD, .string dl.sig] 49) := ⟨_, rfl⟩
   rw [<- hW6]
   have hbW6 : Below w5.heap.size w5 W6 := by rw [hW6]; exact (Below.refl _ _).alloc (Nat.le_refl _) _
   have HBn : Hid (Below w.heap.size w W6) := Below.on HB.out hbW6 HB.out.size
   clear HB
   have HB := HBn
   clear HBn
   have HAn : Hid (Blk W6 w.heap.size 27 #[.int .i64 S, .string ct.issuer, .string ct.subject, .int .i64 ct.frm, .int .i64 ct.upto, .string ct.key, .bool ct.ca, .int .i64 ct.pathLen, .int .i64 ct.usage, cp, ce, cd, .string ct.sig]) := HA.out.below hbW6 HA.out.lt
   clear HA
   have HA := HAn
   clear HAn
   have HTn : Hid (OwnS crlKd W6 W1.heap.size uT told fpT) := HT.out.stays hbW6
   clear HT
   have HT := HTn
   clear HTn
   have HWn : Hid (OwnL W6 w2.heap.size (.agg #[.string wh.issuer, .int .i64 wh.num, .int .i64 wh.ths, .int .i64 wh.nxt, .int .i64 wh.bas, .slice pW wh.revs.length qW, .string wh.sig]) wh) := HW.out.stays hbW6
   clear HW
   have HW := HWn
   clear HWn
   have VWn : Hid (Blk W6 w3.heap.size 49 #[.string wh.issuer, .int .i64 wh.num, .int .i64 wh.ths, .int .i64 wh.nxt, .int .i64 wh.bas, .slice pW wh.revs.length qW, .string wh.sig]) := VW.out.below hbW6 VW.out.lt
   clear VW
   have VW := VWn
   clear VWn
   have HDn : Hid (OwnL W6 W4.heap.size (.agg #[.string dl.issuer, .int .i64 dl.num, .int .i64 dl.ths, .int .i64 dl.nxt, .int .i64 dl.bas, .slice pD dl.revs.length qD, .string dl.sig]) dl) := HD.out.stays hbW6
   clear HD
   have HD := HDn
   clear HDn
   have O6 : Hid (w5.heap.size <= W6.heap.size) := hbW6.size
   have VD : Hid (Blk W6 w5.heap.size 49 #[.string dl.issuer, .int .i64 dl.num, .int .i64 dl.ths, .int .i64 dl.nxt, .int .i64 dl.bas, .slice pD dl.revs.length qD, .string dl.sig]) := by rw [hW6]; exact Blk.new w5 _ _
   have O7 : Hid (W6.heap.size = w5.heap.size + 1) := by rw [hW6]; exact size_alloc _ _
   clear hW6 hbW6
   obtain ⟨r, hr⟩ : ∃ q, listedL dl.revs S = q := ⟨_, rfl⟩
   have Hr : Hid (listedL dl.revs S = r) := hr
   have EL := specListed_any dl (.agg #[.string dl.issuer, .int .i64 dl.num, .int .i64 dl.ths, .int .i64 dl.nxt, .int .i64 dl.bas, .slice pD dl.revs.length qD, .string dl.sig]) S W6 (Nat.le_trans HDL.out.2.2 (by decide)) HD.out.at
   rw [hr] at EL
   clear hr
   refine (EL).mono ?_
   rintro e w7 ⟨rfl, hb⟩
   have HBn : Hid (Below w.heap.size w w7) := Below.on HB.out hb HB.out.size
   clear HB
   have HB := HBn
   clear HBn
   have HAn : Hid (Blk w7 w.heap.size 27 #[.int .i64 S, .string ct.issuer, .string ct.subject, .int .i64 ct.frm, .int .i64 ct.upto, .string ct.key, .bool ct.ca, .int .i64 ct.pathLen, .int .i64 ct.usage, cp, ce, cd, .string ct.sig]) := HA.out.below hb HA.out.lt
   clear HA
   have HA := HAn
   clear HAn
   have HTn : Hid (OwnS crlKd w7 W1.heap.size uT told fpT) := HT.out.stays hb
   clear HT
   have HT := HTn
   clear HTn
   have HWn : Hid (OwnL w7 w2.heap.size (.agg #[.string wh.issuer, .int .i64 wh.num, .int .i64 wh.ths, .int .i64 wh.nxt, .int .i64 wh.bas, .slice pW wh.revs.length qW, .string wh.sig]) wh) := HW.out.stays hb
   clear HW
   have HW := HWn
   clear HWn
   have VWn : Hid (Blk w7 w3.heap.size 49 #[.string wh.issuer, .int .i64 wh.num, .int .i64 wh.ths, .int .i64 wh.nxt, .int .i64 wh.bas, .slice pW wh.revs.length qW, .string wh.sig]) := VW.out.below hb VW.out.lt
   clear VW
   have VW := VWn
   clear VWn
   have HDn : Hid (OwnL w7 W4.heap.size (.agg #[.string dl.issuer, .int .i64 dl.num, .int .i64 dl.ths, .int .i64 dl.nxt, .int .i64 dl.bas, .slice pD dl.revs.length qD, .string dl.sig]) dl) := HD.out.stays hb
   clear HD
   have HD := HDn
   clear HDn
   have VDn : Hid (Blk w7 w5.heap.size 49 #[.string dl.issuer, .int .i64 dl.num, .int .i64 dl.ths, .int .i64 dl.nxt, .int .i64 dl.bas, .slice pD dl.revs.length qD, .string dl.sig]) := VD.out.below hb VD.out.lt
   clear VD
   have VD := VDn
   clear VDn
   have O8 : Hid (W6.heap.size <= w7.heap.size) := hb.size
   clear hb EL
   by_cases h8 : r = 8
   ·have h8b : (r == 8) = true := by rw [h8]; rfl
    have HQ : Hid (R1 = 1 /\ R2 = 0) := by
     have h := HR.out
     rw [st_back HNW.out HND.out (by rw [Hr.out]; exact h8)] at h
     exact ⟨h.1.symm, h.2.symm⟩
    go_wp2_with fail
    go_ret2
    exact ⟨by rw [HQ.out.1, HQ.out.2]; rfl, HB.out⟩
   ·skip
    have h8b : (r == 8) = false := beq_eq_false_iff_ne.2 h8
    by_cases h0 : r = 0
    ·have h0b : (r != 0) = false := by rw [h0]; rfl
     obtain ⟨q, hq⟩ : ∃ q, listedL wh.revs S = q := ⟨_, rfl⟩
     have Hq : Hid (listedL wh.revs S = q) := hq
     have EL := specListed_any wh (.agg #[.string wh.issuer, .int .i64 wh.num, .int .i64 wh.ths, .int .i64 wh.nxt, .int .i64 wh.bas, .slice pW wh.revs.length qW, .string wh.sig]) S w7 (Nat.le_trans HWH.out.2.2 (by decide)) HW.out.at
     rw [hq] at EL
     clear hq
     have c0 : w7.cell? ⟨w3.heap.size, 0, none⟩ = some (.string wh.issuer) := VW.out.cell 0
     have c1 : w7.cell? ⟨w3.heap.size, 1, none⟩ = some (.int .i64 wh.num) := VW.out.cell 1
     have c2 : w7.cell? ⟨w3.heap.size, 2, none⟩ = some (.int .i64 wh.ths) := VW.out.cell 2
     have c3 : w7.cell? ⟨w3.heap.size, 3, none⟩ = some (.int .i64 wh.nxt) := VW.out.cell 3
     have c4 : w7.cell? ⟨w3.heap.size, 4, none⟩ = some (.int .i64 wh.bas) := VW.out.cell 4
     have c5 : w7.cell? ⟨w3.heap.size, 5, none⟩ = some (.slice pW wh.revs.length qW) := VW.out.cell 5
     have c6 : w7.cell? ⟨w3.heap.size, 6, none⟩ = some (.string wh.sig) := VW.out.cell 6
     have i0 : w7.cell? ⟨w.heap.size, 0, none⟩ = some (.int .i64 S) := HA.out.cell 0
     go_wp2_with fail
     clear c0 c1 c2 c3 c4 c5 c6 i0
     refine (EL).mono ?_
     rintro e w8 ⟨rfl, hb⟩
     have HBn : Hid (Below w.heap.size w w8) := Below.on HB.out hb HB.out.size
     clear HB
     have HB := HBn
     clear HBn
     have HAn : Hid (Blk w8 w.heap.size 27 #[.int .i64 S, .string ct.issuer, .string ct.subject, .int .i64 ct.frm, .int .i64 ct.upto, .string ct.key, .bool ct.ca, .int .i64 ct.pathLen, .int .i64 ct.usage, cp, ce, cd, .string ct.sig]) := HA.out.below hb HA.out.lt
     clear HA
     have HA := HAn
     clear HAn
     have HTn : Hid (OwnS crlKd w8 W1.heap.size uT told fpT) := HT.out.stays hb
     clear HT
     have HT := HTn
     clear HTn
     have HWn : Hid (OwnL w8 w2.heap.size (.agg #[.string wh.issuer, .int .i64 wh.num, .int .i64 wh.ths, .int .i64 wh.nxt, .int .i64 wh.bas, .slice pW wh.revs.length qW, .string wh.sig]) wh) := HW.out.stays hb
     clear HW
     have HW := HWn
     clear HWn
     have VWn : Hid (Blk w8 w3.heap.size 49 #[.string wh.issuer, .int .i64 wh.num, .int .i64 wh.ths, .int .i64 wh.nxt, .int .i64 wh.bas, .slice pW wh.revs.length qW, .string wh.sig]) := VW.out.below hb VW.out.lt
     clear VW
     have VW := VWn
     clear VWn
     have HDn : Hid (OwnL w8 W4.heap.size (.agg #[.string dl.issuer, .int .i64 dl.num, .int .i64 dl.ths, .int .i64 dl.nxt, .int .i64 dl.bas, .slice pD dl.revs.length qD, .string dl.sig]) dl) := HD.out.stays hb
     clear HD
     have HD := HDn
     clear HDn
     have VDn : Hid (Blk w8 w5.heap.size 49 #[.string dl.issuer, .int .i64 dl.num, .int .i64 dl.ths, .int .i64 dl.nxt, .int .i64 dl.bas, .slice pD dl.revs.length qD, .string dl.sig]) := VD.out.below hb VD.out.lt
     clear VD
     have VD := VDn
     clear VDn
     have O9 : Hid (w7.heap.size <= w8.heap.size) := hb.size
     clear hb EL
     by_cases hq0 : q = 0
     ·have hqb : (q != 0) = false := by rw [hq0]; rfl
      have HQ : Hid (R1 = 1 /\ R2 = 0) := by
       have h := HR.out
       rw [st_skip HNW.out HND.out (by rw [Hr.out]; exact h0), base_no (by rw [Hq.out]; exact hq0)] at h
       exact ⟨h.1.symm, h.2.symm⟩
      go_wp2_with fail
      go_ret2
      exact ⟨by rw [HQ.out.1, HQ.out.2]; rfl, HB.out⟩
     ·have hqb : (q != 0) = true := bne_iff_ne.2 hq0
      have HQ : Hid (R1 = 2 /\ R2 = q) := by
       have h := HR.out
       rw [st_skip HNW.out HND.out (by rw [Hr.out]; exact h0), base_yes (by rw [Hq.out]; exact hq0), Hq.out] at h
       exact ⟨h.1.symm, h.2.symm⟩
      go_wp2_with fail
      go_ret2
      exact ⟨by rw [HQ.out.1, HQ.out.2]; rfl, HB.out⟩
    ·have h0b : (r != 0) = true := bne_iff_ne.2 h0
     have HQ : Hid (R1 = 2 /\ R2 = r) := by
      have h := HR.out
      rw [st_gone HNW.out HND.out (by rw [Hr.out]; exact h8) (by rw [Hr.out]; exact h0), Hr.out] at h
      exact ⟨h.1.symm, h.2.symm⟩
     go_wp2_with fail
     go_ret2
     exact ⟨by rw [HQ.out.1, HQ.out.2]; rfl, HB.out⟩
end Go.Proofs.YtjgbmnhoajiabaaGreatDoor
namespace Go.Proofs.YtjgbmnhoajiabaaGreatDoor
open Go.RowKit
set_option linter.unusedVariables false
set_option linter.unusedSimpArgs false
def OC (w W : World) (cells : Array Value) : Prop := Blk W w.heap.size 49 cells /\ Blk W (w.heap.size + 1) 49 #[.string ⟨#[]⟩, .int .i64 0, .int .i64 0, .int .i64 0, .int .i64 0, .slice none 0 0, .string ⟨#[]⟩] /\ Below w.heap.size w W /\ w.heap.size + 2 <= W.heap.size
theorem OC.below {w W W' : World} {cells : Array Value} (h : OC w W cells) (hb : Below W.heap.size W W') : OC w W' cells :=
 ⟨h.1.below hb h.1.lt, h.2.1.below hb h.2.1.lt, h.2.2.1.trans (hb.mono h.2.2.1.size), Nat.le_trans h.2.2.2 hb.size⟩
theorem OC.set {w W : World} {cells cells' : Array Value} (h : OC w W cells) (j : Nat) (v : Value) (hc : cells.setIfInBounds j v = cells') : OC w (W.setCell ⟨w.heap.size, j, none⟩ v) cells' :=
 ⟨by rw [<- hc]; exact h.1.set j v, h.2.1.other v (by show w.heap.size + 1 ≠ w.heap.size; omega), Below.setCell h.2.2.1 (Nat.le_refl _) _, by have := h.2.2.2; have e := ((Out.refl [w.heap.size] W).setCell ⟨w.heap.size, j, none⟩ v (by simp)).2.2.2.1; omega⟩
theorem OC.grown {w W W' : World} {cells : Array Value} (h : OC w W cells) (hg : W.grownBy W' none) : OC w W' cells :=
 ⟨(hg.block _ h.1.lt (fun e => by cases e)).trans h.1, (hg.block _ h.2.1.lt (fun e => by cases e)).trans h.2.1, h.2.2.1.grown hg h.2.2.1.size (fun b hb => by cases hb), Nat.le_trans h.2.2.2 hg.size⟩
set_option maxHeartbeats 6400000 in
theorem ownCrl_any (c : Cl) (v : Value) (bs : Nat) (w : World) (hl : c.revs.length <= 20000000) (hs1 : c.issuer.size <= 1000000000000) (hs2 : c.sig.size <= 1000000000000) (ha : OwnL w bs v c) :
  Calls Tryz.prog 139 #[v] w fun e w' => ∃ u, e = .returned u /\ OwnL w' w.heap.size u c /\ Below w.heap.size w w' := by
 obtain ⟨pv, rfl, h1⟩ := ha
 obtain ⟨pa, pc, hpv, -, -, -⟩ := OwnR.shape h1
 obtain ⟨lp, hlp⟩ : ∃ l, c.revs.length = l := ⟨_, rfl⟩
 rw [hlp] at hpv
 subst hpv
 have HO : Hid (OwnR w bs (.slice pa lp pc) c.revs /\ c.revs.length = lp /\ c.revs.length <= 20000000) := ⟨h1, hlp, hl⟩
 clear h1 hlp hl
 unfold clV
 obtain ⟨W0, hW0⟩ : ∃ V, V = w.alloc (Obj.cells #[.string c.issuer, .int .i64 c.num, .int .i64 c.ths, .int .i64 c.nxt, .int .i64 c.bas, .slice pa lp pc, .string c.sig] 49) := ⟨_, rfl⟩
 obtain ⟨W2, hW2⟩ : ∃ V, V = W0.alloc (Obj.cells #[.string ⟨#[]⟩, .int .i64 0, .int .i64 0, .int .i64 0, .int .i64 0, .slice none 0 0, .string ⟨#[]⟩] 49) := ⟨_, rfl⟩
 have hs0 : W0.heap.size = w.heap.size + 1 := by rw [hW0]; exact size_alloc _ _
 have H2 : Hid (OC w W2 #[.string c.issuer, .int .i64 c.num, .int .i64 c.ths, .int .i64 c.nxt, .int .i64 c.bas, .slice pa lp pc, .string c.sig]) := by
  have h1 := Blk.new W0 49 #[.string ⟨#[]⟩, .int .i64 0, .int .i64 0, .int .i64 0, .int .i64 0, .slice none 0 0, .string ⟨#[]⟩]
  rw [hs0] at h1
  rw [hW2]
  refine ⟨?_, h1, ?_, by rw [size_alloc]; omega⟩
  ·rw [hW0]
   exact (Blk.new _ _ _).alloc _
  ·rw [hW0]
   exact ((Below.refl _ _).alloc (Nat.le_refl _) _).alloc (by rw [size_alloc]; omega) _
 have wd1 : w.heap.size ≠ w.heap.size + 1 := by omega
 go_enter Tryz.func139, Tryz.ntmps139
 go_upto_region 1 with fail
 rw [<- hW0, <- hW2]
 try rw [hs0]
 clear hW0 hW2 hs0
 have a0 : W2.cell? ⟨w.heap.size, 0, none⟩ = some (.string c.issuer) := H2.out.1.cell 0
 go_wp2_with fail
 refine (cloneB_any c.issuer W2 hs1).mono ?_
 rintro e w3 ⟨rfl, hb3⟩
 have H3 : Hid (OC w w3 #[.string c.issuer, .int .i64 c.num, .int .i64 c.ths, .int .i64 c.nxt, .int .i64 c.bas, .slice pa lp pc, .string c.sig]) := H2.out.below hb3
 clear H2 hb3 a0
 have a0 : w3.cell? ⟨w.heap.size, 0, none⟩ = some (.string c.issuer) := H3.out.1.cell 0
 have a5 : w3.cell? ⟨w.heap.size, 5, none⟩ = some (.slice pa lp pc) := H3.out.1.cell 5
 have fz := fun i => H3.out.1.free i
 obtain ⟨V3, hV3⟩ : ∃ V, V = w3.setCell ⟨w.heap.size, 0, none⟩ (.string c.issuer) := ⟨_, rfl⟩
 have H4 : Hid (OC w V3 #[.string c.issuer, .int .i64 c.num, .int .i64 c.ths, .int .i64 c.nxt, .int .i64 c.bas, .slice pa lp pc, .string c.sig]) := by rw [hV3]; exact H3.out.set 0 _ rfl
 go_wp2_with (at_builtin; rw [<- hV3]; refine wpList_append_revs rfl _ _ rfl (w.heap.size + 2) (.slice none 0 0) 0 [] rfl (World.ownsRow_nil _ _ _ _) _ c.revs bs (HO.out.1.stays H4.out.2.2.1) rfl (by have := HO.out.2.2; omega) H4.out.2.2.2 ?_)
 intro v9 w9 ho9 hg9
 try rw [<- hV3] at hg9
 have H9 : Hid (OC w w9 #[.string c.issuer, .int .i64 c.num, .int .i64 c.ths, .int .i64 c.nxt, .int .i64 c.bas, .slice pa lp pc, .string c.sig] /\ OwnR w9 (w.heap.size + 2) v9 c.revs) := ⟨H4.out.grown hg9, by simpa [OwnR] using ho9⟩
 clear a0 a5 fz hV3 H3 H4 ho9 hg9
 obtain ⟨qa, qc, hq9, -, -, -⟩ := OwnR.shape H9.out.2
 obtain ⟨ql, hql⟩ : ∃ l, c.revs.length = l := ⟨_, rfl⟩
 rw [hql] at hq9
 clear hql
 subst hq9
 have a5 : w9.cell? ⟨w.heap.size, 5, none⟩ = some (.slice pa lp pc) := H9.out.1.1.cell 5
 have a6 : w9.cell? ⟨w.heap.size, 6, none⟩ = some (.string c.sig) := H9.out.1.1.cell 6
 have fz := fun i => H9.out.1.1.free i
 obtain ⟨V5, hV5⟩ : ∃ V, V = w9.setCell ⟨w.heap.size, 5, none⟩ (.slice qa ql qc) := ⟨_, rfl⟩
 have H5 : Hid (OC w V5 #[.string c.issuer, .int .i64 c.num, .int .i64 c.ths, .int .i64 c.nxt, .int .i64 c.bas, .slice qa ql qc, .string c.sig] /\ OwnR V5 (w.heap.size + 2) (.slice qa ql qc) c.revs) := by
  rw [hV5]
  exact ⟨H9.out.1.set 5 _ rfl, row_same H9.out.2 (fun g hg => heap_setCell_other _ _ _ _ (by have := (World.ownsRow.lt H9.out.2 g hg).1; show g ≠ w.heap.size; omega))⟩
 go_wp2_with fail
 rw [<- hV5]
 clear hV5 a5 a6 fz H9
 refine (cloneB_any c.sig V5 hs2).mono ?_
 rintro e w6 ⟨rfl, hb6⟩
 have H6 : Hid (OC w w6 #[.string c.issuer, .int .i64 c.num, .int .i64 c.ths, .int .i64 c.nxt, .int .i64 c.bas, .slice qa ql qc, .string c.sig] /\ OwnR w6 (w.heap.size + 2) (.slice qa ql qc) c.revs) := ⟨H5.out.1.below hb6, H5.out.2.stays hb6⟩
 clear hb6 H5
 have d0 : w6.cell? ⟨w.heap.size, 0, none⟩ = some (.string c.issuer) := H6.out.1.1.cell 0
 have d1 : w6.cell? ⟨w.heap.size, 1, none⟩ = some (.int .i64 c.num) := H6.out.1.1.cell 1
 have d2 : w6.cell? ⟨w.heap.size, 2, none⟩ = some (.int .i64 c.ths) := H6.out.1.1.cell 2
 have d3 : w6.cell? ⟨w.heap.size, 3, none⟩ = some (.int .i64 c.nxt) := H6.out.1.1.cell 3
 have d4 : w6.cell? ⟨w.heap.size, 4, none⟩ = some (.int .i64 c.bas) := H6.out.1.1.cell 4
 have d5 : w6.cell? ⟨w.heap.size, 5, none⟩ = some (.slice qa ql qc) := H6.out.1.1.cell 5
 have d6 : w6.cell? ⟨w.heap.size, 6, none⟩ = some (.string c.sig) := H6.out.1.1.cell 6
 have b0 : w6.cell? ⟨w.heap.size + 1, 0, none⟩ = some (.string ⟨#[]⟩) := H6.out.1.2.1.cell 0
 have b1 : w6.cell? ⟨w.heap.size + 1, 1, none⟩ = some (.int .i64 0) := H6.out.1.2.1.cell 1
 have b2 : w6.cell? ⟨w.heap.size + 1, 2, none⟩ = some (.int .i64 0) := H6.out.1.2.1.cell 2
 have b3 : w6.cell? ⟨w.heap.size + 1, 3, none⟩ = some (.int .i64 0) := H6.out.1.2.1.cell 3
 have b4 : w6.cell? ⟨w.heap.size + 1, 4, none⟩ = some (.int .i64 0) := H6.out.1.2.1.cell 4
 have b5 : w6.cell? ⟨w.heap.size + 1, 5, none⟩ = some (.slice none 0 0) := H6.out.1.2.1.cell 5
 have b6 : w6.cell? ⟨w.heap.size + 1, 6, none⟩ = some (.string ⟨#[]⟩) := H6.out.1.2.1.cell 6
 have fd := fun i => H6.out.1.1.free i
 have fb := fun i => H6.out.1.2.1.free i
 go_wp2_with fail
 refine bodyPost_ret (v := clV c (.slice qa ql qc)) (by simp [results, Tryz.results139, go_sem, clV, b0, b1, b2, b3, b4, b5, b6]) rfl ⟨_, rfl, ⟨_, rfl, OwnR.base (row_same H6.out.2 ?far) (by omega)⟩, ?bel⟩
 case far =>
  intro b hb
  have h2 := (World.ownsRow.lt H6.out.2 b hb).1
  iterate 8 rw [heap_setCell_other _ _ _ _ (by first | (show b ≠ w.heap.size + 1; omega) | (show b ≠ w.heap.size; omega))]
 case bel =>
  iterate 8 refine Below.setCell ?_ (by first | (show w.heap.size <= w.heap.size + 1; omega) | (show w.heap.size <= w.heap.size; omega)) _
  exact H6.out.1.2.2.1
end Go.Proofs.YtjgbmnhoajiabaaGreatDoor
