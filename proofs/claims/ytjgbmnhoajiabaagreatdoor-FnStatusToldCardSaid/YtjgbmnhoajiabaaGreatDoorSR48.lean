/-
  Texts of the proof.
-/
import Derived.Test.YtjgbmnhoajiabaaGreatDoorSR46
import Derived.Test.YtjgbmnhoajiabaaGreatDoorSR47
set_option maxRecDepth 100000
namespace Go.Proofs.YtjgbmnhoajiabaaGreatDoor
open Go.RowKit Der
set_option linter.unusedVariables false
set_option linter.unusedSimpArgs false
def NS (w W : World) (gx : Nat) (cells : Array Value) : Prop := Below w.heap.size w W /\ Blk W w.heap.size 49 #[.string ⟨#[]⟩, .int .i64 0, .int .i64 0, .int .i64 0, .int .i64 0, .slice none 0 0, .string ⟨#[]⟩] /\ Blk W gx 49 cells
theorem NS.below {w W W' : World} {gx : Nat} {cells : Array Value} (h : NS w W gx cells) (hb : Below W.heap.size W W') : NS w W' gx cells :=
 ⟨h.1.trans (hb.mono h.1.size), h.2.1.below hb h.2.1.lt, h.2.2.below hb h.2.2.lt⟩
theorem wt_parts2 {l : List Cl} {k m : Nat} (h : wtS l <= m) (hk : k < l.length) : (l.getD k zeL).issuer.size <= m /\ (l.getD k zeL).sig.size <= m := by
 rw [List.getD_eq_getElem?_getD, List.getElem?_eq_getElem hk]
 have h1 := wtS_mem (List.getElem_mem hk)
 show l[k].issuer.size <= m /\ l[k].sig.size <= m
 unfold wtL at h1
 omega
theorem whole1_any (c : Cl) (p : Value) (w : World) : Calls Tryz.prog 223 #[clV c p] w fun e w' => e = .returned (.bool (wholeB c)) /\ Below w.heap.size w w' := by
 unfold clV wholeB
 go_enter Tryz.func223, Tryz.ntmps223
 by_cases h : c.bas = 0
 ·have h1 : (c.bas == 0) = true := by rw [h]; rfl
  go_wp2_with fail
  go_ret
  refine ⟨?_, (Below.refl _ _).alloc (Nat.le_refl _) _⟩
  rw [decide_eq_true h]
  rfl
 ·have h1 : (c.bas == 0) = false := beq_eq_false_iff_ne.2 h
  go_wp2_with fail
  go_ret
  refine ⟨?_, (Below.refl _ _).alloc (Nat.le_refl _) _⟩
  rw [decide_eq_false h]
  rfl
set_option maxHeartbeats 3200000 in
theorem delta1_any (c : Cl) (p : Value) (gd : Nat) (wn : Int) (w : World) (hd : w.cell? ⟨gd, 1, none⟩ = some (.int .i64 wn)) : Calls Tryz.prog 151 #[clV c p, .pointer (some ⟨gd, 0, none⟩)] w fun e w' => e = .returned (.bool (deltaB wn c)) /\ Below w.heap.size w w' := by
 obtain ⟨D, hD⟩ : ∃ d, deltaB wn c = d := ⟨_, rfl⟩
 rw [hD]
 have HD : Hid (decide (¬ c.bas = 0 /\ c.bas <= wn /\ wn < c.num) = D) := hD
 clear hD
 have hgd := Below.refl w.heap.size w
 have hlt : gd < w.heap.size := lt_of_cell hd
 unfold clV
 obtain ⟨B, hB⟩ : ∃ b, c.bas = b := ⟨_, rfl⟩
 obtain ⟨N, hN⟩ : ∃ b, c.num = b := ⟨_, rfl⟩
 rw [hB, hN] at HD |-
 clear hB hN
 obtain ⟨V, hV⟩ : ∃ V, V = w.alloc (Obj.cells #[.string c.issuer, .int .i64 N, .int .i64 c.ths, .int .i64 c.nxt, .int .i64 B, p, .string c.sig] 49) := ⟨_, rfl⟩
 have HV : Hid (Below w.heap.size w V) := by rw [hV]; exact (Below.refl _ _).alloc (Nat.le_refl _) _
 have c1 : V.cell? ⟨w.heap.size, 1, none⟩ = some (.int .i64 N) := by rw [hV]; exact (Blk.new _ _ _).cell 1
 have c4 : V.cell? ⟨w.heap.size, 4, none⟩ = some (.int .i64 B) := by rw [hV]; exact (Blk.new _ _ _).cell 4
 have d1 : V.cell? ⟨gd, 1, none⟩ = some (.int .i64 wn) := (HV.out.cell (p := ⟨gd, 1, none⟩) hlt).trans hd
 clear hd hlt hgd
 go_enter Tryz.func151, Tryz.ntmps151
 go_upto_region 1 with fail
 rw [<- hV]
 clear hV
 by_cases hz : B = 0
 ·have hzb : (B != 0) = false := by rw [hz]; rfl
  have HQ : Hid (D = false) := by show D = false; rw [<- HD.out]; exact decide_eq_false (fun q => q.1 hz)
  go_wp2_with fail
  go_ret
  exact ⟨by rw [HQ.out]; rfl, HV.out⟩
 ·have hzb : (B != 0) = true := bne_iff_ne.2 hz
  by_cases h2 : B <= wn
  ·by_cases h3 : wn < N
   ·skip
    have HQ : Hid (D = true) := by show D = true; rw [<- HD.out]; exact decide_eq_true ⟨hz, h2, h3⟩
    go_wp2_with fail
    go_ret
    exact ⟨by rw [HQ.out]; rfl, HV.out⟩
   ·skip
    have HQ : Hid (D = false) := by show D = false; rw [<- HD.out]; exact decide_eq_false (fun q => h3 q.2.2)
    go_wp2_with fail
    go_ret
    exact ⟨by rw [HQ.out]; rfl, HV.out⟩
  ·skip
   have HQ : Hid (D = false) := by show D = false; rw [<- HD.out]; exact decide_eq_false (fun q => h2 q.2.1)
   go_wp2_with fail
   go_ret
   exact ⟨by rw [HQ.out]; rfl, HV.out⟩
set_option maxHeartbeats 12800000 in
theorem newestWhole_any (l : List Cl) (v : Value) (bs : Nat) (fp : List Nat) (w : World) (hl : wtS l <= 20000000) (ha : OwnS crlKd w bs v l fp) :
  Calls Tryz.prog 150 #[v, .func (.func 223) #[] #[]] w fun e w' => NwPost w (nwL wholeB l) e w' := by
 obtain ⟨ao, cap, hv, hg⟩ := ha.row
 obtain ⟨n, hn⟩ : ∃ n, l.length = n := ⟨_, rfl⟩
 rw [hn] at hv hg
 subst hv
 have hn20 : n <= 20000000 := by unfold wtS at hl; omega
 have HA : Hid (OwnS crlKd w bs (.slice ao n cap) l fp /\ l.length = n /\ wtS l <= 20000000 /\ (0 < n -> ∃ g, ao = some ⟨g, 0, none⟩ /\ g < w.heap.size)) := ⟨ha, hn, hl, hg⟩
 clear ha hn hl hg
 have HCL : Hid (∀ (c : Cl) (p : Value) (W : World), Below w.heap.size w W -> Calls Tryz.prog 223 #[clV c p] W fun e w' => e = .returned (.bool (wholeB c)) /\ Below W.heap.size W w') := fun c p W hb => whole1_any c p W
 obtain ⟨oR, hoR⟩ : ∃ r, nwL wholeB l = r := ⟨_, rfl⟩
 have HR : Hid (nwL wholeB l = oR) := hoR
 rw [hoR]
 clear hoR
 obtain ⟨W1, hW1⟩ : ∃ V, V = w.alloc (Obj.cells #[.string ⟨#[]⟩, .int .i64 0, .int .i64 0, .int .i64 0, .int .i64 0, .slice none 0 0, .string ⟨#[]⟩] 49) := ⟨_, rfl⟩
 have H1 : Hid (Below w.heap.size w W1 /\ Blk W1 w.heap.size 49 #[.string ⟨#[]⟩, .int .i64 0, .int .i64 0, .int .i64 0, .int .i64 0, .slice none 0 0, .string ⟨#[]⟩]) := by rw [hW1]; exact ⟨(Below.refl _ _).alloc (Nat.le_refl _) _, Blk.new _ _ _⟩
 go_enter Tryz.func150, Tryz.ntmps150
 go_wp2_with fail
 rw [<- hW1]
 clear hW1
 go_loopw [6, 11] (fun av iv wr => ∃ k : Nat, k <= n /\ iv = .int .i64 k /\ av = .int .i64 (plV (bst wholeB l k)) /\ Hid (Below w.heap.size w wr /\ Blk wr w.heap.size 49 #[.string ⟨#[]⟩, .int .i64 0, .int .i64 0, .int .i64 0, .int .i64 0, .slice none 0 0, .string ⟨#[]⟩])) (fun _ iv _ => n - (intOf iv).toNat)
 case atStart => exact ⟨0, Nat.zero_le _, rfl, rfl, H1.out⟩
 case round =>
  clear H1
  obtain ⟨k, hk, rfl, rfl, H⟩ := hrel
  by_cases hkn : k < n
  ·have hkl : k < l.length := by rw [HA.out.2.1]; exact hkn
   obtain ⟨g, hg, hgw⟩ := HA.out.2.2.2 (by omega)
   subst hg
   obtain ⟨p1, q1, -, hc1⟩ := HA.out.1.one HA.out.2.1.symm hkl
   have hki : (k : Int) < (n : Int) := by omega
   have hk0 : (0 : Int) <= (k : Int) := by omega
   obtain ⟨c, hc⟩ : ∃ c, l.getD k zeL = c := ⟨_, rfl⟩
   rw [hc] at hc1
   obtain ⟨m1, hm1⟩ : ∃ m, c.revs.length = m := ⟨_, rfl⟩
   rw [hm1] at hc1
   have x0 : wr.cell? ⟨g, k * 7, none⟩ = some (.string c.issuer) := (H.out.1.cell (p := ⟨g, k * 7, none⟩) hgw).trans (hc1 0 _ rfl)
   have x1 : wr.cell? ⟨g, k * 7 + 1, none⟩ = some (.int .i64 c.num) := (H.out.1.cell (p := ⟨g, k * 7 + 1, none⟩) hgw).trans (hc1 1 _ rfl)
   have x2 : wr.cell? ⟨g, k * 7 + 2, none⟩ = some (.int .i64 c.ths) := (H.out.1.cell (p := ⟨g, k * 7 + 2, none⟩) hgw).trans (hc1 2 _ rfl)
   have x3 : wr.cell? ⟨g, k * 7 + 3, none⟩ = some (.int .i64 c.nxt) := (H.out.1.cell (p := ⟨g, k * 7 + 3, none⟩) hgw).trans (hc1 3 _ rfl)
   have x4 : wr.cell? ⟨g, k * 7 + 4, none⟩ = some (.int .i64 c.bas) := (H.out.1.cell (p := ⟨g, k * 7 + 4, none⟩) hgw).trans (hc1 4 _ rfl)
   have x5 : wr.cell? ⟨g, k * 7 + 5, none⟩ = some (.slice p1 m1 q1) := (H.out.1.cell (p := ⟨g, k * 7 + 5, none⟩) hgw).trans (hc1 5 _ rfl)
   have x6 : wr.cell? ⟨g, k * 7 + 6, none⟩ = some (.string c.sig) := (H.out.1.cell (p := ⟨g, k * 7 + 6, none⟩) hgw).trans (hc1 6 _ rfl)
   obtain ⟨V, hV⟩ : ∃ V, V = wr.alloc (Obj.cells #[.string c.issuer, .int .i64 c.num, .int .i64 c.ths, .int .i64 c.nxt, .int .i64 c.bas, .slice p1 m1 q1, .string c.sig] 49) := ⟨_, rfl⟩
   obtain ⟨gx, hgx⟩ : ∃ q, wr.heap.size = q := ⟨_, rfl⟩
   have HV : Hid (NS w V gx #[.string c.issuer, .int .i64 c.num, .int .i64 c.ths, .int .i64 c.nxt, .int .i64 c.bas, .slice p1 m1 q1, .string c.sig]) := by
    have hb : Below wr.heap.size wr V := by rw [hV]; exact (Below.refl _ _).alloc (Nat.le_refl _) _
    exact ⟨H.out.1.trans (hb.mono H.out.1.size), H.out.2.below hb H.out.2.lt, by rw [hV, <- hgx]; exact Blk.new _ _ _⟩
   have HBW : Hid (∀ b W, bst wholeB l k = some b -> Below w.heap.size w W -> W.cell? ⟨g, b * 7 + 1, none⟩ = some (.int .i64 (l.getD b zeL).num)) := fun b W hb hW => by
    obtain ⟨p2, q2, -, hc2⟩ := HA.out.1.one HA.out.2.1.symm (show b < l.length by have := bst_lt hb; omega)
    exact (hW.cell (p := ⟨g, b * 7 + 1, none⟩) hgw).trans (hc2 1 _ rfl)
   have HC : Hid (l.getD k zeL = c) := hc
   clear hc1 hm1 hc
   go_upto_region 5 with fail
   rw [<- hV]
   try rw [hgx]
   clear hV hgx x0 x1 x2 x3 x4 x5 x6 H hgw
   have hDr : Below V.heap.size V V.drew := (Below.refl _ _).drew
   refine wp_region_held_drew (S := fun W => NS w W gx #[.string c.issuer, .int .i64 c.num, .int .i64 c.ths, .int .i64 c.nxt, .int .i64 c.bas, .slice p1 m1 q1, .string c.sig]) (by kernel_rfl) (HV.out.below hDr) (fun hHeld => ?_)
   clear hDr HV
   generalize V.drew = wd at hHeld |-
   refine zT 0 16 ?_ rfl (by kernel_rfl) (by kernel_rfl) (by kernel_rfl) (fun _ _ _ h => h) (by rfl) ?_ hHeld ?_
   rotate_left
   ·intro W hSw
    go_simp
    try with_reducible rfl
   try simp only [Act.put, zA, zB, zC]
   refine zT 1 17 ?_ rfl (by kernel_rfl) (by kernel_rfl) (by kernel_rfl) (fun _ _ _ h => h) (by rfl) ?_ hHeld ?_
   rotate_left
   ·intro W hSw
    have e0 : W.cell? ⟨gx, 0, none⟩ = some (.string c.issuer) := hSw.2.2.cell 0
    have e1 : W.cell? ⟨gx, 1, none⟩ = some (.int .i64 c.num) := hSw.2.2.cell 1
    have e2 : W.cell? ⟨gx, 2, none⟩ = some (.int .i64 c.ths) := hSw.2.2.cell 2
    have e3 : W.cell? ⟨gx, 3, none⟩ = some (.int .i64 c.nxt) := hSw.2.2.cell 3
    have e4 : W.cell? ⟨gx, 4, none⟩ = some (.int .i64 c.bas) := hSw.2.2.cell 4
    have e5 : W.cell? ⟨gx, 5, none⟩ = some (.slice p1 m1 q1) := hSw.2.2.cell 5
    have e6 : W.cell? ⟨gx, 6, none⟩ = some (.string c.sig) := hSw.2.2.cell 6
    go_simp
    try with_reducible rfl
   try simp only [Act.put, zA, zB, zC]
   refine wpAnyH_ready (rs := [2]) (by kernel_rfl) (by simp) ?_
   refine AllReadyH.cons (o := ⟨some 18, _, _, _, _, _⟩) rfl (fun K hK => ?_) AllReadyH.nil
   have EQ := HCL.out c (.slice p1 m1 q1) wd hHeld.1
   obtain ⟨M, hM⟩ : ∃ b, wholeB c = b := ⟨_, rfl⟩
   rw [hM] at EQ
   unfold clV at EQ
   go_simp
   refine EQ.mono ?_
   rintro e w3 ⟨rfl, hb3⟩
   have H3 : NS w w3 gx #[.string c.issuer, .int .i64 c.num, .int .i64 c.ths, .int .i64 c.nxt, .int .i64 c.bas, .slice p1 m1 q1, .string c.sig] := hHeld.below hb3
   clear hb3 EQ
   refine hK.out _ _ H3 (fun hHeld => ?_)
   clear hK K
   have HH : Hid (NS w w3 gx #[.string c.issuer, .int .i64 c.num, .int .i64 c.ths, .int .i64 c.nxt, .int .i64 c.bas, .slice p1 m1 q1, .string c.sig]) := H3
   clear H3
   try simp only [Act.put, zA, zB, zC]
   refine zT 3 19 ?_ rfl (by kernel_rfl) (by kernel_rfl) (by kernel_rfl) (fun _ _ _ h => h) (by rfl) ?_ hHeld ?_
   rotate_left
   ·intro W hSw
    go_simp
    try with_reducible rfl
   try simp only [Act.put, zA, zB, zC]
   cases M with
   | false =>
    have HNX : Hid (bst wholeB l (k + 1) = bst wholeB l k) := bst_no (by rw [HC.out]; exact hM)
    clear hM
    obtain ⟨pv, hpv⟩ : ∃ q, plV (bst wholeB l k) = q := ⟨_, rfl⟩
    have HPV : Hid (plV (bst wholeB l k) = pv) := hpv
    rw [hpv]
    clear hpv
    refine zU 4 20 rfl (by kernel_rfl) (by kernel_rfl) (by kernel_rfl) (fun _ _ _ h => h) (by rfl) hHeld ?_
    try simp only [Act.put, zA, zB, zC]
    refine zU 5 21 rfl (by kernel_rfl) (by kernel_rfl) (by kernel_rfl) (fun _ _ _ h => h) (by rfl) hHeld ?_
    try simp only [Act.put, zA, zB, zC]
    refine zU 6 22 rfl (by kernel_rfl) (by kernel_rfl) (by kernel_rfl) (fun _ _ _ h => h) (by rfl) hHeld ?_
    try simp only [Act.put, zA, zB, zC]
    refine zU 7 23 rfl (by kernel_rfl) (by kernel_rfl) (by kernel_rfl) (fun _ _ _ h => h) (by rfl) hHeld ?_
    try simp only [Act.put, zA, zB, zC]
    refine zU 8 24 rfl (by kernel_rfl) (by kernel_rfl) (by kernel_rfl) (fun _ _ _ h => h) (by rfl) hHeld ?_
    try simp only [Act.put, zA, zB, zC]
    refine zU 9 25 rfl (by kernel_rfl) (by kernel_rfl) (by kernel_rfl) (fun _ _ _ h => h) (by rfl) hHeld ?_
    try simp only [Act.put, zA, zB, zC]
    refine zU 10 26 rfl (by kernel_rfl) (by kernel_rfl) (by kernel_rfl) (fun _ _ _ h => h) (by rfl) hHeld ?_
    try simp only [Act.put, zA, zB, zC]
    refine zU 11 27 rfl (by kernel_rfl) (by kernel_rfl) (by kernel_rfl) (fun _ _ _ h => h) (by rfl) hHeld ?_
    try simp only [Act.put, zA, zB, zC]
    refine zU 12 28 rfl (by kernel_rfl) (by kernel_rfl) (by kernel_rfl) (fun _ _ _ h => h) (by rfl) hHeld ?_
    try simp only [Act.put, zA, zB, zC]
    refine zU 13 29 rfl (by kernel_rfl) (by kernel_rfl) (by kernel_rfl) (fun _ _ _ h => h) (by rfl) hHeld ?_
    try simp only [Act.put, zA, zB, zC]
    refine zU 14 30 rfl (by kernel_rfl) (by kernel_rfl) (by kernel_rfl) (fun _ _ _ h => h) (by rfl) hHeld ?_
    try simp only [Act.put, zA, zB, zC]
    refine zU 15 31 rfl (by kernel_rfl) (by kernel_rfl) (by kernel_rfl) (fun _ _ _ h => h) (by rfl) hHeld ?_
    try simp only [Act.put, zA, zB, zC]
    refine zT 16 32 ?_ rfl (by kernel_rfl) (by kernel_rfl) (by kernel_rfl) (fun _ _ _ h => h) (by rfl) ?_ hHeld ?_
    rotate_left
    ·intro W hSw
     go_simp
     try with_reducible rfl
    try simp only [Act.put, zA, zB, zC]
    refine wpAnyH_done (by kernel_rfl) ?_ _
    have HD : Hid (Below w.heap.size w w3 /\ Blk w3 w.heap.size 49 #[.string ⟨#[]⟩, .int .i64 0, .int .i64 0, .int .i64 0, .int .i64 0, .slice none 0 0, .string ⟨#[]⟩]) := ⟨HH.out.1, HH.out.2.1⟩
    clear HH hHeld HBW HCL
    go_wp2_with fail
    go_roundw
    case rel => exact ⟨k + 1, by omega, by go_num, by rw [HNX.out]; rw [HPV.out], HD.out⟩
    case measure => simp [intOf]; omega
   | true =>
    have HP : Hid (wholeB (l.getD k zeL) = true) := by show wholeB _ = true; rw [HC.out]; exact hM
    clear hM
    cases hb : bst wholeB l k with
    | none =>
     have HNX : Hid (bst wholeB l (k + 1) = some k) := bst_first hb HP.out
     simp only [plV]
     refine zT 4 20 ?_ rfl (by kernel_rfl) (by kernel_rfl) (by kernel_rfl) (fun _ _ _ h => h) (by rfl) ?_ hHeld ?_
     rotate_left
     ·intro W hSw
      go_simp
      try with_reducible rfl
     try simp only [Act.put, zA, zB, zC]
     refine zT 5 21 ?_ rfl (by kernel_rfl) (by kernel_rfl) (by kernel_rfl) (fun _ _ _ h => h) (by rfl) ?_ hHeld ?_
     rotate_left
     ·intro W hSw
      go_simp
      try with_reducible rfl
     try simp only [Act.put, zA, zB, zC]
     refine zT 6 22 ?_ rfl (by kernel_rfl) (by kernel_rfl) (by kernel_rfl) (fun _ _ _ h => h) (by rfl) ?_ hHeld ?_
     rotate_left
     ·intro W hSw
      go_simp
      try with_reducible rfl
     try simp only [Act.put, zA, zB, zC]
     refine zU 7 23 rfl (by kernel_rfl) (by kernel_rfl) (by kernel_rfl) (fun _ _ _ h => h) (by rfl) hHeld ?_
     try simp only [Act.put, zA, zB, zC]
     refine zU 8 24 rfl (by kernel_rfl) (by kernel_rfl) (by kernel_rfl) (fun _ _ _ h => h) (by rfl) hHeld ?_
     try simp only [Act.put, zA, zB, zC]
     refine zU 9 25 rfl (by kernel_rfl) (by kernel_rfl) (by kernel_rfl) (fun _ _ _ h => h) (by rfl) hHeld ?_
     try simp only [Act.put, zA, zB, zC]
     refine zU 10 26 rfl (by kernel_rfl) (by kernel_rfl) (by kernel_rfl) (fun _ _ _ h => h) (by rfl) hHeld ?_
     try simp only [Act.put, zA, zB, zC]
     refine zU 11 27 rfl (by kernel_rfl) (by kernel_rfl) (by kernel_rfl) (fun _ _ _ h => h) (by rfl) hHeld ?_
     try simp only [Act.put, zA, zB, zC]
     refine zU 12 28 rfl (by kernel_rfl) (by kernel_rfl) (by kernel_rfl) (fun _ _ _ h => h) (by rfl) hHeld ?_
     try simp only [Act.put, zA, zB, zC]
     refine zU 13 29 rfl (by kernel_rfl) (by kernel_rfl) (by kernel_rfl) (fun _ _ _ h => h) (by rfl) hHeld ?_
     try simp only [Act.put, zA, zB, zC]
     refine zU 14 30 rfl (by kernel_rfl) (by kernel_rfl) (by kernel_rfl) (fun _ _ _ h => h) (by rfl) hHeld ?_
     try simp only [Act.put, zA, zB, zC]
     refine zT 15 31 ?_ rfl (by kernel_rfl) (by kernel_rfl) (by kernel_rfl) (fun _ _ _ h => h) (by rfl) ?_ hHeld ?_
     rotate_left
     ·intro W hSw
      go_simp
      try with_reducible rfl
     try simp only [Act.put, zA, zB, zC]
     refine zT 16 32 ?_ rfl (by kernel_rfl) (by kernel_rfl) (by kernel_rfl) (fun _ _ _ h => h) (by rfl) ?_ hHeld ?_
     rotate_left
     ·intro W hSw
      go_simp
      try with_reducible rfl
     try simp only [Act.put, zA, zB, zC]
     refine wpAnyH_done (by kernel_rfl) ?_ _
     have HD : Hid (Below w.heap.size w w3 /\ Blk w3 w.heap.size 49 #[.string ⟨#[]⟩, .int .i64 0, .int .i64 0, .int .i64 0, .int .i64 0, .slice none 0 0, .string ⟨#[]⟩]) := ⟨HH.out.1, HH.out.2.1⟩
     clear HH hHeld HBW HCL
     go_wp2_with fail
     go_roundw
     case rel => exact ⟨k + 1, by omega, by go_num, by rw [HNX.out]; try rfl, HD.out⟩
     case measure => simp [intOf]; omega
    | some b =>
     have hblt := bst_lt hb
     have hbi : (b : Int) < (n : Int) := by omega
     have hb0 : (0 : Int) <= (b : Int) := by omega
     have hbn : ¬ (b : Int) < 0 := by omega
     obtain ⟨NB, hNB⟩ : ∃ q, (l.getD b zeL).num = q := ⟨_, rfl⟩
     have HB2 : Hid (∀ W, Below w.heap.size w W -> W.cell? ⟨g, b * 7 + 1, none⟩ = some (.int .i64 NB)) := fun W hW => by rw [<- hNB]; exact HBW.out b W hb hW
     simp only [plV]
     refine zT 4 20 ?_ rfl (by kernel_rfl) (by kernel_rfl) (by kernel_rfl) (fun _ _ _ h => h) (by rfl) ?_ hHeld ?_
     rotate_left
     ·intro W hSw
      go_simp
      try with_reducible rfl
     try simp only [Act.put, zA, zB, zC]
     refine zT 5 21 ?_ rfl (by kernel_rfl) (by kernel_rfl) (by kernel_rfl) (fun _ _ _ h => h) (by rfl) ?_ hHeld ?_
     rotate_left
     ·intro W hSw
      go_simp
      try with_reducible rfl
     try simp only [Act.put, zA, zB, zC]
     refine zT 6 22 ?_ rfl (by kernel_rfl) (by kernel_rfl) (by kernel_rfl) (fun _ _ _ h => h) (by rfl) ?_ hHeld ?_
     rotate_left
     ·intro W hSw
      go_simp
      try with_reducible rfl
     try simp only [Act.put, zA, zB, zC]
     refine zT 7 23 ?_ rfl (by kernel_rfl) (by kernel_rfl) (by kernel_rfl) (fun _ _ _ h => h) (by rfl) ?_ hHeld ?_
     rotate_left
     ·intro W hSw
      go_simp
      try with_reducible rfl
     try simp only [Act.put, zA, zB, zC]
     refine zT 8 24 ?_ rfl (by kernel_rfl) (by kernel_rfl) (by kernel_rfl) (fun _ _ _ h => h) (by rfl) ?_ hHeld ?_
     rotate_left
     ·intro W hSw
      have e1 : W.cell? ⟨gx, 1, none⟩ = some (.int .i64 c.num) := hSw.2.2.cell 1
      go_simp
      try with_reducible rfl
     try simp only [Act.put, zA, zB, zC]
     refine zT 9 25 ?_ rfl (by kernel_rfl) (by kernel_rfl) (by kernel_rfl) (fun _ _ _ h => h) (by rfl) ?_ hHeld ?_
     rotate_left
     ·intro W hSw
      go_simp
      try with_reducible rfl
     try simp only [Act.put, zA, zB, zC]
     refine zT 10 26 ?_ rfl (by kernel_rfl) (by kernel_rfl) (by kernel_rfl) (fun _ _ _ h => h) (by rfl) ?_ hHeld ?_
     rotate_left
     ·intro W hSw
      go_simp
      try with_reducible rfl
     try simp only [Act.put, zA, zB, zC]
     refine zT 11 27 ?_ rfl (by kernel_rfl) (by kernel_rfl) (by kernel_rfl) (fun _ _ _ h => h) (by rfl) ?_ hHeld ?_
     rotate_left
     ·intro W hSw
      go_simp
      try with_reducible rfl
     try simp only [Act.put, zA, zB, zC]
     refine zT 12 28 ?_ rfl (by kernel_rfl) (by kernel_rfl) (by kernel_rfl) (fun _ _ _ h => h) (by rfl) ?_ hHeld ?_
     rotate_left
     ·intro W hSw
      go_simp
      try with_reducible rfl
     try simp only [Act.put, zA, zB, zC]
     refine zT 13 29 ?_ rfl (by kernel_rfl) (by kernel_rfl) (by kernel_rfl) (fun _ _ _ h => h) (by rfl) ?_ hHeld ?_
     rotate_left
     ·intro W hSw
      have e2 := HB2.out W hSw.1
      go_simp
      try with_reducible rfl
     try simp only [Act.put, zA, zB, zC]
     refine zT 14 30 ?_ rfl (by kernel_rfl) (by kernel_rfl) (by kernel_rfl) (fun _ _ _ h => h) (by rfl) ?_ hHeld ?_
     rotate_left
     ·intro W hSw
      go_simp
      try with_reducible rfl
     try simp only [Act.put, zA, zB, zC]
     refine zT 15 31 ?_ rfl (by kernel_rfl) (by kernel_rfl) (by kernel_rfl) (fun _ _ _ h => h) (by rfl) ?_ hHeld ?_
     rotate_left
     ·intro W hSw
      go_simp
      try with_reducible rfl
     try simp only [Act.put, zA, zB, zC]
     refine zT 16 32 ?_ rfl (by kernel_rfl) (by kernel_rfl) (by kernel_rfl) (fun _ _ _ h => h) (by rfl) ?_ hHeld ?_
     rotate_left
     ·intro W hSw
      go_simp
      try with_reducible rfl
     try simp only [Act.put, zA, zB, zC]
     by_cases hmore : NB < c.num
     ·have HNX : Hid (bst wholeB l (k + 1) = some k) := bst_more hb HP.out (by rw [hNB, HC.out]; exact hmore)
      refine wpAnyH_done (by kernel_rfl) ?_ _
      have HD : Hid (Below w.heap.size w w3 /\ Blk w3 w.heap.size 49 #[.string ⟨#[]⟩, .int .i64 0, .int .i64 0, .int .i64 0, .int .i64 0, .slice none 0 0, .string ⟨#[]⟩]) := ⟨HH.out.1, HH.out.2.1⟩
      clear HH hHeld HBW HCL
      go_wp2_with fail
      go_roundw
      case rel => exact ⟨k + 1, by omega, by go_num, by rw [HNX.out]; try rfl, HD.out⟩
      case measure => simp [intOf]; omega
     ·have HNX : Hid (bst wholeB l (k + 1) = some b) := bst_less hb (by rw [hNB, HC.out]; exact hmore)
      refine wpAnyH_done (by kernel_rfl) ?_ _
      have HD : Hid (Below w.heap.size w w3 /\ Blk w3 w.heap.size 49 #[.string ⟨#[]⟩, .int .i64 0, .int .i64 0, .int .i64 0, .int .i64 0, .slice none 0 0, .string ⟨#[]⟩]) := ⟨HH.out.1, HH.out.2.1⟩
      clear HH hHeld HBW HCL
      go_wp2_with fail
      go_roundw
      case rel => exact ⟨k + 1, by omega, by go_num, by rw [HNX.out]; try rfl, HD.out⟩
      case measure => simp [intOf]; omega
  ·have hki : ¬ (k : Int) < (n : Int) := by omega
   have hkl : k = n := by omega
   subst hkl
   have HNW : Hid (nwL wholeB l = (bst wholeB l k).map fun b => l.getD b zeL) := by show nwL wholeB l = _; unfold nwL; rw [HA.out.2.1]
   cases hb : bst wholeB l k with
   | none =>
    have HN : Hid (oR = none) := by show oR = none; rw [<- HR.out, HNW.out, hb]; rfl
    have r0 : wr.cell? ⟨w.heap.size, 0, none⟩ = some (.string ⟨#[]⟩) := H.out.2.cell 0
    have r1 : wr.cell? ⟨w.heap.size, 1, none⟩ = some (.int .i64 0) := H.out.2.cell 1
    have r2 : wr.cell? ⟨w.heap.size, 2, none⟩ = some (.int .i64 0) := H.out.2.cell 2
    have r3 : wr.cell? ⟨w.heap.size, 3, none⟩ = some (.int .i64 0) := H.out.2.cell 3
    have r4 : wr.cell? ⟨w.heap.size, 4, none⟩ = some (.int .i64 0) := H.out.2.cell 4
    have r5 : wr.cell? ⟨w.heap.size, 5, none⟩ = some (.slice none 0 0) := H.out.2.cell 5
    have r6 : wr.cell? ⟨w.heap.size, 6, none⟩ = some (.string ⟨#[]⟩) := H.out.2.cell 6
    have rf := fun i => H.out.2.free i
    simp only [plV]
    go_wp2_with fail
    refine bodyPost_ret (v := .tuple #[.agg #[.string ⟨#[]⟩, .int .i64 0, .int .i64 0, .int .i64 0, .int .i64 0, .slice none 0 0, .string ⟨#[]⟩], .bool false]) (by simp [results, Tryz.results150, go_sem, r0, r1, r2, r3, r4, r5, r6]; try rfl) rfl ⟨_, by rw [HN.out]; rfl, ?_, ?_⟩
    ·rw [HN.out]
     exact own_zeL _ _
    ·iterate 7 refine Below.setCell ?_ (by show w.heap.size <= w.heap.size; exact Nat.le_refl _) _
     exact H.out.1
   | some b =>
    have hblt := bst_lt hb
    have hbi : (b : Int) < (k : Int) := by omega
    have hb0 : (0 : Int) <= (b : Int) := by omega
    have hbn : ¬ (b : Int) < 0 := by omega
    obtain ⟨g, hg, hgw⟩ := HA.out.2.2.2 (by omega)
    subst hg
    obtain ⟨p1, q1, hoc, hc1⟩ := HA.out.1.one HA.out.2.1.symm (show b < l.length by have := HA.out.2.1; omega)
    obtain ⟨c, hc⟩ : ∃ c, l.getD b zeL = c := ⟨_, rfl⟩
    have HN : Hid (oR = some c) := by show oR = some c; rw [<- HR.out, HNW.out, hb, <- hc]; rfl
    rw [hc] at hc1 hoc
    have hrl : c.revs.length <= 20000000 := by rw [<- hc]; exact wtS_getD HA.out.2.2.1 (by have := HA.out.2.1; omega)
    have hwt := wt_parts2 HA.out.2.2.1 (show b < l.length by have := HA.out.2.1; omega)
    rw [hc] at hwt
    have EC := ownCrl_any c (clV c (.slice p1 c.revs.length q1)) bs wr hrl (by omega) (by omega) (hoc.stays H.out.1)
    have x0 : wr.cell? ⟨g, b * 7, none⟩ = some (.string c.issuer) := (H.out.1.cell (p := ⟨g, b * 7, none⟩) hgw).trans (hc1 0 _ rfl)
    have x1 : wr.cell? ⟨g, b * 7 + 1, none⟩ = some (.int .i64 c.num) := (H.out.1.cell (p := ⟨g, b * 7 + 1, none⟩) hgw).trans (hc1 1 _ rfl)
    have x2 : wr.cell? ⟨g, b * 7 + 2, none⟩ = some (.int .i64 c.ths) := (H.out.1.cell (p := ⟨g, b * 7 + 2, none⟩) hgw).trans (hc1 2 _ rfl)
    have x3 : wr.cell? ⟨g, b * 7 + 3, none⟩ = some (.int .i64 c.nxt) := (H.out.1.cell (p := ⟨g, b * 7 + 3, none⟩) hgw).trans (hc1 3 _ rfl)
    have x4 : wr.cell? ⟨g, b * 7 + 4, none⟩ = some (.int .i64 c.bas) := (H.out.1.cell (p := ⟨g, b * 7 + 4, none⟩) hgw).trans (hc1 4 _ rfl)
    have x5 : wr.cell? ⟨g, b * 7 + 5, none⟩ = some (.slice p1 c.revs.length q1) := (H.out.1.cell (p := ⟨g, b * 7 + 5, none⟩) hgw).trans (hc1 5 _ rfl)
    have x6 : wr.cell? ⟨g, b * 7 + 6, none⟩ = some (.string c.sig) := (H.out.1.cell (p := ⟨g, b * 7 + 6, none⟩) hgw).trans (hc1 6 _ rfl)
    unfold clV at EC
    clear hc1 hoc hc hrl hwt
    simp only [plV]
    go_wp2_with fail
    refine EC.mono ?_
    rintro e w3 ⟨u3, rfl, ⟨p3, rfl, ho3⟩, hb3⟩
    obtain ⟨qa, qc, hq3, -, -, -⟩ := OwnR.shape ho3
    subst hq3
    have H3 : Hid ((Below w.heap.size w w3 /\ Blk w3 w.heap.size 49 #[.string ⟨#[]⟩, .int .i64 0, .int .i64 0, .int .i64 0, .int .i64 0, .slice none 0 0, .string ⟨#[]⟩]) /\ OwnR w3 wr.heap.size (.slice qa c.revs.length qc) c.revs /\ w.heap.size < wr.heap.size) := ⟨⟨H.out.1.trans (hb3.mono H.out.1.size), H.out.2.below hb3 H.out.2.lt⟩, ho3, H.out.2.lt⟩
    clear H EC ho3 hb3 x0 x1 x2 x3 x4 x5 x6
    have r0 : w3.cell? ⟨w.heap.size, 0, none⟩ = some (.string ⟨#[]⟩) := H3.out.1.2.cell 0
    have r1 : w3.cell? ⟨w.heap.size, 1, none⟩ = some (.int .i64 0) := H3.out.1.2.cell 1
    have r2 : w3.cell? ⟨w.heap.size, 2, none⟩ = some (.int .i64 0) := H3.out.1.2.cell 2
    have r3 : w3.cell? ⟨w.heap.size, 3, none⟩ = some (.int .i64 0) := H3.out.1.2.cell 3
    have r4 : w3.cell? ⟨w.heap.size, 4, none⟩ = some (.int .i64 0) := H3.out.1.2.cell 4
    have r5 : w3.cell? ⟨w.heap.size, 5, none⟩ = some (.slice none 0 0) := H3.out.1.2.cell 5
    have r6 : w3.cell? ⟨w.heap.size, 6, none⟩ = some (.string ⟨#[]⟩) := H3.out.1.2.cell 6
    have rf := fun i => H3.out.1.2.free i
    unfold clV
    go_wp2_with fail
    refine bodyPost_ret (v := .tuple #[.agg #[.string c.issuer, .int .i64 c.num, .int .i64 c.ths, .int .i64 c.nxt, .int .i64 c.bas, .slice qa c.revs.length qc, .string c.sig], .bool true]) (by simp [results, Tryz.results150, go_sem, r0, r1, r2, r3, r4, r5, r6]; try rfl) rfl ⟨_, by rw [HN.out]; rfl, ?_, ?_⟩
    ·rw [HN.out]
     refine ⟨_, rfl, OwnR.base (row_same H3.out.2.1 (fun y hy => ?_)) (by have := H3.out.2.2; omega)⟩
     have hy2 := (World.ownsRow.lt H3.out.2.1 y hy).1
     have hy3 := H3.out.2.2
     iterate 7 rw [heap_setCell_other _ _ _ _ (by show y ≠ w.heap.size; omega)]
    ·iterate 7 refine Below.setCell ?_ (by show w.heap.size <= w.heap.size; exact Nat.le_refl _) _
     exact H3.out.1.1
set_option maxHeartbeats 12800000 in
theorem newestDelta_any (l : List Cl) (v : Value) (gd : Nat) (wn : Int) (bs : Nat) (fp : List Nat) (w : World) (hl : wtS l <= 20000000) (hd : w.cell? ⟨gd, 1, none⟩ = some (.int .i64 wn)) (ha : OwnS crlKd w bs v l fp) :
  Calls Tryz.prog 150 #[v, .func (.func 151) #[] #[.pointer (some ⟨gd, 0, none⟩)]] w fun e w' => NwPost w (nwL (deltaB wn) l) e w' := by
 obtain ⟨ao, cap, hv, hg⟩ := ha.row
 obtain ⟨n, hn⟩ : ∃ n, l.length = n := ⟨_, rfl⟩
 rw [hn] at hv hg
 subst hv
 have hn20 : n <= 20000000 := by unfold wtS at hl; omega
 have HA : Hid (OwnS crlKd w bs (.slice ao n cap) l fp /\ l.length = n /\ wtS l <= 20000000 /\ (0 < n -> ∃ g, ao = some ⟨g, 0, none⟩ /\ g < w.heap.size)) := ⟨ha, hn, hl, hg⟩
 clear ha hn hl hg
 have HCL : Hid (∀ (c : Cl) (p : Value) (W : World), Below w.heap.size w W -> Calls Tryz.prog 151 #[clV c p, .pointer (some ⟨gd, 0, none⟩)] W fun e w' => e = .returned (.bool ((deltaB wn) c)) /\ Below W.heap.size W w') := fun c p W hb => delta1_any c p gd wn W ((hb.cell (p := ⟨gd, 1, none⟩) (lt_of_cell hd)).trans hd)
 clear hd
 obtain ⟨oR, hoR⟩ : ∃ r, nwL (deltaB wn) l = r := ⟨_, rfl⟩
 have HR : Hid (nwL (deltaB wn) l = oR) := hoR
 rw [hoR]
 clear hoR
 obtain ⟨W1, hW1⟩ : ∃ V, V = w.alloc (Obj.cells #[.string ⟨#[]⟩, .int .i64 0, .int .i64 0, .int .i64 0, .int .i64 0, .slice none 0 0, .string ⟨#[]⟩] 49) := ⟨_, rfl⟩
 have H1 : Hid (Below w.heap.size w W1 /\ Blk W1 w.heap.size 49 #[.string ⟨#[]⟩, .int .i64 0, .int .i64 0, .int .i64 0, .int .i64 0, .slice none 0 0, .string ⟨#[]⟩]) := by rw [hW1]; exact ⟨(Below.refl _ _).alloc (Nat.le_refl _) _, Blk.new _ _ _⟩
 go_enter Tryz.func150, Tryz.ntmps150
 go_wp2_with fail
 rw [<- hW1]
 clear hW1
 go_loopw [6, 11] (fun av iv wr => ∃ k : Nat, k <= n /\ iv = .int .i64 k /\ av = .int .i64 (plV (bst (deltaB wn) l k)) /\ Hid (Below w.heap.size w wr /\ Blk wr w.heap.size 49 #[.string ⟨#[]⟩, .int .i64 0, .int .i64 0, .int .i64 0, .int .i64 0, .slice none 0 0, .string ⟨#[]⟩])) (fun _ iv _ => n - (intOf iv).toNat)
 case atStart => exact ⟨0, Nat.zero_le _, rfl, rfl, H1.out⟩
 case round =>
  clear H1
  obtain ⟨k, hk, rfl, rfl, H⟩ := hrel
  by_cases hkn : k < n
  ·have hkl : k < l.length := by rw [HA.out.2.1]; exact hkn
   obtain ⟨g, hg, hgw⟩ := HA.out.2.2.2 (by omega)
   subst hg
   obtain ⟨p1, q1, -, hc1⟩ := HA.out.1.one HA.out.2.1.symm hkl
   have hki : (k : Int) < (n : Int) := by omega
   have hk0 : (0 : Int) <= (k : Int) := by omega
   obtain ⟨c, hc⟩ : ∃ c, l.getD k zeL = c := ⟨_, rfl⟩
   rw [hc] at hc1
   obtain ⟨m1, hm1⟩ : ∃ m, c.revs.length = m := ⟨_, rfl⟩
   rw [hm1] at hc1
   have x0 : wr.cell? ⟨g, k * 7, none⟩ = some (.string c.issuer) := (H.out.1.cell (p := ⟨g, k * 7, none⟩) hgw).trans (hc1 0 _ rfl)
   have x1 : wr.cell? ⟨g, k * 7 + 1, none⟩ = some (.int .i64 c.num) := (H.out.1.cell (p := ⟨g, k * 7 + 1, none⟩) hgw).trans (hc1 1 _ rfl)
   have x2 : wr.cell? ⟨g, k * 7 + 2, none⟩ = some (.int .i64 c.ths) := (H.out.1.cell (p := ⟨g, k * 7 + 2, none⟩) hgw).trans (hc1 2 _ rfl)
   have x3 : wr.cell? ⟨g, k * 7 + 3, none⟩ = some (.int .i64 c.nxt) := (H.out.1.cell (p := ⟨g, k * 7 + 3, none⟩) hgw).trans (hc1 3 _ rfl)
   have x4 : wr.cell? ⟨g, k * 7 + 4, none⟩ = some (.int .i64 c.bas) := (H.out.1.cell (p := ⟨g, k * 7 + 4, none⟩) hgw).trans (hc1 4 _ rfl)
   have x5 : wr.cell? ⟨g, k * 7 + 5, none⟩ = some (.slice p1 m1 q1) := (H.out.1.cell (p := ⟨g, k * 7 + 5, none⟩) hgw).trans (hc1 5 _ rfl)
   have x6 : wr.cell? ⟨g, k * 7 + 6, none⟩ = some (.string c.sig) := (H.out.1.cell (p := ⟨g, k * 7 + 6, none⟩) hgw).trans (hc1 6 _ rfl)
   obtain ⟨V, hV⟩ : ∃ V, V = wr.alloc (Obj.cells #[.string c.issuer, .int .i64 c.num, .int .i64 c.ths, .int .i64 c.nxt, .int .i64 c.bas, .slice p1 m1 q1, .string c.sig] 49) := ⟨_, rfl⟩
   obtain ⟨gx, hgx⟩ : ∃ q, wr.heap.size = q := ⟨_, rfl⟩
   have HV : Hid (NS w V gx #[.string c.issuer, .int .i64 c.num, .int .i64 c.ths, .int .i64 c.nxt, .int .i64 c.bas, .slice p1 m1 q1, .string c.sig]) := by
    have hb : Below wr.heap.size wr V := by rw [hV]; exact (Below.refl _ _).alloc (Nat.le_refl _) _
    exact ⟨H.out.1.trans (hb.mono H.out.1.size), H.out.2.below hb H.out.2.lt, by rw [hV, <- hgx]; exact Blk.new _ _ _⟩
   have HBW : Hid (∀ b W, bst (deltaB wn) l k = some b -> Below w.heap.size w W -> W.cell? ⟨g, b * 7 + 1, none⟩ = some (.int .i64 (l.getD b zeL).num)) := fun b W hb hW => by
    obtain ⟨p2, q2, -, hc2⟩ := HA.out.1.one HA.out.2.1.symm (show b < l.length by have := bst_lt hb; omega)
    exact (hW.cell (p := ⟨g, b * 7 + 1, none⟩) hgw).trans (hc2 1 _ rfl)
   have HC : Hid (l.getD k zeL = c) := hc
   clear hc1 hm1 hc
   go_upto_region 5 with fail
   rw [<- hV]
   try rw [hgx]
   clear hV hgx x0 x1 x2 x3 x4 x5 x6 H hgw
   have hDr : Below V.heap.size V V.drew := (Below.refl _ _).drew
   refine wp_region_held_drew (S := fun W => NS w W gx #[.string c.issuer, .int .i64 c.num, .int .i64 c.ths, .int .i64 c.nxt, .int .i64 c.bas, .slice p1 m1 q1, .string c.sig]) (by kernel_rfl) (HV.out.below hDr) (fun hHeld => ?_)
   clear hDr HV
   generalize V.drew = wd at hHeld |-
   refine zT 0 16 ?_ rfl (by kernel_rfl) (by kernel_rfl) (by kernel_rfl) (fun _ _ _ h => h) (by rfl) ?_ hHeld ?_
   rotate_left
   ·intro W hSw
    go_simp
    try with_reducible rfl
   try simp only [Act.put, zA, zB, zC]
   refine zT 1 17 ?_ rfl (by kernel_rfl) (by kernel_rfl) (by kernel_rfl) (fun _ _ _ h => h) (by rfl) ?_ hHeld ?_
   rotate_left
   ·intro W hSw
    have e0 : W.cell? ⟨gx, 0, none⟩ = some (.string c.issuer) := hSw.2.2.cell 0
    have e1 : W.cell? ⟨gx, 1, none⟩ = some (.int .i64 c.num) := hSw.2.2.cell 1
    have e2 : W.cell? ⟨gx, 2, none⟩ = some (.int .i64 c.ths) := hSw.2.2.cell 2
    have e3 : W.cell? ⟨gx, 3, none⟩ = some (.int .i64 c.nxt) := hSw.2.2.cell 3
    have e4 : W.cell? ⟨gx, 4, none⟩ = some (.int .i64 c.bas) := hSw.2.2.cell 4
    have e5 : W.cell? ⟨gx, 5, none⟩ = some (.slice p1 m1 q1) := hSw.2.2.cell 5
    have e6 : W.cell? ⟨gx, 6, none⟩ = some (.string c.sig) := hSw.2.2.cell 6
    go_simp
    try with_reducible rfl
   try simp only [Act.put, zA, zB, zC]
   refine wpAnyH_ready (rs := [2]) (by kernel_rfl) (by simp) ?_
   refine AllReadyH.cons (o := ⟨some 18, _, _, _, _, _⟩) rfl (fun K hK => ?_) AllReadyH.nil
   have EQ := HCL.out c (.slice p1 m1 q1) wd hHeld.1
   obtain ⟨M, hM⟩ : ∃ b, (deltaB wn) c = b := ⟨_, rfl⟩
   rw [hM] at EQ
   unfold clV at EQ
   go_simp
   refine EQ.mono ?_
   rintro e w3 ⟨rfl, hb3⟩
   have H3 : NS w w3 gx #[.string c.issuer, .int .i64 c.num, .int .i64 c.ths, .int .i64 c.nxt, .int .i64 c.bas, .slice p1 m1 q1, .string c.sig] := hHeld.below hb3
   clear hb3 EQ
   refine hK.out _ _ H3 (fun hHeld => ?_)
   clear hK K
   have HH : Hid (NS w w3 gx #[.string c.issuer, .int .i64 c.num, .int .i64 c.ths, .int .i64 c.nxt, .int .i64 c.bas, .slice p1 m1 q1, .string c.sig]) := H3
   clear H3
   try simp only [Act.put, zA, zB, zC]
   refine zT 3 19 ?_ rfl (by kernel_rfl) (by kernel_rfl) (by kernel_rfl) (fun _ _ _ h => h) (by rfl) ?_ hHeld ?_
   rotate_left
   ·intro W hSw
    go_simp
    try with_reducible rfl
   try simp only [Act.put, zA, zB, zC]
   cases M with
   | false =>
    have HNX : Hid (bst (deltaB wn) l (k + 1) = bst (deltaB wn) l k) := bst_no (by rw [HC.out]; exact hM)
    clear hM
    obtain ⟨pv, hpv⟩ : ∃ q, plV (bst (deltaB wn) l k) = q := ⟨_, rfl⟩
    have HPV : Hid (plV (bst (deltaB wn) l k) = pv) := hpv
    rw [hpv]
    clear hpv
    refine zU 4 20 rfl (by kernel_rfl) (by kernel_rfl) (by kernel_rfl) (fun _ _ _ h => h) (by rfl) hHeld ?_
    try simp only [Act.put, zA, zB, zC]
    refine zU 5 21 rfl (by kernel_rfl) (by kernel_rfl) (by kernel_rfl) (fun _ _ _ h => h) (by rfl) hHeld ?_
    try simp only [Act.put, zA, zB, zC]
    refine zU 6 22 rfl (by kernel_rfl) (by kernel_rfl) (by kernel_rfl) (fun _ _ _ h => h) (by rfl) hHeld ?_
    try simp only [Act.put, zA, zB, zC]
    refine zU 7 23 rfl (by kernel_rfl) (by kernel_rfl) (by kernel_rfl) (fun _ _ _ h => h) (by rfl) hHeld ?_
    try simp only [Act.put, zA, zB, zC]
    refine zU 8 24 rfl (by kernel_rfl) (by kernel_rfl) (by kernel_rfl) (fun _ _ _ h => h) (by rfl) hHeld ?_
    try simp only [Act.put, zA, zB, zC]
    refine zU 9 25 rfl (by kernel_rfl) (by kernel_rfl) (by kernel_rfl) (fun _ _ _ h => h) (by rfl) hHeld ?_
    try simp only [Act.put, zA, zB, zC]
    refine zU 10 26 rfl (by kernel_rfl) (by kernel_rfl) (by kernel_rfl) (fun _ _ _ h => h) (by rfl) hHeld ?_
    try simp only [Act.put, zA, zB, zC]
    refine zU 11 27 rfl (by kernel_rfl) (by kernel_rfl) (by kernel_rfl) (fun _ _ _ h => h) (by rfl) hHeld ?_
    try simp only [Act.put, zA, zB, zC]
    refine zU 12 28 rfl (by kernel_rfl) (by kernel_rfl) (by kernel_rfl) (fun _ _ _ h => h) (by rfl) hHeld ?_
    try simp only [Act.put, zA, zB, zC]
    refine zU 13 29 rfl (by kernel_rfl) (by kernel_rfl) (by kernel_rfl) (fun _ _ _ h => h) (by rfl) hHeld ?_
    try simp only [Act.put, zA, zB, zC]
    refine zU 14 30 rfl (by kernel_rfl) (by kernel_rfl) (by kernel_rfl) (fun _ _ _ h => h) (by rfl) hHeld ?_
    try simp only [Act.put, zA, zB, zC]
    refine zU 15 31 rfl (by kernel_rfl) (by kernel_rfl) (by kernel_rfl) (fun _ _ _ h => h) (by rfl) hHeld ?_
    try simp only [Act.put, zA, zB, zC]
    refine zT 16 32 ?_ rfl (by kernel_rfl) (by kernel_rfl) (by kernel_rfl) (fun _ _ _ h => h) (by rfl) ?_ hHeld ?_
    rotate_left
    ·intro W hSw
     go_simp
     try with_reducible rfl
    try simp only [Act.put, zA, zB, zC]
    refine wpAnyH_done (by kernel_rfl) ?_ _
    have HD : Hid (Below w.heap.size w w3 /\ Blk w3 w.heap.size 49 #[.string ⟨#[]⟩, .int .i64 0, .int .i64 0, .int .i64 0, .int .i64 0, .slice none 0 0, .string ⟨#[]⟩]) := ⟨HH.out.1, HH.out.2.1⟩
    clear HH hHeld HBW HCL
    go_wp2_with fail
    go_roundw
    case rel => exact ⟨k + 1, by omega, by go_num, by rw [HNX.out]; rw [HPV.out], HD.out⟩
    case measure => simp [intOf]; omega
   | true =>
    have HP : Hid ((deltaB wn) (l.getD k zeL) = true) := by show (deltaB wn) _ = true; rw [HC.out]; exact hM
    clear hM
    cases hb : bst (deltaB wn) l k with
    | none =>
     have HNX : Hid (bst (deltaB wn) l (k + 1) = some k) := bst_first hb HP.out
     simp only [plV]
     refine zT 4 20 ?_ rfl (by kernel_rfl) (by kernel_rfl) (by kernel_rfl) (fun _ _ _ h => h) (by rfl) ?_ hHeld ?_
     rotate_left
     ·intro W hSw
      go_simp
      try with_reducible rfl
     try simp only [Act.put, zA, zB, zC]
     refine zT 5 21 ?_ rfl (by kernel_rfl) (by kernel_rfl) (by kernel_rfl) (fun _ _ _ h => h) (by rfl) ?_ hHeld ?_
     rotate_left
     ·intro W hSw
      go_simp
      try with_reducible rfl
     try simp only [Act.put, zA, zB, zC]
     refine zT 6 22 ?_ rfl (by kernel_rfl) (by kernel_rfl) (by kernel_rfl) (fun _ _ _ h => h) (by rfl) ?_ hHeld ?_
     rotate_left
     ·intro W hSw
      go_simp
      try with_reducible rfl
     try simp only [Act.put, zA, zB, zC]
     refine zU 7 23 rfl (by kernel_rfl) (by kernel_rfl) (by kernel_rfl) (fun _ _ _ h => h) (by rfl) hHeld ?_
     try simp only [Act.put, zA, zB, zC]
     refine zU 8 24 rfl (by kernel_rfl) (by kernel_rfl) (by kernel_rfl) (fun _ _ _ h => h) (by rfl) hHeld ?_
     try simp only [Act.put, zA, zB, zC]
     refine zU 9 25 rfl (by kernel_rfl) (by kernel_rfl) (by kernel_rfl) (fun _ _ _ h => h) (by rfl) hHeld ?_
     try simp only [Act.put, zA, zB, zC]
     refine zU 10 26 rfl (by kernel_rfl) (by kernel_rfl) (by kernel_rfl) (fun _ _ _ h => h) (by rfl) hHeld ?_
     try simp only [Act.put, zA, zB, zC]
     refine zU 11 27 rfl (by kernel_rfl) (by kernel_rfl) (by kernel_rfl) (fun _ _ _ h => h) (by rfl) hHeld ?_
     try simp only [Act.put, zA, zB, zC]
     refine zU 12 28 rfl (by kernel_rfl) (by kernel_rfl) (by kernel_rfl) (fun _ _ _ h => h) (by rfl) hHeld ?_
     try simp only [Act.put, zA, zB, zC]
     refine zU 13 29 rfl (by kernel_rfl) (by kernel_rfl) (by kernel_rfl) (fun _ _ _ h => h) (by rfl) hHeld ?_
     try simp only [Act.put, zA, zB, zC]
     refine zU 14 30 rfl (by kernel_rfl) (by kernel_rfl) (by kernel_rfl) (fun _ _ _ h => h) (by rfl) hHeld ?_
     try simp only [Act.put, zA, zB, zC]
     refine zT 15 31 ?_ rfl (by kernel_rfl) (by kernel_rfl) (by kernel_rfl) (fun _ _ _ h => h) (by rfl) ?_ hHeld ?_
     rotate_left
     ·intro W hSw
      go_simp
      try with_reducible rfl
     try simp only [Act.put, zA, zB, zC]
     refine zT 16 32 ?_ rfl (by kernel_rfl) (by kernel_rfl) (by kernel_rfl) (fun _ _ _ h => h) (by rfl) ?_ hHeld ?_
     rotate_left
     ·intro W hSw
      go_simp
      try with_reducible rfl
     try simp only [Act.put, zA, zB, zC]
     refine wpAnyH_done (by kernel_rfl) ?_ _
     have HD : Hid (Below w.heap.size w w3 /\ Blk w3 w.heap.size 49 #[.string ⟨#[]⟩, .int .i64 0, .int .i64 0, .int .i64 0, .int .i64 0, .slice none 0 0, .string ⟨#[]⟩]) := ⟨HH.out.1, HH.out.2.1⟩
     clear HH hHeld HBW HCL
     go_wp2_with fail
     go_roundw
     case rel => exact ⟨k + 1, by omega, by go_num, by rw [HNX.out]; try rfl, HD.out⟩
     case measure => simp [intOf]; omega
    | some b =>
     have hblt := bst_lt hb
     have hbi : (b : Int) < (n : Int) := by omega
     have hb0 : (0 : Int) <= (b : Int) := by omega
     have hbn : ¬ (b : Int) < 0 := by omega
     obtain ⟨NB, hNB⟩ : ∃ q, (l.getD b zeL).num = q := ⟨_, rfl⟩
     have HB2 : Hid (∀ W, Below w.heap.size w W -> W.cell? ⟨g, b * 7 + 1, none⟩ = some (.int .i64 NB)) := fun W hW => by rw [<- hNB]; exact HBW.out b W hb hW
     simp only [plV]
     refine zT 4 20 ?_ rfl (by kernel_rfl) (by kernel_rfl) (by kernel_rfl) (fun _ _ _ h => h) (by rfl) ?_ hHeld ?_
     rotate_left
     ·intro W hSw
      go_simp
      try with_reducible rfl
     try simp only [Act.put, zA, zB, zC]
     refine zT 5 21 ?_ rfl (by kernel_rfl) (by kernel_rfl) (by kernel_rfl) (fun _ _ _ h => h) (by rfl) ?_ hHeld ?_
     rotate_left
     ·intro W hSw
      go_simp
      try with_reducible rfl
     try simp only [Act.put, zA, zB, zC]
     refine zT 6 22 ?_ rfl (by kernel_rfl) (by kernel_rfl) (by kernel_rfl) (fun _ _ _ h => h) (by rfl) ?_ hHeld ?_
     rotate_left
     ·intro W hSw
      go_simp
      try with_reducible rfl
     try simp only [Act.put, zA, zB, zC]
     refine zT 7 23 ?_ rfl (by kernel_rfl) (by kernel_rfl) (by kernel_rfl) (fun _ _ _ h => h) (by rfl) ?_ hHeld ?_
     rotate_left
     ·intro W hSw
      go_simp
      try with_reducible rfl
     try simp only [Act.put, zA, zB, zC]
     refine zT 8 24 ?_ rfl (by kernel_rfl) (by kernel_rfl) (by kernel_rfl) (fun _ _ _ h => h) (by rfl) ?_ hHeld ?_
     rotate_left
     ·intro W hSw
      have e1 : W.cell? ⟨gx, 1, none⟩ = some (.int .i64 c.num) := hSw.2.2.cell 1
      go_simp
      try with_reducible rfl
     try simp only [Act.put, zA, zB, zC]
     refine zT 9 25 ?_ rfl (by kernel_rfl) (by kernel_rfl) (by kernel_rfl) (fun _ _ _ h => h) (by rfl) ?_ hHeld ?_
     rotate_left
     ·intro W hSw
      go_simp
      try with_reducible rfl
     try simp only [Act.put, zA, zB, zC]
     refine zT 10 26 ?_ rfl (by kernel_rfl) (by kernel_rfl) (by kernel_rfl) (fun _ _ _ h => h) (by rfl) ?_ hHeld ?_
     rotate_left
     ·intro W hSw
      go_simp
      try with_reducible rfl
     try simp only [Act.put, zA, zB, zC]
     refine zT 11 27 ?_ rfl (by kernel_rfl) (by kernel_rfl) (by kernel_rfl) (fun _ _ _ h => h) (by rfl) ?_ hHeld ?_
     rotate_left
     ·intro W hSw
      go_simp
      try with_reducible rfl
     try simp only [Act.put, zA, zB, zC]
     refine zT 12 28 ?_ rfl (by kernel_rfl) (by kernel_rfl) (by kernel_rfl) (fun _ _ _ h => h) (by rfl) ?_ hHeld ?_
     rotate_left
     ·intro W hSw
      go_simp
      try with_reducible rfl
     try simp only [Act.put, zA, zB, zC]
     refine zT 13 29 ?_ rfl (by kernel_rfl) (by kernel_rfl) (by kernel_rfl) (fun _ _ _ h => h) (by rfl) ?_ hHeld ?_
     rotate_left
     ·intro W hSw
      have e2 := HB2.out W hSw.1
      go_simp
      try with_reducible rfl
     try simp only [Act.put, zA, zB, zC]
     refine zT 14 30 ?_ rfl (by kernel_rfl) (by kernel_rfl) (by kernel_rfl) (fun _ _ _ h => h) (by rfl) ?_ hHeld ?_
     rotate_left
     ·intro W hSw
      go_simp
      try with_reducible rfl
     try simp only [Act.put, zA, zB, zC]
     refine zT 15 31 ?_ rfl (by kernel_rfl) (by kernel_rfl) (by kernel_rfl) (fun _ _ _ h => h) (by rfl) ?_ hHeld ?_
     rotate_left
     ·intro W hSw
      go_simp
      try with_reducible rfl
     try simp only [Act.put, zA, zB, zC]
     refine zT 16 32 ?_ rfl (by kernel_rfl) (by kernel_rfl) (by kernel_rfl) (fun _ _ _ h => h) (by rfl) ?_ hHeld ?_
     rotate_left
     ·intro W hSw
      go_simp
      try with_reducible rfl
     try simp only [Act.put, zA, zB, zC]
     by_cases hmore : NB < c.num
     ·have HNX : Hid (bst (deltaB wn) l (k + 1) = some k) := bst_more hb HP.out (by rw [hNB, HC.out]; exact hmore)
      refine wpAnyH_done (by kernel_rfl) ?_ _
      have HD : Hid (Below w.heap.size w w3 /\ Blk w3 w.heap.size 49 #[.string ⟨#[]⟩, .int .i64 0, .int .i64 0, .int .i64 0, .int .i64 0, .slice none 0 0, .string ⟨#[]⟩]) := ⟨HH.out.1, HH.out.2.1⟩
      clear HH hHeld HBW HCL
      go_wp2_with fail
      go_roundw
      case rel => exact ⟨k + 1, by omega, by go_num, by rw [HNX.out]; try rfl, HD.out⟩
      case measure => simp [intOf]; omega
     ·have HNX : Hid (bst (deltaB wn) l (k + 1) = some b) := bst_less hb (by rw [hNB, HC.out]; exact hmore)
      refine wpAnyH_done (by kernel_rfl) ?_ _
      have HD : Hid (Below w.heap.size w w3 /\ Blk w3 w.heap.size 49 #[.string ⟨#[]⟩, .int .i64 0, .int .i64 0, .int .i64 0, .int .i64 0, .slice none 0 0, .string ⟨#[]⟩]) := ⟨HH.out.1, HH.out.2.1⟩
      clear HH hHeld HBW HCL
      go_wp2_with fail
      go_roundw
      case rel => exact ⟨k + 1, by omega, by go_num, by rw [HNX.out]; try rfl, HD.out⟩
      case measure => simp [intOf]; omega
  ·have hki : ¬ (k : Int) < (n : Int) := by omega
   have hkl : k = n := by omega
   subst hkl
   have HNW : Hid (nwL (deltaB wn) l = (bst (deltaB wn) l k).map fun b => l.getD b zeL) := by show nwL (deltaB wn) l = _; unfold nwL; rw [HA.out.2.1]
   cases hb : bst (deltaB wn) l k with
   | none =>
    have HN : Hid (oR = none) := by show oR = none; rw [<- HR.out, HNW.out, hb]; rfl
    have r0 : wr.cell? ⟨w.heap.size, 0, none⟩ = some (.string ⟨#[]⟩) := H.out.2.cell 0
    have r1 : wr.cell? ⟨w.heap.size, 1, none⟩ = some (.int .i64 0) := H.out.2.cell 1
    have r2 : wr.cell? ⟨w.heap.size, 2, none⟩ = some (.int .i64 0) := H.out.2.cell 2
    have r3 : wr.cell? ⟨w.heap.size, 3, none⟩ = some (.int .i64 0) := H.out.2.cell 3
    have r4 : wr.cell? ⟨w.heap.size, 4, none⟩ = some (.int .i64 0) := H.out.2.cell 4
    have r5 : wr.cell? ⟨w.heap.size, 5, none⟩ = some (.slice none 0 0) := H.out.2.cell 5
    have r6 : wr.cell? ⟨w.heap.size, 6, none⟩ = some (.string ⟨#[]⟩) := H.out.2.cell 6
    have rf := fun i => H.out.2.free i
    simp only [plV]
    go_wp2_with fail
    refine bodyPost_ret (v := .tuple #[.agg #[.string ⟨#[]⟩, .int .i64 0, .int .i64 0, .int .i64 0, .int .i64 0, .slice none 0 0, .string ⟨#[]⟩], .bool false]) (by simp [results, Tryz.results150, go_sem, r0, r1, r2, r3, r4, r5, r6]; try rfl) rfl ⟨_, by rw [HN.out]; rfl, ?_, ?_⟩
    ·rw [HN.out]
     exact own_zeL _ _
    ·iterate 7 refine Below.setCell ?_ (by show w.heap.size <= w.heap.size; exact Nat.le_refl _) _
     exact H.out.1
   | some b =>
    have hblt := bst_lt hb
    have hbi : (b : Int) < (k : Int) := by omega
    have hb0 : (0 : Int) <= (b : Int) := by omega
    have hbn : ¬ (b : Int) < 0 := by omega
    obtain ⟨g, hg, hgw⟩ := HA.out.2.2.2 (by omega)
    subst hg
    obtain ⟨p1, q1, hoc, hc1⟩ := HA.out.1.one HA.out.2.1.symm (show b < l.length by have := HA.out.2.1; omega)
    obtain ⟨c, hc⟩ : ∃ c, l.getD b zeL = c := ⟨_, rfl⟩
    have HN : Hid (oR = some c) := by show oR = some c; rw [<- HR.out, HNW.out, hb, <- hc]; rfl
    rw [hc] at hc1 hoc
    have hrl : c.revs.length <= 20000000 := by rw [<- hc]; exact wtS_getD HA.out.2.2.1 (by have := HA.out.2.1; omega)
    have hwt := wt_parts2 HA.out.2.2.1 (show b < l.length by have := HA.out.2.1; omega)
    rw [hc] at hwt
    have EC := ownCrl_any c (clV c (.slice p1 c.revs.length q1)) bs wr hrl (by omega) (by omega) (hoc.stays H.out.1)
    have x0 : wr.cell? ⟨g, b * 7, none⟩ = some (.string c.issuer) := (H.out.1.cell (p := ⟨g, b * 7, none⟩) hgw).trans (hc1 0 _ rfl)
    have x1 : wr.cell? ⟨g, b * 7 + 1, none⟩ = some (.int .i64 c.num) := (H.out.1.cell (p := ⟨g, b * 7 + 1, none⟩) hgw).trans (hc1 1 _ rfl)
    have x2 : wr.cell? ⟨g, b * 7 + 2, none⟩ = some (.int .i64 c.ths) := (H.out.1.cell (p := ⟨g, b * 7 + 2, none⟩) hgw).trans (hc1 2 _ rfl)
    have x3 : wr.cell? ⟨g, b * 7 + 3, none⟩ = some (.int .i64 c.nxt) := (H.out.1.cell (p := ⟨g, b * 7 + 3, none⟩) hgw).trans (hc1 3 _ rfl)
    have x4 : wr.cell? ⟨g, b * 7 + 4, none⟩ = some (.int .i64 c.bas) := (H.out.1.cell (p := ⟨g, b * 7 + 4, none⟩) hgw).trans (hc1 4 _ rfl)
    have x5 : wr.cell? ⟨g, b * 7 + 5, none⟩ = some (.slice p1 c.revs.length q1) := (H.out.1.cell (p := ⟨g, b * 7 + 5, none⟩) hgw).trans (hc1 5 _ rfl)
    have x6 : wr.cell? ⟨g, b * 7 + 6, none⟩ = some (.string c.sig) := (H.out.1.cell (p := ⟨g, b * 7 + 6, none⟩) hgw).trans (hc1 6 _ rfl)
    unfold clV at EC
    clear hc1 hoc hc hrl hwt
    simp only [plV]
    go_wp2_with fail
    refine EC.mono ?_
    rintro e w3 ⟨u3, rfl, ⟨p3, rfl, ho3⟩, hb3⟩
    obtain ⟨qa, qc, hq3, -, -, -⟩ := OwnR.shape ho3
    subst hq3
    have H3 : Hid ((Below w.heap.size w w3 /\ Blk w3 w.heap.size 49 #[.string ⟨#[]⟩, .int .i64 0, .int .i64 0, .int .i64 0, .int .i64 0, .slice none 0 0, .string ⟨#[]⟩]) /\ OwnR w3 wr.heap.size (.slice qa c.revs.length qc) c.revs /\ w.heap.size < wr.heap.size) := ⟨⟨H.out.1.trans (hb3.mono H.out.1.size), H.out.2.below hb3 H.out.2.lt⟩, ho3, H.out.2.lt⟩
    clear H EC ho3 hb3 x0 x1 x2 x3 x4 x5 x6
    have r0 : w3.cell? ⟨w.heap.size, 0, none⟩ = some (.string ⟨#[]⟩) := H3.out.1.2.cell 0
    have r1 : w3.cell? ⟨w.heap.size, 1, none⟩ = some (.int .i64 0) := H3.out.1.2.cell 1
    have r2 : w3.cell? ⟨w.heap.size, 2, none⟩ = some (.int .i64 0) := H3.out.1.2.cell 2
    have r3 : w3.cell? ⟨w.heap.size, 3, none⟩ = some (.int .i64 0) := H3.out.1.2.cell 3
    have r4 : w3.cell? ⟨w.heap.size, 4, none⟩ = some (.int .i64 0) := H3.out.1.2.cell 4
    have r5 : w3.cell? ⟨w.heap.size, 5, none⟩ = some (.slice none 0 0) := H3.out.1.2.cell 5
    have r6 : w3.cell? ⟨w.heap.size, 6, none⟩ = some (.string ⟨#[]⟩) := H3.out.1.2.cell 6
    have rf := fun i => H3.out.1.2.free i
    unfold clV
    go_wp2_with fail
    refine bodyPost_ret (v := .tuple #[.agg #[.string c.issuer, .int .i64 c.num, .int .i64 c.ths, .int .i64 c.nxt, .int .i64 c.bas, .slice qa c.revs.length qc, .string c.sig], .bool true]) (by simp [results, Tryz.results150, go_sem, r0, r1, r2, r3, r4, r5, r6]; try rfl) rfl ⟨_, by rw [HN.out]; rfl, ?_, ?_⟩
    ·rw [HN.out]
     refine ⟨_, rfl, OwnR.base (row_same H3.out.2.1 (fun y hy => ?_)) (by have := H3.out.2.2; omega)⟩
     have hy2 := (World.ownsRow.lt H3.out.2.1 y hy).1
     have hy3 := H3.out.2.2
     iterate 7 rw [heap_setCell_other _ _ _ _ (by show y ≠ w.heap.size; omega)]
    ·iterate 7 refine Below.setCell ?_ (by show w.heap.size <= w.heap.size; exact Nat.le_refl _) _
     exact H3.out.1.1
set_option maxHeartbeats 6400000 in
theorem implWholeOf_any (l : List Cl) (v : Value) (bs : Nat) (fp : List Nat) (w : World) (hl : wtS l <= 20000000) (ha : OwnS crlKd w bs v l fp) :
  Calls Tryz.prog 147 #[v] w fun e w' => NwPost w (nwL wholeB l) e w' := by
 obtain ⟨W1, hW1⟩ : ∃ V, V = w.alloc (Obj.cells #[.string ⟨#[]⟩, .int .i64 0, .int .i64 0, .int .i64 0, .int .i64 0, .slice none 0 0, .string ⟨#[]⟩] 49) := ⟨_, rfl⟩
 have H1 : Hid (Below w.heap.size w W1 /\ Blk W1 w.heap.size 49 #[.string ⟨#[]⟩, .int .i64 0, .int .i64 0, .int .i64 0, .int .i64 0, .slice none 0 0, .string ⟨#[]⟩]) := by rw [hW1]; exact ⟨(Below.refl _ _).alloc (Nat.le_refl _) _, Blk.new _ _ _⟩
 have EN := newestWhole_any l v bs fp W1 hl (ha.stays H1.out.1)
 obtain ⟨oR, hoR⟩ : ∃ r, nwL wholeB l = r := ⟨_, rfl⟩
 rw [hoR] at EN |-
 clear hoR
 obtain ⟨ao, cap, hv, -⟩ := ha.row
 obtain ⟨n, hn⟩ : ∃ n, l.length = n := ⟨_, rfl⟩
 rw [hn] at hv
 subst hv
 clear hn ha hl
 go_enter Tryz.func147, Tryz.ntmps147
 go_upto_region 1 with fail
 rw [<- hW1]
 clear hW1
 go_wp2_with fail
 refine EN.mono ?_
 rintro e w3 ⟨u3, rfl, ⟨p3, rfl, ho3⟩, hb3⟩
 obtain ⟨cR, hcR⟩ : ∃ c, oR.getD zeL = c := ⟨_, rfl⟩
 have HCR : Hid (oR.getD zeL = cR) := hcR
 rw [hcR] at ho3 |-
 clear hcR
 obtain ⟨qa, qc, hq3, -, -, -⟩ := OwnR.shape ho3
 obtain ⟨ql, hql⟩ : ∃ q, cR.revs.length = q := ⟨_, rfl⟩
 rw [hql] at hq3
 subst hq3
 have H3 : Hid ((Below w.heap.size w w3 /\ Blk w3 w.heap.size 49 #[.string ⟨#[]⟩, .int .i64 0, .int .i64 0, .int .i64 0, .int .i64 0, .slice none 0 0, .string ⟨#[]⟩]) /\ OwnR w3 W1.heap.size (.slice qa ql qc) cR.revs /\ w.heap.size < W1.heap.size) := ⟨⟨H1.out.1.trans (hb3.mono H1.out.1.size), H1.out.2.below hb3 H1.out.2.lt⟩, ho3, H1.out.2.lt⟩
 clear H1 EN ho3 hb3 hql
 have r0 : w3.cell? ⟨w.heap.size, 0, none⟩ = some (.string ⟨#[]⟩) := H3.out.1.2.cell 0
 have r1 : w3.cell? ⟨w.heap.size, 1, none⟩ = some (.int .i64 0) := H3.out.1.2.cell 1
 have r2 : w3.cell? ⟨w.heap.size, 2, none⟩ = some (.int .i64 0) := H3.out.1.2.cell 2
 have r3 : w3.cell? ⟨w.heap.size, 3, none⟩ = some (.int .i64 0) := H3.out.1.2.cell 3
 have r4 : w3.cell? ⟨w.heap.size, 4, none⟩ = some (.int .i64 0) := H3.out.1.2.cell 4
 have r5 : w3.cell? ⟨w.heap.size, 5, none⟩ = some (.slice none 0 0) := H3.out.1.2.cell 5
 have r6 : w3.cell? ⟨w.heap.size, 6, none⟩ = some (.string ⟨#[]⟩) := H3.out.1.2.cell 6
 have rf := fun i => H3.out.1.2.free i
 obtain ⟨ok, hok⟩ : ∃ b, oR.isSome = b := ⟨_, rfl⟩
 rw [hok]
 have HOK : Hid (oR.isSome = ok) := hok
 clear hok
 unfold clV
 go_wp2_with fail
 refine bodyPost_ret (v := .tuple #[.agg #[.string cR.issuer, .int .i64 cR.num, .int .i64 cR.ths, .int .i64 cR.nxt, .int .i64 cR.bas, .slice qa ql qc, .string cR.sig], .bool ok]) (by simp [results, Tryz.results147, go_sem, r0, r1, r2, r3, r4, r5, r6]; try rfl) rfl ⟨_, by rw [HOK.out], ?_, ?_⟩
 ·rw [HCR.out]
  refine ⟨_, rfl, OwnR.base (row_same H3.out.2.1 (fun y hy => ?_)) (by have := H3.out.2.2; omega)⟩
  have hy2 := (World.ownsRow.lt H3.out.2.1 y hy).1
  have hy3 := H3.out.2.2
  iterate 7 rw [heap_setCell_other _ _ _ _ (by show y ≠ w.heap.size; omega)]
 ·iterate 7 refine Below.setCell ?_ (by show w.heap.size <= w.heap.size; omega) _
  exact H3.out.1.1
set_option maxHeartbeats 6400000 in
theorem implDeltaOf_any (l : List Cl) (v : Value) (wc : Cl) (wp : Value) (bs : Nat) (fp : List Nat) (w : World) (hl : wtS l <= 20000000) (ha : OwnS crlKd w bs v l fp) :
  Calls Tryz.prog 54 #[v, clV wc wp] w fun e w' => NwPost w (nwL (deltaB wc.num) l) e w' := by
 obtain ⟨wn, hwn⟩ : ∃ q, wc.num = q := ⟨_, rfl⟩
 unfold clV
 rw [hwn]
 clear hwn
 have hmf : ∀ (fn : Fn) (first cap : Array Value) (w : World), (Instr.makeFunc fn first cap).run Tryz.prog w = .ok (.func fn first cap) w := fun _ _ _ _ => rfl
 obtain ⟨W0, hW0⟩ : ∃ V, V = w.alloc (Obj.cells #[.string wc.issuer, .int .i64 wn, .int .i64 wc.ths, .int .i64 wc.nxt, .int .i64 wc.bas, wp, .string wc.sig] 49) := ⟨_, rfl⟩
 obtain ⟨W1, hW1⟩ : ∃ V, V = W0.alloc (Obj.cells #[.string ⟨#[]⟩, .int .i64 0, .int .i64 0, .int .i64 0, .int .i64 0, .slice none 0 0, .string ⟨#[]⟩] 49) := ⟨_, rfl⟩
 have hs0 : W0.heap.size = w.heap.size + 1 := by rw [hW0]; exact size_alloc _ _
 have H1 : Hid (Below w.heap.size w W1 /\ Blk W1 (w.heap.size + 1) 49 #[.string ⟨#[]⟩, .int .i64 0, .int .i64 0, .int .i64 0, .int .i64 0, .slice none 0 0, .string ⟨#[]⟩]) := by
  have h1 := Blk.new W0 49 #[.string ⟨#[]⟩, .int .i64 0, .int .i64 0, .int .i64 0, .int .i64 0, .slice none 0 0, .string ⟨#[]⟩]
  rw [hs0] at h1
  rw [hW1]
  refine ⟨?_, h1⟩
  rw [hW0]
  exact ((Below.refl _ _).alloc (Nat.le_refl _) _).alloc (by rw [size_alloc]; omega) _
 have hd : Blk W1 w.heap.size 49 #[.string wc.issuer, .int .i64 wn, .int .i64 wc.ths, .int .i64 wc.nxt, .int .i64 wc.bas, wp, .string wc.sig] := by rw [hW1, hW0]; exact (Blk.new _ _ _).alloc _
 have EN := newestDelta_any l v w.heap.size wn bs fp W1 hl (hd.cell 1) (ha.stays H1.out.1)
 clear hd
 obtain ⟨oR, hoR⟩ : ∃ r, nwL (deltaB wn) l = r := ⟨_, rfl⟩
 rw [hoR] at EN |-
 clear hoR
 obtain ⟨ao, cap, hv, -⟩ := ha.row
 obtain ⟨n, hn⟩ : ∃ n, l.length = n := ⟨_, rfl⟩
 rw [hn] at hv
 subst hv
 clear hn ha hl
 go_enter Tryz.func54, Tryz.ntmps54
 go_upto_region 1 with fail
 rw [<- hW0, <- hW1]
 try rw [hs0]
 clear hW1 hW0 hs0
 go_wp2_with fail
 refine EN.mono ?_
 rintro e w3 ⟨u3, rfl, ⟨p3, rfl, ho3⟩, hb3⟩
 obtain ⟨cR, hcR⟩ : ∃ c, oR.getD zeL = c := ⟨_, rfl⟩
 have HCR : Hid (oR.getD zeL = cR) := hcR
 rw [hcR] at ho3 |-
 clear hcR
 obtain ⟨qa, qc, hq3, -, -, -⟩ := OwnR.shape ho3
 obtain ⟨ql, hql⟩ : ∃ q, cR.revs.length = q := ⟨_, rfl⟩
 rw [hql] at hq3
 subst hq3
 have H3 : Hid ((Below w.heap.size w w3 /\ Blk w3 (w.heap.size + 1) 49 #[.string ⟨#[]⟩, .int .i64 0, .int .i64 0, .int .i64 0, .int .i64 0, .slice none 0 0, .string ⟨#[]⟩]) /\ OwnR w3 W1.heap.size (.slice qa ql qc) cR.revs /\ (w.heap.size + 1) < W1.heap.size) := ⟨⟨H1.out.1.trans (hb3.mono H1.out.1.size), H1.out.2.below hb3 H1.out.2.lt⟩, ho3, H1.out.2.lt⟩
 clear H1 EN ho3 hb3 hql
 have r0 : w3.cell? ⟨w.heap.size + 1, 0, none⟩ = some (.string ⟨#[]⟩) := H3.out.1.2.cell 0
 have r1 : w3.cell? ⟨w.heap.size + 1, 1, none⟩ = some (.int .i64 0) := H3.out.1.2.cell 1
 have r2 : w3.cell? ⟨w.heap.size + 1, 2, none⟩ = some (.int .i64 0) := H3.out.1.2.cell 2
 have r3 : w3.cell? ⟨w.heap.size + 1, 3, none⟩ = some (.int .i64 0) := H3.out.1.2.cell 3
 have r4 : w3.cell? ⟨w.heap.size + 1, 4, none⟩ = some (.int .i64 0) := H3.out.1.2.cell 4
 have r5 : w3.cell? ⟨w.heap.size + 1, 5, none⟩ = some (.slice none 0 0) := H3.out.1.2.cell 5
 have r6 : w3.cell? ⟨w.heap.size + 1, 6, none⟩ = some (.string ⟨#[]⟩) := H3.out.1.2.cell 6
 have rf := fun i => H3.out.1.2.free i
 obtain ⟨ok, hok⟩ : ∃ b, oR.isSome = b := ⟨_, rfl⟩
 rw [hok]
 have HOK : Hid (oR.isSome = ok) := hok
 clear hok
 unfold clV
 go_wp2_with fail
 refine bodyPost_ret (v := .tuple #[.agg #[.string cR.issuer, .int .i64 cR.num, .int .i64 cR.ths, .int .i64 cR.nxt, .int .i64 cR.bas, .slice qa ql qc, .string cR.sig], .bool ok]) (by simp [results, Tryz.results54, go_sem, r0, r1, r2, r3, r4, r5, r6]; try rfl) rfl ⟨_, by rw [HOK.out], ?_, ?_⟩
 ·rw [HCR.out]
  refine ⟨_, rfl, OwnR.base (row_same H3.out.2.1 (fun y hy => ?_)) (by have := H3.out.2.2; omega)⟩
  have hy2 := (World.ownsRow.lt H3.out.2.1 y hy).1
  have hy3 := H3.out.2.2
  iterate 7 rw [heap_setCell_other _ _ _ _ (by show y ≠ (w.heap.size + 1); omega)]
 ·iterate 7 refine Below.setCell ?_ (by show w.heap.size <= (w.heap.size + 1); omega) _
  exact H3.out.1.1
end Go.Proofs.YtjgbmnhoajiabaaGreatDoor
namespace Go.Proofs.YtjgbmnhoajiabaaGreatDoor
open Go.RowKit Go.Maps Der
set_option linter.unusedVariables false
set_option linter.unusedSimpArgs false
set_option maxHeartbeats 12800000 in
theorem implStatusOf_any (l : List Cl) (v : Value) (ct : Ct) (cp ce cd : Value) (key : ByteArray) (time : Int) (bs : Nat) (fp : List Nat) (w : World) (hl : wtS l <= 1048576) (hwd : ∀ c ∈ l, WdL c) (hk : key.size <= 1048576) (hs : -9223372036854775808 <= ct.serial /\ ct.serial <= 9223372036854775807) (hH : ∀ w', Below w.heap.size w w' -> KeysOk w' /\ StartOk w') (ha : OwnS crlKd w bs v l fp) :
  Calls Tryz.prog 51 #[v, ctV ct cp ce cd, .string key, .int .i64 time] w fun e w' => e = .returned (.tuple #[.int .i64 (stB (l.filter (belB ct.issuer key time)) ct.serial).1, .int .i64 (stB (l.filter (belB ct.issuer key time)) ct.serial).2]) /\ Below w.heap.size w w' := by
 obtain ⟨told, htold⟩ : ∃ t, l.filter (belB ct.issuer key time) = t := ⟨_, rfl⟩
 obtain ⟨S, hS⟩ : ∃ s, ct.serial = s := ⟨_, rfl⟩
 obtain ⟨R1, hR1⟩ : ∃ r, (stB told S).1 = r := ⟨_, rfl⟩
 obtain ⟨R2, hR2⟩ : ∃ r, (stB told S).2 = r := ⟨_, rfl⟩
 have hwt : wtS told <= 1048576 := by rw [<- htold]; exact Nat.le_trans (wtS_filter _ _) hl
 have hok : ∀ c ∈ told, WdL c /\ crlOk c = true := fun c hc => by
  rw [<- htold] at hc
  obtain ⟨h1, h2⟩ := List.mem_filter.1 hc
  refine ⟨hwd c h1, ?_⟩
  cases h : crlOk c with
  | true => rfl
  | false =>
   rw [bel_ok h] at h2
   cases h2
 have HT0 : Hid ((∀ c ∈ told, WdL c /\ crlOk c = true) /\ wtS told <= 1048576) := ⟨hok, hwt⟩
 clear hok
 rw [hS] at hs
 rw [hS, htold, hR1, hR2]
 have HR : Hid ((stB told S).1 = R1 /\ (stB told S).2 = R2) := ⟨hR1, hR2⟩
 obtain ⟨oW, hoW⟩ : ∃ o, nwL wholeB told = o := ⟨_, rfl⟩
 have HOW : Hid (nwL wholeB told = oW) := hoW
 obtain ⟨wh, hwh⟩ : ∃ c, oW.getD zeL = c := ⟨_, rfl⟩
 obtain ⟨kW, hkW⟩ : ∃ b, oW.isSome = b := ⟨_, rfl⟩
 have HWH : Hid (oW.getD zeL = wh /\ oW.isSome = kW /\ wtL wh <= 1048576) := ⟨hwh, hkW, by rw [<- hwh, <- hoW]; exact nw_wt hwt⟩
 obtain ⟨oD, hoD⟩ : ∃ o, nwL (deltaB wh.num) told = o := ⟨_, rfl⟩
 have HOD : Hid (nwL (deltaB wh.num) told = oD) := hoD
 obtain ⟨dl, hdl⟩ : ∃ c, oD.getD zeL = c := ⟨_, rfl⟩
 obtain ⟨kD, hkD⟩ : ∃ b, oD.isSome = b := ⟨_, rfl⟩
 have HDL : Hid (oD.getD zeL = dl /\ oD.isSome = kD /\ wtL dl <= 1048576) := ⟨hdl, hkD, by rw [<- hdl, <- hoD]; exact nw_wt hwt⟩
 have CO : Hid (∀ W : World, Below w.heap.size w W -> Calls Tryz.prog 48 #[v, .string ct.issuer, .string key, .int .i64 time] W fun e w' => ∃ u fq, e = .returned u /\ OwnS crlKd w' W.heap.size u told fq /\ Below W.heap.size W w') := fun W hb => by rw [<- htold]; exact implCrlsOf_any l v ct.issuer key time bs fp W hl hwd hk (fun w' hb' => hH w' (hb.trans (hb'.mono hb.size))) (ha.stays hb)
 clear hH
 have CW : Hid (∀ (W : World) (b : Nat) (u : Value) (fq : List Nat), OwnS crlKd W b u told fq -> Calls Tryz.prog 147 #[u] W fun e w' => ∃ u, e = .returned (.tuple #[u, .bool kW]) /\ OwnL w' W.heap.size u wh /\ Below W.heap.size W w') := fun W b u fq h => (implWholeOf_any told u b fq W (by omega) h).mono fun e w' h => by
  obtain ⟨u, h1, h2, h3⟩ := h
  rw [hoW, hwh] at h2
  rw [hoW, hkW] at h1
  exact ⟨u, h1, h2, h3⟩
 have CD : Hid (∀ (W : World) (b : Nat) (u p : Value) (fq : List Nat), OwnS crlKd W b u told fq -> Calls Tryz.prog 54 #[u, clV wh p] W fun e w' => ∃ u, e = .returned (.tuple #[u, .bool kD]) /\ OwnL w' W.heap.size u dl /\ Below W.heap.size W w') := fun W b u p fq h => (implDeltaOf_any told u wh p b fq W (by omega) h).mono fun e w' h => by
  obtain ⟨u, h1, h2, h3⟩ := h
  rw [hoD, hdl] at h2
  rw [hoD, hkD] at h1
  exact ⟨u, h1, h2, h3⟩
 have HSX : Hid (-9223372036854775808 <= S /\ S <= 9223372036854775807) := hs
 unfold ctV
 rw [hS]
 clear hR1 hR2 hoW hwh hkW hoD hdl hkD hwt htold hS hl hwd hk hs ha
 obtain ⟨W1, hW1⟩ : ∃ V, V = w.alloc (Obj.cells #[.int .i64 S, .string ct.issuer, .string ct.subject, .int .i64 ct.frm, .int .i64 ct.upto, .string ct.key, .bool ct.ca, .int .i64 ct.pathLen, .int .i64 ct.usage, cp, ce, cd, .string ct.sig] 27) := ⟨_, rfl⟩
 have HA0 : Hid ((Below w.heap.size w W1 /\ Blk W1 w.heap.size 27 #[.int .i64 S, .string ct.issuer, .string ct.subject, .int .i64 ct.frm, .int .i64 ct.upto, .string ct.key, .bool ct.ca, .int .i64 ct.pathLen, .int .i64 ct.usage, cp, ce, cd, .string ct.sig]) /\ W1.heap.size = w.heap.size + 1) := ⟨by rw [hW1]; exact ⟨(Below.refl _ _).alloc (Nat.le_refl _) _, Blk.new _ _ _⟩, by rw [hW1]; exact size_alloc _ _⟩
 go_enter Tryz.func51, Tryz.ntmps51
 go_upto_region 1 with fail
 rw [<- hW1]
 clear hW1
 have HB : Hid (Below w.heap.size w W1) := HA0.out.1.1
 have HA : Hid (Blk W1 w.heap.size 27 #[.int .i64 S, .string ct.issuer, .string ct.subject, .int .i64 ct.frm, .int .i64 ct.upto, .string ct.key, .bool ct.ca, .int .i64 ct.pathLen, .int .i64 ct.usage, cp, ce, cd, .string ct.sig]) := HA0.out.1.2
 have O0 : Hid (W1.heap.size = w.heap.size + 1) := HA0.out.2
 clear HA0
 have i1 : W1.cell? ⟨w.heap.size, 1, none⟩ = some (.string ct.issuer) := HA.out.cell 1
 go_wp2_with fail
 clear i1
 refine (CO.out W1 HB.out).mono ?_
 rintro e w2 ⟨uT, fpT, rfl, ho, hb⟩
 have HBn : Hid (Below w.heap.size w w2) := Below.on HB.out hb HB.out.size
 clear HB
 have HB := HBn
 clear HBn
 have HAn : Hid (Blk w2 w.heap.size 27 #[.int .i64 S, .string ct.issuer, .string ct.subject, .int .i64 ct.frm, .int .i64 ct.upto, .string ct.key, .bool ct.ca, .int .i64 ct.pathLen, .int .i64 ct.usage, cp, ce, cd, .string ct.sig]) := HA.out.below hb HA.out.lt
 clear HA
 have HA := HAn
 clear HAn
 have O1 : Hid (W1.heap.size <= w2.heap.size) := hb.size
 have LT : Hid (∀ b ∈ fpT, W1.heap.size <= b /\ b < w2.heap.size) := ho.lt
 have HT : Hid (OwnS crlKd w2 W1.heap.size uT told fpT) := ho
 clear ho hb
 go_wp2_with fail
 refine (CW.out w2 _ _ _ HT.out).mono ?_
 rintro e w3 ⟨uW, rfl, ho, hb⟩
 have HBn : Hid (Below w.heap.size w w3) := Below.on HB.out hb HB.out.size
 clear HB
 have HB := HBn
 clear HBn
 have HAn : Hid (Blk w3 w.heap.size 27 #[.int .i64 S, .string ct.issuer, .string ct.subject, .int .i64 ct.frm, .int .i64 ct.upto, .string ct.key, .bool ct.ca, .int .i64 ct.pathLen, .int .i64 ct.usage, cp, ce, cd, .string ct.sig]) := HA.out.below hb HA.out.lt
 clear HA
 have HA := HAn
 clear HAn
 have HTn : Hid (OwnS crlKd w3 W1.heap.size uT told fpT) := HT.out.stays hb
 clear HT
 have HT := HTn
 clear HTn
 have O2 : Hid (w2.heap.size <= w3.heap.size) := hb.size
 obtain ⟨pW, qW, huW⟩ := ClAt.shape ho.at
 subst huW
 unfold clV at ho |-
 have LW : Hid (∀ b ∈ fpL (.agg #[.string wh.issuer, .int .i64 wh.num, .int .i64 wh.ths, .int .i64 wh.nxt, .int .i64 wh.bas, .slice pW wh.revs.length qW, .string wh.sig]), w2.heap.size <= b /\ b < w3.heap.size) := fpL_lt ho
 have HW : Hid (OwnL w3 w2.heap.size (.agg #[.string wh.issuer, .int .i64 wh.num, .int .i64 wh.ths, .int .i64 wh.nxt, .int .i64 wh.bas, .slice pW wh.revs.length qW, .string wh.sig]) wh) := ho
 clear ho hb
 cases kW with
 | false =>
  have HNW : Hid (nwL wholeB told = none) := by
   show _ = _
   rw [HOW.out]
   have h := HWH.out.2.1
   cases oW with
   | none => rfl
   | some x => cases h
  go_wp2_with fail
  obtain ⟨W4, hW4⟩ : ∃ W, W = w3.alloc (Obj.cells #[.string wh.issuer, .int .i64 wh.num, .int .i64 wh.ths, .int .i64 wh.nxt, .int .i64 wh.bas, .slice pW wh.revs.length qW, .string wh.sig] 49) := ⟨_, rfl⟩
  rw [<- hW4]
  have hbW4 : Below w3.heap.size w3 W4 := by rw [hW4]; exact (Below.refl _ _).alloc (Nat.le_refl _) _
  have HBn : Hid (Below w.heap.size w W4) := Below.on HB.out hbW4 HB.out.size
  clear HB
  have HB := HBn
  clear HBn
  have HAn : Hid (Blk W4 w.heap.size 27 #[.int .i64 S, .string ct.issuer, .string ct.subject, .int .i64 ct.frm, .int .i64 ct.upto, .string ct.key, .bool ct.ca, .int .i64 ct.pathLen, .int .i64 ct.usage, cp, ce, cd, .string ct.sig]) := HA.out.below hbW4 HA.out.lt
  clear HA
  have HA := HAn
  clear HAn
  have HTn : Hid (OwnS crlKd W4 W1.heap.size uT told fpT) := HT.out.stays hbW4
  clear HT
  have HT := HTn
  clear HTn
  have HWn : Hid (OwnL W4 w2.heap.size (.agg #[.string wh.issuer, .int .i64 wh.num, .int .i64 wh.ths, .int .i64 wh.nxt, .int .i64 wh.bas, .slice pW wh.revs.length qW, .string wh.sig]) wh) := HW.out.stays hbW4
  clear HW
  have HW := HWn
  clear HWn
  have O3 : Hid (w3.heap.size <= W4.heap.size) := hbW4.size
  have VW : Hid (Blk W4 w3.heap.size 49 #[.string wh.issuer, .int .i64 wh.num, .int .i64 wh.ths, .int .i64 wh.nxt, .int .i64 wh.bas, .slice pW wh.revs.length qW, .string wh.sig]) := by rw [hW4]; exact Blk.new w3 _ _
  have O4 : Hid (W4.heap.size = w3.heap.size + 1) := by rw [hW4]; exact size_alloc _ _
  clear hW4 hbW4
  have HQ : Hid (R1 = 3 /\ R2 = 0) := by
   have h := HR.out
   rw [st_none HNW.out] at h
   exact ⟨h.1.symm, h.2.symm⟩
  go_wp2_with fail
  go_ret2
  exact ⟨by rw [HQ.out.1, HQ.out.2]; rfl, HB.out⟩
 | true =>
  have HNW : Hid (nwL wholeB told = some wh) := by
   show _ = _
   rw [HOW.out]
   have h := HWH.out
   cases oW with
   | none => cases h.2.1
   | some x => rw [<- h.1]; rfl
  go_upto_region 5 with fail
  obtain ⟨W4, hW4⟩ : ∃ W, W = w3.alloc (Obj.cells #[.string wh.issuer, .int .i64 wh.num, .int .i64 wh.ths, .int .i64 wh.nxt, .int .i64 wh.bas, .slice pW wh.revs.length qW, .string wh.sig] 49) := ⟨_, rfl⟩
  rw [<- hW4]
  have hbW4 : Below w3.heap.size w3 W4 := by rw [hW4]; exact (Below.refl _ _).alloc (Nat.le_refl _) _
  have HBn : Hid (Below w.heap.size w W4) := Below.on HB.out hbW4 HB.out.size
  clear HB
  have HB := HBn
  clear HBn
  have HAn : Hid (Blk W4 w.heap.size 27 #[.int .i64 S, .string ct.issuer, .string ct.subject, .int .i64 ct.frm, .int .i64 ct.upto, .string ct.key, .bool ct.ca, .int .i64 ct.pathLen, .int .i64 ct.usage, cp, ce, cd, .string ct.sig]) := HA.out.below hbW4 HA.out.lt
  clear HA
  have HA := HAn
  clear HAn
  have HTn : Hid (OwnS crlKd W4 W1.heap.size uT told fpT) := HT.out.stays hbW4
  clear HT
  have HT := HTn
  clear HTn
  have HWn : Hid (OwnL W4 w2.heap.size (.agg #[.string wh.issuer, .int .i64 wh.num, .int .i64 wh.ths, .int .i64 wh.nxt, .int .i64 wh.bas, .slice pW wh.revs.length qW, .string wh.sig]) wh) := HW.out.stays hbW4
  clear HW
  have HW := HWn
  clear HWn
  have O3 : Hid (w3.heap.size <= W4.heap.size) := hbW4.size
  have VW : Hid (Blk W4 w3.heap.size 49 #[.string wh.issuer, .int .i64 wh.num, .int .i64 wh.ths, .int .i64 wh.nxt, .int .i64 wh.bas, .slice pW wh.revs.length qW, .string wh.sig]) := by rw [hW4]; exact Blk.new w3 _ _
  have O4 : Hid (W4.heap.size = w3.heap.size + 1) := by rw [hW4]; exact size_alloc _ _
  clear hW4 hbW4
  have hmm := @run_makeMap Tryz.prog
  go_upto_region 6 with fail
  obtain ⟨W5, hW5⟩ : ∃ W, W = W4.alloc (Obj.map #[] 0) := ⟨_, rfl⟩
  try rw [<- hW5]
  have hbW5 : Below W4.heap.size W4 W5 := by rw [hW5]; exact (Below.refl _ _).alloc (Nat.le_refl _) _
  obtain ⟨gM, hgM⟩ : ∃ q, W4.heap.size = q := ⟨_, rfl⟩
  have HM0 : Hid (MapAt W5 gM 0 (.map [])) := by rw [hW5, <- hgM]; exact World.ownsMap_made _ _ _ _
  have HBn : Hid (Below w.heap.size w W5) := Below.on HB.out hbW5 HB.out.size
  clear HB
  have HB := HBn
  clear HBn
  have HAn : Hid (Blk W5 w.heap.size 27 #[.int .i64 S, .string ct.issuer, .string ct.subject, .int .i64 ct.frm, .int .i64 ct.upto, .string ct.key, .bool ct.ca, .int .i64 ct.pathLen, .int .i64 ct.usage, cp, ce, cd, .string ct.sig]) := HA.out.below hbW5 HA.out.lt
  clear HA
  have HA := HAn
  clear HAn
  have HTn : Hid (OwnS crlKd W5 W1.heap.size uT told fpT) := HT.out.stays hbW5
  clear HT
  have HT := HTn
  clear HTn
  have HWn : Hid (OwnL W5 w2.heap.size (.agg #[.string wh.issuer, .int .i64 wh.num, .int .i64 wh.ths, .int .i64 wh.nxt, .int .i64 wh.bas, .slice pW wh.revs.length qW, .string wh.sig]) wh) := HW.out.stays hbW5
  clear HW
  have HW := HWn
  clear HWn
  have VWn : Hid (Blk W5 w3.heap.size 49 #[.string wh.issuer, .int .i64 wh.num, .int .i64 wh.ths, .int .i64 wh.nxt, .int .i64 wh.bas, .slice pW wh.revs.length qW, .string wh.sig]) := VW.out.below hbW5 VW.out.lt
  clear VW
  have VW := VWn
  clear VWn
  have O5 : Hid (W4.heap.size <= W5.heap.size) := hbW5.size
  have O6 : Hid (W4.heap.size = gM) := hgM
  have O7 : Hid (W5.heap.size = gM + 1) := by rw [hW5, <- hgM]; exact size_alloc _ _
  try rw [hgM]
  clear hW5 hbW5 hgM hmm
  have HM : Hid (MapAt W5 gM 0 (.map [])) := HM0.out
  clear HM0
  have LM : Hid (∀ b ∈ [gM], gM <= b /\ b < gM + 1) := fun b hb => by have := List.mem_singleton.1 hb; omega
  have HWDW : Hid (WdR wh.revs) := ((HT0.out.1 wh (nw_mem HNW.out)).1).2.1
  have c0 : W5.cell? ⟨w3.heap.size, 0, none⟩ = some (.string wh.issuer) := VW.out.cell 0
  have c1 : W5.cell? ⟨w3.heap.size, 1, none⟩ = some (.int .i64 wh.num) := VW.out.cell 1
  have c2 : W5.cell? ⟨w3.heap.size, 2, none⟩ = some (.int .i64 wh.ths) := VW.out.cell 2
  have c3 : W5.cell? ⟨w3.heap.size, 3, none⟩ = some (.int .i64 wh.nxt) := VW.out.cell 3
  have c4 : W5.cell? ⟨w3.heap.size, 4, none⟩ = some (.int .i64 wh.bas) := VW.out.cell 4
  have c5 : W5.cell? ⟨w3.heap.size, 5, none⟩ = some (.slice pW wh.revs.length qW) := VW.out.cell 5
  have c6 : W5.cell? ⟨w3.heap.size, 6, none⟩ = some (.string wh.sig) := VW.out.cell 6
  go_wp2_with fail
  clear c0 c1 c2 c3 c4 c5 c6
  have EH := hear_any wh (.slice pW wh.revs.length qW) gM (0) (.map []) W5 (by have := (wtL_parts HWH.out.2.2).2.1; omega) (wtL_parts HWH.out.2.2).2.1 (HWDW.out) HM.out (fun W ho => (HW.out.out ho (fun b hb hm => by have := LM.out b hm; have := LW.out b hb; have := O0.out; have := O1.out; have := O2.out; have := O3.out; have := O4.out; have := O5.out; have := O6.out; have := O7.out; omega)).at)
  unfold clV at EH
  refine (EH).mono ?_
  rintro e w6 ⟨rfl, hmap, hout⟩
  have HBn : Hid (Below w.heap.size w w6) := Below.out HB.out hout (fun b hm => by have := LM.out b hm; have := O0.out; have := O1.out; have := O2.out; have := O3.out; have := O4.out; have := O5.out; have := O6.out; have := O7.out; omega) HB.out.size
  clear HB
  have HB := HBn
  clear HBn
  have HAn : Hid (Blk w6 w.heap.size 27 #[.int .i64 S, .string ct.issuer, .string ct.subject, .int .i64 ct.frm, .int .i64 ct.upto, .string ct.key, .bool ct.ca, .int .i64 ct.pathLen, .int .i64 ct.usage, cp, ce, cd, .string ct.sig]) := HA.out.out hout (fun hm => by have := LM.out _ hm; have := O0.out; have := O1.out; have := O2.out; have := O3.out; have := O4.out; have := O5.out; have := O6.out; have := O7.out; omega)
  clear HA
  have HA := HAn
  clear HAn
  have HTn : Hid (OwnS crlKd w6 W1.heap.size uT told fpT) := HT.out.out hout (fun b hb hm => by have := LM.out b hm; have := LT.out b hb; have := O0.out; have := O1.out; have := O2.out; have := O3.out; have := O4.out; have := O5.out; have := O6.out; have := O7.out; omega)
  clear HT
  have HT := HTn
  clear HTn
  have HWn : Hid (OwnL w6 w2.heap.size (.agg #[.string wh.issuer, .int .i64 wh.num, .int .i64 wh.ths, .int .i64 wh.nxt, .int .i64 wh.bas, .slice pW wh.revs.length qW, .string wh.sig]) wh) := HW.out.out hout (fun b hb hm => by have := LM.out b hm; have := LW.out b hb; have := O0.out; have := O1.out; have := O2.out; have := O3.out; have := O4.out; have := O5.out; have := O6.out; have := O7.out; omega)
  clear HW
  have HW := HWn
  clear HWn
  have VWn : Hid (Blk w6 w3.heap.size 49 #[.string wh.issuer, .int .i64 wh.num, .int .i64 wh.ths, .int .i64 wh.nxt, .int .i64 wh.bas, .slice pW wh.revs.length qW, .string wh.sig]) := VW.out.out hout (fun hm => by have := LM.out _ hm; have := O0.out; have := O1.out; have := O2.out; have := O3.out; have := O4.out; have := O5.out; have := O6.out; have := O7.out; omega)
  clear VW
  have VW := VWn
  clear VWn
  have O8 : Hid (W5.heap.size <= w6.heap.size) := hout.2.2.2.1
  clear HM
  have HM : Hid (MapAt w6 gM (0 + wh.revs.length) (hrD (.map []) wh.revs)) := hmap
  clear hmap hout EH
  have c0 : w6.cell? ⟨w3.heap.size, 0, none⟩ = some (.string wh.issuer) := VW.out.cell 0
  have c1 : w6.cell? ⟨w3.heap.size, 1, none⟩ = some (.int .i64 wh.num) := VW.out.cell 1
  have c2 : w6.cell? ⟨w3.heap.size, 2, none⟩ = some (.int .i64 wh.ths) := VW.out.cell 2
  have c3 : w6.cell? ⟨w3.heap.size, 3, none⟩ = some (.int .i64 wh.nxt) := VW.out.cell 3
  have c4 : w6.cell? ⟨w3.heap.size, 4, none⟩ = some (.int .i64 wh.bas) := VW.out.cell 4
  have c5 : w6.cell? ⟨w3.heap.size, 5, none⟩ = some (.slice pW wh.revs.length qW) := VW.out.cell 5
  have c6 : w6.cell? ⟨w3.heap.size, 6, none⟩ = some (.string wh.sig) := VW.out.cell 6
  go_wp2_with fail
  clear c0 c1 c2 c3 c4 c5 c6
  refine (CD.out w6 _ _ _ _ HT.out).mono ?_
  rintro e w7 ⟨uD, rfl, ho, hb⟩
  have HMn : Hid (MapAt w7 gM (0 + wh.revs.length) (hrD (.map []) wh.revs)) := MapAt.below HM.out hb
  clear HM
  have HM := HMn
  clear HMn
  have HBn : Hid (Below w.heap.size w w7) := Below.on HB.out hb HB.out.size
  clear HB
  have HB := HBn
  clear HBn
  have HAn : Hid (Blk w7 w.heap.size 27 #[.int .i64 S, .string ct.issuer, .string ct.subject, .int .i64 ct.frm, .int .i64 ct.upto, .string ct.key, .bool ct.ca, .int .i64 ct.pathLen, .int .i64 ct.usage, cp, ce, cd, .string ct.sig]) := HA.out.below hb HA.out.lt
  clear HA
  have HA := HAn
  clear HAn
  have HTn : Hid (OwnS crlKd w7 W1.heap.size uT told fpT) := HT.out.stays hb
  clear HT
  have HT := HTn
  clear HTn
  have HWn : Hid (OwnL w7 w2.heap.size (.agg #[.string wh.issuer, .int .i64 wh.num, .int .i64 wh.ths, .int .i64 wh.nxt, .int .i64 wh.bas, .slice pW wh.revs.length qW, .string wh.sig]) wh) := HW.out.stays hb
  clear HW
  have HW := HWn
  clear HWn
  have VWn : Hid (Blk w7 w3.heap.size 49 #[.string wh.issuer, .int .i64 wh.num, .int .i64 wh.ths, .int .i64 wh.nxt, .int .i64 wh.bas, .slice pW wh.revs.length qW, .string wh.sig]) := VW.out.below hb VW.out.lt
  clear VW
  have VW := VWn
  clear VWn
  have O9 : Hid (w6.heap.size <= w7.heap.size) := hb.size
  obtain ⟨pD, qD, huD⟩ := ClAt.shape ho.at
  subst huD
  unfold clV at ho |-
  have LD : Hid (∀ b ∈ fpL (.agg #[.string dl.issuer, .int .i64 dl.num, .int .i64 dl.ths, .int .i64 dl.nxt, .int .i64 dl.bas, .slice pD dl.revs.length qD, .string dl.sig]), w6.heap.size <= b /\ b < w7.heap.size) := fpL_lt ho
  have HD : Hid (OwnL w7 w6.heap.size (.agg #[.string dl.issuer, .int .i64 dl.num, .int .i64 dl.ths, .int .i64 dl.nxt, .int .i64 dl.bas, .slice pD dl.revs.length qD, .string dl.sig]) dl) := ho
  clear ho hb
  cases kD with
  | false =>
   have HND : Hid (nwL (deltaB wh.num) told = none) := by
    show _ = _
    rw [HOD.out]
    have h := HDL.out.2.1
    cases oD with
    | none => rfl
    | some x => cases h
   go_upto_region 10 with fail
   obtain ⟨W8, hW8⟩ : ∃ W, W = w7.alloc (Obj.cells #[.string dl.issuer, .int .i64 dl.num, .int .i64 dl.ths, .int .i64 dl.nxt, .int .i64 dl.bas, .slice pD dl.revs.length qD, .string dl.sig] 49) := ⟨_, rfl⟩
   rw [<- hW8]
   have hbW8 : Below w7.heap.size w7 W8 := by rw [hW8]; exact (Below.refl _ _).alloc (Nat.le_refl _) _
   have HMn : Hid (MapAt W8 gM (0 + wh.revs.length) (hrD (.map []) wh.revs)) := MapAt.below HM.out hbW8
   clear HM
   have HM := HMn
   clear HMn
   have HBn : Hid (Below w.heap.size w W8) := Below.on HB.out hbW8 HB.out.size
   clear HB
   have HB := HBn
   clear HBn
   have HAn : Hid (Blk W8 w.heap.size 27 #[.int .i64 S, .string ct.issuer, .string ct.subject, .int .i64 ct.frm, .int .i64 ct.upto, .string ct.key, .bool ct.ca, .int .i64 ct.pathLen, .int .i64 ct.usage, cp, ce, cd, .string ct.sig]) := HA.out.below hbW8 HA.out.lt
   clear HA
   have HA := HAn
   clear HAn
   have HTn : Hid (OwnS crlKd W8 W1.heap.size uT told fpT) := HT.out.stays hbW8
   clear HT
   have HT := HTn
   clear HTn
   have HWn : Hid (OwnL W8 w2.heap.size (.agg #[.string wh.issuer, .int .i64 wh.num, .int .i64 wh.ths, .int .i64 wh.nxt, .int .i64 wh.bas, .slice pW wh.revs.length qW, .string wh.sig]) wh) := HW.out.stays hbW8
   clear HW
   have HW := HWn
   clear HWn
   have VWn : Hid (Blk W8 w3.heap.size 49 #[.string wh.issuer, .int .i64 wh.num, .int .i64 wh.ths, .int .i64 wh.nxt, .int .i64 wh.bas, .slice pW wh.revs.length qW, .string wh.sig]) := VW.out.below hbW8 VW.out.lt
   clear VW
   have VW := VWn
   clear VWn
   have HDn : Hid (OwnL W8 w6.heap.size (.agg #[.string dl.issuer, .int .i64 dl.num, .int .i64 dl.ths, .int .i64 dl.nxt, .int .i64 dl.bas, .slice pD dl.revs.length qD, .string dl.sig]) dl) := HD.out.stays hbW8
   clear HD
   have HD := HDn
   clear HDn
   have O10 : Hid (w7.heap.size <= W8.heap.size) := hbW8.size
   have VD : Hid (Blk W8 w7.heap.size 49 #[.string dl.issuer, .int .i64 dl.num, .int .i64 dl.ths, .int .i64 dl.nxt, .int .i64 dl.bas, .slice pD dl.revs.length qD, .string dl.sig]) := by rw [hW8]; exact Blk.new w7 _ _
   have O11 : Hid (W8.heap.size = w7.heap.size + 1) := by rw [hW8]; exact size_alloc _ _
   clear hW8 hbW8
   have hkey : keyOf Tryz.prog 3 (.int .i64 S) = some (.int .i64 S) := keyOf_int_mk Tryz.underlying3 (wf_of HSX.out)
   have hown : W8.ownsMap Tryz.prog 3 (plainElem Tryz.prog 3) gM (0 + wh.revs.length) (hrD (.map []) wh.revs) := HM.out
   have HTD := hr_told (s := S) (fun c hc => (HT0.out.1 c hc).2) HNW.out (l2 := []) (.inl ⟨HND.out, rfl⟩)
   skip
   have i0 : W8.cell? ⟨w.heap.size, 0, none⟩ = some (.int .i64 S) := HA.out.cell 0
   obtain ⟨DD, hDD⟩ : ∃ d, hrD (.map []) wh.revs = d := ⟨_, rfl⟩
   have HTD2 : Hid ((Maps.has DD (.int .i64 S) = true /\ ∃ r, stB told S = (2, r) /\ ∀ z, DD.atKey (.int .i64 S) z = .lit (.int .i64 r)) ∨ (Maps.has DD (.int .i64 S) = false /\ stB told S = (1, 0))) := by rw [<- hDD]; exact HTD
   clear HTD
   rw [hDD] at hown
   clear hDD
   obtain ⟨kM, hkM⟩ : ∃ b, Maps.has DD (.int .i64 S) = b := ⟨_, rfl⟩
   have HKM : Hid (Maps.has DD (.int .i64 S) = kM) := hkM
   cases kM with
   | true =>
    obtain ⟨r, hst, hrz⟩ : ∃ r, stB told S = (2, r) /\ ∀ z, DD.atKey (.int .i64 S) z = .lit (.int .i64 r) := by
     rcases HTD2.out with ⟨-, h⟩ | ⟨h, -⟩
     ·exact h
     ·rw [HKM.out] at h; cases h
    have HQ : Hid ((R1 = 2 /\ R2 = r) /\ ∀ z, DD.atKey (.int .i64 S) z = .lit (.int .i64 r)) := by
     have h := HR.out
     rw [hst] at h
     exact ⟨⟨h.1.symm, h.2.symm⟩, hrz⟩
    clear hst hrz
    go_wp2_with (at_lookup; refine wpList_lookup_own_ok_int _ rfl _ _ 172 rfl 3 3 .i64 law3 Tryz.underlying172 Tryz.underlying3 (zero3 _) gM (0 + wh.revs.length) DD rfl hown _ _ rfl hkey ?_; intro cv hat hwc)
    have hcv : r = cv := by
     have h1 := HQ.out.2 (.lit (.int .i64 0))
     rw [hat] at h1
     injection h1 with h1
     injection h1 with h1 h2
     exact h2.symm
    subst hcv
    go_ret2
    exact ⟨by rw [HQ.out.1.1, HQ.out.1.2]; rfl, HB.out⟩
   | false =>
    have HQ : Hid (R1 = 1 /\ R2 = 0) := by
     have h := HR.out
     rcases HTD2.out with ⟨h2, -⟩ | ⟨-, hst⟩
     ·rw [HKM.out] at h2; cases h2
     ·rw [hst] at h
      exact ⟨h.1.symm, h.2.symm⟩
    go_wp2_with (at_lookup; refine wpList_lookup_own_ok_int _ rfl _ _ 172 rfl 3 3 .i64 law3 Tryz.underlying172 Tryz.underlying3 (zero3 _) gM (0 + wh.revs.length) DD rfl hown _ _ rfl hkey ?_; intro cv hat hwc)
    go_ret2
    exact ⟨by rw [HQ.out.1, HQ.out.2]; rfl, HB.out⟩
  | true =>
   have HND : Hid (nwL (deltaB wh.num) told = some dl) := by
    show _ = _
    rw [HOD.out]
    have h := HDL.out
    cases oD with
    | none => cases h.2.1
    | some x => rw [<- h.1]; rfl
   have HWDD : Hid (WdR dl.revs) := ((HT0.out.1 dl (nw_mem HND.out)).1).2.1
   go_upto_region 9 with fail
   obtain ⟨W8, hW8⟩ : ∃ W, W = w7.alloc (Obj.cells #[.string dl.issuer, .int .i64 dl.num, .int .i64 dl.ths, .int .i64 dl.nxt, .int .i64 dl.bas, .slice pD dl.revs.length qD, .string dl.sig] 49) := ⟨_, rfl⟩
   rw [<- hW8]
   have hbW8 : Below w7.heap.size w7 W8 := by rw [hW8]; exact (Below.refl _ _).alloc (Nat.le_refl _) _
   have HMn : Hid (MapAt W8 gM (0 + wh.revs.length) (hrD (.map []) wh.revs)) := MapAt.below HM.out hbW8
   clear HM
   have HM := HMn
   clear HMn
   have HBn : Hid (Below w.heap.size w W8) := Below.on HB.out hbW8 HB.out.size
   clear HB
   have HB := HBn
   clear HBn
   have HAn : Hid (Blk W8 w.heap.size 27 #[.int .i64 S, .string ct.issuer, .string ct.subject, .int .i64 ct.frm, .int .i64 ct.upto, .string ct.key, .bool ct.ca, .int .i64 ct.pathLen, .int .i64 ct.usage, cp, ce, cd, .string ct.sig]) := HA.out.below hbW8 HA.out.lt
   clear HA
   have HA := HAn
   clear HAn
   have HTn : Hid (OwnS crlKd W8 W1.heap.size uT told fpT) := HT.out.stays hbW8
   clear HT
   have HT := HTn
   clear HTn
   have HWn : Hid (OwnL W8 w2.heap.size (.agg #[.string wh.issuer, .int .i64 wh.num, .int .i64 wh.ths, .int .i64 wh.nxt, .int .i64 wh.bas, .slice pW wh.revs.length qW, .string wh.sig]) wh) := HW.out.stays hbW8
   clear HW
   have HW := HWn
   clear HWn
   have VWn : Hid (Blk W8 w3.heap.size 49 #[.string wh.issuer, .int .i64 wh.num, .int .i64 wh.ths, .int .i64 wh.nxt, .int .i64 wh.bas, .slice pW wh.revs.length qW, .string wh.sig]) := VW.out.below hbW8 VW.out.lt
   clear VW
   have VW := VWn
   clear VWn
   have HDn : Hid (OwnL W8 w6.heap.size (.agg #[.string dl.issuer, .int .i64 dl.num, .int .i64 dl.ths, .int .i64 dl.nxt, .int .i64 dl.bas, .slice pD dl.revs.length qD, .string dl.sig]) dl) := HD.out.stays hbW8
   clear HD
   have HD := HDn
   clear HDn
   have O10 : Hid (w7.heap.size <= W8.heap.size) := hbW8.size
   have VD : Hid (Blk W8 w7.heap.size 49 #[.string dl.issuer, .int .i64 dl.num, .int .i64 dl.ths, .int .i64 dl.nxt, .int .i64 dl.bas, .slice pD dl.revs.length qD, .string dl.sig]) := by rw [hW8]; exact Blk.new w7 _ _
   have O11 : Hid (W8.heap.size = w7.heap.size + 1) := by rw [hW8]; exact size_alloc _ _
   clear hW8 hbW8
   have c0 : W8.cell? ⟨w7.heap.size, 0, none⟩ = some (.string dl.issuer) := VD.out.cell 0
   have c1 : W8.cell? ⟨w7.heap.size, 1, none⟩ = some (.int .i64 dl.num) := VD.out.cell 1
   have c2 : W8.cell? ⟨w7.heap.size, 2, none⟩ = some (.int .i64 dl.ths) := VD.out.cell 2
   have c3 : W8.cell? ⟨w7.heap.size, 3, none⟩ = some (.int .i64 dl.nxt) := VD.out.cell 3
   have c4 : W8.cell? ⟨w7.heap.size, 4, none⟩ = some (.int .i64 dl.bas) := VD.out.cell 4
   have c5 : W8.cell? ⟨w7.heap.size, 5, none⟩ = some (.slice pD dl.revs.length qD) := VD.out.cell 5
   have c6 : W8.cell? ⟨w7.heap.size, 6, none⟩ = some (.string dl.sig) := VD.out.cell 6
   go_wp2_with fail
   clear c0 c1 c2 c3 c4 c5 c6
   have EH := hear_any dl (.slice pD dl.revs.length qD) gM (0 + wh.revs.length) (hrD (.map []) wh.revs) W8 (by have := (wtL_parts HWH.out.2.2).2.1; omega) (wtL_parts HDL.out.2.2).2.1 (HWDD.out) HM.out (fun W ho => (HD.out.out ho (fun b hb hm => by have := LM.out b hm; have := LD.out b hb; have := O0.out; have := O1.out; have := O2.out; have := O3.out; have := O4.out; have := O5.out; have := O6.out; have := O7.out; have := O8.out; have := O9.out; have := O10.out; have := O11.out; omega)).at)
   unfold clV at EH
   refine (EH).mono ?_
   rintro e w9 ⟨rfl, hmap, hout⟩
   have HBn : Hid (Below w.heap.size w w9) := Below.out HB.out hout (fun b hm => by have := LM.out b hm; have := O0.out; have := O1.out; have := O2.out; have := O3.out; have := O4.out; have := O5.out; have := O6.out; have := O7.out; have := O8.out; have := O9.out; have := O10.out; have := O11.out; omega) HB.out.size
   clear HB
   have HB := HBn
   clear HBn
   have HAn : Hid (Blk w9 w.heap.size 27 #[.int .i64 S, .string ct.issuer, .string ct.subject, .int .i64 ct.frm, .int .i64 ct.upto, .string ct.key, .bool ct.ca, .int .i64 ct.pathLen, .int .i64 ct.usage, cp, ce, cd, .string ct.sig]) := HA.out.out hout (fun hm => by have := LM.out _ hm; have := O0.out; have := O1.out; have := O2.out; have := O3.out; have := O4.out; have := O5.out; have := O6.out; have := O7.out; have := O8.out; have := O9.out; have := O10.out; have := O11.out; omega)
   clear HA
   have HA := HAn
   clear HAn
   have HTn : Hid (OwnS crlKd w9 W1.heap.size uT told fpT) := HT.out.out hout (fun b hb hm => by have := LM.out b hm; have := LT.out b hb; have := O0.out; have := O1.out; have := O2.out; have := O3.out; have := O4.out; have := O5.out; have := O6.out; have := O7.out; have := O8.out; have := O9.out; have := O10.out; have := O11.out; omega)
   clear HT
   have HT := HTn
   clear HTn
   have HWn : Hid (OwnL w9 w2.heap.size (.agg #[.string wh.issuer, .int .i64 wh.num, .int .i64 wh.ths, .int .i64 wh.nxt, .int .i64 wh.bas, .slice pW wh.revs.length qW, .string wh.sig]) wh) := HW.out.out hout (fun b hb hm => by have := LM.out b hm; have := LW.out b hb; have := O0.out; have := O1.out; have := O2.out; have := O3.out; have := O4.out; have := O5.out; have := O6.out; have := O7.out; have := O8.out; have := O9.out; have := O10.out; have := O11.out; omega)
   clear HW
   have HW := HWn
   clear HWn
   have VWn : Hid (Blk w9 w3.heap.size 49 #[.string wh.issuer, .int .i64 wh.num, .int .i64 wh.ths, .int .i64 wh.nxt, .int .i64 wh.bas, .slice pW wh.revs.length qW, .string wh.sig]) := VW.out.out hout (fun hm => by have := LM.out _ hm; have := O0.out; have := O1.out; have := O2.out; have := O3.out; have := O4.out; have := O5.out; have := O6.out; have := O7.out; have := O8.out; have := O9.out; have := O10.out; have := O11.out; omega)
   clear VW
   have VW := VWn
   clear VWn
   have HDn : Hid (OwnL w9 w6.heap.size (.agg #[.string dl.issuer, .int .i64 dl.num, .int .i64 dl.ths, .int .i64 dl.nxt, .int .i64 dl.bas, .slice pD dl.revs.length qD, .string dl.sig]) dl) := HD.out.out hout (fun b hb hm => by have := LM.out b hm; have := LD.out b hb; have := O0.out; have := O1.out; have := O2.out; have := O3.out; have := O4.out; have := O5.out; have := O6.out; have := O7.out; have := O8.out; have := O9.out; have := O10.out; have := O11.out; omega)
   clear HD
   have HD := HDn
   clear HDn
   have VDn : Hid (Blk w9 w7.heap.size 49 #[.string dl.issuer, .int .i64 dl.num, .int .i64 dl.ths, .int .i64 dl.nxt, .int .i64 dl.bas, .slice pD dl.revs.length qD, .string dl.sig]) := VD.out.out hout (fun hm => by have := LM.out _ hm; have := O0.out; have := O1.out; have := O2.out; have := O3.out; have := O4.out; have := O5.out; have := O6.out; have := O7.out; have := O8.out; have := O9.out; have := O10.out; have := O11.out; omega)
   clear VD
   have VD := VDn
   clear VDn
   have O12 : Hid (W8.heap.size <= w9.heap.size) := hout.2.2.2.1
   clear HM
   have HM : Hid (MapAt w9 gM (0 + wh.revs.length + dl.revs.length) (hrD (hrD (.map []) wh.revs) dl.revs)) := hmap
   clear hmap hout EH
   have hkey : keyOf Tryz.prog 3 (.int .i64 S) = some (.int .i64 S) := keyOf_int_mk Tryz.underlying3 (wf_of HSX.out)
   have hown : w9.ownsMap Tryz.prog 3 (plainElem Tryz.prog 3) gM (0 + wh.revs.length + dl.revs.length) (hrD (hrD (.map []) wh.revs) dl.revs) := HM.out
   have HTD := hr_told (s := S) (fun c hc => (HT0.out.1 c hc).2) HNW.out (l2 := dl.revs) (.inr ⟨dl, HND.out, rfl⟩)
   have i0 : w9.cell? ⟨w.heap.size, 0, none⟩ = some (.int .i64 S) := HA.out.cell 0
   obtain ⟨DD, hDD⟩ : ∃ d, hrD (hrD (.map []) wh.revs) dl.revs = d := ⟨_, rfl⟩
   have HTD2 : Hid ((Maps.has DD (.int .i64 S) = true /\ ∃ r, stB told S = (2, r) /\ ∀ z, DD.atKey (.int .i64 S) z = .lit (.int .i64 r)) ∨ (Maps.has DD (.int .i64 S) = false /\ stB told S = (1, 0))) := by rw [<- hDD]; exact HTD
   clear HTD
   rw [hDD] at hown
   clear hDD
   obtain ⟨kM, hkM⟩ : ∃ b, Maps.has DD (.int .i64 S) = b := ⟨_, rfl⟩
   have HKM : Hid (Maps.has DD (.int .i64 S) = kM) := hkM
   cases kM with
   | true =>
    obtain ⟨r, hst, hrz⟩ : ∃ r, stB told S = (2, r) /\ ∀ z, DD.atKey (.int .i64 S) z = .lit (.int .i64 r) := by
     rcases HTD2.out with ⟨-, h⟩ | ⟨h, -⟩
     ·exact h
     ·rw [HKM.out] at h; cases h
    have HQ : Hid ((R1 = 2 /\ R2 = r) /\ ∀ z, DD.atKey (.int .i64 S) z = .lit (.int .i64 r)) := by
     have h := HR.out
     rw [hst] at h
     exact ⟨⟨h.1.symm, h.2.symm⟩, hrz⟩
    clear hst hrz
    go_wp2_with (at_lookup; refine wpList_lookup_own_ok_int _ rfl _ _ 172 rfl 3 3 .i64 law3 Tryz.underlying172 Tryz.underlying3 (zero3 _) gM (0 + wh.revs.length + dl.revs.length) DD rfl hown _ _ rfl hkey ?_; intro cv hat hwc)
    have hcv : r = cv := by
     have h1 := HQ.out.2 (.lit (.int .i64 0))
     rw [hat] at h1
     injection h1 with h1
     injection h1 with h1 h2
     exact h2.symm
    subst hcv
    go_ret2
    exact ⟨by rw [HQ.out.1.1, HQ.out.1.2]; rfl, HB.out⟩
   | false =>
    have HQ : Hid (R1 = 1 /\ R2 = 0) := by
     have h := HR.out
     rcases HTD2.out with ⟨h2, -⟩ | ⟨-, hst⟩
     ·rw [HKM.out] at h2; cases h2
     ·rw [hst] at h
      exact ⟨h.1.symm, h.2.symm⟩
    go_wp2_with (at_lookup; refine wpList_lookup_own_ok_int _ rfl _ _ 172 rfl 3 3 .i64 law3 Tryz.underlying172 Tryz.underlying3 (zero3 _) gM (0 + wh.revs.length + dl.revs.length) DD rfl hown _ _ rfl hkey ?_; intro cv hat hwc)
    go_ret2
    exact ⟨by rw [HQ.out.1, HQ.out.2]; rfl, HB.out⟩
set_option maxHeartbeats 12800000 in
theorem specStatusOf_any (l : List Cl) (v : Value) (ct : Ct) (cp ce cd : Value) (key : ByteArray) (time : Int) (bs : Nat) (fp : List Nat) (w : World) (hl : wtS l <= 1048576) (hwd : ∀ c ∈ l, WdL c) (hk : key.size <= 1048576) (hs : -9223372036854775808 <= ct.serial /\ ct.serial <= 9223372036854775807) (ha : OwnS crlKd w bs v l fp) :
  Calls Tryz.prog 52 #[v, ctV ct cp ce cd, .string key, .int .i64 time] w fun e w' => e = .returned (.tuple #[.int .i64 (stB (l.filter (belB ct.issuer key time)) ct.serial).1, .int .i64 (stB (l.filter (belB ct.issuer key time)) ct.serial).2]) /\ Below w.heap.size w w' := by
 obtain ⟨told, htold⟩ : ∃ t, l.filter (belB ct.issuer key time) = t := ⟨_, rfl⟩
 obtain ⟨S, hS⟩ : ∃ s, ct.serial = s := ⟨_, rfl⟩
 obtain ⟨R1, hR1⟩ : ∃ r, (stB told S).1 = r := ⟨_, rfl⟩
 obtain ⟨R2, hR2⟩ : ∃ r, (stB told S).2 = r := ⟨_, rfl⟩
 have hwt : wtS told <= 1048576 := by rw [<- htold]; exact Nat.le_trans (wtS_filter _ _) hl
 have hok : ∀ c ∈ told, WdL c /\ crlOk c = true := fun c hc => by
  rw [<- htold] at hc
  obtain ⟨h1, h2⟩ := List.mem_filter.1 hc
  refine ⟨hwd c h1, ?_⟩
  cases h : crlOk c with
  | true => rfl
  | false =>
   rw [bel_ok h] at h2
   cases h2
 have HT0 : Hid ((∀ c ∈ told, WdL c /\ crlOk c = true) /\ wtS told <= 1048576) := ⟨hok, hwt⟩
 clear hok
 rw [hS] at hs
 rw [hS, htold, hR1, hR2]
 have HR : Hid ((stB told S).1 = R1 /\ (stB told S).2 = R2) := ⟨hR1, hR2⟩
 obtain ⟨oW, hoW⟩ : ∃ o, nwL wholeB told = o := ⟨_, rfl⟩
 have HOW : Hid (nwL wholeB told = oW) := hoW
 obtain ⟨wh, hwh⟩ : ∃ c, oW.getD zeL = c := ⟨_, rfl⟩
 obtain ⟨kW, hkW⟩ : ∃ b, oW.isSome = b := ⟨_, rfl⟩
 have HWH : Hid (oW.getD zeL = wh /\ oW.isSome = kW /\ wtL wh <= 1048576) := ⟨hwh, hkW, by rw [<- hwh, <- hoW]; exact nw_wt hwt⟩
 obtain ⟨oD, hoD⟩ : ∃ o, nwL (deltaB wh.num) told = o := ⟨_, rfl⟩
 have HOD : Hid (nwL (deltaB wh.num) told = oD) := hoD
 obtain ⟨dl, hdl⟩ : ∃ c, oD.getD zeL = c := ⟨_, rfl⟩
 obtain ⟨kD, hkD⟩ : ∃ b, oD.isSome = b := ⟨_, rfl⟩
 have HDL : Hid (oD.getD zeL = dl /\ oD.isSome = kD /\ wtL dl <= 1048576) := ⟨hdl, hkD, by rw [<- hdl, <- hoD]; exact nw_wt hwt⟩
 have CO : Hid (∀ W : World, Below w.heap.size w W -> Calls Tryz.prog 49 #[v, .string ct.issuer, .string key, .int .i64 time] W fun e w' => ∃ u fq, e = .returned u /\ OwnS crlKd w' W.heap.size u told fq /\ Below W.heap.size W w') := fun W hb => by rw [<- htold]; exact specCrlsOf_any l v ct.issuer key time bs fp W hl hwd hk (ha.stays hb)
 have CW : Hid (∀ (W : World) (b : Nat) (u : Value) (fq : List Nat), OwnS crlKd W b u told fq -> Calls Tryz.prog 149 #[u] W fun e w' => ∃ u, e = .returned (.tuple #[u, .bool kW]) /\ OwnL w' W.heap.size u wh /\ Below W.heap.size W w') := fun W b u fq h => (specWholeOf_any told u b fq W (by omega) h).mono fun e w' h => by
  obtain ⟨u, h1, h2, h3⟩ := h
  rw [hoW, hwh] at h2
  rw [hoW, hkW] at h1
  exact ⟨u, h1, h2, h3⟩
 have CD : Hid (∀ (W : World) (b : Nat) (u p : Value) (fq : List Nat), OwnS crlKd W b u told fq -> Calls Tryz.prog 55 #[u, clV wh p] W fun e w' => ∃ u, e = .returned (.tuple #[u, .bool kD]) /\ OwnL w' W.heap.size u dl /\ Below W.heap.size W w') := fun W b u p fq h => (specDeltaOf_any told u wh p b fq W (by omega) h).mono fun e w' h => by
  obtain ⟨u, h1, h2, h3⟩ := h
  rw [hoD, hdl] at h2
  rw [hoD, hkD] at h1
  exact ⟨u, h1, h2, h3⟩
 have HSX : Hid (-9223372036854775808 <= S /\ S <= 9223372036854775807) := hs
 unfold ctV
 rw [hS]
 clear hR1 hR2 hoW hwh hkW hoD hdl hkD hwt htold hS hl hwd hk hs ha
 obtain ⟨W1, hW1⟩ : ∃ V, V = w.alloc (Obj.cells #[.int .i64 S, .string ct.issuer, .string ct.subject, .int .i64 ct.frm, .int .i64 ct.upto, .string ct.key, .bool ct.ca, .int .i64 ct.pathLen, .int .i64 ct.usage, cp, ce, cd, .string ct.sig] 27) := ⟨_, rfl⟩
 have HA0 : Hid ((Below w.heap.size w W1 /\ Blk W1 w.heap.size 27 #[.int .i64 S, .string ct.issuer, .string ct.subject, .int .i64 ct.frm, .int .i64 ct.upto, .string ct.key, .bool ct.ca, .int .i64 ct.pathLen, .int .i64 ct.usage, cp, ce, cd, .string ct.sig]) /\ W1.heap.size = w.heap.size + 1) := ⟨by rw [hW1]; exact ⟨(Below.refl _ _).alloc (Nat.le_refl _) _, Blk.new _ _ _⟩, by rw [hW1]; exact size_alloc _ _⟩
 go_enter Tryz.func52, Tryz.ntmps52
 go_upto_region 1 with fail
 rw [<- hW1]
 clear hW1
 have HB : Hid (Below w.heap.size w W1) := HA0.out.1.1
 have HA : Hid (Blk W1 w.heap.size 27 #[.int .i64 S, .string ct.issuer, .string ct.subject, .int .i64 ct.frm, .int .i64 ct.upto, .string ct.key, .bool ct.ca, .int .i64 ct.pathLen, .int .i64 ct.usage, cp, ce, cd, .string ct.sig]) := HA0.out.1.2
 have O0 : Hid (W1.heap.size = w.heap.size + 1) := HA0.out.2
 clear HA0
 have i1 : W1.cell? ⟨w.heap.size, 1, none⟩ = some (.string ct.issuer) := HA.out.cell 1
 go_wp2_with fail
 clear i1
 refine (CO.out W1 HB.out).mono ?_
 rintro e w2 ⟨uT, fpT, rfl, ho, hb⟩
 have HBn : Hid (Below w.heap.size w w2) := Below.on HB.out hb HB.out.size
 clear HB
 have HB := HBn
 clear HBn
 have HAn : Hid (Blk w2 w.heap.size 27 #[.int .i64 S, .string ct.issuer, .string ct.subject, .int .i64 ct.frm, .int .i64 ct.upto, .string ct.key, .bool ct.ca, .int .i64 ct.pathLen, .int .i64 ct.usage, cp, ce, cd, .string ct.sig]) := HA.out.below hb HA.out.lt
 clear HA
 have HA := HAn
 clear HAn
 have O1 : Hid (W1.heap.size <= w2.heap.size) := hb.size
 have LT : Hid (∀ b ∈ fpT, W1.heap.size <= b /\ b < w2.heap.size) := ho.lt
 have HT : Hid (OwnS crlKd w2 W1.heap.size uT told fpT) := ho
 clear ho hb
 go_wp2_with fail
 refine (CW.out w2 _ _ _ HT.out).mono ?_
 rintro e w3 ⟨uW, rfl, ho, hb⟩
 have HBn : Hid (Below w.heap.size w w3) := Below.on HB.out hb HB.out.size
 clear HB
 have HB := HBn
 clear HBn
 have HAn : Hid (Blk w3 w.heap.size 27 #[.int .i64 S, .string ct.issuer, .string ct.subject, .int .i64 ct.frm, .int .i64 ct.upto, .string ct.key, .bool ct.ca, .int .i64 ct.pathLen, .int .i64 ct.usage, cp, ce, cd, .string ct.sig]) := HA.out.below hb HA.out.lt
 clear HA
 have HA := HAn
 clear HAn
 have HTn : Hid (OwnS crlKd w3 W1.heap.size uT told fpT) := HT.out.stays hb
 clear HT
 have HT := HTn
 clear HTn
 have O2 : Hid (w2.heap.size <= w3.heap.size) := hb.size
 obtain ⟨pW, qW, huW⟩ := ClAt.shape ho.at
 subst huW
 unfold clV at ho |-
 have LW : Hid (∀ b ∈ fpL (.agg #[.string wh.issuer, .int .i64 wh.num, .int .i64 wh.ths, .int .i64 wh.nxt, .int .i64 wh.bas, .slice pW wh.revs.length qW, .string wh.sig]), w2.heap.size <= b /\ b < w3.heap.size) := fpL_lt ho
 have HW : Hid (OwnL w3 w2.heap.size (.agg #[.string wh.issuer, .int .i64 wh.num, .int .i64 wh.ths, .int .i64 wh.nxt, .int .i64 wh.bas, .slice pW wh.revs.length qW, .string wh.sig]) wh) := ho
 clear ho hb
 cases kW with
 | false =>
  have HNW : Hid (nwL wholeB told = none) := by
   show _ = _
   rw [HOW.out]
   have h := HWH.out.2.1
   cases oW with
   | none => rfl
   | some x => cases h
  go_wp2_with fail
  obtain ⟨W4, hW4⟩ : ∃ W, W = w3.alloc (Obj.cells #[.string wh.issuer, .int .i64 wh.num, .int .i64 wh.ths, .int .i64 wh.nxt, .int .i64 wh.bas, .slice pW wh.revs.length qW, .string wh.sig] 49) := ⟨_, rfl⟩
  rw [<- hW4]
  have hbW4 : Below w3.heap.size w3 W4 := by rw [hW4]; exact (Below.refl _ _).alloc (Nat.le_refl _) _
  have HBn : Hid (Below w.heap.size w W4) := Below.on HB.out hbW4 HB.out.size
  clear HB
  have HB := HBn
  clear HBn
  have HAn : Hid (Blk W4 w.heap.size 27 #[.int .i64 S, .string ct.issuer, .string ct.subject, .int .i64 ct.frm, .int .i64 ct.upto, .string ct.key, .bool ct.ca, .int .i64 ct.pathLen, .int .i64 ct.usage, cp, ce, cd, .string ct.sig]) := HA.out.below hbW4 HA.out.lt
  clear HA
  have HA := HAn
  clear HAn
  have HTn : Hid (OwnS crlKd W4 W1.heap.size uT told fpT) := HT.out.stays hbW4
  clear HT
  have HT := HTn
  clear HTn
  have HWn : Hid (OwnL W4 w2.heap.size (.agg #[.string wh.issuer, .int .i64 wh.num, .int .i64 wh.ths, .int .i64 wh.nxt, .int .i64 wh.bas, .slice pW wh.revs.length qW, .string wh.sig]) wh) := HW.out.stays hbW4
  clear HW
  have HW := HWn
  clear HWn
  have O3 : Hid (w3.heap.size <= W4.heap.size) := hbW4.size
  have VW : Hid (Blk W4 w3.heap.size 49 #[.string wh.issuer, .int .i64 wh.num, .int .i64 wh.ths, .int .i64 wh.nxt, .int .i64 wh.bas, .slice pW wh.revs.length qW, .string wh.sig]) := by rw [hW4]; exact Blk.new w3 _ _
  have O4 : Hid (W4.heap.size = w3.heap.size + 1) := by rw [hW4]; exact size_alloc _ _
  clear hW4 hbW4
  have HQ : Hid (R1 = 3 /\ R2 = 0) := by
   have h := HR.out
   rw [st_none HNW.out] at h
   exact ⟨h.1.symm, h.2.symm⟩
  go_wp2_with fail
  go_ret2
  exact ⟨by rw [HQ.out.1, HQ.out.2]; rfl, HB.out⟩
 | true =>
  have HNW : Hid (nwL wholeB told = some wh) := by
   show _ = _
   rw [HOW.out]
   have h := HWH.out
   cases oW with
   | none => cases h.2.1
   | some x => rw [<- h.1]; rfl
  go_wp2_with fail
  obtain ⟨W4, hW4⟩ : ∃ W, W = w3.alloc (Obj.cells #[.string wh.issuer, .int .i64 wh.num, .int .i64 wh.ths, .int .i64 wh.nxt, .int .i64 wh.bas, .slice pW wh.revs.length qW, .string wh.sig] 49) := ⟨_, rfl⟩
  rw [<- hW4]
  have hbW4 : Below w3.heap.size w3 W4 := by rw [hW4]; exact (Below.refl _ _).alloc (Nat.le_refl _) _
  have HBn : Hid (Below w.heap.size w W4) := Below.on HB.out hbW4 HB.out.size
  clear HB
  have HB := HBn
  clear HBn
  have HAn : Hid (Blk W4 w.heap.size 27 #[.int .i64 S, .string ct.issuer, .string ct.subject, .int .i64 ct.frm, .int .i64 ct.upto, .string ct.key, .bool ct.ca, .int .i64 ct.pathLen, .int .i64 ct.usage, cp, ce, cd, .string ct.sig]) := HA.out.below hbW4 HA.out.lt
  clear HA
  have HA := HAn
  clear HAn
  have HTn : Hid (OwnS crlKd W4 W1.heap.size uT told fpT) := HT.out.stays hbW4
  clear HT
  have HT := HTn
  clear HTn
  have HWn : Hid (OwnL W4 w2.heap.size (.agg #[.string wh.issuer, .int .i64 wh.num, .int .i64 wh.ths, .int .i64 wh.nxt, .int .i64 wh.bas, .slice pW wh.revs.length qW, .string wh.sig]) wh) := HW.out.stays hbW4
  clear HW
  have HW := HWn
  clear HWn
  have O3 : Hid (w3.heap.size <= W4.heap.size) := hbW4.size
  have VW : Hid (Blk W4 w3.heap.size 49 #[.string wh.issuer, .int .i64 wh.num, .int .i64 wh.ths, .int .i64 wh.nxt, .int .i64 wh.bas, .slice pW wh.revs.length qW, .string wh.sig]) := by rw [hW4]; exact Blk.new w3 _ _
  have O4 : Hid (W4.heap.size = w3.heap.size + 1) := by rw [hW4]; exact size_alloc _ _
  clear hW4 hbW4
  have c0 : W4.cell? ⟨w3.heap.size, 0, none⟩ = some (.string wh.issuer) := VW.out.cell 0
  have c1 : W4.cell? ⟨w3.heap.size, 1, none⟩ = some (.int .i64 wh.num) := VW.out.cell 1
  have c2 : W4.cell? ⟨w3.heap.size, 2, none⟩ = some (.int .i64 wh.ths) := VW.out.cell 2
  have c3 : W4.cell? ⟨w3.heap.size, 3, none⟩ = some (.int .i64 wh.nxt) := VW.out.cell 3
  have c4 : W4.cell? ⟨w3.heap.size, 4, none⟩ = some (.int .i64 wh.bas) := VW.out.cell 4
  have c5 : W4.cell? ⟨w3.heap.size, 5, none⟩ = some (.slice pW wh.revs.length qW) := VW.out.cell 5
  have c6 : W4.cell? ⟨w3.heap.size, 6, none⟩ = some (.string wh.sig) := VW.out.cell 6
  go_wp2_with fail
  clear c0 c1 c2 c3 c4 c5 c6
  refine (CD.out W4 _ _ _ _ HT.out).mono ?_
  rintro e w5 ⟨uD, rfl, ho, hb⟩
  have HBn : Hid (Below w.heap.size w w5) := Below.on HB.out hb HB.out.size
  clear HB
  have HB := HBn
  clear HBn
  have HAn : Hid (Blk w5 w.heap.size 27 #[.int .i64 S, .string ct.issuer, .string ct.subject, .int .i64 ct.frm, .int .i64 ct.upto, .string ct.key, .bool ct.ca, .int .i64 ct.pathLen, .int .i64 ct.usage, cp, ce, cd, .string ct.sig]) := HA.out.below hb HA.out.lt
  clear HA
  have HA := HAn
  clear HAn
  have HTn : Hid (OwnS crlKd w5 W1.heap.size uT told fpT) := HT.out.stays hb
  clear HT
  have HT := HTn
  clear HTn
  have HWn : Hid (OwnL w5 w2.heap.size (.agg #[.string wh.issuer, .int .i64 wh.num, .int .i64 wh.ths, .int .i64 wh.nxt, .int .i64 wh.bas, .slice pW wh.revs.length qW, .string wh.sig]) wh) := HW.out.stays hb
  clear HW
  have HW := HWn
  clear HWn
  have VWn : Hid (Blk w5 w3.heap.size 49 #[.string wh.issuer, .int .i64 wh.num, .int .i64 wh.ths, .int .i64 wh.nxt, .int .i64 wh.bas, .slice pW wh.revs.length qW, .string wh.sig]) := VW.out.below hb VW.out.lt
  clear VW
  have VW := VWn
  clear VWn
  have O5 : Hid (W4.heap.size <= w5.heap.size) := hb.size
  obtain ⟨pD, qD, huD⟩ := ClAt.shape ho.at
  subst huD
  unfold clV at ho |-
  have LD : Hid (∀ b ∈ fpL (.agg #[.string dl.issuer, .int .i64 dl.num, .int .i64 dl.ths, .int .i64 dl.nxt, .int .i64 dl.bas, .slice pD dl.revs.length qD, .string dl.sig]), W4.heap.size <= b /\ b < w5.heap.size) := fpL_lt ho
  have HD : Hid (OwnL w5 W4.heap.size (.agg #[.string dl.issuer, .int .i64 dl.num, .int .i64 dl.ths, .int .i64 dl.nxt, .int .i64 dl.bas, .slice pD dl.revs.length qD, .string dl.sig]) dl) := ho
  clear ho hb
  cases kD with
  | false =>
   have HND : Hid (nwL (deltaB wh.num) told = none) := by
    show _ = _
    rw [HOD.out]
    have h := HDL.out.2.1
    cases oD with
    | none => rfl
    | some x => cases h
   have c0 := fun o => (show (w5.alloc o).cell? ⟨w3.heap.size, 0, none⟩ = some (.string wh.issuer) from (VW.out.alloc o).cell 0)
   have c1 := fun o => (show (w5.alloc o).cell? ⟨w3.heap.size, 1, none⟩ = some (.int .i64 wh.num) from (VW.out.alloc o).cell 1)
   have c2 := fun o => (show (w5.alloc o).cell? ⟨w3.heap.size, 2, none⟩ = some (.int .i64 wh.ths) from (VW.out.alloc o).cell 2)
   have c3 := fun o => (show (w5.alloc o).cell? ⟨w3.heap.size, 3, none⟩ = some (.int .i64 wh.nxt) from (VW.out.alloc o).cell 3)
   have c4 := fun o => (show (w5.alloc o).cell? ⟨w3.heap.size, 4, none⟩ = some (.int .i64 wh.bas) from (VW.out.alloc o).cell 4)
   have c5 := fun o => (show (w5.alloc o).cell? ⟨w3.heap.size, 5, none⟩ = some (.slice pW wh.revs.length qW) from (VW.out.alloc o).cell 5)
   have c6 := fun o => (show (w5.alloc o).cell? ⟨w3.heap.size, 6, none⟩ = some (.string wh.sig) from (VW.out.alloc o).cell 6)
   have i0 := fun o => (show (w5.alloc o).cell? ⟨w.heap.size, 0, none⟩ = some (.int .i64 S) from (HA.out.alloc o).cell 0)
   go_wp2_with fail
   clear c0 c1 c2 c3 c4 c5 c6 i0
   obtain ⟨W6, hW6⟩ : ∃ W, W = w5.alloc (Obj.cells #[.string dl.issuer, .int .i64 dl.num, .int .i64 dl.ths, .int .i64 dl.nxt, .int .i64 dl.bas, .slice pD dl.revs.length qD, .string dl.sig] 49) := ⟨_, rfl⟩
   rw [<- hW6]
   have hbW6 : Below w5.heap.size w5 W6 := by rw [hW6]; exact (Below.refl _ _).alloc (Nat.le_refl _) _
   have HBn : Hid (Below w.heap.size w W6) := Below.on HB.out hbW6 HB.out.size
   clear HB
   have HB := HBn
   clear HBn
   have HAn : Hid (Blk W6 w.heap.size 27 #[.int .i64 S, .string ct.issuer, .string ct.subject, .int .i64 ct.frm, .int .i64 ct.upto, .string ct.key, .bool ct.ca, .int .i64 ct.pathLen, .int .i64 ct.usage, cp, ce, cd, .string ct.sig]) := HA.out.below hbW6 HA.out.lt
   clear HA
   have HA := HAn
   clear HAn
   have HTn : Hid (OwnS crlKd W6 W1.heap.size uT told fpT) := HT.out.stays hbW6
   clear HT
   have HT := HTn
   clear HTn
   have HWn : Hid (OwnL W6 w2.heap.size (.agg #[.string wh.issuer, .int .i64 wh.num, .int .i64 wh.ths, .int .i64 wh.nxt, .int .i64 wh.bas, .slice pW wh.revs.length qW, .string wh.sig]) wh) := HW.out.stays hbW6
   clear HW
   have HW := HWn
   clear HWn
   have VWn : Hid (Blk W6 w3.heap.size 49 #[.string wh.issuer, .int .i64 wh.num, .int .i64 wh.ths, .int .i64 wh.nxt, .int .i64 wh.bas, .slice pW wh.revs.length qW, .string wh.sig]) := VW.out.below hbW6 VW.out.lt
   clear VW
   have VW := VWn
   clear VWn
   have HDn : Hid (OwnL W6 W4.heap.size (.agg #[.string dl.issuer, .int .i64 dl.num, .int .i64 dl.ths, .int .i64 dl.nxt, .int .i64 dl.bas, .slice pD dl.revs.length qD, .string dl.sig]) dl) := HD.out.stays hbW6
   clear HD
   have HD := HDn
   clear HDn
   have O6 : Hid (w5.heap.size <= W6.heap.size) := hbW6.size
   have VD : Hid (Blk W6 w5.heap.size 49 #[.string dl.issuer, .int .i64 dl.num, .int .i64 dl.ths, .int .i64 dl.nxt, .int .i64 dl.bas, .slice pD dl.revs.length qD, .string dl.sig]) := by rw [hW6]; exact Blk.new w5 _ _
   have O7 : Hid (W6.heap.size = w5.heap.size + 1) := by rw [hW6]; exact size_alloc _ _
   clear hW6 hbW6
   obtain ⟨q, hq⟩ : ∃ q, listedL wh.revs S = q := ⟨_, rfl⟩
   have Hq : Hid (listedL wh.revs S = q) := hq
   have EL := specListed_any wh (.agg #[.string wh.issuer, .int .i64 wh.num, .int .i64 wh.ths, .int .i64 wh.nxt, .int .i64 wh.bas, .slice pW wh.revs.length qW, .string wh.sig]) S W6 (Nat.le_trans HWH.out.2.2 (by decide)) HW.out.at
   rw [hq] at EL
   clear hq
   refine (EL).mono ?_
   rintro e w7 ⟨rfl, hb⟩
   have HBn : Hid (Below w.heap.size w w7) := Below.on HB.out hb HB.out.size
   clear HB
   have HB := HBn
   clear HBn
   have HAn : Hid (Blk w7 w.heap.size 27 #[.int .i64 S, .string ct.issuer, .string ct.subject, .int .i64 ct.frm, .int .i64 ct.upto, .string ct.key, .bool ct.ca, .int .i64 ct.pathLen, .int .i64 ct.usage, cp, ce, cd, .string ct.sig]) := HA.out.below hb HA.out.lt
   clear HA
   have HA := HAn
   clear HAn
   have HTn : Hid (OwnS crlKd w7 W1.heap.size uT told fpT) := HT.out.stays hb
   clear HT
   have HT := HTn
   clear HTn
   have HWn : Hid (OwnL w7 w2.heap.size (.agg #[.string wh.issuer, .int .i64 wh.num, .int .i64 wh.ths, .int .i64 wh.nxt, .int .i64 wh.bas, .slice pW wh.revs.length qW, .string wh.sig]) wh) := HW.out.stays hb
   clear HW
   have HW := HWn
   clear HWn
   have VWn : Hid (Blk w7 w3.heap.size 49 #[.string wh.issuer, .int .i64 wh.num, .int .i64 wh.ths, .int .i64 wh.nxt, .int .i64 wh.bas, .slice pW wh.revs.length qW, .string wh.sig]) := VW.out.below hb VW.out.lt
   clear VW
   have VW := VWn
   clear VWn
   have HDn : Hid (OwnL w7 W4.heap.size (.agg #[.string dl.issuer, .int .i64 dl.num, .int .i64 dl.ths, .int .i64 dl.nxt, .int .i64 dl.bas, .slice pD dl.revs.length qD, .string dl.sig]) dl) := HD.out.stays hb
   clear HD
   have HD := HDn
   clear HDn
   have VDn : Hid (Blk w7 w5.heap.size 49 #[.string dl.issuer, .int .i64 dl.num, .int .i64 dl.ths, .int .i64 dl.nxt, .int .i64 dl.bas, .slice pD dl.revs.length qD, .string dl.sig]) := VD.out.below hb VD.out.lt
   clear VD
   have VD := VDn
   clear VDn
   have O8 : Hid (W6.heap.size <= w7.heap.size) := hb.size
   clear hb EL
   by_cases hq0 : q = 0
   ·have hqb : (q != 0) = false := by rw [hq0]; rfl
    have HQ : Hid (R1 = 1 /\ R2 = 0) := by
     have h := HR.out
     rw [st_base HNW.out HND.out, base_no (by rw [Hq.out]; exact hq0)] at h
     exact ⟨h.1.symm, h.2.symm⟩
    go_wp2_with fail
    go_ret2
    exact ⟨by rw [HQ.out.1, HQ.out.2]; rfl, HB.out⟩
   ·have hqb : (q != 0) = true := bne_iff_ne.2 hq0
    have HQ : Hid (R1 = 2 /\ R2 = q) := by
     have h := HR.out
     rw [st_base HNW.out HND.out, base_yes (by rw [Hq.out]; exact hq0), Hq.out] at h
     exact ⟨h.1.symm, h.2.symm⟩
    go_wp2_with fail
    go_ret2
    exact ⟨by rw [HQ.out.1, HQ.out.2]; rfl, HB.out⟩
  | true =>
   have HND : Hid (nwL (deltaB wh.num) told = some dl) := by
    show _ = _
    rw [HOD.out]
    have h := HDL.out
    cases oD with
    | none => cases h.2.1
    | some x => rw [<- h.1]; rfl
   have i0 := fun o => (show (w5.alloc o).cell? ⟨w.heap.size, 0, none⟩ = some (.int .i64 S) from (HA.out.alloc o).cell 0)
   go_wp2_with fail
   clear i0
   obtain ⟨W6, hW6⟩ : ∃ W, W = w5.alloc (Obj.cells #[.string dl.issuer, .int .i64 dl.num, .int .i64 dl.ths, .int .i64 dl.nxt, .int .i64 dl.bas, .slice pD dl.revs.length qD, .string dl.sig] 49) := ⟨_, rfl⟩
   rw [<- hW6]
   have hbW6 : Below w5.heap.size w5 W6 := by rw [hW6]; exact (Below.refl _ _).alloc (Nat.le_refl _) _
   have HBn : Hid (Below w.heap.size w W6) := Below.on HB.out hbW6 HB.out.size
   clear HB
   have HB := HBn
   clear HBn
   have HAn : Hid (Blk W6 w.heap.size 27 #[.int .i64 S, .string ct.issuer, .string ct.subject, .int .i64 ct.frm, .int .i64 ct.upto, .string ct.key, .bool ct.ca, .int .i64 ct.pathLen, .int .i64 ct.usage, cp, ce, cd, .string ct.sig]) := HA.out.below hbW6 HA.out.lt
   clear HA
   have HA := HAn
   clear HAn
   have HTn : Hid (OwnS crlKd W6 W1.heap.size uT told fpT) := HT.out.stays hbW6
   clear HT
   have HT := HTn
   clear HTn
   have HWn : Hid (OwnL W6 w2.heap.size (.agg #[.string wh.issuer, .int .i64 wh.num, .int .i64 wh.ths, .int .i64 wh.nxt, .int .i64 wh.bas, .slice pW wh.revs.length qW, .string wh.sig]) wh) := HW.out.stays hbW6
   clear HW
   have HW := HWn
   clear HWn
   have VWn : Hid (Blk W6 w3.heap.size 49 #[.string wh.issuer, .int .i64 wh.num, .int .i64 wh.ths, .int .i64 wh.nxt, .int .i64 wh.bas, .slice pW wh.revs.length qW, .string wh.sig]) := VW.out.below hbW6 VW.out.lt
   clear VW
   have VW := VWn
   clear VWn
   have HDn : Hid (OwnL W6 W4.heap.size (.agg #[.string dl.issuer, .int .i64 dl.num, .int .i64 dl.ths, .int .i64 dl.nxt, .int .i64 dl.bas, .slice pD dl.revs.length qD, .string dl.sig]) dl) := HD.out.stays hbW6
   clear HD
   have HD := HDn
   clear HDn
   have O6 : Hid (w5.heap.size <= W6.heap.size) := hbW6.size
   have VD : Hid (Blk W6 w5.heap.size 49 #[.string dl.issuer, .int .i64 dl.num, .int .i64 dl.ths, .int .i64 dl.nxt, .int .i64 dl.bas, .slice pD dl.revs.length qD, .string dl.sig]) := by rw [hW6]; exact Blk.new w5 _ _
   have O7 : Hid (W6.heap.size = w5.heap.size + 1) := by rw [hW6]; exact size_alloc _ _
   clear hW6 hbW6
   obtain ⟨r, hr⟩ : ∃ q, listedL dl.revs S = q := ⟨_, rfl⟩
   have Hr : Hid (listedL dl.revs S = r) := hr
   have EL := specListed_any dl (.agg #[.string dl.issuer, .int .i64 dl.num, .int .i64 dl.ths, .int .i64 dl.nxt, .int .i64 dl.bas, .slice pD dl.revs.length qD, .string dl.sig]) S W6 (Nat.le_trans HDL.out.2.2 (by decide)) HD.out.at
   rw [hr] at EL
   clear hr
   refine (EL).mono ?_
   rintro e w7 ⟨rfl, hb⟩
   have HBn : Hid (Below w.heap.size w w7) := Below.on HB.out hb HB.out.size
   clear HB
   have HB := HBn
   clear HBn
   have HAn : Hid (Blk w7 w.heap.size 27 #[.int .i64 S, .string ct.issuer, .string ct.subject, .int .i64 ct.frm, .int .i64 ct.upto, .string ct.key, .bool ct.ca, .int .i64 ct.pathLen, .int .i64 ct.usage, cp, ce, cd, .string ct.sig]) := HA.out.below hb HA.out.lt
   clear HA
   have HA := HAn
   clear HAn
   have HTn : Hid (OwnS crlKd w7 W1.heap.size uT told fpT) := HT.out.stays hb
   clear HT
   have HT := HTn
   clear HTn
   have HWn : Hid (OwnL w7 w2.heap.size (.agg #[.string wh.issuer, .int .i64 wh.num, .int .i64 wh.ths, .int .i64 wh.nxt, .int .i64 wh.bas, .slice pW wh.revs.length qW, .string wh.sig]) wh) := HW.out.stays hb
   clear HW
   have HW := HWn
   clear HWn
   have VWn : Hid (Blk w7 w3.heap.size 49 #[.string wh.issuer, .int .i64 wh.num, .int .i64 wh.ths, .int .i64 wh.nxt, .int .i64 wh.bas, .slice pW wh.revs.length qW, .string wh.sig]) := VW.out.below hb VW.out.lt
   clear VW
   have VW := VWn
   clear VWn
   have HDn : Hid (OwnL w7 W4.heap.size (.agg #[.string dl.issuer, .int .i64 dl.num, .int .i64 dl.ths, .int .i64 dl.nxt, .int .i64 dl.bas, .slice pD dl.revs.length qD, .string dl.sig]) dl) := HD.out.stays hb
   clear HD
   have HD := HDn
   clear HDn
   have VDn : Hid (Blk w7 w5.heap.size 49 #[.string dl.issuer, .int .i64 dl.num, .int .i64 dl.ths, .int .i64 dl.nxt, .int .i64 dl.bas, .slice pD dl.revs.length qD, .string dl.sig]) := VD.out.below hb VD.out.lt
   clear VD
   have VD := VDn
   clear VDn
   have O8 : Hid (W6.heap.size <= w7.heap.size) := hb.size
   clear hb EL
   by_cases h8 : r = 8
   ·have h8b : (r == 8) = true := by rw [h8]; rfl
    have HQ : Hid (R1 = 1 /\ R2 = 0) := by
     have h := HR.out
     rw [st_back HNW.out HND.out (by rw [Hr.out]; exact h8)] at h
     exact ⟨h.1.symm, h.2.symm⟩
    go_wp2_with fail
    go_ret2
    exact ⟨by rw [HQ.out.1, HQ.out.2]; rfl, HB.out⟩
   ·skip
    have h8b : (r == 8) = false := beq_eq_false_iff_ne.2 h8
    by_cases h0 : r = 0
    ·have h0b : (r != 0) = false := by rw [h0]; rfl
     obtain ⟨q, hq⟩ : ∃ q, listedL wh.revs S = q := ⟨_, rfl⟩
     have Hq : Hid (listedL wh.revs S = q) := hq
     have EL := specListed_any wh (.agg #[.string wh.issuer, .int .i64 wh.num, .int .i64 wh.ths, .int .i64 wh.nxt, .int .i64 wh.bas, .slice pW wh.revs.length qW, .string wh.sig]) S w7 (Nat.le_trans HWH.out.2.2 (by decide)) HW.out.at
     rw [hq] at EL
     clear hq
     have c0 : w7.cell? ⟨w3.heap.size, 0, none⟩ = some (.string wh.issuer) := VW.out.cell 0
     have c1 : w7.cell? ⟨w3.heap.size, 1, none⟩ = some (.int .i64 wh.num) := VW.out.cell 1
     have c2 : w7.cell? ⟨w3.heap.size, 2, none⟩ = some (.int .i64 wh.ths) := VW.out.cell 2
     have c3 : w7.cell? ⟨w3.heap.size, 3, none⟩ = some (.int .i64 wh.nxt) := VW.out.cell 3
     have c4 : w7.cell? ⟨w3.heap.size, 4, none⟩ = some (.int .i64 wh.bas) := VW.out.cell 4
     have c5 : w7.cell? ⟨w3.heap.size, 5, none⟩ = some (.slice pW wh.revs.length qW) := VW.out.cell 5
     have c6 : w7.cell? ⟨w3.heap.size, 6, none⟩ = some (.string wh.sig) := VW.out.cell 6
     have i0 : w7.cell? ⟨w.heap.size, 0, none⟩ = some (.int .i64 S) := HA.out.cell 0
     go_wp2_with fail
     clear c0 c1 c2 c3 c4 c5 c6 i0
     refine (EL).mono ?_
     rintro e w8 ⟨rfl, hb⟩
     have HBn : Hid (Below w.heap.size w w8) := Below.on HB.out hb HB.out.size
     clear HB
     have HB := HBn
     clear HBn
     have HAn : Hid (Blk w8 w.heap.size 27 #[.int .i64 S, .string ct.issuer, .string ct.subject, .int .i64 ct.frm, .int .i64 ct.upto, .string ct.key, .bool ct.ca, .int .i64 ct.pathLen, .int .i64 ct.usage, cp, ce, cd, .string ct.sig]) := HA.out.below hb HA.out.lt
     clear HA
     have HA := HAn
     clear HAn
     have HTn : Hid (OwnS crlKd w8 W1.heap.size uT told fpT) := HT.out.stays hb
     clear HT
     have HT := HTn
     clear HTn
     have HWn : Hid (OwnL w8 w2.heap.size (.agg #[.string wh.issuer, .int .i64 wh.num, .int .i64 wh.ths, .int .i64 wh.nxt, .int .i64 wh.bas, .slice pW wh.revs.length qW, .string wh.sig]) wh) := HW.out.stays hb
     clear HW
     have HW := HWn
     clear HWn
     have VWn : Hid (Blk w8 w3.heap.size 49 #[.string wh.issuer, .int .i64 wh.num, .int .i64 wh.ths, .int .i64 wh.nxt, .int .i64 wh.bas, .slice pW wh.revs.length qW, .string wh.sig]) := VW.out.below hb VW.out.lt
     clear VW
     have VW := VWn
     clear VWn
     have HDn : Hid (OwnL w8 W4.heap.size (.agg #[.string dl.issuer, .int .i64 dl.num, .int .i64 dl.ths, .int .i64 dl.nxt, .int .i64 dl.bas, .slice pD dl.revs.length qD, .string dl.sig]) dl) := HD.out.stays hb
     clear HD
     have HD := HDn
     clear HDn
     have VDn : Hid (Blk w8 w5.heap.size 49 #[.string dl.issuer, .int .i64 dl.num, .int .i64 dl.ths, .int .i64 dl.nxt, .int .i64 dl.bas, .slice pD dl.revs.length qD, .string dl.sig]) := VD.out.below hb VD.out.lt
     clear VD
     have VD := VDn
     clear VDn
     have O9 : Hid (w7.heap.size <= w8.heap.size) := hb.size
     clear hb EL
     by_cases hq0 : q = 0
     ·have hqb : (q != 0) = false := by rw [hq0]; rfl
      have HQ : Hid (R1 = 1 /\ R2 = 0) := by
       have h := HR.out
       rw [st_skip HNW.out HND.out (by rw [Hr.out]; exact h0), base_no (by rw [Hq.out]; exact hq0)] at h
       exact ⟨h.1.symm, h.2.symm⟩
      go_wp2_with fail
      go_ret2
      exact ⟨by rw [HQ.out.1, HQ.out.2]; rfl, HB.out⟩
     ·have hqb : (q != 0) = true := bne_iff_ne.2 hq0
      have HQ : Hid (R1 = 2 /\ R2 = q) := by
       have h := HR.out
       rw [st_skip HNW.out HND.out (by rw [Hr.out]; exact h0), base_yes (by rw [Hq.out]; exact hq0), Hq.out] at h
       exact ⟨h.1.symm, h.2.symm⟩
      go_wp2_with fail
      go_ret2
      exact ⟨by rw [HQ.out.1, HQ.out.2]; rfl, HB.out⟩
    ·have h0b : (r != 0) = true := bne_iff_ne.2 h0
     have HQ : Hid (R1 = 2 /\ R2 = r) := by
      have h := HR.out
      rw [st_gone HNW.out HND.out (by rw [Hr.out]; exact h8) (by rw [Hr.out]; exact h0), Hr.out] at h
      exact ⟨h.1.symm, h.2.symm⟩
     go_wp2_with fail
     go_ret2
     exact ⟨by rw [HQ.out.1, HQ.out.2]; rfl, HB.out⟩
end Go.Proofs.YtjgbmnhoajiabaaGreatDoor
