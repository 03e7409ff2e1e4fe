/-
  Texts of the proof.
-/
import Derived.Test.YtllmgjfffkhocaaTR19
set_option maxRecDepth 100000
set_option maxHeartbeats 25600000
namespace Go.Proofs.Ytllmgjfffkhocaa
open Go.RowKit
set_option linter.unusedVariables false
set_option linter.unusedSimpArgs false
theorem heldCrlS_big (l : List Cl) (v : Value) (k : Nat) (w : World) (hl : wtS l <= 1048577) (hk1 : 1 <= k) (hk : k <= 100000000) (ha : AtS crlKd w v (mkS k l)) :
  Calls Try.prog 67 #[v, .int .i64 k] w fun e w' => e = .returned (.int .i64 ((posS k l l.length : Nat) : Int)) /\ Below w.heap.size w w' := by
 obtain ⟨ao, cap, hv⟩ := ha.shape
 obtain ⟨n, hn⟩ := zE (l.length)
 rw [mkS_len, hn] at hv
 subst hv
 obtain ⟨KK, hKK⟩ : ∃ q : Nat, posS k l l.length = q := ⟨_, rfl⟩
 rw [hKK]
 have HA : Hid (AtS crlKd w (.slice ao n cap) (mkS k l) /\ l.length = n /\ wtS l <= 1048577 /\ posS k l l.length = KK) := ⟨ha, hn, hl, hKK⟩
 have hn20 : n <= 1048577 := by unfold wtS at hl; omega
 clear ha hn hl hKK
 go_enter Try.func67, Try.ntmps67
 go_wp2_with fail
 go_loopw [1, 5] (fun kv iv wr => ∃ j q : Nat, j <= n /\ iv = .int .i64 j /\ kv = .int .i64 q /\ (1 <= q /\ q <= 200000000) /\ Hid (q = posS k l j /\ Below w.heap.size w wr)) (fun _ iv _ => n - (intOf iv).toNat)
 case atStart => exact ⟨0, k, Nat.zero_le _, rfl, rfl, ⟨hk1, by omega⟩, by simp [posS], Below.refl _ _⟩
 case round =>
  obtain ⟨j, q, hj, rfl, rfl, ⟨hq1, hq2⟩, H⟩ := hrel
  by_cases hjn : j < n
  ·have hjl : j < l.length := by rw [HA.out.2.1]; exact hjn
   have hjm : j < (mkS k l).length := by rw [mkS_len]; exact hjl
   obtain ⟨g, off, u, hao, hgB, hPu, hus, hcell⟩ := HA.out.1.get hjm
   rw [mkS_get l k j hjl hjm, <- H.out.1] at hPu
   obtain ⟨c, hc⟩ := zE (l[j])
   rw [hc] at hPu
   obtain ⟨m, hm⟩ := zE (c.revs.length)
   have hm20 : m <= 1048577 := by
    have h1 := wtS_mem (List.getElem_mem hjl)
    rw [hc] at h1
    have h2 := HA.out.2.2.1
    unfold wtL at h1
    omega
   obtain ⟨p, hup, hrv⟩ := hPu
   change RevAt w p (marksR (q + 5) c.revs.length) at hrv
   obtain ⟨pa, pc, hp, -⟩ := id hrv
   rw [marksR_len, hm] at hp
   subst hp
   subst hao
   rw [hm] at hrv
   obtain ⟨q5, hq5⟩ := zE (q + 5 + 2 * m)
   have HC : Hid (∀ (W : World), Below w.heap.size w W -> ∀ i x, (Value.agg #[.string ⟨(mt q).toArray⟩, .int .i64 ((q : Int) + 1), .int .i64 ((q : Int) + 1 + 1), .int .i64 ((q : Int) + 1 + 1 + 1), .int .i64 ((q : Int) + 1 + 1 + 1 + 1), .slice pa m pc, .string ⟨(mt q5).toArray⟩]).cells[i]? = some x -> W.cell? ⟨g, off + j * 7 + i, none⟩ = some x) := fun W hb i x hx => by
    refine (hb.cell (p := ⟨g, off + j * 7 + i, none⟩) hgB).trans (hcell i x ?_)
    rw [hup]
    unfold mkE clV
    rw [hm, hq5]
    exact hx
   have HRV : Hid (RevAt w (.slice pa m pc) (marksR (q + 5) m)) := hrv
   have HQ : Hid (posS k l (j + 1) = q + (6 + 2 * m) /\ posS k l (j + 1) <= k + 6 * wtS l /\ wtS l <= 1048577 /\ q + 5 + 2 * m = q5) := ⟨by rw [posS_next hjl, hc, <- H.out.1]; unfold szE; rw [hm], posS_le _ _ _, HA.out.2.2.1, hq5⟩
   have hq5b : q5 <= 200000000 := by have := HQ.out; omega
   have hq51 : 1 <= q5 := by omega
   have HB : Hid (Below w.heap.size w wr) := H.out.2
   clear H hus hcell hup hrv hc hm hq5 hgB hjm
   have hki : (j : Int) < (n : Int) := by omega
   have hk0 : (0 : Int) <= (j : Int) := by omega
   go_upto_region 4 with fail
   have hDr : Below wr.heap.size wr wr.drew := (Below.refl _ _).drew
   refine wp_region_held_drew (S := fun W => Below wr.heap.size wr W) (by kernel_rfl) hDr (fun hHeld => ?_)
   clear hDr
   generalize wr.drew = wd at hHeld |-
   refine zT 0 12 ?_ rfl (by rfl) ?_ hHeld ?_
   rotate_left
   ·intro W hSw
    go_simp
    try with_reducible rfl
   try simp only [Act.put, zA, zB, zC]
   refine zT 1 13 ?_ rfl (by rfl) ?_ hHeld ?_
   rotate_left
   ·intro W hSw
    go_simp
    try with_reducible rfl
   try simp only [Act.put, zA, zB, zC]
   refine zT 2 14 ?_ rfl (by rfl) ?_ hHeld ?_
   rotate_left
   ·intro W hSw
    go_simp
    try with_reducible rfl
   try simp only [Act.put, zA, zB, zC]
   refine zT 3 15 ?_ rfl (by rfl) ?_ hHeld ?_
   rotate_left
   ·intro W hSw
    go_simp
    try with_reducible rfl
   try simp only [Act.put, zA, zB, zC]
   refine zT 4 16 ?_ rfl (by rfl) ?_ hHeld ?_
   rotate_left
   ·intro W hSw
    have e0 : W.cell? ⟨g, off + j * 7, none⟩ = some (.string ⟨(mt q).toArray⟩) := HC.out W (HB.out.trans (hSw.mono HB.out.size)) 0 _ rfl
    go_simp
    try with_reducible rfl
   try simp only [Act.put, zA, zB, zC]
   refine zT 5 17 ?_ rfl (by rfl) ?_ hHeld ?_
   rotate_left
   ·intro W hSw
    go_simp
    try with_reducible rfl
   try simp only [Act.put, zA, zB, zC]
   refine wpAnyH_ready (rs := [6]) (by kernel_rfl) (by simp) ?_
   refine AllReadyH.cons (o := ⟨some 18, _, _, _, _, _⟩) rfl (fun K hK => ?_) AllReadyH.nil
   go_simp
   refine (markText_str q wd hq1 (by omega)).mono ?_
   rintro e w3 ⟨rfl, hb3⟩
   have hS3 : Below wr.heap.size wr w3 := hHeld.trans (hb3.mono hHeld.size)
   clear hb3
   refine hK.out _ _ hS3 (fun hHeld => ?_)
   clear hK K hS3
   try simp only [Act.put, zA, zB, zC]
   refine zT 7 19 ?_ rfl (by rfl) ?_ hHeld ?_
   rotate_left
   ·intro W hSw
    go_simp
    try with_reducible rfl
   try simp only [Act.put, zA, zB, zC]
   refine wpAnyH_done (by kernel_rfl) ?_ _
   have HBn : Hid (Below w.heap.size w w3) := HB.out.trans (hHeld.mono HB.out.size)
   clear HB hHeld
   have HB := HBn
   clear HBn
   have c1 : w3.cell? ⟨g, off + j * 7 + 1, none⟩ = some (.int .i64 ((q : Int) + 1)) := HC.out w3 HB.out 1 _ rfl
   have c2 : w3.cell? ⟨g, off + j * 7 + 2, none⟩ = some (.int .i64 ((q : Int) + 1 + 1)) := HC.out w3 HB.out 2 _ rfl
   have c3 : w3.cell? ⟨g, off + j * 7 + 3, none⟩ = some (.int .i64 ((q : Int) + 1 + 1 + 1)) := HC.out w3 HB.out 3 _ rfl
   have c4 : w3.cell? ⟨g, off + j * 7 + 4, none⟩ = some (.int .i64 ((q : Int) + 1 + 1 + 1 + 1)) := HC.out w3 HB.out 4 _ rfl
   have c5 : w3.cell? ⟨g, off + j * 7 + 5, none⟩ = some (.slice pa m pc) := HC.out w3 HB.out 5 _ rfl
   have E5 := heldR_same (.slice pa m pc) m (q + 5) w3 (by omega) (by omega) (HRV.out.below HB.out)
   rw [HQ.out.2.2.2, show (((q + 5 : Nat)) : Int) = (q : Int) + 1 + 1 + 1 + 1 + 1 from by omega] at E5
   go_wp2_with fail
   clear c1 c2 c3 c4 c5
   refine E5.mono ?_
   rintro e w4 ⟨rfl, hb4⟩
   have HBn : Hid (Below w.heap.size w w4) := HB.out.trans (hb4.mono HB.out.size)
   clear HB hb4 E5
   have HB := HBn
   clear HBn
   have hq5n : ¬ (q5 : Int) < 0 := by omega
   go_upto_region 22 with fail
   have hDr : Below w4.heap.size w4 w4.drew := (Below.refl _ _).drew
   refine wp_region_held_drew (S := fun W => Below w4.heap.size w4 W) (by kernel_rfl) hDr (fun hHeld => ?_)
   clear hDr
   generalize w4.drew = wd at hHeld |-
   refine zT 0 67 ?_ rfl (by rfl) ?_ hHeld ?_
   rotate_left
   ·intro W hSw
    go_simp
    try with_reducible rfl
   try simp only [Act.put, zA, zB, zC]
   refine zT 1 68 ?_ rfl (by rfl) ?_ hHeld ?_
   rotate_left
   ·intro W hSw
    go_simp
    try with_reducible rfl
   try simp only [Act.put, zA, zB, zC]
   refine zT 2 69 ?_ rfl (by rfl) ?_ hHeld ?_
   rotate_left
   ·intro W hSw
    go_simp
    try with_reducible rfl
   try simp only [Act.put, zA, zB, zC]
   refine zT 3 70 ?_ rfl (by rfl) ?_ hHeld ?_
   rotate_left
   ·intro W hSw
    go_simp
    try with_reducible rfl
   try simp only [Act.put, zA, zB, zC]
   refine zT 4 71 ?_ rfl (by rfl) ?_ hHeld ?_
   rotate_left
   ·intro W hSw
    have e0 : W.cell? ⟨g, off + j * 7 + 6, none⟩ = some (.string ⟨(mt q5).toArray⟩) := HC.out W (HB.out.trans (hSw.mono HB.out.size)) 6 _ rfl
    go_simp
    try with_reducible rfl
   try simp only [Act.put, zA, zB, zC]
   refine zT 5 72 ?_ rfl (by rfl) ?_ hHeld ?_
   rotate_left
   ·intro W hSw
    go_simp
    try with_reducible rfl
   try simp only [Act.put, zA, zB, zC]
   refine wpAnyH_ready (rs := [6]) (by kernel_rfl) (by simp) ?_
   refine AllReadyH.cons (o := ⟨some 73, _, _, _, _, _⟩) rfl (fun K hK => ?_) AllReadyH.nil
   go_simp
   refine (markText_str q5 wd hq51 (by omega)).mono ?_
   rintro e w3 ⟨rfl, hb3⟩
   have hS3 : Below w4.heap.size w4 w3 := hHeld.trans (hb3.mono hHeld.size)
   clear hb3
   refine hK.out _ _ hS3 (fun hHeld => ?_)
   clear hK K hS3
   try simp only [Act.put, zA, zB, zC]
   refine zT 7 74 ?_ rfl (by rfl) ?_ hHeld ?_
   rotate_left
   ·intro W hSw
    go_simp
    try with_reducible rfl
   try simp only [Act.put, zA, zB, zC]
   refine wpAnyH_done (by kernel_rfl) ?_ _
   have HBn : Hid (Below w.heap.size w w3) := HB.out.trans (hHeld.mono HB.out.size)
   clear HB hHeld
   have HB := HBn
   clear HBn
   go_wp2_with fail
   go_roundw
   case rel => exact ⟨j + 1, q5 + 1, by omega, by go_num, by go_num, ⟨by omega, by have := HQ.out; omega⟩, by have := HQ.out; omega, HB.out⟩
   case measure => simp [intOf]; omega
  ·have hjl : j = n := by omega
   subst hjl
   have HE : Hid (q = KK) := by
    show q = KK
    rw [<- HA.out.2.2.2, HA.out.2.1]
    exact H.out.1
   go_wp2
   go_ret
   exact ⟨by rw [HE.out]; rfl, H.out.2⟩
end Go.Proofs.Ytllmgjfffkhocaa
namespace Go.Proofs.Ytllmgjfffkhocaa
open Go.RowKit
set_option linter.unusedVariables false
def po1 (k : Nat) (s : So) : Nat := posG szM k s.certs s.certs.length
def po2 (k : Nat) (s : So) : Nat := posS (po1 k s) s.crls s.crls.length
def po3 (k : Nat) (s : So) : Nat := posG szA2 (po2 k s) s.ancs s.ancs.length
def mkO (k : Nat) (s : So) : So := ⟨mkG mkM szM k s.certs, mkS (po1 k s) s.crls, mkG mkA szA2 (po2 k s) s.ancs⟩
theorem po_le {k : Nat} {s : So} (hl : wtM s.certs <= 1048577 /\ wtS s.crls <= 1048577 /\ s.ancs.length <= 1048577) (hk : 1 <= k) : 1 <= po1 k s /\ po1 k s <= k + 10485770 /\ 1 <= po2 k s /\ po2 k s <= k + 10485770 + 6291462 /\ 1 <= po3 k s /\ po3 k s <= k + 20000000 := by
 have h1 := posG_le szM k s.certs s.certs.length
 have h2 := sum_szM s.certs
 have h3 := posS_le (po1 k s) s.crls s.crls.length
 have h4 := posG_le szA2 (po2 k s) s.ancs s.ancs.length
 have h5 := sum_szA s.ancs
 have g1 : k <= po1 k s := Nat.le_add_right _ _
 have g2 : po1 k s <= po2 k s := Nat.le_add_right _ _
 have g3 : po2 k s <= po3 k s := Nat.le_add_right _ _
 unfold po3 po2 po1 at *
 omega
theorem markStore_out (s : So) (v : Value) (k base : Nat) (fp : List Nat) (w : World) (hl : wtM s.certs <= 1048577 /\ wtS s.crls <= 1048577 /\ s.ancs.length <= 1048577) (hk1 : 1 <= k) (hk : k <= 50000000) (ha : OwnO w base v s fp) :
  Calls Try.prog 32 #[v, .int .i64 k] w fun e w' => e = .returned (.int .i64 ((po3 k s : Nat) : Int)) /\ OwnO w' base v (mkO k s) fp /\ Out fp w w' := by
 have hpo := po_le hl hk1
 obtain ⟨a1, c1, a2, c2, a3, c3, hv⟩ := ha.at.shape
 obtain ⟨p, q, r, f1, f2, f3, hv2, h1, h2, h3, rfl, hnd⟩ := ha
 subst hv
 injection hv2 with hv2
 injection hv2 with hv2
 injection hv2 with e1 hv2
 injection hv2 with e2 hv2
 injection hv2 with e3 hv2
 subst e1 e2 e3
 obtain ⟨n1, e1⟩ := zE (s.certs.length)
 obtain ⟨n2, e2⟩ := zE (s.crls.length)
 obtain ⟨n3, e3⟩ := zE (s.ancs.length)
 obtain ⟨K1, hK1⟩ := zE (po1 k s)
 obtain ⟨K2, hK2⟩ := zE (po2 k s)
 obtain ⟨K3, hK3⟩ := zE (po3 k s)
 have hmk : mkO k s = ⟨(mkG mkM szM k s.certs), (mkS K1 s.crls), (mkG mkA szA2 K2 s.ancs)⟩ := by unfold mkO; rw [hK1, hK2]
 rw [hmk, hK3]
 rw [hK1, hK2, hK3] at hpo
 rw [e1] at h1 |-
 rw [e2] at h2 |-
 rw [e3] at h3 |-
 have hnd2 := List.nodup_append.1 hnd
 have hnd3 := List.nodup_append.1 hnd2.2.1
 have D12 : Hid ((∀ b ∈ f1, b ∉ f2) /\ (∀ b ∈ f1, b ∉ f3) /\ (∀ b ∈ f2, b ∉ f3)) := ⟨fun b x y => hnd2.2.2 b x b (List.mem_append_left _ y) rfl, fun b x y => hnd2.2.2 b x b (List.mem_append_right _ y) rfl, fun b x y => hnd3.2.2 b x b y rfl⟩
 have HND : Hid ((f1 ++ (f2 ++ f3)).Nodup) := hnd
 have HL := hl
 obtain ⟨V, hV⟩ : ∃ V, V = w.alloc (Obj.cells #[.slice a1 n1 c1, .slice a2 n2 c2, .slice a3 n3 c3] 37) := ⟨_, rfl⟩
 have hb0 : Below w.heap.size w V := by rw [hV]; exact (Below.refl _ _).alloc (Nat.le_refl _) _
 have LT : Hid (∀ b ∈ f1 ++ (f2 ++ f3), b < w.heap.size) := fun b hb => by
  rcases List.mem_append.1 hb with hb | hb
  ·exact (h1.lt b hb).2
  ·rcases List.mem_append.1 hb with hb | hb
   ·exact (h2.lt b hb).2
   ·exact (h3.lt b hb).2
 have H0 : Hid ((OwnS certKd V base (.slice a1 n1 c1) s.certs f1 /\ OwnS crlKd V base (.slice a2 n2 c2) s.crls f2 /\ OwnS anKd V base (.slice a3 n3 c3) s.ancs f3) /\ Blk V w.heap.size 37 #[.slice a1 n1 c1, .slice a2 n2 c2, .slice a3 n3 c3] /\ Out (f1 ++ (f2 ++ f3)) w V) := ⟨⟨h1.stays hb0, h2.stays hb0, h3.stays hb0⟩, by rw [hV]; exact Blk.new w _ _, Out.of_below hb0⟩
 have X1 : Hid (∀ W, OwnS certKd W base (.slice a1 n1 c1) s.certs f1 -> Calls Try.prog 63 #[.slice a1 n1 c1, .int .i64 k] W fun e w' => e = .returned (.int .i64 (K1 : Int)) /\ OwnS certKd w' base (.slice a1 n1 c1) (mkG mkM szM k s.certs) f1 /\ Out f1 W w') := fun W h => by rw [<- hK1]; exact markCertS_out s.certs _ k base f1 W hl.1 hk1 (by omega) h
 have X2 : Hid (∀ W, OwnS crlKd W base (.slice a2 n2 c2) s.crls f2 -> Calls Try.prog 64 #[.slice a2 n2 c2, .int .i64 (K1 : Int)] W fun e w' => e = .returned (.int .i64 (K2 : Int)) /\ OwnS crlKd w' base (.slice a2 n2 c2) (mkS K1 s.crls) f2 /\ Out f2 W w') := fun W h => by
  have h9 := markCrlS_big s.crls _ K1 base f2 W hl.2.1 (by omega) (by omega) h
  have e9 : posS K1 s.crls s.crls.length = K2 := by rw [<- hK1]; exact hK2
  rw [e9] at h9
  exact h9
 have X3 : Hid (∀ W, OwnS anKd W base (.slice a3 n3 c3) s.ancs f3 -> Calls Try.prog 65 #[.slice a3 n3 c3, .int .i64 (K2 : Int)] W fun e w' => e = .returned (.int .i64 (K3 : Int)) /\ OwnS anKd w' base (.slice a3 n3 c3) (mkG mkA szA2 K2 s.ancs) f3 /\ Out f3 W w') := fun W h => by
  have h9 := markAnchorS_out s.ancs _ K2 base f3 W hl.2.2 (by omega) (by omega) h
  have e9 : posG szA2 K2 s.ancs s.ancs.length = K3 := by rw [<- hK2]; exact hK3
  rw [e9] at h9
  exact h9
 clear h1 h2 h3 hnd hnd2 hnd3 hb0 hK1 hK2 hK3 e1 e2 e3 hl HL hmk
 go_enter Try.func32, Try.ntmps32
 go_wp2_with fail
 rw [<- hV]
 clear hV
 refine (X1.out V H0.out.1.1).mono ?_
 rintro e w1 ⟨rfl, o1, t1⟩
 have H1 : Hid ((OwnS certKd w1 base (.slice a1 n1 c1) (mkG mkM szM k s.certs) f1 /\ OwnS crlKd w1 base (.slice a2 n2 c2) s.crls f2 /\ OwnS anKd w1 base (.slice a3 n3 c3) s.ancs f3) /\ Blk w1 w.heap.size 37 #[.slice a1 n1 c1, .slice a2 n2 c2, .slice a3 n3 c3] /\ Out (f1 ++ (f2 ++ f3)) w w1) := ⟨⟨o1, H0.out.1.2.1.out t1 (fun b x y => D12.out.1 b y x), H0.out.1.2.2.out t1 (fun b x y => D12.out.2.1 b y x)⟩, (t1.2.2.2.2 _ H0.out.2.1.lt (fun hm => by have := LT.out _ (List.mem_append_left _ hm); omega)).trans H0.out.2.1, H0.out.2.2.trans (t1.mono fun b hb => List.mem_append_left _ hb)⟩
 clear o1 t1 H0
 have x1 : w1.cell? ⟨w.heap.size, 1, none⟩ = some (.slice a2 n2 c2) := H1.out.2.1.cell 1
 go_wp2_with fail
 clear x1
 refine (X2.out w1 H1.out.1.2.1).mono ?_
 rintro e w2 ⟨rfl, o1, t1⟩
 have H2 : Hid ((OwnS certKd w2 base (.slice a1 n1 c1) (mkG mkM szM k s.certs) f1 /\ OwnS crlKd w2 base (.slice a2 n2 c2) (mkS K1 s.crls) f2 /\ OwnS anKd w2 base (.slice a3 n3 c3) s.ancs f3) /\ Blk w2 w.heap.size 37 #[.slice a1 n1 c1, .slice a2 n2 c2, .slice a3 n3 c3] /\ Out (f1 ++ (f2 ++ f3)) w w2) := ⟨⟨H1.out.1.1.out t1 (fun b x y => D12.out.1 b x y), o1, H1.out.1.2.2.out t1 (fun b x y => D12.out.2.2 b y x)⟩, (t1.2.2.2.2 _ H1.out.2.1.lt (fun hm => by have := LT.out _ (List.mem_append_right _ (List.mem_append_left _ hm)); omega)).trans H1.out.2.1, H1.out.2.2.trans (t1.mono fun b hb => List.mem_append_right _ (List.mem_append_left _ hb))⟩
 clear o1 t1 H1
 have x1 : w2.cell? ⟨w.heap.size, 2, none⟩ = some (.slice a3 n3 c3) := H2.out.2.1.cell 2
 go_wp2_with fail
 clear x1
 refine (X3.out w2 H2.out.1.2.2).mono ?_
 rintro e w3 ⟨rfl, o1, t1⟩
 have H3 : Hid ((OwnS certKd w3 base (.slice a1 n1 c1) (mkG mkM szM k s.certs) f1 /\ OwnS crlKd w3 base (.slice a2 n2 c2) (mkS K1 s.crls) f2 /\ OwnS anKd w3 base (.slice a3 n3 c3) (mkG mkA szA2 K2 s.ancs) f3) /\ Out (f1 ++ (f2 ++ f3)) w w3) := ⟨⟨H2.out.1.1.out t1 (fun b x y => D12.out.2.1 b x y), H2.out.1.2.1.out t1 (fun b x y => D12.out.2.2 b x y), o1⟩, H2.out.2.2.trans (t1.mono fun b hb => List.mem_append_right _ (List.mem_append_right _ hb))⟩
 clear o1 t1 H2
 go_wp2_with fail
 go_ret
 exact ⟨rfl, ⟨_, _, _, f1, f2, f3, rfl, H3.out.1.1, H3.out.1.2.1, H3.out.1.2.2, rfl, HND.out⟩, H3.out.2⟩
theorem heldStore_same (s : So) (v : Value) (k : Nat) (w : World) (hl : wtM s.certs <= 1048577 /\ wtS s.crls <= 1048577 /\ s.ancs.length <= 1048577) (hk1 : 1 <= k) (hk : k <= 50000000) (ha : SoAt w v (mkO k s)) :
  Calls Try.prog 33 #[v, .int .i64 k] w fun e w' => e = .returned (.int .i64 ((po3 k s : Nat) : Int)) /\ Below w.heap.size w w' := by
 have hpo := po_le hl hk1
 obtain ⟨a1, c1, a2, c2, a3, c3, hv⟩ := ha.shape
 subst hv
 obtain ⟨h1, h2, h3⟩ := ha.rows
 obtain ⟨n1, e1⟩ := zE ((mkO k s).certs.length)
 obtain ⟨n2, e2⟩ := zE ((mkO k s).crls.length)
 obtain ⟨n3, e3⟩ := zE ((mkO k s).ancs.length)
 rw [e1] at h1 |-
 rw [e2] at h2 |-
 rw [e3] at h3 |-
 obtain ⟨K1, hK1⟩ := zE (po1 k s)
 obtain ⟨K2, hK2⟩ := zE (po2 k s)
 obtain ⟨K3, hK3⟩ := zE (po3 k s)
 change AtS certKd w _ (mkG mkM szM k s.certs) at h1
 change AtS crlKd w _ (mkS (po1 k s) s.crls) at h2
 change AtS anKd w _ (mkG mkA szA2 (po2 k s) s.ancs) at h3
 rw [hK1, hK2, hK3] at hpo
 rw [hK1] at h2
 rw [hK2] at h3
 rw [hK3]
 have X1 : Hid (∀ W, Below w.heap.size w W -> Calls Try.prog 66 #[.slice a1 n1 c1, .int .i64 k] W fun e w' => e = .returned (.int .i64 (K1 : Int)) /\ Below W.heap.size W w') := fun W h => by rw [<- hK1]; exact heldCertS_same s.certs _ k W hl.1 hk1 (by omega) (h1.below h)
 have X2 : Hid (∀ W, Below w.heap.size w W -> Calls Try.prog 67 #[.slice a2 n2 c2, .int .i64 (K1 : Int)] W fun e w' => e = .returned (.int .i64 (K2 : Int)) /\ Below W.heap.size W w') := fun W h => by
  have h9 := heldCrlS_big s.crls _ K1 W hl.2.1 (by omega) (by omega) (h2.below h)
  have e9 : posS K1 s.crls s.crls.length = K2 := by rw [<- hK1]; exact hK2
  rw [e9] at h9
  exact h9
 have X3 : Hid (∀ W, Below w.heap.size w W -> Calls Try.prog 68 #[.slice a3 n3 c3, .int .i64 (K2 : Int)] W fun e w' => e = .returned (.int .i64 (K3 : Int)) /\ Below W.heap.size W w') := fun W h => by
  have h9 := heldAnchorS_same s.ancs _ K2 W hl.2.2 (by omega) (by omega) (h3.below h)
  have e9 : posG szA2 K2 s.ancs s.ancs.length = K3 := by rw [<- hK2]; exact hK3
  rw [e9] at h9
  exact h9
 have p1 : ¬ (K1 : Int) < 0 := by omega
 have p2 : ¬ (K2 : Int) < 0 := by omega
 have p3 : ¬ (K3 : Int) < 0 := by omega
 obtain ⟨V, hV⟩ : ∃ V, V = w.alloc (Obj.cells #[.slice a1 n1 c1, .slice a2 n2 c2, .slice a3 n3 c3] 37) := ⟨_, rfl⟩
 have H0 : Hid (Below w.heap.size w V /\ Blk V w.heap.size 37 #[.slice a1 n1 c1, .slice a2 n2 c2, .slice a3 n3 c3]) := by rw [hV]; exact ⟨(Below.refl _ _).alloc (Nat.le_refl _) _, Blk.new w _ _⟩
 clear h1 h2 h3 hK1 hK2 hK3 e1 e2 e3 hl ha hpo
 go_enter Try.func33, Try.ntmps33
 go_wp2_with fail
 rw [<- hV]
 clear hV
 refine (X1.out V H0.out.1).mono ?_
 rintro e w1 ⟨rfl, hb⟩
 have H1 : Hid (Below w.heap.size w w1 /\ Blk w1 w.heap.size 37 #[.slice a1 n1 c1, .slice a2 n2 c2, .slice a3 n3 c3]) := ⟨H0.out.1.trans (hb.mono H0.out.1.size), H0.out.2.below hb H0.out.2.lt⟩
 clear hb H0
 have x1 : w1.cell? ⟨w.heap.size, 1, none⟩ = some (.slice a2 n2 c2) := H1.out.2.cell 1
 go_wp2_with fail
 clear x1
 refine (X2.out w1 H1.out.1).mono ?_
 rintro e w2 ⟨rfl, hb⟩
 have H2 : Hid (Below w.heap.size w w2 /\ Blk w2 w.heap.size 37 #[.slice a1 n1 c1, .slice a2 n2 c2, .slice a3 n3 c3]) := ⟨H1.out.1.trans (hb.mono H1.out.1.size), H1.out.2.below hb H1.out.2.lt⟩
 clear hb H1
 have x1 : w2.cell? ⟨w.heap.size, 2, none⟩ = some (.slice a3 n3 c3) := H2.out.2.cell 2
 go_wp2_with fail
 clear x1
 refine (X3.out w2 H2.out.1).mono ?_
 rintro e w3 ⟨rfl, hb⟩
 have H3 : Hid (Below w.heap.size w w3) := H2.out.1.trans (hb.mono H2.out.1.size)
 clear hb H2
 go_wp2_with fail
 go_ret
 exact ⟨rfl, H3.out⟩
theorem Blk.out {w w' : World} {b : Nat} {t : TypeId} {vs : Array Value} {fp : List Nat} (h : Blk w b t vs) (ho : Out fp w w') (hn : b ∉ fp) : Blk w' b t vs := (ho.2.2.2.2 b h.lt hn).trans h
theorem Below.on {B : Nat} {w W W' : World} (h : Below B w W) (hb : Below W.heap.size W W') (hB : B <= W.heap.size) : Below B w W' := h.trans (hb.mono hB)
theorem Below.out {B : Nat} {w W W' : World} {fp : List Nat} (h : Below B w W) (ho : Out fp W W') (hf : ∀ b ∈ fp, B <= b) (hB : B <= W.heap.size) : Below B w W' := h.trans (ho.below hf hB)
end Go.Proofs.Ytllmgjfffkhocaa
