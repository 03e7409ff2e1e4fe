/-
  Texts of the proof, one behind the other: CsC.
-/
import Derived.Test.YtajbalokcfghbaaC29
import Derived.Test.YtajbalokcfghbaaC30
import Derived.Test.YtajbalokcfghbaaC31

/-
  The program's ReadCert: the letter that bytes are, or none.
-/
namespace Go.Proofs.Ytajbalokcfghbaa
open Go.RowKit Der
set_option linter.unusedVariables false
set_option linter.unusedSimpArgs false

/-- What a ReadCert leaves. -/
def RcPost (w : World) (ol : Option Ct) (e : Ending) (W' : World) : Prop := Below w.heap.size w W' ∧
  ((ol = none ∧ e = .returned (.tuple #[.agg #[.int .i64 0, .string ⟨#[]⟩, .string ⟨#[]⟩, .int .i64 0, .int .i64 0, .string ⟨#[]⟩, .bool false, .int .i64 0, .int .i64 0, .slice none 0 0, .slice none 0 0, .slice none 0 0, .string ⟨#[]⟩], .bool false])) ∨ ∃ (c : Ct) (u : Value), ol = some c ∧ e = .returned (.tuple #[u, .bool true]) ∧ OwnC W' w.heap.size u c ∧ certOk c = true)
theorem nums_len {k : Nat} {ks : List (It (k + 1))} {l : List Int} (h : numsP ks = some l) : l.length = ks.length := (nums_some h).1
theorem txts_tot {k : Nat} : ∀ {ks : List (It (k + 1))} {l : List ByteArray}, txtsP ks = some l → totT l ≤ ks.length + (ks.map (szI (k + 1))).sum
  | [], l, h => by
    simp only [txtsP, Option.some.injEq] at h
    subst h
    exact Nat.le_refl _
  | y :: r, l, h => by
    unfold txtsP at h
    split at h
    · cases h
    · next v q hn =>
      split at h
      · cases h
      · next l' hl =>
        simp only [Option.some.injEq] at h
        subst h
        have ih := txts_tot hl
        obtain ⟨y', e1, e2, e3⟩ := txt_some hn
        simp only [List.cons.injEq] at e1
        obtain ⟨rfl, -⟩ := e1
        change v = baL (It.text y) at e3
        have e4 : v.size = (It.text y).length := by rw [e3]; rfl
        have e5 : (It.text y).length ≤ szI (k + 1) y := by
          show _ ≤ (It.text y).length + (It.kids y).length + ((It.kids y).map (szI k)).sum
          omega
        simp only [totT, List.length_cons, List.map_cons, List.sum_cons]
        omega
theorem sz_item {n : Nat} (y : It (n + 1)) : szI (n + 1) y = (It.text y).length + (It.kids y).length + ((It.kids y).map (szI n)).sum := rfl
theorem itxt_le {n : Nat} (y : It (n + 1)) : (baL (It.text y)).size ≤ szI (n + 1) y := by
  rw [sz_item]
  show (It.text y).length ≤ _
  omega
theorem wt_of {c : Ct} {m : Nat} {x : It (m + 4)} (h : letP x = some c) (hz : szI (m + 4) x ≤ 4000) : wtC c ≤ 1048576 := by
  unfold letP at h
  split at h
  rotate_left
  · cases h
  next ht =>
  obtain ⟨b, hb, h⟩ := Option.bind_eq_some_iff.1 h
  obtain ⟨cb, hcb, h⟩ := Option.bind_eq_some_iff.1 h
  obtain ⟨s, hs, h⟩ := Option.bind_eq_some_iff.1 h
  obtain ⟨_, he, h⟩ := Option.bind_eq_some_iff.1 h
  simp only [Option.some.injEq] at h
  obtain ⟨yb, b1, b2, b3⟩ := lst_some hb
  obtain ⟨ys, s1, s2, s3⟩ := txt_some hs
  rw [s1] at b1
  have z0 : szI (m + 4) x = (It.text x).length + (It.kids x).length + ((It.kids x).map (szI (m + 3))).sum := sz_item x
  rw [b1] at z0
  simp only [List.map_cons, List.sum_cons, List.length_cons] at z0
  have z1 : szI (m + 3) yb = (It.text yb).length + (It.kids yb).length + ((It.kids yb).map (szI (m + 2))).sum := sz_item yb
  rw [b3] at hcb
  unfold bodyP at hcb
  obtain ⟨a0, h0, hcb⟩ := Option.bind_eq_some_iff.1 hcb
  obtain ⟨a1, h1, hcb⟩ := Option.bind_eq_some_iff.1 hcb
  obtain ⟨a2, h2, hcb⟩ := Option.bind_eq_some_iff.1 hcb
  obtain ⟨f, hf, hcb⟩ := Option.bind_eq_some_iff.1 hcb
  obtain ⟨u, hu, hcb⟩ := Option.bind_eq_some_iff.1 hcb
  obtain ⟨_, hue, hcb⟩ := Option.bind_eq_some_iff.1 hcb
  obtain ⟨a3, h3, hcb⟩ := Option.bind_eq_some_iff.1 hcb
  obtain ⟨a4, h4, hcb⟩ := Option.bind_eq_some_iff.1 hcb
  obtain ⟨a5, h5, hcb⟩ := Option.bind_eq_some_iff.1 hcb
  obtain ⟨a6, h6, hcb⟩ := Option.bind_eq_some_iff.1 hcb
  obtain ⟨a7, h7, hcb⟩ := Option.bind_eq_some_iff.1 hcb
  obtain ⟨a8, h8, hcb⟩ := Option.bind_eq_some_iff.1 hcb
  obtain ⟨a9, h9, hcb⟩ := Option.bind_eq_some_iff.1 hcb
  obtain ⟨a10, h10, hcb⟩ := Option.bind_eq_some_iff.1 hcb
  obtain ⟨_, hze, hcb⟩ := Option.bind_eq_some_iff.1 hcb
  simp only [Option.some.injEq] at hcb
  obtain ⟨y0, n0, p0, q0, i0, v0⟩ := num_some h0
  obtain ⟨y1, p1, q1, v1⟩ := txt_some h1
  obtain ⟨y2, p2, q2, v2⟩ := lst_some h2
  obtain ⟨y3, p3, q3, v3⟩ := txt_some h3
  obtain ⟨y4, p4, q4, v4⟩ := txt_some h4
  obtain ⟨y5, p5, q5, v5⟩ := flg_some h5
  obtain ⟨y6, n6, p6, q6, i6, v6⟩ := num_some h6
  obtain ⟨y7, n7, p7, q7, i7, v7⟩ := num_some h7
  obtain ⟨y8, p8, q8, v8⟩ := numsL_some h8
  obtain ⟨y9, p9, q9, v9⟩ := txtsL_some h9
  obtain ⟨y10, p10, q10, v10⟩ := txtsL_some h10
  rw [p10] at p9
  rw [p9] at p8
  rw [p8] at p7
  rw [p7] at p6
  rw [p6] at p5
  rw [p5] at p4
  rw [p4] at p3
  rw [p3] at p2
  rw [p2] at p1
  rw [p1] at p0
  rw [p0] at z1
  simp only [List.map_cons, List.sum_cons, List.length_cons] at z1
  have t1 : (baL (It.text y1)).size ≤ szI (m + 2) y1 := itxt_le y1
  have t3 : (baL (It.text y3)).size ≤ szI (m + 2) y3 := itxt_le y3
  have t4 : (baL (It.text y4)).size ≤ szI (m + 2) y4 := itxt_le y4
  have ts : (baL (It.text ys)).size ≤ szI (m + 3) ys := itxt_le ys
  have t8 := nums_len v8
  have t9 : totT a9.1 ≤ (It.kids y9).length + ((It.kids y9).map (szI (m + 1))).sum := txts_tot v9
  have t10 : totT a10.1 ≤ (It.kids y10).length + ((It.kids y10).map (szI (m + 1))).sum := txts_tot v10
  have s8 : szI (m + 2) y8 = (It.text y8).length + (It.kids y8).length + ((It.kids y8).map (szI (m + 1))).sum := sz_item y8
  have s9 : szI (m + 2) y9 = (It.text y9).length + (It.kids y9).length + ((It.kids y9).map (szI (m + 1))).sum := sz_item y9
  have s10 : szI (m + 2) y10 = (It.text y10).length + (It.kids y10).length + ((It.kids y10).map (szI (m + 1))).sum := sz_item y10
  subst h hcb
  unfold wtC
  show a1.1.size + a3.1.size + a4.1.size + a8.1.length + totT a9.1 + totT a10.1 + s.1.size ≤ 1048576
  rw [v1, v3, v4, s3]
  omega
set_option maxHeartbeats 6400000 in
set_option maxRecDepth 100000 in
theorem implReadCert_any (m : Nat) (hm : 4000 ≤ m + 3) (T : ByteArray) (w : World) (hT : T.size ≤ 1000000000000) :
    Calls Try.prog 16 #[.string T] w fun e W' => RcPost w ((readG (m + 3 + 1) T.data.toList).bind readP) e W' := by
  obtain ⟨oR, hoR⟩ : ∃ r, (readG (m + 3 + 1) T.data.toList).bind readP = r := ⟨_, rfl⟩
  have HP : Hid ((readG (m + 3 + 1) T.data.toList).bind readP = oR) := hoR
  rw [hoR]
  clear hoR
  obtain ⟨W1, hW1⟩ : ∃ V, V = w.alloc (Obj.cells #[.int .i64 0, .string ⟨#[]⟩, .string ⟨#[]⟩, .int .i64 0, .int .i64 0, .string ⟨#[]⟩, .bool false, .int .i64 0, .int .i64 0, .slice none 0 0, .slice none 0 0, .slice none 0 0, .string ⟨#[]⟩] 29) := ⟨_, rfl⟩
  have E1 := readWhole_any m hm T W1 hT
  have H1 : Hid (Below w.heap.size w W1 ∧ Blk W1 w.heap.size 29 #[.int .i64 0, .string ⟨#[]⟩, .string ⟨#[]⟩, .int .i64 0, .int .i64 0, .string ⟨#[]⟩, .bool false, .int .i64 0, .int .i64 0, .slice none 0 0, .slice none 0 0, .slice none 0 0, .string ⟨#[]⟩] ∧ W1.heap.size = w.heap.size + 1) := by rw [hW1]; exact ⟨(Below.refl _ _).alloc (Nat.le_refl _) _, Blk.new _ _ _, size_alloc _ _⟩
  go_enter Try.func16, Try.ntmps16
  go_wp2_with fail
  rw [← hW1]
  clear hW1
  refine E1.mono ?_
  rintro e w4 ⟨hb4, ⟨hn, rfl⟩ | ⟨x, c, u, hx, hsz, hc, rfl, hown⟩⟩
  · have H4 : Hid (Below w.heap.size w w4 ∧ Blk w4 w.heap.size 29 #[.int .i64 0, .string ⟨#[]⟩, .string ⟨#[]⟩, .int .i64 0, .int .i64 0, .string ⟨#[]⟩, .bool false, .int .i64 0, .int .i64 0, .slice none 0 0, .slice none 0 0, .slice none 0 0, .string ⟨#[]⟩]) := ⟨H1.out.1.trans (hb4.mono H1.out.1.size), H1.out.2.1.on hb4⟩
    have r0 := fun o => (show (w4.alloc o).cell? ⟨w.heap.size, 0, none⟩ = some (.int .i64 0) from (H4.out.2.alloc o).cell 0)
    have r1 := fun o => (show (w4.alloc o).cell? ⟨w.heap.size, 1, none⟩ = some (.string ⟨#[]⟩) from (H4.out.2.alloc o).cell 1)
    have r2 := fun o => (show (w4.alloc o).cell? ⟨w.heap.size, 2, none⟩ = some (.string ⟨#[]⟩) from (H4.out.2.alloc o).cell 2)
    have r3 := fun o => (show (w4.alloc o).cell? ⟨w.heap.size, 3, none⟩ = some (.int .i64 0) from (H4.out.2.alloc o).cell 3)
    have r4 := fun o => (show (w4.alloc o).cell? ⟨w.heap.size, 4, none⟩ = some (.int .i64 0) from (H4.out.2.alloc o).cell 4)
    have r5 := fun o => (show (w4.alloc o).cell? ⟨w.heap.size, 5, none⟩ = some (.string ⟨#[]⟩) from (H4.out.2.alloc o).cell 5)
    have r6 := fun o => (show (w4.alloc o).cell? ⟨w.heap.size, 6, none⟩ = some (.bool false) from (H4.out.2.alloc o).cell 6)
    have r7 := fun o => (show (w4.alloc o).cell? ⟨w.heap.size, 7, none⟩ = some (.int .i64 0) from (H4.out.2.alloc o).cell 7)
    have r8 := fun o => (show (w4.alloc o).cell? ⟨w.heap.size, 8, none⟩ = some (.int .i64 0) from (H4.out.2.alloc o).cell 8)
    have r9 := fun o => (show (w4.alloc o).cell? ⟨w.heap.size, 9, none⟩ = some (.slice none 0 0) from (H4.out.2.alloc o).cell 9)
    have r10 := fun o => (show (w4.alloc o).cell? ⟨w.heap.size, 10, none⟩ = some (.slice none 0 0) from (H4.out.2.alloc o).cell 10)
    have r11 := fun o => (show (w4.alloc o).cell? ⟨w.heap.size, 11, none⟩ = some (.slice none 0 0) from (H4.out.2.alloc o).cell 11)
    have r12 := fun o => (show (w4.alloc o).cell? ⟨w.heap.size, 12, none⟩ = some (.string ⟨#[]⟩) from (H4.out.2.alloc o).cell 12)
    have rf := fun o j => (H4.out.2.alloc o).free j
    have HN : Hid (oR = none) := by
      show oR = none
      rw [← HP.out]
      cases hr : readG (m + 3 + 1) T.data.toList with
      | none => rfl
      | some y => rw [hr] at hn; show readP y = none; unfold readP; rw [show letP y = none from hn]; rfl
    clear hn hb4 H1 E1
    go_wp2_with fail
    refine bodyPost_ret (v := .tuple #[.agg #[.int .i64 0, .string ⟨#[]⟩, .string ⟨#[]⟩, .int .i64 0, .int .i64 0, .string ⟨#[]⟩, .bool false, .int .i64 0, .int .i64 0, .slice none 0 0, .slice none 0 0, .slice none 0 0, .string ⟨#[]⟩], .bool false]) (by simp [results, Try.results16, go_sem, r0, r1, r2, r3, r4, r5, r6, r7, r8, r9, r10, r11, r12]; try rfl) rfl ⟨?_, .inl ⟨HN.out, rfl⟩⟩
    iterate 13 refine Below.setCell ?_ (by show w.heap.size ≤ w.heap.size; exact Nat.le_refl _) _
    exact H4.out.1.alloc H4.out.1.size _
  ·
      obtain ⟨pX, qX, eX, rX, dX, sX, hu⟩ := CtAt.shape hown.at
      subst hu
      unfold ctV at hown ⊢
      obtain ⟨W5, hW5⟩ : ∃ V, V = w4.alloc (Obj.cells #[.int .i64 c.serial, .string c.issuer, .string c.subject, .int .i64 c.frm, .int .i64 c.upto, .string c.key, .bool c.ca, .int .i64 c.pathLen, .int .i64 c.usage, .slice pX c.pol.length qX, .slice eX c.per.length rX, .slice dX c.den.length sX, .string c.sig] 29) := ⟨_, rfl⟩
      have hb5 : Below w4.heap.size w4 W5 := by rw [hW5]; exact (Below.refl _ _).alloc (Nat.le_refl _) _
      have H5 : Hid ((Below w.heap.size w W5 ∧ Blk W5 w.heap.size 29 #[.int .i64 0, .string ⟨#[]⟩, .string ⟨#[]⟩, .int .i64 0, .int .i64 0, .string ⟨#[]⟩, .bool false, .int .i64 0, .int .i64 0, .slice none 0 0, .slice none 0 0, .slice none 0 0, .string ⟨#[]⟩]) ∧ Blk W5 w4.heap.size 29 #[.int .i64 c.serial, .string c.issuer, .string c.subject, .int .i64 c.frm, .int .i64 c.upto, .string c.key, .bool c.ca, .int .i64 c.pathLen, .int .i64 c.usage, .slice pX c.pol.length qX, .slice eX c.per.length rX, .slice dX c.den.length sX, .string c.sig] ∧ OwnC W5 W1.heap.size (.agg #[.int .i64 c.serial, .string c.issuer, .string c.subject, .int .i64 c.frm, .int .i64 c.upto, .string c.key, .bool c.ca, .int .i64 c.pathLen, .int .i64 c.usage, .slice pX c.pol.length qX, .slice eX c.per.length rX, .slice dX c.den.length sX, .string c.sig]) c ∧ w.heap.size < W1.heap.size ∧ W1.heap.size ≤ w4.heap.size) := ⟨⟨(H1.out.1.trans (hb4.mono H1.out.1.size)).trans (hb5.mono (Nat.le_trans H1.out.1.size hb4.size)), (H1.out.2.1.on hb4).on hb5⟩, by rw [hW5]; exact Blk.new _ _ _, hown.stays hb5, H1.out.2.1.lt, hb4.size⟩
      have E5 := implCertOk_any c (.agg #[.int .i64 c.serial, .string c.issuer, .string c.subject, .int .i64 c.frm, .int .i64 c.upto, .string c.key, .bool c.ca, .int .i64 c.pathLen, .int .i64 c.usage, .slice pX c.pol.length qX, .slice eX c.per.length rX, .slice dX c.den.length sX, .string c.sig]) W5 (Nat.le_trans (wt_of hc hsz) (by decide)) (hown.stays hb5).at
      have HC : Hid (letP x = some c) := hc
      have HX : Hid (readG (m + 3 + 1) T.data.toList = some x ∧ szI (m + 4) x ≤ 4000) := ⟨hx, hsz⟩
      clear hown hb4 hb5 H1 E1 hc hx hsz
      go_wp2_with fail
      rw [← hW5]
      clear hW5
      obtain ⟨B, hB⟩ : ∃ B, certOk c = B := ⟨_, rfl⟩
      rw [hB] at E5
      refine E5.mono ?_
      rintro e w6 ⟨rfl, hb6⟩
      have H6 : Hid ((Below w.heap.size w w6 ∧ Blk w6 w.heap.size 29 #[.int .i64 0, .string ⟨#[]⟩, .string ⟨#[]⟩, .int .i64 0, .int .i64 0, .string ⟨#[]⟩, .bool false, .int .i64 0, .int .i64 0, .slice none 0 0, .slice none 0 0, .slice none 0 0, .string ⟨#[]⟩]) ∧ Blk w6 w4.heap.size 29 #[.int .i64 c.serial, .string c.issuer, .string c.subject, .int .i64 c.frm, .int .i64 c.upto, .string c.key, .bool c.ca, .int .i64 c.pathLen, .int .i64 c.usage, .slice pX c.pol.length qX, .slice eX c.per.length rX, .slice dX c.den.length sX, .string c.sig] ∧ OwnC w6 W1.heap.size (.agg #[.int .i64 c.serial, .string c.issuer, .string c.subject, .int .i64 c.frm, .int .i64 c.upto, .string c.key, .bool c.ca, .int .i64 c.pathLen, .int .i64 c.usage, .slice pX c.pol.length qX, .slice eX c.per.length rX, .slice dX c.den.length sX, .string c.sig]) c ∧ w.heap.size < W1.heap.size ∧ W1.heap.size ≤ w4.heap.size) := ⟨⟨H5.out.1.1.trans (hb6.mono H5.out.1.1.size), H5.out.1.2.on hb6⟩, H5.out.2.1.on hb6, H5.out.2.2.1.stays hb6, H5.out.2.2.2⟩
      have HB : Hid (certOk c = B) := hB
      clear hb6 H5 E5 hB
      cases B with
      | false =>
        have r0 : w6.cell? ⟨w.heap.size, 0, none⟩ = some (.int .i64 0) := H6.out.1.2.cell 0
        have r1 : w6.cell? ⟨w.heap.size, 1, none⟩ = some (.string ⟨#[]⟩) := H6.out.1.2.cell 1
        have r2 : w6.cell? ⟨w.heap.size, 2, none⟩ = some (.string ⟨#[]⟩) := H6.out.1.2.cell 2
        have r3 : w6.cell? ⟨w.heap.size, 3, none⟩ = some (.int .i64 0) := H6.out.1.2.cell 3
        have r4 : w6.cell? ⟨w.heap.size, 4, none⟩ = some (.int .i64 0) := H6.out.1.2.cell 4
        have r5 : w6.cell? ⟨w.heap.size, 5, none⟩ = some (.string ⟨#[]⟩) := H6.out.1.2.cell 5
        have r6 : w6.cell? ⟨w.heap.size, 6, none⟩ = some (.bool false) := H6.out.1.2.cell 6
        have r7 : w6.cell? ⟨w.heap.size, 7, none⟩ = some (.int .i64 0) := H6.out.1.2.cell 7
        have r8 : w6.cell? ⟨w.heap.size, 8, none⟩ = some (.int .i64 0) := H6.out.1.2.cell 8
        have r9 : w6.cell? ⟨w.heap.size, 9, none⟩ = some (.slice none 0 0) := H6.out.1.2.cell 9
        have r10 : w6.cell? ⟨w.heap.size, 10, none⟩ = some (.slice none 0 0) := H6.out.1.2.cell 10
        have r11 : w6.cell? ⟨w.heap.size, 11, none⟩ = some (.slice none 0 0) := H6.out.1.2.cell 11
        have r12 : w6.cell? ⟨w.heap.size, 12, none⟩ = some (.string ⟨#[]⟩) := H6.out.1.2.cell 12
        have rf := fun j => H6.out.1.2.free j
        have HN : Hid (oR = none) := by
          show oR = none
          rw [← HP.out]
          rw [HX.out.1]; show readP x = none; unfold readP; rw [HC.out]; show (if certOk c = true then some c else none) = none; rw [HB.out]; rfl
        skip
        go_wp2_with fail
        refine bodyPost_ret (v := .tuple #[.agg #[.int .i64 0, .string ⟨#[]⟩, .string ⟨#[]⟩, .int .i64 0, .int .i64 0, .string ⟨#[]⟩, .bool false, .int .i64 0, .int .i64 0, .slice none 0 0, .slice none 0 0, .slice none 0 0, .string ⟨#[]⟩], .bool false]) (by simp [results, Try.results16, go_sem, r0, r1, r2, r3, r4, r5, r6, r7, r8, r9, r10, r11, r12]; try rfl) rfl ⟨?_, .inl ⟨HN.out, rfl⟩⟩
        iterate 13 refine Below.setCell ?_ (by show w.heap.size ≤ w.heap.size; exact Nat.le_refl _) _
        exact H6.out.1.1
      | true =>
        have HY : Hid (oR = some c) := by
          show oR = some c
          rw [← HP.out, HX.out.1]
          show readP x = some c
          unfold readP
          rw [HC.out]
          show (if certOk c = true then some c else none) = some c
          rw [if_pos HB.out]
        have r0 : w6.cell? ⟨w.heap.size, 0, none⟩ = some (.int .i64 0) := H6.out.1.2.cell 0
        have c20 : w6.cell? ⟨w4.heap.size, 0, none⟩ = some (.int .i64 c.serial) := H6.out.2.1.cell 0
        have r1 : w6.cell? ⟨w.heap.size, 1, none⟩ = some (.string ⟨#[]⟩) := H6.out.1.2.cell 1
        have c21 : w6.cell? ⟨w4.heap.size, 1, none⟩ = some (.string c.issuer) := H6.out.2.1.cell 1
        have r2 : w6.cell? ⟨w.heap.size, 2, none⟩ = some (.string ⟨#[]⟩) := H6.out.1.2.cell 2
        have c22 : w6.cell? ⟨w4.heap.size, 2, none⟩ = some (.string c.subject) := H6.out.2.1.cell 2
        have r3 : w6.cell? ⟨w.heap.size, 3, none⟩ = some (.int .i64 0) := H6.out.1.2.cell 3
        have c23 : w6.cell? ⟨w4.heap.size, 3, none⟩ = some (.int .i64 c.frm) := H6.out.2.1.cell 3
        have r4 : w6.cell? ⟨w.heap.size, 4, none⟩ = some (.int .i64 0) := H6.out.1.2.cell 4
        have c24 : w6.cell? ⟨w4.heap.size, 4, none⟩ = some (.int .i64 c.upto) := H6.out.2.1.cell 4
        have r5 : w6.cell? ⟨w.heap.size, 5, none⟩ = some (.string ⟨#[]⟩) := H6.out.1.2.cell 5
        have c25 : w6.cell? ⟨w4.heap.size, 5, none⟩ = some (.string c.key) := H6.out.2.1.cell 5
        have r6 : w6.cell? ⟨w.heap.size, 6, none⟩ = some (.bool false) := H6.out.1.2.cell 6
        have c26 : w6.cell? ⟨w4.heap.size, 6, none⟩ = some (.bool c.ca) := H6.out.2.1.cell 6
        have r7 : w6.cell? ⟨w.heap.size, 7, none⟩ = some (.int .i64 0) := H6.out.1.2.cell 7
        have c27 : w6.cell? ⟨w4.heap.size, 7, none⟩ = some (.int .i64 c.pathLen) := H6.out.2.1.cell 7
        have r8 : w6.cell? ⟨w.heap.size, 8, none⟩ = some (.int .i64 0) := H6.out.1.2.cell 8
        have c28 : w6.cell? ⟨w4.heap.size, 8, none⟩ = some (.int .i64 c.usage) := H6.out.2.1.cell 8
        have r9 : w6.cell? ⟨w.heap.size, 9, none⟩ = some (.slice none 0 0) := H6.out.1.2.cell 9
        have c29 : w6.cell? ⟨w4.heap.size, 9, none⟩ = some (.slice pX c.pol.length qX) := H6.out.2.1.cell 9
        have r10 : w6.cell? ⟨w.heap.size, 10, none⟩ = some (.slice none 0 0) := H6.out.1.2.cell 10
        have c210 : w6.cell? ⟨w4.heap.size, 10, none⟩ = some (.slice eX c.per.length rX) := H6.out.2.1.cell 10
        have r11 : w6.cell? ⟨w.heap.size, 11, none⟩ = some (.slice none 0 0) := H6.out.1.2.cell 11
        have c211 : w6.cell? ⟨w4.heap.size, 11, none⟩ = some (.slice dX c.den.length sX) := H6.out.2.1.cell 11
        have r12 : w6.cell? ⟨w.heap.size, 12, none⟩ = some (.string ⟨#[]⟩) := H6.out.1.2.cell 12
        have c212 : w6.cell? ⟨w4.heap.size, 12, none⟩ = some (.string c.sig) := H6.out.2.1.cell 12
        have rf := fun j => H6.out.1.2.free j
        go_wp2_with fail
        refine bodyPost_ret (v := .tuple #[.agg #[.int .i64 c.serial, .string c.issuer, .string c.subject, .int .i64 c.frm, .int .i64 c.upto, .string c.key, .bool c.ca, .int .i64 c.pathLen, .int .i64 c.usage, .slice pX c.pol.length qX, .slice eX c.per.length rX, .slice dX c.den.length sX, .string c.sig], .bool true]) (by simp [results, Try.results16, go_sem, r0, r1, r2, r3, r4, r5, r6, r7, r8, r9, r10, r11, r12]; try rfl) rfl ?_
        generalize hV : World.setCell _ { block := w.heap.size, off := 12 } (Value.string c.sig) = V
        have ho : Out [w.heap.size] w6 V := by
          rw [← hV]
          iterate 13 refine Out.setCell ?_ _ _ (by simp)
          exact Out.refl _ _
        refine ⟨H6.out.1.1.trans (ho.below (fun b hb => by rw [List.mem_singleton.1 hb]; exact Nat.le_refl _) H6.out.1.1.size), .inr ⟨c, _, HY.out, rfl, ?_, HB.out⟩⟩
        exact (H6.out.2.2.1.out ho (fun b hb => by have := fpC_lt H6.out.2.2.1 b hb; have := H6.out.2.2.2.1; simp; omega)).base (by have := H6.out.2.2.2.1; omega)
end Go.Proofs.Ytajbalokcfghbaa
