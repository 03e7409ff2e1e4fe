/-
  Texts of the proof.
-/
import Derived.Deep.Cut
import Derived.Deep.DeepCutAuto
import Derived.Test.YtbiiihjohbnodaaMRV22
import Derived.Test.YtbiiihjohbnodaaMRV23
set_option maxRecDepth 100000
set_option maxHeartbeats 25600000
namespace Go.Proofs.Ytbiiihjohbnodaa
open Go.RowKit Der
set_option linter.unusedVariables false
set_option linter.unusedSimpArgs false
theorem specV_none {m : Nat} {x : It (m + 6)} (h : ¬ (It.tag x = 48 /\ (It.kids x).length = 2)) : repS x = none := by
 unfold repS
 split
 ·next b sg hk =>
  split
  ·rw [if_neg (fun q => h ⟨q.1, by rw [hk]; rfl⟩)]
  ·rfl
 ·rfl
theorem specV_none2 {m : Nat} {x : It (m + 6)} {b sg : It (m + 5)} (hx : It.kids x = [b, sg]) (h : ¬ (It.tag b = 48 /\ (It.kids b).length = 7)) : repS x = none := by
 unfold repS
 rw [hx]
 dsimp only
 split
 ·next hk => rw [if_neg (fun q => h ⟨q.2, by rw [hk]; rfl⟩)]
 ·rfl
theorem specV_some {m : Nat} {x : It (m + 6)} {b sg : It (m + 5)} {k0 k1 k2 k3 k4 k5 k6 : It (m + 4)} (hx : It.kids x = [b, sg]) (hb : It.kids b = [k0, k1, k2, k3, k4, k5, k6]) (h1 : It.tag x = 48) (h2 : It.tag b = 48) : repS x = (anssS (It.kids k6)).map fun l => ⟨baL (It.text k0), numI k1, numI k2, numI k3, numI k4, numI k5, l, baL (It.text sg)⟩ := by
 unfold repS
 rw [hx]
 dsimp only
 rw [hb]
 dsimp only
 rw [if_pos ⟨h1, h2⟩]
theorem ansS_no {m : Nat} {y : It (m + 3)} (h : ¬ (It.tag y = 48 /\ (It.kids y).length = 4)) : ansS y = none := by
 unfold ansS
 split
 ·next hk => rw [if_neg (fun q => h ⟨q, by rw [hk]; rfl⟩)]
 ·rfl
theorem ansS_yes {m : Nat} {y : It (m + 3)} {f0 f1 f2 f3 : It (m + 2)} (hk : It.kids y = [f0, f1, f2, f3]) (ht : It.tag y = 48) : ansS y = some ⟨numI f0, numI f1, (It.kids f2).map fun z => baL (It.text z), (It.kids f3).map fun z => baL (It.text z)⟩ := by
 unfold ansS
 rw [hk]
 dsimp only
 rw [if_pos ht]
theorem numV_in {k : Nat} (y : It (k + 1)) : 0 <= numI y /\ numI y <= 1000000000 := by
 unfold numI
 cases h : inI (k + 1) y with
 | none => exact ⟨by decide, by decide⟩
 | some v =>
  have := (in_some h).2.2.2
  show (0 : Int) <= ((v : Nat) : Int) /\ ((v : Nat) : Int) <= 1000000000
  omega
theorem wd_small {l : List ByteArray} {n : Nat} (h : totT l <= n) (hn : n <= 4000) : WdT l := fun s hs => by
 have := Nat.le_trans (tot_mem l s hs) h
 omega
theorem wt_ansS {m : Nat} {y : It (m + 3)} {x : Aw} (h : ansS y = some x) (hz : szI (m + 3) y <= 4000) : wtAw x <= szI (m + 3) y /\ WdAw x := by
 unfold ansS at h
 split at h
 rotate_left
 ·cases h
 next f0 f1 f2 f3 hk =>
 split at h
 rotate_left
 ·cases h
 simp only [Option.some.injEq] at h
 have z1 : szI (m + 3) y = (It.text y).length + (It.kids y).length + ((It.kids y).map (szI (m + 2))).sum := sz_itemV y
 rw [hk] at z1
 simp only [List.map_cons, List.map_nil, List.sum_cons, List.sum_nil, List.length_cons, List.length_nil] at z1
 have t2 : totT ((It.kids f2).map fun z => baL (It.text z)) <= (It.kids f2).length + ((It.kids f2).map (szI (m + 1))).sum := totV_map _
 have t3 : totT ((It.kids f3).map fun z => baL (It.text z)) <= (It.kids f3).length + ((It.kids f3).map (szI (m + 1))).sum := totV_map _
 have s2 : szI (m + 2) f2 = (It.text f2).length + (It.kids f2).length + ((It.kids f2).map (szI (m + 1))).sum := sz_itemV f2
 have s3 : szI (m + 2) f3 = (It.text f3).length + (It.kids f3).length + ((It.kids f3).map (szI (m + 1))).sum := sz_itemV f3
 have b0 := numV_in f0
 have b1 := numV_in f1
 subst h
 have l2 := tot_len ((It.kids f2).map fun z => baL (It.text z))
 have l3 := tot_len ((It.kids f3).map fun z => baL (It.text z))
 refine ⟨by unfold wtAw; show totT ((It.kids f2).map fun z => baL (It.text z)) + totT ((It.kids f3).map fun z => baL (It.text z)) <= _; omega, fun v hv => ?_, wd_small t2 (by omega), wd_small t3 (by omega), by show ((It.kids f2).map fun z => baL (It.text z)).length <= 9223372036854775807; omega, by show ((It.kids f3).map fun z => baL (It.text z)).length <= 9223372036854775807; omega⟩
 simp only [List.mem_cons, List.not_mem_nil, or_false] at hv
 rcases hv with rfl | rfl
 ·show -9223372036854775808 <= numI f0 /\ numI f0 <= 9223372036854775807; omega
 ·show -9223372036854775808 <= numI f1 /\ numI f1 <= 9223372036854775807; omega
theorem wt_anssS {m : Nat} : ∀ {ks : List (It (m + 3))} {l : List Aw}, anssS ks = some l -> (∀ y ∈ ks, szI (m + 3) y <= 4000) -> wtAS l <= ks.length + (ks.map (szI (m + 3))).sum /\ ∀ x ∈ l, WdAw x
 | [], l, h, _ => by
  simp only [anssS, Option.some.injEq] at h
  subst h
  exact ⟨Nat.le_refl _, fun x hx => by simp at hx⟩
 | y :: r, l, h, hz => by
  unfold anssS at h
  split at h
  ·cases h
  ·next v hn =>
   split at h
   ·cases h
   ·next l' hl =>
    simp only [Option.some.injEq] at h
    subst h
    obtain ⟨i1, i2⟩ := wt_anssS hl (fun z hz' => hz z (by simp [hz']))
    obtain ⟨e1, e2⟩ := wt_ansS hn (hz y (by simp))
    refine ⟨?_, fun x hx => ?_⟩
    ·unfold wtAS at i1 |-
     simp only [List.map_cons, List.sum_cons, List.length_cons]
     omega
    ·rcases List.mem_cons.1 hx with rfl | hx
     ·exact e2
     ·exact i2 x hx
theorem wtR_spec {m : Nat} {x : It (m + 6)} {b sg : It (m + 5)} {k0 k1 k2 k3 k4 k5 k6 : It (m + 4)} {l : List Aw} (hx : It.kids x = [b, sg]) (hb : It.kids b = [k0, k1, k2, k3, k4, k5, k6]) (hl : anssS (It.kids k6) = some l) (hz : szI (m + 6) x <= 4000) (c : Rp) (hc : c = ⟨baL (It.text k0), numI k1, numI k2, numI k3, numI k4, numI k5, l, baL (It.text sg)⟩) : wtR c <= 1048576 /\ WdRp c := by
 have z0 : szI (m + 6) x = (It.text x).length + (It.kids x).length + ((It.kids x).map (szI (m + 5))).sum := sz_itemV x
 rw [hx] at z0
 simp only [List.map_cons, List.map_nil, List.sum_cons, List.sum_nil, List.length_cons, List.length_nil] at z0
 have z1 : szI (m + 5) b = (It.text b).length + (It.kids b).length + ((It.kids b).map (szI (m + 4))).sum := sz_itemV b
 rw [hb] at z1
 simp only [List.map_cons, List.map_nil, List.sum_cons, List.sum_nil, List.length_cons, List.length_nil] at z1
 have t0 : (baL (It.text k0)).size <= szI (m + 4) k0 := itxtV_le k0
 have ts : (baL (It.text sg)).size <= szI (m + 5) sg := itxtV_le sg
 have s6 : szI (m + 4) k6 = (It.text k6).length + (It.kids k6).length + ((It.kids k6).map (szI (m + 3))).sum := sz_itemV k6
 have hk6 := szI_kid (t := It.tag k6) (s := It.text k6) (ks := It.kids k6) (show szI (m + 4) k6 <= 4000 by omega)
 obtain ⟨e1, e2⟩ := wt_anssS hl hk6.2.2
 have e3 := wtAS_len l
 have w1 : (baL (It.text k0)).size <= 4000 := by omega
 have w2 : (baL (It.text sg)).size <= 4000 := by omega
 subst hc
 refine ⟨by unfold wtR; show (baL (It.text k0)).size + wtAS l + (baL (It.text sg)).size <= 1048576; omega, fun y hy => ?_, fun s hs => ?_, e2, by show l.length <= _; omega⟩
 ·simp only [List.mem_cons, List.not_mem_nil, or_false] at hy
  have b1 := numV_in k1
  have b2 := numV_in k2
  have b3 := numV_in k3
  have b4 := numV_in k4
  have b5 := numV_in k5
  rcases hy with rfl | rfl | rfl | rfl | rfl <;> omega
 ·simp only [List.mem_cons, List.not_mem_nil, or_false] at hs
  rcases hs with rfl | rfl
  ·show (baL (It.text k0)).size <= _; omega
  ·show (baL (It.text sg)).size <= _; omega
def RP8 (w w2 W : World) (g : Nat) (cells : Array Value) : Prop :=
 Below w.heap.size w W /\ Below w2.heap.size w2 W /\ Blk W w.heap.size 44 #[.string ⟨#[]⟩, .int .i64 0, .int .i64 0, .int .i64 0, .int .i64 0, .int .i64 0, .slice none 0 0, .string ⟨#[]⟩] /\ Blk W g 44 cells /\ (w2.heap.size <= g /\ w.heap.size < w2.heap.size)
theorem RP8.below {w w2 W W' : World} {g : Nat} {cells : Array Value} (h : RP8 w w2 W g cells) (hb : Below W.heap.size W W') : RP8 w w2 W' g cells :=
 ⟨h.1.trans (hb.mono h.1.size), h.2.1.trans (hb.mono h.2.1.size), h.2.2.1.on hb, h.2.2.2.1.on hb, h.2.2.2.2⟩
theorem RP8.set {w w2 W : World} {g : Nat} {cells cells' : Array Value} (h : RP8 w w2 W g cells) (j : Nat) (v : Value) (hc : cells.setIfInBounds j v = cells') : RP8 w w2 (W.setCell ⟨g, j, none⟩ v) g cells' := by
 obtain ⟨h1, h2, h3, h4, h10⟩ := h
 have ho : Out [g] W (W.setCell ⟨g, j, none⟩ v) := out_set _ _ _
 exact ⟨below_out h1 ho (by omega), below_out h2 ho h10.1, h3.outX ho (by simp; omega), by rw [<- hc]; exact h4.set j v, h10⟩
theorem RP8.outZ {w w2 W W' : World} {g z : Nat} {cells : Array Value} (h : RP8 w w2 W g cells) (ho : Out [z] W W') (hz : g < z) : RP8 w w2 W' g cells := by
 obtain ⟨h1, h2, h3, h4, h10⟩ := h
 exact ⟨below_out h1 ho (by omega), below_out h2 ho (by omega), h3.outX ho (by simp; omega), h4.outX ho (by simp; omega), h10⟩
theorem RP8.low {w w2 W W' : World} {g : Nat} {cells : Array Value} (h : RP8 w w2 W g cells) (hb : Below (g + 1) W W') : RP8 w w2 W' g cells := by
 obtain ⟨h1, h2, h3, h4, h10⟩ := h
 exact ⟨h1.trans (hb.mono (by omega)), h2.trans (hb.mono (by omega)), (hb.block _ (by omega)).trans h3, (hb.block _ (by omega)).trans h4, h10⟩
def RY8 (w w2 W : World) (gC gY top : Nat) (cells yc : Array Value) (q : Value) (ps : List Aw) (p e : Value) (tp tl : List ByteArray) : Prop :=
 RP8 w w2 W gC cells /\ (∃ fp, OwnS awKd W (gC + 1) q ps fp /\ ∀ b ∈ fp, b < top) /\ Blk W gY 84 yc /\ OwnT W top p tp /\ OwnT W top e tl /\ ((Ap p e /\ Ap e p) /\ (∀ b, p.ownBlock = some b -> b ≠ gY) /\ (∀ b, e.ownBlock = some b -> b ≠ gY)) /\ (gC < top /\ top <= gY)
theorem RY8.below {w w2 W W' : World} {gC gY top : Nat} {cells yc : Array Value} {q : Value} {ps : List Aw} {p e : Value} {tp tl : List ByteArray} (h : RY8 w w2 W gC gY top cells yc q ps p e tp tl) (hb : Below W.heap.size W W') : RY8 w w2 W' gC gY top cells yc q ps p e tp tl := by
 obtain ⟨h1, ⟨fp, h2, h3⟩, h4, h5, h6, h7⟩ := h
 exact ⟨h1.below hb, ⟨fp, h2.stays hb, h3⟩, h4.on hb, h5.stays hb, h6.stays hb, h7⟩
theorem RY8.set {w w2 W : World} {gC gY top : Nat} {cells yc yc' : Array Value} {q : Value} {ps : List Aw} {p e : Value} {tp tl : List ByteArray} (h : RY8 w w2 W gC gY top cells yc q ps p e tp tl) (j : Nat) (v : Value) (hc : yc.setIfInBounds j v = yc') : RY8 w w2 (W.setCell ⟨gY, j, none⟩ v) gC gY top cells yc' q ps p e tp tl := by
 obtain ⟨h1, ⟨fp, h2, h3⟩, h4, h5, h6, h7, h8⟩ := h
 have ho : Out [gY] W (W.setCell ⟨gY, j, none⟩ v) := out_set _ _ _
 refine ⟨h1.outZ ho (by omega), ⟨fp, h2.out ho (fun b hb hq => by have := h3 b hb; rw [List.mem_singleton.1 hq] at this; omega), h3⟩, by rw [<- hc]; exact h4.set j v, ho.row (fun b hb => by have := h7.2.1 b hb; simp; omega) h5, ho.row (fun b hb => by have := h7.2.2 b hb; simp; omega) h6, h7, h8⟩
theorem specReadReply_any (T : ByteArray) (w : World) (hT : T.size <= 1000000000000) :
  Calls Try.prog 31 #[.string T] w fun e W' => RvPost w ((Der.readI T.data.toList).bind (readW (m := 1) T.data.toList)) e W' := by
 obtain ⟨oR, hoR⟩ := zE ((Der.readI T.data.toList).bind (readW (m := 1) T.data.toList))
 have HP : Hid ((Der.readI T.data.toList).bind (readW (m := 1) T.data.toList) = oR) := hoR
 rw [hoR]
 clear hoR
 obtain ⟨W1, hW1⟩ : ∃ V, V = w.alloc (Obj.cells #[.string ⟨#[]⟩, .int .i64 0, .int .i64 0, .int .i64 0, .int .i64 0, .int .i64 0, .slice none 0 0, .string ⟨#[]⟩] 44) := ⟨_, rfl⟩
 have E1 := specRead_any T W1 hT
 have H1 : Hid (Below w.heap.size w W1 /\ Blk W1 w.heap.size 44 #[.string ⟨#[]⟩, .int .i64 0, .int .i64 0, .int .i64 0, .int .i64 0, .int .i64 0, .slice none 0 0, .string ⟨#[]⟩] /\ W1.heap.size = w.heap.size + 1) := by rw [hW1]; exact ⟨(Below.refl _ _).alloc (Nat.le_refl _) _, Blk.new _ _ _, size_alloc _ _⟩
 go_enter Try.func31, Try.ntmps31
 go_wp2_with fail
 rw [<- hW1]
 clear hW1
 refine E1.mono ?_
 rintro e w2 ⟨hb2, ⟨hn, rfl⟩ | ⟨x, t, s, ax, l, cx, fp, hx, rfl, hsz, ht, hs, hown⟩⟩
 ·obtain ⟨W3, hW3⟩ : ∃ V, V = w2.alloc (Obj.cells #[.int .i64 0, .string ⟨#[]⟩, .slice none 0 0] 67) := ⟨_, rfl⟩
  have hb3 : Below w2.heap.size w2 W3 := by rw [hW3]; exact (Below.refl _ _).alloc (Nat.le_refl _) _
  have H3 : Hid (Below w.heap.size w W3 /\ Blk W3 w.heap.size 44 #[.string ⟨#[]⟩, .int .i64 0, .int .i64 0, .int .i64 0, .int .i64 0, .int .i64 0, .slice none 0 0, .string ⟨#[]⟩]) := ⟨(H1.out.1.trans (hb2.mono H1.out.1.size)).trans (hb3.mono (Nat.le_trans H1.out.1.size hb2.size)), (H1.out.2.1.on hb2).on hb3⟩
  have HNO : Hid (Der.readI T.data.toList = none) := hn
  clear hb3 hb2 H1 E1 hn
  go_wp2_with fail
  rw [<- hW3]
  clear hW3
  have E4 := l09Kids_any 0 ⟨#[]⟩ none 0 0 2 W3
  generalize decide ((0 : Int) = 48 /\ ((0 : Nat) : Int) = 2) = B4 at E4
  refine E4.mono ?_
  rintro e w4 ⟨rfl, hb4⟩
  have H4 : Hid (Below w.heap.size w w4 /\ Blk w4 w.heap.size 44 #[.string ⟨#[]⟩, .int .i64 0, .int .i64 0, .int .i64 0, .int .i64 0, .int .i64 0, .slice none 0 0, .string ⟨#[]⟩]) := ⟨H3.out.1.trans (hb4.mono H3.out.1.size), H3.out.2.on hb4⟩
  clear E4 hb4 H3
  have r0 : w4.cell? ⟨w.heap.size, 0, none⟩ = some (.string ⟨#[]⟩) := H4.out.2.cell 0
  have r1 : w4.cell? ⟨w.heap.size, 1, none⟩ = some (.int .i64 0) := H4.out.2.cell 1
  have r2 : w4.cell? ⟨w.heap.size, 2, none⟩ = some (.int .i64 0) := H4.out.2.cell 2
  have r3 : w4.cell? ⟨w.heap.size, 3, none⟩ = some (.int .i64 0) := H4.out.2.cell 3
  have r4 : w4.cell? ⟨w.heap.size, 4, none⟩ = some (.int .i64 0) := H4.out.2.cell 4
  have r5 : w4.cell? ⟨w.heap.size, 5, none⟩ = some (.int .i64 0) := H4.out.2.cell 5
  have r6 : w4.cell? ⟨w.heap.size, 6, none⟩ = some (.slice none 0 0) := H4.out.2.cell 6
  have r7 : w4.cell? ⟨w.heap.size, 7, none⟩ = some (.string ⟨#[]⟩) := H4.out.2.cell 7
  have rf := fun j => H4.out.2.free j
  have HN : Hid (oR = none) := by
   show oR = none
   rw [<- HP.out]
   rw [HNO.out]; rfl
  go_wp2_with fail
  refine bodyPost_ret (v := .tuple #[.agg #[.string ⟨#[]⟩, .int .i64 0, .int .i64 0, .int .i64 0, .int .i64 0, .int .i64 0, .slice none 0 0, .string ⟨#[]⟩], .bool false]) (by simp [results, Try.results31, go_sem, r0, r1, r2, r3, r4, r5, r6, r7]; try rfl) rfl ⟨?_, .inl ⟨HN.out, rfl⟩⟩
  iterate 8 refine Below.setCell ?_ (by show w.heap.size <= w.heap.size; exact Nat.le_refl _) _
  exact H4.out.1
 ·have hkc : KcAt w2 6 (.slice ax l cx) (It.kids x) := KcAt.of hown
  obtain ⟨W3, hW3⟩ : ∃ V, V = w2.alloc (Obj.cells #[.int .i64 t, .string s, .slice ax l cx] 67) := ⟨_, rfl⟩
  have hb3 : Below w2.heap.size w2 W3 := by rw [hW3]; exact (Below.refl _ _).alloc (Nat.le_refl _) _
  have H3 : Hid ((Below w.heap.size w W3 /\ Blk W3 w.heap.size 44 #[.string ⟨#[]⟩, .int .i64 0, .int .i64 0, .int .i64 0, .int .i64 0, .int .i64 0, .slice none 0 0, .string ⟨#[]⟩]) /\ Below w2.heap.size w2 W3) := ⟨⟨(H1.out.1.trans (hb2.mono H1.out.1.size)).trans (hb3.mono (Nat.le_trans H1.out.1.size hb2.size)), (H1.out.2.1.on hb2).on hb3⟩, hb3⟩
  have HX : Hid (Der.readI T.data.toList = some x /\ szI 7 x <= 4000 /\ It.tag x = t /\ w.heap.size < w2.heap.size) := ⟨hx, hsz, ht, by have := H1.out.2.2; have := hb2.size; omega⟩
  have hln : l = (It.kids x).length := by obtain ⟨ao, cap, h, _⟩ := hkc; injection h
  have HKC : Hid (KcAt w2 6 (.slice ax l cx) (It.kids x) /\ l = (It.kids x).length /\ Der.readI T.data.toList = some x) := ⟨hkc, hln, hx⟩
  clear hkc hb3 hown hx hsz hb2 E1 H1 ht hs hln
  go_wp2_with fail
  rw [<- hW3]
  clear hW3
  have E4 := l09Kids_any t s ax l cx 2 W3
  obtain ⟨B4, hB4⟩ := zE (decide (t = 48 /\ (l : Int) = 2))
  rw [hB4] at E4
  refine E4.mono ?_
  rintro e w4 ⟨rfl, hb4⟩
  have H4 : Hid ((Below w.heap.size w w4 /\ Blk w4 w.heap.size 44 #[.string ⟨#[]⟩, .int .i64 0, .int .i64 0, .int .i64 0, .int .i64 0, .int .i64 0, .slice none 0 0, .string ⟨#[]⟩]) /\ Below w2.heap.size w2 w4) := ⟨⟨H3.out.1.1.trans (hb4.mono H3.out.1.1.size), H3.out.1.2.on hb4⟩, H3.out.2.trans (hb4.mono H3.out.2.size)⟩
  clear E4 hb4 H3
  cases B4 with
  | false =>
   have hno := of_decide_eq_false hB4
   clear hB4
   have r0 : w4.cell? ⟨w.heap.size, 0, none⟩ = some (.string ⟨#[]⟩) := H4.out.1.2.cell 0
   have r1 : w4.cell? ⟨w.heap.size, 1, none⟩ = some (.int .i64 0) := H4.out.1.2.cell 1
   have r2 : w4.cell? ⟨w.heap.size, 2, none⟩ = some (.int .i64 0) := H4.out.1.2.cell 2
   have r3 : w4.cell? ⟨w.heap.size, 3, none⟩ = some (.int .i64 0) := H4.out.1.2.cell 3
   have r4 : w4.cell? ⟨w.heap.size, 4, none⟩ = some (.int .i64 0) := H4.out.1.2.cell 4
   have r5 : w4.cell? ⟨w.heap.size, 5, none⟩ = some (.int .i64 0) := H4.out.1.2.cell 5
   have r6 : w4.cell? ⟨w.heap.size, 6, none⟩ = some (.slice none 0 0) := H4.out.1.2.cell 6
   have r7 : w4.cell? ⟨w.heap.size, 7, none⟩ = some (.string ⟨#[]⟩) := H4.out.1.2.cell 7
   have rf := fun j => H4.out.1.2.free j
   have HN : Hid (oR = none) := by
    show oR = none
    rw [<- HP.out]
    rw [HX.out.1]; show readW (m := 1) T.data.toList x = none; unfold readW; rw [specV_none (m := 1) (x := x) (fun q => hno ⟨by rw [<- HX.out.2.2.1]; exact q.1, by have h1 := HKC.out.2.1; have h2 := q.2; omega⟩)]; rfl
   clear hno
   go_wp2_with fail
   refine bodyPost_ret (v := .tuple #[.agg #[.string ⟨#[]⟩, .int .i64 0, .int .i64 0, .int .i64 0, .int .i64 0, .int .i64 0, .slice none 0 0, .string ⟨#[]⟩], .bool false]) (by simp [results, Try.results31, go_sem, r0, r1, r2, r3, r4, r5, r6, r7]; try rfl) rfl ⟨?_, .inl ⟨HN.out, rfl⟩⟩
   iterate 8 refine Below.setCell ?_ (by show w.heap.size <= w.heap.size; exact Nat.le_refl _) _
   exact H4.out.1.1
  | true =>
   have hyes := of_decide_eq_true hB4
   clear hB4
   obtain ⟨rfl, hl2⟩ := hyes
   obtain rfl : l = 2 := by omega
   clear hl2
   obtain ⟨yb, sg, hkx⟩ := list_two (l := It.kids x) (HKC.out.2.1).symm
   obtain ⟨ao, cap, hv, _, hcell⟩ := HKC.out.1
   injection hv with hv1 hvx hv3
   clear hvx
   subst hv1 hv3
   rw [hkx] at hcell
   obtain ⟨g1, o1, ha1, hg1, hcs⟩ := hcell (by simp)
   obtain ⟨vb, d0, d1, d2, hkb⟩ := hcs 0 (by simp)
   obtain ⟨vs, s0, s1, s2, hks⟩ := hcs 1 (by simp)
   subst ha1
   have HY : Hid (It.kids x = [yb, sg] /\ Der.readI T.data.toList = some x /\ szI 7 x <= 4000 /\ It.tag x = 48 /\ w.heap.size < w2.heap.size) := ⟨hkx, HX.out.1, HX.out.2.1, HX.out.2.2.1, HX.out.2.2.2⟩
   obtain ⟨sgt, hsgt⟩ := zE (baL (It.text sg))
   obtain ⟨tb, htb⟩ := zE (It.tag yb)
   obtain ⟨sb, hsb⟩ : ∃ q : ByteArray, (⟨(It.text yb).toArray⟩ : ByteArray) = q := ⟨_, rfl⟩
   obtain ⟨ab, cb, hvb⟩ := hkb.shape
   change vb = .slice ab (It.kids yb).length cb at hvb
   change KcAt w2 5 vb (It.kids yb) at hkb
   obtain ⟨lb, hlb⟩ := zE ((It.kids yb).length)
   have b0 : w2.cell? ⟨g1, o1, none⟩ = some (.int .i64 tb) := by rw [<- htb]; exact d0
   have b1 : w2.cell? ⟨g1, o1 + 1, none⟩ = some (.string sb) := by rw [<- hsb]; exact d1
   have b2 : w2.cell? ⟨g1, o1 + 2, none⟩ = some (.slice ab lb cb) := by rw [<- hlb, <- hvb]; exact d2
   have b4 : w2.cell? ⟨g1, o1 + 4, none⟩ = some (.string sgt) := by rw [<- hsgt]; exact s1
   have HB1 : Hid (g1 < w2.heap.size /\ w2.cell? ⟨g1, o1 + 4, none⟩ = some (.string sgt) /\ baL (It.text sg) = sgt /\ It.tag yb = tb /\ (It.kids yb).length = lb) := ⟨hg1, b4, hsgt, htb, hlb⟩
   have HKB : Hid (KcAt w2 5 (.slice ab lb cb) (It.kids yb)) := by show KcAt w2 5 (.slice ab lb cb) (It.kids yb); rw [<- hlb, <- hvb]; exact hkb
   have f0 : w4.cell? ⟨g1, o1, none⟩ = some (.int .i64 tb) := (H4.out.2.cell (p := ⟨g1, o1, none⟩) hg1).trans b0
   have f1 : w4.cell? ⟨g1, o1 + 1, none⟩ = some (.string sb) := (H4.out.2.cell (p := ⟨g1, o1 + 1, none⟩) hg1).trans b1
   have f2 : w4.cell? ⟨g1, o1 + 2, none⟩ = some (.slice ab lb cb) := (H4.out.2.cell (p := ⟨g1, o1 + 2, none⟩) hg1).trans b2
   clear hcell hcs d0 d1 d2 s0 s1 s2 hkb hks hkx hsgt htb hsb hvb hlb b0 b1 b2 b4 hg1 HKC HX
   go_wp2_with fail
   clear f0 f1 f2
   have E5 := l09Kids_any tb sb ab lb cb 7 w4
   obtain ⟨B5, hB5⟩ := zE (decide (tb = 48 /\ (lb : Int) = 7))
   rw [hB5] at E5
   refine E5.mono ?_
   rintro e w5 ⟨rfl, hb5⟩
   have H5 : Hid ((Below w.heap.size w w5 /\ Blk w5 w.heap.size 44 #[.string ⟨#[]⟩, .int .i64 0, .int .i64 0, .int .i64 0, .int .i64 0, .int .i64 0, .slice none 0 0, .string ⟨#[]⟩]) /\ Below w2.heap.size w2 w5) := ⟨⟨H4.out.1.1.trans (hb5.mono H4.out.1.1.size), H4.out.1.2.on hb5⟩, H4.out.2.trans (hb5.mono H4.out.2.size)⟩
   clear E5 hb5 H4
   cases B5 with
   | false =>
    have hno := of_decide_eq_false hB5
    clear hB5
    have r0 : w5.cell? ⟨w.heap.size, 0, none⟩ = some (.string ⟨#[]⟩) := H5.out.1.2.cell 0
    have r1 : w5.cell? ⟨w.heap.size, 1, none⟩ = some (.int .i64 0) := H5.out.1.2.cell 1
    have r2 : w5.cell? ⟨w.heap.size, 2, none⟩ = some (.int .i64 0) := H5.out.1.2.cell 2
    have r3 : w5.cell? ⟨w.heap.size, 3, none⟩ = some (.int .i64 0) := H5.out.1.2.cell 3
    have r4 : w5.cell? ⟨w.heap.size, 4, none⟩ = some (.int .i64 0) := H5.out.1.2.cell 4
    have r5 : w5.cell? ⟨w.heap.size, 5, none⟩ = some (.int .i64 0) := H5.out.1.2.cell 5
    have r6 : w5.cell? ⟨w.heap.size, 6, none⟩ = some (.slice none 0 0) := H5.out.1.2.cell 6
    have r7 : w5.cell? ⟨w.heap.size, 7, none⟩ = some (.string ⟨#[]⟩) := H5.out.1.2.cell 7
    have rf := fun j => H5.out.1.2.free j
    have HN : Hid (oR = none) := by
     show oR = none
     rw [<- HP.out]
     rw [HY.out.2.1]; show readW (m := 1) T.data.toList x = none; unfold readW; rw [specV_none2 (m := 1) (x := x) HY.out.1 (fun q => hno ⟨by rw [<- HB1.out.2.2.2.1]; exact q.1, by have h1 := HB1.out.2.2.2.2; have h2 := q.2; omega⟩)]; rfl
    clear hno
    go_wp2_with fail
    refine bodyPost_ret (v := .tuple #[.agg #[.string ⟨#[]⟩, .int .i64 0, .int .i64 0, .int .i64 0, .int .i64 0, .int .i64 0, .slice none 0 0, .string ⟨#[]⟩], .bool false]) (by simp [results, Try.results31, go_sem, r0, r1, r2, r3, r4, r5, r6, r7]; try rfl) rfl ⟨?_, .inl ⟨HN.out, rfl⟩⟩
    iterate 8 refine Below.setCell ?_ (by show w.heap.size <= w.heap.size; exact Nat.le_refl _) _
    exact H5.out.1.1
   | true =>
    have hyes := of_decide_eq_true hB5
    clear hB5
    obtain ⟨rfl, hl2⟩ := hyes
    obtain rfl : lb = 7 := by omega
    clear hl2
    obtain ⟨k0, k1, k2, k3, k4, k5, k6, hky⟩ := listR_seven (l := It.kids yb) HB1.out.2.2.2.2
    obtain ⟨ao, cap, hv, _, hcell⟩ := HKB.out
    injection hv with hv1 hvx hv3
    clear hvx
    subst hv1 hv3
    rw [hky] at hcell
    obtain ⟨g2, o2, ha2, hg2, hcs⟩ := hcell (by simp)
    subst ha2
    obtain ⟨v0, p0a, p0b, p0c, hk0⟩ := hcs 0 (by simp)
    obtain ⟨v1, p1a, p1b, p1c, hk1⟩ := hcs 1 (by simp)
    obtain ⟨v2, p2a, p2b, p2c, hk2⟩ := hcs 2 (by simp)
    obtain ⟨v3, p3a, p3b, p3c, hk3⟩ := hcs 3 (by simp)
    obtain ⟨v4, p4a, p4b, p4c, hk4⟩ := hcs 4 (by simp)
    obtain ⟨v5, p5a, p5b, p5c, hk5⟩ := hcs 5 (by simp)
    obtain ⟨v6, p6a, p6b, p6c, hk6⟩ := hcs 6 (by simp)
    have HYB : Hid (It.kids yb = [k0, k1, k2, k3, k4, k5, k6] /\ It.tag yb = 48) := ⟨hky, HB1.out.2.2.2.1⟩
    obtain ⟨iss, hiss⟩ := zE (baL (It.text k0))
    obtain ⟨t1, ht1⟩ := zE (It.tag k1)
    obtain ⟨s1, hs1⟩ : ∃ q : ByteArray, (⟨(It.text k1).toArray⟩ : ByteArray) = q := ⟨_, rfl⟩
    obtain ⟨a1, c1, hv1⟩ := hk1.shape
    change v1 = .slice a1 (It.kids k1).length c1 at hv1
    obtain ⟨l1, hl1⟩ := zE ((It.kids k1).length)
    rw [hl1] at hv1
    subst hv1
    obtain ⟨t2, ht2⟩ := zE (It.tag k2)
    obtain ⟨s2, hs2⟩ : ∃ q : ByteArray, (⟨(It.text k2).toArray⟩ : ByteArray) = q := ⟨_, rfl⟩
    obtain ⟨a2, c2, hv2⟩ := hk2.shape
    change v2 = .slice a2 (It.kids k2).length c2 at hv2
    obtain ⟨l2, hl2⟩ := zE ((It.kids k2).length)
    rw [hl2] at hv2
    subst hv2
    obtain ⟨t3, ht3⟩ := zE (It.tag k3)
    obtain ⟨s3, hs3⟩ : ∃ q : ByteArray, (⟨(It.text k3).toArray⟩ : ByteArray) = q := ⟨_, rfl⟩
    obtain ⟨a3, c3, hv3⟩ := hk3.shape
    change v3 = .slice a3 (It.kids k3).length c3 at hv3
    obtain ⟨l3, hl3⟩ := zE ((It.kids k3).length)
    rw [hl3] at hv3
    subst hv3
    obtain ⟨t4, ht4⟩ := zE (It.tag k4)
    obtain ⟨s4, hs4⟩ : ∃ q : ByteArray, (⟨(It.text k4).toArray⟩ : ByteArray) = q := ⟨_, rfl⟩
    obtain ⟨a4, c4, hv4⟩ := hk4.shape
    change v4 = .slice a4 (It.kids k4).length c4 at hv4
    obtain ⟨l4, hl4⟩ := zE ((It.kids k4).length)
    rw [hl4] at hv4
    subst hv4
    obtain ⟨t5, ht5⟩ := zE (It.tag k5)
    obtain ⟨s5, hs5⟩ : ∃ q : ByteArray, (⟨(It.text k5).toArray⟩ : ByteArray) = q := ⟨_, rfl⟩
    obtain ⟨a5, c5, hv5⟩ := hk5.shape
    change v5 = .slice a5 (It.kids k5).length c5 at hv5
    obtain ⟨l5, hl5⟩ := zE ((It.kids k5).length)
    rw [hl5] at hv5
    subst hv5
    obtain ⟨t6, ht6⟩ := zE (It.tag k6)
    obtain ⟨s6, hs6⟩ : ∃ q : ByteArray, (⟨(It.text k6).toArray⟩ : ByteArray) = q := ⟨_, rfl⟩
    obtain ⟨a6, c6, hv6⟩ := hk6.shape
    change v6 = .slice a6 (It.kids k6).length c6 at hv6
    obtain ⟨l6, hl6⟩ := zE ((It.kids k6).length)
    rw [hl6] at hv6
    subst hv6
    have HG2 : Hid (g2 < w2.heap.size) := hg2
    have HM : Hid (w2.cell? ⟨g2, o2 + 1, none⟩ = some (.string iss) /\ w2.cell? ⟨g2, o2 + 3, none⟩ = some (.int .i64 t1) /\ w2.cell? ⟨g2, o2 + 4, none⟩ = some (.string s1) /\ w2.cell? ⟨g2, o2 + 5, none⟩ = some (.slice a1 l1 c1) /\ w2.cell? ⟨g2, o2 + 6, none⟩ = some (.int .i64 t2) /\ w2.cell? ⟨g2, o2 + 7, none⟩ = some (.string s2) /\ w2.cell? ⟨g2, o2 + 8, none⟩ = some (.slice a2 l2 c2) /\ w2.cell? ⟨g2, o2 + 9, none⟩ = some (.int .i64 t3) /\ w2.cell? ⟨g2, o2 + 10, none⟩ = some (.string s3) /\ w2.cell? ⟨g2, o2 + 11, none⟩ = some (.slice a3 l3 c3) /\ w2.cell? ⟨g2, o2 + 12, none⟩ = some (.int .i64 t4) /\ w2.cell? ⟨g2, o2 + 13, none⟩ = some (.string s4) /\ w2.cell? ⟨g2, o2 + 14, none⟩ = some (.slice a4 l4 c4) /\ w2.cell? ⟨g2, o2 + 15, none⟩ = some (.int .i64 t5) /\ w2.cell? ⟨g2, o2 + 16, none⟩ = some (.string s5) /\ w2.cell? ⟨g2, o2 + 17, none⟩ = some (.slice a5 l5 c5) /\ w2.cell? ⟨g2, o2 + 20, none⟩ = some (.slice a6 l6 c6)) := ⟨by rw [<- hiss]; exact p0b, by rw [<- ht1]; exact p1a, by rw [<- hs1]; exact p1b, by exact p1c, by rw [<- ht2]; exact p2a, by rw [<- hs2]; exact p2b, by exact p2c, by rw [<- ht3]; exact p3a, by rw [<- hs3]; exact p3b, by exact p3c, by rw [<- ht4]; exact p4a, by rw [<- hs4]; exact p4b, by exact p4c, by rw [<- ht5]; exact p5a, by rw [<- hs5]; exact p5b, by exact p5c, by exact p6c⟩
    have HKS : Hid (KcAt w2 4 (.slice a1 l1 c1) (It.kids k1) /\ KcAt w2 4 (.slice a2 l2 c2) (It.kids k2) /\ KcAt w2 4 (.slice a3 l3 c3) (It.kids k3) /\ KcAt w2 4 (.slice a4 l4 c4) (It.kids k4) /\ KcAt w2 4 (.slice a5 l5 c5) (It.kids k5) /\ KcAt w2 4 (.slice a6 l6 c6) (It.kids k6)) := ⟨by show KcAt w2 4 (.slice a1 l1 c1) (It.kids k1); exact hk1, by show KcAt w2 4 (.slice a2 l2 c2) (It.kids k2); exact hk2, by show KcAt w2 4 (.slice a3 l3 c3) (It.kids k3); exact hk3, by show KcAt w2 4 (.slice a4 l4 c4) (It.kids k4); exact hk4, by show KcAt w2 4 (.slice a5 l5 c5) (It.kids k5); exact hk5, by show KcAt w2 4 (.slice a6 l6 c6) (It.kids k6); exact hk6⟩
    have HTS : Hid ((It.tag k1 = t1 /\ (⟨(It.text k1).toArray⟩ : ByteArray) = s1) /\ (It.tag k2 = t2 /\ (⟨(It.text k2).toArray⟩ : ByteArray) = s2) /\ (It.tag k3 = t3 /\ (⟨(It.text k3).toArray⟩ : ByteArray) = s3) /\ (It.tag k4 = t4 /\ (⟨(It.text k4).toArray⟩ : ByteArray) = s4) /\ (It.tag k5 = t5 /\ (⟨(It.text k5).toArray⟩ : ByteArray) = s5) /\ (It.tag k6 = t6 /\ (⟨(It.text k6).toArray⟩ : ByteArray) = s6)) := ⟨⟨ht1, hs1⟩, ⟨ht2, hs2⟩, ⟨ht3, hs3⟩, ⟨ht4, hs4⟩, ⟨ht5, hs5⟩, ⟨ht6, hs6⟩⟩
    have HSZ : Hid (∀ y ∈ [k0, k1, k2, k3, k4, k5, k6], szI 5 y <= 4000) := by
     show ∀ y ∈ _, _
     rw [<- hky]
     have h1 := szI_kid (t := It.tag x) (s := It.text x) (ks := It.kids x) HY.out.2.2.1
     have h2 := h1.2.2 yb (by rw [HY.out.1]; simp)
     exact (szI_kid (t := It.tag yb) (s := It.text yb) (ks := It.kids yb) h2).2.2
    obtain ⟨x1, hx1⟩ := zE (numI k1)
    obtain ⟨x2, hx2⟩ := zE (numI k2)
    obtain ⟨x3, hx3⟩ := zE (numI k3)
    obtain ⟨x4, hx4⟩ := zE (numI k4)
    obtain ⟨x5, hx5⟩ := zE (numI k5)
    have HXX : Hid ((numI k1 = x1 /\ numI k2 = x2 /\ numI k3 = x3 /\ numI k4 = x4 /\ numI k5 = x5) /\ baL (It.text k0) = iss /\ (It.kids k6).length = l6) := ⟨⟨hx1, hx2, hx3, hx4, hx5⟩, hiss, hl6⟩
    clear hcell hcs hky hg2 hiss hx1 hx2 hx3 hx4 hx5 hk0 p0a p0b p0c p1a p1b p1c p2a p2b p2c p3a p3b p3c p4a p4b p4c p5a p5b p5c p6a p6b p6c hk1 ht1 hs1 hl1 hk2 ht2 hs2 hl2 hk3 ht3 hs3 hl3 hk4 ht4 hs4 hl4 hk5 ht5 hs5 hl5 hk6 ht6 hs6 hl6
    have m0 : w5.cell? ⟨g2, o2 + 1, none⟩ = some (.string iss) := (H5.out.2.cell (p := ⟨g2, o2 + 1, none⟩) HG2.out).trans HM.out.1
    have b4 : w5.cell? ⟨g1, o1 + 4, none⟩ = some (.string sgt) := (H5.out.2.cell (p := ⟨g1, o1 + 4, none⟩) HB1.out.1).trans HB1.out.2.1
    go_upto_region 8 with fail
    clear m0 b4
    have SB : ∀ (W W' : World), ((Below w.heap.size w W /\ Blk W w.heap.size 44 #[.string ⟨#[]⟩, .int .i64 0, .int .i64 0, .int .i64 0, .int .i64 0, .int .i64 0, .slice none 0 0, .string ⟨#[]⟩]) /\ Below w2.heap.size w2 W) -> Below W.heap.size W W' -> ((Below w.heap.size w W' /\ Blk W' w.heap.size 44 #[.string ⟨#[]⟩, .int .i64 0, .int .i64 0, .int .i64 0, .int .i64 0, .int .i64 0, .slice none 0 0, .string ⟨#[]⟩]) /\ Below w2.heap.size w2 W') := fun W W' h hb => ⟨⟨h.1.1.trans (hb.mono h.1.1.size), h.1.2.on hb⟩, h.2.trans (hb.mono h.2.size)⟩
    refine wp_region_held_drew (S := fun W => (Below w.heap.size w W /\ Blk W w.heap.size 44 #[.string ⟨#[]⟩, .int .i64 0, .int .i64 0, .int .i64 0, .int .i64 0, .int .i64 0, .slice none 0 0, .string ⟨#[]⟩]) /\ Below w2.heap.size w2 W) (by kernel_rfl) (SB _ _ H5.out ((Below.refl _ _).drew)) (fun hHeld => ?_)
    clear H5
    generalize w5.drew = wd at hHeld |-
    refine zT 0 44 ?_ rfl (by rfl) ?_ hHeld ?_
    rotate_left
    ·intro W hSw
     go_simp
     try with_reducible rfl
    try simp only [Act.put, zA, zB, zC]
    refine zT 1 45 ?_ rfl (by rfl) ?_ hHeld ?_
    rotate_left
    ·intro W hSw
     go_simp
     try with_reducible rfl
    try simp only [Act.put, zA, zB, zC]
    refine zT 2 46 ?_ rfl (by rfl) ?_ hHeld ?_
    rotate_left
    ·intro W hSw
     go_simp
     try with_reducible rfl
    try simp only [Act.put, zA, zB, zC]
    refine zT 3 47 ?_ rfl (by rfl) ?_ hHeld ?_
    rotate_left
    ·intro W hSw
     have m0 : W.cell? ⟨g2, o2 + 1, none⟩ = some (.string iss) := (hSw.2.cell (p := ⟨g2, o2 + 1, none⟩) HG2.out).trans HM.out.1
     go_simp
     try with_reducible rfl
    try simp only [Act.put, zA, zB, zC]
    refine zT 4 48 ?_ rfl (by rfl) ?_ hHeld ?_
    rotate_left
    ·intro W hSw
     go_simp
     try with_reducible rfl
    try simp only [Act.put, zA, zB, zC]
    refine zT 5 49 ?_ rfl (by rfl) ?_ hHeld ?_
    rotate_left
    ·intro W hSw
     go_simp
     try with_reducible rfl
    try simp only [Act.put, zA, zB, zC]
    refine zT 6 50 ?_ rfl (by rfl) ?_ hHeld ?_
    rotate_left
    ·intro W hSw
     go_simp
     try with_reducible rfl
    try simp only [Act.put, zA, zB, zC]
    refine zT 7 51 ?_ rfl (by rfl) ?_ hHeld ?_
    rotate_left
    ·intro W hSw
     have b4 : W.cell? ⟨g1, o1 + 4, none⟩ = some (.string sgt) := (hSw.2.cell (p := ⟨g1, o1 + 4, none⟩) HB1.out.1).trans HB1.out.2.1
     go_simp
     try with_reducible rfl
    try simp only [Act.put, zA, zB, zC]
    refine zT 8 52 ?_ rfl (by rfl) ?_ hHeld ?_
    rotate_left
    ·intro W hSw
     go_simp
     try with_reducible rfl
    try simp only [Act.put, zA, zB, zC]
    refine wpAnyH_ready (rs := [9]) (by kernel_rfl) (by simp) ?_
    refine AllReadyH.cons (o := ⟨some 10, _, _, _, _, _⟩) rfl (fun K hK => ?_) AllReadyH.nil
    obtain ⟨y1, hy1⟩ : ∃ V, V = wd.alloc (Obj.cells #[.string ⟨#[]⟩, .int .i64 0, .int .i64 0, .int .i64 0, .int .i64 0, .int .i64 0, .slice none 0 0, .string ⟨#[]⟩] 44) := ⟨_, rfl⟩
    have hb : Below wd.heap.size wd y1 := by rw [hy1]; exact (Below.refl _ _).alloc (Nat.le_refl _) _
    have HGC : Hid (Blk y1 wd.heap.size 44 #[.string ⟨#[]⟩, .int .i64 0, .int .i64 0, .int .i64 0, .int .i64 0, .int .i64 0, .slice none 0 0, .string ⟨#[]⟩]) := by rw [hy1]; exact Blk.new _ _ _
    have HGS : Hid (w2.heap.size <= wd.heap.size) := hHeld.2.size
    have hH := SB _ _ hHeld hb
    go_simp
    rw [<- hy1]
    refine hK.out _ _ hH (fun hHeld => ?_)
    clear hK K hH hb hy1
    try simp only [Act.put, zA, zB, zC]
    obtain ⟨gC, hgC⟩ := zE (wd.heap.size)
    rw [hgC] at HGC HGS |-
    clear hgC
    refine wpAnyH_ready (rs := [10]) (by kernel_rfl) (by simp) ?_
    refine AllReadyH.cons (o := ⟨none, _, _, _, _, _⟩) rfl (fun K hK => ?_) AllReadyH.nil
    have g0c : y1.cell? ⟨gC, 0, none⟩ = some (.string ⟨#[]⟩) := HGC.out.cell 0
    have g1c : y1.cell? ⟨gC, 1, none⟩ = some (.int .i64 0) := HGC.out.cell 1
    have g2c : y1.cell? ⟨gC, 2, none⟩ = some (.int .i64 0) := HGC.out.cell 2
    have g3c : y1.cell? ⟨gC, 3, none⟩ = some (.int .i64 0) := HGC.out.cell 3
    have g4c : y1.cell? ⟨gC, 4, none⟩ = some (.int .i64 0) := HGC.out.cell 4
    have g5c : y1.cell? ⟨gC, 5, none⟩ = some (.int .i64 0) := HGC.out.cell 5
    have g6c : y1.cell? ⟨gC, 6, none⟩ = some (.slice none 0 0) := HGC.out.cell 6
    have g7c : y1.cell? ⟨gC, 7, none⟩ = some (.string ⟨#[]⟩) := HGC.out.cell 7
    have gf := fun j => HGC.out.free j
    go_simp
    generalize hV : World.setCell _ { block := gC, off := 7 } (Value.string sgt) = V
    have FIN : Out [gC] y1 V /\ Blk V gC 44 #[.string iss, .int .i64 0, .int .i64 0, .int .i64 0, .int .i64 0, .int .i64 0, .slice none 0 0, .string sgt] := by
     rw [<- hV]
     refine ⟨?_, ?_⟩
     ·iterate 8 refine Out.setCell ?_ _ _ (by simp)
      exact Out.refl _ _
     ·exact set8 HGC.out
    clear hV gf g0c g1c g2c g3c g4c g5c g6c g7c
    have hgw : w2.heap.size <= gC /\ w.heap.size < w2.heap.size := ⟨HGS.out, HY.out.2.2.2.2⟩
    have hH : (Below w.heap.size w V /\ Blk V w.heap.size 44 #[.string ⟨#[]⟩, .int .i64 0, .int .i64 0, .int .i64 0, .int .i64 0, .int .i64 0, .slice none 0 0, .string ⟨#[]⟩]) /\ Below w2.heap.size w2 V := ⟨⟨below_out hHeld.1.1 FIN.1 (by omega), hHeld.1.2.outX FIN.1 (by simp; omega)⟩, below_out hHeld.2 FIN.1 hgw.1⟩
    have HR : Hid (RP8 w w2 V gC #[.string iss, .int .i64 0, .int .i64 0, .int .i64 0, .int .i64 0, .int .i64 0, .slice none 0 0, .string sgt]) := ⟨hH.1.1, hH.2, hH.1.2, FIN.2, hgw⟩
    refine hK.out _ _ hH (fun hHeld => ?_)
    clear hK K hH FIN hHeld hgw HGC HGS SB
    try simp only [Act.put, zA, zB, zC]
    refine wpAnyH_done (by kernel_rfl) ?_ _
    have m1a : V.cell? ⟨g2, o2 + 3, none⟩ = some (.int .i64 t1) := (HR.out.2.1.cell (p := ⟨g2, o2 + 3, none⟩) HG2.out).trans HM.out.2.1
    have m1b : V.cell? ⟨g2, o2 + 4, none⟩ = some (.string s1) := (HR.out.2.1.cell (p := ⟨g2, o2 + 4, none⟩) HG2.out).trans HM.out.2.2.1
    have m1c : V.cell? ⟨g2, o2 + 5, none⟩ = some (.slice a1 l1 c1) := (HR.out.2.1.cell (p := ⟨g2, o2 + 5, none⟩) HG2.out).trans HM.out.2.2.2.1
    go_wp2_with fail
    clear m1a m1b m1c
    have EI := specIntIn_any 5 k1 (.agg #[.int .i64 t1, .string s1, .slice a1 l1 c1]) V (ItAt.below HR.out.2.1 ⟨.slice a1 l1 c1, by rw [(HTS.out.1).1, (HTS.out.1).2], (HKS.out.1).at⟩) (Nat.le_trans (HSZ.out k1 (by simp)) (by decide))
    rw [show (((inI 5 k1).getD 0 : Nat) : Int) = x1 from HXX.out.1.1] at EI
    generalize (inI 5 k1).isSome = okI at EI
    refine EI.mono ?_
    rintro e z1 ⟨rfl, hb⟩
    have HRn : Hid (RP8 w w2 z1 gC #[.string iss, .int .i64 0, .int .i64 0, .int .i64 0, .int .i64 0, .int .i64 0, .slice none 0 0, .string sgt]) := HR.out.below hb
    clear HR EI hb
    have HR := HRn
    clear HRn
    have cc : z1.cell? ⟨gC, 1, none⟩ = some (.int .i64 0) := HR.out.2.2.2.1.cell 1
    have cfz := HR.out.2.2.2.1.free 1
    have HS : ∀ g, g < w2.heap.size -> g ≠ gC := fun g hg => by have := HR.out.2.2.2.2.1; omega
    have m2a : (z1.setCell ⟨gC, 1, none⟩ (.int .i64 x1)).cell? ⟨g2, o2 + 6, none⟩ = some (.int .i64 t2) := (World.cell?_of_block (heap_setCell_other _ _ _ _ (by show g2 ≠ gC; exact HS _ HG2.out))).trans ((HR.out.2.1.cell (p := ⟨g2, o2 + 6, none⟩) HG2.out).trans HM.out.2.2.2.2.1)
    have m2b : (z1.setCell ⟨gC, 1, none⟩ (.int .i64 x1)).cell? ⟨g2, o2 + 7, none⟩ = some (.string s2) := (World.cell?_of_block (heap_setCell_other _ _ _ _ (by show g2 ≠ gC; exact HS _ HG2.out))).trans ((HR.out.2.1.cell (p := ⟨g2, o2 + 7, none⟩) HG2.out).trans HM.out.2.2.2.2.2.1)
    have m2c : (z1.setCell ⟨gC, 1, none⟩ (.int .i64 x1)).cell? ⟨g2, o2 + 8, none⟩ = some (.slice a2 l2 c2) := (World.cell?_of_block (heap_setCell_other _ _ _ _ (by show g2 ≠ gC; exact HS _ HG2.out))).trans ((HR.out.2.1.cell (p := ⟨g2, o2 + 8, none⟩) HG2.out).trans HM.out.2.2.2.2.2.2.1)
    clear HS
    go_wp2_with fail
    clear cc cfz m2a m2b m2c
    obtain ⟨V1, hV1⟩ : ∃ V, V = (z1.setCell ⟨gC, 1, none⟩ (.int .i64 x1)) := ⟨_, rfl⟩
    rw [<- hV1]
    have HRn : Hid (RP8 w w2 V1 gC #[.string iss, .int .i64 x1, .int .i64 0, .int .i64 0, .int .i64 0, .int .i64 0, .slice none 0 0, .string sgt]) := by rw [hV1]; exact HR.out.set 1 _ rfl
    clear HR hV1
    have HR := HRn
    clear HRn
    have EI := specIntIn_any 5 k2 (.agg #[.int .i64 t2, .string s2, .slice a2 l2 c2]) V1 (ItAt.below HR.out.2.1 ⟨.slice a2 l2 c2, by rw [(HTS.out.2.1).1, (HTS.out.2.1).2], (HKS.out.2.1).at⟩) (Nat.le_trans (HSZ.out k2 (by simp)) (by decide))
    rw [show (((inI 5 k2).getD 0 : Nat) : Int) = x2 from HXX.out.1.2.1] at EI
    generalize (inI 5 k2).isSome = okI at EI
    refine EI.mono ?_
    rintro e z2 ⟨rfl, hb⟩
    have HRn : Hid (RP8 w w2 z2 gC #[.string iss, .int .i64 x1, .int .i64 0, .int .i64 0, .int .i64 0, .int .i64 0, .slice none 0 0, .string sgt]) := HR.out.below hb
    clear HR EI hb
    have HR := HRn
    clear HRn
    have cc : z2.cell? ⟨gC, 2, none⟩ = some (.int .i64 0) := HR.out.2.2.2.1.cell 2
    have cfz := HR.out.2.2.2.1.free 2
    have HS : ∀ g, g < w2.heap.size -> g ≠ gC := fun g hg => by have := HR.out.2.2.2.2.1; omega
    have m3a : (z2.setCell ⟨gC, 2, none⟩ (.int .i64 x2)).cell? ⟨g2, o2 + 9, none⟩ = some (.int .i64 t3) := (World.cell?_of_block (heap_setCell_other _ _ _ _ (by show g2 ≠ gC; exact HS _ HG2.out))).trans ((HR.out.2.1.cell (p := ⟨g2, o2 + 9, none⟩) HG2.out).trans HM.out.2.2.2.2.2.2.2.1)
    have m3b : (z2.setCell ⟨gC, 2, none⟩ (.int .i64 x2)).cell? ⟨g2, o2 + 10, none⟩ = some (.string s3) := (World.cell?_of_block (heap_setCell_other _ _ _ _ (by show g2 ≠ gC; exact HS _ HG2.out))).trans ((HR.out.2.1.cell (p := ⟨g2, o2 + 10, none⟩) HG2.out).trans HM.out.2.2.2.2.2.2.2.2.1)
    have m3c : (z2.setCell ⟨gC, 2, none⟩ (.int .i64 x2)).cell? ⟨g2, o2 + 11, none⟩ = some (.slice a3 l3 c3) := (World.cell?_of_block (heap_setCell_other _ _ _ _ (by show g2 ≠ gC; exact HS _ HG2.out))).trans ((HR.out.2.1.cell (p := ⟨g2, o2 + 11, none⟩) HG2.out).trans HM.out.2.2.2.2.2.2.2.2.2.1)
    clear HS
    go_wp2_with fail
    clear cc cfz m3a m3b m3c
    obtain ⟨V2, hV2⟩ : ∃ V, V = (z2.setCell ⟨gC, 2, none⟩ (.int .i64 x2)) := ⟨_, rfl⟩
    rw [<- hV2]
    have HRn : Hid (RP8 w w2 V2 gC #[.string iss, .int .i64 x1, .int .i64 x2, .int .i64 0, .int .i64 0, .int .i64 0, .slice none 0 0, .string sgt]) := by rw [hV2]; exact HR.out.set 2 _ rfl
    clear HR hV2
    have HR := HRn
    clear HRn
    have EI := specIntIn_any 5 k3 (.agg #[.int .i64 t3, .string s3, .slice a3 l3 c3]) V2 (ItAt.below HR.out.2.1 ⟨.slice a3 l3 c3, by rw [(HTS.out.2.2.1).1, (HTS.out.2.2.1).2], (HKS.out.2.2.1).at⟩) (Nat.le_trans (HSZ.out k3 (by simp)) (by decide))
    rw [show (((inI 5 k3).getD 0 : Nat) : Int) = x3 from HXX.out.1.2.2.1] at EI
    generalize (inI 5 k3).isSome = okI at EI
    refine EI.mono ?_
    rintro e z3 ⟨rfl, hb⟩
    have HRn : Hid (RP8 w w2 z3 gC #[.string iss, .int .i64 x1, .int .i64 x2, .int .i64 0, .int .i64 0, .int .i64 0, .slice none 0 0, .string sgt]) := HR.out.below hb
    clear HR EI hb
    have HR := HRn
    clear HRn
    have cc : z3.cell? ⟨gC, 3, none⟩ = some (.int .i64 0) := HR.out.2.2.2.1.cell 3
    have cfz := HR.out.2.2.2.1.free 3
    have HS : ∀ g, g < w2.heap.size -> g ≠ gC := fun g hg => by have := HR.out.2.2.2.2.1; omega
    have m4a : (z3.setCell ⟨gC, 3, none⟩ (.int .i64 x3)).cell? ⟨g2, o2 + 12, none⟩ = some (.int .i64 t4) := (World.cell?_of_block (heap_setCell_other _ _ _ _ (by show g2 ≠ gC; exact HS _ HG2.out))).trans ((HR.out.2.1.cell (p := ⟨g2, o2 + 12, none⟩) HG2.out).trans HM.out.2.2.2.2.2.2.2.2.2.2.1)
    have m4b : (z3.setCell ⟨gC, 3, none⟩ (.int .i64 x3)).cell? ⟨g2, o2 + 13, none⟩ = some (.string s4) := (World.cell?_of_block (heap_setCell_other _ _ _ _ (by show g2 ≠ gC; exact HS _ HG2.out))).trans ((HR.out.2.1.cell (p := ⟨g2, o2 + 13, none⟩) HG2.out).trans HM.out.2.2.2.2.2.2.2.2.2.2.2.1)
    have m4c : (z3.setCell ⟨gC, 3, none⟩ (.int .i64 x3)).cell? ⟨g2, o2 + 14, none⟩ = some (.slice a4 l4 c4) := (World.cell?_of_block (heap_setCell_other _ _ _ _ (by show g2 ≠ gC; exact HS _ HG2.out))).trans ((HR.out.2.1.cell (p := ⟨g2, o2 + 14, none⟩) HG2.out).trans HM.out.2.2.2.2.2.2.2.2.2.2.2.2.1)
    clear HS
    go_wp2_with fail
    clear cc cfz m4a m4b m4c
    obtain ⟨V3, hV3⟩ : ∃ V, V = (z3.setCell ⟨gC, 3, none⟩ (.int .i64 x3)) := ⟨_, rfl⟩
    rw [<- hV3]
    have HRn : Hid (RP8 w w2 V3 gC #[.string iss, .int .i64 x1, .int .i64 x2, .int .i64 x3, .int .i64 0, .int .i64 0, .slice none 0 0, .string sgt]) := by rw [hV3]; exact HR.out.set 3 _ rfl
    clear HR hV3
    have HR := HRn
    clear HRn
    have EI := specIntIn_any 5 k4 (.agg #[.int .i64 t4, .string s4, .slice a4 l4 c4]) V3 (ItAt.below HR.out.2.1 ⟨.slice a4 l4 c4, by rw [(HTS.out.2.2.2.1).1, (HTS.out.2.2.2.1).2], (HKS.out.2.2.2.1).at⟩) (Nat.le_trans (HSZ.out k4 (by simp)) (by decide))
    rw [show (((inI 5 k4).getD 0 : Nat) : Int) = x4 from HXX.out.1.2.2.2.1] at EI
    generalize (inI 5 k4).isSome = okI at EI
    refine EI.mono ?_
    rintro e z4 ⟨rfl, hb⟩
    have HRn : Hid (RP8 w w2 z4 gC #[.string iss, .int .i64 x1, .int .i64 x2, .int .i64 x3, .int .i64 0, .int .i64 0, .slice none 0 0, .string sgt]) := HR.out.below hb
    clear HR EI hb
    have HR := HRn
    clear HRn
    have cc : z4.cell? ⟨gC, 4, none⟩ = some (.int .i64 0) := HR.out.2.2.2.1.cell 4
    have cfz := HR.out.2.2.2.1.free 4
    have HS : ∀ g, g < w2.heap.size -> g ≠ gC := fun g hg => by have := HR.out.2.2.2.2.1; omega
    have m5a : (z4.setCell ⟨gC, 4, none⟩ (.int .i64 x4)).cell? ⟨g2, o2 + 15, none⟩ = some (.int .i64 t5) := (World.cell?_of_block (heap_setCell_other _ _ _ _ (by show g2 ≠ gC; exact HS _ HG2.out))).trans ((HR.out.2.1.cell (p := ⟨g2, o2 + 15, none⟩) HG2.out).trans HM.out.2.2.2.2.2.2.2.2.2.2.2.2.2.1)
    have m5b : (z4.setCell ⟨gC, 4, none⟩ (.int .i64 x4)).cell? ⟨g2, o2 + 16, none⟩ = some (.string s5) := (World.cell?_of_block (heap_setCell_other _ _ _ _ (by show g2 ≠ gC; exact HS _ HG2.out))).trans ((HR.out.2.1.cell (p := ⟨g2, o2 + 16, none⟩) HG2.out).trans HM.out.2.2.2.2.2.2.2.2.2.2.2.2.2.2.1)
    have m5c : (z4.setCell ⟨gC, 4, none⟩ (.int .i64 x4)).cell? ⟨g2, o2 + 17, none⟩ = some (.slice a5 l5 c5) := (World.cell?_of_block (heap_setCell_other _ _ _ _ (by show g2 ≠ gC; exact HS _ HG2.out))).trans ((HR.out.2.1.cell (p := ⟨g2, o2 + 17, none⟩) HG2.out).trans HM.out.2.2.2.2.2.2.2.2.2.2.2.2.2.2.2.1)
    clear HS
    go_wp2_with fail
    clear cc cfz m5a m5b m5c
    obtain ⟨V4, hV4⟩ : ∃ V, V = (z4.setCell ⟨gC, 4, none⟩ (.int .i64 x4)) := ⟨_, rfl⟩
    rw [<- hV4]
    have HRn : Hid (RP8 w w2 V4 gC #[.string iss, .int .i64 x1, .int .i64 x2, .int .i64 x3, .int .i64 x4, .int .i64 0, .slice none 0 0, .string sgt]) := by rw [hV4]; exact HR.out.set 4 _ rfl
    clear HR hV4
    have HR := HRn
    clear HRn
    have EI := specIntIn_any 5 k5 (.agg #[.int .i64 t5, .string s5, .slice a5 l5 c5]) V4 (ItAt.below HR.out.2.1 ⟨.slice a5 l5 c5, by rw [(HTS.out.2.2.2.2.1).1, (HTS.out.2.2.2.2.1).2], (HKS.out.2.2.2.2.1).at⟩) (Nat.le_trans (HSZ.out k5 (by simp)) (by decide))
    rw [show (((inI 5 k5).getD 0 : Nat) : Int) = x5 from HXX.out.1.2.2.2.2] at EI
    generalize (inI 5 k5).isSome = okI at EI
    refine EI.mono ?_
    rintro e z5 ⟨rfl, hb⟩
    have HRn : Hid (RP8 w w2 z5 gC #[.string iss, .int .i64 x1, .int .i64 x2, .int .i64 x3, .int .i64 x4, .int .i64 0, .slice none 0 0, .string sgt]) := HR.out.below hb
    clear HR EI hb
    have HR := HRn
    clear HRn
    have cc : z5.cell? ⟨gC, 5, none⟩ = some (.int .i64 0) := HR.out.2.2.2.1.cell 5
    have cfz := HR.out.2.2.2.1.free 5
    go_wp2_with fail
    clear cc cfz
    obtain ⟨V5, hV5⟩ : ∃ V, V = (z5.setCell ⟨gC, 5, none⟩ (.int .i64 x5)) := ⟨_, rfl⟩
    rw [<- hV5]
    have HRn : Hid (RP8 w w2 V5 gC #[.string iss, .int .i64 x1, .int .i64 x2, .int .i64 x3, .int .i64 x4, .int .i64 x5, .slice none 0 0, .string sgt]) := by rw [hV5]; exact HR.out.set 5 _ rfl
    clear HR hV5
    have HR := HRn
    clear HRn
    have HL6 : Hid (l6 <= 4000) := by show l6 <= 4000; rw [<- HXX.out.2.2]; exact (szI_kid (t := It.tag k6) (s := It.text k6) (ks := It.kids k6) (HSZ.out k6 (by simp))).2.1
    go_loopw [11] (fun iv wr => ∃ k : Nat, k <= l6 /\ iv = .int .i64 k /\ Hid (∃ (ps : List Aw) (pa : Option Addr) (pc : Nat), RP8 w w2 wr gC #[.string iss, .int .i64 x1, .int .i64 x2, .int .i64 x3, .int .i64 x4, .int .i64 x5, .slice pa k pc, .string sgt] /\ OwnAS wr (gC + 1) (.slice pa k pc) ps /\ gC + 1 <= wr.heap.size /\ ps.length = k /\ (∀ j (h1 : j < (It.kids k6).length) (h2 : j < ps.length), ansS (It.kids k6)[j] = some ps[j]))) (fun iv _ => l6 - (intOf iv).toNat)
    case atStart => exact ⟨0, Nat.zero_le _, rfl, [], none, 0, HR.out, ⟨[], OwnS.nil awKd _ _⟩, by have := HR.out.2.2.2.1.lt; omega, rfl, fun j _ h2 => absurd h2 (Nat.not_lt_zero _)⟩
    case round =>
     clear HR
     obtain ⟨k, hk, rfl, HK0⟩ := hrel
     obtain ⟨ps, pa, pc, hK1⟩ := HK0.out
     have HK : Hid (RP8 w w2 wr gC #[.string iss, .int .i64 x1, .int .i64 x2, .int .i64 x3, .int .i64 x4, .int .i64 x5, .slice pa k pc, .string sgt] /\ OwnAS wr (gC + 1) (.slice pa k pc) ps /\ gC + 1 <= wr.heap.size /\ ps.length = k /\ (∀ j (h1 : j < (It.kids k6).length) (h2 : j < ps.length), ansS (It.kids k6)[j] = some ps[j])) := hK1
     clear HK0 hK1
     have m6 : wr.cell? ⟨g2, o2 + 20, none⟩ = some (.slice a6 l6 c6) := (HK.out.1.2.1.cell (p := ⟨g2, o2 + 20, none⟩) HG2.out).trans HM.out.2.2.2.2.2.2.2.2.2.2.2.2.2.2.2.2
     by_cases hlt : k < l6
     rotate_left
     ·skip
      as_aux_lemma =>
       have hlti : ¬ (k : Int) < (l6 : Int) := by omega
       have hpl : anssS (It.kids k6) = some ps := anssS_all (k := 1) (by have := HXX.out.2.2; have := HK.out.2.2.2.1; omega) HK.out.2.2.2.2
       obtain ⟨c, hc⟩ : ∃ c : Rp, c = ⟨iss, x1, x2, x3, x4, x5, ps, sgt⟩ := ⟨_, rfl⟩
       have hcc : c = ⟨baL (It.text k0), numI k1, numI k2, numI k3, numI k4, numI k5, ps, baL (It.text sg)⟩ := by rw [hc, HXX.out.1.1, HXX.out.1.2.1, HXX.out.1.2.2.1, HXX.out.1.2.2.2.1, HXX.out.1.2.2.2.2, HXX.out.2.1, HB1.out.2.2.1]
       have HSP : Hid (repS (m := 1) x = some c /\ wtR c <= 1048576 /\ WdRp c) := by
        refine ⟨?_, wtR_spec (m := 1) HY.out.1 HYB.out.1 hpl HY.out.2.2.1 c hcc⟩
        rw [specV_some (m := 1) HY.out.1 HYB.out.1 HY.out.2.2.2.1 HYB.out.2, hpl, hcc]
        rfl
       have HCT : Hid (∀ W, OwnAS W (gC + 1) (.slice pa k pc) ps -> OwnQ W (gC + 1) (.agg #[.string iss, .int .i64 x1, .int .i64 x2, .int .i64 x3, .int .i64 x4, .int .i64 x5, .slice pa k pc, .string sgt]) c) := fun W h => by rw [hc]; exact ⟨_, rfl, h⟩
       clear hpl hcc hc
       have h0c : wr.cell? ⟨gC, 0, none⟩ = some (.string iss) := HK.out.1.2.2.2.1.cell 0
       have h1c : wr.cell? ⟨gC, 1, none⟩ = some (.int .i64 x1) := HK.out.1.2.2.2.1.cell 1
       have h2c : wr.cell? ⟨gC, 2, none⟩ = some (.int .i64 x2) := HK.out.1.2.2.2.1.cell 2
       have h3c : wr.cell? ⟨gC, 3, none⟩ = some (.int .i64 x3) := HK.out.1.2.2.2.1.cell 3
       have h4c : wr.cell? ⟨gC, 4, none⟩ = some (.int .i64 x4) := HK.out.1.2.2.2.1.cell 4
       have h5c : wr.cell? ⟨gC, 5, none⟩ = some (.int .i64 x5) := HK.out.1.2.2.2.1.cell 5
       have h6c : wr.cell? ⟨gC, 6, none⟩ = some (.slice pa k pc) := HK.out.1.2.2.2.1.cell 6
       have h7c : wr.cell? ⟨gC, 7, none⟩ = some (.string sgt) := HK.out.1.2.2.2.1.cell 7
       go_wp2_with fail
       clear m6 h0c h1c h2c h3c h4c h5c h6c h7c
       have E9 := specReplyText_of l15Item_any c (.agg #[.string iss, .int .i64 x1, .int .i64 x2, .int .i64 x3, .int .i64 x4, .int .i64 x5, .slice pa k pc, .string sgt]) wr HSP.out.2.1 HSP.out.2.2 (HCT.out _ HK.out.2.1).at
       obtain ⟨bk, hbk⟩ : ∃ q : ByteArray, (⟨((rtxt c).getD []).toArray⟩ : ByteArray) = q := ⟨_, rfl⟩
       obtain ⟨rt, hrt⟩ := zE ((rtxt c).isSome)
       rw [hbk, hrt] at E9
       have HBK : Hid ((⟨((rtxt c).getD []).toArray⟩ : ByteArray) = bk /\ (rtxt c).isSome = rt) := ⟨hbk, hrt⟩
       clear hbk hrt
       refine E9.mono ?_
       rintro e y9 ⟨rfl, hb⟩
       have HR : Hid (RP8 w w2 y9 gC #[.string iss, .int .i64 x1, .int .i64 x2, .int .i64 x3, .int .i64 x4, .int .i64 x5, .slice pa k pc, .string sgt] /\ OwnAS y9 (gC + 1) (.slice pa k pc) ps) := ⟨HK.out.1.below hb, HK.out.2.1.stays hb⟩
       clear HK E9 hb
       have HRS : Hid (oR = if replyOk c = true /\ writeI 6 (replyI c) = some T.data.toList then some c else none) := by
        show oR = _
        rw [<- HP.out, HY.out.2.1]
        show readW (m := 1) T.data.toList x = _
        unfold readW
        rw [HSP.out.1, Option.bind_some]
       have HFR : Hid (Below w.heap.size w y9 /\ Blk y9 w.heap.size 44 #[.string ⟨#[]⟩, .int .i64 0, .int .i64 0, .int .i64 0, .int .i64 0, .int .i64 0, .slice none 0 0, .string ⟨#[]⟩]) := ⟨HR.out.1.1, HR.out.1.2.2.1⟩
       have HTL : Hid (∀ B : ByteArray, B.toList = B.data.toList) := fun B => by
        obtain ⟨d⟩ := B
        obtain ⟨l⟩ := d
        show (⟨l.toArray⟩ : ByteArray).toList = _
        simp
       have HGC : Hid (w2.heap.size <= gC /\ w.heap.size < w2.heap.size) := HR.out.1.2.2.2.2
       cases rt with
       | false =>
        have HN : Hid (oR = none) := by
         show oR = none
         rw [<- HP.out]
         rw [HP.out, HRS.out, if_neg (fun q => by have h := HBK.out.2; unfold rtxt at h; rw [if_pos q.1, q.2] at h; cases h)]
        clear HSP HM HKS HTS HSZ HYB HB1 HG2 HP HRS HTL HBK HCT HR HY HXX HL6 HGC hlt hlti hk
        go_upto_region 26 with fail
        refine wp_region_lit ?_
        refine step_buildR rfl rfl ?_
        refine step_storeR w.heap.size ⟨#[]⟩ 0 0 0 0 0 none 0 0 ⟨#[]⟩ HFR.out.2 rfl rfl rfl rfl rfl ?_
        intro V8 ho8 hB8
        refine step_assignR rfl rfl ?_
        unfold wpList
        rename_i hret
        refine hret _ _ ?_
        refine wp_ret ?_
        have q0 : V8.cell? ⟨w.heap.size, 0, none⟩ = some (.string ⟨#[]⟩) := hB8.cell 0
        have q1 : V8.cell? ⟨w.heap.size, 1, none⟩ = some (.int .i64 0) := hB8.cell 1
        have q2 : V8.cell? ⟨w.heap.size, 2, none⟩ = some (.int .i64 0) := hB8.cell 2
        have q3 : V8.cell? ⟨w.heap.size, 3, none⟩ = some (.int .i64 0) := hB8.cell 3
        have q4 : V8.cell? ⟨w.heap.size, 4, none⟩ = some (.int .i64 0) := hB8.cell 4
        have q5 : V8.cell? ⟨w.heap.size, 5, none⟩ = some (.int .i64 0) := hB8.cell 5
        have q6 : V8.cell? ⟨w.heap.size, 6, none⟩ = some (.slice none 0 0) := hB8.cell 6
        have q7 : V8.cell? ⟨w.heap.size, 7, none⟩ = some (.string ⟨#[]⟩) := hB8.cell 7
        refine bodyPost_ret (v := .tuple #[.agg #[.string ⟨#[]⟩, .int .i64 0, .int .i64 0, .int .i64 0, .int .i64 0, .int .i64 0, .slice none 0 0, .string ⟨#[]⟩], .bool false]) (by simp [results, Try.results31, go_sem, q0, q1, q2, q3, q4, q5, q6, q7]; try rfl) rfl ⟨?_, .inl ⟨HN.out, rfl⟩⟩
        exact HFR.out.1.trans (ho8.below (fun b hb => by rw [List.mem_singleton.1 hb]; exact Nat.le_refl _) HFR.out.1.size)
       | true =>
        obtain ⟨tx, htx⟩ := Option.isSome_iff_exists.1 HBK.out.2
        have HTX2 : Hid (bk.data.toList = tx /\ replyOk c = true /\ writeI 6 (replyI c) = some tx) := by
         have h := htx
         unfold rtxt at h
         split at h
         ·next hco => exact ⟨by rw [<- HBK.out.1, htx]; rfl, hco, h⟩
         ·cases h
        clear htx
        by_cases hbt : bk.toList = T.toList
        ·have hbq : (bk.toList == T.toList) = true := by rw [hbt]; simp
         have HYES : Hid (oR = some c) := by
          show oR = some c
          have h1 := HTL.out bk
          have h2 := HTL.out T
          rw [HRS.out, if_pos ⟨HTX2.out.2.1, by rw [HTX2.out.2.2, <- HTX2.out.1, <- h1, hbt, h2]⟩]
         have HOWN : Hid (∀ V, Out [w.heap.size] y9 V -> OwnQ V w.heap.size (.agg #[.string iss, .int .i64 x1, .int .i64 x2, .int .i64 x3, .int .i64 x4, .int .i64 x5, .slice pa k pc, .string sgt]) c) := fun V ho => by
          have hoc := HCT.out _ HR.out.2
          exact (hoc.outB ho (fun b hb => by rw [List.mem_singleton.1 hb]; have := HGC.out; omega)).base (by have := HGC.out; omega)
         have HBC : Hid (Blk y9 gC 44 #[.string iss, .int .i64 x1, .int .i64 x2, .int .i64 x3, .int .i64 x4, .int .i64 x5, .slice pa k pc, .string sgt]) := HR.out.1.2.2.2.1
         clear HSP HM HKS HTS HSZ HYB HB1 HG2 HP HRS HTL HBK HCT HR HY HXX HL6 HGC hlt hlti hk hbt
         go_upto_region 27 with fail
         refine wp_region_lit ?_
         refine step_loadR gC iss x1 x2 x3 x4 x5 pa k pc sgt HBC.out rfl rfl rfl ?_
         refine step_storeR w.heap.size iss x1 x2 x3 x4 x5 pa k pc sgt HFR.out.2 rfl rfl rfl rfl rfl ?_
         intro V8 ho8 hB8
         refine step_assignR rfl rfl ?_
         unfold wpList
         rename_i hret
         refine hret _ _ ?_
         refine wp_ret ?_
         have q0 : V8.cell? ⟨w.heap.size, 0, none⟩ = some (.string iss) := hB8.cell 0
         have q1 : V8.cell? ⟨w.heap.size, 1, none⟩ = some (.int .i64 x1) := hB8.cell 1
         have q2 : V8.cell? ⟨w.heap.size, 2, none⟩ = some (.int .i64 x2) := hB8.cell 2
         have q3 : V8.cell? ⟨w.heap.size, 3, none⟩ = some (.int .i64 x3) := hB8.cell 3
         have q4 : V8.cell? ⟨w.heap.size, 4, none⟩ = some (.int .i64 x4) := hB8.cell 4
         have q5 : V8.cell? ⟨w.heap.size, 5, none⟩ = some (.int .i64 x5) := hB8.cell 5
         have q6 : V8.cell? ⟨w.heap.size, 6, none⟩ = some (.slice pa k pc) := hB8.cell 6
         have q7 : V8.cell? ⟨w.heap.size, 7, none⟩ = some (.string sgt) := hB8.cell 7
         refine bodyPost_ret (v := .tuple #[.agg #[.string iss, .int .i64 x1, .int .i64 x2, .int .i64 x3, .int .i64 x4, .int .i64 x5, .slice pa k pc, .string sgt], .bool true]) (by simp [results, Try.results31, go_sem, q0, q1, q2, q3, q4, q5, q6, q7]; try rfl) rfl ?_
         exact ⟨HFR.out.1.trans (ho8.below (fun b hb => by rw [List.mem_singleton.1 hb]; exact Nat.le_refl _) HFR.out.1.size), .inr ⟨c, _, HYES.out, rfl, HOWN.out V8 ho8, HTX2.out.2.1⟩⟩
        ·have hbq : (bk.toList == T.toList) = false := beq_eq_false_iff_ne.2 hbt
         have HN : Hid (oR = none) := by
          show oR = none
          rw [<- HP.out]
          rw [HP.out, HRS.out, if_neg (fun q => hbt (by have h1 := HTL.out bk; have h2 := HTL.out T; have h3 := HTX2.out.2.2; rw [q.2] at h3; injection h3 with h3; rw [h1, h2, HTX2.out.1, h3]))]
         clear HSP HM HKS HTS HSZ HYB HB1 HG2 HP HRS HTL HBK HCT HR HY HXX HL6 HGC hlt hlti hk HTX2 hbt
         go_upto_region 26 with fail
         refine wp_region_lit ?_
         refine step_buildR rfl rfl ?_
         refine step_storeR w.heap.size ⟨#[]⟩ 0 0 0 0 0 none 0 0 ⟨#[]⟩ HFR.out.2 rfl rfl rfl rfl rfl ?_
         intro V8 ho8 hB8
         refine step_assignR rfl rfl ?_
         unfold wpList
         rename_i hret
         refine hret _ _ ?_
         refine wp_ret ?_
         have q0 : V8.cell? ⟨w.heap.size, 0, none⟩ = some (.string ⟨#[]⟩) := hB8.cell 0
         have q1 : V8.cell? ⟨w.heap.size, 1, none⟩ = some (.int .i64 0) := hB8.cell 1
         have q2 : V8.cell? ⟨w.heap.size, 2, none⟩ = some (.int .i64 0) := hB8.cell 2
         have q3 : V8.cell? ⟨w.heap.size, 3, none⟩ = some (.int .i64 0) := hB8.cell 3
         have q4 : V8.cell? ⟨w.heap.size, 4, none⟩ = some (.int .i64 0) := hB8.cell 4
         have q5 : V8.cell? ⟨w.heap.size, 5, none⟩ = some (.int .i64 0) := hB8.cell 5
         have q6 : V8.cell? ⟨w.heap.size, 6, none⟩ = some (.slice none 0 0) := hB8.cell 6
         have q7 : V8.cell? ⟨w.heap.size, 7, none⟩ = some (.string ⟨#[]⟩) := hB8.cell 7
         refine bodyPost_ret (v := .tuple #[.agg #[.string ⟨#[]⟩, .int .i64 0, .int .i64 0, .int .i64 0, .int .i64 0, .int .i64 0, .slice none 0 0, .string ⟨#[]⟩], .bool false]) (by simp [results, Try.results31, go_sem, q0, q1, q2, q3, q4, q5, q6, q7]; try rfl) rfl ⟨?_, .inl ⟨HN.out, rfl⟩⟩
         exact HFR.out.1.trans (ho8.below (fun b hb => by rw [List.mem_singleton.1 hb]; exact Nat.le_refl _) HFR.out.1.size)
     have HLT : Hid (k < l6) := hlt
     have hlti : (k : Int) < (l6 : Int) := by omega
     have hk0 : (0 : Int) <= (k : Int) := by omega
     have hj : k < (It.kids k6).length := by have := HXX.out.2.2; omega
     obtain ⟨ao, cap, hv, _, hcell⟩ := HKS.out.2.2.2.2.2
     injection hv with hv1 hvx hv3
     clear hvx
     obtain ⟨g5, o5, ha, hg5, hcs⟩ := hcell (by omega)
     obtain ⟨kk, d0, d1, d2, hkk⟩ := hcs k hj
     have c0 : wr.cell? ⟨g5, o5 + k * 3, none⟩ = some (.int .i64 (It.tag (It.kids k6)[k])) := (HK.out.1.2.1.cell (p := ⟨g5, o5 + k * 3, none⟩) hg5).trans d0
     have c1 : wr.cell? ⟨g5, o5 + k * 3 + 1, none⟩ = some (.string ⟨(It.text (It.kids k6)[k]).toArray⟩) := (HK.out.1.2.1.cell (p := ⟨g5, o5 + k * 3 + 1, none⟩) hg5).trans d1
     have c2 : wr.cell? ⟨g5, o5 + k * 3 + 2, none⟩ = some kk := (HK.out.1.2.1.cell (p := ⟨g5, o5 + k * 3 + 2, none⟩) hg5).trans d2
     obtain ⟨ak, ck, hks⟩ := hkk.shape
     obtain ⟨yk, hyk⟩ := zE ((It.kids k6)[k])
     rw [hyk] at c0 c1 hkk hks
     have HYK : Hid (∃ hj : k < (It.kids k6).length, (It.kids k6)[k] = yk) := ⟨hj, hyk⟩
     have hzk : szI 4 yk <= 4000 := by rw [<- hyk]; exact (szI_kid (t := It.tag k6) (s := It.text k6) (ks := It.kids k6) (HSZ.out k6 (by simp))).2.2 _ (List.getElem_mem _)
     have HZK : Hid (szI 4 yk <= 4000) := hzk
     obtain ⟨lk, hlk⟩ := zE ((It.kids yk).length)
     change kk = .slice ak (It.kids yk).length ck at hks
     rw [hlk] at hks
     subst hks
     have HKK : Hid (KcAt w2 3 (.slice ak lk ck) (It.kids yk)) := hkk
     obtain ⟨tk, htk⟩ := zE (It.tag yk)
     rw [htk] at c0
     generalize (⟨(It.text yk).toArray⟩ : ByteArray) = sk at c1
     have E := l09Kids_any tk sk ak lk ck 4 wr
     obtain ⟨B6, hB6⟩ := zE (decide (tk = 48 /\ (lk : Int) = 4))
     rw [hB6] at E
     have ha' : a6 = some ⟨g5, o5, none⟩ := hv1.trans ha
     subst hv1 hv3
     have HLK : Hid ((It.kids yk).length = lk /\ It.tag yk = tk) := ⟨hlk, htk⟩
     rw [ha'] at m6
     clear hcell hcs d0 d1 d2 hkk hg5 hj hyk hlk htk hzk ha
     go_wp2_with fail
     clear m6 c0 c1 c2
     refine E.mono ?_
     rintro e w3 ⟨rfl, hb3⟩
     have HK3 : Hid (RP8 w w2 w3 gC #[.string iss, .int .i64 x1, .int .i64 x2, .int .i64 x3, .int .i64 x4, .int .i64 x5, .slice pa k pc, .string sgt] /\ OwnAS w3 (gC + 1) (.slice pa k pc) ps /\ gC + 1 <= w3.heap.size /\ ps.length = k /\ (∀ j (h1 : j < (It.kids k6).length) (h2 : j < ps.length), ansS (It.kids k6)[j] = some ps[j])) := ⟨HK.out.1.below hb3, HK.out.2.1.stays hb3, Nat.le_trans HK.out.2.2.1 hb3.size, HK.out.2.2.2⟩
     clear HK hb3 E
     cases B6 with
     | false =>
      have hno := of_decide_eq_false hB6
      clear hB6
      have HFR : Hid (Below w.heap.size w w3 /\ Blk w3 w.heap.size 44 #[.string ⟨#[]⟩, .int .i64 0, .int .i64 0, .int .i64 0, .int .i64 0, .int .i64 0, .slice none 0 0, .string ⟨#[]⟩]) := ⟨HK3.out.1.1, HK3.out.1.2.2.1⟩
      have r0 : w3.cell? ⟨w.heap.size, 0, none⟩ = some (.string ⟨#[]⟩) := HFR.out.2.cell 0
      have r1 : w3.cell? ⟨w.heap.size, 1, none⟩ = some (.int .i64 0) := HFR.out.2.cell 1
      have r2 : w3.cell? ⟨w.heap.size, 2, none⟩ = some (.int .i64 0) := HFR.out.2.cell 2
      have r3 : w3.cell? ⟨w.heap.size, 3, none⟩ = some (.int .i64 0) := HFR.out.2.cell 3
      have r4 : w3.cell? ⟨w.heap.size, 4, none⟩ = some (.int .i64 0) := HFR.out.2.cell 4
      have r5 : w3.cell? ⟨w.heap.size, 5, none⟩ = some (.int .i64 0) := HFR.out.2.cell 5
      have r6 : w3.cell? ⟨w.heap.size, 6, none⟩ = some (.slice none 0 0) := HFR.out.2.cell 6
      have r7 : w3.cell? ⟨w.heap.size, 7, none⟩ = some (.string ⟨#[]⟩) := HFR.out.2.cell 7
      have rf := fun j => HFR.out.2.free j
      have HN : Hid (oR = none) := by
       show oR = none
       rw [<- HP.out]
       obtain ⟨hj', hyk'⟩ := HYK.out
       rw [HY.out.2.1]; show readW (m := 1) T.data.toList x = none; unfold readW; rw [specV_some (m := 1) HY.out.1 HYB.out.1 HY.out.2.2.2.1 HYB.out.2, anssS_none (k := 1) (ks := It.kids k6) hj' (by rw [hyk']; exact ansS_no (m := 1) (fun q => hno ⟨by rw [<- HLK.out.2]; exact q.1, by have h1 := HLK.out.1; have h2 := q.2; omega⟩))]; rfl
      clear hno
      go_wp2_with fail
      refine bodyPost_ret (v := .tuple #[.agg #[.string ⟨#[]⟩, .int .i64 0, .int .i64 0, .int .i64 0, .int .i64 0, .int .i64 0, .slice none 0 0, .string ⟨#[]⟩], .bool false]) (by simp [results, Try.results31, go_sem, r0, r1, r2, r3, r4, r5, r6, r7]; try rfl) rfl ⟨?_, .inl ⟨HN.out, rfl⟩⟩
      iterate 8 refine Below.setCell ?_ (by show w.heap.size <= w.heap.size; exact Nat.le_refl _) _
      exact HFR.out.1
     | true =>
      have hyes := of_decide_eq_true hB6
      clear hB6
      obtain ⟨rfl, hl2⟩ := hyes
      obtain rfl : lk = 4 := by omega
      clear hl2
      obtain ⟨f0, f1, f2, f3, hkf⟩ := listR_four (l := It.kids yk) HLK.out.1
      obtain ⟨ao, cap, hv, _, hcell⟩ := HKK.out
      injection hv with hv1 hvx hv3
      clear hvx
      subst hv1 hv3
      rw [hkf] at hcell
      obtain ⟨g7, o7, ha7, hg7, hcs7⟩ := hcell (by simp)
      subst ha7
      obtain ⟨w0v, e0a, e0b, e0c, hf0⟩ := hcs7 0 (by simp)
      obtain ⟨w1v, e1a, e1b, e1c, hf1⟩ := hcs7 1 (by simp)
      obtain ⟨w2v, e2a, e2b, e2c, hf2⟩ := hcs7 2 (by simp)
      obtain ⟨w3v, e3a, e3b, e3c, hf3⟩ := hcs7 3 (by simp)
      obtain ⟨tf0, htf0⟩ := zE (It.tag f0)
      obtain ⟨sf0, hsf0⟩ : ∃ q : ByteArray, (⟨(It.text f0).toArray⟩ : ByteArray) = q := ⟨_, rfl⟩
      obtain ⟨af0, cf0, hvf0⟩ := hf0.shape
      change w0v = .slice af0 (It.kids f0).length cf0 at hvf0
      obtain ⟨lf0, hlf0⟩ := zE ((It.kids f0).length)
      rw [hlf0] at hvf0
      subst hvf0
      obtain ⟨tf1, htf1⟩ := zE (It.tag f1)
      obtain ⟨sf1, hsf1⟩ : ∃ q : ByteArray, (⟨(It.text f1).toArray⟩ : ByteArray) = q := ⟨_, rfl⟩
      obtain ⟨af1, cf1, hvf1⟩ := hf1.shape
      change w1v = .slice af1 (It.kids f1).length cf1 at hvf1
      obtain ⟨lf1, hlf1⟩ := zE ((It.kids f1).length)
      rw [hlf1] at hvf1
      subst hvf1
      obtain ⟨tf2, htf2⟩ := zE (It.tag f2)
      obtain ⟨sf2, hsf2⟩ : ∃ q : ByteArray, (⟨(It.text f2).toArray⟩ : ByteArray) = q := ⟨_, rfl⟩
      obtain ⟨af2, cf2, hvf2⟩ := hf2.shape
      change w2v = .slice af2 (It.kids f2).length cf2 at hvf2
      obtain ⟨lf2, hlf2⟩ := zE ((It.kids f2).length)
      rw [hlf2] at hvf2
      subst hvf2
      obtain ⟨tf3, htf3⟩ := zE (It.tag f3)
      obtain ⟨sf3, hsf3⟩ : ∃ q : ByteArray, (⟨(It.text f3).toArray⟩ : ByteArray) = q := ⟨_, rfl⟩
      obtain ⟨af3, cf3, hvf3⟩ := hf3.shape
      change w3v = .slice af3 (It.kids f3).length cf3 at hvf3
      obtain ⟨lf3, hlf3⟩ := zE ((It.kids f3).length)
      rw [hlf3] at hvf3
      subst hvf3
      have HG7 : Hid (g7 < w2.heap.size) := hg7
      have HNN : Hid (w2.cell? ⟨g7, o7, none⟩ = some (.int .i64 tf0) /\ w2.cell? ⟨g7, o7 + 1, none⟩ = some (.string sf0) /\ w2.cell? ⟨g7, o7 + 2, none⟩ = some (.slice af0 lf0 cf0) /\ w2.cell? ⟨g7, o7 + 3, none⟩ = some (.int .i64 tf1) /\ w2.cell? ⟨g7, o7 + 4, none⟩ = some (.string sf1) /\ w2.cell? ⟨g7, o7 + 5, none⟩ = some (.slice af1 lf1 cf1) /\ w2.cell? ⟨g7, o7 + 6, none⟩ = some (.int .i64 tf2) /\ w2.cell? ⟨g7, o7 + 7, none⟩ = some (.string sf2) /\ w2.cell? ⟨g7, o7 + 8, none⟩ = some (.slice af2 lf2 cf2) /\ w2.cell? ⟨g7, o7 + 9, none⟩ = some (.int .i64 tf3) /\ w2.cell? ⟨g7, o7 + 10, none⟩ = some (.string sf3) /\ w2.cell? ⟨g7, o7 + 11, none⟩ = some (.slice af3 lf3 cf3)) := ⟨by rw [<- htf0]; exact e0a, by rw [<- hsf0]; exact e0b, by exact e0c, by rw [<- htf1]; exact e1a, by rw [<- hsf1]; exact e1b, by exact e1c, by rw [<- htf2]; exact e2a, by rw [<- hsf2]; exact e2b, by exact e2c, by rw [<- htf3]; exact e3a, by rw [<- hsf3]; exact e3b, by exact e3c⟩
      have HKF : Hid (KcAt w2 2 (.slice af0 lf0 cf0) (It.kids f0) /\ KcAt w2 2 (.slice af1 lf1 cf1) (It.kids f1) /\ KcAt w2 2 (.slice af2 lf2 cf2) (It.kids f2) /\ KcAt w2 2 (.slice af3 lf3 cf3) (It.kids f3)) := ⟨by show KcAt w2 2 (.slice af0 lf0 cf0) (It.kids f0); exact hf0, by show KcAt w2 2 (.slice af1 lf1 cf1) (It.kids f1); exact hf1, by show KcAt w2 2 (.slice af2 lf2 cf2) (It.kids f2); exact hf2, by show KcAt w2 2 (.slice af3 lf3 cf3) (It.kids f3); exact hf3⟩
      have HTF : Hid ((It.tag f0 = tf0 /\ (⟨(It.text f0).toArray⟩ : ByteArray) = sf0) /\ (It.tag f1 = tf1 /\ (⟨(It.text f1).toArray⟩ : ByteArray) = sf1) /\ (It.tag f2 = tf2 /\ (⟨(It.text f2).toArray⟩ : ByteArray) = sf2) /\ (It.tag f3 = tf3 /\ (⟨(It.text f3).toArray⟩ : ByteArray) = sf3)) := ⟨⟨htf0, hsf0⟩, ⟨htf1, hsf1⟩, ⟨htf2, hsf2⟩, ⟨htf3, hsf3⟩⟩
      have HSF : Hid (∀ y ∈ [f0, f1, f2, f3], szI 3 y <= 4000) := by
       show ∀ y ∈ _, _
       rw [<- hkf]
       exact (szI_kid (t := It.tag yk) (s := It.text yk) (ks := It.kids yk) HZK.out).2.2
      obtain ⟨y0, hy0⟩ := zE (numI f0)
      obtain ⟨y1, hy1⟩ := zE (numI f1)
      obtain ⟨tp, htp⟩ := zE ((It.kids f2).map (fun z => baL (It.text z)))
      obtain ⟨tl, htl⟩ := zE ((It.kids f3).map (fun z => baL (It.text z)))
      have HYV : Hid (ansS (k := 1) yk = some ⟨y0, y1, tp, tl⟩ /\ (numI f0 = y0 /\ numI f1 = y1) /\ (It.kids f2).map (fun z => baL (It.text z)) = tp /\ (It.kids f3).map (fun z => baL (It.text z)) = tl) := ⟨by rw [ansS_yes (m := 1) hkf HLK.out.2, hy0, hy1, htp, htl], ⟨hy0, hy1⟩, htp, htl⟩
      clear hcell hcs7 hkf hg7 hy0 hy1 htp htl HKK HLK e0a e0b e0c hf0 htf0 hsf0 hlf0 e1a e1b e1c hf1 htf1 hsf1 hlf1 e2a e2b e2c hf2 htf2 hsf2 hlf2 e3a e3b e3c hf3 htf3 hsf3 hlf3
      go_upto_region 20 with fail
      obtain ⟨top, htop⟩ := zE (w3.heap.size)
      have HTP : Hid (w3.heap.size = top /\ gC < top /\ ps.length = k /\ k < l6 /\ (∀ j (h1 : j < (It.kids k6).length) (h2 : j < ps.length), ansS (It.kids k6)[j] = some ps[j])) := ⟨htop, by have := HK3.out.2.2.1; omega, HK3.out.2.2.2.1, HLT.out, HK3.out.2.2.2.2⟩
      clear htop
      have HO : Hid (∃ fp, OwnS awKd w3 (gC + 1) (.slice pa k pc) ps fp /\ ∀ b ∈ fp, b < top) := by
       obtain ⟨fp, h⟩ := HK3.out.2.1
       exact ⟨fp, h, fun b hb => by have := (h.lt b hb).2; have := HTP.out.1; omega⟩
      have HRP : Hid (RP8 w w2 w3 gC #[.string iss, .int .i64 x1, .int .i64 x2, .int .i64 x3, .int .i64 x4, .int .i64 x5, .slice pa k pc, .string sgt]) := HK3.out.1
      clear HK3 HLT
      go_cut [14] from 93 to 146 (fun s14 wx => ∃ gY : Nat, s14 = .pointer (some ⟨gY, 0, none⟩) /\ Hid (∃ (pp : Option Addr) (lp cp : Nat) (pe : Option Addr) (le ce : Nat), RY8 w w2 wx gC gY top #[.string iss, .int .i64 x1, .int .i64 x2, .int .i64 x3, .int .i64 x4, .int .i64 x5, .slice pa k pc, .string sgt] #[.int .i64 0, .int .i64 0, .slice pp lp cp, .slice pe le ce] (.slice pa k pc) ps (.slice pp lp cp) (.slice pe le ce) tp tl))
      case first =>
       have hSd : RP8 w w2 w3.drew gC #[.string iss, .int .i64 x1, .int .i64 x2, .int .i64 x3, .int .i64 x4, .int .i64 x5, .slice pa k pc, .string sgt] := HRP.out.below ((Below.refl _ _).drew)
       have O0 : Hid (top <= w3.drew.heap.size /\ gC < top) := ⟨by have := HTP.out.1; have := (Below.refl w3.heap.size w3).drew.size; omega, HTP.out.2.1⟩
       have HOd : Hid (∃ fp, OwnS awKd w3.drew (gC + 1) (.slice pa k pc) ps fp /\ ∀ b ∈ fp, b < top) := by
        obtain ⟨fp, h, h2⟩ := HO.out
        exact ⟨fp, h.stays ((Below.refl _ _).drew), h2⟩
       clear HO HRP
       have HO := HOd
       clear HOd
       refine wp_region_held_drew (S := fun W => RP8 w w2 W gC #[.string iss, .int .i64 x1, .int .i64 x2, .int .i64 x3, .int .i64 x4, .int .i64 x5, .slice pa k pc, .string sgt]) (by kernel_rfl) hSd (fun hHeld => ?_)
       clear hSd
       generalize w3.drew = wd at hHeld HO O0 |-
       refine zT 0 116 ?_ rfl (by rfl) ?_ hHeld ?_
       rotate_left
       ·intro W hSw
        go_simp
        try with_reducible rfl
       try simp only [Act.put, zA, zB, zC]
       refine zT 1 117 ?_ rfl (by rfl) ?_ hHeld ?_
       rotate_left
       ·intro W hSw
        go_simp
        try with_reducible rfl
       try simp only [Act.put, zA, zB, zC]
       refine zT 2 118 ?_ rfl (by rfl) ?_ hHeld ?_
       rotate_left
       ·intro W hSw
        have n2a : W.cell? ⟨g7, o7 + 6, none⟩ = some (.int .i64 tf2) := (hSw.2.1.cell (p := ⟨g7, o7 + 6, none⟩) HG7.out).trans HNN.out.2.2.2.2.2.2.1
        have n2b : W.cell? ⟨g7, o7 + 7, none⟩ = some (.string sf2) := (hSw.2.1.cell (p := ⟨g7, o7 + 7, none⟩) HG7.out).trans HNN.out.2.2.2.2.2.2.2.1
        have n2c : W.cell? ⟨g7, o7 + 8, none⟩ = some (.slice af2 lf2 cf2) := (hSw.2.1.cell (p := ⟨g7, o7 + 8, none⟩) HG7.out).trans HNN.out.2.2.2.2.2.2.2.2.1
        go_simp
        try with_reducible rfl
       try simp only [Act.put, zA, zB, zC]
       refine zT 4 120 ?_ rfl (by rfl) ?_ hHeld ?_
       rotate_left
       ·intro W hSw
        go_simp
        try with_reducible rfl
       try simp only [Act.put, zA, zB, zC]
       refine zT 5 121 ?_ rfl (by rfl) ?_ hHeld ?_
       rotate_left
       ·intro W hSw
        go_simp
        try with_reducible rfl
       try simp only [Act.put, zA, zB, zC]
       refine zT 6 122 ?_ rfl (by rfl) ?_ hHeld ?_
       rotate_left
       ·intro W hSw
        have n3a : W.cell? ⟨g7, o7 + 9, none⟩ = some (.int .i64 tf3) := (hSw.2.1.cell (p := ⟨g7, o7 + 9, none⟩) HG7.out).trans HNN.out.2.2.2.2.2.2.2.2.2.1
        have n3b : W.cell? ⟨g7, o7 + 10, none⟩ = some (.string sf3) := (hSw.2.1.cell (p := ⟨g7, o7 + 10, none⟩) HG7.out).trans HNN.out.2.2.2.2.2.2.2.2.2.2.1
        have n3c : W.cell? ⟨g7, o7 + 11, none⟩ = some (.slice af3 lf3 cf3) := (hSw.2.1.cell (p := ⟨g7, o7 + 11, none⟩) HG7.out).trans HNN.out.2.2.2.2.2.2.2.2.2.2.2
        go_simp
        try with_reducible rfl
       try simp only [Act.put, zA, zB, zC]
       refine wpAnyH_ready (rs := [3, 9]) (by kernel_rfl) (by simp) ?_
       refine AllReadyH.cons (o := ⟨some 119, _, _, _, _, _⟩) rfl (fun K hK => ?_) ?_
       rotate_left
       ·refine AllReadyH.cons (o := ⟨some 14, _, _, _, _, _⟩) rfl (fun K hK => ?_) AllReadyH.nil
        obtain ⟨q1, hq1⟩ : ∃ V, V = wd.alloc (Obj.cells #[.int .i64 0, .int .i64 0, .slice none 0 0, .slice none 0 0] 84) := ⟨_, rfl⟩
        have hb : Below wd.heap.size wd q1 := by rw [hq1]; exact (Below.refl _ _).alloc (Nat.le_refl _) _
        have HGY0 : Hid (Blk q1 wd.heap.size 84 #[.int .i64 0, .int .i64 0, .slice none 0 0, .slice none 0 0]) := by rw [hq1]; exact Blk.new _ _ _
        have hs1 : q1.heap.size = wd.heap.size + 1 := by rw [hq1]; exact size_alloc _ _
        have hH := RP8.below hHeld hb
        have HOn : Hid (∃ fp, OwnS awKd q1 (gC + 1) (.slice pa k pc) ps fp /\ ∀ b ∈ fp, b < top) := by
         obtain ⟨fp, h, h2⟩ := HO.out
         exact ⟨fp, h.stays hb, h2⟩
        clear HO
        have HO := HOn
        clear HOn
        go_simp
        rw [<- hq1]
        refine hK.out _ _ hH (fun hHeld => ?_)
        clear hK K hH hb hq1
        try simp only [Act.put, zA, zB, zC]
        obtain ⟨gY, hgY⟩ := zE (wd.heap.size)
        rw [hgY] at HGY0 |-
        have HGY := HGY0
        have OO1 : Hid (wd.heap.size = gY /\ q1.heap.size = gY + 1) := ⟨hgY, by rw [<- hgY]; exact hs1⟩
        clear hgY hs1 HGY0
        refine wpAnyH_ready (rs := [3]) (by kernel_rfl) (by simp) ?_
        refine AllReadyH.cons (o := ⟨some 119, _, _, _, _, _⟩) rfl (fun K hK => ?_) AllReadyH.nil
        have EK := textsIn_any 1 tf2 sf2 (It.kids f2) af2 lf2 cf2 q1 ((HKF.out.2.2.1).below hHeld.2.1) (Nat.le_trans (szI_kid (t := It.tag f2) (s := It.text f2) (ks := It.kids f2) (HSF.out f2 (by simp))).2.1 (by decide)) (fun y hy => Nat.le_trans ((szI_kid (t := It.tag f2) (s := It.text f2) (ks := It.kids f2) (HSF.out f2 (by simp))).2.2 y hy) (by decide))
        rw [HYV.out.2.2.1] at EK
        go_simp
        refine EK.mono ?_
        rintro e q2 ⟨up, rfl, hown, hb⟩
        obtain ⟨pp, cp, hup⟩ : ∃ ao cap, up = .slice ao tp.length cap := by obtain ⟨ao, cap, h, _⟩ := hown.at; exact ⟨ao, cap, h⟩
        obtain ⟨lp, hpl⟩ := zE (tp.length)
        rw [hpl] at hup
        subst hup
        have hH := RP8.below hHeld hb
        have BP : Hid (∀ b, (Value.slice pp lp cp).ownBlock = some b -> q1.heap.size <= b /\ b < q2.heap.size) := fun b hb => World.ownsRow.lt hown b hb
        have OO2 : Hid (q1.heap.size <= q2.heap.size) := hb.size
        have HOn : Hid (∃ fp, OwnS awKd q2 (gC + 1) (.slice pa k pc) ps fp /\ ∀ b ∈ fp, b < top) := by
         obtain ⟨fp, h, h2⟩ := HO.out
         exact ⟨fp, h.stays hb, h2⟩
        clear HO
        have HO := HOn
        clear HOn
        replace HGY := zH (HGY.out.on hb)
        have HPT : Hid (OwnT q2 top (.slice pp lp cp) tp) := hown.base (by have := O0.out; have := OO1.out; omega)
        go_wp2_with fail
        refine hK.out _ _ hH (fun hHeld => ?_)
        clear hK K hH hb hown EK hpl
        try simp only [Act.put, zA, zB, zC]
        refine wpAnyH_ready (rs := [7]) (by kernel_rfl) (by simp) ?_
        refine AllReadyH.cons (o := ⟨some 123, _, _, _, _, _⟩) rfl (fun K hK => ?_) AllReadyH.nil
        have EK := textsIn_any 1 tf3 sf3 (It.kids f3) af3 lf3 cf3 q2 ((HKF.out.2.2.2).below hHeld.2.1) (Nat.le_trans (szI_kid (t := It.tag f3) (s := It.text f3) (ks := It.kids f3) (HSF.out f3 (by simp))).2.1 (by decide)) (fun y hy => Nat.le_trans ((szI_kid (t := It.tag f3) (s := It.text f3) (ks := It.kids f3) (HSF.out f3 (by simp))).2.2 y hy) (by decide))
        rw [HYV.out.2.2.2] at EK
        go_simp
        refine EK.mono ?_
        rintro e q3 ⟨up, rfl, hown, hb⟩
        obtain ⟨pe, ce, hup⟩ : ∃ ao cap, up = .slice ao tl.length cap := by obtain ⟨ao, cap, h, _⟩ := hown.at; exact ⟨ao, cap, h⟩
        obtain ⟨le, hpl⟩ := zE (tl.length)
        rw [hpl] at hup
        subst hup
        have hH := RP8.below hHeld hb
        have BE : Hid (∀ b, (Value.slice pe le ce).ownBlock = some b -> q2.heap.size <= b /\ b < q3.heap.size) := fun b hb => World.ownsRow.lt hown b hb
        have OO3 : Hid (q2.heap.size <= q3.heap.size) := hb.size
        have HOn : Hid (∃ fp, OwnS awKd q3 (gC + 1) (.slice pa k pc) ps fp /\ ∀ b ∈ fp, b < top) := by
         obtain ⟨fp, h, h2⟩ := HO.out
         exact ⟨fp, h.stays hb, h2⟩
        clear HO
        have HO := HOn
        clear HOn
        replace HGY := zH (HGY.out.on hb)
        replace HPT := zH (HPT.out.stays hb)
        have HET : Hid (OwnT q3 top (.slice pe le ce) tl) := hown.base (by have := O0.out; have := OO1.out; have := OO2.out; omega)
        go_wp2_with fail
        refine hK.out _ _ hH (fun hHeld => ?_)
        clear hK K hH hb hown EK hpl
        try simp only [Act.put, zA, zB, zC]
        refine zT 8 124 ?_ rfl (by rfl) ?_ hHeld ?_
        rotate_left
        ·intro W hSw
         go_simp
         try with_reducible rfl
        try simp only [Act.put, zA, zB, zC]
        refine wpAnyH_ready (rs := [10]) (by kernel_rfl) (by simp) ?_
        refine AllReadyH.cons (o := ⟨none, _, _, _, _, _⟩) rfl (fun K hK => ?_) AllReadyH.nil
        have g0c : q3.cell? ⟨gY, 0, none⟩ = some (.int .i64 0) := HGY.out.cell 0
        have g1c : q3.cell? ⟨gY, 1, none⟩ = some (.int .i64 0) := HGY.out.cell 1
        have g2c : q3.cell? ⟨gY, 2, none⟩ = some (.slice none 0 0) := HGY.out.cell 2
        have g3c : q3.cell? ⟨gY, 3, none⟩ = some (.slice none 0 0) := HGY.out.cell 3
        have gf := fun j => HGY.out.free j
        go_simp
        generalize hV : World.setCell _ { block := gY, off := 3 } (Value.slice pe le ce) = V
        have FIN : Out [gY] q3 V /\ Blk V gY 84 #[.int .i64 0, .int .i64 0, .slice pp lp cp, .slice pe le ce] := by
         rw [<- hV]
         refine ⟨?_, ?_⟩
         ·iterate 4 refine Out.setCell ?_ _ _ (by simp)
          exact Out.refl _ _
         ·exact (((HGY.out.set 0 _).set 1 _).set 2 _).set 3 _
        clear hV gf g0c g1c g2c g3c
        have hgt : gC < gY := by have := O0.out; have := OO1.out; have := OO2.out; have := OO3.out; omega
        have hH : RP8 w w2 V gC #[.string iss, .int .i64 x1, .int .i64 x2, .int .i64 x3, .int .i64 x4, .int .i64 x5, .slice pa k pc, .string sgt] := hHeld.outZ FIN.1 hgt
        have HR : Hid (RY8 w w2 V gC gY top #[.string iss, .int .i64 x1, .int .i64 x2, .int .i64 x3, .int .i64 x4, .int .i64 x5, .slice pa k pc, .string sgt] #[.int .i64 0, .int .i64 0, .slice pp lp cp, .slice pe le ce] (.slice pa k pc) ps (.slice pp lp cp) (.slice pe le ce) tp tl) := by
         have np : ∀ b, (Value.slice pp lp cp).ownBlock = some b -> b ≠ gY := fun b hb => by have := BP.out b hb; have := O0.out; have := OO1.out; have := OO2.out; have := OO3.out; omega
         have ne : ∀ b, (Value.slice pe le ce).ownBlock = some b -> b ≠ gY := fun b hb => by have := BE.out b hb; have := O0.out; have := OO1.out; have := OO2.out; have := OO3.out; omega
         obtain ⟨fp, h1, h2⟩ := HO.out
         refine ⟨hH, ⟨fp, h1.out FIN.1 (fun b hb hq => by have := h2 b hb; rw [List.mem_singleton.1 hq] at this; have := O0.out; have := OO1.out; have := OO2.out; have := OO3.out; omega), h2⟩, FIN.2, FIN.1.row (fun b hb => by have := np b hb; simp; omega) HPT.out, FIN.1.row (fun b hb => by have := ne b hb; simp; omega) HET.out, ⟨⟨ap_of ?_, ap_of ?_⟩, np, ne⟩, ?_⟩
         ·intro b h1 h2; have := BP.out b h1; have := BE.out b h2; have := O0.out; have := OO1.out; have := OO2.out; have := OO3.out; omega
         ·intro b h1 h2; have := BE.out b h1; have := BP.out b h2; have := O0.out; have := OO1.out; have := OO2.out; have := OO3.out; omega
         ·have := O0.out; have := OO1.out; have := OO2.out; have := OO3.out; omega
        refine hK.out _ _ hH (fun hHeld => ?_)
        clear hK K hH FIN hHeld
        try simp only [Act.put, zA, zB, zC]
        refine wpAnyH_done (by kernel_rfl) ?_ _
        go_wp2_with fail
        go_meet
        case rel => exact ⟨gY, rfl, _, _, _, _, _, _, HR.out⟩
       have EK := textsIn_any 1 tf2 sf2 (It.kids f2) af2 lf2 cf2 wd ((HKF.out.2.2.1).below hHeld.2.1) (Nat.le_trans (szI_kid (t := It.tag f2) (s := It.text f2) (ks := It.kids f2) (HSF.out f2 (by simp))).2.1 (by decide)) (fun y hy => Nat.le_trans ((szI_kid (t := It.tag f2) (s := It.text f2) (ks := It.kids f2) (HSF.out f2 (by simp))).2.2 y hy) (by decide))
       rw [HYV.out.2.2.1] at EK
       go_simp
       refine EK.mono ?_
       rintro e q4 ⟨up, rfl, hown, hb⟩
       obtain ⟨pp, cp, hup⟩ : ∃ ao cap, up = .slice ao tp.length cap := by obtain ⟨ao, cap, h, _⟩ := hown.at; exact ⟨ao, cap, h⟩
       obtain ⟨lp, hpl⟩ := zE (tp.length)
       rw [hpl] at hup
       subst hup
       have hH := RP8.below hHeld hb
       have BP : Hid (∀ b, (Value.slice pp lp cp).ownBlock = some b -> wd.heap.size <= b /\ b < q4.heap.size) := fun b hb => World.ownsRow.lt hown b hb
       have OO4 : Hid (wd.heap.size <= q4.heap.size) := hb.size
       have HOn : Hid (∃ fp, OwnS awKd q4 (gC + 1) (.slice pa k pc) ps fp /\ ∀ b ∈ fp, b < top) := by
        obtain ⟨fp, h, h2⟩ := HO.out
        exact ⟨fp, h.stays hb, h2⟩
       clear HO
       have HO := HOn
       clear HOn
       have HPT : Hid (OwnT q4 top (.slice pp lp cp) tp) := hown.base (by have := O0.out; omega)
       go_wp2_with fail
       refine hK.out _ _ hH (fun hHeld => ?_)
       clear hK K hH hb hown EK hpl
       try simp only [Act.put, zA, zB, zC]
       refine wpAnyH_ready (rs := [7, 9]) (by kernel_rfl) (by simp) ?_
       refine AllReadyH.cons (o := ⟨some 123, _, _, _, _, _⟩) rfl (fun K hK => ?_) ?_
       rotate_left
       ·refine AllReadyH.cons (o := ⟨some 14, _, _, _, _, _⟩) rfl (fun K hK => ?_) AllReadyH.nil
        obtain ⟨q5, hq5⟩ : ∃ V, V = q4.alloc (Obj.cells #[.int .i64 0, .int .i64 0, .slice none 0 0, .slice none 0 0] 84) := ⟨_, rfl⟩
        have hb : Below q4.heap.size q4 q5 := by rw [hq5]; exact (Below.refl _ _).alloc (Nat.le_refl _) _
        have HGY0 : Hid (Blk q5 q4.heap.size 84 #[.int .i64 0, .int .i64 0, .slice none 0 0, .slice none 0 0]) := by rw [hq5]; exact Blk.new _ _ _
        have hs1 : q5.heap.size = q4.heap.size + 1 := by rw [hq5]; exact size_alloc _ _
        have hH := RP8.below hHeld hb
        have HOn : Hid (∃ fp, OwnS awKd q5 (gC + 1) (.slice pa k pc) ps fp /\ ∀ b ∈ fp, b < top) := by
         obtain ⟨fp, h, h2⟩ := HO.out
         exact ⟨fp, h.stays hb, h2⟩
        clear HO
        have HO := HOn
        clear HOn
        replace HPT := zH (HPT.out.stays hb)
        go_simp
        rw [<- hq5]
        refine hK.out _ _ hH (fun hHeld => ?_)
        clear hK K hH hb hq5
        try simp only [Act.put, zA, zB, zC]
        obtain ⟨gY, hgY⟩ := zE (q4.heap.size)
        rw [hgY] at HGY0 |-
        have HGY := HGY0
        have OO5 : Hid (q4.heap.size = gY /\ q5.heap.size = gY + 1) := ⟨hgY, by rw [<- hgY]; exact hs1⟩
        clear hgY hs1 HGY0
        refine wpAnyH_ready (rs := [7]) (by kernel_rfl) (by simp) ?_
        refine AllReadyH.cons (o := ⟨some 123, _, _, _, _, _⟩) rfl (fun K hK => ?_) AllReadyH.nil
        have EK := textsIn_any 1 tf3 sf3 (It.kids f3) af3 lf3 cf3 q5 ((HKF.out.2.2.2).below hHeld.2.1) (Nat.le_trans (szI_kid (t := It.tag f3) (s := It.text f3) (ks := It.kids f3) (HSF.out f3 (by simp))).2.1 (by decide)) (fun y hy => Nat.le_trans ((szI_kid (t := It.tag f3) (s := It.text f3) (ks := It.kids f3) (HSF.out f3 (by simp))).2.2 y hy) (by decide))
        rw [HYV.out.2.2.2] at EK
        go_simp
        refine EK.mono ?_
        rintro e q6 ⟨up, rfl, hown, hb⟩
        obtain ⟨pe, ce, hup⟩ : ∃ ao cap, up = .slice ao tl.length cap := by obtain ⟨ao, cap, h, _⟩ := hown.at; exact ⟨ao, cap, h⟩
        obtain ⟨le, hpl⟩ := zE (tl.length)
        rw [hpl] at hup
        subst hup
        have hH := RP8.below hHeld hb
        have BE : Hid (∀ b, (Value.slice pe le ce).ownBlock = some b -> q5.heap.size <= b /\ b < q6.heap.size) := fun b hb => World.ownsRow.lt hown b hb
        have OO6 : Hid (q5.heap.size <= q6.heap.size) := hb.size
        have HOn : Hid (∃ fp, OwnS awKd q6 (gC + 1) (.slice pa k pc) ps fp /\ ∀ b ∈ fp, b < top) := by
         obtain ⟨fp, h, h2⟩ := HO.out
         exact ⟨fp, h.stays hb, h2⟩
        clear HO
        have HO := HOn
        clear HOn
        replace HPT := zH (HPT.out.stays hb)
        replace HGY := zH (HGY.out.on hb)
        have HET : Hid (OwnT q6 top (.slice pe le ce) tl) := hown.base (by have := O0.out; have := OO4.out; have := OO5.out; omega)
        go_wp2_with fail
        refine hK.out _ _ hH (fun hHeld => ?_)
        clear hK K hH hb hown EK hpl
        try simp only [Act.put, zA, zB, zC]
        refine zT 8 124 ?_ rfl (by rfl) ?_ hHeld ?_
        rotate_left
        ·intro W hSw
         go_simp
         try with_reducible rfl
        try simp only [Act.put, zA, zB, zC]
        refine wpAnyH_ready (rs := [10]) (by kernel_rfl) (by simp) ?_
        refine AllReadyH.cons (o := ⟨none, _, _, _, _, _⟩) rfl (fun K hK => ?_) AllReadyH.nil
        have g0c : q6.cell? ⟨gY, 0, none⟩ = some (.int .i64 0) := HGY.out.cell 0
        have g1c : q6.cell? ⟨gY, 1, none⟩ = some (.int .i64 0) := HGY.out.cell 1
        have g2c : q6.cell? ⟨gY, 2, none⟩ = some (.slice none 0 0) := HGY.out.cell 2
        have g3c : q6.cell? ⟨gY, 3, none⟩ = some (.slice none 0 0) := HGY.out.cell 3
        have gf := fun j => HGY.out.free j
        go_simp
        generalize hV : World.setCell _ { block := gY, off := 3 } (Value.slice pe le ce) = V
        have FIN : Out [gY] q6 V /\ Blk V gY 84 #[.int .i64 0, .int .i64 0, .slice pp lp cp, .slice pe le ce] := by
         rw [<- hV]
         refine ⟨?_, ?_⟩
         ·iterate 4 refine Out.setCell ?_ _ _ (by simp)
          exact Out.refl _ _
         ·exact (((HGY.out.set 0 _).set 1 _).set 2 _).set 3 _
        clear hV gf g0c g1c g2c g3c
        have hgt : gC < gY := by have := O0.out; have := OO4.out; have := OO5.out; have := OO6.out; omega
        have hH : RP8 w w2 V gC #[.string iss, .int .i64 x1, .int .i64 x2, .int .i64 x3, .int .i64 x4, .int .i64 x5, .slice pa k pc, .string sgt] := hHeld.outZ FIN.1 hgt
        have HR : Hid (RY8 w w2 V gC gY top #[.string iss, .int .i64 x1, .int .i64 x2, .int .i64 x3, .int .i64 x4, .int .i64 x5, .slice pa k pc, .string sgt] #[.int .i64 0, .int .i64 0, .slice pp lp cp, .slice pe le ce] (.slice pa k pc) ps (.slice pp lp cp) (.slice pe le ce) tp tl) := by
         have np : ∀ b, (Value.slice pp lp cp).ownBlock = some b -> b ≠ gY := fun b hb => by have := BP.out b hb; have := O0.out; have := OO4.out; have := OO5.out; have := OO6.out; omega
         have ne : ∀ b, (Value.slice pe le ce).ownBlock = some b -> b ≠ gY := fun b hb => by have := BE.out b hb; have := O0.out; have := OO4.out; have := OO5.out; have := OO6.out; omega
         obtain ⟨fp, h1, h2⟩ := HO.out
         refine ⟨hH, ⟨fp, h1.out FIN.1 (fun b hb hq => by have := h2 b hb; rw [List.mem_singleton.1 hq] at this; have := O0.out; have := OO4.out; have := OO5.out; have := OO6.out; omega), h2⟩, FIN.2, FIN.1.row (fun b hb => by have := np b hb; simp; omega) HPT.out, FIN.1.row (fun b hb => by have := ne b hb; simp; omega) HET.out, ⟨⟨ap_of ?_, ap_of ?_⟩, np, ne⟩, ?_⟩
         ·intro b h1 h2; have := BP.out b h1; have := BE.out b h2; have := O0.out; have := OO4.out; have := OO5.out; have := OO6.out; omega
         ·intro b h1 h2; have := BE.out b h1; have := BP.out b h2; have := O0.out; have := OO4.out; have := OO5.out; have := OO6.out; omega
         ·have := O0.out; have := OO4.out; have := OO5.out; have := OO6.out; omega
        refine hK.out _ _ hH (fun hHeld => ?_)
        clear hK K hH FIN hHeld
        try simp only [Act.put, zA, zB, zC]
        refine wpAnyH_done (by kernel_rfl) ?_ _
        go_wp2_with fail
        go_meet
        case rel => exact ⟨gY, rfl, _, _, _, _, _, _, HR.out⟩
       have EK := textsIn_any 1 tf3 sf3 (It.kids f3) af3 lf3 cf3 q4 ((HKF.out.2.2.2).below hHeld.2.1) (Nat.le_trans (szI_kid (t := It.tag f3) (s := It.text f3) (ks := It.kids f3) (HSF.out f3 (by simp))).2.1 (by decide)) (fun y hy => Nat.le_trans ((szI_kid (t := It.tag f3) (s := It.text f3) (ks := It.kids f3) (HSF.out f3 (by simp))).2.2 y hy) (by decide))
       rw [HYV.out.2.2.2] at EK
       go_simp
       refine EK.mono ?_
       rintro e q7 ⟨up, rfl, hown, hb⟩
       obtain ⟨pe, ce, hup⟩ : ∃ ao cap, up = .slice ao tl.length cap := by obtain ⟨ao, cap, h, _⟩ := hown.at; exact ⟨ao, cap, h⟩
       obtain ⟨le, hpl⟩ := zE (tl.length)
       rw [hpl] at hup
       subst hup
       have hH := RP8.below hHeld hb
       have BE : Hid (∀ b, (Value.slice pe le ce).ownBlock = some b -> q4.heap.size <= b /\ b < q7.heap.size) := fun b hb => World.ownsRow.lt hown b hb
       have OO7 : Hid (q4.heap.size <= q7.heap.size) := hb.size
       have HOn : Hid (∃ fp, OwnS awKd q7 (gC + 1) (.slice pa k pc) ps fp /\ ∀ b ∈ fp, b < top) := by
        obtain ⟨fp, h, h2⟩ := HO.out
        exact ⟨fp, h.stays hb, h2⟩
       clear HO
       have HO := HOn
       clear HOn
       replace HPT := zH (HPT.out.stays hb)
       have HET : Hid (OwnT q7 top (.slice pe le ce) tl) := hown.base (by have := O0.out; have := OO4.out; omega)
       go_wp2_with fail
       refine hK.out _ _ hH (fun hHeld => ?_)
       clear hK K hH hb hown EK hpl
       try simp only [Act.put, zA, zB, zC]
       refine zT 8 124 ?_ rfl (by rfl) ?_ hHeld ?_
       rotate_left
       ·intro W hSw
        go_simp
        try with_reducible rfl
       try simp only [Act.put, zA, zB, zC]
       refine wpAnyH_ready (rs := [9]) (by kernel_rfl) (by simp) ?_
       refine AllReadyH.cons (o := ⟨some 14, _, _, _, _, _⟩) rfl (fun K hK => ?_) AllReadyH.nil
       obtain ⟨q8, hq8⟩ : ∃ V, V = q7.alloc (Obj.cells #[.int .i64 0, .int .i64 0, .slice none 0 0, .slice none 0 0] 84) := ⟨_, rfl⟩
       have hb : Below q7.heap.size q7 q8 := by rw [hq8]; exact (Below.refl _ _).alloc (Nat.le_refl _) _
       have HGY0 : Hid (Blk q8 q7.heap.size 84 #[.int .i64 0, .int .i64 0, .slice none 0 0, .slice none 0 0]) := by rw [hq8]; exact Blk.new _ _ _
       have hs1 : q8.heap.size = q7.heap.size + 1 := by rw [hq8]; exact size_alloc _ _
       have hH := RP8.below hHeld hb
       have HOn : Hid (∃ fp, OwnS awKd q8 (gC + 1) (.slice pa k pc) ps fp /\ ∀ b ∈ fp, b < top) := by
        obtain ⟨fp, h, h2⟩ := HO.out
        exact ⟨fp, h.stays hb, h2⟩
       clear HO
       have HO := HOn
       clear HOn
       replace HPT := zH (HPT.out.stays hb)
       replace HET := zH (HET.out.stays hb)
       go_simp
       rw [<- hq8]
       refine hK.out _ _ hH (fun hHeld => ?_)
       clear hK K hH hb hq8
       try simp only [Act.put, zA, zB, zC]
       obtain ⟨gY, hgY⟩ := zE (q7.heap.size)
       rw [hgY] at HGY0 |-
       have HGY := HGY0
       have OO8 : Hid (q7.heap.size = gY /\ q8.heap.size = gY + 1) := ⟨hgY, by rw [<- hgY]; exact hs1⟩
       clear hgY hs1 HGY0
       refine wpAnyH_ready (rs := [10]) (by kernel_rfl) (by simp) ?_
       refine AllReadyH.cons (o := ⟨none, _, _, _, _, _⟩) rfl (fun K hK => ?_) AllReadyH.nil
       have g0c : q8.cell? ⟨gY, 0, none⟩ = some (.int .i64 0) := HGY.out.cell 0
       have g1c : q8.cell? ⟨gY, 1, none⟩ = some (.int .i64 0) := HGY.out.cell 1
       have g2c : q8.cell? ⟨gY, 2, none⟩ = some (.slice none 0 0) := HGY.out.cell 2
       have g3c : q8.cell? ⟨gY, 3, none⟩ = some (.slice none 0 0) := HGY.out.cell 3
       have gf := fun j => HGY.out.free j
       go_simp
       generalize hV : World.setCell _ { block := gY, off := 3 } (Value.slice pe le ce) = V
       have FIN : Out [gY] q8 V /\ Blk V gY 84 #[.int .i64 0, .int .i64 0, .slice pp lp cp, .slice pe le ce] := by
        rw [<- hV]
        refine ⟨?_, ?_⟩
        ·iterate 4 refine Out.setCell ?_ _ _ (by simp)
         exact Out.refl _ _
        ·exact (((HGY.out.set 0 _).set 1 _).set 2 _).set 3 _
       clear hV gf g0c g1c g2c g3c
       have hgt : gC < gY := by have := O0.out; have := OO4.out; have := OO7.out; have := OO8.out; omega
       have hH : RP8 w w2 V gC #[.string iss, .int .i64 x1, .int .i64 x2, .int .i64 x3, .int .i64 x4, .int .i64 x5, .slice pa k pc, .string sgt] := hHeld.outZ FIN.1 hgt
       have HR : Hid (RY8 w w2 V gC gY top #[.string iss, .int .i64 x1, .int .i64 x2, .int .i64 x3, .int .i64 x4, .int .i64 x5, .slice pa k pc, .string sgt] #[.int .i64 0, .int .i64 0, .slice pp lp cp, .slice pe le ce] (.slice pa k pc) ps (.slice pp lp cp) (.slice pe le ce) tp tl) := by
        have np : ∀ b, (Value.slice pp lp cp).ownBlock = some b -> b ≠ gY := fun b hb => by have := BP.out b hb; have := O0.out; have := OO4.out; have := OO7.out; have := OO8.out; omega
        have ne : ∀ b, (Value.slice pe le ce).ownBlock = some b -> b ≠ gY := fun b hb => by have := BE.out b hb; have := O0.out; have := OO4.out; have := OO7.out; have := OO8.out; omega
        obtain ⟨fp, h1, h2⟩ := HO.out
        refine ⟨hH, ⟨fp, h1.out FIN.1 (fun b hb hq => by have := h2 b hb; rw [List.mem_singleton.1 hq] at this; have := O0.out; have := OO4.out; have := OO7.out; have := OO8.out; omega), h2⟩, FIN.2, FIN.1.row (fun b hb => by have := np b hb; simp; omega) HPT.out, FIN.1.row (fun b hb => by have := ne b hb; simp; omega) HET.out, ⟨⟨ap_of ?_, ap_of ?_⟩, np, ne⟩, ?_⟩
        ·intro b h1 h2; have := BP.out b h1; have := BE.out b h2; have := O0.out; have := OO4.out; have := OO7.out; have := OO8.out; omega
        ·intro b h1 h2; have := BE.out b h1; have := BP.out b h2; have := O0.out; have := OO4.out; have := OO7.out; have := OO8.out; omega
        ·have := O0.out; have := OO4.out; have := OO7.out; have := OO8.out; omega
       refine hK.out _ _ hH (fun hHeld => ?_)
       clear hK K hH FIN hHeld
       try simp only [Act.put, zA, zB, zC]
       refine wpAnyH_done (by kernel_rfl) ?_ _
       go_wp2_with fail
       go_meet
       case rel => exact ⟨gY, rfl, _, _, _, _, _, _, HR.out⟩
      case rest =>
       obtain ⟨gY, rfl, pp, lp, cp, pe, le, ce, hRC⟩ := hcut
       have HR : Hid (RY8 w w2 wc gC gY top #[.string iss, .int .i64 x1, .int .i64 x2, .int .i64 x3, .int .i64 x4, .int .i64 x5, .slice pa k pc, .string sgt] #[.int .i64 0, .int .i64 0, .slice pp lp cp, .slice pe le ce] (.slice pa k pc) ps (.slice pp lp cp) (.slice pe le ce) tp tl) := hRC
       clear hRC HO HRP
       have n0a : wc.cell? ⟨g7, o7, none⟩ = some (.int .i64 tf0) := (HR.out.1.2.1.cell (p := ⟨g7, o7, none⟩) HG7.out).trans HNN.out.1
       have n0b : wc.cell? ⟨g7, o7 + 1, none⟩ = some (.string sf0) := (HR.out.1.2.1.cell (p := ⟨g7, o7 + 1, none⟩) HG7.out).trans HNN.out.2.1
       have n0c : wc.cell? ⟨g7, o7 + 2, none⟩ = some (.slice af0 lf0 cf0) := (HR.out.1.2.1.cell (p := ⟨g7, o7 + 2, none⟩) HG7.out).trans HNN.out.2.2.1
       go_wp2_with fail
       clear n0a n0b n0c
       have EI := specIntIn_any 3 f0 (.agg #[.int .i64 tf0, .string sf0, .slice af0 lf0 cf0]) wc (ItAt.below HR.out.1.2.1 ⟨.slice af0 lf0 cf0, by rw [(HTF.out.1).1, (HTF.out.1).2], (HKF.out.1).at⟩) (Nat.le_trans (HSF.out f0 (by simp)) (by decide))
       rw [show (((inI 3 f0).getD 0 : Nat) : Int) = y0 from HYV.out.2.1.1] at EI
       generalize (inI 3 f0).isSome = okI at EI
       refine EI.mono ?_
       rintro e u0z ⟨rfl, hb⟩
       have HRn : Hid (RY8 w w2 u0z gC gY top #[.string iss, .int .i64 x1, .int .i64 x2, .int .i64 x3, .int .i64 x4, .int .i64 x5, .slice pa k pc, .string sgt] #[.int .i64 0, .int .i64 0, .slice pp lp cp, .slice pe le ce] (.slice pa k pc) ps (.slice pp lp cp) (.slice pe le ce) tp tl) := HR.out.below hb
       clear HR EI hb
       have HR := HRn
       clear HRn
       have cc : u0z.cell? ⟨gY, 0, none⟩ = some (.int .i64 0) := HR.out.2.2.1.cell 0
       have cfz := HR.out.2.2.1.free 0
       have HS : ∀ g, g < w2.heap.size -> g ≠ gY := fun g hg => by have := HR.out.1.2.2.2.2.1; have := HR.out.2.2.2.2.2.2; omega
       have n1a : (u0z.setCell ⟨gY, 0, none⟩ (.int .i64 y0)).cell? ⟨g7, o7 + 3, none⟩ = some (.int .i64 tf1) := (World.cell?_of_block (heap_setCell_other _ _ _ _ (by show g7 ≠ gY; exact HS _ HG7.out))).trans ((HR.out.1.2.1.cell (p := ⟨g7, o7 + 3, none⟩) HG7.out).trans HNN.out.2.2.2.1)
       have n1b : (u0z.setCell ⟨gY, 0, none⟩ (.int .i64 y0)).cell? ⟨g7, o7 + 4, none⟩ = some (.string sf1) := (World.cell?_of_block (heap_setCell_other _ _ _ _ (by show g7 ≠ gY; exact HS _ HG7.out))).trans ((HR.out.1.2.1.cell (p := ⟨g7, o7 + 4, none⟩) HG7.out).trans HNN.out.2.2.2.2.1)
       have n1c : (u0z.setCell ⟨gY, 0, none⟩ (.int .i64 y0)).cell? ⟨g7, o7 + 5, none⟩ = some (.slice af1 lf1 cf1) := (World.cell?_of_block (heap_setCell_other _ _ _ _ (by show g7 ≠ gY; exact HS _ HG7.out))).trans ((HR.out.1.2.1.cell (p := ⟨g7, o7 + 5, none⟩) HG7.out).trans HNN.out.2.2.2.2.2.1)
       clear HS
       go_wp2_with fail
       clear cc cfz n1a n1b n1c
       obtain ⟨V20, hV20⟩ : ∃ V, V = (u0z.setCell ⟨gY, 0, none⟩ (.int .i64 y0)) := ⟨_, rfl⟩
       rw [<- hV20]
       have HRn : Hid (RY8 w w2 V20 gC gY top #[.string iss, .int .i64 x1, .int .i64 x2, .int .i64 x3, .int .i64 x4, .int .i64 x5, .slice pa k pc, .string sgt] #[.int .i64 y0, .int .i64 0, .slice pp lp cp, .slice pe le ce] (.slice pa k pc) ps (.slice pp lp cp) (.slice pe le ce) tp tl) := by rw [hV20]; exact HR.out.set 0 _ rfl
       clear HR hV20
       have HR := HRn
       clear HRn
       have EI := specIntIn_any 3 f1 (.agg #[.int .i64 tf1, .string sf1, .slice af1 lf1 cf1]) V20 (ItAt.below HR.out.1.2.1 ⟨.slice af1 lf1 cf1, by rw [(HTF.out.2.1).1, (HTF.out.2.1).2], (HKF.out.2.1).at⟩) (Nat.le_trans (HSF.out f1 (by simp)) (by decide))
       rw [show (((inI 3 f1).getD 0 : Nat) : Int) = y1 from HYV.out.2.1.2] at EI
       generalize (inI 3 f1).isSome = okI at EI
       refine EI.mono ?_
       rintro e u1z ⟨rfl, hb⟩
       have HRn : Hid (RY8 w w2 u1z gC gY top #[.string iss, .int .i64 x1, .int .i64 x2, .int .i64 x3, .int .i64 x4, .int .i64 x5, .slice pa k pc, .string sgt] #[.int .i64 y0, .int .i64 0, .slice pp lp cp, .slice pe le ce] (.slice pa k pc) ps (.slice pp lp cp) (.slice pe le ce) tp tl) := HR.out.below hb
       clear HR EI hb
       have HR := HRn
       clear HRn
       have cc : u1z.cell? ⟨gY, 1, none⟩ = some (.int .i64 0) := HR.out.2.2.1.cell 1
       have cfz := HR.out.2.2.1.free 1
       go_upto_region 23 with fail
       clear cc cfz
       obtain ⟨V21, hV21⟩ : ∃ V, V = (u1z.setCell ⟨gY, 1, none⟩ (.int .i64 y1)) := ⟨_, rfl⟩
       rw [<- hV21]
       have HRn : Hid (RY8 w w2 V21 gC gY top #[.string iss, .int .i64 x1, .int .i64 x2, .int .i64 x3, .int .i64 x4, .int .i64 x5, .slice pa k pc, .string sgt] #[.int .i64 y0, .int .i64 y1, .slice pp lp cp, .slice pe le ce] (.slice pa k pc) ps (.slice pp lp cp) (.slice pe le ce) tp tl) := by rw [hV21]; exact HR.out.set 1 _ rfl
       clear HR hV21
       have HR := HRn
       clear HRn
       have r6 : V21.cell? ⟨gC, 6, none⟩ = some (.slice pa k pc) := HR.out.1.2.2.2.1.cell 6
       have s0c : V21.cell? ⟨gY, 0, none⟩ = some (.int .i64 y0) := HR.out.2.2.1.cell 0
       have s1c : V21.cell? ⟨gY, 1, none⟩ = some (.int .i64 y1) := HR.out.2.2.1.cell 1
       have s2c : V21.cell? ⟨gY, 2, none⟩ = some (.slice pp lp cp) := HR.out.2.2.1.cell 2
       have s3c : V21.cell? ⟨gY, 3, none⟩ = some (.slice pe le ce) := HR.out.2.2.1.cell 3
       have HAW : Hid (OwnAw V21 top (awV ⟨y0, y1, tp, tl⟩ (.slice pp lp cp) (.slice pe le ce)) ⟨y0, y1, tp, tl⟩) := ⟨_, _, rfl, HR.out.2.2.2.1, HR.out.2.2.2.2.1, HR.out.2.2.2.2.2.1.1⟩
       have HOD : Hid (∃ fp, OwnS awKd V21 (gC + 1) (.slice pa k pc) ps fp /\ ∀ z ∈ fpAw (awV ⟨y0, y1, tp, tl⟩ (.slice pp lp cp) (.slice pe le ce)), z ∉ fp) := by
        obtain ⟨fp, h1, h2⟩ := HR.out.2.1
        exact ⟨fp, h1, fun z hz hq => by have := (fpAw_lt HAW.out z hz).1; have := h2 z hq; omega⟩
       have HSZ9 : Hid (gC + 1 <= top /\ gC + 1 <= V21.heap.size /\ ps.length <= 100000000) := ⟨by have := HTP.out.2.1; omega, by have := HR.out.1.2.2.2.1.lt; omega, by have := HTP.out; have := HL6.out; omega⟩
       have hpk : ps.length = k := HTP.out.2.2.1
       have HPK : Hid (ps.length = k) := hpk
       clear hpk
       go_wp2_with (at_builtin; refine wpList_append_aw rfl _ _ rfl (gC + 1) (.slice pa k pc) ps ⟨y0, y1, tp, tl⟩ (.slice pp lp cp) (.slice pe le ce) rfl V21.heap.size rfl rfl HOD.out top HAW.out HSZ9.out.1 HSZ9.out.2.1 HSZ9.out.2.2 ?_)
       intro g9 cap9 w9 ho9 hb9
       have ho9x : OwnAS w9 (gC + 1) (.slice (some ⟨g9, 0, none⟩) (k + 1) cap9) (ps ++ [⟨y0, y1, tp, tl⟩]) := by
        first | (rw [HPK.out] at ho9; exact ho9) | (rw [List.length_append, HPK.out] at ho9; exact ho9)
       have e9 : ps.length + 1 = k + 1 := by rw [HPK.out]
       try rw [e9]
       have H9 : Hid (RP8 w w2 w9 gC #[.string iss, .int .i64 x1, .int .i64 x2, .int .i64 x3, .int .i64 x4, .int .i64 x5, .slice pa k pc, .string sgt] /\ OwnAS w9 (gC + 1) (.slice (some ⟨g9, 0, none⟩) (k + 1) cap9) (ps ++ [⟨y0, y1, tp, tl⟩])) := ⟨HR.out.1.low hb9, ho9x⟩
       clear ho9 ho9x e9 hb9 r6 s0c s1c s2c s3c HAW HOD HR HSZ9
       have r6 : w9.cell? ⟨gC, 6, none⟩ = some (.slice pa k pc) := H9.out.1.2.2.2.1.cell 6
       have rfz := H9.out.1.2.2.2.1.free 6
       have FIN : Hid (∃ (ps : List Aw) (pa : Option Addr) (pc : Nat), RP8 w w2 (w9.setCell ⟨gC, 6, none⟩ (.slice (some ⟨g9, 0, none⟩) (k + 1) cap9)) gC #[.string iss, .int .i64 x1, .int .i64 x2, .int .i64 x3, .int .i64 x4, .int .i64 x5, .slice pa (k + 1) pc, .string sgt] /\ OwnAS (w9.setCell ⟨gC, 6, none⟩ (.slice (some ⟨g9, 0, none⟩) (k + 1) cap9)) (gC + 1) (.slice pa (k + 1) pc) ps /\ gC + 1 <= (w9.setCell ⟨gC, 6, none⟩ (.slice (some ⟨g9, 0, none⟩) (k + 1) cap9)).heap.size /\ ps.length = k + 1 /\ (∀ j (h1 : j < (It.kids k6).length) (h2 : j < ps.length), ansS (It.kids k6)[j] = some ps[j])) := by
        have ho : Out [gC] w9 (w9.setCell ⟨gC, 6, none⟩ (.slice (some ⟨g9, 0, none⟩) (k + 1) cap9)) := out_set _ _ _
        refine ⟨ps ++ [⟨y0, y1, tp, tl⟩], some ⟨g9, 0, none⟩, cap9, H9.out.1.set 6 _ rfl, H9.out.2.outX ho (fun z hz => by rw [List.mem_singleton.1 hz]; omega), by have := H9.out.1.2.2.2.1.lt; have := ho.size; omega, by rw [List.length_append, HPK.out]; rfl, fun j h1 h2 => ?_⟩
        rw [List.length_append, HPK.out] at h2
        by_cases hjk : j < k
        ·rw [List.getElem_append_left (by rw [HPK.out]; exact hjk)]
         exact HTP.out.2.2.2.2 j h1 (by rw [HPK.out]; exact hjk)
        ·have hjk2 : j = k := by simp at h2; omega
         subst hjk2
         obtain ⟨hj', hyk'⟩ := HYK.out
         rw [List.getElem_append_right (by rw [HPK.out]; exact Nat.le_refl _), hyk', HYV.out.1]
         simp [HPK.out]
       have hkb : (k : Int) < 4000 := by have := HTP.out.2.2.2.1; have := HL6.out; omega
       have HKL : Hid (k < l6) := HTP.out.2.2.2.1
       clear H9 HPK HTP HYK HYV
       go_wp2_with fail
       exact ⟨⟨k + 1, by have := HKL.out; omega, by go_num, FIN⟩, by have := HKL.out; simp [intOf]; omega⟩
end Go.Proofs.Ytbiiihjohbnodaa
namespace Go.Proofs.Ytbiiihjohbnodaa
open Go.RowKit
set_option linter.unusedVariables false
set_option linter.unusedSimpArgs false
theorem eqAnswer_same (c : Aw) (a b : Value) (w : World) (hl : c.path.length <= 1000000000 /\ c.lst.length <= 1000000000) (ha : AwAt w a c) (hb : AwAt w b c) :
  Calls Try.prog 77 #[a, b] w fun e w' => e = .returned (.bool true) /\ Below w.heap.size w w' := by
 obtain ⟨pv, ev, rfl, h1, h2⟩ := ha
 obtain ⟨pu, eu, rfl, k1, k2⟩ := hb
 have HQ : Hid (∀ W, Below w.heap.size w W -> Calls Try.prog 46 #[pv, pu] W (fun e w' => e = .returned (.bool true) /\ Below W.heap.size W w')) := fun W hb => eqT_same pv pu c.path W hl.1 (h1.below hb) (k1.below hb)
 have HQ2 : Hid (∀ W, Below w.heap.size w W -> Calls Try.prog 46 #[ev, eu] W (fun e w' => e = .returned (.bool true) /\ Below W.heap.size W w')) := fun W hb => eqT_same ev eu c.lst W hl.2 (h2.below hb) (k2.below hb)
 obtain ⟨lp, hlp⟩ := zE (c.path.length)
 obtain ⟨le, hle⟩ := zE (c.lst.length)
 obtain ⟨pa, pc, hpa, _⟩ := h1
 obtain ⟨pb, qc, hpb, _⟩ := k1
 obtain ⟨ea, ec, hea, _⟩ := h2
 obtain ⟨eb, fc, heb, _⟩ := k2
 rw [hlp] at hpa hpb
 rw [hle] at hea heb
 subst hpa hpb hea heb
 clear hlp hle hl
 unfold awV
 go_enter Try.func77, Try.ntmps77
 go_wp2_with fail
 obtain ⟨V1, hV⟩ : ∃ V, V = (w.alloc (Obj.cells #[.int .i64 c.status, .int .i64 c.why, .slice pa lp pc, .slice ea le ec] 84)).alloc (Obj.cells #[.int .i64 c.status, .int .i64 c.why, .slice pb lp qc, .slice eb le fc] 84) := ⟨_, rfl⟩
 rw [<- hV]
 have G1 : Hid (Blk V1 w.heap.size 84 #[.int .i64 c.status, .int .i64 c.why, .slice pa lp pc, .slice ea le ec] /\ Blk V1 (w.heap.size + 1) 84 #[.int .i64 c.status, .int .i64 c.why, .slice pb lp qc, .slice eb le fc] /\ Below w.heap.size w V1 /\ w.heap.size + 1 < V1.heap.size) := by
  have e0 : (w.alloc (Obj.cells #[.int .i64 c.status, .int .i64 c.why, .slice pa lp pc, .slice ea le ec] 84)).heap.size = w.heap.size + 1 := Array.size_push _
  have h := Blk.new (w.alloc (Obj.cells #[.int .i64 c.status, .int .i64 c.why, .slice pa lp pc, .slice ea le ec] 84)) 84 #[.int .i64 c.status, .int .i64 c.why, .slice pb lp qc, .slice eb le fc]
  rw [e0] at h
  rw [hV]
  exact ⟨(Blk.new w _ _).alloc _, h, ((Below.refl _ _).alloc (Nat.le_refl _) _).alloc (by rw [e0]; omega) _, by rw [size_alloc, e0]; omega⟩
 clear hV
 refine (HQ.out V1 G1.out.2.2.1).mono ?_
 rintro e V2 ⟨rfl, hb⟩
 have G2 : Hid (Blk V2 w.heap.size 84 #[.int .i64 c.status, .int .i64 c.why, .slice pa lp pc, .slice ea le ec] /\ Blk V2 (w.heap.size + 1) 84 #[.int .i64 c.status, .int .i64 c.why, .slice pb lp qc, .slice eb le fc] /\ Below w.heap.size w V2 /\ w.heap.size + 1 < V2.heap.size) := ⟨G1.out.1.below hb (by have := G1.out.2.2.2; omega), G1.out.2.1.below hb G1.out.2.2.2, G1.out.2.2.1.trans (hb.mono G1.out.2.2.1.size), Nat.lt_of_lt_of_le G1.out.2.2.2 hb.size⟩
 clear hb G1
 have ca3 : V2.cell? ⟨w.heap.size, 3, none⟩ = some (.slice ea le ec) := G2.out.1.cell 3
 have cb3 : V2.cell? ⟨w.heap.size + 1, 3, none⟩ = some (.slice eb le fc) := G2.out.2.1.cell 3
 go_wp2_with fail
 clear ca3 cb3
 refine (HQ2.out V2 G2.out.2.2.1).mono ?_
 rintro e V3 ⟨rfl, hb⟩
 have G3 : Hid (Below w.heap.size w V3) := G2.out.2.2.1.trans (hb.mono G2.out.2.2.1.size)
 clear hb G2
 go_wp2_with fail
 go_ret
 exact ⟨rfl, G3.out⟩
theorem eqAnswerS_same (l : List Aw) (a b : Value) (w : World) (hl : wtAS l <= 1000000000) (ha : AtS awKd w a l) (hb : AtS awKd w b l) :
  Calls Try.prog 39 #[a, b] w fun e w' => e = .returned (.bool true) /\ Below w.heap.size w w' := by
 obtain ⟨ax, cx, hv⟩ := ha.shape
 obtain ⟨ay, cy, hu⟩ := hb.shape
 obtain ⟨len, hlen⟩ := zE (l.length)
 rw [hlen] at hv hu
 subst hv hu
 have hl20 : len <= 1000000000 := by unfold wtAS at hl; omega
 have HX : Hid (AtS awKd w (.slice ax len cx) l /\ AtS awKd w (.slice ay len cy) l /\ l.length = len /\ wtAS l <= 1000000000) := ⟨ha, hb, hlen, hl⟩
 clear ha hb hlen hl
 go_enter Try.func39, Try.ntmps39
 go_wp2_with fail
 go_loopw [5] (fun iv wr => ∃ k : Nat, k <= len /\ iv = .int .i64 k /\ Hid (Below w.heap.size w wr)) (fun iv _ => len - (intOf iv).toNat)
 case atStart => exact ⟨0, Nat.zero_le _, rfl, Below.refl _ _⟩
 case round =>
  obtain ⟨k, hk, rfl, HB⟩ := hrel
  by_cases hkn : k < len
  ·have hkl : k < l.length := by rw [HX.out.2.2.1]; exact hkn
   obtain ⟨g1, o1, u1, hax, hg1, hP1, hs1, hc1⟩ := HX.out.1.get hkl
   obtain ⟨g2, o2, u2, hay, hg2, hP2, hs2, hc2⟩ := HX.out.2.1.get hkl
   subst hax hay
   obtain ⟨c, hc⟩ := zE (l[k])
   have hBd : Below w.heap.size w wr.drew := HB.out.drew
   have hrl : c.path.length <= 1000000000 /\ c.lst.length <= 1000000000 := by
    have h1 := wtAS_mem (List.getElem_mem hkl)
    rw [hc] at h1
    exact wtAw_lens (Nat.le_trans h1 HX.out.2.2.2)
   have HR := eqAnswer_same c u1 u2 wr.drew hrl (by rw [<- hc]; exact AwAt.below hP1 hBd) (by rw [<- hc]; exact AwAt.below hP2 hBd)
   obtain ⟨p1, q1, e1, r1, hu1⟩ := AwAt.shape hP1
   obtain ⟨p2, q2, e2, r2, hu2⟩ := AwAt.shape hP2
   rw [hc] at hu1 hu2
   subst hu1 hu2
   have hf1 : ∀ (W : World) (i : Nat) (x : Value), Below w.heap.size w W -> (awV c (.slice p1 c.path.length q1) (.slice e1 c.lst.length r1)).cells[i]? = some x -> W.cell? ⟨g1, o1 + k * 4 + i, none⟩ = some x := fun W i x hW hx => (hW.cell (p := ⟨g1, o1 + k * 4 + i, none⟩) hg1).trans (hc1 i x hx)
   have hf2 : ∀ (W : World) (i : Nat) (x : Value), Below w.heap.size w W -> (awV c (.slice p2 c.path.length q2) (.slice e2 c.lst.length r2)).cells[i]? = some x -> W.cell? ⟨g2, o2 + k * 4 + i, none⟩ = some x := fun W i x hW hx => (hW.cell (p := ⟨g2, o2 + k * 4 + i, none⟩) hg2).trans (hc2 i x hx)
   have HS : Hid (∀ W, Below w.heap.size w W -> (W.cell? ⟨g1, o1 + k * 4, none⟩ = some (.int .i64 c.status) /\ W.cell? ⟨g1, o1 + k * 4 + 1, none⟩ = some (.int .i64 c.why) /\ W.cell? ⟨g1, o1 + k * 4 + 2, none⟩ = some (.slice p1 c.path.length q1) /\ W.cell? ⟨g1, o1 + k * 4 + 3, none⟩ = some (.slice e1 c.lst.length r1)) /\ (W.cell? ⟨g2, o2 + k * 4, none⟩ = some (.int .i64 c.status) /\ W.cell? ⟨g2, o2 + k * 4 + 1, none⟩ = some (.int .i64 c.why) /\ W.cell? ⟨g2, o2 + k * 4 + 2, none⟩ = some (.slice p2 c.path.length q2) /\ W.cell? ⟨g2, o2 + k * 4 + 3, none⟩ = some (.slice e2 c.lst.length r2))) := fun W hW =>
    ⟨⟨hf1 W 0 _ hW rfl, hf1 W 1 _ hW rfl, hf1 W 2 _ hW rfl, hf1 W 3 _ hW rfl⟩, hf2 W 0 _ hW rfl, hf2 W 1 _ hW rfl, hf2 W 2 _ hW rfl, hf2 W 3 _ hW rfl⟩
   have hki : (k : Int) < (len : Int) := by omega
   have hk0 : (0 : Int) <= (k : Int) := by omega
   unfold awV at HR
   clear hf1 hf2 hc1 hc2 hP1 hP2 hs1 hs2 hg1 hg2 hc hkl
   go_upto_region 6 with fail
   refine wp_region_held_drew (S := fun W => Below w.heap.size w W) (by kernel_rfl) hBd (fun hHeld => ?_)
   clear hBd
   have HBW : Hid (Below w.heap.size w wr.drew) := hHeld
   refine zT 0 17 ?_ rfl (by rfl) ?_ hHeld ?_
   rotate_left
   ·intro W hSw
    go_simp
    try with_reducible rfl
   try simp only [Act.put, zA, zB, zC]
   refine zT 1 18 ?_ rfl (by rfl) ?_ hHeld ?_
   rotate_left
   ·intro W hSw
    go_simp
    try with_reducible rfl
   try simp only [Act.put, zA, zB, zC]
   refine zT 2 19 ?_ rfl (by rfl) ?_ hHeld ?_
   rotate_left
   ·intro W hSw
    go_simp
    try with_reducible rfl
   try simp only [Act.put, zA, zB, zC]
   refine zT 3 20 ?_ rfl (by rfl) ?_ hHeld ?_
   rotate_left
   ·intro W hSw
    obtain ⟨⟨e0, e1, e2, e3⟩, -⟩ := HS.out W hSw
    go_simp
    try with_reducible rfl
   try simp only [Act.put, zA, zB, zC]
   refine zT 4 21 ?_ rfl (by rfl) ?_ hHeld ?_
   rotate_left
   ·intro W hSw
    go_simp
    try with_reducible rfl
   try simp only [Act.put, zA, zB, zC]
   refine zT 5 22 ?_ rfl (by rfl) ?_ hHeld ?_
   rotate_left
   ·intro W hSw
    go_simp
    try with_reducible rfl
   try simp only [Act.put, zA, zB, zC]
   refine zT 6 23 ?_ rfl (by rfl) ?_ hHeld ?_
   rotate_left
   ·intro W hSw
    go_simp
    try with_reducible rfl
   try simp only [Act.put, zA, zB, zC]
   refine zT 7 24 ?_ rfl (by rfl) ?_ hHeld ?_
   rotate_left
   ·intro W hSw
    obtain ⟨-, e0, e1, e2, e3⟩ := HS.out W hSw
    go_simp
    try with_reducible rfl
   try simp only [Act.put, zA, zB, zC]
   refine wpAnyH_ready (rs := [8]) (by kernel_rfl) (by simp) ?_
   refine AllReadyH.cons (o := ⟨some 25, _, _, _, _, _⟩) rfl (fun K hK => ?_) AllReadyH.nil
   go_simp
   refine HR.mono ?_
   rintro e w3 ⟨rfl, hb3⟩
   have HB3 : Hid (Below w.heap.size w w3) := HBW.out.trans (hb3.mono HBW.out.size)
   clear hb3 HR HBW
   refine hK.out _ _ HB3.out (fun hHeld => ?_)
   clear hK K
   try simp only [Act.put, zA, zB, zC]
   refine zT 9 26 ?_ rfl (by rfl) ?_ hHeld ?_
   rotate_left
   ·intro W hSw
    go_simp
    try with_reducible rfl
   try simp only [Act.put, zA, zB, zC]
   refine wpAnyH_done (by kernel_rfl) ?_ _
   clear HS
   go_wp2_with fail
   go_roundw
   case rel => exact ⟨k + 1, by omega, by go_num, HB3.out⟩
   case measure => simp [intOf]; omega
  ·have hkl : k = len := by omega
   subst hkl
   go_wp2
   go_ret
   exact ⟨rfl, HB.out⟩
end Go.Proofs.Ytbiiihjohbnodaa
