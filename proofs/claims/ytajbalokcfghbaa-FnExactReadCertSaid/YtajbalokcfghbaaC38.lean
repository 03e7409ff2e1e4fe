/-
  Texts of the proof, one behind the other: CsE.
-/
import Derived.Deep.Cut
import Derived.Deep.DeepCutAuto
import Derived.Test.YtajbalokcfghbaaC22
import Derived.Test.YtajbalokcfghbaaC29
import Derived.Test.YtajbalokcfghbaaC32
import Derived.Test.YtajbalokcfghbaaC33
import Derived.Test.YtajbalokcfghbaaC37

/-
  The specification's ReadCert: the letter that bytes are, or none.
-/
namespace Go.Proofs.Ytajbalokcfghbaa
open Go.RowKit Der
set_option linter.unusedVariables false
set_option linter.unusedSimpArgs false

/-- Where ReadCert stands when the letter is laid but for its numbers. -/
def RC8 (w w2 W : World) (g : Nat) (cells : Array Value) (p e d : Value) (pol : List Int) (per den : List ByteArray) : Prop :=
  Below w.heap.size w W ∧ Below w2.heap.size w2 W ∧ Blk W w.heap.size 29 #[.int .i64 0, .string ⟨#[]⟩, .string ⟨#[]⟩, .int .i64 0, .int .i64 0, .string ⟨#[]⟩, .bool false, .int .i64 0, .int .i64 0, .slice none 0 0, .slice none 0 0, .slice none 0 0, .string ⟨#[]⟩] ∧ Blk W g 29 cells ∧ (OwnI W w2.heap.size p pol ∧ OwnT W w2.heap.size e per ∧ OwnT W w2.heap.size d den) ∧ ((Ap p e ∧ Ap e p) ∧ (Ap p d ∧ Ap d p) ∧ (Ap e d ∧ Ap d e)) ∧ (∀ b, p.ownBlock = some b ∨ e.ownBlock = some b ∨ d.ownBlock = some b → b ≠ g) ∧ (w2.heap.size ≤ g ∧ w.heap.size < w2.heap.size)
theorem RC8.below {w w2 W W' : World} {g : Nat} {cells : Array Value} {p e d : Value} {pol : List Int} {per den : List ByteArray} (h : RC8 w w2 W g cells p e d pol per den) (hb : Below W.heap.size W W') : RC8 w w2 W' g cells p e d pol per den :=
  ⟨h.1.trans (hb.mono h.1.size), h.2.1.trans (hb.mono h.2.1.size), h.2.2.1.on hb, h.2.2.2.1.on hb, ⟨h.2.2.2.2.1.1.stays hb, h.2.2.2.2.1.2.1.stays hb, h.2.2.2.2.1.2.2.stays hb⟩, h.2.2.2.2.2⟩
theorem RC8.set {w w2 W : World} {g : Nat} {cells cells' : Array Value} {p e d : Value} {pol : List Int} {per den : List ByteArray} (h : RC8 w w2 W g cells p e d pol per den) (j : Nat) (v : Value) (hc : cells.setIfInBounds j v = cells') : RC8 w w2 (W.setCell ⟨g, j, none⟩ v) g cells' p e d pol per den := by
  obtain ⟨h1, h2, h3, h4, ⟨h5, h6, h7⟩, h8, h9, h10⟩ := h
  have ho : Out [g] W (W.setCell ⟨g, j, none⟩ v) := out_set _ _ _
  refine ⟨below_out h1 ho (by omega), below_out h2 ho h10.1, h3.outX ho (by simp; omega), by rw [← hc]; exact h4.set j v, ⟨ho.row (fun b hb => by have := h9 b (.inl hb); simp; omega) h5, ho.row (fun b hb => by have := h9 b (.inr (.inl hb)); simp; omega) h6, ho.row (fun b hb => by have := h9 b (.inr (.inr hb)); simp; omega) h7⟩, h8, h9, h10⟩
theorem spec_none {m : Nat} {x : It (m + 4)} (h : ¬ (It.tag x = 48 ∧ (It.kids x).length = 2)) : specP x = none := by
  unfold specP
  split
  · next b sg hk =>
    split
    · split
      · rw [if_neg (fun q => h ⟨q.1, by rw [hk]; rfl⟩)]
      · rfl
    · rfl
  · rfl
theorem spec_none2 {m : Nat} {x : It (m + 4)} {b sg : It (m + 3)} (hx : It.kids x = [b, sg]) (h : ¬ (It.tag b = 48 ∧ (It.kids b).length = 11)) : specP x = none := by
  unfold specP
  rw [hx]
  dsimp only
  split
  · next hk =>
    split
    · rw [if_neg (fun q => h ⟨q.2, by rw [hk]; rfl⟩)]
    · rfl
  · rfl
theorem spec_none3 {m : Nat} {x : It (m + 4)} {b sg : It (m + 3)} {k0 k1 k2 k3 k4 k5 k6 k7 k8 k9 k10 : It (m + 2)} (hx : It.kids x = [b, sg]) (hb : It.kids b = [k0, k1, k2, k3, k4, k5, k6, k7, k8, k9, k10]) (h : ¬ (It.kids k2).length = 2) : specP x = none := by
  unfold specP
  rw [hx]
  dsimp only
  rw [hb]
  dsimp only
  split
  · next hk => exact absurd (by rw [hk]; rfl) h
  · rfl
theorem spec_some {m : Nat} {x : It (m + 4)} {b sg : It (m + 3)} {k0 k1 k2 k3 k4 k5 k6 k7 k8 k9 k10 : It (m + 2)} {f u : It (m + 1)} (hx : It.kids x = [b, sg]) (hb : It.kids b = [k0, k1, k2, k3, k4, k5, k6, k7, k8, k9, k10]) (hk : It.kids k2 = [f, u]) (h1 : It.tag x = 48) (h2 : It.tag b = 48) : specP x = some ⟨numI k0, baL (It.text k1), baL (It.text k3), numI f, numI u, baL (It.text k4), decide (It.text k5 = [255]), numI k6, numI k7, (It.kids k8).map numI, (It.kids k9).map fun y => baL (It.text y), (It.kids k10).map fun y => baL (It.text y), baL (It.text sg)⟩ := by
  unfold specP
  rw [hx]
  dsimp only
  rw [hb]
  dsimp only
  rw [hk]
  dsimp only
  rw [if_pos ⟨h1, h2⟩]
theorem numI_in {k : Nat} (y : It (k + 1)) : 0 ≤ numI y ∧ numI y ≤ 1000000000 := by
  unfold numI
  cases h : inI (k + 1) y with
  | none => exact ⟨by decide, by decide⟩
  | some v =>
    have := (in_some h).2.2.2
    show (0 : Int) ≤ ((v : Nat) : Int) ∧ ((v : Nat) : Int) ≤ 1000000000
    omega
theorem tot_map {k : Nat} : ∀ ks : List (It (k + 1)), totT (ks.map fun y => baL (It.text y)) ≤ ks.length + (ks.map (szI (k + 1))).sum
  | [] => Nat.le_refl _
  | y :: r => by
    have ih := tot_map r
    have h := itxt_le y
    simp only [totT, List.map_cons, List.sum_cons, List.length_cons]
    omega
/-- The letter that is told is not great. -/
theorem wt_spec {m : Nat} {x : It (m + 4)} {b sg : It (m + 3)} {k0 k1 k2 k3 k4 k5 k6 k7 k8 k9 k10 : It (m + 2)} {f u : It (m + 1)} (hx : It.kids x = [b, sg]) (hb : It.kids b = [k0, k1, k2, k3, k4, k5, k6, k7, k8, k9, k10]) (hz : szI (m + 4) x ≤ 4000) (c : Ct) (hc : c = ⟨numI k0, baL (It.text k1), baL (It.text k3), numI f, numI u, baL (It.text k4), decide (It.text k5 = [255]), numI k6, numI k7, (It.kids k8).map numI, (It.kids k9).map fun y => baL (It.text y), (It.kids k10).map fun y => baL (It.text y), baL (It.text sg)⟩) : wtC c ≤ 1048576 ∧ WdC c := by
  have z0 : szI (m + 4) x = (It.text x).length + (It.kids x).length + ((It.kids x).map (szI (m + 3))).sum := sz_item x
  rw [hx] at z0
  simp only [List.map_cons, List.map_nil, List.sum_cons, List.sum_nil, List.length_cons, List.length_nil] at z0
  have z1 : szI (m + 3) b = (It.text b).length + (It.kids b).length + ((It.kids b).map (szI (m + 2))).sum := sz_item b
  rw [hb] at z1
  simp only [List.map_cons, List.map_nil, List.sum_cons, List.sum_nil, List.length_cons, List.length_nil] at z1
  have t1 : (baL (It.text k1)).size ≤ szI (m + 2) k1 := itxt_le k1
  have t3 : (baL (It.text k3)).size ≤ szI (m + 2) k3 := itxt_le k3
  have t4 : (baL (It.text k4)).size ≤ szI (m + 2) k4 := itxt_le k4
  have ts : (baL (It.text sg)).size ≤ szI (m + 3) sg := itxt_le sg
  have t9 : totT ((It.kids k9).map fun y => baL (It.text y)) ≤ (It.kids k9).length + ((It.kids k9).map (szI (m + 1))).sum := tot_map _
  have t10 : totT ((It.kids k10).map fun y => baL (It.text y)) ≤ (It.kids k10).length + ((It.kids k10).map (szI (m + 1))).sum := tot_map _
  have s8 : szI (m + 2) k8 = (It.text k8).length + (It.kids k8).length + ((It.kids k8).map (szI (m + 1))).sum := sz_item k8
  have s9 : szI (m + 2) k9 = (It.text k9).length + (It.kids k9).length + ((It.kids k9).map (szI (m + 1))).sum := sz_item k9
  have s10 : szI (m + 2) k10 = (It.text k10).length + (It.kids k10).length + ((It.kids k10).map (szI (m + 1))).sum := sz_item k10
  have hw : wtC c ≤ 1048576 := by
    subst hc
    unfold wtC
    show (baL (It.text k1)).size + (baL (It.text k3)).size + (baL (It.text k4)).size + ((It.kids k8).map numI).length + totT ((It.kids k9).map fun y => baL (It.text y)) + totT ((It.kids k10).map fun y => baL (It.text y)) + (baL (It.text sg)).size ≤ 1048576
    rw [List.length_map]
    omega
  obtain ⟨q1, q2, q3, q4, q5, q6, q7, q8, q9⟩ := wt_parts hw
  refine ⟨hw, fun y hy => ?_, fun y hy => ?_, fun s hs => ?_, fun s hs => ?_, fun s hs => ?_, by omega, by omega, by omega⟩
  · subst hc
    simp only [List.mem_cons, List.not_mem_nil, or_false] at hy
    have b0 := numI_in k0
    have bf := numI_in f
    have bu := numI_in u
    have b6 := numI_in k6
    have b7 := numI_in k7
    rcases hy with rfl | rfl | rfl | rfl | rfl <;> omega
  · subst hc
    obtain ⟨z, _, rfl⟩ := List.mem_map.1 hy
    have := numI_in z
    omega
  · simp only [List.mem_cons, List.not_mem_nil, or_false] at hs
    rcases hs with rfl | rfl | rfl | rfl <;> omega
  · have := q8 s hs; omega
  · have := q9 s hs; omega
theorem apart_of {u v : Value} {p q : Nat} (hu : ∀ b, u.ownBlock = some b → b < p) (hv : ∀ b, v.ownBlock = some b → q ≤ b) (h : p ≤ q) : Ap u v ∧ Ap v u := by
  have r := fun (u v : Value) (h : ∀ b, u.ownBlock = some b → v.ownBlock = some b → False) => (show Ap u v from (by
    unfold Ap
    cases hu : u.ownBlock with
    | none => exact .inl rfl
    | some b => exact .inr (fun e => h b hu e.symm)))
  exact ⟨r _ _ fun b h1 h2 => by have := hu b h1; have := hv b h2; omega, r _ _ fun b h1 h2 => by have := hv b h1; have := hu b h2; omega⟩
set_option maxHeartbeats 25600000 in
set_option maxRecDepth 100000 in
theorem specReadCert_any (T : ByteArray) (w : World) (hT : T.size ≤ 1000000000000) :
    Calls Try.prog 15 #[.string T] w fun e W' => RcPost w ((readI T.data.toList).bind (readS (m := 3) T.data.toList)) e W' := by
  obtain ⟨oR, hoR⟩ : ∃ r, (readI T.data.toList).bind (readS (m := 3) T.data.toList) = r := ⟨_, rfl⟩
  have HP : Hid ((readI T.data.toList).bind (readS (m := 3) T.data.toList) = oR) := hoR
  rw [hoR]
  clear hoR
  obtain ⟨W1, hW1⟩ : ∃ V, V = w.alloc (Obj.cells #[.int .i64 0, .string ⟨#[]⟩, .string ⟨#[]⟩, .int .i64 0, .int .i64 0, .string ⟨#[]⟩, .bool false, .int .i64 0, .int .i64 0, .slice none 0 0, .slice none 0 0, .slice none 0 0, .string ⟨#[]⟩] 29) := ⟨_, rfl⟩
  have E1 := specRead_any T W1 hT
  have H1 : Hid (Below w.heap.size w W1 ∧ Blk W1 w.heap.size 29 #[.int .i64 0, .string ⟨#[]⟩, .string ⟨#[]⟩, .int .i64 0, .int .i64 0, .string ⟨#[]⟩, .bool false, .int .i64 0, .int .i64 0, .slice none 0 0, .slice none 0 0, .slice none 0 0, .string ⟨#[]⟩] ∧ W1.heap.size = w.heap.size + 1) := by rw [hW1]; exact ⟨(Below.refl _ _).alloc (Nat.le_refl _) _, Blk.new _ _ _, size_alloc _ _⟩
  go_enter Try.func15, Try.ntmps15
  go_wp2_with fail
  rw [← hW1]
  clear hW1
  refine E1.mono ?_
  rintro e w2 ⟨hb2, ⟨hn, rfl⟩ | ⟨x, t, s, ax, l, cx, fp, hx, rfl, hsz, ht, hs, hown⟩⟩
  · obtain ⟨W3, hW3⟩ : ∃ V, V = w2.alloc (Obj.cells #[.int .i64 0, .string ⟨#[]⟩, .slice none 0 0] 60) := ⟨_, rfl⟩
    have hb3 : Below w2.heap.size w2 W3 := by rw [hW3]; exact (Below.refl _ _).alloc (Nat.le_refl _) _
    have H3 : Hid (Below w.heap.size w W3 ∧ Blk W3 w.heap.size 29 #[.int .i64 0, .string ⟨#[]⟩, .string ⟨#[]⟩, .int .i64 0, .int .i64 0, .string ⟨#[]⟩, .bool false, .int .i64 0, .int .i64 0, .slice none 0 0, .slice none 0 0, .slice none 0 0, .string ⟨#[]⟩]) := ⟨(H1.out.1.trans (hb2.mono H1.out.1.size)).trans (hb3.mono (Nat.le_trans H1.out.1.size hb2.size)), (H1.out.2.1.on hb2).on hb3⟩
    have HNO : Hid (readI T.data.toList = none) := hn
    clear hb3 hb2 H1 E1 hn
    go_wp2_with fail
    rw [← hW3]
    clear hW3
    have E4 := l09Kids_any 0 ⟨#[]⟩ none 0 0 2 W3
    generalize decide ((0 : Int) = 48 ∧ ((0 : Nat) : Int) = 2) = B4 at E4
    refine E4.mono ?_
    rintro e w4 ⟨rfl, hb4⟩
    have H4 : Hid (Below w.heap.size w w4 ∧ Blk w4 w.heap.size 29 #[.int .i64 0, .string ⟨#[]⟩, .string ⟨#[]⟩, .int .i64 0, .int .i64 0, .string ⟨#[]⟩, .bool false, .int .i64 0, .int .i64 0, .slice none 0 0, .slice none 0 0, .slice none 0 0, .string ⟨#[]⟩]) := ⟨H3.out.1.trans (hb4.mono H3.out.1.size), H3.out.2.on hb4⟩
    clear E4 hb4 H3
    have r0 : w4.cell? ⟨w.heap.size, 0, none⟩ = some (.int .i64 0) := H4.out.2.cell 0
    have r1 : w4.cell? ⟨w.heap.size, 1, none⟩ = some (.string ⟨#[]⟩) := H4.out.2.cell 1
    have r2 : w4.cell? ⟨w.heap.size, 2, none⟩ = some (.string ⟨#[]⟩) := H4.out.2.cell 2
    have r3 : w4.cell? ⟨w.heap.size, 3, none⟩ = some (.int .i64 0) := H4.out.2.cell 3
    have r4 : w4.cell? ⟨w.heap.size, 4, none⟩ = some (.int .i64 0) := H4.out.2.cell 4
    have r5 : w4.cell? ⟨w.heap.size, 5, none⟩ = some (.string ⟨#[]⟩) := H4.out.2.cell 5
    have r6 : w4.cell? ⟨w.heap.size, 6, none⟩ = some (.bool false) := H4.out.2.cell 6
    have r7 : w4.cell? ⟨w.heap.size, 7, none⟩ = some (.int .i64 0) := H4.out.2.cell 7
    have r8 : w4.cell? ⟨w.heap.size, 8, none⟩ = some (.int .i64 0) := H4.out.2.cell 8
    have r9 : w4.cell? ⟨w.heap.size, 9, none⟩ = some (.slice none 0 0) := H4.out.2.cell 9
    have r10 : w4.cell? ⟨w.heap.size, 10, none⟩ = some (.slice none 0 0) := H4.out.2.cell 10
    have r11 : w4.cell? ⟨w.heap.size, 11, none⟩ = some (.slice none 0 0) := H4.out.2.cell 11
    have r12 : w4.cell? ⟨w.heap.size, 12, none⟩ = some (.string ⟨#[]⟩) := H4.out.2.cell 12
    have rf := fun j => H4.out.2.free j
    have HN : Hid (oR = none) := by
      show oR = none
      rw [← HP.out]
      rw [HNO.out]; rfl
    go_wp2_with fail
    refine bodyPost_ret (v := .tuple #[.agg #[.int .i64 0, .string ⟨#[]⟩, .string ⟨#[]⟩, .int .i64 0, .int .i64 0, .string ⟨#[]⟩, .bool false, .int .i64 0, .int .i64 0, .slice none 0 0, .slice none 0 0, .slice none 0 0, .string ⟨#[]⟩], .bool false]) (by simp [results, Try.results15, go_sem, r0, r1, r2, r3, r4, r5, r6, r7, r8, r9, r10, r11, r12]; try rfl) rfl ⟨?_, .inl ⟨HN.out, rfl⟩⟩
    iterate 13 refine Below.setCell ?_ (by show w.heap.size ≤ w.heap.size; exact Nat.le_refl _) _
    exact H4.out.1
  · have hkc : KcAt w2 6 (.slice ax l cx) (It.kids x) := KcAt.of hown
    obtain ⟨W3, hW3⟩ : ∃ V, V = w2.alloc (Obj.cells #[.int .i64 t, .string s, .slice ax l cx] 60) := ⟨_, rfl⟩
    have hb3 : Below w2.heap.size w2 W3 := by rw [hW3]; exact (Below.refl _ _).alloc (Nat.le_refl _) _
    have H3 : Hid ((Below w.heap.size w W3 ∧ Blk W3 w.heap.size 29 #[.int .i64 0, .string ⟨#[]⟩, .string ⟨#[]⟩, .int .i64 0, .int .i64 0, .string ⟨#[]⟩, .bool false, .int .i64 0, .int .i64 0, .slice none 0 0, .slice none 0 0, .slice none 0 0, .string ⟨#[]⟩]) ∧ Below w2.heap.size w2 W3) := ⟨⟨(H1.out.1.trans (hb2.mono H1.out.1.size)).trans (hb3.mono (Nat.le_trans H1.out.1.size hb2.size)), (H1.out.2.1.on hb2).on hb3⟩, hb3⟩
    have HX : Hid (readI T.data.toList = some x ∧ szI 7 x ≤ 4000 ∧ It.tag x = t ∧ w.heap.size < w2.heap.size) := ⟨hx, hsz, ht, by have := H1.out.2.2; have := hb2.size; omega⟩
    have hln : l = (It.kids x).length := by obtain ⟨ao, cap, h, _⟩ := hkc; injection h
    have HKC : Hid (KcAt w2 6 (.slice ax l cx) (It.kids x) ∧ l = (It.kids x).length ∧ readI T.data.toList = some x) := ⟨hkc, hln, hx⟩
    clear hkc hb3 hown hx hsz hb2 E1 H1 ht hs hln
    go_wp2_with fail
    rw [← hW3]
    clear hW3
    have E4 := l09Kids_any t s ax l cx 2 W3
    obtain ⟨B4, hB4⟩ : ∃ B, decide (t = 48 ∧ (l : Int) = 2) = B := ⟨_, rfl⟩
    rw [hB4] at E4
    refine E4.mono ?_
    rintro e w4 ⟨rfl, hb4⟩
    have H4 : Hid ((Below w.heap.size w w4 ∧ Blk w4 w.heap.size 29 #[.int .i64 0, .string ⟨#[]⟩, .string ⟨#[]⟩, .int .i64 0, .int .i64 0, .string ⟨#[]⟩, .bool false, .int .i64 0, .int .i64 0, .slice none 0 0, .slice none 0 0, .slice none 0 0, .string ⟨#[]⟩]) ∧ Below w2.heap.size w2 w4) := ⟨⟨H3.out.1.1.trans (hb4.mono H3.out.1.1.size), H3.out.1.2.on hb4⟩, H3.out.2.trans (hb4.mono H3.out.2.size)⟩
    clear E4 hb4 H3
    cases B4 with
    | false =>
      have hno := of_decide_eq_false hB4
      clear hB4
      have r0 : w4.cell? ⟨w.heap.size, 0, none⟩ = some (.int .i64 0) := H4.out.1.2.cell 0
      have r1 : w4.cell? ⟨w.heap.size, 1, none⟩ = some (.string ⟨#[]⟩) := H4.out.1.2.cell 1
      have r2 : w4.cell? ⟨w.heap.size, 2, none⟩ = some (.string ⟨#[]⟩) := H4.out.1.2.cell 2
      have r3 : w4.cell? ⟨w.heap.size, 3, none⟩ = some (.int .i64 0) := H4.out.1.2.cell 3
      have r4 : w4.cell? ⟨w.heap.size, 4, none⟩ = some (.int .i64 0) := H4.out.1.2.cell 4
      have r5 : w4.cell? ⟨w.heap.size, 5, none⟩ = some (.string ⟨#[]⟩) := H4.out.1.2.cell 5
      have r6 : w4.cell? ⟨w.heap.size, 6, none⟩ = some (.bool false) := H4.out.1.2.cell 6
      have r7 : w4.cell? ⟨w.heap.size, 7, none⟩ = some (.int .i64 0) := H4.out.1.2.cell 7
      have r8 : w4.cell? ⟨w.heap.size, 8, none⟩ = some (.int .i64 0) := H4.out.1.2.cell 8
      have r9 : w4.cell? ⟨w.heap.size, 9, none⟩ = some (.slice none 0 0) := H4.out.1.2.cell 9
      have r10 : w4.cell? ⟨w.heap.size, 10, none⟩ = some (.slice none 0 0) := H4.out.1.2.cell 10
      have r11 : w4.cell? ⟨w.heap.size, 11, none⟩ = some (.slice none 0 0) := H4.out.1.2.cell 11
      have r12 : w4.cell? ⟨w.heap.size, 12, none⟩ = some (.string ⟨#[]⟩) := H4.out.1.2.cell 12
      have rf := fun j => H4.out.1.2.free j
      have HN : Hid (oR = none) := by
        show oR = none
        rw [← HP.out]
        rw [HX.out.1]; show readS (m := 3) T.data.toList x = none; unfold readS; rw [spec_none (m := 3) (x := x) (fun q => hno ⟨by rw [← HX.out.2.2.1]; exact q.1, by have h1 := HKC.out.2.1; have h2 := q.2; omega⟩)]; rfl
      clear hno
      go_wp2_with fail
      refine bodyPost_ret (v := .tuple #[.agg #[.int .i64 0, .string ⟨#[]⟩, .string ⟨#[]⟩, .int .i64 0, .int .i64 0, .string ⟨#[]⟩, .bool false, .int .i64 0, .int .i64 0, .slice none 0 0, .slice none 0 0, .slice none 0 0, .string ⟨#[]⟩], .bool false]) (by simp [results, Try.results15, go_sem, r0, r1, r2, r3, r4, r5, r6, r7, r8, r9, r10, r11, r12]; try rfl) rfl ⟨?_, .inl ⟨HN.out, rfl⟩⟩
      iterate 13 refine Below.setCell ?_ (by show w.heap.size ≤ w.heap.size; exact Nat.le_refl _) _
      exact H4.out.1.1
    | true =>
      have hyes := of_decide_eq_true hB4
      clear hB4
      obtain ⟨rfl, hl2⟩ := hyes
      obtain rfl : l = 2 := by omega
      clear hl2
      obtain ⟨yb, sg, hkx⟩ := list_two (l := It.kids x) (HKC.out.2.1).symm
      obtain ⟨ao, cap, hv, _, hcell⟩ := HKC.out.1
      injection hv with hv1 hvx hv3
      clear hvx
      subst hv1 hv3
      rw [hkx] at hcell
      obtain ⟨g1, o1, ha1, hg1, hcs⟩ := hcell (by simp)
      obtain ⟨vb, d0, d1, d2, hkb⟩ := hcs 0 (by simp)
      obtain ⟨vs, s0, s1, s2, hks⟩ := hcs 1 (by simp)
      subst ha1
      have HY : Hid (It.kids x = [yb, sg] ∧ readI T.data.toList = some x ∧ szI 7 x ≤ 4000 ∧ It.tag x = 48 ∧ w.heap.size < w2.heap.size) := ⟨hkx, HX.out.1, HX.out.2.1, HX.out.2.2.1, HX.out.2.2.2⟩
      obtain ⟨sgt, hsgt⟩ : ∃ q, baL (It.text sg) = q := ⟨_, rfl⟩
      obtain ⟨tb, htb⟩ : ∃ q, It.tag yb = q := ⟨_, rfl⟩
      obtain ⟨sb, hsb⟩ : ∃ q : ByteArray, (⟨(It.text yb).toArray⟩ : ByteArray) = q := ⟨_, rfl⟩
      obtain ⟨ab, cb, hvb⟩ := hkb.shape
      change vb = .slice ab (It.kids yb).length cb at hvb
      change KcAt w2 5 vb (It.kids yb) at hkb
      obtain ⟨lb, hlb⟩ : ∃ q, (It.kids yb).length = q := ⟨_, rfl⟩
      have b0 : w2.cell? ⟨g1, o1, none⟩ = some (.int .i64 tb) := by rw [← htb]; exact d0
      have b1 : w2.cell? ⟨g1, o1 + 1, none⟩ = some (.string sb) := by rw [← hsb]; exact d1
      have b2 : w2.cell? ⟨g1, o1 + 2, none⟩ = some (.slice ab lb cb) := by rw [← hlb, ← hvb]; exact d2
      have b4 : w2.cell? ⟨g1, o1 + 4, none⟩ = some (.string sgt) := by rw [← hsgt]; exact s1
      have HB1 : Hid (g1 < w2.heap.size ∧ w2.cell? ⟨g1, o1 + 4, none⟩ = some (.string sgt) ∧ baL (It.text sg) = sgt ∧ It.tag yb = tb ∧ (It.kids yb).length = lb) := ⟨hg1, b4, hsgt, htb, hlb⟩
      have HKB : Hid (KcAt w2 5 (.slice ab lb cb) (It.kids yb)) := by show KcAt w2 5 (.slice ab lb cb) (It.kids yb); rw [← hlb, ← hvb]; exact hkb
      have f0 : w4.cell? ⟨g1, o1, none⟩ = some (.int .i64 tb) := (H4.out.2.cell (p := ⟨g1, o1, none⟩) hg1).trans b0
      have f1 : w4.cell? ⟨g1, o1 + 1, none⟩ = some (.string sb) := (H4.out.2.cell (p := ⟨g1, o1 + 1, none⟩) hg1).trans b1
      have f2 : w4.cell? ⟨g1, o1 + 2, none⟩ = some (.slice ab lb cb) := (H4.out.2.cell (p := ⟨g1, o1 + 2, none⟩) hg1).trans b2
      clear hcell hcs d0 d1 d2 s0 s1 s2 hkb hks hkx hsgt htb hsb hvb hlb b0 b1 b2 b4 hg1 HKC HX
      go_wp2_with fail
      clear f0 f1 f2
      have E5 := l09Kids_any tb sb ab lb cb 11 w4
      obtain ⟨B5, hB5⟩ : ∃ B, decide (tb = 48 ∧ (lb : Int) = 11) = B := ⟨_, rfl⟩
      rw [hB5] at E5
      refine E5.mono ?_
      rintro e w5 ⟨rfl, hb5⟩
      have H5 : Hid ((Below w.heap.size w w5 ∧ Blk w5 w.heap.size 29 #[.int .i64 0, .string ⟨#[]⟩, .string ⟨#[]⟩, .int .i64 0, .int .i64 0, .string ⟨#[]⟩, .bool false, .int .i64 0, .int .i64 0, .slice none 0 0, .slice none 0 0, .slice none 0 0, .string ⟨#[]⟩]) ∧ Below w2.heap.size w2 w5) := ⟨⟨H4.out.1.1.trans (hb5.mono H4.out.1.1.size), H4.out.1.2.on hb5⟩, H4.out.2.trans (hb5.mono H4.out.2.size)⟩
      clear E5 hb5 H4
      cases B5 with
      | false =>
        have hno := of_decide_eq_false hB5
        clear hB5
        have r0 : w5.cell? ⟨w.heap.size, 0, none⟩ = some (.int .i64 0) := H5.out.1.2.cell 0
        have r1 : w5.cell? ⟨w.heap.size, 1, none⟩ = some (.string ⟨#[]⟩) := H5.out.1.2.cell 1
        have r2 : w5.cell? ⟨w.heap.size, 2, none⟩ = some (.string ⟨#[]⟩) := H5.out.1.2.cell 2
        have r3 : w5.cell? ⟨w.heap.size, 3, none⟩ = some (.int .i64 0) := H5.out.1.2.cell 3
        have r4 : w5.cell? ⟨w.heap.size, 4, none⟩ = some (.int .i64 0) := H5.out.1.2.cell 4
        have r5 : w5.cell? ⟨w.heap.size, 5, none⟩ = some (.string ⟨#[]⟩) := H5.out.1.2.cell 5
        have r6 : w5.cell? ⟨w.heap.size, 6, none⟩ = some (.bool false) := H5.out.1.2.cell 6
        have r7 : w5.cell? ⟨w.heap.size, 7, none⟩ = some (.int .i64 0) := H5.out.1.2.cell 7
        have r8 : w5.cell? ⟨w.heap.size, 8, none⟩ = some (.int .i64 0) := H5.out.1.2.cell 8
        have r9 : w5.cell? ⟨w.heap.size, 9, none⟩ = some (.slice none 0 0) := H5.out.1.2.cell 9
        have r10 : w5.cell? ⟨w.heap.size, 10, none⟩ = some (.slice none 0 0) := H5.out.1.2.cell 10
        have r11 : w5.cell? ⟨w.heap.size, 11, none⟩ = some (.slice none 0 0) := H5.out.1.2.cell 11
        have r12 : w5.cell? ⟨w.heap.size, 12, none⟩ = some (.string ⟨#[]⟩) := H5.out.1.2.cell 12
        have rf := fun j => H5.out.1.2.free j
        have HN : Hid (oR = none) := by
          show oR = none
          rw [← HP.out]
          rw [HY.out.2.1]; show readS (m := 3) T.data.toList x = none; unfold readS; rw [spec_none2 (m := 3) (x := x) HY.out.1 (fun q => hno ⟨by rw [← HB1.out.2.2.2.1]; exact q.1, by have h1 := HB1.out.2.2.2.2; have h2 := q.2; omega⟩)]; rfl
        clear hno
        go_wp2_with fail
        refine bodyPost_ret (v := .tuple #[.agg #[.int .i64 0, .string ⟨#[]⟩, .string ⟨#[]⟩, .int .i64 0, .int .i64 0, .string ⟨#[]⟩, .bool false, .int .i64 0, .int .i64 0, .slice none 0 0, .slice none 0 0, .slice none 0 0, .string ⟨#[]⟩], .bool false]) (by simp [results, Try.results15, go_sem, r0, r1, r2, r3, r4, r5, r6, r7, r8, r9, r10, r11, r12]; try rfl) rfl ⟨?_, .inl ⟨HN.out, rfl⟩⟩
        iterate 13 refine Below.setCell ?_ (by show w.heap.size ≤ w.heap.size; exact Nat.le_refl _) _
        exact H5.out.1.1
      | true =>
        have hyes := of_decide_eq_true hB5
        clear hB5
        obtain ⟨rfl, hl2⟩ := hyes
        obtain rfl : lb = 11 := by omega
        clear hl2
        obtain ⟨k0, k1, k2, k3, k4, k5, k6, k7, k8, k9, k10, hky⟩ := list_eleven (l := It.kids yb) HB1.out.2.2.2.2
        obtain ⟨ao, cap, hv, _, hcell⟩ := HKB.out
        injection hv with hv1 hvx hv3
        clear hvx
        subst hv1 hv3
        rw [hky] at hcell
        obtain ⟨g2, o2, ha2, hg2, hcs⟩ := hcell (by simp)
        subst ha2
        obtain ⟨v0, p0a, p0b, p0c, hk0⟩ := hcs 0 (by simp)
        obtain ⟨v1, p1a, p1b, p1c, hk1⟩ := hcs 1 (by simp)
        obtain ⟨v2, p2a, p2b, p2c, hk2⟩ := hcs 2 (by simp)
        obtain ⟨v3, p3a, p3b, p3c, hk3⟩ := hcs 3 (by simp)
        obtain ⟨v4, p4a, p4b, p4c, hk4⟩ := hcs 4 (by simp)
        obtain ⟨v5, p5a, p5b, p5c, hk5⟩ := hcs 5 (by simp)
        obtain ⟨v6, p6a, p6b, p6c, hk6⟩ := hcs 6 (by simp)
        obtain ⟨v7, p7a, p7b, p7c, hk7⟩ := hcs 7 (by simp)
        obtain ⟨v8, p8a, p8b, p8c, hk8⟩ := hcs 8 (by simp)
        obtain ⟨v9, p9a, p9b, p9c, hk9⟩ := hcs 9 (by simp)
        obtain ⟨v10, p10a, p10b, p10c, hk10⟩ := hcs 10 (by simp)
        have HYB : Hid (It.kids yb = [k0, k1, k2, k3, k4, k5, k6, k7, k8, k9, k10] ∧ It.tag yb = 48) := ⟨hky, HB1.out.2.2.2.1⟩
        obtain ⟨a2, c2, hv2⟩ := hk2.shape
        obtain ⟨l2, hl2⟩ : ∃ q, (It.kids k2).length = q := ⟨_, rfl⟩
        change v2 = .slice a2 (It.kids k2).length c2 at hv2
        rw [hl2] at hv2
        subst hv2
        obtain ⟨iss, hiss⟩ : ∃ q, baL (It.text k1) = q := ⟨_, rfl⟩
        obtain ⟨sub, hsub⟩ : ∃ q, baL (It.text k3) = q := ⟨_, rfl⟩
        obtain ⟨key, hkey⟩ : ∃ q, baL (It.text k4) = q := ⟨_, rfl⟩
        obtain ⟨S5, hS5⟩ : ∃ q, baL (It.text k5) = q := ⟨_, rfl⟩
        obtain ⟨t0, ht0⟩ : ∃ q, It.tag k0 = q := ⟨_, rfl⟩
        obtain ⟨s0, hs0⟩ : ∃ q : ByteArray, (⟨(It.text k0).toArray⟩ : ByteArray) = q := ⟨_, rfl⟩
        obtain ⟨a0, c0, hv0⟩ := hk0.shape
        change v0 = .slice a0 (It.kids k0).length c0 at hv0
        obtain ⟨l0, hl0⟩ : ∃ q, (It.kids k0).length = q := ⟨_, rfl⟩
        rw [hl0] at hv0
        subst hv0
        obtain ⟨t6, ht6⟩ : ∃ q, It.tag k6 = q := ⟨_, rfl⟩
        obtain ⟨s6, hs6⟩ : ∃ q : ByteArray, (⟨(It.text k6).toArray⟩ : ByteArray) = q := ⟨_, rfl⟩
        obtain ⟨a6, c6, hv6⟩ := hk6.shape
        change v6 = .slice a6 (It.kids k6).length c6 at hv6
        obtain ⟨l6, hl6⟩ : ∃ q, (It.kids k6).length = q := ⟨_, rfl⟩
        rw [hl6] at hv6
        subst hv6
        obtain ⟨t7, ht7⟩ : ∃ q, It.tag k7 = q := ⟨_, rfl⟩
        obtain ⟨s7, hs7⟩ : ∃ q : ByteArray, (⟨(It.text k7).toArray⟩ : ByteArray) = q := ⟨_, rfl⟩
        obtain ⟨a7, c7, hv7⟩ := hk7.shape
        change v7 = .slice a7 (It.kids k7).length c7 at hv7
        obtain ⟨l7, hl7⟩ : ∃ q, (It.kids k7).length = q := ⟨_, rfl⟩
        rw [hl7] at hv7
        subst hv7
        obtain ⟨t8, ht8⟩ : ∃ q, It.tag k8 = q := ⟨_, rfl⟩
        obtain ⟨s8, hs8⟩ : ∃ q : ByteArray, (⟨(It.text k8).toArray⟩ : ByteArray) = q := ⟨_, rfl⟩
        obtain ⟨a8, c8, hv8⟩ := hk8.shape
        change v8 = .slice a8 (It.kids k8).length c8 at hv8
        obtain ⟨l8, hl8⟩ : ∃ q, (It.kids k8).length = q := ⟨_, rfl⟩
        rw [hl8] at hv8
        subst hv8
        obtain ⟨t9, ht9⟩ : ∃ q, It.tag k9 = q := ⟨_, rfl⟩
        obtain ⟨s9, hs9⟩ : ∃ q : ByteArray, (⟨(It.text k9).toArray⟩ : ByteArray) = q := ⟨_, rfl⟩
        obtain ⟨a9, c9, hv9⟩ := hk9.shape
        change v9 = .slice a9 (It.kids k9).length c9 at hv9
        obtain ⟨l9, hl9⟩ : ∃ q, (It.kids k9).length = q := ⟨_, rfl⟩
        rw [hl9] at hv9
        subst hv9
        obtain ⟨t10, ht10⟩ : ∃ q, It.tag k10 = q := ⟨_, rfl⟩
        obtain ⟨s10, hs10⟩ : ∃ q : ByteArray, (⟨(It.text k10).toArray⟩ : ByteArray) = q := ⟨_, rfl⟩
        obtain ⟨a10, c10, hv10⟩ := hk10.shape
        change v10 = .slice a10 (It.kids k10).length c10 at hv10
        obtain ⟨l10, hl10⟩ : ∃ q, (It.kids k10).length = q := ⟨_, rfl⟩
        rw [hl10] at hv10
        subst hv10
        have m1 : w2.cell? ⟨g2, o2 + 4, none⟩ = some (.string iss) := by rw [← hiss]; exact p1b
        have m3 : w2.cell? ⟨g2, o2 + 10, none⟩ = some (.string sub) := by rw [← hsub]; exact p3b
        have m4 : w2.cell? ⟨g2, o2 + 13, none⟩ = some (.string key) := by rw [← hkey]; exact p4b
        have m5 : w2.cell? ⟨g2, o2 + 16, none⟩ = some (.string S5) := by rw [← hS5]; exact p5b
        have m2 : w2.cell? ⟨g2, o2 + 8, none⟩ = some (.slice a2 l2 c2) := by exact p2c
        have m0a : w2.cell? ⟨g2, o2, none⟩ = some (.int .i64 t0) := by rw [← ht0]; exact p0a
        have m0b : w2.cell? ⟨g2, o2 + 1, none⟩ = some (.string s0) := by rw [← hs0]; exact p0b
        have m0c : w2.cell? ⟨g2, o2 + 2, none⟩ = some (.slice a0 l0 c0) := by exact p0c
        have m6a : w2.cell? ⟨g2, o2 + 18, none⟩ = some (.int .i64 t6) := by rw [← ht6]; exact p6a
        have m6b : w2.cell? ⟨g2, o2 + 19, none⟩ = some (.string s6) := by rw [← hs6]; exact p6b
        have m6c : w2.cell? ⟨g2, o2 + 20, none⟩ = some (.slice a6 l6 c6) := by exact p6c
        have m7a : w2.cell? ⟨g2, o2 + 21, none⟩ = some (.int .i64 t7) := by rw [← ht7]; exact p7a
        have m7b : w2.cell? ⟨g2, o2 + 22, none⟩ = some (.string s7) := by rw [← hs7]; exact p7b
        have m7c : w2.cell? ⟨g2, o2 + 23, none⟩ = some (.slice a7 l7 c7) := by exact p7c
        have m8a : w2.cell? ⟨g2, o2 + 24, none⟩ = some (.int .i64 t8) := by rw [← ht8]; exact p8a
        have m8b : w2.cell? ⟨g2, o2 + 25, none⟩ = some (.string s8) := by rw [← hs8]; exact p8b
        have m8c : w2.cell? ⟨g2, o2 + 26, none⟩ = some (.slice a8 l8 c8) := by exact p8c
        have m9a : w2.cell? ⟨g2, o2 + 27, none⟩ = some (.int .i64 t9) := by rw [← ht9]; exact p9a
        have m9b : w2.cell? ⟨g2, o2 + 28, none⟩ = some (.string s9) := by rw [← hs9]; exact p9b
        have m9c : w2.cell? ⟨g2, o2 + 29, none⟩ = some (.slice a9 l9 c9) := by exact p9c
        have m10a : w2.cell? ⟨g2, o2 + 30, none⟩ = some (.int .i64 t10) := by rw [← ht10]; exact p10a
        have m10b : w2.cell? ⟨g2, o2 + 31, none⟩ = some (.string s10) := by rw [← hs10]; exact p10b
        have m10c : w2.cell? ⟨g2, o2 + 32, none⟩ = some (.slice a10 l10 c10) := by exact p10c
        have HG2 : Hid (g2 < w2.heap.size) := hg2
        have HM : Hid (w2.cell? ⟨g2, o2 + 4, none⟩ = some (.string iss) ∧ w2.cell? ⟨g2, o2 + 10, none⟩ = some (.string sub) ∧ w2.cell? ⟨g2, o2 + 13, none⟩ = some (.string key) ∧ w2.cell? ⟨g2, o2 + 16, none⟩ = some (.string S5) ∧ w2.cell? ⟨g2, o2 + 8, none⟩ = some (.slice a2 l2 c2) ∧ w2.cell? ⟨g2, o2, none⟩ = some (.int .i64 t0) ∧ w2.cell? ⟨g2, o2 + 1, none⟩ = some (.string s0) ∧ w2.cell? ⟨g2, o2 + 2, none⟩ = some (.slice a0 l0 c0) ∧ w2.cell? ⟨g2, o2 + 18, none⟩ = some (.int .i64 t6) ∧ w2.cell? ⟨g2, o2 + 19, none⟩ = some (.string s6) ∧ w2.cell? ⟨g2, o2 + 20, none⟩ = some (.slice a6 l6 c6) ∧ w2.cell? ⟨g2, o2 + 21, none⟩ = some (.int .i64 t7) ∧ w2.cell? ⟨g2, o2 + 22, none⟩ = some (.string s7) ∧ w2.cell? ⟨g2, o2 + 23, none⟩ = some (.slice a7 l7 c7) ∧ w2.cell? ⟨g2, o2 + 24, none⟩ = some (.int .i64 t8) ∧ w2.cell? ⟨g2, o2 + 25, none⟩ = some (.string s8) ∧ w2.cell? ⟨g2, o2 + 26, none⟩ = some (.slice a8 l8 c8) ∧ w2.cell? ⟨g2, o2 + 27, none⟩ = some (.int .i64 t9) ∧ w2.cell? ⟨g2, o2 + 28, none⟩ = some (.string s9) ∧ w2.cell? ⟨g2, o2 + 29, none⟩ = some (.slice a9 l9 c9) ∧ w2.cell? ⟨g2, o2 + 30, none⟩ = some (.int .i64 t10) ∧ w2.cell? ⟨g2, o2 + 31, none⟩ = some (.string s10) ∧ w2.cell? ⟨g2, o2 + 32, none⟩ = some (.slice a10 l10 c10)) := ⟨m1, m3, m4, m5, m2, m0a, m0b, m0c, m6a, m6b, m6c, m7a, m7b, m7c, m8a, m8b, m8c, m9a, m9b, m9c, m10a, m10b, m10c⟩
        have HKS : Hid (KcAt w2 4 (.slice a0 l0 c0) (It.kids k0) ∧ KcAt w2 4 (.slice a6 l6 c6) (It.kids k6) ∧ KcAt w2 4 (.slice a7 l7 c7) (It.kids k7) ∧ KcAt w2 4 (.slice a8 l8 c8) (It.kids k8) ∧ KcAt w2 4 (.slice a9 l9 c9) (It.kids k9) ∧ KcAt w2 4 (.slice a10 l10 c10) (It.kids k10)) := ⟨by show KcAt w2 4 (.slice a0 l0 c0) (It.kids k0); exact hk0, by show KcAt w2 4 (.slice a6 l6 c6) (It.kids k6); exact hk6, by show KcAt w2 4 (.slice a7 l7 c7) (It.kids k7); exact hk7, by show KcAt w2 4 (.slice a8 l8 c8) (It.kids k8); exact hk8, by show KcAt w2 4 (.slice a9 l9 c9) (It.kids k9); exact hk9, by show KcAt w2 4 (.slice a10 l10 c10) (It.kids k10); exact hk10⟩
        have HTS : Hid ((It.tag k0 = t0 ∧ (⟨(It.text k0).toArray⟩ : ByteArray) = s0) ∧ (It.tag k6 = t6 ∧ (⟨(It.text k6).toArray⟩ : ByteArray) = s6) ∧ (It.tag k7 = t7 ∧ (⟨(It.text k7).toArray⟩ : ByteArray) = s7) ∧ (It.tag k8 = t8 ∧ (⟨(It.text k8).toArray⟩ : ByteArray) = s8) ∧ (It.tag k9 = t9 ∧ (⟨(It.text k9).toArray⟩ : ByteArray) = s9) ∧ (It.tag k10 = t10 ∧ (⟨(It.text k10).toArray⟩ : ByteArray) = s10)) := ⟨⟨ht0, hs0⟩, ⟨ht6, hs6⟩, ⟨ht7, hs7⟩, ⟨ht8, hs8⟩, ⟨ht9, hs9⟩, ⟨ht10, hs10⟩⟩
        have HTX : Hid (baL (It.text k1) = iss ∧ baL (It.text k3) = sub ∧ baL (It.text k4) = key ∧ baL (It.text k5) = S5 ∧ (It.kids k2).length = l2 ∧ KcAt w2 4 (.slice a2 l2 c2) (It.kids k2)) := ⟨hiss, hsub, hkey, hS5, hl2, hk2⟩
        have hSZ : ∀ y ∈ It.kids yb, szI 5 y ≤ 4000 := by
          have h1 := szI_kid (t := It.tag x) (s := It.text x) (ks := It.kids x) HY.out.2.2.1
          have h2 := h1.2.2 yb (by rw [HY.out.1]; simp)
          exact (szI_kid (t := It.tag yb) (s := It.text yb) (ks := It.kids yb) h2).2.2
        have HSZ : Hid (∀ y ∈ [k0, k1, k2, k3, k4, k5, k6, k7, k8, k9, k10], szI 5 y ≤ 4000) := by rw [← hky]; exact hSZ
        clear hcell hcs hky hg2 hSZ hiss hsub hkey hS5 hl2 hk1 hk2 hk3 hk4 hk5 p0a p0b p0c p1a p1b p1c p2a p2b p2c p3a p3b p3c p4a p4b p4c p5a p5b p5c p6a p6b p6c p7a p7b p7c p8a p8b p8c p9a p9b p9c p10a p10b p10c hk0 ht0 hs0 hl0 hk6 ht6 hs6 hl6 hk7 ht7 hs7 hl7 hk8 ht8 hs8 hl8 hk9 ht9 hs9 hl9 hk10 ht10 hs10 hl10 m1 m3 m4 m5 m2 m0a m0b m0c m6a m6b m6c m7a m7b m7c m8a m8b m8c m9a m9b m9c m10a m10b m10c
        have m2 : w5.cell? ⟨g2, o2 + 8, none⟩ = some (.slice a2 l2 c2) := (H5.out.2.cell (p := ⟨g2, o2 + 8, none⟩) HG2.out).trans HM.out.2.2.2.2.1
        by_cases h22 : l2 = 2
        rotate_left
        · have h22i : ¬ (l2 : Int) = 2 := by omega
          have r0 : w5.cell? ⟨w.heap.size, 0, none⟩ = some (.int .i64 0) := H5.out.1.2.cell 0
          have r1 : w5.cell? ⟨w.heap.size, 1, none⟩ = some (.string ⟨#[]⟩) := H5.out.1.2.cell 1
          have r2 : w5.cell? ⟨w.heap.size, 2, none⟩ = some (.string ⟨#[]⟩) := H5.out.1.2.cell 2
          have r3 : w5.cell? ⟨w.heap.size, 3, none⟩ = some (.int .i64 0) := H5.out.1.2.cell 3
          have r4 : w5.cell? ⟨w.heap.size, 4, none⟩ = some (.int .i64 0) := H5.out.1.2.cell 4
          have r5 : w5.cell? ⟨w.heap.size, 5, none⟩ = some (.string ⟨#[]⟩) := H5.out.1.2.cell 5
          have r6 : w5.cell? ⟨w.heap.size, 6, none⟩ = some (.bool false) := H5.out.1.2.cell 6
          have r7 : w5.cell? ⟨w.heap.size, 7, none⟩ = some (.int .i64 0) := H5.out.1.2.cell 7
          have r8 : w5.cell? ⟨w.heap.size, 8, none⟩ = some (.int .i64 0) := H5.out.1.2.cell 8
          have r9 : w5.cell? ⟨w.heap.size, 9, none⟩ = some (.slice none 0 0) := H5.out.1.2.cell 9
          have r10 : w5.cell? ⟨w.heap.size, 10, none⟩ = some (.slice none 0 0) := H5.out.1.2.cell 10
          have r11 : w5.cell? ⟨w.heap.size, 11, none⟩ = some (.slice none 0 0) := H5.out.1.2.cell 11
          have r12 : w5.cell? ⟨w.heap.size, 12, none⟩ = some (.string ⟨#[]⟩) := H5.out.1.2.cell 12
          have rf := fun j => H5.out.1.2.free j
          have HN : Hid (oR = none) := by
            show oR = none
            rw [← HP.out]
            rw [HY.out.2.1]; show readS (m := 3) T.data.toList x = none; unfold readS; rw [spec_none3 (m := 3) (x := x) HY.out.1 HYB.out.1 (fun q => h22 (by have := HTX.out.2.2.2.2.1; omega))]; rfl
          go_wp2_with fail
          refine bodyPost_ret (v := .tuple #[.agg #[.int .i64 0, .string ⟨#[]⟩, .string ⟨#[]⟩, .int .i64 0, .int .i64 0, .string ⟨#[]⟩, .bool false, .int .i64 0, .int .i64 0, .slice none 0 0, .slice none 0 0, .slice none 0 0, .string ⟨#[]⟩], .bool false]) (by simp [results, Try.results15, go_sem, r0, r1, r2, r3, r4, r5, r6, r7, r8, r9, r10, r11, r12]; try rfl) rfl ⟨?_, .inl ⟨HN.out, rfl⟩⟩
          iterate 13 refine Below.setCell ?_ (by show w.heap.size ≤ w.heap.size; exact Nat.le_refl _) _
          exact H5.out.1.1
        subst h22
        clear m2
        obtain ⟨f, u, hk2⟩ := list_two (l := It.kids k2) HTX.out.2.2.2.2.1
        obtain ⟨ao, cap, hv, _, hcell⟩ := HTX.out.2.2.2.2.2
        injection hv with hv1 hvx hv3
        clear hvx
        subst hv1 hv3
        rw [hk2] at hcell
        obtain ⟨g3, o3, ha3, hg3, hcs⟩ := hcell (by simp)
        obtain ⟨vf, pfa, pfb, pfc, hkf⟩ := hcs 0 (by simp)
        obtain ⟨vu, pua, pub, puc, hku⟩ := hcs 1 (by simp)
        subst ha3
        have HG3 : Hid (g3 < w2.heap.size) := hg3
        obtain ⟨tf, htf⟩ : ∃ z, It.tag f = z := ⟨_, rfl⟩
        obtain ⟨sf, hsf⟩ : ∃ z : ByteArray, (⟨(It.text f).toArray⟩ : ByteArray) = z := ⟨_, rfl⟩
        obtain ⟨af, cf, hvf⟩ := hkf.shape
        change vf = .slice af (It.kids f).length cf at hvf
        obtain ⟨lf, hlf⟩ : ∃ z, (It.kids f).length = z := ⟨_, rfl⟩
        rw [hlf] at hvf
        subst hvf
        obtain ⟨tu, htu⟩ : ∃ z, It.tag u = z := ⟨_, rfl⟩
        obtain ⟨su, hsu⟩ : ∃ z : ByteArray, (⟨(It.text u).toArray⟩ : ByteArray) = z := ⟨_, rfl⟩
        obtain ⟨au, cu, hvu⟩ := hku.shape
        change vu = .slice au (It.kids u).length cu at hvu
        obtain ⟨lu, hlu⟩ : ∃ z, (It.kids u).length = z := ⟨_, rfl⟩
        rw [hlu] at hvu
        subst hvu
        have HF3 : Hid ((w2.cell? ⟨g3, o3, none⟩ = some (.int .i64 tf) ∧ w2.cell? ⟨g3, o3 + 1, none⟩ = some (.string sf) ∧ w2.cell? ⟨g3, o3 + 2, none⟩ = some (.slice af lf cf) ∧ w2.cell? ⟨g3, o3 + 3, none⟩ = some (.int .i64 tu) ∧ w2.cell? ⟨g3, o3 + 4, none⟩ = some (.string su) ∧ w2.cell? ⟨g3, o3 + 5, none⟩ = some (.slice au lu cu)) ∧ (It.tag f = tf ∧ (⟨(It.text f).toArray⟩ : ByteArray) = sf) ∧ (It.tag u = tu ∧ (⟨(It.text u).toArray⟩ : ByteArray) = su) ∧ KcAt w2 3 (.slice af lf cf) (It.kids f) ∧ KcAt w2 3 (.slice au lu cu) (It.kids u) ∧ It.kids k2 = [f, u]) := ⟨⟨by rw [← htf]; exact pfa, by rw [← hsf]; exact pfb, pfc, by rw [← htu]; exact pua, by rw [← hsu]; exact pub, puc⟩, ⟨htf, hsf⟩, ⟨htu, hsu⟩, hkf, hku, hk2⟩
        clear hcell hcs hg3 pfa pfb pfc pua pub puc hkf hku htf hsf htu hsu hlf hlu hk2
        obtain ⟨x0, hx0⟩ : ∃ q, numI k0 = q := ⟨_, rfl⟩
        obtain ⟨xf, hxf⟩ : ∃ q, numI f = q := ⟨_, rfl⟩
        obtain ⟨xu, hxu⟩ : ∃ q, numI u = q := ⟨_, rfl⟩
        obtain ⟨x6, hx6⟩ : ∃ q, numI k6 = q := ⟨_, rfl⟩
        obtain ⟨x7, hx7⟩ : ∃ q, numI k7 = q := ⟨_, rfl⟩
        obtain ⟨ca, hca⟩ : ∃ q, decide (It.text k5 = [255]) = q := ⟨_, rfl⟩
        obtain ⟨pol, hpol⟩ : ∃ q, (It.kids k8).map numI = q := ⟨_, rfl⟩
        obtain ⟨per, hper⟩ : ∃ q, (It.kids k9).map (fun y => baL (It.text y)) = q := ⟨_, rfl⟩
        obtain ⟨den, hden⟩ : ∃ q, (It.kids k10).map (fun y => baL (It.text y)) = q := ⟨_, rfl⟩
        obtain ⟨c, hc⟩ : ∃ c : Ct, c = ⟨x0, iss, sub, xf, xu, key, ca, x6, x7, pol, per, den, sgt⟩ := ⟨_, rfl⟩
        have hcc : c = ⟨numI k0, baL (It.text k1), baL (It.text k3), numI f, numI u, baL (It.text k4), decide (It.text k5 = [255]), numI k6, numI k7, (It.kids k8).map numI, (It.kids k9).map fun y => baL (It.text y), (It.kids k10).map fun y => baL (It.text y), baL (It.text sg)⟩ := by rw [hc, hx0, hxf, hxu, hx6, hx7, hca, hpol, hper, hden, HTX.out.1, HTX.out.2.1, HTX.out.2.2.1, HB1.out.2.2.1]
        have HSP : Hid (specP (m := 3) x = some c ∧ wtC c ≤ 1048576 ∧ WdC c) := ⟨by rw [hcc]; exact spec_some (m := 3) HY.out.1 HYB.out.1 HF3.out.2.2.2.2.2 HY.out.2.2.2.1 HYB.out.2, wt_spec (m := 3) HY.out.1 HYB.out.1 HY.out.2.2.1 c hcc⟩
        have HCC : Hid (c = ⟨x0, iss, sub, xf, xu, key, ca, x6, x7, pol, per, den, sgt⟩ ∧ (numI k0 = x0 ∧ numI f = xf ∧ numI u = xu ∧ numI k6 = x6 ∧ numI k7 = x7) ∧ ((It.kids k8).map numI = pol ∧ (It.kids k9).map (fun y => baL (It.text y)) = per ∧ (It.kids k10).map (fun y => baL (It.text y)) = den)) := ⟨hc, ⟨hx0, hxf, hxu, hx6, hx7⟩, hpol, hper, hden⟩
        have hq5 : (S5.toList == [255]) = ca := by
          rw [← hca, ← HTX.out.2.2.2.1]
          have e : ∀ l : List UInt8, (baL l).toList = l := fun l => by unfold baL; simp
          rw [e, Bool.eq_iff_iff]
          simp
        clear hcc hc hx0 hxf hxu hx6 hx7 hca hpol hper hden
        have e2i : ((2 : Nat) : Int) = 2 := rfl
        have m2 : w5.cell? ⟨g2, o2 + 8, none⟩ = some (.slice (some ⟨g3, o3, none⟩) 2 c2) := (H5.out.2.cell (p := ⟨g2, o2 + 8, none⟩) HG2.out).trans HM.out.2.2.2.2.1
        go_upto_region 8 with fail
        clear m2
        go_cut [10] from 13 (fun s10 wx => ∃ gC : Nat, s10 = .pointer (some ⟨gC, 0, none⟩) ∧ Hid (∃ (pa : Option Addr) (pl pc : Nat) (ea : Option Addr) (el ec : Nat) (da : Option Addr) (dl dc : Nat), RC8 w w2 wx gC #[.int .i64 0, .string iss, .string sub, .int .i64 0, .int .i64 0, .string key, .bool ca, .int .i64 0, .int .i64 0, .slice pa pl pc, .slice ea el ec, .slice da dl dc, .string sgt] (.slice pa pl pc) (.slice ea el ec) (.slice da dl dc) pol per den))
        case first =>
          have SB : ∀ (W W' : World), ((Below w.heap.size w W ∧ Blk W w.heap.size 29 #[.int .i64 0, .string ⟨#[]⟩, .string ⟨#[]⟩, .int .i64 0, .int .i64 0, .string ⟨#[]⟩, .bool false, .int .i64 0, .int .i64 0, .slice none 0 0, .slice none 0 0, .slice none 0 0, .string ⟨#[]⟩]) ∧ Below w2.heap.size w2 W) → Below W.heap.size W W' → ((Below w.heap.size w W' ∧ Blk W' w.heap.size 29 #[.int .i64 0, .string ⟨#[]⟩, .string ⟨#[]⟩, .int .i64 0, .int .i64 0, .string ⟨#[]⟩, .bool false, .int .i64 0, .int .i64 0, .slice none 0 0, .slice none 0 0, .slice none 0 0, .string ⟨#[]⟩]) ∧ Below w2.heap.size w2 W') := fun W W' h hb => ⟨⟨h.1.1.trans (hb.mono h.1.1.size), h.1.2.on hb⟩, h.2.trans (hb.mono h.2.size)⟩
          refine wp_region_held_drew (S := fun W => (Below w.heap.size w W ∧ Blk W w.heap.size 29 #[.int .i64 0, .string ⟨#[]⟩, .string ⟨#[]⟩, .int .i64 0, .int .i64 0, .string ⟨#[]⟩, .bool false, .int .i64 0, .int .i64 0, .slice none 0 0, .slice none 0 0, .slice none 0 0, .string ⟨#[]⟩]) ∧ Below w2.heap.size w2 W) (by kernel_rfl) (SB _ _ H5.out ((Below.refl _ _).drew)) (fun hHeld => ?_)
          clear H5
          generalize w5.drew = wd at hHeld ⊢
          refine wpAnyH_take (i := 0) (oi := ⟨some 48, _, _, _, _, _⟩) (v := ?_) rfl (by kernel_rfl) (by kernel_rfl) (by kernel_rfl) (fun _ _ _ h => h) (Or.inl ⟨by rfl, ?_⟩) hHeld ?_
          rotate_left
          · intro W hSw
            go_simp
            try with_reducible rfl
          try simp only [Act.put, List.setIfInBounds_toArray, List.set_cons_zero, List.set_cons_succ]
          refine wpAnyH_take (i := 1) (oi := ⟨some 49, _, _, _, _, _⟩) (v := ?_) rfl (by kernel_rfl) (by kernel_rfl) (by kernel_rfl) (fun _ _ _ h => h) (Or.inl ⟨by rfl, ?_⟩) hHeld ?_
          rotate_left
          · intro W hSw
            go_simp
            try with_reducible rfl
          try simp only [Act.put, List.setIfInBounds_toArray, List.set_cons_zero, List.set_cons_succ]
          refine wpAnyH_take (i := 2) (oi := ⟨some 50, _, _, _, _, _⟩) (v := ?_) rfl (by kernel_rfl) (by kernel_rfl) (by kernel_rfl) (fun _ _ _ h => h) (Or.inl ⟨by rfl, ?_⟩) hHeld ?_
          rotate_left
          · intro W hSw
            go_simp
            try with_reducible rfl
          try simp only [Act.put, List.setIfInBounds_toArray, List.set_cons_zero, List.set_cons_succ]
          refine wpAnyH_take (i := 3) (oi := ⟨some 51, _, _, _, _, _⟩) (v := ?_) rfl (by kernel_rfl) (by kernel_rfl) (by kernel_rfl) (fun _ _ _ h => h) (Or.inl ⟨by rfl, ?_⟩) hHeld ?_
          rotate_left
          · intro W hSw
            have m1 : W.cell? ⟨g2, o2 + 4, none⟩ = some (.string iss) := (hSw.2.cell (p := ⟨g2, o2 + 4, none⟩) HG2.out).trans HM.out.1
            go_simp
            try with_reducible rfl
          try simp only [Act.put, List.setIfInBounds_toArray, List.set_cons_zero, List.set_cons_succ]
          refine wpAnyH_take (i := 4) (oi := ⟨some 52, _, _, _, _, _⟩) (v := ?_) rfl (by kernel_rfl) (by kernel_rfl) (by kernel_rfl) (fun _ _ _ h => h) (Or.inl ⟨by rfl, ?_⟩) hHeld ?_
          rotate_left
          · intro W hSw
            go_simp
            try with_reducible rfl
          try simp only [Act.put, List.setIfInBounds_toArray, List.set_cons_zero, List.set_cons_succ]
          refine wpAnyH_take (i := 5) (oi := ⟨some 53, _, _, _, _, _⟩) (v := ?_) rfl (by kernel_rfl) (by kernel_rfl) (by kernel_rfl) (fun _ _ _ h => h) (Or.inl ⟨by rfl, ?_⟩) hHeld ?_
          rotate_left
          · intro W hSw
            go_simp
            try with_reducible rfl
          try simp only [Act.put, List.setIfInBounds_toArray, List.set_cons_zero, List.set_cons_succ]
          refine wpAnyH_take (i := 6) (oi := ⟨some 54, _, _, _, _, _⟩) (v := ?_) rfl (by kernel_rfl) (by kernel_rfl) (by kernel_rfl) (fun _ _ _ h => h) (Or.inl ⟨by rfl, ?_⟩) hHeld ?_
          rotate_left
          · intro W hSw
            go_simp
            try with_reducible rfl
          try simp only [Act.put, List.setIfInBounds_toArray, List.set_cons_zero, List.set_cons_succ]
          refine wpAnyH_take (i := 7) (oi := ⟨some 55, _, _, _, _, _⟩) (v := ?_) rfl (by kernel_rfl) (by kernel_rfl) (by kernel_rfl) (fun _ _ _ h => h) (Or.inl ⟨by rfl, ?_⟩) hHeld ?_
          rotate_left
          · intro W hSw
            have m3 : W.cell? ⟨g2, o2 + 10, none⟩ = some (.string sub) := (hSw.2.cell (p := ⟨g2, o2 + 10, none⟩) HG2.out).trans HM.out.2.1
            go_simp
            try with_reducible rfl
          try simp only [Act.put, List.setIfInBounds_toArray, List.set_cons_zero, List.set_cons_succ]
          refine wpAnyH_take (i := 8) (oi := ⟨some 56, _, _, _, _, _⟩) (v := ?_) rfl (by kernel_rfl) (by kernel_rfl) (by kernel_rfl) (fun _ _ _ h => h) (Or.inl ⟨by rfl, ?_⟩) hHeld ?_
          rotate_left
          · intro W hSw
            go_simp
            try with_reducible rfl
          try simp only [Act.put, List.setIfInBounds_toArray, List.set_cons_zero, List.set_cons_succ]
          refine wpAnyH_take (i := 9) (oi := ⟨some 57, _, _, _, _, _⟩) (v := ?_) rfl (by kernel_rfl) (by kernel_rfl) (by kernel_rfl) (fun _ _ _ h => h) (Or.inl ⟨by rfl, ?_⟩) hHeld ?_
          rotate_left
          · intro W hSw
            go_simp
            try with_reducible rfl
          try simp only [Act.put, List.setIfInBounds_toArray, List.set_cons_zero, List.set_cons_succ]
          refine wpAnyH_take (i := 10) (oi := ⟨some 58, _, _, _, _, _⟩) (v := ?_) rfl (by kernel_rfl) (by kernel_rfl) (by kernel_rfl) (fun _ _ _ h => h) (Or.inl ⟨by rfl, ?_⟩) hHeld ?_
          rotate_left
          · intro W hSw
            go_simp
            try with_reducible rfl
          try simp only [Act.put, List.setIfInBounds_toArray, List.set_cons_zero, List.set_cons_succ]
          refine wpAnyH_take (i := 11) (oi := ⟨some 59, _, _, _, _, _⟩) (v := ?_) rfl (by kernel_rfl) (by kernel_rfl) (by kernel_rfl) (fun _ _ _ h => h) (Or.inl ⟨by rfl, ?_⟩) hHeld ?_
          rotate_left
          · intro W hSw
            have m4 : W.cell? ⟨g2, o2 + 13, none⟩ = some (.string key) := (hSw.2.cell (p := ⟨g2, o2 + 13, none⟩) HG2.out).trans HM.out.2.2.1
            go_simp
            try with_reducible rfl
          try simp only [Act.put, List.setIfInBounds_toArray, List.set_cons_zero, List.set_cons_succ]
          refine wpAnyH_take (i := 12) (oi := ⟨some 60, _, _, _, _, _⟩) (v := ?_) rfl (by kernel_rfl) (by kernel_rfl) (by kernel_rfl) (fun _ _ _ h => h) (Or.inl ⟨by rfl, ?_⟩) hHeld ?_
          rotate_left
          · intro W hSw
            go_simp
            try with_reducible rfl
          try simp only [Act.put, List.setIfInBounds_toArray, List.set_cons_zero, List.set_cons_succ]
          refine wpAnyH_take (i := 13) (oi := ⟨some 61, _, _, _, _, _⟩) (v := ?_) rfl (by kernel_rfl) (by kernel_rfl) (by kernel_rfl) (fun _ _ _ h => h) (Or.inl ⟨by rfl, ?_⟩) hHeld ?_
          rotate_left
          · intro W hSw
            go_simp
            try with_reducible rfl
          try simp only [Act.put, List.setIfInBounds_toArray, List.set_cons_zero, List.set_cons_succ]
          refine wpAnyH_take (i := 14) (oi := ⟨some 62, _, _, _, _, _⟩) (v := ?_) rfl (by kernel_rfl) (by kernel_rfl) (by kernel_rfl) (fun _ _ _ h => h) (Or.inl ⟨by rfl, ?_⟩) hHeld ?_
          rotate_left
          · intro W hSw
            go_simp
            try with_reducible rfl
          try simp only [Act.put, List.setIfInBounds_toArray, List.set_cons_zero, List.set_cons_succ]
          refine wpAnyH_take (i := 15) (oi := ⟨some 63, _, _, _, _, _⟩) (v := ?_) rfl (by kernel_rfl) (by kernel_rfl) (by kernel_rfl) (fun _ _ _ h => h) (Or.inl ⟨by rfl, ?_⟩) hHeld ?_
          rotate_left
          · intro W hSw
            have m5 : W.cell? ⟨g2, o2 + 16, none⟩ = some (.string S5) := (hSw.2.cell (p := ⟨g2, o2 + 16, none⟩) HG2.out).trans HM.out.2.2.2.1
            go_simp
            try with_reducible rfl
          try simp only [Act.put, List.setIfInBounds_toArray, List.set_cons_zero, List.set_cons_succ]
          refine wpAnyH_take (i := 16) (oi := ⟨some 64, _, _, _, _, _⟩) (v := ?_) rfl (by kernel_rfl) (by kernel_rfl) (by kernel_rfl) (fun _ _ _ h => h) (Or.inl ⟨by rfl, ?_⟩) hHeld ?_
          rotate_left
          · intro W hSw
            go_simp
            try with_reducible rfl
          try simp only [Act.put, List.setIfInBounds_toArray, List.set_cons_zero, List.set_cons_succ]
          refine wpAnyH_take (i := 17) (oi := ⟨some 65, _, _, _, _, _⟩) (v := ?_) rfl (by kernel_rfl) (by kernel_rfl) (by kernel_rfl) (fun _ _ _ h => h) (Or.inl ⟨by rfl, ?_⟩) hHeld ?_
          rotate_left
          · intro W hSw
            go_simp
            try with_reducible rfl
          try simp only [Act.put, List.setIfInBounds_toArray, List.set_cons_zero, List.set_cons_succ]
          refine wpAnyH_take (i := 18) (oi := ⟨some 66, _, _, _, _, _⟩) (v := ?_) rfl (by kernel_rfl) (by kernel_rfl) (by kernel_rfl) (fun _ _ _ h => h) (Or.inl ⟨by rfl, ?_⟩) hHeld ?_
          rotate_left
          · intro W hSw
            go_simp
            try with_reducible rfl
          try simp only [Act.put, List.setIfInBounds_toArray, List.set_cons_zero, List.set_cons_succ]
          refine wpAnyH_take (i := 19) (oi := ⟨some 67, _, _, _, _, _⟩) (v := ?_) rfl (by kernel_rfl) (by kernel_rfl) (by kernel_rfl) (fun _ _ _ h => h) (Or.inl ⟨by rfl, ?_⟩) hHeld ?_
          rotate_left
          · intro W hSw
            have m8a : W.cell? ⟨g2, o2 + 24, none⟩ = some (.int .i64 t8) := (hSw.2.cell (p := ⟨g2, o2 + 24, none⟩) HG2.out).trans HM.out.2.2.2.2.2.2.2.2.2.2.2.2.2.2.1
            have m8b : W.cell? ⟨g2, o2 + 25, none⟩ = some (.string s8) := (hSw.2.cell (p := ⟨g2, o2 + 25, none⟩) HG2.out).trans HM.out.2.2.2.2.2.2.2.2.2.2.2.2.2.2.2.1
            have m8c : W.cell? ⟨g2, o2 + 26, none⟩ = some (.slice a8 l8 c8) := (hSw.2.cell (p := ⟨g2, o2 + 26, none⟩) HG2.out).trans HM.out.2.2.2.2.2.2.2.2.2.2.2.2.2.2.2.2.1
            go_simp
            try with_reducible rfl
          try simp only [Act.put, List.setIfInBounds_toArray, List.set_cons_zero, List.set_cons_succ]
          refine wpAnyH_take (i := 21) (oi := ⟨some 69, _, _, _, _, _⟩) (v := ?_) rfl (by kernel_rfl) (by kernel_rfl) (by kernel_rfl) (fun _ _ _ h => h) (Or.inl ⟨by rfl, ?_⟩) hHeld ?_
          rotate_left
          · intro W hSw
            go_simp
            try with_reducible rfl
          try simp only [Act.put, List.setIfInBounds_toArray, List.set_cons_zero, List.set_cons_succ]
          refine wpAnyH_take (i := 22) (oi := ⟨some 70, _, _, _, _, _⟩) (v := ?_) rfl (by kernel_rfl) (by kernel_rfl) (by kernel_rfl) (fun _ _ _ h => h) (Or.inl ⟨by rfl, ?_⟩) hHeld ?_
          rotate_left
          · intro W hSw
            go_simp
            try with_reducible rfl
          try simp only [Act.put, List.setIfInBounds_toArray, List.set_cons_zero, List.set_cons_succ]
          refine wpAnyH_take (i := 23) (oi := ⟨some 71, _, _, _, _, _⟩) (v := ?_) rfl (by kernel_rfl) (by kernel_rfl) (by kernel_rfl) (fun _ _ _ h => h) (Or.inl ⟨by rfl, ?_⟩) hHeld ?_
          rotate_left
          · intro W hSw
            have m9a : W.cell? ⟨g2, o2 + 27, none⟩ = some (.int .i64 t9) := (hSw.2.cell (p := ⟨g2, o2 + 27, none⟩) HG2.out).trans HM.out.2.2.2.2.2.2.2.2.2.2.2.2.2.2.2.2.2.1
            have m9b : W.cell? ⟨g2, o2 + 28, none⟩ = some (.string s9) := (hSw.2.cell (p := ⟨g2, o2 + 28, none⟩) HG2.out).trans HM.out.2.2.2.2.2.2.2.2.2.2.2.2.2.2.2.2.2.2.1
            have m9c : W.cell? ⟨g2, o2 + 29, none⟩ = some (.slice a9 l9 c9) := (hSw.2.cell (p := ⟨g2, o2 + 29, none⟩) HG2.out).trans HM.out.2.2.2.2.2.2.2.2.2.2.2.2.2.2.2.2.2.2.2.1
            go_simp
            try with_reducible rfl
          try simp only [Act.put, List.setIfInBounds_toArray, List.set_cons_zero, List.set_cons_succ]
          refine wpAnyH_take (i := 25) (oi := ⟨some 73, _, _, _, _, _⟩) (v := ?_) rfl (by kernel_rfl) (by kernel_rfl) (by kernel_rfl) (fun _ _ _ h => h) (Or.inl ⟨by rfl, ?_⟩) hHeld ?_
          rotate_left
          · intro W hSw
            go_simp
            try with_reducible rfl
          try simp only [Act.put, List.setIfInBounds_toArray, List.set_cons_zero, List.set_cons_succ]
          refine wpAnyH_take (i := 26) (oi := ⟨some 74, _, _, _, _, _⟩) (v := ?_) rfl (by kernel_rfl) (by kernel_rfl) (by kernel_rfl) (fun _ _ _ h => h) (Or.inl ⟨by rfl, ?_⟩) hHeld ?_
          rotate_left
          · intro W hSw
            go_simp
            try with_reducible rfl
          try simp only [Act.put, List.setIfInBounds_toArray, List.set_cons_zero, List.set_cons_succ]
          refine wpAnyH_take (i := 27) (oi := ⟨some 75, _, _, _, _, _⟩) (v := ?_) rfl (by kernel_rfl) (by kernel_rfl) (by kernel_rfl) (fun _ _ _ h => h) (Or.inl ⟨by rfl, ?_⟩) hHeld ?_
          rotate_left
          · intro W hSw
            have m10a : W.cell? ⟨g2, o2 + 30, none⟩ = some (.int .i64 t10) := (hSw.2.cell (p := ⟨g2, o2 + 30, none⟩) HG2.out).trans HM.out.2.2.2.2.2.2.2.2.2.2.2.2.2.2.2.2.2.2.2.2.1
            have m10b : W.cell? ⟨g2, o2 + 31, none⟩ = some (.string s10) := (hSw.2.cell (p := ⟨g2, o2 + 31, none⟩) HG2.out).trans HM.out.2.2.2.2.2.2.2.2.2.2.2.2.2.2.2.2.2.2.2.2.2.1
            have m10c : W.cell? ⟨g2, o2 + 32, none⟩ = some (.slice a10 l10 c10) := (hSw.2.cell (p := ⟨g2, o2 + 32, none⟩) HG2.out).trans HM.out.2.2.2.2.2.2.2.2.2.2.2.2.2.2.2.2.2.2.2.2.2.2
            go_simp
            try with_reducible rfl
          try simp only [Act.put, List.setIfInBounds_toArray, List.set_cons_zero, List.set_cons_succ]
          refine wpAnyH_take (i := 29) (oi := ⟨some 77, _, _, _, _, _⟩) (v := ?_) rfl (by kernel_rfl) (by kernel_rfl) (by kernel_rfl) (fun _ _ _ h => h) (Or.inl ⟨by rfl, ?_⟩) hHeld ?_
          rotate_left
          · intro W hSw
            go_simp
            try with_reducible rfl
          try simp only [Act.put, List.setIfInBounds_toArray, List.set_cons_zero, List.set_cons_succ]
          refine wpAnyH_take (i := 30) (oi := ⟨some 78, _, _, _, _, _⟩) (v := ?_) rfl (by kernel_rfl) (by kernel_rfl) (by kernel_rfl) (fun _ _ _ h => h) (Or.inl ⟨by rfl, ?_⟩) hHeld ?_
          rotate_left
          · intro W hSw
            go_simp
            try with_reducible rfl
          try simp only [Act.put, List.setIfInBounds_toArray, List.set_cons_zero, List.set_cons_succ]
          refine wpAnyH_take (i := 31) (oi := ⟨some 79, _, _, _, _, _⟩) (v := ?_) rfl (by kernel_rfl) (by kernel_rfl) (by kernel_rfl) (fun _ _ _ h => h) (Or.inl ⟨by rfl, ?_⟩) hHeld ?_
          rotate_left
          · intro W hSw
            go_simp
            try with_reducible rfl
          try simp only [Act.put, List.setIfInBounds_toArray, List.set_cons_zero, List.set_cons_succ]
          refine wpAnyH_take (i := 32) (oi := ⟨some 80, _, _, _, _, _⟩) (v := ?_) rfl (by kernel_rfl) (by kernel_rfl) (by kernel_rfl) (fun _ _ _ h => h) (Or.inl ⟨by rfl, ?_⟩) hHeld ?_
          rotate_left
          · intro W hSw
            have b4 : W.cell? ⟨g1, o1 + 4, none⟩ = some (.string sgt) := (hSw.2.cell (p := ⟨g1, o1 + 4, none⟩) HB1.out.1).trans HB1.out.2.1
            go_simp
            try with_reducible rfl
          try simp only [Act.put, List.setIfInBounds_toArray, List.set_cons_zero, List.set_cons_succ]
          refine wpAnyH_ready (rs := [20, 34]) (by kernel_rfl) (by simp) ?_
          refine AllReadyH.cons (o := ⟨some 68, _, _, _, _, _⟩) rfl (fun K hK => ?_) ?_
          rotate_left
          · refine AllReadyH.cons (o := ⟨some 10, _, _, _, _, _⟩) rfl (fun K hK => ?_) AllReadyH.nil
            obtain ⟨y1, hy1⟩ : ∃ V, V = wd.alloc (Obj.cells #[.int .i64 0, .string ⟨#[]⟩, .string ⟨#[]⟩, .int .i64 0, .int .i64 0, .string ⟨#[]⟩, .bool false, .int .i64 0, .int .i64 0, .slice none 0 0, .slice none 0 0, .slice none 0 0, .string ⟨#[]⟩] 29) := ⟨_, rfl⟩
            have hb : Below wd.heap.size wd y1 := by rw [hy1]; exact (Below.refl _ _).alloc (Nat.le_refl _) _
            have HGC : Hid (Blk y1 wd.heap.size 29 #[.int .i64 0, .string ⟨#[]⟩, .string ⟨#[]⟩, .int .i64 0, .int .i64 0, .string ⟨#[]⟩, .bool false, .int .i64 0, .int .i64 0, .slice none 0 0, .slice none 0 0, .slice none 0 0, .string ⟨#[]⟩]) := by rw [hy1]; exact Blk.new _ _ _
            have HGS : Hid (w2.heap.size ≤ wd.heap.size ∧ y1.heap.size = wd.heap.size + 1) := ⟨hHeld.2.size, by rw [hy1]; exact size_alloc _ _⟩
            have hH := SB _ _ hHeld hb
            go_simp
            rw [← hy1]
            refine hK.out _ _ hH (fun hHeld => ?_)
            clear hK K hH hb hy1
            try simp only [Act.put, List.setIfInBounds_toArray, List.set_cons_zero, List.set_cons_succ]
            obtain ⟨gC, hgC⟩ : ∃ q, wd.heap.size = q := ⟨_, rfl⟩
            rw [hgC] at HGC HGS ⊢
            have HGE : Hid (wd.heap.size = gC) := hgC
            clear hgC
            refine wpAnyH_ready (rs := [20]) (by kernel_rfl) (by simp) ?_
            refine AllReadyH.cons (o := ⟨some 68, _, _, _, _, _⟩) rfl (fun K hK => ?_) AllReadyH.nil
            have EK := intsIn_any 3 t8 s8 (It.kids k8) a8 l8 c8 y1 ((HKS.out.2.2.2.1).below hHeld.2) (Nat.le_trans (szI_kid (t := It.tag k8) (s := It.text k8) (ks := It.kids k8) (HSZ.out k8 (by simp))).2.1 (by decide)) (fun y hy => Nat.le_trans ((szI_kid (t := It.tag k8) (s := It.text k8) (ks := It.kids k8) (HSZ.out k8 (by simp))).2.2 y hy) (by decide))
            rw [HCC.out.2.2.1] at EK
            go_simp
            refine EK.mono ?_
            rintro e y2 ⟨up, rfl, hown, hb⟩
            obtain ⟨pa, pc, hup⟩ : ∃ ao cap, up = .slice ao pol.length cap := by obtain ⟨ao, cap, h, _⟩ := hown.at; exact ⟨ao, cap, h⟩
            obtain ⟨pl, hpl⟩ : ∃ q, pol.length = q := ⟨_, rfl⟩
            rw [hpl] at hup
            subst hup
            have hH := SB _ _ hHeld hb
            have Bp : Hid (∀ b, (Value.slice pa pl pc).ownBlock = some b → y1.heap.size ≤ b ∧ b < y2.heap.size) := fun b hb => World.ownsRow.lt hown b hb
            have Zp : Hid (y1.heap.size ≤ y2.heap.size) := hb.size
            have HGCn : Hid (Blk y2 gC 29 #[.int .i64 0, .string ⟨#[]⟩, .string ⟨#[]⟩, .int .i64 0, .int .i64 0, .string ⟨#[]⟩, .bool false, .int .i64 0, .int .i64 0, .slice none 0 0, .slice none 0 0, .slice none 0 0, .string ⟨#[]⟩]) := HGC.out.on hb
            clear HGC
            have HGC := HGCn
            clear HGCn
            have Hp : Hid (OwnI y2 w2.heap.size (.slice pa pl pc) pol) := hown.base hHeld.2.size
            go_wp2_with fail
            refine hK.out _ _ hH (fun hHeld => ?_)
            clear hK K hH hb hown EK hpl
            try simp only [Act.put, List.setIfInBounds_toArray, List.set_cons_zero, List.set_cons_succ]
            refine wpAnyH_ready (rs := [24]) (by kernel_rfl) (by simp) ?_
            refine AllReadyH.cons (o := ⟨some 72, _, _, _, _, _⟩) rfl (fun K hK => ?_) AllReadyH.nil
            have EK := textsIn_any 3 t9 s9 (It.kids k9) a9 l9 c9 y2 ((HKS.out.2.2.2.2.1).below hHeld.2) (Nat.le_trans (szI_kid (t := It.tag k9) (s := It.text k9) (ks := It.kids k9) (HSZ.out k9 (by simp))).2.1 (by decide)) (fun y hy => Nat.le_trans ((szI_kid (t := It.tag k9) (s := It.text k9) (ks := It.kids k9) (HSZ.out k9 (by simp))).2.2 y hy) (by decide))
            rw [HCC.out.2.2.2.1] at EK
            go_simp
            refine EK.mono ?_
            rintro e y3 ⟨ue, rfl, hown, hb⟩
            obtain ⟨ea, ec, hue⟩ : ∃ ao cap, ue = .slice ao per.length cap := by obtain ⟨ao, cap, h, _⟩ := hown.at; exact ⟨ao, cap, h⟩
            obtain ⟨el, hel⟩ : ∃ q, per.length = q := ⟨_, rfl⟩
            rw [hel] at hue
            subst hue
            have hH := SB _ _ hHeld hb
            have Be : Hid (∀ b, (Value.slice ea el ec).ownBlock = some b → y2.heap.size ≤ b ∧ b < y3.heap.size) := fun b hb => World.ownsRow.lt hown b hb
            have Ze : Hid (y2.heap.size ≤ y3.heap.size) := hb.size
            have HGCn : Hid (Blk y3 gC 29 #[.int .i64 0, .string ⟨#[]⟩, .string ⟨#[]⟩, .int .i64 0, .int .i64 0, .string ⟨#[]⟩, .bool false, .int .i64 0, .int .i64 0, .slice none 0 0, .slice none 0 0, .slice none 0 0, .string ⟨#[]⟩]) := HGC.out.on hb
            clear HGC
            have HGC := HGCn
            clear HGCn
            have Hpn : Hid (OwnI y3 w2.heap.size (.slice pa pl pc) pol) := Hp.out.stays hb
            clear Hp
            have Hp := Hpn
            clear Hpn
            have He : Hid (OwnT y3 w2.heap.size (.slice ea el ec) per) := hown.base hHeld.2.size
            go_wp2_with fail
            refine hK.out _ _ hH (fun hHeld => ?_)
            clear hK K hH hb hown EK hel
            try simp only [Act.put, List.setIfInBounds_toArray, List.set_cons_zero, List.set_cons_succ]
            refine wpAnyH_ready (rs := [28]) (by kernel_rfl) (by simp) ?_
            refine AllReadyH.cons (o := ⟨some 76, _, _, _, _, _⟩) rfl (fun K hK => ?_) AllReadyH.nil
            have EK := textsIn_any 3 t10 s10 (It.kids k10) a10 l10 c10 y3 ((HKS.out.2.2.2.2.2).below hHeld.2) (Nat.le_trans (szI_kid (t := It.tag k10) (s := It.text k10) (ks := It.kids k10) (HSZ.out k10 (by simp))).2.1 (by decide)) (fun y hy => Nat.le_trans ((szI_kid (t := It.tag k10) (s := It.text k10) (ks := It.kids k10) (HSZ.out k10 (by simp))).2.2 y hy) (by decide))
            rw [HCC.out.2.2.2.2] at EK
            go_simp
            refine EK.mono ?_
            rintro e y4 ⟨ud, rfl, hown, hb⟩
            obtain ⟨da, dc, hud⟩ : ∃ ao cap, ud = .slice ao den.length cap := by obtain ⟨ao, cap, h, _⟩ := hown.at; exact ⟨ao, cap, h⟩
            obtain ⟨dl, hdl⟩ : ∃ q, den.length = q := ⟨_, rfl⟩
            rw [hdl] at hud
            subst hud
            have hH := SB _ _ hHeld hb
            have Bd : Hid (∀ b, (Value.slice da dl dc).ownBlock = some b → y3.heap.size ≤ b ∧ b < y4.heap.size) := fun b hb => World.ownsRow.lt hown b hb
            have Zd : Hid (y3.heap.size ≤ y4.heap.size) := hb.size
            have HGCn : Hid (Blk y4 gC 29 #[.int .i64 0, .string ⟨#[]⟩, .string ⟨#[]⟩, .int .i64 0, .int .i64 0, .string ⟨#[]⟩, .bool false, .int .i64 0, .int .i64 0, .slice none 0 0, .slice none 0 0, .slice none 0 0, .string ⟨#[]⟩]) := HGC.out.on hb
            clear HGC
            have HGC := HGCn
            clear HGCn
            have Hpn : Hid (OwnI y4 w2.heap.size (.slice pa pl pc) pol) := Hp.out.stays hb
            clear Hp
            have Hp := Hpn
            clear Hpn
            have Hen : Hid (OwnT y4 w2.heap.size (.slice ea el ec) per) := He.out.stays hb
            clear He
            have He := Hen
            clear Hen
            have Hd : Hid (OwnT y4 w2.heap.size (.slice da dl dc) den) := hown.base hHeld.2.size
            go_wp2_with fail
            refine hK.out _ _ hH (fun hHeld => ?_)
            clear hK K hH hb hown EK hdl
            try simp only [Act.put, List.setIfInBounds_toArray, List.set_cons_zero, List.set_cons_succ]
            refine wpAnyH_take (i := 33) (oi := ⟨some 81, _, _, _, _, _⟩) (v := ?_) rfl (by kernel_rfl) (by kernel_rfl) (by kernel_rfl) (fun _ _ _ h => h) (Or.inl ⟨by rfl, ?_⟩) hHeld ?_
            rotate_left
            · intro W hSw
              go_simp
              try with_reducible rfl
            try simp only [Act.put, List.setIfInBounds_toArray, List.set_cons_zero, List.set_cons_succ]
            refine wpAnyH_ready (rs := [35]) (by kernel_rfl) (by simp) ?_
            refine AllReadyH.cons (o := ⟨none, _, _, _, _, _⟩) rfl (fun K hK => ?_) AllReadyH.nil
            have g0c : y4.cell? ⟨gC, 0, none⟩ = some (.int .i64 0) := HGC.out.cell 0
            have g1c : y4.cell? ⟨gC, 1, none⟩ = some (.string ⟨#[]⟩) := HGC.out.cell 1
            have g2c : y4.cell? ⟨gC, 2, none⟩ = some (.string ⟨#[]⟩) := HGC.out.cell 2
            have g3c : y4.cell? ⟨gC, 3, none⟩ = some (.int .i64 0) := HGC.out.cell 3
            have g4c : y4.cell? ⟨gC, 4, none⟩ = some (.int .i64 0) := HGC.out.cell 4
            have g5c : y4.cell? ⟨gC, 5, none⟩ = some (.string ⟨#[]⟩) := HGC.out.cell 5
            have g6c : y4.cell? ⟨gC, 6, none⟩ = some (.bool false) := HGC.out.cell 6
            have g7c : y4.cell? ⟨gC, 7, none⟩ = some (.int .i64 0) := HGC.out.cell 7
            have g8c : y4.cell? ⟨gC, 8, none⟩ = some (.int .i64 0) := HGC.out.cell 8
            have g9c : y4.cell? ⟨gC, 9, none⟩ = some (.slice none 0 0) := HGC.out.cell 9
            have g10c : y4.cell? ⟨gC, 10, none⟩ = some (.slice none 0 0) := HGC.out.cell 10
            have g11c : y4.cell? ⟨gC, 11, none⟩ = some (.slice none 0 0) := HGC.out.cell 11
            have g12c : y4.cell? ⟨gC, 12, none⟩ = some (.string ⟨#[]⟩) := HGC.out.cell 12
            have gf := fun j => HGC.out.free j
            have FZ : Hid ((∀ b, (Value.slice pa pl pc).ownBlock = some b → b ≠ gC) ∧ (∀ b, (Value.slice ea el ec).ownBlock = some b → b ≠ gC) ∧ (∀ b, (Value.slice da dl dc).ownBlock = some b → b ≠ gC)) := by
              have := HGE.out; have := HGS.out; have := Zp.out; have := Ze.out; have := Zd.out
              exact ⟨fun b hb => by have := Bp.out b hb; omega, fun b hb => by have := Be.out b hb; omega, fun b hb => by have := Bd.out b hb; omega⟩
            have FA : Hid ((Ap (.slice pa pl pc) (.slice ea el ec) ∧ Ap (.slice ea el ec) (.slice pa pl pc)) ∧ (Ap (.slice pa pl pc) (.slice da dl dc) ∧ Ap (.slice da dl dc) (.slice pa pl pc)) ∧ (Ap (.slice ea el ec) (.slice da dl dc) ∧ Ap (.slice da dl dc) (.slice ea el ec))) := by
              have := HGE.out; have := HGS.out; have := Zp.out; have := Ze.out; have := Zd.out
              exact ⟨apart_of (fun b hb => (Bp.out b hb).2) (fun b hb => (Be.out b hb).1) (by omega), apart_of (fun b hb => (Bp.out b hb).2) (fun b hb => (Bd.out b hb).1) (by omega), apart_of (fun b hb => (Be.out b hb).2) (fun b hb => (Bd.out b hb).1) (by omega)⟩
            go_simp
            generalize hV : World.setCell _ { block := gC, off := 12 } (Value.string sgt) = V
            have FIN : Out [gC] y4 V ∧ Blk V gC 29 #[.int .i64 0, .string iss, .string sub, .int .i64 0, .int .i64 0, .string key, .bool ca, .int .i64 0, .int .i64 0, .slice pa pl pc, .slice ea el ec, .slice da dl dc, .string sgt] := by
              rw [← hV]
              refine ⟨?_, ?_⟩
              · iterate 13 refine Out.setCell ?_ _ _ (by simp)
                exact Out.refl _ _
              · exact set13 HGC.out
            clear hV gf g0c g1c g2c g3c g4c g5c g6c g7c g8c g9c g10c g11c g12c
            have hgw : w2.heap.size ≤ gC ∧ w.heap.size < w2.heap.size := ⟨by have := HGS.out; omega, HY.out.2.2.2.2⟩
            have hH : (Below w.heap.size w V ∧ Blk V w.heap.size 29 #[.int .i64 0, .string ⟨#[]⟩, .string ⟨#[]⟩, .int .i64 0, .int .i64 0, .string ⟨#[]⟩, .bool false, .int .i64 0, .int .i64 0, .slice none 0 0, .slice none 0 0, .slice none 0 0, .string ⟨#[]⟩]) ∧ Below w2.heap.size w2 V := ⟨⟨below_out hHeld.1.1 FIN.1 (by omega), hHeld.1.2.outX FIN.1 (by simp; omega)⟩, below_out hHeld.2 FIN.1 hgw.1⟩
            have HR : Hid (RC8 w w2 V gC #[.int .i64 0, .string iss, .string sub, .int .i64 0, .int .i64 0, .string key, .bool ca, .int .i64 0, .int .i64 0, .slice pa pl pc, .slice ea el ec, .slice da dl dc, .string sgt] (.slice pa pl pc) (.slice ea el ec) (.slice da dl dc) pol per den) := ⟨hH.1.1, hH.2, hH.1.2, FIN.2, ⟨FIN.1.row (fun b hb => by have := FZ.out.1 b hb; simp; omega) Hp.out, FIN.1.row (fun b hb => by have := FZ.out.2.1 b hb; simp; omega) He.out, FIN.1.row (fun b hb => by have := FZ.out.2.2 b hb; simp; omega) Hd.out⟩, FA.out, fun b hb => hb.elim (FZ.out.1 b) (fun h => h.elim (FZ.out.2.1 b) (FZ.out.2.2 b)), hgw⟩
            refine hK.out _ _ hH (fun hHeld => ?_)
            clear hK K hH FIN hHeld
            try simp only [Act.put, List.setIfInBounds_toArray, List.set_cons_zero, List.set_cons_succ]
            refine wpAnyH_done (by kernel_rfl) ?_ _
            go_wp2_with fail
            go_meet
            case rel => exact ⟨gC, rfl, _, _, _, _, _, _, _, _, _, HR.out⟩
          have EK := intsIn_any 3 t8 s8 (It.kids k8) a8 l8 c8 wd ((HKS.out.2.2.2.1).below hHeld.2) (Nat.le_trans (szI_kid (t := It.tag k8) (s := It.text k8) (ks := It.kids k8) (HSZ.out k8 (by simp))).2.1 (by decide)) (fun y hy => Nat.le_trans ((szI_kid (t := It.tag k8) (s := It.text k8) (ks := It.kids k8) (HSZ.out k8 (by simp))).2.2 y hy) (by decide))
          rw [HCC.out.2.2.1] at EK
          go_simp
          refine EK.mono ?_
          rintro e y5 ⟨up, rfl, hown, hb⟩
          obtain ⟨pa, pc, hup⟩ : ∃ ao cap, up = .slice ao pol.length cap := by obtain ⟨ao, cap, h, _⟩ := hown.at; exact ⟨ao, cap, h⟩
          obtain ⟨pl, hpl⟩ : ∃ q, pol.length = q := ⟨_, rfl⟩
          rw [hpl] at hup
          subst hup
          have hH := SB _ _ hHeld hb
          have Bp : Hid (∀ b, (Value.slice pa pl pc).ownBlock = some b → wd.heap.size ≤ b ∧ b < y5.heap.size) := fun b hb => World.ownsRow.lt hown b hb
          have Zp : Hid (wd.heap.size ≤ y5.heap.size) := hb.size
          have Hp : Hid (OwnI y5 w2.heap.size (.slice pa pl pc) pol) := hown.base hHeld.2.size
          go_wp2_with fail
          refine hK.out _ _ hH (fun hHeld => ?_)
          clear hK K hH hb hown EK hpl
          try simp only [Act.put, List.setIfInBounds_toArray, List.set_cons_zero, List.set_cons_succ]
          refine wpAnyH_ready (rs := [24, 34]) (by kernel_rfl) (by simp) ?_
          refine AllReadyH.cons (o := ⟨some 72, _, _, _, _, _⟩) rfl (fun K hK => ?_) ?_
          rotate_left
          · refine AllReadyH.cons (o := ⟨some 10, _, _, _, _, _⟩) rfl (fun K hK => ?_) AllReadyH.nil
            obtain ⟨y6, hy6⟩ : ∃ V, V = y5.alloc (Obj.cells #[.int .i64 0, .string ⟨#[]⟩, .string ⟨#[]⟩, .int .i64 0, .int .i64 0, .string ⟨#[]⟩, .bool false, .int .i64 0, .int .i64 0, .slice none 0 0, .slice none 0 0, .slice none 0 0, .string ⟨#[]⟩] 29) := ⟨_, rfl⟩
            have hb : Below y5.heap.size y5 y6 := by rw [hy6]; exact (Below.refl _ _).alloc (Nat.le_refl _) _
            have HGC : Hid (Blk y6 y5.heap.size 29 #[.int .i64 0, .string ⟨#[]⟩, .string ⟨#[]⟩, .int .i64 0, .int .i64 0, .string ⟨#[]⟩, .bool false, .int .i64 0, .int .i64 0, .slice none 0 0, .slice none 0 0, .slice none 0 0, .string ⟨#[]⟩]) := by rw [hy6]; exact Blk.new _ _ _
            have HGS : Hid (w2.heap.size ≤ y5.heap.size ∧ y6.heap.size = y5.heap.size + 1) := ⟨hHeld.2.size, by rw [hy6]; exact size_alloc _ _⟩
            have hH := SB _ _ hHeld hb
            have Hpn : Hid (OwnI y6 w2.heap.size (.slice pa pl pc) pol) := Hp.out.stays hb
            clear Hp
            have Hp := Hpn
            clear Hpn
            go_simp
            rw [← hy6]
            refine hK.out _ _ hH (fun hHeld => ?_)
            clear hK K hH hb hy6
            try simp only [Act.put, List.setIfInBounds_toArray, List.set_cons_zero, List.set_cons_succ]
            obtain ⟨gC, hgC⟩ : ∃ q, y5.heap.size = q := ⟨_, rfl⟩
            rw [hgC] at HGC HGS ⊢
            have HGE : Hid (y5.heap.size = gC) := hgC
            clear hgC
            refine wpAnyH_ready (rs := [24]) (by kernel_rfl) (by simp) ?_
            refine AllReadyH.cons (o := ⟨some 72, _, _, _, _, _⟩) rfl (fun K hK => ?_) AllReadyH.nil
            have EK := textsIn_any 3 t9 s9 (It.kids k9) a9 l9 c9 y6 ((HKS.out.2.2.2.2.1).below hHeld.2) (Nat.le_trans (szI_kid (t := It.tag k9) (s := It.text k9) (ks := It.kids k9) (HSZ.out k9 (by simp))).2.1 (by decide)) (fun y hy => Nat.le_trans ((szI_kid (t := It.tag k9) (s := It.text k9) (ks := It.kids k9) (HSZ.out k9 (by simp))).2.2 y hy) (by decide))
            rw [HCC.out.2.2.2.1] at EK
            go_simp
            refine EK.mono ?_
            rintro e y7 ⟨ue, rfl, hown, hb⟩
            obtain ⟨ea, ec, hue⟩ : ∃ ao cap, ue = .slice ao per.length cap := by obtain ⟨ao, cap, h, _⟩ := hown.at; exact ⟨ao, cap, h⟩
            obtain ⟨el, hel⟩ : ∃ q, per.length = q := ⟨_, rfl⟩
            rw [hel] at hue
            subst hue
            have hH := SB _ _ hHeld hb
            have Be : Hid (∀ b, (Value.slice ea el ec).ownBlock = some b → y6.heap.size ≤ b ∧ b < y7.heap.size) := fun b hb => World.ownsRow.lt hown b hb
            have Ze : Hid (y6.heap.size ≤ y7.heap.size) := hb.size
            have HGCn : Hid (Blk y7 gC 29 #[.int .i64 0, .string ⟨#[]⟩, .string ⟨#[]⟩, .int .i64 0, .int .i64 0, .string ⟨#[]⟩, .bool false, .int .i64 0, .int .i64 0, .slice none 0 0, .slice none 0 0, .slice none 0 0, .string ⟨#[]⟩]) := HGC.out.on hb
            clear HGC
            have HGC := HGCn
            clear HGCn
            have Hpn : Hid (OwnI y7 w2.heap.size (.slice pa pl pc) pol) := Hp.out.stays hb
            clear Hp
            have Hp := Hpn
            clear Hpn
            have He : Hid (OwnT y7 w2.heap.size (.slice ea el ec) per) := hown.base hHeld.2.size
            go_wp2_with fail
            refine hK.out _ _ hH (fun hHeld => ?_)
            clear hK K hH hb hown EK hel
            try simp only [Act.put, List.setIfInBounds_toArray, List.set_cons_zero, List.set_cons_succ]
            refine wpAnyH_ready (rs := [28]) (by kernel_rfl) (by simp) ?_
            refine AllReadyH.cons (o := ⟨some 76, _, _, _, _, _⟩) rfl (fun K hK => ?_) AllReadyH.nil
            have EK := textsIn_any 3 t10 s10 (It.kids k10) a10 l10 c10 y7 ((HKS.out.2.2.2.2.2).below hHeld.2) (Nat.le_trans (szI_kid (t := It.tag k10) (s := It.text k10) (ks := It.kids k10) (HSZ.out k10 (by simp))).2.1 (by decide)) (fun y hy => Nat.le_trans ((szI_kid (t := It.tag k10) (s := It.text k10) (ks := It.kids k10) (HSZ.out k10 (by simp))).2.2 y hy) (by decide))
            rw [HCC.out.2.2.2.2] at EK
            go_simp
            refine EK.mono ?_
            rintro e y8 ⟨ud, rfl, hown, hb⟩
            obtain ⟨da, dc, hud⟩ : ∃ ao cap, ud = .slice ao den.length cap := by obtain ⟨ao, cap, h, _⟩ := hown.at; exact ⟨ao, cap, h⟩
            obtain ⟨dl, hdl⟩ : ∃ q, den.length = q := ⟨_, rfl⟩
            rw [hdl] at hud
            subst hud
            have hH := SB _ _ hHeld hb
            have Bd : Hid (∀ b, (Value.slice da dl dc).ownBlock = some b → y7.heap.size ≤ b ∧ b < y8.heap.size) := fun b hb => World.ownsRow.lt hown b hb
            have Zd : Hid (y7.heap.size ≤ y8.heap.size) := hb.size
            have HGCn : Hid (Blk y8 gC 29 #[.int .i64 0, .string ⟨#[]⟩, .string ⟨#[]⟩, .int .i64 0, .int .i64 0, .string ⟨#[]⟩, .bool false, .int .i64 0, .int .i64 0, .slice none 0 0, .slice none 0 0, .slice none 0 0, .string ⟨#[]⟩]) := HGC.out.on hb
            clear HGC
            have HGC := HGCn
            clear HGCn
            have Hpn : Hid (OwnI y8 w2.heap.size (.slice pa pl pc) pol) := Hp.out.stays hb
            clear Hp
            have Hp := Hpn
            clear Hpn
            have Hen : Hid (OwnT y8 w2.heap.size (.slice ea el ec) per) := He.out.stays hb
            clear He
            have He := Hen
            clear Hen
            have Hd : Hid (OwnT y8 w2.heap.size (.slice da dl dc) den) := hown.base hHeld.2.size
            go_wp2_with fail
            refine hK.out _ _ hH (fun hHeld => ?_)
            clear hK K hH hb hown EK hdl
            try simp only [Act.put, List.setIfInBounds_toArray, List.set_cons_zero, List.set_cons_succ]
            refine wpAnyH_take (i := 33) (oi := ⟨some 81, _, _, _, _, _⟩) (v := ?_) rfl (by kernel_rfl) (by kernel_rfl) (by kernel_rfl) (fun _ _ _ h => h) (Or.inl ⟨by rfl, ?_⟩) hHeld ?_
            rotate_left
            · intro W hSw
              go_simp
              try with_reducible rfl
            try simp only [Act.put, List.setIfInBounds_toArray, List.set_cons_zero, List.set_cons_succ]
            refine wpAnyH_ready (rs := [35]) (by kernel_rfl) (by simp) ?_
            refine AllReadyH.cons (o := ⟨none, _, _, _, _, _⟩) rfl (fun K hK => ?_) AllReadyH.nil
            have g0c : y8.cell? ⟨gC, 0, none⟩ = some (.int .i64 0) := HGC.out.cell 0
            have g1c : y8.cell? ⟨gC, 1, none⟩ = some (.string ⟨#[]⟩) := HGC.out.cell 1
            have g2c : y8.cell? ⟨gC, 2, none⟩ = some (.string ⟨#[]⟩) := HGC.out.cell 2
            have g3c : y8.cell? ⟨gC, 3, none⟩ = some (.int .i64 0) := HGC.out.cell 3
            have g4c : y8.cell? ⟨gC, 4, none⟩ = some (.int .i64 0) := HGC.out.cell 4
            have g5c : y8.cell? ⟨gC, 5, none⟩ = some (.string ⟨#[]⟩) := HGC.out.cell 5
            have g6c : y8.cell? ⟨gC, 6, none⟩ = some (.bool false) := HGC.out.cell 6
            have g7c : y8.cell? ⟨gC, 7, none⟩ = some (.int .i64 0) := HGC.out.cell 7
            have g8c : y8.cell? ⟨gC, 8, none⟩ = some (.int .i64 0) := HGC.out.cell 8
            have g9c : y8.cell? ⟨gC, 9, none⟩ = some (.slice none 0 0) := HGC.out.cell 9
            have g10c : y8.cell? ⟨gC, 10, none⟩ = some (.slice none 0 0) := HGC.out.cell 10
            have g11c : y8.cell? ⟨gC, 11, none⟩ = some (.slice none 0 0) := HGC.out.cell 11
            have g12c : y8.cell? ⟨gC, 12, none⟩ = some (.string ⟨#[]⟩) := HGC.out.cell 12
            have gf := fun j => HGC.out.free j
            have FZ : Hid ((∀ b, (Value.slice pa pl pc).ownBlock = some b → b ≠ gC) ∧ (∀ b, (Value.slice ea el ec).ownBlock = some b → b ≠ gC) ∧ (∀ b, (Value.slice da dl dc).ownBlock = some b → b ≠ gC)) := by
              have := HGE.out; have := HGS.out; have := Zp.out; have := Ze.out; have := Zd.out
              exact ⟨fun b hb => by have := Bp.out b hb; omega, fun b hb => by have := Be.out b hb; omega, fun b hb => by have := Bd.out b hb; omega⟩
            have FA : Hid ((Ap (.slice pa pl pc) (.slice ea el ec) ∧ Ap (.slice ea el ec) (.slice pa pl pc)) ∧ (Ap (.slice pa pl pc) (.slice da dl dc) ∧ Ap (.slice da dl dc) (.slice pa pl pc)) ∧ (Ap (.slice ea el ec) (.slice da dl dc) ∧ Ap (.slice da dl dc) (.slice ea el ec))) := by
              have := HGE.out; have := HGS.out; have := Zp.out; have := Ze.out; have := Zd.out
              exact ⟨apart_of (fun b hb => (Bp.out b hb).2) (fun b hb => (Be.out b hb).1) (by omega), apart_of (fun b hb => (Bp.out b hb).2) (fun b hb => (Bd.out b hb).1) (by omega), apart_of (fun b hb => (Be.out b hb).2) (fun b hb => (Bd.out b hb).1) (by omega)⟩
            go_simp
            generalize hV : World.setCell _ { block := gC, off := 12 } (Value.string sgt) = V
            have FIN : Out [gC] y8 V ∧ Blk V gC 29 #[.int .i64 0, .string iss, .string sub, .int .i64 0, .int .i64 0, .string key, .bool ca, .int .i64 0, .int .i64 0, .slice pa pl pc, .slice ea el ec, .slice da dl dc, .string sgt] := by
              rw [← hV]
              refine ⟨?_, ?_⟩
              · iterate 13 refine Out.setCell ?_ _ _ (by simp)
                exact Out.refl _ _
              · exact set13 HGC.out
            clear hV gf g0c g1c g2c g3c g4c g5c g6c g7c g8c g9c g10c g11c g12c
            have hgw : w2.heap.size ≤ gC ∧ w.heap.size < w2.heap.size := ⟨by have := HGS.out; omega, HY.out.2.2.2.2⟩
            have hH : (Below w.heap.size w V ∧ Blk V w.heap.size 29 #[.int .i64 0, .string ⟨#[]⟩, .string ⟨#[]⟩, .int .i64 0, .int .i64 0, .string ⟨#[]⟩, .bool false, .int .i64 0, .int .i64 0, .slice none 0 0, .slice none 0 0, .slice none 0 0, .string ⟨#[]⟩]) ∧ Below w2.heap.size w2 V := ⟨⟨below_out hHeld.1.1 FIN.1 (by omega), hHeld.1.2.outX FIN.1 (by simp; omega)⟩, below_out hHeld.2 FIN.1 hgw.1⟩
            have HR : Hid (RC8 w w2 V gC #[.int .i64 0, .string iss, .string sub, .int .i64 0, .int .i64 0, .string key, .bool ca, .int .i64 0, .int .i64 0, .slice pa pl pc, .slice ea el ec, .slice da dl dc, .string sgt] (.slice pa pl pc) (.slice ea el ec) (.slice da dl dc) pol per den) := ⟨hH.1.1, hH.2, hH.1.2, FIN.2, ⟨FIN.1.row (fun b hb => by have := FZ.out.1 b hb; simp; omega) Hp.out, FIN.1.row (fun b hb => by have := FZ.out.2.1 b hb; simp; omega) He.out, FIN.1.row (fun b hb => by have := FZ.out.2.2 b hb; simp; omega) Hd.out⟩, FA.out, fun b hb => hb.elim (FZ.out.1 b) (fun h => h.elim (FZ.out.2.1 b) (FZ.out.2.2 b)), hgw⟩
            refine hK.out _ _ hH (fun hHeld => ?_)
            clear hK K hH FIN hHeld
            try simp only [Act.put, List.setIfInBounds_toArray, List.set_cons_zero, List.set_cons_succ]
            refine wpAnyH_done (by kernel_rfl) ?_ _
            go_wp2_with fail
            go_meet
            case rel => exact ⟨gC, rfl, _, _, _, _, _, _, _, _, _, HR.out⟩
          have EK := textsIn_any 3 t9 s9 (It.kids k9) a9 l9 c9 y5 ((HKS.out.2.2.2.2.1).below hHeld.2) (Nat.le_trans (szI_kid (t := It.tag k9) (s := It.text k9) (ks := It.kids k9) (HSZ.out k9 (by simp))).2.1 (by decide)) (fun y hy => Nat.le_trans ((szI_kid (t := It.tag k9) (s := It.text k9) (ks := It.kids k9) (HSZ.out k9 (by simp))).2.2 y hy) (by decide))
          rw [HCC.out.2.2.2.1] at EK
          go_simp
          refine EK.mono ?_
          rintro e y9 ⟨ue, rfl, hown, hb⟩
          obtain ⟨ea, ec, hue⟩ : ∃ ao cap, ue = .slice ao per.length cap := by obtain ⟨ao, cap, h, _⟩ := hown.at; exact ⟨ao, cap, h⟩
          obtain ⟨el, hel⟩ : ∃ q, per.length = q := ⟨_, rfl⟩
          rw [hel] at hue
          subst hue
          have hH := SB _ _ hHeld hb
          have Be : Hid (∀ b, (Value.slice ea el ec).ownBlock = some b → y5.heap.size ≤ b ∧ b < y9.heap.size) := fun b hb => World.ownsRow.lt hown b hb
          have Ze : Hid (y5.heap.size ≤ y9.heap.size) := hb.size
          have Hpn : Hid (OwnI y9 w2.heap.size (.slice pa pl pc) pol) := Hp.out.stays hb
          clear Hp
          have Hp := Hpn
          clear Hpn
          have He : Hid (OwnT y9 w2.heap.size (.slice ea el ec) per) := hown.base hHeld.2.size
          go_wp2_with fail
          refine hK.out _ _ hH (fun hHeld => ?_)
          clear hK K hH hb hown EK hel
          try simp only [Act.put, List.setIfInBounds_toArray, List.set_cons_zero, List.set_cons_succ]
          refine wpAnyH_ready (rs := [28, 34]) (by kernel_rfl) (by simp) ?_
          refine AllReadyH.cons (o := ⟨some 76, _, _, _, _, _⟩) rfl (fun K hK => ?_) ?_
          rotate_left
          · refine AllReadyH.cons (o := ⟨some 10, _, _, _, _, _⟩) rfl (fun K hK => ?_) AllReadyH.nil
            obtain ⟨y10, hy10⟩ : ∃ V, V = y9.alloc (Obj.cells #[.int .i64 0, .string ⟨#[]⟩, .string ⟨#[]⟩, .int .i64 0, .int .i64 0, .string ⟨#[]⟩, .bool false, .int .i64 0, .int .i64 0, .slice none 0 0, .slice none 0 0, .slice none 0 0, .string ⟨#[]⟩] 29) := ⟨_, rfl⟩
            have hb : Below y9.heap.size y9 y10 := by rw [hy10]; exact (Below.refl _ _).alloc (Nat.le_refl _) _
            have HGC : Hid (Blk y10 y9.heap.size 29 #[.int .i64 0, .string ⟨#[]⟩, .string ⟨#[]⟩, .int .i64 0, .int .i64 0, .string ⟨#[]⟩, .bool false, .int .i64 0, .int .i64 0, .slice none 0 0, .slice none 0 0, .slice none 0 0, .string ⟨#[]⟩]) := by rw [hy10]; exact Blk.new _ _ _
            have HGS : Hid (w2.heap.size ≤ y9.heap.size ∧ y10.heap.size = y9.heap.size + 1) := ⟨hHeld.2.size, by rw [hy10]; exact size_alloc _ _⟩
            have hH := SB _ _ hHeld hb
            have Hpn : Hid (OwnI y10 w2.heap.size (.slice pa pl pc) pol) := Hp.out.stays hb
            clear Hp
            have Hp := Hpn
            clear Hpn
            have Hen : Hid (OwnT y10 w2.heap.size (.slice ea el ec) per) := He.out.stays hb
            clear He
            have He := Hen
            clear Hen
            go_simp
            rw [← hy10]
            refine hK.out _ _ hH (fun hHeld => ?_)
            clear hK K hH hb hy10
            try simp only [Act.put, List.setIfInBounds_toArray, List.set_cons_zero, List.set_cons_succ]
            obtain ⟨gC, hgC⟩ : ∃ q, y9.heap.size = q := ⟨_, rfl⟩
            rw [hgC] at HGC HGS ⊢
            have HGE : Hid (y9.heap.size = gC) := hgC
            clear hgC
            refine wpAnyH_ready (rs := [28]) (by kernel_rfl) (by simp) ?_
            refine AllReadyH.cons (o := ⟨some 76, _, _, _, _, _⟩) rfl (fun K hK => ?_) AllReadyH.nil
            have EK := textsIn_any 3 t10 s10 (It.kids k10) a10 l10 c10 y10 ((HKS.out.2.2.2.2.2).below hHeld.2) (Nat.le_trans (szI_kid (t := It.tag k10) (s := It.text k10) (ks := It.kids k10) (HSZ.out k10 (by simp))).2.1 (by decide)) (fun y hy => Nat.le_trans ((szI_kid (t := It.tag k10) (s := It.text k10) (ks := It.kids k10) (HSZ.out k10 (by simp))).2.2 y hy) (by decide))
            rw [HCC.out.2.2.2.2] at EK
            go_simp
            refine EK.mono ?_
            rintro e y11 ⟨ud, rfl, hown, hb⟩
            obtain ⟨da, dc, hud⟩ : ∃ ao cap, ud = .slice ao den.length cap := by obtain ⟨ao, cap, h, _⟩ := hown.at; exact ⟨ao, cap, h⟩
            obtain ⟨dl, hdl⟩ : ∃ q, den.length = q := ⟨_, rfl⟩
            rw [hdl] at hud
            subst hud
            have hH := SB _ _ hHeld hb
            have Bd : Hid (∀ b, (Value.slice da dl dc).ownBlock = some b → y10.heap.size ≤ b ∧ b < y11.heap.size) := fun b hb => World.ownsRow.lt hown b hb
            have Zd : Hid (y10.heap.size ≤ y11.heap.size) := hb.size
            have HGCn : Hid (Blk y11 gC 29 #[.int .i64 0, .string ⟨#[]⟩, .string ⟨#[]⟩, .int .i64 0, .int .i64 0, .string ⟨#[]⟩, .bool false, .int .i64 0, .int .i64 0, .slice none 0 0, .slice none 0 0, .slice none 0 0, .string ⟨#[]⟩]) := HGC.out.on hb
            clear HGC
            have HGC := HGCn
            clear HGCn
            have Hpn : Hid (OwnI y11 w2.heap.size (.slice pa pl pc) pol) := Hp.out.stays hb
            clear Hp
            have Hp := Hpn
            clear Hpn
            have Hen : Hid (OwnT y11 w2.heap.size (.slice ea el ec) per) := He.out.stays hb
            clear He
            have He := Hen
            clear Hen
            have Hd : Hid (OwnT y11 w2.heap.size (.slice da dl dc) den) := hown.base hHeld.2.size
            go_wp2_with fail
            refine hK.out _ _ hH (fun hHeld => ?_)
            clear hK K hH hb hown EK hdl
            try simp only [Act.put, List.setIfInBounds_toArray, List.set_cons_zero, List.set_cons_succ]
            refine wpAnyH_take (i := 33) (oi := ⟨some 81, _, _, _, _, _⟩) (v := ?_) rfl (by kernel_rfl) (by kernel_rfl) (by kernel_rfl) (fun _ _ _ h => h) (Or.inl ⟨by rfl, ?_⟩) hHeld ?_
            rotate_left
            · intro W hSw
              go_simp
              try with_reducible rfl
            try simp only [Act.put, List.setIfInBounds_toArray, List.set_cons_zero, List.set_cons_succ]
            refine wpAnyH_ready (rs := [35]) (by kernel_rfl) (by simp) ?_
            refine AllReadyH.cons (o := ⟨none, _, _, _, _, _⟩) rfl (fun K hK => ?_) AllReadyH.nil
            have g0c : y11.cell? ⟨gC, 0, none⟩ = some (.int .i64 0) := HGC.out.cell 0
            have g1c : y11.cell? ⟨gC, 1, none⟩ = some (.string ⟨#[]⟩) := HGC.out.cell 1
            have g2c : y11.cell? ⟨gC, 2, none⟩ = some (.string ⟨#[]⟩) := HGC.out.cell 2
            have g3c : y11.cell? ⟨gC, 3, none⟩ = some (.int .i64 0) := HGC.out.cell 3
            have g4c : y11.cell? ⟨gC, 4, none⟩ = some (.int .i64 0) := HGC.out.cell 4
            have g5c : y11.cell? ⟨gC, 5, none⟩ = some (.string ⟨#[]⟩) := HGC.out.cell 5
            have g6c : y11.cell? ⟨gC, 6, none⟩ = some (.bool false) := HGC.out.cell 6
            have g7c : y11.cell? ⟨gC, 7, none⟩ = some (.int .i64 0) := HGC.out.cell 7
            have g8c : y11.cell? ⟨gC, 8, none⟩ = some (.int .i64 0) := HGC.out.cell 8
            have g9c : y11.cell? ⟨gC, 9, none⟩ = some (.slice none 0 0) := HGC.out.cell 9
            have g10c : y11.cell? ⟨gC, 10, none⟩ = some (.slice none 0 0) := HGC.out.cell 10
            have g11c : y11.cell? ⟨gC, 11, none⟩ = some (.slice none 0 0) := HGC.out.cell 11
            have g12c : y11.cell? ⟨gC, 12, none⟩ = some (.string ⟨#[]⟩) := HGC.out.cell 12
            have gf := fun j => HGC.out.free j
            have FZ : Hid ((∀ b, (Value.slice pa pl pc).ownBlock = some b → b ≠ gC) ∧ (∀ b, (Value.slice ea el ec).ownBlock = some b → b ≠ gC) ∧ (∀ b, (Value.slice da dl dc).ownBlock = some b → b ≠ gC)) := by
              have := HGE.out; have := HGS.out; have := Zp.out; have := Ze.out; have := Zd.out
              exact ⟨fun b hb => by have := Bp.out b hb; omega, fun b hb => by have := Be.out b hb; omega, fun b hb => by have := Bd.out b hb; omega⟩
            have FA : Hid ((Ap (.slice pa pl pc) (.slice ea el ec) ∧ Ap (.slice ea el ec) (.slice pa pl pc)) ∧ (Ap (.slice pa pl pc) (.slice da dl dc) ∧ Ap (.slice da dl dc) (.slice pa pl pc)) ∧ (Ap (.slice ea el ec) (.slice da dl dc) ∧ Ap (.slice da dl dc) (.slice ea el ec))) := by
              have := HGE.out; have := HGS.out; have := Zp.out; have := Ze.out; have := Zd.out
              exact ⟨apart_of (fun b hb => (Bp.out b hb).2) (fun b hb => (Be.out b hb).1) (by omega), apart_of (fun b hb => (Bp.out b hb).2) (fun b hb => (Bd.out b hb).1) (by omega), apart_of (fun b hb => (Be.out b hb).2) (fun b hb => (Bd.out b hb).1) (by omega)⟩
            go_simp
            generalize hV : World.setCell _ { block := gC, off := 12 } (Value.string sgt) = V
            have FIN : Out [gC] y11 V ∧ Blk V gC 29 #[.int .i64 0, .string iss, .string sub, .int .i64 0, .int .i64 0, .string key, .bool ca, .int .i64 0, .int .i64 0, .slice pa pl pc, .slice ea el ec, .slice da dl dc, .string sgt] := by
              rw [← hV]
              refine ⟨?_, ?_⟩
              · iterate 13 refine Out.setCell ?_ _ _ (by simp)
                exact Out.refl _ _
              · exact set13 HGC.out
            clear hV gf g0c g1c g2c g3c g4c g5c g6c g7c g8c g9c g10c g11c g12c
            have hgw : w2.heap.size ≤ gC ∧ w.heap.size < w2.heap.size := ⟨by have := HGS.out; omega, HY.out.2.2.2.2⟩
            have hH : (Below w.heap.size w V ∧ Blk V w.heap.size 29 #[.int .i64 0, .string ⟨#[]⟩, .string ⟨#[]⟩, .int .i64 0, .int .i64 0, .string ⟨#[]⟩, .bool false, .int .i64 0, .int .i64 0, .slice none 0 0, .slice none 0 0, .slice none 0 0, .string ⟨#[]⟩]) ∧ Below w2.heap.size w2 V := ⟨⟨below_out hHeld.1.1 FIN.1 (by omega), hHeld.1.2.outX FIN.1 (by simp; omega)⟩, below_out hHeld.2 FIN.1 hgw.1⟩
            have HR : Hid (RC8 w w2 V gC #[.int .i64 0, .string iss, .string sub, .int .i64 0, .int .i64 0, .string key, .bool ca, .int .i64 0, .int .i64 0, .slice pa pl pc, .slice ea el ec, .slice da dl dc, .string sgt] (.slice pa pl pc) (.slice ea el ec) (.slice da dl dc) pol per den) := ⟨hH.1.1, hH.2, hH.1.2, FIN.2, ⟨FIN.1.row (fun b hb => by have := FZ.out.1 b hb; simp; omega) Hp.out, FIN.1.row (fun b hb => by have := FZ.out.2.1 b hb; simp; omega) He.out, FIN.1.row (fun b hb => by have := FZ.out.2.2 b hb; simp; omega) Hd.out⟩, FA.out, fun b hb => hb.elim (FZ.out.1 b) (fun h => h.elim (FZ.out.2.1 b) (FZ.out.2.2 b)), hgw⟩
            refine hK.out _ _ hH (fun hHeld => ?_)
            clear hK K hH FIN hHeld
            try simp only [Act.put, List.setIfInBounds_toArray, List.set_cons_zero, List.set_cons_succ]
            refine wpAnyH_done (by kernel_rfl) ?_ _
            go_wp2_with fail
            go_meet
            case rel => exact ⟨gC, rfl, _, _, _, _, _, _, _, _, _, HR.out⟩
          have EK := textsIn_any 3 t10 s10 (It.kids k10) a10 l10 c10 y9 ((HKS.out.2.2.2.2.2).below hHeld.2) (Nat.le_trans (szI_kid (t := It.tag k10) (s := It.text k10) (ks := It.kids k10) (HSZ.out k10 (by simp))).2.1 (by decide)) (fun y hy => Nat.le_trans ((szI_kid (t := It.tag k10) (s := It.text k10) (ks := It.kids k10) (HSZ.out k10 (by simp))).2.2 y hy) (by decide))
          rw [HCC.out.2.2.2.2] at EK
          go_simp
          refine EK.mono ?_
          rintro e y12 ⟨ud, rfl, hown, hb⟩
          obtain ⟨da, dc, hud⟩ : ∃ ao cap, ud = .slice ao den.length cap := by obtain ⟨ao, cap, h, _⟩ := hown.at; exact ⟨ao, cap, h⟩
          obtain ⟨dl, hdl⟩ : ∃ q, den.length = q := ⟨_, rfl⟩
          rw [hdl] at hud
          subst hud
          have hH := SB _ _ hHeld hb
          have Bd : Hid (∀ b, (Value.slice da dl dc).ownBlock = some b → y9.heap.size ≤ b ∧ b < y12.heap.size) := fun b hb => World.ownsRow.lt hown b hb
          have Zd : Hid (y9.heap.size ≤ y12.heap.size) := hb.size
          have Hpn : Hid (OwnI y12 w2.heap.size (.slice pa pl pc) pol) := Hp.out.stays hb
          clear Hp
          have Hp := Hpn
          clear Hpn
          have Hen : Hid (OwnT y12 w2.heap.size (.slice ea el ec) per) := He.out.stays hb
          clear He
          have He := Hen
          clear Hen
          have Hd : Hid (OwnT y12 w2.heap.size (.slice da dl dc) den) := hown.base hHeld.2.size
          go_wp2_with fail
          refine hK.out _ _ hH (fun hHeld => ?_)
          clear hK K hH hb hown EK hdl
          try simp only [Act.put, List.setIfInBounds_toArray, List.set_cons_zero, List.set_cons_succ]
          refine wpAnyH_take (i := 33) (oi := ⟨some 81, _, _, _, _, _⟩) (v := ?_) rfl (by kernel_rfl) (by kernel_rfl) (by kernel_rfl) (fun _ _ _ h => h) (Or.inl ⟨by rfl, ?_⟩) hHeld ?_
          rotate_left
          · intro W hSw
            go_simp
            try with_reducible rfl
          try simp only [Act.put, List.setIfInBounds_toArray, List.set_cons_zero, List.set_cons_succ]
          refine wpAnyH_ready (rs := [34]) (by kernel_rfl) (by simp) ?_
          refine AllReadyH.cons (o := ⟨some 10, _, _, _, _, _⟩) rfl (fun K hK => ?_) AllReadyH.nil
          obtain ⟨y13, hy13⟩ : ∃ V, V = y12.alloc (Obj.cells #[.int .i64 0, .string ⟨#[]⟩, .string ⟨#[]⟩, .int .i64 0, .int .i64 0, .string ⟨#[]⟩, .bool false, .int .i64 0, .int .i64 0, .slice none 0 0, .slice none 0 0, .slice none 0 0, .string ⟨#[]⟩] 29) := ⟨_, rfl⟩
          have hb : Below y12.heap.size y12 y13 := by rw [hy13]; exact (Below.refl _ _).alloc (Nat.le_refl _) _
          have HGC : Hid (Blk y13 y12.heap.size 29 #[.int .i64 0, .string ⟨#[]⟩, .string ⟨#[]⟩, .int .i64 0, .int .i64 0, .string ⟨#[]⟩, .bool false, .int .i64 0, .int .i64 0, .slice none 0 0, .slice none 0 0, .slice none 0 0, .string ⟨#[]⟩]) := by rw [hy13]; exact Blk.new _ _ _
          have HGS : Hid (w2.heap.size ≤ y12.heap.size ∧ y13.heap.size = y12.heap.size + 1) := ⟨hHeld.2.size, by rw [hy13]; exact size_alloc _ _⟩
          have hH := SB _ _ hHeld hb
          have Hpn : Hid (OwnI y13 w2.heap.size (.slice pa pl pc) pol) := Hp.out.stays hb
          clear Hp
          have Hp := Hpn
          clear Hpn
          have Hen : Hid (OwnT y13 w2.heap.size (.slice ea el ec) per) := He.out.stays hb
          clear He
          have He := Hen
          clear Hen
          have Hdn : Hid (OwnT y13 w2.heap.size (.slice da dl dc) den) := Hd.out.stays hb
          clear Hd
          have Hd := Hdn
          clear Hdn
          go_simp
          rw [← hy13]
          refine hK.out _ _ hH (fun hHeld => ?_)
          clear hK K hH hb hy13
          try simp only [Act.put, List.setIfInBounds_toArray, List.set_cons_zero, List.set_cons_succ]
          obtain ⟨gC, hgC⟩ : ∃ q, y12.heap.size = q := ⟨_, rfl⟩
          rw [hgC] at HGC HGS ⊢
          have HGE : Hid (y12.heap.size = gC) := hgC
          clear hgC
          refine wpAnyH_ready (rs := [35]) (by kernel_rfl) (by simp) ?_
          refine AllReadyH.cons (o := ⟨none, _, _, _, _, _⟩) rfl (fun K hK => ?_) AllReadyH.nil
          have g0c : y13.cell? ⟨gC, 0, none⟩ = some (.int .i64 0) := HGC.out.cell 0
          have g1c : y13.cell? ⟨gC, 1, none⟩ = some (.string ⟨#[]⟩) := HGC.out.cell 1
          have g2c : y13.cell? ⟨gC, 2, none⟩ = some (.string ⟨#[]⟩) := HGC.out.cell 2
          have g3c : y13.cell? ⟨gC, 3, none⟩ = some (.int .i64 0) := HGC.out.cell 3
          have g4c : y13.cell? ⟨gC, 4, none⟩ = some (.int .i64 0) := HGC.out.cell 4
          have g5c : y13.cell? ⟨gC, 5, none⟩ = some (.string ⟨#[]⟩) := HGC.out.cell 5
          have g6c : y13.cell? ⟨gC, 6, none⟩ = some (.bool false) := HGC.out.cell 6
          have g7c : y13.cell? ⟨gC, 7, none⟩ = some (.int .i64 0) := HGC.out.cell 7
          have g8c : y13.cell? ⟨gC, 8, none⟩ = some (.int .i64 0) := HGC.out.cell 8
          have g9c : y13.cell? ⟨gC, 9, none⟩ = some (.slice none 0 0) := HGC.out.cell 9
          have g10c : y13.cell? ⟨gC, 10, none⟩ = some (.slice none 0 0) := HGC.out.cell 10
          have g11c : y13.cell? ⟨gC, 11, none⟩ = some (.slice none 0 0) := HGC.out.cell 11
          have g12c : y13.cell? ⟨gC, 12, none⟩ = some (.string ⟨#[]⟩) := HGC.out.cell 12
          have gf := fun j => HGC.out.free j
          have FZ : Hid ((∀ b, (Value.slice pa pl pc).ownBlock = some b → b ≠ gC) ∧ (∀ b, (Value.slice ea el ec).ownBlock = some b → b ≠ gC) ∧ (∀ b, (Value.slice da dl dc).ownBlock = some b → b ≠ gC)) := by
            have := HGE.out; have := HGS.out; have := Zp.out; have := Ze.out; have := Zd.out
            exact ⟨fun b hb => by have := Bp.out b hb; omega, fun b hb => by have := Be.out b hb; omega, fun b hb => by have := Bd.out b hb; omega⟩
          have FA : Hid ((Ap (.slice pa pl pc) (.slice ea el ec) ∧ Ap (.slice ea el ec) (.slice pa pl pc)) ∧ (Ap (.slice pa pl pc) (.slice da dl dc) ∧ Ap (.slice da dl dc) (.slice pa pl pc)) ∧ (Ap (.slice ea el ec) (.slice da dl dc) ∧ Ap (.slice da dl dc) (.slice ea el ec))) := by
            have := HGE.out; have := HGS.out; have := Zp.out; have := Ze.out; have := Zd.out
            exact ⟨apart_of (fun b hb => (Bp.out b hb).2) (fun b hb => (Be.out b hb).1) (by omega), apart_of (fun b hb => (Bp.out b hb).2) (fun b hb => (Bd.out b hb).1) (by omega), apart_of (fun b hb => (Be.out b hb).2) (fun b hb => (Bd.out b hb).1) (by omega)⟩
          go_simp
          generalize hV : World.setCell _ { block := gC, off := 12 } (Value.string sgt) = V
          have FIN : Out [gC] y13 V ∧ Blk V gC 29 #[.int .i64 0, .string iss, .string sub, .int .i64 0, .int .i64 0, .string key, .bool ca, .int .i64 0, .int .i64 0, .slice pa pl pc, .slice ea el ec, .slice da dl dc, .string sgt] := by
            rw [← hV]
            refine ⟨?_, ?_⟩
            · iterate 13 refine Out.setCell ?_ _ _ (by simp)
              exact Out.refl _ _
            · exact set13 HGC.out
          clear hV gf g0c g1c g2c g3c g4c g5c g6c g7c g8c g9c g10c g11c g12c
          have hgw : w2.heap.size ≤ gC ∧ w.heap.size < w2.heap.size := ⟨by have := HGS.out; omega, HY.out.2.2.2.2⟩
          have hH : (Below w.heap.size w V ∧ Blk V w.heap.size 29 #[.int .i64 0, .string ⟨#[]⟩, .string ⟨#[]⟩, .int .i64 0, .int .i64 0, .string ⟨#[]⟩, .bool false, .int .i64 0, .int .i64 0, .slice none 0 0, .slice none 0 0, .slice none 0 0, .string ⟨#[]⟩]) ∧ Below w2.heap.size w2 V := ⟨⟨below_out hHeld.1.1 FIN.1 (by omega), hHeld.1.2.outX FIN.1 (by simp; omega)⟩, below_out hHeld.2 FIN.1 hgw.1⟩
          have HR : Hid (RC8 w w2 V gC #[.int .i64 0, .string iss, .string sub, .int .i64 0, .int .i64 0, .string key, .bool ca, .int .i64 0, .int .i64 0, .slice pa pl pc, .slice ea el ec, .slice da dl dc, .string sgt] (.slice pa pl pc) (.slice ea el ec) (.slice da dl dc) pol per den) := ⟨hH.1.1, hH.2, hH.1.2, FIN.2, ⟨FIN.1.row (fun b hb => by have := FZ.out.1 b hb; simp; omega) Hp.out, FIN.1.row (fun b hb => by have := FZ.out.2.1 b hb; simp; omega) He.out, FIN.1.row (fun b hb => by have := FZ.out.2.2 b hb; simp; omega) Hd.out⟩, FA.out, fun b hb => hb.elim (FZ.out.1 b) (fun h => h.elim (FZ.out.2.1 b) (FZ.out.2.2 b)), hgw⟩
          refine hK.out _ _ hH (fun hHeld => ?_)
          clear hK K hH FIN hHeld
          try simp only [Act.put, List.setIfInBounds_toArray, List.set_cons_zero, List.set_cons_succ]
          refine wpAnyH_done (by kernel_rfl) ?_ _
          go_wp2_with fail
          go_meet
          case rel => exact ⟨gC, rfl, _, _, _, _, _, _, _, _, _, HR.out⟩
        case rest =>
          obtain ⟨gC, rfl, pa, pl, pc, ea, el, ec, da, dl, dc, hRC⟩ := hcut
          have HR : Hid (RC8 w w2 wc gC #[.int .i64 0, .string iss, .string sub, .int .i64 0, .int .i64 0, .string key, .bool ca, .int .i64 0, .int .i64 0, .slice pa pl pc, .slice ea el ec, .slice da dl dc, .string sgt] (.slice pa pl pc) (.slice ea el ec) (.slice da dl dc) pol per den) := hRC
          clear hRC H5 hq5
          have m0a : wc.cell? ⟨g2, o2, none⟩ = some (.int .i64 t0) := (HR.out.2.1.cell (p := ⟨g2, o2, none⟩) HG2.out).trans HM.out.2.2.2.2.2.1
          have m0b : wc.cell? ⟨g2, o2 + 1, none⟩ = some (.string s0) := (HR.out.2.1.cell (p := ⟨g2, o2 + 1, none⟩) HG2.out).trans HM.out.2.2.2.2.2.2.1
          have m0c : wc.cell? ⟨g2, o2 + 2, none⟩ = some (.slice a0 l0 c0) := (HR.out.2.1.cell (p := ⟨g2, o2 + 2, none⟩) HG2.out).trans HM.out.2.2.2.2.2.2.2.1
          go_wp2_with fail
          clear m0a m0b m0c
          have EI := specIntIn_any 5 k0 (.agg #[.int .i64 t0, .string s0, .slice a0 l0 c0]) wc (ItAt.below HR.out.2.1 ⟨.slice a0 l0 c0, by rw [(HTS.out.1).1, (HTS.out.1).2], (HKS.out.1).at⟩) (Nat.le_trans (HSZ.out k0 (by simp)) (by decide))
          rw [show (((inI 5 k0).getD 0 : Nat) : Int) = x0 from HCC.out.2.1.1] at EI
          generalize (inI 5 k0).isSome = okI at EI
          refine EI.mono ?_
          rintro e z14 ⟨rfl, hb⟩
          have HRn : Hid (RC8 w w2 z14 gC #[.int .i64 0, .string iss, .string sub, .int .i64 0, .int .i64 0, .string key, .bool ca, .int .i64 0, .int .i64 0, .slice pa pl pc, .slice ea el ec, .slice da dl dc, .string sgt] (.slice pa pl pc) (.slice ea el ec) (.slice da dl dc) pol per den) := HR.out.below hb
          clear HR EI hb
          have HR := HRn
          clear HRn
          have cc : z14.cell? ⟨gC, 0, none⟩ = some (.int .i64 0) := HR.out.2.2.2.1.cell 0
          have cfz := HR.out.2.2.2.1.free 0
          have HS : ∀ g, g < w2.heap.size → g ≠ gC := fun g hg => by have := HR.out.2.2.2.2.2.2.2.1; omega
          have m2 : (z14.setCell ⟨gC, 0, none⟩ (.int .i64 x0)).cell? ⟨g2, o2 + 8, none⟩ = some (.slice (some ⟨g3, o3, none⟩) 2 c2) := (World.cell?_of_block (heap_setCell_other _ _ _ _ (by show g2 ≠ gC; exact HS _ HG2.out))).trans ((HR.out.2.1.cell (p := ⟨g2, o2 + 8, none⟩) HG2.out).trans HM.out.2.2.2.2.1)
          have nfa : (z14.setCell ⟨gC, 0, none⟩ (.int .i64 x0)).cell? ⟨g3, o3, none⟩ = some (.int .i64 tf) := (World.cell?_of_block (heap_setCell_other _ _ _ _ (by show g3 ≠ gC; exact HS _ HG3.out))).trans ((HR.out.2.1.cell (p := ⟨g3, o3, none⟩) HG3.out).trans HF3.out.1.1)
          have nfb : (z14.setCell ⟨gC, 0, none⟩ (.int .i64 x0)).cell? ⟨g3, o3 + 1, none⟩ = some (.string sf) := (World.cell?_of_block (heap_setCell_other _ _ _ _ (by show g3 ≠ gC; exact HS _ HG3.out))).trans ((HR.out.2.1.cell (p := ⟨g3, o3 + 1, none⟩) HG3.out).trans HF3.out.1.2.1)
          have nfc : (z14.setCell ⟨gC, 0, none⟩ (.int .i64 x0)).cell? ⟨g3, o3 + 2, none⟩ = some (.slice af lf cf) := (World.cell?_of_block (heap_setCell_other _ _ _ _ (by show g3 ≠ gC; exact HS _ HG3.out))).trans ((HR.out.2.1.cell (p := ⟨g3, o3 + 2, none⟩) HG3.out).trans HF3.out.1.2.2.1)
          clear HS
          go_wp2_with fail
          clear cc cfz m2 nfa nfb nfc
          obtain ⟨V15, hV15⟩ : ∃ V, V = z14.setCell ⟨gC, 0, none⟩ (.int .i64 x0) := ⟨_, rfl⟩
          rw [← hV15]
          have HRn : Hid (RC8 w w2 V15 gC #[.int .i64 x0, .string iss, .string sub, .int .i64 0, .int .i64 0, .string key, .bool ca, .int .i64 0, .int .i64 0, .slice pa pl pc, .slice ea el ec, .slice da dl dc, .string sgt] (.slice pa pl pc) (.slice ea el ec) (.slice da dl dc) pol per den) := by rw [hV15]; exact HR.out.set 0 _ rfl
          clear HR hV15
          have HR := HRn
          clear HRn
          have EI := specIntIn_any 4 f (.agg #[.int .i64 tf, .string sf, .slice af lf cf]) V15 (ItAt.below HR.out.2.1 ⟨.slice af lf cf, by rw [(HF3.out.2.1).1, (HF3.out.2.1).2], (HF3.out.2.2.2.1).at⟩) (by have h := szI_kid (t := It.tag k2) (s := It.text k2) (ks := It.kids k2) (HSZ.out k2 (by simp)); exact Nat.le_trans (h.2.2 f (by rw [HF3.out.2.2.2.2.2]; simp)) (by decide))
          rw [show (((inI 4 f).getD 0 : Nat) : Int) = xf from HCC.out.2.1.2.1] at EI
          generalize (inI 4 f).isSome = okI at EI
          refine EI.mono ?_
          rintro e z16 ⟨rfl, hb⟩
          have HRn : Hid (RC8 w w2 z16 gC #[.int .i64 x0, .string iss, .string sub, .int .i64 0, .int .i64 0, .string key, .bool ca, .int .i64 0, .int .i64 0, .slice pa pl pc, .slice ea el ec, .slice da dl dc, .string sgt] (.slice pa pl pc) (.slice ea el ec) (.slice da dl dc) pol per den) := HR.out.below hb
          clear HR EI hb
          have HR := HRn
          clear HRn
          have cc : z16.cell? ⟨gC, 3, none⟩ = some (.int .i64 0) := HR.out.2.2.2.1.cell 3
          have cfz := HR.out.2.2.2.1.free 3
          have HS : ∀ g, g < w2.heap.size → g ≠ gC := fun g hg => by have := HR.out.2.2.2.2.2.2.2.1; omega
          have m2 : (z16.setCell ⟨gC, 3, none⟩ (.int .i64 xf)).cell? ⟨g2, o2 + 8, none⟩ = some (.slice (some ⟨g3, o3, none⟩) 2 c2) := (World.cell?_of_block (heap_setCell_other _ _ _ _ (by show g2 ≠ gC; exact HS _ HG2.out))).trans ((HR.out.2.1.cell (p := ⟨g2, o2 + 8, none⟩) HG2.out).trans HM.out.2.2.2.2.1)
          have nua : (z16.setCell ⟨gC, 3, none⟩ (.int .i64 xf)).cell? ⟨g3, o3 + 3, none⟩ = some (.int .i64 tu) := (World.cell?_of_block (heap_setCell_other _ _ _ _ (by show g3 ≠ gC; exact HS _ HG3.out))).trans ((HR.out.2.1.cell (p := ⟨g3, o3 + 3, none⟩) HG3.out).trans HF3.out.1.2.2.2.1)
          have nub : (z16.setCell ⟨gC, 3, none⟩ (.int .i64 xf)).cell? ⟨g3, o3 + 4, none⟩ = some (.string su) := (World.cell?_of_block (heap_setCell_other _ _ _ _ (by show g3 ≠ gC; exact HS _ HG3.out))).trans ((HR.out.2.1.cell (p := ⟨g3, o3 + 4, none⟩) HG3.out).trans HF3.out.1.2.2.2.2.1)
          have nuc : (z16.setCell ⟨gC, 3, none⟩ (.int .i64 xf)).cell? ⟨g3, o3 + 5, none⟩ = some (.slice au lu cu) := (World.cell?_of_block (heap_setCell_other _ _ _ _ (by show g3 ≠ gC; exact HS _ HG3.out))).trans ((HR.out.2.1.cell (p := ⟨g3, o3 + 5, none⟩) HG3.out).trans HF3.out.1.2.2.2.2.2)
          clear HS
          go_wp2_with fail
          clear cc cfz m2 nua nub nuc
          obtain ⟨V17, hV17⟩ : ∃ V, V = z16.setCell ⟨gC, 3, none⟩ (.int .i64 xf) := ⟨_, rfl⟩
          rw [← hV17]
          have HRn : Hid (RC8 w w2 V17 gC #[.int .i64 x0, .string iss, .string sub, .int .i64 xf, .int .i64 0, .string key, .bool ca, .int .i64 0, .int .i64 0, .slice pa pl pc, .slice ea el ec, .slice da dl dc, .string sgt] (.slice pa pl pc) (.slice ea el ec) (.slice da dl dc) pol per den) := by rw [hV17]; exact HR.out.set 3 _ rfl
          clear HR hV17
          have HR := HRn
          clear HRn
          have EI := specIntIn_any 4 u (.agg #[.int .i64 tu, .string su, .slice au lu cu]) V17 (ItAt.below HR.out.2.1 ⟨.slice au lu cu, by rw [(HF3.out.2.2.1).1, (HF3.out.2.2.1).2], (HF3.out.2.2.2.2.1).at⟩) (by have h := szI_kid (t := It.tag k2) (s := It.text k2) (ks := It.kids k2) (HSZ.out k2 (by simp)); exact Nat.le_trans (h.2.2 u (by rw [HF3.out.2.2.2.2.2]; simp)) (by decide))
          rw [show (((inI 4 u).getD 0 : Nat) : Int) = xu from HCC.out.2.1.2.2.1] at EI
          generalize (inI 4 u).isSome = okI at EI
          refine EI.mono ?_
          rintro e z18 ⟨rfl, hb⟩
          have HRn : Hid (RC8 w w2 z18 gC #[.int .i64 x0, .string iss, .string sub, .int .i64 xf, .int .i64 0, .string key, .bool ca, .int .i64 0, .int .i64 0, .slice pa pl pc, .slice ea el ec, .slice da dl dc, .string sgt] (.slice pa pl pc) (.slice ea el ec) (.slice da dl dc) pol per den) := HR.out.below hb
          clear HR EI hb
          have HR := HRn
          clear HRn
          have cc : z18.cell? ⟨gC, 4, none⟩ = some (.int .i64 0) := HR.out.2.2.2.1.cell 4
          have cfz := HR.out.2.2.2.1.free 4
          have HS : ∀ g, g < w2.heap.size → g ≠ gC := fun g hg => by have := HR.out.2.2.2.2.2.2.2.1; omega
          have m6a : (z18.setCell ⟨gC, 4, none⟩ (.int .i64 xu)).cell? ⟨g2, o2 + 18, none⟩ = some (.int .i64 t6) := (World.cell?_of_block (heap_setCell_other _ _ _ _ (by show g2 ≠ gC; exact HS _ HG2.out))).trans ((HR.out.2.1.cell (p := ⟨g2, o2 + 18, none⟩) HG2.out).trans HM.out.2.2.2.2.2.2.2.2.1)
          have m6b : (z18.setCell ⟨gC, 4, none⟩ (.int .i64 xu)).cell? ⟨g2, o2 + 19, none⟩ = some (.string s6) := (World.cell?_of_block (heap_setCell_other _ _ _ _ (by show g2 ≠ gC; exact HS _ HG2.out))).trans ((HR.out.2.1.cell (p := ⟨g2, o2 + 19, none⟩) HG2.out).trans HM.out.2.2.2.2.2.2.2.2.2.1)
          have m6c : (z18.setCell ⟨gC, 4, none⟩ (.int .i64 xu)).cell? ⟨g2, o2 + 20, none⟩ = some (.slice a6 l6 c6) := (World.cell?_of_block (heap_setCell_other _ _ _ _ (by show g2 ≠ gC; exact HS _ HG2.out))).trans ((HR.out.2.1.cell (p := ⟨g2, o2 + 20, none⟩) HG2.out).trans HM.out.2.2.2.2.2.2.2.2.2.2.1)
          clear HS
          go_wp2_with fail
          clear cc cfz m6a m6b m6c
          obtain ⟨V19, hV19⟩ : ∃ V, V = z18.setCell ⟨gC, 4, none⟩ (.int .i64 xu) := ⟨_, rfl⟩
          rw [← hV19]
          have HRn : Hid (RC8 w w2 V19 gC #[.int .i64 x0, .string iss, .string sub, .int .i64 xf, .int .i64 xu, .string key, .bool ca, .int .i64 0, .int .i64 0, .slice pa pl pc, .slice ea el ec, .slice da dl dc, .string sgt] (.slice pa pl pc) (.slice ea el ec) (.slice da dl dc) pol per den) := by rw [hV19]; exact HR.out.set 4 _ rfl
          clear HR hV19
          have HR := HRn
          clear HRn
          have EI := specIntIn_any 5 k6 (.agg #[.int .i64 t6, .string s6, .slice a6 l6 c6]) V19 (ItAt.below HR.out.2.1 ⟨.slice a6 l6 c6, by rw [(HTS.out.2.1).1, (HTS.out.2.1).2], (HKS.out.2.1).at⟩) (Nat.le_trans (HSZ.out k6 (by simp)) (by decide))
          rw [show (((inI 5 k6).getD 0 : Nat) : Int) = x6 from HCC.out.2.1.2.2.2.1] at EI
          generalize (inI 5 k6).isSome = okI at EI
          refine EI.mono ?_
          rintro e z20 ⟨rfl, hb⟩
          have HRn : Hid (RC8 w w2 z20 gC #[.int .i64 x0, .string iss, .string sub, .int .i64 xf, .int .i64 xu, .string key, .bool ca, .int .i64 0, .int .i64 0, .slice pa pl pc, .slice ea el ec, .slice da dl dc, .string sgt] (.slice pa pl pc) (.slice ea el ec) (.slice da dl dc) pol per den) := HR.out.below hb
          clear HR EI hb
          have HR := HRn
          clear HRn
          have cc : z20.cell? ⟨gC, 7, none⟩ = some (.int .i64 0) := HR.out.2.2.2.1.cell 7
          have cfz := HR.out.2.2.2.1.free 7
          have HS : ∀ g, g < w2.heap.size → g ≠ gC := fun g hg => by have := HR.out.2.2.2.2.2.2.2.1; omega
          have m7a : (z20.setCell ⟨gC, 7, none⟩ (.int .i64 x6)).cell? ⟨g2, o2 + 21, none⟩ = some (.int .i64 t7) := (World.cell?_of_block (heap_setCell_other _ _ _ _ (by show g2 ≠ gC; exact HS _ HG2.out))).trans ((HR.out.2.1.cell (p := ⟨g2, o2 + 21, none⟩) HG2.out).trans HM.out.2.2.2.2.2.2.2.2.2.2.2.1)
          have m7b : (z20.setCell ⟨gC, 7, none⟩ (.int .i64 x6)).cell? ⟨g2, o2 + 22, none⟩ = some (.string s7) := (World.cell?_of_block (heap_setCell_other _ _ _ _ (by show g2 ≠ gC; exact HS _ HG2.out))).trans ((HR.out.2.1.cell (p := ⟨g2, o2 + 22, none⟩) HG2.out).trans HM.out.2.2.2.2.2.2.2.2.2.2.2.2.1)
          have m7c : (z20.setCell ⟨gC, 7, none⟩ (.int .i64 x6)).cell? ⟨g2, o2 + 23, none⟩ = some (.slice a7 l7 c7) := (World.cell?_of_block (heap_setCell_other _ _ _ _ (by show g2 ≠ gC; exact HS _ HG2.out))).trans ((HR.out.2.1.cell (p := ⟨g2, o2 + 23, none⟩) HG2.out).trans HM.out.2.2.2.2.2.2.2.2.2.2.2.2.2.1)
          clear HS
          go_wp2_with fail
          clear cc cfz m7a m7b m7c
          obtain ⟨V21, hV21⟩ : ∃ V, V = z20.setCell ⟨gC, 7, none⟩ (.int .i64 x6) := ⟨_, rfl⟩
          rw [← hV21]
          have HRn : Hid (RC8 w w2 V21 gC #[.int .i64 x0, .string iss, .string sub, .int .i64 xf, .int .i64 xu, .string key, .bool ca, .int .i64 x6, .int .i64 0, .slice pa pl pc, .slice ea el ec, .slice da dl dc, .string sgt] (.slice pa pl pc) (.slice ea el ec) (.slice da dl dc) pol per den) := by rw [hV21]; exact HR.out.set 7 _ rfl
          clear HR hV21
          have HR := HRn
          clear HRn
          have EI := specIntIn_any 5 k7 (.agg #[.int .i64 t7, .string s7, .slice a7 l7 c7]) V21 (ItAt.below HR.out.2.1 ⟨.slice a7 l7 c7, by rw [(HTS.out.2.2.1).1, (HTS.out.2.2.1).2], (HKS.out.2.2.1).at⟩) (Nat.le_trans (HSZ.out k7 (by simp)) (by decide))
          rw [show (((inI 5 k7).getD 0 : Nat) : Int) = x7 from HCC.out.2.1.2.2.2.2] at EI
          generalize (inI 5 k7).isSome = okI at EI
          refine EI.mono ?_
          rintro e z22 ⟨rfl, hb⟩
          have HRn : Hid (RC8 w w2 z22 gC #[.int .i64 x0, .string iss, .string sub, .int .i64 xf, .int .i64 xu, .string key, .bool ca, .int .i64 x6, .int .i64 0, .slice pa pl pc, .slice ea el ec, .slice da dl dc, .string sgt] (.slice pa pl pc) (.slice ea el ec) (.slice da dl dc) pol per den) := HR.out.below hb
          clear HR EI hb
          have HR := HRn
          clear HRn
          have cc : z22.cell? ⟨gC, 8, none⟩ = some (.int .i64 0) := HR.out.2.2.2.1.cell 8
          have cfz := HR.out.2.2.2.1.free 8
          have hBV : Blk (z22.setCell ⟨gC, 8, none⟩ (.int .i64 x7)) gC 29 #[.int .i64 x0, .string iss, .string sub, .int .i64 xf, .int .i64 xu, .string key, .bool ca, .int .i64 x6, .int .i64 x7, .slice pa pl pc, .slice ea el ec, .slice da dl dc, .string sgt] := HR.out.2.2.2.1.set 8 _
          have h0c : (z22.setCell ⟨gC, 8, none⟩ (.int .i64 x7)).cell? ⟨gC, 0, none⟩ = some (.int .i64 x0) := hBV.cell 0
          have h1c : (z22.setCell ⟨gC, 8, none⟩ (.int .i64 x7)).cell? ⟨gC, 1, none⟩ = some (.string iss) := hBV.cell 1
          have h2c : (z22.setCell ⟨gC, 8, none⟩ (.int .i64 x7)).cell? ⟨gC, 2, none⟩ = some (.string sub) := hBV.cell 2
          have h3c : (z22.setCell ⟨gC, 8, none⟩ (.int .i64 x7)).cell? ⟨gC, 3, none⟩ = some (.int .i64 xf) := hBV.cell 3
          have h4c : (z22.setCell ⟨gC, 8, none⟩ (.int .i64 x7)).cell? ⟨gC, 4, none⟩ = some (.int .i64 xu) := hBV.cell 4
          have h5c : (z22.setCell ⟨gC, 8, none⟩ (.int .i64 x7)).cell? ⟨gC, 5, none⟩ = some (.string key) := hBV.cell 5
          have h6c : (z22.setCell ⟨gC, 8, none⟩ (.int .i64 x7)).cell? ⟨gC, 6, none⟩ = some (.bool ca) := hBV.cell 6
          have h7c : (z22.setCell ⟨gC, 8, none⟩ (.int .i64 x7)).cell? ⟨gC, 7, none⟩ = some (.int .i64 x6) := hBV.cell 7
          have h8c : (z22.setCell ⟨gC, 8, none⟩ (.int .i64 x7)).cell? ⟨gC, 8, none⟩ = some (.int .i64 x7) := hBV.cell 8
          have h9c : (z22.setCell ⟨gC, 8, none⟩ (.int .i64 x7)).cell? ⟨gC, 9, none⟩ = some (.slice pa pl pc) := hBV.cell 9
          have h10c : (z22.setCell ⟨gC, 8, none⟩ (.int .i64 x7)).cell? ⟨gC, 10, none⟩ = some (.slice ea el ec) := hBV.cell 10
          have h11c : (z22.setCell ⟨gC, 8, none⟩ (.int .i64 x7)).cell? ⟨gC, 11, none⟩ = some (.slice da dl dc) := hBV.cell 11
          have h12c : (z22.setCell ⟨gC, 8, none⟩ (.int .i64 x7)).cell? ⟨gC, 12, none⟩ = some (.string sgt) := hBV.cell 12
          clear hBV
          go_wp2_with fail
          clear cc cfz h0c h1c h2c h3c h4c h5c h6c h7c h8c h9c h10c h11c h12c
          obtain ⟨V9, hV9⟩ : ∃ V, V = z22.setCell ⟨gC, 8, none⟩ (.int .i64 x7) := ⟨_, rfl⟩
          rw [← hV9]
          have HRn : Hid (RC8 w w2 V9 gC #[.int .i64 x0, .string iss, .string sub, .int .i64 xf, .int .i64 xu, .string key, .bool ca, .int .i64 x6, .int .i64 x7, .slice pa pl pc, .slice ea el ec, .slice da dl dc, .string sgt] (.slice pa pl pc) (.slice ea el ec) (.slice da dl dc) pol per den) := by rw [hV9]; exact HR.out.set 8 _ rfl
          clear HR hV9
          have HR := HRn
          clear HRn
          have HCT : Hid (∀ W, RC8 w w2 W gC #[.int .i64 x0, .string iss, .string sub, .int .i64 xf, .int .i64 xu, .string key, .bool ca, .int .i64 x6, .int .i64 x7, .slice pa pl pc, .slice ea el ec, .slice da dl dc, .string sgt] (.slice pa pl pc) (.slice ea el ec) (.slice da dl dc) pol per den → OwnC W w2.heap.size (.agg #[.int .i64 x0, .string iss, .string sub, .int .i64 xf, .int .i64 xu, .string key, .bool ca, .int .i64 x6, .int .i64 x7, .slice pa pl pc, .slice ea el ec, .slice da dl dc, .string sgt]) c) := fun W h => by
            rw [HCC.out.1]
            exact ⟨_, _, _, rfl, h.2.2.2.2.1.1, h.2.2.2.2.1.2.1, h.2.2.2.2.1.2.2, h.2.2.2.2.2.1⟩
          have E9 := specCertText_any c (.agg #[.int .i64 x0, .string iss, .string sub, .int .i64 xf, .int .i64 xu, .string key, .bool ca, .int .i64 x6, .int .i64 x7, .slice pa pl pc, .slice ea el ec, .slice da dl dc, .string sgt]) V9 HSP.out.2.1 HSP.out.2.2 (HCT.out _ HR.out).at
          obtain ⟨bk, hbk⟩ : ∃ q : ByteArray, (⟨((ctxt c).getD []).toArray⟩ : ByteArray) = q := ⟨_, rfl⟩
          obtain ⟨rt, hrt⟩ : ∃ q, (ctxt c).isSome = q := ⟨_, rfl⟩
          rw [hbk, hrt] at E9
          have HBK : Hid ((⟨((ctxt c).getD []).toArray⟩ : ByteArray) = bk ∧ (ctxt c).isSome = rt) := ⟨hbk, hrt⟩
          clear hbk hrt
          refine E9.mono ?_
          rintro e y9 ⟨rfl, hb⟩
          have HRn : Hid (RC8 w w2 y9 gC #[.int .i64 x0, .string iss, .string sub, .int .i64 xf, .int .i64 xu, .string key, .bool ca, .int .i64 x6, .int .i64 x7, .slice pa pl pc, .slice ea el ec, .slice da dl dc, .string sgt] (.slice pa pl pc) (.slice ea el ec) (.slice da dl dc) pol per den) := HR.out.below hb
          clear HR E9 hb
          have HR := HRn
          clear HRn
          have HRS : Hid (oR = if certOk c = true ∧ writeI 4 (certI c) = some T.data.toList then some c else none) := by
            show oR = _
            rw [← HP.out, HY.out.2.1]
            show readS (m := 3) T.data.toList x = _
            unfold readS
            rw [HSP.out.1, Option.bind_some]
          have HFR : Hid (Below w.heap.size w y9 ∧ Blk y9 w.heap.size 29 #[.int .i64 0, .string ⟨#[]⟩, .string ⟨#[]⟩, .int .i64 0, .int .i64 0, .string ⟨#[]⟩, .bool false, .int .i64 0, .int .i64 0, .slice none 0 0, .slice none 0 0, .slice none 0 0, .string ⟨#[]⟩]) := ⟨HR.out.1, HR.out.2.2.1⟩
          have HTL : Hid (∀ B : ByteArray, B.toList = B.data.toList) := fun B => by
            obtain ⟨d⟩ := B
            obtain ⟨l⟩ := d
            show (⟨l.toArray⟩ : ByteArray).toList = _
            simp
          cases rt with
          | false =>
            have HN : Hid (oR = none) := by
              show oR = none
              rw [← HP.out]
              rw [HP.out, HRS.out, if_neg (fun q => by have h := HBK.out.2; unfold ctxt at h; rw [if_pos q.1, q.2] at h; cases h)]
            clear HCC HSP HF3 HM HKS HTS HTX HSZ HYB HB1 HG2 HG3 HP HRS HTL HBK HCT HR HY
            go_upto_region 16 with fail
            refine wp_region_lit ?_
            refine step_build0 rfl rfl ?_
            refine step_store13 w.heap.size 0 ⟨#[]⟩ ⟨#[]⟩ 0 0 ⟨#[]⟩ false 0 0 none 0 0 none 0 0 none 0 0 ⟨#[]⟩ HFR.out.2 rfl rfl rfl rfl rfl ?_
            intro V8 ho8 hB8
            refine step_assign rfl rfl ?_
            unfold wpList
            rename_i hret
            refine hret _ _ ?_
            refine wp_ret ?_
            have q0 : V8.cell? ⟨w.heap.size, 0, none⟩ = some (.int .i64 0) := hB8.cell 0
            have q1 : V8.cell? ⟨w.heap.size, 1, none⟩ = some (.string ⟨#[]⟩) := hB8.cell 1
            have q2 : V8.cell? ⟨w.heap.size, 2, none⟩ = some (.string ⟨#[]⟩) := hB8.cell 2
            have q3 : V8.cell? ⟨w.heap.size, 3, none⟩ = some (.int .i64 0) := hB8.cell 3
            have q4 : V8.cell? ⟨w.heap.size, 4, none⟩ = some (.int .i64 0) := hB8.cell 4
            have q5 : V8.cell? ⟨w.heap.size, 5, none⟩ = some (.string ⟨#[]⟩) := hB8.cell 5
            have q6 : V8.cell? ⟨w.heap.size, 6, none⟩ = some (.bool false) := hB8.cell 6
            have q7 : V8.cell? ⟨w.heap.size, 7, none⟩ = some (.int .i64 0) := hB8.cell 7
            have q8 : V8.cell? ⟨w.heap.size, 8, none⟩ = some (.int .i64 0) := hB8.cell 8
            have q9 : V8.cell? ⟨w.heap.size, 9, none⟩ = some (.slice none 0 0) := hB8.cell 9
            have q10 : V8.cell? ⟨w.heap.size, 10, none⟩ = some (.slice none 0 0) := hB8.cell 10
            have q11 : V8.cell? ⟨w.heap.size, 11, none⟩ = some (.slice none 0 0) := hB8.cell 11
            have q12 : V8.cell? ⟨w.heap.size, 12, none⟩ = some (.string ⟨#[]⟩) := hB8.cell 12
            refine bodyPost_ret (v := .tuple #[.agg #[.int .i64 0, .string ⟨#[]⟩, .string ⟨#[]⟩, .int .i64 0, .int .i64 0, .string ⟨#[]⟩, .bool false, .int .i64 0, .int .i64 0, .slice none 0 0, .slice none 0 0, .slice none 0 0, .string ⟨#[]⟩], .bool false]) (by simp [results, Try.results15, go_sem, q0, q1, q2, q3, q4, q5, q6, q7, q8, q9, q10, q11, q12]; try rfl) rfl ⟨?_, .inl ⟨HN.out, rfl⟩⟩
            exact HFR.out.1.trans (ho8.below (fun b hb => by rw [List.mem_singleton.1 hb]; exact Nat.le_refl _) HFR.out.1.size)
          | true =>
            obtain ⟨tx, htx⟩ := Option.isSome_iff_exists.1 HBK.out.2
            have HTX2 : Hid (bk.data.toList = tx ∧ certOk c = true ∧ writeI 4 (certI c) = some tx) := by
              have h := htx
              unfold ctxt at h
              split at h
              · next hco => exact ⟨by rw [← HBK.out.1, htx]; rfl, hco, h⟩
              · cases h
            clear htx
            by_cases hbt : bk.toList = T.toList
            · have hbq : (bk.toList == T.toList) = true := by rw [hbt]; simp
              have HYES : Hid (oR = some c) := by
                show oR = some c
                have h1 := HTL.out bk
                have h2 := HTL.out T
                rw [HRS.out, if_pos ⟨HTX2.out.2.1, by rw [HTX2.out.2.2, ← HTX2.out.1, ← h1, hbt, h2]⟩]
              have HBC : Hid (Blk y9 gC 29 #[.int .i64 x0, .string iss, .string sub, .int .i64 xf, .int .i64 xu, .string key, .bool ca, .int .i64 x6, .int .i64 x7, .slice pa pl pc, .slice ea el ec, .slice da dl dc, .string sgt]) := HR.out.2.2.2.1
              have HOWN : Hid (∀ V, Out [w.heap.size] y9 V → OwnC V w.heap.size (.agg #[.int .i64 x0, .string iss, .string sub, .int .i64 xf, .int .i64 xu, .string key, .bool ca, .int .i64 x6, .int .i64 x7, .slice pa pl pc, .slice ea el ec, .slice da dl dc, .string sgt]) c) := fun V ho => by
                have hoc := HCT.out _ HR.out
                exact (hoc.out ho (fun b hb => by have := fpC_lt hoc b hb; have := HY.out.2.2.2.2; simp; omega)).base (by have := HY.out.2.2.2.2; omega)
              clear hbt HCC HSP HF3 HM HKS HTS HTX HSZ HYB HB1 HG2 HG3 HP HRS HTL HBK HCT HR HY
              go_upto_region 17 with fail
              refine wp_region_lit ?_
              refine step_load13 gC x0 iss sub xf xu key ca x6 x7 pa pl pc ea el ec da dl dc sgt HBC.out rfl rfl rfl ?_
              refine step_store13 w.heap.size x0 iss sub xf xu key ca x6 x7 pa pl pc ea el ec da dl dc sgt HFR.out.2 rfl rfl rfl rfl rfl ?_
              intro V8 ho8 hB8
              refine step_assign rfl rfl ?_
              unfold wpList
              rename_i hret
              refine hret _ _ ?_
              refine wp_ret ?_
              have q0 : V8.cell? ⟨w.heap.size, 0, none⟩ = some (.int .i64 x0) := hB8.cell 0
              have q1 : V8.cell? ⟨w.heap.size, 1, none⟩ = some (.string iss) := hB8.cell 1
              have q2 : V8.cell? ⟨w.heap.size, 2, none⟩ = some (.string sub) := hB8.cell 2
              have q3 : V8.cell? ⟨w.heap.size, 3, none⟩ = some (.int .i64 xf) := hB8.cell 3
              have q4 : V8.cell? ⟨w.heap.size, 4, none⟩ = some (.int .i64 xu) := hB8.cell 4
              have q5 : V8.cell? ⟨w.heap.size, 5, none⟩ = some (.string key) := hB8.cell 5
              have q6 : V8.cell? ⟨w.heap.size, 6, none⟩ = some (.bool ca) := hB8.cell 6
              have q7 : V8.cell? ⟨w.heap.size, 7, none⟩ = some (.int .i64 x6) := hB8.cell 7
              have q8 : V8.cell? ⟨w.heap.size, 8, none⟩ = some (.int .i64 x7) := hB8.cell 8
              have q9 : V8.cell? ⟨w.heap.size, 9, none⟩ = some (.slice pa pl pc) := hB8.cell 9
              have q10 : V8.cell? ⟨w.heap.size, 10, none⟩ = some (.slice ea el ec) := hB8.cell 10
              have q11 : V8.cell? ⟨w.heap.size, 11, none⟩ = some (.slice da dl dc) := hB8.cell 11
              have q12 : V8.cell? ⟨w.heap.size, 12, none⟩ = some (.string sgt) := hB8.cell 12
              refine bodyPost_ret (v := .tuple #[.agg #[.int .i64 x0, .string iss, .string sub, .int .i64 xf, .int .i64 xu, .string key, .bool ca, .int .i64 x6, .int .i64 x7, .slice pa pl pc, .slice ea el ec, .slice da dl dc, .string sgt], .bool true]) (by simp [results, Try.results15, go_sem, q0, q1, q2, q3, q4, q5, q6, q7, q8, q9, q10, q11, q12]; try rfl) rfl ?_
              refine ⟨HFR.out.1.trans (ho8.below (fun b hb => by rw [List.mem_singleton.1 hb]; exact Nat.le_refl _) HFR.out.1.size), .inr ⟨c, _, HYES.out, rfl, HOWN.out V8 ho8, HTX2.out.2.1⟩⟩
            · have hbq : (bk.toList == T.toList) = false := beq_eq_false_iff_ne.2 hbt
              have HN : Hid (oR = none) := by
                show oR = none
                rw [← HP.out]
                rw [HP.out, HRS.out, if_neg (fun q => hbt (by have h1 := HTL.out bk; have h2 := HTL.out T; have h3 := HTX2.out.2.2; rw [q.2] at h3; injection h3 with h3; rw [h1, h2, HTX2.out.1, h3]))]
              clear HCC HSP HF3 HM HKS HTS HTX HSZ HYB HB1 HG2 HG3 HP HRS HTL HBK HCT HR HY HTX2 hbt
              go_upto_region 16 with fail
              refine wp_region_lit ?_
              refine step_build0 rfl rfl ?_
              refine step_store13 w.heap.size 0 ⟨#[]⟩ ⟨#[]⟩ 0 0 ⟨#[]⟩ false 0 0 none 0 0 none 0 0 none 0 0 ⟨#[]⟩ HFR.out.2 rfl rfl rfl rfl rfl ?_
              intro V8 ho8 hB8
              refine step_assign rfl rfl ?_
              unfold wpList
              rename_i hret
              refine hret _ _ ?_
              refine wp_ret ?_
              have q0 : V8.cell? ⟨w.heap.size, 0, none⟩ = some (.int .i64 0) := hB8.cell 0
              have q1 : V8.cell? ⟨w.heap.size, 1, none⟩ = some (.string ⟨#[]⟩) := hB8.cell 1
              have q2 : V8.cell? ⟨w.heap.size, 2, none⟩ = some (.string ⟨#[]⟩) := hB8.cell 2
              have q3 : V8.cell? ⟨w.heap.size, 3, none⟩ = some (.int .i64 0) := hB8.cell 3
              have q4 : V8.cell? ⟨w.heap.size, 4, none⟩ = some (.int .i64 0) := hB8.cell 4
              have q5 : V8.cell? ⟨w.heap.size, 5, none⟩ = some (.string ⟨#[]⟩) := hB8.cell 5
              have q6 : V8.cell? ⟨w.heap.size, 6, none⟩ = some (.bool false) := hB8.cell 6
              have q7 : V8.cell? ⟨w.heap.size, 7, none⟩ = some (.int .i64 0) := hB8.cell 7
              have q8 : V8.cell? ⟨w.heap.size, 8, none⟩ = some (.int .i64 0) := hB8.cell 8
              have q9 : V8.cell? ⟨w.heap.size, 9, none⟩ = some (.slice none 0 0) := hB8.cell 9
              have q10 : V8.cell? ⟨w.heap.size, 10, none⟩ = some (.slice none 0 0) := hB8.cell 10
              have q11 : V8.cell? ⟨w.heap.size, 11, none⟩ = some (.slice none 0 0) := hB8.cell 11
              have q12 : V8.cell? ⟨w.heap.size, 12, none⟩ = some (.string ⟨#[]⟩) := hB8.cell 12
              refine bodyPost_ret (v := .tuple #[.agg #[.int .i64 0, .string ⟨#[]⟩, .string ⟨#[]⟩, .int .i64 0, .int .i64 0, .string ⟨#[]⟩, .bool false, .int .i64 0, .int .i64 0, .slice none 0 0, .slice none 0 0, .slice none 0 0, .string ⟨#[]⟩], .bool false]) (by simp [results, Try.results15, go_sem, q0, q1, q2, q3, q4, q5, q6, q7, q8, q9, q10, q11, q12]; try rfl) rfl ⟨?_, .inl ⟨HN.out, rfl⟩⟩
              exact HFR.out.1.trans (ho8.below (fun b hb => by rw [List.mem_singleton.1 hb]; exact Nat.le_refl _) HFR.out.1.size)
end Go.Proofs.Ytajbalokcfghbaa
