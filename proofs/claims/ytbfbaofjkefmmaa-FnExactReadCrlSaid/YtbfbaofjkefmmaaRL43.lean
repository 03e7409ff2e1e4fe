/-
  Texts of the proof, one behind the other: DrG.
-/
import Derived.Test.YtbfbaofjkefmmaaRL22
import Derived.Test.YtbfbaofjkefmmaaRL28
import Derived.Test.YtbfbaofjkefmmaaRL34
import Derived.Test.YtbfbaofjkefmmaaRL35
import Derived.Test.YtbfbaofjkefmmaaRL40
import Derived.Test.YtbfbaofjkefmmaaRL42

/-
  The specification's ReadCrl: the list that bytes are, or none.
-/
namespace Go.Proofs.Ytbfbaofjkefmmaa
open Go.RowKit Der
set_option linter.unusedVariables false
set_option linter.unusedSimpArgs false

theorem specL_none {m : Nat} {x : It (m + 5)} (h : ¬ (It.tag x = 48 ∧ (It.kids x).length = 2)) : specL x = none := by
  unfold specL
  split
  · next b sg hk =>
    split
    · rw [if_neg (fun q => h ⟨q.1, by rw [hk]; rfl⟩)]
    · rfl
  · rfl
theorem specL_none2 {m : Nat} {x : It (m + 5)} {b sg : It (m + 4)} (hx : It.kids x = [b, sg]) (h : ¬ (It.tag b = 48 ∧ (It.kids b).length = 6)) : specL x = none := by
  unfold specL
  rw [hx]
  dsimp only
  split
  · next hk => rw [if_neg (fun q => h ⟨q.2, by rw [hk]; rfl⟩)]
  · rfl
theorem specL_some {m : Nat} {x : It (m + 5)} {b sg : It (m + 4)} {k0 k1 k2 k3 k4 k5 : It (m + 3)} (hx : It.kids x = [b, sg]) (hb : It.kids b = [k0, k1, k2, k3, k4, k5]) (h1 : It.tag x = 48) (h2 : It.tag b = 48) : specL x = (pairsI (It.kids k5)).map fun l => ⟨baL (It.text k0), numI k1, numI k2, numI k3, numI k4, l, baL (It.text sg)⟩ := by
  unfold specL
  rw [hx]
  dsimp only
  rw [hb]
  dsimp only
  rw [if_pos ⟨h1, h2⟩]
theorem numI_inL {k : Nat} (y : It (k + 1)) : 0 ≤ numI y ∧ numI y ≤ 1000000000 := by
  unfold numI
  cases h : inI (k + 1) y with
  | none => exact ⟨by decide, by decide⟩
  | some v =>
    have := (in_some h).2.2.2
    show (0 : Int) ≤ ((v : Nat) : Int) ∧ ((v : Nat) : Int) ≤ 1000000000
    omega
theorem pairs_in {k : Nat} : ∀ {ks : List (It (k + 2))} {l : List (Int × Int)}, pairsI ks = some l → l.length = ks.length ∧ ∀ v ∈ l, (0 ≤ v.1 ∧ v.1 ≤ 1000000000) ∧ (0 ≤ v.2 ∧ v.2 ≤ 1000000000)
  | [], l, h => by
    simp only [pairsI, Option.some.injEq] at h
    subst h
    exact ⟨rfl, fun v hv => by simp at hv⟩
  | y :: r, l, h => by
    unfold pairsI at h
    obtain ⟨p, hp, h⟩ := Option.bind_eq_some_iff.1 h
    obtain ⟨l', hl, h⟩ := Option.map_eq_some_iff.1 h
    subst h
    obtain ⟨e1, e2⟩ := pairs_in hl
    refine ⟨by simp [e1], fun v hv => ?_⟩
    rcases List.mem_cons.1 hv with rfl | hv
    · unfold pairI at hp
      split at hp
      · simp only [Option.some.injEq] at hp
        subst hp
        exact ⟨numI_inL _, numI_inL _⟩
      · cases hp
    · exact e2 v hv
/-- The list that is told is not great. -/
theorem wtL_spec {m : Nat} {x : It (m + 5)} {b sg : It (m + 4)} {k0 k1 k2 k3 k4 k5 : It (m + 3)} {l : List (Int × Int)} (hx : It.kids x = [b, sg]) (hb : It.kids b = [k0, k1, k2, k3, k4, k5]) (hl : pairsI (It.kids k5) = some l) (hz : szI (m + 5) x ≤ 4000) (c : Cl) (hc : c = ⟨baL (It.text k0), numI k1, numI k2, numI k3, numI k4, l, baL (It.text sg)⟩) : wtL c ≤ 1048576 ∧ WdL c := by
  have z0 : szI (m + 5) x = (It.text x).length + (It.kids x).length + ((It.kids x).map (szI (m + 4))).sum := szL_item x
  rw [hx] at z0
  simp only [List.map_cons, List.map_nil, List.sum_cons, List.sum_nil, List.length_cons, List.length_nil] at z0
  have z1 : szI (m + 4) b = (It.text b).length + (It.kids b).length + ((It.kids b).map (szI (m + 3))).sum := szL_item b
  rw [hb] at z1
  simp only [List.map_cons, List.map_nil, List.sum_cons, List.sum_nil, List.length_cons, List.length_nil] at z1
  have t0 : (baL (It.text k0)).size ≤ szI (m + 3) k0 := itxtL_le k0
  have ts : (baL (It.text sg)).size ≤ szI (m + 4) sg := itxtL_le sg
  have s5 : szI (m + 3) k5 = (It.text k5).length + (It.kids k5).length + ((It.kids k5).map (szI (m + 2))).sum := szL_item k5
  obtain ⟨e1, e2⟩ := pairs_in hl
  have w1 : (baL (It.text k0)).size ≤ 4000 := by omega
  have w2 : (baL (It.text sg)).size ≤ 4000 := by omega
  have w3 : l.length ≤ 4000 := by omega
  subst hc
  refine ⟨by unfold wtL; show (baL (It.text k0)).size + l.length + (baL (It.text sg)).size ≤ 1048576; omega, fun y hy => ?_, fun v hv => ?_, fun s hs => ?_, by show l.length ≤ _; omega⟩
  · simp only [List.mem_cons, List.not_mem_nil, or_false] at hy
    have b1 := numI_inL k1
    have b2 := numI_inL k2
    have b3 := numI_inL k3
    have b4 := numI_inL k4
    rcases hy with rfl | rfl | rfl | rfl <;> omega
  · have := e2 v hv
    omega
  · simp only [List.mem_cons, List.not_mem_nil, or_false] at hs
    rcases hs with rfl | rfl
    · show (baL (It.text k0)).size ≤ _; omega
    · show (baL (It.text sg)).size ≤ _; omega
/-- Where ReadCrl stands: the list laid at a block of its own. -/
def RL8 (w w2 W : World) (g : Nat) (cells : Array Value) : Prop :=
  Below w.heap.size w W ∧ Below w2.heap.size w2 W ∧ Blk W w.heap.size 24 #[.string ⟨#[]⟩, .int .i64 0, .int .i64 0, .int .i64 0, .int .i64 0, .slice none 0 0, .string ⟨#[]⟩] ∧ Blk W g 24 cells ∧ (w2.heap.size ≤ g ∧ w.heap.size < w2.heap.size)
theorem RL8.below {w w2 W W' : World} {g : Nat} {cells : Array Value} (h : RL8 w w2 W g cells) (hb : Below W.heap.size W W') : RL8 w w2 W' g cells :=
  ⟨h.1.trans (hb.mono h.1.size), h.2.1.trans (hb.mono h.2.1.size), h.2.2.1.on hb, h.2.2.2.1.on hb, h.2.2.2.2⟩
theorem RL8.set {w w2 W : World} {g : Nat} {cells cells' : Array Value} (h : RL8 w w2 W g cells) (j : Nat) (v : Value) (hc : cells.setIfInBounds j v = cells') : RL8 w w2 (W.setCell ⟨g, j, none⟩ v) g cells' := by
  obtain ⟨h1, h2, h3, h4, h10⟩ := h
  have ho : Out [g] W (W.setCell ⟨g, j, none⟩ v) := out_set _ _ _
  exact ⟨below_out h1 ho (by omega), below_out h2 ho h10.1, h3.outX ho (by simp; omega), by rw [← hc]; exact h4.set j v, h10⟩
theorem step_append_revs {w : World} {ops : Array Oper} {o : Oper} {a : Act} {K : Act → World → Prop} {Q : Exit → Act → World → Prop} {E : Prop} (hgd : o.guard = none) (s x : Operand)
    (ho : o.op = .call { callee := .builtin .append, args := #[s, x], argTypes := #[22, 22] }) (base : Nat)
    (v : Value) (l : List (Int × Int)) (hs : a.eval s = v) (hown : OwnR w base v l) (g cap : Nat) (p : Int × Int) (bu : Nat) (hu : OwnR w bu (.slice (some ⟨g, 0, none⟩) 1 cap) [p]) (hx : a.eval x = .slice (some ⟨g, 0, none⟩) 1 cap) (hlen : l.length ≤ 100000) (hbase : base ≤ w.heap.size)
    (h : ∀ v' w', OwnR w' base v' (l ++ [p]) → w.grownBy w' v.ownBlock → K (a.put o.dst v') w') :
    if Region.wanted o (yielded ops a.tmps) = true then Oper.wp Try.prog o a w K Q else E := by
  rw [if_pos (by simp [Region.wanted, hgd])]
  obtain ⟨i0, hi, hz0, hz1, hz2⟩ := info_parts infoRev
  refine wp_append_own w s x 22 ho base 57 i0 (.agg #[.int .i64 0, .int .i64 0]) 2 16 Try.underlying22 hi hz0 hz1 hz2 rfl (by decide) v l.length (cellsR l) hs hown ⟨g, 0, none⟩ 1 cap (cellsR [p]) hx (by rw [cellsR_len]; rfl) (fun j q hq => ?_) (revs_one [p]) (by unfold maxLen; omega) (by omega) hbase (fun v' w' h1 h2 _ => h v' w' (by simpa [OwnR, cellsR_append] using h1) h2)
  have hj : j < 1 * 2 := by
    refine Nat.lt_of_not_le fun h => ?_
    rw [List.getElem?_eq_none (by rw [cellsR_len]; exact h)] at hq
    cases hq
  rw [Addr.add_lit, Nat.zero_add, World.ownsRow.cellAt hu j hj]
  exact hq
theorem pairs_none {k : Nat} {ks : List (It (k + 2))} {j : Nat} (hj : j < ks.length) (h : ¬ (It.kids ks[j]).length = 2) : pairsI (ks.drop j) = none := by
  rw [List.drop_eq_getElem_cons hj]
  unfold pairsI
  have e : pairI ks[j] = none := by
    unfold pairI
    split
    · next hk => exact absurd (by rw [hk]; rfl) h
    · rfl
  rw [e]
  rfl
theorem pairs_step {k : Nat} {ks : List (It (k + 2))} {j : Nat} {a b : It (k + 1)} (hj : j < ks.length) (h : It.kids ks[j] = [a, b]) : pairsI (ks.drop j) = (pairsI (ks.drop (j + 1))).map ((numI a, numI b) :: ·) := by
  rw [List.drop_eq_getElem_cons hj]
  have e : pairI ks[j] = some (numI a, numI b) := by
    unfold pairI
    rw [h]
  show (pairI ks[j]).bind _ = _
  rw [e]
  rfl
set_option maxHeartbeats 25600000 in
set_option maxRecDepth 100000 in
theorem specReadCrl_any (T : ByteArray) (w : World) (hT : T.size ≤ 1000000000000) :
    Calls Try.prog 6 #[.string T] w fun e W' => RlPost w ((readI T.data.toList).bind (readSL (m := 2) T.data.toList)) e W' := by
  obtain ⟨oR, hoR⟩ : ∃ r, (readI T.data.toList).bind (readSL (m := 2) T.data.toList) = r := ⟨_, rfl⟩
  have HP : Hid ((readI T.data.toList).bind (readSL (m := 2) T.data.toList) = oR) := hoR
  rw [hoR]
  clear hoR
  obtain ⟨W1, hW1⟩ : ∃ V, V = w.alloc (Obj.cells #[.string ⟨#[]⟩, .int .i64 0, .int .i64 0, .int .i64 0, .int .i64 0, .slice none 0 0, .string ⟨#[]⟩] 24) := ⟨_, rfl⟩
  have E1 := specRead_any T W1 hT
  have H1 : Hid (Below w.heap.size w W1 ∧ Blk W1 w.heap.size 24 #[.string ⟨#[]⟩, .int .i64 0, .int .i64 0, .int .i64 0, .int .i64 0, .slice none 0 0, .string ⟨#[]⟩] ∧ W1.heap.size = w.heap.size + 1) := by rw [hW1]; exact ⟨(Below.refl _ _).alloc (Nat.le_refl _) _, Blk.new _ _ _, size_alloc _ _⟩
  go_enter Try.func6, Try.ntmps6
  go_wp2_with fail
  rw [← hW1]
  clear hW1
  refine E1.mono ?_
  rintro e w2 ⟨hb2, ⟨hn, rfl⟩ | ⟨x, t, s, ax, l, cx, fp, hx, rfl, hsz, ht, hs, hown⟩⟩
  · obtain ⟨W3, hW3⟩ : ∃ V, V = w2.alloc (Obj.cells #[.int .i64 0, .string ⟨#[]⟩, .slice none 0 0] 47) := ⟨_, rfl⟩
    have hb3 : Below w2.heap.size w2 W3 := by rw [hW3]; exact (Below.refl _ _).alloc (Nat.le_refl _) _
    have H3 : Hid (Below w.heap.size w W3 ∧ Blk W3 w.heap.size 24 #[.string ⟨#[]⟩, .int .i64 0, .int .i64 0, .int .i64 0, .int .i64 0, .slice none 0 0, .string ⟨#[]⟩]) := ⟨(H1.out.1.trans (hb2.mono H1.out.1.size)).trans (hb3.mono (Nat.le_trans H1.out.1.size hb2.size)), (H1.out.2.1.on hb2).on hb3⟩
    have HNO : Hid (readI T.data.toList = none) := hn
    clear hb3 hb2 H1 E1 hn
    go_wp2_with fail
    rw [← hW3]
    clear hW3
    have E4 := l09Kids_any 0 ⟨#[]⟩ none 0 0 2 W3
    generalize decide ((0 : Int) = 48 ∧ ((0 : Nat) : Int) = 2) = B4 at E4
    refine E4.mono ?_
    rintro e w4 ⟨rfl, hb4⟩
    have H4 : Hid (Below w.heap.size w w4 ∧ Blk w4 w.heap.size 24 #[.string ⟨#[]⟩, .int .i64 0, .int .i64 0, .int .i64 0, .int .i64 0, .slice none 0 0, .string ⟨#[]⟩]) := ⟨H3.out.1.trans (hb4.mono H3.out.1.size), H3.out.2.on hb4⟩
    clear E4 hb4 H3
    have r0 : w4.cell? ⟨w.heap.size, 0, none⟩ = some (.string ⟨#[]⟩) := H4.out.2.cell 0
    have r1 : w4.cell? ⟨w.heap.size, 1, none⟩ = some (.int .i64 0) := H4.out.2.cell 1
    have r2 : w4.cell? ⟨w.heap.size, 2, none⟩ = some (.int .i64 0) := H4.out.2.cell 2
    have r3 : w4.cell? ⟨w.heap.size, 3, none⟩ = some (.int .i64 0) := H4.out.2.cell 3
    have r4 : w4.cell? ⟨w.heap.size, 4, none⟩ = some (.int .i64 0) := H4.out.2.cell 4
    have r5 : w4.cell? ⟨w.heap.size, 5, none⟩ = some (.slice none 0 0) := H4.out.2.cell 5
    have r6 : w4.cell? ⟨w.heap.size, 6, none⟩ = some (.string ⟨#[]⟩) := H4.out.2.cell 6
    have rf := fun j => H4.out.2.free j
    have HN : Hid (oR = none) := by
      show oR = none
      rw [← HP.out]
      rw [HNO.out]; rfl
    go_wp2_with fail
    refine bodyPost_ret (v := .tuple #[.agg #[.string ⟨#[]⟩, .int .i64 0, .int .i64 0, .int .i64 0, .int .i64 0, .slice none 0 0, .string ⟨#[]⟩], .bool false]) (by simp [results, Try.results6, go_sem, r0, r1, r2, r3, r4, r5, r6]; try rfl) rfl ⟨?_, .inl ⟨HN.out, rfl⟩⟩
    iterate 7 refine Below.setCell ?_ (by show w.heap.size ≤ w.heap.size; exact Nat.le_refl _) _
    exact H4.out.1
  · have hkc : KcAt w2 6 (.slice ax l cx) (It.kids x) := KcAt.of hown
    obtain ⟨W3, hW3⟩ : ∃ V, V = w2.alloc (Obj.cells #[.int .i64 t, .string s, .slice ax l cx] 47) := ⟨_, rfl⟩
    have hb3 : Below w2.heap.size w2 W3 := by rw [hW3]; exact (Below.refl _ _).alloc (Nat.le_refl _) _
    have H3 : Hid ((Below w.heap.size w W3 ∧ Blk W3 w.heap.size 24 #[.string ⟨#[]⟩, .int .i64 0, .int .i64 0, .int .i64 0, .int .i64 0, .slice none 0 0, .string ⟨#[]⟩]) ∧ Below w2.heap.size w2 W3) := ⟨⟨(H1.out.1.trans (hb2.mono H1.out.1.size)).trans (hb3.mono (Nat.le_trans H1.out.1.size hb2.size)), (H1.out.2.1.on hb2).on hb3⟩, hb3⟩
    have HX : Hid (readI T.data.toList = some x ∧ szI 7 x ≤ 4000 ∧ It.tag x = t ∧ w.heap.size < w2.heap.size) := ⟨hx, hsz, ht, by have := H1.out.2.2; have := hb2.size; omega⟩
    have hln : l = (It.kids x).length := by obtain ⟨ao, cap, h, _⟩ := hkc; injection h
    have HKC : Hid (KcAt w2 6 (.slice ax l cx) (It.kids x) ∧ l = (It.kids x).length ∧ readI T.data.toList = some x) := ⟨hkc, hln, hx⟩
    clear hkc hb3 hown hx hsz hb2 E1 H1 ht hs hln
    go_wp2_with fail
    rw [← hW3]
    clear hW3
    have E4 := l09Kids_any t s ax l cx 2 W3
    obtain ⟨B4, hB4⟩ : ∃ B, decide (t = 48 ∧ (l : Int) = 2) = B := ⟨_, rfl⟩
    rw [hB4] at E4
    refine E4.mono ?_
    rintro e w4 ⟨rfl, hb4⟩
    have H4 : Hid ((Below w.heap.size w w4 ∧ Blk w4 w.heap.size 24 #[.string ⟨#[]⟩, .int .i64 0, .int .i64 0, .int .i64 0, .int .i64 0, .slice none 0 0, .string ⟨#[]⟩]) ∧ Below w2.heap.size w2 w4) := ⟨⟨H3.out.1.1.trans (hb4.mono H3.out.1.1.size), H3.out.1.2.on hb4⟩, H3.out.2.trans (hb4.mono H3.out.2.size)⟩
    clear E4 hb4 H3
    cases B4 with
    | false =>
      have hno := of_decide_eq_false hB4
      clear hB4
      have r0 : w4.cell? ⟨w.heap.size, 0, none⟩ = some (.string ⟨#[]⟩) := H4.out.1.2.cell 0
      have r1 : w4.cell? ⟨w.heap.size, 1, none⟩ = some (.int .i64 0) := H4.out.1.2.cell 1
      have r2 : w4.cell? ⟨w.heap.size, 2, none⟩ = some (.int .i64 0) := H4.out.1.2.cell 2
      have r3 : w4.cell? ⟨w.heap.size, 3, none⟩ = some (.int .i64 0) := H4.out.1.2.cell 3
      have r4 : w4.cell? ⟨w.heap.size, 4, none⟩ = some (.int .i64 0) := H4.out.1.2.cell 4
      have r5 : w4.cell? ⟨w.heap.size, 5, none⟩ = some (.slice none 0 0) := H4.out.1.2.cell 5
      have r6 : w4.cell? ⟨w.heap.size, 6, none⟩ = some (.string ⟨#[]⟩) := H4.out.1.2.cell 6
      have rf := fun j => H4.out.1.2.free j
      have HN : Hid (oR = none) := by
        show oR = none
        rw [← HP.out]
        rw [HX.out.1]; show readSL (m := 2) T.data.toList x = none; unfold readSL; rw [specL_none (m := 2) (x := x) (fun q => hno ⟨by rw [← HX.out.2.2.1]; exact q.1, by have h1 := HKC.out.2.1; have h2 := q.2; omega⟩)]; rfl
      clear hno
      go_wp2_with fail
      refine bodyPost_ret (v := .tuple #[.agg #[.string ⟨#[]⟩, .int .i64 0, .int .i64 0, .int .i64 0, .int .i64 0, .slice none 0 0, .string ⟨#[]⟩], .bool false]) (by simp [results, Try.results6, go_sem, r0, r1, r2, r3, r4, r5, r6]; try rfl) rfl ⟨?_, .inl ⟨HN.out, rfl⟩⟩
      iterate 7 refine Below.setCell ?_ (by show w.heap.size ≤ w.heap.size; exact Nat.le_refl _) _
      exact H4.out.1.1
    | true =>
      have hyes := of_decide_eq_true hB4
      clear hB4
      obtain ⟨rfl, hl2⟩ := hyes
      obtain rfl : l = 2 := by omega
      clear hl2
      obtain ⟨yb, sg, hkx⟩ := list_two (l := It.kids x) (HKC.out.2.1).symm
      obtain ⟨ao, cap, hv, _, hcell⟩ := HKC.out.1
      injection hv with hv1 hvx hv3
      clear hvx
      subst hv1 hv3
      rw [hkx] at hcell
      obtain ⟨g1, o1, ha1, hg1, hcs⟩ := hcell (by simp)
      obtain ⟨vb, d0, d1, d2, hkb⟩ := hcs 0 (by simp)
      obtain ⟨vs, s0, s1, s2, hks⟩ := hcs 1 (by simp)
      subst ha1
      have HY : Hid (It.kids x = [yb, sg] ∧ readI T.data.toList = some x ∧ szI 7 x ≤ 4000 ∧ It.tag x = 48 ∧ w.heap.size < w2.heap.size) := ⟨hkx, HX.out.1, HX.out.2.1, HX.out.2.2.1, HX.out.2.2.2⟩
      obtain ⟨sgt, hsgt⟩ : ∃ q, baL (It.text sg) = q := ⟨_, rfl⟩
      obtain ⟨tb, htb⟩ : ∃ q, It.tag yb = q := ⟨_, rfl⟩
      obtain ⟨sb, hsb⟩ : ∃ q : ByteArray, (⟨(It.text yb).toArray⟩ : ByteArray) = q := ⟨_, rfl⟩
      obtain ⟨ab, cb, hvb⟩ := hkb.shape
      change vb = .slice ab (It.kids yb).length cb at hvb
      change KcAt w2 5 vb (It.kids yb) at hkb
      obtain ⟨lb, hlb⟩ : ∃ q, (It.kids yb).length = q := ⟨_, rfl⟩
      have b0 : w2.cell? ⟨g1, o1, none⟩ = some (.int .i64 tb) := by rw [← htb]; exact d0
      have b1 : w2.cell? ⟨g1, o1 + 1, none⟩ = some (.string sb) := by rw [← hsb]; exact d1
      have b2 : w2.cell? ⟨g1, o1 + 2, none⟩ = some (.slice ab lb cb) := by rw [← hlb, ← hvb]; exact d2
      have b4 : w2.cell? ⟨g1, o1 + 4, none⟩ = some (.string sgt) := by rw [← hsgt]; exact s1
      have HB1 : Hid (g1 < w2.heap.size ∧ w2.cell? ⟨g1, o1 + 4, none⟩ = some (.string sgt) ∧ baL (It.text sg) = sgt ∧ It.tag yb = tb ∧ (It.kids yb).length = lb) := ⟨hg1, b4, hsgt, htb, hlb⟩
      have HKB : Hid (KcAt w2 5 (.slice ab lb cb) (It.kids yb)) := by show KcAt w2 5 (.slice ab lb cb) (It.kids yb); rw [← hlb, ← hvb]; exact hkb
      have f0 : w4.cell? ⟨g1, o1, none⟩ = some (.int .i64 tb) := (H4.out.2.cell (p := ⟨g1, o1, none⟩) hg1).trans b0
      have f1 : w4.cell? ⟨g1, o1 + 1, none⟩ = some (.string sb) := (H4.out.2.cell (p := ⟨g1, o1 + 1, none⟩) hg1).trans b1
      have f2 : w4.cell? ⟨g1, o1 + 2, none⟩ = some (.slice ab lb cb) := (H4.out.2.cell (p := ⟨g1, o1 + 2, none⟩) hg1).trans b2
      clear hcell hcs d0 d1 d2 s0 s1 s2 hkb hks hkx hsgt htb hsb hvb hlb b0 b1 b2 b4 hg1 HKC HX
      go_wp2_with fail
      clear f0 f1 f2
      have E5 := l09Kids_any tb sb ab lb cb 6 w4
      obtain ⟨B5, hB5⟩ : ∃ B, decide (tb = 48 ∧ (lb : Int) = 6) = B := ⟨_, rfl⟩
      rw [hB5] at E5
      refine E5.mono ?_
      rintro e w5 ⟨rfl, hb5⟩
      have H5 : Hid ((Below w.heap.size w w5 ∧ Blk w5 w.heap.size 24 #[.string ⟨#[]⟩, .int .i64 0, .int .i64 0, .int .i64 0, .int .i64 0, .slice none 0 0, .string ⟨#[]⟩]) ∧ Below w2.heap.size w2 w5) := ⟨⟨H4.out.1.1.trans (hb5.mono H4.out.1.1.size), H4.out.1.2.on hb5⟩, H4.out.2.trans (hb5.mono H4.out.2.size)⟩
      clear E5 hb5 H4
      cases B5 with
      | false =>
        have hno := of_decide_eq_false hB5
        clear hB5
        have r0 : w5.cell? ⟨w.heap.size, 0, none⟩ = some (.string ⟨#[]⟩) := H5.out.1.2.cell 0
        have r1 : w5.cell? ⟨w.heap.size, 1, none⟩ = some (.int .i64 0) := H5.out.1.2.cell 1
        have r2 : w5.cell? ⟨w.heap.size, 2, none⟩ = some (.int .i64 0) := H5.out.1.2.cell 2
        have r3 : w5.cell? ⟨w.heap.size, 3, none⟩ = some (.int .i64 0) := H5.out.1.2.cell 3
        have r4 : w5.cell? ⟨w.heap.size, 4, none⟩ = some (.int .i64 0) := H5.out.1.2.cell 4
        have r5 : w5.cell? ⟨w.heap.size, 5, none⟩ = some (.slice none 0 0) := H5.out.1.2.cell 5
        have r6 : w5.cell? ⟨w.heap.size, 6, none⟩ = some (.string ⟨#[]⟩) := H5.out.1.2.cell 6
        have rf := fun j => H5.out.1.2.free j
        have HN : Hid (oR = none) := by
          show oR = none
          rw [← HP.out]
          rw [HY.out.2.1]; show readSL (m := 2) T.data.toList x = none; unfold readSL; rw [specL_none2 (m := 2) (x := x) HY.out.1 (fun q => hno ⟨by rw [← HB1.out.2.2.2.1]; exact q.1, by have h1 := HB1.out.2.2.2.2; have h2 := q.2; omega⟩)]; rfl
        clear hno
        go_wp2_with fail
        refine bodyPost_ret (v := .tuple #[.agg #[.string ⟨#[]⟩, .int .i64 0, .int .i64 0, .int .i64 0, .int .i64 0, .slice none 0 0, .string ⟨#[]⟩], .bool false]) (by simp [results, Try.results6, go_sem, r0, r1, r2, r3, r4, r5, r6]; try rfl) rfl ⟨?_, .inl ⟨HN.out, rfl⟩⟩
        iterate 7 refine Below.setCell ?_ (by show w.heap.size ≤ w.heap.size; exact Nat.le_refl _) _
        exact H5.out.1.1
      | true =>
        have hyes := of_decide_eq_true hB5
        clear hB5
        obtain ⟨rfl, hl2⟩ := hyes
        obtain rfl : lb = 6 := by omega
        clear hl2
        obtain ⟨k0, k1, k2, k3, k4, k5, hky⟩ := list_six (l := It.kids yb) HB1.out.2.2.2.2
        obtain ⟨ao, cap, hv, _, hcell⟩ := HKB.out
        injection hv with hv1 hvx hv3
        clear hvx
        subst hv1 hv3
        rw [hky] at hcell
        obtain ⟨g2, o2, ha2, hg2, hcs⟩ := hcell (by simp)
        subst ha2
        obtain ⟨v0, p0a, p0b, p0c, hk0⟩ := hcs 0 (by simp)
        obtain ⟨v1, p1a, p1b, p1c, hk1⟩ := hcs 1 (by simp)
        obtain ⟨v2, p2a, p2b, p2c, hk2⟩ := hcs 2 (by simp)
        obtain ⟨v3, p3a, p3b, p3c, hk3⟩ := hcs 3 (by simp)
        obtain ⟨v4, p4a, p4b, p4c, hk4⟩ := hcs 4 (by simp)
        obtain ⟨v5, p5a, p5b, p5c, hk5⟩ := hcs 5 (by simp)
        have HYB : Hid (It.kids yb = [k0, k1, k2, k3, k4, k5] ∧ It.tag yb = 48) := ⟨hky, HB1.out.2.2.2.1⟩
        obtain ⟨iss, hiss⟩ : ∃ q, baL (It.text k0) = q := ⟨_, rfl⟩
        obtain ⟨t1, ht1⟩ : ∃ q, It.tag k1 = q := ⟨_, rfl⟩
        obtain ⟨s1, hs1⟩ : ∃ q : ByteArray, (⟨(It.text k1).toArray⟩ : ByteArray) = q := ⟨_, rfl⟩
        obtain ⟨a1, c1, hv1⟩ := hk1.shape
        change v1 = .slice a1 (It.kids k1).length c1 at hv1
        obtain ⟨l1, hl1⟩ : ∃ q, (It.kids k1).length = q := ⟨_, rfl⟩
        rw [hl1] at hv1
        subst hv1
        obtain ⟨t2, ht2⟩ : ∃ q, It.tag k2 = q := ⟨_, rfl⟩
        obtain ⟨s2, hs2⟩ : ∃ q : ByteArray, (⟨(It.text k2).toArray⟩ : ByteArray) = q := ⟨_, rfl⟩
        obtain ⟨a2, c2, hv2⟩ := hk2.shape
        change v2 = .slice a2 (It.kids k2).length c2 at hv2
        obtain ⟨l2, hl2⟩ : ∃ q, (It.kids k2).length = q := ⟨_, rfl⟩
        rw [hl2] at hv2
        subst hv2
        obtain ⟨t3, ht3⟩ : ∃ q, It.tag k3 = q := ⟨_, rfl⟩
        obtain ⟨s3, hs3⟩ : ∃ q : ByteArray, (⟨(It.text k3).toArray⟩ : ByteArray) = q := ⟨_, rfl⟩
        obtain ⟨a3, c3, hv3⟩ := hk3.shape
        change v3 = .slice a3 (It.kids k3).length c3 at hv3
        obtain ⟨l3, hl3⟩ : ∃ q, (It.kids k3).length = q := ⟨_, rfl⟩
        rw [hl3] at hv3
        subst hv3
        obtain ⟨t4, ht4⟩ : ∃ q, It.tag k4 = q := ⟨_, rfl⟩
        obtain ⟨s4, hs4⟩ : ∃ q : ByteArray, (⟨(It.text k4).toArray⟩ : ByteArray) = q := ⟨_, rfl⟩
        obtain ⟨a4, c4, hv4⟩ := hk4.shape
        change v4 = .slice a4 (It.kids k4).length c4 at hv4
        obtain ⟨l4, hl4⟩ : ∃ q, (It.kids k4).length = q := ⟨_, rfl⟩
        rw [hl4] at hv4
        subst hv4
        obtain ⟨t5, ht5⟩ : ∃ q, It.tag k5 = q := ⟨_, rfl⟩
        obtain ⟨s5, hs5⟩ : ∃ q : ByteArray, (⟨(It.text k5).toArray⟩ : ByteArray) = q := ⟨_, rfl⟩
        obtain ⟨a5, c5, hv5⟩ := hk5.shape
        change v5 = .slice a5 (It.kids k5).length c5 at hv5
        obtain ⟨l5, hl5⟩ : ∃ q, (It.kids k5).length = q := ⟨_, rfl⟩
        rw [hl5] at hv5
        subst hv5
        have HG2 : Hid (g2 < w2.heap.size) := hg2
        have HM : Hid (w2.cell? ⟨g2, o2 + 1, none⟩ = some (.string iss) ∧ w2.cell? ⟨g2, o2 + 3, none⟩ = some (.int .i64 t1) ∧ w2.cell? ⟨g2, o2 + 4, none⟩ = some (.string s1) ∧ w2.cell? ⟨g2, o2 + 5, none⟩ = some (.slice a1 l1 c1) ∧ w2.cell? ⟨g2, o2 + 6, none⟩ = some (.int .i64 t2) ∧ w2.cell? ⟨g2, o2 + 7, none⟩ = some (.string s2) ∧ w2.cell? ⟨g2, o2 + 8, none⟩ = some (.slice a2 l2 c2) ∧ w2.cell? ⟨g2, o2 + 9, none⟩ = some (.int .i64 t3) ∧ w2.cell? ⟨g2, o2 + 10, none⟩ = some (.string s3) ∧ w2.cell? ⟨g2, o2 + 11, none⟩ = some (.slice a3 l3 c3) ∧ w2.cell? ⟨g2, o2 + 12, none⟩ = some (.int .i64 t4) ∧ w2.cell? ⟨g2, o2 + 13, none⟩ = some (.string s4) ∧ w2.cell? ⟨g2, o2 + 14, none⟩ = some (.slice a4 l4 c4) ∧ w2.cell? ⟨g2, o2 + 17, none⟩ = some (.slice a5 l5 c5)) := ⟨by rw [← hiss]; exact p0b, by rw [← ht1]; exact p1a, by rw [← hs1]; exact p1b, by exact p1c, by rw [← ht2]; exact p2a, by rw [← hs2]; exact p2b, by exact p2c, by rw [← ht3]; exact p3a, by rw [← hs3]; exact p3b, by exact p3c, by rw [← ht4]; exact p4a, by rw [← hs4]; exact p4b, by exact p4c, by exact p5c⟩
        have HKS : Hid (KcAt w2 4 (.slice a1 l1 c1) (It.kids k1) ∧ KcAt w2 4 (.slice a2 l2 c2) (It.kids k2) ∧ KcAt w2 4 (.slice a3 l3 c3) (It.kids k3) ∧ KcAt w2 4 (.slice a4 l4 c4) (It.kids k4) ∧ KcAt w2 4 (.slice a5 l5 c5) (It.kids k5)) := ⟨by show KcAt w2 4 (.slice a1 l1 c1) (It.kids k1); exact hk1, by show KcAt w2 4 (.slice a2 l2 c2) (It.kids k2); exact hk2, by show KcAt w2 4 (.slice a3 l3 c3) (It.kids k3); exact hk3, by show KcAt w2 4 (.slice a4 l4 c4) (It.kids k4); exact hk4, by show KcAt w2 4 (.slice a5 l5 c5) (It.kids k5); exact hk5⟩
        have HTS : Hid ((It.tag k1 = t1 ∧ (⟨(It.text k1).toArray⟩ : ByteArray) = s1) ∧ (It.tag k2 = t2 ∧ (⟨(It.text k2).toArray⟩ : ByteArray) = s2) ∧ (It.tag k3 = t3 ∧ (⟨(It.text k3).toArray⟩ : ByteArray) = s3) ∧ (It.tag k4 = t4 ∧ (⟨(It.text k4).toArray⟩ : ByteArray) = s4) ∧ (It.tag k5 = t5 ∧ (⟨(It.text k5).toArray⟩ : ByteArray) = s5)) := ⟨⟨ht1, hs1⟩, ⟨ht2, hs2⟩, ⟨ht3, hs3⟩, ⟨ht4, hs4⟩, ⟨ht5, hs5⟩⟩
        have HSZ : Hid (∀ y ∈ [k0, k1, k2, k3, k4, k5], szI 5 y ≤ 4000) := by
          show ∀ y ∈ _, _
          rw [← hky]
          have h1 := szI_kid (t := It.tag x) (s := It.text x) (ks := It.kids x) HY.out.2.2.1
          have h2 := h1.2.2 yb (by rw [HY.out.1]; simp)
          exact (szI_kid (t := It.tag yb) (s := It.text yb) (ks := It.kids yb) h2).2.2
        obtain ⟨x1, hx1⟩ : ∃ q, numI k1 = q := ⟨_, rfl⟩
        obtain ⟨x2, hx2⟩ : ∃ q, numI k2 = q := ⟨_, rfl⟩
        obtain ⟨x3, hx3⟩ : ∃ q, numI k3 = q := ⟨_, rfl⟩
        obtain ⟨x4, hx4⟩ : ∃ q, numI k4 = q := ⟨_, rfl⟩
        have HXX : Hid ((numI k1 = x1 ∧ numI k2 = x2 ∧ numI k3 = x3 ∧ numI k4 = x4) ∧ baL (It.text k0) = iss ∧ (It.kids k5).length = l5) := ⟨⟨hx1, hx2, hx3, hx4⟩, hiss, hl5⟩
        clear hcell hcs hky hg2 hiss hx1 hx2 hx3 hx4 hk0 p0a p0b p0c p1a p1b p1c p2a p2b p2c p3a p3b p3c p4a p4b p4c p5a p5b p5c hk1 ht1 hs1 hl1 hk2 ht2 hs2 hl2 hk3 ht3 hs3 hl3 hk4 ht4 hs4 hl4 hk5 ht5 hs5 hl5
        have m0 : w5.cell? ⟨g2, o2 + 1, none⟩ = some (.string iss) := (H5.out.2.cell (p := ⟨g2, o2 + 1, none⟩) HG2.out).trans HM.out.1
        have b4 : w5.cell? ⟨g1, o1 + 4, none⟩ = some (.string sgt) := (H5.out.2.cell (p := ⟨g1, o1 + 4, none⟩) HB1.out.1).trans HB1.out.2.1
        go_upto_region 8 with fail
        clear m0 b4
        have SB : ∀ (W W' : World), ((Below w.heap.size w W ∧ Blk W w.heap.size 24 #[.string ⟨#[]⟩, .int .i64 0, .int .i64 0, .int .i64 0, .int .i64 0, .slice none 0 0, .string ⟨#[]⟩]) ∧ Below w2.heap.size w2 W) → Below W.heap.size W W' → ((Below w.heap.size w W' ∧ Blk W' w.heap.size 24 #[.string ⟨#[]⟩, .int .i64 0, .int .i64 0, .int .i64 0, .int .i64 0, .slice none 0 0, .string ⟨#[]⟩]) ∧ Below w2.heap.size w2 W') := fun W W' h hb => ⟨⟨h.1.1.trans (hb.mono h.1.1.size), h.1.2.on hb⟩, h.2.trans (hb.mono h.2.size)⟩
        refine wp_region_held_drew (S := fun W => (Below w.heap.size w W ∧ Blk W w.heap.size 24 #[.string ⟨#[]⟩, .int .i64 0, .int .i64 0, .int .i64 0, .int .i64 0, .slice none 0 0, .string ⟨#[]⟩]) ∧ Below w2.heap.size w2 W) (by kernel_rfl) (SB _ _ H5.out ((Below.refl _ _).drew)) (fun hHeld => ?_)
        clear H5
        generalize w5.drew = wd at hHeld ⊢
        refine wpAnyH_take (i := 0) (oi := ⟨some 42, _, _, _, _, _⟩) (v := ?_) rfl (by kernel_rfl) (by kernel_rfl) (by kernel_rfl) (fun _ _ _ h => h) (Or.inl ⟨by rfl, ?_⟩) hHeld ?_
        rotate_left
        · intro W hSw
          go_simp
          try with_reducible rfl
        try simp only [Act.put, List.setIfInBounds_toArray, List.set_cons_zero, List.set_cons_succ]
        refine wpAnyH_take (i := 1) (oi := ⟨some 43, _, _, _, _, _⟩) (v := ?_) rfl (by kernel_rfl) (by kernel_rfl) (by kernel_rfl) (fun _ _ _ h => h) (Or.inl ⟨by rfl, ?_⟩) hHeld ?_
        rotate_left
        · intro W hSw
          go_simp
          try with_reducible rfl
        try simp only [Act.put, List.setIfInBounds_toArray, List.set_cons_zero, List.set_cons_succ]
        refine wpAnyH_take (i := 2) (oi := ⟨some 44, _, _, _, _, _⟩) (v := ?_) rfl (by kernel_rfl) (by kernel_rfl) (by kernel_rfl) (fun _ _ _ h => h) (Or.inl ⟨by rfl, ?_⟩) hHeld ?_
        rotate_left
        · intro W hSw
          go_simp
          try with_reducible rfl
        try simp only [Act.put, List.setIfInBounds_toArray, List.set_cons_zero, List.set_cons_succ]
        refine wpAnyH_take (i := 3) (oi := ⟨some 45, _, _, _, _, _⟩) (v := ?_) rfl (by kernel_rfl) (by kernel_rfl) (by kernel_rfl) (fun _ _ _ h => h) (Or.inl ⟨by rfl, ?_⟩) hHeld ?_
        rotate_left
        · intro W hSw
          have m0 : W.cell? ⟨g2, o2 + 1, none⟩ = some (.string iss) := (hSw.2.cell (p := ⟨g2, o2 + 1, none⟩) HG2.out).trans HM.out.1
          go_simp
          try with_reducible rfl
        try simp only [Act.put, List.setIfInBounds_toArray, List.set_cons_zero, List.set_cons_succ]
        refine wpAnyH_take (i := 4) (oi := ⟨some 46, _, _, _, _, _⟩) (v := ?_) rfl (by kernel_rfl) (by kernel_rfl) (by kernel_rfl) (fun _ _ _ h => h) (Or.inl ⟨by rfl, ?_⟩) hHeld ?_
        rotate_left
        · intro W hSw
          go_simp
          try with_reducible rfl
        try simp only [Act.put, List.setIfInBounds_toArray, List.set_cons_zero, List.set_cons_succ]
        refine wpAnyH_take (i := 5) (oi := ⟨some 47, _, _, _, _, _⟩) (v := ?_) rfl (by kernel_rfl) (by kernel_rfl) (by kernel_rfl) (fun _ _ _ h => h) (Or.inl ⟨by rfl, ?_⟩) hHeld ?_
        rotate_left
        · intro W hSw
          go_simp
          try with_reducible rfl
        try simp only [Act.put, List.setIfInBounds_toArray, List.set_cons_zero, List.set_cons_succ]
        refine wpAnyH_take (i := 6) (oi := ⟨some 48, _, _, _, _, _⟩) (v := ?_) rfl (by kernel_rfl) (by kernel_rfl) (by kernel_rfl) (fun _ _ _ h => h) (Or.inl ⟨by rfl, ?_⟩) hHeld ?_
        rotate_left
        · intro W hSw
          go_simp
          try with_reducible rfl
        try simp only [Act.put, List.setIfInBounds_toArray, List.set_cons_zero, List.set_cons_succ]
        refine wpAnyH_take (i := 7) (oi := ⟨some 49, _, _, _, _, _⟩) (v := ?_) rfl (by kernel_rfl) (by kernel_rfl) (by kernel_rfl) (fun _ _ _ h => h) (Or.inl ⟨by rfl, ?_⟩) hHeld ?_
        rotate_left
        · intro W hSw
          have b4 : W.cell? ⟨g1, o1 + 4, none⟩ = some (.string sgt) := (hSw.2.cell (p := ⟨g1, o1 + 4, none⟩) HB1.out.1).trans HB1.out.2.1
          go_simp
          try with_reducible rfl
        try simp only [Act.put, List.setIfInBounds_toArray, List.set_cons_zero, List.set_cons_succ]
        refine wpAnyH_take (i := 8) (oi := ⟨some 50, _, _, _, _, _⟩) (v := ?_) rfl (by kernel_rfl) (by kernel_rfl) (by kernel_rfl) (fun _ _ _ h => h) (Or.inl ⟨by rfl, ?_⟩) hHeld ?_
        rotate_left
        · intro W hSw
          go_simp
          try with_reducible rfl
        try simp only [Act.put, List.setIfInBounds_toArray, List.set_cons_zero, List.set_cons_succ]
        refine wpAnyH_ready (rs := [9]) (by kernel_rfl) (by simp) ?_
        refine AllReadyH.cons (o := ⟨some 10, _, _, _, _, _⟩) rfl (fun K hK => ?_) AllReadyH.nil
        obtain ⟨y1, hy1⟩ : ∃ V, V = wd.alloc (Obj.cells #[.string ⟨#[]⟩, .int .i64 0, .int .i64 0, .int .i64 0, .int .i64 0, .slice none 0 0, .string ⟨#[]⟩] 24) := ⟨_, rfl⟩
        have hb : Below wd.heap.size wd y1 := by rw [hy1]; exact (Below.refl _ _).alloc (Nat.le_refl _) _
        have HGC : Hid (Blk y1 wd.heap.size 24 #[.string ⟨#[]⟩, .int .i64 0, .int .i64 0, .int .i64 0, .int .i64 0, .slice none 0 0, .string ⟨#[]⟩]) := by rw [hy1]; exact Blk.new _ _ _
        have HGS : Hid (w2.heap.size ≤ wd.heap.size) := hHeld.2.size
        have hH := SB _ _ hHeld hb
        go_simp
        rw [← hy1]
        refine hK.out _ _ hH (fun hHeld => ?_)
        clear hK K hH hb hy1
        try simp only [Act.put, List.setIfInBounds_toArray, List.set_cons_zero, List.set_cons_succ]
        obtain ⟨gC, hgC⟩ : ∃ q, wd.heap.size = q := ⟨_, rfl⟩
        rw [hgC] at HGC HGS ⊢
        clear hgC
        refine wpAnyH_ready (rs := [10]) (by kernel_rfl) (by simp) ?_
        refine AllReadyH.cons (o := ⟨none, _, _, _, _, _⟩) rfl (fun K hK => ?_) AllReadyH.nil
        have g0c : y1.cell? ⟨gC, 0, none⟩ = some (.string ⟨#[]⟩) := HGC.out.cell 0
        have g1c : y1.cell? ⟨gC, 1, none⟩ = some (.int .i64 0) := HGC.out.cell 1
        have g2c : y1.cell? ⟨gC, 2, none⟩ = some (.int .i64 0) := HGC.out.cell 2
        have g3c : y1.cell? ⟨gC, 3, none⟩ = some (.int .i64 0) := HGC.out.cell 3
        have g4c : y1.cell? ⟨gC, 4, none⟩ = some (.int .i64 0) := HGC.out.cell 4
        have g5c : y1.cell? ⟨gC, 5, none⟩ = some (.slice none 0 0) := HGC.out.cell 5
        have g6c : y1.cell? ⟨gC, 6, none⟩ = some (.string ⟨#[]⟩) := HGC.out.cell 6
        have gf := fun j => HGC.out.free j
        go_simp
        generalize hV : World.setCell _ { block := gC, off := 6 } (Value.string sgt) = V
        have FIN : Out [gC] y1 V ∧ Blk V gC 24 #[.string iss, .int .i64 0, .int .i64 0, .int .i64 0, .int .i64 0, .slice none 0 0, .string sgt] := by
          rw [← hV]
          refine ⟨?_, ?_⟩
          · iterate 7 refine Out.setCell ?_ _ _ (by simp)
            exact Out.refl _ _
          · exact set7 HGC.out
        clear hV gf g0c g1c g2c g3c g4c g5c g6c
        have hgw : w2.heap.size ≤ gC ∧ w.heap.size < w2.heap.size := ⟨HGS.out, HY.out.2.2.2.2⟩
        have hH : (Below w.heap.size w V ∧ Blk V w.heap.size 24 #[.string ⟨#[]⟩, .int .i64 0, .int .i64 0, .int .i64 0, .int .i64 0, .slice none 0 0, .string ⟨#[]⟩]) ∧ Below w2.heap.size w2 V := ⟨⟨below_out hHeld.1.1 FIN.1 (by omega), hHeld.1.2.outX FIN.1 (by simp; omega)⟩, below_out hHeld.2 FIN.1 hgw.1⟩
        have HR : Hid (RL8 w w2 V gC #[.string iss, .int .i64 0, .int .i64 0, .int .i64 0, .int .i64 0, .slice none 0 0, .string sgt]) := ⟨hH.1.1, hH.2, hH.1.2, FIN.2, hgw⟩
        refine hK.out _ _ hH (fun hHeld => ?_)
        clear hK K hH FIN hHeld hgw HGC HGS SB
        try simp only [Act.put, List.setIfInBounds_toArray, List.set_cons_zero, List.set_cons_succ]
        refine wpAnyH_done (by kernel_rfl) ?_ _
        have m1a : V.cell? ⟨g2, o2 + 3, none⟩ = some (.int .i64 t1) := (HR.out.2.1.cell (p := ⟨g2, o2 + 3, none⟩) HG2.out).trans HM.out.2.1
        have m1b : V.cell? ⟨g2, o2 + 4, none⟩ = some (.string s1) := (HR.out.2.1.cell (p := ⟨g2, o2 + 4, none⟩) HG2.out).trans HM.out.2.2.1
        have m1c : V.cell? ⟨g2, o2 + 5, none⟩ = some (.slice a1 l1 c1) := (HR.out.2.1.cell (p := ⟨g2, o2 + 5, none⟩) HG2.out).trans HM.out.2.2.2.1
        go_wp2_with fail
        clear m1a m1b m1c
        have EI := specIntIn_any 5 k1 (.agg #[.int .i64 t1, .string s1, .slice a1 l1 c1]) V (ItAt.below HR.out.2.1 ⟨.slice a1 l1 c1, by rw [(HTS.out.1).1, (HTS.out.1).2], (HKS.out.1).at⟩) (Nat.le_trans (HSZ.out k1 (by simp)) (by decide))
        rw [show (((inI 5 k1).getD 0 : Nat) : Int) = x1 from HXX.out.1.1] at EI
        generalize (inI 5 k1).isSome = okI at EI
        refine EI.mono ?_
        rintro e z1 ⟨rfl, hb⟩
        have HRn : Hid (RL8 w w2 z1 gC #[.string iss, .int .i64 0, .int .i64 0, .int .i64 0, .int .i64 0, .slice none 0 0, .string sgt]) := HR.out.below hb
        clear HR EI hb
        have HR := HRn
        clear HRn
        have cc : z1.cell? ⟨gC, 1, none⟩ = some (.int .i64 0) := HR.out.2.2.2.1.cell 1
        have cfz := HR.out.2.2.2.1.free 1
        have HS : ∀ g, g < w2.heap.size → g ≠ gC := fun g hg => by have := HR.out.2.2.2.2.1; omega
        have m2a : (z1.setCell ⟨gC, 1, none⟩ (.int .i64 x1)).cell? ⟨g2, o2 + 6, none⟩ = some (.int .i64 t2) := (World.cell?_of_block (heap_setCell_other _ _ _ _ (by show g2 ≠ gC; exact HS _ HG2.out))).trans ((HR.out.2.1.cell (p := ⟨g2, o2 + 6, none⟩) HG2.out).trans HM.out.2.2.2.2.1)
        have m2b : (z1.setCell ⟨gC, 1, none⟩ (.int .i64 x1)).cell? ⟨g2, o2 + 7, none⟩ = some (.string s2) := (World.cell?_of_block (heap_setCell_other _ _ _ _ (by show g2 ≠ gC; exact HS _ HG2.out))).trans ((HR.out.2.1.cell (p := ⟨g2, o2 + 7, none⟩) HG2.out).trans HM.out.2.2.2.2.2.1)
        have m2c : (z1.setCell ⟨gC, 1, none⟩ (.int .i64 x1)).cell? ⟨g2, o2 + 8, none⟩ = some (.slice a2 l2 c2) := (World.cell?_of_block (heap_setCell_other _ _ _ _ (by show g2 ≠ gC; exact HS _ HG2.out))).trans ((HR.out.2.1.cell (p := ⟨g2, o2 + 8, none⟩) HG2.out).trans HM.out.2.2.2.2.2.2.1)
        clear HS
        go_wp2_with fail
        clear cc cfz m2a m2b m2c
        obtain ⟨V1, hV1⟩ : ∃ V, V = (z1.setCell ⟨gC, 1, none⟩ (.int .i64 x1)) := ⟨_, rfl⟩
        rw [← hV1]
        have HRn : Hid (RL8 w w2 V1 gC #[.string iss, .int .i64 x1, .int .i64 0, .int .i64 0, .int .i64 0, .slice none 0 0, .string sgt]) := by rw [hV1]; exact HR.out.set 1 _ rfl
        clear HR hV1
        have HR := HRn
        clear HRn
        have EI := specIntIn_any 5 k2 (.agg #[.int .i64 t2, .string s2, .slice a2 l2 c2]) V1 (ItAt.below HR.out.2.1 ⟨.slice a2 l2 c2, by rw [(HTS.out.2.1).1, (HTS.out.2.1).2], (HKS.out.2.1).at⟩) (Nat.le_trans (HSZ.out k2 (by simp)) (by decide))
        rw [show (((inI 5 k2).getD 0 : Nat) : Int) = x2 from HXX.out.1.2.1] at EI
        generalize (inI 5 k2).isSome = okI at EI
        refine EI.mono ?_
        rintro e z2 ⟨rfl, hb⟩
        have HRn : Hid (RL8 w w2 z2 gC #[.string iss, .int .i64 x1, .int .i64 0, .int .i64 0, .int .i64 0, .slice none 0 0, .string sgt]) := HR.out.below hb
        clear HR EI hb
        have HR := HRn
        clear HRn
        have cc : z2.cell? ⟨gC, 2, none⟩ = some (.int .i64 0) := HR.out.2.2.2.1.cell 2
        have cfz := HR.out.2.2.2.1.free 2
        have HS : ∀ g, g < w2.heap.size → g ≠ gC := fun g hg => by have := HR.out.2.2.2.2.1; omega
        have m3a : (z2.setCell ⟨gC, 2, none⟩ (.int .i64 x2)).cell? ⟨g2, o2 + 9, none⟩ = some (.int .i64 t3) := (World.cell?_of_block (heap_setCell_other _ _ _ _ (by show g2 ≠ gC; exact HS _ HG2.out))).trans ((HR.out.2.1.cell (p := ⟨g2, o2 + 9, none⟩) HG2.out).trans HM.out.2.2.2.2.2.2.2.1)
        have m3b : (z2.setCell ⟨gC, 2, none⟩ (.int .i64 x2)).cell? ⟨g2, o2 + 10, none⟩ = some (.string s3) := (World.cell?_of_block (heap_setCell_other _ _ _ _ (by show g2 ≠ gC; exact HS _ HG2.out))).trans ((HR.out.2.1.cell (p := ⟨g2, o2 + 10, none⟩) HG2.out).trans HM.out.2.2.2.2.2.2.2.2.1)
        have m3c : (z2.setCell ⟨gC, 2, none⟩ (.int .i64 x2)).cell? ⟨g2, o2 + 11, none⟩ = some (.slice a3 l3 c3) := (World.cell?_of_block (heap_setCell_other _ _ _ _ (by show g2 ≠ gC; exact HS _ HG2.out))).trans ((HR.out.2.1.cell (p := ⟨g2, o2 + 11, none⟩) HG2.out).trans HM.out.2.2.2.2.2.2.2.2.2.1)
        clear HS
        go_wp2_with fail
        clear cc cfz m3a m3b m3c
        obtain ⟨V2, hV2⟩ : ∃ V, V = (z2.setCell ⟨gC, 2, none⟩ (.int .i64 x2)) := ⟨_, rfl⟩
        rw [← hV2]
        have HRn : Hid (RL8 w w2 V2 gC #[.string iss, .int .i64 x1, .int .i64 x2, .int .i64 0, .int .i64 0, .slice none 0 0, .string sgt]) := by rw [hV2]; exact HR.out.set 2 _ rfl
        clear HR hV2
        have HR := HRn
        clear HRn
        have EI := specIntIn_any 5 k3 (.agg #[.int .i64 t3, .string s3, .slice a3 l3 c3]) V2 (ItAt.below HR.out.2.1 ⟨.slice a3 l3 c3, by rw [(HTS.out.2.2.1).1, (HTS.out.2.2.1).2], (HKS.out.2.2.1).at⟩) (Nat.le_trans (HSZ.out k3 (by simp)) (by decide))
        rw [show (((inI 5 k3).getD 0 : Nat) : Int) = x3 from HXX.out.1.2.2.1] at EI
        generalize (inI 5 k3).isSome = okI at EI
        refine EI.mono ?_
        rintro e z3 ⟨rfl, hb⟩
        have HRn : Hid (RL8 w w2 z3 gC #[.string iss, .int .i64 x1, .int .i64 x2, .int .i64 0, .int .i64 0, .slice none 0 0, .string sgt]) := HR.out.below hb
        clear HR EI hb
        have HR := HRn
        clear HRn
        have cc : z3.cell? ⟨gC, 3, none⟩ = some (.int .i64 0) := HR.out.2.2.2.1.cell 3
        have cfz := HR.out.2.2.2.1.free 3
        have HS : ∀ g, g < w2.heap.size → g ≠ gC := fun g hg => by have := HR.out.2.2.2.2.1; omega
        have m4a : (z3.setCell ⟨gC, 3, none⟩ (.int .i64 x3)).cell? ⟨g2, o2 + 12, none⟩ = some (.int .i64 t4) := (World.cell?_of_block (heap_setCell_other _ _ _ _ (by show g2 ≠ gC; exact HS _ HG2.out))).trans ((HR.out.2.1.cell (p := ⟨g2, o2 + 12, none⟩) HG2.out).trans HM.out.2.2.2.2.2.2.2.2.2.2.1)
        have m4b : (z3.setCell ⟨gC, 3, none⟩ (.int .i64 x3)).cell? ⟨g2, o2 + 13, none⟩ = some (.string s4) := (World.cell?_of_block (heap_setCell_other _ _ _ _ (by show g2 ≠ gC; exact HS _ HG2.out))).trans ((HR.out.2.1.cell (p := ⟨g2, o2 + 13, none⟩) HG2.out).trans HM.out.2.2.2.2.2.2.2.2.2.2.2.1)
        have m4c : (z3.setCell ⟨gC, 3, none⟩ (.int .i64 x3)).cell? ⟨g2, o2 + 14, none⟩ = some (.slice a4 l4 c4) := (World.cell?_of_block (heap_setCell_other _ _ _ _ (by show g2 ≠ gC; exact HS _ HG2.out))).trans ((HR.out.2.1.cell (p := ⟨g2, o2 + 14, none⟩) HG2.out).trans HM.out.2.2.2.2.2.2.2.2.2.2.2.2.1)
        clear HS
        go_wp2_with fail
        clear cc cfz m4a m4b m4c
        obtain ⟨V3, hV3⟩ : ∃ V, V = (z3.setCell ⟨gC, 3, none⟩ (.int .i64 x3)) := ⟨_, rfl⟩
        rw [← hV3]
        have HRn : Hid (RL8 w w2 V3 gC #[.string iss, .int .i64 x1, .int .i64 x2, .int .i64 x3, .int .i64 0, .slice none 0 0, .string sgt]) := by rw [hV3]; exact HR.out.set 3 _ rfl
        clear HR hV3
        have HR := HRn
        clear HRn
        have EI := specIntIn_any 5 k4 (.agg #[.int .i64 t4, .string s4, .slice a4 l4 c4]) V3 (ItAt.below HR.out.2.1 ⟨.slice a4 l4 c4, by rw [(HTS.out.2.2.2.1).1, (HTS.out.2.2.2.1).2], (HKS.out.2.2.2.1).at⟩) (Nat.le_trans (HSZ.out k4 (by simp)) (by decide))
        rw [show (((inI 5 k4).getD 0 : Nat) : Int) = x4 from HXX.out.1.2.2.2] at EI
        generalize (inI 5 k4).isSome = okI at EI
        refine EI.mono ?_
        rintro e z4 ⟨rfl, hb⟩
        have HRn : Hid (RL8 w w2 z4 gC #[.string iss, .int .i64 x1, .int .i64 x2, .int .i64 x3, .int .i64 0, .slice none 0 0, .string sgt]) := HR.out.below hb
        clear HR EI hb
        have HR := HRn
        clear HRn
        have cc : z4.cell? ⟨gC, 4, none⟩ = some (.int .i64 0) := HR.out.2.2.2.1.cell 4
        have cfz := HR.out.2.2.2.1.free 4
        go_wp2_with fail
        clear cc cfz
        obtain ⟨V4, hV4⟩ : ∃ V, V = (z4.setCell ⟨gC, 4, none⟩ (.int .i64 x4)) := ⟨_, rfl⟩
        rw [← hV4]
        have HRn : Hid (RL8 w w2 V4 gC #[.string iss, .int .i64 x1, .int .i64 x2, .int .i64 x3, .int .i64 x4, .slice none 0 0, .string sgt]) := by rw [hV4]; exact HR.out.set 4 _ rfl
        clear HR hV4
        have HR := HRn
        clear HRn
        have HL5 : Hid (l5 ≤ 4000) := by show l5 ≤ 4000; rw [← HXX.out.2.2]; exact (szI_kid (t := It.tag k5) (s := It.text k5) (ks := It.kids k5) (HSZ.out k5 (by simp))).2.1
        go_loopw [11] (fun iv wr => ∃ k : Nat, k ≤ l5 ∧ iv = .int .i64 k ∧ Hid (∃ (ps : List (Int × Int)) (pa : Option Addr) (pc : Nat), RL8 w w2 wr gC #[.string iss, .int .i64 x1, .int .i64 x2, .int .i64 x3, .int .i64 x4, .slice pa k pc, .string sgt] ∧ OwnR wr (gC + 1) (.slice pa k pc) ps ∧ gC + 1 ≤ wr.heap.size ∧ ps.length = k ∧ pairsI (It.kids k5) = (pairsI ((It.kids k5).drop k)).map (ps ++ ·))) (fun iv _ => l5 - (intOf iv).toNat)
        case atStart =>
          refine ⟨0, Nat.zero_le _, rfl, [], none, 0, HR.out, World.ownsRow_nil _ _ _ _, by have := HR.out.2.2.2.1.lt; omega, rfl, ?_⟩
          show pairsI (It.kids k5) = (pairsI (It.kids k5)).map (([] : List (Int × Int)) ++ ·)
          cases pairsI (It.kids k5) <;> simp
        case round =>
          clear HR
          obtain ⟨k, hk, rfl, HK0⟩ := hrel
          obtain ⟨ps, pa, pc, hK1⟩ := HK0.out
          have HK : Hid (RL8 w w2 wr gC #[.string iss, .int .i64 x1, .int .i64 x2, .int .i64 x3, .int .i64 x4, .slice pa k pc, .string sgt] ∧ OwnR wr (gC + 1) (.slice pa k pc) ps ∧ gC + 1 ≤ wr.heap.size ∧ ps.length = k ∧ pairsI (It.kids k5) = (pairsI ((It.kids k5).drop k)).map (ps ++ ·)) := hK1
          clear HK0 hK1
          have m5 : wr.cell? ⟨g2, o2 + 17, none⟩ = some (.slice a5 l5 c5) := (HK.out.1.2.1.cell (p := ⟨g2, o2 + 17, none⟩) HG2.out).trans HM.out.2.2.2.2.2.2.2.2.2.2.2.2.2
          by_cases hlt : k < l5
          rotate_left
          · skip
            as_aux_lemma =>
              have hlti : ¬ (k : Int) < (l5 : Int) := by omega
              have hpl : pairsI (It.kids k5) = some ps := by
                rw [HK.out.2.2.2.2, List.drop_eq_nil_of_le (by have := HXX.out.2.2; omega)]
                simp [pairsI]
              obtain ⟨c, hc⟩ : ∃ c : Cl, c = ⟨iss, x1, x2, x3, x4, ps, sgt⟩ := ⟨_, rfl⟩
              have hcc : c = ⟨baL (It.text k0), numI k1, numI k2, numI k3, numI k4, ps, baL (It.text sg)⟩ := by rw [hc, HXX.out.1.1, HXX.out.1.2.1, HXX.out.1.2.2.1, HXX.out.1.2.2.2, HXX.out.2.1, HB1.out.2.2.1]
              have HSP : Hid (specL (m := 2) x = some c ∧ wtL c ≤ 1048576 ∧ WdL c) := by
                refine ⟨?_, wtL_spec (m := 2) HY.out.1 HYB.out.1 hpl HY.out.2.2.1 c hcc⟩
                rw [specL_some (m := 2) HY.out.1 HYB.out.1 HY.out.2.2.2.1 HYB.out.2, hpl, hcc]
                rfl
              have HCT : Hid (∀ W, OwnR W (gC + 1) (.slice pa k pc) ps → OwnL W (gC + 1) (.agg #[.string iss, .int .i64 x1, .int .i64 x2, .int .i64 x3, .int .i64 x4, .slice pa k pc, .string sgt]) c) := fun W h => by rw [hc]; exact ⟨_, rfl, h⟩
              clear hpl hcc hc
              have h0c : wr.cell? ⟨gC, 0, none⟩ = some (.string iss) := HK.out.1.2.2.2.1.cell 0
              have h1c : wr.cell? ⟨gC, 1, none⟩ = some (.int .i64 x1) := HK.out.1.2.2.2.1.cell 1
              have h2c : wr.cell? ⟨gC, 2, none⟩ = some (.int .i64 x2) := HK.out.1.2.2.2.1.cell 2
              have h3c : wr.cell? ⟨gC, 3, none⟩ = some (.int .i64 x3) := HK.out.1.2.2.2.1.cell 3
              have h4c : wr.cell? ⟨gC, 4, none⟩ = some (.int .i64 x4) := HK.out.1.2.2.2.1.cell 4
              have h5c : wr.cell? ⟨gC, 5, none⟩ = some (.slice pa k pc) := HK.out.1.2.2.2.1.cell 5
              have h6c : wr.cell? ⟨gC, 6, none⟩ = some (.string sgt) := HK.out.1.2.2.2.1.cell 6
              go_wp2_with fail
              clear m5 h0c h1c h2c h3c h4c h5c h6c
              have E9 := specCrlText_any c (.agg #[.string iss, .int .i64 x1, .int .i64 x2, .int .i64 x3, .int .i64 x4, .slice pa k pc, .string sgt]) wr HSP.out.2.1 HSP.out.2.2 (HCT.out _ HK.out.2.1).at
              obtain ⟨bk, hbk⟩ : ∃ q : ByteArray, (⟨((ltxt c).getD []).toArray⟩ : ByteArray) = q := ⟨_, rfl⟩
              obtain ⟨rt, hrt⟩ : ∃ q, (ltxt c).isSome = q := ⟨_, rfl⟩
              rw [hbk, hrt] at E9
              have HBK : Hid ((⟨((ltxt c).getD []).toArray⟩ : ByteArray) = bk ∧ (ltxt c).isSome = rt) := ⟨hbk, hrt⟩
              clear hbk hrt
              refine E9.mono ?_
              rintro e y9 ⟨rfl, hb⟩
              have HR : Hid (RL8 w w2 y9 gC #[.string iss, .int .i64 x1, .int .i64 x2, .int .i64 x3, .int .i64 x4, .slice pa k pc, .string sgt] ∧ OwnR y9 (gC + 1) (.slice pa k pc) ps) := ⟨HK.out.1.below hb, HK.out.2.1.stays hb⟩
              clear HK E9 hb
              have HRS : Hid (oR = if crlOk c = true ∧ writeI 5 (crlI c) = some T.data.toList then some c else none) := by
                show oR = _
                rw [← HP.out, HY.out.2.1]
                show readSL (m := 2) T.data.toList x = _
                unfold readSL
                rw [HSP.out.1, Option.bind_some]
              have HFR : Hid (Below w.heap.size w y9 ∧ Blk y9 w.heap.size 24 #[.string ⟨#[]⟩, .int .i64 0, .int .i64 0, .int .i64 0, .int .i64 0, .slice none 0 0, .string ⟨#[]⟩]) := ⟨HR.out.1.1, HR.out.1.2.2.1⟩
              have HTL : Hid (∀ B : ByteArray, B.toList = B.data.toList) := fun B => by
                obtain ⟨d⟩ := B
                obtain ⟨l⟩ := d
                show (⟨l.toArray⟩ : ByteArray).toList = _
                simp
              have HGC : Hid (w2.heap.size ≤ gC ∧ w.heap.size < w2.heap.size) := HR.out.1.2.2.2.2
              cases rt with
              | false =>
                have HN : Hid (oR = none) := by
                  show oR = none
                  rw [← HP.out]
                  rw [HP.out, HRS.out, if_neg (fun q => by have h := HBK.out.2; unfold ltxt at h; rw [if_pos q.1, q.2] at h; cases h)]
                clear HSP HM HKS HTS HSZ HYB HB1 HG2 HP HRS HTL HBK HCT HR HY HXX HL5 HGC hlt hlti hk
                go_upto_region 22 with fail
                refine wp_region_lit ?_
                refine step_buildL rfl rfl ?_
                refine step_store7 w.heap.size ⟨#[]⟩ 0 0 0 0 none 0 0 ⟨#[]⟩ HFR.out.2 rfl rfl rfl rfl rfl ?_
                intro V8 ho8 hB8
                refine step_assign rfl rfl ?_
                unfold wpList
                rename_i hret
                refine hret _ _ ?_
                refine wp_ret ?_
                have q0 : V8.cell? ⟨w.heap.size, 0, none⟩ = some (.string ⟨#[]⟩) := hB8.cell 0
                have q1 : V8.cell? ⟨w.heap.size, 1, none⟩ = some (.int .i64 0) := hB8.cell 1
                have q2 : V8.cell? ⟨w.heap.size, 2, none⟩ = some (.int .i64 0) := hB8.cell 2
                have q3 : V8.cell? ⟨w.heap.size, 3, none⟩ = some (.int .i64 0) := hB8.cell 3
                have q4 : V8.cell? ⟨w.heap.size, 4, none⟩ = some (.int .i64 0) := hB8.cell 4
                have q5 : V8.cell? ⟨w.heap.size, 5, none⟩ = some (.slice none 0 0) := hB8.cell 5
                have q6 : V8.cell? ⟨w.heap.size, 6, none⟩ = some (.string ⟨#[]⟩) := hB8.cell 6
                refine bodyPost_ret (v := .tuple #[.agg #[.string ⟨#[]⟩, .int .i64 0, .int .i64 0, .int .i64 0, .int .i64 0, .slice none 0 0, .string ⟨#[]⟩], .bool false]) (by simp [results, Try.results6, go_sem, q0, q1, q2, q3, q4, q5, q6]; try rfl) rfl ⟨?_, .inl ⟨HN.out, rfl⟩⟩
                exact HFR.out.1.trans (ho8.below (fun b hb => by rw [List.mem_singleton.1 hb]; exact Nat.le_refl _) HFR.out.1.size)
              | true =>
                obtain ⟨tx, htx⟩ := Option.isSome_iff_exists.1 HBK.out.2
                have HTX2 : Hid (bk.data.toList = tx ∧ crlOk c = true ∧ writeI 5 (crlI c) = some tx) := by
                  have h := htx
                  unfold ltxt at h
                  split at h
                  · next hco => exact ⟨by rw [← HBK.out.1, htx]; rfl, hco, h⟩
                  · cases h
                clear htx
                by_cases hbt : bk.toList = T.toList
                · have hbq : (bk.toList == T.toList) = true := by rw [hbt]; simp
                  have HYES : Hid (oR = some c) := by
                    show oR = some c
                    have h1 := HTL.out bk
                    have h2 := HTL.out T
                    rw [HRS.out, if_pos ⟨HTX2.out.2.1, by rw [HTX2.out.2.2, ← HTX2.out.1, ← h1, hbt, h2]⟩]
                  have HOWN : Hid (∀ V, Out [w.heap.size] y9 V → OwnL V w.heap.size (.agg #[.string iss, .int .i64 x1, .int .i64 x2, .int .i64 x3, .int .i64 x4, .slice pa k pc, .string sgt]) c) := fun V ho => by
                    have hoc := HCT.out _ HR.out.2
                    exact (hoc.out ho (fun b hb => by have := fpL_lt hoc b hb; have := HGC.out; simp; omega)).base (by have := HGC.out; omega)
                  have HBC : Hid (Blk y9 gC 24 #[.string iss, .int .i64 x1, .int .i64 x2, .int .i64 x3, .int .i64 x4, .slice pa k pc, .string sgt]) := HR.out.1.2.2.2.1
                  clear HSP HM HKS HTS HSZ HYB HB1 HG2 HP HRS HTL HBK HCT HR HY HXX HL5 HGC hlt hlti hk hbt
                  go_upto_region 23 with fail
                  refine wp_region_lit ?_
                  refine step_load7 gC iss x1 x2 x3 x4 pa k pc sgt HBC.out rfl rfl rfl ?_
                  refine step_store7 w.heap.size iss x1 x2 x3 x4 pa k pc sgt HFR.out.2 rfl rfl rfl rfl rfl ?_
                  intro V8 ho8 hB8
                  refine step_assign rfl rfl ?_
                  unfold wpList
                  rename_i hret
                  refine hret _ _ ?_
                  refine wp_ret ?_
                  have q0 : V8.cell? ⟨w.heap.size, 0, none⟩ = some (.string iss) := hB8.cell 0
                  have q1 : V8.cell? ⟨w.heap.size, 1, none⟩ = some (.int .i64 x1) := hB8.cell 1
                  have q2 : V8.cell? ⟨w.heap.size, 2, none⟩ = some (.int .i64 x2) := hB8.cell 2
                  have q3 : V8.cell? ⟨w.heap.size, 3, none⟩ = some (.int .i64 x3) := hB8.cell 3
                  have q4 : V8.cell? ⟨w.heap.size, 4, none⟩ = some (.int .i64 x4) := hB8.cell 4
                  have q5 : V8.cell? ⟨w.heap.size, 5, none⟩ = some (.slice pa k pc) := hB8.cell 5
                  have q6 : V8.cell? ⟨w.heap.size, 6, none⟩ = some (.string sgt) := hB8.cell 6
                  refine bodyPost_ret (v := .tuple #[.agg #[.string iss, .int .i64 x1, .int .i64 x2, .int .i64 x3, .int .i64 x4, .slice pa k pc, .string sgt], .bool true]) (by simp [results, Try.results6, go_sem, q0, q1, q2, q3, q4, q5, q6]; try rfl) rfl ?_
                  exact ⟨HFR.out.1.trans (ho8.below (fun b hb => by rw [List.mem_singleton.1 hb]; exact Nat.le_refl _) HFR.out.1.size), .inr ⟨c, _, HYES.out, rfl, HOWN.out V8 ho8, HTX2.out.2.1⟩⟩
                · have hbq : (bk.toList == T.toList) = false := beq_eq_false_iff_ne.2 hbt
                  have HN : Hid (oR = none) := by
                    show oR = none
                    rw [← HP.out]
                    rw [HP.out, HRS.out, if_neg (fun q => hbt (by have h1 := HTL.out bk; have h2 := HTL.out T; have h3 := HTX2.out.2.2; rw [q.2] at h3; injection h3 with h3; rw [h1, h2, HTX2.out.1, h3]))]
                  clear HSP HM HKS HTS HSZ HYB HB1 HG2 HP HRS HTL HBK HCT HR HY HXX HL5 HGC hlt hlti hk HTX2 hbt
                  go_upto_region 22 with fail
                  refine wp_region_lit ?_
                  refine step_buildL rfl rfl ?_
                  refine step_store7 w.heap.size ⟨#[]⟩ 0 0 0 0 none 0 0 ⟨#[]⟩ HFR.out.2 rfl rfl rfl rfl rfl ?_
                  intro V8 ho8 hB8
                  refine step_assign rfl rfl ?_
                  unfold wpList
                  rename_i hret
                  refine hret _ _ ?_
                  refine wp_ret ?_
                  have q0 : V8.cell? ⟨w.heap.size, 0, none⟩ = some (.string ⟨#[]⟩) := hB8.cell 0
                  have q1 : V8.cell? ⟨w.heap.size, 1, none⟩ = some (.int .i64 0) := hB8.cell 1
                  have q2 : V8.cell? ⟨w.heap.size, 2, none⟩ = some (.int .i64 0) := hB8.cell 2
                  have q3 : V8.cell? ⟨w.heap.size, 3, none⟩ = some (.int .i64 0) := hB8.cell 3
                  have q4 : V8.cell? ⟨w.heap.size, 4, none⟩ = some (.int .i64 0) := hB8.cell 4
                  have q5 : V8.cell? ⟨w.heap.size, 5, none⟩ = some (.slice none 0 0) := hB8.cell 5
                  have q6 : V8.cell? ⟨w.heap.size, 6, none⟩ = some (.string ⟨#[]⟩) := hB8.cell 6
                  refine bodyPost_ret (v := .tuple #[.agg #[.string ⟨#[]⟩, .int .i64 0, .int .i64 0, .int .i64 0, .int .i64 0, .slice none 0 0, .string ⟨#[]⟩], .bool false]) (by simp [results, Try.results6, go_sem, q0, q1, q2, q3, q4, q5, q6]; try rfl) rfl ⟨?_, .inl ⟨HN.out, rfl⟩⟩
                  exact HFR.out.1.trans (ho8.below (fun b hb => by rw [List.mem_singleton.1 hb]; exact Nat.le_refl _) HFR.out.1.size)
          have HLT : Hid (k < l5) := hlt
          have hlti : (k : Int) < (l5 : Int) := by omega
          have hk0 : (0 : Int) ≤ (k : Int) := by omega
          have hj : k < (It.kids k5).length := by have := HXX.out.2.2; omega
          obtain ⟨ao, cap, hv, _, hcell⟩ := HKS.out.2.2.2.2
          injection hv with hv1 hvx hv3
          clear hvx
          obtain ⟨g5, o5, ha, hg5, hcs⟩ := hcell (by omega)
          obtain ⟨kk, d0, d1, d2, hkk⟩ := hcs k hj
          have c0 : wr.cell? ⟨g5, o5 + k * 3, none⟩ = some (.int .i64 (It.tag (It.kids k5)[k])) := (HK.out.1.2.1.cell (p := ⟨g5, o5 + k * 3, none⟩) hg5).trans d0
          have c1 : wr.cell? ⟨g5, o5 + k * 3 + 1, none⟩ = some (.string ⟨(It.text (It.kids k5)[k]).toArray⟩) := (HK.out.1.2.1.cell (p := ⟨g5, o5 + k * 3 + 1, none⟩) hg5).trans d1
          have c2 : wr.cell? ⟨g5, o5 + k * 3 + 2, none⟩ = some kk := (HK.out.1.2.1.cell (p := ⟨g5, o5 + k * 3 + 2, none⟩) hg5).trans d2
          obtain ⟨ak, ck, hks⟩ := hkk.shape
          obtain ⟨yk, hyk⟩ : ∃ y, (It.kids k5)[k] = y := ⟨_, rfl⟩
          rw [hyk] at c0 c1 hkk hks
          have HYK : Hid (∃ hj : k < (It.kids k5).length, (It.kids k5)[k] = yk) := ⟨hj, hyk⟩
          have hzk : szI 4 yk ≤ 4000 := by rw [← hyk]; exact (szI_kid (t := It.tag k5) (s := It.text k5) (ks := It.kids k5) (HSZ.out k5 (by simp))).2.2 _ (List.getElem_mem _)
          obtain ⟨lk, hlk⟩ : ∃ q, (It.kids yk).length = q := ⟨_, rfl⟩
          change kk = .slice ak (It.kids yk).length ck at hks
          rw [hlk] at hks
          subst hks
          have E := intsIn_any 2 (It.tag yk) ⟨(It.text yk).toArray⟩ (It.kids yk) ak lk ck wr (hkk.below HK.out.1.2.1) (Nat.le_trans (szI_kid (t := It.tag yk) (s := It.text yk) (ks := It.kids yk) hzk).2.1 (by decide)) (fun y hy => Nat.le_trans ((szI_kid (t := It.tag yk) (s := It.text yk) (ks := It.kids yk) hzk).2.2 y hy) (by decide))
          generalize It.tag yk = tk at E c0
          generalize (⟨(It.text yk).toArray⟩ : ByteArray) = sk at E c1
          have ha' : a5 = some ⟨g5, o5, none⟩ := hv1.trans ha
          subst hv1 hv3
          obtain ⟨nl, hnl⟩ : ∃ q, (It.kids yk).map numI = q := ⟨_, rfl⟩
          rw [hnl] at E
          have HLK : Hid ((It.kids yk).length = lk ∧ (It.kids yk).map numI = nl) := ⟨hlk, hnl⟩
          rw [ha'] at m5
          clear hcell hcs d0 d1 d2 hkk hg5 hj hyk hlk hnl hzk ha
          go_wp2_with fail
          clear m5 c0 c1 c2
          refine E.mono ?_
          rintro e w3 ⟨un, rfl, hown, hb3⟩
          clear E
          have hln : nl.length = lk := by rw [← HLK.out.2, List.length_map]; exact HLK.out.1
          have HK3 : Hid (RL8 w w2 w3 gC #[.string iss, .int .i64 x1, .int .i64 x2, .int .i64 x3, .int .i64 x4, .slice pa k pc, .string sgt] ∧ OwnR w3 (gC + 1) (.slice pa k pc) ps ∧ gC + 1 ≤ wr.heap.size ∧ wr.heap.size ≤ w3.heap.size ∧ ps.length = k ∧ pairsI (It.kids k5) = (pairsI ((It.kids k5).drop k)).map (ps ++ ·) ∧ (∀ b, (Value.slice pa k pc).ownBlock = some b → gC + 1 ≤ b ∧ b < wr.heap.size)) := ⟨HK.out.1.below hb3, HK.out.2.1.stays hb3, HK.out.2.2.1, hb3.size, HK.out.2.2.2.1, HK.out.2.2.2.2, fun b hb => World.ownsRow.lt HK.out.2.1 b hb⟩
          clear HK hb3
          by_cases h2 : lk = 2
          rotate_left
          · obtain ⟨na, nc, hun⟩ : ∃ ao cap, un = .slice ao nl.length cap := by obtain ⟨ao, cap, h, _⟩ := hown.at; exact ⟨ao, cap, h⟩
            rw [hln] at hun
            subst hun
            have h2i : ¬ (lk : Int) = 2 := by omega
            have HFR : Hid (Below w.heap.size w w3 ∧ Blk w3 w.heap.size 24 #[.string ⟨#[]⟩, .int .i64 0, .int .i64 0, .int .i64 0, .int .i64 0, .slice none 0 0, .string ⟨#[]⟩]) := ⟨HK3.out.1.1, HK3.out.1.2.2.1⟩
            clear hown hln
            have r0 : w3.cell? ⟨w.heap.size, 0, none⟩ = some (.string ⟨#[]⟩) := HFR.out.2.cell 0
            have r1 : w3.cell? ⟨w.heap.size, 1, none⟩ = some (.int .i64 0) := HFR.out.2.cell 1
            have r2 : w3.cell? ⟨w.heap.size, 2, none⟩ = some (.int .i64 0) := HFR.out.2.cell 2
            have r3 : w3.cell? ⟨w.heap.size, 3, none⟩ = some (.int .i64 0) := HFR.out.2.cell 3
            have r4 : w3.cell? ⟨w.heap.size, 4, none⟩ = some (.int .i64 0) := HFR.out.2.cell 4
            have r5 : w3.cell? ⟨w.heap.size, 5, none⟩ = some (.slice none 0 0) := HFR.out.2.cell 5
            have r6 : w3.cell? ⟨w.heap.size, 6, none⟩ = some (.string ⟨#[]⟩) := HFR.out.2.cell 6
            have rf := fun j => HFR.out.2.free j
            have HN : Hid (oR = none) := by
              show oR = none
              rw [← HP.out]
              obtain ⟨hj', hyk'⟩ := HYK.out
              rw [HY.out.2.1]; show readSL (m := 2) T.data.toList x = none; unfold readSL; rw [specL_some (m := 2) HY.out.1 HYB.out.1 HY.out.2.2.2.1 HYB.out.2, HK3.out.2.2.2.2.2.1, pairs_none (k := 2) (ks := It.kids k5) hj' (by rw [hyk', HLK.out.1]; exact h2)]; rfl
            clear h2
            go_wp2_with fail
            refine bodyPost_ret (v := .tuple #[.agg #[.string ⟨#[]⟩, .int .i64 0, .int .i64 0, .int .i64 0, .int .i64 0, .slice none 0 0, .string ⟨#[]⟩], .bool false]) (by simp [results, Try.results6, go_sem, r0, r1, r2, r3, r4, r5, r6]; try rfl) rfl ⟨?_, .inl ⟨HN.out, rfl⟩⟩
            iterate 7 refine Below.setCell ?_ (by show w.heap.size ≤ w.heap.size; exact Nat.le_refl _) _
            exact HFR.out.1
          subst h2
          obtain ⟨ya, yc, hkk⟩ := list_two (l := It.kids yk) HLK.out.1
          obtain ⟨X, hX⟩ : ∃ q, numI ya = q := ⟨_, rfl⟩
          obtain ⟨Y, hY⟩ : ∃ q, numI yc = q := ⟨_, rfl⟩
          have hnl : nl = [X, Y] := by rw [← HLK.out.2, hkk, ← hX, ← hY]; rfl
          rw [hnl] at hown
          have HPS : Hid (pairsI (It.kids k5) = (pairsI ((It.kids k5).drop (k + 1))).map ((ps ++ [(X, Y)]) ++ ·)) := by
            obtain ⟨hj', hyk'⟩ := HYK.out
            show pairsI (It.kids k5) = _
            rw [HK3.out.2.2.2.2.2.1, pairs_step (k := 2) (ks := It.kids k5) hj' (by rw [hyk']; exact hkk), hX, hY]
            cases pairsI ((It.kids k5).drop (k + 1)) <;> simp
          obtain ⟨gn, cn, hun, hgn, hgw⟩ : ∃ gn cn, un = .slice (some ⟨gn, 0, none⟩) 2 cn ∧ wr.heap.size ≤ gn ∧ gn < w3.heap.size := by
            rcases hown.2 with ⟨_, h0⟩ | ⟨gn, cn, cur, hun, hbg, _⟩
            · cases h0
            · refine ⟨gn, cn, hun, hbg, (World.ownsRow.lt hown gn (by rw [hun]; rfl)).2⟩
          subst hun
          have q0 : w3.cell? ⟨gn, 0, none⟩ = some (.int .i64 X) := World.ownsRow.cellAt hown 0 (by decide)
          have q1 : w3.cell? ⟨gn, 1, none⟩ = some (.int .i64 Y) := World.ownsRow.cellAt hown 1 (by decide)
          have HN3 : Hid (w3.cell? ⟨gn, 0, none⟩ = some (.int .i64 X) ∧ w3.cell? ⟨gn, 1, none⟩ = some (.int .i64 Y) ∧ wr.heap.size ≤ gn ∧ gn < w3.heap.size) := ⟨q0, q1, hgn, hgw⟩
          have e2i : ((2 : Nat) : Int) = 2 := rfl
          clear hown hnl hX hY hkk hgn hgw q0 q1 HYK HLK hln
          go_upto_region 14 with fail
          as_aux_lemma =>
            have HC : Hid ((∀ b, (Value.slice pa k pc).ownBlock = some b → gC + 1 ≤ b ∧ b < wr.heap.size) ∧ wr.heap.size ≤ gn ∧ ps.length = k ∧ gC + 1 ≤ wr.heap.size ∧ k < l5) := ⟨HK3.out.2.2.2.2.2.2, HN3.out.2.2.1, HK3.out.2.2.2.2.1, HK3.out.2.2.1, HLT.out⟩
            have HA0 : Hid (RL8 w w2 w3 gC #[.string iss, .int .i64 x1, .int .i64 x2, .int .i64 x3, .int .i64 x4, .slice pa k pc, .string sgt] ∧ OwnR w3 (gC + 1) (.slice pa k pc) ps ∧ (w3.cell? ⟨gn, 0, none⟩ = some (.int .i64 X) ∧ w3.cell? ⟨gn, 1, none⟩ = some (.int .i64 Y)) ∧ gn < w3.heap.size ∧ gC + 1 ≤ w3.heap.size) := ⟨HK3.out.1, HK3.out.2.1, ⟨HN3.out.1, HN3.out.2.1⟩, HN3.out.2.2.2, Nat.le_trans HK3.out.2.2.1 HK3.out.2.2.2.1⟩
            have HD : Below w3.heap.size w3 w3.drew := (Below.refl _ _).drew
            have HA : Hid (RL8 w w2 w3.drew gC #[.string iss, .int .i64 x1, .int .i64 x2, .int .i64 x3, .int .i64 x4, .slice pa k pc, .string sgt] ∧ OwnR w3.drew (gC + 1) (.slice pa k pc) ps ∧ (w3.drew.cell? ⟨gn, 0, none⟩ = some (.int .i64 X) ∧ w3.drew.cell? ⟨gn, 1, none⟩ = some (.int .i64 Y)) ∧ gn < w3.drew.heap.size ∧ gC + 1 ≤ w3.drew.heap.size) := ⟨HA0.out.1.below HD, HA0.out.2.1.stays HD, ⟨(HD.cell (p := ⟨gn, 0, none⟩) HA0.out.2.2.2.1).trans HA0.out.2.2.1.1, (HD.cell (p := ⟨gn, 1, none⟩) HA0.out.2.2.2.1).trans HA0.out.2.2.1.2⟩, Nat.lt_of_lt_of_le HA0.out.2.2.2.1 HD.size, Nat.le_trans HA0.out.2.2.2.2 HD.size⟩
            refine wp_region_held_drew (S := fun W => (∃ p, RL8 w w2 W gC #[.string iss, .int .i64 x1, .int .i64 x2, .int .i64 x3, .int .i64 x4, p, .string sgt]) ∧ (W.cell? ⟨gn, 0, none⟩ = some (.int .i64 X) ∧ W.cell? ⟨gn, 1, none⟩ = some (.int .i64 Y))) (by kernel_rfl) ⟨⟨_, HA.out.1⟩, HA.out.2.2.1⟩ (fun hHeld => ?_)
            clear HD HA0 HK3 HN3
            generalize w3.drew = wd at *
            refine wpAnyH_take (i := 0) (oi := ⟨some 104, _, _, _, _, _⟩) (v := ?_) rfl (by kernel_rfl) (by kernel_rfl) (by kernel_rfl) (fun _ _ _ h => h) (Or.inl ⟨by rfl, ?_⟩) hHeld ?_
            rotate_left
            · intro W hSw
              go_simp
              try with_reducible rfl
            try simp only [Act.put, List.setIfInBounds_toArray, List.set_cons_zero, List.set_cons_succ]
            refine wpAnyH_take (i := 2) (oi := ⟨some 106, _, _, _, _, _⟩) (v := ?_) rfl (by kernel_rfl) (by kernel_rfl) (by kernel_rfl) (fun _ _ _ h => h) (Or.inl ⟨by rfl, ?_⟩) hHeld ?_
            rotate_left
            · intro W hSw
              go_simp
              try with_reducible rfl
            try simp only [Act.put, List.setIfInBounds_toArray, List.set_cons_zero, List.set_cons_succ]
            refine wpAnyH_take (i := 3) (oi := ⟨some 107, _, _, _, _, _⟩) (v := ?_) rfl (by kernel_rfl) (by kernel_rfl) (by kernel_rfl) (fun _ _ _ h => h) (Or.inl ⟨by rfl, ?_⟩) hHeld ?_
            rotate_left
            · intro W hSw
              go_simp
              try with_reducible rfl
            try simp only [Act.put, List.setIfInBounds_toArray, List.set_cons_zero, List.set_cons_succ]
            refine wpAnyH_take (i := 4) (oi := ⟨some 108, _, _, _, _, _⟩) (v := ?_) rfl (by kernel_rfl) (by kernel_rfl) (by kernel_rfl) (fun _ _ _ h => h) (Or.inl ⟨by rfl, ?_⟩) hHeld ?_
            rotate_left
            · intro W hSw
              have n0 := hSw.2.1
              go_simp
              try with_reducible rfl
            try simp only [Act.put, List.setIfInBounds_toArray, List.set_cons_zero, List.set_cons_succ]
            refine wpAnyH_take (i := 5) (oi := ⟨some 109, _, _, _, _, _⟩) (v := ?_) rfl (by kernel_rfl) (by kernel_rfl) (by kernel_rfl) (fun _ _ _ h => h) (Or.inl ⟨by rfl, ?_⟩) hHeld ?_
            rotate_left
            · intro W hSw
              go_simp
              try with_reducible rfl
            try simp only [Act.put, List.setIfInBounds_toArray, List.set_cons_zero, List.set_cons_succ]
            refine wpAnyH_take (i := 6) (oi := ⟨some 110, _, _, _, _, _⟩) (v := ?_) rfl (by kernel_rfl) (by kernel_rfl) (by kernel_rfl) (fun _ _ _ h => h) (Or.inl ⟨by rfl, ?_⟩) hHeld ?_
            rotate_left
            · intro W hSw
              go_simp
              try with_reducible rfl
            try simp only [Act.put, List.setIfInBounds_toArray, List.set_cons_zero, List.set_cons_succ]
            refine wpAnyH_take (i := 7) (oi := ⟨some 111, _, _, _, _, _⟩) (v := ?_) rfl (by kernel_rfl) (by kernel_rfl) (by kernel_rfl) (fun _ _ _ h => h) (Or.inl ⟨by rfl, ?_⟩) hHeld ?_
            rotate_left
            · intro W hSw
              have n1 := hSw.2.2
              go_simp
              try with_reducible rfl
            try simp only [Act.put, List.setIfInBounds_toArray, List.set_cons_zero, List.set_cons_succ]
            refine wpAnyH_take (i := 8) (oi := ⟨some 112, _, _, _, _, _⟩) (v := ?_) rfl (by kernel_rfl) (by kernel_rfl) (by kernel_rfl) (fun _ _ _ h => h) (Or.inl ⟨by rfl, ?_⟩) hHeld ?_
            rotate_left
            · intro W hSw
              go_simp
              try with_reducible rfl
            try simp only [Act.put, List.setIfInBounds_toArray, List.set_cons_zero, List.set_cons_succ]
            refine wpAnyH_ready (rs := [1, 9]) (by kernel_rfl) (by simp) ?_
            refine AllReadyH.cons (o := ⟨some 105, _, _, _, _, _⟩) rfl (fun K hK => ?_) ?_
            rotate_left
            · refine AllReadyH.cons (o := ⟨some 113, _, _, _, _, _⟩) rfl (fun K hK => ?_) AllReadyH.nil
              obtain ⟨y2, hy2⟩ : ∃ V, V = wd.alloc (Obj.cells #[.int .i64 X, .int .i64 Y] 57) := ⟨_, rfl⟩
              have hb : Below wd.heap.size wd y2 := by rw [hy2]; exact (Below.refl _ _).alloc (Nat.le_refl _) _
              have HNEW : Hid (OwnR y2 wd.heap.size (.slice (some ⟨wd.heap.size, 0, none⟩) 1 1) [(X, Y)]) := by rw [hy2]; exact rone_rev wd (X, Y)
              have HAn : Hid (RL8 w w2 y2 gC #[.string iss, .int .i64 x1, .int .i64 x2, .int .i64 x3, .int .i64 x4, .slice pa k pc, .string sgt] ∧ OwnR y2 (gC + 1) (.slice pa k pc) ps ∧ (y2.cell? ⟨gn, 0, none⟩ = some (.int .i64 X) ∧ y2.cell? ⟨gn, 1, none⟩ = some (.int .i64 Y)) ∧ gn < y2.heap.size ∧ gC + 1 ≤ y2.heap.size) := ⟨HA.out.1.below hb, HA.out.2.1.stays hb, ⟨(hb.cell (p := ⟨gn, 0, none⟩) HA.out.2.2.2.1).trans HA.out.2.2.1.1, (hb.cell (p := ⟨gn, 1, none⟩) HA.out.2.2.2.1).trans HA.out.2.2.1.2⟩, Nat.lt_of_lt_of_le HA.out.2.2.2.1 hb.size, Nat.le_trans HA.out.2.2.2.2 hb.size⟩
              go_simp
              rw [← hy2]
              refine hK.out _ _ ⟨⟨_, HAn.out.1⟩, HAn.out.2.2.1⟩ (fun hHeld => ?_)
              clear hK K hb hy2 HA
              have HA := HAn
              clear HAn
              try simp only [Act.put, List.setIfInBounds_toArray, List.set_cons_zero, List.set_cons_succ]
              obtain ⟨gb, hgb⟩ : ∃ q, wd.heap.size = q := ⟨_, rfl⟩
              rw [hgb] at HNEW ⊢
              clear hgb
              refine wpAnyH_ready (rs := [1]) (by kernel_rfl) (by simp) ?_
              refine AllReadyH.cons (o := ⟨some 105, _, _, _, _, _⟩) rfl (fun K hK => ?_) AllReadyH.nil
              have ld : y2.cell? ⟨gC, 5, none⟩ = some (.slice pa k pc) := HA.out.1.2.2.2.1.cell 5
              go_simp
              refine hK.out _ _ hHeld (fun hHeld => ?_)
              clear hK K ld
              try simp only [Act.put, List.setIfInBounds_toArray, List.set_cons_zero, List.set_cons_succ]
              refine wpAnyH_ready (rs := [10]) (by kernel_rfl) (by simp) ?_
              refine AllReadyH.cons (o := ⟨some 114, _, _, _, _, _⟩) rfl (fun K hK => ?_) AllReadyH.nil
              refine step_append_revs (o := ⟨some 114, _, _, _, _, _⟩) rfl (.tmp 105) (.tmp 113) rfl (gC + 1) (.slice pa k pc) ps (by rfl) HA.out.2.1 gb 1 (X, Y) gb HNEW.out (by rfl) (by have := HC.out; have := HL5.out; omega) HA.out.2.2.2.2 ?_
              intro v9 w9 ho9 hg9
              obtain ⟨a9, c9, hv9⟩ : ∃ ao cap, v9 = .slice ao (ps ++ [(X, Y)]).length cap := by obtain ⟨ao, cap, h, _⟩ := OwnR.at ho9; exact ⟨ao, cap, h⟩
              rw [List.length_append, HC.out.2.2.1] at hv9
              change v9 = .slice a9 (k + 1) c9 at hv9
              subst hv9
              have hR9 : RL8 w w2 w9 gC #[.string iss, .int .i64 x1, .int .i64 x2, .int .i64 x3, .int .i64 x4, .slice pa k pc, .string sgt] := by
                have h1 := HA.out.1
                have hrl := fun b hb => (HC.out.1 b hb).1
                have hgw := h1.2.2.2.2
                exact ⟨belowGrown h1.1 hg9 (fun b hb => by have := hrl b hb; omega), belowGrown h1.2.1 hg9 (fun b hb => by have := hrl b hb; omega), h1.2.2.1.grown hg9 (fun e => by have := hrl _ e.symm; omega), h1.2.2.2.1.grown hg9 (fun e => by have := hrl _ e.symm; omega), hgw⟩
              have hne : ¬ some gn = (Value.slice pa k pc).ownBlock := fun e => by have := (HC.out.1 gn e.symm).2; have := HC.out.2.1; omega
              have hc0 : w9.cell? ⟨gn, 0, none⟩ = some (.int .i64 X) := (World.cell?_of_block (hg9.block gn HA.out.2.2.2.1 hne)).trans HA.out.2.2.1.1
              have hc1 : w9.cell? ⟨gn, 1, none⟩ = some (.int .i64 Y) := (World.cell?_of_block (hg9.block gn HA.out.2.2.2.1 hne)).trans HA.out.2.2.1.2
              have H9 : Hid (RL8 w w2 w9 gC #[.string iss, .int .i64 x1, .int .i64 x2, .int .i64 x3, .int .i64 x4, .slice pa k pc, .string sgt] ∧ OwnR w9 (gC + 1) (.slice a9 (k + 1) c9) (ps ++ [(X, Y)]) ∧ (w9.cell? ⟨gn, 0, none⟩ = some (.int .i64 X) ∧ w9.cell? ⟨gn, 1, none⟩ = some (.int .i64 Y)) ∧ gC + 1 ≤ w9.heap.size) := ⟨hR9, ho9, ⟨hc0, hc1⟩, Nat.le_trans HA.out.2.2.2.2 hg9.size⟩
              refine hK.out _ _ ⟨⟨_, hR9⟩, hc0, hc1⟩ (fun hHeld => ?_)
              clear hK K hR9 hne hc0 hc1 ho9 hg9 HA HNEW
              try simp only [Act.put, List.setIfInBounds_toArray, List.set_cons_zero, List.set_cons_succ]
              refine wpAnyH_take (i := 11) (oi := ⟨some 115, _, _, _, _, _⟩) (v := ?_) rfl (by kernel_rfl) (by kernel_rfl) (by kernel_rfl) (fun _ _ _ h => h) (Or.inl ⟨by rfl, ?_⟩) hHeld ?_
              rotate_left
              · intro W hSw
                go_simp
                try with_reducible rfl
              try simp only [Act.put, List.setIfInBounds_toArray, List.set_cons_zero, List.set_cons_succ]
              refine wpAnyH_ready (rs := [12]) (by kernel_rfl) (by simp) ?_
              refine AllReadyH.cons (o := ⟨none, _, _, _, _, _⟩) rfl (fun K hK => ?_) AllReadyH.nil
              have r5 : w9.cell? ⟨gC, 5, none⟩ = some (.slice pa k pc) := H9.out.1.2.2.2.1.cell 5
              have rfz := H9.out.1.2.2.2.1.free 5
              have hne : gn ≠ gC := by have := HC.out; omega
              have FIN : Hid ((∃ (ps : List (Int × Int)) (pa : Option Addr) (pc : Nat), RL8 w w2 (w9.setCell ⟨gC, 5, none⟩ (.slice a9 (k + 1) c9)) gC #[.string iss, .int .i64 x1, .int .i64 x2, .int .i64 x3, .int .i64 x4, .slice pa (k + 1) pc, .string sgt] ∧ OwnR (w9.setCell ⟨gC, 5, none⟩ (.slice a9 (k + 1) c9)) (gC + 1) (.slice pa (k + 1) pc) ps ∧ gC + 1 ≤ (w9.setCell ⟨gC, 5, none⟩ (.slice a9 (k + 1) c9)).heap.size ∧ ps.length = k + 1 ∧ pairsI (It.kids k5) = (pairsI ((It.kids k5).drop (k + 1))).map (ps ++ ·))) := by
                have ho : Out [gC] w9 (w9.setCell ⟨gC, 5, none⟩ (.slice a9 (k + 1) c9)) := out_set _ _ _
                exact ⟨ps ++ [(X, Y)], a9, c9, H9.out.1.set 5 _ rfl, ho.row (fun b hb => by have := (World.ownsRow.lt H9.out.2.1 b hb).1; simp; omega) H9.out.2.1, Nat.le_trans H9.out.2.2.2 ho.size, by rw [List.length_append, HC.out.2.2.1]; rfl, HPS.out⟩
              have hS : (∃ p, RL8 w w2 (w9.setCell ⟨gC, 5, none⟩ (.slice a9 (k + 1) c9)) gC #[.string iss, .int .i64 x1, .int .i64 x2, .int .i64 x3, .int .i64 x4, p, .string sgt]) ∧ ((w9.setCell ⟨gC, 5, none⟩ (.slice a9 (k + 1) c9)).cell? ⟨gn, 0, none⟩ = some (.int .i64 X) ∧ (w9.setCell ⟨gC, 5, none⟩ (.slice a9 (k + 1) c9)).cell? ⟨gn, 1, none⟩ = some (.int .i64 Y)) := ⟨⟨_, H9.out.1.set 5 _ rfl⟩, (World.cell?_of_block (heap_setCell_other _ _ _ _ (by show gn ≠ gC; exact hne))).trans H9.out.2.2.1.1, (World.cell?_of_block (heap_setCell_other _ _ _ _ (by show gn ≠ gC; exact hne))).trans H9.out.2.2.1.2⟩
              clear hne
              go_simp
              refine hK.out _ _ hS (fun hHeld => ?_)
              clear hK K hHeld r5 rfz H9 hS
              try simp only [Act.put, List.setIfInBounds_toArray, List.set_cons_zero, List.set_cons_succ]
              refine wpAnyH_done (by kernel_rfl) ?_ _
              have hkb : (k : Int) < 4000 := by have := HC.out.2.2.2.2; have := HL5.out; omega
              go_wp2_with fail
              exact ⟨⟨k + 1, by have := HC.out.2.2.2.2; omega, by go_num, FIN⟩, by have := HC.out.2.2.2.2; simp [intOf]; omega⟩
            have ld : wd.cell? ⟨gC, 5, none⟩ = some (.slice pa k pc) := HA.out.1.2.2.2.1.cell 5
            go_simp
            refine hK.out _ _ hHeld (fun hHeld => ?_)
            clear hK K ld
            try simp only [Act.put, List.setIfInBounds_toArray, List.set_cons_zero, List.set_cons_succ]
            refine wpAnyH_ready (rs := [9]) (by kernel_rfl) (by simp) ?_
            refine AllReadyH.cons (o := ⟨some 113, _, _, _, _, _⟩) rfl (fun K hK => ?_) AllReadyH.nil
            obtain ⟨y2, hy2⟩ : ∃ V, V = wd.alloc (Obj.cells #[.int .i64 X, .int .i64 Y] 57) := ⟨_, rfl⟩
            have hb : Below wd.heap.size wd y2 := by rw [hy2]; exact (Below.refl _ _).alloc (Nat.le_refl _) _
            have HNEW : Hid (OwnR y2 wd.heap.size (.slice (some ⟨wd.heap.size, 0, none⟩) 1 1) [(X, Y)]) := by rw [hy2]; exact rone_rev wd (X, Y)
            have HAn : Hid (RL8 w w2 y2 gC #[.string iss, .int .i64 x1, .int .i64 x2, .int .i64 x3, .int .i64 x4, .slice pa k pc, .string sgt] ∧ OwnR y2 (gC + 1) (.slice pa k pc) ps ∧ (y2.cell? ⟨gn, 0, none⟩ = some (.int .i64 X) ∧ y2.cell? ⟨gn, 1, none⟩ = some (.int .i64 Y)) ∧ gn < y2.heap.size ∧ gC + 1 ≤ y2.heap.size) := ⟨HA.out.1.below hb, HA.out.2.1.stays hb, ⟨(hb.cell (p := ⟨gn, 0, none⟩) HA.out.2.2.2.1).trans HA.out.2.2.1.1, (hb.cell (p := ⟨gn, 1, none⟩) HA.out.2.2.2.1).trans HA.out.2.2.1.2⟩, Nat.lt_of_lt_of_le HA.out.2.2.2.1 hb.size, Nat.le_trans HA.out.2.2.2.2 hb.size⟩
            go_simp
            rw [← hy2]
            refine hK.out _ _ ⟨⟨_, HAn.out.1⟩, HAn.out.2.2.1⟩ (fun hHeld => ?_)
            clear hK K hb hy2 HA
            have HA := HAn
            clear HAn
            try simp only [Act.put, List.setIfInBounds_toArray, List.set_cons_zero, List.set_cons_succ]
            obtain ⟨gb, hgb⟩ : ∃ q, wd.heap.size = q := ⟨_, rfl⟩
            rw [hgb] at HNEW ⊢
            clear hgb
            refine wpAnyH_ready (rs := [10]) (by kernel_rfl) (by simp) ?_
            refine AllReadyH.cons (o := ⟨some 114, _, _, _, _, _⟩) rfl (fun K hK => ?_) AllReadyH.nil
            refine step_append_revs (o := ⟨some 114, _, _, _, _, _⟩) rfl (.tmp 105) (.tmp 113) rfl (gC + 1) (.slice pa k pc) ps (by rfl) HA.out.2.1 gb 1 (X, Y) gb HNEW.out (by rfl) (by have := HC.out; have := HL5.out; omega) HA.out.2.2.2.2 ?_
            intro v9 w9 ho9 hg9
            obtain ⟨a9, c9, hv9⟩ : ∃ ao cap, v9 = .slice ao (ps ++ [(X, Y)]).length cap := by obtain ⟨ao, cap, h, _⟩ := OwnR.at ho9; exact ⟨ao, cap, h⟩
            rw [List.length_append, HC.out.2.2.1] at hv9
            change v9 = .slice a9 (k + 1) c9 at hv9
            subst hv9
            have hR9 : RL8 w w2 w9 gC #[.string iss, .int .i64 x1, .int .i64 x2, .int .i64 x3, .int .i64 x4, .slice pa k pc, .string sgt] := by
              have h1 := HA.out.1
              have hrl := fun b hb => (HC.out.1 b hb).1
              have hgw := h1.2.2.2.2
              exact ⟨belowGrown h1.1 hg9 (fun b hb => by have := hrl b hb; omega), belowGrown h1.2.1 hg9 (fun b hb => by have := hrl b hb; omega), h1.2.2.1.grown hg9 (fun e => by have := hrl _ e.symm; omega), h1.2.2.2.1.grown hg9 (fun e => by have := hrl _ e.symm; omega), hgw⟩
            have hne : ¬ some gn = (Value.slice pa k pc).ownBlock := fun e => by have := (HC.out.1 gn e.symm).2; have := HC.out.2.1; omega
            have hc0 : w9.cell? ⟨gn, 0, none⟩ = some (.int .i64 X) := (World.cell?_of_block (hg9.block gn HA.out.2.2.2.1 hne)).trans HA.out.2.2.1.1
            have hc1 : w9.cell? ⟨gn, 1, none⟩ = some (.int .i64 Y) := (World.cell?_of_block (hg9.block gn HA.out.2.2.2.1 hne)).trans HA.out.2.2.1.2
            have H9 : Hid (RL8 w w2 w9 gC #[.string iss, .int .i64 x1, .int .i64 x2, .int .i64 x3, .int .i64 x4, .slice pa k pc, .string sgt] ∧ OwnR w9 (gC + 1) (.slice a9 (k + 1) c9) (ps ++ [(X, Y)]) ∧ (w9.cell? ⟨gn, 0, none⟩ = some (.int .i64 X) ∧ w9.cell? ⟨gn, 1, none⟩ = some (.int .i64 Y)) ∧ gC + 1 ≤ w9.heap.size) := ⟨hR9, ho9, ⟨hc0, hc1⟩, Nat.le_trans HA.out.2.2.2.2 hg9.size⟩
            refine hK.out _ _ ⟨⟨_, hR9⟩, hc0, hc1⟩ (fun hHeld => ?_)
            clear hK K hR9 hne hc0 hc1 ho9 hg9 HA HNEW
            try simp only [Act.put, List.setIfInBounds_toArray, List.set_cons_zero, List.set_cons_succ]
            refine wpAnyH_take (i := 11) (oi := ⟨some 115, _, _, _, _, _⟩) (v := ?_) rfl (by kernel_rfl) (by kernel_rfl) (by kernel_rfl) (fun _ _ _ h => h) (Or.inl ⟨by rfl, ?_⟩) hHeld ?_
            rotate_left
            · intro W hSw
              go_simp
              try with_reducible rfl
            try simp only [Act.put, List.setIfInBounds_toArray, List.set_cons_zero, List.set_cons_succ]
            refine wpAnyH_ready (rs := [12]) (by kernel_rfl) (by simp) ?_
            refine AllReadyH.cons (o := ⟨none, _, _, _, _, _⟩) rfl (fun K hK => ?_) AllReadyH.nil
            have r5 : w9.cell? ⟨gC, 5, none⟩ = some (.slice pa k pc) := H9.out.1.2.2.2.1.cell 5
            have rfz := H9.out.1.2.2.2.1.free 5
            have hne : gn ≠ gC := by have := HC.out; omega
            have FIN : Hid ((∃ (ps : List (Int × Int)) (pa : Option Addr) (pc : Nat), RL8 w w2 (w9.setCell ⟨gC, 5, none⟩ (.slice a9 (k + 1) c9)) gC #[.string iss, .int .i64 x1, .int .i64 x2, .int .i64 x3, .int .i64 x4, .slice pa (k + 1) pc, .string sgt] ∧ OwnR (w9.setCell ⟨gC, 5, none⟩ (.slice a9 (k + 1) c9)) (gC + 1) (.slice pa (k + 1) pc) ps ∧ gC + 1 ≤ (w9.setCell ⟨gC, 5, none⟩ (.slice a9 (k + 1) c9)).heap.size ∧ ps.length = k + 1 ∧ pairsI (It.kids k5) = (pairsI ((It.kids k5).drop (k + 1))).map (ps ++ ·))) := by
              have ho : Out [gC] w9 (w9.setCell ⟨gC, 5, none⟩ (.slice a9 (k + 1) c9)) := out_set _ _ _
              exact ⟨ps ++ [(X, Y)], a9, c9, H9.out.1.set 5 _ rfl, ho.row (fun b hb => by have := (World.ownsRow.lt H9.out.2.1 b hb).1; simp; omega) H9.out.2.1, Nat.le_trans H9.out.2.2.2 ho.size, by rw [List.length_append, HC.out.2.2.1]; rfl, HPS.out⟩
            have hS : (∃ p, RL8 w w2 (w9.setCell ⟨gC, 5, none⟩ (.slice a9 (k + 1) c9)) gC #[.string iss, .int .i64 x1, .int .i64 x2, .int .i64 x3, .int .i64 x4, p, .string sgt]) ∧ ((w9.setCell ⟨gC, 5, none⟩ (.slice a9 (k + 1) c9)).cell? ⟨gn, 0, none⟩ = some (.int .i64 X) ∧ (w9.setCell ⟨gC, 5, none⟩ (.slice a9 (k + 1) c9)).cell? ⟨gn, 1, none⟩ = some (.int .i64 Y)) := ⟨⟨_, H9.out.1.set 5 _ rfl⟩, (World.cell?_of_block (heap_setCell_other _ _ _ _ (by show gn ≠ gC; exact hne))).trans H9.out.2.2.1.1, (World.cell?_of_block (heap_setCell_other _ _ _ _ (by show gn ≠ gC; exact hne))).trans H9.out.2.2.1.2⟩
            clear hne
            go_simp
            refine hK.out _ _ hS (fun hHeld => ?_)
            clear hK K hHeld r5 rfz H9 hS
            try simp only [Act.put, List.setIfInBounds_toArray, List.set_cons_zero, List.set_cons_succ]
            refine wpAnyH_done (by kernel_rfl) ?_ _
            have hkb : (k : Int) < 4000 := by have := HC.out.2.2.2.2; have := HL5.out; omega
            go_wp2_with fail
            exact ⟨⟨k + 1, by have := HC.out.2.2.2.2; omega, by go_num, FIN⟩, by have := HC.out.2.2.2.2; simp [intOf]; omega⟩
end Go.Proofs.Ytbfbaofjkefmmaa
