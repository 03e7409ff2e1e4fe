/-
  Texts of the proof, one behind the other: CrG, SwA.
-/
import Derived.ChangeArms
import Derived.ChangeSlices
import Derived.ChangeOld
import Derived.DataElems
import Derived.OpenShut
import Derived.Test.YtplblechcnbieaaSW8
import Derived.Test.YtplblechcnbieaaSW11
import Derived.Test.YtplblechcnbieaaSW14

/-
  A letter that came in, opened.
-/
namespace Go.Proofs.Ytplblechcnbieaa
open Go.RowKit Go.ChangeShapes
set_option linter.unusedVariables false

theorem cellsCert : Try.prog.cellsOf 40 = 13 := by kernel_rfl
theorem cI : Try.prog.cellsOf 3 = 1 := by kernel_rfl
theorem cS : Try.prog.cellsOf 9 = 1 := by kernel_rfl
theorem cB : Try.prog.cellsOf 4 = 1 := by kernel_rfl
theorem cL : Try.prog.cellsOf 37 = 1 := by kernel_rfl
theorem cT : Try.prog.cellsOf 38 = 1 := by kernel_rfl
theorem take_one {cs : List Value} {k : Nat} {v : Value} (h : (cs.drop k).take 1 = [v]) : cs[k]? = some v := by
  have := congrArg (·[0]?) h
  simpa [List.getElem?_take, List.getElem?_drop] using this
theorem ints_in {H : Type} {enc : TypeId × Value → H} {W : World} {fuel : Nat} {cs : List Value} {x : DataW H × List MemPlace} (h : DataW.trod enc Try.prog W 0 (fun _ => true) true fuel 37 cs = some x) :
    ∃ ao cap, ∃ l : List Int, cs = [.slice ao l.length cap] ∧ l.length ≤ maxLen ∧ Wd l ∧ ArgAt W.heap.size W ao l := by
  rcases open_ints Try.underlying37 Try.underlying3 (by kernel_rfl) h with ⟨hcs, _⟩ | ⟨x, l, c, zs, hcs, _, hl, hm, hz, _, hcell, hwz⟩
  · exact ⟨none, 0, [], hcs, Nat.zero_le _, fun x hx => by simp at hx, fun j hj => by simp at hj⟩
  · obtain ⟨h1, h2, h3⟩ := argAt_of hl (by simpa using hz) hcell hwz
    exact ⟨some x, c, zs.take l, by rw [h1]; exact hcs, by rw [h1]; exact Nat.le_trans hl hm, h2, h3⟩
theorem texts_in {H : Type} {enc : TypeId × Value → H} {W : World} {fuel : Nat} {cs : List Value} {x : DataW H × List MemPlace} (h : DataW.trod enc Try.prog W 0 (fun _ => true) true fuel 38 cs = some x) :
    ∃ ao cap, ∃ l : List ByteArray, cs = [.slice ao l.length cap] ∧ l.length ≤ maxLen ∧ WdT l ∧ ArgT W.heap.size W ao l := by
  rcases open_strings Try.underlying38 Try.underlying9 (by kernel_rfl) h with ⟨hcs, _⟩ | ⟨x, l, c, zs, hcs, _, hl, hm, hz, _, hcell, hwz⟩
  · exact ⟨none, 0, [], hcs, Nat.zero_le _, fun x hx => by simp at hx, fun j hj => by simp at hj⟩
  · obtain ⟨h1, h2, h3⟩ := argT_of hl (by simpa using hz) hcell hwz
    exact ⟨some x, c, zs.take l, by rw [h1]; exact hcs, by rw [h1]; exact Nat.le_trans hl hm, h2, h3⟩
set_option maxRecDepth 100000 in
/-- What reads as a letter is one. -/
theorem cert_of_trod {H : Type} {enc : TypeId × Value → H} {W : World} {fuel : Nat} {cs : List Value} {x : DataW H × List MemPlace} (h : DataW.trod enc Try.prog W 0 (fun _ => true) true fuel 40 cs = some x) :
    ∃ (c : Ct) (p e d : Value), Value.agg cs.toArray = ctV c p e d ∧ ArgC W.heap.size W (ctV c p e d) c ∧ WdC c := by
  obtain ⟨xs, m, rfl, hx, hl, hxl, hall⟩ := DataW.trod_struct Try.underlying40 h
  rw [cellsCert] at hl
  obtain ⟨x0, x1, x2, x3, x4, x5, x6, x7, x8, x9, x10, x11, x12, rfl⟩ : ∃ x0 x1 x2 x3 x4 x5 x6 x7 x8 x9 x10 x11 x12, xs = [x0, x1, x2, x3, x4, x5, x6, x7, x8, x9, x10, x11, x12] := by
    match xs, hxl with
    | [x0, x1, x2, x3, x4, x5, x6, x7, x8, x9, x10, x11, x12], _ => exact ⟨x0, x1, x2, x3, x4, x5, x6, x7, x8, x9, x10, x11, x12, rfl⟩
  have f0 := hall 0 _ rfl
  change DataW.trod _ _ _ _ _ _ _ 3 ((cs.drop 0).take (Try.prog.cellsOf 3)) = some x0 at f0
  rw [cI] at f0
  obtain ⟨v0, h0, _, w0⟩ := DataW.trod_int Try.underlying3 f0
  have g0 := take_one h0
  clear f0 h0
  have f1 := hall 1 _ rfl
  change DataW.trod _ _ _ _ _ _ _ 9 ((cs.drop 1).take (Try.prog.cellsOf 9)) = some x1 at f1
  rw [cS] at f1
  obtain ⟨v1, h1, _, w1⟩ := DataW.trod_string Try.underlying9 f1
  have g1 := take_one h1
  clear f1 h1
  have f2 := hall 2 _ rfl
  change DataW.trod _ _ _ _ _ _ _ 9 ((cs.drop 2).take (Try.prog.cellsOf 9)) = some x2 at f2
  rw [cS] at f2
  obtain ⟨v2, h2, _, w2⟩ := DataW.trod_string Try.underlying9 f2
  have g2 := take_one h2
  clear f2 h2
  have f3 := hall 3 _ rfl
  change DataW.trod _ _ _ _ _ _ _ 3 ((cs.drop 3).take (Try.prog.cellsOf 3)) = some x3 at f3
  rw [cI] at f3
  obtain ⟨v3, h3, _, w3⟩ := DataW.trod_int Try.underlying3 f3
  have g3 := take_one h3
  clear f3 h3
  have f4 := hall 4 _ rfl
  change DataW.trod _ _ _ _ _ _ _ 3 ((cs.drop 4).take (Try.prog.cellsOf 3)) = some x4 at f4
  rw [cI] at f4
  obtain ⟨v4, h4, _, w4⟩ := DataW.trod_int Try.underlying3 f4
  have g4 := take_one h4
  clear f4 h4
  have f5 := hall 5 _ rfl
  change DataW.trod _ _ _ _ _ _ _ 9 ((cs.drop 5).take (Try.prog.cellsOf 9)) = some x5 at f5
  rw [cS] at f5
  obtain ⟨v5, h5, _, w5⟩ := DataW.trod_string Try.underlying9 f5
  have g5 := take_one h5
  clear f5 h5
  have f6 := hall 6 _ rfl
  change DataW.trod _ _ _ _ _ _ _ 4 ((cs.drop 6).take (Try.prog.cellsOf 4)) = some x6 at f6
  rw [cB] at f6
  obtain ⟨v6, h6, _⟩ := DataW.trod_bool Try.underlying4 f6
  have g6 := take_one h6
  clear f6 h6
  have f7 := hall 7 _ rfl
  change DataW.trod _ _ _ _ _ _ _ 3 ((cs.drop 7).take (Try.prog.cellsOf 3)) = some x7 at f7
  rw [cI] at f7
  obtain ⟨v7, h7, _, w7⟩ := DataW.trod_int Try.underlying3 f7
  have g7 := take_one h7
  clear f7 h7
  have f8 := hall 8 _ rfl
  change DataW.trod _ _ _ _ _ _ _ 3 ((cs.drop 8).take (Try.prog.cellsOf 3)) = some x8 at f8
  rw [cI] at f8
  obtain ⟨v8, h8, _, w8⟩ := DataW.trod_int Try.underlying3 f8
  have g8 := take_one h8
  clear f8 h8
  have f9 := hall 9 _ rfl
  change DataW.trod _ _ _ _ _ _ _ 37 ((cs.drop 9).take (Try.prog.cellsOf 37)) = some x9 at f9
  rw [cL] at f9
  obtain ⟨a9, p9, v9, h9, m9, w9, r9⟩ := ints_in f9
  have g9 := take_one h9
  clear f9 h9
  have f10 := hall 10 _ rfl
  change DataW.trod _ _ _ _ _ _ _ 38 ((cs.drop 10).take (Try.prog.cellsOf 38)) = some x10 at f10
  rw [cT] at f10
  obtain ⟨a10, p10, v10, h10, m10, w10, r10⟩ := texts_in f10
  have g10 := take_one h10
  clear f10 h10
  have f11 := hall 11 _ rfl
  change DataW.trod _ _ _ _ _ _ _ 38 ((cs.drop 11).take (Try.prog.cellsOf 38)) = some x11 at f11
  rw [cT] at f11
  obtain ⟨a11, p11, v11, h11, m11, w11, r11⟩ := texts_in f11
  have g11 := take_one h11
  clear f11 h11
  have f12 := hall 12 _ rfl
  change DataW.trod _ _ _ _ _ _ _ 9 ((cs.drop 12).take (Try.prog.cellsOf 9)) = some x12 at f12
  rw [cS] at f12
  obtain ⟨v12, h12, _, w12⟩ := DataW.trod_string Try.underlying9 f12
  have g12 := take_one h12
  clear f12 h12
  have hcs : cs = [.int .i64 v0, .string v1, .string v2, .int .i64 v3, .int .i64 v4, .string v5, .bool v6, .int .i64 v7, .int .i64 v8, .slice a9 v9.length p9, .slice a10 v10.length p10, .slice a11 v11.length p11, .string v12] := by
    match cs, hl with
    | [y0, y1, y2, y3, y4, y5, y6, y7, y8, y9, y10, y11, y12], _ =>
      simp at g0 g1 g2 g3 g4 g5 g6 g7 g8 g9 g10 g11 g12
      rw [g0, g1, g2, g3, g4, g5, g6, g7, g8, g9, g10, g11, g12]
  refine ⟨⟨v0, v1, v2, v3, v4, v5, v6, v7, v8, v9, v10, v11, v12⟩, .slice a9 v9.length p9, .slice a10 v10.length p10, .slice a11 v11.length p11, by rw [hcs]; rfl, ⟨a9, p9, a10, p10, a11, p11, rfl, r9, r10, r11⟩, ?_⟩
  unfold maxLen at m9 m10 m11 w1 w2 w5 w12
  refine ⟨fun y hy => ?_, w9, fun s hs => ?_, w10, w11, m9, m10, m11⟩
  · simp only [List.mem_cons, List.not_mem_nil, or_false] at hy
    simp [Lit.wf, IntKind.min, IntKind.max, IntKind.signed, IntKind.bits] at w0 w3 w4 w7 w8
    rcases hy with rfl | rfl | rfl | rfl | rfl <;> omega
  · simp only [List.mem_cons, List.not_mem_nil, or_false] at hs
    rcases hs with rfl | rfl | rfl | rfl <;> assumption
end Go.Proofs.Ytplblechcnbieaa

/-
  Rows of letters: the kind.
-/
namespace Go.Proofs.Ytplblechcnbieaa
open Go.RowKit
set_option linter.unusedVariables false
set_option linter.unusedSimpArgs false

theorem OwnC.same {w w' : World} {base : Nat} {v : Value} {c : Ct} (h : OwnC w base v c) (hs : ∀ g ∈ fpC v, w'.heap[g]? = w.heap[g]?) : OwnC w' base v c := by
  obtain ⟨p, e, d, rfl, h1, h2, h3, h4⟩ := h
  exact ⟨p, e, d, rfl, row_same h1 fun g hg => hs g (fpC_mem.2 (.inl hg)), row_same h2 fun g hg => hs g (fpC_mem.2 (.inr (.inl hg))), row_same h3 fun g hg => hs g (fpC_mem.2 (.inr (.inr hg))), h4⟩
theorem rowOne {w : World} {base t n : Nat} {s : Nat} {p : Value} {l : List Value} (h : w.ownsRow base t s p n l) : p.oneCell' = true := by
  rcases h.2 with ⟨rfl, _⟩ | ⟨g, cap, cur, rfl, _⟩ <;> rfl
theorem ap_ne {p e : Value} (h : Ap p e) {g : Nat} (h1 : p.ownBlock = some g) (h2 : e.ownBlock = some g) : False := by
  rcases h with h | h
  · rw [h] at h1; cases h1
  · exact h (h1.trans h2.symm)
theorem optNodup (o : Option Nat) : o.toList.Nodup := by cases o <;> simp
/-- Letters, as a kind of struct. -/
def certKd : Kd Ct where
  T := 43
  K := 13
  Own := OwnC
  At := CtAt
  fp := fpC
  pos := by decide
  size := fun h => by
    obtain ⟨p, e, d, rfl, h1, h2, h3, _⟩ := h
    refine ⟨rfl, fun x hx => ?_⟩
    change x ∈ [_, _, _, _, _, _, _, _, _, _, _, _, _] at hx
    simp only [List.mem_cons, List.not_mem_nil, or_false] at hx
    rcases hx with rfl | rfl | rfl | rfl | rfl | rfl | rfl | rfl | rfl | rfl | rfl | rfl | rfl
    all_goals first | rfl | exact rowOne h1 | exact rowOne h2 | exact rowOne h3
  same := OwnC.same
  lt := fpC_lt
  base := OwnC.base
  nodup := fun h => by
    obtain ⟨p, e, d, rfl, h1, h2, h3, h4, h5, h6⟩ := h
    show (p.ownBlock.toList ++ (e.ownBlock.toList ++ d.ownBlock.toList)).Nodup
    refine nodup_app (optNodup _) (nodup_app (optNodup _) (optNodup _) fun y h7 h8 => ap_ne h6.1 (Option.mem_toList.1 h7) (Option.mem_toList.1 h8)) fun y h7 h8 => ?_
    rcases List.mem_append.1 h8 with h8 | h8
    · exact ap_ne h4.1 (Option.mem_toList.1 h7) (Option.mem_toList.1 h8)
    · exact ap_ne h5.1 (Option.mem_toList.1 h7) (Option.mem_toList.1 h8)
  own_at := OwnC.at
  below := CtAt.below
/-- The letter that is empty in all. -/
def zeC : Ct := ⟨0, ⟨#[]⟩, ⟨#[]⟩, 0, 0, ⟨#[]⟩, false, 0, 0, [], [], [], ⟨#[]⟩⟩
def zeCV : Value := .agg #[.int .i64 0, .string ⟨#[]⟩, .string ⟨#[]⟩, .int .i64 0, .int .i64 0, .string ⟨#[]⟩, .bool false, .int .i64 0, .int .i64 0, .slice none 0 0, .slice none 0 0, .slice none 0 0, .string ⟨#[]⟩]
theorem own_zeC (w : World) (base : Nat) : OwnC w base zeCV zeC := ⟨.slice none 0 0, .slice none 0 0, .slice none 0 0, rfl, World.ownsRow_nil _ _ _ _, World.ownsRow_nil _ _ _ _, World.ownsRow_nil _ _ _ _, ⟨.inl rfl, .inl rfl⟩, ⟨.inl rfl, .inl rfl⟩, .inl rfl, .inl rfl⟩
theorem infoCert : (Try.prog.info? 43).map (fun i => (i.zero, i.size, i.bytes)) = some (some (.agg #[.int .i64 0, .string ⟨#[]⟩, .string ⟨#[]⟩, .int .i64 0, .int .i64 0, .string ⟨#[]⟩, .bool false, .int .i64 0, .int .i64 0, .slice none 0 0, .slice none 0 0, .slice none 0 0, .string ⟨#[]⟩]), 13, 184) := by kernel_rfl
/-- What rows of letters weigh. -/
def wtM (l : List Ct) : Nat := l.length + (l.map wtC).sum
theorem wtM_mem : ∀ {l : List Ct} {c : Ct}, c ∈ l → wtC c ≤ wtM l
  | c :: l, d, h => by
    rcases List.mem_cons.1 h with rfl | h
    · unfold wtM; simp; omega
    · have := wtM_mem h
      unfold wtM at this ⊢
      simp
      omega
theorem sumM_take {l : List Nat} {k : Nat} (h : k < l.length) : (l.take (k + 1)).sum = (l.take k).sum + l[k] := by
  rw [List.take_add_one, List.sum_append, List.getElem?_eq_getElem h]
  simp
theorem sumM_take_le (l : List Nat) (k : Nat) : (l.take k).sum ≤ l.sum := by
  have h : (l.take k ++ l.drop k).sum = (l.take k).sum + (l.drop k).sum := List.sum_append
  rw [List.take_append_drop] at h
  omega
/-- A row of letters that came in. -/
def ArgM (B : Nat) (w : World) (v : Value) (l : List Ct) : Prop := RowS 13 B (ArgC B w) w v l
theorem ArgM.below {B : Nat} {w w' : World} {v : Value} {l : List Ct} (h : ArgM B w v l) (hb : Below B w w') {B' : Nat} (hB : B ≤ B') : ArgM B' w' v l := RowS.below h hb (fun _ _ hP => (hP.below hb).mono hB) hB
theorem fillM_set {l : List Ct} {k : Nat} (hk : k < l.length) : (l.take k ++ List.replicate (l.length - k) zeC).set k l[k] = l.take (k + 1) ++ List.replicate (l.length - (k + 1)) zeC := by
  have e : (l.take k).length = k := by rw [List.length_take]; omega
  rw [List.set_append_right _ _ (by omega), e, Nat.sub_self, show l.length - k = (l.length - (k + 1)) + 1 by omega, List.replicate_succ, List.set_cons_zero, List.take_succ_eq_append_getElem hk, List.append_assoc]
  rfl
theorem fillM_len {l : List Ct} {k : Nat} (hk : k ≤ l.length) : (l.take k ++ List.replicate (l.length - k) zeC).length = l.length := by
  rw [List.length_append, List.length_take, List.length_replicate]
  omega
/-- The cells of one of the row, and that they may be written. -/
theorem OwnS.cellsM {w : World} {base g n cap : Nat} {l : List Ct} {fp : List Nat} (h : OwnS certKd w base (.slice (some ⟨g, 0, none⟩) n cap) l fp) (hn : n = l.length) {j : Nat} (hj : j < l.length) :
    (∃ u, OwnC w base u l[j] ∧ (∀ b ∈ fpC u, b ∈ fp ∧ b ≠ g) ∧ ∀ i x, u.cells[i]? = some x → w.cell? ⟨g, j * 13 + i, none⟩ = some x) ∧ ∀ i, w.frozen? ⟨g, i, none⟩ = false := by
  subst hn
  obtain ⟨vs, hl, hr, he, rfl, hnd⟩ := h
  have hsz := OwnS.sizes hl he
  refine ⟨⟨vs[j]'(by omega), he j (by omega) hj, fun b hb => ⟨List.mem_append_right _ (mem_flat (by omega) hb), fun e => ?_⟩, fun i x hx => ?_⟩, fun i => World.ownsRow.frozenAt hr i⟩
  · subst e
    exact (List.nodup_append.1 hnd).2.2 b (by simp [Value.ownBlock]) b (mem_flat (by omega) hb) rfl
  · have hi : i < 13 := by
      have := (Array.getElem?_eq_some_iff.1 hx).1
      rw [hsz _ (List.getElem_mem _)] at this
      exact this
    rw [World.ownsRow.cellAt hr _ (by show j * 13 + i < l.length * 13; omega)]
    exact (cellsV_at hsz j (by omega) i hi).trans hx
theorem ArgC.shape {B : Nat} {w : World} {v : Value} {c : Ct} (h : ArgC B w v c) : ∃ p q e r d s, v = ctV c (.slice p c.pol.length q) (.slice e c.per.length r) (.slice d c.den.length s) := by
  obtain ⟨pa, pc, ea, ec, da, dc, hv, _⟩ := h
  exact ⟨pa, pc, ea, ec, da, dc, hv⟩
end Go.Proofs.Ytplblechcnbieaa
