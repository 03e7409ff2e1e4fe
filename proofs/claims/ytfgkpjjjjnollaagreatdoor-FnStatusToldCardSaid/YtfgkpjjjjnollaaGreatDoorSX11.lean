/-
  Texts of the proof, one behind the other: ClG, SvB, CrQ.
-/
import Derived.Test.YtfgkpjjjjnollaaGreatDoorSX7
import Derived.Test.YtfgkpjjjjnollaaGreatDoorSX8
import Derived.Test.YtfgkpjjjjnollaaGreatDoorSX9
import Derived.Test.YtfgkpjjjjnollaaGreatDoorSX10

/-
  A list that came in, opened.
-/
namespace Go.Proofs.YtfgkpjjjjnollaaGreatDoor
open Go.RowKit Go.ChangeShapes
set_option linter.unusedVariables false

theorem cR : Tryz.prog.cellsOf 75 = 1 := by kernel_rfl
end Go.Proofs.YtfgkpjjjjnollaaGreatDoor

/-
  Rows of lists of what was called back: the kind, and the laws' helpers toCrlS, szCrlS, eqCrlS.
-/
namespace Go.Proofs.YtfgkpjjjjnollaaGreatDoor
open Go.RowKit
set_option linter.unusedVariables false
set_option linter.unusedSimpArgs false

theorem OwnL.same {w w' : World} {base : Nat} {v : Value} {c : Cl} (h : OwnL w base v c) (hs : ∀ g ∈ fpL v, w'.heap[g]? = w.heap[g]?) : OwnL w' base v c := by
  obtain ⟨p, rfl, h1⟩ := h
  exact ⟨p, rfl, row_same h1 fun g hg => hs g (fpL_mem.2 hg)⟩
theorem own_one {w : World} {base : Nat} {p : Value} {l : List (Int × Int)} (h : OwnR w base p l) : p.oneCell' = true := by
  obtain ⟨ao, cap, rfl, _⟩ := h.shape
  rfl
/-- Lists of what was called back, as a kind of struct. -/
def crlKd : Kd Cl where
  T := 49
  K := 7
  Own := OwnL
  At := ClAt
  fp := fpL
  pos := by decide
  size := fun h => by
    obtain ⟨p, rfl, h1⟩ := h
    refine ⟨rfl, fun x hx => ?_⟩
    change x ∈ [_, _, _, _, _, _, _] at hx
    simp only [List.mem_cons, List.not_mem_nil, or_false] at hx
    rcases hx with rfl | rfl | rfl | rfl | rfl | rfl | rfl
    all_goals first | rfl | exact own_one h1
  same := OwnL.same
  lt := fpL_lt
  base := OwnL.base
  nodup := fun h => by
    obtain ⟨p, rfl, h1⟩ := h
    show (p.ownBlock.toList).Nodup
    cases p.ownBlock <;> simp
  own_at := OwnL.at
  below := ClAt.below
/-- The list that is empty in all. -/
def zeL : Cl := ⟨⟨#[]⟩, 0, 0, 0, 0, [], ⟨#[]⟩⟩
def zeV : Value := .agg #[.string ⟨#[]⟩, .int .i64 0, .int .i64 0, .int .i64 0, .int .i64 0, .slice none 0 0, .string ⟨#[]⟩]
theorem own_zeL (w : World) (base : Nat) : OwnL w base zeV zeL := ⟨.slice none 0 0, rfl, World.ownsRow_nil _ _ _ _⟩
theorem infoCrl : (Tryz.prog.info? 49).map (fun i => (i.zero, i.size, i.bytes)) = some (some (.agg #[.string ⟨#[]⟩, .int .i64 0, .int .i64 0, .int .i64 0, .int .i64 0, .slice none 0 0, .string ⟨#[]⟩]), 7, 88) := by kernel_rfl
/-- What rows of lists weigh. -/
def wtS (l : List Cl) : Nat := l.length + (l.map wtL).sum
theorem wtS_mem : ∀ {l : List Cl} {c : Cl}, c ∈ l → wtL c ≤ wtS l
  | c :: l, d, h => by
    rcases List.mem_cons.1 h with rfl | h
    · unfold wtS; simp; omega
    · have := wtS_mem h
      unfold wtS at this ⊢
      simp
      omega
/-- A row of lists that came in. -/
def ArgS (B : Nat) (w : World) (v : Value) (l : List Cl) : Prop := RowS 7 B (ArgL B w) w v l
theorem ArgS.below {B : Nat} {w w' : World} {v : Value} {l : List Cl} (h : ArgS B w v l) (hb : Below B w w') {B' : Nat} (hB : B ≤ B') : ArgS B' w' v l := RowS.below h hb (fun _ _ hP => (hP.below hb).mono hB) hB
/-- The cells of one of the row, and that they may be written. -/
theorem OwnS.cells {w : World} {base g n cap : Nat} {l : List Cl} {fp : List Nat} (h : OwnS crlKd w base (.slice (some ⟨g, 0, none⟩) n cap) l fp) (hn : n = l.length) {j : Nat} (hj : j < l.length) :
    (∃ u, OwnL w base u l[j] ∧ (∀ b ∈ fpL u, b ∈ fp ∧ b ≠ g) ∧ ∀ i x, u.cells[i]? = some x → w.cell? ⟨g, j * 7 + i, none⟩ = some x) ∧ ∀ i, w.frozen? ⟨g, i, none⟩ = false := by
  subst hn
  obtain ⟨vs, hl, hr, he, rfl, hnd⟩ := h
  have hsz := OwnS.sizes hl he
  refine ⟨⟨vs[j]'(by omega), he j (by omega) hj, fun b hb => ⟨List.mem_append_right _ (mem_flat (by omega) hb), fun e => ?_⟩, fun i x hx => ?_⟩, fun i => World.ownsRow.frozenAt hr i⟩
  · subst e
    exact (List.nodup_append.1 hnd).2.2 b (by simp [Value.ownBlock]) b (mem_flat (by omega) hb) rfl
  · have hi : i < 7 := by
      have := (Array.getElem?_eq_some_iff.1 hx).1
      rw [hsz _ (List.getElem_mem _)] at this
      exact this
    rw [World.ownsRow.cellAt hr _ (by show j * 7 + i < l.length * 7; omega)]
    exact (cellsV_at hsz j (by omega) i hi).trans hx
theorem ArgL.shape {B : Nat} {w : World} {v : Value} {c : Cl} (h : ArgL B w v c) : ∃ p q, v = clV c (.slice p c.revs.length q) := by
  obtain ⟨pa, pc, hv, _⟩ := h
  exact ⟨pa, pc, hv⟩
end Go.Proofs.YtfgkpjjjjnollaaGreatDoor

/-
  The program's upTo and CertOk.
-/
namespace Go.Proofs.YtfgkpjjjjnollaaGreatDoor
open Go.RowKit
set_option linter.unusedVariables false

set_option maxRecDepth 100000 in
theorem upTo_any (hi n : Int) (w : World) : Calls Tryz.prog 96 #[.int .i64 hi, .int .i64 n] w fun e w' => e = .returned (.bool (inB n 0 hi)) ∧ Below w.heap.size w w' := by
  by_cases h : 0 ≤ n
  · by_cases h2 : n ≤ hi
    · have HB : Hid (inB n 0 hi = true) := decide_eq_true ⟨h, h2⟩
      go_enter Tryz.func96, Tryz.ntmps96
      go_wp2_with fail
      go_ret
      exact ⟨by rw [HB.out]; simp [*], Below.refl _ _⟩
    · have HB : Hid (inB n 0 hi = false) := decide_eq_false (fun q => h2 q.2)
      go_enter Tryz.func96, Tryz.ntmps96
      go_wp2_with fail
      go_ret
      exact ⟨by rw [HB.out]; simp [*], Below.refl _ _⟩
  · have HB : Hid (inB n 0 hi = false) := decide_eq_false (fun q => h q.1)
    go_enter Tryz.func96, Tryz.ntmps96
    go_wp2_with fail
    go_ret
    exact ⟨by rw [HB.out]; simp [*], Below.refl _ _⟩
end Go.Proofs.YtfgkpjjjjnollaaGreatDoor
