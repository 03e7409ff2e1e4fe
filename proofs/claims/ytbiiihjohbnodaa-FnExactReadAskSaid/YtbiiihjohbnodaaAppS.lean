/-
  'append(row, text...)': a text's bytes behind a row of bytes that a call owns.
-/
import Derived.Test.YtbiiihjohbnodaaVar
import Derived.Deep.AppendSrc
namespace Go.Proofs.Ytbiiihjohbnodaa
open Go.RowKit
set_option linter.unusedVariables false

theorem byteCells_cellB (s : ByteArray) : byteCells s = s.data.toList.map cellB := rfl
theorem run_append_str {w : World} (base : Nat) (ty : TypeId) (v : Value) (n : Nat) (xs : List Value) (s : ByteArray) (hown : w.ownsRow base 5 1 v n xs) (h63 : n + s.size ≤ 1000000000000) (hbase : base ≤ w.heap.size) (hn : v ≠ .slice none 0 0) :
    ∃ v' w', (Builtin.append_ #[103, 9] ty #[v, .string s]).run Try.prog w = .ok v' w' ∧ w'.ownsRow base 5 1 v' (n + s.size) (xs ++ s.data.toList.map cellB) ∧ w.grownBy w' v.ownBlock ∧ v' ≠ .slice none 0 0 := by
  obtain ⟨i, hi, hz0, hz1, hz2⟩ := info_parts info5
  have hsrc : Src Try.prog i.size 9 (.string s) s.size (byteCells s) w := by rw [hz1]; exact Src.ofString w Try.underlying9 s
  have hl : (byteCells s).length = s.size := byteCells_length s
  rcases hown.2 with ⟨h, _⟩ | ⟨g, cap, cur, rfl, hbg, hg, hnc, hcm, hcs, htake⟩
  · exact absurd h hn
  · have hx := hown.1
    rw [Nat.mul_one] at hx hcs htake
    by_cases hroom : n + s.size ≤ cap
    · have hst := run_storeCells_at Try.prog g n 5 (byteCells s) 0 cur w hg (by rw [hl]; omega) hsrc.one
      have hr : (Builtin.append_ #[103, 9] ty #[.slice (some ⟨g, 0, none⟩) n cap, .string s]).run Try.prog w = .ok (.slice (some ⟨g, 0, none⟩) (n + s.size) cap) (w.setRow g (cur.toList.take n ++ byteCells s ++ cur.toList.drop (n + (byteCells s).length)).toArray) := by
        have hc := hsrc.cells
        rw [hz1] at hc
        simp only [Nat.add_zero] at hst
        simp [Builtin.append_, run_underlying Try.underlying103, run_underlying Try.underlying9, sizeOf, typeInfo, hi, hz1, hsrc.len, hroom, hc, Addr.add_lit, hst]
      refine ⟨_, _, hr, ⟨by rw [List.length_append, List.length_map, hx, Nat.mul_one]; rfl, .inr ⟨g, cap, _, rfl, hbg, setRow_heap w g cur _ 5 _ hg, hroom, hcm, ?_, ?_⟩⟩, ⟨rfl, rfl, rfl, by simp, fun k _ hk => setRow_other w g k _ (fun e => hk (by simp [Value.ownBlock, e]))⟩, by simp⟩
      · simp only [List.size_toArray, List.length_append, List.length_take, List.length_drop, Array.length_toList]
        omega
      · rw [htake, Nat.mul_one, ← byteCells_cellB]
        have e : n + s.size = (xs ++ byteCells s).length := by rw [List.length_append, hl, hx]
        rw [e]
        exact List.take_left
    · have holds : ∀ j u, xs[j]? = some u → w.cell? ((⟨g, 0, none⟩ : Addr).add j) = some u := hown.cells (g := g) rfl
      have hold := run_firstCells_some (P := Try.prog) w.drew i.size n ⟨g, 0, none⟩ n cap xs (by rw [hz1, Nat.mul_one]; exact hx) (by simpa using holds)
      have hr := run_append_grow_src (P := Try.prog) w 103 9 ty 5 i (.int .u8 0) Try.underlying103 hi hz0 (some ⟨g, 0, none⟩) n cap xs hold (.string s) s.size (byteCells s) hsrc (by omega) (by omega) (growslice_fits (by omega) (by rw [hz2]; omega))
      have hge := grownCap_ge w (n + s.size) cap 5
      have hcm2 : grownCap w (n + s.size) cap 5 ≤ maxLen := grownCap_le_maxLen w (n + s.size) cap 5 (by unfold maxLen; omega)
      refine ⟨_, _, hr, ⟨by rw [List.length_append, List.length_map, hx, Nat.mul_one]; rfl, .inr ⟨w.heap.size, _, _, rfl, hbase, heap_alloc_new w.drew _, hge, hcm2, ?_, ?_⟩⟩, ⟨rfl, rfl, rfl, by simp, fun k hk _ => heap_alloc_old w.drew _ hk⟩, by simp⟩
      · have hzc : (Value.cells (.int .u8 0)).size = 1 := rfl
        simp only [Array.size_append, List.size_toArray, List.length_append, size_zeroCells, hzc, hl, hx]
        omega
      · rw [Array.toList_append, Nat.mul_one, ← byteCells_cellB]
        have e : n + s.size = (xs ++ byteCells s).length := by rw [List.length_append, hl, hx]
        rw [e]
        exact List.take_left
theorem wpList_append_str {w : World} {ops : Array Oper} {rest : List Oper} {o : Oper} {a : Act} {Q : Exit → Act → World → Prop} (hgd : o.guard = none) (p x : Operand)
    (ho : o.op = .call { callee := .builtin .append, args := #[p, x], argTypes := #[103, 9] }) (base : Nat) (v : Value) (n : Nat) (xs : List Value) (s : ByteArray) (hs : a.eval p = v) (hx : a.eval x = .string s) (hown : w.ownsRow base 5 1 v n xs) (h63 : n + s.size ≤ 1000000000000) (hbase : base ≤ w.heap.size) (hn : v ≠ .slice none 0 0)
    (h : ∀ v' w', w'.ownsRow base 5 1 v' (n + s.size) (xs ++ s.data.toList.map cellB) → w.grownBy w' v.ownBlock → v' ≠ .slice none 0 0 → wpList Try.prog ops Q rest (a.put o.dst v') w') : wpList Try.prog ops Q (o :: rest) a w :=
  wpList_plain hgd fun _ hK => by
    obtain ⟨v', w', hr, h2, h3, h4⟩ := run_append_str base o.type v n xs s hown h63 hbase hn
    unfold Oper.wp execOp
    simp only [ho, resolve, invoke, builtin, Sem.run_bind, Sem.run_pure, Result.andThen_ok, List.map_toArray, List.map_cons, List.map_nil, hs, hx, hr]
    exact hK _ _ (h v' w' h2 h3 h4)
end Go.Proofs.Ytbiiihjohbnodaa
