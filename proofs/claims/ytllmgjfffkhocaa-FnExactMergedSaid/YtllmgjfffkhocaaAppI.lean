/-
  'append(out, list...)' of a list of numbers that a call owns, nil or not.
-/
import Derived.Test.YtllmgjfffkhocaaNatB
import Derived.Laws.AppendOwnNone
namespace Go.Proofs.Ytllmgjfffkhocaa
open Go.RowKit
theorem wpList_append_list {w : World} {ops : Array Oper} {rest : List Oper} {o : Oper} {a : Act} {Q : Exit → Act → World → Prop} (hgd : o.guard = none) (s x : Operand) (t : TypeId)
    (ho : o.op = .call { callee := .builtin .append, args := #[s, x], argTypes := #[t, t] }) (base : Nat) (i0 : TypeInfo) (ht : Try.prog.underlying t = some (.slice 3)) (hi : Try.prog.info? 3 = some i0) (hz0 : i0.zero = some (.int .i64 0)) (hz1 : i0.size = 1) (hz2 : i0.bytes = 8)
    (v : Value) (n : Nat) (xs : List Value) (hs : a.eval s = v) (hown : w.ownsRow base 3 1 v n xs) (u : Value) (lu : List Int) (bu : Nat) (hu : OwnI w bu u lu) (hx : a.eval x = u) (hlen : n + lu.length ≤ 1000000) (hbase : base ≤ w.heap.size)
    (h : ∀ v' w', w'.ownsRow base 3 1 v' (n + lu.length) (xs ++ cellsI lu) → w.grownBy w' v.ownBlock → wpList Try.prog ops Q rest (a.put o.dst v') w') : wpList Try.prog ops Q (o :: rest) a w := by
  rcases hu.2 with ⟨rfl, h0⟩ | ⟨g, cap, cur, rfl, hbg, hg, hn, hm, hsz, htk⟩
  · have hl : lu = [] := List.eq_nil_of_length_eq_zero h0
    subst hl
    refine wpList_append_own_none hgd s x t ho base 3 i0 1 ht hi v n xs hs hown hx (h v w (by simpa [cellsI] using hown) (World.grownBy.refl _ _))
  · refine wpList_append_own w hgd s x t ho base 3 i0 (.int .i64 0) 1 8 ht hi hz0 hz1 hz2 rfl (by decide) v n xs hs hown ⟨g, 0, none⟩ lu.length cap (cellsI lu) hx (by simp [cellsI]) (fun j q hq => ?_) (fun q hq => ?_) (by unfold maxLen; omega) (by omega) hbase (fun v' w' h1 h2 _ => h v' w' h1 h2)
    · have hj : j < lu.length := by
        refine Nat.lt_of_not_le fun h => ?_
        rw [List.getElem?_eq_none (by rw [cellsI_len]; exact h)] at hq
        cases hq
      rw [Addr.add_lit, Nat.zero_add, hu.cell hj, ← hq, cellsI_getD hj]
    · obtain ⟨y, _, rfl⟩ := List.mem_map.1 hq
      rfl
end Go.Proofs.Ytllmgjfffkhocaa
