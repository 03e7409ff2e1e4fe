/-
  A row of items that a call makes, one behind the other.
-/
import Derived.Test.YtllmgjfffkhocaaItF
import Derived.OwnWalk
import Derived.Deep.AppendLies
import Derived.Deep.RegionLaw
namespace Go.Proofs.Ytllmgjfffkhocaa
open Go.RowKit Der
set_option linter.unusedVariables false

/-- The cells of items, with the values that lead to their kids. -/
def cellsK {n : Nat} (ks : List (It (n + 1))) (kvs : List Value) : List Value := (ks.zip kvs).flatMap fun p => [.int .i64 (It.tag p.1), .string ⟨(It.text p.1).toArray⟩, p.2]
theorem cellsK_snoc {n : Nat} {ks : List (It (n + 1))} {kvs : List Value} (h : ks.length = kvs.length) (x : It (n + 1)) (k : Value) : cellsK (ks ++ [x]) (kvs ++ [k]) = cellsK ks kvs ++ [.int .i64 (It.tag x), .string ⟨(It.text x).toArray⟩, k] := by
  unfold cellsK
  rw [List.zip_append h, List.flatMap_append]
  rfl
theorem cellsK_len {n : Nat} : ∀ {ks : List (It (n + 1))} {kvs : List Value}, ks.length = kvs.length → (cellsK ks kvs).length = ks.length * 3
  | [], [], _ => rfl
  | [], _ :: _, h => by simp at h
  | _ :: _, [], h => by simp at h
  | x :: ks, k :: kvs, h => by
    have ih := cellsK_len (ks := ks) (kvs := kvs) (by simpa using h)
    unfold cellsK at ih ⊢
    rw [List.zip_cons_cons, List.flatMap_cons, List.length_append, ih]
    simp
    omega
theorem cellsK_at {n : Nat} : ∀ {ks : List (It (n + 1))} {kvs : List Value} (h : ks.length = kvs.length) (j : Nat) (hj : j < ks.length), (cellsK ks kvs)[j * 3]? = some (.int .i64 (It.tag ks[j])) ∧ (cellsK ks kvs)[j * 3 + 1]? = some (.string ⟨(It.text ks[j]).toArray⟩) ∧ (cellsK ks kvs)[j * 3 + 2]? = some (kvs[j]'(by omega))
  | [], _, _, _, hj => by simp at hj
  | _ :: _, [], h, _, _ => by simp at h
  | x :: ks, k :: kvs, h, 0, hj => by
    unfold cellsK
    rw [List.zip_cons_cons, List.flatMap_cons]
    exact ⟨rfl, rfl, rfl⟩
  | x :: ks, k :: kvs, h, j + 1, hj => by
    have ih := cellsK_at (ks := ks) (kvs := kvs) (by simpa using h) j (by simpa using hj)
    have e : cellsK (x :: ks) (k :: kvs) = .int .i64 (It.tag x) :: .string ⟨(It.text x).toArray⟩ :: k :: cellsK ks kvs := by
      unfold cellsK
      rw [List.zip_cons_cons, List.flatMap_cons]
      rfl
    rw [e, show (j + 1) * 3 = j * 3 + 3 by omega]
    exact ih
theorem own_kept {w w' : World} {base : Nat} {e : TypeId} {size : Nat} {v : Value} {n : Nat} {xs : List Value} (h : w.ownsRow base e size v n xs) (hb : Below w.heap.size w w') : w'.ownsRow base e size v n xs :=
  h.kept ⟨hb.os, hb.tape, hb.output, hb.size, fun k hk _ => hb.block k hk⟩ (row := none) (by cases hv : v.ownBlock <;> simp)
theorem news_three (w : World) (a b c : Value) (t : TypeId) : ∀ j u, [a, b, c][j]? = some u → (w.alloc (.cells #[a, b, c] t)).cell? ((⟨w.heap.size, 0, none⟩ : Addr).add j) = some u := by
  intro j u hj
  rw [Addr.add_lit, Nat.zero_add, World.cell?_alloc_mark w _ t _ j]
  simpa using hj
theorem nodup_app {a b : List Nat} (ha : a.Nodup) (hb : b.Nodup) (hd : ∀ x ∈ a, x ∉ b) : (a ++ b).Nodup := List.nodup_append.2 ⟨ha, hb, fun x hx y hy e => hd x hx (e ▸ hy)⟩
/-- A call of a Go function, as one step of a region that draws, where a law is handed in (go_region_law). -/
theorem step_call {P : Program} {ops : Array Oper} {o : Oper} {a : Act} {w : World} {K : Act → World → Prop} {Q : Exit → Act → World → Prop} {E : Prop} (hgd : o.guard = none) (f : Nat) (xs : Array Operand) (tys : Array TypeId) (hop : o.op = .call { callee := .value (.func f), args := xs, argTypes := tys })
    (vs : Array Value) (hv0 : xs.toList.map a.eval = vs.toList) (hr : (callFunc f vs).run P w = .ok (.enter f vs) w)
    (h : Calls P f vs w fun | .returned v, w'' => K (a.put o.dst v) w'' | .panicked chain, w'' => Q (.panic chain) a w'' | .outgrown, _ => LetsOut Q) :
    if Region.wanted o (yielded ops a.tmps) = true then Oper.wp P o a w K Q else E := by
  have hw : Region.wanted o (yielded ops a.tmps) = true := by simp [Region.wanted, hgd]
  rw [if_pos hw]
  have hv : xs.map a.eval = vs := Array.ext' (by rw [Array.toList_map]; exact hv0)
  have e : (execOp a.eval o).run P w = .ok (.enter f vs) w := by
    simp [execOp, hop, resolve, invoke, Deferred.ofValue, Act.eval, hv, hr]
  unfold Oper.wp
  rw [e]
  exact h
end Go.Proofs.Ytllmgjfffkhocaa
