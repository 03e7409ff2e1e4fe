/-
  Texts of the proof, one behind the other: SiI, SzP, AppS.
-/
import Derived.Deep.RegionHeld3
import Derived.Deep.AppendSrc
import Derived.Test.YtfgkpjjjjnollaaGreatDoorSX1
import Derived.Test.YtfgkpjjjjnollaaGreatDoorSX2
import Derived.Test.YtfgkpjjjjnollaaGreatDoorSX14
import Derived.Test.YtfgkpjjjjnollaaGreatDoorSX15
import Derived.Test.YtfgkpjjjjnollaaGreatDoorSX17

/-
  The program's signedItem.
-/
namespace Go.Proofs.YtfgkpjjjjnollaaGreatDoor
open Go.RowKit Der
set_option linter.unusedVariables false

/-- Where signedItem stands: an item in a variable's block, the result in another. -/
def KG (w W : World) (t s k : Value) : Prop := Below w.heap.size w W ∧ Blk3 W w.heap.size t s k ∧ ∃ x y z, Blk3 W (w.heap.size + 1) x y z
theorem KG.below {w W W' : World} {t s k : Value} (h : KG w W t s k) (hb : Below W.heap.size W W') : KG w W' t s k := by
  obtain ⟨h1, h2, x, y, z, h3⟩ := h
  exact ⟨h1.trans (hb.mono h1.size), h2.below hb, x, y, z, h3.below hb⟩
theorem KG.set {w W : World} {t s k : Value} (h : KG w W t s k) (p q r : Value) : KG w (((W.setCell ⟨w.heap.size + 1, 0, none⟩ p).setCell ⟨w.heap.size + 1, 1, none⟩ q).setCell ⟨w.heap.size + 1, 2, none⟩ r) t s k := by
  obtain ⟨h1, h2, x, y, z, h3⟩ := h
  refine ⟨((h1.setCell (p := ⟨w.heap.size + 1, 0, none⟩) (Nat.le_succ _) _).setCell (p := ⟨w.heap.size + 1, 1, none⟩) (Nat.le_succ _) _).setCell (p := ⟨w.heap.size + 1, 2, none⟩) (Nat.le_succ _) _, ?_, p, q, r, ?_⟩
  · have ne : w.heap.size ≠ w.heap.size + 1 := by omega
    exact ((h2.other (p := ⟨w.heap.size + 1, 0, none⟩) ne _).other (p := ⟨w.heap.size + 1, 1, none⟩) ne _).other (p := ⟨w.heap.size + 1, 2, none⟩) ne _
  · have e := (((show Blk W (w.heap.size + 1) 45 #[x, y, z] from h3).set 0 p).set 1 q).set 2 r
    exact e
theorem KG.start (w : World) (t s k x y z : Value) (W : World) (hW : W = (w.alloc (Obj.cells #[t, s, k] 45)).alloc (Obj.cells #[x, y, z] 45)) : KG w W t s k := by
  have e0 : (w.alloc (Obj.cells #[t, s, k] 45)).heap.size = w.heap.size + 1 := Array.size_push _
  have hb : Below w.heap.size w W := by rw [hW]; exact ((Below.refl _ _).alloc (Nat.le_refl _) _).alloc (by rw [e0]; omega) _
  refine ⟨hb, ?_, x, y, z, ?_⟩
  · rw [hW]; exact (heap_alloc_old _ _ (by rw [e0]; omega)).trans (heap_alloc_new w _)
  · rw [hW]
    have h := heap_alloc_new (w.alloc (Obj.cells #[t, s, k] 45)) (Obj.cells #[x, y, z] 45)
    rw [e0] at h
    exact h
end Go.Proofs.YtfgkpjjjjnollaaGreatDoor

/-
  How great items are.
-/
namespace Go.Proofs.YtfgkpjjjjnollaaGreatDoor
open Go.RowKit Der
set_option linter.unusedVariables false

theorem sz_lst {n : Nat} (ks : List (It n)) : szI (n + 1) (lstJ ks) = ks.length + (ks.map (szI n)).sum := by
  show 0 + ks.length + (ks.map (szI n)).sum = _
  omega
theorem sz_int {n : Nat} (x : Int) : szI (n + 1) (intI x) ≤ 5 := by
  have h := intT_ok (numN_le x)
  unfold plainOk at h
  rw [if_neg (by decide), if_pos rfl] at h
  simp only [Bool.and_eq_true, decide_eq_true_eq] at h
  show (intT (numN x)).length + 0 + 0 ≤ 5
  omega
end Go.Proofs.YtfgkpjjjjnollaaGreatDoor

/-
  'append(row, text...)': a text's bytes behind a row of bytes that a call owns.
-/
namespace Go.Proofs.YtfgkpjjjjnollaaGreatDoor
open Go.RowKit
set_option linter.unusedVariables false

theorem byteCells_cellB (s : ByteArray) : byteCells s = s.data.toList.map cellB := rfl
theorem run_append_str {w : World} (base : Nat) (ty : TypeId) (v : Value) (n : Nat) (xs : List Value) (s : ByteArray) (hown : w.ownsRow base 5 1 v n xs) (h63 : n + s.size ≤ 1000000000000) (hbase : base ≤ w.heap.size) (hn : v ≠ .slice none 0 0) :
    ∃ v' w', (Builtin.append_ #[22, 9] ty #[v, .string s]).run Tryz.prog w = .ok v' w' ∧ w'.ownsRow base 5 1 v' (n + s.size) (xs ++ s.data.toList.map cellB) ∧ w.grownBy w' v.ownBlock ∧ v' ≠ .slice none 0 0 := by
  obtain ⟨i, hi, hz0, hz1, hz2⟩ := info_parts info5
  have hsrc : Src Tryz.prog i.size 9 (.string s) s.size (byteCells s) w := by rw [hz1]; exact Src.ofString w Tryz.underlying9 s
  have hl : (byteCells s).length = s.size := byteCells_length s
  rcases hown.2 with ⟨h, _⟩ | ⟨g, cap, cur, rfl, hbg, hg, hnc, hcm, hcs, htake⟩
  · exact absurd h hn
  · have hx := hown.1
    rw [Nat.mul_one] at hx hcs htake
    by_cases hroom : n + s.size ≤ cap
    · have hst := run_storeCells_at Tryz.prog g n 5 (byteCells s) 0 cur w hg (by rw [hl]; omega) hsrc.one
      have hr : (Builtin.append_ #[22, 9] ty #[.slice (some ⟨g, 0, none⟩) n cap, .string s]).run Tryz.prog w = .ok (.slice (some ⟨g, 0, none⟩) (n + s.size) cap) (w.setRow g (cur.toList.take n ++ byteCells s ++ cur.toList.drop (n + (byteCells s).length)).toArray) := by
        have hc := hsrc.cells
        rw [hz1] at hc
        simp only [Nat.add_zero] at hst
        simp [Builtin.append_, run_underlying Tryz.underlying22, run_underlying Tryz.underlying9, sizeOf, typeInfo, hi, hz1, hsrc.len, hroom, hc, Addr.add_lit, hst]
      refine ⟨_, _, hr, ⟨by rw [List.length_append, List.length_map, hx, Nat.mul_one]; rfl, .inr ⟨g, cap, _, rfl, hbg, setRow_heap w g cur _ 5 _ hg, hroom, hcm, ?_, ?_⟩⟩, ⟨rfl, rfl, rfl, by simp, fun k _ hk => setRow_other w g k _ (fun e => hk (by simp [Value.ownBlock, e]))⟩, by simp⟩
      · simp only [List.size_toArray, List.length_append, List.length_take, List.length_drop, Array.length_toList]
        omega
      · rw [htake, Nat.mul_one, ← byteCells_cellB]
        have e : n + s.size = (xs ++ byteCells s).length := by rw [List.length_append, hl, hx]
        rw [e]
        exact List.take_left
    · have holds : ∀ j u, xs[j]? = some u → w.cell? ((⟨g, 0, none⟩ : Addr).add j) = some u := hown.cells (g := g) rfl
      have hold := run_firstCells_some (P := Tryz.prog) w.drew i.size n ⟨g, 0, none⟩ n cap xs (by rw [hz1, Nat.mul_one]; exact hx) (by simpa using holds)
      have hr := run_append_grow_src (P := Tryz.prog) w 22 9 ty 5 i (.int .u8 0) Tryz.underlying22 hi hz0 (some ⟨g, 0, none⟩) n cap xs hold (.string s) s.size (byteCells s) hsrc (by omega) (by omega) (growslice_fits (by omega) (by rw [hz2]; omega))
      have hge := grownCap_ge w (n + s.size) cap 5
      have hcm2 : grownCap w (n + s.size) cap 5 ≤ maxLen := grownCap_le_maxLen w (n + s.size) cap 5 (by unfold maxLen; omega)
      refine ⟨_, _, hr, ⟨by rw [List.length_append, List.length_map, hx, Nat.mul_one]; rfl, .inr ⟨w.heap.size, _, _, rfl, hbase, heap_alloc_new w.drew _, hge, hcm2, ?_, ?_⟩⟩, ⟨rfl, rfl, rfl, by simp, fun k hk _ => heap_alloc_old w.drew _ hk⟩, by simp⟩
      · have hzc : (Value.cells (.int .u8 0)).size = 1 := rfl
        simp only [Array.size_append, List.size_toArray, List.length_append, size_zeroCells, hzc, hl, hx]
        omega
      · rw [Array.toList_append, Nat.mul_one, ← byteCells_cellB]
        have e : n + s.size = (xs ++ byteCells s).length := by rw [List.length_append, hl, hx]
        rw [e]
        exact List.take_left
theorem wpList_append_str {w : World} {ops : Array Oper} {rest : List Oper} {o : Oper} {a : Act} {Q : Exit → Act → World → Prop} (hgd : o.guard = none) (p x : Operand)
    (ho : o.op = .call { callee := .builtin .append, args := #[p, x], argTypes := #[22, 9] }) (base : Nat) (v : Value) (n : Nat) (xs : List Value) (s : ByteArray) (hs : a.eval p = v) (hx : a.eval x = .string s) (hown : w.ownsRow base 5 1 v n xs) (h63 : n + s.size ≤ 1000000000000) (hbase : base ≤ w.heap.size) (hn : v ≠ .slice none 0 0)
    (h : ∀ v' w', w'.ownsRow base 5 1 v' (n + s.size) (xs ++ s.data.toList.map cellB) → w.grownBy w' v.ownBlock → v' ≠ .slice none 0 0 → wpList Tryz.prog ops Q rest (a.put o.dst v') w') : wpList Tryz.prog ops Q (o :: rest) a w :=
  wpList_plain hgd fun _ hK => by
    obtain ⟨v', w', hr, h2, h3, h4⟩ := run_append_str base o.type v n xs s hown h63 hbase hn
    unfold Oper.wp execOp
    simp only [ho, resolve, invoke, builtin, Sem.run_bind, Sem.run_pure, Result.andThen_ok, List.map_toArray, List.map_cons, List.map_nil, hs, hx, hr]
    exact hK _ _ (h v' w' h2 h3 h4)
end Go.Proofs.YtfgkpjjjjnollaaGreatDoor
