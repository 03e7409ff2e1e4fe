/-
  Texts of the proof, one behind the other: SpD, AppI.
-/
import Derived.Laws.AppendOwnNone
import Derived.Test.YtoildgknpfehoaaGreatDoorM12

/-
  The specification's l04Guess: a figure, whatever it is worth.
-/
namespace Go.Proofs.YtoildgknpfehoaaGreatDoor
open Go.RowKit

set_option maxHeartbeats 1600000 in
set_option maxRecDepth 100000 in
theorem specGuess_any (a b : Value) (la lb : List Int) (w : World) (hl : la.length ≤ lb.length + 1) (hl2 : lb.length ≤ 1000) (hb0 : 0 < lb.length) (hda : Dig la) (hdb : Dig lb) (tb : Top lb) (ha : IntAt w a la) (hb : IntAt w b lb) :
    Calls Tryz.prog 87 #[a, b] w fun e w' => ∃ q : Int, e = .returned (.int .i64 q) ∧ 0 ≤ q ∧ q ≤ 9999 ∧ Below w.heap.size w w' := by
  obtain ⟨ao, ac, rfl, HA0⟩ := ha
  obtain ⟨bo, bc, rfl, HB0⟩ := hb
  have HA : Hid (Dig la ∧ (0 < la.length → ∃ g, ao = some ⟨g, 0, none⟩ ∧ g < w.heap.size ∧ ∀ j (hj : j < la.length), w.cell? ⟨g, j, none⟩ = some (.int .i64 la[j]))) := ⟨hda, HA0⟩
  have HB : Hid (Dig lb ∧ Top lb ∧ (0 < lb.length → ∃ g, bo = some ⟨g, 0, none⟩ ∧ g < w.heap.size ∧ ∀ j (hj : j < lb.length), w.cell? ⟨g, j, none⟩ = some (.int .i64 lb[j]))) := ⟨hdb, tb, HB0⟩
  clear hda hdb HA0 HB0 tb
  by_cases hlt : la.length < lb.length
  · have hlt' : (la.length : Int) < (lb.length : Int) := by omega
    go_enter Tryz.func87, Tryz.ntmps87
    go_wp2
    go_ret
    exact ⟨0, rfl, by omega, by omega, Below.refl _ _⟩
  · have hlt' : ¬ (la.length : Int) < (lb.length : Int) := by omega
    go_enter Tryz.func87, Tryz.ntmps87
    go_wp2
    go_loopw [6, 7] (fun tv iv wr => ∃ t z : Int, tv = .int .i64 t ∧ iv = .int .i64 z ∧ (lb.length : Int) - 2 ≤ z ∧ z ≤ (la.length : Int) - 1 ∧ 0 ≤ t ∧ t < 100000000 ∧ Below w.heap.size w wr ∧ Hid ((z = (la.length : Int) - 1 ∧ t = 0) ∨ (z = (la.length : Int) - 2 ∧ t < 10000) ∨ z = (la.length : Int) - 3)) (fun _ iv _ => (intOf iv + 2).toNat)
    case atStart => exact ⟨0, _, rfl, rfl, by omega, by omega, by omega, by omega, Below.refl _ _, .inl ⟨rfl, rfl⟩⟩
    case round =>
      obtain ⟨t, z, rfl, rfl, hz1, hz2, ht0, ht1, hbel, HD⟩ := hrel
      by_cases hz : (lb.length : Int) - 1 ≤ z
      · have hz0 : 0 ≤ z := by omega
        have hzl : z.toNat < la.length := by omega
        have hzl' : z < (la.length : Int) := by omega
        have ht2 : t < 10000 := by rcases HD.out with h | h | h <;> omega
        obtain ⟨ga, hao, hgl, hcs⟩ := HA.out.2 (by omega)
        have hua : wr.cell? ⟨ga, z.toNat, none⟩ = some (.int .i64 (la.getD z.toNat 0)) := by
          rw [hbel.cell (p := ⟨ga, z.toNat, none⟩) hgl, hcs z.toNat hzl]; simp [List.getD, hzl]
        subst hao
        have hx := HA.out.1.getD z.toNat
        have HN : Hid (∀ x, 0 ≤ x ∧ x ≤ 9999 → ((z - 1 = (la.length : Int) - 1 ∧ t * 10000 + x = 0) ∨ (z - 1 = (la.length : Int) - 2 ∧ t * 10000 + x < 10000) ∨ z - 1 = (la.length : Int) - 3)) := fun x hx => by
          rcases HD.out with h | h | h <;> omega
        clear hcs hgl HD hzl
        generalize la.getD z.toNat 0 = x at *
        go_wp2_with fail
        go_roundw
        case rel => exact ⟨t * 10000 + x, z - 1, rfl, rfl, by omega, by omega, by omega, by omega, hbel, HN.out x hx⟩
        case measure => simp [intOf]; omega
      · have hzz : ¬ (lb.length : Int) - 1 ≤ z := hz
        obtain ⟨gb, hbo, hgl, hcs⟩ := HB.out.2.2 hb0
        have hub : wr.cell? ⟨gb, lb.length - 1, none⟩ = some (.int .i64 (lb.getD (lb.length - 1) 0)) := by
          rw [hbel.cell (p := ⟨gb, lb.length - 1, none⟩) hgl, hcs (lb.length - 1) (by omega)]; simp [List.getD, show lb.length - 1 < lb.length by omega]
        have hy := HB.out.1.getD (lb.length - 1)
        have hy1 : 1 ≤ lb.getD (lb.length - 1) 0 := by have := HB.out.2.1 hb0; omega
        by_cases hone : lb.length = 1
        · have hone' : ¬ (1 : Int) < (lb.length : Int) := by omega
          clear hone
          subst hbo
          clear hcs hgl
          generalize lb.getD (lb.length - 1) 0 = y at *
          have hq0 : 0 ≤ t / y := Int.ediv_nonneg ht0 (by omega)
          have hq1 : t / y ≤ t := Int.ediv_le_self y ht0
          by_cases hq : (9999 : Int) < t / y
          · go_wp2_with fail
            go_ret
            exact ⟨_, rfl, by omega, by omega, hbel⟩
          · go_wp2_with fail
            go_ret
            exact ⟨_, rfl, by omega, by omega, hbel⟩
        · have hone' : (1 : Int) < (lb.length : Int) := by omega
          have hub2 : wr.cell? ⟨gb, lb.length - 2, none⟩ = some (.int .i64 (lb.getD (lb.length - 2) 0)) := by
            rw [hbel.cell (p := ⟨gb, lb.length - 2, none⟩) hgl, hcs (lb.length - 2) (by omega)]; simp [List.getD, show lb.length - 2 < lb.length by omega]
          have hv := HB.out.1.getD (lb.length - 2)
          subst hbo
          clear hcs hgl
          obtain ⟨ga, hao, hgl, hcs⟩ := HA.out.2 (by omega)
          have hua : wr.cell? ⟨ga, lb.length - 2, none⟩ = some (.int .i64 (la.getD (lb.length - 2) 0)) := by
            rw [hbel.cell (p := ⟨ga, lb.length - 2, none⟩) hgl, hcs (lb.length - 2) (by omega)]; simp [List.getD, show lb.length - 2 < la.length by omega]
          have hx := HA.out.1.getD (lb.length - 2)
          subst hao
          clear hcs hgl
          generalize lb.getD (lb.length - 1) 0 = y at *
          generalize lb.getD (lb.length - 2) 0 = v at *
          generalize la.getD (lb.length - 2) 0 = x at *
          have hin : (lb.length : Int) - 2 < (la.length : Int) := by omega
          have hq0 : 0 ≤ (t * 10000 + x) / (y * 10000 + v) := Int.ediv_nonneg (by omega) (by omega)
          have hq1 : (t * 10000 + x) / (y * 10000 + v) ≤ t * 10000 + x := Int.ediv_le_self _ (by omega)
          by_cases hq : (9999 : Int) < (t * 10000 + x) / (y * 10000 + v)
          · go_wp2_with fail
            go_ret
            exact ⟨_, rfl, by omega, by omega, hbel⟩
          · go_wp2_with fail
            go_ret
            exact ⟨_, rfl, by omega, by omega, hbel⟩
end Go.Proofs.YtoildgknpfehoaaGreatDoor

/-
  'append(out, list...)' of a list of numbers that a call owns, nil or not.
-/
namespace Go.Proofs.YtoildgknpfehoaaGreatDoor
open Go.RowKit
theorem wpList_append_list {w : World} {ops : Array Oper} {rest : List Oper} {o : Oper} {a : Act} {Q : Exit → Act → World → Prop} (hgd : o.guard = none) (s x : Operand) (t : TypeId)
    (ho : o.op = .call { callee := .builtin .append, args := #[s, x], argTypes := #[t, t] }) (base : Nat) (i0 : TypeInfo) (ht : Tryz.prog.underlying t = some (.slice 3)) (hi : Tryz.prog.info? 3 = some i0) (hz0 : i0.zero = some (.int .i64 0)) (hz1 : i0.size = 1) (hz2 : i0.bytes = 8)
    (v : Value) (n : Nat) (xs : List Value) (hs : a.eval s = v) (hown : w.ownsRow base 3 1 v n xs) (u : Value) (lu : List Int) (bu : Nat) (hu : OwnI w bu u lu) (hx : a.eval x = u) (hlen : n + lu.length ≤ 1000000) (hbase : base ≤ w.heap.size)
    (h : ∀ v' w', w'.ownsRow base 3 1 v' (n + lu.length) (xs ++ cellsI lu) → w.grownBy w' v.ownBlock → wpList Tryz.prog ops Q rest (a.put o.dst v') w') : wpList Tryz.prog ops Q (o :: rest) a w := by
  rcases hu.2 with ⟨rfl, h0⟩ | ⟨g, cap, cur, rfl, hbg, hg, hn, hm, hsz, htk⟩
  · have hl : lu = [] := List.eq_nil_of_length_eq_zero h0
    subst hl
    refine wpList_append_own_none hgd s x t ho base 3 i0 1 ht hi v n xs hs hown hx (h v w (by simpa [cellsI] using hown) (World.grownBy.refl _ _))
  · refine wpList_append_own w hgd s x t ho base 3 i0 (.int .i64 0) 1 8 ht hi hz0 hz1 hz2 rfl (by decide) v n xs hs hown ⟨g, 0, none⟩ lu.length cap (cellsI lu) hx (by simp [cellsI]) (fun j q hq => ?_) (fun q hq => ?_) (by unfold maxLen; omega) (by omega) hbase (fun v' w' h1 h2 _ => h v' w' h1 h2)
    · have hj : j < lu.length := by
        refine Nat.lt_of_not_le fun h => ?_
        rw [List.getElem?_eq_none (by rw [cellsI_len]; exact h)] at hq
        cases hq
      rw [Addr.add_lit, Nat.zero_add, hu.cell hj, ← hq, cellsI_getD hj]
    · obtain ⟨y, _, rfl⟩ := List.mem_map.1 hq
      rfl
end Go.Proofs.YtoildgknpfehoaaGreatDoor
