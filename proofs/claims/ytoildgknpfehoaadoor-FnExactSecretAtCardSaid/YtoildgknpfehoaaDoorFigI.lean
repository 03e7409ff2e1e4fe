/-
  The program's figureValues, to base 10 or 16: the row of what the figures are worth ('fvals'), or nothing.
-/
import Derived.Test.YtoildgknpfehoaaDoorFigP
import Derived.Test.YtoildgknpfehoaaDoorHexI
import Derived.Deep.LoopGhost
namespace Go.Proofs.YtoildgknpfehoaaDoor
open Go.RowKit

theorem idx_fig_i (x : Nat) (h1 : x < 16) (w : World) : (Instr.index 9 (.string ⟨#[48, 49, 50, 51, 52, 53, 54, 55, 56, 57, 97, 98, 99, 100, 101, 102]⟩) (.int .i64 x)).run Tryd.prog w = .ok (.int .u8 ((fig x).toNat : Int)) w := by
  have h : x = 0 ∨ x = 1 ∨ x = 2 ∨ x = 3 ∨ x = 4 ∨ x = 5 ∨ x = 6 ∨ x = 7 ∨ x = 8 ∨ x = 9 ∨ x = 10 ∨ x = 11 ∨ x = 12 ∨ x = 13 ∨ x = 14 ∨ x = 15 := by omega
  rcases h with h | h | h | h | h | h | h | h | h | h | h | h | h | h | h | h <;> (subst h; show _ = _; kernel_rfl)

theorem cells_over1 {s : ByteArray} {wr w2 : World} {b : Nat} {v : Value} {o : Obj} (hb : b < wr.heap.size) (h : ∀ j (hj : j < s.size), wr.cell? ⟨b, j, none⟩ = some (.int .u8 ((s[j]'hj).toNat : Int))) (hv : v.ownBlock ≠ some b)
    (hg : (wr.alloc o).grownBy w2 v.ownBlock) : ∀ j (hj : j < s.size), w2.cell? ⟨b, j, none⟩ = some (.int .u8 ((s[j]'hj).toNat : Int)) := fun j hj => by
  refine hg.cell ?_ (fun e => hv e.symm)
  exact (((Below.refl wr.heap.size wr).alloc (Nat.le_refl _) o).cell (p := ⟨b, j, none⟩) hb).trans (h j hj)

set_option maxHeartbeats 1600000 in
set_option maxRecDepth 100000 in
theorem figureValues_any (s : ByteArray) (base : Nat) (w : World) (hs : s.size ≤ 1000000000000) (hbase : base ≤ 16) : Calls Tryd.prog 46 #[.string s, .int .i64 base] w fun e w' =>
    ∃ v, e = .returned (.tuple #[v, .bool (fvals base s.data.toList).isSome]) ∧ Below w.heap.size w w' ∧ (∀ vs, fvals base s.data.toList = some vs → w'.ownsRow w.heap.size 5 1 v s.size (vs.map cellN)) := by
  obtain ⟨i0, hi, hz0, hz1, hz2⟩ := info_parts info5
  have hcv := fun w => run_bytes_of_string (P := Tryd.prog) w 9 46 5 s Tryd.underlying9 Tryd.underlying46 Tryd.underlying5
  go_enter Tryd.func46, Tryd.ntmps46
  go_wp2
  go_step3
  go_wp2_with (at_make; refine wpList_make_own _ rfl _ _ 46 rfl w.heap.size 5 i0 (.int .u8 0) 1 Tryd.underlying46 hi hz0 hz1 .i64 .i64 _ s.size rfl rfl ?m1 ?m2 ?m3 ?m4 ?_)
  case m1 => omega
  case m2 => rw [hz2]; omega
  case m3 => unfold maxLen; omega
  case m4 => omega
  intro w1 hown1 hgrow1
  have hb1 : Below w.heap.size w w1 := (Below.refl _ _).grown hgrow1 (Nat.le_refl _) (fun k hk => by cases hk)
  clear hgrow1
  go_wp2
  go_step3
  go_wp2
  generalize hC : grownCap w1 s.size 0 5 = C
  have HC : Hid (grownCap w1 s.size 0 5 = C) := hC
  have HCell : Hid (∀ j (hj : j < s.size), ((w1.alloc (.cells (bytesRow s C) 5 ((bytesRow s C).size, (bytesRow s C).size + 1))).drew).cell? ⟨w1.heap.size, j, none⟩ = some (.int .u8 ((s[j]'hj).toNat : Int))) := fun j hj => by
    show (w1.alloc (.cells (bytesRow s C) 5 ((bytesRow s C).size, (bytesRow s C).size + 1))).cell? ⟨w1.heap.size, j, none⟩ = _
    rw [World.cell?_alloc_mark, bytesRow_at s C j hj]; rfl
  clear hC
  have hs1 := hb1.size
  go_loopg [6, 16] s.size (fun g v i wr => ∃ (k : Nat) (vs : List Nat), k + g = s.size ∧ i = .int .i64 k ∧ Hid (fvals base (s.data.toList.take k) = some vs) ∧ wr.ownsRow w.heap.size 5 1 v k (vs.map cellN) ∧ Below w.heap.size w wr ∧ w1.heap.size < wr.heap.size ∧ Hid (∀ j (hj : j < s.size), wr.cell? ⟨w1.heap.size, j, none⟩ = some (.int .u8 ((s[j]'hj).toNat : Int))) ∧ Hid (v.ownBlock ≠ some w1.heap.size))
  case atStart =>
    refine ⟨0, [], by omega, rfl, rfl, (hown1.alloc _).drew, (hb1.alloc hs1 _).drew, ?_, HCell, ?_⟩
    · rw [size_alloc_drew]; omega
    · intro e
      have e2 : w.heap.size = w1.heap.size := by simpa [Value.ownBlock] using e
      have := hown1.lt w.heap.size rfl
      omega
  case round =>
    obtain ⟨k, vs, hkg, rfl, HV, hown, hbel, hwl, HJ, HG⟩ := hrel
    have hsz := hbel.size
    clear hown1 hb1 HCell hcv
    cases gk with
    | zero =>
      have hkz : ¬ ((k : Int) < (s.size : Int)) := by omega
      have HF : Hid (fvals base s.data.toList = some vs) := by have := HV.out; rwa [take_all s k (by omega)] at this
      have hks : k = s.size := by omega
      subst hks
      go_wp2
      try rw [Exit.noGoto_ret]
      go_ret2
      exact ⟨_, by rw [HF.out]; rfl, hbel, fun us hu => by rw [HF.out] at hu; cases hu; exact hown⟩
    | succ g =>
      have hlt : k < s.size := by omega
      have hki : (k : Int) < (s.size : Int) := by omega
      have hck := HJ.out k hlt
      have hc := s[k].toNat_lt
      go_wp2
      go_loopg [6, 21] base (fun g2 v m wy => ∃ mm : Nat, mm + g2 = base ∧ m = .int .i64 mm ∧ Hid (∀ x, x < mm → fig x ≠ s[k]) ∧ wy.ownsRow w.heap.size 5 1 v k (vs.map cellN) ∧ Hid (v.ownBlock ≠ some w1.heap.size) ∧ wr = wy)
      case atStart => exact ⟨0, by omega, rfl, fun x hx => by omega, hown, HG, rfl⟩
      case round =>
        obtain ⟨m, hmg, rfl, HX, hown2, HG2, rfl⟩ := hrel
        clear hown HG
        cases gk with
        | zero =>
          have hmz : ¬ ((m : Int) < (base : Int)) := by omega
          have HF : Hid (fvals base s.data.toList = none) := fvals_none (b := s[k]) (byte_mem s k hlt) (fval_miss (fun x hx => HX.out x (by omega)))
          go_wp2
          try rw [Exit.noGoto_ret]
          go_ret2
          exact ⟨_, by rw [HF.out]; rfl, hbel, fun us hu => by rw [HF.out] at hu; cases hu⟩
        | succ g2 =>
          have hmz : (m : Int) < (base : Int) := by omega
          have hm16 : m < 16 := by omega
          have hix := idx_fig_i m (by omega)
          by_cases hf : fig m = s[k]
          · have hq : (((fig m).toNat : Int) == (s[k].toNat : Int)) = true := by simp [hf]
            have HV2 : Hid (fvals base (s.data.toList.take (k + 1)) = some (vs ++ [m])) := by
              have e := fvals_snoc HV.out (fval_hit (base := base) (by omega) hf HX.out)
              rw [← take_snoc s k hlt] at e
              exact e
            go_wp2_with (at_builtin; refine wpList_append_lies _ rfl _ _ 46 rfl w.heap.size 5 i0 (.int .u8 0) 1 1 Tryd.underlying46 hi hz0 hz1 hz2 rfl (by decide) _ _ _ rfl (hown2.alloc _) ⟨wr.heap.size, 0, none⟩ 1 1 [.int .u8 (m : Int)] rfl rfl ?d1 ?d2 ?d3 ?d4 ?d5 ?d6 (wr.heap.size + 1) ?d7 ?_)
            case d1 => exact one_new _ _ _
            case d2 => intro u hu; simp at hu; subst hu; rfl
            case d3 => exact Nat.one_pos
            case d4 => unfold maxLen; omega
            case d5 => omega
            case d6 => simp; omega
            case d7 => simp
            intro gg cap w2 hown3 hgrow hat _
            have ho3 : w2.ownsRow w.heap.size 5 1 (.slice (some ⟨gg, 0, none⟩) (k + 1) cap) (k + 1) ((vs ++ [m]).map cellN) := by rw [List.map_append]; exact hown3
            have hb3 : Below w.heap.size w w2 := (hbel.alloc hsz _).grown hgrow (by simp; omega) (fun j hj => (hown2.lt j hj).1)
            have hj3 : Hid (∀ j (hj : j < s.size), w2.cell? ⟨w1.heap.size, j, none⟩ = some (.int .u8 ((s[j]'hj).toNat : Int))) := cells_over1 hwl HJ.out HG2.out hgrow
            have hg3 : Hid ((Value.slice (some ⟨gg, 0, none⟩) (k + 1) cap).ownBlock ≠ some w1.heap.size) := block_over hwl HG2.out hat
            have hl3 : w1.heap.size < w2.heap.size := by have := hgrow.size; simp at this; omega
            clear hown3 hgrow hat HJ HG2 hown2 hix hck
            go_wp2
            go_roundg g
            case measure => omega
            case rel => exact ⟨k + 1, vs ++ [m], by omega, by first | rfl | go_num, HV2, ho3, hb3, hl3, hj3, hg3⟩
          · have hq : (((fig m).toNat : Int) == (s[k].toNat : Int)) = false := by
              simp only [beq_eq_false_iff_ne, ne_eq]
              intro e
              exact hf (u8_eq (by omega))
            go_wp2
            go_roundg g2
            case measure => omega
            case rel =>
              refine ⟨m + 1, by omega, by first | rfl | go_num, fun x hx => ?_, hown2, HG2, rfl⟩
              by_cases e : x = m
              · subst e; exact hf
              · exact HX.out x (by omega)
end Go.Proofs.YtoildgknpfehoaaDoor
