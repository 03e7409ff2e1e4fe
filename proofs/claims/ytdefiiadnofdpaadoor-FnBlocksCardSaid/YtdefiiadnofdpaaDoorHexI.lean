/-
  The program's Hex answers two figures a byte ('hexL').
-/
import Derived.Test.YtdefiiadnofdpaaDoorHexP
namespace Go.Proofs.YtdefiiadnofdpaaDoor
open Go.RowKit

/-- The program's row of figures, asked at a number below 16. -/
theorem idx_fig (x : Int) (h0 : 0 ≤ x) (h1 : x < 16) (w : World) : (Instr.index 9 (.string ⟨#[48, 49, 50, 51, 52, 53, 54, 55, 56, 57, 97, 98, 99, 100, 101, 102]⟩) (.int .u8 x)).run Tryd.prog w = .ok (.int .u8 ((fig x.toNat).toNat : Int)) w := by
  have h : x = 0 ∨ x = 1 ∨ x = 2 ∨ x = 3 ∨ x = 4 ∨ x = 5 ∨ x = 6 ∨ x = 7 ∨ x = 8 ∨ x = 9 ∨ x = 10 ∨ x = 11 ∨ x = 12 ∨ x = 13 ∨ x = 14 ∨ x = 15 := by omega
  rcases h with h | h | h | h | h | h | h | h | h | h | h | h | h | h | h | h <;> (subst h; show _ = _; kernel_rfl)

set_option maxHeartbeats 800000 in
set_option maxRecDepth 100000 in
theorem implHex_any (s : ByteArray) (w : World) (hs : s.size ≤ 1000000000000) : Calls Tryd.prog 43 #[.string s] w fun e w' => e = .returned (.tuple #[.string ⟨(hxR s).1.toArray⟩, .bool (hxR s).2]) ∧ Below w.heap.size w w' := by
  by_cases h : 20000 < s.size
  · rw [hxR_no h]
    go_enter Tryd.func43, Tryd.ntmps43
    go_wp2
    go_ret2
    exact ⟨rfl, Below.refl _ _⟩
  · rw [hxR_yes h]
    obtain ⟨i0, hi, hz0, hz1, hz2⟩ := info_parts info5
    have hcv := fun w => run_bytes_of_string (P := Tryd.prog) w 9 22 5 s Tryd.underlying9 Tryd.underlying22 Tryd.underlying5
    go_enter Tryd.func43, Tryd.ntmps43
    go_wp2_with (at_make; refine wpList_make_own _ rfl _ _ 22 rfl w.heap.size 5 i0 (.int .u8 0) 1 Tryd.underlying22 hi hz0 hz1 .i64 .i64 _ (2 * s.size) rfl rfl ?m1 ?m2 ?m3 ?m4 ?_)
    case m1 => omega
    case m2 => rw [hz2]; omega
    case m3 => unfold maxLen; omega
    case m4 => omega
    intro w1 hown1 hgrow1
    have hb1 : Below w.heap.size w w1 := (Below.refl _ _).grown hgrow1 (Nat.le_refl _) (fun k hk => by cases hk)
    clear hgrow1
    go_wp2
    generalize hC : grownCap w1 s.size 0 5 = C
    have hcap : s.size ≤ C := by rw [← hC]; exact grownCap_ge _ _ _ _
    have HC : Hid (grownCap w1 s.size 0 5 = C) := hC
    clear hC
    have hcell : ∀ j (hj : j < s.size), (w1.alloc (.cells (bytesRow s C) 5 ((bytesRow s C).size, (bytesRow s C).size + 1))).cell? ⟨w1.heap.size, j, none⟩ = some (.int .u8 ((s[j]'hj).toNat : Int)) := fun j hj => by
      rw [World.cell?_alloc_mark, bytesRow_at s C j hj]; rfl
    have HCell := (id hcell : Hid _)
    clear hcell
    have hs1 := hb1.size
    go_loopw [4, 17] (fun v i wr => ∃ k : Nat, k ≤ s.size ∧ i = .int .i64 k ∧ wr.ownsRow w.heap.size 5 1 v (2 * k) ((hexL (s.data.toList.take k)).map cellB) ∧ Below w.heap.size w wr ∧ w1.heap.size < wr.heap.size ∧ Hid (∀ j (hj : j < s.size), wr.cell? ⟨w1.heap.size, j, none⟩ = some (.int .u8 ((s[j]'hj).toNat : Int))) ∧ Hid (v.ownBlock ≠ some w1.heap.size)) (fun _ i _ => s.size - (intOf i).toNat)
    case atStart =>
      refine ⟨0, Nat.zero_le _, rfl, (hown1.alloc _).drew, (hb1.alloc hs1 _).drew, ?_, HCell, ?_⟩
      · rw [size_alloc_drew]; omega
      · intro e
        have e2 : w.heap.size = w1.heap.size := by simpa [Value.ownBlock] using e
        have := hown1.lt w.heap.size rfl
        omega
    case round =>
      obtain ⟨k, hk, rfl, hown, hbel, hwl, HJ, HG⟩ := hrel
      have hsz := hbel.size
      by_cases hlt : k < s.size
      · have hc := s[k].toNat_lt
        have hki : (k : Int) < (s.size : Int) := by omega
        have hk0 : (0 : Int) ≤ (k : Int) := by omega
        have hck := HJ.out k hlt
        have q1 : 2 * k ≤ 1000000000000 := by omega
        have hw2 : IntKind.u8.wrap ((s[k].toNat : Int) / 16) = (s[k].toNat : Int) / 16 := IntWalk.u8_in _ (by omega)
        have hw3 : (s[k].toNat : Int).tmod 16 = (s[k].toNat : Int) % 16 := Int.tmod_eq_emod_of_nonneg (by omega)
        have hi1 := idx_fig ((s[k].toNat : Int) / 16) (by omega) (by omega)
        have hi2 := idx_fig ((s[k].toNat : Int) % 16) (by omega) (by omega)
        go_wp2_with fail
        go_region_held3 (fun _ => True) (exact trivial) ((refine step_app2 _ _ (by rfl) _ _ (by rfl) hown hbel (by rfl) (by rfl) q1 ?_; intro g cap w2 hown1 hb1 hgrow hat))
        all_goals
          have ho1 := hex_round hlt hown1
          have hj2 : Hid (∀ j (hj : j < s.size), w2.cell? ⟨w1.heap.size, j, none⟩ = some (.int .u8 ((s[j]'hj).toNat : Int))) := cells_over hwl HJ.out HG.out hgrow
          have hg2 : Hid ((Value.slice (some ⟨g, 0, none⟩) (2 * k + 2) cap).ownBlock ≠ some w1.heap.size) := block_over hwl HG.out hat
          have hl2 : w1.heap.size < w2.heap.size := by have := hgrow.size; rw [size_alloc_drew] at this; omega
          clear hown1 hown hgrow hat HJ HG hi1 hi2
          go_wp2
          go_roundw
          case rel => exact ⟨k + 1, by omega, by go_num, ho1, hb1, hl2, hj2, hg2⟩
          case measure => simp [intOf]; omega
      · have hcv2 := conv_own hown
        rw [take_all s k hlt] at hcv2
        clear HJ HG
        go_wp2
        go_ret2
        exact ⟨rfl, hbel⟩
end Go.Proofs.YtdefiiadnofdpaaDoor
