/-
  Contracts of VarText: the specification's l01In, l01Var, VarText and the program's VarText answer the bytes of the number ('vt').
-/
import Derived.Test.YthingngbpkbmbaaDoorChecked
import Derived.Test.YthingngbpkbmbaaDoorPlain
import Derived.WalkKit
import Derived.WalkSpells
import Derived.WalkLawsBesides
import Derived.Handy
import Derived.Laws.IdiomStrings
namespace Go.Proofs.YthingngbpkbmbaaDoor
open Go.RowKit

theorem info5 : (Tryd.prog.info? 5).map (fun i => (i.zero, i.size, i.bytes)) = some (some (.int .u8 0), 1, 1) := by kernel_rfl

/-- A row of bytes that the call owns, turned into a string. -/
theorem conv_own {w : World} {base : Nat} {v : Value} {l : List UInt8} {n : Nat} (h : w.ownsRow base 5 1 v n (l.map cellB)) :
    (convert 22 9 v).run Tryd.prog w = .ok (.string ⟨l.toArray⟩) w := by
  have hn : l.length = n := by have := h.1; simpa using this
  rcases h.2 with ⟨rfl, h0⟩ | ⟨g, cap, cur, rfl, hb, hg, hnc, hcm, hcs, ht⟩
  · have : l = [] := List.length_eq_zero_iff.1 (by omega)
    subst this
    rw [run_convert_bytes_string w 22 9 5 _ 0 0 Tryd.underlying22 Tryd.underlying5 Tryd.underlying9]
    simp [Conv.bytesToString]
    rfl
  · subst hn
    refine run_convert_bytes_back w 22 9 5 ⟨g, 0, none⟩ cap l Tryd.underlying22 Tryd.underlying5 Tryd.underlying9 (fun j hj => ?_)
    have := h.cells (g := g) rfl j (cellB l[j]) (by simp [hj])
    exact this

/-- One byte more in an owned row, and one round more of the bytes. -/
theorem vt_grow {pre : List UInt8} {m n : Nat} (h : pre ++ vt m = vt n) (hm : 127 < m) : (pre ++ [UInt8.ofNat (m % 128 + 128)]) ++ vt (m / 128) = vt n := by
  rw [← h, vt_big hm]; simp
theorem vt_end {pre : List UInt8} {m n : Nat} (h : pre ++ vt m = vt n) (hm : ¬ 127 < m) : pre ++ [UInt8.ofNat m] = vt n := by
  rw [← h, vt_small hm]
theorem cellB_of {m : Nat} (h : m < 256) : cellB (UInt8.ofNat m) = .int .u8 (m : Int) := by unfold cellB; rw [u8_ofNat h]
theorem cellB_hi (m : Nat) : cellB (UInt8.ofNat (m % 128 + 128)) = .int .u8 ((m : Int) % 128 + 128) := by rw [cellB_of (by omega)]; simp
theorem pre_le {pre : List UInt8} {m n : Nat} (h : pre ++ vt m = vt n) : pre.length ≤ n + 1 := by
  have h1 := vt_len n; rw [← h] at h1; simp at h1; omega
theorem one_new (w : World) (v : Value) (t : TypeId) : ∀ j u, [v][j]? = some u → (w.alloc (.cells #[v] t)).cell? ((⟨w.heap.size, 0, none⟩ : Addr).add j) = some u := by
  intro j u hj
  match j, hj with
  | 0, hj => simp at hj; subst hj; simp [Addr.add]

/-- What VarText answers. -/
def vtR (n : Int) : List UInt8 × Bool := if 0 ≤ n ∧ n ≤ 1000000000 then (vt n.toNat, true) else ([], false)
theorem vtR_in {m : Nat} (h : m ≤ 1000000000) : vtR (m : Int) = (vt m, true) := by unfold vtR; rw [if_pos (by omega), Int.toNat_natCast]
theorem vtR_out {n : Int} (h : n < 0 ∨ 1000000000 < n) : vtR n = ([], false) := by unfold vtR; rw [if_neg (by omega)]

set_option maxHeartbeats 800000 in
theorem implVarText_any (n : Int) (w : World) : Calls Tryd.prog 6 #[.int .i64 n] w fun e w' => e = .returned (.tuple #[.string ⟨(vtR n).1.toArray⟩, .bool (vtR n).2]) ∧ Below w.heap.size w w' := by
  by_cases h : n < 0 ∨ 1000000000 < n
  · rw [vtR_out h]
    rcases h with h | h
    · go_enter Tryd.func6, Tryd.ntmps6
      go_wp2
      go_ret2
      exact ⟨rfl, Below.refl _ _⟩
    · go_enter Tryd.func6, Tryd.ntmps6
      go_wp2
      go_ret2
      exact ⟨rfl, Below.refl _ _⟩
  · obtain ⟨n, rfl⟩ := Int.eq_ofNat_of_zero_le (show 0 ≤ n by omega)
    have hn : n ≤ 1000000000 := by omega
    rw [vtR_in hn]
    clear h
    obtain ⟨i0, hi, hz0, hz1, hz2⟩ := info_parts info5
    have hmk : ∀ w, (Instr.makeSlice 22 (.int .i64 0) (.int .i64 5)).run Tryd.prog w = .ok (.slice (some ⟨w.heap.size, 0, none⟩) 0 5) (w.alloc (.cells #[.int .u8 0, .int .u8 0, .int .u8 0, .int .u8 0, .int .u8 0] 5)) := fun _ => by kernel_rfl
    go_enter Tryd.func6, Tryd.ntmps6
    go_wp2
    go_loopw [4, 0] (fun v i wr => ∃ (m : Nat) (pre : List UInt8), m ≤ n ∧ i = .int .i64 m ∧ wr.ownsRow w.heap.size 5 1 v pre.length (pre.map cellB) ∧ pre ++ vt m = vt n ∧ Below w.heap.size w wr) (fun _ i _ => (intOf i).toNat)
    case atStart => exact ⟨n, [], Nat.le_refl _, rfl, World.ownsRow_made w _ 5 (Nat.le_refl _) (by decide) rfl, by simp, (Below.refl _ _).alloc (Nat.le_refl _) _⟩
    case round =>
      obtain ⟨m, pre, hm, rfl, hown, hpre, hbel⟩ := hrel
      have hl := pre_le hpre
      have hsz := hbel.size
      have HP : Hid (pre ++ vt m = vt n) := hpre
      clear hpre
      by_cases hlt : 127 < m
      · go_wp2_with (at_builtin; refine wpList_append_own _ rfl _ _ 22 rfl w.heap.size 5 i0 (.int .u8 0) 1 1 Tryd.underlying22 hi hz0 hz1 hz2 rfl (by decide) _ _ _ rfl (hown.alloc _) ⟨wr.heap.size, 0, none⟩ 1 1 [.int .u8 ((m : Int) % 128 + 128)] rfl rfl ?c1 ?c2 ?c3 ?c4 ?c5 ?_)
        case c1 => exact one_new _ _ _
        case c2 => intro u hu; simp at hu; subst hu; rfl
        case c3 => unfold maxLen; omega
        case c4 => omega
        case c5 => simp; omega
        intro v' w1 hown' hgrow _
        have hb1 : Below w.heap.size w w1 := (hbel.alloc hsz _).grown hgrow (by simp; omega) (fun k hk => (hown.lt k hk).1)
        have ho1 : w1.ownsRow w.heap.size 5 1 v' (pre ++ [UInt8.ofNat (m % 128 + 128)]).length ((pre ++ [UInt8.ofNat (m % 128 + 128)]).map cellB) := by
          rw [List.map_append, List.length_append]
          simp only [List.map_cons, List.map_nil, cellB_hi]
          exact hown'
        clear hown' hgrow hown
        go_wp2
        go_roundw
        case rel => exact ⟨m / 128, _, by omega, by go_num, ho1, vt_grow HP.out hlt, hb1⟩
        case measure => simp [intOf]; omega
      · go_wp2_with (at_builtin; refine wpList_append_own _ rfl _ _ 22 rfl w.heap.size 5 i0 (.int .u8 0) 1 1 Tryd.underlying22 hi hz0 hz1 hz2 rfl (by decide) _ _ _ rfl (hown.alloc _) ⟨wr.heap.size, 0, none⟩ 1 1 [.int .u8 (m : Int)] rfl rfl ?d1 ?d2 ?d3 ?d4 ?d5 ?_)
        case d1 => exact one_new _ _ _
        case d2 => intro u hu; simp at hu; subst hu; rfl
        case d3 => unfold maxLen; omega
        case d4 => omega
        case d5 => simp; omega
        intro v' w1 hown' hgrow _
        have hb1 : Below w.heap.size w w1 := (hbel.alloc hsz _).grown hgrow (by simp; omega) (fun k hk => (hown.lt k hk).1)
        have ho1 : w1.ownsRow w.heap.size 5 1 v' (pre ++ [UInt8.ofNat m]).length ((pre ++ [UInt8.ofNat m]).map cellB) := by
          rw [List.map_append, List.length_append]
          simp only [List.map_cons, List.map_nil, cellB_of (show m < 256 by omega)]
          exact hown'
        have hcv := conv_own ho1
        rw [vt_end HP.out hlt] at hcv
        clear hown' hgrow hown
        go_wp2
        go_ret2
        exact ⟨rfl, hb1⟩
end Go.Proofs.YthingngbpkbmbaaDoor
