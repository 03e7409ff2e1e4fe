/-
  Texts of the proof, one behind the other: Plain, Var, IntS.
-/
import Derived.WalkKit
import Derived.Test.YtnakaeaejfpmkaaGreatDoorChecked
import Derived.WalkSpells
import Derived.WalkLawsBesides
import Derived.Handy
import Derived.Laws.IdiomStrings

/-
  Plain facts alone (no program): the bytes of a number (VarText), what a row of bytes tells, and that both readers refuse just the same longer forms.
-/
namespace Go.Proofs.YtnakaeaejfpmkaaGreatDoor

theorem u8_ofNat {n : Nat} (h : n < 256) : (UInt8.ofNat n).toNat = n := by
  rw [UInt8.toNat_ofNat']
  omega

/-- A byte as a cell. -/
def cellB (b : UInt8) : Value := .int .u8 (b.toNat : Int)

/-- What a row of bytes tells: seven bits a byte, the lowest first. -/
def val : List UInt8 → Nat
  | [] => 0
  | b :: r => b.toNat % 128 + 128 * val r

theorem u8_eq {a b : UInt8} (h : a.toNat = b.toNat) : a = b := UInt8.toNat_inj.1 h

end Go.Proofs.YtnakaeaejfpmkaaGreatDoor

/-
  Contracts of VarText: the specification's l01In, l01Var, VarText and the program's VarText answer the bytes of the number ('vt').
-/
namespace Go.Proofs.YtnakaeaejfpmkaaGreatDoor
open Go.RowKit

theorem info5 : (Tryz.prog.info? 5).map (fun i => (i.zero, i.size, i.bytes)) = some (some (.int .u8 0), 1, 1) := by kernel_rfl

/-- A row of bytes that the call owns, turned into a string. -/
theorem conv_own {w : World} {base : Nat} {v : Value} {l : List UInt8} {n : Nat} (h : w.ownsRow base 5 1 v n (l.map cellB)) :
    (convert 22 9 v).run Tryz.prog w = .ok (.string ⟨l.toArray⟩) w := by
  have hn : l.length = n := by have := h.1; simpa using this
  rcases h.2 with ⟨rfl, h0⟩ | ⟨g, cap, cur, rfl, hb, hg, hnc, hcm, hcs, ht⟩
  · have : l = [] := List.length_eq_zero_iff.1 (by omega)
    subst this
    rw [run_convert_bytes_string w 22 9 5 _ 0 0 Tryz.underlying22 Tryz.underlying5 Tryz.underlying9]
    simp [Conv.bytesToString]
    rfl
  · subst hn
    refine run_convert_bytes_back w 22 9 5 ⟨g, 0, none⟩ cap l Tryz.underlying22 Tryz.underlying5 Tryz.underlying9 (fun j hj => ?_)
    have := h.cells (g := g) rfl j (cellB l[j]) (by simp [hj])
    exact this

theorem in_yes (x a b : Int) (w : World) (h1 : a ≤ x) (h2 : x ≤ b) : Calls Tryz.prog 76 #[.int .i64 x, .int .i64 a, .int .i64 b] w fun e w' => e = .returned (.bool true) ∧ w = w' := by
  go_enter Tryz.func76, Tryz.ntmps76
  go_wp2
  go_ret
  exact ⟨by simp, rfl⟩
theorem in_no (x a b : Int) (w : World) (h : x < a ∨ b < x) : Calls Tryz.prog 76 #[.int .i64 x, .int .i64 a, .int .i64 b] w fun e w' => e = .returned (.bool false) ∧ w = w' := by
  rcases h with h1 | h2
  · go_enter Tryz.func76, Tryz.ntmps76
    go_wp2
    go_ret
    exact ⟨by simp, rfl⟩
  · by_cases h1 : a ≤ x
    · go_enter Tryz.func76, Tryz.ntmps76
      go_wp2
      go_ret
      exact ⟨by simp; omega, rfl⟩
    · go_enter Tryz.func76, Tryz.ntmps76
      go_wp2
      go_ret
      exact ⟨by simp, rfl⟩

theorem cellB_of {m : Nat} (h : m < 256) : cellB (UInt8.ofNat m) = .int .u8 (m : Int) := by unfold cellB; rw [u8_ofNat h]
theorem one_new (w : World) (v : Value) (t : TypeId) : ∀ j u, [v][j]? = some u → (w.alloc (.cells #[v] t)).cell? ((⟨w.heap.size, 0, none⟩ : Addr).add j) = some u := by
  intro j u hj
  match j, hj with
  | 0, hj => simp at hj; subst hj; simp [Addr.add]

end Go.Proofs.YtnakaeaejfpmkaaGreatDoor

/-
  The law's helpers over lists of numbers: eqIntS, markIntS, heldIntS.
-/
namespace Go.Proofs.YtnakaeaejfpmkaaGreatDoor
open Go.RowKit

/-- Numbers as cells. -/
def cellsI (l : List Int) : List Value := l.map fun z => Value.int .i64 z
/-- A list of numbers can be read at a value. -/
def IntAt (w : World) (v : Value) (l : List Int) : Prop := ∃ ao cap, v = .slice ao l.length cap ∧ (0 < l.length → ∃ g, ao = some ⟨g, 0, none⟩ ∧ g < w.heap.size ∧ ∀ j (hj : j < l.length), w.cell? ⟨g, j, none⟩ = some (.int .i64 l[j]))
theorem IntAt.below {w w' : World} {v : Value} {l : List Int} (h : IntAt w v l) (hb : Below w.heap.size w w') : IntAt w' v l := by
  obtain ⟨ao, cap, hv, h⟩ := h
  refine ⟨ao, cap, hv, fun hl => ?_⟩
  obtain ⟨g, hg, hlt, hc⟩ := h hl
  exact ⟨g, hg, Nat.lt_of_lt_of_le hlt hb.size, fun j hj => by rw [hb.cell (p := ⟨g, j, none⟩) hlt]; exact hc j hj⟩
theorem IntAt.of_own {w : World} {base : Nat} {v : Value} {l : List Int} (h : w.ownsRow base 3 1 v l.length (cellsI l)) : IntAt w v l := by
  have hc := fun g (hg : v.ownBlock = some g) => (h.lt g hg).2
  have h' := h
  obtain ⟨h1, h2⟩ := h
  rcases h2 with ⟨rfl, h0⟩ | ⟨g, cap, cur, rfl, hbg, hg, r⟩
  · exact ⟨none, 0, by rw [h0], fun hl => by omega⟩
  · refine ⟨some ⟨g, 0, none⟩, cap, rfl, fun hl => ⟨g, rfl, hc g rfl, fun j hj => ?_⟩⟩
    rw [h'.cellAt j (by omega)]
    simp [cellsI, hj]

set_option maxHeartbeats 800000 in
set_option maxRecDepth 100000 in
theorem eqIntS_same (a b : Value) (l : List Int) (w : World) (hl : l.length ≤ 1000000000) (ha : IntAt w a l) (hb : IntAt w b l) : Calls Tryz.prog 122 #[a, b] w fun e w' => e = .returned (.bool true) ∧ Below w.heap.size w w' := by
  obtain ⟨ao, ac, rfl, ha⟩ := ha
  obtain ⟨bo, bc, rfl, hb⟩ := hb
  have HA : Hid (0 < l.length → ∃ g, ao = some ⟨g, 0, none⟩ ∧ g < w.heap.size ∧ ∀ j (hj : j < l.length), w.cell? ⟨g, j, none⟩ = some (.int .i64 l[j])) := ha
  have HB : Hid (0 < l.length → ∃ g, bo = some ⟨g, 0, none⟩ ∧ g < w.heap.size ∧ ∀ j (hj : j < l.length), w.cell? ⟨g, j, none⟩ = some (.int .i64 l[j])) := hb
  clear ha hb
  go_enter Tryz.func122, Tryz.ntmps122
  go_wp2
  go_loopw [5] (fun iv wr => ∃ k : Nat, k ≤ l.length ∧ iv = .int .i64 k ∧ Below w.heap.size w wr) (fun iv _ => l.length - (intOf iv).toNat)
  case atStart => exact ⟨0, Nat.zero_le _, rfl, Below.refl _ _⟩
  case round =>
    obtain ⟨k, hk, rfl, hbel⟩ := hrel
    by_cases hlt : k < l.length
    · obtain ⟨ga, hao, hga, hca⟩ := HA.out (by omega)
      obtain ⟨gb, hbo, hgb, hcb⟩ := HB.out (by omega)
      have c1 : wr.cell? ⟨ga, k, none⟩ = some (.int .i64 l[k]) := (hbel.cell (p := ⟨ga, k, none⟩) hga).trans (hca k hlt)
      have c2 : wr.cell? ⟨gb, k, none⟩ = some (.int .i64 l[k]) := (hbel.cell (p := ⟨gb, k, none⟩) hgb).trans (hcb k hlt)
      generalize l[k] = x at *
      subst hao hbo
      clear hca hcb
      have hki : (k : Int) < (l.length : Int) := by omega
      have hk0 : (0 : Int) ≤ (k : Int) := by omega
      go_wp2_with fail
      go_region
      go_wp2
      go_roundw
      case rel => exact ⟨k + 1, by omega, by go_num, hbel.drew⟩
      case measure => simp [intOf]; omega
    · go_wp2
      go_ret
      exact ⟨rfl, hbel⟩

def marksI (k n : Nat) : List Int := (List.range n).map fun i : Nat => (k : Int) + (i : Int)
theorem marksI_len (k n : Nat) : (marksI k n).length = n := by simp [marksI]

set_option maxHeartbeats 800000 in
set_option maxRecDepth 100000 in
theorem heldIntS_same (v : Value) (n k : Nat) (w : World) (hn : n ≤ 1000000000) (hk : k ≤ 1000000000) (hv : IntAt w v (marksI k n)) :
    Calls Tryz.prog 126 #[v, .int .i64 k] w fun e w' => e = .returned (.int .i64 ((k : Int) + (n : Int))) ∧ Below w.heap.size w w' := by
  obtain ⟨ao, cap, rfl, hc⟩ := hv
  rw [marksI_len]
  have HC : Hid (0 < n → ∃ g, ao = some ⟨g, 0, none⟩ ∧ g < w.heap.size ∧ ∀ j, j < n → w.cell? ⟨g, j, none⟩ = some (.int .i64 ((k : Int) + (j : Int)))) := fun h => by
    obtain ⟨g, hg, hl, hcs⟩ := hc (by rw [marksI_len]; exact h)
    refine ⟨g, hg, hl, fun j hj => ?_⟩
    rw [hcs j (by rw [marksI_len]; exact hj)]
    simp [marksI]
  clear hc
  go_enter Tryz.func126, Tryz.ntmps126
  go_wp2
  go_loopw [1, 5] (fun kv iv wr => ∃ j : Nat, j ≤ n ∧ kv = .int .i64 ((k : Int) + (j : Int)) ∧ iv = .int .i64 j ∧ Below w.heap.size w wr) (fun _ iv _ => n - (intOf iv).toNat)
  case atStart => exact ⟨0, Nat.zero_le _, by simp, rfl, Below.refl _ _⟩
  case round =>
    obtain ⟨j, hj, rfl, rfl, hbel⟩ := hrel
    have hsz := hbel.size
    by_cases hlt : j < n
    · obtain ⟨g, hao, hgl, hcs⟩ := HC.out (by omega)
      subst hao
      have hu : wr.cell? ⟨g, j, none⟩ = some (.int .i64 ((k : Int) + (j : Int))) := (hbel.cell (p := ⟨g, j, none⟩) hgl).trans (hcs j hlt)
      have hji : (j : Int) < (n : Int) := by omega
      have hj0 : (0 : Int) ≤ (j : Int) := by omega
      clear hcs
      go_wp2_with fail
      try go_region
      go_wp2
      go_roundw
      case rel => first | exact ⟨j + 1, by omega, by go_num, by go_num, hbel⟩ | exact ⟨j + 1, by omega, by go_num, by go_num, hbel.drew⟩
      case measure => simp [intOf]; omega
    · have hjn : j = n := by omega
      subst hjn
      go_wp2
      go_ret
      exact ⟨rfl, hbel⟩
end Go.Proofs.YtnakaeaejfpmkaaGreatDoor
