/-
  Contracts of VarText: the specification's l01In, l01Var, VarText and the program's VarText answer the bytes of the number ('vt').
-/
import Derived.Test.YtllmgjfffkhocaaChecked
import Derived.Test.YtllmgjfffkhocaaPlain
import Derived.WalkKit
import Derived.WalkSpells
import Derived.WalkLawsBesides
import Derived.Handy
import Derived.Laws.IdiomStrings
namespace Go.Proofs.Ytllmgjfffkhocaa
open Go.RowKit

theorem info5 : (Try.prog.info? 5).map (fun i => (i.zero, i.size, i.bytes)) = some (some (.int .u8 0), 1, 1) := by kernel_rfl

/-- A row of bytes that the call owns, turned into a string. -/
theorem conv_own {w : World} {base : Nat} {v : Value} {l : List UInt8} {n : Nat} (h : w.ownsRow base 5 1 v n (l.map cellB)) :
    (convert 135 9 v).run Try.prog w = .ok (.string ⟨l.toArray⟩) w := by
  have hn : l.length = n := by have := h.1; simpa using this
  rcases h.2 with ⟨rfl, h0⟩ | ⟨g, cap, cur, rfl, hb, hg, hnc, hcm, hcs, ht⟩
  · have : l = [] := List.length_eq_zero_iff.1 (by omega)
    subst this
    rw [run_convert_bytes_string w 135 9 5 _ 0 0 Try.underlying135 Try.underlying5 Try.underlying9]
    simp [Conv.bytesToString]
    rfl
  · subst hn
    refine run_convert_bytes_back w 135 9 5 ⟨g, 0, none⟩ cap l Try.underlying135 Try.underlying5 Try.underlying9 (fun j hj => ?_)
    have := h.cells (g := g) rfl j (cellB l[j]) (by simp [hj])
    exact this

theorem in_yes (x a b : Int) (w : World) (h1 : a ≤ x) (h2 : x ≤ b) : Calls Try.prog 37 #[.int .i64 x, .int .i64 a, .int .i64 b] w fun e w' => e = .returned (.bool true) ∧ w = w' := by
  go_enter Try.func37, Try.ntmps37
  go_wp2
  go_ret
  exact ⟨by simp, rfl⟩
theorem in_no (x a b : Int) (w : World) (h : x < a ∨ b < x) : Calls Try.prog 37 #[.int .i64 x, .int .i64 a, .int .i64 b] w fun e w' => e = .returned (.bool false) ∧ w = w' := by
  rcases h with h1 | h2
  · go_enter Try.func37, Try.ntmps37
    go_wp2
    go_ret
    exact ⟨by simp, rfl⟩
  · by_cases h1 : a ≤ x
    · go_enter Try.func37, Try.ntmps37
      go_wp2
      go_ret
      exact ⟨by simp; omega, rfl⟩
    · go_enter Try.func37, Try.ntmps37
      go_wp2
      go_ret
      exact ⟨by simp, rfl⟩

/-- One byte more in an owned row, and one round more of the bytes. -/
theorem vt_grow {pre : List UInt8} {m n : Nat} (h : pre ++ vt m = vt n) (hm : 127 < m) : (pre ++ [UInt8.ofNat (m % 128 + 128)]) ++ vt (m / 128) = vt n := by
  rw [← h, vt_big hm]; simp
theorem vt_end {pre : List UInt8} {m n : Nat} (h : pre ++ vt m = vt n) (hm : ¬ 127 < m) : pre ++ [UInt8.ofNat m] = vt n := by
  rw [← h, vt_small hm]
theorem cellB_of {m : Nat} (h : m < 256) : cellB (UInt8.ofNat m) = .int .u8 (m : Int) := by unfold cellB; rw [u8_ofNat h]
theorem cellB_hi (m : Nat) : cellB (UInt8.ofNat (m % 128 + 128)) = .int .u8 ((m : Int) % 128 + 128) := by rw [cellB_of (by omega)]; simp
theorem pre_le {pre : List UInt8} {m n : Nat} (h : pre ++ vt m = vt n) : pre.length ≤ n + 1 := by
  have h1 := vt_len n; rw [← h] at h1; simp at h1; omega
theorem one_new (w : World) (v : Value) (t : TypeId) : ∀ j u, [v][j]? = some u → (w.alloc (.cells #[v] t)).cell? ((⟨w.heap.size, 0, none⟩ : Addr).add j) = some u := by
  intro j u hj
  match j, hj with
  | 0, hj => simp at hj; subst hj; simp [Addr.add]

/-- What VarText answers. -/
def vtR (n : Int) : List UInt8 × Bool := if 0 ≤ n ∧ n ≤ 1000000000 then (vt n.toNat, true) else ([], false)
theorem vtR_in {m : Nat} (h : m ≤ 1000000000) : vtR (m : Int) = (vt m, true) := by unfold vtR; rw [if_pos (by omega), Int.toNat_natCast]
theorem vtR_out {n : Int} (h : n < 0 ∨ 1000000000 < n) : vtR n = ([], false) := by unfold vtR; rw [if_neg (by omega)]

end Go.Proofs.Ytllmgjfffkhocaa
