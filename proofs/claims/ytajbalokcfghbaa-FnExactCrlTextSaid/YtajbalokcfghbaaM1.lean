/-
  Texts of the proof, one behind the other: Plain, Var.
-/
import Derived.WalkKit
import Derived.Test.YtajbalokcfghbaaChecked
import Derived.WalkSpells
import Derived.WalkLawsBesides
import Derived.Handy
import Derived.Laws.IdiomStrings

/-
  Plain facts alone (no program): the bytes of a number (VarText), what a row of bytes tells, and that both readers refuse just the same longer forms.
-/
namespace Go.Proofs.Ytajbalokcfghbaa

/-- The bytes of a number: seven bits a byte, the lowest first, 128 on all but the last. -/
def vt (n : Nat) : List UInt8 := if h : 127 < n then UInt8.ofNat (n % 128 + 128) :: vt (n / 128) else [UInt8.ofNat n]

theorem vt_big {n : Nat} (h : 127 < n) : vt n = UInt8.ofNat (n % 128 + 128) :: vt (n / 128) := by rw [vt, dif_pos h]
theorem vt_small {n : Nat} (h : ¬ 127 < n) : vt n = [UInt8.ofNat n] := by rw [vt, dif_neg h]

theorem vt_len (n : Nat) : (vt n).length ≤ n + 1 := by
  induction n using Nat.strongRecOn with
  | _ n ih =>
    by_cases h : 127 < n
    · rw [vt_big h]
      have := ih (n / 128) (by omega)
      simp only [List.length_cons]
      omega
    · rw [vt_small h]
      simp

theorem u8_ofNat {n : Nat} (h : n < 256) : (UInt8.ofNat n).toNat = n := by
  rw [UInt8.toNat_ofNat']
  omega

/-- A byte as a cell. -/
def cellB (b : UInt8) : Value := .int .u8 (b.toNat : Int)

/-- What a row of bytes tells: seven bits a byte, the lowest first. -/
def val : List UInt8 → Nat
  | [] => 0
  | b :: r => b.toNat % 128 + 128 * val r

theorem val_snoc (l : List UInt8) (b : UInt8) : val (l ++ [b]) = val l + b.toNat % 128 * 128 ^ l.length := by
  induction l with
  | nil => simp [val]
  | cons c r ih =>
    simp only [List.cons_append, val, ih, List.length_cons, Nat.pow_succ, Nat.mul_add]
    have : 128 * (b.toNat % 128 * 128 ^ r.length) = b.toNat % 128 * (128 ^ r.length * 128) := by
      rw [Nat.mul_comm 128, Nat.mul_assoc]
    omega

theorem val_lt (l : List UInt8) : val l < 128 ^ l.length := by
  induction l with
  | nil => simp [val]
  | cons c r ih =>
    simp only [val, List.length_cons, Nat.pow_succ]
    omega

/-- No number above 0 ends in a byte 0. -/
theorem vt_last (n : Nat) (h : 0 < n) : (vt n).getLast? ≠ some 0 := by
  induction n using Nat.strongRecOn with
  | _ n ih =>
    by_cases hb : 127 < n
    · rw [vt_big hb, List.getLast?_cons]
      have := ih (n / 128) (by omega) (by omega)
      cases hv : (vt (n / 128)).getLast? with
      | none =>
        have hne : vt (n / 128) ≠ [] := by rw [vt]; split <;> simp
        simp [List.getLast?_eq_none_iff] at hv
        exact absurd hv hne
      | some x =>
        rw [hv] at this
        simpa using this
    · rw [vt_small hb]
      simp only [List.getLast?_singleton, ne_eq, Option.some.injEq]
      intro e
      have := congrArg UInt8.toNat e
      rw [u8_ofNat (by omega)] at this
      simp at this
      omega

theorem u8_eq {a b : UInt8} (h : a.toNat = b.toNat) : a = b := UInt8.toNat_inj.1 h

/-- Bytes of 128 and more, then one below 128 that is not 0: just the bytes of what they tell. -/
theorem vt_val_of (pre : List UInt8) (b : UInt8) (hp : ∀ x ∈ pre, 128 ≤ x.toNat) (hb : b.toNat < 128) (h0 : b.toNat ≠ 0) : vt (val (pre ++ [b])) = pre ++ [b] ∧ 0 < val (pre ++ [b]) := by
  induction pre with
  | nil =>
    simp only [List.nil_append, val]
    rw [vt_small (by omega)]
    refine ⟨?_, by omega⟩
    congr 1
    apply u8_eq
    rw [u8_ofNat (by omega)]
    omega
  | cons c r ih =>
    obtain ⟨i1, i2⟩ := ih (fun x hx => hp x (by simp [hx]))
    have hc := hp c (by simp)
    have hc2 := c.toNat_lt
    simp only [List.cons_append, val]
    generalize hv : val (r ++ [b]) = V at *
    refine ⟨?_, by omega⟩
    rw [vt_big (by omega)]
    have e1 : (c.toNat % 128 + 128 * V) / 128 = V := by omega
    rw [e1, i1]
    congr 1
    apply u8_eq
    rw [u8_ofNat (by omega)]
    omega

/-- THE LONGER FORMS: bytes of 128 and more, then one below 128: they are the bytes of what they tell, just when the last is not a needless 0. -/
theorem vt_val_iff (pre : List UInt8) (b : UInt8) (hp : ∀ x ∈ pre, 128 ≤ x.toNat) (hb : b.toNat < 128) : vt (val (pre ++ [b])) = pre ++ [b] ↔ ¬ (b.toNat = 0 ∧ pre ≠ []) := by
  by_cases h0 : b.toNat = 0
  · by_cases hn : pre = []
    · subst hn
      have hb0 : b = 0 := u8_eq (by simpa using h0)
      subst hb0
      constructor
      · intro _ h; exact h.2 rfl
      · intro _; simp only [List.nil_append, val]; rw [vt_small (by simp)]; rfl
    · constructor
      · intro e
        exfalso
        have hb0 : b = 0 := u8_eq (by simpa using h0)
        subst hb0
        by_cases hv : val (pre ++ [0]) = 0
        · rw [hv, vt_small (by omega)] at e
          have := congrArg List.length e
          simp at this
          exact hn this
        · have h1 := vt_last _ (Nat.pos_of_ne_zero hv)
          rw [e] at h1
          simp at h1
      · intro h; exact absurd ⟨h0, hn⟩ h
  · exact ⟨fun _ h => h0 h.1, fun _ => (vt_val_of pre b hp hb h0).1⟩

/-- The bytes up to the first below 128, among the next f. -/
def scan : Nat → List UInt8 → Option (List UInt8)
  | 0, _ => none
  | _ + 1, [] => none
  | f + 1, b :: r => if b.toNat < 128 then some [b] else (scan f r).map (b :: ·)

/-- What ReadVar answers of the bytes D that stand from the place a on. -/
def rvOf (a : Nat) : Option (List UInt8) → Int × Int × Bool
  | none => (0, 0, false)
  | some l => if 1000000000 < val l ∨ vt (val l) ≠ l then (0, 0, false) else ((val l : Nat), ((a + l.length : Nat) : Int), true)

def rvR (D : List UInt8) (a : Nat) : Int × Int × Bool := rvOf a (scan 5 D)

theorem scan_step (f : Nat) (pre : List UInt8) (b : UInt8) (r : List UInt8) (hb : ¬ b.toNat < 128) : (scan (f + 1) (b :: r)).map (pre ++ ·) = (scan f r).map (pre ++ [b] ++ ·) := by
  simp only [scan, if_neg hb, Option.map_map]
  congr 1
  funext x
  simp

theorem scan_hit (f : Nat) (pre : List UInt8) (b : UInt8) (r : List UInt8) (hb : b.toNat < 128) : (scan (f + 1) (b :: r)).map (pre ++ ·) = some (pre ++ [b]) := by
  simp [scan, if_pos hb]
end Go.Proofs.Ytajbalokcfghbaa

/-
  Contracts of VarText: the specification's l01In, l01Var, VarText and the program's VarText answer the bytes of the number ('vt').
-/
namespace Go.Proofs.Ytajbalokcfghbaa
open Go.RowKit

theorem info5 : (Try.prog.info? 5).map (fun i => (i.zero, i.size, i.bytes)) = some (some (.int .u8 0), 1, 1) := by kernel_rfl

/-- A row of bytes that the call owns, turned into a string. -/
theorem conv_own {w : World} {base : Nat} {v : Value} {l : List UInt8} {n : Nat} (h : w.ownsRow base 5 1 v n (l.map cellB)) :
    (convert 128 9 v).run Try.prog w = .ok (.string ⟨l.toArray⟩) w := by
  have hn : l.length = n := by have := h.1; simpa using this
  rcases h.2 with ⟨rfl, h0⟩ | ⟨g, cap, cur, rfl, hb, hg, hnc, hcm, hcs, ht⟩
  · have : l = [] := List.length_eq_zero_iff.1 (by omega)
    subst this
    rw [run_convert_bytes_string w 128 9 5 _ 0 0 Try.underlying128 Try.underlying5 Try.underlying9]
    simp [Conv.bytesToString]
    rfl
  · subst hn
    refine run_convert_bytes_back w 128 9 5 ⟨g, 0, none⟩ cap l Try.underlying128 Try.underlying5 Try.underlying9 (fun j hj => ?_)
    have := h.cells (g := g) rfl j (cellB l[j]) (by simp [hj])
    exact this

theorem in_yes (x a b : Int) (w : World) (h1 : a ≤ x) (h2 : x ≤ b) : Calls Try.prog 61 #[.int .i64 x, .int .i64 a, .int .i64 b] w fun e w' => e = .returned (.bool true) ∧ w = w' := by
  go_enter Try.func61, Try.ntmps61
  go_wp2
  go_ret
  exact ⟨by simp, rfl⟩
theorem in_no (x a b : Int) (w : World) (h : x < a ∨ b < x) : Calls Try.prog 61 #[.int .i64 x, .int .i64 a, .int .i64 b] w fun e w' => e = .returned (.bool false) ∧ w = w' := by
  rcases h with h1 | h2
  · go_enter Try.func61, Try.ntmps61
    go_wp2
    go_ret
    exact ⟨by simp, rfl⟩
  · by_cases h1 : a ≤ x
    · go_enter Try.func61, Try.ntmps61
      go_wp2
      go_ret
      exact ⟨by simp; omega, rfl⟩
    · go_enter Try.func61, Try.ntmps61
      go_wp2
      go_ret
      exact ⟨by simp, rfl⟩

/-- One byte more in an owned row, and one round more of the bytes. -/
theorem vt_grow {pre : List UInt8} {m n : Nat} (h : pre ++ vt m = vt n) (hm : 127 < m) : (pre ++ [UInt8.ofNat (m % 128 + 128)]) ++ vt (m / 128) = vt n := by
  rw [← h, vt_big hm]; simp
theorem vt_end {pre : List UInt8} {m n : Nat} (h : pre ++ vt m = vt n) (hm : ¬ 127 < m) : pre ++ [UInt8.ofNat m] = vt n := by
  rw [← h, vt_small hm]
theorem cellB_of {m : Nat} (h : m < 256) : cellB (UInt8.ofNat m) = .int .u8 (m : Int) := by unfold cellB; rw [u8_ofNat h]
theorem cellB_hi (m : Nat) : cellB (UInt8.ofNat (m % 128 + 128)) = .int .u8 ((m : Int) % 128 + 128) := by rw [cellB_of (by omega)]; simp
theorem pre_le {pre : List UInt8} {m n : Nat} (h : pre ++ vt m = vt n) : pre.length ≤ n + 1 := by
  have h1 := vt_len n; rw [← h] at h1; simp at h1; omega
theorem one_new (w : World) (v : Value) (t : TypeId) : ∀ j u, [v][j]? = some u → (w.alloc (.cells #[v] t)).cell? ((⟨w.heap.size, 0, none⟩ : Addr).add j) = some u := by
  intro j u hj
  match j, hj with
  | 0, hj => simp at hj; subst hj; simp [Addr.add]

/-- What VarText answers. -/
def vtR (n : Int) : List UInt8 × Bool := if 0 ≤ n ∧ n ≤ 1000000000 then (vt n.toNat, true) else ([], false)
theorem vtR_in {m : Nat} (h : m ≤ 1000000000) : vtR (m : Int) = (vt m, true) := by unfold vtR; rw [if_pos (by omega), Int.toNat_natCast]
theorem vtR_out {n : Int} (h : n < 0 ∨ 1000000000 < n) : vtR n = ([], false) := by unfold vtR; rw [if_neg (by omega)]

end Go.Proofs.Ytajbalokcfghbaa
