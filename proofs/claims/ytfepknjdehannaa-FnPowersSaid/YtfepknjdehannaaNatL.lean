/-
  The program's extended and naturalOf: a number, figure by figure from above.
-/
import Derived.Test.YtfepknjdehannaaSpX
namespace Go.Proofs.Ytfepknjdehannaa
open Go.RowKit

/-- What figures to a base are worth, the highest first. -/
def horn (b : Int) (l : List Int) : Int := l.foldl (fun acc x => acc * b + x) 0
theorem horn_snoc (b : Int) (l : List Int) (x : Int) : horn b (l ++ [x]) = horn b l * b + x := by simp [horn]
theorem horn_take {b : Int} {l : List Int} {k : Nat} (h : k < l.length) : horn b (l.take (k + 1)) = horn b (l.take k) * b + l.getD k 0 := by
  rw [List.take_add_one, show l[k]?.toList = [l.getD k 0] by simp [List.getD, h], horn_snoc]
theorem horn_bd {b : Int} (hb : 1 ≤ b ∧ b ≤ 10000) : ∀ (l : List Int), (∀ x ∈ l, 0 ≤ x ∧ x < b) → 0 ≤ horn b l ∧ horn b l < 10000 ^ l.length := by
  suffices H : ∀ (n : Nat) (l : List Int), l.length = n → (∀ x ∈ l, 0 ≤ x ∧ x < b) → 0 ≤ horn b l ∧ horn b l < 10000 ^ l.length from fun l => H l.length l rfl
  intro n
  induction n with
  | zero =>
    intro l hl _
    rw [List.eq_nil_of_length_eq_zero hl]
    simp [horn]
  | succ n ih =>
    intro l0 hl h
    obtain ⟨l, x, rfl⟩ : ∃ l x, l0 = l ++ [x] := ⟨l0.dropLast, l0.getLast (fun e => by rw [e] at hl; simp at hl), (List.dropLast_concat_getLast _).symm⟩
    have hln : l.length = n := by simpa using hl
    have hx := h x (by simp)
    have hi := ih l hln fun y hy => h y (by simp [hy])
    rw [horn_snoc, List.length_append, List.length_singleton, pw_succ]
    have h1 := Int.mul_nonneg hi.1 (show 0 ≤ b by omega)
    have h2 := Int.mul_le_mul_of_nonneg_right (show horn b l ≤ 10000 ^ l.length - 1 by omega) (show 0 ≤ b by omega)
    have h3 := Int.mul_le_mul_of_nonneg_left hb.2 (Int.le_of_lt (pw_pos l.length))
    rw [Int.sub_mul, Int.one_mul] at h2
    omega

/-- Where the extending stands. -/
structure Ex (l0 : List Int) (b x : Int) (k : Nat) (L : List Int) (c : Int) : Prop where
  len : L.length = l0.length
  dig : Dig L
  val : ev (L.take k) + 10000 ^ k * c = ev (l0.take k) * b + x
  small : 0 ≤ c ∧ c < b
  hi : ∀ j, k ≤ j → L.getD j 0 = l0.getD j 0
theorem Ex.start {l0 : List Int} {b x : Int} (h : Dig l0) (hx : 0 ≤ x ∧ x < b) : Ex l0 b x 0 l0 x := ⟨rfl, h, by simp [ev], hx, fun _ _ => rfl⟩
theorem ext_prod {z b : Int} (hz : 0 ≤ z ∧ z ≤ 9999) (hb : 1 ≤ b ∧ b ≤ 1000) : 0 ≤ z * b ∧ z * b ≤ 9999 * b := by
  have h1 := Int.mul_le_mul_of_nonneg_right hz.2 (show 0 ≤ b by omega)
  have h2 := Int.mul_nonneg hz.1 (show 0 ≤ b by omega)
  omega
theorem Ex.step {l0 : List Int} {b x : Int} {k : Nat} {L : List Int} {c : Int} (h : Ex l0 b x k L c) (hb : 1 ≤ b ∧ b ≤ 1000) (hk : k < l0.length) :
    Ex l0 b x (k + 1) (L.set k ((L.getD k 0 * b + c) % 10000)) ((L.getD k 0 * b + c) / 10000) := by
  have hl := h.len
  have hkl : k < L.length := by omega
  have h1 := ext_prod (h.dig.getD k) hb
  have hs := h.small
  have h2 := h.hi k (Nat.le_refl _)
  refine ⟨by simp [hl], ?_, ?_, by omega, fun j hj => ?_⟩
  · refine dig_of_getD fun j _ => ?_
    rw [getD_set _ hkl]
    split
    · omega
    · exact h.dig.getD j
  · have e1 : ev ((L.set k ((L.getD k 0 * b + c) % 10000)).take k) = ev (L.take k) := ev_congr k fun j hj => by rw [getD_set _ hkl, if_neg (by omega)]
    rw [ev_take_succ, e1, getD_set _ hkl, if_pos rfl, ev_take_succ, pw_succ]
    have hv := h.val
    have e := Int.emod_add_mul_ediv (L.getD k 0 * b + c) 10000
    generalize (L.getD k 0 * b + c) % 10000 = r at *
    generalize (L.getD k 0 * b + c) / 10000 = q at *
    have e' : r = L.getD k 0 * b + c - 10000 * q := by omega
    rw [e', h2]
    grind
  · rw [getD_set _ hkl, if_neg (by omega)]
    exact h.hi j (by omega)
theorem Ex.full {l0 : List Int} {b x : Int} {L : List Int} {c : Int} (h : Ex l0 b x l0.length L c) : ev L + 10000 ^ l0.length * c = ev l0 * b + x := by
  have hv := h.val
  have hl := h.len
  rw [ev_take_all l0 (Nat.le_refl _), ev_take_all L (by omega)] at hv
  exact hv
theorem Ex.more {l0 : List Int} {b x : Int} {L : List Int} {c : Int} (h : Ex l0 b x l0.length L c) (hb : b ≤ 1000) (hc : 0 < c) : L ++ [c] = digs (ev l0 * b + x) := by
  have hs := h.small
  refine eq_digs_of (dig_snoc h.dig (by omega)) (fun _ => ?_) ?_
  · have : (L ++ [c]).getD ((L ++ [c]).length - 1) 0 = c := by simp [List.getD]
    rw [this]
    omega
  · rw [ev_snoc, h.len]
    exact h.full
theorem Ex.same {l0 : List Int} {b x : Int} {L : List Int} {c : Int} (h : Ex l0 b x l0.length L c) (hd : Dig l0) (ht : Top l0) (hb : 1 ≤ b) (hx : 0 ≤ x) (hc : c = 0) : L = digs (ev l0 * b + x) := by
  have hf := h.full
  rw [hc, Int.mul_zero, Int.add_zero] at hf
  refine eq_digs_of h.dig (top_of_ge h.dig fun h0 => ?_) hf
  rw [hf]
  have hl := h.len
  have h1 := ev_ge hd ht (by omega)
  have h2 := ev_nonneg hd
  have h3 := Int.mul_le_mul_of_nonneg_left hb h2
  rw [hl]
  omega

end Go.Proofs.Ytfepknjdehannaa
