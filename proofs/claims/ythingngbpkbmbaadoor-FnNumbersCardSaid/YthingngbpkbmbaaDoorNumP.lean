/-
  Plain facts alone: what is written is read back: numbers in bytes and in figures, short texts, and texts in figures.
-/
import Derived.Test.YthingngbpkbmbaaDoorRShort
import Derived.Test.YthingngbpkbmbaaDoorReadDec
namespace Go.Proofs.YthingngbpkbmbaaDoor

theorem vt_ne (n : Nat) : vt n ≠ [] := by rw [vt]; split <;> simp
theorem val_vt (n : Nat) : val (vt n) = n := by
  induction n using Nat.strongRecOn with
  | _ n ih =>
    by_cases h : 127 < n
    · rw [vt_big h]
      simp only [val]
      rw [ih (n / 128) (by omega), u8_ofNat (by omega)]
      omega
    · rw [vt_small h]
      simp only [val]
      rw [u8_ofNat (by omega)]
      omega
theorem scan_vt : ∀ (f n : Nat) (r : List UInt8), (vt n).length ≤ f → scan f (vt n ++ r) = some (vt n)
  | 0, n, r, h => absurd (List.length_eq_zero_iff.1 (Nat.le_zero.1 h)) (vt_ne n)
  | f + 1, n, r, h => by
    by_cases hb : 127 < n
    · rw [vt_big hb] at h ⊢
      have := scan_vt f (n / 128) r (by simp at h; exact h)
      simp only [List.cons_append, scan]
      rw [if_neg (by rw [u8_ofNat (by omega)]; omega), this]
      rfl
    · rw [vt_small hb]
      simp only [List.cons_append, List.nil_append, scan]
      rw [if_pos (by rw [u8_ofNat (by omega)]; omega)]
theorem vt_short : ∀ (k n : Nat), n < 128 ^ (k + 1) → (vt n).length ≤ k + 1
  | 0, n, h => by rw [vt_small (by simp at h; omega)]; simp
  | k + 1, n, h => by
    by_cases hb : 127 < n
    · rw [vt_big hb]
      have := vt_short k (n / 128) (by rw [Nat.pow_succ] at h; exact Nat.div_lt_of_lt_mul (by rw [Nat.mul_comm]; exact h))
      simp; omega
    · rw [vt_small hb]; simp
theorem vt_five {n : Nat} (h : n ≤ 1000000000) : (vt n).length ≤ 5 := vt_short 4 n (by omega)
/-- A number's bytes are read back, wherever they stand. -/
theorem rv_round (s : ByteArray) (a n : Nat) (r : List UInt8) (hn : n ≤ 1000000000) (hs : s.data.toList.drop a = vt n ++ r) (ha : a ≤ s.size) : rvS s (a : Nat) = ((n : Int), ((a + (vt n).length : Nat) : Int), true) := by
  rw [rvS_in ha, rvR, hs, scan_vt 5 n r (vt_five hn), rvOf_yes]
  · rw [val_vt]
  · rw [val_vt]
    rintro (h | h)
    · omega
    · exact h rfl

theorem fval10_fig : ∀ d, d < 10 → fval 10 (fig d) = some d := by decide +kernel
theorem fval16_fig : ∀ d, d < 16 → fval 16 (fig d) = some d := by decide +kernel
theorem fvals_dg (n : Nat) : ∃ ds, fvals 10 (dg n) = some ds ∧ numOf ds = n := by
  induction n using Nat.strongRecOn with
  | _ n ih =>
    by_cases h : n = 0
    · subst h; rw [dg_zero]; exact ⟨[], rfl, rfl⟩
    · obtain ⟨ds, h1, h2⟩ := ih (n / 10) (by omega)
      rw [dg_pos h]
      exact ⟨ds ++ [n % 10], fvals_snoc h1 (fval10_fig _ (by omega)), by rw [numOf_snoc, h2]; omega⟩
theorem dg_short : ∀ (k n : Nat), n < 10 ^ k → (dg n).length ≤ k
  | 0, n, h => by have : n = 0 := by simpa using h
                  subst this; rw [dg_zero]; simp
  | k + 1, n, h => by
    by_cases h0 : n = 0
    · subst h0; rw [dg_zero]; simp
    · rw [dg_pos h0]
      have := dg_short k (n / 10) (by rw [Nat.pow_succ] at h; exact Nat.div_lt_of_lt_mul (by rw [Nat.mul_comm]; exact h))
      simp; omega
/-- A number's figures are read back. -/
theorem rd_round (n : Nat) (hn : n ≤ 1000000000) : rdR ⟨(decR (n : Int)).toArray⟩ = ((n : Int), true) := by
  by_cases h : n = 0
  · subst h; decide
  · obtain ⟨ds, h1, h2⟩ := fvals_dg n
    have hl := dg_short 10 n (by omega)
    rw [decR_pos h]
    have e : (⟨(dg n).toArray⟩ : ByteArray).data.toList = dg n := by simp
    rw [rdR_yes (vs := ds) (by simp [ByteArray.size]; omega) (by rw [e]; exact h1), h2]
    rw [e, h2, decR_pos h]
    rintro (h3 | h3)
    · omega
    · exact h3 rfl

theorem fvals_hex : ∀ (l : List UInt8), ∃ vs, fvals 16 (hexL l) = some vs ∧ pairs vs = l
  | [] => ⟨[], rfl, rfl⟩
  | b :: r => by
    obtain ⟨vs, h1, h2⟩ := fvals_hex r
    have hb := b.toNat_lt
    refine ⟨b.toNat / 16 :: b.toNat % 16 :: vs, ?_, ?_⟩
    · have e : hexL (b :: r) = fig (b.toNat / 16) :: fig (b.toNat % 16) :: hexL r := by simp [hexL]
      rw [e]
      simp only [fvals, fval16_fig (b.toNat / 16) (by omega), fval16_fig (b.toNat % 16) (by omega), h1, Option.map_some]
    · simp only [pairs, h2]
      congr 1
      apply u8_eq
      rw [u8_ofNat (by omega)]
      omega
/-- A text's figures are read back. -/
theorem ux_round (t : ByteArray) (h : t.size ≤ 20000) : uxR ⟨(hexL t.data.toList).toArray⟩ = (t.data.toList, true) := by
  obtain ⟨vs, h1, h2⟩ := fvals_hex t.data.toList
  have hl := hexL_len t.data.toList
  have ht : t.data.toList.length = t.size := by simp
  rw [uxR_some (vs := vs) (by simp [ByteArray.size]; omega) (by simpa using h1), h2]

/-- A short text is read back. -/
theorem rs_round (t : ByteArray) (h : t.size ≤ 20000) : rsR ((⟨(vt t.size).toArray⟩ : ByteArray) ++ t) (rvS ((⟨(vt t.size).toArray⟩ : ByteArray) ++ t) 0) = (t, (((⟨(vt t.size).toArray⟩ : ByteArray) ++ t).size : Int), true) := by
  have hr := rv_round ((⟨(vt t.size).toArray⟩ : ByteArray) ++ t) 0 t.size t.data.toList (by omega) (by simp [ByteArray.data_append]) (Nat.zero_le _)
  have hsz : ((⟨(vt t.size).toArray⟩ : ByteArray) ++ t).size = (vt t.size).length + t.size := by simp [ByteArray.size_append]; rfl
  rw [show ((0 : Int)) = ((0 : Nat) : Int) from rfl, hr, Nat.zero_add, rsR_yes (by omega) (by omega), hsz]
  refine Prod.ext ?_ (Prod.ext ?_ rfl)
  · show ByteArray.extract _ _ _ = t
    apply ByteArray.ext
    apply Array.toList_inj.1
    simp [ByteArray.data_extract, ByteArray.data_append]
    exact List.take_of_length_le (by simp)
  · simp
end Go.Proofs.YthingngbpkbmbaaDoor
