/-
  The program's Decimal (by the library's Itoa) answers the decimal figures ('decR'), of every int.
-/
import Derived.Test.YthingngbpkbmbaaDoorDecP
import Derived.Test.YthingngbpkbmbaaDoorShelf
import Derived.Lib.LaidTab
import Derived.Lib.AppendIntMem
import Derived.WalkSpells
import Derived.WalkLawsBesides
import Derived.Handy
namespace Go.Proofs.YthingngbpkbmbaaDoor
open Go.RowKit

/-- The library's numeral is the document's. -/
theorem decDigits_dg (n : Nat) (h : n ≠ 0) : Lib.decDigits n = dg n := by
  induction n using Nat.strongRecOn with
  | _ n ih =>
    rw [dg_pos h, Lib.decDigits]
    by_cases h10 : n < 10
    · rw [dif_pos h10]
      have e1 : n / 10 = 0 := by omega
      have e2 : n % 10 = n := by omega
      rw [e1, e2, dg_zero]
      unfold fig
      rw [if_pos h10]; rfl
    · rw [dif_neg h10, ih (n / 10) (by omega) (by omega)]
      unfold fig
      rw [if_pos (by omega)]
theorem itoa_dec (n : Int) : Lib.itoa n = decR n := by
  unfold Lib.itoa decR
  by_cases h0 : n = 0
  · subst h0
    rw [if_neg (by omega), if_pos rfl, Int.toNat_zero, Lib.decDigits, dif_pos (by decide)]; rfl
  · rw [if_neg h0]
    by_cases hn : n < 0
    · rw [if_pos hn, if_pos hn, decDigits_dg _ (by omega)]
    · rw [if_neg hn, if_neg hn]
      have : n.toNat = n.natAbs := by omega
      rw [this, decDigits_dg _ (by omega)]

theorem implDecimal_any (n : Int) (w : World) (h0 : -9223372036854775808 ≤ n) (h1 : n ≤ 9223372036854775807) (ht : Lib.TabIs Tryd.prog w "internal/strconv.uint64pow10" .u64 Lib.pow10Tab) : Calls Tryd.prog 9 #[.int .i64 n] w fun e w' => e = .returned (.string ⟨(decR n).toArray⟩) ∧ Below w.heap.size w w' := by
  have HT : Hid _ := ht
  clear ht
  go_enter Tryd.func9, Tryd.ntmps9
  go_wp2_with (go_at_call 18; refine (Tryd.strconv_Itoa n h0 h1 _ HT.out).mono ?_; rintro e w1 ⟨rfl, k, os, rfl⟩)
  go_ret
  exact ⟨by rw [itoa_dec]; rfl, Lib.below_grow _ _ (Nat.le_refl _) _ _⟩

end Go.Proofs.YthingngbpkbmbaaDoor
