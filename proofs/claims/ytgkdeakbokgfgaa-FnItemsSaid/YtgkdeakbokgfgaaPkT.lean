/-
  The specification's l01Pick: one text of a few.
-/
import Derived.Test.YtgkdeakbokgfgaaDrawT
namespace Go.Proofs.Ytgkdeakbokgfgaa
open Go.RowKit
set_option linter.unusedVariables false

set_option maxHeartbeats 800000 in
set_option maxRecDepth 100000 in
theorem l01Pick_any (g n cp : Nat) (B : Nat) (w : World) (c : Nat) (a0 : Option Addr) (len cap : Nat) (hn : 0 < n) (hn2 : n ≤ 1000000) (hgc : g ≠ c)
    (hcs : ∀ j, j < n → ∃ x : ByteArray, w.cell? ⟨g, j, none⟩ = some (.string x) ∧ x.size ≤ 100) (hC : Cur B w c a0 len cap) :
    Calls Try.prog 58 #[.pointer (some ⟨c, 0, none⟩), .slice (some ⟨g, 0, none⟩) n cp] w fun e w' =>
    ∃ x : ByteArray, x.size ≤ 100 ∧ e = .returned (.string x) ∧ Cur B w' c a0 len cap ∧ w.grownBy w' (some c) := by
  have HC : Hid (Cur B w c a0 len cap) := hC
  have HX : Hid (∀ j, j < n → ∃ x : ByteArray, w.cell? ⟨g, j, none⟩ = some (.string x) ∧ x.size ≤ 100) := hcs
  clear hC hcs
  go_enter Try.func58, Try.ntmps58
  go_wp2_with fail
  refine (l01Below_any _ B _ c a0 len cap (by omega) HC.out).mono ?_
  rintro e w1 ⟨x, hx0, hx1, _, rfl, hC1, hg1⟩
  have hx2 := hx1 (by omega)
  obtain ⟨j, rfl⟩ := Int.eq_ofNat_of_zero_le hx0
  obtain ⟨y, hy, hy1⟩ := HX.out j (by omega)
  have hcy : w1.cell? ⟨g, j, none⟩ = some (.string y) := hg1.cell hy (fun e => hgc (Option.some.inj e))
  have HC1 : Hid (Cur B w1 c a0 len cap) := hC1
  have HG1 : Hid (w.grownBy w1 (some c)) := hg1
  clear hC1 hg1 hx1 hy
  go_wp2
  go_ret
  exact ⟨_, hy1, rfl, HC1.out, HG1.out⟩
end Go.Proofs.Ytgkdeakbokgfgaa
