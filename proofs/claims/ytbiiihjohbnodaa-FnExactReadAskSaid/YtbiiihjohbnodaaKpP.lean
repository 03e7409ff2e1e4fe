/-
  Sameness goes from item to item; what is written alike is the same.
-/
import Derived.Test.YtbiiihjohbnodaaItQ
import Derived.Test.YtbiiihjohbnodaaItA
namespace Go.Proofs.Ytbiiihjohbnodaa
open Go.RowKit Der
set_option linter.unusedVariables false

theorem same_trans : ∀ (n m k : Nat) (x : It n) (y : It m) (z : It k), sameI n m x y = true → sameI m k y z = true → sameI n k x z = true
  | 0, _, _, _, _, _, h, _ => by simp [sameI] at h
  | _ + 1, 0, _, _, _, _, h, _ => by simp [sameI] at h
  | _ + 1, _ + 1, 0, _, _, _, _, h => by simp [sameI] at h
  | n + 1, m + 1, k + 1, x, y, z, h, h' => by
    obtain ⟨h1, h2, h3, h4⟩ := same_parts h
    obtain ⟨g1, g2, g3, g4⟩ := same_parts h'
    show (decide (It.tag x = It.tag z) && decide (It.text x = It.text z) && decide ((It.kids x).length = (It.kids z).length) && ((It.kids x).zip (It.kids z)).all fun p => sameI n k p.1 p.2) = true
    rw [h1, g1, h2, g2, h3, g3, same_all (h3.trans g3) fun j a b => ?_]
    · simp
    · refine same_trans n m k _ ((It.kids y)[j]'(by omega)) _ (h4 ((It.kids x)[j], (It.kids y)[j]'(by omega)) ?_) (g4 ((It.kids y)[j]'(by omega), (It.kids z)[j]) ?_)
      · rw [List.mem_iff_getElem]
        exact ⟨j, by rw [List.length_zip]; omega, by simp⟩
      · rw [List.mem_iff_getElem]
        exact ⟨j, by rw [List.length_zip]; omega, by simp⟩
theorem same_written {n m : Nat} {x : It n} {y : It m} {t : List UInt8} (hx : writeI n x = some t) (hy : writeI m y = some t) : sameI n m x y = true := by
  obtain ⟨a, h1, h2⟩ := read_back hx
  obtain ⟨b, h3, h4⟩ := read_back hy
  rw [h2] at h4
  injection h4 with h4
  subst h4
  exact same_trans n 7 m x a y h1 (same_comm m 7 y a h3)
end Go.Proofs.Ytbiiihjohbnodaa
