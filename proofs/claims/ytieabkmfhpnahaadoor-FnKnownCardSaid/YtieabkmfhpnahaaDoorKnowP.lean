/-
  The three known digests, reckoned (no program): of nothing, of abc, and of a text of two blocks.
-/
import Derived.Test.YtieabkmfhpnahaaDoorShaP
import Derived.Test.YtieabkmfhpnahaaDoorHexP
namespace Go.Proofs.YtieabkmfhpnahaaDoor
def kt0 : List UInt8 := []
theorem kd0 : digSt kt0 = ⟨3820012610, 2566659092, 2600203464, 2574235940, 665731556, 1687917388, 2761267483, 2018687061⟩ := by
  unfold digSt
  rw [← blocksK_is]
  exact stEq_is (by decide +kernel)
def kx0 : List UInt8 := [101, 51, 98, 48, 99, 52, 52, 50, 57, 56, 102, 99, 49, 99, 49, 52, 57, 97, 102, 98, 102, 52, 99, 56, 57, 57, 54, 102, 98, 57, 50, 52, 50, 55, 97, 101, 52, 49, 101, 52, 54, 52, 57, 98, 57, 51, 52, 99, 97, 52, 57, 53, 57, 57, 49, 98, 55, 56, 53, 50, 98, 56, 53, 53]
theorem kh0 : hexL (digL kt0) = kx0 := by
  unfold digL
  rw [kd0]
  decide +kernel
def kt1 : List UInt8 := [97, 98, 99]
theorem kd1 : digSt kt1 = ⟨3128432319, 2399260650, 1094795486, 1571693091, 2953011619, 2518121116, 3021012833, 4060091821⟩ := by
  unfold digSt
  rw [← blocksK_is]
  exact stEq_is (by decide +kernel)
def kx1 : List UInt8 := [98, 97, 55, 56, 49, 54, 98, 102, 56, 102, 48, 49, 99, 102, 101, 97, 52, 49, 52, 49, 52, 48, 100, 101, 53, 100, 97, 101, 50, 50, 50, 51, 98, 48, 48, 51, 54, 49, 97, 51, 57, 54, 49, 55, 55, 97, 57, 99, 98, 52, 49, 48, 102, 102, 54, 49, 102, 50, 48, 48, 49, 53, 97, 100]
theorem kh1 : hexL (digL kt1) = kx1 := by
  unfold digL
  rw [kd1]
  decide +kernel
def kt2 : List UInt8 := [97, 98, 99, 100, 98, 99, 100, 101, 99, 100, 101, 102, 100, 101, 102, 103, 101, 102, 103, 104, 102, 103, 104, 105, 103, 104, 105, 106, 104, 105, 106, 107, 105, 106, 107, 108, 106, 107, 108, 109, 107, 108, 109, 110, 108, 109, 110, 111, 109, 110, 111, 112, 110, 111, 112, 113]
theorem kb2 : blockN firstN (((padL kt2).drop (64 * 0)).take 64) = ⟨2246464982, 1098520469, 862140266, 1649204828, 1994429833, 3401971729, 3427480257, 4061025082⟩ := by
  rw [← blockK_is]
  exact stEq_is (by decide +kernel)
theorem kc2 : blockN ⟨2246464982, 1098520469, 862140266, 1649204828, 1994429833, 3401971729, 3427480257, 4061025082⟩ (((padL kt2).drop (64 * 1)).take 64) = ⟨613247585, 3523623096, 3854575251, 205414457, 2738676825, 1694441831, 4142722516, 433784513⟩ := by
  rw [← blockK_is]
  exact stEq_is (by decide +kernel)
theorem kl2 : (padL kt2).length / 64 = 2 := by decide +kernel
theorem kd2 : digSt kt2 = ⟨613247585, 3523623096, 3854575251, 205414457, 2738676825, 1694441831, 4142722516, 433784513⟩ := by
  unfold digSt
  rw [kl2, blocksN, blocksN, blocksN, kb2, kc2]
def kx2 : List UInt8 := [50, 52, 56, 100, 54, 97, 54, 49, 100, 50, 48, 54, 51, 56, 98, 56, 101, 53, 99, 48, 50, 54, 57, 51, 48, 99, 51, 101, 54, 48, 51, 57, 97, 51, 51, 99, 101, 52, 53, 57, 54, 52, 102, 102, 50, 49, 54, 55, 102, 54, 101, 99, 101, 100, 100, 52, 49, 57, 100, 98, 48, 54, 99, 49]
theorem kh2 : hexL (digL kt2) = kx2 := by
  unfold digL
  rw [kd2]
  decide +kernel
end Go.Proofs.YtieabkmfhpnahaaDoor
