/-
  How great items are.
-/
import Derived.Test.YtbiiihjohbnodaaCrF
import Derived.Test.YtbiiihjohbnodaaItC
namespace Go.Proofs.Ytbiiihjohbnodaa
open Go.RowKit Der
set_option linter.unusedVariables false

theorem sz_lst {n : Nat} (ks : List (It n)) : szI (n + 1) (lstJ ks) = ks.length + (ks.map (szI n)).sum := by
  show 0 + ks.length + (ks.map (szI n)).sum = _
  omega
theorem sz_int {n : Nat} (x : Int) : szI (n + 1) (intI x) ≤ 5 := by
  have h := intT_ok (numN_le x)
  unfold plainOk at h
  rw [if_neg (by decide), if_pos rfl] at h
  simp only [Bool.and_eq_true, decide_eq_true_eq] at h
  show (intT (numN x)).length + 0 + 0 ≤ 5
  omega
theorem sz_txt {n : Nat} (s : ByteArray) : szI (n + 1) (txtJ s) = s.size := rfl
theorem sz_byt {n : Nat} (s : ByteArray) : szI (n + 1) (bytJ s) = s.size := rfl
theorem sz_flag {n : Nat} (b : Bool) : szI (n + 1) (flagJ b) = 1 := rfl
theorem sz_ints {n : Nat} : ∀ l : List Int, ((l.map (intI (n := n))).map (szI (n + 1))).sum ≤ 5 * l.length
  | [] => Nat.le_refl _
  | x :: l => by
    have h1 := sz_ints (n := n) l
    have h2 := sz_int (n := n) x
    simp only [List.map_cons, List.sum_cons, List.length_cons]
    omega
theorem sz_txts {n : Nat} : ∀ l : List ByteArray, l.length + ((l.map (txtJ (n := n))).map (szI (n + 1))).sum = totT l
  | [] => rfl
  | x :: l => by
    have h1 := sz_txts (n := n) l
    have h2 := sz_txt (n := n) x
    simp only [List.map_cons, List.sum_cons, List.length_cons, totT]
    omega
end Go.Proofs.Ytbiiihjohbnodaa
