/-
  Names, both of them: the specification's NameOk byte by byte, the program's rune by rune; who is under whom.
-/
import Derived.Test.YtllmgjfffkhocaaNmP
import Derived.Test.YtllmgjfffkhocaaVar
import Derived.Laws.RangeString
import Derived.Laws.RangeAny
namespace Go.Proofs.Ytllmgjfffkhocaa
open Go.RowKit
set_option linter.unusedVariables false

theorem toList_d (T : ByteArray) : T.toList = T.data.toList := by
  obtain ⟨d⟩ := T
  obtain ⟨l⟩ := d
  show (⟨l.toArray⟩ : ByteArray).toList = _
  simp
theorem empty_yes {T : ByteArray} (h : T.size = 0) : T.toList.isEmpty = true := by
  rw [toList_d, List.isEmpty_iff]
  exact List.eq_nil_of_length_eq_zero h
theorem empty_no {T : ByteArray} (h : 0 < T.size) : T.toList.isEmpty = false := by
  rw [toList_d, List.isEmpty_eq_false_iff]
  intro q
  have e : T.data.toList.length = T.size := rfl
  rw [q] at e; simp at e; omega
theorem same_yes {a b : ByteArray} (h : a.data.toList = b.data.toList) : (a.toList == b.toList) = true := by rw [toList_d, toList_d, h]; simp
theorem same_no {a b : ByteArray} (h : ¬ a.data.toList = b.data.toList) : (a.toList == b.toList) = false := by rw [toList_d, toList_d]; exact beq_eq_false_iff_ne.2 h
theorem data_inj {a b : ByteArray} (h : a.data.toList = b.data.toList) : a = b := by
  cases a; cases b
  simp at h
  rw [h]
theorem ext_drop (T : ByteArray) (a b : Nat) (h : T.size ≤ b) : (T.extract a b).data.toList = T.data.toList.drop a := by
  have e : T.data.toList.length = T.size := rfl
  rw [ByteArray.data_extract, Array.toList_extract, List.extract_eq_take_drop]
  exact List.take_of_length_le (by rw [List.length_drop]; omega)
theorem ext_take (T : ByteArray) (b : Nat) : (T.extract 0 b).data.toList = T.data.toList.take b := by
  rw [ByteArray.data_extract, Array.toList_extract, List.extract_eq_take_drop]
  simp

/-- One text ends with another. -/
def sufB (n t : ByteArray) : Bool := decide (t.size ≤ n.size ∧ n.data.toList.drop (n.size - t.size) = t.data.toList)
theorem suf_und (n t : ByteArray) (h0 : 0 < t.size) (hne : n ≠ t) : undB n t = (sufB n t && sufB (n.extract 0 (n.size - t.size)) ⟨#[46]⟩) := by
  have en : n.data.toList.length = n.size := rfl
  have et : t.data.toList.length = t.size := rfl
  have dot : (⟨#[46]⟩ : ByteArray).data.toList = [46] := rfl
  have dsz : (⟨#[46]⟩ : ByteArray).size = 1 := rfl
  by_cases hsz : n.size ≤ t.size
  · rw [show undB n t = false from und_short n t h0 hne hsz]
    symm
    rw [Bool.and_eq_false_iff]
    left
    unfold sufB
    rw [decide_eq_false_iff_not]
    rintro ⟨h1, h2⟩
    apply hne
    apply data_inj
    rw [show n.size - t.size = 0 by omega, List.drop_zero] at h2
    exact h2
  · obtain ⟨k, hk⟩ : ∃ k, n.size = t.size + k + 1 := ⟨n.size - t.size - 1, by omega⟩
    have hlt : k < n.size := by omega
    rw [show undB n t = _ from und_places n t h0 hne k hk hlt, show n.size - t.size = k + 1 by omega, Bool.and_comm]
    have e1 : sufB n t = decide (n.data.toList.drop (k + 1) = t.data.toList) := by
      unfold sufB
      rw [show n.size - t.size = k + 1 by omega]
      have : t.size ≤ n.size := by omega
      simp [this]
    have sz : (n.extract 0 (k + 1)).size = k + 1 := by rw [ByteArray.size_extract]; omega
    have e2 : sufB (n.extract 0 (k + 1)) ⟨#[46]⟩ = decide (n[k].toNat = 46) := by
      unfold sufB
      rw [sz, dsz, dot, ext_take, show k + 1 - 1 = k by omega]
      have e3 : (n.data.toList.take (k + 1)).drop k = [n[k]] := by
        rw [List.drop_take, drop_at n k hlt, show k + 1 - k = 1 by omega]
        rfl
      rw [e3, Bool.eq_iff_iff, decide_eq_true_eq, decide_eq_true_eq]
      constructor
      · rintro ⟨_, h⟩
        injection h with h _
        rw [h]; rfl
      · intro h
        exact ⟨by omega, by rw [show n[k] = 46 from UInt8.toNat_inj.1 h]⟩
    rw [e1, e2]
end Go.Proofs.Ytllmgjfffkhocaa
