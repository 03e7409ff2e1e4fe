/-
  Plain facts alone: what Unsealed answers of a sealed text, and of one whose one byte is another.
-/
import Derived.Test.YtcfpeomodhadlaaDoorSeal
namespace Go.Proofs.YtcfpeomodhadlaaDoor

theorem size_list (s : ByteArray) : s.data.toList.length = s.size := by simp
/-- Unsealed, by the text's two parts. -/
theorem us_of (s : ByteArray) (a b : List UInt8) (hs : s.data.toList = a ++ b) (hb : b.length = 4) (ha : a.length ≤ 20000) : usR s = if b = sealL a then (⟨a.toArray⟩, true) else (⟨#[]⟩, false) := by
  have hz : s.size = a.length + 4 := by rw [← size_list, hs, List.length_append, hb]
  have e1 : (s.extract 0 a.length) = ⟨a.toArray⟩ := by
    apply ByteArray.ext
    apply Array.toList_inj.1
    rw [ByteArray.data_extract, Array.toList_extract, hs]
    simp [List.extract]
  have e2 : (s.extract a.length s.size) = ⟨b.toArray⟩ := by
    apply ByteArray.ext
    apply Array.toList_inj.1
    rw [ByteArray.data_extract, Array.toList_extract, hs, hz]
    simp [List.extract]
    exact hb ▸ List.take_length
  by_cases h : b = sealL a
  · rw [if_pos h]
    rw [usR_yes hz (by omega) (by rw [e1, e2, h]; rfl), e1]
  · rw [if_neg h]
    refine usR_no hz ?_
    rw [e1, e2]
    intro e
    apply h
    have := congrArg (fun x => x.data.toList) e
    simpa [sealB] using this

/-- A sealed text. -/
def sealedB (s : ByteArray) : ByteArray := s ++ sealB s
theorem sealedB_list (s : ByteArray) : (sealedB s).data.toList = s.data.toList ++ sealL s.data.toList := by simp [sealedB, sealB, ByteArray.data_append]
theorem sealedB_size (s : ByteArray) : (sealedB s).size = s.size + 4 := by
  rw [← size_list, sealedB_list, List.length_append, size_list]; rfl
theorem us_sealed (s : ByteArray) (h : s.size ≤ 20000) : usR (sealedB s) = (s, true) := by
  rw [us_of (sealedB s) s.data.toList (sealL s.data.toList) (sealedB_list s) rfl (by rw [size_list]; exact h), if_pos rfl]
/-- Unlike sums, unlike bytes. -/
theorem seal_turned (l : List UInt8) (i : Nat) (hi : i < l.length) (c : UInt8) (h : sealL l = sealL (l.set i c)) : l[i] = c := by
  have h1 := four_inj (sumL_lt _) (sumL_lt _) h
  unfold sumL at h1
  have e1 : l = l.take i ++ l[i] :: l.drop (i + 1) := by simp
  have e2 : l.set i c = l.take i ++ c :: l.drop (i + 1) := List.set_eq_take_append_cons_drop.trans (if_pos hi)
  rw [e2] at h1
  exact more_turned 4294967295 (by decide) (l.take i) (l.drop (i + 1)) l[i] c (by rw [← e1]; exact h1)
/-- A sealed text whose one byte is another. -/
def turnedB (s : ByteArray) (i : Nat) (c : UInt8) : ByteArray := ⟨((sealedB s).data.toList.set i c).toArray⟩
theorem turnedB_size (s : ByteArray) (i : Nat) (c : UInt8) : (turnedB s i c).size = s.size + 4 := by
  rw [← sealedB_size, ← size_list, ← size_list]; simp [turnedB]
/-- A TURNED BYTE IS NOT UNSEALED. -/
theorem us_turned (s : ByteArray) (h : s.size ≤ 20000) (i : Nat) (c : UInt8) (hi : i < (sealedB s).data.toList.length) (hc : (sealedB s).data.toList[i] ≠ c) : usR (turnedB s i c) = (⟨#[]⟩, false) := by
  have hl : s.data.toList.length = s.size := size_list s
  by_cases hn : i < s.data.toList.length
  · have e : (turnedB s i c).data.toList = s.data.toList.set i c ++ sealL s.data.toList := by
      show (sealedB s).data.toList.set i c = _
      rw [sealedB_list, List.set_append_left _ _ hn]
    rw [us_of _ _ _ e rfl (by simpa using h), if_neg]
    intro h2
    apply hc
    have := seal_turned _ i hn c h2
    rw [← this]
    simp only [sealedB_list]
    exact List.getElem_append_left hn
  · have e : (turnedB s i c).data.toList = s.data.toList ++ (sealL s.data.toList).set (i - s.data.toList.length) c := by
      show (sealedB s).data.toList.set i c = _
      rw [sealedB_list, List.set_append_right _ _ (by omega)]
    rw [us_of _ _ _ e (by simp; rfl) (by omega), if_neg]
    intro h2
    apply hc
    have hi2 : i - s.data.toList.length < (sealL s.data.toList).length := by
      simp only [sealedB_list, List.length_append] at hi
      omega
    have e2 : (sealedB s).data.toList[i] = (sealL s.data.toList)[i - s.data.toList.length] := by
      simp only [sealedB_list]
      exact List.getElem_append_right (by omega)
    rw [e2]
    have h3 : ((sealL s.data.toList).set (i - s.data.toList.length) c)[i - s.data.toList.length]? = some c := by
      rw [List.getElem?_set_self hi2]
    rw [h2, List.getElem?_eq_getElem hi2] at h3
    exact Option.some.inj h3

/-- The sum of a text and one letter more. -/
def sumX (s : ByteArray) : Nat := sumL (s.data.toList ++ [120])
theorem sumX_more (s : ByteArray) : more (sumB s) (⟨#[120]⟩ : ByteArray).data.toList = sumX s := by
  unfold sumX sumB sumL
  rw [more_append]
theorem sumX_of (s : ByteArray) : sumL (s ++ (⟨#[120]⟩ : ByteArray)).data.toList = sumX s := by
  unfold sumX
  congr 1
end Go.Proofs.YtcfpeomodhadlaaDoor
