/-
  slices.Reverse of a row of bytes that the call owns.
-/
import Derived.Test.YtbiiihjohbnodaaVar
import Derived.Laws.OwnMore
import Derived.Deep.RegionHeld3
import Derived.Deep.LoopGhost
namespace Go.Proofs.Ytbiiihjohbnodaa
open Go.RowKit
theorem mapB_set (l : List UInt8) (k : Nat) (x : UInt8) : (l.map cellB).set k (cellB x) = (l.set k x).map cellB := by simp
/-- Where the turning stands. -/
structure Rv (l : List UInt8) (i : Nat) (L : List UInt8) : Prop where
  len : L.length = l.length
  at' : ∀ q, q < l.length → L[q]? = if q < i ∨ l.length < q + 1 + i then l[l.length - 1 - q]? else l[q]?
theorem Rv.start (l : List UInt8) : Rv l 0 l := ⟨rfl, fun q hq => by rw [if_neg (by omega)]⟩
theorem Rv.step {l : List UInt8} {i : Nat} {L : List UInt8} (h : Rv l i L) (hi : i + i + 1 < l.length) {x y : UInt8} (hx : L[i]? = some x) (hy : L[l.length - 1 - i]? = some y) :
    Rv l (i + 1) ((L.set i y).set (l.length - 1 - i) x) := by
  have hl := h.len
  have hx2 := h.at' i (by omega)
  have hy2 := h.at' (l.length - 1 - i) (by omega)
  rw [if_neg (by omega), hx] at hx2
  rw [if_neg (by omega), hy] at hy2
  refine ⟨by simp [hl], fun q hq => ?_⟩
  rw [List.getElem?_set, List.getElem?_set, List.length_set]
  by_cases h1 : l.length - 1 - i = q
  · rw [if_pos h1, if_pos (by omega), if_pos (.inr (by omega)), hx2]
    congr 1
    omega
  · rw [if_neg h1]
    by_cases h2 : i = q
    · rw [if_pos h2, if_pos (by omega), if_pos (.inl (by omega)), hy2]
      congr 1
      omega
    · rw [if_neg h2, h.at' q hq]
      by_cases h3 : q < i ∨ l.length < q + 1 + i
      · rw [if_pos h3, if_pos (by omega)]
      · rw [if_neg h3, if_neg (by omega)]
theorem Rv.done {l : List UInt8} {i : Nat} {L : List UInt8} (h : Rv l i L) (hi : l.length ≤ i + i + 1) : L = l.reverse := by
  have hl := h.len
  apply List.ext_getElem? fun q => ?_
  by_cases hq : q < l.length
  · rw [h.at' q hq, List.getElem?_reverse hq]
    split
    · rfl
    · congr 1
      omega
  · rw [List.getElem?_eq_none (by omega), List.getElem?_eq_none (by simp; omega)]

set_option maxHeartbeats 1600000 in
set_option maxRecDepth 100000 in
theorem reverse_any (v : Value) (l : List UInt8) (n base : Nat) (w : World) (hn : n ≤ 1000) (hv : w.ownsRow base 5 1 v n (l.map cellB)) :
    Calls Try.prog 127 #[v] w fun e w' => e = .returned (.tuple #[]) ∧ w'.ownsRow base 5 1 v n (l.reverse.map cellB) ∧ Below base w w' := by
  have hln : l.length = n := by have := hv.1; simpa using this
  obtain ⟨ao, cap, rfl, hao⟩ : ∃ ao cap, v = .slice ao n cap ∧ (0 < n → ∃ g, ao = some ⟨g, 0, none⟩) := by
    rcases hv.2 with ⟨h1, h0⟩ | ⟨g, cap, cur, hv, _⟩
    · exact ⟨none, 0, by rw [h1, h0], fun h => by omega⟩
    · exact ⟨some ⟨g, 0, none⟩, cap, hv, fun _ => ⟨g, rfl⟩⟩
  have HO : Hid (0 < n → ∃ g, ao = some ⟨g, 0, none⟩) := hao
  have HV : Hid (w.ownsRow base 5 1 (.slice ao n cap) n (l.map cellB) ∧ l.length = n) := ⟨hv, hln⟩
  clear hao hv hln
  go_enter Try.func127, Try.ntmps127
  go_wp2
  go_loopw [2, 3] (fun iv jv wr => ∃ (i : Nat) (z : Int) (L : List UInt8), iv = .int .i64 i ∧ jv = .int .i64 z ∧ i ≤ n ∧ Hid (z = (n : Int) - 1 - (i : Int) ∧ Rv l i L ∧ wr.ownsRow base 5 1 (.slice ao n cap) n (L.map cellB) ∧ Below base w wr)) (fun iv _ _ => n - (intOf iv).toNat)
  case atStart => exact ⟨0, (n : Int) - 1, l, rfl, rfl, Nat.zero_le _, by simp, Rv.start l, HV.out.1, Below.refl _ _⟩
  case round =>
    obtain ⟨i, z, L, rfl, rfl, hi, H⟩ := hrel
    have hz := H.out.1
    by_cases hlt : (i : Int) < z
    · obtain ⟨m, rfl⟩ : ∃ m : Nat, z = (m : Int) := ⟨z.toNat, by omega⟩
      have hmn : m < n := by omega
      have hin : i < n := by omega
      have him : i < m := by omega
      obtain ⟨g, hao⟩ := HO.out (by omega)
      subst hao
      have hLl : L.length = n := by rw [H.out.2.1.len]; exact HV.out.2
      obtain ⟨x, hx⟩ : ∃ x, L[i]? = some x := ⟨_, List.getElem?_eq_getElem (by omega)⟩
      obtain ⟨y, hy⟩ : ∃ y, L[m]? = some y := ⟨_, List.getElem?_eq_getElem (by omega)⟩
      have hown := H.out.2.2.1
      have hci : wr.cell? ⟨g, i, none⟩ = some (.int .u8 (x.toNat : Int)) := by rw [hown.cellAt i (by omega), List.getElem?_map, hx]; rfl
      have hcm : wr.cell? ⟨g, m, none⟩ = some (.int .u8 (y.toNat : Int)) := by rw [hown.cellAt m (by omega), List.getElem?_map, hy]; rfl
      have hfi := hown.frozenAt i
      have hfm := hown.frozenAt m
      have hgl := (hown.lt g rfl).1
      have hnm : l.length - 1 - i = m := by have := HV.out.2; omega
      have HN : Hid (Rv l (i + 1) ((L.set i y).set m x) ∧ ((wr.setCell ⟨g, i, none⟩ (.int .u8 (y.toNat : Int))).setCell ⟨g, m, none⟩ (.int .u8 (x.toNat : Int))).ownsRow base 5 1 (.slice (some ⟨g, 0, none⟩) n cap) n (((L.set i y).set m x).map cellB) ∧ Below base w ((wr.setCell ⟨g, i, none⟩ (.int .u8 (y.toNat : Int))).setCell ⟨g, m, none⟩ (.int .u8 (x.toNat : Int)))) := by
        refine ⟨?_, ?_, ?_⟩
        · have h := H.out.2.1.step (by have := HV.out.2; omega) hx (by rw [hnm]; exact hy)
          rw [hnm] at h
          exact h
        · have h1 := (hown.stored i (cellB y)).1
          rw [mapB_set] at h1
          have h2 := (h1.stored m (cellB x)).1
          rw [mapB_set] at h2
          exact h2
        · exact Below.setCell (p := ⟨g, m, none⟩) (Below.setCell (p := ⟨g, i, none⟩) H.out.2.2.2 hgl _) hgl _
      have HZ : Hid ((m : Int) = (n : Int) - 1 - (i : Int)) := hz
      clear hown H hLl hx hy hz hnm
      have hmi : (m : Int) < (n : Int) := by omega
      have hii : (i : Int) < (n : Int) := by omega
      have hi0 : (0 : Int) ≤ (i : Int) := by omega
      have hm0 : (0 : Int) ≤ (m : Int) := by omega
      have hne : i ≠ m := by omega
      have hne2 : m ≠ i := by omega
      go_wp2_with fail
      go_region
      go_wp2
      go_roundw
      case rel => exact ⟨i + 1, (m : Int) - 1, _, by go_num, rfl, by omega, by have := HZ.out; omega, HN.out.1, World.ownsRow.drew HN.out.2.1, HN.out.2.2.drew⟩
      case measure => simp [intOf]; omega
    · have HE : Hid (L = l.reverse) := H.out.2.1.done (by have := HV.out.2; omega)
      go_wp2
      go_end0
      exact ⟨rfl, by have h := H.out.2.2.1; rw [HE.out] at h; simpa using h, H.out.2.2.2⟩
end Go.Proofs.Ytbiiihjohbnodaa
