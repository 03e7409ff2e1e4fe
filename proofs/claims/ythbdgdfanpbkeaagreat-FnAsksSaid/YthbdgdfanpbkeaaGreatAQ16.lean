/-
  Texts of the proof.
-/
import Derived.Deep.RegionHeld3
import Derived.Deep.AppendLies
import Derived.Test.YthbdgdfanpbkeaaGreatAQ15
namespace Go.Proofs.YthbdgdfanpbkeaaGreat
open Go.RowKit
theorem OwnI.empty (w : World) {base : Nat} (h : base <= w.heap.size) : OwnI (w.alloc (.cells #[] 3)) base (.slice (some ⟨w.heap.size, 0, none⟩) 0 0) [] := World.ownsRow_made w #[] 0 h (Nat.zero_le _) rfl
def horn (b : Int) (l : List Int) : Int := l.foldl (fun acc x => acc * b + x) 0
theorem horn_snoc (b : Int) (l : List Int) (x : Int) : horn b (l ++ [x]) = horn b l * b + x := by simp [horn]
theorem horn_take {b : Int} {l : List Int} {k : Nat} (h : k < l.length) : horn b (l.take (k + 1)) = horn b (l.take k) * b + l.getD k 0 := by
 rw [List.take_add_one, show l[k]?.toList = [l.getD k 0] by simp [List.getD, h], horn_snoc]
def fig (x : Nat) : UInt8 := if x < 10 then UInt8.ofNat (48 + x) else UInt8.ofNat (97 + x - 10)
end Go.Proofs.YthbdgdfanpbkeaaGreat
namespace Go.Proofs.YthbdgdfanpbkeaaGreat
def fval (base : Nat) (b : UInt8) : Option Nat := (List.range base).find? fun x => fig x == b
theorem fval_lt {base m : Nat} {b : UInt8} (h : fval base b = some m) : m < base := by
 unfold fval at h
 rw [List.find?_range_eq_some] at h
 simpa using h.2.1
def fvals (base : Nat) : List UInt8 -> Option (List Nat)
 | [] => some []
 | b :: r => match fval base b with
  | none => none
  | some x => (fvals base r).map (x :: ·)
theorem fvals_snoc {base : Nat} : ∀ {l : List UInt8} {vs : List Nat} {b : UInt8} {x : Nat}, fvals base l = some vs -> fval base b = some x -> fvals base (l ++ [b]) = some (vs ++ [x])
 | [], vs, b, x, h, hx => by simp [fvals] at h; subst h; simp [fvals, hx]
 | c :: r, vs, b, x, h, hx => by
  simp only [fvals, List.cons_append] at h |-
  cases hc : fval base c with
  | none => rw [hc] at h; simp at h
  | some y =>
   rw [hc] at h
   simp only [Option.map_eq_some_iff] at h
   obtain ⟨ws, h1, rfl⟩ := h
   simp [fvals_snoc h1 hx]
theorem fvals_none {base : Nat} : ∀ {l : List UInt8} {b : UInt8}, b ∈ l -> fval base b = none -> fvals base l = none
 | [], _, h, _ => by simp at h
 | c :: r, b, h, hx => by
  simp only [fvals]
  rcases List.mem_cons.1 h with rfl | h
  ·rw [hx]
  ·cases hc : fval base c with
   | none => rfl
   | some y => simp [fvals_none h hx]
theorem fvals_len {base : Nat} : ∀ {l : List UInt8} {vs : List Nat}, fvals base l = some vs -> vs.length = l.length
 | [], vs, h => by simp [fvals] at h; subst h; rfl
 | c :: r, vs, h => by
  simp only [fvals] at h
  cases hc : fval base c with
  | none => rw [hc] at h; simp at h
  | some y =>
   rw [hc] at h
   simp only [Option.map_eq_some_iff] at h
   obtain ⟨ws, h1, rfl⟩ := h
   simp [fvals_len h1]
theorem fvals_lt {base : Nat} : ∀ {l : List UInt8} {vs : List Nat}, fvals base l = some vs -> ∀ x ∈ vs, x < base
 | [], vs, h => by simp [fvals] at h; subst h; simp
 | c :: r, vs, h => by
  simp only [fvals] at h
  cases hc : fval base c with
  | none => rw [hc] at h; simp at h
  | some y =>
   rw [hc] at h
   simp only [Option.map_eq_some_iff] at h
   obtain ⟨ws, h1, rfl⟩ := h
   intro x hx
   rcases List.mem_cons.1 hx with rfl | hx
   ·exact fval_lt hc
   ·exact fvals_lt h1 x hx
theorem all_bytes {p : UInt8 -> Prop} (h : ∀ n, n < 256 -> p (UInt8.ofNat n)) (b : UInt8) : p b := by
 have := h b.toNat b.toNat_lt
 rwa [UInt8.ofNat_toNat] at this
theorem fval10 (b : UInt8) : fval 10 b = if 48 <= b.toNat /\ b.toNat <= 57 then some (b.toNat - 48) else none := by
 revert b
 refine all_bytes ?_
 decide +kernel
theorem byte_mem (s : ByteArray) (k : Nat) (h : k < s.size) : s[k] ∈ s.data.toList := by
 have : s[k] = s.data.toList[k]'(by simpa using h) := by simp; rfl
 rw [this]
 exact List.getElem_mem _
end Go.Proofs.YthbdgdfanpbkeaaGreat
