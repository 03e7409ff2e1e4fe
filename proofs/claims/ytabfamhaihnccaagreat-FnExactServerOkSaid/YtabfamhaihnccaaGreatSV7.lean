/-
  Texts of the proof.
-/
import Derived.WalkKit
import Derived.Laws.RangeString
import Derived.Laws.RangeAny
import Derived.Test.YtabfamhaihnccaaGreatSV4
set_option maxRecDepth 100000
set_option maxHeartbeats 25600000
namespace Go.Proofs.YtabfamhaihnccaaGreat
def nmL : List UInt8 -> Bool -> Bool
 | [], p => p
 | b :: r, p => if 97 <= b.toNat /\ b.toNat <= 122 then nmL r true else if b.toNat = 46 /\ p = true then nmL r false else false
def nameOk (s : ByteArray) : Bool := decide (s.size <= 20) && nmL s.data.toList false
theorem nm_letter {b : UInt8} (r : List UInt8) (p : Bool) (h1 : 97 <= b.toNat) (h2 : b.toNat <= 122) : nmL (b :: r) p = nmL r true := by
 show (if _ then _ else _) = _
 rw [if_pos ⟨h1, h2⟩]
theorem nm_dot {b : UInt8} (r : List UInt8) (h : b.toNat = 46) : nmL (b :: r) true = nmL r false := by
 show (if _ then _ else _) = _
 rw [if_neg (by omega), if_pos ⟨h, rfl⟩]
theorem nm_dots {b : UInt8} (r : List UInt8) (h : b.toNat = 46) : nmL (b :: r) false = false := by
 show (if _ then _ else _) = _
 rw [if_neg (by omega), if_neg (by simp)]
theorem nm_other {b : UInt8} (r : List UInt8) (p : Bool) (h : ¬ (97 <= b.toNat /\ b.toNat <= 122)) (h2 : b.toNat ≠ 46) : nmL (b :: r) p = false := by
 show (if _ then _ else _) = _
 rw [if_neg h, if_neg (fun q => h2 q.1)]
theorem drop_at (s : ByteArray) (k : Nat) (h : k < s.size) : s.data.toList.drop k = s[k] :: s.data.toList.drop (k + 1) := by
 rw [List.drop_eq_getElem_cons (by simpa using h)]
 rfl
theorem drop_end (s : ByteArray) (k : Nat) (h : ¬ k < s.size) : s.data.toList.drop k = [] := List.drop_eq_nil_of_le (by have e : s.data.toList.length = s.size := rfl; omega)
def ascG {α : Type} (lt : α -> α -> Bool) (d : α) (l : List α) : Bool := (List.range (l.length - 1)).all fun i => lt (l.getD i d) (l.getD (i + 1) d)
theorem asc_yes {α : Type} {lt : α -> α -> Bool} {d : α} {l : List α} (h : ∀ i, 0 < i -> i < l.length -> lt (l.getD (i - 1) d) (l.getD i d) = true) : ascG lt d l = true := by
 unfold ascG
 rw [List.all_eq_true]
 intro i hi
 rw [List.mem_range] at hi
 exact h (i + 1) (by omega) (by omega)
theorem asc_no {α : Type} {lt : α -> α -> Bool} {d : α} {l : List α} (i : Nat) (h0 : 0 < i) (hi : i < l.length) (h : lt (l.getD (i - 1) d) (l.getD i d) = false) : ascG lt d l = false := by
 unfold ascG
 rw [List.all_eq_false]
 refine ⟨i - 1, by rw [List.mem_range]; omega, ?_⟩
 rw [show i - 1 + 1 = i by omega, h]
 simp
theorem all_yes {α : Type} {f : α -> Bool} {d : α} {l : List α} (h : ∀ i, i < l.length -> f (l.getD i d) = true) : l.all f = true := by
 rw [List.all_eq_true]
 intro x hx
 obtain ⟨i, hi, rfl⟩ := List.getElem_of_mem hx
 have := h i hi
 rwa [List.getD_eq_getElem?_getD, List.getElem?_eq_getElem hi] at this
theorem all_no {α : Type} {f : α -> Bool} {d : α} {l : List α} (i : Nat) (hi : i < l.length) (h : f (l.getD i d) = false) : l.all f = false := by
 rw [List.all_eq_false]
 refine ⟨l[i], List.getElem_mem hi, ?_⟩
 rw [List.getD_eq_getElem?_getD, List.getElem?_eq_getElem hi] at h
 simpa using h
def lsB (a b : ByteArray) : Bool := Op.bytesLess a.toList b.toList
def lsI (a b : Int) : Bool := decide (a < b)
def listOk {α : Type} (f : α -> Bool) (lt : α -> α -> Bool) (d : α) (l : List α) : Bool := decide (l.length <= 4) && l.all f && ascG lt d l
theorem ok_bad {α : Type} {f : α -> Bool} {lt : α -> α -> Bool} {d : α} {l : List α} (i : Nat) (hi : i < l.length) (h : f (l.getD i d) = false) : listOk f lt d l = false := by
 unfold listOk; rw [all_no i hi h]; simp
theorem ok_down {α : Type} {f : α -> Bool} {lt : α -> α -> Bool} {d : α} {l : List α} (i : Nat) (h0 : 0 < i) (hi : i < l.length) (h : lt (l.getD (i - 1) d) (l.getD i d) = false) : listOk f lt d l = false := by
 unfold listOk; rw [asc_no i h0 hi h]; simp
theorem ok_end {α : Type} {f : α -> Bool} {lt : α -> α -> Bool} {d : α} {l : List α} (h1 : ∀ i, i < l.length -> f (l.getD i d) = true) (h2 : ∀ i, 0 < i -> i < l.length -> lt (l.getD (i - 1) d) (l.getD i d) = true) : listOk f lt d l = decide (l.length <= 4) := by
 unfold listOk; rw [all_yes h1, asc_yes h2]; simp
theorem ok_long {α : Type} {f : α -> Bool} {lt : α -> α -> Bool} {d : α} {l : List α} (h : 4 < l.length) : listOk f lt d l = false := by
 unfold listOk; rw [decide_eq_false (by omega)]; simp
theorem ok_asc {α : Type} {f : α -> Bool} {lt : α -> α -> Bool} {d : α} {l : List α} (h1 : ∀ i, i < l.length -> f (l.getD i d) = true) (h : l.length <= 4) : listOk f lt d l = ascG lt d l := by
 unfold listOk; rw [all_yes h1, decide_eq_true h]; simp
def namesOk (l : List ByteArray) : Bool := listOk nameOk lsB ByteArray.empty l
def polIn (x : Int) : Bool := decide (0 <= x /\ x <= 99)
def polOk (l : List Int) : Bool := listOk polIn lsI 0 l
end Go.Proofs.YtabfamhaihnccaaGreat
namespace Go.Proofs.YtabfamhaihnccaaGreat
open Go.RowKit
set_option linter.unusedVariables false
set_option linter.unusedSimpArgs false
theorem specName_any (s : ByteArray) (w : World) (hs : s.size <= 1000000000000) : Calls Tryz.prog 124 #[.string s] w fun e w' => e = .returned (.bool (nameOk s)) /\ w = w' := by
 go_enter Tryz.func124, Tryz.ntmps124
 go_wp2
 go_loopw [3, 4] (fun pv iv wr => ∃ k part : Nat, k <= s.size /\ part <= k /\ pv = .int .i64 part /\ iv = .int .i64 k /\ Hid (nmL (s.data.toList.drop k) (decide (0 < part)) = nmL s.data.toList false) /\ w = wr) (fun _ iv _ => s.size - (intOf iv).toNat)
 case atStart => exact ⟨0, 0, Nat.zero_le _, Nat.le_refl _, rfl, rfl, by show _ = _; simp, rfl⟩
 case round =>
  obtain ⟨k, part, hk, hp, rfl, rfl, HI, rfl⟩ := hrel
  by_cases hlt : k < s.size
  ·have hki : (k : Int) < (s.size : Int) := by omega
   have hd := drop_at s k hlt
   have hI := HI.out
   rw [hd] at hI
   clear HI hd
   have hb := s[k].toNat_lt
   by_cases hlet : 97 <= s[k].toNat /\ s[k].toNat <= 122
   ·rw [nm_letter _ _ hlet.1 hlet.2] at hI
    have HN : Hid (nmL (s.data.toList.drop (k + 1)) (decide (0 < part + 1)) = nmL s.data.toList false) := by show _ = _; rw [<- hI]; simp
    obtain ⟨h1, h2⟩ := hlet
    have h1i : (97 : Int) <= (s[k].toNat : Int) := by omega
    have h2i : (s[k].toNat : Int) <= 122 := by omega
    clear hI
    go_wp2
    go_roundw
    case rel => exact ⟨k + 1, part + 1, by omega, by omega, by go_num, by go_num, HN, by first | rfl | trivial⟩
    case measure => simp [intOf]; omega
   ·by_cases hdot : s[k].toNat = 46
    ·have h1i : ¬ (97 : Int) <= (s[k].toNat : Int) := by omega
     have h46 : ((s[k].toNat : Int) == 46) = true := by simp; omega
     by_cases hp0 : 0 < part
     ·have hp0i : (0 : Int) < (part : Int) := by omega
      rw [decide_eq_true hp0, nm_dot _ hdot] at hI
      have HN : Hid (nmL (s.data.toList.drop (k + 1)) (decide (0 < 0)) = nmL s.data.toList false) := by show _ = _; rw [<- hI]; simp
      clear hI
      go_wp2
      go_roundw
      case rel => exact ⟨k + 1, 0, by omega, by omega, rfl, by go_num, HN, by first | rfl | trivial⟩
      case measure => simp [intOf]; omega
     ·have hp0i : ¬ (0 : Int) < (part : Int) := by omega
      rw [decide_eq_false hp0, nm_dots _ hdot] at hI
      have HF : Hid (nameOk s = false) := by show nameOk s = _; unfold nameOk; rw [<- hI]; simp
      clear hI
      go_wp2
      go_ret
      exact ⟨by rw [HF.out]; rfl, rfl⟩
    ·rw [nm_other _ _ hlet hdot] at hI
     have HF : Hid (nameOk s = false) := by show nameOk s = _; unfold nameOk; rw [<- hI]; simp
     have h46 : ((s[k].toNat : Int) == 46) = false := by simp; omega
     clear hI
     by_cases h1 : 97 <= s[k].toNat
     ·have h1i : (97 : Int) <= (s[k].toNat : Int) := by omega
      have h2i : ¬ (s[k].toNat : Int) <= 122 := by omega
      go_wp2
      go_ret
      exact ⟨by rw [HF.out]; rfl, rfl⟩
     ·have h1i : ¬ (97 : Int) <= (s[k].toNat : Int) := by omega
      go_wp2
      go_ret
      exact ⟨by rw [HF.out]; rfl, rfl⟩
  ·have hki : ¬ (k : Int) < (s.size : Int) := by omega
   have hI := HI.out
   rw [drop_end s k hlt] at hI
   change decide (0 < part) = _ at hI
   clear HI
   by_cases hin : 1 <= s.size /\ s.size <= 20
   ·have h1 : (1 : Int) <= (s.size : Int) := by omega
    have h2 : (s.size : Int) <= 20 := by omega
    by_cases hp0 : 0 < part
    ·have hp0i : (0 : Int) < (part : Int) := by omega
     have HF : Hid (nameOk s = true) := by show nameOk s = _; unfold nameOk; rw [<- hI, decide_eq_true hin.2, decide_eq_true hp0]; rfl
     clear hI
     go_wp2_with (go_at_call 30; refine (in_yes _ _ _ _ h1 h2).mono ?_; rintro e w' ⟨rfl, rfl⟩)
     go_ret
     exact ⟨by rw [HF.out]; rfl, rfl⟩
    ·have hp0i : ¬ (0 : Int) < (part : Int) := by omega
     have HF : Hid (nameOk s = false) := by show nameOk s = _; unfold nameOk; rw [<- hI, decide_eq_false hp0]; simp
     clear hI
     go_wp2_with (go_at_call 30; refine (in_yes _ _ _ _ h1 h2).mono ?_; rintro e w' ⟨rfl, rfl⟩)
     go_ret
     exact ⟨by rw [HF.out]; rfl, rfl⟩
   ·have HF : Hid (nameOk s = false) := by
     show nameOk s = _
     unfold nameOk
     rw [<- hI]
     by_cases h20 : s.size <= 20
     ·rw [decide_eq_false (show ¬ 0 < part by omega)]; simp
     ·rw [decide_eq_false h20]; simp
    have hno : (s.size : Int) < 1 ∨ (20 : Int) < (s.size : Int) := by omega
    clear hI
    go_wp2_with (go_at_call 30; refine (in_no _ _ _ _ hno).mono ?_; rintro e w' ⟨rfl, rfl⟩)
    go_ret
    exact ⟨by rw [HF.out]; rfl, rfl⟩
theorem implName_any (s : ByteArray) (w : World) (hs : s.size <= 1000000000000) : Calls Tryz.prog 136 #[.string s] w fun e w' => e = .returned (.bool (nameOk s)) /\ Below w.heap.size w w' := by
 by_cases h20 : 20 < s.size
 ·have h20i : (20 : Int) < (s.size : Int) := by omega
  have HF : Hid (nameOk s = false) := by show nameOk s = _; unfold nameOk; rw [decide_eq_false (by omega)]; rfl
  go_enter Tryz.func136, Tryz.ntmps136
  go_wp2
  go_ret
  exact ⟨by rw [HF.out]; rfl, Below.refl _ _⟩
 have h20i : ¬ (20 : Int) < (s.size : Int) := by omega
 have hbl : ∀ pos, Below w.heap.size w (w.iter s pos) := fun pos => (Below.refl _ _).alloc (Nat.le_refl _) _
 have HB : Hid (∀ pos, Below w.heap.size w (w.iter s pos)) := hbl
 clear hbl
 go_enter Tryz.func136, Tryz.ntmps136
 go_wp2
 go_loopw [3] (fun bv wr => ∃ (pos : Nat) (p : Bool) (z : Int), bv = .int .i32 z /\ (z == 46) = !p /\ Hid (nmL (s.data.toList.drop pos) p = nmL s.data.toList false) /\ w.iter s pos = wr) (fun _ wr => s.size - wr.iterPos w.heap.size)
 case atStart => exact ⟨0, false, 46, rfl, rfl, by show _ = _; simp, rfl⟩
 case round =>
  obtain ⟨pos, p, z, rfl, hz, HI, rfl⟩ := hrel
  by_cases hlt : pos < s.size
  ·have hd := drop_at s pos hlt
   have hI := HI.out
   rw [hd] at hI
   clear HI hd
   by_cases hhi : 128 <= s[pos].toNat
   ·have hnx : ∀ ty, (Instr.next (.pointer (some ⟨w.heap.size, 0, none⟩)) true ty).run Tryz.prog (w.iter s pos) = _ := fun ty => run_next_any w s pos ty hlt
    have hdh := (decode_high s pos hlt hhi).1
    rw [nm_other _ _ (by omega) (by omega)] at hI
    have HF : Hid (nameOk s = false) := by show nameOk s = _; unfold nameOk; rw [<- hI]; simp
    clear hI
    generalize (Utf8.decode s pos).1 = r at *
    have q1 : ((r : Int) == 46) = false := by simp; omega
    have q2 : ¬ (r : Int) < 97 := by omega
    have q3 : (122 : Int) < (r : Int) := by omega
    go_wp2
    go_ret
    exact ⟨by rw [HF.out]; rfl, HB.out _⟩
   ·have hnx : ∀ ty, (Instr.next (.pointer (some ⟨w.heap.size, 0, none⟩)) true ty).run Tryz.prog (w.iter s pos) = _ := fun ty => run_next_ascii w s pos ty hlt (by omega)
    by_cases hdot : s[pos].toNat = 46
    ·have q1 : ((s[pos].toNat : Int) == 46) = true := by simp; omega
     cases p with
     | false =>
      rw [nm_dots _ hdot] at hI
      have HF : Hid (nameOk s = false) := by show nameOk s = _; unfold nameOk; rw [<- hI]; simp
      clear hI
      simp only [Bool.not_false] at hz
      go_wp2
      go_ret
      exact ⟨by rw [HF.out]; rfl, HB.out _⟩
     | true =>
      rw [nm_dot _ hdot] at hI
      have HN : Hid (nmL (s.data.toList.drop (pos + 1)) false = nmL s.data.toList false) := hI
      clear hI
      simp only [Bool.not_true] at hz
      go_wp2
      go_roundw
      case rel => exact ⟨pos + 1, false, _, rfl, by first | (simp; done) | simpa using q1, HN, rfl⟩
      case measure => simp; omega
    ·have q1 : ((s[pos].toNat : Int) == 46) = false := by simp; omega
     by_cases hlet : 97 <= s[pos].toNat /\ s[pos].toNat <= 122
     ·rw [nm_letter _ _ hlet.1 hlet.2] at hI
      have HN : Hid (nmL (s.data.toList.drop (pos + 1)) true = nmL s.data.toList false) := hI
      have q2 : ¬ (s[pos].toNat : Int) < 97 := by omega
      have q3 : ¬ (122 : Int) < (s[pos].toNat : Int) := by omega
      clear hI
      go_wp2
      go_roundw
      case rel => exact ⟨pos + 1, true, _, rfl, by first | (simp; done) | simpa using q1, HN, rfl⟩
      case measure => simp; omega
     ·rw [nm_other _ _ hlet hdot] at hI
      have HF : Hid (nameOk s = false) := by show nameOk s = _; unfold nameOk; rw [<- hI]; simp
      clear hI
      by_cases h97 : s[pos].toNat < 97
      ·have q2 : (s[pos].toNat : Int) < 97 := by omega
       go_wp2
       go_ret
       exact ⟨by rw [HF.out]; rfl, HB.out _⟩
      ·have q2 : ¬ (s[pos].toNat : Int) < 97 := by omega
       have q3 : (122 : Int) < (s[pos].toNat : Int) := by omega
       go_wp2
       go_ret
       exact ⟨by rw [HF.out]; rfl, HB.out _⟩
  ·have hnx : ∀ ty, (Instr.next (.pointer (some ⟨w.heap.size, 0, none⟩)) true ty).run Tryz.prog (w.iter s pos) = _ := fun ty => run_next_end w s pos ty hlt
   have hI := HI.out
   rw [drop_end s pos hlt] at hI
   change p = _ at hI
   have HF : Hid (nameOk s = p) := by show nameOk s = _; unfold nameOk; rw [<- hI, decide_eq_true (show s.size <= 20 by omega)]; rfl
   clear hI HI
   have hz2 : (z != 46) = p := by show (!(z == 46)) = p; rw [hz]; simp
   go_wp2
   go_ret
   refine ⟨?_, HB.out _⟩
   rw [HF.out, <- hz2]
   rfl
end Go.Proofs.YtabfamhaihnccaaGreat
namespace Go.Proofs.YtabfamhaihnccaaGreat
open Go.RowKit
set_option linter.unusedVariables false
theorem IntAt.each {w : World} {v : Value} {l : List Int} (h : IntAt w v l) : ∃ ao cap, v = .slice ao l.length cap /\ ∀ j, j < l.length -> ∃ g, ao = some ⟨g, 0, none⟩ /\ g < w.heap.size /\ w.cell? ⟨g, j, none⟩ = some (.int .i64 (l.getD j 0)) := by
 obtain ⟨ao, cap, hv, h⟩ := h
 refine ⟨ao, cap, hv, fun j hj => ?_⟩
 obtain ⟨g, hg, hlt, hc⟩ := h (by omega)
 refine ⟨g, hg, hlt, ?_⟩
 rw [hc j hj]
 simp [List.getD, hj]
theorem specTok_any (v : Value) (l : List ByteArray) (w : World) (hl : l.length <= 1000000000) (hsz : ∀ s ∈ l, s.size <= 1000000000000) (h : TxtAt w v l) : Calls Tryz.prog 151 #[v] w fun e w' => e = .returned (.bool (namesOk l)) /\ Below w.heap.size w w' := by
 obtain ⟨ao, cap, rfl, hc⟩ := h
 have HC : Hid (∀ j, j < l.length -> ∃ g, ao = some ⟨g, 0, none⟩ /\ g < w.heap.size /\ w.cell? ⟨g, j, none⟩ = some (Value.string (l.getD j ByteArray.empty))) := hc
 have HS : Hid (∀ s ∈ l, s.size <= 1000000000000) := hsz
 clear hc hsz
 go_enter Tryz.func151, Tryz.ntmps151
 go_wp2
 go_loopw [3] (fun iv wr => ∃ k : Nat, k <= l.length /\ iv = .int .i64 k /\ Hid ((∀ j, j < k -> nameOk (l.getD j ByteArray.empty) = true) /\ ∀ j, 0 < j -> j < k -> lsB (l.getD (j - 1) ByteArray.empty) (l.getD j ByteArray.empty) = true) /\ Below w.heap.size w wr) (fun iv _ => l.length - (intOf iv).toNat)
 case atStart => exact ⟨0, Nat.zero_le _, rfl, ⟨fun j hj => absurd hj (Nat.not_lt_zero _), fun j _ hj => absurd hj (Nat.not_lt_zero _)⟩, Below.refl _ _⟩
 case round =>
  obtain ⟨k, hk, rfl, HI, hbel⟩ := hrel
  by_cases hlt : k < l.length
  ·obtain ⟨g, hao, hg, hcx⟩ := HC.out k hlt
   have c1 : wr.cell? ⟨g, k, none⟩ = some (Value.string (l.getD k ByteArray.empty)) := (hbel.cell (p := ⟨g, k, none⟩) hg).trans hcx
   have hki : (k : Int) < (l.length : Int) := by omega
   have hk0 : (0 : Int) <= (k : Int) := by omega
   have hb2 : Hid (Below w.heap.size w wr) := hbel
   have HQ1 : Hid (nameOk (l.getD k ByteArray.empty) = false -> namesOk l = false) := fun q => ok_bad k hlt q
   have HQ2 : Hid (0 < k -> lsB (l.getD (k - 1) ByteArray.empty) (l.getD k ByteArray.empty) = false -> namesOk l = false) := fun h0 q => ok_down k h0 hlt q
   have HQ3 : Hid (nameOk (l.getD k ByteArray.empty) = true -> (0 < k -> lsB (l.getD (k - 1) ByteArray.empty) (l.getD k ByteArray.empty) = true) -> (∀ j, j < k + 1 -> nameOk (l.getD j ByteArray.empty) = true) /\ ∀ j, 0 < j -> j < k + 1 -> lsB (l.getD (j - 1) ByteArray.empty) (l.getD j ByteArray.empty) = true) := fun q q2 => ⟨fun j hj => by
     by_cases e : j = k
     ·rw [e]; exact q
     ·exact HI.out.1 j (by omega), fun j h0 hj => by
     by_cases e : j = k
     ·rw [e]; exact q2 (by omega)
     ·exact HI.out.2 j h0 (by omega)⟩
   have hxs : (l.getD k ByteArray.empty).size <= 1000000000000 := HS.out _ (by rw [List.getD_eq_getElem?_getD, List.getElem?_eq_getElem hlt]; exact List.getElem_mem _)
   have HY : Hid (0 < k -> wr.cell? ⟨g, k - 1, none⟩ = some (Value.string (l.getD (k - 1) ByteArray.empty))) := fun h0 => by
    obtain ⟨g2, e2, hg2, hcy⟩ := HC.out (k - 1) (by omega)
    rw [hao] at e2
    simp at e2
    subst e2
    exact (hbel.cell (p := ⟨g, k - 1, none⟩) hg2).trans hcy
   generalize hx : l.getD k ByteArray.empty = x at *
   generalize hy : l.getD (k - 1) ByteArray.empty = y at *
   subst hao
   clear hcx hbel HI hx hy
   cases hok : nameOk x with
   | false =>
    have HF : Hid (namesOk l = false) := HQ1.out hok
    have EQ : Hid (∀ W, Calls Tryz.prog 124 #[.string x] W fun e w' => e = .returned (.bool false) /\ w' = W) := fun W => (specName_any x W hxs).mono (by rintro e w' ⟨rfl, rfl⟩; exact ⟨by rw [hok], rfl⟩)
    clear HQ1 HQ2 HQ3
    go_wp2_with fail
    go_quiet (exact Calls.quiet_of_same (EQ.out _))
    go_wp2_with fail
    go_ret
    exact ⟨by rw [HF.out]; rfl, below_drewN hb2.out _⟩
   | true =>
    have EQ : Hid (∀ W, Calls Tryz.prog 124 #[.string x] W fun e w' => e = .returned (.bool true) /\ w' = W) := fun W => (specName_any x W hxs).mono (by rintro e w' ⟨rfl, rfl⟩; exact ⟨by rw [hok], rfl⟩)
    by_cases hz : 0 < k
    ·have hzi : (0 : Int) < (k : Int) := by omega
     have c2 := HY.out hz
     have wk : IntKind.i64.wrap ((k : Int) - 1) = ((k - 1 : Nat) : Int) := by rw [IntKind.wrap_i64]; omega
     have hk1i : ((k - 1 : Nat) : Int) < (l.length : Int) := by omega
     have hk10 : (0 : Int) <= ((k - 1 : Nat) : Int) := by omega
     cases hl : lsB y x with
     | false =>
      have qc : Op.bytesLess y.toList x.toList = false := hl
      have HF : Hid (namesOk l = false) := HQ2.out hz hl
      clear HQ1 HQ2 HQ3 hl
      generalize k - 1 = m at *
      go_wp2_with fail
      go_quiet (exact Calls.quiet_of_same (EQ.out _))
      go_wp2_with fail
      go_ret
      exact ⟨by rw [HF.out]; rfl, below_drewN hb2.out _⟩
     | true =>
      have qc : Op.bytesLess y.toList x.toList = true := hl
      have HN : Hid ((∀ j, j < k + 1 -> nameOk (l.getD j ByteArray.empty) = true) /\ ∀ j, 0 < j -> j < k + 1 -> lsB (l.getD (j - 1) ByteArray.empty) (l.getD j ByteArray.empty) = true) := HQ3.out hok fun _ => hl
      clear HQ1 HQ2 HQ3 hl
      generalize k - 1 = m at *
      go_wp2_with fail
      go_quiet (exact Calls.quiet_of_same (EQ.out _))
      go_wp2_with fail
      go_roundw
      case rel => exact ⟨k + 1, by omega, by go_num, HN, below_drewN hb2.out _⟩
      case measure => simp [intOf]; omega
    ·have hzi : ¬ (0 : Int) < (k : Int) := by omega
     have HN : Hid ((∀ j, j < k + 1 -> nameOk (l.getD j ByteArray.empty) = true) /\ ∀ j, 0 < j -> j < k + 1 -> lsB (l.getD (j - 1) ByteArray.empty) (l.getD j ByteArray.empty) = true) := HQ3.out hok fun q => absurd q hz
     clear HQ1 HQ2 HQ3
     go_wp2_with fail
     go_quiet (exact Calls.quiet_of_same (EQ.out _))
     go_wp2_with fail
     go_roundw
     case rel => exact ⟨k + 1, by omega, by go_num, HN, below_drewN hb2.out _⟩
     case measure => simp [intOf]; omega
  ·have hkl : k = l.length := by omega
   subst hkl
   have HF : Hid (namesOk l = decide (l.length <= 4)) := ok_end HI.out.1 HI.out.2
   by_cases h4 : l.length <= 4
   ·have h4i : (l.length : Int) <= 4 := by omega
    have HG : Hid (namesOk l = true) := by show namesOk l = _; rw [HF.out, decide_eq_true h4]
    go_wp2
    go_ret
    exact ⟨by rw [HG.out]; rfl, hbel⟩
   ·have h4i : ¬ (l.length : Int) <= 4 := by omega
    have HG : Hid (namesOk l = false) := by show namesOk l = _; rw [HF.out, decide_eq_false h4]
    go_wp2
    go_ret
    exact ⟨by rw [HG.out]; rfl, hbel⟩
theorem ascT_any (v : Value) (l : List ByteArray) (w : World) (hl : l.length <= 1000000000) (h : TxtAt w v l) : Calls Tryz.prog 189 #[v] w fun e w' => e = .returned (.bool (ascG lsB ByteArray.empty l)) /\ Below w.heap.size w w' := by
 obtain ⟨ao, cap, rfl, hc⟩ := h
 have HC : Hid (∀ j, j < l.length -> ∃ g, ao = some ⟨g, 0, none⟩ /\ g < w.heap.size /\ w.cell? ⟨g, j, none⟩ = some (Value.string (l.getD j ByteArray.empty))) := hc
 clear hc
 go_enter Tryz.func189, Tryz.ntmps189
 go_wp2
 go_loopw [3] (fun iv wr => ∃ k : Nat, 1 <= k /\ (k <= l.length ∨ k = 1) /\ iv = .int .i64 k /\ Hid (∀ j, 0 < j -> j < k -> lsB (l.getD (j - 1) ByteArray.empty) (l.getD j ByteArray.empty) = true) /\ Below w.heap.size w wr) (fun iv _ => l.length - (intOf iv).toNat)
 case atStart => exact ⟨1, Nat.le_refl _, .inr rfl, rfl, fun j h0 hj => by omega, Below.refl _ _⟩
 case round =>
  obtain ⟨k, hk1, hk, rfl, HI, hbel⟩ := hrel
  by_cases hlt : k < l.length
  ·obtain ⟨g, hao, hg, hcx⟩ := HC.out k hlt
   obtain ⟨g2, e2, hg2, hcy⟩ := HC.out (k - 1) (by omega)
   rw [hao] at e2
   simp at e2
   subst e2
   have c1 : wr.cell? ⟨g, k, none⟩ = some (Value.string (l.getD k ByteArray.empty)) := (hbel.cell (p := ⟨g, k, none⟩) hg).trans hcx
   have c2 : wr.cell? ⟨g, k - 1, none⟩ = some (Value.string (l.getD (k - 1) ByteArray.empty)) := (hbel.cell (p := ⟨g, k - 1, none⟩) hg2).trans hcy
   have hki : (k : Int) < (l.length : Int) := by omega
   have hk0 : (0 : Int) <= (k : Int) := by omega
   have hb2 : Hid (Below w.heap.size w wr) := hbel
   have wk : IntKind.i64.wrap ((k : Int) - 1) = ((k - 1 : Nat) : Int) := by rw [IntKind.wrap_i64]; omega
   have hk1i : ((k - 1 : Nat) : Int) < (l.length : Int) := by omega
   have hk10 : (0 : Int) <= ((k - 1 : Nat) : Int) := by omega
   have HQ2 : Hid (lsB (l.getD (k - 1) ByteArray.empty) (l.getD k ByteArray.empty) = false -> ascG lsB ByteArray.empty l = false) := fun q => asc_no k (by omega) hlt q
   have HQ3 : Hid (lsB (l.getD (k - 1) ByteArray.empty) (l.getD k ByteArray.empty) = true -> ∀ j, 0 < j -> j < k + 1 -> lsB (l.getD (j - 1) ByteArray.empty) (l.getD j ByteArray.empty) = true) := fun q2 j h0 hj => by
     by_cases e : j = k
     ·rw [e]; exact q2
     ·exact HI.out j h0 (by omega)
   generalize hx : l.getD k ByteArray.empty = x at *
   generalize hy : l.getD (k - 1) ByteArray.empty = y at *
   subst hao
   clear hcx hcy hbel HI hx hy
   cases hl : lsB y x with
   | false =>
    have qc : Op.bytesLess y.toList x.toList = false := hl
    have HF : Hid (ascG lsB ByteArray.empty l = false) := HQ2.out hl
    clear HQ2 HQ3 hl
    generalize k - 1 = m at *
    go_wp2_with fail
    go_quiet (fail)
    go_wp2_with fail
    go_ret
    exact ⟨by rw [HF.out]; rfl, below_drewN hb2.out _⟩
   | true =>
    have qc : Op.bytesLess y.toList x.toList = true := hl
    have HN : Hid (∀ j, 0 < j -> j < k + 1 -> lsB (l.getD (j - 1) ByteArray.empty) (l.getD j ByteArray.empty) = true) := HQ3.out hl
    clear HQ2 HQ3 hl
    generalize k - 1 = m at *
    go_wp2_with fail
    go_quiet (fail)
    go_wp2_with fail
    go_roundw
    case rel => exact ⟨k + 1, by omega, .inl (by omega), by go_num, HN, below_drewN hb2.out _⟩
    case measure => simp [intOf]; omega
  ·have hki : ¬ (k : Int) < (l.length : Int) := by omega
   have HF : Hid (ascG lsB ByteArray.empty l = true) := asc_yes fun j h0 hj => HI.out j h0 (by omega)
   go_wp2
   go_ret
   exact ⟨by rw [HF.out]; rfl, hbel⟩
theorem implTok_any (v : Value) (l : List ByteArray) (w : World) (hl : l.length <= 1000000000) (hsz : ∀ s ∈ l, s.size <= 1000000000000) (h : TxtAt w v l) : Calls Tryz.prog 161 #[v] w fun e w' => e = .returned (.bool (namesOk l)) /\ Below w.heap.size w w' := by
 have HT : Hid (TxtAt w v l) := h
 obtain ⟨ao, cap, rfl, hc⟩ := h
 have HC : Hid (∀ j, j < l.length -> ∃ g, ao = some ⟨g, 0, none⟩ /\ g < w.heap.size /\ w.cell? ⟨g, j, none⟩ = some (Value.string (l.getD j ByteArray.empty))) := hc
 have HS : Hid (∀ s ∈ l, s.size <= 1000000000000) := hsz
 clear hc hsz
 by_cases h4 : 4 < l.length
 ·have h4i : (4 : Int) < (l.length : Int) := by omega
  have HF : Hid (namesOk l = false) := ok_long h4
  go_enter Tryz.func161, Tryz.ntmps161
  go_wp2
  go_ret
  exact ⟨by rw [HF.out]; rfl, Below.refl _ _⟩
 have h4i : ¬ (4 : Int) < (l.length : Int) := by omega
 go_enter Tryz.func161, Tryz.ntmps161
 go_wp2
 go_loopw [10] (fun iv wr => ∃ k : Nat, k <= l.length /\ iv = .int .i64 k /\ Hid (∀ j, j < k -> nameOk (l.getD j ByteArray.empty) = true) /\ Below w.heap.size w wr) (fun iv _ => l.length - (intOf iv).toNat)
 case atStart => exact ⟨0, Nat.zero_le _, rfl, fun j hj => absurd hj (Nat.not_lt_zero _), Below.refl _ _⟩
 case round =>
  obtain ⟨k, hk, rfl, HI, hbel⟩ := hrel
  by_cases hlt : k < l.length
  ·obtain ⟨g, hao, hg, hcx⟩ := HC.out k hlt
   have c1 : wr.cell? ⟨g, k, none⟩ = some (Value.string (l.getD k ByteArray.empty)) := (hbel.cell (p := ⟨g, k, none⟩) hg).trans hcx
   have hki : (k : Int) < (l.length : Int) := by omega
   have hk0 : (0 : Int) <= (k : Int) := by omega
   have HQ1 : Hid (nameOk (l.getD k ByteArray.empty) = false -> namesOk l = false) := fun q => ok_bad k hlt q
   have HQ3 : Hid (nameOk (l.getD k ByteArray.empty) = true -> ∀ j, j < k + 1 -> nameOk (l.getD j ByteArray.empty) = true) := fun q j hj => by
     by_cases e : j = k
     ·rw [e]; exact q
     ·exact HI.out j (by omega)
   have hxs : (l.getD k ByteArray.empty).size <= 1000000000000 := HS.out _ (by rw [List.getD_eq_getElem?_getD, List.getElem?_eq_getElem hlt]; exact List.getElem_mem _)
   have hb2 : Hid (Below w.heap.size w wr) := hbel
   generalize hx : l.getD k ByteArray.empty = x at *
   have EC := fun w => implName_any x w hxs
   subst hao
   clear hcx HI hx hbel
   cases hok : nameOk x with
   | false =>
    have HF : Hid (namesOk l = false) := HQ1.out hok
    rw [hok] at EC
    clear HQ1 HQ3
    go_wp2_with (go_at_call 136; refine (EC _).mono ?_; rintro e w' ⟨rfl, hb1⟩)
    go_ret
    exact ⟨by rw [HF.out]; rfl, hb2.out.trans (hb1.mono hb2.out.size)⟩
   | true =>
    have HN : Hid (∀ j, j < k + 1 -> nameOk (l.getD j ByteArray.empty) = true) := HQ3.out hok
    rw [hok] at EC
    clear HQ1 HQ3
    go_wp2_with (go_at_call 136; refine (EC _).mono ?_; rintro e w' ⟨rfl, hb1⟩)
    go_roundw
    case rel => exact ⟨k + 1, by omega, by go_num, HN, hb2.out.trans (hb1.mono hb2.out.size)⟩
    case measure => simp [intOf]; omega
  ·have hki : ¬ (k : Int) < (l.length : Int) := by omega
   have hkl : k = l.length := by omega
   subst hkl
   have HF : Hid (namesOk l = ascG lsB ByteArray.empty l) := ok_asc HI.out (by omega)
   have EC : Hid (Calls Tryz.prog 189 #[.slice ao l.length cap] wr fun e w' => e = .returned (.bool (ascG lsB ByteArray.empty l)) /\ Below wr.heap.size wr w') := ascT_any _ l wr hl (HT.out.below hbel)
   have hb2 : Hid (Below w.heap.size w wr) := hbel
   clear hbel HI
   generalize ascG lsB ByteArray.empty l = b at *
   go_wp2_with (go_at_call 189; refine (EC.out).mono ?_; rintro e w' ⟨rfl, hb1⟩)
   go_ret
   exact ⟨by rw [HF.out]; rfl, hb2.out.trans (hb1.mono hb2.out.size)⟩
theorem specIok_any (v : Value) (l : List Int) (w : World) (hl : l.length <= 1000000000) (h : IntAt w v l) : Calls Tryz.prog 125 #[v] w fun e w' => e = .returned (.bool (polOk l)) /\ Below w.heap.size w w' := by
 obtain ⟨ao, cap, rfl, hc⟩ := h.each
 have HC : Hid (∀ j, j < l.length -> ∃ g, ao = some ⟨g, 0, none⟩ /\ g < w.heap.size /\ w.cell? ⟨g, j, none⟩ = some (Value.int .i64 (l.getD j 0))) := hc
 clear hc h
 go_enter Tryz.func125, Tryz.ntmps125
 go_wp2
 go_loopw [3] (fun iv wr => ∃ k : Nat, k <= l.length /\ iv = .int .i64 k /\ Hid ((∀ j, j < k -> polIn (l.getD j 0) = true) /\ ∀ j, 0 < j -> j < k -> lsI (l.getD (j - 1) 0) (l.getD j 0) = true) /\ Below w.heap.size w wr) (fun iv _ => l.length - (intOf iv).toNat)
 case atStart => exact ⟨0, Nat.zero_le _, rfl, ⟨fun j hj => absurd hj (Nat.not_lt_zero _), fun j _ hj => absurd hj (Nat.not_lt_zero _)⟩, Below.refl _ _⟩
 case round =>
  obtain ⟨k, hk, rfl, HI, hbel⟩ := hrel
  by_cases hlt : k < l.length
  ·obtain ⟨g, hao, hg, hcx⟩ := HC.out k hlt
   have c1 : wr.cell? ⟨g, k, none⟩ = some (Value.int .i64 (l.getD k 0)) := (hbel.cell (p := ⟨g, k, none⟩) hg).trans hcx
   have hki : (k : Int) < (l.length : Int) := by omega
   have hk0 : (0 : Int) <= (k : Int) := by omega
   have hb2 : Hid (Below w.heap.size w wr) := hbel
   have HQ1 : Hid (polIn (l.getD k 0) = false -> polOk l = false) := fun q => ok_bad k hlt q
   have HQ2 : Hid (0 < k -> lsI (l.getD (k - 1) 0) (l.getD k 0) = false -> polOk l = false) := fun h0 q => ok_down k h0 hlt q
   have HQ3 : Hid (polIn (l.getD k 0) = true -> (0 < k -> lsI (l.getD (k - 1) 0) (l.getD k 0) = true) -> (∀ j, j < k + 1 -> polIn (l.getD j 0) = true) /\ ∀ j, 0 < j -> j < k + 1 -> lsI (l.getD (j - 1) 0) (l.getD j 0) = true) := fun q q2 => ⟨fun j hj => by
     by_cases e : j = k
     ·rw [e]; exact q
     ·exact HI.out.1 j (by omega), fun j h0 hj => by
     by_cases e : j = k
     ·rw [e]; exact q2 (by omega)
     ·exact HI.out.2 j h0 (by omega)⟩
   have HY : Hid (0 < k -> wr.cell? ⟨g, k - 1, none⟩ = some (Value.int .i64 (l.getD (k - 1) 0))) := fun h0 => by
    obtain ⟨g2, e2, hg2, hcy⟩ := HC.out (k - 1) (by omega)
    rw [hao] at e2
    simp at e2
    subst e2
    exact (hbel.cell (p := ⟨g, k - 1, none⟩) hg2).trans hcy
   generalize hx : l.getD k 0 = x at *
   generalize hy : l.getD (k - 1) 0 = y at *
   subst hao
   clear hcx hbel HI hx hy
   cases hok : polIn x with
   | false =>
    have HF : Hid (polOk l = false) := HQ1.out hok
    have hno : x < 0 ∨ (99 : Int) < x := by unfold polIn at hok; rw [decide_eq_false_iff_not] at hok; omega
    have EQ : Hid (∀ W, Calls Tryz.prog 30 #[.int .i64 x, .int .i64 0, .int .i64 99] W fun e w' => e = .returned (.bool false) /\ w' = W) := fun W => (in_no _ _ _ _ hno).mono (by rintro e w' ⟨rfl, rfl⟩; exact ⟨rfl, rfl⟩)
    clear HQ1 HQ2 HQ3
    go_wp2_with fail
    go_quiet (exact Calls.quiet_of_same (EQ.out _))
    go_wp2_with fail
    go_ret
    exact ⟨by rw [HF.out]; rfl, below_drewN hb2.out _⟩
   | true =>
    have hyes : 0 <= x /\ x <= 99 := by unfold polIn at hok; rwa [decide_eq_true_eq] at hok
    have EQ : Hid (∀ W, Calls Tryz.prog 30 #[.int .i64 x, .int .i64 0, .int .i64 99] W fun e w' => e = .returned (.bool true) /\ w' = W) := fun W => (in_yes _ _ _ _ hyes.1 hyes.2).mono (by rintro e w' ⟨rfl, rfl⟩; exact ⟨rfl, rfl⟩)
    by_cases hz : 0 < k
    ·have hzi : (0 : Int) < (k : Int) := by omega
     have c2 := HY.out hz
     have wk : IntKind.i64.wrap ((k : Int) - 1) = ((k - 1 : Nat) : Int) := by rw [IntKind.wrap_i64]; omega
     have hk1i : ((k - 1 : Nat) : Int) < (l.length : Int) := by omega
     have hk10 : (0 : Int) <= ((k - 1 : Nat) : Int) := by omega
     cases hl : lsI y x with
     | false =>
      have qc : x <= y := by have := hl; unfold lsI at this; rw [decide_eq_false_iff_not] at this; omega
      have qn : ¬ y < x := by omega
      have HF : Hid (polOk l = false) := HQ2.out hz hl
      clear HQ1 HQ2 HQ3 hl
      generalize k - 1 = m at *
      go_wp2_with fail
      go_quiet (exact Calls.quiet_of_same (EQ.out _))
      go_wp2_with fail
      go_ret
      exact ⟨by rw [HF.out]; rfl, below_drewN hb2.out _⟩
     | true =>
      have qc : y < x := by have := hl; unfold lsI at this; rwa [decide_eq_true_eq] at this
      have qn : ¬ x <= y := by omega
      have HN : Hid ((∀ j, j < k + 1 -> polIn (l.getD j 0) = true) /\ ∀ j, 0 < j -> j < k + 1 -> lsI (l.getD (j - 1) 0) (l.getD j 0) = true) := HQ3.out hok fun _ => hl
      clear HQ1 HQ2 HQ3 hl
      generalize k - 1 = m at *
      go_wp2_with fail
      go_quiet (exact Calls.quiet_of_same (EQ.out _))
      go_wp2_with fail
      go_roundw
      case rel => exact ⟨k + 1, by omega, by go_num, HN, below_drewN hb2.out _⟩
      case measure => simp [intOf]; omega
    ·have hzi : ¬ (0 : Int) < (k : Int) := by omega
     have HN : Hid ((∀ j, j < k + 1 -> polIn (l.getD j 0) = true) /\ ∀ j, 0 < j -> j < k + 1 -> lsI (l.getD (j - 1) 0) (l.getD j 0) = true) := HQ3.out hok fun q => absurd q hz
     clear HQ1 HQ2 HQ3
     go_wp2_with fail
     go_quiet (exact Calls.quiet_of_same (EQ.out _))
     go_wp2_with fail
     go_roundw
     case rel => exact ⟨k + 1, by omega, by go_num, HN, below_drewN hb2.out _⟩
     case measure => simp [intOf]; omega
  ·have hkl : k = l.length := by omega
   subst hkl
   have HF : Hid (polOk l = decide (l.length <= 4)) := ok_end HI.out.1 HI.out.2
   by_cases h4 : l.length <= 4
   ·have h4i : (l.length : Int) <= 4 := by omega
    have HG : Hid (polOk l = true) := by show polOk l = _; rw [HF.out, decide_eq_true h4]
    go_wp2
    go_ret
    exact ⟨by rw [HG.out]; rfl, hbel⟩
   ·have h4i : ¬ (l.length : Int) <= 4 := by omega
    have HG : Hid (polOk l = false) := by show polOk l = _; rw [HF.out, decide_eq_false h4]
    go_wp2
    go_ret
    exact ⟨by rw [HG.out]; rfl, hbel⟩
theorem ascI_any (v : Value) (l : List Int) (w : World) (hl : l.length <= 1000000000) (h : IntAt w v l) : Calls Tryz.prog 91 #[v] w fun e w' => e = .returned (.bool (ascG lsI 0 l)) /\ Below w.heap.size w w' := by
 obtain ⟨ao, cap, rfl, hc⟩ := h.each
 have HC : Hid (∀ j, j < l.length -> ∃ g, ao = some ⟨g, 0, none⟩ /\ g < w.heap.size /\ w.cell? ⟨g, j, none⟩ = some (Value.int .i64 (l.getD j 0))) := hc
 clear hc h
 go_enter Tryz.func91, Tryz.ntmps91
 go_wp2
 go_loopw [3] (fun iv wr => ∃ k : Nat, 1 <= k /\ (k <= l.length ∨ k = 1) /\ iv = .int .i64 k /\ Hid (∀ j, 0 < j -> j < k -> lsI (l.getD (j - 1) 0) (l.getD j 0) = true) /\ Below w.heap.size w wr) (fun iv _ => l.length - (intOf iv).toNat)
 case atStart => exact ⟨1, Nat.le_refl _, .inr rfl, rfl, fun j h0 hj => by omega, Below.refl _ _⟩
 case round =>
  obtain ⟨k, hk1, hk, rfl, HI, hbel⟩ := hrel
  by_cases hlt : k < l.length
  ·obtain ⟨g, hao, hg, hcx⟩ := HC.out k hlt
   obtain ⟨g2, e2, hg2, hcy⟩ := HC.out (k - 1) (by omega)
   rw [hao] at e2
   simp at e2
   subst e2
   have c1 : wr.cell? ⟨g, k, none⟩ = some (Value.int .i64 (l.getD k 0)) := (hbel.cell (p := ⟨g, k, none⟩) hg).trans hcx
   have c2 : wr.cell? ⟨g, k - 1, none⟩ = some (Value.int .i64 (l.getD (k - 1) 0)) := (hbel.cell (p := ⟨g, k - 1, none⟩) hg2).trans hcy
   have hki : (k : Int) < (l.length : Int) := by omega
   have hk0 : (0 : Int) <= (k : Int) := by omega
   have hb2 : Hid (Below w.heap.size w wr) := hbel
   have wk : IntKind.i64.wrap ((k : Int) - 1) = ((k - 1 : Nat) : Int) := by rw [IntKind.wrap_i64]; omega
   have hk1i : ((k - 1 : Nat) : Int) < (l.length : Int) := by omega
   have hk10 : (0 : Int) <= ((k - 1 : Nat) : Int) := by omega
   have HQ2 : Hid (lsI (l.getD (k - 1) 0) (l.getD k 0) = false -> ascG lsI 0 l = false) := fun q => asc_no k (by omega) hlt q
   have HQ3 : Hid (lsI (l.getD (k - 1) 0) (l.getD k 0) = true -> ∀ j, 0 < j -> j < k + 1 -> lsI (l.getD (j - 1) 0) (l.getD j 0) = true) := fun q2 j h0 hj => by
     by_cases e : j = k
     ·rw [e]; exact q2
     ·exact HI.out j h0 (by omega)
   generalize hx : l.getD k 0 = x at *
   generalize hy : l.getD (k - 1) 0 = y at *
   subst hao
   clear hcx hcy hbel HI hx hy
   cases hl : lsI y x with
   | false =>
    have qc : x <= y := by have := hl; unfold lsI at this; rw [decide_eq_false_iff_not] at this; omega
    have qn : ¬ y < x := by omega
    have HF : Hid (ascG lsI 0 l = false) := HQ2.out hl
    clear HQ2 HQ3 hl
    generalize k - 1 = m at *
    go_wp2_with fail
    go_quiet (fail)
    go_wp2_with fail
    go_ret
    exact ⟨by rw [HF.out]; rfl, below_drewN hb2.out _⟩
   | true =>
    have qc : y < x := by have := hl; unfold lsI at this; rwa [decide_eq_true_eq] at this
    have qn : ¬ x <= y := by omega
    have HN : Hid (∀ j, 0 < j -> j < k + 1 -> lsI (l.getD (j - 1) 0) (l.getD j 0) = true) := HQ3.out hl
    clear HQ2 HQ3 hl
    generalize k - 1 = m at *
    go_wp2_with fail
    go_quiet (fail)
    go_wp2_with fail
    go_roundw
    case rel => exact ⟨k + 1, by omega, .inl (by omega), by go_num, HN, below_drewN hb2.out _⟩
    case measure => simp [intOf]; omega
  ·have hki : ¬ (k : Int) < (l.length : Int) := by omega
   have HF : Hid (ascG lsI 0 l = true) := asc_yes fun j h0 hj => HI.out j h0 (by omega)
   go_wp2
   go_ret
   exact ⟨by rw [HF.out]; rfl, hbel⟩
theorem implIok_any (v : Value) (l : List Int) (w : World) (hl : l.length <= 1000000000) (h : IntAt w v l) : Calls Tryz.prog 160 #[v] w fun e w' => e = .returned (.bool (polOk l)) /\ Below w.heap.size w w' := by
 have HT : Hid (IntAt w v l) := h
 obtain ⟨ao, cap, rfl, hc⟩ := h.each
 have HC : Hid (∀ j, j < l.length -> ∃ g, ao = some ⟨g, 0, none⟩ /\ g < w.heap.size /\ w.cell? ⟨g, j, none⟩ = some (Value.int .i64 (l.getD j 0))) := hc
 clear hc h
 by_cases h4 : 4 < l.length
 ·have h4i : (4 : Int) < (l.length : Int) := by omega
  have HF : Hid (polOk l = false) := ok_long h4
  go_enter Tryz.func160, Tryz.ntmps160
  go_wp2
  go_ret
  exact ⟨by rw [HF.out]; rfl, Below.refl _ _⟩
 have h4i : ¬ (4 : Int) < (l.length : Int) := by omega
 go_enter Tryz.func160, Tryz.ntmps160
 go_wp2
 go_loopw [10] (fun iv wr => ∃ k : Nat, k <= l.length /\ iv = .int .i64 k /\ Hid (∀ j, j < k -> polIn (l.getD j 0) = true) /\ Below w.heap.size w wr) (fun iv _ => l.length - (intOf iv).toNat)
 case atStart => exact ⟨0, Nat.zero_le _, rfl, fun j hj => absurd hj (Nat.not_lt_zero _), Below.refl _ _⟩
 case round =>
  obtain ⟨k, hk, rfl, HI, hbel⟩ := hrel
  by_cases hlt : k < l.length
  ·obtain ⟨g, hao, hg, hcx⟩ := HC.out k hlt
   have c1 : wr.cell? ⟨g, k, none⟩ = some (Value.int .i64 (l.getD k 0)) := (hbel.cell (p := ⟨g, k, none⟩) hg).trans hcx
   have hki : (k : Int) < (l.length : Int) := by omega
   have hk0 : (0 : Int) <= (k : Int) := by omega
   have HQ1 : Hid (polIn (l.getD k 0) = false -> polOk l = false) := fun q => ok_bad k hlt q
   have HQ3 : Hid (polIn (l.getD k 0) = true -> ∀ j, j < k + 1 -> polIn (l.getD j 0) = true) := fun q j hj => by
     by_cases e : j = k
     ·rw [e]; exact q
     ·exact HI.out j (by omega)
   generalize hx : l.getD k 0 = x at *
   subst hao
   clear hcx HI hx
   cases hok : polIn x with
   | false =>
    have HF : Hid (polOk l = false) := HQ1.out hok
    have hno : x < 0 ∨ (99 : Int) < x := by unfold polIn at hok; rw [decide_eq_false_iff_not] at hok; omega
    clear HQ1 HQ3 hok
    by_cases hneg : x < 0
    ·go_wp2
     go_ret
     exact ⟨by rw [HF.out]; rfl, hbel⟩
    ·have hgt : (99 : Int) < x := by omega
     go_wp2
     go_ret
     exact ⟨by rw [HF.out]; rfl, hbel⟩
   | true =>
    have HN : Hid (∀ j, j < k + 1 -> polIn (l.getD j 0) = true) := HQ3.out hok
    have hyes : 0 <= x /\ x <= 99 := by unfold polIn at hok; rwa [decide_eq_true_eq] at hok
    have hneg : ¬ x < 0 := by omega
    have hgt : ¬ (99 : Int) < x := by omega
    clear HQ1 HQ3 hok
    go_wp2
    go_roundw
    case rel => exact ⟨k + 1, by omega, by go_num, HN, hbel⟩
    case measure => simp [intOf]; omega
  ·have hki : ¬ (k : Int) < (l.length : Int) := by omega
   have hkl : k = l.length := by omega
   subst hkl
   have HF : Hid (polOk l = ascG lsI 0 l) := ok_asc HI.out (by omega)
   have EC : Hid (Calls Tryz.prog 91 #[.slice ao l.length cap] wr fun e w' => e = .returned (.bool (ascG lsI 0 l)) /\ Below wr.heap.size wr w') := ascI_any _ l wr hl (HT.out.below hbel)
   have hb2 : Hid (Below w.heap.size w wr) := hbel
   clear hbel HI
   generalize ascG lsI 0 l = b at *
   go_wp2_with (go_at_call 91; refine (EC.out).mono ?_; rintro e w' ⟨rfl, hb1⟩)
   go_ret
   exact ⟨by rw [HF.out]; rfl, hb2.out.trans (hb1.mono hb2.out.size)⟩
def inB (n lo hi : Int) : Bool := decide (lo <= n /\ n <= hi)
def certOk (c : Ct) : Bool := inB c.serial 0 9999 && (inB c.frm 0 9999 && (inB c.upto 0 9999 && (nameOk c.issuer && (nameOk c.subject && (decide (c.key.size = 15) && (inB c.pathLen 0 99 && (inB c.usage 0 7 && (polOk c.pol && (namesOk c.per && (namesOk c.den && decide (c.sig.size = 15)))))))))))
theorem wt_parts {c : Ct} {b : Nat} (h : wtC c <= b) : c.issuer.size <= b /\ c.subject.size <= b /\ c.key.size <= b /\ c.pol.length <= b /\ c.per.length <= b /\ c.den.length <= b /\ c.sig.size <= b /\ (∀ s ∈ c.per, s.size <= b) /\ ∀ s ∈ c.den, s.size <= b := by
 unfold wtC at h
 have h1 := tot_len c.per
 have h2 := tot_len c.den
 exact ⟨by omega, by omega, by omega, by omega, by omega, by omega, by omega, fun s hs => by have := tot_mem c.per s hs; omega, fun s hs => by have := tot_mem c.den s hs; omega⟩
theorem in_any (n lo hi : Int) (w : World) : Calls Tryz.prog 30 #[.int .i64 n, .int .i64 lo, .int .i64 hi] w fun e w' => e = .returned (.bool (inB n lo hi)) /\ Below w.heap.size w w' := by
 by_cases h : lo <= n /\ n <= hi
 ·refine (in_yes _ _ _ _ h.1 h.2).mono ?_
  rintro e w' ⟨rfl, rfl⟩
  exact ⟨by simp [inB, h], Below.refl _ _⟩
 ·refine (in_no _ _ _ _ (by omega)).mono ?_
  rintro e w' ⟨rfl, rfl⟩
  exact ⟨by unfold inB; rw [decide_eq_false h], Below.refl _ _⟩
theorem num_any (n : Int) (w : World) : Calls Tryz.prog 31 #[.int .i64 n] w fun e w' => e = .returned (.bool (inB n 0 9999)) /\ Below w.heap.size w w' := by
 have E := in_any n 0 9999 w
 generalize inB n 0 9999 = b at *
 go_enter Tryz.func31, Tryz.ntmps31
 go_wp2_with fail
 refine E.mono ?_
 rintro e w' ⟨rfl, hb⟩
 go_wp2_with fail
 go_ret
 exact ⟨rfl, hb⟩
theorem specCertOk_any (c : Ct) (v : Value) (w : World) (hz : wtC c <= 1000000000) (ha : CtAt w v c) :
  Calls Tryz.prog 118 #[v] w fun e w' => e = .returned (.bool (certOk c)) /\ Below w.heap.size w w' := by
 obtain ⟨pv, ev, dv, rfl, h1, h2, h3⟩ := ha
 obtain ⟨z1, z2, z3, z4, z5, z6, z7, z8, z9⟩ := wt_parts hz
 clear hz
 obtain ⟨pa, pc, hpa⟩ : ∃ ao cap, pv = .slice ao c.pol.length cap := by obtain ⟨ao, cap, h, _⟩ := h1; exact ⟨ao, cap, h⟩
 obtain ⟨ea, ec, hea⟩ : ∃ ao cap, ev = .slice ao c.per.length cap := by obtain ⟨ao, cap, h, _⟩ := h2; exact ⟨ao, cap, h⟩
 obtain ⟨da, dc, hda⟩ : ∃ ao cap, dv = .slice ao c.den.length cap := by obtain ⟨ao, cap, h, _⟩ := h3; exact ⟨ao, cap, h⟩
 obtain ⟨lp, hlp⟩ := zE (c.pol.length)
 obtain ⟨le, hle⟩ := zE (c.per.length)
 obtain ⟨ld, hld⟩ := zE (c.den.length)
 rw [hlp] at hpa
 rw [hle] at hea
 rw [hld] at hda
 subst hpa hea hda
 obtain ⟨B1, hB1⟩ := zE (inB c.serial 0 9999)
 have E1 : Hid (∀ W, Below w.heap.size w W -> Calls Tryz.prog 31 #[.int .i64 c.serial] W fun e w' => e = .returned (.bool B1) /\ Below W.heap.size W w') := fun W hb => by rw [<- hB1]; exact num_any _ W
 obtain ⟨B2, hB2⟩ := zE (inB c.frm 0 9999)
 have E2 : Hid (∀ W, Below w.heap.size w W -> Calls Tryz.prog 31 #[.int .i64 c.frm] W fun e w' => e = .returned (.bool B2) /\ Below W.heap.size W w') := fun W hb => by rw [<- hB2]; exact num_any _ W
 obtain ⟨B3, hB3⟩ := zE (inB c.upto 0 9999)
 have E3 : Hid (∀ W, Below w.heap.size w W -> Calls Tryz.prog 31 #[.int .i64 c.upto] W fun e w' => e = .returned (.bool B3) /\ Below W.heap.size W w') := fun W hb => by rw [<- hB3]; exact num_any _ W
 obtain ⟨B4, hB4⟩ := zE (nameOk c.issuer)
 have E4 : Hid (∀ W, Below w.heap.size w W -> Calls Tryz.prog 124 #[.string c.issuer] W fun e w' => e = .returned (.bool B4) /\ Below W.heap.size W w') := fun W hb => by rw [<- hB4]; exact (specName_any c.issuer W (by omega)).mono (by rintro e w' ⟨rfl, rfl⟩; exact ⟨rfl, Below.refl _ _⟩)
 obtain ⟨B5, hB5⟩ := zE (nameOk c.subject)
 have E5 : Hid (∀ W, Below w.heap.size w W -> Calls Tryz.prog 124 #[.string c.subject] W fun e w' => e = .returned (.bool B5) /\ Below W.heap.size W w') := fun W hb => by rw [<- hB5]; exact (specName_any c.subject W (by omega)).mono (by rintro e w' ⟨rfl, rfl⟩; exact ⟨rfl, Below.refl _ _⟩)
 obtain ⟨B7, hB7⟩ := zE (inB c.pathLen 0 99)
 have E7 : Hid (∀ W, Below w.heap.size w W -> Calls Tryz.prog 30 #[.int .i64 c.pathLen, .int .i64 0, .int .i64 99] W fun e w' => e = .returned (.bool B7) /\ Below W.heap.size W w') := fun W hb => by rw [<- hB7]; exact in_any _ _ _ W
 obtain ⟨B8, hB8⟩ := zE (inB c.usage 0 7)
 have E8 : Hid (∀ W, Below w.heap.size w W -> Calls Tryz.prog 30 #[.int .i64 c.usage, .int .i64 0, .int .i64 7] W fun e w' => e = .returned (.bool B8) /\ Below W.heap.size W w') := fun W hb => by rw [<- hB8]; exact in_any _ _ _ W
 obtain ⟨B9, hB9⟩ := zE (polOk c.pol)
 have E9 : Hid (∀ W, Below w.heap.size w W -> Calls Tryz.prog 125 #[.slice pa lp pc] W fun e w' => e = .returned (.bool B9) /\ Below W.heap.size W w') := fun W hb => by rw [<- hB9]; exact specIok_any _ c.pol W (by omega) (h1.below hb)
 obtain ⟨B10, hB10⟩ := zE (namesOk c.per)
 have E10 : Hid (∀ W, Below w.heap.size w W -> Calls Tryz.prog 151 #[.slice ea le ec] W fun e w' => e = .returned (.bool B10) /\ Below W.heap.size W w') := fun W hb => by rw [<- hB10]; exact specTok_any _ c.per W (by omega) (fun s hs => by have := z8 s hs; omega) (h2.below hb)
 obtain ⟨B11, hB11⟩ := zE (namesOk c.den)
 have E11 : Hid (∀ W, Below w.heap.size w W -> Calls Tryz.prog 151 #[.slice da ld dc] W fun e w' => e = .returned (.bool B11) /\ Below W.heap.size W w') := fun W hb => by rw [<- hB11]; exact specTok_any _ c.den W (by omega) (fun s hs => by have := z9 s hs; omega) (h3.below hb)
 have HC : Hid (certOk c = (B1 && (B2 && (B3 && (B4 && (B5 && (decide (c.key.size = 15) && (B7 && (B8 && (B9 && (B10 && (B11 && decide (c.sig.size = 15))))))))))))) := by show certOk c = _; unfold certOk; rw [hB1, hB2, hB3, hB4, hB5, hB7, hB8, hB9, hB10, hB11]
 clear hB1 hB2 hB3 hB4 hB5 hB7 hB8 hB9 hB10 hB11 h1 h2 h3 hlp hle hld z8 z9
 unfold ctV
 go_enter Tryz.func118, Tryz.ntmps118
 go_wp2_with fail
 obtain ⟨V, hV⟩ : ∃ V, V = w.alloc (Obj.cells #[.int .i64 c.serial, .string c.issuer, .string c.subject, .int .i64 c.frm, .int .i64 c.upto, .string c.key, .bool c.ca, .int .i64 c.pathLen, .int .i64 c.usage, .slice pa lp pc, .slice ea le ec, .slice da ld dc, .string c.sig] 52) := ⟨_, rfl⟩
 rw [<- hV]
 have G : Hid (Blk V w.heap.size 52 #[.int .i64 c.serial, .string c.issuer, .string c.subject, .int .i64 c.frm, .int .i64 c.upto, .string c.key, .bool c.ca, .int .i64 c.pathLen, .int .i64 c.usage, .slice pa lp pc, .slice ea le ec, .slice da ld dc, .string c.sig] /\ Below w.heap.size w V /\ w.heap.size < V.heap.size) := by rw [hV]; exact ⟨Blk.new w _ _, (Below.refl _ _).alloc (Nat.le_refl _) _, (Blk.new w _ _).lt⟩
 clear hV
 refine (E1.out V G.out.2.1).mono ?_
 rintro e V1 ⟨rfl, hb⟩
 have G1 := zH (zJ (G.out.1.below hb G.out.2.2) (zJ (G.out.2.1.trans (hb.mono G.out.2.1.size)) (Nat.lt_of_lt_of_le G.out.2.2 hb.size)))
 clear hb G E1
 have c_frm := fun j => G1.out.1.cell j
 cases B1 with
 | false =>
  go_wp2_with fail
  go_ret
  exact ⟨by rw [HC.out]; simp, G1.out.2.1⟩
 | true =>
  go_wp2_with fail
  clear c_frm
  refine (E2.out V1 G1.out.2.1).mono ?_
  rintro e V2 ⟨rfl, hb⟩
  have G2 := zH (zJ (G1.out.1.below hb G1.out.2.2) (zJ (G1.out.2.1.trans (hb.mono G1.out.2.1.size)) (Nat.lt_of_lt_of_le G1.out.2.2 hb.size)))
  clear hb G1 E2
  have c_upto := fun j => G2.out.1.cell j
  cases B2 with
  | false =>
   go_wp2_with fail
   go_ret
   exact ⟨by rw [HC.out]; simp, G2.out.2.1⟩
  | true =>
   go_wp2_with fail
   clear c_upto
   refine (E3.out V2 G2.out.2.1).mono ?_
   rintro e V3 ⟨rfl, hb⟩
   have G3 := zH (zJ (G2.out.1.below hb G2.out.2.2) (zJ (G2.out.2.1.trans (hb.mono G2.out.2.1.size)) (Nat.lt_of_lt_of_le G2.out.2.2 hb.size)))
   clear hb G2 E3
   have c_issuer := fun j => G3.out.1.cell j
   cases B3 with
   | false =>
    go_wp2_with fail
    go_ret
    exact ⟨by rw [HC.out]; simp, G3.out.2.1⟩
   | true =>
    go_wp2_with fail
    clear c_issuer
    refine (E4.out V3 G3.out.2.1).mono ?_
    rintro e V4 ⟨rfl, hb⟩
    have G4 := zH (zJ (G3.out.1.below hb G3.out.2.2) (zJ (G3.out.2.1.trans (hb.mono G3.out.2.1.size)) (Nat.lt_of_lt_of_le G3.out.2.2 hb.size)))
    clear hb G3 E4
    have c_subject := fun j => G4.out.1.cell j
    cases B4 with
    | false =>
     go_wp2_with fail
     go_ret
     exact ⟨by rw [HC.out]; simp, G4.out.2.1⟩
    | true =>
     go_wp2_with fail
     clear c_subject
     refine (E5.out V4 G4.out.2.1).mono ?_
     rintro e V5 ⟨rfl, hb⟩
     have G5 := zH (zJ (G4.out.1.below hb G4.out.2.2) (zJ (G4.out.2.1.trans (hb.mono G4.out.2.1.size)) (Nat.lt_of_lt_of_le G4.out.2.2 hb.size)))
     clear hb G4 E5
     have c_key := fun j => G5.out.1.cell j
     cases B5 with
     | false =>
      go_wp2_with fail
      go_ret
      exact ⟨by rw [HC.out]; simp, G5.out.2.1⟩
     | true =>
      by_cases s6 : c.key.size = 15
      rotate_left
      ·have si : ¬ (c.key.size : Int) = 15 := by omega
       have HN : Hid (decide (c.key.size = 15) = false) := decide_eq_false s6
       clear s6
       go_wp2_with fail
       go_ret
       exact ⟨by rw [HC.out, HN.out]; simp, G5.out.2.1⟩
      have si6 : (c.key.size : Int) = 15 := by omega
      go_wp2_with fail
      skip
      refine (E7.out V5 G5.out.2.1).mono ?_
      rintro e V7 ⟨rfl, hb⟩
      have G7 := zH (zJ (G5.out.1.below hb G5.out.2.2) (zJ (G5.out.2.1.trans (hb.mono G5.out.2.1.size)) (Nat.lt_of_lt_of_le G5.out.2.2 hb.size)))
      clear hb G5 E7
      have c_usage := fun j => G7.out.1.cell j
      cases B7 with
      | false =>
       go_wp2_with fail
       go_ret
       exact ⟨by rw [HC.out]; simp, G7.out.2.1⟩
      | true =>
       go_wp2_with fail
       clear c_usage
       refine (E8.out V7 G7.out.2.1).mono ?_
       rintro e V8 ⟨rfl, hb⟩
       have G8 := zH (zJ (G7.out.1.below hb G7.out.2.2) (zJ (G7.out.2.1.trans (hb.mono G7.out.2.1.size)) (Nat.lt_of_lt_of_le G7.out.2.2 hb.size)))
       clear hb G7 E8
       have c_pol := fun j => G8.out.1.cell j
       cases B8 with
       | false =>
        go_wp2_with fail
        go_ret
        exact ⟨by rw [HC.out]; simp, G8.out.2.1⟩
       | true =>
        go_wp2_with fail
        clear c_pol
        refine (E9.out V8 G8.out.2.1).mono ?_
        rintro e V9 ⟨rfl, hb⟩
        have G9 := zH (zJ (G8.out.1.below hb G8.out.2.2) (zJ (G8.out.2.1.trans (hb.mono G8.out.2.1.size)) (Nat.lt_of_lt_of_le G8.out.2.2 hb.size)))
        clear hb G8 E9
        have c_per := fun j => G9.out.1.cell j
        cases B9 with
        | false =>
         go_wp2_with fail
         go_ret
         exact ⟨by rw [HC.out]; simp, G9.out.2.1⟩
        | true =>
         go_wp2_with fail
         clear c_per
         refine (E10.out V9 G9.out.2.1).mono ?_
         rintro e V10 ⟨rfl, hb⟩
         have G10 := zH (zJ (G9.out.1.below hb G9.out.2.2) (zJ (G9.out.2.1.trans (hb.mono G9.out.2.1.size)) (Nat.lt_of_lt_of_le G9.out.2.2 hb.size)))
         clear hb G9 E10
         have c_den := fun j => G10.out.1.cell j
         cases B10 with
         | false =>
          go_wp2_with fail
          go_ret
          exact ⟨by rw [HC.out]; simp, G10.out.2.1⟩
         | true =>
          go_wp2_with fail
          clear c_den
          refine (E11.out V10 G10.out.2.1).mono ?_
          rintro e V11 ⟨rfl, hb⟩
          have G11 := zH (zJ (G10.out.1.below hb G10.out.2.2) (zJ (G10.out.2.1.trans (hb.mono G10.out.2.1.size)) (Nat.lt_of_lt_of_le G10.out.2.2 hb.size)))
          clear hb G10 E11
          have c_sig := fun j => G11.out.1.cell j
          cases B11 with
          | false =>
           go_wp2_with fail
           go_ret
           exact ⟨by rw [HC.out]; simp, G11.out.2.1⟩
          | true =>
           by_cases s12 : c.sig.size = 15
           rotate_left
           ·have si : ¬ (c.sig.size : Int) = 15 := by omega
            have HN : Hid (decide (c.sig.size = 15) = false) := decide_eq_false s12
            clear s12
            go_wp2_with fail
            go_ret
            exact ⟨by rw [HC.out, HN.out]; simp [si], G11.out.2.1⟩
           have si12 : (c.sig.size : Int) = 15 := by omega
           go_wp2_with fail
           go_ret
           exact ⟨by rw [HC.out, decide_eq_true s6, decide_eq_true s12]; rfl, G11.out.2.1⟩
end Go.Proofs.YtabfamhaihnccaaGreat
