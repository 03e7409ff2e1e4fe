/-
  Texts of the proof.
-/
import Derived.WalkKit
import Derived.Laws.RangeString
import Derived.Laws.RangeAny
import Derived.Test.YtcbjlbpkoneibaaGreatDoorSR5
set_option linter.unusedVariables false
set_option linter.unusedSimpArgs false
set_option maxRecDepth 100000
set_option maxHeartbeats 25600000
namespace Go.Proofs.YtcbjlbpkoneibaaGreatDoor
open Go.RowKit
structure Cl where
 issuer : ByteArray
 num : Int
 ths : Int
 nxt : Int
 bas : Int
 revs : List (Int × Int)
 sig : ByteArray
abbrev zCl (c : Cl) (p : Value) : Array Value := #[.string c.issuer, .int .i64 c.num, .int .i64 c.ths, .int .i64 c.nxt, .int .i64 c.bas, p, .string c.sig]
def clV (c : Cl) (p : Value) : Value := .agg (zCl c p)
def ClAt (w : World) (v : Value) (c : Cl) : Prop := ∃ p, v = clV c p /\ RevAt w p c.revs
theorem ClAt.below {w w' : World} {v : Value} {c : Cl} (h : ClAt w v c) (hb : zW w w') : ClAt w' v c := by
 obtain ⟨p, hv, h1⟩ := h;exact ⟨p, hv, h1.below hb⟩
theorem ClAt.shape {w : World} {v : Value} {c : Cl} (h : ClAt w v c) : ∃ p q, v = clV c (zS p c.revs.length q) := by
 obtain ⟨pv, hv, ⟨p, q, h1, _⟩⟩ := h;exact ⟨p, q, by rw [hv, h1]⟩
def OwnL (w : World) (base : Nat) (v : Value) (c : Cl) : Prop := ∃ p, v = clV c p /\ OwnR w base p c.revs
theorem OwnL.at {w : World} {base : Nat} {v : Value} {c : Cl} (h : OwnL w base v c) : ClAt w v c := by
 obtain ⟨p, hv, h1⟩ := h;exact ⟨p, hv, h1.at⟩
theorem OwnL.stays {w w' : World} {base : Nat} {v : Value} {c : Cl} (h : OwnL w base v c) (hb : zW w w') : OwnL w' base v c := by
 obtain ⟨p, hv, h1⟩ := h;exact ⟨p, hv, h1.stays hb⟩
theorem OwnL.base {w : World} {b b' : Nat} {v : Value} {c : Cl} (h : OwnL w b v c) (hb : b' <= b) : OwnL w b' v c := by
 obtain ⟨p, hv, h1⟩ := h;exact ⟨p, hv, h1.base hb⟩
def wtL (c : Cl) : Nat := c.issuer.size + c.revs.length + c.sig.size
def WdL (c : Cl) : Prop := Wd [c.num, c.ths, c.nxt, c.bas] /\ WdR c.revs /\ WdT [c.issuer, c.sig] /\ c.revs.length <= 9223372036854775807
theorem wtL_parts {c : Cl} {b : Nat} (h : wtL c <= b) : c.issuer.size <= b /\ c.revs.length <= b /\ c.sig.size <= b := by unfold wtL at h; omega
end Go.Proofs.YtcbjlbpkoneibaaGreatDoor
namespace Go.Proofs.YtcbjlbpkoneibaaGreatDoor
open Go.RowKit
def fpL (v : Value) : List Nat := match v with
 | .agg a => (a.getD 5 (.slice none 0 0)).ownBlock.toList
 | _ => []
theorem fpL_mem {c : Cl} {p : Value} {g : Nat} : g ∈ fpL (clV c p) ↔ p.ownBlock = some g := by
 show g ∈ p.ownBlock.toList ↔ _;simp [Option.mem_toList]
theorem fpL_lt {w : World} {base : Nat} {v : Value} {c : Cl} (h : OwnL w base v c) : ∀ b ∈ fpL v, base <= b /\ b < w.heap.size := by
 obtain ⟨p, rfl, h1⟩ := h;intro b hb;exact World.ownsRow.lt h1 b (fpL_mem.1 hb)
theorem OwnL.out {w w' : World} {base : Nat} {v : Value} {c : Cl} {fp : List Nat} (h : OwnL w base v c) (ho : Out fp w w') (hn : ∀ b ∈ fpL v, b ∉ fp) : OwnL w' base v c := by
 obtain ⟨p, rfl, h1⟩ := h;exact ⟨p, rfl, ho.row (fun g hg => hn g (fpL_mem.2 hg)) h1⟩
end Go.Proofs.YtcbjlbpkoneibaaGreatDoor
namespace Go.Proofs.YtcbjlbpkoneibaaGreatDoor
def nmL : List UInt8 -> Bool -> Bool
 | [], p => p
 | b :: r, p => if 97 <= b.toNat /\ b.toNat <= 122 then nmL r true else if b.toNat = 46 /\ p = true then nmL r false else false
def nameOk (s : ByteArray) : Bool := decide (s.size <= 20) && nmL s.data.toList false
theorem nm_letter {b : UInt8} (r : List UInt8) (p : Bool) (h1 : 97 <= b.toNat) (h2 : b.toNat <= 122) : nmL (b :: r) p = nmL r true := by
 show (if _ then _ else _) = _;rw [if_pos ⟨h1, h2⟩]
theorem nm_dot {b : UInt8} (r : List UInt8) (h : b.toNat = 46) : nmL (b :: r) true = nmL r false := by
 show (if _ then _ else _) = _;rw [if_neg (by omega), if_pos ⟨h, rfl⟩]
theorem nm_dots {b : UInt8} (r : List UInt8) (h : b.toNat = 46) : nmL (b :: r) false = false := by
 show (if _ then _ else _) = _;rw [if_neg (by omega), if_neg (by simp)]
theorem nm_other {b : UInt8} (r : List UInt8) (p : Bool) (h : ¬ (97 <= b.toNat /\ b.toNat <= 122)) (h2 : b.toNat ≠ 46) : nmL (b :: r) p = false := by
 show (if _ then _ else _) = _;rw [if_neg h, if_neg (fun q => h2 q.1)]
theorem drop_at (s : ByteArray) (k : Nat) (h : k < s.size) : s.data.toList.drop k = s[k] :: s.data.toList.drop (k + 1) := by
 rw [List.drop_eq_getElem_cons (by simpa using h)];rfl
theorem drop_end (s : ByteArray) (k : Nat) (h : ¬ k < s.size) : s.data.toList.drop k = [] := List.drop_eq_nil_of_le (by have e : s.data.toList.length = s.size := rfl; omega)
def ascG {α : Type} (lt : α -> α -> Bool) (d : α) (l : List α) : Bool := (List.range (l.length - 1)).all fun i => lt (l.getD i d) (l.getD (i + 1) d)
theorem asc_yes {α : Type} {lt : α -> α -> Bool} {d : α} {l : List α} (h : ∀ i, 0 < i -> i < l.length -> lt (l.getD (i - 1) d) (l.getD i d) = true) : ascG lt d l = true := by
 unfold ascG;rw [List.all_eq_true];intro i hi;rw [List.mem_range] at hi;exact h (i + 1) (by omega) (by omega)
theorem asc_no {α : Type} {lt : α -> α -> Bool} {d : α} {l : List α} (i : Nat) (h0 : 0 < i) (hi : i < l.length) (h : lt (l.getD (i - 1) d) (l.getD i d) = false) : ascG lt d l = false := by
 unfold ascG;rw [List.all_eq_false];refine ⟨i - 1, by rw [List.mem_range]; omega, ?_⟩;rw [show i - 1 + 1 = i by omega, h];simp
theorem all_yes {α : Type} {f : α -> Bool} {d : α} {l : List α} (h : ∀ i, i < l.length -> f (l.getD i d) = true) : l.all f = true := by
 rw [List.all_eq_true];intro x hx;obtain ⟨i, hi, rfl⟩ := List.getElem_of_mem hx;have := h i hi
 rwa [List.getD_eq_getElem?_getD, List.getElem?_eq_getElem hi] at this
theorem all_no {α : Type} {f : α -> Bool} {d : α} {l : List α} (i : Nat) (hi : i < l.length) (h : f (l.getD i d) = false) : l.all f = false := by
 rw [List.all_eq_false];refine ⟨l[i], List.getElem_mem hi, ?_⟩;rw [List.getD_eq_getElem?_getD, List.getElem?_eq_getElem hi] at h;simpa using h
def lsI (a b : Int) : Bool := decide (a < b)
open Go.RowKit
theorem specName_any (s : ByteArray) (w : World) (hs : s.size <= 1000000000000) : Calls Tryz.prog 43 #[zG s] w fun e w' => e = .returned (.bool (nameOk s)) /\ w = w' := by
 go_enter Tryz.func43, Tryz.ntmps43
 go_wp2
 go_loopw [3, 4] (fun pv iv wr => ∃ k part : Nat, k <= s.size /\ part <= k /\ pv = zI part /\ iv = zI k /\ Hid (nmL (s.data.toList.drop k) (decide (0 < part)) = nmL s.data.toList false) /\ w = wr) (fun _ iv _ => s.size - (intOf iv).toNat)
 case atStart => exact ⟨0, 0, Nat.zero_le _, Nat.le_refl _, rfl, rfl, by show _ = _; simp, rfl⟩
 case round =>
  obtain ⟨k, part, hk, hp, rfl, rfl, HI, rfl⟩ := hrel;by_cases hlt : k < s.size
  ·have hki : (k : Int) < (s.size : Int) := by omega
   have hd := drop_at s k hlt;have hI := HI.out;rw [hd] at hI;clear HI hd;have hb := s[k].toNat_lt;by_cases hlet : 97 <= s[k].toNat /\ s[k].toNat <= 122
   ·rw [nm_letter _ _ hlet.1 hlet.2] at hI
    have HN : Hid (nmL (s.data.toList.drop (k + 1)) (decide (0 < part + 1)) = nmL s.data.toList false) := by show _ = _; rw [<- hI]; simp
    obtain ⟨h1, h2⟩ := hlet;have h1i : (97 : Int) <= (s[k].toNat : Int) := by omega
    have h2i : (s[k].toNat : Int) <= 122 := by omega
    clear hI
    go_wp2
    go_roundw
    case rel => exact ⟨k + 1, part + 1, by omega, by omega, by go_num, by go_num, HN, by first | rfl | trivial⟩
    case measure => simp [intOf]; omega
   ·by_cases hdot : s[k].toNat = 46
    ·have h1i : ¬ (97 : Int) <= (s[k].toNat : Int) := by omega
     have h46 : ((s[k].toNat : Int) == 46) = true := by simp; omega
     by_cases hp0 : 0 < part
     ·have hp0i : (0 : Int) < (part : Int) := by omega
      rw [decide_eq_true hp0, nm_dot _ hdot] at hI;have HN : Hid (nmL (s.data.toList.drop (k + 1)) (decide (0 < 0)) = nmL s.data.toList false) := by show _ = _; rw [<- hI]; simp
      clear hI
      go_wp2
      go_roundw
      case rel => exact ⟨k + 1, 0, by omega, by omega, rfl, by go_num, HN, by first | rfl | trivial⟩
      case measure => simp [intOf]; omega
     ·have hp0i : ¬ (0 : Int) < (part : Int) := by omega
      rw [decide_eq_false hp0, nm_dots _ hdot] at hI;have HF : Hid (nameOk s = false) := by show nameOk s = _; unfold nameOk; rw [<- hI]; simp
      clear hI
      go_wp2
      go_ret;exact ⟨by rw [HF.out]; rfl, rfl⟩
    ·rw [nm_other _ _ hlet hdot] at hI
     have HF : Hid (nameOk s = false) := by show nameOk s = _; unfold nameOk; rw [<- hI]; simp
     have h46 : ((s[k].toNat : Int) == 46) = false := by simp; omega
     clear hI;by_cases h1 : 97 <= s[k].toNat
     ·have h1i : (97 : Int) <= (s[k].toNat : Int) := by omega
      have h2i : ¬ (s[k].toNat : Int) <= 122 := by omega
      go_wp2
      go_ret;exact ⟨by rw [HF.out]; rfl, rfl⟩
     ·have h1i : ¬ (97 : Int) <= (s[k].toNat : Int) := by omega
      go_wp2
      go_ret;exact ⟨by rw [HF.out]; rfl, rfl⟩
  ·have hki : ¬ (k : Int) < (s.size : Int) := by omega
   have hI := HI.out;rw [drop_end s k hlt] at hI;change decide (0 < part) = _ at hI;clear HI;by_cases hin : 1 <= s.size /\ s.size <= 20
   ·have h1 : (1 : Int) <= (s.size : Int) := by omega
    have h2 : (s.size : Int) <= 20 := by omega
    by_cases hp0 : 0 < part
    ·have hp0i : (0 : Int) < (part : Int) := by omega
     have HF : Hid (nameOk s = true) := by show nameOk s = _; unfold nameOk; rw [<- hI, decide_eq_true hin.2, decide_eq_true hp0]; rfl
     clear hI;go_wp2_with (go_at_call 44; refine (in_yes _ _ _ _ h1 h2).mono ?_; rintro e w' ⟨rfl, rfl⟩);go_ret;exact ⟨by rw [HF.out]; rfl, rfl⟩
    ·have hp0i : ¬ (0 : Int) < (part : Int) := by omega
     have HF : Hid (nameOk s = false) := by show nameOk s = _; unfold nameOk; rw [<- hI, decide_eq_false hp0]; simp
     clear hI;go_wp2_with (go_at_call 44; refine (in_yes _ _ _ _ h1 h2).mono ?_; rintro e w' ⟨rfl, rfl⟩);go_ret;exact ⟨by rw [HF.out]; rfl, rfl⟩
   ·have HF : Hid (nameOk s = false) := by
     show nameOk s = _;unfold nameOk;rw [<- hI];by_cases h20 : s.size <= 20
     ·rw [decide_eq_false (show ¬ 0 < part by omega)]; simp
     ·rw [decide_eq_false h20]; simp
    have hno : (s.size : Int) < 1 ∨ (20 : Int) < (s.size : Int) := by omega
    clear hI;go_wp2_with (go_at_call 44; refine (in_no _ _ _ _ hno).mono ?_; rintro e w' ⟨rfl, rfl⟩);go_ret;exact ⟨by rw [HF.out]; rfl, rfl⟩
theorem implName_any (s : ByteArray) (w : World) (hs : s.size <= 1000000000000) : Calls Tryz.prog 123 #[zG s] w fun e w' => e = .returned (.bool (nameOk s)) /\ zW w w' := by
 by_cases h20 : 20 < s.size
 ·have h20i : (20 : Int) < (s.size : Int) := by omega
  have HF : Hid (nameOk s = false) := by show nameOk s = _; unfold nameOk; rw [decide_eq_false (by omega)]; rfl
  go_enter Tryz.func123, Tryz.ntmps123
  go_wp2
  go_ret;exact ⟨by rw [HF.out]; rfl, Below.refl _ _⟩
 have h20i : ¬ (20 : Int) < (s.size : Int) := by omega
 have hbl : ∀ pos, zW w (w.iter s pos) := fun pos => (Below.refl _ _).alloc (Nat.le_refl _) _
 have HB : Hid (∀ pos, zW w (w.iter s pos)) := hbl;clear hbl;go_enter Tryz.func123, Tryz.ntmps123
 go_wp2
 go_loopw [3] (fun bv wr => ∃ (pos : Nat) (p : Bool) (z : Int), bv = .int .i32 z /\ (z == 46) = !p /\ Hid (nmL (s.data.toList.drop pos) p = nmL s.data.toList false) /\ w.iter s pos = wr) (fun _ wr => s.size - wr.iterPos w.heap.size)
 case atStart => exact ⟨0, false, 46, rfl, rfl, by show _ = _; simp, rfl⟩
 case round =>
  obtain ⟨pos, p, z, rfl, hz, HI, rfl⟩ := hrel;by_cases hlt : pos < s.size
  ·have hd := drop_at s pos hlt
   have hI := HI.out;rw [hd] at hI;clear HI hd;by_cases hhi : 128 <= s[pos].toNat
   ·have hnx : ∀ ty, (Instr.next (.pointer (some ⟨w.heap.size, 0, none⟩)) true ty).run Tryz.prog (w.iter s pos) = _ := fun ty => run_next_any w s pos ty hlt
    have hdh := (decode_high s pos hlt hhi).1;rw [nm_other _ _ (by omega) (by omega)] at hI;have HF : Hid (nameOk s = false) := by show nameOk s = _; unfold nameOk; rw [<- hI]; simp
    clear hI;generalize (Utf8.decode s pos).1 = r at *;have q1 : ((r : Int) == 46) = false := by simp; omega
    have q2 : ¬ (r : Int) < 97 := by omega
    have q3 : (122 : Int) < (r : Int) := by omega
    go_wp2
    go_ret;exact ⟨by rw [HF.out]; rfl, HB.out _⟩
   ·have hnx : ∀ ty, (Instr.next (.pointer (some ⟨w.heap.size, 0, none⟩)) true ty).run Tryz.prog (w.iter s pos) = _ := fun ty => run_next_ascii w s pos ty hlt (by omega)
    by_cases hdot : s[pos].toNat = 46
    ·have q1 : ((s[pos].toNat : Int) == 46) = true := by simp; omega
     cases p with
     | false =>
      rw [nm_dots _ hdot] at hI;have HF : Hid (nameOk s = false) := by show nameOk s = _; unfold nameOk; rw [<- hI]; simp
      clear hI;simp only [Bool.not_false] at hz
      go_wp2
      go_ret;exact ⟨by rw [HF.out]; rfl, HB.out _⟩
     | true =>
      rw [nm_dot _ hdot] at hI;have HN : Hid (nmL (s.data.toList.drop (pos + 1)) false = nmL s.data.toList false) := hI;clear hI;simp only [Bool.not_true] at hz
      go_wp2
      go_roundw
      case rel => exact ⟨pos + 1, false, _, rfl, by first | (simp; done) | simpa using q1, HN, rfl⟩
      case measure => simp; omega
    ·have q1 : ((s[pos].toNat : Int) == 46) = false := by simp; omega
     by_cases hlet : 97 <= s[pos].toNat /\ s[pos].toNat <= 122
     ·rw [nm_letter _ _ hlet.1 hlet.2] at hI
      have HN : Hid (nmL (s.data.toList.drop (pos + 1)) true = nmL s.data.toList false) := hI;have q2 : ¬ (s[pos].toNat : Int) < 97 := by omega
      have q3 : ¬ (122 : Int) < (s[pos].toNat : Int) := by omega
      clear hI
      go_wp2
      go_roundw
      case rel => exact ⟨pos + 1, true, _, rfl, by first | (simp; done) | simpa using q1, HN, rfl⟩
      case measure => simp; omega
     ·rw [nm_other _ _ hlet hdot] at hI
      have HF : Hid (nameOk s = false) := by show nameOk s = _; unfold nameOk; rw [<- hI]; simp
      clear hI;by_cases h97 : s[pos].toNat < 97
      ·have q2 : (s[pos].toNat : Int) < 97 := by omega
       go_wp2
       go_ret;exact ⟨by rw [HF.out]; rfl, HB.out _⟩
      ·have q2 : ¬ (s[pos].toNat : Int) < 97 := by omega
       have q3 : (122 : Int) < (s[pos].toNat : Int) := by omega
       go_wp2
       go_ret;exact ⟨by rw [HF.out]; rfl, HB.out _⟩
  ·have hnx : ∀ ty, (Instr.next (.pointer (some ⟨w.heap.size, 0, none⟩)) true ty).run Tryz.prog (w.iter s pos) = _ := fun ty => run_next_end w s pos ty hlt
   have hI := HI.out;rw [drop_end s pos hlt] at hI;change p = _ at hI;have HF : Hid (nameOk s = p) := by show nameOk s = _; unfold nameOk; rw [<- hI, decide_eq_true (show s.size <= 20 by omega)]; rfl
   clear hI HI;have hz2 : (z != 46) = p := by show (!(z == 46)) = p; rw [hz]; simp
   go_wp2
   go_ret;refine ⟨?_, HB.out _⟩;rw [HF.out, <- hz2];rfl
end Go.Proofs.YtcbjlbpkoneibaaGreatDoor
