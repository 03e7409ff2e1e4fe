/-
  Texts of the proof.
-/
import Derived.WalkKit
import Derived.Test.YtjgbmnhoajiabaaGreatDoorSR7
namespace Go.Proofs.YtjgbmnhoajiabaaGreatDoor
open Go.RowKit
set_option linter.unusedVariables false
structure Cl where
 issuer : ByteArray
 num : Int
 ths : Int
 nxt : Int
 bas : Int
 revs : List (Int × Int)
 sig : ByteArray
def clV (c : Cl) (p : Value) : Value := .agg #[.string c.issuer, .int .i64 c.num, .int .i64 c.ths, .int .i64 c.nxt, .int .i64 c.bas, p, .string c.sig]
def ClAt (w : World) (v : Value) (c : Cl) : Prop := ∃ p, v = clV c p /\ RevAt w p c.revs
theorem ClAt.below {w w' : World} {v : Value} {c : Cl} (h : ClAt w v c) (hb : Below w.heap.size w w') : ClAt w' v c := by
 obtain ⟨p, hv, h1⟩ := h
 exact ⟨p, hv, h1.below hb⟩
theorem ClAt.shape {w : World} {v : Value} {c : Cl} (h : ClAt w v c) : ∃ p q, v = clV c (.slice p c.revs.length q) := by
 obtain ⟨pv, hv, ⟨p, q, h1, _⟩⟩ := h
 exact ⟨p, q, by rw [hv, h1]⟩
def OwnL (w : World) (base : Nat) (v : Value) (c : Cl) : Prop := ∃ p, v = clV c p /\ OwnR w base p c.revs
theorem OwnL.at {w : World} {base : Nat} {v : Value} {c : Cl} (h : OwnL w base v c) : ClAt w v c := by
 obtain ⟨p, hv, h1⟩ := h
 exact ⟨p, hv, h1.at⟩
theorem OwnL.stays {w w' : World} {base : Nat} {v : Value} {c : Cl} (h : OwnL w base v c) (hb : Below w.heap.size w w') : OwnL w' base v c := by
 obtain ⟨p, hv, h1⟩ := h
 exact ⟨p, hv, h1.stays hb⟩
theorem OwnL.base {w : World} {b b' : Nat} {v : Value} {c : Cl} (h : OwnL w b v c) (hb : b' <= b) : OwnL w b' v c := by
 obtain ⟨p, hv, h1⟩ := h
 exact ⟨p, hv, h1.base hb⟩
def wtL (c : Cl) : Nat := c.issuer.size + c.revs.length + c.sig.size
def WdL (c : Cl) : Prop := Wd [c.num, c.ths, c.nxt, c.bas] /\ WdR c.revs /\ WdT [c.issuer, c.sig] /\ c.revs.length <= 9223372036854775807
theorem wtL_parts {c : Cl} {b : Nat} (h : wtL c <= b) : c.issuer.size <= b /\ c.revs.length <= b /\ c.sig.size <= b := by unfold wtL at h; omega
def fpL (v : Value) : List Nat := match v with
 | .agg a => (a.getD 5 (.slice none 0 0)).ownBlock.toList
 | _ => []
theorem fpL_mem {c : Cl} {p : Value} {g : Nat} : g ∈ fpL (clV c p) ↔ p.ownBlock = some g := by
 show g ∈ p.ownBlock.toList ↔ _
 simp [Option.mem_toList]
theorem fpL_lt {w : World} {base : Nat} {v : Value} {c : Cl} (h : OwnL w base v c) : ∀ b ∈ fpL v, base <= b /\ b < w.heap.size := by
 obtain ⟨p, rfl, h1⟩ := h
 intro b hb
 exact World.ownsRow.lt h1 b (fpL_mem.1 hb)
theorem OwnL.out {w w' : World} {base : Nat} {v : Value} {c : Cl} {fp : List Nat} (h : OwnL w base v c) (ho : Out fp w w') (hn : ∀ b ∈ fpL v, b ∉ fp) : OwnL w' base v c := by
 obtain ⟨p, rfl, h1⟩ := h
 exact ⟨p, rfl, ho.row (fun g hg => hn g (fpL_mem.2 hg)) h1⟩
end Go.Proofs.YtjgbmnhoajiabaaGreatDoor
namespace Go.Proofs.YtjgbmnhoajiabaaGreatDoor
def nmL : List UInt8 -> Bool -> Bool
 | [], p => p
 | b :: r, p => if 97 <= b.toNat /\ b.toNat <= 122 then nmL r true else if b.toNat = 46 /\ p = true then nmL r false else false
def nameOk (s : ByteArray) : Bool := decide (s.size <= 20) && nmL s.data.toList false
theorem nm_letter {b : UInt8} (r : List UInt8) (p : Bool) (h1 : 97 <= b.toNat) (h2 : b.toNat <= 122) : nmL (b :: r) p = nmL r true := by
 show (if _ then _ else _) = _
 rw [if_pos ⟨h1, h2⟩]
theorem nm_dot {b : UInt8} (r : List UInt8) (h : b.toNat = 46) : nmL (b :: r) true = nmL r false := by
 show (if _ then _ else _) = _
 rw [if_neg (by omega), if_pos ⟨h, rfl⟩]
theorem nm_dots {b : UInt8} (r : List UInt8) (h : b.toNat = 46) : nmL (b :: r) false = false := by
 show (if _ then _ else _) = _
 rw [if_neg (by omega), if_neg (by simp)]
theorem nm_other {b : UInt8} (r : List UInt8) (p : Bool) (h : ¬ (97 <= b.toNat /\ b.toNat <= 122)) (h2 : b.toNat ≠ 46) : nmL (b :: r) p = false := by
 show (if _ then _ else _) = _
 rw [if_neg h, if_neg (fun q => h2 q.1)]
theorem drop_at (s : ByteArray) (k : Nat) (h : k < s.size) : s.data.toList.drop k = s[k] :: s.data.toList.drop (k + 1) := by
 rw [List.drop_eq_getElem_cons (by simpa using h)]
 rfl
theorem drop_end (s : ByteArray) (k : Nat) (h : ¬ k < s.size) : s.data.toList.drop k = [] := List.drop_eq_nil_of_le (by have e : s.data.toList.length = s.size := rfl; omega)
def ascG {α : Type} (lt : α -> α -> Bool) (d : α) (l : List α) : Bool := (List.range (l.length - 1)).all fun i => lt (l.getD i d) (l.getD (i + 1) d)
theorem asc_yes {α : Type} {lt : α -> α -> Bool} {d : α} {l : List α} (h : ∀ i, 0 < i -> i < l.length -> lt (l.getD (i - 1) d) (l.getD i d) = true) : ascG lt d l = true := by
 unfold ascG
 rw [List.all_eq_true]
 intro i hi
 rw [List.mem_range] at hi
 exact h (i + 1) (by omega) (by omega)
theorem asc_no {α : Type} {lt : α -> α -> Bool} {d : α} {l : List α} (i : Nat) (h0 : 0 < i) (hi : i < l.length) (h : lt (l.getD (i - 1) d) (l.getD i d) = false) : ascG lt d l = false := by
 unfold ascG
 rw [List.all_eq_false]
 refine ⟨i - 1, by rw [List.mem_range]; omega, ?_⟩
 rw [show i - 1 + 1 = i by omega, h]
 simp
theorem all_yes {α : Type} {f : α -> Bool} {d : α} {l : List α} (h : ∀ i, i < l.length -> f (l.getD i d) = true) : l.all f = true := by
 rw [List.all_eq_true]
 intro x hx
 obtain ⟨i, hi, rfl⟩ := List.getElem_of_mem hx
 have := h i hi
 rwa [List.getD_eq_getElem?_getD, List.getElem?_eq_getElem hi] at this
theorem all_no {α : Type} {f : α -> Bool} {d : α} {l : List α} (i : Nat) (hi : i < l.length) (h : f (l.getD i d) = false) : l.all f = false := by
 rw [List.all_eq_false]
 refine ⟨l[i], List.getElem_mem hi, ?_⟩
 rw [List.getD_eq_getElem?_getD, List.getElem?_eq_getElem hi] at h
 simpa using h
def lsI (a b : Int) : Bool := decide (a < b)
end Go.Proofs.YtjgbmnhoajiabaaGreatDoor
