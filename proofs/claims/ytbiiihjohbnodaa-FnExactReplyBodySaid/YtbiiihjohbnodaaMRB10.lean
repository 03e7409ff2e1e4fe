/-
  Texts of the proof.
-/
import Derived.Deep.RegionLaw
import Derived.WalkKit
import Derived.Laws.RangeString
import Derived.Laws.RangeAny
import Derived.Test.YtbiiihjohbnodaaShelf
import Derived.Laws.IdiomStrings
import Derived.Test.YtbiiihjohbnodaaMRB9
set_option maxRecDepth 100000
set_option maxHeartbeats 25600000
namespace Go.Proofs.Ytbiiihjohbnodaa
open Go.RowKit Der
set_option linter.unusedVariables false
def Blk3 (w : World) (g : Nat) (a b c : Value) : Prop := w.heap[g]? = some (.cells #[a, b, c] 67 (0, 0))
theorem Blk3.lt {w : World} {g : Nat} {a b c : Value} (h : Blk3 w g a b c) : g < w.heap.size := by
 rcases Nat.lt_or_ge g w.heap.size with h' | h'
 ·exact h'
 ·unfold Blk3 at h; rw [Array.getElem?_eq_none h'] at h; cases h
theorem Blk3.below {w w' : World} {g : Nat} {a b c : Value} (h : Blk3 w g a b c) (hb : Below w.heap.size w w') : Blk3 w' g a b c := (hb.block g h.lt).trans h
theorem Blk3.grown {w w' : World} {g : Nat} {a b c : Value} {row : Option Nat} (h : Blk3 w g a b c) (hg : w.grownBy w' row) (hne : some g ≠ row) : Blk3 w' g a b c := (hg.block g h.lt hne).trans h
theorem Blk3.other {w : World} {g : Nat} {a b c : Value} (h : Blk3 w g a b c) {p : Addr} (hne : g ≠ p.block) (v : Value) : Blk3 (w.setCell p v) g a b c := (heap_setCell_other _ _ _ _ hne).trans h
theorem Blk3.set {w : World} {g : Nat} {a b c : Value} (h : Blk3 w g a b c) (v : Value) : Blk3 (w.setCell ⟨g, 2, none⟩ v) g a b v := by
 unfold Blk3 at h |-
 rw [heap_setCell_same w g 2 _ _ _ h]
 rfl
theorem two_blk (w : World) (p q r : Value) (x y z : Value) : ∀ W, W = (w.alloc (Obj.cells #[p, q, r] 67)).alloc (Obj.cells #[x, y, z] 67) -> Below w.heap.size w W /\ W.heap.size = w.heap.size + 2 /\ Blk3 W w.heap.size p q r /\ Blk3 W (w.heap.size + 1) x y z := by
 rintro W rfl
 have e : (w.alloc (Obj.cells #[p, q, r] 67)).heap.size = w.heap.size + 1 := Array.size_push _
 refine ⟨((Below.refl _ _).alloc (Nat.le_refl _) _).alloc (by rw [e]; omega) _, ?_, ?_, ?_⟩
 ·rw [show ((w.alloc (Obj.cells #[p, q, r] 67)).alloc (Obj.cells #[x, y, z] 67)).heap.size = (w.alloc (Obj.cells #[p, q, r] 67)).heap.size + 1 from Array.size_push _, e]
 ·show ((w.heap.push (Obj.cells #[p, q, r] 67)).push (Obj.cells #[x, y, z] 67))[w.heap.size]? = _
  rw [Array.getElem?_push, if_neg (by rw [Array.size_push]; omega), Array.getElem?_push, if_pos rfl]
 ·have h := heap_alloc_new (w.alloc (Obj.cells #[p, q, r] 67)) (Obj.cells #[x, y, z] 67)
  rw [e] at h
  exact h
theorem GrowK.out {w w' : World} {base n : Nat} {v : Value} {ks : List (It (n + 1))} (h : GrowK w base n v ks) (he : ∀ b, base <= b -> w'.heap[b]? = w.heap[b]?) : GrowK w' base n v ks := by
 obtain ⟨kvs, fps, h1, h2, ho, h3, h4, h5⟩ := h
 refine ⟨kvs, fps, h1, h2, ⟨ho.1, ?_⟩, h3, h4, fun j a b c => ?_⟩
 ·rcases ho.2 with hn | ⟨g, cap, cur, hv, hb, hg, rest⟩
  ·exact .inl hn
  ·exact .inr ⟨g, cap, cur, hv, hb, by rw [he g hb]; exact hg, rest⟩
 ·have := h5 j a b c
  exact this.same fun x hx => he x (OwnK.lt this x hx).1
def intI {n : Nat} (x : Int) : It (n + 1) := It.mk 2 (intT (numN x)) []
def bytJ {n : Nat} (s : ByteArray) : It (n + 1) := It.mk 4 s.data.toList []
def lstJ {n : Nat} (ks : List (It n)) : It (n + 1) := It.mk 48 [] ks
theorem bytes_any (s : ByteArray) (w : World) : Calls Try.prog 66 #[.string s] w fun e w' => e = .returned (.agg #[.int .i64 4, .string s, .slice none 0 0]) /\ Below w.heap.size w w' := by
 go_enter Try.func66, Try.ntmps66
 go_wp2_with fail
 refine bodyPost_ret (v := .agg #[.int .i64 4, .string s, .slice none 0 0]) (by simp [results, Try.results66, go_sem]; try rfl) rfl ⟨rfl, ?_⟩
 exact (Below.refl _ _).alloc (Nat.le_refl _) _
theorem own_none (w : World) (base : Nat) : ∀ n, OwnK w base n (.slice none 0 0) [] []
 | 0 => ⟨⟨none, 0, rfl⟩, rfl⟩
 | _ + 1 => ⟨none, 0, rfl, fun _ => rfl, fun h => absurd h (Nat.lt_irrefl _)⟩
theorem both_below {wr w3 : World} {g h o : Nat} {kv t : Value} (hc : wr.cell? ⟨g, 2, none⟩ = some kv /\ wr.cell? ⟨h, o, none⟩ = some t) (hg : g < wr.heap.size) (hh : h < wr.heap.size) (hb : Below wr.heap.size wr w3) : w3.cell? ⟨g, 2, none⟩ = some kv /\ w3.cell? ⟨h, o, none⟩ = some t :=
 ⟨(hb.cell (p := ⟨g, 2, none⟩) hg).trans hc.1, (hb.cell (p := ⟨h, o, none⟩) hh).trans hc.2⟩
theorem both_grown {w5 w6 : World} {g h o : Nat} {kv t : Value} {row : Option Nat} (hc : w5.cell? ⟨g, 2, none⟩ = some kv /\ w5.cell? ⟨h, o, none⟩ = some t) (hg : w5.grownBy w6 row) (n1 : some g ≠ row) (n2 : some h ≠ row) : w6.cell? ⟨g, 2, none⟩ = some kv /\ w6.cell? ⟨h, o, none⟩ = some t :=
 ⟨hg.cell hc.1 n1, hg.cell hc.2 n2⟩
end Go.Proofs.Ytbiiihjohbnodaa
namespace Go.Proofs.Ytbiiihjohbnodaa
open Go.RowKit Der
theorem cloneB_any (s : ByteArray) (w : World) (hs : s.size <= 1000000000000) : Calls Try.prog 113 #[.string s] w fun e w' => e = .returned (.string s) /\ Below w.heap.size w w' := by
 go_enter Try.func113, Try.ntmps113
 go_wp2_with (go_at_call 126; refine (Try.stringslite_Clone s _ (by omega)).mono ?_; rintro e w1 ⟨rfl, hb1⟩)
 go_ret
 exact ⟨rfl, hb1⟩
def lineB (l : List UInt8) : Bool := l.all fun b => decide (32 <= b) && decide (b <= 126)
theorem lineB_bad {s : ByteArray} {k : Nat} (hk : k < s.size) (h : s[k].toNat < 32 ∨ 126 < s[k].toNat) : lineB s.data.toList = false := by
 unfold lineB
 rw [List.all_eq_false]
 refine ⟨s[k], ?_, ?_⟩
 ·rw [List.mem_iff_getElem]
  exact ⟨k, by simpa using hk, rfl⟩
 ·simp only [Bool.and_eq_true, decide_eq_true_eq, UInt8.le_iff_toNat_le]
  intro h2
  have h3 : (32 : UInt8).toNat = 32 := rfl
  have h4 : (126 : UInt8).toNat = 126 := rfl
  omega
theorem lineB_ok {s : ByteArray} (h : ∀ k (hk : k < s.size), 32 <= s[k].toNat /\ s[k].toNat <= 126) : lineB s.data.toList = true := by
 unfold lineB
 rw [List.all_eq_true]
 intro b hb
 obtain ⟨k, hk, rfl⟩ := List.getElem_of_mem hb
 have := h k (by simpa using hk)
 simp only [Bool.and_eq_true, decide_eq_true_eq, UInt8.le_iff_toNat_le]
 exact this
theorem plainLineB_any (s : ByteArray) (w : World) (hs : s.size <= 1000000000000) : Calls Try.prog 124 #[.string s] w fun e w' => e = .returned (.bool (lineB s.data.toList)) /\ Below w.heap.size w w' := by
 have hcv := fun w => run_bytes_of_string (P := Try.prog) w 9 103 5 s Try.underlying9 Try.underlying103 Try.underlying5
 go_enter Try.func124, Try.ntmps124
 go_wp2
 generalize hC : grownCap w s.size 0 5 = C
 have HCell : Hid (∀ j (hj : j < s.size), ((w.alloc (.cells (bytesRow s C) 5 ((bytesRow s C).size, (bytesRow s C).size + 1))).drew).cell? ⟨w.heap.size, j, none⟩ = some (.int .u8 ((s[j]'hj).toNat : Int))) := fun j hj => by
  show (w.alloc (.cells (bytesRow s C) 5 ((bytesRow s C).size, (bytesRow s C).size + 1))).cell? ⟨w.heap.size, j, none⟩ = _
  rw [World.cell?_alloc_mark, bytesRow_at s C j hj]; rfl
 clear hC hcv
 go_loopw [8] (fun iv wr => ∃ k : Nat, k <= s.size /\ iv = .int .i64 k /\ Hid (∀ j (hj : j < s.size), j < k -> 32 <= s[j].toNat /\ s[j].toNat <= 126) /\ (w.alloc (.cells (bytesRow s C) 5 ((bytesRow s C).size, (bytesRow s C).size + 1))).drew = wr) (fun iv _ => s.size - (intOf iv).toNat)
 case atStart => exact ⟨0, Nat.zero_le _, rfl, fun j _ h => absurd h (Nat.not_lt_zero _), rfl⟩
 case round =>
  obtain ⟨k, hk, rfl, HP, rfl⟩ := hrel
  by_cases hlt : k < s.size
  ·have hc := s[k].toNat_lt
   have hck : (w.alloc (.cells (bytesRow s C) 5 ((bytesRow s C).size, (bytesRow s C).size + 1))).cell? ⟨w.heap.size, k, none⟩ = some (.int .u8 (s[k].toNat : Int)) := HCell.out k hlt
   by_cases h1 : s[k].toNat < 32
   ·have HF : Hid (lineB s.data.toList = false) := lineB_bad hlt (.inl h1)
    go_wp2
    go_ret
    exact ⟨by rw [HF.out]; rfl, ((Below.refl _ _).alloc (Nat.le_refl _) _).drew⟩
   ·by_cases h2 : 126 < s[k].toNat
    ·have HF : Hid (lineB s.data.toList = false) := lineB_bad hlt (.inr h2)
     go_wp2
     go_ret
     exact ⟨by rw [HF.out]; rfl, ((Below.refl _ _).alloc (Nat.le_refl _) _).drew⟩
    ·have HN : Hid (∀ j (hj : j < s.size), j < k + 1 -> 32 <= s[j].toNat /\ s[j].toNat <= 126) := fun j hj hjk => by
      by_cases e : j = k
      ·subst e; omega
      ·exact HP.out j hj (by omega)
     go_wp2
     go_roundw
     case rel => exact ⟨k + 1, by omega, by go_num, HN, by first | rfl | trivial⟩
     case measure => simp [intOf]; omega
  ·have HF : Hid (lineB s.data.toList = true) := lineB_ok fun j hj => HP.out j hj (by omega)
   go_wp2
   go_ret
   exact ⟨by rw [HF.out]; rfl, ((Below.refl _ _).alloc (Nat.le_refl _) _).drew⟩
end Go.Proofs.Ytbiiihjohbnodaa
