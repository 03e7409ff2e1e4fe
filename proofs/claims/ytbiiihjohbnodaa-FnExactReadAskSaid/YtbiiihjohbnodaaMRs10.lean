/-
  Texts of the proof.
-/
import Derived.Test.YtbiiihjohbnodaaShelf
import Derived.Laws.IdiomStrings
import Derived.Test.YtbiiihjohbnodaaMRs9
set_option maxRecDepth 100000
set_option maxHeartbeats 25600000
namespace Go.Proofs.Ytbiiihjohbnodaa
open Go.RowKit
set_option linter.unusedVariables false
theorem Out.grown {fp : List Nat} {a b c : World} {row : Option Nat} (h : Out fp a b) (hg : b.grownBy c row) (hr : ∀ q, row = some q -> q ∈ fp) : Out fp a c :=
 h.trans ⟨hg.os, hg.tape, hg.output, hg.size, fun k hk hn => hg.block k hk fun e => hn (hr k e.symm)⟩
theorem Out.row {fp : List Nat} {a b : World} {v : Value} (h : Out fp a b) (hv : ∀ g, v.ownBlock = some g -> g ∉ fp) : ∀ {base : Nat} {e : TypeId} {size n : Nat} {xs : List Value}, a.ownsRow base e size v n xs -> b.ownsRow base e size v n xs := by
 intro base e size n xs ho
 refine ⟨ho.1, ?_⟩
 rcases ho.2 with hn | ⟨g, cap, cur, rfl, hb, hgg, rest⟩
 ·exact .inl hn
 ·refine .inr ⟨g, cap, cur, rfl, hb, ?_, rest⟩
  rw [h.2.2.2.2 g (Array.getElem?_eq_some_iff.1 hgg).1 (hv g rfl)]
  exact hgg
end Go.Proofs.Ytbiiihjohbnodaa
namespace Go.Proofs.Ytbiiihjohbnodaa
open Go.RowKit Der
theorem cloneB_any (s : ByteArray) (w : World) (hs : s.size <= 1000000000000) : Calls Try.prog 113 #[.string s] w fun e w' => e = .returned (.string s) /\ Below w.heap.size w w' := by
 go_enter Try.func113, Try.ntmps113
 go_wp2_with (go_at_call 126; refine (Try.stringslite_Clone s _ (by omega)).mono ?_; rintro e w1 ⟨rfl, hb1⟩)
 go_ret
 exact ⟨rfl, hb1⟩
def lineB (l : List UInt8) : Bool := l.all fun b => decide (32 <= b) && decide (b <= 126)
theorem lineB_bad {s : ByteArray} {k : Nat} (hk : k < s.size) (h : s[k].toNat < 32 ∨ 126 < s[k].toNat) : lineB s.data.toList = false := by
 unfold lineB
 rw [List.all_eq_false]
 refine ⟨s[k], ?_, ?_⟩
 ·rw [List.mem_iff_getElem]
  exact ⟨k, by simpa using hk, rfl⟩
 ·simp only [Bool.and_eq_true, decide_eq_true_eq, UInt8.le_iff_toNat_le]
  intro h2
  have h3 : (32 : UInt8).toNat = 32 := rfl
  have h4 : (126 : UInt8).toNat = 126 := rfl
  omega
theorem lineB_ok {s : ByteArray} (h : ∀ k (hk : k < s.size), 32 <= s[k].toNat /\ s[k].toNat <= 126) : lineB s.data.toList = true := by
 unfold lineB
 rw [List.all_eq_true]
 intro b hb
 obtain ⟨k, hk, rfl⟩ := List.getElem_of_mem hb
 have := h k (by simpa using hk)
 simp only [Bool.and_eq_true, decide_eq_true_eq, UInt8.le_iff_toNat_le]
 exact this
theorem plainLineB_any (s : ByteArray) (w : World) (hs : s.size <= 1000000000000) : Calls Try.prog 124 #[.string s] w fun e w' => e = .returned (.bool (lineB s.data.toList)) /\ Below w.heap.size w w' := by
 have hcv := fun w => run_bytes_of_string (P := Try.prog) w 9 103 5 s Try.underlying9 Try.underlying103 Try.underlying5
 go_enter Try.func124, Try.ntmps124
 go_wp2
 generalize hC : grownCap w s.size 0 5 = C
 have HCell : Hid (∀ j (hj : j < s.size), ((w.alloc (.cells (bytesRow s C) 5 ((bytesRow s C).size, (bytesRow s C).size + 1))).drew).cell? ⟨w.heap.size, j, none⟩ = some (.int .u8 ((s[j]'hj).toNat : Int))) := fun j hj => by
  show (w.alloc (.cells (bytesRow s C) 5 ((bytesRow s C).size, (bytesRow s C).size + 1))).cell? ⟨w.heap.size, j, none⟩ = _
  rw [World.cell?_alloc_mark, bytesRow_at s C j hj]; rfl
 clear hC hcv
 go_loopw [8] (fun iv wr => ∃ k : Nat, k <= s.size /\ iv = .int .i64 k /\ Hid (∀ j (hj : j < s.size), j < k -> 32 <= s[j].toNat /\ s[j].toNat <= 126) /\ (w.alloc (.cells (bytesRow s C) 5 ((bytesRow s C).size, (bytesRow s C).size + 1))).drew = wr) (fun iv _ => s.size - (intOf iv).toNat)
 case atStart => exact ⟨0, Nat.zero_le _, rfl, fun j _ h => absurd h (Nat.not_lt_zero _), rfl⟩
 case round =>
  obtain ⟨k, hk, rfl, HP, rfl⟩ := hrel
  by_cases hlt : k < s.size
  ·have hc := s[k].toNat_lt
   have hck : (w.alloc (.cells (bytesRow s C) 5 ((bytesRow s C).size, (bytesRow s C).size + 1))).cell? ⟨w.heap.size, k, none⟩ = some (.int .u8 (s[k].toNat : Int)) := HCell.out k hlt
   by_cases h1 : s[k].toNat < 32
   ·have HF : Hid (lineB s.data.toList = false) := lineB_bad hlt (.inl h1)
    go_wp2
    go_ret
    exact ⟨by rw [HF.out]; rfl, ((Below.refl _ _).alloc (Nat.le_refl _) _).drew⟩
   ·by_cases h2 : 126 < s[k].toNat
    ·have HF : Hid (lineB s.data.toList = false) := lineB_bad hlt (.inr h2)
     go_wp2
     go_ret
     exact ⟨by rw [HF.out]; rfl, ((Below.refl _ _).alloc (Nat.le_refl _) _).drew⟩
    ·have HN : Hid (∀ j (hj : j < s.size), j < k + 1 -> 32 <= s[j].toNat /\ s[j].toNat <= 126) := fun j hj hjk => by
      by_cases e : j = k
      ·subst e; omega
      ·exact HP.out j hj (by omega)
     go_wp2
     go_roundw
     case rel => exact ⟨k + 1, by omega, by go_num, HN, by first | rfl | trivial⟩
     case measure => simp [intOf]; omega
  ·have HF : Hid (lineB s.data.toList = true) := lineB_ok fun j hj => HP.out j hj (by omega)
   go_wp2
   go_ret
   exact ⟨by rw [HF.out]; rfl, ((Below.refl _ _).alloc (Nat.le_refl _) _).drew⟩
end Go.Proofs.Ytbiiihjohbnodaa
namespace Go.Proofs.Ytbiiihjohbnodaa
open Go.RowKit Der
set_option linter.unusedVariables false
def formV (t : Int) (s : List UInt8) (k : Value) (l : Nat) : Value :=
 if t = 48 /\ s = [] then .iface 143 k else if 0 < l then .nilIface else if t = 1 then .iface 139 (.string ⟨s.toArray⟩) else if t = 2 then .iface 140 (.string ⟨s.toArray⟩)
 else if t = 4 then .iface 141 (.string ⟨s.toArray⟩) else if t = 12 then .iface 142 (.string ⟨s.toArray⟩) else .nilIface
theorem formV_row (k : Value) (l : Nat) : formV 48 [] k l = .iface 143 k := by unfold formV; rw [if_pos ⟨rfl, rfl⟩]
theorem formV_nil {t : Int} {s : List UInt8} (k : Value) {l : Nat} (h : ¬ (t = 48 /\ s = [])) (hl : 0 < l) : formV t s k l = .nilIface := by unfold formV; rw [if_neg h, if_pos hl]
theorem formV_one (s : List UInt8) (k : Value) : formV 1 s k 0 = .iface 139 (.string ⟨s.toArray⟩) := rfl
theorem formV_two (s : List UInt8) (k : Value) : formV 2 s k 0 = .iface 140 (.string ⟨s.toArray⟩) := rfl
theorem formV_four (s : List UInt8) (k : Value) : formV 4 s k 0 = .iface 141 (.string ⟨s.toArray⟩) := rfl
theorem formV_twelve (s : List UInt8) (k : Value) : formV 12 s k 0 = .iface 142 (.string ⟨s.toArray⟩) := rfl
theorem formV_none {t : Int} {s : List UInt8} (k : Value) (h : ¬ (t = 48 /\ s = [])) (h1 : t ≠ 1) (h2 : t ≠ 2) (h4 : t ≠ 4) (h12 : t ≠ 12) : formV t s k 0 = .nilIface := by
 unfold formV
 rw [if_neg h, if_neg (Nat.lt_irrefl 0), if_neg h1, if_neg h2, if_neg h4, if_neg h12]
theorem formOf_any (t : Int) (s : List UInt8) (ax : Option Addr) (l cx : Nat) (w : World) (hl : l <= 20000000) (hs : s.length <= 20000000) :
  Calls Try.prog 111 #[.agg #[.int .i64 t, .string ⟨s.toArray⟩, .slice ax l cx]] w fun e w' => e = .returned (formV t s (.slice ax l cx) l) /\ Below w.heap.size w w' := by
 have HL := one_laid w (.int .i64 t) (.string ⟨s.toArray⟩) (.slice ax l cx) 67
 by_cases h48 : t = 48 /\ s = []
 ·obtain ⟨rfl, rfl⟩ := h48
  rw [formV_row]
  go_enter Try.func111, Try.ntmps111
  go_wp2_with fail
  go_ret
  exact ⟨rfl, (HL _ rfl).1⟩
 have hlb : (l : Int) <= 20000000 := by omega
 by_cases hl0 : 0 < l
 ·rw [formV_nil _ h48 hl0]
  have hl0i : (0 : Int) < (l : Int) := by omega
  by_cases ht : t = 48
  ·subst ht
   have hs0 : ¬ s = [] := fun e => h48 ⟨rfl, e⟩
   have hsn : (s == []) = false := by simpa using hs0
   go_enter Try.func111, Try.ntmps111
   go_wp2_with fail
   go_ret
   exact ⟨rfl, (HL _ rfl).1⟩
  ·have htb : (t == 48) = false := by simpa using ht
   go_enter Try.func111, Try.ntmps111
   go_wp2_with fail
   go_ret
   exact ⟨rfl, (HL _ rfl).1⟩
 obtain rfl : l = 0 := by omega
 by_cases h1 : t = 1
 ·subst h1
  rw [formV_one]
  go_enter Try.func111, Try.ntmps111
  go_wp2_with fail
  go_ret
  exact ⟨rfl, (HL _ rfl).1⟩
 by_cases h2 : t = 2
 ·subst h2
  rw [formV_two]
  go_enter Try.func111, Try.ntmps111
  go_wp2_with fail
  go_ret
  exact ⟨rfl, (HL _ rfl).1⟩
 by_cases h4 : t = 4
 ·subst h4
  rw [formV_four]
  go_enter Try.func111, Try.ntmps111
  go_wp2_with fail
  go_ret
  exact ⟨rfl, (HL _ rfl).1⟩
 by_cases h12 : t = 12
 ·subst h12
  rw [formV_twelve]
  go_enter Try.func111, Try.ntmps111
  go_wp2_with fail
  go_ret
  exact ⟨rfl, (HL _ rfl).1⟩
 rw [formV_none _ h48 h1 h2 h4 h12]
 have b1 : (t == 1) = false := by simpa using h1
 have b2 : (t == 2) = false := by simpa using h2
 have b4 : (t == 4) = false := by simpa using h4
 have b12 : (t == 12) = false := by simpa using h12
 by_cases ht : t = 48
 ·subst ht
  have hs0 : ¬ s = [] := fun e => h48 ⟨rfl, e⟩
  have hsn : (s == []) = false := by simpa using hs0
  go_enter Try.func111, Try.ntmps111
  go_wp2_with fail
  go_ret
  exact ⟨rfl, (HL _ rfl).1⟩
 ·have htb : (t == 48) = false := by simpa using ht
  go_enter Try.func111, Try.ntmps111
  go_wp2_with fail
  go_ret
  exact ⟨rfl, (HL _ rfl).1⟩
theorem intRight_any (s : List UInt8) (w : World) (hs : s.length <= 20000000) :
  Calls Try.prog 123 #[.string ⟨s.toArray⟩] w fun e w' => e = .returned (.bool (plainOk 2 s)) /\ w' = w := by
 have hsz : (⟨s.toArray⟩ : ByteArray).size = s.length := by show s.toArray.size = _; simp
 by_cases hl : 1 <= s.length /\ s.length <= 5
 ·obtain ⟨b, r, rfl⟩ : ∃ b r, s = b :: r := by
   cases s with
   | nil => simp at hl
   | cons b r => exact ⟨b, r, rfl⟩
  have hg0 : ∀ h, (⟨(b :: r).toArray⟩ : ByteArray)[0]'h = b := fun h => rfl
  have hrl : (r.length : Int) + 1 <= 5 := by have := hl.2; simp at this; omega
  have hrl5 : ¬ (5 : Int) < (r.length : Int) + 1 := by omega
  have hrl0 : ¬ (r.length : Int) + 1 = 0 := by omega
  by_cases hb : 128 <= b.toNat
  ·have HR : Hid (plainOk 2 (b :: r) = false) := by
    show plainOk 2 (b :: r) = false
    unfold plainOk
    rw [if_neg (by decide), if_pos rfl]
    have : ¬ b < 128 := by rw [UInt8.lt_iff_toNat_lt]; simpa using hb
    simp [this]
   have hbi : (127 : Int) < (b.toNat : Int) := by omega
   go_enter Try.func123, Try.ntmps123
   go_wp2_with fail
   go_ret
   exact ⟨by rw [HR.out]; rfl, rfl⟩
  ·have hbi : ¬ (127 : Int) < (b.toNat : Int) := by omega
   have hblt : b < 128 := by rw [UInt8.lt_iff_toNat_lt]; simpa using hb
   by_cases hb0 : b.toNat = 0
   ·have hb00 : b = 0 := UInt8.toNat_inj.1 (by simpa using hb0)
    subst hb00
    cases r with
    | nil =>
     have HR : Hid (plainOk 2 [0] = true) := by show plainOk 2 [0] = true; decide
     go_enter Try.func123, Try.ntmps123
     go_wp2_with fail
     go_ret
     exact ⟨by rw [HR.out]; rfl, rfl⟩
    | cons c r =>
     have hg1 : ∀ h, (⟨(0 :: c :: r).toArray⟩ : ByteArray)[1]'h = c := fun h => rfl
     have hr2 : (r.length : Int) + 1 + 1 <= 5 := by have := hl.2; simp at this; omega
     have hr25 : ¬ (5 : Int) < (r.length : Int) + 1 + 1 := by omega
     have hr21 : ¬ ((r.length : Int) + 1 + 1 = 1) := by omega
     have hr20 : ¬ ((r.length : Int) + 1 + 1 = 0) := by omega
     have HR : Hid (plainOk 2 (0 :: c :: r) = decide ((127 : Int) < (c.toNat : Int))) := by
      show plainOk 2 (0 :: c :: r) = _
      unfold plainOk
      rw [if_neg (by decide), if_pos rfl]
      have h5 : r.length + 1 + 1 <= 5 := by simpa using hl.2
      have e : ((128 : UInt8) <= c) = ((127 : Int) < (c.toNat : Int)) := by
       rw [UInt8.le_iff_toNat_le]
       show (128 <= c.toNat) = _
       exact propext ⟨fun h => by omega, fun h => by omega⟩
      simp [h5, e]
     go_enter Try.func123, Try.ntmps123
     go_wp2_with fail
     go_ret
     exact ⟨by rw [HR.out]; rfl, rfl⟩
   ·have hbz : ¬ (b.toNat : Int) = 0 := by omega
    have HR : Hid (plainOk 2 (b :: r) = true) := by
     show plainOk 2 (b :: r) = true
     unfold plainOk
     rw [if_neg (by decide), if_pos rfl]
     have h5 : r.length + 1 <= 5 := by simpa using hl.2
     have hne : b ≠ 0 := fun e => hb0 (by rw [e]; rfl)
     simp [hblt, h5, hne]
    go_enter Try.func123, Try.ntmps123
    go_wp2_with fail
    go_ret
    exact ⟨by rw [HR.out]; rfl, rfl⟩
 ·have HR : Hid (plainOk 2 s = false) := by
   show plainOk 2 s = false
   unfold plainOk
   rw [if_neg (by decide), if_pos rfl]
   by_cases h1 : 1 <= s.length
   ·have h5 : ¬ s.length <= 5 := fun h => hl ⟨h1, h⟩
    simp [h5]
   ·simp [h1]
  by_cases h0 : s.length = 0
  ·obtain rfl : s = [] := List.eq_nil_of_length_eq_zero h0
   go_enter Try.func123, Try.ntmps123
   go_wp2_with fail
   go_ret
   exact ⟨by rw [HR.out]; rfl, rfl⟩
  ·have h5 : (5 : Int) < (s.length : Int) := by omega
   have h00 : ¬ (s.length : Int) = 0 := by omega
   go_enter Try.func123, Try.ntmps123
   go_wp2_with fail
   go_ret
   exact ⟨by rw [HR.out]; rfl, rfl⟩
theorem ta_flag_flag (s : ByteArray) (w : World) : (Instr.typeAssert (.iface 139 (.string s)) 126 139 true).run Try.prog w = .ok (.tuple #[.string s, .bool true]) w := by kernel_rfl
theorem ta_integer_flag (s : ByteArray) (w : World) : (Instr.typeAssert (.iface 140 (.string s)) 126 139 true).run Try.prog w = .ok (.tuple #[.string ⟨#[]⟩, .bool false]) w := by kernel_rfl
theorem ta_integer_integer (s : ByteArray) (w : World) : (Instr.typeAssert (.iface 140 (.string s)) 126 140 true).run Try.prog w = .ok (.tuple #[.string s, .bool true]) w := by kernel_rfl
theorem ta_octets_flag (s : ByteArray) (w : World) : (Instr.typeAssert (.iface 141 (.string s)) 126 139 true).run Try.prog w = .ok (.tuple #[.string ⟨#[]⟩, .bool false]) w := by kernel_rfl
theorem ta_octets_integer (s : ByteArray) (w : World) : (Instr.typeAssert (.iface 141 (.string s)) 126 140 true).run Try.prog w = .ok (.tuple #[.string ⟨#[]⟩, .bool false]) w := by kernel_rfl
theorem ta_octets_octets (s : ByteArray) (w : World) : (Instr.typeAssert (.iface 141 (.string s)) 126 141 true).run Try.prog w = .ok (.tuple #[.string s, .bool true]) w := by kernel_rfl
theorem ta_plain_flag (s : ByteArray) (w : World) : (Instr.typeAssert (.iface 142 (.string s)) 126 139 true).run Try.prog w = .ok (.tuple #[.string ⟨#[]⟩, .bool false]) w := by kernel_rfl
theorem ta_plain_integer (s : ByteArray) (w : World) : (Instr.typeAssert (.iface 142 (.string s)) 126 140 true).run Try.prog w = .ok (.tuple #[.string ⟨#[]⟩, .bool false]) w := by kernel_rfl
theorem ta_plain_octets (s : ByteArray) (w : World) : (Instr.typeAssert (.iface 142 (.string s)) 126 141 true).run Try.prog w = .ok (.tuple #[.string ⟨#[]⟩, .bool false]) w := by kernel_rfl
theorem ta_plain_plain (s : ByteArray) (w : World) : (Instr.typeAssert (.iface 142 (.string s)) 126 142 true).run Try.prog w = .ok (.tuple #[.string s, .bool true]) w := by kernel_rfl
theorem ta_row_flag (a : Option Addr) (l c : Nat) (w : World) : (Instr.typeAssert (.iface 143 (.slice a l c)) 126 139 true).run Try.prog w = .ok (.tuple #[.string ⟨#[]⟩, .bool false]) w := by kernel_rfl
theorem ta_row_integer (a : Option Addr) (l c : Nat) (w : World) : (Instr.typeAssert (.iface 143 (.slice a l c)) 126 140 true).run Try.prog w = .ok (.tuple #[.string ⟨#[]⟩, .bool false]) w := by kernel_rfl
theorem ta_row_octets (a : Option Addr) (l c : Nat) (w : World) : (Instr.typeAssert (.iface 143 (.slice a l c)) 126 141 true).run Try.prog w = .ok (.tuple #[.string ⟨#[]⟩, .bool false]) w := by kernel_rfl
theorem ta_row_plain (a : Option Addr) (l c : Nat) (w : World) : (Instr.typeAssert (.iface 143 (.slice a l c)) 126 142 true).run Try.prog w = .ok (.tuple #[.string ⟨#[]⟩, .bool false]) w := by kernel_rfl
theorem ta_row_row (a : Option Addr) (l c : Nat) (w : World) : (Instr.typeAssert (.iface 143 (.slice a l c)) 126 143 true).run Try.prog w = .ok (.tuple #[.slice a l c, .bool true]) w := by kernel_rfl
theorem ta_nil_flag (w : World) : (Instr.typeAssert .nilIface 126 139 true).run Try.prog w = .ok (.tuple #[.string ⟨#[]⟩, .bool false]) w := by kernel_rfl
theorem ta_nil_integer (w : World) : (Instr.typeAssert .nilIface 126 140 true).run Try.prog w = .ok (.tuple #[.string ⟨#[]⟩, .bool false]) w := by kernel_rfl
theorem ta_nil_octets (w : World) : (Instr.typeAssert .nilIface 126 141 true).run Try.prog w = .ok (.tuple #[.string ⟨#[]⟩, .bool false]) w := by kernel_rfl
theorem ta_nil_plain (w : World) : (Instr.typeAssert .nilIface 126 142 true).run Try.prog w = .ok (.tuple #[.string ⟨#[]⟩, .bool false]) w := by kernel_rfl
theorem ta_nil_row (w : World) : (Instr.typeAssert .nilIface 126 143 true).run Try.prog w = .ok (.tuple #[.slice none 0 0, .bool false]) w := by kernel_rfl
theorem rw_flag (s : List UInt8) (d : Int) (w : World) : Calls Try.prog 110 #[.iface 139 (.string ⟨s.toArray⟩), .int .i64 d] w fun e w' => e = .returned (.bool (plainOk 1 s)) /\ Below w.heap.size w w' := by
 have t_flag := ta_flag_flag
 have HN : Hid (plainOk 1 s = (s == [0] || s == [255])) := rfl
 by_cases e0 : s = [0]
 ·subst e0
  go_enter Try.func110, Try.ntmps110
  go_wp2_with fail
  go_ret
  exact ⟨by rw [HN.out]; rfl, Below.refl _ _⟩
 ·by_cases e1 : s = [255]
  ·subst e1
   go_enter Try.func110, Try.ntmps110
   go_wp2_with fail
   go_ret
   exact ⟨by rw [HN.out]; rfl, Below.refl _ _⟩
  ·have f0 : (s == [0]) = false := by simpa using e0
   have f1 : (s == [255]) = false := by simpa using e1
   have HR : Hid (plainOk 1 s = false) := by show plainOk 1 s = false; rw [HN.out, f0, f1]; rfl
   go_enter Try.func110, Try.ntmps110
   go_wp2_with fail
   go_ret
   exact ⟨by rw [HR.out]; rfl, Below.refl _ _⟩
theorem rw_int (s : List UInt8) (d : Int) (w : World) (hs : s.length <= 20000000) : Calls Try.prog 110 #[.iface 140 (.string ⟨s.toArray⟩), .int .i64 d] w fun e w' => e = .returned (.bool (plainOk 2 s)) /\ Below w.heap.size w w' := by
 have t_flag := ta_integer_flag
 have t_integer := ta_integer_integer
 go_enter Try.func110, Try.ntmps110
 go_wp2_with fail
 refine (intRight_any s _ hs).mono ?_
 rintro e w' ⟨rfl, rfl⟩
 go_wp2_with fail
 go_ret
 exact ⟨rfl, Below.refl _ _⟩
theorem rw_octets (s : List UInt8) (d : Int) (w : World) : Calls Try.prog 110 #[.iface 141 (.string ⟨s.toArray⟩), .int .i64 d] w fun e w' => e = .returned (.bool true) /\ Below w.heap.size w w' := by
 have t_flag := ta_octets_flag
 have t_integer := ta_octets_integer
 have t_octets := ta_octets_octets
 go_enter Try.func110, Try.ntmps110
 go_wp2_with fail
 go_ret
 exact ⟨rfl, Below.refl _ _⟩
theorem rw_plain (s : List UInt8) (d : Int) (w : World) (hs : s.length <= 20000000) : Calls Try.prog 110 #[.iface 142 (.string ⟨s.toArray⟩), .int .i64 d] w fun e w' => e = .returned (.bool (plainOk 12 s)) /\ Below w.heap.size w w' := by
 have t_flag := ta_plain_flag
 have t_integer := ta_plain_integer
 have t_octets := ta_plain_octets
 have t_plain := ta_plain_plain
 have hsz : (⟨s.toArray⟩ : ByteArray).size = s.length := by show s.toArray.size = _; simp
 have HN : Hid (plainOk 12 s = lineB s) := rfl
 have E := plainLineB_any ⟨s.toArray⟩ w (by omega)
 have E2 : Calls Try.prog 124 #[.string ⟨s.toArray⟩] w fun e w' => e = .returned (.bool (lineB s)) /\ Below w.heap.size w w' := E
 obtain ⟨P, hP⟩ := zE (lineB s)
 rw [HN.out]
 rw [hP] at E2 |-
 clear hP E HN
 go_enter Try.func110, Try.ntmps110
 go_wp2_with fail
 refine E2.mono ?_
 rintro e w' ⟨rfl, hb⟩
 go_wp2_with fail
 go_ret
 exact ⟨rfl, hb⟩
theorem rw_nil (d : Int) (w : World) : Calls Try.prog 110 #[.nilIface, .int .i64 d] w fun e w' => e = .returned (.bool false) /\ Below w.heap.size w w' := by
 have t_flag := ta_nil_flag
 have t_integer := ta_nil_integer
 have t_octets := ta_nil_octets
 have t_plain := ta_nil_plain
 have t_row := ta_nil_row
 go_enter Try.func110, Try.ntmps110
 go_wp2_with fail
 go_ret
 exact ⟨rfl, Below.refl _ _⟩
end Go.Proofs.Ytbiiihjohbnodaa
