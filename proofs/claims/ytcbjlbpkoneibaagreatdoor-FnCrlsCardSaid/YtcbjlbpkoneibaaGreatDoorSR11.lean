/-
  Texts of the proof.
-/
import Derived.Test.YtcbjlbpkoneibaaGreatDoorSH1
import Derived.Laws.IdiomStrings
import Derived.Laws.OwnMore
import Derived.Deep.RegionHeld3
import Derived.Deep.LoopGhost
import Derived.Test.YtcbjlbpkoneibaaGreatDoorSR9
set_option linter.unusedVariables false
set_option linter.unusedSimpArgs false
set_option maxRecDepth 100000
set_option maxHeartbeats 25600000
namespace Go.Proofs.YtcbjlbpkoneibaaGreatDoor
open Go.RowKit Der
theorem cloneB_any (s : ByteArray) (w : World) (hs : s.size <= 1000000000000) : Calls Tryz.prog 82 #[zG s] w fun e w' => e = .returned (zG s) /\ zW w w' := by
 go_enter Tryz.func82, Tryz.ntmps82;go_wp2_with (go_at_call 119; refine (Tryz.stringslite_Clone s _ (by omega)).mono ?_; rintro e w1 ⟨rfl, hb1⟩);go_ret;exact ⟨rfl, hb1⟩
def lineB (l : List UInt8) : Bool := l.all fun b => decide (32 <= b) && decide (b <= 126)
theorem lineB_bad {s : ByteArray} {k : Nat} (hk : k < s.size) (h : s[k].toNat < 32 ∨ 126 < s[k].toNat) : lineB s.data.toList = false := by
 unfold lineB;rw [List.all_eq_false];refine ⟨s[k], ?_, ?_⟩
 ·rw [List.mem_iff_getElem]
  exact ⟨k, by simpa using hk, rfl⟩
 ·simp only [Bool.and_eq_true, decide_eq_true_eq, UInt8.le_iff_toNat_le]
  intro h2;have h3 : (32 : UInt8).toNat = 32 := rfl;have h4 : (126 : UInt8).toNat = 126 := rfl;omega
theorem lineB_ok {s : ByteArray} (h : ∀ k (hk : k < s.size), 32 <= s[k].toNat /\ s[k].toNat <= 126) : lineB s.data.toList = true := by
 unfold lineB;rw [List.all_eq_true];intro b hb;obtain ⟨k, hk, rfl⟩ := List.getElem_of_mem hb;have := h k (by simpa using hk);simp only [Bool.and_eq_true, decide_eq_true_eq, UInt8.le_iff_toNat_le];exact this
theorem plainLineB_any (s : ByteArray) (w : World) (hs : s.size <= 1000000000000) : Calls Tryz.prog 147 #[zG s] w fun e w' => e = .returned (.bool (lineB s.data.toList)) /\ zW w w' := by
 have hcv := fun w => run_bytes_of_string (P := Tryz.prog) w 9 22 5 s Tryz.underlying9 Tryz.underlying22 Tryz.underlying5
 go_enter Tryz.func147, Tryz.ntmps147
 go_wp2
 generalize hC : grownCap w s.size 0 5 = C;have HCell : Hid (∀ j (hj : j < s.size), ((w.alloc (.cells (bytesRow s C) 5 ((bytesRow s C).size, (bytesRow s C).size + 1))).drew).cell? ⟨w.heap.size, j, none⟩ = some (.int .u8 ((s[j]'hj).toNat : Int))) := fun j hj => by
  show (w.alloc (.cells (bytesRow s C) 5 ((bytesRow s C).size, (bytesRow s C).size + 1))).cell? ⟨w.heap.size, j, none⟩ = _;rw [World.cell?_alloc_mark, bytesRow_at s C j hj]; rfl
 clear hC hcv
 go_loopw [8] (fun iv wr => ∃ k : Nat, k <= s.size /\ iv = zI k /\ Hid (∀ j (hj : j < s.size), j < k -> 32 <= s[j].toNat /\ s[j].toNat <= 126) /\ (w.alloc (.cells (bytesRow s C) 5 ((bytesRow s C).size, (bytesRow s C).size + 1))).drew = wr) (fun iv _ => s.size - (intOf iv).toNat)
 case atStart => exact ⟨0, Nat.zero_le _, rfl, fun j _ h => absurd h (Nat.not_lt_zero _), rfl⟩
 case round =>
  obtain ⟨k, hk, rfl, HP, rfl⟩ := hrel;by_cases hlt : k < s.size
  ·have hc := s[k].toNat_lt
   have hck : (w.alloc (.cells (bytesRow s C) 5 ((bytesRow s C).size, (bytesRow s C).size + 1))).cell? ⟨w.heap.size, k, none⟩ = some (.int .u8 (s[k].toNat : Int)) := HCell.out k hlt;by_cases h1 : s[k].toNat < 32
   ·have HF : Hid (lineB s.data.toList = false) := lineB_bad hlt (.inl h1)
    go_wp2
    go_ret;exact ⟨by rw [HF.out]; rfl, ((Below.refl _ _).alloc (Nat.le_refl _) _).drew⟩
   ·by_cases h2 : 126 < s[k].toNat
    ·have HF : Hid (lineB s.data.toList = false) := lineB_bad hlt (.inr h2)
     go_wp2
     go_ret;exact ⟨by rw [HF.out]; rfl, ((Below.refl _ _).alloc (Nat.le_refl _) _).drew⟩
    ·have HN : Hid (∀ j (hj : j < s.size), j < k + 1 -> 32 <= s[j].toNat /\ s[j].toNat <= 126) := fun j hj hjk => by
      by_cases e : j = k
      ·subst e; omega
      ·exact HP.out j hj (by omega)
     go_wp2
     go_roundw
     case rel => exact ⟨k + 1, by omega, by go_num, HN, by first | rfl | trivial⟩
     case measure => simp [intOf]; omega
  ·have HF : Hid (lineB s.data.toList = true) := lineB_ok fun j hj => HP.out j hj (by omega)
   go_wp2
   go_ret;exact ⟨by rw [HF.out]; rfl, ((Below.refl _ _).alloc (Nat.le_refl _) _).drew⟩
def formV (t : Int) (s : List UInt8) (k : Value) (l : Nat) : Value :=
 if t = 48 /\ s = [] then .iface 161 k else if 0 < l then .nilIface else if t = 1 then .iface 157 (zG ⟨s.toArray⟩) else if t = 2 then .iface 158 (zG ⟨s.toArray⟩)
 else if t = 4 then .iface 159 (zG ⟨s.toArray⟩) else if t = 12 then .iface 160 (zG ⟨s.toArray⟩) else .nilIface
theorem formV_row (k : Value) (l : Nat) : formV 48 [] k l = .iface 161 k := by unfold formV; rw [if_pos ⟨rfl, rfl⟩]
theorem formV_nil {t : Int} {s : List UInt8} (k : Value) {l : Nat} (h : ¬ (t = 48 /\ s = [])) (hl : 0 < l) : formV t s k l = .nilIface := by unfold formV; rw [if_neg h, if_pos hl]
theorem formV_one (s : List UInt8) (k : Value) : formV 1 s k 0 = .iface 157 (zG ⟨s.toArray⟩) := rfl
theorem formV_two (s : List UInt8) (k : Value) : formV 2 s k 0 = .iface 158 (zG ⟨s.toArray⟩) := rfl
theorem formV_four (s : List UInt8) (k : Value) : formV 4 s k 0 = .iface 159 (zG ⟨s.toArray⟩) := rfl
theorem formV_twelve (s : List UInt8) (k : Value) : formV 12 s k 0 = .iface 160 (zG ⟨s.toArray⟩) := rfl
theorem formV_none {t : Int} {s : List UInt8} (k : Value) (h : ¬ (t = 48 /\ s = [])) (h1 : t ≠ 1) (h2 : t ≠ 2) (h4 : t ≠ 4) (h12 : t ≠ 12) : formV t s k 0 = .nilIface := by
 unfold formV;rw [if_neg h, if_neg (Nat.lt_irrefl 0), if_neg h1, if_neg h2, if_neg h4, if_neg h12]
theorem formOf_any (t : Int) (s : List UInt8) (ax : Option Addr) (l cx : Nat) (w : World) (hl : l <= 20000000) (hs : s.length <= 20000000) :
  Calls Tryz.prog 107 #[.agg #[zI t, zG ⟨s.toArray⟩, zS ax l cx]] w fun e w' => e = .returned (formV t s (zS ax l cx) l) /\ zW w w' := by
 have HL := one_laid w (zI t) (zG ⟨s.toArray⟩) (zS ax l cx) 50;by_cases h48 : t = 48 /\ s = []
 ·obtain ⟨rfl, rfl⟩ := h48
  rw [formV_row];go_enter Tryz.func107, Tryz.ntmps107;go_wp2_with fail;go_ret;exact ⟨rfl, (HL _ rfl).1⟩
 have hlb : (l : Int) <= 20000000 := by omega
 by_cases hl0 : 0 < l
 ·rw [formV_nil _ h48 hl0]
  have hl0i : (0 : Int) < (l : Int) := by omega
  by_cases ht : t = 48
  ·subst ht
   have hs0 : ¬ s = [] := fun e => h48 ⟨rfl, e⟩
   have hsn : (s == []) = false := by simpa using hs0
   go_enter Tryz.func107, Tryz.ntmps107;go_wp2_with fail;go_ret;exact ⟨rfl, (HL _ rfl).1⟩
  ·have htb : (t == 48) = false := by simpa using ht
   go_enter Tryz.func107, Tryz.ntmps107;go_wp2_with fail;go_ret;exact ⟨rfl, (HL _ rfl).1⟩
 obtain rfl : l = 0 := by omega
 by_cases h1 : t = 1
 ·subst h1
  rw [formV_one];go_enter Tryz.func107, Tryz.ntmps107;go_wp2_with fail;go_ret;exact ⟨rfl, (HL _ rfl).1⟩
 by_cases h2 : t = 2
 ·subst h2
  rw [formV_two];go_enter Tryz.func107, Tryz.ntmps107;go_wp2_with fail;go_ret;exact ⟨rfl, (HL _ rfl).1⟩
 by_cases h4 : t = 4
 ·subst h4
  rw [formV_four];go_enter Tryz.func107, Tryz.ntmps107;go_wp2_with fail;go_ret;exact ⟨rfl, (HL _ rfl).1⟩
 by_cases h12 : t = 12
 ·subst h12
  rw [formV_twelve];go_enter Tryz.func107, Tryz.ntmps107;go_wp2_with fail;go_ret;exact ⟨rfl, (HL _ rfl).1⟩
 rw [formV_none _ h48 h1 h2 h4 h12];have b1 : (t == 1) = false := by simpa using h1
 have b2 : (t == 2) = false := by simpa using h2
 have b4 : (t == 4) = false := by simpa using h4
 have b12 : (t == 12) = false := by simpa using h12
 by_cases ht : t = 48
 ·subst ht
  have hs0 : ¬ s = [] := fun e => h48 ⟨rfl, e⟩
  have hsn : (s == []) = false := by simpa using hs0
  go_enter Tryz.func107, Tryz.ntmps107;go_wp2_with fail;go_ret;exact ⟨rfl, (HL _ rfl).1⟩
 ·have htb : (t == 48) = false := by simpa using ht
  go_enter Tryz.func107, Tryz.ntmps107;go_wp2_with fail;go_ret;exact ⟨rfl, (HL _ rfl).1⟩
theorem intRight_any (s : List UInt8) (w : World) (hs : s.length <= 20000000) :
  Calls Tryz.prog 146 #[zG ⟨s.toArray⟩] w fun e w' => e = .returned (.bool (plainOk 2 s)) /\ w' = w := by
 have hsz : (⟨s.toArray⟩ : ByteArray).size = s.length := by show s.toArray.size = _; simp
 by_cases hl : 1 <= s.length /\ s.length <= 5
 ·obtain ⟨b, r, rfl⟩ : ∃ b r, s = b :: r := by
   cases s with
   | nil => simp at hl
   | cons b r => exact ⟨b, r, rfl⟩
  have hg0 : ∀ h, (⟨(b :: r).toArray⟩ : ByteArray)[0]'h = b := fun h => rfl
  have hrl : (r.length : Int) + 1 <= 5 := by have := hl.2; simp at this; omega
  have hrl5 : ¬ (5 : Int) < (r.length : Int) + 1 := by omega
  have hrl0 : ¬ (r.length : Int) + 1 = 0 := by omega
  by_cases hb : 128 <= b.toNat
  ·have HR : Hid (plainOk 2 (b :: r) = false) := by
    show plainOk 2 (b :: r) = false;unfold plainOk;rw [if_neg (by decide), if_pos rfl];have : ¬ b < 128 := by rw [UInt8.lt_iff_toNat_lt]; simpa using hb
    simp [this]
   have hbi : (127 : Int) < (b.toNat : Int) := by omega
   go_enter Tryz.func146, Tryz.ntmps146;go_wp2_with fail;go_ret;exact ⟨by rw [HR.out]; rfl, rfl⟩
  ·have hbi : ¬ (127 : Int) < (b.toNat : Int) := by omega
   have hblt : b < 128 := by rw [UInt8.lt_iff_toNat_lt]; simpa using hb
   by_cases hb0 : b.toNat = 0
   ·have hb00 : b = 0 := UInt8.toNat_inj.1 (by simpa using hb0)
    subst hb00
    cases r with
    | nil =>
     have HR : Hid (plainOk 2 [0] = true) := by show plainOk 2 [0] = true; decide
     go_enter Tryz.func146, Tryz.ntmps146;go_wp2_with fail;go_ret;exact ⟨by rw [HR.out]; rfl, rfl⟩
    | cons c r =>
     have hg1 : ∀ h, (⟨(0 :: c :: r).toArray⟩ : ByteArray)[1]'h = c := fun h => rfl
     have hr2 : (r.length : Int) + 1 + 1 <= 5 := by have := hl.2; simp at this; omega
     have hr25 : ¬ (5 : Int) < (r.length : Int) + 1 + 1 := by omega
     have hr21 : ¬ ((r.length : Int) + 1 + 1 = 1) := by omega
     have hr20 : ¬ ((r.length : Int) + 1 + 1 = 0) := by omega
     have HR : Hid (plainOk 2 (0 :: c :: r) = decide ((127 : Int) < (c.toNat : Int))) := by
      show plainOk 2 (0 :: c :: r) = _;unfold plainOk;rw [if_neg (by decide), if_pos rfl];have h5 : r.length + 1 + 1 <= 5 := by simpa using hl.2
      have e : ((128 : UInt8) <= c) = ((127 : Int) < (c.toNat : Int)) := by
       rw [UInt8.le_iff_toNat_le];show (128 <= c.toNat) = _;exact propext ⟨fun h => by omega, fun h => by omega⟩
      simp [h5, e]
     go_enter Tryz.func146, Tryz.ntmps146;go_wp2_with fail;go_ret;exact ⟨by rw [HR.out]; rfl, rfl⟩
   ·have hbz : ¬ (b.toNat : Int) = 0 := by omega
    have HR : Hid (plainOk 2 (b :: r) = true) := by
     show plainOk 2 (b :: r) = true;unfold plainOk;rw [if_neg (by decide), if_pos rfl];have h5 : r.length + 1 <= 5 := by simpa using hl.2
     have hne : b ≠ 0 := fun e => hb0 (by rw [e]; rfl)
     simp [hblt, h5, hne]
    go_enter Tryz.func146, Tryz.ntmps146;go_wp2_with fail;go_ret;exact ⟨by rw [HR.out]; rfl, rfl⟩
 ·have HR : Hid (plainOk 2 s = false) := by
   show plainOk 2 s = false;unfold plainOk;rw [if_neg (by decide), if_pos rfl];by_cases h1 : 1 <= s.length
   ·have h5 : ¬ s.length <= 5 := fun h => hl ⟨h1, h⟩
    simp [h5]
   ·simp [h1]
  by_cases h0 : s.length = 0
  ·obtain rfl : s = [] := List.eq_nil_of_length_eq_zero h0
   go_enter Tryz.func146, Tryz.ntmps146;go_wp2_with fail;go_ret;exact ⟨by rw [HR.out]; rfl, rfl⟩
  ·have h5 : (5 : Int) < (s.length : Int) := by omega
   have h00 : ¬ (s.length : Int) = 0 := by omega
   go_enter Tryz.func146, Tryz.ntmps146;go_wp2_with fail;go_ret;exact ⟨by rw [HR.out]; rfl, rfl⟩
theorem ta_flag_flag (s : ByteArray) (w : World) : (Instr.typeAssert (.iface 157 (zG s)) 131 157 true).run Tryz.prog w = .ok (.tuple #[zG s, .bool true]) w := by kernel_rfl
theorem ta_integer_flag (s : ByteArray) (w : World) : (Instr.typeAssert (.iface 158 (zG s)) 131 157 true).run Tryz.prog w = .ok (.tuple #[zG ⟨#[]⟩, .bool false]) w := by kernel_rfl
theorem ta_integer_integer (s : ByteArray) (w : World) : (Instr.typeAssert (.iface 158 (zG s)) 131 158 true).run Tryz.prog w = .ok (.tuple #[zG s, .bool true]) w := by kernel_rfl
theorem ta_octets_flag (s : ByteArray) (w : World) : (Instr.typeAssert (.iface 159 (zG s)) 131 157 true).run Tryz.prog w = .ok (.tuple #[zG ⟨#[]⟩, .bool false]) w := by kernel_rfl
theorem ta_octets_integer (s : ByteArray) (w : World) : (Instr.typeAssert (.iface 159 (zG s)) 131 158 true).run Tryz.prog w = .ok (.tuple #[zG ⟨#[]⟩, .bool false]) w := by kernel_rfl
theorem ta_octets_octets (s : ByteArray) (w : World) : (Instr.typeAssert (.iface 159 (zG s)) 131 159 true).run Tryz.prog w = .ok (.tuple #[zG s, .bool true]) w := by kernel_rfl
theorem ta_plain_flag (s : ByteArray) (w : World) : (Instr.typeAssert (.iface 160 (zG s)) 131 157 true).run Tryz.prog w = .ok (.tuple #[zG ⟨#[]⟩, .bool false]) w := by kernel_rfl
theorem ta_plain_integer (s : ByteArray) (w : World) : (Instr.typeAssert (.iface 160 (zG s)) 131 158 true).run Tryz.prog w = .ok (.tuple #[zG ⟨#[]⟩, .bool false]) w := by kernel_rfl
theorem ta_plain_octets (s : ByteArray) (w : World) : (Instr.typeAssert (.iface 160 (zG s)) 131 159 true).run Tryz.prog w = .ok (.tuple #[zG ⟨#[]⟩, .bool false]) w := by kernel_rfl
theorem ta_plain_plain (s : ByteArray) (w : World) : (Instr.typeAssert (.iface 160 (zG s)) 131 160 true).run Tryz.prog w = .ok (.tuple #[zG s, .bool true]) w := by kernel_rfl
theorem ta_row_flag (a : Option Addr) (l c : Nat) (w : World) : (Instr.typeAssert (.iface 161 (zS a l c)) 131 157 true).run Tryz.prog w = .ok (.tuple #[zG ⟨#[]⟩, .bool false]) w := by kernel_rfl
theorem ta_row_integer (a : Option Addr) (l c : Nat) (w : World) : (Instr.typeAssert (.iface 161 (zS a l c)) 131 158 true).run Tryz.prog w = .ok (.tuple #[zG ⟨#[]⟩, .bool false]) w := by kernel_rfl
theorem ta_row_octets (a : Option Addr) (l c : Nat) (w : World) : (Instr.typeAssert (.iface 161 (zS a l c)) 131 159 true).run Tryz.prog w = .ok (.tuple #[zG ⟨#[]⟩, .bool false]) w := by kernel_rfl
theorem ta_row_plain (a : Option Addr) (l c : Nat) (w : World) : (Instr.typeAssert (.iface 161 (zS a l c)) 131 160 true).run Tryz.prog w = .ok (.tuple #[zG ⟨#[]⟩, .bool false]) w := by kernel_rfl
theorem ta_row_row (a : Option Addr) (l c : Nat) (w : World) : (Instr.typeAssert (.iface 161 (zS a l c)) 131 161 true).run Tryz.prog w = .ok (.tuple #[zS a l c, .bool true]) w := by kernel_rfl
theorem ta_nil_flag (w : World) : (Instr.typeAssert .nilIface 131 157 true).run Tryz.prog w = .ok (.tuple #[zG ⟨#[]⟩, .bool false]) w := by kernel_rfl
theorem ta_nil_integer (w : World) : (Instr.typeAssert .nilIface 131 158 true).run Tryz.prog w = .ok (.tuple #[zG ⟨#[]⟩, .bool false]) w := by kernel_rfl
theorem ta_nil_octets (w : World) : (Instr.typeAssert .nilIface 131 159 true).run Tryz.prog w = .ok (.tuple #[zG ⟨#[]⟩, .bool false]) w := by kernel_rfl
theorem ta_nil_plain (w : World) : (Instr.typeAssert .nilIface 131 160 true).run Tryz.prog w = .ok (.tuple #[zG ⟨#[]⟩, .bool false]) w := by kernel_rfl
theorem ta_nil_row (w : World) : (Instr.typeAssert .nilIface 131 161 true).run Tryz.prog w = .ok (.tuple #[zZ, .bool false]) w := by kernel_rfl
theorem rw_flag (s : List UInt8) (d : Int) (w : World) : Calls Tryz.prog 106 #[.iface 157 (zG ⟨s.toArray⟩), zI d] w fun e w' => e = .returned (.bool (plainOk 1 s)) /\ zW w w' := by
 have t_flag := ta_flag_flag;have HN : Hid (plainOk 1 s = (s == [0] || s == [255])) := rfl;by_cases e0 : s = [0]
 ·subst e0
  go_enter Tryz.func106, Tryz.ntmps106;go_wp2_with fail;go_ret;exact ⟨by rw [HN.out]; rfl, Below.refl _ _⟩
 ·by_cases e1 : s = [255]
  ·subst e1
   go_enter Tryz.func106, Tryz.ntmps106;go_wp2_with fail;go_ret;exact ⟨by rw [HN.out]; rfl, Below.refl _ _⟩
  ·have f0 : (s == [0]) = false := by simpa using e0
   have f1 : (s == [255]) = false := by simpa using e1
   have HR : Hid (plainOk 1 s = false) := by show plainOk 1 s = false; rw [HN.out, f0, f1]; rfl
   go_enter Tryz.func106, Tryz.ntmps106;go_wp2_with fail;go_ret;exact ⟨by rw [HR.out]; rfl, Below.refl _ _⟩
theorem rw_int (s : List UInt8) (d : Int) (w : World) (hs : s.length <= 20000000) : Calls Tryz.prog 106 #[.iface 158 (zG ⟨s.toArray⟩), zI d] w fun e w' => e = .returned (.bool (plainOk 2 s)) /\ zW w w' := by
 have t_flag := ta_integer_flag;have t_integer := ta_integer_integer;go_enter Tryz.func106, Tryz.ntmps106;go_wp2_with fail;refine (intRight_any s _ hs).mono ?_;rintro e w' ⟨rfl, rfl⟩;go_wp2_with fail;go_ret;exact ⟨rfl, Below.refl _ _⟩
theorem rw_octets (s : List UInt8) (d : Int) (w : World) : Calls Tryz.prog 106 #[.iface 159 (zG ⟨s.toArray⟩), zI d] w fun e w' => e = .returned (.bool true) /\ zW w w' := by
 have t_flag := ta_octets_flag;have t_integer := ta_octets_integer;have t_octets := ta_octets_octets;go_enter Tryz.func106, Tryz.ntmps106;go_wp2_with fail;go_ret;exact ⟨rfl, Below.refl _ _⟩
theorem rw_plain (s : List UInt8) (d : Int) (w : World) (hs : s.length <= 20000000) : Calls Tryz.prog 106 #[.iface 160 (zG ⟨s.toArray⟩), zI d] w fun e w' => e = .returned (.bool (plainOk 12 s)) /\ zW w w' := by
 have t_flag := ta_plain_flag;have t_integer := ta_plain_integer;have t_octets := ta_plain_octets;have t_plain := ta_plain_plain;have hsz : (⟨s.toArray⟩ : ByteArray).size = s.length := by show s.toArray.size = _; simp
 have HN : Hid (plainOk 12 s = lineB s) := rfl;have E := plainLineB_any ⟨s.toArray⟩ w (by omega);have E2 : Calls Tryz.prog 147 #[zG ⟨s.toArray⟩] w fun e w' => e = .returned (.bool (lineB s)) /\ zW w w' := E
 obtain ⟨P, hP⟩ := zE (lineB s);rw [HN.out];rw [hP] at E2 |-;clear hP E HN;go_enter Tryz.func106, Tryz.ntmps106;go_wp2_with fail;refine E2.mono ?_;rintro e w' ⟨rfl, hb⟩;go_wp2_with fail;go_ret;exact ⟨rfl, hb⟩
theorem rw_nil (d : Int) (w : World) : Calls Tryz.prog 106 #[.nilIface, zI d] w fun e w' => e = .returned (.bool false) /\ zW w w' := by
 have t_flag := ta_nil_flag;have t_integer := ta_nil_integer;have t_octets := ta_nil_octets;have t_plain := ta_nil_plain;have t_row := ta_nil_row;go_enter Tryz.func106, Tryz.ntmps106;go_wp2_with fail;go_ret;exact ⟨rfl, Below.refl _ _⟩
end Go.Proofs.YtcbjlbpkoneibaaGreatDoor
namespace Go.Proofs.YtcbjlbpkoneibaaGreatDoor
open Go.RowKit Der
def RwC (n : Nat) : Prop := ∀ (t : Int) (s : List UInt8) (ks : List (It n)) (ax : Option Addr) (cx d : Nat) (w : World), KidsAt w (ItAt w n) (zS ax ks.length cx) ks -> szI (n + 1) (It.mk t s ks) <= 20000000 -> d <= 6 ->
 Calls Tryz.prog 106 #[formV t s (zS ax ks.length cx) ks.length, zI (d : Int)] w fun e w' => e = .returned (.bool (rightI (n + 1) (It.mk t s ks) (6 - d))) /\ zW w w'
def AllC (n : Nat) : Prop := ∀ (ks : List (It n)) (v : Value) (d : Nat) (w : World), KidsAt w (ItAt w n) v ks -> szS n ks <= 20000000 -> d <= 5 ->
 Calls Tryz.prog 148 #[v, zI (d : Int)] w fun e w' => e = .returned (.bool (ks.all fun y => rightI n y (6 - d))) /\ zW w w'
theorem all_zero : AllC 0 := fun ks v d w hx hz hd => by
 have hk : ks = [] := by
  cases ks with
  | nil => rfl
  | cons x _ => exact (x : Empty).elim
 subst hk;obtain ⟨ax, cx, rfl, _⟩ := hx;clear hz;show Calls Tryz.prog 148 #[zS ax 0 cx, zI (d : Int)] w fun e w' => e = .returned (.bool true) /\ zW w w'
 go_enter Tryz.func148, Tryz.ntmps148;go_wp2_with fail
 go_loopw [9] (fun iv wr => iv = zI 0 /\ wr = w) (fun _ _ => 0)
 case atStart => exact ⟨rfl, rfl⟩
 case round =>
  obtain ⟨rfl, rfl⟩ := hrel;go_wp2_with fail;go_ret;exact ⟨rfl, Below.refl _ _⟩
theorem all_step (n : Nat) (IH : Hid (RwC n)) (ks : List (It (n + 1))) (v : Value) (d : Nat) (w : World) (hx : KidsAt w (ItAt w (n + 1)) v ks) (hz : szS (n + 1) ks <= 20000000) (hd : d <= 5) :
  Calls Tryz.prog 148 #[v, zI (d : Int)] w fun e w' => e = .returned (.bool (ks.all fun y => rightI (n + 1) y (6 - d))) /\ zW w w' := by
 have hx0 := hx;obtain ⟨ax, cx, rfl, _⟩ := hx0;have HZ : Hid (szS (n + 1) ks <= 20000000) := hz;have hl := (szS_kid hz).1;have HX : Hid (KidsAt w (ItAt w (n + 1)) (zS ax ks.length cx) ks) := hx;obtain ⟨l, hle⟩ := zE (ks.length);have HE : Hid (ks.length = l) := hle;rw [hle] at HX hl |-;clear hx hz hle;go_enter Tryz.func148, Tryz.ntmps148;go_wp2_with fail
 go_loopw [9] (fun iv wr => ∃ k : Nat, k <= l /\ iv = zI k /\ Hid (zW w wr /\ ∀ j (hj : j < ks.length), j < k -> rightI (n + 1) ks[j] (6 - d) = true)) (fun iv _ => l - (intOf iv).toNat)
 case atStart => exact ⟨0, Nat.zero_le _, rfl, Below.refl _ _, fun j _ h => absurd h (Nat.not_lt_zero _)⟩
 case round =>
  obtain ⟨k, hk, rfl, HB⟩ := hrel;by_cases hlt : k < l
  ·have hlti : (k : Int) < (l : Int) := by omega
   have hk0 : (0 : Int) <= (k : Int) := by omega
   have hj1 : k < ks.length := by rw [HE.out]; exact hlt
   obtain ⟨g1, o1, t1, s1, k1, hax, hg1, hc1, hi1⟩ := HX.out.get hj1;obtain ⟨c10, c11, c12⟩ := Cells3.below (w' := wr) (t := t1) (s := s1) (k := k1) hc1 hg1 HB.1;obtain ⟨kk, hkk, hkids⟩ := ItAt.below HB.1 hi1;injection hkk with hkk
   simp only [Array.mk.injEq, List.cons.injEq, and_true] at hkk;obtain ⟨rfl, rfl, rfl⟩ := hkk;have hsz : szI (n + 1) ks[k] <= 20000000 := (szS_kid HZ.out).2 _ (List.getElem_mem hj1);obtain ⟨t, s, ks1, hxe⟩ : ∃ t s ks1, ks[k] = It.mk t s ks1 := ⟨_, _, _, (It.eta ks[k]).symm⟩;have HXE : Hid (ks[k] = It.mk t s ks1) := hxe;rw [hxe] at hkids hsz c10 c11;change KidsAt wr (ItAt wr n) k1 ks1 at hkids;change wr.cell? _ = some (zI t) at c10;change wr.cell? _ = some (zG ⟨s.toArray⟩) at c11;obtain ⟨ax1, cx1, rfl, _⟩ := id hkids;obtain ⟨l1, hl1⟩ := zE (ks1.length);have HK1 : Hid (KidsAt wr (ItAt wr n) (zS ax1 ks1.length cx1) ks1 /\ szI (n + 1) (It.mk t s ks1) <= 20000000 /\ ks1.length = l1) := ⟨hkids, hsz, hl1⟩;have hs1 := (szI_kid hsz).1;have hl1b : l1 <= 20000000 := by rw [<- hl1]; exact (szI_kid hsz).2.1
   rw [hl1] at c12;subst hax;clear hc1 hi1 hg1 hkids hsz hl1 hxe;have HL := one_laid wr (zI t) (zG ⟨s.toArray⟩) (zS ax1 l1 cx1) 50;go_wp2_with fail;obtain ⟨W1, hW1⟩ : ∃ W, W = wr.alloc (Obj.cells #[Value.int IntKind.i64 t, Value.string { data := s.toArray }, Value.slice ax1 l1 cx1] 50) := ⟨_, rfl⟩;rw [<- hW1];have HW1 := (HL W1 hW1).1;clear HL hW1;refine (formOf_any t s ax1 l1 cx1 W1 hl1b hs1).mono ?_;rintro e w3 ⟨rfl, hb3⟩;have hb13 : zW wr w3 := HW1.trans (hb3.mono HW1.size);have E := IH.out t s ks1 ax1 cx1 d w3 (HK1.1.mono hb13 fun _ _ h => ItAt.below hb13 h) HK1.2.1 (by omega);rw [HK1.2.2] at E;obtain ⟨F, hF⟩ := zE (formV t s (zS ax1 l1 cx1) l1);rw [hF] at E |-;have H3 : Hid (zW w w3) := HB.1.trans (hb13.mono HB.1.size);rw [<- HXE.out] at E;clear hF hb3 hb13 HW1 c10 c11 c12
   cases hb : rightI (n + 1) ks[k] (6 - d) with
   | true =>
    rw [hb] at E;have HT : Hid (∀ j (hj : j < ks.length), j < k + 1 -> rightI (n + 1) ks[j] (6 - d) = true) := fun j hj hjk => by
     by_cases e : j = k
     ·subst e; exact hb
     ·exact HB.2 j hj (by omega)
    clear hb;go_wp2_with fail;refine E.mono ?_;rintro e w4 ⟨rfl, hb4⟩;have H4 : Hid (zW w w4) := H3.trans (hb4.mono H3.size);clear E hb4;go_wp2_with fail;exact ⟨⟨k + 1, by omega, by go_num, H4.out, HT.out⟩, by simp [intOf]; omega⟩
   | false =>
    rw [hb] at E;have HF : Hid ((ks.all fun y => rightI (n + 1) y (6 - d)) = false) := by
     show _ = false;rw [List.all_eq_false];exact ⟨ks[k], List.getElem_mem hj1, by rw [hb]; simp⟩
    clear hb;go_wp2_with fail;refine E.mono ?_;rintro e w4 ⟨rfl, hb4⟩;have H4 : Hid (zW w w4) := H3.trans (hb4.mono H3.size);clear E hb4;go_wp2_with fail;go_ret;exact ⟨by rw [HF.out]; rfl, H4.out⟩
  ·have hlti : ¬ (k : Int) < (l : Int) := by omega
   have HF : Hid ((ks.all fun y => rightI (n + 1) y (6 - d)) = true) := by
    show _ = true;rw [List.all_eq_true];intro y hy;obtain ⟨j, hj, rfl⟩ := List.getElem_of_mem hy;exact HB.2 j hj (by have := HE.out; omega)
   go_wp2_with fail;go_ret;exact ⟨by rw [HF.out]; rfl, HB.1⟩
theorem rw_row (n : Nat) (HA : Hid (AllC n)) (ks : List (It n)) (ax : Option Addr) (cx d : Nat) (w : World) (hx : KidsAt w (ItAt w n) (zS ax ks.length cx) ks) (hz : szS n ks <= 20000000) (hd : d <= 6) :
  Calls Tryz.prog 106 #[.iface 161 (zS ax ks.length cx), zI (d : Int)] w fun e w' => e = .returned (.bool (rightI (n + 1) (It.mk 48 [] ks) (6 - d))) /\ zW w w' := by
 have t_flag := ta_row_flag;have t_integer := ta_row_integer;have t_octets := ta_row_octets;have t_plain := ta_row_plain;have t_row := ta_row_row;obtain ⟨l, hle⟩ := zE (ks.length);have HN : Hid (rightI (n + 1) (It.mk 48 [] ks) (6 - d) = (decide (([] : List UInt8).length = 0) && decide (l <= 40) && decide (6 - d < 6) && ks.all fun y => rightI n y (6 - d + 1))) := by
  show rightI (n + 1) (It.mk 48 [] ks) (6 - d) = _;rw [<- hle];rfl
 have hlb : l <= 20000000 := by rw [<- hle]; exact (szS_kid hz).1
 have E0 := HA.out ks (zS ax ks.length cx) (d - 1) w hx hz (by omega);rw [hle] at E0 |-;clear hx hz hle;by_cases hd0 : d = 0
 ·subst hd0
  have HF : Hid (rightI (n + 1) (It.mk 48 [] ks) (6 - 0) = false) := by show _ = false; rw [HN.out]; simp
  clear E0;go_enter Tryz.func106, Tryz.ntmps106;go_wp2_with fail;go_ret;exact ⟨by rw [HF.out]; rfl, Below.refl _ _⟩
 ·have hdi : (0 : Int) < (d : Int) := by omega
  by_cases hl40 : l <= 40
  ·have hli : (l : Int) <= 40 := by omega
   have e1 : 6 - (d - 1) = 6 - d + 1 := by omega
   have e2 : ((d - 1 : Nat) : Int) = (d : Int) - 1 := by omega
   rw [e1, e2] at E0;have HF : Hid (rightI (n + 1) (It.mk 48 [] ks) (6 - d) = ks.all fun y => rightI n y (6 - d + 1)) := by
    show _ = _;rw [HN.out];have h6 : 6 - d < 6 := by omega
    simp [hl40, h6]
   obtain ⟨P, hP⟩ := zE ((ks.all fun y => rightI n y (6 - d + 1)));rw [HF.out];rw [hP] at E0 |-;clear hP HF HN e1 e2;go_enter Tryz.func106, Tryz.ntmps106;go_wp2_with fail;refine E0.mono ?_;rintro e w3 ⟨rfl, hb3⟩;go_wp2_with fail;go_ret;exact ⟨rfl, hb3⟩
  ·have hli : ¬ (l : Int) <= 40 := by omega
   have HF : Hid (rightI (n + 1) (It.mk 48 [] ks) (6 - d) = false) := by show _ = false; rw [HN.out]; simp [hl40]
   clear E0;go_enter Tryz.func106, Tryz.ntmps106;go_wp2_with fail;go_ret;exact ⟨by rw [HF.out]; rfl, Below.refl _ _⟩
theorem szS_of {n : Nat} {t : Int} {s : List UInt8} {ks : List (It n)} {b : Nat} (h : szI (n + 1) (It.mk t s ks) <= b) : szS n ks <= b := by
 change s.length + ks.length + (ks.map (szI n)).sum <= b at h;unfold szS;omega
theorem right_mk {n : Nat} (t : Int) (s : List UInt8) (ks : List (It n)) (d : Nat) : rightI (n + 1) (It.mk t s ks) d = (if t ≠ 48 then decide (ks.length = 0) && plainOk t s else decide (s.length = 0) && decide (ks.length <= 40) && decide (d < 6) && ks.all fun y => rightI n y (d + 1)) := rfl
theorem rwC_of (n : Nat) (HA : Hid (AllC n)) : RwC n := fun t s ks ax cx d w hx hz hd => by
 have hsz := szI_kid hz;by_cases h48 : t = 48 /\ s = []
 ·obtain ⟨rfl, rfl⟩ := h48
  rw [formV_row];exact rw_row n HA ks ax cx d w hx (szS_of hz) hd
 ·by_cases hl : 0 < ks.length
  ·have HF : rightI (n + 1) (It.mk t s ks) (6 - d) = false := by
    rw [right_mk]
    split
    ·have : ¬ ks.length = 0 := by omega
     simp [this]
    ·next h =>
     have ht : t = 48 := Decidable.not_not.1 h;have hs : ¬ s.length = 0 := fun e => h48 ⟨ht, List.eq_nil_of_length_eq_zero e⟩
     simp [hs]
   rw [formV_nil _ h48 hl, HF];exact rw_nil _ w
  ·have hk0 : ks.length = 0 := by omega
   by_cases ht : t = 48
   ·subst ht
    have hs : ¬ s.length = 0 := fun e => h48 ⟨rfl, List.eq_nil_of_length_eq_zero e⟩
    have HF : rightI (n + 1) (It.mk 48 s ks) (6 - d) = false := by
     rw [right_mk, if_neg (by simp)];simp [hs]
    rw [hk0, formV_none _ h48 (by decide) (by decide) (by decide) (by decide), HF];exact rw_nil _ w
   ·have HF : rightI (n + 1) (It.mk t s ks) (6 - d) = plainOk t s := by
     rw [right_mk, if_pos ht, hk0];simp
    rw [HF, hk0];by_cases h1 : t = 1
    ·subst h1
     rw [formV_one];exact rw_flag s _ w
    by_cases h2 : t = 2
    ·subst h2
     rw [formV_two];exact rw_int s _ w hsz.1
    by_cases h4 : t = 4
    ·subst h4
     rw [formV_four];exact rw_octets s _ w
    by_cases h12 : t = 12
    ·subst h12
     rw [formV_twelve];exact rw_plain s _ w hsz.1
    ·have HP : plainOk t s = false := by
      unfold plainOk;rw [if_neg h1, if_neg h2, if_neg h12];simp [h4]
     rw [formV_none _ h48 h1 h2 h4 h12, HP];exact rw_nil _ w
theorem allC_any : ∀ (n : Nat), AllC n
 | 0 => all_zero
 | n + 1 => fun ks v d w hx hz hd => all_step n (rwC_of n (allC_any n)) ks v d w hx hz hd
theorem rightWithin_any (n : Nat) : RwC n := rwC_of n (allC_any n)
theorem implItemOk_step (n : Nat) (t : Int) (s : List UInt8) (ks : List (It n)) (a : Value) (w : World) (hx : KidsAt w (ItAt w n) a ks) (hz : szI (n + 1) (It.mk t s ks) <= 20000000) :
  Calls Tryz.prog 60 #[.agg #[zI t, zG ⟨s.toArray⟩, a]] w fun e w' => e = .returned (.bool (rightI (n + 1) (It.mk t s ks) 0)) /\ zW w w' := by
 obtain ⟨ax, cx, rfl, -⟩ := id hx;have hsz := szI_kid hz;obtain ⟨W2, hW2⟩ : ∃ W, W = w.alloc (Obj.cells #[Value.int IntKind.i64 t, Value.string { data := s.toArray }, Value.slice ax ks.length cx] 50) := ⟨_, rfl⟩;have HW := (one_laid w (zI t) (zG ⟨s.toArray⟩) (zS ax ks.length cx) 50 W2 hW2).1;have E := fun (w3 : World) (hb : zW W2 w3) => rightWithin_any n t s ks ax cx 6 w3 (hx.mono (HW.trans (hb.mono HW.size)) fun _ _ h => ItAt.below (HW.trans (hb.mono HW.size)) h) hz (by omega)
 have F := formOf_any t s ax ks.length cx W2 hsz.2.1 hsz.1;obtain ⟨V, hV⟩ := zE (formV t s (zS ax ks.length cx) ks.length);obtain ⟨P, hP⟩ := zE (rightI (n + 1) (It.mk t s ks) 0);rw [show (6 - 6 : Nat) = 0 from rfl, hP, hV] at E;rw [hV] at F;rw [hP];clear hV hP hx hz hsz;generalize ks.length = l at hW2 F |-;go_enter Tryz.func60, Tryz.ntmps60;go_wp2_with fail;rw [<- hW2];clear hW2;refine F.mono ?_;rintro e w3 ⟨rfl, hb3⟩;have E3 := E w3 hb3;have H3 : Hid (zW w w3) := HW.trans (hb3.mono HW.size);clear E F hb3 HW;go_wp2_with fail;refine E3.mono ?_;rintro e w4 ⟨rfl, hb4⟩;have H4 : Hid (zW w w4) := H3.trans (hb4.mono H3.size);clear E3 hb4;go_wp2_with fail;go_ret;exact ⟨rfl, H4.out⟩
theorem implItemOk_any : ∀ (n : Nat) (x : It n) (v : Value) (w : World), ItAt w n v x -> szI n x <= 20000000 -> Calls Tryz.prog 60 #[v] w fun e w' => e = .returned (.bool (rightI n x 0)) /\ zW w w'
 | 0, _, _, _, h, _ => h.elim
 | n + 1, x, v, w, hx, hz => by
  obtain ⟨kx, rfl, hkx⟩ := hx;exact implItemOk_step n (It.tag x) (It.text x) (It.kids x) kx w hkx hz
end Go.Proofs.YtcbjlbpkoneibaaGreatDoor
namespace Go.Proofs.YtcbjlbpkoneibaaGreatDoor
open Go.RowKit
theorem mapB_set (l : List UInt8) (k : Nat) (x : UInt8) : (l.map cellB).set k (cellB x) = (l.set k x).map cellB := by simp
structure Rv (l : List UInt8) (i : Nat) (L : List UInt8) : Prop where
 len : L.length = l.length
 at' : ∀ q, q < l.length -> L[q]? = if q < i ∨ l.length < q + 1 + i then l[l.length - 1 - q]? else l[q]?
theorem Rv.start (l : List UInt8) : Rv l 0 l := ⟨rfl, fun q hq => by rw [if_neg (by omega)]⟩
theorem Rv.step {l : List UInt8} {i : Nat} {L : List UInt8} (h : Rv l i L) (hi : i + i + 1 < l.length) {x y : UInt8} (hx : L[i]? = some x) (hy : L[l.length - 1 - i]? = some y) :
  Rv l (i + 1) ((L.set i y).set (l.length - 1 - i) x) := by
 have hl := h.len;have hx2 := h.at' i (by omega);have hy2 := h.at' (l.length - 1 - i) (by omega);rw [if_neg (by omega), hx] at hx2;rw [if_neg (by omega), hy] at hy2;refine ⟨by simp [hl], fun q hq => ?_⟩;rw [List.getElem?_set, List.getElem?_set, List.length_set];by_cases h1 : l.length - 1 - i = q
 ·rw [if_pos h1, if_pos (by omega), if_pos (.inr (by omega)), hx2]
  congr 1
  omega
 ·rw [if_neg h1]
  by_cases h2 : i = q
  ·rw [if_pos h2, if_pos (by omega), if_pos (.inl (by omega)), hy2]
   congr 1
   omega
  ·rw [if_neg h2, h.at' q hq]
   by_cases h3 : q < i ∨ l.length < q + 1 + i
   ·rw [if_pos h3, if_pos (by omega)]
   ·rw [if_neg h3, if_neg (by omega)]
theorem Rv.done {l : List UInt8} {i : Nat} {L : List UInt8} (h : Rv l i L) (hi : l.length <= i + i + 1) : L = l.reverse := by
 have hl := h.len;apply List.ext_getElem? fun q => ?_
 by_cases hq : q < l.length
 ·rw [h.at' q hq, List.getElem?_reverse hq]
  split
  ·rfl
  ·congr 1
   omega
 ·rw [List.getElem?_eq_none (by omega), List.getElem?_eq_none (by simp; omega)]
theorem reverse_any (v : Value) (l : List UInt8) (n base : Nat) (w : World) (hn : n <= 1000) (hv : w.ownsRow base 5 1 v n (l.map cellB)) :
  Calls Tryz.prog 156 #[v] w fun e w' => e = .returned (.tuple #[]) /\ w'.ownsRow base 5 1 v n (l.reverse.map cellB) /\ Below base w w' := by
 have hln : l.length = n := by have := hv.1; simpa using this
 obtain ⟨ao, cap, rfl, hao⟩ : ∃ ao cap, v = zS ao n cap /\ (0 < n -> ∃ g, ao = some ⟨g, 0, none⟩) := by
  rcases hv.2 with ⟨h1, h0⟩ | ⟨g, cap, cur, hv, _⟩
  ·exact ⟨none, 0, by rw [h1, h0], fun h => by omega⟩
  ·exact ⟨some ⟨g, 0, none⟩, cap, hv, fun _ => ⟨g, rfl⟩⟩
 have HO : Hid (0 < n -> ∃ g, ao = some ⟨g, 0, none⟩) := hao;have HV : Hid (w.ownsRow base 5 1 (zS ao n cap) n (l.map cellB) /\ l.length = n) := ⟨hv, hln⟩;clear hao hv hln;go_enter Tryz.func156, Tryz.ntmps156
 go_wp2
 go_loopw [2, 3] (fun iv jv wr => ∃ (i : Nat) (z : Int) (L : List UInt8), iv = zI i /\ jv = zI z /\ i <= n /\ Hid (z = (n : Int) - 1 - (i : Int) /\ Rv l i L /\ wr.ownsRow base 5 1 (zS ao n cap) n (L.map cellB) /\ Below base w wr)) (fun iv _ _ => n - (intOf iv).toNat)
 case atStart => exact ⟨0, (n : Int) - 1, l, rfl, rfl, Nat.zero_le _, by simp, Rv.start l, HV.1, Below.refl _ _⟩
 case round =>
  obtain ⟨i, z, L, rfl, rfl, hi, H⟩ := hrel;have hz := H.1;by_cases hlt : (i : Int) < z
  ·obtain ⟨m, rfl⟩ : ∃ m : Nat, z = (m : Int) := ⟨z.toNat, by omega⟩
   have hmn : m < n := by omega
   have hin : i < n := by omega
   have him : i < m := by omega
   obtain ⟨g, hao⟩ := HO.out (by omega);subst hao;have hLl : L.length = n := by rw [H.2.1.len]; exact HV.2
   obtain ⟨x, hx⟩ : ∃ x, L[i]? = some x := ⟨_, List.getElem?_eq_getElem (by omega)⟩;obtain ⟨y, hy⟩ : ∃ y, L[m]? = some y := ⟨_, List.getElem?_eq_getElem (by omega)⟩;have hown := H.2.2.1;have hci : wr.cell? ⟨g, i, none⟩ = some (.int .u8 (x.toNat : Int)) := by rw [hown.cellAt i (by omega), List.getElem?_map, hx]; rfl
   have hcm : wr.cell? ⟨g, m, none⟩ = some (.int .u8 (y.toNat : Int)) := by rw [hown.cellAt m (by omega), List.getElem?_map, hy]; rfl
   have hfi := hown.frozenAt i;have hfm := hown.frozenAt m;have hgl := (hown.lt g rfl).1;have hnm : l.length - 1 - i = m := by have := HV.2; omega
   have HN : Hid (Rv l (i + 1) ((L.set i y).set m x) /\ ((wr.setCell ⟨g, i, none⟩ (.int .u8 (y.toNat : Int))).setCell ⟨g, m, none⟩ (.int .u8 (x.toNat : Int))).ownsRow base 5 1 (zS (some ⟨g, 0, none⟩) n cap) n (((L.set i y).set m x).map cellB) /\ Below base w ((wr.setCell ⟨g, i, none⟩ (.int .u8 (y.toNat : Int))).setCell ⟨g, m, none⟩ (.int .u8 (x.toNat : Int)))) := by
    refine ⟨?_, ?_, ?_⟩
    ·have h := H.2.1.step (by have := HV.2; omega) hx (by rw [hnm]; exact hy)
     rw [hnm] at h;exact h
    ·have h1 := (hown.stored i (cellB y)).1
     rw [mapB_set] at h1;have h2 := (h1.stored m (cellB x)).1;rw [mapB_set] at h2;exact h2
    ·exact Below.setCell (p := ⟨g, m, none⟩) (Below.setCell (p := ⟨g, i, none⟩) H.2.2.2 hgl _) hgl _
   have HZ : Hid ((m : Int) = (n : Int) - 1 - (i : Int)) := hz;clear hown H hLl hx hy hz hnm;have hmi : (m : Int) < (n : Int) := by omega
   have hii : (i : Int) < (n : Int) := by omega
   have hi0 : (0 : Int) <= (i : Int) := by omega
   have hm0 : (0 : Int) <= (m : Int) := by omega
   have hne : i ≠ m := by omega
   have hne2 : m ≠ i := by omega
   go_wp2_with fail
   go_region
   go_wp2
   go_roundw
   case rel => exact ⟨i + 1, (m : Int) - 1, _, by go_num, rfl, by omega, by have := HZ.out; omega, HN.1, World.ownsRow.drew HN.2.1, HN.2.2.drew⟩
   case measure => simp [intOf]; omega
  ·have HE : Hid (L = l.reverse) := H.2.1.done (by have := HV.2; omega)
   go_wp2
   go_end0
   exact ⟨rfl, by have h := H.2.2.1; rw [HE.out] at h; simpa using h, H.2.2.2⟩
end Go.Proofs.YtcbjlbpkoneibaaGreatDoor
