/-
  Texts of the proof.
-/
import Derived.WalkKit
import Derived.Laws.RangeString
import Derived.Laws.RangeAny
import Derived.Test.YtagmnlmfoanelaaGreatSK24
set_option maxRecDepth 100000
set_option maxHeartbeats 25600000
namespace Go.Proofs.YtagmnlmfoanelaaGreat
open Go.RowKit Der
set_option linter.unusedVariables false
set_option linter.unusedSimpArgs false
def intI {n : Nat} (x : Int) : It (n + 1) := It.mk 2 (intT (numN x)) []
def bytJ {n : Nat} (s : ByteArray) : It (n + 1) := It.mk 4 s.data.toList []
def flagJ {n : Nat} (b : Bool) : It (n + 1) := It.mk 1 [if b then 255 else 0] []
def lstJ {n : Nat} (ks : List (It n)) : It (n + 1) := It.mk 48 [] ks
theorem bytes_any (s : ByteArray) (w : World) : Calls Tryz.prog 67 #[.string s] w fun e w' => e = .returned (.agg #[.int .i64 4, .string s, .slice none 0 0]) /\ Below w.heap.size w w' := by
 go_enter Tryz.func67, Tryz.ntmps67
 go_wp2_with fail
 refine bodyPost_ret (v := .agg #[.int .i64 4, .string s, .slice none 0 0]) (by simp [results, Tryz.results67, go_sem]; try rfl) rfl ⟨rfl, ?_⟩
 exact (Below.refl _ _).alloc (Nat.le_refl _) _
theorem flag_any (b : Bool) (w : World) : Calls Tryz.prog 48 #[.bool b] w fun e w' => e = .returned (.agg #[.int .i64 1, .string ⟨[if b then 255 else 0].toArray⟩, .slice none 0 0]) /\ Below w.heap.size w w' := by
 cases b with
 | true =>
  go_enter Tryz.func48, Tryz.ntmps48
  go_wp2_with fail
  refine bodyPost_ret (v := .agg #[.int .i64 1, .string ⟨#[255]⟩, .slice none 0 0]) (by simp [results, Tryz.results48, go_sem]; try rfl) rfl ⟨rfl, ?_⟩
  exact (Below.refl _ _).alloc (Nat.le_refl _) _
 | false =>
  go_enter Tryz.func48, Tryz.ntmps48
  go_wp2_with fail
  refine bodyPost_ret (v := .agg #[.int .i64 1, .string ⟨#[0]⟩, .slice none 0 0]) (by simp [results, Tryz.results48, go_sem]; try rfl) rfl ⟨rfl, ?_⟩
  exact (Below.refl _ _).alloc (Nat.le_refl _) _
theorem own_none (w : World) (base : Nat) : ∀ n, OwnK w base n (.slice none 0 0) [] []
 | 0 => ⟨⟨none, 0, rfl⟩, rfl⟩
 | _ + 1 => ⟨none, 0, rfl, fun _ => rfl, fun h => absurd h (Nat.lt_irrefl _)⟩
theorem both_below {wr w3 : World} {g h o : Nat} {kv t : Value} (hc : wr.cell? ⟨g, 2, none⟩ = some kv /\ wr.cell? ⟨h, o, none⟩ = some t) (hg : g < wr.heap.size) (hh : h < wr.heap.size) (hb : Below wr.heap.size wr w3) : w3.cell? ⟨g, 2, none⟩ = some kv /\ w3.cell? ⟨h, o, none⟩ = some t :=
 ⟨(hb.cell (p := ⟨g, 2, none⟩) hg).trans hc.1, (hb.cell (p := ⟨h, o, none⟩) hh).trans hc.2⟩
theorem both_grown {w5 w6 : World} {g h o : Nat} {kv t : Value} {row : Option Nat} (hc : w5.cell? ⟨g, 2, none⟩ = some kv /\ w5.cell? ⟨h, o, none⟩ = some t) (hg : w5.grownBy w6 row) (n1 : some g ≠ row) (n2 : some h ≠ row) : w6.cell? ⟨g, 2, none⟩ = some kv /\ w6.cell? ⟨h, o, none⟩ = some t :=
 ⟨hg.cell hc.1 n1, hg.cell hc.2 n2⟩
end Go.Proofs.YtagmnlmfoanelaaGreat
namespace Go.Proofs.YtagmnlmfoanelaaGreat
open Go.RowKit Der
set_option linter.unusedVariables false
def RowsK (W : World) (b n : Nat) : List (It (n + 1)) -> List Value -> List (List Nat) -> Prop
 | [], [], [] => True
 | x :: ks, v :: kvs, fp :: fps => OwnK W b n v (It.kids x) fp /\ RowsK W b n ks kvs fps
 | _, _, _ => False
theorem RowsK.each {W : World} {b n : Nat} : ∀ {ks : List (It (n + 1))} {kvs : List Value} {fps : List (List Nat)}, RowsK W b n ks kvs fps -> ks.length = kvs.length /\ ks.length = fps.length /\ ∀ j (h1 : j < ks.length) (h2 : j < kvs.length) (h3 : j < fps.length), OwnK W b n kvs[j] (It.kids ks[j]) fps[j]
 | [], [], [], _ => ⟨rfl, rfl, fun j h => absurd h (Nat.not_lt_zero _)⟩
 | [], _ :: _, _, h => h.elim
 | [], [], _ :: _, h => h.elim
 | _ :: _, [], _, h => h.elim
 | _ :: _, _ :: _, [], h => h.elim
 | x :: ks, v :: kvs, fp :: fps, ⟨h, r⟩ => by
  obtain ⟨h1, h2, h3⟩ := RowsK.each r
  refine ⟨by simp [h1], by simp [h2], fun j a b c => ?_⟩
  cases j with
  | zero => exact h
  | succ j => exact h3 j (by simpa using a) (by simpa using b) (by simpa using c)
theorem RowsK.grow {W W' : World} {b n cap : Nat} {ks : List (It (n + 1))} {kvs : List Value} {fps : List (List Nat)} (h : RowsK W b n ks kvs fps) (hb : b <= W.heap.size) (hnd : fps.flatten.Nodup) (hl : ks.length <= 1000) (hc : cap = ks.length)
  (hW : W' = W.alloc (.cells (cellsK ks kvs).toArray 87)) : GrowK W' b n (.slice (some ⟨W.heap.size, 0, none⟩) cap cap) ks := by
 subst hc
 obtain ⟨h1, h2, h3⟩ := h.each
 have hbel : Below W.heap.size W W' := by rw [hW]; exact (Below.refl _ _).alloc (Nat.le_refl _) _
 refine ⟨kvs, fps, h1, h2, ?_, hnd, ?_, fun j a c d => ?_⟩
 ·rw [hW]
  exact ⟨by rw [cellsK_len h1], .inr ⟨W.heap.size, ks.length, (cellsK ks kvs).toArray, rfl, hb, heap_alloc_new W _, Nat.le_refl _, by unfold maxLen; omega, by rw [List.size_toArray, cellsK_len h1], List.take_of_length_le (by rw [cellsK_len h1]; exact Nat.le_refl _)⟩⟩
 ·intro g hg hm
  simp only [Value.ownBlock, Option.some.injEq] at hg
  obtain ⟨l, m1, m2⟩ := List.mem_flatten.1 hm
  obtain ⟨j, hj, rfl⟩ := List.getElem_of_mem m1
  have := (OwnK.lt (h3 j (by omega) (by omega) hj) g m2).2
  omega
 ·exact (h3 j a c d).below hbel (fun x hx => (OwnK.lt (h3 j a c d) x hx).2)
theorem to_lst {w w' : World} {ks : List (It 1)} {e : Ending} (h : ToIt w 1 (lstJ ks) e w') : ∃ (a : Option Addr) (l cx : Nat) (fp : List Nat), e = .returned (.agg #[.int .i64 48, .string ⟨#[]⟩, .slice a l cx]) /\ OwnK w' w.heap.size 1 (.slice a l cx) (It.kids (lstJ ks)) fp /\ Below w.heap.size w w' := by
 obtain ⟨k, fp, rfl, ho, hb⟩ := h
 obtain ⟨a, cx, rfl⟩ := ho.shape
 exact ⟨a, _, cx, fp, rfl, ho, hb⟩
def formV (t : Int) (s : List UInt8) (k : Value) (l : Nat) : Value :=
 if t = 48 /\ s = [] then .iface 143 k else if 0 < l then .nilIface else if t = 1 then .iface 138 (.string ⟨s.toArray⟩) else if t = 2 then .iface 139 (.string ⟨s.toArray⟩)
 else if t = 4 then .iface 141 (.string ⟨s.toArray⟩) else if t = 12 then .iface 142 (.string ⟨s.toArray⟩) else .nilIface
theorem formV_row (k : Value) (l : Nat) : formV 48 [] k l = .iface 143 k := by unfold formV; rw [if_pos ⟨rfl, rfl⟩]
theorem formV_nil {t : Int} {s : List UInt8} (k : Value) {l : Nat} (h : ¬ (t = 48 /\ s = [])) (hl : 0 < l) : formV t s k l = .nilIface := by unfold formV; rw [if_neg h, if_pos hl]
theorem formV_one (s : List UInt8) (k : Value) : formV 1 s k 0 = .iface 138 (.string ⟨s.toArray⟩) := rfl
theorem formV_two (s : List UInt8) (k : Value) : formV 2 s k 0 = .iface 139 (.string ⟨s.toArray⟩) := rfl
theorem formV_four (s : List UInt8) (k : Value) : formV 4 s k 0 = .iface 141 (.string ⟨s.toArray⟩) := rfl
theorem formV_twelve (s : List UInt8) (k : Value) : formV 12 s k 0 = .iface 142 (.string ⟨s.toArray⟩) := rfl
theorem formV_none {t : Int} {s : List UInt8} (k : Value) (h : ¬ (t = 48 /\ s = [])) (h1 : t ≠ 1) (h2 : t ≠ 2) (h4 : t ≠ 4) (h12 : t ≠ 12) : formV t s k 0 = .nilIface := by
 unfold formV
 rw [if_neg h, if_neg (Nat.lt_irrefl 0), if_neg h1, if_neg h2, if_neg h4, if_neg h12]
theorem formOf_any (t : Int) (s : List UInt8) (ax : Option Addr) (l cx : Nat) (w : World) (hl : l <= 20000000) (hs : s.length <= 20000000) :
  Calls Tryz.prog 102 #[.agg #[.int .i64 t, .string ⟨s.toArray⟩, .slice ax l cx]] w fun e w' => e = .returned (formV t s (.slice ax l cx) l) /\ Below w.heap.size w w' := by
 have HL := one_laid w (.int .i64 t) (.string ⟨s.toArray⟩) (.slice ax l cx) 87
 by_cases h48 : t = 48 /\ s = []
 ·obtain ⟨rfl, rfl⟩ := h48
  rw [formV_row]
  go_enter Tryz.func102, Tryz.ntmps102
  go_wp2_with fail
  go_ret
  exact ⟨rfl, (HL _ rfl).1⟩
 have hlb : (l : Int) <= 20000000 := by omega
 by_cases hl0 : 0 < l
 ·rw [formV_nil _ h48 hl0]
  have hl0i : (0 : Int) < (l : Int) := by omega
  by_cases ht : t = 48
  ·subst ht
   have hs0 : ¬ s = [] := fun e => h48 ⟨rfl, e⟩
   have hsn : (s == []) = false := by simpa using hs0
   go_enter Tryz.func102, Tryz.ntmps102
   go_wp2_with fail
   go_ret
   exact ⟨rfl, (HL _ rfl).1⟩
  ·have htb : (t == 48) = false := by simpa using ht
   go_enter Tryz.func102, Tryz.ntmps102
   go_wp2_with fail
   go_ret
   exact ⟨rfl, (HL _ rfl).1⟩
 obtain rfl : l = 0 := by omega
 by_cases h1 : t = 1
 ·subst h1
  rw [formV_one]
  go_enter Tryz.func102, Tryz.ntmps102
  go_wp2_with fail
  go_ret
  exact ⟨rfl, (HL _ rfl).1⟩
 by_cases h2 : t = 2
 ·subst h2
  rw [formV_two]
  go_enter Tryz.func102, Tryz.ntmps102
  go_wp2_with fail
  go_ret
  exact ⟨rfl, (HL _ rfl).1⟩
 by_cases h4 : t = 4
 ·subst h4
  rw [formV_four]
  go_enter Tryz.func102, Tryz.ntmps102
  go_wp2_with fail
  go_ret
  exact ⟨rfl, (HL _ rfl).1⟩
 by_cases h12 : t = 12
 ·subst h12
  rw [formV_twelve]
  go_enter Tryz.func102, Tryz.ntmps102
  go_wp2_with fail
  go_ret
  exact ⟨rfl, (HL _ rfl).1⟩
 rw [formV_none _ h48 h1 h2 h4 h12]
 have b1 : (t == 1) = false := by simpa using h1
 have b2 : (t == 2) = false := by simpa using h2
 have b4 : (t == 4) = false := by simpa using h4
 have b12 : (t == 12) = false := by simpa using h12
 by_cases ht : t = 48
 ·subst ht
  have hs0 : ¬ s = [] := fun e => h48 ⟨rfl, e⟩
  have hsn : (s == []) = false := by simpa using hs0
  go_enter Tryz.func102, Tryz.ntmps102
  go_wp2_with fail
  go_ret
  exact ⟨rfl, (HL _ rfl).1⟩
 ·have htb : (t == 48) = false := by simpa using ht
  go_enter Tryz.func102, Tryz.ntmps102
  go_wp2_with fail
  go_ret
  exact ⟨rfl, (HL _ rfl).1⟩
theorem intRight_any (s : List UInt8) (w : World) (hs : s.length <= 20000000) :
  Calls Tryz.prog 108 #[.string ⟨s.toArray⟩] w fun e w' => e = .returned (.bool (plainOk 2 s)) /\ w' = w := by
 have hsz : (⟨s.toArray⟩ : ByteArray).size = s.length := by show s.toArray.size = _; simp
 by_cases hl : 1 <= s.length /\ s.length <= 5
 ·obtain ⟨b, r, rfl⟩ : ∃ b r, s = b :: r := by
   cases s with
   | nil => simp at hl
   | cons b r => exact ⟨b, r, rfl⟩
  have hg0 : ∀ h, (⟨(b :: r).toArray⟩ : ByteArray)[0]'h = b := fun h => rfl
  have hrl : (r.length : Int) + 1 <= 5 := by have := hl.2; simp at this; omega
  have hrl5 : ¬ (5 : Int) < (r.length : Int) + 1 := by omega
  have hrl0 : ¬ (r.length : Int) + 1 = 0 := by omega
  by_cases hb : 128 <= b.toNat
  ·have HR : Hid (plainOk 2 (b :: r) = false) := by
    show plainOk 2 (b :: r) = false
    unfold plainOk
    rw [if_neg (by decide), if_pos rfl]
    have : ¬ b < 128 := by rw [UInt8.lt_iff_toNat_lt]; simpa using hb
    simp [this]
   have hbi : (127 : Int) < (b.toNat : Int) := by omega
   go_enter Tryz.func108, Tryz.ntmps108
   go_wp2_with fail
   go_ret
   exact ⟨by rw [HR.out]; rfl, rfl⟩
  ·have hbi : ¬ (127 : Int) < (b.toNat : Int) := by omega
   have hblt : b < 128 := by rw [UInt8.lt_iff_toNat_lt]; simpa using hb
   by_cases hb0 : b.toNat = 0
   ·have hb00 : b = 0 := UInt8.toNat_inj.1 (by simpa using hb0)
    subst hb00
    cases r with
    | nil =>
     have HR : Hid (plainOk 2 [0] = true) := by show plainOk 2 [0] = true; decide
     go_enter Tryz.func108, Tryz.ntmps108
     go_wp2_with fail
     go_ret
     exact ⟨by rw [HR.out]; rfl, rfl⟩
    | cons c r =>
     have hg1 : ∀ h, (⟨(0 :: c :: r).toArray⟩ : ByteArray)[1]'h = c := fun h => rfl
     have hr2 : (r.length : Int) + 1 + 1 <= 5 := by have := hl.2; simp at this; omega
     have hr25 : ¬ (5 : Int) < (r.length : Int) + 1 + 1 := by omega
     have hr21 : ¬ ((r.length : Int) + 1 + 1 = 1) := by omega
     have hr20 : ¬ ((r.length : Int) + 1 + 1 = 0) := by omega
     have HR : Hid (plainOk 2 (0 :: c :: r) = decide ((127 : Int) < (c.toNat : Int))) := by
      show plainOk 2 (0 :: c :: r) = _
      unfold plainOk
      rw [if_neg (by decide), if_pos rfl]
      have h5 : r.length + 1 + 1 <= 5 := by simpa using hl.2
      have e : ((128 : UInt8) <= c) = ((127 : Int) < (c.toNat : Int)) := by
       rw [UInt8.le_iff_toNat_le]
       show (128 <= c.toNat) = _
       exact propext ⟨fun h => by omega, fun h => by omega⟩
      simp [h5, e]
     go_enter Tryz.func108, Tryz.ntmps108
     go_wp2_with fail
     go_ret
     exact ⟨by rw [HR.out]; rfl, rfl⟩
   ·have hbz : ¬ (b.toNat : Int) = 0 := by omega
    have HR : Hid (plainOk 2 (b :: r) = true) := by
     show plainOk 2 (b :: r) = true
     unfold plainOk
     rw [if_neg (by decide), if_pos rfl]
     have h5 : r.length + 1 <= 5 := by simpa using hl.2
     have hne : b ≠ 0 := fun e => hb0 (by rw [e]; rfl)
     simp [hblt, h5, hne]
    go_enter Tryz.func108, Tryz.ntmps108
    go_wp2_with fail
    go_ret
    exact ⟨by rw [HR.out]; rfl, rfl⟩
 ·have HR : Hid (plainOk 2 s = false) := by
   show plainOk 2 s = false
   unfold plainOk
   rw [if_neg (by decide), if_pos rfl]
   by_cases h1 : 1 <= s.length
   ·have h5 : ¬ s.length <= 5 := fun h => hl ⟨h1, h⟩
    simp [h5]
   ·simp [h1]
  by_cases h0 : s.length = 0
  ·obtain rfl : s = [] := List.eq_nil_of_length_eq_zero h0
   go_enter Tryz.func108, Tryz.ntmps108
   go_wp2_with fail
   go_ret
   exact ⟨by rw [HR.out]; rfl, rfl⟩
  ·have h5 : (5 : Int) < (s.length : Int) := by omega
   have h00 : ¬ (s.length : Int) = 0 := by omega
   go_enter Tryz.func108, Tryz.ntmps108
   go_wp2_with fail
   go_ret
   exact ⟨by rw [HR.out]; rfl, rfl⟩
theorem ta_flag_flag (s : ByteArray) (w : World) : (Instr.typeAssert (.iface 138 (.string s)) 132 138 true).run Tryz.prog w = .ok (.tuple #[.string s, .bool true]) w := by kernel_rfl
theorem ta_integer_flag (s : ByteArray) (w : World) : (Instr.typeAssert (.iface 139 (.string s)) 132 138 true).run Tryz.prog w = .ok (.tuple #[.string ⟨#[]⟩, .bool false]) w := by kernel_rfl
theorem ta_integer_integer (s : ByteArray) (w : World) : (Instr.typeAssert (.iface 139 (.string s)) 132 139 true).run Tryz.prog w = .ok (.tuple #[.string s, .bool true]) w := by kernel_rfl
theorem ta_octets_flag (s : ByteArray) (w : World) : (Instr.typeAssert (.iface 141 (.string s)) 132 138 true).run Tryz.prog w = .ok (.tuple #[.string ⟨#[]⟩, .bool false]) w := by kernel_rfl
theorem ta_octets_integer (s : ByteArray) (w : World) : (Instr.typeAssert (.iface 141 (.string s)) 132 139 true).run Tryz.prog w = .ok (.tuple #[.string ⟨#[]⟩, .bool false]) w := by kernel_rfl
theorem ta_octets_octets (s : ByteArray) (w : World) : (Instr.typeAssert (.iface 141 (.string s)) 132 141 true).run Tryz.prog w = .ok (.tuple #[.string s, .bool true]) w := by kernel_rfl
theorem ta_plain_flag (s : ByteArray) (w : World) : (Instr.typeAssert (.iface 142 (.string s)) 132 138 true).run Tryz.prog w = .ok (.tuple #[.string ⟨#[]⟩, .bool false]) w := by kernel_rfl
theorem ta_plain_integer (s : ByteArray) (w : World) : (Instr.typeAssert (.iface 142 (.string s)) 132 139 true).run Tryz.prog w = .ok (.tuple #[.string ⟨#[]⟩, .bool false]) w := by kernel_rfl
theorem ta_plain_octets (s : ByteArray) (w : World) : (Instr.typeAssert (.iface 142 (.string s)) 132 141 true).run Tryz.prog w = .ok (.tuple #[.string ⟨#[]⟩, .bool false]) w := by kernel_rfl
theorem ta_plain_plain (s : ByteArray) (w : World) : (Instr.typeAssert (.iface 142 (.string s)) 132 142 true).run Tryz.prog w = .ok (.tuple #[.string s, .bool true]) w := by kernel_rfl
theorem ta_row_flag (a : Option Addr) (l c : Nat) (w : World) : (Instr.typeAssert (.iface 143 (.slice a l c)) 132 138 true).run Tryz.prog w = .ok (.tuple #[.string ⟨#[]⟩, .bool false]) w := by kernel_rfl
theorem ta_row_integer (a : Option Addr) (l c : Nat) (w : World) : (Instr.typeAssert (.iface 143 (.slice a l c)) 132 139 true).run Tryz.prog w = .ok (.tuple #[.string ⟨#[]⟩, .bool false]) w := by kernel_rfl
theorem ta_row_octets (a : Option Addr) (l c : Nat) (w : World) : (Instr.typeAssert (.iface 143 (.slice a l c)) 132 141 true).run Tryz.prog w = .ok (.tuple #[.string ⟨#[]⟩, .bool false]) w := by kernel_rfl
theorem ta_row_plain (a : Option Addr) (l c : Nat) (w : World) : (Instr.typeAssert (.iface 143 (.slice a l c)) 132 142 true).run Tryz.prog w = .ok (.tuple #[.string ⟨#[]⟩, .bool false]) w := by kernel_rfl
theorem ta_row_row (a : Option Addr) (l c : Nat) (w : World) : (Instr.typeAssert (.iface 143 (.slice a l c)) 132 143 true).run Tryz.prog w = .ok (.tuple #[.slice a l c, .bool true]) w := by kernel_rfl
theorem ta_nil_flag (w : World) : (Instr.typeAssert .nilIface 132 138 true).run Tryz.prog w = .ok (.tuple #[.string ⟨#[]⟩, .bool false]) w := by kernel_rfl
theorem ta_nil_integer (w : World) : (Instr.typeAssert .nilIface 132 139 true).run Tryz.prog w = .ok (.tuple #[.string ⟨#[]⟩, .bool false]) w := by kernel_rfl
theorem ta_nil_octets (w : World) : (Instr.typeAssert .nilIface 132 141 true).run Tryz.prog w = .ok (.tuple #[.string ⟨#[]⟩, .bool false]) w := by kernel_rfl
theorem ta_nil_plain (w : World) : (Instr.typeAssert .nilIface 132 142 true).run Tryz.prog w = .ok (.tuple #[.string ⟨#[]⟩, .bool false]) w := by kernel_rfl
theorem ta_nil_row (w : World) : (Instr.typeAssert .nilIface 132 143 true).run Tryz.prog w = .ok (.tuple #[.slice none 0 0, .bool false]) w := by kernel_rfl
theorem rw_flag (s : List UInt8) (d : Int) (w : World) : Calls Tryz.prog 101 #[.iface 138 (.string ⟨s.toArray⟩), .int .i64 d] w fun e w' => e = .returned (.bool (plainOk 1 s)) /\ Below w.heap.size w w' := by
 have t_flag := ta_flag_flag
 have HN : Hid (plainOk 1 s = (s == [0] || s == [255])) := rfl
 by_cases e0 : s = [0]
 ·subst e0
  go_enter Tryz.func101, Tryz.ntmps101
  go_wp2_with fail
  go_ret
  exact ⟨by rw [HN.out]; rfl, Below.refl _ _⟩
 ·by_cases e1 : s = [255]
  ·subst e1
   go_enter Tryz.func101, Tryz.ntmps101
   go_wp2_with fail
   go_ret
   exact ⟨by rw [HN.out]; rfl, Below.refl _ _⟩
  ·have f0 : (s == [0]) = false := by simpa using e0
   have f1 : (s == [255]) = false := by simpa using e1
   have HR : Hid (plainOk 1 s = false) := by show plainOk 1 s = false; rw [HN.out, f0, f1]; rfl
   go_enter Tryz.func101, Tryz.ntmps101
   go_wp2_with fail
   go_ret
   exact ⟨by rw [HR.out]; rfl, Below.refl _ _⟩
theorem rw_int (s : List UInt8) (d : Int) (w : World) (hs : s.length <= 20000000) : Calls Tryz.prog 101 #[.iface 139 (.string ⟨s.toArray⟩), .int .i64 d] w fun e w' => e = .returned (.bool (plainOk 2 s)) /\ Below w.heap.size w w' := by
 have t_flag := ta_integer_flag
 have t_integer := ta_integer_integer
 go_enter Tryz.func101, Tryz.ntmps101
 go_wp2_with fail
 refine (intRight_any s _ hs).mono ?_
 rintro e w' ⟨rfl, rfl⟩
 go_wp2_with fail
 go_ret
 exact ⟨rfl, Below.refl _ _⟩
theorem rw_octets (s : List UInt8) (d : Int) (w : World) : Calls Tryz.prog 101 #[.iface 141 (.string ⟨s.toArray⟩), .int .i64 d] w fun e w' => e = .returned (.bool true) /\ Below w.heap.size w w' := by
 have t_flag := ta_octets_flag
 have t_integer := ta_octets_integer
 have t_octets := ta_octets_octets
 go_enter Tryz.func101, Tryz.ntmps101
 go_wp2_with fail
 go_ret
 exact ⟨rfl, Below.refl _ _⟩
theorem rw_plain (s : List UInt8) (d : Int) (w : World) (hs : s.length <= 20000000) : Calls Tryz.prog 101 #[.iface 142 (.string ⟨s.toArray⟩), .int .i64 d] w fun e w' => e = .returned (.bool (plainOk 12 s)) /\ Below w.heap.size w w' := by
 have t_flag := ta_plain_flag
 have t_integer := ta_plain_integer
 have t_octets := ta_plain_octets
 have t_plain := ta_plain_plain
 have hsz : (⟨s.toArray⟩ : ByteArray).size = s.length := by show s.toArray.size = _; simp
 have HN : Hid (plainOk 12 s = lineB s) := rfl
 have E := plainLineB_any ⟨s.toArray⟩ w (by omega)
 have E2 : Calls Tryz.prog 109 #[.string ⟨s.toArray⟩] w fun e w' => e = .returned (.bool (lineB s)) /\ Below w.heap.size w w' := E
 obtain ⟨P, hP⟩ := zE (lineB s)
 rw [HN.out]
 rw [hP] at E2 |-
 clear hP E HN
 go_enter Tryz.func101, Tryz.ntmps101
 go_wp2_with fail
 refine E2.mono ?_
 rintro e w' ⟨rfl, hb⟩
 go_wp2_with fail
 go_ret
 exact ⟨rfl, hb⟩
theorem rw_nil (d : Int) (w : World) : Calls Tryz.prog 101 #[.nilIface, .int .i64 d] w fun e w' => e = .returned (.bool false) /\ Below w.heap.size w w' := by
 have t_flag := ta_nil_flag
 have t_integer := ta_nil_integer
 have t_octets := ta_nil_octets
 have t_plain := ta_nil_plain
 have t_row := ta_nil_row
 go_enter Tryz.func101, Tryz.ntmps101
 go_wp2_with fail
 go_ret
 exact ⟨rfl, Below.refl _ _⟩
end Go.Proofs.YtagmnlmfoanelaaGreat
