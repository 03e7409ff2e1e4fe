/-
  The program's textOf, ItemText.
-/
import Derived.Test.YtbiiihjohbnodaaItW
namespace Go.Proofs.Ytbiiihjohbnodaa
open Go.RowKit Der
set_option linter.unusedVariables false

theorem body_flag (s : ByteArray) (w : World) : Calls Try.prog 146 #[.string s] w fun e w' => e = .returned (.string s) ∧ Below w.heap.size w w' := by
  go_enter Try.func146, Try.ntmps146
  go_wp2_with fail
  go_ret
  exact ⟨rfl, Below.refl _ _⟩
theorem body_integer (s : ByteArray) (w : World) : Calls Try.prog 147 #[.string s] w fun e w' => e = .returned (.string s) ∧ Below w.heap.size w w' := by
  go_enter Try.func147, Try.ntmps147
  go_wp2_with fail
  go_ret
  exact ⟨rfl, Below.refl _ _⟩
theorem body_octets (s : ByteArray) (w : World) : Calls Try.prog 148 #[.string s] w fun e w' => e = .returned (.string s) ∧ Below w.heap.size w w' := by
  go_enter Try.func148, Try.ntmps148
  go_wp2_with fail
  go_ret
  exact ⟨rfl, Below.refl _ _⟩
theorem body_plain (s : ByteArray) (w : World) : Calls Try.prog 149 #[.string s] w fun e w' => e = .returned (.string s) ∧ Below w.heap.size w w' := by
  go_enter Try.func149, Try.ntmps149
  go_wp2_with fail
  go_ret
  exact ⟨rfl, Below.refl _ _⟩

/-- What textOf's body comes to, and what is made of it. -/
def TxPost (t : Int) (B : List UInt8 → Prop) (w : World) (e : Ending) (w' : World) : Prop := ∃ r : List UInt8, e = .returned (.string ⟨(UInt8.ofNat (t % 256).toNat :: (lenB r.length ++ r)).toArray⟩) ∧ B r ∧ Below w.heap.size w w'
set_option maxHeartbeats 3200000 in
set_option maxRecDepth 100000 in
theorem textOf_flag (t : Int) (s : List UInt8) (ax : Option Addr) (l cx : Nat) (w : World) (hl : l ≤ 20000000) (hs : s.length ≤ 20000000) (hF : formV t s (.slice ax l cx) l = .iface 139 (.string ⟨s.toArray⟩)) (B : List UInt8 → Prop)
    (EB : ∀ w3, Below w.heap.size w w3 → Calls Try.prog 146 #[.string ⟨s.toArray⟩] w3 fun e w' => ∃ r : List UInt8, e = .returned (.string ⟨r.toArray⟩) ∧ B r ∧ r.length ≤ 400000000 ∧ Below w3.heap.size w3 w') :
    Calls Try.prog 82 #[.agg #[.int .i64 t, .string ⟨s.toArray⟩, .slice ax l cx]] w fun e w' => TxPost t B w e w' := by
  obtain ⟨W2, hW2⟩ : ∃ W, W = w.alloc (Obj.cells #[Value.int IntKind.i64 t, Value.string { data := s.toArray }, Value.slice ax l cx] 67) := ⟨_, rfl⟩
  have E := formOf_any t s ax l cx W2 hl hs
  rw [hF] at E
  have HW := one_laid w (.int .i64 t) (.string ⟨s.toArray⟩) (.slice ax l cx) 67 W2 hW2
  have H2 : Hid (Below w.heap.size w W2 ∧ w.heap.size < W2.heap.size ∧ W2.cell? ⟨w.heap.size, 0, none⟩ = some (.int .i64 t)) := ⟨HW.1, HW.2.1, HW.2.2.1⟩
  have HEB : Hid (∀ w3, Below w.heap.size w w3 → Calls Try.prog 146 #[.string ⟨s.toArray⟩] w3 fun e w' => ∃ r : List UInt8, e = .returned (.string ⟨r.toArray⟩) ∧ B r ∧ r.length ≤ 400000000 ∧ Below w3.heap.size w3 w') := EB
  clear HW hF EB
  go_enter Try.func82, Try.ntmps82
  go_wp2_with fail
  rw [← hW2]
  clear hW2
  refine E.mono ?_
  rintro e w3 ⟨rfl, hb3⟩
  have H3 : Hid (Below w.heap.size w w3 ∧ w.heap.size < w3.heap.size ∧ w3.cell? ⟨w.heap.size, 0, none⟩ = some (.int .i64 t)) := ⟨H2.out.1.trans (hb3.mono H2.out.1.size), Nat.lt_of_lt_of_le H2.out.2.1 hb3.size, (hb3.cell (p := ⟨w.heap.size, 0, none⟩) H2.out.2.1).trans H2.out.2.2⟩
  clear E H2 hb3
  go_wp2_with fail
  refine (HEB.out w3 H3.out.1).mono ?_
  rintro e w4 ⟨r, rfl, hBr, hrl, hb4⟩
  have H4 : Hid (Below w.heap.size w w4 ∧ w.heap.size < w4.heap.size ∧ B r) := ⟨H3.out.1.trans (hb4.mono H3.out.1.size), Nat.lt_of_lt_of_le H3.out.2.1 hb4.size, hBr⟩
  have cT : w4.cell? ⟨w.heap.size, 0, none⟩ = some (.int .i64 t) := (hb4.cell (p := ⟨w.heap.size, 0, none⟩) H3.out.2.1).trans H3.out.2.2
  clear H3 hb4 hBr HEB
  have hwt : IntKind.u8.wrap t = t % 256 := by rw [IntKind.wrap_u8]
  obtain ⟨x, hx⟩ : ∃ x : Int, t % 256 = x := ⟨_, rfl⟩
  obtain ⟨b, hb⟩ : ∃ b, UInt8.ofNat (t % 256).toNat = b := ⟨_, rfl⟩
  have hxb : x = (b.toNat : Int) := by rw [← hb, UInt8.toNat_ofNat', ← hx]; omega
  rw [hx] at hwt
  have hcv := conv_at x b hxb
  have hssz : (⟨r.toArray⟩ : ByteArray).size = r.length := by show r.toArray.size = _; simp
  have EL := fun W => lengthText_any r.length W (by omega)
  obtain ⟨L, hL⟩ : ∃ L : ByteArray, (⟨(lenB r.length).toArray⟩ : ByteArray) = L := ⟨_, rfl⟩
  rw [hL] at EL
  have HR : Hid ((⟨(UInt8.ofNat (t % 256).toNat :: (lenB r.length ++ r)).toArray⟩ : ByteArray) = ⟨#[b]⟩ ++ L ++ ⟨r.toArray⟩ ∧ L.size ≤ 10) := by
    refine ⟨?_, ?_⟩
    · rw [hb, ← hL]
      apply ByteArray.ext
      simp
    · rw [← hL]; show ((lenB r.length).toArray).size ≤ 10; have := beN_short9 r.length; simpa using this
  have ra := fun W => run_string_add_sum (P := Try.prog) W ⟨#[b]⟩ L (by show 1 + L.size ≤ _; have := HR.out.2; omega)
  have rb := fun W => run_string_add_sum (P := Try.prog) W (⟨#[b]⟩ ++ L) ⟨r.toArray⟩ (by rw [ByteArray.size_append, hssz]; show 1 + L.size + r.length ≤ _; have := HR.out.2; omega)
  have hlt2 := H4.out.2.1
  have hne2 := Nat.ne_of_lt hlt2
  have HWR : Hid (Below w.heap.size w w4) := H4.out.1
  clear hL hb hx hxb
  go_wp2_with fail
  go_region_with (go_at_call 112; refine (EL _).mono ?_; rintro e w5 ⟨rfl, hb5⟩; have cT5 : w5.cell? ⟨w.heap.size, 0, none⟩ = some (.int .i64 t) := (hb5.cell (p := ⟨w.heap.size, 0, none⟩) (by first | exact hlt2 | (simp; omega))).trans (by first | exact cT | go_keep); have hcar := fun (p : Addr) (h : p.block < _) => hb5.cell (p := p) h; have hB3 := below_via hb5 (by first | exact HWR.out.drew | exact (HWR.out.drew.alloc HWR.out.drew.size _).drew | exact HWR.out.drew.alloc HWR.out.drew.size _ | exact HWR.out); clear hb5)
  all_goals (
    go_wp2_with fail
    go_ret
    exact ⟨r, by rw [HR.out.1]; rfl, H4.out.2.2, by first | exact hB3 | exact hB3.drew | exact hB3.alloc hB3.size _ | exact hB3.drew.alloc hB3.size _ | exact (hB3.alloc hB3.size _).drew | exact (hB3.drew.alloc hB3.size _).drew⟩)
set_option maxHeartbeats 3200000 in
set_option maxRecDepth 100000 in
theorem textOf_integer (t : Int) (s : List UInt8) (ax : Option Addr) (l cx : Nat) (w : World) (hl : l ≤ 20000000) (hs : s.length ≤ 20000000) (hF : formV t s (.slice ax l cx) l = .iface 140 (.string ⟨s.toArray⟩)) (B : List UInt8 → Prop)
    (EB : ∀ w3, Below w.heap.size w w3 → Calls Try.prog 147 #[.string ⟨s.toArray⟩] w3 fun e w' => ∃ r : List UInt8, e = .returned (.string ⟨r.toArray⟩) ∧ B r ∧ r.length ≤ 400000000 ∧ Below w3.heap.size w3 w') :
    Calls Try.prog 82 #[.agg #[.int .i64 t, .string ⟨s.toArray⟩, .slice ax l cx]] w fun e w' => TxPost t B w e w' := by
  obtain ⟨W2, hW2⟩ : ∃ W, W = w.alloc (Obj.cells #[Value.int IntKind.i64 t, Value.string { data := s.toArray }, Value.slice ax l cx] 67) := ⟨_, rfl⟩
  have E := formOf_any t s ax l cx W2 hl hs
  rw [hF] at E
  have HW := one_laid w (.int .i64 t) (.string ⟨s.toArray⟩) (.slice ax l cx) 67 W2 hW2
  have H2 : Hid (Below w.heap.size w W2 ∧ w.heap.size < W2.heap.size ∧ W2.cell? ⟨w.heap.size, 0, none⟩ = some (.int .i64 t)) := ⟨HW.1, HW.2.1, HW.2.2.1⟩
  have HEB : Hid (∀ w3, Below w.heap.size w w3 → Calls Try.prog 147 #[.string ⟨s.toArray⟩] w3 fun e w' => ∃ r : List UInt8, e = .returned (.string ⟨r.toArray⟩) ∧ B r ∧ r.length ≤ 400000000 ∧ Below w3.heap.size w3 w') := EB
  clear HW hF EB
  go_enter Try.func82, Try.ntmps82
  go_wp2_with fail
  rw [← hW2]
  clear hW2
  refine E.mono ?_
  rintro e w3 ⟨rfl, hb3⟩
  have H3 : Hid (Below w.heap.size w w3 ∧ w.heap.size < w3.heap.size ∧ w3.cell? ⟨w.heap.size, 0, none⟩ = some (.int .i64 t)) := ⟨H2.out.1.trans (hb3.mono H2.out.1.size), Nat.lt_of_lt_of_le H2.out.2.1 hb3.size, (hb3.cell (p := ⟨w.heap.size, 0, none⟩) H2.out.2.1).trans H2.out.2.2⟩
  clear E H2 hb3
  go_wp2_with fail
  refine (HEB.out w3 H3.out.1).mono ?_
  rintro e w4 ⟨r, rfl, hBr, hrl, hb4⟩
  have H4 : Hid (Below w.heap.size w w4 ∧ w.heap.size < w4.heap.size ∧ B r) := ⟨H3.out.1.trans (hb4.mono H3.out.1.size), Nat.lt_of_lt_of_le H3.out.2.1 hb4.size, hBr⟩
  have cT : w4.cell? ⟨w.heap.size, 0, none⟩ = some (.int .i64 t) := (hb4.cell (p := ⟨w.heap.size, 0, none⟩) H3.out.2.1).trans H3.out.2.2
  clear H3 hb4 hBr HEB
  have hwt : IntKind.u8.wrap t = t % 256 := by rw [IntKind.wrap_u8]
  obtain ⟨x, hx⟩ : ∃ x : Int, t % 256 = x := ⟨_, rfl⟩
  obtain ⟨b, hb⟩ : ∃ b, UInt8.ofNat (t % 256).toNat = b := ⟨_, rfl⟩
  have hxb : x = (b.toNat : Int) := by rw [← hb, UInt8.toNat_ofNat', ← hx]; omega
  rw [hx] at hwt
  have hcv := conv_at x b hxb
  have hssz : (⟨r.toArray⟩ : ByteArray).size = r.length := by show r.toArray.size = _; simp
  have EL := fun W => lengthText_any r.length W (by omega)
  obtain ⟨L, hL⟩ : ∃ L : ByteArray, (⟨(lenB r.length).toArray⟩ : ByteArray) = L := ⟨_, rfl⟩
  rw [hL] at EL
  have HR : Hid ((⟨(UInt8.ofNat (t % 256).toNat :: (lenB r.length ++ r)).toArray⟩ : ByteArray) = ⟨#[b]⟩ ++ L ++ ⟨r.toArray⟩ ∧ L.size ≤ 10) := by
    refine ⟨?_, ?_⟩
    · rw [hb, ← hL]
      apply ByteArray.ext
      simp
    · rw [← hL]; show ((lenB r.length).toArray).size ≤ 10; have := beN_short9 r.length; simpa using this
  have ra := fun W => run_string_add_sum (P := Try.prog) W ⟨#[b]⟩ L (by show 1 + L.size ≤ _; have := HR.out.2; omega)
  have rb := fun W => run_string_add_sum (P := Try.prog) W (⟨#[b]⟩ ++ L) ⟨r.toArray⟩ (by rw [ByteArray.size_append, hssz]; show 1 + L.size + r.length ≤ _; have := HR.out.2; omega)
  have hlt2 := H4.out.2.1
  have hne2 := Nat.ne_of_lt hlt2
  have HWR : Hid (Below w.heap.size w w4) := H4.out.1
  clear hL hb hx hxb
  go_wp2_with fail
  go_region_with (go_at_call 112; refine (EL _).mono ?_; rintro e w5 ⟨rfl, hb5⟩; have cT5 : w5.cell? ⟨w.heap.size, 0, none⟩ = some (.int .i64 t) := (hb5.cell (p := ⟨w.heap.size, 0, none⟩) (by first | exact hlt2 | (simp; omega))).trans (by first | exact cT | go_keep); have hcar := fun (p : Addr) (h : p.block < _) => hb5.cell (p := p) h; have hB3 := below_via hb5 (by first | exact HWR.out.drew | exact (HWR.out.drew.alloc HWR.out.drew.size _).drew | exact HWR.out.drew.alloc HWR.out.drew.size _ | exact HWR.out); clear hb5)
  all_goals (
    go_wp2_with fail
    go_ret
    exact ⟨r, by rw [HR.out.1]; rfl, H4.out.2.2, by first | exact hB3 | exact hB3.drew | exact hB3.alloc hB3.size _ | exact hB3.drew.alloc hB3.size _ | exact (hB3.alloc hB3.size _).drew | exact (hB3.drew.alloc hB3.size _).drew⟩)
set_option maxHeartbeats 3200000 in
set_option maxRecDepth 100000 in
theorem textOf_octets (t : Int) (s : List UInt8) (ax : Option Addr) (l cx : Nat) (w : World) (hl : l ≤ 20000000) (hs : s.length ≤ 20000000) (hF : formV t s (.slice ax l cx) l = .iface 141 (.string ⟨s.toArray⟩)) (B : List UInt8 → Prop)
    (EB : ∀ w3, Below w.heap.size w w3 → Calls Try.prog 148 #[.string ⟨s.toArray⟩] w3 fun e w' => ∃ r : List UInt8, e = .returned (.string ⟨r.toArray⟩) ∧ B r ∧ r.length ≤ 400000000 ∧ Below w3.heap.size w3 w') :
    Calls Try.prog 82 #[.agg #[.int .i64 t, .string ⟨s.toArray⟩, .slice ax l cx]] w fun e w' => TxPost t B w e w' := by
  obtain ⟨W2, hW2⟩ : ∃ W, W = w.alloc (Obj.cells #[Value.int IntKind.i64 t, Value.string { data := s.toArray }, Value.slice ax l cx] 67) := ⟨_, rfl⟩
  have E := formOf_any t s ax l cx W2 hl hs
  rw [hF] at E
  have HW := one_laid w (.int .i64 t) (.string ⟨s.toArray⟩) (.slice ax l cx) 67 W2 hW2
  have H2 : Hid (Below w.heap.size w W2 ∧ w.heap.size < W2.heap.size ∧ W2.cell? ⟨w.heap.size, 0, none⟩ = some (.int .i64 t)) := ⟨HW.1, HW.2.1, HW.2.2.1⟩
  have HEB : Hid (∀ w3, Below w.heap.size w w3 → Calls Try.prog 148 #[.string ⟨s.toArray⟩] w3 fun e w' => ∃ r : List UInt8, e = .returned (.string ⟨r.toArray⟩) ∧ B r ∧ r.length ≤ 400000000 ∧ Below w3.heap.size w3 w') := EB
  clear HW hF EB
  go_enter Try.func82, Try.ntmps82
  go_wp2_with fail
  rw [← hW2]
  clear hW2
  refine E.mono ?_
  rintro e w3 ⟨rfl, hb3⟩
  have H3 : Hid (Below w.heap.size w w3 ∧ w.heap.size < w3.heap.size ∧ w3.cell? ⟨w.heap.size, 0, none⟩ = some (.int .i64 t)) := ⟨H2.out.1.trans (hb3.mono H2.out.1.size), Nat.lt_of_lt_of_le H2.out.2.1 hb3.size, (hb3.cell (p := ⟨w.heap.size, 0, none⟩) H2.out.2.1).trans H2.out.2.2⟩
  clear E H2 hb3
  go_wp2_with fail
  refine (HEB.out w3 H3.out.1).mono ?_
  rintro e w4 ⟨r, rfl, hBr, hrl, hb4⟩
  have H4 : Hid (Below w.heap.size w w4 ∧ w.heap.size < w4.heap.size ∧ B r) := ⟨H3.out.1.trans (hb4.mono H3.out.1.size), Nat.lt_of_lt_of_le H3.out.2.1 hb4.size, hBr⟩
  have cT : w4.cell? ⟨w.heap.size, 0, none⟩ = some (.int .i64 t) := (hb4.cell (p := ⟨w.heap.size, 0, none⟩) H3.out.2.1).trans H3.out.2.2
  clear H3 hb4 hBr HEB
  have hwt : IntKind.u8.wrap t = t % 256 := by rw [IntKind.wrap_u8]
  obtain ⟨x, hx⟩ : ∃ x : Int, t % 256 = x := ⟨_, rfl⟩
  obtain ⟨b, hb⟩ : ∃ b, UInt8.ofNat (t % 256).toNat = b := ⟨_, rfl⟩
  have hxb : x = (b.toNat : Int) := by rw [← hb, UInt8.toNat_ofNat', ← hx]; omega
  rw [hx] at hwt
  have hcv := conv_at x b hxb
  have hssz : (⟨r.toArray⟩ : ByteArray).size = r.length := by show r.toArray.size = _; simp
  have EL := fun W => lengthText_any r.length W (by omega)
  obtain ⟨L, hL⟩ : ∃ L : ByteArray, (⟨(lenB r.length).toArray⟩ : ByteArray) = L := ⟨_, rfl⟩
  rw [hL] at EL
  have HR : Hid ((⟨(UInt8.ofNat (t % 256).toNat :: (lenB r.length ++ r)).toArray⟩ : ByteArray) = ⟨#[b]⟩ ++ L ++ ⟨r.toArray⟩ ∧ L.size ≤ 10) := by
    refine ⟨?_, ?_⟩
    · rw [hb, ← hL]
      apply ByteArray.ext
      simp
    · rw [← hL]; show ((lenB r.length).toArray).size ≤ 10; have := beN_short9 r.length; simpa using this
  have ra := fun W => run_string_add_sum (P := Try.prog) W ⟨#[b]⟩ L (by show 1 + L.size ≤ _; have := HR.out.2; omega)
  have rb := fun W => run_string_add_sum (P := Try.prog) W (⟨#[b]⟩ ++ L) ⟨r.toArray⟩ (by rw [ByteArray.size_append, hssz]; show 1 + L.size + r.length ≤ _; have := HR.out.2; omega)
  have hlt2 := H4.out.2.1
  have hne2 := Nat.ne_of_lt hlt2
  have HWR : Hid (Below w.heap.size w w4) := H4.out.1
  clear hL hb hx hxb
  go_wp2_with fail
  go_region_with (go_at_call 112; refine (EL _).mono ?_; rintro e w5 ⟨rfl, hb5⟩; have cT5 : w5.cell? ⟨w.heap.size, 0, none⟩ = some (.int .i64 t) := (hb5.cell (p := ⟨w.heap.size, 0, none⟩) (by first | exact hlt2 | (simp; omega))).trans (by first | exact cT | go_keep); have hcar := fun (p : Addr) (h : p.block < _) => hb5.cell (p := p) h; have hB3 := below_via hb5 (by first | exact HWR.out.drew | exact (HWR.out.drew.alloc HWR.out.drew.size _).drew | exact HWR.out.drew.alloc HWR.out.drew.size _ | exact HWR.out); clear hb5)
  all_goals (
    go_wp2_with fail
    go_ret
    exact ⟨r, by rw [HR.out.1]; rfl, H4.out.2.2, by first | exact hB3 | exact hB3.drew | exact hB3.alloc hB3.size _ | exact hB3.drew.alloc hB3.size _ | exact (hB3.alloc hB3.size _).drew | exact (hB3.drew.alloc hB3.size _).drew⟩)
set_option maxHeartbeats 3200000 in
set_option maxRecDepth 100000 in
theorem textOf_plain (t : Int) (s : List UInt8) (ax : Option Addr) (l cx : Nat) (w : World) (hl : l ≤ 20000000) (hs : s.length ≤ 20000000) (hF : formV t s (.slice ax l cx) l = .iface 142 (.string ⟨s.toArray⟩)) (B : List UInt8 → Prop)
    (EB : ∀ w3, Below w.heap.size w w3 → Calls Try.prog 149 #[.string ⟨s.toArray⟩] w3 fun e w' => ∃ r : List UInt8, e = .returned (.string ⟨r.toArray⟩) ∧ B r ∧ r.length ≤ 400000000 ∧ Below w3.heap.size w3 w') :
    Calls Try.prog 82 #[.agg #[.int .i64 t, .string ⟨s.toArray⟩, .slice ax l cx]] w fun e w' => TxPost t B w e w' := by
  obtain ⟨W2, hW2⟩ : ∃ W, W = w.alloc (Obj.cells #[Value.int IntKind.i64 t, Value.string { data := s.toArray }, Value.slice ax l cx] 67) := ⟨_, rfl⟩
  have E := formOf_any t s ax l cx W2 hl hs
  rw [hF] at E
  have HW := one_laid w (.int .i64 t) (.string ⟨s.toArray⟩) (.slice ax l cx) 67 W2 hW2
  have H2 : Hid (Below w.heap.size w W2 ∧ w.heap.size < W2.heap.size ∧ W2.cell? ⟨w.heap.size, 0, none⟩ = some (.int .i64 t)) := ⟨HW.1, HW.2.1, HW.2.2.1⟩
  have HEB : Hid (∀ w3, Below w.heap.size w w3 → Calls Try.prog 149 #[.string ⟨s.toArray⟩] w3 fun e w' => ∃ r : List UInt8, e = .returned (.string ⟨r.toArray⟩) ∧ B r ∧ r.length ≤ 400000000 ∧ Below w3.heap.size w3 w') := EB
  clear HW hF EB
  go_enter Try.func82, Try.ntmps82
  go_wp2_with fail
  rw [← hW2]
  clear hW2
  refine E.mono ?_
  rintro e w3 ⟨rfl, hb3⟩
  have H3 : Hid (Below w.heap.size w w3 ∧ w.heap.size < w3.heap.size ∧ w3.cell? ⟨w.heap.size, 0, none⟩ = some (.int .i64 t)) := ⟨H2.out.1.trans (hb3.mono H2.out.1.size), Nat.lt_of_lt_of_le H2.out.2.1 hb3.size, (hb3.cell (p := ⟨w.heap.size, 0, none⟩) H2.out.2.1).trans H2.out.2.2⟩
  clear E H2 hb3
  go_wp2_with fail
  refine (HEB.out w3 H3.out.1).mono ?_
  rintro e w4 ⟨r, rfl, hBr, hrl, hb4⟩
  have H4 : Hid (Below w.heap.size w w4 ∧ w.heap.size < w4.heap.size ∧ B r) := ⟨H3.out.1.trans (hb4.mono H3.out.1.size), Nat.lt_of_lt_of_le H3.out.2.1 hb4.size, hBr⟩
  have cT : w4.cell? ⟨w.heap.size, 0, none⟩ = some (.int .i64 t) := (hb4.cell (p := ⟨w.heap.size, 0, none⟩) H3.out.2.1).trans H3.out.2.2
  clear H3 hb4 hBr HEB
  have hwt : IntKind.u8.wrap t = t % 256 := by rw [IntKind.wrap_u8]
  obtain ⟨x, hx⟩ : ∃ x : Int, t % 256 = x := ⟨_, rfl⟩
  obtain ⟨b, hb⟩ : ∃ b, UInt8.ofNat (t % 256).toNat = b := ⟨_, rfl⟩
  have hxb : x = (b.toNat : Int) := by rw [← hb, UInt8.toNat_ofNat', ← hx]; omega
  rw [hx] at hwt
  have hcv := conv_at x b hxb
  have hssz : (⟨r.toArray⟩ : ByteArray).size = r.length := by show r.toArray.size = _; simp
  have EL := fun W => lengthText_any r.length W (by omega)
  obtain ⟨L, hL⟩ : ∃ L : ByteArray, (⟨(lenB r.length).toArray⟩ : ByteArray) = L := ⟨_, rfl⟩
  rw [hL] at EL
  have HR : Hid ((⟨(UInt8.ofNat (t % 256).toNat :: (lenB r.length ++ r)).toArray⟩ : ByteArray) = ⟨#[b]⟩ ++ L ++ ⟨r.toArray⟩ ∧ L.size ≤ 10) := by
    refine ⟨?_, ?_⟩
    · rw [hb, ← hL]
      apply ByteArray.ext
      simp
    · rw [← hL]; show ((lenB r.length).toArray).size ≤ 10; have := beN_short9 r.length; simpa using this
  have ra := fun W => run_string_add_sum (P := Try.prog) W ⟨#[b]⟩ L (by show 1 + L.size ≤ _; have := HR.out.2; omega)
  have rb := fun W => run_string_add_sum (P := Try.prog) W (⟨#[b]⟩ ++ L) ⟨r.toArray⟩ (by rw [ByteArray.size_append, hssz]; show 1 + L.size + r.length ≤ _; have := HR.out.2; omega)
  have hlt2 := H4.out.2.1
  have hne2 := Nat.ne_of_lt hlt2
  have HWR : Hid (Below w.heap.size w w4) := H4.out.1
  clear hL hb hx hxb
  go_wp2_with fail
  go_region_with (go_at_call 112; refine (EL _).mono ?_; rintro e w5 ⟨rfl, hb5⟩; have cT5 : w5.cell? ⟨w.heap.size, 0, none⟩ = some (.int .i64 t) := (hb5.cell (p := ⟨w.heap.size, 0, none⟩) (by first | exact hlt2 | (simp; omega))).trans (by first | exact cT | go_keep); have hcar := fun (p : Addr) (h : p.block < _) => hb5.cell (p := p) h; have hB3 := below_via hb5 (by first | exact HWR.out.drew | exact (HWR.out.drew.alloc HWR.out.drew.size _).drew | exact HWR.out.drew.alloc HWR.out.drew.size _ | exact HWR.out); clear hb5)
  all_goals (
    go_wp2_with fail
    go_ret
    exact ⟨r, by rw [HR.out.1]; rfl, H4.out.2.2, by first | exact hB3 | exact hB3.drew | exact hB3.alloc hB3.size _ | exact hB3.drew.alloc hB3.size _ | exact (hB3.alloc hB3.size _).drew | exact (hB3.drew.alloc hB3.size _).drew⟩)
set_option maxHeartbeats 3200000 in
set_option maxRecDepth 100000 in
theorem textOf_row (t : Int) (s : List UInt8) (ax : Option Addr) (l cx : Nat) (w : World) (hl : l ≤ 20000000) (hs : s.length ≤ 20000000) (hF : formV t s (.slice ax l cx) l = .iface 143 (.slice ax l cx)) (B : List UInt8 → Prop)
    (EB : ∀ w3, Below w.heap.size w w3 → Calls Try.prog 150 #[.slice ax l cx] w3 fun e w' => ∃ r : List UInt8, e = .returned (.string ⟨r.toArray⟩) ∧ B r ∧ r.length ≤ 400000000 ∧ Below w3.heap.size w3 w') :
    Calls Try.prog 82 #[.agg #[.int .i64 t, .string ⟨s.toArray⟩, .slice ax l cx]] w fun e w' => TxPost t B w e w' := by
  obtain ⟨W2, hW2⟩ : ∃ W, W = w.alloc (Obj.cells #[Value.int IntKind.i64 t, Value.string { data := s.toArray }, Value.slice ax l cx] 67) := ⟨_, rfl⟩
  have E := formOf_any t s ax l cx W2 hl hs
  rw [hF] at E
  have HW := one_laid w (.int .i64 t) (.string ⟨s.toArray⟩) (.slice ax l cx) 67 W2 hW2
  have H2 : Hid (Below w.heap.size w W2 ∧ w.heap.size < W2.heap.size ∧ W2.cell? ⟨w.heap.size, 0, none⟩ = some (.int .i64 t)) := ⟨HW.1, HW.2.1, HW.2.2.1⟩
  have HEB : Hid (∀ w3, Below w.heap.size w w3 → Calls Try.prog 150 #[.slice ax l cx] w3 fun e w' => ∃ r : List UInt8, e = .returned (.string ⟨r.toArray⟩) ∧ B r ∧ r.length ≤ 400000000 ∧ Below w3.heap.size w3 w') := EB
  clear HW hF EB
  go_enter Try.func82, Try.ntmps82
  go_wp2_with fail
  rw [← hW2]
  clear hW2
  refine E.mono ?_
  rintro e w3 ⟨rfl, hb3⟩
  have H3 : Hid (Below w.heap.size w w3 ∧ w.heap.size < w3.heap.size ∧ w3.cell? ⟨w.heap.size, 0, none⟩ = some (.int .i64 t)) := ⟨H2.out.1.trans (hb3.mono H2.out.1.size), Nat.lt_of_lt_of_le H2.out.2.1 hb3.size, (hb3.cell (p := ⟨w.heap.size, 0, none⟩) H2.out.2.1).trans H2.out.2.2⟩
  clear E H2 hb3
  go_wp2_with fail
  refine (HEB.out w3 H3.out.1).mono ?_
  rintro e w4 ⟨r, rfl, hBr, hrl, hb4⟩
  have H4 : Hid (Below w.heap.size w w4 ∧ w.heap.size < w4.heap.size ∧ B r) := ⟨H3.out.1.trans (hb4.mono H3.out.1.size), Nat.lt_of_lt_of_le H3.out.2.1 hb4.size, hBr⟩
  have cT : w4.cell? ⟨w.heap.size, 0, none⟩ = some (.int .i64 t) := (hb4.cell (p := ⟨w.heap.size, 0, none⟩) H3.out.2.1).trans H3.out.2.2
  clear H3 hb4 hBr HEB
  have hwt : IntKind.u8.wrap t = t % 256 := by rw [IntKind.wrap_u8]
  obtain ⟨x, hx⟩ : ∃ x : Int, t % 256 = x := ⟨_, rfl⟩
  obtain ⟨b, hb⟩ : ∃ b, UInt8.ofNat (t % 256).toNat = b := ⟨_, rfl⟩
  have hxb : x = (b.toNat : Int) := by rw [← hb, UInt8.toNat_ofNat', ← hx]; omega
  rw [hx] at hwt
  have hcv := conv_at x b hxb
  have hssz : (⟨r.toArray⟩ : ByteArray).size = r.length := by show r.toArray.size = _; simp
  have EL := fun W => lengthText_any r.length W (by omega)
  obtain ⟨L, hL⟩ : ∃ L : ByteArray, (⟨(lenB r.length).toArray⟩ : ByteArray) = L := ⟨_, rfl⟩
  rw [hL] at EL
  have HR : Hid ((⟨(UInt8.ofNat (t % 256).toNat :: (lenB r.length ++ r)).toArray⟩ : ByteArray) = ⟨#[b]⟩ ++ L ++ ⟨r.toArray⟩ ∧ L.size ≤ 10) := by
    refine ⟨?_, ?_⟩
    · rw [hb, ← hL]
      apply ByteArray.ext
      simp
    · rw [← hL]; show ((lenB r.length).toArray).size ≤ 10; have := beN_short9 r.length; simpa using this
  have ra := fun W => run_string_add_sum (P := Try.prog) W ⟨#[b]⟩ L (by show 1 + L.size ≤ _; have := HR.out.2; omega)
  have rb := fun W => run_string_add_sum (P := Try.prog) W (⟨#[b]⟩ ++ L) ⟨r.toArray⟩ (by rw [ByteArray.size_append, hssz]; show 1 + L.size + r.length ≤ _; have := HR.out.2; omega)
  have hlt2 := H4.out.2.1
  have hne2 := Nat.ne_of_lt hlt2
  have HWR : Hid (Below w.heap.size w w4) := H4.out.1
  clear hL hb hx hxb
  go_wp2_with fail
  go_region_with (go_at_call 112; refine (EL _).mono ?_; rintro e w5 ⟨rfl, hb5⟩; have cT5 : w5.cell? ⟨w.heap.size, 0, none⟩ = some (.int .i64 t) := (hb5.cell (p := ⟨w.heap.size, 0, none⟩) (by first | exact hlt2 | (simp; omega))).trans (by first | exact cT | go_keep); have hcar := fun (p : Addr) (h : p.block < _) => hb5.cell (p := p) h; have hB3 := below_via hb5 (by first | exact HWR.out.drew | exact (HWR.out.drew.alloc HWR.out.drew.size _).drew | exact HWR.out.drew.alloc HWR.out.drew.size _ | exact HWR.out); clear hb5)
  all_goals (
    go_wp2_with fail
    go_ret
    exact ⟨r, by rw [HR.out.1]; rfl, H4.out.2.2, by first | exact hB3 | exact hB3.drew | exact hB3.alloc hB3.size _ | exact hB3.drew.alloc hB3.size _ | exact (hB3.alloc hB3.size _).drew | exact (hB3.drew.alloc hB3.size _).drew⟩)
end Go.Proofs.Ytbiiihjohbnodaa
