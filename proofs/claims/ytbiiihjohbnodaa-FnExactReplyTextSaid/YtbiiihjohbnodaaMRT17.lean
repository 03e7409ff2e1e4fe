/-
  Texts of the proof.
-/
import Derived.Deep.RegionHeld3
import Derived.Test.YtbiiihjohbnodaaMRT15
import Derived.Test.YtbiiihjohbnodaaMRT16
set_option maxRecDepth 100000
set_option maxHeartbeats 25600000
namespace Go.Proofs.Ytbiiihjohbnodaa
open Go.RowKit Der
set_option linter.unusedVariables false
theorem body_flag (s : ByteArray) (w : World) : Calls Try.prog 146 #[.string s] w fun e w' => e = .returned (.string s) /\ Below w.heap.size w w' := by
 go_enter Try.func146, Try.ntmps146
 go_wp2_with fail
 go_ret
 exact ⟨rfl, Below.refl _ _⟩
theorem body_integer (s : ByteArray) (w : World) : Calls Try.prog 147 #[.string s] w fun e w' => e = .returned (.string s) /\ Below w.heap.size w w' := by
 go_enter Try.func147, Try.ntmps147
 go_wp2_with fail
 go_ret
 exact ⟨rfl, Below.refl _ _⟩
theorem body_octets (s : ByteArray) (w : World) : Calls Try.prog 148 #[.string s] w fun e w' => e = .returned (.string s) /\ Below w.heap.size w w' := by
 go_enter Try.func148, Try.ntmps148
 go_wp2_with fail
 go_ret
 exact ⟨rfl, Below.refl _ _⟩
theorem body_plain (s : ByteArray) (w : World) : Calls Try.prog 149 #[.string s] w fun e w' => e = .returned (.string s) /\ Below w.heap.size w w' := by
 go_enter Try.func149, Try.ntmps149
 go_wp2_with fail
 go_ret
 exact ⟨rfl, Below.refl _ _⟩
def TxPost (t : Int) (B : List UInt8 -> Prop) (w : World) (e : Ending) (w' : World) : Prop := ∃ r : List UInt8, e = .returned (.string ⟨(UInt8.ofNat (t % 256).toNat :: (lenB r.length ++ r)).toArray⟩) /\ B r /\ Below w.heap.size w w'
theorem textOf_flag (t : Int) (s : List UInt8) (ax : Option Addr) (l cx : Nat) (w : World) (hl : l <= 20000000) (hs : s.length <= 20000000) (hF : formV t s (.slice ax l cx) l = .iface 139 (.string ⟨s.toArray⟩)) (B : List UInt8 -> Prop)
  (EB : ∀ w3, Below w.heap.size w w3 -> Calls Try.prog 146 #[.string ⟨s.toArray⟩] w3 fun e w' => ∃ r : List UInt8, e = .returned (.string ⟨r.toArray⟩) /\ B r /\ r.length <= 400000000 /\ Below w3.heap.size w3 w') :
  Calls Try.prog 82 #[.agg #[.int .i64 t, .string ⟨s.toArray⟩, .slice ax l cx]] w fun e w' => TxPost t B w e w' := by
 obtain ⟨W2, hW2⟩ : ∃ W, W = w.alloc (Obj.cells #[Value.int IntKind.i64 t, Value.string { data := s.toArray }, Value.slice ax l cx] 67) := ⟨_, rfl⟩
 have E := formOf_any t s ax l cx W2 hl hs
 rw [hF] at E
 have HW := one_laid w (.int .i64 t) (.string ⟨s.toArray⟩) (.slice ax l cx) 67 W2 hW2
 have H2 : Hid (Below w.heap.size w W2 /\ w.heap.size < W2.heap.size /\ W2.cell? ⟨w.heap.size, 0, none⟩ = some (.int .i64 t)) := ⟨HW.1, HW.2.1, HW.2.2.1⟩
 have HEB : Hid (∀ w3, Below w.heap.size w w3 -> Calls Try.prog 146 #[.string ⟨s.toArray⟩] w3 fun e w' => ∃ r : List UInt8, e = .returned (.string ⟨r.toArray⟩) /\ B r /\ r.length <= 400000000 /\ Below w3.heap.size w3 w') := EB
 clear HW hF EB
 go_enter Try.func82, Try.ntmps82
 go_wp2_with fail
 rw [<- hW2]
 clear hW2
 refine E.mono ?_
 rintro e w3 ⟨rfl, hb3⟩
 have H3 : Hid (Below w.heap.size w w3 /\ w.heap.size < w3.heap.size /\ w3.cell? ⟨w.heap.size, 0, none⟩ = some (.int .i64 t)) := ⟨H2.out.1.trans (hb3.mono H2.out.1.size), Nat.lt_of_lt_of_le H2.out.2.1 hb3.size, (hb3.cell (p := ⟨w.heap.size, 0, none⟩) H2.out.2.1).trans H2.out.2.2⟩
 clear E H2 hb3
 go_wp2_with fail
 refine (HEB.out w3 H3.out.1).mono ?_
 rintro e w4 ⟨r, rfl, hBr, hrl, hb4⟩
 have H4 : Hid (Below w.heap.size w w4 /\ w.heap.size < w4.heap.size /\ B r) := ⟨H3.out.1.trans (hb4.mono H3.out.1.size), Nat.lt_of_lt_of_le H3.out.2.1 hb4.size, hBr⟩
 have cT : w4.cell? ⟨w.heap.size, 0, none⟩ = some (.int .i64 t) := (hb4.cell (p := ⟨w.heap.size, 0, none⟩) H3.out.2.1).trans H3.out.2.2
 clear H3 hb4 hBr HEB
 have hwt : IntKind.u8.wrap t = t % 256 := by rw [IntKind.wrap_u8]
 obtain ⟨x, hx⟩ : ∃ x : Int, t % 256 = x := ⟨_, rfl⟩
 obtain ⟨b, hb⟩ := zE (UInt8.ofNat (t % 256).toNat)
 have hxb : x = (b.toNat : Int) := by rw [<- hb, UInt8.toNat_ofNat', <- hx]; omega
 rw [hx] at hwt
 have hcv := conv_at x b hxb
 have hssz : (⟨r.toArray⟩ : ByteArray).size = r.length := by show r.toArray.size = _; simp
 have EL := fun W => lengthText_any r.length W (by omega)
 obtain ⟨L, hL⟩ : ∃ L : ByteArray, (⟨(lenB r.length).toArray⟩ : ByteArray) = L := ⟨_, rfl⟩
 rw [hL] at EL
 have HR : Hid ((⟨(UInt8.ofNat (t % 256).toNat :: (lenB r.length ++ r)).toArray⟩ : ByteArray) = ⟨#[b]⟩ ++ L ++ ⟨r.toArray⟩ /\ L.size <= 10) := by
  refine ⟨?_, ?_⟩
  ·rw [hb, <- hL]
   apply ByteArray.ext
   simp
  ·rw [<- hL]; show ((lenB r.length).toArray).size <= 10; have := beN_short9 r.length; simpa using this
 have ra := fun W => run_string_add_sum (P := Try.prog) W ⟨#[b]⟩ L (by show 1 + L.size <= _; have := HR.out.2; omega)
 have rb := fun W => run_string_add_sum (P := Try.prog) W (⟨#[b]⟩ ++ L) ⟨r.toArray⟩ (by rw [ByteArray.size_append, hssz]; show 1 + L.size + r.length <= _; have := HR.out.2; omega)
 have hlt2 := H4.out.2.1
 have hne2 := Nat.ne_of_lt hlt2
 have HWR : Hid (Below w.heap.size w w4) := H4.out.1
 clear hL hb hx hxb
 go_wp2_with fail
 go_region_with (go_at_call 112; refine (EL _).mono ?_; rintro e w5 ⟨rfl, hb5⟩; have cT5 : w5.cell? ⟨w.heap.size, 0, none⟩ = some (.int .i64 t) := (hb5.cell (p := ⟨w.heap.size, 0, none⟩) (by first | exact hlt2 | (simp; omega))).trans (by first | exact cT | go_keep); have hcar := fun (p : Addr) (h : p.block < _) => hb5.cell (p := p) h; have hB3 := below_via hb5 (by first | exact HWR.out.drew | exact (HWR.out.drew.alloc HWR.out.drew.size _).drew | exact HWR.out.drew.alloc HWR.out.drew.size _ | exact HWR.out); clear hb5)
 all_goals (
  go_wp2_with fail
  go_ret
  exact ⟨r, by rw [HR.out.1]; rfl, H4.out.2.2, by first | exact hB3 | exact hB3.drew | exact hB3.alloc hB3.size _ | exact hB3.drew.alloc hB3.size _ | exact (hB3.alloc hB3.size _).drew | exact (hB3.drew.alloc hB3.size _).drew⟩)
theorem textOf_integer (t : Int) (s : List UInt8) (ax : Option Addr) (l cx : Nat) (w : World) (hl : l <= 20000000) (hs : s.length <= 20000000) (hF : formV t s (.slice ax l cx) l = .iface 140 (.string ⟨s.toArray⟩)) (B : List UInt8 -> Prop)
  (EB : ∀ w3, Below w.heap.size w w3 -> Calls Try.prog 147 #[.string ⟨s.toArray⟩] w3 fun e w' => ∃ r : List UInt8, e = .returned (.string ⟨r.toArray⟩) /\ B r /\ r.length <= 400000000 /\ Below w3.heap.size w3 w') :
  Calls Try.prog 82 #[.agg #[.int .i64 t, .string ⟨s.toArray⟩, .slice ax l cx]] w fun e w' => TxPost t B w e w' := by
 obtain ⟨W2, hW2⟩ : ∃ W, W = w.alloc (Obj.cells #[Value.int IntKind.i64 t, Value.string { data := s.toArray }, Value.slice ax l cx] 67) := ⟨_, rfl⟩
 have E := formOf_any t s ax l cx W2 hl hs
 rw [hF] at E
 have HW := one_laid w (.int .i64 t) (.string ⟨s.toArray⟩) (.slice ax l cx) 67 W2 hW2
 have H2 : Hid (Below w.heap.size w W2 /\ w.heap.size < W2.heap.size /\ W2.cell? ⟨w.heap.size, 0, none⟩ = some (.int .i64 t)) := ⟨HW.1, HW.2.1, HW.2.2.1⟩
 have HEB : Hid (∀ w3, Below w.heap.size w w3 -> Calls Try.prog 147 #[.string ⟨s.toArray⟩] w3 fun e w' => ∃ r : List UInt8, e = .returned (.string ⟨r.toArray⟩) /\ B r /\ r.length <= 400000000 /\ Below w3.heap.size w3 w') := EB
 clear HW hF EB
 go_enter Try.func82, Try.ntmps82
 go_wp2_with fail
 rw [<- hW2]
 clear hW2
 refine E.mono ?_
 rintro e w3 ⟨rfl, hb3⟩
 have H3 : Hid (Below w.heap.size w w3 /\ w.heap.size < w3.heap.size /\ w3.cell? ⟨w.heap.size, 0, none⟩ = some (.int .i64 t)) := ⟨H2.out.1.trans (hb3.mono H2.out.1.size), Nat.lt_of_lt_of_le H2.out.2.1 hb3.size, (hb3.cell (p := ⟨w.heap.size, 0, none⟩) H2.out.2.1).trans H2.out.2.2⟩
 clear E H2 hb3
 go_wp2_with fail
 refine (HEB.out w3 H3.out.1).mono ?_
 rintro e w4 ⟨r, rfl, hBr, hrl, hb4⟩
 have H4 : Hid (Below w.heap.size w w4 /\ w.heap.size < w4.heap.size /\ B r) := ⟨H3.out.1.trans (hb4.mono H3.out.1.size), Nat.lt_of_lt_of_le H3.out.2.1 hb4.size, hBr⟩
 have cT : w4.cell? ⟨w.heap.size, 0, none⟩ = some (.int .i64 t) := (hb4.cell (p := ⟨w.heap.size, 0, none⟩) H3.out.2.1).trans H3.out.2.2
 clear H3 hb4 hBr HEB
 have hwt : IntKind.u8.wrap t = t % 256 := by rw [IntKind.wrap_u8]
 obtain ⟨x, hx⟩ : ∃ x : Int, t % 256 = x := ⟨_, rfl⟩
 obtain ⟨b, hb⟩ := zE (UInt8.ofNat (t % 256).toNat)
 have hxb : x = (b.toNat : Int) := by rw [<- hb, UInt8.toNat_ofNat', <- hx]; omega
 rw [hx] at hwt
 have hcv := conv_at x b hxb
 have hssz : (⟨r.toArray⟩ : ByteArray).size = r.length := by show r.toArray.size = _; simp
 have EL := fun W => lengthText_any r.length W (by omega)
 obtain ⟨L, hL⟩ : ∃ L : ByteArray, (⟨(lenB r.length).toArray⟩ : ByteArray) = L := ⟨_, rfl⟩
 rw [hL] at EL
 have HR : Hid ((⟨(UInt8.ofNat (t % 256).toNat :: (lenB r.length ++ r)).toArray⟩ : ByteArray) = ⟨#[b]⟩ ++ L ++ ⟨r.toArray⟩ /\ L.size <= 10) := by
  refine ⟨?_, ?_⟩
  ·rw [hb, <- hL]
   apply ByteArray.ext
   simp
  ·rw [<- hL]; show ((lenB r.length).toArray).size <= 10; have := beN_short9 r.length; simpa using this
 have ra := fun W => run_string_add_sum (P := Try.prog) W ⟨#[b]⟩ L (by show 1 + L.size <= _; have := HR.out.2; omega)
 have rb := fun W => run_string_add_sum (P := Try.prog) W (⟨#[b]⟩ ++ L) ⟨r.toArray⟩ (by rw [ByteArray.size_append, hssz]; show 1 + L.size + r.length <= _; have := HR.out.2; omega)
 have hlt2 := H4.out.2.1
 have hne2 := Nat.ne_of_lt hlt2
 have HWR : Hid (Below w.heap.size w w4) := H4.out.1
 clear hL hb hx hxb
 go_wp2_with fail
 go_region_with (go_at_call 112; refine (EL _).mono ?_; rintro e w5 ⟨rfl, hb5⟩; have cT5 : w5.cell? ⟨w.heap.size, 0, none⟩ = some (.int .i64 t) := (hb5.cell (p := ⟨w.heap.size, 0, none⟩) (by first | exact hlt2 | (simp; omega))).trans (by first | exact cT | go_keep); have hcar := fun (p : Addr) (h : p.block < _) => hb5.cell (p := p) h; have hB3 := below_via hb5 (by first | exact HWR.out.drew | exact (HWR.out.drew.alloc HWR.out.drew.size _).drew | exact HWR.out.drew.alloc HWR.out.drew.size _ | exact HWR.out); clear hb5)
 all_goals (
  go_wp2_with fail
  go_ret
  exact ⟨r, by rw [HR.out.1]; rfl, H4.out.2.2, by first | exact hB3 | exact hB3.drew | exact hB3.alloc hB3.size _ | exact hB3.drew.alloc hB3.size _ | exact (hB3.alloc hB3.size _).drew | exact (hB3.drew.alloc hB3.size _).drew⟩)
theorem textOf_octets (t : Int) (s : List UInt8) (ax : Option Addr) (l cx : Nat) (w : World) (hl : l <= 20000000) (hs : s.length <= 20000000) (hF : formV t s (.slice ax l cx) l = .iface 141 (.string ⟨s.toArray⟩)) (B : List UInt8 -> Prop)
  (EB : ∀ w3, Below w.heap.size w w3 -> Calls Try.prog 148 #[.string ⟨s.toArray⟩] w3 fun e w' => ∃ r : List UInt8, e = .returned (.string ⟨r.toArray⟩) /\ B r /\ r.length <= 400000000 /\ Below w3.heap.size w3 w') :
  Calls Try.prog 82 #[.agg #[.int .i64 t, .string ⟨s.toArray⟩, .slice ax l cx]] w fun e w' => TxPost t B w e w' := by
 obtain ⟨W2, hW2⟩ : ∃ W, W = w.alloc (Obj.cells #[Value.int IntKind.i64 t, Value.string { data := s.toArray }, Value.slice ax l cx] 67) := ⟨_, rfl⟩
 have E := formOf_any t s ax l cx W2 hl hs
 rw [hF] at E
 have HW := one_laid w (.int .i64 t) (.string ⟨s.toArray⟩) (.slice ax l cx) 67 W2 hW2
 have H2 : Hid (Below w.heap.size w W2 /\ w.heap.size < W2.heap.size /\ W2.cell? ⟨w.heap.size, 0, none⟩ = some (.int .i64 t)) := ⟨HW.1, HW.2.1, HW.2.2.1⟩
 have HEB : Hid (∀ w3, Below w.heap.size w w3 -> Calls Try.prog 148 #[.string ⟨s.toArray⟩] w3 fun e w' => ∃ r : List UInt8, e = .returned (.string ⟨r.toArray⟩) /\ B r /\ r.length <= 400000000 /\ Below w3.heap.size w3 w') := EB
 clear HW hF EB
 go_enter Try.func82, Try.ntmps82
 go_wp2_with fail
 rw [<- hW2]
 clear hW2
 refine E.mono ?_
 rintro e w3 ⟨rfl, hb3⟩
 have H3 : Hid (Below w.heap.size w w3 /\ w.heap.size < w3.heap.size /\ w3.cell? ⟨w.heap.size, 0, none⟩ = some (.int .i64 t)) := ⟨H2.out.1.trans (hb3.mono H2.out.1.size), Nat.lt_of_lt_of_le H2.out.2.1 hb3.size, (hb3.cell (p := ⟨w.heap.size, 0, none⟩) H2.out.2.1).trans H2.out.2.2⟩
 clear E H2 hb3
 go_wp2_with fail
 refine (HEB.out w3 H3.out.1).mono ?_
 rintro e w4 ⟨r, rfl, hBr, hrl, hb4⟩
 have H4 : Hid (Below w.heap.size w w4 /\ w.heap.size < w4.heap.size /\ B r) := ⟨H3.out.1.trans (hb4.mono H3.out.1.size), Nat.lt_of_lt_of_le H3.out.2.1 hb4.size, hBr⟩
 have cT : w4.cell? ⟨w.heap.size, 0, none⟩ = some (.int .i64 t) := (hb4.cell (p := ⟨w.heap.size, 0, none⟩) H3.out.2.1).trans H3.out.2.2
 clear H3 hb4 hBr HEB
 have hwt : IntKind.u8.wrap t = t % 256 := by rw [IntKind.wrap_u8]
 obtain ⟨x, hx⟩ : ∃ x : Int, t % 256 = x := ⟨_, rfl⟩
 obtain ⟨b, hb⟩ := zE (UInt8.ofNat (t % 256).toNat)
 have hxb : x = (b.toNat : Int) := by rw [<- hb, UInt8.toNat_ofNat', <- hx]; omega
 rw [hx] at hwt
 have hcv := conv_at x b hxb
 have hssz : (⟨r.toArray⟩ : ByteArray).size = r.length := by show r.toArray.size = _; simp
 have EL := fun W => lengthText_any r.length W (by omega)
 obtain ⟨L, hL⟩ : ∃ L : ByteArray, (⟨(lenB r.length).toArray⟩ : ByteArray) = L := ⟨_, rfl⟩
 rw [hL] at EL
 have HR : Hid ((⟨(UInt8.ofNat (t % 256).toNat :: (lenB r.length ++ r)).toArray⟩ : ByteArray) = ⟨#[b]⟩ ++ L ++ ⟨r.toArray⟩ /\ L.size <= 10) := by
  refine ⟨?_, ?_⟩
  ·rw [hb, <- hL]
   apply ByteArray.ext
   simp
  ·rw [<- hL]; show ((lenB r.length).toArray).size <= 10; have := beN_short9 r.length; simpa using this
 have ra := fun W => run_string_add_sum (P := Try.prog) W ⟨#[b]⟩ L (by show 1 + L.size <= _; have := HR.out.2; omega)
 have rb := fun W => run_string_add_sum (P := Try.prog) W (⟨#[b]⟩ ++ L) ⟨r.toArray⟩ (by rw [ByteArray.size_append, hssz]; show 1 + L.size + r.length <= _; have := HR.out.2; omega)
 have hlt2 := H4.out.2.1
 have hne2 := Nat.ne_of_lt hlt2
 have HWR : Hid (Below w.heap.size w w4) := H4.out.1
 clear hL hb hx hxb
 go_wp2_with fail
 go_region_with (go_at_call 112; refine (EL _).mono ?_; rintro e w5 ⟨rfl, hb5⟩; have cT5 : w5.cell? ⟨w.heap.size, 0, none⟩ = some (.int .i64 t) := (hb5.cell (p := ⟨w.heap.size, 0, none⟩) (by first | exact hlt2 | (simp; omega))).trans (by first | exact cT | go_keep); have hcar := fun (p : Addr) (h : p.block < _) => hb5.cell (p := p) h; have hB3 := below_via hb5 (by first | exact HWR.out.drew | exact (HWR.out.drew.alloc HWR.out.drew.size _).drew | exact HWR.out.drew.alloc HWR.out.drew.size _ | exact HWR.out); clear hb5)
 all_goals (
  go_wp2_with fail
  go_ret
  exact ⟨r, by rw [HR.out.1]; rfl, H4.out.2.2, by first | exact hB3 | exact hB3.drew | exact hB3.alloc hB3.size _ | exact hB3.drew.alloc hB3.size _ | exact (hB3.alloc hB3.size _).drew | exact (hB3.drew.alloc hB3.size _).drew⟩)
theorem textOf_plain (t : Int) (s : List UInt8) (ax : Option Addr) (l cx : Nat) (w : World) (hl : l <= 20000000) (hs : s.length <= 20000000) (hF : formV t s (.slice ax l cx) l = .iface 142 (.string ⟨s.toArray⟩)) (B : List UInt8 -> Prop)
  (EB : ∀ w3, Below w.heap.size w w3 -> Calls Try.prog 149 #[.string ⟨s.toArray⟩] w3 fun e w' => ∃ r : List UInt8, e = .returned (.string ⟨r.toArray⟩) /\ B r /\ r.length <= 400000000 /\ Below w3.heap.size w3 w') :
  Calls Try.prog 82 #[.agg #[.int .i64 t, .string ⟨s.toArray⟩, .slice ax l cx]] w fun e w' => TxPost t B w e w' := by
 obtain ⟨W2, hW2⟩ : ∃ W, W = w.alloc (Obj.cells #[Value.int IntKind.i64 t, Value.string { data := s.toArray }, Value.slice ax l cx] 67) := ⟨_, rfl⟩
 have E := formOf_any t s ax l cx W2 hl hs
 rw [hF] at E
 have HW := one_laid w (.int .i64 t) (.string ⟨s.toArray⟩) (.slice ax l cx) 67 W2 hW2
 have H2 : Hid (Below w.heap.size w W2 /\ w.heap.size < W2.heap.size /\ W2.cell? ⟨w.heap.size, 0, none⟩ = some (.int .i64 t)) := ⟨HW.1, HW.2.1, HW.2.2.1⟩
 have HEB : Hid (∀ w3, Below w.heap.size w w3 -> Calls Try.prog 149 #[.string ⟨s.toArray⟩] w3 fun e w' => ∃ r : List UInt8, e = .returned (.string ⟨r.toArray⟩) /\ B r /\ r.length <= 400000000 /\ Below w3.heap.size w3 w') := EB
 clear HW hF EB
 go_enter Try.func82, Try.ntmps82
 go_wp2_with fail
 rw [<- hW2]
 clear hW2
 refine E.mono ?_
 rintro e w3 ⟨rfl, hb3⟩
 have H3 : Hid (Below w.heap.size w w3 /\ w.heap.size < w3.heap.size /\ w3.cell? ⟨w.heap.size, 0, none⟩ = some (.int .i64 t)) := ⟨H2.out.1.trans (hb3.mono H2.out.1.size), Nat.lt_of_lt_of_le H2.out.2.1 hb3.size, (hb3.cell (p := ⟨w.heap.size, 0, none⟩) H2.out.2.1).trans H2.out.2.2⟩
 clear E H2 hb3
 go_wp2_with fail
 refine (HEB.out w3 H3.out.1).mono ?_
 rintro e w4 ⟨r, rfl, hBr, hrl, hb4⟩
 have H4 : Hid (Below w.heap.size w w4 /\ w.heap.size < w4.heap.size /\ B r) := ⟨H3.out.1.trans (hb4.mono H3.out.1.size), Nat.lt_of_lt_of_le H3.out.2.1 hb4.size, hBr⟩
 have cT : w4.cell? ⟨w.heap.size, 0, none⟩ = some (.int .i64 t) := (hb4.cell (p := ⟨w.heap.size, 0, none⟩) H3.out.2.1).trans H3.out.2.2
 clear H3 hb4 hBr HEB
 have hwt : IntKind.u8.wrap t = t % 256 := by rw [IntKind.wrap_u8]
 obtain ⟨x, hx⟩ : ∃ x : Int, t % 256 = x := ⟨_, rfl⟩
 obtain ⟨b, hb⟩ := zE (UInt8.ofNat (t % 256).toNat)
 have hxb : x = (b.toNat : Int) := by rw [<- hb, UInt8.toNat_ofNat', <- hx]; omega
 rw [hx] at hwt
 have hcv := conv_at x b hxb
 have hssz : (⟨r.toArray⟩ : ByteArray).size = r.length := by show r.toArray.size = _; simp
 have EL := fun W => lengthText_any r.length W (by omega)
 obtain ⟨L, hL⟩ : ∃ L : ByteArray, (⟨(lenB r.length).toArray⟩ : ByteArray) = L := ⟨_, rfl⟩
 rw [hL] at EL
 have HR : Hid ((⟨(UInt8.ofNat (t % 256).toNat :: (lenB r.length ++ r)).toArray⟩ : ByteArray) = ⟨#[b]⟩ ++ L ++ ⟨r.toArray⟩ /\ L.size <= 10) := by
  refine ⟨?_, ?_⟩
  ·rw [hb, <- hL]
   apply ByteArray.ext
   simp
  ·rw [<- hL]; show ((lenB r.length).toArray).size <= 10; have := beN_short9 r.length; simpa using this
 have ra := fun W => run_string_add_sum (P := Try.prog) W ⟨#[b]⟩ L (by show 1 + L.size <= _; have := HR.out.2; omega)
 have rb := fun W => run_string_add_sum (P := Try.prog) W (⟨#[b]⟩ ++ L) ⟨r.toArray⟩ (by rw [ByteArray.size_append, hssz]; show 1 + L.size + r.length <= _; have := HR.out.2; omega)
 have hlt2 := H4.out.2.1
 have hne2 := Nat.ne_of_lt hlt2
 have HWR : Hid (Below w.heap.size w w4) := H4.out.1
 clear hL hb hx hxb
 go_wp2_with fail
 go_region_with (go_at_call 112; refine (EL _).mono ?_; rintro e w5 ⟨rfl, hb5⟩; have cT5 : w5.cell? ⟨w.heap.size, 0, none⟩ = some (.int .i64 t) := (hb5.cell (p := ⟨w.heap.size, 0, none⟩) (by first | exact hlt2 | (simp; omega))).trans (by first | exact cT | go_keep); have hcar := fun (p : Addr) (h : p.block < _) => hb5.cell (p := p) h; have hB3 := below_via hb5 (by first | exact HWR.out.drew | exact (HWR.out.drew.alloc HWR.out.drew.size _).drew | exact HWR.out.drew.alloc HWR.out.drew.size _ | exact HWR.out); clear hb5)
 all_goals (
  go_wp2_with fail
  go_ret
  exact ⟨r, by rw [HR.out.1]; rfl, H4.out.2.2, by first | exact hB3 | exact hB3.drew | exact hB3.alloc hB3.size _ | exact hB3.drew.alloc hB3.size _ | exact (hB3.alloc hB3.size _).drew | exact (hB3.drew.alloc hB3.size _).drew⟩)
theorem textOf_row (t : Int) (s : List UInt8) (ax : Option Addr) (l cx : Nat) (w : World) (hl : l <= 20000000) (hs : s.length <= 20000000) (hF : formV t s (.slice ax l cx) l = .iface 143 (.slice ax l cx)) (B : List UInt8 -> Prop)
  (EB : ∀ w3, Below w.heap.size w w3 -> Calls Try.prog 150 #[.slice ax l cx] w3 fun e w' => ∃ r : List UInt8, e = .returned (.string ⟨r.toArray⟩) /\ B r /\ r.length <= 400000000 /\ Below w3.heap.size w3 w') :
  Calls Try.prog 82 #[.agg #[.int .i64 t, .string ⟨s.toArray⟩, .slice ax l cx]] w fun e w' => TxPost t B w e w' := by
 obtain ⟨W2, hW2⟩ : ∃ W, W = w.alloc (Obj.cells #[Value.int IntKind.i64 t, Value.string { data := s.toArray }, Value.slice ax l cx] 67) := ⟨_, rfl⟩
 have E := formOf_any t s ax l cx W2 hl hs
 rw [hF] at E
 have HW := one_laid w (.int .i64 t) (.string ⟨s.toArray⟩) (.slice ax l cx) 67 W2 hW2
 have H2 : Hid (Below w.heap.size w W2 /\ w.heap.size < W2.heap.size /\ W2.cell? ⟨w.heap.size, 0, none⟩ = some (.int .i64 t)) := ⟨HW.1, HW.2.1, HW.2.2.1⟩
 have HEB : Hid (∀ w3, Below w.heap.size w w3 -> Calls Try.prog 150 #[.slice ax l cx] w3 fun e w' => ∃ r : List UInt8, e = .returned (.string ⟨r.toArray⟩) /\ B r /\ r.length <= 400000000 /\ Below w3.heap.size w3 w') := EB
 clear HW hF EB
 go_enter Try.func82, Try.ntmps82
 go_wp2_with fail
 rw [<- hW2]
 clear hW2
 refine E.mono ?_
 rintro e w3 ⟨rfl, hb3⟩
 have H3 : Hid (Below w.heap.size w w3 /\ w.heap.size < w3.heap.size /\ w3.cell? ⟨w.heap.size, 0, none⟩ = some (.int .i64 t)) := ⟨H2.out.1.trans (hb3.mono H2.out.1.size), Nat.lt_of_lt_of_le H2.out.2.1 hb3.size, (hb3.cell (p := ⟨w.heap.size, 0, none⟩) H2.out.2.1).trans H2.out.2.2⟩
 clear E H2 hb3
 go_wp2_with fail
 refine (HEB.out w3 H3.out.1).mono ?_
 rintro e w4 ⟨r, rfl, hBr, hrl, hb4⟩
 have H4 : Hid (Below w.heap.size w w4 /\ w.heap.size < w4.heap.size /\ B r) := ⟨H3.out.1.trans (hb4.mono H3.out.1.size), Nat.lt_of_lt_of_le H3.out.2.1 hb4.size, hBr⟩
 have cT : w4.cell? ⟨w.heap.size, 0, none⟩ = some (.int .i64 t) := (hb4.cell (p := ⟨w.heap.size, 0, none⟩) H3.out.2.1).trans H3.out.2.2
 clear H3 hb4 hBr HEB
 have hwt : IntKind.u8.wrap t = t % 256 := by rw [IntKind.wrap_u8]
 obtain ⟨x, hx⟩ : ∃ x : Int, t % 256 = x := ⟨_, rfl⟩
 obtain ⟨b, hb⟩ := zE (UInt8.ofNat (t % 256).toNat)
 have hxb : x = (b.toNat : Int) := by rw [<- hb, UInt8.toNat_ofNat', <- hx]; omega
 rw [hx] at hwt
 have hcv := conv_at x b hxb
 have hssz : (⟨r.toArray⟩ : ByteArray).size = r.length := by show r.toArray.size = _; simp
 have EL := fun W => lengthText_any r.length W (by omega)
 obtain ⟨L, hL⟩ : ∃ L : ByteArray, (⟨(lenB r.length).toArray⟩ : ByteArray) = L := ⟨_, rfl⟩
 rw [hL] at EL
 have HR : Hid ((⟨(UInt8.ofNat (t % 256).toNat :: (lenB r.length ++ r)).toArray⟩ : ByteArray) = ⟨#[b]⟩ ++ L ++ ⟨r.toArray⟩ /\ L.size <= 10) := by
  refine ⟨?_, ?_⟩
  ·rw [hb, <- hL]
   apply ByteArray.ext
   simp
  ·rw [<- hL]; show ((lenB r.length).toArray).size <= 10; have := beN_short9 r.length; simpa using this
 have ra := fun W => run_string_add_sum (P := Try.prog) W ⟨#[b]⟩ L (by show 1 + L.size <= _; have := HR.out.2; omega)
 have rb := fun W => run_string_add_sum (P := Try.prog) W (⟨#[b]⟩ ++ L) ⟨r.toArray⟩ (by rw [ByteArray.size_append, hssz]; show 1 + L.size + r.length <= _; have := HR.out.2; omega)
 have hlt2 := H4.out.2.1
 have hne2 := Nat.ne_of_lt hlt2
 have HWR : Hid (Below w.heap.size w w4) := H4.out.1
 clear hL hb hx hxb
 go_wp2_with fail
 go_region_with (go_at_call 112; refine (EL _).mono ?_; rintro e w5 ⟨rfl, hb5⟩; have cT5 : w5.cell? ⟨w.heap.size, 0, none⟩ = some (.int .i64 t) := (hb5.cell (p := ⟨w.heap.size, 0, none⟩) (by first | exact hlt2 | (simp; omega))).trans (by first | exact cT | go_keep); have hcar := fun (p : Addr) (h : p.block < _) => hb5.cell (p := p) h; have hB3 := below_via hb5 (by first | exact HWR.out.drew | exact (HWR.out.drew.alloc HWR.out.drew.size _).drew | exact HWR.out.drew.alloc HWR.out.drew.size _ | exact HWR.out); clear hb5)
 all_goals (
  go_wp2_with fail
  go_ret
  exact ⟨r, by rw [HR.out.1]; rfl, H4.out.2.2, by first | exact hB3 | exact hB3.drew | exact hB3.alloc hB3.size _ | exact hB3.drew.alloc hB3.size _ | exact (hB3.alloc hB3.size _).drew | exact (hB3.drew.alloc hB3.size _).drew⟩)
theorem leaf_post {n : Nat} {t : Int} {s : List UInt8} {ks : List (It n)} {w w' : World} {e : Ending} (h48 : t ≠ 48) (h : TxPost t (fun r => r = s) w e w') :
  ∃ r : List UInt8, e = .returned (.string ⟨r.toArray⟩) /\ GoodT r (txtI (n + 1) (It.mk t s ks)) /\ r.length <= 11 + 12 * szI (n + 1) (It.mk t s ks) /\ Below w.heap.size w w' := by
 obtain ⟨r, rfl, rfl, hb⟩ := h
 have e : txtI (n + 1) (It.mk t r ks) = UInt8.ofNat (t % 256).toNat :: (lenB r.length ++ r) := by
  show UInt8.ofNat (t % 256).toNat :: (lenB (if t = 48 then _ else r).length ++ (if t = 48 then _ else r)) = _
  rw [if_neg h48]
 have h1 := txt_le (n + 1) (It.mk t r ks)
 rw [<- e]
 exact ⟨_, rfl, GoodT.refl _, h1, hb⟩
theorem row_post {n : Nat} {ks : List (It n)} {w w' : World} {e : Ending} (h : TxPost 48 (fun r => GoodT r ((ks.map (txtI n)).flatten) /\ r.length <= 12 * szS n ks) w e w') :
  ∃ r : List UInt8, e = .returned (.string ⟨r.toArray⟩) /\ GoodT r (txtI (n + 1) (It.mk 48 [] ks)) /\ r.length <= 11 + 12 * szI (n + 1) (It.mk 48 [] ks) /\ Below w.heap.size w w' := by
 obtain ⟨r, rfl, ⟨hg, hl⟩, hb⟩ := h
 have e : txtI (n + 1) (It.mk 48 [] ks) = UInt8.ofNat ((48 : Int) % 256).toNat :: (lenB ((ks.map (txtI n)).flatten).length ++ (ks.map (txtI n)).flatten) := rfl
 refine ⟨_, rfl, ?_, ?_, hb⟩
 ·rw [e]
  exact GoodT.whole (b := []) hg
 ·have h1 := beN_short9 r.length
  have h2 : szI (n + 1) (It.mk 48 [] ks) = szS n ks := by
   show ([] : List UInt8).length + ks.length + (ks.map (szI n)).sum = ks.length + (ks.map (szI n)).sum
   simp
  rw [h2]
  simp only [List.length_cons, List.length_append]
  omega
theorem txC_of (n : Nat) (HB : Hid (BdC n)) : TxC n := fun t s ks a d w hx hz hr => by
 have hsz := szI_kid hz
 obtain ⟨ax, cx, rfl, hcx⟩ := id hx
 rw [right_mk] at hr
 by_cases h48 : t = 48
 ·subst h48
  rw [if_neg (by simp)] at hr
  simp only [Bool.and_eq_true, List.all_eq_true] at hr
  obtain ⟨⟨⟨hs, _⟩, _⟩, hall⟩ := hr
  have hs0 := of_decide_eq_true hs
  obtain rfl : s = [] := List.eq_nil_of_length_eq_zero hs0
  refine (textOf_row 48 [] ax ks.length cx w hsz.2.1 hsz.1 (formV_row _ _) (fun r => GoodT r ((ks.map (txtI n)).flatten) /\ r.length <= 12 * szS n ks) fun w3 hb => ?_).mono fun e w' h => row_post h
  refine (HB.out ks _ (d + 1) w3 (hx.mono hb fun _ _ h => ItAt.below hb h) (szS_of hz) hall).mono ?_
  rintro e w' ⟨r, rfl, hg, hl, hb'⟩
  have := szS_of hz
  exact ⟨r, rfl, ⟨hg, hl⟩, by omega, hb'⟩
 ·rw [if_pos h48, Bool.and_eq_true] at hr
  have hk0 : ks.length = 0 := of_decide_eq_true hr.1
  have hp := hr.2
  rw [hk0]
  have done : ∀ w3 : World, ∀ F : Nat, (Calls Try.prog F #[.string ⟨s.toArray⟩] w3 fun e w' => e = .returned (.string ⟨s.toArray⟩) /\ Below w3.heap.size w3 w') -> Calls Try.prog F #[.string ⟨s.toArray⟩] w3 fun e w' => ∃ r : List UInt8, e = .returned (.string ⟨r.toArray⟩) /\ r = s /\ r.length <= 400000000 /\ Below w3.heap.size w3 w' :=
   fun w3 F h => h.mono fun e w' ⟨h1, h2⟩ => ⟨s, h1, rfl, by omega, h2⟩
  rcases plainOk_tag hp with rfl | rfl | rfl | rfl
  ·exact (textOf_flag 1 s ax 0 cx w (by omega) hsz.1 (formV_one _ _) (fun r => r = s) fun w3 _ => done w3 _ (body_flag ⟨s.toArray⟩ w3)).mono fun e w' h => leaf_post (by decide) h
  ·exact (textOf_integer 2 s ax 0 cx w (by omega) hsz.1 (formV_two _ _) (fun r => r = s) fun w3 _ => done w3 _ (body_integer ⟨s.toArray⟩ w3)).mono fun e w' h => leaf_post (by decide) h
  ·exact (textOf_plain 12 s ax 0 cx w (by omega) hsz.1 (formV_twelve _ _) (fun r => r = s) fun w3 _ => done w3 _ (body_plain ⟨s.toArray⟩ w3)).mono fun e w' h => leaf_post (by decide) h
  ·exact (textOf_octets 4 s ax 0 cx w (by omega) hsz.1 (formV_four _ _) (fun r => r = s) fun w3 _ => done w3 _ (body_octets ⟨s.toArray⟩ w3)).mono fun e w' h => leaf_post (by decide) h
theorem bdC_any : ∀ (n : Nat), BdC n
 | 0 => bd_zero
 | n + 1 => fun ks v d w hx hz hr => bd_step n (txC_of n (bdC_any n)) ks v d w hx hz hr
theorem textOf_any (n : Nat) : TxC n := txC_of n (bdC_any n)
theorem implItemText_step (n : Nat) (t : Int) (s : List UInt8) (ks : List (It n)) (a : Value) (w : World) (hx : KidsAt w (ItAt w n) a ks) (hz : szI (n + 1) (It.mk t s ks) <= 20000000) :
  Calls Try.prog 51 #[.agg #[.int .i64 t, .string ⟨s.toArray⟩, a]] w fun e w' => e = .returned (.tuple #[.string ⟨((writeI (n + 1) (It.mk t s ks)).getD []).toArray⟩, .bool (writeI (n + 1) (It.mk t s ks)).isSome]) /\ Below w.heap.size w w' := by
 obtain ⟨ax, cx, rfl, -⟩ := id hx
 obtain ⟨W2, hW2⟩ : ∃ W, W = w.alloc (Obj.cells #[Value.int IntKind.i64 t, Value.string { data := s.toArray }, Value.slice ax ks.length cx] 67) := ⟨_, rfl⟩
 have HW := one_laid w (.int .i64 t) (.string ⟨s.toArray⟩) (.slice ax ks.length cx) 67 W2 hW2
 have E := implItemOk_any (n + 1) (It.mk t s ks) (.agg #[.int .i64 t, .string ⟨s.toArray⟩, .slice ax ks.length cx]) W2 ⟨_, rfl, hx.mono HW.1 fun _ _ h => ItAt.below HW.1 h⟩ hz
 have HN : Hid (writeI (n + 1) (It.mk t s ks) = if rightI (n + 1) (It.mk t s ks) 0 = true /\ (txtI (n + 1) (It.mk t s ks)).length <= 4000 then some (txtI (n + 1) (It.mk t s ks)) else none) := rfl
 have HX : Hid (KidsAt w (ItAt w n) (.slice ax ks.length cx) ks /\ szI (n + 1) (It.mk t s ks) <= 20000000) := ⟨hx, hz⟩
 obtain ⟨l, hl⟩ := zE (ks.length)
 have HL : Hid (ks.length = l) := hl
 have HC : Hid (Below w.heap.size w W2 /\ w.heap.size < W2.heap.size /\ Cells3 W2 w.heap.size 0 (.int .i64 t) (.string ⟨s.toArray⟩) (.slice ax ks.length cx)) := ⟨HW.1, HW.2.1, HW.2.2⟩
 rw [hl] at hW2 E HX HC |-
 clear hx hz HW hl
 cases hr : rightI (n + 1) (It.mk t s ks) 0 with
 | false =>
  rw [hr] at E
  have HR : Hid (writeI (n + 1) (It.mk t s ks) = none) := by
   show writeI (n + 1) (It.mk t s ks) = none
   rw [HN.out, hr]
   simp
  clear hr
  go_enter Try.func51, Try.ntmps51
  go_wp2_with fail
  rw [<- hW2]
  refine E.mono ?_
  rintro e w3 ⟨rfl, hb3⟩
  have H3 : Hid (Below w.heap.size w w3) := HC.out.1.trans (hb3.mono HC.out.1.size)
  clear E hb3 hW2
  go_wp2_with fail
  go_ret2
  exact ⟨by rw [HR.out]; rfl, H3.out⟩
 | true =>
  rw [hr] at E
  have HR : Hid (rightI (n + 1) (It.mk t s ks) 0 = true /\ writeI (n + 1) (It.mk t s ks) = if (txtI (n + 1) (It.mk t s ks)).length <= 4000 then some (txtI (n + 1) (It.mk t s ks)) else none) := by
   refine ⟨hr, ?_⟩
   rw [HN.out, hr]
   simp
  clear hr HN
  go_enter Try.func51, Try.ntmps51
  go_wp2_with fail
  rw [<- hW2]
  refine E.mono ?_
  rintro e w3 ⟨rfl, hb3⟩
  obtain ⟨c0, c1, c2⟩ := HC.out.2.2.below HC.out.2.1 hb3
  have hbw : Below w.heap.size w w3 := HC.out.1.trans (hb3.mono HC.out.1.size)
  have ET := textOf_any n t s ks (.slice ax l cx) 0 w3 (HX.out.1.mono hbw fun _ _ h => ItAt.below hbw h) HX.out.2 HR.out.1
  have H3 : Hid (Below w.heap.size w w3) := hbw
  clear E hb3 hW2 hbw
  rw [show (0 : Nat) + 1 = 1 from rfl] at c1
  rw [show (0 : Nat) + 2 = 2 from rfl] at c2
  go_wp2_with fail
  refine ET.mono ?_
  rintro e w4 ⟨r, rfl, hg, hrl, hb4⟩
  have hssz : (⟨r.toArray⟩ : ByteArray).size = r.length := by show r.toArray.size = _; simp
  have hr9 : r.length <= 1000000000 := by have := HX.out.2; omega
  have H4 : Hid (Below w.heap.size w w4 /\ GoodT r (txtI (n + 1) (It.mk t s ks))) := ⟨H3.out.trans (hb4.mono H3.out.size), hg⟩
  clear ET hb4 hg hrl c0 c1 c2
  by_cases hbig : 4000 < r.length
  ·have hbi : (4000 : Int) < (r.length : Int) := by omega
   have HF : Hid (writeI (n + 1) (It.mk t s ks) = none) := by
    show _ = none
    rw [HR.out.2, if_neg]
    intro hle
    have := H4.out.2.1 hle
    rw [this] at hbig
    omega
   go_wp2_with fail
   go_ret2
   exact ⟨by rw [HF.out]; rfl, H4.out.1⟩
  ·have hbi : ¬ (4000 : Int) < (r.length : Int) := by omega
   have HF : Hid (writeI (n + 1) (It.mk t s ks) = some r) := by
    show _ = some r
    have hle : (txtI (n + 1) (It.mk t s ks)).length <= 4000 := by
     refine Nat.le_of_not_lt fun hlt => ?_
     exact hbig (H4.out.2.2 hlt)
    rw [HR.out.2, if_pos hle, H4.out.2.1 hle]
   go_wp2_with fail
   go_ret2
   exact ⟨by rw [HF.out]; rfl, H4.out.1⟩
theorem implItemText_any : ∀ (n : Nat) (x : It n) (v : Value) (w : World), ItAt w n v x -> szI n x <= 20000000 -> Calls Try.prog 51 #[v] w fun e w' => e = .returned (.tuple #[.string ⟨((writeI n x).getD []).toArray⟩, .bool (writeI n x).isSome]) /\ Below w.heap.size w w'
 | 0, _, _, _, h, _ => h.elim
 | n + 1, x, v, w, hx, hz => by
  obtain ⟨kx, rfl, hkx⟩ := hx
  exact implItemText_step n (It.tag x) (It.text x) (It.kids x) kx w hkx hz
def rtxt (c : Rp) : Option (List UInt8) := if replyOk c = true then writeI 6 (replyI c) else none
theorem to_bodyR {w w' : World} {c : Rp} {e : Ending} (h : ToIt w 4 (bodyR c) e w') : ∃ (a : Option Addr) (l cx : Nat) (fp : List Nat), e = .returned (.agg #[.int .i64 48, .string ⟨#[]⟩, .slice a l cx]) /\ OwnK w' w.heap.size 4 (.slice a l cx) (It.kids (bodyR c)) fp /\ Below w.heap.size w w' := by
 obtain ⟨k, fp, rfl, ho, hb⟩ := h
 obtain ⟨a, cx, rfl⟩ := ho.shape
 exact ⟨a, _, cx, fp, rfl, ho, hb⟩
theorem reply_at {W W' : World} {b : Nat} {c : Rp} {k : Value} {fp : List Nat} (h : OwnK W b 4 k (It.kids (bodyR c)) fp) (hb : b <= W.heap.size)
  (hW : W' = W.alloc (.cells #[.int .i64 48, .string ⟨#[]⟩, k, .int .i64 4, .string c.sig, .slice none 0 0] 67)) : ItAt W' 6 (.agg #[.int .i64 48, .string ⟨#[]⟩, .slice (some ⟨W.heap.size, 0, none⟩) 2 2]) (replyI c) := by
 obtain ⟨fq, hq⟩ := reply_row h hb hW
 exact ⟨_, rfl, hq.at⟩
def KRb (w W : World) (a : Array Value) : Prop := Below w.heap.size w W /\ Blk W w.heap.size 44 a
theorem KRb.below {w W W' : World} {a : Array Value} (h : KRb w W a) (hb : Below W.heap.size W W') : KRb w W' a := ⟨h.1.trans (hb.mono h.1.size), h.2.below hb h.2.lt⟩
theorem KRb.start {w W : World} {a : Array Value} (hW : W = w.alloc (Obj.cells a 44)) : KRb w W a := by rw [hW]; exact ⟨(Below.refl _ _).alloc (Nat.le_refl _) _, Blk.new w _ _⟩
theorem specReplyText_of (LI : ∀ (c : Rp) (v : Value) (w : World), wtR c <= 20000000 -> WdRp c -> RpAt w v c -> Calls Try.prog 64 #[v] w fun e w' => ToIt w 4 (bodyR c) e w') (c : Rp) (v : Value) (w : World) (hz : wtR c <= 1048576) (hw : WdRp c) (ha : RpAt w v c) : Calls Try.prog 29 #[v] w fun e w' => e = .returned (.tuple #[.string ⟨((rtxt c).getD []).toArray⟩, .bool (rtxt c).isSome]) /\ Below w.heap.size w w' := by
 obtain ⟨pv, rfl, hrv⟩ := ha
 obtain ⟨pa, pc, hpv⟩ := hrv.shape
 obtain ⟨lp, hlp⟩ := zE (c.ans.length)
 rw [hlp] at hpv
 subst hpv
 have HC : Hid (RpAt w (rpV c (.slice pa lp pc)) c /\ AtS awKd w (.slice pa lp pc) c.ans) := ⟨⟨_, rfl, hrv⟩, hrv⟩
 clear hrv hlp
 unfold rpV at HC |-
 obtain ⟨T, hT⟩ : ∃ T : ByteArray, (⟨((rtxt c).getD []).toArray⟩ : ByteArray) = T := ⟨_, rfl⟩
 obtain ⟨okT, hok⟩ := zE ((rtxt c).isSome)
 rw [hT, hok]
 have HT : Hid ((⟨((rtxt c).getD []).toArray⟩ : ByteArray) = T /\ (rtxt c).isSome = okT) := ⟨hT, hok⟩
 have HZ : Hid (wtR c <= 1048576 /\ WdRp c) := ⟨hz, hw⟩
 clear hT hz hw hok
 obtain ⟨B, hB⟩ := zE (replyOk c)
 have HB : Hid (replyOk c = B) := hB
 go_enter Try.func29, Try.ntmps29
 go_wp2_with fail
 obtain ⟨W1, hW1⟩ : ∃ W, W = w.alloc (Obj.cells #[.string c.hash, .int .i64 c.nonce, .int .i64 c.time, .int .i64 c.next, .int .i64 c.plan, .int .i64 c.err, .slice pa lp pc, .string c.sig] 44) := ⟨_, rfl⟩
 rw [<- hW1]
 have H1 : Hid (KRb w W1 #[.string c.hash, .int .i64 c.nonce, .int .i64 c.time, .int .i64 c.next, .int .i64 c.plan, .int .i64 c.err, .slice pa lp pc, .string c.sig]) := KRb.start hW1
 clear hW1
 have E1 := specReplyOk_any c _ W1 (Nat.le_trans HZ.out.1 (by decide)) (HC.out.1.below H1.out.1)
 rw [hB] at E1
 clear hB
 refine E1.mono ?_
 rintro e w2 ⟨rfl, hb2⟩
 have H2 : Hid (KRb w w2 #[.string c.hash, .int .i64 c.nonce, .int .i64 c.time, .int .i64 c.next, .int .i64 c.plan, .int .i64 c.err, .slice pa lp pc, .string c.sig]) := H1.out.below hb2
 clear E1 H1 hb2
 cases B with
 | false =>
  have HN : Hid (T = ⟨#[]⟩ /\ okT = false) := by
   have e : rtxt c = none := by unfold rtxt; rw [HB.out]; rfl
   rw [<- HT.out.1, <- HT.out.2, e]
   exact ⟨rfl, rfl⟩
  go_wp2_with fail
  go_ret2
  exact ⟨by rw [HN.out.1, HN.out.2]; rfl, H2.out.1⟩
 | true =>
  have HE : Hid (rtxt c = writeI 6 (replyI c)) := by show rtxt c = _; unfold rtxt; rw [HB.out]; rfl
  go_wp2_with fail
  refine wp_region_held_drew (S := fun W => KRb w W #[.string c.hash, .int .i64 c.nonce, .int .i64 c.time, .int .i64 c.next, .int .i64 c.plan, .int .i64 c.err, .slice pa lp pc, .string c.sig]) (by kernel_rfl) (KRb.below H2.out ((Below.refl _ _).drew)) (fun hHeld => ?_)
  clear H2
  generalize w2.drew = Wd at hHeld |-
  refine zT 0 7 ?_ rfl (by rfl) ?_ hHeld ?_
  rotate_left
  ·intro W hSw
   have c0 : W.cell? ⟨w.heap.size, 0, none⟩ = some (.string c.hash) := hSw.2.cell 0
   have c1 : W.cell? ⟨w.heap.size, 1, none⟩ = some (.int .i64 c.nonce) := hSw.2.cell 1
   have c2 : W.cell? ⟨w.heap.size, 2, none⟩ = some (.int .i64 c.time) := hSw.2.cell 2
   have c3 : W.cell? ⟨w.heap.size, 3, none⟩ = some (.int .i64 c.next) := hSw.2.cell 3
   have c4 : W.cell? ⟨w.heap.size, 4, none⟩ = some (.int .i64 c.plan) := hSw.2.cell 4
   have c5 : W.cell? ⟨w.heap.size, 5, none⟩ = some (.int .i64 c.err) := hSw.2.cell 5
   have c6 : W.cell? ⟨w.heap.size, 6, none⟩ = some (.slice pa lp pc) := hSw.2.cell 6
   have c7 : W.cell? ⟨w.heap.size, 7, none⟩ = some (.string c.sig) := hSw.2.cell 7
   go_simp
   try with_reducible rfl
  try simp only [Act.put, zA, zB, zC]
  refine zT 2 9 ?_ rfl (by rfl) ?_ hHeld ?_
  rotate_left
  ·intro W hSw
   go_simp
   try with_reducible rfl
  try simp only [Act.put, zA, zB, zC]
  refine zT 3 10 ?_ rfl (by rfl) ?_ hHeld ?_
  rotate_left
  ·intro W hSw
   have c7 : W.cell? ⟨w.heap.size, 7, none⟩ = some (.string c.sig) := hSw.2.cell 7
   go_simp
   try with_reducible rfl
  try simp only [Act.put, zA, zB, zC]
  refine wpAnyH_ready (rs := [1]) (by kernel_rfl) (by simp) ?_
  refine AllReadyH.cons (o := ⟨some 8, _, _, _, _, _⟩) rfl (fun K hK => ?_) AllReadyH.nil
  go_simp
  refine (LI c _ _ (Nat.le_trans HZ.out.1 (by decide)) HZ.out.2 (HC.out.1.below hHeld.1)).mono ?_
  intro e v1 hto
  obtain ⟨a1, l1, x1, f1, rfl, ho1, hv⟩ := to_bodyR hto
  clear hto
  have hH := KRb.below hHeld hv
  have HO : Hid (OwnK v1 w.heap.size 4 (.slice a1 l1 x1) (It.kids (bodyR c)) f1) := OwnK.base hHeld.1.size ho1
  clear ho1
  go_wp2_with fail
  refine hK.out _ _ hH (fun hHeld => ?_)
  clear hK K hH hv
  try simp only [Act.put, zA, zB, zC]
  refine wpAnyH_ready (rs := [4]) (by kernel_rfl) (by simp) ?_
  refine AllReadyH.cons (o := ⟨some 11, _, _, _, _, _⟩) rfl (fun K hK => ?_) AllReadyH.nil
  go_simp
  refine (bytes_any c.sig _).mono ?_
  rintro e v2 ⟨rfl, hv⟩
  have hH := KRb.below hHeld hv
  have HO2 : Hid (OwnK v2 w.heap.size 4 (.slice a1 l1 x1) (It.kids (bodyR c)) f1) := HO.out.below hv (fun b hm => (OwnK.lt HO.out b hm).2)
  clear HO
  go_wp2_with fail
  refine hK.out _ _ hH (fun hHeld => ?_)
  clear hK K hH hv
  try simp only [Act.put, zA, zB, zC]
  refine wpAnyH_ready (rs := [5]) (by kernel_rfl) (by simp) ?_
  refine AllReadyH.cons (o := ⟨some 12, _, _, _, _, _⟩) rfl (fun K hK => ?_) AllReadyH.nil
  obtain ⟨W3, hW3⟩ : ∃ W, W = v2.alloc (Obj.cells #[.int .i64 48, .string ⟨#[]⟩, .slice a1 l1 x1, .int .i64 4, .string c.sig, .slice none 0 0] 67) := ⟨_, rfl⟩
  have HI : Hid (ItAt W3 6 (.agg #[.int .i64 48, .string ⟨#[]⟩, .slice (some ⟨v2.heap.size, 0, none⟩) 2 2]) (replyI c)) := reply_at HO2.out hHeld.1.size hW3
  have hH : KRb w W3 #[.string c.hash, .int .i64 c.nonce, .int .i64 c.time, .int .i64 c.next, .int .i64 c.plan, .int .i64 c.err, .slice pa lp pc, .string c.sig] := KRb.below hHeld (by rw [hW3]; exact (Below.refl _ _).alloc (Nat.le_refl _) _)
  go_simp
  rw [<- hW3]
  refine hK.out _ _ hH (fun hHeld => ?_)
  clear hK K hH hW3 HO2
  try simp only [Act.put, zA, zB, zC]
  refine zT 6 13 ?_ rfl (by rfl) ?_ hHeld ?_
  rotate_left
  ·intro W hSw
   go_simp
   try with_reducible rfl
  try simp only [Act.put, zA, zB, zC]
  refine wpAnyH_ready (rs := [7]) (by kernel_rfl) (by simp) ?_
  refine AllReadyH.cons (o := ⟨some 14, _, _, _, _, _⟩) rfl (fun K hK => ?_) AllReadyH.nil
  have E7 := specItemText_any 6 (replyI c) _ W3 HI.out (sz_replyI HZ.out.1)
  rw [<- HE.out, HT.out.1, HT.out.2] at E7
  go_simp
  refine E7.mono ?_
  rintro e v4 ⟨rfl, hv⟩
  have hH := KRb.below hHeld hv
  clear E7
  go_wp2_with fail
  refine hK.out _ _ hH (fun hHeld => ?_)
  clear hK K hH hv
  try simp only [Act.put, zA, zB, zC]
  refine zT 8 15 ?_ rfl (by rfl) ?_ hHeld ?_
  rotate_left
  ·intro W hSw
   go_simp
   try with_reducible rfl
  try simp only [Act.put, zA, zB, zC]
  refine zT 9 16 ?_ rfl (by rfl) ?_ hHeld ?_
  rotate_left
  ·intro W hSw
   go_simp
   try with_reducible rfl
  try simp only [Act.put, zA, zB, zC]
  refine zT 10 2 ?_ rfl (by rfl) ?_ hHeld ?_
  rotate_left
  ·intro W hSw
   go_simp
   try with_reducible rfl
  try simp only [Act.put, zA, zB, zC]
  refine zT 11 3 ?_ rfl (by rfl) ?_ hHeld ?_
  rotate_left
  ·intro W hSw
   go_simp
   try with_reducible rfl
  try simp only [Act.put, zA, zB, zC]
  refine wpAnyH_done (by kernel_rfl) ?_ _
  have HEND : Hid (Below w.heap.size w _) := hHeld.1
  clear hHeld
  go_wp2_with fail
  go_ret2
  exact ⟨rfl, HEND.out⟩
end Go.Proofs.Ytbiiihjohbnodaa
