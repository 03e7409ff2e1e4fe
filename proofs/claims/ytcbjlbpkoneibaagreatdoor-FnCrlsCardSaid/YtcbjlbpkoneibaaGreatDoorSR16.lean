/-
  Texts of the proof.
-/
import Derived.Test.YtcbjlbpkoneibaaGreatDoorSR13
import Derived.Test.YtcbjlbpkoneibaaGreatDoorSR14
import Derived.Test.YtcbjlbpkoneibaaGreatDoorSR15
set_option linter.unusedVariables false
set_option linter.unusedSimpArgs false
set_option maxRecDepth 100000
set_option maxHeartbeats 25600000
namespace Go.Proofs.YtcbjlbpkoneibaaGreatDoor
open Go.RowKit Der
theorem body_flag (s : ByteArray) (w : World) : Calls Tryz.prog 206 #[zG s] w fun e w' => e = .returned (zG s) /\ zW w w' := by
 go_enter Tryz.func206, Tryz.ntmps206;go_wp2_with fail;go_ret;exact ⟨rfl, Below.refl _ _⟩
theorem body_integer (s : ByteArray) (w : World) : Calls Tryz.prog 207 #[zG s] w fun e w' => e = .returned (zG s) /\ zW w w' := by
 go_enter Tryz.func207, Tryz.ntmps207;go_wp2_with fail;go_ret;exact ⟨rfl, Below.refl _ _⟩
theorem body_octets (s : ByteArray) (w : World) : Calls Tryz.prog 208 #[zG s] w fun e w' => e = .returned (zG s) /\ zW w w' := by
 go_enter Tryz.func208, Tryz.ntmps208;go_wp2_with fail;go_ret;exact ⟨rfl, Below.refl _ _⟩
theorem body_plain (s : ByteArray) (w : World) : Calls Tryz.prog 209 #[zG s] w fun e w' => e = .returned (zG s) /\ zW w w' := by
 go_enter Tryz.func209, Tryz.ntmps209;go_wp2_with fail;go_ret;exact ⟨rfl, Below.refl _ _⟩
def TxPost (t : Int) (B : List UInt8 -> Prop) (w : World) (e : Ending) (w' : World) : Prop := ∃ r : List UInt8, e = .returned (zG ⟨(UInt8.ofNat (t % 256).toNat :: (lenB r.length ++ r)).toArray⟩) /\ B r /\ zW w w'
theorem textOf_flag (t : Int) (s : List UInt8) (ax : Option Addr) (l cx : Nat) (w : World) (hl : l <= 20000000) (hs : s.length <= 20000000) (hF : formV t s (zS ax l cx) l = .iface 157 (zG ⟨s.toArray⟩)) (B : List UInt8 -> Prop)
  (EB : ∀ w3, zW w w3 -> Calls Tryz.prog 206 #[zG ⟨s.toArray⟩] w3 fun e w' => ∃ r : List UInt8, e = .returned (zG ⟨r.toArray⟩) /\ B r /\ r.length <= 400000000 /\ zW w3 w') :
  Calls Tryz.prog 61 #[.agg #[zI t, zG ⟨s.toArray⟩, zS ax l cx]] w fun e w' => TxPost t B w e w' := by
 obtain ⟨W2, hW2⟩ : ∃ W, W = w.alloc (Obj.cells #[Value.int IntKind.i64 t, Value.string { data := s.toArray }, Value.slice ax l cx] 50) := ⟨_, rfl⟩;have E := formOf_any t s ax l cx W2 hl hs;rw [hF] at E;have HW := one_laid w (zI t) (zG ⟨s.toArray⟩) (zS ax l cx) 50 W2 hW2;have H2 := zH (zJ HW.1 (zJ HW.2.1 HW.2.2.1));have HEB : Hid (∀ w3, zW w w3 -> Calls Tryz.prog 206 #[zG ⟨s.toArray⟩] w3 fun e w' => ∃ r : List UInt8, e = .returned (zG ⟨r.toArray⟩) /\ B r /\ r.length <= 400000000 /\ zW w3 w') := EB;clear HW hF EB;go_enter Tryz.func61, Tryz.ntmps61;go_wp2_with fail;rw [<- hW2];clear hW2;refine E.mono ?_;rintro e w3 ⟨rfl, hb3⟩;have H3 := zH (zJ (H2.1.trans (hb3.mono H2.1.size)) (zJ (Nat.lt_of_lt_of_le H2.2.1 hb3.size) ((hb3.cell (p := ⟨w.heap.size, 0, none⟩) H2.2.1).trans H2.2.2 : w3.cell? ⟨w.heap.size, 0, none⟩ = some (zI t))));clear E H2 hb3;go_wp2_with fail;refine (HEB.out w3 H3.1).mono ?_;rintro e w4 ⟨r, rfl, hBr, hrl, hb4⟩;have H4 := zH (zJ (H3.1.trans (hb4.mono H3.1.size)) (zJ (Nat.lt_of_lt_of_le H3.2.1 hb4.size) (hBr : B r)));have cT : w4.cell? ⟨w.heap.size, 0, none⟩ = some (zI t) := (hb4.cell (p := ⟨w.heap.size, 0, none⟩) H3.2.1).trans H3.2.2;clear H3 hb4 hBr HEB;have hwt : IntKind.u8.wrap t = t % 256 := by rw [IntKind.wrap_u8]
 obtain ⟨x, hx⟩ : ∃ x : Int, t % 256 = x := ⟨_, rfl⟩;obtain ⟨b, hb⟩ := zE (UInt8.ofNat (t % 256).toNat);have hxb : x = (b.toNat : Int) := by rw [<- hb, UInt8.toNat_ofNat', <- hx]; omega
 rw [hx] at hwt;have hcv := conv_at x b hxb;have hssz : (⟨r.toArray⟩ : ByteArray).size = r.length := by show r.toArray.size = _; simp
 have EL := fun W => lengthText_any r.length W (by omega)
 obtain ⟨L, hL⟩ : ∃ L : ByteArray, (⟨(lenB r.length).toArray⟩ : ByteArray) = L := ⟨_, rfl⟩;rw [hL] at EL;have HR : Hid ((⟨(UInt8.ofNat (t % 256).toNat :: (lenB r.length ++ r)).toArray⟩ : ByteArray) = ⟨#[b]⟩ ++ L ++ ⟨r.toArray⟩ /\ L.size <= 10) := by
  refine ⟨?_, ?_⟩
  ·rw [hb, <- hL]
   apply ByteArray.ext;simp
  ·rw [<- hL]; show ((lenB r.length).toArray).size <= 10; have := beN_short9 r.length; simpa using this
 have ra := fun W => run_string_add_sum (P := Tryz.prog) W ⟨#[b]⟩ L (by show 1 + L.size <= _; have := HR.2; omega)
 have rb := fun W => run_string_add_sum (P := Tryz.prog) W (⟨#[b]⟩ ++ L) ⟨r.toArray⟩ (by rw [ByteArray.size_append, hssz]; show 1 + L.size + r.length <= _; have := HR.2; omega)
 have hlt2 := H4.2.1;have hne2 := Nat.ne_of_lt hlt2;have HWR : Hid (zW w w4) := H4.1;clear hL hb hx hxb;go_wp2_with fail
 go_region_with (go_at_call 108; refine (EL _).mono ?_; rintro e w5 ⟨rfl, hb5⟩; have cT5 : w5.cell? ⟨w.heap.size, 0, none⟩ = some (zI t) := (hb5.cell (p := ⟨w.heap.size, 0, none⟩) (by first | exact hlt2 | (simp; omega))).trans (by first | exact cT | go_keep); have hcar := fun (p : Addr) (h : p.block < _) => hb5.cell (p := p) h; have hB3 := below_via hb5 (by first | exact HWR.out.drew | exact (HWR.out.drew.alloc HWR.out.drew.size _).drew | exact HWR.out.drew.alloc HWR.out.drew.size _ | exact HWR.out); clear hb5)
 all_goals (
  go_wp2_with fail;go_ret;exact ⟨r, by rw [HR.1]; rfl, H4.2.2, by first | exact hB3 | exact hB3.drew | exact hB3.alloc hB3.size _ | exact hB3.drew.alloc hB3.size _ | exact (hB3.alloc hB3.size _).drew | exact (hB3.drew.alloc hB3.size _).drew⟩)
theorem textOf_integer (t : Int) (s : List UInt8) (ax : Option Addr) (l cx : Nat) (w : World) (hl : l <= 20000000) (hs : s.length <= 20000000) (hF : formV t s (zS ax l cx) l = .iface 158 (zG ⟨s.toArray⟩)) (B : List UInt8 -> Prop)
  (EB : ∀ w3, zW w w3 -> Calls Tryz.prog 207 #[zG ⟨s.toArray⟩] w3 fun e w' => ∃ r : List UInt8, e = .returned (zG ⟨r.toArray⟩) /\ B r /\ r.length <= 400000000 /\ zW w3 w') :
  Calls Tryz.prog 61 #[.agg #[zI t, zG ⟨s.toArray⟩, zS ax l cx]] w fun e w' => TxPost t B w e w' := by
 obtain ⟨W2, hW2⟩ : ∃ W, W = w.alloc (Obj.cells #[Value.int IntKind.i64 t, Value.string { data := s.toArray }, Value.slice ax l cx] 50) := ⟨_, rfl⟩;have E := formOf_any t s ax l cx W2 hl hs;rw [hF] at E;have HW := one_laid w (zI t) (zG ⟨s.toArray⟩) (zS ax l cx) 50 W2 hW2;have H2 := zH (zJ HW.1 (zJ HW.2.1 HW.2.2.1));have HEB : Hid (∀ w3, zW w w3 -> Calls Tryz.prog 207 #[zG ⟨s.toArray⟩] w3 fun e w' => ∃ r : List UInt8, e = .returned (zG ⟨r.toArray⟩) /\ B r /\ r.length <= 400000000 /\ zW w3 w') := EB;clear HW hF EB;go_enter Tryz.func61, Tryz.ntmps61;go_wp2_with fail;rw [<- hW2];clear hW2;refine E.mono ?_;rintro e w3 ⟨rfl, hb3⟩;have H3 := zH (zJ (H2.1.trans (hb3.mono H2.1.size)) (zJ (Nat.lt_of_lt_of_le H2.2.1 hb3.size) ((hb3.cell (p := ⟨w.heap.size, 0, none⟩) H2.2.1).trans H2.2.2 : w3.cell? ⟨w.heap.size, 0, none⟩ = some (zI t))));clear E H2 hb3;go_wp2_with fail;refine (HEB.out w3 H3.1).mono ?_;rintro e w4 ⟨r, rfl, hBr, hrl, hb4⟩;have H4 := zH (zJ (H3.1.trans (hb4.mono H3.1.size)) (zJ (Nat.lt_of_lt_of_le H3.2.1 hb4.size) (hBr : B r)));have cT : w4.cell? ⟨w.heap.size, 0, none⟩ = some (zI t) := (hb4.cell (p := ⟨w.heap.size, 0, none⟩) H3.2.1).trans H3.2.2;clear H3 hb4 hBr HEB;have hwt : IntKind.u8.wrap t = t % 256 := by rw [IntKind.wrap_u8]
 obtain ⟨x, hx⟩ : ∃ x : Int, t % 256 = x := ⟨_, rfl⟩;obtain ⟨b, hb⟩ := zE (UInt8.ofNat (t % 256).toNat);have hxb : x = (b.toNat : Int) := by rw [<- hb, UInt8.toNat_ofNat', <- hx]; omega
 rw [hx] at hwt;have hcv := conv_at x b hxb;have hssz : (⟨r.toArray⟩ : ByteArray).size = r.length := by show r.toArray.size = _; simp
 have EL := fun W => lengthText_any r.length W (by omega)
 obtain ⟨L, hL⟩ : ∃ L : ByteArray, (⟨(lenB r.length).toArray⟩ : ByteArray) = L := ⟨_, rfl⟩;rw [hL] at EL;have HR : Hid ((⟨(UInt8.ofNat (t % 256).toNat :: (lenB r.length ++ r)).toArray⟩ : ByteArray) = ⟨#[b]⟩ ++ L ++ ⟨r.toArray⟩ /\ L.size <= 10) := by
  refine ⟨?_, ?_⟩
  ·rw [hb, <- hL]
   apply ByteArray.ext;simp
  ·rw [<- hL]; show ((lenB r.length).toArray).size <= 10; have := beN_short9 r.length; simpa using this
 have ra := fun W => run_string_add_sum (P := Tryz.prog) W ⟨#[b]⟩ L (by show 1 + L.size <= _; have := HR.2; omega)
 have rb := fun W => run_string_add_sum (P := Tryz.prog) W (⟨#[b]⟩ ++ L) ⟨r.toArray⟩ (by rw [ByteArray.size_append, hssz]; show 1 + L.size + r.length <= _; have := HR.2; omega)
 have hlt2 := H4.2.1;have hne2 := Nat.ne_of_lt hlt2;have HWR : Hid (zW w w4) := H4.1;clear hL hb hx hxb;go_wp2_with fail
 go_region_with (go_at_call 108; refine (EL _).mono ?_; rintro e w5 ⟨rfl, hb5⟩; have cT5 : w5.cell? ⟨w.heap.size, 0, none⟩ = some (zI t) := (hb5.cell (p := ⟨w.heap.size, 0, none⟩) (by first | exact hlt2 | (simp; omega))).trans (by first | exact cT | go_keep); have hcar := fun (p : Addr) (h : p.block < _) => hb5.cell (p := p) h; have hB3 := below_via hb5 (by first | exact HWR.out.drew | exact (HWR.out.drew.alloc HWR.out.drew.size _).drew | exact HWR.out.drew.alloc HWR.out.drew.size _ | exact HWR.out); clear hb5)
 all_goals (
  go_wp2_with fail;go_ret;exact ⟨r, by rw [HR.1]; rfl, H4.2.2, by first | exact hB3 | exact hB3.drew | exact hB3.alloc hB3.size _ | exact hB3.drew.alloc hB3.size _ | exact (hB3.alloc hB3.size _).drew | exact (hB3.drew.alloc hB3.size _).drew⟩)
theorem textOf_octets (t : Int) (s : List UInt8) (ax : Option Addr) (l cx : Nat) (w : World) (hl : l <= 20000000) (hs : s.length <= 20000000) (hF : formV t s (zS ax l cx) l = .iface 159 (zG ⟨s.toArray⟩)) (B : List UInt8 -> Prop)
  (EB : ∀ w3, zW w w3 -> Calls Tryz.prog 208 #[zG ⟨s.toArray⟩] w3 fun e w' => ∃ r : List UInt8, e = .returned (zG ⟨r.toArray⟩) /\ B r /\ r.length <= 400000000 /\ zW w3 w') :
  Calls Tryz.prog 61 #[.agg #[zI t, zG ⟨s.toArray⟩, zS ax l cx]] w fun e w' => TxPost t B w e w' := by
 obtain ⟨W2, hW2⟩ : ∃ W, W = w.alloc (Obj.cells #[Value.int IntKind.i64 t, Value.string { data := s.toArray }, Value.slice ax l cx] 50) := ⟨_, rfl⟩;have E := formOf_any t s ax l cx W2 hl hs;rw [hF] at E;have HW := one_laid w (zI t) (zG ⟨s.toArray⟩) (zS ax l cx) 50 W2 hW2;have H2 := zH (zJ HW.1 (zJ HW.2.1 HW.2.2.1));have HEB : Hid (∀ w3, zW w w3 -> Calls Tryz.prog 208 #[zG ⟨s.toArray⟩] w3 fun e w' => ∃ r : List UInt8, e = .returned (zG ⟨r.toArray⟩) /\ B r /\ r.length <= 400000000 /\ zW w3 w') := EB;clear HW hF EB;go_enter Tryz.func61, Tryz.ntmps61;go_wp2_with fail;rw [<- hW2];clear hW2;refine E.mono ?_;rintro e w3 ⟨rfl, hb3⟩;have H3 := zH (zJ (H2.1.trans (hb3.mono H2.1.size)) (zJ (Nat.lt_of_lt_of_le H2.2.1 hb3.size) ((hb3.cell (p := ⟨w.heap.size, 0, none⟩) H2.2.1).trans H2.2.2 : w3.cell? ⟨w.heap.size, 0, none⟩ = some (zI t))));clear E H2 hb3;go_wp2_with fail;refine (HEB.out w3 H3.1).mono ?_;rintro e w4 ⟨r, rfl, hBr, hrl, hb4⟩;have H4 := zH (zJ (H3.1.trans (hb4.mono H3.1.size)) (zJ (Nat.lt_of_lt_of_le H3.2.1 hb4.size) (hBr : B r)));have cT : w4.cell? ⟨w.heap.size, 0, none⟩ = some (zI t) := (hb4.cell (p := ⟨w.heap.size, 0, none⟩) H3.2.1).trans H3.2.2;clear H3 hb4 hBr HEB;have hwt : IntKind.u8.wrap t = t % 256 := by rw [IntKind.wrap_u8]
 obtain ⟨x, hx⟩ : ∃ x : Int, t % 256 = x := ⟨_, rfl⟩;obtain ⟨b, hb⟩ := zE (UInt8.ofNat (t % 256).toNat);have hxb : x = (b.toNat : Int) := by rw [<- hb, UInt8.toNat_ofNat', <- hx]; omega
 rw [hx] at hwt;have hcv := conv_at x b hxb;have hssz : (⟨r.toArray⟩ : ByteArray).size = r.length := by show r.toArray.size = _; simp
 have EL := fun W => lengthText_any r.length W (by omega)
 obtain ⟨L, hL⟩ : ∃ L : ByteArray, (⟨(lenB r.length).toArray⟩ : ByteArray) = L := ⟨_, rfl⟩;rw [hL] at EL;have HR : Hid ((⟨(UInt8.ofNat (t % 256).toNat :: (lenB r.length ++ r)).toArray⟩ : ByteArray) = ⟨#[b]⟩ ++ L ++ ⟨r.toArray⟩ /\ L.size <= 10) := by
  refine ⟨?_, ?_⟩
  ·rw [hb, <- hL]
   apply ByteArray.ext;simp
  ·rw [<- hL]; show ((lenB r.length).toArray).size <= 10; have := beN_short9 r.length; simpa using this
 have ra := fun W => run_string_add_sum (P := Tryz.prog) W ⟨#[b]⟩ L (by show 1 + L.size <= _; have := HR.2; omega)
 have rb := fun W => run_string_add_sum (P := Tryz.prog) W (⟨#[b]⟩ ++ L) ⟨r.toArray⟩ (by rw [ByteArray.size_append, hssz]; show 1 + L.size + r.length <= _; have := HR.2; omega)
 have hlt2 := H4.2.1;have hne2 := Nat.ne_of_lt hlt2;have HWR : Hid (zW w w4) := H4.1;clear hL hb hx hxb;go_wp2_with fail
 go_region_with (go_at_call 108; refine (EL _).mono ?_; rintro e w5 ⟨rfl, hb5⟩; have cT5 : w5.cell? ⟨w.heap.size, 0, none⟩ = some (zI t) := (hb5.cell (p := ⟨w.heap.size, 0, none⟩) (by first | exact hlt2 | (simp; omega))).trans (by first | exact cT | go_keep); have hcar := fun (p : Addr) (h : p.block < _) => hb5.cell (p := p) h; have hB3 := below_via hb5 (by first | exact HWR.out.drew | exact (HWR.out.drew.alloc HWR.out.drew.size _).drew | exact HWR.out.drew.alloc HWR.out.drew.size _ | exact HWR.out); clear hb5)
 all_goals (
  go_wp2_with fail;go_ret;exact ⟨r, by rw [HR.1]; rfl, H4.2.2, by first | exact hB3 | exact hB3.drew | exact hB3.alloc hB3.size _ | exact hB3.drew.alloc hB3.size _ | exact (hB3.alloc hB3.size _).drew | exact (hB3.drew.alloc hB3.size _).drew⟩)
theorem textOf_plain (t : Int) (s : List UInt8) (ax : Option Addr) (l cx : Nat) (w : World) (hl : l <= 20000000) (hs : s.length <= 20000000) (hF : formV t s (zS ax l cx) l = .iface 160 (zG ⟨s.toArray⟩)) (B : List UInt8 -> Prop)
  (EB : ∀ w3, zW w w3 -> Calls Tryz.prog 209 #[zG ⟨s.toArray⟩] w3 fun e w' => ∃ r : List UInt8, e = .returned (zG ⟨r.toArray⟩) /\ B r /\ r.length <= 400000000 /\ zW w3 w') :
  Calls Tryz.prog 61 #[.agg #[zI t, zG ⟨s.toArray⟩, zS ax l cx]] w fun e w' => TxPost t B w e w' := by
 obtain ⟨W2, hW2⟩ : ∃ W, W = w.alloc (Obj.cells #[Value.int IntKind.i64 t, Value.string { data := s.toArray }, Value.slice ax l cx] 50) := ⟨_, rfl⟩;have E := formOf_any t s ax l cx W2 hl hs;rw [hF] at E;have HW := one_laid w (zI t) (zG ⟨s.toArray⟩) (zS ax l cx) 50 W2 hW2;have H2 := zH (zJ HW.1 (zJ HW.2.1 HW.2.2.1));have HEB : Hid (∀ w3, zW w w3 -> Calls Tryz.prog 209 #[zG ⟨s.toArray⟩] w3 fun e w' => ∃ r : List UInt8, e = .returned (zG ⟨r.toArray⟩) /\ B r /\ r.length <= 400000000 /\ zW w3 w') := EB;clear HW hF EB;go_enter Tryz.func61, Tryz.ntmps61;go_wp2_with fail;rw [<- hW2];clear hW2;refine E.mono ?_;rintro e w3 ⟨rfl, hb3⟩;have H3 := zH (zJ (H2.1.trans (hb3.mono H2.1.size)) (zJ (Nat.lt_of_lt_of_le H2.2.1 hb3.size) ((hb3.cell (p := ⟨w.heap.size, 0, none⟩) H2.2.1).trans H2.2.2 : w3.cell? ⟨w.heap.size, 0, none⟩ = some (zI t))));clear E H2 hb3;go_wp2_with fail;refine (HEB.out w3 H3.1).mono ?_;rintro e w4 ⟨r, rfl, hBr, hrl, hb4⟩;have H4 := zH (zJ (H3.1.trans (hb4.mono H3.1.size)) (zJ (Nat.lt_of_lt_of_le H3.2.1 hb4.size) (hBr : B r)));have cT : w4.cell? ⟨w.heap.size, 0, none⟩ = some (zI t) := (hb4.cell (p := ⟨w.heap.size, 0, none⟩) H3.2.1).trans H3.2.2;clear H3 hb4 hBr HEB;have hwt : IntKind.u8.wrap t = t % 256 := by rw [IntKind.wrap_u8]
 obtain ⟨x, hx⟩ : ∃ x : Int, t % 256 = x := ⟨_, rfl⟩;obtain ⟨b, hb⟩ := zE (UInt8.ofNat (t % 256).toNat);have hxb : x = (b.toNat : Int) := by rw [<- hb, UInt8.toNat_ofNat', <- hx]; omega
 rw [hx] at hwt;have hcv := conv_at x b hxb;have hssz : (⟨r.toArray⟩ : ByteArray).size = r.length := by show r.toArray.size = _; simp
 have EL := fun W => lengthText_any r.length W (by omega)
 obtain ⟨L, hL⟩ : ∃ L : ByteArray, (⟨(lenB r.length).toArray⟩ : ByteArray) = L := ⟨_, rfl⟩;rw [hL] at EL;have HR : Hid ((⟨(UInt8.ofNat (t % 256).toNat :: (lenB r.length ++ r)).toArray⟩ : ByteArray) = ⟨#[b]⟩ ++ L ++ ⟨r.toArray⟩ /\ L.size <= 10) := by
  refine ⟨?_, ?_⟩
  ·rw [hb, <- hL]
   apply ByteArray.ext;simp
  ·rw [<- hL]; show ((lenB r.length).toArray).size <= 10; have := beN_short9 r.length; simpa using this
 have ra := fun W => run_string_add_sum (P := Tryz.prog) W ⟨#[b]⟩ L (by show 1 + L.size <= _; have := HR.2; omega)
 have rb := fun W => run_string_add_sum (P := Tryz.prog) W (⟨#[b]⟩ ++ L) ⟨r.toArray⟩ (by rw [ByteArray.size_append, hssz]; show 1 + L.size + r.length <= _; have := HR.2; omega)
 have hlt2 := H4.2.1;have hne2 := Nat.ne_of_lt hlt2;have HWR : Hid (zW w w4) := H4.1;clear hL hb hx hxb;go_wp2_with fail
 go_region_with (go_at_call 108; refine (EL _).mono ?_; rintro e w5 ⟨rfl, hb5⟩; have cT5 : w5.cell? ⟨w.heap.size, 0, none⟩ = some (zI t) := (hb5.cell (p := ⟨w.heap.size, 0, none⟩) (by first | exact hlt2 | (simp; omega))).trans (by first | exact cT | go_keep); have hcar := fun (p : Addr) (h : p.block < _) => hb5.cell (p := p) h; have hB3 := below_via hb5 (by first | exact HWR.out.drew | exact (HWR.out.drew.alloc HWR.out.drew.size _).drew | exact HWR.out.drew.alloc HWR.out.drew.size _ | exact HWR.out); clear hb5)
 all_goals (
  go_wp2_with fail;go_ret;exact ⟨r, by rw [HR.1]; rfl, H4.2.2, by first | exact hB3 | exact hB3.drew | exact hB3.alloc hB3.size _ | exact hB3.drew.alloc hB3.size _ | exact (hB3.alloc hB3.size _).drew | exact (hB3.drew.alloc hB3.size _).drew⟩)
theorem textOf_row (t : Int) (s : List UInt8) (ax : Option Addr) (l cx : Nat) (w : World) (hl : l <= 20000000) (hs : s.length <= 20000000) (hF : formV t s (zS ax l cx) l = .iface 161 (zS ax l cx)) (B : List UInt8 -> Prop)
  (EB : ∀ w3, zW w w3 -> Calls Tryz.prog 210 #[zS ax l cx] w3 fun e w' => ∃ r : List UInt8, e = .returned (zG ⟨r.toArray⟩) /\ B r /\ r.length <= 400000000 /\ zW w3 w') :
  Calls Tryz.prog 61 #[.agg #[zI t, zG ⟨s.toArray⟩, zS ax l cx]] w fun e w' => TxPost t B w e w' := by
 obtain ⟨W2, hW2⟩ : ∃ W, W = w.alloc (Obj.cells #[Value.int IntKind.i64 t, Value.string { data := s.toArray }, Value.slice ax l cx] 50) := ⟨_, rfl⟩;have E := formOf_any t s ax l cx W2 hl hs;rw [hF] at E;have HW := one_laid w (zI t) (zG ⟨s.toArray⟩) (zS ax l cx) 50 W2 hW2;have H2 := zH (zJ HW.1 (zJ HW.2.1 HW.2.2.1));have HEB : Hid (∀ w3, zW w w3 -> Calls Tryz.prog 210 #[zS ax l cx] w3 fun e w' => ∃ r : List UInt8, e = .returned (zG ⟨r.toArray⟩) /\ B r /\ r.length <= 400000000 /\ zW w3 w') := EB;clear HW hF EB;go_enter Tryz.func61, Tryz.ntmps61;go_wp2_with fail;rw [<- hW2];clear hW2;refine E.mono ?_;rintro e w3 ⟨rfl, hb3⟩;have H3 := zH (zJ (H2.1.trans (hb3.mono H2.1.size)) (zJ (Nat.lt_of_lt_of_le H2.2.1 hb3.size) ((hb3.cell (p := ⟨w.heap.size, 0, none⟩) H2.2.1).trans H2.2.2 : w3.cell? ⟨w.heap.size, 0, none⟩ = some (zI t))));clear E H2 hb3;go_wp2_with fail;refine (HEB.out w3 H3.1).mono ?_;rintro e w4 ⟨r, rfl, hBr, hrl, hb4⟩;have H4 := zH (zJ (H3.1.trans (hb4.mono H3.1.size)) (zJ (Nat.lt_of_lt_of_le H3.2.1 hb4.size) (hBr : B r)));have cT : w4.cell? ⟨w.heap.size, 0, none⟩ = some (zI t) := (hb4.cell (p := ⟨w.heap.size, 0, none⟩) H3.2.1).trans H3.2.2;clear H3 hb4 hBr HEB;have hwt : IntKind.u8.wrap t = t % 256 := by rw [IntKind.wrap_u8]
 obtain ⟨x, hx⟩ : ∃ x : Int, t % 256 = x := ⟨_, rfl⟩;obtain ⟨b, hb⟩ := zE (UInt8.ofNat (t % 256).toNat);have hxb : x = (b.toNat : Int) := by rw [<- hb, UInt8.toNat_ofNat', <- hx]; omega
 rw [hx] at hwt;have hcv := conv_at x b hxb;have hssz : (⟨r.toArray⟩ : ByteArray).size = r.length := by show r.toArray.size = _; simp
 have EL := fun W => lengthText_any r.length W (by omega)
 obtain ⟨L, hL⟩ : ∃ L : ByteArray, (⟨(lenB r.length).toArray⟩ : ByteArray) = L := ⟨_, rfl⟩;rw [hL] at EL;have HR : Hid ((⟨(UInt8.ofNat (t % 256).toNat :: (lenB r.length ++ r)).toArray⟩ : ByteArray) = ⟨#[b]⟩ ++ L ++ ⟨r.toArray⟩ /\ L.size <= 10) := by
  refine ⟨?_, ?_⟩
  ·rw [hb, <- hL]
   apply ByteArray.ext;simp
  ·rw [<- hL]; show ((lenB r.length).toArray).size <= 10; have := beN_short9 r.length; simpa using this
 have ra := fun W => run_string_add_sum (P := Tryz.prog) W ⟨#[b]⟩ L (by show 1 + L.size <= _; have := HR.2; omega)
 have rb := fun W => run_string_add_sum (P := Tryz.prog) W (⟨#[b]⟩ ++ L) ⟨r.toArray⟩ (by rw [ByteArray.size_append, hssz]; show 1 + L.size + r.length <= _; have := HR.2; omega)
 have hlt2 := H4.2.1;have hne2 := Nat.ne_of_lt hlt2;have HWR : Hid (zW w w4) := H4.1;clear hL hb hx hxb;go_wp2_with fail
 go_region_with (go_at_call 108; refine (EL _).mono ?_; rintro e w5 ⟨rfl, hb5⟩; have cT5 : w5.cell? ⟨w.heap.size, 0, none⟩ = some (zI t) := (hb5.cell (p := ⟨w.heap.size, 0, none⟩) (by first | exact hlt2 | (simp; omega))).trans (by first | exact cT | go_keep); have hcar := fun (p : Addr) (h : p.block < _) => hb5.cell (p := p) h; have hB3 := below_via hb5 (by first | exact HWR.out.drew | exact (HWR.out.drew.alloc HWR.out.drew.size _).drew | exact HWR.out.drew.alloc HWR.out.drew.size _ | exact HWR.out); clear hb5)
 all_goals (
  go_wp2_with fail;go_ret;exact ⟨r, by rw [HR.1]; rfl, H4.2.2, by first | exact hB3 | exact hB3.drew | exact hB3.alloc hB3.size _ | exact hB3.drew.alloc hB3.size _ | exact (hB3.alloc hB3.size _).drew | exact (hB3.drew.alloc hB3.size _).drew⟩)
end Go.Proofs.YtcbjlbpkoneibaaGreatDoor
namespace Go.Proofs.YtcbjlbpkoneibaaGreatDoor
open Go.RowKit Der
theorem leaf_post {n : Nat} {t : Int} {s : List UInt8} {ks : List (It n)} {w w' : World} {e : Ending} (h48 : t ≠ 48) (h : TxPost t (fun r => r = s) w e w') :
  ∃ r : List UInt8, e = .returned (zG ⟨r.toArray⟩) /\ GoodT r (txtI (n + 1) (It.mk t s ks)) /\ r.length <= 11 + 12 * szI (n + 1) (It.mk t s ks) /\ zW w w' := by
 obtain ⟨r, rfl, rfl, hb⟩ := h;have e : txtI (n + 1) (It.mk t r ks) = UInt8.ofNat (t % 256).toNat :: (lenB r.length ++ r) := by
  show UInt8.ofNat (t % 256).toNat :: (lenB (if t = 48 then _ else r).length ++ (if t = 48 then _ else r)) = _;rw [if_neg h48]
 have h1 := txt_le (n + 1) (It.mk t r ks);rw [<- e];exact ⟨_, rfl, GoodT.refl _, h1, hb⟩
theorem row_post {n : Nat} {ks : List (It n)} {w w' : World} {e : Ending} (h : TxPost 48 (fun r => GoodT r ((ks.map (txtI n)).flatten) /\ r.length <= 12 * szS n ks) w e w') :
  ∃ r : List UInt8, e = .returned (zG ⟨r.toArray⟩) /\ GoodT r (txtI (n + 1) (It.mk 48 [] ks)) /\ r.length <= 11 + 12 * szI (n + 1) (It.mk 48 [] ks) /\ zW w w' := by
 obtain ⟨r, rfl, ⟨hg, hl⟩, hb⟩ := h;have e : txtI (n + 1) (It.mk 48 [] ks) = UInt8.ofNat ((48 : Int) % 256).toNat :: (lenB ((ks.map (txtI n)).flatten).length ++ (ks.map (txtI n)).flatten) := rfl;refine ⟨_, rfl, ?_, ?_, hb⟩
 ·rw [e]
  exact GoodT.whole (b := []) hg
 ·have h1 := beN_short9 r.length
  have h2 : szI (n + 1) (It.mk 48 [] ks) = szS n ks := by
   show ([] : List UInt8).length + ks.length + (ks.map (szI n)).sum = ks.length + (ks.map (szI n)).sum;simp
  rw [h2];simp only [List.length_cons, List.length_append];omega
theorem txC_of (n : Nat) (HB : Hid (BdC n)) : TxC n := fun t s ks a d w hx hz hr => by
 have hsz := szI_kid hz;obtain ⟨ax, cx, rfl, hcx⟩ := id hx;rw [right_mk] at hr;by_cases h48 : t = 48
 ·subst h48
  rw [if_neg (by simp)] at hr;simp only [Bool.and_eq_true, List.all_eq_true] at hr;obtain ⟨⟨⟨hs, _⟩, _⟩, hall⟩ := hr;have hs0 := of_decide_eq_true hs;obtain rfl : s = [] := List.eq_nil_of_length_eq_zero hs0;refine (textOf_row 48 [] ax ks.length cx w hsz.2.1 hsz.1 (formV_row _ _) (fun r => GoodT r ((ks.map (txtI n)).flatten) /\ r.length <= 12 * szS n ks) fun w3 hb => ?_).mono fun e w' h => row_post h
  refine (HB.out ks _ (d + 1) w3 (hx.mono hb fun _ _ h => ItAt.below hb h) (szS_of hz) hall).mono ?_;rintro e w' ⟨r, rfl, hg, hl, hb'⟩;have := szS_of hz;exact ⟨r, rfl, ⟨hg, hl⟩, by omega, hb'⟩
 ·rw [if_pos h48, Bool.and_eq_true] at hr
  have hk0 : ks.length = 0 := of_decide_eq_true hr.1;have hp := hr.2;rw [hk0];have done : ∀ w3 : World, ∀ F : Nat, (Calls Tryz.prog F #[zG ⟨s.toArray⟩] w3 fun e w' => e = .returned (zG ⟨s.toArray⟩) /\ zW w3 w') -> Calls Tryz.prog F #[zG ⟨s.toArray⟩] w3 fun e w' => ∃ r : List UInt8, e = .returned (zG ⟨r.toArray⟩) /\ r = s /\ r.length <= 400000000 /\ zW w3 w' :=
   fun w3 F h => h.mono fun e w' ⟨h1, h2⟩ => ⟨s, h1, rfl, by omega, h2⟩
  rcases plainOk_tag hp with rfl | rfl | rfl | rfl
  ·exact (textOf_flag 1 s ax 0 cx w (by omega) hsz.1 (formV_one _ _) (fun r => r = s) fun w3 _ => done w3 _ (body_flag ⟨s.toArray⟩ w3)).mono fun e w' h => leaf_post (by decide) h
  ·exact (textOf_integer 2 s ax 0 cx w (by omega) hsz.1 (formV_two _ _) (fun r => r = s) fun w3 _ => done w3 _ (body_integer ⟨s.toArray⟩ w3)).mono fun e w' h => leaf_post (by decide) h
  ·exact (textOf_plain 12 s ax 0 cx w (by omega) hsz.1 (formV_twelve _ _) (fun r => r = s) fun w3 _ => done w3 _ (body_plain ⟨s.toArray⟩ w3)).mono fun e w' h => leaf_post (by decide) h
  ·exact (textOf_octets 4 s ax 0 cx w (by omega) hsz.1 (formV_four _ _) (fun r => r = s) fun w3 _ => done w3 _ (body_octets ⟨s.toArray⟩ w3)).mono fun e w' h => leaf_post (by decide) h
theorem bdC_any : ∀ (n : Nat), BdC n
 | 0 => bd_zero
 | n + 1 => fun ks v d w hx hz hr => bd_step n (txC_of n (bdC_any n)) ks v d w hx hz hr
theorem textOf_any (n : Nat) : TxC n := txC_of n (bdC_any n)
theorem implItemText_step (n : Nat) (t : Int) (s : List UInt8) (ks : List (It n)) (a : Value) (w : World) (hx : KidsAt w (ItAt w n) a ks) (hz : szI (n + 1) (It.mk t s ks) <= 20000000) :
  Calls Tryz.prog 26 #[.agg #[zI t, zG ⟨s.toArray⟩, a]] w fun e w' => e = .returned (.tuple #[zG ⟨((writeI (n + 1) (It.mk t s ks)).getD []).toArray⟩, .bool (writeI (n + 1) (It.mk t s ks)).isSome]) /\ zW w w' := by
 obtain ⟨ax, cx, rfl, -⟩ := id hx;obtain ⟨W2, hW2⟩ : ∃ W, W = w.alloc (Obj.cells #[Value.int IntKind.i64 t, Value.string { data := s.toArray }, Value.slice ax ks.length cx] 50) := ⟨_, rfl⟩;have HW := one_laid w (zI t) (zG ⟨s.toArray⟩) (zS ax ks.length cx) 50 W2 hW2;have E := implItemOk_any (n + 1) (It.mk t s ks) (.agg #[zI t, zG ⟨s.toArray⟩, zS ax ks.length cx]) W2 ⟨_, rfl, hx.mono HW.1 fun _ _ h => ItAt.below HW.1 h⟩ hz;have HN : Hid (writeI (n + 1) (It.mk t s ks) = if rightI (n + 1) (It.mk t s ks) 0 = true /\ (txtI (n + 1) (It.mk t s ks)).length <= 4000 then some (txtI (n + 1) (It.mk t s ks)) else none) := rfl;have HX : Hid (KidsAt w (ItAt w n) (zS ax ks.length cx) ks /\ szI (n + 1) (It.mk t s ks) <= 20000000) := ⟨hx, hz⟩;obtain ⟨l, hl⟩ := zE (ks.length);have HL : Hid (ks.length = l) := hl;have HC : Hid (zW w W2 /\ w.heap.size < W2.heap.size /\ Cells3 W2 w.heap.size 0 (zI t) (zG ⟨s.toArray⟩) (zS ax ks.length cx)) := by exact ⟨HW.1, HW.2.1, HW.2.2⟩
 rw [hl] at hW2 E HX HC |-;clear hx hz HW hl
 cases hr : rightI (n + 1) (It.mk t s ks) 0 with
 | false =>
  rw [hr] at E;have HR : Hid (writeI (n + 1) (It.mk t s ks) = none) := by
   show writeI (n + 1) (It.mk t s ks) = none;rw [HN.out, hr];simp
  clear hr;go_enter Tryz.func26, Tryz.ntmps26;go_wp2_with fail;rw [<- hW2];refine E.mono ?_;rintro e w3 ⟨rfl, hb3⟩;have H3 : Hid (zW w w3) := HC.1.trans (hb3.mono HC.1.size);clear E hb3 hW2;go_wp2_with fail
  go_ret2
  exact ⟨by rw [HR.out]; rfl, H3.out⟩
 | true =>
  rw [hr] at E;have HR : Hid (rightI (n + 1) (It.mk t s ks) 0 = true /\ writeI (n + 1) (It.mk t s ks) = if (txtI (n + 1) (It.mk t s ks)).length <= 4000 then some (txtI (n + 1) (It.mk t s ks)) else none) := by
   refine ⟨hr, ?_⟩;rw [HN.out, hr];simp
  clear hr HN;go_enter Tryz.func26, Tryz.ntmps26;go_wp2_with fail;rw [<- hW2];refine E.mono ?_;rintro e w3 ⟨rfl, hb3⟩;obtain ⟨c0, c1, c2⟩ := HC.2.2.below HC.2.1 hb3;have hbw : zW w w3 := HC.1.trans (hb3.mono HC.1.size);have ET := textOf_any n t s ks (zS ax l cx) 0 w3 (HX.1.mono hbw fun _ _ h => ItAt.below hbw h) HX.2 HR.1;have H3 : Hid (zW w w3) := hbw;clear E hb3 hW2 hbw;rw [show (0 : Nat) + 1 = 1 from rfl] at c1;rw [show (0 : Nat) + 2 = 2 from rfl] at c2;go_wp2_with fail;refine ET.mono ?_;rintro e w4 ⟨r, rfl, hg, hrl, hb4⟩;have hssz : (⟨r.toArray⟩ : ByteArray).size = r.length := by show r.toArray.size = _; simp
  have hr9 : r.length <= 1000000000 := by have := HX.2; omega
  have H4 := zH (zJ (H3.trans (hb4.mono H3.size)) (hg : GoodT r (txtI (n + 1) (It.mk t s ks))));clear ET hb4 hg hrl c0 c1 c2;by_cases hbig : 4000 < r.length
  ·have hbi : (4000 : Int) < (r.length : Int) := by omega
   have HF : Hid (writeI (n + 1) (It.mk t s ks) = none) := by
    show _ = none;rw [HR.2, if_neg];intro hle;have := H4.2.1 hle;rw [this] at hbig;omega
   go_wp2_with fail
   go_ret2
   exact ⟨by rw [HF.out]; rfl, H4.1⟩
  ·have hbi : ¬ (4000 : Int) < (r.length : Int) := by omega
   have HF : Hid (writeI (n + 1) (It.mk t s ks) = some r) := by
    show _ = some r;have hle : (txtI (n + 1) (It.mk t s ks)).length <= 4000 := by
     refine Nat.le_of_not_lt fun hlt => ?_
     exact hbig (H4.2.2 hlt)
    rw [HR.2, if_pos hle, H4.2.1 hle]
   go_wp2_with fail
   go_ret2
   exact ⟨by rw [HF.out]; rfl, H4.1⟩
theorem implItemText_any : ∀ (n : Nat) (x : It n) (v : Value) (w : World), ItAt w n v x -> szI n x <= 20000000 -> Calls Tryz.prog 26 #[v] w fun e w' => e = .returned (.tuple #[zG ⟨((writeI n x).getD []).toArray⟩, .bool (writeI n x).isSome]) /\ zW w w'
 | 0, _, _, _, h, _ => h.elim
 | n + 1, x, v, w, hx, hz => by
  obtain ⟨kx, rfl, hkx⟩ := hx;exact implItemText_step n (It.tag x) (It.text x) (It.kids x) kx w hkx hz
theorem sz_rev (p : Int × Int) : szI 2 (revI p) <= 12 := by
 have h1 : szI 1 (intI p.1) <= 5 := sz_int p.1;have h2 : szI 1 (intI p.2) <= 5 := sz_int p.2;unfold revI;rw [sz_lst];simp only [List.map_cons, List.map_nil, List.sum_cons, List.sum_nil, List.length_cons, List.length_nil];omega
theorem sz_revs : ∀ l : List (Int × Int), ((l.map revI).map (szI 2)).sum <= 12 * l.length
 | [] => Nat.le_refl _
 | x :: l => by
  have h1 := sz_revs l;have h2 := sz_rev x;simp only [List.map_cons, List.sum_cons, List.length_cons];omega
theorem sz_bodyL {c : Cl} (h : wtL c <= 1048576) : szI 4 (bodyL c) <= 16000000 := by
 obtain ⟨z1, z2, z3⟩ := wtL_parts h;have a1 : szI 3 (intI c.num) <= 5 := sz_int c.num;have a2 : szI 3 (intI c.ths) <= 5 := sz_int c.ths;have a3 : szI 3 (intI c.nxt) <= 5 := sz_int c.nxt;have a4 : szI 3 (intI c.bas) <= 5 := sz_int c.bas;have t0 : szI 3 (txtJ c.issuer) = c.issuer.size := rfl;have r := sz_revs c.revs;unfold bodyL headL;rw [sz_lst];simp only [List.cons_append, List.nil_append, List.map_cons, List.map_nil, List.sum_cons, List.sum_nil, List.length_cons, List.length_nil];rw [sz_lst];simp only [List.length_map];omega
theorem sz_crl {c : Cl} (h : wtL c <= 1048576) : szI 5 (crlI c) <= 20000000 := by
 have hb := sz_bodyL h;have hs := (wtL_parts h).2.2;have t : szI 4 (bytJ c.sig) = c.sig.size := rfl;unfold crlI;rw [sz_lst];simp only [List.map_cons, List.map_nil, List.sum_cons, List.sum_nil, List.length_cons, List.length_nil];omega
def ltxt (c : Cl) : Option (List UInt8) := if crlOk c = true then writeI 5 (crlI c) else none
theorem to_bodyL {w w' : World} {c : Cl} {e : Ending} (h : ToIt w 3 (bodyL c) e w') : ∃ (a : Option Addr) (l cx : Nat) (fp : List Nat), e = .returned (.agg #[zI 48, zG ⟨#[]⟩, zS a l cx]) /\ OwnK w' w.heap.size 3 (zS a l cx) (It.kids (bodyL c)) fp /\ zW w w' := to_any h
theorem crl_row {W W' : World} {b : Nat} {c : Cl} {k : Value} {fp : List Nat} (h : OwnK W b 3 k (It.kids (bodyL c)) fp) (hb : b <= W.heap.size)
  (hW : W' = W.alloc (.cells #[zI 48, zG ⟨#[]⟩, k, zI 4, zG c.sig, zZ] 50)) : ItAt W' 5 (.agg #[zI 48, zG ⟨#[]⟩, zS (some ⟨W.heap.size, 0, none⟩) 2 2]) (crlI c) := by
 have R : RowsK W b 3 (It.kids (crlI c)) [k, zZ] [fp, []] := ⟨h, own_none W b 3, trivial⟩;obtain ⟨fq, hq⟩ := (R.grow (W' := W') (cap := 2) hb (by have := h.nodup; simpa using this) (by show 2 <= 1000; decide) rfl (by rw [hW]; rfl)).own;exact ⟨_, rfl, hq.at⟩
def KR (w W : World) (a : Array Value) : Prop := zW w W /\ Blk W w.heap.size 26 a
theorem KR.below {w W W' : World} {a : Array Value} (h : KR w W a) (hb : zW W W') : KR w W' a := ⟨h.1.trans (hb.mono h.1.size), h.2.below hb h.2.lt⟩
theorem KR.start {w W : World} {a : Array Value} (hW : W = w.alloc (Obj.cells a 26)) : KR w W a := by rw [hW]; exact ⟨(Below.refl _ _).alloc (Nat.le_refl _) _, Blk.new w _ _⟩
theorem specCrlBody_any (c : Cl) (v : Value) (w : World) (hz : wtL c <= 1048576) (hw : WdL c) (ha : ClAt w v c) : Calls Tryz.prog 23 #[v] w fun e w' => e = .returned (zG ⟨((writeI 4 (bodyL c)).getD []).toArray⟩) /\ zW w w' := by
 obtain ⟨pv, rfl, hrv⟩ := ha;obtain ⟨pa, pc, hpv⟩ : ∃ pa pc, pv = zS pa c.revs.length pc := by obtain ⟨a, b, h, _⟩ := hrv; exact ⟨a, b, h⟩
 obtain ⟨lp, hlp⟩ := zE (c.revs.length);rw [hlp] at hpv;subst hpv;have HC : Hid (ClAt w (clV c (zS pa lp pc)) c /\ RevAt w (zS pa lp pc) c.revs) := ⟨⟨_, rfl, hrv⟩, hrv⟩;clear hrv hlp;unfold clV at HC |-;obtain ⟨T, hT⟩ : ∃ T : ByteArray, (⟨((writeI 4 (bodyL c)).getD []).toArray⟩ : ByteArray) = T := ⟨_, rfl⟩;rw [hT];have HT : Hid ((⟨((writeI 4 (bodyL c)).getD []).toArray⟩ : ByteArray) = T /\ wtL c <= 1048576 /\ WdL c) := ⟨hT, hz, hw⟩;clear hT hz hw;go_enter Tryz.func23, Tryz.ntmps23;go_wp2_with fail;obtain ⟨W1, hW1⟩ : ∃ W, W = w.alloc (Obj.cells (zCl c (zS pa lp pc)) 26) := ⟨_, rfl⟩;rw [<- hW1];have H1 : Hid (zW w W1) := by rw [hW1]; exact (Below.refl _ _).alloc (Nat.le_refl _) _
 clear hW1;refine (l10Item_any c _ W1 (Nat.le_trans HT.2.1 (by decide)) HT.2.2 (HC.1.below H1.out)).mono ?_;rintro e w2 hto;obtain ⟨a2, l2, x2, f2, rfl, ho2, hb2⟩ := to_bodyL hto;clear hto;have E2 := specItemText_any 4 (bodyL c) (.agg #[zI 48, zG ⟨#[]⟩, zS a2 l2 x2]) w2 ⟨_, rfl, ho2.at⟩ (Nat.le_trans (sz_bodyL HT.2.1) (by decide));rw [HT.1] at E2;generalize (writeI 4 (bodyL c)).isSome = okB at E2;have H2 : Hid (zW w w2) := H1.trans (hb2.mono H1.size);clear H1 ho2 hb2;go_wp2_with fail;refine E2.mono ?_;rintro e w3 ⟨rfl, hb3⟩;have H3 : Hid (zW w w3) := H2.trans (hb3.mono H2.size);clear E2 H2 hb3;go_wp2_with fail;go_ret;exact ⟨rfl, H3.out⟩
theorem specCrlText_any (c : Cl) (v : Value) (w : World) (hz : wtL c <= 1048576) (hw : WdL c) (ha : ClAt w v c) : Calls Tryz.prog 33 #[v] w fun e w' => e = .returned (.tuple #[zG ⟨((ltxt c).getD []).toArray⟩, .bool (ltxt c).isSome]) /\ zW w w' := by
 obtain ⟨pv, rfl, hrv⟩ := ha;obtain ⟨pa, pc, hpv⟩ : ∃ pa pc, pv = zS pa c.revs.length pc := by obtain ⟨a, b, h, _⟩ := hrv; exact ⟨a, b, h⟩
 obtain ⟨lp, hlp⟩ := zE (c.revs.length);rw [hlp] at hpv;subst hpv;have HC : Hid (ClAt w (clV c (zS pa lp pc)) c /\ RevAt w (zS pa lp pc) c.revs) := ⟨⟨_, rfl, hrv⟩, hrv⟩;clear hrv hlp;unfold clV at HC |-;obtain ⟨T, hT⟩ : ∃ T : ByteArray, (⟨((ltxt c).getD []).toArray⟩ : ByteArray) = T := ⟨_, rfl⟩;obtain ⟨okT, hok⟩ := zE ((ltxt c).isSome);rw [hT, hok];have HT : Hid ((⟨((ltxt c).getD []).toArray⟩ : ByteArray) = T /\ (ltxt c).isSome = okT) := ⟨hT, hok⟩;have HZ : Hid (wtL c <= 1048576 /\ WdL c) := ⟨hz, hw⟩;clear hT hz hw hok;obtain ⟨B, hB⟩ := zE (crlOk c);have HB : Hid (crlOk c = B) := hB;go_enter Tryz.func33, Tryz.ntmps33;go_wp2_with fail;obtain ⟨W1, hW1⟩ : ∃ W, W = w.alloc (Obj.cells (zCl c (zS pa lp pc)) 26) := ⟨_, rfl⟩;rw [<- hW1];have H1 : Hid (KR w W1 (zCl c (zS pa lp pc))) := KR.start hW1;clear hW1;have E1 := specCrlOk_any c _ W1 (Nat.le_trans HZ.1 (by decide)) (HC.1.below H1.1);rw [hB] at E1;clear hB;refine E1.mono ?_;rintro e w2 ⟨rfl, hb2⟩;have H2 : Hid (KR w w2 (zCl c (zS pa lp pc))) := H1.below hb2;clear E1 H1 hb2
 cases B with
 | false =>
  have HN : Hid (T = ⟨#[]⟩ /\ okT = false) := by
   have e : ltxt c = none := by unfold ltxt; rw [HB.out]; rfl
   rw [<- HT.1, <- HT.2, e];exact ⟨rfl, rfl⟩
  go_wp2_with fail
  go_ret2
  exact ⟨by rw [HN.1, HN.2]; rfl, H2.1⟩
 | true =>
  have HE : Hid (ltxt c = writeI 5 (crlI c)) := by show ltxt c = _; unfold ltxt; rw [HB.out]; rfl
  go_wp2_with fail;refine wp_region_held_drew (S := fun W => KR w W (zCl c (zS pa lp pc))) (by kernel_rfl) (KR.below H2.out ((Below.refl _ _).drew)) (fun hHeld => ?_);clear H2;generalize w2.drew = Wd at hHeld |-;refine zT 0 7 ?_ rfl (by rfl) ?_ hHeld ?_;rotate_left
  ·intro W hSw
   obtain ⟨c0, c1, c2, c3, c4, c5, c6⟩ := zc7 hSw.2;go_simp
   try with_reducible rfl
  refine zQ 2 9 rfl hHeld ?_;refine zT 3 10 ?_ rfl (by rfl) ?_ hHeld ?_;rotate_left
  ·intro W hSw
   have c6 : W.cell? ⟨w.heap.size, 6, none⟩ = some (zG c.sig) := hSw.2.cell 6;go_simp
   try with_reducible rfl
  refine zR 1 8 rfl fun K hK => ?_
  go_simp;refine (l10Item_any c _ _ (Nat.le_trans HZ.1 (by decide)) HZ.2 (HC.1.below hHeld.1)).mono ?_;intro e v1 hto;obtain ⟨a1, l1, x1, f1, rfl, ho1, hv⟩ := to_bodyL hto;clear hto;have hH := KR.below hHeld hv;have HO : Hid (OwnK v1 w.heap.size 3 (zS a1 l1 x1) (It.kids (bodyL c)) f1) := OwnK.base hHeld.1.size ho1;clear ho1;go_wp2_with fail;refine hK.out _ _ hH (fun hHeld => ?_);clear hK K hH hv;refine zR 4 11 rfl fun K hK => ?_
  go_simp;refine (bytes_any c.sig _).mono ?_;rintro e v2 ⟨rfl, hv⟩;have hH := KR.below hHeld hv;have HO2 : Hid (OwnK v2 w.heap.size 3 (zS a1 l1 x1) (It.kids (bodyL c)) f1) := HO.below hv (fun b hm => (OwnK.lt HO.out b hm).2);clear HO;go_wp2_with fail;refine hK.out _ _ hH (fun hHeld => ?_);clear hK K hH hv;refine zR 5 12 rfl fun K hK => ?_
  obtain ⟨W3, hW3⟩ : ∃ W, W = v2.alloc (Obj.cells #[zI 48, zG ⟨#[]⟩, zS a1 l1 x1, zI 4, zG c.sig, zZ] 50) := ⟨_, rfl⟩;have HI : Hid (ItAt W3 5 (.agg #[zI 48, zG ⟨#[]⟩, zS (some ⟨v2.heap.size, 0, none⟩) 2 2]) (crlI c)) := crl_row HO2.out hHeld.1.size hW3;have hH : KR w W3 (zCl c (zS pa lp pc)) := KR.below hHeld (by rw [hW3]; exact (Below.refl _ _).alloc (Nat.le_refl _) _);go_simp;rw [<- hW3];refine hK.out _ _ hH (fun hHeld => ?_);clear hK K hH hW3 HO2;refine zQ 6 13 rfl hHeld ?_;refine zR 7 14 rfl fun K hK => ?_
  have E7 := specItemText_any 5 (crlI c) _ W3 HI.out (sz_crl HZ.1);rw [<- HE.out, HT.1, HT.2] at E7;go_simp;refine E7.mono ?_;rintro e v4 ⟨rfl, hv⟩;have hH := KR.below hHeld hv;clear E7;go_wp2_with fail;refine hK.out _ _ hH (fun hHeld => ?_);clear hK K hH hv;refine zQ 8 15 rfl hHeld ?_;refine zQ 9 16 rfl hHeld ?_;refine zQ 10 2 rfl hHeld ?_;refine zQ 11 3 rfl hHeld ?_;refine wpAnyH_done (by kernel_rfl) ?_ _;have HEND : Hid (zW w _) := hHeld.1;clear hHeld;go_wp2_with fail
  go_ret2
  exact ⟨rfl, HEND.out⟩
theorem implCrlBody_any (c : Cl) (v : Value) (w : World) (hz : wtL c <= 1048576) (hw : WdL c) (ha : ClAt w v c) : Calls Tryz.prog 20 #[v] w fun e w' => e = .returned (zG ⟨((writeI 4 (bodyL c)).getD []).toArray⟩) /\ zW w w' := by
 obtain ⟨pv, rfl, hrv⟩ := ha;obtain ⟨pa, pc, hpv⟩ : ∃ pa pc, pv = zS pa c.revs.length pc := by obtain ⟨a, b, h, _⟩ := hrv; exact ⟨a, b, h⟩
 obtain ⟨lp, hlp⟩ := zE (c.revs.length);rw [hlp] at hpv;subst hpv;have HC : Hid (ClAt w (clV c (zS pa lp pc)) c /\ RevAt w (zS pa lp pc) c.revs) := ⟨⟨_, rfl, hrv⟩, hrv⟩;clear hrv hlp;unfold clV at HC |-;obtain ⟨T, hT⟩ : ∃ T : ByteArray, (⟨((writeI 4 (bodyL c)).getD []).toArray⟩ : ByteArray) = T := ⟨_, rfl⟩;rw [hT];have HT : Hid ((⟨((writeI 4 (bodyL c)).getD []).toArray⟩ : ByteArray) = T /\ wtL c <= 1048576 /\ WdL c) := ⟨hT, hz, hw⟩;clear hT hz hw;go_enter Tryz.func20, Tryz.ntmps20;go_wp2_with fail;obtain ⟨W1, hW1⟩ : ∃ W, W = w.alloc (Obj.cells (zCl c (zS pa lp pc)) 26) := ⟨_, rfl⟩;rw [<- hW1];have H1 : Hid (zW w W1) := by rw [hW1]; exact (Below.refl _ _).alloc (Nat.le_refl _) _
 clear hW1;refine (tidingsOf_any c (zS pa lp pc) W1 ⟨_, _, _, rfl⟩).mono ?_;rintro e wt ⟨rfl, hbt⟩;have Ht : Hid (zW w wt) := H1.trans (hbt.mono H1.size);clear H1 hbt;have H1 := Ht;clear Ht;unfold tdV;go_wp2_with fail;refine (tidItem_any c pa lp pc wt (Nat.le_trans HT.2.1 (by decide)) HT.2.2 (HC.2.below H1.out)).mono ?_;rintro e w2 hto;obtain ⟨a2, l2, x2, f2, rfl, ho2, hb2⟩ := to_bodyL hto;clear hto;have E2 := implItemText_any 4 (bodyL c) (.agg #[zI 48, zG ⟨#[]⟩, zS a2 l2 x2]) w2 ⟨_, rfl, ho2.at⟩ (Nat.le_trans (sz_bodyL HT.2.1) (by decide));rw [HT.1] at E2;generalize (writeI 4 (bodyL c)).isSome = okB at E2;have H2 : Hid (zW w w2) := H1.trans (hb2.mono H1.size);clear H1 ho2 hb2;go_wp2_with fail;refine E2.mono ?_;rintro e w3 ⟨rfl, hb3⟩;have H3 : Hid (zW w w3) := H2.trans (hb3.mono H2.size);clear E2 H2 hb3;go_wp2_with fail;go_ret;exact ⟨rfl, H3.out⟩
theorem implCrlText_any (c : Cl) (v : Value) (w : World) (hz : wtL c <= 1048576) (hw : WdL c) (ha : ClAt w v c) : Calls Tryz.prog 6 #[v] w fun e w' => e = .returned (.tuple #[zG ⟨((ltxt c).getD []).toArray⟩, .bool (ltxt c).isSome]) /\ zW w w' := by
 obtain ⟨pv, rfl, hrv⟩ := ha;obtain ⟨pa, pc, hpv⟩ : ∃ pa pc, pv = zS pa c.revs.length pc := by obtain ⟨a, b, h, _⟩ := hrv; exact ⟨a, b, h⟩
 obtain ⟨lp, hlp⟩ := zE (c.revs.length);rw [hlp] at hpv;subst hpv;have HC : Hid (ClAt w (clV c (zS pa lp pc)) c /\ RevAt w (zS pa lp pc) c.revs) := ⟨⟨_, rfl, hrv⟩, hrv⟩;clear hrv hlp;unfold clV at HC |-;obtain ⟨T, hT⟩ : ∃ T : ByteArray, (⟨((ltxt c).getD []).toArray⟩ : ByteArray) = T := ⟨_, rfl⟩;obtain ⟨okT, hok⟩ := zE ((ltxt c).isSome);rw [hT, hok];have HT : Hid ((⟨((ltxt c).getD []).toArray⟩ : ByteArray) = T /\ (ltxt c).isSome = okT) := ⟨hT, hok⟩;have HZ : Hid (wtL c <= 1048576 /\ WdL c) := ⟨hz, hw⟩;clear hT hz hw hok;obtain ⟨B, hB⟩ := zE (crlOk c);have HB : Hid (crlOk c = B) := hB;go_enter Tryz.func6, Tryz.ntmps6;go_wp2_with fail;obtain ⟨W1, hW1⟩ : ∃ W, W = w.alloc (Obj.cells (zCl c (zS pa lp pc)) 26) := ⟨_, rfl⟩;rw [<- hW1];have H1 : Hid (KR w W1 (zCl c (zS pa lp pc))) := KR.start hW1;clear hW1;have E1 := implCrlOk_any c _ W1 (Nat.le_trans HZ.1 (by decide)) (HC.1.below H1.1);rw [hB] at E1;clear hB;refine E1.mono ?_;rintro e w2 ⟨rfl, hb2⟩;have H2 : Hid (KR w w2 (zCl c (zS pa lp pc))) := H1.below hb2;clear E1 H1 hb2
 cases B with
 | false =>
  have HN : Hid (T = ⟨#[]⟩ /\ okT = false) := by
   have e : ltxt c = none := by unfold ltxt; rw [HB.out]; rfl
   rw [<- HT.1, <- HT.2, e];exact ⟨rfl, rfl⟩
  go_wp2_with fail
  go_ret2
  exact ⟨by rw [HN.1, HN.2]; rfl, H2.1⟩
 | true =>
  have HE : Hid (ltxt c = writeI 5 (crlI c)) := by show ltxt c = _; unfold ltxt; rw [HB.out]; rfl
  go_wp2_with fail;refine wp_region_held_drew (S := fun W => KR w W (zCl c (zS pa lp pc))) (by kernel_rfl) (KR.below H2.out ((Below.refl _ _).drew)) (fun hHeld => ?_);clear H2;generalize w2.drew = Wd at hHeld |-;refine zT 0 7 ?_ rfl (by rfl) ?_ hHeld ?_;rotate_left
  ·intro W hSw
   obtain ⟨c0, c1, c2, c3, c4, c5, c6⟩ := zc7 hSw.2;go_simp
   try with_reducible rfl
  refine zQ 3 10 rfl hHeld ?_;refine zT 4 11 ?_ rfl (by rfl) ?_ hHeld ?_;rotate_left
  ·intro W hSw
   have c6 : W.cell? ⟨w.heap.size, 6, none⟩ = some (zG c.sig) := hSw.2.cell 6;go_simp
   try with_reducible rfl
  refine zR 1 8 rfl fun K hK => ?_
  go_simp;refine (tidingsOf_any c (zS pa lp pc) _ ⟨_, _, _, rfl⟩).mono ?_;rintro e v0 ⟨rfl, hv⟩;have hH := KR.below hHeld hv;unfold tdV;go_wp2_with fail;refine hK.out _ _ hH (fun hHeld => ?_);clear hK K hH hv;refine zR 2 9 rfl fun K hK => ?_
  go_simp;refine (tidItem_any c pa lp pc _ (Nat.le_trans HZ.1 (by decide)) HZ.2 (HC.2.below hHeld.1)).mono ?_;intro e v1 hto;obtain ⟨a1, l1, x1, f1, rfl, ho1, hv⟩ := to_bodyL hto;clear hto;have hH := KR.below hHeld hv;have HO : Hid (OwnK v1 w.heap.size 3 (zS a1 l1 x1) (It.kids (bodyL c)) f1) := OwnK.base hHeld.1.size ho1;clear ho1;go_wp2_with fail;refine hK.out _ _ hH (fun hHeld => ?_);clear hK K hH hv;refine zR 5 12 rfl fun K hK => ?_
  go_simp;refine (signedItem_any 3 (bodyL c) 48 ⟨#[]⟩ c.sig (zS a1 l1 x1) f1 w.heap.size _ rfl rfl ⟨_, _, _, rfl⟩ (by have := (wtL_parts HZ.1).2.2; omega) HO.out hHeld.1.size).mono ?_;rintro e v2 ⟨q2, f2, rfl, ho2, hv⟩;have hH := KR.below hHeld hv;have HI : Hid (ItAt v2 5 (.agg #[zI 48, zG ⟨#[]⟩, zS (some ⟨q2, 0, none⟩) 2 2]) (crlI c)) := ⟨_, rfl, ho2.at⟩;clear HO ho2;go_wp2_with fail;refine hK.out _ _ hH (fun hHeld => ?_);clear hK K hH hv;refine zR 6 13 rfl fun K hK => ?_
  have E7 := implItemText_any 5 (crlI c) _ v2 HI.out (sz_crl HZ.1);rw [<- HE.out, HT.1, HT.2] at E7;go_simp;refine E7.mono ?_;rintro e v4 ⟨rfl, hv⟩;have hH := KR.below hHeld hv;clear E7;go_wp2_with fail;refine hK.out _ _ hH (fun hHeld => ?_);clear hK K hH hv;refine zQ 7 14 rfl hHeld ?_;refine zQ 8 15 rfl hHeld ?_;refine zQ 9 2 rfl hHeld ?_;refine zQ 10 3 rfl hHeld ?_;refine wpAnyH_done (by kernel_rfl) ?_ _;have HEND : Hid (zW w _) := hHeld.1;clear hHeld;go_wp2_with fail
  go_ret2
  exact ⟨rfl, HEND.out⟩
end Go.Proofs.YtcbjlbpkoneibaaGreatDoor
namespace Go.Proofs.YtcbjlbpkoneibaaGreatDoor
open Go.RowKit
theorem wpList_append_ints2 {w : World} {ops : Array Oper} {rest : List Oper} {o : Oper} {a : Act} {Q : Exit -> Act -> World -> Prop} (hgd : o.guard = none) (s x : Operand) (t : TypeId)
  (ho : o.op = .call { callee := .builtin .append, args := #[s, x], argTypes := #[t, t] }) (base : Nat) (i0 : TypeInfo) (ht : Tryz.prog.underlying t = some (.slice 3)) (hi : Tryz.prog.info? 3 = some i0) (hz0 : i0.zero = some (.int .i64 0)) (hz1 : i0.size = 1) (hz2 : i0.bytes = 8)
  (v : Value) (n : Nat) (xs : List Value) (hs : a.eval s = v) (hown : w.ownsRow base 3 1 v n xs) (u : Value) (lu : List Int) (bu : Nat) (hu : OwnI w bu u lu) (hx : a.eval x = u) (hlen : n + lu.length <= 100000000) (hbase : base <= w.heap.size)
  (h : ∀ v' w', w'.ownsRow base 3 1 v' (n + lu.length) (xs ++ cellsI lu) -> w.grownBy w' v.ownBlock -> wpList Tryz.prog ops Q rest (a.put o.dst v') w') : wpList Tryz.prog ops Q (o :: rest) a w := by
 rcases hu.2 with ⟨rfl, h0⟩ | ⟨g, cap, cur, rfl, hbg, hg, hn, hm, hsz, htk⟩
 ·have hl : lu = [] := List.eq_nil_of_length_eq_zero h0
  subst hl;refine wpList_append_own_none hgd s x t ho base 3 i0 1 ht hi v n xs hs hown hx (h v w (by simpa [cellsI] using hown) (World.grownBy.refl _ _))
 ·refine wpList_append_own w hgd s x t ho base 3 i0 (zI 0) 1 8 ht hi hz0 hz1 hz2 rfl (by decide) v n xs hs hown ⟨g, 0, none⟩ lu.length cap (cellsI lu) hx (by simp [cellsI]) (fun j q hq => ?_) (fun q hq => ?_) (by unfold maxLen; omega) (by omega) hbase (fun v' w' h1 h2 _ => h v' w' h1 h2)
  ·have hj : j < lu.length := by
    refine Nat.lt_of_not_le fun h => ?_
    rw [List.getElem?_eq_none (by rw [cellsI_len]; exact h)] at hq
    cases hq
   rw [Addr.add_lit, Nat.zero_add, hu.cell hj, <- hq, cellsI_getD hj]
  ·obtain ⟨y, _, rfl⟩ := List.mem_map.1 hq
   rfl
end Go.Proofs.YtcbjlbpkoneibaaGreatDoor
