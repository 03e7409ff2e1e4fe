/-
  Texts of the proof.
-/
import Derived.Deep.RegionHeld3
import Derived.Test.YtabfamhaihnccaaGreatLC24
set_option linter.unusedVariables false
set_option linter.unusedSimpArgs false
set_option maxRecDepth 100000
set_option maxHeartbeats 25600000
namespace Go.Proofs.YtabfamhaihnccaaGreat
open Go.RowKit Der
theorem body_flag (s : ByteArray) (w : World) : Calls Tryz.prog 226 #[zG s] w fun e w' => e = .returned (zG s) /\ zW w w' := by
 go_enter Tryz.func226, Tryz.ntmps226;go_wp2_with fail;go_ret;exact ⟨rfl, Below.refl _ _⟩
theorem body_integer (s : ByteArray) (w : World) : Calls Tryz.prog 227 #[zG s] w fun e w' => e = .returned (zG s) /\ zW w w' := by
 go_enter Tryz.func227, Tryz.ntmps227;go_wp2_with fail;go_ret;exact ⟨rfl, Below.refl _ _⟩
theorem body_octets (s : ByteArray) (w : World) : Calls Tryz.prog 228 #[zG s] w fun e w' => e = .returned (zG s) /\ zW w w' := by
 go_enter Tryz.func228, Tryz.ntmps228;go_wp2_with fail;go_ret;exact ⟨rfl, Below.refl _ _⟩
theorem body_plain (s : ByteArray) (w : World) : Calls Tryz.prog 229 #[zG s] w fun e w' => e = .returned (zG s) /\ zW w w' := by
 go_enter Tryz.func229, Tryz.ntmps229;go_wp2_with fail;go_ret;exact ⟨rfl, Below.refl _ _⟩
def TxPost (t : Int) (B : List UInt8 -> Prop) (w : World) (e : Ending) (w' : World) : Prop := ∃ r : List UInt8, e = .returned (zG ⟨(UInt8.ofNat (t % 256).toNat :: (lenB r.length ++ r)).toArray⟩) /\ B r /\ zW w w'
theorem textOf_flag (t : Int) (s : List UInt8) (ax : Option Addr) (l cx : Nat) (w : World) (hl : l <= 20000000) (hs : s.length <= 20000000) (hF : formV t s (zS ax l cx) l = .iface 236 (zG ⟨s.toArray⟩)) (B : List UInt8 -> Prop)
  (EB : ∀ w3, zW w w3 -> Calls Tryz.prog 226 #[zG ⟨s.toArray⟩] w3 fun e w' => ∃ r : List UInt8, e = .returned (zG ⟨r.toArray⟩) /\ B r /\ r.length <= 400000000 /\ zW w3 w') :
  Calls Tryz.prog 163 #[.agg #[zI t, zG ⟨s.toArray⟩, zS ax l cx]] w fun e w' => TxPost t B w e w' := by
 obtain ⟨W2, hW2⟩ : ∃ W, W = w.alloc (Obj.cells #[Value.int IntKind.i64 t, Value.string { data := s.toArray }, Value.slice ax l cx] 178) := ⟨_, rfl⟩;have E := formOf_any t s ax l cx W2 hl hs;rw [hF] at E;have HW := one_laid w (zI t) (zG ⟨s.toArray⟩) (zS ax l cx) 178 W2 hW2;have H2 : Hid (zW w W2 /\ w.heap.size < W2.heap.size /\ W2.cell? ⟨w.heap.size, 0, none⟩ = some (zI t)) := ⟨HW.1, HW.2.1, HW.2.2.1⟩;have HEB : Hid (∀ w3, zW w w3 -> Calls Tryz.prog 226 #[zG ⟨s.toArray⟩] w3 fun e w' => ∃ r : List UInt8, e = .returned (zG ⟨r.toArray⟩) /\ B r /\ r.length <= 400000000 /\ zW w3 w') := EB;clear HW hF EB;go_enter Tryz.func163, Tryz.ntmps163;go_wp2_with fail;rw [<- hW2];clear hW2;refine E.mono ?_;rintro e w3 ⟨rfl, hb3⟩;have H3 : Hid (zW w w3 /\ w.heap.size < w3.heap.size /\ w3.cell? ⟨w.heap.size, 0, none⟩ = some (zI t)) := ⟨H2.1.trans (hb3.mono H2.1.size), Nat.lt_of_lt_of_le H2.2.1 hb3.size, (hb3.cell (p := ⟨w.heap.size, 0, none⟩) H2.2.1).trans H2.2.2⟩;clear E H2 hb3;go_wp2_with fail;refine (HEB.out w3 H3.1).mono ?_;rintro e w4 ⟨r, rfl, hBr, hrl, hb4⟩;have H4 : Hid (zW w w4 /\ w.heap.size < w4.heap.size /\ B r) := ⟨H3.1.trans (hb4.mono H3.1.size), Nat.lt_of_lt_of_le H3.2.1 hb4.size, hBr⟩;have cT : w4.cell? ⟨w.heap.size, 0, none⟩ = some (zI t) := (hb4.cell (p := ⟨w.heap.size, 0, none⟩) H3.2.1).trans H3.2.2;clear H3 hb4 hBr HEB;have hwt : IntKind.u8.wrap t = t % 256 := by rw [IntKind.wrap_u8]
 obtain ⟨x, hx⟩ : ∃ x : Int, t % 256 = x := ⟨_, rfl⟩;obtain ⟨b, hb⟩ := zE (UInt8.ofNat (t % 256).toNat);have hxb : x = (b.toNat : Int) := by rw [<- hb, UInt8.toNat_ofNat', <- hx]; omega
 rw [hx] at hwt;have hcv := conv_at x b hxb;have hssz : (⟨r.toArray⟩ : ByteArray).size = r.length := by show r.toArray.size = _; simp
 have EL := fun W => lengthText_any r.length W (by omega)
 obtain ⟨L, hL⟩ : ∃ L : ByteArray, (⟨(lenB r.length).toArray⟩ : ByteArray) = L := ⟨_, rfl⟩;rw [hL] at EL;have HR : Hid ((⟨(UInt8.ofNat (t % 256).toNat :: (lenB r.length ++ r)).toArray⟩ : ByteArray) = ⟨#[b]⟩ ++ L ++ ⟨r.toArray⟩ /\ L.size <= 10) := by
  refine ⟨?_, ?_⟩
  ·rw [hb, <- hL]
   apply ByteArray.ext;simp
  ·rw [<- hL]; show ((lenB r.length).toArray).size <= 10; have := beN_short9 r.length; simpa using this
 have ra := fun W => run_string_add_sum (P := Tryz.prog) W ⟨#[b]⟩ L (by show 1 + L.size <= _; have := HR.2; omega)
 have rb := fun W => run_string_add_sum (P := Tryz.prog) W (⟨#[b]⟩ ++ L) ⟨r.toArray⟩ (by rw [ByteArray.size_append, hssz]; show 1 + L.size + r.length <= _; have := HR.2; omega)
 have hlt2 := H4.2.1;have hne2 := Nat.ne_of_lt hlt2;have HWR : Hid (zW w w4) := H4.1;clear hL hb hx hxb;go_wp2_with fail
 go_region_with (go_at_call 192; refine (EL _).mono ?_; rintro e w5 ⟨rfl, hb5⟩; have cT5 : w5.cell? ⟨w.heap.size, 0, none⟩ = some (zI t) := (hb5.cell (p := ⟨w.heap.size, 0, none⟩) (by first | exact hlt2 | (simp; omega))).trans (by first | exact cT | go_keep); have hcar := fun (p : Addr) (h : p.block < _) => hb5.cell (p := p) h; have hB3 := below_via hb5 (by first | exact HWR.out.drew | exact (HWR.out.drew.alloc HWR.out.drew.size _).drew | exact HWR.out.drew.alloc HWR.out.drew.size _ | exact HWR.out); clear hb5)
 all_goals (
  go_wp2_with fail;go_ret;exact ⟨r, by rw [HR.1]; rfl, H4.2.2, by first | exact hB3 | exact hB3.drew | exact hB3.alloc hB3.size _ | exact hB3.drew.alloc hB3.size _ | exact (hB3.alloc hB3.size _).drew | exact (hB3.drew.alloc hB3.size _).drew⟩)
theorem textOf_integer (t : Int) (s : List UInt8) (ax : Option Addr) (l cx : Nat) (w : World) (hl : l <= 20000000) (hs : s.length <= 20000000) (hF : formV t s (zS ax l cx) l = .iface 237 (zG ⟨s.toArray⟩)) (B : List UInt8 -> Prop)
  (EB : ∀ w3, zW w w3 -> Calls Tryz.prog 227 #[zG ⟨s.toArray⟩] w3 fun e w' => ∃ r : List UInt8, e = .returned (zG ⟨r.toArray⟩) /\ B r /\ r.length <= 400000000 /\ zW w3 w') :
  Calls Tryz.prog 163 #[.agg #[zI t, zG ⟨s.toArray⟩, zS ax l cx]] w fun e w' => TxPost t B w e w' := by
 obtain ⟨W2, hW2⟩ : ∃ W, W = w.alloc (Obj.cells #[Value.int IntKind.i64 t, Value.string { data := s.toArray }, Value.slice ax l cx] 178) := ⟨_, rfl⟩;have E := formOf_any t s ax l cx W2 hl hs;rw [hF] at E;have HW := one_laid w (zI t) (zG ⟨s.toArray⟩) (zS ax l cx) 178 W2 hW2;have H2 : Hid (zW w W2 /\ w.heap.size < W2.heap.size /\ W2.cell? ⟨w.heap.size, 0, none⟩ = some (zI t)) := ⟨HW.1, HW.2.1, HW.2.2.1⟩;have HEB : Hid (∀ w3, zW w w3 -> Calls Tryz.prog 227 #[zG ⟨s.toArray⟩] w3 fun e w' => ∃ r : List UInt8, e = .returned (zG ⟨r.toArray⟩) /\ B r /\ r.length <= 400000000 /\ zW w3 w') := EB;clear HW hF EB;go_enter Tryz.func163, Tryz.ntmps163;go_wp2_with fail;rw [<- hW2];clear hW2;refine E.mono ?_;rintro e w3 ⟨rfl, hb3⟩;have H3 : Hid (zW w w3 /\ w.heap.size < w3.heap.size /\ w3.cell? ⟨w.heap.size, 0, none⟩ = some (zI t)) := ⟨H2.1.trans (hb3.mono H2.1.size), Nat.lt_of_lt_of_le H2.2.1 hb3.size, (hb3.cell (p := ⟨w.heap.size, 0, none⟩) H2.2.1).trans H2.2.2⟩;clear E H2 hb3;go_wp2_with fail;refine (HEB.out w3 H3.1).mono ?_;rintro e w4 ⟨r, rfl, hBr, hrl, hb4⟩;have H4 : Hid (zW w w4 /\ w.heap.size < w4.heap.size /\ B r) := ⟨H3.1.trans (hb4.mono H3.1.size), Nat.lt_of_lt_of_le H3.2.1 hb4.size, hBr⟩;have cT : w4.cell? ⟨w.heap.size, 0, none⟩ = some (zI t) := (hb4.cell (p := ⟨w.heap.size, 0, none⟩) H3.2.1).trans H3.2.2;clear H3 hb4 hBr HEB;have hwt : IntKind.u8.wrap t = t % 256 := by rw [IntKind.wrap_u8]
 obtain ⟨x, hx⟩ : ∃ x : Int, t % 256 = x := ⟨_, rfl⟩;obtain ⟨b, hb⟩ := zE (UInt8.ofNat (t % 256).toNat);have hxb : x = (b.toNat : Int) := by rw [<- hb, UInt8.toNat_ofNat', <- hx]; omega
 rw [hx] at hwt;have hcv := conv_at x b hxb;have hssz : (⟨r.toArray⟩ : ByteArray).size = r.length := by show r.toArray.size = _; simp
 have EL := fun W => lengthText_any r.length W (by omega)
 obtain ⟨L, hL⟩ : ∃ L : ByteArray, (⟨(lenB r.length).toArray⟩ : ByteArray) = L := ⟨_, rfl⟩;rw [hL] at EL;have HR : Hid ((⟨(UInt8.ofNat (t % 256).toNat :: (lenB r.length ++ r)).toArray⟩ : ByteArray) = ⟨#[b]⟩ ++ L ++ ⟨r.toArray⟩ /\ L.size <= 10) := by
  refine ⟨?_, ?_⟩
  ·rw [hb, <- hL]
   apply ByteArray.ext;simp
  ·rw [<- hL]; show ((lenB r.length).toArray).size <= 10; have := beN_short9 r.length; simpa using this
 have ra := fun W => run_string_add_sum (P := Tryz.prog) W ⟨#[b]⟩ L (by show 1 + L.size <= _; have := HR.2; omega)
 have rb := fun W => run_string_add_sum (P := Tryz.prog) W (⟨#[b]⟩ ++ L) ⟨r.toArray⟩ (by rw [ByteArray.size_append, hssz]; show 1 + L.size + r.length <= _; have := HR.2; omega)
 have hlt2 := H4.2.1;have hne2 := Nat.ne_of_lt hlt2;have HWR : Hid (zW w w4) := H4.1;clear hL hb hx hxb;go_wp2_with fail
 go_region_with (go_at_call 192; refine (EL _).mono ?_; rintro e w5 ⟨rfl, hb5⟩; have cT5 : w5.cell? ⟨w.heap.size, 0, none⟩ = some (zI t) := (hb5.cell (p := ⟨w.heap.size, 0, none⟩) (by first | exact hlt2 | (simp; omega))).trans (by first | exact cT | go_keep); have hcar := fun (p : Addr) (h : p.block < _) => hb5.cell (p := p) h; have hB3 := below_via hb5 (by first | exact HWR.out.drew | exact (HWR.out.drew.alloc HWR.out.drew.size _).drew | exact HWR.out.drew.alloc HWR.out.drew.size _ | exact HWR.out); clear hb5)
 all_goals (
  go_wp2_with fail;go_ret;exact ⟨r, by rw [HR.1]; rfl, H4.2.2, by first | exact hB3 | exact hB3.drew | exact hB3.alloc hB3.size _ | exact hB3.drew.alloc hB3.size _ | exact (hB3.alloc hB3.size _).drew | exact (hB3.drew.alloc hB3.size _).drew⟩)
theorem textOf_octets (t : Int) (s : List UInt8) (ax : Option Addr) (l cx : Nat) (w : World) (hl : l <= 20000000) (hs : s.length <= 20000000) (hF : formV t s (zS ax l cx) l = .iface 238 (zG ⟨s.toArray⟩)) (B : List UInt8 -> Prop)
  (EB : ∀ w3, zW w w3 -> Calls Tryz.prog 228 #[zG ⟨s.toArray⟩] w3 fun e w' => ∃ r : List UInt8, e = .returned (zG ⟨r.toArray⟩) /\ B r /\ r.length <= 400000000 /\ zW w3 w') :
  Calls Tryz.prog 163 #[.agg #[zI t, zG ⟨s.toArray⟩, zS ax l cx]] w fun e w' => TxPost t B w e w' := by
 obtain ⟨W2, hW2⟩ : ∃ W, W = w.alloc (Obj.cells #[Value.int IntKind.i64 t, Value.string { data := s.toArray }, Value.slice ax l cx] 178) := ⟨_, rfl⟩;have E := formOf_any t s ax l cx W2 hl hs;rw [hF] at E;have HW := one_laid w (zI t) (zG ⟨s.toArray⟩) (zS ax l cx) 178 W2 hW2;have H2 : Hid (zW w W2 /\ w.heap.size < W2.heap.size /\ W2.cell? ⟨w.heap.size, 0, none⟩ = some (zI t)) := ⟨HW.1, HW.2.1, HW.2.2.1⟩;have HEB : Hid (∀ w3, zW w w3 -> Calls Tryz.prog 228 #[zG ⟨s.toArray⟩] w3 fun e w' => ∃ r : List UInt8, e = .returned (zG ⟨r.toArray⟩) /\ B r /\ r.length <= 400000000 /\ zW w3 w') := EB;clear HW hF EB;go_enter Tryz.func163, Tryz.ntmps163;go_wp2_with fail;rw [<- hW2];clear hW2;refine E.mono ?_;rintro e w3 ⟨rfl, hb3⟩;have H3 : Hid (zW w w3 /\ w.heap.size < w3.heap.size /\ w3.cell? ⟨w.heap.size, 0, none⟩ = some (zI t)) := ⟨H2.1.trans (hb3.mono H2.1.size), Nat.lt_of_lt_of_le H2.2.1 hb3.size, (hb3.cell (p := ⟨w.heap.size, 0, none⟩) H2.2.1).trans H2.2.2⟩;clear E H2 hb3;go_wp2_with fail;refine (HEB.out w3 H3.1).mono ?_;rintro e w4 ⟨r, rfl, hBr, hrl, hb4⟩;have H4 : Hid (zW w w4 /\ w.heap.size < w4.heap.size /\ B r) := ⟨H3.1.trans (hb4.mono H3.1.size), Nat.lt_of_lt_of_le H3.2.1 hb4.size, hBr⟩;have cT : w4.cell? ⟨w.heap.size, 0, none⟩ = some (zI t) := (hb4.cell (p := ⟨w.heap.size, 0, none⟩) H3.2.1).trans H3.2.2;clear H3 hb4 hBr HEB;have hwt : IntKind.u8.wrap t = t % 256 := by rw [IntKind.wrap_u8]
 obtain ⟨x, hx⟩ : ∃ x : Int, t % 256 = x := ⟨_, rfl⟩;obtain ⟨b, hb⟩ := zE (UInt8.ofNat (t % 256).toNat);have hxb : x = (b.toNat : Int) := by rw [<- hb, UInt8.toNat_ofNat', <- hx]; omega
 rw [hx] at hwt;have hcv := conv_at x b hxb;have hssz : (⟨r.toArray⟩ : ByteArray).size = r.length := by show r.toArray.size = _; simp
 have EL := fun W => lengthText_any r.length W (by omega)
 obtain ⟨L, hL⟩ : ∃ L : ByteArray, (⟨(lenB r.length).toArray⟩ : ByteArray) = L := ⟨_, rfl⟩;rw [hL] at EL;have HR : Hid ((⟨(UInt8.ofNat (t % 256).toNat :: (lenB r.length ++ r)).toArray⟩ : ByteArray) = ⟨#[b]⟩ ++ L ++ ⟨r.toArray⟩ /\ L.size <= 10) := by
  refine ⟨?_, ?_⟩
  ·rw [hb, <- hL]
   apply ByteArray.ext;simp
  ·rw [<- hL]; show ((lenB r.length).toArray).size <= 10; have := beN_short9 r.length; simpa using this
 have ra := fun W => run_string_add_sum (P := Tryz.prog) W ⟨#[b]⟩ L (by show 1 + L.size <= _; have := HR.2; omega)
 have rb := fun W => run_string_add_sum (P := Tryz.prog) W (⟨#[b]⟩ ++ L) ⟨r.toArray⟩ (by rw [ByteArray.size_append, hssz]; show 1 + L.size + r.length <= _; have := HR.2; omega)
 have hlt2 := H4.2.1;have hne2 := Nat.ne_of_lt hlt2;have HWR : Hid (zW w w4) := H4.1;clear hL hb hx hxb;go_wp2_with fail
 go_region_with (go_at_call 192; refine (EL _).mono ?_; rintro e w5 ⟨rfl, hb5⟩; have cT5 : w5.cell? ⟨w.heap.size, 0, none⟩ = some (zI t) := (hb5.cell (p := ⟨w.heap.size, 0, none⟩) (by first | exact hlt2 | (simp; omega))).trans (by first | exact cT | go_keep); have hcar := fun (p : Addr) (h : p.block < _) => hb5.cell (p := p) h; have hB3 := below_via hb5 (by first | exact HWR.out.drew | exact (HWR.out.drew.alloc HWR.out.drew.size _).drew | exact HWR.out.drew.alloc HWR.out.drew.size _ | exact HWR.out); clear hb5)
 all_goals (
  go_wp2_with fail;go_ret;exact ⟨r, by rw [HR.1]; rfl, H4.2.2, by first | exact hB3 | exact hB3.drew | exact hB3.alloc hB3.size _ | exact hB3.drew.alloc hB3.size _ | exact (hB3.alloc hB3.size _).drew | exact (hB3.drew.alloc hB3.size _).drew⟩)
theorem textOf_plain (t : Int) (s : List UInt8) (ax : Option Addr) (l cx : Nat) (w : World) (hl : l <= 20000000) (hs : s.length <= 20000000) (hF : formV t s (zS ax l cx) l = .iface 239 (zG ⟨s.toArray⟩)) (B : List UInt8 -> Prop)
  (EB : ∀ w3, zW w w3 -> Calls Tryz.prog 229 #[zG ⟨s.toArray⟩] w3 fun e w' => ∃ r : List UInt8, e = .returned (zG ⟨r.toArray⟩) /\ B r /\ r.length <= 400000000 /\ zW w3 w') :
  Calls Tryz.prog 163 #[.agg #[zI t, zG ⟨s.toArray⟩, zS ax l cx]] w fun e w' => TxPost t B w e w' := by
 obtain ⟨W2, hW2⟩ : ∃ W, W = w.alloc (Obj.cells #[Value.int IntKind.i64 t, Value.string { data := s.toArray }, Value.slice ax l cx] 178) := ⟨_, rfl⟩;have E := formOf_any t s ax l cx W2 hl hs;rw [hF] at E;have HW := one_laid w (zI t) (zG ⟨s.toArray⟩) (zS ax l cx) 178 W2 hW2;have H2 : Hid (zW w W2 /\ w.heap.size < W2.heap.size /\ W2.cell? ⟨w.heap.size, 0, none⟩ = some (zI t)) := ⟨HW.1, HW.2.1, HW.2.2.1⟩;have HEB : Hid (∀ w3, zW w w3 -> Calls Tryz.prog 229 #[zG ⟨s.toArray⟩] w3 fun e w' => ∃ r : List UInt8, e = .returned (zG ⟨r.toArray⟩) /\ B r /\ r.length <= 400000000 /\ zW w3 w') := EB;clear HW hF EB;go_enter Tryz.func163, Tryz.ntmps163;go_wp2_with fail;rw [<- hW2];clear hW2;refine E.mono ?_;rintro e w3 ⟨rfl, hb3⟩;have H3 : Hid (zW w w3 /\ w.heap.size < w3.heap.size /\ w3.cell? ⟨w.heap.size, 0, none⟩ = some (zI t)) := ⟨H2.1.trans (hb3.mono H2.1.size), Nat.lt_of_lt_of_le H2.2.1 hb3.size, (hb3.cell (p := ⟨w.heap.size, 0, none⟩) H2.2.1).trans H2.2.2⟩;clear E H2 hb3;go_wp2_with fail;refine (HEB.out w3 H3.1).mono ?_;rintro e w4 ⟨r, rfl, hBr, hrl, hb4⟩;have H4 : Hid (zW w w4 /\ w.heap.size < w4.heap.size /\ B r) := ⟨H3.1.trans (hb4.mono H3.1.size), Nat.lt_of_lt_of_le H3.2.1 hb4.size, hBr⟩;have cT : w4.cell? ⟨w.heap.size, 0, none⟩ = some (zI t) := (hb4.cell (p := ⟨w.heap.size, 0, none⟩) H3.2.1).trans H3.2.2;clear H3 hb4 hBr HEB;have hwt : IntKind.u8.wrap t = t % 256 := by rw [IntKind.wrap_u8]
 obtain ⟨x, hx⟩ : ∃ x : Int, t % 256 = x := ⟨_, rfl⟩;obtain ⟨b, hb⟩ := zE (UInt8.ofNat (t % 256).toNat);have hxb : x = (b.toNat : Int) := by rw [<- hb, UInt8.toNat_ofNat', <- hx]; omega
 rw [hx] at hwt;have hcv := conv_at x b hxb;have hssz : (⟨r.toArray⟩ : ByteArray).size = r.length := by show r.toArray.size = _; simp
 have EL := fun W => lengthText_any r.length W (by omega)
 obtain ⟨L, hL⟩ : ∃ L : ByteArray, (⟨(lenB r.length).toArray⟩ : ByteArray) = L := ⟨_, rfl⟩;rw [hL] at EL;have HR : Hid ((⟨(UInt8.ofNat (t % 256).toNat :: (lenB r.length ++ r)).toArray⟩ : ByteArray) = ⟨#[b]⟩ ++ L ++ ⟨r.toArray⟩ /\ L.size <= 10) := by
  refine ⟨?_, ?_⟩
  ·rw [hb, <- hL]
   apply ByteArray.ext;simp
  ·rw [<- hL]; show ((lenB r.length).toArray).size <= 10; have := beN_short9 r.length; simpa using this
 have ra := fun W => run_string_add_sum (P := Tryz.prog) W ⟨#[b]⟩ L (by show 1 + L.size <= _; have := HR.2; omega)
 have rb := fun W => run_string_add_sum (P := Tryz.prog) W (⟨#[b]⟩ ++ L) ⟨r.toArray⟩ (by rw [ByteArray.size_append, hssz]; show 1 + L.size + r.length <= _; have := HR.2; omega)
 have hlt2 := H4.2.1;have hne2 := Nat.ne_of_lt hlt2;have HWR : Hid (zW w w4) := H4.1;clear hL hb hx hxb;go_wp2_with fail
 go_region_with (go_at_call 192; refine (EL _).mono ?_; rintro e w5 ⟨rfl, hb5⟩; have cT5 : w5.cell? ⟨w.heap.size, 0, none⟩ = some (zI t) := (hb5.cell (p := ⟨w.heap.size, 0, none⟩) (by first | exact hlt2 | (simp; omega))).trans (by first | exact cT | go_keep); have hcar := fun (p : Addr) (h : p.block < _) => hb5.cell (p := p) h; have hB3 := below_via hb5 (by first | exact HWR.out.drew | exact (HWR.out.drew.alloc HWR.out.drew.size _).drew | exact HWR.out.drew.alloc HWR.out.drew.size _ | exact HWR.out); clear hb5)
 all_goals (
  go_wp2_with fail;go_ret;exact ⟨r, by rw [HR.1]; rfl, H4.2.2, by first | exact hB3 | exact hB3.drew | exact hB3.alloc hB3.size _ | exact hB3.drew.alloc hB3.size _ | exact (hB3.alloc hB3.size _).drew | exact (hB3.drew.alloc hB3.size _).drew⟩)
theorem textOf_row (t : Int) (s : List UInt8) (ax : Option Addr) (l cx : Nat) (w : World) (hl : l <= 20000000) (hs : s.length <= 20000000) (hF : formV t s (zS ax l cx) l = .iface 240 (zS ax l cx)) (B : List UInt8 -> Prop)
  (EB : ∀ w3, zW w w3 -> Calls Tryz.prog 230 #[zS ax l cx] w3 fun e w' => ∃ r : List UInt8, e = .returned (zG ⟨r.toArray⟩) /\ B r /\ r.length <= 400000000 /\ zW w3 w') :
  Calls Tryz.prog 163 #[.agg #[zI t, zG ⟨s.toArray⟩, zS ax l cx]] w fun e w' => TxPost t B w e w' := by
 obtain ⟨W2, hW2⟩ : ∃ W, W = w.alloc (Obj.cells #[Value.int IntKind.i64 t, Value.string { data := s.toArray }, Value.slice ax l cx] 178) := ⟨_, rfl⟩;have E := formOf_any t s ax l cx W2 hl hs;rw [hF] at E;have HW := one_laid w (zI t) (zG ⟨s.toArray⟩) (zS ax l cx) 178 W2 hW2;have H2 : Hid (zW w W2 /\ w.heap.size < W2.heap.size /\ W2.cell? ⟨w.heap.size, 0, none⟩ = some (zI t)) := ⟨HW.1, HW.2.1, HW.2.2.1⟩;have HEB : Hid (∀ w3, zW w w3 -> Calls Tryz.prog 230 #[zS ax l cx] w3 fun e w' => ∃ r : List UInt8, e = .returned (zG ⟨r.toArray⟩) /\ B r /\ r.length <= 400000000 /\ zW w3 w') := EB;clear HW hF EB;go_enter Tryz.func163, Tryz.ntmps163;go_wp2_with fail;rw [<- hW2];clear hW2;refine E.mono ?_;rintro e w3 ⟨rfl, hb3⟩;have H3 : Hid (zW w w3 /\ w.heap.size < w3.heap.size /\ w3.cell? ⟨w.heap.size, 0, none⟩ = some (zI t)) := ⟨H2.1.trans (hb3.mono H2.1.size), Nat.lt_of_lt_of_le H2.2.1 hb3.size, (hb3.cell (p := ⟨w.heap.size, 0, none⟩) H2.2.1).trans H2.2.2⟩;clear E H2 hb3;go_wp2_with fail;refine (HEB.out w3 H3.1).mono ?_;rintro e w4 ⟨r, rfl, hBr, hrl, hb4⟩;have H4 : Hid (zW w w4 /\ w.heap.size < w4.heap.size /\ B r) := ⟨H3.1.trans (hb4.mono H3.1.size), Nat.lt_of_lt_of_le H3.2.1 hb4.size, hBr⟩;have cT : w4.cell? ⟨w.heap.size, 0, none⟩ = some (zI t) := (hb4.cell (p := ⟨w.heap.size, 0, none⟩) H3.2.1).trans H3.2.2;clear H3 hb4 hBr HEB;have hwt : IntKind.u8.wrap t = t % 256 := by rw [IntKind.wrap_u8]
 obtain ⟨x, hx⟩ : ∃ x : Int, t % 256 = x := ⟨_, rfl⟩;obtain ⟨b, hb⟩ := zE (UInt8.ofNat (t % 256).toNat);have hxb : x = (b.toNat : Int) := by rw [<- hb, UInt8.toNat_ofNat', <- hx]; omega
 rw [hx] at hwt;have hcv := conv_at x b hxb;have hssz : (⟨r.toArray⟩ : ByteArray).size = r.length := by show r.toArray.size = _; simp
 have EL := fun W => lengthText_any r.length W (by omega)
 obtain ⟨L, hL⟩ : ∃ L : ByteArray, (⟨(lenB r.length).toArray⟩ : ByteArray) = L := ⟨_, rfl⟩;rw [hL] at EL;have HR : Hid ((⟨(UInt8.ofNat (t % 256).toNat :: (lenB r.length ++ r)).toArray⟩ : ByteArray) = ⟨#[b]⟩ ++ L ++ ⟨r.toArray⟩ /\ L.size <= 10) := by
  refine ⟨?_, ?_⟩
  ·rw [hb, <- hL]
   apply ByteArray.ext;simp
  ·rw [<- hL]; show ((lenB r.length).toArray).size <= 10; have := beN_short9 r.length; simpa using this
 have ra := fun W => run_string_add_sum (P := Tryz.prog) W ⟨#[b]⟩ L (by show 1 + L.size <= _; have := HR.2; omega)
 have rb := fun W => run_string_add_sum (P := Tryz.prog) W (⟨#[b]⟩ ++ L) ⟨r.toArray⟩ (by rw [ByteArray.size_append, hssz]; show 1 + L.size + r.length <= _; have := HR.2; omega)
 have hlt2 := H4.2.1;have hne2 := Nat.ne_of_lt hlt2;have HWR : Hid (zW w w4) := H4.1;clear hL hb hx hxb;go_wp2_with fail
 go_region_with (go_at_call 192; refine (EL _).mono ?_; rintro e w5 ⟨rfl, hb5⟩; have cT5 : w5.cell? ⟨w.heap.size, 0, none⟩ = some (zI t) := (hb5.cell (p := ⟨w.heap.size, 0, none⟩) (by first | exact hlt2 | (simp; omega))).trans (by first | exact cT | go_keep); have hcar := fun (p : Addr) (h : p.block < _) => hb5.cell (p := p) h; have hB3 := below_via hb5 (by first | exact HWR.out.drew | exact (HWR.out.drew.alloc HWR.out.drew.size _).drew | exact HWR.out.drew.alloc HWR.out.drew.size _ | exact HWR.out); clear hb5)
 all_goals (
  go_wp2_with fail;go_ret;exact ⟨r, by rw [HR.1]; rfl, H4.2.2, by first | exact hB3 | exact hB3.drew | exact hB3.alloc hB3.size _ | exact hB3.drew.alloc hB3.size _ | exact (hB3.alloc hB3.size _).drew | exact (hB3.drew.alloc hB3.size _).drew⟩)
theorem leaf_post {n : Nat} {t : Int} {s : List UInt8} {ks : List (It n)} {w w' : World} {e : Ending} (h48 : t ≠ 48) (h : TxPost t (fun r => r = s) w e w') :
  ∃ r : List UInt8, e = .returned (zG ⟨r.toArray⟩) /\ GoodT r (txtI (n + 1) (It.mk t s ks)) /\ r.length <= 11 + 12 * szI (n + 1) (It.mk t s ks) /\ zW w w' := by
 obtain ⟨r, rfl, rfl, hb⟩ := h;have e : txtI (n + 1) (It.mk t r ks) = UInt8.ofNat (t % 256).toNat :: (lenB r.length ++ r) := by
  show UInt8.ofNat (t % 256).toNat :: (lenB (if t = 48 then _ else r).length ++ (if t = 48 then _ else r)) = _;rw [if_neg h48]
 have h1 := txt_le (n + 1) (It.mk t r ks);rw [<- e];exact ⟨_, rfl, GoodT.refl _, h1, hb⟩
theorem row_post {n : Nat} {ks : List (It n)} {w w' : World} {e : Ending} (h : TxPost 48 (fun r => GoodT r ((ks.map (txtI n)).flatten) /\ r.length <= 12 * szS n ks) w e w') :
  ∃ r : List UInt8, e = .returned (zG ⟨r.toArray⟩) /\ GoodT r (txtI (n + 1) (It.mk 48 [] ks)) /\ r.length <= 11 + 12 * szI (n + 1) (It.mk 48 [] ks) /\ zW w w' := by
 obtain ⟨r, rfl, ⟨hg, hl⟩, hb⟩ := h;have e : txtI (n + 1) (It.mk 48 [] ks) = UInt8.ofNat ((48 : Int) % 256).toNat :: (lenB ((ks.map (txtI n)).flatten).length ++ (ks.map (txtI n)).flatten) := rfl;refine ⟨_, rfl, ?_, ?_, hb⟩
 ·rw [e]
  exact GoodT.whole (b := []) hg
 ·have h1 := beN_short9 r.length
  have h2 : szI (n + 1) (It.mk 48 [] ks) = szS n ks := by
   show ([] : List UInt8).length + ks.length + (ks.map (szI n)).sum = ks.length + (ks.map (szI n)).sum;simp
  rw [h2];simp only [List.length_cons, List.length_append];omega
theorem txC_of (n : Nat) (HB : Hid (BdC n)) : TxC n := fun t s ks a d w hx hz hr => by
 have hsz := szI_kid hz;obtain ⟨ax, cx, rfl, hcx⟩ := id hx;rw [right_mk] at hr;by_cases h48 : t = 48
 ·subst h48
  rw [if_neg (by simp)] at hr;simp only [Bool.and_eq_true, List.all_eq_true] at hr;obtain ⟨⟨⟨hs, _⟩, _⟩, hall⟩ := hr;have hs0 := of_decide_eq_true hs;obtain rfl : s = [] := List.eq_nil_of_length_eq_zero hs0;refine (textOf_row 48 [] ax ks.length cx w hsz.2.1 hsz.1 (formV_row _ _) (fun r => GoodT r ((ks.map (txtI n)).flatten) /\ r.length <= 12 * szS n ks) fun w3 hb => ?_).mono fun e w' h => row_post h
  refine (HB.out ks _ (d + 1) w3 (hx.mono hb fun _ _ h => ItAt.below hb h) (szS_of hz) hall).mono ?_;rintro e w' ⟨r, rfl, hg, hl, hb'⟩;have := szS_of hz;exact ⟨r, rfl, ⟨hg, hl⟩, by omega, hb'⟩
 ·rw [if_pos h48, Bool.and_eq_true] at hr
  have hk0 : ks.length = 0 := of_decide_eq_true hr.1;have hp := hr.2;rw [hk0];have done : ∀ w3 : World, ∀ F : Nat, (Calls Tryz.prog F #[zG ⟨s.toArray⟩] w3 fun e w' => e = .returned (zG ⟨s.toArray⟩) /\ zW w3 w') -> Calls Tryz.prog F #[zG ⟨s.toArray⟩] w3 fun e w' => ∃ r : List UInt8, e = .returned (zG ⟨r.toArray⟩) /\ r = s /\ r.length <= 400000000 /\ zW w3 w' :=
   fun w3 F h => h.mono fun e w' ⟨h1, h2⟩ => ⟨s, h1, rfl, by omega, h2⟩
  rcases plainOk_tag hp with rfl | rfl | rfl | rfl
  ·exact (textOf_flag 1 s ax 0 cx w (by omega) hsz.1 (formV_one _ _) (fun r => r = s) fun w3 _ => done w3 _ (body_flag ⟨s.toArray⟩ w3)).mono fun e w' h => leaf_post (by decide) h
  ·exact (textOf_integer 2 s ax 0 cx w (by omega) hsz.1 (formV_two _ _) (fun r => r = s) fun w3 _ => done w3 _ (body_integer ⟨s.toArray⟩ w3)).mono fun e w' h => leaf_post (by decide) h
  ·exact (textOf_plain 12 s ax 0 cx w (by omega) hsz.1 (formV_twelve _ _) (fun r => r = s) fun w3 _ => done w3 _ (body_plain ⟨s.toArray⟩ w3)).mono fun e w' h => leaf_post (by decide) h
  ·exact (textOf_octets 4 s ax 0 cx w (by omega) hsz.1 (formV_four _ _) (fun r => r = s) fun w3 _ => done w3 _ (body_octets ⟨s.toArray⟩ w3)).mono fun e w' h => leaf_post (by decide) h
theorem bdC_any : ∀ (n : Nat), BdC n
 | 0 => bd_zero
 | n + 1 => fun ks v d w hx hz hr => bd_step n (txC_of n (bdC_any n)) ks v d w hx hz hr
theorem textOf_any (n : Nat) : TxC n := txC_of n (bdC_any n)
theorem implItemText_step (n : Nat) (t : Int) (s : List UInt8) (ks : List (It n)) (a : Value) (w : World) (hx : KidsAt w (ItAt w n) a ks) (hz : szI (n + 1) (It.mk t s ks) <= 20000000) :
  Calls Tryz.prog 130 #[.agg #[zI t, zG ⟨s.toArray⟩, a]] w fun e w' => e = .returned (.tuple #[zG ⟨((writeI (n + 1) (It.mk t s ks)).getD []).toArray⟩, .bool (writeI (n + 1) (It.mk t s ks)).isSome]) /\ zW w w' := by
 obtain ⟨ax, cx, rfl, -⟩ := id hx;obtain ⟨W2, hW2⟩ : ∃ W, W = w.alloc (Obj.cells #[Value.int IntKind.i64 t, Value.string { data := s.toArray }, Value.slice ax ks.length cx] 178) := ⟨_, rfl⟩;have HW := one_laid w (zI t) (zG ⟨s.toArray⟩) (zS ax ks.length cx) 178 W2 hW2;have E := implItemOk_any (n + 1) (It.mk t s ks) (.agg #[zI t, zG ⟨s.toArray⟩, zS ax ks.length cx]) W2 ⟨_, rfl, hx.mono HW.1 fun _ _ h => ItAt.below HW.1 h⟩ hz;have HN : Hid (writeI (n + 1) (It.mk t s ks) = if rightI (n + 1) (It.mk t s ks) 0 = true /\ (txtI (n + 1) (It.mk t s ks)).length <= 4000 then some (txtI (n + 1) (It.mk t s ks)) else none) := rfl;have HX : Hid (KidsAt w (ItAt w n) (zS ax ks.length cx) ks /\ szI (n + 1) (It.mk t s ks) <= 20000000) := ⟨hx, hz⟩;obtain ⟨l, hl⟩ := zE (ks.length);have HL : Hid (ks.length = l) := hl;have HC : Hid (zW w W2 /\ w.heap.size < W2.heap.size /\ Cells3 W2 w.heap.size 0 (zI t) (zG ⟨s.toArray⟩) (zS ax ks.length cx)) := ⟨HW.1, HW.2.1, HW.2.2⟩;rw [hl] at hW2 E HX HC |-;clear hx hz HW hl
 cases hr : rightI (n + 1) (It.mk t s ks) 0 with
 | false =>
  rw [hr] at E;have HR : Hid (writeI (n + 1) (It.mk t s ks) = none) := by
   show writeI (n + 1) (It.mk t s ks) = none;rw [HN.out, hr];simp
  clear hr;go_enter Tryz.func130, Tryz.ntmps130;go_wp2_with fail;rw [<- hW2];refine E.mono ?_;rintro e w3 ⟨rfl, hb3⟩;have H3 : Hid (zW w w3) := HC.1.trans (hb3.mono HC.1.size);clear E hb3 hW2;go_wp2_with fail
  go_ret2
  exact ⟨by rw [HR.out]; rfl, H3.out⟩
 | true =>
  rw [hr] at E;have HR : Hid (rightI (n + 1) (It.mk t s ks) 0 = true /\ writeI (n + 1) (It.mk t s ks) = if (txtI (n + 1) (It.mk t s ks)).length <= 4000 then some (txtI (n + 1) (It.mk t s ks)) else none) := by
   refine ⟨hr, ?_⟩;rw [HN.out, hr];simp
  clear hr HN;go_enter Tryz.func130, Tryz.ntmps130;go_wp2_with fail;rw [<- hW2];refine E.mono ?_;rintro e w3 ⟨rfl, hb3⟩;obtain ⟨c0, c1, c2⟩ := HC.2.2.below HC.2.1 hb3;have hbw : zW w w3 := HC.1.trans (hb3.mono HC.1.size);have ET := textOf_any n t s ks (zS ax l cx) 0 w3 (HX.1.mono hbw fun _ _ h => ItAt.below hbw h) HX.2 HR.1;have H3 : Hid (zW w w3) := hbw;clear E hb3 hW2 hbw;rw [show (0 : Nat) + 1 = 1 from rfl] at c1;rw [show (0 : Nat) + 2 = 2 from rfl] at c2;go_wp2_with fail;refine ET.mono ?_;rintro e w4 ⟨r, rfl, hg, hrl, hb4⟩;have hssz : (⟨r.toArray⟩ : ByteArray).size = r.length := by show r.toArray.size = _; simp
  have hr9 : r.length <= 1000000000 := by have := HX.2; omega
  have H4 : Hid (zW w w4 /\ GoodT r (txtI (n + 1) (It.mk t s ks))) := ⟨H3.trans (hb4.mono H3.size), hg⟩;clear ET hb4 hg hrl c0 c1 c2;by_cases hbig : 4000 < r.length
  ·have hbi : (4000 : Int) < (r.length : Int) := by omega
   have HF : Hid (writeI (n + 1) (It.mk t s ks) = none) := by
    show _ = none;rw [HR.2, if_neg];intro hle;have := H4.2.1 hle;rw [this] at hbig;omega
   go_wp2_with fail
   go_ret2
   exact ⟨by rw [HF.out]; rfl, H4.1⟩
  ·have hbi : ¬ (4000 : Int) < (r.length : Int) := by omega
   have HF : Hid (writeI (n + 1) (It.mk t s ks) = some r) := by
    show _ = some r;have hle : (txtI (n + 1) (It.mk t s ks)).length <= 4000 := by
     refine Nat.le_of_not_lt fun hlt => ?_
     exact hbig (H4.2.2 hlt)
    rw [HR.2, if_pos hle, H4.2.1 hle]
   go_wp2_with fail
   go_ret2
   exact ⟨by rw [HF.out]; rfl, H4.1⟩
theorem implItemText_any : ∀ (n : Nat) (x : It n) (v : Value) (w : World), ItAt w n v x -> szI n x <= 20000000 -> Calls Tryz.prog 130 #[v] w fun e w' => e = .returned (.tuple #[zG ⟨((writeI n x).getD []).toArray⟩, .bool (writeI n x).isSome]) /\ zW w w'
 | 0, _, _, _, h, _ => h.elim
 | n + 1, x, v, w, hx, hz => by
  obtain ⟨kx, rfl, hkx⟩ := hx;exact implItemText_step n (It.tag x) (It.text x) (It.kids x) kx w hkx hz
def KG (w W : World) (t s k : Value) : Prop := zW w W /\ Blk3 W w.heap.size t s k /\ ∃ x y z, Blk3 W (w.heap.size + 1) x y z
theorem KG.below {w W W' : World} {t s k : Value} (h : KG w W t s k) (hb : zW W W') : KG w W' t s k := by
 obtain ⟨h1, h2, x, y, z, h3⟩ := h;exact ⟨h1.trans (hb.mono h1.size), h2.below hb, x, y, z, h3.below hb⟩
theorem KG.set {w W : World} {t s k : Value} (h : KG w W t s k) (p q r : Value) : KG w (((W.setCell ⟨w.heap.size + 1, 0, none⟩ p).setCell ⟨w.heap.size + 1, 1, none⟩ q).setCell ⟨w.heap.size + 1, 2, none⟩ r) t s k := by
 obtain ⟨h1, h2, x, y, z, h3⟩ := h;refine ⟨((h1.setCell (p := ⟨w.heap.size + 1, 0, none⟩) (Nat.le_succ _) _).setCell (p := ⟨w.heap.size + 1, 1, none⟩) (Nat.le_succ _) _).setCell (p := ⟨w.heap.size + 1, 2, none⟩) (Nat.le_succ _) _, ?_, p, q, r, ?_⟩
 ·have ne : w.heap.size ≠ w.heap.size + 1 := by omega
  exact ((h2.other (p := ⟨w.heap.size + 1, 0, none⟩) ne _).other (p := ⟨w.heap.size + 1, 1, none⟩) ne _).other (p := ⟨w.heap.size + 1, 2, none⟩) ne _
 ·have e := (((show Blk W (w.heap.size + 1) 178 #[x, y, z] from h3).set 0 p).set 1 q).set 2 r
  exact e
theorem KG.start (w : World) (t s k x y z : Value) (W : World) (hW : W = (w.alloc (Obj.cells #[t, s, k] 178)).alloc (Obj.cells #[x, y, z] 178)) : KG w W t s k := by
 have e0 : (w.alloc (Obj.cells #[t, s, k] 178)).heap.size = w.heap.size + 1 := Array.size_push _;have hb : zW w W := by rw [hW]; exact ((Below.refl _ _).alloc (Nat.le_refl _) _).alloc (by rw [e0]; omega) _
 refine ⟨hb, ?_, x, y, z, ?_⟩
 ·rw [hW]; exact (heap_alloc_old _ _ (by rw [e0]; omega)).trans (heap_alloc_new w _)
 ·rw [hW]
  have h := heap_alloc_new (w.alloc (Obj.cells #[t, s, k] 178)) (Obj.cells #[x, y, z] 178);rw [e0] at h;exact h
theorem RowsK.owns {W W' : World} {b n cap : Nat} {ks : List (It (n + 1))} {kvs : List Value} {fps : List (List Nat)} (h : RowsK W b n ks kvs fps) (hb : b <= W.heap.size) (hnd : fps.flatten.Nodup) (hp : 0 < ks.length) (hc : cap = ks.length)
  (hW : W' = W.alloc (.cells (cellsK ks kvs).toArray 178)) : OwnK W' b (n + 1) (zS (some ⟨W.heap.size, 0, none⟩) cap cap) ks (W.heap.size :: fps.flatten) := by
 subst hc;obtain ⟨h1, h2, h3⟩ := h.each;have hbel : zW W W' := by rw [hW]; exact (Below.refl _ _).alloc (Nat.le_refl _) _
 have hg : W'.heap[W.heap.size]? = some (.cells (cellsK ks kvs).toArray 178 (0, 0)) := by rw [hW]; exact heap_alloc_new W _
 refine ⟨some ⟨W.heap.size, 0, none⟩, ks.length, rfl, fun h => by omega, fun _ => ⟨W.heap.size, 0, ks.length * 3, fun j => (cellsK ks kvs).toArray.getD j (zI 0), fps, rfl, hb, rowV_of hg (by rw [List.size_toArray, cellsK_len h1]), by omega, rfl, ?_, h2.symm, fun j hj hj2 => ?_⟩⟩
 ·refine List.nodup_cons.2 ⟨fun hm => ?_, hnd⟩
  obtain ⟨l, m1, m2⟩ := List.mem_flatten.1 hm;obtain ⟨j, hj, rfl⟩ := List.getElem_of_mem m1;have := (OwnK.lt (h3 j (by omega) (by omega) hj) _ m2).2;omega
 ·obtain ⟨c0, c1, c2⟩ := cellsK_at h1 j hj
  have hcell : ∀ q u, (cellsK ks kvs)[q]? = some u -> (cellsK ks kvs).toArray.getD q (zI 0) = u := fun q u hq => by simp [Array.getD_eq_getD_getElem?, hq]
  show (cellsK ks kvs).toArray.getD (0 + j * 3) _ = _ /\ (cellsK ks kvs).toArray.getD (0 + j * 3 + 1) _ = _ /\ OwnK W' b n ((cellsK ks kvs).toArray.getD (0 + j * 3 + 2) _) _ _;rw [Nat.zero_add, hcell _ _ c0, hcell _ _ c1, hcell _ _ c2];exact ⟨rfl, rfl, (h3 j hj (by omega) hj2).below hbel (fun x hx => (OwnK.lt (h3 j hj (by omega) hj2) x hx).2)⟩
theorem signed_row {W W' : World} {b n : Nat} {x : It (n + 1)} {s : ByteArray} {k : Value} {fp : List Nat} (h : OwnK W b n k (It.kids x) fp) (hb : b <= W.heap.size)
  (hW : W' = W.alloc (.cells #[zI (It.tag x), zG ⟨(It.text x).toArray⟩, k, zI 4, zG s, zZ] 178)) : OwnK W' b (n + 1) (zS (some ⟨W.heap.size, 0, none⟩) 2 2) [x, bytJ s] (W.heap.size :: fp) := by
 have R : RowsK W b n [x, bytJ s] [k, zZ] [fp, []] := ⟨h, own_none W b n, trivial⟩;have := R.owns (W' := W') (cap := 2) hb (by have := h.nodup; simpa using this) (by show 0 < 2; decide) rfl (by rw [hW]; rfl);simpa using this
theorem signedItem_any (n : Nat) (x : It (n + 1)) (t : Int) (S s : ByteArray) (kv : Value) (fp : List Nat) (b : Nat) (w : World) (ht : It.tag x = t) (hS : (⟨(It.text x).toArray⟩ : ByteArray) = S) (hsl : ∃ a l cx, kv = zS a l cx) (hs : s.size <= 20000000) (ho : OwnK w b n kv (It.kids x) fp) (hb : b <= w.heap.size) :
  Calls Tryz.prog 131 #[.agg #[zI t, zG S, kv], zG s] w fun e w' => ∃ q fq, e = .returned (.agg #[zI 48, zG ⟨#[]⟩, zS (some ⟨q, 0, none⟩) 2 2]) /\ OwnK w' b (n + 1) (zS (some ⟨q, 0, none⟩) 2 2) [x, bytJ s] fq /\ zW w w' := by
 obtain ⟨ka, kl, kx, rfl⟩ := hsl;have HO : Hid (OwnK w b n (zS ka kl kx) (It.kids x) fp /\ b <= w.heap.size /\ s.size <= 20000000 /\ It.tag x = t /\ (⟨(It.text x).toArray⟩ : ByteArray) = S) := ⟨ho, hb, hs, ht, hS⟩;clear ho hb hs ht hS;go_enter Tryz.func131, Tryz.ntmps131;go_wp2_with fail;obtain ⟨W0, hW0⟩ : ∃ W, W = (w.alloc (Obj.cells #[zI t, zG S, zS ka kl kx] 178)).alloc (Obj.cells #[Value.int IntKind.i64 0, Value.string ⟨#[]⟩, Value.slice none 0 0] 178) := ⟨_, rfl⟩;rw [<- hW0];have H0 : KG w W0 (zI t) (zG S) (zS ka kl kx) := KG.start w _ _ _ _ _ _ W0 hW0;clear hW0;refine wp_region_held_drew (S := fun W => KG w W (zI t) (zG S) (zS ka kl kx)) (by kernel_rfl) (KG.below H0 ((Below.refl _ _).drew)) (fun hHeld => ?_);clear H0;generalize W0.drew = Wd0 at hHeld |-;refine zT 0 5 ?_ rfl (by rfl) ?_ hHeld ?_;rotate_left
 ·intro W hSw
  obtain ⟨⟨l0, l1, l2⟩, -⟩ := cell_in hSw.2.1;go_simp
  try with_reducible rfl
 refine zQ 1 6 rfl hHeld ?_;refine zR 2 7 rfl fun K hK => ?_
 go_simp;refine (bytesItem_any s _ HO.2.2.1).mono ?_;rintro e v1 ⟨rfl, hv⟩;have hH := KG.below hHeld hv;go_wp2_with fail;refine hK.out _ _ hH (fun hHeld => ?_);clear hK K hH hv;refine zR 3 8 rfl fun K hK => ?_
 have HF : Hid (OwnK (v1.alloc (Obj.cells #[zI t, zG S, zS ka kl kx, zI 4, zG s, zZ] 178)) b (n + 1) (zS (some ⟨v1.heap.size, 0, none⟩) 2 2) [x, bytJ s] (v1.heap.size :: fp)) := by
  have h := HO.out;refine signed_row (h.1.below hHeld.1 (fun y hy => (OwnK.lt h.1 y hy).2)) (Nat.le_trans h.2.1 hHeld.1.size) ?_;rw [h.2.2.2.1, h.2.2.2.2]
 have HS0 : Hid (w.heap.size + 2 <= v1.heap.size /\ b <= w.heap.size) := by
  obtain ⟨_, _, _, _, _, h3⟩ := hHeld;exact ⟨by have := h3.lt; omega, HO.2.1⟩
 have HFP : Hid (∀ y ∈ fp, y < w.heap.size) := fun y hy => (OwnK.lt HO.1 y hy).2
 go_simp;refine hK.out _ _ (KG.below hHeld ((Below.refl _ _).alloc (Nat.le_refl _) _)) (fun hHeld => ?_);clear hK K;refine zQ 4 9 rfl hHeld ?_;refine zN 5 rfl fun K hK => ?_
 obtain ⟨W9, hW9⟩ : ∃ W, W = v1.alloc (Obj.cells #[zI t, zG S, zS ka kl kx, zI 4, zG s, zZ] 178) := ⟨_, rfl⟩;obtain ⟨q9, hq9⟩ := zE (v1.heap.size);rw [<- hW9] at HF hHeld |-;rw [hq9] at HF HS0 |-;clear hW9 hq9;obtain ⟨x9, y9, z9, hB9⟩ := hHeld.2.2;obtain ⟨⟨r0, r1, r2⟩, rf⟩ := cell_in hB9;go_simp;refine hK.out _ _ (KG.set hHeld _ _ _) (fun hHeld => ?_);clear hK K;refine wpAnyH_done (by kernel_rfl) ?_ _;have HEND : Hid (zW w _) := hHeld.1;clear hHeld;go_wp2_with fail;refine bodyPost_ret (v := .agg #[zI 48, zG ⟨#[]⟩, zS (some ⟨q9, 0, none⟩) 2 2]) (by simp [results, Tryz.results131, go_sem, r0, r1, r2]; try rfl) rfl ?_;refine ⟨q9, _, rfl, HF.same fun y hy => ?_, HEND.out⟩;have h2 := HS0.1;have ne : y ≠ w.heap.size + 1 := by
  rcases List.mem_cons.1 hy with rfl | hy
  ·omega
  ·have := HFP.out y hy; omega
 rw [heap_setCell_other _ _ _ _ (by show y ≠ w.heap.size + 1; exact ne), heap_setCell_other _ _ _ _ (by show y ≠ w.heap.size + 1; exact ne), heap_setCell_other _ _ _ _ (by show y ≠ w.heap.size + 1; exact ne)]
end Go.Proofs.YtabfamhaihnccaaGreat
