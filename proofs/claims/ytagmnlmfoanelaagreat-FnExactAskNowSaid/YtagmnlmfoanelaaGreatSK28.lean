/-
  Texts of the proof.
-/
import Derived.Test.YtagmnlmfoanelaaGreatSK27
set_option maxRecDepth 100000
set_option maxHeartbeats 25600000
namespace Go.Proofs.YtagmnlmfoanelaaGreat
open Go.RowKit Der
set_option linter.unusedVariables false
set_option linter.unusedSimpArgs false
theorem body_flag (s : ByteArray) (w : World) : Calls Tryz.prog 128 #[.string s] w fun e w' => e = .returned (.string s) /\ Below w.heap.size w w' := by
 go_enter Tryz.func128, Tryz.ntmps128
 go_wp2_with fail
 go_ret
 exact ⟨rfl, Below.refl _ _⟩
theorem body_integer (s : ByteArray) (w : World) : Calls Tryz.prog 129 #[.string s] w fun e w' => e = .returned (.string s) /\ Below w.heap.size w w' := by
 go_enter Tryz.func129, Tryz.ntmps129
 go_wp2_with fail
 go_ret
 exact ⟨rfl, Below.refl _ _⟩
theorem body_octets (s : ByteArray) (w : World) : Calls Tryz.prog 130 #[.string s] w fun e w' => e = .returned (.string s) /\ Below w.heap.size w w' := by
 go_enter Tryz.func130, Tryz.ntmps130
 go_wp2_with fail
 go_ret
 exact ⟨rfl, Below.refl _ _⟩
theorem body_plain (s : ByteArray) (w : World) : Calls Tryz.prog 131 #[.string s] w fun e w' => e = .returned (.string s) /\ Below w.heap.size w w' := by
 go_enter Tryz.func131, Tryz.ntmps131
 go_wp2_with fail
 go_ret
 exact ⟨rfl, Below.refl _ _⟩
def TxPost (t : Int) (B : List UInt8 -> Prop) (w : World) (e : Ending) (w' : World) : Prop := ∃ r : List UInt8, e = .returned (.string ⟨(UInt8.ofNat (t % 256).toNat :: (lenB r.length ++ r)).toArray⟩) /\ B r /\ Below w.heap.size w w'
theorem textOf_flag (t : Int) (s : List UInt8) (ax : Option Addr) (l cx : Nat) (w : World) (hl : l <= 20000000) (hs : s.length <= 20000000) (hF : formV t s (.slice ax l cx) l = .iface 138 (.string ⟨s.toArray⟩)) (B : List UInt8 -> Prop)
  (EB : ∀ w3, Below w.heap.size w w3 -> Calls Tryz.prog 128 #[.string ⟨s.toArray⟩] w3 fun e w' => ∃ r : List UInt8, e = .returned (.string ⟨r.toArray⟩) /\ B r /\ r.length <= 400000000 /\ Below w3.heap.size w3 w') :
  Calls Tryz.prog 89 #[.agg #[.int .i64 t, .string ⟨s.toArray⟩, .slice ax l cx]] w fun e w' => TxPost t B w e w' := by
 obtain ⟨W2, hW2⟩ : ∃ W, W = w.alloc (Obj.cells #[Value.int IntKind.i64 t, Value.string { data := s.toArray }, Value.slice ax l cx] 87) := ⟨_, rfl⟩
 have E := formOf_any t s ax l cx W2 hl hs
 rw [hF] at E
 have HW := one_laid w (.int .i64 t) (.string ⟨s.toArray⟩) (.slice ax l cx) 87 W2 hW2
 have H2 := zH (zJ HW.1 (zJ HW.2.1 HW.2.2.1))
 have HEB : Hid (∀ w3, Below w.heap.size w w3 -> Calls Tryz.prog 128 #[.string ⟨s.toArray⟩] w3 fun e w' => ∃ r : List UInt8, e = .returned (.string ⟨r.toArray⟩) /\ B r /\ r.length <= 400000000 /\ Below w3.heap.size w3 w') := EB
 clear HW hF EB
 go_enter Tryz.func89, Tryz.ntmps89
 go_wp2_with fail
 rw [<- hW2]
 clear hW2
 refine E.mono ?_
 rintro e w3 ⟨rfl, hb3⟩
 have H3 := zH (zJ (H2.out.1.trans (hb3.mono H2.out.1.size)) (zJ (Nat.lt_of_lt_of_le H2.out.2.1 hb3.size) ((hb3.cell (p := ⟨w.heap.size, 0, none⟩) H2.out.2.1).trans H2.out.2.2 : w3.cell? ⟨w.heap.size, 0, none⟩ = some (.int .i64 t))))
 clear E H2 hb3
 go_wp2_with fail
 refine (HEB.out w3 H3.out.1).mono ?_
 rintro e w4 ⟨r, rfl, hBr, hrl, hb4⟩
 have H4 := zH (zJ (H3.out.1.trans (hb4.mono H3.out.1.size)) (zJ (Nat.lt_of_lt_of_le H3.out.2.1 hb4.size) (hBr : B r)))
 have cT : w4.cell? ⟨w.heap.size, 0, none⟩ = some (.int .i64 t) := (hb4.cell (p := ⟨w.heap.size, 0, none⟩) H3.out.2.1).trans H3.out.2.2
 clear H3 hb4 hBr HEB
 have hwt : IntKind.u8.wrap t = t % 256 := by rw [IntKind.wrap_u8]
 obtain ⟨x, hx⟩ : ∃ x : Int, t % 256 = x := ⟨_, rfl⟩
 obtain ⟨b, hb⟩ := zE (UInt8.ofNat (t % 256).toNat)
 have hxb : x = (b.toNat : Int) := by rw [<- hb, UInt8.toNat_ofNat', <- hx]; omega
 rw [hx] at hwt
 have hcv := conv_at x b hxb
 have hssz : (⟨r.toArray⟩ : ByteArray).size = r.length := by show r.toArray.size = _; simp
 have EL := fun W => lengthText_any r.length W (by omega)
 obtain ⟨L, hL⟩ : ∃ L : ByteArray, (⟨(lenB r.length).toArray⟩ : ByteArray) = L := ⟨_, rfl⟩
 rw [hL] at EL
 have HR : Hid ((⟨(UInt8.ofNat (t % 256).toNat :: (lenB r.length ++ r)).toArray⟩ : ByteArray) = ⟨#[b]⟩ ++ L ++ ⟨r.toArray⟩ /\ L.size <= 10) := by
  refine ⟨?_, ?_⟩
  ·rw [hb, <- hL]
   apply ByteArray.ext
   simp
  ·rw [<- hL]; show ((lenB r.length).toArray).size <= 10; have := beN_short9 r.length; simpa using this
 have ra := fun W => run_string_add_sum (P := Tryz.prog) W ⟨#[b]⟩ L (by show 1 + L.size <= _; have := HR.out.2; omega)
 have rb := fun W => run_string_add_sum (P := Tryz.prog) W (⟨#[b]⟩ ++ L) ⟨r.toArray⟩ (by rw [ByteArray.size_append, hssz]; show 1 + L.size + r.length <= _; have := HR.out.2; omega)
 have hlt2 := H4.out.2.1
 have hne2 := Nat.ne_of_lt hlt2
 have HWR : Hid (Below w.heap.size w w4) := H4.out.1
 clear hL hb hx hxb
 go_wp2_with fail
 go_region_with (go_at_call 103; refine (EL _).mono ?_; rintro e w5 ⟨rfl, hb5⟩; have cT5 : w5.cell? ⟨w.heap.size, 0, none⟩ = some (.int .i64 t) := (hb5.cell (p := ⟨w.heap.size, 0, none⟩) (by first | exact hlt2 | (simp; omega))).trans (by first | exact cT | go_keep); have hcar := fun (p : Addr) (h : p.block < _) => hb5.cell (p := p) h; have hB3 := below_via hb5 (by first | exact HWR.out.drew | exact (HWR.out.drew.alloc HWR.out.drew.size _).drew | exact HWR.out.drew.alloc HWR.out.drew.size _ | exact HWR.out); clear hb5)
 all_goals (
  go_wp2_with fail
  go_ret
  exact ⟨r, by rw [HR.out.1]; rfl, H4.out.2.2, by first | exact hB3 | exact hB3.drew | exact hB3.alloc hB3.size _ | exact hB3.drew.alloc hB3.size _ | exact (hB3.alloc hB3.size _).drew | exact (hB3.drew.alloc hB3.size _).drew⟩)
theorem textOf_integer (t : Int) (s : List UInt8) (ax : Option Addr) (l cx : Nat) (w : World) (hl : l <= 20000000) (hs : s.length <= 20000000) (hF : formV t s (.slice ax l cx) l = .iface 139 (.string ⟨s.toArray⟩)) (B : List UInt8 -> Prop)
  (EB : ∀ w3, Below w.heap.size w w3 -> Calls Tryz.prog 129 #[.string ⟨s.toArray⟩] w3 fun e w' => ∃ r : List UInt8, e = .returned (.string ⟨r.toArray⟩) /\ B r /\ r.length <= 400000000 /\ Below w3.heap.size w3 w') :
  Calls Tryz.prog 89 #[.agg #[.int .i64 t, .string ⟨s.toArray⟩, .slice ax l cx]] w fun e w' => TxPost t B w e w' := by
 obtain ⟨W2, hW2⟩ : ∃ W, W = w.alloc (Obj.cells #[Value.int IntKind.i64 t, Value.string { data := s.toArray }, Value.slice ax l cx] 87) := ⟨_, rfl⟩
 have E := formOf_any t s ax l cx W2 hl hs
 rw [hF] at E
 have HW := one_laid w (.int .i64 t) (.string ⟨s.toArray⟩) (.slice ax l cx) 87 W2 hW2
 have H2 := zH (zJ HW.1 (zJ HW.2.1 HW.2.2.1))
 have HEB : Hid (∀ w3, Below w.heap.size w w3 -> Calls Tryz.prog 129 #[.string ⟨s.toArray⟩] w3 fun e w' => ∃ r : List UInt8, e = .returned (.string ⟨r.toArray⟩) /\ B r /\ r.length <= 400000000 /\ Below w3.heap.size w3 w') := EB
 clear HW hF EB
 go_enter Tryz.func89, Tryz.ntmps89
 go_wp2_with fail
 rw [<- hW2]
 clear hW2
 refine E.mono ?_
 rintro e w3 ⟨rfl, hb3⟩
 have H3 := zH (zJ (H2.out.1.trans (hb3.mono H2.out.1.size)) (zJ (Nat.lt_of_lt_of_le H2.out.2.1 hb3.size) ((hb3.cell (p := ⟨w.heap.size, 0, none⟩) H2.out.2.1).trans H2.out.2.2 : w3.cell? ⟨w.heap.size, 0, none⟩ = some (.int .i64 t))))
 clear E H2 hb3
 go_wp2_with fail
 refine (HEB.out w3 H3.out.1).mono ?_
 rintro e w4 ⟨r, rfl, hBr, hrl, hb4⟩
 have H4 := zH (zJ (H3.out.1.trans (hb4.mono H3.out.1.size)) (zJ (Nat.lt_of_lt_of_le H3.out.2.1 hb4.size) (hBr : B r)))
 have cT : w4.cell? ⟨w.heap.size, 0, none⟩ = some (.int .i64 t) := (hb4.cell (p := ⟨w.heap.size, 0, none⟩) H3.out.2.1).trans H3.out.2.2
 clear H3 hb4 hBr HEB
 have hwt : IntKind.u8.wrap t = t % 256 := by rw [IntKind.wrap_u8]
 obtain ⟨x, hx⟩ : ∃ x : Int, t % 256 = x := ⟨_, rfl⟩
 obtain ⟨b, hb⟩ := zE (UInt8.ofNat (t % 256).toNat)
 have hxb : x = (b.toNat : Int) := by rw [<- hb, UInt8.toNat_ofNat', <- hx]; omega
 rw [hx] at hwt
 have hcv := conv_at x b hxb
 have hssz : (⟨r.toArray⟩ : ByteArray).size = r.length := by show r.toArray.size = _; simp
 have EL := fun W => lengthText_any r.length W (by omega)
 obtain ⟨L, hL⟩ : ∃ L : ByteArray, (⟨(lenB r.length).toArray⟩ : ByteArray) = L := ⟨_, rfl⟩
 rw [hL] at EL
 have HR : Hid ((⟨(UInt8.ofNat (t % 256).toNat :: (lenB r.length ++ r)).toArray⟩ : ByteArray) = ⟨#[b]⟩ ++ L ++ ⟨r.toArray⟩ /\ L.size <= 10) := by
  refine ⟨?_, ?_⟩
  ·rw [hb, <- hL]
   apply ByteArray.ext
   simp
  ·rw [<- hL]; show ((lenB r.length).toArray).size <= 10; have := beN_short9 r.length; simpa using this
 have ra := fun W => run_string_add_sum (P := Tryz.prog) W ⟨#[b]⟩ L (by show 1 + L.size <= _; have := HR.out.2; omega)
 have rb := fun W => run_string_add_sum (P := Tryz.prog) W (⟨#[b]⟩ ++ L) ⟨r.toArray⟩ (by rw [ByteArray.size_append, hssz]; show 1 + L.size + r.length <= _; have := HR.out.2; omega)
 have hlt2 := H4.out.2.1
 have hne2 := Nat.ne_of_lt hlt2
 have HWR : Hid (Below w.heap.size w w4) := H4.out.1
 clear hL hb hx hxb
 go_wp2_with fail
 go_region_with (go_at_call 103; refine (EL _).mono ?_; rintro e w5 ⟨rfl, hb5⟩; have cT5 : w5.cell? ⟨w.heap.size, 0, none⟩ = some (.int .i64 t) := (hb5.cell (p := ⟨w.heap.size, 0, none⟩) (by first | exact hlt2 | (simp; omega))).trans (by first | exact cT | go_keep); have hcar := fun (p : Addr) (h : p.block < _) => hb5.cell (p := p) h; have hB3 := below_via hb5 (by first | exact HWR.out.drew | exact (HWR.out.drew.alloc HWR.out.drew.size _).drew | exact HWR.out.drew.alloc HWR.out.drew.size _ | exact HWR.out); clear hb5)
 all_goals (
  go_wp2_with fail
  go_ret
  exact ⟨r, by rw [HR.out.1]; rfl, H4.out.2.2, by first | exact hB3 | exact hB3.drew | exact hB3.alloc hB3.size _ | exact hB3.drew.alloc hB3.size _ | exact (hB3.alloc hB3.size _).drew | exact (hB3.drew.alloc hB3.size _).drew⟩)
theorem textOf_octets (t : Int) (s : List UInt8) (ax : Option Addr) (l cx : Nat) (w : World) (hl : l <= 20000000) (hs : s.length <= 20000000) (hF : formV t s (.slice ax l cx) l = .iface 141 (.string ⟨s.toArray⟩)) (B : List UInt8 -> Prop)
  (EB : ∀ w3, Below w.heap.size w w3 -> Calls Tryz.prog 130 #[.string ⟨s.toArray⟩] w3 fun e w' => ∃ r : List UInt8, e = .returned (.string ⟨r.toArray⟩) /\ B r /\ r.length <= 400000000 /\ Below w3.heap.size w3 w') :
  Calls Tryz.prog 89 #[.agg #[.int .i64 t, .string ⟨s.toArray⟩, .slice ax l cx]] w fun e w' => TxPost t B w e w' := by
 obtain ⟨W2, hW2⟩ : ∃ W, W = w.alloc (Obj.cells #[Value.int IntKind.i64 t, Value.string { data := s.toArray }, Value.slice ax l cx] 87) := ⟨_, rfl⟩
 have E := formOf_any t s ax l cx W2 hl hs
 rw [hF] at E
 have HW := one_laid w (.int .i64 t) (.string ⟨s.toArray⟩) (.slice ax l cx) 87 W2 hW2
 have H2 := zH (zJ HW.1 (zJ HW.2.1 HW.2.2.1))
 have HEB : Hid (∀ w3, Below w.heap.size w w3 -> Calls Tryz.prog 130 #[.string ⟨s.toArray⟩] w3 fun e w' => ∃ r : List UInt8, e = .returned (.string ⟨r.toArray⟩) /\ B r /\ r.length <= 400000000 /\ Below w3.heap.size w3 w') := EB
 clear HW hF EB
 go_enter Tryz.func89, Tryz.ntmps89
 go_wp2_with fail
 rw [<- hW2]
 clear hW2
 refine E.mono ?_
 rintro e w3 ⟨rfl, hb3⟩
 have H3 := zH (zJ (H2.out.1.trans (hb3.mono H2.out.1.size)) (zJ (Nat.lt_of_lt_of_le H2.out.2.1 hb3.size) ((hb3.cell (p := ⟨w.heap.size, 0, none⟩) H2.out.2.1).trans H2.out.2.2 : w3.cell? ⟨w.heap.size, 0, none⟩ = some (.int .i64 t))))
 clear E H2 hb3
 go_wp2_with fail
 refine (HEB.out w3 H3.out.1).mono ?_
 rintro e w4 ⟨r, rfl, hBr, hrl, hb4⟩
 have H4 := zH (zJ (H3.out.1.trans (hb4.mono H3.out.1.size)) (zJ (Nat.lt_of_lt_of_le H3.out.2.1 hb4.size) (hBr : B r)))
 have cT : w4.cell? ⟨w.heap.size, 0, none⟩ = some (.int .i64 t) := (hb4.cell (p := ⟨w.heap.size, 0, none⟩) H3.out.2.1).trans H3.out.2.2
 clear H3 hb4 hBr HEB
 have hwt : IntKind.u8.wrap t = t % 256 := by rw [IntKind.wrap_u8]
 obtain ⟨x, hx⟩ : ∃ x : Int, t % 256 = x := ⟨_, rfl⟩
 obtain ⟨b, hb⟩ := zE (UInt8.ofNat (t % 256).toNat)
 have hxb : x = (b.toNat : Int) := by rw [<- hb, UInt8.toNat_ofNat', <- hx]; omega
 rw [hx] at hwt
 have hcv := conv_at x b hxb
 have hssz : (⟨r.toArray⟩ : ByteArray).size = r.length := by show r.toArray.size = _; simp
 have EL := fun W => lengthText_any r.length W (by omega)
 obtain ⟨L, hL⟩ : ∃ L : ByteArray, (⟨(lenB r.length).toArray⟩ : ByteArray) = L := ⟨_, rfl⟩
 rw [hL] at EL
 have HR : Hid ((⟨(UInt8.ofNat (t % 256).toNat :: (lenB r.length ++ r)).toArray⟩ : ByteArray) = ⟨#[b]⟩ ++ L ++ ⟨r.toArray⟩ /\ L.size <= 10) := by
  refine ⟨?_, ?_⟩
  ·rw [hb, <- hL]
   apply ByteArray.ext
   simp
  ·rw [<- hL]; show ((lenB r.length).toArray).size <= 10; have := beN_short9 r.length; simpa using this
 have ra := fun W => run_string_add_sum (P := Tryz.prog) W ⟨#[b]⟩ L (by show 1 + L.size <= _; have := HR.out.2; omega)
 have rb := fun W => run_string_add_sum (P := Tryz.prog) W (⟨#[b]⟩ ++ L) ⟨r.toArray⟩ (by rw [ByteArray.size_append, hssz]; show 1 + L.size + r.length <= _; have := HR.out.2; omega)
 have hlt2 := H4.out.2.1
 have hne2 := Nat.ne_of_lt hlt2
 have HWR : Hid (Below w.heap.size w w4) := H4.out.1
 clear hL hb hx hxb
 go_wp2_with fail
 go_region_with (go_at_call 103; refine (EL _).mono ?_; rintro e w5 ⟨rfl, hb5⟩; have cT5 : w5.cell? ⟨w.heap.size, 0, none⟩ = some (.int .i64 t) := (hb5.cell (p := ⟨w.heap.size, 0, none⟩) (by first | exact hlt2 | (simp; omega))).trans (by first | exact cT | go_keep); have hcar := fun (p : Addr) (h : p.block < _) => hb5.cell (p := p) h; have hB3 := below_via hb5 (by first | exact HWR.out.drew | exact (HWR.out.drew.alloc HWR.out.drew.size _).drew | exact HWR.out.drew.alloc HWR.out.drew.size _ | exact HWR.out); clear hb5)
 all_goals (
  go_wp2_with fail
  go_ret
  exact ⟨r, by rw [HR.out.1]; rfl, H4.out.2.2, by first | exact hB3 | exact hB3.drew | exact hB3.alloc hB3.size _ | exact hB3.drew.alloc hB3.size _ | exact (hB3.alloc hB3.size _).drew | exact (hB3.drew.alloc hB3.size _).drew⟩)
theorem textOf_plain (t : Int) (s : List UInt8) (ax : Option Addr) (l cx : Nat) (w : World) (hl : l <= 20000000) (hs : s.length <= 20000000) (hF : formV t s (.slice ax l cx) l = .iface 142 (.string ⟨s.toArray⟩)) (B : List UInt8 -> Prop)
  (EB : ∀ w3, Below w.heap.size w w3 -> Calls Tryz.prog 131 #[.string ⟨s.toArray⟩] w3 fun e w' => ∃ r : List UInt8, e = .returned (.string ⟨r.toArray⟩) /\ B r /\ r.length <= 400000000 /\ Below w3.heap.size w3 w') :
  Calls Tryz.prog 89 #[.agg #[.int .i64 t, .string ⟨s.toArray⟩, .slice ax l cx]] w fun e w' => TxPost t B w e w' := by
 obtain ⟨W2, hW2⟩ : ∃ W, W = w.alloc (Obj.cells #[Value.int IntKind.i64 t, Value.string { data := s.toArray }, Value.slice ax l cx] 87) := ⟨_, rfl⟩
 have E := formOf_any t s ax l cx W2 hl hs
 rw [hF] at E
 have HW := one_laid w (.int .i64 t) (.string ⟨s.toArray⟩) (.slice ax l cx) 87 W2 hW2
 have H2 := zH (zJ HW.1 (zJ HW.2.1 HW.2.2.1))
 have HEB : Hid (∀ w3, Below w.heap.size w w3 -> Calls Tryz.prog 131 #[.string ⟨s.toArray⟩] w3 fun e w' => ∃ r : List UInt8, e = .returned (.string ⟨r.toArray⟩) /\ B r /\ r.length <= 400000000 /\ Below w3.heap.size w3 w') := EB
 clear HW hF EB
 go_enter Tryz.func89, Tryz.ntmps89
 go_wp2_with fail
 rw [<- hW2]
 clear hW2
 refine E.mono ?_
 rintro e w3 ⟨rfl, hb3⟩
 have H3 := zH (zJ (H2.out.1.trans (hb3.mono H2.out.1.size)) (zJ (Nat.lt_of_lt_of_le H2.out.2.1 hb3.size) ((hb3.cell (p := ⟨w.heap.size, 0, none⟩) H2.out.2.1).trans H2.out.2.2 : w3.cell? ⟨w.heap.size, 0, none⟩ = some (.int .i64 t))))
 clear E H2 hb3
 go_wp2_with fail
 refine (HEB.out w3 H3.out.1).mono ?_
 rintro e w4 ⟨r, rfl, hBr, hrl, hb4⟩
 have H4 := zH (zJ (H3.out.1.trans (hb4.mono H3.out.1.size)) (zJ (Nat.lt_of_lt_of_le H3.out.2.1 hb4.size) (hBr : B r)))
 have cT : w4.cell? ⟨w.heap.size, 0, none⟩ = some (.int .i64 t) := (hb4.cell (p := ⟨w.heap.size, 0, none⟩) H3.out.2.1).trans H3.out.2.2
 clear H3 hb4 hBr HEB
 have hwt : IntKind.u8.wrap t = t % 256 := by rw [IntKind.wrap_u8]
 obtain ⟨x, hx⟩ : ∃ x : Int, t % 256 = x := ⟨_, rfl⟩
 obtain ⟨b, hb⟩ := zE (UInt8.ofNat (t % 256).toNat)
 have hxb : x = (b.toNat : Int) := by rw [<- hb, UInt8.toNat_ofNat', <- hx]; omega
 rw [hx] at hwt
 have hcv := conv_at x b hxb
 have hssz : (⟨r.toArray⟩ : ByteArray).size = r.length := by show r.toArray.size = _; simp
 have EL := fun W => lengthText_any r.length W (by omega)
 obtain ⟨L, hL⟩ : ∃ L : ByteArray, (⟨(lenB r.length).toArray⟩ : ByteArray) = L := ⟨_, rfl⟩
 rw [hL] at EL
 have HR : Hid ((⟨(UInt8.ofNat (t % 256).toNat :: (lenB r.length ++ r)).toArray⟩ : ByteArray) = ⟨#[b]⟩ ++ L ++ ⟨r.toArray⟩ /\ L.size <= 10) := by
  refine ⟨?_, ?_⟩
  ·rw [hb, <- hL]
   apply ByteArray.ext
   simp
  ·rw [<- hL]; show ((lenB r.length).toArray).size <= 10; have := beN_short9 r.length; simpa using this
 have ra := fun W => run_string_add_sum (P := Tryz.prog) W ⟨#[b]⟩ L (by show 1 + L.size <= _; have := HR.out.2; omega)
 have rb := fun W => run_string_add_sum (P := Tryz.prog) W (⟨#[b]⟩ ++ L) ⟨r.toArray⟩ (by rw [ByteArray.size_append, hssz]; show 1 + L.size + r.length <= _; have := HR.out.2; omega)
 have hlt2 := H4.out.2.1
 have hne2 := Nat.ne_of_lt hlt2
 have HWR : Hid (Below w.heap.size w w4) := H4.out.1
 clear hL hb hx hxb
 go_wp2_with fail
 go_region_with (go_at_call 103; refine (EL _).mono ?_; rintro e w5 ⟨rfl, hb5⟩; have cT5 : w5.cell? ⟨w.heap.size, 0, none⟩ = some (.int .i64 t) := (hb5.cell (p := ⟨w.heap.size, 0, none⟩) (by first | exact hlt2 | (simp; omega))).trans (by first | exact cT | go_keep); have hcar := fun (p : Addr) (h : p.block < _) => hb5.cell (p := p) h; have hB3 := below_via hb5 (by first | exact HWR.out.drew | exact (HWR.out.drew.alloc HWR.out.drew.size _).drew | exact HWR.out.drew.alloc HWR.out.drew.size _ | exact HWR.out); clear hb5)
 all_goals (
  go_wp2_with fail
  go_ret
  exact ⟨r, by rw [HR.out.1]; rfl, H4.out.2.2, by first | exact hB3 | exact hB3.drew | exact hB3.alloc hB3.size _ | exact hB3.drew.alloc hB3.size _ | exact (hB3.alloc hB3.size _).drew | exact (hB3.drew.alloc hB3.size _).drew⟩)
theorem textOf_row (t : Int) (s : List UInt8) (ax : Option Addr) (l cx : Nat) (w : World) (hl : l <= 20000000) (hs : s.length <= 20000000) (hF : formV t s (.slice ax l cx) l = .iface 143 (.slice ax l cx)) (B : List UInt8 -> Prop)
  (EB : ∀ w3, Below w.heap.size w w3 -> Calls Tryz.prog 132 #[.slice ax l cx] w3 fun e w' => ∃ r : List UInt8, e = .returned (.string ⟨r.toArray⟩) /\ B r /\ r.length <= 400000000 /\ Below w3.heap.size w3 w') :
  Calls Tryz.prog 89 #[.agg #[.int .i64 t, .string ⟨s.toArray⟩, .slice ax l cx]] w fun e w' => TxPost t B w e w' := by
 obtain ⟨W2, hW2⟩ : ∃ W, W = w.alloc (Obj.cells #[Value.int IntKind.i64 t, Value.string { data := s.toArray }, Value.slice ax l cx] 87) := ⟨_, rfl⟩
 have E := formOf_any t s ax l cx W2 hl hs
 rw [hF] at E
 have HW := one_laid w (.int .i64 t) (.string ⟨s.toArray⟩) (.slice ax l cx) 87 W2 hW2
 have H2 := zH (zJ HW.1 (zJ HW.2.1 HW.2.2.1))
 have HEB : Hid (∀ w3, Below w.heap.size w w3 -> Calls Tryz.prog 132 #[.slice ax l cx] w3 fun e w' => ∃ r : List UInt8, e = .returned (.string ⟨r.toArray⟩) /\ B r /\ r.length <= 400000000 /\ Below w3.heap.size w3 w') := EB
 clear HW hF EB
 go_enter Tryz.func89, Tryz.ntmps89
 go_wp2_with fail
 rw [<- hW2]
 clear hW2
 refine E.mono ?_
 rintro e w3 ⟨rfl, hb3⟩
 have H3 := zH (zJ (H2.out.1.trans (hb3.mono H2.out.1.size)) (zJ (Nat.lt_of_lt_of_le H2.out.2.1 hb3.size) ((hb3.cell (p := ⟨w.heap.size, 0, none⟩) H2.out.2.1).trans H2.out.2.2 : w3.cell? ⟨w.heap.size, 0, none⟩ = some (.int .i64 t))))
 clear E H2 hb3
 go_wp2_with fail
 refine (HEB.out w3 H3.out.1).mono ?_
 rintro e w4 ⟨r, rfl, hBr, hrl, hb4⟩
 have H4 := zH (zJ (H3.out.1.trans (hb4.mono H3.out.1.size)) (zJ (Nat.lt_of_lt_of_le H3.out.2.1 hb4.size) (hBr : B r)))
 have cT : w4.cell? ⟨w.heap.size, 0, none⟩ = some (.int .i64 t) := (hb4.cell (p := ⟨w.heap.size, 0, none⟩) H3.out.2.1).trans H3.out.2.2
 clear H3 hb4 hBr HEB
 have hwt : IntKind.u8.wrap t = t % 256 := by rw [IntKind.wrap_u8]
 obtain ⟨x, hx⟩ : ∃ x : Int, t % 256 = x := ⟨_, rfl⟩
 obtain ⟨b, hb⟩ := zE (UInt8.ofNat (t % 256).toNat)
 have hxb : x = (b.toNat : Int) := by rw [<- hb, UInt8.toNat_ofNat', <- hx]; omega
 rw [hx] at hwt
 have hcv := conv_at x b hxb
 have hssz : (⟨r.toArray⟩ : ByteArray).size = r.length := by show r.toArray.size = _; simp
 have EL := fun W => lengthText_any r.length W (by omega)
 obtain ⟨L, hL⟩ : ∃ L : ByteArray, (⟨(lenB r.length).toArray⟩ : ByteArray) = L := ⟨_, rfl⟩
 rw [hL] at EL
 have HR : Hid ((⟨(UInt8.ofNat (t % 256).toNat :: (lenB r.length ++ r)).toArray⟩ : ByteArray) = ⟨#[b]⟩ ++ L ++ ⟨r.toArray⟩ /\ L.size <= 10) := by
  refine ⟨?_, ?_⟩
  ·rw [hb, <- hL]
   apply ByteArray.ext
   simp
  ·rw [<- hL]; show ((lenB r.length).toArray).size <= 10; have := beN_short9 r.length; simpa using this
 have ra := fun W => run_string_add_sum (P := Tryz.prog) W ⟨#[b]⟩ L (by show 1 + L.size <= _; have := HR.out.2; omega)
 have rb := fun W => run_string_add_sum (P := Tryz.prog) W (⟨#[b]⟩ ++ L) ⟨r.toArray⟩ (by rw [ByteArray.size_append, hssz]; show 1 + L.size + r.length <= _; have := HR.out.2; omega)
 have hlt2 := H4.out.2.1
 have hne2 := Nat.ne_of_lt hlt2
 have HWR : Hid (Below w.heap.size w w4) := H4.out.1
 clear hL hb hx hxb
 go_wp2_with fail
 go_region_with (go_at_call 103; refine (EL _).mono ?_; rintro e w5 ⟨rfl, hb5⟩; have cT5 : w5.cell? ⟨w.heap.size, 0, none⟩ = some (.int .i64 t) := (hb5.cell (p := ⟨w.heap.size, 0, none⟩) (by first | exact hlt2 | (simp; omega))).trans (by first | exact cT | go_keep); have hcar := fun (p : Addr) (h : p.block < _) => hb5.cell (p := p) h; have hB3 := below_via hb5 (by first | exact HWR.out.drew | exact (HWR.out.drew.alloc HWR.out.drew.size _).drew | exact HWR.out.drew.alloc HWR.out.drew.size _ | exact HWR.out); clear hb5)
 all_goals (
  go_wp2_with fail
  go_ret
  exact ⟨r, by rw [HR.out.1]; rfl, H4.out.2.2, by first | exact hB3 | exact hB3.drew | exact hB3.alloc hB3.size _ | exact hB3.drew.alloc hB3.size _ | exact (hB3.alloc hB3.size _).drew | exact (hB3.drew.alloc hB3.size _).drew⟩)
end Go.Proofs.YtagmnlmfoanelaaGreat
namespace Go.Proofs.YtagmnlmfoanelaaGreat
open Go.RowKit Der
set_option linter.unusedVariables false
theorem leaf_post {n : Nat} {t : Int} {s : List UInt8} {ks : List (It n)} {w w' : World} {e : Ending} (h48 : t ≠ 48) (h : TxPost t (fun r => r = s) w e w') :
  ∃ r : List UInt8, e = .returned (.string ⟨r.toArray⟩) /\ GoodT r (txtI (n + 1) (It.mk t s ks)) /\ r.length <= 11 + 12 * szI (n + 1) (It.mk t s ks) /\ Below w.heap.size w w' := by
 obtain ⟨r, rfl, rfl, hb⟩ := h
 have e : txtI (n + 1) (It.mk t r ks) = UInt8.ofNat (t % 256).toNat :: (lenB r.length ++ r) := by
  show UInt8.ofNat (t % 256).toNat :: (lenB (if t = 48 then _ else r).length ++ (if t = 48 then _ else r)) = _
  rw [if_neg h48]
 have h1 := txt_le (n + 1) (It.mk t r ks)
 rw [<- e]
 exact ⟨_, rfl, GoodT.refl _, h1, hb⟩
theorem row_post {n : Nat} {ks : List (It n)} {w w' : World} {e : Ending} (h : TxPost 48 (fun r => GoodT r ((ks.map (txtI n)).flatten) /\ r.length <= 12 * szS n ks) w e w') :
  ∃ r : List UInt8, e = .returned (.string ⟨r.toArray⟩) /\ GoodT r (txtI (n + 1) (It.mk 48 [] ks)) /\ r.length <= 11 + 12 * szI (n + 1) (It.mk 48 [] ks) /\ Below w.heap.size w w' := by
 obtain ⟨r, rfl, ⟨hg, hl⟩, hb⟩ := h
 have e : txtI (n + 1) (It.mk 48 [] ks) = UInt8.ofNat ((48 : Int) % 256).toNat :: (lenB ((ks.map (txtI n)).flatten).length ++ (ks.map (txtI n)).flatten) := rfl
 refine ⟨_, rfl, ?_, ?_, hb⟩
 ·rw [e]
  exact GoodT.whole (b := []) hg
 ·have h1 := beN_short9 r.length
  have h2 : szI (n + 1) (It.mk 48 [] ks) = szS n ks := by
   show ([] : List UInt8).length + ks.length + (ks.map (szI n)).sum = ks.length + (ks.map (szI n)).sum
   simp
  rw [h2]
  simp only [List.length_cons, List.length_append]
  omega
theorem txC_of (n : Nat) (HB : Hid (BdC n)) : TxC n := fun t s ks a d w hx hz hr => by
 have hsz := szI_kid hz
 obtain ⟨ax, cx, rfl, hcx⟩ := id hx
 rw [right_mk] at hr
 by_cases h48 : t = 48
 ·subst h48
  rw [if_neg (by simp)] at hr
  simp only [Bool.and_eq_true, List.all_eq_true] at hr
  obtain ⟨⟨⟨hs, _⟩, _⟩, hall⟩ := hr
  have hs0 := of_decide_eq_true hs
  obtain rfl : s = [] := List.eq_nil_of_length_eq_zero hs0
  refine (textOf_row 48 [] ax ks.length cx w hsz.2.1 hsz.1 (formV_row _ _) (fun r => GoodT r ((ks.map (txtI n)).flatten) /\ r.length <= 12 * szS n ks) fun w3 hb => ?_).mono fun e w' h => row_post h
  refine (HB.out ks _ (d + 1) w3 (hx.mono hb fun _ _ h => ItAt.below hb h) (szS_of hz) hall).mono ?_
  rintro e w' ⟨r, rfl, hg, hl, hb'⟩
  have := szS_of hz
  exact ⟨r, rfl, ⟨hg, hl⟩, by omega, hb'⟩
 ·rw [if_pos h48, Bool.and_eq_true] at hr
  have hk0 : ks.length = 0 := of_decide_eq_true hr.1
  have hp := hr.2
  rw [hk0]
  have done : ∀ w3 : World, ∀ F : Nat, (Calls Tryz.prog F #[.string ⟨s.toArray⟩] w3 fun e w' => e = .returned (.string ⟨s.toArray⟩) /\ Below w3.heap.size w3 w') -> Calls Tryz.prog F #[.string ⟨s.toArray⟩] w3 fun e w' => ∃ r : List UInt8, e = .returned (.string ⟨r.toArray⟩) /\ r = s /\ r.length <= 400000000 /\ Below w3.heap.size w3 w' :=
   fun w3 F h => h.mono fun e w' ⟨h1, h2⟩ => ⟨s, h1, rfl, by omega, h2⟩
  rcases plainOk_tag hp with rfl | rfl | rfl | rfl
  ·exact (textOf_flag 1 s ax 0 cx w (by omega) hsz.1 (formV_one _ _) (fun r => r = s) fun w3 _ => done w3 _ (body_flag ⟨s.toArray⟩ w3)).mono fun e w' h => leaf_post (by decide) h
  ·exact (textOf_integer 2 s ax 0 cx w (by omega) hsz.1 (formV_two _ _) (fun r => r = s) fun w3 _ => done w3 _ (body_integer ⟨s.toArray⟩ w3)).mono fun e w' h => leaf_post (by decide) h
  ·exact (textOf_plain 12 s ax 0 cx w (by omega) hsz.1 (formV_twelve _ _) (fun r => r = s) fun w3 _ => done w3 _ (body_plain ⟨s.toArray⟩ w3)).mono fun e w' h => leaf_post (by decide) h
  ·exact (textOf_octets 4 s ax 0 cx w (by omega) hsz.1 (formV_four _ _) (fun r => r = s) fun w3 _ => done w3 _ (body_octets ⟨s.toArray⟩ w3)).mono fun e w' h => leaf_post (by decide) h
theorem bdC_any : ∀ (n : Nat), BdC n
 | 0 => bd_zero
 | n + 1 => fun ks v d w hx hz hr => bd_step n (txC_of n (bdC_any n)) ks v d w hx hz hr
theorem textOf_any (n : Nat) : TxC n := txC_of n (bdC_any n)
theorem implItemText_step (n : Nat) (t : Int) (s : List UInt8) (ks : List (It n)) (a : Value) (w : World) (hx : KidsAt w (ItAt w n) a ks) (hz : szI (n + 1) (It.mk t s ks) <= 20000000) :
  Calls Tryz.prog 73 #[.agg #[.int .i64 t, .string ⟨s.toArray⟩, a]] w fun e w' => e = .returned (.tuple #[.string ⟨((writeI (n + 1) (It.mk t s ks)).getD []).toArray⟩, .bool (writeI (n + 1) (It.mk t s ks)).isSome]) /\ Below w.heap.size w w' := by
 obtain ⟨ax, cx, rfl, -⟩ := id hx
 obtain ⟨W2, hW2⟩ : ∃ W, W = w.alloc (Obj.cells #[Value.int IntKind.i64 t, Value.string { data := s.toArray }, Value.slice ax ks.length cx] 87) := ⟨_, rfl⟩
 have HW := one_laid w (.int .i64 t) (.string ⟨s.toArray⟩) (.slice ax ks.length cx) 87 W2 hW2
 have E := implItemOk_any (n + 1) (It.mk t s ks) (.agg #[.int .i64 t, .string ⟨s.toArray⟩, .slice ax ks.length cx]) W2 ⟨_, rfl, hx.mono HW.1 fun _ _ h => ItAt.below HW.1 h⟩ hz
 have HN : Hid (writeI (n + 1) (It.mk t s ks) = if rightI (n + 1) (It.mk t s ks) 0 = true /\ (txtI (n + 1) (It.mk t s ks)).length <= 4000 then some (txtI (n + 1) (It.mk t s ks)) else none) := rfl
 have HX : Hid (KidsAt w (ItAt w n) (.slice ax ks.length cx) ks /\ szI (n + 1) (It.mk t s ks) <= 20000000) := ⟨hx, hz⟩
 obtain ⟨l, hl⟩ := zE (ks.length)
 have HL : Hid (ks.length = l) := hl
 have HC : Hid (Below w.heap.size w W2 /\ w.heap.size < W2.heap.size /\ Cells3 W2 w.heap.size 0 (.int .i64 t) (.string ⟨s.toArray⟩) (.slice ax ks.length cx)) := by exact ⟨HW.1, HW.2.1, HW.2.2⟩
 rw [hl] at hW2 E HX HC |-
 clear hx hz HW hl
 cases hr : rightI (n + 1) (It.mk t s ks) 0 with
 | false =>
  rw [hr] at E
  have HR : Hid (writeI (n + 1) (It.mk t s ks) = none) := by
   show writeI (n + 1) (It.mk t s ks) = none
   rw [HN.out, hr]
   simp
  clear hr
  go_enter Tryz.func73, Tryz.ntmps73
  go_wp2_with fail
  rw [<- hW2]
  refine E.mono ?_
  rintro e w3 ⟨rfl, hb3⟩
  have H3 : Hid (Below w.heap.size w w3) := HC.out.1.trans (hb3.mono HC.out.1.size)
  clear E hb3 hW2
  go_wp2_with fail
  go_ret2
  exact ⟨by rw [HR.out]; rfl, H3.out⟩
 | true =>
  rw [hr] at E
  have HR : Hid (rightI (n + 1) (It.mk t s ks) 0 = true /\ writeI (n + 1) (It.mk t s ks) = if (txtI (n + 1) (It.mk t s ks)).length <= 4000 then some (txtI (n + 1) (It.mk t s ks)) else none) := by
   refine ⟨hr, ?_⟩
   rw [HN.out, hr]
   simp
  clear hr HN
  go_enter Tryz.func73, Tryz.ntmps73
  go_wp2_with fail
  rw [<- hW2]
  refine E.mono ?_
  rintro e w3 ⟨rfl, hb3⟩
  obtain ⟨c0, c1, c2⟩ := HC.out.2.2.below HC.out.2.1 hb3
  have hbw : Below w.heap.size w w3 := HC.out.1.trans (hb3.mono HC.out.1.size)
  have ET := textOf_any n t s ks (.slice ax l cx) 0 w3 (HX.out.1.mono hbw fun _ _ h => ItAt.below hbw h) HX.out.2 HR.out.1
  have H3 : Hid (Below w.heap.size w w3) := hbw
  clear E hb3 hW2 hbw
  rw [show (0 : Nat) + 1 = 1 from rfl] at c1
  rw [show (0 : Nat) + 2 = 2 from rfl] at c2
  go_wp2_with fail
  refine ET.mono ?_
  rintro e w4 ⟨r, rfl, hg, hrl, hb4⟩
  have hssz : (⟨r.toArray⟩ : ByteArray).size = r.length := by show r.toArray.size = _; simp
  have hr9 : r.length <= 1000000000 := by have := HX.out.2; omega
  have H4 := zH (zJ (H3.out.trans (hb4.mono H3.out.size)) (hg : GoodT r (txtI (n + 1) (It.mk t s ks))))
  clear ET hb4 hg hrl c0 c1 c2
  by_cases hbig : 4000 < r.length
  ·have hbi : (4000 : Int) < (r.length : Int) := by omega
   have HF : Hid (writeI (n + 1) (It.mk t s ks) = none) := by
    show _ = none
    rw [HR.out.2, if_neg]
    intro hle
    have := H4.out.2.1 hle
    rw [this] at hbig
    omega
   go_wp2_with fail
   go_ret2
   exact ⟨by rw [HF.out]; rfl, H4.out.1⟩
  ·have hbi : ¬ (4000 : Int) < (r.length : Int) := by omega
   have HF : Hid (writeI (n + 1) (It.mk t s ks) = some r) := by
    show _ = some r
    have hle : (txtI (n + 1) (It.mk t s ks)).length <= 4000 := by
     refine Nat.le_of_not_lt fun hlt => ?_
     exact hbig (H4.out.2.2 hlt)
    rw [HR.out.2, if_pos hle, H4.out.2.1 hle]
   go_wp2_with fail
   go_ret2
   exact ⟨by rw [HF.out]; rfl, H4.out.1⟩
theorem implItemText_any : ∀ (n : Nat) (x : It n) (v : Value) (w : World), ItAt w n v x -> szI n x <= 20000000 -> Calls Tryz.prog 73 #[v] w fun e w' => e = .returned (.tuple #[.string ⟨((writeI n x).getD []).toArray⟩, .bool (writeI n x).isSome]) /\ Below w.heap.size w w'
 | 0, _, _, _, h, _ => h.elim
 | n + 1, x, v, w, hx, hz => by
  obtain ⟨kx, rfl, hkx⟩ := hx
  exact implItemText_step n (It.tag x) (It.text x) (It.kids x) kx w hkx hz
theorem sz_lst {n : Nat} (ks : List (It n)) : szI (n + 1) (lstJ ks) = ks.length + (ks.map (szI n)).sum := by
 show 0 + ks.length + (ks.map (szI n)).sum = _
 omega
theorem sz_int {n : Nat} (x : Int) : szI (n + 1) (intI x) <= 5 := by
 have h := intT_ok (numN_le x)
 unfold plainOk at h
 rw [if_neg (by decide), if_pos rfl] at h
 simp only [Bool.and_eq_true, decide_eq_true_eq] at h
 show (intT (numN x)).length + 0 + 0 <= 5
 omega
theorem sz_byt {n : Nat} (s : ByteArray) : szI (n + 1) (bytJ s) = s.size := rfl
end Go.Proofs.YtagmnlmfoanelaaGreat
