/-
  Texts of the proof.
-/
import Derived.Test.YtbiiihjohbnodaaMRs11
import Derived.Test.YtbiiihjohbnodaaMRs18
set_option maxRecDepth 100000
set_option maxHeartbeats 25600000
namespace Go.Proofs.Ytbiiihjohbnodaa
open Go.RowKit Der
set_option linter.unusedVariables false
def LenPost (T : ByteArray) (w : World) (e : Ending) (w' : World) : Prop := Below w.heap.size w w' /\
 ((sizeG T.data.toList = none /\ ∃ a b : Nat, a <= 100000 /\ b <= 100000 /\ e = .returned (.tuple #[.int .i64 (a : Int), .int .i64 (b : Int), .bool false])) ∨
 ∃ z c : Nat, sizeG T.data.toList = some (z, c) /\ e = .returned (.tuple #[.int .i64 (z : Int), .int .i64 (c : Int), .bool true]))
theorem toList_data (T : ByteArray) : T.toList = T.data.toList := by
 obtain ⟨d⟩ := T
 obtain ⟨l⟩ := d
 show (⟨l.toArray⟩ : ByteArray).toList = _
 simp
theorem not_empty {T : ByteArray} (h : 0 < T.size) : T.toList.isEmpty = false := by
 have e : T.data.toList.length = T.size := rfl
 rw [toList_data]
 cases hq : T.data.toList with
 | nil => rw [hq] at e; simp at e; omega
 | cons => rfl
theorem list_cons {T : ByteArray} (h : 0 < T.size) : ∃ b r, T.data.toList = b :: r /\ r.length + 1 = T.size /\ (∀ h, T[0]'h = b) /\ r = T.data.toList.drop 1 := by
 obtain ⟨b, r, he⟩ : ∃ b r, T.data.toList = b :: r := by
  cases hq : T.data.toList with
  | nil => have e : T.data.toList.length = T.size := rfl; rw [hq] at e; simp at e; omega
  | cons b r => exact ⟨b, r, rfl⟩
 have e : T.data.toList.length = T.size := rfl
 refine ⟨b, r, he, by rw [<- e, he]; rfl, fun h => ?_, by rw [he]; rfl⟩
 have h2 : T.data.toList[0]'(by rw [e]; exact h) = b := by simp [he]
 exact h2
theorem readLength_any (T : ByteArray) (w : World) (hT : T.size <= 4000) : Calls Try.prog 128 #[.string T] w fun e w' => LenPost T w e w' := by
 by_cases h0 : T.size = 0
 ·have hT0 : T = ⟨#[]⟩ := by
   cases T with
   | mk d => congr 1; exact Array.eq_empty_of_size_eq_zero h0
  subst hT0
  go_enter Try.func128, Try.ntmps128
  go_wp2_with fail
  go_ret3
  exact ⟨Below.refl _ _, .inl ⟨rfl, 0, 0, by omega, by omega, rfl⟩⟩
 obtain ⟨b, r, he, hrl, hg0, hr1⟩ := list_cons (T := T) (by omega)
 have hne : T.toList.isEmpty = false := not_empty (by omega)
 have hbl := b.toNat_lt
 have h0i : (0 : Int) < (T.size : Int) := by omega
 have h0n : 0 < T.size := by omega
 have wb : IntKind.i64.wrap (b.toNat : Int) = (b.toNat : Int) := by rw [IntKind.wrap_i64]; omega
 by_cases h128 : b.toNat < 128
 ·have h128i : (b.toNat : Int) < 128 := by omega
  have HR : Hid (sizeG T.data.toList = some (b.toNat, 1)) := by show sizeG T.data.toList = _; rw [he, sizeG_cons, if_pos h128]
  clear he hr1 hrl
  go_enter Try.func128, Try.ntmps128
  go_wp2_with fail
  go_ret3
  exact ⟨Below.refl _ _, .inr ⟨_, _, HR.out, rfl⟩⟩
 have h128i : ¬ (b.toNat : Int) < 128 := by omega
 obtain ⟨k, hk⟩ : ∃ k : Nat, b.toNat - 128 = k := ⟨_, rfl⟩
 have w5 : IntKind.i64.wrap ((b.toNat : Int) - 128) = (k : Int) := by rw [IntKind.wrap_i64]; omega
 by_cases hk2 : 2 < k
 ·have hk2i : (2 : Int) < (k : Int) := by omega
  have HR : Hid (sizeG T.data.toList = none) := by show sizeG T.data.toList = _; rw [he, sizeG_cons, if_neg h128, hk, if_pos (.inl hk2)]
  clear he hr1 hrl hk
  go_enter Try.func128, Try.ntmps128
  go_wp2_with fail
  go_ret3
  exact ⟨Below.refl _ _, .inl ⟨HR.out, 0, 0, by omega, by omega, rfl⟩⟩
 have hk2i : ¬ (2 : Int) < (k : Int) := by omega
 by_cases hkl : T.size <= k
 ·have hkli : (T.size : Int) <= (k : Int) := by omega
  have HR : Hid (sizeG T.data.toList = none) := by show sizeG T.data.toList = _; rw [he, sizeG_cons, if_neg h128, hk, if_pos (.inr (by omega))]
  clear he hr1 hrl hk
  go_enter Try.func128, Try.ntmps128
  go_wp2_with fail
  go_ret3
  exact ⟨Below.refl _ _, .inl ⟨HR.out, 0, 0, by omega, by omega, rfl⟩⟩
 have hkli : ¬ (T.size : Int) <= (k : Int) := by omega
 obtain ⟨v, hv⟩ : ∃ v : Nat, 1 + k = v := ⟨_, rfl⟩
 have wv : IntKind.i64.wrap (1 + (k : Int)) = (v : Int) := by rw [IntKind.wrap_i64]; omega
 have hvT : v <= T.size := by omega
 have h1v : 1 <= v := by omega
 have h1vi : (1 : Int) <= (v : Int) := by omega
 have hvTi : (v : Int) <= (T.size : Int) := by omega
 have hv0 : (0 : Int) <= (v : Int) := by omega
 have hsz : (T.extract 1 v).size <= 7 := by rw [ByteArray.size_extract]; omega
 obtain ⟨q, hq⟩ : ∃ q : Nat, valB8 (T.extract 1 v).data.toList = q := ⟨_, rfl⟩
 have hqs : q < 65536 := by
  have h1 := valB8_lt _ (T.extract 1 v).data.toList rfl
  have h2 : (T.extract 1 v).data.toList.length <= 2 := by
   have e : (T.extract 1 v).data.toList.length = (T.extract 1 v).size := rfl
   rw [e, ByteArray.size_extract]; omega
  have h3 : 256 ^ (T.extract 1 v).data.toList.length <= 256 ^ 2 := Nat.pow_le_pow_right (by decide) h2
  have h4 : (256 : Nat) ^ 2 = 65536 := by decide
  omega
 have HV : Hid (sizeG T.data.toList = if lenB q = (T.extract 0 v).data.toList then some (q, v) else none) := by
  show sizeG T.data.toList = _
  rw [ext_list, List.drop_zero, Nat.sub_zero, he, sizeG_cons, if_neg h128, hk, if_neg (by omega), <- hq, ext_list, <- hr1, show v - 1 = k by omega, hv]
 have EN := numberOf_any (T.extract 1 v) w hsz
 rw [hq] at EN
 clear he hr1 hrl hk hsz hq hv
 go_enter Try.func128, Try.ntmps128
 go_wp2_with fail
 refine EN.mono ?_
 clear EN
 rintro e w2 ⟨rfl, hb2⟩
 obtain ⟨L, hL⟩ : ∃ L : ByteArray, (⟨(lenB q).toArray⟩ : ByteArray) = L := ⟨_, rfl⟩
 have EL : Hid (∀ W, Calls Try.prog 112 #[.int .i64 (q : Int)] W fun e w' => e = .returned (.string L) /\ Below W.heap.size W w') := fun W => by rw [<- hL]; exact lengthText_any q W (by omega)
 have HB2 : Hid (Below w.heap.size w w2) := hb2
 have HLL : Hid (L.data.toList = lenB q) := by show L.data.toList = lenB q; rw [<- hL]
 clear hb2 hL
 go_wp2_with fail
 go_region_held3 (fun _ => True) (exact trivial) ((first
  | (go_at_call 112; refine (EL.out _).mono ?_; rintro e w3 ⟨rfl, hb3⟩)))
 all_goals (
  have HB3 : Hid (Below w.heap.size w w3) := HB2.out.trans (Below.mono (Below.trans ((Below.refl _ _).drew) hb3) HB2.out.size)
  clear hb3
  go_wp2_with fail
  go_ret3
  refine ⟨HB3.out, ?_⟩
  rw [HV.out]
  by_cases hc : lenB q = (T.extract 0 v).data.toList
  ·rw [if_pos hc]
   refine .inr ⟨q, v, rfl, ?_⟩
   have e : (L.toList == (T.extract 0 v).toList) = true := by rw [toList_data, toList_data, HLL.out, hc]; simp
   rw [<- e]
   rfl
  ·rw [if_neg hc]
   refine .inl ⟨rfl, q, v, by omega, by omega, ?_⟩
   have e : (L.toList == (T.extract 0 v).toList) = false := by rw [toList_data, toList_data, HLL.out]; exact beq_eq_false_iff_ne.2 hc
   rw [<- e]
   rfl)
def FiPost (n : Nat) (T : ByteArray) (w : World) (e : Ending) (w' : World) : Prop := Below w.heap.size w w' /\
 ((rdG n T.data.toList = none /\ ∃ (t : Int) (s : ByteArray) (ax : Option Addr) (l cx : Nat) (s2 : ByteArray), e = .returned (.tuple #[.agg #[.int .i64 t, .string s, .slice ax l cx], .string s2, .bool false])) ∨
 ∃ (x : It n) (u : Nat) (t : Int) (s : ByteArray) (ax : Option Addr) (l cx : Nat) (fp : List Nat), rdG n T.data.toList = some (x, u) /\ e = .returned (.tuple #[.agg #[.int .i64 t, .string s, .slice ax l cx], .string (T.extract u T.size), .bool true]) /\ Own1 w' w.heap.size n t s (.slice ax l cx) x fp)
def FiC (n : Nat) : Prop := ∀ (T : ByteArray) (w : World), T.size <= 4000 -> T.size < n -> Calls Try.prog 116 #[.string T] w fun e w' => FiPost n T w e w'
def KiPost (n : Nat) (T : ByteArray) (w : World) (e : Ending) (w' : World) : Prop := Below w.heap.size w w' /\
 ((kidsL (rdG n) T.size T.data.toList = none /\ e = .returned (.tuple #[.slice none 0 0, .bool false])) ∨
 ∃ (ks : List (It n)) (ax : Option Addr) (l cx : Nat) (fp : List Nat), kidsL (rdG n) T.size T.data.toList = some ks /\ e = .returned (.tuple #[.slice ax l cx, .bool true]) /\ OwnK w' w.heap.size n (.slice ax l cx) ks fp)
def KiC (n : Nat) : Prop := ∀ (T : ByteArray) (w : World), T.size <= 4000 -> T.size < n -> Calls Try.prog 129 #[.string T] w fun e w' => KiPost n T w e w'
theorem rdG_cons (n : Nat) (b : UInt8) (r : List UInt8) : rdG (n + 1) (b :: r) = match sizeG r with
  | none => none
  | some (sz, c) => if (r.drop c).length < sz then none
   else if b.toNat ≠ 48 then some (It.mk (b.toNat : Int) ((r.drop c).take sz) [], 1 + c + sz)
   else match kidsL (rdG n) ((r.drop c).take sz).length ((r.drop c).take sz) with
    | none => none
    | some ks => some (It.mk (b.toNat : Int) [] ks, 1 + c + sz) := rfl
theorem empty_of {T : ByteArray} (h : T.size = 0) : T = ⟨#[]⟩ := by
 cases T with
 | mk d => congr 1; exact Array.eq_empty_of_size_eq_zero h
theorem first_step (n : Nat) (KI : Hid (KiC n)) : FiC (n + 1) := fun T w hT hTn => by
 obtain ⟨⟨r0, r1, r2⟩, hbw⟩ := res_is w (.int .i64 0) (.string ⟨#[]⟩) (.slice none 0 0) 67
 by_cases h0 : T.size = 0
 ·have hT0 := empty_of h0
  subst hT0
  go_enter Try.func116, Try.ntmps116
  go_wp2_with fail
  refine bodyPost_ret (v := .tuple #[.agg #[.int .i64 0, .string ⟨#[]⟩, .slice none 0 0], .string ⟨#[]⟩, .bool false]) (by simp [results, Try.results116, go_sem, r0, r1, r2]; try rfl) rfl ?_
  exact ⟨hbw, .inl ⟨rfl, _, _, _, _, _, _, rfl⟩⟩
 obtain ⟨b, r, he, hrl, hg0, hr1⟩ := list_cons (T := T) (by omega)
 have hne : T.toList.isEmpty = false := not_empty (by omega)
 have HBL : Hid (b.toNat < 256) := b.toNat_lt
 have h0i : (0 : Int) < (T.size : Int) := by omega
 have h0n : 0 < T.size := by omega
 have h1n : 1 <= T.size := by omega
 have h1i : (1 : Int) <= (T.size : Int) := by omega
 have wb : IntKind.i64.wrap (b.toNat : Int) = (b.toNat : Int) := by rw [IntKind.wrap_i64]; have := HBL.out; omega
 have HE : Hid (T.data.toList = b :: r /\ (T.extract 1 T.size).data.toList = r /\ r.length + 1 = T.size) := ⟨he, by
  rw [ext_list, <- hr1]
  exact List.take_of_length_le (by omega), hrl⟩
 have H1 : Hid (Blk3 (w.alloc (Obj.cells #[Value.int IntKind.i64 0, Value.string { data := #[] }, Value.slice none 0 0] 67)) w.heap.size (.int .i64 0) (.string ⟨#[]⟩) (.slice none 0 0) /\ Below w.heap.size w (w.alloc (Obj.cells #[Value.int IntKind.i64 0, Value.string { data := #[] }, Value.slice none 0 0] 67))) := ⟨heap_alloc_new w _, hbw⟩
 obtain ⟨W1, hW1⟩ : ∃ W, W = w.alloc (Obj.cells #[Value.int IntKind.i64 0, Value.string { data := #[] }, Value.slice none 0 0] 67) := ⟨_, rfl⟩
 rw [<- hW1] at H1
 have EL := readLength_any (T.extract 1 T.size) W1 (by rw [ByteArray.size_extract]; omega)
 clear he hr1 hrl r0 r1 r2 hbw
 go_enter Try.func116, Try.ntmps116
 go_wp2_with fail
 rw [<- hW1]
 clear hW1
 refine EL.mono ?_
 clear EL
 rintro e w2 ⟨hb2, hcase⟩
 have H2 : Hid (Blk3 w2 w.heap.size (.int .i64 0) (.string ⟨#[]⟩) (.slice none 0 0) /\ Below w.heap.size w w2 /\ w.heap.size < w2.heap.size) := ⟨H1.out.1.below hb2, H1.out.2.trans (hb2.mono H1.out.2.size), Nat.lt_of_lt_of_le H1.out.1.lt hb2.size⟩
 obtain ⟨⟨r0, r1, r2⟩, rf⟩ := cell_in H2.out.1
 clear H1 hb2
 rw [HE.out.2.1] at hcase
 rcases hcase with ⟨hnone, za, zb, hza, hzb, rfl⟩ | ⟨z, c, hsome, rfl⟩
 ·have HN : Hid (rdG (n + 1) T.data.toList = none) := by show rdG (n + 1) T.data.toList = none; rw [HE.out.1, rdG_cons, hnone]
  have ws : IntKind.i64.wrap (1 + (zb : Int)) = 1 + (zb : Int) := by rw [IntKind.wrap_i64]; omega
  clear hnone
  go_wp2_with fail
  refine bodyPost_ret (v := .tuple #[.agg #[.int .i64 0, .string ⟨#[]⟩, .slice none 0 0], .string ⟨#[]⟩, .bool false]) (by simp [results, Try.results116, go_sem, r0, r1, r2]; try rfl) rfl ?_
  exact ⟨((H2.out.2.1.setCell (p := ⟨w.heap.size, 0, none⟩) (Nat.le_refl _) _).setCell (p := ⟨w.heap.size, 1, none⟩) (Nat.le_refl _) _).setCell (p := ⟨w.heap.size, 2, none⟩) (Nat.le_refl _) _, .inl ⟨HN.out, _, _, _, _, _, _, rfl⟩⟩
 obtain ⟨-, -, hcr, hz6⟩ := sizeG_some hsome
 have hrT := HE.out.2.2
 obtain ⟨st, hst⟩ := zE (1 + c)
 have hsT : st <= T.size := by omega
 have ws : IntKind.i64.wrap (1 + (c : Int)) = (st : Int) := by rw [IntKind.wrap_i64]; omega
 have wd : IntKind.i64.wrap ((T.size : Int) - (st : Int)) = (T.size : Int) - (st : Int) := by rw [IntKind.wrap_i64]; omega
 have hdl : (r.drop c).length = T.size - st := by rw [List.length_drop]; omega
 by_cases hbig : T.size - st < z
 ·have hbi : (T.size : Int) - (st : Int) < (z : Int) := by omega
  have HN : Hid (rdG (n + 1) T.data.toList = none) := by
   show rdG (n + 1) T.data.toList = none
   rw [HE.out.1, rdG_cons, hsome]
   show (if (r.drop c).length < z then none else _) = none
   rw [if_pos (by omega)]
  clear hsome hdl
  go_wp2_with fail
  refine bodyPost_ret (v := .tuple #[.agg #[.int .i64 0, .string ⟨#[]⟩, .slice none 0 0], .string ⟨#[]⟩, .bool false]) (by simp [results, Try.results116, go_sem, r0, r1, r2]; try rfl) rfl ?_
  exact ⟨((H2.out.2.1.setCell (p := ⟨w.heap.size, 0, none⟩) (Nat.le_refl _) _).setCell (p := ⟨w.heap.size, 1, none⟩) (Nat.le_refl _) _).setCell (p := ⟨w.heap.size, 2, none⟩) (Nat.le_refl _) _, .inl ⟨HN.out, _, _, _, _, _, _, rfl⟩⟩
 have hbi : ¬ (T.size : Int) - (st : Int) < (z : Int) := by omega
 obtain ⟨q, hq⟩ := zE (st + z)
 have wq : IntKind.i64.wrap ((st : Int) + (z : Int)) = (q : Int) := by rw [IntKind.wrap_i64]; omega
 have hqT : q <= T.size := by omega
 have hsq : st <= q := by omega
 have hqi : (q : Int) <= (T.size : Int) := by omega
 have hs0 : (0 : Int) <= (st : Int) := by omega
 have hq0 : (0 : Int) <= (q : Int) := by omega
 have hsqi : (st : Int) <= (q : Int) := by omega
 have HS : Hid (sizeG r = some (z, c) /\ ¬ (r.drop c).length < z /\ (r.drop c).take z = (T.extract st q).data.toList /\ 1 + c + z = q /\ (T.extract st q).size < n /\ (T.extract st q).size <= 4000) := by
  refine ⟨hsome, by omega, ?_, by omega, by rw [ByteArray.size_extract]; omega, by rw [ByteArray.size_extract]; omega⟩
  rw [ext_list, HE.out.1, <- hst, Nat.add_comm 1 c, List.drop_succ_cons, show q - (c + 1) = z by omega]
 obtain ⟨W3, hW3⟩ : ∃ W, W = w2.alloc (Obj.cells #[Value.int IntKind.i64 (b.toNat : Int), Value.string { data := #[] }, Value.slice none 0 0] 67) := ⟨_, rfl⟩
 obtain ⟨gx, hgx⟩ := zE (w2.heap.size)
 have H3 : Hid (Blk3 W3 w.heap.size (.int .i64 0) (.string ⟨#[]⟩) (.slice none 0 0) /\ Blk3 W3 gx (.int .i64 (b.toNat : Int)) (.string ⟨#[]⟩) (.slice none 0 0) /\ Below w.heap.size w W3 /\ w.heap.size < gx /\ gx < W3.heap.size) := by
  have hb3 : Below w2.heap.size w2 W3 := by rw [hW3]; exact (Below.refl _ _).alloc (Nat.le_refl _) _
  have hx : Blk3 W3 gx (.int .i64 (b.toNat : Int)) (.string ⟨#[]⟩) (.slice none 0 0) := by rw [hW3, <- hgx]; exact heap_alloc_new w2 _
  exact ⟨H2.out.1.below hb3, hx, H2.out.2.1.trans (hb3.mono H2.out.2.1.size), by rw [<- hgx]; exact H2.out.2.2, hx.lt⟩
 clear hsome hdl hst hq hcr hz6 hrT H2
 by_cases h48 : b.toNat ≠ 48
 ·have h48i : ((b.toNat : Int) == 48) = false := by simp; omega
  have h48j : ¬ (b.toNat : Int) = 48 := by omega
  have HR : Hid (rdG (n + 1) T.data.toList = some (It.mk (b.toNat : Int) (T.extract st q).data.toList [], q)) := by
   show rdG (n + 1) T.data.toList = _
   rw [HE.out.1, rdG_cons, HS.out.1]
   show (if (r.drop c).length < z then none else _) = _
   rw [if_neg HS.out.2.1, if_pos h48, HS.out.2.2.1, HS.out.2.2.2.1]
  have EC := cloneB_any (T.extract st q) W3 (by have := HS.out.2.2.2.2.2; omega)
  go_wp2_with fail
  rw [<- hW3]
  clear hW3
  refine EC.mono ?_
  clear EC
  rintro e w4 ⟨rfl, hb4⟩
  clear hgx
  have H4 : Hid (Blk3 w4 w.heap.size (.int .i64 0) (.string ⟨#[]⟩) (.slice none 0 0) /\ Blk3 w4 gx (.int .i64 (b.toNat : Int)) (.string ⟨#[]⟩) (.slice none 0 0) /\ Below w.heap.size w w4) := ⟨H3.out.1.below hb4, H3.out.2.1.below hb4, H3.out.2.2.1.trans (hb4.mono H3.out.2.2.1.size)⟩
  have hgne : gx ≠ w.heap.size := by have := H3.out.2.2.2.1; omega
  have hgn2 : w.heap.size ≠ gx := fun e => hgne e.symm
  obtain ⟨⟨r0, r1, r2⟩, rf⟩ := cell_in H4.out.1
  obtain ⟨⟨x0, x1, x2⟩, xf⟩ := cell_in H4.out.2.1
  clear hb4
  go_wp2_with fail
  go_region
  all_goals (
   go_wp2_with fail
   refine bodyPost_ret (v := .tuple #[.agg #[.int .i64 (b.toNat : Int), .string (T.extract st q), .slice none 0 0], .string (T.extract q T.size), .bool true]) (by simp [results, Try.results116, go_sem, r0, r1, r2]; try rfl) rfl ?_
   have hb := H4.out.2.2.setCell (p := ⟨gx, 1, none⟩) (show w.heap.size <= gx by have := H3.out.2.2.2.1; omega) (Value.string (T.extract st q))
   refine ⟨((hb.drew.setCell (p := ⟨w.heap.size, 0, none⟩) (Nat.le_refl _) _).setCell (p := ⟨w.heap.size, 1, none⟩) (Nat.le_refl _) _).setCell (p := ⟨w.heap.size, 2, none⟩) (Nat.le_refl _) _, .inr ⟨_, _, (b.toNat : Int), T.extract st q, none, 0, 0, [], HR.out, rfl, rfl, bytes_back _, own_nil _ _ _⟩⟩)
 ·have h48i : ((b.toNat : Int) == 48) = true := by simp; omega
  have h48j : (b.toNat : Int) = 48 := by omega
  have hlen : ((r.drop c).take z).length = (T.extract st q).size := by rw [HS.out.2.2.1]; rfl
  have HR : Hid (∀ o, kidsL (rdG n) (T.extract st q).size (T.extract st q).data.toList = o -> rdG (n + 1) T.data.toList = match o with
    | none => none
    | some ks => some (It.mk 48 [] ks, q)) := fun o ho => by
   rw [HE.out.1, rdG_cons, HS.out.1]
   show (if (r.drop c).length < z then none else _) = _
   rw [if_neg HS.out.2.1, if_neg h48, hlen, HS.out.2.2.1, ho, h48j, HS.out.2.2.2.1]
  have EK := KI.out (T.extract st q) W3 HS.out.2.2.2.2.2 HS.out.2.2.2.2.1
  rw [h48j] at hW3 H3
  clear hlen
  go_wp2_with fail
  rw [<- hW3]
  clear hW3
  refine EK.mono ?_
  clear EK hgx
  rintro e w4 ⟨hb4, hcase⟩
  have H4 : Hid (Blk3 w4 w.heap.size (.int .i64 0) (.string ⟨#[]⟩) (.slice none 0 0) /\ Blk3 w4 gx (.int .i64 48) (.string ⟨#[]⟩) (.slice none 0 0) /\ Below w.heap.size w w4) := ⟨H3.out.1.below hb4, H3.out.2.1.below hb4, H3.out.2.2.1.trans (hb4.mono H3.out.2.2.1.size)⟩
  have hgne : gx ≠ w.heap.size := by have := H3.out.2.2.2.1; omega
  have hgn2 : w.heap.size ≠ gx := fun e => hgne e.symm
  obtain ⟨⟨r0, r1, r2⟩, rf⟩ := cell_in H4.out.1
  obtain ⟨⟨x0, x1, x2⟩, xf⟩ := cell_in H4.out.2.1
  clear hb4
  rcases hcase with ⟨hnone, rfl⟩ | ⟨ks, ax, l, cx, fp, hsome, rfl, hown⟩
  ·have HN : Hid (rdG (n + 1) T.data.toList = none) := HR.out none hnone
   clear hnone
   go_wp2_with fail
   go_region
   all_goals (
    go_wp2_with fail
    refine bodyPost_ret (v := .tuple #[.agg #[.int .i64 48, .string ⟨#[]⟩, .slice none 0 0], .string (T.extract q T.size), .bool false]) (by simp [results, Try.results116, go_sem, r0, r1, r2]; try rfl) rfl ?_
    have hb := H4.out.2.2.setCell (p := ⟨gx, 2, none⟩) (show w.heap.size <= gx by have := H3.out.2.2.2.1; omega) (Value.slice none 0 0)
    refine ⟨((hb.drew.setCell (p := ⟨w.heap.size, 0, none⟩) (Nat.le_refl _) _).setCell (p := ⟨w.heap.size, 1, none⟩) (Nat.le_refl _) _).setCell (p := ⟨w.heap.size, 2, none⟩) (Nat.le_refl _) _, .inl ⟨HN.out, _, _, _, _, _, _, rfl⟩⟩)
  ·have HSM : Hid (rdG (n + 1) T.data.toList = some (It.mk 48 [] ks, q)) := HR.out (some ks) hsome
   have HO : Hid (OwnK w4 W3.heap.size n (.slice ax l cx) ks fp) := hown
   clear hsome hown
   go_wp2_with fail
   go_region
   all_goals (
    go_wp2_with fail
    refine bodyPost_ret (v := .tuple #[.agg #[.int .i64 48, .string ⟨#[]⟩, .slice ax l cx], .string (T.extract q T.size), .bool true]) (by simp [results, Try.results116, go_sem, r0, r1, r2]; try rfl) rfl ?_
    have hb := H4.out.2.2.setCell (p := ⟨gx, 2, none⟩) (show w.heap.size <= gx by have := H3.out.2.2.2.1; omega) (Value.slice ax l cx)
    refine ⟨((hb.drew.setCell (p := ⟨w.heap.size, 0, none⟩) (Nat.le_refl _) _).setCell (p := ⟨w.heap.size, 1, none⟩) (Nat.le_refl _) _).setCell (p := ⟨w.heap.size, 2, none⟩) (Nat.le_refl _) _, .inr ⟨_, _, 48, ⟨#[]⟩, ax, l, cx, fp, HSM.out, rfl, rfl, rfl, ?_⟩⟩
    refine OwnK.base (base := W3.heap.size) (by have := H3.out.2.2.2; omega) (HO.out.same fun y hy => ?_)
    have h1 := (OwnK.lt HO.out y hy).1
    have h2 := H3.out.2.2.2
    show ((((w4.setCell ⟨gx, 2, none⟩ _).setCell ⟨w.heap.size, 0, none⟩ _).setCell ⟨w.heap.size, 1, none⟩ _).setCell ⟨w.heap.size, 2, none⟩ _).heap[y]? = _
    rw [heap_setCell_other _ _ _ _ (by show y ≠ w.heap.size; omega), heap_setCell_other _ _ _ _ (by show y ≠ w.heap.size; omega), heap_setCell_other _ _ _ _ (by show y ≠ w.heap.size; omega)]
    exact heap_setCell_other _ _ _ _ (by show y ≠ gx; omega))
def strSize : Value -> Nat
 | .string s => s.size
 | _ => 0
theorem kids_step (n : Nat) (FI : Hid (FiC (n + 1))) : KiC (n + 1) := fun T w hT hTn => by
 go_enter Try.func129, Try.ntmps129
 go_wp2_with fail
 go_loopw [0, 4] (fun tv kv wr => ∃ (S : ByteArray) (ao : Option Addr) (l cp : Nat), tv = .string S /\ kv = .slice ao l cp /\ Hid (∃ (ks : List (It (n + 1))) (m : Nat), GrowK wr w.heap.size n (.slice ao l cp) ks /\ ks.length = l /\ Below w.heap.size w wr /\ S.size <= m /\ S.size <= T.size /\ ks.length + m <= T.size /\ kidsL (rdG (n + 1)) T.size T.data.toList = (kidsL (rdG (n + 1)) m S.data.toList).map (ks ++ ·))) (fun tv _ _ => strSize tv)
 case atStart => exact ⟨T, none, 0, 0, rfl, rfl, [], T.size, GrowK.nil _ _ _, rfl, Below.refl _ _, Nat.le_refl _, Nat.le_refl _, by simp, (map_nil_app _).symm⟩
 case round =>
  obtain ⟨S, ao, l, cp, rfl, rfl, HR⟩ := hrel
  obtain ⟨ks, m, hrG, hkl, hrB, hSm, hST, hrm, hrK⟩ := HR.out
  have HK : Hid (GrowK wr w.heap.size n (.slice ao l cp) ks /\ ks.length = l /\ Below w.heap.size w wr /\ kidsL (rdG (n + 1)) T.size T.data.toList = (kidsL (rdG (n + 1)) m S.data.toList).map (ks ++ ·)) := ⟨hrG, hkl, hrB, hrK⟩
  clear HR hrG hkl hrB hrK
  by_cases h0 : S.size = 0
  ·have hS0 := empty_of h0
   subst hS0
   have HS : Hid (kidsL (rdG (n + 1)) T.size T.data.toList = some ks) := by
    show kidsL (rdG (n + 1)) T.size T.data.toList = some ks
    rw [HK.out.2.2.2, show (⟨#[]⟩ : ByteArray).data.toList = [] from rfl, kidsL_end]
    simp
   have HO : Hid (∃ fp, OwnK wr w.heap.size (n + 1) (.slice ao l cp) ks fp) := HK.out.1.own
   go_wp2_with fail
   go_ret2
   obtain ⟨fp, hfp⟩ := HO.out
   exact ⟨HK.out.2.2.1, .inr ⟨ks, ao, l, cp, fp, HS.out, rfl, hfp⟩⟩
  ·have hne : S.toList.isEmpty = false := not_empty (by omega)
   have hnl : S.data.toList ≠ [] := fun e => h0 (by have e2 : S.data.toList.length = S.size := rfl; rw [e] at e2; simpa using e2.symm)
   have E := FI.out S wr (by omega) (by omega)
   have HNL : Hid (S.data.toList ≠ []) := hnl
   clear hnl
   go_wp2_with fail
   refine E.mono ?_
   clear E
   rintro e w3 ⟨hb3, hcase⟩
   rcases hcase with ⟨hnone, t3, s3, ax3, l3, cx3, s4, rfl⟩ | ⟨y, u, t3, s3, ax3, l3, cx3, fp3, hsome, rfl, hown⟩
   ·have HN : Hid (kidsL (rdG (n + 1)) T.size T.data.toList = none) := by
     show kidsL (rdG (n + 1)) T.size T.data.toList = none
     rw [HK.out.2.2.2, kidsL_fail _ HNL.out hnone]
     rfl
    have HB : Hid (Below w.heap.size w (w3.alloc (Obj.cells #[Value.int IntKind.i64 t3, Value.string s3, Value.slice ax3 l3 cx3] 67))) := HK.out.2.2.1.trans ((hb3.alloc hb3.size _).mono HK.out.2.2.1.size)
    clear hnone hb3
    go_wp2_with fail
    go_ret2
    exact ⟨HB.out, .inl ⟨HN.out, rfl⟩⟩
   ·obtain ⟨hu1, hu2, -⟩ := rdG_txt _ _ _ _ hsome
    have e2 : S.data.toList.length = S.size := rfl
    rw [e2] at hu1
    obtain ⟨ht3, hs3, ho3⟩ := hown
    have hb34 : Below w3.heap.size w3 (w3.alloc (Obj.cells #[Value.int IntKind.i64 t3, Value.string s3, Value.slice ax3 l3 cx3] 67)) := (Below.refl _ _).alloc (Nat.le_refl _) _
    have H4 : Hid (Below wr.heap.size wr (w3.alloc (Obj.cells #[Value.int IntKind.i64 t3, Value.string s3, Value.slice ax3 l3 cx3] 67)) /\ OwnK (w3.alloc (Obj.cells #[Value.int IntKind.i64 t3, Value.string s3, Value.slice ax3 l3 cx3] 67)) wr.heap.size n (.slice ax3 l3 cx3) (It.kids y) fp3 /\ It.tag y = t3 /\ (⟨(It.text y).toArray⟩ : ByteArray) = s3) := ⟨hb3.alloc hb3.size _, ho3.below hb34 (fun b hm => (OwnK.lt ho3 b hm).2), ht3, hs3⟩
    obtain ⟨m', rfl⟩ : ∃ m', m = m' + 1 := ⟨m - 1, by omega⟩
    have HNX : Hid (kidsL (rdG (n + 1)) T.size T.data.toList = (kidsL (rdG (n + 1)) m' (S.extract u S.size).data.toList).map ((ks ++ [y]) ++ ·) /\ (S.extract u S.size).size <= m' /\ (S.extract u S.size).size < S.size) := by
     have es : (S.extract u S.size).size = S.size - u := by rw [ByteArray.size_extract]; omega
     refine ⟨?_, by omega, by omega⟩
     rw [HK.out.2.2.2, kidsL_step _ HNL.out hsome, Option.map_map, ext_list, List.take_of_length_le (by rw [List.length_drop]; omega)]
     congr 1
     funext l
     simp
    clear hsome hb3 hb34 ho3 ht3 hs3 hu1 hu2
    have HLN : Hid (ks.length <= 1000000000 /\ ks.length + 1 + m' <= T.size) := ⟨by omega, by omega⟩
    go_wp2_with (at_builtin; refine wpList_append_item rfl _ _ rfl w.heap.size n (.slice ao l cp) ks y t3 s3 (.slice ax3 l3 cx3) fp3 H4.out.2.2.1 H4.out.2.2.2 rfl _ rfl (by simp) HK.out.1 H4.out.1 H4.out.2.1 HK.out.2.2.1.size HLN.out.1 ?_)
    intro g cap w6 hG6 hgrow6
    have H6 : Hid (GrowK w6 w.heap.size n (.slice (some ⟨g, 0, none⟩) (l + 1) cap) (ks ++ [y]) /\ Below w.heap.size w w6) := by
     have hb5 := H4.out.1.alloc H4.out.1.size (Obj.cells #[Value.int IntKind.i64 t3, Value.string s3, Value.slice ax3 l3 cx3] 67)
     have hkb := GrowK.lt HK.out.1
     have hbw := HK.out.2.2.1.trans (hb5.mono HK.out.2.2.1.size)
     rw [HK.out.2.1] at hG6
     exact ⟨hG6, hbw.grown hgrow6 (hbw.size) (fun q hq => (hkb q hq).1)⟩
    rw [HK.out.2.1]
    have HLK : Hid (ks.length = l) := HK.out.2.1
    clear hG6 hgrow6 H4
    go_wp2_with fail
    refine ⟨⟨S.extract u S.size, some ⟨g, 0, none⟩, l + 1, cap, rfl, rfl, ks ++ [y], m', H6.out.1, by rw [List.length_append, List.length_singleton, HLK.out], H6.out.2, HNX.out.2.1, by have := HNX.out.2.2; omega, by rw [List.length_append, List.length_singleton]; exact HLN.out.2, HNX.out.1⟩, by have := HNX.out.2.2; show (S.extract u S.size).size < S.size; omega⟩
theorem reads_any : ∀ n, FiC n /\ KiC n
 | 0 => ⟨fun T w _ h => absurd h (Nat.not_lt_zero _), fun T w _ h => absurd h (Nat.not_lt_zero _)⟩
 | n + 1 => by
  have h := first_step n (reads_any n).2
  exact ⟨h, kids_step n h⟩
theorem kidsL_sz {n : Nat} (rd : List UInt8 -> Option (It n × Nat)) (h : ∀ t x u, rd t = some (x, u) -> szI n x + 2 <= u /\ u <= t.length) : ∀ (m : Nat) (l : List UInt8) (ks : List (It n)), kidsL rd m l = some ks -> ks.length + (ks.map (szI n)).sum <= l.length
 | m, [], ks, hk => by rw [kidsL_end] at hk; injection hk with hk; subst hk; simp
 | 0, b :: l, ks, hk => by rw [kidsL_full _ (by simp)] at hk; cases hk
 | m + 1, b :: l, ks, hk => by
  cases hr : rd (b :: l) with
  | none => rw [kidsL_fail _ (by simp) hr] at hk; cases hk
  | some xu =>
   obtain ⟨x, u⟩ := xu
   obtain ⟨h1, h2⟩ := h _ _ _ hr
   rw [kidsL_step _ (by simp) hr] at hk
   cases hq : kidsL rd m ((b :: l).drop u) with
   | none => rw [hq] at hk; cases hk
   | some xs =>
    rw [hq] at hk
    injection hk with hk
    subst hk
    have h3 := kidsL_sz rd h m _ xs hq
    rw [List.length_drop] at h3
    rw [List.length_cons, List.map_cons, List.sum_cons]
    omega
theorem rdG_sz : ∀ (n : Nat) (t : List UInt8) (x : It n) (u : Nat), rdG n t = some (x, u) -> szI n x + 2 <= u /\ u <= t.length
 | 0, _, _, _, h => by simp [rdG] at h
 | n + 1, [], _, _, h => by simp [rdG] at h
 | n + 1, b :: r, x, u, h => by
  have hu := rdG_txt _ _ _ _ h
  refine ⟨?_, hu.1⟩
  rw [rdG_cons] at h
  split at h
  ·cases h
  ·next sz c hs =>
   have hp : 1 <= c := by have := (sizeG_some hs).2.1; have := lenB_pos sz; omega
   split at h
   ·cases h
   ·split at h
    ·simp only [Option.some.injEq, Prod.mk.injEq] at h
     obtain ⟨rfl, rfl⟩ := h
     show ((r.drop c).take sz).length + ([] : List (It n)).length + (([] : List (It n)).map (szI n)).sum + 2 <= _
     rw [List.length_take]
     simp only [List.length_nil, List.map_nil, List.sum_nil]
     omega
    ·split at h
     ·cases h
     ·next ks hk =>
      simp only [Option.some.injEq, Prod.mk.injEq] at h
      obtain ⟨rfl, rfl⟩ := h
      have h1 := kidsL_sz _ (rdG_sz n) _ _ _ hk
      rw [List.length_take] at h1
      show ([] : List UInt8).length + ks.length + (ks.map (szI n)).sum + 2 <= _
      simp only [List.length_nil]
      omega
theorem rdI_sz : ∀ (n : Nat) (t : List UInt8) (x : It n) (u : Nat), rdI n t = some (x, u) -> szI n x + 2 <= u /\ u <= t.length
 | 0, _, _, _, h => by simp [rdI] at h
 | n + 1, [], _, _, h => by simp [rdI] at h
 | n + 1, b :: r, x, u, h => by
  have hu := rd_le h
  refine ⟨?_, hu.1⟩
  rw [rdI_cons] at h
  split at h
  ·cases h
  ·next sz c hs =>
   have hp := (sizeL_le hs).1
   split at h
   ·cases h
   ·split at h
    ·simp only [Option.some.injEq, Prod.mk.injEq] at h
     obtain ⟨rfl, rfl⟩ := h
     show ((r.drop c).take sz).length + ([] : List (It n)).length + (([] : List (It n)).map (szI n)).sum + 2 <= _
     rw [List.length_take]
     simp only [List.length_nil, List.map_nil, List.sum_nil]
     omega
    ·split at h
     ·cases h
     ·next ks hk =>
      simp only [Option.some.injEq, Prod.mk.injEq] at h
      obtain ⟨rfl, rfl⟩ := h
      have h1 := kidsL_sz _ (rdI_sz n) _ _ _ hk
      rw [List.length_take] at h1
      show ([] : List UInt8).length + ks.length + (ks.map (szI n)).sum + 2 <= _
      simp only [List.length_nil]
      omega
theorem readG_no {n : Nat} {t : List UInt8} (hl : ¬ 4000 < t.length) (h : rdG n t = none) : readG n t = none := by unfold readG; rw [if_neg hl, h]
theorem readG_at {n : Nat} {t : List UInt8} {x : It n} {u : Nat} (hl : ¬ 4000 < t.length) (h : rdG n t = some (x, u)) : readG n t = if u = t.length /\ rightI n x 0 = true then some x else none := by unfold readG; rw [if_neg hl, h]
theorem readI_no {t : List UInt8} (hl : ¬ 4000 < t.length) (h : rdI 7 t = none) : readI t = none := by unfold readI; rw [if_neg hl, h]
theorem readI_at {t : List UInt8} {x : It 7} {u : Nat} (hl : ¬ 4000 < t.length) (h : rdI 7 t = some (x, u)) : readI t = if u = t.length /\ rightI 7 x 0 = true /\ (txtI 7 x).length <= 4000 /\ txtI 7 x = t then some x else none := by unfold readI; rw [if_neg hl, h]
def ReadPost (n : Nat) (o : Option (It (n + 1))) (w : World) (e : Ending) (w' : World) : Prop := Below w.heap.size w w' /\
 ((o = none /\ e = .returned (.tuple #[.agg #[.int .i64 0, .string ⟨#[]⟩, .slice none 0 0], .bool false])) ∨
 ∃ (x : It (n + 1)) (t : Int) (s : ByteArray) (ax : Option Addr) (l cx : Nat) (fp : List Nat), o = some x /\ e = .returned (.tuple #[.agg #[.int .i64 t, .string s, .slice ax l cx], .bool true]) /\ szI (n + 1) x <= 4000 /\ It.tag x = t /\ (⟨(It.text x).toArray⟩ : ByteArray) = s /\ OwnK w' w.heap.size n (.slice ax l cx) (It.kids x) fp)
theorem implRead_any (n : Nat) (hn : 4000 <= n) (T : ByteArray) (w : World) (hTT : T.size <= 1000000000000) : Calls Try.prog 90 #[.string T] w fun e w' => ReadPost n (readG (n + 1) T.data.toList) w e w' := by
 obtain ⟨⟨r0, r1, r2⟩, hbw⟩ := res_is w (.int .i64 0) (.string ⟨#[]⟩) (.slice none 0 0) 67
 have HTL : Hid (T.data.toList.length = T.size) := rfl
 by_cases hbig : 4000 < T.size
 ·have hbi : (4000 : Int) < (T.size : Int) := by omega
  go_enter Try.func90, Try.ntmps90
  go_wp2_with fail
  refine bodyPost_ret (v := .tuple #[.agg #[.int .i64 0, .string ⟨#[]⟩, .slice none 0 0], .bool false]) (by simp [results, Try.results90, go_sem, r0, r1, r2]; try rfl) rfl ?_
  exact ⟨hbw, .inl ⟨by unfold readG; rw [if_pos (by rw [HTL.out]; exact hbig)], rfl⟩⟩
 have hbi : ¬ (4000 : Int) < (T.size : Int) := by omega
 obtain ⟨W1, hW1⟩ : ∃ W, W = w.alloc (Obj.cells #[Value.int IntKind.i64 0, Value.string { data := #[] }, Value.slice none 0 0] 67) := ⟨_, rfl⟩
 have H1 : Hid (Blk3 W1 w.heap.size (.int .i64 0) (.string ⟨#[]⟩) (.slice none 0 0) /\ Below w.heap.size w W1) := by rw [hW1]; exact ⟨heap_alloc_new w _, hbw⟩
 have E := (reads_any (n + 1)).1 T W1 (by omega) (by omega)
 clear r0 r1 r2 hbw
 go_enter Try.func90, Try.ntmps90
 go_wp2_with fail
 rw [<- hW1]
 clear hW1
 refine E.mono ?_
 clear E
 rintro e w2 ⟨hb2, hcase⟩
 rcases hcase with ⟨hnone, t, s, ax, l, cx, s2, rfl⟩ | ⟨x, u, t, s, ax, l, cx, fp, hsome, rfl, hown⟩
 ·have HN : Hid (readG (n + 1) T.data.toList = none) := by exact readG_no (by rw [HTL.out]; exact hbig) hnone
  have hb3 := hb2.alloc hb2.size (Obj.cells #[Value.int IntKind.i64 t, Value.string s, Value.slice ax l cx] 67)
  have HB : Hid (Below w.heap.size w (w2.alloc (Obj.cells #[Value.int IntKind.i64 t, Value.string s, Value.slice ax l cx] 67))) := H1.out.2.trans (hb3.mono H1.out.2.size)
  obtain ⟨⟨r0, r1, r2⟩, rf⟩ := cell_in (H1.out.1.below hb3)
  clear hnone hb2 hb3
  go_wp2_with fail
  refine bodyPost_ret (v := .tuple #[.agg #[.int .i64 0, .string ⟨#[]⟩, .slice none 0 0], .bool false]) (by simp [results, Try.results90, go_sem, r0, r1, r2]; try rfl) rfl ?_
  exact ⟨((HB.out.setCell (p := ⟨w.heap.size, 0, none⟩) (Nat.le_refl _) _).setCell (p := ⟨w.heap.size, 1, none⟩) (Nat.le_refl _) _).setCell (p := ⟨w.heap.size, 2, none⟩) (Nat.le_refl _) _, .inl ⟨HN.out, rfl⟩⟩
 obtain ⟨hz, hu⟩ := rdG_sz _ _ _ _ hsome
 rw [HTL.out] at hu
 obtain ⟨W3, hW3⟩ : ∃ W, W = w2.alloc (Obj.cells #[Value.int IntKind.i64 t, Value.string s, Value.slice ax l cx] 67) := ⟨_, rfl⟩
 obtain ⟨gx, hgx⟩ := zE (w2.heap.size)
 have hb3 : Below w2.heap.size w2 W3 := by rw [hW3]; exact (Below.refl _ _).alloc (Nat.le_refl _) _
 have hb13 : Below W1.heap.size W1 W3 := hb2.trans (hb3.mono hb2.size)
 have HO : Hid (szI (n + 1) x <= 4000 /\ It.tag x = t /\ (⟨(It.text x).toArray⟩ : ByteArray) = s /\ OwnK W3 W1.heap.size n (.slice ax l cx) (It.kids x) fp) := ⟨by omega, hown.1, hown.2.1, hown.2.2.below hb3 (fun b hm => (OwnK.lt hown.2.2 b hm).2)⟩
 have H3 : Hid (Blk3 W3 w.heap.size (.int .i64 0) (.string ⟨#[]⟩) (.slice none 0 0) /\ Blk3 W3 gx (.int .i64 t) (.string s) (.slice ax l cx) /\ Below w.heap.size w W3) := by
  refine ⟨H1.out.1.below hb13, ?_, H1.out.2.trans (hb13.mono H1.out.2.size)⟩
  rw [hW3, <- hgx]
  exact heap_alloc_new w2 _
 have HRS : Hid (readG (n + 1) T.data.toList = if u = T.size /\ rightI (n + 1) x 0 = true then some x else none) := by have h := readG_at (by rw [HTL.out]; exact hbig) hsome; rw [HTL.out] at h; exact h
 clear hown hsome hb2 hb3 hb13 hz
 by_cases hue : u = T.size
 ·have hem : (T.extract u T.size).toList.isEmpty = true := by rw [toList_data, ext_list, hue, Nat.sub_self, List.take_zero]; rfl
  have EO := implItemOk_any (n + 1) x (.agg #[.int .i64 t, .string s, .slice ax l cx]) W3 ⟨_, by rw [<- HO.out.2.1, <- HO.out.2.2.1], HO.out.2.2.2.at⟩ (by have := HO.out.1; omega)
  obtain ⟨bo, hbo⟩ := zE (rightI (n + 1) x 0)
  rw [hbo] at EO
  have HBO : Hid (rightI (n + 1) x 0 = bo) := hbo
  clear hbo
  go_wp2_with fail
  rw [<- hW3]
  clear hW3 hgx
  refine EO.mono ?_
  clear EO
  rintro e w4 ⟨rfl, hb4⟩
  obtain ⟨⟨r0, r1, r2⟩, rf⟩ := cell_in (H3.out.1.below hb4)
  obtain ⟨⟨x0, x1, x2⟩, xf⟩ := cell_in (H3.out.2.1.below hb4)
  have HB4 : Hid (Below w.heap.size w w4) := H3.out.2.2.trans (hb4.mono H3.out.2.2.size)
  replace HO : Hid (szI (n + 1) x <= 4000 /\ It.tag x = t /\ (⟨(It.text x).toArray⟩ : ByteArray) = s /\ OwnK w4 W1.heap.size n (.slice ax l cx) (It.kids x) fp) := ⟨HO.out.1, HO.out.2.1, HO.out.2.2.1, HO.out.2.2.2.below hb4 (fun b hm => (OwnK.lt HO.out.2.2.2 b hm).2)⟩
  clear hb4
  cases bo with
  | true =>
   go_wp2_with fail
   refine bodyPost_ret (v := .tuple #[.agg #[.int .i64 t, .string s, .slice ax l cx], .bool true]) (by simp [results, Try.results90, go_sem, r0, r1, r2]; try rfl) rfl ?_
   refine ⟨((HB4.out.setCell (p := ⟨w.heap.size, 0, none⟩) (Nat.le_refl _) _).setCell (p := ⟨w.heap.size, 1, none⟩) (Nat.le_refl _) _).setCell (p := ⟨w.heap.size, 2, none⟩) (Nat.le_refl _) _, .inr ⟨x, t, s, ax, l, cx, fp, by rw [HRS.out, if_pos ⟨hue, HBO.out⟩], rfl, HO.out.1, HO.out.2.1, HO.out.2.2.1, ?_⟩⟩
   refine OwnK.base (base := W1.heap.size) (by have := H1.out.1.lt; omega) (HO.out.2.2.2.same fun y hy => ?_)
   have h1 := (OwnK.lt HO.out.2.2.2 y hy).1
   have h2 := H1.out.1.lt
   rw [heap_setCell_other _ _ _ _ (by show y ≠ w.heap.size; omega), heap_setCell_other _ _ _ _ (by show y ≠ w.heap.size; omega), heap_setCell_other _ _ _ _ (by show y ≠ w.heap.size; omega)]
  | false =>
   go_wp2_with fail
   refine bodyPost_ret (v := .tuple #[.agg #[.int .i64 0, .string ⟨#[]⟩, .slice none 0 0], .bool false]) (by simp [results, Try.results90, go_sem, r0, r1, r2]; try rfl) rfl ?_
   exact ⟨((HB4.out.setCell (p := ⟨w.heap.size, 0, none⟩) (Nat.le_refl _) _).setCell (p := ⟨w.heap.size, 1, none⟩) (Nat.le_refl _) _).setCell (p := ⟨w.heap.size, 2, none⟩) (Nat.le_refl _) _, .inl ⟨by rw [HRS.out, if_neg (fun h => by rw [HBO.out] at h; cases h.2)], rfl⟩⟩
 ·have hem : (T.extract u T.size).toList.isEmpty = false := not_empty (by rw [ByteArray.size_extract]; omega)
  obtain ⟨⟨r0, r1, r2⟩, rf⟩ := cell_in H3.out.1
  rw [hW3] at r0 r1 r2 rf
  have HB : Hid (Below w.heap.size w (w2.alloc (Obj.cells #[Value.int IntKind.i64 t, Value.string s, Value.slice ax l cx] 67))) := by have := H3.out.2.2; rw [hW3] at this; exact this
  clear hW3 hgx
  go_wp2_with fail
  refine bodyPost_ret (v := .tuple #[.agg #[.int .i64 0, .string ⟨#[]⟩, .slice none 0 0], .bool false]) (by simp [results, Try.results90, go_sem, r0, r1, r2]; try rfl) rfl ?_
  exact ⟨((HB.out.setCell (p := ⟨w.heap.size, 0, none⟩) (Nat.le_refl _) _).setCell (p := ⟨w.heap.size, 1, none⟩) (Nat.le_refl _) _).setCell (p := ⟨w.heap.size, 2, none⟩) (Nat.le_refl _) _, .inl ⟨by rw [HRS.out, if_neg (fun h => hue h.1)], rfl⟩⟩
theorem specRead_any (T : ByteArray) (w : World) (hTT : T.size <= 1000000000000) : Calls Try.prog 53 #[.string T] w fun e w' => ReadPost 6 (readI T.data.toList) w e w' := by
 obtain ⟨⟨r0, r1, r2⟩, hbw⟩ := res_is w (.int .i64 0) (.string ⟨#[]⟩) (.slice none 0 0) 67
 have HTL : Hid (T.data.toList.length = T.size) := rfl
 by_cases hbig : 4000 < T.size
 ·have hbi : (4000 : Int) < (T.size : Int) := by omega
  go_enter Try.func53, Try.ntmps53
  go_wp2_with fail
  refine bodyPost_ret (v := .tuple #[.agg #[.int .i64 0, .string ⟨#[]⟩, .slice none 0 0], .bool false]) (by simp [results, Try.results53, go_sem, r0, r1, r2]; try rfl) rfl ?_
  exact ⟨hbw, .inl ⟨by unfold readI; rw [if_pos (by rw [HTL.out]; exact hbig)], rfl⟩⟩
 have hbi : ¬ (4000 : Int) < (T.size : Int) := by omega
 obtain ⟨W1, hW1⟩ : ∃ W, W = w.alloc (Obj.cells #[Value.int IntKind.i64 0, Value.string { data := #[] }, Value.slice none 0 0] 67) := ⟨_, rfl⟩
 have H1 : Hid (Blk3 W1 w.heap.size (.int .i64 0) (.string ⟨#[]⟩) (.slice none 0 0) /\ Below w.heap.size w W1) := by rw [hW1]; exact ⟨heap_alloc_new w _, hbw⟩
 have E : Calls Try.prog 88 #[.string T, .int .i64 0, .int .i64 0] W1 fun e w' => InPost 7 T 0 W1 e w' := read_any 7 (Nat.le_refl _) T 0 W1 (by omega) (Nat.zero_le _)
 clear r0 r1 r2 hbw
 go_enter Try.func53, Try.ntmps53
 go_wp2_with fail
 rw [<- hW1]
 clear hW1
 refine E.mono ?_
 clear E
 rintro e w2 ⟨hb2, hcase⟩
 rw [List.drop_zero] at hcase
 rcases hcase with ⟨hnone, rfl⟩ | ⟨x, u, t, s, ax, l, cx, fp, hsome, rfl, hown⟩
 ·have HN : Hid (readI T.data.toList = none) := readI_no (by rw [HTL.out]; exact hbig) hnone
  obtain ⟨W3, hW3⟩ : ∃ W, W = w2.alloc (Obj.cells #[Value.int IntKind.i64 0, Value.string { data := #[] }, Value.slice none 0 0] 67) := ⟨_, rfl⟩
  have hb3 : Below W1.heap.size W1 W3 := by rw [hW3]; exact hb2.alloc hb2.size _
  have HB : Hid (Below w.heap.size w W3) := H1.out.2.trans (hb3.mono H1.out.2.size)
  have EW := specItemText_any 1 (It.mk 0 [] ([] : List (It 0))) (.agg #[.int .i64 0, .string ⟨#[]⟩, .slice none 0 0]) W3 ⟨_, rfl, (own_nil W3 0 0).at⟩ (by decide)
  have hwn : writeI 1 (It.mk 0 [] ([] : List (It 0))) = none := by decide
  rw [hwn] at EW
  have H3 : Hid (Blk3 W3 w.heap.size (.int .i64 0) (.string ⟨#[]⟩) (.slice none 0 0)) := H1.out.1.below hb3
  clear hnone hb2 hb3 hwn
  go_wp2_with fail
  rw [<- hW3]
  clear hW3
  refine EW.mono ?_
  clear EW
  rintro e w4 ⟨rfl, hb4⟩
  obtain ⟨⟨r0, r1, r2⟩, rf⟩ := cell_in (H3.out.below hb4)
  replace HB : Hid (Below w.heap.size w w4) := HB.out.trans (hb4.mono HB.out.size)
  clear hb4
  go_wp2_with fail
  refine bodyPost_ret (v := .tuple #[.agg #[.int .i64 0, .string ⟨#[]⟩, .slice none 0 0], .bool false]) (by simp [results, Try.results53, go_sem, r0, r1, r2]; try rfl) rfl ?_
  exact ⟨((HB.out.setCell (p := ⟨w.heap.size, 0, none⟩) (Nat.le_refl _) _).setCell (p := ⟨w.heap.size, 1, none⟩) (Nat.le_refl _) _).setCell (p := ⟨w.heap.size, 2, none⟩) (Nat.le_refl _) _, .inl ⟨HN.out, rfl⟩⟩
 obtain ⟨hz, hu⟩ := rdI_sz _ _ _ _ hsome
 rw [HTL.out] at hu
 rw [Nat.zero_add]
 obtain ⟨W3, hW3⟩ : ∃ W, W = w2.alloc (Obj.cells #[Value.int IntKind.i64 t, Value.string s, Value.slice ax l cx] 67) := ⟨_, rfl⟩
 obtain ⟨gx, hgx⟩ := zE (w2.heap.size)
 have hb3 : Below w2.heap.size w2 W3 := by rw [hW3]; exact (Below.refl _ _).alloc (Nat.le_refl _) _
 have hb13 : Below W1.heap.size W1 W3 := hb2.trans (hb3.mono hb2.size)
 have HO : Hid (szI (6 + 1) x <= 4000 /\ It.tag x = t /\ (⟨(It.text x).toArray⟩ : ByteArray) = s /\ OwnK W3 W1.heap.size 6 (.slice ax l cx) (It.kids x) fp) := ⟨by show szI 7 x <= 4000; omega, hown.1, hown.2.1, hown.2.2.below hb3 (fun b hm => (OwnK.lt hown.2.2 b hm).2)⟩
 have H3 : Hid (Blk3 W3 w.heap.size (.int .i64 0) (.string ⟨#[]⟩) (.slice none 0 0) /\ Blk3 W3 gx (.int .i64 t) (.string s) (.slice ax l cx) /\ Below w.heap.size w W3) := by
  refine ⟨H1.out.1.below hb13, ?_, H1.out.2.trans (hb13.mono H1.out.2.size)⟩
  rw [hW3, <- hgx]
  exact heap_alloc_new w2 _
 have HRS : Hid (readI T.data.toList = if u = T.size /\ rightI 7 x 0 = true /\ (txtI 7 x).length <= 4000 /\ txtI 7 x = T.data.toList then some x else none) := by have h := readI_at (by rw [HTL.out]; exact hbig) hsome; rw [HTL.out] at h; exact h
 clear hown hsome hb2 hb3 hb13 hz
 have EW := specItemText_any 7 x (.agg #[.int .i64 t, .string s, .slice ax l cx]) W3 ⟨_, by rw [<- HO.out.2.1, <- HO.out.2.2.1], HO.out.2.2.2.at⟩ (by have h : szI 7 x <= 4000 := HO.out.1; omega)
 obtain ⟨wo, hwo⟩ := zE (writeI 7 x)
 rw [hwo] at EW
 have HWO : Hid (writeI 7 x = wo) := hwo
 clear hwo
 obtain ⟨A, hA⟩ : ∃ A : ByteArray, (⟨(wo.getD []).toArray⟩ : ByteArray) = A := ⟨_, rfl⟩
 have HA : Hid (A.data.toList = wo.getD []) := by show A.data.toList = wo.getD []; rw [<- hA]
 obtain ⟨bo, hbo⟩ := zE (wo.isSome)
 have HBO : Hid (wo.isSome = bo) := hbo
 rw [hA, hbo] at EW
 clear hA hbo
 go_wp2_with fail
 rw [<- hW3]
 clear hW3 hgx
 refine EW.mono ?_
 clear EW
 rintro e w4 ⟨rfl, hb4⟩
 obtain ⟨⟨r0, r1, r2⟩, rf⟩ := cell_in (H3.out.1.below hb4)
 obtain ⟨⟨x0, x1, x2⟩, xf⟩ := cell_in (H3.out.2.1.below hb4)
 have HB4 : Hid (Below w.heap.size w w4) := H3.out.2.2.trans (hb4.mono H3.out.2.2.size)
 replace HO : Hid (szI (6 + 1) x <= 4000 /\ It.tag x = t /\ (⟨(It.text x).toArray⟩ : ByteArray) = s /\ OwnK w4 W1.heap.size 6 (.slice ax l cx) (It.kids x) fp) := ⟨HO.out.1, HO.out.2.1, HO.out.2.2.1, HO.out.2.2.2.below hb4 (fun b hm => (OwnK.lt HO.out.2.2.2 b hm).2)⟩
 clear hb4
 by_cases hue : u = T.size
 ·have huei : (u : Int) = (T.size : Int) := by omega
  cases bo with
  | false =>
   have HN : Hid (readI T.data.toList = none) := by
    show readI T.data.toList = none
    rw [HRS.out, if_neg]
    rintro ⟨_, h2, h3, _⟩
    have h4 := HWO.out
    unfold writeI at h4
    rw [if_pos ⟨h2, h3⟩] at h4
    have h5 := HBO.out
    rw [<- h4] at h5
    cases h5
   go_wp2_with fail
   refine bodyPost_ret (v := .tuple #[.agg #[.int .i64 0, .string ⟨#[]⟩, .slice none 0 0], .bool false]) (by simp [results, Try.results53, go_sem, r0, r1, r2]; try rfl) rfl ?_
   exact ⟨((HB4.out.setCell (p := ⟨w.heap.size, 0, none⟩) (Nat.le_refl _) _).setCell (p := ⟨w.heap.size, 1, none⟩) (Nat.le_refl _) _).setCell (p := ⟨w.heap.size, 2, none⟩) (Nat.le_refl _) _, .inl ⟨HN.out, rfl⟩⟩
  | true =>
   obtain ⟨tt, htt⟩ : ∃ tt, wo = some tt := Option.isSome_iff_exists.1 HBO.out
   have hw := HWO.out
   rw [htt] at hw
   obtain ⟨g1, g2, g3⟩ := write_some hw
   have hAt := HA.out
   rw [htt] at hAt
   change A.data.toList = tt at hAt
   by_cases hc : A.data.toList = T.data.toList
   ·have hcm : (A.toList == T.toList) = true := by rw [toList_data, toList_data, hc]; simp
    have HY : Hid (readI T.data.toList = some x) := by
     show readI T.data.toList = some x
     rw [HRS.out, if_pos ⟨hue, g1, by rw [g3]; exact g2, by rw [g3, <- hAt]; exact hc⟩]
    clear htt hw g1 g2 g3 hAt hc
    go_wp2_with fail
    refine bodyPost_ret (v := .tuple #[.agg #[.int .i64 t, .string s, .slice ax l cx], .bool true]) (by simp [results, Try.results53, go_sem, r0, r1, r2]; try rfl) rfl ?_
    refine ⟨((HB4.out.setCell (p := ⟨w.heap.size, 0, none⟩) (Nat.le_refl _) _).setCell (p := ⟨w.heap.size, 1, none⟩) (Nat.le_refl _) _).setCell (p := ⟨w.heap.size, 2, none⟩) (Nat.le_refl _) _, .inr ⟨x, t, s, ax, l, cx, fp, HY.out, rfl, HO.out.1, HO.out.2.1, HO.out.2.2.1, ?_⟩⟩
    refine OwnK.base (base := W1.heap.size) (by have := H1.out.1.lt; omega) (HO.out.2.2.2.same fun y hy => ?_)
    have h1 := (OwnK.lt HO.out.2.2.2 y hy).1
    have h2 := H1.out.1.lt
    rw [heap_setCell_other _ _ _ _ (by show y ≠ w.heap.size; omega), heap_setCell_other _ _ _ _ (by show y ≠ w.heap.size; omega), heap_setCell_other _ _ _ _ (by show y ≠ w.heap.size; omega)]
   ·have hcm : (A.toList == T.toList) = false := by rw [toList_data, toList_data]; exact beq_eq_false_iff_ne.2 hc
    have HN : Hid (readI T.data.toList = none) := by
     show readI T.data.toList = none
     rw [HRS.out, if_neg]
     rintro ⟨_, _, _, h4⟩
     exact hc (by rw [hAt, <- g3, h4])
    clear htt hw g1 g2 g3 hAt hc
    go_wp2_with fail
    refine bodyPost_ret (v := .tuple #[.agg #[.int .i64 0, .string ⟨#[]⟩, .slice none 0 0], .bool false]) (by simp [results, Try.results53, go_sem, r0, r1, r2]; try rfl) rfl ?_
    exact ⟨((HB4.out.setCell (p := ⟨w.heap.size, 0, none⟩) (Nat.le_refl _) _).setCell (p := ⟨w.heap.size, 1, none⟩) (Nat.le_refl _) _).setCell (p := ⟨w.heap.size, 2, none⟩) (Nat.le_refl _) _, .inl ⟨HN.out, rfl⟩⟩
 ·have huei : ¬ (u : Int) = (T.size : Int) := by omega
  have HN : Hid (readI T.data.toList = none) := by
   show readI T.data.toList = none
   rw [HRS.out, if_neg (fun h => hue h.1)]
  go_wp2_with fail
  refine bodyPost_ret (v := .tuple #[.agg #[.int .i64 0, .string ⟨#[]⟩, .slice none 0 0], .bool false]) (by simp [results, Try.results53, go_sem, r0, r1, r2]; try rfl) rfl ?_
  exact ⟨((HB4.out.setCell (p := ⟨w.heap.size, 0, none⟩) (Nat.le_refl _) _).setCell (p := ⟨w.heap.size, 1, none⟩) (Nat.le_refl _) _).setCell (p := ⟨w.heap.size, 2, none⟩) (Nat.le_refl _) _, .inl ⟨HN.out, rfl⟩⟩
end Go.Proofs.Ytbiiihjohbnodaa
