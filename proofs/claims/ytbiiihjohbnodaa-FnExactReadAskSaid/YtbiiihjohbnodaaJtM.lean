/-
  The program's readLength.
-/
import Derived.Test.YtbiiihjohbnodaaItU
import Derived.Test.YtbiiihjohbnodaaItQ
import Derived.Test.YtbiiihjohbnodaaJtL
import Derived.Test.YtbiiihjohbnodaaCloI
namespace Go.Proofs.Ytbiiihjohbnodaa
open Go.RowKit Der
set_option linter.unusedVariables false

/-- What readLength answers. -/
def LenPost (T : ByteArray) (w : World) (e : Ending) (w' : World) : Prop := Below w.heap.size w w' ∧
  ((sizeG T.data.toList = none ∧ ∃ a b : Nat, a ≤ 100000 ∧ b ≤ 100000 ∧ e = .returned (.tuple #[.int .i64 (a : Int), .int .i64 (b : Int), .bool false])) ∨
  ∃ z c : Nat, sizeG T.data.toList = some (z, c) ∧ e = .returned (.tuple #[.int .i64 (z : Int), .int .i64 (c : Int), .bool true]))
theorem toList_data (T : ByteArray) : T.toList = T.data.toList := by
  obtain ⟨d⟩ := T
  obtain ⟨l⟩ := d
  show (⟨l.toArray⟩ : ByteArray).toList = _
  simp
theorem not_empty {T : ByteArray} (h : 0 < T.size) : T.toList.isEmpty = false := by
  have e : T.data.toList.length = T.size := rfl
  rw [toList_data]
  cases hq : T.data.toList with
  | nil => rw [hq] at e; simp at e; omega
  | cons => rfl
theorem list_cons {T : ByteArray} (h : 0 < T.size) : ∃ b r, T.data.toList = b :: r ∧ r.length + 1 = T.size ∧ (∀ h, T[0]'h = b) ∧ r = T.data.toList.drop 1 := by
  obtain ⟨b, r, he⟩ : ∃ b r, T.data.toList = b :: r := by
    cases hq : T.data.toList with
    | nil => have e : T.data.toList.length = T.size := rfl; rw [hq] at e; simp at e; omega
    | cons b r => exact ⟨b, r, rfl⟩
  have e : T.data.toList.length = T.size := rfl
  refine ⟨b, r, he, by rw [← e, he]; rfl, fun h => ?_, by rw [he]; rfl⟩
  have h2 : T.data.toList[0]'(by rw [e]; exact h) = b := by simp [he]
  exact h2
set_option maxHeartbeats 1600000 in
set_option maxRecDepth 100000 in
theorem readLength_any (T : ByteArray) (w : World) (hT : T.size ≤ 4000) : Calls Try.prog 128 #[.string T] w fun e w' => LenPost T w e w' := by
  by_cases h0 : T.size = 0
  · have hT0 : T = ⟨#[]⟩ := by
      cases T with
      | mk d => congr 1; exact Array.eq_empty_of_size_eq_zero h0
    subst hT0
    go_enter Try.func128, Try.ntmps128
    go_wp2_with fail
    go_ret3
    exact ⟨Below.refl _ _, .inl ⟨rfl, 0, 0, by omega, by omega, rfl⟩⟩
  obtain ⟨b, r, he, hrl, hg0, hr1⟩ := list_cons (T := T) (by omega)
  have hne : T.toList.isEmpty = false := not_empty (by omega)
  have hbl := b.toNat_lt
  have h0i : (0 : Int) < (T.size : Int) := by omega
  have h0n : 0 < T.size := by omega
  have wb : IntKind.i64.wrap (b.toNat : Int) = (b.toNat : Int) := by rw [IntKind.wrap_i64]; omega
  by_cases h128 : b.toNat < 128
  · have h128i : (b.toNat : Int) < 128 := by omega
    have HR : Hid (sizeG T.data.toList = some (b.toNat, 1)) := by show sizeG T.data.toList = _; rw [he, sizeG_cons, if_pos h128]
    clear he hr1 hrl
    go_enter Try.func128, Try.ntmps128
    go_wp2_with fail
    go_ret3
    exact ⟨Below.refl _ _, .inr ⟨_, _, HR.out, rfl⟩⟩
  have h128i : ¬ (b.toNat : Int) < 128 := by omega
  obtain ⟨k, hk⟩ : ∃ k : Nat, b.toNat - 128 = k := ⟨_, rfl⟩
  have w5 : IntKind.i64.wrap ((b.toNat : Int) - 128) = (k : Int) := by rw [IntKind.wrap_i64]; omega
  by_cases hk2 : 2 < k
  · have hk2i : (2 : Int) < (k : Int) := by omega
    have HR : Hid (sizeG T.data.toList = none) := by show sizeG T.data.toList = _; rw [he, sizeG_cons, if_neg h128, hk, if_pos (.inl hk2)]
    clear he hr1 hrl hk
    go_enter Try.func128, Try.ntmps128
    go_wp2_with fail
    go_ret3
    exact ⟨Below.refl _ _, .inl ⟨HR.out, 0, 0, by omega, by omega, rfl⟩⟩
  have hk2i : ¬ (2 : Int) < (k : Int) := by omega
  by_cases hkl : T.size ≤ k
  · have hkli : (T.size : Int) ≤ (k : Int) := by omega
    have HR : Hid (sizeG T.data.toList = none) := by show sizeG T.data.toList = _; rw [he, sizeG_cons, if_neg h128, hk, if_pos (.inr (by omega))]
    clear he hr1 hrl hk
    go_enter Try.func128, Try.ntmps128
    go_wp2_with fail
    go_ret3
    exact ⟨Below.refl _ _, .inl ⟨HR.out, 0, 0, by omega, by omega, rfl⟩⟩
  have hkli : ¬ (T.size : Int) ≤ (k : Int) := by omega
  obtain ⟨v, hv⟩ : ∃ v : Nat, 1 + k = v := ⟨_, rfl⟩
  have wv : IntKind.i64.wrap (1 + (k : Int)) = (v : Int) := by rw [IntKind.wrap_i64]; omega
  have hvT : v ≤ T.size := by omega
  have h1v : 1 ≤ v := by omega
  have h1vi : (1 : Int) ≤ (v : Int) := by omega
  have hvTi : (v : Int) ≤ (T.size : Int) := by omega
  have hv0 : (0 : Int) ≤ (v : Int) := by omega
  have hsz : (T.extract 1 v).size ≤ 7 := by rw [ByteArray.size_extract]; omega
  obtain ⟨q, hq⟩ : ∃ q : Nat, valB8 (T.extract 1 v).data.toList = q := ⟨_, rfl⟩
  have hqs : q < 65536 := by
    have h1 := valB8_lt _ (T.extract 1 v).data.toList rfl
    have h2 : (T.extract 1 v).data.toList.length ≤ 2 := by
      have e : (T.extract 1 v).data.toList.length = (T.extract 1 v).size := rfl
      rw [e, ByteArray.size_extract]; omega
    have h3 : 256 ^ (T.extract 1 v).data.toList.length ≤ 256 ^ 2 := Nat.pow_le_pow_right (by decide) h2
    have h4 : (256 : Nat) ^ 2 = 65536 := by decide
    omega
  have HV : Hid (sizeG T.data.toList = if lenB q = (T.extract 0 v).data.toList then some (q, v) else none) := by
    show sizeG T.data.toList = _
    rw [ext_list, List.drop_zero, Nat.sub_zero, he, sizeG_cons, if_neg h128, hk, if_neg (by omega), ← hq, ext_list, ← hr1, show v - 1 = k by omega, hv]
  have EN := numberOf_any (T.extract 1 v) w hsz
  rw [hq] at EN
  clear he hr1 hrl hk hsz hq hv
  go_enter Try.func128, Try.ntmps128
  go_wp2_with fail
  refine EN.mono ?_
  clear EN
  rintro e w2 ⟨rfl, hb2⟩
  obtain ⟨L, hL⟩ : ∃ L : ByteArray, (⟨(lenB q).toArray⟩ : ByteArray) = L := ⟨_, rfl⟩
  have EL : Hid (∀ W, Calls Try.prog 112 #[.int .i64 (q : Int)] W fun e w' => e = .returned (.string L) ∧ Below W.heap.size W w') := fun W => by rw [← hL]; exact lengthText_any q W (by omega)
  have HB2 : Hid (Below w.heap.size w w2) := hb2
  have HLL : Hid (L.data.toList = lenB q) := by show L.data.toList = lenB q; rw [← hL]
  clear hb2 hL
  go_wp2_with fail
  go_region_held3 (fun _ => True) (exact trivial) ((first
    | (go_at_call 112; refine (EL.out _).mono ?_; rintro e w3 ⟨rfl, hb3⟩)))
  all_goals (
    have HB3 : Hid (Below w.heap.size w w3) := HB2.out.trans (Below.mono (Below.trans ((Below.refl _ _).drew) hb3) HB2.out.size)
    clear hb3
    go_wp2_with fail
    go_ret3
    refine ⟨HB3.out, ?_⟩
    rw [HV.out]
    by_cases hc : lenB q = (T.extract 0 v).data.toList
    · rw [if_pos hc]
      refine .inr ⟨q, v, rfl, ?_⟩
      have e : (L.toList == (T.extract 0 v).toList) = true := by rw [toList_data, toList_data, HLL.out, hc]; simp
      rw [← e]
      rfl
    · rw [if_neg hc]
      refine .inl ⟨rfl, q, v, by omega, by omega, ?_⟩
      have e : (L.toList == (T.extract 0 v).toList) = false := by rw [toList_data, toList_data, HLL.out]; exact beq_eq_false_iff_ne.2 hc
      rw [← e]
      rfl)
end Go.Proofs.Ytbiiihjohbnodaa
