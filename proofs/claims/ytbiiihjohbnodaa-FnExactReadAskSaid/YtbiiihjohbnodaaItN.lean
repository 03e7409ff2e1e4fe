/-
  The specification's l07Size.
-/
import Derived.Test.YtbiiihjohbnodaaItM
namespace Go.Proofs.Ytbiiihjohbnodaa
open Go.RowKit Der
set_option linter.unusedVariables false

/-- What l07Size answers at a place. -/
def szAt (t : List UInt8) (p : Nat) : Option (Nat × Nat) := sizeL (t.drop p)
def szV (t : List UInt8) (p : Nat) : Value := match szAt t p with
  | none => .tuple #[.int .i64 0, .int .i64 0, .bool false]
  | some (z, c) => .tuple #[.int .i64 (z : Int), .int .i64 ((p + c : Nat) : Int), .bool true]
theorem szV_none {t : List UInt8} {p : Nat} (h : szAt t p = none) : szV t p = .tuple #[.int .i64 0, .int .i64 0, .bool false] := by unfold szV; rw [h]
theorem szV_some {t : List UInt8} {p z c : Nat} (h : szAt t p = some (z, c)) : szV t p = .tuple #[.int .i64 (z : Int), .int .i64 ((p + c : Nat) : Int), .bool true] := by unfold szV; rw [h]
set_option maxHeartbeats 1600000 in
set_option maxRecDepth 100000 in
theorem size_any (t : List UInt8) (p : Nat) (w : World) (ht : t.length ≤ 20000000) (hp : p ≤ 20000001) : Calls Try.prog 115 #[.string ⟨t.toArray⟩, .int .i64 (p : Int)] w fun e w' => e = .returned (szV t p) ∧ w' = w := by
  have hssz : (⟨t.toArray⟩ : ByteArray).size = t.length := by show t.toArray.size = _; simp
  by_cases hlt : p < t.length
  · have hlti : ¬ (t.length : Int) ≤ (p : Int) := by omega
    have hlti2 : (p : Int) < (t.length : Int) := by omega
    have hp0 : (0 : Int) ≤ (p : Int) := by omega
    obtain ⟨b, hbk⟩ : ∃ b, t[p] = b := ⟨_, rfl⟩
    have hgk : ∀ h, (⟨t.toArray⟩ : ByteArray)[p]'h = b := fun h => by rw [← hbk]; rfl
    have hdr : t.drop p = b :: t.drop (p + 1) := by rw [← hbk]; exact List.drop_eq_getElem_cons hlt
    have hbl := b.toNat_lt
    have w3' : IntKind.i64.wrap (b.toNat : Int) = (b.toNat : Int) := by rw [IntKind.wrap_i64]; omega
    by_cases h128 : b.toNat < 128
    · have h128i : (b.toNat : Int) < 128 := by omega
      have w4 : IntKind.i64.wrap ((p : Int) + 1) = ((p + 1 : Nat) : Int) := by rw [IntKind.wrap_i64]; omega
      have HR : Hid (szV t p = .tuple #[.int .i64 (b.toNat : Int), .int .i64 ((p + 1 : Nat) : Int), .bool true]) := szV_some (by unfold szAt; rw [hdr]; simp [sizeL, h128])
      go_enter Try.func115, Try.ntmps115
      go_wp2_with fail
      go_ret3
      exact ⟨by rw [HR.out]; rfl, rfl⟩
    · have h128i : ¬ (b.toNat : Int) < 128 := by omega
      obtain ⟨k, hk⟩ : ∃ k : Nat, b.toNat - 128 = k := ⟨_, rfl⟩
      have w5 : IntKind.i64.wrap ((b.toNat : Int) - 128) = (k : Int) := by rw [IntKind.wrap_i64]; omega
      have hki : (b.toNat : Int) - 128 = (k : Int) := by omega
      have hrl : (t.drop (p + 1)).length = t.length - p - 1 := by rw [List.length_drop]; omega
      by_cases hk12 : 1 ≤ k ∧ k ≤ 2
      · have w6 : IntKind.i64.wrap ((t.length : Int) - (p : Int)) = (t.length : Int) - (p : Int) := by rw [IntKind.wrap_i64]; omega
        have w7 : IntKind.i64.wrap ((t.length : Int) - (p : Int) - 1) = (t.length : Int) - (p : Int) - 1 := by rw [IntKind.wrap_i64]; omega
        by_cases hfit : k ≤ t.length - p - 1
        · have hfi : ¬ (t.length : Int) - (p : Int) - 1 < (k : Int) := by omega
          have HR0 : Hid (szAt t p = some (((t.drop (p + 1)).take k).foldl (fun a c => 256 * a + c.toNat) 0, 1 + k)) := by
            show szAt t p = _
            unfold szAt
            rw [hdr]
            unfold sizeL
            simp only
            rw [if_neg h128, hk, if_pos ⟨hk12.1, hk12.2, by rw [hrl]; exact hfit⟩]
          go_enter Try.func115, Try.ntmps115
          go_wp2_with fail
          refine (in_yes (k : Int) 1 2 _ (by omega) (by omega)).mono ?_
          rintro e w' ⟨rfl, rfl⟩
          go_wp2_with fail
          go_loopw [9, 10] (fun sv iv wr => ∃ (i q : Nat), i ≤ k ∧ sv = .int .i64 (q : Int) ∧ iv = .int .i64 (i : Int) ∧ q < 65536 ∧ wr = w ∧ Hid (q = valB8 ((t.drop (p + 1)).take i))) (fun _ iv _ => k - (intOf iv).toNat)
          case atStart => exact ⟨0, 0, Nat.zero_le _, rfl, rfl, by omega, rfl, rfl⟩
          case round =>
            obtain ⟨i, q, hi, rfl, rfl, hq, rfl, HQ⟩ := hrel
            by_cases hik : i < k
            · have hiki : (i : Int) < (k : Int) := by omega
              have hd1 : i < (t.drop (p + 1)).length := by rw [hrl]; omega
              obtain ⟨z, hz⟩ : ∃ z, z = p + 1 + i := ⟨_, rfl⟩
              have hzl : z < t.length := by omega
              obtain ⟨c, hc⟩ : ∃ c, t[z] = c := ⟨_, rfl⟩
              have hgc : ∀ h, (⟨t.toArray⟩ : ByteArray)[z]'h = c := fun h => by rw [← hc]; rfl
              have hdc : (t.drop (p + 1))[i] = c := by rw [List.getElem_drop, ← hc]; congr 1; exact hz.symm
              have hcl := c.toNat_lt
              have hvt := valB8_take hd1
              rw [hdc, ← HQ.out] at hvt
              have hv := valB8_lt (i + 1) ((t.drop (p + 1)).take (i + 1)) (by rw [List.length_take]; omega)
              have hpw : (256 : Nat) ^ (i + 1) ≤ 256 ^ 2 := Nat.pow_le_pow_right (by decide) (by omega)
              rw [hvt] at hv
              have hq2 : 256 * q + c.toNat < 65536 := by
                have : (256 : Nat) ^ 2 = 65536 := by decide
                omega
              have HV : Hid (256 * q + c.toNat = valB8 ((t.drop (p + 1)).take (i + 1))) := hvt.symm
              have v1 : IntKind.i64.wrap ((p : Int) + 1) = (p : Int) + 1 := by rw [IntKind.wrap_i64]; omega
              have v2 : IntKind.i64.wrap ((p : Int) + 1 + (i : Int)) = (z : Int) := by rw [IntKind.wrap_i64]; omega
              have v3 : IntKind.i64.wrap (c.toNat : Int) = (c.toNat : Int) := by rw [IntKind.wrap_i64]; omega
              have v4 : (z : Int) < (t.length : Int) := by omega
              have v5 : (0 : Int) ≤ (z : Int) := by omega
              have v6 : (p : Int) + 1 + (i : Int) = (z : Int) := by omega
              clear hc hdc hvt hv hpw HQ hz
              go_wp2_with fail
              go_roundw
              case rel => exact ⟨i + 1, 256 * q + c.toNat, by omega, by go_num, by go_num, hq2, by trivial, HV.out⟩
              case measure => simp [intOf]; omega
            · have hiki : ¬ (i : Int) < (k : Int) := by omega
              have hie : i = k := by omega
              subst hie
              have HR : Hid (szV t p = .tuple #[.int .i64 (q : Int), .int .i64 ((p + (1 + i) : Nat) : Int), .bool true]) := szV_some (by rw [HR0.out, HQ.out]; rfl)
              have v1 : IntKind.i64.wrap ((p : Int) + 1) = (p : Int) + 1 := by rw [IntKind.wrap_i64]; omega
              have v2 : IntKind.i64.wrap ((p : Int) + 1 + (i : Int)) = ((p + (1 + i) : Nat) : Int) := by rw [IntKind.wrap_i64]; omega
              obtain ⟨z, hz⟩ : ∃ z : Nat, p + (1 + i) = z := ⟨_, rfl⟩
              rw [hz] at HR v2
              have v6 : (p : Int) + 1 + (i : Int) = (z : Int) := by omega
              clear hz
              go_wp2_with fail
              go_ret3
              exact ⟨by rw [HR.out]; rfl, rfl⟩
        · have hfi : (t.length : Int) - (p : Int) - 1 < (k : Int) := by omega
          have HR : Hid (szV t p = .tuple #[.int .i64 0, .int .i64 0, .bool false]) := szV_none (by
            unfold szAt
            rw [hdr]
            unfold sizeL
            simp only
            rw [if_neg h128, hk, if_neg (fun h => hfit (by rw [hrl] at h; exact h.2.2))])
          go_enter Try.func115, Try.ntmps115
          go_wp2_with fail
          refine (in_yes (k : Int) 1 2 _ (by omega) (by omega)).mono ?_
          rintro e w' ⟨rfl, rfl⟩
          go_wp2_with fail
          go_ret3
          exact ⟨by rw [HR.out]; rfl, rfl⟩
      · have HR : Hid (szV t p = .tuple #[.int .i64 0, .int .i64 0, .bool false]) := szV_none (by
          unfold szAt
          rw [hdr]
          unfold sizeL
          simp only
          rw [if_neg h128, hk, if_neg (fun h => hk12 ⟨h.1, h.2.1⟩)])
        go_enter Try.func115, Try.ntmps115
        go_wp2_with fail
        refine (in_no (k : Int) 1 2 _ (by omega)).mono ?_
        rintro e w' ⟨rfl, rfl⟩
        go_wp2_with fail
        go_ret3
        exact ⟨by rw [HR.out]; rfl, rfl⟩
  · have hlti : (t.length : Int) ≤ (p : Int) := by omega
    have HR : Hid (szV t p = .tuple #[.int .i64 0, .int .i64 0, .bool false]) := szV_none (by unfold szAt; rw [List.drop_of_length_le (by omega)]; rfl)
    go_enter Try.func115, Try.ntmps115
    go_wp2_with fail
    go_ret3
    exact ⟨by rw [HR.out]; rfl, rfl⟩
end Go.Proofs.Ytbiiihjohbnodaa
