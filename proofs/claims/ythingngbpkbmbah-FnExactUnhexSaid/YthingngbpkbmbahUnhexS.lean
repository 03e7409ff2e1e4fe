/-
  The specification's Unhex answers 'uxR'.
-/
import Derived.Test.YthingngbpkbmbahUnhexP
namespace Go.Proofs.Ythingngbpkbmbah
open Go.RowKit

theorem take_snoc2 (s : ByteArray) (k : Nat) (h : k + 1 < s.size) : s.data.toList.take (k + 2) = s.data.toList.take k ++ [s[k]] ++ [s[k + 1]] := by
  rw [take_snoc s (k + 1) h, take_snoc s k (by omega)]
theorem cell_pair {a b : Int} (ha : 0 ≤ a) (ha2 : a ≤ 15) (hb : 0 ≤ b) (hb2 : b ≤ 15) : cellB (UInt8.ofNat (16 * a.toNat + b.toNat)) = .int .u8 (16 * a + b) := by
  rw [cellB_of (by omega)]
  congr 1
  omega

set_option maxHeartbeats 1600000 in
set_option maxRecDepth 100000 in
theorem specUnhex_any (s : ByteArray) (w : World) (hs : s.size ≤ 1000000000000) : Calls Try.prog 14 #[.string s] w fun e w' => e = .returned (.tuple #[.string ⟨(uxR s).1.toArray⟩, .bool (uxR s).2]) ∧ Below w.heap.size w w' := by
  by_cases h : 40000 < s.size
  · rw [uxR_no (.inl h)]
    go_enter Try.func14, Try.ntmps14
    go_wp2
    go_ret2
    exact ⟨rfl, Below.refl _ _⟩
  · by_cases hp : s.size % 2 = 1
    · rw [uxR_no (.inr hp)]
      have hp2 : ((s.size : Int) % 2 != 0) = true := by simp; omega
      clear hp
      go_enter Try.func14, Try.ntmps14
      go_wp2
      go_ret2
      exact ⟨rfl, Below.refl _ _⟩
    · have hp2 : ((s.size : Int) % 2 != 0) = false := by simp; omega
      have HP : Hid (s.size % 2 = 0) := by show _ = _; omega
      have HN : Hid (¬ (40000 < s.size ∨ s.size % 2 = 1)) := by show ¬ _; omega
      clear hp
      obtain ⟨i0, hi, hz0, hz1, hz2⟩ := info_parts info5
      go_enter Try.func14, Try.ntmps14
      go_wp2
      go_loopw [4, 5] (fun v i wr => ∃ (j : Nat) (vs : List Nat), j ≤ s.size ∧ i = .int .i64 j ∧ Hid (j % 2 = 0 ∧ fvals 16 (s.data.toList.take j) = some vs) ∧ wr.ownsRow w.heap.size 5 1 v (pairs vs).length ((pairs vs).map cellB) ∧ Below w.heap.size w wr) (fun _ i _ => s.size - (intOf i).toNat)
      case atStart => exact ⟨0, [], Nat.zero_le _, rfl, ⟨rfl, rfl⟩, World.ownsRow_made w #[] 0 (Nat.le_refl _) (Nat.zero_le _) rfl, (Below.refl _ _).alloc (Nat.le_refl _) _⟩
      case round =>
        obtain ⟨j, vs, hj, rfl, HV, hown, hbel⟩ := hrel
        have hsz := hbel.size
        have hvl : (pairs vs).length ≤ j := by
          have h1 := pairs_len vs
          have h2 := fvals_len HV.out.2
          rw [take_len s j hj] at h2
          omega
        by_cases hlt : j < s.size
        · have hj1 : j + 1 < s.size := by have := HV.out.1; have := HP.out; omega
          have hji : (j : Int) + 1 < (s.size : Int) := by omega
          obtain ⟨a1, a2⟩ := valI_bd s[j]
          obtain ⟨c1, c2⟩ := valI_bd s[j + 1]
          by_cases ha : valI s[j] < 0
          · have HF : Hid (fvals 16 s.data.toList = none) := fvals_none (b := s[j]) (byte_mem s j hlt) (fval16_none ha)
            go_wp2_with (go_at_call 24; refine (value_any _ _).mono ?_; rintro e w' ⟨rfl, rfl⟩)
            go_ret2
            exact ⟨by rw [uxR_none HF.out]; rfl, hbel⟩
          · by_cases hc : valI s[j + 1] < 0
            · have HF : Hid (fvals 16 s.data.toList = none) := fvals_none (b := s[j + 1]) (byte_mem s (j + 1) hj1) (fval16_none hc)
              go_wp2_with (go_at_call 24; refine (value_any _ _).mono ?_; rintro e w' ⟨rfl, rfl⟩)
              go_ret2
              exact ⟨by rw [uxR_none HF.out]; rfl, hbel⟩
            · have HV2 : Hid ((j + 2) % 2 = 0 ∧ fvals 16 (s.data.toList.take (j + 2)) = some (vs ++ [(valI s[j]).toNat] ++ [(valI s[j + 1]).toNat])) := by
                refine ⟨by have := HV.out.1; omega, ?_⟩
                rw [take_snoc2 s j hj1]
                exact fvals_snoc (fvals_snoc HV.out.2 (fval16_some ha)) (fval16_some hc)
              have HPv : Hid (pairs (vs ++ [(valI s[j]).toNat] ++ [(valI s[j + 1]).toNat]) = pairs vs ++ [UInt8.ofNat (16 * (valI s[j]).toNat + (valI s[j + 1]).toNat)]) := by
                have h2 := fvals_len HV.out.2
                rw [take_len s j hj] at h2
                have := HV.out.1
                show pairs _ = _
                rw [List.append_assoc]
                exact pairs_snoc vs _ _ (by omega)
              go_wp2_with (first
                | (go_at_call 24; refine (value_any _ _).mono ?_; rintro e w' ⟨rfl, rfl⟩)
                | (at_builtin; refine wpList_append_own _ rfl _ _ 35 rfl w.heap.size 5 i0 (.int .u8 0) 1 1 Try.underlying35 hi hz0 hz1 hz2 rfl (by decide) _ _ _ rfl (hown.alloc _) ⟨wr.heap.size, 0, none⟩ 1 1 [.int .u8 (16 * valI s[j] + valI s[j + 1])] rfl rfl ?d1 ?d2 ?d3 ?d4 ?d5 ?_))
              case d1 => exact one_new _ _ _
              case d2 => intro u hu; simp at hu; subst hu; rfl
              case d3 => unfold maxLen; omega
              case d4 => omega
              case d5 => simp; omega
              intro v' w1 hown' hgrow _
              have hb1 : Below w.heap.size w w1 := (hbel.alloc hsz _).grown hgrow (by simp; omega) (fun k hk => (hown.lt k hk).1)
              have ho1 : w1.ownsRow w.heap.size 5 1 v' (pairs (vs ++ [(valI s[j]).toNat] ++ [(valI s[j + 1]).toNat])).length ((pairs (vs ++ [(valI s[j]).toNat] ++ [(valI s[j + 1]).toNat])).map cellB) := by
                rw [HPv.out, List.map_append, List.length_append]
                simp only [List.map_cons, List.map_nil, cell_pair (show 0 ≤ valI s[j] by omega) a2 (show 0 ≤ valI s[j + 1] by omega) c2]
                exact hown'
              clear hown' hgrow hown
              go_wp2
              go_roundw
              case rel => exact ⟨j + 2, _, by omega, by go_num, HV2, ho1, hb1⟩
              case measure => simp [intOf]; omega
        · have HF : Hid (fvals 16 s.data.toList = some vs) := by have := HV.out.2; rwa [take_all s j hlt] at this
          have hcv := conv_own hown
          go_wp2
          go_ret2
          exact ⟨by rw [uxR_some HN.out HF.out]; rfl, hbel⟩
end Go.Proofs.Ythingngbpkbmbah
