/-
  Texts of the proof, one behind the other: DrawS.
-/
import Derived.Test.YtfgkpjjjjnollaaGreatDoorST53

/-
  What chapter 2's laws draw: a text, and twelve places.
-/
namespace Go.Proofs.YtfgkpjjjjnollaaGreatDoor
open Go.RowKit


theorem len_ok8 (k : Nat) (h : k < 5000) : (k + 1) * 8 ≤ 140737488355328 := by omega

set_option maxHeartbeats 1600000 in
set_option maxRecDepth 100000 in
theorem drawPlaces_any (B : Nat) (w : World) (a0 : Option Addr) (len cap : Nat) (hl : len ≤ 1048576) (hB : B ≤ w.heap.size) (hcode : CodeAt B w a0 len) : Calls Tryz.prog 47 #[.slice a0 len cap] w fun e w' =>
    ∃ (g cp : Nat) (zs : List Int), e = .returned (.slice (some ⟨g, 0, none⟩) 12 cp) ∧ w.heap.size ≤ g ∧ g < w'.heap.size ∧ zs.length = 12 ∧ (∀ z ∈ zs, 0 ≤ z ∧ z < 10000) ∧ (∀ j (hj : j < zs.length), w'.cell? ⟨g, j, none⟩ = some (.int .i64 zs[j])) ∧ Below w.heap.size w w' := by
  obtain ⟨i0, hi, hz0, hz1, hz2⟩ := info_parts info3
  have HD : Hid (CodeAt B w a0 len) := hcode
  clear hcode
  go_enter Tryz.func47, Tryz.ntmps47
  go_wp2_with fail
  refine (l01New_any B _ a0 len cap hl hB HD.out).mono ?_
  rintro e w1 ⟨c, rfl, hC1, hb1, hc⟩
  have HC1 : Hid (Cur B w1 c a0 len cap) := hC1
  have HB1 : Hid (Below w.heap.size w w1) := hb1
  clear hC1 hb1
  go_wp2_with fail
  refine (l01Byte_any B _ c a0 len cap HC1.out).mono ?_
  rintro e w2 ⟨y, hy0, hy1, rfl, hC2, hg2⟩
  have HC2 : Hid (Cur B w2 c a0 len cap) := hC2
  have HB2 : Hid (Below w.heap.size w w2) := HB1.out.trans (grownBy_below hg2 (by omega) HB1.out.size)
  have hw2 : w.heap.size ≤ w2.heap.size := HB2.out.size
  have hcw : c < w2.heap.size := HC2.out.lt
  clear hC2 hg2 HC1 hy0 hy1
  go_wp2
  go_loopw [4, 5] (fun v iv wr => ∃ (k : Nat) (l : List Int), k ≤ 12 ∧ iv = .int .i64 k ∧ Hid (l.length = k) ∧ Hid (∀ z ∈ l, 0 ≤ z ∧ z < 10000) ∧ wr.ownsRow w2.heap.size 3 1 v k (l.map (Value.int .i64)) ∧ Hid (Cur B wr c a0 len cap) ∧ Hid (w2.grownBy wr (some c))) (fun _ iv _ => 12 - (intOf iv).toNat)
  case atStart => exact ⟨0, [], Nat.zero_le _, rfl, rfl, (fun z hz => by cases hz), World.ownsRow_made w2 #[] 0 (Nat.le_refl _) (Nat.zero_le _) rfl, HC2.out.kept ((Below.refl _ _).alloc (Nat.le_refl _) _), World.grownBy_alloc _ _ _⟩
  case round =>
    obtain ⟨k, l, hk, rfl, HLen, HAll, hown, HC3, HG3⟩ := hrel
    by_cases hlt : k < 12
    · go_wp2_with fail
      refine (l01Below_any _ B _ c a0 len cap (by omega) HC3.out).mono ?_
      rintro e w3 ⟨x, hx0, hx1, _, rfl, hC3, hg3⟩
      have hx2 := hx1 (by omega)
      have hown1 : w3.ownsRow w2.heap.size 3 1 _ k (l.map (Value.int .i64)) := hown.kept hg3 (.inr (fun e => by have := (hown.lt c e).1; omega))
      have HC4 : Hid (Cur B w3 c a0 len cap) := hC3
      have HG4 : Hid (w2.grownBy w3 (some c)) := grownBy_trans HG3.out hg3
      have hsz : w2.heap.size ≤ w3.heap.size := HG4.out.size
      clear hC3 hg3 hown HC3 HG3 hx1
      go_wp2_with (at_builtin; refine wpList_append_own _ rfl _ _ 24 rfl w2.heap.size 3 i0 (.int .i64 0) 1 8 Tryz.underlying24 hi hz0 hz1 hz2 rfl (by decide) _ _ _ rfl (hown1.alloc _) ⟨w3.heap.size, 0, none⟩ 1 1 [.int .i64 x] rfl rfl (one_new _ _ _) (one_int x) (len_ok k (by omega)) (len_ok8 k (by omega)) (size_ok hsz _) ?_)
      intro v' w4 hown' hgrow _
      have ho2 : w4.ownsRow w2.heap.size 3 1 v' (k + 1) ((l ++ [x]).map (Value.int .i64)) := by
        rw [List.map_append]
        exact hown'
      have HC5 : Hid (Cur B w4 c a0 len cap) := by
        exact Cur.grown (HC4.out.kept ((Below.refl _ _).alloc (Nat.le_refl _) _)) hgrow (fun k hk => by have := (hown1.lt k hk).1; omega)
      have HG5 : Hid (w2.grownBy w4 (some c)) := grow_step (grow_step HG4.out (World.grownBy_alloc _ _ none) (fun k hk => by cases hk)) hgrow (fun k hk => (hown1.lt k hk).1)
      have HL2 : Hid ((l ++ [x]).length = k + 1) := by
        show _ = _
        rw [List.length_append, HLen.out]; rfl
      have HA2 : Hid (∀ z ∈ l ++ [x], 0 ≤ z ∧ z < 10000) := fun z hz => by
        rcases List.mem_append.1 hz with h | h
        · exact HAll.out z h
        · obtain rfl : z = x := by simpa using h
          exact ⟨hx0, hx2⟩
      clear hown' hgrow hown1 HC4 HG4
      go_wp2
      go_roundw
      case rel => exact ⟨k + 1, l ++ [x], by omega, by go_num, HL2, HA2, ho2, HC5, HG5⟩
      case measure => simp [intOf]; omega
    · obtain rfl : k = 12 := by omega
      have HB5 : Hid (Below w.heap.size w wr) := HB2.out.trans (grownBy_below HG3.out (by omega) hw2)
      rcases hown.2 with ⟨rfl, h0⟩ | ⟨g, cp, cur, rfl, hbg, hg, hnc, hcm, hcs, ht⟩
      · omega
      · have hgl := (hown.lt g rfl).2
        have HCell : Hid (∀ j (hj : j < l.length), wr.cell? ⟨g, j, none⟩ = some (.int .i64 l[j])) := fun j hj => by
          have h1 := hown.cells (g := g) rfl j (.int .i64 l[j]) (by simp [hj])
          have ea : (⟨g, 0, none⟩ : Addr).add j = ⟨g, j, none⟩ := by unfold Addr.add; split <;> simp_all
          rw [ea] at h1
          exact h1
        clear hown hg hnc hcm hcs ht
        go_wp2
        go_ret
        exact ⟨g, cp, l, rfl, by omega, hgl, HLen.out, HAll.out, HCell.out, HB5.out⟩
end Go.Proofs.YtfgkpjjjjnollaaGreatDoor
