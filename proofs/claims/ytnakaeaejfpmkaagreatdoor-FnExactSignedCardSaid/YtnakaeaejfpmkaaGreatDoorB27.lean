/-
  Texts of the proof, one behind the other: SgS, ShaP, ShaT.
-/
import Derived.Laws.Rows
import Derived.WalkKit
import Derived.Test.YtnakaeaejfpmkaaGreatDoorChecked
import Derived.WalkSpells
import Derived.WalkLawsBesides
import Derived.Handy
import Derived.Laws.BitsAllLaws
import Derived.Test.YtnakaeaejfpmkaaGreatDoorB1
import Derived.Test.YtnakaeaejfpmkaaGreatDoorB23
import Derived.Test.YtnakaeaejfpmkaaGreatDoorB25
import Derived.Test.YtnakaeaejfpmkaaGreatDoorB26

/-
  The specification's signatures: l06Public, PublicAt, SecretAt.
-/
namespace Go.Proofs.YtnakaeaejfpmkaaGreatDoor
open Go.RowKit

theorem alloc_more0 (w : World) (o : Obj) : w.heap.size < (w.alloc o).heap.size := by
  show w.heap.size < (w.heap.push o).size
  rw [Array.size_push]
  exact Nat.lt_succ_self _
theorem alloc_two (w : World) (cs : Array Value) (t : TypeId) : OwnI ((w.alloc (Obj.cells cs t)).alloc (Obj.cells #[] 3)) w.heap.size (.slice (some ⟨w.heap.size + 1, 0, none⟩) 0 0) [] := by
  have h := OwnI.empty (w.alloc (Obj.cells cs t)) (base := w.heap.size) (Nat.le_of_lt (alloc_more0 w _))
  rw [show (w.alloc (Obj.cells cs t)).heap.size = w.heap.size + 1 from Array.size_push _] at h
  exact h
theorem alloc_at (w : World) (cs : Array Value) (t : TypeId) (n : Nat) : (w.alloc (Obj.cells cs t)).cell? ⟨w.heap.size, n, none⟩ = cs[n]? := by
  simp only [World.cell?, heap_alloc_new]
  rfl
theorem pub_lit {n : Nat} (h : n < 6) : (#[Value.string { data := #[49, 49, 50, 54, 56, 52, 50, 52, 56, 50, 50, 57, 52, 55, 55, 53, 51, 48, 56, 49, 57, 53, 54, 57, 52, 54, 50, 51, 51, 48, 56, 50, 52, 48, 53, 57, 55] }, Value.string { data := #[49, 50, 52, 55, 57, 56, 49, 54, 53, 53, 52, 50, 51, 53, 51, 50, 49, 53, 52, 48, 57, 50, 53, 53, 52, 56, 54, 51, 56, 56, 56, 56, 57, 55, 50, 48, 57] }, Value.string { data := #[49, 49, 52, 56, 54, 56, 54, 51, 50, 48, 48, 50, 57, 57, 54, 55, 55, 54, 53, 49, 55, 52, 50, 53, 54, 55, 48, 52, 54, 56, 52, 51, 53, 48, 49, 49, 49] }, Value.string { data := #[49, 48, 52, 49, 54, 57, 49, 55, 51, 56, 57, 54, 51, 57, 50, 48, 52, 52, 48, 51, 50, 51, 57, 49, 49, 48, 55, 56, 50, 53, 57, 51, 49, 54, 48, 51, 57] }, Value.string { data := #[49, 49, 56, 56, 50, 52, 52, 51, 56, 51, 50, 57, 56, 53, 50, 56, 55, 53, 52, 52, 55, 57, 57, 55, 51, 54, 53, 50, 50, 49, 54, 53, 52, 55, 56, 55, 55] }, Value.string { data := #[49, 48, 55, 53, 49, 55, 48, 53, 51, 48, 57, 52, 53, 51, 54, 56, 54, 49, 55, 53, 49, 56, 55, 55, 49, 52, 54, 54, 55, 56, 56, 55, 56, 53, 56, 49, 51] }] : Array Value)[n]? = some (.string ⟨(pubF n).toArray⟩) := by
  match n, h with
  | 0, _ => rfl
  | 1, _ => rfl
  | 2, _ => rfl
  | 3, _ => rfl
  | 4, _ => rfl
  | 5, _ => rfl
set_option maxHeartbeats 800000 in
set_option maxRecDepth 100000 in
theorem specPub_any (i : Int) (w : World) (hi : -9223372036854775808 ≤ i ∧ i ≤ 9223372036854775807) : Calls Tryz.prog 94 #[.int .i64 i] w fun e w' => ∃ v, e = .returned v ∧ OwnI w' w.heap.size v (figL (pubT i)) ∧ Below w.heap.size w w' := by
  by_cases h : 0 ≤ i ∧ i < 6
  · have HN : Hid (figL (pubT i) = figL (pubT i)) := rfl
    obtain ⟨n, rfl⟩ : ∃ n : Nat, i = (n : Int) := ⟨i.toNat, by omega⟩
    have hn : n < 6 := by omega
    have hcell := (alloc_at w #[Value.string { data := #[49, 49, 50, 54, 56, 52, 50, 52, 56, 50, 50, 57, 52, 55, 55, 53, 51, 48, 56, 49, 57, 53, 54, 57, 52, 54, 50, 51, 51, 48, 56, 50, 52, 48, 53, 57, 55] }, Value.string { data := #[49, 50, 52, 55, 57, 56, 49, 54, 53, 53, 52, 50, 51, 53, 51, 50, 49, 53, 52, 48, 57, 50, 53, 53, 52, 56, 54, 51, 56, 56, 56, 56, 57, 55, 50, 48, 57] }, Value.string { data := #[49, 49, 52, 56, 54, 56, 54, 51, 50, 48, 48, 50, 57, 57, 54, 55, 55, 54, 53, 49, 55, 52, 50, 53, 54, 55, 48, 52, 54, 56, 52, 51, 53, 48, 49, 49, 49] }, Value.string { data := #[49, 48, 52, 49, 54, 57, 49, 55, 51, 56, 57, 54, 51, 57, 50, 48, 52, 52, 48, 51, 50, 51, 57, 49, 49, 48, 55, 56, 50, 53, 57, 51, 49, 54, 48, 51, 57] }, Value.string { data := #[49, 49, 56, 56, 50, 52, 52, 51, 56, 51, 50, 57, 56, 53, 50, 56, 55, 53, 52, 52, 55, 57, 57, 55, 51, 54, 53, 50, 50, 49, 54, 53, 52, 55, 56, 55, 55] }, Value.string { data := #[49, 48, 55, 53, 49, 55, 48, 53, 51, 48, 57, 52, 53, 51, 54, 56, 54, 49, 55, 53, 49, 56, 55, 55, 49, 52, 54, 54, 55, 56, 56, 55, 56, 53, 56, 49, 51] }] 9 n).trans (pub_lit hn)
    have HZ : Hid ((pubT (n : Int)).size ≤ 37) := pubT_size _
    rw [← pubT_at hn] at hcell
    have HB : Hid (Below w.heap.size w (w.alloc (Obj.cells #[Value.string { data := #[49, 49, 50, 54, 56, 52, 50, 52, 56, 50, 50, 57, 52, 55, 55, 53, 51, 48, 56, 49, 57, 53, 54, 57, 52, 54, 50, 51, 51, 48, 56, 50, 52, 48, 53, 57, 55] }, Value.string { data := #[49, 50, 52, 55, 57, 56, 49, 54, 53, 53, 52, 50, 51, 53, 51, 50, 49, 53, 52, 48, 57, 50, 53, 53, 52, 56, 54, 51, 56, 56, 56, 56, 57, 55, 50, 48, 57] }, Value.string { data := #[49, 49, 52, 56, 54, 56, 54, 51, 50, 48, 48, 50, 57, 57, 54, 55, 55, 54, 53, 49, 55, 52, 50, 53, 54, 55, 48, 52, 54, 56, 52, 51, 53, 48, 49, 49, 49] }, Value.string { data := #[49, 48, 52, 49, 54, 57, 49, 55, 51, 56, 57, 54, 51, 57, 50, 48, 52, 52, 48, 51, 50, 51, 57, 49, 49, 48, 55, 56, 50, 53, 57, 51, 49, 54, 48, 51, 57] }, Value.string { data := #[49, 49, 56, 56, 50, 52, 52, 51, 56, 51, 50, 57, 56, 53, 50, 56, 55, 53, 52, 52, 55, 57, 57, 55, 51, 54, 53, 50, 50, 49, 54, 53, 52, 55, 56, 55, 55] }, Value.string { data := #[49, 48, 55, 53, 49, 55, 48, 53, 51, 48, 57, 52, 53, 51, 54, 56, 54, 49, 55, 53, 49, 56, 55, 55, 49, 52, 54, 54, 55, 56, 56, 55, 56, 53, 56, 49, 51] }] 9))) := (Below.refl _ _).alloc (Nat.le_refl _) _
    generalize pubT (n : Int) = T at *
    have hn0 : (0 : Int) ≤ (n : Int) := by omega
    have hn6 : (n : Int) < 6 := by omega
    go_enter Tryz.func94, Tryz.ntmps94
    go_wp2_with fail
    refine (in_yes (n : Int) 0 5 _ (by omega) (by omega)).mono ?_
    rintro e w' ⟨rfl, rfl⟩
    go_wp2_with fail
    refine (specFig_any T _ (by have := HZ.out; omega)).mono ?_
    rintro e w2 ⟨v, rfl, ho2, hb2⟩
    have H2 : Hid (OwnI w2 w.heap.size v (figL T) ∧ Below w.heap.size w w2) := ⟨ho2.base HB.out.size, below_on HB.out hb2⟩
    clear ho2 hb2 HB hcell
    go_wp2_with fail
    go_ret
    exact ⟨_, rfl, by first | exact H2.out.1 | (rw [HN.out]; exact H2.out.1), H2.out.2⟩
  · have HN : Hid (figL (pubT i) = []) := by
      show figL (pubT i) = []
      rw [pubT_no h, figL_empty]
    have HB : Hid (Below w.heap.size w (w.alloc (Obj.cells #[Value.string { data := #[49, 49, 50, 54, 56, 52, 50, 52, 56, 50, 50, 57, 52, 55, 55, 53, 51, 48, 56, 49, 57, 53, 54, 57, 52, 54, 50, 51, 51, 48, 56, 50, 52, 48, 53, 57, 55] }, Value.string { data := #[49, 50, 52, 55, 57, 56, 49, 54, 53, 53, 52, 50, 51, 53, 51, 50, 49, 53, 52, 48, 57, 50, 53, 53, 52, 56, 54, 51, 56, 56, 56, 56, 57, 55, 50, 48, 57] }, Value.string { data := #[49, 49, 52, 56, 54, 56, 54, 51, 50, 48, 48, 50, 57, 57, 54, 55, 55, 54, 53, 49, 55, 52, 50, 53, 54, 55, 48, 52, 54, 56, 52, 51, 53, 48, 49, 49, 49] }, Value.string { data := #[49, 48, 52, 49, 54, 57, 49, 55, 51, 56, 57, 54, 51, 57, 50, 48, 52, 52, 48, 51, 50, 51, 57, 49, 49, 48, 55, 56, 50, 53, 57, 51, 49, 54, 48, 51, 57] }, Value.string { data := #[49, 49, 56, 56, 50, 52, 52, 51, 56, 51, 50, 57, 56, 53, 50, 56, 55, 53, 52, 52, 55, 57, 57, 55, 51, 54, 53, 50, 50, 49, 54, 53, 52, 55, 56, 55, 55] }, Value.string { data := #[49, 48, 55, 53, 49, 55, 48, 53, 51, 48, 57, 52, 53, 51, 54, 56, 54, 49, 55, 53, 49, 56, 55, 55, 49, 52, 54, 54, 55, 56, 56, 55, 56, 53, 56, 49, 51] }] 9))) := (Below.refl _ _).alloc (Nat.le_refl _) _
    have HO : Hid (OwnI ((w.alloc (Obj.cells #[Value.string { data := #[49, 49, 50, 54, 56, 52, 50, 52, 56, 50, 50, 57, 52, 55, 55, 53, 51, 48, 56, 49, 57, 53, 54, 57, 52, 54, 50, 51, 51, 48, 56, 50, 52, 48, 53, 57, 55] }, Value.string { data := #[49, 50, 52, 55, 57, 56, 49, 54, 53, 53, 52, 50, 51, 53, 51, 50, 49, 53, 52, 48, 57, 50, 53, 53, 52, 56, 54, 51, 56, 56, 56, 56, 57, 55, 50, 48, 57] }, Value.string { data := #[49, 49, 52, 56, 54, 56, 54, 51, 50, 48, 48, 50, 57, 57, 54, 55, 55, 54, 53, 49, 55, 52, 50, 53, 54, 55, 48, 52, 54, 56, 52, 51, 53, 48, 49, 49, 49] }, Value.string { data := #[49, 48, 52, 49, 54, 57, 49, 55, 51, 56, 57, 54, 51, 57, 50, 48, 52, 52, 48, 51, 50, 51, 57, 49, 49, 48, 55, 56, 50, 53, 57, 51, 49, 54, 48, 51, 57] }, Value.string { data := #[49, 49, 56, 56, 50, 52, 52, 51, 56, 51, 50, 57, 56, 53, 50, 56, 55, 53, 52, 52, 55, 57, 57, 55, 51, 54, 53, 50, 50, 49, 54, 53, 52, 55, 56, 55, 55] }, Value.string { data := #[49, 48, 55, 53, 49, 55, 48, 53, 51, 48, 57, 52, 53, 51, 54, 56, 54, 49, 55, 53, 49, 56, 55, 55, 49, 52, 54, 54, 55, 56, 56, 55, 56, 53, 56, 49, 51] }] 9)).alloc (Obj.cells #[] 3)) w.heap.size (.slice (some ⟨w.heap.size + 1, 0, none⟩) 0 0) []) := alloc_two w _ _
    have hno : ¬ (0 ≤ i ∧ i ≤ 5) := by omega
    go_enter Tryz.func94, Tryz.ntmps94
    go_wp2_with fail
    refine (in_no i 0 5 _ (by omega)).mono ?_
    rintro e w' ⟨rfl, rfl⟩
    go_wp2_with fail
    go_ret
    exact ⟨_, rfl, by rw [HN.out]; exact HO.out, HB.out.alloc HB.out.size _⟩

theorem sec_lit {n : Nat} (h : n < 6) : (#[Value.string { data := #[54, 50, 55, 48, 56, 49, 57, 56, 54, 56, 52, 51, 54, 53, 55, 48, 50, 49, 48, 51, 56, 49, 48, 51, 48, 52, 54, 56, 51, 50, 49, 57, 48, 48, 56, 49] }, Value.string { data := #[50, 51, 53, 57, 55, 51, 51, 57, 57, 51, 54, 50, 51, 50, 48, 54, 56, 48, 51, 49, 53, 50, 57, 57, 49, 54, 55, 51, 54, 51, 49, 53, 57, 55, 49, 51] }, Value.string { data := #[50, 56, 49, 48, 51, 50, 54, 52, 52, 57, 57, 57, 57, 51, 49, 51, 56, 51, 57, 56, 55, 55, 57, 54, 56, 52, 57, 51, 48, 48, 48, 57, 55, 48, 53, 55] }, Value.string { data := #[53, 52, 55, 48, 49, 54, 53, 49, 50, 55, 53, 53, 50, 56, 56, 49, 56, 54, 53, 55, 48, 49, 57, 48, 50, 56, 53, 49, 57, 54, 56, 57, 51, 53, 53, 51] }, Value.string { data := #[54, 56, 53, 49, 54, 54, 52, 55, 52, 53, 56, 52, 54, 48, 55, 49, 57, 50, 49, 49, 48, 52, 57, 48, 54, 52, 53, 50, 57, 50, 50, 53, 48, 55, 57, 51] }, Value.string { data := #[57, 54, 48, 50, 49, 54, 56, 52, 50, 48, 51, 49, 55, 49, 51, 55, 54, 53, 54, 56, 54, 57, 48, 51, 54, 56, 51, 49, 54, 49, 49, 57, 50, 57, 51] }] : Array Value)[n]? = some (.string ⟨(secF n).toArray⟩) := by
  match n, h with
  | 0, _ => rfl
  | 1, _ => rfl
  | 2, _ => rfl
  | 3, _ => rfl
  | 4, _ => rfl
  | 5, _ => rfl
set_option maxHeartbeats 800000 in
set_option maxRecDepth 100000 in
theorem specSecret_any (i : Int) (w : World) (hi : -9223372036854775808 ≤ i ∧ i ≤ 9223372036854775807) : Calls Tryz.prog 162 #[.int .i64 i] w fun e w' => ∃ v, e = .returned v ∧ OwnI w' w.heap.size v (secL i) ∧ Below w.heap.size w w' := by
  by_cases h : 0 ≤ i ∧ i < 6
  · have HN : Hid (secL i = figL (secT i)) := rfl
    obtain ⟨n, rfl⟩ : ∃ n : Nat, i = (n : Int) := ⟨i.toNat, by omega⟩
    have hn : n < 6 := by omega
    have hcell := (alloc_at w #[Value.string { data := #[54, 50, 55, 48, 56, 49, 57, 56, 54, 56, 52, 51, 54, 53, 55, 48, 50, 49, 48, 51, 56, 49, 48, 51, 48, 52, 54, 56, 51, 50, 49, 57, 48, 48, 56, 49] }, Value.string { data := #[50, 51, 53, 57, 55, 51, 51, 57, 57, 51, 54, 50, 51, 50, 48, 54, 56, 48, 51, 49, 53, 50, 57, 57, 49, 54, 55, 51, 54, 51, 49, 53, 57, 55, 49, 51] }, Value.string { data := #[50, 56, 49, 48, 51, 50, 54, 52, 52, 57, 57, 57, 57, 51, 49, 51, 56, 51, 57, 56, 55, 55, 57, 54, 56, 52, 57, 51, 48, 48, 48, 57, 55, 48, 53, 55] }, Value.string { data := #[53, 52, 55, 48, 49, 54, 53, 49, 50, 55, 53, 53, 50, 56, 56, 49, 56, 54, 53, 55, 48, 49, 57, 48, 50, 56, 53, 49, 57, 54, 56, 57, 51, 53, 53, 51] }, Value.string { data := #[54, 56, 53, 49, 54, 54, 52, 55, 52, 53, 56, 52, 54, 48, 55, 49, 57, 50, 49, 49, 48, 52, 57, 48, 54, 52, 53, 50, 57, 50, 50, 53, 48, 55, 57, 51] }, Value.string { data := #[57, 54, 48, 50, 49, 54, 56, 52, 50, 48, 51, 49, 55, 49, 51, 55, 54, 53, 54, 56, 54, 57, 48, 51, 54, 56, 51, 49, 54, 49, 49, 57, 50, 57, 51] }] 9 n).trans (sec_lit hn)
    have HZ : Hid ((secT (n : Int)).size ≤ 37) := secT_size _
    rw [← secT_at hn] at hcell
    have HB : Hid (Below w.heap.size w (w.alloc (Obj.cells #[Value.string { data := #[54, 50, 55, 48, 56, 49, 57, 56, 54, 56, 52, 51, 54, 53, 55, 48, 50, 49, 48, 51, 56, 49, 48, 51, 48, 52, 54, 56, 51, 50, 49, 57, 48, 48, 56, 49] }, Value.string { data := #[50, 51, 53, 57, 55, 51, 51, 57, 57, 51, 54, 50, 51, 50, 48, 54, 56, 48, 51, 49, 53, 50, 57, 57, 49, 54, 55, 51, 54, 51, 49, 53, 57, 55, 49, 51] }, Value.string { data := #[50, 56, 49, 48, 51, 50, 54, 52, 52, 57, 57, 57, 57, 51, 49, 51, 56, 51, 57, 56, 55, 55, 57, 54, 56, 52, 57, 51, 48, 48, 48, 57, 55, 48, 53, 55] }, Value.string { data := #[53, 52, 55, 48, 49, 54, 53, 49, 50, 55, 53, 53, 50, 56, 56, 49, 56, 54, 53, 55, 48, 49, 57, 48, 50, 56, 53, 49, 57, 54, 56, 57, 51, 53, 53, 51] }, Value.string { data := #[54, 56, 53, 49, 54, 54, 52, 55, 52, 53, 56, 52, 54, 48, 55, 49, 57, 50, 49, 49, 48, 52, 57, 48, 54, 52, 53, 50, 57, 50, 50, 53, 48, 55, 57, 51] }, Value.string { data := #[57, 54, 48, 50, 49, 54, 56, 52, 50, 48, 51, 49, 55, 49, 51, 55, 54, 53, 54, 56, 54, 57, 48, 51, 54, 56, 51, 49, 54, 49, 49, 57, 50, 57, 51] }] 9))) := (Below.refl _ _).alloc (Nat.le_refl _) _
    generalize secT (n : Int) = T at *
    have hn0 : (0 : Int) ≤ (n : Int) := by omega
    have hn6 : (n : Int) < 6 := by omega
    go_enter Tryz.func162, Tryz.ntmps162
    go_wp2_with fail
    refine (in_yes (n : Int) 0 5 _ (by omega) (by omega)).mono ?_
    rintro e w' ⟨rfl, rfl⟩
    go_wp2_with fail
    refine (specFig_any T _ (by have := HZ.out; omega)).mono ?_
    rintro e w2 ⟨v, rfl, ho2, hb2⟩
    have H2 : Hid (OwnI w2 w.heap.size v (figL T) ∧ Below w.heap.size w w2) := ⟨ho2.base HB.out.size, below_on HB.out hb2⟩
    clear ho2 hb2 HB hcell
    go_wp2_with fail
    go_ret
    exact ⟨_, rfl, by first | exact H2.out.1 | (rw [HN.out]; exact H2.out.1), H2.out.2⟩
  · have HN : Hid (secL i = []) := by
      show secL i = []
      unfold secL; rw [secT_no h, figL_empty]
    have HB : Hid (Below w.heap.size w (w.alloc (Obj.cells #[Value.string { data := #[54, 50, 55, 48, 56, 49, 57, 56, 54, 56, 52, 51, 54, 53, 55, 48, 50, 49, 48, 51, 56, 49, 48, 51, 48, 52, 54, 56, 51, 50, 49, 57, 48, 48, 56, 49] }, Value.string { data := #[50, 51, 53, 57, 55, 51, 51, 57, 57, 51, 54, 50, 51, 50, 48, 54, 56, 48, 51, 49, 53, 50, 57, 57, 49, 54, 55, 51, 54, 51, 49, 53, 57, 55, 49, 51] }, Value.string { data := #[50, 56, 49, 48, 51, 50, 54, 52, 52, 57, 57, 57, 57, 51, 49, 51, 56, 51, 57, 56, 55, 55, 57, 54, 56, 52, 57, 51, 48, 48, 48, 57, 55, 48, 53, 55] }, Value.string { data := #[53, 52, 55, 48, 49, 54, 53, 49, 50, 55, 53, 53, 50, 56, 56, 49, 56, 54, 53, 55, 48, 49, 57, 48, 50, 56, 53, 49, 57, 54, 56, 57, 51, 53, 53, 51] }, Value.string { data := #[54, 56, 53, 49, 54, 54, 52, 55, 52, 53, 56, 52, 54, 48, 55, 49, 57, 50, 49, 49, 48, 52, 57, 48, 54, 52, 53, 50, 57, 50, 50, 53, 48, 55, 57, 51] }, Value.string { data := #[57, 54, 48, 50, 49, 54, 56, 52, 50, 48, 51, 49, 55, 49, 51, 55, 54, 53, 54, 56, 54, 57, 48, 51, 54, 56, 51, 49, 54, 49, 49, 57, 50, 57, 51] }] 9))) := (Below.refl _ _).alloc (Nat.le_refl _) _
    have HO : Hid (OwnI ((w.alloc (Obj.cells #[Value.string { data := #[54, 50, 55, 48, 56, 49, 57, 56, 54, 56, 52, 51, 54, 53, 55, 48, 50, 49, 48, 51, 56, 49, 48, 51, 48, 52, 54, 56, 51, 50, 49, 57, 48, 48, 56, 49] }, Value.string { data := #[50, 51, 53, 57, 55, 51, 51, 57, 57, 51, 54, 50, 51, 50, 48, 54, 56, 48, 51, 49, 53, 50, 57, 57, 49, 54, 55, 51, 54, 51, 49, 53, 57, 55, 49, 51] }, Value.string { data := #[50, 56, 49, 48, 51, 50, 54, 52, 52, 57, 57, 57, 57, 51, 49, 51, 56, 51, 57, 56, 55, 55, 57, 54, 56, 52, 57, 51, 48, 48, 48, 57, 55, 48, 53, 55] }, Value.string { data := #[53, 52, 55, 48, 49, 54, 53, 49, 50, 55, 53, 53, 50, 56, 56, 49, 56, 54, 53, 55, 48, 49, 57, 48, 50, 56, 53, 49, 57, 54, 56, 57, 51, 53, 53, 51] }, Value.string { data := #[54, 56, 53, 49, 54, 54, 52, 55, 52, 53, 56, 52, 54, 48, 55, 49, 57, 50, 49, 49, 48, 52, 57, 48, 54, 52, 53, 50, 57, 50, 50, 53, 48, 55, 57, 51] }, Value.string { data := #[57, 54, 48, 50, 49, 54, 56, 52, 50, 48, 51, 49, 55, 49, 51, 55, 54, 53, 54, 56, 54, 57, 48, 51, 54, 56, 51, 49, 54, 49, 49, 57, 50, 57, 51] }] 9)).alloc (Obj.cells #[] 3)) w.heap.size (.slice (some ⟨w.heap.size + 1, 0, none⟩) 0 0) []) := alloc_two w _ _
    have hno : ¬ (0 ≤ i ∧ i ≤ 5) := by omega
    go_enter Tryz.func162, Tryz.ntmps162
    go_wp2_with fail
    refine (in_no i 0 5 _ (by omega)).mono ?_
    rintro e w' ⟨rfl, rfl⟩
    go_wp2_with fail
    go_ret
    exact ⟨_, rfl, by rw [HN.out]; exact HO.out, HB.out.alloc HB.out.size _⟩

end Go.Proofs.YtnakaeaejfpmkaaGreatDoor

/-
  Plain facts alone (no program): the digest of 256 bits over Nat: rounds, words, blocks; a reckoning of it that the kernel can carry out; the three known digests.
-/
namespace Go.Proofs.YtnakaeaejfpmkaaGreatDoor

/-- Turned right by k bits, of 32. -/
def rotr (k x : Nat) : Nat := (x / 2 ^ k) ||| (x * 2 ^ (32 - k) % 4294967296)
def bigS1 (e : Nat) : Nat := rotr 6 e ^^^ rotr 11 e ^^^ rotr 25 e
def bigS0 (e : Nat) : Nat := rotr 2 e ^^^ rotr 13 e ^^^ rotr 22 e
def smS0 (e : Nat) : Nat := rotr 7 e ^^^ rotr 18 e ^^^ (e / 8)
def smS1 (e : Nat) : Nat := rotr 17 e ^^^ rotr 19 e ^^^ (e / 1024)
def chN (e f g : Nat) : Nat := (e &&& f) ^^^ ((e ^^^ 4294967295) &&& g)
def majN (a b c : Nat) : Nat := (a &&& b) ^^^ (a &&& c) ^^^ (b &&& c)
/-- The eight numbers of a state. -/
structure St where
  a : Nat
  b : Nat
  c : Nat
  d : Nat
  e : Nat
  f : Nat
  g : Nat
  h : Nat
def oneN (k w : Nat) (s : St) : Nat := (s.h + bigS1 s.e + chN s.e s.f s.g + k + w) % 4294967296
def twoN (s : St) : Nat := (bigS0 s.a + majN s.a s.b s.c) % 4294967296
/-- One round. -/
def rnd (k w : Nat) (s : St) : St := ⟨(oneN k w s + twoN s) % 4294967296, s.a, s.b, s.c, (s.d + oneN k w s) % 4294967296, s.e, s.f, s.g⟩
/-- The numbers of the rounds. -/
def keysN : List Nat := [1116352408, 1899447441, 3049323471, 3921009573, 961987163, 1508970993, 2453635748, 2870763221, 3624381080, 310598401, 607225278, 1426881987, 1925078388, 2162078206, 2614888103, 3248222580, 3835390401, 4022224774, 264347078, 604807628, 770255983, 1249150122, 1555081692, 1996064986, 2554220882, 2821834349, 2952996808, 3210313671, 3336571891, 3584528711, 113926993, 338241895, 666307205, 773529912, 1294757372, 1396182291, 1695183700, 1986661051, 2177026350, 2456956037, 2730485921, 2820302411, 3259730800, 3345764771, 3516065817, 3600352804, 4094571909, 275423344, 430227734, 506948616, 659060556, 883997877, 958139571, 1322822218, 1537002063, 1747873779, 1955562222, 2024104815, 2227730452, 2361852424, 2428436474, 2756734187, 3204031479, 3329325298]
/-- The state ahead of the first block. -/
def firstN : St := ⟨1779033703, 3144134277, 1013904242, 2773480762, 1359893119, 2600822924, 528734635, 1541459225⟩
/-- A word of a block. -/
def wordOf (b : List UInt8) (i : Nat) : Nat := (b.getD (4 * i) 0).toNat * 16777216 + (b.getD (4 * i + 1) 0).toNat * 65536 + (b.getD (4 * i + 2) 0).toNat * 256 + (b.getD (4 * i + 3) 0).toNat
/-- The words of a block, those that are made of them too. -/
def wd (b : List UInt8) (i : Nat) : Nat :=
  if h : i < 16 then wordOf b i else (wd b (i - 16) + smS0 (wd b (i - 15)) + wd b (i - 7) + smS1 (wd b (i - 2))) % 4294967296
/-- The state behind so many rounds. -/
def rounds (b : List UInt8) : Nat → St → St
  | 0, s => s
  | n + 1, s => rnd (keysN.getD n 0) (wd b n) (rounds b n s)
def addSt (s t : St) : St := ⟨(s.a + t.a) % 4294967296, (s.b + t.b) % 4294967296, (s.c + t.c) % 4294967296, (s.d + t.d) % 4294967296, (s.e + t.e) % 4294967296, (s.f + t.f) % 4294967296, (s.g + t.g) % 4294967296, (s.h + t.h) % 4294967296⟩
/-- The state behind a block. -/
def blockN (s : St) (b : List UInt8) : St := addSt s (rounds b 64 s)
/-- The state behind so many blocks. -/
def blocksN (s : St) (p : List UInt8) : Nat → St
  | 0 => s
  | n + 1 => blockN (blocksN s p n) ((p.drop (64 * n)).take 64)

def St.ok (s : St) : Prop := s.a < 4294967296 ∧ s.b < 4294967296 ∧ s.c < 4294967296 ∧ s.d < 4294967296 ∧ s.e < 4294967296 ∧ s.f < 4294967296 ∧ s.g < 4294967296 ∧ s.h < 4294967296

theorem and_lt32 {a b : Nat} (ha : a < 4294967296) : a &&& b < 4294967296 := Nat.lt_of_le_of_lt Nat.and_le_left ha
theorem xor_lt32 {a b : Nat} (ha : a < 4294967296) (hb : b < 4294967296) : a ^^^ b < 4294967296 := Nat.xor_lt_two_pow (n := 32) ha hb
theorem or_lt32 {a b : Nat} (ha : a < 4294967296) (hb : b < 4294967296) : a ||| b < 4294967296 := Nat.or_lt_two_pow (n := 32) ha hb
theorem div_lt32 {x : Nat} (k : Nat) (h : x < 4294967296) : x / 2 ^ k < 4294967296 := Nat.lt_of_le_of_lt (Nat.div_le_self _ _) h
theorem rotr_lt (k : Nat) {x : Nat} (h : x < 4294967296) : rotr k x < 4294967296 := or_lt32 (div_lt32 k h) (Nat.mod_lt _ (by decide))
theorem bigS1_lt {x : Nat} (h : x < 4294967296) : bigS1 x < 4294967296 := xor_lt32 (xor_lt32 (rotr_lt _ h) (rotr_lt _ h)) (rotr_lt _ h)
theorem bigS0_lt {x : Nat} (h : x < 4294967296) : bigS0 x < 4294967296 := xor_lt32 (xor_lt32 (rotr_lt _ h) (rotr_lt _ h)) (rotr_lt _ h)
theorem smS1_lt {x : Nat} (h : x < 4294967296) : smS1 x < 4294967296 := xor_lt32 (xor_lt32 (rotr_lt _ h) (rotr_lt _ h)) (by omega)
theorem smS0_lt {x : Nat} (h : x < 4294967296) : smS0 x < 4294967296 := xor_lt32 (xor_lt32 (rotr_lt _ h) (rotr_lt _ h)) (by omega)
theorem chN_lt {e f g : Nat} (he : e < 4294967296) : chN e f g < 4294967296 := xor_lt32 (and_lt32 he) (and_lt32 (xor_lt32 he (by decide)))
theorem majN_lt {a b c : Nat} (ha : a < 4294967296) (hb : b < 4294967296) : majN a b c < 4294967296 := xor_lt32 (xor_lt32 (and_lt32 ha) (and_lt32 ha)) (and_lt32 hb)
theorem rnd_ok {s : St} (k w : Nat) (h : s.ok) : (rnd k w s).ok := ⟨Nat.mod_lt _ (by decide), h.1, h.2.1, h.2.2.1, Nat.mod_lt _ (by decide), h.2.2.2.2.1, h.2.2.2.2.2.1, h.2.2.2.2.2.2.1⟩
theorem rounds_ok (b : List UInt8) (n : Nat) {s : St} (h : s.ok) : (rounds b n s).ok := by
  induction n with
  | zero => exact h
  | succ n ih => exact rnd_ok _ _ ih
theorem addSt_ok (s t : St) : (addSt s t).ok := by refine ⟨?_, ?_, ?_, ?_, ?_, ?_, ?_, ?_⟩ <;> exact Nat.mod_lt _ (by decide)
theorem blockN_ok (s : St) (b : List UInt8) : (blockN s b).ok := addSt_ok _ _
theorem firstN_ok : firstN.ok := by unfold St.ok firstN; decide
theorem blocksN_ok {s : St} (p : List UInt8) (n : Nat) (h : s.ok) : (blocksN s p n).ok := by
  cases n with
  | zero => exact h
  | succ n => exact blockN_ok _ _
theorem wordOf_lt (b : List UInt8) (i : Nat) : wordOf b i < 4294967296 := by
  unfold wordOf
  have h1 := (b.getD (4 * i) 0).toNat_lt
  have h2 := (b.getD (4 * i + 1) 0).toNat_lt
  have h3 := (b.getD (4 * i + 2) 0).toNat_lt
  have h4 := (b.getD (4 * i + 3) 0).toNat_lt
  omega
theorem wd_lt (b : List UInt8) (i : Nat) : wd b i < 4294967296 := by
  rw [wd]
  split
  · exact wordOf_lt _ _
  · exact Nat.mod_lt _ (by decide)
theorem wd_lo (b : List UInt8) {i : Nat} (h : i < 16) : wd b i = wordOf b i := by rw [wd, dif_pos h]
theorem wd_hi (b : List UInt8) (i : Nat) : wd b (i + 16) = (wd b i + smS0 (wd b (i + 1)) + wd b (i + 9) + smS1 (wd b (i + 14))) % 4294967296 := by
  rw [wd, dif_neg (by omega)]
  simp only [show i + 16 - 16 = i by omega, show i + 16 - 15 = i + 1 by omega, show i + 16 - 7 = i + 9 by omega, show i + 16 - 2 = i + 14 by omega]
theorem keysN_len : keysN.length = 64 := rfl
theorem keysN_lt (k : Nat) : keysN.getD k 0 < 4294967296 := by
  have : ∀ x ∈ keysN, x < 4294967296 := by unfold keysN; decide
  rw [List.getD_eq_getElem?_getD]
  cases h : keysN[k]? with
  | none => simp
  | some x => exact this x (List.mem_of_getElem? h)
/-- The bytes that fill a text to whole blocks. -/
def padTail (n : Nat) : List UInt8 := 128 :: (List.replicate ((64 - (n + 9) % 64) % 64) 0 ++ [UInt8.ofNat (8 * n / 72057594037927936), UInt8.ofNat (8 * n / 281474976710656), UInt8.ofNat (8 * n / 1099511627776), UInt8.ofNat (8 * n / 4294967296), UInt8.ofNat (8 * n / 16777216), UInt8.ofNat (8 * n / 65536), UInt8.ofNat (8 * n / 256), UInt8.ofNat (8 * n)])
def padL (t : List UInt8) : List UInt8 := t ++ padTail t.length
theorem padTail_len (n : Nat) : (padTail n).length = 9 + (64 - (n + 9) % 64) % 64 := by simp [padTail]; omega
/-- Four bytes, the highest first. -/
def four8 (x : Nat) : List UInt8 := [UInt8.ofNat (x / 16777216 % 256), UInt8.ofNat (x / 65536 % 256), UInt8.ofNat (x / 256 % 256), UInt8.ofNat (x % 256)]
def bytesOfSt (s : St) : List UInt8 := four8 s.a ++ four8 s.b ++ four8 s.c ++ four8 s.d ++ four8 s.e ++ four8 s.f ++ four8 s.g ++ four8 s.h
def digSt (t : List UInt8) : St := blocksN firstN (padL t) ((padL t).length / 64)
def digL (t : List UInt8) : List UInt8 := bytesOfSt (digSt t)
end Go.Proofs.YtnakaeaejfpmkaaGreatDoor

/-
  The contracts of the turning functions: the specification's l03Turn, the program's turned over bits.RotateLeft32.
-/
namespace Go.Proofs.YtnakaeaejfpmkaaGreatDoor
open Go.RowKit

theorem or_rotr (x k : Nat) (hx : x < 4294967296) : bits .or .u32 ((x : Int) / 2 ^ k) ((x : Int) * 2 ^ (32 - k) % 4294967296) = (rotr k x : Nat) := by
  have h := u32_or_nat (x / 2 ^ k) (x * 2 ^ (32 - k) % 4294967296) (div_lt32 k hx) (Nat.mod_lt _ (by decide))
  have e1 : ((x / 2 ^ k : Nat) : Int) = (x : Int) / 2 ^ k := by simp
  have e2 : ((x * 2 ^ (32 - k) % 4294967296 : Nat) : Int) = (x : Int) * 2 ^ (32 - k) % 4294967296 := by simp
  rw [e1, e2] at h
  exact h
theorem or_rotl (x k : Nat) (hx : x < 4294967296) : bits .or .u32 ((x : Int) * 2 ^ (32 - k) % 4294967296) ((x : Int) / 2 ^ k) = (rotr k x : Nat) := by
  have h := u32_or_nat (x * 2 ^ (32 - k) % 4294967296) (x / 2 ^ k) (Nat.mod_lt _ (by decide)) (div_lt32 k hx)
  have e1 : ((x / 2 ^ k : Nat) : Int) = (x : Int) / 2 ^ k := by simp
  have e2 : ((x * 2 ^ (32 - k) % 4294967296 : Nat) : Int) = (x : Int) * 2 ^ (32 - k) % 4294967296 := by simp
  rw [e1, e2, Nat.or_comm] at h
  exact h

set_option maxHeartbeats 400000 in
theorem turn_any (x k : Nat) (w : World) (hx : x < 4294967296) (hk : 0 < k) (hk2 : k < 32) : Calls Tryz.prog 260 #[.int .u32 x, .int .u64 k] w fun e w' => e = .returned (.int .u32 (rotr k x : Nat)) ∧ w = w' := by
  have ho := or_rotr x k hx
  go_enter Tryz.func260, Tryz.ntmps260
  go_wp2
  go_ret
  exact ⟨rfl, rfl⟩

theorem low5 : ∀ k : Nat, k < 32 → 0 < k → bits .and .u64 (IntKind.u64.wrap (-(k : Int))) 31 = ((32 - k : Nat) : Int) := by decide
set_option maxHeartbeats 400000 in
theorem rotateLeft_any (x k : Nat) (w : World) (hx : x < 4294967296) (hk : 0 < k) (hk2 : k < 32) : Calls Tryz.prog 267 #[.int .u32 x, .int .i64 (-(k : Int))] w fun e w' => e = .returned (.int .u32 (rotr k x : Nat)) ∧ w = w' := by
  have ho := or_rotl x k hx
  have h5 := low5 k hk2 hk
  obtain ⟨j, hj⟩ : ∃ j : Nat, j = 32 - k := ⟨_, rfl⟩
  have hj2 : 32 - j = k := by omega
  have hj3 : j < 32 := by omega
  rw [← hj] at h5 ho
  have hs : IntKind.u64.wrap (32 - (j : Int)) = (k : Int) := by rw [IntWalk.u64_in _ (by omega)]; omega
  clear hj
  go_enter Tryz.func267, Tryz.ntmps267
  go_wp2
  go_ret
  exact ⟨rfl, rfl⟩
set_option maxHeartbeats 400000 in
theorem turned_any (x k : Nat) (w : World) (hx : x < 4294967296) (hk : 0 < k) (hk2 : k < 32) : Calls Tryz.prog 264 #[.int .u32 x, .int .i64 k] w fun e w' => e = .returned (.int .u32 (rotr k x : Nat)) ∧ w = w' := by
  go_enter Tryz.func264, Tryz.ntmps264
  go_wp2_with (go_at_call 267; refine (rotateLeft_any x k _ hx hk hk2).mono ?_; rintro e w1 ⟨rfl, rfl⟩)
  go_ret
  exact ⟨rfl, rfl⟩
end Go.Proofs.YtnakaeaejfpmkaaGreatDoor
