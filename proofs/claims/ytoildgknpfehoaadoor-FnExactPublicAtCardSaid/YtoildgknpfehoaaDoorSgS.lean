/-
  The specification's signatures: l06Public, PublicAt, SecretAt.
-/
import Derived.Test.YtoildgknpfehoaaDoorSgA
import Derived.Laws.Rows
namespace Go.Proofs.YtoildgknpfehoaaDoor
open Go.RowKit

theorem alloc_more0 (w : World) (o : Obj) : w.heap.size < (w.alloc o).heap.size := by
  show w.heap.size < (w.heap.push o).size
  rw [Array.size_push]
  exact Nat.lt_succ_self _
theorem alloc_two (w : World) (cs : Array Value) (t : TypeId) : OwnI ((w.alloc (Obj.cells cs t)).alloc (Obj.cells #[] 3)) w.heap.size (.slice (some ⟨w.heap.size + 1, 0, none⟩) 0 0) [] := by
  have h := OwnI.empty (w.alloc (Obj.cells cs t)) (base := w.heap.size) (Nat.le_of_lt (alloc_more0 w _))
  rw [show (w.alloc (Obj.cells cs t)).heap.size = w.heap.size + 1 from Array.size_push _] at h
  exact h
theorem alloc_at (w : World) (cs : Array Value) (t : TypeId) (n : Nat) : (w.alloc (Obj.cells cs t)).cell? ⟨w.heap.size, n, none⟩ = cs[n]? := by
  simp only [World.cell?, heap_alloc_new]
  rfl
theorem pub_lit {n : Nat} (h : n < 6) : (#[Value.string { data := #[49, 49, 50, 54, 56, 52, 50, 52, 56, 50, 50, 57, 52, 55, 55, 53, 51, 48, 56, 49, 57, 53, 54, 57, 52, 54, 50, 51, 51, 48, 56, 50, 52, 48, 53, 57, 55] }, Value.string { data := #[49, 50, 52, 55, 57, 56, 49, 54, 53, 53, 52, 50, 51, 53, 51, 50, 49, 53, 52, 48, 57, 50, 53, 53, 52, 56, 54, 51, 56, 56, 56, 56, 57, 55, 50, 48, 57] }, Value.string { data := #[49, 49, 52, 56, 54, 56, 54, 51, 50, 48, 48, 50, 57, 57, 54, 55, 55, 54, 53, 49, 55, 52, 50, 53, 54, 55, 48, 52, 54, 56, 52, 51, 53, 48, 49, 49, 49] }, Value.string { data := #[49, 48, 52, 49, 54, 57, 49, 55, 51, 56, 57, 54, 51, 57, 50, 48, 52, 52, 48, 51, 50, 51, 57, 49, 49, 48, 55, 56, 50, 53, 57, 51, 49, 54, 48, 51, 57] }, Value.string { data := #[49, 49, 56, 56, 50, 52, 52, 51, 56, 51, 50, 57, 56, 53, 50, 56, 55, 53, 52, 52, 55, 57, 57, 55, 51, 54, 53, 50, 50, 49, 54, 53, 52, 55, 56, 55, 55] }, Value.string { data := #[49, 48, 55, 53, 49, 55, 48, 53, 51, 48, 57, 52, 53, 51, 54, 56, 54, 49, 55, 53, 49, 56, 55, 55, 49, 52, 54, 54, 55, 56, 56, 55, 56, 53, 56, 49, 51] }] : Array Value)[n]? = some (.string ⟨(pubF n).toArray⟩) := by
  match n, h with
  | 0, _ => rfl
  | 1, _ => rfl
  | 2, _ => rfl
  | 3, _ => rfl
  | 4, _ => rfl
  | 5, _ => rfl
set_option maxHeartbeats 800000 in
set_option maxRecDepth 100000 in
theorem specPub_any (i : Int) (w : World) (hi : -9223372036854775808 ≤ i ∧ i ≤ 9223372036854775807) : Calls Tryd.prog 22 #[.int .i64 i] w fun e w' => ∃ v, e = .returned v ∧ OwnI w' w.heap.size v (figL (pubT i)) ∧ Below w.heap.size w w' := by
  by_cases h : 0 ≤ i ∧ i < 6
  · have HN : Hid (figL (pubT i) = figL (pubT i)) := rfl
    obtain ⟨n, rfl⟩ : ∃ n : Nat, i = (n : Int) := ⟨i.toNat, by omega⟩
    have hn : n < 6 := by omega
    have hcell := (alloc_at w #[Value.string { data := #[49, 49, 50, 54, 56, 52, 50, 52, 56, 50, 50, 57, 52, 55, 55, 53, 51, 48, 56, 49, 57, 53, 54, 57, 52, 54, 50, 51, 51, 48, 56, 50, 52, 48, 53, 57, 55] }, Value.string { data := #[49, 50, 52, 55, 57, 56, 49, 54, 53, 53, 52, 50, 51, 53, 51, 50, 49, 53, 52, 48, 57, 50, 53, 53, 52, 56, 54, 51, 56, 56, 56, 56, 57, 55, 50, 48, 57] }, Value.string { data := #[49, 49, 52, 56, 54, 56, 54, 51, 50, 48, 48, 50, 57, 57, 54, 55, 55, 54, 53, 49, 55, 52, 50, 53, 54, 55, 48, 52, 54, 56, 52, 51, 53, 48, 49, 49, 49] }, Value.string { data := #[49, 48, 52, 49, 54, 57, 49, 55, 51, 56, 57, 54, 51, 57, 50, 48, 52, 52, 48, 51, 50, 51, 57, 49, 49, 48, 55, 56, 50, 53, 57, 51, 49, 54, 48, 51, 57] }, Value.string { data := #[49, 49, 56, 56, 50, 52, 52, 51, 56, 51, 50, 57, 56, 53, 50, 56, 55, 53, 52, 52, 55, 57, 57, 55, 51, 54, 53, 50, 50, 49, 54, 53, 52, 55, 56, 55, 55] }, Value.string { data := #[49, 48, 55, 53, 49, 55, 48, 53, 51, 48, 57, 52, 53, 51, 54, 56, 54, 49, 55, 53, 49, 56, 55, 55, 49, 52, 54, 54, 55, 56, 56, 55, 56, 53, 56, 49, 51] }] 9 n).trans (pub_lit hn)
    have HZ : Hid ((pubT (n : Int)).size ≤ 37) := pubT_size _
    rw [← pubT_at hn] at hcell
    have HB : Hid (Below w.heap.size w (w.alloc (Obj.cells #[Value.string { data := #[49, 49, 50, 54, 56, 52, 50, 52, 56, 50, 50, 57, 52, 55, 55, 53, 51, 48, 56, 49, 57, 53, 54, 57, 52, 54, 50, 51, 51, 48, 56, 50, 52, 48, 53, 57, 55] }, Value.string { data := #[49, 50, 52, 55, 57, 56, 49, 54, 53, 53, 52, 50, 51, 53, 51, 50, 49, 53, 52, 48, 57, 50, 53, 53, 52, 56, 54, 51, 56, 56, 56, 56, 57, 55, 50, 48, 57] }, Value.string { data := #[49, 49, 52, 56, 54, 56, 54, 51, 50, 48, 48, 50, 57, 57, 54, 55, 55, 54, 53, 49, 55, 52, 50, 53, 54, 55, 48, 52, 54, 56, 52, 51, 53, 48, 49, 49, 49] }, Value.string { data := #[49, 48, 52, 49, 54, 57, 49, 55, 51, 56, 57, 54, 51, 57, 50, 48, 52, 52, 48, 51, 50, 51, 57, 49, 49, 48, 55, 56, 50, 53, 57, 51, 49, 54, 48, 51, 57] }, Value.string { data := #[49, 49, 56, 56, 50, 52, 52, 51, 56, 51, 50, 57, 56, 53, 50, 56, 55, 53, 52, 52, 55, 57, 57, 55, 51, 54, 53, 50, 50, 49, 54, 53, 52, 55, 56, 55, 55] }, Value.string { data := #[49, 48, 55, 53, 49, 55, 48, 53, 51, 48, 57, 52, 53, 51, 54, 56, 54, 49, 55, 53, 49, 56, 55, 55, 49, 52, 54, 54, 55, 56, 56, 55, 56, 53, 56, 49, 51] }] 9))) := (Below.refl _ _).alloc (Nat.le_refl _) _
    generalize pubT (n : Int) = T at *
    have hn0 : (0 : Int) ≤ (n : Int) := by omega
    have hn6 : (n : Int) < 6 := by omega
    go_enter Tryd.func22, Tryd.ntmps22
    go_wp2_with fail
    refine (in_yes (n : Int) 0 5 _ (by omega) (by omega)).mono ?_
    rintro e w' ⟨rfl, rfl⟩
    go_wp2_with fail
    refine (specFig_any T _ (by have := HZ.out; omega)).mono ?_
    rintro e w2 ⟨v, rfl, ho2, hb2⟩
    have H2 : Hid (OwnI w2 w.heap.size v (figL T) ∧ Below w.heap.size w w2) := ⟨ho2.base HB.out.size, below_on HB.out hb2⟩
    clear ho2 hb2 HB hcell
    go_wp2_with fail
    go_ret
    exact ⟨_, rfl, by first | exact H2.out.1 | (rw [HN.out]; exact H2.out.1), H2.out.2⟩
  · have HN : Hid (figL (pubT i) = []) := by
      show figL (pubT i) = []
      rw [pubT_no h, figL_empty]
    have HB : Hid (Below w.heap.size w (w.alloc (Obj.cells #[Value.string { data := #[49, 49, 50, 54, 56, 52, 50, 52, 56, 50, 50, 57, 52, 55, 55, 53, 51, 48, 56, 49, 57, 53, 54, 57, 52, 54, 50, 51, 51, 48, 56, 50, 52, 48, 53, 57, 55] }, Value.string { data := #[49, 50, 52, 55, 57, 56, 49, 54, 53, 53, 52, 50, 51, 53, 51, 50, 49, 53, 52, 48, 57, 50, 53, 53, 52, 56, 54, 51, 56, 56, 56, 56, 57, 55, 50, 48, 57] }, Value.string { data := #[49, 49, 52, 56, 54, 56, 54, 51, 50, 48, 48, 50, 57, 57, 54, 55, 55, 54, 53, 49, 55, 52, 50, 53, 54, 55, 48, 52, 54, 56, 52, 51, 53, 48, 49, 49, 49] }, Value.string { data := #[49, 48, 52, 49, 54, 57, 49, 55, 51, 56, 57, 54, 51, 57, 50, 48, 52, 52, 48, 51, 50, 51, 57, 49, 49, 48, 55, 56, 50, 53, 57, 51, 49, 54, 48, 51, 57] }, Value.string { data := #[49, 49, 56, 56, 50, 52, 52, 51, 56, 51, 50, 57, 56, 53, 50, 56, 55, 53, 52, 52, 55, 57, 57, 55, 51, 54, 53, 50, 50, 49, 54, 53, 52, 55, 56, 55, 55] }, Value.string { data := #[49, 48, 55, 53, 49, 55, 48, 53, 51, 48, 57, 52, 53, 51, 54, 56, 54, 49, 55, 53, 49, 56, 55, 55, 49, 52, 54, 54, 55, 56, 56, 55, 56, 53, 56, 49, 51] }] 9))) := (Below.refl _ _).alloc (Nat.le_refl _) _
    have HO : Hid (OwnI ((w.alloc (Obj.cells #[Value.string { data := #[49, 49, 50, 54, 56, 52, 50, 52, 56, 50, 50, 57, 52, 55, 55, 53, 51, 48, 56, 49, 57, 53, 54, 57, 52, 54, 50, 51, 51, 48, 56, 50, 52, 48, 53, 57, 55] }, Value.string { data := #[49, 50, 52, 55, 57, 56, 49, 54, 53, 53, 52, 50, 51, 53, 51, 50, 49, 53, 52, 48, 57, 50, 53, 53, 52, 56, 54, 51, 56, 56, 56, 56, 57, 55, 50, 48, 57] }, Value.string { data := #[49, 49, 52, 56, 54, 56, 54, 51, 50, 48, 48, 50, 57, 57, 54, 55, 55, 54, 53, 49, 55, 52, 50, 53, 54, 55, 48, 52, 54, 56, 52, 51, 53, 48, 49, 49, 49] }, Value.string { data := #[49, 48, 52, 49, 54, 57, 49, 55, 51, 56, 57, 54, 51, 57, 50, 48, 52, 52, 48, 51, 50, 51, 57, 49, 49, 48, 55, 56, 50, 53, 57, 51, 49, 54, 48, 51, 57] }, Value.string { data := #[49, 49, 56, 56, 50, 52, 52, 51, 56, 51, 50, 57, 56, 53, 50, 56, 55, 53, 52, 52, 55, 57, 57, 55, 51, 54, 53, 50, 50, 49, 54, 53, 52, 55, 56, 55, 55] }, Value.string { data := #[49, 48, 55, 53, 49, 55, 48, 53, 51, 48, 57, 52, 53, 51, 54, 56, 54, 49, 55, 53, 49, 56, 55, 55, 49, 52, 54, 54, 55, 56, 56, 55, 56, 53, 56, 49, 51] }] 9)).alloc (Obj.cells #[] 3)) w.heap.size (.slice (some ⟨w.heap.size + 1, 0, none⟩) 0 0) []) := alloc_two w _ _
    have hno : ¬ (0 ≤ i ∧ i ≤ 5) := by omega
    go_enter Tryd.func22, Tryd.ntmps22
    go_wp2_with fail
    refine (in_no i 0 5 _ (by omega)).mono ?_
    rintro e w' ⟨rfl, rfl⟩
    go_wp2_with fail
    go_ret
    exact ⟨_, rfl, by rw [HN.out]; exact HO.out, HB.out.alloc HB.out.size _⟩

theorem sec_lit {n : Nat} (h : n < 6) : (#[Value.string { data := #[54, 50, 55, 48, 56, 49, 57, 56, 54, 56, 52, 51, 54, 53, 55, 48, 50, 49, 48, 51, 56, 49, 48, 51, 48, 52, 54, 56, 51, 50, 49, 57, 48, 48, 56, 49] }, Value.string { data := #[50, 51, 53, 57, 55, 51, 51, 57, 57, 51, 54, 50, 51, 50, 48, 54, 56, 48, 51, 49, 53, 50, 57, 57, 49, 54, 55, 51, 54, 51, 49, 53, 57, 55, 49, 51] }, Value.string { data := #[50, 56, 49, 48, 51, 50, 54, 52, 52, 57, 57, 57, 57, 51, 49, 51, 56, 51, 57, 56, 55, 55, 57, 54, 56, 52, 57, 51, 48, 48, 48, 57, 55, 48, 53, 55] }, Value.string { data := #[53, 52, 55, 48, 49, 54, 53, 49, 50, 55, 53, 53, 50, 56, 56, 49, 56, 54, 53, 55, 48, 49, 57, 48, 50, 56, 53, 49, 57, 54, 56, 57, 51, 53, 53, 51] }, Value.string { data := #[54, 56, 53, 49, 54, 54, 52, 55, 52, 53, 56, 52, 54, 48, 55, 49, 57, 50, 49, 49, 48, 52, 57, 48, 54, 52, 53, 50, 57, 50, 50, 53, 48, 55, 57, 51] }, Value.string { data := #[57, 54, 48, 50, 49, 54, 56, 52, 50, 48, 51, 49, 55, 49, 51, 55, 54, 53, 54, 56, 54, 57, 48, 51, 54, 56, 51, 49, 54, 49, 49, 57, 50, 57, 51] }] : Array Value)[n]? = some (.string ⟨(secF n).toArray⟩) := by
  match n, h with
  | 0, _ => rfl
  | 1, _ => rfl
  | 2, _ => rfl
  | 3, _ => rfl
  | 4, _ => rfl
  | 5, _ => rfl
set_option maxHeartbeats 800000 in
set_option maxRecDepth 100000 in
theorem specSecret_any (i : Int) (w : World) (hi : -9223372036854775808 ≤ i ∧ i ≤ 9223372036854775807) : Calls Tryd.prog 10 #[.int .i64 i] w fun e w' => ∃ v, e = .returned v ∧ OwnI w' w.heap.size v (secL i) ∧ Below w.heap.size w w' := by
  by_cases h : 0 ≤ i ∧ i < 6
  · have HN : Hid (secL i = figL (secT i)) := rfl
    obtain ⟨n, rfl⟩ : ∃ n : Nat, i = (n : Int) := ⟨i.toNat, by omega⟩
    have hn : n < 6 := by omega
    have hcell := (alloc_at w #[Value.string { data := #[54, 50, 55, 48, 56, 49, 57, 56, 54, 56, 52, 51, 54, 53, 55, 48, 50, 49, 48, 51, 56, 49, 48, 51, 48, 52, 54, 56, 51, 50, 49, 57, 48, 48, 56, 49] }, Value.string { data := #[50, 51, 53, 57, 55, 51, 51, 57, 57, 51, 54, 50, 51, 50, 48, 54, 56, 48, 51, 49, 53, 50, 57, 57, 49, 54, 55, 51, 54, 51, 49, 53, 57, 55, 49, 51] }, Value.string { data := #[50, 56, 49, 48, 51, 50, 54, 52, 52, 57, 57, 57, 57, 51, 49, 51, 56, 51, 57, 56, 55, 55, 57, 54, 56, 52, 57, 51, 48, 48, 48, 57, 55, 48, 53, 55] }, Value.string { data := #[53, 52, 55, 48, 49, 54, 53, 49, 50, 55, 53, 53, 50, 56, 56, 49, 56, 54, 53, 55, 48, 49, 57, 48, 50, 56, 53, 49, 57, 54, 56, 57, 51, 53, 53, 51] }, Value.string { data := #[54, 56, 53, 49, 54, 54, 52, 55, 52, 53, 56, 52, 54, 48, 55, 49, 57, 50, 49, 49, 48, 52, 57, 48, 54, 52, 53, 50, 57, 50, 50, 53, 48, 55, 57, 51] }, Value.string { data := #[57, 54, 48, 50, 49, 54, 56, 52, 50, 48, 51, 49, 55, 49, 51, 55, 54, 53, 54, 56, 54, 57, 48, 51, 54, 56, 51, 49, 54, 49, 49, 57, 50, 57, 51] }] 9 n).trans (sec_lit hn)
    have HZ : Hid ((secT (n : Int)).size ≤ 37) := secT_size _
    rw [← secT_at hn] at hcell
    have HB : Hid (Below w.heap.size w (w.alloc (Obj.cells #[Value.string { data := #[54, 50, 55, 48, 56, 49, 57, 56, 54, 56, 52, 51, 54, 53, 55, 48, 50, 49, 48, 51, 56, 49, 48, 51, 48, 52, 54, 56, 51, 50, 49, 57, 48, 48, 56, 49] }, Value.string { data := #[50, 51, 53, 57, 55, 51, 51, 57, 57, 51, 54, 50, 51, 50, 48, 54, 56, 48, 51, 49, 53, 50, 57, 57, 49, 54, 55, 51, 54, 51, 49, 53, 57, 55, 49, 51] }, Value.string { data := #[50, 56, 49, 48, 51, 50, 54, 52, 52, 57, 57, 57, 57, 51, 49, 51, 56, 51, 57, 56, 55, 55, 57, 54, 56, 52, 57, 51, 48, 48, 48, 57, 55, 48, 53, 55] }, Value.string { data := #[53, 52, 55, 48, 49, 54, 53, 49, 50, 55, 53, 53, 50, 56, 56, 49, 56, 54, 53, 55, 48, 49, 57, 48, 50, 56, 53, 49, 57, 54, 56, 57, 51, 53, 53, 51] }, Value.string { data := #[54, 56, 53, 49, 54, 54, 52, 55, 52, 53, 56, 52, 54, 48, 55, 49, 57, 50, 49, 49, 48, 52, 57, 48, 54, 52, 53, 50, 57, 50, 50, 53, 48, 55, 57, 51] }, Value.string { data := #[57, 54, 48, 50, 49, 54, 56, 52, 50, 48, 51, 49, 55, 49, 51, 55, 54, 53, 54, 56, 54, 57, 48, 51, 54, 56, 51, 49, 54, 49, 49, 57, 50, 57, 51] }] 9))) := (Below.refl _ _).alloc (Nat.le_refl _) _
    generalize secT (n : Int) = T at *
    have hn0 : (0 : Int) ≤ (n : Int) := by omega
    have hn6 : (n : Int) < 6 := by omega
    go_enter Tryd.func10, Tryd.ntmps10
    go_wp2_with fail
    refine (in_yes (n : Int) 0 5 _ (by omega) (by omega)).mono ?_
    rintro e w' ⟨rfl, rfl⟩
    go_wp2_with fail
    refine (specFig_any T _ (by have := HZ.out; omega)).mono ?_
    rintro e w2 ⟨v, rfl, ho2, hb2⟩
    have H2 : Hid (OwnI w2 w.heap.size v (figL T) ∧ Below w.heap.size w w2) := ⟨ho2.base HB.out.size, below_on HB.out hb2⟩
    clear ho2 hb2 HB hcell
    go_wp2_with fail
    go_ret
    exact ⟨_, rfl, by first | exact H2.out.1 | (rw [HN.out]; exact H2.out.1), H2.out.2⟩
  · have HN : Hid (secL i = []) := by
      show secL i = []
      unfold secL; rw [secT_no h, figL_empty]
    have HB : Hid (Below w.heap.size w (w.alloc (Obj.cells #[Value.string { data := #[54, 50, 55, 48, 56, 49, 57, 56, 54, 56, 52, 51, 54, 53, 55, 48, 50, 49, 48, 51, 56, 49, 48, 51, 48, 52, 54, 56, 51, 50, 49, 57, 48, 48, 56, 49] }, Value.string { data := #[50, 51, 53, 57, 55, 51, 51, 57, 57, 51, 54, 50, 51, 50, 48, 54, 56, 48, 51, 49, 53, 50, 57, 57, 49, 54, 55, 51, 54, 51, 49, 53, 57, 55, 49, 51] }, Value.string { data := #[50, 56, 49, 48, 51, 50, 54, 52, 52, 57, 57, 57, 57, 51, 49, 51, 56, 51, 57, 56, 55, 55, 57, 54, 56, 52, 57, 51, 48, 48, 48, 57, 55, 48, 53, 55] }, Value.string { data := #[53, 52, 55, 48, 49, 54, 53, 49, 50, 55, 53, 53, 50, 56, 56, 49, 56, 54, 53, 55, 48, 49, 57, 48, 50, 56, 53, 49, 57, 54, 56, 57, 51, 53, 53, 51] }, Value.string { data := #[54, 56, 53, 49, 54, 54, 52, 55, 52, 53, 56, 52, 54, 48, 55, 49, 57, 50, 49, 49, 48, 52, 57, 48, 54, 52, 53, 50, 57, 50, 50, 53, 48, 55, 57, 51] }, Value.string { data := #[57, 54, 48, 50, 49, 54, 56, 52, 50, 48, 51, 49, 55, 49, 51, 55, 54, 53, 54, 56, 54, 57, 48, 51, 54, 56, 51, 49, 54, 49, 49, 57, 50, 57, 51] }] 9))) := (Below.refl _ _).alloc (Nat.le_refl _) _
    have HO : Hid (OwnI ((w.alloc (Obj.cells #[Value.string { data := #[54, 50, 55, 48, 56, 49, 57, 56, 54, 56, 52, 51, 54, 53, 55, 48, 50, 49, 48, 51, 56, 49, 48, 51, 48, 52, 54, 56, 51, 50, 49, 57, 48, 48, 56, 49] }, Value.string { data := #[50, 51, 53, 57, 55, 51, 51, 57, 57, 51, 54, 50, 51, 50, 48, 54, 56, 48, 51, 49, 53, 50, 57, 57, 49, 54, 55, 51, 54, 51, 49, 53, 57, 55, 49, 51] }, Value.string { data := #[50, 56, 49, 48, 51, 50, 54, 52, 52, 57, 57, 57, 57, 51, 49, 51, 56, 51, 57, 56, 55, 55, 57, 54, 56, 52, 57, 51, 48, 48, 48, 57, 55, 48, 53, 55] }, Value.string { data := #[53, 52, 55, 48, 49, 54, 53, 49, 50, 55, 53, 53, 50, 56, 56, 49, 56, 54, 53, 55, 48, 49, 57, 48, 50, 56, 53, 49, 57, 54, 56, 57, 51, 53, 53, 51] }, Value.string { data := #[54, 56, 53, 49, 54, 54, 52, 55, 52, 53, 56, 52, 54, 48, 55, 49, 57, 50, 49, 49, 48, 52, 57, 48, 54, 52, 53, 50, 57, 50, 50, 53, 48, 55, 57, 51] }, Value.string { data := #[57, 54, 48, 50, 49, 54, 56, 52, 50, 48, 51, 49, 55, 49, 51, 55, 54, 53, 54, 56, 54, 57, 48, 51, 54, 56, 51, 49, 54, 49, 49, 57, 50, 57, 51] }] 9)).alloc (Obj.cells #[] 3)) w.heap.size (.slice (some ⟨w.heap.size + 1, 0, none⟩) 0 0) []) := alloc_two w _ _
    have hno : ¬ (0 ≤ i ∧ i ≤ 5) := by omega
    go_enter Tryd.func10, Tryd.ntmps10
    go_wp2_with fail
    refine (in_no i 0 5 _ (by omega)).mono ?_
    rintro e w' ⟨rfl, rfl⟩
    go_wp2_with fail
    go_ret
    exact ⟨_, rfl, by rw [HN.out]; exact HO.out, HB.out.alloc HB.out.size _⟩

set_option maxHeartbeats 800000 in
set_option maxRecDepth 100000 in
theorem specPublic_any (i : Int) (w : World) (hi : -9223372036854775808 ≤ i ∧ i ≤ 9223372036854775807) : Calls Tryd.prog 8 #[.int .i64 i] w fun e w' => e = .returned (.string (pubB i)) ∧ Below w.heap.size w w' := by
  have HN : Hid (pubB i = txtL (figL (pubT i))) := rfl
  go_enter Tryd.func8, Tryd.ntmps8
  go_wp2_with fail
  refine (specPub_any i w hi).mono ?_
  rintro e w1 ⟨v, rfl, ho1, hb1⟩
  have H1 : Hid (IntAt w1 v (figL (pubT i)) ∧ Below w.heap.size w w1) := ⟨ho1.at, hb1⟩
  clear ho1 hb1
  go_wp2_with fail
  refine (specText_any v _ w1 (by have := figL_len (pubT i); omega) (figL_wd _) H1.out.1).mono ?_
  rintro e w2 ⟨rfl, hb2⟩
  have H2 : Hid (Below w.heap.size w w2) := below_on H1.out.2 hb2
  clear hb2 H1
  go_wp2_with fail
  go_ret
  exact ⟨by rw [HN.out]; rfl, H2.out⟩

end Go.Proofs.YtoildgknpfehoaaDoor
