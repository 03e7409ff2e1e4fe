/-
  The specification's l01Pick and DrawNatFigures.
-/
import Derived.Test.YtcihpaohmngodaaTxtP
namespace Go.Proofs.Ytcihpaohmngodaa
open Go.RowKit
set_option maxHeartbeats 800000 in
set_option maxRecDepth 100000 in
theorem l01Pick_any (g n cp : Nat) (B : Nat) (w : World) (c : Nat) (a0 : Option Addr) (len cap : Nat) (hn : 0 < n) (hn2 : n ≤ 1000000) (hgc : g ≠ c)
    (hcs : ∀ j, j < n → ∃ x : ByteArray, w.cell? ⟨g, j, none⟩ = some (.string x) ∧ x.size ≤ 5000) (hC : Cur B w c a0 len cap) :
    Calls Try.prog 68 #[.pointer (some ⟨c, 0, none⟩), .slice (some ⟨g, 0, none⟩) n cp] w fun e w' =>
    ∃ x : ByteArray, x.size ≤ 5000 ∧ e = .returned (.string x) ∧ Cur B w' c a0 len cap ∧ w.grownBy w' (some c) := by
  have HC : Hid (Cur B w c a0 len cap) := hC
  have HX : Hid (∀ j, j < n → ∃ x : ByteArray, w.cell? ⟨g, j, none⟩ = some (.string x) ∧ x.size ≤ 5000) := hcs
  clear hC hcs
  go_enter Try.func68, Try.ntmps68
  go_wp2_with fail
  refine (l01Below_any _ B _ c a0 len cap (by omega) HC.out).mono ?_
  rintro e w1 ⟨x, hx0, hx1, _, rfl, hC1, hg1⟩
  have hx2 := hx1 (by omega)
  obtain ⟨j, rfl⟩ := Int.eq_ofNat_of_zero_le hx0
  obtain ⟨y, hy, hy0⟩ := HX.out j (by omega)
  have hcy : w1.cell? ⟨g, j, none⟩ = some (.string y) := hg1.cell hy (fun e => hgc (Option.some.inj e))
  have HC1 : Hid (Cur B w1 c a0 len cap) := hC1
  have HG1 : Hid (w.grownBy w1 (some c)) := hg1
  clear hC1 hg1 hx1 hy
  go_wp2
  go_ret
  exact ⟨_, hy0, rfl, HC1.out, HG1.out⟩

set_option maxHeartbeats 1600000 in
set_option maxRecDepth 100000 in
theorem drawNatFigures_any (B : Nat) (w : World) (a0 : Option Addr) (len cap : Nat) (hl : len ≤ 1048576) (hB : B ≤ w.heap.size) (hcode : CodeAt B w a0 len) : Calls Try.prog 30 #[.slice a0 len cap] w fun e w' =>
    ∃ s : ByteArray, e = .returned (.string s) ∧ s.size ≤ 5000 ∧ Below w.heap.size w w' := by
  have HD : Hid (CodeAt B w a0 len) := hcode
  clear hcode
  go_enter Try.func30, Try.ntmps30
  go_wp2_with fail
  refine (l01New_any B w a0 len cap hl hB HD.out).mono ?_
  rintro e w1 ⟨c, rfl, hC1, hb1, hc⟩
  have H1 : Hid (Cur B w1 c a0 len cap ∧ Below w.heap.size w w1) := ⟨hC1, hb1⟩
  clear hC1 hb1 HD
  go_wp2_with fail
  refine (l01Long_int 140 57 w1 (by omega) (by omega) (by omega) (by omega)).mono ?_
  rintro e w2 ⟨s1, rfl, hs1, hb2⟩
  have H2 : Hid (Cur B w2 c a0 len cap ∧ Below w.heap.size w w2) := ⟨H1.out.1.kept hb2, below_go H1.out.2 hb2⟩
  clear hb2 H1
  go_wp2_with fail
  refine (l01Long_int 141 57 w2 (by omega) (by omega) (by omega) (by omega)).mono ?_
  rintro e w3 ⟨s2, rfl, hs2, hb3⟩
  have H3 : Hid (Cur B w3 c a0 len cap ∧ Below w.heap.size w w3) := ⟨H2.out.1.kept hb3, below_go H2.out.2 hb3⟩
  clear hb3 H2
  go_wp2_with fail
  have ha := fun o => (Below.refl w3.heap.size w3).alloc (Nat.le_refl _) o
  have hcl := H3.out.1.lt
  refine (l01Pick_any w3.heap.size 8 8 B _ c a0 len cap (by omega) (by omega) (by omega) (fun j hj => ?hcs) (H3.out.1.kept (ha _))).mono ?_
  case hcs =>
    rw [cell_of_row _ w3.heap.size j _ 9 (0, 0) (heap_alloc_new w3 _)]
    match j, hj with
    | 0, _ => exact ⟨_, rfl, by decide⟩
    | 1, _ => exact ⟨_, rfl, by decide⟩
    | 2, _ => exact ⟨_, rfl, by decide⟩
    | 3, _ => exact ⟨_, rfl, by decide⟩
    | 4, _ => exact ⟨_, rfl, by decide⟩
    | 5, _ => exact ⟨_, rfl, by decide⟩
    | 6, _ => exact ⟨s1, rfl, by omega⟩
    | 7, _ => exact ⟨s2, rfl, by omega⟩
  rintro e w4 ⟨s, hs, rfl, hC4, hg4⟩
  have H4 : Hid (Below w.heap.size w w4) := (below_go H3.out.2 (ha _)).grown hg4 (below_go H3.out.2 (ha _)).size (fun k hk => by cases hk; exact hc)
  clear hC4 hg4 ha H3 hcl
  go_wp2_with fail
  go_ret
  exact ⟨_, rfl, hs, H4.out⟩
end Go.Proofs.Ytcihpaohmngodaa
