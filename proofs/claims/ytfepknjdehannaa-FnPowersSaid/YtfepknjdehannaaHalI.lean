/-
  The program's halve (in place), and slices.Clone at great numbers.
-/
import Derived.Test.YtfepknjdehannaaNatJ
import Derived.Test.YtfepknjdehannaaBitP
import Derived.WalkSpells
namespace Go.Proofs.Ytfepknjdehannaa
open Go.RowKit

set_option maxHeartbeats 800000 in
set_option maxRecDepth 100000 in
theorem halve_any (g cap base : Nat) (L0 : List Int) (w : World) (hl : L0.length ≤ 1000) (hd : Dig L0) (hv : OwnI w base (.slice (some ⟨g, 0, none⟩) L0.length cap) L0) :
    Calls Try.prog 51 #[.slice (some ⟨g, 0, none⟩) L0.length cap] w fun e w' => ∃ L : List Int, e = .returned (.int .i64 (ev L0 % 2)) ∧ L.length = L0.length ∧ Dig L ∧ ev L = ev L0 / 2 ∧ OwnI w' base (.slice (some ⟨g, 0, none⟩) L0.length cap) L ∧ w.grownBy w' (some g) := by
  have HV : Hid (OwnI w base (.slice (some ⟨g, 0, none⟩) L0.length cap) L0) := hv
  have HD : Hid (Dig L0) := hd
  clear hv hd
  go_enter Try.func51, Try.ntmps51
  go_wp2
  go_loopw [3, 4] (fun bv iv wr => ∃ (p : Nat) (L : List Int) (b : Int), p ≤ L0.length ∧ iv = .int .i64 ((p : Int) - 1) ∧ bv = .int .i64 b ∧ Hid (Hv L0 p L b ∧ OwnI wr base (.slice (some ⟨g, 0, none⟩) L.length cap) L ∧ w.grownBy wr (some g))) (fun _ iv _ => (intOf iv + 1).toNat)
  case atStart => exact ⟨L0.length, L0, 0, Nat.le_refl _, rfl, rfl, Hv.start HD.out, HV.out, World.grownBy.refl _ _⟩
  case round =>
    obtain ⟨p, L, b, hp, rfl, rfl, H⟩ := hrel
    have hb := H.out.1.bit
    rcases p with _ | p
    · have HE := H.out.1.done
      have HR : Hid (L.length = L0.length ∧ Dig L ∧ ev L = ev L0 / 2 ∧ b = ev L0 % 2 ∧ OwnI wr base (.slice (some ⟨g, 0, none⟩) L0.length cap) L ∧ w.grownBy wr (some g)) := by
        refine ⟨H.out.1.len, H.out.1.dig, HE.1, HE.2, ?_, H.out.2.2⟩
        have h := H.out.2.1
        rw [H.out.1.len] at h
        exact h
      clear HE H
      go_wp2
      go_ret
      exact ⟨L, congrArg (fun z => Ending.returned (Value.int .i64 z)) HR.out.2.2.2.1, HR.out.1, HR.out.2.1, HR.out.2.2.1, HR.out.2.2.2.2.1, HR.out.2.2.2.2.2⟩
    · have hll : L.length = L0.length := H.out.1.len
      have hu := H.out.2.1.cell (j := p) (by omega)
      have hf := H.out.2.1.frozen p
      have hx := H.out.1.dig.getD p
      have HST := H.out.1.step (by omega)
      have HOW := fun y => H.out.2.1.set p y
      have HBL := fun y => grown_trans H.out.2.2 (grown_set wr g p (.int .i64 y))
      have HN : Hid (Hv L0 p (L.set p ((b * 10000 + L.getD p 0) / 2)) ((b * 10000 + L.getD p 0) % 2) ∧ (∀ y, OwnI (wr.setCell ⟨g, p, none⟩ (.int .i64 y)) base (.slice (some ⟨g, 0, none⟩) (L.set p y).length cap) (L.set p y)) ∧ ∀ y, w.grownBy (wr.setCell ⟨g, p, none⟩ (.int .i64 y)) (some g)) := ⟨HST, HOW, HBL⟩
      clear HST HOW HBL H hll
      generalize L.getD p 0 = x at *
      have e1 : ((p + 1 : Nat) : Int) - 1 = (p : Int) := by omega
      rw [e1]
      have hpi : (p : Int) < (L0.length : Int) := by omega
      have hp0 : (0 : Int) ≤ (p : Int) := by omega
      have q1 : (b * 10000 + x).tdiv 2 = (b * 10000 + x) / 2 := Int.tdiv_eq_ediv_of_nonneg (by omega)
      have q2 : (b * 10000 + x).tmod 2 = (b * 10000 + x) % 2 := Int.tmod_eq_emod_of_nonneg (by omega)
      have r0 : 0 ≤ (b * 10000 + x) / 2 := by omega
      have r1 : (b * 10000 + x) / 2 ≤ 9999 := by omega
      have s0 : 0 ≤ (b * 10000 + x) % 2 := by omega
      have s1 : (b * 10000 + x) % 2 ≤ 1 := by omega
      generalize (b * 10000 + x) / 2 = y at *
      generalize (b * 10000 + x) % 2 = z at *
      clear e1
      go_wp2
      go_roundw
      case rel => exact ⟨p, _, z, by omega, rfl, rfl, HN.out.1, HN.out.2.1 _, HN.out.2.2 _⟩
      case measure => simp [intOf]

set_option maxHeartbeats 800000 in
set_option maxRecDepth 100000 in
theorem clone_any (v : Value) (l : List Int) (w : World) (hl : l.length ≤ 1000) (hv : IntAt w v l) :
    Calls Try.prog 50 #[v] w fun e w' => ∃ v', e = .returned v' ∧ OwnI w' w.heap.size v' l ∧ Below w.heap.size w w' := by
  obtain ⟨i0, hi, hz0, hz1, hz2⟩ := info_parts info3
  obtain ⟨ao, cap, rfl, hc⟩ := hv
  have hnil := fun (a : Option Addr) (n c : Nat) (w : World) => Lib.run_eql_slice_nil w 44 3 a n c 0 0 Try.underlying44
  rcases ao with _ | ad
  · have h0 : l = [] := by
      rcases Nat.eq_zero_or_pos l.length with h | h
      · exact List.eq_nil_of_length_eq_zero h
      · obtain ⟨g, hg, _⟩ := hc h
        cases hg
    subst h0
    go_enter Try.func50, Try.ntmps50
    go_wp2
    go_ret
    exact ⟨_, rfl, OwnI.nil _ _, Below.refl _ _⟩
  · have HC : Hid (0 < l.length → ∃ g, some ad = some (⟨g, 0, none⟩ : Addr) ∧ g < w.heap.size ∧ ∀ j (hj : j < l.length), w.cell? ⟨g, j, none⟩ = some (.int .i64 l[j])) := hc
    clear hc
    go_enter Try.func50, Try.ntmps50
    go_wp2_with (at_builtin; refine wpList_append_own _ rfl _ _ 44 rfl w.heap.size 3 i0 (.int .i64 0) 1 8 Try.underlying44 hi hz0 hz1 hz2 rfl (by decide) _ _ _ rfl (World.ownsRow_made w #[] 0 (Nat.le_refl _) (Nat.zero_le _) rfl) ad l.length cap (cellsI l) rfl (by simp [cellsI]) ?c1 ?c2 (by unfold maxLen; omega) (by omega) (by simp) ?_)
    case c1 =>
      intro j q hq
      have hj : j < l.length := by
        refine Nat.lt_of_not_le fun h => ?_
        rw [List.getElem?_eq_none (by rw [cellsI_len]; exact h)] at hq
        cases hq
      obtain ⟨g, hg, hgl, hcs⟩ := HC.out (by omega)
      cases hg
      rw [Addr.add_lit, Nat.zero_add, World.cell?_of_block (w := w) (Below.heap_alloc w _ g hgl), hcs j hj, ← hq, cellsI_getD hj]
      simp [List.getD, hj]
    case c2 =>
      intro q hq
      obtain ⟨y, _, rfl⟩ := List.mem_map.1 hq
      rfl
    intro v' w1 hown hgrow _
    have HO : Hid (OwnI w1 w.heap.size v' l ∧ Below w.heap.size w w1) := by
      refine ⟨by simpa [OwnI] using hown, ?_⟩
      exact ((Below.refl _ w).alloc (Nat.le_refl _) _).grown hgrow (by simp) (fun k hk => by simp [Value.ownBlock] at hk; omega)
    clear hown hgrow
    go_wp2_with fail
    go_ret
    exact ⟨_, rfl, HO.out⟩
end Go.Proofs.Ytfepknjdehannaa
