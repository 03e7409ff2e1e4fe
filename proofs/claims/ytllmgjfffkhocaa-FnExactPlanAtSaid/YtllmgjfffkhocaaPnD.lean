/-
  Rows of plans: the laws' szPlanS.
-/
import Derived.Test.YtllmgjfffkhocaaPnB
namespace Go.Proofs.Ytllmgjfffkhocaa
open Go.RowKit
set_option linter.unusedVariables false
set_option linter.unusedSimpArgs false

set_option maxHeartbeats 6400000 in
set_option maxRecDepth 100000 in
theorem szPlanS_any (v : Value) (l : List Pn) (left : Int) (w : World) (hm : l.length ≤ 9223372036854775807) (hwd : ∀ c ∈ l, WdPn c) (h0 : 0 ≤ left) (hl : left ≤ 1048576) (ha : ArgPS w.heap.size w v l) :
    Calls Try.prog 7 #[v, .int .i64 left] w fun e w' => e = .returned (.int .i64 (if (wtPS l : Int) ≤ left then left - (wtPS l : Int) else -1)) ∧ Below w.heap.size w w' := by
  obtain ⟨a0, cap, hv⟩ := ha.shape
  obtain ⟨len, hlen⟩ : ∃ n, l.length = n := ⟨_, rfl⟩
  rw [hlen] at hv hm
  subst hv
  obtain ⟨R, hR⟩ : ∃ r : Int, (if (wtPS l : Int) ≤ left then left - (wtPS l : Int) else -1) = r := ⟨_, rfl⟩
  rw [hR]
  have HA : Hid (ArgPS w.heap.size w (.slice a0 len cap) l ∧ l.length = len ∧ (∀ c ∈ l, WdPn c) ∧ (if (wtPS l : Int) ≤ left then left - (wtPS l : Int) else -1) = R) := ⟨ha, hlen, hwd, hR⟩
  clear ha hlen hwd hR
  have w1 : IntKind.i64.wrap (left - (len : Int)) = left - (len : Int) := by rw [IntKind.wrap_i64]; omega
  by_cases hneg : left - (len : Int) < 0
  · have HRR : Hid (R = -1) := by
      show R = -1
      rw [← HA.out.2.2.2, if_neg]
      have h1 := HA.out.2.1
      unfold wtPS
      omega
    go_enter Try.func7, Try.ntmps7
    go_wp2
    go_ret
    exact ⟨by rw [HRR.out]; rfl, Below.refl _ _⟩
  · have hll : len ≤ 1048576 := by omega
    go_enter Try.func7, Try.ntmps7
    go_wp2_with fail
    go_loopw [1, 5] (fun lv iv wr => ∃ k : Nat, ∃ z : Int, k ≤ len ∧ iv = .int .i64 k ∧ lv = .int .i64 z ∧ 0 ≤ z ∧ z ≤ 1048576 ∧ Hid (z = left - (len : Int) - ((((l.map wtPn).take k).sum : Nat) : Int) ∧ Below w.heap.size w wr)) (fun _ iv _ => len - (intOf iv).toNat)
    case atStart => exact ⟨0, _, Nat.zero_le _, rfl, rfl, by omega, by omega, by simp, Below.refl _ _⟩
    case round =>
      obtain ⟨k, z, hk, rfl, rfl, hz0, hz1, H⟩ := hrel
      by_cases hkn : k < len
      · have hkl : k < l.length := by rw [HA.out.2.1]; exact hkn
        obtain ⟨b, off, u, hao, hbB, hPu, hus, hcell⟩ := HA.out.1.get hkl
        obtain ⟨ap, aq, ep, eq, hu⟩ := hPu.shape
        subst hao
        have hBl := H.out.2
        have hcb := fun i x (hx : u.cells[i]? = some x) => (hBl.cell (p := ⟨b, off + k * 7 + i, none⟩) hbB).trans (hcell i x hx)
        obtain ⟨c, hc⟩ : ∃ c, l[k] = c := ⟨_, rfl⟩
        have HP : ArgPn wr.heap.size wr u c := by rw [← hc]; exact (hPu.below hBl).mono hBl.size
        rw [hc] at hu
        have HR := szPlan_any c u z wr (by rw [← hc]; exact HA.out.2.2.1 _ (List.getElem_mem hkl)) hz0 hz1 HP
        subst hu
        have u0 : wr.cell? ⟨b, off + k * 7, none⟩ = some (.int .i64 c.id) := hcb 0 _ rfl
        have u1 : wr.cell? ⟨b, off + k * 7 + 1, none⟩ = some (.slice ap c.anc.length aq) := hcb 1 _ rfl
        have u2 : wr.cell? ⟨b, off + k * 7 + 2, none⟩ = some (.int .i64 c.ru.time) := hcb 2 _ rfl
        have u3 : wr.cell? ⟨b, off + k * 7 + 3, none⟩ = some (.slice ep c.ru.pol.length eq) := hcb 3 _ rfl
        have u4 : wr.cell? ⟨b, off + k * 7 + 4, none⟩ = some (.bool c.ru.expl) := hcb 4 _ rfl
        have u5 : wr.cell? ⟨b, off + k * 7 + 5, none⟩ = some (.bool c.ru.chk) := hcb 5 _ rfl
        have u6 : wr.cell? ⟨b, off + k * 7 + 6, none⟩ = some (.int .i64 c.ru.usage) := hcb 6 _ rfl
        have HS : Hid ((((l.map wtPn).take (k + 1)).sum = ((l.map wtPn).take k).sum + wtPn c) ∧ ((l.map wtPn).take (k + 1)).sum ≤ (l.map wtPn).sum ∧ wtPS l = len + (l.map wtPn).sum) := by
          refine ⟨?_, sumM_take_le _ _, by unfold wtPS; rw [HA.out.2.1]⟩
          rw [sumM_take (by rw [List.length_map]; exact hkl), List.getElem_map, hc]
        have hki : (k : Int) < (len : Int) := by omega
        have hk0 : (0 : Int) ≤ (k : Int) := by omega
        clear hcb hcell hPu hus hbB hc hkl HP hBl
        obtain ⟨zz, hzz⟩ : ∃ q, szPn c z = q := ⟨_, rfl⟩
        rw [hzz] at HR
        unfold pnV at HR
        by_cases hfit : (wtPn c : Int) ≤ z
        · have hzv : zz = z - (wtPn c : Int) := by rw [← hzz]; unfold szPn; rw [if_pos hfit]
          have hz0' : ¬ zz < 0 := by omega
          have HZ : Hid (zz = left - (len : Int) - ((((l.map wtPn).take (k + 1)).sum : Nat) : Int) ∧ 0 ≤ zz ∧ zz ≤ 1048576) := ⟨by rw [HS.out.1, hzv, H.out.1]; omega, by omega, by omega⟩
          clear hzz hzv HS hfit
          go_wp2_with fail
          refine HR.mono ?_
          rintro e w3 ⟨rfl, hb3⟩
          clear u0 u1 u2 u3 u4 u5 u6 HR
          have HB3 : Hid (Below w.heap.size w w3) := H.out.2.trans (hb3.mono H.out.2.size)
          clear H hb3
          go_wp2_with fail
          go_roundw
          case rel => exact ⟨k + 1, zz, by omega, by go_num, rfl, HZ.out.2.1, HZ.out.2.2, HZ.out.1, HB3.out⟩
          case measure => simp [intOf]; omega
        · have hzv : zz = -1 := by rw [← hzz]; unfold szPn; rw [if_neg hfit]
          subst hzv
          have HRR : Hid (R = -1) := by
            show R = -1
            rw [← HA.out.2.2.2, if_neg]
            have h1 := HS.out
            have h2 := H.out.1
            omega
          clear HS hfit hzz
          go_wp2_with fail
          refine HR.mono ?_
          rintro e w3 ⟨rfl, hb3⟩
          clear u0 u1 u2 u3 u4 u5 u6 HR
          have HB3 : Hid (Below w.heap.size w w3) := H.out.2.trans (hb3.mono H.out.2.size)
          clear H hb3
          go_wp2
          go_ret
          exact ⟨by rw [HRR.out]; rfl, HB3.out⟩
      · have hkl : k = len := by omega
        subst hkl
        have HRR : Hid (R = z) := by
          show R = z
          have h1 := H.out.1
          rw [List.take_of_length_le (by rw [List.length_map, HA.out.2.1]; exact Nat.le_refl _)] at h1
          have h2 := HA.out.2.1
          rw [← HA.out.2.2.2, if_pos (by unfold wtPS; omega)]
          unfold wtPS
          omega
        go_wp2
        go_ret
        exact ⟨by rw [HRR.out]; rfl, H.out.2⟩
end Go.Proofs.Ytllmgjfffkhocaa
