/-
  The program's PlanAt.
-/
import Derived.Test.YtllmgjfffkhocaaPnP
namespace Go.Proofs.Ytllmgjfffkhocaa
open Go.RowKit
set_option linter.unusedVariables false
set_option linter.unusedSimpArgs false

set_option maxHeartbeats 1600000 in
set_option maxRecDepth 100000 in
theorem planIs_any (c : Pn) (p e : Value) (gd : Nat) (id : Int) (w : World) (hd : w.cell? ⟨gd, 0, none⟩ = some (.int .i64 id)) :
    Calls Try.prog 48 #[pnV c p e, .pointer (some ⟨gd, 0, none⟩)] w fun e w' => e = .returned (.bool (decide (c.id = id))) ∧ Below w.heap.size w w' := by
  have hlt := lt_of_cell hd
  obtain ⟨B, hB⟩ : ∃ b, c.id = b := ⟨_, rfl⟩
  unfold pnV
  rw [hB]
  clear hB
  obtain ⟨V, hV⟩ : ∃ V, V = w.alloc (Obj.cells #[.int .i64 B, p, .int .i64 c.ru.time, e, .bool c.ru.expl, .bool c.ru.chk, .int .i64 c.ru.usage] 57) := ⟨_, rfl⟩
  have HV : Hid (Below w.heap.size w V) := by rw [hV]; exact (Below.refl _ _).alloc (Nat.le_refl _) _
  have c0 : V.cell? ⟨w.heap.size, 0, none⟩ = some (.int .i64 B) := by rw [hV]; exact (Blk.new _ _ _).cell 0
  have d0 : V.cell? ⟨gd, 0, none⟩ = some (.int .i64 id) := (HV.out.cell (p := ⟨gd, 0, none⟩) hlt).trans hd
  clear hd hlt
  go_enter Try.func48, Try.ntmps48
  go_upto_region 1 with fail
  rw [← hV]
  clear hV
  by_cases hz : B = id
  · have hzb : (B == id) = true := beq_iff_eq.2 hz
    have HQ : Hid (decide (B = id) = true) := decide_eq_true hz
    clear hz
    go_wp2_with fail
    go_ret
    exact ⟨by rw [HQ.out]; first | rfl | simp [hzb], HV.out⟩
  · have hzb : (B == id) = false := beq_eq_false_iff_ne.2 hz
    have HQ : Hid (decide (B = id) = false) := decide_eq_false hz
    clear hz
    go_wp2_with fail
    go_ret
    exact ⟨by rw [HQ.out]; first | rfl | simp [hzb], HV.out⟩
set_option maxHeartbeats 3200000 in
set_option maxRecDepth 100000 in
theorem indexPlan_any (l : List Pn) (v : Value) (gd : Nat) (id : Int) (w : World) (hl : l.length ≤ 1000000000) (hd : w.cell? ⟨gd, 0, none⟩ = some (.int .i64 id)) (ha : AtS pnKd w v l) :
    Calls Try.prog 47 #[v, .func (.func 48) #[] #[.pointer (some ⟨gd, 0, none⟩)]] w fun e w' => e = .returned (.int .i64 (planAt l id 0)) ∧ Below w.heap.size w w' := by
  obtain ⟨pa, pc, hpa⟩ := ha.shape
  obtain ⟨n, hn⟩ : ∃ z, l.length = z := ⟨_, rfl⟩
  rw [hn] at hpa hl
  subst hpa
  obtain ⟨R, hR⟩ : ∃ R, planAt l id 0 = R := ⟨_, rfl⟩
  have HT : Hid (AtS pnKd w (.slice pa n pc) l ∧ l.length = n) := ⟨ha, hn⟩
  have HR : Hid (planAt (l.drop 0) id 0 = R) := hR
  have HCL : Hid (∀ (c : Pn) (p e : Value) (W : World), Below w.heap.size w W → Calls Try.prog 48 #[pnV c p e, .pointer (some ⟨gd, 0, none⟩)] W fun e w' => e = .returned (.bool (decide (c.id = id))) ∧ Below W.heap.size W w') := fun c p e W hb => planIs_any c p e gd id W ((hb.cell (p := ⟨gd, 0, none⟩) (lt_of_cell hd)).trans hd)
  rw [hR]
  clear ha hn hR hd
  go_enter Try.func47, Try.ntmps47
  go_wp2_with fail
  go_loopw [8] (fun iv wr => ∃ k : Nat, k ≤ n ∧ iv = .int .i64 k ∧ Hid (planAt (l.drop k) id k = R ∧ Below w.heap.size w wr)) (fun iv _ => n - (intOf iv).toNat)
  case atStart => exact ⟨0, Nat.zero_le _, rfl, HR.out, Below.refl _ _⟩
  case round =>
    obtain ⟨k, hk, rfl, H⟩ := hrel
    by_cases hlt : k < n
    · have hkl : k < l.length := by rw [HT.out.2]; exact hlt
      obtain ⟨b, off, u, hao, hbB, hPu, hus, hcell⟩ := HT.out.1.get hkl
      obtain ⟨p1, q1, e1, r1, hu⟩ := PnAt.shape hPu
      have hst := planAt_drop (id := id) hkl
      obtain ⟨x, hx⟩ : ∃ x, l[k] = x := ⟨_, rfl⟩
      rw [hx] at hu hst
      have hcb := fun i z (hz : u.cells[i]? = some z) => (H.out.2.cell (p := ⟨b, off + k * 7 + i, none⟩) (by show b < w.heap.size; exact hbB)).trans (hcell i z hz)
      subst hao hu
      have u0 : wr.cell? ⟨b, off + k * 7, none⟩ = some (.int .i64 x.id) := hcb 0 _ rfl
      have u1 : wr.cell? ⟨b, off + k * 7 + 1, none⟩ = some (.slice p1 x.anc.length q1) := hcb 1 _ rfl
      have u2 : wr.cell? ⟨b, off + k * 7 + 2, none⟩ = some (.int .i64 x.ru.time) := hcb 2 _ rfl
      have u3 : wr.cell? ⟨b, off + k * 7 + 3, none⟩ = some (.slice e1 x.ru.pol.length r1) := hcb 3 _ rfl
      have u4 : wr.cell? ⟨b, off + k * 7 + 4, none⟩ = some (.bool x.ru.expl) := hcb 4 _ rfl
      have u5 : wr.cell? ⟨b, off + k * 7 + 5, none⟩ = some (.bool x.ru.chk) := hcb 5 _ rfl
      have u6 : wr.cell? ⟨b, off + k * 7 + 6, none⟩ = some (.int .i64 x.ru.usage) := hcb 6 _ rfl
      have EA := HCL.out x (.slice p1 x.anc.length q1) (.slice e1 x.ru.pol.length r1) wr H.out.2
      obtain ⟨B, hB⟩ : ∃ b, decide (x.id = id) = b := ⟨_, rfl⟩
      rw [hB] at EA
      have HB : Hid (decide (x.id = id) = B) := hB
      rw [H.out.1] at hst
      have HS : Hid (R = if x.id = id then (k : Int) else planAt (l.drop (k + 1)) id (k + 1)) := hst
      have HW : Hid (Below w.heap.size w wr) := H.out.2
      have hki : (k : Int) < (n : Int) := by omega
      have hk0 : (0 : Int) ≤ (k : Int) := by omega
      clear hcb hcell hPu hus hbB hx hB hst H
      unfold pnV at EA
      go_wp2_with fail
      refine EA.mono ?_
      rintro e w2 ⟨rfl, hb⟩
      have G2 : Hid (Below w.heap.size w w2) := HW.out.trans (hb.mono HW.out.size)
      clear EA hb HW u0 u1 u2 u3 u4 u5 u6
      cases B with
      | true =>
        have HF : Hid (R = (k : Int)) := by show R = (k : Int); rw [HS.out, if_pos (of_decide_eq_true HB.out)]
        go_wp2_with fail
        go_ret
        exact ⟨by rw [HF.out]; rfl, G2.out⟩
      | false =>
        have HF : Hid (planAt (l.drop (k + 1)) id (k + 1) = R) := by show _ = R; rw [HS.out, if_neg (of_decide_eq_false HB.out)]
        go_wp2_with fail
        go_roundw
        case rel => exact ⟨k + 1, by omega, by go_num, HF.out, G2.out⟩
        case measure => simp [intOf]; omega
    · have hkl : n = k := by omega
      subst hkl
      have HF : Hid (R = -1) := by show R = -1; rw [← H.out.1]; exact planAt_end (by rw [HT.out.2]; exact Nat.le_refl _)
      go_wp2_with fail
      go_ret
      exact ⟨by rw [HF.out]; rfl, H.out.2⟩
set_option maxHeartbeats 1600000 in
set_option maxRecDepth 100000 in
theorem implPlanAt_any (l : List Pn) (v : Value) (id : Int) (w : World) (hl : l.length ≤ 1000000000) (ha : AtS pnKd w v l) :
    Calls Try.prog 16 #[v, .int .i64 id] w fun e w' => e = .returned (.int .i64 (planAt l id 0)) ∧ Below w.heap.size w w' := by
  have hmf : ∀ (fn : Fn) (first cap : Array Value) (w : World), (Instr.makeFunc fn first cap).run Try.prog w = .ok (.func fn first cap) w := fun _ _ _ _ => rfl
  obtain ⟨W0, hW0⟩ : ∃ V, V = w.alloc (Obj.cells #[.int .i64 id] 3) := ⟨_, rfl⟩
  have H0 : Hid (Below w.heap.size w W0) := by rw [hW0]; exact (Below.refl _ _).alloc (Nat.le_refl _) _
  have hd : Blk W0 w.heap.size 3 #[.int .i64 id] := by rw [hW0]; exact Blk.new _ _ _
  have EN := indexPlan_any l v w.heap.size id W0 hl (hd.cell 0) (ha.below H0.out)
  obtain ⟨pa, pc, hpa⟩ := ha.shape
  obtain ⟨n, hn⟩ : ∃ z, l.length = z := ⟨_, rfl⟩
  rw [hn] at hpa
  subst hpa
  obtain ⟨R, hR⟩ : ∃ R, planAt l id 0 = R := ⟨_, rfl⟩
  rw [hR] at EN ⊢
  clear hR hn ha hl hd
  go_enter Try.func16, Try.ntmps16
  go_upto_region 1 with fail
  rw [← hW0]
  clear hW0
  go_wp2_with fail
  refine EN.mono ?_
  rintro e w3 ⟨rfl, hb⟩
  have H3 : Hid (Below w.heap.size w w3) := H0.out.trans (hb.mono H0.out.size)
  clear EN hb H0
  go_wp2_with fail
  go_ret
  exact ⟨rfl, H3.out⟩
end Go.Proofs.Ytllmgjfffkhocaa
