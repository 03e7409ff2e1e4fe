/-
  The program's Merged.
-/
import Derived.Test.YtllmgjfffkhocaaPnQ
namespace Go.Proofs.Ytllmgjfffkhocaa
open Go.RowKit
set_option linter.unusedVariables false
set_option linter.unusedSimpArgs false

set_option maxHeartbeats 3200000 in
set_option maxRecDepth 100000 in
theorem implMerged_any (c : Pn) (d : Ak) (now : Int) (v u : Value) (bs : Nat) (w : World) (hl : c.ru.pol.length ≤ 20000000) (hp : OwnPn w bs v c) (hd : AkAt w u d) :
    Calls Try.prog 22 #[v, u, .int .i64 now] w fun e w' => ∃ x, e = .returned x ∧ OwnU w' w.heap.size x (merged c d now) ∧ Below w.heap.size w w' := by
  obtain ⟨i0, hi, hz0, hz1, hz2⟩ := info_parts info3
  obtain ⟨pv, ev, rfl, k1, k2, _⟩ := hp
  obtain ⟨qv, rfl, hq⟩ := hd
  obtain ⟨ap, cp, hpv⟩ : ∃ ao cap, pv = .slice ao c.anc.length cap := by obtain ⟨ao, cap, h, _⟩ := k1.at; exact ⟨ao, cap, h⟩
  obtain ⟨ae, ce, hev⟩ : ∃ ao cap, ev = .slice ao c.ru.pol.length cap := by obtain ⟨ao, cap, h, _⟩ := k2.at; exact ⟨ao, cap, h⟩
  obtain ⟨aq, cq, hqv, _⟩ := hq
  obtain ⟨lp, hlp⟩ : ∃ l, c.anc.length = l := ⟨_, rfl⟩
  obtain ⟨le, hle⟩ : ∃ l, c.ru.pol.length = l := ⟨_, rfl⟩
  obtain ⟨lq, hlq⟩ : ∃ l, d.tg.length = l := ⟨_, rfl⟩
  rw [hlp] at hpv
  rw [hle] at hev
  rw [hlq] at hqv
  subst hpv hev hqv
  have HO : Hid (OwnI w bs (.slice ae le ce) c.ru.pol ∧ c.ru.pol.length = le ∧ c.ru.pol.length ≤ 20000000) := ⟨k2, hle, hl⟩
  clear k1 k2 hlp hle hlq hl
  unfold pnV akV
  go_enter Try.func22, Try.ntmps22
  obtain ⟨W4, hW4⟩ : ∃ W, W = ((((w.alloc (Obj.cells #[.int .i64 c.id, .slice ap lp cp, .int .i64 c.ru.time, .slice ae le ce, .bool c.ru.expl, .bool c.ru.chk, .int .i64 c.ru.usage] 57)).alloc (Obj.cells #[.slice aq lq cq, .int .i64 d.plan, .int .i64 d.want, .int .i64 d.nonce, .int .i64 d.time, .bool d.cac] 59)).alloc (Obj.cells #[.int .i64 0, .slice none 0 0, .bool false, .bool false, .int .i64 0] 54)).alloc (Obj.cells #[.int .i64 c.ru.time, .slice ae le ce, .bool c.ru.expl, .bool c.ru.chk, .int .i64 c.ru.usage] 54)) := ⟨_, rfl⟩
  have e0 : (w.alloc (Obj.cells #[.int .i64 c.id, .slice ap lp cp, .int .i64 c.ru.time, .slice ae le ce, .bool c.ru.expl, .bool c.ru.chk, .int .i64 c.ru.usage] 57)).heap.size = w.heap.size + 1 := Array.size_push _
  have e1 : ((w.alloc (Obj.cells #[.int .i64 c.id, .slice ap lp cp, .int .i64 c.ru.time, .slice ae le ce, .bool c.ru.expl, .bool c.ru.chk, .int .i64 c.ru.usage] 57)).alloc (Obj.cells #[.slice aq lq cq, .int .i64 d.plan, .int .i64 d.want, .int .i64 d.nonce, .int .i64 d.time, .bool d.cac] 59)).heap.size = w.heap.size + 1 + 1 := by rw [size_alloc, e0]
  have e2 : (((w.alloc (Obj.cells #[.int .i64 c.id, .slice ap lp cp, .int .i64 c.ru.time, .slice ae le ce, .bool c.ru.expl, .bool c.ru.chk, .int .i64 c.ru.usage] 57)).alloc (Obj.cells #[.slice aq lq cq, .int .i64 d.plan, .int .i64 d.want, .int .i64 d.nonce, .int .i64 d.time, .bool d.cac] 59)).alloc (Obj.cells #[.int .i64 0, .slice none 0 0, .bool false, .bool false, .int .i64 0] 54)).heap.size = w.heap.size + 1 + 1 + 1 := by rw [size_alloc, e1]
  have G0 : Hid ((Blk W4 (w.heap.size) 57 #[.int .i64 c.id, .slice ap lp cp, .int .i64 c.ru.time, .slice ae le ce, .bool c.ru.expl, .bool c.ru.chk, .int .i64 c.ru.usage] ∧ Blk W4 (w.heap.size + 1) 59 #[.slice aq lq cq, .int .i64 d.plan, .int .i64 d.want, .int .i64 d.nonce, .int .i64 d.time, .bool d.cac] ∧ Blk W4 (w.heap.size + 1 + 1) 54 #[.int .i64 0, .slice none 0 0, .bool false, .bool false, .int .i64 0] ∧ Blk W4 (w.heap.size + 1 + 1 + 1) 54 #[.int .i64 c.ru.time, .slice ae le ce, .bool c.ru.expl, .bool c.ru.chk, .int .i64 c.ru.usage] ∧ Below w.heap.size w W4 ∧ w.heap.size + 4 ≤ W4.heap.size) ∧ W4.heap.size = w.heap.size + 1 + 1 + 1 + 1) := by
    rw [hW4]
    refine ⟨⟨(((Blk.new w _ _).alloc _).alloc _).alloc _, ?_, ?_, ?_, ((((Below.refl _ _).alloc (Nat.le_refl _) _).alloc (by rw [e0]; omega) _).alloc (by rw [e1]; omega) _).alloc (by rw [e2]; omega) _, by rw [size_alloc, e2]; omega⟩, by rw [size_alloc, e2]⟩
    · have h := (Blk.new (w.alloc (Obj.cells #[.int .i64 c.id, .slice ap lp cp, .int .i64 c.ru.time, .slice ae le ce, .bool c.ru.expl, .bool c.ru.chk, .int .i64 c.ru.usage] 57)) 59 #[.slice aq lq cq, .int .i64 d.plan, .int .i64 d.want, .int .i64 d.nonce, .int .i64 d.time, .bool d.cac]).alloc (Obj.cells #[.int .i64 0, .slice none 0 0, .bool false, .bool false, .int .i64 0] 54)
      rw [e0] at h
      exact h.alloc _
    · have h := (Blk.new ((w.alloc (Obj.cells #[.int .i64 c.id, .slice ap lp cp, .int .i64 c.ru.time, .slice ae le ce, .bool c.ru.expl, .bool c.ru.chk, .int .i64 c.ru.usage] 57)).alloc (Obj.cells #[.slice aq lq cq, .int .i64 d.plan, .int .i64 d.want, .int .i64 d.nonce, .int .i64 d.time, .bool d.cac] 59)) 54 #[.int .i64 0, .slice none 0 0, .bool false, .bool false, .int .i64 0]).alloc (Obj.cells #[.int .i64 c.ru.time, .slice ae le ce, .bool c.ru.expl, .bool c.ru.chk, .int .i64 c.ru.usage] 54)
      rw [e1] at h
      exact h
    · have h := Blk.new (((w.alloc (Obj.cells #[.int .i64 c.id, .slice ap lp cp, .int .i64 c.ru.time, .slice ae le ce, .bool c.ru.expl, .bool c.ru.chk, .int .i64 c.ru.usage] 57)).alloc (Obj.cells #[.slice aq lq cq, .int .i64 d.plan, .int .i64 d.want, .int .i64 d.nonce, .int .i64 d.time, .bool d.cac] 59)).alloc (Obj.cells #[.int .i64 0, .slice none 0 0, .bool false, .bool false, .int .i64 0] 54)) 54 #[.int .i64 c.ru.time, .slice ae le ce, .bool c.ru.expl, .bool c.ru.chk, .int .i64 c.ru.usage]
      rw [e2] at h
      exact h
  have H5 : Hid ((Blk W4 (w.heap.size) 57 #[.int .i64 c.id, .slice ap lp cp, .int .i64 c.ru.time, .slice ae le ce, .bool c.ru.expl, .bool c.ru.chk, .int .i64 c.ru.usage] ∧ Blk W4 (w.heap.size + 1) 59 #[.slice aq lq cq, .int .i64 d.plan, .int .i64 d.want, .int .i64 d.nonce, .int .i64 d.time, .bool d.cac] ∧ Blk W4 (w.heap.size + 1 + 1) 54 #[.int .i64 0, .slice none 0 0, .bool false, .bool false, .int .i64 0] ∧ Blk W4 (w.heap.size + 1 + 1 + 1) 54 #[.int .i64 c.ru.time, .slice ae le ce, .bool c.ru.expl, .bool c.ru.chk, .int .i64 c.ru.usage] ∧ Below w.heap.size w W4 ∧ w.heap.size + 4 ≤ W4.heap.size) ∧ OwnI W4 bs (.slice ae le ce) c.ru.pol) := by
    have hG := G0.out.1
    exact ⟨hG, HO.out.1.stays hG.2.2.2.2.1⟩
  clear G0 e0 e1 e2
  have a3 : W4.cell? ⟨w.heap.size, 3, none⟩ = some (.slice ae le ce) := H5.out.1.1.cell 3
  go_wp2_with (at_builtin; rw [← hW4]; refine wpList_append_ints2 rfl _ _ 44 rfl (w.heap.size + 4) i0 Try.underlying44 hi hz0 hz1 hz2 (.slice none 0 0) 0 [] rfl (World.ownsRow_nil _ _ _ _) (.slice ae le ce) c.ru.pol bs H5.out.2 rfl (by have := HO.out.2.2; omega) H5.out.1.2.2.2.2.2 ?_)
  intro v9 w9 ho9 hg9
  try rw [← hW4] at hg9
  have H9 : Hid ((Blk w9 (w.heap.size) 57 #[.int .i64 c.id, .slice ap lp cp, .int .i64 c.ru.time, .slice ae le ce, .bool c.ru.expl, .bool c.ru.chk, .int .i64 c.ru.usage] ∧ Blk w9 (w.heap.size + 1) 59 #[.slice aq lq cq, .int .i64 d.plan, .int .i64 d.want, .int .i64 d.nonce, .int .i64 d.time, .bool d.cac] ∧ Blk w9 (w.heap.size + 1 + 1) 54 #[.int .i64 0, .slice none 0 0, .bool false, .bool false, .int .i64 0] ∧ Blk w9 (w.heap.size + 1 + 1 + 1) 54 #[.int .i64 c.ru.time, .slice ae le ce, .bool c.ru.expl, .bool c.ru.chk, .int .i64 c.ru.usage] ∧ Below w.heap.size w w9 ∧ w.heap.size + 4 ≤ w9.heap.size) ∧ OwnI w9 (w.heap.size + 4) v9 c.ru.pol) := by
    have hrl : ∀ b, (none : Option Nat) = some b → w.heap.size + 4 ≤ b := fun b hb => by cases hb
    have hH := H5.out.1
    refine ⟨⟨(hg9.block _ hH.1.lt (fun e => by have := hrl _ e.symm; omega)).trans hH.1, (hg9.block _ hH.2.1.lt (fun e => by have := hrl _ e.symm; omega)).trans hH.2.1, (hg9.block _ hH.2.2.1.lt (fun e => by have := hrl _ e.symm; omega)).trans hH.2.2.1, (hg9.block _ hH.2.2.2.1.lt (fun e => by have := hrl _ e.symm; omega)).trans hH.2.2.2.1, hH.2.2.2.2.1.grown hg9 hH.2.2.2.2.1.size (fun b hb => by have := hrl b hb; omega), Nat.le_trans hH.2.2.2.2.2 hg9.size⟩, ?_⟩
    simpa [OwnI] using ho9
  clear ho9 hg9 H5 a3
  obtain ⟨qa, qc, hq9⟩ : ∃ ao cap, v9 = .slice ao c.ru.pol.length cap := by obtain ⟨ao, cap, h, _⟩ := H9.out.2.at; exact ⟨ao, cap, h⟩
  obtain ⟨ql, hql⟩ : ∃ l, c.ru.pol.length = l := ⟨_, rfl⟩
  rw [hql] at hq9
  clear hql
  subst hq9
  have b0 : w9.cell? ⟨w.heap.size + 1 + 1, 0, none⟩ = some (.int .i64 0) := H9.out.1.2.2.1.cell 0
  have d0 : w9.cell? ⟨w.heap.size + 1 + 1 + 1, 0, none⟩ = some (.int .i64 c.ru.time) := H9.out.1.2.2.2.1.cell 0
  have b1 : w9.cell? ⟨w.heap.size + 1 + 1, 1, none⟩ = some (.slice none 0 0) := H9.out.1.2.2.1.cell 1
  have d1 : w9.cell? ⟨w.heap.size + 1 + 1 + 1, 1, none⟩ = some (.slice ae le ce) := H9.out.1.2.2.2.1.cell 1
  have b2 : w9.cell? ⟨w.heap.size + 1 + 1, 2, none⟩ = some (.bool false) := H9.out.1.2.2.1.cell 2
  have d2 : w9.cell? ⟨w.heap.size + 1 + 1 + 1, 2, none⟩ = some (.bool c.ru.expl) := H9.out.1.2.2.2.1.cell 2
  have b3 : w9.cell? ⟨w.heap.size + 1 + 1, 3, none⟩ = some (.bool false) := H9.out.1.2.2.1.cell 3
  have d3 : w9.cell? ⟨w.heap.size + 1 + 1 + 1, 3, none⟩ = some (.bool c.ru.chk) := H9.out.1.2.2.2.1.cell 3
  have b4 : w9.cell? ⟨w.heap.size + 1 + 1, 4, none⟩ = some (.int .i64 0) := H9.out.1.2.2.1.cell 4
  have d4 : w9.cell? ⟨w.heap.size + 1 + 1 + 1, 4, none⟩ = some (.int .i64 c.ru.usage) := H9.out.1.2.2.2.1.cell 4
  have t4 : w9.cell? ⟨w.heap.size + 1, 4, none⟩ = some (.int .i64 d.time) := H9.out.1.2.1.cell 4
  have fb := fun j => H9.out.1.2.2.1.free j
  have fd := fun j => H9.out.1.2.2.2.1.free j
  have wd1 : w.heap.size + 1 ≠ w.heap.size + 1 + 1 + 1 := by omega
  have wd2 : w.heap.size + 1 + 1 ≠ w.heap.size + 1 + 1 + 1 := by omega
  have wd3 : w.heap.size + 1 ≠ w.heap.size + 1 + 1 := by omega
  by_cases hz : d.time = 0
  rotate_left
  · have HM : Hid (merged c d now = { c.ru with time := d.time }) := by show merged c d now = _; unfold merged; rw [if_neg hz]
    have hzb : (d.time == 0) = false := beq_eq_false_iff_ne.2 hz
    go_wp2_with fail
    refine bodyPost_ret (v := ruV (merged c d now) (.slice qa ql qc)) (by rw [HM.out]; simp [results, Try.results22, go_sem, ruV, b0, b1, b2, b3, b4]) rfl ⟨_, rfl, ⟨_, rfl, (H9.out.2.block ?far).base (by omega)⟩, ?bel⟩
    case far =>
      intro b hb
      iterate 7 rw [heap_setCell_other _ _ _ _ (by first | (show b ≠ w.heap.size + 1 + 1; omega) | (show b ≠ w.heap.size + 1 + 1 + 1; omega))]
    case bel =>
      iterate 7 refine Below.setCell ?_ (by first | (show w.heap.size ≤ w.heap.size + 1 + 1; omega) | (show w.heap.size ≤ w.heap.size + 1 + 1 + 1; omega)) _
      exact H9.out.1.2.2.2.2.1
  · have HM : Hid (merged c d now = { c.ru with time := now }) := by show merged c d now = _; unfold merged; rw [if_pos hz]
    rw [hz] at t4
    clear hz
    go_upto_region 6 with fail
    obtain ⟨V, hV⟩ : ∃ V, V = ((w9.setCell ⟨w.heap.size + 1 + 1 + 1, 1, none⟩ (.slice qa ql qc)).setCell ⟨w.heap.size + 1 + 1 + 1, 0, none⟩ (.int .i64 0)).setCell ⟨w.heap.size + 1 + 1 + 1, 0, none⟩ (.int .i64 now) := ⟨_, rfl⟩
    rw [← hV]
    have HV : Hid (Blk V (w.heap.size + 1 + 1) 54 #[.int .i64 0, .slice none 0 0, .bool false, .bool false, .int .i64 0] ∧ Blk V (w.heap.size + 1 + 1 + 1) 54 #[.int .i64 now, .slice qa ql qc, .bool c.ru.expl, .bool c.ru.chk, .int .i64 c.ru.usage] ∧ Below w.heap.size w V ∧ OwnI V (w.heap.size + 4) (.slice qa ql qc) c.ru.pol) := by
      have n2 : w.heap.size + 1 + 1 ≠ w.heap.size + 1 + 1 + 1 := by omega
      rw [hV]
      refine ⟨((H9.out.1.2.2.1.other (p := ⟨w.heap.size + 1 + 1 + 1, 1, none⟩) _ n2).other (p := ⟨w.heap.size + 1 + 1 + 1, 0, none⟩) _ n2).other (p := ⟨w.heap.size + 1 + 1 + 1, 0, none⟩) _ n2, ((H9.out.1.2.2.2.1.set 1 _).set 0 _).set 0 _, ((Below.setCell H9.out.1.2.2.2.2.1 (by show w.heap.size ≤ w.heap.size + 1 + 1 + 1; omega) _).setCell (by show w.heap.size ≤ w.heap.size + 1 + 1 + 1; omega) _).setCell (by show w.heap.size ≤ w.heap.size + 1 + 1 + 1; omega) _, ?_⟩
      refine row_same H9.out.2 fun b hb => ?_
      have hb2 := (World.ownsRow.lt H9.out.2 b hb).1
      iterate 3 rw [heap_setCell_other _ _ _ _ (by show b ≠ w.heap.size + 1 + 1 + 1; omega)]
    clear b0 d0 b1 d1 b2 d2 b3 d3 b4 d4 t4 fb fd hV
    have b0 : V.cell? ⟨w.heap.size + 1 + 1, 0, none⟩ = some (.int .i64 0) := HV.out.1.cell 0
    have d0 : V.cell? ⟨w.heap.size + 1 + 1 + 1, 0, none⟩ = some (.int .i64 now) := HV.out.2.1.cell 0
    have b1 : V.cell? ⟨w.heap.size + 1 + 1, 1, none⟩ = some (.slice none 0 0) := HV.out.1.cell 1
    have d1 : V.cell? ⟨w.heap.size + 1 + 1 + 1, 1, none⟩ = some (.slice qa ql qc) := HV.out.2.1.cell 1
    have b2 : V.cell? ⟨w.heap.size + 1 + 1, 2, none⟩ = some (.bool false) := HV.out.1.cell 2
    have d2 : V.cell? ⟨w.heap.size + 1 + 1 + 1, 2, none⟩ = some (.bool c.ru.expl) := HV.out.2.1.cell 2
    have b3 : V.cell? ⟨w.heap.size + 1 + 1, 3, none⟩ = some (.bool false) := HV.out.1.cell 3
    have d3 : V.cell? ⟨w.heap.size + 1 + 1 + 1, 3, none⟩ = some (.bool c.ru.chk) := HV.out.2.1.cell 3
    have b4 : V.cell? ⟨w.heap.size + 1 + 1, 4, none⟩ = some (.int .i64 0) := HV.out.1.cell 4
    have d4 : V.cell? ⟨w.heap.size + 1 + 1 + 1, 4, none⟩ = some (.int .i64 c.ru.usage) := HV.out.2.1.cell 4
    have fb := fun j => HV.out.1.free j
    go_wp2_with fail
    refine bodyPost_ret (v := ruV (merged c d now) (.slice qa ql qc)) (by rw [HM.out]; simp [results, Try.results22, go_sem, ruV, b0, b1, b2, b3, b4]) rfl ⟨_, rfl, ⟨_, rfl, (HV.out.2.2.2.block ?far).base (by omega)⟩, ?bel⟩
    case far =>
      intro b hb
      iterate 5 rw [heap_setCell_other _ _ _ _ (by first | (show b ≠ w.heap.size + 1 + 1; omega) | (show b ≠ w.heap.size + 1 + 1 + 1; omega))]
    case bel =>
      iterate 5 refine Below.setCell ?_ (by first | (show w.heap.size ≤ w.heap.size + 1 + 1; omega) | (show w.heap.size ≤ w.heap.size + 1 + 1 + 1; omega)) _
      exact HV.out.2.2.1
end Go.Proofs.Ytllmgjfffkhocaa
