/-
  Texts of the proof, one behind the other: StH, CoS, OcI.
-/
import Derived.Maps.OwnSet
import Derived.Maps.OwnOps
import Derived.WalkKit
import Derived.Test.YtfgkpjjjjnollaaGreatDoorST7
import Derived.Test.YtfgkpjjjjnollaaGreatDoorST15
import Derived.Test.YtfgkpjjjjnollaaGreatDoorST22
import Derived.Test.YtfgkpjjjjnollaaGreatDoorST42
import Derived.Test.YtfgkpjjjjnollaaGreatDoorST48
import Derived.Test.YtfgkpjjjjnollaaGreatDoorST49

/-
  The program's hear: what a list tells goes into the map.
-/
namespace Go.Proofs.YtfgkpjjjjnollaaGreatDoor
open Go.RowKit Go.Maps
set_option linter.unusedVariables false
set_option linter.unusedSimpArgs false

theorem law3 : Keyed Tryz.prog 3 := int_keyed Tryz.underlying3
theorem zero3 (w : World) : (zeroValue 3).run Tryz.prog w = .ok (.int .i64 0) w := by kernel_rfl
/-- A map of numbers by numbers. -/
def MapAt (w : World) (b n : Nat) (D : DataW Unit) : Prop := w.ownsMap Tryz.prog 3 (plainElem Tryz.prog 3) b n D
theorem MapAt.below {w w' : World} {b n : Nat} {D : DataW Unit} (h : MapAt w b n D) (hb : Below w.heap.size w w') : MapAt w' b n D :=
  World.ownsMap.kept h ⟨hb.os, hb.tape, hb.output, hb.size, fun k hk _ => hb.block k hk⟩ (row := none) (by simp)
theorem wf_of {x : Int} (h : -9223372036854775808 ≤ x ∧ x ≤ 9223372036854775807) : (Lit.int .i64 x).wf = true := by
  simp [Lit.wf, IntKind.min, IntKind.max, IntKind.signed, IntKind.bits]
  omega
set_option maxHeartbeats 6400000 in
set_option maxRecDepth 100000 in
theorem hear_any (c : Cl) (p : Value) (b n : Nat) (D : DataW Unit) (w : World) (hn : n ≤ 100000000) (hl : c.revs.length ≤ 1048576) (hwd : WdR c.revs) (hm : MapAt w b n D) (ha : ∀ W, Out [b] w W → ClAt W (clV c p) c) :
    Calls Tryz.prog 139 #[.map (some b), clV c p] w fun e w' => e = .returned (.tuple #[]) ∧ MapAt w' b (n + c.revs.length) (hrD D c.revs) ∧ Out [b] w w' := by
  obtain ⟨pa, pc, hp⟩ := (ha w (Out.refl _ _)).shape
  have hp2 : p = .slice pa c.revs.length pc := by
    unfold clV at hp
    injection hp with hp
    have := congrArg (fun a : Array Value => a[5]?) hp
    simpa using this
  obtain ⟨m, hm1⟩ : ∃ m, c.revs.length = m := ⟨_, rfl⟩
  rw [hm1] at hp2 hl ⊢
  subst hp2
  have HA : Hid ((∀ W, Out [b] w W → ClAt W (clV c (.slice pa m pc)) c) ∧ c.revs.length = m ∧ WdR c.revs ∧ MapAt w b n D) := ⟨ha, hm1, hwd, hm⟩
  clear ha hm1 hwd hm hp
  unfold clV
  obtain ⟨W1, hW1⟩ : ∃ V, V = w.alloc (Obj.cells #[.string c.issuer, .int .i64 c.num, .int .i64 c.ths, .int .i64 c.nxt, .int .i64 c.bas, .slice pa m pc, .string c.sig] 49) := ⟨_, rfl⟩
  have HB1 : Hid (Below w.heap.size w W1 ∧ Blk W1 w.heap.size 49 #[.string c.issuer, .int .i64 c.num, .int .i64 c.ths, .int .i64 c.nxt, .int .i64 c.bas, .slice pa m pc, .string c.sig]) := by rw [hW1]; exact ⟨(Below.refl _ _).alloc (Nat.le_refl _) _, Blk.new _ _ _⟩
  go_enter Tryz.func139, Tryz.ntmps139
  go_upto_region 1 with fail
  rw [← hW1]
  clear hW1
  have a5 : W1.cell? ⟨w.heap.size, 5, none⟩ = some (.slice pa m pc) := HB1.out.2.cell 5
  go_wp2_with fail
  clear a5
  go_loopw [9] (fun iv wr => ∃ k : Nat, k ≤ m ∧ iv = .int .i64 k ∧ Hid (MapAt wr b (n + k) (hrD D (c.revs.take k)) ∧ Out [b] w wr)) (fun iv _ => m - (intOf iv).toNat)
  case atStart => exact ⟨0, Nat.zero_le _, rfl, HA.out.2.2.2.below HB1.out.1, Out.of_below HB1.out.1⟩
  case round =>
    clear HB1
    obtain ⟨k, hk, rfl, H⟩ := hrel
    by_cases hkm : k < m
    · have hkl : k < c.revs.length := by rw [HA.out.2.1]; exact hkm
      obtain ⟨p', hp', ao, cap, hv, hc⟩ := HA.out.1 wr H.out.2
      have hpp : p' = .slice pa m pc := by
        unfold clV at hp'
        injection hp' with hp'
        have := congrArg (fun a : Array Value => a[5]?) hp'
        simpa using this.symm
      rw [hpp] at hv
      injection hv with hv1 hv2 hv3
      obtain ⟨g, hg, hgl, c0, c1⟩ := hc k hkl
      have hpa : pa = some ⟨g, 0, none⟩ := hv1.trans hg
      subst hpa
      have hki : (k : Int) < (m : Int) := by omega
      have hk0 : (0 : Int) ≤ (k : Int) := by omega
      have hwk := HA.out.2.2.1 _ (getR_mem hkl)
      have HNX := hrD_next (D := D) hkl
      obtain ⟨s, hs⟩ : ∃ s, (c.revs.getD k (0, 0)).1 = s := ⟨_, rfl⟩
      obtain ⟨r, hr⟩ : ∃ r, (c.revs.getD k (0, 0)).2 = r := ⟨_, rfl⟩
      rw [hs] at c0
      rw [hr] at c1
      rw [hs, hr] at hwk HNX
      have HN : Hid (hrD D (c.revs.take (k + 1)) = if r = 8 then (hrD D (c.revs.take k)).del (.int .i64 s) else (hrD D (c.revs.take k)).put (.int .i64 s) (.lit (.int .i64 r))) := HNX
      obtain ⟨V, hV⟩ : ∃ V, V = wr.alloc (Obj.cells #[.int .i64 s, .int .i64 r] 145) := ⟨_, rfl⟩
      obtain ⟨gx, hgx⟩ : ∃ q, wr.heap.size = q := ⟨_, rfl⟩
      have HV : Hid ((MapAt V b (n + k) (hrD D (c.revs.take k)) ∧ Out [b] w V) ∧ Blk V gx 145 #[.int .i64 s, .int .i64 r]) := by
        have hb : Below wr.heap.size wr V := by rw [hV]; exact (Below.refl _ _).alloc (Nat.le_refl _) _
        exact ⟨⟨H.out.1.below hb, H.out.2.trans (Out.of_below hb)⟩, by rw [hV, ← hgx]; exact Blk.new _ _ _⟩
      have hkey : keyOf Tryz.prog 3 (.int .i64 s) = some (.int .i64 s) := keyOf_int_mk Tryz.underlying3 (wf_of hwk.1)
      have hval := plainElem_int (H := Unit) (P := Tryz.prog) Tryz.underlying3 (wf_of hwk.2)
      clear hc hp' hpp hv1 hv2 hv3 hg hgl HNX hs hr hkl H
      go_upto_region 4 with fail
      rw [← hV]
      try rw [hgx]
      clear hV hgx c0 c1
      have e0 : V.cell? ⟨gx, 0, none⟩ = some (.int .i64 s) := HV.out.2.cell 0
      have e1 : V.cell? ⟨gx, 1, none⟩ = some (.int .i64 r) := HV.out.2.cell 1
      have hown : V.ownsMap Tryz.prog 3 (plainElem Tryz.prog 3) b (n + k) (hrD D (c.revs.take k)) := HV.out.1.1
      by_cases h8 : r = 8
      · have h8b : (r == 8) = true := by rw [h8]; rfl
        have HN2 : Hid (hrD D (c.revs.take (k + 1)) = (hrD D (c.revs.take k)).del (.int .i64 s)) := by show _ = _; rw [HN.out, if_pos h8]
        clear HN
        generalize hrD D (c.revs.take k) = DD at *
        go_wp2_with (at_delete; refine wpList_delete_own _ rfl _ _ 154 3 rfl 3 law3 Tryz.underlying154 _ b (n + k) DD rfl hown _ _ rfl hkey ?_; intro w1 hown1 hturn1)
        have HD : Hid (MapAt w1 b (n + (k + 1)) (hrD D (c.revs.take (k + 1))) ∧ Out [b] w w1) := ⟨by rw [HN2.out]; exact World.ownsMap.mono hown1 (by omega), HV.out.1.2.grown hturn1.grown (fun q hq => by cases hq; exact List.mem_singleton.2 rfl)⟩
        clear hown1 hturn1 hown HV e0 e1
        go_wp2_with fail
        go_roundw
        case rel => exact ⟨k + 1, by omega, by go_num, HD.out⟩
        case measure => simp [intOf]; omega
      · have h8b : (r == 8) = false := beq_eq_false_iff_ne.2 h8
        have HN2 : Hid (hrD D (c.revs.take (k + 1)) = (hrD D (c.revs.take k)).put (.int .i64 s) (.lit (.int .i64 r))) := by show _ = _; rw [HN.out, if_neg h8]
        clear HN
        generalize hrD D (c.revs.take k) = DD at *
        go_wp2_with (at_mapUpdate; refine wpList_mapUpdate_own _ rfl _ _ _ 154 rfl 3 3 law3 Tryz.underlying154 _ b (n + k) DD rfl hown (by unfold maxLen; omega) _ _ _ rfl rfl hkey _ [] hval ?_; intro w1 hown1 hgrow1)
        have HD : Hid (MapAt w1 b (n + (k + 1)) (hrD D (c.revs.take (k + 1))) ∧ Out [b] w w1) := ⟨by rw [HN2.out]; exact hown1, HV.out.1.2.grown hgrow1 (fun q hq => by cases hq; exact List.mem_singleton.2 rfl)⟩
        clear hown1 hgrow1 hown HV e0 e1
        go_wp2_with fail
        go_roundw
        case rel => exact ⟨k + 1, by omega, by go_num, HD.out⟩
        case measure => simp [intOf]; omega
    · have hkl : k = m := by omega
      subst hkl
      have HE : Hid (c.revs.take k = c.revs) := by show _ = _; rw [List.take_of_length_le (by rw [HA.out.2.1]; exact Nat.le_refl _)]
      go_wp2_with fail
      go_end0
      have h := H.out
      rw [HE.out] at h
      exact ⟨rfl, h⟩
end Go.Proofs.YtfgkpjjjjnollaaGreatDoor

/-
  The specification's CrlsOf: those that are believed, in their order.
-/
namespace Go.Proofs.YtfgkpjjjjnollaaGreatDoor
open Go.RowKit Der
set_option linter.unusedVariables false
set_option linter.unusedSimpArgs false

def CS (w0 W : World) (gx : Nat) (cells : Array Value) : Prop := Below w0.heap.size w0 W ∧ Blk W gx 49 cells
theorem CS.below {w0 W W' : World} {gx : Nat} {cells : Array Value} (h : CS w0 W gx cells) (hb : Below W.heap.size W W') : CS w0 W' gx cells := ⟨h.1.trans (hb.mono h.1.size), h.2.below hb h.2.lt⟩
end Go.Proofs.YtfgkpjjjjnollaaGreatDoor

/-
  The program's ownCrl: a list of what was called back, in new memory.
-/
namespace Go.Proofs.YtfgkpjjjjnollaaGreatDoor
open Go.RowKit
set_option linter.unusedVariables false
set_option linter.unusedSimpArgs false

/-- Where ownCrl stands: its own copy, its result. -/
def OC (w W : World) (cells : Array Value) : Prop := Blk W w.heap.size 49 cells ∧ Blk W (w.heap.size + 1) 49 #[.string ⟨#[]⟩, .int .i64 0, .int .i64 0, .int .i64 0, .int .i64 0, .slice none 0 0, .string ⟨#[]⟩] ∧ Below w.heap.size w W ∧ w.heap.size + 2 ≤ W.heap.size
theorem OC.below {w W W' : World} {cells : Array Value} (h : OC w W cells) (hb : Below W.heap.size W W') : OC w W' cells :=
  ⟨h.1.below hb h.1.lt, h.2.1.below hb h.2.1.lt, h.2.2.1.trans (hb.mono h.2.2.1.size), Nat.le_trans h.2.2.2 hb.size⟩
theorem OC.set {w W : World} {cells cells' : Array Value} (h : OC w W cells) (j : Nat) (v : Value) (hc : cells.setIfInBounds j v = cells') : OC w (W.setCell ⟨w.heap.size, j, none⟩ v) cells' :=
  ⟨by rw [← hc]; exact h.1.set j v, h.2.1.other v (by show w.heap.size + 1 ≠ w.heap.size; omega), Below.setCell h.2.2.1 (Nat.le_refl _) _, by have := h.2.2.2; have e := ((Out.refl [w.heap.size] W).setCell ⟨w.heap.size, j, none⟩ v (by simp)).2.2.2.1; omega⟩
theorem OC.grown {w W W' : World} {cells : Array Value} (h : OC w W cells) (hg : W.grownBy W' none) : OC w W' cells :=
  ⟨(hg.block _ h.1.lt (fun e => by cases e)).trans h.1, (hg.block _ h.2.1.lt (fun e => by cases e)).trans h.2.1, h.2.2.1.grown hg h.2.2.1.size (fun b hb => by cases hb), Nat.le_trans h.2.2.2 hg.size⟩
set_option maxHeartbeats 6400000 in
set_option maxRecDepth 100000 in
theorem ownCrl_any (c : Cl) (v : Value) (bs : Nat) (w : World) (hl : c.revs.length ≤ 20000000) (hs1 : c.issuer.size ≤ 1000000000000) (hs2 : c.sig.size ≤ 1000000000000) (ha : OwnL w bs v c) :
    Calls Tryz.prog 131 #[v] w fun e w' => ∃ u, e = .returned u ∧ OwnL w' w.heap.size u c ∧ Below w.heap.size w w' := by
  obtain ⟨pv, rfl, h1⟩ := ha
  obtain ⟨pa, pc, hpv, -, -, -⟩ := OwnR.shape h1
  obtain ⟨lp, hlp⟩ : ∃ l, c.revs.length = l := ⟨_, rfl⟩
  rw [hlp] at hpv
  subst hpv
  have HO : Hid (OwnR w bs (.slice pa lp pc) c.revs ∧ c.revs.length = lp ∧ c.revs.length ≤ 20000000) := ⟨h1, hlp, hl⟩
  clear h1 hlp hl
  unfold clV
  obtain ⟨W0, hW0⟩ : ∃ V, V = w.alloc (Obj.cells #[.string c.issuer, .int .i64 c.num, .int .i64 c.ths, .int .i64 c.nxt, .int .i64 c.bas, .slice pa lp pc, .string c.sig] 49) := ⟨_, rfl⟩
  obtain ⟨W2, hW2⟩ : ∃ V, V = W0.alloc (Obj.cells #[.string ⟨#[]⟩, .int .i64 0, .int .i64 0, .int .i64 0, .int .i64 0, .slice none 0 0, .string ⟨#[]⟩] 49) := ⟨_, rfl⟩
  have hs0 : W0.heap.size = w.heap.size + 1 := by rw [hW0]; exact size_alloc _ _
  have H2 : Hid (OC w W2 #[.string c.issuer, .int .i64 c.num, .int .i64 c.ths, .int .i64 c.nxt, .int .i64 c.bas, .slice pa lp pc, .string c.sig]) := by
    have h1 := Blk.new W0 49 #[.string ⟨#[]⟩, .int .i64 0, .int .i64 0, .int .i64 0, .int .i64 0, .slice none 0 0, .string ⟨#[]⟩]
    rw [hs0] at h1
    rw [hW2]
    refine ⟨?_, h1, ?_, by rw [size_alloc]; omega⟩
    · rw [hW0]
      exact (Blk.new _ _ _).alloc _
    · rw [hW0]
      exact ((Below.refl _ _).alloc (Nat.le_refl _) _).alloc (by rw [size_alloc]; omega) _
  have wd1 : w.heap.size ≠ w.heap.size + 1 := by omega
  go_enter Tryz.func131, Tryz.ntmps131
  go_upto_region 1 with fail
  rw [← hW0, ← hW2]
  try rw [hs0]
  clear hW0 hW2 hs0
  have a0 : W2.cell? ⟨w.heap.size, 0, none⟩ = some (.string c.issuer) := H2.out.1.cell 0
  go_wp2_with fail
  refine (cloneB_any c.issuer W2 hs1).mono ?_
  rintro e w3 ⟨rfl, hb3⟩
  have H3 : Hid (OC w w3 #[.string c.issuer, .int .i64 c.num, .int .i64 c.ths, .int .i64 c.nxt, .int .i64 c.bas, .slice pa lp pc, .string c.sig]) := H2.out.below hb3
  clear H2 hb3 a0
  have a0 : w3.cell? ⟨w.heap.size, 0, none⟩ = some (.string c.issuer) := H3.out.1.cell 0
  have a5 : w3.cell? ⟨w.heap.size, 5, none⟩ = some (.slice pa lp pc) := H3.out.1.cell 5
  have fz := fun i => H3.out.1.free i
  obtain ⟨V3, hV3⟩ : ∃ V, V = w3.setCell ⟨w.heap.size, 0, none⟩ (.string c.issuer) := ⟨_, rfl⟩
  have H4 : Hid (OC w V3 #[.string c.issuer, .int .i64 c.num, .int .i64 c.ths, .int .i64 c.nxt, .int .i64 c.bas, .slice pa lp pc, .string c.sig]) := by rw [hV3]; exact H3.out.set 0 _ rfl
  go_wp2_with (at_builtin; rw [← hV3]; refine wpList_append_revs rfl _ _ rfl (w.heap.size + 2) (.slice none 0 0) 0 [] rfl (World.ownsRow_nil _ _ _ _) _ c.revs bs (HO.out.1.stays H4.out.2.2.1) rfl (by have := HO.out.2.2; omega) H4.out.2.2.2 ?_)
  intro v9 w9 ho9 hg9
  try rw [← hV3] at hg9
  have H9 : Hid (OC w w9 #[.string c.issuer, .int .i64 c.num, .int .i64 c.ths, .int .i64 c.nxt, .int .i64 c.bas, .slice pa lp pc, .string c.sig] ∧ OwnR w9 (w.heap.size + 2) v9 c.revs) := ⟨H4.out.grown hg9, by simpa [OwnR] using ho9⟩
  clear a0 a5 fz hV3 H3 H4 ho9 hg9
  obtain ⟨qa, qc, hq9, -, -, -⟩ := OwnR.shape H9.out.2
  obtain ⟨ql, hql⟩ : ∃ l, c.revs.length = l := ⟨_, rfl⟩
  rw [hql] at hq9
  clear hql
  subst hq9
  have a5 : w9.cell? ⟨w.heap.size, 5, none⟩ = some (.slice pa lp pc) := H9.out.1.1.cell 5
  have a6 : w9.cell? ⟨w.heap.size, 6, none⟩ = some (.string c.sig) := H9.out.1.1.cell 6
  have fz := fun i => H9.out.1.1.free i
  obtain ⟨V5, hV5⟩ : ∃ V, V = w9.setCell ⟨w.heap.size, 5, none⟩ (.slice qa ql qc) := ⟨_, rfl⟩
  have H5 : Hid (OC w V5 #[.string c.issuer, .int .i64 c.num, .int .i64 c.ths, .int .i64 c.nxt, .int .i64 c.bas, .slice qa ql qc, .string c.sig] ∧ OwnR V5 (w.heap.size + 2) (.slice qa ql qc) c.revs) := by
    rw [hV5]
    exact ⟨H9.out.1.set 5 _ rfl, row_same H9.out.2 (fun g hg => heap_setCell_other _ _ _ _ (by have := (World.ownsRow.lt H9.out.2 g hg).1; show g ≠ w.heap.size; omega))⟩
  go_wp2_with fail
  rw [← hV5]
  clear hV5 a5 a6 fz H9
  refine (cloneB_any c.sig V5 hs2).mono ?_
  rintro e w6 ⟨rfl, hb6⟩
  have H6 : Hid (OC w w6 #[.string c.issuer, .int .i64 c.num, .int .i64 c.ths, .int .i64 c.nxt, .int .i64 c.bas, .slice qa ql qc, .string c.sig] ∧ OwnR w6 (w.heap.size + 2) (.slice qa ql qc) c.revs) := ⟨H5.out.1.below hb6, H5.out.2.stays hb6⟩
  clear hb6 H5
  have d0 : w6.cell? ⟨w.heap.size, 0, none⟩ = some (.string c.issuer) := H6.out.1.1.cell 0
  have d1 : w6.cell? ⟨w.heap.size, 1, none⟩ = some (.int .i64 c.num) := H6.out.1.1.cell 1
  have d2 : w6.cell? ⟨w.heap.size, 2, none⟩ = some (.int .i64 c.ths) := H6.out.1.1.cell 2
  have d3 : w6.cell? ⟨w.heap.size, 3, none⟩ = some (.int .i64 c.nxt) := H6.out.1.1.cell 3
  have d4 : w6.cell? ⟨w.heap.size, 4, none⟩ = some (.int .i64 c.bas) := H6.out.1.1.cell 4
  have d5 : w6.cell? ⟨w.heap.size, 5, none⟩ = some (.slice qa ql qc) := H6.out.1.1.cell 5
  have d6 : w6.cell? ⟨w.heap.size, 6, none⟩ = some (.string c.sig) := H6.out.1.1.cell 6
  have b0 : w6.cell? ⟨w.heap.size + 1, 0, none⟩ = some (.string ⟨#[]⟩) := H6.out.1.2.1.cell 0
  have b1 : w6.cell? ⟨w.heap.size + 1, 1, none⟩ = some (.int .i64 0) := H6.out.1.2.1.cell 1
  have b2 : w6.cell? ⟨w.heap.size + 1, 2, none⟩ = some (.int .i64 0) := H6.out.1.2.1.cell 2
  have b3 : w6.cell? ⟨w.heap.size + 1, 3, none⟩ = some (.int .i64 0) := H6.out.1.2.1.cell 3
  have b4 : w6.cell? ⟨w.heap.size + 1, 4, none⟩ = some (.int .i64 0) := H6.out.1.2.1.cell 4
  have b5 : w6.cell? ⟨w.heap.size + 1, 5, none⟩ = some (.slice none 0 0) := H6.out.1.2.1.cell 5
  have b6 : w6.cell? ⟨w.heap.size + 1, 6, none⟩ = some (.string ⟨#[]⟩) := H6.out.1.2.1.cell 6
  have fd := fun i => H6.out.1.1.free i
  have fb := fun i => H6.out.1.2.1.free i
  go_wp2_with fail
  refine bodyPost_ret (v := clV c (.slice qa ql qc)) (by simp [results, Tryz.results131, go_sem, clV, b0, b1, b2, b3, b4, b5, b6]) rfl ⟨_, rfl, ⟨_, rfl, OwnR.base (row_same H6.out.2 ?far) (by omega)⟩, ?bel⟩
  case far =>
    intro b hb
    have h2 := (World.ownsRow.lt H6.out.2 b hb).1
    iterate 8 rw [heap_setCell_other _ _ _ _ (by first | (show b ≠ w.heap.size + 1; omega) | (show b ≠ w.heap.size; omega))]
  case bel =>
    iterate 8 refine Below.setCell ?_ (by first | (show w.heap.size ≤ w.heap.size + 1; omega) | (show w.heap.size ≤ w.heap.size; omega)) _
    exact H6.out.1.2.2.1
end Go.Proofs.YtfgkpjjjjnollaaGreatDoor
