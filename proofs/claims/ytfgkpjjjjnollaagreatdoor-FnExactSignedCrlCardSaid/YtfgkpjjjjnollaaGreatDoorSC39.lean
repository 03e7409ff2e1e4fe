/-
  Texts of the proof, one behind the other: OcI, ClZ, ClL.
-/
import Derived.Deep.RegionHeld3
import Derived.Test.YtfgkpjjjjnollaaGreatDoorSC4
import Derived.Test.YtfgkpjjjjnollaaGreatDoorSC8
import Derived.Test.YtfgkpjjjjnollaaGreatDoorSC9
import Derived.Test.YtfgkpjjjjnollaaGreatDoorSC12
import Derived.Test.YtfgkpjjjjnollaaGreatDoorSC37
import Derived.Test.YtfgkpjjjjnollaaGreatDoorSC38

/-
  The program's ownCrl: a list of what was called back, in new memory.
-/
namespace Go.Proofs.YtfgkpjjjjnollaaGreatDoor
open Go.RowKit
set_option linter.unusedVariables false
set_option linter.unusedSimpArgs false

/-- Where ownCrl stands: its own copy, its result. -/
def OC (w W : World) (cells : Array Value) : Prop := Blk W w.heap.size 49 cells ∧ Blk W (w.heap.size + 1) 49 #[.string ⟨#[]⟩, .int .i64 0, .int .i64 0, .int .i64 0, .int .i64 0, .slice none 0 0, .string ⟨#[]⟩] ∧ Below w.heap.size w W ∧ w.heap.size + 2 ≤ W.heap.size
theorem OC.below {w W W' : World} {cells : Array Value} (h : OC w W cells) (hb : Below W.heap.size W W') : OC w W' cells :=
  ⟨h.1.below hb h.1.lt, h.2.1.below hb h.2.1.lt, h.2.2.1.trans (hb.mono h.2.2.1.size), Nat.le_trans h.2.2.2 hb.size⟩
theorem OC.set {w W : World} {cells cells' : Array Value} (h : OC w W cells) (j : Nat) (v : Value) (hc : cells.setIfInBounds j v = cells') : OC w (W.setCell ⟨w.heap.size, j, none⟩ v) cells' :=
  ⟨by rw [← hc]; exact h.1.set j v, h.2.1.other v (by show w.heap.size + 1 ≠ w.heap.size; omega), Below.setCell h.2.2.1 (Nat.le_refl _) _, by have := h.2.2.2; have e := ((Out.refl [w.heap.size] W).setCell ⟨w.heap.size, j, none⟩ v (by simp)).2.2.2.1; omega⟩
theorem OC.grown {w W W' : World} {cells : Array Value} (h : OC w W cells) (hg : W.grownBy W' none) : OC w W' cells :=
  ⟨(hg.block _ h.1.lt (fun e => by cases e)).trans h.1, (hg.block _ h.2.1.lt (fun e => by cases e)).trans h.2.1, h.2.2.1.grown hg h.2.2.1.size (fun b hb => by cases hb), Nat.le_trans h.2.2.2 hg.size⟩
set_option maxHeartbeats 6400000 in
set_option maxRecDepth 100000 in
theorem ownCrl_any (c : Cl) (v : Value) (bs : Nat) (w : World) (hl : c.revs.length ≤ 20000000) (hs1 : c.issuer.size ≤ 1000000000000) (hs2 : c.sig.size ≤ 1000000000000) (ha : OwnL w bs v c) :
    Calls Tryz.prog 131 #[v] w fun e w' => ∃ u, e = .returned u ∧ OwnL w' w.heap.size u c ∧ Below w.heap.size w w' := by
  obtain ⟨pv, rfl, h1⟩ := ha
  obtain ⟨pa, pc, hpv, -, -, -⟩ := OwnR.shape h1
  obtain ⟨lp, hlp⟩ : ∃ l, c.revs.length = l := ⟨_, rfl⟩
  rw [hlp] at hpv
  subst hpv
  have HO : Hid (OwnR w bs (.slice pa lp pc) c.revs ∧ c.revs.length = lp ∧ c.revs.length ≤ 20000000) := ⟨h1, hlp, hl⟩
  clear h1 hlp hl
  unfold clV
  obtain ⟨W0, hW0⟩ : ∃ V, V = w.alloc (Obj.cells #[.string c.issuer, .int .i64 c.num, .int .i64 c.ths, .int .i64 c.nxt, .int .i64 c.bas, .slice pa lp pc, .string c.sig] 49) := ⟨_, rfl⟩
  obtain ⟨W2, hW2⟩ : ∃ V, V = W0.alloc (Obj.cells #[.string ⟨#[]⟩, .int .i64 0, .int .i64 0, .int .i64 0, .int .i64 0, .slice none 0 0, .string ⟨#[]⟩] 49) := ⟨_, rfl⟩
  have hs0 : W0.heap.size = w.heap.size + 1 := by rw [hW0]; exact size_alloc _ _
  have H2 : Hid (OC w W2 #[.string c.issuer, .int .i64 c.num, .int .i64 c.ths, .int .i64 c.nxt, .int .i64 c.bas, .slice pa lp pc, .string c.sig]) := by
    have h1 := Blk.new W0 49 #[.string ⟨#[]⟩, .int .i64 0, .int .i64 0, .int .i64 0, .int .i64 0, .slice none 0 0, .string ⟨#[]⟩]
    rw [hs0] at h1
    rw [hW2]
    refine ⟨?_, h1, ?_, by rw [size_alloc]; omega⟩
    · rw [hW0]
      exact (Blk.new _ _ _).alloc _
    · rw [hW0]
      exact ((Below.refl _ _).alloc (Nat.le_refl _) _).alloc (by rw [size_alloc]; omega) _
  have wd1 : w.heap.size ≠ w.heap.size + 1 := by omega
  go_enter Tryz.func131, Tryz.ntmps131
  go_upto_region 1 with fail
  rw [← hW0, ← hW2]
  try rw [hs0]
  clear hW0 hW2 hs0
  have a0 : W2.cell? ⟨w.heap.size, 0, none⟩ = some (.string c.issuer) := H2.out.1.cell 0
  go_wp2_with fail
  refine (cloneB_any c.issuer W2 hs1).mono ?_
  rintro e w3 ⟨rfl, hb3⟩
  have H3 : Hid (OC w w3 #[.string c.issuer, .int .i64 c.num, .int .i64 c.ths, .int .i64 c.nxt, .int .i64 c.bas, .slice pa lp pc, .string c.sig]) := H2.out.below hb3
  clear H2 hb3 a0
  have a0 : w3.cell? ⟨w.heap.size, 0, none⟩ = some (.string c.issuer) := H3.out.1.cell 0
  have a5 : w3.cell? ⟨w.heap.size, 5, none⟩ = some (.slice pa lp pc) := H3.out.1.cell 5
  have fz := fun i => H3.out.1.free i
  obtain ⟨V3, hV3⟩ : ∃ V, V = w3.setCell ⟨w.heap.size, 0, none⟩ (.string c.issuer) := ⟨_, rfl⟩
  have H4 : Hid (OC w V3 #[.string c.issuer, .int .i64 c.num, .int .i64 c.ths, .int .i64 c.nxt, .int .i64 c.bas, .slice pa lp pc, .string c.sig]) := by rw [hV3]; exact H3.out.set 0 _ rfl
  go_wp2_with (at_builtin; rw [← hV3]; refine wpList_append_revs rfl _ _ rfl (w.heap.size + 2) (.slice none 0 0) 0 [] rfl (World.ownsRow_nil _ _ _ _) _ c.revs bs (HO.out.1.stays H4.out.2.2.1) rfl (by have := HO.out.2.2; omega) H4.out.2.2.2 ?_)
  intro v9 w9 ho9 hg9
  try rw [← hV3] at hg9
  have H9 : Hid (OC w w9 #[.string c.issuer, .int .i64 c.num, .int .i64 c.ths, .int .i64 c.nxt, .int .i64 c.bas, .slice pa lp pc, .string c.sig] ∧ OwnR w9 (w.heap.size + 2) v9 c.revs) := ⟨H4.out.grown hg9, by simpa [OwnR] using ho9⟩
  clear a0 a5 fz hV3 H3 H4 ho9 hg9
  obtain ⟨qa, qc, hq9, -, -, -⟩ := OwnR.shape H9.out.2
  obtain ⟨ql, hql⟩ : ∃ l, c.revs.length = l := ⟨_, rfl⟩
  rw [hql] at hq9
  clear hql
  subst hq9
  have a5 : w9.cell? ⟨w.heap.size, 5, none⟩ = some (.slice pa lp pc) := H9.out.1.1.cell 5
  have a6 : w9.cell? ⟨w.heap.size, 6, none⟩ = some (.string c.sig) := H9.out.1.1.cell 6
  have fz := fun i => H9.out.1.1.free i
  obtain ⟨V5, hV5⟩ : ∃ V, V = w9.setCell ⟨w.heap.size, 5, none⟩ (.slice qa ql qc) := ⟨_, rfl⟩
  have H5 : Hid (OC w V5 #[.string c.issuer, .int .i64 c.num, .int .i64 c.ths, .int .i64 c.nxt, .int .i64 c.bas, .slice qa ql qc, .string c.sig] ∧ OwnR V5 (w.heap.size + 2) (.slice qa ql qc) c.revs) := by
    rw [hV5]
    exact ⟨H9.out.1.set 5 _ rfl, row_same H9.out.2 (fun g hg => heap_setCell_other _ _ _ _ (by have := (World.ownsRow.lt H9.out.2 g hg).1; show g ≠ w.heap.size; omega))⟩
  go_wp2_with fail
  rw [← hV5]
  clear hV5 a5 a6 fz H9
  refine (cloneB_any c.sig V5 hs2).mono ?_
  rintro e w6 ⟨rfl, hb6⟩
  have H6 : Hid (OC w w6 #[.string c.issuer, .int .i64 c.num, .int .i64 c.ths, .int .i64 c.nxt, .int .i64 c.bas, .slice qa ql qc, .string c.sig] ∧ OwnR w6 (w.heap.size + 2) (.slice qa ql qc) c.revs) := ⟨H5.out.1.below hb6, H5.out.2.stays hb6⟩
  clear hb6 H5
  have d0 : w6.cell? ⟨w.heap.size, 0, none⟩ = some (.string c.issuer) := H6.out.1.1.cell 0
  have d1 : w6.cell? ⟨w.heap.size, 1, none⟩ = some (.int .i64 c.num) := H6.out.1.1.cell 1
  have d2 : w6.cell? ⟨w.heap.size, 2, none⟩ = some (.int .i64 c.ths) := H6.out.1.1.cell 2
  have d3 : w6.cell? ⟨w.heap.size, 3, none⟩ = some (.int .i64 c.nxt) := H6.out.1.1.cell 3
  have d4 : w6.cell? ⟨w.heap.size, 4, none⟩ = some (.int .i64 c.bas) := H6.out.1.1.cell 4
  have d5 : w6.cell? ⟨w.heap.size, 5, none⟩ = some (.slice qa ql qc) := H6.out.1.1.cell 5
  have d6 : w6.cell? ⟨w.heap.size, 6, none⟩ = some (.string c.sig) := H6.out.1.1.cell 6
  have b0 : w6.cell? ⟨w.heap.size + 1, 0, none⟩ = some (.string ⟨#[]⟩) := H6.out.1.2.1.cell 0
  have b1 : w6.cell? ⟨w.heap.size + 1, 1, none⟩ = some (.int .i64 0) := H6.out.1.2.1.cell 1
  have b2 : w6.cell? ⟨w.heap.size + 1, 2, none⟩ = some (.int .i64 0) := H6.out.1.2.1.cell 2
  have b3 : w6.cell? ⟨w.heap.size + 1, 3, none⟩ = some (.int .i64 0) := H6.out.1.2.1.cell 3
  have b4 : w6.cell? ⟨w.heap.size + 1, 4, none⟩ = some (.int .i64 0) := H6.out.1.2.1.cell 4
  have b5 : w6.cell? ⟨w.heap.size + 1, 5, none⟩ = some (.slice none 0 0) := H6.out.1.2.1.cell 5
  have b6 : w6.cell? ⟨w.heap.size + 1, 6, none⟩ = some (.string ⟨#[]⟩) := H6.out.1.2.1.cell 6
  have fd := fun i => H6.out.1.1.free i
  have fb := fun i => H6.out.1.2.1.free i
  go_wp2_with fail
  refine bodyPost_ret (v := clV c (.slice qa ql qc)) (by simp [results, Tryz.results131, go_sem, clV, b0, b1, b2, b3, b4, b5, b6]) rfl ⟨_, rfl, ⟨_, rfl, OwnR.base (row_same H6.out.2 ?far) (by omega)⟩, ?bel⟩
  case far =>
    intro b hb
    have h2 := (World.ownsRow.lt H6.out.2 b hb).1
    iterate 8 rw [heap_setCell_other _ _ _ _ (by first | (show b ≠ w.heap.size + 1; omega) | (show b ≠ w.heap.size; omega))]
  case bel =>
    iterate 8 refine Below.setCell ?_ (by first | (show w.heap.size ≤ w.heap.size + 1; omega) | (show w.heap.size ≤ w.heap.size; omega)) _
    exact H6.out.1.2.2.1
end Go.Proofs.YtfgkpjjjjnollaaGreatDoor

/-
  The program's SignedCrl, where it calls ownCrl.
-/
namespace Go.Proofs.YtfgkpjjjjnollaaGreatDoor
open Go.RowKit Der
set_option linter.unusedVariables false

set_option maxHeartbeats 12800000 in
set_option maxRecDepth 100000 in
theorem implSignedCrl_any (c : Cl) (v : Value) (i : Int) (bs : Nat) (w : World) (hz : wtL c ≤ 1048576) (hw : WdL c) (hi : -9223372036854775808 ≤ i ∧ i ≤ 9223372036854775807) (hH : ∀ w', Below w.heap.size w w' → HousesOk w' ∧ KeysOk w' ∧ StartOk w') (ha : OwnL w bs v c) :
    Calls Tryz.prog 37 #[v, .int .i64 i] w fun e w' => ∃ u, e = .returned u ∧ OwnL w' w.heap.size u (sgL c i) ∧ Below w.heap.size w w' := by
  have HH : Hid (∀ w', Below w.heap.size w w' → HousesOk w' ∧ KeysOk w' ∧ StartOk w') := hH
  clear hH
  obtain ⟨pv, rfl, h1⟩ := ha
  obtain ⟨pa, pc, hpv, -, -, -⟩ := OwnR.shape h1
  obtain ⟨lp, hlp⟩ : ∃ l, c.revs.length = l := ⟨_, rfl⟩
  rw [hlp] at hpv
  subst hpv
  have hrl := (wtL_parts hz).2.1
  have HZ : Hid (wtL c ≤ 1048576 ∧ WdL c) := ⟨hz, hw⟩
  have HA : Hid (OwnL w bs (.agg #[.string c.issuer, .int .i64 c.num, .int .i64 c.ths, .int .i64 c.nxt, .int .i64 c.bas, .slice pa lp pc, .string c.sig]) c ∧ ClAt w (.agg #[.string c.issuer, .int .i64 c.num, .int .i64 c.ths, .int .i64 c.nxt, .int .i64 c.bas, .slice pa lp pc, .string c.sig]) c) := ⟨⟨_, rfl, h1⟩, ⟨_, rfl, h1.at⟩⟩
  have HO : Hid (OwnR w bs (.slice pa lp pc) c.revs ∧ c.revs.length = lp ∧ c.revs.length ≤ 1048576) := ⟨h1, hlp, hrl⟩
  obtain ⟨T, hT⟩ : ∃ T, (⟨((writeI 4 (bodyL c)).getD []).toArray⟩ : ByteArray) = T := ⟨_, rfl⟩
  obtain ⟨SG, hSG⟩ : ∃ s, sigB i T = s := ⟨_, rfl⟩
  have HT : Hid ((⟨((writeI 4 (bodyL c)).getD []).toArray⟩ : ByteArray) = T ∧ sigB i T = SG ∧ T.size ≤ 1048576 ∧ (-9223372036854775808 ≤ i ∧ i ≤ 9223372036854775807)) := ⟨hT, hSG, by rw [← hT]; exact write_small c, hi⟩
  clear h1 hlp hz hw hT hSG hi hrl
  unfold clV
  go_enter Tryz.func37, Tryz.ntmps37
  go_wp2_with fail
  obtain ⟨W2, hW2⟩ : ∃ W, W = (w.alloc (Obj.cells #[.string c.issuer, .int .i64 c.num, .int .i64 c.ths, .int .i64 c.nxt, .int .i64 c.bas, .slice pa lp pc, .string c.sig] 49)).alloc (Obj.cells #[.string ⟨#[]⟩, .int .i64 0, .int .i64 0, .int .i64 0, .int .i64 0, .slice none 0 0, .string ⟨#[]⟩] 49) := ⟨_, rfl⟩
  rw [← hW2]
  have G2 : Hid (Blk W2 w.heap.size 49 #[.string c.issuer, .int .i64 c.num, .int .i64 c.ths, .int .i64 c.nxt, .int .i64 c.bas, .slice pa lp pc, .string c.sig] ∧ Blk W2 (w.heap.size + 1) 49 #[.string ⟨#[]⟩, .int .i64 0, .int .i64 0, .int .i64 0, .int .i64 0, .slice none 0 0, .string ⟨#[]⟩] ∧ Below w.heap.size w W2 ∧ w.heap.size + 2 ≤ W2.heap.size) := by
    have e0 : (w.alloc (Obj.cells #[.string c.issuer, .int .i64 c.num, .int .i64 c.ths, .int .i64 c.nxt, .int .i64 c.bas, .slice pa lp pc, .string c.sig] 49)).heap.size = w.heap.size + 1 := Array.size_push _
    have h := Blk.new (w.alloc (Obj.cells #[.string c.issuer, .int .i64 c.num, .int .i64 c.ths, .int .i64 c.nxt, .int .i64 c.bas, .slice pa lp pc, .string c.sig] 49)) 49 #[.string ⟨#[]⟩, .int .i64 0, .int .i64 0, .int .i64 0, .int .i64 0, .slice none 0 0, .string ⟨#[]⟩]
    rw [e0] at h
    rw [hW2]
    exact ⟨(Blk.new w _ _).alloc _, h, ((Below.refl _ _).alloc (Nat.le_refl _) _).alloc (by rw [e0]; omega) _, by rw [size_alloc, e0]; omega⟩
  clear hW2
  refine (ownCrl_any c (.agg #[.string c.issuer, .int .i64 c.num, .int .i64 c.ths, .int .i64 c.nxt, .int .i64 c.bas, .slice pa lp pc, .string c.sig]) bs W2 (by have := HO.out.2.2; omega) (by have := wtL_parts HZ.out.1; omega) (by have := wtL_parts HZ.out.1; omega) (HA.out.1.stays G2.out.2.2.1)).mono ?_
  rintro e w3 ⟨u3, rfl, ⟨p3, rfl, ho3⟩, hb⟩
  obtain ⟨qa, qc, hq3, -, -, -⟩ := OwnR.shape ho3
  obtain ⟨ql, hql⟩ : ∃ l, c.revs.length = l := ⟨_, rfl⟩
  rw [hql] at hq3
  clear hql
  subst hq3
  have G3 : Hid (Blk w3 w.heap.size 49 #[.string c.issuer, .int .i64 c.num, .int .i64 c.ths, .int .i64 c.nxt, .int .i64 c.bas, .slice pa lp pc, .string c.sig] ∧ Blk w3 (w.heap.size + 1) 49 #[.string ⟨#[]⟩, .int .i64 0, .int .i64 0, .int .i64 0, .int .i64 0, .slice none 0 0, .string ⟨#[]⟩] ∧ Below w.heap.size w w3 ∧ OwnR w3 W2.heap.size (.slice qa ql qc) c.revs ∧ w.heap.size + 2 ≤ w3.heap.size ∧ w.heap.size + 2 ≤ W2.heap.size ∧ W2.heap.size ≤ w3.heap.size) := ⟨G2.out.1.below hb G2.out.1.lt, G2.out.2.1.below hb G2.out.2.1.lt, G2.out.2.2.1.trans (hb.mono G2.out.2.2.1.size), ho3, Nat.le_trans G2.out.2.2.2 hb.size, G2.out.2.2.2, hb.size⟩
  clear hb ho3 G2
  unfold clV
  have a0 := fun o => (show (w3.alloc o).cell? ⟨w.heap.size, 0, none⟩ = some (.string c.issuer) from (G3.out.1.alloc o).cell 0)
  have a1 := fun o => (show (w3.alloc o).cell? ⟨w.heap.size, 1, none⟩ = some (.int .i64 c.num) from (G3.out.1.alloc o).cell 1)
  have a2 := fun o => (show (w3.alloc o).cell? ⟨w.heap.size, 2, none⟩ = some (.int .i64 c.ths) from (G3.out.1.alloc o).cell 2)
  have a3 := fun o => (show (w3.alloc o).cell? ⟨w.heap.size, 3, none⟩ = some (.int .i64 c.nxt) from (G3.out.1.alloc o).cell 3)
  have a4 := fun o => (show (w3.alloc o).cell? ⟨w.heap.size, 4, none⟩ = some (.int .i64 c.bas) from (G3.out.1.alloc o).cell 4)
  have a5 := fun o => (show (w3.alloc o).cell? ⟨w.heap.size, 5, none⟩ = some (.slice pa lp pc) from (G3.out.1.alloc o).cell 5)
  have a6 := fun o => (show (w3.alloc o).cell? ⟨w.heap.size, 6, none⟩ = some (.string c.sig) from (G3.out.1.alloc o).cell 6)
  go_wp2_with fail
  clear a0 a1 a2 a3 a4 a5 a6
  obtain ⟨W4, hW4⟩ : ∃ W, W = w3.alloc (Obj.cells #[.string c.issuer, .int .i64 c.num, .int .i64 c.ths, .int .i64 c.nxt, .int .i64 c.bas, .slice qa ql qc, .string c.sig] 49) := ⟨_, rfl⟩
  rw [← hW4]
  obtain ⟨gl, hgl⟩ : ∃ q, W2.heap.size = q := ⟨_, rfl⟩
  obtain ⟨gv, hgv⟩ : ∃ q, w3.heap.size = q := ⟨_, rfl⟩
  have G4 : Hid (Blk W4 w.heap.size 49 #[.string c.issuer, .int .i64 c.num, .int .i64 c.ths, .int .i64 c.nxt, .int .i64 c.bas, .slice pa lp pc, .string c.sig] ∧ Blk W4 (w.heap.size + 1) 49 #[.string ⟨#[]⟩, .int .i64 0, .int .i64 0, .int .i64 0, .int .i64 0, .slice none 0 0, .string ⟨#[]⟩] ∧ Blk W4 gv 49 #[.string c.issuer, .int .i64 c.num, .int .i64 c.ths, .int .i64 c.nxt, .int .i64 c.bas, .slice qa ql qc, .string c.sig] ∧ Below w.heap.size w W4 ∧ OwnR W4 gl (.slice qa ql qc) c.revs) := by
    have hb : Below w3.heap.size w3 W4 := by rw [hW4]; exact (Below.refl _ _).alloc (Nat.le_refl _) _
    exact ⟨G3.out.1.below hb G3.out.1.lt, G3.out.2.1.below hb G3.out.2.1.lt, by rw [hW4, ← hgv]; exact Blk.new w3 _ _, G3.out.2.2.1.trans (hb.mono G3.out.2.2.1.size), by rw [← hgl]; exact G3.out.2.2.2.1.stays hb⟩
  have HRB : Hid (∀ g, (Value.slice qa ql qc).ownBlock = some g → w.heap.size + 2 ≤ g ∧ g ≠ gv) := fun g hg => by
    have h1 := World.ownsRow.lt G3.out.2.2.2.1 g hg
    have h2 := G3.out.2.2.2.2
    rw [← hgv]
    omega
  have HGV : Hid (w.heap.size + 2 ≤ gv ∧ w.heap.size + 2 ≤ gl ∧ gl ≤ gv) := by rw [← hgv, ← hgl]; exact ⟨G3.out.2.2.2.2.1, G3.out.2.2.2.2.2.1, G3.out.2.2.2.2.2.2⟩
  rw [hgv]
  clear hW4 hgv hgl G3
  have E5 := implCrlBody_any c (.agg #[.string c.issuer, .int .i64 c.num, .int .i64 c.ths, .int .i64 c.nxt, .int .i64 c.bas, .slice pa lp pc, .string c.sig]) W4 HZ.out.1 HZ.out.2 (HA.out.2.below G4.out.2.2.2.1)
  rw [HT.out.1] at E5
  refine E5.mono ?_
  rintro e w5 ⟨rfl, hb⟩
  have G5 : Hid (Blk w5 w.heap.size 49 #[.string c.issuer, .int .i64 c.num, .int .i64 c.ths, .int .i64 c.nxt, .int .i64 c.bas, .slice pa lp pc, .string c.sig] ∧ Blk w5 (w.heap.size + 1) 49 #[.string ⟨#[]⟩, .int .i64 0, .int .i64 0, .int .i64 0, .int .i64 0, .slice none 0 0, .string ⟨#[]⟩] ∧ Blk w5 gv 49 #[.string c.issuer, .int .i64 c.num, .int .i64 c.ths, .int .i64 c.nxt, .int .i64 c.bas, .slice qa ql qc, .string c.sig] ∧ Below w.heap.size w w5 ∧ OwnR w5 gl (.slice qa ql qc) c.revs) := ⟨G4.out.1.below hb G4.out.1.lt, G4.out.2.1.below hb G4.out.2.1.lt, G4.out.2.2.1.below hb G4.out.2.2.1.lt, G4.out.2.2.2.1.trans (hb.mono G4.out.2.2.2.1.size), G4.out.2.2.2.2.stays hb⟩
  clear hb G4 E5
  go_wp2_with fail
  have E6 := implSign_any i T w5 HT.out.2.2.1 HT.out.2.2.2 (HH.out _ G5.out.2.2.2.1).1 (HH.out _ G5.out.2.2.2.1).2.1 (HH.out _ G5.out.2.2.2.1).2.2
  rw [HT.out.2.1] at E6
  refine E6.mono ?_
  rintro e w6 ⟨rfl, hb⟩
  have G6 : Hid (Blk w6 w.heap.size 49 #[.string c.issuer, .int .i64 c.num, .int .i64 c.ths, .int .i64 c.nxt, .int .i64 c.bas, .slice pa lp pc, .string c.sig] ∧ Blk w6 (w.heap.size + 1) 49 #[.string ⟨#[]⟩, .int .i64 0, .int .i64 0, .int .i64 0, .int .i64 0, .slice none 0 0, .string ⟨#[]⟩] ∧ Blk w6 gv 49 #[.string c.issuer, .int .i64 c.num, .int .i64 c.ths, .int .i64 c.nxt, .int .i64 c.bas, .slice qa ql qc, .string c.sig] ∧ Below w.heap.size w w6 ∧ OwnR w6 gl (.slice qa ql qc) c.revs) := ⟨G5.out.1.below hb G5.out.1.lt, G5.out.2.1.below hb G5.out.2.1.lt, G5.out.2.2.1.below hb G5.out.2.2.1.lt, G5.out.2.2.2.1.trans (hb.mono G5.out.2.2.2.1.size), G5.out.2.2.2.2.stays hb⟩
  clear hb G5 E6
  have b0 : w6.cell? ⟨w.heap.size + 1, 0, none⟩ = some (.string ⟨#[]⟩) := G6.out.2.1.cell 0
  have b1 : w6.cell? ⟨w.heap.size + 1, 1, none⟩ = some (.int .i64 0) := G6.out.2.1.cell 1
  have b2 : w6.cell? ⟨w.heap.size + 1, 2, none⟩ = some (.int .i64 0) := G6.out.2.1.cell 2
  have b3 : w6.cell? ⟨w.heap.size + 1, 3, none⟩ = some (.int .i64 0) := G6.out.2.1.cell 3
  have b4 : w6.cell? ⟨w.heap.size + 1, 4, none⟩ = some (.int .i64 0) := G6.out.2.1.cell 4
  have b5 : w6.cell? ⟨w.heap.size + 1, 5, none⟩ = some (.slice none 0 0) := G6.out.2.1.cell 5
  have b6 : w6.cell? ⟨w.heap.size + 1, 6, none⟩ = some (.string ⟨#[]⟩) := G6.out.2.1.cell 6
  have d0 : w6.cell? ⟨gv, 0, none⟩ = some (.string c.issuer) := G6.out.2.2.1.cell 0
  have d1 : w6.cell? ⟨gv, 1, none⟩ = some (.int .i64 c.num) := G6.out.2.2.1.cell 1
  have d2 : w6.cell? ⟨gv, 2, none⟩ = some (.int .i64 c.ths) := G6.out.2.2.1.cell 2
  have d3 : w6.cell? ⟨gv, 3, none⟩ = some (.int .i64 c.nxt) := G6.out.2.2.1.cell 3
  have d4 : w6.cell? ⟨gv, 4, none⟩ = some (.int .i64 c.bas) := G6.out.2.2.1.cell 4
  have d5 : w6.cell? ⟨gv, 5, none⟩ = some (.slice qa ql qc) := G6.out.2.2.1.cell 5
  have d6 : w6.cell? ⟨gv, 6, none⟩ = some (.string c.sig) := G6.out.2.2.1.cell 6
  have fb := fun j => G6.out.2.1.free j
  have fd := fun j => G6.out.2.2.1.free j
  have wd1 : gv ≠ w.heap.size + 1 := by have := HGV.out; omega
  have wd2 : w.heap.size + 1 ≠ gv := by have := HGV.out; omega
  go_wp2_with fail
  refine bodyPost_ret (v := clV (sgL c i) (.slice qa ql qc)) (by rw [show sgL c i = { c with sig := SG } from by unfold sgL; rw [HT.out.1, HT.out.2.1]]; simp [results, Tryz.results37, go_sem, clV, b0, b1, b2, b3, b4, b5, b6]) rfl ⟨_, rfl, ⟨_, rfl, (G6.out.2.2.2.2.off ?far).base (by have := HGV.out; omega)⟩, ?bel⟩
  case far =>
    intro b hb
    have h1 := HGV.out
    have h2 := HRB.out b hb
    iterate 8 rw [heap_setCell_other _ _ _ _ (by first | (show b ≠ w.heap.size + 1; omega) | (show b ≠ gv; omega))]
  case bel =>
    have h1 := HGV.out
    iterate 8 refine Below.setCell ?_ (by first | (show w.heap.size ≤ w.heap.size + 1; omega) | (show w.heap.size ≤ gv; omega)) _
    exact G6.out.2.2.2.1
end Go.Proofs.YtfgkpjjjjnollaaGreatDoor

/-
  What the laws over lists share: one that came in in a variable's block, one of one's own in another.
-/
namespace Go.Proofs.YtfgkpjjjjnollaaGreatDoor
open Go.RowKit
set_option linter.unusedVariables false

theorem wtL_len {c : Cl} (h : wtL c ≤ 1048576) : c.revs.length ≤ 1048576 := (wtL_parts h).2.1
/-- What came in, and a list of one's own, each in a variable's block. -/
def KL (w W : World) (g1 g2 : Nat) (t1 t2 : TypeId) (a b : Array Value) (c : Cl) : Prop := Below w.heap.size w W ∧ Blk W g1 t1 a ∧ Blk W g2 t2 b ∧ ClAt W (.agg b) c
theorem KL.below {w W W' : World} {g1 g2 : Nat} {t1 t2 : TypeId} {a b : Array Value} {c : Cl} (h : KL w W g1 g2 t1 t2 a b c) (hb : Below W.heap.size W W') : KL w W' g1 g2 t1 t2 a b c :=
  ⟨h.1.trans (hb.mono h.1.size), h.2.1.below hb h.2.1.lt, h.2.2.1.below hb h.2.2.1.lt, h.2.2.2.below hb⟩
end Go.Proofs.YtfgkpjjjjnollaaGreatDoor
