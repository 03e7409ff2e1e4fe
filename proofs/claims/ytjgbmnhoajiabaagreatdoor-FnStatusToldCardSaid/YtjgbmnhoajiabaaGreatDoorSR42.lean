/-
  Texts of the proof.
-/
import Derived.WalkLawsBesides
import Derived.Test.YtjgbmnhoajiabaaGreatDoorSR20
import Derived.Test.YtjgbmnhoajiabaaGreatDoorSR21
import Derived.Test.YtjgbmnhoajiabaaGreatDoorSR41
set_option maxRecDepth 100000
namespace Go.Proofs.YtjgbmnhoajiabaaGreatDoor
open Go.RowKit Der
set_option linter.unusedVariables false
theorem OwnR.off {w w' : World} {b : Nat} {v : Value} {l : List (Int × Int)} (h : OwnR w b v l) (hh : ∀ g, v.ownBlock = some g -> w'.heap[g]? = w.heap[g]?) : OwnR w' b v l := by
 obtain ⟨h1, h2⟩ := h
 refine ⟨h1, ?_⟩
 rcases h2 with h2 | ⟨g, cap, cur, hv, hbg, hg, r⟩
 ·exact .inl h2
 ·exact .inr ⟨g, cap, cur, hv, hbg, (hh g (by rw [hv]; rfl)).trans hg, r⟩
def sgL (c : Cl) (i : Int) : Cl := { c with sig := sigB i (⟨((writeI 4 (bodyL c)).getD []).toArray⟩ : ByteArray) }
theorem write_small (c : Cl) : (⟨((writeI 4 (bodyL c)).getD []).toArray⟩ : ByteArray).size <= 1048576 := by
 cases h : writeI 4 (bodyL c) with
 | none => exact Nat.zero_le _
 | some t =>
  have := (write_some h).2.1
  show t.length <= 1048576
  omega
set_option maxHeartbeats 12800000 in
theorem specSignedCrl_any (c : Cl) (v : Value) (i : Int) (bs : Nat) (w : World) (hz : wtL c <= 1048576) (hw : WdL c) (hi : -9223372036854775808 <= i /\ i <= 9223372036854775807) (ha : OwnL w bs v c) :
  Calls Tryz.prog 42 #[v, .int .i64 i] w fun e w' => ∃ u, e = .returned u /\ OwnL w' w.heap.size u (sgL c i) /\ Below w.heap.size w w' := by
 obtain ⟨pv, rfl, h1⟩ := ha
 obtain ⟨pa, pc, hpv, -, -, -⟩ := OwnR.shape h1
 obtain ⟨lp, hlp⟩ : ∃ l, c.revs.length = l := ⟨_, rfl⟩
 rw [hlp] at hpv
 subst hpv
 have hrl := (wtL_parts hz).2.1
 have HZ : Hid (wtL c <= 1048576 /\ WdL c) := ⟨hz, hw⟩
 have HA : Hid (OwnL w bs (.agg #[.string c.issuer, .int .i64 c.num, .int .i64 c.ths, .int .i64 c.nxt, .int .i64 c.bas, .slice pa lp pc, .string c.sig]) c /\ ClAt w (.agg #[.string c.issuer, .int .i64 c.num, .int .i64 c.ths, .int .i64 c.nxt, .int .i64 c.bas, .slice pa lp pc, .string c.sig]) c) := ⟨⟨_, rfl, h1⟩, ⟨_, rfl, h1.at⟩⟩
 have HO : Hid (OwnR w bs (.slice pa lp pc) c.revs /\ c.revs.length = lp /\ c.revs.length <= 1048576) := ⟨h1, hlp, hrl⟩
 obtain ⟨T, hT⟩ : ∃ T, (⟨((writeI 4 (bodyL c)).getD []).toArray⟩ : ByteArray) = T := ⟨_, rfl⟩
 obtain ⟨SG, hSG⟩ : ∃ s, sigB i T = s := ⟨_, rfl⟩
 have HT : Hid ((⟨((writeI 4 (bodyL c)).getD []).toArray⟩ : ByteArray) = T /\ sigB i T = SG /\ T.size <= 1048576 /\ (-9223372036854775808 <= i /\ i <= 9223372036854775807)) := ⟨hT, hSG, by rw [<- hT]; exact write_small c, hi⟩
 clear h1 hlp hz hw hT hSG hi hrl
 unfold clV
 go_enter Tryz.func42, Tryz.ntmps42
 go_wp2_with fail
 obtain ⟨W2, hW2⟩ : ∃ W, W = (w.alloc (Obj.cells #[.string c.issuer, .int .i64 c.num, .int .i64 c.ths, .int .i64 c.nxt, .int .i64 c.bas, .slice pa lp pc, .string c.sig] 49)).alloc (Obj.cells #[.string ⟨#[]⟩, .int .i64 0, .int .i64 0, .int .i64 0, .int .i64 0, .slice none 0 0, .string ⟨#[]⟩] 49) := ⟨_, rfl⟩
 rw [<- hW2]
 have G2 : Hid (Blk W2 w.heap.size 49 #[.string c.issuer, .int .i64 c.num, .int .i64 c.ths, .int .i64 c.nxt, .int .i64 c.bas, .slice pa lp pc, .string c.sig] /\ Blk W2 (w.heap.size + 1) 49 #[.string ⟨#[]⟩, .int .i64 0, .int .i64 0, .int .i64 0, .int .i64 0, .slice none 0 0, .string ⟨#[]⟩] /\ Below w.heap.size w W2 /\ w.heap.size + 2 <= W2.heap.size) := by
  have e0 : (w.alloc (Obj.cells #[.string c.issuer, .int .i64 c.num, .int .i64 c.ths, .int .i64 c.nxt, .int .i64 c.bas, .slice pa lp pc, .string c.sig] 49)).heap.size = w.heap.size + 1 := Array.size_push _
  have h := Blk.new (w.alloc (Obj.cells #[.string c.issuer, .int .i64 c.num, .int .i64 c.ths, .int .i64 c.nxt, .int .i64 c.bas, .slice pa lp pc, .string c.sig] 49)) 49 #[.string ⟨#[]⟩, .int .i64 0, .int .i64 0, .int .i64 0, .int .i64 0, .slice none 0 0, .string ⟨#[]⟩]
  rw [e0] at h
  rw [hW2]
  exact ⟨(Blk.new w _ _).alloc _, h, ((Below.refl _ _).alloc (Nat.le_refl _) _).alloc (by rw [e0]; omega) _, by rw [size_alloc, e0]; omega⟩
 clear hW2
 refine (crlCopy_any c (.agg #[.string c.issuer, .int .i64 c.num, .int .i64 c.ths, .int .i64 c.nxt, .int .i64 c.bas, .slice pa lp pc, .string c.sig]) bs W2 (by have := HO.out.2.2; omega) (HA.out.1.stays G2.out.2.2.1)).mono ?_
 rintro e w3 ⟨u3, rfl, ⟨p3, rfl, ho3⟩, hb⟩
 obtain ⟨qa, qc, hq3, -, -, -⟩ := OwnR.shape ho3
 obtain ⟨ql, hql⟩ : ∃ l, c.revs.length = l := ⟨_, rfl⟩
 rw [hql] at hq3
 clear hql
 subst hq3
 have G3 : Hid (Blk w3 w.heap.size 49 #[.string c.issuer, .int .i64 c.num, .int .i64 c.ths, .int .i64 c.nxt, .int .i64 c.bas, .slice pa lp pc, .string c.sig] /\ Blk w3 (w.heap.size + 1) 49 #[.string ⟨#[]⟩, .int .i64 0, .int .i64 0, .int .i64 0, .int .i64 0, .slice none 0 0, .string ⟨#[]⟩] /\ Below w.heap.size w w3 /\ OwnR w3 W2.heap.size (.slice qa ql qc) c.revs /\ w.heap.size + 2 <= w3.heap.size /\ w.heap.size + 2 <= W2.heap.size /\ W2.heap.size <= w3.heap.size) := ⟨G2.out.1.below hb G2.out.1.lt, G2.out.2.1.below hb G2.out.2.1.lt, G2.out.2.2.1.trans (hb.mono G2.out.2.2.1.size), ho3, Nat.le_trans G2.out.2.2.2 hb.size, G2.out.2.2.2, hb.size⟩
 clear hb ho3 G2
 unfold clV
 have a0 := fun o => (show (w3.alloc o).cell? ⟨w.heap.size, 0, none⟩ = some (.string c.issuer) from (G3.out.1.alloc o).cell 0)
 have a1 := fun o => (show (w3.alloc o).cell? ⟨w.heap.size, 1, none⟩ = some (.int .i64 c.num) from (G3.out.1.alloc o).cell 1)
 have a2 := fun o => (show (w3.alloc o).cell? ⟨w.heap.size, 2, none⟩ = some (.int .i64 c.ths) from (G3.out.1.alloc o).cell 2)
 have a3 := fun o => (show (w3.alloc o).cell? ⟨w.heap.size, 3, none⟩ = some (.int .i64 c.nxt) from (G3.out.1.alloc o).cell 3)
 have a4 := fun o => (show (w3.alloc o).cell? ⟨w.heap.size, 4, none⟩ = some (.int .i64 c.bas) from (G3.out.1.alloc o).cell 4)
 have a5 := fun o => (show (w3.alloc o).cell? ⟨w.heap.size, 5, none⟩ = some (.slice pa lp pc) from (G3.out.1.alloc o).cell 5)
 have a6 := fun o => (show (w3.alloc o).cell? ⟨w.heap.size, 6, none⟩ = some (.string c.sig) from (G3.out.1.alloc o).cell 6)
 go_wp2_with fail
 clear a0 a1 a2 a3 a4 a5 a6
 obtain ⟨W4, hW4⟩ : ∃ W, W = w3.alloc (Obj.cells #[.string c.issuer, .int .i64 c.num, .int .i64 c.ths, .int .i64 c.nxt, .int .i64 c.bas, .slice qa ql qc, .string c.sig] 49) := ⟨_, rfl⟩
 rw [<- hW4]
 obtain ⟨gl, hgl⟩ : ∃ q, W2.heap.size = q := ⟨_, rfl⟩
 obtain ⟨gv, hgv⟩ : ∃ q, w3.heap.size = q := ⟨_, rfl⟩
 have G4 : Hid (Blk W4 w.heap.size 49 #[.string c.issuer, .int .i64 c.num, .int .i64 c.ths, .int .i64 c.nxt, .int .i64 c.bas, .slice pa lp pc, .string c.sig] /\ Blk W4 (w.heap.size + 1) 49 #[.string ⟨#[]⟩, .int .i64 0, .int .i64 0, .int .i64 0, .int .i64 0, .slice none 0 0, .string ⟨#[]⟩] /\ Blk W4 gv 49 #[.string c.issuer, .int .i64 c.num, .int .i64 c.ths, .int .i64 c.nxt, .int .i64 c.bas, .slice qa ql qc, .string c.sig] /\ Below w.heap.size w W4 /\ OwnR W4 gl (.slice qa ql qc) c.revs) := by
  have hb : Below w3.heap.size w3 W4 := by rw [hW4]; exact (Below.refl _ _).alloc (Nat.le_refl _) _
  exact ⟨G3.out.1.below hb G3.out.1.lt, G3.out.2.1.below hb G3.out.2.1.lt, by rw [hW4, <- hgv]; exact Blk.new w3 _ _, G3.out.2.2.1.trans (hb.mono G3.out.2.2.1.size), by rw [<- hgl]; exact G3.out.2.2.2.1.stays hb⟩
 have HRB : Hid (∀ g, (Value.slice qa ql qc).ownBlock = some g -> w.heap.size + 2 <= g /\ g ≠ gv) := fun g hg => by
  have h1 := World.ownsRow.lt G3.out.2.2.2.1 g hg
  have h2 := G3.out.2.2.2.2
  rw [<- hgv]
  omega
 have HGV : Hid (w.heap.size + 2 <= gv /\ w.heap.size + 2 <= gl /\ gl <= gv) := by rw [<- hgv, <- hgl]; exact ⟨G3.out.2.2.2.2.1, G3.out.2.2.2.2.2.1, G3.out.2.2.2.2.2.2⟩
 rw [hgv]
 clear hW4 hgv hgl G3
 have E5 := specCrlBody_any c (.agg #[.string c.issuer, .int .i64 c.num, .int .i64 c.ths, .int .i64 c.nxt, .int .i64 c.bas, .slice pa lp pc, .string c.sig]) W4 HZ.out.1 HZ.out.2 (HA.out.2.below G4.out.2.2.2.1)
 rw [HT.out.1] at E5
 refine E5.mono ?_
 rintro e w5 ⟨rfl, hb⟩
 have G5 : Hid (Blk w5 w.heap.size 49 #[.string c.issuer, .int .i64 c.num, .int .i64 c.ths, .int .i64 c.nxt, .int .i64 c.bas, .slice pa lp pc, .string c.sig] /\ Blk w5 (w.heap.size + 1) 49 #[.string ⟨#[]⟩, .int .i64 0, .int .i64 0, .int .i64 0, .int .i64 0, .slice none 0 0, .string ⟨#[]⟩] /\ Blk w5 gv 49 #[.string c.issuer, .int .i64 c.num, .int .i64 c.ths, .int .i64 c.nxt, .int .i64 c.bas, .slice qa ql qc, .string c.sig] /\ Below w.heap.size w w5 /\ OwnR w5 gl (.slice qa ql qc) c.revs) := ⟨G4.out.1.below hb G4.out.1.lt, G4.out.2.1.below hb G4.out.2.1.lt, G4.out.2.2.1.below hb G4.out.2.2.1.lt, G4.out.2.2.2.1.trans (hb.mono G4.out.2.2.2.1.size), G4.out.2.2.2.2.stays hb⟩
 clear hb G4 E5
 go_wp2_with fail
 have E6 := specSign_any i T w5 HT.out.2.2.1 HT.out.2.2.2
 rw [HT.out.2.1] at E6
 refine E6.mono ?_
 rintro e w6 ⟨rfl, hb⟩
 have G6 : Hid (Blk w6 w.heap.size 49 #[.string c.issuer, .int .i64 c.num, .int .i64 c.ths, .int .i64 c.nxt, .int .i64 c.bas, .slice pa lp pc, .string c.sig] /\ Blk w6 (w.heap.size + 1) 49 #[.string ⟨#[]⟩, .int .i64 0, .int .i64 0, .int .i64 0, .int .i64 0, .slice none 0 0, .string ⟨#[]⟩] /\ Blk w6 gv 49 #[.string c.issuer, .int .i64 c.num, .int .i64 c.ths, .int .i64 c.nxt, .int .i64 c.bas, .slice qa ql qc, .string c.sig] /\ Below w.heap.size w w6 /\ OwnR w6 gl (.slice qa ql qc) c.revs) := ⟨G5.out.1.below hb G5.out.1.lt, G5.out.2.1.below hb G5.out.2.1.lt, G5.out.2.2.1.below hb G5.out.2.2.1.lt, G5.out.2.2.2.1.trans (hb.mono G5.out.2.2.2.1.size), G5.out.2.2.2.2.stays hb⟩
 clear hb G5 E6
 have b0 : w6.cell? ⟨w.heap.size + 1, 0, none⟩ = some (.string ⟨#[]⟩) := G6.out.2.1.cell 0
 have b1 : w6.cell? ⟨w.heap.size + 1, 1, none⟩ = some (.int .i64 0) := G6.out.2.1.cell 1
 have b2 : w6.cell? ⟨w.heap.size + 1, 2, none⟩ = some (.int .i64 0) := G6.out.2.1.cell 2
 have b3 : w6.cell? ⟨w.heap.size + 1, 3, none⟩ = some (.int .i64 0) := G6.out.2.1.cell 3
 have b4 : w6.cell? ⟨w.heap.size + 1, 4, none⟩ = some (.int .i64 0) := G6.out.2.1.cell 4
 have b5 : w6.cell? ⟨w.heap.size + 1, 5, none⟩ = some (.slice none 0 0) := G6.out.2.1.cell 5
 have b6 : w6.cell? ⟨w.heap.size + 1, 6, none⟩ = some (.string ⟨#[]⟩) := G6.out.2.1.cell 6
 have d0 : w6.cell? ⟨gv, 0, none⟩ = some (.string c.issuer) := G6.out.2.2.1.cell 0
 have d1 : w6.cell? ⟨gv, 1, none⟩ = some (.int .i64 c.num) := G6.out.2.2.1.cell 1
 have d2 : w6.cell? ⟨gv, 2, none⟩ = some (.int .i64 c.ths) := G6.out.2.2.1.cell 2
 have d3 : w6.cell? ⟨gv, 3, none⟩ = some (.int .i64 c.nxt) := G6.out.2.2.1.cell 3
 have d4 : w6.cell? ⟨gv, 4, none⟩ = some (.int .i64 c.bas) := G6.out.2.2.1.cell 4
 have d5 : w6.cell? ⟨gv, 5, none⟩ = some (.slice qa ql qc) := G6.out.2.2.1.cell 5
 have d6 : w6.cell? ⟨gv, 6, none⟩ = some (.string c.sig) := G6.out.2.2.1.cell 6
 have fb := fun j => G6.out.2.1.free j
 have fd := fun j => G6.out.2.2.1.free j
 have wd1 : gv ≠ w.heap.size + 1 := by have := HGV.out; omega
 have wd2 : w.heap.size + 1 ≠ gv := by have := HGV.out; omega
 go_wp2_with fail
 refine bodyPost_ret (v := clV (sgL c i) (.slice qa ql qc)) (by rw [show sgL c i = { c with sig := SG } from by unfold sgL; rw [HT.out.1, HT.out.2.1]]; simp [results, Tryz.results42, go_sem, clV, b0, b1, b2, b3, b4, b5, b6]) rfl ⟨_, rfl, ⟨_, rfl, (G6.out.2.2.2.2.off ?far).base (by have := HGV.out; omega)⟩, ?bel⟩
 case far =>
  intro b hb
  have h1 := HGV.out
  have h2 := HRB.out b hb
  iterate 8 rw [heap_setCell_other _ _ _ _ (by first | (show b ≠ w.heap.size + 1; omega) | (show b ≠ gv; omega))]
 case bel =>
  have h1 := HGV.out
  iterate 8 refine Below.setCell ?_ (by first | (show w.heap.size <= w.heap.size + 1; omega) | (show w.heap.size <= gv; omega)) _
  exact G6.out.2.2.2.1
theorem Blk.outX {w w' : World} {b : Nat} {t : TypeId} {vs : Array Value} {fp : List Nat} (h : Blk w b t vs) (ho : Out fp w w') (hn : b ∉ fp) : Blk w' b t vs := (ho.2.2.2.2 b h.lt hn).trans h
theorem Blk.grown {w w' : World} {b : Nat} {t : TypeId} {vs : Array Value} {row : Option Nat} (h : Blk w b t vs) (hg : w.grownBy w' row) (hn : some b ≠ row) : Blk w' b t vs := (hg.block b h.lt hn).trans h
end Go.Proofs.YtjgbmnhoajiabaaGreatDoor
