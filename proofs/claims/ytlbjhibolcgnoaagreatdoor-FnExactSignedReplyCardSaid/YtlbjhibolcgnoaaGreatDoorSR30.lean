/-
  Texts of the proof.
-/
import Derived.Deep.AppendLies
import Derived.Deep.AppendSrc
import Derived.Deep.RegionHeld3
import Derived.Deep.Cut
import Derived.Test.YtlbjhibolcgnoaaGreatDoorSR14
import Derived.Test.YtlbjhibolcgnoaaGreatDoorSR29
set_option maxRecDepth 100000
set_option maxHeartbeats 25600000
namespace Go.Proofs.YtlbjhibolcgnoaaGreatDoor
open Go.RowKit Der
set_option linter.unusedVariables false
def sgR (c : Rp) (i : Int) : Rp := { c with sig := sigB i (rbdy c) }
theorem rbdy_small (c : Rp) : (rbdy c).size <= 1048576 := by
 unfold rbdy
 cases h : writeI 5 (bodyR c) with
 | none => exact Nat.zero_le _
 | some t =>
  have := (write_some h).2.1
  show t.length <= 1048576
  omega
theorem ans_small {c : Rp} (h : wtR c <= 1048576) : c.ans.length <= 1048576 /\ (∀ x ∈ c.ans, x.path.length + x.lst.length <= 1048576 /\ ∀ s ∈ x.path ++ x.lst, s.size <= 1000000000000) /\ c.hash.size <= 1000000000000 /\ c.sig.size <= 1000000000000 := by
 have h1 := wtR_ans h
 have h2 := wtAS_len c.ans
 refine ⟨by omega, fun x hx => ?_, by unfold wtR at h; omega, by unfold wtR at h; omega⟩
 have h3 := wtAS_mem hx
 unfold wtAw at h3
 have h4 := tot_len x.path
 have h5 := tot_len x.lst
 refine ⟨by omega, fun s hs => ?_⟩
 rcases List.mem_append.1 hs with hs | hs
 ·have := tot_mem _ s hs; omega
 ·have := tot_mem _ s hs; omega
theorem implSignedReply_any (c : Rp) (v : Value) (i : Int) (w : World) (hz : wtR c <= 1048576) (hw : WdRp c) (hi : -9223372036854775808 <= i /\ i <= 9223372036854775807) (hH : ∀ w', Below w.heap.size w w' -> HousesOk w' /\ KeysOk w' /\ StartOk w') (ha : RpAt w v c) :
  Calls Tryz.prog 7 #[v, .int .i64 i] w fun e w' => ∃ u, e = .returned u /\ (∃ fp, OwnRW w' w.heap.size u (sgR c i) fp) /\ Below w.heap.size w w' := by
 have HH : Hid (∀ w', Below w.heap.size w w' -> HousesOk w' /\ KeysOk w' /\ StartOk w') := hH
 clear hH
 obtain ⟨pa, pc, hv⟩ := RpAt.shape ha
 obtain ⟨lp, hlp⟩ := zE (c.ans.length)
 rw [hlp] at hv
 unfold rpV at hv
 subst hv
 have HZ : Hid (wtR c <= 1048576 /\ WdRp c) := ⟨hz, hw⟩
 have HA : Hid (RpAt w (.agg #[.string c.hash, .int .i64 c.nonce, .int .i64 c.time, .int .i64 c.next, .int .i64 c.plan, .int .i64 c.err, .slice pa lp pc, .string c.sig]) c) := ha
 obtain ⟨T, hT⟩ := zE (rbdy c)
 obtain ⟨SG, hSG⟩ := zE (sigB i T)
 have HT : Hid (rbdy c = T /\ sigB i T = SG /\ T.size <= 1048576 /\ (-9223372036854775808 <= i /\ i <= 9223372036854775807)) := ⟨hT, hSG, by rw [<- hT]; exact rbdy_small c, hi⟩
 clear ha hlp hz hw hT hSG hi
 go_enter Tryz.func7, Tryz.ntmps7
 go_wp2_with fail
 obtain ⟨W2, hW2⟩ : ∃ W, W = (w.alloc (Obj.cells #[.string c.hash, .int .i64 c.nonce, .int .i64 c.time, .int .i64 c.next, .int .i64 c.plan, .int .i64 c.err, .slice pa lp pc, .string c.sig] 28)).alloc (Obj.cells #[.string ⟨#[]⟩, .int .i64 0, .int .i64 0, .int .i64 0, .int .i64 0, .int .i64 0, .slice none 0 0, .string ⟨#[]⟩] 28) := ⟨_, rfl⟩
 rw [<- hW2]
 have G2 : Hid (Blk W2 w.heap.size 28 #[.string c.hash, .int .i64 c.nonce, .int .i64 c.time, .int .i64 c.next, .int .i64 c.plan, .int .i64 c.err, .slice pa lp pc, .string c.sig] /\ Blk W2 (w.heap.size + 1) 28 #[.string ⟨#[]⟩, .int .i64 0, .int .i64 0, .int .i64 0, .int .i64 0, .int .i64 0, .slice none 0 0, .string ⟨#[]⟩] /\ Below w.heap.size w W2 /\ w.heap.size + 2 <= W2.heap.size) := by
  have e0 : (w.alloc (Obj.cells #[.string c.hash, .int .i64 c.nonce, .int .i64 c.time, .int .i64 c.next, .int .i64 c.plan, .int .i64 c.err, .slice pa lp pc, .string c.sig] 28)).heap.size = w.heap.size + 1 := Array.size_push _
  have h := Blk.new (w.alloc (Obj.cells #[.string c.hash, .int .i64 c.nonce, .int .i64 c.time, .int .i64 c.next, .int .i64 c.plan, .int .i64 c.err, .slice pa lp pc, .string c.sig] 28)) 28 #[.string ⟨#[]⟩, .int .i64 0, .int .i64 0, .int .i64 0, .int .i64 0, .int .i64 0, .slice none 0 0, .string ⟨#[]⟩]
  rw [e0] at h
  rw [hW2]
  exact ⟨(Blk.new w _ _).alloc _, h, ((Below.refl _ _).alloc (Nat.le_refl _) _).alloc (by rw [e0]; omega) _, by rw [size_alloc, e0]; omega⟩
 clear hW2
 have E2 : Calls Tryz.prog 16 #[.agg #[.string c.hash, .int .i64 c.nonce, .int .i64 c.time, .int .i64 c.next, .int .i64 c.plan, .int .i64 c.err, .slice pa lp pc, .string c.sig]] W2 fun e w' => ∃ u, e = .returned u /\ (∃ fp, OwnRW w' W2.heap.size u c fp) /\ Below W2.heap.size W2 w' := ownReply_any c _ W2 (ans_small HZ.out.1).1 (ans_small HZ.out.1).2.1 (ans_small HZ.out.1).2.2.1 (ans_small HZ.out.1).2.2.2 (HA.out.below G2.out.2.2.1).o
 refine E2.mono ?_
 rintro e w3 ⟨u3, rfl, ⟨fp, p3, rfl, ho3⟩, hb⟩
 clear E2
 obtain ⟨qa, qc, hq3, -⟩ := ho3.shape
 obtain ⟨ql, hql⟩ := zE (c.ans.length)
 rw [hql] at hq3
 clear hql
 subst hq3
 have G3 : Hid (Blk w3 w.heap.size 28 #[.string c.hash, .int .i64 c.nonce, .int .i64 c.time, .int .i64 c.next, .int .i64 c.plan, .int .i64 c.err, .slice pa lp pc, .string c.sig] /\ Blk w3 (w.heap.size + 1) 28 #[.string ⟨#[]⟩, .int .i64 0, .int .i64 0, .int .i64 0, .int .i64 0, .int .i64 0, .slice none 0 0, .string ⟨#[]⟩] /\ Below w.heap.size w w3 /\ OwnS awWd w3 W2.heap.size (.slice qa ql qc) c.ans fp /\ w.heap.size + 2 <= w3.heap.size /\ w.heap.size + 2 <= W2.heap.size /\ W2.heap.size <= w3.heap.size) := ⟨G2.out.1.below hb G2.out.1.lt, G2.out.2.1.below hb G2.out.2.1.lt, G2.out.2.2.1.trans (hb.mono G2.out.2.2.1.size), ho3, Nat.le_trans G2.out.2.2.2 hb.size, G2.out.2.2.2, hb.size⟩
 clear hb ho3 G2
 unfold rpV
 have a0 := fun o => (show (w3.alloc o).cell? ⟨w.heap.size, 0, none⟩ = some (.string c.hash) from (G3.out.1.alloc o).cell 0)
 have a1 := fun o => (show (w3.alloc o).cell? ⟨w.heap.size, 1, none⟩ = some (.int .i64 c.nonce) from (G3.out.1.alloc o).cell 1)
 have a2 := fun o => (show (w3.alloc o).cell? ⟨w.heap.size, 2, none⟩ = some (.int .i64 c.time) from (G3.out.1.alloc o).cell 2)
 have a3 := fun o => (show (w3.alloc o).cell? ⟨w.heap.size, 3, none⟩ = some (.int .i64 c.next) from (G3.out.1.alloc o).cell 3)
 have a4 := fun o => (show (w3.alloc o).cell? ⟨w.heap.size, 4, none⟩ = some (.int .i64 c.plan) from (G3.out.1.alloc o).cell 4)
 have a5 := fun o => (show (w3.alloc o).cell? ⟨w.heap.size, 5, none⟩ = some (.int .i64 c.err) from (G3.out.1.alloc o).cell 5)
 have a6 := fun o => (show (w3.alloc o).cell? ⟨w.heap.size, 6, none⟩ = some (.slice pa lp pc) from (G3.out.1.alloc o).cell 6)
 have a7 := fun o => (show (w3.alloc o).cell? ⟨w.heap.size, 7, none⟩ = some (.string c.sig) from (G3.out.1.alloc o).cell 7)
 go_wp2_with fail
 clear a0 a1 a2 a3 a4 a5 a6 a7
 obtain ⟨W4, hW4⟩ : ∃ W, W = w3.alloc (Obj.cells #[.string c.hash, .int .i64 c.nonce, .int .i64 c.time, .int .i64 c.next, .int .i64 c.plan, .int .i64 c.err, .slice qa ql qc, .string c.sig] 28) := ⟨_, rfl⟩
 rw [<- hW4]
 obtain ⟨gl, hgl⟩ := zE (W2.heap.size)
 obtain ⟨gv, hgv⟩ := zE (w3.heap.size)
 have G4 : Hid (Blk W4 w.heap.size 28 #[.string c.hash, .int .i64 c.nonce, .int .i64 c.time, .int .i64 c.next, .int .i64 c.plan, .int .i64 c.err, .slice pa lp pc, .string c.sig] /\ Blk W4 (w.heap.size + 1) 28 #[.string ⟨#[]⟩, .int .i64 0, .int .i64 0, .int .i64 0, .int .i64 0, .int .i64 0, .slice none 0 0, .string ⟨#[]⟩] /\ Blk W4 gv 28 #[.string c.hash, .int .i64 c.nonce, .int .i64 c.time, .int .i64 c.next, .int .i64 c.plan, .int .i64 c.err, .slice qa ql qc, .string c.sig] /\ Below w.heap.size w W4 /\ OwnS awWd W4 gl (.slice qa ql qc) c.ans fp) := by
  have hb : Below w3.heap.size w3 W4 := by rw [hW4]; exact (Below.refl _ _).alloc (Nat.le_refl _) _
  exact ⟨G3.out.1.below hb G3.out.1.lt, G3.out.2.1.below hb G3.out.2.1.lt, by rw [hW4, <- hgv]; exact Blk.new w3 _ _, G3.out.2.2.1.trans (hb.mono G3.out.2.2.1.size), by rw [<- hgl]; exact G3.out.2.2.2.1.stays hb⟩
 have HRB : Hid (∀ g ∈ fp, w.heap.size + 2 <= g /\ g ≠ gv) := fun g hg => by
  have h1 := G3.out.2.2.2.1.lt g hg
  have h2 := G3.out.2.2.2.2
  rw [<- hgv]
  omega
 have HGV : Hid (w.heap.size + 2 <= gv /\ w.heap.size + 2 <= gl /\ gl <= gv) := by rw [<- hgv, <- hgl]; exact ⟨G3.out.2.2.2.2.1, G3.out.2.2.2.2.2.1, G3.out.2.2.2.2.2.2⟩
 rw [hgv]
 clear hW4 hgv hgl G3
 have E5 : Calls Tryz.prog 18 #[.agg #[.string c.hash, .int .i64 c.nonce, .int .i64 c.time, .int .i64 c.next, .int .i64 c.plan, .int .i64 c.err, .slice pa lp pc, .string c.sig]] W4 fun e w' => e = .returned (.string (rbdy c)) /\ Below W4.heap.size W4 w' := implReplyBody_any c _ W4 HZ.out.1 HZ.out.2 (HA.out.below G4.out.2.2.2.1)
 rw [HT.out.1] at E5
 refine E5.mono ?_
 rintro e w5 ⟨rfl, hb⟩
 have G5 : Hid (Blk w5 w.heap.size 28 #[.string c.hash, .int .i64 c.nonce, .int .i64 c.time, .int .i64 c.next, .int .i64 c.plan, .int .i64 c.err, .slice pa lp pc, .string c.sig] /\ Blk w5 (w.heap.size + 1) 28 #[.string ⟨#[]⟩, .int .i64 0, .int .i64 0, .int .i64 0, .int .i64 0, .int .i64 0, .slice none 0 0, .string ⟨#[]⟩] /\ Blk w5 gv 28 #[.string c.hash, .int .i64 c.nonce, .int .i64 c.time, .int .i64 c.next, .int .i64 c.plan, .int .i64 c.err, .slice qa ql qc, .string c.sig] /\ Below w.heap.size w w5 /\ OwnS awWd w5 gl (.slice qa ql qc) c.ans fp) := ⟨G4.out.1.below hb G4.out.1.lt, G4.out.2.1.below hb G4.out.2.1.lt, G4.out.2.2.1.below hb G4.out.2.2.1.lt, G4.out.2.2.2.1.trans (hb.mono G4.out.2.2.2.1.size), G4.out.2.2.2.2.stays hb⟩
 clear hb G4 E5
 go_wp2_with fail
 have E6 := implSign_any i T w5 HT.out.2.2.1 HT.out.2.2.2 (HH.out _ G5.out.2.2.2.1).1 (HH.out _ G5.out.2.2.2.1).2.1 (HH.out _ G5.out.2.2.2.1).2.2
 rw [HT.out.2.1] at E6
 refine E6.mono ?_
 rintro e w6 ⟨rfl, hb⟩
 have G6 : Hid (Blk w6 w.heap.size 28 #[.string c.hash, .int .i64 c.nonce, .int .i64 c.time, .int .i64 c.next, .int .i64 c.plan, .int .i64 c.err, .slice pa lp pc, .string c.sig] /\ Blk w6 (w.heap.size + 1) 28 #[.string ⟨#[]⟩, .int .i64 0, .int .i64 0, .int .i64 0, .int .i64 0, .int .i64 0, .slice none 0 0, .string ⟨#[]⟩] /\ Blk w6 gv 28 #[.string c.hash, .int .i64 c.nonce, .int .i64 c.time, .int .i64 c.next, .int .i64 c.plan, .int .i64 c.err, .slice qa ql qc, .string c.sig] /\ Below w.heap.size w w6 /\ OwnS awWd w6 gl (.slice qa ql qc) c.ans fp) := ⟨G5.out.1.below hb G5.out.1.lt, G5.out.2.1.below hb G5.out.2.1.lt, G5.out.2.2.1.below hb G5.out.2.2.1.lt, G5.out.2.2.2.1.trans (hb.mono G5.out.2.2.2.1.size), G5.out.2.2.2.2.stays hb⟩
 clear hb G5 E6
 have b0 : w6.cell? ⟨w.heap.size + 1, 0, none⟩ = some (.string ⟨#[]⟩) := G6.out.2.1.cell 0
 have b1 : w6.cell? ⟨w.heap.size + 1, 1, none⟩ = some (.int .i64 0) := G6.out.2.1.cell 1
 have b2 : w6.cell? ⟨w.heap.size + 1, 2, none⟩ = some (.int .i64 0) := G6.out.2.1.cell 2
 have b3 : w6.cell? ⟨w.heap.size + 1, 3, none⟩ = some (.int .i64 0) := G6.out.2.1.cell 3
 have b4 : w6.cell? ⟨w.heap.size + 1, 4, none⟩ = some (.int .i64 0) := G6.out.2.1.cell 4
 have b5 : w6.cell? ⟨w.heap.size + 1, 5, none⟩ = some (.int .i64 0) := G6.out.2.1.cell 5
 have b6 : w6.cell? ⟨w.heap.size + 1, 6, none⟩ = some (.slice none 0 0) := G6.out.2.1.cell 6
 have b7 : w6.cell? ⟨w.heap.size + 1, 7, none⟩ = some (.string ⟨#[]⟩) := G6.out.2.1.cell 7
 have d0 : w6.cell? ⟨gv, 0, none⟩ = some (.string c.hash) := G6.out.2.2.1.cell 0
 have d1 : w6.cell? ⟨gv, 1, none⟩ = some (.int .i64 c.nonce) := G6.out.2.2.1.cell 1
 have d2 : w6.cell? ⟨gv, 2, none⟩ = some (.int .i64 c.time) := G6.out.2.2.1.cell 2
 have d3 : w6.cell? ⟨gv, 3, none⟩ = some (.int .i64 c.next) := G6.out.2.2.1.cell 3
 have d4 : w6.cell? ⟨gv, 4, none⟩ = some (.int .i64 c.plan) := G6.out.2.2.1.cell 4
 have d5 : w6.cell? ⟨gv, 5, none⟩ = some (.int .i64 c.err) := G6.out.2.2.1.cell 5
 have d6 : w6.cell? ⟨gv, 6, none⟩ = some (.slice qa ql qc) := G6.out.2.2.1.cell 6
 have d7 : w6.cell? ⟨gv, 7, none⟩ = some (.string c.sig) := G6.out.2.2.1.cell 7
 have fb := fun j => G6.out.2.1.free j
 have fd := fun j => G6.out.2.2.1.free j
 have wd1 : gv ≠ w.heap.size + 1 := by have := HGV.out; omega
 have wd2 : w.heap.size + 1 ≠ gv := by have := HGV.out; omega
 have HO : Hid (∀ W', (∀ b ∈ fp, W'.heap[b]? = w6.heap[b]?) -> ∃ fp, OwnRW W' w.heap.size (.agg #[.string c.hash, .int .i64 c.nonce, .int .i64 c.time, .int .i64 c.next, .int .i64 c.plan, .int .i64 c.err, .slice qa ql qc, .string SG]) (sgR c i) fp) := fun W' h => by
  refine ⟨fp, .slice qa ql qc, ?_, ((show OwnS awWd w6 gl (.slice qa ql qc) (sgR c i).ans fp from G6.out.2.2.2.2).same h).base (by have := HGV.out; omega)⟩
  unfold sgR rpV
  rw [HT.out.1, HT.out.2.1]
 go_wp2_with fail
 refine bodyPost_ret (v := .agg #[.string c.hash, .int .i64 c.nonce, .int .i64 c.time, .int .i64 c.next, .int .i64 c.plan, .int .i64 c.err, .slice qa ql qc, .string SG]) (by simp [results, Tryz.results7, go_sem, b0, b1, b2, b3, b4, b5, b6, b7]) rfl ⟨_, rfl, HO.out _ ?far, ?bel⟩
 case far =>
  intro b hb
  have h1 := HGV.out
  have h2 := HRB.out b hb
  iterate 9 rw [heap_setCell_other _ _ _ _ (by first | (show b ≠ w.heap.size + 1; omega) | (show b ≠ gv; omega))]
 case bel =>
  have h1 := HGV.out
  iterate 9 refine Below.setCell ?_ (by first | (show w.heap.size <= w.heap.size + 1; omega) | (show w.heap.size <= gv; omega)) _
  exact G6.out.2.2.2.1
end Go.Proofs.YtlbjhibolcgnoaaGreatDoor
namespace Go.Proofs.YtlbjhibolcgnoaaGreatDoor
open Go.RowKit
set_option linter.unusedVariables false
theorem wpList_append_texts2 {w : World} {ops : Array Oper} {rest : List Oper} {o : Oper} {a : Act} {Q : Exit -> Act -> World -> Prop} (hgd : o.guard = none) (s x : Operand) (t : TypeId)
  (ho : o.op = .call { callee := .builtin .append, args := #[s, x], argTypes := #[t, t] }) (base : Nat) (i0 : TypeInfo) (ht : Tryz.prog.underlying t = some (.slice 9)) (hi : Tryz.prog.info? 9 = some i0) (hz0 : i0.zero = some (.string ByteArray.empty)) (hz1 : i0.size = 1) (hz2 : i0.bytes = 16)
  (v : Value) (n : Nat) (xs : List Value) (hs : a.eval s = v) (hown : w.ownsRow base 9 1 v n xs) (u : Value) (lu : List ByteArray) (bu : Nat) (hu : OwnT w bu u lu) (hx : a.eval x = u) (hlen : n + lu.length <= 100000000) (hbase : base <= w.heap.size)
  (h : ∀ v' w', w'.ownsRow base 9 1 v' (n + lu.length) (xs ++ cellsT lu) -> w.grownBy w' v.ownBlock -> wpList Tryz.prog ops Q rest (a.put o.dst v') w') : wpList Tryz.prog ops Q (o :: rest) a w := by
 rcases hu.2 with ⟨rfl, h0⟩ | ⟨g, cap, cur, rfl, hbg, hg, hn, hm, hsz, htk⟩
 ·have hl : lu = [] := List.eq_nil_of_length_eq_zero h0
  subst hl
  refine wpList_append_own_none hgd s x t ho base 9 i0 1 ht hi v n xs hs hown hx (h v w (by simpa [cellsT] using hown) (World.grownBy.refl _ _))
 ·refine wpList_append_own w hgd s x t ho base 9 i0 (.string ByteArray.empty) 1 16 ht hi hz0 hz1 hz2 rfl (by decide) v n xs hs hown ⟨g, 0, none⟩ lu.length cap (cellsT lu) hx (by simp [cellsT]) (fun j q hq => ?_) (fun q hq => ?_) (by unfold maxLen; omega) (by omega) hbase (fun v' w' h1 h2 _ => h v' w' h1 h2)
  ·have hj : j < lu.length := by
    refine Nat.lt_of_not_le fun h => ?_
    rw [List.getElem?_eq_none (by rw [cellsT_len]; exact h)] at hq
    cases hq
   rw [Addr.add_lit, Nat.zero_add, hu.cell hj, <- hq, cellsT_getD hj]
  ·obtain ⟨y, _, rfl⟩ := List.mem_map.1 hq
   rfl
end Go.Proofs.YtlbjhibolcgnoaaGreatDoor
namespace Go.Proofs.YtlbjhibolcgnoaaGreatDoor
open Go.RowKit Der
set_option linter.unusedVariables false
set_option linter.unusedSimpArgs false
theorem OwnS.each {α : Type} {k : Kd α} {w : World} {base : Nat} {v : Value} {l : List α} {fp : List Nat} (h : OwnS k w base v l fp) : RowS k.K w.heap.size (fun u c => k.Own w base u c) w v l := by
 obtain ⟨vs, hl, hr, he, hf, hn⟩ := h
 have hlt := hr.lt
 have hsz := OwnS.sizes hl he
 have hr' := hr
 rcases hr.2 with ⟨hv, h0⟩ | ⟨g, cap, cur, hv, hbg, hg, hnc, hcm, hcs, htk⟩
 ·exact ⟨none, 0, by rw [hv, h0], fun j hj => by omega⟩
 ·refine ⟨some ⟨g, 0, none⟩, cap, hv, fun j hj => ⟨g, 0, vs[j]'(by omega), rfl, (hlt g (by rw [hv]; rfl)).2, he j (by omega) hj, hsz _ (List.getElem_mem _), fun i x hx => ?_⟩⟩
  have hi : i < k.K := by
   have := (Array.getElem?_eq_some_iff.1 hx).1
   rw [hsz _ (List.getElem_mem _)] at this
   exact this
  rw [hv] at hr'
  have hjK : j * k.K + i < l.length * k.K := by
   have := Nat.mul_le_mul_right k.K (show j + 1 <= l.length by omega)
   rw [Nat.succ_mul] at this
   omega
  rw [Nat.zero_add, World.ownsRow.cellAt hr' _ hjK, cellsV_at hsz j (by omega) i hi]
  exact hx
def OwnAwS (w : World) (base : Nat) (v : Value) (l : List Aw) : Prop := ∃ fp, OwnS awKd w base v l fp
theorem news_aw5 (w : World) (c : Aw) (p e : Value) : ∀ j u, (awV c p e).cells.toList[j]? = some u -> (w.alloc (.cells #[.int .i64 c.status, .int .i64 c.why, p, e] 45)).cell? ((⟨w.heap.size, 0, none⟩ : Addr).add j) = some u := by
 intro j u hj
 rw [Addr.add_lit, Nat.zero_add, World.cell?_alloc_mark w _ 45 _ j]
 simpa [awV, Value.cells] using hj
theorem infoAnsX : (Tryz.prog.info? 45).map (fun i => (i.zero, i.size, i.bytes)) = some (some (.agg #[.int .i64 0, .int .i64 0, .slice none 0 0, .slice none 0 0]), 4, 64) := by kernel_rfl
theorem wpList_append_aw5 {w : World} {ops : Array Oper} {rest : List Oper} {o : Oper} {a : Act} {Q : Exit -> Act -> World -> Prop} (hgd : o.guard = none) (p q : Operand) (ho : o.op = .call { callee := .builtin .append, args := #[p, q], argTypes := #[26, 26] })
  (base : Nat) (v : Value) (l : List Aw) (c : Aw) (pv ev : Value) (hp : a.eval p = v) (H : Nat) (hq : a.eval q = .slice (some ⟨H, 0, none⟩) 1 1) (hH : w.heap.size = H) (hO : ∃ fp, OwnS awKd w base v l fp /\ ∀ x ∈ fpAw (awV c pv ev), x ∉ fp) (b2 : Nat) (hu : OwnAw w b2 (awV c pv ev) c) (hb2 : base <= b2) (hbase : base <= w.heap.size) (hl : l.length <= 100000000)
  (h : ∀ g cap w', OwnAwS w' base (.slice (some ⟨g, 0, none⟩) (l ++ [c]).length cap) (l ++ [c]) -> Below base w w' -> wpList Tryz.prog ops Q rest (a.put o.dst (.slice (some ⟨g, 0, none⟩) (l.length + 1) cap)) w') :
  wpList Tryz.prog ops Q (o :: rest) a (w.alloc (.cells #[.int .i64 c.status, .int .i64 c.why, pv, ev] 45)) := by
 subst hH
 obtain ⟨fp, hO, hd⟩ := hO
 replace hu : OwnAw w base (awV c pv ev) c := OwnAw.base hu hb2
 have hlt := hO.lt
 obtain ⟨vs, hvl, hro, he, rfl, hn⟩ := hO
 obtain ⟨i0, hi, hz0, hz1, hz2⟩ := info_parts infoAnsX
 have hb1 : Below w.heap.size w (w.alloc (.cells #[.int .i64 c.status, .int .i64 c.why, pv, ev] 45)) := (Below.refl _ _).alloc (Nat.le_refl _) _
 have hsz := size_alloc w (.cells #[.int .i64 c.status, .int .i64 c.why, pv, ev] 45)
 refine wpList_append_lies _ hgd p q 26 ho base 45 i0 (.agg #[.int .i64 0, .int .i64 0, .slice none 0 0, .slice none 0 0]) 4 64 Tryz.underlying26 hi hz0 hz1 hz2 rfl (by decide) v l.length (cellsV vs) hp (own_kept hro hb1) ⟨w.heap.size, 0, none⟩ 1 1 (awV c pv ev).cells.toList hq rfl (news_aw5 w c pv ev) (awKd.size (OwnAw.stays hu hb1)).2 (by decide) (by unfold maxLen; omega) (by omega) (by omega) _ rfl ?_
 intro g cap w' hown hgrow hg hlt2
 obtain ⟨fp', hS, -⟩ := OwnS.snoc (k := awKd) (fp := []) (c := c) (u := awV c pv ev) hvl (own_kept hro hb1) (fun j a b => awKd.same (he j a b) fun y hy => hb1.block y (awKd.lt (he j a b) y hy).2) hn (OwnAw.stays hu hb1) hd hown hgrow hg
 refine h g cap w' ⟨fp', hS⟩ ((hb1.mono hbase).grown hgrow (by rw [hsz]; omega) (fun b hb => (hlt b (List.mem_append_left _ (Option.mem_toList.2 hb))).1))
def LC (w W : World) (cr cq : Array Value) : Prop := Blk W w.heap.size 28 cr /\ Blk W (w.heap.size + 1) 28 #[.string ⟨#[]⟩, .int .i64 0, .int .i64 0, .int .i64 0, .int .i64 0, .int .i64 0, .slice none 0 0, .string ⟨#[]⟩] /\ Blk W (w.heap.size + 1 + 1) 28 cq /\ Below w.heap.size w W /\ w.heap.size + 3 <= W.heap.size
theorem LC.low {w W W' : World} {cr cq : Array Value} (h : LC w W cr cq) (hb : Below (w.heap.size + 3) W W') : LC w W' cr cq :=
 ⟨h.1.below hb (by omega), h.2.1.below hb (by omega), h.2.2.1.below hb (by omega), h.2.2.2.1.trans (hb.mono (by omega)), Nat.le_trans h.2.2.2.2 hb.size⟩
theorem LC.below {w W W' : World} {cr cq : Array Value} (h : LC w W cr cq) (hb : Below W.heap.size W W') : LC w W' cr cq := h.low (hb.mono h.2.2.2.2)
theorem size_setCell (w : World) (a : Addr) (v : Value) : (w.setCell a v).heap.size = w.heap.size := by simp
theorem LC.other {w W : World} {cr cq : Array Value} (h : LC w W cr cq) {b : Nat} (hb : w.heap.size + 3 <= b) (i : Nat) (v : Value) : LC w (W.setCell ⟨b, i, none⟩ v) cr cq :=
 ⟨h.1.other v (by show w.heap.size ≠ b; omega), h.2.1.other v (by show w.heap.size + 1 ≠ b; omega), h.2.2.1.other v (by show w.heap.size + 1 + 1 ≠ b; omega), Below.setCell h.2.2.2.1 (by show w.heap.size <= b; omega) _, by rw [size_setCell]; exact h.2.2.2.2⟩
theorem LC.set {w W : World} {cr cq cq' : Array Value} (h : LC w W cr cq) (j : Nat) (v : Value) (hc : cq.setIfInBounds j v = cq') : LC w (W.setCell ⟨w.heap.size + 1 + 1, j, none⟩ v) cr cq' :=
 ⟨h.1.other v (by show w.heap.size ≠ w.heap.size + 1 + 1; omega), h.2.1.other v (by show w.heap.size + 1 ≠ w.heap.size + 1 + 1; omega), by rw [<- hc]; exact h.2.2.1.set j v, Below.setCell h.2.2.2.1 (by show w.heap.size <= w.heap.size + 1 + 1; omega) _, by rw [size_setCell]; exact h.2.2.2.2⟩
theorem l15Copy_any (c : Rp) (v : Value) (bs : Nat) (fq : List Nat) (w : World) (hz : wtR c <= 1048576) (ha : OwnRp w bs v c fq) :
  Calls Tryz.prog 12 #[v] w fun e w' => ∃ u, e = .returned u /\ (∃ fp, OwnRp w' w.heap.size u c fp) /\ Below w.heap.size w w' := by
 obtain ⟨i9, hi9, hz09, hz19, hz29⟩ := info_parts info9
 obtain ⟨pv, rfl, h1⟩ := ha
 obtain ⟨pa, pc, hpv, -⟩ := h1.shape
 obtain ⟨M, hM⟩ := zE (c.ans.length)
 rw [hM] at hpv
 subst hpv
 have hl1 := wtAS_len c.ans
 have hl2 := wtR_ans hz
 have HX : Hid (RowS 4 w.heap.size (fun u c => OwnAw w bs u c) w (.slice pa M pc) c.ans /\ c.ans.length = M /\ M <= 1048576 /\ (∀ x ∈ c.ans, x.path.length <= 1048576 /\ x.lst.length <= 1048576)) := ⟨h1.each, hM, by omega, fun x hx => wtAw_lens (Nat.le_trans (wtAS_mem hx) hl2)⟩
 have hM9 : M <= 1048576 := HX.out.2.2.1
 clear h1 hM hz hl1 hl2
 unfold rpV
 go_enter Tryz.func12, Tryz.ntmps12
 obtain ⟨W3, hW3⟩ : ∃ W, W = ((w.alloc (Obj.cells #[.string c.hash, .int .i64 c.nonce, .int .i64 c.time, .int .i64 c.next, .int .i64 c.plan, .int .i64 c.err, .slice pa M pc, .string c.sig] 28)).alloc (Obj.cells #[.string ⟨#[]⟩, .int .i64 0, .int .i64 0, .int .i64 0, .int .i64 0, .int .i64 0, .slice none 0 0, .string ⟨#[]⟩] 28)).alloc (Obj.cells #[.string c.hash, .int .i64 c.nonce, .int .i64 c.time, .int .i64 c.next, .int .i64 c.plan, .int .i64 c.err, .slice pa M pc, .string c.sig] 28) := ⟨_, rfl⟩
 have e0 : (w.alloc (Obj.cells #[.string c.hash, .int .i64 c.nonce, .int .i64 c.time, .int .i64 c.next, .int .i64 c.plan, .int .i64 c.err, .slice pa M pc, .string c.sig] 28)).heap.size = w.heap.size + 1 := Array.size_push _
 have e1 : ((w.alloc (Obj.cells #[.string c.hash, .int .i64 c.nonce, .int .i64 c.time, .int .i64 c.next, .int .i64 c.plan, .int .i64 c.err, .slice pa M pc, .string c.sig] 28)).alloc (Obj.cells #[.string ⟨#[]⟩, .int .i64 0, .int .i64 0, .int .i64 0, .int .i64 0, .int .i64 0, .slice none 0 0, .string ⟨#[]⟩] 28)).heap.size = w.heap.size + 1 + 1 := by rw [size_alloc, e0]
 have G0 : Hid (LC w W3 #[.string c.hash, .int .i64 c.nonce, .int .i64 c.time, .int .i64 c.next, .int .i64 c.plan, .int .i64 c.err, .slice pa M pc, .string c.sig] #[.string c.hash, .int .i64 c.nonce, .int .i64 c.time, .int .i64 c.next, .int .i64 c.plan, .int .i64 c.err, .slice pa M pc, .string c.sig] /\ W3.heap.size = w.heap.size + 1 + 1 + 1) := by
  rw [hW3]
  refine ⟨⟨((Blk.new w _ _).alloc _).alloc _, ?_, ?_, (((Below.refl _ _).alloc (Nat.le_refl _) _).alloc (by rw [e0]; omega) _).alloc (by rw [e1]; omega) _, by rw [size_alloc, e1]; omega⟩, by rw [size_alloc, e1]⟩
  ·have h := (Blk.new (w.alloc (Obj.cells #[.string c.hash, .int .i64 c.nonce, .int .i64 c.time, .int .i64 c.next, .int .i64 c.plan, .int .i64 c.err, .slice pa M pc, .string c.sig] 28)) 28 #[.string ⟨#[]⟩, .int .i64 0, .int .i64 0, .int .i64 0, .int .i64 0, .int .i64 0, .slice none 0 0, .string ⟨#[]⟩]).alloc (Obj.cells #[.string c.hash, .int .i64 c.nonce, .int .i64 c.time, .int .i64 c.next, .int .i64 c.plan, .int .i64 c.err, .slice pa M pc, .string c.sig] 28)
   rw [e0] at h
   exact h
  ·have h := Blk.new ((w.alloc (Obj.cells #[.string c.hash, .int .i64 c.nonce, .int .i64 c.time, .int .i64 c.next, .int .i64 c.plan, .int .i64 c.err, .slice pa M pc, .string c.sig] 28)).alloc (Obj.cells #[.string ⟨#[]⟩, .int .i64 0, .int .i64 0, .int .i64 0, .int .i64 0, .int .i64 0, .slice none 0 0, .string ⟨#[]⟩] 28)) 28 #[.string c.hash, .int .i64 c.nonce, .int .i64 c.time, .int .i64 c.next, .int .i64 c.plan, .int .i64 c.err, .slice pa M pc, .string c.sig]
   rw [e1] at h
   exact h
 have hs3 : W3.heap.size = w.heap.size + 1 + 1 + 1 := G0.out.2
 have wd1 : w.heap.size ≠ w.heap.size + 1 + 1 := by omega
 have wd2 : w.heap.size + 1 ≠ w.heap.size + 1 + 1 := by omega
 have wd3 : w.heap.size ≠ w.heap.size + 1 := by omega
 go_upto_region 2 with fail
 rw [<- hW3]
 clear hW3 e0 e1
 obtain ⟨W4, hW4⟩ : ∃ V, V = (W3.setCell ⟨w.heap.size + 1 + 1, 6, none⟩ (.slice (some ⟨w.heap.size + 1 + 1 + 1, 0, none⟩) 0 0)).alloc (Obj.cells #[] 45) := ⟨_, rfl⟩
 have H4 : Hid (LC w W4 #[.string c.hash, .int .i64 c.nonce, .int .i64 c.time, .int .i64 c.next, .int .i64 c.plan, .int .i64 c.err, .slice pa M pc, .string c.sig] #[.string c.hash, .int .i64 c.nonce, .int .i64 c.time, .int .i64 c.next, .int .i64 c.plan, .int .i64 c.err, .slice (some ⟨w.heap.size + 1 + 1 + 1, 0, none⟩) 0 0, .string c.sig] /\ ∃ fp, OwnS awKd W4 (w.heap.size + 3) (.slice (some ⟨w.heap.size + 1 + 1 + 1, 0, none⟩) 0 0) [] fp) := by
  rw [hW4]
  refine ⟨(G0.out.1.set 6 _ rfl).below ((Below.refl _ _).alloc (Nat.le_refl _) _), [w.heap.size + 1 + 1 + 1], ?_⟩
  have h := OwnS.made awKd (W3.setCell ⟨w.heap.size + 1 + 1, 6, none⟩ (.slice (some ⟨w.heap.size + 1 + 1 + 1, 0, none⟩) 0 0)) (w.heap.size + 3) (by rw [size_setCell, hs3]; exact Nat.le_refl _)
  rw [size_setCell, hs3] at h
  exact h
 have c6 : (W3.alloc (Obj.cells #[] 45)).cell? ⟨w.heap.size + 1 + 1, 6, none⟩ = some (.slice pa M pc) := (G0.out.1.2.2.1.alloc _).cell 6
 have f6 : (W3.alloc (Obj.cells #[] 45)).frozen? ⟨w.heap.size + 1 + 1, 6, none⟩ = false := (G0.out.1.2.2.1.alloc _).free 6
 go_upto_region 3 with fail
 rw [<- hW4]
 clear hW4 hs3 G0 c6 f6
 go_wp2_with fail
 go_loopw [4] (fun iv wr => ∃ k : Nat, k <= M /\ iv = .int .i64 k /\ ∃ av : Value, Hid (LC w wr #[.string c.hash, .int .i64 c.nonce, .int .i64 c.time, .int .i64 c.next, .int .i64 c.plan, .int .i64 c.err, .slice pa M pc, .string c.sig] #[.string c.hash, .int .i64 c.nonce, .int .i64 c.time, .int .i64 c.next, .int .i64 c.plan, .int .i64 c.err, av, .string c.sig] /\ ∃ fp, OwnS awKd wr (w.heap.size + 3) av (c.ans.take k) fp)) (fun iv _ => M - (intOf iv).toNat)
 case atStart => exact ⟨0, Nat.zero_le _, rfl, _, H4.out⟩
 case round =>
  obtain ⟨k, hk, rfl, av, H⟩ := hrel
  clear H4
  have a6 : wr.cell? ⟨w.heap.size, 6, none⟩ = some (.slice pa M pc) := H.out.1.1.cell 6
  by_cases hkn : k < M
  ·have hkl : k < c.ans.length := by rw [HX.out.2.1]; exact hkn
   obtain ⟨P, hP0⟩ : ∃ P, P = c.ans.take k := ⟨_, rfl⟩
   have HPL : Hid (P.length = k /\ P = c.ans.take k) := ⟨by rw [hP0, List.length_take]; omega, hP0⟩
   rw [<- hP0] at H
   clear hP0
   obtain ⟨fp, hS⟩ := H.out.2
   obtain ⟨va, vc, hlv, -⟩ := hS.shape
   rw [HPL.out.1] at hlv
   subst hlv
   obtain ⟨g, o, u, hax, hg, hP, hs, hc⟩ := HX.out.1.get hkl
   obtain ⟨p1, q1, e1, r1, hu⟩ := AwAt.shape (OwnAw.at hP)
   subst hax
   have hki : (k : Int) < (M : Int) := by omega
   have hk0 : (0 : Int) <= (k : Int) := by omega
   obtain ⟨x, hxe⟩ := zE (c.ans[k])
   have hwx := HX.out.2.2.2 _ (List.getElem_mem hkl)
   have hrg0 := fun i y hy => (H.out.1.2.2.2.1.cell (p := ⟨g, o + k * 4 + i, none⟩) hg).trans (hc i y hy)
   rw [hxe] at hu hP hwx
   obtain ⟨n1, hn1⟩ := zE (x.path.length)
   obtain ⟨m1, hm1⟩ := zE (x.lst.length)
   have hrw : OwnT w bs (.slice p1 n1 q1) x.path /\ OwnT w bs (.slice e1 m1 r1) x.lst := by
    rw [hu, hn1, hm1] at hP
    obtain ⟨p', e', hv, hq1, hq2, -⟩ := hP
    unfold awV at hv
    injection hv with hv
    have e2 : .slice p1 n1 q1 = p' := by have := congrArg (·[2]?) hv; simpa using this
    have e3 : .slice e1 m1 r1 = e' := by have := congrArg (·[3]?) hv; simpa using this
    rw [e2, e3]
    exact ⟨hq1, hq2⟩
   rw [hn1, hm1] at hu
   unfold awV at hu
   subst hu
   have hrg : wr.rangeAt g (o + k * 4) #[.int .i64 x.status, .int .i64 x.why, .slice p1 n1 q1, .slice e1 m1 r1].toList := fun j y hy => hrg0 j y (by rw [<- hy]; exact Array.getElem?_toList.symm)
   obtain ⟨V, hV⟩ : ∃ V, V = (wr.alloc (Obj.cells #[.int .i64 0, .int .i64 0, .slice none 0 0, .slice none 0 0] 45)).setCells wr.heap.size 0 #[.int .i64 x.status, .int .i64 x.why, .slice p1 n1 q1, .slice e1 m1 r1].toList := ⟨_, rfl⟩
   have hBV : Below wr.heap.size wr V /\ Blk V wr.heap.size 45 #[.int .i64 x.status, .int .i64 x.why, .slice p1 n1 q1, .slice e1 m1 r1] := fresh_store hV rfl
   have hth := (Blk.new wr 45 #[.int .i64 0, .int .i64 0, .slice none 0 0, .slice none 0 0]).there (n := 4) rfl
   have HT : Hid (OwnT w bs (.slice p1 n1 q1) x.path /\ OwnT w bs (.slice e1 m1 r1) x.lst /\ x.path.length = n1 /\ x.lst.length = m1 /\ n1 <= 1048576 /\ m1 <= 1048576) := ⟨hrw.1, hrw.2, hn1, hm1, by rw [<- hn1]; exact hwx.1, by rw [<- hm1]; exact hwx.2⟩
   have HV : Hid (LC w V #[.string c.hash, .int .i64 c.nonce, .int .i64 c.time, .int .i64 c.next, .int .i64 c.plan, .int .i64 c.err, .slice (some ⟨g, o, none⟩) M pc, .string c.sig] #[.string c.hash, .int .i64 c.nonce, .int .i64 c.time, .int .i64 c.next, .int .i64 c.plan, .int .i64 c.err, .slice va k vc, .string c.sig] /\ OwnS awKd V (w.heap.size + 3) (.slice va k vc) P fp /\ Blk V wr.heap.size 45 #[.int .i64 x.status, .int .i64 x.why, .slice p1 n1 q1, .slice e1 m1 r1] /\ (∀ b ∈ fp, b < wr.heap.size) /\ w.heap.size + 3 <= wr.heap.size) := ⟨H.out.1.below hBV.1, hS.stays hBV.1, hBV.2, fun b hb => (hS.lt b hb).2, H.out.1.2.2.2.2⟩
   have HN : Hid (c.ans.take (k + 1) = P ++ [x]) := by
    show c.ans.take (k + 1) = P ++ [x]
    rw [HPL.out.2, <- hxe]; exact List.take_succ_eq_append_getElem hkl
   clear hP hrg0 hs hc hxe hg H hBV hrw hn1 hm1 hkl hS hwx
   go_upto_region 7 with (first | refine wpList_load_mid rfl 45 _ rfl g (o + k * 4) rfl _ _ hrg Tryz.underlying45 rfl (by kernel_rfl) ?_ | (refine step_storeV rfl 45 _ _ rfl wr.heap.size 0 #[.int .i64 x.status, .int .i64 x.why, .slice p1 n1 q1, .slice e1 m1 r1] rfl rfl hth (by kernel_rfl) (by simp [Value.oneCell']) hV ?_; clear hV hth))
   obtain ⟨gC, hgC⟩ := zE (wr.heap.size)
   rw [hgC] at HV |-
   clear hgC hrg a6
   have hgl : gC < V.heap.size := HV.out.2.2.1.lt
   have am2 : (V.alloc (Obj.cells #[] 9)).cell? ⟨gC, 2, none⟩ = some (.slice p1 n1 q1) := (HV.out.2.2.1.alloc _).cell 2
   have HM : Hid ((V.alloc (Obj.cells #[] 9)).ownsRow V.heap.size 9 1 (.slice (some ⟨V.heap.size, 0, none⟩) 0 0) 0 [] /\ OwnT (V.alloc (Obj.cells #[] 9)) bs (.slice p1 n1 q1) x.path /\ V.heap.size <= (V.alloc (Obj.cells #[] 9)).heap.size) :=
    ⟨World.ownsRow_made V (base := V.heap.size) (e := 9) (size := 1) #[] 0 (Nat.le_refl _) (Nat.zero_le _) rfl, HT.out.1.stays (HV.out.1.2.2.2.1.alloc HV.out.1.2.2.2.1.size _), by simp⟩
   go_wp2_with (at_builtin; refine wpList_append_texts2 rfl _ _ 42 rfl V.heap.size i9 Tryz.underlying42 hi9 hz09 hz19 hz29 _ 0 [] rfl HM.out.1 (.slice p1 n1 q1) x.path bs HM.out.2.1 rfl (by have := HT.out.2.2; omega) HM.out.2.2 ?_)
   intro v6 w6 ho6 hg6
   have hb6 : Below V.heap.size V w6 := ((Below.refl _ _).alloc (Nat.le_refl _) _).grown hg6 HM.out.2.2 (fun q hq => by simp [Value.ownBlock] at hq; omega)
   have on6 : OwnT w6 V.heap.size v6 x.path := by simpa [OwnT] using ho6
   obtain ⟨p6, q6, hs6⟩ : ∃ ao cap, v6 = .slice ao n1 cap := by obtain ⟨ao, cap, h, _⟩ := on6.at; exact ⟨ao, cap, by rw [<- HT.out.2.2.1]; exact h⟩
   subst hs6
   obtain ⟨V6, hV6⟩ : ∃ W, W = w6.setCell ⟨gC, 2, none⟩ (.slice p6 n1 q6) := ⟨_, rfl⟩
   have c2 : w6.cell? ⟨gC, 2, none⟩ = some (.slice p1 n1 q1) := (HV.out.2.2.1.below hb6 hgl).cell 2
   have f2 : w6.frozen? ⟨gC, 2, none⟩ = false := (HV.out.2.2.1.below hb6 hgl).free 2
   have H6 : Hid (LC w V6 #[.string c.hash, .int .i64 c.nonce, .int .i64 c.time, .int .i64 c.next, .int .i64 c.plan, .int .i64 c.err, .slice (some ⟨g, o, none⟩) M pc, .string c.sig] #[.string c.hash, .int .i64 c.nonce, .int .i64 c.time, .int .i64 c.next, .int .i64 c.plan, .int .i64 c.err, .slice va k vc, .string c.sig] /\ OwnS awKd V6 (w.heap.size + 3) (.slice va k vc) P fp /\ Blk V6 gC 45 #[.int .i64 x.status, .int .i64 x.why, .slice p6 n1 q6, .slice e1 m1 r1] /\ OwnT V6 V.heap.size (.slice p6 n1 q6) x.path /\ V.heap.size <= V6.heap.size /\ (∀ b ∈ fp, b < gC) /\ w.heap.size + 3 <= gC /\ gC < V.heap.size) := by
    rw [hV6]
    refine ⟨(HV.out.1.below hb6).other HV.out.2.2.2.2 2 _, (HV.out.2.1.stays hb6).same (fun b hb => heap_setCell_other _ _ _ _ (by have := HV.out.2.2.2.1 b hb; show b ≠ gC; omega)), (HV.out.2.2.1.below hb6 hgl).set 2 _, row_same on6 (fun b hb => heap_setCell_other _ _ _ _ (by have := (World.ownsRow.lt on6 b hb).1; show b ≠ gC; omega)), by rw [size_setCell]; exact hb6.size, HV.out.2.2.2.1, HV.out.2.2.2.2, hgl⟩
   clear ho6 hg6 hb6 on6 HM HV am2
   go_upto_region 8 with fail
   rw [<- hV6]
   clear hV6 c2 f2
   have hgl6 : gC < V6.heap.size := H6.out.2.2.1.lt
   have am3 : (V6.alloc (Obj.cells #[] 9)).cell? ⟨gC, 3, none⟩ = some (.slice e1 m1 r1) := (H6.out.2.2.1.alloc _).cell 3
   have HM : Hid ((V6.alloc (Obj.cells #[] 9)).ownsRow V6.heap.size 9 1 (.slice (some ⟨V6.heap.size, 0, none⟩) 0 0) 0 [] /\ OwnT (V6.alloc (Obj.cells #[] 9)) bs (.slice e1 m1 r1) x.lst /\ V6.heap.size <= (V6.alloc (Obj.cells #[] 9)).heap.size) :=
    ⟨World.ownsRow_made V6 (base := V6.heap.size) (e := 9) (size := 1) #[] 0 (Nat.le_refl _) (Nat.zero_le _) rfl, HT.out.2.1.stays (H6.out.1.2.2.2.1.alloc H6.out.1.2.2.2.1.size _), by simp⟩
   go_wp2_with (at_builtin; refine wpList_append_texts2 rfl _ _ 42 rfl V6.heap.size i9 Tryz.underlying42 hi9 hz09 hz19 hz29 _ 0 [] rfl HM.out.1 (.slice e1 m1 r1) x.lst bs HM.out.2.1 rfl (by have := HT.out.2.2; omega) HM.out.2.2 ?_)
   intro v8 w8 ho8 hg8
   have hb8 : Below V6.heap.size V6 w8 := ((Below.refl _ _).alloc (Nat.le_refl _) _).grown hg8 HM.out.2.2 (fun q hq => by simp [Value.ownBlock] at hq; omega)
   have on8 : OwnT w8 V6.heap.size v8 x.lst := by simpa [OwnT] using ho8
   obtain ⟨p8, q8, hs8⟩ : ∃ ao cap, v8 = .slice ao m1 cap := by obtain ⟨ao, cap, h, _⟩ := on8.at; exact ⟨ao, cap, by rw [<- HT.out.2.2.2.1]; exact h⟩
   subst hs8
   obtain ⟨V8, hV8⟩ : ∃ W, W = w8.setCell ⟨gC, 3, none⟩ (.slice p8 m1 q8) := ⟨_, rfl⟩
   have c3 : w8.cell? ⟨gC, 3, none⟩ = some (.slice e1 m1 r1) := (H6.out.2.2.1.below hb8 hgl6).cell 3
   have f3 : w8.frozen? ⟨gC, 3, none⟩ = false := (H6.out.2.2.1.below hb8 hgl6).free 3
   have H8 : Hid (LC w V8 #[.string c.hash, .int .i64 c.nonce, .int .i64 c.time, .int .i64 c.next, .int .i64 c.plan, .int .i64 c.err, .slice (some ⟨g, o, none⟩) M pc, .string c.sig] #[.string c.hash, .int .i64 c.nonce, .int .i64 c.time, .int .i64 c.next, .int .i64 c.plan, .int .i64 c.err, .slice va k vc, .string c.sig] /\ OwnS awKd V8 (w.heap.size + 3) (.slice va k vc) P fp /\ Blk V8 gC 45 #[.int .i64 x.status, .int .i64 x.why, .slice p6 n1 q6, .slice p8 m1 q8] /\ OwnAw V8 V.heap.size (awV x (.slice p6 n1 q6) (.slice p8 m1 q8)) x /\ (∀ b ∈ fp, b < gC) /\ w.heap.size + 3 <= gC /\ gC < V.heap.size) := by
    have hap := rows_apart H6.out.2.2.2.1 on8 (Nat.le_refl _)
    have hgV := H6.out.2.2.2.2.2.2.2
    have hVV := H6.out.2.2.2.2.1
    have hsame : ∀ {b : Nat}, V.heap.size <= b -> (w8.setCell ⟨gC, 3, none⟩ (.slice p8 m1 q8)).heap[b]? = w8.heap[b]? := fun {b} hb => heap_setCell_other _ _ _ _ (by show b ≠ gC; omega)
    rw [hV8]
    refine ⟨(H6.out.1.below hb8).other H6.out.2.2.2.2.2.2.1 3 _, (H6.out.2.1.stays hb8).same (fun b hb => heap_setCell_other _ _ _ _ (by have := H6.out.2.2.2.2.2.1 b hb; show b ≠ gC; omega)), (H6.out.2.2.1.below hb8 hgl6).set 3 _, ⟨_, _, rfl, ?_, ?_, hap⟩, H6.out.2.2.2.2.2.1, H6.out.2.2.2.2.2.2.1, hgV⟩
    ·have h6 := H6.out.2.2.2.1.stays hb8
     exact row_same h6 (fun b hb => hsame (World.ownsRow.lt h6 b hb).1)
    ·have h8 : OwnT w8 V.heap.size (.slice p8 m1 q8) x.lst := on8.base hVV
     exact row_same h8 (fun b hb => hsame (World.ownsRow.lt h8 b hb).1)
   clear ho8 hg8 hb8 on8 HM H6 am3
   go_upto_region 9 with fail
   rw [<- hV8]
   clear hV8 c3 f3
   have z6 : V8.cell? ⟨w.heap.size + 1 + 1, 6, none⟩ = some (.slice va k vc) := H8.out.1.2.2.1.cell 6
   have m0' : V8.cell? ⟨gC, 0, none⟩ = some (.int .i64 x.status) := H8.out.2.2.1.cell 0
   have m1' : V8.cell? ⟨gC, 1, none⟩ = some (.int .i64 x.why) := H8.out.2.2.1.cell 1
   have m2' : V8.cell? ⟨gC, 2, none⟩ = some (.slice p6 n1 q6) := H8.out.2.2.1.cell 2
   have m3' : V8.cell? ⟨gC, 3, none⟩ = some (.slice p8 m1 q8) := H8.out.2.2.1.cell 3
   have HO : Hid ((∃ fp, OwnS awKd V8 (w.heap.size + 3) (.slice va k vc) P fp /\ ∀ z ∈ fpAw (awV x (.slice p6 n1 q6) (.slice p8 m1 q8)), z ∉ fp) /\ w.heap.size + 3 <= V.heap.size) :=
    ⟨⟨fp, H8.out.2.1, fun z hz hzf => by have h5 := (fpAw_lt H8.out.2.2.2.1 z hz).1; have h6 := H8.out.2.2.2.2.1 z hzf; have h7 := H8.out.2.2.2.2.2.2; omega⟩, by have := H8.out.2.2.2.2.2; omega⟩
   go_wp2_with (at_builtin; refine wpList_append_aw5 rfl _ _ rfl (w.heap.size + 3) (.slice va k vc) P x (.slice p6 n1 q6) (.slice p8 m1 q8) rfl V8.heap.size rfl rfl HO.out.1 V.heap.size H8.out.2.2.2.1 HO.out.2 H8.out.1.2.2.2.2 (by have := HPL.out.1; omega) ?_)
   intro g9 cap9 w9 ho9 hb9
   have e9 : P.length + 1 = k + 1 := by rw [HPL.out.1]
   have L9 := H8.out.1.low hb9
   have c6 : w9.cell? ⟨w.heap.size + 1 + 1, 6, none⟩ = some (.slice va k vc) := L9.2.2.1.cell 6
   have f6 : w9.frozen? ⟨w.heap.size + 1 + 1, 6, none⟩ = false := L9.2.2.1.free 6
   have H9 : Hid (LC w (w9.setCell ⟨w.heap.size + 1 + 1, 6, none⟩ (.slice (some ⟨g9, 0, none⟩) (k + 1) cap9)) #[.string c.hash, .int .i64 c.nonce, .int .i64 c.time, .int .i64 c.next, .int .i64 c.plan, .int .i64 c.err, .slice (some ⟨g, o, none⟩) M pc, .string c.sig] #[.string c.hash, .int .i64 c.nonce, .int .i64 c.time, .int .i64 c.next, .int .i64 c.plan, .int .i64 c.err, .slice (some ⟨g9, 0, none⟩) (k + 1) cap9, .string c.sig] /\ ∃ fp, OwnS awKd (w9.setCell ⟨w.heap.size + 1 + 1, 6, none⟩ (.slice (some ⟨g9, 0, none⟩) (k + 1) cap9)) (w.heap.size + 3) (.slice (some ⟨g9, 0, none⟩) (k + 1) cap9) (c.ans.take (k + 1)) fp) := by
    refine ⟨L9.set 6 _ rfl, ?_⟩
    rw [HN.out]
    obtain ⟨fp9, h⟩ := ho9
    first | rw [List.length_append, List.length_singleton, e9] at h | rw [e9] at h
    exact ⟨fp9, h.same (fun b hb => heap_setCell_other _ _ _ _ (by have := (h.lt b hb).1; show b ≠ w.heap.size + 1 + 1; omega))⟩
   try rw [e9]
   clear ho9 hb9 e9 HN HPL H8 HO L9 z6 m0' m1' m2' m3'
   go_wp2_with fail
   exact ⟨⟨k + 1, by omega, by go_num, _, H9.out⟩, by simp [intOf]; omega⟩
  ·have hkM : M = k := by omega
   subst hkM
   obtain ⟨fp, hS⟩ := H.out.2
   rw [List.take_of_length_le (by rw [HX.out.2.1]; exact Nat.le_refl _)] at hS
   obtain ⟨va, vc, hlv, -⟩ := hS.shape
   rw [HX.out.2.1] at hlv
   subst hlv
   have HR : Hid (LC w wr #[.string c.hash, .int .i64 c.nonce, .int .i64 c.time, .int .i64 c.next, .int .i64 c.plan, .int .i64 c.err, .slice pa M pc, .string c.sig] #[.string c.hash, .int .i64 c.nonce, .int .i64 c.time, .int .i64 c.next, .int .i64 c.plan, .int .i64 c.err, .slice va M vc, .string c.sig] /\ OwnS awKd wr (w.heap.size + 3) (.slice va M vc) c.ans fp) := ⟨H.out.1, hS⟩
   clear H hS
   have d0 : wr.cell? ⟨w.heap.size + 1 + 1, 0, none⟩ = some (.string c.hash) := HR.out.1.2.2.1.cell 0
   have d1 : wr.cell? ⟨w.heap.size + 1 + 1, 1, none⟩ = some (.int .i64 c.nonce) := HR.out.1.2.2.1.cell 1
   have d2 : wr.cell? ⟨w.heap.size + 1 + 1, 2, none⟩ = some (.int .i64 c.time) := HR.out.1.2.2.1.cell 2
   have d3 : wr.cell? ⟨w.heap.size + 1 + 1, 3, none⟩ = some (.int .i64 c.next) := HR.out.1.2.2.1.cell 3
   have d4 : wr.cell? ⟨w.heap.size + 1 + 1, 4, none⟩ = some (.int .i64 c.plan) := HR.out.1.2.2.1.cell 4
   have d5 : wr.cell? ⟨w.heap.size + 1 + 1, 5, none⟩ = some (.int .i64 c.err) := HR.out.1.2.2.1.cell 5
   have d6 : wr.cell? ⟨w.heap.size + 1 + 1, 6, none⟩ = some (.slice va M vc) := HR.out.1.2.2.1.cell 6
   have d7 : wr.cell? ⟨w.heap.size + 1 + 1, 7, none⟩ = some (.string c.sig) := HR.out.1.2.2.1.cell 7
   have b0 : wr.cell? ⟨w.heap.size + 1, 0, none⟩ = some (.string ⟨#[]⟩) := HR.out.1.2.1.cell 0
   have b1 : wr.cell? ⟨w.heap.size + 1, 1, none⟩ = some (.int .i64 0) := HR.out.1.2.1.cell 1
   have b2 : wr.cell? ⟨w.heap.size + 1, 2, none⟩ = some (.int .i64 0) := HR.out.1.2.1.cell 2
   have b3 : wr.cell? ⟨w.heap.size + 1, 3, none⟩ = some (.int .i64 0) := HR.out.1.2.1.cell 3
   have b4 : wr.cell? ⟨w.heap.size + 1, 4, none⟩ = some (.int .i64 0) := HR.out.1.2.1.cell 4
   have b5 : wr.cell? ⟨w.heap.size + 1, 5, none⟩ = some (.int .i64 0) := HR.out.1.2.1.cell 5
   have b6 : wr.cell? ⟨w.heap.size + 1, 6, none⟩ = some (.slice none 0 0) := HR.out.1.2.1.cell 6
   have b7 : wr.cell? ⟨w.heap.size + 1, 7, none⟩ = some (.string ⟨#[]⟩) := HR.out.1.2.1.cell 7
   have fd := fun i => HR.out.1.2.2.1.free i
   have fb := fun i => HR.out.1.2.1.free i
   have HO : Hid (∀ W', (∀ b, w.heap.size + 3 <= b -> W'.heap[b]? = wr.heap[b]?) -> ∃ fp, OwnRp W' w.heap.size (.agg #[.string c.hash, .int .i64 c.nonce, .int .i64 c.time, .int .i64 c.next, .int .i64 c.plan, .int .i64 c.err, .slice va M vc, .string c.sig]) c fp) := fun W' h =>
    ⟨fp, _, rfl, (HR.out.2.same (fun b hb => h b (HR.out.2.lt b hb).1)).base (by omega)⟩
   have HBl : Hid (Below w.heap.size w wr) := HR.out.1.2.2.2.1
   clear HR
   go_wp2_with fail
   refine bodyPost_ret (v := .agg #[.string c.hash, .int .i64 c.nonce, .int .i64 c.time, .int .i64 c.next, .int .i64 c.plan, .int .i64 c.err, .slice va M vc, .string c.sig]) (by simp [results, Tryz.results12, go_sem, b0, b1, b2, b3, b4, b5, b6, b7]) rfl ⟨_, rfl, HO.out _ ?far, ?bel⟩
   case far =>
    intro b hb
    iterate 8 rw [heap_setCell_other _ _ _ _ (by show b ≠ w.heap.size + 1; omega)]
   case bel =>
    iterate 8 refine Below.setCell ?_ (by show w.heap.size <= w.heap.size + 1; omega) _
    exact HBl.out
def KM5 (w W : World) (a : Array Value) (kv : Value) : Prop := Below w.heap.size w W /\ Blk W w.heap.size 28 a /\ (∃ x y z, Blk3 W (w.heap.size + 1) x y z) /\ Blk3 W (w.heap.size + 1 + 1) (.int .i64 48) (.string ⟨#[]⟩) kv
theorem KM5.below {w W W' : World} {a : Array Value} {kv : Value} (h : KM5 w W a kv) (hb : Below W.heap.size W W') : KM5 w W' a kv := by
 obtain ⟨h1, h2, ⟨x, y, z, h3⟩, h4⟩ := h
 exact ⟨h1.trans (hb.mono h1.size), h2.below hb h2.lt, ⟨x, y, z, h3.below hb⟩, h4.below hb⟩
theorem KM5.size {w W : World} {a : Array Value} {kv : Value} (h : KM5 w W a kv) : w.heap.size + 3 <= W.heap.size := by
 have := h.2.2.2.lt
 omega
theorem KM5.grown {w W W' : World} {a : Array Value} {kv : Value} {row : Option Nat} (h : KM5 w W a kv) (hg : W.grownBy W' row) (hr : ∀ q, row = some q -> w.heap.size + 3 <= q) : KM5 w W' a kv := by
 obtain ⟨h1, h2, ⟨x, y, z, h3⟩, h4⟩ := h
 exact ⟨h1.grown hg h1.size (fun q hq => by have := hr q hq; omega), (hg.block _ h2.lt (fun e => by have := hr _ e.symm; omega)).trans h2, ⟨x, y, z, h3.grown hg (fun e => by have := hr _ e.symm; omega)⟩, h4.grown hg (fun e => by have := hr _ e.symm; omega)⟩
theorem KM5.laid {w W : World} {a : Array Value} {kv : Value} (h : KM5 w W a kv) (k : Value) : KM5 w (W.setCell ⟨w.heap.size + 1 + 1, 2, none⟩ k) a k := by
 obtain ⟨h1, h2, ⟨x, y, z, h3⟩, h4⟩ := h
 exact ⟨h1.setCell (p := ⟨w.heap.size + 1 + 1, 2, none⟩) (by show w.heap.size <= w.heap.size + 1 + 1; omega) _, h2.other (p := ⟨w.heap.size + 1 + 1, 2, none⟩) _ (by show w.heap.size ≠ w.heap.size + 1 + 1; omega), ⟨x, y, z, h3.other (p := ⟨w.heap.size + 1 + 1, 2, none⟩) (by show w.heap.size + 1 ≠ w.heap.size + 1 + 1; omega) _⟩, h4.set _⟩
theorem KM5.set {w W : World} {a : Array Value} {kv : Value} (h : KM5 w W a kv) (p q r : Value) : KM5 w (((W.setCell ⟨w.heap.size + 1, 0, none⟩ p).setCell ⟨w.heap.size + 1, 1, none⟩ q).setCell ⟨w.heap.size + 1, 2, none⟩ r) a kv := by
 obtain ⟨h1, h2, ⟨x, y, z, h3⟩, h4⟩ := h
 refine ⟨((h1.setCell (p := ⟨w.heap.size + 1, 0, none⟩) (Nat.le_succ _) _).setCell (p := ⟨w.heap.size + 1, 1, none⟩) (Nat.le_succ _) _).setCell (p := ⟨w.heap.size + 1, 2, none⟩) (Nat.le_succ _) _, ?_, ⟨p, q, r, ?_⟩, ?_⟩
 ·have ne : w.heap.size ≠ w.heap.size + 1 := by omega
  exact ((h2.other _ ne).other _ ne).other _ ne
 ·have e := (((show Blk W (w.heap.size + 1) 57 #[x, y, z] from h3).set 0 p).set 1 q).set 2 r
  exact e
 ·have ne : w.heap.size + 1 + 1 ≠ w.heap.size + 1 := by omega
  exact ((h4.other (p := ⟨w.heap.size + 1, 0, none⟩) ne _).other (p := ⟨w.heap.size + 1, 1, none⟩) ne _).other (p := ⟨w.heap.size + 1, 2, none⟩) ne _
theorem KM5.start (w : World) (a : Array Value) (W : World) (hW : W = ((w.alloc (Obj.cells a 28)).alloc (Obj.cells #[Value.int IntKind.i64 0, Value.string ⟨#[]⟩, Value.slice none 0 0] 57)).alloc (Obj.cells #[Value.int IntKind.i64 48, Value.string ⟨#[]⟩, Value.slice none 0 0] 57)) : KM5 w W a (.slice none 0 0) := by
 have e0 : (w.alloc (Obj.cells a 28)).heap.size = w.heap.size + 1 := Array.size_push _
 have e1 : ((w.alloc (Obj.cells a 28)).alloc (Obj.cells #[Value.int IntKind.i64 0, Value.string ⟨#[]⟩, Value.slice none 0 0] 57)).heap.size = w.heap.size + 1 + 1 := by rw [size_alloc, e0]
 refine ⟨by rw [hW]; exact (((Below.refl _ _).alloc (Nat.le_refl _) _).alloc (by rw [e0]; omega) _).alloc (by rw [e1]; omega) _, by rw [hW]; exact ((Blk.new w _ _).alloc _).alloc _, ⟨.int .i64 0, .string ⟨#[]⟩, .slice none 0 0, ?_⟩, ?_⟩
 ·have h := heap_alloc_new (w.alloc (Obj.cells a 28)) (Obj.cells #[Value.int IntKind.i64 0, Value.string ⟨#[]⟩, Value.slice none 0 0] 57)
  rw [e0] at h
  rw [hW]
  exact (heap_alloc_old _ _ (by rw [e1]; omega)).trans h
 ·have h := heap_alloc_new ((w.alloc (Obj.cells a 28)).alloc (Obj.cells #[Value.int IntKind.i64 0, Value.string ⟨#[]⟩, Value.slice none 0 0] 57)) (Obj.cells #[Value.int IntKind.i64 48, Value.string ⟨#[]⟩, Value.slice none 0 0] 57)
  rw [e1] at h
  rw [hW]
  exact h
def KX5 (w W : World) (a : Array Value) (g : Nat) (c : Array Value) : Prop := (∃ kv, KM5 w W a kv) /\ Blk W g 45 c
theorem KX5.below {w W W' : World} {a c : Array Value} {g : Nat} (h : KX5 w W a g c) (hb : Below W.heap.size W W') : KX5 w W' a g c := by
 obtain ⟨⟨kv, h⟩, h2⟩ := h
 exact ⟨⟨kv, h.below hb⟩, h2.below hb h2.lt⟩
theorem l15Item_any (c : Rp) (v : Value) (w : World) (hz : wtR c <= 20000000) (hw : WdRp c) (ha : RpAt w v c) : Calls Tryz.prog 31 #[v] w fun e w' => ToIt w 4 (bodyR c) e w' := by
 obtain ⟨pv, rfl, h1⟩ := ha
 obtain ⟨pa, pc, hpa⟩ := h1.shape
 obtain ⟨n, hn⟩ := zE (c.ans.length)
 rw [hn] at hpa
 subst hpa
 have HN : Hid ((-9223372036854775808 <= c.nonce /\ c.nonce <= 9223372036854775807) /\ (-9223372036854775808 <= c.time /\ c.time <= 9223372036854775807) /\ (-9223372036854775808 <= c.next /\ c.next <= 9223372036854775807) /\ (-9223372036854775808 <= c.plan /\ c.plan <= 9223372036854775807) /\ (-9223372036854775808 <= c.err /\ c.err <= 9223372036854775807)) := ⟨hw.1 c.nonce (by simp), hw.1 c.time (by simp), hw.1 c.next (by simp), hw.1 c.plan (by simp), hw.1 c.err (by simp)⟩
 have hzz : wtAS c.ans <= 20000000 := wtR_ans hz
 have hnl : n <= 20000000 := by have := wtAS_len c.ans; omega
 have HX : Hid (AtS awKd w (.slice pa n pc) c.ans /\ c.ans.length = n /\ wtAS c.ans <= 20000000 /\ ∀ x ∈ c.ans, WdAw x) := ⟨h1, hn, hzz, hw.2.2.1⟩
 clear h1 hn hw hz hzz
 obtain ⟨ks, hks⟩ : ∃ ks : List (It 3), c.ans.map ansI = ks := ⟨_, rfl⟩
 have HK0 : Hid (c.ans.map ansI = ks /\ ks.length = n) := ⟨hks, by rw [<- hks, List.length_map]; exact HX.out.2.1⟩
 clear hks
 unfold rpV
 go_enter Tryz.func31, Tryz.ntmps31
 go_wp2_with fail
 obtain ⟨W3, hW3⟩ : ∃ W, W = ((w.alloc (Obj.cells #[.string c.hash, .int .i64 c.nonce, .int .i64 c.time, .int .i64 c.next, .int .i64 c.plan, .int .i64 c.err, .slice pa n pc, .string c.sig] 28)).alloc (Obj.cells #[Value.int IntKind.i64 0, Value.string ⟨#[]⟩, Value.slice none 0 0] 57)).alloc (Obj.cells #[Value.int IntKind.i64 48, Value.string ⟨#[]⟩, Value.slice none 0 0] 57) := ⟨_, rfl⟩
 rw [<- hW3]
 have H3 : Hid (KM5 w W3 #[.string c.hash, .int .i64 c.nonce, .int .i64 c.time, .int .i64 c.next, .int .i64 c.plan, .int .i64 c.err, .slice pa n pc, .string c.sig] (.slice none 0 0)) := KM5.start w _ W3 hW3
 clear hW3
 go_loopw [4] (fun iv wr => ∃ k : Nat, k <= n /\ iv = .int .i64 k /\ Hid (∃ kv : Value, KM5 w wr #[.string c.hash, .int .i64 c.nonce, .int .i64 c.time, .int .i64 c.next, .int .i64 c.plan, .int .i64 c.err, .slice pa n pc, .string c.sig] (kv) /\ GrowK wr (w.heap.size + 3) 2 kv (ks.take k))) (fun iv _ => n - (intOf iv).toNat)
 case atStart => exact ⟨0, Nat.zero_le _, rfl, _, H3.out, GrowK.nil _ _ _⟩
 case round =>
  obtain ⟨k, hk, rfl, HR⟩ := hrel
  obtain ⟨kv, hr1, hrG⟩ := HR.out
  have HK : Hid (KM5 w wr #[.string c.hash, .int .i64 c.nonce, .int .i64 c.time, .int .i64 c.next, .int .i64 c.plan, .int .i64 c.err, .slice pa n pc, .string c.sig] (kv) /\ GrowK wr (w.heap.size + 3) 2 kv (ks.take k)) := ⟨hr1, hrG⟩
  clear HR hr1 hrG H3
  have y6 : wr.cell? ⟨w.heap.size, 6, none⟩ = some (.slice pa n pc) := HK.out.1.2.1.cell 6
  by_cases hlt : k < n
  ·have hlti : (k : Int) < (n : Int) := by omega
   have hk0 : (0 : Int) <= (k : Int) := by omega
   have hj0 : k < c.ans.length := by rw [HX.out.2.1]; exact hlt
   have hj1 : k < ks.length := by rw [HK0.out.2]; exact hlt
   obtain ⟨b, off, u, hao, hbB, hPu, hus, hcell⟩ := HX.out.1.get hj0
   obtain ⟨p1, q1, e1, r1, hu⟩ := AwAt.shape hPu
   obtain ⟨x, hxx⟩ := zE (c.ans[k])
   have hkx : ks[k] = ansI x := by
    have h := HK0.out.1
    subst h
    rw [List.getElem_map, hxx]
   have HT : Hid (It.tag ks[k] = 48 /\ (⟨(It.text ks[k]).toArray⟩ : ByteArray) = ⟨#[]⟩ /\ It.kids ks[k] = It.kids (ansI x)) := by
    rw [hkx]
    exact ⟨rfl, rfl, rfl⟩
   rw [hxx] at hu hPu
   have hmem : x ∈ c.ans := by rw [<- hxx]; exact List.getElem_mem _
   have hxz : wtAw x <= 20000000 := Nat.le_trans (wtAS_mem hmem) HX.out.2.2.1
   have hxw := HX.out.2.2.2 x hmem
   have hz1 : totT x.path <= 20000000 /\ totT x.lst <= 20000000 := by unfold wtAw at hxz; omega
   have HQ : Hid ((-9223372036854775808 <= x.status /\ x.status <= 9223372036854775807) /\ (-9223372036854775808 <= x.why /\ x.why <= 9223372036854775807)) := ⟨hxw.1 x.status (by simp), hxw.1 x.why (by simp)⟩
   have HW1 : Hid (x.path.length <= 20000000 /\ WdT x.path) := ⟨Nat.le_trans (tot_len _) hz1.1, fun s hs => Nat.le_trans (Nat.le_trans (tot_mem _ s hs) hz1.1) (by decide)⟩
   have HW2 : Hid (x.lst.length <= 20000000 /\ WdT x.lst) := ⟨Nat.le_trans (tot_len _) hz1.2, fun s hs => Nat.le_trans (Nat.le_trans (tot_mem _ s hs) hz1.2) (by decide)⟩
   have hcb := fun i z (hz : u.cells[i]? = some z) => (HK.out.1.1.cell (p := ⟨b, off + k * 4 + i, none⟩) (by show b < w.heap.size; exact hbB)).trans (hcell i z hz)
   subst hao hu
   have hrows := AwAt.rows hPu
   obtain ⟨n1, hn1⟩ := zE (x.path.length)
   obtain ⟨n2, hn2⟩ := zE (x.lst.length)
   have u0 : wr.cell? ⟨b, off + k * 4, none⟩ = some (.int .i64 x.status) := hcb 0 _ rfl
   have u1 : wr.cell? ⟨b, off + k * 4 + 1, none⟩ = some (.int .i64 x.why) := hcb 1 _ rfl
   have u2 : wr.cell? ⟨b, off + k * 4 + 2, none⟩ = some (.slice p1 n1 q1) := by rw [<- hn1]; exact hcb 2 _ rfl
   have u3 : wr.cell? ⟨b, off + k * 4 + 3, none⟩ = some (.slice e1 n2 r1) := by rw [<- hn2]; exact hcb 3 _ rfl
   rw [hn1, hn2] at hrows
   have HL : Hid (TxtAt w (.slice p1 n1 q1) x.path /\ TxtAt w (.slice e1 n2 r1) x.lst) := hrows
   have htl : (ks.take k).length = k := by rw [List.length_take]; omega
   have HG1 : Hid (w.heap.size + 3 <= wr.heap.size) := HK.out.1.size
   clear hcb hcell hPu hus hbB hmem hxz hxw hz1 hrows hkx hxx hn1 hn2
   obtain ⟨V2, hV⟩ : ∃ V, V = wr.alloc (Obj.cells #[.int .i64 x.status, .int .i64 x.why, .slice p1 n1 q1, .slice e1 n2 r1] 45) := ⟨_, rfl⟩
   have HS2 : Hid (KX5 w V2 #[.string c.hash, .int .i64 c.nonce, .int .i64 c.time, .int .i64 c.next, .int .i64 c.plan, .int .i64 c.err, .slice (some ⟨b, off, none⟩) n pc, .string c.sig] wr.heap.size #[.int .i64 x.status, .int .i64 x.why, .slice p1 n1 q1, .slice e1 n2 r1] /\ Below wr.heap.size wr V2) := by
    have hb : Below wr.heap.size wr V2 := by rw [hV]; exact (Below.refl _ _).alloc (Nat.le_refl _) _
    exact ⟨⟨⟨_, HK.out.1.below hb⟩, by rw [hV]; exact Blk.new wr _ _⟩, hb⟩
   go_upto_region 6 with fail
   rw [<- hV]
   clear hV u0 u1 u2 u3 y6
   have HB : Hid (Below wr.heap.size wr V2.drew) := HS2.out.2.trans ((Below.refl _ _).drew)
   have HG : Hid (Blk3 V2.drew (w.heap.size + 1 + 1) (.int .i64 48) (.string ⟨#[]⟩) kv) := (HK.out.1.2.2.2.below HS2.out.2).below ((Below.refl _ _).drew)
   refine wp_region_held_drew (S := fun W => KX5 w W #[.string c.hash, .int .i64 c.nonce, .int .i64 c.time, .int .i64 c.next, .int .i64 c.plan, .int .i64 c.err, .slice (some ⟨b, off, none⟩) n pc, .string c.sig] wr.heap.size #[.int .i64 x.status, .int .i64 x.why, .slice p1 n1 q1, .slice e1 n2 r1]) (by kernel_rfl) (KX5.below HS2.out.1 ((Below.refl _ _).drew)) (fun hHeld => ?_)
   clear HS2
   generalize V2.drew = Wd0 at hHeld HB HG |-
   refine zT 0 19 ?_ rfl (by rfl) ?_ hHeld ?_
   rotate_left
   ·intro W hSw
    go_simp
    try with_reducible rfl
   try simp only [Act.put, zA, zB, zC]
   refine zT 2 21 ?_ rfl (by rfl) ?_ hHeld ?_
   rotate_left
   ·intro W hSw
    go_simp
    try with_reducible rfl
   try simp only [Act.put, zA, zB, zC]
   refine zT 3 22 ?_ rfl (by rfl) ?_ hHeld ?_
   rotate_left
   ·intro W hSw
    have l0 : W.cell? ⟨wr.heap.size, 0, none⟩ = some (.int .i64 x.status) := hSw.2.cell 0
    go_simp
    try with_reducible rfl
   try simp only [Act.put, zA, zB, zC]
   refine zT 5 24 ?_ rfl (by rfl) ?_ hHeld ?_
   rotate_left
   ·intro W hSw
    go_simp
    try with_reducible rfl
   try simp only [Act.put, zA, zB, zC]
   refine zT 6 25 ?_ rfl (by rfl) ?_ hHeld ?_
   rotate_left
   ·intro W hSw
    have l0 : W.cell? ⟨wr.heap.size, 1, none⟩ = some (.int .i64 x.why) := hSw.2.cell 1
    go_simp
    try with_reducible rfl
   try simp only [Act.put, zA, zB, zC]
   refine zT 8 27 ?_ rfl (by rfl) ?_ hHeld ?_
   rotate_left
   ·intro W hSw
    go_simp
    try with_reducible rfl
   try simp only [Act.put, zA, zB, zC]
   refine zT 9 28 ?_ rfl (by rfl) ?_ hHeld ?_
   rotate_left
   ·intro W hSw
    have l0 : W.cell? ⟨wr.heap.size, 2, none⟩ = some (.slice p1 n1 q1) := hSw.2.cell 2
    go_simp
    try with_reducible rfl
   try simp only [Act.put, zA, zB, zC]
   refine zT 11 30 ?_ rfl (by rfl) ?_ hHeld ?_
   rotate_left
   ·intro W hSw
    go_simp
    try with_reducible rfl
   try simp only [Act.put, zA, zB, zC]
   refine zT 12 31 ?_ rfl (by rfl) ?_ hHeld ?_
   rotate_left
   ·intro W hSw
    have l0 : W.cell? ⟨wr.heap.size, 3, none⟩ = some (.slice e1 n2 r1) := hSw.2.cell 3
    go_simp
    try with_reducible rfl
   try simp only [Act.put, zA, zB, zC]
   refine wpAnyH_ready (rs := [1, 4]) (by kernel_rfl) (by simp) ?_
   refine AllReadyH.cons (o := ⟨some 20, _, _, _, _, _⟩) rfl (fun K hK => ?_) ?_
   rotate_left
   ·refine AllReadyH.cons (o := ⟨some 23, _, _, _, _, _⟩) rfl (fun K hK => ?_) AllReadyH.nil
    go_simp
    refine (specIntItem_any x.status _ HQ.out.1).mono ?_
    rintro e v1 ⟨rfl, hv⟩
    have hH := KX5.below hHeld hv
    replace HG := zH (HG.out.below hv)
    replace HB := zH (HB.out.trans ((hv).mono HB.out.size))
    go_wp2_with fail
    refine hK.out _ _ hH (fun hHeld => ?_)
    clear hK K hH hv
    try simp only [Act.put, zA, zB, zC]
    refine wpAnyH_ready (rs := [1, 7]) (by kernel_rfl) (by simp) ?_
    refine AllReadyH.cons (o := ⟨some 20, _, _, _, _, _⟩) rfl (fun K hK => ?_) ?_
    rotate_left
    ·refine AllReadyH.cons (o := ⟨some 26, _, _, _, _, _⟩) rfl (fun K hK => ?_) AllReadyH.nil
     go_simp
     refine (specIntItem_any x.why _ HQ.out.2).mono ?_
     rintro e v2 ⟨rfl, hv⟩
     have hH := KX5.below hHeld hv
     replace HG := zH (HG.out.below hv)
     replace HB := zH (HB.out.trans ((hv).mono HB.out.size))
     go_wp2_with fail
     refine hK.out _ _ hH (fun hHeld => ?_)
     clear hK K hH hv
     try simp only [Act.put, zA, zB, zC]
     refine wpAnyH_ready (rs := [1, 10]) (by kernel_rfl) (by simp) ?_
     refine AllReadyH.cons (o := ⟨some 20, _, _, _, _, _⟩) rfl (fun K hK => ?_) ?_
     rotate_left
     ·refine AllReadyH.cons (o := ⟨some 29, _, _, _, _, _⟩) rfl (fun K hK => ?_) AllReadyH.nil
      go_simp
      have hsz : wr.heap.size <= v2.heap.size := HB.out.size
      refine (bytsI_any 0 x.path _ _ HW1.out.1 HW1.out.2 ((HL.out.1.below HK.out.1.1).below HB.out)).mono ?_
      intro e v3 hto
      obtain ⟨aP, lP, cP, fP, rfl, hoT, hv⟩ := to_lst hto
      clear hto
      have hH := KX5.below hHeld hv
      replace HG := zH (HG.out.below hv)
      replace HB := zH (HB.out.trans ((hv).mono HB.out.size))
      have HP : Hid (OwnK v3 wr.heap.size 1 (.slice aP lP cP) (It.kids (n := 1) (lstJ (x.path.map bytJ))) fP) := OwnK.base hsz hoT
      clear hoT hsz
      go_wp2_with fail
      refine hK.out _ _ hH (fun hHeld => ?_)
      clear hK K hH hv
      try simp only [Act.put, zA, zB, zC]
      refine wpAnyH_ready (rs := [1, 13]) (by kernel_rfl) (by simp) ?_
      refine AllReadyH.cons (o := ⟨some 20, _, _, _, _, _⟩) rfl (fun K hK => ?_) ?_
      rotate_left
      ·refine AllReadyH.cons (o := ⟨some 32, _, _, _, _, _⟩) rfl (fun K hK => ?_) AllReadyH.nil
       go_simp
       have hsz : wr.heap.size <= v3.heap.size := HB.out.size
       refine (bytsI_any 0 x.lst _ _ HW2.out.1 HW2.out.2 ((HL.out.2.below HK.out.1.1).below HB.out)).mono ?_
       intro e v4 hto
       obtain ⟨aE, lE, cE, fE, rfl, hoT, hv⟩ := to_lst hto
       clear hto
       have hH := KX5.below hHeld hv
       have HD : Hid (∀ g ∈ fP, g ∉ fE) := fun g h1 h2 => by have := (OwnK.lt HP.out g h1).2; have := (OwnK.lt hoT g h2).1; omega
       replace HG := zH (HG.out.below hv)
       replace HB := zH (HB.out.trans ((hv).mono HB.out.size))
       replace HP := zH (HP.out.below hv (fun b hm => (OwnK.lt HP.out b hm).2))
       have HE : Hid (OwnK v4 wr.heap.size 1 (.slice aE lE cE) (It.kids (n := 1) (lstJ (x.lst.map bytJ))) fE) := OwnK.base hsz hoT
       clear hoT hsz
       go_wp2_with fail
       refine hK.out _ _ hH (fun hHeld => ?_)
       clear hK K hH hv
       try simp only [Act.put, zA, zB, zC]
       refine wpAnyH_ready (rs := [1, 14]) (by kernel_rfl) (by simp) ?_
       refine AllReadyH.cons (o := ⟨some 20, _, _, _, _, _⟩) rfl (fun K hK => ?_) ?_
       rotate_left
       ·refine AllReadyH.cons (o := ⟨some 33, _, _, _, _, _⟩) rfl (fun K hK => ?_) AllReadyH.nil
        obtain ⟨v5, hW3⟩ : ∃ W, W = v4.alloc (Obj.cells #[.int .i64 2, .string ⟨(intT (numN x.status)).toArray⟩, .slice none 0 0, .int .i64 2, .string ⟨(intT (numN x.why)).toArray⟩, .slice none 0 0, .int .i64 48, .string ⟨#[]⟩, .slice aP lP cP, .int .i64 48, .string ⟨#[]⟩, .slice aE lE cE] 57) := ⟨_, rfl⟩
        have hv : Below v4.heap.size v4 v5 := by rw [hW3]; exact (Below.refl _ _).alloc (Nat.le_refl _) _
        have HF0 : Hid (∃ fp, OwnK v5 wr.heap.size 2 (.slice (some ⟨v4.heap.size, 0, none⟩) 4 4) (It.kids ks[k]) fp) := by rw [HT.out.2.2]; exact ans_row HP.out HE.out HD.out HB.out.size hW3
        clear HP HE HD
        replace HG := zH (HG.out.below hv)
        replace HB := zH (HB.out.trans ((hv).mono HB.out.size))
        have hH := KX5.below hHeld hv
        go_simp
        rw [<- hW3]
        refine hK.out _ _ hH (fun hHeld => ?_)
        clear hK K hH hW3 hv
        try simp only [Act.put, zA, zB, zC]
        obtain ⟨q4, hq4⟩ := zE (v4.heap.size)
        rw [hq4] at HF0 |-
        clear hq4
        obtain ⟨f3, hf3⟩ := HF0.out
        have HF : Hid (OwnK v5 wr.heap.size 2 (.slice (some ⟨q4, 0, none⟩) 4 4) (It.kids ks[k]) f3) := hf3
        clear HF0 hf3
        refine zT 15 34 ?_ rfl (by rfl) ?_ hHeld ?_
        rotate_left
        ·intro W hSw
         go_simp
         try with_reducible rfl
        try simp only [Act.put, zA, zB, zC]
        refine wpAnyH_ready (rs := [1, 16]) (by kernel_rfl) (by simp) ?_
        refine AllReadyH.cons (o := ⟨some 20, _, _, _, _, _⟩) rfl (fun K hK => ?_) ?_
        rotate_left
        ·refine AllReadyH.cons (o := ⟨some 35, _, _, _, _, _⟩) rfl (fun K hK => ?_) AllReadyH.nil
         have hH := KX5.below hHeld ((Below.refl v5.heap.size v5).alloc (Nat.le_refl _) (Obj.cells #[.int .i64 48, .string ⟨#[]⟩, .slice (some ⟨q4, 0, none⟩) 4 4] 57))
         have HGn : Hid (Blk3 (v5.alloc (Obj.cells #[.int .i64 48, .string ⟨#[]⟩, .slice (some ⟨q4, 0, none⟩) 4 4] 57)) (w.heap.size + 1 + 1) (.int .i64 48) (.string ⟨#[]⟩) kv) := HG.out.below ((Below.refl _ _).alloc (Nat.le_refl _) _)
         clear HG
         have HG := HGn
         clear HGn
         go_simp
         refine hK.out _ _ hH (fun hHeld => ?_)
         clear hK K hH
         try simp only [Act.put, zA, zB, zC]
         refine wpAnyH_ready (rs := [1]) (by kernel_rfl) (by simp) ?_
         refine AllReadyH.cons (o := ⟨some 20, _, _, _, _, _⟩) rfl (fun K hK => ?_) AllReadyH.nil
         have lk : (v5.alloc (Obj.cells #[.int .i64 48, .string ⟨#[]⟩, .slice (some ⟨q4, 0, none⟩) 4 4] 57)).cell? ⟨w.heap.size + 1 + 1, 2, none⟩ = some kv := (cell_in HG.out).1.2.2
         go_simp
         refine hK.out _ _ hHeld (fun hHeld => ?_)
         clear hK K lk
         try simp only [Act.put, zA, zB, zC]
         refine wpAnyH_ready (rs := [17]) (by kernel_rfl) (by simp) ?_
         refine AllReadyH.cons (o := ⟨some 36, _, _, _, _, _⟩) rfl (fun K hK => ?_) AllReadyH.nil
         refine step_append_item0 (o := ⟨some 36, _, _, _, _, _⟩) rfl (.tmp 20) (.tmp 35) rfl (w.heap.size + 3) 2 kv (ks.take k) ks[k] 48 ⟨#[]⟩ (.slice (some ⟨q4, 0, none⟩) 4 4) f3 HT.out.1 HT.out.2.1 (by rfl) v5.heap.size (by rfl) rfl HK.out.2 HB.out HF.out HG1.out (by omega) ?_
         intro g cap w6 hG6 hgrow6
         have hm6 := (HK.out.1.below (HB.out.alloc HB.out.size (Obj.cells #[.int .i64 48, .string ⟨#[]⟩, .slice (some ⟨q4, 0, none⟩) 4 4] 57))).grown hgrow6 (fun q hq => (HK.out.2.lt q hq).1)
         have HY : Hid (Blk w6 wr.heap.size 45 #[.int .i64 x.status, .int .i64 x.why, .slice p1 n1 q1, .slice e1 n2 r1]) := (hgrow6.block _ hHeld.2.lt (fun e => by have := (HK.out.2.lt _ e.symm).2; omega)).trans hHeld.2
         have H6 : Hid (KM5 w w6 #[.string c.hash, .int .i64 c.nonce, .int .i64 c.time, .int .i64 c.next, .int .i64 c.plan, .int .i64 c.err, .slice (some ⟨b, off, none⟩) n pc, .string c.sig] kv /\ GrowK w6 (w.heap.size + 3) 2 (.slice (some ⟨g, 0, none⟩) (k + 1) cap) (ks.take (k + 1)) /\ wr.heap.size < w6.heap.size) := by
          have e := List.take_append_getElem hj1
          rw [htl, e] at hG6
          exact ⟨hm6, hG6, HY.out.lt⟩
         try rw [htl]
         clear hG6 hgrow6 hm6 HG HF HB
         refine hK.out _ _ ⟨⟨kv, H6.out.1⟩, HY.out⟩ (fun hHeld => ?_)
         clear hK K
         try simp only [Act.put, zA, zB, zC]
         refine zT 18 37 ?_ rfl (by rfl) ?_ hHeld ?_
         rotate_left
         ·intro W hSw
          go_simp
          try with_reducible rfl
         try simp only [Act.put, zA, zB, zC]
         refine wpAnyH_ready (rs := [19]) (by kernel_rfl) (by simp) ?_
         refine AllReadyH.cons (o := ⟨none, _, _, _, _, _⟩) rfl (fun K hK => ?_) AllReadyH.nil
         obtain ⟨⟨q0, q1, q2⟩, qf⟩ := cell_in H6.out.1.2.2.2
         have HZ9 : Hid (w.heap.size + 1 + 1 ≠ wr.heap.size) := by have := HG1.out; show w.heap.size + 1 + 1 ≠ wr.heap.size; omega
         go_simp
         refine hK.out _ _ ⟨⟨_, H6.out.1.laid _⟩, HY.out.other (p := ⟨w.heap.size + 1 + 1, 2, none⟩) _ (Ne.symm HZ9.out)⟩ (fun hHeld => ?_)
         clear hK K hHeld q0 q1 q2 qf
         try simp only [Act.put, zA, zB, zC]
         refine wpAnyH_done (by kernel_rfl) ?_ _
         go_wp2_with fail
         refine ⟨⟨k + 1, by omega, by go_num, .slice (some ⟨g, 0, none⟩) (k + 1) cap, H6.out.1.laid _, ?_⟩, by simp [intOf]; omega⟩
         exact H6.out.2.1.out fun b hb => heap_setCell_other _ _ _ _ (by show b ≠ w.heap.size + 1 + 1; omega)
        have lk : v5.cell? ⟨w.heap.size + 1 + 1, 2, none⟩ = some kv := (cell_in HG.out).1.2.2
        go_simp
        refine hK.out _ _ hHeld (fun hHeld => ?_)
        clear hK K lk
        try simp only [Act.put, zA, zB, zC]
        refine wpAnyH_ready (rs := [16]) (by kernel_rfl) (by simp) ?_
        refine AllReadyH.cons (o := ⟨some 35, _, _, _, _, _⟩) rfl (fun K hK => ?_) AllReadyH.nil
        have hH := KX5.below hHeld ((Below.refl v5.heap.size v5).alloc (Nat.le_refl _) (Obj.cells #[.int .i64 48, .string ⟨#[]⟩, .slice (some ⟨q4, 0, none⟩) 4 4] 57))
        have HGn : Hid (Blk3 (v5.alloc (Obj.cells #[.int .i64 48, .string ⟨#[]⟩, .slice (some ⟨q4, 0, none⟩) 4 4] 57)) (w.heap.size + 1 + 1) (.int .i64 48) (.string ⟨#[]⟩) kv) := HG.out.below ((Below.refl _ _).alloc (Nat.le_refl _) _)
        clear HG
        have HG := HGn
        clear HGn
        go_simp
        refine hK.out _ _ hH (fun hHeld => ?_)
        clear hK K hH
        try simp only [Act.put, zA, zB, zC]
        refine wpAnyH_ready (rs := [17]) (by kernel_rfl) (by simp) ?_
        refine AllReadyH.cons (o := ⟨some 36, _, _, _, _, _⟩) rfl (fun K hK => ?_) AllReadyH.nil
        refine step_append_item0 (o := ⟨some 36, _, _, _, _, _⟩) rfl (.tmp 20) (.tmp 35) rfl (w.heap.size + 3) 2 kv (ks.take k) ks[k] 48 ⟨#[]⟩ (.slice (some ⟨q4, 0, none⟩) 4 4) f3 HT.out.1 HT.out.2.1 (by rfl) v5.heap.size (by rfl) rfl HK.out.2 HB.out HF.out HG1.out (by omega) ?_
        intro g cap w6 hG6 hgrow6
        have hm6 := (HK.out.1.below (HB.out.alloc HB.out.size (Obj.cells #[.int .i64 48, .string ⟨#[]⟩, .slice (some ⟨q4, 0, none⟩) 4 4] 57))).grown hgrow6 (fun q hq => (HK.out.2.lt q hq).1)
        have HY : Hid (Blk w6 wr.heap.size 45 #[.int .i64 x.status, .int .i64 x.why, .slice p1 n1 q1, .slice e1 n2 r1]) := (hgrow6.block _ hHeld.2.lt (fun e => by have := (HK.out.2.lt _ e.symm).2; omega)).trans hHeld.2
        have H6 : Hid (KM5 w w6 #[.string c.hash, .int .i64 c.nonce, .int .i64 c.time, .int .i64 c.next, .int .i64 c.plan, .int .i64 c.err, .slice (some ⟨b, off, none⟩) n pc, .string c.sig] kv /\ GrowK w6 (w.heap.size + 3) 2 (.slice (some ⟨g, 0, none⟩) (k + 1) cap) (ks.take (k + 1)) /\ wr.heap.size < w6.heap.size) := by
         have e := List.take_append_getElem hj1
         rw [htl, e] at hG6
         exact ⟨hm6, hG6, HY.out.lt⟩
        try rw [htl]
        clear hG6 hgrow6 hm6 HG HF HB
        refine hK.out _ _ ⟨⟨kv, H6.out.1⟩, HY.out⟩ (fun hHeld => ?_)
        clear hK K
        try simp only [Act.put, zA, zB, zC]
        refine zT 18 37 ?_ rfl (by rfl) ?_ hHeld ?_
        rotate_left
        ·intro W hSw
         go_simp
         try with_reducible rfl
        try simp only [Act.put, zA, zB, zC]
        refine wpAnyH_ready (rs := [19]) (by kernel_rfl) (by simp) ?_
        refine AllReadyH.cons (o := ⟨none, _, _, _, _, _⟩) rfl (fun K hK => ?_) AllReadyH.nil
        obtain ⟨⟨q0, q1, q2⟩, qf⟩ := cell_in H6.out.1.2.2.2
        have HZ9 : Hid (w.heap.size + 1 + 1 ≠ wr.heap.size) := by have := HG1.out; show w.heap.size + 1 + 1 ≠ wr.heap.size; omega
        go_simp
        refine hK.out _ _ ⟨⟨_, H6.out.1.laid _⟩, HY.out.other (p := ⟨w.heap.size + 1 + 1, 2, none⟩) _ (Ne.symm HZ9.out)⟩ (fun hHeld => ?_)
        clear hK K hHeld q0 q1 q2 qf
        try simp only [Act.put, zA, zB, zC]
        refine wpAnyH_done (by kernel_rfl) ?_ _
        go_wp2_with fail
        refine ⟨⟨k + 1, by omega, by go_num, .slice (some ⟨g, 0, none⟩) (k + 1) cap, H6.out.1.laid _, ?_⟩, by simp [intOf]; omega⟩
        exact H6.out.2.1.out fun b hb => heap_setCell_other _ _ _ _ (by show b ≠ w.heap.size + 1 + 1; omega)
       have lk : v4.cell? ⟨w.heap.size + 1 + 1, 2, none⟩ = some kv := (cell_in HG.out).1.2.2
       go_simp
       refine hK.out _ _ hHeld (fun hHeld => ?_)
       clear hK K lk
       try simp only [Act.put, zA, zB, zC]
       refine wpAnyH_ready (rs := [14]) (by kernel_rfl) (by simp) ?_
       refine AllReadyH.cons (o := ⟨some 33, _, _, _, _, _⟩) rfl (fun K hK => ?_) AllReadyH.nil
       obtain ⟨v8, hW3⟩ : ∃ W, W = v4.alloc (Obj.cells #[.int .i64 2, .string ⟨(intT (numN x.status)).toArray⟩, .slice none 0 0, .int .i64 2, .string ⟨(intT (numN x.why)).toArray⟩, .slice none 0 0, .int .i64 48, .string ⟨#[]⟩, .slice aP lP cP, .int .i64 48, .string ⟨#[]⟩, .slice aE lE cE] 57) := ⟨_, rfl⟩
       have hv : Below v4.heap.size v4 v8 := by rw [hW3]; exact (Below.refl _ _).alloc (Nat.le_refl _) _
       have HF0 : Hid (∃ fp, OwnK v8 wr.heap.size 2 (.slice (some ⟨v4.heap.size, 0, none⟩) 4 4) (It.kids ks[k]) fp) := by rw [HT.out.2.2]; exact ans_row HP.out HE.out HD.out HB.out.size hW3
       clear HP HE HD
       replace HG := zH (HG.out.below hv)
       replace HB := zH (HB.out.trans ((hv).mono HB.out.size))
       have hH := KX5.below hHeld hv
       go_simp
       rw [<- hW3]
       refine hK.out _ _ hH (fun hHeld => ?_)
       clear hK K hH hW3 hv
       try simp only [Act.put, zA, zB, zC]
       obtain ⟨q4, hq4⟩ := zE (v4.heap.size)
       rw [hq4] at HF0 |-
       clear hq4
       obtain ⟨f3, hf3⟩ := HF0.out
       have HF : Hid (OwnK v8 wr.heap.size 2 (.slice (some ⟨q4, 0, none⟩) 4 4) (It.kids ks[k]) f3) := hf3
       clear HF0 hf3
       refine zT 15 34 ?_ rfl (by rfl) ?_ hHeld ?_
       rotate_left
       ·intro W hSw
        go_simp
        try with_reducible rfl
       try simp only [Act.put, zA, zB, zC]
       refine wpAnyH_ready (rs := [16]) (by kernel_rfl) (by simp) ?_
       refine AllReadyH.cons (o := ⟨some 35, _, _, _, _, _⟩) rfl (fun K hK => ?_) AllReadyH.nil
       have hH := KX5.below hHeld ((Below.refl v8.heap.size v8).alloc (Nat.le_refl _) (Obj.cells #[.int .i64 48, .string ⟨#[]⟩, .slice (some ⟨q4, 0, none⟩) 4 4] 57))
       have HGn : Hid (Blk3 (v8.alloc (Obj.cells #[.int .i64 48, .string ⟨#[]⟩, .slice (some ⟨q4, 0, none⟩) 4 4] 57)) (w.heap.size + 1 + 1) (.int .i64 48) (.string ⟨#[]⟩) kv) := HG.out.below ((Below.refl _ _).alloc (Nat.le_refl _) _)
       clear HG
       have HG := HGn
       clear HGn
       go_simp
       refine hK.out _ _ hH (fun hHeld => ?_)
       clear hK K hH
       try simp only [Act.put, zA, zB, zC]
       refine wpAnyH_ready (rs := [17]) (by kernel_rfl) (by simp) ?_
       refine AllReadyH.cons (o := ⟨some 36, _, _, _, _, _⟩) rfl (fun K hK => ?_) AllReadyH.nil
       refine step_append_item0 (o := ⟨some 36, _, _, _, _, _⟩) rfl (.tmp 20) (.tmp 35) rfl (w.heap.size + 3) 2 kv (ks.take k) ks[k] 48 ⟨#[]⟩ (.slice (some ⟨q4, 0, none⟩) 4 4) f3 HT.out.1 HT.out.2.1 (by rfl) v8.heap.size (by rfl) rfl HK.out.2 HB.out HF.out HG1.out (by omega) ?_
       intro g cap w6 hG6 hgrow6
       have hm6 := (HK.out.1.below (HB.out.alloc HB.out.size (Obj.cells #[.int .i64 48, .string ⟨#[]⟩, .slice (some ⟨q4, 0, none⟩) 4 4] 57))).grown hgrow6 (fun q hq => (HK.out.2.lt q hq).1)
       have HY : Hid (Blk w6 wr.heap.size 45 #[.int .i64 x.status, .int .i64 x.why, .slice p1 n1 q1, .slice e1 n2 r1]) := (hgrow6.block _ hHeld.2.lt (fun e => by have := (HK.out.2.lt _ e.symm).2; omega)).trans hHeld.2
       have H6 : Hid (KM5 w w6 #[.string c.hash, .int .i64 c.nonce, .int .i64 c.time, .int .i64 c.next, .int .i64 c.plan, .int .i64 c.err, .slice (some ⟨b, off, none⟩) n pc, .string c.sig] kv /\ GrowK w6 (w.heap.size + 3) 2 (.slice (some ⟨g, 0, none⟩) (k + 1) cap) (ks.take (k + 1)) /\ wr.heap.size < w6.heap.size) := by
        have e := List.take_append_getElem hj1
        rw [htl, e] at hG6
        exact ⟨hm6, hG6, HY.out.lt⟩
       try rw [htl]
       clear hG6 hgrow6 hm6 HG HF HB
       refine hK.out _ _ ⟨⟨kv, H6.out.1⟩, HY.out⟩ (fun hHeld => ?_)
       clear hK K
       try simp only [Act.put, zA, zB, zC]
       refine zT 18 37 ?_ rfl (by rfl) ?_ hHeld ?_
       rotate_left
       ·intro W hSw
        go_simp
        try with_reducible rfl
       try simp only [Act.put, zA, zB, zC]
       refine wpAnyH_ready (rs := [19]) (by kernel_rfl) (by simp) ?_
       refine AllReadyH.cons (o := ⟨none, _, _, _, _, _⟩) rfl (fun K hK => ?_) AllReadyH.nil
       obtain ⟨⟨q0, q1, q2⟩, qf⟩ := cell_in H6.out.1.2.2.2
       have HZ9 : Hid (w.heap.size + 1 + 1 ≠ wr.heap.size) := by have := HG1.out; show w.heap.size + 1 + 1 ≠ wr.heap.size; omega
       go_simp
       refine hK.out _ _ ⟨⟨_, H6.out.1.laid _⟩, HY.out.other (p := ⟨w.heap.size + 1 + 1, 2, none⟩) _ (Ne.symm HZ9.out)⟩ (fun hHeld => ?_)
       clear hK K hHeld q0 q1 q2 qf
       try simp only [Act.put, zA, zB, zC]
       refine wpAnyH_done (by kernel_rfl) ?_ _
       go_wp2_with fail
       refine ⟨⟨k + 1, by omega, by go_num, .slice (some ⟨g, 0, none⟩) (k + 1) cap, H6.out.1.laid _, ?_⟩, by simp [intOf]; omega⟩
       exact H6.out.2.1.out fun b hb => heap_setCell_other _ _ _ _ (by show b ≠ w.heap.size + 1 + 1; omega)
      have lk : v3.cell? ⟨w.heap.size + 1 + 1, 2, none⟩ = some kv := (cell_in HG.out).1.2.2
      go_simp
      refine hK.out _ _ hHeld (fun hHeld => ?_)
      clear hK K lk
      try simp only [Act.put, zA, zB, zC]
      refine wpAnyH_ready (rs := [13]) (by kernel_rfl) (by simp) ?_
      refine AllReadyH.cons (o := ⟨some 32, _, _, _, _, _⟩) rfl (fun K hK => ?_) AllReadyH.nil
      go_simp
      have hsz : wr.heap.size <= v3.heap.size := HB.out.size
      refine (bytsI_any 0 x.lst _ _ HW2.out.1 HW2.out.2 ((HL.out.2.below HK.out.1.1).below HB.out)).mono ?_
      intro e v10 hto
      obtain ⟨aE, lE, cE, fE, rfl, hoT, hv⟩ := to_lst hto
      clear hto
      have hH := KX5.below hHeld hv
      have HD : Hid (∀ g ∈ fP, g ∉ fE) := fun g h1 h2 => by have := (OwnK.lt HP.out g h1).2; have := (OwnK.lt hoT g h2).1; omega
      replace HG := zH (HG.out.below hv)
      replace HB := zH (HB.out.trans ((hv).mono HB.out.size))
      replace HP := zH (HP.out.below hv (fun b hm => (OwnK.lt HP.out b hm).2))
      have HE : Hid (OwnK v10 wr.heap.size 1 (.slice aE lE cE) (It.kids (n := 1) (lstJ (x.lst.map bytJ))) fE) := OwnK.base hsz hoT
      clear hoT hsz
      go_wp2_with fail
      refine hK.out _ _ hH (fun hHeld => ?_)
      clear hK K hH hv
      try simp only [Act.put, zA, zB, zC]
      refine wpAnyH_ready (rs := [14]) (by kernel_rfl) (by simp) ?_
      refine AllReadyH.cons (o := ⟨some 33, _, _, _, _, _⟩) rfl (fun K hK => ?_) AllReadyH.nil
      obtain ⟨v11, hW3⟩ : ∃ W, W = v10.alloc (Obj.cells #[.int .i64 2, .string ⟨(intT (numN x.status)).toArray⟩, .slice none 0 0, .int .i64 2, .string ⟨(intT (numN x.why)).toArray⟩, .slice none 0 0, .int .i64 48, .string ⟨#[]⟩, .slice aP lP cP, .int .i64 48, .string ⟨#[]⟩, .slice aE lE cE] 57) := ⟨_, rfl⟩
      have hv : Below v10.heap.size v10 v11 := by rw [hW3]; exact (Below.refl _ _).alloc (Nat.le_refl _) _
      have HF0 : Hid (∃ fp, OwnK v11 wr.heap.size 2 (.slice (some ⟨v10.heap.size, 0, none⟩) 4 4) (It.kids ks[k]) fp) := by rw [HT.out.2.2]; exact ans_row HP.out HE.out HD.out HB.out.size hW3
      clear HP HE HD
      replace HG := zH (HG.out.below hv)
      replace HB := zH (HB.out.trans ((hv).mono HB.out.size))
      have hH := KX5.below hHeld hv
      go_simp
      rw [<- hW3]
      refine hK.out _ _ hH (fun hHeld => ?_)
      clear hK K hH hW3 hv
      try simp only [Act.put, zA, zB, zC]
      obtain ⟨q4, hq4⟩ := zE (v10.heap.size)
      rw [hq4] at HF0 |-
      clear hq4
      obtain ⟨f3, hf3⟩ := HF0.out
      have HF : Hid (OwnK v11 wr.heap.size 2 (.slice (some ⟨q4, 0, none⟩) 4 4) (It.kids ks[k]) f3) := hf3
      clear HF0 hf3
      refine zT 15 34 ?_ rfl (by rfl) ?_ hHeld ?_
      rotate_left
      ·intro W hSw
       go_simp
       try with_reducible rfl
      try simp only [Act.put, zA, zB, zC]
      refine wpAnyH_ready (rs := [16]) (by kernel_rfl) (by simp) ?_
      refine AllReadyH.cons (o := ⟨some 35, _, _, _, _, _⟩) rfl (fun K hK => ?_) AllReadyH.nil
      have hH := KX5.below hHeld ((Below.refl v11.heap.size v11).alloc (Nat.le_refl _) (Obj.cells #[.int .i64 48, .string ⟨#[]⟩, .slice (some ⟨q4, 0, none⟩) 4 4] 57))
      have HGn : Hid (Blk3 (v11.alloc (Obj.cells #[.int .i64 48, .string ⟨#[]⟩, .slice (some ⟨q4, 0, none⟩) 4 4] 57)) (w.heap.size + 1 + 1) (.int .i64 48) (.string ⟨#[]⟩) kv) := HG.out.below ((Below.refl _ _).alloc (Nat.le_refl _) _)
      clear HG
      have HG := HGn
      clear HGn
      go_simp
      refine hK.out _ _ hH (fun hHeld => ?_)
      clear hK K hH
      try simp only [Act.put, zA, zB, zC]
      refine wpAnyH_ready (rs := [17]) (by kernel_rfl) (by simp) ?_
      refine AllReadyH.cons (o := ⟨some 36, _, _, _, _, _⟩) rfl (fun K hK => ?_) AllReadyH.nil
      refine step_append_item0 (o := ⟨some 36, _, _, _, _, _⟩) rfl (.tmp 20) (.tmp 35) rfl (w.heap.size + 3) 2 kv (ks.take k) ks[k] 48 ⟨#[]⟩ (.slice (some ⟨q4, 0, none⟩) 4 4) f3 HT.out.1 HT.out.2.1 (by rfl) v11.heap.size (by rfl) rfl HK.out.2 HB.out HF.out HG1.out (by omega) ?_
      intro g cap w6 hG6 hgrow6
      have hm6 := (HK.out.1.below (HB.out.alloc HB.out.size (Obj.cells #[.int .i64 48, .string ⟨#[]⟩, .slice (some ⟨q4, 0, none⟩) 4 4] 57))).grown hgrow6 (fun q hq => (HK.out.2.lt q hq).1)
      have HY : Hid (Blk w6 wr.heap.size 45 #[.int .i64 x.status, .int .i64 x.why, .slice p1 n1 q1, .slice e1 n2 r1]) := (hgrow6.block _ hHeld.2.lt (fun e => by have := (HK.out.2.lt _ e.symm).2; omega)).trans hHeld.2
      have H6 : Hid (KM5 w w6 #[.string c.hash, .int .i64 c.nonce, .int .i64 c.time, .int .i64 c.next, .int .i64 c.plan, .int .i64 c.err, .slice (some ⟨b, off, none⟩) n pc, .string c.sig] kv /\ GrowK w6 (w.heap.size + 3) 2 (.slice (some ⟨g, 0, none⟩) (k + 1) cap) (ks.take (k + 1)) /\ wr.heap.size < w6.heap.size) := by
       have e := List.take_append_getElem hj1
       rw [htl, e] at hG6
       exact ⟨hm6, hG6, HY.out.lt⟩
      try rw [htl]
      clear hG6 hgrow6 hm6 HG HF HB
      refine hK.out _ _ ⟨⟨kv, H6.out.1⟩, HY.out⟩ (fun hHeld => ?_)
      clear hK K
      try simp only [Act.put, zA, zB, zC]
      refine zT 18 37 ?_ rfl (by rfl) ?_ hHeld ?_
      rotate_left
      ·intro W hSw
       go_simp
       try with_reducible rfl
      try simp only [Act.put, zA, zB, zC]
      refine wpAnyH_ready (rs := [19]) (by kernel_rfl) (by simp) ?_
      refine AllReadyH.cons (o := ⟨none, _, _, _, _, _⟩) rfl (fun K hK => ?_) AllReadyH.nil
      obtain ⟨⟨q0, q1, q2⟩, qf⟩ := cell_in H6.out.1.2.2.2
      have HZ9 : Hid (w.heap.size + 1 + 1 ≠ wr.heap.size) := by have := HG1.out; show w.heap.size + 1 + 1 ≠ wr.heap.size; omega
      go_simp
      refine hK.out _ _ ⟨⟨_, H6.out.1.laid _⟩, HY.out.other (p := ⟨w.heap.size + 1 + 1, 2, none⟩) _ (Ne.symm HZ9.out)⟩ (fun hHeld => ?_)
      clear hK K hHeld q0 q1 q2 qf
      try simp only [Act.put, zA, zB, zC]
      refine wpAnyH_done (by kernel_rfl) ?_ _
      go_wp2_with fail
      refine ⟨⟨k + 1, by omega, by go_num, .slice (some ⟨g, 0, none⟩) (k + 1) cap, H6.out.1.laid _, ?_⟩, by simp [intOf]; omega⟩
      exact H6.out.2.1.out fun b hb => heap_setCell_other _ _ _ _ (by show b ≠ w.heap.size + 1 + 1; omega)
     have lk : v2.cell? ⟨w.heap.size + 1 + 1, 2, none⟩ = some kv := (cell_in HG.out).1.2.2
     go_simp
     refine hK.out _ _ hHeld (fun hHeld => ?_)
     clear hK K lk
     try simp only [Act.put, zA, zB, zC]
     refine wpAnyH_ready (rs := [10]) (by kernel_rfl) (by simp) ?_
     refine AllReadyH.cons (o := ⟨some 29, _, _, _, _, _⟩) rfl (fun K hK => ?_) AllReadyH.nil
     go_simp
     have hsz : wr.heap.size <= v2.heap.size := HB.out.size
     refine (bytsI_any 0 x.path _ _ HW1.out.1 HW1.out.2 ((HL.out.1.below HK.out.1.1).below HB.out)).mono ?_
     intro e v13 hto
     obtain ⟨aP, lP, cP, fP, rfl, hoT, hv⟩ := to_lst hto
     clear hto
     have hH := KX5.below hHeld hv
     replace HG := zH (HG.out.below hv)
     replace HB := zH (HB.out.trans ((hv).mono HB.out.size))
     have HP : Hid (OwnK v13 wr.heap.size 1 (.slice aP lP cP) (It.kids (n := 1) (lstJ (x.path.map bytJ))) fP) := OwnK.base hsz hoT
     clear hoT hsz
     go_wp2_with fail
     refine hK.out _ _ hH (fun hHeld => ?_)
     clear hK K hH hv
     try simp only [Act.put, zA, zB, zC]
     refine wpAnyH_ready (rs := [13]) (by kernel_rfl) (by simp) ?_
     refine AllReadyH.cons (o := ⟨some 32, _, _, _, _, _⟩) rfl (fun K hK => ?_) AllReadyH.nil
     go_simp
     have hsz : wr.heap.size <= v13.heap.size := HB.out.size
     refine (bytsI_any 0 x.lst _ _ HW2.out.1 HW2.out.2 ((HL.out.2.below HK.out.1.1).below HB.out)).mono ?_
     intro e v14 hto
     obtain ⟨aE, lE, cE, fE, rfl, hoT, hv⟩ := to_lst hto
     clear hto
     have hH := KX5.below hHeld hv
     have HD : Hid (∀ g ∈ fP, g ∉ fE) := fun g h1 h2 => by have := (OwnK.lt HP.out g h1).2; have := (OwnK.lt hoT g h2).1; omega
     replace HG := zH (HG.out.below hv)
     replace HB := zH (HB.out.trans ((hv).mono HB.out.size))
     replace HP := zH (HP.out.below hv (fun b hm => (OwnK.lt HP.out b hm).2))
     have HE : Hid (OwnK v14 wr.heap.size 1 (.slice aE lE cE) (It.kids (n := 1) (lstJ (x.lst.map bytJ))) fE) := OwnK.base hsz hoT
     clear hoT hsz
     go_wp2_with fail
     refine hK.out _ _ hH (fun hHeld => ?_)
     clear hK K hH hv
     try simp only [Act.put, zA, zB, zC]
     refine wpAnyH_ready (rs := [14]) (by kernel_rfl) (by simp) ?_
     refine AllReadyH.cons (o := ⟨some 33, _, _, _, _, _⟩) rfl (fun K hK => ?_) AllReadyH.nil
     obtain ⟨v15, hW3⟩ : ∃ W, W = v14.alloc (Obj.cells #[.int .i64 2, .string ⟨(intT (numN x.status)).toArray⟩, .slice none 0 0, .int .i64 2, .string ⟨(intT (numN x.why)).toArray⟩, .slice none 0 0, .int .i64 48, .string ⟨#[]⟩, .slice aP lP cP, .int .i64 48, .string ⟨#[]⟩, .slice aE lE cE] 57) := ⟨_, rfl⟩
     have hv : Below v14.heap.size v14 v15 := by rw [hW3]; exact (Below.refl _ _).alloc (Nat.le_refl _) _
     have HF0 : Hid (∃ fp, OwnK v15 wr.heap.size 2 (.slice (some ⟨v14.heap.size, 0, none⟩) 4 4) (It.kids ks[k]) fp) := by rw [HT.out.2.2]; exact ans_row HP.out HE.out HD.out HB.out.size hW3
     clear HP HE HD
     replace HG := zH (HG.out.below hv)
     replace HB := zH (HB.out.trans ((hv).mono HB.out.size))
     have hH := KX5.below hHeld hv
     go_simp
     rw [<- hW3]
     refine hK.out _ _ hH (fun hHeld => ?_)
     clear hK K hH hW3 hv
     try simp only [Act.put, zA, zB, zC]
     obtain ⟨q4, hq4⟩ := zE (v14.heap.size)
     rw [hq4] at HF0 |-
     clear hq4
     obtain ⟨f3, hf3⟩ := HF0.out
     have HF : Hid (OwnK v15 wr.heap.size 2 (.slice (some ⟨q4, 0, none⟩) 4 4) (It.kids ks[k]) f3) := hf3
     clear HF0 hf3
     refine zT 15 34 ?_ rfl (by rfl) ?_ hHeld ?_
     rotate_left
     ·intro W hSw
      go_simp
      try with_reducible rfl
     try simp only [Act.put, zA, zB, zC]
     refine wpAnyH_ready (rs := [16]) (by kernel_rfl) (by simp) ?_
     refine AllReadyH.cons (o := ⟨some 35, _, _, _, _, _⟩) rfl (fun K hK => ?_) AllReadyH.nil
     have hH := KX5.below hHeld ((Below.refl v15.heap.size v15).alloc (Nat.le_refl _) (Obj.cells #[.int .i64 48, .string ⟨#[]⟩, .slice (some ⟨q4, 0, none⟩) 4 4] 57))
     have HGn : Hid (Blk3 (v15.alloc (Obj.cells #[.int .i64 48, .string ⟨#[]⟩, .slice (some ⟨q4, 0, none⟩) 4 4] 57)) (w.heap.size + 1 + 1) (.int .i64 48) (.string ⟨#[]⟩) kv) := HG.out.below ((Below.refl _ _).alloc (Nat.le_refl _) _)
     clear HG
     have HG := HGn
     clear HGn
     go_simp
     refine hK.out _ _ hH (fun hHeld => ?_)
     clear hK K hH
     try simp only [Act.put, zA, zB, zC]
     refine wpAnyH_ready (rs := [17]) (by kernel_rfl) (by simp) ?_
     refine AllReadyH.cons (o := ⟨some 36, _, _, _, _, _⟩) rfl (fun K hK => ?_) AllReadyH.nil
     refine step_append_item0 (o := ⟨some 36, _, _, _, _, _⟩) rfl (.tmp 20) (.tmp 35) rfl (w.heap.size + 3) 2 kv (ks.take k) ks[k] 48 ⟨#[]⟩ (.slice (some ⟨q4, 0, none⟩) 4 4) f3 HT.out.1 HT.out.2.1 (by rfl) v15.heap.size (by rfl) rfl HK.out.2 HB.out HF.out HG1.out (by omega) ?_
     intro g cap w6 hG6 hgrow6
     have hm6 := (HK.out.1.below (HB.out.alloc HB.out.size (Obj.cells #[.int .i64 48, .string ⟨#[]⟩, .slice (some ⟨q4, 0, none⟩) 4 4] 57))).grown hgrow6 (fun q hq => (HK.out.2.lt q hq).1)
     have HY : Hid (Blk w6 wr.heap.size 45 #[.int .i64 x.status, .int .i64 x.why, .slice p1 n1 q1, .slice e1 n2 r1]) := (hgrow6.block _ hHeld.2.lt (fun e => by have := (HK.out.2.lt _ e.symm).2; omega)).trans hHeld.2
     have H6 : Hid (KM5 w w6 #[.string c.hash, .int .i64 c.nonce, .int .i64 c.time, .int .i64 c.next, .int .i64 c.plan, .int .i64 c.err, .slice (some ⟨b, off, none⟩) n pc, .string c.sig] kv /\ GrowK w6 (w.heap.size + 3) 2 (.slice (some ⟨g, 0, none⟩) (k + 1) cap) (ks.take (k + 1)) /\ wr.heap.size < w6.heap.size) := by
      have e := List.take_append_getElem hj1
      rw [htl, e] at hG6
      exact ⟨hm6, hG6, HY.out.lt⟩
     try rw [htl]
     clear hG6 hgrow6 hm6 HG HF HB
     refine hK.out _ _ ⟨⟨kv, H6.out.1⟩, HY.out⟩ (fun hHeld => ?_)
     clear hK K
     try simp only [Act.put, zA, zB, zC]
     refine zT 18 37 ?_ rfl (by rfl) ?_ hHeld ?_
     rotate_left
     ·intro W hSw
      go_simp
      try with_reducible rfl
     try simp only [Act.put, zA, zB, zC]
     refine wpAnyH_ready (rs := [19]) (by kernel_rfl) (by simp) ?_
     refine AllReadyH.cons (o := ⟨none, _, _, _, _, _⟩) rfl (fun K hK => ?_) AllReadyH.nil
     obtain ⟨⟨q0, q1, q2⟩, qf⟩ := cell_in H6.out.1.2.2.2
     have HZ9 : Hid (w.heap.size + 1 + 1 ≠ wr.heap.size) := by have := HG1.out; show w.heap.size + 1 + 1 ≠ wr.heap.size; omega
     go_simp
     refine hK.out _ _ ⟨⟨_, H6.out.1.laid _⟩, HY.out.other (p := ⟨w.heap.size + 1 + 1, 2, none⟩) _ (Ne.symm HZ9.out)⟩ (fun hHeld => ?_)
     clear hK K hHeld q0 q1 q2 qf
     try simp only [Act.put, zA, zB, zC]
     refine wpAnyH_done (by kernel_rfl) ?_ _
     go_wp2_with fail
     refine ⟨⟨k + 1, by omega, by go_num, .slice (some ⟨g, 0, none⟩) (k + 1) cap, H6.out.1.laid _, ?_⟩, by simp [intOf]; omega⟩
     exact H6.out.2.1.out fun b hb => heap_setCell_other _ _ _ _ (by show b ≠ w.heap.size + 1 + 1; omega)
    have lk : v1.cell? ⟨w.heap.size + 1 + 1, 2, none⟩ = some kv := (cell_in HG.out).1.2.2
    go_simp
    refine hK.out _ _ hHeld (fun hHeld => ?_)
    clear hK K lk
    try simp only [Act.put, zA, zB, zC]
    refine wpAnyH_ready (rs := [7]) (by kernel_rfl) (by simp) ?_
    refine AllReadyH.cons (o := ⟨some 26, _, _, _, _, _⟩) rfl (fun K hK => ?_) AllReadyH.nil
    go_simp
    refine (specIntItem_any x.why _ HQ.out.2).mono ?_
    rintro e v17 ⟨rfl, hv⟩
    have hH := KX5.below hHeld hv
    replace HG := zH (HG.out.below hv)
    replace HB := zH (HB.out.trans ((hv).mono HB.out.size))
    go_wp2_with fail
    refine hK.out _ _ hH (fun hHeld => ?_)
    clear hK K hH hv
    try simp only [Act.put, zA, zB, zC]
    refine wpAnyH_ready (rs := [10]) (by kernel_rfl) (by simp) ?_
    refine AllReadyH.cons (o := ⟨some 29, _, _, _, _, _⟩) rfl (fun K hK => ?_) AllReadyH.nil
    go_simp
    have hsz : wr.heap.size <= v17.heap.size := HB.out.size
    refine (bytsI_any 0 x.path _ _ HW1.out.1 HW1.out.2 ((HL.out.1.below HK.out.1.1).below HB.out)).mono ?_
    intro e v18 hto
    obtain ⟨aP, lP, cP, fP, rfl, hoT, hv⟩ := to_lst hto
    clear hto
    have hH := KX5.below hHeld hv
    replace HG := zH (HG.out.below hv)
    replace HB := zH (HB.out.trans ((hv).mono HB.out.size))
    have HP : Hid (OwnK v18 wr.heap.size 1 (.slice aP lP cP) (It.kids (n := 1) (lstJ (x.path.map bytJ))) fP) := OwnK.base hsz hoT
    clear hoT hsz
    go_wp2_with fail
    refine hK.out _ _ hH (fun hHeld => ?_)
    clear hK K hH hv
    try simp only [Act.put, zA, zB, zC]
    refine wpAnyH_ready (rs := [13]) (by kernel_rfl) (by simp) ?_
    refine AllReadyH.cons (o := ⟨some 32, _, _, _, _, _⟩) rfl (fun K hK => ?_) AllReadyH.nil
    go_simp
    have hsz : wr.heap.size <= v18.heap.size := HB.out.size
    refine (bytsI_any 0 x.lst _ _ HW2.out.1 HW2.out.2 ((HL.out.2.below HK.out.1.1).below HB.out)).mono ?_
    intro e v19 hto
    obtain ⟨aE, lE, cE, fE, rfl, hoT, hv⟩ := to_lst hto
    clear hto
    have hH := KX5.below hHeld hv
    have HD : Hid (∀ g ∈ fP, g ∉ fE) := fun g h1 h2 => by have := (OwnK.lt HP.out g h1).2; have := (OwnK.lt hoT g h2).1; omega
    replace HG := zH (HG.out.below hv)
    replace HB := zH (HB.out.trans ((hv).mono HB.out.size))
    replace HP := zH (HP.out.below hv (fun b hm => (OwnK.lt HP.out b hm).2))
    have HE : Hid (OwnK v19 wr.heap.size 1 (.slice aE lE cE) (It.kids (n := 1) (lstJ (x.lst.map bytJ))) fE) := OwnK.base hsz hoT
    clear hoT hsz
    go_wp2_with fail
    refine hK.out _ _ hH (fun hHeld => ?_)
    clear hK K hH hv
    try simp only [Act.put, zA, zB, zC]
    refine wpAnyH_ready (rs := [14]) (by kernel_rfl) (by simp) ?_
    refine AllReadyH.cons (o := ⟨some 33, _, _, _, _, _⟩) rfl (fun K hK => ?_) AllReadyH.nil
    obtain ⟨v20, hW3⟩ : ∃ W, W = v19.alloc (Obj.cells #[.int .i64 2, .string ⟨(intT (numN x.status)).toArray⟩, .slice none 0 0, .int .i64 2, .string ⟨(intT (numN x.why)).toArray⟩, .slice none 0 0, .int .i64 48, .string ⟨#[]⟩, .slice aP lP cP, .int .i64 48, .string ⟨#[]⟩, .slice aE lE cE] 57) := ⟨_, rfl⟩
    have hv : Below v19.heap.size v19 v20 := by rw [hW3]; exact (Below.refl _ _).alloc (Nat.le_refl _) _
    have HF0 : Hid (∃ fp, OwnK v20 wr.heap.size 2 (.slice (some ⟨v19.heap.size, 0, none⟩) 4 4) (It.kids ks[k]) fp) := by rw [HT.out.2.2]; exact ans_row HP.out HE.out HD.out HB.out.size hW3
    clear HP HE HD
    replace HG := zH (HG.out.below hv)
    replace HB := zH (HB.out.trans ((hv).mono HB.out.size))
    have hH := KX5.below hHeld hv
    go_simp
    rw [<- hW3]
    refine hK.out _ _ hH (fun hHeld => ?_)
    clear hK K hH hW3 hv
    try simp only [Act.put, zA, zB, zC]
    obtain ⟨q4, hq4⟩ := zE (v19.heap.size)
    rw [hq4] at HF0 |-
    clear hq4
    obtain ⟨f3, hf3⟩ := HF0.out
    have HF : Hid (OwnK v20 wr.heap.size 2 (.slice (some ⟨q4, 0, none⟩) 4 4) (It.kids ks[k]) f3) := hf3
    clear HF0 hf3
    refine zT 15 34 ?_ rfl (by rfl) ?_ hHeld ?_
    rotate_left
    ·intro W hSw
     go_simp
     try with_reducible rfl
    try simp only [Act.put, zA, zB, zC]
    refine wpAnyH_ready (rs := [16]) (by kernel_rfl) (by simp) ?_
    refine AllReadyH.cons (o := ⟨some 35, _, _, _, _, _⟩) rfl (fun K hK => ?_) AllReadyH.nil
    have hH := KX5.below hHeld ((Below.refl v20.heap.size v20).alloc (Nat.le_refl _) (Obj.cells #[.int .i64 48, .string ⟨#[]⟩, .slice (some ⟨q4, 0, none⟩) 4 4] 57))
    have HGn : Hid (Blk3 (v20.alloc (Obj.cells #[.int .i64 48, .string ⟨#[]⟩, .slice (some ⟨q4, 0, none⟩) 4 4] 57)) (w.heap.size + 1 + 1) (.int .i64 48) (.string ⟨#[]⟩) kv) := HG.out.below ((Below.refl _ _).alloc (Nat.le_refl _) _)
    clear HG
    have HG := HGn
    clear HGn
    go_simp
    refine hK.out _ _ hH (fun hHeld => ?_)
    clear hK K hH
    try simp only [Act.put, zA, zB, zC]
    refine wpAnyH_ready (rs := [17]) (by kernel_rfl) (by simp) ?_
    refine AllReadyH.cons (o := ⟨some 36, _, _, _, _, _⟩) rfl (fun K hK => ?_) AllReadyH.nil
    refine step_append_item0 (o := ⟨some 36, _, _, _, _, _⟩) rfl (.tmp 20) (.tmp 35) rfl (w.heap.size + 3) 2 kv (ks.take k) ks[k] 48 ⟨#[]⟩ (.slice (some ⟨q4, 0, none⟩) 4 4) f3 HT.out.1 HT.out.2.1 (by rfl) v20.heap.size (by rfl) rfl HK.out.2 HB.out HF.out HG1.out (by omega) ?_
    intro g cap w6 hG6 hgrow6
    have hm6 := (HK.out.1.below (HB.out.alloc HB.out.size (Obj.cells #[.int .i64 48, .string ⟨#[]⟩, .slice (some ⟨q4, 0, none⟩) 4 4] 57))).grown hgrow6 (fun q hq => (HK.out.2.lt q hq).1)
    have HY : Hid (Blk w6 wr.heap.size 45 #[.int .i64 x.status, .int .i64 x.why, .slice p1 n1 q1, .slice e1 n2 r1]) := (hgrow6.block _ hHeld.2.lt (fun e => by have := (HK.out.2.lt _ e.symm).2; omega)).trans hHeld.2
    have H6 : Hid (KM5 w w6 #[.string c.hash, .int .i64 c.nonce, .int .i64 c.time, .int .i64 c.next, .int .i64 c.plan, .int .i64 c.err, .slice (some ⟨b, off, none⟩) n pc, .string c.sig] kv /\ GrowK w6 (w.heap.size + 3) 2 (.slice (some ⟨g, 0, none⟩) (k + 1) cap) (ks.take (k + 1)) /\ wr.heap.size < w6.heap.size) := by
     have e := List.take_append_getElem hj1
     rw [htl, e] at hG6
     exact ⟨hm6, hG6, HY.out.lt⟩
    try rw [htl]
    clear hG6 hgrow6 hm6 HG HF HB
    refine hK.out _ _ ⟨⟨kv, H6.out.1⟩, HY.out⟩ (fun hHeld => ?_)
    clear hK K
    try simp only [Act.put, zA, zB, zC]
    refine zT 18 37 ?_ rfl (by rfl) ?_ hHeld ?_
    rotate_left
    ·intro W hSw
     go_simp
     try with_reducible rfl
    try simp only [Act.put, zA, zB, zC]
    refine wpAnyH_ready (rs := [19]) (by kernel_rfl) (by simp) ?_
    refine AllReadyH.cons (o := ⟨none, _, _, _, _, _⟩) rfl (fun K hK => ?_) AllReadyH.nil
    obtain ⟨⟨q0, q1, q2⟩, qf⟩ := cell_in H6.out.1.2.2.2
    have HZ9 : Hid (w.heap.size + 1 + 1 ≠ wr.heap.size) := by have := HG1.out; show w.heap.size + 1 + 1 ≠ wr.heap.size; omega
    go_simp
    refine hK.out _ _ ⟨⟨_, H6.out.1.laid _⟩, HY.out.other (p := ⟨w.heap.size + 1 + 1, 2, none⟩) _ (Ne.symm HZ9.out)⟩ (fun hHeld => ?_)
    clear hK K hHeld q0 q1 q2 qf
    try simp only [Act.put, zA, zB, zC]
    refine wpAnyH_done (by kernel_rfl) ?_ _
    go_wp2_with fail
    refine ⟨⟨k + 1, by omega, by go_num, .slice (some ⟨g, 0, none⟩) (k + 1) cap, H6.out.1.laid _, ?_⟩, by simp [intOf]; omega⟩
    exact H6.out.2.1.out fun b hb => heap_setCell_other _ _ _ _ (by show b ≠ w.heap.size + 1 + 1; omega)
   have lk : Wd0.cell? ⟨w.heap.size + 1 + 1, 2, none⟩ = some kv := (cell_in HG.out).1.2.2
   go_simp
   refine hK.out _ _ hHeld (fun hHeld => ?_)
   clear hK K lk
   try simp only [Act.put, zA, zB, zC]
   refine wpAnyH_ready (rs := [4]) (by kernel_rfl) (by simp) ?_
   refine AllReadyH.cons (o := ⟨some 23, _, _, _, _, _⟩) rfl (fun K hK => ?_) AllReadyH.nil
   go_simp
   refine (specIntItem_any x.status _ HQ.out.1).mono ?_
   rintro e v22 ⟨rfl, hv⟩
   have hH := KX5.below hHeld hv
   replace HG := zH (HG.out.below hv)
   replace HB := zH (HB.out.trans ((hv).mono HB.out.size))
   go_wp2_with fail
   refine hK.out _ _ hH (fun hHeld => ?_)
   clear hK K hH hv
   try simp only [Act.put, zA, zB, zC]
   refine wpAnyH_ready (rs := [7]) (by kernel_rfl) (by simp) ?_
   refine AllReadyH.cons (o := ⟨some 26, _, _, _, _, _⟩) rfl (fun K hK => ?_) AllReadyH.nil
   go_simp
   refine (specIntItem_any x.why _ HQ.out.2).mono ?_
   rintro e v23 ⟨rfl, hv⟩
   have hH := KX5.below hHeld hv
   replace HG := zH (HG.out.below hv)
   replace HB := zH (HB.out.trans ((hv).mono HB.out.size))
   go_wp2_with fail
   refine hK.out _ _ hH (fun hHeld => ?_)
   clear hK K hH hv
   try simp only [Act.put, zA, zB, zC]
   refine wpAnyH_ready (rs := [10]) (by kernel_rfl) (by simp) ?_
   refine AllReadyH.cons (o := ⟨some 29, _, _, _, _, _⟩) rfl (fun K hK => ?_) AllReadyH.nil
   go_simp
   have hsz : wr.heap.size <= v23.heap.size := HB.out.size
   refine (bytsI_any 0 x.path _ _ HW1.out.1 HW1.out.2 ((HL.out.1.below HK.out.1.1).below HB.out)).mono ?_
   intro e v24 hto
   obtain ⟨aP, lP, cP, fP, rfl, hoT, hv⟩ := to_lst hto
   clear hto
   have hH := KX5.below hHeld hv
   replace HG := zH (HG.out.below hv)
   replace HB := zH (HB.out.trans ((hv).mono HB.out.size))
   have HP : Hid (OwnK v24 wr.heap.size 1 (.slice aP lP cP) (It.kids (n := 1) (lstJ (x.path.map bytJ))) fP) := OwnK.base hsz hoT
   clear hoT hsz
   go_wp2_with fail
   refine hK.out _ _ hH (fun hHeld => ?_)
   clear hK K hH hv
   try simp only [Act.put, zA, zB, zC]
   refine wpAnyH_ready (rs := [13]) (by kernel_rfl) (by simp) ?_
   refine AllReadyH.cons (o := ⟨some 32, _, _, _, _, _⟩) rfl (fun K hK => ?_) AllReadyH.nil
   go_simp
   have hsz : wr.heap.size <= v24.heap.size := HB.out.size
   refine (bytsI_any 0 x.lst _ _ HW2.out.1 HW2.out.2 ((HL.out.2.below HK.out.1.1).below HB.out)).mono ?_
   intro e v25 hto
   obtain ⟨aE, lE, cE, fE, rfl, hoT, hv⟩ := to_lst hto
   clear hto
   have hH := KX5.below hHeld hv
   have HD : Hid (∀ g ∈ fP, g ∉ fE) := fun g h1 h2 => by have := (OwnK.lt HP.out g h1).2; have := (OwnK.lt hoT g h2).1; omega
   replace HG := zH (HG.out.below hv)
   replace HB := zH (HB.out.trans ((hv).mono HB.out.size))
   replace HP := zH (HP.out.below hv (fun b hm => (OwnK.lt HP.out b hm).2))
   have HE : Hid (OwnK v25 wr.heap.size 1 (.slice aE lE cE) (It.kids (n := 1) (lstJ (x.lst.map bytJ))) fE) := OwnK.base hsz hoT
   clear hoT hsz
   go_wp2_with fail
   refine hK.out _ _ hH (fun hHeld => ?_)
   clear hK K hH hv
   try simp only [Act.put, zA, zB, zC]
   refine wpAnyH_ready (rs := [14]) (by kernel_rfl) (by simp) ?_
   refine AllReadyH.cons (o := ⟨some 33, _, _, _, _, _⟩) rfl (fun K hK => ?_) AllReadyH.nil
   obtain ⟨v26, hW3⟩ : ∃ W, W = v25.alloc (Obj.cells #[.int .i64 2, .string ⟨(intT (numN x.status)).toArray⟩, .slice none 0 0, .int .i64 2, .string ⟨(intT (numN x.why)).toArray⟩, .slice none 0 0, .int .i64 48, .string ⟨#[]⟩, .slice aP lP cP, .int .i64 48, .string ⟨#[]⟩, .slice aE lE cE] 57) := ⟨_, rfl⟩
   have hv : Below v25.heap.size v25 v26 := by rw [hW3]; exact (Below.refl _ _).alloc (Nat.le_refl _) _
   have HF0 : Hid (∃ fp, OwnK v26 wr.heap.size 2 (.slice (some ⟨v25.heap.size, 0, none⟩) 4 4) (It.kids ks[k]) fp) := by rw [HT.out.2.2]; exact ans_row HP.out HE.out HD.out HB.out.size hW3
   clear HP HE HD
   replace HG := zH (HG.out.below hv)
   replace HB := zH (HB.out.trans ((hv).mono HB.out.size))
   have hH := KX5.below hHeld hv
   go_simp
   rw [<- hW3]
   refine hK.out _ _ hH (fun hHeld => ?_)
   clear hK K hH hW3 hv
   try simp only [Act.put, zA, zB, zC]
   obtain ⟨q4, hq4⟩ := zE (v25.heap.size)
   rw [hq4] at HF0 |-
   clear hq4
   obtain ⟨f3, hf3⟩ := HF0.out
   have HF : Hid (OwnK v26 wr.heap.size 2 (.slice (some ⟨q4, 0, none⟩) 4 4) (It.kids ks[k]) f3) := hf3
   clear HF0 hf3
   refine zT 15 34 ?_ rfl (by rfl) ?_ hHeld ?_
   rotate_left
   ·intro W hSw
    go_simp
    try with_reducible rfl
   try simp only [Act.put, zA, zB, zC]
   refine wpAnyH_ready (rs := [16]) (by kernel_rfl) (by simp) ?_
   refine AllReadyH.cons (o := ⟨some 35, _, _, _, _, _⟩) rfl (fun K hK => ?_) AllReadyH.nil
   have hH := KX5.below hHeld ((Below.refl v26.heap.size v26).alloc (Nat.le_refl _) (Obj.cells #[.int .i64 48, .string ⟨#[]⟩, .slice (some ⟨q4, 0, none⟩) 4 4] 57))
   have HGn : Hid (Blk3 (v26.alloc (Obj.cells #[.int .i64 48, .string ⟨#[]⟩, .slice (some ⟨q4, 0, none⟩) 4 4] 57)) (w.heap.size + 1 + 1) (.int .i64 48) (.string ⟨#[]⟩) kv) := HG.out.below ((Below.refl _ _).alloc (Nat.le_refl _) _)
   clear HG
   have HG := HGn
   clear HGn
   go_simp
   refine hK.out _ _ hH (fun hHeld => ?_)
   clear hK K hH
   try simp only [Act.put, zA, zB, zC]
   refine wpAnyH_ready (rs := [17]) (by kernel_rfl) (by simp) ?_
   refine AllReadyH.cons (o := ⟨some 36, _, _, _, _, _⟩) rfl (fun K hK => ?_) AllReadyH.nil
   refine step_append_item0 (o := ⟨some 36, _, _, _, _, _⟩) rfl (.tmp 20) (.tmp 35) rfl (w.heap.size + 3) 2 kv (ks.take k) ks[k] 48 ⟨#[]⟩ (.slice (some ⟨q4, 0, none⟩) 4 4) f3 HT.out.1 HT.out.2.1 (by rfl) v26.heap.size (by rfl) rfl HK.out.2 HB.out HF.out HG1.out (by omega) ?_
   intro g cap w6 hG6 hgrow6
   have hm6 := (HK.out.1.below (HB.out.alloc HB.out.size (Obj.cells #[.int .i64 48, .string ⟨#[]⟩, .slice (some ⟨q4, 0, none⟩) 4 4] 57))).grown hgrow6 (fun q hq => (HK.out.2.lt q hq).1)
   have HY : Hid (Blk w6 wr.heap.size 45 #[.int .i64 x.status, .int .i64 x.why, .slice p1 n1 q1, .slice e1 n2 r1]) := (hgrow6.block _ hHeld.2.lt (fun e => by have := (HK.out.2.lt _ e.symm).2; omega)).trans hHeld.2
   have H6 : Hid (KM5 w w6 #[.string c.hash, .int .i64 c.nonce, .int .i64 c.time, .int .i64 c.next, .int .i64 c.plan, .int .i64 c.err, .slice (some ⟨b, off, none⟩) n pc, .string c.sig] kv /\ GrowK w6 (w.heap.size + 3) 2 (.slice (some ⟨g, 0, none⟩) (k + 1) cap) (ks.take (k + 1)) /\ wr.heap.size < w6.heap.size) := by
    have e := List.take_append_getElem hj1
    rw [htl, e] at hG6
    exact ⟨hm6, hG6, HY.out.lt⟩
   try rw [htl]
   clear hG6 hgrow6 hm6 HG HF HB
   refine hK.out _ _ ⟨⟨kv, H6.out.1⟩, HY.out⟩ (fun hHeld => ?_)
   clear hK K
   try simp only [Act.put, zA, zB, zC]
   refine zT 18 37 ?_ rfl (by rfl) ?_ hHeld ?_
   rotate_left
   ·intro W hSw
    go_simp
    try with_reducible rfl
   try simp only [Act.put, zA, zB, zC]
   refine wpAnyH_ready (rs := [19]) (by kernel_rfl) (by simp) ?_
   refine AllReadyH.cons (o := ⟨none, _, _, _, _, _⟩) rfl (fun K hK => ?_) AllReadyH.nil
   obtain ⟨⟨q0, q1, q2⟩, qf⟩ := cell_in H6.out.1.2.2.2
   have HZ9 : Hid (w.heap.size + 1 + 1 ≠ wr.heap.size) := by have := HG1.out; show w.heap.size + 1 + 1 ≠ wr.heap.size; omega
   go_simp
   refine hK.out _ _ ⟨⟨_, H6.out.1.laid _⟩, HY.out.other (p := ⟨w.heap.size + 1 + 1, 2, none⟩) _ (Ne.symm HZ9.out)⟩ (fun hHeld => ?_)
   clear hK K hHeld q0 q1 q2 qf
   try simp only [Act.put, zA, zB, zC]
   refine wpAnyH_done (by kernel_rfl) ?_ _
   go_wp2_with fail
   refine ⟨⟨k + 1, by omega, by go_num, .slice (some ⟨g, 0, none⟩) (k + 1) cap, H6.out.1.laid _, ?_⟩, by simp [intOf]; omega⟩
   exact H6.out.2.1.out fun b hb => heap_setCell_other _ _ _ _ (by show b ≠ w.heap.size + 1 + 1; omega)
  ·have hlti : ¬ (k : Int) < (n : Int) := by omega
   have HE : Hid (∃ fp, OwnK wr (w.heap.size + 3) 3 kv (c.ans.map ansI) fp) := by
    have h := HK.out.2
    rw [List.take_of_length_le (by have := HK0.out.2; omega), <- HK0.out.1] at h
    exact h.own
   obtain ⟨axe, cape, hkv⟩ := HK.out.2.shape
   obtain ⟨le, hle⟩ := zE ((ks.take k).length)
   rw [hle] at hkv
   subst hkv
   clear hle
   have HM : Hid (KM5 w wr #[.string c.hash, .int .i64 c.nonce, .int .i64 c.time, .int .i64 c.next, .int .i64 c.plan, .int .i64 c.err, .slice pa n pc, .string c.sig] (.slice axe le cape)) := HK.out.1
   clear HK
   go_wp2_with fail
   clear y6
   refine wp_region_held_drew (S := fun W => KM5 w W #[.string c.hash, .int .i64 c.nonce, .int .i64 c.time, .int .i64 c.next, .int .i64 c.plan, .int .i64 c.err, .slice pa n pc, .string c.sig] (.slice axe le cape)) (by kernel_rfl) (KM5.below HM.out ((Below.refl _ _).drew)) (fun hHeld => ?_)
   have HE0 : Hid (∃ fp, OwnK wr.drew (w.heap.size + 3) 3 (.slice axe le cape) (c.ans.map ansI) fp) := by
    obtain ⟨fp, h⟩ := HE.out
    exact ⟨fp, h.below (Below.refl _ _).drew (fun b hb => (OwnK.lt h b hb).2)⟩
   clear HM HE
   generalize wr.drew = Wd0 at hHeld HE0 |-
   refine zT 0 38 ?_ rfl (by rfl) ?_ hHeld ?_
   rotate_left
   ·intro W hSw
    go_simp
    try with_reducible rfl
   try simp only [Act.put, zA, zB, zC]
   refine zT 1 39 ?_ rfl (by rfl) ?_ hHeld ?_
   rotate_left
   ·intro W hSw
    have l0 : W.cell? ⟨w.heap.size, 0, none⟩ = some (.string c.hash) := hSw.2.1.cell 0
    go_simp
    try with_reducible rfl
   try simp only [Act.put, zA, zB, zC]
   refine zT 3 41 ?_ rfl (by rfl) ?_ hHeld ?_
   rotate_left
   ·intro W hSw
    go_simp
    try with_reducible rfl
   try simp only [Act.put, zA, zB, zC]
   refine zT 4 42 ?_ rfl (by rfl) ?_ hHeld ?_
   rotate_left
   ·intro W hSw
    have l0 : W.cell? ⟨w.heap.size, 1, none⟩ = some (.int .i64 c.nonce) := hSw.2.1.cell 1
    go_simp
    try with_reducible rfl
   try simp only [Act.put, zA, zB, zC]
   refine zT 6 44 ?_ rfl (by rfl) ?_ hHeld ?_
   rotate_left
   ·intro W hSw
    go_simp
    try with_reducible rfl
   try simp only [Act.put, zA, zB, zC]
   refine zT 7 45 ?_ rfl (by rfl) ?_ hHeld ?_
   rotate_left
   ·intro W hSw
    have l0 : W.cell? ⟨w.heap.size, 2, none⟩ = some (.int .i64 c.time) := hSw.2.1.cell 2
    go_simp
    try with_reducible rfl
   try simp only [Act.put, zA, zB, zC]
   refine zT 9 47 ?_ rfl (by rfl) ?_ hHeld ?_
   rotate_left
   ·intro W hSw
    go_simp
    try with_reducible rfl
   try simp only [Act.put, zA, zB, zC]
   refine zT 10 48 ?_ rfl (by rfl) ?_ hHeld ?_
   rotate_left
   ·intro W hSw
    have l0 : W.cell? ⟨w.heap.size, 3, none⟩ = some (.int .i64 c.next) := hSw.2.1.cell 3
    go_simp
    try with_reducible rfl
   try simp only [Act.put, zA, zB, zC]
   refine zT 12 50 ?_ rfl (by rfl) ?_ hHeld ?_
   rotate_left
   ·intro W hSw
    go_simp
    try with_reducible rfl
   try simp only [Act.put, zA, zB, zC]
   refine zT 13 51 ?_ rfl (by rfl) ?_ hHeld ?_
   rotate_left
   ·intro W hSw
    have l0 : W.cell? ⟨w.heap.size, 4, none⟩ = some (.int .i64 c.plan) := hSw.2.1.cell 4
    go_simp
    try with_reducible rfl
   try simp only [Act.put, zA, zB, zC]
   refine zT 15 53 ?_ rfl (by rfl) ?_ hHeld ?_
   rotate_left
   ·intro W hSw
    go_simp
    try with_reducible rfl
   try simp only [Act.put, zA, zB, zC]
   refine zT 16 54 ?_ rfl (by rfl) ?_ hHeld ?_
   rotate_left
   ·intro W hSw
    have l0 : W.cell? ⟨w.heap.size, 5, none⟩ = some (.int .i64 c.err) := hSw.2.1.cell 5
    go_simp
    try with_reducible rfl
   try simp only [Act.put, zA, zB, zC]
   refine zT 18 56 ?_ rfl (by rfl) ?_ hHeld ?_
   rotate_left
   ·intro W hSw
    obtain ⟨⟨l0, l1, l2⟩, -⟩ := cell_in hSw.2.2.2
    go_simp
    try with_reducible rfl
   try simp only [Act.put, zA, zB, zC]
   refine wpAnyH_ready (rs := [2]) (by kernel_rfl) (by simp) ?_
   refine AllReadyH.cons (o := ⟨some 40, _, _, _, _, _⟩) rfl (fun K hK => ?_) AllReadyH.nil
   go_simp
   refine (bytes_any c.hash _).mono ?_
   rintro e v1 ⟨rfl, hv⟩
   have hH := KM5.below hHeld hv
   have HE1 : Hid (∃ fp, OwnK v1 (w.heap.size + 3) 3 (.slice axe le cape) (c.ans.map ansI) fp) := by
    obtain ⟨fp, h⟩ := HE0.out
    exact ⟨fp, h.below hv (fun b hb => (OwnK.lt h b hb).2)⟩
   clear HE0
   go_wp2_with fail
   refine hK.out _ _ hH (fun hHeld => ?_)
   clear hK K hH hv
   try simp only [Act.put, zA, zB, zC]
   refine wpAnyH_ready (rs := [5]) (by kernel_rfl) (by simp) ?_
   refine AllReadyH.cons (o := ⟨some 43, _, _, _, _, _⟩) rfl (fun K hK => ?_) AllReadyH.nil
   go_simp
   refine (specIntItem_any c.nonce _ HN.out.1).mono ?_
   rintro e v2 ⟨rfl, hv⟩
   have hH := KM5.below hHeld hv
   have HE2 : Hid (∃ fp, OwnK v2 (w.heap.size + 3) 3 (.slice axe le cape) (c.ans.map ansI) fp) := by
    obtain ⟨fp, h⟩ := HE1.out
    exact ⟨fp, h.below hv (fun b hb => (OwnK.lt h b hb).2)⟩
   clear HE1
   go_wp2_with fail
   refine hK.out _ _ hH (fun hHeld => ?_)
   clear hK K hH hv
   try simp only [Act.put, zA, zB, zC]
   refine wpAnyH_ready (rs := [8]) (by kernel_rfl) (by simp) ?_
   refine AllReadyH.cons (o := ⟨some 46, _, _, _, _, _⟩) rfl (fun K hK => ?_) AllReadyH.nil
   go_simp
   refine (specIntItem_any c.time _ HN.out.2.1).mono ?_
   rintro e v3 ⟨rfl, hv⟩
   have hH := KM5.below hHeld hv
   have HE3 : Hid (∃ fp, OwnK v3 (w.heap.size + 3) 3 (.slice axe le cape) (c.ans.map ansI) fp) := by
    obtain ⟨fp, h⟩ := HE2.out
    exact ⟨fp, h.below hv (fun b hb => (OwnK.lt h b hb).2)⟩
   clear HE2
   go_wp2_with fail
   refine hK.out _ _ hH (fun hHeld => ?_)
   clear hK K hH hv
   try simp only [Act.put, zA, zB, zC]
   refine wpAnyH_ready (rs := [11]) (by kernel_rfl) (by simp) ?_
   refine AllReadyH.cons (o := ⟨some 49, _, _, _, _, _⟩) rfl (fun K hK => ?_) AllReadyH.nil
   go_simp
   refine (specIntItem_any c.next _ HN.out.2.2.1).mono ?_
   rintro e v4 ⟨rfl, hv⟩
   have hH := KM5.below hHeld hv
   have HE4 : Hid (∃ fp, OwnK v4 (w.heap.size + 3) 3 (.slice axe le cape) (c.ans.map ansI) fp) := by
    obtain ⟨fp, h⟩ := HE3.out
    exact ⟨fp, h.below hv (fun b hb => (OwnK.lt h b hb).2)⟩
   clear HE3
   go_wp2_with fail
   refine hK.out _ _ hH (fun hHeld => ?_)
   clear hK K hH hv
   try simp only [Act.put, zA, zB, zC]
   refine wpAnyH_ready (rs := [14]) (by kernel_rfl) (by simp) ?_
   refine AllReadyH.cons (o := ⟨some 52, _, _, _, _, _⟩) rfl (fun K hK => ?_) AllReadyH.nil
   go_simp
   refine (specIntItem_any c.plan _ HN.out.2.2.2.1).mono ?_
   rintro e v5 ⟨rfl, hv⟩
   have hH := KM5.below hHeld hv
   have HE5 : Hid (∃ fp, OwnK v5 (w.heap.size + 3) 3 (.slice axe le cape) (c.ans.map ansI) fp) := by
    obtain ⟨fp, h⟩ := HE4.out
    exact ⟨fp, h.below hv (fun b hb => (OwnK.lt h b hb).2)⟩
   clear HE4
   go_wp2_with fail
   refine hK.out _ _ hH (fun hHeld => ?_)
   clear hK K hH hv
   try simp only [Act.put, zA, zB, zC]
   refine wpAnyH_ready (rs := [17]) (by kernel_rfl) (by simp) ?_
   refine AllReadyH.cons (o := ⟨some 55, _, _, _, _, _⟩) rfl (fun K hK => ?_) AllReadyH.nil
   go_simp
   refine (specIntItem_any c.err _ HN.out.2.2.2.2).mono ?_
   rintro e v6 ⟨rfl, hv⟩
   have hH := KM5.below hHeld hv
   have HE6 : Hid (∃ fp, OwnK v6 (w.heap.size + 3) 3 (.slice axe le cape) (c.ans.map ansI) fp) := by
    obtain ⟨fp, h⟩ := HE5.out
    exact ⟨fp, h.below hv (fun b hb => (OwnK.lt h b hb).2)⟩
   clear HE5
   go_wp2_with fail
   refine hK.out _ _ hH (fun hHeld => ?_)
   clear hK K hH hv
   try simp only [Act.put, zA, zB, zC]
   refine wpAnyH_ready (rs := [19]) (by kernel_rfl) (by simp) ?_
   refine AllReadyH.cons (o := ⟨some 57, _, _, _, _, _⟩) rfl (fun K hK => ?_) AllReadyH.nil
   have HF : Hid (∃ fq, OwnK (v6.alloc (Obj.cells #[.int .i64 4, .string c.hash, .slice none 0 0, .int .i64 2, .string ⟨(intT (numN c.nonce)).toArray⟩, .slice none 0 0, .int .i64 2, .string ⟨(intT (numN c.time)).toArray⟩, .slice none 0 0, .int .i64 2, .string ⟨(intT (numN c.next)).toArray⟩, .slice none 0 0, .int .i64 2, .string ⟨(intT (numN c.plan)).toArray⟩, .slice none 0 0, .int .i64 2, .string ⟨(intT (numN c.err)).toArray⟩, .slice none 0 0, .int .i64 48, .string ⟨#[]⟩, .slice axe le cape] 57)) (w.heap.size + 3) 4 (.slice (some ⟨v6.heap.size, 0, none⟩) 7 7) (It.kids (bodyR c)) fq) := by
    obtain ⟨fp, h⟩ := HE6.out
    exact bodyR_row h (KM5.size hHeld) rfl
   clear HE6
   go_simp
   refine hK.out _ _ (KM5.below hHeld ((Below.refl _ _).alloc (Nat.le_refl _) _)) (fun hHeld => ?_)
   clear hK K
   try simp only [Act.put, zA, zB, zC]
   refine zT 20 58 ?_ rfl (by rfl) ?_ hHeld ?_
   rotate_left
   ·intro W hSw
    go_simp
    try with_reducible rfl
   try simp only [Act.put, zA, zB, zC]
   refine wpAnyH_ready (rs := [21]) (by kernel_rfl) (by simp) ?_
   refine AllReadyH.cons (o := ⟨none, _, _, _, _, _⟩) rfl (fun K hK => ?_) AllReadyH.nil
   obtain ⟨W9, hW9⟩ : ∃ W, W = v6.alloc (Obj.cells #[.int .i64 4, .string c.hash, .slice none 0 0, .int .i64 2, .string ⟨(intT (numN c.nonce)).toArray⟩, .slice none 0 0, .int .i64 2, .string ⟨(intT (numN c.time)).toArray⟩, .slice none 0 0, .int .i64 2, .string ⟨(intT (numN c.next)).toArray⟩, .slice none 0 0, .int .i64 2, .string ⟨(intT (numN c.plan)).toArray⟩, .slice none 0 0, .int .i64 2, .string ⟨(intT (numN c.err)).toArray⟩, .slice none 0 0, .int .i64 48, .string ⟨#[]⟩, .slice axe le cape] 57) := ⟨_, rfl⟩
   obtain ⟨q9, hq9⟩ := zE (v6.heap.size)
   rw [<- hW9] at HF hHeld |-
   rw [hq9] at HF |-
   clear hW9 hq9
   obtain ⟨x9, y9, z9, hB9⟩ := hHeld.2.2.1
   obtain ⟨⟨r0, r1, r2⟩, rf⟩ := cell_in hB9
   go_simp
   refine hK.out _ _ (KM5.set hHeld _ _ _) (fun hHeld => ?_)
   clear hK K
   try simp only [Act.put, zA, zB, zC]
   refine wpAnyH_done (by kernel_rfl) ?_ _
   have HEND : Hid (Below w.heap.size w _) := hHeld.1
   clear hHeld
   go_wp2_with fail
   refine bodyPost_ret (v := .agg #[.int .i64 48, .string ⟨#[]⟩, .slice (some ⟨q9, 0, none⟩) 7 7]) (by simp [results, Tryz.results31, go_sem, r0, r1, r2]; try rfl) rfl ?_
   obtain ⟨fp, hfp⟩ := HF.out
   refine ⟨.slice (some ⟨q9, 0, none⟩) 7 7, fp, rfl, ?_, HEND.out⟩
   refine OwnK.base (base := w.heap.size + 3) (by omega) (hfp.same fun b hb => ?_)
   have h1 := (OwnK.lt hfp b hb).1
   rw [heap_setCell_other _ _ _ _ (by show b ≠ w.heap.size + 1; omega), heap_setCell_other _ _ _ _ (by show b ≠ w.heap.size + 1; omega), heap_setCell_other _ _ _ _ (by show b ≠ w.heap.size + 1; omega)]
end Go.Proofs.YtlbjhibolcgnoaaGreatDoor
