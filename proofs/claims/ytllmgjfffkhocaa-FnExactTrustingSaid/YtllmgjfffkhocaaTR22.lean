/-
  Texts of the proof.
-/
import Derived.Test.YtllmgjfffkhocaaTR21
set_option maxRecDepth 100000
set_option maxHeartbeats 25600000
namespace Go.Proofs.Ytllmgjfffkhocaa
open Go.RowKit
set_option linter.unusedVariables false
def mkRu (k : Nat) (c : Ru) : Ru := { c with pol := marksI k c.pol.length }
def fpRu (v : Value) : List Nat := match v with
 | .agg a => (a.getD 1 (.slice none 0 0)).ownBlock.toList
 | _ => []
theorem fpRu_mem {c : Ru} {p : Value} {g : Nat} : g ∈ fpRu (ruV c p) ↔ p.ownBlock = some g := by
 show g ∈ p.ownBlock.toList ↔ _
 simp [Option.mem_toList]
theorem markRules_out (c : Ru) (v : Value) (k base : Nat) (w : World) (hl : c.pol.length <= 20000000) (hk1 : 1 <= k) (hk : k <= 100000000) (ha : OwnU w base v c) :
  Calls Try.prog 28 #[v, .int .i64 k] w fun e w' => e = .returned (.int .i64 (((k + c.pol.length : Nat)) : Int)) /\ OwnU w' base v (mkRu k c) /\ Out (fpRu v) w w' := by
 obtain ⟨p, rfl, h1⟩ := ha
 obtain ⟨ap, cp, hp⟩ : ∃ ao cap, p = .slice ao c.pol.length cap := by obtain ⟨ao, cap, h, _⟩ := h1.at; exact ⟨ao, cap, h⟩
 obtain ⟨lp, hlp⟩ := zE (c.pol.length)
 rw [hlp] at hp
 subst hp
 have HB : Hid (∀ g, (Value.slice ap lp cp).ownBlock = some g -> g < w.heap.size) := fun g hg => (World.ownsRow.lt h1 g hg).2
 have HA : Hid (OwnI w base (.slice ap lp cp) c.pol /\ c.pol.length = lp) := ⟨h1, hlp⟩
 rw [hlp] at hl
 have hm : mkRu k c = { c with pol := marksI k lp } := by unfold mkRu; rw [hlp]
 rw [hm, hlp]
 clear h1 hm hlp
 unfold ruV
 go_enter Try.func28, Try.ntmps28
 go_wp2_with fail
 obtain ⟨V, hV⟩ : ∃ V, V = w.alloc (Obj.cells #[.int .i64 c.time, .slice ap lp cp, .bool c.expl, .bool c.chk, .int .i64 c.usage] 54) := ⟨_, rfl⟩
 rw [<- hV]
 have G : Hid (Out (fpRu (ruV c (.slice ap lp cp))) w V /\ OwnI V base (.slice ap lp cp) c.pol) := by
  have hb : Below w.heap.size w V := by rw [hV]; exact (Below.refl _ _).alloc (Nat.le_refl _) _
  exact ⟨Out.of_below hb, HA.out.1.stays hb⟩
 clear hV
 have E0 := mark_any (.slice ap lp cp) c.pol k base V (by rw [HA.out.2]; omega) (by omega) G.out.2
 rw [HA.out.2] at E0
 refine E0.mono ?_
 rintro r u0 ⟨rfl, ho, hg⟩
 have G0 : Hid (Out (fpRu (ruV c (.slice ap lp cp))) w u0 /\ OwnI u0 base (.slice ap lp cp) (marksI k lp)) := ⟨G.out.1.grown hg (fun q hq => fpRu_mem.2 hq), ho⟩
 clear ho hg G E0
 go_wp2_with fail
 go_ret
 exact ⟨by rw [Int.natCast_add]; rfl, ⟨_, rfl, G0.out.2⟩, G0.out.1⟩
def mkPn (k : Nat) (c : Pn) : Pn := { c with anc := marksI k c.anc.length, ru := mkRu (k + c.anc.length) c.ru }
theorem OwnPn.out {w w' : World} {base : Nat} {v : Value} {c : Pn} {fp : List Nat} (h : OwnPn w base v c) (ho : Out fp w w') (hn : ∀ b ∈ fpPn v, b ∉ fp) : OwnPn w' base v c := h.same fun g hg => by
 have := fpPn_lt h g hg
 exact ho.2.2.2.2 g this.2 (hn g hg)
theorem Out.sub {fp fq : List Nat} {w w' : World} (h : Out fp w w') (hs : ∀ b ∈ fp, b ∈ fq) : Out fq w w' := ⟨h.1, h.2.1, h.2.2.1, h.2.2.2.1, fun k hk hn => h.2.2.2.2 k hk fun hm => hn (hs k hm)⟩
theorem markPlan_out (c : Pn) (v : Value) (k base : Nat) (w : World) (hl : c.anc.length <= 20000000 /\ c.ru.pol.length <= 20000000) (hk1 : 1 <= k) (hk : k <= 50000000) (ha : OwnPn w base v c) :
  Calls Try.prog 26 #[v, .int .i64 k] w fun e w' => e = .returned (.int .i64 (((k + c.anc.length + c.ru.pol.length : Nat)) : Int)) /\ OwnPn w' base v (mkPn k c) /\ Out (fpPn v) w w' := by
 obtain ⟨p, e, rfl, h1, h2, h3⟩ := ha
 obtain ⟨ap, cp, hp⟩ : ∃ ao cap, p = .slice ao c.anc.length cap := by obtain ⟨ao, cap, h, _⟩ := h1.at; exact ⟨ao, cap, h⟩
 obtain ⟨ae, ce, he⟩ : ∃ ao cap, e = .slice ao c.ru.pol.length cap := by obtain ⟨ao, cap, h, _⟩ := h2.at; exact ⟨ao, cap, h⟩
 obtain ⟨lp, hlp⟩ := zE (c.anc.length)
 obtain ⟨le, hle⟩ := zE (c.ru.pol.length)
 rw [hlp] at hp
 rw [hle] at he
 subst hp he
 have HB : Hid (∀ g, (Value.slice ap lp cp).ownBlock = some g -> g < w.heap.size) := fun g hg => (World.ownsRow.lt h1 g hg).2
 have HA : Hid (OwnI w base (.slice ap lp cp) c.anc /\ OwnI w base (.slice ae le ce) c.ru.pol /\ (Ap (.slice ap lp cp) (.slice ae le ce) /\ Ap (.slice ae le ce) (.slice ap lp cp)) /\ c.anc.length = lp /\ c.ru.pol.length = le) := ⟨h1, h2, h3, hlp, hle⟩
 rw [hlp, hle] at hl
 have HM : Hid (mkPn k c = { c with anc := marksI k lp, ru := mkRu (k + lp) c.ru }) := by show mkPn k c = _; unfold mkPn; rw [hlp]
 rw [hlp, hle]
 clear h1 h2 h3 hlp hle
 obtain ⟨KK, hKK⟩ : ∃ K : Nat, k + lp = K := ⟨_, rfl⟩
 rw [hKK] at HM |-
 have hKb : 1 <= KK /\ KK <= 100000000 := by omega
 unfold pnV
 go_enter Try.func26, Try.ntmps26
 go_wp2_with fail
 obtain ⟨V, hV⟩ : ∃ V, V = w.alloc (Obj.cells #[.int .i64 c.id, .slice ap lp cp, .int .i64 c.ru.time, .slice ae le ce, .bool c.ru.expl, .bool c.ru.chk, .int .i64 c.ru.usage] 57) := ⟨_, rfl⟩
 rw [<- hV]
 have G : Hid (Out (fpPn (pnV c (.slice ap lp cp) (.slice ae le ce))) w V /\ OwnI V base (.slice ap lp cp) c.anc /\ OwnI V base (.slice ae le ce) c.ru.pol /\ Blk V w.heap.size 57 #[.int .i64 c.id, .slice ap lp cp, .int .i64 c.ru.time, .slice ae le ce, .bool c.ru.expl, .bool c.ru.chk, .int .i64 c.ru.usage]) := by
  have hb : Below w.heap.size w V := by rw [hV]; exact (Below.refl _ _).alloc (Nat.le_refl _) _
  exact ⟨Out.of_below hb, HA.out.1.stays hb, HA.out.2.1.stays hb, by rw [hV]; exact Blk.new w _ _⟩
 clear hV
 have E0 := mark_any (.slice ap lp cp) c.anc k base V (by rw [HA.out.2.2.2.1]; omega) (by omega) G.out.2.1
 rw [HA.out.2.2.2.1] at E0
 refine E0.mono ?_
 rintro r u0 ⟨rfl, ho, hg⟩
 have G0 : Hid (Out (fpPn (pnV c (.slice ap lp cp) (.slice ae le ce))) w u0 /\ OwnI u0 base (.slice ap lp cp) (marksI k lp) /\ OwnI u0 base (.slice ae le ce) c.ru.pol /\ Blk u0 w.heap.size 57 #[.int .i64 c.id, .slice ap lp cp, .int .i64 c.ru.time, .slice ae le ce, .bool c.ru.expl, .bool c.ru.chk, .int .i64 c.ru.usage]) :=
  ⟨G.out.1.grown hg (fun q hq => fpPn_mem.2 (.inl hq)), ho, World.ownsRow.kept G.out.2.2.1 hg HA.out.2.2.1.2, (hg.block _ G.out.2.2.2.lt (fun e => by have := HB.out _ e.symm; omega)).trans G.out.2.2.2⟩
 clear ho hg G E0
 have c2 : u0.cell? ⟨w.heap.size, 2, none⟩ = some (.int .i64 c.ru.time) := G0.out.2.2.2.cell 2
 have c3 : u0.cell? ⟨w.heap.size, 3, none⟩ = some (.slice ae le ce) := G0.out.2.2.2.cell 3
 have c4 : u0.cell? ⟨w.heap.size, 4, none⟩ = some (.bool c.ru.expl) := G0.out.2.2.2.cell 4
 have c5 : u0.cell? ⟨w.heap.size, 5, none⟩ = some (.bool c.ru.chk) := G0.out.2.2.2.cell 5
 have c6 : u0.cell? ⟨w.heap.size, 6, none⟩ = some (.int .i64 c.ru.usage) := G0.out.2.2.2.cell 6
 have E1 := markRules_out c.ru (.agg #[.int .i64 c.ru.time, .slice ae le ce, .bool c.ru.expl, .bool c.ru.chk, .int .i64 c.ru.usage]) KK base u0 (by rw [HA.out.2.2.2.2]; omega) hKb.1 hKb.2 ⟨_, rfl, G0.out.2.2.1⟩
 rw [HA.out.2.2.2.2] at E1
 have hkk : ((k : Int) + (lp : Int)) = (KK : Int) := by omega
 try rw [hkk]
 go_wp2_with fail
 try rw [hkk]
 clear c2 c3 c4 c5 c6
 refine E1.mono ?_
 rintro r u1 ⟨rfl, ⟨e', he', ho2⟩, hout⟩
 have hee : e' = .slice ae le ce := by
  unfold ruV at he'
  injection he' with he'
  have := congrArg (·[1]?) he'
  simpa using this.symm
 subst hee
 have hsub : ∀ b, b ∈ fpRu (.agg #[.int .i64 c.ru.time, .slice ae le ce, .bool c.ru.expl, .bool c.ru.chk, .int .i64 c.ru.usage]) -> b ∈ fpPn (pnV c (.slice ap lp cp) (.slice ae le ce)) := fun b hb => fpPn_mem.2 (.inr ((fpRu_mem (c := c.ru)).1 hb))
 have G1 : Hid (Out (fpPn (pnV c (.slice ap lp cp) (.slice ae le ce))) w u1 /\ OwnI u1 base (.slice ap lp cp) (marksI k lp) /\ OwnI u1 base (.slice ae le ce) (mkRu KK c.ru).pol) := by
  refine ⟨G0.out.1.trans (hout.sub hsub), row_same G0.out.2.1 (fun b hb => hout.2.2.2.2 b (World.ownsRow.lt G0.out.2.1 b hb).2 fun hm => ?_), ho2⟩
  exact ap_ne HA.out.2.2.1.1 hb ((fpRu_mem (c := c.ru)).1 hm)
 clear hout ho2 he' hsub G0 E1
 go_wp2_with fail
 go_ret
 refine ⟨rfl, ?_, G1.out.1⟩
 rw [HM.out]
 exact ⟨_, _, rfl, G1.out.2.1, G1.out.2.2, HA.out.2.2.1⟩
theorem toRules_any (c : Ru) (v : Value) (B : Nat) (w : World) (hl : c.pol.length <= 1048576) (hB : B <= w.heap.size) (ha : ArgU B w v c) :
  Calls Try.prog 53 #[v] w fun e w' => ∃ u, e = .returned u /\ OwnU w' w.heap.size u c /\ Below w.heap.size w w' := by
 obtain ⟨pa, pc, rfl, h1⟩ := ha
 have HA : Hid (ArgAt B w pa c.pol /\ c.pol.length <= 1048576) := ⟨h1, hl⟩
 clear h1 hl
 unfold ruV
 go_enter Try.func53, Try.ntmps53
 go_wp2_with fail
 obtain ⟨W3, hW3⟩ : ∃ W, W = ((w.alloc (Obj.cells #[.int .i64 c.time, .slice pa c.pol.length pc, .bool c.expl, .bool c.chk, .int .i64 c.usage] 46)).alloc (Obj.cells #[.int .i64 0, .slice none 0 0, .bool false, .bool false, .int .i64 0] 54)).alloc (Obj.cells #[.int .i64 c.time, .slice none 0 0, .bool false, .bool false, .int .i64 0] 54) := ⟨_, rfl⟩
 change Calls _ _ _ (((w.alloc (Obj.cells #[.int .i64 c.time, .slice pa c.pol.length pc, .bool c.expl, .bool c.chk, .int .i64 c.usage] 46)).alloc (Obj.cells #[.int .i64 0, .slice none 0 0, .bool false, .bool false, .int .i64 0] 54)).alloc (Obj.cells #[.int .i64 c.time, .slice none 0 0, .bool false, .bool false, .int .i64 0] 54)) _
 rw [<- hW3]
 have e0 : (w.alloc (Obj.cells #[.int .i64 c.time, .slice pa c.pol.length pc, .bool c.expl, .bool c.chk, .int .i64 c.usage] 46)).heap.size = w.heap.size + 1 := Array.size_push _
 have e1 : ((w.alloc (Obj.cells #[.int .i64 c.time, .slice pa c.pol.length pc, .bool c.expl, .bool c.chk, .int .i64 c.usage] 46)).alloc (Obj.cells #[.int .i64 0, .slice none 0 0, .bool false, .bool false, .int .i64 0] 54)).heap.size = w.heap.size + 1 + 1 := by rw [size_alloc, e0]
 have G0 : Hid ((Blk W3 w.heap.size 46 #[.int .i64 c.time, .slice pa c.pol.length pc, .bool c.expl, .bool c.chk, .int .i64 c.usage] /\ Blk W3 (w.heap.size + 1) 54 #[.int .i64 0, .slice none 0 0, .bool false, .bool false, .int .i64 0] /\ Blk W3 (w.heap.size + 1 + 1) 54 #[.int .i64 c.time, .slice none 0 0, .bool false, .bool false, .int .i64 0] /\ Below w.heap.size w W3) /\ w.heap.size + 1 + 1 + 1 <= W3.heap.size) := by
  rw [hW3]
  refine ⟨⟨((Blk.new w _ _).alloc _).alloc _, ?_, ?_, (((Below.refl _ _).alloc (Nat.le_refl _) _).alloc (by rw [e0]; omega) _).alloc (by rw [e1]; omega) _⟩, by rw [size_alloc, e1]; omega⟩
  ·have h := (Blk.new (w.alloc (Obj.cells #[.int .i64 c.time, .slice pa c.pol.length pc, .bool c.expl, .bool c.chk, .int .i64 c.usage] 46)) 54 #[.int .i64 0, .slice none 0 0, .bool false, .bool false, .int .i64 0]).alloc (Obj.cells #[.int .i64 c.time, .slice none 0 0, .bool false, .bool false, .int .i64 0] 54)
   rw [e0] at h
   exact h
  ·have h := Blk.new ((w.alloc (Obj.cells #[.int .i64 c.time, .slice pa c.pol.length pc, .bool c.expl, .bool c.chk, .int .i64 c.usage] 46)).alloc (Obj.cells #[.int .i64 0, .slice none 0 0, .bool false, .bool false, .int .i64 0] 54)) 54 #[.int .i64 c.time, .slice none 0 0, .bool false, .bool false, .int .i64 0]
   rw [e1] at h
   exact h
 clear hW3 e0 e1
 have wd1 : w.heap.size ≠ w.heap.size + 1 + 1 := by omega
 have wd2 : w.heap.size + 1 ≠ w.heap.size + 1 + 1 := by omega
 refine (toIntS_any pa c.pol c.pol.length pc B W3 rfl HA.out.2 (Nat.le_trans hB G0.out.1.2.2.2.size) (HA.out.1.below (G0.out.1.2.2.2.mono hB))).mono ?_
 rintro r u2 ⟨p, rfl, op, hb⟩
 have F2 : Hid ((Blk u2 w.heap.size 46 #[.int .i64 c.time, .slice pa c.pol.length pc, .bool c.expl, .bool c.chk, .int .i64 c.usage] /\ Blk u2 (w.heap.size + 1) 54 #[.int .i64 0, .slice none 0 0, .bool false, .bool false, .int .i64 0] /\ Blk u2 (w.heap.size + 1 + 1) 54 #[.int .i64 c.time, .slice none 0 0, .bool false, .bool false, .int .i64 0] /\ Below w.heap.size w u2) /\ w.heap.size + 1 + 1 + 1 <= u2.heap.size /\ OwnI u2 (w.heap.size + 1 + 1 + 1) p c.pol) := by
  have hz := G0.out.2
  exact ⟨⟨G0.out.1.1.below hb (by omega), G0.out.1.2.1.below hb (by omega), G0.out.1.2.2.1.below hb (by omega), G0.out.1.2.2.2.trans (hb.mono G0.out.1.2.2.2.size)⟩, Nat.le_trans hz hb.size, op.base hz⟩
 clear op hb G0
 have fr := fun j => F2.out.1.2.2.1.free j
 have f1 := fun j => F2.out.1.2.1.free j
 obtain ⟨qp, mp, hsp⟩ : ∃ ao cap, p = .slice ao c.pol.length cap := by obtain ⟨ao, cap, h, _⟩ := F2.out.2.2.at; exact ⟨ao, cap, h⟩
 obtain ⟨lp, hlp⟩ := zE (c.pol.length)
 rw [hlp] at hsp
 clear hlp
 subst hsp
 have ca2 : u2.cell? ⟨w.heap.size, 2, none⟩ = some (.bool c.expl) := F2.out.1.1.cell 2
 have ca3 : u2.cell? ⟨w.heap.size, 3, none⟩ = some (.bool c.chk) := F2.out.1.1.cell 3
 have ca4 : u2.cell? ⟨w.heap.size, 4, none⟩ = some (.int .i64 c.usage) := F2.out.1.1.cell 4
 have c10 : u2.cell? ⟨w.heap.size + 1, 0, none⟩ = some (.int .i64 0) := F2.out.1.2.1.cell 0
 have c20 : u2.cell? ⟨w.heap.size + 1 + 1, 0, none⟩ = some (.int .i64 c.time) := F2.out.1.2.2.1.cell 0
 have c11 : u2.cell? ⟨w.heap.size + 1, 1, none⟩ = some (.slice none 0 0) := F2.out.1.2.1.cell 1
 have c21 : u2.cell? ⟨w.heap.size + 1 + 1, 1, none⟩ = some (.slice none 0 0) := F2.out.1.2.2.1.cell 1
 have c12 : u2.cell? ⟨w.heap.size + 1, 2, none⟩ = some (.bool false) := F2.out.1.2.1.cell 2
 have c22 : u2.cell? ⟨w.heap.size + 1 + 1, 2, none⟩ = some (.bool false) := F2.out.1.2.2.1.cell 2
 have c13 : u2.cell? ⟨w.heap.size + 1, 3, none⟩ = some (.bool false) := F2.out.1.2.1.cell 3
 have c23 : u2.cell? ⟨w.heap.size + 1 + 1, 3, none⟩ = some (.bool false) := F2.out.1.2.2.1.cell 3
 have c14 : u2.cell? ⟨w.heap.size + 1, 4, none⟩ = some (.int .i64 0) := F2.out.1.2.1.cell 4
 have c24 : u2.cell? ⟨w.heap.size + 1 + 1, 4, none⟩ = some (.int .i64 0) := F2.out.1.2.2.1.cell 4
 go_wp2_with fail
 refine bodyPost_ret (v := ruV c (.slice qp lp mp)) (by simp [results, Try.results53, go_sem, ruV, c10, c11, c12, c13, c14]) rfl ⟨_, rfl, ⟨_, rfl, (F2.out.2.2.block ?far).base (by omega)⟩, ?bel⟩
 case far =>
  intro b hb
  iterate 9 rw [heap_setCell_other _ _ _ _ (by first | (show b ≠ w.heap.size + 1; omega) | (show b ≠ w.heap.size + 1 + 1; omega))]
 case bel =>
  iterate 9 refine Below.setCell ?_ (by first | (show w.heap.size <= w.heap.size + 1; omega) | (show w.heap.size <= w.heap.size + 1 + 1; omega)) _
  exact F2.out.1.2.2.2
theorem szRules_any (c : Ru) (v : Value) (left : Int) (w : World) (hwd : WdU c) (h0 : 0 <= left) (hl : left <= 1048576) (ha : ArgU w.heap.size w v c) :
  Calls Try.prog 50 #[v, .int .i64 left] w fun e w' => e = .returned (.int .i64 (szU c left)) /\ Below w.heap.size w w' := by
 obtain ⟨pa, pc, rfl, h1⟩ := ha
 obtain ⟨_, _, hpl⟩ := hwd
 clear h1
 unfold ruV
 obtain ⟨r2, hr2⟩ : ∃ r : Int, r = if (c.pol.length : Int) <= left then left - (c.pol.length : Int) else -1 := ⟨_, rfl⟩
 have Z2 : Hid (∀ W, Below w.heap.size w W -> Calls Try.prog 49 #[.slice pa c.pol.length pc, .int .i64 left] W fun e w' => e = .returned (.int .i64 r2) /\ Below W.heap.size W w') := fun W hb => by rw [hr2]; exact szIntS_any pa c.pol.length pc left W hpl (by omega) (by omega)
 have HF : Hid (szU c left = r2) := by rw [hr2]; rfl
 by_cases g2 : r2 < 0
 ·have h1 : r2 = -1 := by split at hr2 <;> omega
  clear hr2 g2
  subst h1
  go_enter Try.func50, Try.ntmps50
  go_wp2_with fail
  obtain ⟨V, hV⟩ : ∃ V, V = w.alloc (Obj.cells #[.int .i64 c.time, .slice pa c.pol.length pc, .bool c.expl, .bool c.chk, .int .i64 c.usage] 46) := ⟨_, rfl⟩
  rw [<- hV]
  have G : Hid (Below w.heap.size w V) := by rw [hV]; exact (Below.refl _ _).alloc (Nat.le_refl _) _
  clear hV
  refine (Z2.out V G.out).mono ?_
  rintro e V2 ⟨rfl, hb⟩
  have G2 : Hid (Below w.heap.size w V2) := G.out.trans (hb.mono G.out.size)
  clear hb G
  go_wp2_with fail
  go_ret
  exact ⟨by rw [HF.out]; rfl, G2.out⟩
 ·clear hr2
  go_enter Try.func50, Try.ntmps50
  go_wp2_with fail
  obtain ⟨V, hV⟩ : ∃ V, V = w.alloc (Obj.cells #[.int .i64 c.time, .slice pa c.pol.length pc, .bool c.expl, .bool c.chk, .int .i64 c.usage] 46) := ⟨_, rfl⟩
  rw [<- hV]
  have G : Hid (Below w.heap.size w V) := by rw [hV]; exact (Below.refl _ _).alloc (Nat.le_refl _) _
  clear hV
  refine (Z2.out V G.out).mono ?_
  rintro e V2 ⟨rfl, hb⟩
  have G2 : Hid (Below w.heap.size w V2) := G.out.trans (hb.mono G.out.size)
  clear hb G
  go_wp2_with fail
  go_ret
  exact ⟨by rw [HF.out]; rfl, G2.out⟩
theorem eqRules_same (c : Ru) (a b : Value) (w : World) (hl : c.pol.length <= 1000000000) (ha : RuAt w a c) (hb : RuAt w b c) :
  Calls Try.prog 23 #[a, b] w fun e w' => e = .returned (.bool true) /\ Below w.heap.size w w' := by
 obtain ⟨pv, rfl, h1⟩ := ha
 obtain ⟨pu, rfl, k1⟩ := hb
 have HQ : Hid (∀ W, Below w.heap.size w W -> Calls Try.prog 55 #[pv, pu] W (fun e w' => e = .returned (.bool true) /\ Below W.heap.size W w')) := fun W hb => eqIntS_same pv pu c.pol W hl (h1.below hb) (k1.below hb)
 obtain ⟨lp, hlp⟩ := zE (c.pol.length)
 obtain ⟨pa, pc, hpa, _⟩ := h1
 obtain ⟨pb, qc, hpb, _⟩ := k1
 rw [hlp] at hpa hpb
 subst hpa hpb
 clear hlp hl
 unfold ruV
 go_enter Try.func23, Try.ntmps23
 go_wp2_with fail
 obtain ⟨V, hV⟩ : ∃ V, V = (w.alloc (Obj.cells #[.int .i64 c.time, .slice pa lp pc, .bool c.expl, .bool c.chk, .int .i64 c.usage] 54)).alloc (Obj.cells #[.int .i64 c.time, .slice pb lp qc, .bool c.expl, .bool c.chk, .int .i64 c.usage] 54) := ⟨_, rfl⟩
 rw [<- hV]
 have G : Hid (Blk V w.heap.size 54 #[.int .i64 c.time, .slice pa lp pc, .bool c.expl, .bool c.chk, .int .i64 c.usage] /\ Blk V (w.heap.size + 1) 54 #[.int .i64 c.time, .slice pb lp qc, .bool c.expl, .bool c.chk, .int .i64 c.usage] /\ Below w.heap.size w V /\ w.heap.size + 1 < V.heap.size) := by
  have e0 : (w.alloc (Obj.cells #[.int .i64 c.time, .slice pa lp pc, .bool c.expl, .bool c.chk, .int .i64 c.usage] 54)).heap.size = w.heap.size + 1 := Array.size_push _
  have h := Blk.new (w.alloc (Obj.cells #[.int .i64 c.time, .slice pa lp pc, .bool c.expl, .bool c.chk, .int .i64 c.usage] 54)) 54 #[.int .i64 c.time, .slice pb lp qc, .bool c.expl, .bool c.chk, .int .i64 c.usage]
  rw [e0] at h
  rw [hV]
  exact ⟨(Blk.new w _ _).alloc _, h, ((Below.refl _ _).alloc (Nat.le_refl _) _).alloc (by rw [e0]; omega) _, by rw [size_alloc, e0]; omega⟩
 clear hV
 refine (HQ.out V G.out.2.2.1).mono ?_
 rintro e V2 ⟨rfl, hb⟩
 have G2 : Hid (Blk V2 w.heap.size 54 #[.int .i64 c.time, .slice pa lp pc, .bool c.expl, .bool c.chk, .int .i64 c.usage] /\ Blk V2 (w.heap.size + 1) 54 #[.int .i64 c.time, .slice pb lp qc, .bool c.expl, .bool c.chk, .int .i64 c.usage] /\ Below w.heap.size w V2 /\ w.heap.size + 1 < V2.heap.size) := ⟨G.out.1.below hb (by have := G.out.2.2.2; omega), G.out.2.1.below hb G.out.2.2.2, G.out.2.2.1.trans (hb.mono G.out.2.2.1.size), Nat.lt_of_lt_of_le G.out.2.2.2 hb.size⟩
 clear hb G
 have ca2 : V2.cell? ⟨w.heap.size, 2, none⟩ = some (.bool c.expl) := G2.out.1.cell 2
 have cb2 : V2.cell? ⟨w.heap.size + 1, 2, none⟩ = some (.bool c.expl) := G2.out.2.1.cell 2
 have ca3 : V2.cell? ⟨w.heap.size, 3, none⟩ = some (.bool c.chk) := G2.out.1.cell 3
 have cb3 : V2.cell? ⟨w.heap.size + 1, 3, none⟩ = some (.bool c.chk) := G2.out.2.1.cell 3
 have ca4 : V2.cell? ⟨w.heap.size, 4, none⟩ = some (.int .i64 c.usage) := G2.out.1.cell 4
 have cb4 : V2.cell? ⟨w.heap.size + 1, 4, none⟩ = some (.int .i64 c.usage) := G2.out.2.1.cell 4
 go_wp2_with fail
 go_ret
 exact ⟨rfl, G2.out.2.2.1⟩
end Go.Proofs.Ytllmgjfffkhocaa
