/-
  Texts of the proof.
-/
import Derived.Laws.AppendOwnNone
import Derived.Deep.RegionHeld3
import Derived.Laws.StructEq
import Derived.Laws.Rows
import Derived.Test.YtllmgjfffkhocaaShelf
import Derived.Laws.IdiomStrings
import Derived.Test.YtllmgjfffkhocaaTR8
set_option maxRecDepth 100000
set_option maxHeartbeats 25600000
namespace Go.Proofs.Ytllmgjfffkhocaa
open Go.RowKit
set_option linter.unusedVariables false
theorem wpList_append_ints2 {w : World} {ops : Array Oper} {rest : List Oper} {o : Oper} {a : Act} {Q : Exit -> Act -> World -> Prop} (hgd : o.guard = none) (s x : Operand) (t : TypeId)
  (ho : o.op = .call { callee := .builtin .append, args := #[s, x], argTypes := #[t, t] }) (base : Nat) (i0 : TypeInfo) (ht : Try.prog.underlying t = some (.slice 3)) (hi : Try.prog.info? 3 = some i0) (hz0 : i0.zero = some (.int .i64 0)) (hz1 : i0.size = 1) (hz2 : i0.bytes = 8)
  (v : Value) (n : Nat) (xs : List Value) (hs : a.eval s = v) (hown : w.ownsRow base 3 1 v n xs) (u : Value) (lu : List Int) (bu : Nat) (hu : OwnI w bu u lu) (hx : a.eval x = u) (hlen : n + lu.length <= 100000000) (hbase : base <= w.heap.size)
  (h : ∀ v' w', w'.ownsRow base 3 1 v' (n + lu.length) (xs ++ cellsI lu) -> w.grownBy w' v.ownBlock -> wpList Try.prog ops Q rest (a.put o.dst v') w') : wpList Try.prog ops Q (o :: rest) a w := by
 rcases hu.2 with ⟨rfl, h0⟩ | ⟨g, cap, cur, rfl, hbg, hg, hn, hm, hsz, htk⟩
 ·have hl : lu = [] := List.eq_nil_of_length_eq_zero h0
  subst hl
  refine wpList_append_own_none hgd s x t ho base 3 i0 1 ht hi v n xs hs hown hx (h v w (by simpa [cellsI] using hown) (World.grownBy.refl _ _))
 ·refine wpList_append_own w hgd s x t ho base 3 i0 (.int .i64 0) 1 8 ht hi hz0 hz1 hz2 rfl (by decide) v n xs hs hown ⟨g, 0, none⟩ lu.length cap (cellsI lu) hx (by simp [cellsI]) (fun j q hq => ?_) (fun q hq => ?_) (by unfold maxLen; omega) (by omega) hbase (fun v' w' h1 h2 _ => h v' w' h1 h2)
  ·have hj : j < lu.length := by
    refine Nat.lt_of_not_le fun h => ?_
    rw [List.getElem?_eq_none (by rw [cellsI_len]; exact h)] at hq
    cases hq
   rw [Addr.add_lit, Nat.zero_add, hu.cell hj, <- hq, cellsI_getD hj]
  ·obtain ⟨y, _, rfl⟩ := List.mem_map.1 hq
   rfl
theorem wpList_append_texts2 {w : World} {ops : Array Oper} {rest : List Oper} {o : Oper} {a : Act} {Q : Exit -> Act -> World -> Prop} (hgd : o.guard = none) (s x : Operand) (t : TypeId)
  (ho : o.op = .call { callee := .builtin .append, args := #[s, x], argTypes := #[t, t] }) (base : Nat) (i0 : TypeInfo) (ht : Try.prog.underlying t = some (.slice 9)) (hi : Try.prog.info? 9 = some i0) (hz0 : i0.zero = some (.string ByteArray.empty)) (hz1 : i0.size = 1) (hz2 : i0.bytes = 16)
  (v : Value) (n : Nat) (xs : List Value) (hs : a.eval s = v) (hown : w.ownsRow base 9 1 v n xs) (u : Value) (lu : List ByteArray) (bu : Nat) (hu : OwnT w bu u lu) (hx : a.eval x = u) (hlen : n + lu.length <= 100000000) (hbase : base <= w.heap.size)
  (h : ∀ v' w', w'.ownsRow base 9 1 v' (n + lu.length) (xs ++ cellsT lu) -> w.grownBy w' v.ownBlock -> wpList Try.prog ops Q rest (a.put o.dst v') w') : wpList Try.prog ops Q (o :: rest) a w := by
 rcases hu.2 with ⟨rfl, h0⟩ | ⟨g, cap, cur, rfl, hbg, hg, hn, hm, hsz, htk⟩
 ·have hl : lu = [] := List.eq_nil_of_length_eq_zero h0
  subst hl
  refine wpList_append_own_none hgd s x t ho base 9 i0 1 ht hi v n xs hs hown hx (h v w (by simpa [cellsT] using hown) (World.grownBy.refl _ _))
 ·refine wpList_append_own w hgd s x t ho base 9 i0 (.string ByteArray.empty) 1 16 ht hi hz0 hz1 hz2 rfl (by decide) v n xs hs hown ⟨g, 0, none⟩ lu.length cap (cellsT lu) hx (by simp [cellsT]) (fun j q hq => ?_) (fun q hq => ?_) (by unfold maxLen; omega) (by omega) hbase (fun v' w' h1 h2 _ => h v' w' h1 h2)
  ·have hj : j < lu.length := by
    refine Nat.lt_of_not_le fun h => ?_
    rw [List.getElem?_eq_none (by rw [cellsT_len]; exact h)] at hq
    cases hq
   rw [Addr.add_lit, Nat.zero_add, hu.cell hj, <- hq, cellsT_getD hj]
  ·obtain ⟨y, _, rfl⟩ := List.mem_map.1 hq
   rfl
theorem certCopy_any (c : Ct) (v : Value) (bs : Nat) (w : World) (hl : c.pol.length <= 20000000 /\ c.per.length <= 20000000 /\ c.den.length <= 20000000) (ha : OwnC w bs v c) :
  Calls Try.prog 99 #[v] w fun e w' => ∃ u, e = .returned u /\ OwnC w' w.heap.size u c /\ Below w.heap.size w w' := by
 obtain ⟨p, e, d, rfl, h1, h2, h3, _⟩ := ha
 obtain ⟨i3, hi3, hz03, hz13, hz23⟩ := info_parts info3
 obtain ⟨i9, hi9, hz09, hz19, hz29⟩ := info_parts info9
 obtain ⟨ap, cp, hp⟩ : ∃ ao cap, p = .slice ao c.pol.length cap := by obtain ⟨ao, cap, h, _⟩ := h1.at; exact ⟨ao, cap, h⟩
 obtain ⟨ae, ce, he⟩ : ∃ ao cap, e = .slice ao c.per.length cap := by obtain ⟨ao, cap, h, _⟩ := h2.at; exact ⟨ao, cap, h⟩
 obtain ⟨ad, cd, hd⟩ : ∃ ao cap, d = .slice ao c.den.length cap := by obtain ⟨ao, cap, h, _⟩ := h3.at; exact ⟨ao, cap, h⟩
 obtain ⟨lp, hlp⟩ := zE (c.pol.length)
 obtain ⟨le, hle⟩ := zE (c.per.length)
 obtain ⟨ld, hld⟩ := zE (c.den.length)
 rw [hlp] at hp
 rw [hle] at he
 rw [hld] at hd
 subst hp he hd
 have HA : Hid (OwnI w bs (.slice ap lp cp) c.pol /\ OwnT w bs (.slice ae le ce) c.per /\ OwnT w bs (.slice ad ld cd) c.den /\ c.pol.length <= 20000000 /\ c.per.length <= 20000000 /\ c.den.length <= 20000000) := ⟨h1, h2, h3, hl⟩
 clear h1 h2 h3 hl hlp hle hld
 unfold ctV
 go_enter Try.func99, Try.ntmps99
 obtain ⟨V0, hV0⟩ : ∃ W, W = ((w.alloc (Obj.cells #[.int .i64 c.serial, .string c.issuer, .string c.subject, .int .i64 c.frm, .int .i64 c.upto, .string c.key, .bool c.ca, .int .i64 c.pathLen, .int .i64 c.usage, .slice ap lp cp, .slice ae le ce, .slice ad ld cd, .string c.sig] 112)).alloc (Obj.cells #[.int .i64 0, .string ⟨#[]⟩, .string ⟨#[]⟩, .int .i64 0, .int .i64 0, .string ⟨#[]⟩, .bool false, .int .i64 0, .int .i64 0, .slice none 0 0, .slice none 0 0, .slice none 0 0, .string ⟨#[]⟩] 112)).alloc (Obj.cells #[.int .i64 c.serial, .string c.issuer, .string c.subject, .int .i64 c.frm, .int .i64 c.upto, .string c.key, .bool c.ca, .int .i64 c.pathLen, .int .i64 c.usage, .slice ap lp cp, .slice ae le ce, .slice ad ld cd, .string c.sig] 112) := ⟨_, rfl⟩
 have e0 : (w.alloc (Obj.cells #[.int .i64 c.serial, .string c.issuer, .string c.subject, .int .i64 c.frm, .int .i64 c.upto, .string c.key, .bool c.ca, .int .i64 c.pathLen, .int .i64 c.usage, .slice ap lp cp, .slice ae le ce, .slice ad ld cd, .string c.sig] 112)).heap.size = w.heap.size + 1 := Array.size_push _
 have e1 : ((w.alloc (Obj.cells #[.int .i64 c.serial, .string c.issuer, .string c.subject, .int .i64 c.frm, .int .i64 c.upto, .string c.key, .bool c.ca, .int .i64 c.pathLen, .int .i64 c.usage, .slice ap lp cp, .slice ae le ce, .slice ad ld cd, .string c.sig] 112)).alloc (Obj.cells #[.int .i64 0, .string ⟨#[]⟩, .string ⟨#[]⟩, .int .i64 0, .int .i64 0, .string ⟨#[]⟩, .bool false, .int .i64 0, .int .i64 0, .slice none 0 0, .slice none 0 0, .slice none 0 0, .string ⟨#[]⟩] 112)).heap.size = w.heap.size + 1 + 1 := by rw [size_alloc, e0]
 have z0 : V0.heap.size = w.heap.size + 1 + 1 + 1 := by rw [hV0, size_alloc, e1]
 have G0 : Hid ((Blk V0 w.heap.size 112 #[.int .i64 c.serial, .string c.issuer, .string c.subject, .int .i64 c.frm, .int .i64 c.upto, .string c.key, .bool c.ca, .int .i64 c.pathLen, .int .i64 c.usage, .slice ap lp cp, .slice ae le ce, .slice ad ld cd, .string c.sig] /\ Blk V0 (w.heap.size + 1) 112 #[.int .i64 0, .string ⟨#[]⟩, .string ⟨#[]⟩, .int .i64 0, .int .i64 0, .string ⟨#[]⟩, .bool false, .int .i64 0, .int .i64 0, .slice none 0 0, .slice none 0 0, .slice none 0 0, .string ⟨#[]⟩] /\ Blk V0 (w.heap.size + 1 + 1) 112 #[.int .i64 c.serial, .string c.issuer, .string c.subject, .int .i64 c.frm, .int .i64 c.upto, .string c.key, .bool c.ca, .int .i64 c.pathLen, .int .i64 c.usage, .slice ap lp cp, .slice ae le ce, .slice ad ld cd, .string c.sig] /\ Below w.heap.size w V0) /\ w.heap.size + 1 + 1 + 1 <= V0.heap.size /\ True) := by
  refine ⟨?_, by omega, trivial⟩
  rw [hV0]
  refine ⟨((Blk.new w _ _).alloc _).alloc _, ?_, ?_, (((Below.refl _ _).alloc (Nat.le_refl _) _).alloc (by rw [e0]; omega) _).alloc (by rw [e1]; omega) _⟩
  ·have h := (Blk.new (w.alloc (Obj.cells #[.int .i64 c.serial, .string c.issuer, .string c.subject, .int .i64 c.frm, .int .i64 c.upto, .string c.key, .bool c.ca, .int .i64 c.pathLen, .int .i64 c.usage, .slice ap lp cp, .slice ae le ce, .slice ad ld cd, .string c.sig] 112)) 112 #[.int .i64 0, .string ⟨#[]⟩, .string ⟨#[]⟩, .int .i64 0, .int .i64 0, .string ⟨#[]⟩, .bool false, .int .i64 0, .int .i64 0, .slice none 0 0, .slice none 0 0, .slice none 0 0, .string ⟨#[]⟩]).alloc (Obj.cells #[.int .i64 c.serial, .string c.issuer, .string c.subject, .int .i64 c.frm, .int .i64 c.upto, .string c.key, .bool c.ca, .int .i64 c.pathLen, .int .i64 c.usage, .slice ap lp cp, .slice ae le ce, .slice ad ld cd, .string c.sig] 112)
   rw [e0] at h
   exact h
  ·have h := Blk.new ((w.alloc (Obj.cells #[.int .i64 c.serial, .string c.issuer, .string c.subject, .int .i64 c.frm, .int .i64 c.upto, .string c.key, .bool c.ca, .int .i64 c.pathLen, .int .i64 c.usage, .slice ap lp cp, .slice ae le ce, .slice ad ld cd, .string c.sig] 112)).alloc (Obj.cells #[.int .i64 0, .string ⟨#[]⟩, .string ⟨#[]⟩, .int .i64 0, .int .i64 0, .string ⟨#[]⟩, .bool false, .int .i64 0, .int .i64 0, .slice none 0 0, .slice none 0 0, .slice none 0 0, .string ⟨#[]⟩] 112)) 112 #[.int .i64 c.serial, .string c.issuer, .string c.subject, .int .i64 c.frm, .int .i64 c.upto, .string c.key, .bool c.ca, .int .i64 c.pathLen, .int .i64 c.usage, .slice ap lp cp, .slice ae le ce, .slice ad ld cd, .string c.sig]
   rw [e1] at h
   exact h
 clear e0 e1
 have HM0 : Hid ((V0.alloc (Obj.cells #[] 3)).ownsRow V0.heap.size 3 1 (.slice (some ⟨w.heap.size + 1 + 1 + 1, 0, none⟩) 0 0) 0 [] /\ OwnI (V0.alloc (Obj.cells #[] 3)) bs (.slice ap lp cp) c.pol) := by
  refine ⟨?_, HA.out.1.stays (G0.out.1.2.2.2.alloc G0.out.1.2.2.2.size _)⟩
  have h := World.ownsRow_made V0 (base := V0.heap.size) (e := 3) (size := 1) #[] 0 (Nat.le_refl _) (Nat.zero_le _) rfl
  rw [z0] at h |-
  exact h
 have hle0 : 0 + c.pol.length <= 100000000 := by have := HA.out.2.2.2.1; omega
 have hss0 : V0.heap.size <= (V0.alloc (Obj.cells #[] 3)).heap.size := by simp
 go_wp2_with (at_builtin; rw [<- hV0]; refine wpList_append_ints2 rfl _ _ 44 rfl V0.heap.size i3 Try.underlying44 hi3 hz03 hz13 hz23 _ 0 [] rfl HM0.out.1 (.slice ap lp cp) c.pol bs HM0.out.2 rfl hle0 hss0 ?_)
 intro vp u0 ho hg
 try rw [<- hV0] at hg
 have F0 : Hid ((Blk u0 w.heap.size 112 #[.int .i64 c.serial, .string c.issuer, .string c.subject, .int .i64 c.frm, .int .i64 c.upto, .string c.key, .bool c.ca, .int .i64 c.pathLen, .int .i64 c.usage, .slice ap lp cp, .slice ae le ce, .slice ad ld cd, .string c.sig] /\ Blk u0 (w.heap.size + 1) 112 #[.int .i64 0, .string ⟨#[]⟩, .string ⟨#[]⟩, .int .i64 0, .int .i64 0, .string ⟨#[]⟩, .bool false, .int .i64 0, .int .i64 0, .slice none 0 0, .slice none 0 0, .slice none 0 0, .string ⟨#[]⟩] /\ Blk u0 (w.heap.size + 1 + 1) 112 #[.int .i64 c.serial, .string c.issuer, .string c.subject, .int .i64 c.frm, .int .i64 c.upto, .string c.key, .bool c.ca, .int .i64 c.pathLen, .int .i64 c.usage, .slice ap lp cp, .slice ae le ce, .slice ad ld cd, .string c.sig] /\ Below w.heap.size w u0) /\ w.heap.size + 1 + 1 + 1 <= u0.heap.size /\ OwnI u0 (w.heap.size + 1 + 1 + 1) vp c.pol) := by
  have hz := G0.out.2.1
  have hb : Below V0.heap.size V0 u0 := ((Below.refl _ _).alloc (Nat.le_refl _) _).grown hg hss0 (fun q hq => by simp [Value.ownBlock] at hq; omega)
  have on : OwnI u0 V0.heap.size vp c.pol := by rw [z0]; simpa [OwnI] using ho
  exact ⟨⟨G0.out.1.1.below hb (by omega), G0.out.1.2.1.below hb (by omega), G0.out.1.2.2.1.below hb (by omega), G0.out.1.2.2.2.trans (hb.mono G0.out.1.2.2.2.size)⟩, Nat.le_trans hz hb.size, on.base hz⟩
 clear ho hg G0 HM0 hle0 hss0 z0 hV0
 have fr := fun j => F0.out.1.2.2.1.free j
 obtain ⟨qvp, mvp, hsvp⟩ : ∃ ao cap, vp = .slice ao c.pol.length cap := by obtain ⟨ao, cap, h, _⟩ := (F0.out.2.2).at; exact ⟨ao, cap, h⟩
 obtain ⟨lvp, hlvp⟩ := zE (c.pol.length)
 rw [hlvp] at hsvp
 clear hlvp
 subst hsvp
 have ca : u0.cell? ⟨w.heap.size, 10, none⟩ = some (.slice ae le ce) := F0.out.1.1.cell 10
 have cg : u0.cell? ⟨w.heap.size + 1 + 1, 9, none⟩ = some (.slice ap lp cp) := F0.out.1.2.2.1.cell 9
 obtain ⟨V1, hV1⟩ : ∃ V, V = u0.setCell ⟨w.heap.size + 1 + 1, 9, none⟩ (.slice qvp lvp mvp) := ⟨_, rfl⟩
 have z1 : V1.heap.size = u0.heap.size := by rw [hV1]; simp
 have G1 : Hid ((Blk V1 w.heap.size 112 #[.int .i64 c.serial, .string c.issuer, .string c.subject, .int .i64 c.frm, .int .i64 c.upto, .string c.key, .bool c.ca, .int .i64 c.pathLen, .int .i64 c.usage, .slice ap lp cp, .slice ae le ce, .slice ad ld cd, .string c.sig] /\ Blk V1 (w.heap.size + 1) 112 #[.int .i64 0, .string ⟨#[]⟩, .string ⟨#[]⟩, .int .i64 0, .int .i64 0, .string ⟨#[]⟩, .bool false, .int .i64 0, .int .i64 0, .slice none 0 0, .slice none 0 0, .slice none 0 0, .string ⟨#[]⟩] /\ Blk V1 (w.heap.size + 1 + 1) 112 #[.int .i64 c.serial, .string c.issuer, .string c.subject, .int .i64 c.frm, .int .i64 c.upto, .string c.key, .bool c.ca, .int .i64 c.pathLen, .int .i64 c.usage, .slice qvp lvp mvp, .slice ae le ce, .slice ad ld cd, .string c.sig] /\ Below w.heap.size w V1) /\ w.heap.size + 1 + 1 + 1 <= V1.heap.size /\ OwnI V1 (w.heap.size + 1 + 1 + 1) (.slice qvp lvp mvp) c.pol) := by
  have hbs : Below (w.heap.size + 1 + 1) u0 V1 := by rw [hV1]; exact (Below.refl _ _).setCell (p := ⟨w.heap.size + 1 + 1, 9, none⟩) (Nat.le_refl _) _
  have hot : ∀ b, w.heap.size + 1 + 1 + 1 <= b -> V1.heap[b]? = u0.heap[b]? := fun b hb => by rw [hV1]; exact heap_setCell_other _ _ _ _ (by show b ≠ w.heap.size + 1 + 1; omega)
  refine ⟨⟨F0.out.1.1.below hbs (by omega), F0.out.1.2.1.below hbs (by omega), by rw [hV1]; exact F0.out.1.2.2.1.set 9 _, F0.out.1.2.2.2.trans (hbs.mono (by omega))⟩, Nat.le_trans F0.out.2.1 hbs.size, ?_⟩
  exact F0.out.2.2.block hot
 clear F0 ca
 have ca : ((u0.setCell ⟨w.heap.size + 1 + 1, 9, none⟩ (.slice qvp lvp mvp)).alloc (Obj.cells #[] 9)).cell? ⟨w.heap.size, 10, none⟩ = some (.slice ae le ce) := by
  have h := (G1.out.1.1.alloc (Obj.cells #[] 9)).cell 10
  rw [hV1] at h
  exact h
 have HM1 : Hid ((V1.alloc (Obj.cells #[] 9)).ownsRow V1.heap.size 9 1 (.slice (some ⟨u0.heap.size, 0, none⟩) 0 0) 0 [] /\ OwnT (V1.alloc (Obj.cells #[] 9)) bs (.slice ae le ce) c.per) := by
  refine ⟨?_, HA.out.2.1.stays (G1.out.1.2.2.2.alloc G1.out.1.2.2.2.size _)⟩
  have h := World.ownsRow_made V1 (base := V1.heap.size) (e := 9) (size := 1) #[] 0 (Nat.le_refl _) (Nat.zero_le _) rfl
  rw [z1] at h |-
  exact h
 have hle1 : 0 + c.per.length <= 100000000 := by have := HA.out.2.2.2.2.1; omega
 have hss1 : V1.heap.size <= (V1.alloc (Obj.cells #[] 9)).heap.size := by simp
 go_wp2_with (at_builtin; rw [<- hV1]; refine wpList_append_texts2 rfl _ _ 49 rfl V1.heap.size i9 Try.underlying49 hi9 hz09 hz19 hz29 _ 0 [] rfl HM1.out.1 (.slice ae le ce) c.per bs HM1.out.2 rfl hle1 hss1 ?_)
 intro ve u1 ho hg
 try rw [<- hV1] at hg
 have F1 : Hid ((Blk u1 w.heap.size 112 #[.int .i64 c.serial, .string c.issuer, .string c.subject, .int .i64 c.frm, .int .i64 c.upto, .string c.key, .bool c.ca, .int .i64 c.pathLen, .int .i64 c.usage, .slice ap lp cp, .slice ae le ce, .slice ad ld cd, .string c.sig] /\ Blk u1 (w.heap.size + 1) 112 #[.int .i64 0, .string ⟨#[]⟩, .string ⟨#[]⟩, .int .i64 0, .int .i64 0, .string ⟨#[]⟩, .bool false, .int .i64 0, .int .i64 0, .slice none 0 0, .slice none 0 0, .slice none 0 0, .string ⟨#[]⟩] /\ Blk u1 (w.heap.size + 1 + 1) 112 #[.int .i64 c.serial, .string c.issuer, .string c.subject, .int .i64 c.frm, .int .i64 c.upto, .string c.key, .bool c.ca, .int .i64 c.pathLen, .int .i64 c.usage, .slice qvp lvp mvp, .slice ae le ce, .slice ad ld cd, .string c.sig] /\ Below w.heap.size w u1) /\ w.heap.size + 1 + 1 + 1 <= u1.heap.size /\ OwnI u1 (w.heap.size + 1 + 1 + 1) (.slice qvp lvp mvp) c.pol /\ OwnT u1 (w.heap.size + 1 + 1 + 1) ve c.per /\ (Ap (.slice qvp lvp mvp) ve /\ Ap ve (.slice qvp lvp mvp))) := by
  have hz := G1.out.2.1
  have hb : Below V1.heap.size V1 u1 := ((Below.refl _ _).alloc (Nat.le_refl _) _).grown hg hss1 (fun q hq => by simp [Value.ownBlock] at hq; omega)
  have on : OwnT u1 V1.heap.size ve c.per := by rw [z1]; simpa [OwnT] using ho
  exact ⟨⟨G1.out.1.1.below hb (by omega), G1.out.1.2.1.below hb (by omega), G1.out.1.2.2.1.below hb (by omega), G1.out.1.2.2.2.trans (hb.mono G1.out.1.2.2.2.size)⟩, Nat.le_trans hz hb.size, G1.out.2.2.stays hb, on.base hz, rows_apart G1.out.2.2 on (Nat.le_refl _)⟩
 clear ho hg G1 HM1 hle1 hss1 z1 hV1
 have fr := fun j => F1.out.1.2.2.1.free j
 obtain ⟨qve, mve, hsve⟩ : ∃ ao cap, ve = .slice ao c.per.length cap := by obtain ⟨ao, cap, h, _⟩ := (F1.out.2.2.2.1).at; exact ⟨ao, cap, h⟩
 obtain ⟨lve, hlve⟩ := zE (c.per.length)
 rw [hlve] at hsve
 clear hlve
 subst hsve
 have ca : u1.cell? ⟨w.heap.size, 11, none⟩ = some (.slice ad ld cd) := F1.out.1.1.cell 11
 have cg : u1.cell? ⟨w.heap.size + 1 + 1, 10, none⟩ = some (.slice ae le ce) := F1.out.1.2.2.1.cell 10
 obtain ⟨V2, hV2⟩ : ∃ V, V = u1.setCell ⟨w.heap.size + 1 + 1, 10, none⟩ (.slice qve lve mve) := ⟨_, rfl⟩
 have z2 : V2.heap.size = u1.heap.size := by rw [hV2]; simp
 have G2 : Hid ((Blk V2 w.heap.size 112 #[.int .i64 c.serial, .string c.issuer, .string c.subject, .int .i64 c.frm, .int .i64 c.upto, .string c.key, .bool c.ca, .int .i64 c.pathLen, .int .i64 c.usage, .slice ap lp cp, .slice ae le ce, .slice ad ld cd, .string c.sig] /\ Blk V2 (w.heap.size + 1) 112 #[.int .i64 0, .string ⟨#[]⟩, .string ⟨#[]⟩, .int .i64 0, .int .i64 0, .string ⟨#[]⟩, .bool false, .int .i64 0, .int .i64 0, .slice none 0 0, .slice none 0 0, .slice none 0 0, .string ⟨#[]⟩] /\ Blk V2 (w.heap.size + 1 + 1) 112 #[.int .i64 c.serial, .string c.issuer, .string c.subject, .int .i64 c.frm, .int .i64 c.upto, .string c.key, .bool c.ca, .int .i64 c.pathLen, .int .i64 c.usage, .slice qvp lvp mvp, .slice qve lve mve, .slice ad ld cd, .string c.sig] /\ Below w.heap.size w V2) /\ w.heap.size + 1 + 1 + 1 <= V2.heap.size /\ OwnI V2 (w.heap.size + 1 + 1 + 1) (.slice qvp lvp mvp) c.pol /\ OwnT V2 (w.heap.size + 1 + 1 + 1) (.slice qve lve mve) c.per /\ (Ap (.slice qvp lvp mvp) (.slice qve lve mve) /\ Ap (.slice qve lve mve) (.slice qvp lvp mvp))) := by
  have hbs : Below (w.heap.size + 1 + 1) u1 V2 := by rw [hV2]; exact (Below.refl _ _).setCell (p := ⟨w.heap.size + 1 + 1, 10, none⟩) (Nat.le_refl _) _
  have hot : ∀ b, w.heap.size + 1 + 1 + 1 <= b -> V2.heap[b]? = u1.heap[b]? := fun b hb => by rw [hV2]; exact heap_setCell_other _ _ _ _ (by show b ≠ w.heap.size + 1 + 1; omega)
  refine ⟨⟨F1.out.1.1.below hbs (by omega), F1.out.1.2.1.below hbs (by omega), by rw [hV2]; exact F1.out.1.2.2.1.set 10 _, F1.out.1.2.2.2.trans (hbs.mono (by omega))⟩, Nat.le_trans F1.out.2.1 hbs.size, ?_⟩
  exact ⟨F1.out.2.2.1.block hot, F1.out.2.2.2.1.block hot, F1.out.2.2.2.2⟩
 clear F1 ca
 have ca : ((u1.setCell ⟨w.heap.size + 1 + 1, 10, none⟩ (.slice qve lve mve)).alloc (Obj.cells #[] 9)).cell? ⟨w.heap.size, 11, none⟩ = some (.slice ad ld cd) := by
  have h := (G2.out.1.1.alloc (Obj.cells #[] 9)).cell 11
  rw [hV2] at h
  exact h
 have HM2 : Hid ((V2.alloc (Obj.cells #[] 9)).ownsRow V2.heap.size 9 1 (.slice (some ⟨u1.heap.size, 0, none⟩) 0 0) 0 [] /\ OwnT (V2.alloc (Obj.cells #[] 9)) bs (.slice ad ld cd) c.den) := by
  refine ⟨?_, HA.out.2.2.1.stays (G2.out.1.2.2.2.alloc G2.out.1.2.2.2.size _)⟩
  have h := World.ownsRow_made V2 (base := V2.heap.size) (e := 9) (size := 1) #[] 0 (Nat.le_refl _) (Nat.zero_le _) rfl
  rw [z2] at h |-
  exact h
 have hle2 : 0 + c.den.length <= 100000000 := by have := HA.out.2.2.2.2.2; omega
 have hss2 : V2.heap.size <= (V2.alloc (Obj.cells #[] 9)).heap.size := by simp
 go_wp2_with (at_builtin; rw [<- hV2]; refine wpList_append_texts2 rfl _ _ 49 rfl V2.heap.size i9 Try.underlying49 hi9 hz09 hz19 hz29 _ 0 [] rfl HM2.out.1 (.slice ad ld cd) c.den bs HM2.out.2 rfl hle2 hss2 ?_)
 intro vd u2 ho hg
 try rw [<- hV2] at hg
 have F2 : Hid ((Blk u2 w.heap.size 112 #[.int .i64 c.serial, .string c.issuer, .string c.subject, .int .i64 c.frm, .int .i64 c.upto, .string c.key, .bool c.ca, .int .i64 c.pathLen, .int .i64 c.usage, .slice ap lp cp, .slice ae le ce, .slice ad ld cd, .string c.sig] /\ Blk u2 (w.heap.size + 1) 112 #[.int .i64 0, .string ⟨#[]⟩, .string ⟨#[]⟩, .int .i64 0, .int .i64 0, .string ⟨#[]⟩, .bool false, .int .i64 0, .int .i64 0, .slice none 0 0, .slice none 0 0, .slice none 0 0, .string ⟨#[]⟩] /\ Blk u2 (w.heap.size + 1 + 1) 112 #[.int .i64 c.serial, .string c.issuer, .string c.subject, .int .i64 c.frm, .int .i64 c.upto, .string c.key, .bool c.ca, .int .i64 c.pathLen, .int .i64 c.usage, .slice qvp lvp mvp, .slice qve lve mve, .slice ad ld cd, .string c.sig] /\ Below w.heap.size w u2) /\ w.heap.size + 1 + 1 + 1 <= u2.heap.size /\ OwnI u2 (w.heap.size + 1 + 1 + 1) (.slice qvp lvp mvp) c.pol /\ OwnT u2 (w.heap.size + 1 + 1 + 1) (.slice qve lve mve) c.per /\ OwnT u2 (w.heap.size + 1 + 1 + 1) vd c.den /\ (Ap (.slice qvp lvp mvp) (.slice qve lve mve) /\ Ap (.slice qve lve mve) (.slice qvp lvp mvp)) /\ (Ap (.slice qvp lvp mvp) vd /\ Ap vd (.slice qvp lvp mvp)) /\ (Ap (.slice qve lve mve) vd /\ Ap vd (.slice qve lve mve))) := by
  have hz := G2.out.2.1
  have hb : Below V2.heap.size V2 u2 := ((Below.refl _ _).alloc (Nat.le_refl _) _).grown hg hss2 (fun q hq => by simp [Value.ownBlock] at hq; omega)
  have on : OwnT u2 V2.heap.size vd c.den := by rw [z2]; simpa [OwnT] using ho
  exact ⟨⟨G2.out.1.1.below hb (by omega), G2.out.1.2.1.below hb (by omega), G2.out.1.2.2.1.below hb (by omega), G2.out.1.2.2.2.trans (hb.mono G2.out.1.2.2.2.size)⟩, Nat.le_trans hz hb.size, G2.out.2.2.1.stays hb, G2.out.2.2.2.1.stays hb, on.base hz, G2.out.2.2.2.2, rows_apart G2.out.2.2.1 on (Nat.le_refl _), rows_apart G2.out.2.2.2.1 on (Nat.le_refl _)⟩
 clear ho hg G2 HM2 hle2 hss2 z2 hV2
 have fr := fun j => F2.out.1.2.2.1.free j
 obtain ⟨qvd, mvd, hsvd⟩ : ∃ ao cap, vd = .slice ao c.den.length cap := by obtain ⟨ao, cap, h, _⟩ := (F2.out.2.2.2.2.1).at; exact ⟨ao, cap, h⟩
 obtain ⟨lvd, hlvd⟩ := zE (c.den.length)
 rw [hlvd] at hsvd
 clear hlvd
 subst hsvd
 have f1 := fun j => F2.out.1.2.1.free j
 have c10 : u2.cell? ⟨w.heap.size + 1, 0, none⟩ = some (.int .i64 0) := F2.out.1.2.1.cell 0
 have c20 : u2.cell? ⟨w.heap.size + 1 + 1, 0, none⟩ = some (.int .i64 c.serial) := F2.out.1.2.2.1.cell 0
 have c11 : u2.cell? ⟨w.heap.size + 1, 1, none⟩ = some (.string ⟨#[]⟩) := F2.out.1.2.1.cell 1
 have c21 : u2.cell? ⟨w.heap.size + 1 + 1, 1, none⟩ = some (.string c.issuer) := F2.out.1.2.2.1.cell 1
 have c12 : u2.cell? ⟨w.heap.size + 1, 2, none⟩ = some (.string ⟨#[]⟩) := F2.out.1.2.1.cell 2
 have c22 : u2.cell? ⟨w.heap.size + 1 + 1, 2, none⟩ = some (.string c.subject) := F2.out.1.2.2.1.cell 2
 have c13 : u2.cell? ⟨w.heap.size + 1, 3, none⟩ = some (.int .i64 0) := F2.out.1.2.1.cell 3
 have c23 : u2.cell? ⟨w.heap.size + 1 + 1, 3, none⟩ = some (.int .i64 c.frm) := F2.out.1.2.2.1.cell 3
 have c14 : u2.cell? ⟨w.heap.size + 1, 4, none⟩ = some (.int .i64 0) := F2.out.1.2.1.cell 4
 have c24 : u2.cell? ⟨w.heap.size + 1 + 1, 4, none⟩ = some (.int .i64 c.upto) := F2.out.1.2.2.1.cell 4
 have c15 : u2.cell? ⟨w.heap.size + 1, 5, none⟩ = some (.string ⟨#[]⟩) := F2.out.1.2.1.cell 5
 have c25 : u2.cell? ⟨w.heap.size + 1 + 1, 5, none⟩ = some (.string c.key) := F2.out.1.2.2.1.cell 5
 have c16 : u2.cell? ⟨w.heap.size + 1, 6, none⟩ = some (.bool false) := F2.out.1.2.1.cell 6
 have c26 : u2.cell? ⟨w.heap.size + 1 + 1, 6, none⟩ = some (.bool c.ca) := F2.out.1.2.2.1.cell 6
 have c17 : u2.cell? ⟨w.heap.size + 1, 7, none⟩ = some (.int .i64 0) := F2.out.1.2.1.cell 7
 have c27 : u2.cell? ⟨w.heap.size + 1 + 1, 7, none⟩ = some (.int .i64 c.pathLen) := F2.out.1.2.2.1.cell 7
 have c18 : u2.cell? ⟨w.heap.size + 1, 8, none⟩ = some (.int .i64 0) := F2.out.1.2.1.cell 8
 have c28 : u2.cell? ⟨w.heap.size + 1 + 1, 8, none⟩ = some (.int .i64 c.usage) := F2.out.1.2.2.1.cell 8
 have c19 : u2.cell? ⟨w.heap.size + 1, 9, none⟩ = some (.slice none 0 0) := F2.out.1.2.1.cell 9
 have c29 : u2.cell? ⟨w.heap.size + 1 + 1, 9, none⟩ = some (.slice qvp lvp mvp) := F2.out.1.2.2.1.cell 9
 have c110 : u2.cell? ⟨w.heap.size + 1, 10, none⟩ = some (.slice none 0 0) := F2.out.1.2.1.cell 10
 have c210 : u2.cell? ⟨w.heap.size + 1 + 1, 10, none⟩ = some (.slice qve lve mve) := F2.out.1.2.2.1.cell 10
 have c111 : u2.cell? ⟨w.heap.size + 1, 11, none⟩ = some (.slice none 0 0) := F2.out.1.2.1.cell 11
 have c211 : u2.cell? ⟨w.heap.size + 1 + 1, 11, none⟩ = some (.slice ad ld cd) := F2.out.1.2.2.1.cell 11
 have c112 : u2.cell? ⟨w.heap.size + 1, 12, none⟩ = some (.string ⟨#[]⟩) := F2.out.1.2.1.cell 12
 have c212 : u2.cell? ⟨w.heap.size + 1 + 1, 12, none⟩ = some (.string c.sig) := F2.out.1.2.2.1.cell 12
 go_wp2_with fail
 refine bodyPost_ret (v := ctV c (.slice qvp lvp mvp) (.slice qve lve mve) (.slice qvd lvd mvd)) (by simp [results, Try.results99, go_sem, ctV, c10, c11, c12, c13, c14, c15, c16, c17, c18, c19, c110, c111, c112]) rfl ⟨_, rfl, ⟨_, _, _, rfl, (F2.out.2.2.1.block ?far).base (by omega), (F2.out.2.2.2.1.block ?far).base (by omega), (F2.out.2.2.2.2.1.block ?far).base (by omega), F2.out.2.2.2.2.2.1, F2.out.2.2.2.2.2.2.1, F2.out.2.2.2.2.2.2.2⟩, ?bel⟩
 case far =>
  intro b hb
  iterate 14 rw [heap_setCell_other _ _ _ _ (by first | (show b ≠ w.heap.size + 1; omega) | (show b ≠ w.heap.size + 1 + 1; omega))]
 case bel =>
  iterate 14 refine Below.setCell ?_ (by first | (show w.heap.size <= w.heap.size + 1; omega) | (show w.heap.size <= w.heap.size + 1 + 1; omega)) _
  exact F2.out.1.2.2.2
end Go.Proofs.Ytllmgjfffkhocaa
namespace Go.Proofs.Ytllmgjfffkhocaa
open Go.RowKit Der
theorem cloneB_any (s : ByteArray) (w : World) (hs : s.size <= 1000000000000) : Calls Try.prog 90 #[.string s] w fun e w' => e = .returned (.string s) /\ Below w.heap.size w w' := by
 go_enter Try.func90, Try.ntmps90
 go_wp2_with (go_at_call 101; refine (Try.stringslite_Clone s _ (by omega)).mono ?_; rintro e w1 ⟨rfl, hb1⟩)
 go_ret
 exact ⟨rfl, hb1⟩
end Go.Proofs.Ytllmgjfffkhocaa
namespace Go.Proofs.Ytllmgjfffkhocaa
open Go.RowKit Der
set_option linter.unusedVariables false
theorem ownTexts_any (v : Value) (l : List ByteArray) (w : World) (hl : l.length <= 20000000) (hsz : ∀ s ∈ l, s.size <= 1000000000) (h : TxtAt w v l) :
  Calls Try.prog 100 #[v] w fun e w' => ∃ u, e = .returned u /\ OwnT w' w.heap.size u l /\ Below w.heap.size w w' := by
 obtain ⟨i0, hi, hz0, hz1, hz2⟩ := info_parts info9
 obtain ⟨ao, cap, rfl, hc⟩ := h
 obtain ⟨n, hn⟩ := zE (l.length)
 have HC : Hid ((∀ j, j < l.length -> ∃ g, ao = some ⟨g, 0, none⟩ /\ g < w.heap.size /\ w.cell? ⟨g, j, none⟩ = some (.string (l.getD j ByteArray.empty))) /\ l.length = n /\ ∀ s ∈ l, s.size <= 1000000000) := ⟨hc, hn, hsz⟩
 rw [hn] at hl |-
 clear hc hn hsz
 go_enter Try.func100, Try.ntmps100
 go_wp2_with fail
 go_loopw [3, 8] (fun lv iv wr => ∃ k : Nat, k <= n /\ iv = .int .i64 k /\ Hid (OwnT wr w.heap.size lv (l.take k) /\ Below w.heap.size w wr)) (fun _ iv _ => n - (intOf iv).toNat)
 case atStart => exact ⟨0, Nat.zero_le _, rfl, World.ownsRow_nil _ _ _ _, Below.refl _ _⟩
 case round =>
  obtain ⟨k, hk, rfl, HK⟩ := hrel
  have hlk : (l.take k).length = k := by rw [List.length_take, HC.out.2.1]; omega
  obtain ⟨la, lc, hlv⟩ : ∃ ao cap, u3 = .slice ao (l.take k).length cap := by obtain ⟨ao, cap, h, _⟩ := HK.out.1.at; exact ⟨ao, cap, h⟩
  rw [hlk] at hlv
  subst hlv
  have HLEN : Hid ((l.take k).length = k) := hlk
  clear hlk
  by_cases hlt : k < n
  ·have hki : (k : Int) < (n : Int) := by omega
   have hk0 : (0 : Int) <= (k : Int) := by omega
   have hj : k < l.length := by rw [HC.out.2.1]; exact hlt
   obtain ⟨g, hao, hg, hcx⟩ := HC.out.1 k hj
   have c1 : wr.cell? ⟨g, k, none⟩ = some (.string (l.getD k ByteArray.empty)) := (HK.out.2.cell (p := ⟨g, k, none⟩) hg).trans hcx
   have hmem : l.getD k ByteArray.empty ∈ l := by rw [List.getD_eq_getElem?_getD, List.getElem?_eq_getElem hj]; exact List.getElem_mem _
   have hxs := HC.out.2.2 _ hmem
   have HN : Hid (l.take (k + 1) = l.take k ++ [l.getD k ByteArray.empty]) := by
    show l.take (k + 1) = _
    rw [<- List.take_append_getElem hj]
    simp [List.getD, hj]
   generalize l.getD k ByteArray.empty = x at *
   subst hao
   clear hcx hg hmem
   go_wp2_with fail
   refine (cloneB_any x wr (by omega)).mono ?_
   rintro e w3 ⟨rfl, hb3⟩
   obtain ⟨W4, hW4⟩ : ∃ V, V = w3.alloc (Obj.cells #[.string x] 9) := ⟨_, rfl⟩
   have hb34 : Below wr.heap.size wr W4 := by
    rw [hW4]
    exact hb3.alloc hb3.size _
   have H4 : Hid (OwnT W4 w.heap.size (.slice la k lc) (l.take k) /\ OwnT W4 w3.heap.size (.slice (some ⟨w3.heap.size, 0, none⟩) 1 1) [x] /\ Below w.heap.size w W4) := ⟨HK.out.1.stays hb34, by rw [hW4]; exact World.ownsRow_lit w3 #[.string x] 1 (Nat.le_refl _) (by decide) rfl, HK.out.2.trans (hb34.mono HK.out.2.size)⟩
   clear hb3 hb34 HK c1
   go_wp2_with (at_builtin; rw [<- hW4]; refine wpList_append_texts2 rfl _ _ 49 rfl w.heap.size i0 Try.underlying49 hi hz0 hz1 hz2 (.slice la k lc) (l.take k).length (cellsT (l.take k)) rfl H4.out.1 _ [x] w3.heap.size H4.out.2.1 rfl (by have := HLEN.out; simp only [List.length_singleton]; omega) H4.out.2.2.size ?_)
   intro v9 w9 ho9 hg9
   rw [<- hW4] at hg9
   have H9 : Hid (OwnT w9 w.heap.size v9 (l.take (k + 1)) /\ Below w.heap.size w w9) := by
    have hrl := fun b hb => (World.ownsRow.lt H4.out.1 b hb).1
    refine ⟨?_, H4.out.2.2.grown hg9 H4.out.2.2.size hrl⟩
    rw [HN.out]
    simpa [OwnT, cellsT_append] using ho9
   clear ho9 hg9 H4 hW4
   go_wp2_with fail
   exact ⟨⟨k + 1, by omega, by go_num, H9⟩, by simp [intOf]; omega⟩
  ·have hki : ¬ (k : Int) < (n : Int) := by omega
   have HE : Hid (OwnT wr w.heap.size (.slice la k lc) l /\ Below w.heap.size w wr) := by
    have h := HK.out.1
    rw [List.take_of_length_le (by have := HC.out.2.1; omega)] at h
    exact ⟨h, HK.out.2⟩
   go_wp2_with fail
   go_ret
   exact ⟨_, rfl, HE.out.1, HE.out.2⟩
theorem ownCert_any (c : Ct) (v : Value) (bs : Nat) (w : World) (hl : wtC c <= 1048576) (ha : OwnC w bs v c) :
  Calls Try.prog 88 #[v] w fun e w' => ∃ u, e = .returned u /\ OwnC w' w.heap.size u c /\ Below w.heap.size w w' := by
 obtain ⟨z1, z2, z3, z4, z5, z6, z7, z8, z9⟩ := wt_parts hl
 obtain ⟨i0, hi, hz0, hz1, hz2⟩ := info_parts info3
 obtain ⟨p, e, d, rfl, h1, h2, h3, h4⟩ := ha
 obtain ⟨pa, pc, hp⟩ : ∃ ao cap, p = .slice ao c.pol.length cap := by obtain ⟨ao, cap, h, _⟩ := h1.at; exact ⟨ao, cap, h⟩
 obtain ⟨ea, ec, he⟩ : ∃ ao cap, e = .slice ao c.per.length cap := by obtain ⟨ao, cap, h, _⟩ := h2.at; exact ⟨ao, cap, h⟩
 obtain ⟨da, dc, hd⟩ : ∃ ao cap, d = .slice ao c.den.length cap := by obtain ⟨ao, cap, h, _⟩ := h3.at; exact ⟨ao, cap, h⟩
 obtain ⟨lp, hlp⟩ := zE (c.pol.length)
 obtain ⟨le, hle⟩ := zE (c.per.length)
 obtain ⟨ld, hld⟩ := zE (c.den.length)
 rw [hlp] at hp
 rw [hle] at he
 rw [hld] at hd
 subst hp he hd
 have HL : Hid ((OwnI w bs (.slice pa lp pc) c.pol /\ TxtAt w (.slice ea le ec) c.per /\ TxtAt w (.slice da ld dc) c.den) /\ (c.pol.length = lp /\ c.per.length = le /\ c.den.length = ld) /\ (c.pol.length <= 1048576 /\ c.per.length <= 1048576 /\ c.den.length <= 1048576) /\ (∀ s ∈ c.per, s.size <= 1000000000) /\ (∀ s ∈ c.den, s.size <= 1000000000) /\ (c.issuer.size <= 1048576 /\ c.subject.size <= 1048576 /\ c.key.size <= 1048576 /\ c.sig.size <= 1048576)) := ⟨⟨h1, h2.at, h3.at⟩, ⟨hlp, hle, hld⟩, ⟨z4, z5, z6⟩, fun s hs => Nat.le_trans (z8 s hs) (by decide), fun s hs => Nat.le_trans (z9 s hs) (by decide), z1, z2, z3, z7⟩
 clear h1 h2 h3 h4 hl z1 z2 z3 z4 z5 z6 z7 z8 z9 hlp hle hld
 unfold ctV
 go_enter Try.func88, Try.ntmps88
 go_wp2_with fail
 obtain ⟨W0, hW0⟩ : ∃ W, W = (w.alloc (Obj.cells #[.int .i64 c.serial, .string c.issuer, .string c.subject, .int .i64 c.frm, .int .i64 c.upto, .string c.key, .bool c.ca, .int .i64 c.pathLen, .int .i64 c.usage, .slice pa lp pc, .slice ea le ec, .slice da ld dc, .string c.sig] 112)).alloc (Obj.cells #[.int .i64 0, .string ⟨#[]⟩, .string ⟨#[]⟩, .int .i64 0, .int .i64 0, .string ⟨#[]⟩, .bool false, .int .i64 0, .int .i64 0, .slice none 0 0, .slice none 0 0, .slice none 0 0, .string ⟨#[]⟩] 112) := ⟨_, rfl⟩
 rw [<- hW0]
 have G0 : Hid (Blk W0 w.heap.size 112 #[.int .i64 c.serial, .string c.issuer, .string c.subject, .int .i64 c.frm, .int .i64 c.upto, .string c.key, .bool c.ca, .int .i64 c.pathLen, .int .i64 c.usage, .slice pa lp pc, .slice ea le ec, .slice da ld dc, .string c.sig] /\ Blk W0 (w.heap.size + 1) 112 #[.int .i64 0, .string ⟨#[]⟩, .string ⟨#[]⟩, .int .i64 0, .int .i64 0, .string ⟨#[]⟩, .bool false, .int .i64 0, .int .i64 0, .slice none 0 0, .slice none 0 0, .slice none 0 0, .string ⟨#[]⟩] /\ Below w.heap.size w W0 /\ w.heap.size + 2 <= W0.heap.size /\ (True)) := by
  have e0 : (w.alloc (Obj.cells #[.int .i64 c.serial, .string c.issuer, .string c.subject, .int .i64 c.frm, .int .i64 c.upto, .string c.key, .bool c.ca, .int .i64 c.pathLen, .int .i64 c.usage, .slice pa lp pc, .slice ea le ec, .slice da ld dc, .string c.sig] 112)).heap.size = w.heap.size + 1 := Array.size_push _
  have h := Blk.new (w.alloc (Obj.cells #[.int .i64 c.serial, .string c.issuer, .string c.subject, .int .i64 c.frm, .int .i64 c.upto, .string c.key, .bool c.ca, .int .i64 c.pathLen, .int .i64 c.usage, .slice pa lp pc, .slice ea le ec, .slice da ld dc, .string c.sig] 112)) 112 #[.int .i64 0, .string ⟨#[]⟩, .string ⟨#[]⟩, .int .i64 0, .int .i64 0, .string ⟨#[]⟩, .bool false, .int .i64 0, .int .i64 0, .slice none 0 0, .slice none 0 0, .slice none 0 0, .string ⟨#[]⟩]
  rw [e0] at h
  rw [hW0]
  exact ⟨(Blk.new w _ _).alloc _, h, ((Below.refl _ _).alloc (Nat.le_refl _) _).alloc (by rw [e0]; omega) _, by rw [size_alloc, e0]; omega, trivial⟩
 clear hW0
 have wd1 : w.heap.size ≠ w.heap.size + 1 := by omega
 refine (cloneB_any c.issuer W0 (by have := HL.out.2.2.2.2.2.1; omega)).mono ?_
 rintro r u1 ⟨rfl, hb⟩
 have F1 : Hid (Blk u1 w.heap.size 112 #[.int .i64 c.serial, .string c.issuer, .string c.subject, .int .i64 c.frm, .int .i64 c.upto, .string c.key, .bool c.ca, .int .i64 c.pathLen, .int .i64 c.usage, .slice pa lp pc, .slice ea le ec, .slice da ld dc, .string c.sig] /\ Blk u1 (w.heap.size + 1) 112 #[.int .i64 0, .string ⟨#[]⟩, .string ⟨#[]⟩, .int .i64 0, .int .i64 0, .string ⟨#[]⟩, .bool false, .int .i64 0, .int .i64 0, .slice none 0 0, .slice none 0 0, .slice none 0 0, .string ⟨#[]⟩] /\ Below w.heap.size w u1 /\ w.heap.size + 2 <= u1.heap.size /\ (True)) := ⟨G0.out.1.below hb G0.out.1.lt, G0.out.2.1.below hb G0.out.2.1.lt, G0.out.2.2.1.trans (hb.mono G0.out.2.2.1.size), Nat.le_trans G0.out.2.2.2.1 hb.size, trivial⟩
 clear hb G0
 have dj : u1.cell? ⟨w.heap.size, 1, none⟩ = some (.string c.issuer) := F1.out.1.cell 1
 have fj := fun j => F1.out.1.free j
 have nj : u1.cell? ⟨w.heap.size, 2, none⟩ = some (.string c.subject) := F1.out.1.cell 2
 go_wp2_with fail
 obtain ⟨V2, hV⟩ : ∃ V, V = u1.setCell ⟨w.heap.size, 1, none⟩ (.string c.issuer) := ⟨_, rfl⟩
 rw [<- hV]
 have G2 : Hid (Blk V2 w.heap.size 112 #[.int .i64 c.serial, .string c.issuer, .string c.subject, .int .i64 c.frm, .int .i64 c.upto, .string c.key, .bool c.ca, .int .i64 c.pathLen, .int .i64 c.usage, .slice pa lp pc, .slice ea le ec, .slice da ld dc, .string c.sig] /\ Blk V2 (w.heap.size + 1) 112 #[.int .i64 0, .string ⟨#[]⟩, .string ⟨#[]⟩, .int .i64 0, .int .i64 0, .string ⟨#[]⟩, .bool false, .int .i64 0, .int .i64 0, .slice none 0 0, .slice none 0 0, .slice none 0 0, .string ⟨#[]⟩] /\ Below w.heap.size w V2 /\ w.heap.size + 2 <= V2.heap.size /\ (True)) := by
  have hbs : Below w.heap.size u1 V2 := by rw [hV]; exact (Below.refl _ _).setCell (p := ⟨w.heap.size, 1, none⟩) (Nat.le_refl _) _
  have hot : ∀ b, w.heap.size + 1 <= b -> V2.heap[b]? = u1.heap[b]? := fun b hb => by rw [hV]; exact heap_setCell_other _ _ _ _ (by show b ≠ w.heap.size; omega)
  exact ⟨by rw [hV]; exact F1.out.1.set 1 _, (hot _ (Nat.le_refl _)).trans F1.out.2.1, F1.out.2.2.1.trans hbs, Nat.le_trans F1.out.2.2.2.1 hbs.size, trivial⟩
 clear hV F1 dj fj nj
 refine (cloneB_any c.subject V2 (by have := HL.out.2.2.2.2.2.2.1; omega)).mono ?_
 rintro r u3 ⟨rfl, hb⟩
 have F3 : Hid (Blk u3 w.heap.size 112 #[.int .i64 c.serial, .string c.issuer, .string c.subject, .int .i64 c.frm, .int .i64 c.upto, .string c.key, .bool c.ca, .int .i64 c.pathLen, .int .i64 c.usage, .slice pa lp pc, .slice ea le ec, .slice da ld dc, .string c.sig] /\ Blk u3 (w.heap.size + 1) 112 #[.int .i64 0, .string ⟨#[]⟩, .string ⟨#[]⟩, .int .i64 0, .int .i64 0, .string ⟨#[]⟩, .bool false, .int .i64 0, .int .i64 0, .slice none 0 0, .slice none 0 0, .slice none 0 0, .string ⟨#[]⟩] /\ Below w.heap.size w u3 /\ w.heap.size + 2 <= u3.heap.size /\ (True)) := ⟨G2.out.1.below hb G2.out.1.lt, G2.out.2.1.below hb G2.out.2.1.lt, G2.out.2.2.1.trans (hb.mono G2.out.2.2.1.size), Nat.le_trans G2.out.2.2.2.1 hb.size, trivial⟩
 clear hb G2
 have dj : u3.cell? ⟨w.heap.size, 2, none⟩ = some (.string c.subject) := F3.out.1.cell 2
 have fj := fun j => F3.out.1.free j
 have nj : u3.cell? ⟨w.heap.size, 5, none⟩ = some (.string c.key) := F3.out.1.cell 5
 go_wp2_with fail
 obtain ⟨V4, hV⟩ : ∃ V, V = u3.setCell ⟨w.heap.size, 2, none⟩ (.string c.subject) := ⟨_, rfl⟩
 rw [<- hV]
 have G4 : Hid (Blk V4 w.heap.size 112 #[.int .i64 c.serial, .string c.issuer, .string c.subject, .int .i64 c.frm, .int .i64 c.upto, .string c.key, .bool c.ca, .int .i64 c.pathLen, .int .i64 c.usage, .slice pa lp pc, .slice ea le ec, .slice da ld dc, .string c.sig] /\ Blk V4 (w.heap.size + 1) 112 #[.int .i64 0, .string ⟨#[]⟩, .string ⟨#[]⟩, .int .i64 0, .int .i64 0, .string ⟨#[]⟩, .bool false, .int .i64 0, .int .i64 0, .slice none 0 0, .slice none 0 0, .slice none 0 0, .string ⟨#[]⟩] /\ Below w.heap.size w V4 /\ w.heap.size + 2 <= V4.heap.size /\ (True)) := by
  have hbs : Below w.heap.size u3 V4 := by rw [hV]; exact (Below.refl _ _).setCell (p := ⟨w.heap.size, 2, none⟩) (Nat.le_refl _) _
  have hot : ∀ b, w.heap.size + 1 <= b -> V4.heap[b]? = u3.heap[b]? := fun b hb => by rw [hV]; exact heap_setCell_other _ _ _ _ (by show b ≠ w.heap.size; omega)
  exact ⟨by rw [hV]; exact F3.out.1.set 2 _, (hot _ (Nat.le_refl _)).trans F3.out.2.1, F3.out.2.2.1.trans hbs, Nat.le_trans F3.out.2.2.2.1 hbs.size, trivial⟩
 clear hV F3 dj fj nj
 refine (cloneB_any c.key V4 (by have := HL.out.2.2.2.2.2.2.2.1; omega)).mono ?_
 rintro r u5 ⟨rfl, hb⟩
 have F5 : Hid (Blk u5 w.heap.size 112 #[.int .i64 c.serial, .string c.issuer, .string c.subject, .int .i64 c.frm, .int .i64 c.upto, .string c.key, .bool c.ca, .int .i64 c.pathLen, .int .i64 c.usage, .slice pa lp pc, .slice ea le ec, .slice da ld dc, .string c.sig] /\ Blk u5 (w.heap.size + 1) 112 #[.int .i64 0, .string ⟨#[]⟩, .string ⟨#[]⟩, .int .i64 0, .int .i64 0, .string ⟨#[]⟩, .bool false, .int .i64 0, .int .i64 0, .slice none 0 0, .slice none 0 0, .slice none 0 0, .string ⟨#[]⟩] /\ Below w.heap.size w u5 /\ w.heap.size + 2 <= u5.heap.size /\ (True)) := ⟨G4.out.1.below hb G4.out.1.lt, G4.out.2.1.below hb G4.out.2.1.lt, G4.out.2.2.1.trans (hb.mono G4.out.2.2.1.size), Nat.le_trans G4.out.2.2.2.1 hb.size, trivial⟩
 clear hb G4
 have dj : u5.cell? ⟨w.heap.size, 5, none⟩ = some (.string c.key) := F5.out.1.cell 5
 have fj := fun j => F5.out.1.free j
 have nj : u5.cell? ⟨w.heap.size, 9, none⟩ = some (.slice pa lp pc) := F5.out.1.cell 9
 obtain ⟨V6, hV⟩ : ∃ V, V = u5.setCell ⟨w.heap.size, 5, none⟩ (.string c.key) := ⟨_, rfl⟩
 have GA : Hid (Blk V6 w.heap.size 112 #[.int .i64 c.serial, .string c.issuer, .string c.subject, .int .i64 c.frm, .int .i64 c.upto, .string c.key, .bool c.ca, .int .i64 c.pathLen, .int .i64 c.usage, .slice pa lp pc, .slice ea le ec, .slice da ld dc, .string c.sig] /\ Blk V6 (w.heap.size + 1) 112 #[.int .i64 0, .string ⟨#[]⟩, .string ⟨#[]⟩, .int .i64 0, .int .i64 0, .string ⟨#[]⟩, .bool false, .int .i64 0, .int .i64 0, .slice none 0 0, .slice none 0 0, .slice none 0 0, .string ⟨#[]⟩] /\ Below w.heap.size w V6 /\ w.heap.size + 2 <= V6.heap.size /\ (True)) := by
  have hbs : Below w.heap.size u5 V6 := by rw [hV]; exact (Below.refl _ _).setCell (p := ⟨w.heap.size, 5, none⟩) (Nat.le_refl _) _
  have hot : ∀ b, w.heap.size + 1 <= b -> V6.heap[b]? = u5.heap[b]? := fun b hb => by rw [hV]; exact heap_setCell_other _ _ _ _ (by show b ≠ w.heap.size; omega)
  exact ⟨by rw [hV]; exact F5.out.1.set 5 _, (hot _ (Nat.le_refl _)).trans F5.out.2.1, F5.out.2.2.1.trans hbs, Nat.le_trans F5.out.2.2.2.1 hbs.size, trivial⟩
 have HSRC : Hid (OwnI V6 bs (.slice pa lp pc) c.pol) := HL.out.1.1.stays GA.out.2.2.1
 go_wp2_with (at_builtin; rw [<- hV]; refine wpList_append_ints2 rfl _ _ 44 rfl (w.heap.size + 2) i0 Try.underlying44 hi hz0 hz1 hz2 (.slice none 0 0) 0 [] rfl (World.ownsRow_nil _ _ _ _) _ c.pol bs HSRC.out rfl (by have := HL.out.2.2.1.1; omega) GA.out.2.2.2.1 ?_)
 intro v9 w9 ho9 hg9
 try rw [<- hV] at hg9
 clear dj fj nj hV F5 HSRC
 have HV9 : Hid ((Blk w9 w.heap.size 112 #[.int .i64 c.serial, .string c.issuer, .string c.subject, .int .i64 c.frm, .int .i64 c.upto, .string c.key, .bool c.ca, .int .i64 c.pathLen, .int .i64 c.usage, .slice pa lp pc, .slice ea le ec, .slice da ld dc, .string c.sig] /\ Blk w9 (w.heap.size + 1) 112 #[.int .i64 0, .string ⟨#[]⟩, .string ⟨#[]⟩, .int .i64 0, .int .i64 0, .string ⟨#[]⟩, .bool false, .int .i64 0, .int .i64 0, .slice none 0 0, .slice none 0 0, .slice none 0 0, .string ⟨#[]⟩] /\ Below w.heap.size w w9 /\ w.heap.size + 2 <= w9.heap.size /\ (True)) /\ OwnI w9 (w.heap.size + 2) v9 c.pol) := by
  refine ⟨⟨(hg9.block _ GA.out.1.lt (fun e => by cases e)).trans GA.out.1, (hg9.block _ GA.out.2.1.lt (fun e => by cases e)).trans GA.out.2.1, GA.out.2.2.1.grown hg9 GA.out.2.2.1.size (fun b hb => by cases hb), Nat.le_trans GA.out.2.2.2.1 hg9.size, trivial⟩, ?_⟩
  simpa [OwnI] using ho9
 clear ho9 hg9 GA
 obtain ⟨qp, mp, hq9⟩ : ∃ ao cap, v9 = .slice ao c.pol.length cap := by obtain ⟨ao, cap, h, _⟩ := HV9.out.2.at; exact ⟨ao, cap, h⟩
 rw [HL.out.2.1.1] at hq9
 subst hq9
 have F9 : Hid (Blk w9 w.heap.size 112 #[.int .i64 c.serial, .string c.issuer, .string c.subject, .int .i64 c.frm, .int .i64 c.upto, .string c.key, .bool c.ca, .int .i64 c.pathLen, .int .i64 c.usage, .slice pa lp pc, .slice ea le ec, .slice da ld dc, .string c.sig] /\ Blk w9 (w.heap.size + 1) 112 #[.int .i64 0, .string ⟨#[]⟩, .string ⟨#[]⟩, .int .i64 0, .int .i64 0, .string ⟨#[]⟩, .bool false, .int .i64 0, .int .i64 0, .slice none 0 0, .slice none 0 0, .slice none 0 0, .string ⟨#[]⟩] /\ Below w.heap.size w w9 /\ w.heap.size + 2 <= w9.heap.size /\ (OwnI w9 (w.heap.size + 2) (.slice qp lp mp) c.pol)) := ⟨HV9.out.1.1, HV9.out.1.2.1, HV9.out.1.2.2.1, HV9.out.1.2.2.2.1, HV9.out.2⟩
 clear HV9
 have dj : w9.cell? ⟨w.heap.size, 9, none⟩ = some (.slice pa lp pc) := F9.out.1.cell 9
 have fj := fun j => F9.out.1.free j
 have nj : w9.cell? ⟨w.heap.size, 10, none⟩ = some (.slice ea le ec) := F9.out.1.cell 10
 go_wp2_with fail
 obtain ⟨V7, hV⟩ : ∃ V, V = w9.setCell ⟨w.heap.size, 9, none⟩ (.slice qp lp mp) := ⟨_, rfl⟩
 rw [<- hV]
 have G7 : Hid (Blk V7 w.heap.size 112 #[.int .i64 c.serial, .string c.issuer, .string c.subject, .int .i64 c.frm, .int .i64 c.upto, .string c.key, .bool c.ca, .int .i64 c.pathLen, .int .i64 c.usage, .slice qp lp mp, .slice ea le ec, .slice da ld dc, .string c.sig] /\ Blk V7 (w.heap.size + 1) 112 #[.int .i64 0, .string ⟨#[]⟩, .string ⟨#[]⟩, .int .i64 0, .int .i64 0, .string ⟨#[]⟩, .bool false, .int .i64 0, .int .i64 0, .slice none 0 0, .slice none 0 0, .slice none 0 0, .string ⟨#[]⟩] /\ Below w.heap.size w V7 /\ w.heap.size + 2 <= V7.heap.size /\ (OwnI V7 (w.heap.size + 2) (.slice qp lp mp) c.pol)) := by
  have hbs : Below w.heap.size w9 V7 := by rw [hV]; exact (Below.refl _ _).setCell (p := ⟨w.heap.size, 9, none⟩) (Nat.le_refl _) _
  have hot : ∀ b, w.heap.size + 1 <= b -> V7.heap[b]? = w9.heap[b]? := fun b hb => by rw [hV]; exact heap_setCell_other _ _ _ _ (by show b ≠ w.heap.size; omega)
  exact ⟨by rw [hV]; exact F9.out.1.set 9 _, (hot _ (Nat.le_refl _)).trans F9.out.2.1, F9.out.2.2.1.trans hbs, Nat.le_trans F9.out.2.2.2.1 hbs.size, F9.out.2.2.2.2.block (fun b hb => hot b (by omega))⟩
 clear hV F9 dj fj nj
 refine (ownTexts_any (.slice ea le ec) c.per V7 (by have := HL.out.2.2.1; omega) HL.out.2.2.2.1 (HL.out.1.2.1.below G7.out.2.2.1)).mono ?_
 rintro r u8 ⟨ve, rfl, ho, hb⟩
 obtain ⟨qe, me, hqe⟩ : ∃ ao cap, ve = .slice ao c.per.length cap := by obtain ⟨ao, cap, h, _⟩ := ho.at; exact ⟨ao, cap, h⟩
 rw [HL.out.2.1.2.1] at hqe
 subst hqe
 have F8 : Hid (Blk u8 w.heap.size 112 #[.int .i64 c.serial, .string c.issuer, .string c.subject, .int .i64 c.frm, .int .i64 c.upto, .string c.key, .bool c.ca, .int .i64 c.pathLen, .int .i64 c.usage, .slice qp lp mp, .slice ea le ec, .slice da ld dc, .string c.sig] /\ Blk u8 (w.heap.size + 1) 112 #[.int .i64 0, .string ⟨#[]⟩, .string ⟨#[]⟩, .int .i64 0, .int .i64 0, .string ⟨#[]⟩, .bool false, .int .i64 0, .int .i64 0, .slice none 0 0, .slice none 0 0, .slice none 0 0, .string ⟨#[]⟩] /\ Below w.heap.size w u8 /\ w.heap.size + 2 <= u8.heap.size /\ (OwnI u8 (w.heap.size + 2) (.slice qp lp mp) c.pol /\ OwnT u8 (w.heap.size + 2) (.slice qe le me) c.per /\ (Ap (.slice qp lp mp) (.slice qe le me) /\ Ap (.slice qe le me) (.slice qp lp mp)))) := ⟨G7.out.1.below hb G7.out.1.lt, G7.out.2.1.below hb G7.out.2.1.lt, G7.out.2.2.1.trans (hb.mono G7.out.2.2.1.size), Nat.le_trans G7.out.2.2.2.1 hb.size, ⟨G7.out.2.2.2.2.stays hb, ho.base G7.out.2.2.2.1, rows_apart G7.out.2.2.2.2 ho (Nat.le_refl _)⟩⟩
 clear hb ho G7
 have dj : u8.cell? ⟨w.heap.size, 10, none⟩ = some (.slice ea le ec) := F8.out.1.cell 10
 have fj := fun j => F8.out.1.free j
 have nj : u8.cell? ⟨w.heap.size, 11, none⟩ = some (.slice da ld dc) := F8.out.1.cell 11
 go_wp2_with fail
 obtain ⟨V9, hV⟩ : ∃ V, V = u8.setCell ⟨w.heap.size, 10, none⟩ (.slice qe le me) := ⟨_, rfl⟩
 rw [<- hV]
 have G9 : Hid (Blk V9 w.heap.size 112 #[.int .i64 c.serial, .string c.issuer, .string c.subject, .int .i64 c.frm, .int .i64 c.upto, .string c.key, .bool c.ca, .int .i64 c.pathLen, .int .i64 c.usage, .slice qp lp mp, .slice qe le me, .slice da ld dc, .string c.sig] /\ Blk V9 (w.heap.size + 1) 112 #[.int .i64 0, .string ⟨#[]⟩, .string ⟨#[]⟩, .int .i64 0, .int .i64 0, .string ⟨#[]⟩, .bool false, .int .i64 0, .int .i64 0, .slice none 0 0, .slice none 0 0, .slice none 0 0, .string ⟨#[]⟩] /\ Below w.heap.size w V9 /\ w.heap.size + 2 <= V9.heap.size /\ (OwnI V9 (w.heap.size + 2) (.slice qp lp mp) c.pol /\ OwnT V9 (w.heap.size + 2) (.slice qe le me) c.per /\ (Ap (.slice qp lp mp) (.slice qe le me) /\ Ap (.slice qe le me) (.slice qp lp mp)))) := by
  have hbs : Below w.heap.size u8 V9 := by rw [hV]; exact (Below.refl _ _).setCell (p := ⟨w.heap.size, 10, none⟩) (Nat.le_refl _) _
  have hot : ∀ b, w.heap.size + 1 <= b -> V9.heap[b]? = u8.heap[b]? := fun b hb => by rw [hV]; exact heap_setCell_other _ _ _ _ (by show b ≠ w.heap.size; omega)
  exact ⟨by rw [hV]; exact F8.out.1.set 10 _, (hot _ (Nat.le_refl _)).trans F8.out.2.1, F8.out.2.2.1.trans hbs, Nat.le_trans F8.out.2.2.2.1 hbs.size, ⟨F8.out.2.2.2.2.1.block (fun b hb => hot b (by omega)), F8.out.2.2.2.2.2.1.block (fun b hb => hot b (by omega)), F8.out.2.2.2.2.2.2⟩⟩
 clear hV F8 dj fj nj
 refine (ownTexts_any (.slice da ld dc) c.den V9 (by have := HL.out.2.2.1; omega) HL.out.2.2.2.2.1 (HL.out.1.2.2.below G9.out.2.2.1)).mono ?_
 rintro r u10 ⟨vd, rfl, ho, hb⟩
 obtain ⟨qd, md, hqd⟩ : ∃ ao cap, vd = .slice ao c.den.length cap := by obtain ⟨ao, cap, h, _⟩ := ho.at; exact ⟨ao, cap, h⟩
 rw [HL.out.2.1.2.2] at hqd
 subst hqd
 have F10 : Hid (Blk u10 w.heap.size 112 #[.int .i64 c.serial, .string c.issuer, .string c.subject, .int .i64 c.frm, .int .i64 c.upto, .string c.key, .bool c.ca, .int .i64 c.pathLen, .int .i64 c.usage, .slice qp lp mp, .slice qe le me, .slice da ld dc, .string c.sig] /\ Blk u10 (w.heap.size + 1) 112 #[.int .i64 0, .string ⟨#[]⟩, .string ⟨#[]⟩, .int .i64 0, .int .i64 0, .string ⟨#[]⟩, .bool false, .int .i64 0, .int .i64 0, .slice none 0 0, .slice none 0 0, .slice none 0 0, .string ⟨#[]⟩] /\ Below w.heap.size w u10 /\ w.heap.size + 2 <= u10.heap.size /\ (OwnI u10 (w.heap.size + 2) (.slice qp lp mp) c.pol /\ OwnT u10 (w.heap.size + 2) (.slice qe le me) c.per /\ OwnT u10 (w.heap.size + 2) (.slice qd ld md) c.den /\ (Ap (.slice qp lp mp) (.slice qe le me) /\ Ap (.slice qe le me) (.slice qp lp mp)) /\ (Ap (.slice qp lp mp) (.slice qd ld md) /\ Ap (.slice qd ld md) (.slice qp lp mp)) /\ (Ap (.slice qe le me) (.slice qd ld md) /\ Ap (.slice qd ld md) (.slice qe le me)))) := ⟨G9.out.1.below hb G9.out.1.lt, G9.out.2.1.below hb G9.out.2.1.lt, G9.out.2.2.1.trans (hb.mono G9.out.2.2.1.size), Nat.le_trans G9.out.2.2.2.1 hb.size, ⟨G9.out.2.2.2.2.1.stays hb, G9.out.2.2.2.2.2.1.stays hb, ho.base G9.out.2.2.2.1, G9.out.2.2.2.2.2.2, rows_apart G9.out.2.2.2.2.1 ho (Nat.le_refl _), rows_apart G9.out.2.2.2.2.2.1 ho (Nat.le_refl _)⟩⟩
 clear hb ho G9
 have dj : u10.cell? ⟨w.heap.size, 11, none⟩ = some (.slice da ld dc) := F10.out.1.cell 11
 have fj := fun j => F10.out.1.free j
 have nj : u10.cell? ⟨w.heap.size, 12, none⟩ = some (.string c.sig) := F10.out.1.cell 12
 go_wp2_with fail
 obtain ⟨V11, hV⟩ : ∃ V, V = u10.setCell ⟨w.heap.size, 11, none⟩ (.slice qd ld md) := ⟨_, rfl⟩
 rw [<- hV]
 have G11 : Hid (Blk V11 w.heap.size 112 #[.int .i64 c.serial, .string c.issuer, .string c.subject, .int .i64 c.frm, .int .i64 c.upto, .string c.key, .bool c.ca, .int .i64 c.pathLen, .int .i64 c.usage, .slice qp lp mp, .slice qe le me, .slice qd ld md, .string c.sig] /\ Blk V11 (w.heap.size + 1) 112 #[.int .i64 0, .string ⟨#[]⟩, .string ⟨#[]⟩, .int .i64 0, .int .i64 0, .string ⟨#[]⟩, .bool false, .int .i64 0, .int .i64 0, .slice none 0 0, .slice none 0 0, .slice none 0 0, .string ⟨#[]⟩] /\ Below w.heap.size w V11 /\ w.heap.size + 2 <= V11.heap.size /\ (OwnI V11 (w.heap.size + 2) (.slice qp lp mp) c.pol /\ OwnT V11 (w.heap.size + 2) (.slice qe le me) c.per /\ OwnT V11 (w.heap.size + 2) (.slice qd ld md) c.den /\ (Ap (.slice qp lp mp) (.slice qe le me) /\ Ap (.slice qe le me) (.slice qp lp mp)) /\ (Ap (.slice qp lp mp) (.slice qd ld md) /\ Ap (.slice qd ld md) (.slice qp lp mp)) /\ (Ap (.slice qe le me) (.slice qd ld md) /\ Ap (.slice qd ld md) (.slice qe le me)))) := by
  have hbs : Below w.heap.size u10 V11 := by rw [hV]; exact (Below.refl _ _).setCell (p := ⟨w.heap.size, 11, none⟩) (Nat.le_refl _) _
  have hot : ∀ b, w.heap.size + 1 <= b -> V11.heap[b]? = u10.heap[b]? := fun b hb => by rw [hV]; exact heap_setCell_other _ _ _ _ (by show b ≠ w.heap.size; omega)
  exact ⟨by rw [hV]; exact F10.out.1.set 11 _, (hot _ (Nat.le_refl _)).trans F10.out.2.1, F10.out.2.2.1.trans hbs, Nat.le_trans F10.out.2.2.2.1 hbs.size, ⟨F10.out.2.2.2.2.1.block (fun b hb => hot b (by omega)), F10.out.2.2.2.2.2.1.block (fun b hb => hot b (by omega)), F10.out.2.2.2.2.2.2.1.block (fun b hb => hot b (by omega)), F10.out.2.2.2.2.2.2.2⟩⟩
 clear hV F10 dj fj nj
 refine (cloneB_any c.sig V11 (by have := HL.out.2.2.2.2.2.2.2.2; omega)).mono ?_
 rintro r u12 ⟨rfl, hb⟩
 have F12 : Hid (Blk u12 w.heap.size 112 #[.int .i64 c.serial, .string c.issuer, .string c.subject, .int .i64 c.frm, .int .i64 c.upto, .string c.key, .bool c.ca, .int .i64 c.pathLen, .int .i64 c.usage, .slice qp lp mp, .slice qe le me, .slice qd ld md, .string c.sig] /\ Blk u12 (w.heap.size + 1) 112 #[.int .i64 0, .string ⟨#[]⟩, .string ⟨#[]⟩, .int .i64 0, .int .i64 0, .string ⟨#[]⟩, .bool false, .int .i64 0, .int .i64 0, .slice none 0 0, .slice none 0 0, .slice none 0 0, .string ⟨#[]⟩] /\ Below w.heap.size w u12 /\ w.heap.size + 2 <= u12.heap.size /\ (OwnI u12 (w.heap.size + 2) (.slice qp lp mp) c.pol /\ OwnT u12 (w.heap.size + 2) (.slice qe le me) c.per /\ OwnT u12 (w.heap.size + 2) (.slice qd ld md) c.den /\ (Ap (.slice qp lp mp) (.slice qe le me) /\ Ap (.slice qe le me) (.slice qp lp mp)) /\ (Ap (.slice qp lp mp) (.slice qd ld md) /\ Ap (.slice qd ld md) (.slice qp lp mp)) /\ (Ap (.slice qe le me) (.slice qd ld md) /\ Ap (.slice qd ld md) (.slice qe le me)))) := ⟨G11.out.1.below hb G11.out.1.lt, G11.out.2.1.below hb G11.out.2.1.lt, G11.out.2.2.1.trans (hb.mono G11.out.2.2.1.size), Nat.le_trans G11.out.2.2.2.1 hb.size, ⟨G11.out.2.2.2.2.1.stays hb, G11.out.2.2.2.2.2.1.stays hb, G11.out.2.2.2.2.2.2.1.stays hb, G11.out.2.2.2.2.2.2.2⟩⟩
 clear hb G11
 have a0 : u12.cell? ⟨w.heap.size, 0, none⟩ = some (.int .i64 c.serial) := F12.out.1.cell 0
 have b0 : u12.cell? ⟨w.heap.size + 1, 0, none⟩ = some (.int .i64 0) := F12.out.2.1.cell 0
 have a1 : u12.cell? ⟨w.heap.size, 1, none⟩ = some (.string c.issuer) := F12.out.1.cell 1
 have b1 : u12.cell? ⟨w.heap.size + 1, 1, none⟩ = some (.string ⟨#[]⟩) := F12.out.2.1.cell 1
 have a2 : u12.cell? ⟨w.heap.size, 2, none⟩ = some (.string c.subject) := F12.out.1.cell 2
 have b2 : u12.cell? ⟨w.heap.size + 1, 2, none⟩ = some (.string ⟨#[]⟩) := F12.out.2.1.cell 2
 have a3 : u12.cell? ⟨w.heap.size, 3, none⟩ = some (.int .i64 c.frm) := F12.out.1.cell 3
 have b3 : u12.cell? ⟨w.heap.size + 1, 3, none⟩ = some (.int .i64 0) := F12.out.2.1.cell 3
 have a4 : u12.cell? ⟨w.heap.size, 4, none⟩ = some (.int .i64 c.upto) := F12.out.1.cell 4
 have b4 : u12.cell? ⟨w.heap.size + 1, 4, none⟩ = some (.int .i64 0) := F12.out.2.1.cell 4
 have a5 : u12.cell? ⟨w.heap.size, 5, none⟩ = some (.string c.key) := F12.out.1.cell 5
 have b5 : u12.cell? ⟨w.heap.size + 1, 5, none⟩ = some (.string ⟨#[]⟩) := F12.out.2.1.cell 5
 have a6 : u12.cell? ⟨w.heap.size, 6, none⟩ = some (.bool c.ca) := F12.out.1.cell 6
 have b6 : u12.cell? ⟨w.heap.size + 1, 6, none⟩ = some (.bool false) := F12.out.2.1.cell 6
 have a7 : u12.cell? ⟨w.heap.size, 7, none⟩ = some (.int .i64 c.pathLen) := F12.out.1.cell 7
 have b7 : u12.cell? ⟨w.heap.size + 1, 7, none⟩ = some (.int .i64 0) := F12.out.2.1.cell 7
 have a8 : u12.cell? ⟨w.heap.size, 8, none⟩ = some (.int .i64 c.usage) := F12.out.1.cell 8
 have b8 : u12.cell? ⟨w.heap.size + 1, 8, none⟩ = some (.int .i64 0) := F12.out.2.1.cell 8
 have a9 : u12.cell? ⟨w.heap.size, 9, none⟩ = some (.slice qp lp mp) := F12.out.1.cell 9
 have b9 : u12.cell? ⟨w.heap.size + 1, 9, none⟩ = some (.slice none 0 0) := F12.out.2.1.cell 9
 have a10 : u12.cell? ⟨w.heap.size, 10, none⟩ = some (.slice qe le me) := F12.out.1.cell 10
 have b10 : u12.cell? ⟨w.heap.size + 1, 10, none⟩ = some (.slice none 0 0) := F12.out.2.1.cell 10
 have a11 : u12.cell? ⟨w.heap.size, 11, none⟩ = some (.slice qd ld md) := F12.out.1.cell 11
 have b11 : u12.cell? ⟨w.heap.size + 1, 11, none⟩ = some (.slice none 0 0) := F12.out.2.1.cell 11
 have a12 : u12.cell? ⟨w.heap.size, 12, none⟩ = some (.string c.sig) := F12.out.1.cell 12
 have b12 : u12.cell? ⟨w.heap.size + 1, 12, none⟩ = some (.string ⟨#[]⟩) := F12.out.2.1.cell 12
 have fa := fun j => F12.out.1.free j
 have fb := fun j => F12.out.2.1.free j
 go_wp2_with fail
 refine bodyPost_ret (v := ctV c (.slice qp lp mp) (.slice qe le me) (.slice qd ld md)) (by simp [results, Try.results88, go_sem, ctV, b0, b1, b2, b3, b4, b5, b6, b7, b8, b9, b10, b11, b12]) rfl ⟨_, rfl, ⟨_, _, _, rfl, (F12.out.2.2.2.2.1.block ?far).base (by omega), (F12.out.2.2.2.2.2.1.block ?far).base (by omega), (F12.out.2.2.2.2.2.2.1.block ?far).base (by omega), F12.out.2.2.2.2.2.2.2.1, F12.out.2.2.2.2.2.2.2.2.1, F12.out.2.2.2.2.2.2.2.2.2⟩, ?bel⟩
 case far =>
  intro b hb
  iterate 14 rw [heap_setCell_other _ _ _ _ (by first | (show b ≠ w.heap.size; omega) | (show b ≠ w.heap.size + 1; omega))]
 case bel =>
  iterate 14 refine Below.setCell ?_ (by first | (show w.heap.size <= w.heap.size; omega) | (show w.heap.size <= w.heap.size + 1; omega)) _
  exact F12.out.2.2.1
end Go.Proofs.Ytllmgjfffkhocaa
