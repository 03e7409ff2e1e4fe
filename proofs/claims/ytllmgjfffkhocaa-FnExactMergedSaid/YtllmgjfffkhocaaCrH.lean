/-
  The specification's l09Copy, of a letter whose lists a call owns.
-/
import Derived.Test.YtllmgjfffkhocaaCrB
import Derived.Test.YtllmgjfffkhocaaAppI
namespace Go.Proofs.Ytllmgjfffkhocaa
open Go.RowKit
set_option linter.unusedVariables false

theorem wpList_append_ints2 {w : World} {ops : Array Oper} {rest : List Oper} {o : Oper} {a : Act} {Q : Exit → Act → World → Prop} (hgd : o.guard = none) (s x : Operand) (t : TypeId)
    (ho : o.op = .call { callee := .builtin .append, args := #[s, x], argTypes := #[t, t] }) (base : Nat) (i0 : TypeInfo) (ht : Try.prog.underlying t = some (.slice 3)) (hi : Try.prog.info? 3 = some i0) (hz0 : i0.zero = some (.int .i64 0)) (hz1 : i0.size = 1) (hz2 : i0.bytes = 8)
    (v : Value) (n : Nat) (xs : List Value) (hs : a.eval s = v) (hown : w.ownsRow base 3 1 v n xs) (u : Value) (lu : List Int) (bu : Nat) (hu : OwnI w bu u lu) (hx : a.eval x = u) (hlen : n + lu.length ≤ 100000000) (hbase : base ≤ w.heap.size)
    (h : ∀ v' w', w'.ownsRow base 3 1 v' (n + lu.length) (xs ++ cellsI lu) → w.grownBy w' v.ownBlock → wpList Try.prog ops Q rest (a.put o.dst v') w') : wpList Try.prog ops Q (o :: rest) a w := by
  rcases hu.2 with ⟨rfl, h0⟩ | ⟨g, cap, cur, rfl, hbg, hg, hn, hm, hsz, htk⟩
  · have hl : lu = [] := List.eq_nil_of_length_eq_zero h0
    subst hl
    refine wpList_append_own_none hgd s x t ho base 3 i0 1 ht hi v n xs hs hown hx (h v w (by simpa [cellsI] using hown) (World.grownBy.refl _ _))
  · refine wpList_append_own w hgd s x t ho base 3 i0 (.int .i64 0) 1 8 ht hi hz0 hz1 hz2 rfl (by decide) v n xs hs hown ⟨g, 0, none⟩ lu.length cap (cellsI lu) hx (by simp [cellsI]) (fun j q hq => ?_) (fun q hq => ?_) (by unfold maxLen; omega) (by omega) hbase (fun v' w' h1 h2 _ => h v' w' h1 h2)
    · have hj : j < lu.length := by
        refine Nat.lt_of_not_le fun h => ?_
        rw [List.getElem?_eq_none (by rw [cellsI_len]; exact h)] at hq
        cases hq
      rw [Addr.add_lit, Nat.zero_add, hu.cell hj, ← hq, cellsI_getD hj]
    · obtain ⟨y, _, rfl⟩ := List.mem_map.1 hq
      rfl
theorem wpList_append_texts2 {w : World} {ops : Array Oper} {rest : List Oper} {o : Oper} {a : Act} {Q : Exit → Act → World → Prop} (hgd : o.guard = none) (s x : Operand) (t : TypeId)
    (ho : o.op = .call { callee := .builtin .append, args := #[s, x], argTypes := #[t, t] }) (base : Nat) (i0 : TypeInfo) (ht : Try.prog.underlying t = some (.slice 9)) (hi : Try.prog.info? 9 = some i0) (hz0 : i0.zero = some (.string ByteArray.empty)) (hz1 : i0.size = 1) (hz2 : i0.bytes = 16)
    (v : Value) (n : Nat) (xs : List Value) (hs : a.eval s = v) (hown : w.ownsRow base 9 1 v n xs) (u : Value) (lu : List ByteArray) (bu : Nat) (hu : OwnT w bu u lu) (hx : a.eval x = u) (hlen : n + lu.length ≤ 100000000) (hbase : base ≤ w.heap.size)
    (h : ∀ v' w', w'.ownsRow base 9 1 v' (n + lu.length) (xs ++ cellsT lu) → w.grownBy w' v.ownBlock → wpList Try.prog ops Q rest (a.put o.dst v') w') : wpList Try.prog ops Q (o :: rest) a w := by
  rcases hu.2 with ⟨rfl, h0⟩ | ⟨g, cap, cur, rfl, hbg, hg, hn, hm, hsz, htk⟩
  · have hl : lu = [] := List.eq_nil_of_length_eq_zero h0
    subst hl
    refine wpList_append_own_none hgd s x t ho base 9 i0 1 ht hi v n xs hs hown hx (h v w (by simpa [cellsT] using hown) (World.grownBy.refl _ _))
  · refine wpList_append_own w hgd s x t ho base 9 i0 (.string ByteArray.empty) 1 16 ht hi hz0 hz1 hz2 rfl (by decide) v n xs hs hown ⟨g, 0, none⟩ lu.length cap (cellsT lu) hx (by simp [cellsT]) (fun j q hq => ?_) (fun q hq => ?_) (by unfold maxLen; omega) (by omega) hbase (fun v' w' h1 h2 _ => h v' w' h1 h2)
    · have hj : j < lu.length := by
        refine Nat.lt_of_not_le fun h => ?_
        rw [List.getElem?_eq_none (by rw [cellsT_len]; exact h)] at hq
        cases hq
      rw [Addr.add_lit, Nat.zero_add, hu.cell hj, ← hq, cellsT_getD hj]
    · obtain ⟨y, _, rfl⟩ := List.mem_map.1 hq
      rfl
set_option maxHeartbeats 6400000 in
set_option maxRecDepth 100000 in
theorem certCopy_any (c : Ct) (v : Value) (bs : Nat) (w : World) (hl : c.pol.length ≤ 20000000 ∧ c.per.length ≤ 20000000 ∧ c.den.length ≤ 20000000) (ha : OwnC w bs v c) :
    Calls Try.prog 99 #[v] w fun e w' => ∃ u, e = .returned u ∧ OwnC w' w.heap.size u c ∧ Below w.heap.size w w' := by
  obtain ⟨p, e, d, rfl, h1, h2, h3, _⟩ := ha
  obtain ⟨i3, hi3, hz03, hz13, hz23⟩ := info_parts info3
  obtain ⟨i9, hi9, hz09, hz19, hz29⟩ := info_parts info9
  obtain ⟨ap, cp, hp⟩ : ∃ ao cap, p = .slice ao c.pol.length cap := by obtain ⟨ao, cap, h, _⟩ := h1.at; exact ⟨ao, cap, h⟩
  obtain ⟨ae, ce, he⟩ : ∃ ao cap, e = .slice ao c.per.length cap := by obtain ⟨ao, cap, h, _⟩ := h2.at; exact ⟨ao, cap, h⟩
  obtain ⟨ad, cd, hd⟩ : ∃ ao cap, d = .slice ao c.den.length cap := by obtain ⟨ao, cap, h, _⟩ := h3.at; exact ⟨ao, cap, h⟩
  obtain ⟨lp, hlp⟩ : ∃ l, c.pol.length = l := ⟨_, rfl⟩
  obtain ⟨le, hle⟩ : ∃ l, c.per.length = l := ⟨_, rfl⟩
  obtain ⟨ld, hld⟩ : ∃ l, c.den.length = l := ⟨_, rfl⟩
  rw [hlp] at hp
  rw [hle] at he
  rw [hld] at hd
  subst hp he hd
  have HA : Hid (OwnI w bs (.slice ap lp cp) c.pol ∧ OwnT w bs (.slice ae le ce) c.per ∧ OwnT w bs (.slice ad ld cd) c.den ∧ c.pol.length ≤ 20000000 ∧ c.per.length ≤ 20000000 ∧ c.den.length ≤ 20000000) := ⟨h1, h2, h3, hl⟩
  clear h1 h2 h3 hl hlp hle hld
  unfold ctV
  go_enter Try.func99, Try.ntmps99
  obtain ⟨V0, hV0⟩ : ∃ W, W = ((w.alloc (Obj.cells #[.int .i64 c.serial, .string c.issuer, .string c.subject, .int .i64 c.frm, .int .i64 c.upto, .string c.key, .bool c.ca, .int .i64 c.pathLen, .int .i64 c.usage, .slice ap lp cp, .slice ae le ce, .slice ad ld cd, .string c.sig] 112)).alloc (Obj.cells #[.int .i64 0, .string ⟨#[]⟩, .string ⟨#[]⟩, .int .i64 0, .int .i64 0, .string ⟨#[]⟩, .bool false, .int .i64 0, .int .i64 0, .slice none 0 0, .slice none 0 0, .slice none 0 0, .string ⟨#[]⟩] 112)).alloc (Obj.cells #[.int .i64 c.serial, .string c.issuer, .string c.subject, .int .i64 c.frm, .int .i64 c.upto, .string c.key, .bool c.ca, .int .i64 c.pathLen, .int .i64 c.usage, .slice ap lp cp, .slice ae le ce, .slice ad ld cd, .string c.sig] 112) := ⟨_, rfl⟩
  have e0 : (w.alloc (Obj.cells #[.int .i64 c.serial, .string c.issuer, .string c.subject, .int .i64 c.frm, .int .i64 c.upto, .string c.key, .bool c.ca, .int .i64 c.pathLen, .int .i64 c.usage, .slice ap lp cp, .slice ae le ce, .slice ad ld cd, .string c.sig] 112)).heap.size = w.heap.size + 1 := Array.size_push _
  have e1 : ((w.alloc (Obj.cells #[.int .i64 c.serial, .string c.issuer, .string c.subject, .int .i64 c.frm, .int .i64 c.upto, .string c.key, .bool c.ca, .int .i64 c.pathLen, .int .i64 c.usage, .slice ap lp cp, .slice ae le ce, .slice ad ld cd, .string c.sig] 112)).alloc (Obj.cells #[.int .i64 0, .string ⟨#[]⟩, .string ⟨#[]⟩, .int .i64 0, .int .i64 0, .string ⟨#[]⟩, .bool false, .int .i64 0, .int .i64 0, .slice none 0 0, .slice none 0 0, .slice none 0 0, .string ⟨#[]⟩] 112)).heap.size = w.heap.size + 1 + 1 := by rw [size_alloc, e0]
  have z0 : V0.heap.size = w.heap.size + 1 + 1 + 1 := by rw [hV0, size_alloc, e1]
  have G0 : Hid ((Blk V0 w.heap.size 112 #[.int .i64 c.serial, .string c.issuer, .string c.subject, .int .i64 c.frm, .int .i64 c.upto, .string c.key, .bool c.ca, .int .i64 c.pathLen, .int .i64 c.usage, .slice ap lp cp, .slice ae le ce, .slice ad ld cd, .string c.sig] ∧ Blk V0 (w.heap.size + 1) 112 #[.int .i64 0, .string ⟨#[]⟩, .string ⟨#[]⟩, .int .i64 0, .int .i64 0, .string ⟨#[]⟩, .bool false, .int .i64 0, .int .i64 0, .slice none 0 0, .slice none 0 0, .slice none 0 0, .string ⟨#[]⟩] ∧ Blk V0 (w.heap.size + 1 + 1) 112 #[.int .i64 c.serial, .string c.issuer, .string c.subject, .int .i64 c.frm, .int .i64 c.upto, .string c.key, .bool c.ca, .int .i64 c.pathLen, .int .i64 c.usage, .slice ap lp cp, .slice ae le ce, .slice ad ld cd, .string c.sig] ∧ Below w.heap.size w V0) ∧ w.heap.size + 1 + 1 + 1 ≤ V0.heap.size ∧ True) := by
    refine ⟨?_, by omega, trivial⟩
    rw [hV0]
    refine ⟨((Blk.new w _ _).alloc _).alloc _, ?_, ?_, (((Below.refl _ _).alloc (Nat.le_refl _) _).alloc (by rw [e0]; omega) _).alloc (by rw [e1]; omega) _⟩
    · have h := (Blk.new (w.alloc (Obj.cells #[.int .i64 c.serial, .string c.issuer, .string c.subject, .int .i64 c.frm, .int .i64 c.upto, .string c.key, .bool c.ca, .int .i64 c.pathLen, .int .i64 c.usage, .slice ap lp cp, .slice ae le ce, .slice ad ld cd, .string c.sig] 112)) 112 #[.int .i64 0, .string ⟨#[]⟩, .string ⟨#[]⟩, .int .i64 0, .int .i64 0, .string ⟨#[]⟩, .bool false, .int .i64 0, .int .i64 0, .slice none 0 0, .slice none 0 0, .slice none 0 0, .string ⟨#[]⟩]).alloc (Obj.cells #[.int .i64 c.serial, .string c.issuer, .string c.subject, .int .i64 c.frm, .int .i64 c.upto, .string c.key, .bool c.ca, .int .i64 c.pathLen, .int .i64 c.usage, .slice ap lp cp, .slice ae le ce, .slice ad ld cd, .string c.sig] 112)
      rw [e0] at h
      exact h
    · have h := Blk.new ((w.alloc (Obj.cells #[.int .i64 c.serial, .string c.issuer, .string c.subject, .int .i64 c.frm, .int .i64 c.upto, .string c.key, .bool c.ca, .int .i64 c.pathLen, .int .i64 c.usage, .slice ap lp cp, .slice ae le ce, .slice ad ld cd, .string c.sig] 112)).alloc (Obj.cells #[.int .i64 0, .string ⟨#[]⟩, .string ⟨#[]⟩, .int .i64 0, .int .i64 0, .string ⟨#[]⟩, .bool false, .int .i64 0, .int .i64 0, .slice none 0 0, .slice none 0 0, .slice none 0 0, .string ⟨#[]⟩] 112)) 112 #[.int .i64 c.serial, .string c.issuer, .string c.subject, .int .i64 c.frm, .int .i64 c.upto, .string c.key, .bool c.ca, .int .i64 c.pathLen, .int .i64 c.usage, .slice ap lp cp, .slice ae le ce, .slice ad ld cd, .string c.sig]
      rw [e1] at h
      exact h
  clear e0 e1
  have HM0 : Hid ((V0.alloc (Obj.cells #[] 3)).ownsRow V0.heap.size 3 1 (.slice (some ⟨w.heap.size + 1 + 1 + 1, 0, none⟩) 0 0) 0 [] ∧ OwnI (V0.alloc (Obj.cells #[] 3)) bs (.slice ap lp cp) c.pol) := by
    refine ⟨?_, HA.out.1.stays (G0.out.1.2.2.2.alloc G0.out.1.2.2.2.size _)⟩
    have h := World.ownsRow_made V0 (base := V0.heap.size) (e := 3) (size := 1) #[] 0 (Nat.le_refl _) (Nat.zero_le _) rfl
    rw [z0] at h ⊢
    exact h
  have hle0 : 0 + c.pol.length ≤ 100000000 := by have := HA.out.2.2.2.1; omega
  have hss0 : V0.heap.size ≤ (V0.alloc (Obj.cells #[] 3)).heap.size := by simp
  go_wp2_with (at_builtin; rw [← hV0]; refine wpList_append_ints2 rfl _ _ 44 rfl V0.heap.size i3 Try.underlying44 hi3 hz03 hz13 hz23 _ 0 [] rfl HM0.out.1 (.slice ap lp cp) c.pol bs HM0.out.2 rfl hle0 hss0 ?_)
  intro vp u0 ho hg
  try rw [← hV0] at hg
  have F0 : Hid ((Blk u0 w.heap.size 112 #[.int .i64 c.serial, .string c.issuer, .string c.subject, .int .i64 c.frm, .int .i64 c.upto, .string c.key, .bool c.ca, .int .i64 c.pathLen, .int .i64 c.usage, .slice ap lp cp, .slice ae le ce, .slice ad ld cd, .string c.sig] ∧ Blk u0 (w.heap.size + 1) 112 #[.int .i64 0, .string ⟨#[]⟩, .string ⟨#[]⟩, .int .i64 0, .int .i64 0, .string ⟨#[]⟩, .bool false, .int .i64 0, .int .i64 0, .slice none 0 0, .slice none 0 0, .slice none 0 0, .string ⟨#[]⟩] ∧ Blk u0 (w.heap.size + 1 + 1) 112 #[.int .i64 c.serial, .string c.issuer, .string c.subject, .int .i64 c.frm, .int .i64 c.upto, .string c.key, .bool c.ca, .int .i64 c.pathLen, .int .i64 c.usage, .slice ap lp cp, .slice ae le ce, .slice ad ld cd, .string c.sig] ∧ Below w.heap.size w u0) ∧ w.heap.size + 1 + 1 + 1 ≤ u0.heap.size ∧ OwnI u0 (w.heap.size + 1 + 1 + 1) vp c.pol) := by
    have hz := G0.out.2.1
    have hb : Below V0.heap.size V0 u0 := ((Below.refl _ _).alloc (Nat.le_refl _) _).grown hg hss0 (fun q hq => by simp [Value.ownBlock] at hq; omega)
    have on : OwnI u0 V0.heap.size vp c.pol := by rw [z0]; simpa [OwnI] using ho
    exact ⟨⟨G0.out.1.1.below hb (by omega), G0.out.1.2.1.below hb (by omega), G0.out.1.2.2.1.below hb (by omega), G0.out.1.2.2.2.trans (hb.mono G0.out.1.2.2.2.size)⟩, Nat.le_trans hz hb.size, on.base hz⟩
  clear ho hg G0 HM0 hle0 hss0 z0 hV0
  have fr := fun j => F0.out.1.2.2.1.free j
  obtain ⟨qvp, mvp, hsvp⟩ : ∃ ao cap, vp = .slice ao c.pol.length cap := by obtain ⟨ao, cap, h, _⟩ := (F0.out.2.2).at; exact ⟨ao, cap, h⟩
  obtain ⟨lvp, hlvp⟩ : ∃ l, c.pol.length = l := ⟨_, rfl⟩
  rw [hlvp] at hsvp
  clear hlvp
  subst hsvp
  have ca : u0.cell? ⟨w.heap.size, 10, none⟩ = some (.slice ae le ce) := F0.out.1.1.cell 10
  have cg : u0.cell? ⟨w.heap.size + 1 + 1, 9, none⟩ = some (.slice ap lp cp) := F0.out.1.2.2.1.cell 9
  obtain ⟨V1, hV1⟩ : ∃ V, V = u0.setCell ⟨w.heap.size + 1 + 1, 9, none⟩ (.slice qvp lvp mvp) := ⟨_, rfl⟩
  have z1 : V1.heap.size = u0.heap.size := by rw [hV1]; simp
  have G1 : Hid ((Blk V1 w.heap.size 112 #[.int .i64 c.serial, .string c.issuer, .string c.subject, .int .i64 c.frm, .int .i64 c.upto, .string c.key, .bool c.ca, .int .i64 c.pathLen, .int .i64 c.usage, .slice ap lp cp, .slice ae le ce, .slice ad ld cd, .string c.sig] ∧ Blk V1 (w.heap.size + 1) 112 #[.int .i64 0, .string ⟨#[]⟩, .string ⟨#[]⟩, .int .i64 0, .int .i64 0, .string ⟨#[]⟩, .bool false, .int .i64 0, .int .i64 0, .slice none 0 0, .slice none 0 0, .slice none 0 0, .string ⟨#[]⟩] ∧ Blk V1 (w.heap.size + 1 + 1) 112 #[.int .i64 c.serial, .string c.issuer, .string c.subject, .int .i64 c.frm, .int .i64 c.upto, .string c.key, .bool c.ca, .int .i64 c.pathLen, .int .i64 c.usage, .slice qvp lvp mvp, .slice ae le ce, .slice ad ld cd, .string c.sig] ∧ Below w.heap.size w V1) ∧ w.heap.size + 1 + 1 + 1 ≤ V1.heap.size ∧ OwnI V1 (w.heap.size + 1 + 1 + 1) (.slice qvp lvp mvp) c.pol) := by
    have hbs : Below (w.heap.size + 1 + 1) u0 V1 := by rw [hV1]; exact (Below.refl _ _).setCell (p := ⟨w.heap.size + 1 + 1, 9, none⟩) (Nat.le_refl _) _
    have hot : ∀ b, w.heap.size + 1 + 1 + 1 ≤ b → V1.heap[b]? = u0.heap[b]? := fun b hb => by rw [hV1]; exact heap_setCell_other _ _ _ _ (by show b ≠ w.heap.size + 1 + 1; omega)
    refine ⟨⟨F0.out.1.1.below hbs (by omega), F0.out.1.2.1.below hbs (by omega), by rw [hV1]; exact F0.out.1.2.2.1.set 9 _, F0.out.1.2.2.2.trans (hbs.mono (by omega))⟩, Nat.le_trans F0.out.2.1 hbs.size, ?_⟩
    exact F0.out.2.2.block hot
  clear F0 ca
  have ca : ((u0.setCell ⟨w.heap.size + 1 + 1, 9, none⟩ (.slice qvp lvp mvp)).alloc (Obj.cells #[] 9)).cell? ⟨w.heap.size, 10, none⟩ = some (.slice ae le ce) := by
    have h := (G1.out.1.1.alloc (Obj.cells #[] 9)).cell 10
    rw [hV1] at h
    exact h
  have HM1 : Hid ((V1.alloc (Obj.cells #[] 9)).ownsRow V1.heap.size 9 1 (.slice (some ⟨u0.heap.size, 0, none⟩) 0 0) 0 [] ∧ OwnT (V1.alloc (Obj.cells #[] 9)) bs (.slice ae le ce) c.per) := by
    refine ⟨?_, HA.out.2.1.stays (G1.out.1.2.2.2.alloc G1.out.1.2.2.2.size _)⟩
    have h := World.ownsRow_made V1 (base := V1.heap.size) (e := 9) (size := 1) #[] 0 (Nat.le_refl _) (Nat.zero_le _) rfl
    rw [z1] at h ⊢
    exact h
  have hle1 : 0 + c.per.length ≤ 100000000 := by have := HA.out.2.2.2.2.1; omega
  have hss1 : V1.heap.size ≤ (V1.alloc (Obj.cells #[] 9)).heap.size := by simp
  go_wp2_with (at_builtin; rw [← hV1]; refine wpList_append_texts2 rfl _ _ 49 rfl V1.heap.size i9 Try.underlying49 hi9 hz09 hz19 hz29 _ 0 [] rfl HM1.out.1 (.slice ae le ce) c.per bs HM1.out.2 rfl hle1 hss1 ?_)
  intro ve u1 ho hg
  try rw [← hV1] at hg
  have F1 : Hid ((Blk u1 w.heap.size 112 #[.int .i64 c.serial, .string c.issuer, .string c.subject, .int .i64 c.frm, .int .i64 c.upto, .string c.key, .bool c.ca, .int .i64 c.pathLen, .int .i64 c.usage, .slice ap lp cp, .slice ae le ce, .slice ad ld cd, .string c.sig] ∧ Blk u1 (w.heap.size + 1) 112 #[.int .i64 0, .string ⟨#[]⟩, .string ⟨#[]⟩, .int .i64 0, .int .i64 0, .string ⟨#[]⟩, .bool false, .int .i64 0, .int .i64 0, .slice none 0 0, .slice none 0 0, .slice none 0 0, .string ⟨#[]⟩] ∧ Blk u1 (w.heap.size + 1 + 1) 112 #[.int .i64 c.serial, .string c.issuer, .string c.subject, .int .i64 c.frm, .int .i64 c.upto, .string c.key, .bool c.ca, .int .i64 c.pathLen, .int .i64 c.usage, .slice qvp lvp mvp, .slice ae le ce, .slice ad ld cd, .string c.sig] ∧ Below w.heap.size w u1) ∧ w.heap.size + 1 + 1 + 1 ≤ u1.heap.size ∧ OwnI u1 (w.heap.size + 1 + 1 + 1) (.slice qvp lvp mvp) c.pol ∧ OwnT u1 (w.heap.size + 1 + 1 + 1) ve c.per ∧ (Ap (.slice qvp lvp mvp) ve ∧ Ap ve (.slice qvp lvp mvp))) := by
    have hz := G1.out.2.1
    have hb : Below V1.heap.size V1 u1 := ((Below.refl _ _).alloc (Nat.le_refl _) _).grown hg hss1 (fun q hq => by simp [Value.ownBlock] at hq; omega)
    have on : OwnT u1 V1.heap.size ve c.per := by rw [z1]; simpa [OwnT] using ho
    exact ⟨⟨G1.out.1.1.below hb (by omega), G1.out.1.2.1.below hb (by omega), G1.out.1.2.2.1.below hb (by omega), G1.out.1.2.2.2.trans (hb.mono G1.out.1.2.2.2.size)⟩, Nat.le_trans hz hb.size, G1.out.2.2.stays hb, on.base hz, rows_apart G1.out.2.2 on (Nat.le_refl _)⟩
  clear ho hg G1 HM1 hle1 hss1 z1 hV1
  have fr := fun j => F1.out.1.2.2.1.free j
  obtain ⟨qve, mve, hsve⟩ : ∃ ao cap, ve = .slice ao c.per.length cap := by obtain ⟨ao, cap, h, _⟩ := (F1.out.2.2.2.1).at; exact ⟨ao, cap, h⟩
  obtain ⟨lve, hlve⟩ : ∃ l, c.per.length = l := ⟨_, rfl⟩
  rw [hlve] at hsve
  clear hlve
  subst hsve
  have ca : u1.cell? ⟨w.heap.size, 11, none⟩ = some (.slice ad ld cd) := F1.out.1.1.cell 11
  have cg : u1.cell? ⟨w.heap.size + 1 + 1, 10, none⟩ = some (.slice ae le ce) := F1.out.1.2.2.1.cell 10
  obtain ⟨V2, hV2⟩ : ∃ V, V = u1.setCell ⟨w.heap.size + 1 + 1, 10, none⟩ (.slice qve lve mve) := ⟨_, rfl⟩
  have z2 : V2.heap.size = u1.heap.size := by rw [hV2]; simp
  have G2 : Hid ((Blk V2 w.heap.size 112 #[.int .i64 c.serial, .string c.issuer, .string c.subject, .int .i64 c.frm, .int .i64 c.upto, .string c.key, .bool c.ca, .int .i64 c.pathLen, .int .i64 c.usage, .slice ap lp cp, .slice ae le ce, .slice ad ld cd, .string c.sig] ∧ Blk V2 (w.heap.size + 1) 112 #[.int .i64 0, .string ⟨#[]⟩, .string ⟨#[]⟩, .int .i64 0, .int .i64 0, .string ⟨#[]⟩, .bool false, .int .i64 0, .int .i64 0, .slice none 0 0, .slice none 0 0, .slice none 0 0, .string ⟨#[]⟩] ∧ Blk V2 (w.heap.size + 1 + 1) 112 #[.int .i64 c.serial, .string c.issuer, .string c.subject, .int .i64 c.frm, .int .i64 c.upto, .string c.key, .bool c.ca, .int .i64 c.pathLen, .int .i64 c.usage, .slice qvp lvp mvp, .slice qve lve mve, .slice ad ld cd, .string c.sig] ∧ Below w.heap.size w V2) ∧ w.heap.size + 1 + 1 + 1 ≤ V2.heap.size ∧ OwnI V2 (w.heap.size + 1 + 1 + 1) (.slice qvp lvp mvp) c.pol ∧ OwnT V2 (w.heap.size + 1 + 1 + 1) (.slice qve lve mve) c.per ∧ (Ap (.slice qvp lvp mvp) (.slice qve lve mve) ∧ Ap (.slice qve lve mve) (.slice qvp lvp mvp))) := by
    have hbs : Below (w.heap.size + 1 + 1) u1 V2 := by rw [hV2]; exact (Below.refl _ _).setCell (p := ⟨w.heap.size + 1 + 1, 10, none⟩) (Nat.le_refl _) _
    have hot : ∀ b, w.heap.size + 1 + 1 + 1 ≤ b → V2.heap[b]? = u1.heap[b]? := fun b hb => by rw [hV2]; exact heap_setCell_other _ _ _ _ (by show b ≠ w.heap.size + 1 + 1; omega)
    refine ⟨⟨F1.out.1.1.below hbs (by omega), F1.out.1.2.1.below hbs (by omega), by rw [hV2]; exact F1.out.1.2.2.1.set 10 _, F1.out.1.2.2.2.trans (hbs.mono (by omega))⟩, Nat.le_trans F1.out.2.1 hbs.size, ?_⟩
    exact ⟨F1.out.2.2.1.block hot, F1.out.2.2.2.1.block hot, F1.out.2.2.2.2⟩
  clear F1 ca
  have ca : ((u1.setCell ⟨w.heap.size + 1 + 1, 10, none⟩ (.slice qve lve mve)).alloc (Obj.cells #[] 9)).cell? ⟨w.heap.size, 11, none⟩ = some (.slice ad ld cd) := by
    have h := (G2.out.1.1.alloc (Obj.cells #[] 9)).cell 11
    rw [hV2] at h
    exact h
  have HM2 : Hid ((V2.alloc (Obj.cells #[] 9)).ownsRow V2.heap.size 9 1 (.slice (some ⟨u1.heap.size, 0, none⟩) 0 0) 0 [] ∧ OwnT (V2.alloc (Obj.cells #[] 9)) bs (.slice ad ld cd) c.den) := by
    refine ⟨?_, HA.out.2.2.1.stays (G2.out.1.2.2.2.alloc G2.out.1.2.2.2.size _)⟩
    have h := World.ownsRow_made V2 (base := V2.heap.size) (e := 9) (size := 1) #[] 0 (Nat.le_refl _) (Nat.zero_le _) rfl
    rw [z2] at h ⊢
    exact h
  have hle2 : 0 + c.den.length ≤ 100000000 := by have := HA.out.2.2.2.2.2; omega
  have hss2 : V2.heap.size ≤ (V2.alloc (Obj.cells #[] 9)).heap.size := by simp
  go_wp2_with (at_builtin; rw [← hV2]; refine wpList_append_texts2 rfl _ _ 49 rfl V2.heap.size i9 Try.underlying49 hi9 hz09 hz19 hz29 _ 0 [] rfl HM2.out.1 (.slice ad ld cd) c.den bs HM2.out.2 rfl hle2 hss2 ?_)
  intro vd u2 ho hg
  try rw [← hV2] at hg
  have F2 : Hid ((Blk u2 w.heap.size 112 #[.int .i64 c.serial, .string c.issuer, .string c.subject, .int .i64 c.frm, .int .i64 c.upto, .string c.key, .bool c.ca, .int .i64 c.pathLen, .int .i64 c.usage, .slice ap lp cp, .slice ae le ce, .slice ad ld cd, .string c.sig] ∧ Blk u2 (w.heap.size + 1) 112 #[.int .i64 0, .string ⟨#[]⟩, .string ⟨#[]⟩, .int .i64 0, .int .i64 0, .string ⟨#[]⟩, .bool false, .int .i64 0, .int .i64 0, .slice none 0 0, .slice none 0 0, .slice none 0 0, .string ⟨#[]⟩] ∧ Blk u2 (w.heap.size + 1 + 1) 112 #[.int .i64 c.serial, .string c.issuer, .string c.subject, .int .i64 c.frm, .int .i64 c.upto, .string c.key, .bool c.ca, .int .i64 c.pathLen, .int .i64 c.usage, .slice qvp lvp mvp, .slice qve lve mve, .slice ad ld cd, .string c.sig] ∧ Below w.heap.size w u2) ∧ w.heap.size + 1 + 1 + 1 ≤ u2.heap.size ∧ OwnI u2 (w.heap.size + 1 + 1 + 1) (.slice qvp lvp mvp) c.pol ∧ OwnT u2 (w.heap.size + 1 + 1 + 1) (.slice qve lve mve) c.per ∧ OwnT u2 (w.heap.size + 1 + 1 + 1) vd c.den ∧ (Ap (.slice qvp lvp mvp) (.slice qve lve mve) ∧ Ap (.slice qve lve mve) (.slice qvp lvp mvp)) ∧ (Ap (.slice qvp lvp mvp) vd ∧ Ap vd (.slice qvp lvp mvp)) ∧ (Ap (.slice qve lve mve) vd ∧ Ap vd (.slice qve lve mve))) := by
    have hz := G2.out.2.1
    have hb : Below V2.heap.size V2 u2 := ((Below.refl _ _).alloc (Nat.le_refl _) _).grown hg hss2 (fun q hq => by simp [Value.ownBlock] at hq; omega)
    have on : OwnT u2 V2.heap.size vd c.den := by rw [z2]; simpa [OwnT] using ho
    exact ⟨⟨G2.out.1.1.below hb (by omega), G2.out.1.2.1.below hb (by omega), G2.out.1.2.2.1.below hb (by omega), G2.out.1.2.2.2.trans (hb.mono G2.out.1.2.2.2.size)⟩, Nat.le_trans hz hb.size, G2.out.2.2.1.stays hb, G2.out.2.2.2.1.stays hb, on.base hz, G2.out.2.2.2.2, rows_apart G2.out.2.2.1 on (Nat.le_refl _), rows_apart G2.out.2.2.2.1 on (Nat.le_refl _)⟩
  clear ho hg G2 HM2 hle2 hss2 z2 hV2
  have fr := fun j => F2.out.1.2.2.1.free j
  obtain ⟨qvd, mvd, hsvd⟩ : ∃ ao cap, vd = .slice ao c.den.length cap := by obtain ⟨ao, cap, h, _⟩ := (F2.out.2.2.2.2.1).at; exact ⟨ao, cap, h⟩
  obtain ⟨lvd, hlvd⟩ : ∃ l, c.den.length = l := ⟨_, rfl⟩
  rw [hlvd] at hsvd
  clear hlvd
  subst hsvd
  have f1 := fun j => F2.out.1.2.1.free j
  have c10 : u2.cell? ⟨w.heap.size + 1, 0, none⟩ = some (.int .i64 0) := F2.out.1.2.1.cell 0
  have c20 : u2.cell? ⟨w.heap.size + 1 + 1, 0, none⟩ = some (.int .i64 c.serial) := F2.out.1.2.2.1.cell 0
  have c11 : u2.cell? ⟨w.heap.size + 1, 1, none⟩ = some (.string ⟨#[]⟩) := F2.out.1.2.1.cell 1
  have c21 : u2.cell? ⟨w.heap.size + 1 + 1, 1, none⟩ = some (.string c.issuer) := F2.out.1.2.2.1.cell 1
  have c12 : u2.cell? ⟨w.heap.size + 1, 2, none⟩ = some (.string ⟨#[]⟩) := F2.out.1.2.1.cell 2
  have c22 : u2.cell? ⟨w.heap.size + 1 + 1, 2, none⟩ = some (.string c.subject) := F2.out.1.2.2.1.cell 2
  have c13 : u2.cell? ⟨w.heap.size + 1, 3, none⟩ = some (.int .i64 0) := F2.out.1.2.1.cell 3
  have c23 : u2.cell? ⟨w.heap.size + 1 + 1, 3, none⟩ = some (.int .i64 c.frm) := F2.out.1.2.2.1.cell 3
  have c14 : u2.cell? ⟨w.heap.size + 1, 4, none⟩ = some (.int .i64 0) := F2.out.1.2.1.cell 4
  have c24 : u2.cell? ⟨w.heap.size + 1 + 1, 4, none⟩ = some (.int .i64 c.upto) := F2.out.1.2.2.1.cell 4
  have c15 : u2.cell? ⟨w.heap.size + 1, 5, none⟩ = some (.string ⟨#[]⟩) := F2.out.1.2.1.cell 5
  have c25 : u2.cell? ⟨w.heap.size + 1 + 1, 5, none⟩ = some (.string c.key) := F2.out.1.2.2.1.cell 5
  have c16 : u2.cell? ⟨w.heap.size + 1, 6, none⟩ = some (.bool false) := F2.out.1.2.1.cell 6
  have c26 : u2.cell? ⟨w.heap.size + 1 + 1, 6, none⟩ = some (.bool c.ca) := F2.out.1.2.2.1.cell 6
  have c17 : u2.cell? ⟨w.heap.size + 1, 7, none⟩ = some (.int .i64 0) := F2.out.1.2.1.cell 7
  have c27 : u2.cell? ⟨w.heap.size + 1 + 1, 7, none⟩ = some (.int .i64 c.pathLen) := F2.out.1.2.2.1.cell 7
  have c18 : u2.cell? ⟨w.heap.size + 1, 8, none⟩ = some (.int .i64 0) := F2.out.1.2.1.cell 8
  have c28 : u2.cell? ⟨w.heap.size + 1 + 1, 8, none⟩ = some (.int .i64 c.usage) := F2.out.1.2.2.1.cell 8
  have c19 : u2.cell? ⟨w.heap.size + 1, 9, none⟩ = some (.slice none 0 0) := F2.out.1.2.1.cell 9
  have c29 : u2.cell? ⟨w.heap.size + 1 + 1, 9, none⟩ = some (.slice qvp lvp mvp) := F2.out.1.2.2.1.cell 9
  have c110 : u2.cell? ⟨w.heap.size + 1, 10, none⟩ = some (.slice none 0 0) := F2.out.1.2.1.cell 10
  have c210 : u2.cell? ⟨w.heap.size + 1 + 1, 10, none⟩ = some (.slice qve lve mve) := F2.out.1.2.2.1.cell 10
  have c111 : u2.cell? ⟨w.heap.size + 1, 11, none⟩ = some (.slice none 0 0) := F2.out.1.2.1.cell 11
  have c211 : u2.cell? ⟨w.heap.size + 1 + 1, 11, none⟩ = some (.slice ad ld cd) := F2.out.1.2.2.1.cell 11
  have c112 : u2.cell? ⟨w.heap.size + 1, 12, none⟩ = some (.string ⟨#[]⟩) := F2.out.1.2.1.cell 12
  have c212 : u2.cell? ⟨w.heap.size + 1 + 1, 12, none⟩ = some (.string c.sig) := F2.out.1.2.2.1.cell 12
  go_wp2_with fail
  refine bodyPost_ret (v := ctV c (.slice qvp lvp mvp) (.slice qve lve mve) (.slice qvd lvd mvd)) (by simp [results, Try.results99, go_sem, ctV, c10, c11, c12, c13, c14, c15, c16, c17, c18, c19, c110, c111, c112]) rfl ⟨_, rfl, ⟨_, _, _, rfl, (F2.out.2.2.1.block ?far).base (by omega), (F2.out.2.2.2.1.block ?far).base (by omega), (F2.out.2.2.2.2.1.block ?far).base (by omega), F2.out.2.2.2.2.2.1, F2.out.2.2.2.2.2.2.1, F2.out.2.2.2.2.2.2.2⟩, ?bel⟩
  case far =>
    intro b hb
    iterate 14 rw [heap_setCell_other _ _ _ _ (by first | (show b ≠ w.heap.size + 1; omega) | (show b ≠ w.heap.size + 1 + 1; omega))]
  case bel =>
    iterate 14 refine Below.setCell ?_ (by first | (show w.heap.size ≤ w.heap.size + 1; omega) | (show w.heap.size ≤ w.heap.size + 1 + 1; omega)) _
    exact F2.out.1.2.2.2
end Go.Proofs.Ytllmgjfffkhocaa
