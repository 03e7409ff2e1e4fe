/-
  Texts of the proof.
-/
import Derived.WalkLawsBesides
import Derived.Laws.AppendOwnNone
import Derived.Test.YtbiiihjohbnodaaMRs11
set_option maxRecDepth 100000
set_option maxHeartbeats 25600000
namespace Go.Proofs.Ytbiiihjohbnodaa
open Go.RowKit Der
set_option linter.unusedVariables false
def misfit : Ending := .panicked [{ v := .iface 109 (.agg #[]), recovered := false }]
theorem mustFit_yes (w : World) : Calls Try.prog 91 #[.bool true] w fun e w' => e = .returned (.tuple #[]) /\ w = w' := by
 go_enter Try.func91, Try.ntmps91
 go_wp2_with fail
 first | go_end0 | skip
 exact ⟨rfl, rfl⟩
theorem mustFit_no (w : World) : Calls Try.prog 91 #[.bool false] w fun e w' => e = misfit /\ w = w' := by
 go_enter Try.func91, Try.ntmps91
 go_wp2_with fail
 exact ⟨rfl, rfl, rfl⟩
def KcAt (w : World) : (n : Nat) -> Value -> List (It n) -> Prop
 | 0, v, _ => ∃ ao cap, v = .slice ao 0 cap
 | n + 1, v, ks => ∃ ao cap, v = .slice ao ks.length cap /\ ks.length <= cap /\ (0 < ks.length -> ∃ g o, ao = some ⟨g, o, none⟩ /\ g < w.heap.size /\ ∀ j (hj : j < ks.length), ∃ k, w.cell? ⟨g, o + j * 3, none⟩ = some (.int .i64 (It.tag ks[j])) /\ w.cell? ⟨g, o + j * 3 + 1, none⟩ = some (.string ⟨(It.text ks[j]).toArray⟩) /\ w.cell? ⟨g, o + j * 3 + 2, none⟩ = some k /\ KcAt w n k (It.kids ks[j]))
theorem KcAt.of {w : World} {base : Nat} : ∀ {n : Nat} {v : Value} {ks : List (It n)} {fp : List Nat}, OwnK w base n v ks fp -> KcAt w n v ks
 | 0, _, _, _, ⟨h, _⟩ => h
 | n + 1, v, ks, fp, ⟨ao, cap, hv, h0, h⟩ => by
   by_cases hp : 0 < ks.length
   ·obtain ⟨g, o, c, f, fps, hao, hg, hr, hoc, hfp, hnd, hl, hk⟩ := h hp
    refine ⟨ao, cap, hv, hoc.2, fun _ => ⟨g, o, hao, hr.lt, fun j hj => ?_⟩⟩
    obtain ⟨h1, h2, h3⟩ := hk j hj (by omega)
    exact ⟨f (o + j * 3 + 2), by rw [hr.cell (by omega), h1], by rw [hr.cell (by omega), h2], hr.cell (by omega), KcAt.of h3⟩
   ·exact ⟨ao, cap, hv, by omega, fun q => absurd q hp⟩
theorem KcAt.at {w : World} : ∀ {n : Nat} {v : Value} {ks : List (It n)}, KcAt w n v ks -> KidsAt w (ItAt w n) v ks
 | 0, v, ks, ⟨ao, cap, hv⟩ => by
   have hk : ks = [] := by
    cases ks with
    | nil => rfl
    | cons x _ => exact (x : Empty).elim
   subst hk
   exact ⟨ao, cap, hv, fun h => absurd h (Nat.lt_irrefl _)⟩
 | n + 1, v, ks, ⟨ao, cap, hv, _, h⟩ => ⟨ao, cap, hv, fun hp => by
   obtain ⟨g, o, hao, hg, hk⟩ := h hp
   refine ⟨g, o, hao, hg, fun j hj => ?_⟩
   obtain ⟨k, c0, c1, c2, h3⟩ := hk j hj
   exact ⟨_, _, _, c0, c1, c2, k, rfl, KcAt.at h3⟩⟩
theorem KcAt.below {w w' : World} (hb : Below w.heap.size w w') : ∀ {n : Nat} {v : Value} {ks : List (It n)}, KcAt w n v ks -> KcAt w' n v ks
 | 0, _, _, h => h
 | n + 1, v, ks, ⟨ao, cap, hv, hc, h⟩ => ⟨ao, cap, hv, hc, fun hp => by
   obtain ⟨g, o, hao, hg, hk⟩ := h hp
   refine ⟨g, o, hao, Nat.lt_of_lt_of_le hg hb.size, fun j hj => ?_⟩
   obtain ⟨k, c0, c1, c2, h3⟩ := hk j hj
   exact ⟨k, (hb.cell (p := ⟨g, o + j * 3, none⟩) hg).trans c0, (hb.cell (p := ⟨g, o + j * 3 + 1, none⟩) hg).trans c1, (hb.cell (p := ⟨g, o + j * 3 + 2, none⟩) hg).trans c2, KcAt.below hb h3⟩⟩
theorem KcAt.shape {w : World} {n : Nat} {v : Value} {ks : List (It n)} (h : KcAt w n v ks) : ∃ ao cap, v = .slice ao ks.length cap := by
 obtain ⟨ao, cap, h, _⟩ := h.at
 exact ⟨ao, cap, h⟩
def NextPost (w0 W : World) (g n : Nat) (o : Option (It (n + 1) × List (It (n + 1)))) (e : Ending) (W' : World) : Prop := Out [g] W W' /\
 ((o = none /\ e = misfit) ∨ ∃ (y : It (n + 1)) (r : List (It (n + 1))) (v' k : Value), o = some (y, r) /\ e = .returned (.agg #[.int .i64 (It.tag y), .string ⟨(It.text y).toArray⟩, k]) /\ KcAt w0 n k (It.kids y) /\ KcAt w0 (n + 1) v' r /\ Blk W' g 134 #[v'])
theorem Out.alloc {fp : List Nat} {a b : World} (h : Out fp a b) (o : Obj) : Out fp a (b.alloc o) := h.trans (Out.of_below ((Below.refl _ _).alloc (Nat.le_refl _) _))
theorem next_any (w0 W : World) (g n : Nat) (v : Value) (ks : List (It (n + 1))) (tag : Int) (hw : Below w0.heap.size w0 W) (hk : KcAt w0 (n + 1) v ks) (hr : Blk W g 134 #[v]) (hg : w0.heap.size <= g) (hl : ks.length <= 1000000) :
  Calls Try.prog 117 #[.pointer (some ⟨g, 0, none⟩), .int .i64 tag] W fun e W' => NextPost w0 W g n (nextP tag ks) e W' := by
 cases ks with
 | nil =>
  obtain ⟨ao, cap, rfl, _, _⟩ := hk
  have HR : Hid (Blk W g 134 #[.slice ao 0 cap]) := hr
  have cr : W.cell? ⟨g, 0, none⟩ = some (.slice ao 0 cap) := hr.cell 0
  have cr2 : ∀ o, (W.alloc o).cell? ⟨g, 0, none⟩ = some (.slice ao 0 cap) := fun o => (hr.alloc o).cell 0
  clear hr
  go_enter Try.func117, Try.ntmps117
  go_wp2_with fail
  refine (mustFit_no _).mono ?_
  rintro e w2 ⟨rfl, rfl⟩
  unfold misfit
  go_wp2_with fail
  exact ⟨rfl, (Out.refl _ _).alloc _, .inl ⟨rfl, rfl⟩⟩
 | cons y r =>
  obtain ⟨ao, cap, rfl, hcap, hc⟩ := hk
  obtain ⟨g1, o1, rfl, hg1, hcells⟩ := hc (by simp)
  obtain ⟨k0, d0, d1, d2, hkids⟩ := hcells 0 (by simp)
  change w0.cell? ⟨g1, o1 + 0 * 3, none⟩ = some (.int .i64 (It.tag y)) at d0
  change w0.cell? ⟨g1, o1 + 0 * 3 + 1, none⟩ = some (.string ⟨(It.text y).toArray⟩) at d1
  change KcAt w0 n k0 (It.kids y) at hkids
  rw [Nat.zero_mul, Nat.add_zero] at d0 d1 d2
  obtain ⟨ak, ck, hk0⟩ := hkids.shape
  obtain ⟨lk, hlk⟩ := zE ((It.kids y).length)
  rw [hlk] at hk0
  subst hk0
  obtain ⟨t, ht⟩ := zE (It.tag y)
  obtain ⟨s, hs⟩ : ∃ s : ByteArray, (⟨(It.text y).toArray⟩ : ByteArray) = s := ⟨_, rfl⟩
  obtain ⟨l, hle⟩ := zE (r.length)
  rw [ht] at d0
  rw [hs] at d1
  have hll : (y :: r).length = l + 1 := by rw [List.length_cons, hle]
  rw [hll] at hr hl hcap
  have HK : Hid (It.tag y = t /\ (⟨(It.text y).toArray⟩ : ByteArray) = s /\ KcAt w0 n (.slice ak lk ck) (It.kids y) /\ (∀ cap', l <= cap' -> KcAt w0 (n + 1) (.slice (some ⟨g1, o1 + 3, none⟩) l cap') r) /\ (l = 0 -> ∀ ao, KcAt w0 (n + 1) (.slice ao l 0) r)) := by
   refine ⟨ht, hs, hkids, fun cap' hc' => ⟨some ⟨g1, o1 + 3, none⟩, cap', by rw [hle], by omega, fun _ => ⟨g1, o1 + 3, rfl, hg1, fun j hj => ?_⟩⟩, fun h0 ao => ⟨ao, 0, by rw [hle], by omega, fun q => by omega⟩⟩
   obtain ⟨a3, b1, b2, b3, b4⟩ := hcells (j + 1) (by simp; omega)
   refine ⟨a3, ?_, ?_, ?_, b4⟩
   ·rw [show o1 + 3 + j * 3 = o1 + (j + 1) * 3 by omega]; exact b1
   ·rw [show o1 + 3 + j * 3 = o1 + (j + 1) * 3 by omega]; exact b2
   ·rw [show o1 + 3 + j * 3 = o1 + (j + 1) * 3 by omega]; exact b3
  have hne : g1 ≠ g := by omega
  have hgW : g1 < W.heap.size := Nat.lt_of_lt_of_le hg1 hw.size
  have HC : Hid (W.cell? ⟨g1, o1, none⟩ = some (.int .i64 t) /\ W.cell? ⟨g1, o1 + 1, none⟩ = some (.string s) /\ W.cell? ⟨g1, o1 + 2, none⟩ = some (.slice ak lk ck)) := ⟨(hw.cell (p := ⟨g1, o1, none⟩) hg1).trans d0, (hw.cell (p := ⟨g1, o1 + 1, none⟩) hg1).trans d1, (hw.cell (p := ⟨g1, o1 + 2, none⟩) hg1).trans d2⟩
  have HR : Hid (Blk W g 134 #[.slice (some ⟨g1, o1, none⟩) (l + 1) cap]) := hr
  have c0 : ∀ o, (W.alloc o).cell? ⟨g1, o1, none⟩ = some (.int .i64 t) := fun o => (World.cell?_of_block (heap_alloc_old W o hgW)).trans HC.out.1
  have cr : ∀ o, (W.alloc o).cell? ⟨g, 0, none⟩ = some (.slice (some ⟨g1, o1, none⟩) (l + 1) cap) := fun o => (hr.alloc o).cell 0
  have hpos : (0 : Int) < (l : Int) + 1 := by omega
  have hne2 : Hid (g1 ≠ g /\ g1 < W.heap.size) := ⟨hne, hgW⟩
  have HCap : Hid (l + 1 <= cap) := hcap
  clear hc hcells d0 d1 d2 hkids hlk ht hs hle hll hr hne hgW hg1 hcap
  obtain ⟨cap1, hcap1⟩ : ∃ c, cap = c + 1 := ⟨cap - 1, by have := HCap.out; omega⟩
  subst hcap1
  by_cases hb : t = tag
  ·have HN : Hid (nextP tag (y :: r) = some (y, r)) := by show (if It.tag y = tag then some (y, r) else none) = _; rw [if_pos (HK.out.1.trans hb)]
   subst hb
   go_enter Try.func117, Try.ntmps117
   go_wp2_with fail
   refine (mustFit_yes _).mono ?_
   rintro e w2 ⟨rfl, rfl⟩
   obtain ⟨W1, hW1⟩ : ∃ W1, W1 = W.alloc (Obj.cells #[Value.int IntKind.i64 0, Value.string ⟨#[]⟩, Value.slice none 0 0] 67) := ⟨_, rfl⟩
   rw [<- hW1]
   have hs1 : W1.heap.size = W.heap.size + 1 := by rw [hW1]; exact size_alloc _ _
   have hb1 : Below W.heap.size W W1 := by rw [hW1]; exact (Below.refl _ _).alloc (Nat.le_refl _) _
   have hres : Blk W1 W.heap.size 67 #[Value.int IntKind.i64 0, Value.string ⟨#[]⟩, Value.slice none 0 0] := by rw [hW1]; exact Blk.new _ _ _
   have hgl := HR.out.lt
   have H1 : Hid (W1.heap.size = W.heap.size + 1 /\ Below W.heap.size W W1 /\ Blk W1 W.heap.size 67 #[Value.int IntKind.i64 0, Value.string ⟨#[]⟩, Value.slice none 0 0] /\ Blk W1 g 134 #[.slice (some ⟨g1, o1, none⟩) (l + 1) (cap1 + 1)]) := ⟨hs1, hb1, hres, HR.out.below hb1 hgl⟩
   have e0 : W1.cell? ⟨g1, o1, none⟩ = some (.int .i64 t) := (hb1.cell (p := ⟨g1, o1, none⟩) hne2.out.2).trans HC.out.1
   have e1 : W1.cell? ⟨g1, o1 + 1, none⟩ = some (.string s) := (hb1.cell (p := ⟨g1, o1 + 1, none⟩) hne2.out.2).trans HC.out.2.1
   have e2 : W1.cell? ⟨g1, o1 + 2, none⟩ = some (.slice ak lk ck) := (hb1.cell (p := ⟨g1, o1 + 2, none⟩) hne2.out.2).trans HC.out.2.2
   have er : W1.cell? ⟨g, 0, none⟩ = some (.slice (some ⟨g1, o1, none⟩) (l + 1) (cap1 + 1)) := H1.out.2.2.2.cell 0
   have er2 : ∀ o, (W1.alloc o).cell? ⟨g, 0, none⟩ = some (.slice (some ⟨g1, o1, none⟩) (l + 1) (cap1 + 1)) := fun o => (H1.out.2.2.2.alloc o).cell 0
   have ez : ∀ o, (W1.alloc o).frozen? ⟨g, 0, none⟩ = false := fun o => (H1.out.2.2.2.alloc o).free 0
   have n1 : ¬ W1.heap.size = g := by omega
   have n2 : ¬ g = W1.heap.size := by omega
   have n3 : ¬ W.heap.size = g := by omega
   have n4 : ¬ g = W.heap.size := by omega
   have rr : ∀ (o : Obj) (v : Value), Blk ((W1.alloc o).setCell ⟨g, 0, none⟩ v) W.heap.size 67 #[Value.int IntKind.i64 0, Value.string ⟨#[]⟩, Value.slice none 0 0] := fun o v => (H1.out.2.2.1.alloc o).other _ n3
   have r0 : ∀ (o : Obj) (v : Value), ((W1.alloc o).setCell ⟨g, 0, none⟩ v).cell? ⟨W.heap.size, 0, none⟩ = some (.int .i64 0) := fun o v => (rr o v).cell 0
   have r1 : ∀ (o : Obj) (v : Value), ((W1.alloc o).setCell ⟨g, 0, none⟩ v).cell? ⟨W.heap.size, 1, none⟩ = some (.string ⟨#[]⟩) := fun o v => (rr o v).cell 1
   have r2 : ∀ (o : Obj) (v : Value), ((W1.alloc o).setCell ⟨g, 0, none⟩ v).cell? ⟨W.heap.size, 2, none⟩ = some (.slice none 0 0) := fun o v => (rr o v).cell 2
   have rz : ∀ (o : Obj) (v : Value) (j : Nat), ((W1.alloc o).setCell ⟨g, 0, none⟩ v).frozen? ⟨W.heap.size, j, none⟩ = false := fun o v j => (rr o v).free j
   have HEND : Hid (∀ v : Value, let W9 := ((((W1.alloc (Obj.cells #[.int .i64 t, .string s, .slice ak lk ck] 67)).setCell ⟨g, 0, none⟩ v).setCell ⟨W.heap.size, 0, none⟩ (.int .i64 t)).setCell ⟨W.heap.size, 1, none⟩ (.string s)).setCell ⟨W.heap.size, 2, none⟩ (.slice ak lk ck); Out [g] W W9 /\ Blk W9 g 134 #[v]) := by
    intro v
    have q1 := ((H1.out.2.2.2.alloc (Obj.cells #[.int .i64 t, .string s, .slice ak lk ck] 67)).set 0 v)
    refine ⟨?_, ((q1.other _ n4).other _ n4).other _ n4⟩
    have a1 : Out [g] W (W1.alloc (Obj.cells #[.int .i64 t, .string s, .slice ak lk ck] 67)) := (Out.of_below H1.out.2.1).alloc _
    have a2 := a1.setCell ⟨g, 0, none⟩ v (by simp)
    have b0 := ((Below.refl W.heap.size ((W1.alloc (Obj.cells #[.int .i64 t, .string s, .slice ak lk ck] 67)).setCell ⟨g, 0, none⟩ v)).setCell (p := ⟨W.heap.size, 0, none⟩) (Nat.le_refl _) (.int .i64 t)).setCell (p := ⟨W.heap.size, 1, none⟩) (Nat.le_refl _) (.string s)
    have b1 := b0.setCell (p := ⟨W.heap.size, 2, none⟩) (Nat.le_refl _) (.slice ak lk ck)
    exact ⟨b1.os.trans a2.1, b1.tape.trans a2.2.1, b1.output.trans a2.2.2.1, Nat.le_trans a2.2.2.2.1 b1.size, fun b hb hn => (b1.block b hb).trans (a2.2.2.2.2 b hb hn)⟩
   clear hW1 hs1 hb1 hres c0 cr hgl rr
   have hl1 : (1 : Int) <= (l : Int) + 1 := by omega
   go_wp2_with fail
   all_goals (
    refine bodyPost_ret (v := .agg #[.int .i64 t, .string s, .slice ak lk ck]) (by simp [results, Try.results117, go_sem, r0, r1, r2]; try rfl) rfl ?_
    refine ⟨(HEND.out _).1, .inr ⟨y, r, _, .slice ak lk ck, HN.out, by rw [HK.out.1, HK.out.2.1], HK.out.2.2.1, ?_, (HEND.out _).2⟩⟩
    first | exact HK.out.2.2.2.1 _ (by have := HCap.out; omega) | exact HK.out.2.2.2.2 (by have := HCap.out; omega) _)
  ·have HN : Hid (nextP tag (y :: r) = none) := by show (if It.tag y = tag then some (y, r) else none) = _; rw [if_neg (fun q => hb (HK.out.1.symm.trans q))]
   have hbq : (t == tag) = false := beq_eq_false_iff_ne.2 hb
   clear hb
   go_enter Try.func117, Try.ntmps117
   go_wp2_with fail
   refine (mustFit_no _).mono ?_
   rintro e w2 ⟨rfl, rfl⟩
   unfold misfit
   go_wp2_with fail
   exact ⟨rfl, (Out.refl _ _).alloc _, .inl ⟨HN.out, rfl⟩⟩
end Go.Proofs.Ytbiiihjohbnodaa
namespace Go.Proofs.Ytbiiihjohbnodaa
open Go.RowKit
set_option linter.unusedVariables false
theorem wpList_append_texts2 {w : World} {ops : Array Oper} {rest : List Oper} {o : Oper} {a : Act} {Q : Exit -> Act -> World -> Prop} (hgd : o.guard = none) (s x : Operand) (t : TypeId)
  (ho : o.op = .call { callee := .builtin .append, args := #[s, x], argTypes := #[t, t] }) (base : Nat) (i0 : TypeInfo) (ht : Try.prog.underlying t = some (.slice 9)) (hi : Try.prog.info? 9 = some i0) (hz0 : i0.zero = some (.string ByteArray.empty)) (hz1 : i0.size = 1) (hz2 : i0.bytes = 16)
  (v : Value) (n : Nat) (xs : List Value) (hs : a.eval s = v) (hown : w.ownsRow base 9 1 v n xs) (u : Value) (lu : List ByteArray) (bu : Nat) (hu : OwnT w bu u lu) (hx : a.eval x = u) (hlen : n + lu.length <= 100000000) (hbase : base <= w.heap.size)
  (h : ∀ v' w', w'.ownsRow base 9 1 v' (n + lu.length) (xs ++ cellsT lu) -> w.grownBy w' v.ownBlock -> wpList Try.prog ops Q rest (a.put o.dst v') w') : wpList Try.prog ops Q (o :: rest) a w := by
 rcases hu.2 with ⟨rfl, h0⟩ | ⟨g, cap, cur, rfl, hbg, hg, hn, hm, hsz, htk⟩
 ·have hl : lu = [] := List.eq_nil_of_length_eq_zero h0
  subst hl
  refine wpList_append_own_none hgd s x t ho base 9 i0 1 ht hi v n xs hs hown hx (h v w (by simpa [cellsT] using hown) (World.grownBy.refl _ _))
 ·refine wpList_append_own w hgd s x t ho base 9 i0 (.string ByteArray.empty) 1 16 ht hi hz0 hz1 hz2 rfl (by decide) v n xs hs hown ⟨g, 0, none⟩ lu.length cap (cellsT lu) hx (by simp [cellsT]) (fun j q hq => ?_) (fun q hq => ?_) (by unfold maxLen; omega) (by omega) hbase (fun v' w' h1 h2 _ => h v' w' h1 h2)
  ·have hj : j < lu.length := by
    refine Nat.lt_of_not_le fun h => ?_
    rw [List.getElem?_eq_none (by rw [cellsT_len]; exact h)] at hq
    cases hq
   rw [Addr.add_lit, Nat.zero_add, hu.cell hj, <- hq, cellsT_getD hj]
  ·obtain ⟨y, _, rfl⟩ := List.mem_map.1 hq
   rfl
end Go.Proofs.Ytbiiihjohbnodaa
namespace Go.Proofs.Ytbiiihjohbnodaa
open Go.RowKit Der
set_option linter.unusedVariables false
theorem run_field_item (t : Int) (s : ByteArray) (a : Option Addr) (l c : Nat) (w : World) : Sem.run Try.prog (Instr.field 67 (.agg #[.int .i64 t, .string s, .slice a l c]) 1) w = .ok (.string s) w := by
 first | kernel_rfl | rfl | simp [Instr.field, go_sem]
def RdOf (t : Int) (a : Option Addr) (l c : Nat) (W : World) (e : Ending) (W' : World) : Prop := Below W.heap.size W W' /\ ((¬ t = 48 /\ e = misfit) ∨ (t = 48 /\ ∃ g, W.heap.size <= g /\ e = .returned (.pointer (some ⟨g, 0, none⟩)) /\ Blk W' g 134 #[.slice a l c]))
theorem readerOf_any (t : Int) (s : ByteArray) (a : Option Addr) (l c : Nat) (W : World) : Calls Try.prog 92 #[.agg #[.int .i64 t, .string s, .slice a l c]] W fun e W' => RdOf t a l c W e W' := by
 obtain ⟨W1, hW1⟩ : ∃ V, V = W.alloc (Obj.cells #[.int .i64 t, .string s, .slice a l c] 67) := ⟨_, rfl⟩
 have hB : Blk W1 W.heap.size 67 #[.int .i64 t, .string s, .slice a l c] := by rw [hW1]; exact Blk.new _ _ _
 have hb1 : Below W.heap.size W W1 := by rw [hW1]; exact (Below.refl _ _).alloc (Nat.le_refl _) _
 have H1 : Hid (Blk W1 W.heap.size 67 #[.int .i64 t, .string s, .slice a l c] /\ Below W.heap.size W W1) := ⟨hB, hb1⟩
 clear hB hb1
 by_cases ht : t = 48
 ·subst ht
  go_enter Try.func92, Try.ntmps92
  go_wp2_with fail
  rw [<- hW1]
  clear hW1
  refine (mustFit_yes W1).mono ?_
  rintro e w2 ⟨rfl, rfl⟩
  have c2 : W1.cell? ⟨W.heap.size, 2, none⟩ = some (.slice a l c) := H1.out.1.cell 2
  go_wp2_with fail
  go_ret
  exact ⟨H1.out.2.alloc H1.out.2.size _, .inr ⟨rfl, W1.heap.size, H1.out.2.size, rfl, Blk.new _ _ _⟩⟩
 ·have hbq : (t == 48) = false := beq_eq_false_iff_ne.2 ht
  have HT : Hid (¬ t = 48) := ht
  clear ht
  go_enter Try.func92, Try.ntmps92
  go_wp2_with fail
  rw [<- hW1]
  clear hW1
  refine (mustFit_no W1).mono ?_
  rintro e w2 ⟨rfl, rfl⟩
  unfold misfit
  go_wp2_with fail
  exact ⟨rfl, H1.out.2, .inl ⟨HT.out, rfl⟩⟩
def ListPost (w0 W : World) (g n : Nat) (o : Option (List (It n) × List (It (n + 1)))) (e : Ending) (W' : World) : Prop := Out [g] W W' /\
 ((o = none /\ e = misfit) ∨ ∃ (i : List (It n)) (r : List (It (n + 1))) (v' vi : Value) (gi : Nat), o = some (i, r) /\ e = .returned (.pointer (some ⟨gi, 0, none⟩)) /\ W.heap.size <= gi /\ KcAt w0 n vi i /\ KcAt w0 (n + 1) v' r /\ Blk W' g 134 #[v'] /\ Blk W' gi 134 #[vi])
theorem lstP_next {k : Nat} (ks : List (It (k + 1))) : lstP ks = (nextP 48 ks).map fun p => (It.kids p.1, p.2) := by
 unfold lstP
 cases nextP 48 ks with
 | none => rfl
 | some p => rfl
theorem Out.size {fp : List Nat} {a b : World} (h : Out fp a b) : a.heap.size <= b.heap.size := h.2.2.2.1
theorem Blk.on {w w' : World} {b : Nat} {t : TypeId} {vs : Array Value} (h : Blk w b t vs) (hb : Below w.heap.size w w') : Blk w' b t vs := h.below hb h.lt
theorem Blk.outX {w w' : World} {b : Nat} {t : TypeId} {vs : Array Value} {fp : List Nat} (h : Blk w b t vs) (ho : Out fp w w') (hn : b ∉ fp) : Blk w' b t vs := (ho.2.2.2.2 b h.lt hn).trans h
theorem list_any (w0 W : World) (g n : Nat) (v : Value) (ks : List (It (n + 1))) (hw : Below w0.heap.size w0 W) (hk : KcAt w0 (n + 1) v ks) (hr : Blk W g 134 #[v]) (hg : w0.heap.size <= g) (hl : ks.length <= 1000000) :
  Calls Try.prog 103 #[.pointer (some ⟨g, 0, none⟩)] W fun e W' => ListPost w0 W g n (lstP ks) e W' := by
 have E := next_any w0 W g n v ks 48 hw hk hr hg hl
 have HP : Hid (lstP ks = (nextP 48 ks).map fun p => (It.kids p.1, p.2)) := lstP_next ks
 generalize lstP ks = oL at HP |-
 clear hw hk hr hg hl
 go_enter Try.func103, Try.ntmps103
 go_wp2_with fail
 refine E.mono ?_
 rintro e w2 ⟨ho, ⟨hn, rfl⟩ | ⟨y, r, v', k, hn, rfl, hkk, hkr, hB⟩⟩
 ·have HE : Hid (Out [g] W w2 /\ oL = none) := ⟨ho, by rw [HP.out, hn]; rfl⟩
  clear ho hn E
  unfold misfit
  go_wp2_with fail
  exact ⟨rfl, HE.out.1, .inl ⟨HE.out.2, rfl⟩⟩
 ·have HT : Hid (It.tag y = 48) := by
   cases ks with
   | nil => cases hn
   | cons a q => exact (next_some hn).2
  obtain ⟨ak, ck, hks⟩ := hkk.shape
  obtain ⟨lk, hlk⟩ := zE ((It.kids y).length)
  rw [hlk] at hks
  subst hks
  have E2 := readerOf_any (It.tag y) ⟨(It.text y).toArray⟩ ak lk ck w2
  obtain ⟨t, ht⟩ := zE (It.tag y)
  obtain ⟨s, hs⟩ : ∃ s : ByteArray, (⟨(It.text y).toArray⟩ : ByteArray) = s := ⟨_, rfl⟩
  rw [ht, hs] at E2 |-
  have HE : Hid (Out [g] W w2 /\ oL = some (It.kids y, r) /\ KcAt w0 n (.slice ak lk ck) (It.kids y) /\ KcAt w0 (n + 1) v' r /\ Blk w2 g 134 #[v'] /\ t = 48) := ⟨ho, by rw [HP.out, hn]; rfl, hkk, hkr, hB, by rw [<- ht]; exact HT.out⟩
  clear ho hn hkk hkr hB E HT ht hs hlk
  go_wp2_with fail
  refine E2.mono ?_
  rintro e w3 ⟨hb3, ⟨hn3, rfl⟩ | ⟨_, gi, hgi, rfl, hBi⟩⟩
  ·exact absurd HE.out.2.2.2.2.2 hn3
  ·have HF : Hid (ListPost w0 W g n oL (.returned (.pointer (some ⟨gi, 0, none⟩))) w3) := ⟨HE.out.1.trans (Out.of_below hb3), .inr ⟨_, _, _, _, gi, HE.out.2.1, rfl, Nat.le_trans HE.out.1.size hgi, HE.out.2.2.1, HE.out.2.2.2.1, HE.out.2.2.2.2.1.on hb3, hBi⟩⟩
   clear hb3 hgi hBi E2
   go_wp2_with fail
   go_ret
   exact HF.out
def EndPost {α : Type} (ks : List α) (W : World) (e : Ending) (W' : World) : Prop := Below W.heap.size W W' /\ ((endP ks = none /\ e = misfit) ∨ (ks = [] /\ endP ks = some () /\ e = .returned (.tuple #[])))
theorem end_any {α : Type} (W : World) (g l c : Nat) (a : Option Addr) (ks : List α) (hl : ks.length = l) (hr : Blk W g 134 #[.slice a l c]) :
  Calls Try.prog 97 #[.pointer (some ⟨g, 0, none⟩)] W fun e W' => EndPost ks W e W' := by
 have cr : W.cell? ⟨g, 0, none⟩ = some (.slice a l c) := hr.cell 0
 clear hr
 cases ks with
 | nil =>
  subst hl
  go_enter Try.func97, Try.ntmps97
  go_wp2_with fail
  refine (mustFit_yes W).mono ?_
  rintro e w2 ⟨rfl, rfl⟩
  go_wp2_with fail
  first | go_end0 | skip
  exact ⟨Below.refl _ _, .inr ⟨rfl, rfl, rfl⟩⟩
 | cons x q =>
  subst hl
  rw [List.length_cons] at cr
  obtain ⟨m, hm⟩ := zE (q.length)
  rw [hm] at cr
  clear hm
  have hm0 : ((m : Int) + 1 == 0) = false := beq_eq_false_iff_ne.2 (by omega)
  go_enter Try.func97, Try.ntmps97
  go_wp2_with fail
  refine (mustFit_no W).mono ?_
  rintro e w2 ⟨rfl, rfl⟩
  unfold misfit
  go_wp2_with fail
  exact ⟨rfl, Below.refl _ _, .inl ⟨rfl, rfl⟩⟩
def OnePost {α : Type} (V : α -> Value) (w0 W : World) (g n : Nat) (o : Option (α × List (It (n + 1)))) (e : Ending) (W' : World) : Prop := Out [g] W W' /\
 ((o = none /\ e = misfit) ∨ ∃ (x : α) (r : List (It (n + 1))) (v' : Value), o = some (x, r) /\ e = .returned (V x) /\ KcAt w0 (n + 1) v' r /\ Blk W' g 134 #[v'])
theorem number_any (w0 W : World) (g n : Nat) (v : Value) (ks : List (It (n + 1))) (hw : Below w0.heap.size w0 W) (hk : KcAt w0 (n + 1) v ks) (hr : Blk W g 134 #[v]) (hg : w0.heap.size <= g) (hl : ks.length <= 1000000) (hz : ∀ y ∈ ks, szI (n + 1) y <= 20000000) :
  Calls Try.prog 95 #[.pointer (some ⟨g, 0, none⟩)] W fun e W' => OnePost (fun x : Int => .int .i64 x) w0 W g n (numP ks) e W' := by
 have E := next_any w0 W g n v ks 2 hw hk hr hg hl
 have HP : Hid (numP ks = match nextP 2 ks with
  | none => none
  | some (y, r) => match inI (n + 1) y with
   | none => none
   | some v => some ((v : Int), r)) := rfl
 generalize numP ks = oL at HP |-
 have HW : Hid (Below w0.heap.size w0 W /\ w0.heap.size <= g /\ ∀ y ∈ ks, szI (n + 1) y <= 20000000) := ⟨hw, hg, hz⟩
 clear hw hk hr hg hl hz
 go_enter Try.func95, Try.ntmps95
 go_wp2_with fail
 refine E.mono ?_
 rintro e w2 ⟨ho, ⟨hn, rfl⟩ | ⟨y, r, v', k, hn, rfl, hkk, hkr, hB⟩⟩
 ·have HE : Hid (Out [g] W w2 /\ oL = none) := ⟨ho, by rw [HP.out, hn]⟩
  clear ho hn E
  unfold misfit
  go_wp2_with fail
  exact ⟨rfl, HE.out.1, .inl ⟨HE.out.2, rfl⟩⟩
 ·have hy : y ∈ ks := by
   have h := (next_some hn).1
   rw [h]; simp
  have hb2 : Below w0.heap.size w0 w2 := HW.out.1.trans (ho.below (fun x hx => by rw [List.mem_singleton.1 hx]; exact HW.out.2.1) HW.out.1.size)
  have E2 := implIntIn_any (n + 1) y (.agg #[.int .i64 (It.tag y), .string ⟨(It.text y).toArray⟩, k]) w2 (ItAt.below hb2 ⟨k, rfl, hkk.at⟩) (HW.out.2.2 y hy)
  have HE : Hid (Out [g] W w2 /\ KcAt w0 (n + 1) v' r /\ Blk w2 g 134 #[v'] /\ (oL = match inI (n + 1) y with
   | none => none
   | some v => some ((v : Int), r))) := ⟨ho, hkr, hB, by rw [HP.out, hn]⟩
  clear ho hn hkk hkr hB E hy hb2
  cases hin : inI (n + 1) y with
  | none =>
   rw [hin] at E2 HE
   go_wp2_with fail
   refine E2.mono ?_
   rintro e w3 ⟨rfl, hb3⟩
   have HF : Hid (Out [g] W w3 /\ oL = none) := ⟨HE.out.1.trans (Out.of_below hb3), HE.out.2.2.2⟩
   clear hb3 E2 HE
   go_wp2_with fail
   refine (mustFit_no w3).mono ?_
   rintro e w4 ⟨rfl, rfl⟩
   unfold misfit
   go_wp2_with fail
   exact ⟨rfl, HF.out.1, .inl ⟨HF.out.2, rfl⟩⟩
  | some x =>
   rw [hin] at E2 HE
   change Calls _ _ _ _ (fun e w' => e = .returned (.tuple #[.int .i64 (x : Int), .bool true]) /\ Below w2.heap.size w2 w') at E2
   go_wp2_with fail
   refine E2.mono ?_
   rintro e w3 ⟨rfl, hb3⟩
   have HF : Hid (OnePost (fun x : Int => .int .i64 x) w0 W g n oL (.returned (.int .i64 (x : Int))) w3) := ⟨HE.out.1.trans (Out.of_below hb3), .inr ⟨(x : Int), r, v', HE.out.2.2.2, rfl, HE.out.2.1, HE.out.2.2.1.on hb3⟩⟩
   clear hb3 E2 HE
   go_wp2_with fail
   refine (mustFit_yes w3).mono ?_
   rintro e w4 ⟨rfl, rfl⟩
   go_wp2_with fail
   go_ret
   exact HF.out
theorem rbytes_any (w0 W : World) (g n : Nat) (v : Value) (ks : List (It (n + 1))) (hw : Below w0.heap.size w0 W) (hk : KcAt w0 (n + 1) v ks) (hr : Blk W g 134 #[v]) (hg : w0.heap.size <= g) (hl : ks.length <= 1000000) :
  Calls Try.prog 94 #[.pointer (some ⟨g, 0, none⟩)] W fun e W' => OnePost (fun x : ByteArray => .string x) w0 W g n (txtP 4 ks) e W' := by
 have E := next_any w0 W g n v ks 4 hw hk hr hg hl
 have HP : Hid (txtP 4 ks = match nextP 4 ks with
  | none => none
  | some (y, r) => some (baL (It.text y), r)) := rfl
 generalize txtP 4 ks = oL at HP |-
 clear hw hk hr hg hl
 go_enter Try.func94, Try.ntmps94
 go_wp2_with fail
 refine E.mono ?_
 rintro e w2 ⟨ho, ⟨hn, rfl⟩ | ⟨y, r, v', k, hn, rfl, hkk, hkr, hB⟩⟩
 ·have HE : Hid (Out [g] W w2 /\ oL = none) := ⟨ho, by rw [HP.out, hn]⟩
  clear ho hn E
  unfold misfit
  go_wp2_with fail
  exact ⟨rfl, HE.out.1, .inl ⟨HE.out.2, rfl⟩⟩
 ·obtain ⟨ak, ck, hks⟩ := hkk.shape
  subst hks
  have HE : Hid (OnePost (fun x : ByteArray => .string x) w0 W g n oL (.returned (.string (baL (It.text y)))) w2) := ⟨ho, .inr ⟨_, r, v', by rw [HP.out, hn], rfl, hkr, hB⟩⟩
  clear ho hn hkk hkr hB E
  change Hid (OnePost (fun x : ByteArray => .string x) w0 W g n oL (.returned (.string (baL (It.text y)))) w2) at HE
  have RF := run_field_item (It.tag y) ⟨(It.text y).toArray⟩ ak (It.kids y).length ck
  go_wp2_with fail
  go_ret
  exact HE.out
theorem rflag_any (w0 W : World) (g n : Nat) (v : Value) (ks : List (It (n + 1))) (hw : Below w0.heap.size w0 W) (hk : KcAt w0 (n + 1) v ks) (hr : Blk W g 134 #[v]) (hg : w0.heap.size <= g) (hl : ks.length <= 1000000) :
  Calls Try.prog 96 #[.pointer (some ⟨g, 0, none⟩)] W fun e W' => OnePost (fun x : Bool => .bool x) w0 W g n (flgP ks) e W' := by
 have E := next_any w0 W g n v ks 1 hw hk hr hg hl
 have HP : Hid (flgP ks = match nextP 1 ks with
  | none => none
  | some (y, r) => some (decide (It.text y = [255]), r)) := rfl
 generalize flgP ks = oL at HP |-
 clear hw hk hr hg hl
 go_enter Try.func96, Try.ntmps96
 go_wp2_with fail
 refine E.mono ?_
 rintro e w2 ⟨ho, ⟨hn, rfl⟩ | ⟨y, r, v', k, hn, rfl, hkk, hkr, hB⟩⟩
 ·have HE : Hid (Out [g] W w2 /\ oL = none) := ⟨ho, by rw [HP.out, hn]⟩
  clear ho hn E
  unfold misfit
  go_wp2_with fail
  exact ⟨rfl, HE.out.1, .inl ⟨HE.out.2, rfl⟩⟩
 ·obtain ⟨ak, ck, hks⟩ := hkk.shape
  subst hks
  have HE : Hid (OnePost (fun x : Bool => .bool x) w0 W g n oL (.returned (.bool (decide (It.text y = [255])))) w2) := ⟨ho, .inr ⟨_, r, v', by rw [HP.out, hn], rfl, hkr, hB⟩⟩
  clear ho hn hkk hkr hB E
  change Hid (OnePost (fun x : Bool => .bool x) w0 W g n oL (.returned (.bool (decide (It.text y = [255])))) w2) at HE
  have RF := run_field_item (It.tag y) ⟨(It.text y).toArray⟩ ak (It.kids y).length ck
  obtain ⟨B, hB⟩ := zE (decide (It.text y = [255]))
  have hq : (ByteArray.toList ⟨(It.text y).toArray⟩ == [255]) = B := by
   rw [<- hB]
   have e : ∀ l : List UInt8, ByteArray.toList ⟨l.toArray⟩ = l := fun l => by simp
   rw [e]
   rw [Bool.eq_iff_iff]
   simp
  rw [hB] at HE
  clear hB
  generalize (⟨(It.text y).toArray⟩ : ByteArray) = S at *
  go_wp2_with fail
  go_ret
  exact HE.out
end Go.Proofs.Ytbiiihjohbnodaa
