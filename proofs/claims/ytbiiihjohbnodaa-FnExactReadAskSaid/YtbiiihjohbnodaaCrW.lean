/-
  The program's reader: mustFit, next.
-/
import Derived.Test.YtbiiihjohbnodaaCrP
import Derived.Test.YtbiiihjohbnodaaCrJ
import Derived.Test.YtbiiihjohbnodaaItU
import Derived.WalkLawsBesides
namespace Go.Proofs.Ytbiiihjohbnodaa
open Go.RowKit Der
set_option linter.unusedVariables false

/-- How a reader ends that finds what it is not asked for. -/
def misfit : Ending := .panicked [{ v := .iface 109 (.agg #[]), recovered := false }]
set_option maxRecDepth 100000 in
theorem mustFit_yes (w : World) : Calls Try.prog 91 #[.bool true] w fun e w' => e = .returned (.tuple #[]) ∧ w = w' := by
  go_enter Try.func91, Try.ntmps91
  go_wp2_with fail
  first | go_end0 | skip
  exact ⟨rfl, rfl⟩
set_option maxRecDepth 100000 in
theorem mustFit_no (w : World) : Calls Try.prog 91 #[.bool false] w fun e w' => e = misfit ∧ w = w' := by
  go_enter Try.func91, Try.ntmps91
  go_wp2_with fail
  exact ⟨rfl, rfl, rfl⟩
/-- Kids that can be read, each row no longer than what it may hold. -/
def KcAt (w : World) : (n : Nat) → Value → List (It n) → Prop
  | 0, v, _ => ∃ ao cap, v = .slice ao 0 cap
  | n + 1, v, ks => ∃ ao cap, v = .slice ao ks.length cap ∧ ks.length ≤ cap ∧ (0 < ks.length → ∃ g o, ao = some ⟨g, o, none⟩ ∧ g < w.heap.size ∧ ∀ j (hj : j < ks.length), ∃ k, w.cell? ⟨g, o + j * 3, none⟩ = some (.int .i64 (It.tag ks[j])) ∧ w.cell? ⟨g, o + j * 3 + 1, none⟩ = some (.string ⟨(It.text ks[j]).toArray⟩) ∧ w.cell? ⟨g, o + j * 3 + 2, none⟩ = some k ∧ KcAt w n k (It.kids ks[j]))
theorem KcAt.of {w : World} {base : Nat} : ∀ {n : Nat} {v : Value} {ks : List (It n)} {fp : List Nat}, OwnK w base n v ks fp → KcAt w n v ks
  | 0, _, _, _, ⟨h, _⟩ => h
  | n + 1, v, ks, fp, ⟨ao, cap, hv, h0, h⟩ => by
      by_cases hp : 0 < ks.length
      · obtain ⟨g, o, c, f, fps, hao, hg, hr, hoc, hfp, hnd, hl, hk⟩ := h hp
        refine ⟨ao, cap, hv, hoc.2, fun _ => ⟨g, o, hao, hr.lt, fun j hj => ?_⟩⟩
        obtain ⟨h1, h2, h3⟩ := hk j hj (by omega)
        exact ⟨f (o + j * 3 + 2), by rw [hr.cell (by omega), h1], by rw [hr.cell (by omega), h2], hr.cell (by omega), KcAt.of h3⟩
      · exact ⟨ao, cap, hv, by omega, fun q => absurd q hp⟩
theorem KcAt.at {w : World} : ∀ {n : Nat} {v : Value} {ks : List (It n)}, KcAt w n v ks → KidsAt w (ItAt w n) v ks
  | 0, v, ks, ⟨ao, cap, hv⟩ => by
      have hk : ks = [] := by
        cases ks with
        | nil => rfl
        | cons x _ => exact (x : Empty).elim
      subst hk
      exact ⟨ao, cap, hv, fun h => absurd h (Nat.lt_irrefl _)⟩
  | n + 1, v, ks, ⟨ao, cap, hv, _, h⟩ => ⟨ao, cap, hv, fun hp => by
      obtain ⟨g, o, hao, hg, hk⟩ := h hp
      refine ⟨g, o, hao, hg, fun j hj => ?_⟩
      obtain ⟨k, c0, c1, c2, h3⟩ := hk j hj
      exact ⟨_, _, _, c0, c1, c2, k, rfl, KcAt.at h3⟩⟩
theorem KcAt.below {w w' : World} (hb : Below w.heap.size w w') : ∀ {n : Nat} {v : Value} {ks : List (It n)}, KcAt w n v ks → KcAt w' n v ks
  | 0, _, _, h => h
  | n + 1, v, ks, ⟨ao, cap, hv, hc, h⟩ => ⟨ao, cap, hv, hc, fun hp => by
      obtain ⟨g, o, hao, hg, hk⟩ := h hp
      refine ⟨g, o, hao, Nat.lt_of_lt_of_le hg hb.size, fun j hj => ?_⟩
      obtain ⟨k, c0, c1, c2, h3⟩ := hk j hj
      exact ⟨k, (hb.cell (p := ⟨g, o + j * 3, none⟩) hg).trans c0, (hb.cell (p := ⟨g, o + j * 3 + 1, none⟩) hg).trans c1, (hb.cell (p := ⟨g, o + j * 3 + 2, none⟩) hg).trans c2, KcAt.below hb h3⟩⟩
theorem KcAt.shape {w : World} {n : Nat} {v : Value} {ks : List (It n)} (h : KcAt w n v ks) : ∃ ao cap, v = .slice ao ks.length cap := by
  obtain ⟨ao, cap, h, _⟩ := h.at
  exact ⟨ao, cap, h⟩
/-- What a reader's call leaves: nothing of what was there has turned but the reader. -/
def NextPost (w0 W : World) (g n : Nat) (o : Option (It (n + 1) × List (It (n + 1)))) (e : Ending) (W' : World) : Prop := Out [g] W W' ∧
  ((o = none ∧ e = misfit) ∨ ∃ (y : It (n + 1)) (r : List (It (n + 1))) (v' k : Value), o = some (y, r) ∧ e = .returned (.agg #[.int .i64 (It.tag y), .string ⟨(It.text y).toArray⟩, k]) ∧ KcAt w0 n k (It.kids y) ∧ KcAt w0 (n + 1) v' r ∧ Blk W' g 134 #[v'])
theorem Out.alloc {fp : List Nat} {a b : World} (h : Out fp a b) (o : Obj) : Out fp a (b.alloc o) := h.trans (Out.of_below ((Below.refl _ _).alloc (Nat.le_refl _) _))
set_option maxHeartbeats 3200000 in
set_option maxRecDepth 100000 in
theorem next_any (w0 W : World) (g n : Nat) (v : Value) (ks : List (It (n + 1))) (tag : Int) (hw : Below w0.heap.size w0 W) (hk : KcAt w0 (n + 1) v ks) (hr : Blk W g 134 #[v]) (hg : w0.heap.size ≤ g) (hl : ks.length ≤ 1000000) :
    Calls Try.prog 117 #[.pointer (some ⟨g, 0, none⟩), .int .i64 tag] W fun e W' => NextPost w0 W g n (nextP tag ks) e W' := by
  cases ks with
  | nil =>
    obtain ⟨ao, cap, rfl, _, _⟩ := hk
    have HR : Hid (Blk W g 134 #[.slice ao 0 cap]) := hr
    have cr : W.cell? ⟨g, 0, none⟩ = some (.slice ao 0 cap) := hr.cell 0
    have cr2 : ∀ o, (W.alloc o).cell? ⟨g, 0, none⟩ = some (.slice ao 0 cap) := fun o => (hr.alloc o).cell 0
    clear hr
    go_enter Try.func117, Try.ntmps117
    go_wp2_with fail
    refine (mustFit_no _).mono ?_
    rintro e w2 ⟨rfl, rfl⟩
    unfold misfit
    go_wp2_with fail
    exact ⟨rfl, (Out.refl _ _).alloc _, .inl ⟨rfl, rfl⟩⟩
  | cons y r =>
    obtain ⟨ao, cap, rfl, hcap, hc⟩ := hk
    obtain ⟨g1, o1, rfl, hg1, hcells⟩ := hc (by simp)
    obtain ⟨k0, d0, d1, d2, hkids⟩ := hcells 0 (by simp)
    change w0.cell? ⟨g1, o1 + 0 * 3, none⟩ = some (.int .i64 (It.tag y)) at d0
    change w0.cell? ⟨g1, o1 + 0 * 3 + 1, none⟩ = some (.string ⟨(It.text y).toArray⟩) at d1
    change KcAt w0 n k0 (It.kids y) at hkids
    rw [Nat.zero_mul, Nat.add_zero] at d0 d1 d2
    obtain ⟨ak, ck, hk0⟩ := hkids.shape
    obtain ⟨lk, hlk⟩ : ∃ l, (It.kids y).length = l := ⟨_, rfl⟩
    rw [hlk] at hk0
    subst hk0
    obtain ⟨t, ht⟩ : ∃ t, It.tag y = t := ⟨_, rfl⟩
    obtain ⟨s, hs⟩ : ∃ s : ByteArray, (⟨(It.text y).toArray⟩ : ByteArray) = s := ⟨_, rfl⟩
    obtain ⟨l, hle⟩ : ∃ l, r.length = l := ⟨_, rfl⟩
    rw [ht] at d0
    rw [hs] at d1
    have hll : (y :: r).length = l + 1 := by rw [List.length_cons, hle]
    rw [hll] at hr hl hcap
    have HK : Hid (It.tag y = t ∧ (⟨(It.text y).toArray⟩ : ByteArray) = s ∧ KcAt w0 n (.slice ak lk ck) (It.kids y) ∧ (∀ cap', l ≤ cap' → KcAt w0 (n + 1) (.slice (some ⟨g1, o1 + 3, none⟩) l cap') r) ∧ (l = 0 → ∀ ao, KcAt w0 (n + 1) (.slice ao l 0) r)) := by
      refine ⟨ht, hs, hkids, fun cap' hc' => ⟨some ⟨g1, o1 + 3, none⟩, cap', by rw [hle], by omega, fun _ => ⟨g1, o1 + 3, rfl, hg1, fun j hj => ?_⟩⟩, fun h0 ao => ⟨ao, 0, by rw [hle], by omega, fun q => by omega⟩⟩
      obtain ⟨a3, b1, b2, b3, b4⟩ := hcells (j + 1) (by simp; omega)
      refine ⟨a3, ?_, ?_, ?_, b4⟩
      · rw [show o1 + 3 + j * 3 = o1 + (j + 1) * 3 by omega]; exact b1
      · rw [show o1 + 3 + j * 3 = o1 + (j + 1) * 3 by omega]; exact b2
      · rw [show o1 + 3 + j * 3 = o1 + (j + 1) * 3 by omega]; exact b3
    have hne : g1 ≠ g := by omega
    have hgW : g1 < W.heap.size := Nat.lt_of_lt_of_le hg1 hw.size
    have HC : Hid (W.cell? ⟨g1, o1, none⟩ = some (.int .i64 t) ∧ W.cell? ⟨g1, o1 + 1, none⟩ = some (.string s) ∧ W.cell? ⟨g1, o1 + 2, none⟩ = some (.slice ak lk ck)) := ⟨(hw.cell (p := ⟨g1, o1, none⟩) hg1).trans d0, (hw.cell (p := ⟨g1, o1 + 1, none⟩) hg1).trans d1, (hw.cell (p := ⟨g1, o1 + 2, none⟩) hg1).trans d2⟩
    have HR : Hid (Blk W g 134 #[.slice (some ⟨g1, o1, none⟩) (l + 1) cap]) := hr
    have c0 : ∀ o, (W.alloc o).cell? ⟨g1, o1, none⟩ = some (.int .i64 t) := fun o => (World.cell?_of_block (heap_alloc_old W o hgW)).trans HC.out.1
    have cr : ∀ o, (W.alloc o).cell? ⟨g, 0, none⟩ = some (.slice (some ⟨g1, o1, none⟩) (l + 1) cap) := fun o => (hr.alloc o).cell 0
    have hpos : (0 : Int) < (l : Int) + 1 := by omega
    have hne2 : Hid (g1 ≠ g ∧ g1 < W.heap.size) := ⟨hne, hgW⟩
    have HCap : Hid (l + 1 ≤ cap) := hcap
    clear hc hcells d0 d1 d2 hkids hlk ht hs hle hll hr hne hgW hg1 hcap
    obtain ⟨cap1, hcap1⟩ : ∃ c, cap = c + 1 := ⟨cap - 1, by have := HCap.out; omega⟩
    subst hcap1
    by_cases hb : t = tag
    · have HN : Hid (nextP tag (y :: r) = some (y, r)) := by show (if It.tag y = tag then some (y, r) else none) = _; rw [if_pos (HK.out.1.trans hb)]
      subst hb
      go_enter Try.func117, Try.ntmps117
      go_wp2_with fail
      refine (mustFit_yes _).mono ?_
      rintro e w2 ⟨rfl, rfl⟩
      obtain ⟨W1, hW1⟩ : ∃ W1, W1 = W.alloc (Obj.cells #[Value.int IntKind.i64 0, Value.string ⟨#[]⟩, Value.slice none 0 0] 67) := ⟨_, rfl⟩
      rw [← hW1]
      have hs1 : W1.heap.size = W.heap.size + 1 := by rw [hW1]; exact size_alloc _ _
      have hb1 : Below W.heap.size W W1 := by rw [hW1]; exact (Below.refl _ _).alloc (Nat.le_refl _) _
      have hres : Blk W1 W.heap.size 67 #[Value.int IntKind.i64 0, Value.string ⟨#[]⟩, Value.slice none 0 0] := by rw [hW1]; exact Blk.new _ _ _
      have hgl := HR.out.lt
      have H1 : Hid (W1.heap.size = W.heap.size + 1 ∧ Below W.heap.size W W1 ∧ Blk W1 W.heap.size 67 #[Value.int IntKind.i64 0, Value.string ⟨#[]⟩, Value.slice none 0 0] ∧ Blk W1 g 134 #[.slice (some ⟨g1, o1, none⟩) (l + 1) (cap1 + 1)]) := ⟨hs1, hb1, hres, HR.out.below hb1 hgl⟩
      have e0 : W1.cell? ⟨g1, o1, none⟩ = some (.int .i64 t) := (hb1.cell (p := ⟨g1, o1, none⟩) hne2.out.2).trans HC.out.1
      have e1 : W1.cell? ⟨g1, o1 + 1, none⟩ = some (.string s) := (hb1.cell (p := ⟨g1, o1 + 1, none⟩) hne2.out.2).trans HC.out.2.1
      have e2 : W1.cell? ⟨g1, o1 + 2, none⟩ = some (.slice ak lk ck) := (hb1.cell (p := ⟨g1, o1 + 2, none⟩) hne2.out.2).trans HC.out.2.2
      have er : W1.cell? ⟨g, 0, none⟩ = some (.slice (some ⟨g1, o1, none⟩) (l + 1) (cap1 + 1)) := H1.out.2.2.2.cell 0
      have er2 : ∀ o, (W1.alloc o).cell? ⟨g, 0, none⟩ = some (.slice (some ⟨g1, o1, none⟩) (l + 1) (cap1 + 1)) := fun o => (H1.out.2.2.2.alloc o).cell 0
      have ez : ∀ o, (W1.alloc o).frozen? ⟨g, 0, none⟩ = false := fun o => (H1.out.2.2.2.alloc o).free 0
      have n1 : ¬ W1.heap.size = g := by omega
      have n2 : ¬ g = W1.heap.size := by omega
      have n3 : ¬ W.heap.size = g := by omega
      have n4 : ¬ g = W.heap.size := by omega
      have rr : ∀ (o : Obj) (v : Value), Blk ((W1.alloc o).setCell ⟨g, 0, none⟩ v) W.heap.size 67 #[Value.int IntKind.i64 0, Value.string ⟨#[]⟩, Value.slice none 0 0] := fun o v => (H1.out.2.2.1.alloc o).other _ n3
      have r0 : ∀ (o : Obj) (v : Value), ((W1.alloc o).setCell ⟨g, 0, none⟩ v).cell? ⟨W.heap.size, 0, none⟩ = some (.int .i64 0) := fun o v => (rr o v).cell 0
      have r1 : ∀ (o : Obj) (v : Value), ((W1.alloc o).setCell ⟨g, 0, none⟩ v).cell? ⟨W.heap.size, 1, none⟩ = some (.string ⟨#[]⟩) := fun o v => (rr o v).cell 1
      have r2 : ∀ (o : Obj) (v : Value), ((W1.alloc o).setCell ⟨g, 0, none⟩ v).cell? ⟨W.heap.size, 2, none⟩ = some (.slice none 0 0) := fun o v => (rr o v).cell 2
      have rz : ∀ (o : Obj) (v : Value) (j : Nat), ((W1.alloc o).setCell ⟨g, 0, none⟩ v).frozen? ⟨W.heap.size, j, none⟩ = false := fun o v j => (rr o v).free j
      have HEND : Hid (∀ v : Value, let W9 := ((((W1.alloc (Obj.cells #[.int .i64 t, .string s, .slice ak lk ck] 67)).setCell ⟨g, 0, none⟩ v).setCell ⟨W.heap.size, 0, none⟩ (.int .i64 t)).setCell ⟨W.heap.size, 1, none⟩ (.string s)).setCell ⟨W.heap.size, 2, none⟩ (.slice ak lk ck); Out [g] W W9 ∧ Blk W9 g 134 #[v]) := by
        intro v
        have q1 := ((H1.out.2.2.2.alloc (Obj.cells #[.int .i64 t, .string s, .slice ak lk ck] 67)).set 0 v)
        refine ⟨?_, ((q1.other _ n4).other _ n4).other _ n4⟩
        have a1 : Out [g] W (W1.alloc (Obj.cells #[.int .i64 t, .string s, .slice ak lk ck] 67)) := (Out.of_below H1.out.2.1).alloc _
        have a2 := a1.setCell ⟨g, 0, none⟩ v (by simp)
        have b0 := ((Below.refl W.heap.size ((W1.alloc (Obj.cells #[.int .i64 t, .string s, .slice ak lk ck] 67)).setCell ⟨g, 0, none⟩ v)).setCell (p := ⟨W.heap.size, 0, none⟩) (Nat.le_refl _) (.int .i64 t)).setCell (p := ⟨W.heap.size, 1, none⟩) (Nat.le_refl _) (.string s)
        have b1 := b0.setCell (p := ⟨W.heap.size, 2, none⟩) (Nat.le_refl _) (.slice ak lk ck)
        exact ⟨b1.os.trans a2.1, b1.tape.trans a2.2.1, b1.output.trans a2.2.2.1, Nat.le_trans a2.2.2.2.1 b1.size, fun b hb hn => (b1.block b hb).trans (a2.2.2.2.2 b hb hn)⟩
      clear hW1 hs1 hb1 hres c0 cr hgl rr
      have hl1 : (1 : Int) ≤ (l : Int) + 1 := by omega
      go_wp2_with fail
      all_goals (
        refine bodyPost_ret (v := .agg #[.int .i64 t, .string s, .slice ak lk ck]) (by simp [results, Try.results117, go_sem, r0, r1, r2]; try rfl) rfl ?_
        refine ⟨(HEND.out _).1, .inr ⟨y, r, _, .slice ak lk ck, HN.out, by rw [HK.out.1, HK.out.2.1], HK.out.2.2.1, ?_, (HEND.out _).2⟩⟩
        first | exact HK.out.2.2.2.1 _ (by have := HCap.out; omega) | exact HK.out.2.2.2.2 (by have := HCap.out; omega) _)
    · have HN : Hid (nextP tag (y :: r) = none) := by show (if It.tag y = tag then some (y, r) else none) = _; rw [if_neg (fun q => hb (HK.out.1.symm.trans q))]
      have hbq : (t == tag) = false := beq_eq_false_iff_ne.2 hb
      clear hb
      go_enter Try.func117, Try.ntmps117
      go_wp2_with fail
      refine (mustFit_no _).mono ?_
      rintro e w2 ⟨rfl, rfl⟩
      unfold misfit
      go_wp2_with fail
      exact ⟨rfl, (Out.refl _ _).alloc _, .inl ⟨HN.out, rfl⟩⟩
end Go.Proofs.Ytbiiihjohbnodaa
