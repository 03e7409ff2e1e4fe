/-
  Texts of the proof, one behind the other: HalI, RfS.
-/
import Derived.WalkSpells
import Derived.RangeFuncNested
import Derived.RangeFuncBound
import Derived.RangeFuncCalls
import Derived.RangeFuncLeaves
import Derived.RangeFuncBox
import Derived.WalkKit
import Derived.Test.YtoildgknpfehoaaGreatDoorM30

/-
  The program's halve (in place), and slices.Clone at great numbers.
-/
namespace Go.Proofs.YtoildgknpfehoaaGreatDoor
open Go.RowKit

set_option maxHeartbeats 800000 in
set_option maxRecDepth 100000 in
theorem halve_any (g cap base : Nat) (L0 : List Int) (w : World) (hl : L0.length ≤ 1000) (hd : Dig L0) (hv : OwnI w base (.slice (some ⟨g, 0, none⟩) L0.length cap) L0) :
    Calls Tryz.prog 81 #[.slice (some ⟨g, 0, none⟩) L0.length cap] w fun e w' => ∃ L : List Int, e = .returned (.int .i64 (ev L0 % 2)) ∧ L.length = L0.length ∧ Dig L ∧ ev L = ev L0 / 2 ∧ OwnI w' base (.slice (some ⟨g, 0, none⟩) L0.length cap) L ∧ w.grownBy w' (some g) := by
  have HV : Hid (OwnI w base (.slice (some ⟨g, 0, none⟩) L0.length cap) L0) := hv
  have HD : Hid (Dig L0) := hd
  clear hv hd
  go_enter Tryz.func81, Tryz.ntmps81
  go_wp2
  go_loopw [3, 4] (fun bv iv wr => ∃ (p : Nat) (L : List Int) (b : Int), p ≤ L0.length ∧ iv = .int .i64 ((p : Int) - 1) ∧ bv = .int .i64 b ∧ Hid (Hv L0 p L b ∧ OwnI wr base (.slice (some ⟨g, 0, none⟩) L.length cap) L ∧ w.grownBy wr (some g))) (fun _ iv _ => (intOf iv + 1).toNat)
  case atStart => exact ⟨L0.length, L0, 0, Nat.le_refl _, rfl, rfl, Hv.start HD.out, HV.out, World.grownBy.refl _ _⟩
  case round =>
    obtain ⟨p, L, b, hp, rfl, rfl, H⟩ := hrel
    have hb := H.out.1.bit
    rcases p with _ | p
    · have HE := H.out.1.done
      have HR : Hid (L.length = L0.length ∧ Dig L ∧ ev L = ev L0 / 2 ∧ b = ev L0 % 2 ∧ OwnI wr base (.slice (some ⟨g, 0, none⟩) L0.length cap) L ∧ w.grownBy wr (some g)) := by
        refine ⟨H.out.1.len, H.out.1.dig, HE.1, HE.2, ?_, H.out.2.2⟩
        have h := H.out.2.1
        rw [H.out.1.len] at h
        exact h
      clear HE H
      go_wp2
      go_ret
      exact ⟨L, congrArg (fun z => Ending.returned (Value.int .i64 z)) HR.out.2.2.2.1, HR.out.1, HR.out.2.1, HR.out.2.2.1, HR.out.2.2.2.2.1, HR.out.2.2.2.2.2⟩
    · have hll : L.length = L0.length := H.out.1.len
      have hu := H.out.2.1.cell (j := p) (by omega)
      have hf := H.out.2.1.frozen p
      have hx := H.out.1.dig.getD p
      have HST := H.out.1.step (by omega)
      have HOW := fun y => H.out.2.1.set p y
      have HBL := fun y => grown_trans H.out.2.2 (grown_set wr g p (.int .i64 y))
      have HN : Hid (Hv L0 p (L.set p ((b * 10000 + L.getD p 0) / 2)) ((b * 10000 + L.getD p 0) % 2) ∧ (∀ y, OwnI (wr.setCell ⟨g, p, none⟩ (.int .i64 y)) base (.slice (some ⟨g, 0, none⟩) (L.set p y).length cap) (L.set p y)) ∧ ∀ y, w.grownBy (wr.setCell ⟨g, p, none⟩ (.int .i64 y)) (some g)) := ⟨HST, HOW, HBL⟩
      clear HST HOW HBL H hll
      generalize L.getD p 0 = x at *
      have e1 : ((p + 1 : Nat) : Int) - 1 = (p : Int) := by omega
      rw [e1]
      have hpi : (p : Int) < (L0.length : Int) := by omega
      have hp0 : (0 : Int) ≤ (p : Int) := by omega
      have q1 : (b * 10000 + x).tdiv 2 = (b * 10000 + x) / 2 := Int.tdiv_eq_ediv_of_nonneg (by omega)
      have q2 : (b * 10000 + x).tmod 2 = (b * 10000 + x) % 2 := Int.tmod_eq_emod_of_nonneg (by omega)
      have r0 : 0 ≤ (b * 10000 + x) / 2 := by omega
      have r1 : (b * 10000 + x) / 2 ≤ 9999 := by omega
      have s0 : 0 ≤ (b * 10000 + x) % 2 := by omega
      have s1 : (b * 10000 + x) % 2 ≤ 1 := by omega
      generalize (b * 10000 + x) / 2 = y at *
      generalize (b * 10000 + x) % 2 = z at *
      clear e1
      go_wp2
      go_roundw
      case rel => exact ⟨p, _, z, by omega, rfl, rfl, HN.out.1, HN.out.2.1 _, HN.out.2.2 _⟩
      case measure => simp [intOf]

set_option maxHeartbeats 800000 in
set_option maxRecDepth 100000 in
theorem clone_any (v : Value) (l : List Int) (w : World) (hl : l.length ≤ 1000) (hv : IntAt w v l) :
    Calls Tryz.prog 80 #[v] w fun e w' => ∃ v', e = .returned v' ∧ OwnI w' w.heap.size v' l ∧ Below w.heap.size w w' := by
  obtain ⟨i0, hi, hz0, hz1, hz2⟩ := info_parts info3
  obtain ⟨ao, cap, rfl, hc⟩ := hv
  have hnil := fun (a : Option Addr) (n c : Nat) (w : World) => Lib.run_eql_slice_nil w 50 3 a n c 0 0 Tryz.underlying50
  rcases ao with _ | ad
  · have h0 : l = [] := by
      rcases Nat.eq_zero_or_pos l.length with h | h
      · exact List.eq_nil_of_length_eq_zero h
      · obtain ⟨g, hg, _⟩ := hc h
        cases hg
    subst h0
    go_enter Tryz.func80, Tryz.ntmps80
    go_wp2
    go_ret
    exact ⟨_, rfl, OwnI.nil _ _, Below.refl _ _⟩
  · have HC : Hid (0 < l.length → ∃ g, some ad = some (⟨g, 0, none⟩ : Addr) ∧ g < w.heap.size ∧ ∀ j (hj : j < l.length), w.cell? ⟨g, j, none⟩ = some (.int .i64 l[j])) := hc
    clear hc
    go_enter Tryz.func80, Tryz.ntmps80
    go_wp2_with (at_builtin; refine wpList_append_own _ rfl _ _ 50 rfl w.heap.size 3 i0 (.int .i64 0) 1 8 Tryz.underlying50 hi hz0 hz1 hz2 rfl (by decide) _ _ _ rfl (World.ownsRow_made w #[] 0 (Nat.le_refl _) (Nat.zero_le _) rfl) ad l.length cap (cellsI l) rfl (by simp [cellsI]) ?c1 ?c2 (by unfold maxLen; omega) (by omega) (by simp) ?_)
    case c1 =>
      intro j q hq
      have hj : j < l.length := by
        refine Nat.lt_of_not_le fun h => ?_
        rw [List.getElem?_eq_none (by rw [cellsI_len]; exact h)] at hq
        cases hq
      obtain ⟨g, hg, hgl, hcs⟩ := HC.out (by omega)
      cases hg
      rw [Addr.add_lit, Nat.zero_add, World.cell?_of_block (w := w) (Below.heap_alloc w _ g hgl), hcs j hj, ← hq, cellsI_getD hj]
      simp [List.getD, hj]
    case c2 =>
      intro q hq
      obtain ⟨y, _, rfl⟩ := List.mem_map.1 hq
      rfl
    intro v' w1 hown hgrow _
    have HO : Hid (OwnI w1 w.heap.size v' l ∧ Below w.heap.size w w1) := by
      refine ⟨by simpa [OwnI] using hown, ?_⟩
      exact ((Below.refl _ w).alloc (Nat.le_refl _) _).grown hgrow (by simp) (fun k hk => by simp [Value.ownBlock] at hk; omega)
    clear hown hgrow
    go_wp2_with fail
    go_ret
    exact ⟨_, rfl, HO.out⟩
end Go.Proofs.YtoildgknpfehoaaGreatDoor

/-
  A range over a function whose iterator keeps memory of its own (blocks that it makes when it is called, and writes between two rounds), and whose body never leaves early: one law for the caller.
-/
namespace Go.Proofs.YtoildgknpfehoaaGreatDoor
open Go Go.RowKit

/-- The blocks from B up to C lie as they lay; none has gone. -/
structure Rest (B C : Nat) (W W' : World) : Prop where
  size : W.heap.size ≤ W'.heap.size
  block : ∀ k, B ≤ k → k < C → W'.heap[k]? = W.heap[k]?
theorem Rest.refl (B C : Nat) (W : World) : Rest B C W W := ⟨Nat.le_refl _, fun _ _ _ => rfl⟩
theorem Rest.trans {B C : Nat} {X Y Z : World} (h : Rest B C X Y) (k : Rest B C Y Z) : Rest B C X Z := ⟨Nat.le_trans h.size k.size, fun i h1 h2 => (k.block i h1 h2).trans (h.block i h1 h2)⟩
theorem Rest.of_below {B C : Nat} {W W' : World} (h : Below W.heap.size W W') (hC : C ≤ W.heap.size) : Rest B C W W' := ⟨h.size, fun k _ hk => h.block k (by omega)⟩
theorem Rest.setCell {B C : Nat} {W W' : World} (h : Rest B C W W') {p : Addr} (hp : p.block < B ∨ C ≤ p.block) (v : Value) : Rest B C W (W'.setCell p v) :=
  ⟨by have := h.size; simpa [World.setCell] using this, fun k h1 h2 => (Below.heap_setCell _ _ _ k (by omega)).trans (h.block k h1 h2)⟩
theorem Rest.drew {B C : Nat} {W W' : World} (h : Rest B C W W') : Rest B C W W'.drew := ⟨h.size, h.block⟩

/-- What is said abides the turn of one block from B up to C, and new blocks. -/
def Bides (B : Nat) (J : Nat → List Int → World → Prop) : Prop :=
  ∀ C s A A' row, J C s A → A.grownBy A' row → (∀ r, row = some r → B ≤ r ∧ r < C) → J C s A'

/-- An iterator's contract: it tells xs, one after the other; between two rounds it writes blocks of its own alone, which lie from the heap's size at its call up to some C. -/
def Tells (n : Nat) (P : Program) (gf : Nat) (bd : Array Value) (xs : List Int) (w : World) : Prop :=
  ∀ (l : Nat) (J : Nat → List Int → World → Prop) (W : World), Below w.heap.size w W → Bides W.heap.size J →
    (∀ C pre x A, pre ++ [x] <+: xs → W.heap.size ≤ C → C ≤ A.heap.size → J C pre A →
      YieldAt Fence.wide (n - 1) P l #[.int .i64 x] A fun e A' => e = .returned (.bool true) ∧ J C (pre ++ [x]) A' ∧ Rest W.heap.size C A A') →
    (∀ C, W.heap.size ≤ C → J C [] W) →
    CallsIn Fence.wide n P gf (bd ++ #[.func (.yield l) #[] #[]]) W fun e W' => (∃ v, e = .returned v) ∧ ∃ C, W.heap.size ≤ C ∧ J C xs W'

/-- A call, by a contract without a fence, in a walk at the wide one. -/
theorem call_wide {n : Nat} {P : Program} {f : FuncId} {args : Array Value} {w : World} {R R' : Ending → World → Prop} (h : Calls P f args w R) (hr : ∀ e w', R e w' → R' e w') :
    Fence.wide.fn f ∧ (Fence.wide.depth.isSome = true → 1 ≤ n) ∧ CallsIn Fence.wide (n - 1) P f args w R' := ⟨trivial, (fun h => by cases h), (callsIn_wide.2 h).mono hr⟩
theorem call_round {n l : Nat} {P : Program} {f : FuncId} {args : Array Value} {w : World} {R R' : Ending → World → Prop} (h : Calls P f args w R) (hr : ∀ e w', R e w' → R' e w') :
    (Fence.wide.inRound l).fn f ∧ ((Fence.wide.inRound l).depth.isSome = true → 1 ≤ n) ∧ CallsIn (Fence.wide.inRound l) (n - 1) P f args w R' := ⟨trivial, (fun h => by cases h), CallsIn.inRound l ((callsIn_wide.2 h).mono hr)⟩

/-- How the body of a round is left: at its end. -/
def roundEnd (B C : Nat) (I : Nat → List Int → World → Prop) (xs : List Int) (W : World) : Exit → Act → World → Prop
  | .normal, _, W' => Rest B C W W' ∧ I C xs W'
  | _, _, _ => False

set_option maxHeartbeats 1000000 in
/-- The statement: what the caller owes is an invariant that speaks of no block from the heap's size on up to C, and one walk of its body. -/
theorem range_tells {n : Nat} {P : Program} {g : Operand} {ps : Array Tmp} {assign body : Code} {Q : Exit → Act → World → Prop} {a : Act} {w : World}
    {gf : Nat} {bd : Array Value} (hg : a.eval g = .func (.func gf) bd #[]) (eg : ∀ args w, (callFunc gf args).run P w = .ok (.enter gf args) w)
    {xs : List Int} {w0 : World} (hseq : Tells (n - 1) P gf bd xs w0) (hb0 : Below w0.heap.size w0 w) (hps : ps.size = 1)
    (I : Nat → List Int → World → Prop) (hI : Bides w.heap.size I) (h0 : ∀ C, I C [] w) (a₁ : Int → Act)
    (hassign : ∀ (l : Nat) (x : Int) (W : World) (K : Act → World → Prop), K (a₁ x) W →
      assign.wpIn (Fence.wide.inRound l) (n - 1 - 1) P (Exit.then K (fun _ _ _ => False)) { tmps := (ps.zip #[.int .i64 x]).foldl (fun t (p, v) => t.setIfInBounds p v) a.tmps, defers := [] } W)
    (hbody : ∀ (l C : Nat) (pre : List Int) (x : Int) (W : World), pre ++ [x] <+: xs → w.heap.size + 2 ≤ C → C ≤ W.heap.size → I C pre W →
      body.wpIn (Fence.wide.inRound l) (n - 1 - 1) P (roundEnd w.heap.size C I (pre ++ [x]) W) (a₁ x) W)
    (hdone : ∀ (D C : Nat) (W : World), w.heap.size ≤ D → D < C → I C xs W → W.heap[D]? = some (.deferred (some [])) → Q .normal { a with defers := { target := .collected D, args := #[] } :: a.defers } W) :
    (Code.rangeFunc g ps assign body).wpIn Fence.wide n P Q a w := by
  refine wpIn_rangeFunc fun fn hfn => ?_
  -- the record, in each of its states
  obtain ⟨rec, hrec⟩ : ∃ rec : LoopState → Loop, rec = fun st => { state := st, pending := none, fn, tmps := a.tmps, params := ps, assign, body, defers := w.heap.size } := ⟨_, rfl⟩
  have hst : ∀ s, (rec s).state = s := fun s => by rw [hrec]
  have hpe : ∀ s, (rec s).pending = none := fun s => by rw [hrec]
  have hup : ∀ s t, ({ rec s with state := t } : Loop) = rec t := fun s t => by rw [hrec]
  have hup2 : ∀ s t, ({ rec s with state := t, pending := none } : Loop) = rec t := fun s t => by rw [hrec]
  obtain ⟨W1, hW1⟩ : ∃ W1, (w.alloc (.deferred (some []))).alloc (.loop (rec .ready)) = W1 := ⟨_, rfl⟩
  have hs1 : W1.heap.size = w.heap.size + 2 := by rw [← hW1]; simp
  have hl1 : W1.heap[w.heap.size + 1]? = some (.loop (rec .ready)) := by
    rw [← hW1]
    have := World.alloc_heap_new (w.alloc (.deferred (some []))) (.loop (rec .ready))
    rwa [World.size_alloc] at this
  have hd1 : W1.heap[w.heap.size]? = some (.deferred (some [])) := by
    rw [← hW1]
    exact (Below.heap_alloc _ _ _ (by simp)).trans (World.alloc_heap_new w _)
  have hI1 : ∀ C, I C [] W1 := fun C => by
    rw [← hW1]
    exact hI C _ _ _ none (hI C _ _ _ none (h0 C) (World.grownBy_alloc _ _ none) (fun r e => by cases e)) (World.grownBy_alloc _ _ none) (fun r e => by cases e)
  have hb1 : Below w0.heap.size w0 W1 := by
    rw [← hW1]
    exact (hb0.alloc hb0.size _).alloc (by have := hb0.size; simp; omega) _
  refine ⟨w.heap.size + 1, [{ target := .collected w.heap.size, args := #[] }], W1, { target := .fn (.func gf) #[], args := bd ++ #[.func (.yield (w.heap.size + 1)) #[] #[]] }, W1, gf,
    bd ++ #[.func (.yield (w.heap.size + 1)) #[] #[]], W1, ?_, ?_, fun _ _ => trivial, ?_, (fun h => by cases h), ?_⟩
  · rw [← hW1, hrec]
    exact run_enterLoop_outer _ _ _ _ _
  · simp only [resolve, hg]
    simp [go_sem]
  · simp [invoke, go_sem, eg]
  refine (hseq (w.heap.size + 1) (fun C pre W => I C pre W ∧ W.heap[w.heap.size + 1]? = some (.loop (rec .ready)) ∧ W.heap[w.heap.size]? = some (.deferred (some []))) W1 hb1 ?_ ?_ ?_).mono ?_
  · -- what is said abides what the iterator writes
    rintro C s A A' row ⟨h1, h2, h3⟩ hgr hr
    rw [hs1] at hr
    have hlt : w.heap.size + 1 < A.heap.size := (Array.getElem?_eq_some_iff.1 h2).1
    refine ⟨hI C s A A' row h1 hgr (fun r e => by have := hr r e; omega), (hgr.block _ hlt (fun e => by have := hr _ e.symm; omega)).trans h2, (hgr.block _ (by omega) (fun e => by have := hr _ e.symm; omega)).trans h3⟩
  · -- one round
    rintro C pre x A hx hC hCA ⟨h1, h2, h3⟩
    rw [hs1] at hC ⊢
    have hlt : w.heap.size + 1 < A.heap.size := (Array.getElem?_eq_some_iff.1 h2).1
    have hy := run_yield (P := P) (args := #[Value.int .i64 x]) h2 (by rw [hrec]; simp [hps])
    rw [hrec] at hy
    have hbr := run_beginRound (P := P) h2 (hst _)
    rw [hup] at hbr
    have hturn : ∀ (X : World) (s : LoopState), X.grownBy (X.putObj (w.heap.size + 1) (.loop (rec s))) (some (w.heap.size + 1)) := fun X s => grownBy_putObj' X _ _
    refine ⟨fn, _, assign, body, hy, roundIn_of_wpIn hfn (hassign _ x A _ ⟨_, hbr, ?_⟩)⟩
    refine wpIn_mono (hbody _ C pre x _ hx (by omega) (by simpa using hCA) (hI C _ _ _ _ h1 (hturn A _) (fun r e => by cases e; omega))) ?_
    intro e a3 W3 hp
    cases e with
    | normal =>
      obtain ⟨hk, hi⟩ := hp
      have hsz := hk.size
      simp only [World.putObj_size] at hsz
      have h4 : W3.heap[w.heap.size + 1]? = some (.loop (rec .busy)) := (hk.block _ (by omega) (by omega)).trans (World.putObj_heap_same hlt)
      have h5 : W3.heap[w.heap.size]? = some (.deferred (some [])) := (hk.block _ (by omega) (by omega)).trans ((World.putObj_heap_other (by omega)).trans h3)
      have her := run_endRound (P := P) none h4
      simp only [Option.isNone_none, if_true, hup2] at her
      refine ⟨_, _, her, rfl, ⟨hI C _ _ _ _ hi (hturn W3 _) (fun r e => by cases e; omega), World.putObj_heap_same (by omega), (World.putObj_heap_other (by omega)).trans h5⟩, ?_⟩
      refine ⟨by simpa using hsz, fun k hk1 hk2 => ?_⟩
      rw [World.putObj_heap_other (by omega), hk.block k (by omega) hk2, World.putObj_heap_other (by omega)]
    | ret => exact hp.elim
    | exit id => exact hp.elim
    | goto t => exact hp.elim
    | panic ch => exact hp.elim
    | outgrown => exact hp.elim
  · exact fun C _ => ⟨hI1 C, hl1, hd1⟩
  · -- behind the iterator
    rintro e W2 ⟨⟨v, rfl⟩, C, hC, h1, h2, h3⟩
    have hlt : w.heap.size + 1 < W2.heap.size := (Array.getElem?_eq_some_iff.1 h2).1
    have hel := run_endLoop (P := P) h2 (by rw [hst]; simp)
    rw [hup, hpe] at hel
    rw [hs1] at hC
    exact ⟨none, _, hel, hdone _ C _ (Nat.le_refl _) (by omega) (hI C _ _ _ _ h1 (grownBy_putObj' W2 _ _) (fun r e => by cases e; omega)) ((World.putObj_heap_other (by omega)).trans h3)⟩
end Go.Proofs.YtoildgknpfehoaaGreatDoor
