/-
  Texts of the proof.
-/
import Derived.RangeFuncNested
import Derived.RangeFuncBound
import Derived.RangeFuncCalls
import Derived.RangeFuncLeaves
import Derived.RangeFuncBox
import Derived.WalkKit
import Derived.Shelf.Abstract
import Derived.Shelf.RegionOpen
import Derived.OwnWalkIn
import Derived.TacticsInMore
import Derived.LoopNIn
import Derived.LoopIn
import Derived.Maps.AppendAt
import Derived.Test.YtcbjlbpkoneibaaGreatDoorSR30
set_option linter.unusedVariables false
set_option linter.unusedSimpArgs false
set_option maxRecDepth 100000
set_option maxHeartbeats 25600000
namespace Go.Proofs.YtcbjlbpkoneibaaGreatDoor
open Go Go.RowKit
structure Rest (B C : Nat) (W W' : World) : Prop where
 size : W.heap.size <= W'.heap.size
 block : ∀ k, B <= k -> k < C -> W'.heap[k]? = W.heap[k]?
theorem Rest.refl (B C : Nat) (W : World) : Rest B C W W := ⟨Nat.le_refl _, fun _ _ _ => rfl⟩
theorem Rest.trans {B C : Nat} {X Y Z : World} (h : Rest B C X Y) (k : Rest B C Y Z) : Rest B C X Z := ⟨Nat.le_trans h.size k.size, fun i h1 h2 => (k.block i h1 h2).trans (h.block i h1 h2)⟩
theorem Rest.of_below {B C : Nat} {W W' : World} (h : zW W W') (hC : C <= W.heap.size) : Rest B C W W' := ⟨h.size, fun k _ hk => h.block k (by omega)⟩
theorem Rest.setCell {B C : Nat} {W W' : World} (h : Rest B C W W') {p : Addr} (hp : p.block < B ∨ C <= p.block) (v : Value) : Rest B C W (W'.setCell p v) :=
 ⟨by have := h.size; simpa [World.setCell] using this, fun k h1 h2 => (Below.heap_setCell _ _ _ k (by omega)).trans (h.block k h1 h2)⟩
def Bides (B : Nat) (J : Nat -> List Int -> World -> Prop) : Prop :=
 ∀ C s A A' row, J C s A -> A.grownBy A' row -> (∀ r, row = some r -> B <= r /\ r < C) -> J C s A'
def Tells (n : Nat) (P : Program) (gf : Nat) (bd : Array Value) (xs : List Int) (w : World) : Prop :=
 ∀ (l : Nat) (J : Nat -> List Int -> World -> Prop) (W : World), zW w W -> Bides W.heap.size J ->
  (∀ C pre x A, pre ++ [x] <+: xs -> W.heap.size <= C -> C <= A.heap.size -> J C pre A ->
   YieldAt Fence.wide (n - 1) P l #[zI x] A fun e A' => e = .returned (.bool true) /\ J C (pre ++ [x]) A' /\ Rest W.heap.size C A A') ->
  (∀ C, W.heap.size <= C -> J C [] W) ->
  CallsIn Fence.wide n P gf (bd ++ #[.func (.yield l) #[] #[]]) W fun e W' => (∃ v, e = .returned v) /\ ∃ C, W.heap.size <= C /\ J C xs W'
theorem call_wide {n : Nat} {P : Program} {f : FuncId} {args : Array Value} {w : World} {R R' : Ending -> World -> Prop} (h : Calls P f args w R) (hr : ∀ e w', R e w' -> R' e w') :
  Fence.wide.fn f /\ (Fence.wide.depth.isSome = true -> 1 <= n) /\ CallsIn Fence.wide (n - 1) P f args w R' := ⟨trivial, (fun h => by cases h), (callsIn_wide.2 h).mono hr⟩
theorem call_round {n l : Nat} {P : Program} {f : FuncId} {args : Array Value} {w : World} {R R' : Ending -> World -> Prop} (h : Calls P f args w R) (hr : ∀ e w', R e w' -> R' e w') :
  (Fence.wide.inRound l).fn f /\ ((Fence.wide.inRound l).depth.isSome = true -> 1 <= n) /\ CallsIn (Fence.wide.inRound l) (n - 1) P f args w R' := ⟨trivial, (fun h => by cases h), CallsIn.inRound l ((callsIn_wide.2 h).mono hr)⟩
def roundEnd (B C : Nat) (I : Nat -> List Int -> World -> Prop) (xs : List Int) (W : World) : Exit -> Act -> World -> Prop
 | .normal, _, W' => Rest B C W W' /\ I C xs W'
 | _, _, _ => False
theorem range_tells {n : Nat} {P : Program} {g : Operand} {ps : Array Tmp} {assign body : Code} {Q : Exit -> Act -> World -> Prop} {a : Act} {w : World}
  {gf : Nat} {bd : Array Value} (hg : a.eval g = .func (.func gf) bd #[]) (eg : ∀ args w, (callFunc gf args).run P w = .ok (.enter gf args) w)
  {xs : List Int} {w0 : World} (hseq : Tells (n - 1) P gf bd xs w0) (hb0 : zW w0 w) (hps : ps.size = 1)
  (I : Nat -> List Int -> World -> Prop) (hI : Bides w.heap.size I) (h0 : ∀ C, I C [] w) (a₁ : Int -> Act)
  (hassign : ∀ (l : Nat) (x : Int) (W : World) (K : Act -> World -> Prop), K (a₁ x) W ->
   assign.wpIn (Fence.wide.inRound l) (n - 1 - 1) P (Exit.then K (fun _ _ _ => False)) { tmps := (ps.zip #[zI x]).foldl (fun t (p, v) => t.setIfInBounds p v) a.tmps, defers := [] } W)
  (hbody : ∀ (l C : Nat) (pre : List Int) (x : Int) (W : World), pre ++ [x] <+: xs -> w.heap.size + 2 <= C -> C <= W.heap.size -> I C pre W ->
   body.wpIn (Fence.wide.inRound l) (n - 1 - 1) P (roundEnd w.heap.size C I (pre ++ [x]) W) (a₁ x) W)
  (hdone : ∀ (D C : Nat) (W : World), w.heap.size <= D -> D < C -> I C xs W -> W.heap[D]? = some (.deferred (some [])) -> Q .normal { a with defers := { target := .collected D, args := #[] } :: a.defers } W) :
  (Code.rangeFunc g ps assign body).wpIn Fence.wide n P Q a w := by
 refine wpIn_rangeFunc fun fn hfn => ?_
 obtain ⟨rec, hrec⟩ : ∃ rec : LoopState -> Loop, rec = fun st => { state := st, pending := none, fn, tmps := a.tmps, params := ps, assign, body, defers := w.heap.size } := ⟨_, rfl⟩
 have hst : ∀ s, (rec s).state = s := fun s => by rw [hrec]
 have hpe : ∀ s, (rec s).pending = none := fun s => by rw [hrec]
 have hup : ∀ s t, ({ rec s with state := t } : Loop) = rec t := fun s t => by rw [hrec]
 have hup2 : ∀ s t, ({ rec s with state := t, pending := none } : Loop) = rec t := fun s t => by rw [hrec]
 obtain ⟨W1, hW1⟩ := zE ((w.alloc (.deferred (some []))).alloc (.loop (rec .ready)));have hs1 : W1.heap.size = w.heap.size + 2 := by rw [<- hW1]; simp
 have hl1 : W1.heap[w.heap.size + 1]? = some (.loop (rec .ready)) := by
  rw [<- hW1];have := World.alloc_heap_new (w.alloc (.deferred (some []))) (.loop (rec .ready))
  rwa [World.size_alloc] at this
 have hd1 : W1.heap[w.heap.size]? = some (.deferred (some [])) := by
  rw [<- hW1];exact (Below.heap_alloc _ _ _ (by simp)).trans (World.alloc_heap_new w _)
 have hI1 : ∀ C, I C [] W1 := fun C => by
  rw [<- hW1];exact hI C _ _ _ none (hI C _ _ _ none (h0 C) (World.grownBy_alloc _ _ none) (fun r e => by cases e)) (World.grownBy_alloc _ _ none) (fun r e => by cases e)
 have hb1 : zW w0 W1 := by
  rw [<- hW1];exact (hb0.alloc hb0.size _).alloc (by have := hb0.size; simp; omega) _
 refine ⟨w.heap.size + 1, [{ target := .collected w.heap.size, args := #[] }], W1, { target := .fn (.func gf) #[], args := bd ++ #[.func (.yield (w.heap.size + 1)) #[] #[]] }, W1, gf,
  bd ++ #[.func (.yield (w.heap.size + 1)) #[] #[]], W1, ?_, ?_, fun _ _ => trivial, ?_, (fun h => by cases h), ?_⟩
 ·rw [<- hW1, hrec]
  exact run_enterLoop_outer _ _ _ _ _
 ·simp only [resolve, hg]
  simp [go_sem]
 ·simp [invoke, go_sem, eg]
 refine (hseq (w.heap.size + 1) (fun C pre W => I C pre W /\ W.heap[w.heap.size + 1]? = some (.loop (rec .ready)) /\ W.heap[w.heap.size]? = some (.deferred (some []))) W1 hb1 ?_ ?_ ?_).mono ?_
 ·
  rintro C s A A' row ⟨h1, h2, h3⟩ hgr hr;rw [hs1] at hr;have hlt : w.heap.size + 1 < A.heap.size := (Array.getElem?_eq_some_iff.1 h2).1;refine ⟨hI C s A A' row h1 hgr (fun r e => by have := hr r e; omega), (hgr.block _ hlt (fun e => by have := hr _ e.symm; omega)).trans h2, (hgr.block _ (by omega) (fun e => by have := hr _ e.symm; omega)).trans h3⟩
 ·
  rintro C pre x A hx hC hCA ⟨h1, h2, h3⟩;rw [hs1] at hC |-;have hlt : w.heap.size + 1 < A.heap.size := (Array.getElem?_eq_some_iff.1 h2).1;have hy := run_yield (P := P) (args := #[Value.int .i64 x]) h2 (by rw [hrec]; simp [hps]);rw [hrec] at hy;have hbr := run_beginRound (P := P) h2 (hst _);rw [hup] at hbr;have hturn : ∀ (X : World) (s : LoopState), X.grownBy (X.putObj (w.heap.size + 1) (.loop (rec s))) (some (w.heap.size + 1)) := fun X s => grownBy_putObj' X _ _
  refine ⟨fn, _, assign, body, hy, roundIn_of_wpIn hfn (hassign _ x A _ ⟨_, hbr, ?_⟩)⟩;refine wpIn_mono (hbody _ C pre x _ hx (by omega) (by simpa using hCA) (hI C _ _ _ _ h1 (hturn A _) (fun r e => by cases e; omega))) ?_;intro e a3 W3 hp
  cases e with
  | normal =>
   obtain ⟨hk, hi⟩ := hp;have hsz := hk.size;simp only [World.putObj_size] at hsz;have h4 : W3.heap[w.heap.size + 1]? = some (.loop (rec .busy)) := (hk.block _ (by omega) (by omega)).trans (World.putObj_heap_same hlt);have h5 : W3.heap[w.heap.size]? = some (.deferred (some [])) := (hk.block _ (by omega) (by omega)).trans ((World.putObj_heap_other (by omega)).trans h3);have her := run_endRound (P := P) none h4;simp only [Option.isNone_none, if_true, hup2] at her;refine ⟨_, _, her, rfl, ⟨hI C _ _ _ _ hi (hturn W3 _) (fun r e => by cases e; omega), World.putObj_heap_same (by omega), (World.putObj_heap_other (by omega)).trans h5⟩, ?_⟩;refine ⟨by simpa using hsz, fun k hk1 hk2 => ?_⟩;rw [World.putObj_heap_other (by omega), hk.block k (by omega) hk2, World.putObj_heap_other (by omega)]
  | ret => exact hp.elim
  | exit id => exact hp.elim
  | goto t => exact hp.elim
  | panic ch => exact hp.elim
  | outgrown => exact hp.elim
 ·exact fun C _ => ⟨hI1 C, hl1, hd1⟩
 ·
  rintro e W2 ⟨⟨v, rfl⟩, C, hC, h1, h2, h3⟩;have hlt : w.heap.size + 1 < W2.heap.size := (Array.getElem?_eq_some_iff.1 h2).1;have hel := run_endLoop (P := P) h2 (by rw [hst]; simp);rw [hup, hpe] at hel;rw [hs1] at hC;exact ⟨none, _, hel, hdone _ C _ (Nat.le_refl _) (by omega) (hI C _ _ _ _ h1 (grownBy_putObj' W2 _ _) (fun r e => by cases e; omega)) ((World.putObj_heap_other (by omega)).trans h3)⟩
end Go.Proofs.YtcbjlbpkoneibaaGreatDoor
namespace Go.Proofs.YtcbjlbpkoneibaaGreatDoor
open Go Go.RowKit Go.Shelf
attribute [local go_sem] Oper.semAt_some
def readI (w : World) : Value -> List Int
 | .slice (some a) n _ => (List.range n).map fun j => ((w.cell? ⟨a.block, j, none⟩).map intOf).getD 0
 | _ => []
theorem readI_own {w : World} {base : Nat} {v : Value} {l : List Int} (h : OwnI w base v l) : readI w v = l := by
 obtain ⟨ao, cap, rfl, hc, _⟩ := h.shape
 rcases Nat.eq_zero_or_pos l.length with h0 | h0
 ·rw [List.eq_nil_of_length_eq_zero h0]
  cases ao <;> simp [readI]
 ·obtain ⟨g, rfl⟩ := hc h0
  apply List.ext_getElem
  ·simp [readI]
  ·intro j h1 h2
   have := h.cell h2;simp only [readI, List.getElem_map, List.getElem_range, this];simp [intOf, List.getD, h2]
theorem OwnI.same {w w' : World} {base : Nat} {v : Value} {l : List Int} (h : OwnI w base v l) (hs : ∀ g, v.ownBlock = some g -> w'.heap[g]? = w.heap[g]?) : OwnI w' base v l := by
 obtain ⟨h1, h2⟩ := h;refine ⟨h1, ?_⟩
 rcases h2 with h2 | ⟨g, cap, cur, hv, hbg, hg, r⟩
 ·exact .inl h2
 ·exact .inr ⟨g, cap, cur, hv, hbg, by rw [hs g (by rw [hv]; rfl)]; exact hg, r⟩
theorem OwnI.block_lt {w : World} {base : Nat} {v : Value} {l : List Int} (h : OwnI w base v l) {g : Nat} (hg : v.ownBlock = some g) : base <= g /\ g < w.heap.size := World.ownsRow.lt h g hg
theorem grown_of_below {w w' : World} (h : zW w w') (row : Option Nat) : w.grownBy w' row := ⟨h.os, h.tape, h.output, h.size, fun k hk _ => h.block k hk⟩
theorem bits_tells (n : Nat) (v : Value) (la : List Int) (w : World) (hl : la.length <= 40) (hd : Dig la) (ht : Top la) (hv : IntAt w v la) : Tells n Tryz.prog 137 #[v] (bitsI (ev la)) w := by
 intro l J W hW hJ hY h0;have HJ : Hid (Bides W.heap.size J) := hJ;have HY : Hid (∀ C pre x A, pre ++ [x] <+: bitsI (ev la) -> W.heap.size <= C -> C <= A.heap.size -> J C pre A ->
   YieldAt Fence.wide (n - 1) Tryz.prog l #[zI x] A fun e A' => e = .returned (.bool true) /\ J C (pre ++ [x]) A' /\ Rest W.heap.size C A A') := hY
 have HO0 : Hid (∀ C, W.heap.size <= C -> J C [] W) := h0;have HA := zH (zJ (hv.below hW) (zJ (hd : Dig la) (ht : Top la)));clear hJ hY h0 hv hd ht hW;refine callsIn_of_wp Tryz.func137 rfl trivial ?_ rfl;simp only [Tryz.ntmps137, List.size_toArray, List.length_cons, List.length_nil, Nat.reduceAdd, Nat.reduceSub, Array.replicate_succ, Array.replicate_zero, List.push_toArray, List.append_toArray, List.nil_append, List.cons_append]
 gi_wp2_with fail
 refine call_wide (clone_any v la W (by omega) HA.1) ?_;rintro e w1 ⟨v1, rfl, ho1, hb1⟩;obtain ⟨C, hC⟩ := zE (w1.heap.size);have hWC : W.heap.size <= C := hC ▸ hb1.size;obtain ⟨o1, c1, hv1, _⟩ := ho1.shape;subst hv1;have H1 : Hid (OwnI w1 W.heap.size (zS o1 la.length c1) (digs (ev la)) /\ (∀ g, (Value.slice o1 la.length c1).ownBlock = some g -> g < C) /\ C <= w1.heap.size /\ J C [] w1) := by
  refine ⟨by rw [<- eq_digs HA.2.1 HA.2.2]; exact ho1, fun g hg => by have := (ho1.block_lt hg).2; omega, by omega, ?_⟩;exact HJ.out C [] W w1 none (HO0.out C hWC) (grown_of_below hb1 _) (fun r e => by cases e)
 clear ho1 hb1 hC
 gi_wp2_with fail
 gi_loopw [4] (fun rv wr => ∃ (pre : List Int) (M : Int), 0 <= M /\ M <= ev la /\ Hid (bitsI (ev la) = pre ++ bitsI M /\ OwnI wr W.heap.size rv (digs M) /\ (∀ g, rv.ownBlock = some g -> g < C) /\ C <= wr.heap.size /\ J C pre wr)) (fun rv wr => (ev (readI wr rv)).toNat)
 case atStart => exact ⟨[], ev la, ev_nonneg HA.2.1, Int.le_refl _, rfl, H1.out⟩
 case round =>
  obtain ⟨pre, M, hM0, hMl, H⟩ := hrel;clear H1;have hM40 : M < 10000 ^ 40 := by
   have a1 := ev_lt HA.2.1;have a2 := pw_le hl;omega
  have hml := digs_len hM0 hM40;obtain ⟨ro, rc, hrv, hrg, _⟩ := H.2.1.shape;subst hrv;by_cases hz : M = 0
  ·subst hz
   have HE : Hid (J C (bitsI (ev la)) wr) := by
    have h := H.out;rw [bitsI_zero, List.append_nil] at h;show J C (bitsI (ev la)) wr;rw [h.1];exact h.2.2.2.2
   clear H hrg;rw [digs_zero]
   gi_wp2
   go_end0
   exact ⟨⟨_, rfl⟩, C, hWC, HE.out⟩
  ·have hpos := digs_ne (x := M) (by omega)
   obtain ⟨g, rfl⟩ := hrg hpos;have hg : W.heap.size <= g /\ g < wr.heap.size := H.2.1.lt;have hgC : g < C := H.2.2.1 g rfl;have HM : Hid ((ev (readI wr (zS (some ⟨g, 0, none⟩) (digs M).length rc))).toNat = M.toNat) := by
    show (ev (readI wr (zS (some ⟨g, 0, none⟩) (digs M).length rc))).toNat = M.toNat;rw [readI_own H.2.1, ev_digs hM0]
   have E := halve_any g rc W.heap.size (digs M) wr (by omega) (dig_digs M) H.2.1;rw [ev_digs hM0] at E;have hlen : (0 : Int) < ((digs M).length : Int) := by omega
   have HE : Hid (∀ R : Ending -> World -> Prop, (∀ e w', (∃ L : List Int, e = .returned (zI (M % 2)) /\ L.length = (digs M).length /\ Dig L /\ ev L = M / 2 /\ OwnI w' W.heap.size (zS (some ⟨g, 0, none⟩) (digs M).length rc) L /\ wr.grownBy w' (some g)) -> R e w') -> Fence.wide.fn 168 /\ (Fence.wide.depth.isSome = true -> 1 <= n) /\ CallsIn Fence.wide (n - 1) Tryz.prog 168 #[zS (some ⟨g, 0, none⟩) (digs M).length rc] wr R) := fun R hR => call_wide E hR
   clear E;generalize (digs M).length = k at *
   gi_wp2_with fail
   refine HE.out _ ?_;rintro e w2 ⟨L, rfl, hL, hLd, hLe, ho2, hg2⟩;have ho2' : OwnI w2 W.heap.size (zS (some ⟨g, 0, none⟩) L.length rc) L := by rw [hL]; exact ho2
   have HL : Hid (L.length = k /\ Dig L /\ ev L = M / 2 /\ OwnI w2 W.heap.size (zS (some ⟨g, 0, none⟩) L.length rc) L /\ wr.grownBy w2 (some g)) := ⟨hL, hLd, hLe, ho2', hg2⟩;have HT : Hid (∀ R : Ending -> World -> Prop, (∀ e w', (∃ v', e = .returned v' /\ OwnI w' W.heap.size v' (digs (M / 2)) /\ zW w2 w' /\ v'.ownBlock = some g) -> R e w') -> Fence.wide.fn 169 /\ (Fence.wide.depth.isSome = true -> 1 <= n) /\ CallsIn Fence.wide (n - 1) Tryz.prog 169 #[zS (some ⟨g, 0, none⟩) k rc] w2 R) := fun R hR => by
    have E := trimmed_same _ L W.heap.size w2 (by omega) hLd ho2';rw [hLe, hL] at E;exact call_wide E hR
   clear hL hLd hLe ho2 ho2' hg2 HE
   gi_wp2_with fail
   refine HT.out _ ?_;rintro e w3 ⟨v3, rfl, ho3, hb3, hk3⟩;obtain ⟨o3, c3, hv3, _⟩ := ho3.shape;subst hv3;have HX : Hid (bitsI (ev la) = (pre ++ [M % 2]) ++ bitsI (M / 2)) := by
    have h := H.1;rw [bitsI_step (x := M) (by omega)] at h;show bitsI (ev la) = (pre ++ [M % 2]) ++ bitsI (M / 2);rw [h];simp
   have h3 : J C pre w3 := HJ.out C pre wr w3 (some g) H.2.2.2.2 (grown_trans HL.2.2.2.2 (grown_of_below hb3 _)) (fun r e => by cases e; omega);have hs3 : C <= w3.heap.size := Nat.le_trans H.2.2.2.1 (Nat.le_trans HL.2.2.2.2.size hb3.size);have HO3 : Hid (OwnI w3 W.heap.size (zS o3 (digs (M / 2)).length c3) (digs (M / 2)) /\ (Value.slice o3 (digs (M / 2)).length c3).ownBlock = some g /\ C <= w3.heap.size) := ⟨ho3, hk3, hs3⟩;obtain ⟨fn, tmps, assign, body, hy, hR⟩ := HY.out C pre (M % 2) w3 ⟨_, HX.out.symm⟩ hWC hs3 h3;clear ho3 hb3 hk3 hs3 h3 HT;generalize M % 2 = z at *
   gi_wp2_with fail
   refine ⟨(fun h => by cases h), hR.mono ?_⟩;rintro e w4 ⟨rfl, hJ4, hr4⟩;have HN : Hid (OwnI w4 W.heap.size (zS o3 (digs (M / 2)).length c3) (digs (M / 2)) /\ C <= w4.heap.size /\ J C (pre ++ [z]) w4) := by
    refine ⟨HO3.1.same fun g' hg' => hr4.block g' ?_ ?_, Nat.le_trans HO3.2.2 hr4.size, hJ4⟩
    ·rw [HO3.2.1] at hg'; cases hg'; omega
    ·rw [HO3.2.1] at hg'; cases hg'; omega
   have HM2 : Hid ((ev (readI w4 (zS o3 (digs (M / 2)).length c3))).toNat < M.toNat) := by
    show (ev (readI w4 (zS o3 (digs (M / 2)).length c3))).toNat < M.toNat;rw [readI_own HN.1, ev_digs (by omega)];omega
   have hq0 : 0 <= M / 2 := by omega
   have hq1 : M / 2 <= ev la := by omega
   clear hJ4 hr4
   gi_wp2_with fail
   go_roundw
   case rel => exact ⟨pre ++ [z], M / 2, hq0, hq1, HX.out, HN.1, fun g' hg' => by rw [HO3.2.1] at hg'; cases hg'; exact hgC, HN.2⟩
   case measure => rw [HM.out]; exact HM2.out
end Go.Proofs.YtcbjlbpkoneibaaGreatDoor
namespace Go.Proofs.YtcbjlbpkoneibaaGreatDoor
open Go.RowKit
def ok3 (a b m : List Int) : Prop := ((okL a = true /\ okL b = true) /\ okL m = true) /\ 0 < m.length
def mmL (a b m : List Int) : List Int := if ((okL a && okL b) && okL m && decide (0 < m.length)) = true then digs (ev a * ev b % ev m) else []
def pmL (a e m : List Int) : List Int := if ((okL a && okL e) && okL m && decide (0 < m.length)) = true then digs (ev a ^ (ev e).toNat % ev m) else []
theorem ok3_of {a b m : List Int} (h : ((okL a && okL b) && okL m && decide (0 < m.length)) = true) : ok3 a b m := by simpa [ok3] using h
structure Mo (m : List Int) : Prop where
 len : m.length <= 40
 dig : Dig m
 top : Top m
 pos : 0 < m.length
theorem Mo.of {m : List Int} (h : okL m = true) (h0 : 0 < m.length) : Mo m := ⟨(okL_true h).1, (okL_true h).2.1, (okL_true h).2.2, h0⟩
theorem Mo.ev_pos {m : List Int} (h : Mo m) : 0 < ev m := Go.Proofs.YtcbjlbpkoneibaaGreatDoor.ev_pos h.dig h.top h.pos
theorem Mo.ev_lt {m : List Int} (h : Mo m) : ev m < 10000 ^ 40 := Int.lt_of_lt_of_le (Go.Proofs.YtcbjlbpkoneibaaGreatDoor.ev_lt h.dig) (pw_le h.len)
theorem Mo.rem {m : List Int} (h : Mo m) (x : Int) : 0 <= x % ev m /\ x % ev m < 10000 ^ 40 := ⟨Int.emod_nonneg _ (by have := h.ev_pos; omega), Int.lt_trans (Int.emod_lt_of_pos _ h.ev_pos) h.ev_lt⟩
theorem okL_lt {l : List Int} (h : okL l = true) : 0 <= ev l /\ ev l < 10000 ^ 40 := ⟨ev_nonneg (okL_true h).2.1, Int.lt_of_lt_of_le (Go.Proofs.YtcbjlbpkoneibaaGreatDoor.ev_lt (okL_true h).2.1) (pw_le (okL_true h).1)⟩
theorem pmL_len (a e m : List Int) : (pmL a e m).length <= 40 := by
 unfold pmL
 split
 ·rename_i h
  have h := ok3_of h;have hm := Mo.of h.1.2 h.2;exact digs_len (hm.rem _).1 (hm.rem _).2
 ·simp
theorem prod_len {a b : List Int} (ha : Dig a) (hb : Dig b) (hla : a.length <= 40) (hlb : b.length <= 40) : (digs (ev a * ev b)).length <= 80 := by
 have a1 := ev_nonneg ha;have a2 := ev_nonneg hb;have a3 := ev_lt ha;have a4 := ev_lt hb;have p1 := pw_le hla;have p2 := pw_le hlb;have h3 := Int.mul_le_mul_of_nonneg_right (show ev a <= 10000 ^ 40 by omega) a2;have h4 := Int.mul_lt_mul_of_pos_left (show ev b < 10000 ^ 40 by omega) (pw_pos 40);exact digs_len (k := 80) (Int.mul_nonneg a1 a2) (by rw [show (80 : Nat) = 40 + 40 from rfl, pw_add]; omega)
theorem modulo_any (a m : Value) (la lm : List Int) (w : World) (hl : la.length <= 1000) (hda : Dig la) (hm : Mo lm) (ha : IntAt w a la) (hb : IntAt w m lm) :
  Calls Tryz.prog 136 #[a, m] w fun e w' => ∃ v, e = .returned v /\ OwnI w' w.heap.size v (digs (ev la % ev lm)) /\ zW w w' := by
 have E := over_any a m la lm w hl (by have := hm.len; omega) hda hm.dig hm.top hm.pos ha hb;clear ha hb hda;go_enter Tryz.func136, Tryz.ntmps136;go_wp2_with fail;refine E.mono ?_;rintro e w1 ⟨q, r, rfl, _, h2, h3, _⟩;have H : Hid (OwnI w1 w.heap.size r (digs (ev la % ev lm)) /\ zW w w1) := ⟨h2, h3⟩;clear h2 h3 E;go_wp2_with fail;go_ret;exact ⟨_, rfl, H.out⟩
theorem timesMod_any (a b m : Value) (la lb lm : List Int) (w : World) (hla : la.length <= 40) (hlb : lb.length <= 40) (hda : Dig la) (hdb : Dig lb) (hm : Mo lm) (ha : IntAt w a la) (hb : IntAt w b lb) (hmm : IntAt w m lm) :
  Calls Tryz.prog 138 #[a, b, m] w fun e w' => ∃ v, e = .returned v /\ OwnI w' w.heap.size v (digs (ev la * ev lb % ev lm)) /\ zW w w' := by
 have E := times_any a b la lb w (by omega) (by omega) hda hdb ha hb;have HX : Hid (IntAt w m lm /\ Mo lm /\ Dig la /\ Dig lb) := ⟨hmm, hm, hda, hdb⟩;have hlen := prod_len hda hdb hla hlb;have hnn := Int.mul_nonneg (ev_nonneg hda) (ev_nonneg hdb);clear ha hb hmm hm hda hdb;go_enter Tryz.func138, Tryz.ntmps138;go_wp2_with fail;refine E.mono ?_;rintro e w1 ⟨v, rfl, h1, h2⟩;have H1 := zH (zJ h1.at (zJ (HX.1.below h2) (h2 : zW w w1)));clear h1 h2 E;go_wp2_with fail;refine (modulo_any v m _ lm w1 (by omega) (dig_digs _) HX.2.1 H1.1 H1.2.1).mono ?_;rintro e w2 ⟨u, rfl, h1, h2⟩;rw [ev_digs hnn] at h1;have H2 := zH (zJ (h1.base H1.2.2.size) (H1.2.2.trans (h2.mono H1.2.2.size)));clear h1 h2;go_wp2_with fail;go_ret;exact ⟨_, rfl, H2.out⟩
theorem right3_any (a b m : Value) (la lb lm : List Int) (w : World) (hla : la.length <= 10000000) (hlb : lb.length <= 10000000) (hlm : lm.length <= 10000000) (wa : Wd la) (wb : Wd lb) (wm : Wd lm) (ha : IntAt w a la) (hb : IntAt w b lb) (hm : IntAt w m lm) :
  Calls Tryz.prog 95 #[a, b, m] w fun e w' => e = .returned (.bool ((okL la && okL lb) && okL lm && decide (0 < lm.length))) /\ zW w w' := by
 have E := bothRight_any a b la lb w hla hlb wa wb ha hb;have HX : Hid (IntAt w m lm /\ Wd lm) := ⟨hm, wm⟩;obtain ⟨mo, mc, hme, _⟩ := hm;subst hme;clear ha hb wa wb wm;go_enter Tryz.func95, Tryz.ntmps95;go_wp2_with fail;refine E.mono ?_;rintro e w1 ⟨rfl, hb1⟩;have H1 := zH (zJ (HX.1.below hb1) (hb1 : zW w w1));clear hb1 E
 rcases hq : (okL la && okL lb) with _ | _
 ·have HQ : Hid ((okL la && okL lb) = false) := hq
  clear hq;go_wp2_with fail;go_ret;exact ⟨congrArg (fun z => Ending.returned (Value.bool z)) (show false = (okL la && okL lb && okL lm && decide (0 < lm.length)) by rw [HQ.out]; simp), H1.2⟩
 ·have HQ : Hid ((okL la && okL lb) = true) := hq
  clear hq;go_wp2_with fail;refine (right_any _ lm w1 hlm H1.1 HX.2).mono ?_;rintro e w2 ⟨rfl, hb2⟩;have H2 : Hid (zW w w2) := H1.2.trans (hb2.mono H1.2.size);clear hb2 H1
  rcases hq2 : okL lm with _ | _
  ·have HQ2 : Hid (okL lm = false) := hq2
   clear hq2;go_wp2_with fail;go_ret;exact ⟨congrArg (fun z => Ending.returned (Value.bool z)) (show false = (okL la && okL lb && okL lm && decide (0 < lm.length)) by rw [HQ.out, HQ2.out]; simp), H2.out⟩
  ·have HQ2 : Hid (okL lm = true) := hq2
   clear hq2;by_cases h0 : 0 < lm.length
   ·have h0' : (0 : Int) < (lm.length : Int) := by omega
    have HD : Hid (decide (0 < lm.length) = true) := decide_eq_true h0;go_wp2_with fail;go_ret;exact ⟨congrArg (fun z => Ending.returned (Value.bool z)) (show true = (okL la && okL lb && okL lm && decide (0 < lm.length)) by rw [HQ.out, HQ2.out, HD.out]; simp), H2.out⟩
   ·have h0' : ¬ (0 : Int) < (lm.length : Int) := by omega
    have HD : Hid (decide (0 < lm.length) = false) := decide_eq_false h0;go_wp2_with fail;go_ret;exact ⟨congrArg (fun z => Ending.returned (Value.bool z)) (show false = (okL la && okL lb && okL lm && decide (0 < lm.length)) by rw [HQ.out, HQ2.out, HD.out]; simp), H2.out⟩
open Go Go.RowKit Go.Shelf
attribute [local go_sem] Oper.semAt_some
def IntOut (lo C : Nat) (W : World) (v : Value) (l : List Int) : Prop :=
 ∃ ao cap, v = zS ao l.length cap /\ (0 < l.length -> ∃ g, ao = some ⟨g, 0, none⟩ /\ g < W.heap.size /\ (g < lo ∨ C <= g) /\ ∀ j (hj : j < l.length), W.cell? ⟨g, j, none⟩ = some (zI l[j]))
theorem IntOut.at {lo C : Nat} {W : World} {v : Value} {l : List Int} (h : IntOut lo C W v l) : IntAt W v l := by
 obtain ⟨ao, cap, hv, h⟩ := h;exact ⟨ao, cap, hv, fun hl => by obtain ⟨g, hg, hlt, _, hc⟩ := h hl; exact ⟨g, hg, hlt, hc⟩⟩
theorem IntOut.blocks {lo C : Nat} {W W' : World} {v : Value} {l : List Int} (h : IntOut lo C W v l) (hs : W.heap.size <= W'.heap.size) (hb : ∀ g, g < W.heap.size -> (g < lo ∨ C <= g) -> (∃ x, W.cell? ⟨g, 0, none⟩ = some (zI x)) -> W'.heap[g]? = W.heap[g]?) : IntOut lo C W' v l := by
 obtain ⟨ao, cap, hv, h⟩ := h;refine ⟨ao, cap, hv, fun hl => ?_⟩;obtain ⟨g, hg, hlt, ho, hc⟩ := h hl;refine ⟨g, hg, Nat.lt_of_lt_of_le hlt hs, ho, fun j hj => ?_⟩;rw [World.cell?_of_block (w := W) (a := ⟨g, j, none⟩) (hb g hlt ho ⟨_, hc 0 hl⟩)];exact hc j hj
theorem IntOut.of_at {lo C : Nat} {W : World} {v : Value} {l : List Int} (h : IntAt W v l) (hlo : W.heap.size <= lo) : IntOut lo C W v l := by
 obtain ⟨ao, cap, hv, h⟩ := h;exact ⟨ao, cap, hv, fun hl => by obtain ⟨g, hg, hlt, hc⟩ := h hl; exact ⟨g, hg, hlt, .inl (by omega), hc⟩⟩
theorem IntOut.of_own {lo C base : Nat} {W : World} {v : Value} {l : List Int} (h : OwnI W base v l) (hC : C <= base) : IntOut lo C W v l := by
 obtain ⟨ao, cap, hv, hc⟩ := h.at
 refine ⟨ao, cap, hv, fun hl => ?_⟩;obtain ⟨g, hg, hlt, hcs⟩ := hc hl;exact ⟨g, hg, hlt, .inr (by have := (h.block_lt (g := g) (by rw [hv, hg]; rfl)).1; omega), hcs⟩
structure Stp (w : World) (Bp Bs Bm lo C : Nat) (vm vp vs : Value) (lp ls : List Int) (W : World) : Prop where
 bp : Boxed W Bp 115 vp
 bs : Boxed W Bs 115 vs
 bm : Boxed W Bm 115 vm
 op : OwnI W w.heap.size vp lp
 np : ∀ g, vp.ownBlock = some g -> g < lo ∨ C <= g
 is : IntOut lo C W vs ls
 below : zW w W
theorem boxed_not_int {W : World} {B g : Nat} {t : TypeId} {ao : Option Addr} {n c : Nat} (h : Boxed W B t (zS ao n c)) (hi : ∃ x, W.cell? ⟨g, 0, none⟩ = some (zI x)) : g ≠ B := by
 rintro rfl;obtain ⟨x, hx⟩ := hi;rw [h.cell] at hx
 cases hx
theorem Stp.stays {w : World} {Bp Bs Bm lo C : Nat} {vm vp vs : Value} {lp ls : List Int} {W W' : World} (h : Stp w Bp Bs Bm lo C vm vp vs lp ls W) (hb : zW W W') : Stp w Bp Bs Bm lo C vm vp vs lp ls W' :=
 ⟨(hb.block _ h.bp.lt).trans h.bp, (hb.block _ h.bs.lt).trans h.bs, (hb.block _ h.bm.lt).trans h.bm, h.op.stays hb, h.np, h.is.blocks hb.size (fun g hg _ _ => hb.block g hg), h.below.trans (hb.mono h.below.size)⟩
theorem Stp.kept {w : World} {Bp Bs Bm lo C : Nat} {vm vp vs : Value} {lp ls : List Int} {W W' : World} {row : Option Nat} (h : Stp w Bp Bs Bm lo C vm vp vs lp ls W) (hg : W.grownBy W' row) (hr : ∀ r, row = some r -> lo <= r /\ r < C)
  (h1 : Bp < lo) (h2 : Bs < lo) (h3 : Bm < lo) (hlo : w.heap.size <= lo) : Stp w Bp Bs Bm lo C vm vp vs lp ls W' := by
 have hne : ∀ k, (k < lo ∨ C <= k) -> some k ≠ row := fun k hk e => by have := hr k e.symm; omega
 exact ⟨h.bp.kept hg (hne _ (.inl h1)), h.bs.kept hg (hne _ (.inl h2)), h.bm.kept hg (hne _ (.inl h3)), h.op.same (fun g e => hg.block g (h.op.block_lt e).2 (hne g (h.np g e))), h.np, h.is.blocks hg.size (fun g hl ho _ => hg.block g hl (hne g ho)), h.below.grown hg h.below.size (fun k e => by have := hr k e; omega)⟩
theorem set_other {W : World} {B g : Nat} (v : Value) (h : g ≠ B) : (W.setCell ⟨B, 0, none⟩ v).heap[g]? = W.heap[g]? := Below.heap_setCell _ _ _ _ h
theorem Stp.setP {w : World} {Bp Bs Bm lo C b : Nat} {vm vp vs v : Value} {lp ls l : List Int} {W : World} (h : Stp w Bp Bs Bm lo C vm vp vs lp ls W) (hps : Bs ≠ Bp) (hpm : Bm ≠ Bp) (ho : OwnI W b v l) (hb : C <= b) (hwb : w.heap.size <= b) (hwp : w.heap.size <= Bp) (hvp : ∃ ao n c, vp = zS ao n c) :
  Stp w Bp Bs Bm lo C vm v vs l ls (W.setCell ⟨Bp, 0, none⟩ v) := by
 obtain ⟨ao, n, c, rfl⟩ := hvp;refine ⟨h.bp.set v, (set_other _ hps).trans h.bs, (set_other _ hpm).trans h.bm, (ho.base hwb).same (fun g e => set_other _ (fun e' => h.bp.not_row (by decide) ho (by rw [e, e']))), fun g e => .inr (by have := (ho.block_lt e).1; omega), h.is.blocks (by simp [World.setCell]) (fun g _ _ hi => set_other _ (boxed_not_int h.bp hi)), h.below.setCell (p := ⟨Bp, 0, none⟩) hwp v⟩
theorem Stp.setS {w : World} {Bp Bs Bm lo C b : Nat} {vm vp vs v : Value} {lp ls l : List Int} {W : World} (h : Stp w Bp Bs Bm lo C vm vp vs lp ls W) (hps : Bp ≠ Bs) (hpm : Bm ≠ Bs) (ho : OwnI W b v l) (hb : C <= b) (hws : w.heap.size <= Bs) (hvs : ∃ ao n c, vs = zS ao n c) :
  Stp w Bp Bs Bm lo C vm vp v lp l (W.setCell ⟨Bs, 0, none⟩ v) := by
 obtain ⟨ao, n, c, rfl⟩ := hvs;refine ⟨(set_other _ hps).trans h.bp, h.bs.set v, (set_other _ hpm).trans h.bm, h.op.same (fun g e => set_other _ (fun e' => h.bs.not_row (by decide) h.op (by rw [e, e']))), h.np, (IntOut.of_own ho hb).blocks (by simp [World.setCell]) (fun g _ _ hi => set_other _ (boxed_not_int h.bs hi)), h.below.setCell (p := ⟨Bs, 0, none⟩) hws v⟩
def HoldsP (w : World) (Bp Bs Bm lo : Nat) (vm : Value) (a m : Int) (C : Nat) (pre : List Int) (W : World) : Prop :=
 ∃ po pn pc so sn sc P S, Stp w Bp Bs Bm lo C vm (zS po pn pc) (zS so sn sc) (digs P) (digs S) W /\ Pw a m pre P S /\ S < 10000 ^ 40
theorem HoldsP.bides {w : World} {Bp Bs Bm lo : Nat} {vm : Value} {a m : Int} (h1 : Bp < lo) (h2 : Bs < lo) (h3 : Bm < lo) (hlo : w.heap.size <= lo) : Bides lo (HoldsP w Bp Bs Bm lo vm a m) := by
 rintro C s A A' row ⟨po, pn, pc, so, sn, sc, P, S, h, hp⟩ hg hr;exact ⟨po, pn, pc, so, sn, sc, P, S, h.kept hg hr h1 h2 h3 hlo, hp⟩
end Go.Proofs.YtcbjlbpkoneibaaGreatDoor
