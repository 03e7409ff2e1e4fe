/-
  Texts of the proof.
-/
import Derived.Deep.RegionLaw
import Derived.Test.YtabfamhaihnccaaGreatLC34
import Derived.Test.YtabfamhaihnccaaGreatLC39
set_option linter.unusedVariables false
set_option linter.unusedSimpArgs false
set_option maxRecDepth 100000
set_option maxHeartbeats 25600000
namespace Go.Proofs.YtabfamhaihnccaaGreat
open Go.RowKit
def SeSh (w : World) (v : Value) (s : Se) : Prop := ∃ a1 c1 a2 c2 a3 c3 a4 c4 a5 c5, v = .agg (zSe s (zS a1 s.store.certs.length c1) (zS a2 s.store.crls.length c2) (zS a3 s.store.ancs.length c3) (zS a4 s.pl.length c4) (zS a5 s.kept.length c5)) /\ SoSh w (.agg #[zS a1 s.store.certs.length c1, zS a2 s.store.crls.length c2, zS a3 s.store.ancs.length c3]) s.store /\ ShS pnKd w (zS a4 s.pl.length c4) s.pl /\ ShS ktKd w (zS a5 s.kept.length c5) s.kept
theorem SeSh.below {w w' : World} {v : Value} {s : Se} (h : SeSh w v s) (hb : zW w w') : SeSh w' v s := by
 obtain ⟨a1, c1, a2, c2, a3, c3, a4, c4, a5, c5, hv, h1, h2, h3⟩ := h;exact ⟨a1, c1, a2, c2, a3, c3, a4, c4, a5, c5, hv, h1.below hb, h2.below hb, h3.below hb⟩
theorem SeSh.at {w : World} {v : Value} {s : Se} (h : SeSh w v s) : SeAt w v s := by
 obtain ⟨a1, c1, a2, c2, a3, c3, a4, c4, a5, c5, hv, h1, h2, h3⟩ := h;exact ⟨_, _, _, _, _, hv, h1.at, h2.at, h3.at⟩
theorem SeSh.mk {w : World} {v1 v2 v3 v4 v5 : Value} {s : Se} (h1 : SoSh w (.agg #[v1, v2, v3]) s.store) (h2 : ShS pnKd w v4 s.pl) (h3 : ShS ktKd w v5 s.kept) : SeSh w (.agg (zSe s v1 v2 v3 v4 v5)) s := by
 obtain ⟨a1, c1, a2, c2, a3, c3, he, -⟩ := id h1;injection he with he
 simp only [Array.mk.injEq, List.cons.injEq, and_true] at he;obtain ⟨rfl, rfl, rfl⟩ := he;obtain ⟨a4, c4, rfl⟩ := h2.shape;obtain ⟨a5, c5, rfl⟩ := h3.shape;exact ⟨a1, c1, a2, c2, a3, c3, a4, c4, a5, c5, rfl, h1, h2, h3⟩
theorem OwnSe.sh {w : World} {base : Nat} {v : Value} {s : Se} {fp : List Nat} (h : OwnSe w base v s fp) : SeSh w v s := by
 obtain ⟨v1, v2, v3, v4, v5, f1, f2, f3, rfl, h1, h2, h3, _, _⟩ := h;exact SeSh.mk h1.sh h2.sh h3.sh
theorem Out.allocQ {fp : List Nat} {a b : World} (h : Out fp a b) (o : Obj) : Out fp a (b.alloc o) := h.trans (Out.of_below ((Below.refl _ _).alloc (Nat.le_refl _) _))
def OkSe (s : Se) : Prop := OkO s.store /\ (s.pl.length <= 2000000 /\ ∀ p ∈ s.pl, wtPn p <= 2000000) /\ s.kept.length <= 2000000 /\ ∀ k ∈ s.kept, wtKt k <= 2000000
def learnL (s : Se) (c : Cl) : Se × Bool := if stoOk (addCrl s.store c) = true then ({ s with store := addCrl s.store c, kept := [] }, true) else (s, false)
def KQ (w W : World) (gO : Nat) (P O : Array Value) (st : Value) (s : So) (fs : List Nat) (pv : Value) (pl : List Pn) (f2 : List Nat) (kv : Value) (kl : List Kt) (f3 : List Nat) : Prop :=
 (zW w W /\ Blk W w.heap.size 41 P /\ Blk W (w.heap.size + 1) 41 #[zZ, zZ, zZ, zZ, zI 0, zI 0, zI 0, zZ] /\ Blk W gO 41 O /\ w.heap.size + 2 <= gO) /\ OwnO W (w.heap.size + 2) st s fs /\ OwnS pnKd W (w.heap.size + 2) pv pl f2 /\ OwnS ktKd W (w.heap.size + 2) kv kl f3 /\ (gO :: (fs ++ (f2 ++ f3))).Nodup
section
variable {w W W' : World} {gO : Nat} {P O : Array Value} {st : Value} {s : So} {fs : List Nat} {pv : Value} {pl : List Pn} {f2 : List Nat} {kv : Value} {kl : List Kt} {f3 : List Nat}
theorem KQ.below (h : KQ w W gO P O st s fs pv pl f2 kv kl f3) (hb : zW W W') : KQ w W' gO P O st s fs pv pl f2 kv kl f3 :=
 ⟨⟨h.1.1.trans (hb.mono h.1.1.size), h.1.2.1.below hb h.1.2.1.lt, h.1.2.2.1.below hb h.1.2.2.1.lt, h.1.2.2.2.1.below hb h.1.2.2.2.1.lt, h.1.2.2.2.2⟩, h.2.1.stays hb, h.2.2.1.stays hb, h.2.2.2.1.stays hb, h.2.2.2.2⟩
theorem KQ.nO (h : KQ w W gO P O st s fs pv pl f2 kv kl f3) : gO ∉ fs /\ gO ∉ f2 /\ gO ∉ f3 := by
 have h1 := (List.nodup_cons.1 h.2.2.2.2).1;exact ⟨fun q => h1 (List.mem_append_left _ q), fun q => h1 (List.mem_append_right _ (List.mem_append_left _ q)), fun q => h1 (List.mem_append_right _ (List.mem_append_right _ q))⟩
theorem KQ.dis (h : KQ w W gO P O st s fs pv pl f2 kv kl f3) : (∀ b ∈ fs, b ∉ f2 /\ b ∉ f3) /\ ∀ b ∈ f2, b ∉ f3 := by
 have h1 := List.nodup_append.1 (List.nodup_cons.1 h.2.2.2.2).2;have h2 := List.nodup_append.1 h1.2.1;exact ⟨fun b hb => ⟨fun q => h1.2.2 b hb b (List.mem_append_left _ q) rfl, fun q => h1.2.2 b hb b (List.mem_append_right _ q) rfl⟩, fun b hb q => h2.2.2 b hb b q rfl⟩
theorem KQ.setO (h : KQ w W gO P O st s fs pv pl f2 kv kl f3) (i : Nat) (v : Value) : KQ w (W.setCell ⟨gO, i, none⟩ v) gO P (O.setIfInBounds i v) st s fs pv pl f2 kv kl f3 := by
 have hn := h.nO;have hg := h.1.2.2.2.2;exact ⟨⟨Below.setCell h.1.1 (by show w.heap.size <= gO; omega) _, (heap_setCell_other _ _ _ _ (by show w.heap.size ≠ gO; omega)).trans h.1.2.1, (heap_setCell_other _ _ _ _ (by show w.heap.size + 1 ≠ gO; omega)).trans h.1.2.2.1, h.1.2.2.2.1.set i v, hg⟩,
  h.2.1.same fun b hb => heap_setCell_other _ _ _ _ (fun e => hn.1 (by have e2 : b = gO := e; rw [<- e2]; exact hb)), h.2.2.1.same fun b hb => heap_setCell_other _ _ _ _ (fun e => hn.2.1 (by have e2 : b = gO := e; rw [<- e2]; exact hb)), h.2.2.2.1.same fun b hb => heap_setCell_other _ _ _ _ (fun e => hn.2.2 (by have e2 : b = gO := e; rw [<- e2]; exact hb)), h.2.2.2.2⟩
theorem KQ.lts (h : KQ w W gO P O st s fs pv pl f2 kv kl f3) : gO < W.heap.size /\ (∀ b ∈ fs, b < W.heap.size) /\ (∀ b ∈ f2, b < W.heap.size) /\ ∀ b ∈ f3, b < W.heap.size := ⟨h.1.2.2.2.1.lt, fun b hb => (h.2.1.lt b hb).2, fun b hb => (h.2.2.1.lt b hb).2, fun b hb => (h.2.2.2.1.lt b hb).2⟩
theorem KQ.grownPl {W2 : World} {pv' : Value} {pl' : List Pn} {f2' : List Nat} {row : Option Nat} (h0 : KQ w W gO P O st s fs pv pl f2 kv kl f3) (hb : zW W W2) (hO : OwnS pnKd W' (w.heap.size + 2) pv' pl' f2') (hg : W2.grownBy W' row) (hr : ∀ q, row = some q -> q ∈ f2 ∨ W.heap.size <= q) (hf : ∀ b ∈ f2', b ∈ f2 ∨ W.heap.size <= b) :
  KQ w W' gO P O st s fs pv' pl' f2' kv kl f3 := by
 have h := h0.below hb;have hl := h0.lts;have hn := h0.nO;have hd := h0.dis;have h2 : ∀ b ∈ f2, w.heap.size + 2 <= b := fun b hb => (h0.2.2.1.lt b hb).1
 have hgO := h0.1.2.2.2.2;have hw := h0.1.1.size;have ne : ∀ b, (b = w.heap.size ∨ b = w.heap.size + 1 ∨ b = gO ∨ b ∈ fs ∨ b ∈ f3) -> row ≠ some b := fun b hb e => by
  have hb1 : b < W.heap.size := by
   rcases hb with rfl | rfl | rfl | hb | hb
   ·exact h0.1.2.1.lt
   ·exact h0.1.2.2.1.lt
   ·exact hl.1
   ·exact hl.2.1 b hb
   ·exact hl.2.2.2 b hb
  rcases hr b e with hq | hq
  ·have := h2 b hq
   rcases hb with rfl | rfl | rfl | hb | hb
   ·omega
   ·omega
   ·exact hn.2.1 hq
   ·exact (hd.1 b hb).1 hq
   ·exact hd.2 b hq hb
  ·omega
 refine ⟨⟨h.1.1.grown hg h.1.1.size (fun q e => ?_), (hg.block _ h.1.2.1.lt (fun e => ne _ (.inl rfl) e.symm)).trans h.1.2.1, (hg.block _ h.1.2.2.1.lt (fun e => ne _ (.inr (.inl rfl)) e.symm)).trans h.1.2.2.1, (hg.block _ h.1.2.2.2.1.lt (fun e => ne _ (.inr (.inr (.inl rfl))) e.symm)).trans h.1.2.2.2.1, hgO⟩, h.2.1.same fun b hb => hg.block _ (h.2.1.lt b hb).2 (fun e => ne _ (.inr (.inr (.inr (.inl hb)))) e.symm), hO, h.2.2.2.1.same fun b hb => hg.block _ (h.2.2.2.1.lt b hb).2 (fun e => ne _ (.inr (.inr (.inr (.inr hb)))) e.symm), ?_⟩
 ·rcases hr q e with hq | hq
  ·have := h2 q hq; omega
  ·omega
 ·rw [List.nodup_cons]
  refine ⟨fun hm => ?_, nodup_app h0.2.1.nodup (nodup_app hO.nodup h0.2.2.2.1.nodup fun y h1 h3 => ?_) fun y h1 h3 => ?_⟩
  ·rcases List.mem_append.1 hm with hm | hm
   ·exact hn.1 hm
   ·rcases List.mem_append.1 hm with hm | hm
    ·rcases hf _ hm with hq | hq
     ·exact hn.2.1 hq
     ·have := hl.1; omega
    ·exact hn.2.2 hm
  ·rcases hf _ h1 with hq | hq
   ·exact hd.2 y hq h3
   ·have := hl.2.2.2 y h3; omega
  ·rcases List.mem_append.1 h3 with h3 | h3
   ·rcases hf _ h3 with hq | hq
    ·exact (hd.1 y h1).1 hq
    ·have := hl.2.1 y h1; omega
   ·exact (hd.1 y h1).2 h3
theorem KQ.grownKt {W2 : World} {kv' : Value} {kl' : List Kt} {f3' : List Nat} {row : Option Nat} (h0 : KQ w W gO P O st s fs pv pl f2 kv kl f3) (hb : zW W W2) (hO : OwnS ktKd W' (w.heap.size + 2) kv' kl' f3') (hg : W2.grownBy W' row) (hr : ∀ q, row = some q -> q ∈ f3 ∨ W.heap.size <= q) (hf : ∀ b ∈ f3', b ∈ f3 ∨ W.heap.size <= b) :
  KQ w W' gO P O st s fs pv pl f2 kv' kl' f3' := by
 have h := h0.below hb;have hl := h0.lts;have hn := h0.nO;have hd := h0.dis;have h2 : ∀ b ∈ f3, w.heap.size + 2 <= b := fun b hb => (h0.2.2.2.1.lt b hb).1
 have hgO := h0.1.2.2.2.2;have hw := h0.1.1.size;have ne : ∀ b, (b = w.heap.size ∨ b = w.heap.size + 1 ∨ b = gO ∨ b ∈ fs ∨ b ∈ f2) -> row ≠ some b := fun b hb e => by
  have hb1 : b < W.heap.size := by
   rcases hb with rfl | rfl | rfl | hb | hb
   ·exact h0.1.2.1.lt
   ·exact h0.1.2.2.1.lt
   ·exact hl.1
   ·exact hl.2.1 b hb
   ·exact hl.2.2.1 b hb
  rcases hr b e with hq | hq
  ·have := h2 b hq
   rcases hb with rfl | rfl | rfl | hb | hb
   ·omega
   ·omega
   ·exact hn.2.2 hq
   ·exact (hd.1 b hb).2 hq
   ·exact hd.2 b hb hq
  ·omega
 refine ⟨⟨h.1.1.grown hg h.1.1.size (fun q e => ?_), (hg.block _ h.1.2.1.lt (fun e => ne _ (.inl rfl) e.symm)).trans h.1.2.1, (hg.block _ h.1.2.2.1.lt (fun e => ne _ (.inr (.inl rfl)) e.symm)).trans h.1.2.2.1, (hg.block _ h.1.2.2.2.1.lt (fun e => ne _ (.inr (.inr (.inl rfl))) e.symm)).trans h.1.2.2.2.1, hgO⟩, h.2.1.same fun b hb => hg.block _ (h.2.1.lt b hb).2 (fun e => ne _ (.inr (.inr (.inr (.inl hb)))) e.symm), h.2.2.1.same fun b hb => hg.block _ (h.2.2.1.lt b hb).2 (fun e => ne _ (.inr (.inr (.inr (.inr hb)))) e.symm), hO, ?_⟩
 ·rcases hr q e with hq | hq
  ·have := h2 q hq; omega
  ·omega
 ·rw [List.nodup_cons]
  refine ⟨fun hm => ?_, nodup_app h0.2.1.nodup (nodup_app h0.2.2.1.nodup hO.nodup fun y h1 h3 => ?_) fun y h1 h3 => ?_⟩
  ·rcases List.mem_append.1 hm with hm | hm
   ·exact hn.1 hm
   ·rcases List.mem_append.1 hm with hm | hm
    ·exact hn.2.1 hm
    ·rcases hf _ hm with hq | hq
     ·exact hn.2.2 hq
     ·have := hl.1; omega
  ·rcases hf _ h3 with hq | hq
   ·exact hd.2 y h1 hq
   ·have := hl.2.2.1 y h1; omega
  ·rcases List.mem_append.1 h3 with h3 | h3
   ·exact (hd.1 y h1).1 h3
   ·rcases hf _ h3 with hq | hq
    ·exact (hd.1 y h1).2 hq
    ·have := hl.2.1 y h1; omega
theorem KQ.madePl {pv' : Value} {f2' : List Nat} (h0 : KQ w W gO P O st s fs pv pl f2 kv kl f3) (hb : zW W W') (hO : OwnS pnKd W' W.heap.size pv' [] f2') : KQ w W' gO P O st s fs pv' [] f2' kv kl f3 :=
 KQ.grownPl (row := none) h0 hb (OwnS.base hO (by have := h0.lts.1; have := h0.1.2.2.2.2; omega)) (World.grownBy.refl _ _) (fun q e => by cases e) fun b hm => .inr (hO.lt b hm).1
end
theorem KQ.own {w W : World} {gO : Nat} {P O : Array Value} {x1 x2 x3 : Value} {s : Se} {fs : List Nat} {pv : Value} {f2 : List Nat} {kv : Value} {f3 : List Nat} (h : KQ w W gO P O (.agg #[x1, x2, x3]) s.store fs pv s.pl f2 kv s.kept f3) : OwnSe W (w.heap.size + 2) (.agg (zSe s x1 x2 x3 pv kv)) s (fs ++ (f2 ++ f3)) :=
 ⟨_, _, _, _, _, fs, f2, f3, rfl, h.2.1, h.2.2.1, h.2.2.2.1, rfl, (List.nodup_cons.1 h.2.2.2.2).2⟩
theorem wp_app_kt {w : World} {o : Oper} {a : Act} {K : Act -> World -> Prop} {Q : Exit -> Act -> World -> Prop} (p q : Operand) (ho : o.op = .call { callee := .builtin .append, args := #[p, q], argTypes := #[39, 39] })
  (base gB : Nat) (hp : a.eval p = zS (some ⟨gB, 0, none⟩) 0 0) (hown : w.ownsRow base 133 3 (zS (some ⟨gB, 0, none⟩) 0 0) 0 []) (u : Value) (l : List Kt) (hq : a.eval q = u) (hu : ShS ktKd w u l) (n : Nat) (hn : l.length = n) (hl : n <= 10000000) (hbase : base <= w.heap.size)
  (h : ∀ g cap w', OwnS ktKd w' base (zS (some ⟨g, 0, none⟩) n cap) l [g] -> (g = gB ∨ g = w.heap.size) -> w.grownBy w' (some gB) -> K (a.put o.dst (zS (some ⟨g, 0, none⟩) n cap)) w') : Oper.wp Tryz.prog o a w K Q := by
 subst hn;obtain ⟨i0, hi, hz0, hz1, hz2⟩ := info_parts infoKt;obtain ⟨us, hul, he, hv⟩ := hu.vals;have own : ∀ (w' : World) (g cap : Nat), w'.ownsRow base 133 3 (zS (some ⟨g, 0, none⟩) l.length cap) l.length (cellsV us) -> OwnS ktKd w' base (zS (some ⟨g, 0, none⟩) l.length cap) l [g] := fun w' g cap hr => by
  refine ⟨us, hul, hr, fun j h1 h2 => he j h1 h2, ?_, by simp⟩;have : us.flatMap ktKd.fp = [] := by rw [List.flatMap_eq_nil_iff]; intro x hx; rfl
  rw [this];rfl
 by_cases h0 : l.length = 0
 ·have hle : l = [] := List.eq_nil_of_length_eq_zero h0
  subst hle;have hue : us = [] := List.eq_nil_of_length_eq_zero hul;subst hue;have hsrc : Src Tryz.prog i0.size 39 u 0 [] w := by
   rcases hv with ⟨rfl, _⟩ | ⟨ad, cap, rfl, hc⟩
   ·exact Src.ofNil w Tryz.underlying39 0
   ·exact Src.ofSlice w Tryz.underlying39 ad 0 cap [] (by simp) (fun j x hx => by simp at hx) (fun x hx => by cases hx)
  have hr := run_append_room_src (P := Tryz.prog) w 39 39 o.type 133 i0 Tryz.underlying39 hi gB 0 0 0 u 0 [] hsrc (Nat.le_refl _) (fun j hj => by simp at hj) (fun j hj => by simp at hj);unfold Oper.wp execOp;simp only [ho, resolve, invoke, builtin, Sem.run_bind, Sem.run_pure, Result.andThen_ok, List.map_toArray, List.map_cons, List.map_nil, hp, hq, hr];exact h gB 0 w (own w gB 0 hown) (.inl rfl) (World.grownBy.refl _ _)
 ·rcases hv with ⟨_, rfl⟩ | ⟨ad, cap, rfl, hc⟩
  ·exact absurd rfl h0
  ·refine wp_append_lies w p q 39 ho base 133 i0 (.agg #[zG ⟨#[]⟩, zG ⟨#[]⟩, zI 0]) 3 40 Tryz.underlying39 hi hz0 hz1 hz2 rfl (by decide) _ 0 [] hp hown ad l.length cap (cellsV us) hq (len_of (k := ktKd) hul he) hc (ones_of (k := ktKd) hul he) (by omega) (by unfold maxLen; omega) (by omega) hbase _ rfl ?_
   intro g cap2 w' hown2 hgrow hg hlt;rw [Nat.zero_add] at hown2 |-;refine h g cap2 w' (own w' g cap2 hown2) ?_ hgrow
   rcases hg with hg | hg
   ·left
    simp [Value.ownBlock] at hg;exact hg.symm
   ·exact .inr hg
theorem wpList_app_kt {w : World} {ops : Array Oper} {rest : List Oper} {o : Oper} {a : Act} {Q : Exit -> Act -> World -> Prop} (hgd : o.guard = none) (p q : Operand) (ho : o.op = .call { callee := .builtin .append, args := #[p, q], argTypes := #[39, 39] })
  (base gB : Nat) (hp : a.eval p = zS (some ⟨gB, 0, none⟩) 0 0) (hown : w.ownsRow base 133 3 (zS (some ⟨gB, 0, none⟩) 0 0) 0 []) (u : Value) (l : List Kt) (hq : a.eval q = u) (hu : ShS ktKd w u l) (n : Nat) (hn : l.length = n) (hl : n <= 10000000) (hbase : base <= w.heap.size)
  (h : ∀ g cap w', OwnS ktKd w' base (zS (some ⟨g, 0, none⟩) n cap) l [g] -> (g = gB ∨ g = w.heap.size) -> w.grownBy w' (some gB) -> wpList Tryz.prog ops Q rest (a.put o.dst (zS (some ⟨g, 0, none⟩) n cap)) w') : wpList Tryz.prog ops Q (o :: rest) a w :=
 wpList_plain hgd fun _ hK => wp_app_kt p q ho base gB hp hown u l hq hu n hn hl hbase fun g cap w' h1 h2 h3 => hK _ _ (h g cap w' h1 h2 h3)
theorem ap_of {p e : Value} (h : ∀ b, p.ownBlock = some b -> e.ownBlock = some b -> False) : Ap p e /\ Ap e p := by
 constructor
 ·unfold Ap
  cases hp : p.ownBlock with
  | none => exact .inl rfl
  | some b => exact .inr (fun hh => h b hp hh.symm)
 ·unfold Ap
  cases hp : e.ownBlock with
  | none => exact .inl rfl
  | some b => exact .inr (fun hh => h b hh.symm hp)
theorem l17Copy_any (s : Se) (v : Value) (w : World) (hok : OkSe s) (h : SeSh w v s) : Calls Tryz.prog 43 #[v] w fun e w' => ∃ x fp, e = .returned x /\ OwnSe w' w.heap.size x s fp /\ zW w w' := by
 obtain ⟨iP, hiP, hzP0, hzP1, hzP2⟩ := info_parts infoPlan;obtain ⟨i3, hi3, hz30, hz31, hz32⟩ := info_parts info3;obtain ⟨a1, c1, a2, c2, a3, c3, a4, c4, a5, c5, rfl, h1, h2, h3⟩ := h;have CP : Hid (∀ W, zW w W -> Calls Tryz.prog 97 #[.agg #[zS a1 s.store.certs.length c1, zS a2 s.store.crls.length c2, zS a3 s.store.ancs.length c3]] W fun e w' => ∃ x1 y1 x2 y2 x3 y3 fp, e = .returned (.agg #[zS x1 s.store.certs.length y1, zS x2 s.store.crls.length y2, zS x3 s.store.ancs.length y3]) /\ OwnO w' W.heap.size (.agg #[zS x1 s.store.certs.length y1, zS x2 s.store.crls.length y2, zS x3 s.store.ancs.length y3]) s.store fp /\ zW W w') := fun W hb => l13Copy_any s.store _ W hok.1 (h1.below hb)
 obtain ⟨n1, e1⟩ := zE (s.store.certs.length);obtain ⟨n2, e2⟩ := zE (s.store.crls.length);obtain ⟨n3, e3⟩ := zE (s.store.ancs.length);obtain ⟨n4, e4⟩ := zE (s.pl.length);obtain ⟨n5, e5⟩ := zE (s.kept.length);rw [e1, e2, e3] at CP;rw [e4] at h2;rw [e5] at h3;rw [e1, e2, e3, e4, e5];have hl4 : n4 <= 2000000 := by rw [<- e4]; exact hok.2.1.1
 have hl5 : n5 <= 2000000 := by rw [<- e5]; exact hok.2.2.1
 have HX2 : Hid (ShS pnKd w (zS a4 n4 c4) s.pl /\ s.pl.length = n4 /\ ∀ p ∈ s.pl, wtPn p <= 2000000) := ⟨h2, e4, hok.2.1.2⟩;have HX3 : Hid (ShS ktKd w (zS a5 n5 c5) s.kept /\ s.kept.length = n5 /\ ∀ k ∈ s.kept, wtKt k <= 2000000) := ⟨h3, e5, hok.2.2.2⟩;clear h1 h2 h3 e1 e2 e3 e4 e5 hok;go_enter Tryz.func43, Tryz.ntmps43;go_wp2_with fail;obtain ⟨W0, hW0⟩ : ∃ W, W = (((w.alloc (Obj.cells (zSe s (zS a1 n1 c1) (zS a2 n2 c2) (zS a3 n3 c3) (zS a4 n4 c4) (zS a5 n5 c5)) 41)).alloc (Obj.cells #[zZ, zZ, zZ, zZ, zI 0, zI 0, zI 0, zZ] 41)).alloc (Obj.cells (zSe s (zS a1 n1 c1) (zS a2 n2 c2) (zS a3 n3 c3) (zS a4 n4 c4) (zS a5 n5 c5)) 41)) := ⟨_, rfl⟩;rw [<- hW0];have H0 : Hid (zW w W0 /\ Blk W0 w.heap.size 41 (zSe s (zS a1 n1 c1) (zS a2 n2 c2) (zS a3 n3 c3) (zS a4 n4 c4) (zS a5 n5 c5)) /\ Blk W0 (w.heap.size + 1) 41 #[zZ, zZ, zZ, zZ, zI 0, zI 0, zI 0, zZ] /\ Blk W0 (w.heap.size + 1 + 1) 41 (zSe s (zS a1 n1 c1) (zS a2 n2 c2) (zS a3 n3 c3) (zS a4 n4 c4) (zS a5 n5 c5)) /\ W0.heap.size = w.heap.size + 1 + 1 + 1) := by
  have e0 : (w.alloc (Obj.cells (zSe s (zS a1 n1 c1) (zS a2 n2 c2) (zS a3 n3 c3) (zS a4 n4 c4) (zS a5 n5 c5)) 41)).heap.size = w.heap.size + 1 := Array.size_push _;have e1 : ((w.alloc (Obj.cells (zSe s (zS a1 n1 c1) (zS a2 n2 c2) (zS a3 n3 c3) (zS a4 n4 c4) (zS a5 n5 c5)) 41)).alloc (Obj.cells #[zZ, zZ, zZ, zZ, zI 0, zI 0, zI 0, zZ] 41)).heap.size = w.heap.size + 1 + 1 := by rw [size_alloc, e0]
  rw [hW0];refine ⟨(((Below.refl _ _).alloc (Nat.le_refl _) _).alloc (by rw [e0]; omega) _).alloc (by rw [e1]; omega) _, ((Blk.new w _ _).alloc _).alloc _, ?_, ?_, by rw [size_alloc, e1]⟩
  ·have h := (Blk.new (w.alloc (Obj.cells (zSe s (zS a1 n1 c1) (zS a2 n2 c2) (zS a3 n3 c3) (zS a4 n4 c4) (zS a5 n5 c5)) 41)) 41 #[zZ, zZ, zZ, zZ, zI 0, zI 0, zI 0, zZ]).alloc (Obj.cells (zSe s (zS a1 n1 c1) (zS a2 n2 c2) (zS a3 n3 c3) (zS a4 n4 c4) (zS a5 n5 c5)) 41)
   rw [e0] at h;exact h
  ·have h := Blk.new ((w.alloc (Obj.cells (zSe s (zS a1 n1 c1) (zS a2 n2 c2) (zS a3 n3 c3) (zS a4 n4 c4) (zS a5 n5 c5)) 41)).alloc (Obj.cells #[zZ, zZ, zZ, zZ, zI 0, zI 0, zI 0, zZ] 41)) 41 (zSe s (zS a1 n1 c1) (zS a2 n2 c2) (zS a3 n3 c3) (zS a4 n4 c4) (zS a5 n5 c5))
   rw [e1] at h;exact h
 clear hW0;refine (CP.out W0 H0.1).mono ?_;rintro e w1 ⟨x1, y1, x2, y2, x3, y3, fs, rfl, ho, hb⟩;have K1 : Hid (KQ w w1 (w.heap.size + 1 + 1) (zSe s (zS a1 n1 c1) (zS a2 n2 c2) (zS a3 n3 c3) (zS a4 n4 c4) (zS a5 n5 c5)) (zSe s (zS a1 n1 c1) (zS a2 n2 c2) (zS a3 n3 c3) (zS a4 n4 c4) (zS a5 n5 c5)) (.agg #[zS x1 n1 y1, zS x2 n2 y2, zS x3 n3 y3]) s.store fs zZ [] [] zZ [] []) := by
  have h4 := H0.2.2.2.2;refine ⟨⟨Below.on H0.1 hb H0.1.size, H0.2.1.below hb H0.2.1.lt, H0.2.2.1.below hb H0.2.2.1.lt, H0.2.2.2.1.below hb H0.2.2.2.1.lt, by omega⟩, ho.base (by omega), OwnS.nil _ _ _, OwnS.nil _ _ _, ?_⟩;rw [List.append_nil, List.append_nil, List.nodup_cons];exact ⟨fun hm => by have := (ho.lt _ hm).1; omega, ho.nodup⟩
 clear ho hb H0 CP;have hth : w1.there (w.heap.size + 1 + 1) 0 3 := fun j hj => (K1.1.2.2.2.1.there (n := 8) rfl) j (by omega)
 obtain ⟨V1, hV1⟩ : ∃ V, V = w1.setCells (w.heap.size + 1 + 1) 0 #[zS x1 n1 y1, zS x2 n2 y2, zS x3 n3 y3].toList := ⟨_, rfl⟩;have K2 : Hid (KQ w V1 (w.heap.size + 1 + 1) (zSe s (zS a1 n1 c1) (zS a2 n2 c2) (zS a3 n3 c3) (zS a4 n4 c4) (zS a5 n5 c5)) (zSe s (zS x1 n1 y1) (zS x2 n2 y2) (zS x3 n3 y3) (zS a4 n4 c4) (zS a5 n5 c5)) (.agg #[zS x1 n1 y1, zS x2 n2 y2, zS x3 n3 y3]) s.store fs zZ [] [] zZ [] []) := by
  rw [hV1];exact ((K1.setO 0 _).setO 1 _).setO 2 _
 clear K1;go_upto_region 3 with (refine step_storeV rfl 37 _ _ rfl (w.heap.size + 1 + 1) 0 #[zS x1 n1 y1, zS x2 n2 y2, zS x3 n3 y3] rfl rfl hth (by kernel_rfl) (by simp [Value.oneCell']) hV1 ?_; clear hV1 hth)
 have q3 : (V1.alloc (Obj.cells #[] 127)).cell? ⟨w.heap.size + 1 + 1, 3, none⟩ = some (zS a4 n4 c4) := (K2.1.2.2.2.1.alloc _).cell 3;have qf : (V1.alloc (Obj.cells #[] 127)).frozen? ⟨w.heap.size + 1 + 1, 3, none⟩ = false := (K2.1.2.2.2.1.alloc _).free 3;go_upto_region 4 with fail;obtain ⟨V2, hV2⟩ : ∃ V, V = (V1.alloc (Obj.cells #[] 127)).setCell ⟨w.heap.size + 1 + 1, 3, none⟩ (zS (some ⟨V1.heap.size, 0, none⟩) 0 0) := ⟨_, rfl⟩;rw [<- hV2];have K3 : Hid (KQ w V2 (w.heap.size + 1 + 1) (zSe s (zS a1 n1 c1) (zS a2 n2 c2) (zS a3 n3 c3) (zS a4 n4 c4) (zS a5 n5 c5)) (zSe s (zS x1 n1 y1) (zS x2 n2 y2) (zS x3 n3 y3) (zS (some ⟨V1.heap.size, 0, none⟩) 0 0) (zS a5 n5 c5)) (.agg #[zS x1 n1 y1, zS x2 n2 y2, zS x3 n3 y3]) s.store fs (zS (some ⟨V1.heap.size, 0, none⟩) 0 0) [] [V1.heap.size] zZ [] []) := by
  rw [hV2];exact (KQ.madePl K2.out ((Below.refl _ _).alloc (Nat.le_refl _) _) (OwnS.made pnKd V1 V1.heap.size (Nat.le_refl _))).setO 3 _
 clear K2 hV2 q3 qf;go_wp2_with fail
 go_loopw [4] (fun iv wr => ∃ k : Nat, k <= n4 /\ iv = zI k /\ ∃ g m f2, Hid (KQ w wr (w.heap.size + 1 + 1) (zSe s (zS a1 n1 c1) (zS a2 n2 c2) (zS a3 n3 c3) (zS a4 n4 c4) (zS a5 n5 c5)) (zSe s (zS x1 n1 y1) (zS x2 n2 y2) (zS x3 n3 y3) (zS (some ⟨g, 0, none⟩) k m) (zS a5 n5 c5)) (.agg #[zS x1 n1 y1, zS x2 n2 y2, zS x3 n3 y3]) s.store fs (zS (some ⟨g, 0, none⟩) k m) (s.pl.take k) f2 zZ [] [])) (fun iv _ => n4 - (intOf iv).toNat)
 case atStart => exact ⟨0, Nat.zero_le _, rfl, _, _, _, K3⟩
 case round =>
  clear K3;obtain ⟨k, hk, rfl, gp, m, f2, H⟩ := hrel;have z3 : wr.cell? ⟨w.heap.size, 3, none⟩ = some (zS a4 n4 c4) := H.1.2.1.cell 3;by_cases hkn : k < n4
  ·have hkl : k < s.pl.length := by rw [HX2.2.1]; exact hkn
   obtain ⟨b, o, u, hax, hg, hP, hs, hc⟩ := HX2.1.get hkl;obtain ⟨p1, q1, e1, r1, hu⟩ := PnAt.shape (OwnPn.at hP);subst hax;obtain ⟨x, hx⟩ := zE (s.pl[k]);have hxw := wtPn_lens (HX2.2.2 _ (List.getElem_mem hkl));have HN : Hid (s.pl.take (k + 1) = s.pl.take k ++ [x] /\ (s.pl.take k).length = k) := ⟨by rw [<- hx]; exact List.take_succ_eq_append_getElem hkl, by rw [List.length_take]; omega⟩;have hPw := pnKd.same hP (fun y hy => H.1.1.block y (pnKd.lt hP y hy).2);rw [hx] at hu hPw hxw;obtain ⟨l1, hl1⟩ := zE (x.anc.length);obtain ⟨l2, hl2⟩ := zE (x.ru.pol.length);rw [hl1, hl2] at hu;have hrg0 := fun i z (hz : u.cells[i]? = some z) => (H.1.1.cell (p := ⟨b, o + k * 7 + i, none⟩) (by show b < w.heap.size; exact hg)).trans (hc i z hz)
   subst hu;have HOX : Hid (OwnI wr 0 (zS p1 l1 q1) x.anc /\ OwnI wr 0 (zS e1 l2 r1) x.ru.pol /\ x.anc.length = l1 /\ x.ru.pol.length = l2 /\ l1 <= 2000000 /\ l2 <= 2000000) := by
    obtain ⟨pv, ev, hv2, h1, h2, _⟩ := hPw;unfold pnV at hv2;injection hv2 with hv2
    simp only [Array.mk.injEq, List.cons.injEq, Value.int.injEq, Value.bool.injEq, and_true, true_and] at hv2;obtain ⟨rfl, rfl⟩ := hv2;exact ⟨h1, h2, hl1, hl2, by omega, by omega⟩
   have hrg : wr.rangeAt b (o + k * 7) (zPn x (zS p1 l1 q1) (zS e1 l2 r1)).toList := fun j y hy => hrg0 j y (by rw [<- hy]; exact Array.getElem?_toList.symm)
   have hki : (k : Int) < (n4 : Int) := by omega
   have hk0 : (0 : Int) <= (k : Int) := by omega
   clear hP hPw hrg0 hs hc hx hg hl1 hl2 hxw;obtain ⟨V3, hV3⟩ : ∃ W, W = wr.alloc (Obj.cells (zPn x (zS p1 l1 q1) (zS e1 l2 r1)) 127) := ⟨_, rfl⟩;have HV3 : Hid (zW wr V3 /\ Blk V3 wr.heap.size 127 (zPn x (zS p1 l1 q1) (zS e1 l2 r1)) /\ True) := by rw [hV3]; exact ⟨(Below.refl _ _).alloc (Nat.le_refl _) _, Blk.new wr _ _, trivial⟩
   go_upto_region 8 with (refine wpList_load_mid rfl 127 _ rfl b (o + k * 7) rfl _ _ hrg Tryz.underlying127 rfl (by kernel_rfl) ?_)
   rw [<- hV3];clear hV3 hrg;have d1 : (V3.alloc (Obj.cells #[] 3)).cell? ⟨wr.heap.size, 1, none⟩ = some (zS p1 l1 q1) := (HV3.2.1.alloc _).cell 1;obtain ⟨V4, hV4⟩ : ∃ W, W = V3.alloc (Obj.cells #[] 3) := ⟨_, rfl⟩;have HV4 : Hid (zW wr V4 /\ Blk V4 wr.heap.size 127 (zPn x (zS p1 l1 q1) (zS e1 l2 r1)) /\ V4.ownsRow (wr.heap.size + 1) 3 1 (zS (some ⟨V3.heap.size, 0, none⟩) 0 0) 0 [] /\ OwnI V4 0 (zS p1 l1 q1) x.anc /\ wr.heap.size < V3.heap.size) := by
    have hb : zW V3 V4 := by rw [hV4]; exact (Below.refl _ _).alloc (Nat.le_refl _) _
    refine ⟨HV3.1.trans (hb.mono HV3.1.size), HV3.2.1.below hb HV3.2.1.lt, by rw [hV4]; exact World.ownsRow_made (base := (wr.heap.size + 1)) (e := 3) (size := 1) V3 #[] 0 (HV3.2.1.lt) (Nat.zero_le _) rfl, OwnI.stays (HOX.1.stays HV3.1) hb, HV3.2.1.lt⟩
   go_wp2_with (at_builtin; rw [<- hV4]; refine wpList_append_ints2 rfl _ _ 45 rfl (wr.heap.size + 1) i3 Tryz.underlying45 hi3 hz30 hz31 hz32 (zS (some ⟨V3.heap.size, 0, none⟩) 0 0) 0 [] rfl HV4.2.2.1 (zS p1 l1 q1) x.anc 0 HV4.2.2.2.1 rfl (by have := HOX.2.2; omega) (Nat.le_trans (HV4.2.2.1.lt _ rfl).1 (Nat.le_of_lt (HV4.2.2.1.lt _ rfl).2)) ?_);intro v1 w5 ho1 hg1
   try rw [<- hV4] at hg1
   have Hw5 : Hid (zW wr w5 /\ Blk w5 wr.heap.size 127 (zPn x (zS p1 l1 q1) (zS e1 l2 r1)) /\ OwnI w5 (wr.heap.size + 1) v1 x.anc) := by
    have hrl : ∀ b, some V3.heap.size = some b -> V3.heap.size = b := fun b hb => Option.some.inj hb
    refine ⟨HV4.1.grown hg1 HV4.1.size (fun b hb => by have := hrl b hb; have := HV4.2.2.2.2; omega), (hg1.block _ HV4.2.1.lt (fun e => by have := hrl _ e.symm; have := HV4.2.2.2.2; omega)).trans HV4.2.1, by simpa [OwnI] using ho1⟩
   clear ho1 hg1 d1 HV4 hV4;obtain ⟨qa, qc, hq1⟩ : ∃ ao cap, v1 = zS ao x.anc.length cap := by obtain ⟨ao, cap, h, _⟩ := Hw5.2.2.at; exact ⟨ao, cap, h⟩
   rw [HOX.2.2.1] at hq1;subst hq1;have d1 : w5.cell? ⟨wr.heap.size, 1, none⟩ = some (zS p1 l1 q1) := Hw5.2.1.cell 1;have g1 : w5.frozen? ⟨wr.heap.size, 1, none⟩ = false := Hw5.2.1.free 1;go_upto_region 9 with fail;obtain ⟨V5, hV5⟩ : ∃ W, W = w5.setCell ⟨wr.heap.size, 1, none⟩ (zS qa l1 qc) := ⟨_, rfl⟩;rw [<- hV5];have HV5 : Hid (zW wr V5 /\ Blk V5 wr.heap.size 127 (zPn x (zS qa l1 qc) (zS e1 l2 r1)) /\ OwnI V5 (wr.heap.size + 1) (zS qa l1 qc) x.anc) := by
    rw [hV5];exact ⟨Below.setCell Hw5.1 (Nat.le_refl _) _, Hw5.2.1.set 1 _, row_same Hw5.2.2 fun b hb => heap_setCell_other _ _ _ _ (by have := (World.ownsRow.lt Hw5.2.2 b hb).1; show b ≠ wr.heap.size; omega)⟩
   clear hV5 Hw5 d1 g1;have APT : Hid (∀ b, (Value.slice qa l1 qc).ownBlock = some b -> b < V5.heap.size /\ wr.heap.size + 1 <= b) := fun b hb => ⟨(World.ownsRow.lt HV5.2.2 b hb).2, (World.ownsRow.lt HV5.2.2 b hb).1⟩
   have d2 : (V5.alloc (Obj.cells #[] 3)).cell? ⟨wr.heap.size, 3, none⟩ = some (zS e1 l2 r1) := (HV5.2.1.alloc _).cell 3;obtain ⟨V6, hV6⟩ : ∃ W, W = V5.alloc (Obj.cells #[] 3) := ⟨_, rfl⟩;have HV6 : Hid (zW wr V6 /\ Blk V6 wr.heap.size 127 (zPn x (zS qa l1 qc) (zS e1 l2 r1)) /\ V6.ownsRow V5.heap.size 3 1 (zS (some ⟨V5.heap.size, 0, none⟩) 0 0) 0 [] /\ OwnI V6 0 (zS e1 l2 r1) x.ru.pol /\ wr.heap.size < V5.heap.size /\ OwnI V6 (wr.heap.size + 1) (zS qa l1 qc) x.anc) := by
    have hb : zW V5 V6 := by rw [hV6]; exact (Below.refl _ _).alloc (Nat.le_refl _) _
    refine ⟨HV5.1.trans (hb.mono HV5.1.size), HV5.2.1.below hb HV5.2.1.lt, by rw [hV6]; exact World.ownsRow_made (base := V5.heap.size) (e := 3) (size := 1) V5 #[] 0 (Nat.le_refl _) (Nat.zero_le _) rfl, OwnI.stays (HOX.2.1.stays HV5.1) hb, HV5.2.1.lt, OwnI.stays HV5.2.2 hb⟩
   go_wp2_with (at_builtin; rw [<- hV6]; refine wpList_append_ints2 rfl _ _ 45 rfl V5.heap.size i3 Tryz.underlying45 hi3 hz30 hz31 hz32 (zS (some ⟨V5.heap.size, 0, none⟩) 0 0) 0 [] rfl HV6.2.2.1 (zS e1 l2 r1) x.ru.pol 0 HV6.2.2.2.1 rfl (by have := HOX.2.2; omega) (Nat.le_trans (HV6.2.2.1.lt _ rfl).1 (Nat.le_of_lt (HV6.2.2.1.lt _ rfl).2)) ?_);intro v2 w7 ho2 hg2
   try rw [<- hV6] at hg2
   have Hw7 : Hid (zW wr w7 /\ Blk w7 wr.heap.size 127 (zPn x (zS qa l1 qc) (zS e1 l2 r1)) /\ OwnI w7 V5.heap.size v2 x.ru.pol /\ OwnI w7 (wr.heap.size + 1) (zS qa l1 qc) x.anc) := by
    have hrl : ∀ b, some V5.heap.size = some b -> V5.heap.size = b := fun b hb => Option.some.inj hb
    refine ⟨HV6.1.grown hg2 HV6.1.size (fun b hb => by have := hrl b hb; have := HV6.2.2.2.2.1; omega), (hg2.block _ HV6.2.1.lt (fun e => by have := hrl _ e.symm; have := HV6.2.2.2.2.1; omega)).trans HV6.2.1, by simpa [OwnI] using ho2, row_same HV6.2.2.2.2.2 fun b hb => hg2.block b (World.ownsRow.lt HV6.2.2.2.2.2 b hb).2 (fun e => by have := hrl _ e.symm; have := APT.out b hb; omega)⟩
   clear ho2 hg2 d2 HV6 hV6;obtain ⟨ra, rc, hq2⟩ : ∃ ao cap, v2 = zS ao x.ru.pol.length cap := by obtain ⟨ao, cap, h, _⟩ := Hw7.2.2.1.at; exact ⟨ao, cap, h⟩
   rw [HOX.2.2.2.1] at hq2;subst hq2;have d2 : w7.cell? ⟨wr.heap.size, 3, none⟩ = some (zS e1 l2 r1) := Hw7.2.1.cell 3;have g2 : w7.frozen? ⟨wr.heap.size, 3, none⟩ = false := Hw7.2.1.free 3;go_upto_region 10 with fail;obtain ⟨V7, hV7⟩ : ∃ W, W = w7.setCell ⟨wr.heap.size, 3, none⟩ (zS ra l2 rc) := ⟨_, rfl⟩;rw [<- hV7];have HV7 : Hid (zW wr V7 /\ Blk V7 wr.heap.size 127 (zPn x (zS qa l1 qc) (zS ra l2 rc)) /\ OwnPn V7 (wr.heap.size + 1) (.agg (zPn x (zS qa l1 qc) (zS ra l2 rc))) x) := by
    have hlt5 : wr.heap.size < V5.heap.size := HV5.2.1.lt;have hlo := fun b hb => (World.ownsRow.lt Hw7.2.2.1 b hb).1
    rw [hV7];refine ⟨Below.setCell Hw7.1 (Nat.le_refl _) _, Hw7.2.1.set 3 _, _, _, rfl, row_same Hw7.2.2.2 fun b hb => heap_setCell_other _ _ _ _ (by have := (APT.out b hb).2; show b ≠ wr.heap.size; omega), OwnI.base (row_same Hw7.2.2.1 fun b hb => heap_setCell_other _ _ _ _ (by have := hlo b hb; show b ≠ wr.heap.size; omega)) (by omega), ?_⟩;exact ap_of fun b h1 h2 => by have := (APT.out b h1).1; have := hlo b h2; omega
   clear hV7 Hw7 d2 g2 HV5 APT;have yp : V7.cell? ⟨w.heap.size + 1 + 1, 3, none⟩ = some (zS (some ⟨gp, 0, none⟩) k m) := ((H.below HV7.1).1.2.2.2.1).cell 3;have hrg7 : V7.rangeAt wr.heap.size 0 (zPn x (zS qa l1 qc) (zS ra l2 rc)).toList := HV7.2.1.range;obtain ⟨V8, hV8⟩ : ∃ W, W = V7.alloc (Obj.cells (zPn x (zS qa l1 qc) (zS ra l2 rc)) 127) := ⟨_, rfl⟩;have H8 : Hid (zW wr V8 /\ OwnPn V8 (wr.heap.size + 1) (.agg (zPn x (zS qa l1 qc) (zS ra l2 rc))) x /\ V8.rangeAt V7.heap.size 0 (Value.agg (zPn x (zS qa l1 qc) (zS ra l2 rc))).cells.toList /\ V7.heap.size < V8.heap.size) := by
    have hb : zW V7 V8 := by rw [hV8]; exact (Below.refl _ _).alloc (Nat.le_refl _) _
    exact ⟨HV7.1.trans (hb.mono HV7.1.size), HV7.2.2.stays hb, by rw [hV8]; exact (Blk.new V7 127 (zPn x (zS qa l1 qc) (zS ra l2 rc))).range, by rw [hV8, size_alloc]; omega⟩
   have H8O : Hid (OwnS pnKd V8 (w.heap.size + 2) (zS (some ⟨gp, 0, none⟩) k m) (s.pl.take k) f2) := (H.below H8.1).2.2.1;have hbase8 : w.heap.size + 2 <= wr.heap.size := by have h5 := H.1.2.2.2.2; have h6 := H.lts.1; omega
   have hd8 : ∀ y ∈ pnKd.fp (.agg (zPn x (zS qa l1 qc) (zS ra l2 rc))), y ∉ f2 := fun y h1 h2 => by
    have g1 := (fpPn_lt H8.2.1 y h1).1;have g2 := H.lts.2.2.1 y h2;omega
   go_wp2_with (first | refine wpList_load_mid rfl 127 _ rfl wr.heap.size 0 rfl _ _ hrg7 Tryz.underlying127 rfl (by kernel_rfl) ?_ | (at_builtin; rw [<- hV8]; refine wpList_app pnKd rfl _ _ 38 rfl iP (.agg #[zI 0, zZ, zI 0, zZ, .bool false, .bool false, zI 0]) 80 Tryz.underlying38 hiP hzP0 hzP1 hzP2 rfl (by decide) (w.heap.size + 2) (zS (some ⟨gp, 0, none⟩) k m) (s.pl.take k) f2 x (.agg (zPn x (zS qa l1 qc) (zS ra l2 rc))) rfl V7.heap.size rfl H8.2.2.1 H8O.out (OwnPn.base H8.2.1 (by omega)) hd8 (Nat.le_trans hbase8 H8.1.size) k HN.2 (by omega) ?_));intro g6 cap6 w6 fp6 hG6 hgrow6 hf6
   try rw [<- hV8] at hgrow6
   try rw [<- hV8] at hf6
   have K6 : Hid (KQ w w6 (w.heap.size + 1 + 1) (zSe s (zS a1 n1 c1) (zS a2 n2 c2) (zS a3 n3 c3) (zS (some ⟨b, o, none⟩) n4 c4) (zS a5 n5 c5)) (zSe s (zS x1 n1 y1) (zS x2 n2 y2) (zS x3 n3 y3) (zS (some ⟨gp, 0, none⟩) k m) (zS a5 n5 c5)) (.agg #[zS x1 n1 y1, zS x2 n2 y2, zS x3 n3 y3]) s.store fs (zS (some ⟨g6, 0, none⟩) (k + 1) cap6) (s.pl.take (k + 1)) fp6 zZ [] []) := by
    rw [HN.1];refine KQ.grownPl H.out H8.1 hG6 hgrow6 (fun q e => ?_) fun b hb => ?_
    ·obtain ⟨_, _, hr9, _, hf9, _⟩ := H8O.out
     exact .inl (by rw [hf9]; exact List.mem_append_left _ (Option.mem_toList.2 e))
    ·rcases hf6 b hb with h | h | h
     ·exact .inl h
     ·exact .inr (by have := (fpPn_lt H8.2.1 b h).1; omega)
     ·exact .inr (by have := H8.1.size; have := H8.2.2.2; have := HV7.1.size; omega)
   clear hG6 hgrow6 hf6 H8O H8 hV8 hd8 yp hrg7 HV7 H;have yp : w6.cell? ⟨w.heap.size + 1 + 1, 3, none⟩ = some (zS (some ⟨gp, 0, none⟩) k m) := K6.1.2.2.2.1.cell 3;have yf : w6.frozen? ⟨w.heap.size + 1 + 1, 3, none⟩ = false := K6.1.2.2.2.1.free 3;go_wp2_with fail;exact ⟨⟨k + 1, by omega, by go_num, g6, cap6, fp6, K6.setO 3 _⟩, by simp [intOf]; omega⟩
  ·have hkl : n4 = k := by omega
   subst hkl;have HE : Hid (KQ w wr (w.heap.size + 1 + 1) (zSe s (zS a1 n1 c1) (zS a2 n2 c2) (zS a3 n3 c3) (zS a4 n4 c4) (zS a5 n5 c5)) (zSe s (zS x1 n1 y1) (zS x2 n2 y2) (zS x3 n3 y3) (zS (some ⟨gp, 0, none⟩) n4 m) (zS a5 n5 c5)) (.agg #[zS x1 n1 y1, zS x2 n2 y2, zS x3 n3 y3]) s.store fs (zS (some ⟨gp, 0, none⟩) n4 m) s.pl f2 zZ [] []) := by
    have h := H.out;rw [List.take_of_length_le (by rw [HX2.2.1]; exact Nat.le_refl _)] at h;exact h
   clear H;have hnk : ¬ ((n4 : Int) < (n4 : Int)) := by omega
   have z7 : (wr.alloc (Obj.cells #[] 133)).cell? ⟨w.heap.size, 7, none⟩ = some (zS a5 n5 c5) := (HE.1.2.1.alloc _).cell 7;obtain ⟨V9, hV9⟩ : ∃ W, W = wr.alloc (Obj.cells #[] 133) := ⟨_, rfl⟩;have hlts := HE.1.2.2.2.1.lt;have H9 : Hid (zW wr V9 /\ V9.ownsRow (w.heap.size + 2) 133 3 (zS (some ⟨wr.heap.size, 0, none⟩) 0 0) 0 [] /\ ShS ktKd V9 (zS a5 n5 c5) s.kept /\ w.heap.size + 2 <= V9.heap.size) := by
    have hb : zW wr V9 := by rw [hV9]; exact (Below.refl _ _).alloc (Nat.le_refl _) _
    refine ⟨hb, by rw [hV9]; exact World.ownsRow_made (base := w.heap.size + 2) (e := 133) (size := 3) wr #[] 0 (by omega) (Nat.zero_le _) rfl, HX3.1.below (HE.below hb).1.1, ?_⟩;have := hb.size;omega
   go_wp2_with (at_builtin; rw [<- hV9]; refine wpList_app_kt rfl _ _ rfl (w.heap.size + 2) wr.heap.size rfl H9.2.1 (zS a5 n5 c5) s.kept rfl H9.2.2.1 n5 HX3.2.1 (by omega) H9.2.2.2 ?_);intro g7 cap7 w7 hO7 hg7 hgrow7
   try rw [<- hV9] at hgrow7
   have K7 : Hid (KQ w w7 (w.heap.size + 1 + 1) (zSe s (zS a1 n1 c1) (zS a2 n2 c2) (zS a3 n3 c3) (zS a4 n4 c4) (zS a5 n5 c5)) (zSe s (zS x1 n1 y1) (zS x2 n2 y2) (zS x3 n3 y3) (zS (some ⟨gp, 0, none⟩) n4 m) (zS a5 n5 c5)) (.agg #[zS x1 n1 y1, zS x2 n2 y2, zS x3 n3 y3]) s.store fs (zS (some ⟨gp, 0, none⟩) n4 m) s.pl f2 (zS (some ⟨g7, 0, none⟩) n5 cap7) s.kept [g7]) := by
    refine KQ.grownKt HE.out H9.1 hO7 hgrow7 (fun q e => .inr (by have := Option.some.inj e; omega)) fun b hb => .inr ?_
    rw [List.mem_singleton.1 hb];have := H9.1.size
    rcases hg7 with h | h <;> omega
   clear hO7 hg7 hgrow7 H9 hV9 z7 z3 HE;have y7 : w7.cell? ⟨w.heap.size + 1 + 1, 7, none⟩ = some (zS a5 n5 c5) := K7.1.2.2.2.1.cell 7;have yf : w7.frozen? ⟨w.heap.size + 1 + 1, 7, none⟩ = false := K7.1.2.2.2.1.free 7;go_upto_region 12 with fail;obtain ⟨V, hV⟩ : ∃ W, W = w7.setCell ⟨w.heap.size + 1 + 1, 7, none⟩ (zS (some ⟨g7, 0, none⟩) n5 cap7) := ⟨_, rfl⟩;rw [<- hV];have KV : Hid (KQ w V (w.heap.size + 1 + 1) (zSe s (zS a1 n1 c1) (zS a2 n2 c2) (zS a3 n3 c3) (zS a4 n4 c4) (zS a5 n5 c5)) (zSe s (zS x1 n1 y1) (zS x2 n2 y2) (zS x3 n3 y3) (zS (some ⟨gp, 0, none⟩) n4 m) (zS (some ⟨g7, 0, none⟩) n5 cap7)) (.agg #[zS x1 n1 y1, zS x2 n2 y2, zS x3 n3 y3]) s.store fs (zS (some ⟨gp, 0, none⟩) n4 m) s.pl f2 (zS (some ⟨g7, 0, none⟩) n5 cap7) s.kept [g7]) := by
    rw [hV];exact K7.setO 7 _
   clear hV K7 y7 yf;have hrg : V.rangeAt (w.heap.size + 1 + 1) 0 (zSe s (zS x1 n1 y1) (zS x2 n2 y2) (zS x3 n3 y3) (zS (some ⟨gp, 0, none⟩) n4 m) (zS (some ⟨g7, 0, none⟩) n5 cap7)).toList := KV.1.2.2.2.1.range;have hth : V.there (w.heap.size + 1) 0 8 := KV.1.2.2.1.there rfl;obtain ⟨V2, hV2⟩ : ∃ W, W = V.setCells (w.heap.size + 1) 0 (zSe s (zS x1 n1 y1) (zS x2 n2 y2) (zS x3 n3 y3) (zS (some ⟨gp, 0, none⟩) n4 m) (zS (some ⟨g7, 0, none⟩) n5 cap7)).toList := ⟨_, rfl⟩;have HF : Hid (OwnSe V2 w.heap.size (.agg (zSe s (zS x1 n1 y1) (zS x2 n2 y2) (zS x3 n3 y3) (zS (some ⟨gp, 0, none⟩) n4 m) (zS (some ⟨g7, 0, none⟩) n5 cap7))) s (fs ++ (f2 ++ [g7])) /\ zW w V2 /\ Blk V2 (w.heap.size + 1) 41 (zSe s (zS x1 n1 y1) (zS x2 n2 y2) (zS x3 n3 y3) (zS (some ⟨gp, 0, none⟩) n4 m) (zS (some ⟨g7, 0, none⟩) n5 cap7))) := by
    have ho := setCells_out (zSe s (zS x1 n1 y1) (zS x2 n2 y2) (zS x3 n3 y3) (zS (some ⟨gp, 0, none⟩) n4 m) (zS (some ⟨g7, 0, none⟩) n5 cap7)).toList V (w.heap.size + 1) 0;have hw := KV.own;rw [hV2];refine ⟨(hw.out ho fun b hb hm => ?_).base (by omega), Below.out KV.1.1 ho (fun b hb => by rw [List.mem_singleton.1 hb]; omega) KV.1.1.size, Blk.setAll KV.1.2.2.1 rfl⟩;have h1 := (hw.lt b hb).1;rw [List.mem_singleton.1 hm] at h1;omega
   go_wp2_with (first | refine wpList_load_mid rfl 41 _ rfl (w.heap.size + 1 + 1) 0 rfl _ _ hrg Tryz.underlying41 rfl (by kernel_rfl) ?_ | (refine step_storeV rfl 41 _ _ rfl (w.heap.size + 1) 0 #[zS x1 n1 y1, zS x2 n2 y2, zS x3 n3 y3, zS (some ⟨gp, 0, none⟩) n4 m, zI s.house, zI s.now, zI s.fresh, zS (some ⟨g7, 0, none⟩) n5 cap7] rfl rfl hth (by kernel_rfl) (by simp [Value.oneCell']) hV2 ?_; clear hV2 hth));have r0 : V2.cell? ⟨w.heap.size + 1, 0, none⟩ = some (zS x1 n1 y1) := HF.2.2.cell 0;have r1 : V2.cell? ⟨w.heap.size + 1, 1, none⟩ = some (zS x2 n2 y2) := HF.2.2.cell 1;have r2 : V2.cell? ⟨w.heap.size + 1, 2, none⟩ = some (zS x3 n3 y3) := HF.2.2.cell 2;have r3 : V2.cell? ⟨w.heap.size + 1, 3, none⟩ = some (zS (some ⟨gp, 0, none⟩) n4 m) := HF.2.2.cell 3;have r4 : V2.cell? ⟨w.heap.size + 1, 4, none⟩ = some (zI s.house) := HF.2.2.cell 4;have r5 : V2.cell? ⟨w.heap.size + 1, 5, none⟩ = some (zI s.now) := HF.2.2.cell 5;have r6 : V2.cell? ⟨w.heap.size + 1, 6, none⟩ = some (zI s.fresh) := HF.2.2.cell 6;have r7 : V2.cell? ⟨w.heap.size + 1, 7, none⟩ = some (zS (some ⟨g7, 0, none⟩) n5 cap7) := HF.2.2.cell 7
   try clear hrg
   refine bodyPost_ret (v := .agg (zSe s (zS x1 n1 y1) (zS x2 n2 y2) (zS x3 n3 y3) (zS (some ⟨gp, 0, none⟩) n4 m) (zS (some ⟨g7, 0, none⟩) n5 cap7))) (by simp [results, Tryz.results43, go_sem, r0, r1, r2, r3, r4, r5, r6, r7]) rfl (by first | exact ⟨_, _, rfl, HF.1, HF.2.1⟩ | exact ⟨_, rfl, ⟨_, HF.1⟩, HF.2.1⟩)
def KE (w W : World) (P : Array Value) : Prop := zW w W /\ Blk W w.heap.size 41 P /\ Blk W (w.heap.size + 1) 41 #[zZ, zZ, zZ, zZ, zI 0, zI 0, zI 0, zZ] /\ w.heap.size + 2 <= W.heap.size
theorem KE.below {w W W' : World} {P : Array Value} (h : KE w W P) (hb : zW W W') : KE w W' P := ⟨h.1.trans (hb.mono h.1.size), h.2.1.below hb h.2.1.lt, h.2.2.1.below hb h.2.2.1.lt, Nat.le_trans h.2.2.2 hb.size⟩
theorem KE.out {w W W' : World} {P : Array Value} {g : Nat} (h : KE w W P) (ho : Out [g] W W') (hg : w.heap.size + 2 <= g) : KE w W' P :=
 ⟨Below.out h.1 ho (fun b hb => by rw [List.mem_singleton.1 hb]; omega) h.1.size, h.2.1.out ho (fun hm => by rw [List.mem_singleton] at hm; omega), h.2.2.1.out ho (fun hm => by rw [List.mem_singleton] at hm; omega), Nat.le_trans h.2.2.2 ho.2.2.2.1⟩
theorem Out.grownQ {fp : List Nat} {a b c : World} {row : Option Nat} (h : Out fp a b) (hg : b.grownBy c row) (hr : ∀ q, row = some q -> q ∈ fp) : Out fp a c :=
 h.trans ⟨hg.os, hg.tape, hg.output, hg.size, fun k hk hn => hg.block k hk fun e => hn (hr k e.symm)⟩
theorem ownServer_any (s : Se) (v : Value) (w : World) (hok : OkSe s) (h : SeSh w v s) : Calls Tryz.prog 101 #[v] w fun e w' => ∃ x fp, e = .returned x /\ OwnSe w' w.heap.size x s fp /\ zW w w' := by
 obtain ⟨iK, hiK, hzK0, hzK1, hzK2⟩ := info_parts infoKt;obtain ⟨iP, hiP, hzP0, hzP1, hzP2⟩ := info_parts infoPlan;obtain ⟨i3, hi3, hz30, hz31, hz32⟩ := info_parts info3;obtain ⟨a1, c1, a2, c2, a3, c3, a4, c4, a5, c5, rfl, h1, h2, h3⟩ := h;have CP : Hid (∀ W, zW w W -> Calls Tryz.prog 147 #[.agg #[zS a1 s.store.certs.length c1, zS a2 s.store.crls.length c2, zS a3 s.store.ancs.length c3]] W fun e w' => ∃ x1 y1 x2 y2 x3 y3 fp, e = .returned (.agg #[zS x1 s.store.certs.length y1, zS x2 s.store.crls.length y2, zS x3 s.store.ancs.length y3]) /\ OwnO w' W.heap.size (.agg #[zS x1 s.store.certs.length y1, zS x2 s.store.crls.length y2, zS x3 s.store.ancs.length y3]) s.store fp /\ zW W w') := fun W hb => ownSt hok.1 (h1.below hb)
 obtain ⟨n1, e1⟩ := zE (s.store.certs.length);obtain ⟨n2, e2⟩ := zE (s.store.crls.length);obtain ⟨n3, e3⟩ := zE (s.store.ancs.length);obtain ⟨n4, e4⟩ := zE (s.pl.length);obtain ⟨n5, e5⟩ := zE (s.kept.length);rw [e1, e2, e3] at CP;rw [e4] at h2;rw [e5] at h3;rw [e1, e2, e3, e4, e5];have hl4 : n4 <= 2000000 := by rw [<- e4]; exact hok.2.1.1
 have hl5 : n5 <= 2000000 := by rw [<- e5]; exact hok.2.2.1
 have HX2 : Hid (ShS pnKd w (zS a4 n4 c4) s.pl /\ s.pl.length = n4 /\ ∀ p ∈ s.pl, wtPn p <= 2000000) := ⟨h2, e4, hok.2.1.2⟩;have HX3 : Hid (ShS ktKd w (zS a5 n5 c5) s.kept /\ s.kept.length = n5 /\ ∀ k ∈ s.kept, wtKt k <= 2000000) := ⟨h3, e5, hok.2.2.2⟩;clear h1 h2 h3 e1 e2 e3 e4 e5 hok;go_enter Tryz.func101, Tryz.ntmps101;go_upto_region 1 with fail
 go_cut [3] from 8 (fun s3 wx => ∃ (gO : Nat) (x1 : Option Addr) (y1 : Nat) (x2 : Option Addr) (y2 : Nat) (x3 : Option Addr) (y3 : Nat) (fs : List Nat), s3 = .pointer (some ⟨gO, 0, none⟩) /\ Hid (KQ w wx gO (zSe s (zS a1 n1 c1) (zS a2 n2 c2) (zS a3 n3 c3) (zS a4 n4 c4) (zS a5 n5 c5)) (zSe s (zS x1 n1 y1) (zS x2 n2 y2) (zS x3 n3 y3) zZ zZ) (.agg #[zS x1 n1 y1, zS x2 n2 y2, zS x3 n3 y3]) s.store fs zZ [] [] zZ [] []))
 case first =>
  have HD : KE w ((w.alloc (Obj.cells (zSe s (zS a1 n1 c1) (zS a2 n2 c2) (zS a3 n3 c3) (zS a4 n4 c4) (zS a5 n5 c5)) 41)).alloc (Obj.cells #[zZ, zZ, zZ, zZ, zI 0, zI 0, zI 0, zZ] 41)).drew (zSe s (zS a1 n1 c1) (zS a2 n2 c2) (zS a3 n3 c3) (zS a4 n4 c4) (zS a5 n5 c5)) := by
   have e0 : (w.alloc (Obj.cells (zSe s (zS a1 n1 c1) (zS a2 n2 c2) (zS a3 n3 c3) (zS a4 n4 c4) (zS a5 n5 c5)) 41)).heap.size = w.heap.size + 1 := Array.size_push _;have hb := Blk.new (w.alloc (Obj.cells (zSe s (zS a1 n1 c1) (zS a2 n2 c2) (zS a3 n3 c3) (zS a4 n4 c4) (zS a5 n5 c5)) 41)) 41 #[zZ, zZ, zZ, zZ, zI 0, zI 0, zI 0, zZ];rw [e0] at hb;exact KE.below (W := (w.alloc (Obj.cells (zSe s (zS a1 n1 c1) (zS a2 n2 c2) (zS a3 n3 c3) (zS a4 n4 c4) (zS a5 n5 c5)) 41)).alloc (Obj.cells #[zZ, zZ, zZ, zZ, zI 0, zI 0, zI 0, zZ] 41)) ⟨((Below.refl _ _).alloc (Nat.le_refl _) _).alloc (by rw [e0]; omega) _, (Blk.new w _ _).alloc _, hb, by rw [size_alloc, e0]; omega⟩ (Below.refl _ _).drew
  refine wp_region_held_drew (S := fun W => KE w W (zSe s (zS a1 n1 c1) (zS a2 n2 c2) (zS a3 n3 c3) (zS a4 n4 c4) (zS a5 n5 c5))) (by kernel_rfl) HD (fun hHeld => ?_);generalize ((w.alloc (Obj.cells (zSe s (zS a1 n1 c1) (zS a2 n2 c2) (zS a3 n3 c3) (zS a4 n4 c4) (zS a5 n5 c5)) 41)).alloc (Obj.cells #[zZ, zZ, zZ, zZ, zI 0, zI 0, zI 0, zZ] 41)).drew = wd at HD hHeld |-;have H0 : Hid (KE w wd (zSe s (zS a1 n1 c1) (zS a2 n2 c2) (zS a3 n3 c3) (zS a4 n4 c4) (zS a5 n5 c5))) := HD;clear HD;refine zQ 0 8 rfl hHeld ?_;refine zT 1 9 ?_ rfl (by rfl) ?_ hHeld ?_;rotate_left
  ·intro W hSw
   have l0 : W.cell? ⟨w.heap.size, 0, none⟩ = some (zS a1 n1 c1) := hSw.2.1.cell 0;have l1 : W.cell? ⟨w.heap.size, 1, none⟩ = some (zS a2 n2 c2) := hSw.2.1.cell 1;have l2 : W.cell? ⟨w.heap.size, 2, none⟩ = some (zS a3 n3 c3) := hSw.2.1.cell 2;go_simp
   try with_reducible rfl
  refine zQ 3 11 rfl hHeld ?_;refine zT 4 12 ?_ rfl (by rfl) ?_ hHeld ?_;rotate_left
  ·intro W hSw
   have l4 : W.cell? ⟨w.heap.size, 4, none⟩ = some (zI s.house) := hSw.2.1.cell 4;go_simp
   try with_reducible rfl
  refine zQ 5 13 rfl hHeld ?_;refine zT 6 14 ?_ rfl (by rfl) ?_ hHeld ?_;rotate_left
  ·intro W hSw
   have l5 : W.cell? ⟨w.heap.size, 5, none⟩ = some (zI s.now) := hSw.2.1.cell 5;go_simp
   try with_reducible rfl
  refine zQ 7 15 rfl hHeld ?_;refine zT 8 16 ?_ rfl (by rfl) ?_ hHeld ?_;rotate_left
  ·intro W hSw
   have l6 : W.cell? ⟨w.heap.size, 6, none⟩ = some (zI s.fresh) := hSw.2.1.cell 6;go_simp
   try with_reducible rfl
  refine wpAnyH_ready (rs := [2, 10]) (by kernel_rfl) (by simp) ?_;refine AllReadyH.cons (o := ⟨some 10, _, _, _, _, _⟩) rfl (fun K hK => ?_) ?_;rotate_left
  ·refine AllReadyH.cons (o := ⟨some 3, _, _, _, _, _⟩) rfl (fun K hK => ?_) AllReadyH.nil
   obtain ⟨ya, hya⟩ : ∃ V, V = wd.alloc (Obj.cells #[zZ, zZ, zZ, zZ, zI 0, zI 0, zI 0, zZ] 41) := ⟨_, rfl⟩;have hb : zW wd ya := by rw [hya]; exact (Below.refl _ _).alloc (Nat.le_refl _) _
   have HG : Hid (Blk ya wd.heap.size 41 #[zZ, zZ, zZ, zZ, zI 0, zI 0, zI 0, zZ] /\ w.heap.size + 2 <= wd.heap.size) := ⟨by rw [hya]; exact Blk.new _ _ _, hHeld.2.2.2⟩;have hH : KE w ya (zSe s (zS a1 n1 c1) (zS a2 n2 c2) (zS a3 n3 c3) (zS a4 n4 c4) (zS a5 n5 c5)) := hHeld.below hb;go_simp;rw [<- hya];clear hb hHeld hya;refine hK.out _ _ hH (fun hHeld => ?_);clear hK K hH;refine zR 2 10 rfl fun K hK => ?_
   go_simp;refine (CP.out ya hHeld.1).mono ?_;rintro e yb ⟨x1, y1, x2, y2, x3, y3, fs, rfl, ho, hb⟩;have hH : KE w yb (zSe s (zS a1 n1 c1) (zS a2 n2 c2) (zS a3 n3 c3) (zS a4 n4 c4) (zS a5 n5 c5)) := hHeld.below hb;have HG2 : Hid (Blk yb wd.heap.size 41 #[zZ, zZ, zZ, zZ, zI 0, zI 0, zI 0, zZ] /\ w.heap.size + 2 <= wd.heap.size) := ⟨HG.1.below hb HG.1.lt, HG.2⟩;have HR : Hid ((OwnO yb (w.heap.size + 2) (.agg #[zS x1 n1 y1, zS x2 n2 y2, zS x3 n3 y3]) s.store fs /\ wd.heap.size ∉ fs)) := ⟨ho.base hHeld.2.2.2, fun hm => by have := (ho.lt _ hm).1; have := HG.1.lt; omega⟩;clear HG;have HG := HG2;clear HG2;clear ho hb hHeld;refine hK.out _ _ hH (fun hHeld => ?_);clear hK K hH;refine zQ 9 17 rfl hHeld ?_;refine zN 11 rfl fun K hK => ?_
   have e0 : yb.cell? ⟨wd.heap.size, 0, none⟩ = some zZ := HG.1.cell 0;have e1 : yb.cell? ⟨wd.heap.size, 1, none⟩ = some zZ := HG.1.cell 1;have e2 : yb.cell? ⟨wd.heap.size, 2, none⟩ = some zZ := HG.1.cell 2;have e3 : yb.cell? ⟨wd.heap.size, 3, none⟩ = some zZ := HG.1.cell 3;have e4 : yb.cell? ⟨wd.heap.size, 4, none⟩ = some (zI 0) := HG.1.cell 4;have e5 : yb.cell? ⟨wd.heap.size, 5, none⟩ = some (zI 0) := HG.1.cell 5;have e6 : yb.cell? ⟨wd.heap.size, 6, none⟩ = some (zI 0) := HG.1.cell 6;have e7 : yb.cell? ⟨wd.heap.size, 7, none⟩ = some zZ := HG.1.cell 7;have ef := fun i => HG.1.free i
   go_simp;generalize hV : World.setCell _ { block := wd.heap.size, off := 7 } zZ = V;have FIN : Out [wd.heap.size] yb V /\ Blk V wd.heap.size 41 (zSe s (zS x1 n1 y1) (zS x2 n2 y2) (zS x3 n3 y3) zZ zZ) := by
    rw [<- hV];refine ⟨?_, ?_⟩
    ·iterate 8 refine Out.setCell ?_ _ _ (by simp)
     exact Out.refl _ _
    ·exact ((((((((HG.1.set 0 _).set 1 _).set 2 _).set 3 _).set 4 _).set 5 _).set 6 _).set 7 _)
   clear hV ef e0 e1 e2 e3 e4 e5 e6 e7;have hH : KE w V (zSe s (zS a1 n1 c1) (zS a2 n2 c2) (zS a3 n3 c3) (zS a4 n4 c4) (zS a5 n5 c5)) := hHeld.out FIN.1 HG.2;have FR : Hid (KQ w V wd.heap.size (zSe s (zS a1 n1 c1) (zS a2 n2 c2) (zS a3 n3 c3) (zS a4 n4 c4) (zS a5 n5 c5)) (zSe s (zS x1 n1 y1) (zS x2 n2 y2) (zS x3 n3 y3) zZ zZ) (.agg #[zS x1 n1 y1, zS x2 n2 y2, zS x3 n3 y3]) s.store fs zZ [] [] zZ [] []) := by
    refine ⟨⟨hH.1, hH.2.1, hH.2.2.1, FIN.2, HG.2⟩, OwnO.out HR.1 FIN.1 (fun b hb hm => HR.2 (by rw [<- List.mem_singleton.1 hm]; exact hb)), OwnS.nil _ _ _, OwnS.nil _ _ _, ?_⟩;rw [List.append_nil, List.append_nil, List.nodup_cons];exact ⟨HR.2, HR.1.nodup⟩
   clear hHeld FIN;refine hK.out _ _ hH (fun hHeld => ?_);clear hK K hH;refine wpAnyH_done (by kernel_rfl) ?_ _;go_wp2_with fail;go_meet;exact ⟨wd.heap.size, x1, y1, x2, y2, x3, y3, fs, rfl, FR.out⟩
  go_simp;refine (CP.out wd hHeld.1).mono ?_;rintro e ya ⟨x1, y1, x2, y2, x3, y3, fs, rfl, ho, hb⟩;have hH : KE w ya (zSe s (zS a1 n1 c1) (zS a2 n2 c2) (zS a3 n3 c3) (zS a4 n4 c4) (zS a5 n5 c5)) := hHeld.below hb;have HR : Hid (OwnO ya (w.heap.size + 2) (.agg #[zS x1 n1 y1, zS x2 n2 y2, zS x3 n3 y3]) s.store fs) := ho.base hHeld.2.2.2;clear ho hb hHeld;refine hK.out _ _ hH (fun hHeld => ?_);clear hK K hH;refine zQ 9 17 rfl hHeld ?_;refine zR 10 3 rfl fun K hK => ?_
  obtain ⟨yb, hyb⟩ : ∃ V, V = ya.alloc (Obj.cells #[zZ, zZ, zZ, zZ, zI 0, zI 0, zI 0, zZ] 41) := ⟨_, rfl⟩;have hb : zW ya yb := by rw [hyb]; exact (Below.refl _ _).alloc (Nat.le_refl _) _
  have HG : Hid (Blk yb ya.heap.size 41 #[zZ, zZ, zZ, zZ, zI 0, zI 0, zI 0, zZ] /\ w.heap.size + 2 <= ya.heap.size) := ⟨by rw [hyb]; exact Blk.new _ _ _, hHeld.2.2.2⟩;have hH : KE w yb (zSe s (zS a1 n1 c1) (zS a2 n2 c2) (zS a3 n3 c3) (zS a4 n4 c4) (zS a5 n5 c5)) := hHeld.below hb;have HR2 : Hid (OwnO yb (w.heap.size + 2) (.agg #[zS x1 n1 y1, zS x2 n2 y2, zS x3 n3 y3]) s.store fs /\ ya.heap.size ∉ fs) := ⟨HR.stays hb, fun hm => by have := (HR.lt _ hm).2; omega⟩;clear HR;have HR := HR2;clear HR2;go_simp;rw [<- hyb];clear hb hHeld hyb;refine hK.out _ _ hH (fun hHeld => ?_);clear hK K hH;refine zN 11 rfl fun K hK => ?_
  have e0 : yb.cell? ⟨ya.heap.size, 0, none⟩ = some zZ := HG.1.cell 0;have e1 : yb.cell? ⟨ya.heap.size, 1, none⟩ = some zZ := HG.1.cell 1;have e2 : yb.cell? ⟨ya.heap.size, 2, none⟩ = some zZ := HG.1.cell 2;have e3 : yb.cell? ⟨ya.heap.size, 3, none⟩ = some zZ := HG.1.cell 3;have e4 : yb.cell? ⟨ya.heap.size, 4, none⟩ = some (zI 0) := HG.1.cell 4;have e5 : yb.cell? ⟨ya.heap.size, 5, none⟩ = some (zI 0) := HG.1.cell 5;have e6 : yb.cell? ⟨ya.heap.size, 6, none⟩ = some (zI 0) := HG.1.cell 6;have e7 : yb.cell? ⟨ya.heap.size, 7, none⟩ = some zZ := HG.1.cell 7;have ef := fun i => HG.1.free i
  go_simp;generalize hV : World.setCell _ { block := ya.heap.size, off := 7 } zZ = V;have FIN : Out [ya.heap.size] yb V /\ Blk V ya.heap.size 41 (zSe s (zS x1 n1 y1) (zS x2 n2 y2) (zS x3 n3 y3) zZ zZ) := by
   rw [<- hV];refine ⟨?_, ?_⟩
   ·iterate 8 refine Out.setCell ?_ _ _ (by simp)
    exact Out.refl _ _
   ·exact ((((((((HG.1.set 0 _).set 1 _).set 2 _).set 3 _).set 4 _).set 5 _).set 6 _).set 7 _)
  clear hV ef e0 e1 e2 e3 e4 e5 e6 e7;have hH : KE w V (zSe s (zS a1 n1 c1) (zS a2 n2 c2) (zS a3 n3 c3) (zS a4 n4 c4) (zS a5 n5 c5)) := hHeld.out FIN.1 HG.2;have FR : Hid (KQ w V ya.heap.size (zSe s (zS a1 n1 c1) (zS a2 n2 c2) (zS a3 n3 c3) (zS a4 n4 c4) (zS a5 n5 c5)) (zSe s (zS x1 n1 y1) (zS x2 n2 y2) (zS x3 n3 y3) zZ zZ) (.agg #[zS x1 n1 y1, zS x2 n2 y2, zS x3 n3 y3]) s.store fs zZ [] [] zZ [] []) := by
   refine ⟨⟨hH.1, hH.2.1, hH.2.2.1, FIN.2, HG.2⟩, OwnO.out HR.1 FIN.1 (fun b hb hm => HR.2 (by rw [<- List.mem_singleton.1 hm]; exact hb)), OwnS.nil _ _ _, OwnS.nil _ _ _, ?_⟩;rw [List.append_nil, List.append_nil, List.nodup_cons];exact ⟨HR.2, HR.1.nodup⟩
  clear hHeld FIN;refine hK.out _ _ hH (fun hHeld => ?_);clear hK K hH;refine wpAnyH_done (by kernel_rfl) ?_ _;go_wp2_with fail;go_meet;exact ⟨ya.heap.size, x1, y1, x2, y2, x3, y3, fs, rfl, FR.out⟩
 case rest =>
  obtain ⟨gO, x1, y1, x2, y2, x3, y3, fs, rfl, KF⟩ := hcut;rename World => WF
  clear CP;have z3 : WF.cell? ⟨w.heap.size, 3, none⟩ = some (zS a4 n4 c4) := KF.1.2.1.cell 3;go_wp2_with fail;clear z3
  go_loopw [21] (fun iv wr => ∃ k : Nat, k <= n4 /\ iv = zI k /\ ∃ pv f2, Hid (KQ w wr gO (zSe s (zS a1 n1 c1) (zS a2 n2 c2) (zS a3 n3 c3) (zS a4 n4 c4) (zS a5 n5 c5)) (zSe s (zS x1 n1 y1) (zS x2 n2 y2) (zS x3 n3 y3) pv zZ) (.agg #[zS x1 n1 y1, zS x2 n2 y2, zS x3 n3 y3]) s.store fs pv (s.pl.take k) f2 zZ [] [])) (fun iv _ => n4 - (intOf iv).toNat)
  case atStart => exact ⟨0, Nat.zero_le _, rfl, _, _, KF⟩
  case round =>
   clear KF;obtain ⟨k, hk, rfl, pv, f2, H⟩ := hrel;by_cases hkn : k < n4
   ·have hkl : k < s.pl.length := by rw [HX2.2.1]; exact hkn
    obtain ⟨b, o, u, hax, hg, hP, hs, hc⟩ := HX2.1.get hkl;obtain ⟨p1, q1, e1, r1, hu⟩ := PnAt.shape (OwnPn.at hP);subst hax;obtain ⟨x, hx⟩ := zE (s.pl[k]);have hxw := wtPn_lens (HX2.2.2 _ (List.getElem_mem hkl));have HN : Hid (s.pl.take (k + 1) = s.pl.take k ++ [x] /\ (s.pl.take k).length = k) := ⟨by rw [<- hx]; exact List.take_succ_eq_append_getElem hkl, by rw [List.length_take]; omega⟩;have hPw := pnKd.same hP (fun y hy => H.1.1.block y (pnKd.lt hP y hy).2);rw [hx] at hu hPw hxw;obtain ⟨l1, hl1⟩ := zE (x.anc.length);obtain ⟨l2, hl2⟩ := zE (x.ru.pol.length);rw [hl1, hl2] at hu;have hrg0 := fun i z (hz : u.cells[i]? = some z) => (H.1.1.cell (p := ⟨b, o + k * 7 + i, none⟩) (by show b < w.heap.size; exact hg)).trans (hc i z hz)
    subst hu;have HOX : Hid (OwnI wr 0 (zS p1 l1 q1) x.anc /\ OwnI wr 0 (zS e1 l2 r1) x.ru.pol /\ x.anc.length = l1 /\ x.ru.pol.length = l2 /\ l1 <= 2000000 /\ l2 <= 2000000) := by
     obtain ⟨pv, ev, hv2, h1, h2, _⟩ := hPw;unfold pnV at hv2;injection hv2 with hv2
     simp only [Array.mk.injEq, List.cons.injEq, Value.int.injEq, Value.bool.injEq, and_true, true_and] at hv2;obtain ⟨rfl, rfl⟩ := hv2;exact ⟨h1, h2, hl1, hl2, by omega, by omega⟩
    have hrg : wr.rangeAt b (o + k * 7) (zPn x (zS p1 l1 q1) (zS e1 l2 r1)).toList := fun j y hy => hrg0 j y (by rw [<- hy]; exact Array.getElem?_toList.symm)
    have hki : (k : Int) < (n4 : Int) := by omega
    have hk0 : (0 : Int) <= (k : Int) := by omega
    clear hP hPw hrg0 hs hc hx hg hl1 hl2 hxw;obtain ⟨V3, hV3⟩ : ∃ W, W = wr.alloc (Obj.cells (zPn x (zS p1 l1 q1) (zS e1 l2 r1)) 127) := ⟨_, rfl⟩;have HV3 : Hid (zW wr V3 /\ Blk V3 wr.heap.size 127 (zPn x (zS p1 l1 q1) (zS e1 l2 r1)) /\ True) := by rw [hV3]; exact ⟨(Below.refl _ _).alloc (Nat.le_refl _) _, Blk.new wr _ _, trivial⟩
    go_upto_region 5 with (refine wpList_load_mid rfl 127 _ rfl b (o + k * 7) rfl _ _ hrg Tryz.underlying127 rfl (by kernel_rfl) ?_)
    rw [<- hV3];clear hV3 hrg;have d1 : V3.cell? ⟨wr.heap.size, 1, none⟩ = some (zS p1 l1 q1) := HV3.2.1.cell 1;have HI1 : Hid (OwnI V3 0 (zS p1 l1 q1) x.anc) := OwnI.stays HOX.1 HV3.1;go_wp2_with (at_builtin; refine wpList_append_ints2 rfl _ _ 45 rfl (wr.heap.size + 1) i3 Tryz.underlying45 hi3 hz30 hz31 hz32 zZ 0 [] rfl (World.ownsRow_nil _ _ _ _) (zS p1 l1 q1) x.anc 0 HI1.out rfl (by have := HOX.2.2; omega) (HV3.2.1.lt) ?_);intro v1 w5 ho1 hg1;have Hw5 : Hid (zW wr w5 /\ Blk w5 wr.heap.size 127 (zPn x (zS p1 l1 q1) (zS e1 l2 r1)) /\ OwnI w5 (wr.heap.size + 1) v1 x.anc) :=
     ⟨HV3.1.grown hg1 HV3.1.size (fun b hb => by cases hb), (hg1.block _ HV3.2.1.lt (fun e => by cases e)).trans HV3.2.1, by simpa [OwnI] using ho1⟩
    clear ho1 hg1 d1 HI1;obtain ⟨qa, qc, hq1⟩ : ∃ ao cap, v1 = zS ao x.anc.length cap := by obtain ⟨ao, cap, h, _⟩ := Hw5.2.2.at; exact ⟨ao, cap, h⟩
    rw [HOX.2.2.1] at hq1;subst hq1;have d1 : w5.cell? ⟨wr.heap.size, 1, none⟩ = some (zS p1 l1 q1) := Hw5.2.1.cell 1;have g1 : w5.frozen? ⟨wr.heap.size, 1, none⟩ = false := Hw5.2.1.free 1;go_upto_region 6 with fail;obtain ⟨V5, hV5⟩ : ∃ W, W = w5.setCell ⟨wr.heap.size, 1, none⟩ (zS qa l1 qc) := ⟨_, rfl⟩;rw [<- hV5];have HV5 : Hid (zW wr V5 /\ Blk V5 wr.heap.size 127 (zPn x (zS qa l1 qc) (zS e1 l2 r1)) /\ OwnI V5 (wr.heap.size + 1) (zS qa l1 qc) x.anc) := by
     rw [hV5];exact ⟨Below.setCell Hw5.1 (Nat.le_refl _) _, Hw5.2.1.set 1 _, row_same Hw5.2.2 fun b hb => heap_setCell_other _ _ _ _ (by have := (World.ownsRow.lt Hw5.2.2 b hb).1; show b ≠ wr.heap.size; omega)⟩
    clear hV5 Hw5 d1 g1;have APT : Hid (∀ b, (Value.slice qa l1 qc).ownBlock = some b -> b < V5.heap.size /\ wr.heap.size + 1 <= b) := fun b hb => ⟨(World.ownsRow.lt HV5.2.2 b hb).2, (World.ownsRow.lt HV5.2.2 b hb).1⟩
    have d2 : V5.cell? ⟨wr.heap.size, 3, none⟩ = some (zS e1 l2 r1) := HV5.2.1.cell 3;have HI2 : Hid (OwnI V5 0 (zS e1 l2 r1) x.ru.pol) := OwnI.stays HOX.2.1 HV5.1;go_wp2_with (at_builtin; refine wpList_append_ints2 rfl _ _ 45 rfl V5.heap.size i3 Tryz.underlying45 hi3 hz30 hz31 hz32 zZ 0 [] rfl (World.ownsRow_nil _ _ _ _) (zS e1 l2 r1) x.ru.pol 0 HI2.out rfl (by have := HOX.2.2; omega) (Nat.le_refl _) ?_);intro v2 w7 ho2 hg2;have Hw7 : Hid (zW wr w7 /\ Blk w7 wr.heap.size 127 (zPn x (zS qa l1 qc) (zS e1 l2 r1)) /\ OwnI w7 V5.heap.size v2 x.ru.pol /\ OwnI w7 (wr.heap.size + 1) (zS qa l1 qc) x.anc) :=
     ⟨HV5.1.grown hg2 HV5.1.size (fun b hb => by cases hb), (hg2.block _ HV5.2.1.lt (fun e => by cases e)).trans HV5.2.1, by simpa [OwnI] using ho2, row_same HV5.2.2 fun b hb => hg2.block b (World.ownsRow.lt HV5.2.2 b hb).2 (fun e => by cases e)⟩
    clear ho2 hg2 d2 HI2;obtain ⟨ra, rc, hq2⟩ : ∃ ao cap, v2 = zS ao x.ru.pol.length cap := by obtain ⟨ao, cap, h, _⟩ := Hw7.2.2.1.at; exact ⟨ao, cap, h⟩
    rw [HOX.2.2.2.1] at hq2;subst hq2;have d2 : w7.cell? ⟨wr.heap.size, 3, none⟩ = some (zS e1 l2 r1) := Hw7.2.1.cell 3;have g2 : w7.frozen? ⟨wr.heap.size, 3, none⟩ = false := Hw7.2.1.free 3;go_upto_region 7 with fail;obtain ⟨V7, hV7⟩ : ∃ W, W = w7.setCell ⟨wr.heap.size, 3, none⟩ (zS ra l2 rc) := ⟨_, rfl⟩;rw [<- hV7];have HV7 : Hid (zW wr V7 /\ Blk V7 wr.heap.size 127 (zPn x (zS qa l1 qc) (zS ra l2 rc)) /\ OwnPn V7 (wr.heap.size + 1) (.agg (zPn x (zS qa l1 qc) (zS ra l2 rc))) x) := by
     have hlt5 : wr.heap.size < V5.heap.size := HV5.2.1.lt;have hlo := fun b hb => (World.ownsRow.lt Hw7.2.2.1 b hb).1
     rw [hV7];refine ⟨Below.setCell Hw7.1 (Nat.le_refl _) _, Hw7.2.1.set 3 _, _, _, rfl, row_same Hw7.2.2.2 fun b hb => heap_setCell_other _ _ _ _ (by have := (APT.out b hb).2; show b ≠ wr.heap.size; omega), OwnI.base (row_same Hw7.2.2.1 fun b hb => heap_setCell_other _ _ _ _ (by have := hlo b hb; show b ≠ wr.heap.size; omega)) (by omega), ?_⟩;exact ap_of fun b h1 h2 => by have := (APT.out b h1).1; have := hlo b h2; omega
    clear hV7 Hw7 d2 g2 HV5 APT;have yp : V7.cell? ⟨gO, 3, none⟩ = some pv := ((H.below HV7.1).1.2.2.2.1).cell 3;have hrg7 : V7.rangeAt wr.heap.size 0 (zPn x (zS qa l1 qc) (zS ra l2 rc)).toList := HV7.2.1.range;obtain ⟨V8, hV8⟩ : ∃ W, W = V7.alloc (Obj.cells (zPn x (zS qa l1 qc) (zS ra l2 rc)) 127) := ⟨_, rfl⟩;have H8 : Hid (zW wr V8 /\ OwnPn V8 (wr.heap.size + 1) (.agg (zPn x (zS qa l1 qc) (zS ra l2 rc))) x /\ V8.rangeAt V7.heap.size 0 (Value.agg (zPn x (zS qa l1 qc) (zS ra l2 rc))).cells.toList /\ V7.heap.size < V8.heap.size) := by
     have hb : zW V7 V8 := by rw [hV8]; exact (Below.refl _ _).alloc (Nat.le_refl _) _
     exact ⟨HV7.1.trans (hb.mono HV7.1.size), HV7.2.2.stays hb, by rw [hV8]; exact (Blk.new V7 127 (zPn x (zS qa l1 qc) (zS ra l2 rc))).range, by rw [hV8, size_alloc]; omega⟩
    have H8O : Hid (OwnS pnKd V8 (w.heap.size + 2) pv (s.pl.take k) f2) := (H.below H8.1).2.2.1;have hbase8 : w.heap.size + 2 <= wr.heap.size := by have h5 := H.1.2.2.2.2; have h6 := H.lts.1; omega
    have hd8 : ∀ y ∈ pnKd.fp (.agg (zPn x (zS qa l1 qc) (zS ra l2 rc))), y ∉ f2 := fun y h1 h2 => by
     have g1 := (fpPn_lt H8.2.1 y h1).1;have g2 := H.lts.2.2.1 y h2;omega
    go_wp2_with (first | refine wpList_load_mid rfl 127 _ rfl wr.heap.size 0 rfl _ _ hrg7 Tryz.underlying127 rfl (by kernel_rfl) ?_ | (at_builtin; rw [<- hV8]; refine wpList_app pnKd rfl _ _ 38 rfl iP (.agg #[zI 0, zZ, zI 0, zZ, .bool false, .bool false, zI 0]) 80 Tryz.underlying38 hiP hzP0 hzP1 hzP2 rfl (by decide) (w.heap.size + 2) pv (s.pl.take k) f2 x (.agg (zPn x (zS qa l1 qc) (zS ra l2 rc))) rfl V7.heap.size rfl H8.2.2.1 H8O.out (OwnPn.base H8.2.1 (by omega)) hd8 (Nat.le_trans hbase8 H8.1.size) k HN.2 (by omega) ?_));intro g6 cap6 w6 fp6 hG6 hgrow6 hf6
    try rw [<- hV8] at hgrow6
    try rw [<- hV8] at hf6
    have K6 : Hid (KQ w w6 gO (zSe s (zS a1 n1 c1) (zS a2 n2 c2) (zS a3 n3 c3) (zS (some ⟨b, o, none⟩) n4 c4) (zS a5 n5 c5)) (zSe s (zS x1 n1 y1) (zS x2 n2 y2) (zS x3 n3 y3) pv zZ) (.agg #[zS x1 n1 y1, zS x2 n2 y2, zS x3 n3 y3]) s.store fs (zS (some ⟨g6, 0, none⟩) (k + 1) cap6) (s.pl.take (k + 1)) fp6 zZ [] []) := by
     rw [HN.1];refine KQ.grownPl H.out H8.1 hG6 hgrow6 (fun q e => ?_) fun b hb => ?_
     ·obtain ⟨_, _, hr9, _, hf9, _⟩ := H8O.out
      exact .inl (by rw [hf9]; exact List.mem_append_left _ (Option.mem_toList.2 e))
     ·rcases hf6 b hb with h | h | h
      ·exact .inl h
      ·exact .inr (by have := (fpPn_lt H8.2.1 b h).1; omega)
      ·exact .inr (by have := H8.1.size; have := H8.2.2.2; have := HV7.1.size; omega)
    clear hG6 hgrow6 hf6 H8O H8 hV8 hd8 yp hrg7 HV7 H;have yp : w6.cell? ⟨gO, 3, none⟩ = some pv := K6.1.2.2.2.1.cell 3;have yf : w6.frozen? ⟨gO, 3, none⟩ = false := K6.1.2.2.2.1.free 3;go_wp2_with fail;exact ⟨⟨k + 1, by omega, by go_num, zS (some ⟨g6, 0, none⟩) (k + 1) cap6, fp6, K6.setO 3 _⟩, by simp [intOf]; omega⟩
   ·have hkl : n4 = k := by omega
    subst hkl;have hnk : ¬ ((n4 : Int) < (n4 : Int)) := by omega
    have KP : Hid (KQ w wr gO (zSe s (zS a1 n1 c1) (zS a2 n2 c2) (zS a3 n3 c3) (zS a4 n4 c4) (zS a5 n5 c5)) (zSe s (zS x1 n1 y1) (zS x2 n2 y2) (zS x3 n3 y3) pv zZ) (.agg #[zS x1 n1 y1, zS x2 n2 y2, zS x3 n3 y3]) s.store fs pv s.pl f2 zZ [] []) := by
     have h := H.out;rw [List.take_of_length_le (by rw [HX2.2.1]; exact Nat.le_refl _)] at h;exact h
    clear H;obtain ⟨WL, hWL⟩ : ∃ W, W = wr := ⟨_, rfl⟩;rw [<- hWL] at KP |-;clear hWL;have z7 : WL.cell? ⟨w.heap.size, 7, none⟩ = some (zS a5 n5 c5) := KP.1.2.1.cell 7;go_wp2_with fail;clear z7
    go_loopw [45] (fun iv wr => ∃ k : Nat, k <= n5 /\ iv = zI k /\ ∃ cv f3, Hid (KQ w wr gO (zSe s (zS a1 n1 c1) (zS a2 n2 c2) (zS a3 n3 c3) (zS a4 n4 c4) (zS a5 n5 c5)) (zSe s (zS x1 n1 y1) (zS x2 n2 y2) (zS x3 n3 y3) pv cv) (.agg #[zS x1 n1 y1, zS x2 n2 y2, zS x3 n3 y3]) s.store fs pv s.pl f2 cv (s.kept.take k) f3)) (fun iv _ => n5 - (intOf iv).toNat)
    case atStart => exact ⟨0, Nat.zero_le _, rfl, _, _, KP⟩
    case round =>
     clear KP;obtain ⟨k, hk, rfl, cv, f3, H⟩ := hrel;by_cases hkn : k < n5
     ·have hkl : k < s.kept.length := by rw [HX3.2.1]; exact hkn
      obtain ⟨g, o, u, hax, hg, hP, hs, hc⟩ := HX3.1.get hkl;have hu : u = ktV s.kept[k] := hP;subst hax;have hki : (k : Int) < (n5 : Int) := by omega
      have hk0 : (0 : Int) <= (k : Int) := by omega
      obtain ⟨c, hce⟩ := zE (s.kept[k]);have hwc := HX3.2.2 _ (List.getElem_mem hkl);have hrg0 := fun i x hx => (H.1.1.cell (p := ⟨g, o + k * 3 + i, none⟩) hg).trans (hc i x hx)
      rw [hce] at hu hwc;subst hu;have hrg : wr.rangeAt g (o + k * 3) #[zG c.ask, zG c.rep, zI c.til].toList := fun j x hx => hrg0 j x (by rw [<- hx]; exact Array.getElem?_toList.symm)
      obtain ⟨V, hV⟩ : ∃ V, V = (wr.alloc (Obj.cells #[zG ⟨#[]⟩, zG ⟨#[]⟩, zI 0] 133)).setCells wr.heap.size 0 #[zG c.ask, zG c.rep, zI c.til].toList := ⟨_, rfl⟩;have hBV : zW wr V /\ Blk V wr.heap.size 133 #[zG c.ask, zG c.rep, zI c.til] := fresh_store hV rfl;have hth := (Blk.new wr 133 #[zG ⟨#[]⟩, zG ⟨#[]⟩, zI 0]).there (n := 3) rfl;have HV : Hid ((KQ w V gO (zSe s (zS a1 n1 c1) (zS a2 n2 c2) (zS a3 n3 c3) (zS a4 n4 c4) (zS (some ⟨g, o, none⟩) n5 c5)) (zSe s (zS x1 n1 y1) (zS x2 n2 y2) (zS x3 n3 y3) pv cv) (.agg #[zS x1 n1 y1, zS x2 n2 y2, zS x3 n3 y3]) s.store fs pv s.pl f2 cv (s.kept.take k) f3) /\ Blk V wr.heap.size 133 #[zG c.ask, zG c.rep, zI c.til]) := ⟨H.below hBV.1, hBV.2⟩;have HN : Hid (s.kept.take (k + 1) = s.kept.take k ++ [c] /\ (s.kept.take k).length = k) := ⟨by rw [<- hce]; exact List.take_succ_eq_append_getElem hkl, by rw [List.length_take]; omega⟩;have HLT : Hid (gO < wr.heap.size /\ ∀ b ∈ f3, b < wr.heap.size) := ⟨H.lts.1, H.lts.2.2.2⟩;clear hP hrg0 hs hc hce hg H hBV;go_upto_region 12 with (first | refine wpList_load_mid rfl 133 _ rfl g (o + k * 3) rfl _ _ hrg Tryz.underlying133 rfl (by kernel_rfl) ?_ | (refine step_storeV rfl 133 _ _ rfl wr.heap.size 0 #[zG c.ask, zG c.rep, zI c.til] rfl rfl hth (by kernel_rfl) (by simp [Value.oneCell']) hV ?_; clear hV hth))
      obtain ⟨gC, hgC⟩ := zE (wr.heap.size);have HNG : Hid (wr.heap.size ≠ gO /\ wr.heap.size ∉ f3) := ⟨by have := HLT.1; omega, fun hm => by have := HLT.2 _ hm; omega⟩;rw [hgC] at HV HNG |-;clear hgC HLT;have hwc2 : c.ask.size <= 1000000000000 /\ c.rep.size <= 1000000000000 := by unfold wtKt at hwc; omega
      have EA : Hid (∀ W, Calls Tryz.prog 148 #[zG c.ask] W fun e w' => e = .returned (zG c.ask) /\ zW W w') := fun W => cloneB_any c.ask W hwc2.1
      have EB : Hid (∀ W, Calls Tryz.prog 148 #[zG c.rep] W fun e w' => e = .returned (zG c.rep) /\ zW W w') := fun W => cloneB_any c.rep W hwc2.2
      have HF : Hid (∀ W, zW V W -> W.cell? ⟨gO, 7, none⟩ = some cv) := fun W hb => ((HV.1.below hb).1.2.2.2.1).cell 7
      have hC : gC ∉ gO :: f3 := by
       intro hm
       rcases List.mem_cons.1 hm with e | e
       ·exact HNG.1 e
       ·exact HNG.2 e
      have HCS : Hid (∀ W, Out (gO :: f3) V W -> Blk W gC 133 #[zG c.ask, zG c.rep, zI c.til]) := fun W ho => HV.2.out ho hC
      clear hrg hwc hwc2 hC;have HB0 : Hid (zW V V.drew) := (Below.refl _ _).drew;refine wp_region_held_drew (S := fun W => Out (gO :: f3) V W) (by kernel_rfl) (Out.of_below HB0.out) (fun hHeld => ?_);generalize V.drew = wd at HB0 hHeld |-;refine zQ 0 49 rfl hHeld ?_;refine zQ 2 51 rfl hHeld ?_;refine zT 3 52 ?_ rfl (by rfl) ?_ hHeld ?_;rotate_left
      ·intro W hSw
       have l0 := (HCS.out W hSw).cell 0;go_simp
       try with_reducible rfl
      refine zQ 5 54 rfl hHeld ?_;refine zT 6 55 ?_ rfl (by rfl) ?_ hHeld ?_;rotate_left
      ·intro W hSw
       have l1 := (HCS.out W hSw).cell 1;go_simp
       try with_reducible rfl
      refine zQ 8 57 rfl hHeld ?_;refine zT 9 58 ?_ rfl (by rfl) ?_ hHeld ?_;rotate_left
      ·intro W hSw
       have l2 := (HCS.out W hSw).cell 2;go_simp
       try with_reducible rfl
      refine wpAnyH_ready (rs := [1, 4]) (by kernel_rfl) (by simp) ?_;refine AllReadyH.cons (o := ⟨some 50, _, _, _, _, _⟩) rfl (fun K hK => ?_) ?_;rotate_left
      ·refine AllReadyH.cons (o := ⟨some 53, _, _, _, _, _⟩) rfl (fun K hK => ?_) AllReadyH.nil
       go_simp;refine (EA.out wd).mono ?_;rintro e t1 ⟨rfl, hb⟩;have HB1 : Hid (zW V t1) := HB0.trans (hb.mono HB0.size);clear HB0 hb;have HB0 := HB1;clear HB1;refine hK.out _ _ (Out.of_below HB0.out) (fun hHeld => ?_);clear hK K;refine wpAnyH_ready (rs := [1, 7]) (by kernel_rfl) (by simp) ?_;refine AllReadyH.cons (o := ⟨some 50, _, _, _, _, _⟩) rfl (fun K hK => ?_) ?_;rotate_left
       ·refine AllReadyH.cons (o := ⟨some 56, _, _, _, _, _⟩) rfl (fun K hK => ?_) AllReadyH.nil
        go_simp;refine (EB.out t1).mono ?_;rintro e t2 ⟨rfl, hb⟩;have HB1 : Hid (zW V t2) := HB0.trans (hb.mono HB0.size);clear HB0 hb;have HB0 := HB1;clear HB1;refine hK.out _ _ (Out.of_below HB0.out) (fun hHeld => ?_);clear hK K;refine zQ 10 59 rfl hHeld ?_;refine wpAnyH_ready (rs := [1, 11]) (by kernel_rfl) (by simp) ?_;refine AllReadyH.cons (o := ⟨some 50, _, _, _, _, _⟩) rfl (fun K hK => ?_) ?_;rotate_left
        ·refine AllReadyH.cons (o := ⟨some 60, _, _, _, _, _⟩) rfl (fun K hK => ?_) AllReadyH.nil
         obtain ⟨t3, ht3⟩ : ∃ W, W = t2.alloc (Obj.cells #[zG c.ask, zG c.rep, zI c.til] 133) := ⟨_, rfl⟩;have HR : Hid (t3.rangeAt t2.heap.size 0 (Value.agg #[zG c.ask, zG c.rep, zI c.til]).cells.toList /\ zW V t3) := by rw [ht3]; exact ⟨(Blk.new t2 133 #[zG c.ask, zG c.rep, zI c.til]).range, HB0.alloc HB0.size _⟩
         clear HB0;have HB0 : Hid (zW V t3) := HR.2;go_simp;rw [<- ht3];refine hK.out _ _ (Out.of_below HB0.out) (fun hHeld => ?_);clear hK K ht3;refine zR 1 50 rfl fun K hK => ?_
         have lk : t3.cell? ⟨gO, 7, none⟩ = some cv := HF.out t3 HB0.out;go_simp;refine hK.out _ _ hHeld (fun hHeld => ?_);clear hK K lk;refine zR 12 61 rfl fun K hK => ?_
         refine step_app ktKd (o := ⟨some 61, _, _, _, _, _⟩) rfl (.tmp 50) (.tmp 60) 39 rfl iK (.agg #[zG ⟨#[]⟩, zG ⟨#[]⟩, zI 0]) 40 Tryz.underlying39 hiK hzK0 hzK1 hzK2 rfl (by decide) (w.heap.size + 2) cv (s.kept.take k) f3 c (.agg #[zG c.ask, zG c.rep, zI c.til]) (by rfl) t2.heap.size (by rfl) HR.1 ((HV.1.below HB0.out).2.2.2.1) rfl (fun y h1 h2 => by cases h1) (by have h1 := (HV.1.below HB0.out).1.2.2.2.1.lt; have h2 := HV.1.1.2.2.2.2; omega) k HN.2 (by omega) ?_;intro g6 cap6 w6 fp6 hG6 hgrow6 hf6;have hrow : ∀ q, cv.ownBlock = some q -> q ∈ f3 := fun q e => by
          obtain ⟨_, _, hr9, _, hf9, _⟩ := (HV.1.below HB0.out).2.2.2.1;rw [hf9];exact List.mem_append_left _ (Option.mem_toList.2 e)
         have K6 : Hid (KQ w w6 gO (zSe s (zS a1 n1 c1) (zS a2 n2 c2) (zS a3 n3 c3) (zS a4 n4 c4) (zS (some ⟨g, o, none⟩) n5 c5)) (zSe s (zS x1 n1 y1) (zS x2 n2 y2) (zS x3 n3 y3) pv cv) (.agg #[zS x1 n1 y1, zS x2 n2 y2, zS x3 n3 y3]) s.store fs pv s.pl f2 (zS (some ⟨g6, 0, none⟩) (k + 1) cap6) (s.kept.take (k + 1)) fp6) := by
          rw [HN.1];exact KQ.grownKt HV.1 HB0.out hG6 hgrow6 (fun q e => .inl (hrow q e)) (fun b hb => by
           rcases hf6 b hb with h | h | h
           ·exact .inl h
           ·cases h
           ·exact .inr (by rw [h]; exact HB0.size))
         have hO6 : Out (gO :: f3) V w6 := Out.grownQ (Out.of_below HB0.out) hgrow6 (fun q e => List.mem_cons_of_mem _ (hrow q e));clear hG6 hgrow6 hf6 hHeld HR HB0 hrow;refine hK.out _ _ hO6 (fun hHeld => ?_);clear hK K;refine zQ 13 62 rfl hHeld ?_;refine zN 14 rfl fun K hK => ?_
         have yc : w6.cell? ⟨gO, 7, none⟩ = some cv := K6.1.2.2.2.1.cell 7;have yf : w6.frozen? ⟨gO, 7, none⟩ = false := K6.1.2.2.2.1.free 7;go_simp;refine hK.out _ _ (hO6.setCell _ _ (List.mem_cons_self ..)) (fun hHeld => ?_);clear hK K yc yf hHeld;refine wpAnyH_done (by kernel_rfl) ?_ _;go_wp2_with fail;exact ⟨⟨k + 1, by omega, by go_num, zS (some ⟨g6, 0, none⟩) (k + 1) cap6, fp6, K6.setO 7 _⟩, by simp [intOf]; omega⟩
        have lk : t2.cell? ⟨gO, 7, none⟩ = some cv := HF.out t2 HB0.out;go_simp;refine hK.out _ _ hHeld (fun hHeld => ?_);clear hK K lk;refine zR 11 60 rfl fun K hK => ?_
        obtain ⟨t4, ht4⟩ : ∃ W, W = t2.alloc (Obj.cells #[zG c.ask, zG c.rep, zI c.til] 133) := ⟨_, rfl⟩;have HR : Hid (t4.rangeAt t2.heap.size 0 (Value.agg #[zG c.ask, zG c.rep, zI c.til]).cells.toList /\ zW V t4) := by rw [ht4]; exact ⟨(Blk.new t2 133 #[zG c.ask, zG c.rep, zI c.til]).range, HB0.alloc HB0.size _⟩
        clear HB0;have HB0 : Hid (zW V t4) := HR.2;go_simp;rw [<- ht4];refine hK.out _ _ (Out.of_below HB0.out) (fun hHeld => ?_);clear hK K ht4;refine zR 12 61 rfl fun K hK => ?_
        refine step_app ktKd (o := ⟨some 61, _, _, _, _, _⟩) rfl (.tmp 50) (.tmp 60) 39 rfl iK (.agg #[zG ⟨#[]⟩, zG ⟨#[]⟩, zI 0]) 40 Tryz.underlying39 hiK hzK0 hzK1 hzK2 rfl (by decide) (w.heap.size + 2) cv (s.kept.take k) f3 c (.agg #[zG c.ask, zG c.rep, zI c.til]) (by rfl) t2.heap.size (by rfl) HR.1 ((HV.1.below HB0.out).2.2.2.1) rfl (fun y h1 h2 => by cases h1) (by have h1 := (HV.1.below HB0.out).1.2.2.2.1.lt; have h2 := HV.1.1.2.2.2.2; omega) k HN.2 (by omega) ?_;intro g6 cap6 w6 fp6 hG6 hgrow6 hf6;have hrow : ∀ q, cv.ownBlock = some q -> q ∈ f3 := fun q e => by
         obtain ⟨_, _, hr9, _, hf9, _⟩ := (HV.1.below HB0.out).2.2.2.1;rw [hf9];exact List.mem_append_left _ (Option.mem_toList.2 e)
        have K6 : Hid (KQ w w6 gO (zSe s (zS a1 n1 c1) (zS a2 n2 c2) (zS a3 n3 c3) (zS a4 n4 c4) (zS (some ⟨g, o, none⟩) n5 c5)) (zSe s (zS x1 n1 y1) (zS x2 n2 y2) (zS x3 n3 y3) pv cv) (.agg #[zS x1 n1 y1, zS x2 n2 y2, zS x3 n3 y3]) s.store fs pv s.pl f2 (zS (some ⟨g6, 0, none⟩) (k + 1) cap6) (s.kept.take (k + 1)) fp6) := by
         rw [HN.1];exact KQ.grownKt HV.1 HB0.out hG6 hgrow6 (fun q e => .inl (hrow q e)) (fun b hb => by
          rcases hf6 b hb with h | h | h
          ·exact .inl h
          ·cases h
          ·exact .inr (by rw [h]; exact HB0.size))
        have hO6 : Out (gO :: f3) V w6 := Out.grownQ (Out.of_below HB0.out) hgrow6 (fun q e => List.mem_cons_of_mem _ (hrow q e));clear hG6 hgrow6 hf6 hHeld HR HB0 hrow;refine hK.out _ _ hO6 (fun hHeld => ?_);clear hK K;refine zQ 13 62 rfl hHeld ?_;refine zN 14 rfl fun K hK => ?_
        have yc : w6.cell? ⟨gO, 7, none⟩ = some cv := K6.1.2.2.2.1.cell 7;have yf : w6.frozen? ⟨gO, 7, none⟩ = false := K6.1.2.2.2.1.free 7;go_simp;refine hK.out _ _ (hO6.setCell _ _ (List.mem_cons_self ..)) (fun hHeld => ?_);clear hK K yc yf hHeld;refine wpAnyH_done (by kernel_rfl) ?_ _;go_wp2_with fail;exact ⟨⟨k + 1, by omega, by go_num, zS (some ⟨g6, 0, none⟩) (k + 1) cap6, fp6, K6.setO 7 _⟩, by simp [intOf]; omega⟩
       have lk : t1.cell? ⟨gO, 7, none⟩ = some cv := HF.out t1 HB0.out;go_simp;refine hK.out _ _ hHeld (fun hHeld => ?_);clear hK K lk;refine zR 7 56 rfl fun K hK => ?_
       go_simp;refine (EB.out t1).mono ?_;rintro e t5 ⟨rfl, hb⟩;have HB1 : Hid (zW V t5) := HB0.trans (hb.mono HB0.size);clear HB0 hb;have HB0 := HB1;clear HB1;refine hK.out _ _ (Out.of_below HB0.out) (fun hHeld => ?_);clear hK K;refine zQ 10 59 rfl hHeld ?_;refine zR 11 60 rfl fun K hK => ?_
       obtain ⟨t6, ht6⟩ : ∃ W, W = t5.alloc (Obj.cells #[zG c.ask, zG c.rep, zI c.til] 133) := ⟨_, rfl⟩;have HR : Hid (t6.rangeAt t5.heap.size 0 (Value.agg #[zG c.ask, zG c.rep, zI c.til]).cells.toList /\ zW V t6) := by rw [ht6]; exact ⟨(Blk.new t5 133 #[zG c.ask, zG c.rep, zI c.til]).range, HB0.alloc HB0.size _⟩
       clear HB0;have HB0 : Hid (zW V t6) := HR.2;go_simp;rw [<- ht6];refine hK.out _ _ (Out.of_below HB0.out) (fun hHeld => ?_);clear hK K ht6;refine zR 12 61 rfl fun K hK => ?_
       refine step_app ktKd (o := ⟨some 61, _, _, _, _, _⟩) rfl (.tmp 50) (.tmp 60) 39 rfl iK (.agg #[zG ⟨#[]⟩, zG ⟨#[]⟩, zI 0]) 40 Tryz.underlying39 hiK hzK0 hzK1 hzK2 rfl (by decide) (w.heap.size + 2) cv (s.kept.take k) f3 c (.agg #[zG c.ask, zG c.rep, zI c.til]) (by rfl) t5.heap.size (by rfl) HR.1 ((HV.1.below HB0.out).2.2.2.1) rfl (fun y h1 h2 => by cases h1) (by have h1 := (HV.1.below HB0.out).1.2.2.2.1.lt; have h2 := HV.1.1.2.2.2.2; omega) k HN.2 (by omega) ?_;intro g6 cap6 w6 fp6 hG6 hgrow6 hf6;have hrow : ∀ q, cv.ownBlock = some q -> q ∈ f3 := fun q e => by
        obtain ⟨_, _, hr9, _, hf9, _⟩ := (HV.1.below HB0.out).2.2.2.1;rw [hf9];exact List.mem_append_left _ (Option.mem_toList.2 e)
       have K6 : Hid (KQ w w6 gO (zSe s (zS a1 n1 c1) (zS a2 n2 c2) (zS a3 n3 c3) (zS a4 n4 c4) (zS (some ⟨g, o, none⟩) n5 c5)) (zSe s (zS x1 n1 y1) (zS x2 n2 y2) (zS x3 n3 y3) pv cv) (.agg #[zS x1 n1 y1, zS x2 n2 y2, zS x3 n3 y3]) s.store fs pv s.pl f2 (zS (some ⟨g6, 0, none⟩) (k + 1) cap6) (s.kept.take (k + 1)) fp6) := by
        rw [HN.1];exact KQ.grownKt HV.1 HB0.out hG6 hgrow6 (fun q e => .inl (hrow q e)) (fun b hb => by
         rcases hf6 b hb with h | h | h
         ·exact .inl h
         ·cases h
         ·exact .inr (by rw [h]; exact HB0.size))
       have hO6 : Out (gO :: f3) V w6 := Out.grownQ (Out.of_below HB0.out) hgrow6 (fun q e => List.mem_cons_of_mem _ (hrow q e));clear hG6 hgrow6 hf6 hHeld HR HB0 hrow;refine hK.out _ _ hO6 (fun hHeld => ?_);clear hK K;refine zQ 13 62 rfl hHeld ?_;refine zN 14 rfl fun K hK => ?_
       have yc : w6.cell? ⟨gO, 7, none⟩ = some cv := K6.1.2.2.2.1.cell 7;have yf : w6.frozen? ⟨gO, 7, none⟩ = false := K6.1.2.2.2.1.free 7;go_simp;refine hK.out _ _ (hO6.setCell _ _ (List.mem_cons_self ..)) (fun hHeld => ?_);clear hK K yc yf hHeld;refine wpAnyH_done (by kernel_rfl) ?_ _;go_wp2_with fail;exact ⟨⟨k + 1, by omega, by go_num, zS (some ⟨g6, 0, none⟩) (k + 1) cap6, fp6, K6.setO 7 _⟩, by simp [intOf]; omega⟩
      have lk : wd.cell? ⟨gO, 7, none⟩ = some cv := HF.out wd HB0.out;go_simp;refine hK.out _ _ hHeld (fun hHeld => ?_);clear hK K lk;refine zR 4 53 rfl fun K hK => ?_
      go_simp;refine (EA.out wd).mono ?_;rintro e t7 ⟨rfl, hb⟩;have HB1 : Hid (zW V t7) := HB0.trans (hb.mono HB0.size);clear HB0 hb;have HB0 := HB1;clear HB1;refine hK.out _ _ (Out.of_below HB0.out) (fun hHeld => ?_);clear hK K;refine zR 7 56 rfl fun K hK => ?_
      go_simp;refine (EB.out t7).mono ?_;rintro e t8 ⟨rfl, hb⟩;have HB1 : Hid (zW V t8) := HB0.trans (hb.mono HB0.size);clear HB0 hb;have HB0 := HB1;clear HB1;refine hK.out _ _ (Out.of_below HB0.out) (fun hHeld => ?_);clear hK K;refine zQ 10 59 rfl hHeld ?_;refine zR 11 60 rfl fun K hK => ?_
      obtain ⟨t9, ht9⟩ : ∃ W, W = t8.alloc (Obj.cells #[zG c.ask, zG c.rep, zI c.til] 133) := ⟨_, rfl⟩;have HR : Hid (t9.rangeAt t8.heap.size 0 (Value.agg #[zG c.ask, zG c.rep, zI c.til]).cells.toList /\ zW V t9) := by rw [ht9]; exact ⟨(Blk.new t8 133 #[zG c.ask, zG c.rep, zI c.til]).range, HB0.alloc HB0.size _⟩
      clear HB0;have HB0 : Hid (zW V t9) := HR.2;go_simp;rw [<- ht9];refine hK.out _ _ (Out.of_below HB0.out) (fun hHeld => ?_);clear hK K ht9;refine zR 12 61 rfl fun K hK => ?_
      refine step_app ktKd (o := ⟨some 61, _, _, _, _, _⟩) rfl (.tmp 50) (.tmp 60) 39 rfl iK (.agg #[zG ⟨#[]⟩, zG ⟨#[]⟩, zI 0]) 40 Tryz.underlying39 hiK hzK0 hzK1 hzK2 rfl (by decide) (w.heap.size + 2) cv (s.kept.take k) f3 c (.agg #[zG c.ask, zG c.rep, zI c.til]) (by rfl) t8.heap.size (by rfl) HR.1 ((HV.1.below HB0.out).2.2.2.1) rfl (fun y h1 h2 => by cases h1) (by have h1 := (HV.1.below HB0.out).1.2.2.2.1.lt; have h2 := HV.1.1.2.2.2.2; omega) k HN.2 (by omega) ?_;intro g6 cap6 w6 fp6 hG6 hgrow6 hf6;have hrow : ∀ q, cv.ownBlock = some q -> q ∈ f3 := fun q e => by
       obtain ⟨_, _, hr9, _, hf9, _⟩ := (HV.1.below HB0.out).2.2.2.1;rw [hf9];exact List.mem_append_left _ (Option.mem_toList.2 e)
      have K6 : Hid (KQ w w6 gO (zSe s (zS a1 n1 c1) (zS a2 n2 c2) (zS a3 n3 c3) (zS a4 n4 c4) (zS (some ⟨g, o, none⟩) n5 c5)) (zSe s (zS x1 n1 y1) (zS x2 n2 y2) (zS x3 n3 y3) pv cv) (.agg #[zS x1 n1 y1, zS x2 n2 y2, zS x3 n3 y3]) s.store fs pv s.pl f2 (zS (some ⟨g6, 0, none⟩) (k + 1) cap6) (s.kept.take (k + 1)) fp6) := by
       rw [HN.1];exact KQ.grownKt HV.1 HB0.out hG6 hgrow6 (fun q e => .inl (hrow q e)) (fun b hb => by
        rcases hf6 b hb with h | h | h
        ·exact .inl h
        ·cases h
        ·exact .inr (by rw [h]; exact HB0.size))
      have hO6 : Out (gO :: f3) V w6 := Out.grownQ (Out.of_below HB0.out) hgrow6 (fun q e => List.mem_cons_of_mem _ (hrow q e));clear hG6 hgrow6 hf6 hHeld HR HB0 hrow;refine hK.out _ _ hO6 (fun hHeld => ?_);clear hK K;refine zQ 13 62 rfl hHeld ?_;refine zN 14 rfl fun K hK => ?_
      have yc : w6.cell? ⟨gO, 7, none⟩ = some cv := K6.1.2.2.2.1.cell 7;have yf : w6.frozen? ⟨gO, 7, none⟩ = false := K6.1.2.2.2.1.free 7;go_simp;refine hK.out _ _ (hO6.setCell _ _ (List.mem_cons_self ..)) (fun hHeld => ?_);clear hK K yc yf hHeld;refine wpAnyH_done (by kernel_rfl) ?_ _;go_wp2_with fail;exact ⟨⟨k + 1, by omega, by go_num, zS (some ⟨g6, 0, none⟩) (k + 1) cap6, fp6, K6.setO 7 _⟩, by simp [intOf]; omega⟩
     ·have hkl : n5 = k := by omega
      subst hkl;have hnk : ¬ ((n5 : Int) < (n5 : Int)) := by omega
      have HE : Hid (KQ w wr gO (zSe s (zS a1 n1 c1) (zS a2 n2 c2) (zS a3 n3 c3) (zS a4 n4 c4) (zS a5 n5 c5)) (zSe s (zS x1 n1 y1) (zS x2 n2 y2) (zS x3 n3 y3) pv cv) (.agg #[zS x1 n1 y1, zS x2 n2 y2, zS x3 n3 y3]) s.store fs pv s.pl f2 cv s.kept f3) := by
       have h := H.out;rw [List.take_of_length_le (by rw [HX3.2.1]; exact Nat.le_refl _)] at h;exact h
      clear H;obtain ⟨vp, cp, hvp⟩ := HE.2.2.1.at.shape;obtain ⟨vk, ck, hvk⟩ := HE.2.2.2.1.at.shape;rw [HX2.2.1] at hvp;rw [HX3.2.1] at hvk;subst hvp hvk;have KV := HE;clear HE;obtain ⟨V, hV⟩ : ∃ W, W = wr := ⟨_, rfl⟩;rw [<- hV] at KV |-;clear hV;have hrg : V.rangeAt (gO) 0 (zSe s (zS x1 n1 y1) (zS x2 n2 y2) (zS x3 n3 y3) (zS vp n4 cp) (zS vk n5 ck)).toList := KV.1.2.2.2.1.range;have hth : V.there (w.heap.size + 1) 0 8 := KV.1.2.2.1.there rfl;obtain ⟨V2, hV2⟩ : ∃ W, W = V.setCells (w.heap.size + 1) 0 (zSe s (zS x1 n1 y1) (zS x2 n2 y2) (zS x3 n3 y3) (zS vp n4 cp) (zS vk n5 ck)).toList := ⟨_, rfl⟩;have HF : Hid (OwnSe V2 w.heap.size (.agg (zSe s (zS x1 n1 y1) (zS x2 n2 y2) (zS x3 n3 y3) (zS vp n4 cp) (zS vk n5 ck))) s (fs ++ (f2 ++ f3)) /\ zW w V2 /\ Blk V2 (w.heap.size + 1) 41 (zSe s (zS x1 n1 y1) (zS x2 n2 y2) (zS x3 n3 y3) (zS vp n4 cp) (zS vk n5 ck))) := by
       have ho := setCells_out (zSe s (zS x1 n1 y1) (zS x2 n2 y2) (zS x3 n3 y3) (zS vp n4 cp) (zS vk n5 ck)).toList V (w.heap.size + 1) 0;have hw := KV.own;rw [hV2];refine ⟨(hw.out ho fun b hb hm => ?_).base (by omega), Below.out KV.1.1 ho (fun b hb => by rw [List.mem_singleton.1 hb]; omega) KV.1.1.size, Blk.setAll KV.1.2.2.1 rfl⟩;have h1 := (hw.lt b hb).1;rw [List.mem_singleton.1 hm] at h1;omega
      go_wp2_with (first | refine wpList_load_mid rfl 41 _ rfl (gO) 0 rfl _ _ hrg Tryz.underlying41 rfl (by kernel_rfl) ?_ | (refine step_storeV rfl 41 _ _ rfl (w.heap.size + 1) 0 #[zS x1 n1 y1, zS x2 n2 y2, zS x3 n3 y3, zS vp n4 cp, zI s.house, zI s.now, zI s.fresh, zS vk n5 ck] rfl rfl hth (by kernel_rfl) (by simp [Value.oneCell']) hV2 ?_; clear hV2 hth));have r0 : V2.cell? ⟨w.heap.size + 1, 0, none⟩ = some (zS x1 n1 y1) := HF.2.2.cell 0;have r1 : V2.cell? ⟨w.heap.size + 1, 1, none⟩ = some (zS x2 n2 y2) := HF.2.2.cell 1;have r2 : V2.cell? ⟨w.heap.size + 1, 2, none⟩ = some (zS x3 n3 y3) := HF.2.2.cell 2;have r3 : V2.cell? ⟨w.heap.size + 1, 3, none⟩ = some (zS vp n4 cp) := HF.2.2.cell 3;have r4 : V2.cell? ⟨w.heap.size + 1, 4, none⟩ = some (zI s.house) := HF.2.2.cell 4;have r5 : V2.cell? ⟨w.heap.size + 1, 5, none⟩ = some (zI s.now) := HF.2.2.cell 5;have r6 : V2.cell? ⟨w.heap.size + 1, 6, none⟩ = some (zI s.fresh) := HF.2.2.cell 6;have r7 : V2.cell? ⟨w.heap.size + 1, 7, none⟩ = some (zS vk n5 ck) := HF.2.2.cell 7
      try clear hrg
      refine bodyPost_ret (v := .agg (zSe s (zS x1 n1 y1) (zS x2 n2 y2) (zS x3 n3 y3) (zS vp n4 cp) (zS vk n5 ck))) (by simp [results, Tryz.results101, go_sem, r0, r1, r2, r3, r4, r5, r6, r7]) rfl (by first | exact ⟨_, _, rfl, HF.1, HF.2.1⟩ | exact ⟨_, rfl, ⟨_, HF.1⟩, HF.2.1⟩)
end Go.Proofs.YtabfamhaihnccaaGreat
