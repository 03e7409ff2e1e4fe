/-
  Texts of the proof.
-/
import Derived.Test.YtagmnlmfoanelaaGreatSK29
namespace Go.Proofs.YtagmnlmfoanelaaGreat
open Go.RowKit
set_option linter.unusedVariables false
set_option linter.unusedSimpArgs false
def KN (w W : World) (lo gO : Nat) (O : Array Value) (bb : Bool) (v1 : Value) (l1 : List Wa) (f1 : List Nat) (v2 : Value) (l2 : List Gt) (f2 : List Nat) (v3 : Value) (l3 : List Int) (f3 : List Nat) : Prop :=
 (Below w.heap.size w W /\ Blk W gO 35 O /\ lo <= gO /\ w.heap.size <= lo) /\ OwnS waKd W lo v1 l1 f1 /\ OwnX (gtB bb) W lo v2 l2 f2 /\ OwnIF W lo v3 l3 f3 /\ (gO ∉ f1 /\ gO ∉ f2 /\ gO ∉ f3) /\ ((∀ b ∈ f1, b ∉ f2) /\ (∀ b ∈ f1, b ∉ f3) /\ (∀ b ∈ f2, b ∉ f3))
section
variable {w W W' : World} {lo gO : Nat} {O : Array Value} {bb : Bool} {v1 v2 v3 : Value} {l1 : List Wa} {f1 : List Nat} {l2 : List Gt} {f2 : List Nat} {l3 : List Int} {f3 : List Nat}
theorem KN.below (h : KN w W lo gO O bb v1 l1 f1 v2 l2 f2 v3 l3 f3) (hb : Below W.heap.size W W') : KN w W' lo gO O bb v1 l1 f1 v2 l2 f2 v3 l3 f3 :=
 ⟨⟨h.1.1.trans (hb.mono h.1.1.size), h.1.2.1.below hb h.1.2.1.lt, h.1.2.2⟩, h.2.1.stays hb, h.2.2.1.stays hb, h.2.2.2.1.stays hb, h.2.2.2.2⟩
theorem KN.setO (h : KN w W lo gO O bb v1 l1 f1 v2 l2 f2 v3 l3 f3) (i : Nat) (v : Value) : KN w (W.setCell ⟨gO, i, none⟩ v) lo gO (O.setIfInBounds i v) bb v1 l1 f1 v2 l2 f2 v3 l3 f3 := by
 have hn := h.2.2.2.2.1
 have ho : ∀ b, b ≠ gO -> (W.setCell ⟨gO, i, none⟩ v).heap[b]? = W.heap[b]? := fun b hb => heap_setCell_other _ _ _ _ hb
 exact ⟨⟨Below.setCell h.1.1 (by show w.heap.size <= gO; have := h.1.2.2; omega) _, h.1.2.1.set i v, h.1.2.2⟩, h.2.1.same fun b hb => ho b (fun e => hn.1 (e ▸ hb)), h.2.2.1.same fun b hb => ho b (fun e => hn.2.1 (e ▸ hb)), h.2.2.2.1.same fun b hb => ho b (fun e => hn.2.2 (e ▸ hb)), h.2.2.2.2⟩
theorem KN.other (h : KN w W lo gO O bb v1 l1 f1 v2 l2 f2 v3 l3 f3) {g : Nat} (hg : w.heap.size <= g) (h0 : g ≠ gO) (h1 : g ∉ f1) (h2 : g ∉ f2) (h3 : g ∉ f3) (i : Nat) (us : List Value) : KN w (W.setCells g i us) lo gO O bb v1 l1 f1 v2 l2 f2 v3 l3 f3 := by
 have ho := setCells_out us W g i
 have hs : ∀ b, b < W.heap.size -> b ≠ g -> (W.setCells g i us).heap[b]? = W.heap[b]? := fun b hb hn => ho.2.2.2.2 b hb (fun hm => hn (List.mem_singleton.1 hm))
 exact ⟨⟨h.1.1.trans (ho.below (fun b hb => by rw [List.mem_singleton.1 hb]; exact hg) h.1.1.size), (hs _ h.1.2.1.lt (fun e => h0 e.symm)).trans h.1.2.1, h.1.2.2⟩, h.2.1.same fun b hb => hs b (h.2.1.lt b hb).2 (fun e => h1 (e ▸ hb)), h.2.2.1.same fun b hb => hs b (h.2.2.1.lt b hb).2 (fun e => h2 (e ▸ hb)), h.2.2.2.1.same fun b hb => hs b (h.2.2.2.1.lt b hb).2 (fun e => h3 (e ▸ hb)), h.2.2.2.2⟩
theorem KN.lts (h : KN w W lo gO O bb v1 l1 f1 v2 l2 f2 v3 l3 f3) : gO < W.heap.size /\ (∀ b ∈ f1, b < W.heap.size) /\ (∀ b ∈ f2, b < W.heap.size) /\ ∀ b ∈ f3, b < W.heap.size := ⟨h.1.2.1.lt, fun b hb => (h.2.1.lt b hb).2, fun b hb => (h.2.2.1.lt b hb).2, fun b hb => (h.2.2.2.1.lt b hb).2⟩
theorem KN.own {key : ByteArray} {now : Int} (h : KN w W lo gO O bb v1 l1 f1 v2 l2 f2 v3 l3 f3) : OwnCn bb W lo (.agg #[.string key, .int .i64 now, v1, v2, v3]) ⟨key, now, l1, l2, l3⟩ (f1 ++ (f2 ++ f3)) := by
 have d := h.2.2.2.2.2
 refine ⟨v1, v2, v3, f1, f2, f3, rfl, h.2.1, h.2.2.1, h.2.2.2.1, rfl, nodup_app h.2.1.nodup (nodup_app h.2.2.1.nodup h.2.2.2.1.nodup d.2.2) fun y h1 h2 => ?_⟩
 rcases List.mem_append.1 h2 with h2 | h2
 ·exact d.1 y h1 h2
 ·exact d.2.1 y h1 h2
end
section
variable {w W W' : World} {lo gO : Nat} {O : Array Value} {bb : Bool} {v1 v2 v3 : Value} {l1 : List Wa} {f1 : List Nat} {l2 : List Gt} {f2 : List Nat} {l3 : List Int} {f3 : List Nat}
theorem KN.grown1 {W2 : World} {v1' : Value} {l1' : List Wa} {f1' : List Nat} {row : Option Nat} (h0 : KN w W lo gO O bb v1 l1 f1 v2 l2 f2 v3 l3 f3) (hb : Below W.heap.size W W2) (hO : OwnS waKd W' lo v1' l1' f1') (hg : W2.grownBy W' row) (hr : ∀ q, row = some q -> q ∈ f1 ∨ W.heap.size <= q) (hf : ∀ b ∈ f1', b ∈ f1 ∨ W.heap.size <= b) :
  KN w W' lo gO O bb v1' l1' f1' v2 l2 f2 v3 l3 f3 := by
 have h := h0.below hb
 have hl := h0.lts
 have hw := h0.1.1.size
 have hgw := h0.1.2.2
 have own : ∀ b ∈ f1, lo <= b := fun b hb => (h0.2.1.lt b hb).1
 have ne : ∀ b, (b = gO ∨ b ∈ f2 ∨ b ∈ f3) -> row ≠ some b := fun b hb e => by
  have hb1 : b < W.heap.size := by
   rcases hb with rfl | hb | hb
   ·exact hl.1
   ·exact hl.2.2.1 b hb
   ·exact hl.2.2.2 b hb
  rcases hr b e with hq | hq
  ·rcases hb with rfl | hb | hb
   ·exact h0.2.2.2.2.1.1 hq
   ·exact h0.2.2.2.2.2.1 b hq hb
   ·exact h0.2.2.2.2.2.2.1 b hq hb
  ·omega
 have keep : ∀ b, b < W2.heap.size -> (b = gO ∨ b ∈ f2 ∨ b ∈ f3) -> W'.heap[b]? = W2.heap[b]? := fun b h1 h2 => hg.block b h1 (fun e => ne b h2 e.symm)
 have new : ∀ b, b < W.heap.size -> b ∈ f1' -> b ∈ f1 := fun b h1 h2 => by
  rcases hf b h2 with hq | hq
  ·exact hq
  ·omega
 refine ⟨⟨h.1.1.grown hg h.1.1.size (fun q e => ?_), (keep _ h.1.2.1.lt (.inl rfl)).trans h.1.2.1, hgw⟩, hO, h.2.2.1.same fun b hb => keep b (h.2.2.1.lt b hb).2 (.inr (.inl hb)), h.2.2.2.1.same fun b hb => keep b (h.2.2.2.1.lt b hb).2 (.inr (.inr hb)), ⟨fun hm => h0.2.2.2.2.1.1 (new _ hl.1 hm), h0.2.2.2.2.1.2.1, h0.2.2.2.2.1.2.2⟩, ⟨fun b h1 h2 => h0.2.2.2.2.2.1 b (new b (hl.2.2.1 b h2) h1) h2, fun b h1 h2 => h0.2.2.2.2.2.2.1 b (new b (hl.2.2.2 b h2) h1) h2, h0.2.2.2.2.2.2.2⟩⟩
 rcases hr q e with hq | hq
 ·have := own q hq; omega
 ·omega
end
section
variable {w W W' : World} {lo gO : Nat} {O : Array Value} {bb : Bool} {v1 v2 v3 : Value} {l1 : List Wa} {f1 : List Nat} {l2 : List Gt} {f2 : List Nat} {l3 : List Int} {f3 : List Nat}
theorem KN.grown2 {W2 : World} {v2' : Value} {l2' : List Gt} {f2' : List Nat} {row : Option Nat} (h0 : KN w W lo gO O bb v1 l1 f1 v2 l2 f2 v3 l3 f3) (hb : Below W.heap.size W W2) (hO : OwnX (gtB bb) W' lo v2' l2' f2') (hg : W2.grownBy W' row) (hr : ∀ q, row = some q -> q ∈ f2 ∨ W.heap.size <= q) (hf : ∀ b ∈ f2', b ∈ f2 ∨ W.heap.size <= b) :
  KN w W' lo gO O bb v1 l1 f1 v2' l2' f2' v3 l3 f3 := by
 have h := h0.below hb
 have hl := h0.lts
 have hw := h0.1.1.size
 have hgw := h0.1.2.2
 have own : ∀ b ∈ f2, lo <= b := fun b hb => (h0.2.2.1.lt b hb).1
 have ne : ∀ b, (b = gO ∨ b ∈ f1 ∨ b ∈ f3) -> row ≠ some b := fun b hb e => by
  have hb1 : b < W.heap.size := by
   rcases hb with rfl | hb | hb
   ·exact hl.1
   ·exact hl.2.1 b hb
   ·exact hl.2.2.2 b hb
  rcases hr b e with hq | hq
  ·rcases hb with rfl | hb | hb
   ·exact h0.2.2.2.2.1.2.1 hq
   ·exact h0.2.2.2.2.2.1 b hb hq
   ·exact h0.2.2.2.2.2.2.2 b hq hb
  ·omega
 have keep : ∀ b, b < W2.heap.size -> (b = gO ∨ b ∈ f1 ∨ b ∈ f3) -> W'.heap[b]? = W2.heap[b]? := fun b h1 h2 => hg.block b h1 (fun e => ne b h2 e.symm)
 have new : ∀ b, b < W.heap.size -> b ∈ f2' -> b ∈ f2 := fun b h1 h2 => by
  rcases hf b h2 with hq | hq
  ·exact hq
  ·omega
 refine ⟨⟨h.1.1.grown hg h.1.1.size (fun q e => ?_), (keep _ h.1.2.1.lt (.inl rfl)).trans h.1.2.1, hgw⟩, h.2.1.same fun b hb => keep b (h.2.1.lt b hb).2 (.inr (.inl hb)), hO, h.2.2.2.1.same fun b hb => keep b (h.2.2.2.1.lt b hb).2 (.inr (.inr hb)), ⟨h0.2.2.2.2.1.1, fun hm => h0.2.2.2.2.1.2.1 (new _ hl.1 hm), h0.2.2.2.2.1.2.2⟩, ⟨fun b h1 h2 => h0.2.2.2.2.2.1 b h1 (new b (hl.2.1 b h1) h2), h0.2.2.2.2.2.2.1, fun b h1 h2 => h0.2.2.2.2.2.2.2 b (new b (hl.2.2.2 b h2) h1) h2⟩⟩
 rcases hr q e with hq | hq
 ·have := own q hq; omega
 ·omega
end
section
variable {w W W' : World} {lo gO : Nat} {O : Array Value} {bb : Bool} {v1 v2 v3 : Value} {l1 : List Wa} {f1 : List Nat} {l2 : List Gt} {f2 : List Nat} {l3 : List Int} {f3 : List Nat}
theorem KN.grown3 {W2 : World} {v3' : Value} {l3' : List Int} {f3' : List Nat} {row : Option Nat} (h0 : KN w W lo gO O bb v1 l1 f1 v2 l2 f2 v3 l3 f3) (hb : Below W.heap.size W W2) (hO : OwnIF W' lo v3' l3' f3') (hg : W2.grownBy W' row) (hr : ∀ q, row = some q -> q ∈ f3 ∨ W.heap.size <= q) (hf : ∀ b ∈ f3', b ∈ f3 ∨ W.heap.size <= b) :
  KN w W' lo gO O bb v1 l1 f1 v2 l2 f2 v3' l3' f3' := by
 have h := h0.below hb
 have hl := h0.lts
 have hw := h0.1.1.size
 have hgw := h0.1.2.2
 have own : ∀ b ∈ f3, lo <= b := fun b hb => (h0.2.2.2.1.lt b hb).1
 have ne : ∀ b, (b = gO ∨ b ∈ f1 ∨ b ∈ f2) -> row ≠ some b := fun b hb e => by
  have hb1 : b < W.heap.size := by
   rcases hb with rfl | hb | hb
   ·exact hl.1
   ·exact hl.2.1 b hb
   ·exact hl.2.2.1 b hb
  rcases hr b e with hq | hq
  ·rcases hb with rfl | hb | hb
   ·exact h0.2.2.2.2.1.2.2 hq
   ·exact h0.2.2.2.2.2.2.1 b hb hq
   ·exact h0.2.2.2.2.2.2.2 b hb hq
  ·omega
 have keep : ∀ b, b < W2.heap.size -> (b = gO ∨ b ∈ f1 ∨ b ∈ f2) -> W'.heap[b]? = W2.heap[b]? := fun b h1 h2 => hg.block b h1 (fun e => ne b h2 e.symm)
 have new : ∀ b, b < W.heap.size -> b ∈ f3' -> b ∈ f3 := fun b h1 h2 => by
  rcases hf b h2 with hq | hq
  ·exact hq
  ·omega
 refine ⟨⟨h.1.1.grown hg h.1.1.size (fun q e => ?_), (keep _ h.1.2.1.lt (.inl rfl)).trans h.1.2.1, hgw⟩, h.2.1.same fun b hb => keep b (h.2.1.lt b hb).2 (.inr (.inl hb)), h.2.2.1.same fun b hb => keep b (h.2.2.1.lt b hb).2 (.inr (.inr hb)), hO, ⟨h0.2.2.2.2.1.1, h0.2.2.2.2.1.2.1, fun hm => h0.2.2.2.2.1.2.2 (new _ hl.1 hm)⟩, ⟨h0.2.2.2.2.2.1, fun b h1 h2 => h0.2.2.2.2.2.2.1 b h1 (new b (hl.2.1 b h1) h2), fun b h1 h2 => h0.2.2.2.2.2.2.2 b h1 (new b (hl.2.2.1 b h1) h2)⟩⟩
 rcases hr q e with hq | hq
 ·have := own q hq; omega
 ·omega
end
theorem wp_app_wa {w : World} {o : Oper} {a : Act} {K : Act -> World -> Prop} {Q : Exit -> Act -> World -> Prop} (p q : Operand) (ho : o.op = .call { callee := .builtin .append, args := #[p, q], argTypes := #[32, 32] })
  (base gB : Nat) (hp : a.eval p = .slice (some ⟨gB, 0, none⟩) 0 0) (hown : w.ownsRow base 57 4 (.slice (some ⟨gB, 0, none⟩) 0 0) 0 []) (u : Value) (l : List Wa) (hq : a.eval q = u) (hu : ShS waKd w u l) (n : Nat) (hn : l.length = n) (hl : n <= 10000000) (hbase : base <= w.heap.size)
  (h : ∀ g cap w', OwnS waKd w' base (.slice (some ⟨g, 0, none⟩) n cap) l [g] -> (g = gB ∨ g = w.heap.size) -> w.grownBy w' (some gB) -> K (a.put o.dst (.slice (some ⟨g, 0, none⟩) n cap)) w') : Oper.wp Tryz.prog o a w K Q := by
 subst hn
 obtain ⟨i0, hi, hz0, hz1, hz2⟩ := info_parts infoWa
 obtain ⟨us, hul, he, hv⟩ := hu.vals
 have own : ∀ (w' : World) (g cap : Nat), w'.ownsRow base 57 4 (.slice (some ⟨g, 0, none⟩) l.length cap) l.length (cellsV us) -> OwnS waKd w' base (.slice (some ⟨g, 0, none⟩) l.length cap) l [g] := fun w' g cap hr => by
  refine ⟨us, hul, hr, fun j h1 h2 => he j h1 h2, ?_, by simp⟩
  have : us.flatMap waKd.fp = [] := by rw [List.flatMap_eq_nil_iff]; intro x hx; rfl
  rw [this]
  rfl
 by_cases h0 : l.length = 0
 ·have hle : l = [] := List.eq_nil_of_length_eq_zero h0
  subst hle
  have hue : us = [] := List.eq_nil_of_length_eq_zero hul
  subst hue
  have hsrc : Src Tryz.prog i0.size 32 u 0 [] w := by
   rcases hv with ⟨rfl, _⟩ | ⟨ad, cap, rfl, hc⟩
   ·exact Src.ofNil w Tryz.underlying32 0
   ·exact Src.ofSlice w Tryz.underlying32 ad 0 cap [] (by simp) (fun j x hx => by simp at hx) (fun x hx => by cases hx)
  have hr := run_append_room_src (P := Tryz.prog) w 32 32 o.type 57 i0 Tryz.underlying32 hi gB 0 0 0 u 0 [] hsrc (Nat.le_refl _) (fun j hj => by simp at hj) (fun j hj => by simp at hj)
  unfold Oper.wp execOp
  simp only [ho, resolve, invoke, builtin, Sem.run_bind, Sem.run_pure, Result.andThen_ok, List.map_toArray, List.map_cons, List.map_nil, hp, hq, hr]
  exact h gB 0 w (own w gB 0 hown) (.inl rfl) (World.grownBy.refl _ _)
 ·rcases hv with ⟨_, rfl⟩ | ⟨ad, cap, rfl, hc⟩
  ·exact absurd rfl h0
  ·refine wp_append_lies w p q 32 ho base 57 i0 (.agg #[.int .i64 0, .int .i64 0, .string ⟨#[]⟩, .int .i64 0]) 4 40 Tryz.underlying32 hi hz0 hz1 hz2 rfl (by decide) _ 0 [] hp hown ad l.length cap (cellsV us) hq (len_of (k := waKd) hul he) hc (ones_of (k := waKd) hul he) (by omega) (by unfold maxLen; omega) (by omega) hbase _ rfl ?_
   intro g cap2 w' hown2 hgrow hg hlt
   rw [Nat.zero_add] at hown2 |-
   refine h g cap2 w' (own w' g cap2 hown2) ?_ hgrow
   rcases hg with hg | hg
   ·left
    simp [Value.ownBlock] at hg
    exact hg.symm
   ·exact .inr hg
theorem wpList_app_wa {w : World} {ops : Array Oper} {rest : List Oper} {o : Oper} {a : Act} {Q : Exit -> Act -> World -> Prop} (hgd : o.guard = none) (p q : Operand) (ho : o.op = .call { callee := .builtin .append, args := #[p, q], argTypes := #[32, 32] })
  (base gB : Nat) (hp : a.eval p = .slice (some ⟨gB, 0, none⟩) 0 0) (hown : w.ownsRow base 57 4 (.slice (some ⟨gB, 0, none⟩) 0 0) 0 []) (u : Value) (l : List Wa) (hq : a.eval q = u) (hu : ShS waKd w u l) (n : Nat) (hn : l.length = n) (hl : n <= 10000000) (hbase : base <= w.heap.size)
  (h : ∀ g cap w', OwnS waKd w' base (.slice (some ⟨g, 0, none⟩) n cap) l [g] -> (g = gB ∨ g = w.heap.size) -> w.grownBy w' (some gB) -> wpList Tryz.prog ops Q rest (a.put o.dst (.slice (some ⟨g, 0, none⟩) n cap)) w') : wpList Tryz.prog ops Q (o :: rest) a w :=
 wpList_plain hgd fun _ hK => wp_app_wa p q ho base gB hp hown u l hq hu n hn hl hbase fun g cap w' h1 h2 h3 => hK _ _ (h g cap w' h1 h2 h3)
def idAt {α : Type} (f : α -> Int) : List α -> Int -> Nat -> Int
 | [], _, _ => -1
 | c :: l, id, k => if f c = id then (k : Int) else idAt f l id (k + 1)
theorem idAt_drop {α : Type} {f : α -> Int} {l : List α} {id : Int} {k : Nat} (hk : k < l.length) : idAt f (l.drop k) id k = if f l[k] = id then (k : Int) else idAt f (l.drop (k + 1)) id (k + 1) := by
 rw [List.drop_eq_getElem_cons hk]
 rfl
theorem idAt_end {α : Type} {f : α -> Int} {l : List α} {id : Int} {k : Nat} (hk : l.length <= k) : idAt f (l.drop k) id k = -1 := by
 rw [List.drop_eq_nil_of_le hk]
 rfl
theorem OwnX.each {α : Type} {k : Kx α} {w : World} {base : Nat} {v : Value} {l : List α} {fp : List Nat} (h : OwnX k w base v l fp) : RowS k.K w.heap.size (fun u c => ∃ f, k.Own w base u c f) w v l := by
 obtain ⟨vs, fs, hl, hf, hr, he, hfp, hn⟩ := h
 have hlt := hr.lt
 have hsz := OwnX.sizes hl hf he
 have hr' := hr
 rcases hr.2 with ⟨hv, h0⟩ | ⟨g, cap, cur, hv, hbg, hg, hnc, hcm, hcs, htk⟩
 ·exact ⟨none, 0, by rw [hv, h0], fun j hj => by omega⟩
 ·refine ⟨some ⟨g, 0, none⟩, cap, hv, fun j hj => ⟨g, 0, vs[j]'(by omega), rfl, (hlt g (by rw [hv]; rfl)).2, ⟨fs[j]'(by omega), he j (by omega) hj (by omega)⟩, hsz _ (List.getElem_mem _), fun i x hx => ?_⟩⟩
  have hi : i < k.K := by
   have := (Array.getElem?_eq_some_iff.1 hx).1
   rw [hsz _ (List.getElem_mem _)] at this
   exact this
  rw [hv] at hr'
  have hjK : j * k.K + i < l.length * k.K := by
   have := Nat.mul_le_mul_right k.K (show j + 1 <= l.length by omega)
   rw [Nat.succ_mul] at this
   omega
  rw [Nat.zero_add, World.ownsRow.cellAt hr' _ hjK, cellsV_at hsz j (by omega) i hi]
  exact hx
def KP (w W : World) (P Z : Array Value) (lo gO : Nat) (O : Array Value) (bb : Bool) (v1 : Value) (l1 : List Wa) (f1 : List Nat) (v2 : Value) (l2 : List Gt) (f2 : List Nat) (v3 : Value) (l3 : List Int) (f3 : List Nat) : Prop :=
 KN w W lo gO O bb v1 l1 f1 v2 l2 f2 v3 l3 f3 /\ Blk W w.heap.size 35 P /\ Blk W (w.heap.size + 1) 35 Z /\ w.heap.size + 2 <= lo
section
variable {w W W' : World} {P Z : Array Value} {lo gO : Nat} {O : Array Value} {bb : Bool} {v1 v2 v3 : Value} {l1 : List Wa} {f1 : List Nat} {l2 : List Gt} {f2 : List Nat} {l3 : List Int} {f3 : List Nat}
theorem KP.below (h : KP w W P Z lo gO O bb v1 l1 f1 v2 l2 f2 v3 l3 f3) (hb : Below W.heap.size W W') : KP w W' P Z lo gO O bb v1 l1 f1 v2 l2 f2 v3 l3 f3 := ⟨h.1.below hb, h.2.1.below hb h.2.1.lt, h.2.2.1.below hb h.2.2.1.lt, h.2.2.2⟩
theorem KP.setO (h : KP w W P Z lo gO O bb v1 l1 f1 v2 l2 f2 v3 l3 f3) (i : Nat) (v : Value) : KP w (W.setCell ⟨gO, i, none⟩ v) P Z lo gO (O.setIfInBounds i v) bb v1 l1 f1 v2 l2 f2 v3 l3 f3 := by
 have h1 := h.1.1.2.2.1
 have h2 := h.2.2.2
 exact ⟨h.1.setO i v, (heap_setCell_other _ _ _ _ (by show w.heap.size ≠ gO; omega)).trans h.2.1, (heap_setCell_other _ _ _ _ (by show w.heap.size + 1 ≠ gO; omega)).trans h.2.2.1, h2⟩
theorem KP.lows {W2 : World} {row : Option Nat} {f : List Nat} (h0 : KP w W P Z lo gO O bb v1 l1 f1 v2 l2 f2 v3 l3 f3) (hb : Below W.heap.size W W2) (hf : ∀ b ∈ f, lo <= b) (hg : W2.grownBy W' row) (hr : ∀ q, row = some q -> q ∈ f ∨ W.heap.size <= q) : Blk W' w.heap.size 35 P /\ Blk W' (w.heap.size + 1) 35 Z /\ w.heap.size + 2 <= lo := by
 have ne : ∀ b, b < lo -> b < W.heap.size -> row ≠ some b := fun b h1 h2 e => by
  rcases hr b e with hq | hq
  ·have := hf b hq; omega
  ·omega
 have h2 := h0.2.2.2
 have h3 := (h0.2.1.below hb h0.2.1.lt)
 have h4 := (h0.2.2.1.below hb h0.2.2.1.lt)
 exact ⟨(hg.block _ h3.lt (fun e => ne _ (by omega) h0.2.1.lt e.symm)).trans h3, (hg.block _ h4.lt (fun e => ne _ (by omega) h0.2.2.1.lt e.symm)).trans h4, h2⟩
theorem KP.grown1 {W2 : World} {v1' : Value} {l1' : List Wa} {f1' : List Nat} {row : Option Nat} (h0 : KP w W P Z lo gO O bb v1 l1 f1 v2 l2 f2 v3 l3 f3) (hb : Below W.heap.size W W2) (hO : OwnS waKd W' lo v1' l1' f1') (hg : W2.grownBy W' row) (hr : ∀ q, row = some q -> q ∈ f1 ∨ W.heap.size <= q) (hf : ∀ b ∈ f1', b ∈ f1 ∨ W.heap.size <= b) : KP w W' P Z lo gO O bb v1' l1' f1' v2 l2 f2 v3 l3 f3 :=
 ⟨h0.1.grown1 hb hO hg hr hf, h0.lows hb (fun b hb => (h0.1.2.1.lt b hb).1) hg hr⟩
theorem KP.grown2 {W2 : World} {v2' : Value} {l2' : List Gt} {f2' : List Nat} {row : Option Nat} (h0 : KP w W P Z lo gO O bb v1 l1 f1 v2 l2 f2 v3 l3 f3) (hb : Below W.heap.size W W2) (hO : OwnX (gtB bb) W' lo v2' l2' f2') (hg : W2.grownBy W' row) (hr : ∀ q, row = some q -> q ∈ f2 ∨ W.heap.size <= q) (hf : ∀ b ∈ f2', b ∈ f2 ∨ W.heap.size <= b) : KP w W' P Z lo gO O bb v1 l1 f1 v2' l2' f2' v3 l3 f3 :=
 ⟨h0.1.grown2 hb hO hg hr hf, h0.lows hb (fun b hb => (h0.1.2.2.1.lt b hb).1) hg hr⟩
theorem KP.grown3 {W2 : World} {v3' : Value} {l3' : List Int} {f3' : List Nat} {row : Option Nat} (h0 : KP w W P Z lo gO O bb v1 l1 f1 v2 l2 f2 v3 l3 f3) (hb : Below W.heap.size W W2) (hO : OwnIF W' lo v3' l3' f3') (hg : W2.grownBy W' row) (hr : ∀ q, row = some q -> q ∈ f3 ∨ W.heap.size <= q) (hf : ∀ b ∈ f3', b ∈ f3 ∨ W.heap.size <= b) : KP w W' P Z lo gO O bb v1 l1 f1 v2 l2 f2 v3' l3' f3' :=
 ⟨h0.1.grown3 hb hO hg hr hf, h0.lows hb (fun b hb => (h0.1.2.2.2.1.lt b hb).1) hg hr⟩
end
theorem OwnX.made {α : Type} (k : Kx α) (w : World) (base : Nat) (hb : base <= w.heap.size) : OwnX k (w.alloc (.cells #[] k.T)) base (.slice (some ⟨w.heap.size, 0, none⟩) 0 0) [] [w.heap.size] :=
 ⟨[], [], rfl, rfl, World.ownsRow_made w #[] 0 hb (Nat.zero_le _) (by simp), fun j h => absurd h (Nat.not_lt_zero _), rfl, by simp⟩
theorem step_appX {α : Type} (k : Kx α) {w : World} {ops : Array Oper} {o : Oper} {a : Act} {K : Act -> World -> Prop} {Q : Exit -> Act -> World -> Prop} {E : Prop} (hgd : o.guard = none) (p q : Operand) (t : TypeId) (ho : o.op = .call { callee := .builtin .append, args := #[p, q], argTypes := #[t, t] })
  (i0 : TypeInfo) (z : Value) (bytes : Nat) (ht : Tryz.prog.underlying t = some (.slice k.T)) (hi : Tryz.prog.info? k.T = some i0) (hz0 : i0.zero = some z) (hz1 : i0.size = k.K) (hz2 : i0.bytes = bytes) (hzs : z.cells.size = k.K) (hby : bytes <= 1000)
  (base : Nat) (v : Value) (l : List α) (fp : List Nat) (c : α) (u : Value) (f : List Nat) (hp : a.eval p = v) (g1 : Nat) (hq : a.eval q = .slice (some ⟨g1, 0, none⟩) 1 1) (hB : w.rangeAt g1 0 u.cells.toList) (hO : OwnX k w base v l fp) (hu : k.Own w base u c f) (hd : ∀ b ∈ f, b ∉ fp) (hbase : base <= w.heap.size) (n : Nat) (hln : l.length = n) (hl : n <= 100000000)
  (h : ∀ g cap w' fp', OwnX k w' base (.slice (some ⟨g, 0, none⟩) (n + 1) cap) (l ++ [c]) fp' -> w.grownBy w' v.ownBlock -> (∀ q, v.ownBlock = some q -> q ∈ fp) -> (∀ b ∈ fp', b ∈ fp ∨ b ∈ f ∨ b = w.heap.size) -> K (a.put o.dst (.slice (some ⟨g, 0, none⟩) (n + 1) cap)) w') :
  if Region.wanted o (yielded ops a.tmps) = true then Oper.wp Tryz.prog o a w K Q else E := by
 subst hln
 obtain ⟨vs, fs, hvl, hfl, hro, he, rfl, hn⟩ := hO
 refine step_append_lies _ hgd p q t ho base k.T i0 z k.K bytes ht hi hz0 hz1 hz2 hzs k.pos v l.length (cellsV vs) hp hro ⟨g1, 0, none⟩ 1 1 u.cells.toList hq (by rw [Array.length_toList, (k.size hu).1]; omega) (fun j x hx => by rw [Addr.add_lit, Nat.zero_add]; have := hB j x hx; rw [Nat.zero_add] at this; exact this) (k.size hu).2 (by decide) (by unfold maxLen; omega) (by have := Nat.mul_le_mul (show l.length + 1 <= 100000001 by omega) hby; omega) hbase _ rfl ?_
 intro g cap w' hown hgrow hg hlt2
 have hS := OwnX.snoc (k := k) (c := c) (u := u) hvl hfl he hn hu hd hown hgrow hg
 rw [List.length_append] at hS
 refine h g cap w' _ hS hgrow (fun q e => List.mem_append_left _ (Option.mem_toList.2 e)) fun b hb => ?_
 rcases List.mem_cons.1 hb with rfl | hb
 ·rcases hg with hg | hg
  ·exact .inl (List.mem_append_left _ (Option.mem_toList.2 hg))
  ·exact .inr (.inr hg)
 ·rw [List.flatten_append, List.flatten_singleton] at hb
  rcases List.mem_append.1 hb with hb | hb
  ·exact .inl (List.mem_append_right _ hb)
  ·exact .inr (.inl hb)
end Go.Proofs.YtagmnlmfoanelaaGreat
