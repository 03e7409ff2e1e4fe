/-
  Texts of the proof.
-/
import Derived.Deep.RegionLaw
import Derived.Test.YtagmnlmfoanelaaGreatShelf
import Derived.Deep.WholeRow
import Derived.StillTailTactics
import Derived.Deep.RegionHeld3
import Derived.Deep.MidRow
import Derived.Laws.OwnMore
import Derived.Laws.AppendOwnNone
import Derived.Deep.AppendLies
import Derived.WalkKit
import Derived.Laws.RangeString
import Derived.Laws.RangeAny
import Derived.Lib.SlicesS
import Derived.BigQuiet
import Derived.Test.YtagmnlmfoanelaaGreatSK28
namespace Go.Proofs.YtagmnlmfoanelaaGreat
open Go.RowKit
set_option linter.unusedVariables false
set_option linter.unusedSimpArgs false
theorem pickV {n : Nat} {P : Nat -> Value -> Prop} (h : ∀ j, j < n -> ∃ y, P j y) : ∃ l : List Value, ∃ hl : l.length = n, ∀ j (hj : j < l.length), P j l[j] := by
 induction n with
 | zero => exact ⟨[], rfl, fun j hj => absurd hj (Nat.not_lt_zero _)⟩
 | succ n ih =>
  obtain ⟨l, hl, hP⟩ := ih fun j hj => h j (by omega)
  obtain ⟨y, hy⟩ := h n (by omega)
  refine ⟨l ++ [y], by simp [hl], fun j hj => ?_⟩
  by_cases e : j < l.length
  ·rw [List.getElem_append_left e]
   exact hP j e
  ·have e2 : j = l.length := by simp at hj; omega
   subst e2
   simpa [hl] using hy
theorem ShS.vals {α : Type} {k : Kd α} {w : World} {v : Value} {l : List α} (h : ShS k w v l) : ∃ us : List Value, ∃ hl : us.length = l.length, (∀ j (h1 : j < us.length) (h2 : j < l.length), k.Own w 0 us[j] l[j]) /\ ((v = .slice none 0 0 /\ l = []) ∨ ∃ ad cap, v = .slice (some ad) l.length cap /\ ∀ i x, (cellsV us)[i]? = some x -> w.cell? (ad.add i) = some x) := by
 obtain ⟨⟨ao, cap, rfl, hc⟩, hnil⟩ := h
 cases ao with
 | none =>
  have h0 : l = [] := List.eq_nil_of_length_eq_zero (by
   refine Nat.eq_zero_of_not_pos fun hp => ?_
   obtain ⟨_, _, _, h, _⟩ := hc 0 hp
   cases h)
  subst h0
  exact ⟨[], rfl, fun j h1 => absurd h1 (Nat.not_lt_zero _), .inl ⟨by rw [hnil _ _ rfl]; rfl, rfl⟩⟩
 | some ad =>
  obtain ⟨us, hl, hP⟩ := pickV (n := l.length) (P := fun j u => ∃ h2 : j < l.length, k.Own w 0 u l[j] /\ u.cells.size = k.K /\ ∀ i x, u.cells[i]? = some x -> w.cell? (ad.add (j * k.K + i)) = some x) (fun j hj => by
   obtain ⟨g, o, u, h1, _, h3, h4, h5⟩ := hc j hj
   injection h1 with h1
   refine ⟨u, hj, h3, h4, fun i x hx => ?_⟩
   rw [h1, Addr.add_lit, <- Nat.add_assoc]
   exact h5 i x hx)
  refine ⟨us, hl, fun j h1 h2 => (hP j h1).2.1, .inr ⟨ad, cap, rfl, fun i x hx => ?_⟩⟩
  have hsz : ∀ u ∈ us, u.cells.size = k.K := fun u hu => by
   obtain ⟨j, hj, rfl⟩ := List.getElem_of_mem hu
   exact (hP j hj).2.2.1
  have hil : i < us.length * k.K := by
   rw [<- cellsV_len hsz]
   exact (List.getElem?_eq_some_iff.1 hx).1
  have hd : i / k.K < us.length := Nat.div_lt_of_lt_mul (by rw [Nat.mul_comm]; exact hil)
  have hm : i % k.K < k.K := Nat.mod_lt _ k.pos
  have e : i = i / k.K * k.K + i % k.K := by rw [Nat.mul_comm]; exact (Nat.div_add_mod i k.K).symm
  have h2 := cellsV_at hsz (i / k.K) hd (i % k.K) hm
  rw [<- e, hx] at h2
  have := (hP _ hd).2.2.2 (i % k.K) x h2.symm
  rw [<- e] at this
  exact this
theorem ones_of {α : Type} {k : Kd α} {w : World} {us : List Value} {l : List α} (hl : us.length = l.length) (he : ∀ j (h1 : j < us.length) (h2 : j < l.length), k.Own w 0 us[j] l[j]) : ∀ x ∈ cellsV us, x.oneCell' = true := fun x hx => by
 obtain ⟨u, hu, hxu⟩ := List.mem_flatMap.1 hx
 obtain ⟨j, hj, rfl⟩ := List.getElem_of_mem hu
 exact (k.size (he j hj (by omega))).2 x hxu
theorem len_of {α : Type} {k : Kd α} {w : World} {us : List Value} {l : List α} (hl : us.length = l.length) (he : ∀ j (h1 : j < us.length) (h2 : j < l.length), k.Own w 0 us[j] l[j]) : (cellsV us).length = l.length * k.K := by
 rw [cellsV_len (K := k.K) (fun u hu => by
  obtain ⟨j, hj, rfl⟩ := List.getElem_of_mem hu
  exact (k.size (he j hj (by omega))).1), hl]
theorem wpList_app {α : Type} (k : Kd α) {w : World} {ops : Array Oper} {rest : List Oper} {o : Oper} {a : Act} {Q : Exit -> Act -> World -> Prop} (hgd : o.guard = none) (p q : Operand) (t : TypeId) (ho : o.op = .call { callee := .builtin .append, args := #[p, q], argTypes := #[t, t] })
  (i0 : TypeInfo) (z : Value) (bytes : Nat) (ht : Tryz.prog.underlying t = some (.slice k.T)) (hi : Tryz.prog.info? k.T = some i0) (hz0 : i0.zero = some z) (hz1 : i0.size = k.K) (hz2 : i0.bytes = bytes) (hzs : z.cells.size = k.K) (hby : bytes <= 1000)
  (base : Nat) (v : Value) (l : List α) (fp : List Nat) (c : α) (u : Value) (hp : a.eval p = v) (g1 : Nat) (hq : a.eval q = .slice (some ⟨g1, 0, none⟩) 1 1) (hB : w.rangeAt g1 0 u.cells.toList) (hO : OwnS k w base v l fp) (hu : k.Own w base u c) (hd : ∀ b ∈ k.fp u, b ∉ fp) (hbase : base <= w.heap.size) (n : Nat) (hln : l.length = n) (hl : n <= 100000000)
  (h : ∀ g cap w' fp', OwnS k w' base (.slice (some ⟨g, 0, none⟩) (n + 1) cap) (l ++ [c]) fp' -> w.grownBy w' v.ownBlock -> (∀ b ∈ fp', b ∈ fp ∨ b ∈ k.fp u ∨ b = w.heap.size) -> wpList Tryz.prog ops Q rest (a.put o.dst (.slice (some ⟨g, 0, none⟩) (n + 1) cap)) w') : wpList Tryz.prog ops Q (o :: rest) a w := by
 subst hln
 obtain ⟨vs, hvl, hro, he, rfl, hn⟩ := hO
 refine wpList_append_lies _ hgd p q t ho base k.T i0 z k.K bytes ht hi hz0 hz1 hz2 hzs k.pos v l.length (cellsV vs) hp hro ⟨g1, 0, none⟩ 1 1 u.cells.toList hq (by rw [Array.length_toList, (k.size hu).1]; omega) (fun j x hx => by rw [Addr.add_lit, Nat.zero_add]; have := hB j x hx; rw [Nat.zero_add] at this; exact this) (k.size hu).2 (by decide) (by unfold maxLen; omega) (by have := Nat.mul_le_mul (show l.length + 1 <= 100000001 by omega) hby; omega) hbase _ rfl ?_
 intro g cap w' hown hgrow hg hlt2
 obtain ⟨fp', hS, hf⟩ := OwnS.snoc (k := k) (fp := []) (c := c) (u := u) hvl hro he hn hu hd hown hgrow hg
 rw [List.length_append] at hS
 exact h g cap w' fp' hS hgrow hf
theorem wpList_appX {α : Type} (k : Kx α) {w : World} {ops : Array Oper} {rest : List Oper} {o : Oper} {a : Act} {Q : Exit -> Act -> World -> Prop} (hgd : o.guard = none) (p q : Operand) (t : TypeId) (ho : o.op = .call { callee := .builtin .append, args := #[p, q], argTypes := #[t, t] })
  (i0 : TypeInfo) (z : Value) (bytes : Nat) (ht : Tryz.prog.underlying t = some (.slice k.T)) (hi : Tryz.prog.info? k.T = some i0) (hz0 : i0.zero = some z) (hz1 : i0.size = k.K) (hz2 : i0.bytes = bytes) (hzs : z.cells.size = k.K) (hby : bytes <= 1000)
  (base : Nat) (v : Value) (l : List α) (fp : List Nat) (c : α) (u : Value) (f : List Nat) (hp : a.eval p = v) (g1 : Nat) (hq : a.eval q = .slice (some ⟨g1, 0, none⟩) 1 1) (hB : w.rangeAt g1 0 u.cells.toList) (hO : OwnX k w base v l fp) (hu : k.Own w base u c f) (hd : ∀ b ∈ f, b ∉ fp) (hbase : base <= w.heap.size) (n : Nat) (hln : l.length = n) (hl : n <= 100000000)
  (h : ∀ g cap w' fp', OwnX k w' base (.slice (some ⟨g, 0, none⟩) (n + 1) cap) (l ++ [c]) fp' -> w.grownBy w' v.ownBlock -> (∀ q, v.ownBlock = some q -> q ∈ fp) -> (∀ b ∈ fp', b ∈ fp ∨ b ∈ f ∨ b = w.heap.size) -> wpList Tryz.prog ops Q rest (a.put o.dst (.slice (some ⟨g, 0, none⟩) (n + 1) cap)) w') : wpList Tryz.prog ops Q (o :: rest) a w := by
 subst hln
 obtain ⟨vs, fs, hvl, hfl, hro, he, rfl, hn⟩ := hO
 refine wpList_append_lies _ hgd p q t ho base k.T i0 z k.K bytes ht hi hz0 hz1 hz2 hzs k.pos v l.length (cellsV vs) hp hro ⟨g1, 0, none⟩ 1 1 u.cells.toList hq (by rw [Array.length_toList, (k.size hu).1]; omega) (fun j x hx => by rw [Addr.add_lit, Nat.zero_add]; have := hB j x hx; rw [Nat.zero_add] at this; exact this) (k.size hu).2 (by decide) (by unfold maxLen; omega) (by have := Nat.mul_le_mul (show l.length + 1 <= 100000001 by omega) hby; omega) hbase _ rfl ?_
 intro g cap w' hown hgrow hg hlt2
 have hS := OwnX.snoc (k := k) (c := c) (u := u) hvl hfl he hn hu hd hown hgrow hg
 rw [List.length_append] at hS
 refine h g cap w' _ hS hgrow (fun q e => List.mem_append_left _ (Option.mem_toList.2 e)) fun b hb => ?_
 rcases List.mem_cons.1 hb with rfl | hb
 ·rcases hg with hg | hg
  ·exact .inl (List.mem_append_left _ (Option.mem_toList.2 hg))
  ·exact .inr (.inr hg)
 ·rw [List.flatten_append, List.flatten_singleton] at hb
  rcases List.mem_append.1 hb with hb | hb
  ·exact .inl (List.mem_append_right _ hb)
  ·exact .inr (.inl hb)
end Go.Proofs.YtagmnlmfoanelaaGreat
