/-
  Texts of the proof, one behind the other: ItF, ItG, CrJ.
-/
import Derived.Test.YtfgkpjjjjnollaaGreatDoorSC4
import Derived.Test.YtfgkpjjjjnollaaGreatDoorSC5
import Derived.Test.YtfgkpjjjjnollaaGreatDoorSC6

/-
  The laws' toItemS.
-/
namespace Go.Proofs.YtfgkpjjjjnollaaGreatDoor
open Go.RowKit Der
set_option linter.unusedVariables false

theorem infoItem : (Tryz.prog.info? 45).map (fun i => (i.zero, i.size, i.bytes)) = some (some (.agg #[.int .i64 0, .string ⟨#[]⟩, .slice none 0 0]), 3, 48) := by kernel_rfl
theorem infoItem_parts : ∃ i, Tryz.prog.info? 45 = some i ∧ i.zero = some (.agg #[.int .i64 0, .string ⟨#[]⟩, .slice none 0 0]) ∧ i.size = 3 ∧ i.bytes = 48 := by
  cases h : Tryz.prog.info? 45 with
  | none => have := infoItem; rw [h] at this; cases this
  | some i =>
    have := infoItem
    rw [h] at this
    simp only [Option.map_some, Option.some.injEq, Prod.mk.injEq] at this
    exact ⟨i, rfl, this.1, this.2.1, this.2.2⟩
theorem rowV_of {w : World} {g n : Nat} {cur : Array Value} {t : TypeId} (h : w.heap[g]? = some (.cells cur t (0, 0))) (hn : cur.size = n) : RowV w g n (fun j => cur.getD j (.int .i64 0)) := by
  refine ⟨t, ?_⟩
  rw [h]
  congr 2
  apply Array.ext'
  apply List.ext_getElem?
  intro i
  simp only [List.getElem?_map]
  by_cases hi : i < n
  · rw [List.getElem?_range hi]
    simp [Array.getD, hn, hi]
  · have e : (List.range n)[i]? = none := by simp; omega
    rw [e]
    simp
    omega
/-- What has been laid of a row of kids, behind k of them. -/
def Laid (w : World) (base g n l : Nat) (ks : List (It (n + 1))) (k : Nat) : Prop := ∃ (f : Nat → Value) (fps : List (List Nat)), RowV w g (l * 3) f ∧ fps.length = k ∧ (g :: fps.flatten).Nodup ∧
  ∀ j (hj : j < ks.length) (hj2 : j < fps.length), f (j * 3) = .int .i64 (It.tag ks[j]) ∧ f (j * 3 + 1) = .string ⟨(It.text ks[j]).toArray⟩ ∧ OwnK w base n (f (j * 3 + 2)) (It.kids ks[j]) fps[j]
theorem OwnK.nodup {w : World} {base : Nat} : ∀ {n : Nat} {v : Value} {ks : List (It n)} {fp : List Nat}, OwnK w base n v ks fp → fp.Nodup
  | 0, _, _, _, ⟨_, h⟩ => by rw [h]; exact List.nodup_nil
  | n + 1, v, ks, fp, ⟨ao, cap, hv, h0, h⟩ => by
      by_cases hp : 0 < ks.length
      · obtain ⟨g, o, c, f, fps, hao, hg, hr, hoc, hfp, hnd, hl, hk⟩ := h hp
        exact hnd
      · rw [h0 (by omega)]; exact List.nodup_nil
theorem Laid.below {w w' : World} {base g n l k : Nat} {ks : List (It (n + 1))} (h : Laid w base g n l ks k) (hl : k ≤ ks.length) (hb : Below w.heap.size w w') (hg : g < w.heap.size) : Laid w' base g n l ks k := by
  obtain ⟨f, fps, hr, hf, hn, hk⟩ := h
  refine ⟨f, fps, hr.same (hb.block g hg), hf, hn, fun j hj hj2 => ?_⟩
  obtain ⟨h1, h2, h3⟩ := hk j hj hj2
  exact ⟨h1, h2, h3.below hb fun b hm => (OwnK.lt h3 b hm).2⟩
theorem szS_kid {n : Nat} {ks : List (It n)} {b : Nat} (h : szS n ks ≤ b) : ks.length ≤ b ∧ ∀ y ∈ ks, szI n y ≤ b := by
  unfold szS at h
  exact ⟨by omega, fun y hy => by have := sum_mem (ks.map (szI n)) (szI n y) (List.mem_map.2 ⟨y, hy, rfl⟩); omega⟩

end Go.Proofs.YtfgkpjjjjnollaaGreatDoor

/-
  Marks laid into items: plain; and what stays of a row of kids when one of them is marked.
-/
namespace Go.Proofs.YtfgkpjjjjnollaaGreatDoor
open Go.RowKit Der
set_option linter.unusedVariables false

/-- Nothing but these blocks has turned. -/
def Out (fp : List Nat) (w w' : World) : Prop := w'.os = w.os ∧ w'.tape = w.tape ∧ w'.output = w.output ∧ w.heap.size ≤ w'.heap.size ∧ ∀ b, b < w.heap.size → b ∉ fp → w'.heap[b]? = w.heap[b]?
theorem Out.refl (fp : List Nat) (w : World) : Out fp w w := ⟨rfl, rfl, rfl, Nat.le_refl _, fun _ _ _ => rfl⟩
theorem Out.trans {fp : List Nat} {a b c : World} (h1 : Out fp a b) (h2 : Out fp b c) : Out fp a c :=
  ⟨h2.1.trans h1.1, h2.2.1.trans h1.2.1, h2.2.2.1.trans h1.2.2.1, Nat.le_trans h1.2.2.2.1 h2.2.2.2.1, fun k hk hn => (h2.2.2.2.2 k (Nat.lt_of_lt_of_le hk h1.2.2.2.1) hn).trans (h1.2.2.2.2 k hk hn)⟩
theorem Out.of_below {fp : List Nat} {a b : World} (h : Below a.heap.size a b) : Out fp a b := ⟨h.os, h.tape, h.output, h.size, fun k hk _ => h.block k hk⟩
theorem Out.mono {fp fq : List Nat} {a b : World} (h : Out fp a b) (hs : ∀ x ∈ fp, x ∈ fq) : Out fq a b := ⟨h.1, h.2.1, h.2.2.1, h.2.2.2.1, fun k hk hn => h.2.2.2.2 k hk fun hm => hn (hs k hm)⟩
theorem Out.setCell {fp : List Nat} {a b : World} (h : Out fp a b) (p : Addr) (v : Value) (hp : p.block ∈ fp) : Out fp a (b.setCell p v) := by
  have hb := (Below.refl 0 b).setCell (p := p) (Nat.zero_le _) v
  exact ⟨hb.os.trans h.1, hb.tape.trans h.2.1, hb.output.trans h.2.2.1, Nat.le_trans h.2.2.2.1 hb.size, fun k hk hn => by
    have hne : k ≠ p.block := fun e => hn (by rw [e]; exact hp)
    rw [heap_setCell_other b p k v hne]
    exact h.2.2.2.2 k hk hn⟩
theorem Out.below {fp : List Nat} {a b : World} {B : Nat} (h : Out fp a b) (hB : ∀ x ∈ fp, B ≤ x) (hs : B ≤ a.heap.size) : Below B a b := ⟨h.1, h.2.1, h.2.2.1, h.2.2.2.1, fun k hk => h.2.2.2.2 k (Nat.lt_of_lt_of_le hk hs) fun hm => by have := hB k hm; omega⟩
end Go.Proofs.YtfgkpjjjjnollaaGreatDoor

/-
  The laws' markCert, heldCert.
-/
namespace Go.Proofs.YtfgkpjjjjnollaaGreatDoor
open Go.RowKit
set_option linter.unusedVariables false

/-- The blocks that a letter's lists take. -/
def fpC (v : Value) : List Nat := match v with
  | .agg a => (a.getD 9 (.slice none 0 0)).ownBlock.toList ++ ((a.getD 10 (.slice none 0 0)).ownBlock.toList ++ (a.getD 11 (.slice none 0 0)).ownBlock.toList)
  | _ => []
theorem fpC_mem {c : Ct} {p e d : Value} {g : Nat} : g ∈ fpC (ctV c p e d) ↔ p.ownBlock = some g ∨ e.ownBlock = some g ∨ d.ownBlock = some g := by
  show g ∈ p.ownBlock.toList ++ (e.ownBlock.toList ++ d.ownBlock.toList) ↔ _
  simp [List.mem_append, Option.mem_toList]
theorem Out.grown {fp : List Nat} {a b c : World} {row : Option Nat} (h : Out fp a b) (hg : b.grownBy c row) (hr : ∀ q, row = some q → q ∈ fp) : Out fp a c :=
  h.trans ⟨hg.os, hg.tape, hg.output, hg.size, fun k hk hn => hg.block k hk fun e => hn (hr k e.symm)⟩
theorem Out.row {fp : List Nat} {a b : World} {v : Value} (h : Out fp a b) (hv : ∀ g, v.ownBlock = some g → g ∉ fp) : ∀ {base : Nat} {e : TypeId} {size n : Nat} {xs : List Value}, a.ownsRow base e size v n xs → b.ownsRow base e size v n xs := by
  intro base e size n xs ho
  refine ⟨ho.1, ?_⟩
  rcases ho.2 with hn | ⟨g, cap, cur, rfl, hb, hgg, rest⟩
  · exact .inl hn
  · refine .inr ⟨g, cap, cur, rfl, hb, ?_, rest⟩
    rw [h.2.2.2.2 g (Array.getElem?_eq_some_iff.1 hgg).1 (hv g rfl)]
    exact hgg
theorem OwnC.out {w w' : World} {base : Nat} {v : Value} {c : Ct} {fp : List Nat} (h : OwnC w base v c) (ho : Out fp w w') (hn : ∀ b ∈ fpC v, b ∉ fp) : OwnC w' base v c := by
  obtain ⟨p, e, d, rfl, h1, h2, h3, h4⟩ := h
  exact ⟨p, e, d, rfl, ho.row (fun g hg => hn g (fpC_mem.2 (.inl hg))) h1, ho.row (fun g hg => hn g (fpC_mem.2 (.inr (.inl hg)))) h2, ho.row (fun g hg => hn g (fpC_mem.2 (.inr (.inr hg)))) h3, h4⟩
end Go.Proofs.YtfgkpjjjjnollaaGreatDoor
