/-
  Texts of the proof, one behind the other: CrB, MarkT, ItG.
-/
import Derived.Deep.RegionHeld3
import Derived.Laws.OwnMore
import Derived.Test.YtfgkpjjjjnollaaGreatDoorCO1
import Derived.Test.YtfgkpjjjjnollaaGreatDoorCO3
import Derived.Test.YtfgkpjjjjnollaaGreatDoorCO5

/-
  The laws' szIntS, toCert, szCert, eqCert.
-/
namespace Go.Proofs.YtfgkpjjjjnollaaGreatDoor
open Go.RowKit
set_option linter.unusedVariables false

/-- A block of cells that a call laid. -/
def Blk (w : World) (b : Nat) (t : TypeId) (vs : Array Value) : Prop := w.heap[b]? = some (.cells vs t (0, 0))
theorem Blk.lt {w : World} {b : Nat} {t : TypeId} {vs : Array Value} (h : Blk w b t vs) : b < w.heap.size := by
  rcases Nat.lt_or_ge b w.heap.size with h1 | h1
  · exact h1
  · unfold Blk at h; rw [Array.getElem?_eq_none h1] at h; cases h
theorem Blk.below {w w' : World} {b : Nat} {t : TypeId} {vs : Array Value} (h : Blk w b t vs) {B : Nat} (hb : Below B w w') (hB : b < B) : Blk w' b t vs := (hb.block b hB).trans h
theorem Blk.other {w : World} {b : Nat} {t : TypeId} {vs : Array Value} (h : Blk w b t vs) {p : Addr} (v : Value) (hp : b ≠ p.block) : Blk (w.setCell p v) b t vs := (heap_setCell_other _ _ _ _ hp).trans h
theorem Blk.set {w : World} {b : Nat} {t : TypeId} {vs : Array Value} (h : Blk w b t vs) (i : Nat) (v : Value) : Blk (w.setCell ⟨b, i, none⟩ v) b t (vs.setIfInBounds i v) := heap_setCell_same w b i _ t _ h
theorem size_alloc (w : World) (o : Obj) : (w.alloc o).heap.size = w.heap.size + 1 := Array.size_push _
theorem Blk.free {w : World} {b : Nat} {t : TypeId} {vs : Array Value} (h : Blk w b t vs) (j : Nat) : w.frozen? ⟨b, j, none⟩ = false := by
  unfold Blk at h
  simp [World.frozen?, h]
theorem Blk.cell {w : World} {b : Nat} {t : TypeId} {vs : Array Value} (h : Blk w b t vs) (j : Nat) : w.cell? ⟨b, j, none⟩ = vs[j]? := by
  unfold Blk at h
  simp [World.cell?, h]
theorem Blk.new (w : World) (t : TypeId) (vs : Array Value) : Blk (w.alloc (.cells vs t)) w.heap.size t vs := heap_alloc_new w _
theorem Blk.alloc {w : World} {b : Nat} {t : TypeId} {vs : Array Value} (h : Blk w b t vs) (o : Obj) : Blk (w.alloc o) b t vs := (heap_alloc_old w o h.lt).trans h

theorem OwnI.block {w w' : World} {b : Nat} {v : Value} {l : List Int} (h : OwnI w b v l) (hh : ∀ g, b ≤ g → w'.heap[g]? = w.heap[g]?) : OwnI w' b v l := by
  obtain ⟨h1, h2⟩ := h
  refine ⟨h1, ?_⟩
  rcases h2 with h2 | ⟨g, cap, cur, hv, hbg, hg, r⟩
  · exact .inl h2
  · exact .inr ⟨g, cap, cur, hv, hbg, (hh g hbg).trans hg, r⟩
theorem OwnT.block {w w' : World} {b : Nat} {v : Value} {l : List ByteArray} (h : OwnT w b v l) (hh : ∀ g, b ≤ g → w'.heap[g]? = w.heap[g]?) : OwnT w' b v l := by
  obtain ⟨h1, h2⟩ := h
  refine ⟨h1, ?_⟩
  rcases h2 with h2 | ⟨g, cap, cur, hv, hbg, hg, r⟩
  · exact .inl h2
  · exact .inr ⟨g, cap, cur, hv, hbg, (hh g hbg).trans hg, r⟩

end Go.Proofs.YtfgkpjjjjnollaaGreatDoor

/-
  The laws' markText: a text that tells a number.
-/
namespace Go.Proofs.YtfgkpjjjjnollaaGreatDoor
open Go.RowKit

/-- The last figure of a number. -/
def mfig (n : Nat) : UInt8 := UInt8.ofNat (48 + n % 10)
/-- The figures of a number above 0. -/
def mdg (n : Nat) : List UInt8 := if _h : n = 0 then [] else mdg (n / 10) ++ [mfig n]
theorem mdg_zero : mdg 0 = [] := by rw [mdg, dif_pos rfl]
theorem mdg_pos {n : Nat} (h : n ≠ 0) : mdg n = mdg (n / 10) ++ [mfig n] := by rw [mdg, dif_neg h]
theorem mdg_step {m n : Nat} {ds : List UInt8} (h : mdg m ++ ds = mdg n) (hm : m ≠ 0) : mdg (m / 10) ++ (mfig m :: ds) = mdg n := by
  rw [← h, mdg_pos hm]; simp
theorem mdg_len (n : Nat) : (mdg n).length ≤ n := by
  induction n using Nat.strongRecOn with
  | _ n ih =>
    by_cases h : n = 0
    · subst h; rw [mdg_zero]; exact Nat.le_refl _
    · rw [mdg_pos h]
      have := ih (n / 10) (by omega)
      simp; omega
/-- What markText answers of a number above 0. -/
def mt (k : Nat) : List UInt8 := 109 :: mdg k

theorem conv_oneM (m : Nat) (W : World) : (convert 22 9 (.slice (some ⟨W.heap.size, 0, none⟩) 1 1)).run Tryz.prog (W.alloc (.cells #[.int .u8 (48 + (m : Int) % 10)] 5)) = .ok (.string ⟨#[mfig m]⟩) (W.alloc (.cells #[.int .u8 (48 + (m : Int) % 10)] 5)) := by
  have ho := World.ownsRow_lit (base := W.heap.size) (e := 5) (size := 1) W #[.int .u8 (48 + (m : Int) % 10)] 1 (Nat.le_refl _) (by decide) rfl
  have e : (#[Value.int .u8 (48 + (m : Int) % 10)]).toList = [mfig m].map cellB := by
    unfold mfig
    simp only [List.map_cons, List.map_nil, cellB_of (show 48 + m % 10 < 256 by omega)]
    simp
  rw [e] at ho
  exact conv_own ho
theorem cat_oneM (f : UInt8) (ds : List UInt8) : (⟨#[f]⟩ : ByteArray) ++ (⟨ds.toArray⟩ : ByteArray) = ⟨(f :: ds).toArray⟩ := by
  apply ByteArray.ext
  simp [ByteArray.data_append]

set_option maxHeartbeats 800000 in
set_option maxRecDepth 100000 in
theorem markText_str (k : Nat) (w : World) (h1 : 1 ≤ k) (hk : k ≤ 1000000000000) : Calls Tryz.prog 151 #[.int .i64 k] w fun e w' => e = .returned (.string ⟨(mt k).toArray⟩) ∧ Below w.heap.size w w' := by
  have hpos : ¬ (k : Int) ≤ 0 := by omega
  go_enter Tryz.func151, Tryz.ntmps151
  go_wp2
  go_loopw [3, 0] (fun sv kv wr => ∃ (m : Nat) (ds : List UInt8), m ≤ k ∧ kv = .int .i64 m ∧ sv = .string ⟨ds.toArray⟩ ∧ Hid (mdg m ++ ds = mdg k) ∧ Below w.heap.size w wr) (fun _ kv _ => (intOf kv).toNat)
  case atStart => exact ⟨k, [], Nat.le_refl _, rfl, rfl, by show _ = _; simp, Below.refl _ _⟩
  case round =>
    obtain ⟨m, ds, hm, rfl, rfl, HD, hbel⟩ := hrel
    have hdl : ds.length ≤ k := by
      have h1 := mdg_len k
      rw [← HD.out] at h1
      simp at h1
      omega
    by_cases hm0 : m = 0
    · subst hm0
      have HF : Hid (ds = mdg k) := by have := HD.out; rw [mdg_zero] at this; exact this
      go_wp2
      go_ret
      exact ⟨by rw [HF.out]; rfl, hbel⟩
    · have hmp : (0 : Int) < (m : Int) := by omega
      have hcv := conv_oneM m
      go_wp2
      go_roundw
      case rel => exact ⟨m / 10, mfig m :: ds, by omega, by go_num, by rw [cat_oneM], mdg_step HD.out hm0, hbel.alloc hbel.size _⟩
      case measure => simp [intOf]; omega

end Go.Proofs.YtfgkpjjjjnollaaGreatDoor

/-
  Marks laid into items: plain; and what stays of a row of kids when one of them is marked.
-/
namespace Go.Proofs.YtfgkpjjjjnollaaGreatDoor
open Go.RowKit Der
set_option linter.unusedVariables false

/-- Nothing but these blocks has turned. -/
def Out (fp : List Nat) (w w' : World) : Prop := w'.os = w.os ∧ w'.tape = w.tape ∧ w'.output = w.output ∧ w.heap.size ≤ w'.heap.size ∧ ∀ b, b < w.heap.size → b ∉ fp → w'.heap[b]? = w.heap[b]?
theorem Out.refl (fp : List Nat) (w : World) : Out fp w w := ⟨rfl, rfl, rfl, Nat.le_refl _, fun _ _ _ => rfl⟩
theorem Out.trans {fp : List Nat} {a b c : World} (h1 : Out fp a b) (h2 : Out fp b c) : Out fp a c :=
  ⟨h2.1.trans h1.1, h2.2.1.trans h1.2.1, h2.2.2.1.trans h1.2.2.1, Nat.le_trans h1.2.2.2.1 h2.2.2.2.1, fun k hk hn => (h2.2.2.2.2 k (Nat.lt_of_lt_of_le hk h1.2.2.2.1) hn).trans (h1.2.2.2.2 k hk hn)⟩
theorem Out.of_below {fp : List Nat} {a b : World} (h : Below a.heap.size a b) : Out fp a b := ⟨h.os, h.tape, h.output, h.size, fun k hk _ => h.block k hk⟩
theorem Out.mono {fp fq : List Nat} {a b : World} (h : Out fp a b) (hs : ∀ x ∈ fp, x ∈ fq) : Out fq a b := ⟨h.1, h.2.1, h.2.2.1, h.2.2.2.1, fun k hk hn => h.2.2.2.2 k hk fun hm => hn (hs k hm)⟩
theorem Out.setCell {fp : List Nat} {a b : World} (h : Out fp a b) (p : Addr) (v : Value) (hp : p.block ∈ fp) : Out fp a (b.setCell p v) := by
  have hb := (Below.refl 0 b).setCell (p := p) (Nat.zero_le _) v
  exact ⟨hb.os.trans h.1, hb.tape.trans h.2.1, hb.output.trans h.2.2.1, Nat.le_trans h.2.2.2.1 hb.size, fun k hk hn => by
    have hne : k ≠ p.block := fun e => hn (by rw [e]; exact hp)
    rw [heap_setCell_other b p k v hne]
    exact h.2.2.2.2 k hk hn⟩
theorem Out.below {fp : List Nat} {a b : World} {B : Nat} (h : Out fp a b) (hB : ∀ x ∈ fp, B ≤ x) (hs : B ≤ a.heap.size) : Below B a b := ⟨h.1, h.2.1, h.2.2.1, h.2.2.2.1, fun k hk => h.2.2.2.2 k (Nat.lt_of_lt_of_le hk hs) fun hm => by have := hB k hm; omega⟩
end Go.Proofs.YtfgkpjjjjnollaaGreatDoor
