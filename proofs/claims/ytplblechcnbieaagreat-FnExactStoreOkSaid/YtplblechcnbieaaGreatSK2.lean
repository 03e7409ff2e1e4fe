/-
  Texts of the proof, one behind the other: Var, ItA.
-/
import Derived.Test.YtplblechcnbieaaGreatChecked
import Derived.WalkKit
import Derived.WalkSpells
import Derived.WalkLawsBesides
import Derived.Handy
import Derived.Laws.IdiomStrings
import Derived.Deep.RegionHeld3
import Derived.Laws.StructEq
import Derived.Laws.Rows
import Derived.Test.YtplblechcnbieaaGreatSK1

/-
  Contracts of VarText: the specification's l01In, l01Var, VarText and the program's VarText answer the bytes of the number ('vt').
-/
namespace Go.Proofs.YtplblechcnbieaaGreat
open Go.RowKit

theorem info5 : (Tryz.prog.info? 5).map (fun i => (i.zero, i.size, i.bytes)) = some (some (.int .u8 0), 1, 1) := by kernel_rfl

/-- A row of bytes that the call owns, turned into a string. -/
theorem conv_own {w : World} {base : Nat} {v : Value} {l : List UInt8} {n : Nat} (h : w.ownsRow base 5 1 v n (l.map cellB)) :
    (convert 164 9 v).run Tryz.prog w = .ok (.string ⟨l.toArray⟩) w := by
  have hn : l.length = n := by have := h.1; simpa using this
  rcases h.2 with ⟨rfl, h0⟩ | ⟨g, cap, cur, rfl, hb, hg, hnc, hcm, hcs, ht⟩
  · have : l = [] := List.length_eq_zero_iff.1 (by omega)
    subst this
    rw [run_convert_bytes_string w 164 9 5 _ 0 0 Tryz.underlying164 Tryz.underlying5 Tryz.underlying9]
    simp [Conv.bytesToString]
    rfl
  · subst hn
    refine run_convert_bytes_back w 164 9 5 ⟨g, 0, none⟩ cap l Tryz.underlying164 Tryz.underlying5 Tryz.underlying9 (fun j hj => ?_)
    have := h.cells (g := g) rfl j (cellB l[j]) (by simp [hj])
    exact this

theorem in_yes (x a b : Int) (w : World) (h1 : a ≤ x) (h2 : x ≤ b) : Calls Tryz.prog 107 #[.int .i64 x, .int .i64 a, .int .i64 b] w fun e w' => e = .returned (.bool true) ∧ w = w' := by
  go_enter Tryz.func107, Tryz.ntmps107
  go_wp2
  go_ret
  exact ⟨by simp, rfl⟩
theorem in_no (x a b : Int) (w : World) (h : x < a ∨ b < x) : Calls Tryz.prog 107 #[.int .i64 x, .int .i64 a, .int .i64 b] w fun e w' => e = .returned (.bool false) ∧ w = w' := by
  rcases h with h1 | h2
  · go_enter Tryz.func107, Tryz.ntmps107
    go_wp2
    go_ret
    exact ⟨by simp, rfl⟩
  · by_cases h1 : a ≤ x
    · go_enter Tryz.func107, Tryz.ntmps107
      go_wp2
      go_ret
      exact ⟨by simp; omega, rfl⟩
    · go_enter Tryz.func107, Tryz.ntmps107
      go_wp2
      go_ret
      exact ⟨by simp, rfl⟩

theorem cellB_of {m : Nat} (h : m < 256) : cellB (UInt8.ofNat m) = .int .u8 (m : Int) := by unfold cellB; rw [u8_ofNat h]
theorem one_new (w : World) (v : Value) (t : TypeId) : ∀ j u, [v][j]? = some u → (w.alloc (.cells #[v] t)).cell? ((⟨w.heap.size, 0, none⟩ : Addr).add j) = some u := by
  intro j u hj
  match j, hj with
  | 0, hj => simp at hj; subst hj; simp [Addr.add]

end Go.Proofs.YtplblechcnbieaaGreat

/-
  Items where they lie in memory: a struct of a tag, a text and a row of kids, three cells each.
-/
namespace Go.Proofs.YtplblechcnbieaaGreat
open Go.RowKit Der

/-- A row of things that take three cells each. -/
def KidsAt {α : Type} (w : World) (P : Value → α → Prop) (v : Value) (ks : List α) : Prop :=
  ∃ ao cap, v = .slice ao ks.length cap ∧ (0 < ks.length → ∃ g o, ao = some ⟨g, o, none⟩ ∧ g < w.heap.size ∧ ∀ j (hj : j < ks.length), ∃ t s k, w.cell? ⟨g, o + j * 3, none⟩ = some t ∧ w.cell? ⟨g, o + j * 3 + 1, none⟩ = some s ∧ w.cell? ⟨g, o + j * 3 + 2, none⟩ = some k ∧ P (.agg #[t, s, k]) ks[j])
/-- A value that is an item. -/
def ItAt (w : World) : (n : Nat) → Value → It n → Prop
  | 0, _, _ => False
  | n + 1, v, x => ∃ k, v = .agg #[.int .i64 (It.tag x), .string ⟨(It.text x).toArray⟩, k] ∧ KidsAt w (ItAt w n) k (It.kids x)
theorem KidsAt.mono {α : Type} {w w' : World} {P Q : Value → α → Prop} {v : Value} {ks : List α} (h : KidsAt w P v ks) (hb : Below w.heap.size w w') (hPQ : ∀ u x, P u x → Q u x) : KidsAt w' Q v ks := by
  obtain ⟨ao, cap, rfl, h⟩ := h
  refine ⟨ao, cap, rfl, fun hp => ?_⟩
  obtain ⟨g, o, rfl, hg, hc⟩ := h hp
  refine ⟨g, o, rfl, Nat.lt_of_lt_of_le hg hb.size, fun j hj => ?_⟩
  obtain ⟨t, s, k, c0, c1, c2, hP⟩ := hc j hj
  exact ⟨t, s, k, (hb.cell (p := ⟨g, o + j * 3, none⟩) hg).trans c0, (hb.cell (p := ⟨g, o + j * 3 + 1, none⟩) hg).trans c1, (hb.cell (p := ⟨g, o + j * 3 + 2, none⟩) hg).trans c2, hPQ _ _ hP⟩
theorem ItAt.below {w w' : World} (hb : Below w.heap.size w w') : ∀ {n : Nat} {v : Value} {x : It n}, ItAt w n v x → ItAt w' n v x
  | 0, _, _, h => h.elim
  | _ + 1, _, _, ⟨k, hv, hk⟩ => ⟨k, hv, hk.mono hb fun _ _ h => ItAt.below hb h⟩
/-- How great an item is: its texts and its kids, all told. -/
def szI : (n : Nat) → It n → Nat
  | 0, _ => 0
  | n + 1, x => (It.text x).length + (It.kids x).length + ((It.kids x).map (szI n)).sum

theorem sum_mem : ∀ (l : List Nat) (a : Nat), a ∈ l → a ≤ l.sum
  | b :: l, a, h => by
    rw [List.sum_cons]
    rcases List.mem_cons.1 h with rfl | h
    · omega
    · have := sum_mem l a h
      omega
theorem szI_kid {n : Nat} {t : Int} {s : List UInt8} {ks : List (It n)} {b : Nat} (h : szI (n + 1) (It.mk t s ks) ≤ b) : s.length ≤ b ∧ ks.length ≤ b ∧ ∀ y ∈ ks, szI n y ≤ b := by
  change s.length + ks.length + (ks.map (szI n)).sum ≤ b at h
  refine ⟨by omega, by omega, fun y hy => ?_⟩
  have := sum_mem (ks.map (szI n)) (szI n y) (List.mem_map.2 ⟨y, hy, rfl⟩)
  omega
theorem KidsAt.get {α : Type} {w : World} {P : Value → α → Prop} {ax : Option Addr} {l cx : Nat} {ks : List α} (h : KidsAt w P (.slice ax l cx) ks) {j : Nat} (hj : j < ks.length) :
    ∃ g o t s k, ax = some ⟨g, o, none⟩ ∧ g < w.heap.size ∧ (w.cell? ⟨g, o + j * 3, none⟩ = some t ∧ w.cell? ⟨g, o + j * 3 + 1, none⟩ = some s ∧ w.cell? ⟨g, o + j * 3 + 2, none⟩ = some k) ∧ P (.agg #[t, s, k]) ks[j] := by
  obtain ⟨ao, cap, hv, h⟩ := h
  obtain ⟨g, o, hao, hg, hc⟩ := h (by omega)
  obtain ⟨t, s, k, c0, c1, c2, hP⟩ := hc j hj
  injection hv with hv1
  exact ⟨g, o, t, s, k, hv1.trans hao, hg, ⟨c0, c1, c2⟩, hP⟩
/-- Three cells together, and that they stay. -/
def Cells3 (w : World) (g o : Nat) (t s k : Value) : Prop := w.cell? ⟨g, o, none⟩ = some t ∧ w.cell? ⟨g, o + 1, none⟩ = some s ∧ w.cell? ⟨g, o + 2, none⟩ = some k
theorem Cells3.below {w w' : World} {B g o : Nat} {t s k : Value} (h : Cells3 w g o t s k) (hg : g < B) (hb : Below B w w') : Cells3 w' g o t s k :=
  ⟨(hb.cell (p := ⟨g, o, none⟩) hg).trans h.1, (hb.cell (p := ⟨g, o + 1, none⟩) hg).trans h.2.1, (hb.cell (p := ⟨g, o + 2, none⟩) hg).trans h.2.2⟩
end Go.Proofs.YtplblechcnbieaaGreat
