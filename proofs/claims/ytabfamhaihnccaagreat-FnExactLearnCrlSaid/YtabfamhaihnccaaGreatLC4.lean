/-
  Texts of the proof.
-/
import Derived.Test.YtabfamhaihnccaaGreatChecked
import Derived.WalkKit
import Derived.WalkSpells
import Derived.WalkLawsBesides
import Derived.Handy
import Derived.Laws.OwnMore
import Derived.Deep.Cut
import Derived.Deep.QuietTactic
import Derived.BigQuiet
import Derived.Test.YtabfamhaihnccaaGreatLC1
set_option linter.unusedVariables false
set_option linter.unusedSimpArgs false
set_option maxRecDepth 100000
set_option maxHeartbeats 25600000
namespace Go.Proofs.YtabfamhaihnccaaGreat
open Go.RowKit
def cellsI (l : List Int) : List Value := l.map fun z => Value.int .i64 z
def IntAt (w : World) (v : Value) (l : List Int) : Prop := ∃ ao cap, v = zS ao l.length cap /\ (0 < l.length -> ∃ g, ao = some ⟨g, 0, none⟩ /\ g < w.heap.size /\ ∀ j (hj : j < l.length), w.cell? ⟨g, j, none⟩ = some (zI l[j]))
theorem IntAt.below {w w' : World} {v : Value} {l : List Int} (h : IntAt w v l) (hb : zW w w') : IntAt w' v l := by
 obtain ⟨ao, cap, hv, h⟩ := h;refine ⟨ao, cap, hv, fun hl => ?_⟩;obtain ⟨g, hg, hlt, hc⟩ := h hl;exact ⟨g, hg, Nat.lt_of_lt_of_le hlt hb.size, fun j hj => by rw [hb.cell (p := ⟨g, j, none⟩) hlt]; exact hc j hj⟩
theorem IntAt.of_own {w : World} {base : Nat} {v : Value} {l : List Int} (h : w.ownsRow base 3 1 v l.length (cellsI l)) : IntAt w v l := by
 have hc := fun g (hg : v.ownBlock = some g) => (h.lt g hg).2
 have h' := h;obtain ⟨h1, h2⟩ := h
 rcases h2 with ⟨rfl, h0⟩ | ⟨g, cap, cur, rfl, hbg, hg, r⟩
 ·exact ⟨none, 0, by rw [h0], fun hl => by omega⟩
 ·refine ⟨some ⟨g, 0, none⟩, cap, rfl, fun hl => ⟨g, rfl, hc g rfl, fun j hj => ?_⟩⟩
  rw [h'.cellAt j (by omega)];simp [cellsI, hj]
theorem eqIntS_same (a b : Value) (l : List Int) (w : World) (hl : l.length <= 1000000000) (ha : IntAt w a l) (hb : IntAt w b l) : Calls Tryz.prog 52 #[a, b] w fun e w' => e = .returned (.bool true) /\ zW w w' := by
 obtain ⟨ao, ac, rfl, ha⟩ := ha;obtain ⟨bo, bc, rfl, hb⟩ := hb;have HA : Hid (0 < l.length -> ∃ g, ao = some ⟨g, 0, none⟩ /\ g < w.heap.size /\ ∀ j (hj : j < l.length), w.cell? ⟨g, j, none⟩ = some (zI l[j])) := ha;have HB : Hid (0 < l.length -> ∃ g, bo = some ⟨g, 0, none⟩ /\ g < w.heap.size /\ ∀ j (hj : j < l.length), w.cell? ⟨g, j, none⟩ = some (zI l[j])) := hb;clear ha hb;go_enter Tryz.func52, Tryz.ntmps52
 go_wp2
 go_loopw [5] (fun iv wr => ∃ k : Nat, k <= l.length /\ iv = zI k /\ zW w wr) (fun iv _ => l.length - (intOf iv).toNat)
 case atStart => exact ⟨0, Nat.zero_le _, rfl, Below.refl _ _⟩
 case round =>
  obtain ⟨k, hk, rfl, hbel⟩ := hrel;by_cases hlt : k < l.length
  ·obtain ⟨ga, hao, hga, hca⟩ := HA.out (by omega)
   obtain ⟨gb, hbo, hgb, hcb⟩ := HB.out (by omega);have c1 : wr.cell? ⟨ga, k, none⟩ = some (zI l[k]) := (hbel.cell (p := ⟨ga, k, none⟩) hga).trans (hca k hlt);have c2 : wr.cell? ⟨gb, k, none⟩ = some (zI l[k]) := (hbel.cell (p := ⟨gb, k, none⟩) hgb).trans (hcb k hlt);generalize l[k] = x at *;subst hao hbo;clear hca hcb;have hki : (k : Int) < (l.length : Int) := by omega
   have hk0 : (0 : Int) <= (k : Int) := by omega
   go_wp2_with fail
   go_region
   go_wp2
   go_roundw
   case rel => exact ⟨k + 1, by omega, by go_num, hbel.drew⟩
   case measure => simp [intOf]; omega
  ·go_wp2
   go_ret;exact ⟨rfl, hbel⟩
def marksI (k n : Nat) : List Int := (List.range n).map fun i : Nat => (k : Int) + (i : Int)
theorem marksI_len (k n : Nat) : (marksI k n).length = n := by simp [marksI]
theorem heldIntS_same (v : Value) (n k : Nat) (w : World) (hn : n <= 1000000000) (hk : k <= 1000000000) (hv : IntAt w v (marksI k n)) :
  Calls Tryz.prog 111 #[v, zI k] w fun e w' => e = .returned (zI ((k : Int) + (n : Int))) /\ zW w w' := by
 obtain ⟨ao, cap, rfl, hc⟩ := hv;rw [marksI_len];have HC : Hid (0 < n -> ∃ g, ao = some ⟨g, 0, none⟩ /\ g < w.heap.size /\ ∀ j, j < n -> w.cell? ⟨g, j, none⟩ = some (zI ((k : Int) + (j : Int)))) := fun h => by
  obtain ⟨g, hg, hl, hcs⟩ := hc (by rw [marksI_len]; exact h);refine ⟨g, hg, hl, fun j hj => ?_⟩;rw [hcs j (by rw [marksI_len]; exact hj)];simp [marksI]
 clear hc;go_enter Tryz.func111, Tryz.ntmps111
 go_wp2
 go_loopw [1, 5] (fun kv iv wr => ∃ j : Nat, j <= n /\ kv = zI ((k : Int) + (j : Int)) /\ iv = zI j /\ zW w wr) (fun _ iv _ => n - (intOf iv).toNat)
 case atStart => exact ⟨0, Nat.zero_le _, by simp, rfl, Below.refl _ _⟩
 case round =>
  obtain ⟨j, hj, rfl, rfl, hbel⟩ := hrel;have hsz := hbel.size;by_cases hlt : j < n
  ·obtain ⟨g, hao, hgl, hcs⟩ := HC.out (by omega)
   subst hao;have hu : wr.cell? ⟨g, j, none⟩ = some (zI ((k : Int) + (j : Int))) := (hbel.cell (p := ⟨g, j, none⟩) hgl).trans (hcs j hlt);have hji : (j : Int) < (n : Int) := by omega
   have hj0 : (0 : Int) <= (j : Int) := by omega
   clear hcs;go_wp2_with fail
   try go_region
   go_wp2
   go_roundw
   case rel => first | exact ⟨j + 1, by omega, by go_num, by go_num, hbel⟩ | exact ⟨j + 1, by omega, by go_num, by go_num, hbel.drew⟩
   case measure => simp [intOf]; omega
  ·have hjn : j = n := by omega
   subst hjn
   go_wp2
   go_ret;exact ⟨rfl, hbel⟩
end Go.Proofs.YtabfamhaihnccaaGreat
namespace Go.Proofs.YtabfamhaihnccaaGreat
def ev : List Int -> Int
 | [] => 0
 | x :: xs => x + 10000 * ev xs
theorem getD_take {l : List Int} {k j : Nat} (h : j < k) : (l.take k).getD j 0 = l.getD j 0 := by simp [List.getD, h]
theorem getD_set {l : List Int} {k j : Nat} (x : Int) (hk : k < l.length) : (l.set k x).getD j 0 = if j = k then x else l.getD j 0 := by
 by_cases h : j = k
 ·subst h
  simp [List.getD, hk]
 ·rw [if_neg h]
  simp [List.getD, List.getElem?_set_ne (fun e => h e.symm)]
theorem ext_getD {a b : List Int} (hl : a.length = b.length) (h : ∀ j, j < a.length -> a.getD j 0 = b.getD j 0) : a = b := by
 apply List.ext_getElem hl;intro j h1 h2;have := h j h1;simpa [List.getD, h1, h2] using this
def fillL (f : Nat -> Int) (k n : Nat) : List Int := (List.range n).map fun j => if j < k then f j else 0
theorem fillL_len (f : Nat -> Int) (k n : Nat) : (fillL f k n).length = n := by simp [fillL]
theorem fillL_getD (f : Nat -> Int) (k n j : Nat) : (fillL f k n).getD j 0 = if j < n /\ j < k then f j else 0 := by
 unfold fillL;by_cases hj : j < n
 ·simp [List.getD, hj]
 ·simp [List.getD, hj]
theorem fillL_zero (f : Nat -> Int) (n : Nat) : fillL f 0 n = List.replicate n 0 := by
 apply List.ext_getElem (by simp [fillL]);intro j h1 h2;simp [fillL]
theorem fillL_set (f : Nat -> Int) (k n : Nat) (h : k < n) : (fillL f k n).set k (f k) = fillL f (k + 1) n := by
 apply ext_getD (by simp [fillL]);intro j hj;have hj' : j < n := by simpa [fillL] using hj
 rw [getD_set _ (by rw [fillL_len]; exact h), fillL_getD, fillL_getD];by_cases h1 : j = k
 ·subst h1; simp [h]
 ·rw [if_neg h1]
  by_cases h2 : j < k
  ·rw [if_pos ⟨hj', h2⟩, if_pos ⟨hj', by omega⟩]
  ·rw [if_neg (by omega), if_neg (by omega)]
open Go.RowKit
theorem info3 : (Tryz.prog.info? 3).map (fun i => (i.zero, i.size, i.bytes)) = some (some (zI 0), 1, 8) := by kernel_rfl
def OwnI (w : World) (base : Nat) (v : Value) (l : List Int) : Prop := w.ownsRow base 3 1 v l.length (cellsI l)
theorem cellsI_len (l : List Int) : (cellsI l).length = l.length := by simp [cellsI]
theorem cellsI_set (l : List Int) (k : Nat) (x : Int) : (cellsI l).set k (zI x) = cellsI (l.set k x) := by simp [cellsI]
theorem cellsI_append (a b : List Int) : cellsI (a ++ b) = cellsI a ++ cellsI b := by simp [cellsI]
theorem cellsI_getD {l : List Int} {j : Nat} (h : j < l.length) : (cellsI l)[j]? = some (zI (l.getD j 0)) := by simp [cellsI, List.getD, h]
theorem OwnI.at {w : World} {base : Nat} {v : Value} {l : List Int} (h : OwnI w base v l) : IntAt w v l := IntAt.of_own h
theorem OwnI.stays {w w' : World} {base : Nat} {v : Value} {l : List Int} (h : OwnI w base v l) (hb : zW w w') : OwnI w' base v l := by
 obtain ⟨h1, h2⟩ := h;refine ⟨h1, ?_⟩
 rcases h2 with h2 | ⟨g, cap, cur, hv, hbg, hg, r⟩
 ·exact .inl h2
 ·have hlt : g < w.heap.size := by
   rcases Nat.lt_or_ge g w.heap.size with h | h
   ·exact h
   ·rw [Array.getElem?_eq_none h] at hg; cases hg
  exact .inr ⟨g, cap, cur, hv, hbg, by rw [hb.block g hlt]; exact hg, r⟩
theorem OwnI.base {w : World} {b b' : Nat} {v : Value} {l : List Int} (h : OwnI w b v l) (hb : b' <= b) : OwnI w b' v l := by
 obtain ⟨h1, h2⟩ := h;refine ⟨h1, ?_⟩
 rcases h2 with h2 | ⟨g, cap, cur, hv, hbg, r⟩
 ·exact .inl h2
 ·exact .inr ⟨g, cap, cur, hv, Nat.le_trans hb hbg, r⟩
theorem OwnI.nil (w : World) (base : Nat) : OwnI w base zZ [] := World.ownsRow_nil _ _ _ _
theorem OwnI.shape {w : World} {base : Nat} {v : Value} {l : List Int} (h : OwnI w base v l) : ∃ ao cap, v = zS ao l.length cap /\ (0 < l.length -> ∃ g, ao = some ⟨g, 0, none⟩) /\ l.length <= cap /\ cap <= maxLen := by
 rcases h.2 with ⟨h1, h0⟩ | ⟨g, cap, cur, hv, _, _, hn, hm, _⟩
 ·exact ⟨none, 0, by rw [h1, h0], fun h => by omega, by omega, Nat.zero_le _⟩
 ·exact ⟨some ⟨g, 0, none⟩, cap, hv, fun _ => ⟨g, rfl⟩, hn, hm⟩
theorem OwnI.cell {w : World} {base g cap : Nat} {l : List Int} (h : OwnI w base (zS (some ⟨g, 0, none⟩) l.length cap) l) {j : Nat} (hj : j < l.length) : w.cell? ⟨g, j, none⟩ = some (zI (l.getD j 0)) := by
 rw [World.ownsRow.cellAt h j (by omega), cellsI_getD hj]
theorem OwnI.frozen {w : World} {base g cap : Nat} {l : List Int} (h : OwnI w base (zS (some ⟨g, 0, none⟩) l.length cap) l) (j : Nat) : w.frozen? ⟨g, j, none⟩ = false := World.ownsRow.frozenAt h j
theorem OwnI.set {w : World} {base g cap : Nat} {l : List Int} (h : OwnI w base (zS (some ⟨g, 0, none⟩) l.length cap) l) (j : Nat) (x : Int) :
  OwnI (w.setCell ⟨g, j, none⟩ (zI x)) base (zS (some ⟨g, 0, none⟩) (l.set j x).length cap) (l.set j x) := by
 have := (World.ownsRow.stored h j (zI x)).1;rw [cellsI_set] at this;unfold OwnI;rw [List.length_set];exact this
theorem grown_trans {a b c : World} {row : Option Nat} (h1 : a.grownBy b row) (h2 : b.grownBy c row) : a.grownBy c row :=
 ⟨h2.os.trans h1.os, h2.tape.trans h1.tape, h2.output.trans h1.output, Nat.le_trans h1.size h2.size, fun k hk hr => (h2.block k (Nat.lt_of_lt_of_le hk h1.size) hr).trans (h1.block k hk hr)⟩
theorem grown_set (w : World) (g j : Nat) (u : Value) : w.grownBy (w.setCell ⟨g, j, none⟩ u) (some g) :=
 ⟨rfl, rfl, rfl, by simp [World.setCell], fun k _ hk => heap_setCell_other w ⟨g, j, none⟩ k u (fun e => hk (by simp [e]))⟩
theorem made_zeros (n : Nat) : (madeCells #[Value.int .i64 0] n).toList = cellsI (List.replicate n 0) := by
 apply List.ext_getElem (by simp [madeCells, cellsI]);intro j h1 h2;simp [madeCells, cellsI, Nat.mod_one]
theorem OwnI.of_made {w : World} {base g n : Nat} (h : w.ownsRow base 3 1 (zS (some ⟨g, 0, none⟩) n n) n (madeCells #[Value.int .i64 0] n).toList) :
  OwnI w base (zS (some ⟨g, 0, none⟩) (List.replicate n (0 : Int)).length n) (List.replicate n 0) := by
 rw [made_zeros] at h;unfold OwnI;rw [List.length_replicate];exact h
end Go.Proofs.YtabfamhaihnccaaGreat
