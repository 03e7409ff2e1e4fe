/-
  Texts of the proof.
-/
import Derived.WalkKit
import Derived.Laws.OwnMore
import Derived.Deep.Cut
import Derived.Deep.QuietTactic
import Derived.BigQuiet
import Derived.Test.YtagmnlmfoanelaaNA1
set_option maxRecDepth 100000
set_option maxHeartbeats 25600000
namespace Go.Proofs.Ytagmnlmfoanelaa
set_option linter.unusedSimpArgs false
def ev : List Int -> Int
 | [] => 0
 | x :: xs => x + 10000 * ev xs
theorem getD_set {l : List Int} {k j : Nat} (x : Int) (hk : k < l.length) : (l.set k x).getD j 0 = if j = k then x else l.getD j 0 := by
 by_cases h : j = k
 ·subst h
  simp [List.getD, hk]
 ·rw [if_neg h]
  simp [List.getD, List.getElem?_set_ne (fun e => h e.symm)]
theorem ext_getD {a b : List Int} (hl : a.length = b.length) (h : ∀ j, j < a.length -> a.getD j 0 = b.getD j 0) : a = b := by
 apply List.ext_getElem hl
 intro j h1 h2
 have := h j h1
 simpa [List.getD, h1, h2] using this
end Go.Proofs.Ytagmnlmfoanelaa
namespace Go.Proofs.Ytagmnlmfoanelaa
open Go.RowKit
def OwnI (w : World) (base : Nat) (v : Value) (l : List Int) : Prop := w.ownsRow base 3 1 v l.length (cellsI l)
theorem cellsI_set (l : List Int) (k : Nat) (x : Int) : (cellsI l).set k (.int .i64 x) = cellsI (l.set k x) := by simp [cellsI]
theorem cellsI_getD {l : List Int} {j : Nat} (h : j < l.length) : (cellsI l)[j]? = some (.int .i64 (l.getD j 0)) := by simp [cellsI, List.getD, h]
theorem OwnI.at {w : World} {base : Nat} {v : Value} {l : List Int} (h : OwnI w base v l) : IntAt w v l := IntAt.of_own h
theorem OwnI.nil (w : World) (base : Nat) : OwnI w base (.slice none 0 0) [] := World.ownsRow_nil _ _ _ _
theorem OwnI.shape {w : World} {base : Nat} {v : Value} {l : List Int} (h : OwnI w base v l) : ∃ ao cap, v = .slice ao l.length cap /\ (0 < l.length -> ∃ g, ao = some ⟨g, 0, none⟩) /\ l.length <= cap /\ cap <= maxLen := by
 rcases h.2 with ⟨h1, h0⟩ | ⟨g, cap, cur, hv, _, _, hn, hm, _⟩
 ·exact ⟨none, 0, by rw [h1, h0], fun h => by omega, by omega, Nat.zero_le _⟩
 ·exact ⟨some ⟨g, 0, none⟩, cap, hv, fun _ => ⟨g, rfl⟩, hn, hm⟩
theorem OwnI.cell {w : World} {base g cap : Nat} {l : List Int} (h : OwnI w base (.slice (some ⟨g, 0, none⟩) l.length cap) l) {j : Nat} (hj : j < l.length) : w.cell? ⟨g, j, none⟩ = some (.int .i64 (l.getD j 0)) := by
 rw [World.ownsRow.cellAt h j (by omega), cellsI_getD hj]
theorem OwnI.frozen {w : World} {base g cap : Nat} {l : List Int} (h : OwnI w base (.slice (some ⟨g, 0, none⟩) l.length cap) l) (j : Nat) : w.frozen? ⟨g, j, none⟩ = false := World.ownsRow.frozenAt h j
theorem OwnI.set {w : World} {base g cap : Nat} {l : List Int} (h : OwnI w base (.slice (some ⟨g, 0, none⟩) l.length cap) l) (j : Nat) (x : Int) :
  OwnI (w.setCell ⟨g, j, none⟩ (.int .i64 x)) base (.slice (some ⟨g, 0, none⟩) (l.set j x).length cap) (l.set j x) := by
 have := (World.ownsRow.stored h j (.int .i64 x)).1
 rw [cellsI_set] at this
 unfold OwnI
 rw [List.length_set]
 exact this
theorem grown_trans {a b c : World} {row : Option Nat} (h1 : a.grownBy b row) (h2 : b.grownBy c row) : a.grownBy c row :=
 ⟨h2.os.trans h1.os, h2.tape.trans h1.tape, h2.output.trans h1.output, Nat.le_trans h1.size h2.size, fun k hk hr => (h2.block k (Nat.lt_of_lt_of_le hk h1.size) hr).trans (h1.block k hk hr)⟩
theorem grown_set (w : World) (g j : Nat) (u : Value) : w.grownBy (w.setCell ⟨g, j, none⟩ u) (some g) :=
 ⟨rfl, rfl, rfl, by simp [World.setCell], fun k _ hk => heap_setCell_other w ⟨g, j, none⟩ k u (fun e => hk (by simp [e]))⟩
def Ap (u v : Value) : Prop := u.ownBlock = none ∨ u.ownBlock ≠ v.ownBlock
theorem mark_any (v : Value) (l : List Int) (k base : Nat) (w : World) (hl : l.length <= 1000000000) (hk : k <= 1000000000) (hv : OwnI w base v l) :
  Calls Try.prog 23 #[v, .int .i64 k] w fun e w' => e = .returned (.int .i64 ((k : Int) + (l.length : Int))) /\ OwnI w' base v (marksI k l.length) /\ w.grownBy w' v.ownBlock := by
 obtain ⟨n, hn⟩ := zE (l.length)
 have HN : Hid (l.length = n) := hn
 obtain ⟨ao, cap, rfl, hc, _⟩ := hv.shape
 rw [hn] at hc hl
 have hv' : OwnI w base (.slice ao n cap) l := hn ▸ hv
 rw [hn]
 have HV : Hid (OwnI w base (.slice ao n cap) l) := hv'
 have HC : Hid (0 < n -> ∃ g, ao = some ⟨g, 0, none⟩) := hc
 clear hv hv' hc hn
 go_enter Try.func23, Try.ntmps23
 go_wp2
 go_loopw [1, 5] (fun kv iv wr => ∃ (j : Nat) (L : List Int), j <= n /\ kv = .int .i64 ((k : Int) + (j : Int)) /\ iv = .int .i64 j /\ Hid (L.length = n /\ (∀ i, i < j -> L.getD i 0 = (k : Int) + (i : Int)) /\ OwnI wr base (.slice ao n cap) L /\ w.grownBy wr (Value.slice ao n cap).ownBlock)) (fun _ iv _ => n - (intOf iv).toNat)
 case atStart => exact ⟨0, l, Nat.zero_le _, by simp, rfl, HN.out, fun i hi => by omega, HV.out, World.grownBy.refl _ _⟩
 case round =>
  obtain ⟨j, L, hj, rfl, rfl, H⟩ := hrel
  by_cases hlt : j < n
  ·obtain ⟨g, hao⟩ := HC.out (by omega)
   subst hao
   have hL := H.out.1
   have hO : OwnI wr base (.slice (some ⟨g, 0, none⟩) L.length cap) L := by rw [hL]; exact H.out.2.2.1
   have hu := hO.cell (j := j) (by omega)
   have hf := hO.frozen j
   have HX : Hid ((L.set j ((k : Int) + (j : Int))).length = n /\ (∀ i, i < j + 1 -> (L.set j ((k : Int) + (j : Int))).getD i 0 = (k : Int) + (i : Int)) /\ OwnI (wr.setCell ⟨g, j, none⟩ (.int .i64 ((k : Int) + (j : Int)))) base (.slice (some ⟨g, 0, none⟩) n cap) (L.set j ((k : Int) + (j : Int))) /\ w.grownBy (wr.setCell ⟨g, j, none⟩ (.int .i64 ((k : Int) + (j : Int)))) (Value.slice (some ⟨g, 0, none⟩) n cap).ownBlock) := by
    refine ⟨by simp [hL], fun i hi => ?_, ?_, grown_trans H.out.2.2.2 (grown_set wr g j _)⟩
    ·rw [getD_set _ (by omega)]
     by_cases e : i = j
     ·rw [if_pos e, e]
     ·rw [if_neg e]; exact H.out.2.1 i (by omega)
    ·have h := hO.set j ((k : Int) + (j : Int))
     rw [List.length_set, hL] at h
     exact h
   clear H hO hL
   generalize L.getD j 0 = z at *
   have hji : (j : Int) < (n : Int) := by omega
   have hj0 : (0 : Int) <= (j : Int) := by omega
   go_wp2_with fail
   go_roundw
   case rel => exact ⟨j + 1, _, by omega, by go_num, by go_num, HX.out⟩
   case measure => simp [intOf]; omega
  ·have hjn : j = n := by omega
   subst hjn
   have HE : Hid (L = marksI k j) := ext_getD (by rw [H.out.1, marksI_len]) (fun i hi => by
    rw [H.out.1] at hi
    rw [H.out.2.1 i hi]
    simp [marksI, List.getD, hi])
   go_wp2
   go_ret
   exact ⟨rfl, by rw [<- HE.out]; exact H.out.2.2.1, H.out.2.2.2⟩
end Go.Proofs.Ytagmnlmfoanelaa
