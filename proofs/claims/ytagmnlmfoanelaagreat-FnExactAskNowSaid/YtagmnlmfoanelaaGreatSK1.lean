/-
  Texts of the proof.
-/
import Derived.OrdersHeld
import Derived.WalkKit
import Derived.Test.YtagmnlmfoanelaaGreatChecked
import Derived.WalkSpells
import Derived.WalkLawsBesides
import Derived.Handy
import Derived.Laws.IdiomStrings
set_option maxRecDepth 100000
set_option maxHeartbeats 25600000
namespace Go.Proofs.YtagmnlmfoanelaaGreat
open Go.RowKit
theorem zH {p : Prop} (h : p) : Hid p := h
theorem zJ {p q : Prop} (h : p) (k : q) : p ∧ q := ⟨h, k⟩
theorem zE {a : Type} (x : a) : ∃ q, x = q := ⟨x, rfl⟩
theorem zT {P : Program} {md : Region.Mode} {ops : Array Oper} {Q : Exit -> Act -> World -> Prop} {S : World -> Prop} (i s : Nat) {o1 o2 o3 o4 o5} (v : Value) {fuel : Nat} {listed : Array Bool} {a : Act} {w : World} (hi : ops[i]? = some (Oper.mk (some s) o1 o2 o3 o4 o5)) (h1 : Region.wanted (Oper.mk (some s) o1 o2 o3 o4 o5) (yielded ops a.tmps) = true) (h2 : ∀ w, S w -> (execOp a.eval (Oper.mk (some s) o1 o2 o3 o4 o5)).run P w = .ok (.value v) w) (hS : S w) (h : wpAnyH P md ops Q S fuel (listed.setIfInBounds i true) (a.put (some s) v) w) (hs : Region.noSelect ops = true := by kernel_rfl) (hf : Region.free md ops listed i = true := by kernel_rfl) (hr : (Region.ready md ops listed).contains i = true := by kernel_rfl) (hQ : ∀ c a w, Q (.panic c) (a.put (some s) v) w -> Q (.panic c) a w := by exact fun _ _ _ h => h) : wpAnyH P md ops Q S (fuel + 1) listed a w := wpAnyH_take hi hs hf hr hQ (.inl ⟨h1, h2⟩) hS h
theorem zU {P : Program} {md : Region.Mode} {ops : Array Oper} {Q : Exit -> Act -> World -> Prop} {S : World -> Prop} (i s : Nat) {o1 o2 o3 o4 o5} {fuel : Nat} {listed : Array Bool} {a : Act} {w : World} (hi : ops[i]? = some (Oper.mk (some s) o1 o2 o3 o4 o5)) (h1 : Region.wanted (Oper.mk (some s) o1 o2 o3 o4 o5) (yielded ops a.tmps) = false) (hS : S w) (h : wpAnyH P md ops Q S fuel (listed.setIfInBounds i true) (a.put (some s) undef) w) (hs : Region.noSelect ops = true := by kernel_rfl) (hf : Region.free md ops listed i = true := by kernel_rfl) (hr : (Region.ready md ops listed).contains i = true := by kernel_rfl) (hQ : ∀ c a w, Q (.panic c) (a.put (some s) undef) w -> Q (.panic c) a w := by exact fun _ _ _ h => h) : wpAnyH P md ops Q S (fuel + 1) listed a w := wpAnyH_take hi hs hf hr hQ (.inr ⟨h1, rfl⟩) hS h
theorem zA {a : Type} (l : List a) (i : Nat) (x : a) : l.toArray.setIfInBounds i x = (l.set i x).toArray := by rw [List.setIfInBounds_toArray]
theorem zB {a : Type} (x y : a) (l : List a) : (x :: l).set 0 y = y :: l := rfl
theorem zC {a : Type} (x y : a) (l : List a) (n : Nat) : (x :: l).set (n + 1) y = x :: l.set n y := rfl
end Go.Proofs.YtagmnlmfoanelaaGreat
namespace Go.Proofs.YtagmnlmfoanelaaGreat
set_option linter.unusedSimpArgs false
theorem u8_ofNat {n : Nat} (h : n < 256) : (UInt8.ofNat n).toNat = n := by
 rw [UInt8.toNat_ofNat']
 omega
def cellB (b : UInt8) : Value := .int .u8 (b.toNat : Int)
end Go.Proofs.YtagmnlmfoanelaaGreat
namespace Go.Proofs.YtagmnlmfoanelaaGreat
open Go.RowKit
theorem info5 : (Tryz.prog.info? 5).map (fun i => (i.zero, i.size, i.bytes)) = some (some (.int .u8 0), 1, 1) := by kernel_rfl
theorem conv_own {w : World} {base : Nat} {v : Value} {l : List UInt8} {n : Nat} (h : w.ownsRow base 5 1 v n (l.map cellB)) :
  (convert 107 9 v).run Tryz.prog w = .ok (.string ⟨l.toArray⟩) w := by
 have hn : l.length = n := by have := h.1; simpa using this
 rcases h.2 with ⟨rfl, h0⟩ | ⟨g, cap, cur, rfl, hb, hg, hnc, hcm, hcs, ht⟩
 ·have : l = [] := List.length_eq_zero_iff.1 (by omega)
  subst this
  rw [run_convert_bytes_string w 107 9 5 _ 0 0 Tryz.underlying107 Tryz.underlying5 Tryz.underlying9]
  simp [Conv.bytesToString]
  rfl
 ·subst hn
  refine run_convert_bytes_back w 107 9 5 ⟨g, 0, none⟩ cap l Tryz.underlying107 Tryz.underlying5 Tryz.underlying9 (fun j hj => ?_)
  have := h.cells (g := g) rfl j (cellB l[j]) (by simp [hj])
  exact this
theorem in_yes (x a b : Int) (w : World) (h1 : a <= x) (h2 : x <= b) : Calls Tryz.prog 22 #[.int .i64 x, .int .i64 a, .int .i64 b] w fun e w' => e = .returned (.bool true) /\ w = w' := by
 go_enter Tryz.func22, Tryz.ntmps22
 go_wp2
 go_ret
 exact ⟨by simp, rfl⟩
theorem in_no (x a b : Int) (w : World) (h : x < a ∨ b < x) : Calls Tryz.prog 22 #[.int .i64 x, .int .i64 a, .int .i64 b] w fun e w' => e = .returned (.bool false) /\ w = w' := by
 rcases h with h1 | h2
 ·go_enter Tryz.func22, Tryz.ntmps22
  go_wp2
  go_ret
  exact ⟨by simp, rfl⟩
 ·by_cases h1 : a <= x
  ·go_enter Tryz.func22, Tryz.ntmps22
   go_wp2
   go_ret
   exact ⟨by simp; omega, rfl⟩
  ·go_enter Tryz.func22, Tryz.ntmps22
   go_wp2
   go_ret
   exact ⟨by simp, rfl⟩
theorem cellB_of {m : Nat} (h : m < 256) : cellB (UInt8.ofNat m) = .int .u8 (m : Int) := by unfold cellB; rw [u8_ofNat h]
theorem one_new (w : World) (v : Value) (t : TypeId) : ∀ j u, [v][j]? = some u -> (w.alloc (.cells #[v] t)).cell? ((⟨w.heap.size, 0, none⟩ : Addr).add j) = some u := by
 intro j u hj
 match j, hj with
 | 0, hj => simp at hj; subst hj; simp [Addr.add]
def cellsI (l : List Int) : List Value := l.map fun z => Value.int .i64 z
def IntAt (w : World) (v : Value) (l : List Int) : Prop := ∃ ao cap, v = .slice ao l.length cap /\ (0 < l.length -> ∃ g, ao = some ⟨g, 0, none⟩ /\ g < w.heap.size /\ ∀ j (hj : j < l.length), w.cell? ⟨g, j, none⟩ = some (.int .i64 l[j]))
theorem IntAt.below {w w' : World} {v : Value} {l : List Int} (h : IntAt w v l) (hb : Below w.heap.size w w') : IntAt w' v l := by
 obtain ⟨ao, cap, hv, h⟩ := h
 refine ⟨ao, cap, hv, fun hl => ?_⟩
 obtain ⟨g, hg, hlt, hc⟩ := h hl
 exact ⟨g, hg, Nat.lt_of_lt_of_le hlt hb.size, fun j hj => by rw [hb.cell (p := ⟨g, j, none⟩) hlt]; exact hc j hj⟩
theorem IntAt.of_own {w : World} {base : Nat} {v : Value} {l : List Int} (h : w.ownsRow base 3 1 v l.length (cellsI l)) : IntAt w v l := by
 have hc := fun g (hg : v.ownBlock = some g) => (h.lt g hg).2
 have h' := h
 obtain ⟨h1, h2⟩ := h
 rcases h2 with ⟨rfl, h0⟩ | ⟨g, cap, cur, rfl, hbg, hg, r⟩
 ·exact ⟨none, 0, by rw [h0], fun hl => by omega⟩
 ·refine ⟨some ⟨g, 0, none⟩, cap, rfl, fun hl => ⟨g, rfl, hc g rfl, fun j hj => ?_⟩⟩
  rw [h'.cellAt j (by omega)]
  simp [cellsI, hj]
theorem eqIntS_same (a b : Value) (l : List Int) (w : World) (hl : l.length <= 1000000000) (ha : IntAt w a l) (hb : IntAt w b l) : Calls Tryz.prog 32 #[a, b] w fun e w' => e = .returned (.bool true) /\ Below w.heap.size w w' := by
 obtain ⟨ao, ac, rfl, ha⟩ := ha
 obtain ⟨bo, bc, rfl, hb⟩ := hb
 have HA : Hid (0 < l.length -> ∃ g, ao = some ⟨g, 0, none⟩ /\ g < w.heap.size /\ ∀ j (hj : j < l.length), w.cell? ⟨g, j, none⟩ = some (.int .i64 l[j])) := ha
 have HB : Hid (0 < l.length -> ∃ g, bo = some ⟨g, 0, none⟩ /\ g < w.heap.size /\ ∀ j (hj : j < l.length), w.cell? ⟨g, j, none⟩ = some (.int .i64 l[j])) := hb
 clear ha hb
 go_enter Tryz.func32, Tryz.ntmps32
 go_wp2
 go_loopw [5] (fun iv wr => ∃ k : Nat, k <= l.length /\ iv = .int .i64 k /\ Below w.heap.size w wr) (fun iv _ => l.length - (intOf iv).toNat)
 case atStart => exact ⟨0, Nat.zero_le _, rfl, Below.refl _ _⟩
 case round =>
  obtain ⟨k, hk, rfl, hbel⟩ := hrel
  by_cases hlt : k < l.length
  ·obtain ⟨ga, hao, hga, hca⟩ := HA.out (by omega)
   obtain ⟨gb, hbo, hgb, hcb⟩ := HB.out (by omega)
   have c1 : wr.cell? ⟨ga, k, none⟩ = some (.int .i64 l[k]) := (hbel.cell (p := ⟨ga, k, none⟩) hga).trans (hca k hlt)
   have c2 : wr.cell? ⟨gb, k, none⟩ = some (.int .i64 l[k]) := (hbel.cell (p := ⟨gb, k, none⟩) hgb).trans (hcb k hlt)
   generalize l[k] = x at *
   subst hao hbo
   clear hca hcb
   have hki : (k : Int) < (l.length : Int) := by omega
   have hk0 : (0 : Int) <= (k : Int) := by omega
   go_wp2_with fail
   go_region
   go_wp2
   go_roundw
   case rel => exact ⟨k + 1, by omega, by go_num, hbel.drew⟩
   case measure => simp [intOf]; omega
  ·go_wp2
   go_ret
   exact ⟨rfl, hbel⟩
def marksI (k n : Nat) : List Int := (List.range n).map fun i : Nat => (k : Int) + (i : Int)
theorem marksI_len (k n : Nat) : (marksI k n).length = n := by simp [marksI]
theorem heldIntS_same (v : Value) (n k : Nat) (w : World) (hn : n <= 1000000000) (hk : k <= 1000000000) (hv : IntAt w v (marksI k n)) :
  Calls Tryz.prog 40 #[v, .int .i64 k] w fun e w' => e = .returned (.int .i64 ((k : Int) + (n : Int))) /\ Below w.heap.size w w' := by
 obtain ⟨ao, cap, rfl, hc⟩ := hv
 rw [marksI_len]
 have HC : Hid (0 < n -> ∃ g, ao = some ⟨g, 0, none⟩ /\ g < w.heap.size /\ ∀ j, j < n -> w.cell? ⟨g, j, none⟩ = some (.int .i64 ((k : Int) + (j : Int)))) := fun h => by
  obtain ⟨g, hg, hl, hcs⟩ := hc (by rw [marksI_len]; exact h)
  refine ⟨g, hg, hl, fun j hj => ?_⟩
  rw [hcs j (by rw [marksI_len]; exact hj)]
  simp [marksI]
 clear hc
 go_enter Tryz.func40, Tryz.ntmps40
 go_wp2
 go_loopw [1, 5] (fun kv iv wr => ∃ j : Nat, j <= n /\ kv = .int .i64 ((k : Int) + (j : Int)) /\ iv = .int .i64 j /\ Below w.heap.size w wr) (fun _ iv _ => n - (intOf iv).toNat)
 case atStart => exact ⟨0, Nat.zero_le _, by simp, rfl, Below.refl _ _⟩
 case round =>
  obtain ⟨j, hj, rfl, rfl, hbel⟩ := hrel
  have hsz := hbel.size
  by_cases hlt : j < n
  ·obtain ⟨g, hao, hgl, hcs⟩ := HC.out (by omega)
   subst hao
   have hu : wr.cell? ⟨g, j, none⟩ = some (.int .i64 ((k : Int) + (j : Int))) := (hbel.cell (p := ⟨g, j, none⟩) hgl).trans (hcs j hlt)
   have hji : (j : Int) < (n : Int) := by omega
   have hj0 : (0 : Int) <= (j : Int) := by omega
   clear hcs
   go_wp2_with fail
   try go_region
   go_wp2
   go_roundw
   case rel => first | exact ⟨j + 1, by omega, by go_num, by go_num, hbel⟩ | exact ⟨j + 1, by omega, by go_num, by go_num, hbel.drew⟩
   case measure => simp [intOf]; omega
  ·have hjn : j = n := by omega
   subst hjn
   go_wp2
   go_ret
   exact ⟨rfl, hbel⟩
end Go.Proofs.YtagmnlmfoanelaaGreat
