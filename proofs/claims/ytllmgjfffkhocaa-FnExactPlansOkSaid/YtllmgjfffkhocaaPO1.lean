/-
  Texts of the proof.
-/
import Derived.OrdersHeld
import Derived.WalkKit
import Derived.Test.YtllmgjfffkhocaaChecked
import Derived.WalkSpells
import Derived.WalkLawsBesides
import Derived.Handy
import Derived.Laws.IdiomStrings
import Derived.Deep.RegionHeld3
import Derived.Laws.StructEq
import Derived.Laws.Rows
import Derived.OwnWalk
import Derived.Laws.OwnMore
import Derived.Deep.AppendLies
import Derived.Deep.RegionLaw
namespace Go.Proofs.Ytllmgjfffkhocaa
open Go.RowKit
theorem zH {p : Prop} (h : p) : Hid p := h
theorem zE {a : Type} (x : a) : ∃ q, x = q := ⟨x, rfl⟩
theorem zT {P : Program} {md : Region.Mode} {ops : Array Oper} {Q : Exit -> Act -> World -> Prop} {S : World -> Prop} (i s : Nat) {o1 o2 o3 o4 o5} (v : Value) {fuel : Nat} {listed : Array Bool} {a : Act} {w : World} (hi : ops[i]? = some (Oper.mk (some s) o1 o2 o3 o4 o5)) (h1 : Region.wanted (Oper.mk (some s) o1 o2 o3 o4 o5) (yielded ops a.tmps) = true) (h2 : ∀ w, S w -> (execOp a.eval (Oper.mk (some s) o1 o2 o3 o4 o5)).run P w = .ok (.value v) w) (hS : S w) (h : wpAnyH P md ops Q S fuel (listed.setIfInBounds i true) (a.put (some s) v) w) (hs : Region.noSelect ops = true := by kernel_rfl) (hf : Region.free md ops listed i = true := by kernel_rfl) (hr : (Region.ready md ops listed).contains i = true := by kernel_rfl) (hQ : ∀ c a w, Q (.panic c) (a.put (some s) v) w -> Q (.panic c) a w := by exact fun _ _ _ h => h) : wpAnyH P md ops Q S (fuel + 1) listed a w := wpAnyH_take hi hs hf hr hQ (.inl ⟨h1, h2⟩) hS h
theorem zU {P : Program} {md : Region.Mode} {ops : Array Oper} {Q : Exit -> Act -> World -> Prop} {S : World -> Prop} (i s : Nat) {o1 o2 o3 o4 o5} {fuel : Nat} {listed : Array Bool} {a : Act} {w : World} (hi : ops[i]? = some (Oper.mk (some s) o1 o2 o3 o4 o5)) (h1 : Region.wanted (Oper.mk (some s) o1 o2 o3 o4 o5) (yielded ops a.tmps) = false) (hS : S w) (h : wpAnyH P md ops Q S fuel (listed.setIfInBounds i true) (a.put (some s) undef) w) (hs : Region.noSelect ops = true := by kernel_rfl) (hf : Region.free md ops listed i = true := by kernel_rfl) (hr : (Region.ready md ops listed).contains i = true := by kernel_rfl) (hQ : ∀ c a w, Q (.panic c) (a.put (some s) undef) w -> Q (.panic c) a w := by exact fun _ _ _ h => h) : wpAnyH P md ops Q S (fuel + 1) listed a w := wpAnyH_take hi hs hf hr hQ (.inr ⟨h1, rfl⟩) hS h
theorem zA {a : Type} (l : List a) (i : Nat) (x : a) : l.toArray.setIfInBounds i x = (l.set i x).toArray := by rw [List.setIfInBounds_toArray]
theorem zB {a : Type} (x y : a) (l : List a) : (x :: l).set 0 y = y :: l := rfl
theorem zC {a : Type} (x y : a) (l : List a) (n : Nat) : (x :: l).set (n + 1) y = x :: l.set n y := rfl
end Go.Proofs.Ytllmgjfffkhocaa
namespace Go.Proofs.Ytllmgjfffkhocaa.Der
def It : Nat -> Type
 | 0 => Empty
 | n + 1 => Int × List UInt8 × List (It n)
def It.mk {n : Nat} (t : Int) (s : List UInt8) (ks : List (It n)) : It (n + 1) := (t, s, ks)
end Go.Proofs.Ytllmgjfffkhocaa.Der
namespace Go.Proofs.Ytllmgjfffkhocaa
open Go.RowKit
theorem in_yes (x a b : Int) (w : World) (h1 : a <= x) (h2 : x <= b) : Calls Try.prog 37 #[.int .i64 x, .int .i64 a, .int .i64 b] w fun e w' => e = .returned (.bool true) /\ w = w' := by
 go_enter Try.func37, Try.ntmps37
 go_wp2
 go_ret
 exact ⟨by simp, rfl⟩
theorem in_no (x a b : Int) (w : World) (h : x < a ∨ b < x) : Calls Try.prog 37 #[.int .i64 x, .int .i64 a, .int .i64 b] w fun e w' => e = .returned (.bool false) /\ w = w' := by
 rcases h with h1 | h2
 ·go_enter Try.func37, Try.ntmps37
  go_wp2
  go_ret
  exact ⟨by simp, rfl⟩
 ·by_cases h1 : a <= x
  ·go_enter Try.func37, Try.ntmps37
   go_wp2
   go_ret
   exact ⟨by simp; omega, rfl⟩
  ·go_enter Try.func37, Try.ntmps37
   go_wp2
   go_ret
   exact ⟨by simp, rfl⟩
end Go.Proofs.Ytllmgjfffkhocaa
namespace Go.Proofs.Ytllmgjfffkhocaa
open Go.RowKit Der
set_option linter.unusedVariables false
theorem nodup_app {a b : List Nat} (ha : a.Nodup) (hb : b.Nodup) (hd : ∀ x ∈ a, x ∉ b) : (a ++ b).Nodup := List.nodup_append.2 ⟨ha, hb, fun x hx y hy e => hd x hx (e ▸ hy)⟩
end Go.Proofs.Ytllmgjfffkhocaa
