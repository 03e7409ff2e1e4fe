/-
  Texts of the proof.
-/
import Derived.WalkKit
import Derived.Deep.RegionHeld3
import Derived.Laws.StructEq
import Derived.Laws.Rows
import Derived.OwnWalk
import Derived.Laws.OwnMore
import Derived.Deep.AppendLies
import Derived.Deep.RegionLaw
import Derived.Test.YtagmnlmfoanelaaNA1
set_option maxRecDepth 100000
set_option maxHeartbeats 25600000
namespace Go.Proofs.Ytagmnlmfoanelaa.Der
def It : Nat -> Type
 | 0 => Empty
 | n + 1 => Int × List UInt8 × List (It n)
def It.text {n : Nat} (x : It (n + 1)) : List UInt8 := Prod.fst (Prod.snd x)
def It.mk {n : Nat} (t : Int) (s : List UInt8) (ks : List (It n)) : It (n + 1) := (t, s, ks)
end Go.Proofs.Ytagmnlmfoanelaa.Der
namespace Go.Proofs.Ytagmnlmfoanelaa
open Go.RowKit Der
set_option linter.unusedVariables false
set_option linter.unusedSimpArgs false
theorem own_kept {w w' : World} {base : Nat} {e : TypeId} {size : Nat} {v : Value} {n : Nat} {xs : List Value} (h : w.ownsRow base e size v n xs) (hb : Below w.heap.size w w') : w'.ownsRow base e size v n xs :=
 h.kept ⟨hb.os, hb.tape, hb.output, hb.size, fun k hk _ => hb.block k hk⟩ (row := none) (by cases hv : v.ownBlock <;> simp)
theorem nodup_app {a b : List Nat} (ha : a.Nodup) (hb : b.Nodup) (hd : ∀ x ∈ a, x ∉ b) : (a ++ b).Nodup := List.nodup_append.2 ⟨ha, hb, fun x hx y hy e => hd x hx (e ▸ hy)⟩
end Go.Proofs.Ytagmnlmfoanelaa
namespace Go.Proofs.Ytagmnlmfoanelaa
open Go.RowKit
def mfig (n : Nat) : UInt8 := UInt8.ofNat (48 + n % 10)
def mdg (n : Nat) : List UInt8 := if _h : n = 0 then [] else mdg (n / 10) ++ [mfig n]
theorem mdg_zero : mdg 0 = [] := by rw [mdg, dif_pos rfl]
theorem mdg_pos {n : Nat} (h : n ≠ 0) : mdg n = mdg (n / 10) ++ [mfig n] := by rw [mdg, dif_neg h]
theorem mdg_step {m n : Nat} {ds : List UInt8} (h : mdg m ++ ds = mdg n) (hm : m ≠ 0) : mdg (m / 10) ++ (mfig m :: ds) = mdg n := by
 rw [<- h, mdg_pos hm]; simp
theorem mdg_len (n : Nat) : (mdg n).length <= n := by
 induction n using Nat.strongRecOn with
 | _ n ih =>
  by_cases h : n = 0
  ·subst h; rw [mdg_zero]; exact Nat.le_refl _
  ·rw [mdg_pos h]
   have := ih (n / 10) (by omega)
   simp; omega
def mt (k : Nat) : List UInt8 := 109 :: mdg k
theorem conv_oneM (m : Nat) (W : World) : (convert 85 9 (.slice (some ⟨W.heap.size, 0, none⟩) 1 1)).run Try.prog (W.alloc (.cells #[.int .u8 (48 + (m : Int) % 10)] 5)) = .ok (.string ⟨#[mfig m]⟩) (W.alloc (.cells #[.int .u8 (48 + (m : Int) % 10)] 5)) := by
 have ho := World.ownsRow_lit (base := W.heap.size) (e := 5) (size := 1) W #[.int .u8 (48 + (m : Int) % 10)] 1 (Nat.le_refl _) (by decide) rfl
 have e : (#[Value.int .u8 (48 + (m : Int) % 10)]).toList = [mfig m].map cellB := by
  unfold mfig
  simp only [List.map_cons, List.map_nil, cellB_of (show 48 + m % 10 < 256 by omega)]
  simp
 rw [e] at ho
 exact conv_own ho
theorem cat_oneM (f : UInt8) (ds : List UInt8) : (⟨#[f]⟩ : ByteArray) ++ (⟨ds.toArray⟩ : ByteArray) = ⟨(f :: ds).toArray⟩ := by
 apply ByteArray.ext
 simp [ByteArray.data_append]
theorem markText_str (k : Nat) (w : World) (h1 : 1 <= k) (hk : k <= 1000000000000) : Calls Try.prog 42 #[.int .i64 k] w fun e w' => e = .returned (.string ⟨(mt k).toArray⟩) /\ Below w.heap.size w w' := by
 have hpos : ¬ (k : Int) <= 0 := by omega
 go_enter Try.func42, Try.ntmps42
 go_wp2
 go_loopw [3, 0] (fun sv kv wr => ∃ (m : Nat) (ds : List UInt8), m <= k /\ kv = .int .i64 m /\ sv = .string ⟨ds.toArray⟩ /\ Hid (mdg m ++ ds = mdg k) /\ Below w.heap.size w wr) (fun _ kv _ => (intOf kv).toNat)
 case atStart => exact ⟨k, [], Nat.le_refl _, rfl, rfl, by show _ = _; simp, Below.refl _ _⟩
 case round =>
  obtain ⟨m, ds, hm, rfl, rfl, HD, hbel⟩ := hrel
  have hdl : ds.length <= k := by
   have h1 := mdg_len k
   rw [<- HD.out] at h1
   simp at h1
   omega
  by_cases hm0 : m = 0
  ·subst hm0
   have HF : Hid (ds = mdg k) := by have := HD.out; rw [mdg_zero] at this; exact this
   go_wp2
   go_ret
   exact ⟨by rw [HF.out]; rfl, hbel⟩
  ·have hmp : (0 : Int) < (m : Int) := by omega
   have hcv := conv_oneM m
   go_wp2
   go_roundw
   case rel => exact ⟨m / 10, mfig m :: ds, by omega, by go_num, by rw [cat_oneM], mdg_step HD.out hm0, hbel.alloc hbel.size _⟩
   case measure => simp [intOf]; omega
theorem markText_int (x : Int) (w : World) (h1 : 1 <= x) (hk : x <= 1000000000000) : Calls Try.prog 42 #[.int .i64 x] w fun e w' => e = .returned (.string ⟨(mt x.toNat).toArray⟩) /\ Below w.heap.size w w' := by
 obtain ⟨k, rfl⟩ := Int.eq_ofNat_of_zero_le (show 0 <= x by omega)
 rw [Int.toNat_natCast]
 exact markText_str k w (by omega) (by omega)
end Go.Proofs.Ytagmnlmfoanelaa
