/-
  Texts of the proof.
-/
import Derived.ChangeArms
import Derived.ChangeSlices
import Derived.ChangeOld
import Derived.DataElems
import Derived.OpenShut
import Derived.WalkKit
import Derived.Laws.RangeString
import Derived.Laws.RangeAny
import Derived.Test.YtagmnlmfoanelaaGreatSK3
set_option maxRecDepth 100000
namespace Go.Proofs.YtagmnlmfoanelaaGreat
open Go.RowKit Go.ChangeShapes
set_option linter.unusedVariables false
set_option linter.unusedSimpArgs false
theorem cI : Tryz.prog.cellsOf 3 = 1 := by kernel_rfl
theorem cS : Tryz.prog.cellsOf 9 = 1 := by kernel_rfl
theorem cB : Tryz.prog.cellsOf 4 = 1 := by kernel_rfl
theorem cT : Tryz.prog.cellsOf 27 = 1 := by kernel_rfl
theorem take_one {cs : List Value} {k : Nat} {v : Value} (h : (cs.drop k).take 1 = [v]) : cs[k]? = some v := by
 have := congrArg (·[0]?) h
 simpa [List.getElem?_take, List.getElem?_drop] using this
theorem ints_in {H : Type} {enc : TypeId × Value -> H} {W : World} {fuel : Nat} {cs : List Value} {x : DataW H × List MemPlace} (h : DataW.trod enc Tryz.prog W 0 (fun _ => true) true fuel 24 cs = some x) :
  ∃ ao cap, ∃ l : List Int, cs = [.slice ao l.length cap] /\ l.length <= maxLen /\ Wd l /\ ArgAt W.heap.size W ao l := by
 rcases open_ints Tryz.underlying24 Tryz.underlying3 (by kernel_rfl) h with ⟨hcs, _⟩ | ⟨x, l, c, zs, hcs, _, hl, hm, hz, _, hcell, hwz⟩
 ·exact ⟨none, 0, [], hcs, Nat.zero_le _, fun x hx => by simp at hx, fun j hj => by simp at hj⟩
 ·obtain ⟨h1, h2, h3⟩ := argAt_of hl (by simpa using hz) hcell hwz
  exact ⟨some x, c, zs.take l, by rw [h1]; exact hcs, by rw [h1]; exact Nat.le_trans hl hm, h2, h3⟩
theorem texts_in {H : Type} {enc : TypeId × Value -> H} {W : World} {fuel : Nat} {cs : List Value} {x : DataW H × List MemPlace} (h : DataW.trod enc Tryz.prog W 0 (fun _ => true) true fuel 27 cs = some x) :
  ∃ ao cap, ∃ l : List ByteArray, cs = [.slice ao l.length cap] /\ l.length <= maxLen /\ WdT l /\ ArgT W.heap.size W ao l := by
 rcases open_strings Tryz.underlying27 Tryz.underlying9 (by kernel_rfl) h with ⟨hcs, _⟩ | ⟨x, l, c, zs, hcs, _, hl, hm, hz, _, hcell, hwz⟩
 ·exact ⟨none, 0, [], hcs, Nat.zero_le _, fun x hx => by simp at hx, fun j hj => by simp at hj⟩
 ·obtain ⟨h1, h2, h3⟩ := argT_of hl (by simpa using hz) hcell hwz
  exact ⟨some x, c, zs.take l, by rw [h1]; exact hcs, by rw [h1]; exact Nat.le_trans hl hm, h2, h3⟩
end Go.Proofs.YtagmnlmfoanelaaGreat
namespace Go.Proofs.YtagmnlmfoanelaaGreat
open Go.RowKit
set_option linter.unusedVariables false
def inB (n lo hi : Int) : Bool := decide (lo <= n /\ n <= hi)
theorem in_any (n lo hi : Int) (w : World) : Calls Tryz.prog 22 #[.int .i64 n, .int .i64 lo, .int .i64 hi] w fun e w' => e = .returned (.bool (inB n lo hi)) /\ Below w.heap.size w w' := by
 by_cases h : lo <= n /\ n <= hi
 ·refine (in_yes _ _ _ _ h.1 h.2).mono ?_
  rintro e w' ⟨rfl, rfl⟩
  exact ⟨by simp [inB, h], Below.refl _ _⟩
 ·refine (in_no _ _ _ _ (by omega)).mono ?_
  rintro e w' ⟨rfl, rfl⟩
  exact ⟨by unfold inB; rw [decide_eq_false h], Below.refl _ _⟩
theorem num_any (n : Int) (w : World) : Calls Tryz.prog 64 #[.int .i64 n] w fun e w' => e = .returned (.bool (inB n 0 9999)) /\ Below w.heap.size w w' := by
 have E := in_any n 0 9999 w
 generalize inB n 0 9999 = b at *
 go_enter Tryz.func64, Tryz.ntmps64
 go_wp2_with fail
 refine E.mono ?_
 rintro e w' ⟨rfl, hb⟩
 go_wp2_with fail
 go_ret
 exact ⟨rfl, hb⟩
end Go.Proofs.YtagmnlmfoanelaaGreat
namespace Go.Proofs.YtagmnlmfoanelaaGreat.Der
def It : Nat -> Type
 | 0 => Empty
 | n + 1 => Int × List UInt8 × List (It n)
def It.tag {n : Nat} (x : It (n + 1)) : Int := Prod.fst x
def It.text {n : Nat} (x : It (n + 1)) : List UInt8 := Prod.fst (Prod.snd x)
def It.kids {n : Nat} (x : It (n + 1)) : List (It n) := Prod.snd (Prod.snd x)
def It.mk {n : Nat} (t : Int) (s : List UInt8) (ks : List (It n)) : It (n + 1) := (t, s, ks)
theorem It.eta {n : Nat} (x : It (n + 1)) : It.mk x.tag x.text x.kids = x := rfl
def plainOk (t : Int) (s : List UInt8) : Bool :=
 if t = 1 then s == [0] || s == [255]
 else if t = 2 then decide (1 <= s.length) && decide (s.length <= 5) && decide (s.getD 0 0 < 128) && (decide (s.getD 0 0 ≠ 0) || decide (s.length = 1) || decide (128 <= s.getD 1 0))
 else if t = 12 then s.all fun b => decide (32 <= b) && decide (b <= 126)
 else decide (t = 4)
def rightI : (n : Nat) -> It n -> Nat -> Bool
 | 0, _, _ => false
 | n + 1, x, d => if It.tag x ≠ 48 then decide ((It.kids x).length = 0) && plainOk (It.tag x) (It.text x)
   else decide ((It.text x).length = 0) && decide ((It.kids x).length <= 40) && decide (d < 6) && (It.kids x).all fun y => rightI n y (d + 1)
def beN : Nat -> Nat -> List UInt8
 | 0, _ => []
 | f + 1, n => if n = 0 then [] else beN f (n / 256) ++ [UInt8.ofNat (n % 256)]
def lenB (n : Nat) : List UInt8 := if n < 128 then [UInt8.ofNat n] else UInt8.ofNat (128 + (beN 9 n).length) :: beN 9 n
def txtI : (n : Nat) -> It n -> List UInt8
 | 0, _ => []
 | n + 1, x => UInt8.ofNat ((It.tag x) % 256).toNat :: (lenB (if It.tag x = 48 then It.text x ++ ((It.kids x).map (txtI n)).flatten else It.text x).length ++ (if It.tag x = 48 then It.text x ++ ((It.kids x).map (txtI n)).flatten else It.text x))
theorem beN_len : ∀ f n, (beN f n).length <= f
 | 0, _ => Nat.le_refl _
 | f + 1, n => by
  unfold beN
  split
  ·exact Nat.zero_le _
  ·have := beN_len f (n / 256)
   simp
   omega
theorem plainOk_tag {t : Int} {s : List UInt8} (h : plainOk t s = true) : t = 1 ∨ t = 2 ∨ t = 12 ∨ t = 4 := by
 unfold plainOk at h
 split at h
 ·exact .inl ‹_›
 ·split at h
  ·exact .inr (.inl ‹_›)
  ·split at h
   ·exact .inr (.inr (.inl ‹_›))
   ·exact .inr (.inr (.inr (by simpa using h)))
def writeI (n : Nat) (x : It n) : Option (List UInt8) := if rightI n x 0 = true /\ (txtI n x).length <= 4000 then some (txtI n x) else none
theorem beN_head : ∀ (f n : Nat), n < 256 ^ f -> n ≠ 0 -> beN f n ≠ [] /\ (beN f n).getD 0 0 ≠ 0
 | 0, n, h, h0 => by simp at h; exact absurd h h0
 | f + 1, n, h, h0 => by
  unfold beN
  rw [if_neg h0]
  refine ⟨by simp, ?_⟩
  by_cases hz : n / 256 = 0
  ·rw [hz]
   have e : beN f 0 = [] := by cases f <;> simp [beN]
   rw [e]
   show UInt8.ofNat (n % 256) ≠ 0
   intro e2
   have := congrArg UInt8.toNat e2
   rw [UInt8.toNat_ofNat'] at this
   simp at this
   omega
  ·obtain ⟨h1, h2⟩ := beN_head f (n / 256) (by rw [Nat.pow_succ] at h; omega) hz
   cases hq : beN f (n / 256) with
   | nil => exact absurd hq h1
   | cons x l => rw [hq] at h2; exact h2
def intT (n : Nat) : List UInt8 := if beN 9 n = [] ∨ 128 <= (beN 9 n).getD 0 0 then 0 :: beN 9 n else beN 9 n
theorem beN_short {n : Nat} (h : n <= 1000000000) : (beN 9 n).length <= 4 := by
 have : ∀ (f k n : Nat), n < 256 ^ k -> (beN f n).length <= k := by
  intro f
  induction f with
  | zero => intro k n _; exact Nat.zero_le _
  | succ f ih =>
   intro k n hn
   unfold beN
   split
   ·exact Nat.zero_le _
   ·cases k with
    | zero => simp at hn; omega
    | succ k =>
     have := ih k (n / 256) (by rw [Nat.pow_succ] at hn; omega)
     simp
     omega
 exact this 9 4 n (by omega)
theorem intT_ok {n : Nat} (h : n <= 1000000000) : plainOk 2 (intT n) = true := by
 have hl := beN_short h
 unfold plainOk intT
 rw [if_neg (by decide), if_pos rfl]
 by_cases h0 : n = 0
 ·subst h0; decide
 ·obtain ⟨h1, h2⟩ := beN_head 9 n (by omega) h0
  have hp : 0 < (beN 9 n).length := List.length_pos_iff.2 h1
  split
  ·next hc =>
   have hc2 : 128 <= (beN 9 n).getD 0 0 := by rcases hc with hc | hc; exact absurd hc h1; exact hc
   have e1 : (0 :: beN 9 n).getD 1 0 = (beN 9 n).getD 0 0 := rfl
   have e0 : (0 :: beN 9 n).getD 0 0 = 0 := rfl
   rw [e1, e0]
   simp only [List.length_cons, Bool.and_eq_true, Bool.or_eq_true, decide_eq_true_eq]
   exact ⟨⟨⟨by omega, by omega⟩, by decide⟩, .inr hc2⟩
  ·next hc =>
   have hc2 : (beN 9 n).getD 0 0 < 128 := by
    rcases Classical.em (128 <= (beN 9 n).getD 0 0) with h3 | h3
    ·exact absurd (.inr h3) hc
    ·exact UInt8.not_le.1 h3
   simp only [Bool.and_eq_true, Bool.or_eq_true, decide_eq_true_eq]
   exact ⟨⟨⟨by omega, by omega⟩, hc2⟩, .inl (.inl h2)⟩
end Go.Proofs.YtagmnlmfoanelaaGreat.Der
