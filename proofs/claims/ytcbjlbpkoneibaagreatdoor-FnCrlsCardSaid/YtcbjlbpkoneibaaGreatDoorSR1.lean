/-
  Texts of the proof.
-/
import Derived.OrdersHeld
import Derived.Deep.RegionHeld
import Derived.Below
import Derived.WalkKit
import Derived.Test.YtcbjlbpkoneibaaGreatDoorChecked
import Derived.WalkSpells
import Derived.WalkLawsBesides
import Derived.Handy
import Derived.Laws.IdiomStrings
import Derived.Deep.RegionHeld3
import Derived.Laws.StructEq
import Derived.Laws.Rows
set_option linter.unusedVariables false
set_option linter.unusedSimpArgs false
namespace Go.Proofs.YtcbjlbpkoneibaaGreatDoor
open Go.RowKit
abbrev zI (n : Int) : Value := .int .i64 n
abbrev zG (s : ByteArray) : Value := .string s
abbrev zS (p : Option Addr) (n c : Nat) : Value := .slice p n c
abbrev zZ : Value := .slice none 0 0
abbrev zW (a b : World) : Prop := Below a.heap.size a b
theorem zR {P : Program} {md : Region.Mode} {ops : Array Oper} {Q : Exit -> Act -> World -> Prop} {S : World -> Prop} (i s : Nat) {o1 o2 o3 o4 o5} {fuel : Nat} {listed : Array Bool} {a : Act} {w : World} (hi : ops[i]? = some (Oper.mk (some s) o1 o2 o3 o4 o5)) (h : ∀ K' : Act -> World -> Prop, Shut (∀ a w, S w -> (S w -> wpAnyH P md ops Q S fuel (listed.setIfInBounds i true) a w) -> K' a w) -> if Region.wanted (Oper.mk (some s) o1 o2 o3 o4 o5) (yielded ops a.tmps) = true then Oper.wp P (Oper.mk (some s) o1 o2 o3 o4 o5) a w K' Q else K' (a.put (some s) undef) w) (hr : Region.ready md ops listed = [i] := by kernel_rfl) : wpAnyH P md ops Q S (fuel + 1) listed a w := wpAnyH_ready hr (by simp) (AllReadyH.cons hi h AllReadyH.nil)
theorem zN {P : Program} {md : Region.Mode} {ops : Array Oper} {Q : Exit -> Act -> World -> Prop} {S : World -> Prop} (i : Nat) {o1 o2 o3 o4 o5} {fuel : Nat} {listed : Array Bool} {a : Act} {w : World} (hi : ops[i]? = some (Oper.mk none o1 o2 o3 o4 o5)) (h : ∀ K' : Act -> World -> Prop, Shut (∀ a w, S w -> (S w -> wpAnyH P md ops Q S fuel (listed.setIfInBounds i true) a w) -> K' a w) -> if Region.wanted (Oper.mk none o1 o2 o3 o4 o5) (yielded ops a.tmps) = true then Oper.wp P (Oper.mk none o1 o2 o3 o4 o5) a w K' Q else K' (a.put none undef) w) (hr : Region.ready md ops listed = [i] := by kernel_rfl) : wpAnyH P md ops Q S (fuel + 1) listed a w := wpAnyH_ready hr (by simp) (AllReadyH.cons hi h AllReadyH.nil)
theorem zQ {P : Program} {md : Region.Mode} {ops : Array Oper} {Q : Exit -> Act -> World -> Prop} {S : World -> Prop} (i s : Nat) {o1 o2 o3 o4 o5} {v : Value} {fuel : Nat} {listed : Array Bool} {a : Act} {w : World} (hi : ops[i]? = some (Oper.mk (some s) o1 o2 o3 o4 o5)) (hS : S w) (h : wpAnyH P md ops Q S fuel (listed.setIfInBounds i true) (a.put (some s) v) w) (h2 : ∀ w, S w -> (execOp a.eval (Oper.mk (some s) o1 o2 o3 o4 o5)).run P w = .ok (.value v) w := by intro W hSw; go_simp; try with_reducible rfl) (h1 : Region.wanted (Oper.mk (some s) o1 o2 o3 o4 o5) (yielded ops a.tmps) = true := by rfl) (hs : Region.noSelect ops = true := by kernel_rfl) (hf : Region.free md ops listed i = true := by kernel_rfl) (hr : (Region.ready md ops listed).contains i = true := by kernel_rfl) (hQ : ∀ c a w, Q (.panic c) (a.put (some s) v) w -> Q (.panic c) a w := by exact fun _ _ _ h => h) : wpAnyH P md ops Q S (fuel + 1) listed a w := wpAnyH_take hi hs hf hr hQ (.inl ⟨h1, h2⟩) hS h
theorem zH {p : Prop} (h : p) : Hid p := h
theorem zJ {p q : Prop} (h : p) (k : q) : p ∧ q := ⟨h, k⟩
theorem zE {a : Type} (x : a) : ∃ q, x = q := ⟨x, rfl⟩
theorem zT {P : Program} {md : Region.Mode} {ops : Array Oper} {Q : Exit -> Act -> World -> Prop} {S : World -> Prop} (i s : Nat) {o1 o2 o3 o4 o5} (v : Value) {fuel : Nat} {listed : Array Bool} {a : Act} {w : World} (hi : ops[i]? = some (Oper.mk (some s) o1 o2 o3 o4 o5)) (h1 : Region.wanted (Oper.mk (some s) o1 o2 o3 o4 o5) (yielded ops a.tmps) = true) (h2 : ∀ w, S w -> (execOp a.eval (Oper.mk (some s) o1 o2 o3 o4 o5)).run P w = .ok (.value v) w) (hS : S w) (h : wpAnyH P md ops Q S fuel (listed.setIfInBounds i true) (a.put (some s) v) w) (hs : Region.noSelect ops = true := by kernel_rfl) (hf : Region.free md ops listed i = true := by kernel_rfl) (hr : (Region.ready md ops listed).contains i = true := by kernel_rfl) (hQ : ∀ c a w, Q (.panic c) (a.put (some s) v) w -> Q (.panic c) a w := by exact fun _ _ _ h => h) : wpAnyH P md ops Q S (fuel + 1) listed a w := wpAnyH_take hi hs hf hr hQ (.inl ⟨h1, h2⟩) hS h
theorem zU {P : Program} {md : Region.Mode} {ops : Array Oper} {Q : Exit -> Act -> World -> Prop} {S : World -> Prop} (i s : Nat) {o1 o2 o3 o4 o5} {fuel : Nat} {listed : Array Bool} {a : Act} {w : World} (hi : ops[i]? = some (Oper.mk (some s) o1 o2 o3 o4 o5)) (h1 : Region.wanted (Oper.mk (some s) o1 o2 o3 o4 o5) (yielded ops a.tmps) = false) (hS : S w) (h : wpAnyH P md ops Q S fuel (listed.setIfInBounds i true) (a.put (some s) undef) w) (hs : Region.noSelect ops = true := by kernel_rfl) (hf : Region.free md ops listed i = true := by kernel_rfl) (hr : (Region.ready md ops listed).contains i = true := by kernel_rfl) (hQ : ∀ c a w, Q (.panic c) (a.put (some s) undef) w -> Q (.panic c) a w := by exact fun _ _ _ h => h) : wpAnyH P md ops Q S (fuel + 1) listed a w := wpAnyH_take hi hs hf hr hQ (.inr ⟨h1, rfl⟩) hS h
theorem zA {a : Type} (l : List a) (i : Nat) (x : a) : l.toArray.setIfInBounds i x = (l.set i x).toArray := by rw [List.setIfInBounds_toArray]
theorem zB {a : Type} (x y : a) (l : List a) : (x :: l).set 0 y = y :: l := rfl
theorem zC {a : Type} (x y : a) (l : List a) (n : Nat) : (x :: l).set (n + 1) y = x :: l.set n y := rfl
end Go.Proofs.YtcbjlbpkoneibaaGreatDoor
namespace Go.Proofs.YtcbjlbpkoneibaaGreatDoor.Der
def It : Nat -> Type
 | 0 => Empty
 | n + 1 => Int × List UInt8 × List (It n)
def It.tag {n : Nat} (x : It (n + 1)) : Int := Prod.fst x
def It.text {n : Nat} (x : It (n + 1)) : List UInt8 := Prod.fst (Prod.snd x)
def It.kids {n : Nat} (x : It (n + 1)) : List (It n) := Prod.snd (Prod.snd x)
def It.mk {n : Nat} (t : Int) (s : List UInt8) (ks : List (It n)) : It (n + 1) := (t, s, ks)
theorem It.tag_mk {n : Nat} (t : Int) (s : List UInt8) (ks : List (It n)) : (It.mk t s ks).tag = t := rfl
theorem It.text_mk {n : Nat} (t : Int) (s : List UInt8) (ks : List (It n)) : (It.mk t s ks).text = s := rfl
theorem It.kids_mk {n : Nat} (t : Int) (s : List UInt8) (ks : List (It n)) : (It.mk t s ks).kids = ks := rfl
theorem It.eta {n : Nat} (x : It (n + 1)) : It.mk x.tag x.text x.kids = x := rfl
def plainOk (t : Int) (s : List UInt8) : Bool :=
 if t = 1 then s == [0] || s == [255]
 else if t = 2 then decide (1 <= s.length) && decide (s.length <= 5) && decide (s.getD 0 0 < 128) && (decide (s.getD 0 0 ≠ 0) || decide (s.length = 1) || decide (128 <= s.getD 1 0))
 else if t = 12 then s.all fun b => decide (32 <= b) && decide (b <= 126)
 else decide (t = 4)
def rightI : (n : Nat) -> It n -> Nat -> Bool
 | 0, _, _ => false
 | n + 1, x, d => if It.tag x ≠ 48 then decide ((It.kids x).length = 0) && plainOk (It.tag x) (It.text x)
   else decide ((It.text x).length = 0) && decide ((It.kids x).length <= 40) && decide (d < 6) && (It.kids x).all fun y => rightI n y (d + 1)
def beN : Nat -> Nat -> List UInt8
 | 0, _ => []
 | f + 1, n => if n = 0 then [] else beN f (n / 256) ++ [UInt8.ofNat (n % 256)]
def lenB (n : Nat) : List UInt8 := if n < 128 then [UInt8.ofNat n] else UInt8.ofNat (128 + (beN 9 n).length) :: beN 9 n
def txtI : (n : Nat) -> It n -> List UInt8
 | 0, _ => []
 | n + 1, x => UInt8.ofNat ((It.tag x) % 256).toNat :: (lenB (if It.tag x = 48 then It.text x ++ ((It.kids x).map (txtI n)).flatten else It.text x).length ++ (if It.tag x = 48 then It.text x ++ ((It.kids x).map (txtI n)).flatten else It.text x))
def sameI : (n m : Nat) -> It n -> It m -> Bool
 | 0, _, _, _ => false
 | _ + 1, 0, _, _ => false
 | n + 1, m + 1, x, y => decide (It.tag x = It.tag y) && decide (It.text x = It.text y) && decide ((It.kids x).length = (It.kids y).length) && ((It.kids x).zip (It.kids y)).all fun p => sameI n m p.1 p.2
def sizeL : List UInt8 -> Option (Nat × Nat)
 | [] => none
 | b :: r => if b.toNat < 128 then some (b.toNat, 1) else if 1 <= b.toNat - 128 /\ b.toNat - 128 <= 2 /\ b.toNat - 128 <= r.length then some ((r.take (b.toNat - 128)).foldl (fun a c => 256 * a + c.toNat) 0, 1 + (b.toNat - 128)) else none
def kidsL {α : Type} (rd : List UInt8 -> Option (α × Nat)) : Nat -> List UInt8 -> Option (List α)
 | _, [] => some []
 | 0, _ :: _ => none
 | m + 1, b :: l => match rd (b :: l) with
  | none => none
  | some (x, u) => match kidsL rd m ((b :: l).drop u) with
   | none => none
   | some xs => some (x :: xs)
def rdI : (n : Nat) -> List UInt8 -> Option (It n × Nat)
 | 0, _ => none
 | _ + 1, [] => none
 | n + 1, b :: r => match sizeL r with
  | none => none
  | some (sz, c) => if (r.drop c).length < sz then none
   else if b.toNat ≠ 48 then some (It.mk (b.toNat : Int) ((r.drop c).take sz) [], 1 + c + sz)
   else match kidsL (rdI n) 40 ((r.drop c).take sz) with
    | none => none
    | some ks => some (It.mk (b.toNat : Int) [] ks, 1 + c + sz)
theorem beN_len : ∀ f n, (beN f n).length <= f
 | 0, _ => Nat.le_refl _
 | f + 1, n => by
  unfold beN
  split
  ·exact Nat.zero_le _
  ·have := beN_len f (n / 256)
   simp;omega
theorem beN_val : ∀ f n, n < 256 ^ f -> (beN f n).foldl (fun a c => 256 * a + c.toNat) 0 = n
 | 0, n, h => by simp at h; subst h; rfl
 | f + 1, n, h => by
  unfold beN
  split
  ·next h0 => subst h0; rfl
  ·rw [List.foldl_append, beN_val f (n / 256) (by rw [Nat.pow_succ] at h; omega)]
   simp;omega
theorem beN_len2 {n : Nat} (h0 : 128 <= n) (h : n < 65536) : 1 <= (beN 9 n).length /\ (beN 9 n).length <= 2 := by
 unfold beN;rw [if_neg (by omega)];unfold beN
 split
 ·simp
 ·unfold beN
  rw [if_pos (by omega)];simp
theorem lenB_pos (n : Nat) : 0 < (lenB n).length := by unfold lenB; split <;> simp
theorem size_len {n : Nat} (h : n < 65536) (r : List UInt8) : sizeL (lenB n ++ r) = some (n, (lenB n).length) := by
 unfold lenB
 split
 ·next h1 =>
  have e : (UInt8.ofNat n).toNat = n := by rw [UInt8.toNat_ofNat']; omega
  simp [sizeL, e, h1]
 ·next h1 =>
  have hl := beN_len2 (by omega) h;obtain ⟨k, hk⟩ := zE ((beN 9 n).length);have e : (UInt8.ofNat (128 + k)).toNat = 128 + k := by rw [UInt8.toNat_ofNat']; omega
  rw [hk] at hl |-;show sizeL (UInt8.ofNat (128 + k) :: (beN 9 n ++ r)) = _;unfold sizeL;simp only [e];rw [if_neg (by omega), if_pos ⟨by omega, by omega, by rw [List.length_append, hk]; omega⟩, show 128 + k - 128 = k by omega];have ht : (beN 9 n ++ r).take k = beN 9 n := by rw [<- hk]; simp
  rw [ht, beN_val 9 n (by omega)];simp [hk];omega
theorem txtI_pos {n : Nat} (x : It (n + 1)) : 0 < (txtI (n + 1) x).length := by
 unfold txtI;simp
theorem kids_back {α β : Type} (rd : List UInt8 -> Option (β × Nat)) (f : α -> List UInt8) (S : α -> β -> Prop) : ∀ (ks : List α) (m : Nat), ks.length <= m -> (∀ x ∈ ks, 0 < (f x).length /\ ∀ r, ∃ y, S x y /\ rd (f x ++ r) = some (y, (f x).length)) ->
  ∃ ys : List β, ys.length = ks.length /\ (∀ p ∈ ks.zip ys, S p.1 p.2) /\ kidsL rd m ((ks.map f).flatten) = some ys
 | [], m, _, _ => ⟨[], rfl, by simp, by cases m <;> rfl⟩
 | x :: ks, 0, h, _ => by simp at h
 | x :: ks, m + 1, h, hx => by
  obtain ⟨ys, h1, h2, h3⟩ := kids_back rd f S ks m (by simpa using h) (fun y hy => hx y (by simp [hy]));obtain ⟨hp, hr⟩ := hx x (by simp);obtain ⟨y, hS, hy⟩ := hr ((ks.map f).flatten);refine ⟨y :: ys, by simp [h1], ?_, ?_⟩
  ·intro p hp
   simp only [List.zip_cons_cons, List.mem_cons] at hp
   rcases hp with rfl | hp
   ·exact hS
   ·exact h2 p hp
  ·rw [List.map_cons, List.flatten_cons]
   obtain ⟨b, l, hb⟩ : ∃ b l, f x ++ (ks.map f).flatten = b :: l := by
    cases hq : f x ++ (ks.map f).flatten with
    | nil => have := congrArg List.length hq; rw [List.length_append] at this; simp only [List.length_nil] at this; omega
    | cons b l => exact ⟨b, l, rfl⟩
   rw [hb];unfold kidsL;rw [<- hb, hy];simp only;rw [show (f x ++ (ks.map f).flatten).drop (f x).length = (ks.map f).flatten by simp, h3]
theorem plainOk_tag {t : Int} {s : List UInt8} (h : plainOk t s = true) : t = 1 ∨ t = 2 ∨ t = 12 ∨ t = 4 := by
 unfold plainOk at h
 split at h
 ·exact .inl ‹_›
 ·split at h
  ·exact .inr (.inl ‹_›)
  ·split at h
   ·exact .inr (.inr (.inl ‹_›))
   ·exact .inr (.inr (.inr (by simpa using h)))
theorem flat_len {α : Type} (f : α -> List UInt8) : ∀ (ks : List α) (x : α), x ∈ ks -> (f x).length <= ((ks.map f).flatten).length
 | y :: ks, x, h => by
  rw [List.map_cons, List.flatten_cons, List.length_append]
  rcases List.mem_cons.1 h with rfl | h
  ·omega
  ·have := flat_len f ks x h
   omega
theorem rd_txt : ∀ (n : Nat) (x : It n) (d k : Nat), d + (k + 1) = 7 -> rightI n x d = true -> (txtI n x).length < 65536 -> ∀ r, ∃ y : It (k + 1), sameI n (k + 1) x y = true /\ rdI (k + 1) (txtI n x ++ r) = some (y, (txtI n x).length)
 | 0, x, _, _, _, h, _, _ => by simp [rightI] at h
 | n + 1, x, d, k, hd, h, hl, r => by
  obtain ⟨t, s, ks⟩ : Int × List UInt8 × List (It n) := x;change rightI (n + 1) (It.mk t s ks) d = true at h;change (txtI (n + 1) (It.mk t s ks)).length < 65536 at hl;show ∃ y : It (k + 1), sameI (n + 1) (k + 1) (It.mk t s ks) y = true /\ rdI (k + 1) (txtI (n + 1) (It.mk t s ks) ++ r) = some (y, (txtI (n + 1) (It.mk t s ks)).length);unfold rightI at h;simp only [It.tag_mk, It.text_mk, It.kids_mk] at h;unfold txtI at hl |-;simp only [It.tag_mk, It.text_mk, It.kids_mk] at hl |-;by_cases h48 : t = 48
  ·subst h48
   simp only [ne_eq, not_true_eq_false, if_false, if_true, Bool.and_eq_true, List.all_eq_true] at h hl |-;obtain ⟨⟨⟨hs, hk⟩, hd6⟩, hall⟩ := h;replace hs := of_decide_eq_true hs;replace hk := of_decide_eq_true hk;replace hd6 := of_decide_eq_true hd6;obtain rfl : s = [] := List.eq_nil_of_length_eq_zero hs;rw [List.nil_append] at hl |-;obtain ⟨k2, rfl⟩ : ∃ k2, k = k2 + 1 := ⟨k - 1, by omega⟩;have hb : ((ks.map (txtI n)).flatten).length < 65536 := by
    simp only [List.length_cons, List.length_append] at hl;omega
   obtain ⟨ys, hy1, hy2, hy3⟩ := kids_back (rdI (k2 + 1)) (txtI n) (fun x y => sameI n (k2 + 1) x y = true) ks 40 hk (fun x hx => by
    have hr := hall x hx;have hxl := flat_len (txtI n) ks x hx;refine ⟨?_, rd_txt n x (d + 1) k2 (by omega) hr (by omega)⟩
    cases n with
    | zero => simp [rightI] at hr
    | succ n => exact txtI_pos x)
   refine ⟨It.mk 48 [] ys, ?_, ?_⟩
   ·unfold sameI
    simp only [It.tag_mk, It.text_mk, It.kids_mk, hy1, decide_true, Bool.true_and];exact List.all_eq_true.2 hy2
   ·rw [List.cons_append, List.append_assoc]
    unfold rdI;rw [size_len hb];simp only;rw [show (lenB ((ks.map (txtI n)).flatten).length ++ ((ks.map (txtI n)).flatten ++ r)).drop (lenB ((ks.map (txtI n)).flatten).length).length = (ks.map (txtI n)).flatten ++ r by simp];rw [if_neg (by rw [List.length_append]; omega), if_neg (by decide)];rw [show ((ks.map (txtI n)).flatten ++ r).take ((ks.map (txtI n)).flatten).length = (ks.map (txtI n)).flatten by simp, hy3];simp only [List.length_cons, List.length_append]
    congr 2
    omega
  ·simp only [h48, ne_eq, not_false_eq_true, if_true, if_false, Bool.and_eq_true] at h hl |-
   obtain ⟨hk, hp⟩ := h;replace hk := of_decide_eq_true hk;obtain rfl : ks = [] := List.eq_nil_of_length_eq_zero hk;have ht := plainOk_tag hp;have hb : s.length < 65536 := by
    simp only [List.length_cons, List.length_append] at hl;omega
   have hbt : ((UInt8.ofNat (t % 256).toNat).toNat : Int) = t /\ (UInt8.ofNat (t % 256).toNat).toNat ≠ 48 := by
    rcases ht with rfl | rfl | rfl | rfl <;> decide
   refine ⟨It.mk t s [], ?_, ?_⟩
   ·unfold sameI
    simp [It.tag_mk, It.text_mk, It.kids_mk]
   ·rw [List.cons_append, List.append_assoc]
    unfold rdI;rw [size_len hb];simp only;rw [show (lenB s.length ++ (s ++ r)).drop (lenB s.length).length = s ++ r by simp];rw [if_neg (by rw [List.length_append]; omega), if_pos hbt.2, hbt.1];rw [show (s ++ r).take s.length = s by simp];simp only [List.length_cons, List.length_append]
    congr 2
    omega
theorem zip_map_eq {α β γ : Type} {f : α -> γ} {g : β -> γ} : ∀ {ks : List α} {ys : List β}, ks.length = ys.length -> (∀ p ∈ ks.zip ys, f p.1 = g p.2) -> ks.map f = ys.map g
 | [], [], _, _ => rfl
 | [], _ :: _, h, _ => by simp at h
 | _ :: _, [], h, _ => by simp at h
 | x :: ks, y :: ys, h, hp => by
  rw [List.map_cons, List.map_cons, hp (x, y) (by simp), zip_map_eq (by simpa using h) (fun p hp' => hp p (by simp [hp']))]
theorem zip_all_eq {α β : Type} {f : α -> Bool} {g : β -> Bool} : ∀ {ks : List α} {ys : List β}, ks.length = ys.length -> (∀ p ∈ ks.zip ys, f p.1 = g p.2) -> ks.all f = ys.all g
 | [], [], _, _ => rfl
 | [], _ :: _, h, _ => by simp at h
 | _ :: _, [], h, _ => by simp at h
 | x :: ks, y :: ys, h, hp => by
  rw [List.all_cons, List.all_cons, hp (x, y) (by simp), zip_all_eq (by simpa using h) (fun p hp' => hp p (by simp [hp']))]
theorem same_parts {n m : Nat} {x : It (n + 1)} {y : It (m + 1)} (h : sameI (n + 1) (m + 1) x y = true) : It.tag x = It.tag y /\ It.text x = It.text y /\ (It.kids x).length = (It.kids y).length /\ ∀ p ∈ (It.kids x).zip (It.kids y), sameI n m p.1 p.2 = true := by
 unfold sameI at h;simp only [Bool.and_eq_true, List.all_eq_true] at h;exact ⟨of_decide_eq_true h.1.1.1, of_decide_eq_true h.1.1.2, of_decide_eq_true h.1.2, h.2⟩
theorem same_txt : ∀ (n m : Nat) (x : It n) (y : It m), sameI n m x y = true -> txtI n x = txtI m y
 | 0, _, x, _, h => by simp [sameI] at h
 | n + 1, 0, x, _, h => by simp [sameI] at h
 | n + 1, m + 1, x, y, h => by
  obtain ⟨h1, h2, h3, h4⟩ := same_parts h;unfold txtI;rw [h1, h2, zip_map_eq h3 (fun p hp => same_txt n m p.1 p.2 (h4 p hp))]
theorem same_right : ∀ (n m : Nat) (x : It n) (y : It m) (d : Nat), sameI n m x y = true -> rightI n x d = rightI m y d
 | 0, _, x, _, _, h => by simp [sameI] at h
 | n + 1, 0, x, _, _, h => by simp [sameI] at h
 | n + 1, m + 1, x, y, d, h => by
  obtain ⟨h1, h2, h3, h4⟩ := same_parts h;unfold rightI;rw [h1, h2, h3, zip_all_eq (f := fun y => rightI n y (d + 1)) (g := fun y => rightI m y (d + 1)) h3 (fun p hp => same_right n m p.1 p.2 (d + 1) (h4 p hp))]
def readI (t : List UInt8) : Option (It 7) := if 4000 < t.length then none else match rdI 7 t with
 | none => none
 | some (x, u) => if u = t.length /\ rightI 7 x 0 = true /\ (txtI 7 x).length <= 4000 /\ txtI 7 x = t then some x else none
def writeI (n : Nat) (x : It n) : Option (List UInt8) := if rightI n x 0 = true /\ (txtI n x).length <= 4000 then some (txtI n x) else none
theorem read_some {t : List UInt8} {x : It 7} (h : readI t = some x) : writeI 7 x = some t /\ rdI 7 t = some (x, t.length) := by
 unfold readI at h
 split at h
 ·simp at h
 ·split at h
  ·simp at h
  ·next x' u hr =>
   split at h
   ·next hc =>
    simp only [Option.some.injEq] at h;subst h;refine ⟨?_, by rw [hr, hc.1]⟩;unfold writeI;rw [if_pos ⟨hc.2.1, hc.2.2.1⟩, hc.2.2.2]
   ·simp at h
theorem write_some {n : Nat} {x : It n} {t : List UInt8} (h : writeI n x = some t) : rightI n x 0 = true /\ t.length <= 4000 /\ txtI n x = t := by
 unfold writeI at h
 split at h
 ·next hc => simp only [Option.some.injEq] at h; subst h; exact ⟨hc.1, hc.2, rfl⟩
 ·simp at h
theorem read_back {n : Nat} {x : It n} {t : List UInt8} (h : writeI n x = some t) : ∃ y : It 7, sameI n 7 x y = true /\ readI t = some y := by
 obtain ⟨h1, h2, h3⟩ := write_some h;obtain ⟨y, hy, hr⟩ := rd_txt n x 0 6 rfl h1 (by rw [h3]; omega) [];rw [List.append_nil, h3] at hr;have e := same_txt n 7 x y hy;refine ⟨y, hy, ?_⟩;unfold readI;rw [if_neg (by omega), hr];show (if t.length = t.length /\ rightI 7 y 0 = true /\ (txtI 7 y).length <= 4000 /\ txtI 7 y = t then some y else none) = some y;rw [if_pos ⟨rfl, by rw [<- same_right n 7 x y 0 hy]; exact h1, by rw [<- e, h3]; exact h2, by rw [<- e, h3]⟩]
def valB8 (s : List UInt8) : Nat := s.foldl (fun a c => 256 * a + c.toNat) 0
theorem valB8_snoc (s : List UInt8) (b : UInt8) : valB8 (s ++ [b]) = 256 * valB8 s + b.toNat := by simp [valB8]
theorem valB8_zero (s : List UInt8) : valB8 (0 :: s) = valB8 s := by simp [valB8]
theorem valB8_pos : ∀ (k : Nat) (s : List UInt8), s.length = k -> s ≠ [] -> s.getD 0 0 ≠ 0 -> 0 < valB8 s := by
 intro k
 induction k with
 | zero => intro s hl hne; exact absurd (List.eq_nil_of_length_eq_zero hl) hne
 | succ k ih =>
  intro s hl hne hh;obtain ⟨l, b, rfl⟩ : ∃ l b, s = l ++ [b] := ⟨s.dropLast, s.getLast hne, (List.dropLast_concat_getLast _).symm⟩;rw [valB8_snoc];by_cases h0 : l = []
  ·subst h0
   have hb : b ≠ 0 := by simpa using hh
   have : b.toNat ≠ 0 := fun e => hb (UInt8.toNat_inj.1 (by simpa using e))
   omega
  ·have h1 : (l ++ [b]).getD 0 0 = l.getD 0 0 := by
    cases l with
    | nil => exact absurd rfl h0
    | cons x l => rfl
   have := ih l (by simpa using hl) h0 (by rw [<- h1]; exact hh);omega
theorem beN_back : ∀ (f : Nat) (s : List UInt8), s.length <= f -> (s ≠ [] -> s.getD 0 0 ≠ 0) -> beN f (valB8 s) = s
 | 0, s, hl, _ => by
  obtain rfl : s = [] := List.eq_nil_of_length_eq_zero (by omega);rfl
 | f + 1, s, hl, hh => by
  by_cases h0 : s = []
  ·subst h0
   unfold beN;simp [valB8]
  ·have hp := valB8_pos s.length s rfl h0 (hh h0)
   obtain ⟨l, b, rfl⟩ : ∃ l b, s = l ++ [b] := ⟨s.dropLast, s.getLast h0, (List.dropLast_concat_getLast _).symm⟩;unfold beN;rw [if_neg (by omega), valB8_snoc];have hb := b.toNat_lt;rw [show (256 * valB8 l + b.toNat) / 256 = valB8 l by omega, show (256 * valB8 l + b.toNat) % 256 = b.toNat by omega];rw [beN_back f l (by simp at hl; omega) (fun hne => by
    have h1 : (l ++ [b]).getD 0 0 = l.getD 0 0 := by
     cases l with
     | nil => exact absurd rfl hne
     | cons x l => rfl
    rw [<- h1];exact hh (by simp))]
   simp
theorem beN_head : ∀ (f n : Nat), n < 256 ^ f -> n ≠ 0 -> beN f n ≠ [] /\ (beN f n).getD 0 0 ≠ 0
 | 0, n, h, h0 => by simp at h; exact absurd h h0
 | f + 1, n, h, h0 => by
  unfold beN;rw [if_neg h0];refine ⟨by simp, ?_⟩;by_cases hz : n / 256 = 0
  ·rw [hz]
   have e : beN f 0 = [] := by cases f <;> simp [beN]
   rw [e];show UInt8.ofNat (n % 256) ≠ 0;intro e2;have := congrArg UInt8.toNat e2;rw [UInt8.toNat_ofNat'] at this;simp at this;omega
  ·obtain ⟨h1, h2⟩ := beN_head f (n / 256) (by rw [Nat.pow_succ] at h; omega) hz
   cases hq : beN f (n / 256) with
   | nil => exact absurd hq h1
   | cons x l => rw [hq] at h2; exact h2
def intT (n : Nat) : List UInt8 := if beN 9 n = [] ∨ 128 <= (beN 9 n).getD 0 0 then 0 :: beN 9 n else beN 9 n
theorem beN_short {n : Nat} (h : n <= 1000000000) : (beN 9 n).length <= 4 := by
 have : ∀ (f k n : Nat), n < 256 ^ k -> (beN f n).length <= k := by
  intro f
  induction f with
  | zero => intro k n _; exact Nat.zero_le _
  | succ f ih =>
   intro k n hn;unfold beN
   split
   ·exact Nat.zero_le _
   ·cases k with
    | zero => simp at hn; omega
    | succ k =>
     have := ih k (n / 256) (by rw [Nat.pow_succ] at hn; omega);simp;omega
 exact this 9 4 n (by omega)
theorem intT_val {n : Nat} (h : n <= 1000000000) : valB8 (intT n) = n := by
 have e : valB8 (beN 9 n) = n := beN_val 9 n (by omega);unfold intT
 split
 ·rw [valB8_zero, e]
 ·exact e
theorem intT_ok {n : Nat} (h : n <= 1000000000) : plainOk 2 (intT n) = true := by
 have hl := beN_short h;unfold plainOk intT;rw [if_neg (by decide), if_pos rfl];by_cases h0 : n = 0
 ·subst h0; decide
 ·obtain ⟨h1, h2⟩ := beN_head 9 n (by omega) h0
  have hp : 0 < (beN 9 n).length := List.length_pos_iff.2 h1
  split
  ·next hc =>
   have hc2 : 128 <= (beN 9 n).getD 0 0 := by rcases hc with hc | hc; exact absurd hc h1; exact hc
   have e1 : (0 :: beN 9 n).getD 1 0 = (beN 9 n).getD 0 0 := rfl;have e0 : (0 :: beN 9 n).getD 0 0 = 0 := rfl;rw [e1, e0];simp only [List.length_cons, Bool.and_eq_true, Bool.or_eq_true, decide_eq_true_eq];exact ⟨⟨⟨by omega, by omega⟩, by decide⟩, .inr hc2⟩
  ·next hc =>
   have hc2 : (beN 9 n).getD 0 0 < 128 := by
    rcases Classical.em (128 <= (beN 9 n).getD 0 0) with h3 | h3
    ·exact absurd (.inr h3) hc
    ·exact UInt8.not_le.1 h3
   simp only [Bool.and_eq_true, Bool.or_eq_true, decide_eq_true_eq];exact ⟨⟨⟨by omega, by omega⟩, hc2⟩, .inl (.inl h2)⟩
theorem intT_back {s : List UInt8} (h : plainOk 2 s = true) : intT (valB8 s) = s := by
 unfold plainOk at h;rw [if_neg (by decide), if_pos rfl] at h;simp only [Bool.and_eq_true, Bool.or_eq_true, decide_eq_true_eq] at h;obtain ⟨⟨⟨h1, h2⟩, h3⟩, h4⟩ := h;obtain ⟨b, r, rfl⟩ : ∃ b r, s = b :: r := by
  cases s with
  | nil => simp at h1
  | cons b r => exact ⟨b, r, rfl⟩
 have hb : b < 128 := h3;by_cases hz : b = 0
 ·subst hz
  rw [valB8_zero];unfold intT
  cases r with
  | nil => decide
  | cons c r =>
   have hc : 128 <= c := by
    rcases h4 with (h4 | h4) | h4
    ·exact absurd rfl h4
    ·simp at h4
    ·exact h4
   have e := beN_back 9 (c :: r) (by simp at h2 |-; omega) (fun _ => by
    show c ≠ 0;intro e;subst e;exact absurd hc (by decide))
   rw [e, if_pos (.inr hc)]
 ·have e := beN_back 9 (b :: r) (by simp at h2 |-; omega) (fun _ => hz)
  unfold intT;rw [e, if_neg];intro hc
  rcases hc with hc | hc
  ·simp at hc
  ·exact absurd hb (UInt8.not_lt.2 hc)
end Go.Proofs.YtcbjlbpkoneibaaGreatDoor.Der
namespace Go.Proofs.YtcbjlbpkoneibaaGreatDoor
theorem u8_ofNat {n : Nat} (h : n < 256) : (UInt8.ofNat n).toNat = n := by
 rw [UInt8.toNat_ofNat'];omega
def cellB (b : UInt8) : Value := .int .u8 (b.toNat : Int)
def val : List UInt8 -> Nat
 | [] => 0
 | b :: r => b.toNat % 128 + 128 * val r
theorem u8_eq {a b : UInt8} (h : a.toNat = b.toNat) : a = b := UInt8.toNat_inj.1 h
theorem info5 : (Tryz.prog.info? 5).map (fun i => (i.zero, i.size, i.bytes)) = some (some (.int .u8 0), 1, 1) := by kernel_rfl
theorem conv_own {w : World} {base : Nat} {v : Value} {l : List UInt8} {n : Nat} (h : w.ownsRow base 5 1 v n (l.map cellB)) :
  (convert 22 9 v).run Tryz.prog w = .ok (zG ⟨l.toArray⟩) w := by
 have hn : l.length = n := by have := h.1; simpa using this
 rcases h.2 with ⟨rfl, h0⟩ | ⟨g, cap, cur, rfl, hb, hg, hnc, hcm, hcs, ht⟩
 ·have : l = [] := List.length_eq_zero_iff.1 (by omega)
  subst this;rw [run_convert_bytes_string w 22 9 5 _ 0 0 Tryz.underlying22 Tryz.underlying5 Tryz.underlying9];simp [Conv.bytesToString];rfl
 ·subst hn
  refine run_convert_bytes_back w 22 9 5 ⟨g, 0, none⟩ cap l Tryz.underlying22 Tryz.underlying5 Tryz.underlying9 (fun j hj => ?_);have := h.cells (g := g) rfl j (cellB l[j]) (by simp [hj]);exact this
theorem in_yes (x a b : Int) (w : World) (h1 : a <= x) (h2 : x <= b) : Calls Tryz.prog 44 #[zI x, zI a, zI b] w fun e w' => e = .returned (.bool true) /\ w = w' := by
 go_enter Tryz.func44, Tryz.ntmps44
 go_wp2
 go_ret;exact ⟨by simp, rfl⟩
theorem in_no (x a b : Int) (w : World) (h : x < a ∨ b < x) : Calls Tryz.prog 44 #[zI x, zI a, zI b] w fun e w' => e = .returned (.bool false) /\ w = w' := by
 rcases h with h1 | h2
 ·go_enter Tryz.func44, Tryz.ntmps44
  go_wp2
  go_ret;exact ⟨by simp, rfl⟩
 ·by_cases h1 : a <= x
  ·go_enter Tryz.func44, Tryz.ntmps44
   go_wp2
   go_ret;exact ⟨by simp; omega, rfl⟩
  ·go_enter Tryz.func44, Tryz.ntmps44
   go_wp2
   go_ret;exact ⟨by simp, rfl⟩
theorem cellB_of {m : Nat} (h : m < 256) : cellB (UInt8.ofNat m) = .int .u8 (m : Int) := by unfold cellB; rw [u8_ofNat h]
theorem one_new (w : World) (v : Value) (t : TypeId) : ∀ j u, [v][j]? = some u -> (w.alloc (.cells #[v] t)).cell? ((⟨w.heap.size, 0, none⟩ : Addr).add j) = some u := by
 intro j u hj
 match j, hj with
 | 0, hj => simp at hj; subst hj; simp [Addr.add]
open Go.RowKit Der
def KidsAt {α : Type} (w : World) (P : Value -> α -> Prop) (v : Value) (ks : List α) : Prop :=
 ∃ ao cap, v = zS ao ks.length cap /\ (0 < ks.length -> ∃ g o, ao = some ⟨g, o, none⟩ /\ g < w.heap.size /\ ∀ j (hj : j < ks.length), ∃ t s k, w.cell? ⟨g, o + j * 3, none⟩ = some t /\ w.cell? ⟨g, o + j * 3 + 1, none⟩ = some s /\ w.cell? ⟨g, o + j * 3 + 2, none⟩ = some k /\ P (.agg #[t, s, k]) ks[j])
def ItAt (w : World) : (n : Nat) -> Value -> It n -> Prop
 | 0, _, _ => False
 | n + 1, v, x => ∃ k, v = .agg #[.int .i64 (It.tag x), .string ⟨(It.text x).toArray⟩, k] /\ KidsAt w (ItAt w n) k (It.kids x)
theorem KidsAt.mono {α : Type} {w w' : World} {P Q : Value -> α -> Prop} {v : Value} {ks : List α} (h : KidsAt w P v ks) (hb : zW w w') (hPQ : ∀ u x, P u x -> Q u x) : KidsAt w' Q v ks := by
 obtain ⟨ao, cap, rfl, h⟩ := h;refine ⟨ao, cap, rfl, fun hp => ?_⟩;obtain ⟨g, o, rfl, hg, hc⟩ := h hp;refine ⟨g, o, rfl, Nat.lt_of_lt_of_le hg hb.size, fun j hj => ?_⟩;obtain ⟨t, s, k, c0, c1, c2, hP⟩ := hc j hj;exact ⟨t, s, k, (hb.cell (p := ⟨g, o + j * 3, none⟩) hg).trans c0, (hb.cell (p := ⟨g, o + j * 3 + 1, none⟩) hg).trans c1, (hb.cell (p := ⟨g, o + j * 3 + 2, none⟩) hg).trans c2, hPQ _ _ hP⟩
theorem ItAt.below {w w' : World} (hb : zW w w') : ∀ {n : Nat} {v : Value} {x : It n}, ItAt w n v x -> ItAt w' n v x
 | 0, _, _, h => h.elim
 | _ + 1, _, _, ⟨k, hv, hk⟩ => ⟨k, hv, hk.mono hb fun _ _ h => ItAt.below hb h⟩
def szI : (n : Nat) -> It n -> Nat
 | 0, _ => 0
 | n + 1, x => (It.text x).length + (It.kids x).length + ((It.kids x).map (szI n)).sum
theorem sum_mem : ∀ (l : List Nat) (a : Nat), a ∈ l -> a <= l.sum
 | b :: l, a, h => by
  rw [List.sum_cons]
  rcases List.mem_cons.1 h with rfl | h
  ·omega
  ·have := sum_mem l a h
   omega
theorem szI_kid {n : Nat} {t : Int} {s : List UInt8} {ks : List (It n)} {b : Nat} (h : szI (n + 1) (It.mk t s ks) <= b) : s.length <= b /\ ks.length <= b /\ ∀ y ∈ ks, szI n y <= b := by
 change s.length + ks.length + (ks.map (szI n)).sum <= b at h;refine ⟨by omega, by omega, fun y hy => ?_⟩;have := sum_mem (ks.map (szI n)) (szI n y) (List.mem_map.2 ⟨y, hy, rfl⟩);omega
theorem KidsAt.get {α : Type} {w : World} {P : Value -> α -> Prop} {ax : Option Addr} {l cx : Nat} {ks : List α} (h : KidsAt w P (zS ax l cx) ks) {j : Nat} (hj : j < ks.length) :
  ∃ g o t s k, ax = some ⟨g, o, none⟩ /\ g < w.heap.size /\ (w.cell? ⟨g, o + j * 3, none⟩ = some t /\ w.cell? ⟨g, o + j * 3 + 1, none⟩ = some s /\ w.cell? ⟨g, o + j * 3 + 2, none⟩ = some k) /\ P (.agg #[t, s, k]) ks[j] := by
 obtain ⟨ao, cap, hv, h⟩ := h;obtain ⟨g, o, hao, hg, hc⟩ := h (by omega);obtain ⟨t, s, k, c0, c1, c2, hP⟩ := hc j hj;injection hv with hv1
 exact ⟨g, o, t, s, k, hv1.trans hao, hg, ⟨c0, c1, c2⟩, hP⟩
def Cells3 (w : World) (g o : Nat) (t s k : Value) : Prop := w.cell? ⟨g, o, none⟩ = some t /\ w.cell? ⟨g, o + 1, none⟩ = some s /\ w.cell? ⟨g, o + 2, none⟩ = some k
theorem Cells3.below {w w' : World} {B g o : Nat} {t s k : Value} (h : Cells3 w g o t s k) (hg : g < B) (hb : Below B w w') : Cells3 w' g o t s k :=
 ⟨(hb.cell (p := ⟨g, o, none⟩) hg).trans h.1, (hb.cell (p := ⟨g, o + 1, none⟩) hg).trans h.2.1, (hb.cell (p := ⟨g, o + 2, none⟩) hg).trans h.2.2⟩
theorem same_all {n m : Nat} {ks : List (It n)} {ks' : List (It m)} (hl : ks.length = ks'.length) (h : ∀ j (h1 : j < ks.length) (h2 : j < ks'.length), sameI n m ks[j] ks'[j] = true) : ((ks.zip ks').all fun p => sameI n m p.1 p.2) = true := by
 rw [List.all_eq_true];intro p hp;obtain ⟨j, hj, e⟩ := List.getElem_of_mem hp;rw [List.getElem_zip] at e;rw [List.length_zip] at hj;rw [<- e];exact h j (by omega) (by omega)
end Go.Proofs.YtcbjlbpkoneibaaGreatDoor
