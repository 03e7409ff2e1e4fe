/-
  Texts of the proof.
-/
import Derived.OrdersHeld
import Derived.Deep.RegionHeld
import Derived.Below
import Derived.WalkKit
import Derived.Test.YtabfamhaihnccaaGreatChecked
import Derived.WalkSpells
import Derived.WalkLawsBesides
import Derived.Handy
import Derived.Laws.IdiomStrings
set_option linter.unusedVariables false
set_option linter.unusedSimpArgs false
namespace Go.Proofs.YtabfamhaihnccaaGreat
open Go.RowKit
abbrev zI (n : Int) : Value := .int .i64 n
abbrev zG (s : ByteArray) : Value := .string s
abbrev zS (p : Option Addr) (n c : Nat) : Value := .slice p n c
abbrev zZ : Value := .slice none 0 0
abbrev zW (a b : World) : Prop := Below a.heap.size a b
theorem zR {P : Program} {md : Region.Mode} {ops : Array Oper} {Q : Exit -> Act -> World -> Prop} {S : World -> Prop} (i s : Nat) {o1 o2 o3 o4 o5} {fuel : Nat} {listed : Array Bool} {a : Act} {w : World} (hi : ops[i]? = some (Oper.mk (some s) o1 o2 o3 o4 o5)) (h : ∀ K' : Act -> World -> Prop, Shut (∀ a w, S w -> (S w -> wpAnyH P md ops Q S fuel (listed.setIfInBounds i true) a w) -> K' a w) -> if Region.wanted (Oper.mk (some s) o1 o2 o3 o4 o5) (yielded ops a.tmps) = true then Oper.wp P (Oper.mk (some s) o1 o2 o3 o4 o5) a w K' Q else K' (a.put (some s) undef) w) (hr : Region.ready md ops listed = [i] := by kernel_rfl) : wpAnyH P md ops Q S (fuel + 1) listed a w := wpAnyH_ready hr (by simp) (AllReadyH.cons hi h AllReadyH.nil)
theorem zN {P : Program} {md : Region.Mode} {ops : Array Oper} {Q : Exit -> Act -> World -> Prop} {S : World -> Prop} (i : Nat) {o1 o2 o3 o4 o5} {fuel : Nat} {listed : Array Bool} {a : Act} {w : World} (hi : ops[i]? = some (Oper.mk none o1 o2 o3 o4 o5)) (h : ∀ K' : Act -> World -> Prop, Shut (∀ a w, S w -> (S w -> wpAnyH P md ops Q S fuel (listed.setIfInBounds i true) a w) -> K' a w) -> if Region.wanted (Oper.mk none o1 o2 o3 o4 o5) (yielded ops a.tmps) = true then Oper.wp P (Oper.mk none o1 o2 o3 o4 o5) a w K' Q else K' (a.put none undef) w) (hr : Region.ready md ops listed = [i] := by kernel_rfl) : wpAnyH P md ops Q S (fuel + 1) listed a w := wpAnyH_ready hr (by simp) (AllReadyH.cons hi h AllReadyH.nil)
theorem zQ {P : Program} {md : Region.Mode} {ops : Array Oper} {Q : Exit -> Act -> World -> Prop} {S : World -> Prop} (i s : Nat) {o1 o2 o3 o4 o5} {v : Value} {fuel : Nat} {listed : Array Bool} {a : Act} {w : World} (hi : ops[i]? = some (Oper.mk (some s) o1 o2 o3 o4 o5)) (hS : S w) (h : wpAnyH P md ops Q S fuel (listed.setIfInBounds i true) (a.put (some s) v) w) (h2 : ∀ w, S w -> (execOp a.eval (Oper.mk (some s) o1 o2 o3 o4 o5)).run P w = .ok (.value v) w := by intro W hSw; go_simp; try with_reducible rfl) (h1 : Region.wanted (Oper.mk (some s) o1 o2 o3 o4 o5) (yielded ops a.tmps) = true := by rfl) (hs : Region.noSelect ops = true := by kernel_rfl) (hf : Region.free md ops listed i = true := by kernel_rfl) (hr : (Region.ready md ops listed).contains i = true := by kernel_rfl) (hQ : ∀ c a w, Q (.panic c) (a.put (some s) v) w -> Q (.panic c) a w := by exact fun _ _ _ h => h) : wpAnyH P md ops Q S (fuel + 1) listed a w := wpAnyH_take hi hs hf hr hQ (.inl ⟨h1, h2⟩) hS h
theorem zH {p : Prop} (h : p) : Hid p := h
theorem zJ {p q : Prop} (h : p) (k : q) : p ∧ q := ⟨h, k⟩
theorem zE {a : Type} (x : a) : ∃ q, x = q := ⟨x, rfl⟩
theorem zT {P : Program} {md : Region.Mode} {ops : Array Oper} {Q : Exit -> Act -> World -> Prop} {S : World -> Prop} (i s : Nat) {o1 o2 o3 o4 o5} (v : Value) {fuel : Nat} {listed : Array Bool} {a : Act} {w : World} (hi : ops[i]? = some (Oper.mk (some s) o1 o2 o3 o4 o5)) (h1 : Region.wanted (Oper.mk (some s) o1 o2 o3 o4 o5) (yielded ops a.tmps) = true) (h2 : ∀ w, S w -> (execOp a.eval (Oper.mk (some s) o1 o2 o3 o4 o5)).run P w = .ok (.value v) w) (hS : S w) (h : wpAnyH P md ops Q S fuel (listed.setIfInBounds i true) (a.put (some s) v) w) (hs : Region.noSelect ops = true := by kernel_rfl) (hf : Region.free md ops listed i = true := by kernel_rfl) (hr : (Region.ready md ops listed).contains i = true := by kernel_rfl) (hQ : ∀ c a w, Q (.panic c) (a.put (some s) v) w -> Q (.panic c) a w := by exact fun _ _ _ h => h) : wpAnyH P md ops Q S (fuel + 1) listed a w := wpAnyH_take hi hs hf hr hQ (.inl ⟨h1, h2⟩) hS h
theorem zU {P : Program} {md : Region.Mode} {ops : Array Oper} {Q : Exit -> Act -> World -> Prop} {S : World -> Prop} (i s : Nat) {o1 o2 o3 o4 o5} {fuel : Nat} {listed : Array Bool} {a : Act} {w : World} (hi : ops[i]? = some (Oper.mk (some s) o1 o2 o3 o4 o5)) (h1 : Region.wanted (Oper.mk (some s) o1 o2 o3 o4 o5) (yielded ops a.tmps) = false) (hS : S w) (h : wpAnyH P md ops Q S fuel (listed.setIfInBounds i true) (a.put (some s) undef) w) (hs : Region.noSelect ops = true := by kernel_rfl) (hf : Region.free md ops listed i = true := by kernel_rfl) (hr : (Region.ready md ops listed).contains i = true := by kernel_rfl) (hQ : ∀ c a w, Q (.panic c) (a.put (some s) undef) w -> Q (.panic c) a w := by exact fun _ _ _ h => h) : wpAnyH P md ops Q S (fuel + 1) listed a w := wpAnyH_take hi hs hf hr hQ (.inr ⟨h1, rfl⟩) hS h
theorem zA {a : Type} (l : List a) (i : Nat) (x : a) : l.toArray.setIfInBounds i x = (l.set i x).toArray := by rw [List.setIfInBounds_toArray]
theorem zB {a : Type} (x y : a) (l : List a) : (x :: l).set 0 y = y :: l := rfl
theorem zC {a : Type} (x y : a) (l : List a) (n : Nat) : (x :: l).set (n + 1) y = x :: l.set n y := rfl
end Go.Proofs.YtabfamhaihnccaaGreat
namespace Go.Proofs.YtabfamhaihnccaaGreat.Der
def It : Nat -> Type
 | 0 => Empty
 | n + 1 => Int × List UInt8 × List (It n)
def It.tag {n : Nat} (x : It (n + 1)) : Int := Prod.fst x
def It.text {n : Nat} (x : It (n + 1)) : List UInt8 := Prod.fst (Prod.snd x)
def It.kids {n : Nat} (x : It (n + 1)) : List (It n) := Prod.snd (Prod.snd x)
def It.mk {n : Nat} (t : Int) (s : List UInt8) (ks : List (It n)) : It (n + 1) := (t, s, ks)
theorem It.eta {n : Nat} (x : It (n + 1)) : It.mk x.tag x.text x.kids = x := rfl
def plainOk (t : Int) (s : List UInt8) : Bool :=
 if t = 1 then s == [0] || s == [255]
 else if t = 2 then decide (1 <= s.length) && decide (s.length <= 5) && decide (s.getD 0 0 < 128) && (decide (s.getD 0 0 ≠ 0) || decide (s.length = 1) || decide (128 <= s.getD 1 0))
 else if t = 12 then s.all fun b => decide (32 <= b) && decide (b <= 126)
 else decide (t = 4)
def rightI : (n : Nat) -> It n -> Nat -> Bool
 | 0, _, _ => false
 | n + 1, x, d => if It.tag x ≠ 48 then decide ((It.kids x).length = 0) && plainOk (It.tag x) (It.text x)
   else decide ((It.text x).length = 0) && decide ((It.kids x).length <= 40) && decide (d < 6) && (It.kids x).all fun y => rightI n y (d + 1)
def beN : Nat -> Nat -> List UInt8
 | 0, _ => []
 | f + 1, n => if n = 0 then [] else beN f (n / 256) ++ [UInt8.ofNat (n % 256)]
def lenB (n : Nat) : List UInt8 := if n < 128 then [UInt8.ofNat n] else UInt8.ofNat (128 + (beN 9 n).length) :: beN 9 n
def txtI : (n : Nat) -> It n -> List UInt8
 | 0, _ => []
 | n + 1, x => UInt8.ofNat ((It.tag x) % 256).toNat :: (lenB (if It.tag x = 48 then It.text x ++ ((It.kids x).map (txtI n)).flatten else It.text x).length ++ (if It.tag x = 48 then It.text x ++ ((It.kids x).map (txtI n)).flatten else It.text x))
theorem beN_len : ∀ f n, (beN f n).length <= f
 | 0, _ => Nat.le_refl _
 | f + 1, n => by
  unfold beN
  split
  ·exact Nat.zero_le _
  ·have := beN_len f (n / 256)
   simp;omega
theorem plainOk_tag {t : Int} {s : List UInt8} (h : plainOk t s = true) : t = 1 ∨ t = 2 ∨ t = 12 ∨ t = 4 := by
 unfold plainOk at h
 split at h
 ·exact .inl ‹_›
 ·split at h
  ·exact .inr (.inl ‹_›)
  ·split at h
   ·exact .inr (.inr (.inl ‹_›))
   ·exact .inr (.inr (.inr (by simpa using h)))
def writeI (n : Nat) (x : It n) : Option (List UInt8) := if rightI n x 0 = true /\ (txtI n x).length <= 4000 then some (txtI n x) else none
theorem beN_head : ∀ (f n : Nat), n < 256 ^ f -> n ≠ 0 -> beN f n ≠ [] /\ (beN f n).getD 0 0 ≠ 0
 | 0, n, h, h0 => by simp at h; exact absurd h h0
 | f + 1, n, h, h0 => by
  unfold beN;rw [if_neg h0];refine ⟨by simp, ?_⟩;by_cases hz : n / 256 = 0
  ·rw [hz]
   have e : beN f 0 = [] := by cases f <;> simp [beN]
   rw [e];show UInt8.ofNat (n % 256) ≠ 0;intro e2;have := congrArg UInt8.toNat e2;rw [UInt8.toNat_ofNat'] at this;simp at this;omega
  ·obtain ⟨h1, h2⟩ := beN_head f (n / 256) (by rw [Nat.pow_succ] at h; omega) hz
   cases hq : beN f (n / 256) with
   | nil => exact absurd hq h1
   | cons x l => rw [hq] at h2; exact h2
def intT (n : Nat) : List UInt8 := if beN 9 n = [] ∨ 128 <= (beN 9 n).getD 0 0 then 0 :: beN 9 n else beN 9 n
theorem beN_short {n : Nat} (h : n <= 1000000000) : (beN 9 n).length <= 4 := by
 have : ∀ (f k n : Nat), n < 256 ^ k -> (beN f n).length <= k := by
  intro f
  induction f with
  | zero => intro k n _; exact Nat.zero_le _
  | succ f ih =>
   intro k n hn;unfold beN
   split
   ·exact Nat.zero_le _
   ·cases k with
    | zero => simp at hn; omega
    | succ k =>
     have := ih k (n / 256) (by rw [Nat.pow_succ] at hn; omega);simp;omega
 exact this 9 4 n (by omega)
theorem intT_ok {n : Nat} (h : n <= 1000000000) : plainOk 2 (intT n) = true := by
 have hl := beN_short h;unfold plainOk intT;rw [if_neg (by decide), if_pos rfl];by_cases h0 : n = 0
 ·subst h0; decide
 ·obtain ⟨h1, h2⟩ := beN_head 9 n (by omega) h0
  have hp : 0 < (beN 9 n).length := List.length_pos_iff.2 h1
  split
  ·next hc =>
   have hc2 : 128 <= (beN 9 n).getD 0 0 := by rcases hc with hc | hc; exact absurd hc h1; exact hc
   have e1 : (0 :: beN 9 n).getD 1 0 = (beN 9 n).getD 0 0 := rfl;have e0 : (0 :: beN 9 n).getD 0 0 = 0 := rfl;rw [e1, e0];simp only [List.length_cons, Bool.and_eq_true, Bool.or_eq_true, decide_eq_true_eq];exact ⟨⟨⟨by omega, by omega⟩, by decide⟩, .inr hc2⟩
  ·next hc =>
   have hc2 : (beN 9 n).getD 0 0 < 128 := by
    rcases Classical.em (128 <= (beN 9 n).getD 0 0) with h3 | h3
    ·exact absurd (.inr h3) hc
    ·exact UInt8.not_le.1 h3
   simp only [Bool.and_eq_true, Bool.or_eq_true, decide_eq_true_eq];exact ⟨⟨⟨by omega, by omega⟩, hc2⟩, .inl (.inl h2)⟩
end Go.Proofs.YtabfamhaihnccaaGreat.Der
namespace Go.Proofs.YtabfamhaihnccaaGreat
theorem u8_ofNat {n : Nat} (h : n < 256) : (UInt8.ofNat n).toNat = n := by
 rw [UInt8.toNat_ofNat'];omega
def cellB (b : UInt8) : Value := .int .u8 (b.toNat : Int)
theorem info5 : (Tryz.prog.info? 5).map (fun i => (i.zero, i.size, i.bytes)) = some (some (.int .u8 0), 1, 1) := by kernel_rfl
theorem conv_own {w : World} {base : Nat} {v : Value} {l : List UInt8} {n : Nat} (h : w.ownsRow base 5 1 v n (l.map cellB)) :
  (convert 201 9 v).run Tryz.prog w = .ok (zG ⟨l.toArray⟩) w := by
 have hn : l.length = n := by have := h.1; simpa using this
 rcases h.2 with ⟨rfl, h0⟩ | ⟨g, cap, cur, rfl, hb, hg, hnc, hcm, hcs, ht⟩
 ·have : l = [] := List.length_eq_zero_iff.1 (by omega)
  subst this;rw [run_convert_bytes_string w 201 9 5 _ 0 0 Tryz.underlying201 Tryz.underlying5 Tryz.underlying9];simp [Conv.bytesToString];rfl
 ·subst hn
  refine run_convert_bytes_back w 201 9 5 ⟨g, 0, none⟩ cap l Tryz.underlying201 Tryz.underlying5 Tryz.underlying9 (fun j hj => ?_);have := h.cells (g := g) rfl j (cellB l[j]) (by simp [hj]);exact this
theorem in_yes (x a b : Int) (w : World) (h1 : a <= x) (h2 : x <= b) : Calls Tryz.prog 30 #[zI x, zI a, zI b] w fun e w' => e = .returned (.bool true) /\ w = w' := by
 go_enter Tryz.func30, Tryz.ntmps30
 go_wp2
 go_ret;exact ⟨by simp, rfl⟩
theorem in_no (x a b : Int) (w : World) (h : x < a ∨ b < x) : Calls Tryz.prog 30 #[zI x, zI a, zI b] w fun e w' => e = .returned (.bool false) /\ w = w' := by
 rcases h with h1 | h2
 ·go_enter Tryz.func30, Tryz.ntmps30
  go_wp2
  go_ret;exact ⟨by simp, rfl⟩
 ·by_cases h1 : a <= x
  ·go_enter Tryz.func30, Tryz.ntmps30
   go_wp2
   go_ret;exact ⟨by simp; omega, rfl⟩
  ·go_enter Tryz.func30, Tryz.ntmps30
   go_wp2
   go_ret;exact ⟨by simp, rfl⟩
theorem cellB_of {m : Nat} (h : m < 256) : cellB (UInt8.ofNat m) = .int .u8 (m : Int) := by unfold cellB; rw [u8_ofNat h]
theorem one_new (w : World) (v : Value) (t : TypeId) : ∀ j u, [v][j]? = some u -> (w.alloc (.cells #[v] t)).cell? ((⟨w.heap.size, 0, none⟩ : Addr).add j) = some u := by
 intro j u hj
 match j, hj with
 | 0, hj => simp at hj; subst hj; simp [Addr.add]
end Go.Proofs.YtabfamhaihnccaaGreat
