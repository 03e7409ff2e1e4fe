/-
  Texts of the proof, one behind the other: BitP, HalI, RfS.
-/
import Derived.WalkSpells
import Derived.RangeFuncNested
import Derived.RangeFuncBound
import Derived.RangeFuncCalls
import Derived.RangeFuncLeaves
import Derived.RangeFuncBox
import Derived.WalkKit
import Derived.Test.YtfgkpjjjjnollaaGreatDoorSX4
import Derived.Test.YtfgkpjjjjnollaaGreatDoorSX25

/-
  Plain facts alone (no program): the bits of a number; a half of figures, made from above; powers by a modulus, bit by bit.
-/
namespace Go.Proofs.YtfgkpjjjjnollaaGreatDoor

/-- The bits of a number, the lowest first. -/
def bitN (n : Nat) : List Int := if _h : n = 0 then [] else ((n % 2 : Nat) : Int) :: bitN (n / 2)
def bitsI (x : Int) : List Int := bitN x.toNat
/-- What bits are worth. -/
def valB : List Int → Int
  | [] => 0
  | b :: bs => b + 2 * valB bs

theorem bitN_zero : bitN 0 = [] := by rw [bitN, dif_pos rfl]
theorem bitN_pos {n : Nat} (h : n ≠ 0) : bitN n = ((n % 2 : Nat) : Int) :: bitN (n / 2) := by rw [bitN, dif_neg h]
theorem bitsI_zero : bitsI 0 = [] := by unfold bitsI; exact bitN_zero
theorem bitsI_step {x : Int} (h : 0 < x) : bitsI x = x % 2 :: bitsI (x / 2) := by
  unfold bitsI
  rw [bitN_pos (by omega)]
  congr 1
  · omega
  · congr 1
    omega
theorem bitN_facts (n : Nat) : (∀ b ∈ bitN n, b = 0 ∨ b = 1) ∧ valB (bitN n) = (n : Int) ∧ (bitN n ≠ [] → (bitN n).getD ((bitN n).length - 1) 0 = 1) := by
  induction n using Nat.strongRecOn with
  | _ n ih =>
    by_cases h : n = 0
    · subst h
      rw [bitN_zero]
      exact ⟨fun b hb => by simp at hb, rfl, fun h => absurd rfl h⟩
    · have ⟨i1, i2, i3⟩ := ih (n / 2) (by omega)
      rw [bitN_pos h]
      refine ⟨?_, ?_, fun _ => ?_⟩
      · intro x hx
        rcases List.mem_cons.1 hx with rfl | hx
        · omega
        · exact i1 x hx
      · simp only [valB, i2]
        omega
      · by_cases hq : n / 2 = 0
        · rw [hq, bitN_zero]
          simp
          omega
        · have hl : bitN (n / 2) ≠ [] := by rw [bitN_pos hq]; simp
          have := i3 hl
          obtain ⟨k, hk⟩ : ∃ k, (bitN (n / 2)).length = k + 1 := ⟨(bitN (n / 2)).length - 1, by have := List.length_pos_iff.2 hl; omega⟩
          rw [hk] at this
          simp only [List.length_cons, Nat.add_sub_cancel, hk]
          simpa using this
theorem bitsI_01 {x b : Int} (h : b ∈ bitsI x) : b = 0 ∨ b = 1 := (bitN_facts _).1 b h
theorem valB_bits {x : Int} (h : 0 ≤ x) : valB (bitsI x) = x := by
  unfold bitsI
  rw [(bitN_facts _).2.1]
  omega
theorem valB_append (p : List Int) (b : Int) : valB (p ++ [b]) = valB p + 2 ^ p.length * b := by
  induction p with
  | nil => simp [valB]
  | cons x xs ih => simp only [List.cons_append, valB, ih, List.length_cons]; grind
theorem valB_nonneg {p : List Int} (h : ∀ b ∈ p, b = 0 ∨ b = 1) : 0 ≤ valB p := by
  induction p with
  | nil => simp [valB]
  | cons x xs ih =>
    have := ih fun b hb => h b (by simp [hb])
    have := h x (by simp)
    simp only [valB]
    omega
theorem bitN_len : ∀ (k n : Nat), n < 2 ^ k → (bitN n).length ≤ k := by
  intro k
  induction k with
  | zero =>
    intro n h
    have : n = 0 := by simpa using h
    rw [this, bitN_zero]
    simp
  | succ k ih =>
    intro n h
    by_cases h0 : n = 0
    · rw [h0, bitN_zero]; simp
    · rw [bitN_pos h0]
      have := ih (n / 2) (by rw [Nat.pow_succ] at h; omega)
      simp only [List.length_cons]
      omega
theorem p40_lt : (10000 : Nat) ^ 40 < 2 ^ 560 := by decide +kernel
theorem bitsI_len {x : Int} (h : x < 10000 ^ 40) : (bitsI x).length ≤ 560 := by
  refine bitN_len 560 _ ?_
  have h2 : x.toNat < 10000 ^ 40 ∨ x.toNat = 0 := by omega
  have := p40_lt
  rcases h2 with h2 | h2 <;> omega

/-- Where the halving stands: the places from p on are halved; b falls over to the next. -/
structure Hv (L0 : List Int) (p : Nat) (L : List Int) (b : Int) : Prop where
  len : L.length = L0.length
  lo : ∀ j, j < p → L.getD j 0 = L0.getD j 0
  dig : Dig L
  bit : 0 ≤ b ∧ b ≤ 1
  val : ev L0 = 2 * ev L - ev (L0.take p) + 10000 ^ p * b
theorem Hv.start {L0 : List Int} (h : Dig L0) : Hv L0 L0.length L0 0 := ⟨rfl, fun _ _ => rfl, h, by omega, by rw [List.take_length]; omega⟩
theorem Dig.set {l : List Int} (h : Dig l) {x : Int} (hx : 0 ≤ x ∧ x ≤ 9999) (k : Nat) : Dig (l.set k x) := by
  intro y hy
  rcases List.mem_or_eq_of_mem_set hy with hy | rfl
  · exact h y hy
  · exact hx
theorem Hv.step {L0 L : List Int} {p : Nat} {b : Int} (h : Hv L0 (p + 1) L b) (hp : p < L0.length) : Hv L0 p (L.set p ((b * 10000 + L.getD p 0) / 2)) ((b * 10000 + L.getD p 0) % 2) := by
  have hl := h.len
  have hb := h.bit
  have hx := h.dig.getD p
  have hv := h.val
  have e0 := h.lo p (by omega)
  refine ⟨by simp [hl], fun j hj => ?_, h.dig.set (by omega) p, by omega, ?_⟩
  · rw [getD_set _ (by omega), if_neg (by omega)]
    exact h.lo j (by omega)
  · rw [ev_set _ (by omega), hv, ev_take_succ, ← e0, pw_succ]
    generalize L.getD p 0 = x at *
    have e : (b * 10000 + x) % 2 = b * 10000 + x - 2 * ((b * 10000 + x) / 2) := by omega
    rw [e]
    generalize (b * 10000 + x) / 2 = q at *
    grind
theorem Hv.done {L0 L : List Int} {b : Int} (h : Hv L0 0 L b) : ev L = ev L0 / 2 ∧ b = ev L0 % 2 := by
  have hv := h.val
  have hb := h.bit
  simp [ev] at hv
  omega

/-- Where a power stands when the bits 'pre' of its exponent have come. -/
structure Pw (a m : Int) (pre : List Int) (P S : Int) : Prop where
  power : P = a ^ (valB pre).toNat % m
  square : S % m = a ^ (2 ^ pre.length) % m
  nn : 0 ≤ S
  bits : ∀ b ∈ pre, b = 0 ∨ b = 1
theorem Pw.start {a m S : Int} (hS : 0 ≤ S) (h : S % m = a % m) : Pw a m [] (1 % m) S := ⟨by simp [valB], by simpa [Int.pow_one] using h, hS, fun b hb => by simp at hb⟩
theorem Pw.square_mod {a m : Int} {pre : List Int} {P S : Int} (h : Pw a m pre P S) : S * S % m % m = a ^ (2 ^ (pre.length + 1)) % m := by
  rw [Int.emod_emod_of_dvd _ (Int.dvd_refl m), Int.mul_emod, h.square, ← Int.mul_emod, ← Int.pow_add, show 2 ^ pre.length + 2 ^ pre.length = 2 ^ (pre.length + 1) by omega]
theorem snoc_bits {pre : List Int} {b : Int} (h : ∀ b ∈ pre, b = 0 ∨ b = 1) (hb : b = 0 ∨ b = 1) : ∀ c ∈ pre ++ [b], c = 0 ∨ c = 1 := by
  intro c hc
  rcases List.mem_append.1 hc with hc | hc
  · exact h c hc
  · simp at hc; exact hc ▸ hb
theorem Pw.one {a m : Int} {pre : List Int} {P S : Int} (h : Pw a m pre P S) (hm : 0 < m) : Pw a m (pre ++ [1]) (P * S % m) (S * S % m) := by
  refine ⟨?_, by rw [h.square_mod]; simp, Int.emod_nonneg _ (by omega), snoc_bits h.bits (.inr rfl)⟩
  have h1 := valB_nonneg h.bits
  have e : (valB (pre ++ [1])).toNat = (valB pre).toNat + 2 ^ pre.length := by
    rw [valB_append, Int.mul_one]
    have e2 : (2 : Int) ^ pre.length = ((2 ^ pre.length : Nat) : Int) := by simp
    rw [e2]
    generalize 2 ^ pre.length = q
    omega
  rw [e, Int.pow_add, Int.mul_emod, h.square, h.power, Int.emod_emod_of_dvd _ (Int.dvd_refl m), ← Int.mul_emod]
theorem Pw.zero {a m : Int} {pre : List Int} {P S : Int} (h : Pw a m pre P S) (hm : 0 < m) : Pw a m (pre ++ [0]) P (S * S % m) := by
  refine ⟨?_, by rw [h.square_mod]; simp, Int.emod_nonneg _ (by omega), snoc_bits h.bits (.inl rfl)⟩
  rw [valB_append, Int.mul_zero, Int.add_zero]
  exact h.power
theorem Pw.done {a m x : Int} {P S : Int} (h : Pw a m (bitsI x) P S) (hx : 0 ≤ x) : P = a ^ x.toNat % m := by rw [h.power, valB_bits hx]
end Go.Proofs.YtfgkpjjjjnollaaGreatDoor

/-
  The program's halve (in place), and slices.Clone at great numbers.
-/
namespace Go.Proofs.YtfgkpjjjjnollaaGreatDoor
open Go.RowKit

set_option maxHeartbeats 800000 in
set_option maxRecDepth 100000 in
theorem halve_any (g cap base : Nat) (L0 : List Int) (w : World) (hl : L0.length ≤ 1000) (hd : Dig L0) (hv : OwnI w base (.slice (some ⟨g, 0, none⟩) L0.length cap) L0) :
    Calls Tryz.prog 268 #[.slice (some ⟨g, 0, none⟩) L0.length cap] w fun e w' => ∃ L : List Int, e = .returned (.int .i64 (ev L0 % 2)) ∧ L.length = L0.length ∧ Dig L ∧ ev L = ev L0 / 2 ∧ OwnI w' base (.slice (some ⟨g, 0, none⟩) L0.length cap) L ∧ w.grownBy w' (some g) := by
  have HV : Hid (OwnI w base (.slice (some ⟨g, 0, none⟩) L0.length cap) L0) := hv
  have HD : Hid (Dig L0) := hd
  clear hv hd
  go_enter Tryz.func268, Tryz.ntmps268
  go_wp2
  go_loopw [3, 4] (fun bv iv wr => ∃ (p : Nat) (L : List Int) (b : Int), p ≤ L0.length ∧ iv = .int .i64 ((p : Int) - 1) ∧ bv = .int .i64 b ∧ Hid (Hv L0 p L b ∧ OwnI wr base (.slice (some ⟨g, 0, none⟩) L.length cap) L ∧ w.grownBy wr (some g))) (fun _ iv _ => (intOf iv + 1).toNat)
  case atStart => exact ⟨L0.length, L0, 0, Nat.le_refl _, rfl, rfl, Hv.start HD.out, HV.out, World.grownBy.refl _ _⟩
  case round =>
    obtain ⟨p, L, b, hp, rfl, rfl, H⟩ := hrel
    have hb := H.out.1.bit
    rcases p with _ | p
    · have HE := H.out.1.done
      have HR : Hid (L.length = L0.length ∧ Dig L ∧ ev L = ev L0 / 2 ∧ b = ev L0 % 2 ∧ OwnI wr base (.slice (some ⟨g, 0, none⟩) L0.length cap) L ∧ w.grownBy wr (some g)) := by
        refine ⟨H.out.1.len, H.out.1.dig, HE.1, HE.2, ?_, H.out.2.2⟩
        have h := H.out.2.1
        rw [H.out.1.len] at h
        exact h
      clear HE H
      go_wp2
      go_ret
      exact ⟨L, congrArg (fun z => Ending.returned (Value.int .i64 z)) HR.out.2.2.2.1, HR.out.1, HR.out.2.1, HR.out.2.2.1, HR.out.2.2.2.2.1, HR.out.2.2.2.2.2⟩
    · have hll : L.length = L0.length := H.out.1.len
      have hu := H.out.2.1.cell (j := p) (by omega)
      have hf := H.out.2.1.frozen p
      have hx := H.out.1.dig.getD p
      have HST := H.out.1.step (by omega)
      have HOW := fun y => H.out.2.1.set p y
      have HBL := fun y => grown_trans H.out.2.2 (grown_set wr g p (.int .i64 y))
      have HN : Hid (Hv L0 p (L.set p ((b * 10000 + L.getD p 0) / 2)) ((b * 10000 + L.getD p 0) % 2) ∧ (∀ y, OwnI (wr.setCell ⟨g, p, none⟩ (.int .i64 y)) base (.slice (some ⟨g, 0, none⟩) (L.set p y).length cap) (L.set p y)) ∧ ∀ y, w.grownBy (wr.setCell ⟨g, p, none⟩ (.int .i64 y)) (some g)) := ⟨HST, HOW, HBL⟩
      clear HST HOW HBL H hll
      generalize L.getD p 0 = x at *
      have e1 : ((p + 1 : Nat) : Int) - 1 = (p : Int) := by omega
      rw [e1]
      have hpi : (p : Int) < (L0.length : Int) := by omega
      have hp0 : (0 : Int) ≤ (p : Int) := by omega
      have q1 : (b * 10000 + x).tdiv 2 = (b * 10000 + x) / 2 := Int.tdiv_eq_ediv_of_nonneg (by omega)
      have q2 : (b * 10000 + x).tmod 2 = (b * 10000 + x) % 2 := Int.tmod_eq_emod_of_nonneg (by omega)
      have r0 : 0 ≤ (b * 10000 + x) / 2 := by omega
      have r1 : (b * 10000 + x) / 2 ≤ 9999 := by omega
      have s0 : 0 ≤ (b * 10000 + x) % 2 := by omega
      have s1 : (b * 10000 + x) % 2 ≤ 1 := by omega
      generalize (b * 10000 + x) / 2 = y at *
      generalize (b * 10000 + x) % 2 = z at *
      clear e1
      go_wp2
      go_roundw
      case rel => exact ⟨p, _, z, by omega, rfl, rfl, HN.out.1, HN.out.2.1 _, HN.out.2.2 _⟩
      case measure => simp [intOf]

set_option maxHeartbeats 800000 in
set_option maxRecDepth 100000 in
theorem clone_any (v : Value) (l : List Int) (w : World) (hl : l.length ≤ 1000) (hv : IntAt w v l) :
    Calls Tryz.prog 267 #[v] w fun e w' => ∃ v', e = .returned v' ∧ OwnI w' w.heap.size v' l ∧ Below w.heap.size w w' := by
  obtain ⟨i0, hi, hz0, hz1, hz2⟩ := info_parts info3
  obtain ⟨ao, cap, rfl, hc⟩ := hv
  have hnil := fun (a : Option Addr) (n c : Nat) (w : World) => Lib.run_eql_slice_nil w 187 3 a n c 0 0 Tryz.underlying187
  rcases ao with _ | ad
  · have h0 : l = [] := by
      rcases Nat.eq_zero_or_pos l.length with h | h
      · exact List.eq_nil_of_length_eq_zero h
      · obtain ⟨g, hg, _⟩ := hc h
        cases hg
    subst h0
    go_enter Tryz.func267, Tryz.ntmps267
    go_wp2
    go_ret
    exact ⟨_, rfl, OwnI.nil _ _, Below.refl _ _⟩
  · have HC : Hid (0 < l.length → ∃ g, some ad = some (⟨g, 0, none⟩ : Addr) ∧ g < w.heap.size ∧ ∀ j (hj : j < l.length), w.cell? ⟨g, j, none⟩ = some (.int .i64 l[j])) := hc
    clear hc
    go_enter Tryz.func267, Tryz.ntmps267
    go_wp2_with (at_builtin; refine wpList_append_own _ rfl _ _ 187 rfl w.heap.size 3 i0 (.int .i64 0) 1 8 Tryz.underlying187 hi hz0 hz1 hz2 rfl (by decide) _ _ _ rfl (World.ownsRow_made w #[] 0 (Nat.le_refl _) (Nat.zero_le _) rfl) ad l.length cap (cellsI l) rfl (by simp [cellsI]) ?c1 ?c2 (by unfold maxLen; omega) (by omega) (by simp) ?_)
    case c1 =>
      intro j q hq
      have hj : j < l.length := by
        refine Nat.lt_of_not_le fun h => ?_
        rw [List.getElem?_eq_none (by rw [cellsI_len]; exact h)] at hq
        cases hq
      obtain ⟨g, hg, hgl, hcs⟩ := HC.out (by omega)
      cases hg
      rw [Addr.add_lit, Nat.zero_add, World.cell?_of_block (w := w) (Below.heap_alloc w _ g hgl), hcs j hj, ← hq, cellsI_getD hj]
      simp [List.getD, hj]
    case c2 =>
      intro q hq
      obtain ⟨y, _, rfl⟩ := List.mem_map.1 hq
      rfl
    intro v' w1 hown hgrow _
    have HO : Hid (OwnI w1 w.heap.size v' l ∧ Below w.heap.size w w1) := by
      refine ⟨by simpa [OwnI] using hown, ?_⟩
      exact ((Below.refl _ w).alloc (Nat.le_refl _) _).grown hgrow (by simp) (fun k hk => by simp [Value.ownBlock] at hk; omega)
    clear hown hgrow
    go_wp2_with fail
    go_ret
    exact ⟨_, rfl, HO.out⟩
end Go.Proofs.YtfgkpjjjjnollaaGreatDoor

/-
  A range over a function whose iterator keeps memory of its own (blocks that it makes when it is called, and writes between two rounds), and whose body never leaves early: one law for the caller.
-/
namespace Go.Proofs.YtfgkpjjjjnollaaGreatDoor
open Go Go.RowKit

/-- The blocks from B up to C lie as they lay; none has gone. -/
structure Rest (B C : Nat) (W W' : World) : Prop where
  size : W.heap.size ≤ W'.heap.size
  block : ∀ k, B ≤ k → k < C → W'.heap[k]? = W.heap[k]?
theorem Rest.refl (B C : Nat) (W : World) : Rest B C W W := ⟨Nat.le_refl _, fun _ _ _ => rfl⟩
theorem Rest.trans {B C : Nat} {X Y Z : World} (h : Rest B C X Y) (k : Rest B C Y Z) : Rest B C X Z := ⟨Nat.le_trans h.size k.size, fun i h1 h2 => (k.block i h1 h2).trans (h.block i h1 h2)⟩
theorem Rest.of_below {B C : Nat} {W W' : World} (h : Below W.heap.size W W') (hC : C ≤ W.heap.size) : Rest B C W W' := ⟨h.size, fun k _ hk => h.block k (by omega)⟩
theorem Rest.setCell {B C : Nat} {W W' : World} (h : Rest B C W W') {p : Addr} (hp : p.block < B ∨ C ≤ p.block) (v : Value) : Rest B C W (W'.setCell p v) :=
  ⟨by have := h.size; simpa [World.setCell] using this, fun k h1 h2 => (Below.heap_setCell _ _ _ k (by omega)).trans (h.block k h1 h2)⟩
theorem Rest.drew {B C : Nat} {W W' : World} (h : Rest B C W W') : Rest B C W W'.drew := ⟨h.size, h.block⟩

/-- What is said abides the turn of one block from B up to C, and new blocks. -/
def Bides (B : Nat) (J : Nat → List Int → World → Prop) : Prop :=
  ∀ C s A A' row, J C s A → A.grownBy A' row → (∀ r, row = some r → B ≤ r ∧ r < C) → J C s A'

/-- An iterator's contract: it tells xs, one after the other; between two rounds it writes blocks of its own alone, which lie from the heap's size at its call up to some C. -/
def Tells (n : Nat) (P : Program) (gf : Nat) (bd : Array Value) (xs : List Int) (w : World) : Prop :=
  ∀ (l : Nat) (J : Nat → List Int → World → Prop) (W : World), Below w.heap.size w W → Bides W.heap.size J →
    (∀ C pre x A, pre ++ [x] <+: xs → W.heap.size ≤ C → C ≤ A.heap.size → J C pre A →
      YieldAt Fence.wide (n - 1) P l #[.int .i64 x] A fun e A' => e = .returned (.bool true) ∧ J C (pre ++ [x]) A' ∧ Rest W.heap.size C A A') →
    (∀ C, W.heap.size ≤ C → J C [] W) →
    CallsIn Fence.wide n P gf (bd ++ #[.func (.yield l) #[] #[]]) W fun e W' => (∃ v, e = .returned v) ∧ ∃ C, W.heap.size ≤ C ∧ J C xs W'

/-- A call, by a contract without a fence, in a walk at the wide one. -/
theorem call_wide {n : Nat} {P : Program} {f : FuncId} {args : Array Value} {w : World} {R R' : Ending → World → Prop} (h : Calls P f args w R) (hr : ∀ e w', R e w' → R' e w') :
    Fence.wide.fn f ∧ (Fence.wide.depth.isSome = true → 1 ≤ n) ∧ CallsIn Fence.wide (n - 1) P f args w R' := ⟨trivial, (fun h => by cases h), (callsIn_wide.2 h).mono hr⟩
theorem call_round {n l : Nat} {P : Program} {f : FuncId} {args : Array Value} {w : World} {R R' : Ending → World → Prop} (h : Calls P f args w R) (hr : ∀ e w', R e w' → R' e w') :
    (Fence.wide.inRound l).fn f ∧ ((Fence.wide.inRound l).depth.isSome = true → 1 ≤ n) ∧ CallsIn (Fence.wide.inRound l) (n - 1) P f args w R' := ⟨trivial, (fun h => by cases h), CallsIn.inRound l ((callsIn_wide.2 h).mono hr)⟩

/-- How the body of a round is left: at its end. -/
def roundEnd (B C : Nat) (I : Nat → List Int → World → Prop) (xs : List Int) (W : World) : Exit → Act → World → Prop
  | .normal, _, W' => Rest B C W W' ∧ I C xs W'
  | _, _, _ => False

set_option maxHeartbeats 1000000 in
/-- The statement: what the caller owes is an invariant that speaks of no block from the heap's size on up to C, and one walk of its body. -/
theorem range_tells {n : Nat} {P : Program} {g : Operand} {ps : Array Tmp} {assign body : Code} {Q : Exit → Act → World → Prop} {a : Act} {w : World}
    {gf : Nat} {bd : Array Value} (hg : a.eval g = .func (.func gf) bd #[]) (eg : ∀ args w, (callFunc gf args).run P w = .ok (.enter gf args) w)
    {xs : List Int} {w0 : World} (hseq : Tells (n - 1) P gf bd xs w0) (hb0 : Below w0.heap.size w0 w) (hps : ps.size = 1)
    (I : Nat → List Int → World → Prop) (hI : Bides w.heap.size I) (h0 : ∀ C, I C [] w) (a₁ : Int → Act)
    (hassign : ∀ (l : Nat) (x : Int) (W : World) (K : Act → World → Prop), K (a₁ x) W →
      assign.wpIn (Fence.wide.inRound l) (n - 1 - 1) P (Exit.then K (fun _ _ _ => False)) { tmps := (ps.zip #[.int .i64 x]).foldl (fun t (p, v) => t.setIfInBounds p v) a.tmps, defers := [] } W)
    (hbody : ∀ (l C : Nat) (pre : List Int) (x : Int) (W : World), pre ++ [x] <+: xs → w.heap.size + 2 ≤ C → C ≤ W.heap.size → I C pre W →
      body.wpIn (Fence.wide.inRound l) (n - 1 - 1) P (roundEnd w.heap.size C I (pre ++ [x]) W) (a₁ x) W)
    (hdone : ∀ (D C : Nat) (W : World), w.heap.size ≤ D → D < C → I C xs W → W.heap[D]? = some (.deferred (some [])) → Q .normal { a with defers := { target := .collected D, args := #[] } :: a.defers } W) :
    (Code.rangeFunc g ps assign body).wpIn Fence.wide n P Q a w := by
  refine wpIn_rangeFunc fun fn hfn => ?_
  -- the record, in each of its states
  obtain ⟨rec, hrec⟩ : ∃ rec : LoopState → Loop, rec = fun st => { state := st, pending := none, fn, tmps := a.tmps, params := ps, assign, body, defers := w.heap.size } := ⟨_, rfl⟩
  have hst : ∀ s, (rec s).state = s := fun s => by rw [hrec]
  have hpe : ∀ s, (rec s).pending = none := fun s => by rw [hrec]
  have hup : ∀ s t, ({ rec s with state := t } : Loop) = rec t := fun s t => by rw [hrec]
  have hup2 : ∀ s t, ({ rec s with state := t, pending := none } : Loop) = rec t := fun s t => by rw [hrec]
  obtain ⟨W1, hW1⟩ : ∃ W1, (w.alloc (.deferred (some []))).alloc (.loop (rec .ready)) = W1 := ⟨_, rfl⟩
  have hs1 : W1.heap.size = w.heap.size + 2 := by rw [← hW1]; simp
  have hl1 : W1.heap[w.heap.size + 1]? = some (.loop (rec .ready)) := by
    rw [← hW1]
    have := World.alloc_heap_new (w.alloc (.deferred (some []))) (.loop (rec .ready))
    rwa [World.size_alloc] at this
  have hd1 : W1.heap[w.heap.size]? = some (.deferred (some [])) := by
    rw [← hW1]
    exact (Below.heap_alloc _ _ _ (by simp)).trans (World.alloc_heap_new w _)
  have hI1 : ∀ C, I C [] W1 := fun C => by
    rw [← hW1]
    exact hI C _ _ _ none (hI C _ _ _ none (h0 C) (World.grownBy_alloc _ _ none) (fun r e => by cases e)) (World.grownBy_alloc _ _ none) (fun r e => by cases e)
  have hb1 : Below w0.heap.size w0 W1 := by
    rw [← hW1]
    exact (hb0.alloc hb0.size _).alloc (by have := hb0.size; simp; omega) _
  refine ⟨w.heap.size + 1, [{ target := .collected w.heap.size, args := #[] }], W1, { target := .fn (.func gf) #[], args := bd ++ #[.func (.yield (w.heap.size + 1)) #[] #[]] }, W1, gf,
    bd ++ #[.func (.yield (w.heap.size + 1)) #[] #[]], W1, ?_, ?_, fun _ _ => trivial, ?_, (fun h => by cases h), ?_⟩
  · rw [← hW1, hrec]
    exact run_enterLoop_outer _ _ _ _ _
  · simp only [resolve, hg]
    simp [go_sem]
  · simp [invoke, go_sem, eg]
  refine (hseq (w.heap.size + 1) (fun C pre W => I C pre W ∧ W.heap[w.heap.size + 1]? = some (.loop (rec .ready)) ∧ W.heap[w.heap.size]? = some (.deferred (some []))) W1 hb1 ?_ ?_ ?_).mono ?_
  · -- what is said abides what the iterator writes
    rintro C s A A' row ⟨h1, h2, h3⟩ hgr hr
    rw [hs1] at hr
    have hlt : w.heap.size + 1 < A.heap.size := (Array.getElem?_eq_some_iff.1 h2).1
    refine ⟨hI C s A A' row h1 hgr (fun r e => by have := hr r e; omega), (hgr.block _ hlt (fun e => by have := hr _ e.symm; omega)).trans h2, (hgr.block _ (by omega) (fun e => by have := hr _ e.symm; omega)).trans h3⟩
  · -- one round
    rintro C pre x A hx hC hCA ⟨h1, h2, h3⟩
    rw [hs1] at hC ⊢
    have hlt : w.heap.size + 1 < A.heap.size := (Array.getElem?_eq_some_iff.1 h2).1
    have hy := run_yield (P := P) (args := #[Value.int .i64 x]) h2 (by rw [hrec]; simp [hps])
    rw [hrec] at hy
    have hbr := run_beginRound (P := P) h2 (hst _)
    rw [hup] at hbr
    have hturn : ∀ (X : World) (s : LoopState), X.grownBy (X.putObj (w.heap.size + 1) (.loop (rec s))) (some (w.heap.size + 1)) := fun X s => grownBy_putObj' X _ _
    refine ⟨fn, _, assign, body, hy, roundIn_of_wpIn hfn (hassign _ x A _ ⟨_, hbr, ?_⟩)⟩
    refine wpIn_mono (hbody _ C pre x _ hx (by omega) (by simpa using hCA) (hI C _ _ _ _ h1 (hturn A _) (fun r e => by cases e; omega))) ?_
    intro e a3 W3 hp
    cases e with
    | normal =>
      obtain ⟨hk, hi⟩ := hp
      have hsz := hk.size
      simp only [World.putObj_size] at hsz
      have h4 : W3.heap[w.heap.size + 1]? = some (.loop (rec .busy)) := (hk.block _ (by omega) (by omega)).trans (World.putObj_heap_same hlt)
      have h5 : W3.heap[w.heap.size]? = some (.deferred (some [])) := (hk.block _ (by omega) (by omega)).trans ((World.putObj_heap_other (by omega)).trans h3)
      have her := run_endRound (P := P) none h4
      simp only [Option.isNone_none, if_true, hup2] at her
      refine ⟨_, _, her, rfl, ⟨hI C _ _ _ _ hi (hturn W3 _) (fun r e => by cases e; omega), World.putObj_heap_same (by omega), (World.putObj_heap_other (by omega)).trans h5⟩, ?_⟩
      refine ⟨by simpa using hsz, fun k hk1 hk2 => ?_⟩
      rw [World.putObj_heap_other (by omega), hk.block k (by omega) hk2, World.putObj_heap_other (by omega)]
    | ret => exact hp.elim
    | exit id => exact hp.elim
    | goto t => exact hp.elim
    | panic ch => exact hp.elim
    | outgrown => exact hp.elim
  · exact fun C _ => ⟨hI1 C, hl1, hd1⟩
  · -- behind the iterator
    rintro e W2 ⟨⟨v, rfl⟩, C, hC, h1, h2, h3⟩
    have hlt : w.heap.size + 1 < W2.heap.size := (Array.getElem?_eq_some_iff.1 h2).1
    have hel := run_endLoop (P := P) h2 (by rw [hst]; simp)
    rw [hup, hpe] at hel
    rw [hs1] at hC
    exact ⟨none, _, hel, hdone _ C _ (Nat.le_refl _) (by omega) (hI C _ _ _ _ h1 (grownBy_putObj' W2 _ _) (fun r e => by cases e; omega)) ((World.putObj_heap_other (by omega)).trans h3)⟩
end Go.Proofs.YtfgkpjjjjnollaaGreatDoor
