/-
  Texts of the proof.
-/
import Derived.WalkSpells
import Derived.Test.YtcbjlbpkoneibaaGreatDoorSR29
set_option linter.unusedVariables false
set_option linter.unusedSimpArgs false
set_option maxRecDepth 100000
set_option maxHeartbeats 25600000
namespace Go.Proofs.YtcbjlbpkoneibaaGreatDoor
open Go.RowKit
def cutB (s : ByteArray) (n : Int) : ByteArray := if 1 <= n /\ n <= 32 then (digB s).extract 0 n.toNat else ⟨#[]⟩
theorem cutB_no {s : ByteArray} {n : Int} (h : ¬ (1 <= n /\ n <= 32)) : cutB s n = ⟨#[]⟩ := by unfold cutB; rw [if_neg h]
theorem cutB_yes {s : ByteArray} {n : Nat} (h : 1 <= (n : Int) /\ (n : Int) <= 32) : cutB s (n : Int) = (digB s).extract 0 n := by unfold cutB; rw [if_pos h, Int.toNat_natCast]
theorem implCut_any (s : ByteArray) (n : Int) (w : World) (hs : s.size <= 1000000000) (hT : KeysOk w) (hS : StartOk w) : Calls Tryz.prog 97 #[zG s, zI n] w fun e w' => e = .returned (zG (cutB s n)) /\ zW w w' := by
 by_cases h : 1 <= n /\ n <= 32
 ·obtain ⟨m, rfl⟩ := Int.eq_ofNat_of_zero_le (show 0 <= n by omega)
  rw [cutB_yes h];have HD := implDigest_any s w hs hT hS;have hz := digB_size s;obtain ⟨h1, h2⟩ := h;have h3 : ¬ (m : Int) < 1 := by omega
  have h4 : ¬ (32 : Int) < (m : Int) := by omega
  clear hT hS;go_enter Tryz.func97, Tryz.ntmps97;go_wp2_with fail;refine HD.mono ?_;rintro e w2 ⟨rfl, hb2⟩;go_wp2_with fail;go_ret;exact ⟨rfl, hb2⟩
 ·rw [cutB_no h]
  clear hT hS;by_cases h3 : n < 1
  ·go_enter Tryz.func97, Tryz.ntmps97
   go_wp2_with fail;go_ret;exact ⟨rfl, Below.refl _ _⟩
  ·have h4 : (32 : Int) < n := by omega
   go_enter Tryz.func97, Tryz.ntmps97;go_wp2_with fail;go_ret;exact ⟨rfl, Below.refl _ _⟩
end Go.Proofs.YtcbjlbpkoneibaaGreatDoor
namespace Go.Proofs.YtcbjlbpkoneibaaGreatDoor
open Go.RowKit
def aheadB : ByteArray := ⟨#[0, 1, 255, 255, 255, 255, 255, 255, 0]⟩
def pddB (s : ByteArray) : ByteArray := aheadB ++ (digB s).extract 0 6
theorem pddB_size (s : ByteArray) : (pddB s).size = 15 := by
 unfold pddB;rw [ByteArray.size_append, ByteArray.size_extract, digB_size];rfl
theorem implPadded_any (s : ByteArray) (w : World) (hs : s.size <= 1000000000) (hT : KeysOk w) (hS : StartOk w) : Calls Tryz.prog 54 #[zG s] w fun e w' => e = .returned (zG (pddB s)) /\ zW w w' := by
 have E := implCut_any s 6 w hs hT hS;rw [show cutB s 6 = (digB s).extract 0 6 from if_pos (by decide)] at E;have HN : Hid (pddB s = aheadB ++ (digB s).extract 0 6 /\ ((digB s).extract 0 6).size = 6) := ⟨rfl, by rw [ByteArray.size_extract, digB_size]; rfl⟩;clear hT hS;generalize (digB s).extract 0 6 = D at *;have hD : D.size = 6 := HN.2;go_enter Tryz.func54, Tryz.ntmps54;go_wp2_with fail;refine E.mono ?_;rintro e w1 ⟨rfl, hb1⟩;have H1 : Hid (zW w w1) := hb1;clear hb1 E;go_wp2_with fail;go_ret;exact ⟨by rw [HN.1]; rfl, H1.out⟩
theorem specPadded_any (s : ByteArray) (w : World) (hs : s.size <= 1000000000) : Calls Tryz.prog 90 #[zG s] w fun e w' => e = .returned (zG (pddB s)) /\ zW w w' := by
 have E := specDigest_any s w hs;have HN : Hid (pddB s = aheadB ++ (digB s).extract 0 6 /\ ((digB s).extract 0 6).size = 6) := ⟨rfl, by rw [ByteArray.size_extract, digB_size]; rfl⟩;have hz := digB_size s;have hD : ((digB s).extract 0 6).size = 6 := HN.2;generalize digB s = D at *;go_enter Tryz.func90, Tryz.ntmps90;go_wp2_with fail;refine E.mono ?_;rintro e w1 ⟨rfl, hb1⟩;have H1 : Hid (zW w w1) := hb1;clear hb1 E;go_wp2_with fail;go_ret;exact ⟨by rw [HN.1]; rfl, H1.out⟩
def bitN (n : Nat) : List Int := if _h : n = 0 then [] else ((n % 2 : Nat) : Int) :: bitN (n / 2)
def bitsI (x : Int) : List Int := bitN x.toNat
def valB : List Int -> Int
 | [] => 0
 | b :: bs => b + 2 * valB bs
theorem bitN_zero : bitN 0 = [] := by rw [bitN, dif_pos rfl]
theorem bitN_pos {n : Nat} (h : n ≠ 0) : bitN n = ((n % 2 : Nat) : Int) :: bitN (n / 2) := by rw [bitN, dif_neg h]
theorem bitsI_zero : bitsI 0 = [] := by unfold bitsI; exact bitN_zero
theorem bitsI_step {x : Int} (h : 0 < x) : bitsI x = x % 2 :: bitsI (x / 2) := by
 unfold bitsI;rw [bitN_pos (by omega)]
 congr 1
 ·omega
 ·congr 1
  omega
theorem bitN_facts (n : Nat) : (∀ b ∈ bitN n, b = 0 ∨ b = 1) /\ valB (bitN n) = (n : Int) /\ (bitN n ≠ [] -> (bitN n).getD ((bitN n).length - 1) 0 = 1) := by
 induction n using Nat.strongRecOn with
 | _ n ih =>
  by_cases h : n = 0
  ·subst h
   rw [bitN_zero];exact ⟨fun b hb => by simp at hb, rfl, fun h => absurd rfl h⟩
  ·have ⟨i1, i2, i3⟩ := ih (n / 2) (by omega)
   rw [bitN_pos h];refine ⟨?_, ?_, fun _ => ?_⟩
   ·intro x hx
    rcases List.mem_cons.1 hx with rfl | hx
    ·omega
    ·exact i1 x hx
   ·simp only [valB, i2]
    omega
   ·by_cases hq : n / 2 = 0
    ·rw [hq, bitN_zero]
     simp;omega
    ·have hl : bitN (n / 2) ≠ [] := by rw [bitN_pos hq]; simp
     have := i3 hl;obtain ⟨k, hk⟩ : ∃ k, (bitN (n / 2)).length = k + 1 := ⟨(bitN (n / 2)).length - 1, by have := List.length_pos_iff.2 hl; omega⟩;rw [hk] at this;simp only [List.length_cons, Nat.add_sub_cancel, hk];simpa using this
theorem bitsI_01 {x b : Int} (h : b ∈ bitsI x) : b = 0 ∨ b = 1 := (bitN_facts _).1 b h
theorem valB_bits {x : Int} (h : 0 <= x) : valB (bitsI x) = x := by
 unfold bitsI;rw [(bitN_facts _).2.1];omega
theorem valB_append (p : List Int) (b : Int) : valB (p ++ [b]) = valB p + 2 ^ p.length * b := by
 induction p with
 | nil => simp [valB]
 | cons x xs ih => simp only [List.cons_append, valB, ih, List.length_cons]; grind
theorem valB_nonneg {p : List Int} (h : ∀ b ∈ p, b = 0 ∨ b = 1) : 0 <= valB p := by
 induction p with
 | nil => simp [valB]
 | cons x xs ih =>
  have := ih fun b hb => h b (by simp [hb])
  have := h x (by simp);simp only [valB];omega
theorem bitN_len : ∀ (k n : Nat), n < 2 ^ k -> (bitN n).length <= k := by
 intro k
 induction k with
 | zero =>
  intro n h;have : n = 0 := by simpa using h
  rw [this, bitN_zero];simp
 | succ k ih =>
  intro n h;by_cases h0 : n = 0
  ·rw [h0, bitN_zero]; simp
  ·rw [bitN_pos h0]
   have := ih (n / 2) (by rw [Nat.pow_succ] at h; omega);simp only [List.length_cons];omega
theorem p40_lt : (10000 : Nat) ^ 40 < 2 ^ 560 := by decide +kernel
theorem bitsI_len {x : Int} (h : x < 10000 ^ 40) : (bitsI x).length <= 560 := by
 refine bitN_len 560 _ ?_;have h2 : x.toNat < 10000 ^ 40 ∨ x.toNat = 0 := by omega
 have := p40_lt
 rcases h2 with h2 | h2 <;> omega
structure Hv (L0 : List Int) (p : Nat) (L : List Int) (b : Int) : Prop where
 len : L.length = L0.length
 lo : ∀ j, j < p -> L.getD j 0 = L0.getD j 0
 dig : Dig L
 bit : 0 <= b /\ b <= 1
 val : ev L0 = 2 * ev L - ev (L0.take p) + 10000 ^ p * b
theorem Hv.start {L0 : List Int} (h : Dig L0) : Hv L0 L0.length L0 0 := ⟨rfl, fun _ _ => rfl, h, by omega, by rw [List.take_length]; omega⟩
theorem Dig.set {l : List Int} (h : Dig l) {x : Int} (hx : 0 <= x /\ x <= 9999) (k : Nat) : Dig (l.set k x) := by
 intro y hy
 rcases List.mem_or_eq_of_mem_set hy with hy | rfl
 ·exact h y hy
 ·exact hx
theorem Hv.step {L0 L : List Int} {p : Nat} {b : Int} (h : Hv L0 (p + 1) L b) (hp : p < L0.length) : Hv L0 p (L.set p ((b * 10000 + L.getD p 0) / 2)) ((b * 10000 + L.getD p 0) % 2) := by
 have hl := h.len;have hb := h.bit;have hx := h.dig.getD p;have hv := h.val;have e0 := h.lo p (by omega);refine ⟨by simp [hl], fun j hj => ?_, h.dig.set (by omega) p, by omega, ?_⟩
 ·rw [getD_set _ (by omega), if_neg (by omega)]
  exact h.lo j (by omega)
 ·rw [ev_set _ (by omega), hv, ev_take_succ, <- e0, pw_succ]
  generalize L.getD p 0 = x at *;have e : (b * 10000 + x) % 2 = b * 10000 + x - 2 * ((b * 10000 + x) / 2) := by omega
  rw [e];generalize (b * 10000 + x) / 2 = q at *
  grind
theorem Hv.done {L0 L : List Int} {b : Int} (h : Hv L0 0 L b) : ev L = ev L0 / 2 /\ b = ev L0 % 2 := by
 have hv := h.val;have hb := h.bit;simp [ev] at hv;omega
structure Pw (a m : Int) (pre : List Int) (P S : Int) : Prop where
 power : P = a ^ (valB pre).toNat % m
 square : S % m = a ^ (2 ^ pre.length) % m
 nn : 0 <= S
 bits : ∀ b ∈ pre, b = 0 ∨ b = 1
theorem Pw.start {a m S : Int} (hS : 0 <= S) (h : S % m = a % m) : Pw a m [] (1 % m) S := ⟨by simp [valB], by simpa [Int.pow_one] using h, hS, fun b hb => by simp at hb⟩
theorem Pw.square_mod {a m : Int} {pre : List Int} {P S : Int} (h : Pw a m pre P S) : S * S % m % m = a ^ (2 ^ (pre.length + 1)) % m := by
 rw [Int.emod_emod_of_dvd _ (Int.dvd_refl m), Int.mul_emod, h.square, <- Int.mul_emod, <- Int.pow_add, show 2 ^ pre.length + 2 ^ pre.length = 2 ^ (pre.length + 1) by omega]
theorem snoc_bits {pre : List Int} {b : Int} (h : ∀ b ∈ pre, b = 0 ∨ b = 1) (hb : b = 0 ∨ b = 1) : ∀ c ∈ pre ++ [b], c = 0 ∨ c = 1 := by
 intro c hc
 rcases List.mem_append.1 hc with hc | hc
 ·exact h c hc
 ·simp at hc; exact hc ▸ hb
theorem Pw.one {a m : Int} {pre : List Int} {P S : Int} (h : Pw a m pre P S) (hm : 0 < m) : Pw a m (pre ++ [1]) (P * S % m) (S * S % m) := by
 refine ⟨?_, by rw [h.square_mod]; simp, Int.emod_nonneg _ (by omega), snoc_bits h.bits (.inr rfl)⟩;have h1 := valB_nonneg h.bits;have e : (valB (pre ++ [1])).toNat = (valB pre).toNat + 2 ^ pre.length := by
  rw [valB_append, Int.mul_one];have e2 : (2 : Int) ^ pre.length = ((2 ^ pre.length : Nat) : Int) := by simp
  rw [e2];generalize 2 ^ pre.length = q;omega
 rw [e, Int.pow_add, Int.mul_emod, h.square, h.power, Int.emod_emod_of_dvd _ (Int.dvd_refl m), <- Int.mul_emod]
theorem Pw.zero {a m : Int} {pre : List Int} {P S : Int} (h : Pw a m pre P S) (hm : 0 < m) : Pw a m (pre ++ [0]) P (S * S % m) := by
 refine ⟨?_, by rw [h.square_mod]; simp, Int.emod_nonneg _ (by omega), snoc_bits h.bits (.inl rfl)⟩;rw [valB_append, Int.mul_zero, Int.add_zero];exact h.power
theorem Pw.done {a m x : Int} {P S : Int} (h : Pw a m (bitsI x) P S) (hx : 0 <= x) : P = a ^ x.toNat % m := by rw [h.power, valB_bits hx]
theorem halve_any (g cap base : Nat) (L0 : List Int) (w : World) (hl : L0.length <= 1000) (hd : Dig L0) (hv : OwnI w base (zS (some ⟨g, 0, none⟩) L0.length cap) L0) :
  Calls Tryz.prog 168 #[zS (some ⟨g, 0, none⟩) L0.length cap] w fun e w' => ∃ L : List Int, e = .returned (zI (ev L0 % 2)) /\ L.length = L0.length /\ Dig L /\ ev L = ev L0 / 2 /\ OwnI w' base (zS (some ⟨g, 0, none⟩) L0.length cap) L /\ w.grownBy w' (some g) := by
 have HV : Hid (OwnI w base (zS (some ⟨g, 0, none⟩) L0.length cap) L0) := hv;have HD : Hid (Dig L0) := hd;clear hv hd;go_enter Tryz.func168, Tryz.ntmps168
 go_wp2
 go_loopw [3, 4] (fun bv iv wr => ∃ (p : Nat) (L : List Int) (b : Int), p <= L0.length /\ iv = zI ((p : Int) - 1) /\ bv = zI b /\ Hid (Hv L0 p L b /\ OwnI wr base (zS (some ⟨g, 0, none⟩) L.length cap) L /\ w.grownBy wr (some g))) (fun _ iv _ => (intOf iv + 1).toNat)
 case atStart => exact ⟨L0.length, L0, 0, Nat.le_refl _, rfl, rfl, Hv.start HD.out, HV.out, World.grownBy.refl _ _⟩
 case round =>
  obtain ⟨p, L, b, hp, rfl, rfl, H⟩ := hrel;have hb := H.1.bit
  rcases p with _ | p
  ·have HE := H.1.done
   have HR : Hid (L.length = L0.length /\ Dig L /\ ev L = ev L0 / 2 /\ b = ev L0 % 2 /\ OwnI wr base (zS (some ⟨g, 0, none⟩) L0.length cap) L /\ w.grownBy wr (some g)) := by
    refine ⟨H.1.len, H.1.dig, HE.1, HE.2, ?_, H.2.2⟩;have h := H.2.1;rw [H.1.len] at h;exact h
   clear HE H
   go_wp2
   go_ret;exact ⟨L, congrArg (fun z => Ending.returned (Value.int .i64 z)) HR.2.2.2.1, HR.1, HR.2.1, HR.2.2.1, HR.2.2.2.2.1, HR.2.2.2.2.2⟩
  ·have hll : L.length = L0.length := H.1.len
   have hu := H.2.1.cell (j := p) (by omega);have hf := H.2.1.frozen p;have hx := H.1.dig.getD p;have HST := H.1.step (by omega);have HOW := fun y => H.2.1.set p y
   have HBL := fun y => grown_trans H.2.2 (grown_set wr g p (zI y))
   have HN : Hid (Hv L0 p (L.set p ((b * 10000 + L.getD p 0) / 2)) ((b * 10000 + L.getD p 0) % 2) /\ (∀ y, OwnI (wr.setCell ⟨g, p, none⟩ (zI y)) base (zS (some ⟨g, 0, none⟩) (L.set p y).length cap) (L.set p y)) /\ ∀ y, w.grownBy (wr.setCell ⟨g, p, none⟩ (zI y)) (some g)) := ⟨HST, HOW, HBL⟩;clear HST HOW HBL H hll;generalize L.getD p 0 = x at *;have e1 : ((p + 1 : Nat) : Int) - 1 = (p : Int) := by omega
   rw [e1];have hpi : (p : Int) < (L0.length : Int) := by omega
   have hp0 : (0 : Int) <= (p : Int) := by omega
   have q1 : (b * 10000 + x).tdiv 2 = (b * 10000 + x) / 2 := Int.tdiv_eq_ediv_of_nonneg (by omega);have q2 : (b * 10000 + x).tmod 2 = (b * 10000 + x) % 2 := Int.tmod_eq_emod_of_nonneg (by omega);have r0 : 0 <= (b * 10000 + x) / 2 := by omega
   have r1 : (b * 10000 + x) / 2 <= 9999 := by omega
   have s0 : 0 <= (b * 10000 + x) % 2 := by omega
   have s1 : (b * 10000 + x) % 2 <= 1 := by omega
   generalize (b * 10000 + x) / 2 = y at *;generalize (b * 10000 + x) % 2 = z at *;clear e1
   go_wp2
   go_roundw
   case rel => exact ⟨p, _, z, by omega, rfl, rfl, HN.1, HN.2.1 _, HN.2.2 _⟩
   case measure => simp [intOf]
theorem clone_any (v : Value) (l : List Int) (w : World) (hl : l.length <= 1000) (hv : IntAt w v l) :
  Calls Tryz.prog 167 #[v] w fun e w' => ∃ v', e = .returned v' /\ OwnI w' w.heap.size v' l /\ zW w w' := by
 obtain ⟨i0, hi, hz0, hz1, hz2⟩ := info_parts info3;obtain ⟨ao, cap, rfl, hc⟩ := hv;have hnil := fun (a : Option Addr) (n c : Nat) (w : World) => Lib.run_eql_slice_nil w 115 3 a n c 0 0 Tryz.underlying115
 rcases ao with _ | ad
 ·have h0 : l = [] := by
   rcases Nat.eq_zero_or_pos l.length with h | h
   ·exact List.eq_nil_of_length_eq_zero h
   ·obtain ⟨g, hg, _⟩ := hc h
    cases hg
  subst h0;go_enter Tryz.func167, Tryz.ntmps167
  go_wp2
  go_ret;exact ⟨_, rfl, OwnI.nil _ _, Below.refl _ _⟩
 ·have HC : Hid (0 < l.length -> ∃ g, some ad = some (⟨g, 0, none⟩ : Addr) /\ g < w.heap.size /\ ∀ j (hj : j < l.length), w.cell? ⟨g, j, none⟩ = some (zI l[j])) := hc
  clear hc;go_enter Tryz.func167, Tryz.ntmps167;go_wp2_with (at_builtin; refine wpList_append_own _ rfl _ _ 115 rfl w.heap.size 3 i0 (zI 0) 1 8 Tryz.underlying115 hi hz0 hz1 hz2 rfl (by decide) _ _ _ rfl (World.ownsRow_made w #[] 0 (Nat.le_refl _) (Nat.zero_le _) rfl) ad l.length cap (cellsI l) rfl (by simp [cellsI]) ?c1 ?c2 (by unfold maxLen; omega) (by omega) (by simp) ?_)
  case c1 =>
   intro j q hq;have hj : j < l.length := by
    refine Nat.lt_of_not_le fun h => ?_
    rw [List.getElem?_eq_none (by rw [cellsI_len]; exact h)] at hq
    cases hq
   obtain ⟨g, hg, hgl, hcs⟩ := HC.out (by omega)
   cases hg
   rw [Addr.add_lit, Nat.zero_add, World.cell?_of_block (w := w) (Below.heap_alloc w _ g hgl), hcs j hj, <- hq, cellsI_getD hj];simp [List.getD, hj]
  case c2 =>
   intro q hq;obtain ⟨y, _, rfl⟩ := List.mem_map.1 hq;rfl
  intro v' w1 hown hgrow _;have HO : Hid (OwnI w1 w.heap.size v' l /\ zW w w1) := by
   refine ⟨by simpa [OwnI] using hown, ?_⟩;exact ((Below.refl _ w).alloc (Nat.le_refl _) _).grown hgrow (by simp) (fun k hk => by simp [Value.ownBlock] at hk; omega)
  clear hown hgrow;go_wp2_with fail;go_ret;exact ⟨_, rfl, HO.out⟩
end Go.Proofs.YtcbjlbpkoneibaaGreatDoor
