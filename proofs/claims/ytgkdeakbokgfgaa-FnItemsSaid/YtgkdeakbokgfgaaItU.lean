/-
  The program's numbers in bytes: fewestBytes, numberOf, lengthText; IntItem, IntIn, TextItem.
-/
import Derived.Test.YtgkdeakbokgfgaaItM
import Derived.Test.YtgkdeakbokgfgaaItS
import Derived.Test.YtgkdeakbokgfgaaRevB
namespace Go.Proofs.Ytgkdeakbokgfgaa
open Go.RowKit Der
set_option linter.unusedVariables false

theorem sizeOk {n : Nat} {w : World} (h : n ≤ w.heap.size) (o : Obj) : n ≤ (w.alloc o).heap.size := by simp; omega
theorem mapB_snoc8 (l : List UInt8) (b : UInt8) : (l ++ [b]).map cellB = l.map cellB ++ [cellB b] := by simp
/-- A number's bytes, one at least. -/
def fewB (n : Nat) : List UInt8 := if n = 0 then [0] else beN 9 n
theorem fewB_start (n : Nat) : beN 8 (n / 256) ++ [UInt8.ofNat (n % 256)] = fewB n := by
  unfold fewB
  split
  · next h => subst h; rfl
  · next h =>
    rw [show beN 9 n = if n = 0 then [] else beN 8 (n / 256) ++ [UInt8.ofNat (n % 256)] from rfl, if_neg h]
theorem fewB_step {f m : Nat} {T r : List UInt8} (h : beN (f + 1) (m / 256) ++ T.reverse = r) (hm : 255 < m) : beN f (m / 256 / 256) ++ (T ++ [UInt8.ofNat (m / 256 % 256)]).reverse = r := by
  rw [← h, beN, if_neg (by omega)]
  simp

set_option maxHeartbeats 1600000 in
set_option maxRecDepth 100000 in
theorem fewest_any (n : Nat) (w : World) (hn : n ≤ 1000000000) : Calls Try.prog 107 #[.int .i64 (n : Int)] w fun e w' => e = .returned (.string ⟨(fewB n).toArray⟩) ∧ Below w.heap.size w w' := by
  obtain ⟨i5, hi5, hy0, hy1, hy2⟩ := info_parts info5
  have hb0 : IntKind.u8.wrap (n : Int) = ((n % 256 : Nat) : Int) := by rw [IntKind.wrap]; simp [IntKind.signed, IntKind.bits]
  go_enter Try.func107, Try.ntmps107
  go_wp2_with fail
  have HI : Hid ((w.alloc (Obj.cells #[Value.int IntKind.u8 ((n : Int) % 256)] 5)).ownsRow w.heap.size 5 1 (.slice (some ⟨w.heap.size, 0, none⟩) 1 1) 1 ([UInt8.ofNat (n % 256)].map cellB) ∧ Below w.heap.size w (w.alloc (Obj.cells #[Value.int IntKind.u8 ((n : Int) % 256)] 5))) := by
    refine ⟨?_, (Below.refl _ _).alloc (Nat.le_refl _) _⟩
    have e : [UInt8.ofNat (n % 256)].map cellB = [Value.int IntKind.u8 ((n : Int) % 256)] := by
      rw [List.map_singleton, cellB_of (by omega)]
      rfl
    rw [e]
    exact World.ownsRow_lit w #[Value.int IntKind.u8 ((n : Int) % 256)] 1 (Nat.le_refl _) (by unfold maxLen; omega) rfl
  go_loopw [0, 3] (fun iv tv wr => ∃ (m : Nat), iv = .int .i64 (m : Int) ∧ m ≤ 1000000000 ∧ Hid (∃ (f : Nat) (T : List UInt8), beN f (m / 256) ++ T.reverse = fewB n ∧ T.length + f = 9 ∧ m < 256 ^ (f + 1) ∧ wr.ownsRow w.heap.size 5 1 tv T.length (T.map cellB) ∧ Below w.heap.size w wr)) (fun iv _ _ => (intOf iv).toNat)
  case atStart => exact ⟨n, rfl, hn, 8, [UInt8.ofNat (n % 256)], by rw [List.reverse_singleton]; exact fewB_start n, rfl, by omega, HI.out.1, HI.out.2⟩
  case round =>
    obtain ⟨m, rfl, hm, H⟩ := hrel
    clear HI
    obtain ⟨f, T, hT, hTl, hmf, hown, hbel⟩ := H.out
    by_cases hlt : 255 < m
    · have hlti : (255 : Int) < (m : Int) := by omega
      obtain ⟨f, rfl⟩ : ∃ f', f = f' + 1 := by
        cases f with
        | zero => simp at hmf; omega
        | succ f => exact ⟨f, rfl⟩
      have HM : Hid (beN f (m / 256 / 256) ++ (T ++ [UInt8.ofNat (m / 256 % 256)]).reverse = fewB n ∧ (T ++ [UInt8.ofNat (m / 256 % 256)]).length + f = 9 ∧ m / 256 < 256 ^ (f + 1)) := ⟨fewB_step hT hlt, by simp; omega, by rw [Nat.pow_succ] at hmf; omega⟩
      have HT : Hid (T.length ≤ 9) := by show T.length ≤ 9; omega
      have HB : Hid (Below w.heap.size w wr) := hbel
      obtain ⟨q, hq⟩ : ∃ q : Nat, m / 256 = q := ⟨_, rfl⟩
      have hqi : (m : Int) / 256 = (q : Int) := by omega
      have hqm : q < m := by omega
      have hwq : IntKind.u8.wrap (q : Int) = (q : Int) % 256 := by rw [IntKind.wrap]; simp [IntKind.signed, IntKind.bits]
      rw [hq] at HM
      obtain ⟨tl, htl⟩ : ∃ tl, T.length = tl := ⟨_, rfl⟩
      have HTL : Hid (T.length = tl) := htl
      have htl9 : tl ≤ 9 := by omega
      rw [htl] at hown
      clear H hT hTl hmf hbel hq htl
      go_wp2_with (at_builtin; refine wpList_append_own _ rfl _ _ 34 rfl w.heap.size 5 i5 (.int .u8 0) 1 1 Try.underlying34 hi5 hy0 hy1 hy2 rfl (by decide) _ _ _ rfl (hown.alloc _) ⟨wr.heap.size, 0, none⟩ 1 1 [.int .u8 ((q : Int) % 256)] rfl rfl (one_new _ _ _) ?a1 ?a2 ?a3 ?a4 ?_)
      case a1 =>
        intro u hu
        simp at hu
        subst hu; rfl
      case a2 => unfold maxLen; omega
      case a3 => omega
      case a4 => exact sizeOk HB.out.size _
      intro v' w4 hown' hgrow _
      have HN : Hid (w4.ownsRow w.heap.size 5 1 v' (T ++ [UInt8.ofNat (q % 256)]).length ((T ++ [UInt8.ofNat (q % 256)]).map cellB) ∧ Below w.heap.size w w4) := by
        refine ⟨?_, (HB.out.alloc HB.out.size _).grown hgrow (sizeOk HB.out.size _) (fun j hj => (hown.lt j hj).1)⟩
        rw [mapB_snoc8, cellB_of (by omega), List.length_append, HTL.out]
        exact hown'
      clear hown hown' hgrow
      go_wp2
      go_roundw
      case rel => exact ⟨q, by first | rfl | go_num, by omega, f, _, HM.out.1, HM.out.2.1, HM.out.2.2, HN.out.1, HN.out.2⟩
      case measure => simp [intOf]; omega
    · have hlti : ¬ (255 : Int) < (m : Int) := by omega
      have HE : Hid (T.reverse = fewB n) := by
        show T.reverse = fewB n
        rw [← hT, show m / 256 = 0 by omega, beN_nil, List.nil_append]
      have hTl9 : T.length ≤ 1000 := by omega
      clear H hT hTl hmf
      go_wp2_with fail
      refine (reverse_any _ T T.length w.heap.size wr hTl9 hown).mono ?_
      rintro e w2 ⟨rfl, ho2, hb2⟩
      have hcv := conv_own ho2
      have HW : Hid (Below w.heap.size w w2) := hbel.trans hb2
      clear ho2 hb2 hown hbel
      go_wp2_with fail
      go_ret
      exact ⟨by rw [← HE.out]; rfl, HW.out⟩
theorem fewB_len {n : Nat} (h : n ≤ 1000000000) : (fewB n).length ≤ 4 ∧ 1 ≤ (fewB n).length := by
  unfold fewB
  split
  · simp
  · next h0 => exact ⟨beN_short h, List.length_pos_iff.2 (beN_head 9 n (by omega) h0).1⟩

set_option maxHeartbeats 1600000 in
set_option maxRecDepth 100000 in
theorem numberOf_any (s : ByteArray) (w : World) (hs : s.size ≤ 7) : Calls Try.prog 108 #[.string s] w fun e w' => e = .returned (.int .i64 ((valB8 s.data.toList : Nat) : Int)) ∧ Below w.heap.size w w' := by
  have hcv := fun w => run_bytes_of_string (P := Try.prog) w 9 34 5 s Try.underlying9 Try.underlying34 Try.underlying5
  go_enter Try.func108, Try.ntmps108
  go_wp2_with fail
  generalize hC : grownCap w s.size 0 5 = C
  have HCell : Hid (∀ j (hj : j < s.size), ((w.alloc (.cells (bytesRow s C) 5 ((bytesRow s C).size, (bytesRow s C).size + 1))).drew).cell? ⟨w.heap.size, j, none⟩ = some (.int .u8 ((s[j]'hj).toNat : Int))) := fun j hj => by
    show (w.alloc (.cells (bytesRow s C) 5 ((bytesRow s C).size, (bytesRow s C).size + 1))).cell? ⟨w.heap.size, j, none⟩ = _
    rw [World.cell?_alloc_mark, bytesRow_at s C j hj]; rfl
  clear hC hcv
  go_loopw [9, 3] (fun iv nv wr => ∃ k q : Nat, k ≤ s.size ∧ iv = .int .i64 k ∧ nv = .int .i64 (q : Int) ∧ q < 72057594037927936 ∧ Hid (q = valB8 (s.data.toList.take k)) ∧ (w.alloc (.cells (bytesRow s C) 5 ((bytesRow s C).size, (bytesRow s C).size + 1))).drew = wr) (fun iv _ _ => s.size - (intOf iv).toNat)
  case atStart => exact ⟨0, 0, Nat.zero_le _, rfl, rfl, by omega, rfl, rfl⟩
  case round =>
    obtain ⟨k, q, hk, rfl, rfl, hq, HQ, rfl⟩ := hrel
    by_cases hlt : k < s.size
    · have hlt2 : k < s.data.toList.length := by simpa using hlt
      obtain ⟨b, hbk⟩ : ∃ b, s[k] = b := ⟨_, rfl⟩
      have hbk2 : s.data.toList[k] = b := hbk
      have hbl := b.toNat_lt
      have hck : (w.alloc (.cells (bytesRow s C) 5 ((bytesRow s C).size, (bytesRow s C).size + 1))).cell? ⟨w.heap.size, k, none⟩ = some (.int .u8 (b.toNat : Int)) := by have h := HCell.out k hlt; rw [hbk] at h; exact h
      have hvt := valB8_take hlt2
      rw [hbk2, ← HQ.out] at hvt
      have hv := valB8_lt (k + 1) (s.data.toList.take (k + 1)) (by rw [List.length_take]; omega)
      have hpw : (256 : Nat) ^ (k + 1) ≤ 256 ^ 7 := Nat.pow_le_pow_right (by decide) (by omega)
      rw [hvt] at hv
      have hq2 : 256 * q + b.toNat < 72057594037927936 := by
        have : (256 : Nat) ^ 7 = 72057594037927936 := by decide
        omega
      have HV : Hid (256 * q + b.toNat = valB8 (s.data.toList.take (k + 1))) := hvt.symm
      have w1 : IntKind.i64.wrap ((q : Int) * 256) = ((q : Int) * 256) := by rw [IntKind.wrap_i64]; omega
      have w2 : IntKind.i64.wrap ((q : Int) * 256 + (b.toNat : Int)) = ((q : Int) * 256 + (b.toNat : Int)) := by rw [IntKind.wrap_i64]; omega
      have w3' : IntKind.i64.wrap (b.toNat : Int) = (b.toNat : Int) := by rw [IntKind.wrap_i64]; omega
      clear hbk hbk2 hvt hv hpw HQ hlt2
      go_wp2_with fail
      go_roundw
      case rel => exact ⟨k + 1, 256 * q + b.toNat, by omega, by go_num, by go_num, hq2, HV.out, by trivial⟩
      case measure => simp [intOf]; omega
    · have HV : Hid (q = valB8 s.data.toList) := by
        have h := HQ.out
        have e : s.data.toList.length = s.size := rfl
        rw [List.take_of_length_le (by omega)] at h
        exact h
      go_wp2_with fail
      go_ret
      exact ⟨by rw [← HV.out]; rfl, ((Below.refl _ _).alloc (Nat.le_refl _) _).drew⟩
theorem beN_one {n : Nat} (h0 : n ≠ 0) (h : n < 256) : beN 9 n = [UInt8.ofNat n] := by
  unfold beN
  rw [if_neg h0, show n / 256 = 0 by omega, beN_nil, show n % 256 = n by omega]
  rfl
theorem fewB_lenB {n : Nat} (h : n < 128) : fewB n = lenB n := by
  unfold lenB fewB
  rw [if_pos h]
  split
  · next h0 => subst h0; rfl
  · next h0 => exact beN_one h0 (by omega)

set_option maxHeartbeats 1600000 in
set_option maxRecDepth 100000 in
theorem lengthText_any (n : Nat) (w : World) (hn : n ≤ 1000000000) : Calls Try.prog 93 #[.int .i64 (n : Int)] w fun e w' => e = .returned (.string ⟨(lenB n).toArray⟩) ∧ Below w.heap.size w w' := by
  have E := fewest_any n w hn
  have hfl := fewB_len hn
  by_cases h : n < 128
  · rw [fewB_lenB h] at E
    have hi : (n : Int) < 128 := by omega
    obtain ⟨L, hL⟩ : ∃ L : ByteArray, (⟨(lenB n).toArray⟩ : ByteArray) = L := ⟨_, rfl⟩
    rw [hL] at E ⊢
    clear hL
    go_enter Try.func93, Try.ntmps93
    go_wp2_with fail
    refine E.mono ?_
    rintro e w2 ⟨rfl, hb2⟩
    clear E
    go_wp2_with fail
    go_ret
    exact ⟨rfl, hb2⟩
  · have hi : ¬ (n : Int) < 128 := by omega
    have hl : lenB n = UInt8.ofNat (128 + (fewB n).length) :: fewB n := by
      unfold lenB fewB
      rw [if_neg h, if_neg (by omega)]
    rw [hl]
    obtain ⟨b, hbe⟩ : ∃ b, UInt8.ofNat (128 + (fewB n).length) = b := ⟨_, rfl⟩
    have hbn : (b.toNat : Int) = 128 + ((fewB n).length : Int) := by rw [← hbe, UInt8.toNat_ofNat']; omega
    rw [hbe]
    clear hbe hl
    generalize fewB n = T at *
    have hcv : ∀ W : World, _ := fun W => conv_byte (128 + (T.length : Int)) b hbn.symm W
    have hwr : IntKind.u8.wrap (128 + (T.length : Int)) = 128 + (T.length : Int) := by rw [← hbn, IntKind.wrap]; have := b.toNat_lt; simp [IntKind.signed, IntKind.bits]; omega
    have HC : Hid ((⟨#[b]⟩ : ByteArray) ++ ⟨T.toArray⟩ = ⟨(b :: T).toArray⟩) := by
      show (⟨#[b]⟩ : ByteArray) ++ ⟨T.toArray⟩ = _
      apply ByteArray.ext
      simp
    go_enter Try.func93, Try.ntmps93
    go_wp2_with fail
    refine E.mono ?_
    rintro e w2 ⟨rfl, hb2⟩
    have HB : Hid (Below w.heap.size w w2) := hb2
    clear E hb2
    go_wp2_with fail
    go_ret
    exact ⟨by rw [← HC.out]; rfl, HB.out.alloc HB.out.size _⟩
theorem intT_few (n : Nat) (h : n ≤ 1000000000) : intT n = if 128 ≤ (fewB n).getD 0 0 then 0 :: fewB n else fewB n := by
  by_cases h0 : n = 0
  · subst h0; decide
  · have hb := (beN_head 9 n (by omega) h0).1
    unfold intT fewB
    rw [if_neg h0]
    by_cases hc : 128 ≤ (beN 9 n).getD 0 0
    · rw [if_pos (.inr hc), if_pos hc]
    · rw [if_neg (by rintro (h1 | h1); exact hb h1; exact hc h1), if_neg hc]
theorem intT_size (n0 : Int) : (⟨(intT (numN n0)).toArray⟩ : ByteArray).size ≤ 10000000 := by
  have h := beN_short (numN_le n0)
  show (intT (numN n0)).toArray.size ≤ 10000000
  unfold intT
  split <;> simp <;> omega

end Go.Proofs.Ytgkdeakbokgfgaa
