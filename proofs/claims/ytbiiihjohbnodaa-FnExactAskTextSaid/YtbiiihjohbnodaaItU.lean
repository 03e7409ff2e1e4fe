/-
  The program's numbers in bytes: fewestBytes, numberOf, lengthText; IntItem, IntIn, TextItem.
-/
import Derived.Test.YtbiiihjohbnodaaItM
import Derived.Test.YtbiiihjohbnodaaItS
import Derived.Test.YtbiiihjohbnodaaRevB
namespace Go.Proofs.Ytbiiihjohbnodaa
open Go.RowKit Der
set_option linter.unusedVariables false

theorem sizeOk {n : Nat} {w : World} (h : n ≤ w.heap.size) (o : Obj) : n ≤ (w.alloc o).heap.size := by simp; omega
theorem mapB_snoc8 (l : List UInt8) (b : UInt8) : (l ++ [b]).map cellB = l.map cellB ++ [cellB b] := by simp
/-- A number's bytes, one at least. -/
def fewB (n : Nat) : List UInt8 := if n = 0 then [0] else beN 9 n
theorem fewB_start (n : Nat) : beN 8 (n / 256) ++ [UInt8.ofNat (n % 256)] = fewB n := by
  unfold fewB
  split
  · next h => subst h; rfl
  · next h =>
    rw [show beN 9 n = if n = 0 then [] else beN 8 (n / 256) ++ [UInt8.ofNat (n % 256)] from rfl, if_neg h]
theorem fewB_step {f m : Nat} {T r : List UInt8} (h : beN (f + 1) (m / 256) ++ T.reverse = r) (hm : 255 < m) : beN f (m / 256 / 256) ++ (T ++ [UInt8.ofNat (m / 256 % 256)]).reverse = r := by
  rw [← h, beN, if_neg (by omega)]
  simp

set_option maxHeartbeats 1600000 in
set_option maxRecDepth 100000 in
theorem fewest_any (n : Nat) (w : World) (hn : n ≤ 1000000000) : Calls Try.prog 114 #[.int .i64 (n : Int)] w fun e w' => e = .returned (.string ⟨(fewB n).toArray⟩) ∧ Below w.heap.size w w' := by
  obtain ⟨i5, hi5, hy0, hy1, hy2⟩ := info_parts info5
  have hb0 : IntKind.u8.wrap (n : Int) = ((n % 256 : Nat) : Int) := by rw [IntKind.wrap]; simp [IntKind.signed, IntKind.bits]
  go_enter Try.func114, Try.ntmps114
  go_wp2_with fail
  have HI : Hid ((w.alloc (Obj.cells #[Value.int IntKind.u8 ((n : Int) % 256)] 5)).ownsRow w.heap.size 5 1 (.slice (some ⟨w.heap.size, 0, none⟩) 1 1) 1 ([UInt8.ofNat (n % 256)].map cellB) ∧ Below w.heap.size w (w.alloc (Obj.cells #[Value.int IntKind.u8 ((n : Int) % 256)] 5))) := by
    refine ⟨?_, (Below.refl _ _).alloc (Nat.le_refl _) _⟩
    have e : [UInt8.ofNat (n % 256)].map cellB = [Value.int IntKind.u8 ((n : Int) % 256)] := by
      rw [List.map_singleton, cellB_of (by omega)]
      rfl
    rw [e]
    exact World.ownsRow_lit w #[Value.int IntKind.u8 ((n : Int) % 256)] 1 (Nat.le_refl _) (by unfold maxLen; omega) rfl
  go_loopw [0, 3] (fun iv tv wr => ∃ (m : Nat), iv = .int .i64 (m : Int) ∧ m ≤ 1000000000 ∧ Hid (∃ (f : Nat) (T : List UInt8), beN f (m / 256) ++ T.reverse = fewB n ∧ T.length + f = 9 ∧ m < 256 ^ (f + 1) ∧ wr.ownsRow w.heap.size 5 1 tv T.length (T.map cellB) ∧ Below w.heap.size w wr)) (fun iv _ _ => (intOf iv).toNat)
  case atStart => exact ⟨n, rfl, hn, 8, [UInt8.ofNat (n % 256)], by rw [List.reverse_singleton]; exact fewB_start n, rfl, by omega, HI.out.1, HI.out.2⟩
  case round =>
    obtain ⟨m, rfl, hm, H⟩ := hrel
    clear HI
    obtain ⟨f, T, hT, hTl, hmf, hown, hbel⟩ := H.out
    by_cases hlt : 255 < m
    · have hlti : (255 : Int) < (m : Int) := by omega
      obtain ⟨f, rfl⟩ : ∃ f', f = f' + 1 := by
        cases f with
        | zero => simp at hmf; omega
        | succ f => exact ⟨f, rfl⟩
      have HM : Hid (beN f (m / 256 / 256) ++ (T ++ [UInt8.ofNat (m / 256 % 256)]).reverse = fewB n ∧ (T ++ [UInt8.ofNat (m / 256 % 256)]).length + f = 9 ∧ m / 256 < 256 ^ (f + 1)) := ⟨fewB_step hT hlt, by simp; omega, by rw [Nat.pow_succ] at hmf; omega⟩
      have HT : Hid (T.length ≤ 9) := by show T.length ≤ 9; omega
      have HB : Hid (Below w.heap.size w wr) := hbel
      obtain ⟨q, hq⟩ : ∃ q : Nat, m / 256 = q := ⟨_, rfl⟩
      have hqi : (m : Int) / 256 = (q : Int) := by omega
      have hqm : q < m := by omega
      have hwq : IntKind.u8.wrap (q : Int) = (q : Int) % 256 := by rw [IntKind.wrap]; simp [IntKind.signed, IntKind.bits]
      rw [hq] at HM
      obtain ⟨tl, htl⟩ : ∃ tl, T.length = tl := ⟨_, rfl⟩
      have HTL : Hid (T.length = tl) := htl
      have htl9 : tl ≤ 9 := by omega
      rw [htl] at hown
      clear H hT hTl hmf hbel hq htl
      go_wp2_with (at_builtin; refine wpList_append_own _ rfl _ _ 103 rfl w.heap.size 5 i5 (.int .u8 0) 1 1 Try.underlying103 hi5 hy0 hy1 hy2 rfl (by decide) _ _ _ rfl (hown.alloc _) ⟨wr.heap.size, 0, none⟩ 1 1 [.int .u8 ((q : Int) % 256)] rfl rfl (one_new _ _ _) ?a1 ?a2 ?a3 ?a4 ?_)
      case a1 =>
        intro u hu
        simp at hu
        subst hu; rfl
      case a2 => unfold maxLen; omega
      case a3 => omega
      case a4 => exact sizeOk HB.out.size _
      intro v' w4 hown' hgrow _
      have HN : Hid (w4.ownsRow w.heap.size 5 1 v' (T ++ [UInt8.ofNat (q % 256)]).length ((T ++ [UInt8.ofNat (q % 256)]).map cellB) ∧ Below w.heap.size w w4) := by
        refine ⟨?_, (HB.out.alloc HB.out.size _).grown hgrow (sizeOk HB.out.size _) (fun j hj => (hown.lt j hj).1)⟩
        rw [mapB_snoc8, cellB_of (by omega), List.length_append, HTL.out]
        exact hown'
      clear hown hown' hgrow
      go_wp2
      go_roundw
      case rel => exact ⟨q, by first | rfl | go_num, by omega, f, _, HM.out.1, HM.out.2.1, HM.out.2.2, HN.out.1, HN.out.2⟩
      case measure => simp [intOf]; omega
    · have hlti : ¬ (255 : Int) < (m : Int) := by omega
      have HE : Hid (T.reverse = fewB n) := by
        show T.reverse = fewB n
        rw [← hT, show m / 256 = 0 by omega, beN_nil, List.nil_append]
      have hTl9 : T.length ≤ 1000 := by omega
      clear H hT hTl hmf
      go_wp2_with fail
      refine (reverse_any _ T T.length w.heap.size wr hTl9 hown).mono ?_
      rintro e w2 ⟨rfl, ho2, hb2⟩
      have hcv := conv_own ho2
      have HW : Hid (Below w.heap.size w w2) := hbel.trans hb2
      clear ho2 hb2 hown hbel
      go_wp2_with fail
      go_ret
      exact ⟨by rw [← HE.out]; rfl, HW.out⟩
theorem fewB_len {n : Nat} (h : n ≤ 1000000000) : (fewB n).length ≤ 4 ∧ 1 ≤ (fewB n).length := by
  unfold fewB
  split
  · simp
  · next h0 => exact ⟨beN_short h, List.length_pos_iff.2 (beN_head 9 n (by omega) h0).1⟩

set_option maxHeartbeats 1600000 in
set_option maxRecDepth 100000 in
theorem numberOf_any (s : ByteArray) (w : World) (hs : s.size ≤ 7) : Calls Try.prog 130 #[.string s] w fun e w' => e = .returned (.int .i64 ((valB8 s.data.toList : Nat) : Int)) ∧ Below w.heap.size w w' := by
  have hcv := fun w => run_bytes_of_string (P := Try.prog) w 9 103 5 s Try.underlying9 Try.underlying103 Try.underlying5
  go_enter Try.func130, Try.ntmps130
  go_wp2_with fail
  generalize hC : grownCap w s.size 0 5 = C
  have HCell : Hid (∀ j (hj : j < s.size), ((w.alloc (.cells (bytesRow s C) 5 ((bytesRow s C).size, (bytesRow s C).size + 1))).drew).cell? ⟨w.heap.size, j, none⟩ = some (.int .u8 ((s[j]'hj).toNat : Int))) := fun j hj => by
    show (w.alloc (.cells (bytesRow s C) 5 ((bytesRow s C).size, (bytesRow s C).size + 1))).cell? ⟨w.heap.size, j, none⟩ = _
    rw [World.cell?_alloc_mark, bytesRow_at s C j hj]; rfl
  clear hC hcv
  go_loopw [9, 3] (fun iv nv wr => ∃ k q : Nat, k ≤ s.size ∧ iv = .int .i64 k ∧ nv = .int .i64 (q : Int) ∧ q < 72057594037927936 ∧ Hid (q = valB8 (s.data.toList.take k)) ∧ (w.alloc (.cells (bytesRow s C) 5 ((bytesRow s C).size, (bytesRow s C).size + 1))).drew = wr) (fun iv _ _ => s.size - (intOf iv).toNat)
  case atStart => exact ⟨0, 0, Nat.zero_le _, rfl, rfl, by omega, rfl, rfl⟩
  case round =>
    obtain ⟨k, q, hk, rfl, rfl, hq, HQ, rfl⟩ := hrel
    by_cases hlt : k < s.size
    · have hlt2 : k < s.data.toList.length := by simpa using hlt
      obtain ⟨b, hbk⟩ : ∃ b, s[k] = b := ⟨_, rfl⟩
      have hbk2 : s.data.toList[k] = b := hbk
      have hbl := b.toNat_lt
      have hck : (w.alloc (.cells (bytesRow s C) 5 ((bytesRow s C).size, (bytesRow s C).size + 1))).cell? ⟨w.heap.size, k, none⟩ = some (.int .u8 (b.toNat : Int)) := by have h := HCell.out k hlt; rw [hbk] at h; exact h
      have hvt := valB8_take hlt2
      rw [hbk2, ← HQ.out] at hvt
      have hv := valB8_lt (k + 1) (s.data.toList.take (k + 1)) (by rw [List.length_take]; omega)
      have hpw : (256 : Nat) ^ (k + 1) ≤ 256 ^ 7 := Nat.pow_le_pow_right (by decide) (by omega)
      rw [hvt] at hv
      have hq2 : 256 * q + b.toNat < 72057594037927936 := by
        have : (256 : Nat) ^ 7 = 72057594037927936 := by decide
        omega
      have HV : Hid (256 * q + b.toNat = valB8 (s.data.toList.take (k + 1))) := hvt.symm
      have w1 : IntKind.i64.wrap ((q : Int) * 256) = ((q : Int) * 256) := by rw [IntKind.wrap_i64]; omega
      have w2 : IntKind.i64.wrap ((q : Int) * 256 + (b.toNat : Int)) = ((q : Int) * 256 + (b.toNat : Int)) := by rw [IntKind.wrap_i64]; omega
      have w3' : IntKind.i64.wrap (b.toNat : Int) = (b.toNat : Int) := by rw [IntKind.wrap_i64]; omega
      clear hbk hbk2 hvt hv hpw HQ hlt2
      go_wp2_with fail
      go_roundw
      case rel => exact ⟨k + 1, 256 * q + b.toNat, by omega, by go_num, by go_num, hq2, HV.out, by trivial⟩
      case measure => simp [intOf]; omega
    · have HV : Hid (q = valB8 s.data.toList) := by
        have h := HQ.out
        have e : s.data.toList.length = s.size := rfl
        rw [List.take_of_length_le (by omega)] at h
        exact h
      go_wp2_with fail
      go_ret
      exact ⟨by rw [← HV.out]; rfl, ((Below.refl _ _).alloc (Nat.le_refl _) _).drew⟩
theorem beN_one {n : Nat} (h0 : n ≠ 0) (h : n < 256) : beN 9 n = [UInt8.ofNat n] := by
  unfold beN
  rw [if_neg h0, show n / 256 = 0 by omega, beN_nil, show n % 256 = n by omega]
  rfl
theorem fewB_lenB {n : Nat} (h : n < 128) : fewB n = lenB n := by
  unfold lenB fewB
  rw [if_pos h]
  split
  · next h0 => subst h0; rfl
  · next h0 => exact beN_one h0 (by omega)

set_option maxHeartbeats 1600000 in
set_option maxRecDepth 100000 in
theorem lengthText_any (n : Nat) (w : World) (hn : n ≤ 1000000000) : Calls Try.prog 112 #[.int .i64 (n : Int)] w fun e w' => e = .returned (.string ⟨(lenB n).toArray⟩) ∧ Below w.heap.size w w' := by
  have E := fewest_any n w hn
  have hfl := fewB_len hn
  by_cases h : n < 128
  · rw [fewB_lenB h] at E
    have hi : (n : Int) < 128 := by omega
    obtain ⟨L, hL⟩ : ∃ L : ByteArray, (⟨(lenB n).toArray⟩ : ByteArray) = L := ⟨_, rfl⟩
    rw [hL] at E ⊢
    clear hL
    go_enter Try.func112, Try.ntmps112
    go_wp2_with fail
    refine E.mono ?_
    rintro e w2 ⟨rfl, hb2⟩
    clear E
    go_wp2_with fail
    go_ret
    exact ⟨rfl, hb2⟩
  · have hi : ¬ (n : Int) < 128 := by omega
    have hl : lenB n = UInt8.ofNat (128 + (fewB n).length) :: fewB n := by
      unfold lenB fewB
      rw [if_neg h, if_neg (by omega)]
    rw [hl]
    obtain ⟨b, hbe⟩ : ∃ b, UInt8.ofNat (128 + (fewB n).length) = b := ⟨_, rfl⟩
    have hbn : (b.toNat : Int) = 128 + ((fewB n).length : Int) := by rw [← hbe, UInt8.toNat_ofNat']; omega
    rw [hbe]
    clear hbe hl
    generalize fewB n = T at *
    have hcv : ∀ W : World, _ := fun W => conv_byte (128 + (T.length : Int)) b hbn.symm W
    have hwr : IntKind.u8.wrap (128 + (T.length : Int)) = 128 + (T.length : Int) := by rw [← hbn, IntKind.wrap]; have := b.toNat_lt; simp [IntKind.signed, IntKind.bits]; omega
    have HC : Hid ((⟨#[b]⟩ : ByteArray) ++ ⟨T.toArray⟩ = ⟨(b :: T).toArray⟩) := by
      show (⟨#[b]⟩ : ByteArray) ++ ⟨T.toArray⟩ = _
      apply ByteArray.ext
      simp
    go_enter Try.func112, Try.ntmps112
    go_wp2_with fail
    refine E.mono ?_
    rintro e w2 ⟨rfl, hb2⟩
    have HB : Hid (Below w.heap.size w w2) := hb2
    clear E hb2
    go_wp2_with fail
    go_ret
    exact ⟨by rw [← HC.out]; rfl, HB.out.alloc HB.out.size _⟩
theorem intT_few (n : Nat) (h : n ≤ 1000000000) : intT n = if 128 ≤ (fewB n).getD 0 0 then 0 :: fewB n else fewB n := by
  by_cases h0 : n = 0
  · subst h0; decide
  · have hb := (beN_head 9 n (by omega) h0).1
    unfold intT fewB
    rw [if_neg h0]
    by_cases hc : 128 ≤ (beN 9 n).getD 0 0
    · rw [if_pos (.inr hc), if_pos hc]
    · rw [if_neg (by rintro (h1 | h1); exact hb h1; exact hc h1), if_neg hc]
theorem intT_size (n0 : Int) : (⟨(intT (numN n0)).toArray⟩ : ByteArray).size ≤ 20000000 := by
  have h := beN_short (numN_le n0)
  show (intT (numN n0)).toArray.size ≤ 20000000
  unfold intT
  split <;> simp <;> omega

set_option maxHeartbeats 1600000 in
set_option maxRecDepth 100000 in
theorem implIntItem_any (n0 : Int) (w : World) (h64 : -9223372036854775808 ≤ n0 ∧ n0 ≤ 9223372036854775807) : Calls Try.prog 86 #[.int .i64 n0] w fun e w' => e = .returned (.agg #[.int .i64 2, .string ⟨(intT (numN n0)).toArray⟩, .slice none 0 0]) ∧ Below w.heap.size w w' := by
  obtain ⟨n, hn⟩ : ∃ n, numN n0 = n := ⟨_, rfl⟩
  have hnl : n ≤ 1000000000 := by rw [← hn]; exact numN_le n0
  obtain ⟨b, r, hfb⟩ : ∃ b r, fewB n = b :: r := by
    have := (fewB_len hnl).2
    cases h : fewB n with
    | nil => rw [h] at this; simp at this
    | cons b r => exact ⟨b, r, rfl⟩
  have hfl := (fewB_len hnl).1
  obtain ⟨W2, hW2⟩ : ∃ W, W = w.alloc (Obj.cells #[Value.int IntKind.i64 0, Value.string { data := #[] }, Value.slice none 0 0] 67) := ⟨_, rfl⟩
  have E := fewest_any n W2 hnl
  have HT := intT_few n hnl
  rw [hfb] at E HT hfl
  rw [hn]
  have HTT : Hid (intT n = if 128 ≤ b then 0 :: b :: r else b :: r) := HT
  have HR : ∀ W, Below W2.heap.size W2 W → _ := fun W hb => res_cells hW2 hb
  have hg0 : ∀ h, (⟨(b :: r).toArray⟩ : ByteArray)[0]'h = b := fun h => rfl
  have hrl : (r.length : Int) + 1 ≤ 4 := by simp at hfl; omega
  clear HT hfb hfl
  by_cases hin : 0 ≤ n0 ∧ n0 ≤ 1000000000
  · have hnn : n0 = (n : Int) := by rw [← hn]; unfold numN; rw [if_pos hin]; omega
    subst hnn
    have h1 : ¬ (n : Int) < 0 := by omega
    have h2 : ¬ (1000000000 : Int) < (n : Int) := by omega
    clear hn hin
    by_cases hb : 128 ≤ b.toNat
    · have hbi : (127 : Int) < (b.toNat : Int) := by omega
      have HF : Hid (intT n = 0 :: b :: r) := by
        show intT n = _
        rw [HTT.out, if_pos (by rw [UInt8.le_iff_toNat_le]; exact hb)]
      have HC : Hid ((⟨#[0]⟩ : ByteArray) ++ ⟨(b :: r).toArray⟩ = ⟨(0 :: b :: r).toArray⟩) := by
        show (⟨#[0]⟩ : ByteArray) ++ ⟨(b :: r).toArray⟩ = _
        apply ByteArray.ext
        simp
      go_enter Try.func86, Try.ntmps86
      go_wp2_with fail
      rw [← hW2]
      refine E.mono ?_
      rintro e w3 ⟨rfl, hb3⟩
      obtain ⟨⟨c0, c1, c2⟩, fz, hbw⟩ := HR w3 hb3
      have HBW : Hid (Below w.heap.size w w3) := hbw
      clear E hb3 hW2 HR hbw
      go_wp2_with fail
      refine bodyPost_ret (v := .agg #[.int .i64 2, .string (⟨#[0]⟩ ++ ⟨(b :: r).toArray⟩), .slice none 0 0]) (by simp [results, Try.results86, go_sem, c0, c1, c2]; try rfl) rfl ⟨by rw [HF.out, HC.out], ?_⟩
      exact ((HBW.out.setCell (p := ⟨w.heap.size, 0, none⟩) (Nat.le_refl _) _).setCell (p := ⟨w.heap.size, 1, none⟩) (Nat.le_refl _) _).setCell (p := ⟨w.heap.size, 2, none⟩) (Nat.le_refl _) _
    · have hbi : ¬ (127 : Int) < (b.toNat : Int) := by omega
      have HF : Hid (intT n = b :: r) := by
        show intT n = _
        rw [HTT.out, if_neg (by rw [UInt8.le_iff_toNat_le]; exact hb)]
      go_enter Try.func86, Try.ntmps86
      go_wp2_with fail
      rw [← hW2]
      refine E.mono ?_
      rintro e w3 ⟨rfl, hb3⟩
      obtain ⟨⟨c0, c1, c2⟩, fz, hbw⟩ := HR w3 hb3
      have HBW : Hid (Below w.heap.size w w3) := hbw
      clear E hb3 hW2 HR hbw
      go_wp2_with fail
      refine bodyPost_ret (v := .agg #[.int .i64 2, .string ⟨(b :: r).toArray⟩, .slice none 0 0]) (by simp [results, Try.results86, go_sem, c0, c1, c2]; try rfl) rfl ⟨by rw [HF.out], ?_⟩
      exact ((HBW.out.setCell (p := ⟨w.heap.size, 0, none⟩) (Nat.le_refl _) _).setCell (p := ⟨w.heap.size, 1, none⟩) (Nat.le_refl _) _).setCell (p := ⟨w.heap.size, 2, none⟩) (Nat.le_refl _) _
  · have hnn : n = 0 := by rw [← hn]; unfold numN; rw [if_neg hin]
    subst hnn
    clear hn
    by_cases h1 : n0 < 0
    · by_cases hb : 128 ≤ b.toNat
      · have hbi : (127 : Int) < (b.toNat : Int) := by omega
        have HF : Hid (intT 0 = 0 :: b :: r) := by
          show intT 0 = _
          rw [HTT.out, if_pos (by rw [UInt8.le_iff_toNat_le]; exact hb)]
        have HC : Hid ((⟨#[0]⟩ : ByteArray) ++ ⟨(b :: r).toArray⟩ = ⟨(0 :: b :: r).toArray⟩) := by
          show (⟨#[0]⟩ : ByteArray) ++ ⟨(b :: r).toArray⟩ = _
          apply ByteArray.ext
          simp
        go_enter Try.func86, Try.ntmps86
        go_wp2_with fail
        rw [← hW2]
        refine E.mono ?_
        rintro e w3 ⟨rfl, hb3⟩
        obtain ⟨⟨c0, c1, c2⟩, fz, hbw⟩ := HR w3 hb3
        have HBW : Hid (Below w.heap.size w w3) := hbw
        clear E hb3 hW2 HR hbw
        go_wp2_with fail
        refine bodyPost_ret (v := .agg #[.int .i64 2, .string (⟨#[0]⟩ ++ ⟨(b :: r).toArray⟩), .slice none 0 0]) (by simp [results, Try.results86, go_sem, c0, c1, c2]; try rfl) rfl ⟨by rw [HF.out, HC.out], ?_⟩
        exact ((HBW.out.setCell (p := ⟨w.heap.size, 0, none⟩) (Nat.le_refl _) _).setCell (p := ⟨w.heap.size, 1, none⟩) (Nat.le_refl _) _).setCell (p := ⟨w.heap.size, 2, none⟩) (Nat.le_refl _) _
      · have hbi : ¬ (127 : Int) < (b.toNat : Int) := by omega
        have HF : Hid (intT 0 = b :: r) := by
          show intT 0 = _
          rw [HTT.out, if_neg (by rw [UInt8.le_iff_toNat_le]; exact hb)]
        go_enter Try.func86, Try.ntmps86
        go_wp2_with fail
        rw [← hW2]
        refine E.mono ?_
        rintro e w3 ⟨rfl, hb3⟩
        obtain ⟨⟨c0, c1, c2⟩, fz, hbw⟩ := HR w3 hb3
        have HBW : Hid (Below w.heap.size w w3) := hbw
        clear E hb3 hW2 HR hbw
        go_wp2_with fail
        refine bodyPost_ret (v := .agg #[.int .i64 2, .string ⟨(b :: r).toArray⟩, .slice none 0 0]) (by simp [results, Try.results86, go_sem, c0, c1, c2]; try rfl) rfl ⟨by rw [HF.out], ?_⟩
        exact ((HBW.out.setCell (p := ⟨w.heap.size, 0, none⟩) (Nat.le_refl _) _).setCell (p := ⟨w.heap.size, 1, none⟩) (Nat.le_refl _) _).setCell (p := ⟨w.heap.size, 2, none⟩) (Nat.le_refl _) _
    · have h2 : (1000000000 : Int) < n0 := by omega
      by_cases hb : 128 ≤ b.toNat
      · have hbi : (127 : Int) < (b.toNat : Int) := by omega
        have HF : Hid (intT 0 = 0 :: b :: r) := by
          show intT 0 = _
          rw [HTT.out, if_pos (by rw [UInt8.le_iff_toNat_le]; exact hb)]
        have HC : Hid ((⟨#[0]⟩ : ByteArray) ++ ⟨(b :: r).toArray⟩ = ⟨(0 :: b :: r).toArray⟩) := by
          show (⟨#[0]⟩ : ByteArray) ++ ⟨(b :: r).toArray⟩ = _
          apply ByteArray.ext
          simp
        go_enter Try.func86, Try.ntmps86
        go_wp2_with fail
        rw [← hW2]
        refine E.mono ?_
        rintro e w3 ⟨rfl, hb3⟩
        obtain ⟨⟨c0, c1, c2⟩, fz, hbw⟩ := HR w3 hb3
        have HBW : Hid (Below w.heap.size w w3) := hbw
        clear E hb3 hW2 HR hbw
        go_wp2_with fail
        refine bodyPost_ret (v := .agg #[.int .i64 2, .string (⟨#[0]⟩ ++ ⟨(b :: r).toArray⟩), .slice none 0 0]) (by simp [results, Try.results86, go_sem, c0, c1, c2]; try rfl) rfl ⟨by rw [HF.out, HC.out], ?_⟩
        exact ((HBW.out.setCell (p := ⟨w.heap.size, 0, none⟩) (Nat.le_refl _) _).setCell (p := ⟨w.heap.size, 1, none⟩) (Nat.le_refl _) _).setCell (p := ⟨w.heap.size, 2, none⟩) (Nat.le_refl _) _
      · have hbi : ¬ (127 : Int) < (b.toNat : Int) := by omega
        have HF : Hid (intT 0 = b :: r) := by
          show intT 0 = _
          rw [HTT.out, if_neg (by rw [UInt8.le_iff_toNat_le]; exact hb)]
        go_enter Try.func86, Try.ntmps86
        go_wp2_with fail
        rw [← hW2]
        refine E.mono ?_
        rintro e w3 ⟨rfl, hb3⟩
        obtain ⟨⟨c0, c1, c2⟩, fz, hbw⟩ := HR w3 hb3
        have HBW : Hid (Below w.heap.size w w3) := hbw
        clear E hb3 hW2 HR hbw
        go_wp2_with fail
        refine bodyPost_ret (v := .agg #[.int .i64 2, .string ⟨(b :: r).toArray⟩, .slice none 0 0]) (by simp [results, Try.results86, go_sem, c0, c1, c2]; try rfl) rfl ⟨by rw [HF.out], ?_⟩
        exact ((HBW.out.setCell (p := ⟨w.heap.size, 0, none⟩) (Nat.le_refl _) _).setCell (p := ⟨w.heap.size, 1, none⟩) (Nat.le_refl _) _).setCell (p := ⟨w.heap.size, 2, none⟩) (Nat.le_refl _) _

set_option maxHeartbeats 1600000 in
set_option maxRecDepth 100000 in
theorem implIntIn_step (n : Nat) (t : Int) (s : List UInt8) (ks : List (It n)) (a : Value) (w : World) (hx : KidsAt w (ItAt w n) a ks) (hz : szI (n + 1) (It.mk t s ks) ≤ 20000000) :
    Calls Try.prog 118 #[.agg #[.int .i64 t, .string ⟨s.toArray⟩, a]] w fun e w' => e = .returned (.tuple #[.int .i64 (((inI (n + 1) (It.mk t s ks)).getD 0 : Nat) : Int), .bool (inI (n + 1) (It.mk t s ks)).isSome]) ∧ Below w.heap.size w w' := by
  have hx0 := hx
  obtain ⟨ax, cx, rfl, _⟩ := hx0
  obtain ⟨l, hle⟩ : ∃ l, ks.length = l := ⟨_, rfl⟩
  rw [hle] at hx ⊢
  have HX : Hid (ItAt w (n + 1) (.agg #[.int .i64 t, .string ⟨s.toArray⟩, .slice ax l cx]) (It.mk t s ks) ∧ szI (n + 1) (It.mk t s ks) ≤ 20000000) := ⟨⟨_, rfl, hx⟩, hz⟩
  have HN : Hid (inI (n + 1) (It.mk t s ks) = if t = 2 ∧ rightI (n + 1) (It.mk t s ks) 0 = true ∧ valB8 s ≤ 1000000000 then some (valB8 s) else none) := rfl
  obtain ⟨W2, hW2⟩ : ∃ W, W = w.alloc (Obj.cells #[Value.int IntKind.i64 t, Value.string { data := s.toArray }, Value.slice ax l cx] 67) := ⟨_, rfl⟩
  have HW := one_laid w (.int .i64 t) (.string ⟨s.toArray⟩) (.slice ax l cx) 67 W2 hW2
  have HC : Hid (Below w.heap.size w W2 ∧ w.heap.size < W2.heap.size ∧ Cells3 W2 w.heap.size 0 (.int .i64 t) (.string ⟨s.toArray⟩) (.slice ax l cx)) := ⟨HW.1, HW.2.1, HW.2.2⟩
  clear hx hz HW hle
  by_cases h2 : t = 2
  · subst h2
    have E := implItemOk_any (n + 1) (It.mk 2 s ks) _ W2 (ItAt.below HC.out.1 HX.out.1) HX.out.2
    cases hr : rightI (n + 1) (It.mk 2 s ks) 0 with
    | false =>
      rw [hr] at E
      have HR : Hid (inI (n + 1) (It.mk 2 s ks) = none) := by
        show inI (n + 1) (It.mk 2 s ks) = none
        rw [HN.out, hr]
        simp
      clear hr
      go_enter Try.func118, Try.ntmps118
      go_wp2_with fail
      rw [← hW2]
      refine E.mono ?_
      rintro e w3 ⟨rfl, hb3⟩
      have H3 : Hid (Below w.heap.size w w3) := HC.out.1.trans (hb3.mono HC.out.1.size)
      clear E hb3 hW2
      go_wp2_with fail
      go_ret2
      exact ⟨by rw [HR.out]; rfl, H3.out⟩
    | true =>
      rw [hr] at E
      have hpl : plainOk 2 s = true := by
        have h : rightI (n + 1) (It.mk 2 s ks) 0 = (if (2 : Int) ≠ 48 then decide (ks.length = 0) && plainOk 2 s else _) := rfl
        rw [hr, if_pos (by decide)] at h
        have := h.symm
        rw [Bool.and_eq_true] at this
        exact this.2
      have hl5 : s.length ≤ 5 := by
        unfold plainOk at hpl
        rw [if_neg (by decide), if_pos rfl] at hpl
        simp only [Bool.and_eq_true, decide_eq_true_eq] at hpl
        exact hpl.1.1.2
      have HR : Hid (inI (n + 1) (It.mk 2 s ks) = if valB8 s ≤ 1000000000 then some (valB8 s) else none) := by
        show inI (n + 1) (It.mk 2 s ks) = _
        rw [HN.out, hr]
        simp
      clear hr hpl
      have hssz : (⟨s.toArray⟩ : ByteArray).size = s.length := by show s.toArray.size = _; simp
      go_enter Try.func118, Try.ntmps118
      go_wp2_with fail
      rw [← hW2]
      refine E.mono ?_
      rintro e w3 ⟨rfl, hb3⟩
      obtain ⟨c0, c1, c2⟩ := HC.out.2.2.below HC.out.2.1 hb3
      have H3 : Hid (Below w.heap.size w w3) := HC.out.1.trans (hb3.mono HC.out.1.size)
      have EN : Calls Try.prog 130 #[.string ⟨s.toArray⟩] w3 fun e w' => e = .returned (.int .i64 ((valB8 s : Nat) : Int)) ∧ Below w3.heap.size w3 w' := numberOf_any ⟨s.toArray⟩ w3 (by rw [hssz]; omega)
      obtain ⟨q, hq⟩ : ∃ q, valB8 s = q := ⟨_, rfl⟩
      rw [hq] at EN HR
      clear E hb3 hW2 c0 c2 hq
      rw [show (0 : Nat) + 1 = 1 from rfl] at c1
      go_wp2_with fail
      refine EN.mono ?_
      rintro e w4 ⟨rfl, hb4⟩
      have H4 : Hid (Below w.heap.size w w4) := H3.out.trans (hb4.mono H3.out.size)
      clear EN hb4 c1
      by_cases hle : q ≤ 1000000000
      · have hlei : ¬ (1000000000 : Int) < (q : Int) := by omega
        have HR2 : Hid (inI (n + 1) (It.mk 2 s ks) = some q) := by
          show inI (n + 1) (It.mk 2 s ks) = some q
          rw [HR.out, if_pos hle]
        go_wp2_with fail
        go_ret2
        exact ⟨by rw [HR2.out]; rfl, H4.out⟩
      · have hlei : (1000000000 : Int) < (q : Int) := by omega
        have HR2 : Hid (inI (n + 1) (It.mk 2 s ks) = none) := by
          show inI (n + 1) (It.mk 2 s ks) = none
          rw [HR.out, if_neg hle]
        go_wp2_with fail
        go_ret2
        exact ⟨by rw [HR2.out]; rfl, H4.out⟩
  · have h2b : (t != 2) = true := by simpa using h2
    have HR : Hid (inI (n + 1) (It.mk t s ks) = none) := by
      show inI (n + 1) (It.mk t s ks) = none
      rw [HN.out, if_neg (fun h => h2 h.1)]
    go_enter Try.func118, Try.ntmps118
    go_wp2_with fail
    go_ret2
    exact ⟨by rw [HR.out]; rfl, (one_laid w (.int .i64 t) (.string ⟨s.toArray⟩) (.slice ax l cx) 67 _ rfl).1⟩
theorem implIntIn_any : ∀ (n : Nat) (x : It n) (v : Value) (w : World), ItAt w n v x → szI n x ≤ 20000000 → Calls Try.prog 118 #[v] w fun e w' => e = .returned (.tuple #[.int .i64 (((inI n x).getD 0 : Nat) : Int), .bool (inI n x).isSome]) ∧ Below w.heap.size w w'
  | 0, _, _, _, h, _ => h.elim
  | n + 1, x, v, w, hx, hz => by
    obtain ⟨kx, rfl, hkx⟩ := hx
    exact implIntIn_step n (It.tag x) (It.text x) (It.kids x) kx w hkx hz
end Go.Proofs.Ytbiiihjohbnodaa
