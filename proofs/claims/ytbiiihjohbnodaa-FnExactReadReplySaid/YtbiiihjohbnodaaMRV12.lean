/-
  Texts of the proof.
-/
import Derived.WalkLawsBesides
import Derived.Laws.AppendOwnNone
import Derived.Test.YtbiiihjohbnodaaMRV11
set_option maxRecDepth 100000
set_option maxHeartbeats 25600000
namespace Go.Proofs.Ytbiiihjohbnodaa
open Go.RowKit Der
set_option linter.unusedVariables false
theorem sizeOk {n : Nat} {w : World} (h : n <= w.heap.size) (o : Obj) : n <= (w.alloc o).heap.size := by simp; omega
theorem mapB_snoc8 (l : List UInt8) (b : UInt8) : (l ++ [b]).map cellB = l.map cellB ++ [cellB b] := by simp
def fewB (n : Nat) : List UInt8 := if n = 0 then [0] else beN 9 n
theorem fewB_start (n : Nat) : beN 8 (n / 256) ++ [UInt8.ofNat (n % 256)] = fewB n := by
 unfold fewB
 split
 ·next h => subst h; rfl
 ·next h =>
  rw [show beN 9 n = if n = 0 then [] else beN 8 (n / 256) ++ [UInt8.ofNat (n % 256)] from rfl, if_neg h]
theorem fewB_step {f m : Nat} {T r : List UInt8} (h : beN (f + 1) (m / 256) ++ T.reverse = r) (hm : 255 < m) : beN f (m / 256 / 256) ++ (T ++ [UInt8.ofNat (m / 256 % 256)]).reverse = r := by
 rw [<- h, beN, if_neg (by omega)]
 simp
theorem fewest_any (n : Nat) (w : World) (hn : n <= 1000000000) : Calls Try.prog 114 #[.int .i64 (n : Int)] w fun e w' => e = .returned (.string ⟨(fewB n).toArray⟩) /\ Below w.heap.size w w' := by
 obtain ⟨i5, hi5, hy0, hy1, hy2⟩ := info_parts info5
 have hb0 : IntKind.u8.wrap (n : Int) = ((n % 256 : Nat) : Int) := by rw [IntKind.wrap]; simp [IntKind.signed, IntKind.bits]
 go_enter Try.func114, Try.ntmps114
 go_wp2_with fail
 have HI : Hid ((w.alloc (Obj.cells #[Value.int IntKind.u8 ((n : Int) % 256)] 5)).ownsRow w.heap.size 5 1 (.slice (some ⟨w.heap.size, 0, none⟩) 1 1) 1 ([UInt8.ofNat (n % 256)].map cellB) /\ Below w.heap.size w (w.alloc (Obj.cells #[Value.int IntKind.u8 ((n : Int) % 256)] 5))) := by
  refine ⟨?_, (Below.refl _ _).alloc (Nat.le_refl _) _⟩
  have e : [UInt8.ofNat (n % 256)].map cellB = [Value.int IntKind.u8 ((n : Int) % 256)] := by
   rw [List.map_singleton, cellB_of (by omega)]
   rfl
  rw [e]
  exact World.ownsRow_lit w #[Value.int IntKind.u8 ((n : Int) % 256)] 1 (Nat.le_refl _) (by unfold maxLen; omega) rfl
 go_loopw [0, 3] (fun iv tv wr => ∃ (m : Nat), iv = .int .i64 (m : Int) /\ m <= 1000000000 /\ Hid (∃ (f : Nat) (T : List UInt8), beN f (m / 256) ++ T.reverse = fewB n /\ T.length + f = 9 /\ m < 256 ^ (f + 1) /\ wr.ownsRow w.heap.size 5 1 tv T.length (T.map cellB) /\ Below w.heap.size w wr)) (fun iv _ _ => (intOf iv).toNat)
 case atStart => exact ⟨n, rfl, hn, 8, [UInt8.ofNat (n % 256)], by rw [List.reverse_singleton]; exact fewB_start n, rfl, by omega, HI.out.1, HI.out.2⟩
 case round =>
  obtain ⟨m, rfl, hm, H⟩ := hrel
  clear HI
  obtain ⟨f, T, hT, hTl, hmf, hown, hbel⟩ := H.out
  by_cases hlt : 255 < m
  ·have hlti : (255 : Int) < (m : Int) := by omega
   obtain ⟨f, rfl⟩ : ∃ f', f = f' + 1 := by
    cases f with
    | zero => simp at hmf; omega
    | succ f => exact ⟨f, rfl⟩
   have HM : Hid (beN f (m / 256 / 256) ++ (T ++ [UInt8.ofNat (m / 256 % 256)]).reverse = fewB n /\ (T ++ [UInt8.ofNat (m / 256 % 256)]).length + f = 9 /\ m / 256 < 256 ^ (f + 1)) := ⟨fewB_step hT hlt, by simp; omega, by rw [Nat.pow_succ] at hmf; omega⟩
   have HT : Hid (T.length <= 9) := by show T.length <= 9; omega
   have HB : Hid (Below w.heap.size w wr) := hbel
   obtain ⟨q, hq⟩ : ∃ q : Nat, m / 256 = q := ⟨_, rfl⟩
   have hqi : (m : Int) / 256 = (q : Int) := by omega
   have hqm : q < m := by omega
   have hwq : IntKind.u8.wrap (q : Int) = (q : Int) % 256 := by rw [IntKind.wrap]; simp [IntKind.signed, IntKind.bits]
   rw [hq] at HM
   obtain ⟨tl, htl⟩ := zE (T.length)
   have HTL : Hid (T.length = tl) := htl
   have htl9 : tl <= 9 := by omega
   rw [htl] at hown
   clear H hT hTl hmf hbel hq htl
   go_wp2_with (at_builtin; refine wpList_append_own _ rfl _ _ 103 rfl w.heap.size 5 i5 (.int .u8 0) 1 1 Try.underlying103 hi5 hy0 hy1 hy2 rfl (by decide) _ _ _ rfl (hown.alloc _) ⟨wr.heap.size, 0, none⟩ 1 1 [.int .u8 ((q : Int) % 256)] rfl rfl (one_new _ _ _) ?a1 ?a2 ?a3 ?a4 ?_)
   case a1 =>
    intro u hu
    simp at hu
    subst hu; rfl
   case a2 => unfold maxLen; omega
   case a3 => omega
   case a4 => exact sizeOk HB.out.size _
   intro v' w4 hown' hgrow _
   have HN : Hid (w4.ownsRow w.heap.size 5 1 v' (T ++ [UInt8.ofNat (q % 256)]).length ((T ++ [UInt8.ofNat (q % 256)]).map cellB) /\ Below w.heap.size w w4) := by
    refine ⟨?_, (HB.out.alloc HB.out.size _).grown hgrow (sizeOk HB.out.size _) (fun j hj => (hown.lt j hj).1)⟩
    rw [mapB_snoc8, cellB_of (by omega), List.length_append, HTL.out]
    exact hown'
   clear hown hown' hgrow
   go_wp2
   go_roundw
   case rel => exact ⟨q, by first | rfl | go_num, by omega, f, _, HM.out.1, HM.out.2.1, HM.out.2.2, HN.out.1, HN.out.2⟩
   case measure => simp [intOf]; omega
  ·have hlti : ¬ (255 : Int) < (m : Int) := by omega
   have HE : Hid (T.reverse = fewB n) := by
    show T.reverse = fewB n
    rw [<- hT, show m / 256 = 0 by omega, beN_nil, List.nil_append]
   have hTl9 : T.length <= 1000 := by omega
   clear H hT hTl hmf
   go_wp2_with fail
   refine (reverse_any _ T T.length w.heap.size wr hTl9 hown).mono ?_
   rintro e w2 ⟨rfl, ho2, hb2⟩
   have hcv := conv_own ho2
   have HW : Hid (Below w.heap.size w w2) := hbel.trans hb2
   clear ho2 hb2 hown hbel
   go_wp2_with fail
   go_ret
   exact ⟨by rw [<- HE.out]; rfl, HW.out⟩
theorem fewB_len {n : Nat} (h : n <= 1000000000) : (fewB n).length <= 4 /\ 1 <= (fewB n).length := by
 unfold fewB
 split
 ·simp
 ·next h0 => exact ⟨beN_short h, List.length_pos_iff.2 (beN_head 9 n (by omega) h0).1⟩
theorem numberOf_any (s : ByteArray) (w : World) (hs : s.size <= 7) : Calls Try.prog 130 #[.string s] w fun e w' => e = .returned (.int .i64 ((valB8 s.data.toList : Nat) : Int)) /\ Below w.heap.size w w' := by
 have hcv := fun w => run_bytes_of_string (P := Try.prog) w 9 103 5 s Try.underlying9 Try.underlying103 Try.underlying5
 go_enter Try.func130, Try.ntmps130
 go_wp2_with fail
 generalize hC : grownCap w s.size 0 5 = C
 have HCell : Hid (∀ j (hj : j < s.size), ((w.alloc (.cells (bytesRow s C) 5 ((bytesRow s C).size, (bytesRow s C).size + 1))).drew).cell? ⟨w.heap.size, j, none⟩ = some (.int .u8 ((s[j]'hj).toNat : Int))) := fun j hj => by
  show (w.alloc (.cells (bytesRow s C) 5 ((bytesRow s C).size, (bytesRow s C).size + 1))).cell? ⟨w.heap.size, j, none⟩ = _
  rw [World.cell?_alloc_mark, bytesRow_at s C j hj]; rfl
 clear hC hcv
 go_loopw [9, 3] (fun iv nv wr => ∃ k q : Nat, k <= s.size /\ iv = .int .i64 k /\ nv = .int .i64 (q : Int) /\ q < 72057594037927936 /\ Hid (q = valB8 (s.data.toList.take k)) /\ (w.alloc (.cells (bytesRow s C) 5 ((bytesRow s C).size, (bytesRow s C).size + 1))).drew = wr) (fun iv _ _ => s.size - (intOf iv).toNat)
 case atStart => exact ⟨0, 0, Nat.zero_le _, rfl, rfl, by omega, rfl, rfl⟩
 case round =>
  obtain ⟨k, q, hk, rfl, rfl, hq, HQ, rfl⟩ := hrel
  by_cases hlt : k < s.size
  ·have hlt2 : k < s.data.toList.length := by simpa using hlt
   obtain ⟨b, hbk⟩ := zE (s[k])
   have hbk2 : s.data.toList[k] = b := hbk
   have hbl := b.toNat_lt
   have hck : (w.alloc (.cells (bytesRow s C) 5 ((bytesRow s C).size, (bytesRow s C).size + 1))).cell? ⟨w.heap.size, k, none⟩ = some (.int .u8 (b.toNat : Int)) := by have h := HCell.out k hlt; rw [hbk] at h; exact h
   have hvt := valB8_take hlt2
   rw [hbk2, <- HQ.out] at hvt
   have hv := valB8_lt (k + 1) (s.data.toList.take (k + 1)) (by rw [List.length_take]; omega)
   have hpw : (256 : Nat) ^ (k + 1) <= 256 ^ 7 := Nat.pow_le_pow_right (by decide) (by omega)
   rw [hvt] at hv
   have hq2 : 256 * q + b.toNat < 72057594037927936 := by
    have : (256 : Nat) ^ 7 = 72057594037927936 := by decide
    omega
   have HV : Hid (256 * q + b.toNat = valB8 (s.data.toList.take (k + 1))) := hvt.symm
   have w1 : IntKind.i64.wrap ((q : Int) * 256) = ((q : Int) * 256) := by rw [IntKind.wrap_i64]; omega
   have w2 : IntKind.i64.wrap ((q : Int) * 256 + (b.toNat : Int)) = ((q : Int) * 256 + (b.toNat : Int)) := by rw [IntKind.wrap_i64]; omega
   have w3' : IntKind.i64.wrap (b.toNat : Int) = (b.toNat : Int) := by rw [IntKind.wrap_i64]; omega
   clear hbk hbk2 hvt hv hpw HQ hlt2
   go_wp2_with fail
   go_roundw
   case rel => exact ⟨k + 1, 256 * q + b.toNat, by omega, by go_num, by go_num, hq2, HV.out, by trivial⟩
   case measure => simp [intOf]; omega
  ·have HV : Hid (q = valB8 s.data.toList) := by
    have h := HQ.out
    have e : s.data.toList.length = s.size := rfl
    rw [List.take_of_length_le (by omega)] at h
    exact h
   go_wp2_with fail
   go_ret
   exact ⟨by rw [<- HV.out]; rfl, ((Below.refl _ _).alloc (Nat.le_refl _) _).drew⟩
theorem beN_one {n : Nat} (h0 : n ≠ 0) (h : n < 256) : beN 9 n = [UInt8.ofNat n] := by
 unfold beN
 rw [if_neg h0, show n / 256 = 0 by omega, beN_nil, show n % 256 = n by omega]
 rfl
theorem fewB_lenB {n : Nat} (h : n < 128) : fewB n = lenB n := by
 unfold lenB fewB
 rw [if_pos h]
 split
 ·next h0 => subst h0; rfl
 ·next h0 => exact beN_one h0 (by omega)
theorem lengthText_any (n : Nat) (w : World) (hn : n <= 1000000000) : Calls Try.prog 112 #[.int .i64 (n : Int)] w fun e w' => e = .returned (.string ⟨(lenB n).toArray⟩) /\ Below w.heap.size w w' := by
 have E := fewest_any n w hn
 have hfl := fewB_len hn
 by_cases h : n < 128
 ·rw [fewB_lenB h] at E
  have hi : (n : Int) < 128 := by omega
  obtain ⟨L, hL⟩ : ∃ L : ByteArray, (⟨(lenB n).toArray⟩ : ByteArray) = L := ⟨_, rfl⟩
  rw [hL] at E |-
  clear hL
  go_enter Try.func112, Try.ntmps112
  go_wp2_with fail
  refine E.mono ?_
  rintro e w2 ⟨rfl, hb2⟩
  clear E
  go_wp2_with fail
  go_ret
  exact ⟨rfl, hb2⟩
 ·have hi : ¬ (n : Int) < 128 := by omega
  have hl : lenB n = UInt8.ofNat (128 + (fewB n).length) :: fewB n := by
   unfold lenB fewB
   rw [if_neg h, if_neg (by omega)]
  rw [hl]
  obtain ⟨b, hbe⟩ := zE (UInt8.ofNat (128 + (fewB n).length))
  have hbn : (b.toNat : Int) = 128 + ((fewB n).length : Int) := by rw [<- hbe, UInt8.toNat_ofNat']; omega
  rw [hbe]
  clear hbe hl
  generalize fewB n = T at *
  have hcv : ∀ W : World, _ := fun W => conv_byte (128 + (T.length : Int)) b hbn.symm W
  have hwr : IntKind.u8.wrap (128 + (T.length : Int)) = 128 + (T.length : Int) := by rw [<- hbn, IntKind.wrap]; have := b.toNat_lt; simp [IntKind.signed, IntKind.bits]; omega
  have HC : Hid ((⟨#[b]⟩ : ByteArray) ++ ⟨T.toArray⟩ = ⟨(b :: T).toArray⟩) := by
   show (⟨#[b]⟩ : ByteArray) ++ ⟨T.toArray⟩ = _
   apply ByteArray.ext
   simp
  go_enter Try.func112, Try.ntmps112
  go_wp2_with fail
  refine E.mono ?_
  rintro e w2 ⟨rfl, hb2⟩
  have HB : Hid (Below w.heap.size w w2) := hb2
  clear E hb2
  go_wp2_with fail
  go_ret
  exact ⟨by rw [<- HC.out]; rfl, HB.out.alloc HB.out.size _⟩
theorem implIntIn_step (n : Nat) (t : Int) (s : List UInt8) (ks : List (It n)) (a : Value) (w : World) (hx : KidsAt w (ItAt w n) a ks) (hz : szI (n + 1) (It.mk t s ks) <= 20000000) :
  Calls Try.prog 118 #[.agg #[.int .i64 t, .string ⟨s.toArray⟩, a]] w fun e w' => e = .returned (.tuple #[.int .i64 (((inI (n + 1) (It.mk t s ks)).getD 0 : Nat) : Int), .bool (inI (n + 1) (It.mk t s ks)).isSome]) /\ Below w.heap.size w w' := by
 have hx0 := hx
 obtain ⟨ax, cx, rfl, _⟩ := hx0
 obtain ⟨l, hle⟩ := zE (ks.length)
 rw [hle] at hx |-
 have HX : Hid (ItAt w (n + 1) (.agg #[.int .i64 t, .string ⟨s.toArray⟩, .slice ax l cx]) (It.mk t s ks) /\ szI (n + 1) (It.mk t s ks) <= 20000000) := ⟨⟨_, rfl, hx⟩, hz⟩
 have HN : Hid (inI (n + 1) (It.mk t s ks) = if t = 2 /\ rightI (n + 1) (It.mk t s ks) 0 = true /\ valB8 s <= 1000000000 then some (valB8 s) else none) := rfl
 obtain ⟨W2, hW2⟩ : ∃ W, W = w.alloc (Obj.cells #[Value.int IntKind.i64 t, Value.string { data := s.toArray }, Value.slice ax l cx] 67) := ⟨_, rfl⟩
 have HW := one_laid w (.int .i64 t) (.string ⟨s.toArray⟩) (.slice ax l cx) 67 W2 hW2
 have HC : Hid (Below w.heap.size w W2 /\ w.heap.size < W2.heap.size /\ Cells3 W2 w.heap.size 0 (.int .i64 t) (.string ⟨s.toArray⟩) (.slice ax l cx)) := ⟨HW.1, HW.2.1, HW.2.2⟩
 clear hx hz HW hle
 by_cases h2 : t = 2
 ·subst h2
  have E := implItemOk_any (n + 1) (It.mk 2 s ks) _ W2 (ItAt.below HC.out.1 HX.out.1) HX.out.2
  cases hr : rightI (n + 1) (It.mk 2 s ks) 0 with
  | false =>
   rw [hr] at E
   have HR : Hid (inI (n + 1) (It.mk 2 s ks) = none) := by
    show inI (n + 1) (It.mk 2 s ks) = none
    rw [HN.out, hr]
    simp
   clear hr
   go_enter Try.func118, Try.ntmps118
   go_wp2_with fail
   rw [<- hW2]
   refine E.mono ?_
   rintro e w3 ⟨rfl, hb3⟩
   have H3 : Hid (Below w.heap.size w w3) := HC.out.1.trans (hb3.mono HC.out.1.size)
   clear E hb3 hW2
   go_wp2_with fail
   go_ret2
   exact ⟨by rw [HR.out]; rfl, H3.out⟩
  | true =>
   rw [hr] at E
   have hpl : plainOk 2 s = true := by
    have h : rightI (n + 1) (It.mk 2 s ks) 0 = (if (2 : Int) ≠ 48 then decide (ks.length = 0) && plainOk 2 s else _) := rfl
    rw [hr, if_pos (by decide)] at h
    have := h.symm
    rw [Bool.and_eq_true] at this
    exact this.2
   have hl5 : s.length <= 5 := by
    unfold plainOk at hpl
    rw [if_neg (by decide), if_pos rfl] at hpl
    simp only [Bool.and_eq_true, decide_eq_true_eq] at hpl
    exact hpl.1.1.2
   have HR : Hid (inI (n + 1) (It.mk 2 s ks) = if valB8 s <= 1000000000 then some (valB8 s) else none) := by
    show inI (n + 1) (It.mk 2 s ks) = _
    rw [HN.out, hr]
    simp
   clear hr hpl
   have hssz : (⟨s.toArray⟩ : ByteArray).size = s.length := by show s.toArray.size = _; simp
   go_enter Try.func118, Try.ntmps118
   go_wp2_with fail
   rw [<- hW2]
   refine E.mono ?_
   rintro e w3 ⟨rfl, hb3⟩
   obtain ⟨c0, c1, c2⟩ := HC.out.2.2.below HC.out.2.1 hb3
   have H3 : Hid (Below w.heap.size w w3) := HC.out.1.trans (hb3.mono HC.out.1.size)
   have EN : Calls Try.prog 130 #[.string ⟨s.toArray⟩] w3 fun e w' => e = .returned (.int .i64 ((valB8 s : Nat) : Int)) /\ Below w3.heap.size w3 w' := numberOf_any ⟨s.toArray⟩ w3 (by rw [hssz]; omega)
   obtain ⟨q, hq⟩ := zE (valB8 s)
   rw [hq] at EN HR
   clear E hb3 hW2 c0 c2 hq
   rw [show (0 : Nat) + 1 = 1 from rfl] at c1
   go_wp2_with fail
   refine EN.mono ?_
   rintro e w4 ⟨rfl, hb4⟩
   have H4 : Hid (Below w.heap.size w w4) := H3.out.trans (hb4.mono H3.out.size)
   clear EN hb4 c1
   by_cases hle : q <= 1000000000
   ·have hlei : ¬ (1000000000 : Int) < (q : Int) := by omega
    have HR2 : Hid (inI (n + 1) (It.mk 2 s ks) = some q) := by
     show inI (n + 1) (It.mk 2 s ks) = some q
     rw [HR.out, if_pos hle]
    go_wp2_with fail
    go_ret2
    exact ⟨by rw [HR2.out]; rfl, H4.out⟩
   ·have hlei : (1000000000 : Int) < (q : Int) := by omega
    have HR2 : Hid (inI (n + 1) (It.mk 2 s ks) = none) := by
     show inI (n + 1) (It.mk 2 s ks) = none
     rw [HR.out, if_neg hle]
    go_wp2_with fail
    go_ret2
    exact ⟨by rw [HR2.out]; rfl, H4.out⟩
 ·have h2b : (t != 2) = true := by simpa using h2
  have HR : Hid (inI (n + 1) (It.mk t s ks) = none) := by
   show inI (n + 1) (It.mk t s ks) = none
   rw [HN.out, if_neg (fun h => h2 h.1)]
  go_enter Try.func118, Try.ntmps118
  go_wp2_with fail
  go_ret2
  exact ⟨by rw [HR.out]; rfl, (one_laid w (.int .i64 t) (.string ⟨s.toArray⟩) (.slice ax l cx) 67 _ rfl).1⟩
theorem implIntIn_any : ∀ (n : Nat) (x : It n) (v : Value) (w : World), ItAt w n v x -> szI n x <= 20000000 -> Calls Try.prog 118 #[v] w fun e w' => e = .returned (.tuple #[.int .i64 (((inI n x).getD 0 : Nat) : Int), .bool (inI n x).isSome]) /\ Below w.heap.size w w'
 | 0, _, _, _, h, _ => h.elim
 | n + 1, x, v, w, hx, hz => by
  obtain ⟨kx, rfl, hkx⟩ := hx
  exact implIntIn_step n (It.tag x) (It.text x) (It.kids x) kx w hkx hz
def misfit : Ending := .panicked [{ v := .iface 109 (.agg #[]), recovered := false }]
theorem mustFit_yes (w : World) : Calls Try.prog 91 #[.bool true] w fun e w' => e = .returned (.tuple #[]) /\ w = w' := by
 go_enter Try.func91, Try.ntmps91
 go_wp2_with fail
 first | go_end0 | skip
 exact ⟨rfl, rfl⟩
theorem mustFit_no (w : World) : Calls Try.prog 91 #[.bool false] w fun e w' => e = misfit /\ w = w' := by
 go_enter Try.func91, Try.ntmps91
 go_wp2_with fail
 exact ⟨rfl, rfl, rfl⟩
def KcAt (w : World) : (n : Nat) -> Value -> List (It n) -> Prop
 | 0, v, _ => ∃ ao cap, v = .slice ao 0 cap
 | n + 1, v, ks => ∃ ao cap, v = .slice ao ks.length cap /\ ks.length <= cap /\ (0 < ks.length -> ∃ g o, ao = some ⟨g, o, none⟩ /\ g < w.heap.size /\ ∀ j (hj : j < ks.length), ∃ k, w.cell? ⟨g, o + j * 3, none⟩ = some (.int .i64 (It.tag ks[j])) /\ w.cell? ⟨g, o + j * 3 + 1, none⟩ = some (.string ⟨(It.text ks[j]).toArray⟩) /\ w.cell? ⟨g, o + j * 3 + 2, none⟩ = some k /\ KcAt w n k (It.kids ks[j]))
theorem KcAt.of {w : World} {base : Nat} : ∀ {n : Nat} {v : Value} {ks : List (It n)} {fp : List Nat}, OwnK w base n v ks fp -> KcAt w n v ks
 | 0, _, _, _, ⟨h, _⟩ => h
 | n + 1, v, ks, fp, ⟨ao, cap, hv, h0, h⟩ => by
   by_cases hp : 0 < ks.length
   ·obtain ⟨g, o, c, f, fps, hao, hg, hr, hoc, hfp, hnd, hl, hk⟩ := h hp
    refine ⟨ao, cap, hv, hoc.2, fun _ => ⟨g, o, hao, hr.lt, fun j hj => ?_⟩⟩
    obtain ⟨h1, h2, h3⟩ := hk j hj (by omega)
    exact ⟨f (o + j * 3 + 2), by rw [hr.cell (by omega), h1], by rw [hr.cell (by omega), h2], hr.cell (by omega), KcAt.of h3⟩
   ·exact ⟨ao, cap, hv, by omega, fun q => absurd q hp⟩
theorem KcAt.at {w : World} : ∀ {n : Nat} {v : Value} {ks : List (It n)}, KcAt w n v ks -> KidsAt w (ItAt w n) v ks
 | 0, v, ks, ⟨ao, cap, hv⟩ => by
   have hk : ks = [] := by
    cases ks with
    | nil => rfl
    | cons x _ => exact (x : Empty).elim
   subst hk
   exact ⟨ao, cap, hv, fun h => absurd h (Nat.lt_irrefl _)⟩
 | n + 1, v, ks, ⟨ao, cap, hv, _, h⟩ => ⟨ao, cap, hv, fun hp => by
   obtain ⟨g, o, hao, hg, hk⟩ := h hp
   refine ⟨g, o, hao, hg, fun j hj => ?_⟩
   obtain ⟨k, c0, c1, c2, h3⟩ := hk j hj
   exact ⟨_, _, _, c0, c1, c2, k, rfl, KcAt.at h3⟩⟩
theorem KcAt.below {w w' : World} (hb : Below w.heap.size w w') : ∀ {n : Nat} {v : Value} {ks : List (It n)}, KcAt w n v ks -> KcAt w' n v ks
 | 0, _, _, h => h
 | n + 1, v, ks, ⟨ao, cap, hv, hc, h⟩ => ⟨ao, cap, hv, hc, fun hp => by
   obtain ⟨g, o, hao, hg, hk⟩ := h hp
   refine ⟨g, o, hao, Nat.lt_of_lt_of_le hg hb.size, fun j hj => ?_⟩
   obtain ⟨k, c0, c1, c2, h3⟩ := hk j hj
   exact ⟨k, (hb.cell (p := ⟨g, o + j * 3, none⟩) hg).trans c0, (hb.cell (p := ⟨g, o + j * 3 + 1, none⟩) hg).trans c1, (hb.cell (p := ⟨g, o + j * 3 + 2, none⟩) hg).trans c2, KcAt.below hb h3⟩⟩
theorem KcAt.shape {w : World} {n : Nat} {v : Value} {ks : List (It n)} (h : KcAt w n v ks) : ∃ ao cap, v = .slice ao ks.length cap := by
 obtain ⟨ao, cap, h, _⟩ := h.at
 exact ⟨ao, cap, h⟩
def NextPost (w0 W : World) (g n : Nat) (o : Option (It (n + 1) × List (It (n + 1)))) (e : Ending) (W' : World) : Prop := Out [g] W W' /\
 ((o = none /\ e = misfit) ∨ ∃ (y : It (n + 1)) (r : List (It (n + 1))) (v' k : Value), o = some (y, r) /\ e = .returned (.agg #[.int .i64 (It.tag y), .string ⟨(It.text y).toArray⟩, k]) /\ KcAt w0 n k (It.kids y) /\ KcAt w0 (n + 1) v' r /\ Blk W' g 134 #[v'])
theorem Out.alloc {fp : List Nat} {a b : World} (h : Out fp a b) (o : Obj) : Out fp a (b.alloc o) := h.trans (Out.of_below ((Below.refl _ _).alloc (Nat.le_refl _) _))
theorem next_any (w0 W : World) (g n : Nat) (v : Value) (ks : List (It (n + 1))) (tag : Int) (hw : Below w0.heap.size w0 W) (hk : KcAt w0 (n + 1) v ks) (hr : Blk W g 134 #[v]) (hg : w0.heap.size <= g) (hl : ks.length <= 1000000) :
  Calls Try.prog 117 #[.pointer (some ⟨g, 0, none⟩), .int .i64 tag] W fun e W' => NextPost w0 W g n (nextP tag ks) e W' := by
 cases ks with
 | nil =>
  obtain ⟨ao, cap, rfl, _, _⟩ := hk
  have HR : Hid (Blk W g 134 #[.slice ao 0 cap]) := hr
  have cr : W.cell? ⟨g, 0, none⟩ = some (.slice ao 0 cap) := hr.cell 0
  have cr2 : ∀ o, (W.alloc o).cell? ⟨g, 0, none⟩ = some (.slice ao 0 cap) := fun o => (hr.alloc o).cell 0
  clear hr
  go_enter Try.func117, Try.ntmps117
  go_wp2_with fail
  refine (mustFit_no _).mono ?_
  rintro e w2 ⟨rfl, rfl⟩
  unfold misfit
  go_wp2_with fail
  exact ⟨rfl, (Out.refl _ _).alloc _, .inl ⟨rfl, rfl⟩⟩
 | cons y r =>
  obtain ⟨ao, cap, rfl, hcap, hc⟩ := hk
  obtain ⟨g1, o1, rfl, hg1, hcells⟩ := hc (by simp)
  obtain ⟨k0, d0, d1, d2, hkids⟩ := hcells 0 (by simp)
  change w0.cell? ⟨g1, o1 + 0 * 3, none⟩ = some (.int .i64 (It.tag y)) at d0
  change w0.cell? ⟨g1, o1 + 0 * 3 + 1, none⟩ = some (.string ⟨(It.text y).toArray⟩) at d1
  change KcAt w0 n k0 (It.kids y) at hkids
  rw [Nat.zero_mul, Nat.add_zero] at d0 d1 d2
  obtain ⟨ak, ck, hk0⟩ := hkids.shape
  obtain ⟨lk, hlk⟩ := zE ((It.kids y).length)
  rw [hlk] at hk0
  subst hk0
  obtain ⟨t, ht⟩ := zE (It.tag y)
  obtain ⟨s, hs⟩ : ∃ s : ByteArray, (⟨(It.text y).toArray⟩ : ByteArray) = s := ⟨_, rfl⟩
  obtain ⟨l, hle⟩ := zE (r.length)
  rw [ht] at d0
  rw [hs] at d1
  have hll : (y :: r).length = l + 1 := by rw [List.length_cons, hle]
  rw [hll] at hr hl hcap
  have HK : Hid (It.tag y = t /\ (⟨(It.text y).toArray⟩ : ByteArray) = s /\ KcAt w0 n (.slice ak lk ck) (It.kids y) /\ (∀ cap', l <= cap' -> KcAt w0 (n + 1) (.slice (some ⟨g1, o1 + 3, none⟩) l cap') r) /\ (l = 0 -> ∀ ao, KcAt w0 (n + 1) (.slice ao l 0) r)) := by
   refine ⟨ht, hs, hkids, fun cap' hc' => ⟨some ⟨g1, o1 + 3, none⟩, cap', by rw [hle], by omega, fun _ => ⟨g1, o1 + 3, rfl, hg1, fun j hj => ?_⟩⟩, fun h0 ao => ⟨ao, 0, by rw [hle], by omega, fun q => by omega⟩⟩
   obtain ⟨a3, b1, b2, b3, b4⟩ := hcells (j + 1) (by simp; omega)
   refine ⟨a3, ?_, ?_, ?_, b4⟩
   ·rw [show o1 + 3 + j * 3 = o1 + (j + 1) * 3 by omega]; exact b1
   ·rw [show o1 + 3 + j * 3 = o1 + (j + 1) * 3 by omega]; exact b2
   ·rw [show o1 + 3 + j * 3 = o1 + (j + 1) * 3 by omega]; exact b3
  have hne : g1 ≠ g := by omega
  have hgW : g1 < W.heap.size := Nat.lt_of_lt_of_le hg1 hw.size
  have HC : Hid (W.cell? ⟨g1, o1, none⟩ = some (.int .i64 t) /\ W.cell? ⟨g1, o1 + 1, none⟩ = some (.string s) /\ W.cell? ⟨g1, o1 + 2, none⟩ = some (.slice ak lk ck)) := ⟨(hw.cell (p := ⟨g1, o1, none⟩) hg1).trans d0, (hw.cell (p := ⟨g1, o1 + 1, none⟩) hg1).trans d1, (hw.cell (p := ⟨g1, o1 + 2, none⟩) hg1).trans d2⟩
  have HR : Hid (Blk W g 134 #[.slice (some ⟨g1, o1, none⟩) (l + 1) cap]) := hr
  have c0 : ∀ o, (W.alloc o).cell? ⟨g1, o1, none⟩ = some (.int .i64 t) := fun o => (World.cell?_of_block (heap_alloc_old W o hgW)).trans HC.out.1
  have cr : ∀ o, (W.alloc o).cell? ⟨g, 0, none⟩ = some (.slice (some ⟨g1, o1, none⟩) (l + 1) cap) := fun o => (hr.alloc o).cell 0
  have hpos : (0 : Int) < (l : Int) + 1 := by omega
  have hne2 : Hid (g1 ≠ g /\ g1 < W.heap.size) := ⟨hne, hgW⟩
  have HCap : Hid (l + 1 <= cap) := hcap
  clear hc hcells d0 d1 d2 hkids hlk ht hs hle hll hr hne hgW hg1 hcap
  obtain ⟨cap1, hcap1⟩ : ∃ c, cap = c + 1 := ⟨cap - 1, by have := HCap.out; omega⟩
  subst hcap1
  by_cases hb : t = tag
  ·have HN : Hid (nextP tag (y :: r) = some (y, r)) := by show (if It.tag y = tag then some (y, r) else none) = _; rw [if_pos (HK.out.1.trans hb)]
   subst hb
   go_enter Try.func117, Try.ntmps117
   go_wp2_with fail
   refine (mustFit_yes _).mono ?_
   rintro e w2 ⟨rfl, rfl⟩
   obtain ⟨W1, hW1⟩ : ∃ W1, W1 = W.alloc (Obj.cells #[Value.int IntKind.i64 0, Value.string ⟨#[]⟩, Value.slice none 0 0] 67) := ⟨_, rfl⟩
   rw [<- hW1]
   have hs1 : W1.heap.size = W.heap.size + 1 := by rw [hW1]; exact size_alloc _ _
   have hb1 : Below W.heap.size W W1 := by rw [hW1]; exact (Below.refl _ _).alloc (Nat.le_refl _) _
   have hres : Blk W1 W.heap.size 67 #[Value.int IntKind.i64 0, Value.string ⟨#[]⟩, Value.slice none 0 0] := by rw [hW1]; exact Blk.new _ _ _
   have hgl := HR.out.lt
   have H1 : Hid (W1.heap.size = W.heap.size + 1 /\ Below W.heap.size W W1 /\ Blk W1 W.heap.size 67 #[Value.int IntKind.i64 0, Value.string ⟨#[]⟩, Value.slice none 0 0] /\ Blk W1 g 134 #[.slice (some ⟨g1, o1, none⟩) (l + 1) (cap1 + 1)]) := ⟨hs1, hb1, hres, HR.out.below hb1 hgl⟩
   have e0 : W1.cell? ⟨g1, o1, none⟩ = some (.int .i64 t) := (hb1.cell (p := ⟨g1, o1, none⟩) hne2.out.2).trans HC.out.1
   have e1 : W1.cell? ⟨g1, o1 + 1, none⟩ = some (.string s) := (hb1.cell (p := ⟨g1, o1 + 1, none⟩) hne2.out.2).trans HC.out.2.1
   have e2 : W1.cell? ⟨g1, o1 + 2, none⟩ = some (.slice ak lk ck) := (hb1.cell (p := ⟨g1, o1 + 2, none⟩) hne2.out.2).trans HC.out.2.2
   have er : W1.cell? ⟨g, 0, none⟩ = some (.slice (some ⟨g1, o1, none⟩) (l + 1) (cap1 + 1)) := H1.out.2.2.2.cell 0
   have er2 : ∀ o, (W1.alloc o).cell? ⟨g, 0, none⟩ = some (.slice (some ⟨g1, o1, none⟩) (l + 1) (cap1 + 1)) := fun o => (H1.out.2.2.2.alloc o).cell 0
   have ez : ∀ o, (W1.alloc o).frozen? ⟨g, 0, none⟩ = false := fun o => (H1.out.2.2.2.alloc o).free 0
   have n1 : ¬ W1.heap.size = g := by omega
   have n2 : ¬ g = W1.heap.size := by omega
   have n3 : ¬ W.heap.size = g := by omega
   have n4 : ¬ g = W.heap.size := by omega
   have rr : ∀ (o : Obj) (v : Value), Blk ((W1.alloc o).setCell ⟨g, 0, none⟩ v) W.heap.size 67 #[Value.int IntKind.i64 0, Value.string ⟨#[]⟩, Value.slice none 0 0] := fun o v => (H1.out.2.2.1.alloc o).other _ n3
   have r0 : ∀ (o : Obj) (v : Value), ((W1.alloc o).setCell ⟨g, 0, none⟩ v).cell? ⟨W.heap.size, 0, none⟩ = some (.int .i64 0) := fun o v => (rr o v).cell 0
   have r1 : ∀ (o : Obj) (v : Value), ((W1.alloc o).setCell ⟨g, 0, none⟩ v).cell? ⟨W.heap.size, 1, none⟩ = some (.string ⟨#[]⟩) := fun o v => (rr o v).cell 1
   have r2 : ∀ (o : Obj) (v : Value), ((W1.alloc o).setCell ⟨g, 0, none⟩ v).cell? ⟨W.heap.size, 2, none⟩ = some (.slice none 0 0) := fun o v => (rr o v).cell 2
   have rz : ∀ (o : Obj) (v : Value) (j : Nat), ((W1.alloc o).setCell ⟨g, 0, none⟩ v).frozen? ⟨W.heap.size, j, none⟩ = false := fun o v j => (rr o v).free j
   have HEND : Hid (∀ v : Value, let W9 := ((((W1.alloc (Obj.cells #[.int .i64 t, .string s, .slice ak lk ck] 67)).setCell ⟨g, 0, none⟩ v).setCell ⟨W.heap.size, 0, none⟩ (.int .i64 t)).setCell ⟨W.heap.size, 1, none⟩ (.string s)).setCell ⟨W.heap.size, 2, none⟩ (.slice ak lk ck); Out [g] W W9 /\ Blk W9 g 134 #[v]) := by
    intro v
    have q1 := ((H1.out.2.2.2.alloc (Obj.cells #[.int .i64 t, .string s, .slice ak lk ck] 67)).set 0 v)
    refine ⟨?_, ((q1.other _ n4).other _ n4).other _ n4⟩
    have a1 : Out [g] W (W1.alloc (Obj.cells #[.int .i64 t, .string s, .slice ak lk ck] 67)) := (Out.of_below H1.out.2.1).alloc _
    have a2 := a1.setCell ⟨g, 0, none⟩ v (by simp)
    have b0 := ((Below.refl W.heap.size ((W1.alloc (Obj.cells #[.int .i64 t, .string s, .slice ak lk ck] 67)).setCell ⟨g, 0, none⟩ v)).setCell (p := ⟨W.heap.size, 0, none⟩) (Nat.le_refl _) (.int .i64 t)).setCell (p := ⟨W.heap.size, 1, none⟩) (Nat.le_refl _) (.string s)
    have b1 := b0.setCell (p := ⟨W.heap.size, 2, none⟩) (Nat.le_refl _) (.slice ak lk ck)
    exact ⟨b1.os.trans a2.1, b1.tape.trans a2.2.1, b1.output.trans a2.2.2.1, Nat.le_trans a2.2.2.2.1 b1.size, fun b hb hn => (b1.block b hb).trans (a2.2.2.2.2 b hb hn)⟩
   clear hW1 hs1 hb1 hres c0 cr hgl rr
   have hl1 : (1 : Int) <= (l : Int) + 1 := by omega
   go_wp2_with fail
   all_goals (
    refine bodyPost_ret (v := .agg #[.int .i64 t, .string s, .slice ak lk ck]) (by simp [results, Try.results117, go_sem, r0, r1, r2]; try rfl) rfl ?_
    refine ⟨(HEND.out _).1, .inr ⟨y, r, _, .slice ak lk ck, HN.out, by rw [HK.out.1, HK.out.2.1], HK.out.2.2.1, ?_, (HEND.out _).2⟩⟩
    first | exact HK.out.2.2.2.1 _ (by have := HCap.out; omega) | exact HK.out.2.2.2.2 (by have := HCap.out; omega) _)
  ·have HN : Hid (nextP tag (y :: r) = none) := by show (if It.tag y = tag then some (y, r) else none) = _; rw [if_neg (fun q => hb (HK.out.1.symm.trans q))]
   have hbq : (t == tag) = false := beq_eq_false_iff_ne.2 hb
   clear hb
   go_enter Try.func117, Try.ntmps117
   go_wp2_with fail
   refine (mustFit_no _).mono ?_
   rintro e w2 ⟨rfl, rfl⟩
   unfold misfit
   go_wp2_with fail
   exact ⟨rfl, (Out.refl _ _).alloc _, .inl ⟨HN.out, rfl⟩⟩
end Go.Proofs.Ytbiiihjohbnodaa
namespace Go.Proofs.Ytbiiihjohbnodaa
open Go.RowKit
set_option linter.unusedVariables false
theorem wpList_append_texts2 {w : World} {ops : Array Oper} {rest : List Oper} {o : Oper} {a : Act} {Q : Exit -> Act -> World -> Prop} (hgd : o.guard = none) (s x : Operand) (t : TypeId)
  (ho : o.op = .call { callee := .builtin .append, args := #[s, x], argTypes := #[t, t] }) (base : Nat) (i0 : TypeInfo) (ht : Try.prog.underlying t = some (.slice 9)) (hi : Try.prog.info? 9 = some i0) (hz0 : i0.zero = some (.string ByteArray.empty)) (hz1 : i0.size = 1) (hz2 : i0.bytes = 16)
  (v : Value) (n : Nat) (xs : List Value) (hs : a.eval s = v) (hown : w.ownsRow base 9 1 v n xs) (u : Value) (lu : List ByteArray) (bu : Nat) (hu : OwnT w bu u lu) (hx : a.eval x = u) (hlen : n + lu.length <= 100000000) (hbase : base <= w.heap.size)
  (h : ∀ v' w', w'.ownsRow base 9 1 v' (n + lu.length) (xs ++ cellsT lu) -> w.grownBy w' v.ownBlock -> wpList Try.prog ops Q rest (a.put o.dst v') w') : wpList Try.prog ops Q (o :: rest) a w := by
 rcases hu.2 with ⟨rfl, h0⟩ | ⟨g, cap, cur, rfl, hbg, hg, hn, hm, hsz, htk⟩
 ·have hl : lu = [] := List.eq_nil_of_length_eq_zero h0
  subst hl
  refine wpList_append_own_none hgd s x t ho base 9 i0 1 ht hi v n xs hs hown hx (h v w (by simpa [cellsT] using hown) (World.grownBy.refl _ _))
 ·refine wpList_append_own w hgd s x t ho base 9 i0 (.string ByteArray.empty) 1 16 ht hi hz0 hz1 hz2 rfl (by decide) v n xs hs hown ⟨g, 0, none⟩ lu.length cap (cellsT lu) hx (by simp [cellsT]) (fun j q hq => ?_) (fun q hq => ?_) (by unfold maxLen; omega) (by omega) hbase (fun v' w' h1 h2 _ => h v' w' h1 h2)
  ·have hj : j < lu.length := by
    refine Nat.lt_of_not_le fun h => ?_
    rw [List.getElem?_eq_none (by rw [cellsT_len]; exact h)] at hq
    cases hq
   rw [Addr.add_lit, Nat.zero_add, hu.cell hj, <- hq, cellsT_getD hj]
  ·obtain ⟨y, _, rfl⟩ := List.mem_map.1 hq
   rfl
end Go.Proofs.Ytbiiihjohbnodaa
