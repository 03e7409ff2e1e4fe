/-
  Texts of the proof.
-/
import Derived.Laws.OwnMore
import Derived.Deep.RegionHeld3
import Derived.Deep.LoopGhost
import Derived.Test.YtbiiihjohbnodaaMRT10
import Derived.Test.YtbiiihjohbnodaaMRT11
set_option maxRecDepth 100000
set_option maxHeartbeats 25600000
namespace Go.Proofs.Ytbiiihjohbnodaa
open Go.RowKit
theorem mapB_set (l : List UInt8) (k : Nat) (x : UInt8) : (l.map cellB).set k (cellB x) = (l.set k x).map cellB := by simp
structure Rv (l : List UInt8) (i : Nat) (L : List UInt8) : Prop where
 len : L.length = l.length
 at' : ∀ q, q < l.length -> L[q]? = if q < i ∨ l.length < q + 1 + i then l[l.length - 1 - q]? else l[q]?
theorem Rv.start (l : List UInt8) : Rv l 0 l := ⟨rfl, fun q hq => by rw [if_neg (by omega)]⟩
theorem Rv.step {l : List UInt8} {i : Nat} {L : List UInt8} (h : Rv l i L) (hi : i + i + 1 < l.length) {x y : UInt8} (hx : L[i]? = some x) (hy : L[l.length - 1 - i]? = some y) :
  Rv l (i + 1) ((L.set i y).set (l.length - 1 - i) x) := by
 have hl := h.len
 have hx2 := h.at' i (by omega)
 have hy2 := h.at' (l.length - 1 - i) (by omega)
 rw [if_neg (by omega), hx] at hx2
 rw [if_neg (by omega), hy] at hy2
 refine ⟨by simp [hl], fun q hq => ?_⟩
 rw [List.getElem?_set, List.getElem?_set, List.length_set]
 by_cases h1 : l.length - 1 - i = q
 ·rw [if_pos h1, if_pos (by omega), if_pos (.inr (by omega)), hx2]
  congr 1
  omega
 ·rw [if_neg h1]
  by_cases h2 : i = q
  ·rw [if_pos h2, if_pos (by omega), if_pos (.inl (by omega)), hy2]
   congr 1
   omega
  ·rw [if_neg h2, h.at' q hq]
   by_cases h3 : q < i ∨ l.length < q + 1 + i
   ·rw [if_pos h3, if_pos (by omega)]
   ·rw [if_neg h3, if_neg (by omega)]
theorem Rv.done {l : List UInt8} {i : Nat} {L : List UInt8} (h : Rv l i L) (hi : l.length <= i + i + 1) : L = l.reverse := by
 have hl := h.len
 apply List.ext_getElem? fun q => ?_
 by_cases hq : q < l.length
 ·rw [h.at' q hq, List.getElem?_reverse hq]
  split
  ·rfl
  ·congr 1
   omega
 ·rw [List.getElem?_eq_none (by omega), List.getElem?_eq_none (by simp; omega)]
theorem reverse_any (v : Value) (l : List UInt8) (n base : Nat) (w : World) (hn : n <= 1000) (hv : w.ownsRow base 5 1 v n (l.map cellB)) :
  Calls Try.prog 127 #[v] w fun e w' => e = .returned (.tuple #[]) /\ w'.ownsRow base 5 1 v n (l.reverse.map cellB) /\ Below base w w' := by
 have hln : l.length = n := by have := hv.1; simpa using this
 obtain ⟨ao, cap, rfl, hao⟩ : ∃ ao cap, v = .slice ao n cap /\ (0 < n -> ∃ g, ao = some ⟨g, 0, none⟩) := by
  rcases hv.2 with ⟨h1, h0⟩ | ⟨g, cap, cur, hv, _⟩
  ·exact ⟨none, 0, by rw [h1, h0], fun h => by omega⟩
  ·exact ⟨some ⟨g, 0, none⟩, cap, hv, fun _ => ⟨g, rfl⟩⟩
 have HO : Hid (0 < n -> ∃ g, ao = some ⟨g, 0, none⟩) := hao
 have HV : Hid (w.ownsRow base 5 1 (.slice ao n cap) n (l.map cellB) /\ l.length = n) := ⟨hv, hln⟩
 clear hao hv hln
 go_enter Try.func127, Try.ntmps127
 go_wp2
 go_loopw [2, 3] (fun iv jv wr => ∃ (i : Nat) (z : Int) (L : List UInt8), iv = .int .i64 i /\ jv = .int .i64 z /\ i <= n /\ Hid (z = (n : Int) - 1 - (i : Int) /\ Rv l i L /\ wr.ownsRow base 5 1 (.slice ao n cap) n (L.map cellB) /\ Below base w wr)) (fun iv _ _ => n - (intOf iv).toNat)
 case atStart => exact ⟨0, (n : Int) - 1, l, rfl, rfl, Nat.zero_le _, by simp, Rv.start l, HV.out.1, Below.refl _ _⟩
 case round =>
  obtain ⟨i, z, L, rfl, rfl, hi, H⟩ := hrel
  have hz := H.out.1
  by_cases hlt : (i : Int) < z
  ·obtain ⟨m, rfl⟩ : ∃ m : Nat, z = (m : Int) := ⟨z.toNat, by omega⟩
   have hmn : m < n := by omega
   have hin : i < n := by omega
   have him : i < m := by omega
   obtain ⟨g, hao⟩ := HO.out (by omega)
   subst hao
   have hLl : L.length = n := by rw [H.out.2.1.len]; exact HV.out.2
   obtain ⟨x, hx⟩ : ∃ x, L[i]? = some x := ⟨_, List.getElem?_eq_getElem (by omega)⟩
   obtain ⟨y, hy⟩ : ∃ y, L[m]? = some y := ⟨_, List.getElem?_eq_getElem (by omega)⟩
   have hown := H.out.2.2.1
   have hci : wr.cell? ⟨g, i, none⟩ = some (.int .u8 (x.toNat : Int)) := by rw [hown.cellAt i (by omega), List.getElem?_map, hx]; rfl
   have hcm : wr.cell? ⟨g, m, none⟩ = some (.int .u8 (y.toNat : Int)) := by rw [hown.cellAt m (by omega), List.getElem?_map, hy]; rfl
   have hfi := hown.frozenAt i
   have hfm := hown.frozenAt m
   have hgl := (hown.lt g rfl).1
   have hnm : l.length - 1 - i = m := by have := HV.out.2; omega
   have HN : Hid (Rv l (i + 1) ((L.set i y).set m x) /\ ((wr.setCell ⟨g, i, none⟩ (.int .u8 (y.toNat : Int))).setCell ⟨g, m, none⟩ (.int .u8 (x.toNat : Int))).ownsRow base 5 1 (.slice (some ⟨g, 0, none⟩) n cap) n (((L.set i y).set m x).map cellB) /\ Below base w ((wr.setCell ⟨g, i, none⟩ (.int .u8 (y.toNat : Int))).setCell ⟨g, m, none⟩ (.int .u8 (x.toNat : Int)))) := by
    refine ⟨?_, ?_, ?_⟩
    ·have h := H.out.2.1.step (by have := HV.out.2; omega) hx (by rw [hnm]; exact hy)
     rw [hnm] at h
     exact h
    ·have h1 := (hown.stored i (cellB y)).1
     rw [mapB_set] at h1
     have h2 := (h1.stored m (cellB x)).1
     rw [mapB_set] at h2
     exact h2
    ·exact Below.setCell (p := ⟨g, m, none⟩) (Below.setCell (p := ⟨g, i, none⟩) H.out.2.2.2 hgl _) hgl _
   have HZ : Hid ((m : Int) = (n : Int) - 1 - (i : Int)) := hz
   clear hown H hLl hx hy hz hnm
   have hmi : (m : Int) < (n : Int) := by omega
   have hii : (i : Int) < (n : Int) := by omega
   have hi0 : (0 : Int) <= (i : Int) := by omega
   have hm0 : (0 : Int) <= (m : Int) := by omega
   have hne : i ≠ m := by omega
   have hne2 : m ≠ i := by omega
   go_wp2_with fail
   go_region
   go_wp2
   go_roundw
   case rel => exact ⟨i + 1, (m : Int) - 1, _, by go_num, rfl, by omega, by have := HZ.out; omega, HN.out.1, World.ownsRow.drew HN.out.2.1, HN.out.2.2.drew⟩
   case measure => simp [intOf]; omega
  ·have HE : Hid (L = l.reverse) := H.out.2.1.done (by have := HV.out.2; omega)
   go_wp2
   go_end0
   exact ⟨rfl, by have h := H.out.2.2.1; rw [HE.out] at h; simpa using h, H.out.2.2.2⟩
end Go.Proofs.Ytbiiihjohbnodaa
namespace Go.Proofs.Ytbiiihjohbnodaa
open Go.RowKit Der
set_option linter.unusedVariables false
theorem sizeOk {n : Nat} {w : World} (h : n <= w.heap.size) (o : Obj) : n <= (w.alloc o).heap.size := by simp; omega
theorem mapB_snoc8 (l : List UInt8) (b : UInt8) : (l ++ [b]).map cellB = l.map cellB ++ [cellB b] := by simp
def fewB (n : Nat) : List UInt8 := if n = 0 then [0] else beN 9 n
theorem fewB_start (n : Nat) : beN 8 (n / 256) ++ [UInt8.ofNat (n % 256)] = fewB n := by
 unfold fewB
 split
 ·next h => subst h; rfl
 ·next h =>
  rw [show beN 9 n = if n = 0 then [] else beN 8 (n / 256) ++ [UInt8.ofNat (n % 256)] from rfl, if_neg h]
theorem fewB_step {f m : Nat} {T r : List UInt8} (h : beN (f + 1) (m / 256) ++ T.reverse = r) (hm : 255 < m) : beN f (m / 256 / 256) ++ (T ++ [UInt8.ofNat (m / 256 % 256)]).reverse = r := by
 rw [<- h, beN, if_neg (by omega)]
 simp
theorem fewest_any (n : Nat) (w : World) (hn : n <= 1000000000) : Calls Try.prog 114 #[.int .i64 (n : Int)] w fun e w' => e = .returned (.string ⟨(fewB n).toArray⟩) /\ Below w.heap.size w w' := by
 obtain ⟨i5, hi5, hy0, hy1, hy2⟩ := info_parts info5
 have hb0 : IntKind.u8.wrap (n : Int) = ((n % 256 : Nat) : Int) := by rw [IntKind.wrap]; simp [IntKind.signed, IntKind.bits]
 go_enter Try.func114, Try.ntmps114
 go_wp2_with fail
 have HI : Hid ((w.alloc (Obj.cells #[Value.int IntKind.u8 ((n : Int) % 256)] 5)).ownsRow w.heap.size 5 1 (.slice (some ⟨w.heap.size, 0, none⟩) 1 1) 1 ([UInt8.ofNat (n % 256)].map cellB) /\ Below w.heap.size w (w.alloc (Obj.cells #[Value.int IntKind.u8 ((n : Int) % 256)] 5))) := by
  refine ⟨?_, (Below.refl _ _).alloc (Nat.le_refl _) _⟩
  have e : [UInt8.ofNat (n % 256)].map cellB = [Value.int IntKind.u8 ((n : Int) % 256)] := by
   rw [List.map_singleton, cellB_of (by omega)]
   rfl
  rw [e]
  exact World.ownsRow_lit w #[Value.int IntKind.u8 ((n : Int) % 256)] 1 (Nat.le_refl _) (by unfold maxLen; omega) rfl
 go_loopw [0, 3] (fun iv tv wr => ∃ (m : Nat), iv = .int .i64 (m : Int) /\ m <= 1000000000 /\ Hid (∃ (f : Nat) (T : List UInt8), beN f (m / 256) ++ T.reverse = fewB n /\ T.length + f = 9 /\ m < 256 ^ (f + 1) /\ wr.ownsRow w.heap.size 5 1 tv T.length (T.map cellB) /\ Below w.heap.size w wr)) (fun iv _ _ => (intOf iv).toNat)
 case atStart => exact ⟨n, rfl, hn, 8, [UInt8.ofNat (n % 256)], by rw [List.reverse_singleton]; exact fewB_start n, rfl, by omega, HI.out.1, HI.out.2⟩
 case round =>
  obtain ⟨m, rfl, hm, H⟩ := hrel
  clear HI
  obtain ⟨f, T, hT, hTl, hmf, hown, hbel⟩ := H.out
  by_cases hlt : 255 < m
  ·have hlti : (255 : Int) < (m : Int) := by omega
   obtain ⟨f, rfl⟩ : ∃ f', f = f' + 1 := by
    cases f with
    | zero => simp at hmf; omega
    | succ f => exact ⟨f, rfl⟩
   have HM : Hid (beN f (m / 256 / 256) ++ (T ++ [UInt8.ofNat (m / 256 % 256)]).reverse = fewB n /\ (T ++ [UInt8.ofNat (m / 256 % 256)]).length + f = 9 /\ m / 256 < 256 ^ (f + 1)) := ⟨fewB_step hT hlt, by simp; omega, by rw [Nat.pow_succ] at hmf; omega⟩
   have HT : Hid (T.length <= 9) := by show T.length <= 9; omega
   have HB : Hid (Below w.heap.size w wr) := hbel
   obtain ⟨q, hq⟩ : ∃ q : Nat, m / 256 = q := ⟨_, rfl⟩
   have hqi : (m : Int) / 256 = (q : Int) := by omega
   have hqm : q < m := by omega
   have hwq : IntKind.u8.wrap (q : Int) = (q : Int) % 256 := by rw [IntKind.wrap]; simp [IntKind.signed, IntKind.bits]
   rw [hq] at HM
   obtain ⟨tl, htl⟩ := zE (T.length)
   have HTL : Hid (T.length = tl) := htl
   have htl9 : tl <= 9 := by omega
   rw [htl] at hown
   clear H hT hTl hmf hbel hq htl
   go_wp2_with (at_builtin; refine wpList_append_own _ rfl _ _ 103 rfl w.heap.size 5 i5 (.int .u8 0) 1 1 Try.underlying103 hi5 hy0 hy1 hy2 rfl (by decide) _ _ _ rfl (hown.alloc _) ⟨wr.heap.size, 0, none⟩ 1 1 [.int .u8 ((q : Int) % 256)] rfl rfl (one_new _ _ _) ?a1 ?a2 ?a3 ?a4 ?_)
   case a1 =>
    intro u hu
    simp at hu
    subst hu; rfl
   case a2 => unfold maxLen; omega
   case a3 => omega
   case a4 => exact sizeOk HB.out.size _
   intro v' w4 hown' hgrow _
   have HN : Hid (w4.ownsRow w.heap.size 5 1 v' (T ++ [UInt8.ofNat (q % 256)]).length ((T ++ [UInt8.ofNat (q % 256)]).map cellB) /\ Below w.heap.size w w4) := by
    refine ⟨?_, (HB.out.alloc HB.out.size _).grown hgrow (sizeOk HB.out.size _) (fun j hj => (hown.lt j hj).1)⟩
    rw [mapB_snoc8, cellB_of (by omega), List.length_append, HTL.out]
    exact hown'
   clear hown hown' hgrow
   go_wp2
   go_roundw
   case rel => exact ⟨q, by first | rfl | go_num, by omega, f, _, HM.out.1, HM.out.2.1, HM.out.2.2, HN.out.1, HN.out.2⟩
   case measure => simp [intOf]; omega
  ·have hlti : ¬ (255 : Int) < (m : Int) := by omega
   have HE : Hid (T.reverse = fewB n) := by
    show T.reverse = fewB n
    rw [<- hT, show m / 256 = 0 by omega, beN_nil, List.nil_append]
   have hTl9 : T.length <= 1000 := by omega
   clear H hT hTl hmf
   go_wp2_with fail
   refine (reverse_any _ T T.length w.heap.size wr hTl9 hown).mono ?_
   rintro e w2 ⟨rfl, ho2, hb2⟩
   have hcv := conv_own ho2
   have HW : Hid (Below w.heap.size w w2) := hbel.trans hb2
   clear ho2 hb2 hown hbel
   go_wp2_with fail
   go_ret
   exact ⟨by rw [<- HE.out]; rfl, HW.out⟩
theorem fewB_len {n : Nat} (h : n <= 1000000000) : (fewB n).length <= 4 /\ 1 <= (fewB n).length := by
 unfold fewB
 split
 ·simp
 ·next h0 => exact ⟨beN_short h, List.length_pos_iff.2 (beN_head 9 n (by omega) h0).1⟩
theorem beN_one {n : Nat} (h0 : n ≠ 0) (h : n < 256) : beN 9 n = [UInt8.ofNat n] := by
 unfold beN
 rw [if_neg h0, show n / 256 = 0 by omega, beN_nil, show n % 256 = n by omega]
 rfl
theorem fewB_lenB {n : Nat} (h : n < 128) : fewB n = lenB n := by
 unfold lenB fewB
 rw [if_pos h]
 split
 ·next h0 => subst h0; rfl
 ·next h0 => exact beN_one h0 (by omega)
theorem lengthText_any (n : Nat) (w : World) (hn : n <= 1000000000) : Calls Try.prog 112 #[.int .i64 (n : Int)] w fun e w' => e = .returned (.string ⟨(lenB n).toArray⟩) /\ Below w.heap.size w w' := by
 have E := fewest_any n w hn
 have hfl := fewB_len hn
 by_cases h : n < 128
 ·rw [fewB_lenB h] at E
  have hi : (n : Int) < 128 := by omega
  obtain ⟨L, hL⟩ : ∃ L : ByteArray, (⟨(lenB n).toArray⟩ : ByteArray) = L := ⟨_, rfl⟩
  rw [hL] at E |-
  clear hL
  go_enter Try.func112, Try.ntmps112
  go_wp2_with fail
  refine E.mono ?_
  rintro e w2 ⟨rfl, hb2⟩
  clear E
  go_wp2_with fail
  go_ret
  exact ⟨rfl, hb2⟩
 ·have hi : ¬ (n : Int) < 128 := by omega
  have hl : lenB n = UInt8.ofNat (128 + (fewB n).length) :: fewB n := by
   unfold lenB fewB
   rw [if_neg h, if_neg (by omega)]
  rw [hl]
  obtain ⟨b, hbe⟩ := zE (UInt8.ofNat (128 + (fewB n).length))
  have hbn : (b.toNat : Int) = 128 + ((fewB n).length : Int) := by rw [<- hbe, UInt8.toNat_ofNat']; omega
  rw [hbe]
  clear hbe hl
  generalize fewB n = T at *
  have hcv : ∀ W : World, _ := fun W => conv_byte (128 + (T.length : Int)) b hbn.symm W
  have hwr : IntKind.u8.wrap (128 + (T.length : Int)) = 128 + (T.length : Int) := by rw [<- hbn, IntKind.wrap]; have := b.toNat_lt; simp [IntKind.signed, IntKind.bits]; omega
  have HC : Hid ((⟨#[b]⟩ : ByteArray) ++ ⟨T.toArray⟩ = ⟨(b :: T).toArray⟩) := by
   show (⟨#[b]⟩ : ByteArray) ++ ⟨T.toArray⟩ = _
   apply ByteArray.ext
   simp
  go_enter Try.func112, Try.ntmps112
  go_wp2_with fail
  refine E.mono ?_
  rintro e w2 ⟨rfl, hb2⟩
  have HB : Hid (Below w.heap.size w w2) := hb2
  clear E hb2
  go_wp2_with fail
  go_ret
  exact ⟨by rw [<- HC.out]; rfl, HB.out.alloc HB.out.size _⟩
theorem intT_few (n : Nat) (h : n <= 1000000000) : intT n = if 128 <= (fewB n).getD 0 0 then 0 :: fewB n else fewB n := by
 by_cases h0 : n = 0
 ·subst h0; decide
 ·have hb := (beN_head 9 n (by omega) h0).1
  unfold intT fewB
  rw [if_neg h0]
  by_cases hc : 128 <= (beN 9 n).getD 0 0
  ·rw [if_pos (.inr hc), if_pos hc]
  ·rw [if_neg (by rintro (h1 | h1); exact hb h1; exact hc h1), if_neg hc]
theorem implIntItem_any (n0 : Int) (w : World) (h64 : -9223372036854775808 <= n0 /\ n0 <= 9223372036854775807) : Calls Try.prog 86 #[.int .i64 n0] w fun e w' => e = .returned (.agg #[.int .i64 2, .string ⟨(intT (numN n0)).toArray⟩, .slice none 0 0]) /\ Below w.heap.size w w' := by
 obtain ⟨n, hn⟩ := zE (numN n0)
 have hnl : n <= 1000000000 := by rw [<- hn]; exact numN_le n0
 obtain ⟨b, r, hfb⟩ : ∃ b r, fewB n = b :: r := by
  have := (fewB_len hnl).2
  cases h : fewB n with
  | nil => rw [h] at this; simp at this
  | cons b r => exact ⟨b, r, rfl⟩
 have hfl := (fewB_len hnl).1
 obtain ⟨W2, hW2⟩ : ∃ W, W = w.alloc (Obj.cells #[Value.int IntKind.i64 0, Value.string { data := #[] }, Value.slice none 0 0] 67) := ⟨_, rfl⟩
 have E := fewest_any n W2 hnl
 have HT := intT_few n hnl
 rw [hfb] at E HT hfl
 rw [hn]
 have HTT : Hid (intT n = if 128 <= b then 0 :: b :: r else b :: r) := HT
 have HR : ∀ W, Below W2.heap.size W2 W -> _ := fun W hb => res_cells hW2 hb
 have hg0 : ∀ h, (⟨(b :: r).toArray⟩ : ByteArray)[0]'h = b := fun h => rfl
 have hrl : (r.length : Int) + 1 <= 4 := by simp at hfl; omega
 clear HT hfb hfl
 by_cases hin : 0 <= n0 /\ n0 <= 1000000000
 ·have hnn : n0 = (n : Int) := by rw [<- hn]; unfold numN; rw [if_pos hin]; omega
  subst hnn
  have h1 : ¬ (n : Int) < 0 := by omega
  have h2 : ¬ (1000000000 : Int) < (n : Int) := by omega
  clear hn hin
  by_cases hb : 128 <= b.toNat
  ·have hbi : (127 : Int) < (b.toNat : Int) := by omega
   have HF : Hid (intT n = 0 :: b :: r) := by
    show intT n = _
    rw [HTT.out, if_pos (by rw [UInt8.le_iff_toNat_le]; exact hb)]
   have HC : Hid ((⟨#[0]⟩ : ByteArray) ++ ⟨(b :: r).toArray⟩ = ⟨(0 :: b :: r).toArray⟩) := by
    show (⟨#[0]⟩ : ByteArray) ++ ⟨(b :: r).toArray⟩ = _
    apply ByteArray.ext
    simp
   go_enter Try.func86, Try.ntmps86
   go_wp2_with fail
   rw [<- hW2]
   refine E.mono ?_
   rintro e w3 ⟨rfl, hb3⟩
   obtain ⟨⟨c0, c1, c2⟩, fz, hbw⟩ := HR w3 hb3
   have HBW : Hid (Below w.heap.size w w3) := hbw
   clear E hb3 hW2 HR hbw
   go_wp2_with fail
   refine bodyPost_ret (v := .agg #[.int .i64 2, .string (⟨#[0]⟩ ++ ⟨(b :: r).toArray⟩), .slice none 0 0]) (by simp [results, Try.results86, go_sem, c0, c1, c2]; try rfl) rfl ⟨by rw [HF.out, HC.out], ?_⟩
   exact ((HBW.out.setCell (p := ⟨w.heap.size, 0, none⟩) (Nat.le_refl _) _).setCell (p := ⟨w.heap.size, 1, none⟩) (Nat.le_refl _) _).setCell (p := ⟨w.heap.size, 2, none⟩) (Nat.le_refl _) _
  ·have hbi : ¬ (127 : Int) < (b.toNat : Int) := by omega
   have HF : Hid (intT n = b :: r) := by
    show intT n = _
    rw [HTT.out, if_neg (by rw [UInt8.le_iff_toNat_le]; exact hb)]
   go_enter Try.func86, Try.ntmps86
   go_wp2_with fail
   rw [<- hW2]
   refine E.mono ?_
   rintro e w3 ⟨rfl, hb3⟩
   obtain ⟨⟨c0, c1, c2⟩, fz, hbw⟩ := HR w3 hb3
   have HBW : Hid (Below w.heap.size w w3) := hbw
   clear E hb3 hW2 HR hbw
   go_wp2_with fail
   refine bodyPost_ret (v := .agg #[.int .i64 2, .string ⟨(b :: r).toArray⟩, .slice none 0 0]) (by simp [results, Try.results86, go_sem, c0, c1, c2]; try rfl) rfl ⟨by rw [HF.out], ?_⟩
   exact ((HBW.out.setCell (p := ⟨w.heap.size, 0, none⟩) (Nat.le_refl _) _).setCell (p := ⟨w.heap.size, 1, none⟩) (Nat.le_refl _) _).setCell (p := ⟨w.heap.size, 2, none⟩) (Nat.le_refl _) _
 ·have hnn : n = 0 := by rw [<- hn]; unfold numN; rw [if_neg hin]
  subst hnn
  clear hn
  by_cases h1 : n0 < 0
  ·by_cases hb : 128 <= b.toNat
   ·have hbi : (127 : Int) < (b.toNat : Int) := by omega
    have HF : Hid (intT 0 = 0 :: b :: r) := by
     show intT 0 = _
     rw [HTT.out, if_pos (by rw [UInt8.le_iff_toNat_le]; exact hb)]
    have HC : Hid ((⟨#[0]⟩ : ByteArray) ++ ⟨(b :: r).toArray⟩ = ⟨(0 :: b :: r).toArray⟩) := by
     show (⟨#[0]⟩ : ByteArray) ++ ⟨(b :: r).toArray⟩ = _
     apply ByteArray.ext
     simp
    go_enter Try.func86, Try.ntmps86
    go_wp2_with fail
    rw [<- hW2]
    refine E.mono ?_
    rintro e w3 ⟨rfl, hb3⟩
    obtain ⟨⟨c0, c1, c2⟩, fz, hbw⟩ := HR w3 hb3
    have HBW : Hid (Below w.heap.size w w3) := hbw
    clear E hb3 hW2 HR hbw
    go_wp2_with fail
    refine bodyPost_ret (v := .agg #[.int .i64 2, .string (⟨#[0]⟩ ++ ⟨(b :: r).toArray⟩), .slice none 0 0]) (by simp [results, Try.results86, go_sem, c0, c1, c2]; try rfl) rfl ⟨by rw [HF.out, HC.out], ?_⟩
    exact ((HBW.out.setCell (p := ⟨w.heap.size, 0, none⟩) (Nat.le_refl _) _).setCell (p := ⟨w.heap.size, 1, none⟩) (Nat.le_refl _) _).setCell (p := ⟨w.heap.size, 2, none⟩) (Nat.le_refl _) _
   ·have hbi : ¬ (127 : Int) < (b.toNat : Int) := by omega
    have HF : Hid (intT 0 = b :: r) := by
     show intT 0 = _
     rw [HTT.out, if_neg (by rw [UInt8.le_iff_toNat_le]; exact hb)]
    go_enter Try.func86, Try.ntmps86
    go_wp2_with fail
    rw [<- hW2]
    refine E.mono ?_
    rintro e w3 ⟨rfl, hb3⟩
    obtain ⟨⟨c0, c1, c2⟩, fz, hbw⟩ := HR w3 hb3
    have HBW : Hid (Below w.heap.size w w3) := hbw
    clear E hb3 hW2 HR hbw
    go_wp2_with fail
    refine bodyPost_ret (v := .agg #[.int .i64 2, .string ⟨(b :: r).toArray⟩, .slice none 0 0]) (by simp [results, Try.results86, go_sem, c0, c1, c2]; try rfl) rfl ⟨by rw [HF.out], ?_⟩
    exact ((HBW.out.setCell (p := ⟨w.heap.size, 0, none⟩) (Nat.le_refl _) _).setCell (p := ⟨w.heap.size, 1, none⟩) (Nat.le_refl _) _).setCell (p := ⟨w.heap.size, 2, none⟩) (Nat.le_refl _) _
  ·have h2 : (1000000000 : Int) < n0 := by omega
   by_cases hb : 128 <= b.toNat
   ·have hbi : (127 : Int) < (b.toNat : Int) := by omega
    have HF : Hid (intT 0 = 0 :: b :: r) := by
     show intT 0 = _
     rw [HTT.out, if_pos (by rw [UInt8.le_iff_toNat_le]; exact hb)]
    have HC : Hid ((⟨#[0]⟩ : ByteArray) ++ ⟨(b :: r).toArray⟩ = ⟨(0 :: b :: r).toArray⟩) := by
     show (⟨#[0]⟩ : ByteArray) ++ ⟨(b :: r).toArray⟩ = _
     apply ByteArray.ext
     simp
    go_enter Try.func86, Try.ntmps86
    go_wp2_with fail
    rw [<- hW2]
    refine E.mono ?_
    rintro e w3 ⟨rfl, hb3⟩
    obtain ⟨⟨c0, c1, c2⟩, fz, hbw⟩ := HR w3 hb3
    have HBW : Hid (Below w.heap.size w w3) := hbw
    clear E hb3 hW2 HR hbw
    go_wp2_with fail
    refine bodyPost_ret (v := .agg #[.int .i64 2, .string (⟨#[0]⟩ ++ ⟨(b :: r).toArray⟩), .slice none 0 0]) (by simp [results, Try.results86, go_sem, c0, c1, c2]; try rfl) rfl ⟨by rw [HF.out, HC.out], ?_⟩
    exact ((HBW.out.setCell (p := ⟨w.heap.size, 0, none⟩) (Nat.le_refl _) _).setCell (p := ⟨w.heap.size, 1, none⟩) (Nat.le_refl _) _).setCell (p := ⟨w.heap.size, 2, none⟩) (Nat.le_refl _) _
   ·have hbi : ¬ (127 : Int) < (b.toNat : Int) := by omega
    have HF : Hid (intT 0 = b :: r) := by
     show intT 0 = _
     rw [HTT.out, if_neg (by rw [UInt8.le_iff_toNat_le]; exact hb)]
    go_enter Try.func86, Try.ntmps86
    go_wp2_with fail
    rw [<- hW2]
    refine E.mono ?_
    rintro e w3 ⟨rfl, hb3⟩
    obtain ⟨⟨c0, c1, c2⟩, fz, hbw⟩ := HR w3 hb3
    have HBW : Hid (Below w.heap.size w w3) := hbw
    clear E hb3 hW2 HR hbw
    go_wp2_with fail
    refine bodyPost_ret (v := .agg #[.int .i64 2, .string ⟨(b :: r).toArray⟩, .slice none 0 0]) (by simp [results, Try.results86, go_sem, c0, c1, c2]; try rfl) rfl ⟨by rw [HF.out], ?_⟩
    exact ((HBW.out.setCell (p := ⟨w.heap.size, 0, none⟩) (Nat.le_refl _) _).setCell (p := ⟨w.heap.size, 1, none⟩) (Nat.le_refl _) _).setCell (p := ⟨w.heap.size, 2, none⟩) (Nat.le_refl _) _
theorem bytesItem_any (s : ByteArray) (w : World) (hs : s.size <= 20000000) : Calls Try.prog 85 #[.string s] w fun e w' => e = .returned (.agg #[.int .i64 4, .string s, .slice none 0 0]) /\ Below w.heap.size w w' := by
 go_enter Try.func85, Try.ntmps85
 go_wp2_with fail
 obtain ⟨W, hW⟩ : ∃ W, W = w.alloc (Obj.cells #[Value.int IntKind.i64 0, Value.string ⟨#[]⟩, Value.slice none 0 0] 67) := ⟨_, rfl⟩
 rw [<- hW]
 have H3 : Hid (Below w.heap.size w W /\ Blk3 W w.heap.size (.int .i64 0) (.string ⟨#[]⟩) (.slice none 0 0)) := by rw [hW]; exact ⟨(Below.refl _ _).alloc (Nat.le_refl _) _, heap_alloc_new w _⟩
 clear hW
 refine (cloneB_any s W (by omega)).mono ?_
 rintro e w2 ⟨rfl, hb2⟩
 have H4 : Hid (Below w.heap.size w w2 /\ Blk3 w2 w.heap.size (.int .i64 0) (.string ⟨#[]⟩) (.slice none 0 0)) := ⟨H3.out.1.trans (hb2.mono H3.out.1.size), H3.out.2.below hb2⟩
 obtain ⟨⟨r0, r1, r2⟩, rf⟩ := cell_in H4.out.2
 clear H3 hb2
 go_wp2_with fail
 refine bodyPost_ret (v := .agg #[.int .i64 4, .string s, .slice none 0 0]) (by simp [results, Try.results85, go_sem, r0, r1, r2]; try rfl) rfl ⟨rfl, ?_⟩
 exact ((H4.out.1.setCell (p := ⟨w.heap.size, 0, none⟩) (Nat.le_refl _) _).setCell (p := ⟨w.heap.size, 1, none⟩) (Nat.le_refl _) _).setCell (p := ⟨w.heap.size, 2, none⟩) (Nat.le_refl _) _
end Go.Proofs.Ytbiiihjohbnodaa
