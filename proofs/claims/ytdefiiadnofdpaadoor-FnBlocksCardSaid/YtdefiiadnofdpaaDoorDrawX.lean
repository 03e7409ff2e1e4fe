/-
  What the laws of chapter 3 draw: a text; and a text with one byte turned.
-/
import Derived.Test.YtdefiiadnofdpaaDoorDrawS
import Derived.Laws.BitsAllLaws
import Derived.Laws.IdiomStrings
namespace Go.Proofs.YtdefiiadnofdpaaDoor
open Go.RowKit

set_option maxHeartbeats 800000 in
set_option maxRecDepth 100000 in
theorem l03Some_any (B : Nat) (w : World) (c : Nat) (a0 : Option Addr) (len cap : Nat) (hC : Cur B w c a0 len cap) : Calls Tryd.prog 24 #[.pointer (some ⟨c, 0, none⟩)] w fun e w' =>
    ∃ s : ByteArray, e = .returned (.string s) ∧ s.size ≤ 5000 ∧ w.grownBy w' (some c) := by
  have HC : Hid (Cur B w c a0 len cap) := hC
  have hcl := hC.lt
  clear hC
  go_enter Tryd.func24, Tryd.ntmps24
  go_wp2_with fail
  have hlit : OwnI (w.alloc (Obj.cells #[Value.int IntKind.i64 0, Value.int IntKind.i64 1, Value.int IntKind.i64 3, Value.int IntKind.i64 9, Value.int IntKind.i64 54, Value.int IntKind.i64 55, Value.int IntKind.i64 56, Value.int IntKind.i64 63, Value.int IntKind.i64 64, Value.int IntKind.i64 65, Value.int IntKind.i64 119, Value.int IntKind.i64 120, Value.int IntKind.i64 200] 3)) w.heap.size (.slice (some ⟨w.heap.size, 0, none⟩) 13 13) [0, 1, 3, 9, 54, 55, 56, 63, 64, 65, 119, 120, 200] :=
    World.ownsRow_lit w #[Value.int .i64 0, Value.int .i64 1, Value.int .i64 3, Value.int .i64 9, Value.int .i64 54, Value.int .i64 55, Value.int .i64 56, Value.int .i64 63, Value.int .i64 64, Value.int .i64 65, Value.int .i64 119, Value.int .i64 120, Value.int .i64 200] 13 (Nat.le_refl _) (by unfold maxLen; omega) rfl
  have ha := (Below.refl w.heap.size w).alloc (Nat.le_refl _) (Obj.cells #[Value.int IntKind.i64 0, Value.int IntKind.i64 1, Value.int IntKind.i64 3, Value.int IntKind.i64 9, Value.int IntKind.i64 54, Value.int IntKind.i64 55, Value.int IntKind.i64 56, Value.int IntKind.i64 63, Value.int IntKind.i64 64, Value.int IntKind.i64 65, Value.int IntKind.i64 119, Value.int IntKind.i64 120, Value.int IntKind.i64 200] 3)
  refine (l01PickInt_any w.heap.size 13 13 B _ c a0 len cap (by omega) (by omega) (by omega) (fun j hj => ⟨_, hlit.cell (j := j) hj, by match j, hj with
    | 0, _ => decide
    | 1, _ => decide
    | 2, _ => decide
    | 3, _ => decide
    | 4, _ => decide
    | 5, _ => decide
    | 6, _ => decide
    | 7, _ => decide
    | 8, _ => decide
    | 9, _ => decide
    | 10, _ => decide
    | 11, _ => decide
    | 12, _ => decide⟩) (HC.out.kept ha)).mono ?_
  rintro e w2 ⟨x, hx0, hx1, rfl, hC2, hg2⟩
  have H2 : Hid (Cur B w2 c a0 len cap ∧ w.grownBy w2 (some c)) := ⟨hC2, grownBy_trans (grownBy_below' ha) hg2⟩
  clear hC2 hg2 hlit ha HC hcl
  go_wp2_with fail
  refine (l01Text_any x B w2 c a0 len cap H2.out.1).mono ?_
  rintro e w3 ⟨s, rfl, hs, hC3, hg3⟩
  have H3 : Hid (s.size ≤ 5000 ∧ w.grownBy w3 (some c)) := ⟨hs, grownBy_trans H2.out.2 hg3⟩
  clear hs hC3 hg3 H2
  go_wp2_with fail
  go_ret
  exact ⟨_, rfl, H3.out⟩

set_option maxHeartbeats 800000 in
theorem drawTextOf_any (B : Nat) (w : World) (a0 : Option Addr) (len cap : Nat) (hl : len ≤ 1048576) (hB : B ≤ w.heap.size) (hcode : CodeAt B w a0 len) : Calls Tryd.prog 7 #[.slice a0 len cap] w fun e w' =>
    ∃ s : ByteArray, e = .returned (.string s) ∧ s.size ≤ 5000 ∧ Below w.heap.size w w' := by
  have E := l01New_any B w a0 len cap hl hB hcode
  clear hcode
  go_enter Tryd.func7, Tryd.ntmps7
  go_wp2_with fail
  refine E.mono ?_
  rintro e w1 ⟨c, rfl, hC1, hb1, hc⟩
  have H1 : Hid (Cur B w1 c a0 len cap ∧ Below w.heap.size w w1) := ⟨hC1, hb1⟩
  clear hC1 hb1 E
  go_wp2_with fail
  refine (l03Some_any B w1 c a0 len cap H1.out.1).mono ?_
  rintro e w2 ⟨s, rfl, hs, hg2⟩
  have H2 : Hid (s.size ≤ 5000 ∧ Below w.heap.size w w2) := ⟨hs, H1.out.2.grown hg2 H1.out.2.size (fun k hk => by cases hk; exact hc)⟩
  clear hs hg2 H1
  go_wp2_with fail
  go_ret
  exact ⟨_, rfl, H2.out⟩
theorem size_listX (s : ByteArray) : s.data.toList.length = s.size := by simp
/-- The bytes with one turned, as a text again. -/
theorem conv_set (s : ByteArray) (w5 : World) (b C i : Nat) (c : UInt8) (hi : i < s.data.toList.length)
    (hc : ∀ j (hj : j < s.data.toList.length), w5.cell? ⟨b, j, none⟩ = some (.int .u8 (s.data.toList[j].toNat : Int))) :
    (convert 22 9 (.slice (some ⟨b, 0, none⟩) s.size C)).run Tryd.prog (w5.setCell ⟨b, i, none⟩ (.int .u8 (c.toNat : Int))).drew = .ok (.string ⟨(s.data.toList.set i c).toArray⟩) (w5.setCell ⟨b, i, none⟩ (.int .u8 (c.toNat : Int))).drew := by
  have hn : (s.data.toList.set i c).length = s.size := by rw [List.length_set, size_listX]
  have k := run_convert_bytes_back (P := Tryd.prog) (w5.setCell ⟨b, i, none⟩ (.int .u8 (c.toNat : Int))).drew 22 9 5 ⟨b, 0, none⟩ C (s.data.toList.set i c) Tryd.underlying22 Tryd.underlying5 Tryd.underlying9 (fun j hj => by
    have ea : (⟨b, 0, none⟩ : Addr).add j = ⟨b, j, none⟩ := by unfold Addr.add; split <;> simp_all
    rw [ea]
    show (w5.setCell ⟨b, i, none⟩ (.int .u8 (c.toNat : Int))).cell? ⟨b, j, none⟩ = _
    have hj2 : j < s.data.toList.length := by rwa [List.length_set] at hj
    by_cases e : i = j
    · subst e
      rw [World.cell?_setCell_same (h := hc i hi), List.getElem_set_self]
    · rw [World.cell?_setCell_other (h := fun h => e (Addr.mk.inj h).2.1), hc j hj2, List.getElem_set_ne e])
  rw [hn] at k
  exact k

set_option maxHeartbeats 1600000 in
set_option maxRecDepth 100000 in
theorem lturned_any (s : ByteArray) (g cp : Nat) (x y : Int) (w4 : World) (hs0 : 0 < s.size) (hs : s.size ≤ 6000) (hg4 : g < w4.heap.size) (hx : w4.cell? ⟨g, 0, none⟩ = some (.int .i64 x)) (hy : w4.cell? ⟨g, 1, none⟩ = some (.int .i64 y)) (hx0 : 0 ≤ x ∧ x < 10000) (hy0 : 0 ≤ y ∧ y < 10000) :
    Calls Tryd.prog 18 #[.string s, .slice (some ⟨g, 0, none⟩) 12 cp] w4 fun e w' => ∃ u : ByteArray, e = .returned (.string u) ∧ u.size = s.size ∧ u ≠ s ∧ Below w4.heap.size w4 w' := by
  obtain ⟨i, hi⟩ : ∃ i : Nat, x % (s.size : Int) = (i : Int) := ⟨(x % (s.size : Int)).toNat, by rw [Int.toNat_of_nonneg (Int.emod_nonneg _ (by omega))]⟩
  have hil : i < s.size := by have := Int.emod_lt_of_pos x (show (0 : Int) < (s.size : Int) by omega); omega
  have htm : x.tmod (s.size : Int) = (i : Int) := by rw [Int.tmod_eq_emod_of_nonneg hx0.1, hi]
  have hz0 : ((s.size : Int) == 0) = false := beq_eq_false_iff_ne.2 (by omega)
  have hcv := fun w => run_bytes_of_string (P := Tryd.prog) w 9 22 5 s Tryd.underlying9 Tryd.underlying22 Tryd.underlying5
  go_enter Tryd.func18, Tryd.ntmps18
  go_wp2
  clear hcv hx htm hz0
  generalize hC : grownCap w4 s.size 0 5 = C
  have HC5 : Hid (∀ j (hj : j < s.data.toList.length), ((w4.alloc (.cells (bytesRow s C) 5 ((bytesRow s C).size, (bytesRow s C).size + 1))).drew).cell? ⟨w4.heap.size, j, none⟩ = some (.int .u8 (s.data.toList[j].toNat : Int))) := fun j hj => by
    show (w4.alloc (.cells (bytesRow s C) 5 ((bytesRow s C).size, (bytesRow s C).size + 1))).cell? ⟨w4.heap.size, j, none⟩ = _
    rw [World.cell?_alloc_mark, bytesRow_at s C j (by simpa using hj)]
    simp
  have hf5 : ((w4.alloc (.cells (bytesRow s C) 5 ((bytesRow s C).size, (bytesRow s C).size + 1))).drew).frozen? ⟨w4.heap.size, i, none⟩ = false := by
    show (w4.alloc (.cells (bytesRow s C) 5 ((bytesRow s C).size, (bytesRow s C).size + 1))).frozen? ⟨w4.heap.size, i, none⟩ = false
    rw [World.frozen?_alloc_mark]
    have hz : i < (bytesRow s C).size := by
      have h1 : s.data.size = s.size := rfl
      simp [bytesRow, h1]; omega
    simp; omega
  have hy5 : ((w4.alloc (.cells (bytesRow s C) 5 ((bytesRow s C).size, (bytesRow s C).size + 1))).drew).cell? ⟨g, 1, none⟩ = some (.int .i64 y) :=
    (((Below.refl w4.heap.size w4).alloc (Nat.le_refl _) (.cells (bytesRow s C) 5 ((bytesRow s C).size, (bytesRow s C).size + 1))).drew.cell (p := ⟨g, 1, none⟩) hg4).trans hy
  have HB5 : Hid (Below w4.heap.size w4 (w4.alloc (.cells (bytesRow s C) 5 ((bytesRow s C).size, (bytesRow s C).size + 1))).drew) := ((Below.refl _ _).alloc (Nat.le_refl _) _).drew
  generalize (w4.alloc (.cells (bytesRow s C) 5 ((bytesRow s C).size, (bytesRow s C).size + 1))).drew = w5 at *
  clear hC hy
  obtain ⟨b, hbb⟩ : ∃ b, w4.heap.size = b := ⟨_, rfl⟩
  have HBB : Hid (w4.heap.size = b) := hbb
  rw [hbb] at hg4 HC5 hf5
  rw [hbb]
  clear hbb
  have hi2 : i < s.data.toList.length := by rw [size_listX]; exact hil
  have hci := HC5.out i hi2
  obtain ⟨t, ht⟩ : ∃ t : UInt8, s.data.toList[i] = t := ⟨_, rfl⟩
  rw [ht] at hci
  have HTi : Hid (s.data.toList[i] = t) := ht
  clear ht
  have htl := t.toNat_lt
  obtain ⟨m, hm⟩ := Int.eq_ofNat_of_zero_le (show (0 : Int) ≤ y % 255 by omega)
  have hm2 : m ≤ 254 := by omega
  obtain ⟨c, hc⟩ : ∃ c : UInt8, c.toNat = t.toNat ^^^ (1 + m) := ⟨UInt8.ofNat (t.toNat ^^^ (1 + m)), by rw [UInt8.toNat_ofNat', Nat.mod_eq_of_lt (Nat.xor_lt_two_pow (n := 8) htl (by omega))]⟩
  have hxor : bits .xor .u8 (t.toNat : Int) (1 + (m : Int)) = (c.toNat : Int) := by
    rw [hc]; exact u8_xor_nat t.toNat (1 + m) htl (by omega)
  have HNe : Hid (t ≠ c) := fun e => by
    rw [← e] at hc
    have h1 : t.toNat ^^^ t.toNat = t.toNat ^^^ (t.toNat ^^^ (1 + m)) := congrArg (t.toNat ^^^ ·) hc
    rw [Nat.xor_self, ← Nat.xor_assoc, Nat.xor_self, Nat.zero_xor] at h1
    omega
  clear hc
  have hw1 : y.tmod 255 = (m : Int) := by rw [Int.tmod_eq_emod_of_nonneg hy0.1, hm]
  have hw2 : IntKind.i64.wrap (1 + (m : Int)) = 1 + (m : Int) := IntWalk.i64_in _ (by omega)
  have hw3 : IntKind.u8.wrap (1 + (m : Int)) = 1 + (m : Int) := IntWalk.u8_in _ (by omega)
  have hil' : (i : Int) < (s.size : Int) := by omega
  have hi0' : (0 : Int) ≤ (i : Int) := by omega
  have hbg : g ≠ b := by omega
  have hcv := conv_set s w5 b C i c hi2 HC5.out
  have HB6 : Hid (Below w4.heap.size w4 (w5.setCell ⟨b, i, none⟩ (.int .u8 (c.toNat : Int))).drew) := (HB5.out.setCell (p := ⟨b, i, none⟩) (show w4.heap.size ≤ b from Nat.le_of_eq HBB.out) _).drew
  have HFin : Hid ((⟨(s.data.toList.set i c).toArray⟩ : ByteArray).size = s.size ∧ (⟨(s.data.toList.set i c).toArray⟩ : ByteArray) ≠ s) := by
    refine ⟨?_, fun e => HNe.out ?_⟩
    · show (s.data.toList.set i c).toArray.size = s.size
      rw [List.size_toArray, List.length_set, size_listX]
    · have h2 : s.data.toList.set i c = s.data.toList := congrArg (fun x : ByteArray => x.data.toList) e
      have h3 : (s.data.toList.set i c)[i]'(by rw [List.length_set]; exact hi2) = s.data.toList[i] := by
        simp only [h2]
      rw [List.getElem_set_self] at h3
      exact HTi.out.symm.trans h3.symm
  clear HC5 HB5 HTi HNe
  go_region
  go_wp2_with fail
  go_ret
  exact ⟨_, rfl, HFin.out.1, HFin.out.2, HB6.out⟩
end Go.Proofs.YtdefiiadnofdpaaDoor
