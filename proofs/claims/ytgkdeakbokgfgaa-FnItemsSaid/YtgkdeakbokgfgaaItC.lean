/-
  The laws' own helpers over items: szItem, szItemS: how great an item is.
-/
import Derived.Test.YtgkdeakbokgfgaaItB
namespace Go.Proofs.Ytgkdeakbokgfgaa
open Go.RowKit Der
set_option linter.unusedVariables false

/-- What any item that came in keeps to. -/
def ItWd : (n : Nat) → It n → Prop
  | 0, _ => False
  | n + 1, x => (-9223372036854775808 ≤ It.tag x ∧ It.tag x ≤ 9223372036854775807) ∧ (It.text x).length ≤ 9223372036854775807 ∧ (It.kids x).length ≤ 9223372036854775807 ∧ ∀ y ∈ It.kids x, ItWd n y
/-- What is left of a number that so much is taken from; -1 when it is too much. -/
def szR (left : Int) (z : Nat) : Int := if (z : Int) ≤ left then left - z else -1
def SzC (n : Nat) : Prop := ∀ (x : It n) (v : Value) (left : Int) (w : World), ItAt w n v x → ItWd n x → 0 ≤ left → left ≤ 10000000 → Calls Try.prog 37 #[v, .int .i64 left] w fun e w' => e = .returned (.int .i64 (szR left (szI n x))) ∧ Below w.heap.size w w'
/-- How great a row of items is. -/
def szS (n : Nat) (ks : List (It n)) : Nat := ks.length + (ks.map (szI n)).sum
theorem take_sum {n : Nat} {ks : List (It n)} {k : Nat} (h : k < ks.length) : ((ks.take (k + 1)).map (szI n)).sum = ((ks.take k).map (szI n)).sum + szI n ks[k] := by
  rw [List.take_add_one, List.map_append, List.sum_append]
  simp [h]
theorem take_sum_le {n : Nat} (ks : List (It n)) (k : Nat) : ((ks.take k).map (szI n)).sum ≤ (ks.map (szI n)).sum := by
  have h := congrArg (fun l => (l.map (szI n)).sum) (List.take_append_drop k ks)
  simp only [List.map_append, List.sum_append] at h
  omega
theorem one_laid (w : World) (a b c : Value) (t : TypeId) : ∀ W, W = w.alloc (Obj.cells #[a, b, c] t) →
    Below w.heap.size w W ∧ w.heap.size < W.heap.size ∧ (W.cell? ⟨w.heap.size, 0, none⟩ = some a ∧ W.cell? ⟨w.heap.size, 1, none⟩ = some b ∧ W.cell? ⟨w.heap.size, 2, none⟩ = some c) := by
  rintro W rfl
  have e : (w.alloc (Obj.cells #[a, b, c] t)).heap.size = w.heap.size + 1 := Array.size_push _
  have h0 := heap_alloc_new w (Obj.cells #[a, b, c] t)
  refine ⟨(Below.refl _ _).alloc (Nat.le_refl _) _, by omega, ?_⟩
  simp only [World.cell?, h0]
  exact ⟨rfl, rfl, rfl⟩
set_option maxHeartbeats 1600000 in
set_option maxRecDepth 100000 in
theorem szS_any (n : Nat) (IH : Hid (SzC n)) (ks : List (It n)) (v : Value) (left : Int) (w : World) (hx : KidsAt w (ItAt w n) v ks) (hl : ks.length ≤ 9223372036854775807) (hw : ∀ y ∈ ks, ItWd n y) (h0 : 0 ≤ left) (h1 : left ≤ 10000000) :
    Calls Try.prog 68 #[v, .int .i64 left] w fun e w' => e = .returned (.int .i64 (szR left (szS n ks))) ∧ Below w.heap.size w w' := by
  have hx0 := hx
  obtain ⟨ax, cx, rfl, _⟩ := hx0
  have HX : Hid (KidsAt w (ItAt w n) (.slice ax ks.length cx) ks ∧ ∀ y ∈ ks, ItWd n y) := ⟨hx, hw⟩
  obtain ⟨l, hle⟩ : ∃ l, ks.length = l := ⟨_, rfl⟩
  have HE : Hid (ks.length = l ∧ szS n ks = l + (ks.map (szI n)).sum) := ⟨hle, by unfold szS; rw [hle]⟩
  rw [hle] at HX hl ⊢
  clear hx hw hle
  have hwr : IntKind.i64.wrap (left - (l : Int)) = left - (l : Int) := by rw [IntKind.wrap_i64]; omega
  by_cases hneg : left - (l : Int) < 0
  · have HR : Hid (szR left (szS n ks) = -1) := by
      show szR left (szS n ks) = -1
      unfold szR
      rw [HE.out.2, if_neg (by omega)]
    go_enter Try.func68, Try.ntmps68
    go_wp2_with fail
    go_ret
    exact ⟨by rw [HR.out]; rfl, Below.refl _ _⟩
  · go_enter Try.func68, Try.ntmps68
    go_wp2_with fail
    go_loopw [1, 5] (fun lv iv wr => ∃ (k : Nat) (q : Int), k ≤ l ∧ lv = .int .i64 q ∧ iv = .int .i64 k ∧ 0 ≤ q ∧ q ≤ 10000000 ∧ Hid (q = left - (l : Int) - (((ks.take k).map (szI n)).sum : Nat) ∧ Below w.heap.size w wr)) (fun _ iv _ => l - (intOf iv).toNat)
    case atStart => exact ⟨0, left - (l : Int), Nat.zero_le _, rfl, rfl, by omega, by omega, by simp, Below.refl _ _⟩
    case round =>
      obtain ⟨k, q, hk, rfl, rfl, hq0, hq1, HB⟩ := hrel
      by_cases hlt : k < l
      · have hlti : (k : Int) < (l : Int) := by omega
        have hk0 : (0 : Int) ≤ (k : Int) := by omega
        have hj1 : k < ks.length := by rw [HE.out.1]; exact hlt
        obtain ⟨g1, o1, t1, s1, k1, hax, hg1, hc1, hi1⟩ := HX.out.1.get hj1
        obtain ⟨c10, c11, c12⟩ := Cells3.below (w' := wr) (t := t1) (s := s1) (k := k1) hc1 hg1 HB.out.2
        have HR := IH.out ks[k] (.agg #[t1, s1, k1]) q wr (ItAt.below HB.out.2 hi1) (HX.out.2 _ (List.getElem_mem hj1)) hq0 hq1
        have hts := take_sum hj1
        have htl := take_sum_le ks (k + 1)
        subst hax
        clear hc1 hi1 hg1
        by_cases hz : ((szI n ks[k] : Nat) : Int) ≤ q
        · have e : szR q (szI n ks[k]) = q - (szI n ks[k] : Nat) := if_pos hz
          rw [e] at HR
          obtain ⟨q2, hq2⟩ : ∃ q2 : Int, q - (szI n ks[k] : Nat) = q2 := ⟨_, rfl⟩
          have HQ : Hid (q2 = left - (l : Int) - (((ks.take (k + 1)).map (szI n)).sum : Nat)) := by
            have := HB.out.1
            show q2 = _
            rw [hts]
            omega
          rw [hq2] at HR
          have hq20 : 0 ≤ q2 := by omega
          have hq2b : q2 ≤ 10000000 := by omega
          have hn0 : ¬ q2 < 0 := by omega
          clear hts htl hz e hq2
          go_wp2_with fail
          refine HR.mono ?_
          rintro e w3 ⟨rfl, hb3⟩
          have H3 : Hid (Below w.heap.size w w3) := HB.out.2.trans (hb3.mono HB.out.2.size)
          clear hb3 HR c10 c11 c12
          go_wp2_with fail
          go_roundw
          case rel => exact ⟨k + 1, q2, by omega, rfl, by go_num, hq20, hq2b, HQ.out, H3.out⟩
          case measure => simp [intOf]; omega
        · have e : szR q (szI n ks[k]) = -1 := if_neg hz
          rw [e] at HR
          have HF : Hid (szR left (szS n ks) = -1) := by
            have := HB.out.1
            show szR left (szS n ks) = -1
            unfold szR
            rw [HE.out.2, if_neg (by omega)]
          clear hts htl hz e
          go_wp2_with fail
          refine HR.mono ?_
          rintro e w3 ⟨rfl, hb3⟩
          have H3 : Hid (Below w.heap.size w w3) := HB.out.2.trans (hb3.mono HB.out.2.size)
          clear hb3 HR c10 c11 c12
          go_wp2_with fail
          go_ret
          exact ⟨by rw [HF.out]; rfl, H3.out⟩
      · have hlti : ¬ (k : Int) < (l : Int) := by omega
        have HF : Hid (szR left (szS n ks) = q) := by
          have h1 := HB.out.1
          rw [List.take_of_length_le (by have := HE.out.1; omega)] at h1
          show szR left (szS n ks) = q
          unfold szR
          rw [HE.out.2, if_pos (by omega)]
          omega
        go_wp2_with fail
        go_ret
        exact ⟨by rw [HF.out]; rfl, HB.out.2⟩

set_option maxHeartbeats 1600000 in
set_option maxRecDepth 100000 in
theorem sz_step (n : Nat) (IH : Hid (SzC n)) (t : Int) (s : List UInt8) (ks : List (It n)) (a : Value) (left : Int) (w : World) (hx : KidsAt w (ItAt w n) a ks) (hs : s.length ≤ 9223372036854775807) (hl : ks.length ≤ 9223372036854775807) (hw : ∀ y ∈ ks, ItWd n y) (h0 : 0 ≤ left) (h1 : left ≤ 10000000) :
    Calls Try.prog 37 #[.agg #[.int .i64 t, .string ⟨s.toArray⟩, a], .int .i64 left] w fun e w' => e = .returned (.int .i64 (szR left (szI (n + 1) (It.mk t s ks)))) ∧ Below w.heap.size w w' := by
  have HE : Hid (szI (n + 1) (It.mk t s ks) = s.length + szS n ks) := by
    show s.length + ks.length + (ks.map (szI n)).sum = s.length + szS n ks
    unfold szS
    omega
  have HL := one_laid w (.int .i64 t) (.string ⟨s.toArray⟩) a 49
  obtain ⟨l, hle⟩ : ∃ l : Nat, s.length = l := ⟨_, rfl⟩
  have hsz : (⟨s.toArray⟩ : ByteArray).size = l := by show s.toArray.size = l; simpa using hle
  have hwr : IntKind.i64.wrap (left - (l : Int)) = left - (l : Int) := by rw [IntKind.wrap_i64]; omega
  rw [hle] at HE hs
  have EQ := fun W (h : Below w.heap.size w W) (q : Int) (h0 : 0 ≤ q) (h1 : q ≤ 10000000) => szS_any n IH ks a q W (hx.mono h fun _ _ hh => ItAt.below h hh) hl hw h0 h1
  clear hx hw hle
  obtain ⟨S, hS⟩ : ∃ S : ByteArray, (⟨s.toArray⟩ : ByteArray) = S := ⟨_, rfl⟩
  rw [hS] at hsz HL ⊢
  clear hS
  by_cases hneg : left - (l : Int) < 0
  · have HR : Hid (szR left (szI (n + 1) (It.mk t s ks)) = -1) := by
      show szR left (szI (n + 1) (It.mk t s ks)) = -1
      unfold szR
      rw [HE.out, if_neg (by omega)]
    clear EQ
    go_enter Try.func37, Try.ntmps37
    go_wp2_with fail
    go_ret
    exact ⟨by rw [HR.out]; rfl, (HL _ rfl).1⟩
  · obtain ⟨W2, hW2⟩ : ∃ W, W = w.alloc (Obj.cells #[Value.int IntKind.i64 t, Value.string S, a] 49) := ⟨_, rfl⟩
    have HW := HL W2 hW2
    have E2 := EQ W2 HW.1 (left - (l : Int)) (by omega) (by omega)
    clear EQ HL
    by_cases hz : ((szS n ks : Nat) : Int) ≤ left - (l : Int)
    · have e : szR (left - (l : Int)) (szS n ks) = left - (l : Int) - (szS n ks : Nat) := if_pos hz
      have HR : Hid (szR left (szI (n + 1) (It.mk t s ks)) = left - (l : Int) - (szS n ks : Nat)) := by
        show szR left (szI (n + 1) (It.mk t s ks)) = _
        unfold szR
        rw [HE.out, if_pos (by omega)]
        omega
      rw [e] at E2
      obtain ⟨q, hq⟩ : ∃ q : Int, left - (l : Int) - (szS n ks : Nat) = q := ⟨_, rfl⟩
      rw [hq] at E2 HR
      have hq0 : ¬ q < 0 := by omega
      clear e hz hq
      go_enter Try.func37, Try.ntmps37
      go_wp2_with fail
      rw [← hW2]
      refine E2.mono ?_
      rintro e w3 ⟨rfl, hb3⟩
      have H3 : Hid (Below w.heap.size w w3) := HW.1.trans (hb3.mono HW.1.size)
      clear hb3 E2 HW hW2
      go_wp2_with fail
      go_ret
      exact ⟨by rw [HR.out]; rfl, H3.out⟩
    · have e : szR (left - (l : Int)) (szS n ks) = -1 := if_neg hz
      have HR : Hid (szR left (szI (n + 1) (It.mk t s ks)) = -1) := by
        show szR left (szI (n + 1) (It.mk t s ks)) = -1
        unfold szR
        rw [HE.out, if_neg (by omega)]
      rw [e] at E2
      clear e hz
      go_enter Try.func37, Try.ntmps37
      go_wp2_with fail
      rw [← hW2]
      refine E2.mono ?_
      rintro e w3 ⟨rfl, hb3⟩
      have H3 : Hid (Below w.heap.size w w3) := HW.1.trans (hb3.mono HW.1.size)
      clear hb3 E2 HW hW2
      go_wp2_with fail
      go_ret
      exact ⟨by rw [HR.out]; rfl, H3.out⟩
theorem szItem_any : ∀ (n : Nat), SzC n
  | 0 => fun _ _ _ _ h _ _ _ => h.elim
  | n + 1 => fun x v left w hx hw h0 h1 => by
    obtain ⟨kx, rfl, hkx⟩ := hx
    exact sz_step n (szItem_any n) (It.tag x) (It.text x) (It.kids x) kx left w hkx hw.2.1 hw.2.2.1 hw.2.2.2 h0 h1
end Go.Proofs.Ytgkdeakbokgfgaa
