/-
  What FnBlocks draws besides: a state, right or not, and a block.
-/
import Derived.Test.YtdefiiadnofdpaaDoorSbS
import Derived.Test.YtdefiiadnofdpaaDoorDrawX
namespace Go.Proofs.YtdefiiadnofdpaaDoor
open Go.RowKit

theorem OwnI.keepD {w w' : World} {base c : Nat} {v : Value} {l : List Int} (h : OwnI w base v l) (hc : c < base) (hg : w.grownBy w' (some c)) : OwnI w' base v l := by
  obtain ⟨h1, h2⟩ := h
  refine ⟨h1, ?_⟩
  rcases h2 with h2 | ⟨g, cap, cur, hv, hbg, hgg, r⟩
  · exact .inl h2
  · refine .inr ⟨g, cap, cur, hv, hbg, ?_, r⟩
    rw [hg.block g (Array.getElem?_eq_some_iff.1 hgg).1 (fun e => by cases e; omega)]
    exact hgg
theorem OwnI.nil0 {w : World} {base : Nat} {v : Value} {l : List Int} (ho : OwnI w base v l) : ∀ m c, v = .slice none m c → c = 0 := fun m c hv => by
  rcases ho.2 with ⟨h, _⟩ | ⟨g, cap, cur, h, _⟩
  · rw [hv] at h
    cases h
    rfl
  · rw [hv] at h
    cases h
/-- A list without its first number. -/
theorem IntAt.tail {w : World} {g n cap : Nat} {l : List Int} (h : IntAt w (.slice (some ⟨g, 0, none⟩) l.length cap) l) (hn : l.length = n + 1) (c' : Nat) : IntO w (.slice (some ⟨g, 1, none⟩) n c') (l.drop 1) := by
  obtain ⟨ao, cap', hv, hc⟩ := h
  cases hv
  have hl : (l.drop 1).length = n := by rw [List.length_drop, hn]; rfl
  refine ⟨_, _, by rw [hl], fun _ => ?_⟩
  obtain ⟨g', hg, hlt, hcs⟩ := hc (by omega)
  cases hg
  refine ⟨g, 1, rfl, hlt, fun j hj => ?_⟩
  rw [List.length_drop] at hj
  rw [hcs (1 + j) (by omega), List.getElem_drop]

/-- What is drawn: a list of at most eight numbers, at whatever place, and a text. -/
def SbDrawn (w : World) (e : Ending) (w' : World) : Prop :=
  ∃ (v : Value) (l : List Int) (b : ByteArray), e = .returned (.tuple #[v, .string b]) ∧ (IntO w' v l ∧ (∀ m c, v = .slice none m c → c = 0) ∧ l.length ≤ 8) ∧ Below w.heap.size w w'
theorem SbDrawn.of {w w' : World} {v : Value} {b : ByteArray} (l : List Int) (h : (IntO w' v l ∧ (∀ m c, v = .slice none m c → c = 0) ∧ l.length ≤ 8) ∧ Below w.heap.size w w') : SbDrawn w (.returned (.tuple #[v, .string b])) w' := ⟨v, l, b, rfl, h⟩

set_option maxHeartbeats 3200000 in
set_option maxRecDepth 100000 in
theorem drawShaBlock_any (B : Nat) (w : World) (a0 : Option Addr) (len cap : Nat) (hl : len ≤ 1048576) (hB : B ≤ w.heap.size) (hcode : CodeAt B w a0 len) : Calls Tryd.prog 11 #[.slice a0 len cap] w fun e w' => SbDrawn w e w' := by
  obtain ⟨i0, hi, hz0, hz1, hz2⟩ := info_parts info3
  have HD : Hid (CodeAt B w a0 len) := hcode
  clear hcode
  go_enter Tryd.func11, Tryd.ntmps11
  go_wp2_with fail
  refine (l01New_any B w a0 len cap hl hB HD.out).mono ?_
  rintro e w1 ⟨c, rfl, hC1, hb1, hc⟩
  have H1 : Hid (Cur B w1 c a0 len cap ∧ Below w.heap.size w w1 ∧ w.heap.size ≤ c) := ⟨hC1, hb1, hc⟩
  clear hC1 hb1 HD hc
  go_wp2_with fail
  refine (l01Below_any 10 B w1 c a0 len cap (by omega) H1.out.1).mono ?_
  rintro e w2 ⟨kk, hk0, hk1, _, rfl, hC2, hg2⟩
  have H2 : Hid (Cur B w2 c a0 len cap ∧ Below w.heap.size w w2 ∧ w.heap.size ≤ c) := ⟨hC2, H1.out.2.1.grown hg2 H1.out.2.1.size (fun k hk => by cases hk; exact H1.out.2.2), H1.out.2.2⟩
  clear hC2 hg2 H1 hk1
  go_wp2_with fail
  refine (l01Text_len 64 B w2 c a0 len cap H2.out.1).mono ?_
  rintro e w3 ⟨s, rfl, _, hC3, hg3, hs⟩
  have hs64 : s.size = 64 := by have := hs (by omega) (by omega); omega
  have H3 : Hid (Cur B w3 c a0 len cap ∧ Below w.heap.size w w3 ∧ w.heap.size ≤ c ∧ c < w3.heap.size) := ⟨hC3, H2.out.2.1.grown hg3 H2.out.2.1.size (fun k hk => by cases hk; exact H2.out.2.2), H2.out.2.2, hC3.lt⟩
  clear hC3 hg3 H2 hs
  go_wp2_with fail
  go_loopw [7, 8] (fun sv iv wr => ∃ (k : Nat) (l : List Int), k ≤ 8 ∧ iv = .int .i64 k ∧ Hid (l.length = k ∧ OwnI wr w3.heap.size sv l ∧ Cur B wr c a0 len cap ∧ Below w.heap.size w wr ∧ w3.heap.size ≤ wr.heap.size)) (fun _ iv _ => 8 - (intOf iv).toNat)
  case atStart => exact ⟨0, [], by omega, rfl, rfl, World.ownsRow_made w3 #[] 0 (Nat.le_refl _) (Nat.zero_le _) rfl, H3.out.1.kept ((Below.refl _ _).alloc (Nat.le_refl _) _), H3.out.2.1.alloc H3.out.2.1.size _, by simp⟩
  case round =>
    obtain ⟨k, l, hk, rfl, H⟩ := hrel
    by_cases hlt : k < 8
    · have hkk : (k : Int) < 8 := by omega
      have hlen := H.out.1
      have HL : Hid (l.length = k) := hlen
      clear hlen
      go_wp2_with fail
      have hlit : OwnI (wr.alloc (Obj.cells #[Value.int IntKind.i64 0, Value.int IntKind.i64 1, Value.int IntKind.i64 4294967295, Value.int IntKind.i64 2147483648, Value.int IntKind.i64 12345678] 3)) wr.heap.size (.slice (some ⟨wr.heap.size, 0, none⟩) 5 5) [0, 1, 4294967295, 2147483648, 12345678] :=
        World.ownsRow_lit wr #[Value.int .i64 0, Value.int .i64 1, Value.int .i64 4294967295, Value.int .i64 2147483648, Value.int .i64 12345678] 5 (Nat.le_refl _) (by unfold maxLen; omega) rfl
      have ha := (Below.refl wr.heap.size wr).alloc (Nat.le_refl _) (Obj.cells #[Value.int IntKind.i64 0, Value.int IntKind.i64 1, Value.int IntKind.i64 4294967295, Value.int IntKind.i64 2147483648, Value.int IntKind.i64 12345678] 3)
      have hcl := H.out.2.2.1.lt
      refine (l01PickInt_any wr.heap.size 5 5 B _ c a0 len cap (by omega) (by omega) (by omega) (fun j hj => ⟨_, hlit.cell (j := j) hj, by match j, hj with
        | 0, _ => decide
        | 1, _ => decide
        | 2, _ => decide
        | 3, _ => decide
        | 4, _ => decide⟩) (H.out.2.2.1.kept ha)).mono ?_
      rintro e w5 ⟨x, hx0, hx1, rfl, hC5, hg5⟩
      have hwr5 : wr.grownBy w5 (some c) := grownBy_trans (grownBy_below' ha) hg5
      have H5 : Hid (OwnI w5 w3.heap.size u7 l ∧ Cur B w5 c a0 len cap ∧ Below w.heap.size w w5 ∧ w3.heap.size ≤ w5.heap.size) :=
        ⟨H.out.2.1.keepD H3.out.2.2.2 hwr5, hC5, H.out.2.2.2.1.grown hwr5 H.out.2.2.2.1.size (fun q hq => by cases hq; exact H3.out.2.2.1), Nat.le_trans H.out.2.2.2.2 hwr5.size⟩
      clear hC5 hg5 hwr5 hlit ha hcl H
      have hwx : IntKind.i64.wrap x = x := IntWalk.i64_in _ (by omega)
      have hown := H5.out.1
      have hsz := H5.out.2.2.2
      unfold OwnI at hown
      rw [HL.out] at hown
      go_wp2_with (at_builtin; refine wpList_append_own _ rfl _ _ 26 rfl w3.heap.size 3 i0 (.int .i64 0) 1 8 Tryd.underlying26 hi hz0 hz1 hz2 rfl (by decide) _ _ _ rfl (hown.alloc _) ⟨w5.heap.size, 0, none⟩ 1 1 [.int .i64 x] rfl rfl (one_new _ _ _) (one_int x) (by unfold maxLen; omega) (by omega) (size_ok hsz _) ?_)
      intro v' w6 hown' hgrow _
      have HN : Hid ((l ++ [x]).length = k + 1 ∧ OwnI w6 w3.heap.size v' (l ++ [x]) ∧ Cur B w6 c a0 len cap ∧ Below w.heap.size w w6 ∧ w3.heap.size ≤ w6.heap.size) := by
        have hb56 : Below w3.heap.size w5 w6 := ((Below.refl _ _).alloc hsz _).grown hgrow (size_ok hsz _) (fun j hj => (hown.lt j hj).1)
        refine ⟨by simp [HL.out], ?_, (H5.out.2.1.kept ((Below.refl _ _).alloc (Nat.le_refl _) _)).grown hgrow (fun q hq => Nat.lt_of_lt_of_le H3.out.2.2.2 (hown.lt q hq).1), H5.out.2.2.1.trans (hb56.mono H3.out.2.1.size), Nat.le_trans hsz hb56.size⟩
        unfold OwnI
        rw [cellsI_append, List.length_append, HL.out]
        exact hown'
      clear hown hown' hgrow H5
      go_wp2
      go_roundw
      case rel => exact ⟨k + 1, _, by omega, by go_num, HN.out⟩
      case measure => simp [intOf]; omega
    · have hk8 : k = 8 := by omega
      subst hk8
      obtain ⟨ao, cp, hv, hg0, hcp, _⟩ := H.out.2.1.shape
      rw [H.out.1] at hv hg0 hcp
      obtain ⟨g, hge⟩ := hg0 (by omega)
      subst hge
      subst hv
      have HF : Hid (IntO wr (.slice (some ⟨g, 0, none⟩) 8 cp) l ∧ IntO wr (.slice (some ⟨g, 1, none⟩) 7 (cp - 1)) (l.drop 1) ∧ l.length = 8 ∧ Below w.heap.size w wr) := by
        have hat := H.out.2.1.at
        refine ⟨hat.o, ?_, H.out.1, H.out.2.2.2.1⟩
        have hat2 : IntAt wr (.slice (some ⟨g, 0, none⟩) l.length cp) l := by rw [H.out.1]; exact hat
        exact hat2.tail (n := 7) H.out.1 (cp - 1)
      have hcp1 : 1 ≤ cp := by omega
      have hcp8 : (8 : Int) ≤ (cp : Int) := by omega
      by_cases q0 : kk = 0
      · subst q0
        clear H
        go_wp2_with fail
        go_ret2
        exact SbDrawn.of (l.drop 1) ⟨⟨HF.out.2.1, (fun m c hv => by cases hv), by rw [List.length_drop, HF.out.2.2.1]; omega⟩, HF.out.2.2.2⟩
      have q0' : (kk == 0) = false := by simpa using q0
      by_cases q1 : kk = 1
      · subst q1
        clear H q0
        have hs1 : (1 : Int) ≤ (s.size : Int) := by omega
        go_wp2_with fail
        go_ret2
        exact SbDrawn.of (l) ⟨⟨HF.out.1, (fun m c hv => by cases hv), by rw [HF.out.2.2.1]; omega⟩, HF.out.2.2.2⟩
      have q1' : (kk == 1) = false := by simpa using q1
      by_cases q2 : kk = 2
      · subst q2
        clear q0 q1
        go_wp2_with fail
        have hlit : OwnI (wr.alloc (Obj.cells #[Value.int IntKind.i64 (-1), Value.int IntKind.i64 4294967296, Value.int IntKind.i64 9223372036854775807] 3)) wr.heap.size (.slice (some ⟨wr.heap.size, 0, none⟩) 3 3) [-1, 4294967296, 9223372036854775807] :=
          World.ownsRow_lit wr #[Value.int .i64 (-1), Value.int .i64 4294967296, Value.int .i64 9223372036854775807] 3 (Nat.le_refl _) (by unfold maxLen; omega) rfl
        have ha := (Below.refl wr.heap.size wr).alloc (Nat.le_refl _) (Obj.cells #[Value.int IntKind.i64 (-1), Value.int IntKind.i64 4294967296, Value.int IntKind.i64 9223372036854775807] 3)
        have hcl := H.out.2.2.1.lt
        refine (l01PickInt_any wr.heap.size 3 3 B _ c a0 len cap (by omega) (by omega) (by omega) (fun j hj => ⟨_, hlit.cell (j := j) hj, by match j, hj with
          | 0, _ => decide
          | 1, _ => decide
          | 2, _ => decide⟩) (H.out.2.2.1.kept ha)).mono ?_
        rintro e w5 ⟨x, hx0, hx1, rfl, hC5, hg5⟩
        have hwr5 : wr.grownBy w5 (some c) := grownBy_trans (grownBy_below' ha) hg5
        have hO5 : OwnI w5 w3.heap.size (.slice (some ⟨g, 0, none⟩) l.length cp) l := by rw [H.out.1]; exact H.out.2.1.keepD H3.out.2.2.2 hwr5
        have hB5 : Below w.heap.size w w5 := H.out.2.2.2.1.grown hwr5 H.out.2.2.2.1.size (fun q hq => by cases hq; exact H3.out.2.2.1)
        have hu := hO5.cell (j := 3) (by rw [H.out.1]; omega)
        have hf := hO5.frozen 3
        have H5 : Hid (IntO (w5.setCell ⟨g, 3, none⟩ (.int .i64 x)) (.slice (some ⟨g, 0, none⟩) 8 cp) (l.set 3 x) ∧ (l.set 3 x).length = 8 ∧ Below w.heap.size w (w5.setCell ⟨g, 3, none⟩ (.int .i64 x))) := by
          have h1 := (hO5.set 3 x).at.o
          rw [List.length_set, H.out.1] at h1
          exact ⟨h1, by rw [List.length_set, H.out.1], hB5.setCell (p := ⟨g, 3, none⟩) (Nat.le_trans H3.out.2.1.size hO5.lt.1) _⟩
        clear hC5 hg5 hwr5 hlit ha hcl H hO5 hB5 HF
        generalize l.getD 3 0 = z at *
        go_wp2_with fail
        go_ret2
        exact SbDrawn.of (l.set 3 x) ⟨⟨H5.out.1, (fun m c hv => by cases hv), by rw [H5.out.2.1]; omega⟩, H5.out.2.2⟩
      have q2' : (kk == 2) = false := by simpa using q2
      by_cases q3 : kk = 3
      · subst q3
        clear H q0 q1 q2
        go_wp2_with fail
        refine (specStart_any wr).mono ?_
        rintro e w5 ⟨v5, rfl, ho5, hb5⟩
        have hO5 := OwnI.of8 ho5
        obtain ⟨o5, c5, hv5⟩ := hO5.shape2
        subst hv5
        have H5 : Hid (IntO w5 (.slice o5 (toI (stf firstN) 8).length c5) (toI (stf firstN) 8) ∧ (∀ m c, (Value.slice o5 (toI (stf firstN) 8).length c5) = .slice none m c → c = 0) ∧ Below w.heap.size w w5) := ⟨hO5.at.o, hO5.nil0, HF.out.2.2.2.trans (hb5.mono HF.out.2.2.2.size)⟩
        clear ho5 hb5 hO5 HF
        go_wp2_with fail
        go_ret2
        exact SbDrawn.of (toI (stf firstN) 8) ⟨⟨H5.out.1, H5.out.2.1, by rw [toI_len]; omega⟩, H5.out.2.2⟩
      have q3' : (kk == 3) = false := by simpa using q3
      clear H q0 q1 q2 q3
      go_wp2_with fail
      go_ret2
      exact SbDrawn.of (l) ⟨⟨HF.out.1, (fun m c hv => by cases hv), by rw [HF.out.2.2.1]; omega⟩, HF.out.2.2.2⟩
end Go.Proofs.YtdefiiadnofdpaaDoor
