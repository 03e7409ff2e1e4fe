/-
  Texts of the proof, one behind the other: SgI, SgJ.
-/
import Derived.Laws.StructEq
import Derived.Laws.Rows
import Derived.Test.YtoildgknpfehoaaGreatDoorShelf
import Derived.Test.YtoildgknpfehoaaGreatDoorM34

/-
  The program's signatures: keyBytes, SignWith; what SigOk answers.
-/
namespace Go.Proofs.YtoildgknpfehoaaGreatDoor
open Go.RowKit

/-- What SignWith answers. -/
def sigB (i : Int) (s : ByteArray) : ByteArray := if 0 ≤ i ∧ i < 6 then keyB (pmL (readL (pddB s)) (secL i) (figL (pubT i))) else ByteArray.empty
/-- What SigOk answers. -/
def sokB (key s sig : ByteArray) : Bool := if key.size = 15 ∧ sig.size = 15 then (if ev (readL sig) < ev (readL key) then pmL (readL sig) (digs 65537) (readL key) == readL (pddB s) else false) else false
theorem readL_ok (s : ByteArray) : okL (readL s) = true := by
  have h1 := readL_len2 s
  unfold readL at *
  split at h1
  · rename_i h
    rw [if_pos h]
    exact (okL_iff _).2 ⟨h1, dig_digs _, top_digs _⟩
  · rename_i h
    rw [if_neg h]
    decide
theorem readL_wd (s : ByteArray) : Wd (readL s) := (okL_true (readL_ok s)).2.1.wd
theorem pmL_ok (a e m : List Int) : Dig (pmL a e m) ∧ Top (pmL a e m) := by
  unfold pmL
  split
  · exact ⟨dig_digs _, top_digs _⟩
  · exact ⟨fun x hx => by simp at hx, fun h => by simp at h⟩
theorem cmp_read (a b : ByteArray) : cmpL (readL a) (readL b) = cmpI (ev (readL a)) (ev (readL b)) := if_pos ⟨readL_ok a, readL_ok b⟩
set_option maxHeartbeats 800000 in
set_option maxRecDepth 100000 in
theorem keyBytes_any (a : Value) (la : List Int) (w : World) (hl : la.length ≤ 10000000) (wa : Wd la) (hs : (txtL la).size ≤ 15) (ha : IntAt w a la) :
    Calls Tryz.prog 28 #[a] w fun e w' => e = .returned (.string (keyB la)) ∧ Below w.heap.size w w' := by
  have E := implText_any a la w hl wa ha
  have HN : Hid (keyB la = zeroB (15 - (txtL la).size) ++ txtL la) := rfl
  clear ha wa
  generalize txtL la = T at *
  have hT : T.size ≤ 15 := hs
  obtain ⟨k, hk⟩ : ∃ k : Nat, 15 - T.size = k := ⟨_, rfl⟩
  rw [hk] at HN
  have R := fun W => repeat_zero k W (by omega)
  have hz := zeroB_size k
  generalize zeroB k = Z at *
  have hki : (15 : Int) - (T.size : Int) = (k : Int) := by omega
  go_enter Tryz.func28, Tryz.ntmps28
  go_wp2_with fail
  refine E.mono ?_
  rintro e w1 ⟨rfl, hb1⟩
  have H1 : Hid (Below w.heap.size w w1) := hb1
  clear hb1 E
  go_wp2_with fail
  refine (R _).mono ?_
  rintro e w2 ⟨rfl, hb2⟩
  have H2 : Hid (Below w.heap.size w w2) := below_on H1.out hb2
  clear hb2 H1
  go_wp2_with fail
  go_ret
  exact ⟨by rw [HN.out]; rfl, H2.out⟩

theorem alloc_pair (w : World) (T U : ByteArray) (t : TypeId) : (w.alloc (Obj.cells #[Value.string T, Value.string U] t)).cell? ⟨w.heap.size, 0, none⟩ = some (.string T) ∧ (w.alloc (Obj.cells #[Value.string T, Value.string U] t)).cell? ⟨w.heap.size, 1, none⟩ = some (.string U) := by
  simp only [World.cell?, heap_alloc_new]
  exact ⟨rfl, rfl⟩
theorem alloc_more (w : World) (o : Obj) : w.heap.size < (w.alloc o).heap.size := by
  show w.heap.size < (w.heap.push o).size
  rw [Array.size_push]
  exact Nat.lt_succ_self _
theorem cells_on {w w' : World} {b : Nat} {T U : ByteArray} (h : w.cell? ⟨b, 0, none⟩ = some (.string T) ∧ w.cell? ⟨b, 1, none⟩ = some (.string U)) (hl : b < w.heap.size) (hb : Below w.heap.size w w') : w'.cell? ⟨b, 0, none⟩ = some (.string T) ∧ w'.cell? ⟨b, 1, none⟩ = some (.string U) :=
  ⟨(hb.cell (p := ⟨b, 0, none⟩) hl).trans h.1, (hb.cell (p := ⟨b, 1, none⟩) hl).trans h.2⟩
theorem houseFields : Tryz.prog.underlying 46 = some (.struct (Tryz.prog.fieldsOf 46)) := by kernel_rfl
theorem houseStood : Tryz.prog.stoodInHeld 46 = false := by kernel_rfl
theorem houseGuard : Tryz.prog.eqGuardType Tryz.prog.depth 46 = false := by kernel_rfl
theorem run_guardHouse (x y : Operand) (xs ys : Array Value) (w : World) : Sem.run Tryz.prog (eqGuard .eql 46 x y (.agg xs) (.agg ys)) w = .ok () w := run_eqGuard_agg w .eql 46 x y xs ys houseGuard
theorem eqHouse (T U V W : ByteArray) (w : World) : Sem.run Tryz.prog (binOp .eql 46 (.agg #[.string T, .string U]) (.agg #[.string V, .string W])) w = .ok (.bool (if T.toList == V.toList then U.toList == W.toList else false)) w := by
  have hf : (Tryz.prog.fieldsOf 46).toList = [⟨"number", 9, 0, false, "", "loop.example/g00394/impl", 0⟩, ⟨"secret", 9, 1, false, "", "loop.example/g00394/impl", 16⟩] := by kernel_rfl
  rw [run_eql_struct, run_equalIn_agg w 9999 46 _ _ houseFields houseStood, hf]
  simp [Op.eqFields, go_sem]
  by_cases h1 : T.toList = V.toList
  · by_cases h2 : U.toList = W.toList <;> simp [h1, h2]
  · simp [h1]
theorem eqHouse_no {T U : ByteArray} (h : T.size ≠ 0) (w : World) : Sem.run Tryz.prog (binOp .eql 46 (.agg #[.string T, .string U]) (.agg #[.string ⟨#[]⟩, .string ⟨#[]⟩])) w = .ok (.bool false) w := by
  have h1 : ¬ (T.toList = (⟨#[]⟩ : ByteArray).toList) := fun e => by
    rw [ByteArray.toList_eq, ByteArray.toList_eq] at e
    have := congrArg List.length e
    simp at this
    exact h (by show T.data.size = 0; rw [this]; rfl)
  rw [eqHouse, if_neg (by simpa using h1)]
set_option maxHeartbeats 800000 in
set_option maxRecDepth 100000 in
theorem implSign_any (i : Int) (s : ByteArray) (w : World) (hs : s.size ≤ 1048576) (hi : -9223372036854775808 ≤ i ∧ i ≤ 9223372036854775807) (hH : HousesOk w) (hT : KeysOk w) (hS : StartOk w) : Calls Tryz.prog 7 #[.int .i64 i, .string s] w fun e w' => e = .returned (.string (sigB i s)) ∧ Below w.heap.size w w' := by
  have E := houseAt_any i w hi hH
  have HK : Hid (∀ w', Below w.heap.size w w' → KeysOk w' ∧ StartOk w') := fun w' hb => ⟨keysBelow hT w' hb, startBelow hS w' hb⟩
  clear hH hT hS
  by_cases h : 0 ≤ i ∧ i < 6
  · have HN : Hid (sigB i s = keyB (pmL (readL (pddB s)) (secL i) (figL (pubT i)))) := if_pos h
    obtain ⟨n, hn⟩ : ∃ n : Nat, i = (n : Int) := ⟨i.toNat, by omega⟩
    have HS : Hid ((txtL (pmL (readL (pddB s)) (secL i) (figL (pubT i)))).size ≤ 15) := by
      rw [hn]
      exact pm_small _ _ (by omega)
    have HP : Hid ((pubT i).size ≠ 0) := by rw [hn]; exact pubT_pos (by omega)
    have HZ : Hid ((pubT i).size ≤ 37 ∧ (secT i).size ≤ 37 ∧ secL i = figL (secT i)) := ⟨pubT_size i, secT_size i, rfl⟩
    clear hn
    generalize pubT i = T at *
    generalize secT i = U at *
    have RG := run_guardHouse
    have RE := eqHouse_no (T := T) (U := U) HP.out
    go_enter Tryz.func7, Tryz.ntmps7
    go_wp2_with fail
    refine E.mono ?_
    rintro e w1 ⟨rfl, hb1⟩
    have H1 : Hid (Below w.heap.size w w1) := hb1
    clear hb1 E
    go_wp2_with fail
    obtain ⟨W2, hW2⟩ : ∃ W, W = w1.alloc (Obj.cells #[Value.string T, Value.string U] 46) := ⟨_, rfl⟩
    rw [← hW2]
    have HB2 : Hid (Below w.heap.size w W2.drew) := by rw [hW2]; exact (H1.out.alloc H1.out.size _).drew
    have hc2 : W2.cell? ⟨w1.heap.size, 0, none⟩ = some (.string T) ∧ W2.cell? ⟨w1.heap.size, 1, none⟩ = some (.string U) := by
      rw [hW2]
      exact alloc_pair w1 T U _
    have hlt : w1.heap.size < W2.drew.heap.size := by rw [hW2]; exact alloc_more w1 _
    clear hW2 H1
    generalize w1.heap.size = b at *
    have EF := fun W => implFig_any U W (by have := HZ.out.2.1; omega)
    have sz : Hid (∀ la lb lm : List Int, (pmL la lb lm).length ≤ 10000000) := fun la lb lm => by have := pmL_len la lb lm; omega
    go_region_held3 (fun W => W.cell? ⟨b, 0, none⟩ = some (.string T) ∧ W.cell? ⟨b, 1, none⟩ = some (.string U)) (first | exact hc8 | exact hc7 | exact hc6 | exact hc5 | exact hc4 | exact hc3 | exact hc2) ((first | (go_at_call 17; refine (implPadded_any s W2.drew (by omega) (HK.out _ HB2.out).1 (HK.out _ HB2.out).2).mono ?_; rintro e w3 ⟨rfl, hb3⟩; have HB3 : Hid (Below w.heap.size w w3) := below_on HB2.out hb3; have hc3 := cells_on (w := W2.drew) hc2 hlt hb3; have hl3 := Nat.lt_of_lt_of_le hlt hb3.size) | (go_at_call 10; refine (implReadL_any (pddB s) w3 (by rw [pddB_size]; omega)).mono ?_; rintro e w4 ⟨v1, rfl, ho4, hb4⟩; have HB4 : Hid (IntAt w4 v1 (readL (pddB s)) ∧ Below w.heap.size w w4) := ⟨ho4.at, below_on HB3.out hb4⟩; have hc4 := cells_on hc3 hl3 hb4; have hl4 := Nat.lt_of_lt_of_le hl3 hb4.size) | (go_at_call 29; refine (EF w4).mono ?_; clear EF; rintro e w5 ⟨v2, rfl, ho5, hb5⟩; have HB5 : Hid (IntAt w5 v1 (readL (pddB s)) ∧ IntAt w5 v2 (figL U) ∧ Below w.heap.size w w5) := ⟨HB4.out.1.below hb5, ho5.at, below_on HB4.out.2 hb5⟩; have hc5 := cells_on hc4 hl4 hb5; have hl5 := Nat.lt_of_lt_of_le hl4 hb5.size) | (go_at_call 29; refine (implFig_any T w5 (by have := HZ.out.1; omega)).mono ?_; rintro e w6 ⟨v3, rfl, ho6, hb6⟩; have HB6 : Hid (IntAt w6 v1 (readL (pddB s)) ∧ IntAt w6 v2 (figL U) ∧ IntAt w6 v3 (figL T) ∧ Below w.heap.size w w6) := ⟨HB5.out.1.below hb6, HB5.out.2.1.below hb6, ho6.at, below_on HB5.out.2.2 hb6⟩; have hc6 := cells_on hc5 hl5 hb6; have hl6 := Nat.lt_of_lt_of_le hl5 hb6.size) | (go_at_call 9; refine (implPowMod_any v1 v2 v3 _ _ _ w6 (by have := readL_len2 (pddB s); omega) (by have := figL_len U; omega) (by have := figL_len T; omega) (readL_wd _) (figL_wd _) (figL_wd _) HB6.out.1 HB6.out.2.1 HB6.out.2.2.1).mono ?_; rintro e w7 ⟨v4, rfl, ho7, hb7⟩; have HB7 : Hid (IntAt w7 v4 (pmL (readL (pddB s)) (figL U) (figL T)) ∧ Below w.heap.size w w7) := ⟨ho7.at, below_on HB6.out.2.2.2 hb7⟩; have hc7 := cells_on hc6 hl6 hb7; have hl7 := Nat.lt_of_lt_of_le hl6 hb7.size) | (go_at_call 28; refine (keyBytes_any v4 _ w7 (sz.out _ _ _) (pmL_ok _ _ _).1.wd (by rw [← HZ.out.2.2]; exact HS.out) HB7.out.1).mono ?_; rintro e w8 ⟨rfl, hb8⟩; have HB8 : Hid (Below w.heap.size w w8) := below_on HB7.out.2 hb8; have hc8 := cells_on hc7 hl7 hb8)))
    all_goals (
      go_wp2_with fail
      go_ret
      exact ⟨by rw [HN.out, HZ.out.2.2]; rfl, HB8.out⟩)
  · have HN : Hid (sigB i s = ByteArray.empty) := if_neg h
    rw [pubT_no h, secT_no h] at E
    change Calls _ _ _ _ (fun e w' => e = Ending.returned (.agg #[.string ⟨#[]⟩, .string ⟨#[]⟩]) ∧ _) at E
    have RG := run_guardHouse
    have RE := eqHouse ⟨#[]⟩ ⟨#[]⟩ ⟨#[]⟩ ⟨#[]⟩
    simp only [BEq.rfl, if_true] at RE
    go_enter Tryz.func7, Tryz.ntmps7
    go_wp2_with fail
    refine E.mono ?_
    rintro e w1 ⟨rfl, hb1⟩
    have H1 : Hid (Below w.heap.size w w1) := hb1
    clear hb1 E
    go_wp2_with fail
    go_ret
    exact ⟨by rw [HN.out]; rfl, H1.out.alloc H1.out.size _⟩
end Go.Proofs.YtoildgknpfehoaaGreatDoor

/-
  The program's SigOk; slices.Equal of two lists of numbers.
-/
namespace Go.Proofs.YtoildgknpfehoaaGreatDoor
open Go.RowKit

theorem slicesEq_any (a b : Value) (la lb : List Int) (w : World) (hla : la.length ≤ 10000000) (hlb : lb.length ≤ 10000000) (ha : IntAt w a la) (hb : IntAt w b lb) :
    Calls Tryz.prog 38 #[a, b] w fun e w' => e = .returned (.bool (la == lb)) ∧ Below w.heap.size w w' := by
  obtain ⟨ao, ac, rfl, ha⟩ := ha
  obtain ⟨bo, bc, rfl, hb⟩ := hb
  by_cases hl : la.length = lb.length
  · by_cases h0 : la.length = 0
    · have e1 : la = [] := List.eq_nil_of_length_eq_zero h0
      have e2 : lb = [] := List.eq_nil_of_length_eq_zero (hl ▸ h0)
      subst e1 e2
      refine (Tryz.slices_Equal_int_empty ao bo ac 0 bc w (by omega)).mono ?_
      rintro e w' ⟨rfl, rfl⟩
      exact ⟨rfl, Below.refl _ _⟩
    · obtain ⟨g1, rfl, _, hc1⟩ := ha (by omega)
      obtain ⟨g2, rfl, _, hc2⟩ := hb (by omega)
      refine (Tryz.slices_Equal_int g1 0 la.length ac g2 0 lb.length bc la lb w (Nat.le_refl _) (Nat.le_refl _) (by omega) (by omega) (fun j hj => ?_) (fun j hj => ?_)).mono ?_
      · rw [Nat.zero_add, hc1 j hj]; simp [List.getD, hj]
      · rw [Nat.zero_add, hc2 j hj]; simp [List.getD, hj]
      · rintro e w' ⟨rfl, q, rfl⟩
        exact ⟨by rw [List.take_length, List.take_length], ⟨rfl, rfl, rfl, Nat.le_refl _, fun _ _ => rfl⟩⟩
  · refine (Tryz.slices_Equal_int_lens ao bo la.length ac lb.length bc w hl).mono ?_
    rintro e w' ⟨rfl, rfl⟩
    have hne : (la == lb) = false := by
      rw [beq_eq_false_iff_ne]
      exact fun e => hl (by rw [e])
    exact ⟨by rw [hne], Below.refl _ _⟩

theorem sok_no {key s sig : ByteArray} (h : ¬ (key.size = 15 ∧ sig.size = 15)) : sokB key s sig = false := if_neg h
theorem sok_great {key s sig : ByteArray} (h : ¬ ev (readL sig) < ev (readL key)) : sokB key s sig = false := by
  unfold sokB
  rw [if_neg h]
  split <;> rfl
theorem sok_is {key s sig : ByteArray} (h : key.size = 15 ∧ sig.size = 15) (h2 : ev (readL sig) < ev (readL key)) : sokB key s sig = (pmL (readL sig) (digs 65537) (readL key) == readL (pddB s)) := by
  unfold sokB
  rw [if_pos h, if_pos h2]
theorem exp_ok : (digs 65537).length ≤ 10000000 ∧ Wd (digs 65537) := ⟨by have := digs_len64 (n := 65537) (by decide); omega, (dig_digs _).wd⟩
set_option maxHeartbeats 1600000 in
set_option maxRecDepth 100000 in
theorem implSok_any (key s sig : ByteArray) (w : World) (hk : key.size ≤ 1048576) (hs : s.size ≤ 1048576) (hg : sig.size ≤ 1048576) (hT : KeysOk w) (hS : StartOk w) : Calls Tryz.prog 15 #[.string key, .string s, .string sig] w fun e w' => e = .returned (.bool (sokB key s sig)) ∧ Below w.heap.size w w' := by
  have HK : Hid (∀ w', Below w.heap.size w w' → KeysOk w' ∧ StartOk w') := fun w' hb => ⟨keysBelow hT w' hb, startBelow hS w' hb⟩
  clear hT hS
  by_cases h1 : key.size = 15
  · by_cases h2 : sig.size = 15
    · have E1 := fun W => implReadL_any key W hk
      have h1i : (key.size : Int) = 15 := by omega
      have h2i : (sig.size : Int) = 15 := by omega
      go_enter Tryz.func15, Tryz.ntmps15
      go_wp2_with fail
      refine (E1 _).mono ?_
      clear E1
      rintro e w1 ⟨v1, rfl, ho1, hb1⟩
      have H1 : Hid (IntAt w1 v1 (readL key) ∧ Below w.heap.size w w1) := ⟨ho1.at, hb1⟩
      clear ho1 hb1
      go_wp2_with fail
      refine (implReadL_any sig w1 hg).mono ?_
      rintro e w2 ⟨v2, rfl, ho2, hb2⟩
      have H2 : Hid (IntAt w2 v1 (readL key) ∧ IntAt w2 v2 (readL sig) ∧ Below w.heap.size w w2) := ⟨H1.out.1.below hb2, ho2.at, below_on H1.out.2 hb2⟩
      clear ho2 hb2 H1
      go_wp2_with fail
      refine (implCmp_any v2 v1 _ _ w2 (by have := readL_len2 sig; omega) (by have := readL_len2 key; omega) (readL_wd _) (readL_wd _) H2.out.2.1 H2.out.1).mono ?_
      rintro e w3 ⟨rfl, hb3⟩
      rw [cmp_read]
      have H3 : Hid (IntAt w3 v1 (readL key) ∧ IntAt w3 v2 (readL sig) ∧ Below w.heap.size w w3) := ⟨H2.out.1.below hb3, H2.out.2.1.below hb3, below_on H2.out.2.2 hb3⟩
      clear hb3 H2
      by_cases h3 : ev (readL sig) < ev (readL key)
      · have HN : Hid (sokB key s sig = (pmL (readL sig) (digs 65537) (readL key) == readL (pddB s))) := sok_is ⟨h1, h2⟩ h3
        have hcm : ¬ (0 : Int) ≤ cmpI (ev (readL sig)) (ev (readL key)) := by have := cmpI_neg.2 h3; omega
        generalize cmpI (ev (readL sig)) (ev (readL key)) = c at *
        clear h3
        go_wp2_with fail
        refine (implOf_any 65537 w3 (by decide)).mono ?_
        rintro e w4 ⟨v3, rfl, ho4, hb4⟩
        have H4 : Hid (IntAt w4 v1 (readL key) ∧ IntAt w4 v2 (readL sig) ∧ IntAt w4 v3 (digs 65537) ∧ Below w.heap.size w w4) := ⟨H3.out.1.below hb4, H3.out.2.1.below hb4, ho4.at, below_on H3.out.2.2 hb4⟩
        clear ho4 hb4 H3
        go_wp2_with fail
        refine (implPowMod_any v2 v3 v1 _ _ _ w4 (by have := readL_len2 sig; omega) exp_ok.1 (by have := readL_len2 key; omega) (readL_wd _) exp_ok.2 (readL_wd _) H4.out.2.1 H4.out.2.2.1 H4.out.1).mono ?_
        rintro e w5 ⟨v4, rfl, ho5, hb5⟩
        have H5 : Hid (IntAt w5 v4 (pmL (readL sig) (digs 65537) (readL key)) ∧ Below w.heap.size w w5) := ⟨ho5.at, below_on H4.out.2.2.2 hb5⟩
        clear ho5 hb5 H4
        go_wp2_with fail
        refine (implPadded_any s w5 (by omega) (HK.out _ H5.out.2).1 (HK.out _ H5.out.2).2).mono ?_
        rintro e w6 ⟨rfl, hb6⟩
        have H6 : Hid (IntAt w6 v4 (pmL (readL sig) (digs 65537) (readL key)) ∧ Below w.heap.size w w6) := ⟨H5.out.1.below hb6, below_on H5.out.2 hb6⟩
        clear hb6 H5
        go_wp2_with fail
        refine (implReadL_any (pddB s) w6 (by rw [pddB_size]; omega)).mono ?_
        rintro e w7 ⟨v5, rfl, ho7, hb7⟩
        have H7 : Hid (IntAt w7 v4 (pmL (readL sig) (digs 65537) (readL key)) ∧ IntAt w7 v5 (readL (pddB s)) ∧ Below w.heap.size w w7) := ⟨H6.out.1.below hb7, ho7.at, below_on H6.out.2 hb7⟩
        clear ho7 hb7 H6
        go_wp2_with fail
        refine (slicesEq_any v4 v5 _ _ w7 (by have := pmL_len (readL sig) (digs 65537) (readL key); omega) (by have := readL_len2 (pddB s); omega) H7.out.1 H7.out.2.1).mono ?_
        rintro e w8 ⟨rfl, hb8⟩
        have H8 : Hid (Below w.heap.size w w8) := below_on H7.out.2.2 hb8
        clear hb8 H7
        go_wp2_with fail
        go_ret
        exact ⟨by rw [HN.out]; rfl, H8.out⟩
      · have HN : Hid (sokB key s sig = false) := sok_great h3
        have hcm : (0 : Int) ≤ cmpI (ev (readL sig)) (ev (readL key)) := by have := cmpI_nonneg.2 (show ev (readL key) ≤ ev (readL sig) by omega); omega
        generalize cmpI (ev (readL sig)) (ev (readL key)) = c at *
        clear h3
        go_wp2_with fail
        go_ret
        exact ⟨by rw [HN.out]; rfl, H3.out.2.2⟩
    · have HN : Hid (sokB key s sig = false) := sok_no fun h => h2 h.2
      have h1i : (key.size : Int) = 15 := by omega
      have h2i : ¬ (sig.size : Int) = 15 := by omega
      go_enter Tryz.func15, Tryz.ntmps15
      go_wp2_with fail
      go_ret
      exact ⟨by rw [HN.out]; rfl, Below.refl _ _⟩
  · have HN : Hid (sokB key s sig = false) := sok_no fun h => h1 h.1
    have h1i : ¬ (key.size : Int) = 15 := by omega
    go_enter Tryz.func15, Tryz.ntmps15
    go_wp2_with fail
    go_ret
    exact ⟨by rw [HN.out]; rfl, Below.refl _ _⟩
end Go.Proofs.YtoildgknpfehoaaGreatDoor
