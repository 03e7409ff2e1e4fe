/-
  Texts of the proof, one behind the other: ClT, NatF, NatC.
-/
import Derived.Test.YtfgkpjjjjnollaaGreatDoorSC2
import Derived.Test.YtfgkpjjjjnollaaGreatDoorSC9
import Derived.Test.YtfgkpjjjjnollaaGreatDoorSC10
import Derived.Test.YtfgkpjjjjnollaaGreatDoorSC15
import Derived.Test.YtfgkpjjjjnollaaGreatDoorSC16
import Derived.Test.YtfgkpjjjjnollaaGreatDoorSC17
import Derived.Test.YtfgkpjjjjnollaaGreatDoorSC18

/-
  CrlBody and CrlText of both: the bytes of what is signed, and of a list.
-/
namespace Go.Proofs.YtfgkpjjjjnollaaGreatDoor
open Go.RowKit Der
set_option linter.unusedVariables false

theorem sz_rev (p : Int × Int) : szI 2 (revI p) ≤ 12 := by
  have h1 : szI 1 (intI p.1) ≤ 5 := sz_int p.1
  have h2 : szI 1 (intI p.2) ≤ 5 := sz_int p.2
  unfold revI
  rw [sz_lst]
  simp only [List.map_cons, List.map_nil, List.sum_cons, List.sum_nil, List.length_cons, List.length_nil]
  omega
theorem sz_revs : ∀ l : List (Int × Int), ((l.map revI).map (szI 2)).sum ≤ 12 * l.length
  | [] => Nat.le_refl _
  | x :: l => by
    have h1 := sz_revs l
    have h2 := sz_rev x
    simp only [List.map_cons, List.sum_cons, List.length_cons]
    omega
theorem sz_bodyL {c : Cl} (h : wtL c ≤ 1048576) : szI 4 (bodyL c) ≤ 16000000 := by
  obtain ⟨z1, z2, z3⟩ := wtL_parts h
  have a1 : szI 3 (intI c.num) ≤ 5 := sz_int c.num
  have a2 : szI 3 (intI c.ths) ≤ 5 := sz_int c.ths
  have a3 : szI 3 (intI c.nxt) ≤ 5 := sz_int c.nxt
  have a4 : szI 3 (intI c.bas) ≤ 5 := sz_int c.bas
  have t0 : szI 3 (txtJ c.issuer) = c.issuer.size := rfl
  have r := sz_revs c.revs
  unfold bodyL headL
  rw [sz_lst]
  simp only [List.cons_append, List.nil_append, List.map_cons, List.map_nil, List.sum_cons, List.sum_nil, List.length_cons, List.length_nil]
  rw [sz_lst]
  simp only [List.length_map]
  omega
theorem to_bodyL {w w' : World} {c : Cl} {e : Ending} (h : ToIt w 3 (bodyL c) e w') : ∃ (a : Option Addr) (l cx : Nat) (fp : List Nat), e = .returned (.agg #[.int .i64 48, .string ⟨#[]⟩, .slice a l cx]) ∧ OwnK w' w.heap.size 3 (.slice a l cx) (It.kids (bodyL c)) fp ∧ Below w.heap.size w w' := to_any h
/-- A list in a variable's block. -/
def KR (w W : World) (a : Array Value) : Prop := Below w.heap.size w W ∧ Blk W w.heap.size 49 a
theorem KR.below {w W W' : World} {a : Array Value} (h : KR w W a) (hb : Below W.heap.size W W') : KR w W' a := ⟨h.1.trans (hb.mono h.1.size), h.2.below hb h.2.lt⟩
theorem KR.start {w W : World} {a : Array Value} (hW : W = w.alloc (Obj.cells a 49)) : KR w W a := by rw [hW]; exact ⟨(Below.refl _ _).alloc (Nat.le_refl _) _, Blk.new w _ _⟩
set_option maxHeartbeats 3200000 in
set_option maxRecDepth 100000 in
theorem specCrlBody_any (c : Cl) (v : Value) (w : World) (hz : wtL c ≤ 1048576) (hw : WdL c) (ha : ClAt w v c) : Calls Tryz.prog 46 #[v] w fun e w' => e = .returned (.string ⟨((writeI 4 (bodyL c)).getD []).toArray⟩) ∧ Below w.heap.size w w' := by
  obtain ⟨pv, rfl, hrv⟩ := ha
  obtain ⟨pa, pc, hpv⟩ : ∃ pa pc, pv = .slice pa c.revs.length pc := by obtain ⟨a, b, h, _⟩ := hrv; exact ⟨a, b, h⟩
  obtain ⟨lp, hlp⟩ : ∃ l, c.revs.length = l := ⟨_, rfl⟩
  rw [hlp] at hpv
  subst hpv
  have HC : Hid (ClAt w (clV c (.slice pa lp pc)) c ∧ RevAt w (.slice pa lp pc) c.revs) := ⟨⟨_, rfl, hrv⟩, hrv⟩
  clear hrv hlp
  unfold clV at HC ⊢
  obtain ⟨T, hT⟩ : ∃ T : ByteArray, (⟨((writeI 4 (bodyL c)).getD []).toArray⟩ : ByteArray) = T := ⟨_, rfl⟩
  rw [hT]
  have HT : Hid ((⟨((writeI 4 (bodyL c)).getD []).toArray⟩ : ByteArray) = T ∧ wtL c ≤ 1048576 ∧ WdL c) := ⟨hT, hz, hw⟩
  clear hT hz hw
  go_enter Tryz.func46, Tryz.ntmps46
  go_wp2_with fail
  obtain ⟨W1, hW1⟩ : ∃ W, W = w.alloc (Obj.cells #[.string c.issuer, .int .i64 c.num, .int .i64 c.ths, .int .i64 c.nxt, .int .i64 c.bas, .slice pa lp pc, .string c.sig] 49) := ⟨_, rfl⟩
  rw [← hW1]
  have H1 : Hid (Below w.heap.size w W1) := by rw [hW1]; exact (Below.refl _ _).alloc (Nat.le_refl _) _
  clear hW1
  refine (l10Item_any c _ W1 (Nat.le_trans HT.out.2.1 (by decide)) HT.out.2.2 (HC.out.1.below H1.out)).mono ?_
  rintro e w2 hto
  obtain ⟨a2, l2, x2, f2, rfl, ho2, hb2⟩ := to_bodyL hto
  clear hto
  have E2 := specItemText_any 4 (bodyL c) (.agg #[.int .i64 48, .string ⟨#[]⟩, .slice a2 l2 x2]) w2 ⟨_, rfl, ho2.at⟩ (Nat.le_trans (sz_bodyL HT.out.2.1) (by decide))
  rw [HT.out.1] at E2
  generalize (writeI 4 (bodyL c)).isSome = okB at E2
  have H2 : Hid (Below w.heap.size w w2) := H1.out.trans (hb2.mono H1.out.size)
  clear H1 ho2 hb2
  go_wp2_with fail
  refine E2.mono ?_
  rintro e w3 ⟨rfl, hb3⟩
  have H3 : Hid (Below w.heap.size w w3) := H2.out.trans (hb3.mono H2.out.size)
  clear E2 H2 hb3
  go_wp2_with fail
  go_ret
  exact ⟨rfl, H3.out⟩
set_option maxHeartbeats 3200000 in
set_option maxRecDepth 100000 in
theorem implCrlBody_any (c : Cl) (v : Value) (w : World) (hz : wtL c ≤ 1048576) (hw : WdL c) (ha : ClAt w v c) : Calls Tryz.prog 43 #[v] w fun e w' => e = .returned (.string ⟨((writeI 4 (bodyL c)).getD []).toArray⟩) ∧ Below w.heap.size w w' := by
  obtain ⟨pv, rfl, hrv⟩ := ha
  obtain ⟨pa, pc, hpv⟩ : ∃ pa pc, pv = .slice pa c.revs.length pc := by obtain ⟨a, b, h, _⟩ := hrv; exact ⟨a, b, h⟩
  obtain ⟨lp, hlp⟩ : ∃ l, c.revs.length = l := ⟨_, rfl⟩
  rw [hlp] at hpv
  subst hpv
  have HC : Hid (ClAt w (clV c (.slice pa lp pc)) c ∧ RevAt w (.slice pa lp pc) c.revs) := ⟨⟨_, rfl, hrv⟩, hrv⟩
  clear hrv hlp
  unfold clV at HC ⊢
  obtain ⟨T, hT⟩ : ∃ T : ByteArray, (⟨((writeI 4 (bodyL c)).getD []).toArray⟩ : ByteArray) = T := ⟨_, rfl⟩
  rw [hT]
  have HT : Hid ((⟨((writeI 4 (bodyL c)).getD []).toArray⟩ : ByteArray) = T ∧ wtL c ≤ 1048576 ∧ WdL c) := ⟨hT, hz, hw⟩
  clear hT hz hw
  go_enter Tryz.func43, Tryz.ntmps43
  go_wp2_with fail
  obtain ⟨W1, hW1⟩ : ∃ W, W = w.alloc (Obj.cells #[.string c.issuer, .int .i64 c.num, .int .i64 c.ths, .int .i64 c.nxt, .int .i64 c.bas, .slice pa lp pc, .string c.sig] 49) := ⟨_, rfl⟩
  rw [← hW1]
  have H1 : Hid (Below w.heap.size w W1) := by rw [hW1]; exact (Below.refl _ _).alloc (Nat.le_refl _) _
  clear hW1
  refine (tidingsOf_any c (.slice pa lp pc) W1 ⟨_, _, _, rfl⟩).mono ?_
  rintro e wt ⟨rfl, hbt⟩
  have Ht : Hid (Below w.heap.size w wt) := H1.out.trans (hbt.mono H1.out.size)
  clear H1 hbt
  have H1 := Ht
  clear Ht
  unfold tdV
  go_wp2_with fail
  refine (tidItem_any c pa lp pc wt (Nat.le_trans HT.out.2.1 (by decide)) HT.out.2.2 (HC.out.2.below H1.out)).mono ?_
  rintro e w2 hto
  obtain ⟨a2, l2, x2, f2, rfl, ho2, hb2⟩ := to_bodyL hto
  clear hto
  have E2 := implItemText_any 4 (bodyL c) (.agg #[.int .i64 48, .string ⟨#[]⟩, .slice a2 l2 x2]) w2 ⟨_, rfl, ho2.at⟩ (Nat.le_trans (sz_bodyL HT.out.2.1) (by decide))
  rw [HT.out.1] at E2
  generalize (writeI 4 (bodyL c)).isSome = okB at E2
  have H2 : Hid (Below w.heap.size w w2) := H1.out.trans (hb2.mono H1.out.size)
  clear H1 ho2 hb2
  go_wp2_with fail
  refine E2.mono ?_
  rintro e w3 ⟨rfl, hb3⟩
  have H3 : Hid (Below w.heap.size w w3) := H2.out.trans (hb3.mono H2.out.size)
  clear E2 H2 hb3
  go_wp2_with fail
  go_ret
  exact ⟨rfl, H3.out⟩
end Go.Proofs.YtfgkpjjjjnollaaGreatDoor

/-
  The program's compare and right.
-/
namespace Go.Proofs.YtfgkpjjjjnollaaGreatDoor
open Go.RowKit
/-- A list is a right one. -/
def okL (l : List Int) : Bool := decide (l.length ≤ 40) && (l.all fun x => decide (0 ≤ x) && decide (x ≤ 9999)) && (l.length == 0 || !(l.getD (l.length - 1) 0 == 0))
theorem okL_iff (l : List Int) : okL l = true ↔ l.length ≤ 40 ∧ Dig l ∧ Top l := by
  unfold okL
  rw [Bool.and_eq_true, Bool.and_eq_true, decide_eq_true_iff, List.all_eq_true, Bool.or_eq_true, beq_iff_eq, Bool.not_eq_true', beq_eq_false_iff_ne]
  constructor
  · rintro ⟨⟨h1, h2⟩, h3⟩
    refine ⟨h1, fun x hx => ?_, fun h0 => ?_⟩
    · have := h2 x hx
      rw [Bool.and_eq_true, decide_eq_true_iff, decide_eq_true_iff] at this
      exact this
    · rcases h3 with h3 | h3
      · omega
      · exact h3
  · rintro ⟨h1, h2, h3⟩
    refine ⟨⟨h1, fun x hx => ?_⟩, ?_⟩
    · rw [Bool.and_eq_true, decide_eq_true_iff, decide_eq_true_iff]
      exact h2 x hx
    · by_cases h0 : l.length = 0
      · exact .inl h0
      · exact .inr (h3 (by omega))
theorem okL_yes {l : List Int} (h1 : l.length ≤ 40) (h2 : Dig l) (h3 : Top l) : okL l = true := (okL_iff l).2 ⟨h1, h2, h3⟩
theorem okL_no {l : List Int} (h : ¬ (l.length ≤ 40 ∧ Dig l ∧ Top l)) : okL l = false := by
  rcases e : okL l with _ | _
  · rfl
  · exact absurd ((okL_iff l).1 e) h
set_option maxHeartbeats 1600000 in
set_option maxRecDepth 100000 in
theorem right_any (a : Value) (la : List Int) (w : World) (hl : la.length ≤ 10000000) (ha : IntAt w a la) (hw : ∀ x ∈ la, -9223372036854775808 ≤ x ∧ x ≤ 9223372036854775807) :
    Calls Tryz.prog 234 #[a] w fun e w' => e = .returned (.bool (okL la)) ∧ Below w.heap.size w w' := by
  obtain ⟨ao, ac, rfl, ha⟩ := ha
  have HA : Hid ((0 < la.length → ∃ g, ao = some ⟨g, 0, none⟩ ∧ g < w.heap.size ∧ ∀ j (hj : j < la.length), w.cell? ⟨g, j, none⟩ = some (.int .i64 la[j])) ∧ ∀ x ∈ la, -9223372036854775808 ≤ x ∧ x ≤ 9223372036854775807) := ⟨ha, hw⟩
  clear ha hw
  by_cases h40 : la.length ≤ 40
  · have hq40 : ¬ (40 : Int) < (la.length : Int) := by omega
    go_enter Tryz.func234, Tryz.ntmps234
    go_wp2
    go_loopw [10] (fun iv wr => ∃ k : Nat, k ≤ la.length ∧ iv = .int .i64 k ∧ Below w.heap.size w wr ∧ Hid (∀ j, j < k → 0 ≤ la.getD j 0 ∧ la.getD j 0 ≤ 9999)) (fun iv _ => la.length - (intOf iv).toNat)
    case atStart => exact ⟨0, Nat.zero_le _, rfl, Below.refl _ _, fun j hj => by omega⟩
    case round =>
      obtain ⟨k, hk, rfl, hbel, HK⟩ := hrel
      by_cases hlt : k < la.length
      · obtain ⟨g, hao, hgl, hcs⟩ := HA.out.1 (by omega)
        have hu : wr.cell? ⟨g, k, none⟩ = some (.int .i64 (la.getD k 0)) := by
          rw [hbel.cell (p := ⟨g, k, none⟩) hgl, hcs k hlt]; simp [List.getD, hlt]
        subst hao
        clear hcs hgl
        have HX : Hid (∀ x, la.getD k 0 = x → (0 ≤ x ∧ x ≤ 9999 → ∀ j, j < k + 1 → 0 ≤ la.getD j 0 ∧ la.getD j 0 ≤ 9999) ∧ (¬ (0 ≤ x ∧ x ≤ 9999) → okL la = false)) := fun x hx => by
          refine ⟨fun h j hj => ?_, fun h => okL_no fun h3 => h (hx ▸ h3.2.1.getD k)⟩
          by_cases e : j = k
          · rw [e, hx]; exact h
          · exact HK.out j (by omega)
        have HX2 := HX.out _ rfl
        have HX3 : Hid ((0 ≤ la.getD k 0 ∧ la.getD k 0 ≤ 9999 → ∀ j, j < k + 1 → 0 ≤ la.getD j 0 ∧ la.getD j 0 ≤ 9999) ∧ (¬ (0 ≤ la.getD k 0 ∧ la.getD k 0 ≤ 9999) → okL la = false)) := HX2
        clear HX HX2 HK
        have hki : (k : Int) < (la.length : Int) := by omega
        have hk0 : (0 : Int) ≤ (k : Int) := by omega
        generalize la.getD k 0 = x at *
        by_cases h0 : x < 0
        · go_wp2
          go_ret
          exact ⟨congrArg (fun z => Ending.returned (Value.bool z)) (HX3.out.2 (by omega)).symm, hbel⟩
        · by_cases h1 : x ≤ 9999
          · have h1' : ¬ (10000 : Int) ≤ x := by omega
            go_wp2
            go_roundw
            case rel => exact ⟨k + 1, by omega, by go_num, hbel, HX3.out.1 ⟨by omega, h1⟩⟩
            case measure => simp [intOf]; omega
          · have h1' : (10000 : Int) ≤ x := by omega
            go_wp2
            go_ret
            exact ⟨congrArg (fun z => Ending.returned (Value.bool z)) (HX3.out.2 (by omega)).symm, hbel⟩
      · have hkl : k = la.length := by omega
        subst hkl
        by_cases hz : la.length = 0
        · have hz' : ((la.length : Int) == 0) = true := by simpa using hz
          have HE : Hid (okL la = true) := okL_yes h40 (dig_of_getD HK.out) (fun h => by omega)
          go_wp2
          go_ret
          exact ⟨congrArg (fun z => Ending.returned (Value.bool z)) HE.out.symm, hbel⟩
        · have hz' : ((la.length : Int) == 0) = false := by simpa using hz
          obtain ⟨g, hao, hgl, hcs⟩ := HA.out.1 (by omega)
          have hu : wr.cell? ⟨g, la.length - 1, none⟩ = some (.int .i64 (la.getD (la.length - 1) 0)) := by
            rw [hbel.cell (p := ⟨g, la.length - 1, none⟩) hgl, hcs (la.length - 1) (by omega)]; simp [List.getD, show la.length - 1 < la.length by omega]
          subst hao
          clear hcs hgl
          have HE : Hid ((la.getD (la.length - 1) 0 ≠ 0 → okL la = true) ∧ (la.getD (la.length - 1) 0 = 0 → okL la = false)) := ⟨fun h => okL_yes h40 (dig_of_getD HK.out) (fun _ => h), fun h => okL_no (fun h3 => h3.2.2 (by omega) h)⟩
          clear HK
          generalize la.getD (la.length - 1) 0 = x at *
          have hz1 : 1 ≤ la.length := by omega
          by_cases hx : x = 0
          · subst hx
            go_wp2
            go_ret
            exact ⟨congrArg (fun z => Ending.returned (Value.bool z)) (HE.out.2 trivial).symm, hbel⟩
          · have hx' : (x == 0) = false := by simpa using hx
            go_wp2
            go_ret
            exact ⟨congrArg (fun z => Ending.returned (Value.bool z)) (show (x != 0) = okL la by rw [HE.out.1 hx]; simp [hx]), hbel⟩
  · rw [okL_no (fun h => h40 h.1)]
    have hq40 : (40 : Int) < (la.length : Int) := by omega
    go_enter Tryz.func234, Tryz.ntmps234
    go_wp2
    go_ret
    exact ⟨rfl, Below.refl _ _⟩
end Go.Proofs.YtfgkpjjjjnollaaGreatDoor

/-
  The program's settle: each place is brought into the range of a figure, the rest is carried on.
-/
namespace Go.Proofs.YtfgkpjjjjnollaaGreatDoor
open Go.RowKit

/-- Where the settling stands: k places from p on are figures; what is carried is missing at the next. -/
structure Stl (L0 : List Int) (p k : Nat) (L : List Int) (c : Int) : Prop where
  len : L.length = L0.length
  val : ev L + 10000 ^ (p + k) * c = ev L0
  lo : ∀ j, j < p → L.getD j 0 = L0.getD j 0
  mid : ∀ j, p ≤ j → j < p + k → 0 ≤ L.getD j 0 ∧ L.getD j 0 ≤ 9999
  hi : ∀ j, p + k ≤ j → L.getD j 0 = L0.getD j 0
  small : -200000000 ≤ c ∧ c ≤ 200000000
theorem Stl.start (L0 : List Int) (p : Nat) : Stl L0 p 0 L0 0 := ⟨rfl, by simp, fun _ _ => rfl, fun j h1 h2 => by omega, fun _ _ => rfl, by omega⟩
theorem Stl.step {L0 L : List Int} {p k : Nat} {c : Int} (h : Stl L0 p k L c) (hk : p + k < L0.length) (hb : -1000000000000 ≤ L.getD (p + k) 0 ∧ L.getD (p + k) 0 ≤ 1000000000000) :
    Stl L0 p (k + 1) (L.set (p + k) ((L.getD (p + k) 0 + c) % 10000)) ((L.getD (p + k) 0 + c) / 10000) := by
  have hl := h.len
  have hs := h.small
  have hkl : p + k < L.length := by omega
  refine ⟨by simp [hl], ?_, fun j hj => ?_, fun j h1 h2 => ?_, fun j hj => ?_, by omega⟩
  · rw [ev_set _ hkl, ← h.val, ← Nat.add_assoc, pw_succ]
    have e : (L.getD (p + k) 0 + c) % 10000 + 10000 * ((L.getD (p + k) 0 + c) / 10000) = L.getD (p + k) 0 + c := Int.emod_add_mul_ediv _ _
    generalize (L.getD (p + k) 0 + c) % 10000 = r at *
    generalize (L.getD (p + k) 0 + c) / 10000 = q at *
    have e' : r = L.getD (p + k) 0 + c - 10000 * q := by omega
    rw [e']
    grind
  · rw [getD_set _ hkl, if_neg (by omega)]
    exact h.lo j hj
  · rw [getD_set _ hkl]
    by_cases e : j = p + k
    · rw [if_pos e]; omega
    · rw [if_neg e]
      exact h.mid j h1 (by omega)
  · rw [getD_set _ hkl, if_neg (by omega)]
    exact h.hi j (by omega)
theorem tmod_fix (v : Int) : (if v.tmod 10000 < 0 then v.tmod 10000 + 10000 else v.tmod 10000) = v % 10000 := by
  have := Int.tmod_eq_emod (a := v) (b := 10000)
  split at this <;> split <;> omega
theorem tdiv_fix (v : Int) : (v - v % 10000).tdiv 10000 = v / 10000 := by
  rw [Int.tdiv_eq_ediv]
  split <;> omega

set_option maxHeartbeats 1600000 in
set_option maxRecDepth 100000 in
theorem settle_any (g p m c cap base : Nat) (L0 : List Int) (w : World) (hl : L0.length ≤ 1000000) (hpm : p + m ≤ L0.length) (hb : ∀ j, -1000000000000 ≤ L0.getD j 0 ∧ L0.getD j 0 ≤ 1000000000000)
    (hv : OwnI w base (.slice (some ⟨g, 0, none⟩) L0.length cap) L0) :
    Calls Tryz.prog 283 #[.slice (some ⟨g, p, none⟩) m c] w fun e w' => ∃ (L : List Int) (cy : Int), e = .returned (.int .i64 cy) ∧ Stl L0 p m L cy ∧ OwnI w' base (.slice (some ⟨g, 0, none⟩) L.length cap) L ∧ Below base w w' ∧ w.grownBy w' (some g) := by
  have HV : Hid (OwnI w base (.slice (some ⟨g, 0, none⟩) L0.length cap) L0) := hv
  have HB : Hid (∀ j, -1000000000000 ≤ L0.getD j 0 ∧ L0.getD j 0 ≤ 1000000000000) := hb
  clear hv hb
  go_enter Tryz.func283, Tryz.ntmps283
  go_wp2
  go_loopw [3, 9] (fun cv iv wr => ∃ (k : Nat) (L : List Int) (cy : Int), k ≤ m ∧ iv = .int .i64 k ∧ cv = .int .i64 cy ∧ Hid (Stl L0 p k L cy ∧ OwnI wr base (.slice (some ⟨g, 0, none⟩) L.length cap) L ∧ w.grownBy wr (some g))) (fun _ iv _ => m - (intOf iv).toNat)
  case atStart => exact ⟨0, L0, 0, Nat.zero_le _, rfl, rfl, Stl.start _ _, HV.out, World.grownBy.refl _ _⟩
  case round =>
    obtain ⟨k, L, cy, hk, rfl, rfl, H⟩ := hrel
    have hs := H.out.1.small
    by_cases hlt : k < m
    · have hll : L.length = L0.length := H.out.1.len
      have hpk : p + k < L.length := by omega
      have hu := H.out.2.1.cell hpk
      have hf := H.out.2.1.frozen (p + k)
      have hbx : -1000000000000 ≤ L.getD (p + k) 0 ∧ L.getD (p + k) 0 ≤ 1000000000000 := by rw [H.out.1.hi _ (Nat.le_refl _)]; exact HB.out _
      have HST := H.out.1.step (by omega) hbx
      have HOW := fun y => H.out.2.1.set (p + k) y
      have HBL := fun y => grown_trans H.out.2.2 (grown_set wr g (p + k) (.int .i64 y))
      have HN : Hid (Stl L0 p (k + 1) (L.set (p + k) ((L.getD (p + k) 0 + cy) % 10000)) ((L.getD (p + k) 0 + cy) / 10000) ∧ (∀ y, OwnI (wr.setCell ⟨g, p + k, none⟩ (.int .i64 y)) base (.slice (some ⟨g, 0, none⟩) (L.set (p + k) y).length cap) (L.set (p + k) y)) ∧ ∀ y, w.grownBy (wr.setCell ⟨g, p + k, none⟩ (.int .i64 y)) (some g)) := ⟨HST, HOW, HBL⟩
      clear HST HOW HBL H hll hpk
      generalize L.getD (p + k) 0 = x at *
      have hki : (k : Int) < (m : Int) := by omega
      have hk0 : (0 : Int) ≤ (k : Int) := by omega
      have ht1 := tmod_fix (x + cy)
      have ht2 := tdiv_fix (x + cy)
      have hr0 : 0 ≤ (x + cy) % 10000 := by omega
      have hr1 : (x + cy) % 10000 ≤ 9999 := by omega
      have hq0 : -200000000 ≤ (x + cy) / 10000 := by omega
      have hq1 : (x + cy) / 10000 ≤ 200000000 := by omega
      generalize (x + cy) % 10000 = r at *
      generalize (x + cy) / 10000 = q at *
      obtain ⟨t, ht⟩ : ∃ t, (x + cy).tmod 10000 = t := ⟨_, rfl⟩
      rw [ht] at ht1
      by_cases hneg : t < 0
      · rw [if_pos hneg] at ht1
        have ht1' : t = r - 10000 := by omega
        subst ht1'
        clear ht1
        have e1 : r - 10000 + 10000 = r := by omega
        go_wp2
        go_roundw
        case rel => exact ⟨k + 1, _, q, by omega, by go_num, rfl, HN.out.1, HN.out.2.1 _, HN.out.2.2 _⟩
        case measure => simp [intOf]; omega
      · rw [if_neg hneg] at ht1
        subst ht1
        go_wp2
        go_roundw
        case rel => exact ⟨k + 1, _, q, by omega, by go_num, rfl, HN.out.1, HN.out.2.1 _, HN.out.2.2 _⟩
        case measure => simp [intOf]; omega
    · have hkm : k = m := by omega
      subst hkm
      go_wp2
      go_ret
      exact ⟨L, cy, rfl, H.out.1, H.out.2.1, below_of_grown H.out.2.2 HV.out.lt.1 HV.out.lt.2, H.out.2.2⟩
end Go.Proofs.YtfgkpjjjjnollaaGreatDoor
