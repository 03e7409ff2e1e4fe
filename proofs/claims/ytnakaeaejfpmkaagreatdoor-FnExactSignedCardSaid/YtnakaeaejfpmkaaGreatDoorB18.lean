/-
  Texts of the proof, one behind the other: SzP, CrU, NatF.
-/
import Derived.Test.YtnakaeaejfpmkaaGreatDoorB2
import Derived.Test.YtnakaeaejfpmkaaGreatDoorB5
import Derived.Test.YtnakaeaejfpmkaaGreatDoorB6
import Derived.Test.YtnakaeaejfpmkaaGreatDoorB9
import Derived.Test.YtnakaeaejfpmkaaGreatDoorB10
import Derived.Test.YtnakaeaejfpmkaaGreatDoorB13
import Derived.Test.YtnakaeaejfpmkaaGreatDoorB14
import Derived.Test.YtnakaeaejfpmkaaGreatDoorB15
import Derived.Test.YtnakaeaejfpmkaaGreatDoorB17

/-
  How great items are.
-/
namespace Go.Proofs.YtnakaeaejfpmkaaGreatDoor
open Go.RowKit Der
set_option linter.unusedVariables false

theorem sz_lst {n : Nat} (ks : List (It n)) : szI (n + 1) (lstJ ks) = ks.length + (ks.map (szI n)).sum := by
  show 0 + ks.length + (ks.map (szI n)).sum = _
  omega
theorem sz_int {n : Nat} (x : Int) : szI (n + 1) (intI x) ≤ 5 := by
  have h := intT_ok (numN_le x)
  unfold plainOk at h
  rw [if_neg (by decide), if_pos rfl] at h
  simp only [Bool.and_eq_true, decide_eq_true_eq] at h
  show (intT (numN x)).length + 0 + 0 ≤ 5
  omega
theorem sz_txt {n : Nat} (s : ByteArray) : szI (n + 1) (txtJ s) = s.size := rfl
theorem sz_ints {n : Nat} : ∀ l : List Int, ((l.map (intI (n := n))).map (szI (n + 1))).sum ≤ 5 * l.length
  | [] => Nat.le_refl _
  | x :: l => by
    have h1 := sz_ints (n := n) l
    have h2 := sz_int (n := n) x
    simp only [List.map_cons, List.sum_cons, List.length_cons]
    omega
theorem sz_txts {n : Nat} : ∀ l : List ByteArray, l.length + ((l.map (txtJ (n := n))).map (szI (n + 1))).sum = totT l
  | [] => rfl
  | x :: l => by
    have h1 := sz_txts (n := n) l
    have h2 := sz_txt (n := n) x
    simp only [List.map_cons, List.sum_cons, List.length_cons, totT]
    omega
end Go.Proofs.YtnakaeaejfpmkaaGreatDoor

/-
  BodyText and CertText of both: the bytes of what is signed, and of a letter.
-/
namespace Go.Proofs.YtnakaeaejfpmkaaGreatDoor
open Go.RowKit Der
set_option linter.unusedVariables false

theorem sz_body {c : Ct} (h : wtC c ≤ 1048576) : szI 3 (bodyC c) ≤ 8000000 := by
  unfold wtC at h
  have a0 : szI 2 (intI c.serial) ≤ 5 := sz_int c.serial
  have a6 : szI 2 (intI c.pathLen) ≤ 5 := sz_int c.pathLen
  have a7 : szI 2 (intI c.usage) ≤ 5 := sz_int c.usage
  have f : szI 1 (intI c.frm) ≤ 5 := sz_int c.frm
  have u : szI 1 (intI c.upto) ≤ 5 := sz_int c.upto
  have p : ((c.pol.map intI).map (szI 1)).sum ≤ 5 * c.pol.length := sz_ints (n := 0) c.pol
  have e : c.per.length + ((c.per.map txtJ).map (szI 1)).sum = totT c.per := sz_txts (n := 0) c.per
  have d : c.den.length + ((c.den.map txtJ).map (szI 1)).sum = totT c.den := sz_txts (n := 0) c.den
  have t1 : szI 2 (txtJ c.issuer) = c.issuer.size := rfl
  have t3 : szI 2 (txtJ c.subject) = c.subject.size := rfl
  have t4 : szI 2 (bytJ c.key) = c.key.size := rfl
  have t5 : szI 2 (flagJ c.ca) = 1 := rfl
  unfold bodyC
  rw [sz_lst]
  simp only [List.map_cons, List.map_nil, List.sum_cons, List.sum_nil, List.length_cons, List.length_nil]
  rw [sz_lst, sz_lst, sz_lst, sz_lst]
  simp only [List.map_cons, List.map_nil, List.sum_cons, List.sum_nil, List.length_cons, List.length_nil, List.length_map]
  omega
theorem to_body {w w' : World} {c : Ct} {e : Ending} (h : ToIt w 2 (bodyC c) e w') : ∃ (a : Option Addr) (l cx : Nat) (fp : List Nat), e = .returned (.agg #[.int .i64 48, .string ⟨#[]⟩, .slice a l cx]) ∧ OwnK w' w.heap.size 2 (.slice a l cx) (It.kids (bodyC c)) fp ∧ Below w.heap.size w w' := by
  obtain ⟨k, fp, rfl, ho, hb⟩ := h
  obtain ⟨a, cx, rfl⟩ := ho.shape
  exact ⟨a, _, cx, fp, rfl, ho, hb⟩
/-- A letter in a variable's block. -/
def KS (w W : World) (a : Array Value) : Prop := Below w.heap.size w W ∧ Blk W w.heap.size 27 a
theorem KS.below {w W W' : World} {a : Array Value} (h : KS w W a) (hb : Below W.heap.size W W') : KS w W' a := ⟨h.1.trans (hb.mono h.1.size), h.2.below hb h.2.lt⟩
theorem KS.start {w W : World} {a : Array Value} (hW : W = w.alloc (Obj.cells a 27)) : KS w W a := by rw [hW]; exact ⟨(Below.refl _ _).alloc (Nat.le_refl _) _, Blk.new w _ _⟩

set_option maxHeartbeats 3200000 in
set_option maxRecDepth 100000 in
theorem specBodyText_any (c : Ct) (v : Value) (w : World) (hz : wtC c ≤ 1048576) (hw : WdC c) (ha : CtAt w v c) : Calls Tryz.prog 26 #[v] w fun e w' => e = .returned (.string ⟨((writeI 3 (bodyC c)).getD []).toArray⟩) ∧ Below w.heap.size w w' := by
  obtain ⟨pa, pc, ea, ec, da, dc, hv⟩ := CtAt.shape ha
  subst hv
  have HC : Hid (CtAt w _ c) := ha
  clear ha
  unfold ctV at HC ⊢
  obtain ⟨T, hT⟩ : ∃ T : ByteArray, (⟨((writeI 3 (bodyC c)).getD []).toArray⟩ : ByteArray) = T := ⟨_, rfl⟩
  rw [hT]
  have HT : Hid ((⟨((writeI 3 (bodyC c)).getD []).toArray⟩ : ByteArray) = T ∧ wtC c ≤ 1048576 ∧ WdC c) := ⟨hT, hz, hw⟩
  clear hT hz hw
  go_enter Tryz.func26, Tryz.ntmps26
  go_wp2_with fail
  obtain ⟨W1, hW1⟩ : ∃ W, W = w.alloc (Obj.cells #[.int .i64 c.serial, .string c.issuer, .string c.subject, .int .i64 c.frm, .int .i64 c.upto, .string c.key, .bool c.ca, .int .i64 c.pathLen, .int .i64 c.usage, .slice pa c.pol.length pc, .slice ea c.per.length ec, .slice da c.den.length dc, .string c.sig] 27) := ⟨_, rfl⟩
  rw [← hW1]
  have H1 : Hid (KS w W1 #[.int .i64 c.serial, .string c.issuer, .string c.subject, .int .i64 c.frm, .int .i64 c.upto, .string c.key, .bool c.ca, .int .i64 c.pathLen, .int .i64 c.usage, .slice pa c.pol.length pc, .slice ea c.per.length ec, .slice da c.den.length dc, .string c.sig]) := KS.start hW1
  clear hW1
  refine (specBodyItem_any c _ W1 (Nat.le_trans HT.out.2.1 (by decide)) HT.out.2.2 (HC.out.below H1.out.1)).mono ?_
  rintro e w2 hto
  obtain ⟨a2, l2, x2, f2, rfl, ho2, hb2⟩ := to_body hto
  clear hto
  have E2 := specItemText_any 3 (bodyC c) (.agg #[.int .i64 48, .string ⟨#[]⟩, .slice a2 l2 x2]) w2 ⟨_, rfl, ho2.at⟩ (Nat.le_trans (sz_body HT.out.2.1) (by decide))
  rw [HT.out.1] at E2
  generalize (writeI 3 (bodyC c)).isSome = okB at E2
  have H2 : Hid (Below w.heap.size w w2) := H1.out.1.trans (hb2.mono H1.out.1.size)
  clear H1 ho2 hb2
  go_wp2_with fail
  refine E2.mono ?_
  rintro e w3 ⟨rfl, hb3⟩
  have H3 : Hid (Below w.heap.size w w3) := H2.out.trans (hb3.mono H2.out.size)
  clear E2 H2 hb3
  go_wp2_with fail
  go_ret
  exact ⟨rfl, H3.out⟩
set_option maxHeartbeats 3200000 in
set_option maxRecDepth 100000 in
theorem implBodyText_any (c : Ct) (v : Value) (w : World) (hz : wtC c ≤ 1048576) (hw : WdC c) (ha : CtAt w v c) : Calls Tryz.prog 22 #[v] w fun e w' => e = .returned (.string ⟨((writeI 3 (bodyC c)).getD []).toArray⟩) ∧ Below w.heap.size w w' := by
  obtain ⟨pa, pc, ea, ec, da, dc, hv⟩ := CtAt.shape ha
  subst hv
  have HC : Hid (CtAt w _ c) := ha
  clear ha
  unfold ctV at HC ⊢
  obtain ⟨T, hT⟩ : ∃ T : ByteArray, (⟨((writeI 3 (bodyC c)).getD []).toArray⟩ : ByteArray) = T := ⟨_, rfl⟩
  rw [hT]
  have HT : Hid ((⟨((writeI 3 (bodyC c)).getD []).toArray⟩ : ByteArray) = T ∧ wtC c ≤ 1048576 ∧ WdC c) := ⟨hT, hz, hw⟩
  clear hT hz hw
  go_enter Tryz.func22, Tryz.ntmps22
  go_wp2_with fail
  obtain ⟨W1, hW1⟩ : ∃ W, W = w.alloc (Obj.cells #[.int .i64 c.serial, .string c.issuer, .string c.subject, .int .i64 c.frm, .int .i64 c.upto, .string c.key, .bool c.ca, .int .i64 c.pathLen, .int .i64 c.usage, .slice pa c.pol.length pc, .slice ea c.per.length ec, .slice da c.den.length dc, .string c.sig] 27) := ⟨_, rfl⟩
  rw [← hW1]
  have H1 : Hid (KS w W1 #[.int .i64 c.serial, .string c.issuer, .string c.subject, .int .i64 c.frm, .int .i64 c.upto, .string c.key, .bool c.ca, .int .i64 c.pathLen, .int .i64 c.usage, .slice pa c.pol.length pc, .slice ea c.per.length ec, .slice da c.den.length dc, .string c.sig]) := KS.start hW1
  clear hW1
  refine (implBodyItem_any c _ W1 (Nat.le_trans HT.out.2.1 (by decide)) HT.out.2.2 (HC.out.below H1.out.1)).mono ?_
  rintro e w2 hto
  obtain ⟨a2, l2, x2, f2, rfl, ho2, hb2⟩ := to_body hto
  clear hto
  have E2 := implItemText_any 3 (bodyC c) (.agg #[.int .i64 48, .string ⟨#[]⟩, .slice a2 l2 x2]) w2 ⟨_, rfl, ho2.at⟩ (Nat.le_trans (sz_body HT.out.2.1) (by decide))
  rw [HT.out.1] at E2
  generalize (writeI 3 (bodyC c)).isSome = okB at E2
  have H2 : Hid (Below w.heap.size w w2) := H1.out.1.trans (hb2.mono H1.out.1.size)
  clear H1 ho2 hb2
  go_wp2_with fail
  refine E2.mono ?_
  rintro e w3 ⟨rfl, hb3⟩
  have H3 : Hid (Below w.heap.size w w3) := H2.out.trans (hb3.mono H2.out.size)
  clear E2 H2 hb3
  go_wp2_with fail
  go_ret
  exact ⟨rfl, H3.out⟩
end Go.Proofs.YtnakaeaejfpmkaaGreatDoor

/-
  The program's compare and right.
-/
namespace Go.Proofs.YtnakaeaejfpmkaaGreatDoor
open Go.RowKit
/-- A list is a right one. -/
def okL (l : List Int) : Bool := decide (l.length ≤ 40) && (l.all fun x => decide (0 ≤ x) && decide (x ≤ 9999)) && (l.length == 0 || !(l.getD (l.length - 1) 0 == 0))
theorem okL_iff (l : List Int) : okL l = true ↔ l.length ≤ 40 ∧ Dig l ∧ Top l := by
  unfold okL
  rw [Bool.and_eq_true, Bool.and_eq_true, decide_eq_true_iff, List.all_eq_true, Bool.or_eq_true, beq_iff_eq, Bool.not_eq_true', beq_eq_false_iff_ne]
  constructor
  · rintro ⟨⟨h1, h2⟩, h3⟩
    refine ⟨h1, fun x hx => ?_, fun h0 => ?_⟩
    · have := h2 x hx
      rw [Bool.and_eq_true, decide_eq_true_iff, decide_eq_true_iff] at this
      exact this
    · rcases h3 with h3 | h3
      · omega
      · exact h3
  · rintro ⟨h1, h2, h3⟩
    refine ⟨⟨h1, fun x hx => ?_⟩, ?_⟩
    · rw [Bool.and_eq_true, decide_eq_true_iff, decide_eq_true_iff]
      exact h2 x hx
    · by_cases h0 : l.length = 0
      · exact .inl h0
      · exact .inr (h3 (by omega))
theorem okL_yes {l : List Int} (h1 : l.length ≤ 40) (h2 : Dig l) (h3 : Top l) : okL l = true := (okL_iff l).2 ⟨h1, h2, h3⟩
theorem okL_no {l : List Int} (h : ¬ (l.length ≤ 40 ∧ Dig l ∧ Top l)) : okL l = false := by
  rcases e : okL l with _ | _
  · rfl
  · exact absurd ((okL_iff l).1 e) h
set_option maxHeartbeats 1600000 in
set_option maxRecDepth 100000 in
theorem right_any (a : Value) (la : List Int) (w : World) (hl : la.length ≤ 10000000) (ha : IntAt w a la) (hw : ∀ x ∈ la, -9223372036854775808 ≤ x ∧ x ≤ 9223372036854775807) :
    Calls Tryz.prog 211 #[a] w fun e w' => e = .returned (.bool (okL la)) ∧ Below w.heap.size w w' := by
  obtain ⟨ao, ac, rfl, ha⟩ := ha
  have HA : Hid ((0 < la.length → ∃ g, ao = some ⟨g, 0, none⟩ ∧ g < w.heap.size ∧ ∀ j (hj : j < la.length), w.cell? ⟨g, j, none⟩ = some (.int .i64 la[j])) ∧ ∀ x ∈ la, -9223372036854775808 ≤ x ∧ x ≤ 9223372036854775807) := ⟨ha, hw⟩
  clear ha hw
  by_cases h40 : la.length ≤ 40
  · have hq40 : ¬ (40 : Int) < (la.length : Int) := by omega
    go_enter Tryz.func211, Tryz.ntmps211
    go_wp2
    go_loopw [10] (fun iv wr => ∃ k : Nat, k ≤ la.length ∧ iv = .int .i64 k ∧ Below w.heap.size w wr ∧ Hid (∀ j, j < k → 0 ≤ la.getD j 0 ∧ la.getD j 0 ≤ 9999)) (fun iv _ => la.length - (intOf iv).toNat)
    case atStart => exact ⟨0, Nat.zero_le _, rfl, Below.refl _ _, fun j hj => by omega⟩
    case round =>
      obtain ⟨k, hk, rfl, hbel, HK⟩ := hrel
      by_cases hlt : k < la.length
      · obtain ⟨g, hao, hgl, hcs⟩ := HA.out.1 (by omega)
        have hu : wr.cell? ⟨g, k, none⟩ = some (.int .i64 (la.getD k 0)) := by
          rw [hbel.cell (p := ⟨g, k, none⟩) hgl, hcs k hlt]; simp [List.getD, hlt]
        subst hao
        clear hcs hgl
        have HX : Hid (∀ x, la.getD k 0 = x → (0 ≤ x ∧ x ≤ 9999 → ∀ j, j < k + 1 → 0 ≤ la.getD j 0 ∧ la.getD j 0 ≤ 9999) ∧ (¬ (0 ≤ x ∧ x ≤ 9999) → okL la = false)) := fun x hx => by
          refine ⟨fun h j hj => ?_, fun h => okL_no fun h3 => h (hx ▸ h3.2.1.getD k)⟩
          by_cases e : j = k
          · rw [e, hx]; exact h
          · exact HK.out j (by omega)
        have HX2 := HX.out _ rfl
        have HX3 : Hid ((0 ≤ la.getD k 0 ∧ la.getD k 0 ≤ 9999 → ∀ j, j < k + 1 → 0 ≤ la.getD j 0 ∧ la.getD j 0 ≤ 9999) ∧ (¬ (0 ≤ la.getD k 0 ∧ la.getD k 0 ≤ 9999) → okL la = false)) := HX2
        clear HX HX2 HK
        have hki : (k : Int) < (la.length : Int) := by omega
        have hk0 : (0 : Int) ≤ (k : Int) := by omega
        generalize la.getD k 0 = x at *
        by_cases h0 : x < 0
        · go_wp2
          go_ret
          exact ⟨congrArg (fun z => Ending.returned (Value.bool z)) (HX3.out.2 (by omega)).symm, hbel⟩
        · by_cases h1 : x ≤ 9999
          · have h1' : ¬ (10000 : Int) ≤ x := by omega
            go_wp2
            go_roundw
            case rel => exact ⟨k + 1, by omega, by go_num, hbel, HX3.out.1 ⟨by omega, h1⟩⟩
            case measure => simp [intOf]; omega
          · have h1' : (10000 : Int) ≤ x := by omega
            go_wp2
            go_ret
            exact ⟨congrArg (fun z => Ending.returned (Value.bool z)) (HX3.out.2 (by omega)).symm, hbel⟩
      · have hkl : k = la.length := by omega
        subst hkl
        by_cases hz : la.length = 0
        · have hz' : ((la.length : Int) == 0) = true := by simpa using hz
          have HE : Hid (okL la = true) := okL_yes h40 (dig_of_getD HK.out) (fun h => by omega)
          go_wp2
          go_ret
          exact ⟨congrArg (fun z => Ending.returned (Value.bool z)) HE.out.symm, hbel⟩
        · have hz' : ((la.length : Int) == 0) = false := by simpa using hz
          obtain ⟨g, hao, hgl, hcs⟩ := HA.out.1 (by omega)
          have hu : wr.cell? ⟨g, la.length - 1, none⟩ = some (.int .i64 (la.getD (la.length - 1) 0)) := by
            rw [hbel.cell (p := ⟨g, la.length - 1, none⟩) hgl, hcs (la.length - 1) (by omega)]; simp [List.getD, show la.length - 1 < la.length by omega]
          subst hao
          clear hcs hgl
          have HE : Hid ((la.getD (la.length - 1) 0 ≠ 0 → okL la = true) ∧ (la.getD (la.length - 1) 0 = 0 → okL la = false)) := ⟨fun h => okL_yes h40 (dig_of_getD HK.out) (fun _ => h), fun h => okL_no (fun h3 => h3.2.2 (by omega) h)⟩
          clear HK
          generalize la.getD (la.length - 1) 0 = x at *
          have hz1 : 1 ≤ la.length := by omega
          by_cases hx : x = 0
          · subst hx
            go_wp2
            go_ret
            exact ⟨congrArg (fun z => Ending.returned (Value.bool z)) (HE.out.2 trivial).symm, hbel⟩
          · have hx' : (x == 0) = false := by simpa using hx
            go_wp2
            go_ret
            exact ⟨congrArg (fun z => Ending.returned (Value.bool z)) (show (x != 0) = okL la by rw [HE.out.1 hx]; simp [hx]), hbel⟩
  · rw [okL_no (fun h => h40 h.1)]
    have hq40 : (40 : Int) < (la.length : Int) := by omega
    go_enter Tryz.func211, Tryz.ntmps211
    go_wp2
    go_ret
    exact ⟨rfl, Below.refl _ _⟩
end Go.Proofs.YtnakaeaejfpmkaaGreatDoor
