/-
  Texts of the proof, one behind the other: ItY, ClT, NatF.
-/
import Derived.Test.YtnakaeaejfpmkaaGreatDoorA2
import Derived.Test.YtnakaeaejfpmkaaGreatDoorA9
import Derived.Test.YtnakaeaejfpmkaaGreatDoorA10
import Derived.Test.YtnakaeaejfpmkaaGreatDoorA14
import Derived.Test.YtnakaeaejfpmkaaGreatDoorA15
import Derived.Test.YtnakaeaejfpmkaaGreatDoorA16

/-
  The program's ItemText.
-/
namespace Go.Proofs.YtnakaeaejfpmkaaGreatDoor
open Go.RowKit Der
set_option linter.unusedVariables false

theorem leaf_post {n : Nat} {t : Int} {s : List UInt8} {ks : List (It n)} {w w' : World} {e : Ending} (h48 : t ≠ 48) (h : TxPost t (fun r => r = s) w e w') :
    ∃ r : List UInt8, e = .returned (.string ⟨r.toArray⟩) ∧ GoodT r (txtI (n + 1) (It.mk t s ks)) ∧ r.length ≤ 11 + 12 * szI (n + 1) (It.mk t s ks) ∧ Below w.heap.size w w' := by
  obtain ⟨r, rfl, rfl, hb⟩ := h
  have e : txtI (n + 1) (It.mk t r ks) = UInt8.ofNat (t % 256).toNat :: (lenB r.length ++ r) := by
    show UInt8.ofNat (t % 256).toNat :: (lenB (if t = 48 then _ else r).length ++ (if t = 48 then _ else r)) = _
    rw [if_neg h48]
  have h1 := txt_le (n + 1) (It.mk t r ks)
  rw [← e]
  exact ⟨_, rfl, GoodT.refl _, h1, hb⟩
theorem row_post {n : Nat} {ks : List (It n)} {w w' : World} {e : Ending} (h : TxPost 48 (fun r => GoodT r ((ks.map (txtI n)).flatten) ∧ r.length ≤ 12 * szS n ks) w e w') :
    ∃ r : List UInt8, e = .returned (.string ⟨r.toArray⟩) ∧ GoodT r (txtI (n + 1) (It.mk 48 [] ks)) ∧ r.length ≤ 11 + 12 * szI (n + 1) (It.mk 48 [] ks) ∧ Below w.heap.size w w' := by
  obtain ⟨r, rfl, ⟨hg, hl⟩, hb⟩ := h
  have e : txtI (n + 1) (It.mk 48 [] ks) = UInt8.ofNat ((48 : Int) % 256).toNat :: (lenB ((ks.map (txtI n)).flatten).length ++ (ks.map (txtI n)).flatten) := rfl
  refine ⟨_, rfl, ?_, ?_, hb⟩
  · rw [e]
    exact GoodT.whole (b := []) hg
  · have h1 := beN_short9 r.length
    have h2 : szI (n + 1) (It.mk 48 [] ks) = szS n ks := by
      show ([] : List UInt8).length + ks.length + (ks.map (szI n)).sum = ks.length + (ks.map (szI n)).sum
      simp
    rw [h2]
    simp only [List.length_cons, List.length_append]
    omega
theorem txC_of (n : Nat) (HB : Hid (BdC n)) : TxC n := fun t s ks a d w hx hz hr => by
  have hsz := szI_kid hz
  obtain ⟨ax, cx, rfl, hcx⟩ := id hx
  rw [right_mk] at hr
  by_cases h48 : t = 48
  · subst h48
    rw [if_neg (by simp)] at hr
    simp only [Bool.and_eq_true, List.all_eq_true] at hr
    obtain ⟨⟨⟨hs, _⟩, _⟩, hall⟩ := hr
    have hs0 := of_decide_eq_true hs
    obtain rfl : s = [] := List.eq_nil_of_length_eq_zero hs0
    refine (textOf_row 48 [] ax ks.length cx w hsz.2.1 hsz.1 (formV_row _ _) (fun r => GoodT r ((ks.map (txtI n)).flatten) ∧ r.length ≤ 12 * szS n ks) fun w3 hb => ?_).mono fun e w' h => row_post h
    refine (HB.out ks _ (d + 1) w3 (hx.mono hb fun _ _ h => ItAt.below hb h) (szS_of hz) hall).mono ?_
    rintro e w' ⟨r, rfl, hg, hl, hb'⟩
    have := szS_of hz
    exact ⟨r, rfl, ⟨hg, hl⟩, by omega, hb'⟩
  · rw [if_pos h48, Bool.and_eq_true] at hr
    have hk0 : ks.length = 0 := of_decide_eq_true hr.1
    have hp := hr.2
    rw [hk0]
    have done : ∀ w3 : World, ∀ F : Nat, (Calls Tryz.prog F #[.string ⟨s.toArray⟩] w3 fun e w' => e = .returned (.string ⟨s.toArray⟩) ∧ Below w3.heap.size w3 w') → Calls Tryz.prog F #[.string ⟨s.toArray⟩] w3 fun e w' => ∃ r : List UInt8, e = .returned (.string ⟨r.toArray⟩) ∧ r = s ∧ r.length ≤ 400000000 ∧ Below w3.heap.size w3 w' :=
      fun w3 F h => h.mono fun e w' ⟨h1, h2⟩ => ⟨s, h1, rfl, by omega, h2⟩
    rcases plainOk_tag hp with rfl | rfl | rfl | rfl
    · exact (textOf_flag 1 s ax 0 cx w (by omega) hsz.1 (formV_one _ _) (fun r => r = s) fun w3 _ => done w3 _ (body_flag ⟨s.toArray⟩ w3)).mono fun e w' h => leaf_post (by decide) h
    · exact (textOf_integer 2 s ax 0 cx w (by omega) hsz.1 (formV_two _ _) (fun r => r = s) fun w3 _ => done w3 _ (body_integer ⟨s.toArray⟩ w3)).mono fun e w' h => leaf_post (by decide) h
    · exact (textOf_plain 12 s ax 0 cx w (by omega) hsz.1 (formV_twelve _ _) (fun r => r = s) fun w3 _ => done w3 _ (body_plain ⟨s.toArray⟩ w3)).mono fun e w' h => leaf_post (by decide) h
    · exact (textOf_octets 4 s ax 0 cx w (by omega) hsz.1 (formV_four _ _) (fun r => r = s) fun w3 _ => done w3 _ (body_octets ⟨s.toArray⟩ w3)).mono fun e w' h => leaf_post (by decide) h
theorem bdC_any : ∀ (n : Nat), BdC n
  | 0 => bd_zero
  | n + 1 => fun ks v d w hx hz hr => bd_step n (txC_of n (bdC_any n)) ks v d w hx hz hr
theorem textOf_any (n : Nat) : TxC n := txC_of n (bdC_any n)

set_option maxHeartbeats 1600000 in
set_option maxRecDepth 100000 in
theorem implItemText_step (n : Nat) (t : Int) (s : List UInt8) (ks : List (It n)) (a : Value) (w : World) (hx : KidsAt w (ItAt w n) a ks) (hz : szI (n + 1) (It.mk t s ks) ≤ 20000000) :
    Calls Tryz.prog 56 #[.agg #[.int .i64 t, .string ⟨s.toArray⟩, a]] w fun e w' => e = .returned (.tuple #[.string ⟨((writeI (n + 1) (It.mk t s ks)).getD []).toArray⟩, .bool (writeI (n + 1) (It.mk t s ks)).isSome]) ∧ Below w.heap.size w w' := by
  obtain ⟨ax, cx, rfl, -⟩ := id hx
  obtain ⟨W2, hW2⟩ : ∃ W, W = w.alloc (Obj.cells #[Value.int IntKind.i64 t, Value.string { data := s.toArray }, Value.slice ax ks.length cx] 45) := ⟨_, rfl⟩
  have HW := one_laid w (.int .i64 t) (.string ⟨s.toArray⟩) (.slice ax ks.length cx) 45 W2 hW2
  have E := implItemOk_any (n + 1) (It.mk t s ks) (.agg #[.int .i64 t, .string ⟨s.toArray⟩, .slice ax ks.length cx]) W2 ⟨_, rfl, hx.mono HW.1 fun _ _ h => ItAt.below HW.1 h⟩ hz
  have HN : Hid (writeI (n + 1) (It.mk t s ks) = if rightI (n + 1) (It.mk t s ks) 0 = true ∧ (txtI (n + 1) (It.mk t s ks)).length ≤ 4000 then some (txtI (n + 1) (It.mk t s ks)) else none) := rfl
  have HX : Hid (KidsAt w (ItAt w n) (.slice ax ks.length cx) ks ∧ szI (n + 1) (It.mk t s ks) ≤ 20000000) := ⟨hx, hz⟩
  obtain ⟨l, hl⟩ : ∃ l, ks.length = l := ⟨_, rfl⟩
  have HL : Hid (ks.length = l) := hl
  have HC : Hid (Below w.heap.size w W2 ∧ w.heap.size < W2.heap.size ∧ Cells3 W2 w.heap.size 0 (.int .i64 t) (.string ⟨s.toArray⟩) (.slice ax ks.length cx)) := ⟨HW.1, HW.2.1, HW.2.2⟩
  rw [hl] at hW2 E HX HC ⊢
  clear hx hz HW hl
  cases hr : rightI (n + 1) (It.mk t s ks) 0 with
  | false =>
    rw [hr] at E
    have HR : Hid (writeI (n + 1) (It.mk t s ks) = none) := by
      show writeI (n + 1) (It.mk t s ks) = none
      rw [HN.out, hr]
      simp
    clear hr
    go_enter Tryz.func56, Tryz.ntmps56
    go_wp2_with fail
    rw [← hW2]
    refine E.mono ?_
    rintro e w3 ⟨rfl, hb3⟩
    have H3 : Hid (Below w.heap.size w w3) := HC.out.1.trans (hb3.mono HC.out.1.size)
    clear E hb3 hW2
    go_wp2_with fail
    go_ret2
    exact ⟨by rw [HR.out]; rfl, H3.out⟩
  | true =>
    rw [hr] at E
    have HR : Hid (rightI (n + 1) (It.mk t s ks) 0 = true ∧ writeI (n + 1) (It.mk t s ks) = if (txtI (n + 1) (It.mk t s ks)).length ≤ 4000 then some (txtI (n + 1) (It.mk t s ks)) else none) := by
      refine ⟨hr, ?_⟩
      rw [HN.out, hr]
      simp
    clear hr HN
    go_enter Tryz.func56, Tryz.ntmps56
    go_wp2_with fail
    rw [← hW2]
    refine E.mono ?_
    rintro e w3 ⟨rfl, hb3⟩
    obtain ⟨c0, c1, c2⟩ := HC.out.2.2.below HC.out.2.1 hb3
    have hbw : Below w.heap.size w w3 := HC.out.1.trans (hb3.mono HC.out.1.size)
    have ET := textOf_any n t s ks (.slice ax l cx) 0 w3 (HX.out.1.mono hbw fun _ _ h => ItAt.below hbw h) HX.out.2 HR.out.1
    have H3 : Hid (Below w.heap.size w w3) := hbw
    clear E hb3 hW2 hbw
    rw [show (0 : Nat) + 1 = 1 from rfl] at c1
    rw [show (0 : Nat) + 2 = 2 from rfl] at c2
    go_wp2_with fail
    refine ET.mono ?_
    rintro e w4 ⟨r, rfl, hg, hrl, hb4⟩
    have hssz : (⟨r.toArray⟩ : ByteArray).size = r.length := by show r.toArray.size = _; simp
    have hr9 : r.length ≤ 1000000000 := by have := HX.out.2; omega
    have H4 : Hid (Below w.heap.size w w4 ∧ GoodT r (txtI (n + 1) (It.mk t s ks))) := ⟨H3.out.trans (hb4.mono H3.out.size), hg⟩
    clear ET hb4 hg hrl c0 c1 c2
    by_cases hbig : 4000 < r.length
    · have hbi : (4000 : Int) < (r.length : Int) := by omega
      have HF : Hid (writeI (n + 1) (It.mk t s ks) = none) := by
        show _ = none
        rw [HR.out.2, if_neg]
        intro hle
        have := H4.out.2.1 hle
        rw [this] at hbig
        omega
      go_wp2_with fail
      go_ret2
      exact ⟨by rw [HF.out]; rfl, H4.out.1⟩
    · have hbi : ¬ (4000 : Int) < (r.length : Int) := by omega
      have HF : Hid (writeI (n + 1) (It.mk t s ks) = some r) := by
        show _ = some r
        have hle : (txtI (n + 1) (It.mk t s ks)).length ≤ 4000 := by
          refine Nat.le_of_not_lt fun hlt => ?_
          exact hbig (H4.out.2.2 hlt)
        rw [HR.out.2, if_pos hle, H4.out.2.1 hle]
      go_wp2_with fail
      go_ret2
      exact ⟨by rw [HF.out]; rfl, H4.out.1⟩
theorem implItemText_any : ∀ (n : Nat) (x : It n) (v : Value) (w : World), ItAt w n v x → szI n x ≤ 20000000 → Calls Tryz.prog 56 #[v] w fun e w' => e = .returned (.tuple #[.string ⟨((writeI n x).getD []).toArray⟩, .bool (writeI n x).isSome]) ∧ Below w.heap.size w w'
  | 0, _, _, _, h, _ => h.elim
  | n + 1, x, v, w, hx, hz => by
    obtain ⟨kx, rfl, hkx⟩ := hx
    exact implItemText_step n (It.tag x) (It.text x) (It.kids x) kx w hkx hz
end Go.Proofs.YtnakaeaejfpmkaaGreatDoor

/-
  CrlBody and CrlText of both: the bytes of what is signed, and of a list.
-/
namespace Go.Proofs.YtnakaeaejfpmkaaGreatDoor
open Go.RowKit Der
set_option linter.unusedVariables false

theorem sz_rev (p : Int × Int) : szI 2 (revI p) ≤ 12 := by
  have h1 : szI 1 (intI p.1) ≤ 5 := sz_int p.1
  have h2 : szI 1 (intI p.2) ≤ 5 := sz_int p.2
  unfold revI
  rw [sz_lst]
  simp only [List.map_cons, List.map_nil, List.sum_cons, List.sum_nil, List.length_cons, List.length_nil]
  omega
theorem sz_revs : ∀ l : List (Int × Int), ((l.map revI).map (szI 2)).sum ≤ 12 * l.length
  | [] => Nat.le_refl _
  | x :: l => by
    have h1 := sz_revs l
    have h2 := sz_rev x
    simp only [List.map_cons, List.sum_cons, List.length_cons]
    omega
theorem sz_bodyL {c : Cl} (h : wtL c ≤ 1048576) : szI 4 (bodyL c) ≤ 16000000 := by
  obtain ⟨z1, z2, z3⟩ := wtL_parts h
  have a1 : szI 3 (intI c.num) ≤ 5 := sz_int c.num
  have a2 : szI 3 (intI c.ths) ≤ 5 := sz_int c.ths
  have a3 : szI 3 (intI c.nxt) ≤ 5 := sz_int c.nxt
  have a4 : szI 3 (intI c.bas) ≤ 5 := sz_int c.bas
  have t0 : szI 3 (txtJ c.issuer) = c.issuer.size := rfl
  have r := sz_revs c.revs
  unfold bodyL headL
  rw [sz_lst]
  simp only [List.cons_append, List.nil_append, List.map_cons, List.map_nil, List.sum_cons, List.sum_nil, List.length_cons, List.length_nil]
  rw [sz_lst]
  simp only [List.length_map]
  omega
theorem to_bodyL {w w' : World} {c : Cl} {e : Ending} (h : ToIt w 3 (bodyL c) e w') : ∃ (a : Option Addr) (l cx : Nat) (fp : List Nat), e = .returned (.agg #[.int .i64 48, .string ⟨#[]⟩, .slice a l cx]) ∧ OwnK w' w.heap.size 3 (.slice a l cx) (It.kids (bodyL c)) fp ∧ Below w.heap.size w w' := to_any h
/-- A list in a variable's block. -/
def KR (w W : World) (a : Array Value) : Prop := Below w.heap.size w W ∧ Blk W w.heap.size 49 a
theorem KR.below {w W W' : World} {a : Array Value} (h : KR w W a) (hb : Below W.heap.size W W') : KR w W' a := ⟨h.1.trans (hb.mono h.1.size), h.2.below hb h.2.lt⟩
theorem KR.start {w W : World} {a : Array Value} (hW : W = w.alloc (Obj.cells a 49)) : KR w W a := by rw [hW]; exact ⟨(Below.refl _ _).alloc (Nat.le_refl _) _, Blk.new w _ _⟩
set_option maxHeartbeats 3200000 in
set_option maxRecDepth 100000 in
theorem specCrlBody_any (c : Cl) (v : Value) (w : World) (hz : wtL c ≤ 1048576) (hw : WdL c) (ha : ClAt w v c) : Calls Tryz.prog 43 #[v] w fun e w' => e = .returned (.string ⟨((writeI 4 (bodyL c)).getD []).toArray⟩) ∧ Below w.heap.size w w' := by
  obtain ⟨pv, rfl, hrv⟩ := ha
  obtain ⟨pa, pc, hpv⟩ : ∃ pa pc, pv = .slice pa c.revs.length pc := by obtain ⟨a, b, h, _⟩ := hrv; exact ⟨a, b, h⟩
  obtain ⟨lp, hlp⟩ : ∃ l, c.revs.length = l := ⟨_, rfl⟩
  rw [hlp] at hpv
  subst hpv
  have HC : Hid (ClAt w (clV c (.slice pa lp pc)) c ∧ RevAt w (.slice pa lp pc) c.revs) := ⟨⟨_, rfl, hrv⟩, hrv⟩
  clear hrv hlp
  unfold clV at HC ⊢
  obtain ⟨T, hT⟩ : ∃ T : ByteArray, (⟨((writeI 4 (bodyL c)).getD []).toArray⟩ : ByteArray) = T := ⟨_, rfl⟩
  rw [hT]
  have HT : Hid ((⟨((writeI 4 (bodyL c)).getD []).toArray⟩ : ByteArray) = T ∧ wtL c ≤ 1048576 ∧ WdL c) := ⟨hT, hz, hw⟩
  clear hT hz hw
  go_enter Tryz.func43, Tryz.ntmps43
  go_wp2_with fail
  obtain ⟨W1, hW1⟩ : ∃ W, W = w.alloc (Obj.cells #[.string c.issuer, .int .i64 c.num, .int .i64 c.ths, .int .i64 c.nxt, .int .i64 c.bas, .slice pa lp pc, .string c.sig] 49) := ⟨_, rfl⟩
  rw [← hW1]
  have H1 : Hid (Below w.heap.size w W1) := by rw [hW1]; exact (Below.refl _ _).alloc (Nat.le_refl _) _
  clear hW1
  refine (l10Item_any c _ W1 (Nat.le_trans HT.out.2.1 (by decide)) HT.out.2.2 (HC.out.1.below H1.out)).mono ?_
  rintro e w2 hto
  obtain ⟨a2, l2, x2, f2, rfl, ho2, hb2⟩ := to_bodyL hto
  clear hto
  have E2 := specItemText_any 4 (bodyL c) (.agg #[.int .i64 48, .string ⟨#[]⟩, .slice a2 l2 x2]) w2 ⟨_, rfl, ho2.at⟩ (Nat.le_trans (sz_bodyL HT.out.2.1) (by decide))
  rw [HT.out.1] at E2
  generalize (writeI 4 (bodyL c)).isSome = okB at E2
  have H2 : Hid (Below w.heap.size w w2) := H1.out.trans (hb2.mono H1.out.size)
  clear H1 ho2 hb2
  go_wp2_with fail
  refine E2.mono ?_
  rintro e w3 ⟨rfl, hb3⟩
  have H3 : Hid (Below w.heap.size w w3) := H2.out.trans (hb3.mono H2.out.size)
  clear E2 H2 hb3
  go_wp2_with fail
  go_ret
  exact ⟨rfl, H3.out⟩
set_option maxHeartbeats 3200000 in
set_option maxRecDepth 100000 in
theorem implCrlBody_any (c : Cl) (v : Value) (w : World) (hz : wtL c ≤ 1048576) (hw : WdL c) (ha : ClAt w v c) : Calls Tryz.prog 40 #[v] w fun e w' => e = .returned (.string ⟨((writeI 4 (bodyL c)).getD []).toArray⟩) ∧ Below w.heap.size w w' := by
  obtain ⟨pv, rfl, hrv⟩ := ha
  obtain ⟨pa, pc, hpv⟩ : ∃ pa pc, pv = .slice pa c.revs.length pc := by obtain ⟨a, b, h, _⟩ := hrv; exact ⟨a, b, h⟩
  obtain ⟨lp, hlp⟩ : ∃ l, c.revs.length = l := ⟨_, rfl⟩
  rw [hlp] at hpv
  subst hpv
  have HC : Hid (ClAt w (clV c (.slice pa lp pc)) c ∧ RevAt w (.slice pa lp pc) c.revs) := ⟨⟨_, rfl, hrv⟩, hrv⟩
  clear hrv hlp
  unfold clV at HC ⊢
  obtain ⟨T, hT⟩ : ∃ T : ByteArray, (⟨((writeI 4 (bodyL c)).getD []).toArray⟩ : ByteArray) = T := ⟨_, rfl⟩
  rw [hT]
  have HT : Hid ((⟨((writeI 4 (bodyL c)).getD []).toArray⟩ : ByteArray) = T ∧ wtL c ≤ 1048576 ∧ WdL c) := ⟨hT, hz, hw⟩
  clear hT hz hw
  go_enter Tryz.func40, Tryz.ntmps40
  go_wp2_with fail
  obtain ⟨W1, hW1⟩ : ∃ W, W = w.alloc (Obj.cells #[.string c.issuer, .int .i64 c.num, .int .i64 c.ths, .int .i64 c.nxt, .int .i64 c.bas, .slice pa lp pc, .string c.sig] 49) := ⟨_, rfl⟩
  rw [← hW1]
  have H1 : Hid (Below w.heap.size w W1) := by rw [hW1]; exact (Below.refl _ _).alloc (Nat.le_refl _) _
  clear hW1
  refine (tidingsOf_any c (.slice pa lp pc) W1 ⟨_, _, _, rfl⟩).mono ?_
  rintro e wt ⟨rfl, hbt⟩
  have Ht : Hid (Below w.heap.size w wt) := H1.out.trans (hbt.mono H1.out.size)
  clear H1 hbt
  have H1 := Ht
  clear Ht
  unfold tdV
  go_wp2_with fail
  refine (tidItem_any c pa lp pc wt (Nat.le_trans HT.out.2.1 (by decide)) HT.out.2.2 (HC.out.2.below H1.out)).mono ?_
  rintro e w2 hto
  obtain ⟨a2, l2, x2, f2, rfl, ho2, hb2⟩ := to_bodyL hto
  clear hto
  have E2 := implItemText_any 4 (bodyL c) (.agg #[.int .i64 48, .string ⟨#[]⟩, .slice a2 l2 x2]) w2 ⟨_, rfl, ho2.at⟩ (Nat.le_trans (sz_bodyL HT.out.2.1) (by decide))
  rw [HT.out.1] at E2
  generalize (writeI 4 (bodyL c)).isSome = okB at E2
  have H2 : Hid (Below w.heap.size w w2) := H1.out.trans (hb2.mono H1.out.size)
  clear H1 ho2 hb2
  go_wp2_with fail
  refine E2.mono ?_
  rintro e w3 ⟨rfl, hb3⟩
  have H3 : Hid (Below w.heap.size w w3) := H2.out.trans (hb3.mono H2.out.size)
  clear E2 H2 hb3
  go_wp2_with fail
  go_ret
  exact ⟨rfl, H3.out⟩
end Go.Proofs.YtnakaeaejfpmkaaGreatDoor

/-
  The program's compare and right.
-/
namespace Go.Proofs.YtnakaeaejfpmkaaGreatDoor
open Go.RowKit
/-- A list is a right one. -/
def okL (l : List Int) : Bool := decide (l.length ≤ 40) && (l.all fun x => decide (0 ≤ x) && decide (x ≤ 9999)) && (l.length == 0 || !(l.getD (l.length - 1) 0 == 0))
theorem okL_iff (l : List Int) : okL l = true ↔ l.length ≤ 40 ∧ Dig l ∧ Top l := by
  unfold okL
  rw [Bool.and_eq_true, Bool.and_eq_true, decide_eq_true_iff, List.all_eq_true, Bool.or_eq_true, beq_iff_eq, Bool.not_eq_true', beq_eq_false_iff_ne]
  constructor
  · rintro ⟨⟨h1, h2⟩, h3⟩
    refine ⟨h1, fun x hx => ?_, fun h0 => ?_⟩
    · have := h2 x hx
      rw [Bool.and_eq_true, decide_eq_true_iff, decide_eq_true_iff] at this
      exact this
    · rcases h3 with h3 | h3
      · omega
      · exact h3
  · rintro ⟨h1, h2, h3⟩
    refine ⟨⟨h1, fun x hx => ?_⟩, ?_⟩
    · rw [Bool.and_eq_true, decide_eq_true_iff, decide_eq_true_iff]
      exact h2 x hx
    · by_cases h0 : l.length = 0
      · exact .inl h0
      · exact .inr (h3 (by omega))
theorem okL_yes {l : List Int} (h1 : l.length ≤ 40) (h2 : Dig l) (h3 : Top l) : okL l = true := (okL_iff l).2 ⟨h1, h2, h3⟩
theorem okL_no {l : List Int} (h : ¬ (l.length ≤ 40 ∧ Dig l ∧ Top l)) : okL l = false := by
  rcases e : okL l with _ | _
  · rfl
  · exact absurd ((okL_iff l).1 e) h
set_option maxHeartbeats 1600000 in
set_option maxRecDepth 100000 in
theorem right_any (a : Value) (la : List Int) (w : World) (hl : la.length ≤ 10000000) (ha : IntAt w a la) (hw : ∀ x ∈ la, -9223372036854775808 ≤ x ∧ x ≤ 9223372036854775807) :
    Calls Tryz.prog 211 #[a] w fun e w' => e = .returned (.bool (okL la)) ∧ Below w.heap.size w w' := by
  obtain ⟨ao, ac, rfl, ha⟩ := ha
  have HA : Hid ((0 < la.length → ∃ g, ao = some ⟨g, 0, none⟩ ∧ g < w.heap.size ∧ ∀ j (hj : j < la.length), w.cell? ⟨g, j, none⟩ = some (.int .i64 la[j])) ∧ ∀ x ∈ la, -9223372036854775808 ≤ x ∧ x ≤ 9223372036854775807) := ⟨ha, hw⟩
  clear ha hw
  by_cases h40 : la.length ≤ 40
  · have hq40 : ¬ (40 : Int) < (la.length : Int) := by omega
    go_enter Tryz.func211, Tryz.ntmps211
    go_wp2
    go_loopw [10] (fun iv wr => ∃ k : Nat, k ≤ la.length ∧ iv = .int .i64 k ∧ Below w.heap.size w wr ∧ Hid (∀ j, j < k → 0 ≤ la.getD j 0 ∧ la.getD j 0 ≤ 9999)) (fun iv _ => la.length - (intOf iv).toNat)
    case atStart => exact ⟨0, Nat.zero_le _, rfl, Below.refl _ _, fun j hj => by omega⟩
    case round =>
      obtain ⟨k, hk, rfl, hbel, HK⟩ := hrel
      by_cases hlt : k < la.length
      · obtain ⟨g, hao, hgl, hcs⟩ := HA.out.1 (by omega)
        have hu : wr.cell? ⟨g, k, none⟩ = some (.int .i64 (la.getD k 0)) := by
          rw [hbel.cell (p := ⟨g, k, none⟩) hgl, hcs k hlt]; simp [List.getD, hlt]
        subst hao
        clear hcs hgl
        have HX : Hid (∀ x, la.getD k 0 = x → (0 ≤ x ∧ x ≤ 9999 → ∀ j, j < k + 1 → 0 ≤ la.getD j 0 ∧ la.getD j 0 ≤ 9999) ∧ (¬ (0 ≤ x ∧ x ≤ 9999) → okL la = false)) := fun x hx => by
          refine ⟨fun h j hj => ?_, fun h => okL_no fun h3 => h (hx ▸ h3.2.1.getD k)⟩
          by_cases e : j = k
          · rw [e, hx]; exact h
          · exact HK.out j (by omega)
        have HX2 := HX.out _ rfl
        have HX3 : Hid ((0 ≤ la.getD k 0 ∧ la.getD k 0 ≤ 9999 → ∀ j, j < k + 1 → 0 ≤ la.getD j 0 ∧ la.getD j 0 ≤ 9999) ∧ (¬ (0 ≤ la.getD k 0 ∧ la.getD k 0 ≤ 9999) → okL la = false)) := HX2
        clear HX HX2 HK
        have hki : (k : Int) < (la.length : Int) := by omega
        have hk0 : (0 : Int) ≤ (k : Int) := by omega
        generalize la.getD k 0 = x at *
        by_cases h0 : x < 0
        · go_wp2
          go_ret
          exact ⟨congrArg (fun z => Ending.returned (Value.bool z)) (HX3.out.2 (by omega)).symm, hbel⟩
        · by_cases h1 : x ≤ 9999
          · have h1' : ¬ (10000 : Int) ≤ x := by omega
            go_wp2
            go_roundw
            case rel => exact ⟨k + 1, by omega, by go_num, hbel, HX3.out.1 ⟨by omega, h1⟩⟩
            case measure => simp [intOf]; omega
          · have h1' : (10000 : Int) ≤ x := by omega
            go_wp2
            go_ret
            exact ⟨congrArg (fun z => Ending.returned (Value.bool z)) (HX3.out.2 (by omega)).symm, hbel⟩
      · have hkl : k = la.length := by omega
        subst hkl
        by_cases hz : la.length = 0
        · have hz' : ((la.length : Int) == 0) = true := by simpa using hz
          have HE : Hid (okL la = true) := okL_yes h40 (dig_of_getD HK.out) (fun h => by omega)
          go_wp2
          go_ret
          exact ⟨congrArg (fun z => Ending.returned (Value.bool z)) HE.out.symm, hbel⟩
        · have hz' : ((la.length : Int) == 0) = false := by simpa using hz
          obtain ⟨g, hao, hgl, hcs⟩ := HA.out.1 (by omega)
          have hu : wr.cell? ⟨g, la.length - 1, none⟩ = some (.int .i64 (la.getD (la.length - 1) 0)) := by
            rw [hbel.cell (p := ⟨g, la.length - 1, none⟩) hgl, hcs (la.length - 1) (by omega)]; simp [List.getD, show la.length - 1 < la.length by omega]
          subst hao
          clear hcs hgl
          have HE : Hid ((la.getD (la.length - 1) 0 ≠ 0 → okL la = true) ∧ (la.getD (la.length - 1) 0 = 0 → okL la = false)) := ⟨fun h => okL_yes h40 (dig_of_getD HK.out) (fun _ => h), fun h => okL_no (fun h3 => h3.2.2 (by omega) h)⟩
          clear HK
          generalize la.getD (la.length - 1) 0 = x at *
          have hz1 : 1 ≤ la.length := by omega
          by_cases hx : x = 0
          · subst hx
            go_wp2
            go_ret
            exact ⟨congrArg (fun z => Ending.returned (Value.bool z)) (HE.out.2 trivial).symm, hbel⟩
          · have hx' : (x == 0) = false := by simpa using hx
            go_wp2
            go_ret
            exact ⟨congrArg (fun z => Ending.returned (Value.bool z)) (show (x != 0) = okL la by rw [HE.out.1 hx]; simp [hx]), hbel⟩
  · rw [okL_no (fun h => h40 h.1)]
    have hq40 : (40 : Int) < (la.length : Int) := by omega
    go_enter Tryz.func211, Tryz.ntmps211
    go_wp2
    go_ret
    exact ⟨rfl, Below.refl _ _⟩
end Go.Proofs.YtnakaeaejfpmkaaGreatDoor
