/-
  Texts of the proof.
-/
import Derived.Deep.RegionHeld3
import Derived.WalkKit
import Derived.Laws.RangeString
import Derived.Laws.RangeAny
import Derived.Test.YtbiiihjohbnodaaMRB14
import Derived.Test.YtbiiihjohbnodaaMRB15
set_option maxRecDepth 100000
set_option maxHeartbeats 25600000
namespace Go.Proofs.Ytbiiihjohbnodaa
open Go.RowKit Der
set_option linter.unusedVariables false
theorem leaf_post {n : Nat} {t : Int} {s : List UInt8} {ks : List (It n)} {w w' : World} {e : Ending} (h48 : t ≠ 48) (h : TxPost t (fun r => r = s) w e w') :
  ∃ r : List UInt8, e = .returned (.string ⟨r.toArray⟩) /\ GoodT r (txtI (n + 1) (It.mk t s ks)) /\ r.length <= 11 + 12 * szI (n + 1) (It.mk t s ks) /\ Below w.heap.size w w' := by
 obtain ⟨r, rfl, rfl, hb⟩ := h
 have e : txtI (n + 1) (It.mk t r ks) = UInt8.ofNat (t % 256).toNat :: (lenB r.length ++ r) := by
  show UInt8.ofNat (t % 256).toNat :: (lenB (if t = 48 then _ else r).length ++ (if t = 48 then _ else r)) = _
  rw [if_neg h48]
 have h1 := txt_le (n + 1) (It.mk t r ks)
 rw [<- e]
 exact ⟨_, rfl, GoodT.refl _, h1, hb⟩
theorem row_post {n : Nat} {ks : List (It n)} {w w' : World} {e : Ending} (h : TxPost 48 (fun r => GoodT r ((ks.map (txtI n)).flatten) /\ r.length <= 12 * szS n ks) w e w') :
  ∃ r : List UInt8, e = .returned (.string ⟨r.toArray⟩) /\ GoodT r (txtI (n + 1) (It.mk 48 [] ks)) /\ r.length <= 11 + 12 * szI (n + 1) (It.mk 48 [] ks) /\ Below w.heap.size w w' := by
 obtain ⟨r, rfl, ⟨hg, hl⟩, hb⟩ := h
 have e : txtI (n + 1) (It.mk 48 [] ks) = UInt8.ofNat ((48 : Int) % 256).toNat :: (lenB ((ks.map (txtI n)).flatten).length ++ (ks.map (txtI n)).flatten) := rfl
 refine ⟨_, rfl, ?_, ?_, hb⟩
 ·rw [e]
  exact GoodT.whole (b := []) hg
 ·have h1 := beN_short9 r.length
  have h2 : szI (n + 1) (It.mk 48 [] ks) = szS n ks := by
   show ([] : List UInt8).length + ks.length + (ks.map (szI n)).sum = ks.length + (ks.map (szI n)).sum
   simp
  rw [h2]
  simp only [List.length_cons, List.length_append]
  omega
theorem txC_of (n : Nat) (HB : Hid (BdC n)) : TxC n := fun t s ks a d w hx hz hr => by
 have hsz := szI_kid hz
 obtain ⟨ax, cx, rfl, hcx⟩ := id hx
 rw [right_mk] at hr
 by_cases h48 : t = 48
 ·subst h48
  rw [if_neg (by simp)] at hr
  simp only [Bool.and_eq_true, List.all_eq_true] at hr
  obtain ⟨⟨⟨hs, _⟩, _⟩, hall⟩ := hr
  have hs0 := of_decide_eq_true hs
  obtain rfl : s = [] := List.eq_nil_of_length_eq_zero hs0
  refine (textOf_row 48 [] ax ks.length cx w hsz.2.1 hsz.1 (formV_row _ _) (fun r => GoodT r ((ks.map (txtI n)).flatten) /\ r.length <= 12 * szS n ks) fun w3 hb => ?_).mono fun e w' h => row_post h
  refine (HB.out ks _ (d + 1) w3 (hx.mono hb fun _ _ h => ItAt.below hb h) (szS_of hz) hall).mono ?_
  rintro e w' ⟨r, rfl, hg, hl, hb'⟩
  have := szS_of hz
  exact ⟨r, rfl, ⟨hg, hl⟩, by omega, hb'⟩
 ·rw [if_pos h48, Bool.and_eq_true] at hr
  have hk0 : ks.length = 0 := of_decide_eq_true hr.1
  have hp := hr.2
  rw [hk0]
  have done : ∀ w3 : World, ∀ F : Nat, (Calls Try.prog F #[.string ⟨s.toArray⟩] w3 fun e w' => e = .returned (.string ⟨s.toArray⟩) /\ Below w3.heap.size w3 w') -> Calls Try.prog F #[.string ⟨s.toArray⟩] w3 fun e w' => ∃ r : List UInt8, e = .returned (.string ⟨r.toArray⟩) /\ r = s /\ r.length <= 400000000 /\ Below w3.heap.size w3 w' :=
   fun w3 F h => h.mono fun e w' ⟨h1, h2⟩ => ⟨s, h1, rfl, by omega, h2⟩
  rcases plainOk_tag hp with rfl | rfl | rfl | rfl
  ·exact (textOf_flag 1 s ax 0 cx w (by omega) hsz.1 (formV_one _ _) (fun r => r = s) fun w3 _ => done w3 _ (body_flag ⟨s.toArray⟩ w3)).mono fun e w' h => leaf_post (by decide) h
  ·exact (textOf_integer 2 s ax 0 cx w (by omega) hsz.1 (formV_two _ _) (fun r => r = s) fun w3 _ => done w3 _ (body_integer ⟨s.toArray⟩ w3)).mono fun e w' h => leaf_post (by decide) h
  ·exact (textOf_plain 12 s ax 0 cx w (by omega) hsz.1 (formV_twelve _ _) (fun r => r = s) fun w3 _ => done w3 _ (body_plain ⟨s.toArray⟩ w3)).mono fun e w' h => leaf_post (by decide) h
  ·exact (textOf_octets 4 s ax 0 cx w (by omega) hsz.1 (formV_four _ _) (fun r => r = s) fun w3 _ => done w3 _ (body_octets ⟨s.toArray⟩ w3)).mono fun e w' h => leaf_post (by decide) h
theorem bdC_any : ∀ (n : Nat), BdC n
 | 0 => bd_zero
 | n + 1 => fun ks v d w hx hz hr => bd_step n (txC_of n (bdC_any n)) ks v d w hx hz hr
theorem textOf_any (n : Nat) : TxC n := txC_of n (bdC_any n)
theorem implItemText_step (n : Nat) (t : Int) (s : List UInt8) (ks : List (It n)) (a : Value) (w : World) (hx : KidsAt w (ItAt w n) a ks) (hz : szI (n + 1) (It.mk t s ks) <= 20000000) :
  Calls Try.prog 51 #[.agg #[.int .i64 t, .string ⟨s.toArray⟩, a]] w fun e w' => e = .returned (.tuple #[.string ⟨((writeI (n + 1) (It.mk t s ks)).getD []).toArray⟩, .bool (writeI (n + 1) (It.mk t s ks)).isSome]) /\ Below w.heap.size w w' := by
 obtain ⟨ax, cx, rfl, -⟩ := id hx
 obtain ⟨W2, hW2⟩ : ∃ W, W = w.alloc (Obj.cells #[Value.int IntKind.i64 t, Value.string { data := s.toArray }, Value.slice ax ks.length cx] 67) := ⟨_, rfl⟩
 have HW := one_laid w (.int .i64 t) (.string ⟨s.toArray⟩) (.slice ax ks.length cx) 67 W2 hW2
 have E := implItemOk_any (n + 1) (It.mk t s ks) (.agg #[.int .i64 t, .string ⟨s.toArray⟩, .slice ax ks.length cx]) W2 ⟨_, rfl, hx.mono HW.1 fun _ _ h => ItAt.below HW.1 h⟩ hz
 have HN : Hid (writeI (n + 1) (It.mk t s ks) = if rightI (n + 1) (It.mk t s ks) 0 = true /\ (txtI (n + 1) (It.mk t s ks)).length <= 4000 then some (txtI (n + 1) (It.mk t s ks)) else none) := rfl
 have HX : Hid (KidsAt w (ItAt w n) (.slice ax ks.length cx) ks /\ szI (n + 1) (It.mk t s ks) <= 20000000) := ⟨hx, hz⟩
 obtain ⟨l, hl⟩ := zE (ks.length)
 have HL : Hid (ks.length = l) := hl
 have HC : Hid (Below w.heap.size w W2 /\ w.heap.size < W2.heap.size /\ Cells3 W2 w.heap.size 0 (.int .i64 t) (.string ⟨s.toArray⟩) (.slice ax ks.length cx)) := ⟨HW.1, HW.2.1, HW.2.2⟩
 rw [hl] at hW2 E HX HC |-
 clear hx hz HW hl
 cases hr : rightI (n + 1) (It.mk t s ks) 0 with
 | false =>
  rw [hr] at E
  have HR : Hid (writeI (n + 1) (It.mk t s ks) = none) := by
   show writeI (n + 1) (It.mk t s ks) = none
   rw [HN.out, hr]
   simp
  clear hr
  go_enter Try.func51, Try.ntmps51
  go_wp2_with fail
  rw [<- hW2]
  refine E.mono ?_
  rintro e w3 ⟨rfl, hb3⟩
  have H3 : Hid (Below w.heap.size w w3) := HC.out.1.trans (hb3.mono HC.out.1.size)
  clear E hb3 hW2
  go_wp2_with fail
  go_ret2
  exact ⟨by rw [HR.out]; rfl, H3.out⟩
 | true =>
  rw [hr] at E
  have HR : Hid (rightI (n + 1) (It.mk t s ks) 0 = true /\ writeI (n + 1) (It.mk t s ks) = if (txtI (n + 1) (It.mk t s ks)).length <= 4000 then some (txtI (n + 1) (It.mk t s ks)) else none) := by
   refine ⟨hr, ?_⟩
   rw [HN.out, hr]
   simp
  clear hr HN
  go_enter Try.func51, Try.ntmps51
  go_wp2_with fail
  rw [<- hW2]
  refine E.mono ?_
  rintro e w3 ⟨rfl, hb3⟩
  obtain ⟨c0, c1, c2⟩ := HC.out.2.2.below HC.out.2.1 hb3
  have hbw : Below w.heap.size w w3 := HC.out.1.trans (hb3.mono HC.out.1.size)
  have ET := textOf_any n t s ks (.slice ax l cx) 0 w3 (HX.out.1.mono hbw fun _ _ h => ItAt.below hbw h) HX.out.2 HR.out.1
  have H3 : Hid (Below w.heap.size w w3) := hbw
  clear E hb3 hW2 hbw
  rw [show (0 : Nat) + 1 = 1 from rfl] at c1
  rw [show (0 : Nat) + 2 = 2 from rfl] at c2
  go_wp2_with fail
  refine ET.mono ?_
  rintro e w4 ⟨r, rfl, hg, hrl, hb4⟩
  have hssz : (⟨r.toArray⟩ : ByteArray).size = r.length := by show r.toArray.size = _; simp
  have hr9 : r.length <= 1000000000 := by have := HX.out.2; omega
  have H4 : Hid (Below w.heap.size w w4 /\ GoodT r (txtI (n + 1) (It.mk t s ks))) := ⟨H3.out.trans (hb4.mono H3.out.size), hg⟩
  clear ET hb4 hg hrl c0 c1 c2
  by_cases hbig : 4000 < r.length
  ·have hbi : (4000 : Int) < (r.length : Int) := by omega
   have HF : Hid (writeI (n + 1) (It.mk t s ks) = none) := by
    show _ = none
    rw [HR.out.2, if_neg]
    intro hle
    have := H4.out.2.1 hle
    rw [this] at hbig
    omega
   go_wp2_with fail
   go_ret2
   exact ⟨by rw [HF.out]; rfl, H4.out.1⟩
  ·have hbi : ¬ (4000 : Int) < (r.length : Int) := by omega
   have HF : Hid (writeI (n + 1) (It.mk t s ks) = some r) := by
    show _ = some r
    have hle : (txtI (n + 1) (It.mk t s ks)).length <= 4000 := by
     refine Nat.le_of_not_lt fun hlt => ?_
     exact hbig (H4.out.2.2 hlt)
    rw [HR.out.2, if_pos hle, H4.out.2.1 hle]
   go_wp2_with fail
   go_ret2
   exact ⟨by rw [HF.out]; rfl, H4.out.1⟩
theorem implItemText_any : ∀ (n : Nat) (x : It n) (v : Value) (w : World), ItAt w n v x -> szI n x <= 20000000 -> Calls Try.prog 51 #[v] w fun e w' => e = .returned (.tuple #[.string ⟨((writeI n x).getD []).toArray⟩, .bool (writeI n x).isSome]) /\ Below w.heap.size w w'
 | 0, _, _, _, h, _ => h.elim
 | n + 1, x, v, w, hx, hz => by
  obtain ⟨kx, rfl, hkx⟩ := hx
  exact implItemText_step n (It.tag x) (It.text x) (It.kids x) kx w hkx hz
theorem to_bodyR {w w' : World} {c : Rp} {e : Ending} (h : ToIt w 4 (bodyR c) e w') : ∃ (a : Option Addr) (l cx : Nat) (fp : List Nat), e = .returned (.agg #[.int .i64 48, .string ⟨#[]⟩, .slice a l cx]) /\ OwnK w' w.heap.size 4 (.slice a l cx) (It.kids (bodyR c)) fp /\ Below w.heap.size w w' := by
 obtain ⟨k, fp, rfl, ho, hb⟩ := h
 obtain ⟨a, cx, rfl⟩ := ho.shape
 exact ⟨a, _, cx, fp, rfl, ho, hb⟩
theorem specReplyBody_of (LI : ∀ (c : Rp) (v : Value) (w : World), wtR c <= 20000000 -> WdRp c -> RpAt w v c -> Calls Try.prog 64 #[v] w fun e w' => ToIt w 4 (bodyR c) e w') (c : Rp) (v : Value) (w : World) (hz : wtR c <= 1048576) (hw : WdRp c) (ha : RpAt w v c) : Calls Try.prog 27 #[v] w fun e w' => e = .returned (.string ⟨((writeI 5 (bodyR c)).getD []).toArray⟩) /\ Below w.heap.size w w' := by
 obtain ⟨pv, rfl, hrv⟩ := ha
 obtain ⟨pa, pc, hpv⟩ := hrv.shape
 obtain ⟨lp, hlp⟩ := zE (c.ans.length)
 rw [hlp] at hpv
 subst hpv
 have HC : Hid (RpAt w (rpV c (.slice pa lp pc)) c /\ AtS awKd w (.slice pa lp pc) c.ans) := ⟨⟨_, rfl, hrv⟩, hrv⟩
 clear hrv hlp
 unfold rpV at HC |-
 obtain ⟨T, hT⟩ : ∃ T : ByteArray, (⟨((writeI 5 (bodyR c)).getD []).toArray⟩ : ByteArray) = T := ⟨_, rfl⟩
 rw [hT]
 have HT : Hid ((⟨((writeI 5 (bodyR c)).getD []).toArray⟩ : ByteArray) = T /\ wtR c <= 1048576 /\ WdRp c) := ⟨hT, hz, hw⟩
 clear hT hz hw
 go_enter Try.func27, Try.ntmps27
 go_wp2_with fail
 obtain ⟨W1, hW1⟩ : ∃ W, W = w.alloc (Obj.cells #[.string c.hash, .int .i64 c.nonce, .int .i64 c.time, .int .i64 c.next, .int .i64 c.plan, .int .i64 c.err, .slice pa lp pc, .string c.sig] 44) := ⟨_, rfl⟩
 rw [<- hW1]
 have H1 : Hid (Below w.heap.size w W1) := by rw [hW1]; exact (Below.refl _ _).alloc (Nat.le_refl _) _
 clear hW1
 refine (LI c _ W1 (Nat.le_trans HT.out.2.1 (by decide)) HT.out.2.2 (HC.out.1.below H1.out)).mono ?_
 rintro e w2 hto
 obtain ⟨a2, l2, x2, f2, rfl, ho2, hb2⟩ := to_bodyR hto
 clear hto
 have E2 := specItemText_any 5 (bodyR c) (.agg #[.int .i64 48, .string ⟨#[]⟩, .slice a2 l2 x2]) w2 ⟨_, rfl, ho2.at⟩ (Nat.le_trans (sz_bodyR HT.out.2.1) (by decide))
 rw [HT.out.1] at E2
 generalize (writeI 5 (bodyR c)).isSome = okB at E2
 have H2 : Hid (Below w.heap.size w w2) := H1.out.trans (hb2.mono H1.out.size)
 clear H1 ho2 hb2
 go_wp2_with fail
 refine E2.mono ?_
 rintro e w3 ⟨rfl, hb3⟩
 have H3 : Hid (Below w.heap.size w w3) := H2.out.trans (hb3.mono H2.out.size)
 clear E2 H2 hb3
 go_wp2_with fail
 go_ret
 exact ⟨rfl, H3.out⟩
end Go.Proofs.Ytbiiihjohbnodaa
namespace Go.Proofs.Ytbiiihjohbnodaa
open Go.RowKit Der
set_option linter.unusedVariables false
set_option linter.unusedSimpArgs false
def rbdy (c : Rp) : ByteArray := ⟨((writeI 5 (bodyR c)).getD []).toArray⟩
theorem implReplyBody_any (c : Rp) (v : Value) (w : World) (hz : wtR c <= 1048576) (hw : WdRp c) (ha : RpAt w v c) : Calls Try.prog 28 #[v] w fun e w' => e = .returned (.string (rbdy c)) /\ Below w.heap.size w w' := by
 obtain ⟨pa, pc, hv⟩ := RpAt.shape ha
 subst hv
 have HC : Hid (RpAt w _ c) := ha
 clear ha
 unfold rpV at HC |-
 have HZ : Hid (wtR c <= 1048576 /\ WdRp c) := ⟨hz, hw⟩
 obtain ⟨TT, hT⟩ : ∃ T : ByteArray, (⟨((writeI 5 (bodyR c)).getD []).toArray⟩ : ByteArray) = T := ⟨_, rfl⟩
 obtain ⟨okT, hok⟩ := zE ((writeI 5 (bodyR c)).isSome)
 have HT : Hid (rbdy c = TT /\ (⟨((writeI 5 (bodyR c)).getD []).toArray⟩ : ByteArray) = TT /\ (writeI 5 (bodyR c)).isSome = okT) := ⟨hT, hT, hok⟩
 clear hz hw hT hok
 go_enter Try.func28, Try.ntmps28
 go_wp2_with fail
 obtain ⟨W1, hW1⟩ : ∃ W, W = w.alloc (Obj.cells #[.string c.hash, .int .i64 c.nonce, .int .i64 c.time, .int .i64 c.next, .int .i64 c.plan, .int .i64 c.err, .slice pa c.ans.length pc, .string c.sig] 44) := ⟨_, rfl⟩
 rw [<- hW1]
 have H1 : Hid (Below w.heap.size w W1) := by rw [hW1]; exact (Below.refl _ _).alloc (Nat.le_refl _) _
 clear hW1
 refine (replyItem_any c _ W1 (Nat.le_trans HZ.out.1 (by decide)) HZ.out.2 (HC.out.below H1.out)).mono ?_
 intro e w3 hto
 obtain ⟨a2, l2, x2, f2, rfl, ho2, hb2⟩ := to_bodyR hto
 clear hto
 have E2 := implItemText_any 5 (bodyR c) (.agg #[.int .i64 48, .string ⟨#[]⟩, .slice a2 l2 x2]) w3 ⟨_, rfl, ho2.at⟩ (Nat.le_trans (sz_bodyR HZ.out.1) (by decide))
 rw [HT.out.2.1, HT.out.2.2] at E2
 have H3 : Hid (Below w.heap.size w w3) := H1.out.trans (hb2.mono H1.out.size)
 clear H1 ho2 hb2
 go_wp2_with fail
 refine E2.mono ?_
 rintro e w4 ⟨rfl, hb3⟩
 have H4 : Hid (Below w.heap.size w w4) := H3.out.trans (hb3.mono H3.out.size)
 clear E2 H3 hb3
 go_wp2_with fail
 go_ret
 exact ⟨by rw [HT.out.1]; rfl, H4.out⟩
end Go.Proofs.Ytbiiihjohbnodaa
