/-
  Texts of the proof.
-/
import Derived.Deep.RegionHeld3
import Derived.WalkKit
import Derived.Laws.RangeString
import Derived.Laws.RangeAny
import Derived.Test.YtlbjhibolcgnoaaGreatDoorSR12
import Derived.Test.YtlbjhibolcgnoaaGreatDoorSR13
set_option maxRecDepth 100000
set_option maxHeartbeats 25600000
namespace Go.Proofs.YtlbjhibolcgnoaaGreatDoor
open Go.RowKit Der
set_option linter.unusedVariables false
theorem to_bodyR {w w' : World} {c : Rp} {e : Ending} (h : ToIt w 4 (bodyR c) e w') : ∃ (a : Option Addr) (l cx : Nat) (fp : List Nat), e = .returned (.agg #[.int .i64 48, .string ⟨#[]⟩, .slice a l cx]) /\ OwnK w' w.heap.size 4 (.slice a l cx) (It.kids (bodyR c)) fp /\ Below w.heap.size w w' := by
 obtain ⟨k, fp, rfl, ho, hb⟩ := h
 obtain ⟨a, cx, rfl⟩ := ho.shape
 exact ⟨a, _, cx, fp, rfl, ho, hb⟩
theorem specReplyBody_of (LI : ∀ (c : Rp) (v : Value) (w : World), wtR c <= 20000000 -> WdRp c -> RpAt w v c -> Calls Tryz.prog 31 #[v] w fun e w' => ToIt w 4 (bodyR c) e w') (c : Rp) (v : Value) (w : World) (hz : wtR c <= 1048576) (hw : WdRp c) (ha : RpAt w v c) : Calls Tryz.prog 14 #[v] w fun e w' => e = .returned (.string ⟨((writeI 5 (bodyR c)).getD []).toArray⟩) /\ Below w.heap.size w w' := by
 obtain ⟨pv, rfl, hrv⟩ := ha
 obtain ⟨pa, pc, hpv⟩ := hrv.shape
 obtain ⟨lp, hlp⟩ := zE (c.ans.length)
 rw [hlp] at hpv
 subst hpv
 have HC : Hid (RpAt w (rpV c (.slice pa lp pc)) c /\ AtS awKd w (.slice pa lp pc) c.ans) := ⟨⟨_, rfl, hrv⟩, hrv⟩
 clear hrv hlp
 unfold rpV at HC |-
 obtain ⟨T, hT⟩ : ∃ T : ByteArray, (⟨((writeI 5 (bodyR c)).getD []).toArray⟩ : ByteArray) = T := ⟨_, rfl⟩
 rw [hT]
 have HT : Hid ((⟨((writeI 5 (bodyR c)).getD []).toArray⟩ : ByteArray) = T /\ wtR c <= 1048576 /\ WdRp c) := ⟨hT, hz, hw⟩
 clear hT hz hw
 go_enter Tryz.func14, Tryz.ntmps14
 go_wp2_with fail
 obtain ⟨W1, hW1⟩ : ∃ W, W = w.alloc (Obj.cells #[.string c.hash, .int .i64 c.nonce, .int .i64 c.time, .int .i64 c.next, .int .i64 c.plan, .int .i64 c.err, .slice pa lp pc, .string c.sig] 28) := ⟨_, rfl⟩
 rw [<- hW1]
 have H1 : Hid (Below w.heap.size w W1) := by rw [hW1]; exact (Below.refl _ _).alloc (Nat.le_refl _) _
 clear hW1
 refine (LI c _ W1 (Nat.le_trans HT.out.2.1 (by decide)) HT.out.2.2 (HC.out.1.below H1.out)).mono ?_
 rintro e w2 hto
 obtain ⟨a2, l2, x2, f2, rfl, ho2, hb2⟩ := to_bodyR hto
 clear hto
 have E2 := specItemText_any 5 (bodyR c) (.agg #[.int .i64 48, .string ⟨#[]⟩, .slice a2 l2 x2]) w2 ⟨_, rfl, ho2.at⟩ (Nat.le_trans (sz_bodyR HT.out.2.1) (by decide))
 rw [HT.out.1] at E2
 generalize (writeI 5 (bodyR c)).isSome = okB at E2
 have H2 : Hid (Below w.heap.size w w2) := H1.out.trans (hb2.mono H1.out.size)
 clear H1 ho2 hb2
 go_wp2_with fail
 refine E2.mono ?_
 rintro e w3 ⟨rfl, hb3⟩
 have H3 : Hid (Below w.heap.size w w3) := H2.out.trans (hb3.mono H2.out.size)
 clear E2 H2 hb3
 go_wp2_with fail
 go_ret
 exact ⟨rfl, H3.out⟩
end Go.Proofs.YtlbjhibolcgnoaaGreatDoor
namespace Go.Proofs.YtlbjhibolcgnoaaGreatDoor
open Go.RowKit Der
set_option linter.unusedVariables false
set_option linter.unusedSimpArgs false
def rbdy (c : Rp) : ByteArray := ⟨((writeI 5 (bodyR c)).getD []).toArray⟩
theorem implReplyBody_any (c : Rp) (v : Value) (w : World) (hz : wtR c <= 1048576) (hw : WdRp c) (ha : RpAt w v c) : Calls Tryz.prog 18 #[v] w fun e w' => e = .returned (.string (rbdy c)) /\ Below w.heap.size w w' := by
 obtain ⟨pa, pc, hv⟩ := RpAt.shape ha
 subst hv
 have HC : Hid (RpAt w _ c) := ha
 clear ha
 unfold rpV at HC |-
 have HZ : Hid (wtR c <= 1048576 /\ WdRp c) := ⟨hz, hw⟩
 obtain ⟨TT, hT⟩ : ∃ T : ByteArray, (⟨((writeI 5 (bodyR c)).getD []).toArray⟩ : ByteArray) = T := ⟨_, rfl⟩
 obtain ⟨okT, hok⟩ := zE ((writeI 5 (bodyR c)).isSome)
 have HT : Hid (rbdy c = TT /\ (⟨((writeI 5 (bodyR c)).getD []).toArray⟩ : ByteArray) = TT /\ (writeI 5 (bodyR c)).isSome = okT) := ⟨hT, hT, hok⟩
 clear hz hw hT hok
 go_enter Tryz.func18, Tryz.ntmps18
 go_wp2_with fail
 obtain ⟨W1, hW1⟩ : ∃ W, W = w.alloc (Obj.cells #[.string c.hash, .int .i64 c.nonce, .int .i64 c.time, .int .i64 c.next, .int .i64 c.plan, .int .i64 c.err, .slice pa c.ans.length pc, .string c.sig] 28) := ⟨_, rfl⟩
 rw [<- hW1]
 have H1 : Hid (Below w.heap.size w W1) := by rw [hW1]; exact (Below.refl _ _).alloc (Nat.le_refl _) _
 clear hW1
 refine (replyItem_any c _ W1 (Nat.le_trans HZ.out.1 (by decide)) HZ.out.2 (HC.out.below H1.out)).mono ?_
 intro e w3 hto
 obtain ⟨a2, l2, x2, f2, rfl, ho2, hb2⟩ := to_bodyR hto
 clear hto
 have E2 := implItemText_any 5 (bodyR c) (.agg #[.int .i64 48, .string ⟨#[]⟩, .slice a2 l2 x2]) w3 ⟨_, rfl, ho2.at⟩ (Nat.le_trans (sz_bodyR HZ.out.1) (by decide))
 rw [HT.out.2.1, HT.out.2.2] at E2
 have H3 : Hid (Below w.heap.size w w3) := H1.out.trans (hb2.mono H1.out.size)
 clear H1 ho2 hb2
 go_wp2_with fail
 refine E2.mono ?_
 rintro e w4 ⟨rfl, hb3⟩
 have H4 : Hid (Below w.heap.size w w4) := H3.out.trans (hb3.mono H3.out.size)
 clear E2 H3 hb3
 go_wp2_with fail
 go_ret
 exact ⟨by rw [HT.out.1]; rfl, H4.out⟩
end Go.Proofs.YtlbjhibolcgnoaaGreatDoor
