/-
  Texts of the proof.
-/
import Derived.Test.YtagmnlmfoanelaaGreatRows
import Derived.Deep.RegionHeld3
import Derived.ProofKit
import Derived.OpenShut
import Derived.ShutString
import Derived.Test.YtagmnlmfoanelaaGreatSK37
set_option maxRecDepth 100000
set_option maxHeartbeats 25600000
namespace Go.Proofs.YtagmnlmfoanelaaGreat
open Go.ChangeShapes Go.WideShapes Go.ChangeAt Go.RowKit
open Go.ChangeMaps (open_string shut_string)
set_option linter.unusedVariables false
set_option linter.unusedSimpArgs false
theorem lmCn_of {s : Cn} (h : wtCn s <= 1048576) : LmCn s := by
 have h1 : s.waits.length <= wtWaS s.waits := Nat.le_add_right _ _
 unfold wtCn at h
 unfold LmCn
 omega
theorem ArgAk.shape {B : Nat} {w : World} {v : Value} {c : Ak} (h : ArgAk B w v c) : ∃ p q, v = akV c (.slice p c.tg.length q) := by
 obtain ⟨p, q, hv, _⟩ := h
 exact ⟨p, q, hv⟩
theorem wf_bounds {x : Int} (h : (Lit.int .i64 x).wf = true) : -9223372036854775808 <= x /\ x <= 9223372036854775807 := by
 simp [Lit.wf, IntKind.min, IntKind.max, IntKind.signed, IntKind.bits] at h
 omega
theorem specAskNow_q (c : Cn) (a : Ak) (id span : Int) (v u : Value) (b1 : Nat) (f : List Nat) (b2 : Nat) (w : World) (hz : wtCn c <= 1048576) (hza : wtAk a <= 1048576) (hwd : WdAk a) (hid : (Lit.int .i64 id).wf = true) (ho : OwnCn false w b1 v c f) (hu : OwnAk w b2 u a) :
  Calls Tryz.prog 6 #[v, u, .int .i64 id, .int .i64 span] w fun e w' => ∃ x fp, e = .returned (.tuple #[x, .string (askC c a id span).2.1, .bool (askC c a id span).2.2]) /\ OwnCQ w' w.heap.size x (askC c a id span).1 fp /\ Below w.heap.size w w' :=
 (specAskNow_any c a id span v u b1 f b2 w hz hza hwd (wf_bounds hid) ho hu).mono fun e w' h => by
  obtain ⟨x, fp, h1, h2, h3⟩ := h
  exact ⟨x, fp, h1, ⟨_, h2⟩, h3⟩
theorem implAskNow_q (c : Cn) (a : Ak) (id span : Int) (v u : Value) (b1 : Nat) (f : List Nat) (b2 : Nat) (w : World) (hz : wtCn c <= 1048576) (hza : wtAk a <= 1048576) (hwd : WdAk a) (hid : (Lit.int .i64 id).wf = true) (ho : OwnCn false w b1 v c f) (hu : OwnAk w b2 u a) :
  Calls Tryz.prog 9 #[v, u, .int .i64 id, .int .i64 span] w fun e w' => ∃ x fp, e = .returned (.tuple #[x, .string (askC c a id span).2.1, .bool (askC c a id span).2.2]) /\ OwnCQ w' w.heap.size x (askC c a id span).1 fp /\ Below w.heap.size w w' :=
 (implAskNow_any c a id span v u b1 f b2 w hz hza hwd (wf_bounds hid) ho hu).mono fun e w' h => by
  obtain ⟨x, fp, h1, h2, h3⟩ := h
  exact ⟨x, fp, h1, ⟨_, h2⟩, h3⟩
theorem walk_FnExactAskNow (a b : Array Value) (n : Int) (m : Int) (w : World) (h1 : ∃ s, ArgCn w.heap.size w (.agg a) s /\ WdCn s) (h2 : ∃ d, ArgAk w.heap.size w (.agg b) d /\ WdAk d) (h3 : (Lit.int .i64 n).wf = true) (h4 : (Lit.int .i64 m).wf = true) : Calls Tryz.prog 3 #[.agg a, .agg b, .int .i64 n, .int .i64 m] w fun e w' => e = .returned (.bool true) /\ Below w.heap.size w w' := by
 obtain ⟨s, hx1, wd1⟩ := h1
 obtain ⟨pC00, qC00, pC10, qC10, pC20, qC20, hv1⟩ := ArgCn.shape hx1
 injection hv1 with hv1
 subst hv1
 obtain ⟨lC0, eC0⟩ := zE (s.waits.length)
 obtain ⟨lC1, eC1⟩ := zE (s.gots.length)
 obtain ⟨lC2, eC2⟩ := zE (s.late.length)
 rw [eC0, eC1, eC2] at hx1 |-
 obtain ⟨d, hx2, wd2⟩ := h2
 obtain ⟨pK00, qK00, hv2⟩ := ArgAk.shape hx2
 injection hv2 with hv2
 subst hv2
 obtain ⟨lK0, eK0⟩ := zE (d.tg.length)
 rw [eK0] at hx2 |-
 have Z1 : Hid (∀ W, Below w.heap.size w W -> Calls Tryz.prog 4 #[.agg #[.string s.key, .int .i64 s.now, .slice pC00 lC0 qC00, .slice pC10 lC1 qC10, .slice pC20 lC2 qC20], .int .i64 1048576] W fun e w' => e = .returned (.int .i64 (szCn s 1048576)) /\ Below W.heap.size W w') := fun W hb => szClient_any s _ 1048576 W wd1 (by omega) (by omega) (hx1.below hb hb.size)
 unfold szCn at Z1
 by_cases hz1 : (wtCn s : Int) <= 1048576
 rotate_left
 ·rw [if_neg hz1] at Z1
  clear hx1 wd1 hx2 wd2 eC0 eC1 eC2 eK0 h3 h4 hz1
  go_enter Tryz.func3, Tryz.ntmps3
  go_wp2_with fail
  obtain ⟨W0, hW0⟩ : ∃ W, W = ((w.alloc (Obj.cells #[.string s.key, .int .i64 s.now, .slice pC00 lC0 qC00, .slice pC10 lC1 qC10, .slice pC20 lC2 qC20] 26)).alloc (Obj.cells #[.slice pK00 lK0 qK00, .int .i64 d.plan, .int .i64 d.want, .int .i64 d.nonce, .int .i64 d.time, .bool d.cac] 29)) := ⟨_, rfl⟩
  rw [<- hW0]
  have e0 : (w.alloc (Obj.cells #[.string s.key, .int .i64 s.now, .slice pC00 lC0 qC00, .slice pC10 lC1 qC10, .slice pC20 lC2 qC20] 26)).heap.size = w.heap.size + 1 := Array.size_push _
  have HB : Hid (Below w.heap.size w W0) := by rw [hW0]; exact ((Below.refl _ _).alloc (Nat.le_refl _) _).alloc (by rw [e0]; omega) _
  have HA : Hid (Blk W0 w.heap.size 26 #[.string s.key, .int .i64 s.now, .slice pC00 lC0 qC00, .slice pC10 lC1 qC10, .slice pC20 lC2 qC20]) := by rw [hW0]; exact (Blk.new w _ _).alloc _
  have HC : Hid (Blk W0 (w.heap.size + 1) 29 #[.slice pK00 lK0 qK00, .int .i64 d.plan, .int .i64 d.want, .int .i64 d.nonce, .int .i64 d.time, .bool d.cac]) := by
   have h := Blk.new (w.alloc (Obj.cells #[.string s.key, .int .i64 s.now, .slice pC00 lC0 qC00, .slice pC10 lC1 qC10, .slice pC20 lC2 qC20] 26)) 29 #[.slice pK00 lK0 qK00, .int .i64 d.plan, .int .i64 d.want, .int .i64 d.nonce, .int .i64 d.time, .bool d.cac]
   rw [e0] at h
   rw [hW0]
   exact h
  have O0 : Hid (w.heap.size + 1 + 1 <= W0.heap.size) := by show _ <= _; rw [hW0, size_alloc, e0]; omega
  clear hW0 e0
  refine (Z1.out W0 HB.out).mono ?_
  rintro e w1 ⟨rfl, hb⟩
  replace HB := zH (Below.on HB.out hb HB.out.size)
  replace HA := zH (HA.out.below hb HA.out.lt)
  replace HC := zH (HC.out.below hb HC.out.lt)
  have O1 : Hid (W0.heap.size <= w1.heap.size) := hb.size
  clear hb Z1
  go_wp2_with fail
  go_ret
  exact ⟨rfl, HB.out⟩
 rw [if_pos hz1] at Z1
 obtain ⟨z1, hze1⟩ : ∃ z : Int, z = 1048576 - (wtCn s : Int) := ⟨_, rfl⟩
 have hzn1 : ¬ z1 < 0 := by omega
 rw [<- hze1] at Z1
 have Z2 : Hid (∀ W, Below w.heap.size w W -> Calls Tryz.prog 5 #[.agg #[.slice pK00 lK0 qK00, .int .i64 d.plan, .int .i64 d.want, .int .i64 d.nonce, .int .i64 d.time, .bool d.cac], .int .i64 z1] W fun e w' => e = .returned (.int .i64 (szAk d z1)) /\ Below W.heap.size W w') := fun W hb => szAsk_any d _ z1 W wd2 (by omega) (by omega) ((hx2.below hb).mono hb.size)
 unfold szAk at Z2
 by_cases hz2 : (wtAk d : Int) <= z1
 rotate_left
 ·rw [if_neg hz2] at Z2
  clear hx1 wd1 hx2 wd2 eC0 eC1 eC2 eK0 h3 h4 hz2 hz1 hze1
  go_enter Tryz.func3, Tryz.ntmps3
  go_wp2_with fail
  obtain ⟨W0, hW0⟩ : ∃ W, W = ((w.alloc (Obj.cells #[.string s.key, .int .i64 s.now, .slice pC00 lC0 qC00, .slice pC10 lC1 qC10, .slice pC20 lC2 qC20] 26)).alloc (Obj.cells #[.slice pK00 lK0 qK00, .int .i64 d.plan, .int .i64 d.want, .int .i64 d.nonce, .int .i64 d.time, .bool d.cac] 29)) := ⟨_, rfl⟩
  rw [<- hW0]
  have e0 : (w.alloc (Obj.cells #[.string s.key, .int .i64 s.now, .slice pC00 lC0 qC00, .slice pC10 lC1 qC10, .slice pC20 lC2 qC20] 26)).heap.size = w.heap.size + 1 := Array.size_push _
  have HB : Hid (Below w.heap.size w W0) := by rw [hW0]; exact ((Below.refl _ _).alloc (Nat.le_refl _) _).alloc (by rw [e0]; omega) _
  have HA : Hid (Blk W0 w.heap.size 26 #[.string s.key, .int .i64 s.now, .slice pC00 lC0 qC00, .slice pC10 lC1 qC10, .slice pC20 lC2 qC20]) := by rw [hW0]; exact (Blk.new w _ _).alloc _
  have HC : Hid (Blk W0 (w.heap.size + 1) 29 #[.slice pK00 lK0 qK00, .int .i64 d.plan, .int .i64 d.want, .int .i64 d.nonce, .int .i64 d.time, .bool d.cac]) := by
   have h := Blk.new (w.alloc (Obj.cells #[.string s.key, .int .i64 s.now, .slice pC00 lC0 qC00, .slice pC10 lC1 qC10, .slice pC20 lC2 qC20] 26)) 29 #[.slice pK00 lK0 qK00, .int .i64 d.plan, .int .i64 d.want, .int .i64 d.nonce, .int .i64 d.time, .bool d.cac]
   rw [e0] at h
   rw [hW0]
   exact h
  have O0 : Hid (w.heap.size + 1 + 1 <= W0.heap.size) := by show _ <= _; rw [hW0, size_alloc, e0]; omega
  clear hW0 e0
  refine (Z1.out W0 HB.out).mono ?_
  rintro e w1 ⟨rfl, hb⟩
  replace HB := zH (Below.on HB.out hb HB.out.size)
  replace HA := zH (HA.out.below hb HA.out.lt)
  replace HC := zH (HC.out.below hb HC.out.lt)
  have O1 : Hid (W0.heap.size <= w1.heap.size) := hb.size
  clear hb Z1
  have c0 := fun j => HC.out.cell j
  go_wp2_with fail
  clear c0
  refine (Z2.out w1 HB.out).mono ?_
  rintro e w2 ⟨rfl, hb⟩
  replace HB := zH (Below.on HB.out hb HB.out.size)
  replace HA := zH (HA.out.below hb HA.out.lt)
  replace HC := zH (HC.out.below hb HC.out.lt)
  have O2 : Hid (w1.heap.size <= w2.heap.size) := hb.size
  clear hb Z2
  go_wp2_with fail
  go_ret
  exact ⟨rfl, HB.out⟩
 rw [if_pos hz2] at Z2
 obtain ⟨z2, hze2⟩ : ∃ z : Int, z = z1 - (wtAk d : Int) := ⟨_, rfl⟩
 have hzn2 : ¬ z2 < 0 := by omega
 rw [<- hze2] at Z2
 have hw1 : wtCn s <= 1048576 := by omega
 have hw2 : wtAk d <= 1048576 := by omega
 have hLS : LmCn s := lmCn_of hw1
 have hb2 := wtAk_len hw2
 have hLR0 := askC_lm d n m hw1
 obtain ⟨r, hR⟩ := zE ((askC s d n m).1)
 obtain ⟨TX, hTX⟩ := zE ((askC s d n m).2.1)
 obtain ⟨OK, hOK⟩ := zE ((askC s d n m).2.2)
 have hLR : LmCn r := by rw [<- hR]; exact hLR0
 clear hLR0
 have hp1 := pcn_le (k := 1) hLS (Nat.le_refl _)
 have hp2 := pcn_le (k := 1) hLR (Nat.le_refl _)
 obtain ⟨lR0, eR0⟩ := zE (r.waits.length)
 obtain ⟨lR1, eR1⟩ := zE (r.gots.length)
 obtain ⟨lR2, eR2⟩ := zE (r.late.length)
 have T1 : Hid (∀ W : World, Below w.heap.size w W -> Calls Tryz.prog 7 #[.agg #[.string s.key, .int .i64 s.now, .slice pC00 lC0 qC00, .slice pC10 lC1 qC10, .slice pC20 lC2 qC20]] W fun e w' => ∃ pC0Q qC0Q pC1Q qC1Q pC2Q qC2Q fCQ, e = .returned (.agg #[.string s.key, .int .i64 s.now, .slice pC0Q lC0 qC0Q, .slice pC1Q lC1 qC1Q, .slice pC2Q lC2 qC2Q]) /\ OwnCn false w' W.heap.size (.agg #[.string s.key, .int .i64 s.now, .slice pC0Q lC0 qC0Q, .slice pC1Q lC1 qC1Q, .slice pC2Q lC2 qC2Q]) s fCQ /\ Below W.heap.size W w') := fun W hb => (toClient_any s _ w.heap.size W hw1 hb.size (hx1.below hb (Nat.le_refl _))).mono fun e w' h => by
  obtain ⟨u, fp, rfl, ho, hb⟩ := h
  obtain ⟨x0, y0, x1, y1, x2, y2, hu⟩ := CnAt.shape ho.at
  rw [eC0, eC1, eC2] at hu
  subst hu
  exact ⟨x0, y0, x1, y1, x2, y2, fp, rfl, ho, hb⟩
 have Q1 : Hid (∀ (W : World) (u v : Value), CnAt W u s -> CnAt W v s -> Calls Tryz.prog 10 #[u, v] W fun e w' => e = .returned (.bool true) /\ Below W.heap.size W w') := fun W u v h1 h2 => eqClient_wide s u v W (by unfold LmCn at hLS; omega) h1 h2
 have T2 : Hid (∀ W : World, Below w.heap.size w W -> Calls Tryz.prog 8 #[.agg #[.slice pK00 lK0 qK00, .int .i64 d.plan, .int .i64 d.want, .int .i64 d.nonce, .int .i64 d.time, .bool d.cac]] W fun e w' => ∃ pK0Q qK0Q, e = .returned (.agg #[.slice pK0Q lK0 qK0Q, .int .i64 d.plan, .int .i64 d.want, .int .i64 d.nonce, .int .i64 d.time, .bool d.cac]) /\ OwnAk w' W.heap.size (.agg #[.slice pK0Q lK0 qK0Q, .int .i64 d.plan, .int .i64 d.want, .int .i64 d.nonce, .int .i64 d.time, .bool d.cac]) d /\ Below W.heap.size W w') := fun W hb => (toAsk_any d _ w.heap.size W (wtAk_len hw2) hb.size (hx2.below hb)).mono fun e w' h => by
  obtain ⟨u, rfl, ho, hb⟩ := h
  obtain ⟨x0, y0, hu⟩ := AkAt.shape ho.at
  rw [eK0] at hu
  subst hu
  exact ⟨x0, y0, rfl, ho, hb⟩
 have Q2 : Hid (∀ (W : World) (u v : Value), AkAt W u d -> AkAt W v d -> Calls Tryz.prog 11 #[u, v] W fun e w' => e = .returned (.bool true) /\ Below W.heap.size W w') := fun W u v h1 h2 => eqAsk_same d u v W (by have := wtAk_len hw2; omega) h1 h2
 have LP : ∀ (W : World) (e : Ending) (w' : World), (∃ x fp, e = .returned (.tuple #[x, .string TX, .bool OK]) /\ OwnCQ w' W.heap.size x r fp /\ Below W.heap.size W w') -> ∃ pR0Q qR0Q pR1Q qR1Q pR2Q qR2Q fRQ, e = .returned (.tuple #[.agg #[.string r.key, .int .i64 r.now, .slice pR0Q lR0 qR0Q, .slice pR1Q lR1 qR1Q, .slice pR2Q lR2 qR2Q], .string TX, .bool OK]) /\ OwnCQ w' W.heap.size (.agg #[.string r.key, .int .i64 r.now, .slice pR0Q lR0 qR0Q, .slice pR1Q lR1 qR1Q, .slice pR2Q lR2 qR2Q]) r fRQ /\ Below W.heap.size W w' := fun W e w' h => by
  obtain ⟨u, fp, rfl, ho, hb⟩ := h
  obtain ⟨x0, y0, x1, y1, x2, y2, hu⟩ := CnAt.shape ho.at
  rw [eR0, eR1, eR2] at hu
  subst hu
  exact ⟨x0, y0, x1, y1, x2, y2, fp, rfl, ho, hb⟩
 have SP : Hid (∀ (W : World) (b1 : Nat) (v : Value) (fv : List Nat) (b2 : Nat) (u : Value), OwnCn false W b1 v s fv -> OwnAk W b2 u d -> Calls Tryz.prog 6 #[v, u, .int .i64 n, .int .i64 m] W fun e w' => ∃ pR0Q qR0Q pR1Q qR1Q pR2Q qR2Q fRQ, e = .returned (.tuple #[.agg #[.string r.key, .int .i64 r.now, .slice pR0Q lR0 qR0Q, .slice pR1Q lR1 qR1Q, .slice pR2Q lR2 qR2Q], .string TX, .bool OK]) /\ OwnCQ w' W.heap.size (.agg #[.string r.key, .int .i64 r.now, .slice pR0Q lR0 qR0Q, .slice pR1Q lR1 qR1Q, .slice pR2Q lR2 qR2Q]) r fRQ /\ Below W.heap.size W w') := fun W b1 v fv b2 u k1 k2 => (specAskNow_q s d n m v u b1 fv b2 W hw1 hw2 wd2 h3 k1 k2).mono fun e w' h => LP W e w' (by rw [<- hR, <- hTX, <- hOK]; exact h)
 have IM : Hid (∀ (W : World) (b1 : Nat) (v : Value) (fv : List Nat) (b2 : Nat) (u : Value), OwnCn false W b1 v s fv -> OwnAk W b2 u d -> Calls Tryz.prog 9 #[v, u, .int .i64 n, .int .i64 m] W fun e w' => ∃ pR0Q qR0Q pR1Q qR1Q pR2Q qR2Q fRQ, e = .returned (.tuple #[.agg #[.string r.key, .int .i64 r.now, .slice pR0Q lR0 qR0Q, .slice pR1Q lR1 qR1Q, .slice pR2Q lR2 qR2Q], .string TX, .bool OK]) /\ OwnCQ w' W.heap.size (.agg #[.string r.key, .int .i64 r.now, .slice pR0Q lR0 qR0Q, .slice pR1Q lR1 qR1Q, .slice pR2Q lR2 qR2Q]) r fRQ /\ Below W.heap.size W w') := fun W b1 v fv b2 u k1 k2 => (implAskNow_q s d n m v u b1 fv b2 W hw1 hw2 wd2 h3 k1 k2).mono fun e w' h => LP W e w' (by rw [<- hR, <- hTX, <- hOK]; exact h)
 have EQ : Hid (∀ (W : World) (u v : Value), CnAt W u r -> CnAt W v r -> Calls Tryz.prog 10 #[u, v] W fun e w' => e = .returned (.bool true) /\ Below W.heap.size W w') := fun W u v h1 h2 => eqClient_wide r u v W (by unfold LmCn at hLR; omega) h1 h2
 obtain ⟨kmQ1, hkmQ1⟩ : ∃ K : Nat, pcn3 1 s = K := ⟨_, rfl⟩
 have M1 : Hid (∀ (W : World) (b : Nat) (v : Value) (f : List Nat), b <= W.heap.size -> OwnCn false W b v s f -> Calls Tryz.prog 12 #[v, .int .i64 1] W fun e w' => e = .returned (.int .i64 (kmQ1 : Int)) /\ OwnCn false w' b v (mkCn 1 s) f /\ Out (f) W w') := fun W b v f hb h => by rw [<- hkmQ1]; exact markClient_out s v 1 b f W hLS (by omega) (by omega) h
 obtain ⟨kmQ2, hkmQ2⟩ : ∃ K : Nat, kmQ1 + d.tg.length = K := ⟨_, rfl⟩
 have M2 : Hid (∀ (W : World) (b : Nat) (v : Value), b <= W.heap.size -> OwnAk W b v d -> Calls Tryz.prog 13 #[v, .int .i64 (kmQ1 : Int)] W fun e w' => e = .returned (.int .i64 (kmQ2 : Int)) /\ OwnAk w' b v (mkAk kmQ1 d) /\ Out (fpAk v) W w') := fun W b v hb h => by rw [<- hkmQ2]; exact markAsk_out d v kmQ1 b W (by omega) (by omega) (by omega) h
 obtain ⟨kgQ, hkgQ⟩ : ∃ K : Nat, pcn3 1 r = K := ⟨_, rfl⟩
 have MG : Hid (∀ (W : World) (b : Nat) (v : Value) (f : List Nat), b <= W.heap.size -> OwnCQ W b v r f -> Calls Tryz.prog 12 #[v, .int .i64 1] W fun e w' => e = .returned (.int .i64 (kgQ : Int)) /\ OwnCQ w' b v (mkCn 1 r) f /\ Out (f) W w') := fun W b v f hb h => by rw [<- hkgQ]; exact markClient_outQ r v 1 b f W hLR (by omega) (by omega) h
 have HHG : Hid (∀ (W : World) (v : Value), CnAt W v (mkCn 1 r) -> Calls Tryz.prog 14 #[v, .int .i64 1] W fun e w' => e = .returned (.int .i64 (kgQ : Int)) /\ Below W.heap.size W w') := fun W v h => by rw [<- hkgQ]; exact heldClient_same r v 1 W hLR (by omega) (by omega) h
 obtain ⟨RM, hRM⟩ := zE (mkCn 1 r)
 rw [hRM] at MG HHG
 have kn1 : ¬ (kmQ2 : Int) < 0 := by omega
 have kn2 : ¬ (kgQ : Int) < 0 := by omega
 clear hx1 wd1 hx2 wd2 eC0 eC1 eC2 eK0 h3 h4 hz1 hze1 hz2 hze2 hw1 hw2 hkmQ1 hkmQ2 hkgQ hRM LP eR0 eR1 eR2 hR hTX hOK hLS hLR hb2 hp1 hp2
 go_enter Tryz.func3, Tryz.ntmps3
 go_wp2_with fail
 obtain ⟨W0, hW0⟩ : ∃ W, W = ((w.alloc (Obj.cells #[.string s.key, .int .i64 s.now, .slice pC00 lC0 qC00, .slice pC10 lC1 qC10, .slice pC20 lC2 qC20] 26)).alloc (Obj.cells #[.slice pK00 lK0 qK00, .int .i64 d.plan, .int .i64 d.want, .int .i64 d.nonce, .int .i64 d.time, .bool d.cac] 29)) := ⟨_, rfl⟩
 rw [<- hW0]
 have e0 : (w.alloc (Obj.cells #[.string s.key, .int .i64 s.now, .slice pC00 lC0 qC00, .slice pC10 lC1 qC10, .slice pC20 lC2 qC20] 26)).heap.size = w.heap.size + 1 := Array.size_push _
 have HB : Hid (Below w.heap.size w W0) := by rw [hW0]; exact ((Below.refl _ _).alloc (Nat.le_refl _) _).alloc (by rw [e0]; omega) _
 have HA : Hid (Blk W0 w.heap.size 26 #[.string s.key, .int .i64 s.now, .slice pC00 lC0 qC00, .slice pC10 lC1 qC10, .slice pC20 lC2 qC20]) := by rw [hW0]; exact (Blk.new w _ _).alloc _
 have HC : Hid (Blk W0 (w.heap.size + 1) 29 #[.slice pK00 lK0 qK00, .int .i64 d.plan, .int .i64 d.want, .int .i64 d.nonce, .int .i64 d.time, .bool d.cac]) := by
  have h := Blk.new (w.alloc (Obj.cells #[.string s.key, .int .i64 s.now, .slice pC00 lC0 qC00, .slice pC10 lC1 qC10, .slice pC20 lC2 qC20] 26)) 29 #[.slice pK00 lK0 qK00, .int .i64 d.plan, .int .i64 d.want, .int .i64 d.nonce, .int .i64 d.time, .bool d.cac]
  rw [e0] at h
  rw [hW0]
  exact h
 have O0 : Hid (w.heap.size + 1 + 1 <= W0.heap.size) := by show _ <= _; rw [hW0, size_alloc, e0]; omega
 clear hW0 e0
 refine (Z1.out W0 HB.out).mono ?_
 rintro e w1 ⟨rfl, hb⟩
 replace HB := zH (Below.on HB.out hb HB.out.size)
 replace HA := zH (HA.out.below hb HA.out.lt)
 replace HC := zH (HC.out.below hb HC.out.lt)
 have O1 : Hid (W0.heap.size <= w1.heap.size) := hb.size
 clear hb Z1
 have c0 := fun j => HC.out.cell j
 go_wp2_with fail
 clear c0
 refine (Z2.out w1 HB.out).mono ?_
 rintro e w2 ⟨rfl, hb⟩
 replace HB := zH (Below.on HB.out hb HB.out.size)
 replace HA := zH (HA.out.below hb HA.out.lt)
 replace HC := zH (HC.out.below hb HC.out.lt)
 have O2 : Hid (w1.heap.size <= w2.heap.size) := hb.size
 clear hb Z2
 go_upto_region 8 with fail
 go_cut [10, 11, 12] from 24 (fun s10 s11 s12 wx => ∃ (gW : Nat) (pR0W : Option Addr) (qR0W : Nat) (pR1W : Option Addr) (qR1W : Nat) (pR2W : Option Addr) (qR2W : Nat) (fRW : List Nat), s10 = .pointer (some ⟨gW, 0, none⟩) /\ s11 = .string TX /\ s12 = .bool OK /\ Hid (Below w2.heap.size w2 wx /\ Blk wx gW 35 #[.string r.key, .int .i64 r.now, .slice pR0W lR0 qR0W, .slice pR1W lR1 qR1W, .slice pR2W lR2 qR2W] /\ OwnCQ wx w2.heap.size (.agg #[.string r.key, .int .i64 r.now, .slice pR0W lR0 qR0W, .slice pR1W lR1 qR1W, .slice pR2W lR2 qR2W]) r fRW /\ (∀ b ∈ fRW, w2.heap.size <= b /\ b < wx.heap.size) /\ (w2.heap.size <= gW /\ gW < wx.heap.size)))
 case first =>
  have HD : Below w2.heap.size w2 w2.drew := (Below.refl _ _).drew
  refine wp_region_held_drew (S := fun W => Below w2.heap.size w2 W) (by kernel_rfl) HD (fun hHeld => ?_)
  clear HD
  generalize w2.drew = wd at hHeld |-
  refine zT 0 35 ?_ rfl (by rfl) ?_ hHeld ?_
  rotate_left
  ·intro W hSw
   have l0 := fun j => (HA.out.below hSw HA.out.lt).cell j
   go_simp
   try with_reducible rfl
  try simp only [Act.put, zA, zB, zC]
  refine zT 2 37 ?_ rfl (by rfl) ?_ hHeld ?_
  rotate_left
  ·intro W hSw
   have l0 := fun j => (HC.out.below hSw HC.out.lt).cell j
   go_simp
   try with_reducible rfl
  try simp only [Act.put, zA, zB, zC]
  refine zT 4 39 ?_ rfl (by rfl) ?_ hHeld ?_
  rotate_left
  ·intro W hSw
   go_simp
   try with_reducible rfl
  try simp only [Act.put, zA, zB, zC]
  refine zT 5 40 ?_ rfl (by rfl) ?_ hHeld ?_
  rotate_left
  ·intro W hSw
   go_simp
   try with_reducible rfl
  try simp only [Act.put, zA, zB, zC]
  refine wpAnyH_ready (rs := [1, 11]) (by kernel_rfl) (by simp) ?_
  refine AllReadyH.cons (o := ⟨some 36, _, _, _, _, _⟩) rfl (fun K hK => ?_) ?_
  rotate_left
  ·refine AllReadyH.cons (o := ⟨some 10, _, _, _, _, _⟩) rfl (fun K hK => ?_) AllReadyH.nil
   obtain ⟨y1, hy1⟩ : ∃ V, V = wd.alloc (Obj.cells #[.string ⟨#[]⟩, .int .i64 0, .slice none 0 0, .slice none 0 0, .slice none 0 0] 35) := ⟨_, rfl⟩
   have hb : Below wd.heap.size wd y1 := by rw [hy1]; exact (Below.refl _ _).alloc (Nat.le_refl _) _
   have HG := zH (zJ (by rw [hy1]; exact Blk.new _ _ _ : (Blk y1 wd.heap.size 35 #[.string ⟨#[]⟩, .int .i64 0, .slice none 0 0, .slice none 0 0, .slice none 0 0])) hHeld.size)
   have hH : Below w2.heap.size w2 y1 := Below.on hHeld hb hHeld.size
   go_simp
   rw [<- hy1]
   refine hK.out _ _ hH (fun hHeld => ?_)
   clear hK K hH hy1 hb
   try simp only [Act.put, zA, zB, zC]
   refine wpAnyH_ready (rs := [1]) (by kernel_rfl) (by simp) ?_
   refine AllReadyH.cons (o := ⟨some 36, _, _, _, _, _⟩) rfl (fun K hK => ?_) AllReadyH.nil
   go_simp
   refine (T1.out y1 (Below.on HB.out hHeld HB.out.size)).mono ?_
   rintro e y2 ⟨pC0T, qC0T, pC1T, qC1T, pC2T, qC2T, fCT, rfl, ho, hb⟩
   replace HG := zH (zJ (HG.out.1.below hb HG.out.1.lt) HG.out.2)
   have HT : Hid (OwnCn false y2 y1.heap.size (.agg #[.string s.key, .int .i64 s.now, .slice pC0T lC0 qC0T, .slice pC1T lC1 qC1T, .slice pC2T lC2 qC2T]) s fCT) := ho
   have hH : Below w2.heap.size w2 y2 := Below.on hHeld hb hHeld.size
   clear ho hb
   go_wp2_with fail
   refine hK.out _ _ hH (fun hHeld => ?_)
   clear hK K hH
   try simp only [Act.put, zA, zB, zC]
   refine wpAnyH_ready (rs := [3]) (by kernel_rfl) (by simp) ?_
   refine AllReadyH.cons (o := ⟨some 38, _, _, _, _, _⟩) rfl (fun K hK => ?_) AllReadyH.nil
   go_simp
   refine (T2.out y2 (Below.on HB.out hHeld HB.out.size)).mono ?_
   rintro e y3 ⟨pK0T, qK0T, rfl, ho, hb⟩
   replace HG := zH (zJ (HG.out.1.below hb HG.out.1.lt) HG.out.2)
   replace HT := zH (HT.out.stays hb)
   have HV : Hid (OwnAk y3 y2.heap.size (.agg #[.slice pK0T lK0 qK0T, .int .i64 d.plan, .int .i64 d.want, .int .i64 d.nonce, .int .i64 d.time, .bool d.cac]) d) := ho
   have hH : Below w2.heap.size w2 y3 := Below.on hHeld hb hHeld.size
   clear ho hb
   go_wp2_with fail
   refine hK.out _ _ hH (fun hHeld => ?_)
   clear hK K hH
   try simp only [Act.put, zA, zB, zC]
   refine wpAnyH_ready (rs := [6]) (by kernel_rfl) (by simp) ?_
   refine AllReadyH.cons (o := ⟨some 41, _, _, _, _, _⟩) rfl (fun K hK => ?_) AllReadyH.nil
   go_simp
   refine (SP.out y3 _ _ _ _ _ HT.out HV.out).mono ?_
   rintro e y4 ⟨pR0W, qR0W, pR1W, qR1W, pR2W, qR2W, fRW, rfl, ho, hb⟩
   have HAL : Hid (wd.heap.size < y3.heap.size) := HG.out.1.lt
   replace HG := zH (zJ (HG.out.1.below hb HG.out.1.lt) HG.out.2)
   replace HT := zH (HT.out.stays hb)
   replace HV := zH (HV.out.stays hb)
   have HR := zH (zJ (ho : OwnCQ y4 y3.heap.size (.agg #[.string r.key, .int .i64 r.now, .slice pR0W lR0 qR0W, .slice pR1W lR1 qR1W, .slice pR2W lR2 qR2W]) r fRW) (zJ hHeld.size (zJ ho.lt (Nat.le_refl _ : y4.heap.size <= y4.heap.size))))
   have hH : Below w2.heap.size w2 y4 := Below.on hHeld hb hHeld.size
   clear ho hb
   go_wp2_with fail
   refine hK.out _ _ hH (fun hHeld => ?_)
   clear hK K hH
   try simp only [Act.put, zA, zB, zC]
   refine zT 7 34 ?_ rfl (by rfl) ?_ hHeld ?_
   rotate_left
   ·intro W hSw
    go_simp
    try with_reducible rfl
   try simp only [Act.put, zA, zB, zC]
   refine zT 8 42 ?_ rfl (by rfl) ?_ hHeld ?_
   rotate_left
   ·intro W hSw
    go_simp
    try with_reducible rfl
   try simp only [Act.put, zA, zB, zC]
   refine zT 9 43 ?_ rfl (by rfl) ?_ hHeld ?_
   rotate_left
   ·intro W hSw
    go_simp
    try with_reducible rfl
   try simp only [Act.put, zA, zB, zC]
   refine zT 10 44 ?_ rfl (by rfl) ?_ hHeld ?_
   rotate_left
   ·intro W hSw
    go_simp
    try with_reducible rfl
   try simp only [Act.put, zA, zB, zC]
   refine wpAnyH_ready (rs := [12]) (by kernel_rfl) (by simp) ?_
   refine AllReadyH.cons (o := ⟨none, _, _, _, _, _⟩) rfl (fun K hK => ?_) AllReadyH.nil
   have e0 : y4.cell? ⟨wd.heap.size, 0, none⟩ = some (.string ⟨#[]⟩) := HG.out.1.cell 0
   have e1 : y4.cell? ⟨wd.heap.size, 1, none⟩ = some (.int .i64 0) := HG.out.1.cell 1
   have e2 : y4.cell? ⟨wd.heap.size, 2, none⟩ = some (.slice none 0 0) := HG.out.1.cell 2
   have e3 : y4.cell? ⟨wd.heap.size, 3, none⟩ = some (.slice none 0 0) := HG.out.1.cell 3
   have e4 : y4.cell? ⟨wd.heap.size, 4, none⟩ = some (.slice none 0 0) := HG.out.1.cell 4
   have ef := fun i => HG.out.1.free i
   have HAP : Hid (∀ b ∈ fRW, b ≠ wd.heap.size) := fun b hb => by have h1 := HR.out.2.2.1 b hb; have h2 := HAL.out; omega
   go_simp
   generalize hV : World.setCell _ { block := wd.heap.size, off := 4 } (.slice pR2W lR2 qR2W) = V
   have FIN : Out [wd.heap.size] y4 V /\ Blk V wd.heap.size 35 #[.string r.key, .int .i64 r.now, .slice pR0W lR0 qR0W, .slice pR1W lR1 qR1W, .slice pR2W lR2 qR2W] := by
    rw [<- hV]
    refine ⟨?_, ?_⟩
    ·iterate 5 refine Out.setCell ?_ _ _ (by simp)
     exact Out.refl _ _
    ·exact (((((HG.out.1.set 0 _).set 1 _).set 2 _).set 3 _).set 4 _)
   clear hV ef e0 e1 e2 e3 e4
   have hH : Below w2.heap.size w2 V := Below.out hHeld FIN.1 (fun b hb => by rw [List.mem_singleton.1 hb]; exact HG.out.2) hHeld.size
   have FR : Hid (Below w2.heap.size w2 V /\ Blk V wd.heap.size 35 #[.string r.key, .int .i64 r.now, .slice pR0W lR0 qR0W, .slice pR1W lR1 qR1W, .slice pR2W lR2 qR2W] /\ OwnCQ V w2.heap.size (.agg #[.string r.key, .int .i64 r.now, .slice pR0W lR0 qR0W, .slice pR1W lR1 qR1W, .slice pR2W lR2 qR2W]) r fRW /\ (∀ b ∈ fRW, w2.heap.size <= b /\ b < V.heap.size) /\ (w2.heap.size <= wd.heap.size /\ wd.heap.size < V.heap.size)) := ⟨hH, FIN.2, (OwnCQ.out HR.out.1 FIN.1 (fun b hb hm => HAP.out b hb (List.mem_singleton.1 hm))).base (HR.out.2.1), fun b hb => ⟨by have h1 := HR.out.2.2.1 b hb; have h2 := HR.out.2.1; omega, by have h1 := HR.out.2.2.1 b hb; have h3 := HR.out.2.2.2; have h4 := FIN.1.2.2.2.1; omega⟩, HG.out.2, FIN.2.lt⟩
   refine hK.out _ _ hH (fun hHeld => ?_)
   clear hK K hH FIN HAP
   try simp only [Act.put, zA, zB, zC]
   refine zT 13 11 ?_ rfl (by rfl) ?_ hHeld ?_
   rotate_left
   ·intro W hSw
    go_simp
    try with_reducible rfl
   try simp only [Act.put, zA, zB, zC]
   refine zT 14 12 ?_ rfl (by rfl) ?_ hHeld ?_
   rotate_left
   ·intro W hSw
    go_simp
    try with_reducible rfl
   try simp only [Act.put, zA, zB, zC]
   refine wpAnyH_done (by kernel_rfl) ?_ _
   go_wp2_with fail
   go_meet
   exact ⟨wd.heap.size, pR0W, qR0W, pR1W, qR1W, pR2W, qR2W, fRW, rfl, rfl, rfl, FR.out⟩
  go_simp
  refine (T1.out wd (Below.on HB.out hHeld HB.out.size)).mono ?_
  rintro e y5 ⟨pC0T, qC0T, pC1T, qC1T, pC2T, qC2T, fCT, rfl, ho, hb⟩
  have HT : Hid (OwnCn false y5 wd.heap.size (.agg #[.string s.key, .int .i64 s.now, .slice pC0T lC0 qC0T, .slice pC1T lC1 qC1T, .slice pC2T lC2 qC2T]) s fCT) := ho
  have hH : Below w2.heap.size w2 y5 := Below.on hHeld hb hHeld.size
  clear ho hb
  go_wp2_with fail
  refine hK.out _ _ hH (fun hHeld => ?_)
  clear hK K hH
  try simp only [Act.put, zA, zB, zC]
  refine wpAnyH_ready (rs := [3, 11]) (by kernel_rfl) (by simp) ?_
  refine AllReadyH.cons (o := ⟨some 38, _, _, _, _, _⟩) rfl (fun K hK => ?_) ?_
  rotate_left
  ·refine AllReadyH.cons (o := ⟨some 10, _, _, _, _, _⟩) rfl (fun K hK => ?_) AllReadyH.nil
   obtain ⟨y6, hy6⟩ : ∃ V, V = y5.alloc (Obj.cells #[.string ⟨#[]⟩, .int .i64 0, .slice none 0 0, .slice none 0 0, .slice none 0 0] 35) := ⟨_, rfl⟩
   have hb : Below y5.heap.size y5 y6 := by rw [hy6]; exact (Below.refl _ _).alloc (Nat.le_refl _) _
   have HG := zH (zJ (by rw [hy6]; exact Blk.new _ _ _ : (Blk y6 y5.heap.size 35 #[.string ⟨#[]⟩, .int .i64 0, .slice none 0 0, .slice none 0 0, .slice none 0 0])) hHeld.size)
   replace HT := zH (HT.out.stays hb)
   have hH : Below w2.heap.size w2 y6 := Below.on hHeld hb hHeld.size
   go_simp
   rw [<- hy6]
   refine hK.out _ _ hH (fun hHeld => ?_)
   clear hK K hH hy6 hb
   try simp only [Act.put, zA, zB, zC]
   refine wpAnyH_ready (rs := [3]) (by kernel_rfl) (by simp) ?_
   refine AllReadyH.cons (o := ⟨some 38, _, _, _, _, _⟩) rfl (fun K hK => ?_) AllReadyH.nil
   go_simp
   refine (T2.out y6 (Below.on HB.out hHeld HB.out.size)).mono ?_
   rintro e y7 ⟨pK0T, qK0T, rfl, ho, hb⟩
   replace HT := zH (HT.out.stays hb)
   replace HG := zH (zJ (HG.out.1.below hb HG.out.1.lt) HG.out.2)
   have HV : Hid (OwnAk y7 y6.heap.size (.agg #[.slice pK0T lK0 qK0T, .int .i64 d.plan, .int .i64 d.want, .int .i64 d.nonce, .int .i64 d.time, .bool d.cac]) d) := ho
   have hH : Below w2.heap.size w2 y7 := Below.on hHeld hb hHeld.size
   clear ho hb
   go_wp2_with fail
   refine hK.out _ _ hH (fun hHeld => ?_)
   clear hK K hH
   try simp only [Act.put, zA, zB, zC]
   refine wpAnyH_ready (rs := [6]) (by kernel_rfl) (by simp) ?_
   refine AllReadyH.cons (o := ⟨some 41, _, _, _, _, _⟩) rfl (fun K hK => ?_) AllReadyH.nil
   go_simp
   refine (SP.out y7 _ _ _ _ _ HT.out HV.out).mono ?_
   rintro e y8 ⟨pR0W, qR0W, pR1W, qR1W, pR2W, qR2W, fRW, rfl, ho, hb⟩
   have HAL : Hid (y5.heap.size < y7.heap.size) := HG.out.1.lt
   replace HT := zH (HT.out.stays hb)
   replace HG := zH (zJ (HG.out.1.below hb HG.out.1.lt) HG.out.2)
   replace HV := zH (HV.out.stays hb)
   have HR := zH (zJ (ho : OwnCQ y8 y7.heap.size (.agg #[.string r.key, .int .i64 r.now, .slice pR0W lR0 qR0W, .slice pR1W lR1 qR1W, .slice pR2W lR2 qR2W]) r fRW) (zJ hHeld.size (zJ ho.lt (Nat.le_refl _ : y8.heap.size <= y8.heap.size))))
   have hH : Below w2.heap.size w2 y8 := Below.on hHeld hb hHeld.size
   clear ho hb
   go_wp2_with fail
   refine hK.out _ _ hH (fun hHeld => ?_)
   clear hK K hH
   try simp only [Act.put, zA, zB, zC]
   refine zT 7 34 ?_ rfl (by rfl) ?_ hHeld ?_
   rotate_left
   ·intro W hSw
    go_simp
    try with_reducible rfl
   try simp only [Act.put, zA, zB, zC]
   refine zT 8 42 ?_ rfl (by rfl) ?_ hHeld ?_
   rotate_left
   ·intro W hSw
    go_simp
    try with_reducible rfl
   try simp only [Act.put, zA, zB, zC]
   refine zT 9 43 ?_ rfl (by rfl) ?_ hHeld ?_
   rotate_left
   ·intro W hSw
    go_simp
    try with_reducible rfl
   try simp only [Act.put, zA, zB, zC]
   refine zT 10 44 ?_ rfl (by rfl) ?_ hHeld ?_
   rotate_left
   ·intro W hSw
    go_simp
    try with_reducible rfl
   try simp only [Act.put, zA, zB, zC]
   refine wpAnyH_ready (rs := [12]) (by kernel_rfl) (by simp) ?_
   refine AllReadyH.cons (o := ⟨none, _, _, _, _, _⟩) rfl (fun K hK => ?_) AllReadyH.nil
   have e0 : y8.cell? ⟨y5.heap.size, 0, none⟩ = some (.string ⟨#[]⟩) := HG.out.1.cell 0
   have e1 : y8.cell? ⟨y5.heap.size, 1, none⟩ = some (.int .i64 0) := HG.out.1.cell 1
   have e2 : y8.cell? ⟨y5.heap.size, 2, none⟩ = some (.slice none 0 0) := HG.out.1.cell 2
   have e3 : y8.cell? ⟨y5.heap.size, 3, none⟩ = some (.slice none 0 0) := HG.out.1.cell 3
   have e4 : y8.cell? ⟨y5.heap.size, 4, none⟩ = some (.slice none 0 0) := HG.out.1.cell 4
   have ef := fun i => HG.out.1.free i
   have HAP : Hid (∀ b ∈ fRW, b ≠ y5.heap.size) := fun b hb => by have h1 := HR.out.2.2.1 b hb; have h2 := HAL.out; omega
   go_simp
   generalize hV : World.setCell _ { block := y5.heap.size, off := 4 } (.slice pR2W lR2 qR2W) = V
   have FIN : Out [y5.heap.size] y8 V /\ Blk V y5.heap.size 35 #[.string r.key, .int .i64 r.now, .slice pR0W lR0 qR0W, .slice pR1W lR1 qR1W, .slice pR2W lR2 qR2W] := by
    rw [<- hV]
    refine ⟨?_, ?_⟩
    ·iterate 5 refine Out.setCell ?_ _ _ (by simp)
     exact Out.refl _ _
    ·exact (((((HG.out.1.set 0 _).set 1 _).set 2 _).set 3 _).set 4 _)
   clear hV ef e0 e1 e2 e3 e4
   have hH : Below w2.heap.size w2 V := Below.out hHeld FIN.1 (fun b hb => by rw [List.mem_singleton.1 hb]; exact HG.out.2) hHeld.size
   have FR : Hid (Below w2.heap.size w2 V /\ Blk V y5.heap.size 35 #[.string r.key, .int .i64 r.now, .slice pR0W lR0 qR0W, .slice pR1W lR1 qR1W, .slice pR2W lR2 qR2W] /\ OwnCQ V w2.heap.size (.agg #[.string r.key, .int .i64 r.now, .slice pR0W lR0 qR0W, .slice pR1W lR1 qR1W, .slice pR2W lR2 qR2W]) r fRW /\ (∀ b ∈ fRW, w2.heap.size <= b /\ b < V.heap.size) /\ (w2.heap.size <= y5.heap.size /\ y5.heap.size < V.heap.size)) := ⟨hH, FIN.2, (OwnCQ.out HR.out.1 FIN.1 (fun b hb hm => HAP.out b hb (List.mem_singleton.1 hm))).base (HR.out.2.1), fun b hb => ⟨by have h1 := HR.out.2.2.1 b hb; have h2 := HR.out.2.1; omega, by have h1 := HR.out.2.2.1 b hb; have h3 := HR.out.2.2.2; have h4 := FIN.1.2.2.2.1; omega⟩, HG.out.2, FIN.2.lt⟩
   refine hK.out _ _ hH (fun hHeld => ?_)
   clear hK K hH FIN HAP
   try simp only [Act.put, zA, zB, zC]
   refine zT 13 11 ?_ rfl (by rfl) ?_ hHeld ?_
   rotate_left
   ·intro W hSw
    go_simp
    try with_reducible rfl
   try simp only [Act.put, zA, zB, zC]
   refine zT 14 12 ?_ rfl (by rfl) ?_ hHeld ?_
   rotate_left
   ·intro W hSw
    go_simp
    try with_reducible rfl
   try simp only [Act.put, zA, zB, zC]
   refine wpAnyH_done (by kernel_rfl) ?_ _
   go_wp2_with fail
   go_meet
   exact ⟨y5.heap.size, pR0W, qR0W, pR1W, qR1W, pR2W, qR2W, fRW, rfl, rfl, rfl, FR.out⟩
  go_simp
  refine (T2.out y5 (Below.on HB.out hHeld HB.out.size)).mono ?_
  rintro e y9 ⟨pK0T, qK0T, rfl, ho, hb⟩
  replace HT := zH (HT.out.stays hb)
  have HV : Hid (OwnAk y9 y5.heap.size (.agg #[.slice pK0T lK0 qK0T, .int .i64 d.plan, .int .i64 d.want, .int .i64 d.nonce, .int .i64 d.time, .bool d.cac]) d) := ho
  have hH : Below w2.heap.size w2 y9 := Below.on hHeld hb hHeld.size
  clear ho hb
  go_wp2_with fail
  refine hK.out _ _ hH (fun hHeld => ?_)
  clear hK K hH
  try simp only [Act.put, zA, zB, zC]
  refine wpAnyH_ready (rs := [6, 11]) (by kernel_rfl) (by simp) ?_
  refine AllReadyH.cons (o := ⟨some 41, _, _, _, _, _⟩) rfl (fun K hK => ?_) ?_
  rotate_left
  ·refine AllReadyH.cons (o := ⟨some 10, _, _, _, _, _⟩) rfl (fun K hK => ?_) AllReadyH.nil
   obtain ⟨y10, hy10⟩ : ∃ V, V = y9.alloc (Obj.cells #[.string ⟨#[]⟩, .int .i64 0, .slice none 0 0, .slice none 0 0, .slice none 0 0] 35) := ⟨_, rfl⟩
   have hb : Below y9.heap.size y9 y10 := by rw [hy10]; exact (Below.refl _ _).alloc (Nat.le_refl _) _
   have HG := zH (zJ (by rw [hy10]; exact Blk.new _ _ _ : (Blk y10 y9.heap.size 35 #[.string ⟨#[]⟩, .int .i64 0, .slice none 0 0, .slice none 0 0, .slice none 0 0])) hHeld.size)
   replace HT := zH (HT.out.stays hb)
   replace HV := zH (HV.out.stays hb)
   have hH : Below w2.heap.size w2 y10 := Below.on hHeld hb hHeld.size
   go_simp
   rw [<- hy10]
   refine hK.out _ _ hH (fun hHeld => ?_)
   clear hK K hH hy10 hb
   try simp only [Act.put, zA, zB, zC]
   refine wpAnyH_ready (rs := [6]) (by kernel_rfl) (by simp) ?_
   refine AllReadyH.cons (o := ⟨some 41, _, _, _, _, _⟩) rfl (fun K hK => ?_) AllReadyH.nil
   go_simp
   refine (SP.out y10 _ _ _ _ _ HT.out HV.out).mono ?_
   rintro e y11 ⟨pR0W, qR0W, pR1W, qR1W, pR2W, qR2W, fRW, rfl, ho, hb⟩
   have HAL : Hid (y9.heap.size < y10.heap.size) := HG.out.1.lt
   replace HT := zH (HT.out.stays hb)
   replace HV := zH (HV.out.stays hb)
   replace HG := zH (zJ (HG.out.1.below hb HG.out.1.lt) HG.out.2)
   have HR := zH (zJ (ho : OwnCQ y11 y10.heap.size (.agg #[.string r.key, .int .i64 r.now, .slice pR0W lR0 qR0W, .slice pR1W lR1 qR1W, .slice pR2W lR2 qR2W]) r fRW) (zJ hHeld.size (zJ ho.lt (Nat.le_refl _ : y11.heap.size <= y11.heap.size))))
   have hH : Below w2.heap.size w2 y11 := Below.on hHeld hb hHeld.size
   clear ho hb
   go_wp2_with fail
   refine hK.out _ _ hH (fun hHeld => ?_)
   clear hK K hH
   try simp only [Act.put, zA, zB, zC]
   refine zT 7 34 ?_ rfl (by rfl) ?_ hHeld ?_
   rotate_left
   ·intro W hSw
    go_simp
    try with_reducible rfl
   try simp only [Act.put, zA, zB, zC]
   refine zT 8 42 ?_ rfl (by rfl) ?_ hHeld ?_
   rotate_left
   ·intro W hSw
    go_simp
    try with_reducible rfl
   try simp only [Act.put, zA, zB, zC]
   refine zT 9 43 ?_ rfl (by rfl) ?_ hHeld ?_
   rotate_left
   ·intro W hSw
    go_simp
    try with_reducible rfl
   try simp only [Act.put, zA, zB, zC]
   refine zT 10 44 ?_ rfl (by rfl) ?_ hHeld ?_
   rotate_left
   ·intro W hSw
    go_simp
    try with_reducible rfl
   try simp only [Act.put, zA, zB, zC]
   refine wpAnyH_ready (rs := [12]) (by kernel_rfl) (by simp) ?_
   refine AllReadyH.cons (o := ⟨none, _, _, _, _, _⟩) rfl (fun K hK => ?_) AllReadyH.nil
   have e0 : y11.cell? ⟨y9.heap.size, 0, none⟩ = some (.string ⟨#[]⟩) := HG.out.1.cell 0
   have e1 : y11.cell? ⟨y9.heap.size, 1, none⟩ = some (.int .i64 0) := HG.out.1.cell 1
   have e2 : y11.cell? ⟨y9.heap.size, 2, none⟩ = some (.slice none 0 0) := HG.out.1.cell 2
   have e3 : y11.cell? ⟨y9.heap.size, 3, none⟩ = some (.slice none 0 0) := HG.out.1.cell 3
   have e4 : y11.cell? ⟨y9.heap.size, 4, none⟩ = some (.slice none 0 0) := HG.out.1.cell 4
   have ef := fun i => HG.out.1.free i
   have HAP : Hid (∀ b ∈ fRW, b ≠ y9.heap.size) := fun b hb => by have h1 := HR.out.2.2.1 b hb; have h2 := HAL.out; omega
   go_simp
   generalize hV : World.setCell _ { block := y9.heap.size, off := 4 } (.slice pR2W lR2 qR2W) = V
   have FIN : Out [y9.heap.size] y11 V /\ Blk V y9.heap.size 35 #[.string r.key, .int .i64 r.now, .slice pR0W lR0 qR0W, .slice pR1W lR1 qR1W, .slice pR2W lR2 qR2W] := by
    rw [<- hV]
    refine ⟨?_, ?_⟩
    ·iterate 5 refine Out.setCell ?_ _ _ (by simp)
     exact Out.refl _ _
    ·exact (((((HG.out.1.set 0 _).set 1 _).set 2 _).set 3 _).set 4 _)
   clear hV ef e0 e1 e2 e3 e4
   have hH : Below w2.heap.size w2 V := Below.out hHeld FIN.1 (fun b hb => by rw [List.mem_singleton.1 hb]; exact HG.out.2) hHeld.size
   have FR : Hid (Below w2.heap.size w2 V /\ Blk V y9.heap.size 35 #[.string r.key, .int .i64 r.now, .slice pR0W lR0 qR0W, .slice pR1W lR1 qR1W, .slice pR2W lR2 qR2W] /\ OwnCQ V w2.heap.size (.agg #[.string r.key, .int .i64 r.now, .slice pR0W lR0 qR0W, .slice pR1W lR1 qR1W, .slice pR2W lR2 qR2W]) r fRW /\ (∀ b ∈ fRW, w2.heap.size <= b /\ b < V.heap.size) /\ (w2.heap.size <= y9.heap.size /\ y9.heap.size < V.heap.size)) := ⟨hH, FIN.2, (OwnCQ.out HR.out.1 FIN.1 (fun b hb hm => HAP.out b hb (List.mem_singleton.1 hm))).base (HR.out.2.1), fun b hb => ⟨by have h1 := HR.out.2.2.1 b hb; have h2 := HR.out.2.1; omega, by have h1 := HR.out.2.2.1 b hb; have h3 := HR.out.2.2.2; have h4 := FIN.1.2.2.2.1; omega⟩, HG.out.2, FIN.2.lt⟩
   refine hK.out _ _ hH (fun hHeld => ?_)
   clear hK K hH FIN HAP
   try simp only [Act.put, zA, zB, zC]
   refine zT 13 11 ?_ rfl (by rfl) ?_ hHeld ?_
   rotate_left
   ·intro W hSw
    go_simp
    try with_reducible rfl
   try simp only [Act.put, zA, zB, zC]
   refine zT 14 12 ?_ rfl (by rfl) ?_ hHeld ?_
   rotate_left
   ·intro W hSw
    go_simp
    try with_reducible rfl
   try simp only [Act.put, zA, zB, zC]
   refine wpAnyH_done (by kernel_rfl) ?_ _
   go_wp2_with fail
   go_meet
   exact ⟨y9.heap.size, pR0W, qR0W, pR1W, qR1W, pR2W, qR2W, fRW, rfl, rfl, rfl, FR.out⟩
  go_simp
  refine (SP.out y9 _ _ _ _ _ HT.out HV.out).mono ?_
  rintro e y12 ⟨pR0W, qR0W, pR1W, qR1W, pR2W, qR2W, fRW, rfl, ho, hb⟩
  replace HT := zH (HT.out.stays hb)
  replace HV := zH (HV.out.stays hb)
  have HR := zH (zJ (ho : OwnCQ y12 y9.heap.size (.agg #[.string r.key, .int .i64 r.now, .slice pR0W lR0 qR0W, .slice pR1W lR1 qR1W, .slice pR2W lR2 qR2W]) r fRW) (zJ hHeld.size (zJ ho.lt (Nat.le_refl _ : y12.heap.size <= y12.heap.size))))
  have hH : Below w2.heap.size w2 y12 := Below.on hHeld hb hHeld.size
  clear ho hb
  go_wp2_with fail
  refine hK.out _ _ hH (fun hHeld => ?_)
  clear hK K hH
  try simp only [Act.put, zA, zB, zC]
  refine zT 7 34 ?_ rfl (by rfl) ?_ hHeld ?_
  rotate_left
  ·intro W hSw
   go_simp
   try with_reducible rfl
  try simp only [Act.put, zA, zB, zC]
  refine zT 8 42 ?_ rfl (by rfl) ?_ hHeld ?_
  rotate_left
  ·intro W hSw
   go_simp
   try with_reducible rfl
  try simp only [Act.put, zA, zB, zC]
  refine zT 9 43 ?_ rfl (by rfl) ?_ hHeld ?_
  rotate_left
  ·intro W hSw
   go_simp
   try with_reducible rfl
  try simp only [Act.put, zA, zB, zC]
  refine zT 10 44 ?_ rfl (by rfl) ?_ hHeld ?_
  rotate_left
  ·intro W hSw
   go_simp
   try with_reducible rfl
  try simp only [Act.put, zA, zB, zC]
  refine wpAnyH_ready (rs := [11]) (by kernel_rfl) (by simp) ?_
  refine AllReadyH.cons (o := ⟨some 10, _, _, _, _, _⟩) rfl (fun K hK => ?_) AllReadyH.nil
  obtain ⟨y13, hy13⟩ : ∃ V, V = y12.alloc (Obj.cells #[.string ⟨#[]⟩, .int .i64 0, .slice none 0 0, .slice none 0 0, .slice none 0 0] 35) := ⟨_, rfl⟩
  have hb : Below y12.heap.size y12 y13 := by rw [hy13]; exact (Below.refl _ _).alloc (Nat.le_refl _) _
  have HG := zH (zJ (by rw [hy13]; exact Blk.new _ _ _ : (Blk y13 y12.heap.size 35 #[.string ⟨#[]⟩, .int .i64 0, .slice none 0 0, .slice none 0 0, .slice none 0 0])) hHeld.size)
  have HOLD : Hid (∀ b ∈ fRW, b < y12.heap.size) := fun b hb => (HR.out.1.lt b hb).2
  replace HT := zH (HT.out.stays hb)
  replace HV := zH (HV.out.stays hb)
  replace HR := zH (zJ (HR.out.1.stays hb) (zJ HR.out.2.1 (zJ HR.out.2.2.1 (Nat.le_trans HR.out.2.2.2 hb.size))))
  have hH : Below w2.heap.size w2 y13 := Below.on hHeld hb hHeld.size
  go_simp
  rw [<- hy13]
  refine hK.out _ _ hH (fun hHeld => ?_)
  clear hK K hH hy13 hb
  try simp only [Act.put, zA, zB, zC]
  refine wpAnyH_ready (rs := [12]) (by kernel_rfl) (by simp) ?_
  refine AllReadyH.cons (o := ⟨none, _, _, _, _, _⟩) rfl (fun K hK => ?_) AllReadyH.nil
  have e0 : y13.cell? ⟨y12.heap.size, 0, none⟩ = some (.string ⟨#[]⟩) := HG.out.1.cell 0
  have e1 : y13.cell? ⟨y12.heap.size, 1, none⟩ = some (.int .i64 0) := HG.out.1.cell 1
  have e2 : y13.cell? ⟨y12.heap.size, 2, none⟩ = some (.slice none 0 0) := HG.out.1.cell 2
  have e3 : y13.cell? ⟨y12.heap.size, 3, none⟩ = some (.slice none 0 0) := HG.out.1.cell 3
  have e4 : y13.cell? ⟨y12.heap.size, 4, none⟩ = some (.slice none 0 0) := HG.out.1.cell 4
  have ef := fun i => HG.out.1.free i
  have HAP : Hid (∀ b ∈ fRW, b ≠ y12.heap.size) := fun b hb => by have h1 := HR.out.2.2.1 b hb; have h3 := HOLD.out b hb; omega
  go_simp
  generalize hV : World.setCell _ { block := y12.heap.size, off := 4 } (.slice pR2W lR2 qR2W) = V
  have FIN : Out [y12.heap.size] y13 V /\ Blk V y12.heap.size 35 #[.string r.key, .int .i64 r.now, .slice pR0W lR0 qR0W, .slice pR1W lR1 qR1W, .slice pR2W lR2 qR2W] := by
   rw [<- hV]
   refine ⟨?_, ?_⟩
   ·iterate 5 refine Out.setCell ?_ _ _ (by simp)
    exact Out.refl _ _
   ·exact (((((HG.out.1.set 0 _).set 1 _).set 2 _).set 3 _).set 4 _)
  clear hV ef e0 e1 e2 e3 e4
  have hH : Below w2.heap.size w2 V := Below.out hHeld FIN.1 (fun b hb => by rw [List.mem_singleton.1 hb]; exact HG.out.2) hHeld.size
  have FR : Hid (Below w2.heap.size w2 V /\ Blk V y12.heap.size 35 #[.string r.key, .int .i64 r.now, .slice pR0W lR0 qR0W, .slice pR1W lR1 qR1W, .slice pR2W lR2 qR2W] /\ OwnCQ V w2.heap.size (.agg #[.string r.key, .int .i64 r.now, .slice pR0W lR0 qR0W, .slice pR1W lR1 qR1W, .slice pR2W lR2 qR2W]) r fRW /\ (∀ b ∈ fRW, w2.heap.size <= b /\ b < V.heap.size) /\ (w2.heap.size <= y12.heap.size /\ y12.heap.size < V.heap.size)) := ⟨hH, FIN.2, (OwnCQ.out HR.out.1 FIN.1 (fun b hb hm => HAP.out b hb (List.mem_singleton.1 hm))).base (HR.out.2.1), fun b hb => ⟨by have h1 := HR.out.2.2.1 b hb; have h2 := HR.out.2.1; omega, by have h1 := HR.out.2.2.1 b hb; have h3 := HR.out.2.2.2; have h4 := FIN.1.2.2.2.1; omega⟩, HG.out.2, FIN.2.lt⟩
  refine hK.out _ _ hH (fun hHeld => ?_)
  clear hK K hH FIN HAP
  try simp only [Act.put, zA, zB, zC]
  refine zT 13 11 ?_ rfl (by rfl) ?_ hHeld ?_
  rotate_left
  ·intro W hSw
   go_simp
   try with_reducible rfl
  try simp only [Act.put, zA, zB, zC]
  refine zT 14 12 ?_ rfl (by rfl) ?_ hHeld ?_
  rotate_left
  ·intro W hSw
   go_simp
   try with_reducible rfl
  try simp only [Act.put, zA, zB, zC]
  refine wpAnyH_done (by kernel_rfl) ?_ _
  go_wp2_with fail
  go_meet
  exact ⟨y12.heap.size, pR0W, qR0W, pR1W, qR1W, pR2W, qR2W, fRW, rfl, rfl, rfl, FR.out⟩
 case rest =>
 obtain ⟨gW, pR0W, qR0W, pR1W, qR1W, pR2W, qR2W, fRW, rfl, rfl, rfl, HCUT⟩ := hcut
 rename World => WXW
 have hb : Below w2.heap.size w2 WXW := HCUT.out.1
 replace HB := zH (Below.on HB.out hb HB.out.size)
 replace HA := zH (HA.out.below hb HA.out.lt)
 replace HC := zH (HC.out.below hb HC.out.lt)
 have O3 : Hid (w2.heap.size <= WXW.heap.size) := hb.size
 clear hb
 have LW : Hid (∀ b ∈ fRW, w2.heap.size <= b /\ b < WXW.heap.size) := HCUT.out.2.2.2.1
 have HW : Hid (OwnCQ WXW w2.heap.size (.agg #[.string r.key, .int .i64 r.now, .slice pR0W lR0 qR0W, .slice pR1W lR1 qR1W, .slice pR2W lR2 qR2W]) r fRW) := HCUT.out.2.2.1
 have VW : Hid (Blk WXW gW 35 #[.string r.key, .int .i64 r.now, .slice pR0W lR0 qR0W, .slice pR1W lR1 qR1W, .slice pR2W lR2 qR2W]) := HCUT.out.2.1
 have O4 : Hid (w2.heap.size <= gW /\ gW < WXW.heap.size) := HCUT.out.2.2.2.2
 clear HCUT
 have c0 := fun j => HA.out.cell j
 go_wp2_with fail
 clear c0
 refine (T1.out WXW HB.out).mono ?_
 rintro e w3 ⟨pC0X, qC0X, pC1X, qC1X, pC2X, qC2X, fCX, rfl, ho, hb⟩
 replace HB := zH (Below.on HB.out hb HB.out.size)
 replace HA := zH (HA.out.below hb HA.out.lt)
 replace HC := zH (HC.out.below hb HC.out.lt)
 replace HW := zH (HW.out.stays hb)
 replace VW := zH (VW.out.below hb VW.out.lt)
 have O5 : Hid (WXW.heap.size <= w3.heap.size) := hb.size
 have LX : Hid (∀ b ∈ fCX, WXW.heap.size <= b /\ b < w3.heap.size) := ho.lt
 have HX : Hid (OwnCn false w3 WXW.heap.size (.agg #[.string s.key, .int .i64 s.now, .slice pC0X lC0 qC0X, .slice pC1X lC1 qC1X, .slice pC2X lC2 qC2X]) s fCX) := ho
 clear ho hb
 have c0 := fun o j => (HC.out.alloc o).cell j
 go_wp2_with fail
 clear c0
 obtain ⟨W4, hW4⟩ : ∃ W, W = w3.alloc (Obj.cells #[.string s.key, .int .i64 s.now, .slice pC0X lC0 qC0X, .slice pC1X lC1 qC1X, .slice pC2X lC2 qC2X] 35) := ⟨_, rfl⟩
 rw [<- hW4]
 have hbW4 : Below w3.heap.size w3 W4 := by rw [hW4]; exact (Below.refl _ _).alloc (Nat.le_refl _) _
 replace HB := zH (Below.on HB.out hbW4 HB.out.size)
 replace HA := zH (HA.out.below hbW4 HA.out.lt)
 replace HC := zH (HC.out.below hbW4 HC.out.lt)
 replace HW := zH (HW.out.stays hbW4)
 replace VW := zH (VW.out.below hbW4 VW.out.lt)
 replace HX := zH (HX.out.stays hbW4)
 have O6 : Hid (w3.heap.size <= W4.heap.size) := hbW4.size
 have VX : Hid (Blk W4 w3.heap.size 35 #[.string s.key, .int .i64 s.now, .slice pC0X lC0 qC0X, .slice pC1X lC1 qC1X, .slice pC2X lC2 qC2X]) := by rw [hW4]; exact Blk.new w3 _ _
 have O7 : Hid (W4.heap.size = w3.heap.size + 1) := by rw [hW4]; exact size_alloc _ _
 clear hW4 hbW4
 refine (T2.out W4 HB.out).mono ?_
 rintro e w5 ⟨pK0Y, qK0Y, rfl, ho, hb⟩
 replace HB := zH (Below.on HB.out hb HB.out.size)
 replace HA := zH (HA.out.below hb HA.out.lt)
 replace HC := zH (HC.out.below hb HC.out.lt)
 replace HW := zH (HW.out.stays hb)
 replace VW := zH (VW.out.below hb VW.out.lt)
 replace HX := zH (HX.out.stays hb)
 replace VX := zH (VX.out.below hb VX.out.lt)
 have O8 : Hid (W4.heap.size <= w5.heap.size) := hb.size
 have LY : Hid (∀ b ∈ fpAk (.agg #[.slice pK0Y lK0 qK0Y, .int .i64 d.plan, .int .i64 d.want, .int .i64 d.nonce, .int .i64 d.time, .bool d.cac]), W4.heap.size <= b /\ b < w5.heap.size) := fpAk_lt ho
 have HY : Hid (OwnAk w5 W4.heap.size (.agg #[.slice pK0Y lK0 qK0Y, .int .i64 d.plan, .int .i64 d.want, .int .i64 d.nonce, .int .i64 d.time, .bool d.cac]) d) := ho
 clear ho hb
 have d0 := fun o j => (VX.out.alloc o).cell j
 go_wp2_with fail
 clear d0
 obtain ⟨W6, hW6⟩ : ∃ W, W = w5.alloc (Obj.cells #[.slice pK0Y lK0 qK0Y, .int .i64 d.plan, .int .i64 d.want, .int .i64 d.nonce, .int .i64 d.time, .bool d.cac] 39) := ⟨_, rfl⟩
 rw [<- hW6]
 have hbW6 : Below w5.heap.size w5 W6 := by rw [hW6]; exact (Below.refl _ _).alloc (Nat.le_refl _) _
 replace HB := zH (Below.on HB.out hbW6 HB.out.size)
 replace HA := zH (HA.out.below hbW6 HA.out.lt)
 replace HC := zH (HC.out.below hbW6 HC.out.lt)
 replace HW := zH (HW.out.stays hbW6)
 replace VW := zH (VW.out.below hbW6 VW.out.lt)
 replace HX := zH (HX.out.stays hbW6)
 replace VX := zH (VX.out.below hbW6 VX.out.lt)
 replace HY := zH (HY.out.stays hbW6)
 have O9 : Hid (w5.heap.size <= W6.heap.size) := hbW6.size
 have VY : Hid (Blk W6 w5.heap.size 39 #[.slice pK0Y lK0 qK0Y, .int .i64 d.plan, .int .i64 d.want, .int .i64 d.nonce, .int .i64 d.time, .bool d.cac]) := by rw [hW6]; exact Blk.new w5 _ _
 have O10 : Hid (W6.heap.size = w5.heap.size + 1) := by rw [hW6]; exact size_alloc _ _
 clear hW6 hbW6
 refine (IM.out W6 _ _ _ _ _ HX.out HY.out).mono ?_
 rintro e w7 ⟨pR0G, qR0G, pR1G, qR1G, pR2G, qR2G, fRG, rfl, ho, hb⟩
 replace HB := zH (Below.on HB.out hb HB.out.size)
 replace HA := zH (HA.out.below hb HA.out.lt)
 replace HC := zH (HC.out.below hb HC.out.lt)
 replace HW := zH (HW.out.stays hb)
 replace VW := zH (VW.out.below hb VW.out.lt)
 replace HX := zH (HX.out.stays hb)
 replace VX := zH (VX.out.below hb VX.out.lt)
 replace HY := zH (HY.out.stays hb)
 replace VY := zH (VY.out.below hb VY.out.lt)
 have O11 : Hid (W6.heap.size <= w7.heap.size) := hb.size
 have LG : Hid (∀ b ∈ fRG, W6.heap.size <= b /\ b < w7.heap.size) := ho.lt
 have HG : Hid (OwnCQ w7 W6.heap.size (.agg #[.string r.key, .int .i64 r.now, .slice pR0G lR0 qR0G, .slice pR1G lR1 qR1G, .slice pR2G lR2 qR2G]) r fRG) := ho
 clear ho hb
 have d0 := fun o j => (VW.out.alloc o).cell j
 go_wp2_with fail
 clear d0
 obtain ⟨W8, hW8⟩ : ∃ W, W = w7.alloc (Obj.cells #[.string r.key, .int .i64 r.now, .slice pR0G lR0 qR0G, .slice pR1G lR1 qR1G, .slice pR2G lR2 qR2G] 35) := ⟨_, rfl⟩
 rw [<- hW8]
 have hbW8 : Below w7.heap.size w7 W8 := by rw [hW8]; exact (Below.refl _ _).alloc (Nat.le_refl _) _
 replace HB := zH (Below.on HB.out hbW8 HB.out.size)
 replace HA := zH (HA.out.below hbW8 HA.out.lt)
 replace HC := zH (HC.out.below hbW8 HC.out.lt)
 replace HW := zH (HW.out.stays hbW8)
 replace VW := zH (VW.out.below hbW8 VW.out.lt)
 replace HX := zH (HX.out.stays hbW8)
 replace VX := zH (VX.out.below hbW8 VX.out.lt)
 replace HY := zH (HY.out.stays hbW8)
 replace VY := zH (VY.out.below hbW8 VY.out.lt)
 replace HG := zH (HG.out.stays hbW8)
 have O12 : Hid (w7.heap.size <= W8.heap.size) := hbW8.size
 have VG : Hid (Blk W8 w7.heap.size 35 #[.string r.key, .int .i64 r.now, .slice pR0G lR0 qR0G, .slice pR1G lR1 qR1G, .slice pR2G lR2 qR2G]) := by rw [hW8]; exact Blk.new w7 _ _
 have O13 : Hid (W8.heap.size = w7.heap.size + 1) := by rw [hW8]; exact size_alloc _ _
 clear hW8 hbW8
 refine (EQ.out W8 _ _ HG.out.at HW.out.at).mono ?_
 rintro e w9 ⟨rfl, hb⟩
 replace HB := zH (Below.on HB.out hb HB.out.size)
 replace HA := zH (HA.out.below hb HA.out.lt)
 replace HC := zH (HC.out.below hb HC.out.lt)
 replace HW := zH (HW.out.stays hb)
 replace VW := zH (VW.out.below hb VW.out.lt)
 replace HX := zH (HX.out.stays hb)
 replace VX := zH (VX.out.below hb VX.out.lt)
 replace HY := zH (HY.out.stays hb)
 replace VY := zH (VY.out.below hb VY.out.lt)
 replace HG := zH (HG.out.stays hb)
 replace VG := zH (VG.out.below hb VG.out.lt)
 have O14 : Hid (W8.heap.size <= w9.heap.size) := hb.size
 clear hb
 go_upto_region 14 with fail
 have HD : Below w9.heap.size w9 w9.drew := (Below.refl _ _).drew
 refine wp_region_held_drew (S := fun W => Below w9.heap.size w9 W) (by kernel_rfl) HD (fun hHeld => ?_)
 clear HD
 generalize w9.drew = wd at hHeld |-
 refine zT 0 72 ?_ rfl (by rfl) ?_ hHeld ?_
 rotate_left
 ·intro W hSw
  have l0 := fun j => (VX.out.below hSw VX.out.lt).cell j
  go_simp
  try with_reducible rfl
 try simp only [Act.put, zA, zB, zC]
 refine zT 1 73 ?_ rfl (by rfl) ?_ hHeld ?_
 rotate_left
 ·intro W hSw
  have m0 := fun j => (HA.out.below hSw HA.out.lt).cell j
  go_simp
  try with_reducible rfl
 try simp only [Act.put, zA, zB, zC]
 refine wpAnyH_ready (rs := [2]) (by kernel_rfl) (by simp) ?_
 refine AllReadyH.cons (o := ⟨some 74, _, _, _, _, _⟩) rfl (fun K hK => ?_) AllReadyH.nil
 go_simp
 refine (T1.out wd (Below.on HB.out hHeld HB.out.size)).mono ?_
 rintro e z10 ⟨pC0E, qC0E, pC1E, qC1E, pC2E, qC2E, fCE, rfl, ho, hb⟩
 have hH : Below w9.heap.size w9 z10 := Below.on hHeld hb hHeld.size
 have EE := Q1.out z10 _ _ (HX.out.stays hH).at ho.at
 clear ho hb hHeld
 refine hK.out _ _ hH (fun hHeld => ?_)
 clear hK K hH
 try simp only [Act.put, zA, zB, zC]
 refine wpAnyH_ready (rs := [3]) (by kernel_rfl) (by simp) ?_
 refine AllReadyH.cons (o := ⟨some 75, _, _, _, _, _⟩) rfl (fun K hK => ?_) AllReadyH.nil
 go_simp
 refine EE.mono ?_
 rintro e zz10 ⟨rfl, hb⟩
 have hH : Below w9.heap.size w9 zz10 := Below.on hHeld hb hHeld.size
 clear hb hHeld EE
 refine hK.out _ _ hH (fun hHeld => ?_)
 clear hK K hH
 try simp only [Act.put, zA, zB, zC]
 refine zT 4 76 ?_ rfl (by rfl) ?_ hHeld ?_
 rotate_left
 ·intro W hSw
  go_simp
  try with_reducible rfl
 try simp only [Act.put, zA, zB, zC]
 refine wpAnyH_done (by kernel_rfl) ?_ _
 replace HB := zH (Below.on HB.out hHeld HB.out.size)
 replace HA := zH (HA.out.below hHeld HA.out.lt)
 replace HC := zH (HC.out.below hHeld HC.out.lt)
 replace HW := zH (HW.out.stays hHeld)
 replace VW := zH (VW.out.below hHeld VW.out.lt)
 replace HX := zH (HX.out.stays hHeld)
 replace VX := zH (VX.out.below hHeld VX.out.lt)
 replace HY := zH (HY.out.stays hHeld)
 replace VY := zH (VY.out.below hHeld VY.out.lt)
 replace HG := zH (HG.out.stays hHeld)
 replace VG := zH (VG.out.below hHeld VG.out.lt)
 have O15 : Hid (w9.heap.size <= zz10.heap.size) := hHeld.size
 clear hHeld
 go_upto_region 16 with fail
 have HD : Below zz10.heap.size zz10 zz10.drew := (Below.refl _ _).drew
 refine wp_region_held_drew (S := fun W => Below zz10.heap.size zz10 W) (by kernel_rfl) HD (fun hHeld => ?_)
 clear HD
 generalize zz10.drew = wd at hHeld |-
 refine zT 0 77 ?_ rfl (by rfl) ?_ hHeld ?_
 rotate_left
 ·intro W hSw
  have l0 := fun j => (VY.out.below hSw VY.out.lt).cell j
  go_simp
  try with_reducible rfl
 try simp only [Act.put, zA, zB, zC]
 refine zT 1 78 ?_ rfl (by rfl) ?_ hHeld ?_
 rotate_left
 ·intro W hSw
  have m0 := fun j => (HC.out.below hSw HC.out.lt).cell j
  go_simp
  try with_reducible rfl
 try simp only [Act.put, zA, zB, zC]
 refine wpAnyH_ready (rs := [2]) (by kernel_rfl) (by simp) ?_
 refine AllReadyH.cons (o := ⟨some 79, _, _, _, _, _⟩) rfl (fun K hK => ?_) AllReadyH.nil
 go_simp
 refine (T2.out wd (Below.on HB.out hHeld HB.out.size)).mono ?_
 rintro e z11 ⟨pK0E, qK0E, rfl, ho, hb⟩
 have hH : Below zz10.heap.size zz10 z11 := Below.on hHeld hb hHeld.size
 have EE := Q2.out z11 _ _ (HY.out.stays hH).at ho.at
 clear ho hb hHeld
 refine hK.out _ _ hH (fun hHeld => ?_)
 clear hK K hH
 try simp only [Act.put, zA, zB, zC]
 refine wpAnyH_ready (rs := [3]) (by kernel_rfl) (by simp) ?_
 refine AllReadyH.cons (o := ⟨some 80, _, _, _, _, _⟩) rfl (fun K hK => ?_) AllReadyH.nil
 go_simp
 refine EE.mono ?_
 rintro e zz11 ⟨rfl, hb⟩
 have hH : Below zz10.heap.size zz10 zz11 := Below.on hHeld hb hHeld.size
 clear hb hHeld EE
 refine hK.out _ _ hH (fun hHeld => ?_)
 clear hK K hH
 try simp only [Act.put, zA, zB, zC]
 refine zT 4 81 ?_ rfl (by rfl) ?_ hHeld ?_
 rotate_left
 ·intro W hSw
  go_simp
  try with_reducible rfl
 try simp only [Act.put, zA, zB, zC]
 refine wpAnyH_done (by kernel_rfl) ?_ _
 replace HB := zH (Below.on HB.out hHeld HB.out.size)
 replace HA := zH (HA.out.below hHeld HA.out.lt)
 replace HC := zH (HC.out.below hHeld HC.out.lt)
 replace HW := zH (HW.out.stays hHeld)
 replace VW := zH (VW.out.below hHeld VW.out.lt)
 replace HX := zH (HX.out.stays hHeld)
 replace VX := zH (VX.out.below hHeld VX.out.lt)
 replace HY := zH (HY.out.stays hHeld)
 replace VY := zH (VY.out.below hHeld VY.out.lt)
 replace HG := zH (HG.out.stays hHeld)
 replace VG := zH (VG.out.below hHeld VG.out.lt)
 have O16 : Hid (zz10.heap.size <= zz11.heap.size) := hHeld.size
 clear hHeld
 have c0 := fun j => VX.out.cell j
 go_wp2_with fail
 clear c0
 refine (M1.out zz11 _ _ _ (by have := O0.out; have := O1.out; have := O2.out; have := O3.out; have := O4.out; have := O5.out; have := O6.out; have := O7.out; have := O8.out; have := O9.out; have := O10.out; have := O11.out; have := O12.out; have := O13.out; have := O14.out; have := O15.out; have := O16.out; omega) HX.out).mono ?_
 rintro e w12 ⟨rfl, hoX, hout⟩
 replace HB := zH (Below.out HB.out hout (fun b hm => by have := LX.out b hm; have := O0.out; have := O1.out; have := O2.out; have := O3.out; have := O4.out; have := O5.out; have := O6.out; have := O7.out; have := O8.out; have := O9.out; have := O10.out; have := O11.out; have := O12.out; have := O13.out; have := O14.out; have := O15.out; have := O16.out; omega) HB.out.size)
 have HAn : Hid (Blk w12 w.heap.size 26 #[.string s.key, .int .i64 s.now, .slice pC00 lC0 qC00, .slice pC10 lC1 qC10, .slice pC20 lC2 qC20]) := HA.out.out hout (fun hm => by have := LX.out _ hm; have := O0.out; have := O1.out; have := O2.out; have := O3.out; have := O4.out; have := O5.out; have := O6.out; have := O7.out; have := O8.out; have := O9.out; have := O10.out; have := O11.out; have := O12.out; have := O13.out; have := O14.out; have := O15.out; have := O16.out; omega)
 clear HA
 have HA := HAn
 clear HAn
 have HCn : Hid (Blk w12 (w.heap.size + 1) 29 #[.slice pK00 lK0 qK00, .int .i64 d.plan, .int .i64 d.want, .int .i64 d.nonce, .int .i64 d.time, .bool d.cac]) := HC.out.out hout (fun hm => by have := LX.out _ hm; have := O0.out; have := O1.out; have := O2.out; have := O3.out; have := O4.out; have := O5.out; have := O6.out; have := O7.out; have := O8.out; have := O9.out; have := O10.out; have := O11.out; have := O12.out; have := O13.out; have := O14.out; have := O15.out; have := O16.out; omega)
 clear HC
 have HC := HCn
 clear HCn
 replace HW := zH (HW.out.out hout (fun b hb hm => by have := LX.out b hm; have := LW.out b hb; have := O0.out; have := O1.out; have := O2.out; have := O3.out; have := O4.out; have := O5.out; have := O6.out; have := O7.out; have := O8.out; have := O9.out; have := O10.out; have := O11.out; have := O12.out; have := O13.out; have := O14.out; have := O15.out; have := O16.out; omega))
 have VWn : Hid (Blk w12 gW 35 #[.string r.key, .int .i64 r.now, .slice pR0W lR0 qR0W, .slice pR1W lR1 qR1W, .slice pR2W lR2 qR2W]) := VW.out.out hout (fun hm => by have := LX.out _ hm; have := O0.out; have := O1.out; have := O2.out; have := O3.out; have := O4.out; have := O5.out; have := O6.out; have := O7.out; have := O8.out; have := O9.out; have := O10.out; have := O11.out; have := O12.out; have := O13.out; have := O14.out; have := O15.out; have := O16.out; omega)
 clear VW
 have VW := VWn
 clear VWn
 have VXn : Hid (Blk w12 w3.heap.size 35 #[.string s.key, .int .i64 s.now, .slice pC0X lC0 qC0X, .slice pC1X lC1 qC1X, .slice pC2X lC2 qC2X]) := VX.out.out hout (fun hm => by have := LX.out _ hm; have := O0.out; have := O1.out; have := O2.out; have := O3.out; have := O4.out; have := O5.out; have := O6.out; have := O7.out; have := O8.out; have := O9.out; have := O10.out; have := O11.out; have := O12.out; have := O13.out; have := O14.out; have := O15.out; have := O16.out; omega)
 clear VX
 have VX := VXn
 clear VXn
 replace HY := zH (HY.out.out hout (fun b hb hm => by have := LX.out b hm; have := LY.out b hb; have := O0.out; have := O1.out; have := O2.out; have := O3.out; have := O4.out; have := O5.out; have := O6.out; have := O7.out; have := O8.out; have := O9.out; have := O10.out; have := O11.out; have := O12.out; have := O13.out; have := O14.out; have := O15.out; have := O16.out; omega))
 have VYn : Hid (Blk w12 w5.heap.size 39 #[.slice pK0Y lK0 qK0Y, .int .i64 d.plan, .int .i64 d.want, .int .i64 d.nonce, .int .i64 d.time, .bool d.cac]) := VY.out.out hout (fun hm => by have := LX.out _ hm; have := O0.out; have := O1.out; have := O2.out; have := O3.out; have := O4.out; have := O5.out; have := O6.out; have := O7.out; have := O8.out; have := O9.out; have := O10.out; have := O11.out; have := O12.out; have := O13.out; have := O14.out; have := O15.out; have := O16.out; omega)
 clear VY
 have VY := VYn
 clear VYn
 replace HG := zH (HG.out.out hout (fun b hb hm => by have := LX.out b hm; have := LG.out b hb; have := O0.out; have := O1.out; have := O2.out; have := O3.out; have := O4.out; have := O5.out; have := O6.out; have := O7.out; have := O8.out; have := O9.out; have := O10.out; have := O11.out; have := O12.out; have := O13.out; have := O14.out; have := O15.out; have := O16.out; omega))
 have VGn : Hid (Blk w12 w7.heap.size 35 #[.string r.key, .int .i64 r.now, .slice pR0G lR0 qR0G, .slice pR1G lR1 qR1G, .slice pR2G lR2 qR2G]) := VG.out.out hout (fun hm => by have := LX.out _ hm; have := O0.out; have := O1.out; have := O2.out; have := O3.out; have := O4.out; have := O5.out; have := O6.out; have := O7.out; have := O8.out; have := O9.out; have := O10.out; have := O11.out; have := O12.out; have := O13.out; have := O14.out; have := O15.out; have := O16.out; omega)
 clear VG
 have VG := VGn
 clear VGn
 have O17 : Hid (zz11.heap.size <= w12.heap.size) := hout.2.2.2.1
 clear HX hoX hout
 have c0 := fun j => VY.out.cell j
 go_wp2_with fail
 clear c0
 refine (M2.out w12 _ _ (by have := O0.out; have := O1.out; have := O2.out; have := O3.out; have := O4.out; have := O5.out; have := O6.out; have := O7.out; have := O8.out; have := O9.out; have := O10.out; have := O11.out; have := O12.out; have := O13.out; have := O14.out; have := O15.out; have := O16.out; have := O17.out; omega) HY.out).mono ?_
 rintro e w13 ⟨rfl, hoX, hout⟩
 replace HB := zH (Below.out HB.out hout (fun b hm => by have := LY.out b hm; have := O0.out; have := O1.out; have := O2.out; have := O3.out; have := O4.out; have := O5.out; have := O6.out; have := O7.out; have := O8.out; have := O9.out; have := O10.out; have := O11.out; have := O12.out; have := O13.out; have := O14.out; have := O15.out; have := O16.out; have := O17.out; omega) HB.out.size)
 have HAn : Hid (Blk w13 w.heap.size 26 #[.string s.key, .int .i64 s.now, .slice pC00 lC0 qC00, .slice pC10 lC1 qC10, .slice pC20 lC2 qC20]) := HA.out.out hout (fun hm => by have := LY.out _ hm; have := O0.out; have := O1.out; have := O2.out; have := O3.out; have := O4.out; have := O5.out; have := O6.out; have := O7.out; have := O8.out; have := O9.out; have := O10.out; have := O11.out; have := O12.out; have := O13.out; have := O14.out; have := O15.out; have := O16.out; have := O17.out; omega)
 clear HA
 have HA := HAn
 clear HAn
 have HCn : Hid (Blk w13 (w.heap.size + 1) 29 #[.slice pK00 lK0 qK00, .int .i64 d.plan, .int .i64 d.want, .int .i64 d.nonce, .int .i64 d.time, .bool d.cac]) := HC.out.out hout (fun hm => by have := LY.out _ hm; have := O0.out; have := O1.out; have := O2.out; have := O3.out; have := O4.out; have := O5.out; have := O6.out; have := O7.out; have := O8.out; have := O9.out; have := O10.out; have := O11.out; have := O12.out; have := O13.out; have := O14.out; have := O15.out; have := O16.out; have := O17.out; omega)
 clear HC
 have HC := HCn
 clear HCn
 replace HW := zH (HW.out.out hout (fun b hb hm => by have := LY.out b hm; have := LW.out b hb; have := O0.out; have := O1.out; have := O2.out; have := O3.out; have := O4.out; have := O5.out; have := O6.out; have := O7.out; have := O8.out; have := O9.out; have := O10.out; have := O11.out; have := O12.out; have := O13.out; have := O14.out; have := O15.out; have := O16.out; have := O17.out; omega))
 have VWn : Hid (Blk w13 gW 35 #[.string r.key, .int .i64 r.now, .slice pR0W lR0 qR0W, .slice pR1W lR1 qR1W, .slice pR2W lR2 qR2W]) := VW.out.out hout (fun hm => by have := LY.out _ hm; have := O0.out; have := O1.out; have := O2.out; have := O3.out; have := O4.out; have := O5.out; have := O6.out; have := O7.out; have := O8.out; have := O9.out; have := O10.out; have := O11.out; have := O12.out; have := O13.out; have := O14.out; have := O15.out; have := O16.out; have := O17.out; omega)
 clear VW
 have VW := VWn
 clear VWn
 have VXn : Hid (Blk w13 w3.heap.size 35 #[.string s.key, .int .i64 s.now, .slice pC0X lC0 qC0X, .slice pC1X lC1 qC1X, .slice pC2X lC2 qC2X]) := VX.out.out hout (fun hm => by have := LY.out _ hm; have := O0.out; have := O1.out; have := O2.out; have := O3.out; have := O4.out; have := O5.out; have := O6.out; have := O7.out; have := O8.out; have := O9.out; have := O10.out; have := O11.out; have := O12.out; have := O13.out; have := O14.out; have := O15.out; have := O16.out; have := O17.out; omega)
 clear VX
 have VX := VXn
 clear VXn
 have VYn : Hid (Blk w13 w5.heap.size 39 #[.slice pK0Y lK0 qK0Y, .int .i64 d.plan, .int .i64 d.want, .int .i64 d.nonce, .int .i64 d.time, .bool d.cac]) := VY.out.out hout (fun hm => by have := LY.out _ hm; have := O0.out; have := O1.out; have := O2.out; have := O3.out; have := O4.out; have := O5.out; have := O6.out; have := O7.out; have := O8.out; have := O9.out; have := O10.out; have := O11.out; have := O12.out; have := O13.out; have := O14.out; have := O15.out; have := O16.out; have := O17.out; omega)
 clear VY
 have VY := VYn
 clear VYn
 replace HG := zH (HG.out.out hout (fun b hb hm => by have := LY.out b hm; have := LG.out b hb; have := O0.out; have := O1.out; have := O2.out; have := O3.out; have := O4.out; have := O5.out; have := O6.out; have := O7.out; have := O8.out; have := O9.out; have := O10.out; have := O11.out; have := O12.out; have := O13.out; have := O14.out; have := O15.out; have := O16.out; have := O17.out; omega))
 have VGn : Hid (Blk w13 w7.heap.size 35 #[.string r.key, .int .i64 r.now, .slice pR0G lR0 qR0G, .slice pR1G lR1 qR1G, .slice pR2G lR2 qR2G]) := VG.out.out hout (fun hm => by have := LY.out _ hm; have := O0.out; have := O1.out; have := O2.out; have := O3.out; have := O4.out; have := O5.out; have := O6.out; have := O7.out; have := O8.out; have := O9.out; have := O10.out; have := O11.out; have := O12.out; have := O13.out; have := O14.out; have := O15.out; have := O16.out; have := O17.out; omega)
 clear VG
 have VG := VGn
 clear VGn
 have O18 : Hid (w12.heap.size <= w13.heap.size) := hout.2.2.2.1
 clear HY hoX hout
 clear VX VY
 have c0 := fun j => VG.out.cell j
 have d0 := fun j => VW.out.cell j
 go_wp2_with fail
 clear c0 d0
 refine (EQ.out w13 _ _ HG.out.at HW.out.at).mono ?_
 rintro e w14 ⟨rfl, hb⟩
 replace HB := zH (Below.on HB.out hb HB.out.size)
 replace HA := zH (HA.out.below hb HA.out.lt)
 replace HC := zH (HC.out.below hb HC.out.lt)
 replace HW := zH (HW.out.stays hb)
 replace VW := zH (VW.out.below hb VW.out.lt)
 replace HG := zH (HG.out.stays hb)
 replace VG := zH (VG.out.below hb VG.out.lt)
 have O19 : Hid (w13.heap.size <= w14.heap.size) := hb.size
 clear hb
 have c0 := fun j => VG.out.cell j
 go_wp2_with fail
 clear c0
 refine (MG.out w14 _ _ _ (by have := O0.out; have := O1.out; have := O2.out; have := O3.out; have := O4.out; have := O5.out; have := O6.out; have := O7.out; have := O8.out; have := O9.out; have := O10.out; have := O11.out; have := O12.out; have := O13.out; have := O14.out; have := O15.out; have := O16.out; have := O17.out; have := O18.out; have := O19.out; omega) HG.out).mono ?_
 rintro e w15 ⟨rfl, hoX, hout⟩
 replace HB := zH (Below.out HB.out hout (fun b hm => by have := LG.out b hm; have := O0.out; have := O1.out; have := O2.out; have := O3.out; have := O4.out; have := O5.out; have := O6.out; have := O7.out; have := O8.out; have := O9.out; have := O10.out; have := O11.out; have := O12.out; have := O13.out; have := O14.out; have := O15.out; have := O16.out; have := O17.out; have := O18.out; have := O19.out; omega) HB.out.size)
 have HAn : Hid (Blk w15 w.heap.size 26 #[.string s.key, .int .i64 s.now, .slice pC00 lC0 qC00, .slice pC10 lC1 qC10, .slice pC20 lC2 qC20]) := HA.out.out hout (fun hm => by have := LG.out _ hm; have := O0.out; have := O1.out; have := O2.out; have := O3.out; have := O4.out; have := O5.out; have := O6.out; have := O7.out; have := O8.out; have := O9.out; have := O10.out; have := O11.out; have := O12.out; have := O13.out; have := O14.out; have := O15.out; have := O16.out; have := O17.out; have := O18.out; have := O19.out; omega)
 clear HA
 have HA := HAn
 clear HAn
 have HCn : Hid (Blk w15 (w.heap.size + 1) 29 #[.slice pK00 lK0 qK00, .int .i64 d.plan, .int .i64 d.want, .int .i64 d.nonce, .int .i64 d.time, .bool d.cac]) := HC.out.out hout (fun hm => by have := LG.out _ hm; have := O0.out; have := O1.out; have := O2.out; have := O3.out; have := O4.out; have := O5.out; have := O6.out; have := O7.out; have := O8.out; have := O9.out; have := O10.out; have := O11.out; have := O12.out; have := O13.out; have := O14.out; have := O15.out; have := O16.out; have := O17.out; have := O18.out; have := O19.out; omega)
 clear HC
 have HC := HCn
 clear HCn
 replace HW := zH (HW.out.out hout (fun b hb hm => by have := LG.out b hm; have := LW.out b hb; have := O0.out; have := O1.out; have := O2.out; have := O3.out; have := O4.out; have := O5.out; have := O6.out; have := O7.out; have := O8.out; have := O9.out; have := O10.out; have := O11.out; have := O12.out; have := O13.out; have := O14.out; have := O15.out; have := O16.out; have := O17.out; have := O18.out; have := O19.out; omega))
 have VWn : Hid (Blk w15 gW 35 #[.string r.key, .int .i64 r.now, .slice pR0W lR0 qR0W, .slice pR1W lR1 qR1W, .slice pR2W lR2 qR2W]) := VW.out.out hout (fun hm => by have := LG.out _ hm; have := O0.out; have := O1.out; have := O2.out; have := O3.out; have := O4.out; have := O5.out; have := O6.out; have := O7.out; have := O8.out; have := O9.out; have := O10.out; have := O11.out; have := O12.out; have := O13.out; have := O14.out; have := O15.out; have := O16.out; have := O17.out; have := O18.out; have := O19.out; omega)
 clear VW
 have VW := VWn
 clear VWn
 have VGn : Hid (Blk w15 w7.heap.size 35 #[.string r.key, .int .i64 r.now, .slice pR0G lR0 qR0G, .slice pR1G lR1 qR1G, .slice pR2G lR2 qR2G]) := VG.out.out hout (fun hm => by have := LG.out _ hm; have := O0.out; have := O1.out; have := O2.out; have := O3.out; have := O4.out; have := O5.out; have := O6.out; have := O7.out; have := O8.out; have := O9.out; have := O10.out; have := O11.out; have := O12.out; have := O13.out; have := O14.out; have := O15.out; have := O16.out; have := O17.out; have := O18.out; have := O19.out; omega)
 clear VG
 have VG := VGn
 clear VGn
 have O20 : Hid (w14.heap.size <= w15.heap.size) := hout.2.2.2.1
 clear HG
 have HG : Hid (OwnCQ w15 W6.heap.size (.agg #[.string r.key, .int .i64 r.now, .slice pR0G lR0 qR0G, .slice pR1G lR1 qR1G, .slice pR2G lR2 qR2G]) RM fRG) := hoX
 clear hoX hout
 have c0 := fun j => VG.out.cell j
 go_wp2_with fail
 clear c0
 refine (HHG.out w15 _ HG.out.at).mono ?_
 rintro e w16 ⟨rfl, hb⟩
 replace HB := zH (Below.on HB.out hb HB.out.size)
 replace HA := zH (HA.out.below hb HA.out.lt)
 replace HC := zH (HC.out.below hb HC.out.lt)
 replace HW := zH (HW.out.stays hb)
 replace VW := zH (VW.out.below hb VW.out.lt)
 replace VG := zH (VG.out.below hb VG.out.lt)
 replace HG := zH (HG.out.stays hb)
 have O21 : Hid (w15.heap.size <= w16.heap.size) := hb.size
 clear hb
 go_upto_region 31 with fail
 go_cut [21, 22, 23] from 24 (fun s21 s22 s23 wx => ∃ (gH : Nat) (pR0H : Option Addr) (qR0H : Nat) (pR1H : Option Addr) (qR1H : Nat) (pR2H : Option Addr) (qR2H : Nat) (fRH : List Nat), s21 = .pointer (some ⟨gH, 0, none⟩) /\ s22 = .string TX /\ s23 = .bool OK /\ Hid (Below w16.heap.size w16 wx /\ Blk wx gH 35 #[.string r.key, .int .i64 r.now, .slice pR0H lR0 qR0H, .slice pR1H lR1 qR1H, .slice pR2H lR2 qR2H] /\ OwnCQ wx w16.heap.size (.agg #[.string r.key, .int .i64 r.now, .slice pR0H lR0 qR0H, .slice pR1H lR1 qR1H, .slice pR2H lR2 qR2H]) r fRH /\ (∀ b ∈ fRH, w16.heap.size <= b /\ b < wx.heap.size) /\ (w16.heap.size <= gH /\ gH < wx.heap.size)))
 case first =>
  have HD : Below w16.heap.size w16 w16.drew := (Below.refl _ _).drew
  refine wp_region_held_drew (S := fun W => Below w16.heap.size w16 W) (by kernel_rfl) HD (fun hHeld => ?_)
  clear HD
  generalize w16.drew = wd at hHeld |-
  refine zT 0 118 ?_ rfl (by rfl) ?_ hHeld ?_
  rotate_left
  ·intro W hSw
   have l0 := fun j => (HA.out.below hSw HA.out.lt).cell j
   go_simp
   try with_reducible rfl
  try simp only [Act.put, zA, zB, zC]
  refine zT 2 120 ?_ rfl (by rfl) ?_ hHeld ?_
  rotate_left
  ·intro W hSw
   have l0 := fun j => (HC.out.below hSw HC.out.lt).cell j
   go_simp
   try with_reducible rfl
  try simp only [Act.put, zA, zB, zC]
  refine zT 4 122 ?_ rfl (by rfl) ?_ hHeld ?_
  rotate_left
  ·intro W hSw
   go_simp
   try with_reducible rfl
  try simp only [Act.put, zA, zB, zC]
  refine zT 5 123 ?_ rfl (by rfl) ?_ hHeld ?_
  rotate_left
  ·intro W hSw
   go_simp
   try with_reducible rfl
  try simp only [Act.put, zA, zB, zC]
  refine wpAnyH_ready (rs := [1, 11]) (by kernel_rfl) (by simp) ?_
  refine AllReadyH.cons (o := ⟨some 119, _, _, _, _, _⟩) rfl (fun K hK => ?_) ?_
  rotate_left
  ·refine AllReadyH.cons (o := ⟨some 21, _, _, _, _, _⟩) rfl (fun K hK => ?_) AllReadyH.nil
   obtain ⟨y1, hy1⟩ : ∃ V, V = wd.alloc (Obj.cells #[.string ⟨#[]⟩, .int .i64 0, .slice none 0 0, .slice none 0 0, .slice none 0 0] 35) := ⟨_, rfl⟩
   have hb : Below wd.heap.size wd y1 := by rw [hy1]; exact (Below.refl _ _).alloc (Nat.le_refl _) _
   have HG := zH (zJ (by rw [hy1]; exact Blk.new _ _ _ : (Blk y1 wd.heap.size 35 #[.string ⟨#[]⟩, .int .i64 0, .slice none 0 0, .slice none 0 0, .slice none 0 0])) hHeld.size)
   have hH : Below w16.heap.size w16 y1 := Below.on hHeld hb hHeld.size
   go_simp
   rw [<- hy1]
   refine hK.out _ _ hH (fun hHeld => ?_)
   clear hK K hH hy1 hb
   try simp only [Act.put, zA, zB, zC]
   refine wpAnyH_ready (rs := [1]) (by kernel_rfl) (by simp) ?_
   refine AllReadyH.cons (o := ⟨some 119, _, _, _, _, _⟩) rfl (fun K hK => ?_) AllReadyH.nil
   go_simp
   refine (T1.out y1 (Below.on HB.out hHeld HB.out.size)).mono ?_
   rintro e y2 ⟨pC0T, qC0T, pC1T, qC1T, pC2T, qC2T, fCT, rfl, ho, hb⟩
   replace HG := zH (zJ (HG.out.1.below hb HG.out.1.lt) HG.out.2)
   have HT : Hid (OwnCn false y2 y1.heap.size (.agg #[.string s.key, .int .i64 s.now, .slice pC0T lC0 qC0T, .slice pC1T lC1 qC1T, .slice pC2T lC2 qC2T]) s fCT) := ho
   have hH : Below w16.heap.size w16 y2 := Below.on hHeld hb hHeld.size
   clear ho hb
   go_wp2_with fail
   refine hK.out _ _ hH (fun hHeld => ?_)
   clear hK K hH
   try simp only [Act.put, zA, zB, zC]
   refine wpAnyH_ready (rs := [3]) (by kernel_rfl) (by simp) ?_
   refine AllReadyH.cons (o := ⟨some 121, _, _, _, _, _⟩) rfl (fun K hK => ?_) AllReadyH.nil
   go_simp
   refine (T2.out y2 (Below.on HB.out hHeld HB.out.size)).mono ?_
   rintro e y3 ⟨pK0T, qK0T, rfl, ho, hb⟩
   replace HG := zH (zJ (HG.out.1.below hb HG.out.1.lt) HG.out.2)
   replace HT := zH (HT.out.stays hb)
   have HV : Hid (OwnAk y3 y2.heap.size (.agg #[.slice pK0T lK0 qK0T, .int .i64 d.plan, .int .i64 d.want, .int .i64 d.nonce, .int .i64 d.time, .bool d.cac]) d) := ho
   have hH : Below w16.heap.size w16 y3 := Below.on hHeld hb hHeld.size
   clear ho hb
   go_wp2_with fail
   refine hK.out _ _ hH (fun hHeld => ?_)
   clear hK K hH
   try simp only [Act.put, zA, zB, zC]
   refine wpAnyH_ready (rs := [6]) (by kernel_rfl) (by simp) ?_
   refine AllReadyH.cons (o := ⟨some 124, _, _, _, _, _⟩) rfl (fun K hK => ?_) AllReadyH.nil
   go_simp
   refine (IM.out y3 _ _ _ _ _ HT.out HV.out).mono ?_
   rintro e y4 ⟨pR0H, qR0H, pR1H, qR1H, pR2H, qR2H, fRH, rfl, ho, hb⟩
   have HAL : Hid (wd.heap.size < y3.heap.size) := HG.out.1.lt
   replace HG := zH (zJ (HG.out.1.below hb HG.out.1.lt) HG.out.2)
   replace HT := zH (HT.out.stays hb)
   replace HV := zH (HV.out.stays hb)
   have HR := zH (zJ (ho : OwnCQ y4 y3.heap.size (.agg #[.string r.key, .int .i64 r.now, .slice pR0H lR0 qR0H, .slice pR1H lR1 qR1H, .slice pR2H lR2 qR2H]) r fRH) (zJ hHeld.size (zJ ho.lt (Nat.le_refl _ : y4.heap.size <= y4.heap.size))))
   have hH : Below w16.heap.size w16 y4 := Below.on hHeld hb hHeld.size
   clear ho hb
   go_wp2_with fail
   refine hK.out _ _ hH (fun hHeld => ?_)
   clear hK K hH
   try simp only [Act.put, zA, zB, zC]
   refine zT 7 117 ?_ rfl (by rfl) ?_ hHeld ?_
   rotate_left
   ·intro W hSw
    go_simp
    try with_reducible rfl
   try simp only [Act.put, zA, zB, zC]
   refine zT 8 125 ?_ rfl (by rfl) ?_ hHeld ?_
   rotate_left
   ·intro W hSw
    go_simp
    try with_reducible rfl
   try simp only [Act.put, zA, zB, zC]
   refine zT 9 126 ?_ rfl (by rfl) ?_ hHeld ?_
   rotate_left
   ·intro W hSw
    go_simp
    try with_reducible rfl
   try simp only [Act.put, zA, zB, zC]
   refine zT 10 127 ?_ rfl (by rfl) ?_ hHeld ?_
   rotate_left
   ·intro W hSw
    go_simp
    try with_reducible rfl
   try simp only [Act.put, zA, zB, zC]
   refine wpAnyH_ready (rs := [12]) (by kernel_rfl) (by simp) ?_
   refine AllReadyH.cons (o := ⟨none, _, _, _, _, _⟩) rfl (fun K hK => ?_) AllReadyH.nil
   have e0 : y4.cell? ⟨wd.heap.size, 0, none⟩ = some (.string ⟨#[]⟩) := HG.out.1.cell 0
   have e1 : y4.cell? ⟨wd.heap.size, 1, none⟩ = some (.int .i64 0) := HG.out.1.cell 1
   have e2 : y4.cell? ⟨wd.heap.size, 2, none⟩ = some (.slice none 0 0) := HG.out.1.cell 2
   have e3 : y4.cell? ⟨wd.heap.size, 3, none⟩ = some (.slice none 0 0) := HG.out.1.cell 3
   have e4 : y4.cell? ⟨wd.heap.size, 4, none⟩ = some (.slice none 0 0) := HG.out.1.cell 4
   have ef := fun i => HG.out.1.free i
   have HAP : Hid (∀ b ∈ fRH, b ≠ wd.heap.size) := fun b hb => by have h1 := HR.out.2.2.1 b hb; have h2 := HAL.out; omega
   go_simp
   generalize hV : World.setCell _ { block := wd.heap.size, off := 4 } (.slice pR2H lR2 qR2H) = V
   have FIN : Out [wd.heap.size] y4 V /\ Blk V wd.heap.size 35 #[.string r.key, .int .i64 r.now, .slice pR0H lR0 qR0H, .slice pR1H lR1 qR1H, .slice pR2H lR2 qR2H] := by
    rw [<- hV]
    refine ⟨?_, ?_⟩
    ·iterate 5 refine Out.setCell ?_ _ _ (by simp)
     exact Out.refl _ _
    ·exact (((((HG.out.1.set 0 _).set 1 _).set 2 _).set 3 _).set 4 _)
   clear hV ef e0 e1 e2 e3 e4
   have hH : Below w16.heap.size w16 V := Below.out hHeld FIN.1 (fun b hb => by rw [List.mem_singleton.1 hb]; exact HG.out.2) hHeld.size
   have FR : Hid (Below w16.heap.size w16 V /\ Blk V wd.heap.size 35 #[.string r.key, .int .i64 r.now, .slice pR0H lR0 qR0H, .slice pR1H lR1 qR1H, .slice pR2H lR2 qR2H] /\ OwnCQ V w16.heap.size (.agg #[.string r.key, .int .i64 r.now, .slice pR0H lR0 qR0H, .slice pR1H lR1 qR1H, .slice pR2H lR2 qR2H]) r fRH /\ (∀ b ∈ fRH, w16.heap.size <= b /\ b < V.heap.size) /\ (w16.heap.size <= wd.heap.size /\ wd.heap.size < V.heap.size)) := ⟨hH, FIN.2, (OwnCQ.out HR.out.1 FIN.1 (fun b hb hm => HAP.out b hb (List.mem_singleton.1 hm))).base (HR.out.2.1), fun b hb => ⟨by have h1 := HR.out.2.2.1 b hb; have h2 := HR.out.2.1; omega, by have h1 := HR.out.2.2.1 b hb; have h3 := HR.out.2.2.2; have h4 := FIN.1.2.2.2.1; omega⟩, HG.out.2, FIN.2.lt⟩
   refine hK.out _ _ hH (fun hHeld => ?_)
   clear hK K hH FIN HAP
   try simp only [Act.put, zA, zB, zC]
   refine zT 13 22 ?_ rfl (by rfl) ?_ hHeld ?_
   rotate_left
   ·intro W hSw
    go_simp
    try with_reducible rfl
   try simp only [Act.put, zA, zB, zC]
   refine zT 14 23 ?_ rfl (by rfl) ?_ hHeld ?_
   rotate_left
   ·intro W hSw
    go_simp
    try with_reducible rfl
   try simp only [Act.put, zA, zB, zC]
   refine wpAnyH_done (by kernel_rfl) ?_ _
   go_wp2_with fail
   go_meet
   exact ⟨wd.heap.size, pR0H, qR0H, pR1H, qR1H, pR2H, qR2H, fRH, rfl, rfl, rfl, FR.out⟩
  go_simp
  refine (T1.out wd (Below.on HB.out hHeld HB.out.size)).mono ?_
  rintro e y5 ⟨pC0T, qC0T, pC1T, qC1T, pC2T, qC2T, fCT, rfl, ho, hb⟩
  have HT : Hid (OwnCn false y5 wd.heap.size (.agg #[.string s.key, .int .i64 s.now, .slice pC0T lC0 qC0T, .slice pC1T lC1 qC1T, .slice pC2T lC2 qC2T]) s fCT) := ho
  have hH : Below w16.heap.size w16 y5 := Below.on hHeld hb hHeld.size
  clear ho hb
  go_wp2_with fail
  refine hK.out _ _ hH (fun hHeld => ?_)
  clear hK K hH
  try simp only [Act.put, zA, zB, zC]
  refine wpAnyH_ready (rs := [3, 11]) (by kernel_rfl) (by simp) ?_
  refine AllReadyH.cons (o := ⟨some 121, _, _, _, _, _⟩) rfl (fun K hK => ?_) ?_
  rotate_left
  ·refine AllReadyH.cons (o := ⟨some 21, _, _, _, _, _⟩) rfl (fun K hK => ?_) AllReadyH.nil
   obtain ⟨y6, hy6⟩ : ∃ V, V = y5.alloc (Obj.cells #[.string ⟨#[]⟩, .int .i64 0, .slice none 0 0, .slice none 0 0, .slice none 0 0] 35) := ⟨_, rfl⟩
   have hb : Below y5.heap.size y5 y6 := by rw [hy6]; exact (Below.refl _ _).alloc (Nat.le_refl _) _
   have HG := zH (zJ (by rw [hy6]; exact Blk.new _ _ _ : (Blk y6 y5.heap.size 35 #[.string ⟨#[]⟩, .int .i64 0, .slice none 0 0, .slice none 0 0, .slice none 0 0])) hHeld.size)
   replace HT := zH (HT.out.stays hb)
   have hH : Below w16.heap.size w16 y6 := Below.on hHeld hb hHeld.size
   go_simp
   rw [<- hy6]
   refine hK.out _ _ hH (fun hHeld => ?_)
   clear hK K hH hy6 hb
   try simp only [Act.put, zA, zB, zC]
   refine wpAnyH_ready (rs := [3]) (by kernel_rfl) (by simp) ?_
   refine AllReadyH.cons (o := ⟨some 121, _, _, _, _, _⟩) rfl (fun K hK => ?_) AllReadyH.nil
   go_simp
   refine (T2.out y6 (Below.on HB.out hHeld HB.out.size)).mono ?_
   rintro e y7 ⟨pK0T, qK0T, rfl, ho, hb⟩
   replace HT := zH (HT.out.stays hb)
   replace HG := zH (zJ (HG.out.1.below hb HG.out.1.lt) HG.out.2)
   have HV : Hid (OwnAk y7 y6.heap.size (.agg #[.slice pK0T lK0 qK0T, .int .i64 d.plan, .int .i64 d.want, .int .i64 d.nonce, .int .i64 d.time, .bool d.cac]) d) := ho
   have hH : Below w16.heap.size w16 y7 := Below.on hHeld hb hHeld.size
   clear ho hb
   go_wp2_with fail
   refine hK.out _ _ hH (fun hHeld => ?_)
   clear hK K hH
   try simp only [Act.put, zA, zB, zC]
   refine wpAnyH_ready (rs := [6]) (by kernel_rfl) (by simp) ?_
   refine AllReadyH.cons (o := ⟨some 124, _, _, _, _, _⟩) rfl (fun K hK => ?_) AllReadyH.nil
   go_simp
   refine (IM.out y7 _ _ _ _ _ HT.out HV.out).mono ?_
   rintro e y8 ⟨pR0H, qR0H, pR1H, qR1H, pR2H, qR2H, fRH, rfl, ho, hb⟩
   have HAL : Hid (y5.heap.size < y7.heap.size) := HG.out.1.lt
   replace HT := zH (HT.out.stays hb)
   replace HG := zH (zJ (HG.out.1.below hb HG.out.1.lt) HG.out.2)
   replace HV := zH (HV.out.stays hb)
   have HR := zH (zJ (ho : OwnCQ y8 y7.heap.size (.agg #[.string r.key, .int .i64 r.now, .slice pR0H lR0 qR0H, .slice pR1H lR1 qR1H, .slice pR2H lR2 qR2H]) r fRH) (zJ hHeld.size (zJ ho.lt (Nat.le_refl _ : y8.heap.size <= y8.heap.size))))
   have hH : Below w16.heap.size w16 y8 := Below.on hHeld hb hHeld.size
   clear ho hb
   go_wp2_with fail
   refine hK.out _ _ hH (fun hHeld => ?_)
   clear hK K hH
   try simp only [Act.put, zA, zB, zC]
   refine zT 7 117 ?_ rfl (by rfl) ?_ hHeld ?_
   rotate_left
   ·intro W hSw
    go_simp
    try with_reducible rfl
   try simp only [Act.put, zA, zB, zC]
   refine zT 8 125 ?_ rfl (by rfl) ?_ hHeld ?_
   rotate_left
   ·intro W hSw
    go_simp
    try with_reducible rfl
   try simp only [Act.put, zA, zB, zC]
   refine zT 9 126 ?_ rfl (by rfl) ?_ hHeld ?_
   rotate_left
   ·intro W hSw
    go_simp
    try with_reducible rfl
   try simp only [Act.put, zA, zB, zC]
   refine zT 10 127 ?_ rfl (by rfl) ?_ hHeld ?_
   rotate_left
   ·intro W hSw
    go_simp
    try with_reducible rfl
   try simp only [Act.put, zA, zB, zC]
   refine wpAnyH_ready (rs := [12]) (by kernel_rfl) (by simp) ?_
   refine AllReadyH.cons (o := ⟨none, _, _, _, _, _⟩) rfl (fun K hK => ?_) AllReadyH.nil
   have e0 : y8.cell? ⟨y5.heap.size, 0, none⟩ = some (.string ⟨#[]⟩) := HG.out.1.cell 0
   have e1 : y8.cell? ⟨y5.heap.size, 1, none⟩ = some (.int .i64 0) := HG.out.1.cell 1
   have e2 : y8.cell? ⟨y5.heap.size, 2, none⟩ = some (.slice none 0 0) := HG.out.1.cell 2
   have e3 : y8.cell? ⟨y5.heap.size, 3, none⟩ = some (.slice none 0 0) := HG.out.1.cell 3
   have e4 : y8.cell? ⟨y5.heap.size, 4, none⟩ = some (.slice none 0 0) := HG.out.1.cell 4
   have ef := fun i => HG.out.1.free i
   have HAP : Hid (∀ b ∈ fRH, b ≠ y5.heap.size) := fun b hb => by have h1 := HR.out.2.2.1 b hb; have h2 := HAL.out; omega
   go_simp
   generalize hV : World.setCell _ { block := y5.heap.size, off := 4 } (.slice pR2H lR2 qR2H) = V
   have FIN : Out [y5.heap.size] y8 V /\ Blk V y5.heap.size 35 #[.string r.key, .int .i64 r.now, .slice pR0H lR0 qR0H, .slice pR1H lR1 qR1H, .slice pR2H lR2 qR2H] := by
    rw [<- hV]
    refine ⟨?_, ?_⟩
    ·iterate 5 refine Out.setCell ?_ _ _ (by simp)
     exact Out.refl _ _
    ·exact (((((HG.out.1.set 0 _).set 1 _).set 2 _).set 3 _).set 4 _)
   clear hV ef e0 e1 e2 e3 e4
   have hH : Below w16.heap.size w16 V := Below.out hHeld FIN.1 (fun b hb => by rw [List.mem_singleton.1 hb]; exact HG.out.2) hHeld.size
   have FR : Hid (Below w16.heap.size w16 V /\ Blk V y5.heap.size 35 #[.string r.key, .int .i64 r.now, .slice pR0H lR0 qR0H, .slice pR1H lR1 qR1H, .slice pR2H lR2 qR2H] /\ OwnCQ V w16.heap.size (.agg #[.string r.key, .int .i64 r.now, .slice pR0H lR0 qR0H, .slice pR1H lR1 qR1H, .slice pR2H lR2 qR2H]) r fRH /\ (∀ b ∈ fRH, w16.heap.size <= b /\ b < V.heap.size) /\ (w16.heap.size <= y5.heap.size /\ y5.heap.size < V.heap.size)) := ⟨hH, FIN.2, (OwnCQ.out HR.out.1 FIN.1 (fun b hb hm => HAP.out b hb (List.mem_singleton.1 hm))).base (HR.out.2.1), fun b hb => ⟨by have h1 := HR.out.2.2.1 b hb; have h2 := HR.out.2.1; omega, by have h1 := HR.out.2.2.1 b hb; have h3 := HR.out.2.2.2; have h4 := FIN.1.2.2.2.1; omega⟩, HG.out.2, FIN.2.lt⟩
   refine hK.out _ _ hH (fun hHeld => ?_)
   clear hK K hH FIN HAP
   try simp only [Act.put, zA, zB, zC]
   refine zT 13 22 ?_ rfl (by rfl) ?_ hHeld ?_
   rotate_left
   ·intro W hSw
    go_simp
    try with_reducible rfl
   try simp only [Act.put, zA, zB, zC]
   refine zT 14 23 ?_ rfl (by rfl) ?_ hHeld ?_
   rotate_left
   ·intro W hSw
    go_simp
    try with_reducible rfl
   try simp only [Act.put, zA, zB, zC]
   refine wpAnyH_done (by kernel_rfl) ?_ _
   go_wp2_with fail
   go_meet
   exact ⟨y5.heap.size, pR0H, qR0H, pR1H, qR1H, pR2H, qR2H, fRH, rfl, rfl, rfl, FR.out⟩
  go_simp
  refine (T2.out y5 (Below.on HB.out hHeld HB.out.size)).mono ?_
  rintro e y9 ⟨pK0T, qK0T, rfl, ho, hb⟩
  replace HT := zH (HT.out.stays hb)
  have HV : Hid (OwnAk y9 y5.heap.size (.agg #[.slice pK0T lK0 qK0T, .int .i64 d.plan, .int .i64 d.want, .int .i64 d.nonce, .int .i64 d.time, .bool d.cac]) d) := ho
  have hH : Below w16.heap.size w16 y9 := Below.on hHeld hb hHeld.size
  clear ho hb
  go_wp2_with fail
  refine hK.out _ _ hH (fun hHeld => ?_)
  clear hK K hH
  try simp only [Act.put, zA, zB, zC]
  refine wpAnyH_ready (rs := [6, 11]) (by kernel_rfl) (by simp) ?_
  refine AllReadyH.cons (o := ⟨some 124, _, _, _, _, _⟩) rfl (fun K hK => ?_) ?_
  rotate_left
  ·refine AllReadyH.cons (o := ⟨some 21, _, _, _, _, _⟩) rfl (fun K hK => ?_) AllReadyH.nil
   obtain ⟨y10, hy10⟩ : ∃ V, V = y9.alloc (Obj.cells #[.string ⟨#[]⟩, .int .i64 0, .slice none 0 0, .slice none 0 0, .slice none 0 0] 35) := ⟨_, rfl⟩
   have hb : Below y9.heap.size y9 y10 := by rw [hy10]; exact (Below.refl _ _).alloc (Nat.le_refl _) _
   have HG := zH (zJ (by rw [hy10]; exact Blk.new _ _ _ : (Blk y10 y9.heap.size 35 #[.string ⟨#[]⟩, .int .i64 0, .slice none 0 0, .slice none 0 0, .slice none 0 0])) hHeld.size)
   replace HT := zH (HT.out.stays hb)
   replace HV := zH (HV.out.stays hb)
   have hH : Below w16.heap.size w16 y10 := Below.on hHeld hb hHeld.size
   go_simp
   rw [<- hy10]
   refine hK.out _ _ hH (fun hHeld => ?_)
   clear hK K hH hy10 hb
   try simp only [Act.put, zA, zB, zC]
   refine wpAnyH_ready (rs := [6]) (by kernel_rfl) (by simp) ?_
   refine AllReadyH.cons (o := ⟨some 124, _, _, _, _, _⟩) rfl (fun K hK => ?_) AllReadyH.nil
   go_simp
   refine (IM.out y10 _ _ _ _ _ HT.out HV.out).mono ?_
   rintro e y11 ⟨pR0H, qR0H, pR1H, qR1H, pR2H, qR2H, fRH, rfl, ho, hb⟩
   have HAL : Hid (y9.heap.size < y10.heap.size) := HG.out.1.lt
   replace HT := zH (HT.out.stays hb)
   replace HV := zH (HV.out.stays hb)
   replace HG := zH (zJ (HG.out.1.below hb HG.out.1.lt) HG.out.2)
   have HR := zH (zJ (ho : OwnCQ y11 y10.heap.size (.agg #[.string r.key, .int .i64 r.now, .slice pR0H lR0 qR0H, .slice pR1H lR1 qR1H, .slice pR2H lR2 qR2H]) r fRH) (zJ hHeld.size (zJ ho.lt (Nat.le_refl _ : y11.heap.size <= y11.heap.size))))
   have hH : Below w16.heap.size w16 y11 := Below.on hHeld hb hHeld.size
   clear ho hb
   go_wp2_with fail
   refine hK.out _ _ hH (fun hHeld => ?_)
   clear hK K hH
   try simp only [Act.put, zA, zB, zC]
   refine zT 7 117 ?_ rfl (by rfl) ?_ hHeld ?_
   rotate_left
   ·intro W hSw
    go_simp
    try with_reducible rfl
   try simp only [Act.put, zA, zB, zC]
   refine zT 8 125 ?_ rfl (by rfl) ?_ hHeld ?_
   rotate_left
   ·intro W hSw
    go_simp
    try with_reducible rfl
   try simp only [Act.put, zA, zB, zC]
   refine zT 9 126 ?_ rfl (by rfl) ?_ hHeld ?_
   rotate_left
   ·intro W hSw
    go_simp
    try with_reducible rfl
   try simp only [Act.put, zA, zB, zC]
   refine zT 10 127 ?_ rfl (by rfl) ?_ hHeld ?_
   rotate_left
   ·intro W hSw
    go_simp
    try with_reducible rfl
   try simp only [Act.put, zA, zB, zC]
   refine wpAnyH_ready (rs := [12]) (by kernel_rfl) (by simp) ?_
   refine AllReadyH.cons (o := ⟨none, _, _, _, _, _⟩) rfl (fun K hK => ?_) AllReadyH.nil
   have e0 : y11.cell? ⟨y9.heap.size, 0, none⟩ = some (.string ⟨#[]⟩) := HG.out.1.cell 0
   have e1 : y11.cell? ⟨y9.heap.size, 1, none⟩ = some (.int .i64 0) := HG.out.1.cell 1
   have e2 : y11.cell? ⟨y9.heap.size, 2, none⟩ = some (.slice none 0 0) := HG.out.1.cell 2
   have e3 : y11.cell? ⟨y9.heap.size, 3, none⟩ = some (.slice none 0 0) := HG.out.1.cell 3
   have e4 : y11.cell? ⟨y9.heap.size, 4, none⟩ = some (.slice none 0 0) := HG.out.1.cell 4
   have ef := fun i => HG.out.1.free i
   have HAP : Hid (∀ b ∈ fRH, b ≠ y9.heap.size) := fun b hb => by have h1 := HR.out.2.2.1 b hb; have h2 := HAL.out; omega
   go_simp
   generalize hV : World.setCell _ { block := y9.heap.size, off := 4 } (.slice pR2H lR2 qR2H) = V
   have FIN : Out [y9.heap.size] y11 V /\ Blk V y9.heap.size 35 #[.string r.key, .int .i64 r.now, .slice pR0H lR0 qR0H, .slice pR1H lR1 qR1H, .slice pR2H lR2 qR2H] := by
    rw [<- hV]
    refine ⟨?_, ?_⟩
    ·iterate 5 refine Out.setCell ?_ _ _ (by simp)
     exact Out.refl _ _
    ·exact (((((HG.out.1.set 0 _).set 1 _).set 2 _).set 3 _).set 4 _)
   clear hV ef e0 e1 e2 e3 e4
   have hH : Below w16.heap.size w16 V := Below.out hHeld FIN.1 (fun b hb => by rw [List.mem_singleton.1 hb]; exact HG.out.2) hHeld.size
   have FR : Hid (Below w16.heap.size w16 V /\ Blk V y9.heap.size 35 #[.string r.key, .int .i64 r.now, .slice pR0H lR0 qR0H, .slice pR1H lR1 qR1H, .slice pR2H lR2 qR2H] /\ OwnCQ V w16.heap.size (.agg #[.string r.key, .int .i64 r.now, .slice pR0H lR0 qR0H, .slice pR1H lR1 qR1H, .slice pR2H lR2 qR2H]) r fRH /\ (∀ b ∈ fRH, w16.heap.size <= b /\ b < V.heap.size) /\ (w16.heap.size <= y9.heap.size /\ y9.heap.size < V.heap.size)) := ⟨hH, FIN.2, (OwnCQ.out HR.out.1 FIN.1 (fun b hb hm => HAP.out b hb (List.mem_singleton.1 hm))).base (HR.out.2.1), fun b hb => ⟨by have h1 := HR.out.2.2.1 b hb; have h2 := HR.out.2.1; omega, by have h1 := HR.out.2.2.1 b hb; have h3 := HR.out.2.2.2; have h4 := FIN.1.2.2.2.1; omega⟩, HG.out.2, FIN.2.lt⟩
   refine hK.out _ _ hH (fun hHeld => ?_)
   clear hK K hH FIN HAP
   try simp only [Act.put, zA, zB, zC]
   refine zT 13 22 ?_ rfl (by rfl) ?_ hHeld ?_
   rotate_left
   ·intro W hSw
    go_simp
    try with_reducible rfl
   try simp only [Act.put, zA, zB, zC]
   refine zT 14 23 ?_ rfl (by rfl) ?_ hHeld ?_
   rotate_left
   ·intro W hSw
    go_simp
    try with_reducible rfl
   try simp only [Act.put, zA, zB, zC]
   refine wpAnyH_done (by kernel_rfl) ?_ _
   go_wp2_with fail
   go_meet
   exact ⟨y9.heap.size, pR0H, qR0H, pR1H, qR1H, pR2H, qR2H, fRH, rfl, rfl, rfl, FR.out⟩
  go_simp
  refine (IM.out y9 _ _ _ _ _ HT.out HV.out).mono ?_
  rintro e y12 ⟨pR0H, qR0H, pR1H, qR1H, pR2H, qR2H, fRH, rfl, ho, hb⟩
  replace HT := zH (HT.out.stays hb)
  replace HV := zH (HV.out.stays hb)
  have HR := zH (zJ (ho : OwnCQ y12 y9.heap.size (.agg #[.string r.key, .int .i64 r.now, .slice pR0H lR0 qR0H, .slice pR1H lR1 qR1H, .slice pR2H lR2 qR2H]) r fRH) (zJ hHeld.size (zJ ho.lt (Nat.le_refl _ : y12.heap.size <= y12.heap.size))))
  have hH : Below w16.heap.size w16 y12 := Below.on hHeld hb hHeld.size
  clear ho hb
  go_wp2_with fail
  refine hK.out _ _ hH (fun hHeld => ?_)
  clear hK K hH
  try simp only [Act.put, zA, zB, zC]
  refine zT 7 117 ?_ rfl (by rfl) ?_ hHeld ?_
  rotate_left
  ·intro W hSw
   go_simp
   try with_reducible rfl
  try simp only [Act.put, zA, zB, zC]
  refine zT 8 125 ?_ rfl (by rfl) ?_ hHeld ?_
  rotate_left
  ·intro W hSw
   go_simp
   try with_reducible rfl
  try simp only [Act.put, zA, zB, zC]
  refine zT 9 126 ?_ rfl (by rfl) ?_ hHeld ?_
  rotate_left
  ·intro W hSw
   go_simp
   try with_reducible rfl
  try simp only [Act.put, zA, zB, zC]
  refine zT 10 127 ?_ rfl (by rfl) ?_ hHeld ?_
  rotate_left
  ·intro W hSw
   go_simp
   try with_reducible rfl
  try simp only [Act.put, zA, zB, zC]
  refine wpAnyH_ready (rs := [11]) (by kernel_rfl) (by simp) ?_
  refine AllReadyH.cons (o := ⟨some 21, _, _, _, _, _⟩) rfl (fun K hK => ?_) AllReadyH.nil
  obtain ⟨y13, hy13⟩ : ∃ V, V = y12.alloc (Obj.cells #[.string ⟨#[]⟩, .int .i64 0, .slice none 0 0, .slice none 0 0, .slice none 0 0] 35) := ⟨_, rfl⟩
  have hb : Below y12.heap.size y12 y13 := by rw [hy13]; exact (Below.refl _ _).alloc (Nat.le_refl _) _
  have HG := zH (zJ (by rw [hy13]; exact Blk.new _ _ _ : (Blk y13 y12.heap.size 35 #[.string ⟨#[]⟩, .int .i64 0, .slice none 0 0, .slice none 0 0, .slice none 0 0])) hHeld.size)
  have HOLD : Hid (∀ b ∈ fRH, b < y12.heap.size) := fun b hb => (HR.out.1.lt b hb).2
  replace HT := zH (HT.out.stays hb)
  replace HV := zH (HV.out.stays hb)
  replace HR := zH (zJ (HR.out.1.stays hb) (zJ HR.out.2.1 (zJ HR.out.2.2.1 (Nat.le_trans HR.out.2.2.2 hb.size))))
  have hH : Below w16.heap.size w16 y13 := Below.on hHeld hb hHeld.size
  go_simp
  rw [<- hy13]
  refine hK.out _ _ hH (fun hHeld => ?_)
  clear hK K hH hy13 hb
  try simp only [Act.put, zA, zB, zC]
  refine wpAnyH_ready (rs := [12]) (by kernel_rfl) (by simp) ?_
  refine AllReadyH.cons (o := ⟨none, _, _, _, _, _⟩) rfl (fun K hK => ?_) AllReadyH.nil
  have e0 : y13.cell? ⟨y12.heap.size, 0, none⟩ = some (.string ⟨#[]⟩) := HG.out.1.cell 0
  have e1 : y13.cell? ⟨y12.heap.size, 1, none⟩ = some (.int .i64 0) := HG.out.1.cell 1
  have e2 : y13.cell? ⟨y12.heap.size, 2, none⟩ = some (.slice none 0 0) := HG.out.1.cell 2
  have e3 : y13.cell? ⟨y12.heap.size, 3, none⟩ = some (.slice none 0 0) := HG.out.1.cell 3
  have e4 : y13.cell? ⟨y12.heap.size, 4, none⟩ = some (.slice none 0 0) := HG.out.1.cell 4
  have ef := fun i => HG.out.1.free i
  have HAP : Hid (∀ b ∈ fRH, b ≠ y12.heap.size) := fun b hb => by have h1 := HR.out.2.2.1 b hb; have h3 := HOLD.out b hb; omega
  go_simp
  generalize hV : World.setCell _ { block := y12.heap.size, off := 4 } (.slice pR2H lR2 qR2H) = V
  have FIN : Out [y12.heap.size] y13 V /\ Blk V y12.heap.size 35 #[.string r.key, .int .i64 r.now, .slice pR0H lR0 qR0H, .slice pR1H lR1 qR1H, .slice pR2H lR2 qR2H] := by
   rw [<- hV]
   refine ⟨?_, ?_⟩
   ·iterate 5 refine Out.setCell ?_ _ _ (by simp)
    exact Out.refl _ _
   ·exact (((((HG.out.1.set 0 _).set 1 _).set 2 _).set 3 _).set 4 _)
  clear hV ef e0 e1 e2 e3 e4
  have hH : Below w16.heap.size w16 V := Below.out hHeld FIN.1 (fun b hb => by rw [List.mem_singleton.1 hb]; exact HG.out.2) hHeld.size
  have FR : Hid (Below w16.heap.size w16 V /\ Blk V y12.heap.size 35 #[.string r.key, .int .i64 r.now, .slice pR0H lR0 qR0H, .slice pR1H lR1 qR1H, .slice pR2H lR2 qR2H] /\ OwnCQ V w16.heap.size (.agg #[.string r.key, .int .i64 r.now, .slice pR0H lR0 qR0H, .slice pR1H lR1 qR1H, .slice pR2H lR2 qR2H]) r fRH /\ (∀ b ∈ fRH, w16.heap.size <= b /\ b < V.heap.size) /\ (w16.heap.size <= y12.heap.size /\ y12.heap.size < V.heap.size)) := ⟨hH, FIN.2, (OwnCQ.out HR.out.1 FIN.1 (fun b hb hm => HAP.out b hb (List.mem_singleton.1 hm))).base (HR.out.2.1), fun b hb => ⟨by have h1 := HR.out.2.2.1 b hb; have h2 := HR.out.2.1; omega, by have h1 := HR.out.2.2.1 b hb; have h3 := HR.out.2.2.2; have h4 := FIN.1.2.2.2.1; omega⟩, HG.out.2, FIN.2.lt⟩
  refine hK.out _ _ hH (fun hHeld => ?_)
  clear hK K hH FIN HAP
  try simp only [Act.put, zA, zB, zC]
  refine zT 13 22 ?_ rfl (by rfl) ?_ hHeld ?_
  rotate_left
  ·intro W hSw
   go_simp
   try with_reducible rfl
  try simp only [Act.put, zA, zB, zC]
  refine zT 14 23 ?_ rfl (by rfl) ?_ hHeld ?_
  rotate_left
  ·intro W hSw
   go_simp
   try with_reducible rfl
  try simp only [Act.put, zA, zB, zC]
  refine wpAnyH_done (by kernel_rfl) ?_ _
  go_wp2_with fail
  go_meet
  exact ⟨y12.heap.size, pR0H, qR0H, pR1H, qR1H, pR2H, qR2H, fRH, rfl, rfl, rfl, FR.out⟩
 case rest =>
 obtain ⟨gH, pR0H, qR0H, pR1H, qR1H, pR2H, qR2H, fRH, rfl, rfl, rfl, HCUT⟩ := hcut
 rename World => WXH
 have hb : Below w16.heap.size w16 WXH := HCUT.out.1
 replace HB := zH (Below.on HB.out hb HB.out.size)
 replace HA := zH (HA.out.below hb HA.out.lt)
 replace HC := zH (HC.out.below hb HC.out.lt)
 replace HW := zH (HW.out.stays hb)
 replace VW := zH (VW.out.below hb VW.out.lt)
 replace VG := zH (VG.out.below hb VG.out.lt)
 replace HG := zH (HG.out.stays hb)
 have O22 : Hid (w16.heap.size <= WXH.heap.size) := hb.size
 clear hb
 have LH : Hid (∀ b ∈ fRH, w16.heap.size <= b /\ b < WXH.heap.size) := HCUT.out.2.2.2.1
 have HH : Hid (OwnCQ WXH w16.heap.size (.agg #[.string r.key, .int .i64 r.now, .slice pR0H lR0 qR0H, .slice pR1H lR1 qR1H, .slice pR2H lR2 qR2H]) r fRH) := HCUT.out.2.2.1
 have VH : Hid (Blk WXH gH 35 #[.string r.key, .int .i64 r.now, .slice pR0H lR0 qR0H, .slice pR1H lR1 qR1H, .slice pR2H lR2 qR2H]) := HCUT.out.2.1
 have O23 : Hid (w16.heap.size <= gH /\ gH < WXH.heap.size) := HCUT.out.2.2.2.2
 clear HCUT
 have c0 := fun j => VH.out.cell j
 have d0 := fun j => VW.out.cell j
 go_wp2_with fail
 clear c0 d0
 refine (EQ.out WXH _ _ HH.out.at HW.out.at).mono ?_
 rintro e w17 ⟨rfl, hb⟩
 replace HB := zH (Below.on HB.out hb HB.out.size)
 replace HA := zH (HA.out.below hb HA.out.lt)
 replace HC := zH (HC.out.below hb HC.out.lt)
 replace HW := zH (HW.out.stays hb)
 replace VW := zH (VW.out.below hb VW.out.lt)
 replace VG := zH (VG.out.below hb VG.out.lt)
 replace HG := zH (HG.out.stays hb)
 replace HH := zH (HH.out.stays hb)
 replace VH := zH (VH.out.below hb VH.out.lt)
 have O24 : Hid (WXH.heap.size <= w17.heap.size) := hb.size
 clear hb
 have c0 := fun j => VG.out.cell j
 go_wp2_with fail
 clear c0
 refine (HHG.out w17 _ HG.out.at).mono ?_
 rintro e w18 ⟨rfl, hb⟩
 replace HB := zH (Below.on HB.out hb HB.out.size)
 replace HA := zH (HA.out.below hb HA.out.lt)
 replace HC := zH (HC.out.below hb HC.out.lt)
 replace HW := zH (HW.out.stays hb)
 replace VW := zH (VW.out.below hb VW.out.lt)
 replace VG := zH (VG.out.below hb VG.out.lt)
 replace HG := zH (HG.out.stays hb)
 replace HH := zH (HH.out.stays hb)
 replace VH := zH (VH.out.below hb VH.out.lt)
 have O25 : Hid (w17.heap.size <= w18.heap.size) := hb.size
 clear hb
 go_wp2_with fail
 go_ret
 exact ⟨rfl, HB.out⟩
theorem laidOut_FnExactAskNow : laidOutB Tryz.prog = true := by kernel_rfl
theorem own_FnExactAskNow : ownKnob Tryz.prog.godebug = none := by kernel_rfl
theorem lifted_FnExactAskNow (os : Os) (started : os.Started) (H : Type) (enc : TypeId × Value -> H) :
  ReturnsInHanded {} Tryz.checked os 3 .any (Rows.fnExactAskNowSpec.pre6 enc Tryz.prog Tryz.f3 Rows.fnExactAskNowRow.domain false) (Rows.fnExactAskNowSpec.post enc Tryz.prog Tryz.f3 false true false false) := by
 refine returnsInHanded_of_change (C := Tryz.checked) own_FnExactAskNow started (by kernel_rfl) Tryz.func3
  (ChangeSpec.witness6 (enc := enc) (C := Tryz.checked) false ⟨#[], #[.agg #[.string ⟨#[]⟩, .int .i64 0, .slice none 0 0, .slice none 0 0, .slice none 0 0], .agg #[.slice none 0 0, .int .i64 0, .int .i64 0, .int .i64 0, .int .i64 0, .bool false], .int .i64 0, .int .i64 0], []⟩ 8 (by kernel_rfl) (by kernel_rfl) (by kernel_rfl) (by kernel_rfl)) ?_
 intro W base args ds gs before hval0 hW hcnd _
 have hval : ∀ (j : Nat) t v, Tryz.f3.params[j]? = some t -> args[j]? = some v -> Value.okWide Tryz.prog W .any base t v := hval0
 have hW' := hW
 obtain ⟨p, q, hA0, hV, rfl, hfz, hnd⟩ := hW
 have hA : DataW.TrodAll enc Tryz.prog W 0 (fun _ => true) true Tryz.f3.params.toList args.toList ds p := hA0
 rw [Tryz.params3] at hA hval
 obtain ⟨v0, vs0, d0, ds0, p0, q0, hargs, rfl, rfl, h0, r0⟩ := trodAll_cons hA
 obtain ⟨v1, vs1, d1, ds1, p1, q1, rfl, rfl, rfl, h1, r1⟩ := trodAll_cons r0
 obtain ⟨v2, vs2, d2, ds2, p2, q2, rfl, rfl, rfl, h2, r2⟩ := trodAll_cons r1
 obtain ⟨v3, vs3, d3, ds3, p3, q3, rfl, rfl, rfl, h3, r3⟩ := trodAll_cons r2
 obtain ⟨rfl, rfl, rfl⟩ := trodAll_nil r3
 obtain rfl : args = #[v0, v1, v2, v3] := by cases args; simp_all
 obtain ⟨rfl, rfl⟩ := trodVars_none hV
 obtain ⟨a0, rfl, ca0⟩ := okWide_struct Tryz.underlying26 (hval 0 26 v0 rfl rfl)
 have k0 := h0
 have lt0 : ∀ x ∈ p0, x.block < W.heap.size := by obtain ⟨m, hm⟩ := k0; exact DataW.trod_lt m _ _ _ hm
 have w0 : ∃ c : Cn, ArgCn W.heap.size W (.agg a0) c /\ WdCn c := by
  obtain ⟨fuel, hf⟩ := h0
  exact client_of_trod hf
 obtain ⟨a1, rfl, ca1⟩ := okWide_struct Tryz.underlying29 (hval 1 29 v1 rfl rfl)
 have k1 := h1
 have lt1 : ∀ x ∈ p1, x.block < W.heap.size := by obtain ⟨m, hm⟩ := k1; exact DataW.trod_lt m _ _ _ hm
 have w1 : ∃ c : Ak, ArgAk W.heap.size W (.agg a1) c /\ WdAk c := by
  obtain ⟨fuel, hf⟩ := h1
  exact ask_of_trod hf
 obtain ⟨a2, rfl, rfl, rfl, w2⟩ := open_int Tryz.underlying3 (hval 2 3 v2 rfl rfl) h2
 obtain ⟨a3, rfl, rfl, rfl, w3⟩ := open_int Tryz.underlying3 (hval 3 3 v3 rfl rfl) h3
 clear hA0 hval0
 simp only [List.append_nil] at hW'
 refine (walk_FnExactAskNow a0 a1 a2 a3 W w0 w1 w2 w3).mono fun e W' ⟨he, bel⟩ => ?_
 subst he
 exact ⟨_, rfl, _, _, _, [], _, [], hW', trodAll_mk1 (shut_bool Tryz.underlying4 _), (trodAll_cons_mk (Below.trod laidOut_FnExactAskNow (by kernel_rfl) (of_decide_eq_true (by kernel_rfl)) k0 bel lt0) (trodAll_cons_mk (Below.trod laidOut_FnExactAskNow (by kernel_rfl) (of_decide_eq_true (by kernel_rfl)) k1 bel lt1) (trodAll_cons_mk (shut_int Tryz.underlying3 w2) (trodAll_cons_mk (shut_int Tryz.underlying3 w3) trodAll_mk0)))), rfl, bel.frame _, fun h => by cases h⟩
theorem over_FnExactAskNow : Rows.fnExactAskNowRow.holds Tryz.pinned (OpenSpec.ofChange Rows.fnExactAskNowSpec) :=
 OpenClaim.holds_of_wide 3 Tryz.f3 rfl rfl rfl rfl rfl rfl rfl ⟨rfl, rfl, rfl, rfl, rfl⟩ rfl rfl rfl rfl rfl (by kernel_rfl) Tryz.func3 (by kernel_rfl)
  (of_decide_eq_true (by kernel_rfl)) (by unfold Func.isWrapper; first | (rw [if_pos (by decide +kernel)]; kernel_rfl) | (rw [if_neg (by decide +kernel)]; exact ⟨rfl, rfl⟩))
  (fun os started H enc _ => lifted_FnExactAskNow os started H enc)
theorem proved_FnExactAskNow : Rows.FnExactAskNowSaid := over_FnExactAskNow
#print axioms proved_FnExactAskNow
end Go.Proofs.YtagmnlmfoanelaaGreat
