/-
  Texts of the proof.
-/
import Derived.Test.YtabfamhaihnccaaGreatRows
import Derived.Deep.RegionHeld3
import Derived.ProofKit
import Derived.OpenShut
import Derived.ShutString
import Derived.Test.YtabfamhaihnccaaGreatSV28
set_option maxRecDepth 100000
set_option maxHeartbeats 25600000
namespace Go.Proofs.YtabfamhaihnccaaGreat
open Go.ChangeShapes Go.WideShapes Go.ChangeAt Go.RowKit
open Go.ChangeMaps (open_string shut_string)
set_option linter.unusedVariables false
set_option linter.unusedSimpArgs false
theorem lmSe_of {s : Se} (h : wtSe s <= 1048576) : LmSe s := by
 have h1 : s.store.ancs.length <= wtN s.store.ancs := by unfold wtN; omega
 have h2 : s.kept.length <= wtKtS s.kept := by unfold wtKtS; omega
 unfold wtSe wtO at h
 unfold LmSe
 omega
theorem walk_FnExactServerOk (b0 : Array Value) (w : World) (h0 : ∃ s, ArgSe w.heap.size w (.agg b0) s /\ WdSe s) : Calls Tryz.prog 3 #[.agg b0] w fun e w' => e = .returned (.bool true) /\ Below w.heap.size w w' := by
 obtain ⟨s, hx0, wd0⟩ := h0
 obtain ⟨pV00, qV00, pV10, qV10, pV20, qV20, pV30, qV30, pV40, qV40, hv0⟩ := ArgSe.shape hx0
 injection hv0 with hv0
 subst hv0
 obtain ⟨lV0, eV0⟩ := zE (s.store.certs.length)
 obtain ⟨lV1, eV1⟩ := zE (s.store.crls.length)
 obtain ⟨lV2, eV2⟩ := zE (s.store.ancs.length)
 obtain ⟨lV3, eV3⟩ := zE (s.pl.length)
 obtain ⟨lV4, eV4⟩ := zE (s.kept.length)
 rw [eV0, eV1, eV2, eV3, eV4] at hx0 |-
 have Z0 : Hid (∀ W, Below w.heap.size w W -> Calls Tryz.prog 6 #[.agg #[.slice pV00 lV0 qV00, .slice pV10 lV1 qV10, .slice pV20 lV2 qV20, .slice pV30 lV3 qV30, .int .i64 s.house, .int .i64 s.now, .int .i64 s.fresh, .slice pV40 lV4 qV40], .int .i64 1048576] W fun e w' => e = .returned (.int .i64 (szSe s 1048576)) /\ Below W.heap.size W w') := fun W hb => szServer_any s _ 1048576 W wd0 (by omega) (by omega) (hx0.below hb hb.size)
 unfold szSe at Z0
 by_cases hz0 : (wtSe s : Int) <= 1048576
 rotate_left
 ·rw [if_neg hz0] at Z0
  clear hx0 wd0 eV0 eV1 eV2 eV3 eV4 hz0
  go_enter Tryz.func3, Tryz.ntmps3
  go_wp2_with fail
  obtain ⟨W0, hW0⟩ : ∃ W, W = (w.alloc (Obj.cells #[.slice pV00 lV0 qV00, .slice pV10 lV1 qV10, .slice pV20 lV2 qV20, .slice pV30 lV3 qV30, .int .i64 s.house, .int .i64 s.now, .int .i64 s.fresh, .slice pV40 lV4 qV40] 30)) := ⟨_, rfl⟩
  rw [<- hW0]
  have HB : Hid (Below w.heap.size w W0) := by rw [hW0]; exact (Below.refl _ _).alloc (Nat.le_refl _) _
  have HA0 : Hid (Blk W0 (w.heap.size) 30 #[.slice pV00 lV0 qV00, .slice pV10 lV1 qV10, .slice pV20 lV2 qV20, .slice pV30 lV3 qV30, .int .i64 s.house, .int .i64 s.now, .int .i64 s.fresh, .slice pV40 lV4 qV40]) := by rw [hW0]; exact Blk.new w _ _
  have O0 : Hid (w.heap.size + 1 <= W0.heap.size) := by show _ <= _; rw [hW0, size_alloc]; omega
  clear hW0
  refine (Z0.out W0 HB.out).mono ?_
  rintro e w1 ⟨rfl, hb⟩
  replace HB := zH (Below.on HB.out hb HB.out.size)
  replace HA0 := zH (HA0.out.below hb HA0.out.lt)
  have O1 : Hid (W0.heap.size <= w1.heap.size) := hb.size
  clear hb Z0
  go_wp2_with fail
  go_ret
  exact ⟨rfl, HB.out⟩
 rw [if_pos hz0] at Z0
 obtain ⟨z0, hze0⟩ : ∃ z : Int, z = 1048576 - (wtSe s : Int) := ⟨_, rfl⟩
 have hzn0 : ¬ z0 < 0 := by omega
 rw [<- hze0] at Z0
 have hw0 : wtSe s <= 1048576 := by omega
 obtain ⟨B, hB⟩ := zE (servOk s)
 have hLS : LmSe s := lmSe_of hw0
 have hok := okO_of (Nat.le_trans (by unfold wtSe; omega) hw0) wd0.2.1
 have hn3 : s.store.ancs.length <= 1000000000 := by have := hok.1.2.2; omega
 have hk5 : s.kept.length <= 1000000000 := by have := hLS.2.2; omega
 have hps : wtPS s.pl <= 1000000000 := by have := hLS.2.1; omega
 have T0 : Hid (∀ W : World, Below w.heap.size w W -> Calls Tryz.prog 8 #[.agg #[.slice pV00 lV0 qV00, .slice pV10 lV1 qV10, .slice pV20 lV2 qV20, .slice pV30 lV3 qV30, .int .i64 s.house, .int .i64 s.now, .int .i64 s.fresh, .slice pV40 lV4 qV40]] W fun e w' => ∃ pV0Q qV0Q pV1Q qV1Q pV2Q qV2Q pV3Q qV3Q pV4Q qV4Q fVQ, e = .returned (.agg #[.slice pV0Q lV0 qV0Q, .slice pV1Q lV1 qV1Q, .slice pV2Q lV2 qV2Q, .slice pV3Q lV3 qV3Q, .int .i64 s.house, .int .i64 s.now, .int .i64 s.fresh, .slice pV4Q lV4 qV4Q]) /\ OwnSe w' W.heap.size (.agg #[.slice pV0Q lV0 qV0Q, .slice pV1Q lV1 qV1Q, .slice pV2Q lV2 qV2Q, .slice pV3Q lV3 qV3Q, .int .i64 s.house, .int .i64 s.now, .int .i64 s.fresh, .slice pV4Q lV4 qV4Q]) s fVQ /\ Below W.heap.size W w') := fun W hb => (toServer_any s _ w.heap.size W hw0 hb.size (hx0.below hb (Nat.le_refl _))).mono fun e w' h => by
  obtain ⟨u, fp, rfl, ho, hb⟩ := h
  obtain ⟨x0, y0, x1, y1, x2, y2, x3, y3, x4, y4, hu⟩ := SeAt.shape ho.at
  rw [eV0, eV1, eV2, eV3, eV4] at hu
  subst hu
  exact ⟨x0, y0, x1, y1, x2, y2, x3, y3, x4, y4, fp, rfl, ho, hb⟩
 have Q0 : Hid (∀ (W : World) (u v : Value), SeAt W u s -> SeAt W v s -> Calls Tryz.prog 10 #[u, v] W fun e w' => e = .returned (.bool true) /\ Below W.heap.size W w') := fun W u v h1 h2 => eqServer_wide s u v W (by unfold LmSe at hLS; omega) h1 h2
 have SP : Hid (∀ (W : World) (b0 : Nat) (v0 : Value) (f0 : List Nat), OwnSe W b0 v0 s f0 -> Calls Tryz.prog 7 #[v0] W fun e w' => e = .returned (.bool B) /\ Below W.heap.size W w') := fun W b0 v0 f0 k0 => by rw [<- hB]; exact specServerOk_any s v0 W hok hps hn3 hk5 k0.at
 have IM : Hid (∀ (W : World) (b0 : Nat) (v0 : Value) (f0 : List Nat), OwnSe W b0 v0 s f0 -> Calls Tryz.prog 9 #[v0] W fun e w' => e = .returned (.bool B) /\ Below W.heap.size W w') := fun W b0 v0 f0 k0 => by rw [<- hB]; exact implServerOk_any s v0 W hok hps hn3 hk5 k0.at
 clear hx0 wd0 eV0 eV1 eV2 eV3 eV4 hz0 hze0 hw0 hB hLS hok hn3 hk5 hps
 go_enter Tryz.func3, Tryz.ntmps3
 go_wp2_with fail
 obtain ⟨W0, hW0⟩ : ∃ W, W = (w.alloc (Obj.cells #[.slice pV00 lV0 qV00, .slice pV10 lV1 qV10, .slice pV20 lV2 qV20, .slice pV30 lV3 qV30, .int .i64 s.house, .int .i64 s.now, .int .i64 s.fresh, .slice pV40 lV4 qV40] 30)) := ⟨_, rfl⟩
 rw [<- hW0]
 have HB : Hid (Below w.heap.size w W0) := by rw [hW0]; exact (Below.refl _ _).alloc (Nat.le_refl _) _
 have HA0 : Hid (Blk W0 (w.heap.size) 30 #[.slice pV00 lV0 qV00, .slice pV10 lV1 qV10, .slice pV20 lV2 qV20, .slice pV30 lV3 qV30, .int .i64 s.house, .int .i64 s.now, .int .i64 s.fresh, .slice pV40 lV4 qV40]) := by rw [hW0]; exact Blk.new w _ _
 have O0 : Hid (w.heap.size + 1 <= W0.heap.size) := by show _ <= _; rw [hW0, size_alloc]; omega
 clear hW0
 refine (Z0.out W0 HB.out).mono ?_
 rintro e w1 ⟨rfl, hb⟩
 replace HB := zH (Below.on HB.out hb HB.out.size)
 replace HA0 := zH (HA0.out.below hb HA0.out.lt)
 have O1 : Hid (W0.heap.size <= w1.heap.size) := hb.size
 clear hb Z0
 have c0 := fun j => HA0.out.cell j
 go_wp2_with fail
 clear c0
 refine (T0.out w1 HB.out).mono ?_
 rintro e w2 ⟨pV0T, qV0T, pV1T, qV1T, pV2T, qV2T, pV3T, qV3T, pV4T, qV4T, fVT, rfl, ho, hb⟩
 replace HB := zH (Below.on HB.out hb HB.out.size)
 replace HA0 := zH (HA0.out.below hb HA0.out.lt)
 have O2 : Hid (w1.heap.size <= w2.heap.size) := hb.size
 have HT0 : Hid (OwnSe w2 w1.heap.size (.agg #[.slice pV0T lV0 qV0T, .slice pV1T lV1 qV1T, .slice pV2T lV2 qV2T, .slice pV3T lV3 qV3T, .int .i64 s.house, .int .i64 s.now, .int .i64 s.fresh, .slice pV4T lV4 qV4T]) s fVT) := ho
 clear ho hb
 go_wp2_with fail
 refine (SP.out w2 _ _ _ HT0.out).mono ?_
 rintro e w3 ⟨rfl, hb⟩
 replace HB := zH (Below.on HB.out hb HB.out.size)
 replace HA0 := zH (HA0.out.below hb HA0.out.lt)
 replace HT0 := zH (HT0.out.stays hb)
 have O3 : Hid (w2.heap.size <= w3.heap.size) := hb.size
 clear hb
 clear HT0
 have c0 := fun j => HA0.out.cell j
 go_wp2_with fail
 clear c0
 refine (T0.out w3 HB.out).mono ?_
 rintro e w4 ⟨pV0X, qV0X, pV1X, qV1X, pV2X, qV2X, pV3X, qV3X, pV4X, qV4X, fVX, rfl, ho, hb⟩
 replace HB := zH (Below.on HB.out hb HB.out.size)
 replace HA0 := zH (HA0.out.below hb HA0.out.lt)
 have O4 : Hid (w3.heap.size <= w4.heap.size) := hb.size
 have H0 : Hid (OwnSe w4 w3.heap.size (.agg #[.slice pV0X lV0 qV0X, .slice pV1X lV1 qV1X, .slice pV2X lV2 qV2X, .slice pV3X lV3 qV3X, .int .i64 s.house, .int .i64 s.now, .int .i64 s.fresh, .slice pV4X lV4 qV4X]) s fVX) := ho
 clear ho hb
 go_wp2_with fail
 obtain ⟨W5, hW5⟩ : ∃ W, W = w4.alloc (Obj.cells #[.slice pV0X lV0 qV0X, .slice pV1X lV1 qV1X, .slice pV2X lV2 qV2X, .slice pV3X lV3 qV3X, .int .i64 s.house, .int .i64 s.now, .int .i64 s.fresh, .slice pV4X lV4 qV4X] 41) := ⟨_, rfl⟩
 rw [<- hW5]
 have hbW5 : Below w4.heap.size w4 W5 := by rw [hW5]; exact (Below.refl _ _).alloc (Nat.le_refl _) _
 replace HB := zH (Below.on HB.out hbW5 HB.out.size)
 replace HA0 := zH (HA0.out.below hbW5 HA0.out.lt)
 replace H0 := zH (H0.out.stays hbW5)
 have O5 : Hid (w4.heap.size <= W5.heap.size) := hbW5.size
 have V0 : Hid (Blk W5 w4.heap.size 41 #[.slice pV0X lV0 qV0X, .slice pV1X lV1 qV1X, .slice pV2X lV2 qV2X, .slice pV3X lV3 qV3X, .int .i64 s.house, .int .i64 s.now, .int .i64 s.fresh, .slice pV4X lV4 qV4X]) := by rw [hW5]; exact Blk.new w4 _ _
 have O6 : Hid (W5.heap.size = w4.heap.size + 1) := by rw [hW5]; exact size_alloc _ _
 clear hW5 hbW5
 refine (IM.out W5 _ _ _ H0.out).mono ?_
 rintro e w6 ⟨rfl, hb⟩
 replace HB := zH (Below.on HB.out hb HB.out.size)
 replace HA0 := zH (HA0.out.below hb HA0.out.lt)
 replace H0 := zH (H0.out.stays hb)
 replace V0 := zH (V0.out.below hb V0.out.lt)
 have O7 : Hid (W5.heap.size <= w6.heap.size) := hb.size
 clear hb
 go_upto_region 10 with fail
 have HD : Below w6.heap.size w6 w6.drew := (Below.refl _ _).drew
 refine wp_region_held_drew (S := fun W => Below w6.heap.size w6 W) (by kernel_rfl) HD (fun hHeld => ?_)
 clear HD
 generalize w6.drew = wd at hHeld |-
 refine zT 0 22 ?_ rfl (by rfl) ?_ hHeld ?_
 rotate_left
 ·intro W hSw
  have l0 := fun j => (V0.out.below hSw V0.out.lt).cell j
  go_simp
  try with_reducible rfl
 try simp only [Act.put, zA, zB, zC]
 refine zT 1 23 ?_ rfl (by rfl) ?_ hHeld ?_
 rotate_left
 ·intro W hSw
  have m0 := fun j => (HA0.out.below hSw HA0.out.lt).cell j
  go_simp
  try with_reducible rfl
 try simp only [Act.put, zA, zB, zC]
 refine wpAnyH_ready (rs := [2]) (by kernel_rfl) (by simp) ?_
 refine AllReadyH.cons (o := ⟨some 24, _, _, _, _, _⟩) rfl (fun K hK => ?_) AllReadyH.nil
 go_simp
 refine (T0.out wd (Below.on HB.out hHeld HB.out.size)).mono ?_
 rintro e z7 ⟨pV0E, qV0E, pV1E, qV1E, pV2E, qV2E, pV3E, qV3E, pV4E, qV4E, fVE, rfl, ho, hb⟩
 have hH : Below w6.heap.size w6 z7 := Below.on hHeld hb hHeld.size
 have EE := Q0.out z7 _ _ (H0.out.stays hH).at ho.at
 clear ho hb hHeld
 refine hK.out _ _ hH (fun hHeld => ?_)
 clear hK K hH
 try simp only [Act.put, zA, zB, zC]
 refine wpAnyH_ready (rs := [3]) (by kernel_rfl) (by simp) ?_
 refine AllReadyH.cons (o := ⟨some 25, _, _, _, _, _⟩) rfl (fun K hK => ?_) AllReadyH.nil
 go_simp
 refine EE.mono ?_
 rintro e zz7 ⟨rfl, hb⟩
 have hH : Below w6.heap.size w6 zz7 := Below.on hHeld hb hHeld.size
 clear hb hHeld EE
 refine hK.out _ _ hH (fun hHeld => ?_)
 clear hK K hH
 try simp only [Act.put, zA, zB, zC]
 refine zT 4 26 ?_ rfl (by rfl) ?_ hHeld ?_
 rotate_left
 ·intro W hSw
  go_simp
  try with_reducible rfl
 try simp only [Act.put, zA, zB, zC]
 refine wpAnyH_done (by kernel_rfl) ?_ _
 replace HB := zH (Below.on HB.out hHeld HB.out.size)
 replace HA0 := zH (HA0.out.below hHeld HA0.out.lt)
 replace H0 := zH (H0.out.stays hHeld)
 replace V0 := zH (V0.out.below hHeld V0.out.lt)
 have O8 : Hid (w6.heap.size <= zz7.heap.size) := hHeld.size
 clear hHeld
 go_wp2_with fail
 go_ret
 exact ⟨rfl, HB.out⟩
theorem laidOut_FnExactServerOk : laidOutB Tryz.prog = true := by kernel_rfl
theorem own_FnExactServerOk : ownKnob Tryz.prog.godebug = none := by kernel_rfl
theorem lifted_FnExactServerOk (os : Os) (started : os.Started) (H : Type) (enc : TypeId × Value -> H) :
  ReturnsInHanded {} Tryz.checked os 3 .any (Rows.fnExactServerOkSpec.pre6 enc Tryz.prog Tryz.f3 Rows.fnExactServerOkRow.domain false) (Rows.fnExactServerOkSpec.post enc Tryz.prog Tryz.f3 false true false false) := by
 refine returnsInHanded_of_change (C := Tryz.checked) own_FnExactServerOk started (by kernel_rfl) Tryz.func3
  (ChangeSpec.witness6 (enc := enc) (C := Tryz.checked) false ⟨#[], #[.agg #[.slice none 0 0, .slice none 0 0, .slice none 0 0, .slice none 0 0, .int .i64 0, .int .i64 0, .int .i64 0, .slice none 0 0]], []⟩ 8 (by kernel_rfl) (by kernel_rfl) (by kernel_rfl) (by kernel_rfl)) ?_
 intro W base args ds gs before hval0 hW hcnd _
 have hval : ∀ (j : Nat) t v, Tryz.f3.params[j]? = some t -> args[j]? = some v -> Value.okWide Tryz.prog W .any base t v := hval0
 have hW' := hW
 obtain ⟨p, q, hA0, hV, rfl, hfz, hnd⟩ := hW
 have hA : DataW.TrodAll enc Tryz.prog W 0 (fun _ => true) true Tryz.f3.params.toList args.toList ds p := hA0
 rw [Tryz.params3] at hA hval
 obtain ⟨v0, vs0, d0, ds0, p0, q0, hargs, rfl, rfl, h0, r0⟩ := trodAll_cons hA
 obtain ⟨rfl, rfl, rfl⟩ := trodAll_nil r0
 obtain rfl : args = #[v0] := by cases args; simp_all
 obtain ⟨rfl, rfl⟩ := trodVars_none hV
 obtain ⟨a0, rfl, ca0⟩ := okWide_struct Tryz.underlying30 (hval 0 30 v0 rfl rfl)
 have k0 := h0
 have lt0 : ∀ x ∈ p0, x.block < W.heap.size := by obtain ⟨m, hm⟩ := k0; exact DataW.trod_lt m _ _ _ hm
 have w0 : ∃ c : Se, ArgSe W.heap.size W (.agg a0) c /\ WdSe c := by
  obtain ⟨fuel, hf⟩ := h0
  exact server_of_trod hf
 clear hA0 hval0
 simp only [List.append_nil] at hW'
 refine (walk_FnExactServerOk a0 W w0).mono fun e W' ⟨he, bel⟩ => ?_
 subst he
 exact ⟨_, rfl, _, _, _, [], _, [], hW', trodAll_mk1 (shut_bool Tryz.underlying4 _), (trodAll_cons_mk (Below.trod laidOut_FnExactServerOk (by kernel_rfl) (of_decide_eq_true (by kernel_rfl)) k0 bel lt0) trodAll_mk0), rfl, bel.frame _, fun h => by cases h⟩
theorem over_FnExactServerOk : Rows.fnExactServerOkRow.holds Tryz.pinned (OpenSpec.ofChange Rows.fnExactServerOkSpec) :=
 OpenClaim.holds_of_wide 3 Tryz.f3 rfl rfl rfl rfl rfl rfl rfl ⟨rfl, rfl, rfl, rfl, rfl⟩ rfl rfl rfl rfl rfl (by kernel_rfl) Tryz.func3 (by kernel_rfl)
  (of_decide_eq_true (by kernel_rfl)) (by unfold Func.isWrapper; first | (rw [if_pos (by decide +kernel)]; kernel_rfl) | (rw [if_neg (by decide +kernel)]; exact ⟨rfl, rfl⟩))
  (fun os started H enc _ => lifted_FnExactServerOk os started H enc)
theorem proved_FnExactServerOk : Rows.FnExactServerOkSaid := over_FnExactServerOk
#print axioms proved_FnExactServerOk
end Go.Proofs.YtabfamhaihnccaaGreat
