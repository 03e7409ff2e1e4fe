/-
  Texts of the proof.
-/
import Derived.Test.YtagmnlmfoanelaaRows
import Derived.ProofKit
import Derived.OpenShut
import Derived.ShutString
import Derived.Test.YtagmnlmfoanelaaNA14
set_option maxRecDepth 100000
set_option maxHeartbeats 25600000
namespace Go.Proofs.Ytagmnlmfoanelaa
open Go.ChangeShapes Go.WideShapes Go.ChangeAt Go.RowKit
open Go.ChangeMaps (open_string shut_string)
set_option linter.unusedVariables false
set_option linter.unusedSimpArgs false
theorem walk_FnExactClientNew (s : ByteArray) (w : World) (hm : s.size <= maxLen) : Calls Try.prog 3 #[.string s] w fun e w' => e = .returned (.bool true) /\ Below w.heap.size w w' := by
 unfold maxLen at hm
 by_cases hbig : 1048576 < s.size
 ·have hbi : (1048576 : Int) < (s.size : Int) := by omega
  go_enter Try.func3, Try.ntmps3
  go_wp2_with fail
  go_ret
  exact ⟨rfl, Below.refl _ _⟩
 have hbi : ¬ (1048576 : Int) < (s.size : Int) := by omega
 have SP : Hid (∀ W, Calls Try.prog 5 #[.string s] W fun e w' => e = .returned (.agg #[.string s, .int .i64 0, .slice none 0 0, .slice none 0 0, .slice none 0 0]) /\ Below W.heap.size W w') := fun W => specClientNew_any s W
 have IM : Hid (∀ W, Calls Try.prog 6 #[.string s] W fun e w' => e = .returned (.agg #[.string s, .int .i64 0, .slice none 0 0, .slice none 0 0, .slice none 0 0]) /\ Below W.heap.size W w') := fun W => implClientNew_any s W (by omega)
 have hL : LmCn (cn0 s) := ⟨Nat.zero_le _, Nat.zero_le _, Nat.zero_le _⟩
 have EQ : Hid (∀ (W : World) (u v : Value), CnAt W u (cn0 s) -> CnAt W v (cn0 s) -> Calls Try.prog 7 #[u, v] W fun e w' => e = .returned (.bool true) /\ Below W.heap.size W w') := fun W u v h1 h2 => eqClient_wide (cn0 s) u v W ⟨Nat.zero_le _, Nat.zero_le _, Nat.zero_le _⟩ h1 h2
 have hp2 := pcn_le (k := 1) hL (Nat.le_refl _)
 obtain ⟨kgQ, hkgQ⟩ : ∃ K : Nat, pcn3 1 (cn0 s) = K := ⟨_, rfl⟩
 have MG : Hid (∀ (W : World) (b : Nat) (v : Value) (f : List Nat), b <= W.heap.size -> OwnCn true W b v (cn0 s) f -> Calls Try.prog 8 #[v, .int .i64 1] W fun e w' => e = .returned (.int .i64 (kgQ : Int)) /\ OwnCn true w' b v (mkCn 1 (cn0 s)) f /\ Out f W w') := fun W b v f hb h => by rw [<- hkgQ]; exact markClient_out (cn0 s) v 1 b f W hL (by omega) (by omega) h
 have HHG : Hid (∀ (W : World) (v : Value), CnAt W v (mkCn 1 (cn0 s)) -> Calls Try.prog 9 #[v, .int .i64 1] W fun e w' => e = .returned (.int .i64 (kgQ : Int)) /\ Below W.heap.size W w') := fun W v h => by rw [<- hkgQ]; exact heldClient_same (cn0 s) v 1 W hL (by omega) (by omega) h
 obtain ⟨RM, hRM⟩ := zE (mkCn 1 (cn0 s))
 rw [hRM] at MG HHG
 have kn2 : ¬ (kgQ : Int) < 0 := by omega
 clear hkgQ hRM hL hp2 hbig
 go_enter Try.func3, Try.ntmps3
 go_wp2_with fail
 obtain ⟨W0, hW0⟩ : ∃ W, W = w := ⟨_, rfl⟩
 rw [<- hW0]
 have HB : Hid (Below w.heap.size w W0) := by rw [hW0]; exact Below.refl _ _
 have O0 : Hid (w.heap.size <= W0.heap.size) := by show _ <= _; rw [hW0]; exact Nat.le_refl _
 clear hW0
 refine (SP.out W0).mono ?_
 rintro e w1 ⟨rfl, hb⟩
 replace HB := zH (Below.on HB.out hb HB.out.size)
 have O1 : Hid (W0.heap.size <= w1.heap.size) := hb.size
 clear hb
 go_wp2_with fail
 obtain ⟨W2, hW2⟩ : ∃ W, W = w1.alloc (Obj.cells #[.string s, .int .i64 0, .slice none 0 0, .slice none 0 0, .slice none 0 0] 26) := ⟨_, rfl⟩
 rw [<- hW2]
 have hbW2 : Below w1.heap.size w1 W2 := by rw [hW2]; exact (Below.refl _ _).alloc (Nat.le_refl _) _
 replace HB := zH (Below.on HB.out hbW2 HB.out.size)
 have O2 : Hid (w1.heap.size <= W2.heap.size) := hbW2.size
 have VW : Hid (Blk W2 w1.heap.size 26 #[.string s, .int .i64 0, .slice none 0 0, .slice none 0 0, .slice none 0 0]) := by rw [hW2]; exact Blk.new w1 _ _
 have O3 : Hid (W2.heap.size = w1.heap.size + 1) := by rw [hW2]; exact size_alloc _ _
 clear hW2 hbW2
 refine (IM.out W2).mono ?_
 rintro e w3 ⟨rfl, hb⟩
 replace HB := zH (Below.on HB.out hb HB.out.size)
 replace VW := zH (VW.out.below hb VW.out.lt)
 have O4 : Hid (W2.heap.size <= w3.heap.size) := hb.size
 clear hb
 have HG : Hid (OwnCn true w3 w3.heap.size (.agg #[.string s, .int .i64 0, .slice none 0 0, .slice none 0 0, .slice none 0 0]) (cn0 s) []) := own_cn0 _ _ _ _
 have d0 := fun o j => (VW.out.alloc o).cell j
 go_wp2_with fail
 clear d0
 obtain ⟨W4, hW4⟩ : ∃ W, W = w3.alloc (Obj.cells #[.string s, .int .i64 0, .slice none 0 0, .slice none 0 0, .slice none 0 0] 26) := ⟨_, rfl⟩
 rw [<- hW4]
 have hbW4 : Below w3.heap.size w3 W4 := by rw [hW4]; exact (Below.refl _ _).alloc (Nat.le_refl _) _
 replace HB := zH (Below.on HB.out hbW4 HB.out.size)
 replace VW := zH (VW.out.below hbW4 VW.out.lt)
 replace HG := zH (HG.out.stays hbW4)
 have O5 : Hid (w3.heap.size <= W4.heap.size) := hbW4.size
 have VG : Hid (Blk W4 w3.heap.size 26 #[.string s, .int .i64 0, .slice none 0 0, .slice none 0 0, .slice none 0 0]) := by rw [hW4]; exact Blk.new w3 _ _
 have O6 : Hid (W4.heap.size = w3.heap.size + 1) := by rw [hW4]; exact size_alloc _ _
 clear hW4 hbW4
 refine (EQ.out W4 _ _ HG.out.at (own_cn0 true _ 0 s).at).mono ?_
 rintro e w5 ⟨rfl, hb⟩
 replace HB := zH (Below.on HB.out hb HB.out.size)
 replace VW := zH (VW.out.below hb VW.out.lt)
 replace HG := zH (HG.out.stays hb)
 replace VG := zH (VG.out.below hb VG.out.lt)
 have O7 : Hid (W4.heap.size <= w5.heap.size) := hb.size
 clear hb
 have c0 := fun j => VG.out.cell j
 go_wp2_with fail
 clear c0
 have LG : Hid (∀ b ∈ ([] : List Nat), 0 <= b /\ b < 0) := fun b hb => by cases hb
 refine (MG.out w5 _ _ _ (by have := O0.out; have := O1.out; have := O2.out; have := O3.out; have := O4.out; have := O5.out; have := O6.out; have := O7.out; omega) HG.out).mono ?_
 rintro e w6 ⟨rfl, hoX, hout⟩
 replace HB := zH (Below.out HB.out hout (fun b hm => by have := LG.out b hm; have := O0.out; have := O1.out; have := O2.out; have := O3.out; have := O4.out; have := O5.out; have := O6.out; have := O7.out; omega) HB.out.size)
 have VWn : Hid (Blk w6 w1.heap.size 26 #[.string s, .int .i64 0, .slice none 0 0, .slice none 0 0, .slice none 0 0]) := VW.out.out hout (fun hm => by have := LG.out _ hm; have := O0.out; have := O1.out; have := O2.out; have := O3.out; have := O4.out; have := O5.out; have := O6.out; have := O7.out; omega)
 clear VW
 have VW := VWn
 clear VWn
 have VGn : Hid (Blk w6 w3.heap.size 26 #[.string s, .int .i64 0, .slice none 0 0, .slice none 0 0, .slice none 0 0]) := VG.out.out hout (fun hm => by have := LG.out _ hm; have := O0.out; have := O1.out; have := O2.out; have := O3.out; have := O4.out; have := O5.out; have := O6.out; have := O7.out; omega)
 clear VG
 have VG := VGn
 clear VGn
 have O8 : Hid (w5.heap.size <= w6.heap.size) := hout.2.2.2.1
 clear HG
 have HG : Hid (OwnCn true w6 w3.heap.size (.agg #[.string s, .int .i64 0, .slice none 0 0, .slice none 0 0, .slice none 0 0]) RM []) := hoX
 clear hoX hout
 have c0 := fun j => VG.out.cell j
 go_wp2_with fail
 clear c0
 refine (HHG.out w6 _ HG.out.at).mono ?_
 rintro e w7 ⟨rfl, hb⟩
 replace HB := zH (Below.on HB.out hb HB.out.size)
 replace VW := zH (VW.out.below hb VW.out.lt)
 replace VG := zH (VG.out.below hb VG.out.lt)
 replace HG := zH (HG.out.stays hb)
 have O9 : Hid (w6.heap.size <= w7.heap.size) := hb.size
 clear hb
 go_wp2_with fail
 refine (IM.out w7).mono ?_
 rintro e w8 ⟨rfl, hb⟩
 replace HB := zH (Below.on HB.out hb HB.out.size)
 replace VW := zH (VW.out.below hb VW.out.lt)
 replace VG := zH (VG.out.below hb VG.out.lt)
 replace HG := zH (HG.out.stays hb)
 have O10 : Hid (w7.heap.size <= w8.heap.size) := hb.size
 clear hb
 have d0 := fun o j => (VW.out.alloc o).cell j
 go_wp2_with fail
 clear d0
 obtain ⟨W9, hW9⟩ : ∃ W, W = w8.alloc (Obj.cells #[.string s, .int .i64 0, .slice none 0 0, .slice none 0 0, .slice none 0 0] 26) := ⟨_, rfl⟩
 rw [<- hW9]
 have hbW9 : Below w8.heap.size w8 W9 := by rw [hW9]; exact (Below.refl _ _).alloc (Nat.le_refl _) _
 replace HB := zH (Below.on HB.out hbW9 HB.out.size)
 replace VW := zH (VW.out.below hbW9 VW.out.lt)
 replace VG := zH (VG.out.below hbW9 VG.out.lt)
 replace HG := zH (HG.out.stays hbW9)
 have O11 : Hid (w8.heap.size <= W9.heap.size) := hbW9.size
 have VH : Hid (Blk W9 w8.heap.size 26 #[.string s, .int .i64 0, .slice none 0 0, .slice none 0 0, .slice none 0 0]) := by rw [hW9]; exact Blk.new w8 _ _
 have O12 : Hid (W9.heap.size = w8.heap.size + 1) := by rw [hW9]; exact size_alloc _ _
 clear hW9 hbW9
 refine (EQ.out W9 _ _ (own_cn0 true _ 0 s).at (own_cn0 true _ 0 s).at).mono ?_
 rintro e w10 ⟨rfl, hb⟩
 replace HB := zH (Below.on HB.out hb HB.out.size)
 replace VW := zH (VW.out.below hb VW.out.lt)
 replace VG := zH (VG.out.below hb VG.out.lt)
 replace HG := zH (HG.out.stays hb)
 replace VH := zH (VH.out.below hb VH.out.lt)
 have O13 : Hid (W9.heap.size <= w10.heap.size) := hb.size
 clear hb
 have c0 := fun j => VG.out.cell j
 go_wp2_with fail
 clear c0
 refine (HHG.out w10 _ HG.out.at).mono ?_
 rintro e w11 ⟨rfl, hb⟩
 replace HB := zH (Below.on HB.out hb HB.out.size)
 replace VW := zH (VW.out.below hb VW.out.lt)
 replace VG := zH (VG.out.below hb VG.out.lt)
 replace HG := zH (HG.out.stays hb)
 replace VH := zH (VH.out.below hb VH.out.lt)
 have O14 : Hid (w10.heap.size <= w11.heap.size) := hb.size
 clear hb
 go_wp2_with fail
 go_ret
 exact ⟨rfl, HB.out⟩
theorem own_FnExactClientNew : ownKnob Try.prog.godebug = none := by kernel_rfl
theorem lifted_FnExactClientNew (os : Os) (started : os.Started) (H : Type) (enc : TypeId × Value -> H) :
  ReturnsInHanded {} Try.checked os 3 .any (Rows.fnExactClientNewSpec.pre6 enc Try.prog Try.f3 Rows.fnExactClientNewRow.domain false) (Rows.fnExactClientNewSpec.post enc Try.prog Try.f3 false true false false) := by
 refine returnsInHanded_of_change (C := Try.checked) own_FnExactClientNew started (by kernel_rfl) Try.func3
  (ChangeSpec.witness6 (enc := enc) (C := Try.checked) false ⟨#[], #[.string ByteArray.empty], []⟩ 8 (by kernel_rfl) (by kernel_rfl) (by kernel_rfl) (by kernel_rfl)) ?_
 intro W base args ds gs before hval0 hW hcnd _
 have hval : ∀ (j : Nat) t v, Try.f3.params[j]? = some t -> args[j]? = some v -> Value.okWide Try.prog W .any base t v := hval0
 have hW' := hW
 obtain ⟨p, q, hA0, hV, rfl, hfz, hnd⟩ := hW
 have hA : DataW.TrodAll enc Try.prog W 0 (fun _ => true) true Try.f3.params.toList args.toList ds p := hA0
 rw [Try.params3] at hA hval
 obtain ⟨v0, vs0, d0, ds0, p0, q0, hargs, rfl, rfl, h0, r0⟩ := trodAll_cons hA
 obtain ⟨rfl, rfl, rfl⟩ := trodAll_nil r0
 obtain rfl : args = #[v0] := by cases args; simp_all
 obtain ⟨rfl, rfl⟩ := trodVars_none hV
 obtain ⟨a0, rfl, rfl, rfl, w0⟩ := open_string Try.underlying9 (hval 0 9 v0 rfl rfl) h0
 clear hA0 hval0
 simp only [List.append_nil] at hW'
 refine (walk_FnExactClientNew a0 W w0).mono fun e W' ⟨he, bel⟩ => ?_
 subst he
 exact ⟨_, rfl, _, _, _, [], _, [], hW', trodAll_mk1 (shut_bool Try.underlying4 _), (trodAll_cons_mk (shut_string Try.underlying9 w0) trodAll_mk0), rfl, bel.frame _, fun h => by cases h⟩
theorem over_FnExactClientNew : Rows.fnExactClientNewRow.holds Try.pinned (OpenSpec.ofChange Rows.fnExactClientNewSpec) :=
 OpenClaim.holds_of_wide 3 Try.f3 rfl rfl rfl rfl rfl rfl rfl ⟨rfl, rfl, rfl, rfl, rfl⟩ rfl rfl rfl rfl rfl (by kernel_rfl) Try.func3 (by kernel_rfl)
  (of_decide_eq_true (by kernel_rfl)) (by unfold Func.isWrapper; first | (rw [if_pos (by decide +kernel)]; kernel_rfl) | (rw [if_neg (by decide +kernel)]; exact ⟨rfl, rfl⟩))
  (fun os started H enc _ => lifted_FnExactClientNew os started H enc)
theorem proved_FnExactClientNew : Rows.FnExactClientNewSaid := over_FnExactClientNew
#print axioms proved_FnExactClientNew
end Go.Proofs.Ytagmnlmfoanelaa
