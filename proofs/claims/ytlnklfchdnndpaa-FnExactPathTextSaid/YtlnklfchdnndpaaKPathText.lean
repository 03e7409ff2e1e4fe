/-
  Proved: FnExactPathText of chapter 12 holds for every row of letters: the program's PathText answers as its model does, and writes into no argument.
-/
import Derived.Test.YtlnklfchdnndpaaRows
import Derived.Deep.RegionHeld3
import Derived.ProofKit
import Derived.OpenShut
import Derived.ShutString
import Derived.Test.YtlnklfchdnndpaaPT11
import Derived.Test.YtlnklfchdnndpaaPT12
import Derived.Test.YtlnklfchdnndpaaPT21
namespace Go.Proofs.Ytlnklfchdnndpaa
open Go.ChangeShapes Go.WideShapes Go.ChangeAt Go.RowKit
open Go.ChangeMaps (open_string shut_string)
set_option linter.unusedVariables false

set_option maxHeartbeats 6400000 in
set_option maxRecDepth 100000 in
theorem walk_FnExactPathText (a0 : Option Addr) (len cap : Nat) (w : World) (h : len ≤ maxLen ∧ ∃ l : List Ct, l.length = len ∧ (∀ c ∈ l, WdC c) ∧ ArgM w.heap.size w (.slice a0 len cap) l) : Calls Try.prog 4 #[.slice a0 len cap] w fun e w' => e = .returned (.bool true) ∧ Below w.heap.size w w' := by
  obtain ⟨hm, l, hlen, hwd, hx⟩ := h
  unfold maxLen at hm
  have HX : Hid (ArgM w.heap.size w (.slice a0 len cap) l ∧ (∀ c ∈ l, WdC c)) := ⟨hx, hwd⟩
  have E := szCertS_any _ l 1048576 w (by omega) hwd (by decide) (by decide) hx
  clear hx hwd hm hlen
  by_cases hz : (wtM l : Int) ≤ 1048576
  rotate_left
  · rw [if_neg hz] at E
    clear hz
    go_enter Try.func4, Try.ntmps4
    go_wp2_with fail
    refine E.mono ?_
    rintro e w2 ⟨rfl, hb2⟩
    clear E
    have HB : Hid (Below w.heap.size w w2) := hb2
    clear hb2
    go_wp2_with fail
    go_ret
    exact ⟨rfl, HB.out⟩
  rw [if_pos hz] at E
  have HZ : Hid (wtM l ≤ 1048576) := by show _ ≤ _; omega
  obtain ⟨z, hze⟩ : ∃ z : Int, z = 1048576 - (wtM l : Int) := ⟨_, rfl⟩
  have hz0 : ¬ z < 0 := by omega
  rw [← hze] at E
  clear hze hz
  obtain ⟨T, hT⟩ : ∃ q : ByteArray, (⟨(pathT l).toArray⟩ : ByteArray) = q := ⟨_, rfl⟩
  have HS : Hid (∀ (v : Value) (W : World), AtS certKd W v l → Calls Try.prog 11 #[v] W fun e w' => e = .returned (.string T) ∧ Below W.heap.size W w') := fun v W h => by rw [← hT]; exact specPathText_any l v W HZ.out HX.out.2 h
  have HI : Hid (∀ (v : Value) (W : World), AtS certKd W v l → Calls Try.prog 13 #[v] W fun e w' => e = .returned (.string T) ∧ Below W.heap.size W w') := fun v W h => by rw [← hT]; exact implPathText_any l v W HZ.out HX.out.2 h
  have HTC : Hid (∀ (W : World), Below w.heap.size w W → Calls Try.prog 12 #[.slice a0 len cap] W fun e w' => ∃ u fp, e = .returned u ∧ OwnS certKd w' W.heap.size u l fp ∧ Below W.heap.size W w') := fun W hb => toCertS_any _ l w.heap.size W HZ.out hb.size (HX.out.1.below hb (Nat.le_refl _))
  clear hT
  go_enter Try.func4, Try.ntmps4
  go_wp2_with fail
  refine E.mono ?_
  rintro e w2 ⟨rfl, hb2⟩
  have H2 : Hid (Below w.heap.size w w2) := hb2
  clear E hb2
  go_wp2_with fail
  refine (HTC.out w2 H2.out).mono ?_
  rintro e w3 ⟨u3, fp3, rfl, ho3, hb3⟩
  have H3 : Hid (Below w.heap.size w w3 ∧ AtS certKd w3 u3 l) := ⟨H2.out.trans (hb3.mono H2.out.size), ho3.at⟩
  clear ho3 hb3 H2
  go_wp2_with fail
  refine (HS.out u3 w3 H3.out.2).mono ?_
  rintro e w4 ⟨rfl, hb4⟩
  have H4 : Hid (Below w.heap.size w w4) := H3.out.1.trans (hb4.mono H3.out.1.size)
  clear hb4 H3
  go_wp2_with fail
  refine (HTC.out w4 H4.out).mono ?_
  rintro e w5 ⟨u5, fp5, rfl, ho5, hb5⟩
  have H5 : Hid (Below w.heap.size w w5 ∧ AtS certKd w5 u5 l) := ⟨H4.out.trans (hb5.mono H4.out.size), ho5.at⟩
  clear ho5 hb5 H4
  go_wp2_with fail
  refine (HI.out u5 w5 H5.out.2).mono ?_
  rintro e w6 ⟨rfl, hb6⟩
  have H6 : Hid (Below w.heap.size w w6 ∧ AtS certKd w6 u5 l) := ⟨H5.out.1.trans (hb6.mono H5.out.1.size), H5.out.2.below hb6⟩
  clear hb6 H5 HS HI
  go_wp2_with fail
  refine (HTC.out w6 H6.out.1).mono ?_
  rintro e w7 ⟨u7, fp7, rfl, ho7, hb7⟩
  have H7 : Hid (Below w.heap.size w w7 ∧ AtS certKd w7 u5 l ∧ AtS certKd w7 u7 l) := ⟨H6.out.1.trans (hb7.mono H6.out.1.size), H6.out.2.below hb7, ho7.at⟩
  clear ho7 hb7 H6 HTC
  go_wp2_with fail
  refine (eqCertS_same l u5 u7 w7 (Nat.le_trans HZ.out (by decide)) H7.out.2.1 H7.out.2.2).mono ?_
  rintro e w8 ⟨rfl, hb8⟩
  have H8 : Hid (Below w.heap.size w w8) := H7.out.1.trans (hb8.mono H7.out.1.size)
  clear hb8 H7
  go_wp2_with fail
  go_ret
  exact ⟨rfl, H8.out⟩
theorem laidOut_FnExactPathText : laidOutB Try.prog = true := by kernel_rfl
theorem own_FnExactPathText : ownKnob Try.prog.godebug = none := by kernel_rfl
set_option maxRecDepth 100000 in
theorem lifted_FnExactPathText (os : Os) (started : os.Started) (H : Type) (enc : TypeId × Value → H) :
    ReturnsInHanded {} Try.checked os 4 .any (Rows.fnExactPathTextSpec.pre6 enc Try.prog Try.f4 Rows.fnExactPathTextRow.domain false) (Rows.fnExactPathTextSpec.post enc Try.prog Try.f4 false true false false) := by
  refine returnsInHanded_of_change (C := Try.checked) own_FnExactPathText started (by kernel_rfl) Try.func4
    (ChangeSpec.witness6 (enc := enc) (C := Try.checked) false ⟨#[], #[.slice none 0 0], []⟩ 8 (by kernel_rfl) (by kernel_rfl) (by kernel_rfl) (by kernel_rfl)) ?_
  intro W base args ds gs before hval0 hW hcnd _
  have hval : ∀ (j : Nat) t v, Try.f4.params[j]? = some t → args[j]? = some v → Value.okWide Try.prog W .any base t v := hval0
  have hW' := hW
  obtain ⟨p, q, hA0, hV, rfl, hfz, hnd⟩ := hW
  have hA : DataW.TrodAll enc Try.prog W 0 (fun _ => true) true Try.f4.params.toList args.toList ds p := hA0
  rw [Try.params4] at hA hval
  obtain ⟨v0, vs0, d0, ds0, p0, q0, hargs, rfl, rfl, h0, r0⟩ := trodAll_cons hA
  obtain ⟨rfl, rfl, rfl⟩ := trodAll_nil r0
  obtain rfl : args = #[v0] := by cases args; simp_all
  obtain ⟨rfl, rfl⟩ := trodVars_none hV
  obtain ⟨a0, len0, cap0, rfl⟩ := okWide_slice Try.underlying31 (hval 0 31 v0 rfl rfl)
  have k0 := h0
  have lt0 : ∀ x ∈ p0, x.block < W.heap.size := by obtain ⟨m, hm⟩ := k0; exact DataW.trod_lt m _ _ _ hm
  have w0 : len0 ≤ maxLen ∧ ∃ l : List Ct, l.length = len0 ∧ (∀ c ∈ l, WdC c) ∧ ArgM W.heap.size W (.slice a0 len0 cap0) l := by
    obtain ⟨fuel, hf⟩ := h0
    obtain ⟨ao, cap, l, hcs, hm, hwd, ha⟩ := certs_in hf
    simp [Value.cells] at hcs
    obtain ⟨rfl, rfl, rfl⟩ := hcs
    exact ⟨hm, l, rfl, hwd, ha⟩
  clear hA0 hval0
  simp only [List.append_nil] at hW'
  refine (walk_FnExactPathText a0 len0 cap0 W w0).mono fun e W' ⟨he, bel⟩ => ?_
  subst he
  exact ⟨_, rfl, _, _, _, [], _, [], hW', trodAll_mk1 (shut_bool Try.underlying4 _), (trodAll_cons_mk (Below.trod laidOut_FnExactPathText (by kernel_rfl) (of_decide_eq_true (by kernel_rfl)) k0 bel lt0) trodAll_mk0), rfl, bel.frame _, fun h => by cases h⟩
theorem over_FnExactPathText : Rows.fnExactPathTextRow.holds Try.pinned (OpenSpec.ofChange Rows.fnExactPathTextSpec) :=
  OpenClaim.holds_of_wide 4 Try.f4 rfl rfl rfl rfl rfl rfl rfl ⟨rfl, rfl, rfl, rfl, rfl⟩ rfl rfl rfl rfl rfl (by kernel_rfl) Try.func4 (by kernel_rfl)
    (of_decide_eq_true (by kernel_rfl)) (by unfold Func.isWrapper; first | (rw [if_pos (by decide +kernel)]; kernel_rfl) | (rw [if_neg (by decide +kernel)]; exact ⟨rfl, rfl⟩))
    (fun os started H enc _ => lifted_FnExactPathText os started H enc)
theorem proved_FnExactPathText : Rows.FnExactPathTextSaid := over_FnExactPathText
#print axioms proved_FnExactPathText
end Go.Proofs.Ytlnklfchdnndpaa
