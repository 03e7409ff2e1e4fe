/-
  Proves FnExactPartsOfCardSaid: at every line the program's PartsOf answers as the specification's, in memory of its own; the library's tables that the row lists are tied by the given tie (no step of the proof reads them).
-/
import Derived.Test.YthingngbpkbmbaiDoorCards
import Derived.Test.YthingngbpkbmbaiDoorTie
import Derived.Test.YthingngbpkbmbaiDoorPartsN
import Derived.ProofKit
import Derived.OpenShut
import Derived.ShutString
import Derived.Deep.DeepHandedRow
import Derived.LaidSub
import Derived.Lay
namespace Go.Proofs.YthingngbpkbmbaiDoor
open Go.ChangeShapes Go.WideShapes Go.ChangeAt Go.RowKit
open Go.ChangeMaps (open_string shut_string)
set_option linter.unusedVariables false

theorem ptR_len (s : ByteArray) : (ptR s).1.length ≤ 10 := by
  unfold ptR
  split
  · simp
  · rename_i h
    simp only [not_or, Nat.not_lt] at h
    exact h.2.2

theorem mark1 (v : Value) (n : Nat) (xs : List Value) (base : Nat) (w : World) (hn : n ≤ 1000000000) (hbase : base ≤ w.heap.size) (hown : w.ownsRow base 9 1 v n xs) :
    Calls Tryd.prog 7 #[v, .int .i64 1] w fun e w' => e = .returned (.int .i64 (1 + (n : Int))) ∧ Below base w w' ∧ w'.ownsRow base 9 1 v n ((marks 1 n).map cellS) :=
  markStringS_any v n 1 xs base w hn (Nat.le_refl _) (by decide) hbase hown
theorem held1 (v : Value) (n : Nat) (w : World) (hn : n ≤ 1000000000) (hv : StrAt w v (marks 1 n)) :
    Calls Tryd.prog 8 #[v, .int .i64 1] w fun e w' => e = .returned (.int .i64 (1 + (n : Int))) ∧ Below w.heap.size w w' :=
  heldStringS_same v n 1 w hn (Nat.le_refl _) (by decide) hv

set_option maxHeartbeats 1600000 in
set_option maxRecDepth 100000 in
theorem walk_FnExactPartsOf (a0 : ByteArray) (w : World) (h0 : a0.size ≤ maxLen) (hL : laidMetH Tryd.prog Rows.fnExactPartsOfRow.laid w) (hsh : w.ShapedOpen Tryd.prog) :
    Calls Tryd.prog 3 #[.string a0] w fun e w' => e = .returned (.bool true) ∧ Below w.heap.size w w' := by
  unfold maxLen at h0
  clear hL
  obtain ⟨m, hm⟩ : ∃ m, w.cell? ⟨0, 0, none⟩ = some (.int .i64 m) := Tryd.laysM146.s1_3 w hsh
  have HM : Hid (w.cell? ⟨0, 0, none⟩ = some (.int .i64 m)) := hm
  have hgm : 0 < w.heap.size := World.block_lt_of_cell? w _ hm
  have hpl := ptR_len a0
  clear hm hsh
  by_cases hl : 1048576 < a0.size
  · go_enter Tryd.func3, Tryd.ntmps3
    go_wp2
    go_ret
    exact ⟨rfl, Below.refl _ _⟩
  · have HSp := fun w => specPartsOf_any a0 w (by omega)
    have HIm := fun w => implPartsOf_any a0 m w (by omega)
    generalize ptR a0 = R at *
    obtain ⟨l, ok⟩ := R
    simp only at HSp HIm hpl
    have HSp2 := (id HSp : Hid _)
    have HIm2 := (id HIm : Hid _)
    clear HSp HIm
    go_enter Tryd.func3, Tryd.ntmps3
    go_wp2_with fail
    refine (HSp2.out _).mono ?_
    rintro e w1 ⟨v0, rfl, hb1, ho1⟩
    go_wp2_with fail
    refine (HIm2.out _ ((hb1.cell (p := ⟨0, 0, none⟩) hgm).trans HM.out)).mono ?_
    rintro e w2 ⟨v1, rfl, hb2, ho2⟩
    have s1 := hb1.size
    have s2 := hb2.size
    have HS0 : Hid (StrAt w1 v0 l) := StrAt.of_own ho1
    have HO2 : Hid (w2.ownsRow w1.heap.size 9 1 v1 l.length (l.map cellS)) := ho2
    clear ho1 ho2
    go_wp2_with fail
    refine (eqStringS_same v1 v0 l _ (by omega) (StrAt.of_own HO2.out) (HS0.out.below hb2)).mono ?_
    rintro e w3 ⟨rfl, hb3⟩
    have s3 := hb3.size
    go_wp2_with fail
    refine (mark1 v1 l.length _ w1.heap.size _ (by omega) (by omega) (ownsRow_below HO2.out hb3)).mono ?_
    rintro e w4 ⟨rfl, hb4, ho4⟩
    have s4 := hb4.size
    have HS1 : Hid (StrAt w4 v1 (marks 1 l.length)) := by
      refine StrAt.of_own (base := w1.heap.size) ?_
      rw [marks_len]; exact ho4
    have B14 : Below w1.heap.size w1 w4 := (hb2.trans (hb3.mono s2)).trans hb4
    clear ho4
    go_wp2_with fail
    refine (held1 v1 l.length _ (by omega) HS1.out).mono ?_
    rintro e w5 ⟨rfl, hb5⟩
    have s5 := hb5.size
    have B15 : Below w1.heap.size w1 w5 := B14.trans (hb5.mono (by omega))
    go_wp2_with fail
    refine (HIm2.out _ (((hb1.trans (B15.mono s1)).cell (p := ⟨0, 0, none⟩) hgm).trans HM.out)).mono ?_
    rintro e w6 ⟨v2, rfl, hb6, ho6⟩
    have s6 := hb6.size
    have B16 : Below w1.heap.size w1 w6 := B15.trans (hb6.mono (by omega))
    have HS2 : Hid (StrAt w6 v2 l) := StrAt.of_own ho6
    clear ho6
    go_wp2_with fail
    refine (eqStringS_same v2 v0 l _ (by omega) HS2.out (HS0.out.below B16)).mono ?_
    rintro e w7 ⟨rfl, hb7⟩
    have s7 := hb7.size
    have B47 : Below w4.heap.size w4 w7 := (hb5.trans (hb6.mono s5)).trans (hb7.mono (by omega))
    go_wp2_with fail
    refine (held1 v1 l.length _ (by omega) (HS1.out.below B47)).mono ?_
    rintro e w8 ⟨rfl, hb8⟩
    go_wp2
    go_ret
    exact ⟨rfl, ((hb1.trans (B14.mono s1)).trans (B47.mono (by omega))).trans (hb8.mono (by omega))⟩

theorem own_FnExactPartsOf : ownKnob Tryd.prog.godebug = none := by kernel_rfl
theorem contract_FnExactPartsOf (H : Type) (enc : TypeId × Value → H) (W : World) (base : Nat) (args : Array Value) (ds gs : List (DataW H)) (before : List MemPlace)
    (hval : ∀ (j : Nat) t v, Tryd.f3.params[j]? = some t → args[j]? = some v → Value.okWide Tryd.prog W .any base t v)
    (hW : DataW.Whole enc Tryd.prog Tryd.f3.params.toList Rows.fnExactPartsOfSpec.vars false W args.toList ds gs before) (hL : laidMetH Tryd.prog Rows.fnExactPartsOfRow.laid W) (hsh : W.ShapedOpen Tryd.prog) :
    Calls Tryd.prog 3 args W fun e W' => ∃ v, e = .returned v ∧ Rows.fnExactPartsOfSpec.post enc Tryd.prog Tryd.f3 false true false false W args v W' := by
  have hW' := hW
  obtain ⟨p, q, hA0, hV, rfl, hfz, hnd⟩ := hW
  have hA : DataW.TrodAll enc Tryd.prog W 0 (fun _ => true) true Tryd.f3.params.toList args.toList ds p := hA0
  rw [Tryd.params3] at hA hval
  obtain ⟨v0, vs0, d0, ds0, p0, q0, hargs, rfl, rfl, h0, r0⟩ := trodAll_cons hA
  obtain ⟨rfl, rfl, rfl⟩ := trodAll_nil r0
  obtain rfl : args = #[v0] := by cases args; simp_all
  obtain ⟨rfl, rfl⟩ := trodVars_none hV
  obtain ⟨a0, rfl, rfl, rfl, w0⟩ := open_string Tryd.underlying9 (hval 0 9 v0 rfl rfl) h0
  clear hA0
  simp only [List.append_nil] at hW'
  refine (walk_FnExactPartsOf a0 W w0 hL hsh).mono fun e W' ⟨he, bel⟩ => ?_
  subst he
  exact ⟨_, rfl, _, _, _, [], _, [], hW', trodAll_mk1 (shut_bool Tryd.underlying4 _), (trodAll_cons_mk (shut_string Tryd.underlying9 w0) trodAll_mk0), rfl, bel.frame _, fun h => by cases h⟩
theorem met_FnExactPartsOf (os : Os) : laidMet Tryd.prog Rows.fnExactPartsOfRow.laid ((World.laidAll Tryd.prog os Rows.fnExactPartsOfRow.laid).forCall (fun _ _ => 0) ⟨#[], #[.string ByteArray.empty], []⟩).memory :=
  laidMet_laidAll _ (by kernel_rfl) (by kernel_rfl)
theorem reads_FnExactPartsOf (os : Os) {H : Type} (enc : TypeId × Value → H) : ∃ places, DataW.whole enc Tryd.prog ((World.laidAll Tryd.prog os Rows.fnExactPartsOfRow.laid).forCall (fun _ _ => 0) ⟨#[], #[.string ByteArray.empty], []⟩).memory Tryd.f3.params.toList Rows.fnExactPartsOfSpec.vars false (#[.string ByteArray.empty] : Array Value).toList 8 = some ([.lit (.string [])], [], places) :=
  ⟨[], by kernel_rfl⟩
set_option maxRecDepth 100000 in
theorem lifted_FnExactPartsOf (os : Os) (started : os.Started) (H : Type) (enc : TypeId × Value → H) (F : Stop.Interp) :
    ReturnsInHanded {} Tryd.checked os 3 .any ((OpenSpec.ofChange Rows.fnExactPartsOfSpec).preRow enc Tryd.prog Tryd.f3 Rows.fnExactPartsOfRow.domain false Rows.fnExactPartsOfRow.laid) (((OpenSpec.ofChange Rows.fnExactPartsOfSpec).at F).post enc Tryd.prog Tryd.f3 false true false false) := by
  obtain ⟨places, hx⟩ := reads_FnExactPartsOf os enc
  refine returnsInHanded_of_row (C := Tryd.checked) (s := OpenSpec.ofChange Rows.fnExactPartsOfSpec) own_FnExactPartsOf started (by kernel_rfl) Tryd.func3
    (witness_row_at (enc := enc) (C := Tryd.checked) false (World.laidAll Tryd.prog os Rows.fnExactPartsOfRow.laid) #[.string ByteArray.empty] (World.laidAll_os _ _ _) (by kernel_rfl) (by kernel_rfl) (by kernel_rfl)
      (OpenSpec.preRow_of_cond 8 hx (by kernel_rfl) (fun k hk => by cases hk) (by kernel_rfl) (met_FnExactPartsOf os))) ?_
  intro W base args ds gs before hval hW _ _ _ hL hsh _
  exact contract_FnExactPartsOf H enc W base args ds gs before hval hW hL hsh
theorem said_FnExactPartsOf : Rows.FnExactPartsOfSaid :=
  OpenClaim.holds_of_cond 3 Tryd.f3 rfl rfl rfl rfl rfl rfl rfl ⟨rfl, rfl, rfl, rfl, rfl⟩ rfl rfl rfl rfl rfl (by kernel_rfl) Tryd.func3 (by kernel_rfl)
    (of_decide_eq_true (by kernel_rfl)) (by unfold Func.isWrapper; first | (rw [if_pos (by decide +kernel)]; kernel_rfl) | (rw [if_neg (by decide +kernel)]; exact ⟨rfl, rfl⟩))
    (fun os started H enc _ F => by rw [OpenClaim.pre_eq_preRow]; exact lifted_FnExactPartsOf os started H enc F)
theorem plain_FnExactPartsOf (f : FuncId) (fn : Func) (hf : Tryd.pinned.checked.prog.funcNamed Rows.fnExactPartsOfRow.func = some f) (hfn : Tryd.pinned.checked.prog.funcs[f]? = some fn) :
    false = Tryd.pinned.checked.prog.looks [] ∧ ∀ (j : Nat) t, fn.params[j]? = some t → Tryd.pinned.checked.prog.wantsStandIn t = false := by
  obtain rfl : f = 3 := Option.some.inj ((show Tryd.prog.funcNamed Rows.fnExactPartsOfRow.func = some 3 by kernel_rfl).symm.trans hf) |>.symm
  obtain rfl : fn = Tryd.f3 := (Option.some.inj (Tryd.func3.symm.trans hfn)).symm
  refine ⟨by kernel_rfl, fun j t ht => ?_⟩
  rw [Tryd.params3] at ht
  have hm := Array.mem_of_getElem? ht
  simp only [List.mem_toArray, List.mem_cons, List.not_mem_nil, or_false] at hm
  subst hm
  exact (show Tryd.prog.wantsStandIn 9 = false by kernel_rfl)
theorem proved_FnExactPartsOf : Rows.FnExactPartsOfCardSaid :=
  Claim7.holds_tied_plain_at .later [] _ _ _ _ said_FnExactPartsOf (fun _ h => by cases h) (by kernel_rfl) (fun _ h => by cases h) fnExactPartsOf_row_tie rfl ⟨rfl, rfl⟩ (by kernel_rfl) rfl plain_FnExactPartsOf (by kernel_rfl)
#print axioms proved_FnExactPartsOf
end Go.Proofs.YthingngbpkbmbaiDoor
