/-
  Proves FnDigestTurnedCardSaid: whatever is drawn, the program's Digest of a text, and of it with one byte turned, is the specification's; CutDigest is its beginning; PadText of the two is not the same; the two tables of the program are tied by the given tie.
-/
import Derived.Test.YtdefiiadnofdpaaDoorCards
import Derived.Test.YtdefiiadnofdpaaDoorTie
import Derived.Test.YtdefiiadnofdpaaDoorCutI
import Derived.Test.YtdefiiadnofdpaaDoorDrawX
import Derived.ProofKit
import Derived.OpenShut
import Derived.ShutString
import Derived.OpenVars
import Derived.Deep.DeepHandedRow
import Derived.LaidSub
import Derived.Lay
import Derived.ChangeOld
namespace Go.Proofs.YtdefiiadnofdpaaDoor
open Go.ChangeShapes Go.WideShapes Go.ChangeAt Go.RowKit
open Go.ChangeMaps (open_string shut_string)
set_option linter.unusedVariables false

theorem list_FnDigestTurned : Rows.fnDigestTurnedRow.laid = [("loop.example/g00394/impl.roundNumbers", Lib.tabData .u32 (keysN.map fun n => ((n : Nat) : Int))), ("loop.example/g00394/impl.startNumbers", Lib.tabData .u32 firstI)] := by kernel_rfl
theorem belowG {a b c : World} (h : Below a.heap.size a b) (k : Below b.heap.size b c) : Below a.heap.size a c := h.trans (k.mono h.size)
theorem dhB_size (s : ByteArray) : (dhB s).size = 64 := by
  show (hexL (digL s.data.toList)).toArray.size = 64
  rw [List.size_toArray]
  rfl
/-- What is padded of unlike texts of one length is not the same. -/
theorem padB_ne {s u : ByteArray} (hs : u.size = s.size) (h : u ≠ s) : padB s ≠ padB u := fun e => h (by
  have h1 : padL s.data.toList = padL u.data.toList := by
    have := congrArg (fun x : ByteArray => x.data.toList) e
    simpa [padB] using this
  unfold padL at h1
  have hl : s.data.toList.length = u.data.toList.length := by rw [size_listX, size_listX, hs]
  have h2 := (List.append_inj h1 hl).1
  apply ByteArray.ext
  apply Array.ext'
  exact h2.symm)

set_option maxHeartbeats 3200000 in
set_option maxRecDepth 100000 in
theorem walk_FnDigestTurned (a0 : Option Addr) (len cap : Nat) (w : World) (h0 : len ≤ maxLen ∧ CodeAt w.heap.size w a0 len) (hL : laidMetH Tryd.prog Rows.fnDigestTurnedRow.laid w) :
    Calls Tryd.prog 4 #[.slice a0 len cap] w fun e w' => e = .returned (.bool true) ∧ Below w.heap.size w w' := by
  have hTT : KeysOk w ∧ StartOk w := tables_of (by rw [list_FnDigestTurned] at hL; exact hL)
  have HK : Hid (∀ w', Below w.heap.size w w' → KeysOk w' ∧ StartOk w') := fun w' hb => ⟨keysBelow hTT.1 _ hb, startBelow hTT.2 _ hb⟩
  clear hL hTT
  have hm := h0.1
  unfold maxLen at hm
  have HC : Hid (CodeAt w.heap.size w a0 len) := h0.2
  clear h0
  by_cases big : 1048576 < len
  · have bg : (1048576 : Int) < (len : Int) := by omega
    go_enter Tryd.func4, Tryd.ntmps4
    go_wp2_with (go_at_call 6; go_in)
    go_ret
    exact ⟨rfl, Below.refl _ _⟩
  have ng : ¬ (1048576 : Int) < (len : Int) := by omega
  go_enter Tryd.func4, Tryd.ntmps4
  go_wp2_with (go_at_call 6; go_in)
  refine (drawTextOf_any w.heap.size w a0 len cap (by omega) (Nat.le_refl _) HC.out).mono ?_
  rintro e w1 ⟨s, rfl, hs, hb1⟩
  have HB1 : Hid (Below w.heap.size w w1) := hb1
  clear hb1
  go_wp2_with fail
  generalize hT : s ++ (⟨#[120]⟩ : ByteArray) = T
  have hTs : T.size = s.size + 1 := by rw [← hT, ByteArray.size_append]; rfl
  clear hT
  have hT0 : 0 < T.size := by omega
  have hT1 : T.size ≤ 5001 := by omega
  clear hTs hs
  refine (drawPlaces_any w.heap.size w1 a0 len cap (by omega) HB1.out.size (HC.out.below HB1.out)).mono ?_
  rintro e w2 ⟨g, cp, zs, rfl, hg0, hg1, hzl, hzb, hzc, hb2⟩
  have HB2 : Hid (Below w.heap.size w w2) := belowG HB1.out hb2
  obtain ⟨z0, e0⟩ : ∃ z0, zs[0] = z0 := ⟨_, rfl⟩
  obtain ⟨z1, e1⟩ : ∃ z1, zs[1] = z1 := ⟨_, rfl⟩
  obtain ⟨z2, e2⟩ : ∃ z2, zs[2] = z2 := ⟨_, rfl⟩
  have b0 := hzb _ (List.getElem_mem (show 0 < zs.length by omega))
  have b1 := hzb _ (List.getElem_mem (show 1 < zs.length by omega))
  have b2 := hzb _ (List.getElem_mem (show 2 < zs.length by omega))
  have c0 := hzc 0 (by omega)
  have c1 := hzc 1 (by omega)
  have c2 := hzc 2 (by omega)
  rw [e0] at b0 c0
  rw [e1] at b1 c1
  rw [e2] at b2 c2
  have E := lturned_any T g cp z0 z1 w2 hT0 (by omega) hg1 c0 c1 b0 b1
  have HG : Hid (g < w2.heap.size ∧ w2.cell? ⟨g, 2, none⟩ = some (.int .i64 z2)) := ⟨hg1, c2⟩
  clear hzb hzc e0 e1 e2 c0 c1 c2 hg0 hg1 hzl hb2 HB1 b0 b1
  go_wp2_with fail
  refine E.mono ?_
  rintro e w3 ⟨u, rfl, hu1, hu2, hb3⟩
  have HB3 : Hid (Below w.heap.size w w3) := belowG HB2.out hb3
  have hc2 : w3.cell? ⟨g, 2, none⟩ = some (.int .i64 z2) := (hb3.cell (p := ⟨g, 2, none⟩) HG.out.1).trans HG.out.2
  have HNE : Hid (padB T ≠ padB u) := padB_ne hu1 hu2
  have hus : u.size ≤ 5001 := by omega
  obtain ⟨m, hmm⟩ := Int.eq_ofNat_of_zero_le (show (0 : Int) ≤ z2 % 32 by omega)
  have hq : z2.tmod 32 = (m : Int) := by rw [Int.tmod_eq_emod_of_nonneg b2.1, hmm]
  have hm31 : m ≤ 31 := by omega
  obtain ⟨k, hk⟩ : ∃ k : Nat, 1 + (m : Int) = (k : Int) := ⟨m + 1, by omega⟩
  have hk1 : 1 ≤ k := by omega
  have hk2 : k ≤ 32 := by omega
  clear E hb3 HG HB2 hu1 hu2 hmm b2
  have DT := fun (X : World) (h : Below w.heap.size w X) => implDigest_any T X (by omega) (HK.out X h).1 (HK.out X h).2
  have ST := fun (X : World) => specDigest_any T X (by omega)
  have DU := fun (X : World) (h : Below w.heap.size w X) => implDigest_any u X (by omega) (HK.out X h).1 (HK.out X h).2
  have SU := fun (X : World) => specDigest_any u X (by omega)
  have CT := fun (n : Int) (X : World) (h : Below w.heap.size w X) => implCut_any T n X (by omega) (HK.out X h).1 (HK.out X h).2
  have HXU := fun (X : World) (h : Below w.heap.size w X) => implDigestHex_any u X (by omega) (HK.out X h).1 (HK.out X h).2
  have PT := fun (X : World) => implPad_any T X (by omega)
  have PU := fun (X : World) => implPad_any u X (by omega)
  have HCT : Hid (cutB T (k : Int) = (digB T).extract 0 k ∧ cutB T 0 = ⟨#[]⟩ ∧ cutB T 33 = ⟨#[]⟩) := ⟨cutB_yes (by omega), cutB_no (by omega), cutB_no (by omega)⟩
  have CT1 : ∀ X, Below w.heap.size w X → _ := CT k
  have CT2 : ∀ X, Below w.heap.size w X → _ := CT 0
  have CT3 : ∀ X, Below w.heap.size w X → _ := CT 33
  rw [HCT.out.1] at CT1
  rw [HCT.out.2.1] at CT2
  rw [HCT.out.2.2] at CT3
  have hds := digB_size T
  have hxs := dhB_size u
  generalize digB T = dT at *
  generalize digB u = dU at *
  generalize dhB u = xU at *
  generalize padB T = pT at *
  generalize padB u = pU at *
  have HALL : Hid ((∀ X, Below w.heap.size w X → Calls Tryd.prog 12 #[.string T] X fun e w' => e = .returned (.string dT) ∧ Below X.heap.size X w') ∧ (∀ X, Calls Tryd.prog 13 #[.string T] X fun e w' => e = .returned (.string dT) ∧ Below X.heap.size X w') ∧ (∀ X, Below w.heap.size w X → Calls Tryd.prog 12 #[.string u] X fun e w' => e = .returned (.string dU) ∧ Below X.heap.size X w') ∧ (∀ X, Calls Tryd.prog 13 #[.string u] X fun e w' => e = .returned (.string dU) ∧ Below X.heap.size X w') ∧ (∀ X, Below w.heap.size w X → Calls Tryd.prog 14 #[.string T, .int .i64 (k : Int)] X fun e w' => e = .returned (.string (dT.extract 0 k)) ∧ Below X.heap.size X w') ∧ (∀ X, Below w.heap.size w X → Calls Tryd.prog 14 #[.string T, .int .i64 0] X fun e w' => e = .returned (.string ⟨#[]⟩) ∧ Below X.heap.size X w') ∧ (∀ X, Below w.heap.size w X → Calls Tryd.prog 14 #[.string T, .int .i64 33] X fun e w' => e = .returned (.string ⟨#[]⟩) ∧ Below X.heap.size X w') ∧ (∀ X, Below w.heap.size w X → Calls Tryd.prog 19 #[.string u] X fun e w' => e = .returned (.string xU) ∧ Below X.heap.size X w') ∧ (∀ X, Calls Tryd.prog 8 #[.string T] X fun e w' => e = .returned (.string pT) ∧ Below X.heap.size X w') ∧ (∀ X, Calls Tryd.prog 8 #[.string u] X fun e w' => e = .returned (.string pU) ∧ Below X.heap.size X w')) := ⟨DT, ST, DU, SU, CT1, CT2, CT3, HXU, PT, PU⟩
  clear DT ST DU SU CT CT1 CT2 CT3 HXU PT PU HCT HC
  go_wp2_with fail
  refine (HALL.out.1 w3 HB3.out).mono ?_
  rintro e w4 ⟨rfl, hb⟩
  have HB4 : Hid (Below w.heap.size w w4) := belowG HB3.out hb
  clear hb hc2 hq
  go_wp2_with fail
  refine (HALL.out.2.1 w4).mono ?_
  rintro e w5 ⟨rfl, hb⟩
  have HB5 : Hid (Below w.heap.size w w5) := belowG HB4.out hb
  clear hb
  go_wp2_with fail
  refine (HALL.out.2.2.1 w5 HB5.out).mono ?_
  rintro e w6 ⟨rfl, hb⟩
  have HB6 : Hid (Below w.heap.size w w6) := belowG HB5.out hb
  clear hb
  go_wp2_with fail
  refine (HALL.out.2.2.2.1 w6).mono ?_
  rintro e w7 ⟨rfl, hb⟩
  have HB7 : Hid (Below w.heap.size w w7) := belowG HB6.out hb
  clear hb
  go_wp2_with fail
  refine (HALL.out.2.2.2.2.1 w7 HB7.out).mono ?_
  rintro e w8 ⟨rfl, hb⟩
  have HB8 : Hid (Below w.heap.size w w8) := belowG HB7.out hb
  clear hb
  go_wp2_with fail
  refine (HALL.out.1 w8 HB8.out).mono ?_
  rintro e w9 ⟨rfl, hb⟩
  have HB9 : Hid (Below w.heap.size w w9) := belowG HB8.out hb
  clear hb
  go_wp2_with fail
  refine (HALL.out.2.2.2.2.2.1 w9 HB9.out).mono ?_
  rintro e w10 ⟨rfl, hb⟩
  have HB10 : Hid (Below w.heap.size w w10) := belowG HB9.out hb
  clear hb
  go_wp2_with fail
  refine (HALL.out.2.2.2.2.2.2.1 w10 HB10.out).mono ?_
  rintro e w11 ⟨rfl, hb⟩
  have HB11 : Hid (Below w.heap.size w w11) := belowG HB10.out hb
  clear hb
  go_wp2_with fail
  refine (HALL.out.2.2.2.2.2.2.2.1 w11 HB11.out).mono ?_
  rintro e w12 ⟨rfl, hb⟩
  have HB12 : Hid (Below w.heap.size w w12) := belowG HB11.out hb
  clear hb
  go_wp2_with fail
  refine (HALL.out.2.2.2.2.2.2.2.2.1 w12).mono ?_
  rintro e w13 ⟨rfl, hb⟩
  have HB13 : Hid (Below w.heap.size w w13) := belowG HB12.out hb
  clear hb
  go_wp2_with fail
  refine (HALL.out.2.2.2.2.2.2.2.2.2 w13).mono ?_
  rintro e w14 ⟨rfl, hb⟩
  have HB14 : Hid (Below w.heap.size w w14) := belowG HB13.out hb
  clear hb
  have HEQ : Hid ((!(pT.toList == pU.toList)) = true) := by
    show (!(pT.toList == pU.toList)) = true
    rw [ByteArray.toList_eq, ByteArray.toList_eq, Bool.not_eq_true', beq_eq_false_iff_ne]
    exact fun h => HNE.out (by apply ByteArray.ext; apply Array.ext'; exact h)
  go_wp2_with fail
  go_ret
  exact ⟨congrArg (fun z => Ending.returned (Value.bool z)) HEQ.out, HB14.out⟩

theorem laidOut_FnDigestTurned : laidOutB Tryd.prog = true := by kernel_rfl
theorem own_FnDigestTurned : ownKnob Tryd.prog.godebug = none := by kernel_rfl
theorem contract_FnDigestTurned (H : Type) (enc : TypeId × Value → H) (W : World) (base : Nat) (args : Array Value) (ds gs : List (DataW H)) (before : List MemPlace)
    (hval : ∀ (j : Nat) t v, Tryd.f4.params[j]? = some t → args[j]? = some v → Value.okWide Tryd.prog W .any base t v)
    (hW : DataW.Whole enc Tryd.prog Tryd.f4.params.toList Rows.fnDigestTurnedSpec.vars false W args.toList ds gs before) (hL : laidMetH Tryd.prog Rows.fnDigestTurnedRow.laid W) :
    Calls Tryd.prog 4 args W fun e W' => ∃ v, e = .returned v ∧ Rows.fnDigestTurnedSpec.post enc Tryd.prog Tryd.f4 false true false false W args v W' := by
  have hW' := hW
  obtain ⟨p, q, hA0, hV, rfl, hfz, hnd⟩ := hW
  have hA : DataW.TrodAll enc Tryd.prog W 0 (fun _ => true) true Tryd.f4.params.toList args.toList ds p := hA0
  rw [Tryd.params4] at hA hval
  obtain ⟨v0, vs0, d0, ds0, p0, q0, hargs, rfl, rfl, h0, r0⟩ := trodAll_cons hA
  obtain ⟨rfl, rfl, rfl⟩ := trodAll_nil r0
  obtain rfl : args = #[v0] := by cases args; simp_all
  have hV1 : DataW.TrodVars enc Tryd.prog W (fun _ => true) Rows.fnDigestTurnedSpec.vars gs q := hV
  obtain ⟨_, _, _, _, g1, _, _, _, _, _, g2, _, rfl, _⟩ := trodVars_two hV1
  obtain ⟨a0, len0, cap0, rfl⟩ := okWide_slice Tryd.underlying22 (hval 0 22 v0 rfl rfl)
  have k0 := h0
  have lt0 : ∀ x ∈ p0, x.block < W.heap.size := by obtain ⟨m, hm⟩ := k0; exact DataW.trod_lt m _ _ _ hm
  have w0 : len0 ≤ maxLen ∧ CodeAt W.heap.size W a0 len0 := by
    obtain ⟨fuel, hf⟩ := h0
    rcases open_ints Tryd.underlying22 Tryd.underlying5 (by kernel_rfl) hf with ⟨hcs, _⟩ | ⟨x, l, c, zs, hcs, _, hl, hm, hz, _, hcell, hwz⟩
    · simp [Value.cells] at hcs
      obtain ⟨rfl, rfl, rfl⟩ := hcs
      exact ⟨Nat.zero_le _, fun j hj => absurd hj (Nat.not_lt_zero _)⟩
    · simp [Value.cells] at hcs
      obtain ⟨rfl, rfl, rfl⟩ := hcs
      exact ⟨Nat.le_trans hl hm, codeAt_of hl (by simpa using hz) hcell hwz⟩
  clear hA0
  simp only [List.append_nil] at hW'
  refine (walk_FnDigestTurned a0 len0 cap0 W w0 hL).mono fun e W' ⟨he, bel⟩ => ?_
  subst he
  exact ⟨_, rfl, _, _, _, [], _, _, hW', trodAll_mk1 (shut_bool Tryd.underlying4 _), (trodAll_cons_mk (Below.trod laidOut_FnDigestTurned (by kernel_rfl) (of_decide_eq_true (by kernel_rfl)) k0 bel lt0) trodAll_mk0), Below.trodVars laidOut_FnDigestTurned bel (by kernel_rfl) hV, bel.frame _, fun h => by cases h⟩
theorem met_FnDigestTurned (os : Os) : laidMet Tryd.prog Rows.fnDigestTurnedRow.laid ((World.laidAll Tryd.prog os Rows.fnDigestTurnedRow.laid).forCall (fun _ _ => 0) ⟨#[], #[.slice none 0 0], []⟩).memory :=
  laidMet_laidAll _ (by kernel_rfl) (by kernel_rfl)
theorem reads_FnDigestTurned (os : Os) {H : Type} (enc : TypeId × Value → H) : (DataW.whole enc Tryd.prog ((World.laidAll Tryd.prog os Rows.fnDigestTurnedRow.laid).forCall (fun _ _ => 0) ⟨#[], #[.slice none 0 0], []⟩).memory Tryd.f4.params.toList Rows.fnDigestTurnedSpec.vars false (#[.slice none 0 0] : Array Value).toList 8).isSome = true := by kernel_rfl
set_option maxRecDepth 100000 in
theorem lifted_FnDigestTurned (os : Os) (started : os.Started) (H : Type) (enc : TypeId × Value → H) (F : Stop.Interp) :
    ReturnsInHanded {} Tryd.checked os 4 .any ((OpenSpec.ofChange Rows.fnDigestTurnedSpec).preRow enc Tryd.prog Tryd.f4 Rows.fnDigestTurnedRow.domain false Rows.fnDigestTurnedRow.laid) (((OpenSpec.ofChange Rows.fnDigestTurnedSpec).at F).post enc Tryd.prog Tryd.f4 false true false false) := by
  obtain ⟨x, hx⟩ := Option.isSome_iff_exists.1 (reads_FnDigestTurned os enc)
  refine returnsInHanded_of_row (C := Tryd.checked) (s := OpenSpec.ofChange Rows.fnDigestTurnedSpec) own_FnDigestTurned started (by kernel_rfl) Tryd.func4
    (witness_row_at (enc := enc) (C := Tryd.checked) false (World.laidAll Tryd.prog os Rows.fnDigestTurnedRow.laid) #[.slice none 0 0] (World.laidAll_os _ _ _) (by kernel_rfl) (by kernel_rfl) (by kernel_rfl)
      (OpenSpec.preRow_of_cond 8 hx rfl (fun k hk => by cases hk) (by kernel_rfl) (met_FnDigestTurned os))) ?_
  intro W base args ds gs before hval hW _ _ _ hL _ _
  exact contract_FnDigestTurned H enc W base args ds gs before hval hW hL
theorem said_FnDigestTurned : Rows.FnDigestTurnedSaid :=
  OpenClaim.holds_of_cond 4 Tryd.f4 rfl rfl rfl rfl rfl rfl rfl ⟨rfl, rfl, rfl, rfl, rfl⟩ rfl rfl rfl rfl rfl (by kernel_rfl) Tryd.func4 (by kernel_rfl)
    (of_decide_eq_true (by kernel_rfl)) (by unfold Func.isWrapper; first | (rw [if_pos (by decide +kernel)]; kernel_rfl) | (rw [if_neg (by decide +kernel)]; exact ⟨rfl, rfl⟩))
    (fun os started H enc _ F => by rw [OpenClaim.pre_eq_preRow]; exact lifted_FnDigestTurned os started H enc F)
theorem plain_FnDigestTurned (f : FuncId) (fn : Func) (hf : Tryd.pinned.checked.prog.funcNamed Rows.fnDigestTurnedRow.func = some f) (hfn : Tryd.pinned.checked.prog.funcs[f]? = some fn) :
    false = Tryd.pinned.checked.prog.looks [] ∧ ∀ (j : Nat) t, fn.params[j]? = some t → Tryd.pinned.checked.prog.wantsStandIn t = false := by
  obtain rfl : f = 4 := Option.some.inj ((show Tryd.prog.funcNamed Rows.fnDigestTurnedRow.func = some 4 by kernel_rfl).symm.trans hf) |>.symm
  obtain rfl : fn = Tryd.f4 := (Option.some.inj (Tryd.func4.symm.trans hfn)).symm
  refine ⟨by kernel_rfl, fun j t ht => ?_⟩
  rw [Tryd.params4] at ht
  have hm := Array.mem_of_getElem? ht
  simp only [List.mem_toArray, List.mem_cons, List.not_mem_nil, or_false] at hm
  subst hm
  exact (show Tryd.prog.wantsStandIn 22 = false by kernel_rfl)
theorem proved_FnDigestTurned : Rows.FnDigestTurnedCardSaid :=
  Claim7.holds_tied_plain_at .later [] _ _ _ _ said_FnDigestTurned (fun _ h => by cases h) (by kernel_rfl) (fun _ h => by cases h) fnDigestTurned_row_tie rfl ⟨rfl, rfl⟩ (by kernel_rfl) rfl plain_FnDigestTurned (by kernel_rfl)
#print axioms proved_FnDigestTurned
end Go.Proofs.YtdefiiadnofdpaaDoor
