/-
  Proved: FnNames: whatever is drawn, each name is under nothing, under itself and, behind a dot, under what is above; a name under one is under it with more ahead; Allowed is under one of the permits, if there are any, and under none of the denies; NameOk, NamesOk, PoliciesOk and Under answer as the specification.
-/
import Derived.Test.YtgkdeakbokgfgaaRows
import Derived.Test.YtgkdeakbokgfgaaNmA
import Derived.Test.YtgkdeakbokgfgaaNmD
import Derived.ProofKit
import Derived.OpenShut
import Derived.ShutString
namespace Go.Proofs.Ytgkdeakbokgfgaa
open Go.ChangeShapes Go.WideShapes Go.ChangeAt Go.RowKit
open Go.ChangeMaps (open_string shut_string)
set_option linter.unusedVariables false
set_option linter.unusedSimpArgs false

theorem cat_list (a b : UInt8) (n : ByteArray) : ((⟨#[a, b]⟩ : ByteArray) ++ n).data.toList = [a] ++ b :: n.data.toList := by
  simp [ByteArray.data_append]
theorem cat_size (a b : UInt8) (n : ByteArray) (h : n.size ≤ 100) : ((⟨#[a, b]⟩ : ByteArray) ++ n).size ≤ 1000000000000 := by
  rw [ByteArray.size_append]
  have e : (⟨#[a, b]⟩ : ByteArray).size = 2 := rfl
  omega
set_option maxHeartbeats 12800000 in
set_option maxRecDepth 100000 in
theorem walk_FnNames (a0 : Option Addr) (len0 cap0 : Nat) (w : World) (h0 : len0 ≤ maxLen ∧ CodeAt w.heap.size w a0 len0) :
    Calls Try.prog 8 #[.slice a0 len0 cap0] w fun e w' => e = .returned (.bool true) ∧ Below w.heap.size w w' := by
  have hm := h0.1
  unfold maxLen at hm
  have HC : Hid (CodeAt w.heap.size w a0 len0) := h0.2
  clear h0
  by_cases big : 1048576 < len0
  · have bg : (1048576 : Int) < (len0 : Int) := by omega
    go_enter Try.func8, Try.ntmps8
    go_wp2_with (go_at_call 27; go_in)
    go_ret
    exact ⟨rfl, Below.refl _ _⟩
  have ng : ¬ (1048576 : Int) < (len0 : Int) := by omega
  go_enter Try.func8, Try.ntmps8
  go_wp2_with (go_at_call 27; go_in)
  refine (drawUnder_any w a0 len0 cap0 (by omega) w.heap.size (Nat.le_refl _) HC.out).mono ?_
  rintro e w1 ⟨n, t, hn, ht, rfl, hb1⟩
  have H1 : Hid (Below w.heap.size w w1) := hb1
  clear hb1
  go_wp2_with fail
  refine (drawAllowed_any w1 a0 len0 cap0 (by omega) w.heap.size H1.out.size (HC.out.below H1.out)).mono ?_
  rintro e w2 ⟨x, pu, pv, ps, ds, hx, rfl, hu, hv, hpl, hdl, hps, hds, hb2⟩
  obtain ⟨ao, acap, rfl, hca⟩ := hu.at
  obtain ⟨bo, bcap, rfl, hcb⟩ := hv.at
  have H2 : Hid (Below w.heap.size w w2 ∧ TxtAt w2 (.slice ao ps.length acap) ps ∧ TxtAt w2 (.slice bo ds.length bcap) ds) := ⟨H1.out.trans (hb2.mono H1.out.size), ⟨ao, acap, rfl, hca⟩, ⟨bo, bcap, rfl, hcb⟩⟩
  have HP : Hid (∀ j, j < ps.length → ∃ g, ao = some ⟨g, 0, none⟩ ∧ g < w2.heap.size ∧ w2.cell? ⟨g, j, none⟩ = some (.string (ps.getD j ByteArray.empty))) := hca
  have HD : Hid (∀ j, j < ds.length → ∃ g, bo = some ⟨g, 0, none⟩ ∧ g < w2.heap.size ∧ w2.cell? ⟨g, j, none⟩ = some (.string (ds.getD j ByteArray.empty))) := hcb
  have HS : Hid ((∀ s ∈ ps, s.size ≤ 1000000000000) ∧ ∀ s ∈ ds, s.size ≤ 1000000000000) := ⟨fun s hs => Nat.le_trans (hps s hs) (by decide), fun s hs => Nat.le_trans (hds s hs) (by decide)⟩
  clear hu hv hca hcb hps hds hb2
  obtain ⟨bz, hbz, hIz⟩ : ∃ bz : Bool, ((ps.length : Int) == 0) = bz ∧ (bz || (ps.drop 0).any (undB x)) = (decide (ps.length = 0) || undAny x ps) := ⟨_, rfl, by
    rw [List.drop_zero]
    show (((ps.length : Int) == 0) || undAny x ps) = _
    congr 1
    rw [Bool.eq_iff_iff]
    simp⟩
  have HI0 : Hid ((bz || (ps.drop 0).any (undB x)) = (decide (ps.length = 0) || undAny x ps)) := hIz
  clear hIz
  go_wp2_with fail
  go_loopw [8, 10] (fun bv iv wr => ∃ (k : Nat) (b : Bool), k ≤ ps.length ∧ bv = .bool b ∧ iv = .int .i64 k ∧ Hid ((b || (ps.drop k).any (undB x)) = (decide (ps.length = 0) || undAny x ps)) ∧ w2 = wr) (fun _ iv _ => ps.length - (intOf iv).toNat)
  case atStart => exact ⟨0, bz, Nat.zero_le _, rfl, rfl, HI0, rfl⟩
  case round =>
    obtain ⟨k, b, hk, rfl, rfl, HI, rfl⟩ := hrel
    by_cases hlt : k < ps.length
    · obtain ⟨g, hao, hg, hcx⟩ := HP.out k hlt
      have hki : (k : Int) < (ps.length : Int) := by omega
      have hk0 : (0 : Int) ≤ (k : Int) := by omega
      have hys := TxtAt.size_of HS.out.1 hlt
      have hI := HI.out
      rw [any_drop _ hlt] at hI
      generalize hy : ps.getD k ByteArray.empty = y at *
      have EC := fun w => implUnder_any x y w (by omega) hys
      subst hao
      clear HI hy HI0 hbz
      cases b with
      | true =>
        have HN : Hid ((true || (ps.drop (k + 1)).any (undB x)) = (decide (ps.length = 0) || undAny x ps)) := by rw [← hI]; rfl
        clear hI EC
        go_wp2
        go_roundw
        case rel => exact ⟨k + 1, true, by omega, rfl, by go_num, HN, by first | rfl | trivial⟩
        case measure => simp [intOf]; omega
      | false =>
        have HN : Hid ((undB x y || (ps.drop (k + 1)).any (undB x)) = (decide (ps.length = 0) || undAny x ps)) := by rw [← hI]; rfl
        clear hI
        generalize undB x y = c at *
        go_wp2_with (go_at_call 15; refine (EC _).mono ?_; rintro e w' ⟨rfl, rfl⟩)
        go_roundw
        case rel => exact ⟨k + 1, c, by omega, rfl, by go_num, HN, by first | rfl | trivial⟩
        case measure => simp [intOf]; omega
    · have hki : ¬ (k : Int) < (ps.length : Int) := by omega
      have HB1 : Hid (b = (decide (ps.length = 0) || undAny x ps)) := by
        have hI := HI.out
        rw [List.drop_eq_nil_of_le (by omega)] at hI
        show b = _
        simpa using hI
      clear HI HI0 hbz
      go_wp2_with fail
      go_loopw [9, 11] (fun bv iv wr => ∃ (k : Nat) (b : Bool), k ≤ ds.length ∧ bv = .bool b ∧ iv = .int .i64 k ∧ Hid ((b || (ds.drop k).any (undB x)) = undAny x ds) ∧ w2 = wr) (fun _ iv _ => ds.length - (intOf iv).toNat)
      case atStart => exact ⟨0, false, Nat.zero_le _, rfl, rfl, (show (false || (ds.drop 0).any (undB x)) = undAny x ds by rw [List.drop_zero]; rfl), rfl⟩
      case round =>
        obtain ⟨k2, b2, hk2, rfl, rfl, HI, rfl⟩ := hrel
        by_cases hlt2 : k2 < ds.length
        · obtain ⟨g, hao, hg, hcx⟩ := HD.out k2 hlt2
          have hki2 : (k2 : Int) < (ds.length : Int) := by omega
          have hk02 : (0 : Int) ≤ (k2 : Int) := by omega
          have hys := TxtAt.size_of HS.out.2 hlt2
          have hI := HI.out
          rw [any_drop _ hlt2] at hI
          generalize hy : ds.getD k2 ByteArray.empty = y at *
          have EC := fun w => implUnder_any x y w (by omega) hys
          subst hao
          clear HI hy
          cases b2 with
          | true =>
            have HN : Hid ((true || (ds.drop (k2 + 1)).any (undB x)) = undAny x ds) := by rw [← hI]; rfl
            clear hI EC
            go_wp2
            go_roundw
            case rel => exact ⟨k2 + 1, true, by omega, rfl, by go_num, HN, by first | rfl | trivial⟩
            case measure => simp [intOf]; omega
          | false =>
            have HN : Hid ((undB x y || (ds.drop (k2 + 1)).any (undB x)) = undAny x ds) := by rw [← hI]; rfl
            clear hI
            generalize undB x y = c at *
            go_wp2_with (go_at_call 15; refine (EC _).mono ?_; rintro e w' ⟨rfl, rfl⟩)
            go_roundw
            case rel => exact ⟨k2 + 1, c, by omega, rfl, by go_num, HN, by first | rfl | trivial⟩
            case measure => simp [intOf]; omega
        · have hki2 : ¬ (k2 : Int) < (ds.length : Int) := by omega
          have HB2 : Hid (allowed x ps ds = (b && !b2)) := by
            have hI := HI.out
            rw [List.drop_eq_nil_of_le (by omega)] at hI
            have e2 : b2 = undAny x ds := by simpa using hI
            show allowed x ps ds = _
            unfold allowed
            rw [HB1.out, e2]
          clear HI HB1
          go_wp2_with fail
          refine (drawNameOk_any w2 a0 len0 cap0 (by omega) w.heap.size H2.out.1.size (HC.out.below H2.out.1)).mono ?_
          rintro e w3 ⟨a, ha, rfl, hb3⟩
          have H3 : Hid (Below w.heap.size w w3 ∧ TxtAt w3 (.slice ao ps.length acap) ps ∧ TxtAt w3 (.slice bo ds.length bcap) ds) := ⟨H2.out.1.trans (hb3.mono H2.out.1.size), H2.out.2.1.below hb3, H2.out.2.2.below hb3⟩
          clear hb3
          go_wp2_with fail
          refine (drawNamesOk_any w3 a0 len0 cap0 (by omega) w.heap.size H3.out.1.size (HC.out.below H3.out.1)).mono ?_
          rintro e w4 ⟨lb, vb, rfl, ho4, hl4, hs4, hb4⟩
          have H4 : Hid (Below w.heap.size w w4 ∧ TxtAt w4 (.slice ao ps.length acap) ps ∧ TxtAt w4 (.slice bo ds.length bcap) ds ∧ TxtAt w4 vb lb ∧ ∀ s ∈ lb, s.size ≤ 1000000000000) := ⟨H3.out.1.trans (hb4.mono H3.out.1.size), H3.out.2.1.below hb4, H3.out.2.2.below hb4, ho4.at, fun s hs => Nat.le_trans (hs4 s hs) (by decide)⟩
          clear hb4 ho4 hs4
          go_wp2_with fail
          refine (drawPoliciesOk_any w4 a0 len0 cap0 (by omega) w.heap.size H4.out.1.size (HC.out.below H4.out.1)).mono ?_
          rintro e w5 ⟨lc, vc, rfl, ho5, hl5, hb5⟩
          have H5 : Hid (Below w.heap.size w w5 ∧ TxtAt w5 (.slice ao ps.length acap) ps ∧ TxtAt w5 (.slice bo ds.length bcap) ds ∧ TxtAt w5 vb lb ∧ (∀ s ∈ lb, s.size ≤ 1000000000000) ∧ IntAt w5 vc lc) := ⟨H4.out.1.trans (hb5.mono H4.out.1.size), H4.out.2.1.below hb5, H4.out.2.2.1.below hb5, H4.out.2.2.2.1.below hb5, H4.out.2.2.2.2, ho5.at⟩
          clear hb5 ho5 H1 H2 H3 H4
          obtain ⟨na, hna⟩ : ∃ na : ByteArray, (⟨#[97, 46]⟩ : ByteArray) ++ n = na := ⟨_, rfl⟩
          obtain ⟨nb, hnb⟩ : ∃ nb : ByteArray, (⟨#[98, 46]⟩ : ByteArray) ++ n = nb := ⟨_, rfl⟩
          have U1 : Hid (∀ W, Calls Try.prog 15 #[.string n, .string ⟨#[]⟩] W fun e w' => e = .returned (.bool true) ∧ W = w') := fun W => (implUnder_any n ⟨#[]⟩ W (by omega) (by decide)).mono (by rintro e w' ⟨rfl, rfl⟩; exact ⟨by rw [show undB n ⟨#[]⟩ = true from und_nil _], rfl⟩)
          have U2 : Hid (∀ W, Calls Try.prog 15 #[.string n, .string n] W fun e w' => e = .returned (.bool true) ∧ W = w') := fun W => (implUnder_any n n W (by omega) (by omega)).mono (by rintro e w' ⟨rfl, rfl⟩; exact ⟨by rw [show undB n n = true from und_self _], rfl⟩)
          have U3 : Hid (∀ W, Calls Try.prog 15 #[.string na, .string n] W fun e w' => e = .returned (.bool true) ∧ W = w') := fun W => by
            have hu : undB na n = true := by rw [← hna]; unfold undB; rw [cat_list]; exact und_dot [97] _
            have hs : na.size ≤ 1000000000000 := by rw [← hna]; exact cat_size _ _ _ hn
            exact (implUnder_any na n W hs (by omega)).mono (by rintro e w' ⟨rfl, rfl⟩; exact ⟨by rw [hu], rfl⟩)
          have U4 : Hid (∀ W, Calls Try.prog 15 #[.string n, .string t] W fun e w' => e = .returned (.bool (undB n t)) ∧ W = w') := fun W => implUnder_any n t W (by omega) (by omega)
          have S4 : Hid (∀ W, Calls Try.prog 14 #[.string n, .string t] W fun e w' => e = .returned (.bool (undB n t)) ∧ W = w') := fun W => specUnder_any n t W (by omega) (by omega)
          have U5 : Hid (undB n t = true → ∀ W, Calls Try.prog 15 #[.string nb, .string t] W fun e w' => e = .returned (.bool true) ∧ W = w') := fun q W => by
            have hu : undB nb t = true := by rw [← hnb]; unfold undB; rw [cat_list]; exact und_more [98] _ _ q
            have hs : nb.size ≤ 1000000000000 := by rw [← hnb]; exact cat_size _ _ _ hn
            exact (implUnder_any nb t W hs (by omega)).mono (by rintro e w' ⟨rfl, rfl⟩; exact ⟨by rw [hu], rfl⟩)
          have A1 : Hid (Calls Try.prog 26 #[.string x, .slice ao ps.length acap, .slice bo ds.length bcap] w5 fun e w' => e = .returned (.bool (b && !b2)) ∧ w5 = w') := by
            have h := implAllowed_any x _ _ ps ds w5 (by omega) (by omega) (by omega) HS.out.1 HS.out.2 H5.out.2.1 H5.out.2.2.1
            rw [HB2.out] at h
            exact h
          have N1 : Hid (∀ W, Calls Try.prog 13 #[.string a] W fun e w' => e = .returned (.bool (nameOk a)) ∧ Below W.heap.size W w') := fun W => implName_any a W (by omega)
          have N2 : Hid (∀ W, Calls Try.prog 12 #[.string a] W fun e w' => e = .returned (.bool (nameOk a)) ∧ W = w') := fun W => specName_any a W (by omega)
          have T1 : Hid (∀ W, TxtAt W vb lb → Calls Try.prog 19 #[vb] W fun e w' => e = .returned (.bool (namesOk lb)) ∧ Below W.heap.size W w') := fun W h => implTok_any vb lb W (by omega) H5.out.2.2.2.2.1 h
          have T2 : Hid (∀ W, TxtAt W vb lb → Calls Try.prog 17 #[vb] W fun e w' => e = .returned (.bool (namesOk lb)) ∧ Below W.heap.size W w') := fun W h => specTok_any vb lb W (by omega) H5.out.2.2.2.2.1 h
          have P1 : Hid (∀ W, IntAt W vc lc → Calls Try.prog 23 #[vc] W fun e w' => e = .returned (.bool (polOk lc)) ∧ Below W.heap.size W w') := fun W h => implIok_any vc lc W (by omega) h
          have P2 : Hid (∀ W, IntAt W vc lc → Calls Try.prog 21 #[vc] W fun e w' => e = .returned (.bool (polOk lc)) ∧ Below W.heap.size W w') := fun W h => specIok_any vc lc W (by omega) h
          have HNA : Hid ((⟨#[97, 46]⟩ : ByteArray) ++ n = na ∧ (⟨#[98, 46]⟩ : ByteArray) ++ n = nb) := ⟨hna, hnb⟩
          have H6 : Hid (Below w.heap.size w w5 ∧ TxtAt w5 vb lb ∧ IntAt w5 vc lc) := ⟨H5.out.1, H5.out.2.2.2.1, H5.out.2.2.2.2.2⟩
          clear HB2 H5 HP HD HS hpl hdl hl4 hl5 hk hk2 hlt hlt2 hki hki2 hx ha
          generalize undB n t = u at *
          generalize nameOk a = ra at *
          generalize namesOk lb = rb at *
          generalize polOk lc = rc at *
          cases u with
          | false =>
            cases b with
            | false =>
              go_wp2_with fail
              refine (U1.out _).mono ?_
              rintro e w' ⟨rfl, rfl⟩
              go_wp2_with fail
              refine (U2.out _).mono ?_
              rintro e w' ⟨rfl, rfl⟩
              go_wp2_with fail
              refine (U3.out _).mono ?_
              rintro e w' ⟨rfl, rfl⟩
              go_wp2_with fail
              refine (U4.out _).mono ?_
              rintro e w' ⟨rfl, rfl⟩
              go_wp2_with fail
              refine (S4.out _).mono ?_
              rintro e w' ⟨rfl, rfl⟩
              go_wp2_with fail
              refine (U4.out _).mono ?_
              rintro e w' ⟨rfl, rfl⟩
              go_wp2_with fail
              refine (A1.out).mono ?_
              rintro e w' ⟨rfl, rfl⟩
              go_wp2_with fail
              refine (N1.out _).mono ?_
              rintro e w6 ⟨rfl, hb6⟩
              have H7 : Hid (Below w.heap.size w w6 ∧ TxtAt w6 vb lb ∧ IntAt w6 vc lc) := ⟨H6.out.1.trans (hb6.mono H6.out.1.size), H6.out.2.1.below hb6, H6.out.2.2.below hb6⟩
              clear hb6 H6
              go_wp2_with fail
              refine (N2.out _).mono ?_
              rintro e w' ⟨rfl, rfl⟩
              go_wp2_with fail
              refine (T1.out _ H7.out.2.1).mono ?_
              rintro e w8 ⟨rfl, hb8⟩
              have H8 : Hid (Below w.heap.size w w8 ∧ TxtAt w8 vb lb ∧ IntAt w8 vc lc) := ⟨H7.out.1.trans (hb8.mono H7.out.1.size), H7.out.2.1.below hb8, H7.out.2.2.below hb8⟩
              clear hb8 H7
              go_wp2_with fail
              refine (T2.out _ H8.out.2.1).mono ?_
              rintro e w9 ⟨rfl, hb9⟩
              have H9 : Hid (Below w.heap.size w w9 ∧ IntAt w9 vc lc) := ⟨H8.out.1.trans (hb9.mono H8.out.1.size), H8.out.2.2.below hb9⟩
              clear hb9 H8
              go_wp2_with fail
              refine (P1.out _ H9.out.2).mono ?_
              rintro e w10 ⟨rfl, hb10⟩
              have H10 : Hid (Below w.heap.size w w10 ∧ IntAt w10 vc lc) := ⟨H9.out.1.trans (hb10.mono H9.out.1.size), H9.out.2.below hb10⟩
              clear hb10 H9
              go_wp2_with fail
              refine (P2.out _ H10.out.2).mono ?_
              rintro e w11 ⟨rfl, hb11⟩
              have H11 : Hid (Below w.heap.size w w11) := H10.out.1.trans (hb11.mono H10.out.1.size)
              clear hb11 H10
              go_wp2_with fail
              go_ret
              exact ⟨rfl, H11.out⟩
            | true =>
              go_wp2_with fail
              refine (U1.out _).mono ?_
              rintro e w' ⟨rfl, rfl⟩
              go_wp2_with fail
              refine (U2.out _).mono ?_
              rintro e w' ⟨rfl, rfl⟩
              go_wp2_with fail
              refine (U3.out _).mono ?_
              rintro e w' ⟨rfl, rfl⟩
              go_wp2_with fail
              refine (U4.out _).mono ?_
              rintro e w' ⟨rfl, rfl⟩
              go_wp2_with fail
              refine (S4.out _).mono ?_
              rintro e w' ⟨rfl, rfl⟩
              go_wp2_with fail
              refine (U4.out _).mono ?_
              rintro e w' ⟨rfl, rfl⟩
              go_wp2_with fail
              refine (A1.out).mono ?_
              rintro e w' ⟨rfl, rfl⟩
              go_wp2_with fail
              refine (N1.out _).mono ?_
              rintro e w6 ⟨rfl, hb6⟩
              have H7 : Hid (Below w.heap.size w w6 ∧ TxtAt w6 vb lb ∧ IntAt w6 vc lc) := ⟨H6.out.1.trans (hb6.mono H6.out.1.size), H6.out.2.1.below hb6, H6.out.2.2.below hb6⟩
              clear hb6 H6
              go_wp2_with fail
              refine (N2.out _).mono ?_
              rintro e w' ⟨rfl, rfl⟩
              go_wp2_with fail
              refine (T1.out _ H7.out.2.1).mono ?_
              rintro e w8 ⟨rfl, hb8⟩
              have H8 : Hid (Below w.heap.size w w8 ∧ TxtAt w8 vb lb ∧ IntAt w8 vc lc) := ⟨H7.out.1.trans (hb8.mono H7.out.1.size), H7.out.2.1.below hb8, H7.out.2.2.below hb8⟩
              clear hb8 H7
              go_wp2_with fail
              refine (T2.out _ H8.out.2.1).mono ?_
              rintro e w9 ⟨rfl, hb9⟩
              have H9 : Hid (Below w.heap.size w w9 ∧ IntAt w9 vc lc) := ⟨H8.out.1.trans (hb9.mono H8.out.1.size), H8.out.2.2.below hb9⟩
              clear hb9 H8
              go_wp2_with fail
              refine (P1.out _ H9.out.2).mono ?_
              rintro e w10 ⟨rfl, hb10⟩
              have H10 : Hid (Below w.heap.size w w10 ∧ IntAt w10 vc lc) := ⟨H9.out.1.trans (hb10.mono H9.out.1.size), H9.out.2.below hb10⟩
              clear hb10 H9
              go_wp2_with fail
              refine (P2.out _ H10.out.2).mono ?_
              rintro e w11 ⟨rfl, hb11⟩
              have H11 : Hid (Below w.heap.size w w11) := H10.out.1.trans (hb11.mono H10.out.1.size)
              clear hb11 H10
              go_wp2_with fail
              go_ret
              exact ⟨rfl, H11.out⟩
          | true =>
            cases b with
            | false =>
              go_wp2_with fail
              refine (U1.out _).mono ?_
              rintro e w' ⟨rfl, rfl⟩
              go_wp2_with fail
              refine (U2.out _).mono ?_
              rintro e w' ⟨rfl, rfl⟩
              go_wp2_with fail
              refine (U3.out _).mono ?_
              rintro e w' ⟨rfl, rfl⟩
              go_wp2_with fail
              refine (U4.out _).mono ?_
              rintro e w' ⟨rfl, rfl⟩
              go_wp2_with fail
              refine (S4.out _).mono ?_
              rintro e w' ⟨rfl, rfl⟩
              go_wp2_with fail
              refine (U4.out _).mono ?_
              rintro e w' ⟨rfl, rfl⟩
              go_wp2_with fail
              refine (U5.out (by first | rfl | trivial) _).mono ?_
              rintro e w' ⟨rfl, rfl⟩
              go_wp2_with fail
              refine (A1.out).mono ?_
              rintro e w' ⟨rfl, rfl⟩
              go_wp2_with fail
              refine (N1.out _).mono ?_
              rintro e w6 ⟨rfl, hb6⟩
              have H7 : Hid (Below w.heap.size w w6 ∧ TxtAt w6 vb lb ∧ IntAt w6 vc lc) := ⟨H6.out.1.trans (hb6.mono H6.out.1.size), H6.out.2.1.below hb6, H6.out.2.2.below hb6⟩
              clear hb6 H6
              go_wp2_with fail
              refine (N2.out _).mono ?_
              rintro e w' ⟨rfl, rfl⟩
              go_wp2_with fail
              refine (T1.out _ H7.out.2.1).mono ?_
              rintro e w8 ⟨rfl, hb8⟩
              have H8 : Hid (Below w.heap.size w w8 ∧ TxtAt w8 vb lb ∧ IntAt w8 vc lc) := ⟨H7.out.1.trans (hb8.mono H7.out.1.size), H7.out.2.1.below hb8, H7.out.2.2.below hb8⟩
              clear hb8 H7
              go_wp2_with fail
              refine (T2.out _ H8.out.2.1).mono ?_
              rintro e w9 ⟨rfl, hb9⟩
              have H9 : Hid (Below w.heap.size w w9 ∧ IntAt w9 vc lc) := ⟨H8.out.1.trans (hb9.mono H8.out.1.size), H8.out.2.2.below hb9⟩
              clear hb9 H8
              go_wp2_with fail
              refine (P1.out _ H9.out.2).mono ?_
              rintro e w10 ⟨rfl, hb10⟩
              have H10 : Hid (Below w.heap.size w w10 ∧ IntAt w10 vc lc) := ⟨H9.out.1.trans (hb10.mono H9.out.1.size), H9.out.2.below hb10⟩
              clear hb10 H9
              go_wp2_with fail
              refine (P2.out _ H10.out.2).mono ?_
              rintro e w11 ⟨rfl, hb11⟩
              have H11 : Hid (Below w.heap.size w w11) := H10.out.1.trans (hb11.mono H10.out.1.size)
              clear hb11 H10
              go_wp2_with fail
              go_ret
              exact ⟨rfl, H11.out⟩
            | true =>
              go_wp2_with fail
              refine (U1.out _).mono ?_
              rintro e w' ⟨rfl, rfl⟩
              go_wp2_with fail
              refine (U2.out _).mono ?_
              rintro e w' ⟨rfl, rfl⟩
              go_wp2_with fail
              refine (U3.out _).mono ?_
              rintro e w' ⟨rfl, rfl⟩
              go_wp2_with fail
              refine (U4.out _).mono ?_
              rintro e w' ⟨rfl, rfl⟩
              go_wp2_with fail
              refine (S4.out _).mono ?_
              rintro e w' ⟨rfl, rfl⟩
              go_wp2_with fail
              refine (U4.out _).mono ?_
              rintro e w' ⟨rfl, rfl⟩
              go_wp2_with fail
              refine (U5.out (by first | rfl | trivial) _).mono ?_
              rintro e w' ⟨rfl, rfl⟩
              go_wp2_with fail
              refine (A1.out).mono ?_
              rintro e w' ⟨rfl, rfl⟩
              go_wp2_with fail
              refine (N1.out _).mono ?_
              rintro e w6 ⟨rfl, hb6⟩
              have H7 : Hid (Below w.heap.size w w6 ∧ TxtAt w6 vb lb ∧ IntAt w6 vc lc) := ⟨H6.out.1.trans (hb6.mono H6.out.1.size), H6.out.2.1.below hb6, H6.out.2.2.below hb6⟩
              clear hb6 H6
              go_wp2_with fail
              refine (N2.out _).mono ?_
              rintro e w' ⟨rfl, rfl⟩
              go_wp2_with fail
              refine (T1.out _ H7.out.2.1).mono ?_
              rintro e w8 ⟨rfl, hb8⟩
              have H8 : Hid (Below w.heap.size w w8 ∧ TxtAt w8 vb lb ∧ IntAt w8 vc lc) := ⟨H7.out.1.trans (hb8.mono H7.out.1.size), H7.out.2.1.below hb8, H7.out.2.2.below hb8⟩
              clear hb8 H7
              go_wp2_with fail
              refine (T2.out _ H8.out.2.1).mono ?_
              rintro e w9 ⟨rfl, hb9⟩
              have H9 : Hid (Below w.heap.size w w9 ∧ IntAt w9 vc lc) := ⟨H8.out.1.trans (hb9.mono H8.out.1.size), H8.out.2.2.below hb9⟩
              clear hb9 H8
              go_wp2_with fail
              refine (P1.out _ H9.out.2).mono ?_
              rintro e w10 ⟨rfl, hb10⟩
              have H10 : Hid (Below w.heap.size w w10 ∧ IntAt w10 vc lc) := ⟨H9.out.1.trans (hb10.mono H9.out.1.size), H9.out.2.below hb10⟩
              clear hb10 H9
              go_wp2_with fail
              refine (P2.out _ H10.out.2).mono ?_
              rintro e w11 ⟨rfl, hb11⟩
              have H11 : Hid (Below w.heap.size w w11) := H10.out.1.trans (hb11.mono H10.out.1.size)
              clear hb11 H10
              go_wp2_with fail
              go_ret
              exact ⟨rfl, H11.out⟩

theorem laidOut_FnNames : laidOutB Try.prog = true := by kernel_rfl
theorem own_FnNames : ownKnob Try.prog.godebug = none := by kernel_rfl
set_option maxRecDepth 100000 in
theorem lifted_FnNames (os : Os) (started : os.Started) (H : Type) (enc : TypeId × Value → H) :
    ReturnsInHanded {} Try.checked os 8 .any (Rows.fnNamesSpec.pre6 enc Try.prog Try.f8 Rows.fnNamesRow.domain false) (Rows.fnNamesSpec.post enc Try.prog Try.f8 false true false false) := by
  refine returnsInHanded_of_change (C := Try.checked) own_FnNames started (by kernel_rfl) Try.func8
    (ChangeSpec.witness6 (enc := enc) (C := Try.checked) false ⟨#[], #[.slice none 0 0], []⟩ 8 (by kernel_rfl) (by kernel_rfl) (by kernel_rfl) (by kernel_rfl)) ?_
  intro W base args ds gs before hval0 hW hcnd _
  have hval : ∀ (j : Nat) t v, Try.f8.params[j]? = some t → args[j]? = some v → Value.okWide Try.prog W .any base t v := hval0
  have hW' := hW
  obtain ⟨p, q, hA0, hV, rfl, hfz, hnd⟩ := hW
  have hA : DataW.TrodAll enc Try.prog W 0 (fun _ => true) true Try.f8.params.toList args.toList ds p := hA0
  rw [Try.params8] at hA hval
  obtain ⟨v0, vs0, d0, ds0, p0, q0, hargs, rfl, rfl, h0, r0⟩ := trodAll_cons hA
  obtain ⟨rfl, rfl, rfl⟩ := trodAll_nil r0
  obtain rfl : args = #[v0] := by cases args; simp_all
  obtain ⟨rfl, rfl⟩ := trodVars_none hV
  obtain ⟨a0, len0, cap0, rfl⟩ := okWide_slice Try.underlying34 (hval 0 34 v0 rfl rfl)
  have k0 := h0
  have lt0 : ∀ x ∈ p0, x.block < W.heap.size := by obtain ⟨m, hm⟩ := k0; exact DataW.trod_lt m _ _ _ hm
  have w0 : len0 ≤ maxLen ∧ CodeAt W.heap.size W a0 len0 := by
    obtain ⟨fuel, hf⟩ := h0
    rcases open_ints Try.underlying34 Try.underlying5 (by kernel_rfl) hf with ⟨hcs, _⟩ | ⟨x, l, c, zs, hcs, _, hl, hm, hz, _, hcell, hwz⟩
    · simp [Value.cells] at hcs
      obtain ⟨rfl, rfl, rfl⟩ := hcs
      exact ⟨Nat.zero_le _, fun j hj => absurd hj (Nat.not_lt_zero _)⟩
    · simp [Value.cells] at hcs
      obtain ⟨rfl, rfl, rfl⟩ := hcs
      exact ⟨Nat.le_trans hl hm, codeAt_of hl (by simpa using hz) hcell hwz⟩
  clear hA0 hval0
  simp only [List.append_nil] at hW'
  refine (walk_FnNames a0 len0 cap0 W w0).mono fun e W' ⟨he, bel⟩ => ?_
  subst he
  exact ⟨_, rfl, _, _, _, [], _, [], hW', trodAll_mk1 (shut_bool Try.underlying4 _), (trodAll_cons_mk (Below.trod laidOut_FnNames (by kernel_rfl) (of_decide_eq_true (by kernel_rfl)) k0 bel lt0) trodAll_mk0), rfl, bel.frame _, fun h => by cases h⟩
theorem over_FnNames : Rows.fnNamesRow.holds Try.pinned (OpenSpec.ofChange Rows.fnNamesSpec) :=
  OpenClaim.holds_of_wide 8 Try.f8 rfl rfl rfl rfl rfl rfl rfl ⟨rfl, rfl, rfl, rfl, rfl⟩ rfl rfl rfl rfl rfl (by kernel_rfl) Try.func8 (by kernel_rfl)
    (of_decide_eq_true (by kernel_rfl)) (by unfold Func.isWrapper; first | (rw [if_pos (by decide +kernel)]; kernel_rfl) | (rw [if_neg (by decide +kernel)]; exact ⟨rfl, rfl⟩))
    (fun os started H enc _ => lifted_FnNames os started H enc)
theorem proved_FnNames : Rows.FnNamesSaid := over_FnNames
#print axioms proved_FnNames
end Go.Proofs.Ytgkdeakbokgfgaa
