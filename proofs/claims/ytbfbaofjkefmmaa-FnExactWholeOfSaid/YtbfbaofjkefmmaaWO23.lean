/-
  Texts of the proof, one behind the other: WoA, OcI.
-/
import Derived.Recover
import Derived.Laws.AppendOwnNone
import Derived.Deep.AppendLies
import Derived.Deep.RegionHeld3
import Derived.Laws.OwnMore
import Derived.Deep.LoopGhost
import Derived.Test.YtbfbaofjkefmmaaWO1
import Derived.Test.YtbfbaofjkefmmaaWO2
import Derived.Test.YtbfbaofjkefmmaaWO3
import Derived.Test.YtbfbaofjkefmmaaWO4
import Derived.Test.YtbfbaofjkefmmaaWO6
import Derived.Test.YtbfbaofjkefmmaaWO8
import Derived.Test.YtbfbaofjkefmmaaWO9
import Derived.Test.YtbfbaofjkefmmaaWO10
import Derived.Test.YtbfbaofjkefmmaaWO11
import Derived.Test.YtbfbaofjkefmmaaWO13
import Derived.Test.YtbfbaofjkefmmaaWO15
import Derived.Test.YtbfbaofjkefmmaaWO16
import Derived.Test.YtbfbaofjkefmmaaWO17
import Derived.Test.YtbfbaofjkefmmaaWO19
import Derived.Test.YtbfbaofjkefmmaaWO20
import Derived.Test.YtbfbaofjkefmmaaWO22

/-
  The newest of lists: as data; the specification's WholeOf.
-/
namespace Go.Proofs.Ytbfbaofjkefmmaa
open Go.RowKit Der
set_option linter.unusedVariables false
set_option linter.unusedSimpArgs false

/-- The place of the first one with the greatest number, among the first k, of those that are meant. -/
def bst (P : Cl → Bool) (l : List Cl) : Nat → Option Nat
  | 0 => none
  | k + 1 => match bst P l k with
    | none => if P (l.getD k zeL) = true then some k else none
    | some b => if P (l.getD k zeL) = true ∧ (l.getD b zeL).num < (l.getD k zeL).num then some k else some b
theorem bst_lt {P : Cl → Bool} {l : List Cl} : ∀ {k b : Nat}, bst P l k = some b → b < k
  | 0, b, h => by simp [bst] at h
  | k + 1, b, h => by
    unfold bst at h
    split at h
    · split at h
      · simp only [Option.some.injEq] at h; omega
      · cases h
    · next b' hb' =>
      split at h
      · simp only [Option.some.injEq] at h; omega
      · simp only [Option.some.injEq] at h
        have := bst_lt hb'
        omega
def plV (o : Option Nat) : Int := match o with
  | none => -1
  | some b => (b : Int)
/-- The newest one that is meant. -/
def nwL (P : Cl → Bool) (l : List Cl) : Option Cl := (bst P l l.length).map fun b => l.getD b zeL
def NwPost (w : World) (o : Option Cl) (e : Ending) (w' : World) : Prop := ∃ u, e = .returned (.tuple #[u, .bool o.isSome]) ∧ OwnL w' w.heap.size u (o.getD zeL) ∧ Below w.heap.size w w'
theorem bst_no {P : Cl → Bool} {l : List Cl} {k : Nat} (h : P (l.getD k zeL) = false) : bst P l (k + 1) = bst P l k := by
  have hn : ¬ P (l.getD k zeL) = true := by rw [h]; exact Bool.false_ne_true
  show (match bst P l k with | none => _ | some b => _) = _
  cases hb : bst P l k with
  | none => exact if_neg hn
  | some b => exact if_neg (fun q => hn q.1)
theorem bst_first {P : Cl → Bool} {l : List Cl} {k : Nat} (hb : bst P l k = none) (h : P (l.getD k zeL) = true) : bst P l (k + 1) = some k := by
  show (match bst P l k with | none => _ | some b => _) = _
  rw [hb]
  exact if_pos h
theorem bst_more {P : Cl → Bool} {l : List Cl} {k b : Nat} (hb : bst P l k = some b) (h : P (l.getD k zeL) = true) (hn : (l.getD b zeL).num < (l.getD k zeL).num) : bst P l (k + 1) = some k := by
  show (match bst P l k with | none => _ | some b => _) = _
  rw [hb]
  exact if_pos ⟨h, hn⟩
theorem bst_less {P : Cl → Bool} {l : List Cl} {k b : Nat} (hb : bst P l k = some b) (hn : ¬ (l.getD b zeL).num < (l.getD k zeL).num) : bst P l (k + 1) = some b := by
  show (match bst P l k with | none => _ | some b => _) = _
  rw [hb]
  exact if_neg (fun q => hn q.2)
def wholeB (c : Cl) : Bool := decide (c.bas = 0)
theorem wtS_getD {l : List Cl} {k m : Nat} (h : wtS l ≤ m) (hk : k < l.length) : (l.getD k zeL).revs.length ≤ m := by
  rw [List.getD_eq_getElem?_getD, List.getElem?_eq_getElem hk]
  have h1 := wtS_mem (List.getElem_mem hk)
  show l[k].revs.length ≤ m
  unfold wtL at h1
  omega
/-- The cells of one of an owned row, told by place. -/
theorem OwnS.one {w : World} {base g n cap : Nat} {l : List Cl} {fp : List Nat} (h : OwnS crlKd w base (.slice (some ⟨g, 0, none⟩) n cap) l fp) (hn : n = l.length) {j : Nat} (hj : j < l.length) :
    ∃ pa pc, OwnL w base (clV (l.getD j zeL) (.slice pa (l.getD j zeL).revs.length pc)) (l.getD j zeL) ∧ ∀ i x, (clV (l.getD j zeL) (.slice pa (l.getD j zeL).revs.length pc)).cells[i]? = some x → w.cell? ⟨g, j * 7 + i, none⟩ = some x := by
  obtain ⟨⟨u, hu, -, hc⟩, -⟩ := h.cells hn hj
  have e : l[j] = l.getD j zeL := by rw [List.getD_eq_getElem?_getD, List.getElem?_eq_getElem hj]; rfl
  rw [e] at hu
  obtain ⟨p, q, hv⟩ := hu.at.shape
  subst hv
  exact ⟨p, q, hu, hc⟩
theorem OwnS.row {α : Type} {k : Kd α} {w : World} {base : Nat} {v : Value} {l : List α} {fp : List Nat} (h : OwnS k w base v l fp) : ∃ ao cap, v = .slice ao l.length cap ∧ (0 < l.length → ∃ g, ao = some ⟨g, 0, none⟩ ∧ g < w.heap.size) := by
  have hlt := h.lt
  obtain ⟨ao, cap, hv, hg, -, -⟩ := h.shape
  refine ⟨ao, cap, hv, fun hp => ?_⟩
  obtain ⟨g, hg⟩ := hg hp
  obtain ⟨vs, hl, hr, he, hf, hn⟩ := h
  exact ⟨g, hg, (hlt g (by rw [hf, hv, hg]; simp [Value.ownBlock])).2⟩
set_option maxHeartbeats 12800000 in
set_option maxRecDepth 100000 in
theorem specWholeOf_any (l : List Cl) (v : Value) (bs : Nat) (fp : List Nat) (w : World) (hl : wtS l ≤ 20000000) (ha : OwnS crlKd w bs v l fp) :
    Calls Try.prog 12 #[v] w fun e w' => NwPost w (nwL wholeB l) e w' := by
  obtain ⟨ao, cap, hv, hg⟩ := ha.row
  obtain ⟨n, hn⟩ : ∃ n, l.length = n := ⟨_, rfl⟩
  rw [hn] at hv hg
  subst hv
  have hn20 : n ≤ 20000000 := by unfold wtS at hl; omega
  have HA : Hid (OwnS crlKd w bs (.slice ao n cap) l fp ∧ l.length = n ∧ wtS l ≤ 20000000 ∧ (0 < n → ∃ g, ao = some ⟨g, 0, none⟩ ∧ g < w.heap.size)) := ⟨ha, hn, hl, hg⟩
  clear ha hn hl hg
  obtain ⟨oR, hoR⟩ : ∃ r, nwL wholeB l = r := ⟨_, rfl⟩
  have HR : Hid (nwL wholeB l = oR) := hoR
  rw [hoR]
  clear hoR
  obtain ⟨W1, hW1⟩ : ∃ V, V = w.alloc (Obj.cells #[.string ⟨#[]⟩, .int .i64 0, .int .i64 0, .int .i64 0, .int .i64 0, .slice none 0 0, .string ⟨#[]⟩] 24) := ⟨_, rfl⟩
  have H1 : Hid (Below w.heap.size w W1 ∧ Blk W1 w.heap.size 24 #[.string ⟨#[]⟩, .int .i64 0, .int .i64 0, .int .i64 0, .int .i64 0, .slice none 0 0, .string ⟨#[]⟩]) := by rw [hW1]; exact ⟨(Below.refl _ _).alloc (Nat.le_refl _) _, Blk.new _ _ _⟩
  go_enter Try.func12, Try.ntmps12
  go_wp2_with fail
  rw [← hW1]
  clear hW1
  go_loopw [4, 5] (fun av iv wr => ∃ k : Nat, k ≤ n ∧ iv = .int .i64 k ∧ av = .int .i64 (plV (bst wholeB l k)) ∧ Hid (Below w.heap.size w wr ∧ Blk wr w.heap.size 24 #[.string ⟨#[]⟩, .int .i64 0, .int .i64 0, .int .i64 0, .int .i64 0, .slice none 0 0, .string ⟨#[]⟩])) (fun _ iv _ => n - (intOf iv).toNat)
  case atStart => exact ⟨0, Nat.zero_le _, rfl, rfl, H1.out⟩
  case round =>
    clear H1
    obtain ⟨k, hk, rfl, rfl, H⟩ := hrel
    by_cases hkn : k < n
    · have hkl : k < l.length := by rw [HA.out.2.1]; exact hkn
      obtain ⟨g, hg, hgw⟩ := HA.out.2.2.2 (by omega)
      subst hg
      obtain ⟨p1, q1, -, hc1⟩ := HA.out.1.one HA.out.2.1.symm hkl
      have hki : (k : Int) < (n : Int) := by omega
      have hk0 : (0 : Int) ≤ (k : Int) := by omega
      have c4 : wr.cell? ⟨g, k * 7 + 4, none⟩ = some (.int .i64 (l.getD k zeL).bas) := (H.out.1.cell (p := ⟨g, k * 7 + 4, none⟩) hgw).trans (hc1 4 _ rfl)
      have c1 : wr.cell? ⟨g, k * 7 + 1, none⟩ = some (.int .i64 (l.getD k zeL).num) := (H.out.1.cell (p := ⟨g, k * 7 + 1, none⟩) hgw).trans (hc1 1 _ rfl)
      obtain ⟨B, hB⟩ : ∃ b, (l.getD k zeL).bas = b := ⟨_, rfl⟩
      obtain ⟨N, hN⟩ : ∃ b, (l.getD k zeL).num = b := ⟨_, rfl⟩
      rw [hB] at c4
      rw [hN] at c1
      clear hc1
      by_cases hz : B = 0
      · have HP : Hid (wholeB (l.getD k zeL) = true) := by show wholeB _ = true; unfold wholeB; rw [hB, hz]; rfl
        subst hz
        cases hb : bst wholeB l k with
        | none =>
          have HNX : Hid (bst wholeB l (k + 1) = some k) := bst_first hb HP.out
          simp only [plV]
          go_upto_region 5 with fail
          go_quiet (fail)
          have HD : Hid (Below w.heap.size w (wr.drewN nq) ∧ Blk (wr.drewN nq) w.heap.size 24 #[.string ⟨#[]⟩, .int .i64 0, .int .i64 0, .int .i64 0, .int .i64 0, .slice none 0 0, .string ⟨#[]⟩]) := ⟨⟨H.out.1.os, H.out.1.tape, H.out.1.output, H.out.1.size, H.out.1.block⟩, H.out.2⟩
          generalize wr.drewN nq = wd at HD ⊢
          clear H c4 c1
          go_wp2_with fail
          go_roundw
          case rel => exact ⟨k + 1, by omega, by go_num, by rw [HNX.out]; try rfl, HD.out⟩
          case measure => simp [intOf]; omega
        | some b =>
          have hblt := bst_lt hb
          have hbi : (b : Int) < (n : Int) := by omega
          have hb0 : (0 : Int) ≤ (b : Int) := by omega
          have hbn : ¬ (b : Int) < 0 := by omega
          obtain ⟨M, hM⟩ : ∃ q, (l.getD b zeL).num = q := ⟨_, rfl⟩
          obtain ⟨p2, q2, -, hc2⟩ := HA.out.1.one HA.out.2.1.symm (show b < l.length by omega)
          have c2 : wr.cell? ⟨g, b * 7 + 1, none⟩ = some (.int .i64 (l.getD b zeL).num) := (H.out.1.cell (p := ⟨g, b * 7 + 1, none⟩) hgw).trans (hc2 1 _ rfl)
          clear hc2
          rw [hM] at c2
          simp only [plV]
          by_cases hmore : M < N
          · have HNX : Hid (bst wholeB l (k + 1) = some k) := bst_more hb HP.out (by rw [hM, hN]; exact hmore)
            go_upto_region 5 with fail
            go_quiet (fail)
            have HD : Hid (Below w.heap.size w (wr.drewN nq) ∧ Blk (wr.drewN nq) w.heap.size 24 #[.string ⟨#[]⟩, .int .i64 0, .int .i64 0, .int .i64 0, .int .i64 0, .slice none 0 0, .string ⟨#[]⟩]) := ⟨⟨H.out.1.os, H.out.1.tape, H.out.1.output, H.out.1.size, H.out.1.block⟩, H.out.2⟩
            generalize wr.drewN nq = wd at HD ⊢
            clear H c4 c1 c2
            go_wp2_with fail
            go_roundw
            case rel => exact ⟨k + 1, by omega, by go_num, by rw [HNX.out]; try rfl, HD.out⟩
            case measure => simp [intOf]; omega
          · have HNX : Hid (bst wholeB l (k + 1) = some b) := bst_less hb (by rw [hM, hN]; exact hmore)
            go_upto_region 5 with fail
            go_quiet (fail)
            have HD : Hid (Below w.heap.size w (wr.drewN nq) ∧ Blk (wr.drewN nq) w.heap.size 24 #[.string ⟨#[]⟩, .int .i64 0, .int .i64 0, .int .i64 0, .int .i64 0, .slice none 0 0, .string ⟨#[]⟩]) := ⟨⟨H.out.1.os, H.out.1.tape, H.out.1.output, H.out.1.size, H.out.1.block⟩, H.out.2⟩
            generalize wr.drewN nq = wd at HD ⊢
            clear H c4 c1 c2
            go_wp2_with fail
            go_roundw
            case rel => exact ⟨k + 1, by omega, by go_num, by rw [HNX.out]; try rfl, HD.out⟩
            case measure => simp [intOf]; omega
      · have hzb : (B == 0) = false := beq_eq_false_iff_ne.2 hz
        have HNX : Hid (bst wholeB l (k + 1) = bst wholeB l k) := bst_no (by unfold wholeB; rw [hB]; exact decide_eq_false hz)
        obtain ⟨pv, hpv⟩ : ∃ q, plV (bst wholeB l k) = q := ⟨_, rfl⟩
        have HPV : Hid (plV (bst wholeB l k) = pv) := hpv
        rw [hpv]
        clear hpv
        go_upto_region 5 with fail
        go_quiet (fail)
        have HD : Hid (Below w.heap.size w (wr.drewN nq) ∧ Blk (wr.drewN nq) w.heap.size 24 #[.string ⟨#[]⟩, .int .i64 0, .int .i64 0, .int .i64 0, .int .i64 0, .slice none 0 0, .string ⟨#[]⟩]) := ⟨⟨H.out.1.os, H.out.1.tape, H.out.1.output, H.out.1.size, H.out.1.block⟩, H.out.2⟩
        generalize wr.drewN nq = wd at HD ⊢
        clear H c4 c1
        go_wp2_with fail
        go_roundw
        case rel => exact ⟨k + 1, by omega, by go_num, by rw [HNX.out]; rw [HPV.out]; try rfl, HD.out⟩
        case measure => simp [intOf]; omega
    · have hki : ¬ (k : Int) < (n : Int) := by omega
      have hkl : k = n := by omega
      subst hkl
      have HNW : Hid (nwL wholeB l = (bst wholeB l k).map fun b => l.getD b zeL) := by show nwL wholeB l = _; unfold nwL; rw [HA.out.2.1]
      cases hb : bst wholeB l k with
      | none =>
        have HN : Hid (oR = none) := by show oR = none; rw [← HR.out, HNW.out, hb]; rfl
        have r0 : wr.cell? ⟨w.heap.size, 0, none⟩ = some (.string ⟨#[]⟩) := H.out.2.cell 0
        have r1 : wr.cell? ⟨w.heap.size, 1, none⟩ = some (.int .i64 0) := H.out.2.cell 1
        have r2 : wr.cell? ⟨w.heap.size, 2, none⟩ = some (.int .i64 0) := H.out.2.cell 2
        have r3 : wr.cell? ⟨w.heap.size, 3, none⟩ = some (.int .i64 0) := H.out.2.cell 3
        have r4 : wr.cell? ⟨w.heap.size, 4, none⟩ = some (.int .i64 0) := H.out.2.cell 4
        have r5 : wr.cell? ⟨w.heap.size, 5, none⟩ = some (.slice none 0 0) := H.out.2.cell 5
        have r6 : wr.cell? ⟨w.heap.size, 6, none⟩ = some (.string ⟨#[]⟩) := H.out.2.cell 6
        have rf := fun i => H.out.2.free i
        simp only [plV]
        go_wp2_with fail
        refine bodyPost_ret (v := .tuple #[.agg #[.string ⟨#[]⟩, .int .i64 0, .int .i64 0, .int .i64 0, .int .i64 0, .slice none 0 0, .string ⟨#[]⟩], .bool false]) (by simp [results, Try.results12, go_sem, r0, r1, r2, r3, r4, r5, r6]; try rfl) rfl ⟨_, by rw [HN.out]; rfl, ?_, ?_⟩
        · rw [HN.out]
          exact own_zeL _ _
        · iterate 7 refine Below.setCell ?_ (by show w.heap.size ≤ w.heap.size; exact Nat.le_refl _) _
          exact H.out.1
      | some b =>
        have hblt := bst_lt hb
        have hbi : (b : Int) < (k : Int) := by omega
        have hb0 : (0 : Int) ≤ (b : Int) := by omega
        have hbn : ¬ (b : Int) < 0 := by omega
        obtain ⟨g, hg, hgw⟩ := HA.out.2.2.2 (by omega)
        subst hg
        obtain ⟨p1, q1, hoc, hc1⟩ := HA.out.1.one HA.out.2.1.symm (show b < l.length by have := HA.out.2.1; omega)
        obtain ⟨c, hc⟩ : ∃ c, l.getD b zeL = c := ⟨_, rfl⟩
        have HN : Hid (oR = some c) := by show oR = some c; rw [← HR.out, HNW.out, hb, ← hc]; rfl
        rw [hc] at hc1 hoc
        have hrl : c.revs.length ≤ 20000000 := by rw [← hc]; exact wtS_getD HA.out.2.2.1 (by have := HA.out.2.1; omega)
        have EC := crlCopy_any c (clV c (.slice p1 c.revs.length q1)) bs wr hrl (hoc.stays H.out.1)
        have x0 : wr.cell? ⟨g, b * 7, none⟩ = some (.string c.issuer) := (H.out.1.cell (p := ⟨g, b * 7, none⟩) hgw).trans (hc1 0 _ rfl)
        have x1 : wr.cell? ⟨g, b * 7 + 1, none⟩ = some (.int .i64 c.num) := (H.out.1.cell (p := ⟨g, b * 7 + 1, none⟩) hgw).trans (hc1 1 _ rfl)
        have x2 : wr.cell? ⟨g, b * 7 + 2, none⟩ = some (.int .i64 c.ths) := (H.out.1.cell (p := ⟨g, b * 7 + 2, none⟩) hgw).trans (hc1 2 _ rfl)
        have x3 : wr.cell? ⟨g, b * 7 + 3, none⟩ = some (.int .i64 c.nxt) := (H.out.1.cell (p := ⟨g, b * 7 + 3, none⟩) hgw).trans (hc1 3 _ rfl)
        have x4 : wr.cell? ⟨g, b * 7 + 4, none⟩ = some (.int .i64 c.bas) := (H.out.1.cell (p := ⟨g, b * 7 + 4, none⟩) hgw).trans (hc1 4 _ rfl)
        have x5 : wr.cell? ⟨g, b * 7 + 5, none⟩ = some (.slice p1 c.revs.length q1) := (H.out.1.cell (p := ⟨g, b * 7 + 5, none⟩) hgw).trans (hc1 5 _ rfl)
        have x6 : wr.cell? ⟨g, b * 7 + 6, none⟩ = some (.string c.sig) := (H.out.1.cell (p := ⟨g, b * 7 + 6, none⟩) hgw).trans (hc1 6 _ rfl)
        unfold clV at EC
        clear hc1 hoc hc hrl
        simp only [plV]
        go_wp2_with fail
        refine EC.mono ?_
        rintro e w3 ⟨u3, rfl, ⟨p3, rfl, ho3⟩, hb3⟩
        obtain ⟨qa, qc, hq3, -, -, -⟩ := OwnR.shape ho3
        subst hq3
        have H3 : Hid ((Below w.heap.size w w3 ∧ Blk w3 w.heap.size 24 #[.string ⟨#[]⟩, .int .i64 0, .int .i64 0, .int .i64 0, .int .i64 0, .slice none 0 0, .string ⟨#[]⟩]) ∧ OwnR w3 wr.heap.size (.slice qa c.revs.length qc) c.revs ∧ w.heap.size < wr.heap.size) := ⟨⟨H.out.1.trans (hb3.mono H.out.1.size), H.out.2.below hb3 H.out.2.lt⟩, ho3, H.out.2.lt⟩
        clear H EC ho3 hb3 x0 x1 x2 x3 x4 x5 x6
        have r0 : w3.cell? ⟨w.heap.size, 0, none⟩ = some (.string ⟨#[]⟩) := H3.out.1.2.cell 0
        have r1 : w3.cell? ⟨w.heap.size, 1, none⟩ = some (.int .i64 0) := H3.out.1.2.cell 1
        have r2 : w3.cell? ⟨w.heap.size, 2, none⟩ = some (.int .i64 0) := H3.out.1.2.cell 2
        have r3 : w3.cell? ⟨w.heap.size, 3, none⟩ = some (.int .i64 0) := H3.out.1.2.cell 3
        have r4 : w3.cell? ⟨w.heap.size, 4, none⟩ = some (.int .i64 0) := H3.out.1.2.cell 4
        have r5 : w3.cell? ⟨w.heap.size, 5, none⟩ = some (.slice none 0 0) := H3.out.1.2.cell 5
        have r6 : w3.cell? ⟨w.heap.size, 6, none⟩ = some (.string ⟨#[]⟩) := H3.out.1.2.cell 6
        have rf := fun i => H3.out.1.2.free i
        unfold clV
        go_wp2_with fail
        refine bodyPost_ret (v := .tuple #[.agg #[.string c.issuer, .int .i64 c.num, .int .i64 c.ths, .int .i64 c.nxt, .int .i64 c.bas, .slice qa c.revs.length qc, .string c.sig], .bool true]) (by simp [results, Try.results12, go_sem, r0, r1, r2, r3, r4, r5, r6]; try rfl) rfl ⟨_, by rw [HN.out]; rfl, ?_, ?_⟩
        · rw [HN.out]
          refine ⟨_, rfl, OwnR.base (row_same H3.out.2.1 (fun y hy => ?_)) (by have := H3.out.2.2; omega)⟩
          have hy2 := (World.ownsRow.lt H3.out.2.1 y hy).1
          have hy3 := H3.out.2.2
          iterate 7 rw [heap_setCell_other _ _ _ _ (by show y ≠ w.heap.size; omega)]
        · iterate 7 refine Below.setCell ?_ (by show w.heap.size ≤ w.heap.size; exact Nat.le_refl _) _
          exact H3.out.1.1
end Go.Proofs.Ytbfbaofjkefmmaa

/-
  The program's ownCrl: a list of what was called back, in new memory.
-/
namespace Go.Proofs.Ytbfbaofjkefmmaa
open Go.RowKit
set_option linter.unusedVariables false
set_option linter.unusedSimpArgs false

/-- Where ownCrl stands: its own copy, its result. -/
def OC (w W : World) (cells : Array Value) : Prop := Blk W w.heap.size 24 cells ∧ Blk W (w.heap.size + 1) 24 #[.string ⟨#[]⟩, .int .i64 0, .int .i64 0, .int .i64 0, .int .i64 0, .slice none 0 0, .string ⟨#[]⟩] ∧ Below w.heap.size w W ∧ w.heap.size + 2 ≤ W.heap.size
theorem OC.below {w W W' : World} {cells : Array Value} (h : OC w W cells) (hb : Below W.heap.size W W') : OC w W' cells :=
  ⟨h.1.below hb h.1.lt, h.2.1.below hb h.2.1.lt, h.2.2.1.trans (hb.mono h.2.2.1.size), Nat.le_trans h.2.2.2 hb.size⟩
theorem OC.set {w W : World} {cells cells' : Array Value} (h : OC w W cells) (j : Nat) (v : Value) (hc : cells.setIfInBounds j v = cells') : OC w (W.setCell ⟨w.heap.size, j, none⟩ v) cells' :=
  ⟨by rw [← hc]; exact h.1.set j v, h.2.1.other v (by show w.heap.size + 1 ≠ w.heap.size; omega), Below.setCell h.2.2.1 (Nat.le_refl _) _, by have := h.2.2.2; have e := ((Out.refl [w.heap.size] W).setCell ⟨w.heap.size, j, none⟩ v (by simp)).2.2.2.1; omega⟩
theorem OC.grown {w W W' : World} {cells : Array Value} (h : OC w W cells) (hg : W.grownBy W' none) : OC w W' cells :=
  ⟨(hg.block _ h.1.lt (fun e => by cases e)).trans h.1, (hg.block _ h.2.1.lt (fun e => by cases e)).trans h.2.1, h.2.2.1.grown hg h.2.2.1.size (fun b hb => by cases hb), Nat.le_trans h.2.2.2 hg.size⟩
set_option maxHeartbeats 6400000 in
set_option maxRecDepth 100000 in
theorem ownCrl_any (c : Cl) (v : Value) (bs : Nat) (w : World) (hl : c.revs.length ≤ 20000000) (hs1 : c.issuer.size ≤ 1000000000000) (hs2 : c.sig.size ≤ 1000000000000) (ha : OwnL w bs v c) :
    Calls Try.prog 57 #[v] w fun e w' => ∃ u, e = .returned u ∧ OwnL w' w.heap.size u c ∧ Below w.heap.size w w' := by
  obtain ⟨pv, rfl, h1⟩ := ha
  obtain ⟨pa, pc, hpv, -, -, -⟩ := OwnR.shape h1
  obtain ⟨lp, hlp⟩ : ∃ l, c.revs.length = l := ⟨_, rfl⟩
  rw [hlp] at hpv
  subst hpv
  have HO : Hid (OwnR w bs (.slice pa lp pc) c.revs ∧ c.revs.length = lp ∧ c.revs.length ≤ 20000000) := ⟨h1, hlp, hl⟩
  clear h1 hlp hl
  unfold clV
  obtain ⟨W0, hW0⟩ : ∃ V, V = w.alloc (Obj.cells #[.string c.issuer, .int .i64 c.num, .int .i64 c.ths, .int .i64 c.nxt, .int .i64 c.bas, .slice pa lp pc, .string c.sig] 24) := ⟨_, rfl⟩
  obtain ⟨W2, hW2⟩ : ∃ V, V = W0.alloc (Obj.cells #[.string ⟨#[]⟩, .int .i64 0, .int .i64 0, .int .i64 0, .int .i64 0, .slice none 0 0, .string ⟨#[]⟩] 24) := ⟨_, rfl⟩
  have hs0 : W0.heap.size = w.heap.size + 1 := by rw [hW0]; exact size_alloc _ _
  have H2 : Hid (OC w W2 #[.string c.issuer, .int .i64 c.num, .int .i64 c.ths, .int .i64 c.nxt, .int .i64 c.bas, .slice pa lp pc, .string c.sig]) := by
    have h1 := Blk.new W0 24 #[.string ⟨#[]⟩, .int .i64 0, .int .i64 0, .int .i64 0, .int .i64 0, .slice none 0 0, .string ⟨#[]⟩]
    rw [hs0] at h1
    rw [hW2]
    refine ⟨?_, h1, ?_, by rw [size_alloc]; omega⟩
    · rw [hW0]
      exact (Blk.new _ _ _).alloc _
    · rw [hW0]
      exact ((Below.refl _ _).alloc (Nat.le_refl _) _).alloc (by rw [size_alloc]; omega) _
  have wd1 : w.heap.size ≠ w.heap.size + 1 := by omega
  go_enter Try.func57, Try.ntmps57
  go_upto_region 1 with fail
  rw [← hW0, ← hW2]
  try rw [hs0]
  clear hW0 hW2 hs0
  have a0 : W2.cell? ⟨w.heap.size, 0, none⟩ = some (.string c.issuer) := H2.out.1.cell 0
  go_wp2_with fail
  refine (cloneB_any c.issuer W2 hs1).mono ?_
  rintro e w3 ⟨rfl, hb3⟩
  have H3 : Hid (OC w w3 #[.string c.issuer, .int .i64 c.num, .int .i64 c.ths, .int .i64 c.nxt, .int .i64 c.bas, .slice pa lp pc, .string c.sig]) := H2.out.below hb3
  clear H2 hb3 a0
  have a0 : w3.cell? ⟨w.heap.size, 0, none⟩ = some (.string c.issuer) := H3.out.1.cell 0
  have a5 : w3.cell? ⟨w.heap.size, 5, none⟩ = some (.slice pa lp pc) := H3.out.1.cell 5
  have fz := fun i => H3.out.1.free i
  obtain ⟨V3, hV3⟩ : ∃ V, V = w3.setCell ⟨w.heap.size, 0, none⟩ (.string c.issuer) := ⟨_, rfl⟩
  have H4 : Hid (OC w V3 #[.string c.issuer, .int .i64 c.num, .int .i64 c.ths, .int .i64 c.nxt, .int .i64 c.bas, .slice pa lp pc, .string c.sig]) := by rw [hV3]; exact H3.out.set 0 _ rfl
  go_wp2_with (at_builtin; rw [← hV3]; refine wpList_append_revs rfl _ _ rfl (w.heap.size + 2) (.slice none 0 0) 0 [] rfl (World.ownsRow_nil _ _ _ _) _ c.revs bs (HO.out.1.stays H4.out.2.2.1) rfl (by have := HO.out.2.2; omega) H4.out.2.2.2 ?_)
  intro v9 w9 ho9 hg9
  try rw [← hV3] at hg9
  have H9 : Hid (OC w w9 #[.string c.issuer, .int .i64 c.num, .int .i64 c.ths, .int .i64 c.nxt, .int .i64 c.bas, .slice pa lp pc, .string c.sig] ∧ OwnR w9 (w.heap.size + 2) v9 c.revs) := ⟨H4.out.grown hg9, by simpa [OwnR] using ho9⟩
  clear a0 a5 fz hV3 H3 H4 ho9 hg9
  obtain ⟨qa, qc, hq9, -, -, -⟩ := OwnR.shape H9.out.2
  obtain ⟨ql, hql⟩ : ∃ l, c.revs.length = l := ⟨_, rfl⟩
  rw [hql] at hq9
  clear hql
  subst hq9
  have a5 : w9.cell? ⟨w.heap.size, 5, none⟩ = some (.slice pa lp pc) := H9.out.1.1.cell 5
  have a6 : w9.cell? ⟨w.heap.size, 6, none⟩ = some (.string c.sig) := H9.out.1.1.cell 6
  have fz := fun i => H9.out.1.1.free i
  obtain ⟨V5, hV5⟩ : ∃ V, V = w9.setCell ⟨w.heap.size, 5, none⟩ (.slice qa ql qc) := ⟨_, rfl⟩
  have H5 : Hid (OC w V5 #[.string c.issuer, .int .i64 c.num, .int .i64 c.ths, .int .i64 c.nxt, .int .i64 c.bas, .slice qa ql qc, .string c.sig] ∧ OwnR V5 (w.heap.size + 2) (.slice qa ql qc) c.revs) := by
    rw [hV5]
    exact ⟨H9.out.1.set 5 _ rfl, row_same H9.out.2 (fun g hg => heap_setCell_other _ _ _ _ (by have := (World.ownsRow.lt H9.out.2 g hg).1; show g ≠ w.heap.size; omega))⟩
  go_wp2_with fail
  rw [← hV5]
  clear hV5 a5 a6 fz H9
  refine (cloneB_any c.sig V5 hs2).mono ?_
  rintro e w6 ⟨rfl, hb6⟩
  have H6 : Hid (OC w w6 #[.string c.issuer, .int .i64 c.num, .int .i64 c.ths, .int .i64 c.nxt, .int .i64 c.bas, .slice qa ql qc, .string c.sig] ∧ OwnR w6 (w.heap.size + 2) (.slice qa ql qc) c.revs) := ⟨H5.out.1.below hb6, H5.out.2.stays hb6⟩
  clear hb6 H5
  have d0 : w6.cell? ⟨w.heap.size, 0, none⟩ = some (.string c.issuer) := H6.out.1.1.cell 0
  have d1 : w6.cell? ⟨w.heap.size, 1, none⟩ = some (.int .i64 c.num) := H6.out.1.1.cell 1
  have d2 : w6.cell? ⟨w.heap.size, 2, none⟩ = some (.int .i64 c.ths) := H6.out.1.1.cell 2
  have d3 : w6.cell? ⟨w.heap.size, 3, none⟩ = some (.int .i64 c.nxt) := H6.out.1.1.cell 3
  have d4 : w6.cell? ⟨w.heap.size, 4, none⟩ = some (.int .i64 c.bas) := H6.out.1.1.cell 4
  have d5 : w6.cell? ⟨w.heap.size, 5, none⟩ = some (.slice qa ql qc) := H6.out.1.1.cell 5
  have d6 : w6.cell? ⟨w.heap.size, 6, none⟩ = some (.string c.sig) := H6.out.1.1.cell 6
  have b0 : w6.cell? ⟨w.heap.size + 1, 0, none⟩ = some (.string ⟨#[]⟩) := H6.out.1.2.1.cell 0
  have b1 : w6.cell? ⟨w.heap.size + 1, 1, none⟩ = some (.int .i64 0) := H6.out.1.2.1.cell 1
  have b2 : w6.cell? ⟨w.heap.size + 1, 2, none⟩ = some (.int .i64 0) := H6.out.1.2.1.cell 2
  have b3 : w6.cell? ⟨w.heap.size + 1, 3, none⟩ = some (.int .i64 0) := H6.out.1.2.1.cell 3
  have b4 : w6.cell? ⟨w.heap.size + 1, 4, none⟩ = some (.int .i64 0) := H6.out.1.2.1.cell 4
  have b5 : w6.cell? ⟨w.heap.size + 1, 5, none⟩ = some (.slice none 0 0) := H6.out.1.2.1.cell 5
  have b6 : w6.cell? ⟨w.heap.size + 1, 6, none⟩ = some (.string ⟨#[]⟩) := H6.out.1.2.1.cell 6
  have fd := fun i => H6.out.1.1.free i
  have fb := fun i => H6.out.1.2.1.free i
  go_wp2_with fail
  refine bodyPost_ret (v := clV c (.slice qa ql qc)) (by simp [results, Try.results57, go_sem, clV, b0, b1, b2, b3, b4, b5, b6]) rfl ⟨_, rfl, ⟨_, rfl, OwnR.base (row_same H6.out.2 ?far) (by omega)⟩, ?bel⟩
  case far =>
    intro b hb
    have h2 := (World.ownsRow.lt H6.out.2 b hb).1
    iterate 8 rw [heap_setCell_other _ _ _ _ (by first | (show b ≠ w.heap.size + 1; omega) | (show b ≠ w.heap.size; omega))]
  case bel =>
    iterate 8 refine Below.setCell ?_ (by first | (show w.heap.size ≤ w.heap.size + 1; omega) | (show w.heap.size ≤ w.heap.size; omega)) _
    exact H6.out.1.2.2.1
end Go.Proofs.Ytbfbaofjkefmmaa
