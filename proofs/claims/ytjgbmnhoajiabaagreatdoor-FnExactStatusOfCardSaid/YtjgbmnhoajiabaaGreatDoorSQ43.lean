/-
  Texts of the proof.
-/
import Derived.LaidEqlPtr
import Derived.Laws.StructEq
import Derived.ChangeKeysEq
import Derived.WalkLawsBesides
import Derived.Recover
import Derived.Deep.RegionHeld3
import Derived.Deep.AppendLies
import Derived.Test.YtjgbmnhoajiabaaGreatDoorSQ41
import Derived.Test.YtjgbmnhoajiabaaGreatDoorSQ42
set_option maxRecDepth 100000
namespace Go.Proofs.YtjgbmnhoajiabaaGreatDoor
open Go.RowKit Der
set_option linter.unusedVariables false
def IsMap (w : World) (b : Nat) (es : Array MapEntry) (clock : Nat) : Prop := w.heap[b]? = some (.map es clock)
end Go.Proofs.YtjgbmnhoajiabaaGreatDoor
namespace Go.Proofs.YtjgbmnhoajiabaaGreatDoor
open Go.RowKit Der
set_option linter.unusedVariables false
set_option linter.unusedSimpArgs false
def bst (P : Cl -> Bool) (l : List Cl) : Nat -> Option Nat
 | 0 => none
 | k + 1 => match bst P l k with
  | none => if P (l.getD k zeL) = true then some k else none
  | some b => if P (l.getD k zeL) = true /\ (l.getD b zeL).num < (l.getD k zeL).num then some k else some b
theorem bst_lt {P : Cl -> Bool} {l : List Cl} : ∀ {k b : Nat}, bst P l k = some b -> b < k
 | 0, b, h => by simp [bst] at h
 | k + 1, b, h => by
  unfold bst at h
  split at h
  ·split at h
   ·simp only [Option.some.injEq] at h; omega
   ·cases h
  ·next b' hb' =>
   split at h
   ·simp only [Option.some.injEq] at h; omega
   ·simp only [Option.some.injEq] at h
    have := bst_lt hb'
    omega
def plV (o : Option Nat) : Int := match o with
 | none => -1
 | some b => (b : Int)
def nwL (P : Cl -> Bool) (l : List Cl) : Option Cl := (bst P l l.length).map fun b => l.getD b zeL
def NwPost (w : World) (o : Option Cl) (e : Ending) (w' : World) : Prop := ∃ u, e = .returned (.tuple #[u, .bool o.isSome]) /\ OwnL w' w.heap.size u (o.getD zeL) /\ Below w.heap.size w w'
theorem bst_no {P : Cl -> Bool} {l : List Cl} {k : Nat} (h : P (l.getD k zeL) = false) : bst P l (k + 1) = bst P l k := by
 have hn : ¬ P (l.getD k zeL) = true := by rw [h]; exact Bool.false_ne_true
 show (match bst P l k with | none => _ | some b => _) = _
 cases hb : bst P l k with
 | none => exact if_neg hn
 | some b => exact if_neg (fun q => hn q.1)
theorem bst_first {P : Cl -> Bool} {l : List Cl} {k : Nat} (hb : bst P l k = none) (h : P (l.getD k zeL) = true) : bst P l (k + 1) = some k := by
 show (match bst P l k with | none => _ | some b => _) = _
 rw [hb]
 exact if_pos h
theorem bst_more {P : Cl -> Bool} {l : List Cl} {k b : Nat} (hb : bst P l k = some b) (h : P (l.getD k zeL) = true) (hn : (l.getD b zeL).num < (l.getD k zeL).num) : bst P l (k + 1) = some k := by
 show (match bst P l k with | none => _ | some b => _) = _
 rw [hb]
 exact if_pos ⟨h, hn⟩
theorem bst_less {P : Cl -> Bool} {l : List Cl} {k b : Nat} (hb : bst P l k = some b) (hn : ¬ (l.getD b zeL).num < (l.getD k zeL).num) : bst P l (k + 1) = some b := by
 show (match bst P l k with | none => _ | some b => _) = _
 rw [hb]
 exact if_neg (fun q => hn q.2)
def wholeB (c : Cl) : Bool := decide (c.bas = 0)
def deltaB (num : Int) (c : Cl) : Bool := decide (¬ c.bas = 0 /\ c.bas <= num /\ num < c.num)
theorem wtS_getD {l : List Cl} {k m : Nat} (h : wtS l <= m) (hk : k < l.length) : (l.getD k zeL).revs.length <= m := by
 rw [List.getD_eq_getElem?_getD, List.getElem?_eq_getElem hk]
 have h1 := wtS_mem (List.getElem_mem hk)
 show l[k].revs.length <= m
 unfold wtL at h1
 omega
theorem OwnS.one {w : World} {base g n cap : Nat} {l : List Cl} {fp : List Nat} (h : OwnS crlKd w base (.slice (some ⟨g, 0, none⟩) n cap) l fp) (hn : n = l.length) {j : Nat} (hj : j < l.length) :
  ∃ pa pc, OwnL w base (clV (l.getD j zeL) (.slice pa (l.getD j zeL).revs.length pc)) (l.getD j zeL) /\ ∀ i x, (clV (l.getD j zeL) (.slice pa (l.getD j zeL).revs.length pc)).cells[i]? = some x -> w.cell? ⟨g, j * 7 + i, none⟩ = some x := by
 obtain ⟨⟨u, hu, -, hc⟩, -⟩ := h.cells hn hj
 have e : l[j] = l.getD j zeL := by rw [List.getD_eq_getElem?_getD, List.getElem?_eq_getElem hj]; rfl
 rw [e] at hu
 obtain ⟨p, q, hv⟩ := hu.at.shape
 subst hv
 exact ⟨p, q, hu, hc⟩
theorem OwnS.row {α : Type} {k : Kd α} {w : World} {base : Nat} {v : Value} {l : List α} {fp : List Nat} (h : OwnS k w base v l fp) : ∃ ao cap, v = .slice ao l.length cap /\ (0 < l.length -> ∃ g, ao = some ⟨g, 0, none⟩ /\ g < w.heap.size) := by
 have hlt := h.lt
 obtain ⟨ao, cap, hv, hg, -, -⟩ := h.shape
 refine ⟨ao, cap, hv, fun hp => ?_⟩
 obtain ⟨g, hg⟩ := hg hp
 obtain ⟨vs, hl, hr, he, hf, hn⟩ := h
 exact ⟨g, hg, (hlt g (by rw [hf, hv, hg]; simp [Value.ownBlock])).2⟩
set_option maxHeartbeats 12800000 in
theorem specWholeOf_any (l : List Cl) (v : Value) (bs : Nat) (fp : List Nat) (w : World) (hl : wtS l <= 20000000) (ha : OwnS crlKd w bs v l fp) :
  Calls Tryz.prog 149 #[v] w fun e w' => NwPost w (nwL wholeB l) e w' := by
 obtain ⟨ao, cap, hv, hg⟩ := ha.row
 obtain ⟨n, hn⟩ : ∃ n, l.length = n := ⟨_, rfl⟩
 rw [hn] at hv hg
 subst hv
 have hn20 : n <= 20000000 := by unfold wtS at hl; omega
 have HA : Hid (OwnS crlKd w bs (.slice ao n cap) l fp /\ l.length = n /\ wtS l <= 20000000 /\ (0 < n -> ∃ g, ao = some ⟨g, 0, none⟩ /\ g < w.heap.size)) := ⟨ha, hn, hl, hg⟩
 clear ha hn hl hg
 obtain ⟨oR, hoR⟩ : ∃ r, nwL wholeB l = r := ⟨_, rfl⟩
 have HR : Hid (nwL wholeB l = oR) := hoR
 rw [hoR]
 clear hoR
 obtain ⟨W1, hW1⟩ : ∃ V, V = w.alloc (Obj.cells #[.string ⟨#[]⟩, .int .i64 0, .int .i64 0, .int .i64 0, .int .i64 0, .slice none 0 0, .string ⟨#[]⟩] 49) := ⟨_, rfl⟩
 have H1 : Hid (Below w.heap.size w W1 /\ Blk W1 w.heap.size 49 #[.string ⟨#[]⟩, .int .i64 0, .int .i64 0, .int .i64 0, .int .i64 0, .slice none 0 0, .string ⟨#[]⟩]) := by rw [hW1]; exact ⟨(Below.refl _ _).alloc (Nat.le_refl _) _, Blk.new _ _ _⟩
 go_enter Tryz.func149, Tryz.ntmps149
 go_wp2_with fail
 rw [<- hW1]
 clear hW1
 go_loopw [4, 5] (fun av iv wr => ∃ k : Nat, k <= n /\ iv = .int .i64 k /\ av = .int .i64 (plV (bst wholeB l k)) /\ Hid (Below w.heap.size w wr /\ Blk wr w.heap.size 49 #[.string ⟨#[]⟩, .int .i64 0, .int .i64 0, .int .i64 0, .int .i64 0, .slice none 0 0, .string ⟨#[]⟩])) (fun _ iv _ => n - (intOf iv).toNat)
 case atStart => exact ⟨0, Nat.zero_le _, rfl, rfl, H1.out⟩
 case round =>
  clear H1
  obtain ⟨k, hk, rfl, rfl, H⟩ := hrel
  by_cases hkn : k < n
  ·have hkl : k < l.length := by rw [HA.out.2.1]; exact hkn
   obtain ⟨g, hg, hgw⟩ := HA.out.2.2.2 (by omega)
   subst hg
   obtain ⟨p1, q1, -, hc1⟩ := HA.out.1.one HA.out.2.1.symm hkl
   have hki : (k : Int) < (n : Int) := by omega
   have hk0 : (0 : Int) <= (k : Int) := by omega
   have c4 : wr.cell? ⟨g, k * 7 + 4, none⟩ = some (.int .i64 (l.getD k zeL).bas) := (H.out.1.cell (p := ⟨g, k * 7 + 4, none⟩) hgw).trans (hc1 4 _ rfl)
   have c1 : wr.cell? ⟨g, k * 7 + 1, none⟩ = some (.int .i64 (l.getD k zeL).num) := (H.out.1.cell (p := ⟨g, k * 7 + 1, none⟩) hgw).trans (hc1 1 _ rfl)
   obtain ⟨B, hB⟩ : ∃ b, (l.getD k zeL).bas = b := ⟨_, rfl⟩
   obtain ⟨N, hN⟩ : ∃ b, (l.getD k zeL).num = b := ⟨_, rfl⟩
   rw [hB] at c4
   rw [hN] at c1
   clear hc1
   by_cases hz : B = 0
   ·have HP : Hid (wholeB (l.getD k zeL) = true) := by show wholeB _ = true; unfold wholeB; rw [hB, hz]; rfl
    subst hz
    cases hb : bst wholeB l k with
    | none =>
     have HNX : Hid (bst wholeB l (k + 1) = some k) := bst_first hb HP.out
     simp only [plV]
     go_upto_region 5 with fail
     go_quiet (fail)
     have HD : Hid (Below w.heap.size w (wr.drewN nq) /\ Blk (wr.drewN nq) w.heap.size 49 #[.string ⟨#[]⟩, .int .i64 0, .int .i64 0, .int .i64 0, .int .i64 0, .slice none 0 0, .string ⟨#[]⟩]) := ⟨⟨H.out.1.os, H.out.1.tape, H.out.1.output, H.out.1.size, H.out.1.block⟩, H.out.2⟩
     generalize wr.drewN nq = wd at HD |-
     clear H c4 c1
     go_wp2_with fail
     go_roundw
     case rel => exact ⟨k + 1, by omega, by go_num, by rw [HNX.out]; try rfl, HD.out⟩
     case measure => simp [intOf]; omega
    | some b =>
     have hblt := bst_lt hb
     have hbi : (b : Int) < (n : Int) := by omega
     have hb0 : (0 : Int) <= (b : Int) := by omega
     have hbn : ¬ (b : Int) < 0 := by omega
     obtain ⟨M, hM⟩ : ∃ q, (l.getD b zeL).num = q := ⟨_, rfl⟩
     obtain ⟨p2, q2, -, hc2⟩ := HA.out.1.one HA.out.2.1.symm (show b < l.length by omega)
     have c2 : wr.cell? ⟨g, b * 7 + 1, none⟩ = some (.int .i64 (l.getD b zeL).num) := (H.out.1.cell (p := ⟨g, b * 7 + 1, none⟩) hgw).trans (hc2 1 _ rfl)
     clear hc2
     rw [hM] at c2
     simp only [plV]
     by_cases hmore : M < N
     ·have HNX : Hid (bst wholeB l (k + 1) = some k) := bst_more hb HP.out (by rw [hM, hN]; exact hmore)
      go_upto_region 5 with fail
      go_quiet (fail)
      have HD : Hid (Below w.heap.size w (wr.drewN nq) /\ Blk (wr.drewN nq) w.heap.size 49 #[.string ⟨#[]⟩, .int .i64 0, .int .i64 0, .int .i64 0, .int .i64 0, .slice none 0 0, .string ⟨#[]⟩]) := ⟨⟨H.out.1.os, H.out.1.tape, H.out.1.output, H.out.1.size, H.out.1.block⟩, H.out.2⟩
      generalize wr.drewN nq = wd at HD |-
      clear H c4 c1 c2
      go_wp2_with fail
      go_roundw
      case rel => exact ⟨k + 1, by omega, by go_num, by rw [HNX.out]; try rfl, HD.out⟩
      case measure => simp [intOf]; omega
     ·have HNX : Hid (bst wholeB l (k + 1) = some b) := bst_less hb (by rw [hM, hN]; exact hmore)
      go_upto_region 5 with fail
      go_quiet (fail)
      have HD : Hid (Below w.heap.size w (wr.drewN nq) /\ Blk (wr.drewN nq) w.heap.size 49 #[.string ⟨#[]⟩, .int .i64 0, .int .i64 0, .int .i64 0, .int .i64 0, .slice none 0 0, .string ⟨#[]⟩]) := ⟨⟨H.out.1.os, H.out.1.tape, H.out.1.output, H.out.1.size, H.out.1.block⟩, H.out.2⟩
      generalize wr.drewN nq = wd at HD |-
      clear H c4 c1 c2
      go_wp2_with fail
      go_roundw
      case rel => exact ⟨k + 1, by omega, by go_num, by rw [HNX.out]; try rfl, HD.out⟩
      case measure => simp [intOf]; omega
   ·have hzb : (B == 0) = false := beq_eq_false_iff_ne.2 hz
    have HNX : Hid (bst wholeB l (k + 1) = bst wholeB l k) := bst_no (by unfold wholeB; rw [hB]; exact decide_eq_false hz)
    obtain ⟨pv, hpv⟩ : ∃ q, plV (bst wholeB l k) = q := ⟨_, rfl⟩
    have HPV : Hid (plV (bst wholeB l k) = pv) := hpv
    rw [hpv]
    clear hpv
    go_upto_region 5 with fail
    go_quiet (fail)
    have HD : Hid (Below w.heap.size w (wr.drewN nq) /\ Blk (wr.drewN nq) w.heap.size 49 #[.string ⟨#[]⟩, .int .i64 0, .int .i64 0, .int .i64 0, .int .i64 0, .slice none 0 0, .string ⟨#[]⟩]) := ⟨⟨H.out.1.os, H.out.1.tape, H.out.1.output, H.out.1.size, H.out.1.block⟩, H.out.2⟩
    generalize wr.drewN nq = wd at HD |-
    clear H c4 c1
    go_wp2_with fail
    go_roundw
    case rel => exact ⟨k + 1, by omega, by go_num, by rw [HNX.out]; rw [HPV.out]; try rfl, HD.out⟩
    case measure => simp [intOf]; omega
  ·have hki : ¬ (k : Int) < (n : Int) := by omega
   have hkl : k = n := by omega
   subst hkl
   have HNW : Hid (nwL wholeB l = (bst wholeB l k).map fun b => l.getD b zeL) := by show nwL wholeB l = _; unfold nwL; rw [HA.out.2.1]
   cases hb : bst wholeB l k with
   | none =>
    have HN : Hid (oR = none) := by show oR = none; rw [<- HR.out, HNW.out, hb]; rfl
    have r0 : wr.cell? ⟨w.heap.size, 0, none⟩ = some (.string ⟨#[]⟩) := H.out.2.cell 0
    have r1 : wr.cell? ⟨w.heap.size, 1, none⟩ = some (.int .i64 0) := H.out.2.cell 1
    have r2 : wr.cell? ⟨w.heap.size, 2, none⟩ = some (.int .i64 0) := H.out.2.cell 2
    have r3 : wr.cell? ⟨w.heap.size, 3, none⟩ = some (.int .i64 0) := H.out.2.cell 3
    have r4 : wr.cell? ⟨w.heap.size, 4, none⟩ = some (.int .i64 0) := H.out.2.cell 4
    have r5 : wr.cell? ⟨w.heap.size, 5, none⟩ = some (.slice none 0 0) := H.out.2.cell 5
    have r6 : wr.cell? ⟨w.heap.size, 6, none⟩ = some (.string ⟨#[]⟩) := H.out.2.cell 6
    have rf := fun i => H.out.2.free i
    simp only [plV]
    go_wp2_with fail
    refine bodyPost_ret (v := .tuple #[.agg #[.string ⟨#[]⟩, .int .i64 0, .int .i64 0, .int .i64 0, .int .i64 0, .slice none 0 0, .string ⟨#[]⟩], .bool false]) (by simp [results, Tryz.results149, go_sem, r0, r1, r2, r3, r4, r5, r6]; try rfl) rfl ⟨_, by rw [HN.out]; rfl, ?_, ?_⟩
    ·rw [HN.out]
     exact own_zeL _ _
    ·iterate 7 refine Below.setCell ?_ (by show w.heap.size <= w.heap.size; exact Nat.le_refl _) _
     exact H.out.1
   | some b =>
    have hblt := bst_lt hb
    have hbi : (b : Int) < (k : Int) := by omega
    have hb0 : (0 : Int) <= (b : Int) := by omega
    have hbn : ¬ (b : Int) < 0 := by omega
    obtain ⟨g, hg, hgw⟩ := HA.out.2.2.2 (by omega)
    subst hg
    obtain ⟨p1, q1, hoc, hc1⟩ := HA.out.1.one HA.out.2.1.symm (show b < l.length by have := HA.out.2.1; omega)
    obtain ⟨c, hc⟩ : ∃ c, l.getD b zeL = c := ⟨_, rfl⟩
    have HN : Hid (oR = some c) := by show oR = some c; rw [<- HR.out, HNW.out, hb, <- hc]; rfl
    rw [hc] at hc1 hoc
    have hrl : c.revs.length <= 20000000 := by rw [<- hc]; exact wtS_getD HA.out.2.2.1 (by have := HA.out.2.1; omega)
    have EC := crlCopy_any c (clV c (.slice p1 c.revs.length q1)) bs wr hrl (hoc.stays H.out.1)
    have x0 : wr.cell? ⟨g, b * 7, none⟩ = some (.string c.issuer) := (H.out.1.cell (p := ⟨g, b * 7, none⟩) hgw).trans (hc1 0 _ rfl)
    have x1 : wr.cell? ⟨g, b * 7 + 1, none⟩ = some (.int .i64 c.num) := (H.out.1.cell (p := ⟨g, b * 7 + 1, none⟩) hgw).trans (hc1 1 _ rfl)
    have x2 : wr.cell? ⟨g, b * 7 + 2, none⟩ = some (.int .i64 c.ths) := (H.out.1.cell (p := ⟨g, b * 7 + 2, none⟩) hgw).trans (hc1 2 _ rfl)
    have x3 : wr.cell? ⟨g, b * 7 + 3, none⟩ = some (.int .i64 c.nxt) := (H.out.1.cell (p := ⟨g, b * 7 + 3, none⟩) hgw).trans (hc1 3 _ rfl)
    have x4 : wr.cell? ⟨g, b * 7 + 4, none⟩ = some (.int .i64 c.bas) := (H.out.1.cell (p := ⟨g, b * 7 + 4, none⟩) hgw).trans (hc1 4 _ rfl)
    have x5 : wr.cell? ⟨g, b * 7 + 5, none⟩ = some (.slice p1 c.revs.length q1) := (H.out.1.cell (p := ⟨g, b * 7 + 5, none⟩) hgw).trans (hc1 5 _ rfl)
    have x6 : wr.cell? ⟨g, b * 7 + 6, none⟩ = some (.string c.sig) := (H.out.1.cell (p := ⟨g, b * 7 + 6, none⟩) hgw).trans (hc1 6 _ rfl)
    unfold clV at EC
    clear hc1 hoc hc hrl
    simp only [plV]
    go_wp2_with fail
    refine EC.mono ?_
    rintro e w3 ⟨u3, rfl, ⟨p3, rfl, ho3⟩, hb3⟩
    obtain ⟨qa, qc, hq3, -, -, -⟩ := OwnR.shape ho3
    subst hq3
    have H3 : Hid ((Below w.heap.size w w3 /\ Blk w3 w.heap.size 49 #[.string ⟨#[]⟩, .int .i64 0, .int .i64 0, .int .i64 0, .int .i64 0, .slice none 0 0, .string ⟨#[]⟩]) /\ OwnR w3 wr.heap.size (.slice qa c.revs.length qc) c.revs /\ w.heap.size < wr.heap.size) := ⟨⟨H.out.1.trans (hb3.mono H.out.1.size), H.out.2.below hb3 H.out.2.lt⟩, ho3, H.out.2.lt⟩
    clear H EC ho3 hb3 x0 x1 x2 x3 x4 x5 x6
    have r0 : w3.cell? ⟨w.heap.size, 0, none⟩ = some (.string ⟨#[]⟩) := H3.out.1.2.cell 0
    have r1 : w3.cell? ⟨w.heap.size, 1, none⟩ = some (.int .i64 0) := H3.out.1.2.cell 1
    have r2 : w3.cell? ⟨w.heap.size, 2, none⟩ = some (.int .i64 0) := H3.out.1.2.cell 2
    have r3 : w3.cell? ⟨w.heap.size, 3, none⟩ = some (.int .i64 0) := H3.out.1.2.cell 3
    have r4 : w3.cell? ⟨w.heap.size, 4, none⟩ = some (.int .i64 0) := H3.out.1.2.cell 4
    have r5 : w3.cell? ⟨w.heap.size, 5, none⟩ = some (.slice none 0 0) := H3.out.1.2.cell 5
    have r6 : w3.cell? ⟨w.heap.size, 6, none⟩ = some (.string ⟨#[]⟩) := H3.out.1.2.cell 6
    have rf := fun i => H3.out.1.2.free i
    unfold clV
    go_wp2_with fail
    refine bodyPost_ret (v := .tuple #[.agg #[.string c.issuer, .int .i64 c.num, .int .i64 c.ths, .int .i64 c.nxt, .int .i64 c.bas, .slice qa c.revs.length qc, .string c.sig], .bool true]) (by simp [results, Tryz.results149, go_sem, r0, r1, r2, r3, r4, r5, r6]; try rfl) rfl ⟨_, by rw [HN.out]; rfl, ?_, ?_⟩
    ·rw [HN.out]
     refine ⟨_, rfl, OwnR.base (row_same H3.out.2.1 (fun y hy => ?_)) (by have := H3.out.2.2; omega)⟩
     have hy2 := (World.ownsRow.lt H3.out.2.1 y hy).1
     have hy3 := H3.out.2.2
     iterate 7 rw [heap_setCell_other _ _ _ _ (by show y ≠ w.heap.size; omega)]
    ·iterate 7 refine Below.setCell ?_ (by show w.heap.size <= w.heap.size; exact Nat.le_refl _) _
     exact H3.out.1.1
set_option maxHeartbeats 12800000 in
theorem specDeltaOf_any (l : List Cl) (v : Value) (wc : Cl) (wp : Value) (bs : Nat) (fp : List Nat) (w : World) (hl : wtS l <= 20000000) (ha : OwnS crlKd w bs v l fp) :
  Calls Tryz.prog 55 #[v, clV wc wp] w fun e w' => NwPost w (nwL (deltaB wc.num) l) e w' := by
 obtain ⟨ao, cap, hv, hg⟩ := ha.row
 obtain ⟨n, hn⟩ : ∃ n, l.length = n := ⟨_, rfl⟩
 rw [hn] at hv hg
 subst hv
 have hn20 : n <= 20000000 := by unfold wtS at hl; omega
 have HA : Hid (OwnS crlKd w bs (.slice ao n cap) l fp /\ l.length = n /\ wtS l <= 20000000 /\ (0 < n -> ∃ g, ao = some ⟨g, 0, none⟩ /\ g < w.heap.size)) := ⟨ha, hn, hl, hg⟩
 clear ha hn hl hg
 obtain ⟨wn, hwn⟩ : ∃ q, wc.num = q := ⟨_, rfl⟩
 rw [hwn]
 obtain ⟨oR, hoR⟩ : ∃ r, nwL (deltaB wn) l = r := ⟨_, rfl⟩
 have HR : Hid (nwL (deltaB wn) l = oR) := hoR
 rw [hoR]
 clear hoR
 unfold clV
 rw [hwn]
 clear hwn
 obtain ⟨W0, hW0⟩ : ∃ V, V = w.alloc (Obj.cells #[.string wc.issuer, .int .i64 wn, .int .i64 wc.ths, .int .i64 wc.nxt, .int .i64 wc.bas, wp, .string wc.sig] 49) := ⟨_, rfl⟩
 obtain ⟨W1, hW1⟩ : ∃ V, V = W0.alloc (Obj.cells #[.string ⟨#[]⟩, .int .i64 0, .int .i64 0, .int .i64 0, .int .i64 0, .slice none 0 0, .string ⟨#[]⟩] 49) := ⟨_, rfl⟩
 have hs0 : W0.heap.size = w.heap.size + 1 := by rw [hW0]; exact size_alloc _ _
 have H1 : Hid (Below w.heap.size w W1 /\ Blk W1 (w.heap.size + 1) 49 #[.string ⟨#[]⟩, .int .i64 0, .int .i64 0, .int .i64 0, .int .i64 0, .slice none 0 0, .string ⟨#[]⟩] /\ Blk W1 w.heap.size 49 #[.string wc.issuer, .int .i64 wn, .int .i64 wc.ths, .int .i64 wc.nxt, .int .i64 wc.bas, wp, .string wc.sig]) := by
  have h1 := Blk.new W0 49 #[.string ⟨#[]⟩, .int .i64 0, .int .i64 0, .int .i64 0, .int .i64 0, .slice none 0 0, .string ⟨#[]⟩]
  rw [hs0] at h1
  rw [hW1]
  refine ⟨?_, h1, ?_⟩
  ·rw [hW0]
   exact ((Below.refl _ _).alloc (Nat.le_refl _) _).alloc (by rw [size_alloc]; omega) _
  ·rw [hW0]
   exact (Blk.new _ _ _).alloc _
 have wd1 : w.heap.size ≠ w.heap.size + 1 := by omega
 go_enter Tryz.func55, Tryz.ntmps55
 go_wp2_with fail
 rw [<- hW0, <- hW1]
 try rw [hs0]
 clear hW1 hW0 hs0
 go_loopw [6, 7] (fun av iv wr => ∃ k : Nat, k <= n /\ iv = .int .i64 k /\ av = .int .i64 (plV (bst (deltaB wn) l k)) /\ Hid (Below w.heap.size w wr /\ Blk wr (w.heap.size + 1) 49 #[.string ⟨#[]⟩, .int .i64 0, .int .i64 0, .int .i64 0, .int .i64 0, .slice none 0 0, .string ⟨#[]⟩] /\ Blk wr w.heap.size 49 #[.string wc.issuer, .int .i64 wn, .int .i64 wc.ths, .int .i64 wc.nxt, .int .i64 wc.bas, wp, .string wc.sig])) (fun _ iv _ => n - (intOf iv).toNat)
 case atStart => exact ⟨0, Nat.zero_le _, rfl, rfl, H1.out⟩
 case round =>
  clear H1
  obtain ⟨k, hk, rfl, rfl, H⟩ := hrel
  by_cases hkn : k < n
  ·have hkl : k < l.length := by rw [HA.out.2.1]; exact hkn
   obtain ⟨g, hg, hgw⟩ := HA.out.2.2.2 (by omega)
   subst hg
   obtain ⟨p1, q1, -, hc1⟩ := HA.out.1.one HA.out.2.1.symm hkl
   have hki : (k : Int) < (n : Int) := by omega
   have hk0 : (0 : Int) <= (k : Int) := by omega
   obtain ⟨c, hc⟩ : ∃ c, l.getD k zeL = c := ⟨_, rfl⟩
   rw [hc] at hc1
   obtain ⟨m1, hm1⟩ : ∃ m, c.revs.length = m := ⟨_, rfl⟩
   rw [hm1] at hc1
   have x0 : wr.cell? ⟨g, k * 7, none⟩ = some (.string c.issuer) := (H.out.1.cell (p := ⟨g, k * 7, none⟩) hgw).trans (hc1 0 _ rfl)
   have x1 : wr.cell? ⟨g, k * 7 + 1, none⟩ = some (.int .i64 c.num) := (H.out.1.cell (p := ⟨g, k * 7 + 1, none⟩) hgw).trans (hc1 1 _ rfl)
   have x2 : wr.cell? ⟨g, k * 7 + 2, none⟩ = some (.int .i64 c.ths) := (H.out.1.cell (p := ⟨g, k * 7 + 2, none⟩) hgw).trans (hc1 2 _ rfl)
   have x3 : wr.cell? ⟨g, k * 7 + 3, none⟩ = some (.int .i64 c.nxt) := (H.out.1.cell (p := ⟨g, k * 7 + 3, none⟩) hgw).trans (hc1 3 _ rfl)
   have x4 : wr.cell? ⟨g, k * 7 + 4, none⟩ = some (.int .i64 c.bas) := (H.out.1.cell (p := ⟨g, k * 7 + 4, none⟩) hgw).trans (hc1 4 _ rfl)
   have x5 : wr.cell? ⟨g, k * 7 + 5, none⟩ = some (.slice p1 m1 q1) := (H.out.1.cell (p := ⟨g, k * 7 + 5, none⟩) hgw).trans (hc1 5 _ rfl)
   have x6 : wr.cell? ⟨g, k * 7 + 6, none⟩ = some (.string c.sig) := (H.out.1.cell (p := ⟨g, k * 7 + 6, none⟩) hgw).trans (hc1 6 _ rfl)
   obtain ⟨B, hB⟩ : ∃ b, c.bas = b := ⟨_, rfl⟩
   obtain ⟨N, hN⟩ : ∃ b, c.num = b := ⟨_, rfl⟩
   rw [hB] at x4
   rw [hN] at x1
   obtain ⟨V, hV⟩ : ∃ V, V = wr.alloc (Obj.cells #[.string c.issuer, .int .i64 N, .int .i64 c.ths, .int .i64 c.nxt, .int .i64 B, .slice p1 m1 q1, .string c.sig] 49) := ⟨_, rfl⟩
   obtain ⟨gx, hgx⟩ : ∃ q, wr.heap.size = q := ⟨_, rfl⟩
   have HV : Hid ((Below w.heap.size w V /\ Blk V (w.heap.size + 1) 49 #[.string ⟨#[]⟩, .int .i64 0, .int .i64 0, .int .i64 0, .int .i64 0, .slice none 0 0, .string ⟨#[]⟩] /\ Blk V w.heap.size 49 #[.string wc.issuer, .int .i64 wn, .int .i64 wc.ths, .int .i64 wc.nxt, .int .i64 wc.bas, wp, .string wc.sig]) /\ Blk V gx 49 #[.string c.issuer, .int .i64 N, .int .i64 c.ths, .int .i64 c.nxt, .int .i64 B, .slice p1 m1 q1, .string c.sig] /\ Below w.heap.size w V) := by
    have hb : Below wr.heap.size wr V := by rw [hV]; exact (Below.refl _ _).alloc (Nat.le_refl _) _
    have h0 := H.out.1.trans (hb.mono H.out.1.size)
    exact ⟨⟨h0, H.out.2.1.below hb H.out.2.1.lt, H.out.2.2.below hb H.out.2.2.lt⟩, by rw [hV, <- hgx]; exact Blk.new _ _ _, h0⟩
   have hbw : ∀ b, bst (deltaB wn) l k = some b -> V.cell? ⟨g, b * 7 + 1, none⟩ = some (.int .i64 (l.getD b zeL).num) := fun b hb => by
    obtain ⟨p2, q2, -, hc2⟩ := HA.out.1.one HA.out.2.1.symm (show b < l.length by have := bst_lt hb; omega)
    exact (HV.out.2.2.cell (p := ⟨g, b * 7 + 1, none⟩) hgw).trans (hc2 1 _ rfl)
   clear hc1 hm1
   go_upto_region 6 with fail
   rw [<- hV]
   try rw [hgx]
   clear hV hgx x0 x1 x2 x3 x4 x5 x6 H hgw
   have c4 : V.cell? ⟨gx, 4, none⟩ = some (.int .i64 B) := HV.out.2.1.cell 4
   have c1 : V.cell? ⟨gx, 1, none⟩ = some (.int .i64 N) := HV.out.2.1.cell 1
   have d1 : V.cell? ⟨w.heap.size, 1, none⟩ = some (.int .i64 wn) := HV.out.1.2.2.cell 1
   have H : Hid (Below w.heap.size w V /\ Blk V (w.heap.size + 1) 49 #[.string ⟨#[]⟩, .int .i64 0, .int .i64 0, .int .i64 0, .int .i64 0, .slice none 0 0, .string ⟨#[]⟩] /\ Blk V w.heap.size 49 #[.string wc.issuer, .int .i64 wn, .int .i64 wc.ths, .int .i64 wc.nxt, .int .i64 wc.bas, wp, .string wc.sig]) := HV.out.1
   clear HV
   by_cases hz : B = 0
   ·have hzb : (B != 0) = false := by rw [hz]; rfl
    have HNX : Hid (bst (deltaB wn) l (k + 1) = bst (deltaB wn) l k) := bst_no (by unfold deltaB; rw [hc, hB, hN]; exact decide_eq_false (fun q => q.1 hz))
    obtain ⟨pv, hpv⟩ : ∃ q, plV (bst (deltaB wn) l k) = q := ⟨_, rfl⟩
    have HPV : Hid (plV (bst (deltaB wn) l k) = pv) := hpv
    rw [hpv]
    clear hpv hbw
    go_quiet (fail)
    have HD : Hid (Below w.heap.size w (V.drewN nq) /\ Blk (V.drewN nq) (w.heap.size + 1) 49 #[.string ⟨#[]⟩, .int .i64 0, .int .i64 0, .int .i64 0, .int .i64 0, .slice none 0 0, .string ⟨#[]⟩] /\ Blk (V.drewN nq) w.heap.size 49 #[.string wc.issuer, .int .i64 wn, .int .i64 wc.ths, .int .i64 wc.nxt, .int .i64 wc.bas, wp, .string wc.sig]) := ⟨⟨H.out.1.os, H.out.1.tape, H.out.1.output, H.out.1.size, H.out.1.block⟩, H.out.2.1, H.out.2.2⟩
    generalize V.drewN nq = wd at HD |-
    clear H c4 c1 d1
    go_wp2_with fail
    go_roundw
    case rel => exact ⟨k + 1, by omega, by go_num, by rw [HNX.out]; rw [HPV.out]; try rfl, HD.out⟩
    case measure => simp [intOf]; omega
   ·have hzb : (B != 0) = true := bne_iff_ne.2 hz
    by_cases h2 : B <= wn
    rotate_left
    ·skip
     have HNX : Hid (bst (deltaB wn) l (k + 1) = bst (deltaB wn) l k) := bst_no (by unfold deltaB; rw [hc, hB, hN]; exact decide_eq_false (fun q => h2 q.2.1))
     obtain ⟨pv, hpv⟩ : ∃ q, plV (bst (deltaB wn) l k) = q := ⟨_, rfl⟩
     have HPV : Hid (plV (bst (deltaB wn) l k) = pv) := hpv
     rw [hpv]
     clear hpv hbw
     go_quiet (fail)
     have HD : Hid (Below w.heap.size w (V.drewN nq) /\ Blk (V.drewN nq) (w.heap.size + 1) 49 #[.string ⟨#[]⟩, .int .i64 0, .int .i64 0, .int .i64 0, .int .i64 0, .slice none 0 0, .string ⟨#[]⟩] /\ Blk (V.drewN nq) w.heap.size 49 #[.string wc.issuer, .int .i64 wn, .int .i64 wc.ths, .int .i64 wc.nxt, .int .i64 wc.bas, wp, .string wc.sig]) := ⟨⟨H.out.1.os, H.out.1.tape, H.out.1.output, H.out.1.size, H.out.1.block⟩, H.out.2.1, H.out.2.2⟩
     generalize V.drewN nq = wd at HD |-
     clear H c4 c1 d1
     go_wp2_with fail
     go_roundw
     case rel => exact ⟨k + 1, by omega, by go_num, by rw [HNX.out]; rw [HPV.out]; try rfl, HD.out⟩
     case measure => simp [intOf]; omega
    by_cases h3 : wn < N
    rotate_left
    ·skip
     have HNX : Hid (bst (deltaB wn) l (k + 1) = bst (deltaB wn) l k) := bst_no (by unfold deltaB; rw [hc, hB, hN]; exact decide_eq_false (fun q => h3 q.2.2))
     obtain ⟨pv, hpv⟩ : ∃ q, plV (bst (deltaB wn) l k) = q := ⟨_, rfl⟩
     have HPV : Hid (plV (bst (deltaB wn) l k) = pv) := hpv
     rw [hpv]
     clear hpv hbw
     go_quiet (fail)
     have HD : Hid (Below w.heap.size w (V.drewN nq) /\ Blk (V.drewN nq) (w.heap.size + 1) 49 #[.string ⟨#[]⟩, .int .i64 0, .int .i64 0, .int .i64 0, .int .i64 0, .slice none 0 0, .string ⟨#[]⟩] /\ Blk (V.drewN nq) w.heap.size 49 #[.string wc.issuer, .int .i64 wn, .int .i64 wc.ths, .int .i64 wc.nxt, .int .i64 wc.bas, wp, .string wc.sig]) := ⟨⟨H.out.1.os, H.out.1.tape, H.out.1.output, H.out.1.size, H.out.1.block⟩, H.out.2.1, H.out.2.2⟩
     generalize V.drewN nq = wd at HD |-
     clear H c4 c1 d1
     go_wp2_with fail
     go_roundw
     case rel => exact ⟨k + 1, by omega, by go_num, by rw [HNX.out]; rw [HPV.out]; try rfl, HD.out⟩
     case measure => simp [intOf]; omega
    have HP : Hid (deltaB wn (l.getD k zeL) = true) := by show deltaB _ _ = true; unfold deltaB; rw [hc, hB, hN]; exact decide_eq_true ⟨hz, h2, h3⟩
    cases hb : bst (deltaB wn) l k with
    | none =>
     have HNX : Hid (bst (deltaB wn) l (k + 1) = some k) := bst_first hb HP.out
     simp only [plV]
     go_quiet (fail)
     have HD : Hid (Below w.heap.size w (V.drewN nq) /\ Blk (V.drewN nq) (w.heap.size + 1) 49 #[.string ⟨#[]⟩, .int .i64 0, .int .i64 0, .int .i64 0, .int .i64 0, .slice none 0 0, .string ⟨#[]⟩] /\ Blk (V.drewN nq) w.heap.size 49 #[.string wc.issuer, .int .i64 wn, .int .i64 wc.ths, .int .i64 wc.nxt, .int .i64 wc.bas, wp, .string wc.sig]) := ⟨⟨H.out.1.os, H.out.1.tape, H.out.1.output, H.out.1.size, H.out.1.block⟩, H.out.2.1, H.out.2.2⟩
     generalize V.drewN nq = wd at HD |-
     clear H c4 c1 d1
     go_wp2_with fail
     go_roundw
     case rel => exact ⟨k + 1, by omega, by go_num, by rw [HNX.out]; try rfl, HD.out⟩
     case measure => simp [intOf]; omega
    | some b =>
     have hblt := bst_lt hb
     have hbi : (b : Int) < (n : Int) := by omega
     have hb0 : (0 : Int) <= (b : Int) := by omega
     have hbn : ¬ (b : Int) < 0 := by omega
     obtain ⟨M, hM⟩ : ∃ q, (l.getD b zeL).num = q := ⟨_, rfl⟩
     have c2 := hbw b hb
     clear hbw
     rw [hM] at c2
     simp only [plV]
     by_cases hmore : M < N
     ·have HNX : Hid (bst (deltaB wn) l (k + 1) = some k) := bst_more hb HP.out (by rw [hM, hc, hN]; exact hmore)
      go_quiet (fail)
      have HD : Hid (Below w.heap.size w (V.drewN nq) /\ Blk (V.drewN nq) (w.heap.size + 1) 49 #[.string ⟨#[]⟩, .int .i64 0, .int .i64 0, .int .i64 0, .int .i64 0, .slice none 0 0, .string ⟨#[]⟩] /\ Blk (V.drewN nq) w.heap.size 49 #[.string wc.issuer, .int .i64 wn, .int .i64 wc.ths, .int .i64 wc.nxt, .int .i64 wc.bas, wp, .string wc.sig]) := ⟨⟨H.out.1.os, H.out.1.tape, H.out.1.output, H.out.1.size, H.out.1.block⟩, H.out.2.1, H.out.2.2⟩
      generalize V.drewN nq = wd at HD |-
      clear H c4 c1 d1 c2
      go_wp2_with fail
      go_roundw
      case rel => exact ⟨k + 1, by omega, by go_num, by rw [HNX.out]; try rfl, HD.out⟩
      case measure => simp [intOf]; omega
     ·have HNX : Hid (bst (deltaB wn) l (k + 1) = some b) := bst_less hb (by rw [hM, hc, hN]; exact hmore)
      go_quiet (fail)
      have HD : Hid (Below w.heap.size w (V.drewN nq) /\ Blk (V.drewN nq) (w.heap.size + 1) 49 #[.string ⟨#[]⟩, .int .i64 0, .int .i64 0, .int .i64 0, .int .i64 0, .slice none 0 0, .string ⟨#[]⟩] /\ Blk (V.drewN nq) w.heap.size 49 #[.string wc.issuer, .int .i64 wn, .int .i64 wc.ths, .int .i64 wc.nxt, .int .i64 wc.bas, wp, .string wc.sig]) := ⟨⟨H.out.1.os, H.out.1.tape, H.out.1.output, H.out.1.size, H.out.1.block⟩, H.out.2.1, H.out.2.2⟩
      generalize V.drewN nq = wd at HD |-
      clear H c4 c1 d1 c2
      go_wp2_with fail
      go_roundw
      case rel => exact ⟨k + 1, by omega, by go_num, by rw [HNX.out]; try rfl, HD.out⟩
      case measure => simp [intOf]; omega
  ·have hki : ¬ (k : Int) < (n : Int) := by omega
   have hkl : k = n := by omega
   subst hkl
   have HNW : Hid (nwL (deltaB wn) l = (bst (deltaB wn) l k).map fun b => l.getD b zeL) := by show nwL (deltaB wn) l = _; unfold nwL; rw [HA.out.2.1]
   cases hb : bst (deltaB wn) l k with
   | none =>
    have HN : Hid (oR = none) := by show oR = none; rw [<- HR.out, HNW.out, hb]; rfl
    have r0 : wr.cell? ⟨w.heap.size + 1, 0, none⟩ = some (.string ⟨#[]⟩) := H.out.2.1.cell 0
    have r1 : wr.cell? ⟨w.heap.size + 1, 1, none⟩ = some (.int .i64 0) := H.out.2.1.cell 1
    have r2 : wr.cell? ⟨w.heap.size + 1, 2, none⟩ = some (.int .i64 0) := H.out.2.1.cell 2
    have r3 : wr.cell? ⟨w.heap.size + 1, 3, none⟩ = some (.int .i64 0) := H.out.2.1.cell 3
    have r4 : wr.cell? ⟨w.heap.size + 1, 4, none⟩ = some (.int .i64 0) := H.out.2.1.cell 4
    have r5 : wr.cell? ⟨w.heap.size + 1, 5, none⟩ = some (.slice none 0 0) := H.out.2.1.cell 5
    have r6 : wr.cell? ⟨w.heap.size + 1, 6, none⟩ = some (.string ⟨#[]⟩) := H.out.2.1.cell 6
    have rf := fun i => H.out.2.1.free i
    simp only [plV]
    go_wp2_with fail
    refine bodyPost_ret (v := .tuple #[.agg #[.string ⟨#[]⟩, .int .i64 0, .int .i64 0, .int .i64 0, .int .i64 0, .slice none 0 0, .string ⟨#[]⟩], .bool false]) (by simp [results, Tryz.results55, go_sem, r0, r1, r2, r3, r4, r5, r6]; try rfl) rfl ⟨_, by rw [HN.out]; rfl, ?_, ?_⟩
    ·rw [HN.out]
     exact own_zeL _ _
    ·iterate 7 refine Below.setCell ?_ (by show w.heap.size <= (w.heap.size + 1); omega) _
     exact H.out.1
   | some b =>
    have hblt := bst_lt hb
    have hbi : (b : Int) < (k : Int) := by omega
    have hb0 : (0 : Int) <= (b : Int) := by omega
    have hbn : ¬ (b : Int) < 0 := by omega
    obtain ⟨g, hg, hgw⟩ := HA.out.2.2.2 (by omega)
    subst hg
    obtain ⟨p1, q1, hoc, hc1⟩ := HA.out.1.one HA.out.2.1.symm (show b < l.length by have := HA.out.2.1; omega)
    obtain ⟨c, hc⟩ : ∃ c, l.getD b zeL = c := ⟨_, rfl⟩
    have HN : Hid (oR = some c) := by show oR = some c; rw [<- HR.out, HNW.out, hb, <- hc]; rfl
    rw [hc] at hc1 hoc
    have hrl : c.revs.length <= 20000000 := by rw [<- hc]; exact wtS_getD HA.out.2.2.1 (by have := HA.out.2.1; omega)
    have EC := crlCopy_any c (clV c (.slice p1 c.revs.length q1)) bs wr hrl (hoc.stays H.out.1)
    have x0 : wr.cell? ⟨g, b * 7, none⟩ = some (.string c.issuer) := (H.out.1.cell (p := ⟨g, b * 7, none⟩) hgw).trans (hc1 0 _ rfl)
    have x1 : wr.cell? ⟨g, b * 7 + 1, none⟩ = some (.int .i64 c.num) := (H.out.1.cell (p := ⟨g, b * 7 + 1, none⟩) hgw).trans (hc1 1 _ rfl)
    have x2 : wr.cell? ⟨g, b * 7 + 2, none⟩ = some (.int .i64 c.ths) := (H.out.1.cell (p := ⟨g, b * 7 + 2, none⟩) hgw).trans (hc1 2 _ rfl)
    have x3 : wr.cell? ⟨g, b * 7 + 3, none⟩ = some (.int .i64 c.nxt) := (H.out.1.cell (p := ⟨g, b * 7 + 3, none⟩) hgw).trans (hc1 3 _ rfl)
    have x4 : wr.cell? ⟨g, b * 7 + 4, none⟩ = some (.int .i64 c.bas) := (H.out.1.cell (p := ⟨g, b * 7 + 4, none⟩) hgw).trans (hc1 4 _ rfl)
    have x5 : wr.cell? ⟨g, b * 7 + 5, none⟩ = some (.slice p1 c.revs.length q1) := (H.out.1.cell (p := ⟨g, b * 7 + 5, none⟩) hgw).trans (hc1 5 _ rfl)
    have x6 : wr.cell? ⟨g, b * 7 + 6, none⟩ = some (.string c.sig) := (H.out.1.cell (p := ⟨g, b * 7 + 6, none⟩) hgw).trans (hc1 6 _ rfl)
    unfold clV at EC
    clear hc1 hoc hc hrl
    simp only [plV]
    go_wp2_with fail
    refine EC.mono ?_
    rintro e w3 ⟨u3, rfl, ⟨p3, rfl, ho3⟩, hb3⟩
    obtain ⟨qa, qc, hq3, -, -, -⟩ := OwnR.shape ho3
    subst hq3
    have H3 : Hid ((Below w.heap.size w w3 /\ Blk w3 (w.heap.size + 1) 49 #[.string ⟨#[]⟩, .int .i64 0, .int .i64 0, .int .i64 0, .int .i64 0, .slice none 0 0, .string ⟨#[]⟩]) /\ OwnR w3 wr.heap.size (.slice qa c.revs.length qc) c.revs /\ (w.heap.size + 1) < wr.heap.size) := ⟨⟨H.out.1.trans (hb3.mono H.out.1.size), H.out.2.1.below hb3 H.out.2.1.lt⟩, ho3, H.out.2.1.lt⟩
    clear H EC ho3 hb3 x0 x1 x2 x3 x4 x5 x6
    have r0 : w3.cell? ⟨w.heap.size + 1, 0, none⟩ = some (.string ⟨#[]⟩) := H3.out.1.2.cell 0
    have r1 : w3.cell? ⟨w.heap.size + 1, 1, none⟩ = some (.int .i64 0) := H3.out.1.2.cell 1
    have r2 : w3.cell? ⟨w.heap.size + 1, 2, none⟩ = some (.int .i64 0) := H3.out.1.2.cell 2
    have r3 : w3.cell? ⟨w.heap.size + 1, 3, none⟩ = some (.int .i64 0) := H3.out.1.2.cell 3
    have r4 : w3.cell? ⟨w.heap.size + 1, 4, none⟩ = some (.int .i64 0) := H3.out.1.2.cell 4
    have r5 : w3.cell? ⟨w.heap.size + 1, 5, none⟩ = some (.slice none 0 0) := H3.out.1.2.cell 5
    have r6 : w3.cell? ⟨w.heap.size + 1, 6, none⟩ = some (.string ⟨#[]⟩) := H3.out.1.2.cell 6
    have rf := fun i => H3.out.1.2.free i
    unfold clV
    go_wp2_with fail
    refine bodyPost_ret (v := .tuple #[.agg #[.string c.issuer, .int .i64 c.num, .int .i64 c.ths, .int .i64 c.nxt, .int .i64 c.bas, .slice qa c.revs.length qc, .string c.sig], .bool true]) (by simp [results, Tryz.results55, go_sem, r0, r1, r2, r3, r4, r5, r6]; try rfl) rfl ⟨_, by rw [HN.out]; rfl, ?_, ?_⟩
    ·rw [HN.out]
     refine ⟨_, rfl, OwnR.base (row_same H3.out.2.1 (fun y hy => ?_)) (by have := H3.out.2.2; omega)⟩
     have hy2 := (World.ownsRow.lt H3.out.2.1 y hy).1
     have hy3 := H3.out.2.2
     iterate 7 rw [heap_setCell_other _ _ _ _ (by show y ≠ (w.heap.size + 1); omega)]
    ·iterate 7 refine Below.setCell ?_ (by show w.heap.size <= (w.heap.size + 1); omega) _
     exact H3.out.1.1
end Go.Proofs.YtjgbmnhoajiabaaGreatDoor
namespace Go.Proofs.YtjgbmnhoajiabaaGreatDoor
open Go.RowKit Der
set_option linter.unusedVariables false
theorem news_crl (w : World) (c : Cl) (p : Value) : ∀ j u, (clV c p).cells.toList[j]? = some u -> (w.alloc (.cells #[.string c.issuer, .int .i64 c.num, .int .i64 c.ths, .int .i64 c.nxt, .int .i64 c.bas, p, .string c.sig] 49)).cell? ((⟨w.heap.size, 0, none⟩ : Addr).add j) = some u := by
 intro j u hj
 rw [Addr.add_lit, Nat.zero_add, World.cell?_alloc_mark w _ 49 _ j]
 simpa [clV, Value.cells] using hj
theorem wpList_append_crl {w : World} {ops : Array Oper} {rest : List Oper} {o : Oper} {a : Act} {Q : Exit -> Act -> World -> Prop} (hgd : o.guard = none) (p q : Operand) (ho : o.op = .call { callee := .builtin .append, args := #[p, q], argTypes := #[56, 56] })
  (base : Nat) (v : Value) (l : List Cl) (fp : List Nat) (c : Cl) (pv : Value) (hp : a.eval p = v) (H : Nat) (hq : a.eval q = .slice (some ⟨H, 0, none⟩) 1 1) (hH : w.heap.size = H) (hO : OwnS crlKd w base v l fp) (hu : OwnL w base (clV c pv) c) (hd : ∀ b ∈ fpL (clV c pv), b ∉ fp) (hbase : base <= w.heap.size) (hl : l.length <= 100000000)
  (h : ∀ g cap w' fp', OwnS crlKd w' base (.slice (some ⟨g, 0, none⟩) (l ++ [c]).length cap) (l ++ [c]) fp' -> Below base w w' -> wpList Tryz.prog ops Q rest (a.put o.dst (.slice (some ⟨g, 0, none⟩) (l.length + 1) cap)) w') :
  wpList Tryz.prog ops Q (o :: rest) a (w.alloc (.cells #[.string c.issuer, .int .i64 c.num, .int .i64 c.ths, .int .i64 c.nxt, .int .i64 c.bas, pv, .string c.sig] 49)) := by
 subst hH
 have hlt := hO.lt
 obtain ⟨vs, hvl, hro, he, rfl, hn⟩ := hO
 obtain ⟨i0, hi, hz0, hz1, hz2⟩ := info_parts infoCrl
 have hb1 : Below w.heap.size w (w.alloc (.cells #[.string c.issuer, .int .i64 c.num, .int .i64 c.ths, .int .i64 c.nxt, .int .i64 c.bas, pv, .string c.sig] 49)) := (Below.refl _ _).alloc (Nat.le_refl _) _
 have hsz := size_alloc w (.cells #[.string c.issuer, .int .i64 c.num, .int .i64 c.ths, .int .i64 c.nxt, .int .i64 c.bas, pv, .string c.sig] 49)
 refine wpList_append_lies _ hgd p q 56 ho base 49 i0 (.agg #[.string ⟨#[]⟩, .int .i64 0, .int .i64 0, .int .i64 0, .int .i64 0, .slice none 0 0, .string ⟨#[]⟩]) 7 88 Tryz.underlying56 hi hz0 hz1 hz2 rfl (by decide) v l.length (cellsV vs) hp (own_kept hro hb1) ⟨w.heap.size, 0, none⟩ 1 1 (clV c pv).cells.toList hq rfl (news_crl w c pv) (crlKd.size (OwnL.stays hu hb1)).2 (by decide) (by unfold maxLen; omega) (by omega) (by omega) _ rfl ?_
 intro g cap w' hown hgrow hg hlt2
 obtain ⟨fp', hS, -⟩ := OwnS.snoc (k := crlKd) (fp := []) (c := c) (u := clV c pv) hvl (own_kept hro hb1) (fun j a b => crlKd.same (he j a b) fun y hy => hb1.block y (crlKd.lt (he j a b) y hy).2) hn (OwnL.stays hu hb1) hd hown hgrow hg
 refine h g cap w' fp' hS ((hb1.mono hbase).grown hgrow (by rw [hsz]; omega) (fun b hb => (hlt b (List.mem_append_left _ (Option.mem_toList.2 hb))).1))
def CoPost (w : World) (l : List Cl) (e : Ending) (w' : World) : Prop := ∃ u fp', e = .returned u /\ OwnS crlKd w' w.heap.size u l fp' /\ Below w.heap.size w w'
def belB (iss key : ByteArray) (time : Int) (c : Cl) : Bool := crlOk c && (c.issuer.toList == iss.toList) && decide (c.ths <= time) && decide (time <= c.nxt) && sokB key (⟨((writeI 4 (bodyL c)).getD []).toArray⟩ : ByteArray) c.sig
theorem bel_ok {iss key : ByteArray} {time : Int} {c : Cl} (h : crlOk c = false) : belB iss key time c = false := by unfold belB; rw [h]; rfl
theorem bel_iss {iss key : ByteArray} {time : Int} {c : Cl} (h : (c.issuer.toList == iss.toList) = false) : belB iss key time c = false := by unfold belB; rw [h, Bool.and_false]; rfl
theorem bel_ths {iss key : ByteArray} {time : Int} {c : Cl} (h : ¬ c.ths <= time) : belB iss key time c = false := by unfold belB; rw [decide_eq_false h, Bool.and_false]; rfl
theorem bel_nxt {iss key : ByteArray} {time : Int} {c : Cl} (h : ¬ time <= c.nxt) : belB iss key time c = false := by unfold belB; rw [decide_eq_false h, Bool.and_false]; rfl
theorem bel_all {iss key : ByteArray} {time : Int} {c : Cl} (h1 : crlOk c = true) (h2 : (c.issuer.toList == iss.toList) = true) (h3 : c.ths <= time) (h4 : time <= c.nxt) : belB iss key time c = sokB key (⟨((writeI 4 (bodyL c)).getD []).toArray⟩ : ByteArray) c.sig := by unfold belB; rw [h1, h2, decide_eq_true h3, decide_eq_true h4]; rfl
theorem filter_next {l : List Cl} {f : Cl -> Bool} {k : Nat} (hk : k < l.length) : (l.take (k + 1)).filter f = (l.take k).filter f ++ (if f (l.getD k zeL) = true then [l.getD k zeL] else []) := by
 have e : l.getD k zeL = l[k] := by rw [List.getD_eq_getElem?_getD, List.getElem?_eq_getElem hk]; rfl
 rw [List.take_succ_eq_append_getElem hk, List.filter_append, e]
 congr 1
 by_cases h : f l[k] = true
 ·rw [if_pos h, List.filter_cons_of_pos h]; rfl
 ·rw [if_neg h, List.filter_cons_of_neg h]; rfl
theorem wtS_getD2 {l : List Cl} {k m : Nat} (h : wtS l <= m) (hk : k < l.length) : wtL (l.getD k zeL) <= m := by
 rw [List.getD_eq_getElem?_getD, List.getElem?_eq_getElem hk]
 exact Nat.le_trans (wtS_mem (List.getElem_mem hk)) h
theorem wd_getD {l : List Cl} {k : Nat} (h : ∀ c ∈ l, WdL c) (hk : k < l.length) : WdL (l.getD k zeL) := by
 rw [List.getD_eq_getElem?_getD, List.getElem?_eq_getElem hk]
 exact h _ (List.getElem_mem hk)
end Go.Proofs.YtjgbmnhoajiabaaGreatDoor
