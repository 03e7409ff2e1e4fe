/-
  Texts of the proof.
-/
import Derived.Maps.OwnSet
import Derived.Maps.Views
import Derived.Maps.OwnOps
import Derived.WalkKit
import Derived.Test.YtjgbmnhoajiabaaGreatDoorSQ44
set_option maxRecDepth 100000
namespace Go.Proofs.YtjgbmnhoajiabaaGreatDoor
open Go.RowKit
set_option linter.unusedVariables false
theorem bst_P {P : Cl -> Bool} {l : List Cl} : ∀ {k b : Nat}, bst P l k = some b -> P (l.getD b zeL) = true
 | 0, b, h => by simp [bst] at h
 | k + 1, b, h => by
  unfold bst at h
  split at h
  ·split at h
   ·next hp =>
    simp only [Option.some.injEq] at h
    subst h
    exact hp
   ·cases h
  ·next b' hb' =>
   split at h
   ·next hp =>
    simp only [Option.some.injEq] at h
    subst h
    exact hp.1
   ·simp only [Option.some.injEq] at h
    subst h
    exact bst_P hb'
def baseB (wh : Cl) (s : Int) : Int × Int := if listedL wh.revs s = 0 then (1, 0) else (2, listedL wh.revs s)
def stB (told : List Cl) (s : Int) : Int × Int := match nwL wholeB told with
 | none => (3, 0)
 | some wh => match nwL (deltaB wh.num) told with
  | none => baseB wh s
  | some d => if listedL d.revs s = 8 then (1, 0) else if listedL d.revs s = 0 then baseB wh s else (2, listedL d.revs s)
theorem st_none {told : List Cl} {s : Int} (h : nwL wholeB told = none) : stB told s = (3, 0) := by unfold stB; rw [h]
theorem st_base {told : List Cl} {s : Int} {wh : Cl} (h : nwL wholeB told = some wh) (h2 : nwL (deltaB wh.num) told = none) : stB told s = baseB wh s := by unfold stB; rw [h]; dsimp only; rw [h2]
theorem st_back {told : List Cl} {s : Int} {wh d : Cl} (h : nwL wholeB told = some wh) (h2 : nwL (deltaB wh.num) told = some d) (h3 : listedL d.revs s = 8) : stB told s = (1, 0) := by unfold stB; rw [h]; dsimp only; rw [h2]; dsimp only; rw [if_pos h3]
theorem st_skip {told : List Cl} {s : Int} {wh d : Cl} (h : nwL wholeB told = some wh) (h2 : nwL (deltaB wh.num) told = some d) (h3 : listedL d.revs s = 0) : stB told s = baseB wh s := by unfold stB; rw [h]; dsimp only; rw [h2]; dsimp only; rw [if_neg (by omega), if_pos h3]
theorem st_gone {told : List Cl} {s : Int} {wh d : Cl} (h : nwL wholeB told = some wh) (h2 : nwL (deltaB wh.num) told = some d) (h3 : ¬ listedL d.revs s = 8) (h4 : ¬ listedL d.revs s = 0) : stB told s = (2, listedL d.revs s) := by unfold stB; rw [h]; dsimp only; rw [h2]; dsimp only; rw [if_neg h3, if_neg h4]
theorem base_yes {wh : Cl} {s : Int} (h : ¬ listedL wh.revs s = 0) : baseB wh s = (2, listedL wh.revs s) := if_neg h
theorem base_no {wh : Cl} {s : Int} (h : listedL wh.revs s = 0) : baseB wh s = (1, 0) := if_pos h
def GoodR (l : List (Int × Int)) : Prop := l.Pairwise (fun a b => a.1 < b.1) /\ ∀ p ∈ l, 1 <= p.2
theorem asc_far {l : List (Int × Int)} (h : ∀ i, 0 < i -> i < l.length -> (l.getD (i - 1) (0, 0)).1 < (l.getD i (0, 0)).1) : ∀ (d i : Nat), i + (d + 1) < l.length -> (l.getD i (0, 0)).1 < (l.getD (i + (d + 1)) (0, 0)).1
 | 0, i, hi => by
  have := h (i + 1) (by omega) hi
  simpa using this
 | d + 1, i, hi => by
  have h1 := asc_far h d i (by omega)
  have h2 := h (i + (d + 1 + 1)) (by omega) hi
  have e : i + (d + 1 + 1) - 1 = i + (d + 1) := by omega
  rw [e] at h2
  omega
theorem good_of {c : Cl} (h : crlOk c = true) : GoodR c.revs /\ (c.bas = 0 -> ∀ p ∈ c.revs, p.2 ≠ 8) := by
 unfold crlOk at h
 simp only [Bool.and_eq_true, decide_eq_true_eq] at h
 obtain ⟨-, hr, -⟩ := h
 unfold revsOk at hr
 simp only [Bool.and_eq_true, decide_eq_true_eq] at hr
 obtain ⟨-, ha, hs⟩ := hr
 have hc : ∀ i, 0 < i -> i < c.revs.length -> (c.revs.getD (i - 1) (0, 0)).1 < (c.revs.getD i (0, 0)).1 := fun i h0 hi => by
  refine Decidable.by_contra fun hn => ?_
  rw [asc_no (l := serials c.revs) i h0 (by rw [serials_len]; exact hi) (by rw [serials_getD, serials_getD]; unfold lsI; exact decide_eq_false hn)] at hs
  cases hs
 refine ⟨⟨?_, fun p hp => ?_⟩, fun hb p hp he => ?_⟩
 ·rw [List.pairwise_iff_getElem]
  intro i j hi hj hij
  have := asc_far hc (j - i - 1) i (by omega)
  rw [show i + (j - i - 1 + 1) = j by omega] at this
  simpa [List.getD, hi, hj] using this
 ·have := (List.all_eq_true.1 ha) p hp
  unfold revIn inB at this
  simp at this
  omega
 ·have := (List.all_eq_true.1 ha) p hp
  unfold revIn inB at this
  simp [he, hb] at this
theorem listed_none {l : List (Int × Int)} {s : Int} (h : ∀ p ∈ l, p.1 ≠ s) : listedL l s = 0 := by
 induction l with
 | nil => rfl
 | cons p l ih =>
  show (if _ then _ else _) = _
  rw [if_neg (h p (List.mem_cons_self ..)), ih fun q hq => h q (List.mem_cons_of_mem _ hq)]
theorem listed_mem {l : List (Int × Int)} {s : Int} : listedL l s = 0 ∨ ∃ p ∈ l, listedL l s = p.2 := by
 induction l with
 | nil => exact .inl rfl
 | cons p l ih =>
  by_cases h : p.1 = s
  ·exact .inr ⟨p, List.mem_cons_self .., if_pos h⟩
  ·have e : listedL (p :: l) s = listedL l s := if_neg h
   rw [e]
   rcases ih with ih | ⟨q, hq, e⟩
   ·exact .inl ih
   ·exact .inr ⟨q, List.mem_cons_of_mem _ hq, e⟩
def hrD (D : DataW Unit) (l : List (Int × Int)) : DataW Unit := l.foldl (fun m p => if p.2 = 8 then m.del (.int .i64 p.1) else m.put (.int .i64 p.1) (.lit (.int .i64 p.2))) D
theorem hrD_next {D : DataW Unit} {l : List (Int × Int)} {k : Nat} (hk : k < l.length) : hrD D (l.take (k + 1)) = if (l.getD k (0, 0)).2 = 8 then (hrD D (l.take k)).del (.int .i64 (l.getD k (0, 0)).1) else (hrD D (l.take k)).put (.int .i64 (l.getD k (0, 0)).1) (.lit (.int .i64 (l.getD k (0, 0)).2)) := by
 have e : l.getD k (0, 0) = l[k] := by simp [List.getD, hk]
 rw [e]
 unfold hrD
 rw [List.take_succ_eq_append_getElem hk, List.foldl_append]
 rfl
theorem key_ne {a b : Int} (h : a ≠ b) : (Lit.int .i64 a) ≠ (Lit.int .i64 b) := fun e => h (by injection e)
theorem keyLit (a : Int) : WideAt.IsKeyLit (Lit.int .i64 a) := by
 first | exact trivial | simp [WideAt.IsKeyLit] | (unfold WideAt.IsKeyLit; simp)
theorem hr_isMap : ∀ (l : List (Int × Int)) (D : DataW Unit), Maps.IsMap D -> Maps.IsMap (hrD D l)
 | [], D, h => h
 | p :: l, D, h => by
  show Maps.IsMap (hrD (if p.2 = 8 then D.del (.int .i64 p.1) else D.put (.int .i64 p.1) (.lit (.int .i64 p.2))) l)
  refine hr_isMap l _ ?_
  by_cases e : p.2 = 8
  ·rw [if_pos e]; exact h.del _
  ·rw [if_neg e]; exact h.put _ _
theorem hr_at : ∀ (l : List (Int × Int)) (D : DataW Unit) (s : Int), Maps.IsMap D -> GoodR l -> ∀ z, (hrD D l).atKey (.int .i64 s) z = if listedL l s = 0 then D.atKey (.int .i64 s) z else if listedL l s = 8 then z else .lit (.int .i64 (listedL l s))
 | [], D, s, _, _, z => by rw [show listedL [] s = 0 from rfl, if_pos rfl]; rfl
 | p :: l, D, s, hD, hg, z => by
  have hg1 := List.pairwise_cons.1 hg.1
  have hgl : GoodR l := ⟨hg1.2, fun q hq => hg.2 q (List.mem_cons_of_mem _ hq)⟩
  have hp := hg.2 p (List.mem_cons_self ..)
  have hM : Maps.IsMap (if p.2 = 8 then D.del (.int .i64 p.1) else D.put (.int .i64 p.1) (.lit (.int .i64 p.2))) := by
   by_cases e : p.2 = 8
   ·rw [if_pos e]; exact hD.del _
   ·rw [if_neg e]; exact hD.put _ _
  have ih := hr_at l (if p.2 = 8 then D.del (.int .i64 p.1) else D.put (.int .i64 p.1) (.lit (.int .i64 p.2))) s hM hgl z
  show (hrD _ l).atKey _ z = _
  rw [ih]
  by_cases h : p.1 = s
  ·have e1 : listedL (p :: l) s = p.2 := if_pos h
   have e2 : listedL l s = 0 := listed_none fun q hq => by have := hg1.1 q hq; omega
   have hp0 : ¬ p.2 = 0 := by omega
   rw [e1, e2, if_pos rfl, if_neg hp0]
   by_cases e : p.2 = 8
   ·rw [if_pos e, if_pos e, h, Maps.atKey_del_same]
   ·rw [if_neg e, if_neg e, h, Maps.atKey_put_same hD (keyLit _)]
  ·have e1 : listedL (p :: l) s = listedL l s := if_neg h
   rw [e1]
   congr 1
   by_cases e : p.2 = 8
   ·rw [if_pos e, Maps.atKey_del_other (key_ne fun q => h q.symm)]
   ·rw [if_neg e, Maps.atKey_put_other (key_ne fun q => h q.symm)]
theorem hr_told {told : List Cl} {s : Int} {wh : Cl} {l2 : List (Int × Int)} (hok : ∀ c ∈ told, crlOk c = true) (h : nwL wholeB told = some wh) (hl2 : (nwL (deltaB wh.num) told = none /\ l2 = []) ∨ ∃ d, nwL (deltaB wh.num) told = some d /\ l2 = d.revs) :
  (Maps.has (hrD (hrD (.map []) wh.revs) l2) (.int .i64 s) = true /\ ∃ r, stB told s = (2, r) /\ ∀ z, (hrD (hrD (.map []) wh.revs) l2).atKey (.int .i64 s) z = .lit (.int .i64 r)) ∨ (Maps.has (hrD (hrD (.map []) wh.revs) l2) (.int .i64 s) = false /\ stB told s = (1, 0)) := by
 have hw := nw_mem h
 obtain ⟨gw, g8⟩ := good_of (hok wh hw)
 have hbas : wh.bas = 0 := by
  unfold nwL at h
  obtain ⟨b, hb, rfl⟩ := Option.map_eq_some_iff.1 h
  exact of_decide_eq_true (bst_P hb)
 have g2 : GoodR l2 := by
  rcases hl2 with ⟨-, rfl⟩ | ⟨d, hd, rfl⟩
  ·exact ⟨List.Pairwise.nil, fun p hp => by cases hp⟩
  ·exact (good_of (hok d (nw_mem hd))).1
 have hM : Maps.IsMap (hrD (.map []) wh.revs) := hr_isMap _ _ Maps.isMap_empty
 have hat := fun z => hr_at l2 (hrD (.map []) wh.revs) s hM g2 z
 have hat1 := fun z => hr_at wh.revs (.map []) s Maps.isMap_empty gw z
 have hemp : ∀ z : DataW Unit, (DataW.map ([] : List (Lit × DataW Unit))).atKey (.int .i64 s) z = z := fun z => Maps.atKey_of_not_has rfl z
 have h8 : ¬ listedL wh.revs s = 8 := fun e => by
  rcases listed_mem (l := wh.revs) (s := s) with h0 | ⟨p, hp, e2⟩
  ·omega
  ·exact g8 hbas p hp (by omega)
 have hbase : listedL l2 s = 0 -> stB told s = baseB wh s := fun h0 => by
  rcases hl2 with ⟨hn, -⟩ | ⟨d, hd, rfl⟩
  ·exact st_base h hn
  ·exact st_skip h hd h0
 by_cases h0 : listedL l2 s = 0
 ·by_cases q0 : listedL wh.revs s = 0
  ·refine .inr ⟨Maps.has_false_of_atKey fun z => ?_, by rw [hbase h0, base_no q0]⟩
   rw [hat, if_pos h0, hat1, if_pos q0, hemp]
  ·have hz : ∀ z, (hrD (hrD (.map []) wh.revs) l2).atKey (.int .i64 s) z = .lit (.int .i64 (listedL wh.revs s)) := fun z => by rw [hat, if_pos h0, hat1, if_neg q0, if_neg h8]
   exact .inl ⟨Maps.has_true_of_atKey hz, _, by rw [hbase h0, base_yes q0], hz⟩
 ·obtain ⟨d, hd, rfl⟩ : ∃ d, nwL (deltaB wh.num) told = some d /\ l2 = d.revs := by
   rcases hl2 with ⟨-, rfl⟩ | hh
   ·exact absurd rfl h0
   ·exact hh
  by_cases h1 : listedL d.revs s = 8
  ·refine .inr ⟨Maps.has_false_of_atKey fun z => ?_, st_back h hd h1⟩
   rw [hat, if_neg h0, if_pos h1]
  ·have hz : ∀ z, (hrD (hrD (.map []) wh.revs) d.revs).atKey (.int .i64 s) z = .lit (.int .i64 (listedL d.revs s)) := fun z => by rw [hat, if_neg h0, if_neg h1]
   exact .inl ⟨Maps.has_true_of_atKey hz, _, st_gone h hd h1 h0, hz⟩
theorem Blk.out {w w' : World} {b : Nat} {t : TypeId} {vs : Array Value} {fp : List Nat} (h : Blk w b t vs) (ho : Out fp w w') (hn : b ∉ fp) : Blk w' b t vs := (ho.2.2.2.2 b h.lt hn).trans h
theorem Below.on {B : Nat} {w W W' : World} (h : Below B w W) (hb : Below W.heap.size W W') (hB : B <= W.heap.size) : Below B w W' := h.trans (hb.mono hB)
theorem Below.out {B : Nat} {w W W' : World} {fp : List Nat} (h : Below B w W) (ho : Out fp W W') (hf : ∀ b ∈ fp, B <= b) (hB : B <= W.heap.size) : Below B w W' := h.trans (ho.below hf hB)
end Go.Proofs.YtjgbmnhoajiabaaGreatDoor
namespace Go.Proofs.YtjgbmnhoajiabaaGreatDoor
open Go.RowKit Go.Maps
set_option linter.unusedVariables false
set_option linter.unusedSimpArgs false
theorem law3 : Keyed Tryz.prog 3 := int_keyed Tryz.underlying3
theorem zero3 (w : World) : (zeroValue 3).run Tryz.prog w = .ok (.int .i64 0) w := by kernel_rfl
def MapAt (w : World) (b n : Nat) (D : DataW Unit) : Prop := w.ownsMap Tryz.prog 3 (plainElem Tryz.prog 3) b n D
theorem MapAt.below {w w' : World} {b n : Nat} {D : DataW Unit} (h : MapAt w b n D) (hb : Below w.heap.size w w') : MapAt w' b n D :=
 World.ownsMap.kept h ⟨hb.os, hb.tape, hb.output, hb.size, fun k hk _ => hb.block k hk⟩ (row := none) (by simp)
theorem wf_of {x : Int} (h : -9223372036854775808 <= x /\ x <= 9223372036854775807) : (Lit.int .i64 x).wf = true := by
 simp [Lit.wf, IntKind.min, IntKind.max, IntKind.signed, IntKind.bits]
 omega
set_option maxHeartbeats 6400000 in
theorem hear_any (c : Cl) (p : Value) (b n : Nat) (D : DataW Unit) (w : World) (hn : n <= 100000000) (hl : c.revs.length <= 1048576) (hwd : WdR c.revs) (hm : MapAt w b n D) (ha : ∀ W, Out [b] w W -> ClAt W (clV c p) c) :
  Calls Tryz.prog 148 #[.map (some b), clV c p] w fun e w' => e = .returned (.tuple #[]) /\ MapAt w' b (n + c.revs.length) (hrD D c.revs) /\ Out [b] w w' := by
 obtain ⟨pa, pc, hp⟩ := (ha w (Out.refl _ _)).shape
 have hp2 : p = .slice pa c.revs.length pc := by
  unfold clV at hp
  injection hp with hp
  have := congrArg (fun a : Array Value => a[5]?) hp
  simpa using this
 obtain ⟨m, hm1⟩ : ∃ m, c.revs.length = m := ⟨_, rfl⟩
 rw [hm1] at hp2 hl |-
 subst hp2
 have HA : Hid ((∀ W, Out [b] w W -> ClAt W (clV c (.slice pa m pc)) c) /\ c.revs.length = m /\ WdR c.revs /\ MapAt w b n D) := ⟨ha, hm1, hwd, hm⟩
 clear ha hm1 hwd hm hp
 unfold clV
 obtain ⟨W1, hW1⟩ : ∃ V, V = w.alloc (Obj.cells #[.string c.issuer, .int .i64 c.num, .int .i64 c.ths, .int .i64 c.nxt, .int .i64 c.bas, .slice pa m pc, .string c.sig] 49) := ⟨_, rfl⟩
 have HB1 : Hid (Below w.heap.size w W1 /\ Blk W1 w.heap.size 49 #[.string c.issuer, .int .i64 c.num, .int .i64 c.ths, .int .i64 c.nxt, .int .i64 c.bas, .slice pa m pc, .string c.sig]) := by rw [hW1]; exact ⟨(Below.refl _ _).alloc (Nat.le_refl _) _, Blk.new _ _ _⟩
 go_enter Tryz.func148, Tryz.ntmps148
 go_upto_region 1 with fail
 rw [<- hW1]
 clear hW1
 have a5 : W1.cell? ⟨w.heap.size, 5, none⟩ = some (.slice pa m pc) := HB1.out.2.cell 5
 go_wp2_with fail
 clear a5
 go_loopw [9] (fun iv wr => ∃ k : Nat, k <= m /\ iv = .int .i64 k /\ Hid (MapAt wr b (n + k) (hrD D (c.revs.take k)) /\ Out [b] w wr)) (fun iv _ => m - (intOf iv).toNat)
 case atStart => exact ⟨0, Nat.zero_le _, rfl, HA.out.2.2.2.below HB1.out.1, Out.of_below HB1.out.1⟩
 case round =>
  clear HB1
  obtain ⟨k, hk, rfl, H⟩ := hrel
  by_cases hkm : k < m
  ·have hkl : k < c.revs.length := by rw [HA.out.2.1]; exact hkm
   obtain ⟨p', hp', ao, cap, hv, hc⟩ := HA.out.1 wr H.out.2
   have hpp : p' = .slice pa m pc := by
    unfold clV at hp'
    injection hp' with hp'
    have := congrArg (fun a : Array Value => a[5]?) hp'
    simpa using this.symm
   rw [hpp] at hv
   injection hv with hv1 hv2 hv3
   obtain ⟨g, hg, hgl, c0, c1⟩ := hc k hkl
   have hpa : pa = some ⟨g, 0, none⟩ := hv1.trans hg
   subst hpa
   have hki : (k : Int) < (m : Int) := by omega
   have hk0 : (0 : Int) <= (k : Int) := by omega
   have hwk := HA.out.2.2.1 _ (getR_mem hkl)
   have HNX := hrD_next (D := D) hkl
   obtain ⟨s, hs⟩ : ∃ s, (c.revs.getD k (0, 0)).1 = s := ⟨_, rfl⟩
   obtain ⟨r, hr⟩ : ∃ r, (c.revs.getD k (0, 0)).2 = r := ⟨_, rfl⟩
   rw [hs] at c0
   rw [hr] at c1
   rw [hs, hr] at hwk HNX
   have HN : Hid (hrD D (c.revs.take (k + 1)) = if r = 8 then (hrD D (c.revs.take k)).del (.int .i64 s) else (hrD D (c.revs.take k)).put (.int .i64 s) (.lit (.int .i64 r))) := HNX
   obtain ⟨V, hV⟩ : ∃ V, V = wr.alloc (Obj.cells #[.int .i64 s, .int .i64 r] 161) := ⟨_, rfl⟩
   obtain ⟨gx, hgx⟩ : ∃ q, wr.heap.size = q := ⟨_, rfl⟩
   have HV : Hid ((MapAt V b (n + k) (hrD D (c.revs.take k)) /\ Out [b] w V) /\ Blk V gx 161 #[.int .i64 s, .int .i64 r]) := by
    have hb : Below wr.heap.size wr V := by rw [hV]; exact (Below.refl _ _).alloc (Nat.le_refl _) _
    exact ⟨⟨H.out.1.below hb, H.out.2.trans (Out.of_below hb)⟩, by rw [hV, <- hgx]; exact Blk.new _ _ _⟩
   have hkey : keyOf Tryz.prog 3 (.int .i64 s) = some (.int .i64 s) := keyOf_int_mk Tryz.underlying3 (wf_of hwk.1)
   have hval := plainElem_int (H := Unit) (P := Tryz.prog) Tryz.underlying3 (wf_of hwk.2)
   clear hc hp' hpp hv1 hv2 hv3 hg hgl HNX hs hr hkl H
   go_upto_region 4 with fail
   rw [<- hV]
   try rw [hgx]
   clear hV hgx c0 c1
   have e0 : V.cell? ⟨gx, 0, none⟩ = some (.int .i64 s) := HV.out.2.cell 0
   have e1 : V.cell? ⟨gx, 1, none⟩ = some (.int .i64 r) := HV.out.2.cell 1
   have hown : V.ownsMap Tryz.prog 3 (plainElem Tryz.prog 3) b (n + k) (hrD D (c.revs.take k)) := HV.out.1.1
   by_cases h8 : r = 8
   ·have h8b : (r == 8) = true := by rw [h8]; rfl
    have HN2 : Hid (hrD D (c.revs.take (k + 1)) = (hrD D (c.revs.take k)).del (.int .i64 s)) := by show _ = _; rw [HN.out, if_pos h8]
    clear HN
    generalize hrD D (c.revs.take k) = DD at *
    go_wp2_with (at_delete; refine wpList_delete_own _ rfl _ _ 172 3 rfl 3 law3 Tryz.underlying172 _ b (n + k) DD rfl hown _ _ rfl hkey ?_; intro w1 hown1 hturn1)
    have HD : Hid (MapAt w1 b (n + (k + 1)) (hrD D (c.revs.take (k + 1))) /\ Out [b] w w1) := ⟨by rw [HN2.out]; exact World.ownsMap.mono hown1 (by omega), HV.out.1.2.grown hturn1.grown (fun q hq => by cases hq; exact List.mem_singleton.2 rfl)⟩
    clear hown1 hturn1 hown HV e0 e1
    go_wp2_with fail
    go_roundw
    case rel => exact ⟨k + 1, by omega, by go_num, HD.out⟩
    case measure => simp [intOf]; omega
   ·have h8b : (r == 8) = false := beq_eq_false_iff_ne.2 h8
    have HN2 : Hid (hrD D (c.revs.take (k + 1)) = (hrD D (c.revs.take k)).put (.int .i64 s) (.lit (.int .i64 r))) := by show _ = _; rw [HN.out, if_neg h8]
    clear HN
    generalize hrD D (c.revs.take k) = DD at *
    go_wp2_with (at_mapUpdate; refine wpList_mapUpdate_own _ rfl _ _ _ 172 rfl 3 3 law3 Tryz.underlying172 _ b (n + k) DD rfl hown (by unfold maxLen; omega) _ _ _ rfl rfl hkey _ [] hval ?_; intro w1 hown1 hgrow1)
    have HD : Hid (MapAt w1 b (n + (k + 1)) (hrD D (c.revs.take (k + 1))) /\ Out [b] w w1) := ⟨by rw [HN2.out]; exact hown1, HV.out.1.2.grown hgrow1 (fun q hq => by cases hq; exact List.mem_singleton.2 rfl)⟩
    clear hown1 hgrow1 hown HV e0 e1
    go_wp2_with fail
    go_roundw
    case rel => exact ⟨k + 1, by omega, by go_num, HD.out⟩
    case measure => simp [intOf]; omega
  ·have hkl : k = m := by omega
   subst hkl
   have HE : Hid (c.revs.take k = c.revs) := by show _ = _; rw [List.take_of_length_le (by rw [HA.out.2.1]; exact Nat.le_refl _)]
   go_wp2_with fail
   go_end0
   have h := H.out
   rw [HE.out] at h
   exact ⟨rfl, h⟩
end Go.Proofs.YtjgbmnhoajiabaaGreatDoor
