/-
  Texts of the proof.
-/
import Derived.Deep.RegionLaw
import Derived.Test.YtllmgjfffkhocaaChecked
import Derived.WalkKit
import Derived.WalkSpells
import Derived.WalkLawsBesides
import Derived.Handy
import Derived.Laws.BitsAllLaws
import Derived.Lib.LaidTab
import Derived.Lib.AppendIntMem
import Derived.Laws.IdiomStrings
import Derived.Test.YtllmgjfffkhocaaShelf
import Derived.Deep.QuietTactic
import Derived.BigQuiet
import Derived.Deep.RegionHeld3
import Derived.Test.YtllmgjfffkhocaaTR21
set_option maxRecDepth 100000
set_option maxHeartbeats 25600000
namespace Go.Proofs.Ytllmgjfffkhocaa
open Go.RowKit
set_option linter.unusedVariables false
set_option linter.unusedSimpArgs false
def ancAt (l : List An) (K : Int) : Option An := if 0 <= K /\ K < (l.length : Int) then l[K.toNat]? else none
def trA (l : List An) (ks : List Int) : List An := ks.filterMap (ancAt l)
def trusting (s : So) (c : Pn) : So := ⟨s.certs, s.crls, trA s.ancs c.anc⟩
theorem ancAt_yes {l : List An} {m : Nat} (h : m < l.length) : ancAt l (m : Int) = some l[m] := by
 unfold ancAt
 rw [if_pos ⟨by omega, by omega⟩, Int.toNat_natCast, List.getElem?_eq_getElem h]
theorem ancAt_no {l : List An} {K : Int} (h : ¬ (0 <= K /\ K < (l.length : Int))) : ancAt l K = none := by
 unfold ancAt
 rw [if_neg h]
theorem trA_take {l : List An} {ks : List Int} {k : Nat} (hk : k < ks.length) : trA l (ks.take (k + 1)) = trA l (ks.take k) ++ (ancAt l (ks.getD k 0)).toList := by
 have e : ks.getD k 0 = ks[k] := by simp [List.getD, hk]
 unfold trA
 rw [List.take_succ_eq_append_getElem hk, List.filterMap_append, e]
 congr 1
theorem trA_len (l : List An) (ks : List Int) : (trA l ks).length <= ks.length := List.length_filterMap_le _ _
theorem trA_mem {l : List An} {ks : List Int} {a : An} (h : a ∈ trA l ks) : a ∈ l := by
 obtain ⟨K, _, hK⟩ := List.mem_filterMap.1 h
 unfold ancAt at hK
 split at hK
 ·exact List.mem_of_getElem? hK
 ·cases hK
theorem okO_trusting {s : So} {c : Pn} (h : OkO s) (hl : c.anc.length <= 1048576) : OkO (trusting s c) :=
 ⟨⟨h.1.1, h.1.2.1, Nat.le_trans (trA_len s.ancs c.anc) (by omega)⟩, h.2.1, h.2.2.1, fun a ha => h.2.2.2 a (trA_mem ha)⟩
def KT (w W : World) (P Q : Array Value) (gT : Nat) (X : Array Value) : Prop := Below w.heap.size w W /\ Blk W w.heap.size 37 P /\ Blk W (w.heap.size + 1) 57 Q /\ Blk W (w.heap.size + 1 + 1) 37 #[.slice none 0 0, .slice none 0 0, .slice none 0 0] /\ Blk W gT 37 X /\ w.heap.size + 1 + 1 + 1 <= gT /\ gT + 1 <= W.heap.size
theorem KT.below {w W W' : World} {P Q X : Array Value} {gT : Nat} (h : KT w W P Q gT X) (hb : Below W.heap.size W W') : KT w W' P Q gT X := ⟨h.1.trans (hb.mono h.1.size), h.2.1.below hb h.2.1.lt, h.2.2.1.below hb h.2.2.1.lt, h.2.2.2.1.below hb h.2.2.2.1.lt, h.2.2.2.2.1.below hb h.2.2.2.2.1.lt, h.2.2.2.2.2.1, Nat.le_trans h.2.2.2.2.2.2 hb.size⟩
theorem KT.grown {w W W' : World} {P Q X : Array Value} {gT : Nat} {row : Option Nat} (h : KT w W P Q gT X) (hg : W.grownBy W' row) (hr : ∀ q, q < gT + 1 -> row ≠ some q) : KT w W' P Q gT X :=
 have h3 := h.2.2.2.2.2.1
 ⟨h.1.grown hg h.1.size (fun q e => Nat.le_of_not_lt fun h2 => hr q (by omega) e), (hg.block _ h.2.1.lt (fun e => hr _ (by omega) e.symm)).trans h.2.1, (hg.block _ h.2.2.1.lt (fun e => hr _ (by omega) e.symm)).trans h.2.2.1, (hg.block _ h.2.2.2.1.lt (fun e => hr _ (by omega) e.symm)).trans h.2.2.2.1, (hg.block _ h.2.2.2.2.1.lt (fun e => hr _ (by omega) e.symm)).trans h.2.2.2.2.1, h3, Nat.le_trans h.2.2.2.2.2.2 hg.size⟩
theorem KT.set {w W : World} {P Q X : Array Value} {gT : Nat} (h : KT w W P Q gT X) (i : Nat) (v : Value) : KT w (W.setCell ⟨gT, i, none⟩ v) P Q gT (X.setIfInBounds i v) :=
 have h3 := h.2.2.2.2.2.1
 ⟨Below.setCell h.1 (by show w.heap.size <= gT; omega) _, h.2.1.other _ (by show w.heap.size ≠ gT; omega), h.2.2.1.other _ (by show w.heap.size + 1 ≠ gT; omega), h.2.2.2.1.other _ (by show w.heap.size + 1 + 1 ≠ gT; omega), h.2.2.2.2.1.set i v, h3, Nat.le_trans h.2.2.2.2.2.2 (sizeSet _ _ _)⟩
theorem hasAnchor_any (a1 : Option Addr) (n1 c1 : Nat) (a2 : Option Addr) (n2 c2 : Nat) (a3 : Option Addr) (n3 c3 : Nat) (K : Int) (w : World) (hn : n3 <= 1000000000) :
  Calls Try.prog 61 #[.agg #[.slice a1 n1 c1, .slice a2 n2 c2, .slice a3 n3 c3], .int .i64 K] w fun e w' => e = .returned (.bool (decide (0 <= K /\ K < (n3 : Int)))) /\ Below w.heap.size w w' := by
 obtain ⟨V, hV⟩ : ∃ V, V = w.alloc (Obj.cells #[.slice a1 n1 c1, .slice a2 n2 c2, .slice a3 n3 c3] 37) := ⟨_, rfl⟩
 have HV : Hid (Below w.heap.size w V) := by rw [hV]; exact (Below.refl _ _).alloc (Nat.le_refl _) _
 have c2' : V.cell? ⟨w.heap.size, 2, none⟩ = some (.slice a3 n3 c3) := by rw [hV]; exact (Blk.new _ _ _).cell 2
 by_cases h0 : 0 <= K
 ·by_cases h1 : K < (n3 : Int)
  ·rw [decide_eq_true (show 0 <= K /\ K < (n3 : Int) from ⟨h0, h1⟩)]
   go_enter Try.func61, Try.ntmps61
   go_upto_region 1 with fail
   rw [<- hV]
   clear hV
   go_wp2_with fail
   go_ret
   exact ⟨by first | rfl | simp [h0], HV.out⟩
  ·rw [decide_eq_false (show ¬ (0 <= K /\ K < (n3 : Int)) from fun q => h1 q.2)]
   go_enter Try.func61, Try.ntmps61
   go_upto_region 1 with fail
   rw [<- hV]
   clear hV
   go_wp2_with fail
   go_ret
   exact ⟨by first | rfl | simp [h0], HV.out⟩
 ·rw [decide_eq_false (show ¬ (0 <= K /\ K < (n3 : Int)) from fun q => h0 q.1)]
  go_enter Try.func61, Try.ntmps61
  go_upto_region 1 with fail
  rw [<- hV]
  clear hV
  go_wp2_with fail
  go_ret
  exact ⟨by first | rfl | simp [h0], HV.out⟩
theorem implTrusting_any (s : So) (c : Pn) (v u : Value) (w : World) (hok : OkO s) (h : SoSh w v s) (hu : PnAt w u c) (hl : c.anc.length <= 1048576) :
  Calls Try.prog 31 #[v, u] w fun e w' => ∃ x fp, e = .returned x /\ OwnO w' w.heap.size x (trusting s c) fp /\ Below w.heap.size w w' := by
 obtain ⟨i0, hi, hz0, hz1, hz2⟩ := info_parts infoAn
 obtain ⟨a1, c1, a2, c2, a3, c3, rfl, h1, h2, h3⟩ := h
 obtain ⟨pp, pe, rfl, hp, he⟩ := hu
 obtain ⟨ap, cp, hpv, hpc⟩ := hp.each
 obtain ⟨ae, ce, hev, -⟩ := he.each
 obtain ⟨n1, e1⟩ := zE (s.certs.length)
 obtain ⟨n2, e2⟩ := zE (s.crls.length)
 obtain ⟨n3, e3⟩ := zE (s.ancs.length)
 obtain ⟨np, e4⟩ := zE (c.anc.length)
 obtain ⟨ne, e5⟩ := zE (c.ru.pol.length)
 rw [e1] at h1
 rw [e2] at h2
 rw [e3] at h3
 rw [e4] at hpv hl
 rw [e5] at hev
 subst hpv hev
 rw [e1, e2, e3]
 have hn3 : n3 <= 2000000 := by rw [<- e3]; exact hok.1.2.2
 have HX : Hid (ShS certKd w (.slice a1 n1 c1) s.certs /\ ShS crlKd w (.slice a2 n2 c2) s.crls /\ ShS anKd w (.slice a3 n3 c3) s.ancs /\ s.ancs.length = n3) := ⟨h1, h2, h3, e3⟩
 have HP : Hid ((∀ j, j < np -> ∃ g, ap = some ⟨g, 0, none⟩ /\ g < w.heap.size /\ w.cell? ⟨g, j, none⟩ = some (.int .i64 (c.anc.getD j 0))) /\ c.anc.length = np) := ⟨fun j hj => hpc j (by rw [e4]; exact hj), e4⟩
 have HO : Hid (OkO (trusting s c) /\ s.certs.length = n1 /\ s.crls.length = n2) := ⟨okO_trusting hok (by rw [e4]; exact hl), e1, e2⟩
 clear h1 h2 h3 hpc hp he hok e1 e2 e3 e4 e5
 obtain ⟨gT, hgT⟩ : ∃ g, g = w.heap.size + 1 + 1 + 1 := ⟨_, rfl⟩
 obtain ⟨x1, hx1⟩ : ∃ x : Value, x = .slice a1 n1 c1 := ⟨_, rfl⟩
 obtain ⟨x2, hx2⟩ : ∃ x : Value, x = .slice a2 n2 c2 := ⟨_, rfl⟩
 obtain ⟨V0, hV0⟩ : ∃ V, V = ((((w.alloc (Obj.cells #[.slice a1 n1 c1, .slice a2 n2 c2, .slice a3 n3 c3] 37)).alloc (Obj.cells #[.int .i64 c.id, .slice ap np cp, .int .i64 c.ru.time, .slice ae ne ce, .bool c.ru.expl, .bool c.ru.chk, .int .i64 c.ru.usage] 57)).alloc (Obj.cells #[.slice none 0 0, .slice none 0 0, .slice none 0 0] 37)).alloc (Obj.cells #[.slice a1 n1 c1, .slice a2 n2 c2, .slice none 0 0] 37)) := ⟨_, rfl⟩
 have H0 : Hid (KT w V0 #[.slice a1 n1 c1, .slice a2 n2 c2, .slice a3 n3 c3] #[.int .i64 c.id, .slice ap np cp, .int .i64 c.ru.time, .slice ae ne ce, .bool c.ru.expl, .bool c.ru.chk, .int .i64 c.ru.usage] gT #[x1, x2, .slice none 0 0] /\ OwnS anKd V0 (gT + 1) (.slice none 0 0) (trA s.ancs (c.anc.take 0)) []) := by
  have e0 : (w.alloc (Obj.cells #[.slice a1 n1 c1, .slice a2 n2 c2, .slice a3 n3 c3] 37)).heap.size = w.heap.size + 1 := Array.size_push _
  have e1 : ((w.alloc (Obj.cells #[.slice a1 n1 c1, .slice a2 n2 c2, .slice a3 n3 c3] 37)).alloc (Obj.cells #[.int .i64 c.id, .slice ap np cp, .int .i64 c.ru.time, .slice ae ne ce, .bool c.ru.expl, .bool c.ru.chk, .int .i64 c.ru.usage] 57)).heap.size = w.heap.size + 1 + 1 := by rw [size_alloc, e0]
  have e2 : (((w.alloc (Obj.cells #[.slice a1 n1 c1, .slice a2 n2 c2, .slice a3 n3 c3] 37)).alloc (Obj.cells #[.int .i64 c.id, .slice ap np cp, .int .i64 c.ru.time, .slice ae ne ce, .bool c.ru.expl, .bool c.ru.chk, .int .i64 c.ru.usage] 57)).alloc (Obj.cells #[.slice none 0 0, .slice none 0 0, .slice none 0 0] 37)).heap.size = w.heap.size + 1 + 1 + 1 := by rw [size_alloc, e1]
  have hK : KT w ((((w.alloc (Obj.cells #[.slice a1 n1 c1, .slice a2 n2 c2, .slice a3 n3 c3] 37)).alloc (Obj.cells #[.int .i64 c.id, .slice ap np cp, .int .i64 c.ru.time, .slice ae ne ce, .bool c.ru.expl, .bool c.ru.chk, .int .i64 c.ru.usage] 57)).alloc (Obj.cells #[.slice none 0 0, .slice none 0 0, .slice none 0 0] 37)).alloc (Obj.cells #[.slice a1 n1 c1, .slice a2 n2 c2, .slice none 0 0] 37)) #[.slice a1 n1 c1, .slice a2 n2 c2, .slice a3 n3 c3] #[.int .i64 c.id, .slice ap np cp, .int .i64 c.ru.time, .slice ae ne ce, .bool c.ru.expl, .bool c.ru.chk, .int .i64 c.ru.usage] gT #[.slice a1 n1 c1, .slice a2 n2 c2, .slice none 0 0] := by
   rw [hgT]
   refine ⟨((((Below.refl _ _).alloc (Nat.le_refl _) _).alloc (by rw [e0]; omega) _).alloc (by rw [e1]; omega) _).alloc (by rw [e2]; omega) _, (((Blk.new w _ _).alloc _).alloc _).alloc _, ?_, ?_, ?_, Nat.le_refl _, by rw [size_alloc, e2]; omega⟩
   ·have h := ((Blk.new (w.alloc (Obj.cells #[.slice a1 n1 c1, .slice a2 n2 c2, .slice a3 n3 c3] 37)) 57 #[.int .i64 c.id, .slice ap np cp, .int .i64 c.ru.time, .slice ae ne ce, .bool c.ru.expl, .bool c.ru.chk, .int .i64 c.ru.usage]).alloc (Obj.cells #[.slice none 0 0, .slice none 0 0, .slice none 0 0] 37)).alloc (Obj.cells #[.slice a1 n1 c1, .slice a2 n2 c2, .slice none 0 0] 37)
    rw [e0] at h
    exact h
   ·have h := (Blk.new ((w.alloc (Obj.cells #[.slice a1 n1 c1, .slice a2 n2 c2, .slice a3 n3 c3] 37)).alloc (Obj.cells #[.int .i64 c.id, .slice ap np cp, .int .i64 c.ru.time, .slice ae ne ce, .bool c.ru.expl, .bool c.ru.chk, .int .i64 c.ru.usage] 57)) 37 #[.slice none 0 0, .slice none 0 0, .slice none 0 0]).alloc (Obj.cells #[.slice a1 n1 c1, .slice a2 n2 c2, .slice none 0 0] 37)
    rw [e1] at h
    exact h
   ·have h := Blk.new (((w.alloc (Obj.cells #[.slice a1 n1 c1, .slice a2 n2 c2, .slice a3 n3 c3] 37)).alloc (Obj.cells #[.int .i64 c.id, .slice ap np cp, .int .i64 c.ru.time, .slice ae ne ce, .bool c.ru.expl, .bool c.ru.chk, .int .i64 c.ru.usage] 57)).alloc (Obj.cells #[.slice none 0 0, .slice none 0 0, .slice none 0 0] 37)) 37 #[.slice a1 n1 c1, .slice a2 n2 c2, .slice none 0 0]
    rw [e2] at h
    exact h
  rw [hV0, hx1, hx2]
  exact ⟨hK, OwnS.nil anKd _ _⟩
 unfold pnV
 go_enter Try.func31, Try.ntmps31
 go_upto_region 2 with fail
 change Code.wp _ _ _ _ ((((w.alloc (Obj.cells #[.slice a1 n1 c1, .slice a2 n2 c2, .slice a3 n3 c3] 37)).alloc (Obj.cells #[.int .i64 c.id, .slice ap np cp, .int .i64 c.ru.time, .slice ae ne ce, .bool c.ru.expl, .bool c.ru.chk, .int .i64 c.ru.usage] 57)).alloc (Obj.cells #[.slice none 0 0, .slice none 0 0, .slice none 0 0] 37)).alloc (Obj.cells #[.slice a1 n1 c1, .slice a2 n2 c2, .slice none 0 0] 37))
 rw [<- hV0]
 have z1 : V0.cell? ⟨w.heap.size + 1, 1, none⟩ = some (.slice ap np cp) := H0.out.1.2.2.1.cell 1
 rw [<- hgT]
 clear hV0 hgT
 have HX1 : Hid (x1 = .slice a1 n1 c1 /\ x2 = .slice a2 n2 c2) := ⟨hx1, hx2⟩
 clear hx1 hx2
 go_wp2_with fail
 clear z1
 go_loopw [16] (fun iv wr => ∃ k : Nat, k <= np /\ iv = .int .i64 k /\ ∃ av fA, Hid (KT w wr #[.slice a1 n1 c1, .slice a2 n2 c2, .slice a3 n3 c3] #[.int .i64 c.id, .slice ap np cp, .int .i64 c.ru.time, .slice ae ne ce, .bool c.ru.expl, .bool c.ru.chk, .int .i64 c.ru.usage] gT #[x1, x2, av] /\ OwnS anKd wr (gT + 1) av (trA s.ancs (c.anc.take k)) fA)) (fun iv _ => np - (intOf iv).toNat)
 case atStart => exact ⟨0, Nat.zero_le _, rfl, _, _, H0.out⟩
 case round =>
  obtain ⟨k, hk, rfl, av, fA, H⟩ := hrel
  by_cases hkn : k < np
  ·obtain ⟨gp, hap, hgp, hcp⟩ := HP.out.1 k hkn
   subst hap
   have hki : (k : Int) < (np : Int) := by omega
   have hk0 : (0 : Int) <= (k : Int) := by omega
   obtain ⟨K, hK⟩ := zE (c.anc.getD k 0)
   rw [hK] at hcp
   have HXP : Hid (∀ W, Below w.heap.size w W -> W.cell? ⟨gp, k, none⟩ = some (.int .i64 K)) := fun W hb => (hb.cell (p := ⟨gp, k, none⟩) hgp).trans hcp
   have HN : Hid (trA s.ancs (c.anc.take (k + 1)) = trA s.ancs (c.anc.take k) ++ (ancAt s.ancs K).toList) := by show _ = _; rw [<- hK]; exact trA_take (by rw [HP.out.2]; exact hkn)
   obtain ⟨nA, hnA⟩ := zE ((trA s.ancs (c.anc.take k)).length)
   have HNA : Hid ((trA s.ancs (c.anc.take k)).length = nA) := hnA
   have hnAl : nA <= 1048576 := by rw [<- hnA]; exact Nat.le_trans (trA_len _ _) (by rw [List.length_take]; omega)
   clear hgp hcp hK hnA
   have xs0 : wr.cell? ⟨w.heap.size, 0, none⟩ = some (.slice a1 n1 c1) := H.out.1.2.1.cell 0
   have xs1 : wr.cell? ⟨w.heap.size, 1, none⟩ = some (.slice a2 n2 c2) := H.out.1.2.1.cell 1
   have xs2 : wr.cell? ⟨w.heap.size, 2, none⟩ = some (.slice a3 n3 c3) := H.out.1.2.1.cell 2
   have xp := HXP.out _ H.out.1.1
   have EA := hasAnchor_any a1 n1 c1 a2 n2 c2 a3 n3 c3 K wr (by omega)
   by_cases hin : 0 <= K /\ K < (n3 : Int)
   ·rw [decide_eq_true hin] at EA
    obtain ⟨m, hm⟩ : ∃ m : Nat, K = (m : Int) := ⟨K.toNat, by omega⟩
    subst hm
    have hml : m < s.ancs.length := by rw [HX.out.2.2.2]; omega
    obtain ⟨g, o, u, hax, hg, hPu, hs, hc⟩ := HX.out.2.2.1.get hml
    obtain ⟨x, hx⟩ := zE (s.ancs[m])
    have hu : u = anV x := by rw [<- hx]; exact hPu
    subst hax
    subst hu
    have HNX : Hid (trA s.ancs (c.anc.take (k + 1)) = trA s.ancs (c.anc.take k) ++ [x]) := by show _ = _; rw [HN.out, ancAt_yes hml, hx]; rfl
    have HXC : Hid (∀ W, Below w.heap.size w W -> W.cell? ⟨g, o + m * 2, none⟩ = some (.string x.name) /\ W.cell? ⟨g, o + m * 2 + 1, none⟩ = some (.string x.key)) := fun W hb => ⟨(hb.cell (p := ⟨g, o + m * 2 + 0, none⟩) hg).trans (hc 0 _ rfl), (hb.cell (p := ⟨g, o + m * 2 + 1, none⟩) hg).trans (hc 1 _ rfl)⟩
    have hmi : (m : Int) < (n3 : Int) := hin.2
    have hm0 : (0 : Int) <= (m : Int) := hin.1
    clear hPu hs hc hx hml hg hin HN
    go_wp2_with fail
    refine EA.mono ?_
    rintro e w2 ⟨rfl, hb2⟩
    have H2 : Hid (KT w w2 #[.slice a1 n1 c1, .slice a2 n2 c2, .slice (some ⟨g, o, none⟩) n3 c3] #[.int .i64 c.id, .slice (some ⟨gp, 0, none⟩) np cp, .int .i64 c.ru.time, .slice ae ne ce, .bool c.ru.expl, .bool c.ru.chk, .int .i64 c.ru.usage] gT #[x1, x2, av] /\ OwnS anKd w2 (gT + 1) av (trA s.ancs (c.anc.take k)) fA) := ⟨H.out.1.below hb2, H.out.2.stays hb2⟩
    clear EA hb2 H xs0 xs1 xs2 xp
    go_upto_region 6 with fail
    have hd0 : Below w2.heap.size w2 w2.drew := (Below.refl _ _).drew
    have HD : Hid (KT w w2.drew #[.slice a1 n1 c1, .slice a2 n2 c2, .slice (some ⟨g, o, none⟩) n3 c3] #[.int .i64 c.id, .slice (some ⟨gp, 0, none⟩) np cp, .int .i64 c.ru.time, .slice ae ne ce, .bool c.ru.expl, .bool c.ru.chk, .int .i64 c.ru.usage] gT #[x1, x2, av] /\ OwnS anKd w2.drew (gT + 1) av (trA s.ancs (c.anc.take k)) fA) := ⟨H2.out.1.below hd0, H2.out.2.stays hd0⟩
    have y0 : w2.drew.cell? ⟨gT, 2, none⟩ = some av := HD.out.1.2.2.2.2.1.cell 2
    have y1 : w2.drew.cell? ⟨w.heap.size, 2, none⟩ = some (.slice (some ⟨g, o, none⟩) n3 c3) := HD.out.1.2.1.cell 2
    have m0 : w2.drew.cell? ⟨g, o + m * 2, none⟩ = some (.string x.name) := (HXC.out _ HD.out.1.1).1
    have m1 : w2.drew.cell? ⟨g, o + m * 2 + 1, none⟩ = some (.string x.key) := (HXC.out _ HD.out.1.1).2
    have HAL : Hid (Below w2.drew.heap.size w2.drew (w2.drew.alloc (Obj.cells #[.string x.name, .string x.key] 97))) := (Below.refl _ _).alloc (Nat.le_refl _) _
    have y0a := fun ob => ((H2.out.1.below ((Below.refl w2.heap.size w2).alloc (Nat.le_refl _) ob)).2.2.2.2.1.cell 2 : (w2.alloc ob).cell? ⟨gT, 2, none⟩ = some av)
    clear H2
    go_region_law (first
     | (refine step_app anKd rfl _ _ 35 rfl i0 (.agg #[.string ⟨#[]⟩, .string ⟨#[]⟩]) 32 Try.underlying35 hi hz0 hz1 hz2 rfl (by decide) (gT + 1) av (trA s.ancs (c.anc.take k)) fA x (.agg #[.string x.name, .string x.key]) rfl w2.drew.heap.size rfl (Blk.new w2.drew 97 #[.string x.name, .string x.key]).range (HD.out.2.stays HAL.out) rfl (fun y h1 h2 => by cases h1) (Nat.le_trans HD.out.1.2.2.2.2.2.2 HAL.out.size) nA HNA.out (by omega) ?_; intro g6 cap6 w6 fp6 hG6 hgrow6 hf6; have hne6 : ∀ q, q < gT + 1 -> av.ownBlock ≠ some q := (fun q hq e => by obtain ⟨_, _, hr9, _⟩ := HD.out.2; have := (hr9.lt q e).1; omega); have h7 := (HD.out.1.below HAL.out).grown hgrow6 hne6; have y6 : w6.cell? ⟨gT, 2, none⟩ = some av := h7.2.2.2.2.1.cell 2; have fz6 : w6.frozen? ⟨gT, 2, none⟩ = false := h7.2.2.2.2.1.free 2; clear h7))
    all_goals (
     have H6 : Hid (KT w w6 #[.slice a1 n1 c1, .slice a2 n2 c2, .slice (some ⟨g, o, none⟩) n3 c3] #[.int .i64 c.id, .slice (some ⟨gp, 0, none⟩) np cp, .int .i64 c.ru.time, .slice ae ne ce, .bool c.ru.expl, .bool c.ru.chk, .int .i64 c.ru.usage] gT #[x1, x2, av] /\ OwnS anKd w6 (gT + 1) (.slice (some ⟨g6, 0, none⟩) (nA + 1) cap6) (trA s.ancs (c.anc.take (k + 1))) fp6) := by
      have h7 := HD.out.1.below HAL.out
      rw [<- HNX.out] at hG6
      exact ⟨h7.grown hgrow6 hne6, hG6⟩
     clear hG6 hgrow6 y6 fz6 y0 y1 y0a m0 m1 hf6 hne6 HD HAL
     go_wp2_with fail
     refine ⟨⟨k + 1, by omega, by go_num, .slice (some ⟨g6, 0, none⟩) (nA + 1) cap6, fp6, ?_⟩, by simp [intOf]; omega⟩
     have hgt := H6.out.1.2.2.2.2.2.1
     exact ⟨H6.out.1.set 2 _, H6.out.2.same (fun b hb => heap_setCell_other _ _ _ _ (by have := (H6.out.2.lt b hb).1; show b ≠ gT; omega))⟩)
   ·rw [decide_eq_false hin] at EA
    have HNX : Hid (trA s.ancs (c.anc.take (k + 1)) = trA s.ancs (c.anc.take k)) := by show _ = _; rw [HN.out, ancAt_no (by rw [HX.out.2.2.2]; exact hin)]; exact List.append_nil _
    clear hin HN
    go_wp2_with fail
    refine EA.mono ?_
    rintro e w2 ⟨rfl, hb2⟩
    have H2 : Hid (KT w w2 #[.slice a1 n1 c1, .slice a2 n2 c2, .slice a3 n3 c3] #[.int .i64 c.id, .slice (some ⟨gp, 0, none⟩) np cp, .int .i64 c.ru.time, .slice ae ne ce, .bool c.ru.expl, .bool c.ru.chk, .int .i64 c.ru.usage] gT #[x1, x2, av] /\ OwnS anKd w2 (gT + 1) av (trA s.ancs (c.anc.take (k + 1))) fA) := by
     show _ /\ _
     rw [HNX.out]
     exact ⟨H.out.1.below hb2, H.out.2.stays hb2⟩
    clear EA hb2 H xs0 xs1 xs2 xp
    go_wp2_with fail
    exact ⟨⟨k + 1, by omega, by go_num, av, fA, H2.out⟩, by simp [intOf]; omega⟩
  ·have hkl : np = k := by omega
   subst hkl
   have HE : Hid (KT w wr #[.slice a1 n1 c1, .slice a2 n2 c2, .slice a3 n3 c3] #[.int .i64 c.id, .slice ap np cp, .int .i64 c.ru.time, .slice ae ne ce, .bool c.ru.expl, .bool c.ru.chk, .int .i64 c.ru.usage] gT #[x1, x2, av] /\ OwnS anKd wr (gT + 1) av (trA s.ancs c.anc) fA) := by
    have h := H.out
    rw [List.take_of_length_le (by rw [HP.out.2]; exact Nat.le_refl _)] at h
    exact h
   clear H
   obtain ⟨a9, c9, hv9⟩ := HE.out.2.at.shape
   obtain ⟨n9, e9⟩ := zE ((trA s.ancs c.anc).length)
   rw [e9] at hv9
   subst hv9
   obtain ⟨hx1, hx2⟩ := HX1.out
   clear HX1
   subst hx1 hx2
   have q0 : wr.cell? ⟨gT, 0, none⟩ = some (.slice a1 n1 c1) := HE.out.1.2.2.2.2.1.cell 0
   have q1 : wr.cell? ⟨gT, 1, none⟩ = some (.slice a2 n2 c2) := HE.out.1.2.2.2.2.1.cell 1
   have q2 : wr.cell? ⟨gT, 2, none⟩ = some (.slice a9 n9 c9) := HE.out.1.2.2.2.2.1.cell 2
   have ES := ownSt (s := trusting s c) (v := .agg #[.slice a1 n1 c1, .slice a2 n2 c2, .slice a9 n9 c9]) (w := wr) HO.out.1 (SoSh.mk (HX.out.1.below HE.out.1.1) (HX.out.2.1.below HE.out.1.1) HE.out.2.sh)
   change Calls _ _ _ _ (fun e w' => ∃ x1 y1 x2 y2 x3 y3 fp, e = .returned (.agg #[.slice x1 s.certs.length y1, .slice x2 s.crls.length y2, .slice x3 (trA s.ancs c.anc).length y3]) /\ OwnO w' wr.heap.size (.agg #[.slice x1 s.certs.length y1, .slice x2 s.crls.length y2, .slice x3 (trA s.ancs c.anc).length y3]) (trusting s c) fp /\ Below wr.heap.size wr w') at ES
   rw [HO.out.2.1, HO.out.2.2, e9] at ES
   clear e9
   go_wp2_with fail
   refine ES.mono ?_
   rintro e w5 ⟨r1, t1, r2, t2, r3, t3, fp, rfl, ho, hb⟩
   have H5 : Hid (Below w.heap.size w w5 /\ Blk w5 (w.heap.size + 1 + 1) 37 #[.slice none 0 0, .slice none 0 0, .slice none 0 0] /\ OwnO w5 wr.heap.size (.agg #[.slice r1 n1 t1, .slice r2 n2 t2, .slice r3 n9 t3]) (trusting s c) fp /\ w.heap.size + 1 + 1 + 1 <= wr.heap.size) := ⟨HE.out.1.1.trans (hb.mono HE.out.1.1.size), (HE.out.1.below hb).2.2.2.1, ho, by have h1 := HE.out.1.2.2.2.2.2; omega⟩
   clear ES ho hb HE q0 q1 q2
   have r0 : w5.cell? ⟨w.heap.size + 1 + 1, 0, none⟩ = some (.slice none 0 0) := H5.out.2.1.cell 0
   have r1' : w5.cell? ⟨w.heap.size + 1 + 1, 1, none⟩ = some (.slice none 0 0) := H5.out.2.1.cell 1
   have r2' : w5.cell? ⟨w.heap.size + 1 + 1, 2, none⟩ = some (.slice none 0 0) := H5.out.2.1.cell 2
   have rf := fun i => H5.out.2.1.free i
   go_wp2_with fail
   refine bodyPost_ret (v := .agg #[.slice r1 n1 t1, .slice r2 n2 t2, .slice r3 n9 t3]) (by simp [results, Try.results31, go_sem, r0, r1', r2']) rfl ⟨_, fp, rfl, (OwnO.same (w := w5) H5.out.2.2.1 ?far).base (by have := H5.out.2.2.2; omega), ?bel⟩
   case far =>
    intro b hb
    have hlt := (H5.out.2.2.1.lt b hb).1
    have h3 := H5.out.2.2.2
    iterate 3 rw [heap_setCell_other _ _ _ _ (by show b ≠ w.heap.size + 1 + 1; omega)]
   case bel =>
    iterate 3 refine Below.setCell ?_ (by show w.heap.size <= w.heap.size + 1 + 1; omega) _
    exact H5.out.1
end Go.Proofs.Ytllmgjfffkhocaa
namespace Go.Proofs.Ytllmgjfffkhocaa
open Go.RowKit
theorem below_drewN (B : Nat) (w : World) (n : Nat) : Below B w (w.drewN n) := ⟨rfl, rfl, rfl, Nat.le_refl _, fun _ _ => rfl⟩
end Go.Proofs.Ytllmgjfffkhocaa
namespace Go.Proofs.Ytllmgjfffkhocaa
open Go.RowKit
set_option linter.unusedVariables false
set_option linter.unusedSimpArgs false
theorem specTrusting_any (s : So) (c : Pn) (v u : Value) (w : World) (hok : OkO s) (h : SoSh w v s) (hu : PnAt w u c) (hl : c.anc.length <= 1048576) :
  Calls Try.prog 30 #[v, u] w fun e w' => ∃ x fp, e = .returned x /\ OwnO w' w.heap.size x (trusting s c) fp /\ Below w.heap.size w w' := by
 have ESh := h
 obtain ⟨i0, hi, hz0, hz1, hz2⟩ := info_parts infoAn
 obtain ⟨a1, c1, a2, c2, a3, c3, rfl, h1, h2, h3⟩ := h
 obtain ⟨pp, pe, rfl, hp, he⟩ := hu
 obtain ⟨ap, cp, hpv, hpc⟩ := hp.each
 obtain ⟨ae, ce, hev, -⟩ := he.each
 obtain ⟨n1, e1⟩ := zE (s.certs.length)
 obtain ⟨n2, e2⟩ := zE (s.crls.length)
 obtain ⟨n3, e3⟩ := zE (s.ancs.length)
 obtain ⟨np, e4⟩ := zE (c.anc.length)
 obtain ⟨ne, e5⟩ := zE (c.ru.pol.length)
 rw [e1] at h1
 rw [e2] at h2
 rw [e3] at h3
 rw [e4] at hpv hl
 rw [e5] at hev
 subst hpv hev
 rw [e1, e2, e3] at ESh |-
 have hn3 : n3 <= 2000000 := by rw [<- e3]; exact hok.1.2.2
 have HX : Hid (ShS anKd w (.slice a3 n3 c3) s.ancs /\ s.ancs.length = n3) := ⟨h3, e3⟩
 have HP : Hid ((∀ j, j < np -> ∃ g, ap = some ⟨g, 0, none⟩ /\ g < w.heap.size /\ w.cell? ⟨g, j, none⟩ = some (.int .i64 (c.anc.getD j 0))) /\ c.anc.length = np) := ⟨fun j hj => hpc j (by rw [e4]; exact hj), e4⟩
 have EC : Hid (∀ W, Below w.heap.size w W -> Calls Try.prog 60 #[.agg #[.slice a1 n1 c1, .slice a2 n2 c2, .slice a3 n3 c3]] W fun e w' => ∃ r1 t1 r2 t2 r3 t3 fp, e = .returned (.agg #[.slice r1 n1 t1, .slice r2 n2 t2, .slice r3 n3 t3]) /\ OwnO w' W.heap.size (.agg #[.slice r1 n1 t1, .slice r2 n2 t2, .slice r3 n3 t3]) s fp /\ Below W.heap.size W w') := fun W hb => by
  have h9 := l13Copy_any s _ W hok (ESh.below hb)
  rw [e1, e2, e3] at h9
  exact h9
 clear h1 h2 h3 hpc hp he hok e1 e2 e3 e4 e5 ESh
 obtain ⟨V0, hV0⟩ : ∃ V, V = (((w.alloc (Obj.cells #[.slice a1 n1 c1, .slice a2 n2 c2, .slice a3 n3 c3] 37)).alloc (Obj.cells #[.int .i64 c.id, .slice ap np cp, .int .i64 c.ru.time, .slice ae ne ce, .bool c.ru.expl, .bool c.ru.chk, .int .i64 c.ru.usage] 57)).alloc (Obj.cells #[.slice none 0 0, .slice none 0 0, .slice none 0 0] 37)) := ⟨_, rfl⟩
 have H0 : Hid (Below w.heap.size w V0 /\ Blk V0 w.heap.size 37 #[.slice a1 n1 c1, .slice a2 n2 c2, .slice a3 n3 c3] /\ Blk V0 (w.heap.size + 1) 57 #[.int .i64 c.id, .slice ap np cp, .int .i64 c.ru.time, .slice ae ne ce, .bool c.ru.expl, .bool c.ru.chk, .int .i64 c.ru.usage] /\ Blk V0 (w.heap.size + 1 + 1) 37 #[.slice none 0 0, .slice none 0 0, .slice none 0 0] /\ V0.heap.size = w.heap.size + 1 + 1 + 1) := by
  have e0 : (w.alloc (Obj.cells #[.slice a1 n1 c1, .slice a2 n2 c2, .slice a3 n3 c3] 37)).heap.size = w.heap.size + 1 := Array.size_push _
  have e1 : ((w.alloc (Obj.cells #[.slice a1 n1 c1, .slice a2 n2 c2, .slice a3 n3 c3] 37)).alloc (Obj.cells #[.int .i64 c.id, .slice ap np cp, .int .i64 c.ru.time, .slice ae ne ce, .bool c.ru.expl, .bool c.ru.chk, .int .i64 c.ru.usage] 57)).heap.size = w.heap.size + 1 + 1 := by rw [size_alloc, e0]
  rw [hV0]
  refine ⟨(((Below.refl _ _).alloc (Nat.le_refl _) _).alloc (by rw [e0]; omega) _).alloc (by rw [e1]; omega) _, ((Blk.new w _ _).alloc _).alloc _, ?_, ?_, by rw [size_alloc, e1]⟩
  ·have h := (Blk.new (w.alloc (Obj.cells #[.slice a1 n1 c1, .slice a2 n2 c2, .slice a3 n3 c3] 37)) 57 #[.int .i64 c.id, .slice ap np cp, .int .i64 c.ru.time, .slice ae ne ce, .bool c.ru.expl, .bool c.ru.chk, .int .i64 c.ru.usage]).alloc (Obj.cells #[.slice none 0 0, .slice none 0 0, .slice none 0 0] 37)
   rw [e0] at h
   exact h
  ·have h := Blk.new ((w.alloc (Obj.cells #[.slice a1 n1 c1, .slice a2 n2 c2, .slice a3 n3 c3] 37)).alloc (Obj.cells #[.int .i64 c.id, .slice ap np cp, .int .i64 c.ru.time, .slice ae ne ce, .bool c.ru.expl, .bool c.ru.chk, .int .i64 c.ru.usage] 57)) 37 #[.slice none 0 0, .slice none 0 0, .slice none 0 0]
   rw [e1] at h
   exact h
 unfold pnV
 go_enter Try.func30, Try.ntmps30
 go_upto_region 1 with fail
 change Code.wp _ _ _ _ (((w.alloc (Obj.cells #[.slice a1 n1 c1, .slice a2 n2 c2, .slice a3 n3 c3] 37)).alloc (Obj.cells #[.int .i64 c.id, .slice ap np cp, .int .i64 c.ru.time, .slice ae ne ce, .bool c.ru.expl, .bool c.ru.chk, .int .i64 c.ru.usage] 57)).alloc (Obj.cells #[.slice none 0 0, .slice none 0 0, .slice none 0 0] 37))
 rw [<- hV0]
 clear hV0
 have z0 : V0.cell? ⟨w.heap.size, 0, none⟩ = some (.slice a1 n1 c1) := H0.out.2.1.cell 0
 have z1 : V0.cell? ⟨w.heap.size, 1, none⟩ = some (.slice a2 n2 c2) := H0.out.2.1.cell 1
 have z2 : V0.cell? ⟨w.heap.size, 2, none⟩ = some (.slice a3 n3 c3) := H0.out.2.1.cell 2
 go_wp2_with fail
 refine (EC.out V0 H0.out.1).mono ?_
 rintro e w2 ⟨r1, t1, r2, t2, r3, t3, fp, rfl, ho, hb⟩
 obtain ⟨q1, q2, q3, f1, f2, f3, hqv, o1, o2, o3, rfl, hnd⟩ := ho
 injection hqv with hqv
 injection hqv with hqv
 injection hqv with g1 hqv
 injection hqv with g2 hqv
 injection hqv with g3 hqv
 subst g1 g2 g3
 have hsz2 : V0.heap.size <= w2.heap.size := hb.size
 have hb0 := H0.out.2.2.2.2
 obtain ⟨gT, hgT⟩ := zE (w2.heap.size)
 obtain ⟨x1, hx1⟩ : ∃ x : Value, x = .slice r1 n1 t1 := ⟨_, rfl⟩
 obtain ⟨x2, hx2⟩ : ∃ x : Value, x = .slice r2 n2 t2 := ⟨_, rfl⟩
 have hnd2 := List.nodup_append.1 hnd
 have hnd3 := List.nodup_append.1 hnd2.2.1
 have HF12 : Hid ((∀ b ∈ f1, b < gT) /\ ∀ b ∈ f2, b < gT) := ⟨fun b hm => by rw [<- hgT]; exact (o1.lt b hm).2, fun b hm => by rw [<- hgT]; exact (o2.lt b hm).2⟩
 have HND : Hid (f1.Nodup /\ f2.Nodup /\ ∀ b ∈ f1, b ∉ f2) := ⟨hnd2.1, hnd3.1, fun b x y => hnd2.2.2 b x b (List.mem_append_left _ y) rfl⟩
 obtain ⟨V1, hV1⟩ : ∃ V, V = ((w2.alloc (Obj.cells #[.slice r1 n1 t1, .slice r2 n2 t2, .slice (some ⟨gT + 1, 0, none⟩) 0 0] 37)).alloc (Obj.cells #[] 97)) := ⟨_, rfl⟩
 have H1 : Hid (KT w V1 #[.slice a1 n1 c1, .slice a2 n2 c2, .slice a3 n3 c3] #[.int .i64 c.id, .slice ap np cp, .int .i64 c.ru.time, .slice ae ne ce, .bool c.ru.expl, .bool c.ru.chk, .int .i64 c.ru.usage] gT #[x1, x2, (.slice (some ⟨gT + 1, 0, none⟩) 0 0)] /\ OwnS anKd V1 (gT + 1) (.slice (some ⟨gT + 1, 0, none⟩) 0 0) (trA s.ancs (c.anc.take 0)) [gT + 1] /\ OwnS certKd V1 (w.heap.size + 1 + 1 + 1) x1 s.certs f1 /\ OwnS crlKd V1 (w.heap.size + 1 + 1 + 1) x2 s.crls f2) := by
  have e0 : (w2.alloc (Obj.cells #[.slice r1 n1 t1, .slice r2 n2 t2, .slice (some ⟨gT + 1, 0, none⟩) 0 0] 37)).heap.size = gT + 1 := by rw [size_alloc, hgT]
  have b1 : Below w2.heap.size w2 ((w2.alloc (Obj.cells #[.slice r1 n1 t1, .slice r2 n2 t2, .slice (some ⟨gT + 1, 0, none⟩) 0 0] 37)).alloc (Obj.cells #[] 97)) := ((Below.refl _ _).alloc (Nat.le_refl _) _).alloc (by rw [size_alloc]; omega) _
  have hK : KT w ((w2.alloc (Obj.cells #[.slice r1 n1 t1, .slice r2 n2 t2, .slice (some ⟨gT + 1, 0, none⟩) 0 0] 37)).alloc (Obj.cells #[] 97)) #[.slice a1 n1 c1, .slice a2 n2 c2, .slice a3 n3 c3] #[.int .i64 c.id, .slice ap np cp, .int .i64 c.ru.time, .slice ae ne ce, .bool c.ru.expl, .bool c.ru.chk, .int .i64 c.ru.usage] gT #[.slice r1 n1 t1, .slice r2 n2 t2, .slice (some ⟨gT + 1, 0, none⟩) 0 0] := by
   refine ⟨(H0.out.1.trans (hb.mono H0.out.1.size)).trans (b1.mono (by omega)), (H0.out.2.1.below hb H0.out.2.1.lt).below b1 (by omega), (H0.out.2.2.1.below hb H0.out.2.2.1.lt).below b1 (by omega), (H0.out.2.2.2.1.below hb H0.out.2.2.2.1.lt).below b1 (by omega), ?_, by omega, by rw [size_alloc, e0]; omega⟩
   have h := (Blk.new w2 37 #[.slice r1 n1 t1, .slice r2 n2 t2, .slice (some ⟨gT + 1, 0, none⟩) 0 0]).alloc (Obj.cells #[] 97)
   rw [hgT] at h
   exact h
  have hm := OwnS.made anKd (w2.alloc (Obj.cells #[.slice r1 n1 t1, .slice r2 n2 t2, .slice (some ⟨gT + 1, 0, none⟩) 0 0] 37)) (gT + 1) (by rw [e0]; exact Nat.le_refl _)
  rw [e0] at hm
  have k1 : OwnS certKd w2 (w.heap.size + 1 + 1 + 1) (.slice r1 n1 t1) s.certs f1 := by rw [<- hb0]; exact o1
  have k2 : OwnS crlKd w2 (w.heap.size + 1 + 1 + 1) (.slice r2 n2 t2) s.crls f2 := by rw [<- hb0]; exact o2
  rw [hV1, hx1, hx2]
  exact ⟨hK, hm, k1.stays b1, k2.stays b1⟩
 have HX1 : Hid (x1 = .slice r1 n1 t1 /\ x2 = .slice r2 n2 t2) := ⟨hx1, hx2⟩
 clear hnd hnd2 hnd3 o1 o2 o3 hx1 hx2 EC z0 z1 z2 hqv hb hsz2 hb0 H0
 go_upto_region 3 with fail
 change Code.wp _ _ _ _ ((w2.alloc (Obj.cells #[.slice r1 n1 t1, .slice r2 n2 t2, .slice (some ⟨gT + 1, 0, none⟩) 0 0] 37)).alloc (Obj.cells #[] 97))
 rw [<- hV1]
 clear hV1 hgT
 go_wp2_with fail
 go_loopw [6] (fun iv wr => ∃ k : Nat, k <= np /\ iv = .int .i64 k /\ ∃ av fA, Hid (KT w wr #[.slice a1 n1 c1, .slice a2 n2 c2, .slice a3 n3 c3] #[.int .i64 c.id, .slice ap np cp, .int .i64 c.ru.time, .slice ae ne ce, .bool c.ru.expl, .bool c.ru.chk, .int .i64 c.ru.usage] gT #[x1, x2, av] /\ OwnS anKd wr (gT + 1) av (trA s.ancs (c.anc.take k)) fA /\ OwnS certKd wr (w.heap.size + 1 + 1 + 1) x1 s.certs f1 /\ OwnS crlKd wr (w.heap.size + 1 + 1 + 1) x2 s.crls f2)) (fun iv _ => np - (intOf iv).toNat)
 case atStart => exact ⟨0, Nat.zero_le _, rfl, _, _, H1.out⟩
 case round =>
  clear H1
  obtain ⟨k, hk, rfl, av, fA, H⟩ := hrel
  by_cases hkn : k < np
  ·obtain ⟨gp, hap, hgp, hcp⟩ := HP.out.1 k hkn
   subst hap
   have hki : (k : Int) < (np : Int) := by omega
   have hk0 : (0 : Int) <= (k : Int) := by omega
   obtain ⟨K, hK⟩ := zE (c.anc.getD k 0)
   rw [hK] at hcp
   have HXP : Hid (∀ W, Below w.heap.size w W -> W.cell? ⟨gp, k, none⟩ = some (.int .i64 K)) := fun W hb => (hb.cell (p := ⟨gp, k, none⟩) hgp).trans hcp
   have HN : Hid (trA s.ancs (c.anc.take (k + 1)) = trA s.ancs (c.anc.take k) ++ (ancAt s.ancs K).toList) := by show _ = _; rw [<- hK]; exact trA_take (by rw [HP.out.2]; exact hkn)
   obtain ⟨nA, hnA⟩ := zE ((trA s.ancs (c.anc.take k)).length)
   have HNA : Hid ((trA s.ancs (c.anc.take k)).length = nA) := hnA
   have hnAl : nA <= 1048576 := by rw [<- hnA]; exact Nat.le_trans (trA_len _ _) (by rw [List.length_take]; omega)
   clear hgp hcp hK hnA
   have xs2 : wr.cell? ⟨w.heap.size, 2, none⟩ = some (.slice a3 n3 c3) := H.out.1.2.1.cell 2
   have xq : wr.cell? ⟨w.heap.size + 1, 1, none⟩ = some (.slice (some ⟨gp, 0, none⟩) np cp) := H.out.1.2.2.1.cell 1
   have xp := HXP.out _ H.out.1.1
   have EA : Hid (∀ W, Calls Try.prog 37 #[.int .i64 K, .int .i64 0, .int .i64 ((n3 : Int) - 1)] W fun e w' => e = .returned (.bool (inB K 0 ((n3 : Int) - 1))) /\ w' = W) := fun W => inW_same K 0 ((n3 : Int) - 1) W
   by_cases hin : 0 <= K /\ K < (n3 : Int)
   ·rw [show inB K 0 ((n3 : Int) - 1) = true from decide_eq_true ⟨hin.1, by omega⟩] at EA
    obtain ⟨m, hm⟩ : ∃ m : Nat, K = (m : Int) := ⟨K.toNat, by omega⟩
    subst hm
    have hml : m < s.ancs.length := by rw [HX.out.2]; omega
    obtain ⟨g, o, u, hax, hg, hPu, hs, hc⟩ := HX.out.1.get hml
    obtain ⟨x, hx⟩ := zE (s.ancs[m])
    have hu : u = anV x := by rw [<- hx]; exact hPu
    subst hax
    subst hu
    have HNX : Hid (trA s.ancs (c.anc.take (k + 1)) = trA s.ancs (c.anc.take k) ++ [x]) := by show _ = _; rw [HN.out, ancAt_yes hml, hx]; rfl
    have HXC : Hid (∀ W, Below w.heap.size w W -> W.cell? ⟨g, o + m * 2, none⟩ = some (.string x.name) /\ W.cell? ⟨g, o + m * 2 + 1, none⟩ = some (.string x.key)) := fun W hb => ⟨(hb.cell (p := ⟨g, o + m * 2 + 0, none⟩) hg).trans (hc 0 _ rfl), (hb.cell (p := ⟨g, o + m * 2 + 1, none⟩) hg).trans (hc 1 _ rfl)⟩
    have hmi : (m : Int) < (n3 : Int) := hin.2
    have hm0 : (0 : Int) <= (m : Int) := hin.1
    clear hPu hs hc hx hml hg hin HN
    go_upto_region 6 with fail
    go_quiet (exact Calls.quiet_of_same (EA.out _))
    have H2 : Hid (KT w (wr.drewN nq) #[.slice a1 n1 c1, .slice a2 n2 c2, .slice (some ⟨g, o, none⟩) n3 c3] #[.int .i64 c.id, .slice (some ⟨gp, 0, none⟩) np cp, .int .i64 c.ru.time, .slice ae ne ce, .bool c.ru.expl, .bool c.ru.chk, .int .i64 c.ru.usage] gT #[x1, x2, av] /\ OwnS anKd (wr.drewN nq) (gT + 1) av (trA s.ancs (c.anc.take k)) fA /\ OwnS certKd (wr.drewN nq) (w.heap.size + 1 + 1 + 1) x1 s.certs f1 /\ OwnS crlKd (wr.drewN nq) (w.heap.size + 1 + 1 + 1) x2 s.crls f2) := ⟨H.out.1.below (below_drewN _ _ _), H.out.2.1.stays (below_drewN _ _ _), H.out.2.2.1.stays (below_drewN _ _ _), H.out.2.2.2.stays (below_drewN _ _ _)⟩
    clear EA H xs2 xp xq
    generalize wr.drewN nq = w2 at H2 |-
    go_upto_region 7 with fail
    have hd0 : Below w2.heap.size w2 w2.drew := (Below.refl _ _).drew
    have HD : Hid (KT w w2.drew #[.slice a1 n1 c1, .slice a2 n2 c2, .slice (some ⟨g, o, none⟩) n3 c3] #[.int .i64 c.id, .slice (some ⟨gp, 0, none⟩) np cp, .int .i64 c.ru.time, .slice ae ne ce, .bool c.ru.expl, .bool c.ru.chk, .int .i64 c.ru.usage] gT #[x1, x2, av] /\ OwnS anKd w2.drew (gT + 1) av (trA s.ancs (c.anc.take k)) fA /\ OwnS certKd w2.drew (w.heap.size + 1 + 1 + 1) x1 s.certs f1 /\ OwnS crlKd w2.drew (w.heap.size + 1 + 1 + 1) x2 s.crls f2) := ⟨H2.out.1.below hd0, H2.out.2.1.stays hd0, H2.out.2.2.1.stays hd0, H2.out.2.2.2.stays hd0⟩
    have y0 : w2.drew.cell? ⟨gT, 2, none⟩ = some av := HD.out.1.2.2.2.2.1.cell 2
    have y1 : w2.drew.cell? ⟨w.heap.size, 2, none⟩ = some (.slice (some ⟨g, o, none⟩) n3 c3) := HD.out.1.2.1.cell 2
    have m0 : w2.drew.cell? ⟨g, o + m * 2, none⟩ = some (.string x.name) := (HXC.out _ HD.out.1.1).1
    have m1 : w2.drew.cell? ⟨g, o + m * 2 + 1, none⟩ = some (.string x.key) := (HXC.out _ HD.out.1.1).2
    have y2 : w2.drew.cell? ⟨w.heap.size + 1, 1, none⟩ = some (.slice (some ⟨gp, 0, none⟩) np cp) := HD.out.1.2.2.1.cell 1
    have y3 : w2.drew.cell? ⟨gp, k, none⟩ = some (.int .i64 (m : Int)) := HXP.out _ HD.out.1.1
    have HAL : Hid (Below w2.drew.heap.size w2.drew (w2.drew.alloc (Obj.cells #[.string x.name, .string x.key] 97))) := (Below.refl _ _).alloc (Nat.le_refl _) _
    have y0a := fun ob => ((H2.out.1.below ((Below.refl w2.heap.size w2).alloc (Nat.le_refl _) ob)).2.2.2.2.1.cell 2 : (w2.alloc ob).cell? ⟨gT, 2, none⟩ = some av)
    clear H2
    go_region_law (first
     | (refine step_app anKd rfl _ _ 35 rfl i0 (.agg #[.string ⟨#[]⟩, .string ⟨#[]⟩]) 32 Try.underlying35 hi hz0 hz1 hz2 rfl (by decide) (gT + 1) av (trA s.ancs (c.anc.take k)) fA x (.agg #[.string x.name, .string x.key]) rfl w2.drew.heap.size rfl (Blk.new w2.drew 97 #[.string x.name, .string x.key]).range (HD.out.2.1.stays HAL.out) rfl (fun y h1 h2 => by cases h1) (Nat.le_trans HD.out.1.2.2.2.2.2.2 HAL.out.size) nA HNA.out (by omega) ?_; intro g6 cap6 w6 fp6 hG6 hgrow6 hf6; have hne6 : ∀ q, q < gT + 1 -> av.ownBlock ≠ some q := (fun q hq e => by obtain ⟨_, _, hr9, _⟩ := HD.out.2.1; have := (hr9.lt q e).1; omega); have h7 := (HD.out.1.below HAL.out).grown hgrow6 hne6; have y6 : w6.cell? ⟨gT, 2, none⟩ = some av := h7.2.2.2.2.1.cell 2; have fz6 : w6.frozen? ⟨gT, 2, none⟩ = false := h7.2.2.2.2.1.free 2; clear h7))
    all_goals (
     have H6 : Hid (KT w w6 #[.slice a1 n1 c1, .slice a2 n2 c2, .slice (some ⟨g, o, none⟩) n3 c3] #[.int .i64 c.id, .slice (some ⟨gp, 0, none⟩) np cp, .int .i64 c.ru.time, .slice ae ne ce, .bool c.ru.expl, .bool c.ru.chk, .int .i64 c.ru.usage] gT #[x1, x2, av] /\ OwnS anKd w6 (gT + 1) (.slice (some ⟨g6, 0, none⟩) (nA + 1) cap6) (trA s.ancs (c.anc.take (k + 1))) fp6 /\ OwnS certKd w6 (w.heap.size + 1 + 1 + 1) x1 s.certs f1 /\ OwnS crlKd w6 (w.heap.size + 1 + 1 + 1) x2 s.crls f2) := by
      have h7 := HD.out.1.below HAL.out
      rw [<- HNX.out] at hG6
      exact ⟨h7.grown hgrow6 hne6, hG6, (HD.out.2.2.1.stays HAL.out).same (fun b hb => hgrow6.block b ((HD.out.2.2.1.stays HAL.out).lt b hb).2 (fun e => hne6 b (by have := HF12.out.1 b hb; omega) e.symm)), (HD.out.2.2.2.stays HAL.out).same (fun b hb => hgrow6.block b ((HD.out.2.2.2.stays HAL.out).lt b hb).2 (fun e => hne6 b (by have := HF12.out.2 b hb; omega) e.symm))⟩
     clear hG6 hgrow6 y6 fz6 y0 y1 y2 y3 y0a m0 m1 hf6 hne6 HD HAL
     go_wp2_with fail
     refine ⟨⟨k + 1, by omega, by go_num, .slice (some ⟨g6, 0, none⟩) (nA + 1) cap6, fp6, ?_⟩, by simp [intOf]; omega⟩
     have hgt := H6.out.1.2.2.2.2.2.1
     exact ⟨H6.out.1.set 2 _, H6.out.2.1.same (fun b hb => heap_setCell_other _ _ _ _ (by have := (H6.out.2.1.lt b hb).1; show b ≠ gT; omega)), H6.out.2.2.1.same (fun b hb => heap_setCell_other _ _ _ _ (by have := HF12.out.1 b hb; show b ≠ gT; omega)), H6.out.2.2.2.same (fun b hb => heap_setCell_other _ _ _ _ (by have := HF12.out.2 b hb; show b ≠ gT; omega))⟩)
   ·rw [show inB K 0 ((n3 : Int) - 1) = false from decide_eq_false (fun q => hin ⟨q.1, by omega⟩)] at EA
    have HNX : Hid (trA s.ancs (c.anc.take (k + 1)) = trA s.ancs (c.anc.take k)) := by show _ = _; rw [HN.out, ancAt_no (by rw [HX.out.2]; exact hin)]; exact List.append_nil _
    clear hin HN
    go_upto_region 6 with fail
    go_quiet (exact Calls.quiet_of_same (EA.out _))
    have H2 : Hid (KT w (wr.drewN nq) #[.slice a1 n1 c1, .slice a2 n2 c2, .slice a3 n3 c3] #[.int .i64 c.id, .slice (some ⟨gp, 0, none⟩) np cp, .int .i64 c.ru.time, .slice ae ne ce, .bool c.ru.expl, .bool c.ru.chk, .int .i64 c.ru.usage] gT #[x1, x2, av] /\ OwnS anKd (wr.drewN nq) (gT + 1) av (trA s.ancs (c.anc.take (k + 1))) fA /\ OwnS certKd (wr.drewN nq) (w.heap.size + 1 + 1 + 1) x1 s.certs f1 /\ OwnS crlKd (wr.drewN nq) (w.heap.size + 1 + 1 + 1) x2 s.crls f2) := by
     show _ /\ _
     rw [HNX.out]
     exact ⟨H.out.1.below (below_drewN _ _ _), H.out.2.1.stays (below_drewN _ _ _), H.out.2.2.1.stays (below_drewN _ _ _), H.out.2.2.2.stays (below_drewN _ _ _)⟩
    clear EA H xs2 xp xq
    generalize wr.drewN nq = w2 at H2 |-
    go_wp2_with fail
    exact ⟨⟨k + 1, by omega, by go_num, av, fA, H2.out⟩, by simp [intOf]; omega⟩
  ·have hkl : np = k := by omega
   subst hkl
   have HE : Hid (KT w wr #[.slice a1 n1 c1, .slice a2 n2 c2, .slice a3 n3 c3] #[.int .i64 c.id, .slice ap np cp, .int .i64 c.ru.time, .slice ae ne ce, .bool c.ru.expl, .bool c.ru.chk, .int .i64 c.ru.usage] gT #[x1, x2, av] /\ OwnS anKd wr (gT + 1) av (trA s.ancs c.anc) fA /\ OwnS certKd wr (w.heap.size + 1 + 1 + 1) x1 s.certs f1 /\ OwnS crlKd wr (w.heap.size + 1 + 1 + 1) x2 s.crls f2) := by
    have h := H.out
    rw [List.take_of_length_le (by rw [HP.out.2]; exact Nat.le_refl _)] at h
    exact h
   clear H
   have xq : wr.cell? ⟨w.heap.size + 1, 1, none⟩ = some (.slice ap np cp) := HE.out.1.2.2.1.cell 1
   obtain ⟨a9, c9, hv9⟩ := HE.out.2.1.at.shape
   obtain ⟨n9, e9⟩ := zE ((trA s.ancs c.anc).length)
   rw [e9] at hv9
   clear e9
   subst hv9
   obtain ⟨hx1, hx2⟩ := HX1.out
   clear HX1
   subst hx1 hx2
   have q0 : wr.cell? ⟨gT, 0, none⟩ = some (.slice r1 n1 t1) := HE.out.1.2.2.2.2.1.cell 0
   have q1 : wr.cell? ⟨gT, 1, none⟩ = some (.slice r2 n2 t2) := HE.out.1.2.2.2.2.1.cell 1
   have q2 : wr.cell? ⟨gT, 2, none⟩ = some (.slice a9 n9 c9) := HE.out.1.2.2.2.2.1.cell 2
   have r0 : wr.cell? ⟨w.heap.size + 1 + 1, 0, none⟩ = some (.slice none 0 0) := HE.out.1.2.2.2.1.cell 0
   have r1' : wr.cell? ⟨w.heap.size + 1 + 1, 1, none⟩ = some (.slice none 0 0) := HE.out.1.2.2.2.1.cell 1
   have r2' : wr.cell? ⟨w.heap.size + 1 + 1, 2, none⟩ = some (.slice none 0 0) := HE.out.1.2.2.2.1.cell 2
   have rf := fun i => HE.out.1.2.2.2.1.free i
   go_wp2_with fail
   have hgT := HE.out.1.2.2.2.2.2.1
   refine bodyPost_ret (v := .agg #[.slice r1 n1 t1, .slice r2 n2 t2, .slice a9 n9 c9]) (by simp [results, Try.results30, go_sem, r0, r1', r2']) rfl ⟨_, f1 ++ (f2 ++ fA), rfl, OwnO.same (w := wr) ⟨_, _, _, f1, f2, fA, rfl, HE.out.2.2.1.base (by omega), HE.out.2.2.2.base (by omega), HE.out.2.1.base (by omega), rfl, ?nd⟩ ?far, ?bel⟩
   case nd =>
    exact nodup_app HND.out.1 (nodup_app HND.out.2.1 HE.out.2.1.nodup fun y h1 h2 => by have := HF12.out.2 y h1; have := (HE.out.2.1.lt y h2).1; omega) fun y h1 h2 => by
     rcases List.mem_append.1 h2 with h2 | h2
     ·exact HND.out.2.2 y h1 h2
     ·have := HF12.out.1 y h1; have := (HE.out.2.1.lt y h2).1; omega
   case far =>
    intro b hb
    have hlt : w.heap.size + 1 + 1 + 1 <= b := by
     rcases List.mem_append.1 hb with hb | hb
     ·exact (HE.out.2.2.1.lt b hb).1
     ·rcases List.mem_append.1 hb with hb | hb
      ·exact (HE.out.2.2.2.lt b hb).1
      ·have := (HE.out.2.1.lt b hb).1; omega
    iterate 3 rw [heap_setCell_other _ _ _ _ (by show b ≠ w.heap.size + 1 + 1; omega)]
   case bel =>
    iterate 3 refine Below.setCell ?_ (by show w.heap.size <= w.heap.size + 1 + 1; omega) _
    exact HE.out.1.1
end Go.Proofs.Ytllmgjfffkhocaa
