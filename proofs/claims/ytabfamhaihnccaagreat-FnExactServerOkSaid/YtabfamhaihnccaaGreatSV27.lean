/-
  Texts of the proof.
-/
import Derived.Test.YtabfamhaihnccaaGreatChecked
import Derived.WalkKit
import Derived.WalkSpells
import Derived.WalkLawsBesides
import Derived.Handy
import Derived.Laws.BitsAllLaws
import Derived.Lib.LaidTab
import Derived.Lib.AppendIntMem
import Derived.Laws.IdiomStrings
import Derived.Test.YtabfamhaihnccaaGreatShelf
import Derived.Deep.QuietTactic
import Derived.BigQuiet
import Derived.Deep.RegionHeld3
import Derived.Deep.CutRange
import Derived.Test.YtabfamhaihnccaaGreatSV26
set_option maxRecDepth 100000
set_option maxHeartbeats 25600000
namespace Go.Proofs.YtabfamhaihnccaaGreat
open Go.RowKit
theorem below_drewN (B : Nat) (w : World) (n : Nat) : Below B w (w.drewN n) := ⟨rfl, rfl, rfl, Nat.le_refl _, fun _ _ => rfl⟩
end Go.Proofs.YtabfamhaihnccaaGreat
namespace Go.Proofs.YtabfamhaihnccaaGreat
open Go.RowKit
set_option linter.unusedVariables false
set_option linter.unusedSimpArgs false
theorem ids_get {l : List Pn} {k : Nat} (h : k < l.length) : (l.map Pn.id).getD k 0 = l[k].id := by
 rw [List.getD_eq_getElem?_getD, List.getElem?_eq_getElem (by rw [List.length_map]; exact h), Option.getD_some, List.getElem_map]
theorem plans_down {l : List Pn} {m k : Nat} (h0 : 0 < k) (hk : k < l.length) (h : lsI ((l.map Pn.id).getD (k - 1) 0) ((l.map Pn.id).getD k 0) = false) : plansOk m l = false := by
 unfold plansOk
 rw [asc_no k h0 (by rw [List.length_map]; exact hk) h]
 simp
theorem pl_far {p : Pn} {m j : Nat} (hj : j < p.anc.length) (h : inN m (p.anc.getD j 0) = false) : plOk m p = false := by
 unfold plOk
 rw [inN_no hj h]
 simp
theorem pl_down {p : Pn} {m j : Nat} (h0 : 0 < j) (hj : j < p.anc.length) (h : lsI (p.anc.getD (j - 1) 0) (p.anc.getD j 0) = false) : plOk m p = false := by
 unfold plOk
 rw [asc_no j h0 hj h]
 simp
theorem pl_yes {p : Pn} {m : Nat} (h : inB p.id 0 99 = true /\ ruOk { p.ru with time := 0 } = true /\ inB (p.anc.length : Int) 1 3 = true) (h1 : ascG lsI 0 p.anc = true) (h2 : p.anc.all (inN m) = true) : plOk m p = true := by
 unfold plOk
 rw [h.1, h.2.1, h.2.2, h1, h2]
 rfl
theorem pl_no {p : Pn} {m : Nat} (h : ¬ (inB p.id 0 99 = true /\ ruOk { p.ru with time := 0 } = true /\ inB (p.anc.length : Int) 1 3 = true)) : plOk m p = false := by
 rw [Bool.eq_false_iff]
 intro q
 unfold plOk at q
 simp only [Bool.and_eq_true] at q
 exact h ⟨q.1, q.2.1, q.2.2.1⟩
def KP (w W : World) (S : Array Value) (gP : Nat) (U : Array Value) (gR : Nat) (X : Array Value) : Prop := Below w.heap.size w W /\ Blk W w.heap.size 37 S /\ Blk W gP 127 U /\ Blk W gR 125 X
theorem KP.below {w W W' : World} {S U X : Array Value} {gP gR : Nat} (h : KP w W S gP U gR X) (hb : Below W.heap.size W W') : KP w W' S gP U gR X := ⟨h.1.trans (hb.mono h.1.size), h.2.1.below hb h.2.1.lt, h.2.2.1.below hb h.2.2.1.lt, h.2.2.2.below hb h.2.2.2.lt⟩
theorem specPlansOk_any (l : List Pn) (v : Value) (a1 : Option Addr) (n1 c1 : Nat) (a2 : Option Addr) (n2 c2 : Nat) (a3 : Option Addr) (n3 c3 : Nat) (w : World) (hl : wtPS l <= 1000000000) (hn : n3 <= 1000000000) (ha : AtS pnKd w v l) :
  Calls Tryz.prog 29 #[v, .agg #[.slice a1 n1 c1, .slice a2 n2 c2, .slice a3 n3 c3]] w fun e w' => e = .returned (.bool (plansOk n3 l)) /\ Below w.heap.size w w' := by
 obtain ⟨pa, pc, hpa⟩ := ha.shape
 obtain ⟨n, hnl⟩ := zE (l.length)
 rw [hnl] at hpa
 subst hpa
 have hnB : n <= 1000000000 := by rw [<- hnl]; unfold wtPS at hl; omega
 obtain ⟨V0, hV⟩ : ∃ V, V = w.alloc (Obj.cells #[.slice a1 n1 c1, .slice a2 n2 c2, .slice a3 n3 c3] 37) := ⟨_, rfl⟩
 have G0 : Hid (Below w.heap.size w V0 /\ Blk V0 w.heap.size 37 #[.slice a1 n1 c1, .slice a2 n2 c2, .slice a3 n3 c3]) := by rw [hV]; exact ⟨(Below.refl _ _).alloc (Nat.le_refl _) _, Blk.new w _ _⟩
 have HT : Hid (AtS pnKd w (.slice pa n pc) l /\ l.length = n /\ wtPS l <= 1000000000) := ⟨ha, hnl, hl⟩
 obtain ⟨R, hR⟩ := zE (plansOk n3 l)
 have HR : Hid (plansOk n3 l = R) := hR
 rw [hR]
 clear ha hnl hl hR
 go_enter Tryz.func29, Tryz.ntmps29
 go_upto_region 1 with fail
 rw [<- hV]
 clear hV
 go_wp2_with fail
 go_loopw [5] (fun iv wr => ∃ k : Nat, k <= n /\ iv = .int .i64 k /\ Hid ((∀ j (hj : j < l.length), j < k -> plOk n3 l[j] = true) /\ (∀ j, 0 < j -> j < k -> lsI ((l.map Pn.id).getD (j - 1) 0) ((l.map Pn.id).getD j 0) = true) /\ Below w.heap.size w wr /\ Blk wr w.heap.size 37 #[.slice a1 n1 c1, .slice a2 n2 c2, .slice a3 n3 c3])) (fun iv _ => n - (intOf iv).toNat)
 case atStart => exact ⟨0, Nat.zero_le _, rfl, fun j _ hj => absurd hj (Nat.not_lt_zero _), fun j _ hj => absurd hj (Nat.not_lt_zero _), G0.out.1, G0.out.2⟩
 case round =>
  clear G0
  obtain ⟨k, hk, rfl, HK⟩ := hrel
  by_cases hkn : k < n
  ·have hkl : k < l.length := by rw [HT.out.2.1]; exact hkn
   obtain ⟨b, off, u, hao, hbB, hPu, hus, hcell⟩ := HT.out.1.get hkl
   obtain ⟨p1, q1, e1, r1, hu⟩ := PnAt.shape hPu
   obtain ⟨x, hx⟩ := zE (l[k])
   rw [hx] at hu
   obtain ⟨l1, hl1⟩ := zE (x.anc.length)
   obtain ⟨l2, hl2⟩ := zE (x.ru.pol.length)
   rw [hl1, hl2] at hu
   have hrg0 := fun i z (hz : u.cells[i]? = some z) => (HK.out.2.2.1.cell (p := ⟨b, off + k * 7 + i, none⟩) (by show b < w.heap.size; exact hbB)).trans (hcell i z hz)
   have HP : PnAt w u x := by rw [<- hx]; exact hPu
   have hxw : wtPn x <= 1000000000 := by rw [<- hx]; exact Nat.le_trans (wtPS_mem (List.getElem_mem hkl)) HT.out.2.2
   obtain ⟨y, hy⟩ := zE ((l.map Pn.id).getD (k - 1) 0)
   have HPY : Hid (∀ m, m + 1 = k -> ∀ W, Below w.heap.size w W -> W.cell? ⟨b, off + m * 7, none⟩ = some (.int .i64 y)) := fun m hm W hb => by
    obtain ⟨b2, off2, u2, hao2, hbB2, hPu2, hus2, hcell2⟩ := HT.out.1.get (show m < l.length by omega)
    rw [hao] at hao2
    injection hao2 with hao2
    injection hao2 with hb2 ho2
    subst hb2 ho2
    obtain ⟨p2, q2, e2, r2, hu2⟩ := PnAt.shape hPu2
    have h := (hb.cell (p := ⟨b, off + m * 7 + 0, none⟩) hbB2).trans (hcell2 0 (.int .i64 l[m].id) (by rw [hu2]; rfl))
    rw [<- hy, show k - 1 = m by omega, ids_get (by omega)]
    exact h
   subst hao hu
   obtain ⟨hp1, hp2⟩ : IntAt w (.slice p1 l1 q1) x.anc /\ IntAt w (.slice e1 l2 r1) x.ru.pol := by
    obtain ⟨pv, ev, hv2, h1, h2⟩ := HP
    unfold pnV at hv2
    injection hv2 with hv2
    simp only [Array.mk.injEq, List.cons.injEq, Value.int.injEq, Value.bool.injEq, and_true, true_and] at hv2
    obtain ⟨rfl, rfl⟩ := hv2
    exact ⟨h1, h2⟩
   obtain ⟨ao9, c9, hv9, hc9⟩ := hp1.each
   obtain ⟨h91, -, -⟩ := Value.slice.inj hv9
   subst h91
   have HA : Hid ((∀ j, j < l1 -> ∃ g, p1 = some ⟨g, 0, none⟩ /\ g < w.heap.size /\ w.cell? ⟨g, j, none⟩ = some (.int .i64 (x.anc.getD j 0))) /\ x.anc.length = l1) := ⟨fun j hj => hc9 j (by rw [hl1]; exact hj), hl1⟩
   have hrg : wr.rangeAt b (off + k * 7) #[.int .i64 x.id, .slice p1 l1 q1, .int .i64 x.ru.time, .slice e1 l2 r1, .bool x.ru.expl, .bool x.ru.chk, .int .i64 x.ru.usage].toList := fun j y hy => hrg0 j y (by rw [<- hy]; exact Array.getElem?_toList.symm)
   obtain ⟨V2, hV2⟩ : ∃ W, W = (wr.alloc (Obj.cells #[.int .i64 x.id, .slice p1 l1 q1, .int .i64 x.ru.time, .slice e1 l2 r1, .bool x.ru.expl, .bool x.ru.chk, .int .i64 x.ru.usage] 127)).alloc (Obj.cells #[.int .i64 0, .slice e1 l2 r1, .bool x.ru.expl, .bool x.ru.chk, .int .i64 x.ru.usage] 125) := ⟨_, rfl⟩
   have HV : Hid (KP w V2 #[.slice a1 n1 c1, .slice a2 n2 c2, .slice a3 n3 c3] wr.heap.size #[.int .i64 x.id, .slice p1 l1 q1, .int .i64 x.ru.time, .slice e1 l2 r1, .bool x.ru.expl, .bool x.ru.chk, .int .i64 x.ru.usage] (wr.heap.size + 1) #[.int .i64 0, .slice e1 l2 r1, .bool x.ru.expl, .bool x.ru.chk, .int .i64 x.ru.usage]) := by
    have e0 : (wr.alloc (Obj.cells #[.int .i64 x.id, .slice p1 l1 q1, .int .i64 x.ru.time, .slice e1 l2 r1, .bool x.ru.expl, .bool x.ru.chk, .int .i64 x.ru.usage] 127)).heap.size = wr.heap.size + 1 := size_alloc _ _
    have hb2 : Below wr.heap.size wr V2 := by rw [hV2]; exact ((Below.refl _ _).alloc (Nat.le_refl _) _).alloc (by rw [e0]; omega) _
    have h := Blk.new (wr.alloc (Obj.cells #[.int .i64 x.id, .slice p1 l1 q1, .int .i64 x.ru.time, .slice e1 l2 r1, .bool x.ru.expl, .bool x.ru.chk, .int .i64 x.ru.usage] 127)) 125 #[.int .i64 0, .slice e1 l2 r1, .bool x.ru.expl, .bool x.ru.chk, .int .i64 x.ru.usage]
    rw [e0] at h
    exact ⟨HK.out.2.2.1.trans (hb2.mono HK.out.2.2.1.size), HK.out.2.2.2.below hb2 HK.out.2.2.2.lt, by rw [hV2]; exact (Blk.new wr _ _).alloc _, by rw [hV2]; exact h⟩
   have HB := zH (zJ HK.out.1 HK.out.2.1)
   have HXK : Hid (l[k] = x) := hx
   have HYK : Hid ((l.map Pn.id).getD (k - 1) 0 = y) := hy
   obtain ⟨B1, hB1⟩ := zE (inB x.id 0 99)
   obtain ⟨B2, hB2⟩ := zE (ruOk { x.ru with time := 0 })
   obtain ⟨B3, hB3⟩ := zE (inB (x.anc.length : Int) 1 3)
   obtain ⟨G, hG⟩ := zE ((B1 && (decide (k = 0 ∨ y < x.id) && (B2 && B3))))
   have HG : Hid ((B1 && (decide (k = 0 ∨ y < x.id) && (B2 && B3))) = G) := hG
   have HBS : Hid (inB x.id 0 99 = B1 /\ ruOk { x.ru with time := 0 } = B2 /\ inB (x.anc.length : Int) 1 3 = B3) := ⟨hB1, hB2, hB3⟩
   have E1 : Hid (∀ W, Calls Tryz.prog 30 #[.int .i64 x.id, .int .i64 0, .int .i64 99] W fun e w' => e = .returned (.bool B1) /\ Below W.heap.size W w') := fun W => by rw [<- hB1]; exact in_any _ _ _ W
   have E2 : Hid (∀ W, Below w.heap.size w W -> Calls Tryz.prog 78 #[.agg #[.int .i64 0, .slice e1 l2 r1, .bool x.ru.expl, .bool x.ru.chk, .int .i64 x.ru.usage]] W fun e w' => e = .returned (.bool B2) /\ Below W.heap.size W w') := fun W hb => by rw [<- hB2]; exact specRulesOk_any { x.ru with time := 0 } _ W (wtPn_lens hxw).2 ⟨.slice e1 l2 r1, rfl, hp2.below hb⟩
   have E3 : Hid (∀ W, Calls Tryz.prog 30 #[.int .i64 (l1 : Int), .int .i64 1, .int .i64 3] W fun e w' => e = .returned (.bool B3) /\ Below W.heap.size W w') := fun W => by rw [<- hB3, hl1]; exact in_any _ _ _ W
   have hki : (k : Int) < (n : Int) := by omega
   have hk0 : (0 : Int) <= (k : Int) := by omega
   have hl1B : l1 <= 1000000000 := by rw [<- hl1]; exact (wtPn_lens hxw).1
   clear hcell hPu hus hbB hx hrg0 HP HK hl1 hl2 hxw hp1 hp2 hc9 hv9 hy hB1 hB2 hB3 hG
   go_upto_region 7 with (refine wpList_load_mid rfl 127 _ rfl b (off + k * 7) rfl _ _ hrg Tryz.underlying127 rfl (by kernel_rfl) ?_)
   rw [<- hV2]
   obtain ⟨gP, hgP⟩ := zE (wr.heap.size)
   obtain ⟨gR, hgR⟩ := zE (wr.heap.size + 1)
   rw [hgR, hgP] at HV
   rw [hgR, hgP]
   clear hgP hgR hV2 hrg
   go_cut [52] from 9 to 88 (fun s52 wx => s52 = .bool (!G) /\ Hid (KP w wx #[.slice a1 n1 c1, .slice a2 n2 c2, .slice a3 n3 c3] gP #[.int .i64 x.id, .slice p1 l1 q1, .int .i64 x.ru.time, .slice e1 l2 r1, .bool x.ru.expl, .bool x.ru.chk, .int .i64 x.ru.usage] gR #[.int .i64 0, .slice e1 l2 r1, .bool x.ru.expl, .bool x.ru.chk, .int .i64 x.ru.usage]))
   case first =>
    have HD : KP w V2.drew #[.slice a1 n1 c1, .slice a2 n2 c2, .slice a3 n3 c3] gP #[.int .i64 x.id, .slice p1 l1 q1, .int .i64 x.ru.time, .slice e1 l2 r1, .bool x.ru.expl, .bool x.ru.chk, .int .i64 x.ru.usage] gR #[.int .i64 0, .slice e1 l2 r1, .bool x.ru.expl, .bool x.ru.chk, .int .i64 x.ru.usage] := HV.out.below (Below.refl _ _).drew
    refine wp_region_held_drew (S := fun W => KP w W #[.slice a1 n1 c1, .slice a2 n2 c2, .slice a3 n3 c3] gP #[.int .i64 x.id, .slice p1 l1 q1, .int .i64 x.ru.time, .slice e1 l2 r1, .bool x.ru.expl, .bool x.ru.chk, .int .i64 x.ru.usage] gR #[.int .i64 0, .slice e1 l2 r1, .bool x.ru.expl, .bool x.ru.chk, .int .i64 x.ru.usage]) (by kernel_rfl) HD (fun hHeld => ?_)
    clear HD HV
    generalize V2.drew = wd at hHeld |-
    cases B1 with
    | false =>
     have HQ : Hid (G = false) := by show G = false; rw [<- HG.out]; rfl
     refine zT 0 22 ?_ rfl (by rfl) ?_ hHeld ?_
     rotate_left
     ·intro W hSw
      go_simp
      try with_reducible rfl
     try simp only [Act.put, zA, zB, zC]
     refine zT 1 23 ?_ rfl (by rfl) ?_ hHeld ?_
     rotate_left
     ·intro W hSw
      have z0 := fun j => hSw.2.2.1.cell j
      go_simp
      try with_reducible rfl
     try simp only [Act.put, zA, zB, zC]
     refine wpAnyH_ready (rs := [2]) (by kernel_rfl) (by simp) ?_
     refine AllReadyH.cons (o := ⟨some 24, _, _, _, _, _⟩) rfl (fun K hK => ?_) AllReadyH.nil
     go_simp
     refine (E1.out wd).mono ?_
     rintro e y1 ⟨rfl, hb⟩
     have hH := hHeld.below hb
     clear hb
     refine hK.out _ _ hH (fun hHeld => ?_)
     clear hK K hH
     try simp only [Act.put, zA, zB, zC]
     refine zT 3 25 ?_ rfl (by rfl) ?_ hHeld ?_
     rotate_left
     ·intro W hSw
      go_simp
      try with_reducible rfl
     try simp only [Act.put, zA, zB, zC]
     refine zT 4 26 ?_ rfl (by rfl) ?_ hHeld ?_
     rotate_left
     ·intro W hSw
      go_simp
      try with_reducible rfl
     try simp only [Act.put, zA, zB, zC]
     refine zU 5 27 rfl (by rfl) hHeld ?_
     try simp only [Act.put, zA, zB, zC]
     refine zU 6 28 rfl (by rfl) hHeld ?_
     try simp only [Act.put, zA, zB, zC]
     refine zU 7 29 rfl (by rfl) hHeld ?_
     try simp only [Act.put, zA, zB, zC]
     refine zU 8 30 rfl (by rfl) hHeld ?_
     try simp only [Act.put, zA, zB, zC]
     refine zU 9 31 rfl (by rfl) hHeld ?_
     try simp only [Act.put, zA, zB, zC]
     refine zU 10 32 rfl (by rfl) hHeld ?_
     try simp only [Act.put, zA, zB, zC]
     refine zU 11 33 rfl (by rfl) hHeld ?_
     try simp only [Act.put, zA, zB, zC]
     refine zU 12 34 rfl (by rfl) hHeld ?_
     try simp only [Act.put, zA, zB, zC]
     refine zU 13 35 rfl (by rfl) hHeld ?_
     try simp only [Act.put, zA, zB, zC]
     refine zU 14 36 rfl (by rfl) hHeld ?_
     try simp only [Act.put, zA, zB, zC]
     refine zU 15 37 rfl (by rfl) hHeld ?_
     try simp only [Act.put, zA, zB, zC]
     refine zU 16 38 rfl (by rfl) hHeld ?_
     try simp only [Act.put, zA, zB, zC]
     refine zU 17 39 rfl (by rfl) hHeld ?_
     try simp only [Act.put, zA, zB, zC]
     refine zT 18 40 ?_ rfl (by rfl) ?_ hHeld ?_
     rotate_left
     ·intro W hSw
      go_simp
      try with_reducible rfl
     try simp only [Act.put, zA, zB, zC]
     refine zT 19 41 ?_ rfl (by rfl) ?_ hHeld ?_
     rotate_left
     ·intro W hSw
      go_simp
      try with_reducible rfl
     try simp only [Act.put, zA, zB, zC]
     refine zU 20 42 rfl (by rfl) hHeld ?_
     try simp only [Act.put, zA, zB, zC]
     refine zU 21 43 rfl (by rfl) hHeld ?_
     try simp only [Act.put, zA, zB, zC]
     refine zU 22 44 rfl (by rfl) hHeld ?_
     try simp only [Act.put, zA, zB, zC]
     refine zT 23 45 ?_ rfl (by rfl) ?_ hHeld ?_
     rotate_left
     ·intro W hSw
      go_simp
      try with_reducible rfl
     try simp only [Act.put, zA, zB, zC]
     refine zT 24 46 ?_ rfl (by rfl) ?_ hHeld ?_
     rotate_left
     ·intro W hSw
      go_simp
      try with_reducible rfl
     try simp only [Act.put, zA, zB, zC]
     refine zU 25 47 rfl (by rfl) hHeld ?_
     try simp only [Act.put, zA, zB, zC]
     refine zU 26 48 rfl (by rfl) hHeld ?_
     try simp only [Act.put, zA, zB, zC]
     refine zU 27 49 rfl (by rfl) hHeld ?_
     try simp only [Act.put, zA, zB, zC]
     refine zU 28 50 rfl (by rfl) hHeld ?_
     try simp only [Act.put, zA, zB, zC]
     refine zU 29 51 rfl (by rfl) hHeld ?_
     try simp only [Act.put, zA, zB, zC]
     refine zT 30 52 ?_ rfl (by rfl) ?_ hHeld ?_
     rotate_left
     ·intro W hSw
      go_simp
      try with_reducible rfl
     try simp only [Act.put, zA, zB, zC]
     have HH : Hid (KP w y1 #[.slice a1 n1 c1, .slice a2 n2 c2, .slice a3 n3 c3] gP #[.int .i64 x.id, .slice p1 l1 q1, .int .i64 x.ru.time, .slice e1 l2 r1, .bool x.ru.expl, .bool x.ru.chk, .int .i64 x.ru.usage] gR #[.int .i64 0, .slice e1 l2 r1, .bool x.ru.expl, .bool x.ru.chk, .int .i64 x.ru.usage]) := hHeld
     refine wpAnyH_done (by kernel_rfl) ?_ _
     go_wp2_with fail
     go_meet
     exact ⟨by rw [HQ.out]; rfl, HH.out⟩
    | true =>
     by_cases hk0z : 0 < k
     rotate_left
     ·have hkz : ¬ (0 : Int) < (k : Int) := by omega
      have HOD : Hid (decide (k = 0 ∨ y < x.id) = true) := decide_eq_true (.inl (by omega))
      cases B2 with
      | false =>
       have HQ : Hid (G = false) := by show G = false; rw [<- HG.out]; rw [HOD.out]; rfl
       refine zT 0 22 ?_ rfl (by rfl) ?_ hHeld ?_
       rotate_left
       ·intro W hSw
        go_simp
        try with_reducible rfl
       try simp only [Act.put, zA, zB, zC]
       refine zT 1 23 ?_ rfl (by rfl) ?_ hHeld ?_
       rotate_left
       ·intro W hSw
        have z0 := fun j => hSw.2.2.1.cell j
        go_simp
        try with_reducible rfl
       try simp only [Act.put, zA, zB, zC]
       refine wpAnyH_ready (rs := [2]) (by kernel_rfl) (by simp) ?_
       refine AllReadyH.cons (o := ⟨some 24, _, _, _, _, _⟩) rfl (fun K hK => ?_) AllReadyH.nil
       go_simp
       refine (E1.out wd).mono ?_
       rintro e y1 ⟨rfl, hb⟩
       have hH := hHeld.below hb
       clear hb
       refine hK.out _ _ hH (fun hHeld => ?_)
       clear hK K hH
       try simp only [Act.put, zA, zB, zC]
       refine zT 3 25 ?_ rfl (by rfl) ?_ hHeld ?_
       rotate_left
       ·intro W hSw
        go_simp
        try with_reducible rfl
       try simp only [Act.put, zA, zB, zC]
       refine zT 4 26 ?_ rfl (by rfl) ?_ hHeld ?_
       rotate_left
       ·intro W hSw
        go_simp
        try with_reducible rfl
       try simp only [Act.put, zA, zB, zC]
       refine zT 5 27 ?_ rfl (by rfl) ?_ hHeld ?_
       rotate_left
       ·intro W hSw
        go_simp
        try with_reducible rfl
       try simp only [Act.put, zA, zB, zC]
       refine zT 6 28 ?_ rfl (by rfl) ?_ hHeld ?_
       rotate_left
       ·intro W hSw
        go_simp
        try with_reducible rfl
       try simp only [Act.put, zA, zB, zC]
       refine zT 7 29 ?_ rfl (by rfl) ?_ hHeld ?_
       rotate_left
       ·intro W hSw
        go_simp
        try with_reducible rfl
       try simp only [Act.put, zA, zB, zC]
       refine zU 8 30 rfl (by rfl) hHeld ?_
       try simp only [Act.put, zA, zB, zC]
       refine zU 9 31 rfl (by rfl) hHeld ?_
       try simp only [Act.put, zA, zB, zC]
       refine zU 10 32 rfl (by rfl) hHeld ?_
       try simp only [Act.put, zA, zB, zC]
       refine zU 11 33 rfl (by rfl) hHeld ?_
       try simp only [Act.put, zA, zB, zC]
       refine zU 12 34 rfl (by rfl) hHeld ?_
       try simp only [Act.put, zA, zB, zC]
       refine zU 13 35 rfl (by rfl) hHeld ?_
       try simp only [Act.put, zA, zB, zC]
       refine zU 14 36 rfl (by rfl) hHeld ?_
       try simp only [Act.put, zA, zB, zC]
       refine zU 15 37 rfl (by rfl) hHeld ?_
       try simp only [Act.put, zA, zB, zC]
       refine zU 16 38 rfl (by rfl) hHeld ?_
       try simp only [Act.put, zA, zB, zC]
       refine zT 17 39 ?_ rfl (by rfl) ?_ hHeld ?_
       rotate_left
       ·intro W hSw
        go_simp
        try with_reducible rfl
       try simp only [Act.put, zA, zB, zC]
       refine zT 18 40 ?_ rfl (by rfl) ?_ hHeld ?_
       rotate_left
       ·intro W hSw
        go_simp
        try with_reducible rfl
       try simp only [Act.put, zA, zB, zC]
       refine zT 19 41 ?_ rfl (by rfl) ?_ hHeld ?_
       rotate_left
       ·intro W hSw
        go_simp
        try with_reducible rfl
       try simp only [Act.put, zA, zB, zC]
       refine zT 20 42 ?_ rfl (by rfl) ?_ hHeld ?_
       rotate_left
       ·intro W hSw
        have z0 := fun j => hSw.2.2.2.cell j
        go_simp
        try with_reducible rfl
       try simp only [Act.put, zA, zB, zC]
       refine wpAnyH_ready (rs := [21]) (by kernel_rfl) (by simp) ?_
       refine AllReadyH.cons (o := ⟨some 43, _, _, _, _, _⟩) rfl (fun K hK => ?_) AllReadyH.nil
       go_simp
       refine (E2.out y1 hHeld.1).mono ?_
       rintro e y2 ⟨rfl, hb⟩
       have hH := hHeld.below hb
       clear hb
       refine hK.out _ _ hH (fun hHeld => ?_)
       clear hK K hH
       try simp only [Act.put, zA, zB, zC]
       refine zT 22 44 ?_ rfl (by rfl) ?_ hHeld ?_
       rotate_left
       ·intro W hSw
        go_simp
        try with_reducible rfl
       try simp only [Act.put, zA, zB, zC]
       refine zT 23 45 ?_ rfl (by rfl) ?_ hHeld ?_
       rotate_left
       ·intro W hSw
        go_simp
        try with_reducible rfl
       try simp only [Act.put, zA, zB, zC]
       refine zT 24 46 ?_ rfl (by rfl) ?_ hHeld ?_
       rotate_left
       ·intro W hSw
        go_simp
        try with_reducible rfl
       try simp only [Act.put, zA, zB, zC]
       refine zU 25 47 rfl (by rfl) hHeld ?_
       try simp only [Act.put, zA, zB, zC]
       refine zU 26 48 rfl (by rfl) hHeld ?_
       try simp only [Act.put, zA, zB, zC]
       refine zU 27 49 rfl (by rfl) hHeld ?_
       try simp only [Act.put, zA, zB, zC]
       refine zU 28 50 rfl (by rfl) hHeld ?_
       try simp only [Act.put, zA, zB, zC]
       refine zU 29 51 rfl (by rfl) hHeld ?_
       try simp only [Act.put, zA, zB, zC]
       refine zT 30 52 ?_ rfl (by rfl) ?_ hHeld ?_
       rotate_left
       ·intro W hSw
        go_simp
        try with_reducible rfl
       try simp only [Act.put, zA, zB, zC]
       have HH : Hid (KP w y2 #[.slice a1 n1 c1, .slice a2 n2 c2, .slice a3 n3 c3] gP #[.int .i64 x.id, .slice p1 l1 q1, .int .i64 x.ru.time, .slice e1 l2 r1, .bool x.ru.expl, .bool x.ru.chk, .int .i64 x.ru.usage] gR #[.int .i64 0, .slice e1 l2 r1, .bool x.ru.expl, .bool x.ru.chk, .int .i64 x.ru.usage]) := hHeld
       refine wpAnyH_done (by kernel_rfl) ?_ _
       go_wp2_with fail
       go_meet
       exact ⟨by rw [HQ.out]; rfl, HH.out⟩
      | true =>
       cases B3 with
       | false =>
        have HQ : Hid (G = false) := by show G = false; rw [<- HG.out]; rw [HOD.out]; rfl
        refine zT 0 22 ?_ rfl (by rfl) ?_ hHeld ?_
        rotate_left
        ·intro W hSw
         go_simp
         try with_reducible rfl
        try simp only [Act.put, zA, zB, zC]
        refine zT 1 23 ?_ rfl (by rfl) ?_ hHeld ?_
        rotate_left
        ·intro W hSw
         have z0 := fun j => hSw.2.2.1.cell j
         go_simp
         try with_reducible rfl
        try simp only [Act.put, zA, zB, zC]
        refine wpAnyH_ready (rs := [2]) (by kernel_rfl) (by simp) ?_
        refine AllReadyH.cons (o := ⟨some 24, _, _, _, _, _⟩) rfl (fun K hK => ?_) AllReadyH.nil
        go_simp
        refine (E1.out wd).mono ?_
        rintro e y1 ⟨rfl, hb⟩
        have hH := hHeld.below hb
        clear hb
        refine hK.out _ _ hH (fun hHeld => ?_)
        clear hK K hH
        try simp only [Act.put, zA, zB, zC]
        refine zT 3 25 ?_ rfl (by rfl) ?_ hHeld ?_
        rotate_left
        ·intro W hSw
         go_simp
         try with_reducible rfl
        try simp only [Act.put, zA, zB, zC]
        refine zT 4 26 ?_ rfl (by rfl) ?_ hHeld ?_
        rotate_left
        ·intro W hSw
         go_simp
         try with_reducible rfl
        try simp only [Act.put, zA, zB, zC]
        refine zT 5 27 ?_ rfl (by rfl) ?_ hHeld ?_
        rotate_left
        ·intro W hSw
         go_simp
         try with_reducible rfl
        try simp only [Act.put, zA, zB, zC]
        refine zT 6 28 ?_ rfl (by rfl) ?_ hHeld ?_
        rotate_left
        ·intro W hSw
         go_simp
         try with_reducible rfl
        try simp only [Act.put, zA, zB, zC]
        refine zT 7 29 ?_ rfl (by rfl) ?_ hHeld ?_
        rotate_left
        ·intro W hSw
         go_simp
         try with_reducible rfl
        try simp only [Act.put, zA, zB, zC]
        refine zU 8 30 rfl (by rfl) hHeld ?_
        try simp only [Act.put, zA, zB, zC]
        refine zU 9 31 rfl (by rfl) hHeld ?_
        try simp only [Act.put, zA, zB, zC]
        refine zU 10 32 rfl (by rfl) hHeld ?_
        try simp only [Act.put, zA, zB, zC]
        refine zU 11 33 rfl (by rfl) hHeld ?_
        try simp only [Act.put, zA, zB, zC]
        refine zU 12 34 rfl (by rfl) hHeld ?_
        try simp only [Act.put, zA, zB, zC]
        refine zU 13 35 rfl (by rfl) hHeld ?_
        try simp only [Act.put, zA, zB, zC]
        refine zU 14 36 rfl (by rfl) hHeld ?_
        try simp only [Act.put, zA, zB, zC]
        refine zU 15 37 rfl (by rfl) hHeld ?_
        try simp only [Act.put, zA, zB, zC]
        refine zU 16 38 rfl (by rfl) hHeld ?_
        try simp only [Act.put, zA, zB, zC]
        refine zT 17 39 ?_ rfl (by rfl) ?_ hHeld ?_
        rotate_left
        ·intro W hSw
         go_simp
         try with_reducible rfl
        try simp only [Act.put, zA, zB, zC]
        refine zT 18 40 ?_ rfl (by rfl) ?_ hHeld ?_
        rotate_left
        ·intro W hSw
         go_simp
         try with_reducible rfl
        try simp only [Act.put, zA, zB, zC]
        refine zT 19 41 ?_ rfl (by rfl) ?_ hHeld ?_
        rotate_left
        ·intro W hSw
         go_simp
         try with_reducible rfl
        try simp only [Act.put, zA, zB, zC]
        refine zT 20 42 ?_ rfl (by rfl) ?_ hHeld ?_
        rotate_left
        ·intro W hSw
         have z0 := fun j => hSw.2.2.2.cell j
         go_simp
         try with_reducible rfl
        try simp only [Act.put, zA, zB, zC]
        refine wpAnyH_ready (rs := [21]) (by kernel_rfl) (by simp) ?_
        refine AllReadyH.cons (o := ⟨some 43, _, _, _, _, _⟩) rfl (fun K hK => ?_) AllReadyH.nil
        go_simp
        refine (E2.out y1 hHeld.1).mono ?_
        rintro e y2 ⟨rfl, hb⟩
        have hH := hHeld.below hb
        clear hb
        refine hK.out _ _ hH (fun hHeld => ?_)
        clear hK K hH
        try simp only [Act.put, zA, zB, zC]
        refine zT 22 44 ?_ rfl (by rfl) ?_ hHeld ?_
        rotate_left
        ·intro W hSw
         go_simp
         try with_reducible rfl
        try simp only [Act.put, zA, zB, zC]
        refine zT 23 45 ?_ rfl (by rfl) ?_ hHeld ?_
        rotate_left
        ·intro W hSw
         go_simp
         try with_reducible rfl
        try simp only [Act.put, zA, zB, zC]
        refine zT 24 46 ?_ rfl (by rfl) ?_ hHeld ?_
        rotate_left
        ·intro W hSw
         go_simp
         try with_reducible rfl
        try simp only [Act.put, zA, zB, zC]
        refine zT 25 47 ?_ rfl (by rfl) ?_ hHeld ?_
        rotate_left
        ·intro W hSw
         go_simp
         try with_reducible rfl
        try simp only [Act.put, zA, zB, zC]
        refine zT 26 48 ?_ rfl (by rfl) ?_ hHeld ?_
        rotate_left
        ·intro W hSw
         have z0 := fun j => hSw.2.2.1.cell j
         go_simp
         try with_reducible rfl
        try simp only [Act.put, zA, zB, zC]
        refine zT 27 49 ?_ rfl (by rfl) ?_ hHeld ?_
        rotate_left
        ·intro W hSw
         go_simp
         try with_reducible rfl
        try simp only [Act.put, zA, zB, zC]
        refine wpAnyH_ready (rs := [28]) (by kernel_rfl) (by simp) ?_
        refine AllReadyH.cons (o := ⟨some 50, _, _, _, _, _⟩) rfl (fun K hK => ?_) AllReadyH.nil
        go_simp
        refine (E3.out y2).mono ?_
        rintro e y3 ⟨rfl, hb⟩
        have hH := hHeld.below hb
        clear hb
        refine hK.out _ _ hH (fun hHeld => ?_)
        clear hK K hH
        try simp only [Act.put, zA, zB, zC]
        refine zT 29 51 ?_ rfl (by rfl) ?_ hHeld ?_
        rotate_left
        ·intro W hSw
         go_simp
         try with_reducible rfl
        try simp only [Act.put, zA, zB, zC]
        refine zT 30 52 ?_ rfl (by rfl) ?_ hHeld ?_
        rotate_left
        ·intro W hSw
         go_simp
         try with_reducible rfl
        try simp only [Act.put, zA, zB, zC]
        have HH : Hid (KP w y3 #[.slice a1 n1 c1, .slice a2 n2 c2, .slice a3 n3 c3] gP #[.int .i64 x.id, .slice p1 l1 q1, .int .i64 x.ru.time, .slice e1 l2 r1, .bool x.ru.expl, .bool x.ru.chk, .int .i64 x.ru.usage] gR #[.int .i64 0, .slice e1 l2 r1, .bool x.ru.expl, .bool x.ru.chk, .int .i64 x.ru.usage]) := hHeld
        refine wpAnyH_done (by kernel_rfl) ?_ _
        go_wp2_with fail
        go_meet
        exact ⟨by rw [HQ.out]; rfl, HH.out⟩
       | true =>
        have HQ : Hid (G = true) := by show G = true; rw [<- HG.out]; rw [HOD.out]; rfl
        refine zT 0 22 ?_ rfl (by rfl) ?_ hHeld ?_
        rotate_left
        ·intro W hSw
         go_simp
         try with_reducible rfl
        try simp only [Act.put, zA, zB, zC]
        refine zT 1 23 ?_ rfl (by rfl) ?_ hHeld ?_
        rotate_left
        ·intro W hSw
         have z0 := fun j => hSw.2.2.1.cell j
         go_simp
         try with_reducible rfl
        try simp only [Act.put, zA, zB, zC]
        refine wpAnyH_ready (rs := [2]) (by kernel_rfl) (by simp) ?_
        refine AllReadyH.cons (o := ⟨some 24, _, _, _, _, _⟩) rfl (fun K hK => ?_) AllReadyH.nil
        go_simp
        refine (E1.out wd).mono ?_
        rintro e y1 ⟨rfl, hb⟩
        have hH := hHeld.below hb
        clear hb
        refine hK.out _ _ hH (fun hHeld => ?_)
        clear hK K hH
        try simp only [Act.put, zA, zB, zC]
        refine zT 3 25 ?_ rfl (by rfl) ?_ hHeld ?_
        rotate_left
        ·intro W hSw
         go_simp
         try with_reducible rfl
        try simp only [Act.put, zA, zB, zC]
        refine zT 4 26 ?_ rfl (by rfl) ?_ hHeld ?_
        rotate_left
        ·intro W hSw
         go_simp
         try with_reducible rfl
        try simp only [Act.put, zA, zB, zC]
        refine zT 5 27 ?_ rfl (by rfl) ?_ hHeld ?_
        rotate_left
        ·intro W hSw
         go_simp
         try with_reducible rfl
        try simp only [Act.put, zA, zB, zC]
        refine zT 6 28 ?_ rfl (by rfl) ?_ hHeld ?_
        rotate_left
        ·intro W hSw
         go_simp
         try with_reducible rfl
        try simp only [Act.put, zA, zB, zC]
        refine zT 7 29 ?_ rfl (by rfl) ?_ hHeld ?_
        rotate_left
        ·intro W hSw
         go_simp
         try with_reducible rfl
        try simp only [Act.put, zA, zB, zC]
        refine zU 8 30 rfl (by rfl) hHeld ?_
        try simp only [Act.put, zA, zB, zC]
        refine zU 9 31 rfl (by rfl) hHeld ?_
        try simp only [Act.put, zA, zB, zC]
        refine zU 10 32 rfl (by rfl) hHeld ?_
        try simp only [Act.put, zA, zB, zC]
        refine zU 11 33 rfl (by rfl) hHeld ?_
        try simp only [Act.put, zA, zB, zC]
        refine zU 12 34 rfl (by rfl) hHeld ?_
        try simp only [Act.put, zA, zB, zC]
        refine zU 13 35 rfl (by rfl) hHeld ?_
        try simp only [Act.put, zA, zB, zC]
        refine zU 14 36 rfl (by rfl) hHeld ?_
        try simp only [Act.put, zA, zB, zC]
        refine zU 15 37 rfl (by rfl) hHeld ?_
        try simp only [Act.put, zA, zB, zC]
        refine zU 16 38 rfl (by rfl) hHeld ?_
        try simp only [Act.put, zA, zB, zC]
        refine zT 17 39 ?_ rfl (by rfl) ?_ hHeld ?_
        rotate_left
        ·intro W hSw
         go_simp
         try with_reducible rfl
        try simp only [Act.put, zA, zB, zC]
        refine zT 18 40 ?_ rfl (by rfl) ?_ hHeld ?_
        rotate_left
        ·intro W hSw
         go_simp
         try with_reducible rfl
        try simp only [Act.put, zA, zB, zC]
        refine zT 19 41 ?_ rfl (by rfl) ?_ hHeld ?_
        rotate_left
        ·intro W hSw
         go_simp
         try with_reducible rfl
        try simp only [Act.put, zA, zB, zC]
        refine zT 20 42 ?_ rfl (by rfl) ?_ hHeld ?_
        rotate_left
        ·intro W hSw
         have z0 := fun j => hSw.2.2.2.cell j
         go_simp
         try with_reducible rfl
        try simp only [Act.put, zA, zB, zC]
        refine wpAnyH_ready (rs := [21]) (by kernel_rfl) (by simp) ?_
        refine AllReadyH.cons (o := ⟨some 43, _, _, _, _, _⟩) rfl (fun K hK => ?_) AllReadyH.nil
        go_simp
        refine (E2.out y1 hHeld.1).mono ?_
        rintro e y2 ⟨rfl, hb⟩
        have hH := hHeld.below hb
        clear hb
        refine hK.out _ _ hH (fun hHeld => ?_)
        clear hK K hH
        try simp only [Act.put, zA, zB, zC]
        refine zT 22 44 ?_ rfl (by rfl) ?_ hHeld ?_
        rotate_left
        ·intro W hSw
         go_simp
         try with_reducible rfl
        try simp only [Act.put, zA, zB, zC]
        refine zT 23 45 ?_ rfl (by rfl) ?_ hHeld ?_
        rotate_left
        ·intro W hSw
         go_simp
         try with_reducible rfl
        try simp only [Act.put, zA, zB, zC]
        refine zT 24 46 ?_ rfl (by rfl) ?_ hHeld ?_
        rotate_left
        ·intro W hSw
         go_simp
         try with_reducible rfl
        try simp only [Act.put, zA, zB, zC]
        refine zT 25 47 ?_ rfl (by rfl) ?_ hHeld ?_
        rotate_left
        ·intro W hSw
         go_simp
         try with_reducible rfl
        try simp only [Act.put, zA, zB, zC]
        refine zT 26 48 ?_ rfl (by rfl) ?_ hHeld ?_
        rotate_left
        ·intro W hSw
         have z0 := fun j => hSw.2.2.1.cell j
         go_simp
         try with_reducible rfl
        try simp only [Act.put, zA, zB, zC]
        refine zT 27 49 ?_ rfl (by rfl) ?_ hHeld ?_
        rotate_left
        ·intro W hSw
         go_simp
         try with_reducible rfl
        try simp only [Act.put, zA, zB, zC]
        refine wpAnyH_ready (rs := [28]) (by kernel_rfl) (by simp) ?_
        refine AllReadyH.cons (o := ⟨some 50, _, _, _, _, _⟩) rfl (fun K hK => ?_) AllReadyH.nil
        go_simp
        refine (E3.out y2).mono ?_
        rintro e y3 ⟨rfl, hb⟩
        have hH := hHeld.below hb
        clear hb
        refine hK.out _ _ hH (fun hHeld => ?_)
        clear hK K hH
        try simp only [Act.put, zA, zB, zC]
        refine zT 29 51 ?_ rfl (by rfl) ?_ hHeld ?_
        rotate_left
        ·intro W hSw
         go_simp
         try with_reducible rfl
        try simp only [Act.put, zA, zB, zC]
        refine zT 30 52 ?_ rfl (by rfl) ?_ hHeld ?_
        rotate_left
        ·intro W hSw
         go_simp
         try with_reducible rfl
        try simp only [Act.put, zA, zB, zC]
        have HH : Hid (KP w y3 #[.slice a1 n1 c1, .slice a2 n2 c2, .slice a3 n3 c3] gP #[.int .i64 x.id, .slice p1 l1 q1, .int .i64 x.ru.time, .slice e1 l2 r1, .bool x.ru.expl, .bool x.ru.chk, .int .i64 x.ru.usage] gR #[.int .i64 0, .slice e1 l2 r1, .bool x.ru.expl, .bool x.ru.chk, .int .i64 x.ru.usage]) := hHeld
        refine wpAnyH_done (by kernel_rfl) ?_ _
        go_wp2_with fail
        go_meet
        exact ⟨by rw [HQ.out]; rfl, HH.out⟩
     have hkz : (0 : Int) < (k : Int) := by omega
     obtain ⟨m, hm⟩ : ∃ m, m + 1 = k := ⟨k - 1, by omega⟩
     have wk : IntKind.i64.wrap ((k : Int) - 1) = (m : Int) := by rw [IntKind.wrap_i64]; omega
     have hmi : (m : Int) < (n : Int) := by omega
     have hm0 : (0 : Int) <= (m : Int) := by omega
     have HPR : Hid (∀ W, Below w.heap.size w W -> W.cell? ⟨b, off + m * 7, none⟩ = some (.int .i64 y)) := fun W hb => HPY.out m hm W hb
     have hkn0 : ¬ k = 0 := by omega
     by_cases hyx : y < x.id
     rotate_left
     ·have hyxi : x.id <= y := by omega
      have HOD : Hid (decide (k = 0 ∨ y < x.id) = false) := decide_eq_false (fun q => by rcases q with q | q; exact hkn0 q; exact hyx q)
      clear hm
      have HQ : Hid (G = false) := by show G = false; rw [<- HG.out]; rw [HOD.out]; rfl
      refine zT 0 22 ?_ rfl (by rfl) ?_ hHeld ?_
      rotate_left
      ·intro W hSw
       go_simp
       try with_reducible rfl
      try simp only [Act.put, zA, zB, zC]
      refine zT 1 23 ?_ rfl (by rfl) ?_ hHeld ?_
      rotate_left
      ·intro W hSw
       have z0 := fun j => hSw.2.2.1.cell j
       go_simp
       try with_reducible rfl
      try simp only [Act.put, zA, zB, zC]
      refine wpAnyH_ready (rs := [2]) (by kernel_rfl) (by simp) ?_
      refine AllReadyH.cons (o := ⟨some 24, _, _, _, _, _⟩) rfl (fun K hK => ?_) AllReadyH.nil
      go_simp
      refine (E1.out wd).mono ?_
      rintro e y1 ⟨rfl, hb⟩
      have hH := hHeld.below hb
      clear hb
      refine hK.out _ _ hH (fun hHeld => ?_)
      clear hK K hH
      try simp only [Act.put, zA, zB, zC]
      refine zT 3 25 ?_ rfl (by rfl) ?_ hHeld ?_
      rotate_left
      ·intro W hSw
       go_simp
       try with_reducible rfl
      try simp only [Act.put, zA, zB, zC]
      refine zT 4 26 ?_ rfl (by rfl) ?_ hHeld ?_
      rotate_left
      ·intro W hSw
       go_simp
       try with_reducible rfl
      try simp only [Act.put, zA, zB, zC]
      refine zT 5 27 ?_ rfl (by rfl) ?_ hHeld ?_
      rotate_left
      ·intro W hSw
       go_simp
       try with_reducible rfl
      try simp only [Act.put, zA, zB, zC]
      refine zT 6 28 ?_ rfl (by rfl) ?_ hHeld ?_
      rotate_left
      ·intro W hSw
       go_simp
       try with_reducible rfl
      try simp only [Act.put, zA, zB, zC]
      refine zT 7 29 ?_ rfl (by rfl) ?_ hHeld ?_
      rotate_left
      ·intro W hSw
       go_simp
       try with_reducible rfl
      try simp only [Act.put, zA, zB, zC]
      refine zT 8 30 ?_ rfl (by rfl) ?_ hHeld ?_
      rotate_left
      ·intro W hSw
       go_simp
       try with_reducible rfl
      try simp only [Act.put, zA, zB, zC]
      refine zT 9 31 ?_ rfl (by rfl) ?_ hHeld ?_
      rotate_left
      ·intro W hSw
       go_simp
       try with_reducible rfl
      try simp only [Act.put, zA, zB, zC]
      refine zT 10 32 ?_ rfl (by rfl) ?_ hHeld ?_
      rotate_left
      ·intro W hSw
       go_simp
       try with_reducible rfl
      try simp only [Act.put, zA, zB, zC]
      refine zT 11 33 ?_ rfl (by rfl) ?_ hHeld ?_
      rotate_left
      ·intro W hSw
       go_simp
       try with_reducible rfl
      try simp only [Act.put, zA, zB, zC]
      refine zT 12 34 ?_ rfl (by rfl) ?_ hHeld ?_
      rotate_left
      ·intro W hSw
       go_simp
       try with_reducible rfl
      try simp only [Act.put, zA, zB, zC]
      refine zT 13 35 ?_ rfl (by rfl) ?_ hHeld ?_
      rotate_left
      ·intro W hSw
       have zp := HPR.out W hSw.1
       go_simp
       try with_reducible rfl
      try simp only [Act.put, zA, zB, zC]
      refine zT 14 36 ?_ rfl (by rfl) ?_ hHeld ?_
      rotate_left
      ·intro W hSw
       go_simp
       try with_reducible rfl
      try simp only [Act.put, zA, zB, zC]
      refine zT 15 37 ?_ rfl (by rfl) ?_ hHeld ?_
      rotate_left
      ·intro W hSw
       have z0 := fun j => hSw.2.2.1.cell j
       go_simp
       try with_reducible rfl
      try simp only [Act.put, zA, zB, zC]
      refine zT 16 38 ?_ rfl (by rfl) ?_ hHeld ?_
      rotate_left
      ·intro W hSw
       go_simp
       try with_reducible rfl
      try simp only [Act.put, zA, zB, zC]
      refine zT 17 39 ?_ rfl (by rfl) ?_ hHeld ?_
      rotate_left
      ·intro W hSw
       go_simp
       try with_reducible rfl
      try simp only [Act.put, zA, zB, zC]
      refine zT 18 40 ?_ rfl (by rfl) ?_ hHeld ?_
      rotate_left
      ·intro W hSw
       go_simp
       try with_reducible rfl
      try simp only [Act.put, zA, zB, zC]
      refine zT 19 41 ?_ rfl (by rfl) ?_ hHeld ?_
      rotate_left
      ·intro W hSw
       go_simp
       try with_reducible rfl
      try simp only [Act.put, zA, zB, zC]
      refine zU 20 42 rfl (by rfl) hHeld ?_
      try simp only [Act.put, zA, zB, zC]
      refine zU 21 43 rfl (by rfl) hHeld ?_
      try simp only [Act.put, zA, zB, zC]
      refine zU 22 44 rfl (by rfl) hHeld ?_
      try simp only [Act.put, zA, zB, zC]
      refine zT 23 45 ?_ rfl (by rfl) ?_ hHeld ?_
      rotate_left
      ·intro W hSw
       go_simp
       try with_reducible rfl
      try simp only [Act.put, zA, zB, zC]
      refine zT 24 46 ?_ rfl (by rfl) ?_ hHeld ?_
      rotate_left
      ·intro W hSw
       go_simp
       try with_reducible rfl
      try simp only [Act.put, zA, zB, zC]
      refine zU 25 47 rfl (by rfl) hHeld ?_
      try simp only [Act.put, zA, zB, zC]
      refine zU 26 48 rfl (by rfl) hHeld ?_
      try simp only [Act.put, zA, zB, zC]
      refine zU 27 49 rfl (by rfl) hHeld ?_
      try simp only [Act.put, zA, zB, zC]
      refine zU 28 50 rfl (by rfl) hHeld ?_
      try simp only [Act.put, zA, zB, zC]
      refine zU 29 51 rfl (by rfl) hHeld ?_
      try simp only [Act.put, zA, zB, zC]
      refine zT 30 52 ?_ rfl (by rfl) ?_ hHeld ?_
      rotate_left
      ·intro W hSw
       go_simp
       try with_reducible rfl
      try simp only [Act.put, zA, zB, zC]
      have HH : Hid (KP w y1 #[.slice a1 n1 c1, .slice a2 n2 c2, .slice a3 n3 c3] gP #[.int .i64 x.id, .slice p1 l1 q1, .int .i64 x.ru.time, .slice e1 l2 r1, .bool x.ru.expl, .bool x.ru.chk, .int .i64 x.ru.usage] gR #[.int .i64 0, .slice e1 l2 r1, .bool x.ru.expl, .bool x.ru.chk, .int .i64 x.ru.usage]) := hHeld
      refine wpAnyH_done (by kernel_rfl) ?_ _
      go_wp2_with fail
      go_meet
      exact ⟨by rw [HQ.out]; rfl, HH.out⟩
     have hyxi : ¬ x.id <= y := by omega
     have HOD : Hid (decide (k = 0 ∨ y < x.id) = true) := decide_eq_true (.inr hyx)
     clear hm
     cases B2 with
     | false =>
      have HQ : Hid (G = false) := by show G = false; rw [<- HG.out]; rw [HOD.out]; rfl
      refine zT 0 22 ?_ rfl (by rfl) ?_ hHeld ?_
      rotate_left
      ·intro W hSw
       go_simp
       try with_reducible rfl
      try simp only [Act.put, zA, zB, zC]
      refine zT 1 23 ?_ rfl (by rfl) ?_ hHeld ?_
      rotate_left
      ·intro W hSw
       have z0 := fun j => hSw.2.2.1.cell j
       go_simp
       try with_reducible rfl
      try simp only [Act.put, zA, zB, zC]
      refine wpAnyH_ready (rs := [2]) (by kernel_rfl) (by simp) ?_
      refine AllReadyH.cons (o := ⟨some 24, _, _, _, _, _⟩) rfl (fun K hK => ?_) AllReadyH.nil
      go_simp
      refine (E1.out wd).mono ?_
      rintro e y1 ⟨rfl, hb⟩
      have hH := hHeld.below hb
      clear hb
      refine hK.out _ _ hH (fun hHeld => ?_)
      clear hK K hH
      try simp only [Act.put, zA, zB, zC]
      refine zT 3 25 ?_ rfl (by rfl) ?_ hHeld ?_
      rotate_left
      ·intro W hSw
       go_simp
       try with_reducible rfl
      try simp only [Act.put, zA, zB, zC]
      refine zT 4 26 ?_ rfl (by rfl) ?_ hHeld ?_
      rotate_left
      ·intro W hSw
       go_simp
       try with_reducible rfl
      try simp only [Act.put, zA, zB, zC]
      refine zT 5 27 ?_ rfl (by rfl) ?_ hHeld ?_
      rotate_left
      ·intro W hSw
       go_simp
       try with_reducible rfl
      try simp only [Act.put, zA, zB, zC]
      refine zT 6 28 ?_ rfl (by rfl) ?_ hHeld ?_
      rotate_left
      ·intro W hSw
       go_simp
       try with_reducible rfl
      try simp only [Act.put, zA, zB, zC]
      refine zT 7 29 ?_ rfl (by rfl) ?_ hHeld ?_
      rotate_left
      ·intro W hSw
       go_simp
       try with_reducible rfl
      try simp only [Act.put, zA, zB, zC]
      refine zT 8 30 ?_ rfl (by rfl) ?_ hHeld ?_
      rotate_left
      ·intro W hSw
       go_simp
       try with_reducible rfl
      try simp only [Act.put, zA, zB, zC]
      refine zT 9 31 ?_ rfl (by rfl) ?_ hHeld ?_
      rotate_left
      ·intro W hSw
       go_simp
       try with_reducible rfl
      try simp only [Act.put, zA, zB, zC]
      refine zT 10 32 ?_ rfl (by rfl) ?_ hHeld ?_
      rotate_left
      ·intro W hSw
       go_simp
       try with_reducible rfl
      try simp only [Act.put, zA, zB, zC]
      refine zT 11 33 ?_ rfl (by rfl) ?_ hHeld ?_
      rotate_left
      ·intro W hSw
       go_simp
       try with_reducible rfl
      try simp only [Act.put, zA, zB, zC]
      refine zT 12 34 ?_ rfl (by rfl) ?_ hHeld ?_
      rotate_left
      ·intro W hSw
       go_simp
       try with_reducible rfl
      try simp only [Act.put, zA, zB, zC]
      refine zT 13 35 ?_ rfl (by rfl) ?_ hHeld ?_
      rotate_left
      ·intro W hSw
       have zp := HPR.out W hSw.1
       go_simp
       try with_reducible rfl
      try simp only [Act.put, zA, zB, zC]
      refine zT 14 36 ?_ rfl (by rfl) ?_ hHeld ?_
      rotate_left
      ·intro W hSw
       go_simp
       try with_reducible rfl
      try simp only [Act.put, zA, zB, zC]
      refine zT 15 37 ?_ rfl (by rfl) ?_ hHeld ?_
      rotate_left
      ·intro W hSw
       have z0 := fun j => hSw.2.2.1.cell j
       go_simp
       try with_reducible rfl
      try simp only [Act.put, zA, zB, zC]
      refine zT 16 38 ?_ rfl (by rfl) ?_ hHeld ?_
      rotate_left
      ·intro W hSw
       go_simp
       try with_reducible rfl
      try simp only [Act.put, zA, zB, zC]
      refine zT 17 39 ?_ rfl (by rfl) ?_ hHeld ?_
      rotate_left
      ·intro W hSw
       go_simp
       try with_reducible rfl
      try simp only [Act.put, zA, zB, zC]
      refine zT 18 40 ?_ rfl (by rfl) ?_ hHeld ?_
      rotate_left
      ·intro W hSw
       go_simp
       try with_reducible rfl
      try simp only [Act.put, zA, zB, zC]
      refine zT 19 41 ?_ rfl (by rfl) ?_ hHeld ?_
      rotate_left
      ·intro W hSw
       go_simp
       try with_reducible rfl
      try simp only [Act.put, zA, zB, zC]
      refine zT 20 42 ?_ rfl (by rfl) ?_ hHeld ?_
      rotate_left
      ·intro W hSw
       have z0 := fun j => hSw.2.2.2.cell j
       go_simp
       try with_reducible rfl
      try simp only [Act.put, zA, zB, zC]
      refine wpAnyH_ready (rs := [21]) (by kernel_rfl) (by simp) ?_
      refine AllReadyH.cons (o := ⟨some 43, _, _, _, _, _⟩) rfl (fun K hK => ?_) AllReadyH.nil
      go_simp
      refine (E2.out y1 hHeld.1).mono ?_
      rintro e y2 ⟨rfl, hb⟩
      have hH := hHeld.below hb
      clear hb
      refine hK.out _ _ hH (fun hHeld => ?_)
      clear hK K hH
      try simp only [Act.put, zA, zB, zC]
      refine zT 22 44 ?_ rfl (by rfl) ?_ hHeld ?_
      rotate_left
      ·intro W hSw
       go_simp
       try with_reducible rfl
      try simp only [Act.put, zA, zB, zC]
      refine zT 23 45 ?_ rfl (by rfl) ?_ hHeld ?_
      rotate_left
      ·intro W hSw
       go_simp
       try with_reducible rfl
      try simp only [Act.put, zA, zB, zC]
      refine zT 24 46 ?_ rfl (by rfl) ?_ hHeld ?_
      rotate_left
      ·intro W hSw
       go_simp
       try with_reducible rfl
      try simp only [Act.put, zA, zB, zC]
      refine zU 25 47 rfl (by rfl) hHeld ?_
      try simp only [Act.put, zA, zB, zC]
      refine zU 26 48 rfl (by rfl) hHeld ?_
      try simp only [Act.put, zA, zB, zC]
      refine zU 27 49 rfl (by rfl) hHeld ?_
      try simp only [Act.put, zA, zB, zC]
      refine zU 28 50 rfl (by rfl) hHeld ?_
      try simp only [Act.put, zA, zB, zC]
      refine zU 29 51 rfl (by rfl) hHeld ?_
      try simp only [Act.put, zA, zB, zC]
      refine zT 30 52 ?_ rfl (by rfl) ?_ hHeld ?_
      rotate_left
      ·intro W hSw
       go_simp
       try with_reducible rfl
      try simp only [Act.put, zA, zB, zC]
      have HH : Hid (KP w y2 #[.slice a1 n1 c1, .slice a2 n2 c2, .slice a3 n3 c3] gP #[.int .i64 x.id, .slice p1 l1 q1, .int .i64 x.ru.time, .slice e1 l2 r1, .bool x.ru.expl, .bool x.ru.chk, .int .i64 x.ru.usage] gR #[.int .i64 0, .slice e1 l2 r1, .bool x.ru.expl, .bool x.ru.chk, .int .i64 x.ru.usage]) := hHeld
      refine wpAnyH_done (by kernel_rfl) ?_ _
      go_wp2_with fail
      go_meet
      exact ⟨by rw [HQ.out]; rfl, HH.out⟩
     | true =>
      cases B3 with
      | false =>
       have HQ : Hid (G = false) := by show G = false; rw [<- HG.out]; rw [HOD.out]; rfl
       refine zT 0 22 ?_ rfl (by rfl) ?_ hHeld ?_
       rotate_left
       ·intro W hSw
        go_simp
        try with_reducible rfl
       try simp only [Act.put, zA, zB, zC]
       refine zT 1 23 ?_ rfl (by rfl) ?_ hHeld ?_
       rotate_left
       ·intro W hSw
        have z0 := fun j => hSw.2.2.1.cell j
        go_simp
        try with_reducible rfl
       try simp only [Act.put, zA, zB, zC]
       refine wpAnyH_ready (rs := [2]) (by kernel_rfl) (by simp) ?_
       refine AllReadyH.cons (o := ⟨some 24, _, _, _, _, _⟩) rfl (fun K hK => ?_) AllReadyH.nil
       go_simp
       refine (E1.out wd).mono ?_
       rintro e y1 ⟨rfl, hb⟩
       have hH := hHeld.below hb
       clear hb
       refine hK.out _ _ hH (fun hHeld => ?_)
       clear hK K hH
       try simp only [Act.put, zA, zB, zC]
       refine zT 3 25 ?_ rfl (by rfl) ?_ hHeld ?_
       rotate_left
       ·intro W hSw
        go_simp
        try with_reducible rfl
       try simp only [Act.put, zA, zB, zC]
       refine zT 4 26 ?_ rfl (by rfl) ?_ hHeld ?_
       rotate_left
       ·intro W hSw
        go_simp
        try with_reducible rfl
       try simp only [Act.put, zA, zB, zC]
       refine zT 5 27 ?_ rfl (by rfl) ?_ hHeld ?_
       rotate_left
       ·intro W hSw
        go_simp
        try with_reducible rfl
       try simp only [Act.put, zA, zB, zC]
       refine zT 6 28 ?_ rfl (by rfl) ?_ hHeld ?_
       rotate_left
       ·intro W hSw
        go_simp
        try with_reducible rfl
       try simp only [Act.put, zA, zB, zC]
       refine zT 7 29 ?_ rfl (by rfl) ?_ hHeld ?_
       rotate_left
       ·intro W hSw
        go_simp
        try with_reducible rfl
       try simp only [Act.put, zA, zB, zC]
       refine zT 8 30 ?_ rfl (by rfl) ?_ hHeld ?_
       rotate_left
       ·intro W hSw
        go_simp
        try with_reducible rfl
       try simp only [Act.put, zA, zB, zC]
       refine zT 9 31 ?_ rfl (by rfl) ?_ hHeld ?_
       rotate_left
       ·intro W hSw
        go_simp
        try with_reducible rfl
       try simp only [Act.put, zA, zB, zC]
       refine zT 10 32 ?_ rfl (by rfl) ?_ hHeld ?_
       rotate_left
       ·intro W hSw
        go_simp
        try with_reducible rfl
       try simp only [Act.put, zA, zB, zC]
       refine zT 11 33 ?_ rfl (by rfl) ?_ hHeld ?_
       rotate_left
       ·intro W hSw
        go_simp
        try with_reducible rfl
       try simp only [Act.put, zA, zB, zC]
       refine zT 12 34 ?_ rfl (by rfl) ?_ hHeld ?_
       rotate_left
       ·intro W hSw
        go_simp
        try with_reducible rfl
       try simp only [Act.put, zA, zB, zC]
       refine zT 13 35 ?_ rfl (by rfl) ?_ hHeld ?_
       rotate_left
       ·intro W hSw
        have zp := HPR.out W hSw.1
        go_simp
        try with_reducible rfl
       try simp only [Act.put, zA, zB, zC]
       refine zT 14 36 ?_ rfl (by rfl) ?_ hHeld ?_
       rotate_left
       ·intro W hSw
        go_simp
        try with_reducible rfl
       try simp only [Act.put, zA, zB, zC]
       refine zT 15 37 ?_ rfl (by rfl) ?_ hHeld ?_
       rotate_left
       ·intro W hSw
        have z0 := fun j => hSw.2.2.1.cell j
        go_simp
        try with_reducible rfl
       try simp only [Act.put, zA, zB, zC]
       refine zT 16 38 ?_ rfl (by rfl) ?_ hHeld ?_
       rotate_left
       ·intro W hSw
        go_simp
        try with_reducible rfl
       try simp only [Act.put, zA, zB, zC]
       refine zT 17 39 ?_ rfl (by rfl) ?_ hHeld ?_
       rotate_left
       ·intro W hSw
        go_simp
        try with_reducible rfl
       try simp only [Act.put, zA, zB, zC]
       refine zT 18 40 ?_ rfl (by rfl) ?_ hHeld ?_
       rotate_left
       ·intro W hSw
        go_simp
        try with_reducible rfl
       try simp only [Act.put, zA, zB, zC]
       refine zT 19 41 ?_ rfl (by rfl) ?_ hHeld ?_
       rotate_left
       ·intro W hSw
        go_simp
        try with_reducible rfl
       try simp only [Act.put, zA, zB, zC]
       refine zT 20 42 ?_ rfl (by rfl) ?_ hHeld ?_
       rotate_left
       ·intro W hSw
        have z0 := fun j => hSw.2.2.2.cell j
        go_simp
        try with_reducible rfl
       try simp only [Act.put, zA, zB, zC]
       refine wpAnyH_ready (rs := [21]) (by kernel_rfl) (by simp) ?_
       refine AllReadyH.cons (o := ⟨some 43, _, _, _, _, _⟩) rfl (fun K hK => ?_) AllReadyH.nil
       go_simp
       refine (E2.out y1 hHeld.1).mono ?_
       rintro e y2 ⟨rfl, hb⟩
       have hH := hHeld.below hb
       clear hb
       refine hK.out _ _ hH (fun hHeld => ?_)
       clear hK K hH
       try simp only [Act.put, zA, zB, zC]
       refine zT 22 44 ?_ rfl (by rfl) ?_ hHeld ?_
       rotate_left
       ·intro W hSw
        go_simp
        try with_reducible rfl
       try simp only [Act.put, zA, zB, zC]
       refine zT 23 45 ?_ rfl (by rfl) ?_ hHeld ?_
       rotate_left
       ·intro W hSw
        go_simp
        try with_reducible rfl
       try simp only [Act.put, zA, zB, zC]
       refine zT 24 46 ?_ rfl (by rfl) ?_ hHeld ?_
       rotate_left
       ·intro W hSw
        go_simp
        try with_reducible rfl
       try simp only [Act.put, zA, zB, zC]
       refine zT 25 47 ?_ rfl (by rfl) ?_ hHeld ?_
       rotate_left
       ·intro W hSw
        go_simp
        try with_reducible rfl
       try simp only [Act.put, zA, zB, zC]
       refine zT 26 48 ?_ rfl (by rfl) ?_ hHeld ?_
       rotate_left
       ·intro W hSw
        have z0 := fun j => hSw.2.2.1.cell j
        go_simp
        try with_reducible rfl
       try simp only [Act.put, zA, zB, zC]
       refine zT 27 49 ?_ rfl (by rfl) ?_ hHeld ?_
       rotate_left
       ·intro W hSw
        go_simp
        try with_reducible rfl
       try simp only [Act.put, zA, zB, zC]
       refine wpAnyH_ready (rs := [28]) (by kernel_rfl) (by simp) ?_
       refine AllReadyH.cons (o := ⟨some 50, _, _, _, _, _⟩) rfl (fun K hK => ?_) AllReadyH.nil
       go_simp
       refine (E3.out y2).mono ?_
       rintro e y3 ⟨rfl, hb⟩
       have hH := hHeld.below hb
       clear hb
       refine hK.out _ _ hH (fun hHeld => ?_)
       clear hK K hH
       try simp only [Act.put, zA, zB, zC]
       refine zT 29 51 ?_ rfl (by rfl) ?_ hHeld ?_
       rotate_left
       ·intro W hSw
        go_simp
        try with_reducible rfl
       try simp only [Act.put, zA, zB, zC]
       refine zT 30 52 ?_ rfl (by rfl) ?_ hHeld ?_
       rotate_left
       ·intro W hSw
        go_simp
        try with_reducible rfl
       try simp only [Act.put, zA, zB, zC]
       have HH : Hid (KP w y3 #[.slice a1 n1 c1, .slice a2 n2 c2, .slice a3 n3 c3] gP #[.int .i64 x.id, .slice p1 l1 q1, .int .i64 x.ru.time, .slice e1 l2 r1, .bool x.ru.expl, .bool x.ru.chk, .int .i64 x.ru.usage] gR #[.int .i64 0, .slice e1 l2 r1, .bool x.ru.expl, .bool x.ru.chk, .int .i64 x.ru.usage]) := hHeld
       refine wpAnyH_done (by kernel_rfl) ?_ _
       go_wp2_with fail
       go_meet
       exact ⟨by rw [HQ.out]; rfl, HH.out⟩
      | true =>
       have HQ : Hid (G = true) := by show G = true; rw [<- HG.out]; rw [HOD.out]; rfl
       refine zT 0 22 ?_ rfl (by rfl) ?_ hHeld ?_
       rotate_left
       ·intro W hSw
        go_simp
        try with_reducible rfl
       try simp only [Act.put, zA, zB, zC]
       refine zT 1 23 ?_ rfl (by rfl) ?_ hHeld ?_
       rotate_left
       ·intro W hSw
        have z0 := fun j => hSw.2.2.1.cell j
        go_simp
        try with_reducible rfl
       try simp only [Act.put, zA, zB, zC]
       refine wpAnyH_ready (rs := [2]) (by kernel_rfl) (by simp) ?_
       refine AllReadyH.cons (o := ⟨some 24, _, _, _, _, _⟩) rfl (fun K hK => ?_) AllReadyH.nil
       go_simp
       refine (E1.out wd).mono ?_
       rintro e y1 ⟨rfl, hb⟩
       have hH := hHeld.below hb
       clear hb
       refine hK.out _ _ hH (fun hHeld => ?_)
       clear hK K hH
       try simp only [Act.put, zA, zB, zC]
       refine zT 3 25 ?_ rfl (by rfl) ?_ hHeld ?_
       rotate_left
       ·intro W hSw
        go_simp
        try with_reducible rfl
       try simp only [Act.put, zA, zB, zC]
       refine zT 4 26 ?_ rfl (by rfl) ?_ hHeld ?_
       rotate_left
       ·intro W hSw
        go_simp
        try with_reducible rfl
       try simp only [Act.put, zA, zB, zC]
       refine zT 5 27 ?_ rfl (by rfl) ?_ hHeld ?_
       rotate_left
       ·intro W hSw
        go_simp
        try with_reducible rfl
       try simp only [Act.put, zA, zB, zC]
       refine zT 6 28 ?_ rfl (by rfl) ?_ hHeld ?_
       rotate_left
       ·intro W hSw
        go_simp
        try with_reducible rfl
       try simp only [Act.put, zA, zB, zC]
       refine zT 7 29 ?_ rfl (by rfl) ?_ hHeld ?_
       rotate_left
       ·intro W hSw
        go_simp
        try with_reducible rfl
       try simp only [Act.put, zA, zB, zC]
       refine zT 8 30 ?_ rfl (by rfl) ?_ hHeld ?_
       rotate_left
       ·intro W hSw
        go_simp
        try with_reducible rfl
       try simp only [Act.put, zA, zB, zC]
       refine zT 9 31 ?_ rfl (by rfl) ?_ hHeld ?_
       rotate_left
       ·intro W hSw
        go_simp
        try with_reducible rfl
       try simp only [Act.put, zA, zB, zC]
       refine zT 10 32 ?_ rfl (by rfl) ?_ hHeld ?_
       rotate_left
       ·intro W hSw
        go_simp
        try with_reducible rfl
       try simp only [Act.put, zA, zB, zC]
       refine zT 11 33 ?_ rfl (by rfl) ?_ hHeld ?_
       rotate_left
       ·intro W hSw
        go_simp
        try with_reducible rfl
       try simp only [Act.put, zA, zB, zC]
       refine zT 12 34 ?_ rfl (by rfl) ?_ hHeld ?_
       rotate_left
       ·intro W hSw
        go_simp
        try with_reducible rfl
       try simp only [Act.put, zA, zB, zC]
       refine zT 13 35 ?_ rfl (by rfl) ?_ hHeld ?_
       rotate_left
       ·intro W hSw
        have zp := HPR.out W hSw.1
        go_simp
        try with_reducible rfl
       try simp only [Act.put, zA, zB, zC]
       refine zT 14 36 ?_ rfl (by rfl) ?_ hHeld ?_
       rotate_left
       ·intro W hSw
        go_simp
        try with_reducible rfl
       try simp only [Act.put, zA, zB, zC]
       refine zT 15 37 ?_ rfl (by rfl) ?_ hHeld ?_
       rotate_left
       ·intro W hSw
        have z0 := fun j => hSw.2.2.1.cell j
        go_simp
        try with_reducible rfl
       try simp only [Act.put, zA, zB, zC]
       refine zT 16 38 ?_ rfl (by rfl) ?_ hHeld ?_
       rotate_left
       ·intro W hSw
        go_simp
        try with_reducible rfl
       try simp only [Act.put, zA, zB, zC]
       refine zT 17 39 ?_ rfl (by rfl) ?_ hHeld ?_
       rotate_left
       ·intro W hSw
        go_simp
        try with_reducible rfl
       try simp only [Act.put, zA, zB, zC]
       refine zT 18 40 ?_ rfl (by rfl) ?_ hHeld ?_
       rotate_left
       ·intro W hSw
        go_simp
        try with_reducible rfl
       try simp only [Act.put, zA, zB, zC]
       refine zT 19 41 ?_ rfl (by rfl) ?_ hHeld ?_
       rotate_left
       ·intro W hSw
        go_simp
        try with_reducible rfl
       try simp only [Act.put, zA, zB, zC]
       refine zT 20 42 ?_ rfl (by rfl) ?_ hHeld ?_
       rotate_left
       ·intro W hSw
        have z0 := fun j => hSw.2.2.2.cell j
        go_simp
        try with_reducible rfl
       try simp only [Act.put, zA, zB, zC]
       refine wpAnyH_ready (rs := [21]) (by kernel_rfl) (by simp) ?_
       refine AllReadyH.cons (o := ⟨some 43, _, _, _, _, _⟩) rfl (fun K hK => ?_) AllReadyH.nil
       go_simp
       refine (E2.out y1 hHeld.1).mono ?_
       rintro e y2 ⟨rfl, hb⟩
       have hH := hHeld.below hb
       clear hb
       refine hK.out _ _ hH (fun hHeld => ?_)
       clear hK K hH
       try simp only [Act.put, zA, zB, zC]
       refine zT 22 44 ?_ rfl (by rfl) ?_ hHeld ?_
       rotate_left
       ·intro W hSw
        go_simp
        try with_reducible rfl
       try simp only [Act.put, zA, zB, zC]
       refine zT 23 45 ?_ rfl (by rfl) ?_ hHeld ?_
       rotate_left
       ·intro W hSw
        go_simp
        try with_reducible rfl
       try simp only [Act.put, zA, zB, zC]
       refine zT 24 46 ?_ rfl (by rfl) ?_ hHeld ?_
       rotate_left
       ·intro W hSw
        go_simp
        try with_reducible rfl
       try simp only [Act.put, zA, zB, zC]
       refine zT 25 47 ?_ rfl (by rfl) ?_ hHeld ?_
       rotate_left
       ·intro W hSw
        go_simp
        try with_reducible rfl
       try simp only [Act.put, zA, zB, zC]
       refine zT 26 48 ?_ rfl (by rfl) ?_ hHeld ?_
       rotate_left
       ·intro W hSw
        have z0 := fun j => hSw.2.2.1.cell j
        go_simp
        try with_reducible rfl
       try simp only [Act.put, zA, zB, zC]
       refine zT 27 49 ?_ rfl (by rfl) ?_ hHeld ?_
       rotate_left
       ·intro W hSw
        go_simp
        try with_reducible rfl
       try simp only [Act.put, zA, zB, zC]
       refine wpAnyH_ready (rs := [28]) (by kernel_rfl) (by simp) ?_
       refine AllReadyH.cons (o := ⟨some 50, _, _, _, _, _⟩) rfl (fun K hK => ?_) AllReadyH.nil
       go_simp
       refine (E3.out y2).mono ?_
       rintro e y3 ⟨rfl, hb⟩
       have hH := hHeld.below hb
       clear hb
       refine hK.out _ _ hH (fun hHeld => ?_)
       clear hK K hH
       try simp only [Act.put, zA, zB, zC]
       refine zT 29 51 ?_ rfl (by rfl) ?_ hHeld ?_
       rotate_left
       ·intro W hSw
        go_simp
        try with_reducible rfl
       try simp only [Act.put, zA, zB, zC]
       refine zT 30 52 ?_ rfl (by rfl) ?_ hHeld ?_
       rotate_left
       ·intro W hSw
        go_simp
        try with_reducible rfl
       try simp only [Act.put, zA, zB, zC]
       have HH : Hid (KP w y3 #[.slice a1 n1 c1, .slice a2 n2 c2, .slice a3 n3 c3] gP #[.int .i64 x.id, .slice p1 l1 q1, .int .i64 x.ru.time, .slice e1 l2 r1, .bool x.ru.expl, .bool x.ru.chk, .int .i64 x.ru.usage] gR #[.int .i64 0, .slice e1 l2 r1, .bool x.ru.expl, .bool x.ru.chk, .int .i64 x.ru.usage]) := hHeld
       refine wpAnyH_done (by kernel_rfl) ?_ _
       go_wp2_with fail
       go_meet
       exact ⟨by rw [HQ.out]; rfl, HH.out⟩
   case rest =>
    obtain ⟨rfl, HCUT⟩ := hcut
    rename World => w7
    have HC : Hid (KP w w7 #[.slice a1 n1 c1, .slice a2 n2 c2, .slice a3 n3 c3] gP #[.int .i64 x.id, .slice p1 l1 q1, .int .i64 x.ru.time, .slice e1 l2 r1, .bool x.ru.expl, .bool x.ru.chk, .int .i64 x.ru.usage] gR #[.int .i64 0, .slice e1 l2 r1, .bool x.ru.expl, .bool x.ru.chk, .int .i64 x.ru.usage]) := HCUT.out
    clear HCUT HV E1 E2 E3 HPY
    cases G with
    | false =>
     have HF : Hid (R = false) := by
      show R = false
      rw [<- HR.out]
      by_cases q : inB x.id 0 99 = true /\ ruOk { x.ru with time := 0 } = true /\ inB (x.anc.length : Int) 1 3 = true
      ·have h := HG.out
       rw [<- HBS.out.1, <- HBS.out.2.1, <- HBS.out.2.2, q.1, q.2.1, q.2.2] at h
       have h2 : ¬ (k = 0 ∨ y < x.id) := by
        intro q2
        rw [decide_eq_true q2] at h
        cases h
       exact plans_down (k := k) (by omega) hkl (by rw [HYK.out, ids_get hkl, HXK.out]; exact decide_eq_false (fun q3 => h2 (.inr q3)))
      ·exact plans_no hkl (by rw [HXK.out]; exact pl_no q)
     go_wp2_with fail
     go_ret
     exact ⟨by rw [HF.out]; rfl, HC.out.1⟩
    | true =>
     have HGP : Hid (inB x.id 0 99 = true /\ ruOk { x.ru with time := 0 } = true /\ inB (x.anc.length : Int) 1 3 = true) := by
      have h := HG.out
      simp only [Bool.and_eq_true] at h
      exact ⟨HBS.out.1.trans h.1, HBS.out.2.1.trans h.2.2.1, HBS.out.2.2.trans h.2.2.2⟩
     have HOD2 : Hid (∀ j, 0 < j -> j < k + 1 -> lsI ((l.map Pn.id).getD (j - 1) 0) ((l.map Pn.id).getD j 0) = true) := fun j h0 hj => by
      by_cases e : j = k
      ·have h := HG.out
       simp only [Bool.and_eq_true] at h
       have h2 := of_decide_eq_true h.2.1
       rw [e, HYK.out, ids_get hkl, HXK.out]
       exact decide_eq_true (by rcases h2 with h2 | h2; omega; exact h2)
      ·exact HB.out.2 j h0 (by omega)
     go_wp2_with fail
     go_loopw [8] (fun iv wr => ∃ j : Nat, j <= l1 /\ iv = .int .i64 j /\ Hid ((∀ i, i < j -> inN n3 (x.anc.getD i 0) = true) /\ (∀ i, 0 < i -> i < j -> lsI (x.anc.getD (i - 1) 0) (x.anc.getD i 0) = true) /\ KP w wr #[.slice a1 n1 c1, .slice a2 n2 c2, .slice a3 n3 c3] gP #[.int .i64 x.id, .slice p1 l1 q1, .int .i64 x.ru.time, .slice e1 l2 r1, .bool x.ru.expl, .bool x.ru.chk, .int .i64 x.ru.usage] gR #[.int .i64 0, .slice e1 l2 r1, .bool x.ru.expl, .bool x.ru.chk, .int .i64 x.ru.usage])) (fun iv _ => l1 - (intOf iv).toNat)
     case atStart => exact ⟨0, Nat.zero_le _, rfl, fun i hi => absurd hi (Nat.not_lt_zero _), fun i _ hi => absurd hi (Nat.not_lt_zero _), HC.out⟩
     case round =>
      obtain ⟨j, hj, rfl, HJ⟩ := hrel
      have g1 := fun j => HJ.out.2.2.2.2.1.cell j
      by_cases hjn : j < l1
      ·have hji : (j : Int) < (l1 : Int) := by omega
       have hj0 : (0 : Int) <= (j : Int) := by omega
       obtain ⟨ga, hga, hgl, hgc⟩ := HA.out.1 j hjn
       obtain ⟨K, hK⟩ := zE (x.anc.getD j 0)
       rw [hK] at hgc
       have HK : Hid (x.anc.getD j 0 = K) := hK
       have kc : wr.cell? ⟨ga, j, none⟩ = some (.int .i64 K) := (HJ.out.2.2.1.cell (p := ⟨ga, j, none⟩) hgl).trans hgc
       have ks := fun j => HJ.out.2.2.2.1.cell j
       have EA : Hid (∀ W, Calls Tryz.prog 30 #[.int .i64 K, .int .i64 0, .int .i64 ((n3 : Int) - 1)] W fun e w' => e = .returned (.bool (inB K 0 ((n3 : Int) - 1))) /\ w' = W) := fun W => inW_same K 0 ((n3 : Int) - 1) W
       have HPJ : Hid (∀ m, m + 1 = j -> wr.cell? ⟨ga, m, none⟩ = some (.int .i64 (x.anc.getD m 0))) := fun m hm => by
        obtain ⟨g2, e2, hg2, hc2⟩ := HA.out.1 m (by omega)
        rw [hga] at e2
        injection e2 with e2
        injection e2 with e2
        subst e2
        exact (HJ.out.2.2.1.cell (p := ⟨ga, m, none⟩) hg2).trans hc2
       subst hga
       clear hgc hgl hK
       by_cases hin : 0 <= K /\ K < (n3 : Int)
       rotate_left
       ·rw [show inB K 0 ((n3 : Int) - 1) = false from decide_eq_false (fun q => hin ⟨q.1, by omega⟩)] at EA
        have HF : Hid (R = false) := by show R = false; rw [<- HR.out]; exact plans_no hkl (by rw [HXK.out]; exact pl_far (by rw [HA.out.2]; exact hjn) (by rw [HK.out]; exact decide_eq_false hin))
        clear hin HPJ
        go_upto_region 12 with fail
        go_quiet (exact Calls.quiet_of_same (EA.out _))
        have HD : Hid (Below w.heap.size w (wr.drewN nq)) := HJ.out.2.2.1.trans (below_drewN _ _ _)
        clear HJ
        generalize wr.drewN nq = w8 at HD |-
        go_wp2_with fail
        go_ret
        exact ⟨by rw [HF.out]; rfl, HD.out⟩
       rw [show inB K 0 ((n3 : Int) - 1) = true from decide_eq_true ⟨hin.1, by omega⟩] at EA
       have HN1 : Hid (∀ i, i < j + 1 -> inN n3 (x.anc.getD i 0) = true) := fun i hi => by
        rcases Nat.lt_or_ge i j with h | h
        ·exact HJ.out.1 i h
        ·have : i = j := by omega
         subst this
         rw [HK.out]
         exact decide_eq_true hin
       clear hin
       by_cases hjz : 0 < j
       rotate_left
       ·have hjzi : ¬ (0 : Int) < (j : Int) := by omega
        have HN2 : Hid (∀ i, 0 < i -> i < j + 1 -> lsI (x.anc.getD (i - 1) 0) (x.anc.getD i 0) = true) := fun i h0 hi => absurd h0 (by omega)
        clear HPJ
        go_upto_region 12 with fail
        go_quiet (exact Calls.quiet_of_same (EA.out _))
        have HD := zH (zJ HN1.out (zJ HN2.out (HJ.out.2.2.below (below_drewN _ _ _) : KP w (wr.drewN nq) #[.slice a1 n1 c1, .slice a2 n2 c2, .slice a3 n3 c3] gP #[.int .i64 x.id, .slice (some ⟨ga, 0, none⟩) l1 q1, .int .i64 x.ru.time, .slice e1 l2 r1, .bool x.ru.expl, .bool x.ru.chk, .int .i64 x.ru.usage] gR #[.int .i64 0, .slice e1 l2 r1, .bool x.ru.expl, .bool x.ru.chk, .int .i64 x.ru.usage])))
        clear HJ
        generalize wr.drewN nq = w8 at HD |-
        go_wp2_with fail
        exact ⟨⟨j + 1, by omega, by go_num, HD⟩, by simp [intOf]; omega⟩
       have hjzi : (0 : Int) < (j : Int) := by omega
       obtain ⟨m, hm⟩ : ∃ m, m + 1 = j := ⟨j - 1, by omega⟩
       have wk : IntKind.i64.wrap ((j : Int) - 1) = (m : Int) := by rw [IntKind.wrap_i64]; omega
       have hmi : (m : Int) < (l1 : Int) := by omega
       have hm0 : (0 : Int) <= (m : Int) := by omega
       have km := HPJ.out m hm
       obtain ⟨y, hy⟩ := zE (x.anc.getD m 0)
       rw [hy] at km
       have HY : Hid (x.anc.getD (j - 1) 0 = y) := by show _ = y; rw [<- hy, <- hm]; rfl
       clear HPJ hy hm
       by_cases hyK : y < K
       rotate_left
       ·have hyKi : K <= y := by omega
        have HF : Hid (R = false) := by show R = false; rw [<- HR.out]; exact plans_no hkl (by rw [HXK.out]; exact pl_down hjz (by rw [HA.out.2]; exact hjn) (by rw [HY.out, HK.out]; exact decide_eq_false hyK))
        clear hyK
        go_upto_region 12 with fail
        go_quiet (exact Calls.quiet_of_same (EA.out _))
        have HD : Hid (Below w.heap.size w (wr.drewN nq)) := HJ.out.2.2.1.trans (below_drewN _ _ _)
        clear HJ
        generalize wr.drewN nq = w8 at HD |-
        go_wp2_with fail
        go_ret
        exact ⟨by rw [HF.out]; rfl, HD.out⟩
       have hyKi : ¬ K <= y := by omega
       have HN2 : Hid (∀ i, 0 < i -> i < j + 1 -> lsI (x.anc.getD (i - 1) 0) (x.anc.getD i 0) = true) := fun i h0 hi => by
        by_cases e : i = j
        ·rw [e, HY.out, HK.out]; exact decide_eq_true hyK
        ·exact HJ.out.2.1 i h0 (by omega)
       clear hyK
       go_upto_region 12 with fail
       go_quiet (exact Calls.quiet_of_same (EA.out _))
       have HD := zH (zJ HN1.out (zJ HN2.out (HJ.out.2.2.below (below_drewN _ _ _) : KP w (wr.drewN nq) #[.slice a1 n1 c1, .slice a2 n2 c2, .slice a3 n3 c3] gP #[.int .i64 x.id, .slice (some ⟨ga, 0, none⟩) l1 q1, .int .i64 x.ru.time, .slice e1 l2 r1, .bool x.ru.expl, .bool x.ru.chk, .int .i64 x.ru.usage] gR #[.int .i64 0, .slice e1 l2 r1, .bool x.ru.expl, .bool x.ru.chk, .int .i64 x.ru.usage])))
       clear HJ
       generalize wr.drewN nq = w8 at HD |-
       go_wp2_with fail
       exact ⟨⟨j + 1, by omega, by go_num, HD⟩, by simp [intOf]; omega⟩
      ·have hjl : l1 = j := by omega
       subst hjl
       have HE : Hid ((∀ j (hj : j < l.length), j < (k + 1) -> plOk n3 l[j] = true) /\ (∀ j, 0 < j -> j < (k + 1) -> lsI ((l.map Pn.id).getD (j - 1) 0) ((l.map Pn.id).getD j 0) = true) /\ Below w.heap.size w wr /\ Blk wr w.heap.size 37 #[.slice a1 n1 c1, .slice a2 n2 c2, .slice a3 n3 c3]) := by
        refine ⟨fun i hi h => ?_, HOD2.out, HJ.out.2.2.1, HJ.out.2.2.2.1⟩
        rcases Nat.lt_or_ge i k with h | h
        ·exact HB.out.1 i hi h
        ·have : i = k := by omega
         subst this
         rw [HXK.out]
         exact pl_yes HGP.out (asc_yes fun i h0 hi => HJ.out.2.1 i h0 (by rw [<- HA.out.2]; exact hi)) (inN_yes fun i hi => HJ.out.1 i (by rw [<- HA.out.2]; exact hi))
       clear HJ
       go_wp2_with fail
       exact ⟨⟨k + 1, by omega, by go_num, HE⟩, by simp [intOf]; omega⟩
  ·have hkl : n = k := by omega
   subst hkl
   by_cases h6 : n <= 6
   ·have h6i : (n : Int) <= 6 := by omega
    have HF : Hid (R = true) := by
     show R = true
     rw [<- HR.out, plans_all (by rw [HT.out.2.1]; exact h6) (fun j hj => HK.out.1 j hj (by rw [<- HT.out.2.1]; exact hj))]
     exact asc_yes fun j h0 hj => HK.out.2.1 j h0 (by rw [List.length_map, HT.out.2.1] at hj; exact hj)
    clear h6
    go_wp2_with fail
    go_ret
    exact ⟨by rw [HF.out]; rfl, HK.out.2.2.1⟩
   ·have h6i : ¬ (n : Int) <= 6 := by omega
    have HF : Hid (R = false) := by show R = false; rw [<- HR.out]; exact plans_long (by rw [HT.out.2.1]; exact h6)
    clear h6
    go_wp2_with fail
    go_ret
    exact ⟨by rw [HF.out]; rfl, HK.out.2.2.1⟩
end Go.Proofs.YtabfamhaihnccaaGreat
