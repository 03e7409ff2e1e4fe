/-
  Texts of the proof.
-/
import Derived.Laws.AppendOwnNone
import Derived.Deep.RegionHeld3
import Derived.Deep.Cut
import Derived.Test.YtabfamhaihnccaaGreatSV25
import Derived.Test.YtabfamhaihnccaaGreatSV27
set_option maxRecDepth 100000
set_option maxHeartbeats 25600000
namespace Go.Proofs.YtabfamhaihnccaaGreat
open Go.RowKit
set_option linter.unusedVariables false
set_option linter.unusedSimpArgs false
theorem needsMet_any (p : Pn) (u : Value) (a1 : Option Addr) (n1 c1 : Nat) (a2 : Option Addr) (n2 c2 : Nat) (a3 : Option Addr) (n3 c3 : Nat) (w : World) (hz : wtPn p <= 1000000000) (hn : n3 <= 1000000000) (hp : PnAt w u p) :
  Calls Tryz.prog 90 #[u, .agg #[.slice a1 n1 c1, .slice a2 n2 c2, .slice a3 n3 c3]] w fun e w' => (∃ r : Int, e = .returned (.int .u8 r) /\ (r != 31) = !plOk n3 p) /\ Below w.heap.size w w' := by
 obtain ⟨pp, pe, rfl, hp1, hp2⟩ := hp
 obtain ⟨ap, cp, hpv, -⟩ := id hp1.each
 obtain ⟨ae, ce, hev, -⟩ := id hp2.each
 obtain ⟨np, hnp⟩ := zE (p.anc.length)
 obtain ⟨ne, hne⟩ := zE (p.ru.pol.length)
 rw [hnp] at hpv
 rw [hne] at hev
 subst hpv hev
 have hlz : p.anc.length <= 1000000000 /\ p.ru.pol.length <= 1000000000 := wtPn_lens hz
 obtain ⟨B1, hB1⟩ := zE (inB p.id 0 99)
 obtain ⟨B2, hB2⟩ := zE (ruOk { p.ru with time := 0 })
 obtain ⟨B3, hB3⟩ := zE (inB (p.anc.length : Int) 1 3)
 obtain ⟨B4, hB4⟩ := zE (ascG lsI 0 p.anc)
 obtain ⟨B5, hB5⟩ := zE (p.anc.all (inN n3))
 have E1 : Hid (∀ W, Below w.heap.size w W -> Blk W (w.heap.size + 1) 37 #[.slice a1 n1 c1, .slice a2 n2 c2, .slice a3 n3 c3] -> Calls Tryz.prog 37 #[.int .i64 99, .int .i64 p.id] W fun e w' => e = .returned (.bool B1) /\ Below W.heap.size W w') := fun W _ _ => by rw [<- hB1]; exact upTo_any _ _ W
 have E2 : Hid (∀ W, Below w.heap.size w W -> Blk W (w.heap.size + 1) 37 #[.slice a1 n1 c1, .slice a2 n2 c2, .slice a3 n3 c3] -> Calls Tryz.prog 140 #[.agg #[.int .i64 p.ru.time, .slice ae ne ce, .bool p.ru.expl, .bool p.ru.chk, .int .i64 p.ru.usage]] W fun e w' => e = .returned (.bool B2) /\ Below W.heap.size W w') := fun W hb _ => by rw [<- hB2]; exact anyTime_any p.ru _ W hlz.2 ⟨.slice ae ne ce, rfl, hp2.below hb⟩
 have E4 : Hid (∀ W, Below w.heap.size w W -> Blk W (w.heap.size + 1) 37 #[.slice a1 n1 c1, .slice a2 n2 c2, .slice a3 n3 c3] -> Calls Tryz.prog 91 #[.slice ap np cp] W fun e w' => e = .returned (.bool B4) /\ Below W.heap.size W w') := fun W hb _ => by rw [<- hB4]; exact ascI_any _ p.anc W hlz.1 (hp1.below hb)
 have E5 : Hid (∀ W, Below w.heap.size w W -> Blk W (w.heap.size + 1) 37 #[.slice a1 n1 c1, .slice a2 n2 c2, .slice a3 n3 c3] -> Calls Tryz.prog 141 #[.slice ap np cp, .func (.func 137) #[] #[.pointer (some ⟨w.heap.size + 1, 0, none⟩)]] W fun e w' => e = .returned (.bool (!B5)) /\ Below W.heap.size W w') := fun W hb hs => by rw [<- hB5]; exact containsMissing_any p.anc _ a1 n1 c1 a2 n2 c2 a3 n3 c3 (w.heap.size + 1) W hlz.1 hn hs (hp1.below hb)
 obtain ⟨X0, hX0⟩ : ∃ x : Int, (0 : Int) = x := ⟨_, rfl⟩
 obtain ⟨X1, hX1⟩ := zE (orM X0 1 B1)
 obtain ⟨X2, hX2⟩ := zE (orM X1 2 B2)
 obtain ⟨X3, hX3⟩ := zE (orM X2 4 B3)
 obtain ⟨X4, hX4⟩ := zE (orM X3 8 B4)
 obtain ⟨X5, hX5⟩ := zE (orM X4 16 B5)
 have HF : Hid ((X5 != 31) = !plOk n3 p) := by
  show (X5 != 31) = _
  rw [<- hX5, <- hX4, <- hX3, <- hX2, <- hX1, <- hX0]
  unfold plOk
  rw [hB1, hB2, hB3, hB4, hB5]
  exact nm_all B1 B2 B3 B4 B5
 have HB3 : Hid (decide ((1 : Int) <= (np : Int) /\ (np : Int) <= 3) = B3) := by show _ = B3; rw [<- hB3, hnp]; rfl
 have hnpl : np <= 1000000000 := by rw [<- hnp]; exact hlz.1
 have hmf : ∀ (fn : Fn) (first cap : Array Value) (w : World), (Instr.makeFunc fn first cap).run Tryz.prog w = .ok (.func fn first cap) w := fun _ _ _ _ => rfl
 clear hB1 hB2 hB3 hB4 hB5 hp1 hp2 hlz hz hnp hne
 obtain ⟨V0, hV⟩ : ∃ V, V = (w.alloc (Obj.cells #[.int .i64 p.id, .slice ap np cp, .int .i64 p.ru.time, .slice ae ne ce, .bool p.ru.expl, .bool p.ru.chk, .int .i64 p.ru.usage] 127)).alloc (Obj.cells #[.slice a1 n1 c1, .slice a2 n2 c2, .slice a3 n3 c3] 37) := ⟨_, rfl⟩
 have G0 : Hid (Below w.heap.size w V0 /\ Blk V0 w.heap.size 127 #[.int .i64 p.id, .slice ap np cp, .int .i64 p.ru.time, .slice ae ne ce, .bool p.ru.expl, .bool p.ru.chk, .int .i64 p.ru.usage] /\ Blk V0 (w.heap.size + 1) 37 #[.slice a1 n1 c1, .slice a2 n2 c2, .slice a3 n3 c3]) := by
  have e0 : (w.alloc (Obj.cells #[.int .i64 p.id, .slice ap np cp, .int .i64 p.ru.time, .slice ae ne ce, .bool p.ru.expl, .bool p.ru.chk, .int .i64 p.ru.usage] 127)).heap.size = w.heap.size + 1 := Array.size_push _
  have h := Blk.new (w.alloc (Obj.cells #[.int .i64 p.id, .slice ap np cp, .int .i64 p.ru.time, .slice ae ne ce, .bool p.ru.expl, .bool p.ru.chk, .int .i64 p.ru.usage] 127)) 37 #[.slice a1 n1 c1, .slice a2 n2 c2, .slice a3 n3 c3]
  rw [e0] at h
  rw [hV]
  exact ⟨((Below.refl _ _).alloc (Nat.le_refl _) _).alloc (by rw [e0]; omega) _, (Blk.new w _ _).alloc _, h⟩
 unfold pnV
 go_enter Tryz.func90, Tryz.ntmps90
 go_upto_region 1 with fail
 rw [<- hV]
 clear hV
 go_upto_region 3 with fail
 try rw [hX0]
 have d0 := fun j => G0.out.2.1.cell j
 go_wp2_with fail
 refine (E1.out V0 G0.out.1 G0.out.2.2).mono ?_
 rintro e V1 ⟨rfl, hb⟩
 have G1 := zH (zJ (G0.out.1.trans (hb.mono G0.out.1.size)) (zJ (G0.out.2.1.below hb G0.out.2.1.lt) (G0.out.2.2.below hb G0.out.2.2.lt)))
 clear hb G0
 clear d0
 go_wp2_with fail
 refine (plus_any X0 1 B1 V1).mono ?_
 rintro e V2 ⟨rfl, hb⟩
 have G2 := zH (zJ (G1.out.1.trans (hb.mono G1.out.1.size)) (zJ (G1.out.2.1.below hb G1.out.2.1.lt) (G1.out.2.2.below hb G1.out.2.2.lt)))
 clear hb G1
 rw [hX1]
 have d0 := fun j => G2.out.2.1.cell j
 go_wp2_with fail
 refine (E2.out V2 G2.out.1 G2.out.2.2).mono ?_
 rintro e V3 ⟨rfl, hb⟩
 have G3 := zH (zJ (G2.out.1.trans (hb.mono G2.out.1.size)) (zJ (G2.out.2.1.below hb G2.out.2.1.lt) (G2.out.2.2.below hb G2.out.2.2.lt)))
 clear hb G2
 clear d0
 go_wp2_with fail
 refine (plus_any X1 2 B2 V3).mono ?_
 rintro e V4 ⟨rfl, hb⟩
 have G4 := zH (zJ (G3.out.1.trans (hb.mono G3.out.1.size)) (zJ (G3.out.2.1.below hb G3.out.2.1.lt) (G3.out.2.2.below hb G3.out.2.2.lt)))
 clear hb G3
 rw [hX2]
 go_upto_region 5 with fail
 go_cut [6] from 8 (fun s6 wx => s6 = .int .u8 X3 /\ Hid (Below w.heap.size w wx /\ Blk wx w.heap.size 127 #[.int .i64 p.id, .slice ap np cp, .int .i64 p.ru.time, .slice ae ne ce, .bool p.ru.expl, .bool p.ru.chk, .int .i64 p.ru.usage] /\ Blk wx (w.heap.size + 1) 37 #[.slice a1 n1 c1, .slice a2 n2 c2, .slice a3 n3 c3]))
 case first =>
  have d0 := fun j => G4.out.2.1.cell j
  by_cases h0 : 0 < np
  ·by_cases h3 : np <= 3
   ·have hq : B3 = true := by rw [<- HB3.out]; exact decide_eq_true ⟨by omega, by omega⟩
    have h0i : (0 : Int) < (np : Int) := by omega
    have h3i : (np : Int) <= 3 := by omega
    clear h0 h3
    subst hq
    go_wp2_with fail
    refine (plus_any X2 4 true V4).mono ?_
    rintro e V6 ⟨rfl, hb⟩
    have G6 := zH (zJ (G4.out.1.trans (hb.mono G4.out.1.size)) (zJ (G4.out.2.1.below hb G4.out.2.1.lt) (G4.out.2.2.below hb G4.out.2.2.lt)))
    clear hb G4
    rw [hX3]
    clear d0
    go_wp2_with fail
    go_meet
    exact ⟨rfl, G6.out⟩
   ·have hq : B3 = false := by rw [<- HB3.out]; exact decide_eq_false (fun q => h3 (by omega))
    have h0i : (0 : Int) < (np : Int) := by omega
    have h3i : ¬ (np : Int) <= 3 := by omega
    clear h0 h3
    subst hq
    go_wp2_with fail
    refine (plus_any X2 4 false V4).mono ?_
    rintro e V6 ⟨rfl, hb⟩
    have G6 := zH (zJ (G4.out.1.trans (hb.mono G4.out.1.size)) (zJ (G4.out.2.1.below hb G4.out.2.1.lt) (G4.out.2.2.below hb G4.out.2.2.lt)))
    clear hb G4
    rw [hX3]
    clear d0
    go_wp2_with fail
    go_meet
    exact ⟨rfl, G6.out⟩
  ·have hq : B3 = false := by rw [<- HB3.out]; exact decide_eq_false (fun q => h0 (by omega))
   have h0i : ¬ (0 : Int) < (np : Int) := by omega
   clear h0
   subst hq
   go_wp2_with fail
   refine (plus_any X2 4 false V4).mono ?_
   rintro e V6 ⟨rfl, hb⟩
   have G6 := zH (zJ (G4.out.1.trans (hb.mono G4.out.1.size)) (zJ (G4.out.2.1.below hb G4.out.2.1.lt) (G4.out.2.2.below hb G4.out.2.2.lt)))
   clear hb G4
   rw [hX3]
   clear d0
   go_wp2_with fail
   go_meet
   exact ⟨rfl, G6.out⟩
 case rest =>
  obtain ⟨rfl, HCUT⟩ := hcut
  rename World => V6
  have G6 : Hid (Below w.heap.size w V6 /\ Blk V6 w.heap.size 127 #[.int .i64 p.id, .slice ap np cp, .int .i64 p.ru.time, .slice ae ne ce, .bool p.ru.expl, .bool p.ru.chk, .int .i64 p.ru.usage] /\ Blk V6 (w.heap.size + 1) 37 #[.slice a1 n1 c1, .slice a2 n2 c2, .slice a3 n3 c3]) := HCUT.out
  clear HCUT
  have d0 := fun j => G6.out.2.1.cell j
  go_wp2_with fail
  refine (E4.out V6 G6.out.1 G6.out.2.2).mono ?_
  rintro e V7 ⟨rfl, hb⟩
  have G7 := zH (zJ (G6.out.1.trans (hb.mono G6.out.1.size)) (zJ (G6.out.2.1.below hb G6.out.2.1.lt) (G6.out.2.2.below hb G6.out.2.2.lt)))
  clear hb G6
  clear d0
  go_wp2_with fail
  refine (plus_any X3 8 B4 V7).mono ?_
  rintro e V8 ⟨rfl, hb⟩
  have G8 := zH (zJ (G7.out.1.trans (hb.mono G7.out.1.size)) (zJ (G7.out.2.1.below hb G7.out.2.1.lt) (G7.out.2.2.below hb G7.out.2.2.lt)))
  clear hb G7
  rw [hX4]
  have d0 := fun j => G8.out.2.1.cell j
  go_wp2_with fail
  refine (E5.out V8 G8.out.1 G8.out.2.2).mono ?_
  rintro e V9 ⟨rfl, hb⟩
  have G9 := zH (zJ (G8.out.1.trans (hb.mono G8.out.1.size)) (zJ (G8.out.2.1.below hb G8.out.2.1.lt) (G8.out.2.2.below hb G8.out.2.2.lt)))
  clear hb G8
  clear d0
  go_wp2_with fail
  refine (plus_any X4 16 B5 V9).mono ?_
  rintro e V10 ⟨rfl, hb⟩
  have G10 := zH (zJ (G9.out.1.trans (hb.mono G9.out.1.size)) (zJ (G9.out.2.1.below hb G9.out.2.1.lt) (G9.out.2.2.below hb G9.out.2.2.lt)))
  clear hb G9
  rw [hX5]
  go_wp2_with fail
  go_ret
  exact ⟨⟨_, rfl, HF.out⟩, G10.out.1⟩
theorem implPlansOk_any (l : List Pn) (v : Value) (a1 : Option Addr) (n1 c1 : Nat) (a2 : Option Addr) (n2 c2 : Nat) (a3 : Option Addr) (n3 c3 : Nat) (w : World) (hl : wtPS l <= 1000000000) (hn : n3 <= 1000000000) (ha : AtS pnKd w v l) :
  Calls Tryz.prog 36 #[v, .agg #[.slice a1 n1 c1, .slice a2 n2 c2, .slice a3 n3 c3]] w fun e w' => e = .returned (.bool (plansOk n3 l)) /\ Below w.heap.size w w' := by
 obtain ⟨i0, hi, hz0, hz1, hz2⟩ := info_parts info3
 obtain ⟨pa, pc, hpa⟩ := ha.shape
 obtain ⟨n, hnl⟩ := zE (l.length)
 rw [hnl] at hpa
 subst hpa
 obtain ⟨V0, hV⟩ : ∃ V, V = w.alloc (Obj.cells #[.slice a1 n1 c1, .slice a2 n2 c2, .slice a3 n3 c3] 37) := ⟨_, rfl⟩
 have G0 : Hid (Below w.heap.size w V0 /\ Blk V0 w.heap.size 37 #[.slice a1 n1 c1, .slice a2 n2 c2, .slice a3 n3 c3]) := by rw [hV]; exact ⟨(Below.refl _ _).alloc (Nat.le_refl _) _, Blk.new w _ _⟩
 have HT : Hid (AtS pnKd w (.slice pa n pc) l /\ l.length = n /\ wtPS l <= 1000000000) := ⟨ha, hnl, hl⟩
 by_cases h6 : n <= 6
 rotate_left
 ·have h6i : (6 : Int) < (n : Int) := by omega
  have HF : Hid (plansOk n3 l = false) := plans_long (by rw [hnl]; exact h6)
  clear ha hnl hl h6
  go_enter Tryz.func36, Tryz.ntmps36
  go_upto_region 1 with fail
  rw [<- hV]
  clear hV
  go_wp2_with fail
  go_ret
  exact ⟨by rw [HF.out]; rfl, G0.out.1⟩
 have h6i : ¬ (6 : Int) < (n : Int) := by omega
 obtain ⟨R, hR⟩ := zE (plansOk n3 l)
 have HR : Hid (plansOk n3 l = R /\ l.length <= 6) := ⟨hR, by rw [hnl]; exact h6⟩
 rw [hR]
 clear ha hnl hl hR
 go_enter Tryz.func36, Tryz.ntmps36
 go_upto_region 1 with fail
 rw [<- hV]
 clear hV
 go_wp2_with fail
 go_loopw [5, 13] (fun lv iv wr => ∃ k : Nat, k <= n /\ iv = .int .i64 k /\ Hid ((∀ j (hj : j < l.length), j < k -> plOk n3 l[j] = true) /\ Below w.heap.size w wr /\ Blk wr w.heap.size 37 #[.slice a1 n1 c1, .slice a2 n2 c2, .slice a3 n3 c3] /\ OwnI wr (w.heap.size + 1) (lv) ((l.take k).map Pn.id))) (fun _ iv _ => n - (intOf iv).toNat)
 case atStart => exact ⟨0, Nat.zero_le _, rfl, fun j _ hj => absurd hj (Nat.not_lt_zero _), G0.out.1, G0.out.2, World.ownsRow_nil _ _ _ _⟩
 case round =>
  clear G0
  obtain ⟨k, hk, rfl, HK⟩ := hrel
  obtain ⟨la, lc, hlv⟩ : ∃ ao cap, u5 = .slice ao ((l.take k).map Pn.id).length cap := by obtain ⟨ao, cap, h, _⟩ := HK.out.2.2.2.at; exact ⟨ao, cap, h⟩
  rw [show ((l.take k).map Pn.id).length = k by rw [List.length_map, List.length_take]; have := HT.out.2.1; omega] at hlv
  subst hlv
  by_cases hkn : k < n
  ·have hkl : k < l.length := by rw [HT.out.2.1]; exact hkn
   obtain ⟨b, off, u, hao, hbB, hPu, hus, hcell⟩ := HT.out.1.get hkl
   obtain ⟨p1, q1, e1, r1, hu⟩ := PnAt.shape hPu
   obtain ⟨x, hx⟩ := zE (l[k])
   rw [hx] at hu
   obtain ⟨l1, hl1⟩ := zE (x.anc.length)
   obtain ⟨l2, hl2⟩ := zE (x.ru.pol.length)
   rw [hl1, hl2] at hu
   have hrg0 := fun i z (hz : u.cells[i]? = some z) => (HK.out.2.1.cell (p := ⟨b, off + k * 7 + i, none⟩) (by show b < w.heap.size; exact hbB)).trans (hcell i z hz)
   have HP : PnAt wr u x := by rw [<- hx]; exact PnAt.below hPu HK.out.2.1
   have hxw : wtPn x <= 1000000000 := by rw [<- hx]; exact Nat.le_trans (wtPS_mem (List.getElem_mem hkl)) HT.out.2.2
   subst hao hu
   have hrg : wr.rangeAt b (off + k * 7) #[.int .i64 x.id, .slice p1 l1 q1, .int .i64 x.ru.time, .slice e1 l2 r1, .bool x.ru.expl, .bool x.ru.chk, .int .i64 x.ru.usage].toList := fun j y hy => hrg0 j y (by rw [<- hy]; exact Array.getElem?_toList.symm)
   obtain ⟨V, hV⟩ : ∃ V, V = (wr.alloc (Obj.cells #[.int .i64 0, .slice none 0 0, .int .i64 0, .slice none 0 0, .bool false, .bool false, .int .i64 0] 127)).setCells wr.heap.size 0 #[.int .i64 x.id, .slice p1 l1 q1, .int .i64 x.ru.time, .slice e1 l2 r1, .bool x.ru.expl, .bool x.ru.chk, .int .i64 x.ru.usage].toList := ⟨_, rfl⟩
   have hBV : Below wr.heap.size wr V /\ Blk V wr.heap.size 127 #[.int .i64 x.id, .slice p1 l1 q1, .int .i64 x.ru.time, .slice e1 l2 r1, .bool x.ru.expl, .bool x.ru.chk, .int .i64 x.ru.usage] := fresh_store hV rfl
   have hth := (Blk.new wr 127 #[.int .i64 0, .slice none 0 0, .int .i64 0, .slice none 0 0, .bool false, .bool false, .int .i64 0]).there (n := 7) rfl
   have HV := zH (zJ HK.out.1 (zJ (HK.out.2.1.trans (hBV.1.mono HK.out.2.1.size)) (zJ (HK.out.2.2.1.below hBV.1 HK.out.2.2.1.lt) (zJ (HK.out.2.2.2.stays hBV.1) (zJ hBV.2 HK.out.2.2.1.lt)))))
   have EN := needsMet_any x (pnV x (.slice p1 l1 q1) (.slice e1 l2 r1)) a1 n1 c1 a2 n2 c2 a3 n3 c3 V hxw hn (PnAt.below HP hBV.1)
   have HX : Hid (l[k] = x) := hx
   have hki : (k : Int) < (n : Int) := by omega
   have hk0 : (0 : Int) <= (k : Int) := by omega
   clear hcell hPu hus hbB hx hrg0 hBV HP HK hl1 hl2 hxw
   unfold pnV at EN
   go_upto_region 7 with (first | refine wpList_load_mid rfl 127 _ rfl b (off + k * 7) rfl _ _ hrg Tryz.underlying127 rfl (by kernel_rfl) ?_ | (refine step_storeV rfl 127 _ _ rfl wr.heap.size 0 #[.int .i64 x.id, .slice p1 l1 q1, .int .i64 x.ru.time, .slice e1 l2 r1, .bool x.ru.expl, .bool x.ru.chk, .int .i64 x.ru.usage] rfl rfl hth (by kernel_rfl) (by simp [Value.oneCell']) hV ?_; clear hV hth))
   obtain ⟨gP, hgP⟩ := zE (wr.heap.size)
   rw [hgP] at HV |-
   clear hgP
   have u30 := fun j => HV.out.2.2.2.2.1.cell j
   have s0 := fun j => HV.out.2.2.1.cell j
   clear hrg
   go_wp2_with fail
   refine EN.mono ?_
   rintro e w3 ⟨⟨r, rfl, hr⟩, hb3⟩
   have H3 := zH (zJ HV.out.1 (zJ (HV.out.2.1.trans (hb3.mono HV.out.2.1.size)) (zJ (HV.out.2.2.1.below hb3 HV.out.2.2.1.lt) (zJ (HV.out.2.2.2.1.stays hb3) (zJ (HV.out.2.2.2.2.1.below hb3 HV.out.2.2.2.2.1.lt) (Nat.le_trans HV.out.2.2.1.lt hb3.size))))))
   clear EN hb3 HV u30 s0
   obtain ⟨B, hB⟩ := zE (plOk n3 x)
   have HB : Hid (plOk n3 x = B) := hB
   rw [hB] at hr
   clear hB
   cases B with
   | false =>
    have hr31 : (r != 31) = true := hr
    have HF : Hid (R = false) := by show R = false; rw [<- HR.out.1]; exact plans_no hkl (by rw [HX.out]; exact HB.out)
    clear hr
    go_wp2_with fail
    go_ret
    exact ⟨by rw [HF.out]; rfl, H3.out.2.1⟩
   | true =>
    have hr31 : (r != 31) = false := hr
    have hid := fun j => H3.out.2.2.2.2.1.cell j
    clear hr
    obtain ⟨W4, hW4⟩ : ∃ V, V = w3.alloc (Obj.cells #[.int .i64 x.id] 3) := ⟨_, rfl⟩
    have hb4 : Below w3.heap.size w3 W4 := by rw [hW4]; exact (Below.refl _ _).alloc (Nat.le_refl _) _
    have H4 : Hid (OwnI W4 (w.heap.size + 1) (.slice la k lc) ((l.take k).map Pn.id) /\ OwnI W4 w3.heap.size (.slice (some ⟨w3.heap.size, 0, none⟩) 1 1) [x.id] /\ Blk W4 w.heap.size 37 #[.slice a1 n1 c1, .slice a2 n2 c2, .slice a3 n3 c3] /\ Below w.heap.size w W4 /\ w.heap.size + 1 <= W4.heap.size /\ ((l.take k).map Pn.id).length = k /\ (l.take (k + 1)).map Pn.id = (l.take k).map Pn.id ++ [x.id]) := by
     refine ⟨H3.out.2.2.2.1.stays hb4, by rw [hW4]; exact oneI_new w3 x.id, H3.out.2.2.1.below hb4 H3.out.2.2.1.lt, H3.out.2.1.trans (hb4.mono H3.out.2.1.size), Nat.le_trans H3.out.2.2.2.2.2 hb4.size, by rw [List.length_map, List.length_take]; omega, ?_⟩
     rw [List.take_succ_eq_append_getElem hkl, List.map_append, HX.out]
     rfl
    have HL : Hid (∀ j (hj : j < l.length), j < k + 1 -> plOk n3 l[j] = true) := fun j hj h => by
     rcases Nat.lt_or_ge j k with h | h
     ·exact H3.out.1 j hj h
     ·have : j = k := by omega
      subst this
      rw [HX.out]
      exact HB.out
    clear hb4 H3
    go_wp2_with (at_builtin; rw [<- hW4]; refine wpList_append_ints2 rfl _ _ 45 rfl (w.heap.size + 1) i0 Tryz.underlying45 hi hz0 hz1 hz2 (.slice la k lc) ((l.take k).map Pn.id).length (cellsI ((l.take k).map Pn.id)) rfl H4.out.1 _ [x.id] w3.heap.size H4.out.2.1 rfl (by rw [H4.out.2.2.2.2.2.1]; simp only [List.length_singleton]; omega) H4.out.2.2.2.2.1 ?_)
    intro v9 w9 ho9 hg9
    rw [<- hW4] at hg9
    have H9 : Hid ((∀ j (hj : j < l.length), j < k + 1 -> plOk n3 l[j] = true) /\ Below w.heap.size w w9 /\ Blk w9 w.heap.size 37 #[.slice a1 n1 c1, .slice a2 n2 c2, .slice a3 n3 c3] /\ OwnI w9 (w.heap.size + 1) (v9) ((l.take (k + 1)).map Pn.id)) := by
     have hrl := fun b hb => (World.ownsRow.lt H4.out.1 b hb).1
     refine ⟨HL.out, H4.out.2.2.2.1.grown hg9 H4.out.2.2.2.1.size (fun b hb => by have := hrl b hb; omega), (hg9.block _ H4.out.2.2.1.lt (fun e => by have := hrl _ e.symm; omega)).trans H4.out.2.2.1, ?_⟩
     rw [H4.out.2.2.2.2.2.2]
     simpa [OwnI, cellsI_append] using ho9
    clear ho9 hg9 H4 hW4 hid HL
    go_wp2_with fail
    exact ⟨⟨k + 1, by omega, by go_num, H9⟩, by simp [intOf]; omega⟩
  ·have hkl : n = k := by omega
   subst hkl
   have HE : Hid (Below w.heap.size w wr /\ IntAt wr (.slice la n lc) (l.map Pn.id) /\ R = ascG lsI 0 (l.map Pn.id) /\ (l.map Pn.id).length <= 1000000000) := by
    have h := HK.out.2.2.2.at
    rw [List.take_of_length_le (by rw [HT.out.2.1]; exact Nat.le_refl _)] at h
    exact ⟨HK.out.2.1, h, by rw [<- HR.out.1]; exact plans_all HR.out.2 (fun j hj => HK.out.1 j hj (by rw [<- HT.out.2.1]; exact hj)), by rw [List.length_map]; have := HR.out.2; omega⟩
   have EA := ascI_any (.slice la n lc) (l.map Pn.id) wr HE.out.2.2.2 HE.out.2.1
   rw [<- HE.out.2.2.1] at EA
   clear HK
   go_wp2_with fail
   refine EA.mono ?_
   rintro e w5 ⟨rfl, hb⟩
   have G5 : Hid (Below w.heap.size w w5) := HE.out.1.trans (hb.mono HE.out.1.size)
   clear EA hb
   go_wp2_with fail
   go_ret
   exact ⟨rfl, G5.out⟩
def servOk (s : Se) : Bool := stoOk s.store && (plansOk s.store.ancs.length s.pl && (inB s.house 0 5 && (inB s.now 0 9999 && (inB s.fresh 0 9999 && decide (s.kept.length <= 3)))))
theorem specServerOk_any (s : Se) (v : Value) (w : World) (hok : OkO s.store) (hp : wtPS s.pl <= 1000000000) (hn : s.store.ancs.length <= 1000000000) (hk : s.kept.length <= 1000000000) (ha : SeAt w v s) : Calls Tryz.prog 7 #[v] w fun e w' => e = .returned (.bool (servOk s)) /\ Below w.heap.size w w' := by
 obtain ⟨a1, c1, a2, c2, a3, c3, a4, c4, a5, c5, rfl⟩ := ha.shape
 obtain ⟨k1, k2, k3⟩ := ha.rows
 obtain ⟨n1, e1⟩ := zE (s.store.certs.length)
 obtain ⟨n2, e2⟩ := zE (s.store.crls.length)
 obtain ⟨n3, e3⟩ := zE (s.store.ancs.length)
 obtain ⟨n4, e4⟩ := zE (s.pl.length)
 obtain ⟨n5, e5⟩ := zE (s.kept.length)
 rw [e1, e2, e3] at k1
 rw [e4] at k2
 rw [e3] at hn
 rw [e5] at hk
 obtain ⟨B1, hB1⟩ := zE (stoOk s.store)
 have E1 : Hid (∀ W, Below w.heap.size w W -> Calls Tryz.prog 28 #[.agg #[.slice a1 n1 c1, .slice a2 n2 c2, .slice a3 n3 c3]] W fun e w' => e = .returned (.bool B1) /\ Below W.heap.size W w') := fun W hb => by rw [<- hB1]; exact specStoreOk_any s.store _ W hok (k1.below hb)
 obtain ⟨B2, hB2⟩ := zE (plansOk s.store.ancs.length s.pl)
 have E2 : Hid (∀ W, Below w.heap.size w W -> Calls Tryz.prog 29 #[.slice a4 n4 c4, .agg #[.slice a1 n1 c1, .slice a2 n2 c2, .slice a3 n3 c3]] W fun e w' => e = .returned (.bool B2) /\ Below W.heap.size W w') := fun W hb => by rw [<- hB2, e3]; exact specPlansOk_any s.pl _ a1 n1 c1 a2 n2 c2 a3 n3 c3 W hp hn (k2.below hb)
 obtain ⟨B3, hB3⟩ := zE (inB s.house 0 5)
 have E3 : Hid (∀ W, Below w.heap.size w W -> Calls Tryz.prog 30 #[.int .i64 s.house, .int .i64 0, .int .i64 5] W fun e w' => e = .returned (.bool B3) /\ Below W.heap.size W w') := fun W hb => by rw [<- hB3]; exact in_any _ _ _ W
 obtain ⟨B4, hB4⟩ := zE (inB s.now 0 9999)
 have E4 : Hid (∀ W, Below w.heap.size w W -> Calls Tryz.prog 31 #[.int .i64 s.now] W fun e w' => e = .returned (.bool B4) /\ Below W.heap.size W w') := fun W hb => by rw [<- hB4]; exact num_any _ W
 obtain ⟨B5, hB5⟩ := zE (inB s.fresh 0 9999)
 have E5 : Hid (∀ W, Below w.heap.size w W -> Calls Tryz.prog 31 #[.int .i64 s.fresh] W fun e w' => e = .returned (.bool B5) /\ Below W.heap.size W w') := fun W hb => by rw [<- hB5]; exact num_any _ W
 have HC : Hid (servOk s = (B1 && (B2 && (B3 && (B4 && (B5 && decide (n5 <= 3))))))) := by show servOk s = _; unfold servOk; rw [hB1, hB2, hB3, hB4, hB5, e5]
 rw [e1, e2, e3, e4, e5]
 clear hB1 hB2 hB3 hB4 hB5 e1 e2 e3 e4 e5 ha k1 k2 k3 hok hp hn
 go_enter Tryz.func7, Tryz.ntmps7
 go_wp2_with fail
 obtain ⟨V0, hV⟩ : ∃ V, V = w.alloc (Obj.cells #[.slice a1 n1 c1, .slice a2 n2 c2, .slice a3 n3 c3, .slice a4 n4 c4, .int .i64 s.house, .int .i64 s.now, .int .i64 s.fresh, .slice a5 n5 c5] 41) := ⟨_, rfl⟩
 rw [<- hV]
 have G0 : Hid (Below w.heap.size w V0 /\ Blk V0 w.heap.size 41 #[.slice a1 n1 c1, .slice a2 n2 c2, .slice a3 n3 c3, .slice a4 n4 c4, .int .i64 s.house, .int .i64 s.now, .int .i64 s.fresh, .slice a5 n5 c5]) := by rw [hV]; exact ⟨(Below.refl _ _).alloc (Nat.le_refl _) _, Blk.new w _ _⟩
 clear hV
 refine (E1.out V0 G0.out.1).mono ?_
 rintro e y1 ⟨rfl, hb⟩
 have G1 := zH (zJ (Below.on G0.out.1 hb G0.out.1.size) (G0.out.2.below hb G0.out.2.lt))
 clear hb G0 E1
 have kc0 := fun j => G1.out.2.cell j
 cases B1 with
 | false =>
  go_wp2_with fail
  go_ret
  exact ⟨by rw [HC.out]; rfl, G1.out.1⟩
 | true =>
  go_wp2_with fail
  clear kc0
  refine (E2.out y1 G1.out.1).mono ?_
  rintro e y2 ⟨rfl, hb⟩
  have G2 := zH (zJ (Below.on G1.out.1 hb G1.out.1.size) (G1.out.2.below hb G1.out.2.lt))
  clear hb G1 E2
  have kc0 := fun j => G2.out.2.cell j
  cases B2 with
  | false =>
   go_wp2_with fail
   go_ret
   exact ⟨by rw [HC.out]; rfl, G2.out.1⟩
  | true =>
   go_wp2_with fail
   clear kc0
   refine (E3.out y2 G2.out.1).mono ?_
   rintro e y3 ⟨rfl, hb⟩
   have G3 := zH (zJ (Below.on G2.out.1 hb G2.out.1.size) (G2.out.2.below hb G2.out.2.lt))
   clear hb G2 E3
   have kc0 := fun j => G3.out.2.cell j
   cases B3 with
   | false =>
    go_wp2_with fail
    go_ret
    exact ⟨by rw [HC.out]; rfl, G3.out.1⟩
   | true =>
    go_wp2_with fail
    clear kc0
    refine (E4.out y3 G3.out.1).mono ?_
    rintro e y4 ⟨rfl, hb⟩
    have G4 := zH (zJ (Below.on G3.out.1 hb G3.out.1.size) (G3.out.2.below hb G3.out.2.lt))
    clear hb G3 E4
    have kc0 := fun j => G4.out.2.cell j
    cases B4 with
    | false =>
     go_wp2_with fail
     go_ret
     exact ⟨by rw [HC.out]; rfl, G4.out.1⟩
    | true =>
     go_wp2_with fail
     clear kc0
     refine (E5.out y4 G4.out.1).mono ?_
     rintro e y5 ⟨rfl, hb⟩
     have G5 := zH (zJ (Below.on G4.out.1 hb G4.out.1.size) (G4.out.2.below hb G4.out.2.lt))
     clear hb G4 E5
     have kc0 := fun j => G5.out.2.cell j
     cases B5 with
     | false =>
      go_wp2_with fail
      go_ret
      exact ⟨by rw [HC.out]; rfl, G5.out.1⟩
     | true =>
      by_cases h3 : n5 <= 3
      ·have h3i : (n5 : Int) <= 3 := by omega
       go_wp2_with fail
       go_ret
       exact ⟨by rw [HC.out, decide_eq_true h3]; first | rfl | simp [h3i], G5.out.1⟩
      ·have h3i : ¬ (n5 : Int) <= 3 := by omega
       go_wp2_with fail
       go_ret
       exact ⟨by rw [HC.out, decide_eq_false h3]; first | rfl | simp [h3i], G5.out.1⟩
theorem implServerOk_any (s : Se) (v : Value) (w : World) (hok : OkO s.store) (hp : wtPS s.pl <= 1000000000) (hn : s.store.ancs.length <= 1000000000) (hk : s.kept.length <= 1000000000) (ha : SeAt w v s) : Calls Tryz.prog 9 #[v] w fun e w' => e = .returned (.bool (servOk s)) /\ Below w.heap.size w w' := by
 obtain ⟨a1, c1, a2, c2, a3, c3, a4, c4, a5, c5, rfl⟩ := ha.shape
 obtain ⟨k1, k2, k3⟩ := ha.rows
 obtain ⟨n1, e1⟩ := zE (s.store.certs.length)
 obtain ⟨n2, e2⟩ := zE (s.store.crls.length)
 obtain ⟨n3, e3⟩ := zE (s.store.ancs.length)
 obtain ⟨n4, e4⟩ := zE (s.pl.length)
 obtain ⟨n5, e5⟩ := zE (s.kept.length)
 rw [e1, e2, e3] at k1
 rw [e4] at k2
 rw [e3] at hn
 rw [e5] at hk
 obtain ⟨B1, hB1⟩ := zE (stoOk s.store)
 have E1 : Hid (∀ W, Below w.heap.size w W -> Calls Tryz.prog 35 #[.agg #[.slice a1 n1 c1, .slice a2 n2 c2, .slice a3 n3 c3]] W fun e w' => e = .returned (.bool B1) /\ Below W.heap.size W w') := fun W hb => by rw [<- hB1]; exact implStoreOk_any s.store _ W hok (k1.below hb)
 obtain ⟨B2, hB2⟩ := zE (plansOk s.store.ancs.length s.pl)
 have E2 : Hid (∀ W, Below w.heap.size w W -> Calls Tryz.prog 36 #[.slice a4 n4 c4, .agg #[.slice a1 n1 c1, .slice a2 n2 c2, .slice a3 n3 c3]] W fun e w' => e = .returned (.bool B2) /\ Below W.heap.size W w') := fun W hb => by rw [<- hB2, e3]; exact implPlansOk_any s.pl _ a1 n1 c1 a2 n2 c2 a3 n3 c3 W hp hn (k2.below hb)
 obtain ⟨B3, hB3⟩ := zE (inB s.house 0 5)
 have E3 : Hid (∀ W, Below w.heap.size w W -> Calls Tryz.prog 37 #[.int .i64 5, .int .i64 s.house] W fun e w' => e = .returned (.bool B3) /\ Below W.heap.size W w') := fun W hb => by rw [<- hB3]; exact upTo_any _ _ W
 obtain ⟨B4, hB4⟩ := zE (inB s.now 0 9999)
 have E4 : Hid (∀ W, Below w.heap.size w W -> Calls Tryz.prog 37 #[.int .i64 9999, .int .i64 s.now] W fun e w' => e = .returned (.bool B4) /\ Below W.heap.size W w') := fun W hb => by rw [<- hB4]; exact upTo_any _ _ W
 obtain ⟨B5, hB5⟩ := zE (inB s.fresh 0 9999)
 have E5 : Hid (∀ W, Below w.heap.size w W -> Calls Tryz.prog 37 #[.int .i64 9999, .int .i64 s.fresh] W fun e w' => e = .returned (.bool B5) /\ Below W.heap.size W w') := fun W hb => by rw [<- hB5]; exact upTo_any _ _ W
 have HC : Hid (servOk s = (B1 && (B2 && (B3 && (B4 && (B5 && decide (n5 <= 3))))))) := by show servOk s = _; unfold servOk; rw [hB1, hB2, hB3, hB4, hB5, e5]
 rw [e1, e2, e3, e4, e5]
 clear hB1 hB2 hB3 hB4 hB5 e1 e2 e3 e4 e5 ha k1 k2 k3 hok hp hn
 go_enter Tryz.func9, Tryz.ntmps9
 go_wp2_with fail
 obtain ⟨V0, hV⟩ : ∃ V, V = w.alloc (Obj.cells #[.slice a1 n1 c1, .slice a2 n2 c2, .slice a3 n3 c3, .slice a4 n4 c4, .int .i64 s.house, .int .i64 s.now, .int .i64 s.fresh, .slice a5 n5 c5] 41) := ⟨_, rfl⟩
 rw [<- hV]
 have G0 : Hid (Below w.heap.size w V0 /\ Blk V0 w.heap.size 41 #[.slice a1 n1 c1, .slice a2 n2 c2, .slice a3 n3 c3, .slice a4 n4 c4, .int .i64 s.house, .int .i64 s.now, .int .i64 s.fresh, .slice a5 n5 c5]) := by rw [hV]; exact ⟨(Below.refl _ _).alloc (Nat.le_refl _) _, Blk.new w _ _⟩
 clear hV
 refine (E1.out V0 G0.out.1).mono ?_
 rintro e y1 ⟨rfl, hb⟩
 have G1 := zH (zJ (Below.on G0.out.1 hb G0.out.1.size) (G0.out.2.below hb G0.out.2.lt))
 clear hb G0 E1
 have kc0 := fun j => G1.out.2.cell j
 cases B1 with
 | false =>
  go_wp2_with fail
  go_ret
  exact ⟨by rw [HC.out]; rfl, G1.out.1⟩
 | true =>
  go_wp2_with fail
  clear kc0
  refine (E2.out y1 G1.out.1).mono ?_
  rintro e y2 ⟨rfl, hb⟩
  have G2 := zH (zJ (Below.on G1.out.1 hb G1.out.1.size) (G1.out.2.below hb G1.out.2.lt))
  clear hb G1 E2
  have kc0 := fun j => G2.out.2.cell j
  cases B2 with
  | false =>
   go_wp2_with fail
   go_ret
   exact ⟨by rw [HC.out]; rfl, G2.out.1⟩
  | true =>
   go_wp2_with fail
   clear kc0
   refine (E3.out y2 G2.out.1).mono ?_
   rintro e y3 ⟨rfl, hb⟩
   have G3 := zH (zJ (Below.on G2.out.1 hb G2.out.1.size) (G2.out.2.below hb G2.out.2.lt))
   clear hb G2 E3
   have kc0 := fun j => G3.out.2.cell j
   cases B3 with
   | false =>
    go_wp2_with fail
    go_ret
    exact ⟨by rw [HC.out]; rfl, G3.out.1⟩
   | true =>
    go_wp2_with fail
    clear kc0
    refine (E4.out y3 G3.out.1).mono ?_
    rintro e y4 ⟨rfl, hb⟩
    have G4 := zH (zJ (Below.on G3.out.1 hb G3.out.1.size) (G3.out.2.below hb G3.out.2.lt))
    clear hb G3 E4
    have kc0 := fun j => G4.out.2.cell j
    cases B4 with
    | false =>
     go_wp2_with fail
     go_ret
     exact ⟨by rw [HC.out]; rfl, G4.out.1⟩
    | true =>
     go_wp2_with fail
     clear kc0
     refine (E5.out y4 G4.out.1).mono ?_
     rintro e y5 ⟨rfl, hb⟩
     have G5 := zH (zJ (Below.on G4.out.1 hb G4.out.1.size) (G4.out.2.below hb G4.out.2.lt))
     clear hb G4 E5
     have kc0 := fun j => G5.out.2.cell j
     cases B5 with
     | false =>
      go_wp2_with fail
      go_ret
      exact ⟨by rw [HC.out]; rfl, G5.out.1⟩
     | true =>
      by_cases h3 : n5 <= 3
      ·have h3i : (n5 : Int) <= 3 := by omega
       go_wp2_with fail
       go_ret
       exact ⟨by rw [HC.out, decide_eq_true h3]; first | rfl | simp [h3i], G5.out.1⟩
      ·have h3i : ¬ (n5 : Int) <= 3 := by omega
       go_wp2_with fail
       go_ret
       exact ⟨by rw [HC.out, decide_eq_false h3]; first | rfl | simp [h3i], G5.out.1⟩
end Go.Proofs.YtabfamhaihnccaaGreat
namespace Go.Proofs.YtabfamhaihnccaaGreat
open Go.RowKit
set_option linter.unusedVariables false
theorem okO_of {s : So} (hz : wtO s <= 1048576) (wd : WdO s) : OkO s := by
 unfold wtO at hz
 have h1 : wtM s.certs = s.certs.length + (s.certs.map wtC).sum := rfl
 have h2 : wtS s.crls = s.crls.length + (s.crls.map wtL).sum := rfl
 have h3 : wtN s.ancs = s.ancs.length + (s.ancs.map wtA).sum := rfl
 exact ⟨⟨by omega, by omega, by omega⟩, fun c hc => ⟨by have := wtM_mem hc; omega, wd.1.1 c hc⟩, fun c hc => ⟨by have := wtS_mem hc; omega, wd.2.1.1 c hc⟩, fun c hc => by have := wtN_mem hc; omega⟩
end Go.Proofs.YtabfamhaihnccaaGreat
