/-
  Texts of the proof.
-/
import Derived.Deep.RegionHeld3
import Derived.LaidEqlPtr
import Derived.Laws.StructEq
import Derived.ChangeKeysEq
import Derived.Test.YtcbjlbpkoneibaaGreatDoorSR36
set_option linter.unusedVariables false
set_option linter.unusedSimpArgs false
set_option maxRecDepth 100000
set_option maxHeartbeats 25600000
namespace Go.Proofs.YtcbjlbpkoneibaaGreatDoor
open Go.RowKit Der
def TdPost (w0 w : World) (g : Nat) (ob : Option Cl) (e : Ending) (W' : World) : Prop := Out [g] w W' /\
 ((ob = none /\ e = misfit) ∨ ∃ (c : Cl) (pa : Option Addr) (pc : Nat) (v' : Value), ob = some c /\ e = .returned (tdV c (zS pa c.revs.length pc)) /\ OwnR W' w.heap.size (zS pa c.revs.length pc) c.revs /\ Blk W' g 137 #[v'])
theorem SzL.head {m : Nat} {ks r : List (It (m + 3))} {c : Cl} (h : SzL ks) (hn : headP ks = some (c, r)) : SzL r := by
 unfold headP at hn;obtain ⟨a0, h0, hn⟩ := Option.bind_eq_some_iff.1 hn;obtain ⟨a1, h1, hn⟩ := Option.bind_eq_some_iff.1 hn;obtain ⟨a2, h2, hn⟩ := Option.bind_eq_some_iff.1 hn;obtain ⟨a3, h3, hn⟩ := Option.bind_eq_some_iff.1 hn;obtain ⟨a4, h4, hn⟩ := Option.bind_eq_some_iff.1 hn;simp only [Option.some.injEq, Prod.mk.injEq] at hn;rw [<- hn.2];exact ((((h.txt h0).num h1).num h2).num h3).num h4
theorem withSig_any (c : Cl) (pa : Option Addr) (lp pc : Nat) (s : ByteArray) (w : World) : Calls Tryz.prog 72 #[tdV c (zS pa lp pc), zG s] w fun e w' => e = .returned (clV { c with sig := s } (zS pa lp pc)) /\ zW w w' := by
 unfold tdV;have e0 := size_alloc w (Obj.cells #[zG c.issuer, zI c.num, zI c.ths, zI c.nxt, zI c.bas, zS pa lp pc] 55);go_enter Tryz.func72, Tryz.ntmps72;go_wp2_with fail;refine bodyPost_ret (v := clV { c with sig := s } (zS pa lp pc)) (by simp [results, Tryz.results72, go_sem, clV]) rfl ⟨rfl, ?_⟩;exact ((Below.refl _ _).alloc (Nat.le_refl _) _).alloc (by omega) _
theorem tidings_any (w0 w : World) (g n : Nat) (v : Value) (ks : List (It (n + 3))) (hw : zW w0 w) (hk : KcAt w0 (n + 3) v ks) (hr : Blk w g 137 #[v]) (hg : w0.heap.size <= g) (hz : SzL ks) :
  Calls Tryz.prog 71 #[.pointer (some ⟨g, 0, none⟩)] w fun e W' => TdPost w0 w g (tidP ks) e W' := by
 obtain ⟨oB, hoB⟩ := zE (tidP ks);have HP : Hid (tidP ks = oB) := hoB;rw [hoB];clear hoB;have KW : Hid (KcAt w0 (n + 3) v ks /\ SzL ks) := ⟨hk, hz⟩;have O0 := zH (zJ (hg : w0.heap.size <= g) (zJ hr.lt hw.size));clear hk hz hg;go_enter Tryz.func71, Tryz.ntmps71;go_wp2_with fail;obtain ⟨W1, hW1⟩ : ∃ V, V = (w.alloc (Obj.cells #[zG ⟨#[]⟩, zI 0, zI 0, zI 0, zI 0, zZ] 55)).alloc (Obj.cells #[zG ⟨#[]⟩, zI 0, zI 0, zI 0, zI 0, zZ] 55) := ⟨_, rfl⟩;rw [<- hW1];have e0 : (w.alloc (Obj.cells #[zG ⟨#[]⟩, zI 0, zI 0, zI 0, zI 0, zZ] 55)).heap.size = w.heap.size + 1 := Array.size_push _;have hb1 : zW w W1 := by rw [hW1]; exact ((Below.refl _ _).alloc (Nat.le_refl _) _).alloc (by rw [e0]; omega) _
 have hv1 : Blk W1 w.heap.size 55 #[zG ⟨#[]⟩, zI 0, zI 0, zI 0, zI 0, zZ] := by rw [hW1]; exact (Blk.new w _ _).alloc _
 have hv2 : Blk W1 (w.heap.size + 1) 55 #[zG ⟨#[]⟩, zI 0, zI 0, zI 0, zI 0, zZ] := by
  rw [hW1];have h := Blk.new (w.alloc (Obj.cells #[zG ⟨#[]⟩, zI 0, zI 0, zI 0, zI 0, zZ] 55)) 55 #[zG ⟨#[]⟩, zI 0, zI 0, zI 0, zI 0, zZ];rw [e0] at h;exact h
 have hs1 : W1.heap.size = w.heap.size + 2 := by rw [hW1, size_alloc, e0]
 have HB : Hid (zW w0 W1) := hw.trans (hb1.mono hw.size);have HO : Hid (Out [g] w W1) := Out.of_below hb1;have VC : Hid (Blk W1 w.heap.size 55 #[zG ⟨#[]⟩, zI 0, zI 0, zI 0, zI 0, zZ]) := hv1;have VA : Hid (Blk W1 (w.heap.size + 1) 55 #[zG ⟨#[]⟩, zI 0, zI 0, zI 0, zI 0, zZ]) := hv2;have RW : Hid (Blk W1 g 137 #[v]) := hr.below hb1 hr.lt;have O1 : Hid (W1.heap.size = w.heap.size + 2) := hs1;clear hW1 e0 hb1 hv1 hv2 hs1 hr hw;refine (rhead_any w0 W1 g n v ks HB.out KW.1 RW.out (by have := O0.out; have := O1.out; omega) KW.2).mono ?_;rintro e w2 ⟨ho, ⟨hn, rfl⟩ | ⟨c0, r2, v2, hn, rfl, hkr, hB⟩⟩
 ·have HF : Hid (Out [g] w w2 /\ oB = none) := by
   refine ⟨HO.trans ho, ?_⟩;rw [<- HP.out];unfold tidP; simp only [hn, Option.bind_some, Option.bind_none]
  clear hn ho;unfold misfit;go_wp2_with fail;exact ⟨rfl, HF.1, .inl ⟨HF.2, rfl⟩⟩
 have N2 : Hid (headP ks = some (c0, r2)) := hn;replace HB := zH (below_out HB.out ho (by have := O0.out; have := O1.out; omega));replace HO := zH (HO.trans ho);replace VC := zH (VC.out.outX ho (by have := O0.out; have := O1.out; simp <;> omega))
 replace VA := zH (VA.out.outX ho (by have := O0.out; have := O1.out; simp <;> omega))
 clear RW;have O2 : Hid (W1.heap.size <= w2.heap.size) := ho.size;have RW : Hid (Blk w2 g 137 #[v2]) := hB;have KI := zH (zJ (hkr : KcAt w0 (n + 3) v2 r2) (KW.2.head hn));clear hn ho hkr hB;unfold hdV;have y0 := fun j => VA.cell j
 have cf := fun j => VA.free j
 go_wp2_with fail;obtain ⟨V3, hV⟩ : ∃ V, V = (((((w2.setCell ⟨w.heap.size + 1, 0, none⟩ (zG c0.issuer)).setCell ⟨w.heap.size + 1, 1, none⟩ (zI c0.num)).setCell ⟨w.heap.size + 1, 2, none⟩ (zI c0.ths)).setCell ⟨w.heap.size + 1, 3, none⟩ (zI c0.nxt)).setCell ⟨w.heap.size + 1, 4, none⟩ (zI c0.bas)) := ⟨_, rfl⟩;rw [<- hV];have hset : Out [w.heap.size + 1] w2 V3 := by
  rw [hV]
  iterate 5 refine Out.setCell ?_ _ _ (by simp)
  exact Out.refl _ _
 have hVA : Blk V3 (w.heap.size + 1) 55 #[zG c0.issuer, zI c0.num, zI c0.ths, zI c0.nxt, zI c0.bas, zZ] := by
  rw [hV];have h0 := VA.out;have h1 : Blk _ (w.heap.size + 1) 55 #[zG c0.issuer, zI 0, zI 0, zI 0, zI 0, zZ] := h0.set 0 (zG c0.issuer);have h2 : Blk _ (w.heap.size + 1) 55 #[zG c0.issuer, zI c0.num, zI 0, zI 0, zI 0, zZ] := h1.set 1 (zI c0.num);have h3 : Blk _ (w.heap.size + 1) 55 #[zG c0.issuer, zI c0.num, zI c0.ths, zI 0, zI 0, zZ] := h2.set 2 (zI c0.ths);have h4 : Blk _ (w.heap.size + 1) 55 #[zG c0.issuer, zI c0.num, zI c0.ths, zI c0.nxt, zI 0, zZ] := h3.set 3 (zI c0.nxt);have h5 : Blk _ (w.heap.size + 1) 55 #[zG c0.issuer, zI c0.num, zI c0.ths, zI c0.nxt, zI c0.bas, zZ] := h4.set 4 (zI c0.bas);exact h5
 clear cf hV;replace HB := zH (below_out HB.out hset (by have := O0.out; have := O1.out; have := O2.out; omega));replace HO := zH (HO.out.aside hset (by have := O0.out; have := O1.out; have := O2.out; omega));replace VC := zH (VC.out.outX hset (by have := O0.out; have := O1.out; have := O2.out; simp <;> omega))
 replace RW := zH (RW.out.outX hset (by have := O0.out; have := O1.out; have := O2.out; simp <;> omega))
 clear VA;have O3 : Hid (w2.heap.size <= V3.heap.size) := hset.size;have VA : Hid (Blk V3 (w.heap.size + 1) 55 #[zG c0.issuer, zI c0.num, zI c0.ths, zI c0.nxt, zI c0.bas, zZ]) := hVA;clear hset hVA;refine (rrevs_any w0 V3 g n v2 r2 HB.out KI.1 RW.out (by have := O0.out; have := O1.out; have := O2.out; have := O3.out; omega) KI.2.1 KI.2.2).mono ?_;rintro e w4 ⟨ho, ⟨hn, rfl⟩ | ⟨l4, r4, v4, u4, hn, rfl, hown, hkr, hB⟩⟩
 ·have HF : Hid (Out [g] w w4 /\ oB = none) := by
   refine ⟨HO.trans ho, ?_⟩;rw [<- HP.out];unfold tidP; simp only [N2.out, hn, Option.bind_some, Option.bind_none]
  clear hn ho;unfold misfit;go_wp2_with fail;exact ⟨rfl, HF.1, .inl ⟨HF.2, rfl⟩⟩
 have N4 : Hid (revsL r2 = some (l4, r4)) := hn;replace HB := zH (below_out HB.out ho (by have := O0.out; have := O1.out; have := O2.out; have := O3.out; omega));replace HO := zH (HO.trans ho);replace VC := zH (VC.out.outX ho (by have := O0.out; have := O1.out; have := O2.out; have := O3.out; simp <;> omega))
 replace VA := zH (VA.out.outX ho (by have := O0.out; have := O1.out; have := O2.out; have := O3.out; simp <;> omega))
 clear RW;have O4 : Hid (V3.heap.size <= w4.heap.size) := ho.size;have RW : Hid (Blk w4 g 137 #[v4]) := hB;obtain ⟨qa, qc, hq, -, -, -⟩ := OwnR.shape hown;subst hq;have LX : Hid (∀ b, (Value.slice qa l4.length qc).ownBlock = some b -> V3.heap.size <= b /\ b < w4.heap.size) := fun b hb => World.ownsRow.lt hown b hb
 have HX : Hid (OwnR w4 V3.heap.size (zS qa l4.length qc) l4) := hown;have KIn : Hid (KcAt w0 (n + 3) v4 r4) := hkr;clear KI;have KI := KIn;clear KIn hn ho hkr hB hown;have cc := fun j => VA.cell j
 have cf := VA.free 5;go_wp2_with fail;clear cc cf;obtain ⟨V5, hV⟩ : ∃ V, V = w4.setCell ⟨w.heap.size + 1, 5, none⟩ (zS qa l4.length qc) := ⟨_, rfl⟩;rw [<- hV];have hset : Out [w.heap.size + 1] w4 V5 := by rw [hV]; exact out_set _ _ _
 have hVA : Blk V5 (w.heap.size + 1) 55 #[zG c0.issuer, zI c0.num, zI c0.ths, zI c0.nxt, zI c0.bas, zS qa l4.length qc] := by rw [hV]; exact VA.set 5 _
 replace HB := zH (below_out HB.out hset (by have := O0.out; have := O1.out; have := O2.out; have := O3.out; have := O4.out; omega));replace HO := zH (HO.out.aside hset (by have := O0.out; have := O1.out; have := O2.out; have := O3.out; have := O4.out; omega));replace VC := zH (VC.out.outX hset (by have := O0.out; have := O1.out; have := O2.out; have := O3.out; have := O4.out; simp <;> omega))
 replace RW := zH (RW.out.outX hset (by have := O0.out; have := O1.out; have := O2.out; have := O3.out; have := O4.out; simp <;> omega))
 replace HX := zH (hset.row (fun b hb => by have := LX.out b hb; have := O0.out; have := O1.out; have := O2.out; have := O3.out; have := O4.out; simp <;> omega) HX.out)
 clear VA;have O5 : Hid (w4.heap.size <= V5.heap.size) := hset.size;have VA : Hid (Blk V5 (w.heap.size + 1) 55 #[zG c0.issuer, zI c0.num, zI c0.ths, zI c0.nxt, zI c0.bas, zS qa l4.length qc]) := hVA;clear hset hVA hV;obtain ⟨ea, ec, he⟩ := KI.shape;have hRE : Blk V5 g 137 #[zS ea r4.length ec] := by rw [<- he]; exact RW.out
 refine (end_any V5 g r4.length ec ea r4 rfl hRE).mono ?_;rintro e w7 ⟨hb, ⟨hn, rfl⟩ | ⟨hnil, hn, rfl⟩⟩
 ·have HF : Hid (Out [g] w w7 /\ oB = none) := by
   refine ⟨HO.trans (Out.of_below hb), ?_⟩;rw [<- HP.out];unfold tidP; simp only [N2.out, N4.out, hn, Option.bind_some, Option.bind_none]
  clear hn hb;unfold misfit;go_wp2_with fail;exact ⟨rfl, HF.1, .inl ⟨HF.2, rfl⟩⟩
 have N7 : Hid (endP r4 = some ()) := hn;replace HB := zH (HB.trans (hb.mono HB.size));replace HO := zH (HO.trans (Out.of_below hb));replace VC := zH (VC.out.on hb);replace RW := zH (RW.out.on hb);replace HX := zH ((show OwnR _ _ _ _ from HX.out).stays hb);replace VA := zH (VA.out.on hb);have O6 : Hid (V5.heap.size <= w7.heap.size) := hb.size;clear hn hb hnil hRE he;have HF : Hid (oB = some { c0 with revs := l4 }) := by
  show oB = _;rw [<- HP.out];unfold tidP; simp only [N2.out, N4.out, N7.out, Option.bind_some, Option.bind_none]
 have a0 := fun j => VA.cell j
 have b0 := fun j => VC.cell j
 have a1 := fun j => VA.cell j
 have b1 := fun j => VC.cell j
 have a2 := fun j => VA.cell j
 have b2 := fun j => VC.cell j
 have a3 := fun j => VA.cell j
 have b3 := fun j => VC.cell j
 have a4 := fun j => VA.cell j
 have b4 := fun j => VC.cell j
 have a5 := fun j => VA.cell j
 have b5 := fun j => VC.cell j
 have fb := fun j => VC.free j
 go_wp2_with fail;generalize hV8 : World.setCell _ { block := w.heap.size, off := 5 } _ = V8;have FIN : Out [w.heap.size] w7 V8 /\ Blk V8 w.heap.size 55 #[zG c0.issuer, zI c0.num, zI c0.ths, zI c0.nxt, zI c0.bas, zS qa l4.length qc] := by
  rw [<- hV8];refine ⟨?_, ?_⟩
  ·iterate 6 refine Out.setCell ?_ _ _ (by simp)
   exact Out.refl _ _
  ·have h0 := VC.out
   have h1 : Blk _ w.heap.size 55 #[zG c0.issuer, zI 0, zI 0, zI 0, zI 0, zZ] := h0.set 0 (zG c0.issuer);have h2 : Blk _ w.heap.size 55 #[zG c0.issuer, zI c0.num, zI 0, zI 0, zI 0, zZ] := h1.set 1 (zI c0.num);have h3 : Blk _ w.heap.size 55 #[zG c0.issuer, zI c0.num, zI c0.ths, zI 0, zI 0, zZ] := h2.set 2 (zI c0.ths);have h4 : Blk _ w.heap.size 55 #[zG c0.issuer, zI c0.num, zI c0.ths, zI c0.nxt, zI 0, zZ] := h3.set 3 (zI c0.nxt);have h5 : Blk _ w.heap.size 55 #[zG c0.issuer, zI c0.num, zI c0.ths, zI c0.nxt, zI c0.bas, zZ] := h4.set 4 (zI c0.bas);have h6 : Blk _ w.heap.size 55 #[zG c0.issuer, zI c0.num, zI c0.ths, zI c0.nxt, zI c0.bas, zS qa l4.length qc] := h5.set 5 (zS qa l4.length qc);exact h6
 clear hV8 fb a0 b0 a1 b1 a2 b2 a3 b3 a4 b4 a5 b5;have HE8 : TdPost w0 w g oB (.returned (.agg #[zG c0.issuer, zI c0.num, zI c0.ths, zI c0.nxt, zI c0.bas, zS qa l4.length qc])) V8 := by
  refine ⟨HO.out.aside FIN.1 (by have := O0.out; have := O1.out; have := O2.out; have := O3.out; have := O4.out; have := O5.out; have := O6.out; omega), .inr ⟨{ c0 with revs := l4 }, qa, qc, v4, HF.out, rfl, ?_, RW.out.outX FIN.1 (by have := O0.out; have := O1.out; have := O2.out; have := O3.out; have := O4.out; have := O5.out; have := O6.out; simp <;> omega)⟩⟩
  exact OwnR.base (FIN.1.row (fun b hb => by have := LX.out b hb; have := O0.out; have := O1.out; have := O2.out; have := O3.out; have := O4.out; have := O5.out; have := O6.out; simp <;> omega) HX.out) (by have := O0.out; have := O1.out; have := O2.out; have := O3.out; have := O4.out; have := O5.out; have := O6.out; omega)
 have q0 := fun j => FIN.2.cell j
 refine bodyPost_ret (v := .agg #[zG c0.issuer, zI c0.num, zI c0.ths, zI c0.nxt, zI c0.bas, zS qa l4.length qc]) (by simp [results, Tryz.results71, go_sem, q0]) rfl HE8
def CbPost (w0 w : World) (g : Nat) (ob : Option Cl) (e : Ending) (W' : World) : Prop := Out [g] w W' /\
 ((ob = none /\ e = misfit) ∨ ∃ (c : Cl) (u v' : Value), ob = some c /\ e = .returned u /\ OwnL W' w.heap.size u c /\ Blk W' g 137 #[v'])
theorem calledBack_any (w0 w : World) (g n : Nat) (v : Value) (ks : List (It (n + 4))) (hw : zW w0 w) (hk : KcAt w0 (n + 4) v ks) (hr : Blk w g 137 #[v]) (hg : w0.heap.size <= g) (hz : SzL ks) :
  Calls Tryz.prog 31 #[.pointer (some ⟨g, 0, none⟩)] w fun e W' => CbPost w0 w g (cbP ks) e W' := by
 obtain ⟨oB, hoB⟩ := zE (cbP ks);have HP : Hid (cbP ks = oB) := hoB;rw [hoB];clear hoB;have KW : Hid (KcAt w0 (n + 4) v ks /\ SzL ks) := ⟨hk, hz⟩;have O0 := zH (zJ (hg : w0.heap.size <= g) (zJ hr.lt hw.size));clear hk hz hg;go_enter Tryz.func31, Tryz.ntmps31;go_wp2_with fail;obtain ⟨W1, hW1⟩ : ∃ V, V = w.alloc (Obj.cells #[zG ⟨#[]⟩, zI 0, zI 0, zI 0, zI 0, zZ, zG ⟨#[]⟩] 26) := ⟨_, rfl⟩;rw [<- hW1];have hb1 : zW w W1 := by rw [hW1]; exact (Below.refl _ _).alloc (Nat.le_refl _) _
 have hv1 : Blk W1 w.heap.size 26 #[zG ⟨#[]⟩, zI 0, zI 0, zI 0, zI 0, zZ, zG ⟨#[]⟩] := by rw [hW1]; exact Blk.new w _ _
 have hs1 : W1.heap.size = w.heap.size + 1 := by rw [hW1]; exact size_alloc _ _
 have HB : Hid (zW w0 W1) := hw.trans (hb1.mono hw.size);have HO : Hid (Out [g] w W1) := Out.of_below hb1;have VC : Hid (Blk W1 w.heap.size 26 #[zG ⟨#[]⟩, zI 0, zI 0, zI 0, zI 0, zZ, zG ⟨#[]⟩]) := hv1;have RW : Hid (Blk W1 g 137 #[v]) := hr.below hb1 hr.lt;have O1 : Hid (W1.heap.size = w.heap.size + 1) := hs1;clear hW1 hb1 hv1 hs1 hr hw;refine (list_any w0 W1 g (n + 3) v ks HB.out KW.1 RW.out (by have := O0.out; have := O1.out; omega) KW.2.1).mono ?_;rintro e w2 ⟨ho, ⟨hn, rfl⟩ | ⟨i2, r2, v2, vi2, gi, hn, rfl, hgi, hki, hkr, hB, hBi⟩⟩
 ·have HF : Hid (Out [g] w w2 /\ oB = none) := by
   refine ⟨HO.trans ho, ?_⟩;rw [<- HP.out];unfold cbP; simp only [hn, Option.bind_some, Option.bind_none]
  clear hn ho;unfold misfit;go_wp2_with fail;exact ⟨rfl, HF.1, .inl ⟨HF.2, rfl⟩⟩
 have N2 : Hid (lstP ks = some (i2, r2)) := hn;replace HB := zH (below_out HB.out ho (by have := O0.out; have := O1.out; omega));replace HO := zH (HO.trans ho);replace VC := zH (VC.out.outX ho (by have := O0.out; have := O1.out; simp <;> omega))
 clear RW;have O2 : Hid (W1.heap.size <= w2.heap.size) := ho.size;have RW : Hid (Blk w2 g 137 #[v2]) := hB;have RI : Hid (Blk w2 gi 137 #[vi2]) := hBi;have O3 := zH (zJ (hgi : W1.heap.size <= gi) hBi.lt);have KI : Hid (KcAt w0 (n + 3) vi2 i2 /\ SzL i2) := ⟨hki, (KW.2.lst hn).1⟩;have KR : Hid (KcAt w0 (n + 4) v2 r2 /\ SzL r2) := ⟨hkr, (KW.2.lst hn).2⟩;clear hn ho hgi hki hkr hB hBi;go_wp2_with fail;refine (tidings_any w0 w2 gi n vi2 i2 HB.out KI.1 RI.out (by have := O0.out; have := O1.out; have := O2.out; have := O3.out; omega) KI.2).mono ?_;rintro e w3 ⟨ho, ⟨hn, rfl⟩ | ⟨c, pa, pc, v3, hn, rfl, hown, hB⟩⟩
 ·have HF : Hid (Out [g] w w3 /\ oB = none) := by
   refine ⟨HO.out.aside ho (by have := O0.out; have := O1.out; have := O2.out; have := O3.out; omega), ?_⟩;rw [<- HP.out];unfold cbP; simp only [N2.out, hn, Option.bind_some, Option.bind_none]
  clear hn ho;unfold misfit;go_wp2_with fail;exact ⟨rfl, HF.1, .inl ⟨HF.2, rfl⟩⟩
 have N3 : Hid (tidP i2 = some c) := hn;replace HB := zH (below_out HB.out ho (by have := O0.out; have := O1.out; have := O2.out; have := O3.out; omega));replace HO := zH (HO.out.aside ho (by have := O0.out; have := O1.out; have := O2.out; have := O3.out; omega));replace VC := zH (VC.out.outX ho (by have := O0.out; have := O1.out; have := O2.out; have := O3.out; simp <;> omega))
 replace RW := zH (RW.out.outX ho (by have := O0.out; have := O1.out; have := O2.out; have := O3.out; simp <;> omega))
 clear RI;have O4 : Hid (w2.heap.size <= w3.heap.size) := ho.size;have LX : Hid (∀ b, (Value.slice pa c.revs.length pc).ownBlock = some b -> w2.heap.size <= b /\ b < w3.heap.size) := fun b hb => World.ownsRow.lt hown b hb
 have HX : Hid (OwnR w3 w2.heap.size (zS pa c.revs.length pc) c.revs) := hown;clear hn ho hown hB KI;unfold tdV;go_wp2_with fail;obtain ⟨V4, hV4⟩ : ∃ V, V = w3.alloc (Obj.cells #[zG c.issuer, zI c.num, zI c.ths, zI c.nxt, zI c.bas, zS pa c.revs.length pc] 55) := ⟨_, rfl⟩;rw [<- hV4];have hb4 : zW w3 V4 := by rw [hV4]; exact (Below.refl _ _).alloc (Nat.le_refl _) _
 have hv4 : Blk V4 w3.heap.size 55 #[zG c.issuer, zI c.num, zI c.ths, zI c.nxt, zI c.bas, zS pa c.revs.length pc] := by rw [hV4]; exact Blk.new w3 _ _
 have hs4 : V4.heap.size = w3.heap.size + 1 := by rw [hV4]; exact size_alloc _ _
 replace HB := zH (HB.trans (hb4.mono HB.size));replace HO := zH (HO.trans (Out.of_below hb4));replace VC := zH (VC.out.on hb4);replace RW := zH (RW.out.on hb4);replace HX := zH ((show OwnR _ _ _ _ from HX.out).stays hb4);have O5 : Hid (w3.heap.size <= V4.heap.size) := hb4.size;have O6 : Hid (V4.heap.size = w3.heap.size + 1) := hs4;clear hV4 hb4 hs4;have HD : zW V4 V4.drew := (Below.refl _ _).drew;refine wp_region_held_drew (S := fun W => Blk W w3.heap.size 55 #[zG c.issuer, zI c.num, zI c.ths, zI c.nxt, zI c.bas, zS pa c.revs.length pc]) (by kernel_rfl) (hv4.on HD) (fun hHeld => ?_);replace HB := zH (HB.trans (HD.mono HB.size));replace HO := zH (HO.trans (Out.of_below HD));replace VC := zH (VC.out.on HD);replace RW := zH (RW.out.on HD);replace HX := zH (HX.stays HD);have O7 : Hid (V4.heap.size <= V4.drew.heap.size) := HD.size;clear HD hv4;generalize V4.drew = wd at *;refine zT 0 8 ?_ rfl (by rfl) ?_ hHeld ?_;rotate_left
 ·intro W hSw
  have l0 := fun j => hSw.cell j
  go_simp
  try with_reducible rfl
 refine zQ 1 9 rfl hHeld ?_;refine wpAnyH_ready (rs := [2, 4]) (by kernel_rfl) (by simp) ?_;refine AllReadyH.cons (o := ⟨some 10, _, _, _, _, _⟩) rfl (fun K hK => ?_) ?_;rotate_left
 ·refine AllReadyH.cons (o := ⟨some 4, _, _, _, _, _⟩) rfl (fun K hK => ?_) AllReadyH.nil
  obtain ⟨W11, hWn⟩ : ∃ V, V = wd.alloc (Obj.cells #[zG ⟨#[]⟩, zI 0, zI 0, zI 0, zI 0, zZ, zG ⟨#[]⟩] 26) := ⟨_, rfl⟩;have hb : zW wd W11 := by rw [hWn]; exact (Below.refl _ _).alloc (Nat.le_refl _) _
  have hvn : Blk W11 wd.heap.size 26 #[zG ⟨#[]⟩, zI 0, zI 0, zI 0, zI 0, zZ, zG ⟨#[]⟩] := by rw [hWn]; exact Blk.new _ _ _
  have hH : Blk W11 w3.heap.size 55 #[zG c.issuer, zI c.num, zI c.ths, zI c.nxt, zI c.bas, zS pa c.revs.length pc] := hHeld.on hb;replace HB := zH (HB.trans (hb.mono HB.size));replace HO := zH (HO.trans (Out.of_below hb));replace VC := zH (VC.out.on hb);replace RW := zH (RW.out.on hb);replace HX := zH ((show OwnR _ _ _ _ from HX.out).stays hb);have O8 : Hid (wd.heap.size <= W11.heap.size) := hb.size;go_simp;rw [<- hWn];refine hK.out _ _ hH (fun hHeld => ?_);clear hK K hH hb hWn;obtain ⟨gx, hgx⟩ := zE (wd.heap.size);rw [hgx] at hvn |-;have O9 := zH (zJ (hgx : wd.heap.size = gx) hvn.lt);have VX : Hid (Blk W11 gx 26 #[zG ⟨#[]⟩, zI 0, zI 0, zI 0, zI 0, zZ, zG ⟨#[]⟩]) := hvn;clear hvn hgx;refine zR 2 10 rfl fun K hK => ?_
  go_simp;refine (rbytes_any w0 W11 g (n + 3) v2 r2 HB.out KR.1 RW.out (by have := O0.out; have := O1.out; have := O2.out; have := O3.out; have := O4.out; have := O5.out; have := O6.out; have := O7.out; have := O8.out; have := O9.out; omega) KR.2.1).mono ?_;rintro e w12 ⟨ho, ⟨hn, rfl⟩ | ⟨xs, r5, v5, hn, rfl, hkr, hB⟩⟩
  ·have HF : Hid (Out [g] w w12 /\ oB = none) := by
    refine ⟨HO.trans ho, ?_⟩;rw [<- HP.out];unfold cbP; simp only [N2.out, N3.out, hn, Option.bind_some, Option.bind_none]
   clear hn ho;unfold misfit;go_wp2_with fail;exact ⟨rfl, HF.1, .inl ⟨HF.2, rfl⟩⟩
  have N5 : Hid (txtP 4 r2 = some (xs, r5)) := hn;have hH : Blk w12 w3.heap.size 55 #[zG c.issuer, zI c.num, zI c.ths, zI c.nxt, zI c.bas, zS pa c.revs.length pc] := hHeld.outX ho (by have := O0.out; have := O1.out; have := O2.out; have := O3.out; have := O4.out; have := O5.out; have := O6.out; have := O7.out; have := O8.out; have := O9.out; simp <;> omega)
  replace HB := zH (below_out HB.out ho (by have := O0.out; have := O1.out; have := O2.out; have := O3.out; have := O4.out; have := O5.out; have := O6.out; have := O7.out; have := O8.out; have := O9.out; omega));replace HO := zH (HO.trans ho);replace VC := zH (VC.out.outX ho (by have := O0.out; have := O1.out; have := O2.out; have := O3.out; have := O4.out; have := O5.out; have := O6.out; have := O7.out; have := O8.out; have := O9.out; simp <;> omega))
  replace HX := zH (ho.row (fun b hb => by have := LX.out b hb; have := O0.out; have := O1.out; have := O2.out; have := O3.out; have := O4.out; have := O5.out; have := O6.out; have := O7.out; have := O8.out; have := O9.out; simp <;> omega) HX.out)
  replace VX := zH (VX.out.outX ho (by have := O0.out; have := O1.out; have := O2.out; have := O3.out; have := O4.out; have := O5.out; have := O6.out; have := O7.out; have := O8.out; have := O9.out; simp <;> omega))
  clear RW;have O10 : Hid (W11.heap.size <= w12.heap.size) := ho.size;have RW : Hid (Blk w12 g 137 #[v5]) := hB;have KR5 : Hid (KcAt w0 (n + 4) v5 r5) := hkr;clear hn ho hkr hB KR;go_wp2_with fail;refine hK.out _ _ hH (fun hHeld => ?_);clear hK K hH;refine zR 3 11 rfl fun K hK => ?_
  go_simp;refine (withSig_any c pa c.revs.length pc xs w12).mono ?_;rintro e w13 ⟨rfl, hb⟩;have hH : Blk w13 w3.heap.size 55 #[zG c.issuer, zI c.num, zI c.ths, zI c.nxt, zI c.bas, zS pa c.revs.length pc] := hHeld.on hb;replace HB := zH (HB.trans (hb.mono HB.size));replace HO := zH (HO.trans (Out.of_below hb));replace VC := zH (VC.out.on hb);replace HX := zH ((show OwnR _ _ _ _ from HX.out).stays hb);replace VX := zH (VX.out.on hb);replace RW := zH (RW.out.on hb);have O11 : Hid (w12.heap.size <= w13.heap.size) := hb.size;clear hb;unfold clV;go_wp2_with fail;refine hK.out _ _ hH (fun hHeld => ?_);clear hK K hH;refine zN 5 rfl fun K hK => ?_
  have z0 := fun j => VX.cell j
  have zf := fun j => VX.free j
  obtain ⟨V7, hV7⟩ : ∃ V, V = (((((((w13.setCell ⟨gx, 0, none⟩ (zG c.issuer)).setCell ⟨gx, 1, none⟩ (zI c.num)).setCell ⟨gx, 2, none⟩ (zI c.ths)).setCell ⟨gx, 3, none⟩ (zI c.nxt)).setCell ⟨gx, 4, none⟩ (zI c.bas)).setCell ⟨gx, 5, none⟩ (zS pa c.revs.length pc)).setCell ⟨gx, 6, none⟩ (zG xs)) := ⟨_, rfl⟩;have hset : Out [gx] w13 V7 := by
   rw [hV7]
   iterate 7 refine Out.setCell ?_ _ _ (by simp)
   exact Out.refl _ _
  have hVX : Blk V7 gx 26 #[zG c.issuer, zI c.num, zI c.ths, zI c.nxt, zI c.bas, zS pa c.revs.length pc, zG xs] := by
   rw [hV7];have h0 := VX.out;have h1 : Blk _ gx 26 #[zG c.issuer, zI 0, zI 0, zI 0, zI 0, zZ, zG ⟨#[]⟩] := h0.set 0 (zG c.issuer);have h2 : Blk _ gx 26 #[zG c.issuer, zI c.num, zI 0, zI 0, zI 0, zZ, zG ⟨#[]⟩] := h1.set 1 (zI c.num);have h3 : Blk _ gx 26 #[zG c.issuer, zI c.num, zI c.ths, zI 0, zI 0, zZ, zG ⟨#[]⟩] := h2.set 2 (zI c.ths);have h4 : Blk _ gx 26 #[zG c.issuer, zI c.num, zI c.ths, zI c.nxt, zI 0, zZ, zG ⟨#[]⟩] := h3.set 3 (zI c.nxt);have h5 : Blk _ gx 26 #[zG c.issuer, zI c.num, zI c.ths, zI c.nxt, zI c.bas, zZ, zG ⟨#[]⟩] := h4.set 4 (zI c.bas);have h6 : Blk _ gx 26 #[zG c.issuer, zI c.num, zI c.ths, zI c.nxt, zI c.bas, zS pa c.revs.length pc, zG ⟨#[]⟩] := h5.set 5 (zS pa c.revs.length pc);have h7 : Blk _ gx 26 #[zG c.issuer, zI c.num, zI c.ths, zI c.nxt, zI c.bas, zS pa c.revs.length pc, zG xs] := h6.set 6 (zG xs);exact h7
  have hH : Blk V7 w3.heap.size 55 #[zG c.issuer, zI c.num, zI c.ths, zI c.nxt, zI c.bas, zS pa c.revs.length pc] := hHeld.outX hset (by have := O0.out; have := O1.out; have := O2.out; have := O3.out; have := O4.out; have := O5.out; have := O6.out; have := O7.out; have := O8.out; have := O9.out; have := O10.out; have := O11.out; simp <;> omega)
  go_simp;rw [<- hV7];refine hK.out _ _ hH (fun hHeld => ?_);clear hK K hH zf hV7 z0;replace HB := zH (below_out HB.out hset (by have := O0.out; have := O1.out; have := O2.out; have := O3.out; have := O4.out; have := O5.out; have := O6.out; have := O7.out; have := O8.out; have := O9.out; have := O10.out; have := O11.out; omega));replace HO := zH (HO.out.aside hset (by have := O0.out; have := O1.out; have := O2.out; have := O3.out; have := O4.out; have := O5.out; have := O6.out; have := O7.out; have := O8.out; have := O9.out; have := O10.out; have := O11.out; omega));replace VC := zH (VC.out.outX hset (by have := O0.out; have := O1.out; have := O2.out; have := O3.out; have := O4.out; have := O5.out; have := O6.out; have := O7.out; have := O8.out; have := O9.out; have := O10.out; have := O11.out; simp <;> omega))
  replace HX := zH (hset.row (fun b hb => by have := LX.out b hb; have := O0.out; have := O1.out; have := O2.out; have := O3.out; have := O4.out; have := O5.out; have := O6.out; have := O7.out; have := O8.out; have := O9.out; have := O10.out; have := O11.out; simp <;> omega) HX.out)
  replace RW := zH (RW.out.outX hset (by have := O0.out; have := O1.out; have := O2.out; have := O3.out; have := O4.out; have := O5.out; have := O6.out; have := O7.out; have := O8.out; have := O9.out; have := O10.out; have := O11.out; simp <;> omega))
  clear VX;have O12 : Hid (w13.heap.size <= V7.heap.size) := hset.size;have VX : Hid (Blk V7 gx 26 #[zG c.issuer, zI c.num, zI c.ths, zI c.nxt, zI c.bas, zS pa c.revs.length pc, zG xs]) := hVX;clear hset hVX;refine wpAnyH_done (by kernel_rfl) ?_ _;clear hHeld;go_wp2_with fail;obtain ⟨ea, ec, he⟩ := KR5.shape;have hRE : Blk V7 g 137 #[zS ea r5.length ec] := by rw [<- he]; exact RW.out
  refine (end_any V7 g r5.length ec ea r5 rfl hRE).mono ?_;rintro e w9 ⟨hb, ⟨hn, rfl⟩ | ⟨hnil, hn, rfl⟩⟩
  ·have HF : Hid (Out [g] w w9 /\ oB = none) := by
    refine ⟨HO.trans (Out.of_below hb), ?_⟩;rw [<- HP.out];unfold cbP; simp only [N2.out, N3.out, N5.out, hn, Option.bind_some, Option.bind_none]
   clear hn hb;unfold misfit;go_wp2_with fail;exact ⟨rfl, HF.1, .inl ⟨HF.2, rfl⟩⟩
  have N7 : Hid (endP r5 = some ()) := hn;replace HB := zH (HB.trans (hb.mono HB.size));replace HO := zH (HO.trans (Out.of_below hb));replace VC := zH (VC.out.on hb);replace HX := zH ((show OwnR _ _ _ _ from HX.out).stays hb);replace RW := zH (RW.out.on hb);replace VX := zH (VX.out.on hb);have O13 : Hid (V7.heap.size <= w9.heap.size) := hb.size;clear hn hb hnil hRE he;have HF : Hid (oB = some { c with sig := xs }) := by
   show oB = _;rw [<- HP.out];unfold cbP; simp only [N2.out, N3.out, N5.out, N7.out, Option.bind_some, Option.bind_none]
  have a0 := fun j => VX.cell j
  have b0 := fun j => VC.cell j
  have a1 := fun j => VX.cell j
  have b1 := fun j => VC.cell j
  have a2 := fun j => VX.cell j
  have b2 := fun j => VC.cell j
  have a3 := fun j => VX.cell j
  have b3 := fun j => VC.cell j
  have a4 := fun j => VX.cell j
  have b4 := fun j => VC.cell j
  have a5 := fun j => VX.cell j
  have b5 := fun j => VC.cell j
  have a6 := fun j => VX.cell j
  have b6 := fun j => VC.cell j
  have fb := fun j => VC.free j
  have nx : ¬ gx = w.heap.size := by have := O0.out; have := O1.out; have := O2.out; have := O3.out; have := O4.out; have := O5.out; have := O6.out; have := O7.out; have := O8.out; have := O9.out; have := O10.out; have := O11.out; have := O12.out; have := O13.out; omega
  have ny : ¬ w.heap.size = gx := by have := O0.out; have := O1.out; have := O2.out; have := O3.out; have := O4.out; have := O5.out; have := O6.out; have := O7.out; have := O8.out; have := O9.out; have := O10.out; have := O11.out; have := O12.out; have := O13.out; omega
  go_wp2_with fail;generalize hV8 : World.setCell _ { block := w.heap.size, off := 6 } _ = V8;have FIN : Out [w.heap.size] w9 V8 /\ Blk V8 w.heap.size 26 #[zG c.issuer, zI c.num, zI c.ths, zI c.nxt, zI c.bas, zS pa c.revs.length pc, zG xs] := by
   rw [<- hV8];refine ⟨?_, ?_⟩
   ·iterate 7 refine Out.setCell ?_ _ _ (by simp)
    exact Out.refl _ _
   ·have h0 := VC.out
    have h1 : Blk _ w.heap.size 26 #[zG c.issuer, zI 0, zI 0, zI 0, zI 0, zZ, zG ⟨#[]⟩] := h0.set 0 (zG c.issuer);have h2 : Blk _ w.heap.size 26 #[zG c.issuer, zI c.num, zI 0, zI 0, zI 0, zZ, zG ⟨#[]⟩] := h1.set 1 (zI c.num);have h3 : Blk _ w.heap.size 26 #[zG c.issuer, zI c.num, zI c.ths, zI 0, zI 0, zZ, zG ⟨#[]⟩] := h2.set 2 (zI c.ths);have h4 : Blk _ w.heap.size 26 #[zG c.issuer, zI c.num, zI c.ths, zI c.nxt, zI 0, zZ, zG ⟨#[]⟩] := h3.set 3 (zI c.nxt);have h5 : Blk _ w.heap.size 26 #[zG c.issuer, zI c.num, zI c.ths, zI c.nxt, zI c.bas, zZ, zG ⟨#[]⟩] := h4.set 4 (zI c.bas);have h6 : Blk _ w.heap.size 26 #[zG c.issuer, zI c.num, zI c.ths, zI c.nxt, zI c.bas, zS pa c.revs.length pc, zG ⟨#[]⟩] := h5.set 5 (zS pa c.revs.length pc);have h7 : Blk _ w.heap.size 26 #[zG c.issuer, zI c.num, zI c.ths, zI c.nxt, zI c.bas, zS pa c.revs.length pc, zG xs] := h6.set 6 (zG xs);exact h7
  clear hV8 fb nx ny a0 b0 a1 b1 a2 b2 a3 b3 a4 b4 a5 b5 a6 b6;have HE8 : CbPost w0 w g oB (.returned (.agg #[zG c.issuer, zI c.num, zI c.ths, zI c.nxt, zI c.bas, zS pa c.revs.length pc, zG xs])) V8 := by
   refine ⟨HO.out.aside FIN.1 (by have := O0.out; have := O1.out; have := O2.out; have := O3.out; have := O4.out; have := O5.out; have := O6.out; have := O7.out; have := O8.out; have := O9.out; have := O10.out; have := O11.out; have := O12.out; have := O13.out; omega), .inr ⟨{ c with sig := xs }, .agg #[zG c.issuer, zI c.num, zI c.ths, zI c.nxt, zI c.bas, zS pa c.revs.length pc, zG xs], v5, HF.out, rfl, ?_, RW.out.outX FIN.1 (by have := O0.out; have := O1.out; have := O2.out; have := O3.out; have := O4.out; have := O5.out; have := O6.out; have := O7.out; have := O8.out; have := O9.out; have := O10.out; have := O11.out; have := O12.out; have := O13.out; simp <;> omega)⟩⟩
   exact ⟨_, rfl, OwnR.base (FIN.1.row (fun b hb => by have := LX.out b hb; have := O0.out; have := O1.out; have := O2.out; have := O3.out; have := O4.out; have := O5.out; have := O6.out; have := O7.out; have := O8.out; have := O9.out; have := O10.out; have := O11.out; have := O12.out; have := O13.out; simp <;> omega) HX.out) (by have := O0.out; have := O1.out; have := O2.out; have := O3.out; have := O4.out; have := O5.out; have := O6.out; have := O7.out; have := O8.out; have := O9.out; have := O10.out; have := O11.out; have := O12.out; have := O13.out; omega)⟩
  have q0 := fun j => FIN.2.cell j
  refine bodyPost_ret (v := .agg #[zG c.issuer, zI c.num, zI c.ths, zI c.nxt, zI c.bas, zS pa c.revs.length pc, zG xs]) (by simp [results, Tryz.results31, go_sem, q0]) rfl HE8
 go_simp;refine (rbytes_any w0 wd g (n + 3) v2 r2 HB.out KR.1 RW.out (by have := O0.out; have := O1.out; have := O2.out; have := O3.out; have := O4.out; have := O5.out; have := O6.out; have := O7.out; omega) KR.2.1).mono ?_;rintro e w14 ⟨ho, ⟨hn, rfl⟩ | ⟨xs, r5, v5, hn, rfl, hkr, hB⟩⟩
 ·have HF : Hid (Out [g] w w14 /\ oB = none) := by
   refine ⟨HO.trans ho, ?_⟩;rw [<- HP.out];unfold cbP; simp only [N2.out, N3.out, hn, Option.bind_some, Option.bind_none]
  clear hn ho;unfold misfit;go_wp2_with fail;exact ⟨rfl, HF.1, .inl ⟨HF.2, rfl⟩⟩
 have N5 : Hid (txtP 4 r2 = some (xs, r5)) := hn;have hH : Blk w14 w3.heap.size 55 #[zG c.issuer, zI c.num, zI c.ths, zI c.nxt, zI c.bas, zS pa c.revs.length pc] := hHeld.outX ho (by have := O0.out; have := O1.out; have := O2.out; have := O3.out; have := O4.out; have := O5.out; have := O6.out; have := O7.out; simp <;> omega)
 replace HB := zH (below_out HB.out ho (by have := O0.out; have := O1.out; have := O2.out; have := O3.out; have := O4.out; have := O5.out; have := O6.out; have := O7.out; omega));replace HO := zH (HO.trans ho);replace VC := zH (VC.out.outX ho (by have := O0.out; have := O1.out; have := O2.out; have := O3.out; have := O4.out; have := O5.out; have := O6.out; have := O7.out; simp <;> omega))
 replace HX := zH (ho.row (fun b hb => by have := LX.out b hb; have := O0.out; have := O1.out; have := O2.out; have := O3.out; have := O4.out; have := O5.out; have := O6.out; have := O7.out; simp <;> omega) HX.out)
 clear RW;have O8 : Hid (wd.heap.size <= w14.heap.size) := ho.size;have RW : Hid (Blk w14 g 137 #[v5]) := hB;have KR5 : Hid (KcAt w0 (n + 4) v5 r5) := hkr;clear hn ho hkr hB KR;go_wp2_with fail;refine hK.out _ _ hH (fun hHeld => ?_);clear hK K hH;refine wpAnyH_ready (rs := [3, 4]) (by kernel_rfl) (by simp) ?_;refine AllReadyH.cons (o := ⟨some 11, _, _, _, _, _⟩) rfl (fun K hK => ?_) ?_;rotate_left
 ·refine AllReadyH.cons (o := ⟨some 4, _, _, _, _, _⟩) rfl (fun K hK => ?_) AllReadyH.nil
  obtain ⟨W15, hWn⟩ : ∃ V, V = w14.alloc (Obj.cells #[zG ⟨#[]⟩, zI 0, zI 0, zI 0, zI 0, zZ, zG ⟨#[]⟩] 26) := ⟨_, rfl⟩;have hb : zW w14 W15 := by rw [hWn]; exact (Below.refl _ _).alloc (Nat.le_refl _) _
  have hvn : Blk W15 w14.heap.size 26 #[zG ⟨#[]⟩, zI 0, zI 0, zI 0, zI 0, zZ, zG ⟨#[]⟩] := by rw [hWn]; exact Blk.new _ _ _
  have hH : Blk W15 w3.heap.size 55 #[zG c.issuer, zI c.num, zI c.ths, zI c.nxt, zI c.bas, zS pa c.revs.length pc] := hHeld.on hb;replace HB := zH (HB.trans (hb.mono HB.size));replace HO := zH (HO.trans (Out.of_below hb));replace VC := zH (VC.out.on hb);replace HX := zH ((show OwnR _ _ _ _ from HX.out).stays hb);replace RW := zH (RW.out.on hb);have O9 : Hid (w14.heap.size <= W15.heap.size) := hb.size;go_simp;rw [<- hWn];refine hK.out _ _ hH (fun hHeld => ?_);clear hK K hH hb hWn;obtain ⟨gx, hgx⟩ := zE (w14.heap.size);rw [hgx] at hvn |-;have O10 := zH (zJ (hgx : w14.heap.size = gx) hvn.lt);have VX : Hid (Blk W15 gx 26 #[zG ⟨#[]⟩, zI 0, zI 0, zI 0, zI 0, zZ, zG ⟨#[]⟩]) := hvn;clear hvn hgx;refine zR 3 11 rfl fun K hK => ?_
  go_simp;refine (withSig_any c pa c.revs.length pc xs W15).mono ?_;rintro e w16 ⟨rfl, hb⟩;have hH : Blk w16 w3.heap.size 55 #[zG c.issuer, zI c.num, zI c.ths, zI c.nxt, zI c.bas, zS pa c.revs.length pc] := hHeld.on hb;replace HB := zH (HB.trans (hb.mono HB.size));replace HO := zH (HO.trans (Out.of_below hb));replace VC := zH (VC.out.on hb);replace HX := zH ((show OwnR _ _ _ _ from HX.out).stays hb);replace RW := zH (RW.out.on hb);replace VX := zH (VX.out.on hb);have O11 : Hid (W15.heap.size <= w16.heap.size) := hb.size;clear hb;unfold clV;go_wp2_with fail;refine hK.out _ _ hH (fun hHeld => ?_);clear hK K hH;refine zN 5 rfl fun K hK => ?_
  have z0 := fun j => VX.cell j
  have zf := fun j => VX.free j
  obtain ⟨V7, hV7⟩ : ∃ V, V = (((((((w16.setCell ⟨gx, 0, none⟩ (zG c.issuer)).setCell ⟨gx, 1, none⟩ (zI c.num)).setCell ⟨gx, 2, none⟩ (zI c.ths)).setCell ⟨gx, 3, none⟩ (zI c.nxt)).setCell ⟨gx, 4, none⟩ (zI c.bas)).setCell ⟨gx, 5, none⟩ (zS pa c.revs.length pc)).setCell ⟨gx, 6, none⟩ (zG xs)) := ⟨_, rfl⟩;have hset : Out [gx] w16 V7 := by
   rw [hV7]
   iterate 7 refine Out.setCell ?_ _ _ (by simp)
   exact Out.refl _ _
  have hVX : Blk V7 gx 26 #[zG c.issuer, zI c.num, zI c.ths, zI c.nxt, zI c.bas, zS pa c.revs.length pc, zG xs] := by
   rw [hV7];have h0 := VX.out;have h1 : Blk _ gx 26 #[zG c.issuer, zI 0, zI 0, zI 0, zI 0, zZ, zG ⟨#[]⟩] := h0.set 0 (zG c.issuer);have h2 : Blk _ gx 26 #[zG c.issuer, zI c.num, zI 0, zI 0, zI 0, zZ, zG ⟨#[]⟩] := h1.set 1 (zI c.num);have h3 : Blk _ gx 26 #[zG c.issuer, zI c.num, zI c.ths, zI 0, zI 0, zZ, zG ⟨#[]⟩] := h2.set 2 (zI c.ths);have h4 : Blk _ gx 26 #[zG c.issuer, zI c.num, zI c.ths, zI c.nxt, zI 0, zZ, zG ⟨#[]⟩] := h3.set 3 (zI c.nxt);have h5 : Blk _ gx 26 #[zG c.issuer, zI c.num, zI c.ths, zI c.nxt, zI c.bas, zZ, zG ⟨#[]⟩] := h4.set 4 (zI c.bas);have h6 : Blk _ gx 26 #[zG c.issuer, zI c.num, zI c.ths, zI c.nxt, zI c.bas, zS pa c.revs.length pc, zG ⟨#[]⟩] := h5.set 5 (zS pa c.revs.length pc);have h7 : Blk _ gx 26 #[zG c.issuer, zI c.num, zI c.ths, zI c.nxt, zI c.bas, zS pa c.revs.length pc, zG xs] := h6.set 6 (zG xs);exact h7
  have hH : Blk V7 w3.heap.size 55 #[zG c.issuer, zI c.num, zI c.ths, zI c.nxt, zI c.bas, zS pa c.revs.length pc] := hHeld.outX hset (by have := O0.out; have := O1.out; have := O2.out; have := O3.out; have := O4.out; have := O5.out; have := O6.out; have := O7.out; have := O8.out; have := O9.out; have := O10.out; have := O11.out; simp <;> omega)
  go_simp;rw [<- hV7];refine hK.out _ _ hH (fun hHeld => ?_);clear hK K hH zf hV7 z0;replace HB := zH (below_out HB.out hset (by have := O0.out; have := O1.out; have := O2.out; have := O3.out; have := O4.out; have := O5.out; have := O6.out; have := O7.out; have := O8.out; have := O9.out; have := O10.out; have := O11.out; omega));replace HO := zH (HO.out.aside hset (by have := O0.out; have := O1.out; have := O2.out; have := O3.out; have := O4.out; have := O5.out; have := O6.out; have := O7.out; have := O8.out; have := O9.out; have := O10.out; have := O11.out; omega));replace VC := zH (VC.out.outX hset (by have := O0.out; have := O1.out; have := O2.out; have := O3.out; have := O4.out; have := O5.out; have := O6.out; have := O7.out; have := O8.out; have := O9.out; have := O10.out; have := O11.out; simp <;> omega))
  replace HX := zH (hset.row (fun b hb => by have := LX.out b hb; have := O0.out; have := O1.out; have := O2.out; have := O3.out; have := O4.out; have := O5.out; have := O6.out; have := O7.out; have := O8.out; have := O9.out; have := O10.out; have := O11.out; simp <;> omega) HX.out)
  replace RW := zH (RW.out.outX hset (by have := O0.out; have := O1.out; have := O2.out; have := O3.out; have := O4.out; have := O5.out; have := O6.out; have := O7.out; have := O8.out; have := O9.out; have := O10.out; have := O11.out; simp <;> omega))
  clear VX;have O12 : Hid (w16.heap.size <= V7.heap.size) := hset.size;have VX : Hid (Blk V7 gx 26 #[zG c.issuer, zI c.num, zI c.ths, zI c.nxt, zI c.bas, zS pa c.revs.length pc, zG xs]) := hVX;clear hset hVX;refine wpAnyH_done (by kernel_rfl) ?_ _;clear hHeld;go_wp2_with fail;obtain ⟨ea, ec, he⟩ := KR5.shape;have hRE : Blk V7 g 137 #[zS ea r5.length ec] := by rw [<- he]; exact RW.out
  refine (end_any V7 g r5.length ec ea r5 rfl hRE).mono ?_;rintro e w9 ⟨hb, ⟨hn, rfl⟩ | ⟨hnil, hn, rfl⟩⟩
  ·have HF : Hid (Out [g] w w9 /\ oB = none) := by
    refine ⟨HO.trans (Out.of_below hb), ?_⟩;rw [<- HP.out];unfold cbP; simp only [N2.out, N3.out, N5.out, hn, Option.bind_some, Option.bind_none]
   clear hn hb;unfold misfit;go_wp2_with fail;exact ⟨rfl, HF.1, .inl ⟨HF.2, rfl⟩⟩
  have N7 : Hid (endP r5 = some ()) := hn;replace HB := zH (HB.trans (hb.mono HB.size));replace HO := zH (HO.trans (Out.of_below hb));replace VC := zH (VC.out.on hb);replace HX := zH ((show OwnR _ _ _ _ from HX.out).stays hb);replace RW := zH (RW.out.on hb);replace VX := zH (VX.out.on hb);have O13 : Hid (V7.heap.size <= w9.heap.size) := hb.size;clear hn hb hnil hRE he;have HF : Hid (oB = some { c with sig := xs }) := by
   show oB = _;rw [<- HP.out];unfold cbP; simp only [N2.out, N3.out, N5.out, N7.out, Option.bind_some, Option.bind_none]
  have a0 := fun j => VX.cell j
  have b0 := fun j => VC.cell j
  have a1 := fun j => VX.cell j
  have b1 := fun j => VC.cell j
  have a2 := fun j => VX.cell j
  have b2 := fun j => VC.cell j
  have a3 := fun j => VX.cell j
  have b3 := fun j => VC.cell j
  have a4 := fun j => VX.cell j
  have b4 := fun j => VC.cell j
  have a5 := fun j => VX.cell j
  have b5 := fun j => VC.cell j
  have a6 := fun j => VX.cell j
  have b6 := fun j => VC.cell j
  have fb := fun j => VC.free j
  have nx : ¬ gx = w.heap.size := by have := O0.out; have := O1.out; have := O2.out; have := O3.out; have := O4.out; have := O5.out; have := O6.out; have := O7.out; have := O8.out; have := O9.out; have := O10.out; have := O11.out; have := O12.out; have := O13.out; omega
  have ny : ¬ w.heap.size = gx := by have := O0.out; have := O1.out; have := O2.out; have := O3.out; have := O4.out; have := O5.out; have := O6.out; have := O7.out; have := O8.out; have := O9.out; have := O10.out; have := O11.out; have := O12.out; have := O13.out; omega
  go_wp2_with fail;generalize hV8 : World.setCell _ { block := w.heap.size, off := 6 } _ = V8;have FIN : Out [w.heap.size] w9 V8 /\ Blk V8 w.heap.size 26 #[zG c.issuer, zI c.num, zI c.ths, zI c.nxt, zI c.bas, zS pa c.revs.length pc, zG xs] := by
   rw [<- hV8];refine ⟨?_, ?_⟩
   ·iterate 7 refine Out.setCell ?_ _ _ (by simp)
    exact Out.refl _ _
   ·have h0 := VC.out
    have h1 : Blk _ w.heap.size 26 #[zG c.issuer, zI 0, zI 0, zI 0, zI 0, zZ, zG ⟨#[]⟩] := h0.set 0 (zG c.issuer);have h2 : Blk _ w.heap.size 26 #[zG c.issuer, zI c.num, zI 0, zI 0, zI 0, zZ, zG ⟨#[]⟩] := h1.set 1 (zI c.num);have h3 : Blk _ w.heap.size 26 #[zG c.issuer, zI c.num, zI c.ths, zI 0, zI 0, zZ, zG ⟨#[]⟩] := h2.set 2 (zI c.ths);have h4 : Blk _ w.heap.size 26 #[zG c.issuer, zI c.num, zI c.ths, zI c.nxt, zI 0, zZ, zG ⟨#[]⟩] := h3.set 3 (zI c.nxt);have h5 : Blk _ w.heap.size 26 #[zG c.issuer, zI c.num, zI c.ths, zI c.nxt, zI c.bas, zZ, zG ⟨#[]⟩] := h4.set 4 (zI c.bas);have h6 : Blk _ w.heap.size 26 #[zG c.issuer, zI c.num, zI c.ths, zI c.nxt, zI c.bas, zS pa c.revs.length pc, zG ⟨#[]⟩] := h5.set 5 (zS pa c.revs.length pc);have h7 : Blk _ w.heap.size 26 #[zG c.issuer, zI c.num, zI c.ths, zI c.nxt, zI c.bas, zS pa c.revs.length pc, zG xs] := h6.set 6 (zG xs);exact h7
  clear hV8 fb nx ny a0 b0 a1 b1 a2 b2 a3 b3 a4 b4 a5 b5 a6 b6;have HE8 : CbPost w0 w g oB (.returned (.agg #[zG c.issuer, zI c.num, zI c.ths, zI c.nxt, zI c.bas, zS pa c.revs.length pc, zG xs])) V8 := by
   refine ⟨HO.out.aside FIN.1 (by have := O0.out; have := O1.out; have := O2.out; have := O3.out; have := O4.out; have := O5.out; have := O6.out; have := O7.out; have := O8.out; have := O9.out; have := O10.out; have := O11.out; have := O12.out; have := O13.out; omega), .inr ⟨{ c with sig := xs }, .agg #[zG c.issuer, zI c.num, zI c.ths, zI c.nxt, zI c.bas, zS pa c.revs.length pc, zG xs], v5, HF.out, rfl, ?_, RW.out.outX FIN.1 (by have := O0.out; have := O1.out; have := O2.out; have := O3.out; have := O4.out; have := O5.out; have := O6.out; have := O7.out; have := O8.out; have := O9.out; have := O10.out; have := O11.out; have := O12.out; have := O13.out; simp <;> omega)⟩⟩
   exact ⟨_, rfl, OwnR.base (FIN.1.row (fun b hb => by have := LX.out b hb; have := O0.out; have := O1.out; have := O2.out; have := O3.out; have := O4.out; have := O5.out; have := O6.out; have := O7.out; have := O8.out; have := O9.out; have := O10.out; have := O11.out; have := O12.out; have := O13.out; simp <;> omega) HX.out) (by have := O0.out; have := O1.out; have := O2.out; have := O3.out; have := O4.out; have := O5.out; have := O6.out; have := O7.out; have := O8.out; have := O9.out; have := O10.out; have := O11.out; have := O12.out; have := O13.out; omega)⟩
  have q0 := fun j => FIN.2.cell j
  refine bodyPost_ret (v := .agg #[zG c.issuer, zI c.num, zI c.ths, zI c.nxt, zI c.bas, zS pa c.revs.length pc, zG xs]) (by simp [results, Tryz.results31, go_sem, q0]) rfl HE8
 go_simp;refine (withSig_any c pa c.revs.length pc xs w14).mono ?_;rintro e w17 ⟨rfl, hb⟩;have hH : Blk w17 w3.heap.size 55 #[zG c.issuer, zI c.num, zI c.ths, zI c.nxt, zI c.bas, zS pa c.revs.length pc] := hHeld.on hb;replace HB := zH (HB.trans (hb.mono HB.size));replace HO := zH (HO.trans (Out.of_below hb));replace VC := zH (VC.out.on hb);replace HX := zH ((show OwnR _ _ _ _ from HX.out).stays hb);replace RW := zH (RW.out.on hb);have O9 : Hid (w14.heap.size <= w17.heap.size) := hb.size;clear hb;unfold clV;go_wp2_with fail;refine hK.out _ _ hH (fun hHeld => ?_);clear hK K hH;refine zR 4 4 rfl fun K hK => ?_
 obtain ⟨W18, hWn⟩ : ∃ V, V = w17.alloc (Obj.cells #[zG ⟨#[]⟩, zI 0, zI 0, zI 0, zI 0, zZ, zG ⟨#[]⟩] 26) := ⟨_, rfl⟩;have hb : zW w17 W18 := by rw [hWn]; exact (Below.refl _ _).alloc (Nat.le_refl _) _
 have hvn : Blk W18 w17.heap.size 26 #[zG ⟨#[]⟩, zI 0, zI 0, zI 0, zI 0, zZ, zG ⟨#[]⟩] := by rw [hWn]; exact Blk.new _ _ _
 have hH : Blk W18 w3.heap.size 55 #[zG c.issuer, zI c.num, zI c.ths, zI c.nxt, zI c.bas, zS pa c.revs.length pc] := hHeld.on hb;replace HB := zH (HB.trans (hb.mono HB.size));replace HO := zH (HO.trans (Out.of_below hb));replace VC := zH (VC.out.on hb);replace HX := zH ((show OwnR _ _ _ _ from HX.out).stays hb);replace RW := zH (RW.out.on hb);have O10 : Hid (w17.heap.size <= W18.heap.size) := hb.size;go_simp;rw [<- hWn];refine hK.out _ _ hH (fun hHeld => ?_);clear hK K hH hb hWn;obtain ⟨gx, hgx⟩ := zE (w17.heap.size);rw [hgx] at hvn |-;have O11 := zH (zJ (hgx : w17.heap.size = gx) hvn.lt);have VX : Hid (Blk W18 gx 26 #[zG ⟨#[]⟩, zI 0, zI 0, zI 0, zI 0, zZ, zG ⟨#[]⟩]) := hvn;clear hvn hgx;refine zN 5 rfl fun K hK => ?_
 have z0 := fun j => VX.cell j
 have zf := fun j => VX.free j
 obtain ⟨V7, hV7⟩ : ∃ V, V = (((((((W18.setCell ⟨gx, 0, none⟩ (zG c.issuer)).setCell ⟨gx, 1, none⟩ (zI c.num)).setCell ⟨gx, 2, none⟩ (zI c.ths)).setCell ⟨gx, 3, none⟩ (zI c.nxt)).setCell ⟨gx, 4, none⟩ (zI c.bas)).setCell ⟨gx, 5, none⟩ (zS pa c.revs.length pc)).setCell ⟨gx, 6, none⟩ (zG xs)) := ⟨_, rfl⟩;have hset : Out [gx] W18 V7 := by
  rw [hV7]
  iterate 7 refine Out.setCell ?_ _ _ (by simp)
  exact Out.refl _ _
 have hVX : Blk V7 gx 26 #[zG c.issuer, zI c.num, zI c.ths, zI c.nxt, zI c.bas, zS pa c.revs.length pc, zG xs] := by
  rw [hV7];have h0 := VX.out;have h1 : Blk _ gx 26 #[zG c.issuer, zI 0, zI 0, zI 0, zI 0, zZ, zG ⟨#[]⟩] := h0.set 0 (zG c.issuer);have h2 : Blk _ gx 26 #[zG c.issuer, zI c.num, zI 0, zI 0, zI 0, zZ, zG ⟨#[]⟩] := h1.set 1 (zI c.num);have h3 : Blk _ gx 26 #[zG c.issuer, zI c.num, zI c.ths, zI 0, zI 0, zZ, zG ⟨#[]⟩] := h2.set 2 (zI c.ths);have h4 : Blk _ gx 26 #[zG c.issuer, zI c.num, zI c.ths, zI c.nxt, zI 0, zZ, zG ⟨#[]⟩] := h3.set 3 (zI c.nxt);have h5 : Blk _ gx 26 #[zG c.issuer, zI c.num, zI c.ths, zI c.nxt, zI c.bas, zZ, zG ⟨#[]⟩] := h4.set 4 (zI c.bas);have h6 : Blk _ gx 26 #[zG c.issuer, zI c.num, zI c.ths, zI c.nxt, zI c.bas, zS pa c.revs.length pc, zG ⟨#[]⟩] := h5.set 5 (zS pa c.revs.length pc);have h7 : Blk _ gx 26 #[zG c.issuer, zI c.num, zI c.ths, zI c.nxt, zI c.bas, zS pa c.revs.length pc, zG xs] := h6.set 6 (zG xs);exact h7
 have hH : Blk V7 w3.heap.size 55 #[zG c.issuer, zI c.num, zI c.ths, zI c.nxt, zI c.bas, zS pa c.revs.length pc] := hHeld.outX hset (by have := O0.out; have := O1.out; have := O2.out; have := O3.out; have := O4.out; have := O5.out; have := O6.out; have := O7.out; have := O8.out; have := O9.out; have := O10.out; have := O11.out; simp <;> omega)
 go_simp;rw [<- hV7];refine hK.out _ _ hH (fun hHeld => ?_);clear hK K hH zf hV7 z0;replace HB := zH (below_out HB.out hset (by have := O0.out; have := O1.out; have := O2.out; have := O3.out; have := O4.out; have := O5.out; have := O6.out; have := O7.out; have := O8.out; have := O9.out; have := O10.out; have := O11.out; omega));replace HO := zH (HO.out.aside hset (by have := O0.out; have := O1.out; have := O2.out; have := O3.out; have := O4.out; have := O5.out; have := O6.out; have := O7.out; have := O8.out; have := O9.out; have := O10.out; have := O11.out; omega));replace VC := zH (VC.out.outX hset (by have := O0.out; have := O1.out; have := O2.out; have := O3.out; have := O4.out; have := O5.out; have := O6.out; have := O7.out; have := O8.out; have := O9.out; have := O10.out; have := O11.out; simp <;> omega))
 replace HX := zH (hset.row (fun b hb => by have := LX.out b hb; have := O0.out; have := O1.out; have := O2.out; have := O3.out; have := O4.out; have := O5.out; have := O6.out; have := O7.out; have := O8.out; have := O9.out; have := O10.out; have := O11.out; simp <;> omega) HX.out)
 replace RW := zH (RW.out.outX hset (by have := O0.out; have := O1.out; have := O2.out; have := O3.out; have := O4.out; have := O5.out; have := O6.out; have := O7.out; have := O8.out; have := O9.out; have := O10.out; have := O11.out; simp <;> omega))
 clear VX;have O12 : Hid (W18.heap.size <= V7.heap.size) := hset.size;have VX : Hid (Blk V7 gx 26 #[zG c.issuer, zI c.num, zI c.ths, zI c.nxt, zI c.bas, zS pa c.revs.length pc, zG xs]) := hVX;clear hset hVX;refine wpAnyH_done (by kernel_rfl) ?_ _;clear hHeld;go_wp2_with fail;obtain ⟨ea, ec, he⟩ := KR5.shape;have hRE : Blk V7 g 137 #[zS ea r5.length ec] := by rw [<- he]; exact RW.out
 refine (end_any V7 g r5.length ec ea r5 rfl hRE).mono ?_;rintro e w9 ⟨hb, ⟨hn, rfl⟩ | ⟨hnil, hn, rfl⟩⟩
 ·have HF : Hid (Out [g] w w9 /\ oB = none) := by
   refine ⟨HO.trans (Out.of_below hb), ?_⟩;rw [<- HP.out];unfold cbP; simp only [N2.out, N3.out, N5.out, hn, Option.bind_some, Option.bind_none]
  clear hn hb;unfold misfit;go_wp2_with fail;exact ⟨rfl, HF.1, .inl ⟨HF.2, rfl⟩⟩
 have N7 : Hid (endP r5 = some ()) := hn;replace HB := zH (HB.trans (hb.mono HB.size));replace HO := zH (HO.trans (Out.of_below hb));replace VC := zH (VC.out.on hb);replace HX := zH ((show OwnR _ _ _ _ from HX.out).stays hb);replace RW := zH (RW.out.on hb);replace VX := zH (VX.out.on hb);have O13 : Hid (V7.heap.size <= w9.heap.size) := hb.size;clear hn hb hnil hRE he;have HF : Hid (oB = some { c with sig := xs }) := by
  show oB = _;rw [<- HP.out];unfold cbP; simp only [N2.out, N3.out, N5.out, N7.out, Option.bind_some, Option.bind_none]
 have a0 := fun j => VX.cell j
 have b0 := fun j => VC.cell j
 have a1 := fun j => VX.cell j
 have b1 := fun j => VC.cell j
 have a2 := fun j => VX.cell j
 have b2 := fun j => VC.cell j
 have a3 := fun j => VX.cell j
 have b3 := fun j => VC.cell j
 have a4 := fun j => VX.cell j
 have b4 := fun j => VC.cell j
 have a5 := fun j => VX.cell j
 have b5 := fun j => VC.cell j
 have a6 := fun j => VX.cell j
 have b6 := fun j => VC.cell j
 have fb := fun j => VC.free j
 have nx : ¬ gx = w.heap.size := by have := O0.out; have := O1.out; have := O2.out; have := O3.out; have := O4.out; have := O5.out; have := O6.out; have := O7.out; have := O8.out; have := O9.out; have := O10.out; have := O11.out; have := O12.out; have := O13.out; omega
 have ny : ¬ w.heap.size = gx := by have := O0.out; have := O1.out; have := O2.out; have := O3.out; have := O4.out; have := O5.out; have := O6.out; have := O7.out; have := O8.out; have := O9.out; have := O10.out; have := O11.out; have := O12.out; have := O13.out; omega
 go_wp2_with fail;generalize hV8 : World.setCell _ { block := w.heap.size, off := 6 } _ = V8;have FIN : Out [w.heap.size] w9 V8 /\ Blk V8 w.heap.size 26 #[zG c.issuer, zI c.num, zI c.ths, zI c.nxt, zI c.bas, zS pa c.revs.length pc, zG xs] := by
  rw [<- hV8];refine ⟨?_, ?_⟩
  ·iterate 7 refine Out.setCell ?_ _ _ (by simp)
   exact Out.refl _ _
  ·have h0 := VC.out
   have h1 : Blk _ w.heap.size 26 #[zG c.issuer, zI 0, zI 0, zI 0, zI 0, zZ, zG ⟨#[]⟩] := h0.set 0 (zG c.issuer);have h2 : Blk _ w.heap.size 26 #[zG c.issuer, zI c.num, zI 0, zI 0, zI 0, zZ, zG ⟨#[]⟩] := h1.set 1 (zI c.num);have h3 : Blk _ w.heap.size 26 #[zG c.issuer, zI c.num, zI c.ths, zI 0, zI 0, zZ, zG ⟨#[]⟩] := h2.set 2 (zI c.ths);have h4 : Blk _ w.heap.size 26 #[zG c.issuer, zI c.num, zI c.ths, zI c.nxt, zI 0, zZ, zG ⟨#[]⟩] := h3.set 3 (zI c.nxt);have h5 : Blk _ w.heap.size 26 #[zG c.issuer, zI c.num, zI c.ths, zI c.nxt, zI c.bas, zZ, zG ⟨#[]⟩] := h4.set 4 (zI c.bas);have h6 : Blk _ w.heap.size 26 #[zG c.issuer, zI c.num, zI c.ths, zI c.nxt, zI c.bas, zS pa c.revs.length pc, zG ⟨#[]⟩] := h5.set 5 (zS pa c.revs.length pc);have h7 : Blk _ w.heap.size 26 #[zG c.issuer, zI c.num, zI c.ths, zI c.nxt, zI c.bas, zS pa c.revs.length pc, zG xs] := h6.set 6 (zG xs);exact h7
 clear hV8 fb nx ny a0 b0 a1 b1 a2 b2 a3 b3 a4 b4 a5 b5 a6 b6;have HE8 : CbPost w0 w g oB (.returned (.agg #[zG c.issuer, zI c.num, zI c.ths, zI c.nxt, zI c.bas, zS pa c.revs.length pc, zG xs])) V8 := by
  refine ⟨HO.out.aside FIN.1 (by have := O0.out; have := O1.out; have := O2.out; have := O3.out; have := O4.out; have := O5.out; have := O6.out; have := O7.out; have := O8.out; have := O9.out; have := O10.out; have := O11.out; have := O12.out; have := O13.out; omega), .inr ⟨{ c with sig := xs }, .agg #[zG c.issuer, zI c.num, zI c.ths, zI c.nxt, zI c.bas, zS pa c.revs.length pc, zG xs], v5, HF.out, rfl, ?_, RW.out.outX FIN.1 (by have := O0.out; have := O1.out; have := O2.out; have := O3.out; have := O4.out; have := O5.out; have := O6.out; have := O7.out; have := O8.out; have := O9.out; have := O10.out; have := O11.out; have := O12.out; have := O13.out; simp <;> omega)⟩⟩
  exact ⟨_, rfl, OwnR.base (FIN.1.row (fun b hb => by have := LX.out b hb; have := O0.out; have := O1.out; have := O2.out; have := O3.out; have := O4.out; have := O5.out; have := O6.out; have := O7.out; have := O8.out; have := O9.out; have := O10.out; have := O11.out; have := O12.out; have := O13.out; simp <;> omega) HX.out) (by have := O0.out; have := O1.out; have := O2.out; have := O3.out; have := O4.out; have := O5.out; have := O6.out; have := O7.out; have := O8.out; have := O9.out; have := O10.out; have := O11.out; have := O12.out; have := O13.out; omega)⟩
 have q0 := fun j => FIN.2.cell j
 refine bodyPost_ret (v := .agg #[zG c.issuer, zI c.num, zI c.ths, zI c.nxt, zI c.bas, zS pa c.revs.length pc, zG xs]) (by simp [results, Tryz.results31, go_sem, q0]) rfl HE8
end Go.Proofs.YtcbjlbpkoneibaaGreatDoor
namespace Go.Proofs.YtcbjlbpkoneibaaGreatDoor
open Go.RowKit Der
def szAt (t : List UInt8) (p : Nat) : Option (Nat × Nat) := sizeL (t.drop p)
def szV (t : List UInt8) (p : Nat) : Value := match szAt t p with
 | none => .tuple #[.int .i64 0, .int .i64 0, .bool false]
 | some (z, c) => .tuple #[.int .i64 (z : Int), .int .i64 ((p + c : Nat) : Int), .bool true]
theorem szV_none {t : List UInt8} {p : Nat} (h : szAt t p = none) : szV t p = .tuple #[zI 0, zI 0, .bool false] := by unfold szV; rw [h]
theorem szV_some {t : List UInt8} {p z c : Nat} (h : szAt t p = some (z, c)) : szV t p = .tuple #[zI (z : Int), zI ((p + c : Nat) : Int), .bool true] := by unfold szV; rw [h]
theorem size_any (t : List UInt8) (p : Nat) (w : World) (ht : t.length <= 20000000) (hp : p <= 20000001) : Calls Tryz.prog 117 #[zG ⟨t.toArray⟩, zI (p : Int)] w fun e w' => e = .returned (szV t p) /\ w' = w := by
 have hssz : (⟨t.toArray⟩ : ByteArray).size = t.length := by show t.toArray.size = _; simp
 by_cases hlt : p < t.length
 ·have hlti : ¬ (t.length : Int) <= (p : Int) := by omega
  have hlti2 : (p : Int) < (t.length : Int) := by omega
  have hp0 : (0 : Int) <= (p : Int) := by omega
  obtain ⟨b, hbk⟩ := zE (t[p]);have hgk : ∀ h, (⟨t.toArray⟩ : ByteArray)[p]'h = b := fun h => by rw [<- hbk]; rfl
  have hdr : t.drop p = b :: t.drop (p + 1) := by rw [<- hbk]; exact List.drop_eq_getElem_cons hlt
  have hbl := b.toNat_lt;have w3' : IntKind.i64.wrap (b.toNat : Int) = (b.toNat : Int) := by rw [IntKind.wrap_i64]; omega
  by_cases h128 : b.toNat < 128
  ·have h128i : (b.toNat : Int) < 128 := by omega
   have w4 : IntKind.i64.wrap ((p : Int) + 1) = ((p + 1 : Nat) : Int) := by rw [IntKind.wrap_i64]; omega
   have HR : Hid (szV t p = .tuple #[zI (b.toNat : Int), zI ((p + 1 : Nat) : Int), .bool true]) := szV_some (by unfold szAt; rw [hdr]; simp [sizeL, h128]);go_enter Tryz.func117, Tryz.ntmps117;go_wp2_with fail
   go_ret3
   exact ⟨by rw [HR.out]; rfl, rfl⟩
  ·have h128i : ¬ (b.toNat : Int) < 128 := by omega
   obtain ⟨k, hk⟩ : ∃ k : Nat, b.toNat - 128 = k := ⟨_, rfl⟩;have w5 : IntKind.i64.wrap ((b.toNat : Int) - 128) = (k : Int) := by rw [IntKind.wrap_i64]; omega
   have hki : (b.toNat : Int) - 128 = (k : Int) := by omega
   have hrl : (t.drop (p + 1)).length = t.length - p - 1 := by rw [List.length_drop]; omega
   by_cases hk12 : 1 <= k /\ k <= 2
   ·have w6 : IntKind.i64.wrap ((t.length : Int) - (p : Int)) = (t.length : Int) - (p : Int) := by rw [IntKind.wrap_i64]; omega
    have w7 : IntKind.i64.wrap ((t.length : Int) - (p : Int) - 1) = (t.length : Int) - (p : Int) - 1 := by rw [IntKind.wrap_i64]; omega
    by_cases hfit : k <= t.length - p - 1
    ·have hfi : ¬ (t.length : Int) - (p : Int) - 1 < (k : Int) := by omega
     have HR0 : Hid (szAt t p = some (((t.drop (p + 1)).take k).foldl (fun a c => 256 * a + c.toNat) 0, 1 + k)) := by
      show szAt t p = _;unfold szAt;rw [hdr];unfold sizeL;simp only;rw [if_neg h128, hk, if_pos ⟨hk12.1, hk12.2, by rw [hrl]; exact hfit⟩]
     go_enter Tryz.func117, Tryz.ntmps117;go_wp2_with fail;refine (in_yes (k : Int) 1 2 _ (by omega) (by omega)).mono ?_;rintro e w' ⟨rfl, rfl⟩;go_wp2_with fail
     go_loopw [9, 10] (fun sv iv wr => ∃ (i q : Nat), i <= k /\ sv = zI (q : Int) /\ iv = zI (i : Int) /\ q < 65536 /\ wr = w /\ Hid (q = valB8 ((t.drop (p + 1)).take i))) (fun _ iv _ => k - (intOf iv).toNat)
     case atStart => exact ⟨0, 0, Nat.zero_le _, rfl, rfl, by omega, rfl, rfl⟩
     case round =>
      obtain ⟨i, q, hi, rfl, rfl, hq, rfl, HQ⟩ := hrel;by_cases hik : i < k
      ·have hiki : (i : Int) < (k : Int) := by omega
       have hd1 : i < (t.drop (p + 1)).length := by rw [hrl]; omega
       obtain ⟨z, hz⟩ : ∃ z, z = p + 1 + i := ⟨_, rfl⟩;have hzl : z < t.length := by omega
       obtain ⟨c, hc⟩ := zE (t[z]);have hgc : ∀ h, (⟨t.toArray⟩ : ByteArray)[z]'h = c := fun h => by rw [<- hc]; rfl
       have hdc : (t.drop (p + 1))[i] = c := by rw [List.getElem_drop, <- hc]; congr 1; exact hz.symm
       have hcl := c.toNat_lt;have hvt := valB8_take hd1;rw [hdc, <- HQ.out] at hvt;have hv := valB8_lt (i + 1) ((t.drop (p + 1)).take (i + 1)) (by rw [List.length_take]; omega);have hpw : (256 : Nat) ^ (i + 1) <= 256 ^ 2 := Nat.pow_le_pow_right (by decide) (by omega);rw [hvt] at hv;have hq2 : 256 * q + c.toNat < 65536 := by
        have : (256 : Nat) ^ 2 = 65536 := by decide
        omega
       have HV : Hid (256 * q + c.toNat = valB8 ((t.drop (p + 1)).take (i + 1))) := hvt.symm;have v1 : IntKind.i64.wrap ((p : Int) + 1) = (p : Int) + 1 := by rw [IntKind.wrap_i64]; omega
       have v2 : IntKind.i64.wrap ((p : Int) + 1 + (i : Int)) = (z : Int) := by rw [IntKind.wrap_i64]; omega
       have v3 : IntKind.i64.wrap (c.toNat : Int) = (c.toNat : Int) := by rw [IntKind.wrap_i64]; omega
       have v4 : (z : Int) < (t.length : Int) := by omega
       have v5 : (0 : Int) <= (z : Int) := by omega
       have v6 : (p : Int) + 1 + (i : Int) = (z : Int) := by omega
       clear hc hdc hvt hv hpw HQ hz;go_wp2_with fail
       go_roundw
       case rel => exact ⟨i + 1, 256 * q + c.toNat, by omega, by go_num, by go_num, hq2, by trivial, HV.out⟩
       case measure => simp [intOf]; omega
      ·have hiki : ¬ (i : Int) < (k : Int) := by omega
       have hie : i = k := by omega
       subst hie;have HR : Hid (szV t p = .tuple #[zI (q : Int), zI ((p + (1 + i) : Nat) : Int), .bool true]) := szV_some (by rw [HR0.out, HQ.out]; rfl);have v1 : IntKind.i64.wrap ((p : Int) + 1) = (p : Int) + 1 := by rw [IntKind.wrap_i64]; omega
       have v2 : IntKind.i64.wrap ((p : Int) + 1 + (i : Int)) = ((p + (1 + i) : Nat) : Int) := by rw [IntKind.wrap_i64]; omega
       obtain ⟨z, hz⟩ : ∃ z : Nat, p + (1 + i) = z := ⟨_, rfl⟩;rw [hz] at HR v2;have v6 : (p : Int) + 1 + (i : Int) = (z : Int) := by omega
       clear hz;go_wp2_with fail
       go_ret3
       exact ⟨by rw [HR.out]; rfl, rfl⟩
    ·have hfi : (t.length : Int) - (p : Int) - 1 < (k : Int) := by omega
     have HR : Hid (szV t p = .tuple #[zI 0, zI 0, .bool false]) := szV_none (by
      unfold szAt;rw [hdr];unfold sizeL;simp only;rw [if_neg h128, hk, if_neg (fun h => hfit (by rw [hrl] at h; exact h.2.2))])
     go_enter Tryz.func117, Tryz.ntmps117;go_wp2_with fail;refine (in_yes (k : Int) 1 2 _ (by omega) (by omega)).mono ?_;rintro e w' ⟨rfl, rfl⟩;go_wp2_with fail
     go_ret3
     exact ⟨by rw [HR.out]; rfl, rfl⟩
   ·have HR : Hid (szV t p = .tuple #[zI 0, zI 0, .bool false]) := szV_none (by
     unfold szAt;rw [hdr];unfold sizeL;simp only;rw [if_neg h128, hk, if_neg (fun h => hk12 ⟨h.1, h.2.1⟩)])
    go_enter Tryz.func117, Tryz.ntmps117;go_wp2_with fail;refine (in_no (k : Int) 1 2 _ (by omega)).mono ?_;rintro e w' ⟨rfl, rfl⟩;go_wp2_with fail
    go_ret3
    exact ⟨by rw [HR.out]; rfl, rfl⟩
 ·have hlti : (t.length : Int) <= (p : Int) := by omega
  have HR : Hid (szV t p = .tuple #[zI 0, zI 0, .bool false]) := szV_none (by unfold szAt; rw [List.drop_of_length_le (by omega)]; rfl);go_enter Tryz.func117, Tryz.ntmps117;go_wp2_with fail
  go_ret3
  exact ⟨by rw [HR.out]; rfl, rfl⟩
theorem own_nil (w : World) (base : Nat) : ∀ n, OwnK w base n zZ [] []
 | 0 => ⟨⟨none, 0, rfl⟩, rfl⟩
 | _ + 1 => ⟨none, 0, rfl, fun _ => rfl, fun h => absurd h (Nat.lt_irrefl _)⟩
end Go.Proofs.YtcbjlbpkoneibaaGreatDoor
