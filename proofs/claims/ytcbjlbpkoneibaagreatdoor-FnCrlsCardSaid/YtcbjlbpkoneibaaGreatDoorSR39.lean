/-
  Texts of the proof.
-/
import Derived.Recover
import Derived.Deep.AppendLies
import Derived.Test.YtcbjlbpkoneibaaGreatDoorSR38
set_option linter.unusedVariables false
set_option linter.unusedSimpArgs false
set_option maxRecDepth 100000
set_option maxHeartbeats 25600000
namespace Go.Proofs.YtcbjlbpkoneibaaGreatDoor
open Go.RowKit Der
theorem crlP_whole {m : Nat} (x : It (m + 5)) : crlP x = if It.tag x = 48 then cbP (It.kids x) else none := rfl
theorem set7 {V0 : World} {p : Nat} {ta : TypeId} {a0 a1 a2 a3 a4 a5 a6 z0 z1 z2 z3 z4 z5 z6 : Value} (h : Blk V0 p ta #[a0, a1, a2, a3, a4, a5, a6]) : Blk (((((((V0.setCell ⟨p, 0, none⟩ z0).setCell ⟨p, 1, none⟩ z1).setCell ⟨p, 2, none⟩ z2).setCell ⟨p, 3, none⟩ z3).setCell ⟨p, 4, none⟩ z4).setCell ⟨p, 5, none⟩ z5).setCell ⟨p, 6, none⟩ z6) p ta #[z0, z1, z2, z3, z4, z5, z6] := by
 have g0 : Blk _ p ta #[z0, a1, a2, a3, a4, a5, a6] := h.set 0 z0;have g1 : Blk _ p ta #[z0, z1, a2, a3, a4, a5, a6] := g0.set 1 z1;have g2 : Blk _ p ta #[z0, z1, z2, a3, a4, a5, a6] := g1.set 2 z2;have g3 : Blk _ p ta #[z0, z1, z2, z3, a4, a5, a6] := g2.set 3 z3;have g4 : Blk _ p ta #[z0, z1, z2, z3, z4, a5, a6] := g3.set 4 z4;have g5 : Blk _ p ta #[z0, z1, z2, z3, z4, z5, a6] := g4.set 5 z5;have g6 : Blk _ p ta #[z0, z1, z2, z3, z4, z5, z6] := g5.set 6 z6;exact g6
theorem taL_misfit (w : World) : (Instr.typeAssert (.iface 99 (.agg #[])) 20 99 true).run Tryz.prog w = .ok (.tuple #[.agg #[], .bool true]) w := by kernel_rfl
theorem catchL_idle (p q : Addr) (w : World) :
  CallsD Tryz.prog 66 #[.pointer (some p), .pointer (some q)] .returning w fun e u' w' => e = .returned (.tuple #[]) /\ u' = .returning /\ w' = w := by
 refine callsD_of_wpS Tryz.func66 rfl fun c₀ cs hu => ?_
 apply wpS_seq;apply wpS_region;simp [wpOpsS, go_sem, recoverD, hu, Tryz.ntmps66, Exit.thenS];change Code.wpS _ _ _ { tmps := #[.pointer (some p), .pointer (some q), undef, undef, undef, undef, .nilIface, undef, undef, undef, undef, undef, undef], defers := [] } _ _;refine wpS_of_wp ?_;go_wp2_with fail
 cases c₀
 simp_all [bodyPostS, results, Tryz.results66]
theorem catchL_misfit (p q : Nat) (a0 a1 a2 a3 a4 a5 a6 : Value) (b : Value) (ta tb : TypeId) (older : List PanicEntry) (w : World) (hp : Blk w p ta #[a0, a1, a2, a3, a4, a5, a6]) (hq : Blk w q tb #[b]) (hne : p ≠ q) :
  CallsD Tryz.prog 66 #[.pointer (some ⟨p, 0, none⟩), .pointer (some ⟨q, 0, none⟩)] (.panicking ({ v := .iface 99 (.agg #[]), recovered := false } :: older)) w fun e u' w' =>
   e = .returned (.tuple #[]) /\ u' = .panicking ({ v := .iface 99 (.agg #[]), recovered := true } :: older) /\ Out [p, q] w w' /\ Blk w' p ta #[zG ⟨#[]⟩, zI 0, zI 0, zI 0, zI 0, zZ, zG ⟨#[]⟩] /\ Blk w' q tb #[.bool false] := by
 refine callsD_of_wpS Tryz.func66 rfl fun c₀ cs hu => ?_
 apply wpS_seq;apply wpS_region;simp [wpOpsS, go_sem, recoverD, hu, Tryz.ntmps66, Exit.thenS];change Code.wpS _ _ _ { tmps := #[.pointer (some ⟨p, 0, none⟩), .pointer (some ⟨q, 0, none⟩), undef, undef, undef, undef, .iface 99 (.agg #[]), undef, undef, undef, undef, undef, undef], defers := [] } _ _;refine wpS_of_wp ?_;have HPQ : Hid (Blk w p ta #[a0, a1, a2, a3, a4, a5, a6] /\ Blk w q tb #[b] /\ p ≠ q) := ⟨hp, hq, hne⟩;clear hp hq hne;have d0 := fun j => fun o o2 => ((HPQ.1.alloc o).alloc o2).cell j
 have dz : ∀ o o2 j, ((w.alloc o).alloc o2).frozen? ⟨p, j, none⟩ = false := fun o o2 j => ((HPQ.1.alloc o).alloc o2).free j
 have e0 := fun j => fun o o2 => ((HPQ.2.1.alloc o).alloc o2).cell j
 have ez : ∀ o o2, ((w.alloc o).alloc o2).frozen? ⟨q, 0, none⟩ = false := fun o o2 => ((HPQ.2.1.alloc o).alloc o2).free 0
 have n1 : ¬ p = q := HPQ.2.2;have n2 : ¬ q = p := fun e => HPQ.2.2 e.symm
 have TA := taL_misfit;go_wp2_with fail;generalize hV : World.setCell _ { block := q, off := 0 } (Value.bool false) = V;have FIN : Out [p, q] w V /\ Blk V p ta #[zG ⟨#[]⟩, zI 0, zI 0, zI 0, zI 0, zZ, zG ⟨#[]⟩] /\ Blk V q tb #[.bool false] := by
  rw [<- hV];refine ⟨?_, ?_, ?_⟩
  ·iterate 8 refine Out.setCell ?_ _ _ (by simp)
   exact ((Out.refl _ _).alloc _).alloc _
  ·refine Blk.other ?_ _ n1
   exact set7 ((HPQ.1.alloc _).alloc _)
  ·refine Blk.set (vs := #[b]) ?_ 0 _
   iterate 7 refine Blk.other ?_ _ n2
   exact (HPQ.2.1.alloc _).alloc _
 clear hV
 cases c₀
 simp_all [bodyPostS, results, Tryz.results66]
def RwlPost (w : World) (m : Nat) (T : ByteArray) (e : Ending) (W' : World) : Prop := zW w W' /\
 (((readG (m + 4 + 1) T.data.toList).bind (crlP (m := m)) = none /\ e = .returned (.tuple #[.agg #[zG ⟨#[]⟩, zI 0, zI 0, zI 0, zI 0, zZ, zG ⟨#[]⟩], .bool false])) ∨ ∃ (x : It (m + 5)) (c : Cl) (u : Value), readG (m + 4 + 1) T.data.toList = some x /\ szI (m + 5) x <= 4000 /\ crlP x = some c /\ e = .returned (.tuple #[u, .bool true]) /\ OwnL W' w.heap.size u c)
theorem readWholeL_any (m : Nat) (hm : 4000 <= m + 4) (T : ByteArray) (w : World) (hT : T.size <= 1000000000000) :
  Calls Tryz.prog 30 #[zG T, .func (.func 31) #[] #[]] w fun e W' => RwlPost w m T e W' := by
 have hmf : ∀ (fn : Fn) (first cap : Array Value) (w : World), (Instr.makeFunc fn first cap).run Tryz.prog w = .ok (.func fn first cap) w := fun _ _ _ _ => rfl
 obtain ⟨W1, hW1⟩ : ∃ V, V = (w.alloc (Obj.cells #[zG ⟨#[]⟩, zI 0, zI 0, zI 0, zI 0, zZ, zG ⟨#[]⟩] 26)).alloc (Obj.cells #[.bool false] 4) := ⟨_, rfl⟩;have E1 := implRead_any (m + 4) hm T W1 hT
 go_enter_defers Tryz.func30, Tryz.ntmps30
 go_wp2_with fail;rw [<- hW1];have e0 : (w.alloc (Obj.cells #[zG ⟨#[]⟩, zI 0, zI 0, zI 0, zI 0, zZ, zG ⟨#[]⟩] 26)).heap.size = w.heap.size + 1 := Array.size_push _;have hb1 : zW w W1 := by rw [hW1]; exact ((Below.refl _ _).alloc (Nat.le_refl _) _).alloc (by rw [e0]; omega) _
 have hv1 : Blk W1 w.heap.size 26 #[zG ⟨#[]⟩, zI 0, zI 0, zI 0, zI 0, zZ, zG ⟨#[]⟩] := by rw [hW1]; exact (Blk.new w _ _).alloc _
 have hv2 : Blk W1 (w.heap.size + 1) 4 #[.bool false] := by
  rw [hW1];have h := Blk.new (w.alloc (Obj.cells #[zG ⟨#[]⟩, zI 0, zI 0, zI 0, zI 0, zZ, zG ⟨#[]⟩] 26)) 4 #[.bool false];rw [e0] at h;exact h
 have hs1 : W1.heap.size = w.heap.size + 2 := by rw [hW1, size_alloc, e0]
 have HB : Hid (zW w W1) := hb1;have VC : Hid (Blk W1 w.heap.size 26 #[zG ⟨#[]⟩, zI 0, zI 0, zI 0, zI 0, zZ, zG ⟨#[]⟩]) := hv1;have VK : Hid (Blk W1 (w.heap.size + 1) 4 #[.bool false]) := hv2;have O0 : Hid (W1.heap.size = w.heap.size + 2) := hs1;clear hW1 e0 hb1 hv1 hv2 hs1;refine E1.mono ?_;rintro e w2 ⟨hb2, ⟨hn, rfl⟩ | ⟨x, t, s, ax, l, cx, fp, hx, rfl, hsz, ht, hs, hown⟩⟩;clear E1
 ·have HNN : Hid (readG (m + 4 + 1) T.data.toList = none) := hn
  clear hn;replace HB := zH (HB.trans (hb2.mono HB.size));replace VC := zH (VC.out.on hb2);replace VK := zH (VK.out.on hb2);have O1 : Hid (W1.heap.size <= w2.heap.size) := hb2.size;clear hb2;go_wp2_with fail;obtain ⟨W3, hW3⟩ : ∃ V, V = w2.alloc (Obj.cells #[zI 0, zG ⟨#[]⟩, zZ] 50) := ⟨_, rfl⟩;rw [<- hW3];have hb3 : zW w2 W3 := by rw [hW3]; exact (Below.refl _ _).alloc (Nat.le_refl _) _
  replace HB := zH (HB.trans (hb3.mono HB.size));replace VC := zH (VC.out.on hb3);replace VK := zH (VK.out.on hb3);have O2 : Hid (w2.heap.size <= W3.heap.size) := hb3.size;clear hW3 hb3;refine (mustFit_no W3).mono ?_;rintro e w4 ⟨rfl, hw4⟩;subst hw4;have VCn : Blk W3 w.heap.size 26 #[zG ⟨#[]⟩, zI 0, zI 0, zI 0, zI 0, zZ, zG ⟨#[]⟩] := VC.out;have VKn : Blk W3 (w.heap.size + 1) 4 #[.bool false] := VK.out;have HBn : zW w W3 := HB.out;have HF : Hid ((readG (m + 4 + 1) T.data.toList).bind (crlP (m := m)) = none) := by
   show _ = none;rw [HNN.out]; rfl
  have EC := catchL_misfit w.heap.size (w.heap.size + 1) (zG ⟨#[]⟩) (zI 0) (zI 0) (zI 0) (zI 0) zZ (zG ⟨#[]⟩) (.bool false) 26 4 [] W3 VCn VKn (by omega);have HE := zH (zJ (HBn : zW w W3) HBn.size);clear VCn VKn HBn VC VK HB;unfold misfit;go_wp2_with fail;refine leaves_cons (f := 66) (args := #[.pointer (some ⟨w.heap.size, 0, none⟩), .pointer (some ⟨w.heap.size + 1, 0, none⟩)]) (by simp) (by simp [go_sem]) ?_;refine EC.mono ?_;rintro e u' W9 ⟨rfl, rfl, ho9, hC9, hK9⟩;have HE9 : Hid (RwlPost w m T (.returned (.tuple #[.agg #[zG ⟨#[]⟩, zI 0, zI 0, zI 0, zI 0, zZ, zG ⟨#[]⟩], .bool false])) W9) := ⟨HE.1.trans (ho9.below (fun b hb => by simp at hb; rcases hb with rfl | rfl <;> omega) HE.2), .inl ⟨HF.out, rfl⟩⟩
  have q0 := fun j => hC9.cell j
  have q7 := fun j => hK9.cell j
  clear EC ho9 hC9 hK9 HE;have HE8 := HE9.out;clear HE9;generalize hL : RwlPost w m T = LP at HE8 |-;simp [Leaves, settle, results, Tryz.results30, go_sem, q0, q7];exact HE8
 ·have HX : Hid (readG (m + 4 + 1) T.data.toList = some x /\ szI (m + 5) x <= 4000 /\ It.tag x = t) := ⟨hx, hsz, ht⟩
  have hkc : KcAt w2 (m + 4) (zS ax l cx) (It.kids x) := KcAt.of hown;clear hx ht hs hown;replace HB := zH (HB.trans (hb2.mono HB.size));replace VC := zH (VC.out.on hb2);replace VK := zH (VK.out.on hb2);have O1 : Hid (W1.heap.size <= w2.heap.size) := hb2.size;clear hb2;go_wp2_with fail;obtain ⟨W3, hW3⟩ : ∃ V, V = w2.alloc (Obj.cells #[zI t, zG s, zS ax l cx] 50) := ⟨_, rfl⟩;rw [<- hW3];have hb3 : zW w2 W3 := by rw [hW3]; exact (Below.refl _ _).alloc (Nat.le_refl _) _
  have hv3 : Blk W3 w2.heap.size 50 #[zI t, zG s, zS ax l cx] := by rw [hW3]; exact Blk.new _ _ _
  have KW := zH (zJ (hkc.below hb3) (SzL.kids (show SzL [x] from ⟨by simp, fun y hy => by rw [List.mem_singleton.1 hy]; exact Nat.le_trans hsz (by decide)⟩) : SzL (It.kids x)));replace HB := zH (HB.trans (hb3.mono HB.size));replace VC := zH (VC.out.on hb3);replace VK := zH (VK.out.on hb3);have O2 : Hid (w2.heap.size <= W3.heap.size) := hb3.size;have O3 : Hid (w2.heap.size < W3.heap.size) := hv3.lt;clear hW3 hb3 hkc hsz;refine (mustFit_yes W3).mono ?_;rintro e w4 ⟨rfl, hw4⟩;subst hw4;have i0 := fun j => hv3.cell j
  go_wp2_with fail;clear i0 hv3;refine (readerOf_any t s ax l cx W3).mono ?_;rintro e w5 ⟨hb, ⟨hn, rfl⟩ | ⟨hn, gw, hgw, rfl, hBw⟩⟩
  ·skip
   have VCn : Blk w5 w.heap.size 26 #[zG ⟨#[]⟩, zI 0, zI 0, zI 0, zI 0, zZ, zG ⟨#[]⟩] := VC.out.on hb;have VKn : Blk w5 (w.heap.size + 1) 4 #[.bool false] := VK.out.on hb;have HBn : zW w w5 := HB.trans (hb.mono HB.size);have HF : Hid ((readG (m + 4 + 1) T.data.toList).bind (crlP (m := m)) = none) := by
    show _ = none;rw [HX.1]; show crlP x = none; rw [crlP_whole, if_neg (by rw [HX.2.2]; exact hn)]
   have EC := catchL_misfit w.heap.size (w.heap.size + 1) (zG ⟨#[]⟩) (zI 0) (zI 0) (zI 0) (zI 0) zZ (zG ⟨#[]⟩) (.bool false) 26 4 [] w5 VCn VKn (by omega);have HE := zH (zJ (HBn : zW w w5) HBn.size);clear VCn VKn HBn hn hb;unfold misfit;go_wp2_with fail;refine leaves_cons (f := 66) (args := #[.pointer (some ⟨w.heap.size, 0, none⟩), .pointer (some ⟨w.heap.size + 1, 0, none⟩)]) (by simp) (by simp [go_sem]) ?_;refine EC.mono ?_;rintro e u' W9 ⟨rfl, rfl, ho9, hC9, hK9⟩;have HE9 : Hid (RwlPost w m T (.returned (.tuple #[.agg #[zG ⟨#[]⟩, zI 0, zI 0, zI 0, zI 0, zZ, zG ⟨#[]⟩], .bool false])) W9) := ⟨HE.1.trans (ho9.below (fun b hb => by simp at hb; rcases hb with rfl | rfl <;> omega) HE.2), .inl ⟨HF.out, rfl⟩⟩
   have q0 := fun j => hC9.cell j
   have q7 := fun j => hK9.cell j
   clear EC ho9 hC9 hK9 HE;have HE8 := HE9.out;clear HE9;generalize hL : RwlPost w m T = LP at HE8 |-;simp [Leaves, settle, results, Tryz.results30, go_sem, q0, q7];exact HE8
  have NT : Hid (It.tag x = 48) := by show It.tag x = 48; rw [HX.2.2]; exact hn
  have HB3 : Hid (zW W3 w5) := hb;replace HB := zH (HB.trans (hb.mono HB.size));replace VC := zH (VC.out.on hb);replace VK := zH (VK.out.on hb);have O4 : Hid (W3.heap.size <= w5.heap.size) := hb.size;have O5 := zH (zJ (hgw : W3.heap.size <= gw) hBw.lt);have RW : Hid (Blk w5 gw 137 #[zS ax l cx]) := hBw;clear hn hb hgw hBw;go_wp2_with fail;refine (calledBack_any W3 w5 gw m (zS ax l cx) (It.kids x) HB3.out KW.1 RW.out (by have := O0.out; have := O1.out; have := O2.out; have := O3.out; have := O4.out; have := O5.out; omega) KW.2).mono ?_;rintro e w6 ⟨ho, ⟨hn, rfl⟩ | ⟨c, u6, v6, hn, rfl, hown, hB⟩⟩
  ·skip
   have VCn : Blk w6 w.heap.size 26 #[zG ⟨#[]⟩, zI 0, zI 0, zI 0, zI 0, zZ, zG ⟨#[]⟩] := VC.out.outX ho (by have := O0.out; have := O1.out; have := O2.out; have := O3.out; have := O4.out; have := O5.out; simp <;> omega)
   have VKn : Blk w6 (w.heap.size + 1) 4 #[.bool false] := VK.out.outX ho (by have := O0.out; have := O1.out; have := O2.out; have := O3.out; have := O4.out; have := O5.out; simp <;> omega)
   have HBn : zW w w6 := below_out HB.out ho (by have := O0.out; have := O1.out; have := O2.out; have := O3.out; have := O4.out; have := O5.out; omega);have HF : Hid ((readG (m + 4 + 1) T.data.toList).bind (crlP (m := m)) = none) := by
    show _ = none;rw [HX.1]; show crlP x = none; rw [crlP_whole, if_pos NT.out]; exact hn
   have EC := catchL_misfit w.heap.size (w.heap.size + 1) (zG ⟨#[]⟩) (zI 0) (zI 0) (zI 0) (zI 0) zZ (zG ⟨#[]⟩) (.bool false) 26 4 [] w6 VCn VKn (by omega);have HE := zH (zJ (HBn : zW w w6) HBn.size);clear VCn VKn HBn hn ho;unfold misfit;go_wp2_with fail;refine leaves_cons (f := 66) (args := #[.pointer (some ⟨w.heap.size, 0, none⟩), .pointer (some ⟨w.heap.size + 1, 0, none⟩)]) (by simp) (by simp [go_sem]) ?_;refine EC.mono ?_;rintro e u' W9 ⟨rfl, rfl, ho9, hC9, hK9⟩;have HE9 : Hid (RwlPost w m T (.returned (.tuple #[.agg #[zG ⟨#[]⟩, zI 0, zI 0, zI 0, zI 0, zZ, zG ⟨#[]⟩], .bool false])) W9) := ⟨HE.1.trans (ho9.below (fun b hb => by simp at hb; rcases hb with rfl | rfl <;> omega) HE.2), .inl ⟨HF.out, rfl⟩⟩
   have q0 := fun j => hC9.cell j
   have q7 := fun j => hK9.cell j
   clear EC ho9 hC9 hK9 HE;have HE8 := HE9.out;clear HE9;generalize hL : RwlPost w m T = LP at HE8 |-;simp [Leaves, settle, results, Tryz.results30, go_sem, q0, q7];exact HE8
  have HL : Hid (crlP x = some c) := by show crlP x = _; rw [crlP_whole, if_pos NT.out]; exact hn
  replace HB := zH (below_out HB.out ho (by have := O0.out; have := O1.out; have := O2.out; have := O3.out; have := O4.out; have := O5.out; omega));replace VC := zH (VC.out.outX ho (by have := O0.out; have := O1.out; have := O2.out; have := O3.out; have := O4.out; have := O5.out; simp <;> omega))
  replace VK := zH (VK.out.outX ho (by have := O0.out; have := O1.out; have := O2.out; have := O3.out; have := O4.out; have := O5.out; simp <;> omega))
  have O6 : Hid (w5.heap.size <= w6.heap.size) := ho.size;obtain ⟨pX, qX, hu⟩ := ClAt.shape hown.at
  subst hu;unfold clV at hown |-;have LX : Hid (∀ b ∈ fpL (.agg (zCl c (zS pX c.revs.length qX))), w5.heap.size <= b /\ b < w6.heap.size) := fpL_lt hown;have HX6 : Hid (OwnL w6 w5.heap.size (.agg (zCl c (zS pX c.revs.length qX))) c) := hown;clear hn ho hown hB RW KW HB3;have c10 := fun j => VC.cell j
  have f1 := fun j => VC.free j
  have k1 := fun j => VK.cell j
  have k2 := fun j => VK.free j
  have n1 : ¬ w.heap.size = w.heap.size + 1 := by omega
  have n2 : ¬ w.heap.size + 1 = w.heap.size := by omega
  go_wp2_with fail;clear f1 k1 k2 n1 n2 c10;generalize hV8 : World.setCell _ { block := w.heap.size + 1, off := 0 } (Value.bool true) = V8;have FIN : Out [w.heap.size, w.heap.size + 1] w6 V8 /\ Blk V8 w.heap.size 26 (zCl c (zS pX c.revs.length qX)) /\ Blk V8 (w.heap.size + 1) 4 #[.bool true] := by
   rw [<- hV8];refine ⟨?_, ?_, ?_⟩
   ·iterate 8 refine Out.setCell ?_ _ _ (by simp)
    exact Out.refl _ _
   ·refine Blk.other ?_ _ (by show w.heap.size ≠ w.heap.size + 1; omega)
    exact set7 VC.out
   ·refine Blk.set (vs := #[.bool false]) ?_ 0 _
    iterate 7 refine Blk.other ?_ _ (by show w.heap.size + 1 ≠ w.heap.size; omega)
    exact VK.out
  clear hV8;have HE8 : RwlPost w m T (.returned (.tuple #[.agg (zCl c (zS pX c.revs.length qX)), .bool true])) V8 := by
   refine ⟨HB.trans (FIN.1.below (fun b hb => by simp at hb; rcases hb with rfl | rfl <;> omega) HB.size), .inr ⟨x, c, .agg (zCl c (zS pX c.revs.length qX)), HX.1, HX.2.1, HL.out, rfl, ?_⟩⟩
   exact (HX6.out.out FIN.1 (fun b hb => by have := LX.out b hb; have := O0.out; have := O1.out; have := O2.out; have := O3.out; have := O4.out; have := O5.out; have := O6.out; simp <;> omega)).base (by have := O0.out; have := O1.out; have := O2.out; have := O3.out; have := O4.out; have := O5.out; have := O6.out; omega)
  have q0 := fun j => FIN.2.1.cell j
  have q7 := fun j => FIN.2.2.cell j
  clear FIN HX6 LX;refine leaves_cons (f := 66) (args := #[.pointer (some ⟨w.heap.size, 0, none⟩), .pointer (some ⟨w.heap.size + 1, 0, none⟩)]) (by simp) (by simp [go_sem]) ?_;refine (catchL_idle ⟨w.heap.size, 0, none⟩ ⟨w.heap.size + 1, 0, none⟩ _).mono ?_;rintro e u' W9 ⟨rfl, rfl, rfl⟩;generalize hL : RwlPost w m T = LP at HE8 |-;simp [Leaves, settle, results, Tryz.results30, go_sem, q0, q7];exact HE8
theorem step_store7 {ops : Array Oper} {rest : List Oper} {op : Oper} {a : Act} {w : World} {Q : Exit -> Act -> World -> Prop} {x y : Operand} (b : Nat) {t : TypeId} {a0 a1 a2 a3 a4 a5 a6 : Value} (s0 : ByteArray) (i1 i2 i3 i4 : Int) (p5 : Option Addr) (l5 c5 : Nat) (s6 : ByteArray)
  (h : Blk w b t #[a0, a1, a2, a3, a4, a5, a6]) (hgd : op.guard = none) (hds : op.dst = none) (ho : op.op = .store 26 x y) (hx : a.eval x = .pointer (some ⟨b, 0, none⟩)) (hy : a.eval y = .agg #[zG s0, zI i1, zI i2, zI i3, zI i4, zS p5 l5 c5, zG s6])
  (hk : ∀ W, Out [b] w W -> Blk W b t #[zG s0, zI i1, zI i2, zI i3, zI i4, zS p5 l5 c5, zG s6] -> wpList Tryz.prog ops Q rest a W) : wpList Tryz.prog ops Q (op :: rest) a w :=
 wpList_plain hgd fun _ hK => by
  have k0 := fun j => h.cell j
  have fz := fun j => h.free j
  unfold Oper.wp execOp;simp only [ho, hx, hy];simp [go_sem, k0, fz];generalize hV : World.setCell _ { block := b, off := 6 } (Value.string s6) = V;have ho1 : Out [b] w V := by
   rw [<- hV]
   iterate 7 refine Out.setCell ?_ _ _ (by simp)
   exact Out.refl _ _
  have hB1 : Blk V b t #[zG s0, zI i1, zI i2, zI i3, zI i4, zS p5 l5 c5, zG s6] := by rw [<- hV]; exact set7 h
  rw [hds];exact hK _ _ (hk V ho1 hB1)
theorem step_buildL {ops : Array Oper} {rest : List Oper} {op : Oper} {a : Act} {w : World} {Q : Exit -> Act -> World -> Prop} (hgd : op.guard = none) (ho : op.op = .build 26 #[]) (hk : wpList Tryz.prog ops Q rest (a.put op.dst (.agg #[zG ⟨#[]⟩, zI 0, zI 0, zI 0, zI 0, zZ, zG ⟨#[]⟩])) w) : wpList Tryz.prog ops Q (op :: rest) a w :=
 wpList_plain hgd fun _ hK => by
  unfold Oper.wp execOp;simp only [ho];simp [go_sem];exact hK _ _ hk
theorem step_load7 {ops : Array Oper} {rest : List Oper} {op : Oper} {a : Act} {w : World} {Q : Exit -> Act -> World -> Prop} {x : Operand} (b : Nat) {t : TypeId} (s0 : ByteArray) (i1 i2 i3 i4 : Int) (p5 : Option Addr) (l5 c5 : Nat) (s6 : ByteArray)
  (h : Blk w b t #[zG s0, zI i1, zI i2, zI i3, zI i4, zS p5 l5 c5, zG s6]) (hgd : op.guard = none) (ho : op.op = .load 26 x) (hx : a.eval x = .pointer (some ⟨b, 0, none⟩)) (hk : wpList Tryz.prog ops Q rest (a.put op.dst (.agg #[zG s0, zI i1, zI i2, zI i3, zI i4, zS p5 l5 c5, zG s6])) w) : wpList Tryz.prog ops Q (op :: rest) a w :=
 wpList_plain hgd fun _ hK => by
  have k0 := fun j => h.cell j
  unfold Oper.wp execOp;simp only [ho, hx];simp [go_sem, k0];exact hK _ _ hk
theorem OwnS.one {w : World} {base g n cap : Nat} {l : List Cl} {fp : List Nat} (h : OwnS crlKd w base (zS (some ⟨g, 0, none⟩) n cap) l fp) (hn : n = l.length) {j : Nat} (hj : j < l.length) :
  ∃ pa pc, OwnL w base (clV (l.getD j zeL) (zS pa (l.getD j zeL).revs.length pc)) (l.getD j zeL) /\ ∀ i x, (clV (l.getD j zeL) (zS pa (l.getD j zeL).revs.length pc)).cells[i]? = some x -> w.cell? ⟨g, j * 7 + i, none⟩ = some x := by
 obtain ⟨⟨u, hu, -, hc⟩, -⟩ := h.cells hn hj;have e : l[j] = l.getD j zeL := by rw [List.getD_eq_getElem?_getD, List.getElem?_eq_getElem hj]; rfl
 rw [e] at hu;obtain ⟨p, q, hv⟩ := hu.at.shape;subst hv;exact ⟨p, q, hu, hc⟩
theorem OwnS.row {α : Type} {k : Kd α} {w : World} {base : Nat} {v : Value} {l : List α} {fp : List Nat} (h : OwnS k w base v l fp) : ∃ ao cap, v = zS ao l.length cap /\ (0 < l.length -> ∃ g, ao = some ⟨g, 0, none⟩ /\ g < w.heap.size) := by
 have hlt := h.lt;obtain ⟨ao, cap, hv, hg, -, -⟩ := h.shape;refine ⟨ao, cap, hv, fun hp => ?_⟩;obtain ⟨g, hg⟩ := hg hp;obtain ⟨vs, hl, hr, he, hf, hn⟩ := h;exact ⟨g, hg, (hlt g (by rw [hf, hv, hg]; simp [Value.ownBlock])).2⟩
end Go.Proofs.YtcbjlbpkoneibaaGreatDoor
namespace Go.Proofs.YtcbjlbpkoneibaaGreatDoor
open Go.RowKit Der
theorem news_crl (w : World) (c : Cl) (p : Value) : ∀ j u, (clV c p).cells.toList[j]? = some u -> (w.alloc (.cells (zCl c p) 26)).cell? ((⟨w.heap.size, 0, none⟩ : Addr).add j) = some u := by
 intro j u hj;rw [Addr.add_lit, Nat.zero_add, World.cell?_alloc_mark w _ 26 _ j];simpa [clV, Value.cells] using hj
theorem wpList_append_crl {w : World} {ops : Array Oper} {rest : List Oper} {o : Oper} {a : Act} {Q : Exit -> Act -> World -> Prop} (hgd : o.guard = none) (p q : Operand) (ho : o.op = .call { callee := .builtin .append, args := #[p, q], argTypes := #[35, 35] })
  (base : Nat) (v : Value) (l : List Cl) (fp : List Nat) (c : Cl) (pv : Value) (hp : a.eval p = v) (H : Nat) (hq : a.eval q = zS (some ⟨H, 0, none⟩) 1 1) (hH : w.heap.size = H) (hO : OwnS crlKd w base v l fp) (hu : OwnL w base (clV c pv) c) (hd : ∀ b ∈ fpL (clV c pv), b ∉ fp) (hbase : base <= w.heap.size) (hl : l.length <= 100000000)
  (h : ∀ g cap w' fp', OwnS crlKd w' base (zS (some ⟨g, 0, none⟩) (l ++ [c]).length cap) (l ++ [c]) fp' -> Below base w w' -> wpList Tryz.prog ops Q rest (a.put o.dst (zS (some ⟨g, 0, none⟩) (l.length + 1) cap)) w') :
  wpList Tryz.prog ops Q (o :: rest) a (w.alloc (.cells (zCl c pv) 26)) := by
 subst hH;have hlt := hO.lt;obtain ⟨vs, hvl, hro, he, rfl, hn⟩ := hO;obtain ⟨i0, hi, hz0, hz1, hz2⟩ := info_parts infoCrl;have hb1 : zW w (w.alloc (.cells (zCl c pv) 26)) := (Below.refl _ _).alloc (Nat.le_refl _) _;have hsz := size_alloc w (.cells (zCl c pv) 26);refine wpList_append_lies _ hgd p q 35 ho base 26 i0 (.agg #[zG ⟨#[]⟩, zI 0, zI 0, zI 0, zI 0, zZ, zG ⟨#[]⟩]) 7 88 Tryz.underlying35 hi hz0 hz1 hz2 rfl (by decide) v l.length (cellsV vs) hp (own_kept hro hb1) ⟨w.heap.size, 0, none⟩ 1 1 (clV c pv).cells.toList hq rfl (news_crl w c pv) (crlKd.size (OwnL.stays hu hb1)).2 (by decide) (by unfold maxLen; omega) (by omega) (by omega) _ rfl ?_;intro g cap w' hown hgrow hg hlt2;obtain ⟨fp', hS, -⟩ := OwnS.snoc (k := crlKd) (fp := []) (c := c) (u := clV c pv) hvl (own_kept hro hb1) (fun j a b => crlKd.same (he j a b) fun y hy => hb1.block y (crlKd.lt (he j a b) y hy).2) hn (OwnL.stays hu hb1) hd hown hgrow hg;refine h g cap w' fp' hS ((hb1.mono hbase).grown hgrow (by rw [hsz]; omega) (fun b hb => (hlt b (List.mem_append_left _ (Option.mem_toList.2 hb))).1))
end Go.Proofs.YtcbjlbpkoneibaaGreatDoor
