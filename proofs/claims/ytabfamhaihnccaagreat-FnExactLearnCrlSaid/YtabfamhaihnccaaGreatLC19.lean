/-
  Texts of the proof.
-/
import Derived.Deep.RegionLaw
import Derived.Test.YtabfamhaihnccaaGreatLC18
set_option linter.unusedVariables false
set_option linter.unusedSimpArgs false
set_option maxRecDepth 100000
set_option maxHeartbeats 25600000
namespace Go.Proofs.YtabfamhaihnccaaGreat
open Go.RowKit
def KW (w W : World) (P Q : Array Value) : Prop := zW w W /\ Blk W w.heap.size 37 P /\ Blk W (w.heap.size + 1) 37 #[zZ, zZ, zZ] /\ Blk W (w.heap.size + 1 + 1) 37 Q /\ w.heap.size + 1 + 1 + 1 <= W.heap.size
theorem KW.below {w W W' : World} {P Q : Array Value} (h : KW w W P Q) (hb : zW W W') : KW w W' P Q := ⟨h.1.trans (hb.mono h.1.size), h.2.1.below hb h.2.1.lt, h.2.2.1.below hb h.2.2.1.lt, h.2.2.2.1.below hb h.2.2.2.1.lt, Nat.le_trans h.2.2.2.2 hb.size⟩
theorem KW.grown {w W W' : World} {P Q : Array Value} {row : Option Nat} (h : KW w W P Q) (hg : W.grownBy W' row) (hr : ∀ q, q < w.heap.size + 1 + 1 + 1 -> row ≠ some q) : KW w W' P Q :=
 ⟨h.1.grown hg h.1.size (fun q e => Nat.le_of_not_lt fun h2 => hr q (by omega) e), (hg.block _ h.2.1.lt (fun e => hr _ (by omega) e.symm)).trans h.2.1, (hg.block _ h.2.2.1.lt (fun e => hr _ (by omega) e.symm)).trans h.2.2.1, (hg.block _ h.2.2.2.1.lt (fun e => hr _ (by omega) e.symm)).trans h.2.2.2.1, Nat.le_trans h.2.2.2.2 hg.size⟩
theorem KW.set {w W : World} {P : Array Value} {x y z : Value} (h : KW w W P #[x, y, z]) (i : Nat) (v : Value) : KW w (W.setCell ⟨w.heap.size + 1 + 1, i, none⟩ v) P (#[x, y, z].setIfInBounds i v) :=
 ⟨Below.setCell h.1 (by show w.heap.size <= w.heap.size + 1 + 1; omega) _, h.2.1.other _ (by show w.heap.size ≠ w.heap.size + 1 + 1; omega), h.2.2.1.other _ (by show w.heap.size + 1 ≠ w.heap.size + 1 + 1; omega), h.2.2.2.1.set i v, Nat.le_trans h.2.2.2.2 (sizeSet _ _ _)⟩
theorem ownStore_any (s : So) (p q r : Value) (w : World) (hl : s.certs.length <= 2000000 /\ s.crls.length <= 2000000 /\ s.ancs.length <= 2000000) (hw : (∀ c ∈ s.certs, wtC c <= 1048576) /\ (∀ c ∈ s.crls, wtL c <= 1048576) /\ ∀ a ∈ s.ancs, wtA a <= 1048576) (h1 : ShS certKd w p s.certs) (h2 : ShS crlKd w q s.crls) (h3 : ShS anKd w r s.ancs) :
  Calls Tryz.prog 147 #[.agg #[p, q, r]] w fun e w' => ∃ u fp, e = .returned u /\ OwnO w' w.heap.size u s fp /\ zW w w' := by
 obtain ⟨i1, hi1, hz01, hz11, hz21⟩ := info_parts infoCert;obtain ⟨i2, hi2, hz02, hz12, hz22⟩ := info_parts infoCrl;obtain ⟨i3, hi3, hz03, hz13, hz23⟩ := info_parts infoAn;obtain ⟨a1, c1, hp⟩ := h1.shape;obtain ⟨a2, c2, hq⟩ := h2.shape;obtain ⟨a3, c3, hr⟩ := h3.shape;obtain ⟨n1, e1⟩ := zE (s.certs.length);obtain ⟨n2, e2⟩ := zE (s.crls.length);obtain ⟨n3, e3⟩ := zE (s.ancs.length);rw [e1] at hp hl;rw [e2] at hq hl;rw [e3] at hr hl;subst hp hq hr;obtain ⟨l1, l2, l3⟩ := hl;have HX1 := zH (zJ (h1 : ShS certKd w (zS a1 n1 c1) s.certs) (zJ (e1 : s.certs.length = n1) hw.1));have HX2 := zH (zJ (h2 : ShS crlKd w (zS a2 n2 c2) s.crls) (zJ (e2 : s.crls.length = n2) hw.2.1));have HX3 := zH (zJ (h3 : ShS anKd w (zS a3 n3 c3) s.ancs) (zJ (e3 : s.ancs.length = n3) hw.2.2));clear h1 h2 h3 e1 e2 e3 hw;obtain ⟨V0, hV0⟩ : ∃ V, V = ((w.alloc (Obj.cells #[zS a1 n1 c1, zS a2 n2 c2, zS a3 n3 c3] 37)).alloc (Obj.cells #[zZ, zZ, zZ] 37)).alloc (Obj.cells #[zZ, zZ, zZ] 37) := ⟨_, rfl⟩;have H0 : Hid (KW w V0 #[zS a1 n1 c1, zS a2 n2 c2, zS a3 n3 c3] #[zZ, zZ, zZ] /\ OwnS certKd V0 (w.heap.size + 1 + 1 + 1) zZ (s.certs.take 0) []) := by
  have e0 : (w.alloc (Obj.cells #[zS a1 n1 c1, zS a2 n2 c2, zS a3 n3 c3] 37)).heap.size = w.heap.size + 1 := Array.size_push _;have e1 : ((w.alloc (Obj.cells #[zS a1 n1 c1, zS a2 n2 c2, zS a3 n3 c3] 37)).alloc (Obj.cells #[zZ, zZ, zZ] 37)).heap.size = w.heap.size + 1 + 1 := by rw [size_alloc, e0]
  rw [hV0];refine ⟨⟨(((Below.refl _ _).alloc (Nat.le_refl _) _).alloc (by rw [e0]; omega) _).alloc (by rw [e1]; omega) _, ((Blk.new w _ _).alloc _).alloc _, ?_, ?_, by rw [size_alloc, e1]; omega⟩, OwnS.nil certKd _ _⟩
  ·have h := (Blk.new (w.alloc (Obj.cells #[zS a1 n1 c1, zS a2 n2 c2, zS a3 n3 c3] 37)) 37 #[zZ, zZ, zZ]).alloc (Obj.cells #[zZ, zZ, zZ] 37)
   rw [e0] at h;exact h
  ·have h := Blk.new ((w.alloc (Obj.cells #[zS a1 n1 c1, zS a2 n2 c2, zS a3 n3 c3] 37)).alloc (Obj.cells #[zZ, zZ, zZ] 37)) 37 #[zZ, zZ, zZ]
   rw [e1] at h;exact h
 go_enter Tryz.func147, Tryz.ntmps147;go_wp2_with fail;change Code.wp _ _ _ _ (((w.alloc (Obj.cells #[zS a1 n1 c1, zS a2 n2 c2, zS a3 n3 c3] 37)).alloc (Obj.cells #[zZ, zZ, zZ] 37)).alloc (Obj.cells #[zZ, zZ, zZ] 37));rw [<- hV0];clear hV0
 go_loopw [14] (fun iv wr => ∃ k : Nat, k <= n1 /\ iv = zI k /\ ∃ cv f, Hid (KW w wr #[zS a1 n1 c1, zS a2 n2 c2, zS a3 n3 c3] #[cv, zZ, zZ] /\ OwnS certKd wr (w.heap.size + 1 + 1 + 1) cv (s.certs.take k) f)) (fun iv _ => n1 - (intOf iv).toNat)
 case atStart => exact ⟨0, Nat.zero_le _, rfl, _, _, H0.out⟩
 case round =>
  obtain ⟨k, hk, rfl, cv, f1, H⟩ := hrel;by_cases hkn : k < n1
  ·have hkl : k < s.certs.length := by rw [HX1.2.1]; exact hkn
   obtain ⟨g, o, u, hax, hg, hP, hs, hc⟩ := HX1.1.get hkl;obtain ⟨p1, q1, p2, q2, p3, q3, hu⟩ := CtAt.shape (OwnC.at hP);subst hax;have hki : (k : Int) < (n1 : Int) := by omega
   have hk0 : (0 : Int) <= (k : Int) := by omega
   have hPw := certKd.same hP (fun y hy => H.1.1.block y (certKd.lt hP y hy).2);obtain ⟨c, hce⟩ := zE (s.certs[k]);have hwc := HX1.2.2 _ (List.getElem_mem hkl);have hrg0 := fun i x hx => (H.1.1.cell (p := ⟨g, o + k * 13 + i, none⟩) hg).trans (hc i x hx)
   rw [hce] at hu hPw hwc;subst hu;have hrg : wr.rangeAt g (o + k * 13) (zCt c (zS p1 c.pol.length q1) (zS p2 c.per.length q2) (zS p3 c.den.length q3)).toList := fun j x hx => hrg0 j x (by rw [<- hx]; exact Array.getElem?_toList.symm)
   obtain ⟨V, hV⟩ : ∃ V, V = (wr.alloc (Obj.cells #[zI 0, zG ⟨#[]⟩, zG ⟨#[]⟩, zI 0, zI 0, zG ⟨#[]⟩, .bool false, zI 0, zI 0, zZ, zZ, zZ, zG ⟨#[]⟩] 52)).setCells wr.heap.size 0 (zCt c (zS p1 c.pol.length q1) (zS p2 c.per.length q2) (zS p3 c.den.length q3)).toList := ⟨_, rfl⟩;have hBV : zW wr V /\ Blk V wr.heap.size 52 (zCt c (zS p1 c.pol.length q1) (zS p2 c.per.length q2) (zS p3 c.den.length q3)) := fresh_store hV rfl;have hth := (Blk.new wr 52 #[zI 0, zG ⟨#[]⟩, zG ⟨#[]⟩, zI 0, zI 0, zG ⟨#[]⟩, .bool false, zI 0, zI 0, zZ, zZ, zZ, zG ⟨#[]⟩]).there (n := 13) rfl;have HV := zH (zJ (⟨H.1.below hBV.1, H.2.stays hBV.1⟩ : (KW w V #[zS (some ⟨g, o, none⟩) n1 c1, zS a2 n2 c2, zS a3 n3 c3] #[cv, zZ, zZ] /\ OwnS certKd V (w.heap.size + 1 + 1 + 1) cv (s.certs.take k) f1)) (zJ hBV.2 (certKd.same hPw (fun y hy => hBV.1.block y (certKd.lt hPw y hy).2) : certKd.Own V 0 (.agg (zCt c (zS p1 c.pol.length q1) (zS p2 c.per.length q2) (zS p3 c.den.length q3))) c)));have HN : Hid (s.certs.take (k + 1) = s.certs.take k ++ [c] /\ (s.certs.take k).length = k) := ⟨by rw [<- hce]; exact List.take_succ_eq_append_getElem hkl, by rw [List.length_take]; omega⟩;have hgc2 : w.heap.size + 1 + 1 + 1 <= wr.heap.size := H.1.2.2.2.2;clear hP hPw hrg0 hs hc hce hg H hBV;go_upto_region 5 with (first | refine wpList_load_mid rfl 52 _ rfl g (o + k * 13) rfl _ _ hrg Tryz.underlying52 rfl (by kernel_rfl) ?_ | (refine step_storeV rfl 52 _ _ rfl wr.heap.size 0 #[zI c.serial, zG c.issuer, zG c.subject, zI c.frm, zI c.upto, zG c.key, .bool c.ca, zI c.pathLen, zI c.usage, zS p1 c.pol.length q1, zS p2 c.per.length q2, zS p3 c.den.length q3, zG c.sig] rfl rfl hth (by kernel_rfl) (by simp [Value.oneCell']) hV ?_; clear hV hth))
   obtain ⟨gC, hgC⟩ := zE (wr.heap.size);rw [hgC] at HV hgc2 |-;clear hgC;have E3 : Calls Tryz.prog 184 #[.agg (zCt c (zS p1 c.pol.length q1) (zS p2 c.per.length q2) (zS p3 c.den.length q3))] V.drew fun e w' => ∃ r1 t1 r2 t2 r3 t3, e = .returned (.agg (zCt c (zS r1 c.pol.length t1) (zS r2 c.per.length t2) (zS r3 c.den.length t3))) /\ certKd.Own w' V.heap.size (.agg (zCt c (zS r1 c.pol.length t1) (zS r2 c.per.length t2) (zS r3 c.den.length t3))) c /\ zW V w' := by
    have hd0 : zW V V.drew := (Below.refl _ _).drew;have h : certKd.Own V.drew 0 (.agg (zCt c (zS p1 c.pol.length q1) (zS p2 c.per.length q2) (zS p3 c.den.length q3))) c := certKd.same HV.2.2 (fun y hy => hd0.block y (certKd.lt HV.2.2 y hy).2);have h9 : Calls Tryz.prog 184 #[.agg (zCt c (zS p1 c.pol.length q1) (zS p2 c.per.length q2) (zS p3 c.den.length q3))] V.drew _ := ownCert_any c _ 0 V.drew hwc h;refine h9.mono ?_;rintro e w' ⟨u, rfl, ho, hb⟩;obtain ⟨r1, t1, r2, t2, r3, t3, hu3⟩ := CtAt.shape (OwnC.at ho);subst hu3;exact ⟨r1, t1, r2, t2, r3, t3, rfl, ho, hd0.trans hb⟩
   have HF : Hid (∀ W, zW V W -> W.cell? ⟨w.heap.size + 1 + 1, 0, none⟩ = some cv /\ W.frozen? ⟨w.heap.size + 1 + 1, 0, none⟩ = false) := fun W hb => by
    have h := (HV.1.1.below hb).2.2.2.1;exact ⟨h.cell 0, h.free 0⟩
   have hd0 : zW V V.drew := (Below.refl _ _).drew;have y0 := (HF.out V.drew hd0).1;obtain ⟨m0, m1, m2, m3, m4, m5, m6, m7, m8, m9, m10, m11, m12⟩ := zc13 ((HV.2.1.below hd0 HV.2.1.lt));clear hrg hwc
   go_region_law (first
    | (refine step_call rfl 184 _ _ rfl #[.agg #[.int .i64 c.serial, .string c.issuer, .string c.subject, .int .i64 c.frm, .int .i64 c.upto, .string c.key, .bool c.ca, .int .i64 c.pathLen, .int .i64 c.usage, .slice p1 c.pol.length q1, .slice p2 c.per.length q2, .slice p3 c.den.length q3, .string c.sig]] rfl (by kernel_rfl) ?_; refine E3.mono ?_; rintro e w3 ⟨r1, t1, r2, t2, r3, t3, rfl, ho3, hb3⟩; have y3 := (HF.out w3 hb3).1; have y4 := fun ob => (HF.out (w3.alloc ob) (hb3.alloc hb3.size ob)).1; dsimp only)
    | (refine step_app certKd rfl _ _ 33 rfl i1 (.agg #[.int .i64 0, .string ⟨#[]⟩, .string ⟨#[]⟩, .int .i64 0, .int .i64 0, .string ⟨#[]⟩, .bool false, .int .i64 0, .int .i64 0, .slice none 0 0, .slice none 0 0, .slice none 0 0, .string ⟨#[]⟩]) 184 Tryz.underlying33 hi1 hz01 hz11 hz21 rfl (by decide) (w.heap.size + 1 + 1 + 1) cv (s.certs.take k) f1 c (.agg #[.int .i64 c.serial, .string c.issuer, .string c.subject, .int .i64 c.frm, .int .i64 c.upto, .string c.key, .bool c.ca, .int .i64 c.pathLen, .int .i64 c.usage, .slice r1 c.pol.length t1, .slice r2 c.per.length t2, .slice r3 c.den.length t3, .string c.sig]) rfl w3.heap.size rfl (Blk.new w3 52 #[.int .i64 c.serial, .string c.issuer, .string c.subject, .int .i64 c.frm, .int .i64 c.upto, .string c.key, .bool c.ca, .int .i64 c.pathLen, .int .i64 c.usage, .slice r1 c.pol.length t1, .slice r2 c.per.length t2, .slice r3 c.den.length t3, .string c.sig]).range (HV.1.2.stays (hb3.alloc hb3.size _)) (certKd.base (certKd.same ho3 (fun y hy => ((Below.refl w3.heap.size w3).alloc (Nat.le_refl _) _).block y (certKd.lt ho3 y hy).2)) (Nat.le_trans HV.1.1.2.2.2.2 (Nat.le_refl _))) (fun y h1 h2 => by have g1 := (certKd.lt ho3 y h1).1; have g2 := (HV.1.2.lt y h2).2; omega) (Nat.le_trans HV.1.1.2.2.2.2 (hb3.alloc hb3.size _).size) k HN.2 (by omega) ?_; intro g6 cap6 w6 fp6 hG6 hgrow6 hf6; have hb5 := hb3.alloc hb3.size (Obj.cells #[.int .i64 c.serial, .string c.issuer, .string c.subject, .int .i64 c.frm, .int .i64 c.upto, .string c.key, .bool c.ca, .int .i64 c.pathLen, .int .i64 c.usage, .slice r1 c.pol.length t1, .slice r2 c.per.length t2, .slice r3 c.den.length t3, .string c.sig] 52); have hne6 : ∀ q, q < w.heap.size + 1 + 1 + 1 -> cv.ownBlock ≠ some q := (fun q hq e => by obtain ⟨_, _, hr9, _⟩ := HV.1.2; have := (hr9.lt q e).1; omega); have y6 : w6.cell? ⟨w.heap.size + 1 + 1, 0, none⟩ = some cv := (by have h7 := ((HV.1.1.below hb5).2.2.2.1); exact Blk.cell (b := w.heap.size + 1 + 1) (t := 37) ((hgrow6.block _ h7.lt (fun e => hne6 _ (by omega) e.symm)).trans h7) 0); have fz6 := Blk.free (b := w.heap.size + 1 + 1) ((hgrow6.block _ ((HV.1.1.below hb5).2.2.2.1).lt (fun e => hne6 _ (by omega) e.symm)).trans ((HV.1.1.below hb5).2.2.2.1))))
   all_goals (
    have H6 : Hid ((KW w w6 #[zS (some ⟨g, o, none⟩) n1 c1, zS a2 n2 c2, zS a3 n3 c3] #[cv, zZ, zZ]) /\ OwnS certKd w6 (w.heap.size + 1 + 1 + 1) (zS (some ⟨g6, 0, none⟩) (k + 1) cap6) (s.certs.take (k + 1)) fp6) := by
     have hb5 := hb3.alloc hb3.size (Obj.cells (zCt c (zS r1 c.pol.length t1) (zS r2 c.per.length t2) (zS r3 c.den.length t3)) 52);have hK5 := HV.1.1.below hb5;have hrl : ∀ q, cv.ownBlock = some q -> w.heap.size + 1 + 1 + 1 <= q /\ q ∈ f1 := fun q e => by
      obtain ⟨_, _, hr9, _, hf9, _⟩ := HV.1.2;exact ⟨(hr9.lt q e).1, by rw [hf9]; exact List.mem_append_left _ (Option.mem_toList.2 e)⟩
     rw [<- HN.1] at hG6;have hnw : ∀ b ∈ fp6, b ∈ f1 ∨ V.heap.size <= b := fun b hb => by
      rcases hf6 b hb with h | h | h
      ·exact .inl h
      ·exact .inr (certKd.lt ho3 b h).1
      ·exact .inr (by rw [h]; exact hb5.size)
     exact ⟨hK5.grown hgrow6 (fun q hq e => by have := (hrl q e).1; omega), hG6⟩
    clear hG6 hgrow6 y6 fz6 y3 y4 ho3 hb3 y0 E3 hf6 hb5 hne6 m0 m1 m2 m3 m4 m5 m6 m7 m8 m9 m10 m11 m12;go_wp2_with fail;refine ⟨⟨k + 1, by omega, by go_num, zS (some ⟨g6, 0, none⟩) (k + 1) cap6, fp6, ?_⟩, by simp [intOf]; omega⟩;have hne : ∀ b, w.heap.size + 1 + 1 + 1 <= b -> b ≠ w.heap.size + 1 + 1 := fun b hb => by omega
    exact ⟨H6.1.set 0 _, H6.2.same (fun b hb => heap_setCell_other _ _ _ _ (hne b (H6.2.lt b hb).1))⟩)
  ·have hkl : n1 = k := by omega
   subst hkl;have HE1 : Hid (KW w wr #[zS a1 n1 c1, zS a2 n2 c2, zS a3 n3 c3] #[cv, zZ, zZ] /\ OwnS certKd wr (w.heap.size + 1 + 1 + 1) cv s.certs f1) := by
    have h := H.out;rw [List.take_of_length_le (by rw [HX1.2.1]; exact Nat.le_refl _)] at h;exact h
   clear H;obtain ⟨v1, hv1⟩ : ∃ q, q = cv := ⟨_, rfl⟩;rw [<- hv1] at HE1;clear hv1;have z1 := fun j => HE1.1.2.1.cell j
   go_wp2_with fail;clear z1
   go_loopw [29] (fun iv wr => ∃ k : Nat, k <= n2 /\ iv = zI k /\ ∃ cv f, Hid (KW w wr #[zS a1 n1 c1, zS a2 n2 c2, zS a3 n3 c3] #[v1, cv, zZ] /\ OwnS crlKd wr (w.heap.size + 1 + 1 + 1) cv (s.crls.take k) f /\ OwnS certKd wr (w.heap.size + 1 + 1 + 1) v1 s.certs f1 /\ (∀ b ∈ f1, b ∉ f))) (fun iv _ => n2 - (intOf iv).toNat)
   case atStart => exact ⟨0, Nat.zero_le _, rfl, _, [], HE1.1, OwnS.nil crlKd _ _, HE1.2, (fun b _ h => by cases h)⟩
   case round =>
    obtain ⟨k, hk, rfl, cv, f2, H⟩ := hrel;by_cases hkn : k < n2
    ·have hkl : k < s.crls.length := by rw [HX2.2.1]; exact hkn
     obtain ⟨g, o, u, hax, hg, hP, hs, hc⟩ := HX2.1.get hkl;obtain ⟨p1, q1, hu⟩ := ClAt.shape (OwnL.at hP);subst hax;have hki : (k : Int) < (n2 : Int) := by omega
     have hk0 : (0 : Int) <= (k : Int) := by omega
     have hPw := crlKd.same hP (fun y hy => H.1.1.block y (crlKd.lt hP y hy).2);obtain ⟨c, hce⟩ := zE (s.crls[k]);have hwc := HX2.2.2 _ (List.getElem_mem hkl);have hrg0 := fun i x hx => (H.1.1.cell (p := ⟨g, o + k * 7 + i, none⟩) hg).trans (hc i x hx)
     rw [hce] at hu hPw hwc;subst hu;have hrg : wr.rangeAt g (o + k * 7) (zCl c (zS p1 c.revs.length q1)).toList := fun j x hx => hrg0 j x (by rw [<- hx]; exact Array.getElem?_toList.symm)
     obtain ⟨V, hV⟩ : ∃ V, V = (wr.alloc (Obj.cells #[zG ⟨#[]⟩, zI 0, zI 0, zI 0, zI 0, zZ, zG ⟨#[]⟩] 65)).setCells wr.heap.size 0 (zCl c (zS p1 c.revs.length q1)).toList := ⟨_, rfl⟩;have hBV : zW wr V /\ Blk V wr.heap.size 65 (zCl c (zS p1 c.revs.length q1)) := fresh_store hV rfl;have hth := (Blk.new wr 65 #[zG ⟨#[]⟩, zI 0, zI 0, zI 0, zI 0, zZ, zG ⟨#[]⟩]).there (n := 7) rfl;have HV := zH (zJ (⟨H.1.below hBV.1, H.2.1.stays hBV.1, H.2.2.1.stays hBV.1, H.2.2.2⟩ : (KW w V #[zS a1 n1 c1, zS (some ⟨g, o, none⟩) n2 c2, zS a3 n3 c3] #[v1, cv, zZ] /\ OwnS crlKd V (w.heap.size + 1 + 1 + 1) cv (s.crls.take k) f2 /\ OwnS certKd V (w.heap.size + 1 + 1 + 1) v1 s.certs f1 /\ (∀ b ∈ f1, b ∉ f2))) (zJ hBV.2 (crlKd.same hPw (fun y hy => hBV.1.block y (crlKd.lt hPw y hy).2) : crlKd.Own V 0 (.agg (zCl c (zS p1 c.revs.length q1))) c)));have HN : Hid (s.crls.take (k + 1) = s.crls.take k ++ [c] /\ (s.crls.take k).length = k) := ⟨by rw [<- hce]; exact List.take_succ_eq_append_getElem hkl, by rw [List.length_take]; omega⟩;have hgc2 : w.heap.size + 1 + 1 + 1 <= wr.heap.size := H.1.2.2.2.2;clear hP hPw hrg0 hs hc hce hg H hBV;go_upto_region 10 with (first | refine wpList_load_mid rfl 65 _ rfl g (o + k * 7) rfl _ _ hrg Tryz.underlying65 rfl (by kernel_rfl) ?_ | (refine step_storeV rfl 65 _ _ rfl wr.heap.size 0 #[zG c.issuer, zI c.num, zI c.ths, zI c.nxt, zI c.bas, zS p1 c.revs.length q1, zG c.sig] rfl rfl hth (by kernel_rfl) (by simp [Value.oneCell']) hV ?_; clear hV hth))
     obtain ⟨gC, hgC⟩ := zE (wr.heap.size);rw [hgC] at HV hgc2 |-;clear hgC;have E3 : Calls Tryz.prog 185 #[.agg (zCl c (zS p1 c.revs.length q1))] V.drew fun e w' => ∃ r1 t1, e = .returned (.agg (zCl c (zS r1 c.revs.length t1))) /\ crlKd.Own w' V.heap.size (.agg (zCl c (zS r1 c.revs.length t1))) c /\ zW V w' := by
      have hd0 : zW V V.drew := (Below.refl _ _).drew;have h : crlKd.Own V.drew 0 (.agg (zCl c (zS p1 c.revs.length q1))) c := crlKd.same HV.2.2 (fun y hy => hd0.block y (crlKd.lt HV.2.2 y hy).2);have h9 : Calls Tryz.prog 185 #[.agg (zCl c (zS p1 c.revs.length q1))] V.drew _ := ownCrl_any c _ 0 V.drew (by have := wtL_parts hwc; omega) (by have := wtL_parts hwc; omega) (by have := wtL_parts hwc; omega) h;refine h9.mono ?_;rintro e w' ⟨u, rfl, ho, hb⟩;obtain ⟨r1, t1, hu3⟩ := ClAt.shape (OwnL.at ho);subst hu3;exact ⟨r1, t1, rfl, ho, hd0.trans hb⟩
     have HF : Hid (∀ W, zW V W -> W.cell? ⟨w.heap.size + 1 + 1, 1, none⟩ = some cv /\ W.frozen? ⟨w.heap.size + 1 + 1, 1, none⟩ = false) := fun W hb => by
      have h := (HV.1.1.below hb).2.2.2.1;exact ⟨h.cell 1, h.free 1⟩
     have hd0 : zW V V.drew := (Below.refl _ _).drew;have y0 := (HF.out V.drew hd0).1;obtain ⟨m0, m1, m2, m3, m4, m5, m6⟩ := zc7 ((HV.2.1.below hd0 HV.2.1.lt));clear hrg hwc
     go_region_law (first
      | (refine step_call rfl 185 _ _ rfl #[.agg #[.string c.issuer, .int .i64 c.num, .int .i64 c.ths, .int .i64 c.nxt, .int .i64 c.bas, .slice p1 c.revs.length q1, .string c.sig]] rfl (by kernel_rfl) ?_; refine E3.mono ?_; rintro e w3 ⟨r1, t1, rfl, ho3, hb3⟩; have y3 := (HF.out w3 hb3).1; have y4 := fun ob => (HF.out (w3.alloc ob) (hb3.alloc hb3.size ob)).1; dsimp only)
      | (refine step_app crlKd rfl _ _ 34 rfl i2 (.agg #[.string ⟨#[]⟩, .int .i64 0, .int .i64 0, .int .i64 0, .int .i64 0, .slice none 0 0, .string ⟨#[]⟩]) 88 Tryz.underlying34 hi2 hz02 hz12 hz22 rfl (by decide) (w.heap.size + 1 + 1 + 1) cv (s.crls.take k) f2 c (.agg #[.string c.issuer, .int .i64 c.num, .int .i64 c.ths, .int .i64 c.nxt, .int .i64 c.bas, .slice r1 c.revs.length t1, .string c.sig]) rfl w3.heap.size rfl (Blk.new w3 65 #[.string c.issuer, .int .i64 c.num, .int .i64 c.ths, .int .i64 c.nxt, .int .i64 c.bas, .slice r1 c.revs.length t1, .string c.sig]).range (HV.1.2.1.stays (hb3.alloc hb3.size _)) (crlKd.base (crlKd.same ho3 (fun y hy => ((Below.refl w3.heap.size w3).alloc (Nat.le_refl _) _).block y (crlKd.lt ho3 y hy).2)) (Nat.le_trans HV.1.1.2.2.2.2 (Nat.le_refl _))) (fun y h1 h2 => by have g1 := (crlKd.lt ho3 y h1).1; have g2 := (HV.1.2.1.lt y h2).2; omega) (Nat.le_trans HV.1.1.2.2.2.2 (hb3.alloc hb3.size _).size) k HN.2 (by omega) ?_; intro g6 cap6 w6 fp6 hG6 hgrow6 hf6; have hb5 := hb3.alloc hb3.size (Obj.cells #[.string c.issuer, .int .i64 c.num, .int .i64 c.ths, .int .i64 c.nxt, .int .i64 c.bas, .slice r1 c.revs.length t1, .string c.sig] 65); have hne6 : ∀ q, q < w.heap.size + 1 + 1 + 1 -> cv.ownBlock ≠ some q := (fun q hq e => by obtain ⟨_, _, hr9, _⟩ := HV.1.2.1; have := (hr9.lt q e).1; omega); have y6 : w6.cell? ⟨w.heap.size + 1 + 1, 1, none⟩ = some cv := (by have h7 := ((HV.1.1.below hb5).2.2.2.1); exact Blk.cell (b := w.heap.size + 1 + 1) (t := 37) ((hgrow6.block _ h7.lt (fun e => hne6 _ (by omega) e.symm)).trans h7) 1); have fz6 := Blk.free (b := w.heap.size + 1 + 1) ((hgrow6.block _ ((HV.1.1.below hb5).2.2.2.1).lt (fun e => hne6 _ (by omega) e.symm)).trans ((HV.1.1.below hb5).2.2.2.1))))
     all_goals (
      have H6 : Hid ((KW w w6 #[zS a1 n1 c1, zS (some ⟨g, o, none⟩) n2 c2, zS a3 n3 c3] #[v1, cv, zZ]) /\ OwnS crlKd w6 (w.heap.size + 1 + 1 + 1) (zS (some ⟨g6, 0, none⟩) (k + 1) cap6) (s.crls.take (k + 1)) fp6 /\ OwnS certKd w6 (w.heap.size + 1 + 1 + 1) v1 s.certs f1 /\ (∀ b ∈ f1, b ∉ fp6)) := by
       have hb5 := hb3.alloc hb3.size (Obj.cells (zCl c (zS r1 c.revs.length t1)) 65);have hK5 := HV.1.1.below hb5;have hrl : ∀ q, cv.ownBlock = some q -> w.heap.size + 1 + 1 + 1 <= q /\ q ∈ f2 := fun q e => by
        obtain ⟨_, _, hr9, _, hf9, _⟩ := HV.1.2.1;exact ⟨(hr9.lt q e).1, by rw [hf9]; exact List.mem_append_left _ (Option.mem_toList.2 e)⟩
       rw [<- HN.1] at hG6;have hnw : ∀ b ∈ fp6, b ∈ f2 ∨ V.heap.size <= b := fun b hb => by
        rcases hf6 b hb with h | h | h
        ·exact .inl h
        ·exact .inr (crlKd.lt ho3 b h).1
        ·exact .inr (by rw [h]; exact hb5.size)
       exact ⟨hK5.grown hgrow6 (fun q hq e => by have := (hrl q e).1; omega), hG6, (HV.1.2.2.1.stays hb5).same (fun b hb => hgrow6.block b ((HV.1.2.2.1.stays hb5).lt b hb).2 (fun e => HV.1.2.2.2 b hb (hrl b e.symm).2)), fun b h1 h2 => by rcases hnw b h2 with h | h; exact HV.1.2.2.2 b h1 h; have := (HV.1.2.2.1.lt b h1).2; omega⟩
      clear hG6 hgrow6 y6 fz6 y3 y4 ho3 hb3 y0 E3 hf6 hb5 hne6 m0 m1 m2 m3 m4 m5 m6;go_wp2_with fail;refine ⟨⟨k + 1, by omega, by go_num, zS (some ⟨g6, 0, none⟩) (k + 1) cap6, fp6, ?_⟩, by simp [intOf]; omega⟩;have hne : ∀ b, w.heap.size + 1 + 1 + 1 <= b -> b ≠ w.heap.size + 1 + 1 := fun b hb => by omega
      exact ⟨H6.1.set 1 _, H6.2.1.same (fun b hb => heap_setCell_other _ _ _ _ (hne b (H6.2.1.lt b hb).1)), H6.2.2.1.same (fun b hb => heap_setCell_other _ _ _ _ (hne b (H6.2.2.1.lt b hb).1)), H6.2.2.2⟩)
    ·have hkl : n2 = k := by omega
     subst hkl;have HE2 : Hid (KW w wr #[zS a1 n1 c1, zS a2 n2 c2, zS a3 n3 c3] #[v1, cv, zZ] /\ OwnS crlKd wr (w.heap.size + 1 + 1 + 1) cv s.crls f2 /\ OwnS certKd wr (w.heap.size + 1 + 1 + 1) v1 s.certs f1 /\ (∀ b ∈ f1, b ∉ f2)) := by
      have h := H.out;rw [List.take_of_length_le (by rw [HX2.2.1]; exact Nat.le_refl _)] at h;exact h
     clear H;obtain ⟨v2, hv2⟩ : ∃ q, q = cv := ⟨_, rfl⟩;rw [<- hv2] at HE2;clear hv2;have HD12 : Hid (∀ b ∈ f1, b ∉ f2) := HE2.2.2.2;have z2 := fun j => HE2.1.2.1.cell j
     go_wp2_with fail;clear z2
     go_loopw [44] (fun iv wr => ∃ k : Nat, k <= n3 /\ iv = zI k /\ ∃ cv f, Hid (KW w wr #[zS a1 n1 c1, zS a2 n2 c2, zS a3 n3 c3] #[v1, v2, cv] /\ OwnS anKd wr (w.heap.size + 1 + 1 + 1) cv (s.ancs.take k) f /\ OwnS certKd wr (w.heap.size + 1 + 1 + 1) v1 s.certs f1 /\ OwnS crlKd wr (w.heap.size + 1 + 1 + 1) v2 s.crls f2 /\ (∀ b ∈ f1, b ∉ f) /\ (∀ b ∈ f2, b ∉ f))) (fun iv _ => n3 - (intOf iv).toNat)
     case atStart => exact ⟨0, Nat.zero_le _, rfl, _, [], HE2.1, OwnS.nil anKd _ _, HE2.2.2.1, HE2.2.1, (fun b _ h => by cases h), (fun b _ h => by cases h)⟩
     case round =>
      obtain ⟨k, hk, rfl, cv, f3, H⟩ := hrel;by_cases hkn : k < n3
      ·have hkl : k < s.ancs.length := by rw [HX3.2.1]; exact hkn
       obtain ⟨g, o, u, hax, hg, hP, hs, hc⟩ := HX3.1.get hkl;have hu : u = anV s.ancs[k] := hP;subst hax;have hki : (k : Int) < (n3 : Int) := by omega
       have hk0 : (0 : Int) <= (k : Int) := by omega
       have hPw := anKd.same hP (fun y hy => H.1.1.block y (anKd.lt hP y hy).2);obtain ⟨c, hce⟩ := zE (s.ancs[k]);have hwc := HX3.2.2 _ (List.getElem_mem hkl);have hrg0 := fun i x hx => (H.1.1.cell (p := ⟨g, o + k * 2 + i, none⟩) hg).trans (hc i x hx)
       rw [hce] at hu hPw hwc;subst hu;have hrg : wr.rangeAt g (o + k * 2) #[zG c.name, zG c.key].toList := fun j x hx => hrg0 j x (by rw [<- hx]; exact Array.getElem?_toList.symm)
       obtain ⟨V, hV⟩ : ∃ V, V = (wr.alloc (Obj.cells #[zG ⟨#[]⟩, zG ⟨#[]⟩] 124)).setCells wr.heap.size 0 #[zG c.name, zG c.key].toList := ⟨_, rfl⟩;have hBV : zW wr V /\ Blk V wr.heap.size 124 #[zG c.name, zG c.key] := fresh_store hV rfl;have hth := (Blk.new wr 124 #[zG ⟨#[]⟩, zG ⟨#[]⟩]).there (n := 2) rfl;have HV := zH (zJ (⟨H.1.below hBV.1, H.2.1.stays hBV.1, H.2.2.1.stays hBV.1, H.2.2.2.1.stays hBV.1, H.2.2.2.2.1, H.2.2.2.2.2⟩ : (KW w V #[zS a1 n1 c1, zS a2 n2 c2, zS (some ⟨g, o, none⟩) n3 c3] #[v1, v2, cv] /\ OwnS anKd V (w.heap.size + 1 + 1 + 1) cv (s.ancs.take k) f3 /\ OwnS certKd V (w.heap.size + 1 + 1 + 1) v1 s.certs f1 /\ OwnS crlKd V (w.heap.size + 1 + 1 + 1) v2 s.crls f2 /\ (∀ b ∈ f1, b ∉ f3) /\ (∀ b ∈ f2, b ∉ f3))) (zJ hBV.2 (anKd.same hPw (fun y hy => hBV.1.block y (anKd.lt hPw y hy).2) : anKd.Own V 0 (.agg #[zG c.name, zG c.key]) c)));have HN : Hid (s.ancs.take (k + 1) = s.ancs.take k ++ [c] /\ (s.ancs.take k).length = k) := ⟨by rw [<- hce]; exact List.take_succ_eq_append_getElem hkl, by rw [List.length_take]; omega⟩;have hgc2 : w.heap.size + 1 + 1 + 1 <= wr.heap.size := H.1.2.2.2.2;clear hP hPw hrg0 hs hc hce hg H hBV;go_upto_region 15 with (first | refine wpList_load_mid rfl 124 _ rfl g (o + k * 2) rfl _ _ hrg Tryz.underlying124 rfl (by kernel_rfl) ?_ | (refine step_storeV rfl 124 _ _ rfl wr.heap.size 0 #[zG c.name, zG c.key] rfl rfl hth (by kernel_rfl) (by simp [Value.oneCell']) hV ?_; clear hV hth))
       obtain ⟨gC, hgC⟩ := zE (wr.heap.size);rw [hgC] at HV hgc2 |-;clear hgC;have hwc2 : c.name.size <= 1000000000000 /\ c.key.size <= 1000000000000 := by unfold wtA at hwc; omega
       have EA := cloneB_any c.name V.drew hwc2.1;have HEB : Hid (∀ W, Calls Tryz.prog 148 #[zG c.key] W fun e w' => e = .returned (zG c.key) /\ zW W w') := fun W => cloneB_any c.key W hwc2.2
       have HC1 : Hid (∀ W, zW V W -> W.cell? ⟨gC, 1, none⟩ = some (zG c.key)) := fun W hb => (HV.2.1.below hb HV.2.1.lt).cell 1
       clear hwc2;have HF : Hid (∀ W, zW V W -> W.cell? ⟨w.heap.size + 1 + 1, 2, none⟩ = some cv /\ W.frozen? ⟨w.heap.size + 1 + 1, 2, none⟩ = false) := fun W hb => by
        have h := (HV.1.1.below hb).2.2.2.1;exact ⟨h.cell 2, h.free 2⟩
       have hd0 : zW V V.drew := (Below.refl _ _).drew;have y0 := (HF.out V.drew hd0).1;have m0 : V.drew.cell? ⟨gC, 0, none⟩ = some (zG c.name) := (HV.2.1.below hd0 HV.2.1.lt).cell 0;have m1 : V.drew.cell? ⟨gC, 1, none⟩ = some (zG c.key) := (HV.2.1.below hd0 HV.2.1.lt).cell 1;clear hrg hwc
       go_region_law (first
        | (refine step_call rfl 148 _ _ rfl #[.string c.name] rfl (by kernel_rfl) ?_; refine EA.mono ?_; rintro e w2 ⟨rfl, hb2'⟩; have hb2 : zW V w2 := hd0.trans hb2'; have y2 := (HF.out w2 hb2).1; have m12 := HC1.out w2 hb2; clear hb2'; dsimp only)
        | (refine step_call rfl 148 _ _ rfl #[.string c.key] rfl (by kernel_rfl) ?_; refine (HEB.out w2).mono ?_; rintro e w3 ⟨rfl, hb3'⟩; have hb3 : zW V w3 := hb2.trans (hb3'.mono hb2.size); have y3 := (HF.out w3 hb3).1; have y4 := fun ob => (HF.out (w3.alloc ob) (hb3.alloc hb3.size ob)).1; have ho3 : anKd.Own w3 V.heap.size (.agg #[.string c.name, .string c.key]) c := rfl; clear hb3'; dsimp only)
        | (refine step_app anKd rfl _ _ 35 rfl i3 (.agg #[.string ⟨#[]⟩, .string ⟨#[]⟩]) 32 Tryz.underlying35 hi3 hz03 hz13 hz23 rfl (by decide) (w.heap.size + 1 + 1 + 1) cv (s.ancs.take k) f3 c (.agg #[.string c.name, .string c.key]) rfl w3.heap.size rfl (Blk.new w3 124 #[.string c.name, .string c.key]).range (HV.1.2.1.stays (hb3.alloc hb3.size _)) (anKd.base (anKd.same ho3 (fun y hy => ((Below.refl w3.heap.size w3).alloc (Nat.le_refl _) _).block y (anKd.lt ho3 y hy).2)) (Nat.le_trans HV.1.1.2.2.2.2 (Nat.le_refl _))) (fun y h1 h2 => by have g1 := (anKd.lt ho3 y h1).1; have g2 := (HV.1.2.1.lt y h2).2; omega) (Nat.le_trans HV.1.1.2.2.2.2 (hb3.alloc hb3.size _).size) k HN.2 (by omega) ?_; intro g6 cap6 w6 fp6 hG6 hgrow6 hf6; have hb5 := hb3.alloc hb3.size (Obj.cells #[.string c.name, .string c.key] 124); have hne6 : ∀ q, q < w.heap.size + 1 + 1 + 1 -> cv.ownBlock ≠ some q := (fun q hq e => by obtain ⟨_, _, hr9, _⟩ := HV.1.2.1; have := (hr9.lt q e).1; omega); have y6 : w6.cell? ⟨w.heap.size + 1 + 1, 2, none⟩ = some cv := (by have h7 := ((HV.1.1.below hb5).2.2.2.1); exact Blk.cell (b := w.heap.size + 1 + 1) (t := 37) ((hgrow6.block _ h7.lt (fun e => hne6 _ (by omega) e.symm)).trans h7) 2); have fz6 := Blk.free (b := w.heap.size + 1 + 1) ((hgrow6.block _ ((HV.1.1.below hb5).2.2.2.1).lt (fun e => hne6 _ (by omega) e.symm)).trans ((HV.1.1.below hb5).2.2.2.1))))
       all_goals (
        have H6 : Hid ((KW w w6 #[zS a1 n1 c1, zS a2 n2 c2, zS (some ⟨g, o, none⟩) n3 c3] #[v1, v2, cv]) /\ OwnS anKd w6 (w.heap.size + 1 + 1 + 1) (zS (some ⟨g6, 0, none⟩) (k + 1) cap6) (s.ancs.take (k + 1)) fp6 /\ OwnS certKd w6 (w.heap.size + 1 + 1 + 1) v1 s.certs f1 /\ OwnS crlKd w6 (w.heap.size + 1 + 1 + 1) v2 s.crls f2 /\ (∀ b ∈ f1, b ∉ fp6) /\ (∀ b ∈ f2, b ∉ fp6)) := by
         have hb5 := hb3.alloc hb3.size (Obj.cells #[zG c.name, zG c.key] 124);have hK5 := HV.1.1.below hb5;have hrl : ∀ q, cv.ownBlock = some q -> w.heap.size + 1 + 1 + 1 <= q /\ q ∈ f3 := fun q e => by
          obtain ⟨_, _, hr9, _, hf9, _⟩ := HV.1.2.1;exact ⟨(hr9.lt q e).1, by rw [hf9]; exact List.mem_append_left _ (Option.mem_toList.2 e)⟩
         rw [<- HN.1] at hG6;have hnw : ∀ b ∈ fp6, b ∈ f3 ∨ V.heap.size <= b := fun b hb => by
          rcases hf6 b hb with h | h | h
          ·exact .inl h
          ·exact .inr (anKd.lt ho3 b h).1
          ·exact .inr (by rw [h]; exact hb5.size)
         exact ⟨hK5.grown hgrow6 (fun q hq e => by have := (hrl q e).1; omega), hG6, (HV.1.2.2.1.stays hb5).same (fun b hb => hgrow6.block b ((HV.1.2.2.1.stays hb5).lt b hb).2 (fun e => HV.1.2.2.2.2.1 b hb (hrl b e.symm).2)), (HV.1.2.2.2.1.stays hb5).same (fun b hb => hgrow6.block b ((HV.1.2.2.2.1.stays hb5).lt b hb).2 (fun e => HV.1.2.2.2.2.2 b hb (hrl b e.symm).2)), fun b h1 h2 => by rcases hnw b h2 with h | h; exact HV.1.2.2.2.2.1 b h1 h; have := (HV.1.2.2.1.lt b h1).2; omega, fun b h1 h2 => by rcases hnw b h2 with h | h; exact HV.1.2.2.2.2.2 b h1 h; have := (HV.1.2.2.2.1.lt b h1).2; omega⟩
        clear hG6 hgrow6 y6 fz6 y3 y4 ho3 hb3 y0 EA hf6 hb2 y2 m12 hb5 hne6 m0 m1;go_wp2_with fail;refine ⟨⟨k + 1, by omega, by go_num, zS (some ⟨g6, 0, none⟩) (k + 1) cap6, fp6, ?_⟩, by simp [intOf]; omega⟩;have hne : ∀ b, w.heap.size + 1 + 1 + 1 <= b -> b ≠ w.heap.size + 1 + 1 := fun b hb => by omega
        exact ⟨H6.1.set 2 _, H6.2.1.same (fun b hb => heap_setCell_other _ _ _ _ (hne b (H6.2.1.lt b hb).1)), H6.2.2.1.same (fun b hb => heap_setCell_other _ _ _ _ (hne b (H6.2.2.1.lt b hb).1)), H6.2.2.2.1.same (fun b hb => heap_setCell_other _ _ _ _ (hne b (H6.2.2.2.1.lt b hb).1)), H6.2.2.2.2.1, H6.2.2.2.2.2⟩)
      ·have hkl : n3 = k := by omega
       subst hkl;have HE3 : Hid (KW w wr #[zS a1 n1 c1, zS a2 n2 c2, zS a3 n3 c3] #[v1, v2, cv] /\ OwnS anKd wr (w.heap.size + 1 + 1 + 1) cv s.ancs f3 /\ OwnS certKd wr (w.heap.size + 1 + 1 + 1) v1 s.certs f1 /\ OwnS crlKd wr (w.heap.size + 1 + 1 + 1) v2 s.crls f2 /\ (∀ b ∈ f1, b ∉ f3) /\ (∀ b ∈ f2, b ∉ f3)) := by
        have h := H.out;rw [List.take_of_length_le (by rw [HX3.2.1]; exact Nat.le_refl _)] at h;exact h
       clear H;obtain ⟨v3, hv3⟩ : ∃ q, q = cv := ⟨_, rfl⟩;rw [<- hv3] at HE3;clear hv3;have q0 : wr.cell? ⟨w.heap.size + 1 + 1, 0, none⟩ = some v1 := HE3.1.2.2.2.1.cell 0;have q1 : wr.cell? ⟨w.heap.size + 1 + 1, 1, none⟩ = some v2 := HE3.1.2.2.2.1.cell 1;have q2 : wr.cell? ⟨w.heap.size + 1 + 1, 2, none⟩ = some v3 := HE3.1.2.2.2.1.cell 2;have r0 : wr.cell? ⟨w.heap.size + 1, 0, none⟩ = some zZ := HE3.1.2.2.1.cell 0;have r1 : wr.cell? ⟨w.heap.size + 1, 1, none⟩ = some zZ := HE3.1.2.2.1.cell 1;have r2 : wr.cell? ⟨w.heap.size + 1, 2, none⟩ = some zZ := HE3.1.2.2.1.cell 2;have rf := fun i => HE3.1.2.2.1.free i
       obtain ⟨x1, y1, hs1⟩ := HE3.2.2.1.at.shape;obtain ⟨x2, y2, hs2⟩ := HE3.2.2.2.1.at.shape;obtain ⟨x3, y3, hs3⟩ := HE3.2.1.at.shape;rw [HX1.2.1] at hs1;rw [HX2.2.1] at hs2;rw [HX3.2.1] at hs3;subst hs1 hs2 hs3;go_wp2_with fail;refine bodyPost_ret (v := .agg #[zS x1 n1 y1, zS x2 n2 y2, zS x3 n3 y3]) (by simp [results, Tryz.results147, go_sem, r0, r1, r2]) rfl ⟨_, f1 ++ (f2 ++ f3), rfl, OwnO.same (w := wr) ⟨_, _, _, f1, f2, f3, rfl, HE3.2.2.1.base (by omega), HE3.2.2.2.1.base (by omega), HE3.2.1.base (by omega), rfl, ?nd⟩ ?far, ?bel⟩
       case nd =>
        exact nodup_app HE3.2.2.1.nodup (nodup_app HE3.2.2.2.1.nodup HE3.2.1.nodup fun y h1 h2 => HE3.2.2.2.2.2 y h1 h2) fun y h1 h2 => by
         rcases List.mem_append.1 h2 with h2 | h2
         ·exact HD12.out y h1 h2
         ·exact HE3.2.2.2.2.1 y h1 h2
       case far =>
        intro b hb;have hlt : w.heap.size + 1 + 1 + 1 <= b := by
         rcases List.mem_append.1 hb with hb | hb
         ·exact (HE3.2.2.1.lt b hb).1
         ·rcases List.mem_append.1 hb with hb | hb
          ·exact (HE3.2.2.2.1.lt b hb).1
          ·exact (HE3.2.1.lt b hb).1
        iterate 3 rw [heap_setCell_other _ _ _ _ (by show b ≠ w.heap.size + 1; omega)]
       case bel =>
        iterate 3 refine Below.setCell ?_ (by show w.heap.size <= w.heap.size + 1; omega) _
        exact HE3.1.1
end Go.Proofs.YtabfamhaihnccaaGreat
namespace Go.Proofs.YtabfamhaihnccaaGreat
open Go.RowKit
theorem toStore_any (s : So) (v : Value) (B : Nat) (w : World) (hl : wtO s <= 1048576) (hB : B <= w.heap.size) (ha : ArgO B w v s) :
  Calls Tryz.prog 32 #[v] w fun e w' => ∃ u fp, e = .returned u /\ OwnO w' w.heap.size u s fp /\ zW w w' := by
 obtain ⟨a1, c1, a2, c2, a3, c3, rfl, h1, h2, h3⟩ := ha;obtain ⟨n1, e1⟩ := zE (s.certs.length);obtain ⟨n2, e2⟩ := zE (s.crls.length);obtain ⟨n3, e3⟩ := zE (s.ancs.length);unfold wtO at hl;rw [e1] at h1 |-;rw [e2] at h2 |-;rw [e3] at h3 |-;have T1 : Hid (∀ W, zW w W -> Calls Tryz.prog 79 #[zS a1 n1 c1] W fun e w' => ∃ q m fp, e = .returned (zS q n1 m) /\ OwnS certKd w' W.heap.size (zS q n1 m) s.certs fp /\ zW W w') := fun W hb => (toCertS_any _ s.certs B W (by omega) (Nat.le_trans hB hb.size) (h1.below (hb.mono hB) (Nat.le_refl _))).mono fun e w' h => by
  obtain ⟨u, fp, rfl, ho, hb⟩ := h;obtain ⟨q, m, hs⟩ := ho.at.shape;rw [e1] at hs;subst hs;exact ⟨q, m, fp, rfl, ho, hb⟩
 have T2 : Hid (∀ W, zW w W -> Calls Tryz.prog 80 #[zS a2 n2 c2] W fun e w' => ∃ q m fp, e = .returned (zS q n2 m) /\ OwnS crlKd w' W.heap.size (zS q n2 m) s.crls fp /\ zW W w') := fun W hb => (toCrlS_any _ s.crls B W (by omega) (Nat.le_trans hB hb.size) (h2.below (hb.mono hB) (Nat.le_refl _))).mono fun e w' h => by
  obtain ⟨u, fp, rfl, ho, hb⟩ := h;obtain ⟨q, m, hs⟩ := ho.at.shape;rw [e2] at hs;subst hs;exact ⟨q, m, fp, rfl, ho, hb⟩
 have T3 : Hid (∀ W, zW w W -> Calls Tryz.prog 81 #[zS a3 n3 c3] W fun e w' => ∃ q m fp, e = .returned (zS q n3 m) /\ OwnS anKd w' W.heap.size (zS q n3 m) s.ancs fp /\ zW W w') := fun W hb => (toAnchorS_any _ s.ancs B W (by omega) (Nat.le_trans hB hb.size) (h3.below (hb.mono hB) (Nat.le_refl _))).mono fun e w' h => by
  obtain ⟨u, fp, rfl, ho, hb⟩ := h;obtain ⟨q, m, hs⟩ := ho.at.shape;rw [e3] at hs;subst hs;exact ⟨q, m, fp, rfl, ho, hb⟩
 clear h1 h2 h3 hl e1 e2 e3;go_enter Tryz.func32, Tryz.ntmps32;go_wp2_with fail;obtain ⟨W3, hW3⟩ : ∃ W, W = (((w.alloc (Obj.cells #[zS a1 n1 c1, zS a2 n2 c2, zS a3 n3 c3] 26)).alloc (Obj.cells #[zZ, zZ, zZ] 37)).alloc (Obj.cells #[zZ, zZ, zZ] 37)) := ⟨_, rfl⟩;change Calls _ _ _ (((w.alloc (Obj.cells #[zS a1 n1 c1, zS a2 n2 c2, zS a3 n3 c3] 26)).alloc (Obj.cells #[zZ, zZ, zZ] 37)).alloc (Obj.cells #[zZ, zZ, zZ] 37)) _;rw [<- hW3];have e0 : (w.alloc (Obj.cells #[zS a1 n1 c1, zS a2 n2 c2, zS a3 n3 c3] 26)).heap.size = w.heap.size + 1 := Array.size_push _;have e1 : ((w.alloc (Obj.cells #[zS a1 n1 c1, zS a2 n2 c2, zS a3 n3 c3] 26)).alloc (Obj.cells #[zZ, zZ, zZ] 37)).heap.size = w.heap.size + 1 + 1 := by rw [size_alloc, e0]
 have G0 : Hid (Blk W3 w.heap.size 26 #[zS a1 n1 c1, zS a2 n2 c2, zS a3 n3 c3] /\ Blk W3 (w.heap.size + 1) 37 #[zZ, zZ, zZ] /\ Blk W3 (w.heap.size + 1 + 1) 37 #[zZ, zZ, zZ] /\ zW w W3 /\ w.heap.size + 1 + 1 + 1 <= W3.heap.size) := by
  rw [hW3];refine ⟨((Blk.new w _ _).alloc _).alloc _, ?_, ?_, (((Below.refl _ _).alloc (Nat.le_refl _) _).alloc (by rw [e0]; omega) _).alloc (by rw [e1]; omega) _, by rw [size_alloc, e1]; omega⟩
  ·have h := (Blk.new (w.alloc (Obj.cells #[zS a1 n1 c1, zS a2 n2 c2, zS a3 n3 c3] 26)) 37 #[zZ, zZ, zZ]).alloc (Obj.cells #[zZ, zZ, zZ] 37)
   rw [e0] at h;exact h
  ·have h := Blk.new ((w.alloc (Obj.cells #[zS a1 n1 c1, zS a2 n2 c2, zS a3 n3 c3] 26)).alloc (Obj.cells #[zZ, zZ, zZ] 37)) 37 #[zZ, zZ, zZ]
   rw [e1] at h;exact h
 clear hW3 e0 e1;have wd1 : w.heap.size ≠ w.heap.size + 1 + 1 := by omega
 have wd2 : w.heap.size + 1 ≠ w.heap.size + 1 + 1 := by omega
 refine (T1.out W3 G0.2.2.2.1).mono ?_;rintro r u1 ⟨q1, m1, f1, rfl, o1, hb⟩;have G1 : Hid (Blk u1 w.heap.size 26 #[zS a1 n1 c1, zS a2 n2 c2, zS a3 n3 c3] /\ Blk u1 (w.heap.size + 1) 37 #[zZ, zZ, zZ] /\ Blk u1 (w.heap.size + 1 + 1) 37 #[zZ, zZ, zZ] /\ zW w u1 /\ w.heap.size + 1 + 1 + 1 <= u1.heap.size) := by
  have hz := G0.2.2.2.2;exact ⟨G0.1.below hb (by omega), G0.2.1.below hb (by omega), G0.2.2.1.below hb (by omega), G0.2.2.2.1.trans (hb.mono G0.2.2.2.1.size), Nat.le_trans hz hb.size⟩
 have O1 : Hid (OwnS certKd u1 (w.heap.size + 1 + 1 + 1) (zS q1 n1 m1) s.certs f1) := o1.base G0.2.2.2.2;clear o1 hb G0 T1;have fr := fun j => G1.2.2.1.free j
 have x1 := fun j => G1.1.cell j
 have x2 := fun j => G1.2.2.1.cell j
 go_wp2_with fail;clear x1 x2 fr;obtain ⟨V1, hV1⟩ : ∃ W, W = u1.setCell ⟨w.heap.size + 1 + 1, 0, none⟩ (zS q1 n1 m1) := ⟨_, rfl⟩;rw [<- hV1];have K1 : Hid (Blk V1 w.heap.size 26 #[zS a1 n1 c1, zS a2 n2 c2, zS a3 n3 c3] /\ Blk V1 (w.heap.size + 1) 37 #[zZ, zZ, zZ] /\ Blk V1 (w.heap.size + 1 + 1) 37 #[zS q1 n1 m1, zZ, zZ] /\ zW w V1 /\ w.heap.size + 1 + 1 + 1 <= V1.heap.size) := by
  rw [hV1];have hz := G1.2.2.2.2;exact ⟨G1.1.other _ wd1, G1.2.1.other _ wd2, G1.2.2.1.set 0 _, Below.setCell G1.2.2.2.1 (by show w.heap.size <= w.heap.size + 1 + 1; omega) _, Nat.le_trans hz (sizeSet _ _ _)⟩
 have P1 : Hid (OwnS certKd V1 (w.heap.size + 1 + 1 + 1) (zS q1 n1 m1) s.certs f1) := by rw [hV1]; exact O1.same fun b hb => by have h := O1.lt b hb; rw [heap_setCell_other _ _ _ _ (by show b ≠ w.heap.size + 1 + 1; omega)]
 clear hV1 G1 O1;refine (T2.out V1 K1.2.2.2.1).mono ?_;rintro r u2 ⟨q2, m2, f2, rfl, o2, hb⟩;have G2 : Hid (Blk u2 w.heap.size 26 #[zS a1 n1 c1, zS a2 n2 c2, zS a3 n3 c3] /\ Blk u2 (w.heap.size + 1) 37 #[zZ, zZ, zZ] /\ Blk u2 (w.heap.size + 1 + 1) 37 #[zS q1 n1 m1, zZ, zZ] /\ zW w u2 /\ w.heap.size + 1 + 1 + 1 <= u2.heap.size) := by
  have hz := K1.2.2.2.2;exact ⟨K1.1.below hb (by omega), K1.2.1.below hb (by omega), K1.2.2.1.below hb (by omega), K1.2.2.2.1.trans (hb.mono K1.2.2.2.1.size), Nat.le_trans hz hb.size⟩
 have O2 : Hid (OwnS crlKd u2 (w.heap.size + 1 + 1 + 1) (zS q2 n2 m2) s.crls f2) := o2.base K1.2.2.2.2;have O1 : Hid (OwnS certKd u2 (w.heap.size + 1 + 1 + 1) (zS q1 n1 m1) s.certs f1) := P1.stays hb;have D12 : Hid (∀ b ∈ f1, b ∉ f2) := fun b h1 h2 => by have g1 := P1.lt b h1; have g2 := o2.lt b h2; omega
 clear o2 hb K1 T2 P1;have fr := fun j => G2.2.2.1.free j
 have x1 := fun j => G2.1.cell j
 have x2 := fun j => G2.2.2.1.cell j
 go_wp2_with fail;clear x1 x2 fr;obtain ⟨V2, hV2⟩ : ∃ W, W = u2.setCell ⟨w.heap.size + 1 + 1, 1, none⟩ (zS q2 n2 m2) := ⟨_, rfl⟩;rw [<- hV2];have K2 : Hid (Blk V2 w.heap.size 26 #[zS a1 n1 c1, zS a2 n2 c2, zS a3 n3 c3] /\ Blk V2 (w.heap.size + 1) 37 #[zZ, zZ, zZ] /\ Blk V2 (w.heap.size + 1 + 1) 37 #[zS q1 n1 m1, zS q2 n2 m2, zZ] /\ zW w V2 /\ w.heap.size + 1 + 1 + 1 <= V2.heap.size) := by
  rw [hV2];have hz := G2.2.2.2.2;exact ⟨G2.1.other _ wd1, G2.2.1.other _ wd2, G2.2.2.1.set 1 _, Below.setCell G2.2.2.2.1 (by show w.heap.size <= w.heap.size + 1 + 1; omega) _, Nat.le_trans hz (sizeSet _ _ _)⟩
 have P1 : Hid (OwnS certKd V2 (w.heap.size + 1 + 1 + 1) (zS q1 n1 m1) s.certs f1) := by rw [hV2]; exact O1.same fun b hb => by have h := O1.lt b hb; rw [heap_setCell_other _ _ _ _ (by show b ≠ w.heap.size + 1 + 1; omega)]
 have P2 : Hid (OwnS crlKd V2 (w.heap.size + 1 + 1 + 1) (zS q2 n2 m2) s.crls f2) := by rw [hV2]; exact O2.same fun b hb => by have h := O2.lt b hb; rw [heap_setCell_other _ _ _ _ (by show b ≠ w.heap.size + 1 + 1; omega)]
 clear hV2 G2 O1 O2;refine (T3.out V2 K2.2.2.2.1).mono ?_;rintro r u3 ⟨q3, m3, f3, rfl, o3, hb⟩;have G3 : Hid (Blk u3 w.heap.size 26 #[zS a1 n1 c1, zS a2 n2 c2, zS a3 n3 c3] /\ Blk u3 (w.heap.size + 1) 37 #[zZ, zZ, zZ] /\ Blk u3 (w.heap.size + 1 + 1) 37 #[zS q1 n1 m1, zS q2 n2 m2, zZ] /\ zW w u3 /\ w.heap.size + 1 + 1 + 1 <= u3.heap.size) := by
  have hz := K2.2.2.2.2;exact ⟨K2.1.below hb (by omega), K2.2.1.below hb (by omega), K2.2.2.1.below hb (by omega), K2.2.2.2.1.trans (hb.mono K2.2.2.2.1.size), Nat.le_trans hz hb.size⟩
 have O3 : Hid (OwnS anKd u3 (w.heap.size + 1 + 1 + 1) (zS q3 n3 m3) s.ancs f3) := o3.base K2.2.2.2.2;have O1 : Hid (OwnS certKd u3 (w.heap.size + 1 + 1 + 1) (zS q1 n1 m1) s.certs f1) := P1.stays hb;have D13 : Hid (∀ b ∈ f1, b ∉ f3) := fun b h1 h2 => by have g1 := P1.lt b h1; have g2 := o3.lt b h2; omega
 have O2 : Hid (OwnS crlKd u3 (w.heap.size + 1 + 1 + 1) (zS q2 n2 m2) s.crls f2) := P2.stays hb;have D23 : Hid (∀ b ∈ f2, b ∉ f3) := fun b h1 h2 => by have g1 := P2.lt b h1; have g2 := o3.lt b h2; omega
 clear o3 hb K2 T3 P1 P2;have fr := fun j => G3.2.2.1.free j
 have f0 := fun j => G3.2.1.free j
 have c10 := fun j => G3.2.1.cell j
 have c20 := fun j => G3.2.2.1.cell j
 have c11 := fun j => G3.2.1.cell j
 have c21 := fun j => G3.2.2.1.cell j
 have c12 := fun j => G3.2.1.cell j
 have c22 := fun j => G3.2.2.1.cell j
 go_wp2_with fail;refine bodyPost_ret (v := .agg #[zS q1 n1 m1, zS q2 n2 m2, zS q3 n3 m3]) (by simp [results, Tryz.results32, go_sem, c10, c11, c12]) rfl ⟨_, f1 ++ (f2 ++ f3), rfl, OwnO.same (w := u3) ⟨_, _, _, f1, f2, f3, rfl, O1.base (by omega), O2.base (by omega), O3.base (by omega), rfl, ?nd⟩ ?far, ?bel⟩
 case nd =>
  exact nodup_app O1.nodup (nodup_app O2.nodup O3.nodup fun y h1 h2 => D23.out y h1 h2) fun y h1 h2 => by
   rcases List.mem_append.1 h2 with h2 | h2
   ·exact D12.out y h1 h2
   ·exact D13.out y h1 h2
 case far =>
  intro b hb;have hlt : w.heap.size + 1 + 1 + 1 <= b := by
   rcases List.mem_append.1 hb with hb | hb
   ·exact (O1.lt b hb).1
   ·rcases List.mem_append.1 hb with hb | hb
    ·exact (O2.lt b hb).1
    ·exact (O3.lt b hb).1
  iterate 4 rw [heap_setCell_other _ _ _ _ (by first | (show b ≠ w.heap.size + 1; omega) | (show b ≠ w.heap.size + 1 + 1; omega))]
 case bel =>
  iterate 4 refine Below.setCell ?_ (by first | (show w.heap.size <= w.heap.size + 1; omega) | (show w.heap.size <= w.heap.size + 1 + 1; omega)) _
  exact G3.2.2.2.1
theorem szStore_any (s : So) (v : Value) (left : Int) (w : World) (hwd : WdO s) (h0 : 0 <= left) (hl : left <= 1048576) (ha : ArgO w.heap.size w v s) :
  Calls Tryz.prog 25 #[v, zI left] w fun e w' => e = .returned (zI (szO s left)) /\ zW w w' := by
 obtain ⟨a1, c1, a2, c2, a3, c3, rfl, h1, h2, h3⟩ := ha;obtain ⟨⟨wd1, l1⟩, ⟨wd2, l2⟩, wd3, l3⟩ := hwd;obtain ⟨n1, e1⟩ := zE (s.certs.length);obtain ⟨n2, e2⟩ := zE (s.crls.length);obtain ⟨n3, e3⟩ := zE (s.ancs.length);rw [e1] at h1 |-;rw [e2] at h2 |-;rw [e3] at h3 |-;obtain ⟨r1, hr1⟩ : ∃ r : Int, r = if (wtM s.certs : Int) <= left then left - (wtM s.certs : Int) else -1 := ⟨_, rfl⟩;have Z1 : Hid (∀ W, zW w W -> Calls Tryz.prog 69 #[zS a1 n1 c1, zI left] W fun e w' => e = .returned (zI r1) /\ zW W w') := fun W hb => by rw [hr1]; exact szCertS_any _ s.certs left W l1 wd1 h0 hl (h1.below hb hb.size)
 obtain ⟨r2, hr2⟩ : ∃ r : Int, r = if (wtS s.crls : Int) <= r1 then r1 - (wtS s.crls : Int) else -1 := ⟨_, rfl⟩;have Z2 : Hid (0 <= r1 -> ∀ W, zW w W -> Calls Tryz.prog 70 #[zS a2 n2 c2, zI r1] W fun e w' => e = .returned (zI r2) /\ zW W w') := fun hr W hb => by rw [hr2]; exact szCrlS_any _ s.crls r1 W l2 wd2 hr (by split at hr1 <;> omega) (h2.below hb hb.size)
 obtain ⟨r3, hr3⟩ : ∃ r : Int, r = if (wtN s.ancs : Int) <= r2 then r2 - (wtN s.ancs : Int) else -1 := ⟨_, rfl⟩;have Z3 : Hid (0 <= r1 -> 0 <= r2 -> ∀ W, zW w W -> Calls Tryz.prog 71 #[zS a3 n3 c3, zI r2] W fun e w' => e = .returned (zI r3) /\ zW W w') := fun hr hr' W hb => by rw [hr3]; exact szAnchorS_any _ s.ancs r2 W l3 wd3 hr' (by split at hr1 <;> split at hr2 <;> omega) (h3.below hb hb.size)
 have HF0 : Hid ((r1 < 0 -> szO s left = -1 /\ r1 = -1) /\ (0 <= r1 -> r2 < 0 -> szO s left = -1 /\ r2 = -1) /\ (0 <= r1 -> 0 <= r2 -> szO s left = r3 /\ (r3 < 0 -> r3 = -1))) := by
  unfold szO wtO;refine ⟨fun g => ?_, fun g g' => ?_, fun g g' => ?_⟩
  ·split at hr1
   ·omega
   ·refine ⟨if_neg (by omega), hr1⟩
  ·split at hr1
   ·split at hr2
    ·omega
    ·exact ⟨if_neg (by omega), hr2⟩
   ·omega
  ·split at hr1
   ·split at hr2
    ·split at hr3
     ·exact ⟨by rw [if_pos (by omega)]; omega, by omega⟩
     ·exact ⟨by rw [if_neg (by omega)]; omega, by omega⟩
    ·omega
   ·omega
 clear h1 h2 h3 wd1 wd2 wd3 l1 l2 l3 hr1 hr2 hr3 e1 e2 e3;obtain ⟨R, hR⟩ := zE (szO s left);rw [hR] at HF0 |-;clear hR;by_cases g1 : r1 < 0
 ·have HF : Hid (R = -1) := (HF0.1 g1).1
  have e1 := (HF0.1 g1).2;clear HF0 Z2 Z3 g1;subst e1;go_enter Tryz.func25, Tryz.ntmps25;go_wp2_with fail;obtain ⟨V, hV⟩ : ∃ V, V = (w.alloc (Obj.cells #[zS a1 n1 c1, zS a2 n2 c2, zS a3 n3 c3] 26)) := ⟨_, rfl⟩;rw [<- hV];have G0 : Hid (zW w V /\ Blk V w.heap.size 26 #[zS a1 n1 c1, zS a2 n2 c2, zS a3 n3 c3]) := by rw [hV]; exact ⟨(Below.refl _ _).alloc (Nat.le_refl _) _, Blk.new w _ _⟩
  clear hV;refine (Z1.out V G0.1).mono ?_;rintro e V1 ⟨rfl, hb⟩;have G1 := zH (zJ (G0.1.trans (hb.mono G0.1.size)) (G0.2.below hb G0.2.lt));clear hb G0;have d0 := fun j => G1.2.cell j
  go_wp2_with fail;go_ret;exact ⟨HF.out ▸ rfl, G1.1⟩
 ·have p1 : 0 <= r1 := by omega
  have Z2b : Hid _ := Z2.out p1;clear Z2;by_cases g2 : r2 < 0
  ·have HF : Hid (R = -1) := (HF0.2.1 p1 g2).1
   have e1 := (HF0.2.1 p1 g2).2;clear HF0 Z3 g2;subst e1;go_enter Tryz.func25, Tryz.ntmps25;go_wp2_with fail;obtain ⟨V, hV⟩ : ∃ V, V = (w.alloc (Obj.cells #[zS a1 n1 c1, zS a2 n2 c2, zS a3 n3 c3] 26)) := ⟨_, rfl⟩;rw [<- hV];have G0 : Hid (zW w V /\ Blk V w.heap.size 26 #[zS a1 n1 c1, zS a2 n2 c2, zS a3 n3 c3]) := by rw [hV]; exact ⟨(Below.refl _ _).alloc (Nat.le_refl _) _, Blk.new w _ _⟩
   clear hV;refine (Z1.out V G0.1).mono ?_;rintro e V1 ⟨rfl, hb⟩;have G1 := zH (zJ (G0.1.trans (hb.mono G0.1.size)) (G0.2.below hb G0.2.lt));clear hb G0;have d0 := fun j => G1.2.cell j
   go_wp2_with fail;clear d0;refine (Z2b.out V1 G1.1).mono ?_;rintro e V2 ⟨rfl, hb⟩;have G2 := zH (zJ (G1.1.trans (hb.mono G1.1.size)) (G1.2.below hb G1.2.lt));clear hb G1;have d0 := fun j => G2.2.cell j
   go_wp2_with fail;go_ret;exact ⟨HF.out ▸ rfl, G2.1⟩
  ·have p2 : 0 <= r2 := by omega
   have Z3b : Hid _ := Z3.out p1 p2;have HF : Hid (R = r3) := (HF0.2.2 p1 p2).1;have HF2 := (HF0.2.2 p1 p2).2;clear HF0 Z3;by_cases g3 : r3 < 0
   ·have e3 := HF2 g3
    clear HF2 g3;subst e3;go_enter Tryz.func25, Tryz.ntmps25;go_wp2_with fail;obtain ⟨V, hV⟩ : ∃ V, V = (w.alloc (Obj.cells #[zS a1 n1 c1, zS a2 n2 c2, zS a3 n3 c3] 26)) := ⟨_, rfl⟩;rw [<- hV];have G0 : Hid (zW w V /\ Blk V w.heap.size 26 #[zS a1 n1 c1, zS a2 n2 c2, zS a3 n3 c3]) := by rw [hV]; exact ⟨(Below.refl _ _).alloc (Nat.le_refl _) _, Blk.new w _ _⟩
    clear hV;refine (Z1.out V G0.1).mono ?_;rintro e V1 ⟨rfl, hb⟩;have G1 := zH (zJ (G0.1.trans (hb.mono G0.1.size)) (G0.2.below hb G0.2.lt));clear hb G0;have d0 := fun j => G1.2.cell j
    go_wp2_with fail;clear d0;refine (Z2b.out V1 G1.1).mono ?_;rintro e V2 ⟨rfl, hb⟩;have G2 := zH (zJ (G1.1.trans (hb.mono G1.1.size)) (G1.2.below hb G1.2.lt));clear hb G1;have d0 := fun j => G2.2.cell j
    go_wp2_with fail;clear d0;refine (Z3b.out V2 G2.1).mono ?_;rintro e V3 ⟨rfl, hb⟩;have G3 := zH (zJ (G2.1.trans (hb.mono G2.1.size)) (G2.2.below hb G2.2.lt));clear hb G2;go_wp2_with fail;go_ret;exact ⟨HF.out ▸ rfl, G3.1⟩
   ·clear HF2
    go_enter Tryz.func25, Tryz.ntmps25;go_wp2_with fail;obtain ⟨V, hV⟩ : ∃ V, V = (w.alloc (Obj.cells #[zS a1 n1 c1, zS a2 n2 c2, zS a3 n3 c3] 26)) := ⟨_, rfl⟩;rw [<- hV];have G0 : Hid (zW w V /\ Blk V w.heap.size 26 #[zS a1 n1 c1, zS a2 n2 c2, zS a3 n3 c3]) := by rw [hV]; exact ⟨(Below.refl _ _).alloc (Nat.le_refl _) _, Blk.new w _ _⟩
    clear hV;refine (Z1.out V G0.1).mono ?_;rintro e V1 ⟨rfl, hb⟩;have G1 := zH (zJ (G0.1.trans (hb.mono G0.1.size)) (G0.2.below hb G0.2.lt));clear hb G0;have d0 := fun j => G1.2.cell j
    go_wp2_with fail;clear d0;refine (Z2b.out V1 G1.1).mono ?_;rintro e V2 ⟨rfl, hb⟩;have G2 := zH (zJ (G1.1.trans (hb.mono G1.1.size)) (G1.2.below hb G1.2.lt));clear hb G1;have d0 := fun j => G2.2.cell j
    go_wp2_with fail;clear d0;refine (Z3b.out V2 G2.1).mono ?_;rintro e V3 ⟨rfl, hb⟩;have G3 := zH (zJ (G2.1.trans (hb.mono G2.1.size)) (G2.2.below hb G2.2.lt));clear hb G2;go_wp2_with fail;go_ret;exact ⟨HF.out ▸ rfl, G3.1⟩
theorem eqStore_wide (s : So) (a b : Value) (w : World) (hl : wtM s.certs <= 1000000000 /\ wtS s.crls <= 1000000000 /\ s.ancs.length <= 1000000000) (ha : SoAt w a s) (hb : SoAt w b s) :
  Calls Tryz.prog 38 #[a, b] w fun e w' => e = .returned (.bool true) /\ zW w w' := by
 obtain ⟨a1, c1, a2, c2, a3, c3, rfl⟩ := ha.shape;obtain ⟨b1, d1, b2, d2, b3, d3, rfl⟩ := hb.shape;obtain ⟨k1, k2, k3⟩ := ha.rows;obtain ⟨j1, j2, j3⟩ := hb.rows;have Q1 : Hid (∀ W, zW w W -> Calls Tryz.prog 92 #[zS a1 s.certs.length c1, zS b1 s.certs.length d1] W (fun e w' => e = .returned (.bool true) /\ zW W w')) := fun W h => eqCertS_same s.certs _ _ W hl.1 (k1.below h) (j1.below h)
 have Q2 : Hid (∀ W, zW w W -> Calls Tryz.prog 93 #[zS a2 s.crls.length c2, zS b2 s.crls.length d2] W (fun e w' => e = .returned (.bool true) /\ zW W w')) := fun W h => eqCrlS_same s.crls _ _ W hl.2.1 (k2.below h) (j2.below h)
 have Q3 : Hid (∀ W, zW w W -> Calls Tryz.prog 94 #[zS a3 s.ancs.length c3, zS b3 s.ancs.length d3] W (fun e w' => e = .returned (.bool true) /\ zW W w')) := fun W h => eqAnchorS_same s.ancs _ _ W hl.2.2 (k3.below h) (j3.below h)
 clear ha hb k1 k2 k3 j1 j2 j3 hl;obtain ⟨n1, e1⟩ := zE (s.certs.length);obtain ⟨n2, e2⟩ := zE (s.crls.length);obtain ⟨n3, e3⟩ := zE (s.ancs.length);rw [e1] at Q1 |-;rw [e2] at Q2 |-;rw [e3] at Q3 |-;clear e1 e2 e3;go_enter Tryz.func38, Tryz.ntmps38;go_wp2_with fail;obtain ⟨V, hV⟩ : ∃ V, V = ((w.alloc (Obj.cells #[zS a1 n1 c1, zS a2 n2 c2, zS a3 n3 c3] 37)).alloc (Obj.cells #[zS b1 n1 d1, zS b2 n2 d2, zS b3 n3 d3] 37)) := ⟨_, rfl⟩;rw [<- hV];have G0 : Hid (Blk V w.heap.size 37 #[zS a1 n1 c1, zS a2 n2 c2, zS a3 n3 c3] /\ Blk V (w.heap.size + 1) 37 #[zS b1 n1 d1, zS b2 n2 d2, zS b3 n3 d3] /\ zW w V /\ w.heap.size + 1 < V.heap.size) := by
  have e0 : (w.alloc (Obj.cells #[zS a1 n1 c1, zS a2 n2 c2, zS a3 n3 c3] 37)).heap.size = w.heap.size + 1 := Array.size_push _;have h := Blk.new (w.alloc (Obj.cells #[zS a1 n1 c1, zS a2 n2 c2, zS a3 n3 c3] 37)) 37 #[zS b1 n1 d1, zS b2 n2 d2, zS b3 n3 d3];rw [e0] at h;rw [hV];exact ⟨(Blk.new w _ _).alloc _, h, ((Below.refl _ _).alloc (Nat.le_refl _) _).alloc (by rw [e0]; omega) _, by rw [size_alloc, e0]; omega⟩
 clear hV;refine (Q1.out V G0.2.2.1).mono ?_;rintro e V1 ⟨rfl, hb⟩;have G1 := zH (zJ (G0.1.below hb (by have := G0.2.2.2; omega) : Blk V1 w.heap.size 37 #[zS a1 n1 c1, zS a2 n2 c2, zS a3 n3 c3]) (zJ (G0.2.1.below hb G0.2.2.2) (zJ (G0.2.2.1.trans (hb.mono G0.2.2.1.size)) (Nat.lt_of_lt_of_le G0.2.2.2 hb.size))));clear hb G0;have x1 := fun j => G1.1.cell j
 have x2 := fun j => G1.2.1.cell j
 go_wp2_with fail;clear x1 x2;refine (Q2.out V1 G1.2.2.1).mono ?_;rintro e V2 ⟨rfl, hb⟩;have G2 := zH (zJ (G1.1.below hb (by have := G1.2.2.2; omega) : Blk V2 w.heap.size 37 #[zS a1 n1 c1, zS a2 n2 c2, zS a3 n3 c3]) (zJ (G1.2.1.below hb G1.2.2.2) (zJ (G1.2.2.1.trans (hb.mono G1.2.2.1.size)) (Nat.lt_of_lt_of_le G1.2.2.2 hb.size))));clear hb G1;have x1 := fun j => G2.1.cell j
 have x2 := fun j => G2.2.1.cell j
 go_wp2_with fail;clear x1 x2;refine (Q3.out V2 G2.2.2.1).mono ?_;rintro e V3 ⟨rfl, hb⟩;have G3 := zH (zJ (G2.1.below hb (by have := G2.2.2.2; omega) : Blk V3 w.heap.size 37 #[zS a1 n1 c1, zS a2 n2 c2, zS a3 n3 c3]) (zJ (G2.2.1.below hb G2.2.2.2) (zJ (G2.2.2.1.trans (hb.mono G2.2.2.1.size)) (Nat.lt_of_lt_of_le G2.2.2.2 hb.size))));clear hb G2;go_wp2_with fail;go_ret;exact ⟨rfl, G3.2.2.1⟩
theorem upTo_any (hi n : Int) (w : World) : Calls Tryz.prog 37 #[zI hi, zI n] w fun e w' => e = .returned (.bool (inB n 0 hi)) /\ zW w w' := by
 by_cases h : 0 <= n
 ·by_cases h2 : n <= hi
  ·have HB : Hid (inB n 0 hi = true) := decide_eq_true ⟨h, h2⟩
   go_enter Tryz.func37, Tryz.ntmps37;go_wp2_with fail;go_ret;exact ⟨by rw [HB.out]; simp [*], Below.refl _ _⟩
  ·have HB : Hid (inB n 0 hi = false) := decide_eq_false (fun q => h2 q.2)
   go_enter Tryz.func37, Tryz.ntmps37;go_wp2_with fail;go_ret;exact ⟨by rw [HB.out]; simp [*], Below.refl _ _⟩
 ·have HB : Hid (inB n 0 hi = false) := decide_eq_false (fun q => h q.1)
  go_enter Tryz.func37, Tryz.ntmps37;go_wp2_with fail;go_ret;exact ⟨by rw [HB.out]; simp [*], Below.refl _ _⟩
theorem implCertOk_any (c : Ct) (v : Value) (w : World) (hz : wtC c <= 1000000000) (ha : CtAt w v c) :
  Calls Tryz.prog 129 #[v] w fun e w' => e = .returned (.bool (certOk c)) /\ zW w w' := by
 obtain ⟨pv, ev, dv, rfl, h1, h2, h3⟩ := ha;obtain ⟨z1, z2, z3, z4, z5, z6, z7, z8, z9⟩ := wt_parts hz;clear hz;obtain ⟨pa, pc, hpa⟩ : ∃ ao cap, pv = zS ao c.pol.length cap := by obtain ⟨ao, cap, h, _⟩ := h1; exact ⟨ao, cap, h⟩
 obtain ⟨ea, ec, hea⟩ : ∃ ao cap, ev = zS ao c.per.length cap := by obtain ⟨ao, cap, h, _⟩ := h2; exact ⟨ao, cap, h⟩
 obtain ⟨da, dc, hda⟩ : ∃ ao cap, dv = zS ao c.den.length cap := by obtain ⟨ao, cap, h, _⟩ := h3; exact ⟨ao, cap, h⟩
 obtain ⟨lp, hlp⟩ := zE (c.pol.length);obtain ⟨le, hle⟩ := zE (c.per.length);obtain ⟨ld, hld⟩ := zE (c.den.length);rw [hlp] at hpa;rw [hle] at hea;rw [hld] at hda;subst hpa hea hda;obtain ⟨B1, hB1⟩ := zE (inB c.serial 0 9999);have E1 : Hid (∀ W, zW w W -> Calls Tryz.prog 37 #[zI 9999, zI c.serial] W fun e w' => e = .returned (.bool B1) /\ zW W w') := fun W hb => by rw [<- hB1]; exact upTo_any _ _ W
 obtain ⟨B2, hB2⟩ := zE (inB c.frm 0 9999);have E2 : Hid (∀ W, zW w W -> Calls Tryz.prog 37 #[zI 9999, zI c.frm] W fun e w' => e = .returned (.bool B2) /\ zW W w') := fun W hb => by rw [<- hB2]; exact upTo_any _ _ W
 obtain ⟨B3, hB3⟩ := zE (inB c.upto 0 9999);have E3 : Hid (∀ W, zW w W -> Calls Tryz.prog 37 #[zI 9999, zI c.upto] W fun e w' => e = .returned (.bool B3) /\ zW W w') := fun W hb => by rw [<- hB3]; exact upTo_any _ _ W
 obtain ⟨B4, hB4⟩ := zE (nameOk c.issuer);have E4 : Hid (∀ W, zW w W -> Calls Tryz.prog 136 #[zG c.issuer] W fun e w' => e = .returned (.bool B4) /\ zW W w') := fun W hb => by rw [<- hB4]; exact implName_any c.issuer W (by omega)
 obtain ⟨B5, hB5⟩ := zE (nameOk c.subject);have E5 : Hid (∀ W, zW w W -> Calls Tryz.prog 136 #[zG c.subject] W fun e w' => e = .returned (.bool B5) /\ zW W w') := fun W hb => by rw [<- hB5]; exact implName_any c.subject W (by omega)
 obtain ⟨B7, hB7⟩ := zE (inB c.pathLen 0 99);have E7 : Hid (∀ W, zW w W -> Calls Tryz.prog 37 #[zI 99, zI c.pathLen] W fun e w' => e = .returned (.bool B7) /\ zW W w') := fun W hb => by rw [<- hB7]; exact upTo_any _ _ W
 obtain ⟨B8, hB8⟩ := zE (inB c.usage 0 7);have E8 : Hid (∀ W, zW w W -> Calls Tryz.prog 37 #[zI 7, zI c.usage] W fun e w' => e = .returned (.bool B8) /\ zW W w') := fun W hb => by rw [<- hB8]; exact upTo_any _ _ W
 obtain ⟨B9, hB9⟩ := zE (polOk c.pol);have E9 : Hid (∀ W, zW w W -> Calls Tryz.prog 160 #[zS pa lp pc] W fun e w' => e = .returned (.bool B9) /\ zW W w') := fun W hb => by rw [<- hB9]; exact implIok_any _ c.pol W (by omega) (h1.below hb)
 obtain ⟨B10, hB10⟩ := zE (namesOk c.per);have E10 : Hid (∀ W, zW w W -> Calls Tryz.prog 161 #[zS ea le ec] W fun e w' => e = .returned (.bool B10) /\ zW W w') := fun W hb => by rw [<- hB10]; exact implTok_any _ c.per W (by omega) (fun s hs => by have := z8 s hs; omega) (h2.below hb)
 obtain ⟨B11, hB11⟩ := zE (namesOk c.den);have E11 : Hid (∀ W, zW w W -> Calls Tryz.prog 161 #[zS da ld dc] W fun e w' => e = .returned (.bool B11) /\ zW W w') := fun W hb => by rw [<- hB11]; exact implTok_any _ c.den W (by omega) (fun s hs => by have := z9 s hs; omega) (h3.below hb)
 have HC : Hid (certOk c = (B1 && (B2 && (B3 && (B4 && (B5 && (decide (c.key.size = 15) && (B7 && (B8 && (B9 && (B10 && (B11 && decide (c.sig.size = 15))))))))))))) := by show certOk c = _; unfold certOk; rw [hB1, hB2, hB3, hB4, hB5, hB7, hB8, hB9, hB10, hB11]
 clear hB1 hB2 hB3 hB4 hB5 hB7 hB8 hB9 hB10 hB11 h1 h2 h3 hlp hle hld z8 z9;unfold ctV;go_enter Tryz.func129, Tryz.ntmps129;go_wp2_with fail;obtain ⟨V, hV⟩ : ∃ V, V = w.alloc (Obj.cells (zCt c (zS pa lp pc) (zS ea le ec) (zS da ld dc)) 52) := ⟨_, rfl⟩;rw [<- hV];have G : Hid (Blk V w.heap.size 52 (zCt c (zS pa lp pc) (zS ea le ec) (zS da ld dc)) /\ zW w V /\ w.heap.size < V.heap.size) := by rw [hV]; exact ⟨Blk.new w _ _, (Below.refl _ _).alloc (Nat.le_refl _) _, (Blk.new w _ _).lt⟩
 clear hV;refine (E1.out V G.2.1).mono ?_;rintro e V1 ⟨rfl, hb⟩;have G1 := zH (zJ (G.1.below hb G.2.2) (zJ (G.2.1.trans (hb.mono G.2.1.size)) (Nat.lt_of_lt_of_le G.2.2 hb.size)));clear hb G E1;have c_frm := fun j => G1.1.cell j
 cases B1 with
 | false =>
  go_wp2_with fail;go_ret;exact ⟨by rw [HC.out]; simp, G1.2.1⟩
 | true =>
  go_wp2_with fail;clear c_frm;refine (E2.out V1 G1.2.1).mono ?_;rintro e V2 ⟨rfl, hb⟩;have G2 := zH (zJ (G1.1.below hb G1.2.2) (zJ (G1.2.1.trans (hb.mono G1.2.1.size)) (Nat.lt_of_lt_of_le G1.2.2 hb.size)));clear hb G1 E2;have c_upto := fun j => G2.1.cell j
  cases B2 with
  | false =>
   go_wp2_with fail;go_ret;exact ⟨by rw [HC.out]; simp, G2.2.1⟩
  | true =>
   go_wp2_with fail;clear c_upto;refine (E3.out V2 G2.2.1).mono ?_;rintro e V3 ⟨rfl, hb⟩;have G3 := zH (zJ (G2.1.below hb G2.2.2) (zJ (G2.2.1.trans (hb.mono G2.2.1.size)) (Nat.lt_of_lt_of_le G2.2.2 hb.size)));clear hb G2 E3;have c_issuer := fun j => G3.1.cell j
   cases B3 with
   | false =>
    go_wp2_with fail;go_ret;exact ⟨by rw [HC.out]; simp, G3.2.1⟩
   | true =>
    go_wp2_with fail;clear c_issuer;refine (E4.out V3 G3.2.1).mono ?_;rintro e V4 ⟨rfl, hb⟩;have G4 := zH (zJ (G3.1.below hb G3.2.2) (zJ (G3.2.1.trans (hb.mono G3.2.1.size)) (Nat.lt_of_lt_of_le G3.2.2 hb.size)));clear hb G3 E4;have c_subject := fun j => G4.1.cell j
    cases B4 with
    | false =>
     go_wp2_with fail;go_ret;exact ⟨by rw [HC.out]; simp, G4.2.1⟩
    | true =>
     go_wp2_with fail;clear c_subject;refine (E5.out V4 G4.2.1).mono ?_;rintro e V5 ⟨rfl, hb⟩;have G5 := zH (zJ (G4.1.below hb G4.2.2) (zJ (G4.2.1.trans (hb.mono G4.2.1.size)) (Nat.lt_of_lt_of_le G4.2.2 hb.size)));clear hb G4 E5;have c_key := fun j => G5.1.cell j
     cases B5 with
     | false =>
      go_wp2_with fail;go_ret;exact ⟨by rw [HC.out]; simp, G5.2.1⟩
     | true =>
      by_cases s6 : c.key.size = 15;rotate_left
      ·have si : ¬ (c.key.size : Int) = 15 := by omega
       have HN : Hid (decide (c.key.size = 15) = false) := decide_eq_false s6;clear s6;go_wp2_with fail;go_ret;exact ⟨by rw [HC.out, HN.out]; simp, G5.2.1⟩
      have si6 : (c.key.size : Int) = 15 := by omega
      go_wp2_with fail;skip;refine (E7.out V5 G5.2.1).mono ?_;rintro e V7 ⟨rfl, hb⟩;have G7 := zH (zJ (G5.1.below hb G5.2.2) (zJ (G5.2.1.trans (hb.mono G5.2.1.size)) (Nat.lt_of_lt_of_le G5.2.2 hb.size)));clear hb G5 E7;have c_usage := fun j => G7.1.cell j
      cases B7 with
      | false =>
       go_wp2_with fail;go_ret;exact ⟨by rw [HC.out]; simp, G7.2.1⟩
      | true =>
       go_wp2_with fail;clear c_usage;refine (E8.out V7 G7.2.1).mono ?_;rintro e V8 ⟨rfl, hb⟩;have G8 := zH (zJ (G7.1.below hb G7.2.2) (zJ (G7.2.1.trans (hb.mono G7.2.1.size)) (Nat.lt_of_lt_of_le G7.2.2 hb.size)));clear hb G7 E8;have c_pol := fun j => G8.1.cell j
       cases B8 with
       | false =>
        go_wp2_with fail;go_ret;exact ⟨by rw [HC.out]; simp, G8.2.1⟩
       | true =>
        go_wp2_with fail;clear c_pol;refine (E9.out V8 G8.2.1).mono ?_;rintro e V9 ⟨rfl, hb⟩;have G9 := zH (zJ (G8.1.below hb G8.2.2) (zJ (G8.2.1.trans (hb.mono G8.2.1.size)) (Nat.lt_of_lt_of_le G8.2.2 hb.size)));clear hb G8 E9;have c_per := fun j => G9.1.cell j
        cases B9 with
        | false =>
         go_wp2_with fail;go_ret;exact ⟨by rw [HC.out]; simp, G9.2.1⟩
        | true =>
         go_wp2_with fail;clear c_per;refine (E10.out V9 G9.2.1).mono ?_;rintro e V10 ⟨rfl, hb⟩;have G10 := zH (zJ (G9.1.below hb G9.2.2) (zJ (G9.2.1.trans (hb.mono G9.2.1.size)) (Nat.lt_of_lt_of_le G9.2.2 hb.size)));clear hb G9 E10;have c_den := fun j => G10.1.cell j
         cases B10 with
         | false =>
          go_wp2_with fail;go_ret;exact ⟨by rw [HC.out]; simp, G10.2.1⟩
         | true =>
          go_wp2_with fail;clear c_den;refine (E11.out V10 G10.2.1).mono ?_;rintro e V11 ⟨rfl, hb⟩;have G11 := zH (zJ (G10.1.below hb G10.2.2) (zJ (G10.2.1.trans (hb.mono G10.2.1.size)) (Nat.lt_of_lt_of_le G10.2.2 hb.size)));clear hb G10 E11;have c_sig := fun j => G11.1.cell j
          cases B11 with
          | false =>
           go_wp2_with fail;go_ret;exact ⟨by rw [HC.out]; simp, G11.2.1⟩
          | true =>
           by_cases s12 : c.sig.size = 15;rotate_left
           ·have si : ¬ (c.sig.size : Int) = 15 := by omega
            have HN : Hid (decide (c.sig.size = 15) = false) := decide_eq_false s12;clear s12;go_wp2_with fail;go_ret;exact ⟨by rw [HC.out, HN.out]; simp [si], G11.2.1⟩
           have si12 : (c.sig.size : Int) = 15 := by omega
           go_wp2_with fail;go_ret;exact ⟨by rw [HC.out, decide_eq_true s6, decide_eq_true s12]; rfl, G11.2.1⟩
end Go.Proofs.YtabfamhaihnccaaGreat
