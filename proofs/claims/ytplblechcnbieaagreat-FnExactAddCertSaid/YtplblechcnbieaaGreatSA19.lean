/-
  Texts of the proof.
-/
import Derived.Deep.RegionLaw
import Derived.Test.YtplblechcnbieaaGreatSA18
set_option maxRecDepth 100000
set_option maxHeartbeats 25600000
namespace Go.Proofs.YtplblechcnbieaaGreat
open Go.RowKit
set_option linter.unusedVariables false
set_option linter.unusedSimpArgs false
def KW (w W : World) (P Q : Array Value) : Prop := Below w.heap.size w W /\ Blk W w.heap.size 33 P /\ Blk W (w.heap.size + 1) 33 #[.slice none 0 0, .slice none 0 0, .slice none 0 0] /\ Blk W (w.heap.size + 1 + 1) 33 Q /\ w.heap.size + 1 + 1 + 1 <= W.heap.size
theorem KW.below {w W W' : World} {P Q : Array Value} (h : KW w W P Q) (hb : Below W.heap.size W W') : KW w W' P Q := ⟨h.1.trans (hb.mono h.1.size), h.2.1.below hb h.2.1.lt, h.2.2.1.below hb h.2.2.1.lt, h.2.2.2.1.below hb h.2.2.2.1.lt, Nat.le_trans h.2.2.2.2 hb.size⟩
theorem KW.grown {w W W' : World} {P Q : Array Value} {row : Option Nat} (h : KW w W P Q) (hg : W.grownBy W' row) (hr : ∀ q, q < w.heap.size + 1 + 1 + 1 -> row ≠ some q) : KW w W' P Q :=
 ⟨h.1.grown hg h.1.size (fun q e => Nat.le_of_not_lt fun h2 => hr q (by omega) e), (hg.block _ h.2.1.lt (fun e => hr _ (by omega) e.symm)).trans h.2.1, (hg.block _ h.2.2.1.lt (fun e => hr _ (by omega) e.symm)).trans h.2.2.1, (hg.block _ h.2.2.2.1.lt (fun e => hr _ (by omega) e.symm)).trans h.2.2.2.1, Nat.le_trans h.2.2.2.2 hg.size⟩
theorem KW.set {w W : World} {P : Array Value} {x y z : Value} (h : KW w W P #[x, y, z]) (i : Nat) (v : Value) : KW w (W.setCell ⟨w.heap.size + 1 + 1, i, none⟩ v) P (#[x, y, z].setIfInBounds i v) :=
 ⟨Below.setCell h.1 (by show w.heap.size <= w.heap.size + 1 + 1; omega) _, h.2.1.other _ (by show w.heap.size ≠ w.heap.size + 1 + 1; omega), h.2.2.1.other _ (by show w.heap.size + 1 ≠ w.heap.size + 1 + 1; omega), h.2.2.2.1.set i v, Nat.le_trans h.2.2.2.2 (sizeSet _ _ _)⟩
theorem ownStore_any (s : So) (p q r : Value) (w : World) (hl : s.certs.length <= 2000000 /\ s.crls.length <= 2000000 /\ s.ancs.length <= 2000000) (hw : (∀ c ∈ s.certs, wtC c <= 1048576) /\ (∀ c ∈ s.crls, wtL c <= 1048576) /\ ∀ a ∈ s.ancs, wtA a <= 1048576) (h1 : ShS certKd w p s.certs) (h2 : ShS crlKd w q s.crls) (h3 : ShS anKd w r s.ancs) :
  Calls Tryz.prog 99 #[.agg #[p, q, r]] w fun e w' => ∃ u fp, e = .returned u /\ OwnO w' w.heap.size u s fp /\ Below w.heap.size w w' := by
 obtain ⟨i1, hi1, hz01, hz11, hz21⟩ := info_parts infoCert
 obtain ⟨i2, hi2, hz02, hz12, hz22⟩ := info_parts infoCrl
 obtain ⟨i3, hi3, hz03, hz13, hz23⟩ := info_parts infoAn
 obtain ⟨a1, c1, hp⟩ := h1.shape
 obtain ⟨a2, c2, hq⟩ := h2.shape
 obtain ⟨a3, c3, hr⟩ := h3.shape
 obtain ⟨n1, e1⟩ := zE (s.certs.length)
 obtain ⟨n2, e2⟩ := zE (s.crls.length)
 obtain ⟨n3, e3⟩ := zE (s.ancs.length)
 rw [e1] at hp hl
 rw [e2] at hq hl
 rw [e3] at hr hl
 subst hp hq hr
 obtain ⟨l1, l2, l3⟩ := hl
 have HX1 : Hid (ShS certKd w (.slice a1 n1 c1) s.certs /\ s.certs.length = n1 /\ (∀ c ∈ s.certs, wtC c <= 1048576)) := ⟨h1, e1, hw.1⟩
 have HX2 : Hid (ShS crlKd w (.slice a2 n2 c2) s.crls /\ s.crls.length = n2 /\ (∀ c ∈ s.crls, wtL c <= 1048576)) := ⟨h2, e2, hw.2.1⟩
 have HX3 : Hid (ShS anKd w (.slice a3 n3 c3) s.ancs /\ s.ancs.length = n3 /\ (∀ c ∈ s.ancs, wtA c <= 1048576)) := ⟨h3, e3, hw.2.2⟩
 clear h1 h2 h3 e1 e2 e3 hw
 obtain ⟨V0, hV0⟩ : ∃ V, V = ((w.alloc (Obj.cells #[.slice a1 n1 c1, .slice a2 n2 c2, .slice a3 n3 c3] 33)).alloc (Obj.cells #[.slice none 0 0, .slice none 0 0, .slice none 0 0] 33)).alloc (Obj.cells #[.slice none 0 0, .slice none 0 0, .slice none 0 0] 33) := ⟨_, rfl⟩
 have H0 : Hid (KW w V0 #[.slice a1 n1 c1, .slice a2 n2 c2, .slice a3 n3 c3] #[.slice none 0 0, .slice none 0 0, .slice none 0 0] /\ OwnS certKd V0 (w.heap.size + 1 + 1 + 1) (.slice none 0 0) (s.certs.take 0) []) := by
  have e0 : (w.alloc (Obj.cells #[.slice a1 n1 c1, .slice a2 n2 c2, .slice a3 n3 c3] 33)).heap.size = w.heap.size + 1 := Array.size_push _
  have e1 : ((w.alloc (Obj.cells #[.slice a1 n1 c1, .slice a2 n2 c2, .slice a3 n3 c3] 33)).alloc (Obj.cells #[.slice none 0 0, .slice none 0 0, .slice none 0 0] 33)).heap.size = w.heap.size + 1 + 1 := by rw [size_alloc, e0]
  rw [hV0]
  refine ⟨⟨(((Below.refl _ _).alloc (Nat.le_refl _) _).alloc (by rw [e0]; omega) _).alloc (by rw [e1]; omega) _, ((Blk.new w _ _).alloc _).alloc _, ?_, ?_, by rw [size_alloc, e1]; omega⟩, OwnS.nil certKd _ _⟩
  ·have h := (Blk.new (w.alloc (Obj.cells #[.slice a1 n1 c1, .slice a2 n2 c2, .slice a3 n3 c3] 33)) 33 #[.slice none 0 0, .slice none 0 0, .slice none 0 0]).alloc (Obj.cells #[.slice none 0 0, .slice none 0 0, .slice none 0 0] 33)
   rw [e0] at h
   exact h
  ·have h := Blk.new ((w.alloc (Obj.cells #[.slice a1 n1 c1, .slice a2 n2 c2, .slice a3 n3 c3] 33)).alloc (Obj.cells #[.slice none 0 0, .slice none 0 0, .slice none 0 0] 33)) 33 #[.slice none 0 0, .slice none 0 0, .slice none 0 0]
   rw [e1] at h
   exact h
 go_enter Tryz.func99, Tryz.ntmps99
 go_wp2_with fail
 change Code.wp _ _ _ _ (((w.alloc (Obj.cells #[.slice a1 n1 c1, .slice a2 n2 c2, .slice a3 n3 c3] 33)).alloc (Obj.cells #[.slice none 0 0, .slice none 0 0, .slice none 0 0] 33)).alloc (Obj.cells #[.slice none 0 0, .slice none 0 0, .slice none 0 0] 33))
 rw [<- hV0]
 clear hV0
 go_loopw [14] (fun iv wr => ∃ k : Nat, k <= n1 /\ iv = .int .i64 k /\ ∃ cv f, Hid (KW w wr #[.slice a1 n1 c1, .slice a2 n2 c2, .slice a3 n3 c3] #[cv, .slice none 0 0, .slice none 0 0] /\ OwnS certKd wr (w.heap.size + 1 + 1 + 1) cv (s.certs.take k) f)) (fun iv _ => n1 - (intOf iv).toNat)
 case atStart => exact ⟨0, Nat.zero_le _, rfl, _, _, H0.out⟩
 case round =>
  obtain ⟨k, hk, rfl, cv, f1, H⟩ := hrel
  by_cases hkn : k < n1
  ·have hkl : k < s.certs.length := by rw [HX1.out.2.1]; exact hkn
   obtain ⟨g, o, u, hax, hg, hP, hs, hc⟩ := HX1.out.1.get hkl
   obtain ⟨p1, q1, p2, q2, p3, q3, hu⟩ := CtAt.shape (OwnC.at hP)
   subst hax
   have hki : (k : Int) < (n1 : Int) := by omega
   have hk0 : (0 : Int) <= (k : Int) := by omega
   have hPw := certKd.same hP (fun y hy => H.out.1.1.block y (certKd.lt hP y hy).2)
   obtain ⟨c, hce⟩ := zE (s.certs[k])
   have hwc := HX1.out.2.2 _ (List.getElem_mem hkl)
   have hrg0 := fun i x hx => (H.out.1.1.cell (p := ⟨g, o + k * 13 + i, none⟩) hg).trans (hc i x hx)
   rw [hce] at hu hPw hwc
   subst hu
   have hrg : wr.rangeAt g (o + k * 13) #[.int .i64 c.serial, .string c.issuer, .string c.subject, .int .i64 c.frm, .int .i64 c.upto, .string c.key, .bool c.ca, .int .i64 c.pathLen, .int .i64 c.usage, .slice p1 c.pol.length q1, .slice p2 c.per.length q2, .slice p3 c.den.length q3, .string c.sig].toList := fun j x hx => hrg0 j x (by rw [<- hx]; exact Array.getElem?_toList.symm)
   obtain ⟨V, hV⟩ : ∃ V, V = (wr.alloc (Obj.cells #[.int .i64 0, .string ⟨#[]⟩, .string ⟨#[]⟩, .int .i64 0, .int .i64 0, .string ⟨#[]⟩, .bool false, .int .i64 0, .int .i64 0, .slice none 0 0, .slice none 0 0, .slice none 0 0, .string ⟨#[]⟩] 44)).setCells wr.heap.size 0 #[.int .i64 c.serial, .string c.issuer, .string c.subject, .int .i64 c.frm, .int .i64 c.upto, .string c.key, .bool c.ca, .int .i64 c.pathLen, .int .i64 c.usage, .slice p1 c.pol.length q1, .slice p2 c.per.length q2, .slice p3 c.den.length q3, .string c.sig].toList := ⟨_, rfl⟩
   have hBV : Below wr.heap.size wr V /\ Blk V wr.heap.size 44 #[.int .i64 c.serial, .string c.issuer, .string c.subject, .int .i64 c.frm, .int .i64 c.upto, .string c.key, .bool c.ca, .int .i64 c.pathLen, .int .i64 c.usage, .slice p1 c.pol.length q1, .slice p2 c.per.length q2, .slice p3 c.den.length q3, .string c.sig] := fresh_store hV rfl
   have hth := (Blk.new wr 44 #[.int .i64 0, .string ⟨#[]⟩, .string ⟨#[]⟩, .int .i64 0, .int .i64 0, .string ⟨#[]⟩, .bool false, .int .i64 0, .int .i64 0, .slice none 0 0, .slice none 0 0, .slice none 0 0, .string ⟨#[]⟩]).there (n := 13) rfl
   have HV : Hid ((KW w V #[.slice (some ⟨g, o, none⟩) n1 c1, .slice a2 n2 c2, .slice a3 n3 c3] #[cv, .slice none 0 0, .slice none 0 0] /\ OwnS certKd V (w.heap.size + 1 + 1 + 1) cv (s.certs.take k) f1) /\ Blk V wr.heap.size 44 #[.int .i64 c.serial, .string c.issuer, .string c.subject, .int .i64 c.frm, .int .i64 c.upto, .string c.key, .bool c.ca, .int .i64 c.pathLen, .int .i64 c.usage, .slice p1 c.pol.length q1, .slice p2 c.per.length q2, .slice p3 c.den.length q3, .string c.sig] /\ certKd.Own V 0 (.agg #[.int .i64 c.serial, .string c.issuer, .string c.subject, .int .i64 c.frm, .int .i64 c.upto, .string c.key, .bool c.ca, .int .i64 c.pathLen, .int .i64 c.usage, .slice p1 c.pol.length q1, .slice p2 c.per.length q2, .slice p3 c.den.length q3, .string c.sig]) c) := ⟨⟨H.out.1.below hBV.1, H.out.2.stays hBV.1⟩, hBV.2, certKd.same hPw (fun y hy => hBV.1.block y (certKd.lt hPw y hy).2)⟩
   have HN : Hid (s.certs.take (k + 1) = s.certs.take k ++ [c] /\ (s.certs.take k).length = k) := ⟨by rw [<- hce]; exact List.take_succ_eq_append_getElem hkl, by rw [List.length_take]; omega⟩
   have hgc2 : w.heap.size + 1 + 1 + 1 <= wr.heap.size := H.out.1.2.2.2.2
   clear hP hPw hrg0 hs hc hce hg H hBV
   go_upto_region 5 with (first | refine wpList_load_mid rfl 44 _ rfl g (o + k * 13) rfl _ _ hrg Tryz.underlying44 rfl (by kernel_rfl) ?_ | (refine step_storeV rfl 44 _ _ rfl wr.heap.size 0 #[.int .i64 c.serial, .string c.issuer, .string c.subject, .int .i64 c.frm, .int .i64 c.upto, .string c.key, .bool c.ca, .int .i64 c.pathLen, .int .i64 c.usage, .slice p1 c.pol.length q1, .slice p2 c.per.length q2, .slice p3 c.den.length q3, .string c.sig] rfl rfl hth (by kernel_rfl) (by simp [Value.oneCell']) hV ?_; clear hV hth))
   obtain ⟨gC, hgC⟩ := zE (wr.heap.size)
   rw [hgC] at HV hgc2 |-
   clear hgC
   have E3 : Calls Tryz.prog 115 #[.agg #[.int .i64 c.serial, .string c.issuer, .string c.subject, .int .i64 c.frm, .int .i64 c.upto, .string c.key, .bool c.ca, .int .i64 c.pathLen, .int .i64 c.usage, .slice p1 c.pol.length q1, .slice p2 c.per.length q2, .slice p3 c.den.length q3, .string c.sig]] V.drew fun e w' => ∃ r1 t1 r2 t2 r3 t3, e = .returned (.agg #[.int .i64 c.serial, .string c.issuer, .string c.subject, .int .i64 c.frm, .int .i64 c.upto, .string c.key, .bool c.ca, .int .i64 c.pathLen, .int .i64 c.usage, .slice r1 c.pol.length t1, .slice r2 c.per.length t2, .slice r3 c.den.length t3, .string c.sig]) /\ certKd.Own w' V.heap.size (.agg #[.int .i64 c.serial, .string c.issuer, .string c.subject, .int .i64 c.frm, .int .i64 c.upto, .string c.key, .bool c.ca, .int .i64 c.pathLen, .int .i64 c.usage, .slice r1 c.pol.length t1, .slice r2 c.per.length t2, .slice r3 c.den.length t3, .string c.sig]) c /\ Below V.heap.size V w' := by
    have hd0 : Below V.heap.size V V.drew := (Below.refl _ _).drew
    have h : certKd.Own V.drew 0 (.agg #[.int .i64 c.serial, .string c.issuer, .string c.subject, .int .i64 c.frm, .int .i64 c.upto, .string c.key, .bool c.ca, .int .i64 c.pathLen, .int .i64 c.usage, .slice p1 c.pol.length q1, .slice p2 c.per.length q2, .slice p3 c.den.length q3, .string c.sig]) c := certKd.same HV.out.2.2 (fun y hy => hd0.block y (certKd.lt HV.out.2.2 y hy).2)
    have h9 : Calls Tryz.prog 115 #[.agg #[.int .i64 c.serial, .string c.issuer, .string c.subject, .int .i64 c.frm, .int .i64 c.upto, .string c.key, .bool c.ca, .int .i64 c.pathLen, .int .i64 c.usage, .slice p1 c.pol.length q1, .slice p2 c.per.length q2, .slice p3 c.den.length q3, .string c.sig]] V.drew _ := ownCert_any c _ 0 V.drew hwc h
    refine h9.mono ?_
    rintro e w' ⟨u, rfl, ho, hb⟩
    obtain ⟨r1, t1, r2, t2, r3, t3, hu3⟩ := CtAt.shape (OwnC.at ho)
    subst hu3
    exact ⟨r1, t1, r2, t2, r3, t3, rfl, ho, hd0.trans hb⟩
   have HF : Hid (∀ W, Below V.heap.size V W -> W.cell? ⟨w.heap.size + 1 + 1, 0, none⟩ = some cv /\ W.frozen? ⟨w.heap.size + 1 + 1, 0, none⟩ = false) := fun W hb => by
    have h := (HV.out.1.1.below hb).2.2.2.1
    exact ⟨h.cell 0, h.free 0⟩
   have hd0 : Below V.heap.size V V.drew := (Below.refl _ _).drew
   have y0 := (HF.out V.drew hd0).1
   obtain ⟨m0, m1, m2, m3, m4, m5, m6, m7, m8, m9, m10, m11, m12⟩ := zc13 ((HV.out.2.1.below hd0 HV.out.2.1.lt))
   clear hrg hwc
   go_region_law (first
    | (refine step_call rfl 115 _ _ rfl #[.agg #[.int .i64 c.serial, .string c.issuer, .string c.subject, .int .i64 c.frm, .int .i64 c.upto, .string c.key, .bool c.ca, .int .i64 c.pathLen, .int .i64 c.usage, .slice p1 c.pol.length q1, .slice p2 c.per.length q2, .slice p3 c.den.length q3, .string c.sig]] rfl (by kernel_rfl) ?_; refine E3.mono ?_; rintro e w3 ⟨r1, t1, r2, t2, r3, t3, rfl, ho3, hb3⟩; have y3 := (HF.out w3 hb3).1; have y4 := fun ob => (HF.out (w3.alloc ob) (hb3.alloc hb3.size ob)).1; dsimp only)
    | (refine step_app certKd rfl _ _ 29 rfl i1 (.agg #[.int .i64 0, .string ⟨#[]⟩, .string ⟨#[]⟩, .int .i64 0, .int .i64 0, .string ⟨#[]⟩, .bool false, .int .i64 0, .int .i64 0, .slice none 0 0, .slice none 0 0, .slice none 0 0, .string ⟨#[]⟩]) 184 Tryz.underlying29 hi1 hz01 hz11 hz21 rfl (by decide) (w.heap.size + 1 + 1 + 1) cv (s.certs.take k) f1 c (.agg #[.int .i64 c.serial, .string c.issuer, .string c.subject, .int .i64 c.frm, .int .i64 c.upto, .string c.key, .bool c.ca, .int .i64 c.pathLen, .int .i64 c.usage, .slice r1 c.pol.length t1, .slice r2 c.per.length t2, .slice r3 c.den.length t3, .string c.sig]) rfl w3.heap.size rfl (Blk.new w3 44 #[.int .i64 c.serial, .string c.issuer, .string c.subject, .int .i64 c.frm, .int .i64 c.upto, .string c.key, .bool c.ca, .int .i64 c.pathLen, .int .i64 c.usage, .slice r1 c.pol.length t1, .slice r2 c.per.length t2, .slice r3 c.den.length t3, .string c.sig]).range (HV.out.1.2.stays (hb3.alloc hb3.size _)) (certKd.base (certKd.same ho3 (fun y hy => ((Below.refl w3.heap.size w3).alloc (Nat.le_refl _) _).block y (certKd.lt ho3 y hy).2)) (Nat.le_trans HV.out.1.1.2.2.2.2 (Nat.le_refl _))) (fun y h1 h2 => by have g1 := (certKd.lt ho3 y h1).1; have g2 := (HV.out.1.2.lt y h2).2; omega) (Nat.le_trans HV.out.1.1.2.2.2.2 (hb3.alloc hb3.size _).size) k HN.out.2 (by omega) ?_; intro g6 cap6 w6 fp6 hG6 hgrow6 hf6; have hb5 := hb3.alloc hb3.size (Obj.cells #[.int .i64 c.serial, .string c.issuer, .string c.subject, .int .i64 c.frm, .int .i64 c.upto, .string c.key, .bool c.ca, .int .i64 c.pathLen, .int .i64 c.usage, .slice r1 c.pol.length t1, .slice r2 c.per.length t2, .slice r3 c.den.length t3, .string c.sig] 44); have hne6 : ∀ q, q < w.heap.size + 1 + 1 + 1 -> cv.ownBlock ≠ some q := (fun q hq e => by obtain ⟨_, _, hr9, _⟩ := HV.out.1.2; have := (hr9.lt q e).1; omega); have y6 : w6.cell? ⟨w.heap.size + 1 + 1, 0, none⟩ = some cv := (by have h7 := ((HV.out.1.1.below hb5).2.2.2.1); exact Blk.cell (b := w.heap.size + 1 + 1) (t := 33) ((hgrow6.block _ h7.lt (fun e => hne6 _ (by omega) e.symm)).trans h7) 0); have fz6 := Blk.free (b := w.heap.size + 1 + 1) ((hgrow6.block _ ((HV.out.1.1.below hb5).2.2.2.1).lt (fun e => hne6 _ (by omega) e.symm)).trans ((HV.out.1.1.below hb5).2.2.2.1))))
   all_goals (
    have H6 : Hid ((KW w w6 #[.slice (some ⟨g, o, none⟩) n1 c1, .slice a2 n2 c2, .slice a3 n3 c3] #[cv, .slice none 0 0, .slice none 0 0]) /\ OwnS certKd w6 (w.heap.size + 1 + 1 + 1) (.slice (some ⟨g6, 0, none⟩) (k + 1) cap6) (s.certs.take (k + 1)) fp6) := by
     have hb5 := hb3.alloc hb3.size (Obj.cells #[.int .i64 c.serial, .string c.issuer, .string c.subject, .int .i64 c.frm, .int .i64 c.upto, .string c.key, .bool c.ca, .int .i64 c.pathLen, .int .i64 c.usage, .slice r1 c.pol.length t1, .slice r2 c.per.length t2, .slice r3 c.den.length t3, .string c.sig] 44)
     have hK5 := HV.out.1.1.below hb5
     have hrl : ∀ q, cv.ownBlock = some q -> w.heap.size + 1 + 1 + 1 <= q /\ q ∈ f1 := fun q e => by
      obtain ⟨_, _, hr9, _, hf9, _⟩ := HV.out.1.2
      exact ⟨(hr9.lt q e).1, by rw [hf9]; exact List.mem_append_left _ (Option.mem_toList.2 e)⟩
     rw [<- HN.out.1] at hG6
     have hnw : ∀ b ∈ fp6, b ∈ f1 ∨ V.heap.size <= b := fun b hb => by
      rcases hf6 b hb with h | h | h
      ·exact .inl h
      ·exact .inr (certKd.lt ho3 b h).1
      ·exact .inr (by rw [h]; exact hb5.size)
     exact ⟨hK5.grown hgrow6 (fun q hq e => by have := (hrl q e).1; omega), hG6⟩
    clear hG6 hgrow6 y6 fz6 y3 y4 ho3 hb3 y0 E3 hf6 hb5 hne6 m0 m1 m2 m3 m4 m5 m6 m7 m8 m9 m10 m11 m12
    go_wp2_with fail
    refine ⟨⟨k + 1, by omega, by go_num, .slice (some ⟨g6, 0, none⟩) (k + 1) cap6, fp6, ?_⟩, by simp [intOf]; omega⟩
    have hne : ∀ b, w.heap.size + 1 + 1 + 1 <= b -> b ≠ w.heap.size + 1 + 1 := fun b hb => by omega
    exact ⟨H6.out.1.set 0 _, H6.out.2.same (fun b hb => heap_setCell_other _ _ _ _ (hne b (H6.out.2.lt b hb).1))⟩)
  ·have hkl : n1 = k := by omega
   subst hkl
   have HE1 : Hid (KW w wr #[.slice a1 n1 c1, .slice a2 n2 c2, .slice a3 n3 c3] #[cv, .slice none 0 0, .slice none 0 0] /\ OwnS certKd wr (w.heap.size + 1 + 1 + 1) cv s.certs f1) := by
    have h := H.out
    rw [List.take_of_length_le (by rw [HX1.out.2.1]; exact Nat.le_refl _)] at h
    exact h
   clear H
   obtain ⟨v1, hv1⟩ : ∃ q, q = cv := ⟨_, rfl⟩
   rw [<- hv1] at HE1
   clear hv1
   have z1 : wr.cell? ⟨w.heap.size, 1, none⟩ = some (.slice a2 n2 c2) := HE1.out.1.2.1.cell 1
   go_wp2_with fail
   clear z1
   go_loopw [29] (fun iv wr => ∃ k : Nat, k <= n2 /\ iv = .int .i64 k /\ ∃ cv f, Hid (KW w wr #[.slice a1 n1 c1, .slice a2 n2 c2, .slice a3 n3 c3] #[v1, cv, .slice none 0 0] /\ OwnS crlKd wr (w.heap.size + 1 + 1 + 1) cv (s.crls.take k) f /\ OwnS certKd wr (w.heap.size + 1 + 1 + 1) v1 s.certs f1 /\ (∀ b ∈ f1, b ∉ f))) (fun iv _ => n2 - (intOf iv).toNat)
   case atStart => exact ⟨0, Nat.zero_le _, rfl, _, [], HE1.out.1, OwnS.nil crlKd _ _, HE1.out.2, (fun b _ h => by cases h)⟩
   case round =>
    obtain ⟨k, hk, rfl, cv, f2, H⟩ := hrel
    by_cases hkn : k < n2
    ·have hkl : k < s.crls.length := by rw [HX2.out.2.1]; exact hkn
     obtain ⟨g, o, u, hax, hg, hP, hs, hc⟩ := HX2.out.1.get hkl
     obtain ⟨p1, q1, hu⟩ := ClAt.shape (OwnL.at hP)
     subst hax
     have hki : (k : Int) < (n2 : Int) := by omega
     have hk0 : (0 : Int) <= (k : Int) := by omega
     have hPw := crlKd.same hP (fun y hy => H.out.1.1.block y (crlKd.lt hP y hy).2)
     obtain ⟨c, hce⟩ := zE (s.crls[k])
     have hwc := HX2.out.2.2 _ (List.getElem_mem hkl)
     have hrg0 := fun i x hx => (H.out.1.1.cell (p := ⟨g, o + k * 7 + i, none⟩) hg).trans (hc i x hx)
     rw [hce] at hu hPw hwc
     subst hu
     have hrg : wr.rangeAt g (o + k * 7) #[.string c.issuer, .int .i64 c.num, .int .i64 c.ths, .int .i64 c.nxt, .int .i64 c.bas, .slice p1 c.revs.length q1, .string c.sig].toList := fun j x hx => hrg0 j x (by rw [<- hx]; exact Array.getElem?_toList.symm)
     obtain ⟨V, hV⟩ : ∃ V, V = (wr.alloc (Obj.cells #[.string ⟨#[]⟩, .int .i64 0, .int .i64 0, .int .i64 0, .int .i64 0, .slice none 0 0, .string ⟨#[]⟩] 57)).setCells wr.heap.size 0 #[.string c.issuer, .int .i64 c.num, .int .i64 c.ths, .int .i64 c.nxt, .int .i64 c.bas, .slice p1 c.revs.length q1, .string c.sig].toList := ⟨_, rfl⟩
     have hBV : Below wr.heap.size wr V /\ Blk V wr.heap.size 57 #[.string c.issuer, .int .i64 c.num, .int .i64 c.ths, .int .i64 c.nxt, .int .i64 c.bas, .slice p1 c.revs.length q1, .string c.sig] := fresh_store hV rfl
     have hth := (Blk.new wr 57 #[.string ⟨#[]⟩, .int .i64 0, .int .i64 0, .int .i64 0, .int .i64 0, .slice none 0 0, .string ⟨#[]⟩]).there (n := 7) rfl
     have HV : Hid ((KW w V #[.slice a1 n1 c1, .slice (some ⟨g, o, none⟩) n2 c2, .slice a3 n3 c3] #[v1, cv, .slice none 0 0] /\ OwnS crlKd V (w.heap.size + 1 + 1 + 1) cv (s.crls.take k) f2 /\ OwnS certKd V (w.heap.size + 1 + 1 + 1) v1 s.certs f1 /\ (∀ b ∈ f1, b ∉ f2)) /\ Blk V wr.heap.size 57 #[.string c.issuer, .int .i64 c.num, .int .i64 c.ths, .int .i64 c.nxt, .int .i64 c.bas, .slice p1 c.revs.length q1, .string c.sig] /\ crlKd.Own V 0 (.agg #[.string c.issuer, .int .i64 c.num, .int .i64 c.ths, .int .i64 c.nxt, .int .i64 c.bas, .slice p1 c.revs.length q1, .string c.sig]) c) := ⟨⟨H.out.1.below hBV.1, H.out.2.1.stays hBV.1, H.out.2.2.1.stays hBV.1, H.out.2.2.2⟩, hBV.2, crlKd.same hPw (fun y hy => hBV.1.block y (crlKd.lt hPw y hy).2)⟩
     have HN : Hid (s.crls.take (k + 1) = s.crls.take k ++ [c] /\ (s.crls.take k).length = k) := ⟨by rw [<- hce]; exact List.take_succ_eq_append_getElem hkl, by rw [List.length_take]; omega⟩
     have hgc2 : w.heap.size + 1 + 1 + 1 <= wr.heap.size := H.out.1.2.2.2.2
     clear hP hPw hrg0 hs hc hce hg H hBV
     go_upto_region 10 with (first | refine wpList_load_mid rfl 57 _ rfl g (o + k * 7) rfl _ _ hrg Tryz.underlying57 rfl (by kernel_rfl) ?_ | (refine step_storeV rfl 57 _ _ rfl wr.heap.size 0 #[.string c.issuer, .int .i64 c.num, .int .i64 c.ths, .int .i64 c.nxt, .int .i64 c.bas, .slice p1 c.revs.length q1, .string c.sig] rfl rfl hth (by kernel_rfl) (by simp [Value.oneCell']) hV ?_; clear hV hth))
     obtain ⟨gC, hgC⟩ := zE (wr.heap.size)
     rw [hgC] at HV hgc2 |-
     clear hgC
     have E3 : Calls Tryz.prog 136 #[.agg #[.string c.issuer, .int .i64 c.num, .int .i64 c.ths, .int .i64 c.nxt, .int .i64 c.bas, .slice p1 c.revs.length q1, .string c.sig]] V.drew fun e w' => ∃ r1 t1, e = .returned (.agg #[.string c.issuer, .int .i64 c.num, .int .i64 c.ths, .int .i64 c.nxt, .int .i64 c.bas, .slice r1 c.revs.length t1, .string c.sig]) /\ crlKd.Own w' V.heap.size (.agg #[.string c.issuer, .int .i64 c.num, .int .i64 c.ths, .int .i64 c.nxt, .int .i64 c.bas, .slice r1 c.revs.length t1, .string c.sig]) c /\ Below V.heap.size V w' := by
      have hd0 : Below V.heap.size V V.drew := (Below.refl _ _).drew
      have h : crlKd.Own V.drew 0 (.agg #[.string c.issuer, .int .i64 c.num, .int .i64 c.ths, .int .i64 c.nxt, .int .i64 c.bas, .slice p1 c.revs.length q1, .string c.sig]) c := crlKd.same HV.out.2.2 (fun y hy => hd0.block y (crlKd.lt HV.out.2.2 y hy).2)
      have h9 : Calls Tryz.prog 136 #[.agg #[.string c.issuer, .int .i64 c.num, .int .i64 c.ths, .int .i64 c.nxt, .int .i64 c.bas, .slice p1 c.revs.length q1, .string c.sig]] V.drew _ := ownCrl_any c _ 0 V.drew (by have := wtL_parts hwc; omega) (by have := wtL_parts hwc; omega) (by have := wtL_parts hwc; omega) h
      refine h9.mono ?_
      rintro e w' ⟨u, rfl, ho, hb⟩
      obtain ⟨r1, t1, hu3⟩ := ClAt.shape (OwnL.at ho)
      subst hu3
      exact ⟨r1, t1, rfl, ho, hd0.trans hb⟩
     have HF : Hid (∀ W, Below V.heap.size V W -> W.cell? ⟨w.heap.size + 1 + 1, 1, none⟩ = some cv /\ W.frozen? ⟨w.heap.size + 1 + 1, 1, none⟩ = false) := fun W hb => by
      have h := (HV.out.1.1.below hb).2.2.2.1
      exact ⟨h.cell 1, h.free 1⟩
     have hd0 : Below V.heap.size V V.drew := (Below.refl _ _).drew
     have y0 := (HF.out V.drew hd0).1
     obtain ⟨m0, m1, m2, m3, m4, m5, m6⟩ := zc7 ((HV.out.2.1.below hd0 HV.out.2.1.lt))
     clear hrg hwc
     go_region_law (first
      | (refine step_call rfl 136 _ _ rfl #[.agg #[.string c.issuer, .int .i64 c.num, .int .i64 c.ths, .int .i64 c.nxt, .int .i64 c.bas, .slice p1 c.revs.length q1, .string c.sig]] rfl (by kernel_rfl) ?_; refine E3.mono ?_; rintro e w3 ⟨r1, t1, rfl, ho3, hb3⟩; have y3 := (HF.out w3 hb3).1; have y4 := fun ob => (HF.out (w3.alloc ob) (hb3.alloc hb3.size ob)).1; dsimp only)
      | (refine step_app crlKd rfl _ _ 30 rfl i2 (.agg #[.string ⟨#[]⟩, .int .i64 0, .int .i64 0, .int .i64 0, .int .i64 0, .slice none 0 0, .string ⟨#[]⟩]) 88 Tryz.underlying30 hi2 hz02 hz12 hz22 rfl (by decide) (w.heap.size + 1 + 1 + 1) cv (s.crls.take k) f2 c (.agg #[.string c.issuer, .int .i64 c.num, .int .i64 c.ths, .int .i64 c.nxt, .int .i64 c.bas, .slice r1 c.revs.length t1, .string c.sig]) rfl w3.heap.size rfl (Blk.new w3 57 #[.string c.issuer, .int .i64 c.num, .int .i64 c.ths, .int .i64 c.nxt, .int .i64 c.bas, .slice r1 c.revs.length t1, .string c.sig]).range (HV.out.1.2.1.stays (hb3.alloc hb3.size _)) (crlKd.base (crlKd.same ho3 (fun y hy => ((Below.refl w3.heap.size w3).alloc (Nat.le_refl _) _).block y (crlKd.lt ho3 y hy).2)) (Nat.le_trans HV.out.1.1.2.2.2.2 (Nat.le_refl _))) (fun y h1 h2 => by have g1 := (crlKd.lt ho3 y h1).1; have g2 := (HV.out.1.2.1.lt y h2).2; omega) (Nat.le_trans HV.out.1.1.2.2.2.2 (hb3.alloc hb3.size _).size) k HN.out.2 (by omega) ?_; intro g6 cap6 w6 fp6 hG6 hgrow6 hf6; have hb5 := hb3.alloc hb3.size (Obj.cells #[.string c.issuer, .int .i64 c.num, .int .i64 c.ths, .int .i64 c.nxt, .int .i64 c.bas, .slice r1 c.revs.length t1, .string c.sig] 57); have hne6 : ∀ q, q < w.heap.size + 1 + 1 + 1 -> cv.ownBlock ≠ some q := (fun q hq e => by obtain ⟨_, _, hr9, _⟩ := HV.out.1.2.1; have := (hr9.lt q e).1; omega); have y6 : w6.cell? ⟨w.heap.size + 1 + 1, 1, none⟩ = some cv := (by have h7 := ((HV.out.1.1.below hb5).2.2.2.1); exact Blk.cell (b := w.heap.size + 1 + 1) (t := 33) ((hgrow6.block _ h7.lt (fun e => hne6 _ (by omega) e.symm)).trans h7) 1); have fz6 := Blk.free (b := w.heap.size + 1 + 1) ((hgrow6.block _ ((HV.out.1.1.below hb5).2.2.2.1).lt (fun e => hne6 _ (by omega) e.symm)).trans ((HV.out.1.1.below hb5).2.2.2.1))))
     all_goals (
      have H6 : Hid ((KW w w6 #[.slice a1 n1 c1, .slice (some ⟨g, o, none⟩) n2 c2, .slice a3 n3 c3] #[v1, cv, .slice none 0 0]) /\ OwnS crlKd w6 (w.heap.size + 1 + 1 + 1) (.slice (some ⟨g6, 0, none⟩) (k + 1) cap6) (s.crls.take (k + 1)) fp6 /\ OwnS certKd w6 (w.heap.size + 1 + 1 + 1) v1 s.certs f1 /\ (∀ b ∈ f1, b ∉ fp6)) := by
       have hb5 := hb3.alloc hb3.size (Obj.cells #[.string c.issuer, .int .i64 c.num, .int .i64 c.ths, .int .i64 c.nxt, .int .i64 c.bas, .slice r1 c.revs.length t1, .string c.sig] 57)
       have hK5 := HV.out.1.1.below hb5
       have hrl : ∀ q, cv.ownBlock = some q -> w.heap.size + 1 + 1 + 1 <= q /\ q ∈ f2 := fun q e => by
        obtain ⟨_, _, hr9, _, hf9, _⟩ := HV.out.1.2.1
        exact ⟨(hr9.lt q e).1, by rw [hf9]; exact List.mem_append_left _ (Option.mem_toList.2 e)⟩
       rw [<- HN.out.1] at hG6
       have hnw : ∀ b ∈ fp6, b ∈ f2 ∨ V.heap.size <= b := fun b hb => by
        rcases hf6 b hb with h | h | h
        ·exact .inl h
        ·exact .inr (crlKd.lt ho3 b h).1
        ·exact .inr (by rw [h]; exact hb5.size)
       exact ⟨hK5.grown hgrow6 (fun q hq e => by have := (hrl q e).1; omega), hG6, (HV.out.1.2.2.1.stays hb5).same (fun b hb => hgrow6.block b ((HV.out.1.2.2.1.stays hb5).lt b hb).2 (fun e => HV.out.1.2.2.2 b hb (hrl b e.symm).2)), fun b h1 h2 => by rcases hnw b h2 with h | h; exact HV.out.1.2.2.2 b h1 h; have := (HV.out.1.2.2.1.lt b h1).2; omega⟩
      clear hG6 hgrow6 y6 fz6 y3 y4 ho3 hb3 y0 E3 hf6 hb5 hne6 m0 m1 m2 m3 m4 m5 m6
      go_wp2_with fail
      refine ⟨⟨k + 1, by omega, by go_num, .slice (some ⟨g6, 0, none⟩) (k + 1) cap6, fp6, ?_⟩, by simp [intOf]; omega⟩
      have hne : ∀ b, w.heap.size + 1 + 1 + 1 <= b -> b ≠ w.heap.size + 1 + 1 := fun b hb => by omega
      exact ⟨H6.out.1.set 1 _, H6.out.2.1.same (fun b hb => heap_setCell_other _ _ _ _ (hne b (H6.out.2.1.lt b hb).1)), H6.out.2.2.1.same (fun b hb => heap_setCell_other _ _ _ _ (hne b (H6.out.2.2.1.lt b hb).1)), H6.out.2.2.2⟩)
    ·have hkl : n2 = k := by omega
     subst hkl
     have HE2 : Hid (KW w wr #[.slice a1 n1 c1, .slice a2 n2 c2, .slice a3 n3 c3] #[v1, cv, .slice none 0 0] /\ OwnS crlKd wr (w.heap.size + 1 + 1 + 1) cv s.crls f2 /\ OwnS certKd wr (w.heap.size + 1 + 1 + 1) v1 s.certs f1 /\ (∀ b ∈ f1, b ∉ f2)) := by
      have h := H.out
      rw [List.take_of_length_le (by rw [HX2.out.2.1]; exact Nat.le_refl _)] at h
      exact h
     clear H
     obtain ⟨v2, hv2⟩ : ∃ q, q = cv := ⟨_, rfl⟩
     rw [<- hv2] at HE2
     clear hv2
     have HD12 : Hid (∀ b ∈ f1, b ∉ f2) := HE2.out.2.2.2
     have z2 : wr.cell? ⟨w.heap.size, 2, none⟩ = some (.slice a3 n3 c3) := HE2.out.1.2.1.cell 2
     go_wp2_with fail
     clear z2
     go_loopw [44] (fun iv wr => ∃ k : Nat, k <= n3 /\ iv = .int .i64 k /\ ∃ cv f, Hid (KW w wr #[.slice a1 n1 c1, .slice a2 n2 c2, .slice a3 n3 c3] #[v1, v2, cv] /\ OwnS anKd wr (w.heap.size + 1 + 1 + 1) cv (s.ancs.take k) f /\ OwnS certKd wr (w.heap.size + 1 + 1 + 1) v1 s.certs f1 /\ OwnS crlKd wr (w.heap.size + 1 + 1 + 1) v2 s.crls f2 /\ (∀ b ∈ f1, b ∉ f) /\ (∀ b ∈ f2, b ∉ f))) (fun iv _ => n3 - (intOf iv).toNat)
     case atStart => exact ⟨0, Nat.zero_le _, rfl, _, [], HE2.out.1, OwnS.nil anKd _ _, HE2.out.2.2.1, HE2.out.2.1, (fun b _ h => by cases h), (fun b _ h => by cases h)⟩
     case round =>
      obtain ⟨k, hk, rfl, cv, f3, H⟩ := hrel
      by_cases hkn : k < n3
      ·have hkl : k < s.ancs.length := by rw [HX3.out.2.1]; exact hkn
       obtain ⟨g, o, u, hax, hg, hP, hs, hc⟩ := HX3.out.1.get hkl
       have hu : u = anV s.ancs[k] := hP
       subst hax
       have hki : (k : Int) < (n3 : Int) := by omega
       have hk0 : (0 : Int) <= (k : Int) := by omega
       have hPw := anKd.same hP (fun y hy => H.out.1.1.block y (anKd.lt hP y hy).2)
       obtain ⟨c, hce⟩ := zE (s.ancs[k])
       have hwc := HX3.out.2.2 _ (List.getElem_mem hkl)
       have hrg0 := fun i x hx => (H.out.1.1.cell (p := ⟨g, o + k * 2 + i, none⟩) hg).trans (hc i x hx)
       rw [hce] at hu hPw hwc
       subst hu
       have hrg : wr.rangeAt g (o + k * 2) #[.string c.name, .string c.key].toList := fun j x hx => hrg0 j x (by rw [<- hx]; exact Array.getElem?_toList.symm)
       obtain ⟨V, hV⟩ : ∃ V, V = (wr.alloc (Obj.cells #[.string ⟨#[]⟩, .string ⟨#[]⟩] 75)).setCells wr.heap.size 0 #[.string c.name, .string c.key].toList := ⟨_, rfl⟩
       have hBV : Below wr.heap.size wr V /\ Blk V wr.heap.size 75 #[.string c.name, .string c.key] := fresh_store hV rfl
       have hth := (Blk.new wr 75 #[.string ⟨#[]⟩, .string ⟨#[]⟩]).there (n := 2) rfl
       have HV : Hid ((KW w V #[.slice a1 n1 c1, .slice a2 n2 c2, .slice (some ⟨g, o, none⟩) n3 c3] #[v1, v2, cv] /\ OwnS anKd V (w.heap.size + 1 + 1 + 1) cv (s.ancs.take k) f3 /\ OwnS certKd V (w.heap.size + 1 + 1 + 1) v1 s.certs f1 /\ OwnS crlKd V (w.heap.size + 1 + 1 + 1) v2 s.crls f2 /\ (∀ b ∈ f1, b ∉ f3) /\ (∀ b ∈ f2, b ∉ f3)) /\ Blk V wr.heap.size 75 #[.string c.name, .string c.key] /\ anKd.Own V 0 (.agg #[.string c.name, .string c.key]) c) := ⟨⟨H.out.1.below hBV.1, H.out.2.1.stays hBV.1, H.out.2.2.1.stays hBV.1, H.out.2.2.2.1.stays hBV.1, H.out.2.2.2.2.1, H.out.2.2.2.2.2⟩, hBV.2, anKd.same hPw (fun y hy => hBV.1.block y (anKd.lt hPw y hy).2)⟩
       have HN : Hid (s.ancs.take (k + 1) = s.ancs.take k ++ [c] /\ (s.ancs.take k).length = k) := ⟨by rw [<- hce]; exact List.take_succ_eq_append_getElem hkl, by rw [List.length_take]; omega⟩
       have hgc2 : w.heap.size + 1 + 1 + 1 <= wr.heap.size := H.out.1.2.2.2.2
       clear hP hPw hrg0 hs hc hce hg H hBV
       go_upto_region 15 with (first | refine wpList_load_mid rfl 75 _ rfl g (o + k * 2) rfl _ _ hrg Tryz.underlying75 rfl (by kernel_rfl) ?_ | (refine step_storeV rfl 75 _ _ rfl wr.heap.size 0 #[.string c.name, .string c.key] rfl rfl hth (by kernel_rfl) (by simp [Value.oneCell']) hV ?_; clear hV hth))
       obtain ⟨gC, hgC⟩ := zE (wr.heap.size)
       rw [hgC] at HV hgc2 |-
       clear hgC
       have hwc2 : c.name.size <= 1000000000000 /\ c.key.size <= 1000000000000 := by unfold wtA at hwc; omega
       have EA := cloneB_any c.name V.drew hwc2.1
       have HEB : Hid (∀ W, Calls Tryz.prog 137 #[.string c.key] W fun e w' => e = .returned (.string c.key) /\ Below W.heap.size W w') := fun W => cloneB_any c.key W hwc2.2
       have HC1 : Hid (∀ W, Below V.heap.size V W -> W.cell? ⟨gC, 1, none⟩ = some (.string c.key)) := fun W hb => (HV.out.2.1.below hb HV.out.2.1.lt).cell 1
       clear hwc2
       have HF : Hid (∀ W, Below V.heap.size V W -> W.cell? ⟨w.heap.size + 1 + 1, 2, none⟩ = some cv /\ W.frozen? ⟨w.heap.size + 1 + 1, 2, none⟩ = false) := fun W hb => by
        have h := (HV.out.1.1.below hb).2.2.2.1
        exact ⟨h.cell 2, h.free 2⟩
       have hd0 : Below V.heap.size V V.drew := (Below.refl _ _).drew
       have y0 := (HF.out V.drew hd0).1
       have m0 : V.drew.cell? ⟨gC, 0, none⟩ = some (.string c.name) := (HV.out.2.1.below hd0 HV.out.2.1.lt).cell 0
       have m1 : V.drew.cell? ⟨gC, 1, none⟩ = some (.string c.key) := (HV.out.2.1.below hd0 HV.out.2.1.lt).cell 1
       clear hrg hwc
       go_region_law (first
        | (refine step_call rfl 137 _ _ rfl #[.string c.name] rfl (by kernel_rfl) ?_; refine EA.mono ?_; rintro e w2 ⟨rfl, hb2'⟩; have hb2 : Below V.heap.size V w2 := hd0.trans hb2'; have y2 := (HF.out w2 hb2).1; have m12 := HC1.out w2 hb2; clear hb2'; dsimp only)
        | (refine step_call rfl 137 _ _ rfl #[.string c.key] rfl (by kernel_rfl) ?_; refine (HEB.out w2).mono ?_; rintro e w3 ⟨rfl, hb3'⟩; have hb3 : Below V.heap.size V w3 := hb2.trans (hb3'.mono hb2.size); have y3 := (HF.out w3 hb3).1; have y4 := fun ob => (HF.out (w3.alloc ob) (hb3.alloc hb3.size ob)).1; have ho3 : anKd.Own w3 V.heap.size (.agg #[.string c.name, .string c.key]) c := rfl; clear hb3'; dsimp only)
        | (refine step_app anKd rfl _ _ 31 rfl i3 (.agg #[.string ⟨#[]⟩, .string ⟨#[]⟩]) 32 Tryz.underlying31 hi3 hz03 hz13 hz23 rfl (by decide) (w.heap.size + 1 + 1 + 1) cv (s.ancs.take k) f3 c (.agg #[.string c.name, .string c.key]) rfl w3.heap.size rfl (Blk.new w3 75 #[.string c.name, .string c.key]).range (HV.out.1.2.1.stays (hb3.alloc hb3.size _)) (anKd.base (anKd.same ho3 (fun y hy => ((Below.refl w3.heap.size w3).alloc (Nat.le_refl _) _).block y (anKd.lt ho3 y hy).2)) (Nat.le_trans HV.out.1.1.2.2.2.2 (Nat.le_refl _))) (fun y h1 h2 => by have g1 := (anKd.lt ho3 y h1).1; have g2 := (HV.out.1.2.1.lt y h2).2; omega) (Nat.le_trans HV.out.1.1.2.2.2.2 (hb3.alloc hb3.size _).size) k HN.out.2 (by omega) ?_; intro g6 cap6 w6 fp6 hG6 hgrow6 hf6; have hb5 := hb3.alloc hb3.size (Obj.cells #[.string c.name, .string c.key] 75); have hne6 : ∀ q, q < w.heap.size + 1 + 1 + 1 -> cv.ownBlock ≠ some q := (fun q hq e => by obtain ⟨_, _, hr9, _⟩ := HV.out.1.2.1; have := (hr9.lt q e).1; omega); have y6 : w6.cell? ⟨w.heap.size + 1 + 1, 2, none⟩ = some cv := (by have h7 := ((HV.out.1.1.below hb5).2.2.2.1); exact Blk.cell (b := w.heap.size + 1 + 1) (t := 33) ((hgrow6.block _ h7.lt (fun e => hne6 _ (by omega) e.symm)).trans h7) 2); have fz6 := Blk.free (b := w.heap.size + 1 + 1) ((hgrow6.block _ ((HV.out.1.1.below hb5).2.2.2.1).lt (fun e => hne6 _ (by omega) e.symm)).trans ((HV.out.1.1.below hb5).2.2.2.1))))
       all_goals (
        have H6 : Hid ((KW w w6 #[.slice a1 n1 c1, .slice a2 n2 c2, .slice (some ⟨g, o, none⟩) n3 c3] #[v1, v2, cv]) /\ OwnS anKd w6 (w.heap.size + 1 + 1 + 1) (.slice (some ⟨g6, 0, none⟩) (k + 1) cap6) (s.ancs.take (k + 1)) fp6 /\ OwnS certKd w6 (w.heap.size + 1 + 1 + 1) v1 s.certs f1 /\ OwnS crlKd w6 (w.heap.size + 1 + 1 + 1) v2 s.crls f2 /\ (∀ b ∈ f1, b ∉ fp6) /\ (∀ b ∈ f2, b ∉ fp6)) := by
         have hb5 := hb3.alloc hb3.size (Obj.cells #[.string c.name, .string c.key] 75)
         have hK5 := HV.out.1.1.below hb5
         have hrl : ∀ q, cv.ownBlock = some q -> w.heap.size + 1 + 1 + 1 <= q /\ q ∈ f3 := fun q e => by
          obtain ⟨_, _, hr9, _, hf9, _⟩ := HV.out.1.2.1
          exact ⟨(hr9.lt q e).1, by rw [hf9]; exact List.mem_append_left _ (Option.mem_toList.2 e)⟩
         rw [<- HN.out.1] at hG6
         have hnw : ∀ b ∈ fp6, b ∈ f3 ∨ V.heap.size <= b := fun b hb => by
          rcases hf6 b hb with h | h | h
          ·exact .inl h
          ·exact .inr (anKd.lt ho3 b h).1
          ·exact .inr (by rw [h]; exact hb5.size)
         exact ⟨hK5.grown hgrow6 (fun q hq e => by have := (hrl q e).1; omega), hG6, (HV.out.1.2.2.1.stays hb5).same (fun b hb => hgrow6.block b ((HV.out.1.2.2.1.stays hb5).lt b hb).2 (fun e => HV.out.1.2.2.2.2.1 b hb (hrl b e.symm).2)), (HV.out.1.2.2.2.1.stays hb5).same (fun b hb => hgrow6.block b ((HV.out.1.2.2.2.1.stays hb5).lt b hb).2 (fun e => HV.out.1.2.2.2.2.2 b hb (hrl b e.symm).2)), fun b h1 h2 => by rcases hnw b h2 with h | h; exact HV.out.1.2.2.2.2.1 b h1 h; have := (HV.out.1.2.2.1.lt b h1).2; omega, fun b h1 h2 => by rcases hnw b h2 with h | h; exact HV.out.1.2.2.2.2.2 b h1 h; have := (HV.out.1.2.2.2.1.lt b h1).2; omega⟩
        clear hG6 hgrow6 y6 fz6 y3 y4 ho3 hb3 y0 EA hf6 hb2 y2 m12 hb5 hne6 m0 m1
        go_wp2_with fail
        refine ⟨⟨k + 1, by omega, by go_num, .slice (some ⟨g6, 0, none⟩) (k + 1) cap6, fp6, ?_⟩, by simp [intOf]; omega⟩
        have hne : ∀ b, w.heap.size + 1 + 1 + 1 <= b -> b ≠ w.heap.size + 1 + 1 := fun b hb => by omega
        exact ⟨H6.out.1.set 2 _, H6.out.2.1.same (fun b hb => heap_setCell_other _ _ _ _ (hne b (H6.out.2.1.lt b hb).1)), H6.out.2.2.1.same (fun b hb => heap_setCell_other _ _ _ _ (hne b (H6.out.2.2.1.lt b hb).1)), H6.out.2.2.2.1.same (fun b hb => heap_setCell_other _ _ _ _ (hne b (H6.out.2.2.2.1.lt b hb).1)), H6.out.2.2.2.2.1, H6.out.2.2.2.2.2⟩)
      ·have hkl : n3 = k := by omega
       subst hkl
       have HE3 : Hid (KW w wr #[.slice a1 n1 c1, .slice a2 n2 c2, .slice a3 n3 c3] #[v1, v2, cv] /\ OwnS anKd wr (w.heap.size + 1 + 1 + 1) cv s.ancs f3 /\ OwnS certKd wr (w.heap.size + 1 + 1 + 1) v1 s.certs f1 /\ OwnS crlKd wr (w.heap.size + 1 + 1 + 1) v2 s.crls f2 /\ (∀ b ∈ f1, b ∉ f3) /\ (∀ b ∈ f2, b ∉ f3)) := by
        have h := H.out
        rw [List.take_of_length_le (by rw [HX3.out.2.1]; exact Nat.le_refl _)] at h
        exact h
       clear H
       obtain ⟨v3, hv3⟩ : ∃ q, q = cv := ⟨_, rfl⟩
       rw [<- hv3] at HE3
       clear hv3
       have q0 : wr.cell? ⟨w.heap.size + 1 + 1, 0, none⟩ = some v1 := HE3.out.1.2.2.2.1.cell 0
       have q1 : wr.cell? ⟨w.heap.size + 1 + 1, 1, none⟩ = some v2 := HE3.out.1.2.2.2.1.cell 1
       have q2 : wr.cell? ⟨w.heap.size + 1 + 1, 2, none⟩ = some v3 := HE3.out.1.2.2.2.1.cell 2
       have r0 : wr.cell? ⟨w.heap.size + 1, 0, none⟩ = some (.slice none 0 0) := HE3.out.1.2.2.1.cell 0
       have r1 : wr.cell? ⟨w.heap.size + 1, 1, none⟩ = some (.slice none 0 0) := HE3.out.1.2.2.1.cell 1
       have r2 : wr.cell? ⟨w.heap.size + 1, 2, none⟩ = some (.slice none 0 0) := HE3.out.1.2.2.1.cell 2
       have rf := fun i => HE3.out.1.2.2.1.free i
       obtain ⟨x1, y1, hs1⟩ := HE3.out.2.2.1.at.shape
       obtain ⟨x2, y2, hs2⟩ := HE3.out.2.2.2.1.at.shape
       obtain ⟨x3, y3, hs3⟩ := HE3.out.2.1.at.shape
       rw [HX1.out.2.1] at hs1
       rw [HX2.out.2.1] at hs2
       rw [HX3.out.2.1] at hs3
       subst hs1 hs2 hs3
       go_wp2_with fail
       refine bodyPost_ret (v := .agg #[.slice x1 n1 y1, .slice x2 n2 y2, .slice x3 n3 y3]) (by simp [results, Tryz.results99, go_sem, r0, r1, r2]) rfl ⟨_, f1 ++ (f2 ++ f3), rfl, OwnO.same (w := wr) ⟨_, _, _, f1, f2, f3, rfl, HE3.out.2.2.1.base (by omega), HE3.out.2.2.2.1.base (by omega), HE3.out.2.1.base (by omega), rfl, ?nd⟩ ?far, ?bel⟩
       case nd =>
        exact nodup_app HE3.out.2.2.1.nodup (nodup_app HE3.out.2.2.2.1.nodup HE3.out.2.1.nodup fun y h1 h2 => HE3.out.2.2.2.2.2 y h1 h2) fun y h1 h2 => by
         rcases List.mem_append.1 h2 with h2 | h2
         ·exact HD12.out y h1 h2
         ·exact HE3.out.2.2.2.2.1 y h1 h2
       case far =>
        intro b hb
        have hlt : w.heap.size + 1 + 1 + 1 <= b := by
         rcases List.mem_append.1 hb with hb | hb
         ·exact (HE3.out.2.2.1.lt b hb).1
         ·rcases List.mem_append.1 hb with hb | hb
          ·exact (HE3.out.2.2.2.1.lt b hb).1
          ·exact (HE3.out.2.1.lt b hb).1
        iterate 3 rw [heap_setCell_other _ _ _ _ (by show b ≠ w.heap.size + 1; omega)]
       case bel =>
        iterate 3 refine Below.setCell ?_ (by show w.heap.size <= w.heap.size + 1; omega) _
        exact HE3.out.1.1
end Go.Proofs.YtplblechcnbieaaGreat
