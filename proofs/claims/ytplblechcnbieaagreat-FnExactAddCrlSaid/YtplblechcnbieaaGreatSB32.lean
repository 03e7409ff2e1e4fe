/-
  Texts of the proof.
-/
import Derived.Laws.AppendOwnNone
import Derived.Test.YtplblechcnbieaaGreatSB19
import Derived.Test.YtplblechcnbieaaGreatSB31
set_option maxRecDepth 100000
set_option maxHeartbeats 25600000
namespace Go.Proofs.YtplblechcnbieaaGreat
open Go.RowKit Der
set_option linter.unusedVariables false
def OkO (s : So) : Prop := (s.certs.length <= 2000000 /\ s.crls.length <= 2000000 /\ s.ancs.length <= 2000000) /\ (∀ c ∈ s.certs, wtC c <= 1048576 /\ WdC c) /\ (∀ c ∈ s.crls, wtL c <= 1048576 /\ WdL c) /\ ∀ a ∈ s.ancs, wtA a <= 1048576
theorem differentCert_any (l : List Ct) (v : Value) (w : World) (hl : l.length <= 2000000) (hwd : ∀ c ∈ l, wtC c <= 1048576 /\ WdC c) (ha : AtS certKd w v l) :
  Calls Tryz.prog 41 #[v, .func (.func 42) #[] #[]] w fun e w' => e = .returned (.bool (dif [] (l.map tC))) /\ Below w.heap.size w w' := by
 obtain ⟨i0, hi, hz0, hz1, hz2⟩ := info_parts info9
 obtain ⟨ax, cx, hv⟩ := ha.shape
 obtain ⟨len, hlen⟩ := zE (l.length)
 rw [hlen] at hv hl
 subst hv
 obtain ⟨R, hR⟩ := zE (dif [] (l.map tC))
 rw [hR]
 have HX : Hid (AtS certKd w (.slice ax len cx) l /\ l.length = len /\ (∀ c ∈ l, wtC c <= 1048576 /\ WdC c) /\ dif [] (l.map tC) = R) := ⟨ha, hlen, hwd, hR⟩
 have HTX : Hid (∀ (c : Ct) (v : Value) (W : World), wtC c <= 1048576 /\ WdC c -> certKd.At W v c -> Calls Tryz.prog 42 #[v] W fun e w' => e = .returned (.tuple #[.string (tC c).2, .bool (tC c).1]) /\ Below W.heap.size W w') := fun c v W h2 h1 => (implCertText_any c _ W h2.1 h2.2 h1)
 clear ha hlen hwd hR
 go_enter Tryz.func41, Tryz.ntmps41
 go_wp2_with fail
 go_loopw [5, 12] (fun tv iv wr => ∃ k : Nat, k <= len /\ iv = .int .i64 k /\ Hid (OwnT wr w.heap.size tv (((l.map tC).take k).map Prod.snd) /\ Below w.heap.size w wr /\ dif (((l.map tC).take k).map Prod.snd) ((l.map tC).drop k) = R)) (fun _ iv _ => len - (intOf iv).toNat)
 case atStart => exact ⟨0, Nat.zero_le _, rfl, World.ownsRow_nil _ _ _ _, Below.refl _ _, HX.out.2.2.2⟩
 case round =>
  obtain ⟨k, hk, rfl, H⟩ := hrel
  by_cases hkn : k < len
  ·have hkl : k < l.length := by rw [HX.out.2.1]; exact hkn
   have hkm : k < (l.map tC).length := by rw [List.length_map]; exact hkl
   obtain ⟨g, o, u, hax, hg, hP, hs, hc⟩ := HX.out.1.get hkl
   obtain ⟨p1, q1, p2, q2, p3, q3, hu⟩ := CtAt.shape hP
   subst hax
   have hki : (k : Int) < (len : Int) := by omega
   have hk0 : (0 : Int) <= (k : Int) := by omega
   have hPw := certKd.below hP H.out.2.1
   obtain ⟨c, hce⟩ := zE (l[k])
   have hwc := HX.out.2.2.1 _ (List.getElem_mem hkl)
   have hrg0 := fun i x hx => (H.out.2.1.cell (p := ⟨g, o + k * 13 + i, none⟩) hg).trans (hc i x hx)
   rw [hce] at hu hPw hwc
   subst hu
   have hrg : wr.rangeAt g (o + k * 13) #[.int .i64 c.serial, .string c.issuer, .string c.subject, .int .i64 c.frm, .int .i64 c.upto, .string c.key, .bool c.ca, .int .i64 c.pathLen, .int .i64 c.usage, .slice p1 c.pol.length q1, .slice p2 c.per.length q2, .slice p3 c.den.length q3, .string c.sig].toList := fun j x hx => hrg0 j x (by rw [<- hx]; exact Array.getElem?_toList.symm)
   obtain ⟨V, hV⟩ : ∃ V, V = (wr.alloc (Obj.cells #[.int .i64 0, .string ⟨#[]⟩, .string ⟨#[]⟩, .int .i64 0, .int .i64 0, .string ⟨#[]⟩, .bool false, .int .i64 0, .int .i64 0, .slice none 0 0, .slice none 0 0, .slice none 0 0, .string ⟨#[]⟩] 44)).setCells wr.heap.size 0 #[.int .i64 c.serial, .string c.issuer, .string c.subject, .int .i64 c.frm, .int .i64 c.upto, .string c.key, .bool c.ca, .int .i64 c.pathLen, .int .i64 c.usage, .slice p1 c.pol.length q1, .slice p2 c.per.length q2, .slice p3 c.den.length q3, .string c.sig].toList := ⟨_, rfl⟩
   have HV : Hid (Below wr.heap.size wr V /\ Blk V wr.heap.size 44 #[.int .i64 c.serial, .string c.issuer, .string c.subject, .int .i64 c.frm, .int .i64 c.upto, .string c.key, .bool c.ca, .int .i64 c.pathLen, .int .i64 c.usage, .slice p1 c.pol.length q1, .slice p2 c.per.length q2, .slice p3 c.den.length q3, .string c.sig]) := fresh_store hV rfl
   have hth := (Blk.new wr 44 #[.int .i64 0, .string ⟨#[]⟩, .string ⟨#[]⟩, .int .i64 0, .int .i64 0, .string ⟨#[]⟩, .bool false, .int .i64 0, .int .i64 0, .slice none 0 0, .slice none 0 0, .slice none 0 0, .string ⟨#[]⟩]).there (n := 13) rfl
   have HR := HTX.out c _ V hwc (certKd.below hPw HV.out.1)
   unfold ctV at HR
   have HD : Hid (R = ((tC c).1 && (!inT (((l.map tC).take k).map Prod.snd) (tC c).2 && dif (((l.map tC).take (k + 1)).map Prod.snd) ((l.map tC).drop (k + 1))))) := by
    show R = _
    rw [<- H.out.2.2, dif_at hkm, List.getElem_map, hce]
   have HN : Hid (((l.map tC).take (k + 1)).map Prod.snd = ((l.map tC).take k).map Prod.snd ++ [(tC c).2]) := by
    show _ = _
    rw [List.take_succ_eq_append_getElem hkm, List.map_append, List.getElem_map, hce]
    rfl
   obtain ⟨T, hT⟩ := zE ((tC c).2)
   obtain ⟨OK, hOK⟩ := zE ((tC c).1)
   rw [hT, hOK] at HR HD
   rw [hT] at HN
   obtain ⟨SN, hSN⟩ := zE (((l.map tC).take k).map Prod.snd)
   have HSL : Hid (SN.length = k) := by show _ = _; rw [<- hSN, List.length_map, List.length_take, List.length_map]; omega
   rw [hSN] at H HD HN
   clear hP hPw hwc hrg0 hs hc hce hT hOK hSN hg
   obtain ⟨la, lc, hlv⟩ : ∃ ao cap, u5 = .slice ao SN.length cap := by obtain ⟨ao, cap, h, _⟩ := H.out.1.at; exact ⟨ao, cap, h⟩
   rw [HSL.out] at hlv
   subst hlv
   go_upto_region 5 with (first | refine wpList_load_mid rfl 44 _ rfl g (o + k * 13) rfl _ _ hrg Tryz.underlying44 rfl (by kernel_rfl) ?_ | (refine step_storeV rfl 44 _ _ rfl wr.heap.size 0 #[.int .i64 c.serial, .string c.issuer, .string c.subject, .int .i64 c.frm, .int .i64 c.upto, .string c.key, .bool c.ca, .int .i64 c.pathLen, .int .i64 c.usage, .slice p1 c.pol.length q1, .slice p2 c.per.length q2, .slice p3 c.den.length q3, .string c.sig] rfl rfl hth (by kernel_rfl) (by simp [Value.oneCell']) hV ?_; clear hV hth))
   have hrv := HV.out.2.range
   go_wp2_with (refine wpList_load_mid rfl 44 _ rfl wr.heap.size 0 rfl _ _ hrv Tryz.underlying44 rfl (by kernel_rfl) ?_)
   refine HR.mono ?_
   rintro e w3 ⟨rfl, hb3'⟩
   have hb3 : Below wr.heap.size wr w3 := HV.out.1.trans (hb3'.mono HV.out.1.size)
   have H3 : Hid (OwnT w3 w.heap.size (.slice la k lc) SN /\ Below w.heap.size w w3) := ⟨H.out.1.stays hb3, H.out.2.1.trans (hb3.mono H.out.2.1.size)⟩
   clear hb3 hb3' H HR hrg hrv HV
   cases OK with
   | false =>
    go_wp2_with fail
    go_ret
    exact ⟨by rw [HD.out]; rfl, H3.out.2⟩
   | true =>
    go_wp2_with fail
    refine (hasText_any _ SN T _ w3 (by rw [HSL.out]; omega) H3.out.1).mono ?_
    rintro e w4 ⟨rfl, rfl⟩
    obtain ⟨IN, hIN⟩ := zE (inT SN T)
    rw [hIN] at HD |-
    clear hIN
    cases IN with
    | true =>
     go_wp2_with fail
     go_ret
     exact ⟨by rw [HD.out]; rfl, H3.out.2⟩
    | false =>
     obtain ⟨W4, hW4⟩ : ∃ V, V = w3.alloc (Obj.cells #[.string T] 9) := ⟨_, rfl⟩
     have hb34 : Below w3.heap.size w3 W4 := by rw [hW4]; exact (Below.refl _ _).alloc (Nat.le_refl _) _
     have H4 : Hid (OwnT W4 w.heap.size (.slice la k lc) SN /\ OwnT W4 w3.heap.size (.slice (some ⟨w3.heap.size, 0, none⟩) 1 1) [T] /\ Below w.heap.size w W4) := ⟨H3.out.1.stays hb34, by rw [hW4]; exact World.ownsRow_lit w3 #[.string T] 1 (Nat.le_refl _) (by decide) rfl, H3.out.2.trans (hb34.mono H3.out.2.size)⟩
     clear hb34 H3
     go_wp2_with (at_builtin; rw [<- hW4]; refine wpList_append_texts2 rfl _ _ 38 rfl w.heap.size i0 Tryz.underlying38 hi hz0 hz1 hz2 (.slice la k lc) SN.length (cellsT SN) rfl H4.out.1 _ [T] w3.heap.size H4.out.2.1 rfl (by rw [HSL.out]; simp only [List.length_singleton]; omega) H4.out.2.2.size ?_)
     intro v9 w9 ho9 hg9
     rw [<- hW4] at hg9
     have H9 : Hid (OwnT w9 w.heap.size v9 (((l.map tC).take (k + 1)).map Prod.snd) /\ Below w.heap.size w w9 /\ dif (((l.map tC).take (k + 1)).map Prod.snd) ((l.map tC).drop (k + 1)) = R) := by
      have hrl := fun b hb => (World.ownsRow.lt H4.out.1 b hb).1
      refine ⟨?_, H4.out.2.2.grown hg9 H4.out.2.2.size hrl, by rw [HD.out]; rfl⟩
      rw [HN.out]
      simpa [OwnT, cellsT_append] using ho9
     clear ho9 hg9 H4 hW4
     go_wp2_with fail
     exact ⟨⟨k + 1, by omega, by go_num, H9⟩, by simp [intOf]; omega⟩
  ·have hkl : k = len := by omega
   subst hkl
   have HRR : Hid (R = true) := by show R = true; rw [<- H.out.2.2]; exact dif_end _ (by rw [List.length_map, HX.out.2.1]; exact Nat.le_refl _)
   go_wp2_with fail
   go_ret
   exact ⟨by rw [HRR.out]; rfl, H.out.2.1⟩
theorem differentCrl_any (l : List Cl) (v : Value) (w : World) (hl : l.length <= 2000000) (hwd : ∀ c ∈ l, wtL c <= 1048576 /\ WdL c) (ha : AtS crlKd w v l) :
  Calls Tryz.prog 43 #[v, .func (.func 44) #[] #[]] w fun e w' => e = .returned (.bool (dif [] (l.map tL))) /\ Below w.heap.size w w' := by
 obtain ⟨i0, hi, hz0, hz1, hz2⟩ := info_parts info9
 obtain ⟨ax, cx, hv⟩ := ha.shape
 obtain ⟨len, hlen⟩ := zE (l.length)
 rw [hlen] at hv hl
 subst hv
 obtain ⟨R, hR⟩ := zE (dif [] (l.map tL))
 rw [hR]
 have HX : Hid (AtS crlKd w (.slice ax len cx) l /\ l.length = len /\ (∀ c ∈ l, wtL c <= 1048576 /\ WdL c) /\ dif [] (l.map tL) = R) := ⟨ha, hlen, hwd, hR⟩
 have HTX : Hid (∀ (c : Cl) (v : Value) (W : World), wtL c <= 1048576 /\ WdL c -> crlKd.At W v c -> Calls Tryz.prog 44 #[v] W fun e w' => e = .returned (.tuple #[.string (tL c).2, .bool (tL c).1]) /\ Below W.heap.size W w') := fun c v W h2 h1 => (implCrlText_any c _ W h2.1 h2.2 h1)
 clear ha hlen hwd hR
 go_enter Tryz.func43, Tryz.ntmps43
 go_wp2_with fail
 go_loopw [5, 12] (fun tv iv wr => ∃ k : Nat, k <= len /\ iv = .int .i64 k /\ Hid (OwnT wr w.heap.size tv (((l.map tL).take k).map Prod.snd) /\ Below w.heap.size w wr /\ dif (((l.map tL).take k).map Prod.snd) ((l.map tL).drop k) = R)) (fun _ iv _ => len - (intOf iv).toNat)
 case atStart => exact ⟨0, Nat.zero_le _, rfl, World.ownsRow_nil _ _ _ _, Below.refl _ _, HX.out.2.2.2⟩
 case round =>
  obtain ⟨k, hk, rfl, H⟩ := hrel
  by_cases hkn : k < len
  ·have hkl : k < l.length := by rw [HX.out.2.1]; exact hkn
   have hkm : k < (l.map tL).length := by rw [List.length_map]; exact hkl
   obtain ⟨g, o, u, hax, hg, hP, hs, hc⟩ := HX.out.1.get hkl
   obtain ⟨p1, q1, hu⟩ := ClAt.shape hP
   subst hax
   have hki : (k : Int) < (len : Int) := by omega
   have hk0 : (0 : Int) <= (k : Int) := by omega
   have hPw := crlKd.below hP H.out.2.1
   obtain ⟨c, hce⟩ := zE (l[k])
   have hwc := HX.out.2.2.1 _ (List.getElem_mem hkl)
   have hrg0 := fun i x hx => (H.out.2.1.cell (p := ⟨g, o + k * 7 + i, none⟩) hg).trans (hc i x hx)
   rw [hce] at hu hPw hwc
   subst hu
   have hrg : wr.rangeAt g (o + k * 7) #[.string c.issuer, .int .i64 c.num, .int .i64 c.ths, .int .i64 c.nxt, .int .i64 c.bas, .slice p1 c.revs.length q1, .string c.sig].toList := fun j x hx => hrg0 j x (by rw [<- hx]; exact Array.getElem?_toList.symm)
   obtain ⟨V, hV⟩ : ∃ V, V = (wr.alloc (Obj.cells #[.string ⟨#[]⟩, .int .i64 0, .int .i64 0, .int .i64 0, .int .i64 0, .slice none 0 0, .string ⟨#[]⟩] 57)).setCells wr.heap.size 0 #[.string c.issuer, .int .i64 c.num, .int .i64 c.ths, .int .i64 c.nxt, .int .i64 c.bas, .slice p1 c.revs.length q1, .string c.sig].toList := ⟨_, rfl⟩
   have HV : Hid (Below wr.heap.size wr V /\ Blk V wr.heap.size 57 #[.string c.issuer, .int .i64 c.num, .int .i64 c.ths, .int .i64 c.nxt, .int .i64 c.bas, .slice p1 c.revs.length q1, .string c.sig]) := fresh_store hV rfl
   have hth := (Blk.new wr 57 #[.string ⟨#[]⟩, .int .i64 0, .int .i64 0, .int .i64 0, .int .i64 0, .slice none 0 0, .string ⟨#[]⟩]).there (n := 7) rfl
   have HR := HTX.out c _ V hwc (crlKd.below hPw HV.out.1)
   unfold clV at HR
   have HD : Hid (R = ((tL c).1 && (!inT (((l.map tL).take k).map Prod.snd) (tL c).2 && dif (((l.map tL).take (k + 1)).map Prod.snd) ((l.map tL).drop (k + 1))))) := by
    show R = _
    rw [<- H.out.2.2, dif_at hkm, List.getElem_map, hce]
   have HN : Hid (((l.map tL).take (k + 1)).map Prod.snd = ((l.map tL).take k).map Prod.snd ++ [(tL c).2]) := by
    show _ = _
    rw [List.take_succ_eq_append_getElem hkm, List.map_append, List.getElem_map, hce]
    rfl
   obtain ⟨T, hT⟩ := zE ((tL c).2)
   obtain ⟨OK, hOK⟩ := zE ((tL c).1)
   rw [hT, hOK] at HR HD
   rw [hT] at HN
   obtain ⟨SN, hSN⟩ := zE (((l.map tL).take k).map Prod.snd)
   have HSL : Hid (SN.length = k) := by show _ = _; rw [<- hSN, List.length_map, List.length_take, List.length_map]; omega
   rw [hSN] at H HD HN
   clear hP hPw hwc hrg0 hs hc hce hT hOK hSN hg
   obtain ⟨la, lc, hlv⟩ : ∃ ao cap, u5 = .slice ao SN.length cap := by obtain ⟨ao, cap, h, _⟩ := H.out.1.at; exact ⟨ao, cap, h⟩
   rw [HSL.out] at hlv
   subst hlv
   go_upto_region 5 with (first | refine wpList_load_mid rfl 57 _ rfl g (o + k * 7) rfl _ _ hrg Tryz.underlying57 rfl (by kernel_rfl) ?_ | (refine step_storeV rfl 57 _ _ rfl wr.heap.size 0 #[.string c.issuer, .int .i64 c.num, .int .i64 c.ths, .int .i64 c.nxt, .int .i64 c.bas, .slice p1 c.revs.length q1, .string c.sig] rfl rfl hth (by kernel_rfl) (by simp [Value.oneCell']) hV ?_; clear hV hth))
   have hrv := HV.out.2.range
   go_wp2_with (refine wpList_load_mid rfl 57 _ rfl wr.heap.size 0 rfl _ _ hrv Tryz.underlying57 rfl (by kernel_rfl) ?_)
   refine HR.mono ?_
   rintro e w3 ⟨rfl, hb3'⟩
   have hb3 : Below wr.heap.size wr w3 := HV.out.1.trans (hb3'.mono HV.out.1.size)
   have H3 : Hid (OwnT w3 w.heap.size (.slice la k lc) SN /\ Below w.heap.size w w3) := ⟨H.out.1.stays hb3, H.out.2.1.trans (hb3.mono H.out.2.1.size)⟩
   clear hb3 hb3' H HR hrg hrv HV
   cases OK with
   | false =>
    go_wp2_with fail
    go_ret
    exact ⟨by rw [HD.out]; rfl, H3.out.2⟩
   | true =>
    go_wp2_with fail
    refine (hasText_any _ SN T _ w3 (by rw [HSL.out]; omega) H3.out.1).mono ?_
    rintro e w4 ⟨rfl, rfl⟩
    obtain ⟨IN, hIN⟩ := zE (inT SN T)
    rw [hIN] at HD |-
    clear hIN
    cases IN with
    | true =>
     go_wp2_with fail
     go_ret
     exact ⟨by rw [HD.out]; rfl, H3.out.2⟩
    | false =>
     obtain ⟨W4, hW4⟩ : ∃ V, V = w3.alloc (Obj.cells #[.string T] 9) := ⟨_, rfl⟩
     have hb34 : Below w3.heap.size w3 W4 := by rw [hW4]; exact (Below.refl _ _).alloc (Nat.le_refl _) _
     have H4 : Hid (OwnT W4 w.heap.size (.slice la k lc) SN /\ OwnT W4 w3.heap.size (.slice (some ⟨w3.heap.size, 0, none⟩) 1 1) [T] /\ Below w.heap.size w W4) := ⟨H3.out.1.stays hb34, by rw [hW4]; exact World.ownsRow_lit w3 #[.string T] 1 (Nat.le_refl _) (by decide) rfl, H3.out.2.trans (hb34.mono H3.out.2.size)⟩
     clear hb34 H3
     go_wp2_with (at_builtin; rw [<- hW4]; refine wpList_append_texts2 rfl _ _ 38 rfl w.heap.size i0 Tryz.underlying38 hi hz0 hz1 hz2 (.slice la k lc) SN.length (cellsT SN) rfl H4.out.1 _ [T] w3.heap.size H4.out.2.1 rfl (by rw [HSL.out]; simp only [List.length_singleton]; omega) H4.out.2.2.size ?_)
     intro v9 w9 ho9 hg9
     rw [<- hW4] at hg9
     have H9 : Hid (OwnT w9 w.heap.size v9 (((l.map tL).take (k + 1)).map Prod.snd) /\ Below w.heap.size w w9 /\ dif (((l.map tL).take (k + 1)).map Prod.snd) ((l.map tL).drop (k + 1)) = R) := by
      have hrl := fun b hb => (World.ownsRow.lt H4.out.1 b hb).1
      refine ⟨?_, H4.out.2.2.grown hg9 H4.out.2.2.size hrl, by rw [HD.out]; rfl⟩
      rw [HN.out]
      simpa [OwnT, cellsT_append] using ho9
     clear ho9 hg9 H4 hW4
     go_wp2_with fail
     exact ⟨⟨k + 1, by omega, by go_num, H9⟩, by simp [intOf]; omega⟩
  ·have hkl : k = len := by omega
   subst hkl
   have HRR : Hid (R = true) := by show R = true; rw [<- H.out.2.2]; exact dif_end _ (by rw [List.length_map, HX.out.2.1]; exact Nat.le_refl _)
   go_wp2_with fail
   go_ret
   exact ⟨by rw [HRR.out]; rfl, H.out.2.1⟩
theorem differentAnchor_any (l : List An) (v : Value) (w : World) (hl : l.length <= 2000000) (hwd : ∀ c ∈ l, wtA c <= 1048576) (ha : AtS anKd w v l) :
  Calls Tryz.prog 45 #[v, .func (.func 46) #[] #[]] w fun e w' => e = .returned (.bool (dif [] (l.map tA))) /\ Below w.heap.size w w' := by
 obtain ⟨i0, hi, hz0, hz1, hz2⟩ := info_parts info9
 obtain ⟨ax, cx, hv⟩ := ha.shape
 obtain ⟨len, hlen⟩ := zE (l.length)
 rw [hlen] at hv hl
 subst hv
 obtain ⟨R, hR⟩ := zE (dif [] (l.map tA))
 rw [hR]
 have HX : Hid (AtS anKd w (.slice ax len cx) l /\ l.length = len /\ (∀ c ∈ l, wtA c <= 1048576) /\ dif [] (l.map tA) = R) := ⟨ha, hlen, hwd, hR⟩
 have HTX : Hid (∀ (c : An) (v : Value) (W : World), wtA c <= 1048576 -> anKd.At W v c -> Calls Tryz.prog 46 #[v] W fun e w' => e = .returned (.tuple #[.string (tA c).2, .bool (tA c).1]) /\ Below W.heap.size W w') := fun c v W h2 h1 => (by have h1' : _ = anV c := h1; subst h1'; exact anchorText_any c W h2)
 clear ha hlen hwd hR
 go_enter Tryz.func45, Tryz.ntmps45
 go_wp2_with fail
 go_loopw [5, 12] (fun tv iv wr => ∃ k : Nat, k <= len /\ iv = .int .i64 k /\ Hid (OwnT wr w.heap.size tv (((l.map tA).take k).map Prod.snd) /\ Below w.heap.size w wr /\ dif (((l.map tA).take k).map Prod.snd) ((l.map tA).drop k) = R)) (fun _ iv _ => len - (intOf iv).toNat)
 case atStart => exact ⟨0, Nat.zero_le _, rfl, World.ownsRow_nil _ _ _ _, Below.refl _ _, HX.out.2.2.2⟩
 case round =>
  obtain ⟨k, hk, rfl, H⟩ := hrel
  by_cases hkn : k < len
  ·have hkl : k < l.length := by rw [HX.out.2.1]; exact hkn
   have hkm : k < (l.map tA).length := by rw [List.length_map]; exact hkl
   obtain ⟨g, o, u, hax, hg, hP, hs, hc⟩ := HX.out.1.get hkl
   have hu : u = anV l[k] := hP
   subst hax
   have hki : (k : Int) < (len : Int) := by omega
   have hk0 : (0 : Int) <= (k : Int) := by omega
   have hPw := anKd.below hP H.out.2.1
   obtain ⟨c, hce⟩ := zE (l[k])
   have hwc := HX.out.2.2.1 _ (List.getElem_mem hkl)
   have hrg0 := fun i x hx => (H.out.2.1.cell (p := ⟨g, o + k * 2 + i, none⟩) hg).trans (hc i x hx)
   rw [hce] at hu hPw hwc
   subst hu
   have hrg : wr.rangeAt g (o + k * 2) #[.string c.name, .string c.key].toList := fun j x hx => hrg0 j x (by rw [<- hx]; exact Array.getElem?_toList.symm)
   obtain ⟨V, hV⟩ : ∃ V, V = (wr.alloc (Obj.cells #[.string ⟨#[]⟩, .string ⟨#[]⟩] 75)).setCells wr.heap.size 0 #[.string c.name, .string c.key].toList := ⟨_, rfl⟩
   have HV : Hid (Below wr.heap.size wr V /\ Blk V wr.heap.size 75 #[.string c.name, .string c.key]) := fresh_store hV rfl
   have hth := (Blk.new wr 75 #[.string ⟨#[]⟩, .string ⟨#[]⟩]).there (n := 2) rfl
   have HR := HTX.out c _ V hwc (anKd.below hPw HV.out.1)
   unfold anV at HR
   have HD : Hid (R = ((tA c).1 && (!inT (((l.map tA).take k).map Prod.snd) (tA c).2 && dif (((l.map tA).take (k + 1)).map Prod.snd) ((l.map tA).drop (k + 1))))) := by
    show R = _
    rw [<- H.out.2.2, dif_at hkm, List.getElem_map, hce]
   have HN : Hid (((l.map tA).take (k + 1)).map Prod.snd = ((l.map tA).take k).map Prod.snd ++ [(tA c).2]) := by
    show _ = _
    rw [List.take_succ_eq_append_getElem hkm, List.map_append, List.getElem_map, hce]
    rfl
   obtain ⟨T, hT⟩ := zE ((tA c).2)
   obtain ⟨OK, hOK⟩ := zE ((tA c).1)
   rw [hT, hOK] at HR HD
   rw [hT] at HN
   obtain ⟨SN, hSN⟩ := zE (((l.map tA).take k).map Prod.snd)
   have HSL : Hid (SN.length = k) := by show _ = _; rw [<- hSN, List.length_map, List.length_take, List.length_map]; omega
   rw [hSN] at H HD HN
   clear hP hPw hwc hrg0 hs hc hce hT hOK hSN hg
   obtain ⟨la, lc, hlv⟩ : ∃ ao cap, u5 = .slice ao SN.length cap := by obtain ⟨ao, cap, h, _⟩ := H.out.1.at; exact ⟨ao, cap, h⟩
   rw [HSL.out] at hlv
   subst hlv
   go_upto_region 5 with (first | refine wpList_load_mid rfl 75 _ rfl g (o + k * 2) rfl _ _ hrg Tryz.underlying75 rfl (by kernel_rfl) ?_ | (refine step_storeV rfl 75 _ _ rfl wr.heap.size 0 #[.string c.name, .string c.key] rfl rfl hth (by kernel_rfl) (by simp [Value.oneCell']) hV ?_; clear hV hth))
   have hrv := HV.out.2.range
   go_wp2_with (refine wpList_load_mid rfl 75 _ rfl wr.heap.size 0 rfl _ _ hrv Tryz.underlying75 rfl (by kernel_rfl) ?_)
   refine HR.mono ?_
   rintro e w3 ⟨rfl, hb3'⟩
   have hb3 : Below wr.heap.size wr w3 := HV.out.1.trans (hb3'.mono HV.out.1.size)
   have H3 : Hid (OwnT w3 w.heap.size (.slice la k lc) SN /\ Below w.heap.size w w3) := ⟨H.out.1.stays hb3, H.out.2.1.trans (hb3.mono H.out.2.1.size)⟩
   clear hb3 hb3' H HR hrg hrv HV
   cases OK with
   | false =>
    go_wp2_with fail
    go_ret
    exact ⟨by rw [HD.out]; rfl, H3.out.2⟩
   | true =>
    go_wp2_with fail
    refine (hasText_any _ SN T _ w3 (by rw [HSL.out]; omega) H3.out.1).mono ?_
    rintro e w4 ⟨rfl, rfl⟩
    obtain ⟨IN, hIN⟩ := zE (inT SN T)
    rw [hIN] at HD |-
    clear hIN
    cases IN with
    | true =>
     go_wp2_with fail
     go_ret
     exact ⟨by rw [HD.out]; rfl, H3.out.2⟩
    | false =>
     obtain ⟨W4, hW4⟩ : ∃ V, V = w3.alloc (Obj.cells #[.string T] 9) := ⟨_, rfl⟩
     have hb34 : Below w3.heap.size w3 W4 := by rw [hW4]; exact (Below.refl _ _).alloc (Nat.le_refl _) _
     have H4 : Hid (OwnT W4 w.heap.size (.slice la k lc) SN /\ OwnT W4 w3.heap.size (.slice (some ⟨w3.heap.size, 0, none⟩) 1 1) [T] /\ Below w.heap.size w W4) := ⟨H3.out.1.stays hb34, by rw [hW4]; exact World.ownsRow_lit w3 #[.string T] 1 (Nat.le_refl _) (by decide) rfl, H3.out.2.trans (hb34.mono H3.out.2.size)⟩
     clear hb34 H3
     go_wp2_with (at_builtin; rw [<- hW4]; refine wpList_append_texts2 rfl _ _ 38 rfl w.heap.size i0 Tryz.underlying38 hi hz0 hz1 hz2 (.slice la k lc) SN.length (cellsT SN) rfl H4.out.1 _ [T] w3.heap.size H4.out.2.1 rfl (by rw [HSL.out]; simp only [List.length_singleton]; omega) H4.out.2.2.size ?_)
     intro v9 w9 ho9 hg9
     rw [<- hW4] at hg9
     have H9 : Hid (OwnT w9 w.heap.size v9 (((l.map tA).take (k + 1)).map Prod.snd) /\ Below w.heap.size w w9 /\ dif (((l.map tA).take (k + 1)).map Prod.snd) ((l.map tA).drop (k + 1)) = R) := by
      have hrl := fun b hb => (World.ownsRow.lt H4.out.1 b hb).1
      refine ⟨?_, H4.out.2.2.grown hg9 H4.out.2.2.size hrl, by rw [HD.out]; rfl⟩
      rw [HN.out]
      simpa [OwnT, cellsT_append] using ho9
     clear ho9 hg9 H4 hW4
     go_wp2_with fail
     exact ⟨⟨k + 1, by omega, by go_num, H9⟩, by simp [intOf]; omega⟩
  ·have hkl : k = len := by omega
   subst hkl
   have HRR : Hid (R = true) := by show R = true; rw [<- H.out.2.2]; exact dif_end _ (by rw [List.length_map, HX.out.2.1]; exact Nat.le_refl _)
   go_wp2_with fail
   go_ret
   exact ⟨by rw [HRR.out]; rfl, H.out.2.1⟩
theorem implStoreOk_any (s : So) (v : Value) (w : World) (hok : OkO s) (ha : SoAt w v s) : Calls Tryz.prog 10 #[v] w fun e w' => e = .returned (.bool (stoOk s)) /\ Below w.heap.size w w' := by
 obtain ⟨⟨l1, l2, l3⟩, wd1, wd2, wd3⟩ := hok
 obtain ⟨a1, c1, a2, c2, a3, c3, rfl⟩ := ha.shape
 obtain ⟨k1, k2, k3⟩ := ha.rows
 obtain ⟨R, hR⟩ := zE (stoOk s)
 rw [hR]
 obtain ⟨n1, e1⟩ := zE (s.certs.length)
 obtain ⟨n2, e2⟩ := zE (s.crls.length)
 obtain ⟨n3, e3⟩ := zE (s.ancs.length)
 have HR : Hid (R = ((decide (n1 <= 12) && decide (n2 <= 8) && decide (n3 <= 3)) && (dif [] (s.certs.map tC) && (dif [] (s.crls.map tL) && dif [] (s.ancs.map tA))))) := by show R = _; rw [<- hR, <- e1, <- e2, <- e3]; rfl
 rw [e1] at k1 l1 |-
 rw [e2] at k2 l2 |-
 rw [e3] at k3 l3 |-
 obtain ⟨D1, d1⟩ := zE (dif [] (s.certs.map tC))
 obtain ⟨D2, d2⟩ := zE (dif [] (s.crls.map tL))
 obtain ⟨D3, d3⟩ := zE (dif [] (s.ancs.map tA))
 have Q1 : Hid (∀ W, Below w.heap.size w W -> Calls Tryz.prog 41 #[.slice a1 n1 c1, .func (.func 42) #[] #[]] W fun e w' => e = .returned (.bool D1) /\ Below W.heap.size W w') := fun W hb => by rw [<- d1]; exact differentCert_any s.certs _ W (by omega) wd1 (k1.below hb)
 have Q2 : Hid (∀ W, Below w.heap.size w W -> Calls Tryz.prog 43 #[.slice a2 n2 c2, .func (.func 44) #[] #[]] W fun e w' => e = .returned (.bool D2) /\ Below W.heap.size W w') := fun W hb => by rw [<- d2]; exact differentCrl_any s.crls _ W (by omega) wd2 (k2.below hb)
 have Q3 : Hid (∀ W, Below w.heap.size w W -> Calls Tryz.prog 45 #[.slice a3 n3 c3, .func (.func 46) #[] #[]] W fun e w' => e = .returned (.bool D3) /\ Below W.heap.size W w') := fun W hb => by rw [<- d3]; exact differentAnchor_any s.ancs _ W (by omega) wd3 (k3.below hb)
 rw [d1, d2, d3] at HR
 clear ha k1 k2 k3 wd1 wd2 wd3 hR e1 e2 e3 d1 d2 d3
 by_cases g1 : n1 <= 12
 rotate_left
 ·have g1' : ¬ (n1 : Int) <= 12 := by omega
  have HRR : Hid (R = false) := by show R = false; rw [HR.out, decide_eq_false g1]; simp
  clear HR g1
  go_enter Tryz.func10, Tryz.ntmps10
  go_wp2_with fail
  go_ret
  exact ⟨by rw [HRR.out]; rfl, (Below.refl _ _).alloc (Nat.le_refl _) _⟩
 have g1' : (n1 : Int) <= 12 := by omega
 by_cases g2 : n2 <= 8
 rotate_left
 ·have g2' : ¬ (n2 : Int) <= 8 := by omega
  have HRR : Hid (R = false) := by show R = false; rw [HR.out, decide_eq_false g2]; simp
  clear HR g2
  go_enter Tryz.func10, Tryz.ntmps10
  go_wp2_with fail
  go_ret
  exact ⟨by rw [HRR.out]; rfl, (Below.refl _ _).alloc (Nat.le_refl _) _⟩
 have g2' : (n2 : Int) <= 8 := by omega
 by_cases g3 : n3 <= 3
 rotate_left
 ·have g3' : ¬ (n3 : Int) <= 3 := by omega
  have HRR : Hid (R = false) := by show R = false; rw [HR.out, decide_eq_false g3]; simp
  clear HR g3
  go_enter Tryz.func10, Tryz.ntmps10
  go_wp2_with fail
  go_ret
  exact ⟨by rw [HRR.out]; rfl, (Below.refl _ _).alloc (Nat.le_refl _) _⟩
 have g3' : (n3 : Int) <= 3 := by omega
 have HRR : Hid (R = (D1 && (D2 && D3))) := by show R = _; rw [HR.out, decide_eq_true g1, decide_eq_true g2, decide_eq_true g3]; rfl
 clear HR g1 g2 g3
 obtain ⟨V, hV⟩ : ∃ V, V = w.alloc (Obj.cells #[.slice a1 n1 c1, .slice a2 n2 c2, .slice a3 n3 c3] 33) := ⟨_, rfl⟩
 have G0 : Hid (Below w.heap.size w V /\ Blk V w.heap.size 33 #[.slice a1 n1 c1, .slice a2 n2 c2, .slice a3 n3 c3]) := by rw [hV]; exact ⟨(Below.refl _ _).alloc (Nat.le_refl _) _, Blk.new w _ _⟩
 go_enter Tryz.func10, Tryz.ntmps10
 go_wp2_with fail
 rw [<- hV]
 clear hV
 refine (Q1.out V G0.out.1).mono ?_
 rintro e V1 ⟨rfl, hb⟩
 have G1 : Hid (Below w.heap.size w V1 /\ Blk V1 w.heap.size 33 #[.slice a1 n1 c1, .slice a2 n2 c2, .slice a3 n3 c3]) := ⟨G0.out.1.trans (hb.mono G0.out.1.size), G0.out.2.below hb G0.out.2.lt⟩
 clear hb G0
 cases D1 with
 | false =>
  go_wp2_with fail
  go_ret
  exact ⟨by rw [HRR.out]; rfl, G1.out.1⟩
 | true =>
  have x1 : V1.cell? ⟨w.heap.size, 1, none⟩ = some (.slice a2 n2 c2) := G1.out.2.cell 1
  go_wp2_with fail
  clear x1
  refine (Q2.out V1 G1.out.1).mono ?_
  rintro e V2 ⟨rfl, hb⟩
  have G2 : Hid (Below w.heap.size w V2 /\ Blk V2 w.heap.size 33 #[.slice a1 n1 c1, .slice a2 n2 c2, .slice a3 n3 c3]) := ⟨G1.out.1.trans (hb.mono G1.out.1.size), G1.out.2.below hb G1.out.2.lt⟩
  clear hb G1
  cases D2 with
  | false =>
   go_wp2_with fail
   go_ret
   exact ⟨by rw [HRR.out]; rfl, G2.out.1⟩
  | true =>
   have x1 : V2.cell? ⟨w.heap.size, 2, none⟩ = some (.slice a3 n3 c3) := G2.out.2.cell 2
   go_wp2_with fail
   clear x1
   refine (Q3.out V2 G2.out.1).mono ?_
   rintro e V3 ⟨rfl, hb⟩
   have G3 : Hid (Below w.heap.size w V3) := G2.out.1.trans (hb.mono G2.out.1.size)
   clear hb G2
   go_wp2_with fail
   go_ret
   exact ⟨by rw [HRR.out]; rfl, G3.out⟩
end Go.Proofs.YtplblechcnbieaaGreat
namespace Go.Proofs.YtplblechcnbieaaGreat
open Go.RowKit
set_option linter.unusedVariables false
set_option linter.unusedSimpArgs false
theorem pickV {n : Nat} {P : Nat -> Value -> Prop} (h : ∀ j, j < n -> ∃ y, P j y) : ∃ l : List Value, ∃ hl : l.length = n, ∀ j (hj : j < l.length), P j l[j] := by
 induction n with
 | zero => exact ⟨[], rfl, fun j hj => absurd hj (Nat.not_lt_zero _)⟩
 | succ n ih =>
  obtain ⟨l, hl, hP⟩ := ih fun j hj => h j (by omega)
  obtain ⟨y, hy⟩ := h n (by omega)
  refine ⟨l ++ [y], by simp [hl], fun j hj => ?_⟩
  by_cases e : j < l.length
  ·rw [List.getElem_append_left e]
   exact hP j e
  ·have e2 : j = l.length := by simp at hj; omega
   subst e2
   simpa [hl] using hy
theorem ShS.vals {α : Type} {k : Kd α} {w : World} {v : Value} {l : List α} (h : ShS k w v l) : ∃ us : List Value, ∃ hl : us.length = l.length, (∀ j (h1 : j < us.length) (h2 : j < l.length), k.Own w 0 us[j] l[j]) /\ ((v = .slice none 0 0 /\ l = []) ∨ ∃ ad cap, v = .slice (some ad) l.length cap /\ ∀ i x, (cellsV us)[i]? = some x -> w.cell? (ad.add i) = some x) := by
 obtain ⟨⟨ao, cap, rfl, hc⟩, hnil⟩ := h
 cases ao with
 | none =>
  have h0 : l = [] := List.eq_nil_of_length_eq_zero (by
   refine Nat.eq_zero_of_not_pos fun hp => ?_
   obtain ⟨_, _, _, h, _⟩ := hc 0 hp
   cases h)
  subst h0
  exact ⟨[], rfl, fun j h1 => absurd h1 (Nat.not_lt_zero _), .inl ⟨by rw [hnil _ _ rfl]; rfl, rfl⟩⟩
 | some ad =>
  obtain ⟨us, hl, hP⟩ := pickV (n := l.length) (P := fun j u => ∃ h2 : j < l.length, k.Own w 0 u l[j] /\ u.cells.size = k.K /\ ∀ i x, u.cells[i]? = some x -> w.cell? (ad.add (j * k.K + i)) = some x) (fun j hj => by
   obtain ⟨g, o, u, h1, _, h3, h4, h5⟩ := hc j hj
   injection h1 with h1
   refine ⟨u, hj, h3, h4, fun i x hx => ?_⟩
   rw [h1, Addr.add_lit, <- Nat.add_assoc]
   exact h5 i x hx)
  refine ⟨us, hl, fun j h1 h2 => (hP j h1).2.1, .inr ⟨ad, cap, rfl, fun i x hx => ?_⟩⟩
  have hsz : ∀ u ∈ us, u.cells.size = k.K := fun u hu => by
   obtain ⟨j, hj, rfl⟩ := List.getElem_of_mem hu
   exact (hP j hj).2.2.1
  have hil : i < us.length * k.K := by
   rw [<- cellsV_len hsz]
   exact (List.getElem?_eq_some_iff.1 hx).1
  have hd : i / k.K < us.length := Nat.div_lt_of_lt_mul (by rw [Nat.mul_comm]; exact hil)
  have hm : i % k.K < k.K := Nat.mod_lt _ k.pos
  have e : i = i / k.K * k.K + i % k.K := by rw [Nat.mul_comm]; exact (Nat.div_add_mod i k.K).symm
  have h2 := cellsV_at hsz (i / k.K) hd (i % k.K) hm
  rw [<- e, hx] at h2
  have := (hP _ hd).2.2.2 (i % k.K) x h2.symm
  rw [<- e] at this
  exact this
theorem ones_of {α : Type} {k : Kd α} {w : World} {us : List Value} {l : List α} (hl : us.length = l.length) (he : ∀ j (h1 : j < us.length) (h2 : j < l.length), k.Own w 0 us[j] l[j]) : ∀ x ∈ cellsV us, x.oneCell' = true := fun x hx => by
 obtain ⟨u, hu, hxu⟩ := List.mem_flatMap.1 hx
 obtain ⟨j, hj, rfl⟩ := List.getElem_of_mem hu
 exact (k.size (he j hj (by omega))).2 x hxu
theorem len_of {α : Type} {k : Kd α} {w : World} {us : List Value} {l : List α} (hl : us.length = l.length) (he : ∀ j (h1 : j < us.length) (h2 : j < l.length), k.Own w 0 us[j] l[j]) : (cellsV us).length = l.length * k.K := by
 rw [cellsV_len (K := k.K) (fun u hu => by
  obtain ⟨j, hj, rfl⟩ := List.getElem_of_mem hu
  exact (k.size (he j hj (by omega))).1), hl]
theorem wpList_append_sh {α : Type} (k : Kd α) {w : World} {ops : Array Oper} {rest : List Oper} {o : Oper} {a : Act} {Q : Exit -> Act -> World -> Prop} (hgd : o.guard = none) (p q : Operand) (t : TypeId) (ho : o.op = .call { callee := .builtin .append, args := #[p, q], argTypes := #[t, t] })
  (i0 : TypeInfo) (z : Value) (bytes : Nat) (ht : Tryz.prog.underlying t = some (.slice k.T)) (hi : Tryz.prog.info? k.T = some i0) (hz0 : i0.zero = some z) (hz1 : i0.size = k.K) (hz2 : i0.bytes = bytes) (hzs : z.cells.size = k.K) (hby : bytes <= 1000)
  (base : Nat) (v : Value) (hp : a.eval p = v) (hown : w.ownsRow base k.T k.K v 0 []) (w0 : World) (hb0 : Below w0.heap.size w0 w) (u : Value) (l : List α) (hq : a.eval q = u) (hu : ShS k w0 u l) (hl : l.length <= 10000000) (hbase : base <= w.heap.size)
  (h : ∀ v' w' us, us.length = l.length -> (∀ j (h1 : j < us.length) (h2 : j < l.length), k.Own w0 0 us[j] l[j]) -> w'.ownsRow base k.T k.K v' l.length (cellsV us) -> w.grownBy w' v.ownBlock -> wpList Tryz.prog ops Q rest (a.put o.dst v') w') : wpList Tryz.prog ops Q (o :: rest) a w := by
 obtain ⟨us, hul, he, hv⟩ := hu.vals
 rcases hv with ⟨rfl, rfl⟩ | ⟨ad, cap, rfl, hc⟩
 ·cases us with
  | cons x xs => simp at hul
  | nil => exact wpList_append_own_none hgd p q t ho base k.T i0 k.K ht hi v 0 [] hp hown hq (h v w [] rfl (fun j h1 => absurd h1 (Nat.not_lt_zero _)) hown (World.grownBy.refl _ _))
 ·refine wpList_append_own w hgd p q t ho base k.T i0 z k.K bytes ht hi hz0 hz1 hz2 hzs k.pos v 0 [] hp hown ad l.length cap (cellsV us) hq (len_of hul he) (fun i x hx => (hb0.cell (p := ad.add i) (lt_of_cell (hc i x hx))).trans (hc i x hx)) (ones_of hul he) (by unfold maxLen; omega) (by have := Nat.mul_le_mul (show 0 + l.length <= 10000000 by omega) hby; omega) hbase (fun v' w' h1 h2 _ => h v' w' us hul he (by rw [Nat.zero_add] at h1; exact h1) h2)
theorem withCrl_any (l : List Cl) (v u : Value) (c : Cl) (w0 w : World) (hb0 : Below w0.heap.size w0 w) (hl : l.length <= 2000000) (ha : ShS crlKd w0 v l) (hu : crlKd.Own w0 0 u c) :
  Calls Tryz.prog 71 #[v, u] w fun e w' => ∃ v', e = .returned v' /\ (∀ W, Below w0.heap.size w0 W -> (∀ b, w.heap.size <= b -> b < w'.heap.size -> W.heap[b]? = w'.heap[b]?) -> ShS crlKd W v' (l ++ [c])) /\ Below w.heap.size w w' := by
 obtain ⟨i2, hi2, hz02, hz12, hz22⟩ := info_parts infoCrl
 obtain ⟨p1, q1, hue⟩ := ClAt.shape (OwnL.at hu)
 subst hue
 have HU : Hid (crlKd.Own w0 0 (.agg #[.string c.issuer, .int .i64 c.num, .int .i64 c.ths, .int .i64 c.nxt, .int .i64 c.bas, .slice p1 c.revs.length q1, .string c.sig]) c /\ ShS crlKd w0 v l /\ Below w0.heap.size w0 w) := ⟨hu, ha, hb0⟩
 clear hu ha hb0
 unfold clV
 obtain ⟨W1, hW1⟩ : ∃ W, W = (w.alloc (Obj.cells #[.string c.issuer, .int .i64 c.num, .int .i64 c.ths, .int .i64 c.nxt, .int .i64 c.bas, .slice p1 c.revs.length q1, .string c.sig] 57)).alloc (Obj.cells #[] 57) := ⟨_, rfl⟩
 have e0 : (w.alloc (Obj.cells #[.string c.issuer, .int .i64 c.num, .int .i64 c.ths, .int .i64 c.nxt, .int .i64 c.bas, .slice p1 c.revs.length q1, .string c.sig] 57)).heap.size = w.heap.size + 1 := Array.size_push _
 have H1 : Hid (Below w.heap.size w W1 /\ Blk W1 w.heap.size 57 #[.string c.issuer, .int .i64 c.num, .int .i64 c.ths, .int .i64 c.nxt, .int .i64 c.bas, .slice p1 c.revs.length q1, .string c.sig] /\ W1.ownsRow (w.heap.size + 1) crlKd.T crlKd.K (.slice (some ⟨w.heap.size + 1, 0, none⟩) 0 0) 0 []) := by
  rw [hW1]
  refine ⟨((Below.refl _ _).alloc (Nat.le_refl _) _).alloc (by rw [e0]; omega) _, (Blk.new w _ _).alloc _, ?_⟩
  have h := World.ownsRow_made (w.alloc (Obj.cells #[.string c.issuer, .int .i64 c.num, .int .i64 c.ths, .int .i64 c.nxt, .int .i64 c.bas, .slice p1 c.revs.length q1, .string c.sig] 57)) (base := w.heap.size + 1) (e := 57) (size := 7) #[] 0 (by rw [e0]; exact Nat.le_refl _) (Nat.zero_le _) (by simp)
  rw [e0] at h
  exact h
 go_enter Tryz.func71, Tryz.ntmps71
 go_upto_region 2 with (at_builtin; rw [<- hW1]; refine wpList_append_sh crlKd rfl _ _ 30 rfl i2 (.agg #[.string ⟨#[]⟩, .int .i64 0, .int .i64 0, .int .i64 0, .int .i64 0, .slice none 0 0, .string ⟨#[]⟩]) 88 Tryz.underlying30 hi2 hz02 hz12 hz22 rfl (by decide) (w.heap.size + 1) (.slice (some ⟨w.heap.size + 1, 0, none⟩) 0 0) rfl H1.out.2.2 w0 (HU.out.2.2.trans (H1.out.1.mono HU.out.2.2.size)) v l rfl HU.out.2.1 (by omega) H1.out.2.1.lt ?_; intro v2 w2 us hul he2 ho2 hg2)
 have H2 : Hid (Below w.heap.size w w2 /\ Blk w2 w.heap.size 57 #[.string c.issuer, .int .i64 c.num, .int .i64 c.ths, .int .i64 c.nxt, .int .i64 c.bas, .slice p1 c.revs.length q1, .string c.sig] /\ w2.ownsRow (w.heap.size + 1) crlKd.T crlKd.K v2 l.length (cellsV us) /\ (∀ j (h1 : j < us.length) (h2 : j < l.length), crlKd.Own w0 0 us[j] l[j]) /\ us.length = l.length) :=
  ⟨H1.out.1.grown hg2 H1.out.1.size (fun q e => by simp [Value.ownBlock] at e; omega), (hg2.block _ H1.out.2.1.lt (fun e => by simp [Value.ownBlock] at e)).trans H1.out.2.1, ho2, he2, hul⟩
 clear hg2 ho2 he2 hul H1 hW1 e0
 have hrg := H2.out.2.1.range
 obtain ⟨W3, hW3⟩ : ∃ W, W = w2.alloc (Obj.cells #[.string c.issuer, .int .i64 c.num, .int .i64 c.ths, .int .i64 c.nxt, .int .i64 c.bas, .slice p1 c.revs.length q1, .string c.sig] 57) := ⟨_, rfl⟩
 have H3 : Hid (Below w.heap.size w W3 /\ W3.ownsRow (w.heap.size + 1) crlKd.T crlKd.K v2 l.length (cellsV us) /\ Blk W3 w2.heap.size 57 #[.string c.issuer, .int .i64 c.num, .int .i64 c.ths, .int .i64 c.nxt, .int .i64 c.bas, .slice p1 c.revs.length q1, .string c.sig] /\ w.heap.size + 1 <= W3.heap.size) := by
  have hb : Below w2.heap.size w2 W3 := by rw [hW3]; exact (Below.refl _ _).alloc (Nat.le_refl _) _
  exact ⟨H2.out.1.trans (hb.mono H2.out.1.size), own_kept H2.out.2.2.1 hb, by rw [hW3]; exact Blk.new w2 _ _, Nat.le_trans H2.out.2.1.lt hb.size⟩
 go_wp2_with (first | (refine wpList_load_mid rfl 57 _ rfl w.heap.size 0 rfl _ _ hrg Tryz.underlying57 rfl (by kernel_rfl) ?_) | (at_builtin; rw [<- hW3]; refine wpList_append_own _ rfl _ _ 30 rfl (w.heap.size + 1) crlKd.T i2 (.agg #[.string ⟨#[]⟩, .int .i64 0, .int .i64 0, .int .i64 0, .int .i64 0, .slice none 0 0, .string ⟨#[]⟩]) crlKd.K 88 Tryz.underlying30 hi2 hz02 hz12 hz22 rfl crlKd.pos v2 l.length (cellsV us) rfl H3.out.2.1 ⟨w2.heap.size, 0, none⟩ 1 1 (Value.agg #[.string c.issuer, .int .i64 c.num, .int .i64 c.ths, .int .i64 c.nxt, .int .i64 c.bas, .slice p1 c.revs.length q1, .string c.sig]).cells.toList rfl rfl (fun i x hx => by rw [Addr.add_lit, Nat.zero_add]; have h := H3.out.2.2.1.range i x hx; rw [Nat.zero_add] at h; exact h) (crlKd.size HU.out.1).2 (by unfold maxLen; omega) (by omega) H3.out.2.2.2 ?_; intro v4 w4 ho4 hg4 _))
 have HE : Hid ((∀ W, Below w0.heap.size w0 W -> (∀ b, w.heap.size <= b -> b < w4.heap.size -> W.heap[b]? = w4.heap[b]?) -> ShS crlKd W v4 (l ++ [c])) /\ Below w.heap.size w w4) := by
  have hb4 : Below w.heap.size w w4 := H3.out.1.grown hg4 H3.out.1.size (fun q e => by have := (H3.out.2.1.lt q e).1; omega)
  refine ⟨fun W hW hsame => row_of (k := crlKd) (B := w.heap.size + 1) (vs := us ++ [.agg #[.string c.issuer, .int .i64 c.num, .int .i64 c.ths, .int .i64 c.nxt, .int .i64 c.bas, .slice p1 c.revs.length q1, .string c.sig]]) (by simp [H2.out.2.2.2.2]) ?_ (fun i h1 h2 => ?_), hb4⟩
  ·rw [cellsV_append, List.length_append]
   show W.ownsRow _ _ _ _ _ (cellsV us ++ ((Value.agg #[.string c.issuer, .int .i64 c.num, .int .i64 c.ths, .int .i64 c.nxt, .int .i64 c.bas, .slice p1 c.revs.length q1, .string c.sig]).cells.toList ++ []))
   rw [List.append_nil]
   exact row_same ho4 (fun g hg => hsame g (by have := (ho4.lt g hg).1; omega) (ho4.lt g hg).2)
  ·have hx : ∀ (u : Value) (y : Cl), crlKd.Own w0 0 u y -> crlKd.Own W 0 u y := fun u y h => crlKd.same h (fun b hb => hW.block b (crlKd.lt h b hb).2)
   by_cases hi : i < us.length
   ·have e1 : (us ++ [Value.agg #[.string c.issuer, .int .i64 c.num, .int .i64 c.ths, .int .i64 c.nxt, .int .i64 c.bas, .slice p1 c.revs.length q1, .string c.sig]])[i] = us[i] := List.getElem_append_left hi
    have e2 : (l ++ [c])[i] = l[i]'(by rw [<- H2.out.2.2.2.2]; exact hi) := List.getElem_append_left (by rw [<- H2.out.2.2.2.2]; exact hi)
    rw [e1, e2]
    exact hx _ _ (H2.out.2.2.2.1 i hi _)
   ·have hie : i = us.length := by simp at h1; omega
    subst hie
    have e1 : (us ++ [Value.agg #[.string c.issuer, .int .i64 c.num, .int .i64 c.ths, .int .i64 c.nxt, .int .i64 c.bas, .slice p1 c.revs.length q1, .string c.sig]])[us.length] = .agg #[.string c.issuer, .int .i64 c.num, .int .i64 c.ths, .int .i64 c.nxt, .int .i64 c.bas, .slice p1 c.revs.length q1, .string c.sig] := by simp
    have e2 : (l ++ [c])[us.length]'h2 = c := by simp [H2.out.2.2.2.2]
    rw [e1, e2]
    exact hx _ _ HU.out.1
 clear ho4 hg4 H3 hW3 H2 hrg
 go_wp2_with fail
 go_ret
 exact ⟨_, rfl, HE.out.1, HE.out.2⟩
def SoSh (w : World) (v : Value) (s : So) : Prop := ∃ a1 c1 a2 c2 a3 c3, v = .agg #[.slice a1 s.certs.length c1, .slice a2 s.crls.length c2, .slice a3 s.ancs.length c3] /\ ShS certKd w (.slice a1 s.certs.length c1) s.certs /\ ShS crlKd w (.slice a2 s.crls.length c2) s.crls /\ ShS anKd w (.slice a3 s.ancs.length c3) s.ancs
theorem SoSh.mk {w : World} {p q r : Value} {s : So} (h1 : ShS certKd w p s.certs) (h2 : ShS crlKd w q s.crls) (h3 : ShS anKd w r s.ancs) : SoSh w (.agg #[p, q, r]) s := by
 obtain ⟨a1, c1, e1⟩ := h1.shape
 obtain ⟨a2, c2, e2⟩ := h2.shape
 obtain ⟨a3, c3, e3⟩ := h3.shape
 subst e1 e2 e3
 exact ⟨a1, c1, a2, c2, a3, c3, rfl, h1, h2, h3⟩
theorem OwnO.sh {w : World} {base : Nat} {v : Value} {s : So} {fp : List Nat} (h : OwnO w base v s fp) : SoSh w v s := by
 obtain ⟨p, q, r, f1, f2, f3, rfl, h1, h2, h3, _, _⟩ := h
 exact SoSh.mk h1.sh h2.sh h3.sh
theorem OwnO.base {w : World} {b b' : Nat} {v : Value} {s : So} {fp : List Nat} (h : OwnO w b v s fp) (hb : b' <= b) : OwnO w b' v s fp := by
 obtain ⟨p, q, r, f1, f2, f3, hv, h1, h2, h3, h4⟩ := h
 exact ⟨p, q, r, f1, f2, f3, hv, h1.base hb, h2.base hb, h3.base hb, h4⟩
theorem SoSh.below {w w' : World} {v : Value} {s : So} (h : SoSh w v s) (hb : Below w.heap.size w w') : SoSh w' v s := by
 obtain ⟨a1, c1, a2, c2, a3, c3, hv, h1, h2, h3⟩ := h
 exact ⟨a1, c1, a2, c2, a3, c3, hv, h1.below hb, h2.below hb, h3.below hb⟩
theorem SoSh.at {w : World} {v : Value} {s : So} (h : SoSh w v s) : SoAt w v s := by
 obtain ⟨a1, c1, a2, c2, a3, c3, hv, h1, h2, h3⟩ := h
 exact ⟨_, _, _, hv, h1.at, h2.at, h3.at⟩
theorem ownSt {s : So} {v : Value} {w : World} (hok : OkO s) (h : SoSh w v s) : Calls Tryz.prog 99 #[v] w fun e w' => ∃ x1 y1 x2 y2 x3 y3 fp, e = .returned (.agg #[.slice x1 s.certs.length y1, .slice x2 s.crls.length y2, .slice x3 s.ancs.length y3]) /\ OwnO w' w.heap.size (.agg #[.slice x1 s.certs.length y1, .slice x2 s.crls.length y2, .slice x3 s.ancs.length y3]) s fp /\ Below w.heap.size w w' := by
 obtain ⟨a1, c1, a2, c2, a3, c3, rfl, h1, h2, h3⟩ := h
 refine (ownStore_any s _ _ _ w hok.1 ⟨fun c hc => (hok.2.1 c hc).1, fun c hc => (hok.2.2.1 c hc).1, hok.2.2.2⟩ h1 h2 h3).mono ?_
 rintro e w' ⟨u, fp, rfl, ho, hb⟩
 obtain ⟨x1, y1, x2, y2, x3, y3, hu⟩ := ho.at.shape
 subst hu
 exact ⟨x1, y1, x2, y2, x3, y3, fp, rfl, ho, hb⟩
def ltS (s m : So) : So := if stoOk m = true then m else s
def LtPost (w : World) (s m : So) (e : Ending) (w' : World) : Prop := ∃ x1 y1 x2 y2 x3 y3 fp, e = .returned (.tuple #[.agg #[.slice x1 (ltS s m).certs.length y1, .slice x2 (ltS s m).crls.length y2, .slice x3 (ltS s m).ancs.length y3], .bool (stoOk m)]) /\ OwnO w' w.heap.size (.agg #[.slice x1 (ltS s m).certs.length y1, .slice x2 (ltS s m).crls.length y2, .slice x3 (ltS s m).ancs.length y3]) (ltS s m) fp /\ Below w.heap.size w w'
theorem learnt_any (s m : So) (v u : Value) (w : World) (hs : OkO s) (hm : OkO m) (ha : SoSh w v s) (hb : SoSh w u m) : Calls Tryz.prog 57 #[v, u] w fun e w' => LtPost w s m e w' := by
 obtain ⟨a1, c1, a2, c2, a3, c3, hv, -⟩ := id ha
 obtain ⟨b1, d1, b2, d2, b3, d3, hu, -⟩ := id hb
 subst hv hu
 obtain ⟨OK, hOK⟩ := zE (stoOk m)
 have QK : Hid (∀ W, Below w.heap.size w W -> Calls Tryz.prog 10 #[.agg #[.slice b1 m.certs.length d1, .slice b2 m.crls.length d2, .slice b3 m.ancs.length d3]] W fun e w' => e = .returned (.bool OK) /\ Below W.heap.size W w') := fun W h => by rw [<- hOK]; exact implStoreOk_any m _ W hm (hb.below h).at
 have QS : Hid (∀ W, Below w.heap.size w W -> Calls Tryz.prog 99 #[.agg #[.slice a1 s.certs.length c1, .slice a2 s.crls.length c2, .slice a3 s.ancs.length c3]] W fun e w' => ∃ x1 y1 x2 y2 x3 y3 fp, e = .returned (.agg #[.slice x1 s.certs.length y1, .slice x2 s.crls.length y2, .slice x3 s.ancs.length y3]) /\ OwnO w' W.heap.size (.agg #[.slice x1 s.certs.length y1, .slice x2 s.crls.length y2, .slice x3 s.ancs.length y3]) s fp /\ Below W.heap.size W w') := fun W h => ownSt hs (ha.below h)
 have QM : Hid (∀ W, Below w.heap.size w W -> Calls Tryz.prog 99 #[.agg #[.slice b1 m.certs.length d1, .slice b2 m.crls.length d2, .slice b3 m.ancs.length d3]] W fun e w' => ∃ x1 y1 x2 y2 x3 y3 fp, e = .returned (.agg #[.slice x1 m.certs.length y1, .slice x2 m.crls.length y2, .slice x3 m.ancs.length y3]) /\ OwnO w' W.heap.size (.agg #[.slice x1 m.certs.length y1, .slice x2 m.crls.length y2, .slice x3 m.ancs.length y3]) m fp /\ Below W.heap.size W w') := fun W h => ownSt hm (hb.below h)
 have HOK : Hid (stoOk m = OK) := hOK
 clear ha hb hs hm hOK
 obtain ⟨n1, e1⟩ := zE (s.certs.length)
 obtain ⟨n2, e2⟩ := zE (s.crls.length)
 obtain ⟨n3, e3⟩ := zE (s.ancs.length)
 obtain ⟨m1, g1⟩ := zE (m.certs.length)
 obtain ⟨m2, g2⟩ := zE (m.crls.length)
 obtain ⟨m3, g3⟩ := zE (m.ancs.length)
 have HSM : Hid ((s.certs.length = n1 /\ s.crls.length = n2 /\ s.ancs.length = n3) /\ m.certs.length = m1 /\ m.crls.length = m2 /\ m.ancs.length = m3) := ⟨⟨e1, e2, e3⟩, g1, g2, g3⟩
 rw [e1, e2, e3, g1, g2, g3]
 rw [g1, g2, g3] at QK
 have QS' : Hid (∀ W, Below w.heap.size w W -> Calls Tryz.prog 99 #[.agg #[.slice a1 n1 c1, .slice a2 n2 c2, .slice a3 n3 c3]] W fun e w' => ∃ x1 y1 x2 y2 x3 y3 fp, e = .returned (.agg #[.slice x1 s.certs.length y1, .slice x2 s.crls.length y2, .slice x3 s.ancs.length y3]) /\ OwnO w' W.heap.size (.agg #[.slice x1 s.certs.length y1, .slice x2 s.crls.length y2, .slice x3 s.ancs.length y3]) s fp /\ Below W.heap.size W w') := fun W h => by rw [<- e1, <- e2, <- e3]; exact QS.out W h
 have QM' : Hid (∀ W, Below w.heap.size w W -> Calls Tryz.prog 99 #[.agg #[.slice b1 m1 d1, .slice b2 m2 d2, .slice b3 m3 d3]] W fun e w' => ∃ x1 y1 x2 y2 x3 y3 fp, e = .returned (.agg #[.slice x1 m.certs.length y1, .slice x2 m.crls.length y2, .slice x3 m.ancs.length y3]) /\ OwnO w' W.heap.size (.agg #[.slice x1 m.certs.length y1, .slice x2 m.crls.length y2, .slice x3 m.ancs.length y3]) m fp /\ Below W.heap.size W w') := fun W h => by rw [<- g1, <- g2, <- g3]; exact QM.out W h
 clear QS QM e1 e2 e3 g1 g2 g3
 have QS := QS'
 have QM := QM'
 clear QS' QM'
 obtain ⟨V, hV⟩ : ∃ W, W = (((w.alloc (Obj.cells #[.slice a1 n1 c1, .slice a2 n2 c2, .slice a3 n3 c3] 33)).alloc (Obj.cells #[.slice b1 m1 d1, .slice b2 m2 d2, .slice b3 m3 d3] 33)).alloc (Obj.cells #[.slice none 0 0, .slice none 0 0, .slice none 0 0] 33)) := ⟨_, rfl⟩
 have H0 : Hid (Below w.heap.size w V /\ Blk V w.heap.size 33 #[.slice a1 n1 c1, .slice a2 n2 c2, .slice a3 n3 c3] /\ Blk V (w.heap.size + 1) 33 #[.slice b1 m1 d1, .slice b2 m2 d2, .slice b3 m3 d3] /\ Blk V (w.heap.size + 1 + 1) 33 #[.slice none 0 0, .slice none 0 0, .slice none 0 0] /\ w.heap.size + 1 + 1 + 1 <= V.heap.size) := by
  have e0 : (w.alloc (Obj.cells #[.slice a1 n1 c1, .slice a2 n2 c2, .slice a3 n3 c3] 33)).heap.size = w.heap.size + 1 := Array.size_push _
  have e1 : ((w.alloc (Obj.cells #[.slice a1 n1 c1, .slice a2 n2 c2, .slice a3 n3 c3] 33)).alloc (Obj.cells #[.slice b1 m1 d1, .slice b2 m2 d2, .slice b3 m3 d3] 33)).heap.size = w.heap.size + 1 + 1 := by rw [size_alloc, e0]
  rw [hV]
  refine ⟨(((Below.refl _ _).alloc (Nat.le_refl _) _).alloc (by rw [e0]; omega) _).alloc (by rw [e1]; omega) _, ((Blk.new w _ _).alloc _).alloc _, ?_, ?_, by rw [size_alloc, e1]; omega⟩
  ·have h := (Blk.new (w.alloc (Obj.cells #[.slice a1 n1 c1, .slice a2 n2 c2, .slice a3 n3 c3] 33)) 33 #[.slice b1 m1 d1, .slice b2 m2 d2, .slice b3 m3 d3]).alloc (Obj.cells #[.slice none 0 0, .slice none 0 0, .slice none 0 0] 33)
   rw [e0] at h
   exact h
  ·have h := Blk.new ((w.alloc (Obj.cells #[.slice a1 n1 c1, .slice a2 n2 c2, .slice a3 n3 c3] 33)).alloc (Obj.cells #[.slice b1 m1 d1, .slice b2 m2 d2, .slice b3 m3 d3] 33)) 33 #[.slice none 0 0, .slice none 0 0, .slice none 0 0]
   rw [e1] at h
   exact h
 go_enter Tryz.func57, Tryz.ntmps57
 go_wp2_with fail
 change Calls _ _ _ (((w.alloc (Obj.cells #[.slice a1 n1 c1, .slice a2 n2 c2, .slice a3 n3 c3] 33)).alloc (Obj.cells #[.slice b1 m1 d1, .slice b2 m2 d2, .slice b3 m3 d3] 33)).alloc (Obj.cells #[.slice none 0 0, .slice none 0 0, .slice none 0 0] 33)) _
 rw [<- hV]
 clear hV
 refine (QK.out V H0.out.1).mono ?_
 rintro e w1 ⟨rfl, hb⟩
 have H1 : Hid (Below w.heap.size w w1 /\ Blk w1 w.heap.size 33 #[.slice a1 n1 c1, .slice a2 n2 c2, .slice a3 n3 c3] /\ Blk w1 (w.heap.size + 1) 33 #[.slice b1 m1 d1, .slice b2 m2 d2, .slice b3 m3 d3] /\ Blk w1 (w.heap.size + 1 + 1) 33 #[.slice none 0 0, .slice none 0 0, .slice none 0 0] /\ w.heap.size + 1 + 1 + 1 <= w1.heap.size) := ⟨H0.out.1.trans (hb.mono H0.out.1.size), H0.out.2.1.below hb H0.out.2.1.lt, H0.out.2.2.1.below hb H0.out.2.2.1.lt, H0.out.2.2.2.1.below hb H0.out.2.2.2.1.lt, Nat.le_trans H0.out.2.2.2.2 hb.size⟩
 clear hb H0 QK
 cases OK with
 | false =>
  have HLT : Hid (ltS s m = s) := by show _ = _; unfold ltS; rw [HOK.out]; rfl
  have t0 : w1.cell? ⟨w.heap.size, 0, none⟩ = some (.slice a1 n1 c1) := H1.out.2.1.cell 0
  have t1 : w1.cell? ⟨w.heap.size, 1, none⟩ = some (.slice a2 n2 c2) := H1.out.2.1.cell 1
  have t2 : w1.cell? ⟨w.heap.size, 2, none⟩ = some (.slice a3 n3 c3) := H1.out.2.1.cell 2
  go_wp2_with fail
  clear t0 t1 t2
  refine (QS.out w1 H1.out.1).mono ?_
  rintro e w2 ⟨x1, y1, x2, y2, x3, y3, fp, rfl, ho, hb⟩
  have H2 : Hid (Below w.heap.size w w2 /\ Blk w2 w.heap.size 33 #[.slice a1 n1 c1, .slice a2 n2 c2, .slice a3 n3 c3] /\ Blk w2 (w.heap.size + 1) 33 #[.slice b1 m1 d1, .slice b2 m2 d2, .slice b3 m3 d3] /\ Blk w2 (w.heap.size + 1 + 1) 33 #[.slice none 0 0, .slice none 0 0, .slice none 0 0] /\ w.heap.size + 1 + 1 + 1 <= w2.heap.size) := ⟨H1.out.1.trans (hb.mono H1.out.1.size), H1.out.2.1.below hb H1.out.2.1.lt, H1.out.2.2.1.below hb H1.out.2.2.1.lt, H1.out.2.2.2.1.below hb H1.out.2.2.2.1.lt, Nat.le_trans H1.out.2.2.2.2 hb.size⟩
  have HO : Hid (OwnO w2 (w.heap.size + 1 + 1 + 1) (.agg #[.slice x1 (ltS s m).certs.length y1, .slice x2 (ltS s m).crls.length y2, .slice x3 (ltS s m).ancs.length y3]) (ltS s m) fp) := by rw [HLT.out]; obtain ⟨p, q, r, f1, f2, f3, hv, h1, h2, h3, h4⟩ := ho; exact ⟨p, q, r, f1, f2, f3, hv, h1.base H1.out.2.2.2.2, h2.base H1.out.2.2.2.2, h3.base H1.out.2.2.2.2, h4⟩
  rw [<- HLT.out]
  clear ho hb H1
  have r0 : w2.cell? ⟨w.heap.size + 1 + 1, 0, none⟩ = some (.slice none 0 0) := H2.out.2.2.2.1.cell 0
  have r1 : w2.cell? ⟨w.heap.size + 1 + 1, 1, none⟩ = some (.slice none 0 0) := H2.out.2.2.2.1.cell 1
  have r2 : w2.cell? ⟨w.heap.size + 1 + 1, 2, none⟩ = some (.slice none 0 0) := H2.out.2.2.2.1.cell 2
  have rf := fun i => H2.out.2.2.2.1.free i
  obtain ⟨z1, hz1⟩ := zE ((ltS s m).certs.length)
  obtain ⟨z2, hz2⟩ := zE ((ltS s m).crls.length)
  obtain ⟨z3, hz3⟩ := zE ((ltS s m).ancs.length)
  rw [hz1, hz2, hz3] at HO |-
  have HZ : Hid ((ltS s m).certs.length = z1 /\ (ltS s m).crls.length = z2 /\ (ltS s m).ancs.length = z3) := ⟨hz1, hz2, hz3⟩
  clear hz1 hz2 hz3
  go_wp2_with fail
  refine bodyPost_ret (v := .tuple #[.agg #[.slice x1 z1 y1, .slice x2 z2 y2, .slice x3 z3 y3], .bool false]) (by simp [results, Tryz.results57, go_sem, r0, r1, r2]; try rfl) rfl ?_
  refine ⟨x1, y1, x2, y2, x3, y3, fp, by rw [HZ.out.1, HZ.out.2.1, HZ.out.2.2, HOK.out], ?_, ?_⟩
  ·rw [HZ.out.1, HZ.out.2.1, HZ.out.2.2]
   refine OwnO.base (OwnO.same HO.out fun b hb => ?_) (by omega)
   have := HO.out.lt b hb
   rw [heap_setCell_other _ _ _ _ (by show b ≠ w.heap.size + 1 + 1; omega), heap_setCell_other _ _ _ _ (by show b ≠ w.heap.size + 1 + 1; omega), heap_setCell_other _ _ _ _ (by show b ≠ w.heap.size + 1 + 1; omega)]
  ·iterate 3 refine Below.setCell ?_ (by show w.heap.size <= w.heap.size + 1 + 1; omega) _
   exact H2.out.1
 | true =>
  have HLT : Hid (ltS s m = m) := by show _ = _; unfold ltS; rw [HOK.out]; rfl
  have t0 : w1.cell? ⟨w.heap.size + 1, 0, none⟩ = some (.slice b1 m1 d1) := H1.out.2.2.1.cell 0
  have t1 : w1.cell? ⟨w.heap.size + 1, 1, none⟩ = some (.slice b2 m2 d2) := H1.out.2.2.1.cell 1
  have t2 : w1.cell? ⟨w.heap.size + 1, 2, none⟩ = some (.slice b3 m3 d3) := H1.out.2.2.1.cell 2
  go_wp2_with fail
  clear t0 t1 t2
  refine (QM.out w1 H1.out.1).mono ?_
  rintro e w2 ⟨x1, y1, x2, y2, x3, y3, fp, rfl, ho, hb⟩
  have H2 : Hid (Below w.heap.size w w2 /\ Blk w2 w.heap.size 33 #[.slice a1 n1 c1, .slice a2 n2 c2, .slice a3 n3 c3] /\ Blk w2 (w.heap.size + 1) 33 #[.slice b1 m1 d1, .slice b2 m2 d2, .slice b3 m3 d3] /\ Blk w2 (w.heap.size + 1 + 1) 33 #[.slice none 0 0, .slice none 0 0, .slice none 0 0] /\ w.heap.size + 1 + 1 + 1 <= w2.heap.size) := ⟨H1.out.1.trans (hb.mono H1.out.1.size), H1.out.2.1.below hb H1.out.2.1.lt, H1.out.2.2.1.below hb H1.out.2.2.1.lt, H1.out.2.2.2.1.below hb H1.out.2.2.2.1.lt, Nat.le_trans H1.out.2.2.2.2 hb.size⟩
  have HO : Hid (OwnO w2 (w.heap.size + 1 + 1 + 1) (.agg #[.slice x1 (ltS s m).certs.length y1, .slice x2 (ltS s m).crls.length y2, .slice x3 (ltS s m).ancs.length y3]) (ltS s m) fp) := by rw [HLT.out]; obtain ⟨p, q, r, f1, f2, f3, hv, h1, h2, h3, h4⟩ := ho; exact ⟨p, q, r, f1, f2, f3, hv, h1.base H1.out.2.2.2.2, h2.base H1.out.2.2.2.2, h3.base H1.out.2.2.2.2, h4⟩
  rw [<- HLT.out]
  clear ho hb H1
  have r0 : w2.cell? ⟨w.heap.size + 1 + 1, 0, none⟩ = some (.slice none 0 0) := H2.out.2.2.2.1.cell 0
  have r1 : w2.cell? ⟨w.heap.size + 1 + 1, 1, none⟩ = some (.slice none 0 0) := H2.out.2.2.2.1.cell 1
  have r2 : w2.cell? ⟨w.heap.size + 1 + 1, 2, none⟩ = some (.slice none 0 0) := H2.out.2.2.2.1.cell 2
  have rf := fun i => H2.out.2.2.2.1.free i
  obtain ⟨z1, hz1⟩ := zE ((ltS s m).certs.length)
  obtain ⟨z2, hz2⟩ := zE ((ltS s m).crls.length)
  obtain ⟨z3, hz3⟩ := zE ((ltS s m).ancs.length)
  rw [hz1, hz2, hz3] at HO |-
  have HZ : Hid ((ltS s m).certs.length = z1 /\ (ltS s m).crls.length = z2 /\ (ltS s m).ancs.length = z3) := ⟨hz1, hz2, hz3⟩
  clear hz1 hz2 hz3
  go_wp2_with fail
  refine bodyPost_ret (v := .tuple #[.agg #[.slice x1 z1 y1, .slice x2 z2 y2, .slice x3 z3 y3], .bool true]) (by simp [results, Tryz.results57, go_sem, r0, r1, r2]; try rfl) rfl ?_
  refine ⟨x1, y1, x2, y2, x3, y3, fp, by rw [HZ.out.1, HZ.out.2.1, HZ.out.2.2, HOK.out], ?_, ?_⟩
  ·rw [HZ.out.1, HZ.out.2.1, HZ.out.2.2]
   refine OwnO.base (OwnO.same HO.out fun b hb => ?_) (by omega)
   have := HO.out.lt b hb
   rw [heap_setCell_other _ _ _ _ (by show b ≠ w.heap.size + 1 + 1; omega), heap_setCell_other _ _ _ _ (by show b ≠ w.heap.size + 1 + 1; omega), heap_setCell_other _ _ _ _ (by show b ≠ w.heap.size + 1 + 1; omega)]
  ·iterate 3 refine Below.setCell ?_ (by show w.heap.size <= w.heap.size + 1 + 1; omega) _
   exact H2.out.1
def addCrl (s : So) (c : Cl) : So := ⟨s.certs, s.crls ++ [c], s.ancs⟩
theorem implAddCrl_any (s : So) (c : Cl) (v u : Value) (w : World) (hs : OkO s) (hm : OkO (addCrl s c)) (ha : SoSh w v s) (hu : crlKd.Own w 0 u c) : Calls Tryz.prog 23 #[v, u] w fun e w' => LtPost w s (addCrl s c) e w' := by
 obtain ⟨a1, c1, a2, c2, a3, c3, hv, ha1, ha2, ha3⟩ := id ha
 subst hv
 obtain ⟨p1, q1, hue⟩ := ClAt.shape (OwnL.at hu)
 subst hue
 have QW : Hid (∀ W, Below w.heap.size w W -> Calls Tryz.prog 71 #[.slice a2 s.crls.length c2, .agg #[.string c.issuer, .int .i64 c.num, .int .i64 c.ths, .int .i64 c.nxt, .int .i64 c.bas, .slice p1 c.revs.length q1, .string c.sig]] W fun e w' => ∃ v', e = .returned v' /\ (∀ W2, Below w.heap.size w W2 -> (∀ b, W.heap.size <= b -> b < w'.heap.size -> W2.heap[b]? = w'.heap[b]?) -> ShS crlKd W2 v' (s.crls ++ [c])) /\ Below W.heap.size W w') := fun W h => withCrl_any s.crls _ _ c w W h (by have := hs.1; omega) ha2 hu
 have QL : Hid (∀ (x : Value) (W : World), Below w.heap.size w W -> ShS crlKd W x (s.crls ++ [c]) -> Calls Tryz.prog 57 #[.agg #[.slice a1 s.certs.length c1, .slice a2 s.crls.length c2, .slice a3 s.ancs.length c3], .agg #[.slice a1 s.certs.length c1, x, .slice a3 s.ancs.length c3]] W fun e w' => LtPost W s (addCrl s c) e w') := fun x W h hx => learnt_any s (addCrl s c) _ _ W hs hm (ha.below h) (SoSh.mk (s := addCrl s c) (ha1.below h) hx (ha3.below h))
 clear ha ha1 ha2 ha3 hs hm hu
 unfold clV
 obtain ⟨n1, e1⟩ := zE (s.certs.length)
 obtain ⟨n2, e2⟩ := zE (s.crls.length)
 obtain ⟨n3, e3⟩ := zE (s.ancs.length)
 rw [e1, e2, e3] at QL
 rw [e1, e2, e3]
 rw [e2] at QW
 clear e1 e2 e3
 obtain ⟨MM, hMM⟩ := zE (addCrl s c)
 rw [hMM] at QL |-
 clear hMM
 obtain ⟨V, hV⟩ : ∃ W, W = ((((w.alloc (Obj.cells #[.slice a1 n1 c1, .slice a2 n2 c2, .slice a3 n3 c3] 33)).alloc (Obj.cells #[.string c.issuer, .int .i64 c.num, .int .i64 c.ths, .int .i64 c.nxt, .int .i64 c.bas, .slice p1 c.revs.length q1, .string c.sig] 57)).alloc (Obj.cells #[.slice none 0 0, .slice none 0 0, .slice none 0 0] 33)).alloc (Obj.cells #[.slice a1 n1 c1, .slice a2 n2 c2, .slice a3 n3 c3] 33)) := ⟨_, rfl⟩
 have H0 : Hid (Below w.heap.size w V /\ Blk V w.heap.size 33 #[.slice a1 n1 c1, .slice a2 n2 c2, .slice a3 n3 c3] /\ Blk V (w.heap.size + 1 + 1) 33 #[.slice none 0 0, .slice none 0 0, .slice none 0 0] /\ Blk V (w.heap.size + 1 + 1 + 1) 33 #[.slice a1 n1 c1, .slice a2 n2 c2, .slice a3 n3 c3] /\ w.heap.size + 1 + 1 + 1 + 1 <= V.heap.size) := by
  have e0 : (w.alloc (Obj.cells #[.slice a1 n1 c1, .slice a2 n2 c2, .slice a3 n3 c3] 33)).heap.size = w.heap.size + 1 := Array.size_push _
  have e1 : ((w.alloc (Obj.cells #[.slice a1 n1 c1, .slice a2 n2 c2, .slice a3 n3 c3] 33)).alloc (Obj.cells #[.string c.issuer, .int .i64 c.num, .int .i64 c.ths, .int .i64 c.nxt, .int .i64 c.bas, .slice p1 c.revs.length q1, .string c.sig] 57)).heap.size = w.heap.size + 1 + 1 := by rw [size_alloc, e0]
  have e2 : (((w.alloc (Obj.cells #[.slice a1 n1 c1, .slice a2 n2 c2, .slice a3 n3 c3] 33)).alloc (Obj.cells #[.string c.issuer, .int .i64 c.num, .int .i64 c.ths, .int .i64 c.nxt, .int .i64 c.bas, .slice p1 c.revs.length q1, .string c.sig] 57)).alloc (Obj.cells #[.slice none 0 0, .slice none 0 0, .slice none 0 0] 33)).heap.size = w.heap.size + 1 + 1 + 1 := by rw [size_alloc, e1]
  rw [hV]
  refine ⟨((((Below.refl _ _).alloc (Nat.le_refl _) _).alloc (by rw [e0]; omega) _).alloc (by rw [e1]; omega) _).alloc (by rw [e2]; omega) _, (((Blk.new w _ _).alloc _).alloc _).alloc _, ?_, ?_, by rw [size_alloc, e2]; omega⟩
  ·have h := (Blk.new ((w.alloc (Obj.cells #[.slice a1 n1 c1, .slice a2 n2 c2, .slice a3 n3 c3] 33)).alloc (Obj.cells #[.string c.issuer, .int .i64 c.num, .int .i64 c.ths, .int .i64 c.nxt, .int .i64 c.bas, .slice p1 c.revs.length q1, .string c.sig] 57)) 33 #[.slice none 0 0, .slice none 0 0, .slice none 0 0]).alloc (Obj.cells #[.slice a1 n1 c1, .slice a2 n2 c2, .slice a3 n3 c3] 33)
   rw [e1] at h
   exact h
  ·have h := Blk.new (((w.alloc (Obj.cells #[.slice a1 n1 c1, .slice a2 n2 c2, .slice a3 n3 c3] 33)).alloc (Obj.cells #[.string c.issuer, .int .i64 c.num, .int .i64 c.ths, .int .i64 c.nxt, .int .i64 c.bas, .slice p1 c.revs.length q1, .string c.sig] 57)).alloc (Obj.cells #[.slice none 0 0, .slice none 0 0, .slice none 0 0] 33)) 33 #[.slice a1 n1 c1, .slice a2 n2 c2, .slice a3 n3 c3]
   rw [e2] at h
   exact h
 go_enter Tryz.func23, Tryz.ntmps23
 go_wp2_with fail
 change Calls _ _ _ ((((w.alloc (Obj.cells #[.slice a1 n1 c1, .slice a2 n2 c2, .slice a3 n3 c3] 33)).alloc (Obj.cells #[.string c.issuer, .int .i64 c.num, .int .i64 c.ths, .int .i64 c.nxt, .int .i64 c.bas, .slice p1 c.revs.length q1, .string c.sig] 57)).alloc (Obj.cells #[.slice none 0 0, .slice none 0 0, .slice none 0 0] 33)).alloc (Obj.cells #[.slice a1 n1 c1, .slice a2 n2 c2, .slice a3 n3 c3] 33)) _
 rw [<- hV]
 clear hV
 refine (QW.out V H0.out.1).mono ?_
 rintro e w1 ⟨x, rfl, hx, hb⟩
 obtain ⟨b, e, hxe⟩ := (hx w1 (H0.out.1.trans (hb.mono H0.out.1.size)) (fun _ _ _ => rfl)).shape
 obtain ⟨m, hm⟩ := zE ((s.crls ++ [c]).length)
 rw [hm] at hxe
 subst hxe
 clear hm
 have H1 : Hid ((Below w.heap.size w w1 /\ Blk w1 w.heap.size 33 #[.slice a1 n1 c1, .slice a2 n2 c2, .slice a3 n3 c3] /\ Blk w1 (w.heap.size + 1 + 1) 33 #[.slice none 0 0, .slice none 0 0, .slice none 0 0] /\ Blk w1 (w.heap.size + 1 + 1 + 1) 33 #[.slice a1 n1 c1, .slice a2 n2 c2, .slice a3 n3 c3] /\ w.heap.size + 1 + 1 + 1 + 1 <= w1.heap.size) /\ (∀ W2, Below w.heap.size w W2 -> (∀ b, V.heap.size <= b -> b < w1.heap.size -> W2.heap[b]? = w1.heap[b]?) -> ShS crlKd W2 (.slice b m e) (s.crls ++ [c])) /\ w.heap.size + 1 + 1 + 1 + 1 <= V.heap.size) := ⟨⟨H0.out.1.trans (hb.mono H0.out.1.size), H0.out.2.1.below hb H0.out.2.1.lt, H0.out.2.2.1.below hb H0.out.2.2.1.lt, H0.out.2.2.2.1.below hb H0.out.2.2.2.1.lt, Nat.le_trans H0.out.2.2.2.2 hb.size⟩, hx, H0.out.2.2.2.2⟩
 clear hb H0 hx QW
 have fr := fun i => H1.out.1.2.2.2.1.free i
 have g0 : w1.cell? ⟨w.heap.size + 1 + 1 + 1, 0, none⟩ = some (.slice a1 n1 c1) := H1.out.1.2.2.2.1.cell 0
 have g1 : w1.cell? ⟨w.heap.size + 1 + 1 + 1, 1, none⟩ = some (.slice a2 n2 c2) := H1.out.1.2.2.2.1.cell 1
 have g2 : w1.cell? ⟨w.heap.size + 1 + 1 + 1, 2, none⟩ = some (.slice a3 n3 c3) := H1.out.1.2.2.2.1.cell 2
 have t0 : w1.cell? ⟨w.heap.size, 0, none⟩ = some (.slice a1 n1 c1) := H1.out.1.2.1.cell 0
 have t1 : w1.cell? ⟨w.heap.size, 1, none⟩ = some (.slice a2 n2 c2) := H1.out.1.2.1.cell 1
 have t2 : w1.cell? ⟨w.heap.size, 2, none⟩ = some (.slice a3 n3 c3) := H1.out.1.2.1.cell 2
 have wd1 : w.heap.size ≠ w.heap.size + 1 + 1 + 1 := by omega
 go_wp2_with fail
 clear g0 g1 g2 t0 t1 t2 fr
 obtain ⟨V2, hV2⟩ : ∃ W, W = w1.setCell ⟨w.heap.size + 1 + 1 + 1, 1, none⟩ (.slice b m e) := ⟨_, rfl⟩
 rw [<- hV2]
 have H2 : Hid ((Below w.heap.size w V2 /\ Blk V2 w.heap.size 33 #[.slice a1 n1 c1, .slice a2 n2 c2, .slice a3 n3 c3] /\ Blk V2 (w.heap.size + 1 + 1) 33 #[.slice none 0 0, .slice none 0 0, .slice none 0 0] /\ Blk V2 (w.heap.size + 1 + 1 + 1) 33 #[.slice a1 n1 c1, .slice b m e, .slice a3 n3 c3] /\ w.heap.size + 1 + 1 + 1 + 1 <= V2.heap.size) /\ ShS crlKd V2 (.slice b m e) (s.crls ++ [c])) := by
  rw [hV2]
  refine ⟨⟨Below.setCell H1.out.1.1 (by show w.heap.size <= w.heap.size + 1 + 1 + 1; omega) _, H1.out.1.2.1.other _ (by show w.heap.size ≠ w.heap.size + 1 + 1 + 1; omega), H1.out.1.2.2.1.other _ (by show w.heap.size + 1 + 1 ≠ w.heap.size + 1 + 1 + 1; omega), H1.out.1.2.2.2.1.set 1 _, Nat.le_trans H1.out.1.2.2.2.2 (sizeSet _ _ _)⟩, H1.out.2.1 _ (Below.setCell H1.out.1.1 (by show w.heap.size <= w.heap.size + 1 + 1 + 1; omega) _) (fun b h1 h2 => heap_setCell_other _ _ _ _ (by have := H1.out.2.2; show b ≠ w.heap.size + 1 + 1 + 1; omega))⟩
 clear hV2 H1
 refine (QL.out _ V2 H2.out.1.1 H2.out.2).mono ?_
 rintro e' w3 ⟨x1, y1, x2, y2, x3, y3, fp, rfl, ho, hb⟩
 have H3 : Hid (Below w.heap.size w w3 /\ Blk w3 w.heap.size 33 #[.slice a1 n1 c1, .slice a2 n2 c2, .slice a3 n3 c3] /\ Blk w3 (w.heap.size + 1 + 1) 33 #[.slice none 0 0, .slice none 0 0, .slice none 0 0] /\ Blk w3 (w.heap.size + 1 + 1 + 1) 33 #[.slice a1 n1 c1, .slice b m e, .slice a3 n3 c3] /\ w.heap.size + 1 + 1 + 1 + 1 <= w3.heap.size) := ⟨H2.out.1.1.trans (hb.mono H2.out.1.1.size), H2.out.1.2.1.below hb H2.out.1.2.1.lt, H2.out.1.2.2.1.below hb H2.out.1.2.2.1.lt, H2.out.1.2.2.2.1.below hb H2.out.1.2.2.2.1.lt, Nat.le_trans H2.out.1.2.2.2.2 hb.size⟩
 have HO : Hid (OwnO w3 (w.heap.size + 1 + 1 + 1 + 1) (.agg #[.slice x1 (ltS s MM).certs.length y1, .slice x2 (ltS s MM).crls.length y2, .slice x3 (ltS s MM).ancs.length y3]) (ltS s MM) fp) := by obtain ⟨p, q, r, f1, f2, f3, hv, h1, h2, h3, h4⟩ := ho; exact ⟨p, q, r, f1, f2, f3, hv, h1.base H2.out.1.2.2.2.2, h2.base H2.out.1.2.2.2.2, h3.base H2.out.1.2.2.2.2, h4⟩
 clear ho hb H2 QL
 have r0 : w3.cell? ⟨w.heap.size + 1 + 1, 0, none⟩ = some (.slice none 0 0) := H3.out.2.2.1.cell 0
 have r1 : w3.cell? ⟨w.heap.size + 1 + 1, 1, none⟩ = some (.slice none 0 0) := H3.out.2.2.1.cell 1
 have r2 : w3.cell? ⟨w.heap.size + 1 + 1, 2, none⟩ = some (.slice none 0 0) := H3.out.2.2.1.cell 2
 have rf := fun i => H3.out.2.2.1.free i
 obtain ⟨z1, hz1⟩ := zE ((ltS s MM).certs.length)
 obtain ⟨z2, hz2⟩ := zE ((ltS s MM).crls.length)
 obtain ⟨z3, hz3⟩ := zE ((ltS s MM).ancs.length)
 obtain ⟨OK, hOK⟩ := zE (stoOk MM)
 rw [hz1, hz2, hz3] at HO |-
 rw [hOK]
 have HZ : Hid ((ltS s MM).certs.length = z1 /\ (ltS s MM).crls.length = z2 /\ (ltS s MM).ancs.length = z3 /\ stoOk MM = OK) := ⟨hz1, hz2, hz3, hOK⟩
 clear hz1 hz2 hz3 hOK
 go_wp2_with fail
 refine bodyPost_ret (v := .tuple #[.agg #[.slice x1 z1 y1, .slice x2 z2 y2, .slice x3 z3 y3], .bool OK]) (by simp [results, Tryz.results23, go_sem, r0, r1, r2]; try rfl) rfl ?_
 refine ⟨x1, y1, x2, y2, x3, y3, fp, by rw [HZ.out.1, HZ.out.2.1, HZ.out.2.2.1, HZ.out.2.2.2], ?_, ?_⟩
 ·rw [HZ.out.1, HZ.out.2.1, HZ.out.2.2.1]
  refine OwnO.base (OwnO.same HO.out fun b hb => ?_) (by omega)
  have := HO.out.lt b hb
  rw [heap_setCell_other _ _ _ _ (by show b ≠ w.heap.size + 1 + 1; omega), heap_setCell_other _ _ _ _ (by show b ≠ w.heap.size + 1 + 1; omega), heap_setCell_other _ _ _ _ (by show b ≠ w.heap.size + 1 + 1; omega)]
 ·iterate 3 refine Below.setCell ?_ (by show w.heap.size <= w.heap.size + 1 + 1; omega) _
  exact H3.out.1
end Go.Proofs.YtplblechcnbieaaGreat
