/-
  Texts of the proof.
-/
import Derived.Laws.AppendOwnNone
import Derived.Deep.AppendLies
import Derived.Deep.AppendSrc
import Derived.Deep.RegionLaw
import Derived.Test.YtabfamhaihnccaaGreatSV20
set_option maxRecDepth 100000
set_option maxHeartbeats 25600000
namespace Go.Proofs.YtabfamhaihnccaaGreat
open Go.RowKit Der
set_option linter.unusedVariables false
def OkO (s : So) : Prop := (s.certs.length <= 2000000 /\ s.crls.length <= 2000000 /\ s.ancs.length <= 2000000) /\ (∀ c ∈ s.certs, wtC c <= 1048576 /\ WdC c) /\ (∀ c ∈ s.crls, wtL c <= 1048576 /\ WdL c) /\ ∀ a ∈ s.ancs, wtA a <= 1048576
theorem differentCert_any (l : List Ct) (v : Value) (w : World) (hl : l.length <= 2000000) (hwd : ∀ c ∈ l, wtC c <= 1048576 /\ WdC c) (ha : AtS certKd w v l) :
  Calls Tryz.prog 84 #[v, .func (.func 85) #[] #[]] w fun e w' => e = .returned (.bool (dif [] (l.map tC))) /\ Below w.heap.size w w' := by
 obtain ⟨i0, hi, hz0, hz1, hz2⟩ := info_parts info9
 obtain ⟨ax, cx, hv⟩ := ha.shape
 obtain ⟨len, hlen⟩ := zE (l.length)
 rw [hlen] at hv hl
 subst hv
 obtain ⟨R, hR⟩ := zE (dif [] (l.map tC))
 rw [hR]
 have HX : Hid (AtS certKd w (.slice ax len cx) l /\ l.length = len /\ (∀ c ∈ l, wtC c <= 1048576 /\ WdC c) /\ dif [] (l.map tC) = R) := ⟨ha, hlen, hwd, hR⟩
 have HTX : Hid (∀ (c : Ct) (v : Value) (W : World), wtC c <= 1048576 /\ WdC c -> certKd.At W v c -> Calls Tryz.prog 85 #[v] W fun e w' => e = .returned (.tuple #[.string (tC c).2, .bool (tC c).1]) /\ Below W.heap.size W w') := fun c v W h2 h1 => (implCertText_any c _ W h2.1 h2.2 h1)
 clear ha hlen hwd hR
 go_enter Tryz.func84, Tryz.ntmps84
 go_wp2_with fail
 go_loopw [5, 12] (fun tv iv wr => ∃ k : Nat, k <= len /\ iv = .int .i64 k /\ Hid (OwnT wr w.heap.size tv (((l.map tC).take k).map Prod.snd) /\ Below w.heap.size w wr /\ dif (((l.map tC).take k).map Prod.snd) ((l.map tC).drop k) = R)) (fun _ iv _ => len - (intOf iv).toNat)
 case atStart => exact ⟨0, Nat.zero_le _, rfl, World.ownsRow_nil _ _ _ _, Below.refl _ _, HX.out.2.2.2⟩
 case round =>
  obtain ⟨k, hk, rfl, H⟩ := hrel
  by_cases hkn : k < len
  ·have hkl : k < l.length := by rw [HX.out.2.1]; exact hkn
   have hkm : k < (l.map tC).length := by rw [List.length_map]; exact hkl
   obtain ⟨g, o, u, hax, hg, hP, hs, hc⟩ := HX.out.1.get hkl
   obtain ⟨p1, q1, p2, q2, p3, q3, hu⟩ := CtAt.shape hP
   subst hax
   have hki : (k : Int) < (len : Int) := by omega
   have hk0 : (0 : Int) <= (k : Int) := by omega
   have hPw := certKd.below hP H.out.2.1
   obtain ⟨c, hce⟩ := zE (l[k])
   have hwc := HX.out.2.2.1 _ (List.getElem_mem hkl)
   have hrg0 := fun i x hx => (H.out.2.1.cell (p := ⟨g, o + k * 13 + i, none⟩) hg).trans (hc i x hx)
   rw [hce] at hu hPw hwc
   subst hu
   have hrg : wr.rangeAt g (o + k * 13) #[.int .i64 c.serial, .string c.issuer, .string c.subject, .int .i64 c.frm, .int .i64 c.upto, .string c.key, .bool c.ca, .int .i64 c.pathLen, .int .i64 c.usage, .slice p1 c.pol.length q1, .slice p2 c.per.length q2, .slice p3 c.den.length q3, .string c.sig].toList := fun j x hx => hrg0 j x (by rw [<- hx]; exact Array.getElem?_toList.symm)
   obtain ⟨V, hV⟩ : ∃ V, V = (wr.alloc (Obj.cells #[.int .i64 0, .string ⟨#[]⟩, .string ⟨#[]⟩, .int .i64 0, .int .i64 0, .string ⟨#[]⟩, .bool false, .int .i64 0, .int .i64 0, .slice none 0 0, .slice none 0 0, .slice none 0 0, .string ⟨#[]⟩] 52)).setCells wr.heap.size 0 #[.int .i64 c.serial, .string c.issuer, .string c.subject, .int .i64 c.frm, .int .i64 c.upto, .string c.key, .bool c.ca, .int .i64 c.pathLen, .int .i64 c.usage, .slice p1 c.pol.length q1, .slice p2 c.per.length q2, .slice p3 c.den.length q3, .string c.sig].toList := ⟨_, rfl⟩
   have HV : Hid (Below wr.heap.size wr V /\ Blk V wr.heap.size 52 #[.int .i64 c.serial, .string c.issuer, .string c.subject, .int .i64 c.frm, .int .i64 c.upto, .string c.key, .bool c.ca, .int .i64 c.pathLen, .int .i64 c.usage, .slice p1 c.pol.length q1, .slice p2 c.per.length q2, .slice p3 c.den.length q3, .string c.sig]) := fresh_store hV rfl
   have hth := (Blk.new wr 52 #[.int .i64 0, .string ⟨#[]⟩, .string ⟨#[]⟩, .int .i64 0, .int .i64 0, .string ⟨#[]⟩, .bool false, .int .i64 0, .int .i64 0, .slice none 0 0, .slice none 0 0, .slice none 0 0, .string ⟨#[]⟩]).there (n := 13) rfl
   have HR := HTX.out c _ V hwc (certKd.below hPw HV.out.1)
   unfold ctV at HR
   have HD : Hid (R = ((tC c).1 && (!inT (((l.map tC).take k).map Prod.snd) (tC c).2 && dif (((l.map tC).take (k + 1)).map Prod.snd) ((l.map tC).drop (k + 1))))) := by
    show R = _
    rw [<- H.out.2.2, dif_at hkm, List.getElem_map, hce]
   have HN : Hid (((l.map tC).take (k + 1)).map Prod.snd = ((l.map tC).take k).map Prod.snd ++ [(tC c).2]) := by
    show _ = _
    rw [List.take_succ_eq_append_getElem hkm, List.map_append, List.getElem_map, hce]
    rfl
   obtain ⟨T, hT⟩ := zE ((tC c).2)
   obtain ⟨OK, hOK⟩ := zE ((tC c).1)
   rw [hT, hOK] at HR HD
   rw [hT] at HN
   obtain ⟨SN, hSN⟩ := zE (((l.map tC).take k).map Prod.snd)
   have HSL : Hid (SN.length = k) := by show _ = _; rw [<- hSN, List.length_map, List.length_take, List.length_map]; omega
   rw [hSN] at H HD HN
   clear hP hPw hwc hrg0 hs hc hce hT hOK hSN hg
   obtain ⟨la, lc, hlv⟩ : ∃ ao cap, u5 = .slice ao SN.length cap := by obtain ⟨ao, cap, h, _⟩ := H.out.1.at; exact ⟨ao, cap, h⟩
   rw [HSL.out] at hlv
   subst hlv
   go_upto_region 5 with (first | refine wpList_load_mid rfl 52 _ rfl g (o + k * 13) rfl _ _ hrg Tryz.underlying52 rfl (by kernel_rfl) ?_ | (refine step_storeV rfl 52 _ _ rfl wr.heap.size 0 #[.int .i64 c.serial, .string c.issuer, .string c.subject, .int .i64 c.frm, .int .i64 c.upto, .string c.key, .bool c.ca, .int .i64 c.pathLen, .int .i64 c.usage, .slice p1 c.pol.length q1, .slice p2 c.per.length q2, .slice p3 c.den.length q3, .string c.sig] rfl rfl hth (by kernel_rfl) (by simp [Value.oneCell']) hV ?_; clear hV hth))
   have hrv := HV.out.2.range
   go_wp2_with (refine wpList_load_mid rfl 52 _ rfl wr.heap.size 0 rfl _ _ hrv Tryz.underlying52 rfl (by kernel_rfl) ?_)
   refine HR.mono ?_
   rintro e w3 ⟨rfl, hb3'⟩
   have hb3 : Below wr.heap.size wr w3 := HV.out.1.trans (hb3'.mono HV.out.1.size)
   have H3 := zH (zJ (H.out.1.stays hb3) (H.out.2.1.trans (hb3.mono H.out.2.1.size)))
   clear hb3 hb3' H HR hrg hrv HV
   cases OK with
   | false =>
    go_wp2_with fail
    go_ret
    exact ⟨by rw [HD.out]; rfl, H3.out.2⟩
   | true =>
    go_wp2_with fail
    refine (hasText_any _ SN T _ w3 (by rw [HSL.out]; omega) H3.out.1).mono ?_
    rintro e w4 ⟨rfl, rfl⟩
    obtain ⟨IN, hIN⟩ := zE (inT SN T)
    rw [hIN] at HD |-
    clear hIN
    cases IN with
    | true =>
     go_wp2_with fail
     go_ret
     exact ⟨by rw [HD.out]; rfl, H3.out.2⟩
    | false =>
     obtain ⟨W4, hW4⟩ : ∃ V, V = w3.alloc (Obj.cells #[.string T] 9) := ⟨_, rfl⟩
     have hb34 : Below w3.heap.size w3 W4 := by rw [hW4]; exact (Below.refl _ _).alloc (Nat.le_refl _) _
     have H4 := zH (zJ (H3.out.1.stays hb34) (zJ (by rw [hW4]; exact World.ownsRow_lit w3 #[.string T] 1 (Nat.le_refl _) (by decide) rfl : OwnT W4 w3.heap.size (.slice (some ⟨w3.heap.size, 0, none⟩) 1 1) [T]) (H3.out.2.trans (hb34.mono H3.out.2.size))))
     clear hb34 H3
     go_wp2_with (at_builtin; rw [<- hW4]; refine wpList_append_texts2 rfl _ _ 46 rfl w.heap.size i0 Tryz.underlying46 hi hz0 hz1 hz2 (.slice la k lc) SN.length (cellsT SN) rfl H4.out.1 _ [T] w3.heap.size H4.out.2.1 rfl (by rw [HSL.out]; simp only [List.length_singleton]; omega) H4.out.2.2.size ?_)
     intro v9 w9 ho9 hg9
     rw [<- hW4] at hg9
     have H9 : Hid (OwnT w9 w.heap.size v9 (((l.map tC).take (k + 1)).map Prod.snd) /\ Below w.heap.size w w9 /\ dif (((l.map tC).take (k + 1)).map Prod.snd) ((l.map tC).drop (k + 1)) = R) := by
      have hrl := fun b hb => (World.ownsRow.lt H4.out.1 b hb).1
      refine ⟨?_, H4.out.2.2.grown hg9 H4.out.2.2.size hrl, by rw [HD.out]; rfl⟩
      rw [HN.out]
      simpa [OwnT, cellsT_append] using ho9
     clear ho9 hg9 H4 hW4
     go_wp2_with fail
     exact ⟨⟨k + 1, by omega, by go_num, H9⟩, by simp [intOf]; omega⟩
  ·have hkl : k = len := by omega
   subst hkl
   have HRR : Hid (R = true) := by show R = true; rw [<- H.out.2.2]; exact dif_end _ (by rw [List.length_map, HX.out.2.1]; exact Nat.le_refl _)
   go_wp2_with fail
   go_ret
   exact ⟨by rw [HRR.out]; rfl, H.out.2.1⟩
theorem differentCrl_any (l : List Cl) (v : Value) (w : World) (hl : l.length <= 2000000) (hwd : ∀ c ∈ l, wtL c <= 1048576 /\ WdL c) (ha : AtS crlKd w v l) :
  Calls Tryz.prog 86 #[v, .func (.func 87) #[] #[]] w fun e w' => e = .returned (.bool (dif [] (l.map tL))) /\ Below w.heap.size w w' := by
 obtain ⟨i0, hi, hz0, hz1, hz2⟩ := info_parts info9
 obtain ⟨ax, cx, hv⟩ := ha.shape
 obtain ⟨len, hlen⟩ := zE (l.length)
 rw [hlen] at hv hl
 subst hv
 obtain ⟨R, hR⟩ := zE (dif [] (l.map tL))
 rw [hR]
 have HX : Hid (AtS crlKd w (.slice ax len cx) l /\ l.length = len /\ (∀ c ∈ l, wtL c <= 1048576 /\ WdL c) /\ dif [] (l.map tL) = R) := ⟨ha, hlen, hwd, hR⟩
 have HTX : Hid (∀ (c : Cl) (v : Value) (W : World), wtL c <= 1048576 /\ WdL c -> crlKd.At W v c -> Calls Tryz.prog 87 #[v] W fun e w' => e = .returned (.tuple #[.string (tL c).2, .bool (tL c).1]) /\ Below W.heap.size W w') := fun c v W h2 h1 => (implCrlText_any c _ W h2.1 h2.2 h1)
 clear ha hlen hwd hR
 go_enter Tryz.func86, Tryz.ntmps86
 go_wp2_with fail
 go_loopw [5, 12] (fun tv iv wr => ∃ k : Nat, k <= len /\ iv = .int .i64 k /\ Hid (OwnT wr w.heap.size tv (((l.map tL).take k).map Prod.snd) /\ Below w.heap.size w wr /\ dif (((l.map tL).take k).map Prod.snd) ((l.map tL).drop k) = R)) (fun _ iv _ => len - (intOf iv).toNat)
 case atStart => exact ⟨0, Nat.zero_le _, rfl, World.ownsRow_nil _ _ _ _, Below.refl _ _, HX.out.2.2.2⟩
 case round =>
  obtain ⟨k, hk, rfl, H⟩ := hrel
  by_cases hkn : k < len
  ·have hkl : k < l.length := by rw [HX.out.2.1]; exact hkn
   have hkm : k < (l.map tL).length := by rw [List.length_map]; exact hkl
   obtain ⟨g, o, u, hax, hg, hP, hs, hc⟩ := HX.out.1.get hkl
   obtain ⟨p1, q1, hu⟩ := ClAt.shape hP
   subst hax
   have hki : (k : Int) < (len : Int) := by omega
   have hk0 : (0 : Int) <= (k : Int) := by omega
   have hPw := crlKd.below hP H.out.2.1
   obtain ⟨c, hce⟩ := zE (l[k])
   have hwc := HX.out.2.2.1 _ (List.getElem_mem hkl)
   have hrg0 := fun i x hx => (H.out.2.1.cell (p := ⟨g, o + k * 7 + i, none⟩) hg).trans (hc i x hx)
   rw [hce] at hu hPw hwc
   subst hu
   have hrg : wr.rangeAt g (o + k * 7) #[.string c.issuer, .int .i64 c.num, .int .i64 c.ths, .int .i64 c.nxt, .int .i64 c.bas, .slice p1 c.revs.length q1, .string c.sig].toList := fun j x hx => hrg0 j x (by rw [<- hx]; exact Array.getElem?_toList.symm)
   obtain ⟨V, hV⟩ : ∃ V, V = (wr.alloc (Obj.cells #[.string ⟨#[]⟩, .int .i64 0, .int .i64 0, .int .i64 0, .int .i64 0, .slice none 0 0, .string ⟨#[]⟩] 65)).setCells wr.heap.size 0 #[.string c.issuer, .int .i64 c.num, .int .i64 c.ths, .int .i64 c.nxt, .int .i64 c.bas, .slice p1 c.revs.length q1, .string c.sig].toList := ⟨_, rfl⟩
   have HV : Hid (Below wr.heap.size wr V /\ Blk V wr.heap.size 65 #[.string c.issuer, .int .i64 c.num, .int .i64 c.ths, .int .i64 c.nxt, .int .i64 c.bas, .slice p1 c.revs.length q1, .string c.sig]) := fresh_store hV rfl
   have hth := (Blk.new wr 65 #[.string ⟨#[]⟩, .int .i64 0, .int .i64 0, .int .i64 0, .int .i64 0, .slice none 0 0, .string ⟨#[]⟩]).there (n := 7) rfl
   have HR := HTX.out c _ V hwc (crlKd.below hPw HV.out.1)
   unfold clV at HR
   have HD : Hid (R = ((tL c).1 && (!inT (((l.map tL).take k).map Prod.snd) (tL c).2 && dif (((l.map tL).take (k + 1)).map Prod.snd) ((l.map tL).drop (k + 1))))) := by
    show R = _
    rw [<- H.out.2.2, dif_at hkm, List.getElem_map, hce]
   have HN : Hid (((l.map tL).take (k + 1)).map Prod.snd = ((l.map tL).take k).map Prod.snd ++ [(tL c).2]) := by
    show _ = _
    rw [List.take_succ_eq_append_getElem hkm, List.map_append, List.getElem_map, hce]
    rfl
   obtain ⟨T, hT⟩ := zE ((tL c).2)
   obtain ⟨OK, hOK⟩ := zE ((tL c).1)
   rw [hT, hOK] at HR HD
   rw [hT] at HN
   obtain ⟨SN, hSN⟩ := zE (((l.map tL).take k).map Prod.snd)
   have HSL : Hid (SN.length = k) := by show _ = _; rw [<- hSN, List.length_map, List.length_take, List.length_map]; omega
   rw [hSN] at H HD HN
   clear hP hPw hwc hrg0 hs hc hce hT hOK hSN hg
   obtain ⟨la, lc, hlv⟩ : ∃ ao cap, u5 = .slice ao SN.length cap := by obtain ⟨ao, cap, h, _⟩ := H.out.1.at; exact ⟨ao, cap, h⟩
   rw [HSL.out] at hlv
   subst hlv
   go_upto_region 5 with (first | refine wpList_load_mid rfl 65 _ rfl g (o + k * 7) rfl _ _ hrg Tryz.underlying65 rfl (by kernel_rfl) ?_ | (refine step_storeV rfl 65 _ _ rfl wr.heap.size 0 #[.string c.issuer, .int .i64 c.num, .int .i64 c.ths, .int .i64 c.nxt, .int .i64 c.bas, .slice p1 c.revs.length q1, .string c.sig] rfl rfl hth (by kernel_rfl) (by simp [Value.oneCell']) hV ?_; clear hV hth))
   have hrv := HV.out.2.range
   go_wp2_with (refine wpList_load_mid rfl 65 _ rfl wr.heap.size 0 rfl _ _ hrv Tryz.underlying65 rfl (by kernel_rfl) ?_)
   refine HR.mono ?_
   rintro e w3 ⟨rfl, hb3'⟩
   have hb3 : Below wr.heap.size wr w3 := HV.out.1.trans (hb3'.mono HV.out.1.size)
   have H3 := zH (zJ (H.out.1.stays hb3) (H.out.2.1.trans (hb3.mono H.out.2.1.size)))
   clear hb3 hb3' H HR hrg hrv HV
   cases OK with
   | false =>
    go_wp2_with fail
    go_ret
    exact ⟨by rw [HD.out]; rfl, H3.out.2⟩
   | true =>
    go_wp2_with fail
    refine (hasText_any _ SN T _ w3 (by rw [HSL.out]; omega) H3.out.1).mono ?_
    rintro e w4 ⟨rfl, rfl⟩
    obtain ⟨IN, hIN⟩ := zE (inT SN T)
    rw [hIN] at HD |-
    clear hIN
    cases IN with
    | true =>
     go_wp2_with fail
     go_ret
     exact ⟨by rw [HD.out]; rfl, H3.out.2⟩
    | false =>
     obtain ⟨W4, hW4⟩ : ∃ V, V = w3.alloc (Obj.cells #[.string T] 9) := ⟨_, rfl⟩
     have hb34 : Below w3.heap.size w3 W4 := by rw [hW4]; exact (Below.refl _ _).alloc (Nat.le_refl _) _
     have H4 := zH (zJ (H3.out.1.stays hb34) (zJ (by rw [hW4]; exact World.ownsRow_lit w3 #[.string T] 1 (Nat.le_refl _) (by decide) rfl : OwnT W4 w3.heap.size (.slice (some ⟨w3.heap.size, 0, none⟩) 1 1) [T]) (H3.out.2.trans (hb34.mono H3.out.2.size))))
     clear hb34 H3
     go_wp2_with (at_builtin; rw [<- hW4]; refine wpList_append_texts2 rfl _ _ 46 rfl w.heap.size i0 Tryz.underlying46 hi hz0 hz1 hz2 (.slice la k lc) SN.length (cellsT SN) rfl H4.out.1 _ [T] w3.heap.size H4.out.2.1 rfl (by rw [HSL.out]; simp only [List.length_singleton]; omega) H4.out.2.2.size ?_)
     intro v9 w9 ho9 hg9
     rw [<- hW4] at hg9
     have H9 : Hid (OwnT w9 w.heap.size v9 (((l.map tL).take (k + 1)).map Prod.snd) /\ Below w.heap.size w w9 /\ dif (((l.map tL).take (k + 1)).map Prod.snd) ((l.map tL).drop (k + 1)) = R) := by
      have hrl := fun b hb => (World.ownsRow.lt H4.out.1 b hb).1
      refine ⟨?_, H4.out.2.2.grown hg9 H4.out.2.2.size hrl, by rw [HD.out]; rfl⟩
      rw [HN.out]
      simpa [OwnT, cellsT_append] using ho9
     clear ho9 hg9 H4 hW4
     go_wp2_with fail
     exact ⟨⟨k + 1, by omega, by go_num, H9⟩, by simp [intOf]; omega⟩
  ·have hkl : k = len := by omega
   subst hkl
   have HRR : Hid (R = true) := by show R = true; rw [<- H.out.2.2]; exact dif_end _ (by rw [List.length_map, HX.out.2.1]; exact Nat.le_refl _)
   go_wp2_with fail
   go_ret
   exact ⟨by rw [HRR.out]; rfl, H.out.2.1⟩
theorem differentAnchor_any (l : List An) (v : Value) (w : World) (hl : l.length <= 2000000) (hwd : ∀ c ∈ l, wtA c <= 1048576) (ha : AtS anKd w v l) :
  Calls Tryz.prog 88 #[v, .func (.func 89) #[] #[]] w fun e w' => e = .returned (.bool (dif [] (l.map tA))) /\ Below w.heap.size w w' := by
 obtain ⟨i0, hi, hz0, hz1, hz2⟩ := info_parts info9
 obtain ⟨ax, cx, hv⟩ := ha.shape
 obtain ⟨len, hlen⟩ := zE (l.length)
 rw [hlen] at hv hl
 subst hv
 obtain ⟨R, hR⟩ := zE (dif [] (l.map tA))
 rw [hR]
 have HX : Hid (AtS anKd w (.slice ax len cx) l /\ l.length = len /\ (∀ c ∈ l, wtA c <= 1048576) /\ dif [] (l.map tA) = R) := ⟨ha, hlen, hwd, hR⟩
 have HTX : Hid (∀ (c : An) (v : Value) (W : World), wtA c <= 1048576 -> anKd.At W v c -> Calls Tryz.prog 89 #[v] W fun e w' => e = .returned (.tuple #[.string (tA c).2, .bool (tA c).1]) /\ Below W.heap.size W w') := fun c v W h2 h1 => (by have h1' : _ = anV c := h1; subst h1'; exact anchorText_any c W h2)
 clear ha hlen hwd hR
 go_enter Tryz.func88, Tryz.ntmps88
 go_wp2_with fail
 go_loopw [5, 12] (fun tv iv wr => ∃ k : Nat, k <= len /\ iv = .int .i64 k /\ Hid (OwnT wr w.heap.size tv (((l.map tA).take k).map Prod.snd) /\ Below w.heap.size w wr /\ dif (((l.map tA).take k).map Prod.snd) ((l.map tA).drop k) = R)) (fun _ iv _ => len - (intOf iv).toNat)
 case atStart => exact ⟨0, Nat.zero_le _, rfl, World.ownsRow_nil _ _ _ _, Below.refl _ _, HX.out.2.2.2⟩
 case round =>
  obtain ⟨k, hk, rfl, H⟩ := hrel
  by_cases hkn : k < len
  ·have hkl : k < l.length := by rw [HX.out.2.1]; exact hkn
   have hkm : k < (l.map tA).length := by rw [List.length_map]; exact hkl
   obtain ⟨g, o, u, hax, hg, hP, hs, hc⟩ := HX.out.1.get hkl
   have hu : u = anV l[k] := hP
   subst hax
   have hki : (k : Int) < (len : Int) := by omega
   have hk0 : (0 : Int) <= (k : Int) := by omega
   have hPw := anKd.below hP H.out.2.1
   obtain ⟨c, hce⟩ := zE (l[k])
   have hwc := HX.out.2.2.1 _ (List.getElem_mem hkl)
   have hrg0 := fun i x hx => (H.out.2.1.cell (p := ⟨g, o + k * 2 + i, none⟩) hg).trans (hc i x hx)
   rw [hce] at hu hPw hwc
   subst hu
   have hrg : wr.rangeAt g (o + k * 2) #[.string c.name, .string c.key].toList := fun j x hx => hrg0 j x (by rw [<- hx]; exact Array.getElem?_toList.symm)
   obtain ⟨V, hV⟩ : ∃ V, V = (wr.alloc (Obj.cells #[.string ⟨#[]⟩, .string ⟨#[]⟩] 124)).setCells wr.heap.size 0 #[.string c.name, .string c.key].toList := ⟨_, rfl⟩
   have HV : Hid (Below wr.heap.size wr V /\ Blk V wr.heap.size 124 #[.string c.name, .string c.key]) := fresh_store hV rfl
   have hth := (Blk.new wr 124 #[.string ⟨#[]⟩, .string ⟨#[]⟩]).there (n := 2) rfl
   have HR := HTX.out c _ V hwc (anKd.below hPw HV.out.1)
   unfold anV at HR
   have HD : Hid (R = ((tA c).1 && (!inT (((l.map tA).take k).map Prod.snd) (tA c).2 && dif (((l.map tA).take (k + 1)).map Prod.snd) ((l.map tA).drop (k + 1))))) := by
    show R = _
    rw [<- H.out.2.2, dif_at hkm, List.getElem_map, hce]
   have HN : Hid (((l.map tA).take (k + 1)).map Prod.snd = ((l.map tA).take k).map Prod.snd ++ [(tA c).2]) := by
    show _ = _
    rw [List.take_succ_eq_append_getElem hkm, List.map_append, List.getElem_map, hce]
    rfl
   obtain ⟨T, hT⟩ := zE ((tA c).2)
   obtain ⟨OK, hOK⟩ := zE ((tA c).1)
   rw [hT, hOK] at HR HD
   rw [hT] at HN
   obtain ⟨SN, hSN⟩ := zE (((l.map tA).take k).map Prod.snd)
   have HSL : Hid (SN.length = k) := by show _ = _; rw [<- hSN, List.length_map, List.length_take, List.length_map]; omega
   rw [hSN] at H HD HN
   clear hP hPw hwc hrg0 hs hc hce hT hOK hSN hg
   obtain ⟨la, lc, hlv⟩ : ∃ ao cap, u5 = .slice ao SN.length cap := by obtain ⟨ao, cap, h, _⟩ := H.out.1.at; exact ⟨ao, cap, h⟩
   rw [HSL.out] at hlv
   subst hlv
   go_upto_region 5 with (first | refine wpList_load_mid rfl 124 _ rfl g (o + k * 2) rfl _ _ hrg Tryz.underlying124 rfl (by kernel_rfl) ?_ | (refine step_storeV rfl 124 _ _ rfl wr.heap.size 0 #[.string c.name, .string c.key] rfl rfl hth (by kernel_rfl) (by simp [Value.oneCell']) hV ?_; clear hV hth))
   have hrv := HV.out.2.range
   go_wp2_with (refine wpList_load_mid rfl 124 _ rfl wr.heap.size 0 rfl _ _ hrv Tryz.underlying124 rfl (by kernel_rfl) ?_)
   refine HR.mono ?_
   rintro e w3 ⟨rfl, hb3'⟩
   have hb3 : Below wr.heap.size wr w3 := HV.out.1.trans (hb3'.mono HV.out.1.size)
   have H3 := zH (zJ (H.out.1.stays hb3) (H.out.2.1.trans (hb3.mono H.out.2.1.size)))
   clear hb3 hb3' H HR hrg hrv HV
   cases OK with
   | false =>
    go_wp2_with fail
    go_ret
    exact ⟨by rw [HD.out]; rfl, H3.out.2⟩
   | true =>
    go_wp2_with fail
    refine (hasText_any _ SN T _ w3 (by rw [HSL.out]; omega) H3.out.1).mono ?_
    rintro e w4 ⟨rfl, rfl⟩
    obtain ⟨IN, hIN⟩ := zE (inT SN T)
    rw [hIN] at HD |-
    clear hIN
    cases IN with
    | true =>
     go_wp2_with fail
     go_ret
     exact ⟨by rw [HD.out]; rfl, H3.out.2⟩
    | false =>
     obtain ⟨W4, hW4⟩ : ∃ V, V = w3.alloc (Obj.cells #[.string T] 9) := ⟨_, rfl⟩
     have hb34 : Below w3.heap.size w3 W4 := by rw [hW4]; exact (Below.refl _ _).alloc (Nat.le_refl _) _
     have H4 := zH (zJ (H3.out.1.stays hb34) (zJ (by rw [hW4]; exact World.ownsRow_lit w3 #[.string T] 1 (Nat.le_refl _) (by decide) rfl : OwnT W4 w3.heap.size (.slice (some ⟨w3.heap.size, 0, none⟩) 1 1) [T]) (H3.out.2.trans (hb34.mono H3.out.2.size))))
     clear hb34 H3
     go_wp2_with (at_builtin; rw [<- hW4]; refine wpList_append_texts2 rfl _ _ 46 rfl w.heap.size i0 Tryz.underlying46 hi hz0 hz1 hz2 (.slice la k lc) SN.length (cellsT SN) rfl H4.out.1 _ [T] w3.heap.size H4.out.2.1 rfl (by rw [HSL.out]; simp only [List.length_singleton]; omega) H4.out.2.2.size ?_)
     intro v9 w9 ho9 hg9
     rw [<- hW4] at hg9
     have H9 : Hid (OwnT w9 w.heap.size v9 (((l.map tA).take (k + 1)).map Prod.snd) /\ Below w.heap.size w w9 /\ dif (((l.map tA).take (k + 1)).map Prod.snd) ((l.map tA).drop (k + 1)) = R) := by
      have hrl := fun b hb => (World.ownsRow.lt H4.out.1 b hb).1
      refine ⟨?_, H4.out.2.2.grown hg9 H4.out.2.2.size hrl, by rw [HD.out]; rfl⟩
      rw [HN.out]
      simpa [OwnT, cellsT_append] using ho9
     clear ho9 hg9 H4 hW4
     go_wp2_with fail
     exact ⟨⟨k + 1, by omega, by go_num, H9⟩, by simp [intOf]; omega⟩
  ·have hkl : k = len := by omega
   subst hkl
   have HRR : Hid (R = true) := by show R = true; rw [<- H.out.2.2]; exact dif_end _ (by rw [List.length_map, HX.out.2.1]; exact Nat.le_refl _)
   go_wp2_with fail
   go_ret
   exact ⟨by rw [HRR.out]; rfl, H.out.2.1⟩
theorem implStoreOk_any (s : So) (v : Value) (w : World) (hok : OkO s) (ha : SoAt w v s) : Calls Tryz.prog 35 #[v] w fun e w' => e = .returned (.bool (stoOk s)) /\ Below w.heap.size w w' := by
 obtain ⟨⟨l1, l2, l3⟩, wd1, wd2, wd3⟩ := hok
 obtain ⟨a1, c1, a2, c2, a3, c3, rfl⟩ := ha.shape
 obtain ⟨k1, k2, k3⟩ := ha.rows
 obtain ⟨R, hR⟩ := zE (stoOk s)
 rw [hR]
 obtain ⟨n1, e1⟩ := zE (s.certs.length)
 obtain ⟨n2, e2⟩ := zE (s.crls.length)
 obtain ⟨n3, e3⟩ := zE (s.ancs.length)
 have HR : Hid (R = ((decide (n1 <= 12) && decide (n2 <= 8) && decide (n3 <= 3)) && (dif [] (s.certs.map tC) && (dif [] (s.crls.map tL) && dif [] (s.ancs.map tA))))) := by show R = _; rw [<- hR, <- e1, <- e2, <- e3]; rfl
 rw [e1] at k1 l1 |-
 rw [e2] at k2 l2 |-
 rw [e3] at k3 l3 |-
 obtain ⟨D1, d1⟩ := zE (dif [] (s.certs.map tC))
 obtain ⟨D2, d2⟩ := zE (dif [] (s.crls.map tL))
 obtain ⟨D3, d3⟩ := zE (dif [] (s.ancs.map tA))
 have Q1 : Hid (∀ W, Below w.heap.size w W -> Calls Tryz.prog 84 #[.slice a1 n1 c1, .func (.func 85) #[] #[]] W fun e w' => e = .returned (.bool D1) /\ Below W.heap.size W w') := fun W hb => by rw [<- d1]; exact differentCert_any s.certs _ W (by omega) wd1 (k1.below hb)
 have Q2 : Hid (∀ W, Below w.heap.size w W -> Calls Tryz.prog 86 #[.slice a2 n2 c2, .func (.func 87) #[] #[]] W fun e w' => e = .returned (.bool D2) /\ Below W.heap.size W w') := fun W hb => by rw [<- d2]; exact differentCrl_any s.crls _ W (by omega) wd2 (k2.below hb)
 have Q3 : Hid (∀ W, Below w.heap.size w W -> Calls Tryz.prog 88 #[.slice a3 n3 c3, .func (.func 89) #[] #[]] W fun e w' => e = .returned (.bool D3) /\ Below W.heap.size W w') := fun W hb => by rw [<- d3]; exact differentAnchor_any s.ancs _ W (by omega) wd3 (k3.below hb)
 rw [d1, d2, d3] at HR
 clear ha k1 k2 k3 wd1 wd2 wd3 hR e1 e2 e3 d1 d2 d3
 by_cases g1 : n1 <= 12
 rotate_left
 ·have g1' : ¬ (n1 : Int) <= 12 := by omega
  have HRR : Hid (R = false) := by show R = false; rw [HR.out, decide_eq_false g1]; simp
  clear HR g1
  go_enter Tryz.func35, Tryz.ntmps35
  go_wp2_with fail
  go_ret
  exact ⟨by rw [HRR.out]; rfl, (Below.refl _ _).alloc (Nat.le_refl _) _⟩
 have g1' : (n1 : Int) <= 12 := by omega
 by_cases g2 : n2 <= 8
 rotate_left
 ·have g2' : ¬ (n2 : Int) <= 8 := by omega
  have HRR : Hid (R = false) := by show R = false; rw [HR.out, decide_eq_false g2]; simp
  clear HR g2
  go_enter Tryz.func35, Tryz.ntmps35
  go_wp2_with fail
  go_ret
  exact ⟨by rw [HRR.out]; rfl, (Below.refl _ _).alloc (Nat.le_refl _) _⟩
 have g2' : (n2 : Int) <= 8 := by omega
 by_cases g3 : n3 <= 3
 rotate_left
 ·have g3' : ¬ (n3 : Int) <= 3 := by omega
  have HRR : Hid (R = false) := by show R = false; rw [HR.out, decide_eq_false g3]; simp
  clear HR g3
  go_enter Tryz.func35, Tryz.ntmps35
  go_wp2_with fail
  go_ret
  exact ⟨by rw [HRR.out]; rfl, (Below.refl _ _).alloc (Nat.le_refl _) _⟩
 have g3' : (n3 : Int) <= 3 := by omega
 have HRR : Hid (R = (D1 && (D2 && D3))) := by show R = _; rw [HR.out, decide_eq_true g1, decide_eq_true g2, decide_eq_true g3]; rfl
 clear HR g1 g2 g3
 obtain ⟨V, hV⟩ : ∃ V, V = w.alloc (Obj.cells #[.slice a1 n1 c1, .slice a2 n2 c2, .slice a3 n3 c3] 37) := ⟨_, rfl⟩
 have G0 : Hid (Below w.heap.size w V /\ Blk V w.heap.size 37 #[.slice a1 n1 c1, .slice a2 n2 c2, .slice a3 n3 c3]) := by rw [hV]; exact ⟨(Below.refl _ _).alloc (Nat.le_refl _) _, Blk.new w _ _⟩
 go_enter Tryz.func35, Tryz.ntmps35
 go_wp2_with fail
 rw [<- hV]
 clear hV
 refine (Q1.out V G0.out.1).mono ?_
 rintro e V1 ⟨rfl, hb⟩
 have G1 := zH (zJ (G0.out.1.trans (hb.mono G0.out.1.size)) (G0.out.2.below hb G0.out.2.lt))
 clear hb G0
 cases D1 with
 | false =>
  go_wp2_with fail
  go_ret
  exact ⟨by rw [HRR.out]; rfl, G1.out.1⟩
 | true =>
  have x1 := fun j => G1.out.2.cell j
  go_wp2_with fail
  clear x1
  refine (Q2.out V1 G1.out.1).mono ?_
  rintro e V2 ⟨rfl, hb⟩
  have G2 := zH (zJ (G1.out.1.trans (hb.mono G1.out.1.size)) (G1.out.2.below hb G1.out.2.lt))
  clear hb G1
  cases D2 with
  | false =>
   go_wp2_with fail
   go_ret
   exact ⟨by rw [HRR.out]; rfl, G2.out.1⟩
  | true =>
   have x1 := fun j => G2.out.2.cell j
   go_wp2_with fail
   clear x1
   refine (Q3.out V2 G2.out.1).mono ?_
   rintro e V3 ⟨rfl, hb⟩
   have G3 : Hid (Below w.heap.size w V3) := G2.out.1.trans (hb.mono G2.out.1.size)
   clear hb G2
   go_wp2_with fail
   go_ret
   exact ⟨by rw [HRR.out]; rfl, G3.out⟩
end Go.Proofs.YtabfamhaihnccaaGreat
namespace Go.Proofs.YtabfamhaihnccaaGreat
open Go.RowKit
set_option linter.unusedVariables false
set_option linter.unusedSimpArgs false
theorem OwnO.base {w : World} {b b' : Nat} {v : Value} {s : So} {fp : List Nat} (h : OwnO w b v s fp) (hb : b' <= b) : OwnO w b' v s fp := by
 obtain ⟨p, q, r, f1, f2, f3, hv, h1, h2, h3, h4⟩ := h
 exact ⟨p, q, r, f1, f2, f3, hv, h1.base hb, h2.base hb, h3.base hb, h4⟩
end Go.Proofs.YtabfamhaihnccaaGreat
namespace Go.Proofs.YtabfamhaihnccaaGreat
open Go.RowKit
set_option linter.unusedVariables false
structure Ru where
 time : Int
 pol : List Int
 expl : Bool
 chk : Bool
 usage : Int
def ruV (c : Ru) (p : Value) : Value := .agg #[.int .i64 c.time, p, .bool c.expl, .bool c.chk, .int .i64 c.usage]
def RuAt (w : World) (v : Value) (c : Ru) : Prop := ∃ p, v = ruV c p /\ IntAt w p c.pol
def OwnU (w : World) (base : Nat) (v : Value) (c : Ru) : Prop := ∃ p, v = ruV c p /\ OwnI w base p c.pol
def ArgU (B : Nat) (w : World) (v : Value) (c : Ru) : Prop := ∃ pa pc, v = ruV c (.slice pa c.pol.length pc) /\ ArgAt B w pa c.pol
theorem ArgU.mono {B B' : Nat} {w : World} {v : Value} {c : Ru} (h : ArgU B w v c) (hB : B <= B') : ArgU B' w v c := by
 obtain ⟨pa, pc, hv, h1⟩ := h
 exact ⟨pa, pc, hv, fun j hj => by obtain ⟨x, o, h2, h3, h4⟩ := h1 j hj; exact ⟨x, o, h2, Nat.lt_of_lt_of_le h3 hB, h4⟩⟩
def wtU (c : Ru) : Nat := c.pol.length
def WdU (c : Ru) : Prop := Wd [c.time, c.usage] /\ Wd c.pol /\ c.pol.length <= 9223372036854775807
def szU (c : Ru) (left : Int) : Int := if (wtU c : Int) <= left then left - wtU c else -1
end Go.Proofs.YtabfamhaihnccaaGreat
namespace Go.Proofs.YtabfamhaihnccaaGreat
open Go.RowKit
set_option linter.unusedVariables false
set_option linter.unusedSimpArgs false
structure Pn where
 id : Int
 anc : List Int
 ru : Ru
def pnV (c : Pn) (p e : Value) : Value := .agg #[.int .i64 c.id, p, .int .i64 c.ru.time, e, .bool c.ru.expl, .bool c.ru.chk, .int .i64 c.ru.usage]
def PnAt (w : World) (v : Value) (c : Pn) : Prop := ∃ p e, v = pnV c p e /\ IntAt w p c.anc /\ IntAt w e c.ru.pol
theorem PnAt.below {w w' : World} {v : Value} {c : Pn} (h : PnAt w v c) (hb : Below w.heap.size w w') : PnAt w' v c := by
 obtain ⟨p, e, hv, h1, h2⟩ := h
 exact ⟨p, e, hv, h1.below hb, h2.below hb⟩
theorem PnAt.shape {w : World} {v : Value} {c : Pn} (h : PnAt w v c) : ∃ p q e r, v = pnV c (.slice p c.anc.length q) (.slice e c.ru.pol.length r) := by
 obtain ⟨pv, ev, hv, ⟨p, q, h1, _⟩, ⟨e, r, h2, _⟩⟩ := h
 exact ⟨p, q, e, r, by rw [hv, h1, h2]⟩
def OwnPn (w : World) (base : Nat) (v : Value) (c : Pn) : Prop := ∃ p e, v = pnV c p e /\ OwnI w base p c.anc /\ OwnI w base e c.ru.pol /\ (Ap p e /\ Ap e p)
theorem OwnPn.at {w : World} {base : Nat} {v : Value} {c : Pn} (h : OwnPn w base v c) : PnAt w v c := by
 obtain ⟨p, e, hv, h1, h2, _⟩ := h
 exact ⟨p, e, hv, h1.at, h2.at⟩
theorem OwnPn.base {w : World} {b b' : Nat} {v : Value} {c : Pn} (h : OwnPn w b v c) (hb : b' <= b) : OwnPn w b' v c := by
 obtain ⟨p, e, hv, h1, h2, h3⟩ := h
 exact ⟨p, e, hv, h1.base hb, h2.base hb, h3⟩
def fpPn (v : Value) : List Nat := match v with
 | .agg a => (a.getD 1 (.slice none 0 0)).ownBlock.toList ++ (a.getD 3 (.slice none 0 0)).ownBlock.toList
 | _ => []
theorem fpPn_mem {c : Pn} {p e : Value} {g : Nat} : g ∈ fpPn (pnV c p e) ↔ p.ownBlock = some g ∨ e.ownBlock = some g := by
 show g ∈ p.ownBlock.toList ++ e.ownBlock.toList ↔ _
 simp [List.mem_append, Option.mem_toList]
theorem fpPn_lt {w : World} {base : Nat} {v : Value} {c : Pn} (h : OwnPn w base v c) : ∀ b ∈ fpPn v, base <= b /\ b < w.heap.size := by
 obtain ⟨p, e, rfl, h1, h2, _⟩ := h
 intro b hb
 rcases fpPn_mem.1 hb with h | h
 ·exact World.ownsRow.lt h1 b h
 ·exact World.ownsRow.lt h2 b h
theorem OwnPn.same {w w' : World} {base : Nat} {v : Value} {c : Pn} (h : OwnPn w base v c) (hs : ∀ g ∈ fpPn v, w'.heap[g]? = w.heap[g]?) : OwnPn w' base v c := by
 obtain ⟨p, e, rfl, h1, h2, h3⟩ := h
 exact ⟨p, e, rfl, row_same h1 fun g hg => hs g (fpPn_mem.2 (.inl hg)), row_same h2 fun g hg => hs g (fpPn_mem.2 (.inr hg)), h3⟩
def ArgPn (B : Nat) (w : World) (v : Value) (c : Pn) : Prop := ∃ pa pc ea ec, v = pnV c (.slice pa c.anc.length pc) (.slice ea c.ru.pol.length ec) /\ ArgAt B w pa c.anc /\ ArgAt B w ea c.ru.pol
theorem ArgPn.below {B : Nat} {w w' : World} {v : Value} {c : Pn} (h : ArgPn B w v c) (hb : Below B w w') : ArgPn B w' v c := by
 obtain ⟨pa, pc, ea, ec, hv, h1, h2⟩ := h
 exact ⟨pa, pc, ea, ec, hv, h1.below hb, h2.below hb⟩
theorem ArgPn.mono {B B' : Nat} {w : World} {v : Value} {c : Pn} (h : ArgPn B w v c) (hB : B <= B') : ArgPn B' w v c := by
 obtain ⟨pa, pc, ea, ec, hv, h1, h2⟩ := h
 exact ⟨pa, pc, ea, ec, hv, fun j hj => by obtain ⟨x, o, h2, h3, h4⟩ := h1 j hj; exact ⟨x, o, h2, Nat.lt_of_lt_of_le h3 hB, h4⟩, fun j hj => by obtain ⟨x, o, h3, h4, h5⟩ := h2 j hj; exact ⟨x, o, h3, Nat.lt_of_lt_of_le h4 hB, h5⟩⟩
theorem ArgPn.shape {B : Nat} {w : World} {v : Value} {c : Pn} (h : ArgPn B w v c) : ∃ p q e r, v = pnV c (.slice p c.anc.length q) (.slice e c.ru.pol.length r) := by
 obtain ⟨pa, pc, ea, ec, hv, _⟩ := h
 exact ⟨pa, pc, ea, ec, hv⟩
def wtPn (c : Pn) : Nat := c.anc.length + c.ru.pol.length
def WdPn (c : Pn) : Prop := Wd [c.id, c.ru.time, c.ru.usage] /\ Wd c.anc /\ Wd c.ru.pol /\ c.anc.length <= 9223372036854775807 /\ c.ru.pol.length <= 9223372036854775807
def szPn (c : Pn) (left : Int) : Int := if (wtPn c : Int) <= left then left - wtPn c else -1
theorem wtPn_lens {c : Pn} {b : Nat} (h : wtPn c <= b) : c.anc.length <= b /\ c.ru.pol.length <= b := by
 unfold wtPn at h
 omega
def pnKd : Kd Pn where
 T := 127
 K := 7
 Own := OwnPn
 At := PnAt
 fp := fpPn
 pos := by decide
 size := fun h => by
  obtain ⟨p, e, rfl, h1, h2, _⟩ := h
  refine ⟨rfl, fun x hx => ?_⟩
  change x ∈ [_, _, _, _, _, _, _] at hx
  simp only [List.mem_cons, List.not_mem_nil, or_false] at hx
  rcases hx with rfl | rfl | rfl | rfl | rfl | rfl | rfl
  all_goals first | rfl | exact rowOne h1 | exact rowOne h2
 same := OwnPn.same
 lt := fpPn_lt
 base := OwnPn.base
 nodup := fun h => by
  obtain ⟨p, e, rfl, h1, h2, h3⟩ := h
  show (p.ownBlock.toList ++ e.ownBlock.toList).Nodup
  exact nodup_app (optNodup _) (optNodup _) fun y h7 h8 => ap_ne h3.1 (Option.mem_toList.1 h7) (Option.mem_toList.1 h8)
 own_at := OwnPn.at
 below := PnAt.below
def zePn : Pn := ⟨0, [], ⟨0, [], false, false, 0⟩⟩
def zePnV : Value := .agg #[.int .i64 0, .slice none 0 0, .int .i64 0, .slice none 0 0, .bool false, .bool false, .int .i64 0]
theorem own_zePn (w : World) (base : Nat) : OwnPn w base zePnV zePn := ⟨.slice none 0 0, .slice none 0 0, rfl, World.ownsRow_nil _ _ _ _, World.ownsRow_nil _ _ _ _, .inl rfl, .inl rfl⟩
theorem infoPlan : (Tryz.prog.info? 127).map (fun i => (i.zero, i.size, i.bytes)) = some (some (.agg #[.int .i64 0, .slice none 0 0, .int .i64 0, .slice none 0 0, .bool false, .bool false, .int .i64 0]), 7, 80) := by kernel_rfl
def wtPS (l : List Pn) : Nat := l.length + (l.map wtPn).sum
theorem wtPS_mem : ∀ {l : List Pn} {c : Pn}, c ∈ l -> wtPn c <= wtPS l
 | c :: l, d, h => by
  rcases List.mem_cons.1 h with rfl | h
  ·unfold wtPS; simp; omega
  ·have := wtPS_mem h
   unfold wtPS at this |-
   simp
   omega
def ArgPS (B : Nat) (w : World) (v : Value) (l : List Pn) : Prop := RowS 7 B (ArgPn B w) w v l
theorem ArgPS.below {B : Nat} {w w' : World} {v : Value} {l : List Pn} (h : ArgPS B w v l) (hb : Below B w w') {B' : Nat} (hB : B <= B') : ArgPS B' w' v l := RowS.below h hb (fun _ _ hP => (hP.below hb).mono hB) hB
theorem fillPn_set {l : List Pn} {k : Nat} (hk : k < l.length) : (l.take k ++ List.replicate (l.length - k) zePn).set k l[k] = l.take (k + 1) ++ List.replicate (l.length - (k + 1)) zePn := by
 have e : (l.take k).length = k := by rw [List.length_take]; omega
 rw [List.set_append_right _ _ (by omega), e, Nat.sub_self, show l.length - k = (l.length - (k + 1)) + 1 by omega, List.replicate_succ, List.set_cons_zero, List.take_succ_eq_append_getElem hk, List.append_assoc]
 rfl
theorem fillPn_len {l : List Pn} {k : Nat} (hk : k <= l.length) : (l.take k ++ List.replicate (l.length - k) zePn).length = l.length := by
 rw [List.length_append, List.length_take, List.length_replicate]
 omega
theorem OwnS.cellsPn {w : World} {base g n cap : Nat} {l : List Pn} {fp : List Nat} (h : OwnS pnKd w base (.slice (some ⟨g, 0, none⟩) n cap) l fp) (hn : n = l.length) {j : Nat} (hj : j < l.length) :
  (∃ u, OwnPn w base u l[j] /\ (∀ b ∈ fpPn u, b ∈ fp /\ b ≠ g) /\ ∀ i x, u.cells[i]? = some x -> w.cell? ⟨g, j * 7 + i, none⟩ = some x) /\ ∀ i, w.frozen? ⟨g, i, none⟩ = false := by
 subst hn
 obtain ⟨vs, hl, hr, he, rfl, hnd⟩ := h
 have hsz := OwnS.sizes hl he
 refine ⟨⟨vs[j]'(by omega), he j (by omega) hj, fun b hb => ⟨List.mem_append_right _ (mem_flat (by omega) hb), fun e => ?_⟩, fun i x hx => ?_⟩, fun i => World.ownsRow.frozenAt hr i⟩
 ·subst e
  exact (List.nodup_append.1 hnd).2.2 b (by simp [Value.ownBlock]) b (mem_flat (by omega) hb) rfl
 ·have hi : i < 7 := by
   have := (Array.getElem?_eq_some_iff.1 hx).1
   rw [hsz _ (List.getElem_mem _)] at this
   exact this
  rw [World.ownsRow.cellAt hr _ (by show j * 7 + i < l.length * 7; omega)]
  exact (cellsV_at hsz j (by omega) i hi).trans hx
end Go.Proofs.YtabfamhaihnccaaGreat
