/-
  Texts of the proof, one behind the other: SoL.
-/
import Derived.Test.YtplblechcnbieaaGreatSK42

/-
  Stores that are right: the program's different (three types) and StoreOk.
-/
namespace Go.Proofs.YtplblechcnbieaaGreat
open Go.RowKit Der
set_option linter.unusedVariables false

/-- What is small enough to be looked at. -/
def OkO (s : So) : Prop := (s.certs.length ≤ 2000000 ∧ s.crls.length ≤ 2000000 ∧ s.ancs.length ≤ 2000000) ∧ (∀ c ∈ s.certs, wtC c ≤ 1048576 ∧ WdC c) ∧ (∀ c ∈ s.crls, wtL c ≤ 1048576 ∧ WdL c) ∧ ∀ a ∈ s.ancs, wtA a ≤ 1048576
set_option maxHeartbeats 6400000 in
set_option maxRecDepth 100000 in
theorem differentCert_any (l : List Ct) (v : Value) (w : World) (hl : l.length ≤ 2000000) (hwd : ∀ c ∈ l, wtC c ≤ 1048576 ∧ WdC c) (ha : AtS certKd w v l) :
    Calls Tryz.prog 41 #[v, .func (.func 42) #[] #[]] w fun e w' => e = .returned (.bool (dif [] (l.map tC))) ∧ Below w.heap.size w w' := by
  obtain ⟨i0, hi, hz0, hz1, hz2⟩ := info_parts info9
  obtain ⟨ax, cx, hv⟩ := ha.shape
  obtain ⟨len, hlen⟩ : ∃ n, l.length = n := ⟨_, rfl⟩
  rw [hlen] at hv hl
  subst hv
  obtain ⟨R, hR⟩ : ∃ b, dif [] (l.map tC) = b := ⟨_, rfl⟩
  rw [hR]
  have HX : Hid (AtS certKd w (.slice ax len cx) l ∧ l.length = len ∧ (∀ c ∈ l, wtC c ≤ 1048576 ∧ WdC c) ∧ dif [] (l.map tC) = R) := ⟨ha, hlen, hwd, hR⟩
  have HTX : Hid (∀ (c : Ct) (v : Value) (W : World), wtC c ≤ 1048576 ∧ WdC c → certKd.At W v c → Calls Tryz.prog 42 #[v] W fun e w' => e = .returned (.tuple #[.string (tC c).2, .bool (tC c).1]) ∧ Below W.heap.size W w') := fun c v W h2 h1 => (implCertText_any c _ W h2.1 h2.2 h1)
  clear ha hlen hwd hR
  go_enter Tryz.func41, Tryz.ntmps41
  go_wp2_with fail
  go_loopw [5, 12] (fun tv iv wr => ∃ k : Nat, k ≤ len ∧ iv = .int .i64 k ∧ Hid (OwnT wr w.heap.size tv (((l.map tC).take k).map Prod.snd) ∧ Below w.heap.size w wr ∧ dif (((l.map tC).take k).map Prod.snd) ((l.map tC).drop k) = R)) (fun _ iv _ => len - (intOf iv).toNat)
  case atStart => exact ⟨0, Nat.zero_le _, rfl, World.ownsRow_nil _ _ _ _, Below.refl _ _, HX.out.2.2.2⟩
  case round =>
    obtain ⟨k, hk, rfl, H⟩ := hrel
    by_cases hkn : k < len
    · have hkl : k < l.length := by rw [HX.out.2.1]; exact hkn
      have hkm : k < (l.map tC).length := by rw [List.length_map]; exact hkl
      obtain ⟨g, o, u, hax, hg, hP, hs, hc⟩ := HX.out.1.get hkl
      obtain ⟨p1, q1, p2, q2, p3, q3, hu⟩ := CtAt.shape hP
      subst hax
      have hki : (k : Int) < (len : Int) := by omega
      have hk0 : (0 : Int) ≤ (k : Int) := by omega
      have hPw := certKd.below hP H.out.2.1
      obtain ⟨c, hce⟩ : ∃ c, l[k] = c := ⟨_, rfl⟩
      have hwc := HX.out.2.2.1 _ (List.getElem_mem hkl)
      have hrg0 := fun i x hx => (H.out.2.1.cell (p := ⟨g, o + k * 13 + i, none⟩) hg).trans (hc i x hx)
      rw [hce] at hu hPw hwc
      subst hu
      have hrg : wr.rangeAt g (o + k * 13) #[.int .i64 c.serial, .string c.issuer, .string c.subject, .int .i64 c.frm, .int .i64 c.upto, .string c.key, .bool c.ca, .int .i64 c.pathLen, .int .i64 c.usage, .slice p1 c.pol.length q1, .slice p2 c.per.length q2, .slice p3 c.den.length q3, .string c.sig].toList := fun j x hx => hrg0 j x (by rw [← hx]; exact Array.getElem?_toList.symm)
      obtain ⟨V, hV⟩ : ∃ V, V = (wr.alloc (Obj.cells #[.int .i64 0, .string ⟨#[]⟩, .string ⟨#[]⟩, .int .i64 0, .int .i64 0, .string ⟨#[]⟩, .bool false, .int .i64 0, .int .i64 0, .slice none 0 0, .slice none 0 0, .slice none 0 0, .string ⟨#[]⟩] 44)).setCells wr.heap.size 0 #[.int .i64 c.serial, .string c.issuer, .string c.subject, .int .i64 c.frm, .int .i64 c.upto, .string c.key, .bool c.ca, .int .i64 c.pathLen, .int .i64 c.usage, .slice p1 c.pol.length q1, .slice p2 c.per.length q2, .slice p3 c.den.length q3, .string c.sig].toList := ⟨_, rfl⟩
      have HV : Hid (Below wr.heap.size wr V ∧ Blk V wr.heap.size 44 #[.int .i64 c.serial, .string c.issuer, .string c.subject, .int .i64 c.frm, .int .i64 c.upto, .string c.key, .bool c.ca, .int .i64 c.pathLen, .int .i64 c.usage, .slice p1 c.pol.length q1, .slice p2 c.per.length q2, .slice p3 c.den.length q3, .string c.sig]) := fresh_store hV rfl
      have hth := (Blk.new wr 44 #[.int .i64 0, .string ⟨#[]⟩, .string ⟨#[]⟩, .int .i64 0, .int .i64 0, .string ⟨#[]⟩, .bool false, .int .i64 0, .int .i64 0, .slice none 0 0, .slice none 0 0, .slice none 0 0, .string ⟨#[]⟩]).there (n := 13) rfl
      have HR := HTX.out c _ V hwc (certKd.below hPw HV.out.1)
      unfold ctV at HR
      have HD : Hid (R = ((tC c).1 && (!inT (((l.map tC).take k).map Prod.snd) (tC c).2 && dif (((l.map tC).take (k + 1)).map Prod.snd) ((l.map tC).drop (k + 1))))) := by
        show R = _
        rw [← H.out.2.2, dif_at hkm, List.getElem_map, hce]
      have HN : Hid (((l.map tC).take (k + 1)).map Prod.snd = ((l.map tC).take k).map Prod.snd ++ [(tC c).2]) := by
        show _ = _
        rw [List.take_succ_eq_append_getElem hkm, List.map_append, List.getElem_map, hce]
        rfl
      obtain ⟨T, hT⟩ : ∃ t, (tC c).2 = t := ⟨_, rfl⟩
      obtain ⟨OK, hOK⟩ : ∃ t, (tC c).1 = t := ⟨_, rfl⟩
      rw [hT, hOK] at HR HD
      rw [hT] at HN
      obtain ⟨SN, hSN⟩ : ∃ s, ((l.map tC).take k).map Prod.snd = s := ⟨_, rfl⟩
      have HSL : Hid (SN.length = k) := by show _ = _; rw [← hSN, List.length_map, List.length_take, List.length_map]; omega
      rw [hSN] at H HD HN
      clear hP hPw hwc hrg0 hs hc hce hT hOK hSN hg
      obtain ⟨la, lc, hlv⟩ : ∃ ao cap, u5 = .slice ao SN.length cap := by obtain ⟨ao, cap, h, _⟩ := H.out.1.at; exact ⟨ao, cap, h⟩
      rw [HSL.out] at hlv
      subst hlv
      go_upto_region 5 with (first | refine wpList_load_mid rfl 44 _ rfl g (o + k * 13) rfl _ _ hrg Tryz.underlying44 rfl (by kernel_rfl) ?_ | (refine step_storeV rfl 44 _ _ rfl wr.heap.size 0 #[.int .i64 c.serial, .string c.issuer, .string c.subject, .int .i64 c.frm, .int .i64 c.upto, .string c.key, .bool c.ca, .int .i64 c.pathLen, .int .i64 c.usage, .slice p1 c.pol.length q1, .slice p2 c.per.length q2, .slice p3 c.den.length q3, .string c.sig] rfl rfl hth (by kernel_rfl) (by simp [Value.oneCell']) hV ?_; clear hV hth))
      have hrv := HV.out.2.range
      go_wp2_with (refine wpList_load_mid rfl 44 _ rfl wr.heap.size 0 rfl _ _ hrv Tryz.underlying44 rfl (by kernel_rfl) ?_)
      refine HR.mono ?_
      rintro e w3 ⟨rfl, hb3'⟩
      have hb3 : Below wr.heap.size wr w3 := HV.out.1.trans (hb3'.mono HV.out.1.size)
      have H3 : Hid (OwnT w3 w.heap.size (.slice la k lc) SN ∧ Below w.heap.size w w3) := ⟨H.out.1.stays hb3, H.out.2.1.trans (hb3.mono H.out.2.1.size)⟩
      clear hb3 hb3' H HR hrg hrv HV
      cases OK with
      | false =>
        go_wp2_with fail
        go_ret
        exact ⟨by rw [HD.out]; rfl, H3.out.2⟩
      | true =>
        go_wp2_with fail
        refine (hasText_any _ SN T _ w3 (by rw [HSL.out]; omega) H3.out.1).mono ?_
        rintro e w4 ⟨rfl, rfl⟩
        obtain ⟨IN, hIN⟩ : ∃ b, inT SN T = b := ⟨_, rfl⟩
        rw [hIN] at HD ⊢
        clear hIN
        cases IN with
        | true =>
          go_wp2_with fail
          go_ret
          exact ⟨by rw [HD.out]; rfl, H3.out.2⟩
        | false =>
          obtain ⟨W4, hW4⟩ : ∃ V, V = w3.alloc (Obj.cells #[.string T] 9) := ⟨_, rfl⟩
          have hb34 : Below w3.heap.size w3 W4 := by rw [hW4]; exact (Below.refl _ _).alloc (Nat.le_refl _) _
          have H4 : Hid (OwnT W4 w.heap.size (.slice la k lc) SN ∧ OwnT W4 w3.heap.size (.slice (some ⟨w3.heap.size, 0, none⟩) 1 1) [T] ∧ Below w.heap.size w W4) := ⟨H3.out.1.stays hb34, by rw [hW4]; exact World.ownsRow_lit w3 #[.string T] 1 (Nat.le_refl _) (by decide) rfl, H3.out.2.trans (hb34.mono H3.out.2.size)⟩
          clear hb34 H3
          go_wp2_with (at_builtin; rw [← hW4]; refine wpList_append_texts2 rfl _ _ 38 rfl w.heap.size i0 Tryz.underlying38 hi hz0 hz1 hz2 (.slice la k lc) SN.length (cellsT SN) rfl H4.out.1 _ [T] w3.heap.size H4.out.2.1 rfl (by rw [HSL.out]; simp only [List.length_singleton]; omega) H4.out.2.2.size ?_)
          intro v9 w9 ho9 hg9
          rw [← hW4] at hg9
          have H9 : Hid (OwnT w9 w.heap.size v9 (((l.map tC).take (k + 1)).map Prod.snd) ∧ Below w.heap.size w w9 ∧ dif (((l.map tC).take (k + 1)).map Prod.snd) ((l.map tC).drop (k + 1)) = R) := by
            have hrl := fun b hb => (World.ownsRow.lt H4.out.1 b hb).1
            refine ⟨?_, H4.out.2.2.grown hg9 H4.out.2.2.size hrl, by rw [HD.out]; rfl⟩
            rw [HN.out]
            simpa [OwnT, cellsT_append] using ho9
          clear ho9 hg9 H4 hW4
          go_wp2_with fail
          exact ⟨⟨k + 1, by omega, by go_num, H9⟩, by simp [intOf]; omega⟩
    · have hkl : k = len := by omega
      subst hkl
      have HRR : Hid (R = true) := by show R = true; rw [← H.out.2.2]; exact dif_end _ (by rw [List.length_map, HX.out.2.1]; exact Nat.le_refl _)
      go_wp2_with fail
      go_ret
      exact ⟨by rw [HRR.out]; rfl, H.out.2.1⟩
set_option maxHeartbeats 6400000 in
set_option maxRecDepth 100000 in
theorem differentCrl_any (l : List Cl) (v : Value) (w : World) (hl : l.length ≤ 2000000) (hwd : ∀ c ∈ l, wtL c ≤ 1048576 ∧ WdL c) (ha : AtS crlKd w v l) :
    Calls Tryz.prog 43 #[v, .func (.func 44) #[] #[]] w fun e w' => e = .returned (.bool (dif [] (l.map tL))) ∧ Below w.heap.size w w' := by
  obtain ⟨i0, hi, hz0, hz1, hz2⟩ := info_parts info9
  obtain ⟨ax, cx, hv⟩ := ha.shape
  obtain ⟨len, hlen⟩ : ∃ n, l.length = n := ⟨_, rfl⟩
  rw [hlen] at hv hl
  subst hv
  obtain ⟨R, hR⟩ : ∃ b, dif [] (l.map tL) = b := ⟨_, rfl⟩
  rw [hR]
  have HX : Hid (AtS crlKd w (.slice ax len cx) l ∧ l.length = len ∧ (∀ c ∈ l, wtL c ≤ 1048576 ∧ WdL c) ∧ dif [] (l.map tL) = R) := ⟨ha, hlen, hwd, hR⟩
  have HTX : Hid (∀ (c : Cl) (v : Value) (W : World), wtL c ≤ 1048576 ∧ WdL c → crlKd.At W v c → Calls Tryz.prog 44 #[v] W fun e w' => e = .returned (.tuple #[.string (tL c).2, .bool (tL c).1]) ∧ Below W.heap.size W w') := fun c v W h2 h1 => (implCrlText_any c _ W h2.1 h2.2 h1)
  clear ha hlen hwd hR
  go_enter Tryz.func43, Tryz.ntmps43
  go_wp2_with fail
  go_loopw [5, 12] (fun tv iv wr => ∃ k : Nat, k ≤ len ∧ iv = .int .i64 k ∧ Hid (OwnT wr w.heap.size tv (((l.map tL).take k).map Prod.snd) ∧ Below w.heap.size w wr ∧ dif (((l.map tL).take k).map Prod.snd) ((l.map tL).drop k) = R)) (fun _ iv _ => len - (intOf iv).toNat)
  case atStart => exact ⟨0, Nat.zero_le _, rfl, World.ownsRow_nil _ _ _ _, Below.refl _ _, HX.out.2.2.2⟩
  case round =>
    obtain ⟨k, hk, rfl, H⟩ := hrel
    by_cases hkn : k < len
    · have hkl : k < l.length := by rw [HX.out.2.1]; exact hkn
      have hkm : k < (l.map tL).length := by rw [List.length_map]; exact hkl
      obtain ⟨g, o, u, hax, hg, hP, hs, hc⟩ := HX.out.1.get hkl
      obtain ⟨p1, q1, hu⟩ := ClAt.shape hP
      subst hax
      have hki : (k : Int) < (len : Int) := by omega
      have hk0 : (0 : Int) ≤ (k : Int) := by omega
      have hPw := crlKd.below hP H.out.2.1
      obtain ⟨c, hce⟩ : ∃ c, l[k] = c := ⟨_, rfl⟩
      have hwc := HX.out.2.2.1 _ (List.getElem_mem hkl)
      have hrg0 := fun i x hx => (H.out.2.1.cell (p := ⟨g, o + k * 7 + i, none⟩) hg).trans (hc i x hx)
      rw [hce] at hu hPw hwc
      subst hu
      have hrg : wr.rangeAt g (o + k * 7) #[.string c.issuer, .int .i64 c.num, .int .i64 c.ths, .int .i64 c.nxt, .int .i64 c.bas, .slice p1 c.revs.length q1, .string c.sig].toList := fun j x hx => hrg0 j x (by rw [← hx]; exact Array.getElem?_toList.symm)
      obtain ⟨V, hV⟩ : ∃ V, V = (wr.alloc (Obj.cells #[.string ⟨#[]⟩, .int .i64 0, .int .i64 0, .int .i64 0, .int .i64 0, .slice none 0 0, .string ⟨#[]⟩] 57)).setCells wr.heap.size 0 #[.string c.issuer, .int .i64 c.num, .int .i64 c.ths, .int .i64 c.nxt, .int .i64 c.bas, .slice p1 c.revs.length q1, .string c.sig].toList := ⟨_, rfl⟩
      have HV : Hid (Below wr.heap.size wr V ∧ Blk V wr.heap.size 57 #[.string c.issuer, .int .i64 c.num, .int .i64 c.ths, .int .i64 c.nxt, .int .i64 c.bas, .slice p1 c.revs.length q1, .string c.sig]) := fresh_store hV rfl
      have hth := (Blk.new wr 57 #[.string ⟨#[]⟩, .int .i64 0, .int .i64 0, .int .i64 0, .int .i64 0, .slice none 0 0, .string ⟨#[]⟩]).there (n := 7) rfl
      have HR := HTX.out c _ V hwc (crlKd.below hPw HV.out.1)
      unfold clV at HR
      have HD : Hid (R = ((tL c).1 && (!inT (((l.map tL).take k).map Prod.snd) (tL c).2 && dif (((l.map tL).take (k + 1)).map Prod.snd) ((l.map tL).drop (k + 1))))) := by
        show R = _
        rw [← H.out.2.2, dif_at hkm, List.getElem_map, hce]
      have HN : Hid (((l.map tL).take (k + 1)).map Prod.snd = ((l.map tL).take k).map Prod.snd ++ [(tL c).2]) := by
        show _ = _
        rw [List.take_succ_eq_append_getElem hkm, List.map_append, List.getElem_map, hce]
        rfl
      obtain ⟨T, hT⟩ : ∃ t, (tL c).2 = t := ⟨_, rfl⟩
      obtain ⟨OK, hOK⟩ : ∃ t, (tL c).1 = t := ⟨_, rfl⟩
      rw [hT, hOK] at HR HD
      rw [hT] at HN
      obtain ⟨SN, hSN⟩ : ∃ s, ((l.map tL).take k).map Prod.snd = s := ⟨_, rfl⟩
      have HSL : Hid (SN.length = k) := by show _ = _; rw [← hSN, List.length_map, List.length_take, List.length_map]; omega
      rw [hSN] at H HD HN
      clear hP hPw hwc hrg0 hs hc hce hT hOK hSN hg
      obtain ⟨la, lc, hlv⟩ : ∃ ao cap, u5 = .slice ao SN.length cap := by obtain ⟨ao, cap, h, _⟩ := H.out.1.at; exact ⟨ao, cap, h⟩
      rw [HSL.out] at hlv
      subst hlv
      go_upto_region 5 with (first | refine wpList_load_mid rfl 57 _ rfl g (o + k * 7) rfl _ _ hrg Tryz.underlying57 rfl (by kernel_rfl) ?_ | (refine step_storeV rfl 57 _ _ rfl wr.heap.size 0 #[.string c.issuer, .int .i64 c.num, .int .i64 c.ths, .int .i64 c.nxt, .int .i64 c.bas, .slice p1 c.revs.length q1, .string c.sig] rfl rfl hth (by kernel_rfl) (by simp [Value.oneCell']) hV ?_; clear hV hth))
      have hrv := HV.out.2.range
      go_wp2_with (refine wpList_load_mid rfl 57 _ rfl wr.heap.size 0 rfl _ _ hrv Tryz.underlying57 rfl (by kernel_rfl) ?_)
      refine HR.mono ?_
      rintro e w3 ⟨rfl, hb3'⟩
      have hb3 : Below wr.heap.size wr w3 := HV.out.1.trans (hb3'.mono HV.out.1.size)
      have H3 : Hid (OwnT w3 w.heap.size (.slice la k lc) SN ∧ Below w.heap.size w w3) := ⟨H.out.1.stays hb3, H.out.2.1.trans (hb3.mono H.out.2.1.size)⟩
      clear hb3 hb3' H HR hrg hrv HV
      cases OK with
      | false =>
        go_wp2_with fail
        go_ret
        exact ⟨by rw [HD.out]; rfl, H3.out.2⟩
      | true =>
        go_wp2_with fail
        refine (hasText_any _ SN T _ w3 (by rw [HSL.out]; omega) H3.out.1).mono ?_
        rintro e w4 ⟨rfl, rfl⟩
        obtain ⟨IN, hIN⟩ : ∃ b, inT SN T = b := ⟨_, rfl⟩
        rw [hIN] at HD ⊢
        clear hIN
        cases IN with
        | true =>
          go_wp2_with fail
          go_ret
          exact ⟨by rw [HD.out]; rfl, H3.out.2⟩
        | false =>
          obtain ⟨W4, hW4⟩ : ∃ V, V = w3.alloc (Obj.cells #[.string T] 9) := ⟨_, rfl⟩
          have hb34 : Below w3.heap.size w3 W4 := by rw [hW4]; exact (Below.refl _ _).alloc (Nat.le_refl _) _
          have H4 : Hid (OwnT W4 w.heap.size (.slice la k lc) SN ∧ OwnT W4 w3.heap.size (.slice (some ⟨w3.heap.size, 0, none⟩) 1 1) [T] ∧ Below w.heap.size w W4) := ⟨H3.out.1.stays hb34, by rw [hW4]; exact World.ownsRow_lit w3 #[.string T] 1 (Nat.le_refl _) (by decide) rfl, H3.out.2.trans (hb34.mono H3.out.2.size)⟩
          clear hb34 H3
          go_wp2_with (at_builtin; rw [← hW4]; refine wpList_append_texts2 rfl _ _ 38 rfl w.heap.size i0 Tryz.underlying38 hi hz0 hz1 hz2 (.slice la k lc) SN.length (cellsT SN) rfl H4.out.1 _ [T] w3.heap.size H4.out.2.1 rfl (by rw [HSL.out]; simp only [List.length_singleton]; omega) H4.out.2.2.size ?_)
          intro v9 w9 ho9 hg9
          rw [← hW4] at hg9
          have H9 : Hid (OwnT w9 w.heap.size v9 (((l.map tL).take (k + 1)).map Prod.snd) ∧ Below w.heap.size w w9 ∧ dif (((l.map tL).take (k + 1)).map Prod.snd) ((l.map tL).drop (k + 1)) = R) := by
            have hrl := fun b hb => (World.ownsRow.lt H4.out.1 b hb).1
            refine ⟨?_, H4.out.2.2.grown hg9 H4.out.2.2.size hrl, by rw [HD.out]; rfl⟩
            rw [HN.out]
            simpa [OwnT, cellsT_append] using ho9
          clear ho9 hg9 H4 hW4
          go_wp2_with fail
          exact ⟨⟨k + 1, by omega, by go_num, H9⟩, by simp [intOf]; omega⟩
    · have hkl : k = len := by omega
      subst hkl
      have HRR : Hid (R = true) := by show R = true; rw [← H.out.2.2]; exact dif_end _ (by rw [List.length_map, HX.out.2.1]; exact Nat.le_refl _)
      go_wp2_with fail
      go_ret
      exact ⟨by rw [HRR.out]; rfl, H.out.2.1⟩
set_option maxHeartbeats 6400000 in
set_option maxRecDepth 100000 in
theorem differentAnchor_any (l : List An) (v : Value) (w : World) (hl : l.length ≤ 2000000) (hwd : ∀ c ∈ l, wtA c ≤ 1048576) (ha : AtS anKd w v l) :
    Calls Tryz.prog 45 #[v, .func (.func 46) #[] #[]] w fun e w' => e = .returned (.bool (dif [] (l.map tA))) ∧ Below w.heap.size w w' := by
  obtain ⟨i0, hi, hz0, hz1, hz2⟩ := info_parts info9
  obtain ⟨ax, cx, hv⟩ := ha.shape
  obtain ⟨len, hlen⟩ : ∃ n, l.length = n := ⟨_, rfl⟩
  rw [hlen] at hv hl
  subst hv
  obtain ⟨R, hR⟩ : ∃ b, dif [] (l.map tA) = b := ⟨_, rfl⟩
  rw [hR]
  have HX : Hid (AtS anKd w (.slice ax len cx) l ∧ l.length = len ∧ (∀ c ∈ l, wtA c ≤ 1048576) ∧ dif [] (l.map tA) = R) := ⟨ha, hlen, hwd, hR⟩
  have HTX : Hid (∀ (c : An) (v : Value) (W : World), wtA c ≤ 1048576 → anKd.At W v c → Calls Tryz.prog 46 #[v] W fun e w' => e = .returned (.tuple #[.string (tA c).2, .bool (tA c).1]) ∧ Below W.heap.size W w') := fun c v W h2 h1 => (by have h1' : _ = anV c := h1; subst h1'; exact anchorText_any c W h2)
  clear ha hlen hwd hR
  go_enter Tryz.func45, Tryz.ntmps45
  go_wp2_with fail
  go_loopw [5, 12] (fun tv iv wr => ∃ k : Nat, k ≤ len ∧ iv = .int .i64 k ∧ Hid (OwnT wr w.heap.size tv (((l.map tA).take k).map Prod.snd) ∧ Below w.heap.size w wr ∧ dif (((l.map tA).take k).map Prod.snd) ((l.map tA).drop k) = R)) (fun _ iv _ => len - (intOf iv).toNat)
  case atStart => exact ⟨0, Nat.zero_le _, rfl, World.ownsRow_nil _ _ _ _, Below.refl _ _, HX.out.2.2.2⟩
  case round =>
    obtain ⟨k, hk, rfl, H⟩ := hrel
    by_cases hkn : k < len
    · have hkl : k < l.length := by rw [HX.out.2.1]; exact hkn
      have hkm : k < (l.map tA).length := by rw [List.length_map]; exact hkl
      obtain ⟨g, o, u, hax, hg, hP, hs, hc⟩ := HX.out.1.get hkl
      have hu : u = anV l[k] := hP
      subst hax
      have hki : (k : Int) < (len : Int) := by omega
      have hk0 : (0 : Int) ≤ (k : Int) := by omega
      have hPw := anKd.below hP H.out.2.1
      obtain ⟨c, hce⟩ : ∃ c, l[k] = c := ⟨_, rfl⟩
      have hwc := HX.out.2.2.1 _ (List.getElem_mem hkl)
      have hrg0 := fun i x hx => (H.out.2.1.cell (p := ⟨g, o + k * 2 + i, none⟩) hg).trans (hc i x hx)
      rw [hce] at hu hPw hwc
      subst hu
      have hrg : wr.rangeAt g (o + k * 2) #[.string c.name, .string c.key].toList := fun j x hx => hrg0 j x (by rw [← hx]; exact Array.getElem?_toList.symm)
      obtain ⟨V, hV⟩ : ∃ V, V = (wr.alloc (Obj.cells #[.string ⟨#[]⟩, .string ⟨#[]⟩] 75)).setCells wr.heap.size 0 #[.string c.name, .string c.key].toList := ⟨_, rfl⟩
      have HV : Hid (Below wr.heap.size wr V ∧ Blk V wr.heap.size 75 #[.string c.name, .string c.key]) := fresh_store hV rfl
      have hth := (Blk.new wr 75 #[.string ⟨#[]⟩, .string ⟨#[]⟩]).there (n := 2) rfl
      have HR := HTX.out c _ V hwc (anKd.below hPw HV.out.1)
      unfold anV at HR
      have HD : Hid (R = ((tA c).1 && (!inT (((l.map tA).take k).map Prod.snd) (tA c).2 && dif (((l.map tA).take (k + 1)).map Prod.snd) ((l.map tA).drop (k + 1))))) := by
        show R = _
        rw [← H.out.2.2, dif_at hkm, List.getElem_map, hce]
      have HN : Hid (((l.map tA).take (k + 1)).map Prod.snd = ((l.map tA).take k).map Prod.snd ++ [(tA c).2]) := by
        show _ = _
        rw [List.take_succ_eq_append_getElem hkm, List.map_append, List.getElem_map, hce]
        rfl
      obtain ⟨T, hT⟩ : ∃ t, (tA c).2 = t := ⟨_, rfl⟩
      obtain ⟨OK, hOK⟩ : ∃ t, (tA c).1 = t := ⟨_, rfl⟩
      rw [hT, hOK] at HR HD
      rw [hT] at HN
      obtain ⟨SN, hSN⟩ : ∃ s, ((l.map tA).take k).map Prod.snd = s := ⟨_, rfl⟩
      have HSL : Hid (SN.length = k) := by show _ = _; rw [← hSN, List.length_map, List.length_take, List.length_map]; omega
      rw [hSN] at H HD HN
      clear hP hPw hwc hrg0 hs hc hce hT hOK hSN hg
      obtain ⟨la, lc, hlv⟩ : ∃ ao cap, u5 = .slice ao SN.length cap := by obtain ⟨ao, cap, h, _⟩ := H.out.1.at; exact ⟨ao, cap, h⟩
      rw [HSL.out] at hlv
      subst hlv
      go_upto_region 5 with (first | refine wpList_load_mid rfl 75 _ rfl g (o + k * 2) rfl _ _ hrg Tryz.underlying75 rfl (by kernel_rfl) ?_ | (refine step_storeV rfl 75 _ _ rfl wr.heap.size 0 #[.string c.name, .string c.key] rfl rfl hth (by kernel_rfl) (by simp [Value.oneCell']) hV ?_; clear hV hth))
      have hrv := HV.out.2.range
      go_wp2_with (refine wpList_load_mid rfl 75 _ rfl wr.heap.size 0 rfl _ _ hrv Tryz.underlying75 rfl (by kernel_rfl) ?_)
      refine HR.mono ?_
      rintro e w3 ⟨rfl, hb3'⟩
      have hb3 : Below wr.heap.size wr w3 := HV.out.1.trans (hb3'.mono HV.out.1.size)
      have H3 : Hid (OwnT w3 w.heap.size (.slice la k lc) SN ∧ Below w.heap.size w w3) := ⟨H.out.1.stays hb3, H.out.2.1.trans (hb3.mono H.out.2.1.size)⟩
      clear hb3 hb3' H HR hrg hrv HV
      cases OK with
      | false =>
        go_wp2_with fail
        go_ret
        exact ⟨by rw [HD.out]; rfl, H3.out.2⟩
      | true =>
        go_wp2_with fail
        refine (hasText_any _ SN T _ w3 (by rw [HSL.out]; omega) H3.out.1).mono ?_
        rintro e w4 ⟨rfl, rfl⟩
        obtain ⟨IN, hIN⟩ : ∃ b, inT SN T = b := ⟨_, rfl⟩
        rw [hIN] at HD ⊢
        clear hIN
        cases IN with
        | true =>
          go_wp2_with fail
          go_ret
          exact ⟨by rw [HD.out]; rfl, H3.out.2⟩
        | false =>
          obtain ⟨W4, hW4⟩ : ∃ V, V = w3.alloc (Obj.cells #[.string T] 9) := ⟨_, rfl⟩
          have hb34 : Below w3.heap.size w3 W4 := by rw [hW4]; exact (Below.refl _ _).alloc (Nat.le_refl _) _
          have H4 : Hid (OwnT W4 w.heap.size (.slice la k lc) SN ∧ OwnT W4 w3.heap.size (.slice (some ⟨w3.heap.size, 0, none⟩) 1 1) [T] ∧ Below w.heap.size w W4) := ⟨H3.out.1.stays hb34, by rw [hW4]; exact World.ownsRow_lit w3 #[.string T] 1 (Nat.le_refl _) (by decide) rfl, H3.out.2.trans (hb34.mono H3.out.2.size)⟩
          clear hb34 H3
          go_wp2_with (at_builtin; rw [← hW4]; refine wpList_append_texts2 rfl _ _ 38 rfl w.heap.size i0 Tryz.underlying38 hi hz0 hz1 hz2 (.slice la k lc) SN.length (cellsT SN) rfl H4.out.1 _ [T] w3.heap.size H4.out.2.1 rfl (by rw [HSL.out]; simp only [List.length_singleton]; omega) H4.out.2.2.size ?_)
          intro v9 w9 ho9 hg9
          rw [← hW4] at hg9
          have H9 : Hid (OwnT w9 w.heap.size v9 (((l.map tA).take (k + 1)).map Prod.snd) ∧ Below w.heap.size w w9 ∧ dif (((l.map tA).take (k + 1)).map Prod.snd) ((l.map tA).drop (k + 1)) = R) := by
            have hrl := fun b hb => (World.ownsRow.lt H4.out.1 b hb).1
            refine ⟨?_, H4.out.2.2.grown hg9 H4.out.2.2.size hrl, by rw [HD.out]; rfl⟩
            rw [HN.out]
            simpa [OwnT, cellsT_append] using ho9
          clear ho9 hg9 H4 hW4
          go_wp2_with fail
          exact ⟨⟨k + 1, by omega, by go_num, H9⟩, by simp [intOf]; omega⟩
    · have hkl : k = len := by omega
      subst hkl
      have HRR : Hid (R = true) := by show R = true; rw [← H.out.2.2]; exact dif_end _ (by rw [List.length_map, HX.out.2.1]; exact Nat.le_refl _)
      go_wp2_with fail
      go_ret
      exact ⟨by rw [HRR.out]; rfl, H.out.2.1⟩
set_option maxHeartbeats 6400000 in
set_option maxRecDepth 100000 in
theorem implStoreOk_any (s : So) (v : Value) (w : World) (hok : OkO s) (ha : SoAt w v s) : Calls Tryz.prog 10 #[v] w fun e w' => e = .returned (.bool (stoOk s)) ∧ Below w.heap.size w w' := by
  obtain ⟨⟨l1, l2, l3⟩, wd1, wd2, wd3⟩ := hok
  obtain ⟨a1, c1, a2, c2, a3, c3, rfl⟩ := ha.shape
  obtain ⟨k1, k2, k3⟩ := ha.rows
  obtain ⟨R, hR⟩ : ∃ b, stoOk s = b := ⟨_, rfl⟩
  rw [hR]
  obtain ⟨n1, e1⟩ : ∃ n, s.certs.length = n := ⟨_, rfl⟩
  obtain ⟨n2, e2⟩ : ∃ n, s.crls.length = n := ⟨_, rfl⟩
  obtain ⟨n3, e3⟩ : ∃ n, s.ancs.length = n := ⟨_, rfl⟩
  have HR : Hid (R = ((decide (n1 ≤ 12) && decide (n2 ≤ 8) && decide (n3 ≤ 3)) && (dif [] (s.certs.map tC) && (dif [] (s.crls.map tL) && dif [] (s.ancs.map tA))))) := by show R = _; rw [← hR, ← e1, ← e2, ← e3]; rfl
  rw [e1] at k1 l1 ⊢
  rw [e2] at k2 l2 ⊢
  rw [e3] at k3 l3 ⊢
  obtain ⟨D1, d1⟩ : ∃ b, dif [] (s.certs.map tC) = b := ⟨_, rfl⟩
  obtain ⟨D2, d2⟩ : ∃ b, dif [] (s.crls.map tL) = b := ⟨_, rfl⟩
  obtain ⟨D3, d3⟩ : ∃ b, dif [] (s.ancs.map tA) = b := ⟨_, rfl⟩
  have Q1 : Hid (∀ W, Below w.heap.size w W → Calls Tryz.prog 41 #[.slice a1 n1 c1, .func (.func 42) #[] #[]] W fun e w' => e = .returned (.bool D1) ∧ Below W.heap.size W w') := fun W hb => by rw [← d1]; exact differentCert_any s.certs _ W (by omega) wd1 (k1.below hb)
  have Q2 : Hid (∀ W, Below w.heap.size w W → Calls Tryz.prog 43 #[.slice a2 n2 c2, .func (.func 44) #[] #[]] W fun e w' => e = .returned (.bool D2) ∧ Below W.heap.size W w') := fun W hb => by rw [← d2]; exact differentCrl_any s.crls _ W (by omega) wd2 (k2.below hb)
  have Q3 : Hid (∀ W, Below w.heap.size w W → Calls Tryz.prog 45 #[.slice a3 n3 c3, .func (.func 46) #[] #[]] W fun e w' => e = .returned (.bool D3) ∧ Below W.heap.size W w') := fun W hb => by rw [← d3]; exact differentAnchor_any s.ancs _ W (by omega) wd3 (k3.below hb)
  rw [d1, d2, d3] at HR
  clear ha k1 k2 k3 wd1 wd2 wd3 hR e1 e2 e3 d1 d2 d3
  by_cases g1 : n1 ≤ 12
  rotate_left
  · have g1' : ¬ (n1 : Int) ≤ 12 := by omega
    have HRR : Hid (R = false) := by show R = false; rw [HR.out, decide_eq_false g1]; simp
    clear HR g1
    go_enter Tryz.func10, Tryz.ntmps10
    go_wp2_with fail
    go_ret
    exact ⟨by rw [HRR.out]; rfl, (Below.refl _ _).alloc (Nat.le_refl _) _⟩
  have g1' : (n1 : Int) ≤ 12 := by omega
  by_cases g2 : n2 ≤ 8
  rotate_left
  · have g2' : ¬ (n2 : Int) ≤ 8 := by omega
    have HRR : Hid (R = false) := by show R = false; rw [HR.out, decide_eq_false g2]; simp
    clear HR g2
    go_enter Tryz.func10, Tryz.ntmps10
    go_wp2_with fail
    go_ret
    exact ⟨by rw [HRR.out]; rfl, (Below.refl _ _).alloc (Nat.le_refl _) _⟩
  have g2' : (n2 : Int) ≤ 8 := by omega
  by_cases g3 : n3 ≤ 3
  rotate_left
  · have g3' : ¬ (n3 : Int) ≤ 3 := by omega
    have HRR : Hid (R = false) := by show R = false; rw [HR.out, decide_eq_false g3]; simp
    clear HR g3
    go_enter Tryz.func10, Tryz.ntmps10
    go_wp2_with fail
    go_ret
    exact ⟨by rw [HRR.out]; rfl, (Below.refl _ _).alloc (Nat.le_refl _) _⟩
  have g3' : (n3 : Int) ≤ 3 := by omega
  have HRR : Hid (R = (D1 && (D2 && D3))) := by show R = _; rw [HR.out, decide_eq_true g1, decide_eq_true g2, decide_eq_true g3]; rfl
  clear HR g1 g2 g3
  obtain ⟨V, hV⟩ : ∃ V, V = w.alloc (Obj.cells #[.slice a1 n1 c1, .slice a2 n2 c2, .slice a3 n3 c3] 33) := ⟨_, rfl⟩
  have G0 : Hid (Below w.heap.size w V ∧ Blk V w.heap.size 33 #[.slice a1 n1 c1, .slice a2 n2 c2, .slice a3 n3 c3]) := by rw [hV]; exact ⟨(Below.refl _ _).alloc (Nat.le_refl _) _, Blk.new w _ _⟩
  go_enter Tryz.func10, Tryz.ntmps10
  go_wp2_with fail
  rw [← hV]
  clear hV
  refine (Q1.out V G0.out.1).mono ?_
  rintro e V1 ⟨rfl, hb⟩
  have G1 : Hid (Below w.heap.size w V1 ∧ Blk V1 w.heap.size 33 #[.slice a1 n1 c1, .slice a2 n2 c2, .slice a3 n3 c3]) := ⟨G0.out.1.trans (hb.mono G0.out.1.size), G0.out.2.below hb G0.out.2.lt⟩
  clear hb G0
  cases D1 with
  | false =>
    go_wp2_with fail
    go_ret
    exact ⟨by rw [HRR.out]; rfl, G1.out.1⟩
  | true =>
    have x1 : V1.cell? ⟨w.heap.size, 1, none⟩ = some (.slice a2 n2 c2) := G1.out.2.cell 1
    go_wp2_with fail
    clear x1
    refine (Q2.out V1 G1.out.1).mono ?_
    rintro e V2 ⟨rfl, hb⟩
    have G2 : Hid (Below w.heap.size w V2 ∧ Blk V2 w.heap.size 33 #[.slice a1 n1 c1, .slice a2 n2 c2, .slice a3 n3 c3]) := ⟨G1.out.1.trans (hb.mono G1.out.1.size), G1.out.2.below hb G1.out.2.lt⟩
    clear hb G1
    cases D2 with
    | false =>
      go_wp2_with fail
      go_ret
      exact ⟨by rw [HRR.out]; rfl, G2.out.1⟩
    | true =>
      have x1 : V2.cell? ⟨w.heap.size, 2, none⟩ = some (.slice a3 n3 c3) := G2.out.2.cell 2
      go_wp2_with fail
      clear x1
      refine (Q3.out V2 G2.out.1).mono ?_
      rintro e V3 ⟨rfl, hb⟩
      have G3 : Hid (Below w.heap.size w V3) := G2.out.1.trans (hb.mono G2.out.1.size)
      clear hb G2
      go_wp2_with fail
      go_ret
      exact ⟨by rw [HRR.out]; rfl, G3.out⟩
end Go.Proofs.YtplblechcnbieaaGreat
