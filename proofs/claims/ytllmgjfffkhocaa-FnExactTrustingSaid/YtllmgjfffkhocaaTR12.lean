/-
  Texts of the proof.
-/
import Derived.Test.YtllmgjfffkhocaaTR11
set_option maxRecDepth 100000
set_option maxHeartbeats 25600000
namespace Go.Proofs.Ytllmgjfffkhocaa
open Go.RowKit
set_option linter.unusedVariables false
set_option linter.unusedSimpArgs false
theorem toCertS_any (v : Value) (l : List Ct) (B : Nat) (w : World) (hl : wtM l <= 1048576) (hB : B <= w.heap.size) (ha : ArgM B w v l) :
  Calls Try.prog 39 #[v] w fun e w' => ∃ u fp, e = .returned u /\ OwnS certKd w' w.heap.size u l fp /\ Below w.heap.size w w' := by
 obtain ⟨i0, hi, hz0, hz1, hz2⟩ := info_parts infoCert
 obtain ⟨a0, cap, hv⟩ := ha.shape
 obtain ⟨len, hlen⟩ := zE (l.length)
 rw [hlen] at hv
 subst hv
 have hl20 : len <= 1048576 := by unfold wtM at hl; omega
 have HA : Hid (ArgM B w (.slice a0 len cap) l /\ l.length = len /\ wtM l <= 1048576) := ⟨ha, hlen, hl⟩
 clear ha hlen hl
 go_enter Try.func39, Try.ntmps39
 go_wp2_with (at_make; refine wpList_make_full _ rfl _ _ 33 rfl w.heap.size 112 i0 (.agg #[.int .i64 0, .string ⟨#[]⟩, .string ⟨#[]⟩, .int .i64 0, .int .i64 0, .string ⟨#[]⟩, .bool false, .int .i64 0, .int .i64 0, .slice none 0 0, .slice none 0 0, .slice none 0 0, .string ⟨#[]⟩]) 13 Try.underlying33 hi hz0 hz1 .i64 .i64 _ _ len rfl rfl ?m0 ?m1 ?m2 ?m3 ?m4 ?_)
 case m0 => simp
 case m1 => simp
 case m2 => rw [hz2]; omega
 case m3 => unfold maxLen; omega
 case m4 => exact Nat.le_refl _
 intro w1 hown hgrow
 have HO : Hid (∃ fp, OwnS certKd w1 w.heap.size (.slice (some ⟨w.heap.size, 0, none⟩) len len) (l.take 0 ++ List.replicate (l.length - 0) zeC) fp /\ Below w.heap.size w w1) := by
  refine ⟨[w.heap.size], ?_, (Below.refl _ _).grown hgrow (Nat.le_refl _) (fun j hj => by cases hj)⟩
  rw [List.take_zero, List.nil_append, Nat.sub_zero, HA.out.2.1]
  exact OwnS.zeros certKd (own_zeC _ _) rfl (by have h2 : (madeCells zeCV.cells (len * 13)).toList = cellsV (List.replicate len zeCV) := made_cellsV zeCV len (by decide); rw [<- h2]; exact hown)
 clear hown hgrow
 go_wp2_with fail
 go_loopw [4] (fun iv wr => ∃ k : Nat, k <= len /\ iv = .int .i64 k /\ Hid (∃ fp, OwnS certKd wr w.heap.size (.slice (some ⟨w.heap.size, 0, none⟩) len len) (l.take k ++ List.replicate (l.length - k) zeC) fp /\ Below w.heap.size w wr)) (fun iv _ => len - (intOf iv).toNat)
 case atStart => exact ⟨0, Nat.zero_le _, rfl, HO.out⟩
 case round =>
  obtain ⟨k, hk, rfl, H⟩ := hrel
  clear HO
  by_cases hkn : k < len
  ·have hkl : k < l.length := by rw [HA.out.2.1]; exact hkn
   obtain ⟨b, off, u, hao, hbB, hPu, hus, hcell⟩ := HA.out.1.get hkl
   obtain ⟨ap, aq, ep, eq, dp, dq, hu⟩ := hPu.shape
   subst hao
   obtain ⟨fp, hO, hBl⟩ := H.out
   have HP : Hid (ArgC w.heap.size wr u l[k]) := (hPu.mono hB).below hBl
   have hcb := fun i x (hx : u.cells[i]? = some x) => (hBl.cell (p := ⟨b, off + k * 13 + i, none⟩) (by show b < w.heap.size; omega)).trans (hcell i x hx)
   obtain ⟨c, hc⟩ := zE (l[k])
   rw [hc] at HP hu
   have HR := toCert_any c u w.heap.size wr (by have h1 := wtM_mem (List.getElem_mem hkl); rw [hc] at h1; exact wt_lens (Nat.le_trans h1 HA.out.2.2)) hBl.size HP.out
   subst hu
   have u0 : wr.cell? ⟨b, off + k * 13, none⟩ = some (.int .i64 c.serial) := hcb 0 _ rfl
   have u1 : wr.cell? ⟨b, off + k * 13 + 1, none⟩ = some (.string c.issuer) := hcb 1 _ rfl
   have u2 : wr.cell? ⟨b, off + k * 13 + 2, none⟩ = some (.string c.subject) := hcb 2 _ rfl
   have u3 : wr.cell? ⟨b, off + k * 13 + 3, none⟩ = some (.int .i64 c.frm) := hcb 3 _ rfl
   have u4 : wr.cell? ⟨b, off + k * 13 + 4, none⟩ = some (.int .i64 c.upto) := hcb 4 _ rfl
   have u5 : wr.cell? ⟨b, off + k * 13 + 5, none⟩ = some (.string c.key) := hcb 5 _ rfl
   have u6 : wr.cell? ⟨b, off + k * 13 + 6, none⟩ = some (.bool c.ca) := hcb 6 _ rfl
   have u7 : wr.cell? ⟨b, off + k * 13 + 7, none⟩ = some (.int .i64 c.pathLen) := hcb 7 _ rfl
   have u8 : wr.cell? ⟨b, off + k * 13 + 8, none⟩ = some (.int .i64 c.usage) := hcb 8 _ rfl
   have u9 : wr.cell? ⟨b, off + k * 13 + 9, none⟩ = some (.slice ap c.pol.length aq) := hcb 9 _ rfl
   have u10 : wr.cell? ⟨b, off + k * 13 + 10, none⟩ = some (.slice ep c.per.length eq) := hcb 10 _ rfl
   have u11 : wr.cell? ⟨b, off + k * 13 + 11, none⟩ = some (.slice dp c.den.length dq) := hcb 11 _ rfl
   have u12 : wr.cell? ⟨b, off + k * 13 + 12, none⟩ = some (.string c.sig) := hcb 12 _ rfl
   have HN : Hid (∀ (w3 : World) (p e d : Value), Below wr.heap.size wr w3 -> OwnC w3 wr.heap.size (ctV c p e d) c -> ∃ fp, OwnS certKd (w3.setCells w.heap.size (k * 13) [.int .i64 c.serial, .string c.issuer, .string c.subject, .int .i64 c.frm, .int .i64 c.upto, .string c.key, .bool c.ca, .int .i64 c.pathLen, .int .i64 c.usage, p, e, d, .string c.sig]) w.heap.size (.slice (some ⟨w.heap.size, 0, none⟩) len len) (l.take (k + 1) ++ List.replicate (l.length - (k + 1)) zeC) fp /\ Below w.heap.size w (w3.setCells w.heap.size (k * 13) [.int .i64 c.serial, .string c.issuer, .string c.subject, .int .i64 c.frm, .int .i64 c.upto, .string c.key, .bool c.ca, .int .i64 c.pathLen, .int .i64 c.usage, p, e, d, .string c.sig])) := fun w3 p e d hb hop => by
    have h2 := (hO.stays hb).put (j := k) (by rw [fillM_len (Nat.le_of_lt hkl)]; exact HA.out.2.1.symm) (by rw [fillM_len (Nat.le_of_lt hkl)]; exact hkl) (hop.base hBl.size) (fun y hy hm => by have h3 := fpC_lt hop y hy; have h4 := hO.lt y hm; omega)
    obtain ⟨fp', h2, _⟩ := h2
    rw [<- hc, fillM_set hkl] at h2
    rw [<- hc]
    have e1 : w3.setCells w.heap.size (k * 13) [.int .i64 l[k].serial, .string l[k].issuer, .string l[k].subject, .int .i64 l[k].frm, .int .i64 l[k].upto, .string l[k].key, .bool l[k].ca, .int .i64 l[k].pathLen, .int .i64 l[k].usage, p, e, d, .string l[k].sig] = putCells w3 w.heap.size (k * 13) (ctV l[k] p e d).cells.toList := (putCells_set _ _ _ _).symm
    rw [e1]
    refine ⟨fp', h2, ?_⟩
    exact (hBl.trans (hb.mono hBl.size)).trans ((putCells_out _ _ _ _).below (fun b hb => by rw [List.mem_singleton.1 hb]; exact Nat.le_refl _) (hBl.trans (hb.mono hBl.size)).size)
   have HC : Hid (∀ w3, Below wr.heap.size wr w3 -> w3.there w.heap.size (k * 13) 13) := fun w3 hb => by
    obtain ⟨⟨u, hu, _, hcs⟩, hfz⟩ := (hO.stays hb).cellsM (j := k) (by rw [fillM_len (Nat.le_of_lt hkl)]; exact HA.out.2.1.symm) (by rw [fillM_len (Nat.le_of_lt hkl)]; exact hkl)
    obtain ⟨p, e, d, rfl, _⟩ := hu
    intro j hj
    refine ⟨?_, hfz _⟩
    have h13 : j < (ctV ((l.take k ++ List.replicate (l.length - k) zeC)[k]'(by rw [fillM_len (Nat.le_of_lt hkl)]; exact hkl)) p e d).cells.size := hj
    rw [hcs j _ (Array.getElem?_eq_getElem h13)]
    rfl
   clear H hO hBl HP hcb hcell hPu hus hbB hc hkl
   have hki : (k : Int) < (len : Int) := by omega
   have hk0 : (0 : Int) <= (k : Int) := by omega
   unfold ctV at HR HN
   go_wp2_with fail
   refine HR.mono ?_
   rintro e w3 ⟨v3, rfl, ⟨p3, e3, d3, rfl, ho3, ho4, ho5, hap⟩, hb3⟩
   have hth := HC.out w3 hb3
   have HN3 := HN.out w3 p3 e3 d3 hb3 ⟨p3, e3, d3, rfl, ho3, ho4, ho5, hap⟩
   obtain ⟨qa, qc, hq3, -⟩ := ho3.at
   obtain ⟨qe, qf, hq4, -⟩ := ho4.at
   obtain ⟨qg, qh, hq5, -⟩ := ho5.at
   subst hq3 hq4 hq5
   clear HN HC hb3 u0 u1 u2 u3 u4 u5 u6 u7 u8 u9 u10 u11 u12 HR ho3 ho4 ho5 hap
   have HN : Hid _ := HN3
   clear HN3
   unfold ctV
   obtain ⟨VV, hVV⟩ : ∃ V, V = w3.setCells w.heap.size (k * 13) #[.int .i64 c.serial, .string c.issuer, .string c.subject, .int .i64 c.frm, .int .i64 c.upto, .string c.key, .bool c.ca, .int .i64 c.pathLen, .int .i64 c.usage, .slice qa c.pol.length qc, .slice qe c.per.length qf, .slice qg c.den.length qh, .string c.sig].toList := ⟨_, rfl⟩
   have HNV : Hid (∃ fp, OwnS certKd VV w.heap.size (.slice (some ⟨w.heap.size, 0, none⟩) len len) (l.take (k + 1) ++ List.replicate (l.length - (k + 1)) zeC) fp /\ Below w.heap.size w VV) := by rw [hVV]; exact HN.out
   clear HN
   go_wp2_with (refine step_storeV rfl 112 _ _ rfl w.heap.size (k * 13) #[.int .i64 c.serial, .string c.issuer, .string c.subject, .int .i64 c.frm, .int .i64 c.upto, .string c.key, .bool c.ca, .int .i64 c.pathLen, .int .i64 c.usage, .slice qa c.pol.length qc, .slice qe c.per.length qf, .slice qg c.den.length qh, .string c.sig] rfl rfl hth (by kernel_rfl) (by simp [Value.oneCell']) hVV ?_; clear hVV hth)
   go_roundw
   case rel => exact ⟨k + 1, by omega, by go_num, HNV.out⟩
   case measure => simp [intOf]; omega
  ·have hkl : k = len := by omega
   subst hkl
   go_wp2
   go_ret
   obtain ⟨fp, hO, hBl⟩ := H.out
   refine ⟨_, fp, rfl, ?_, hBl⟩
   rw [<- HA.out.2.1, List.take_length, Nat.sub_self, List.replicate_zero, List.append_nil] at hO
   rw [<- HA.out.2.1]
   exact hO
theorem szCertS_any (v : Value) (l : List Ct) (left : Int) (w : World) (hm : l.length <= 9223372036854775807) (hwd : ∀ c ∈ l, WdC c) (h0 : 0 <= left) (hl : left <= 1048576) (ha : ArgM w.heap.size w v l) :
  Calls Try.prog 34 #[v, .int .i64 left] w fun e w' => e = .returned (.int .i64 (if (wtM l : Int) <= left then left - (wtM l : Int) else -1)) /\ Below w.heap.size w w' := by
 obtain ⟨a0, cap, hv⟩ := ha.shape
 obtain ⟨len, hlen⟩ := zE (l.length)
 rw [hlen] at hv hm
 subst hv
 obtain ⟨R, hR⟩ : ∃ r : Int, (if (wtM l : Int) <= left then left - (wtM l : Int) else -1) = r := ⟨_, rfl⟩
 rw [hR]
 have HA : Hid (ArgM w.heap.size w (.slice a0 len cap) l /\ l.length = len /\ (∀ c ∈ l, WdC c) /\ (if (wtM l : Int) <= left then left - (wtM l : Int) else -1) = R) := ⟨ha, hlen, hwd, hR⟩
 clear ha hlen hwd hR
 have w1 : IntKind.i64.wrap (left - (len : Int)) = left - (len : Int) := by rw [IntKind.wrap_i64]; omega
 by_cases hneg : left - (len : Int) < 0
 ·have HRR : Hid (R = -1) := by
   show R = -1
   rw [<- HA.out.2.2.2, if_neg]
   have h1 := HA.out.2.1
   unfold wtM
   omega
  go_enter Try.func34, Try.ntmps34
  go_wp2
  go_ret
  exact ⟨by rw [HRR.out]; rfl, Below.refl _ _⟩
 ·have hll : len <= 1048576 := by omega
  go_enter Try.func34, Try.ntmps34
  go_wp2_with fail
  go_loopw [1, 5] (fun lv iv wr => ∃ k : Nat, ∃ z : Int, k <= len /\ iv = .int .i64 k /\ lv = .int .i64 z /\ 0 <= z /\ z <= 1048576 /\ Hid (z = left - (len : Int) - ((((l.map wtC).take k).sum : Nat) : Int) /\ Below w.heap.size w wr)) (fun _ iv _ => len - (intOf iv).toNat)
  case atStart => exact ⟨0, _, Nat.zero_le _, rfl, rfl, by omega, by omega, by simp, Below.refl _ _⟩
  case round =>
   obtain ⟨k, z, hk, rfl, rfl, hz0, hz1, H⟩ := hrel
   by_cases hkn : k < len
   ·have hkl : k < l.length := by rw [HA.out.2.1]; exact hkn
    obtain ⟨b, off, u, hao, hbB, hPu, hus, hcell⟩ := HA.out.1.get hkl
    obtain ⟨ap, aq, ep, eq, dp, dq, hu⟩ := hPu.shape
    subst hao
    have hBl := H.out.2
    have hcb := fun i x (hx : u.cells[i]? = some x) => (hBl.cell (p := ⟨b, off + k * 13 + i, none⟩) hbB).trans (hcell i x hx)
    obtain ⟨c, hc⟩ := zE (l[k])
    have HP : ArgC wr.heap.size wr u c := by rw [<- hc]; exact (hPu.below hBl).mono hBl.size
    rw [hc] at hu
    have HR := szCert_any c u z wr (by rw [<- hc]; exact HA.out.2.2.1 _ (List.getElem_mem hkl)) hz0 hz1 HP
    subst hu
    have u0 : wr.cell? ⟨b, off + k * 13, none⟩ = some (.int .i64 c.serial) := hcb 0 _ rfl
    have u1 : wr.cell? ⟨b, off + k * 13 + 1, none⟩ = some (.string c.issuer) := hcb 1 _ rfl
    have u2 : wr.cell? ⟨b, off + k * 13 + 2, none⟩ = some (.string c.subject) := hcb 2 _ rfl
    have u3 : wr.cell? ⟨b, off + k * 13 + 3, none⟩ = some (.int .i64 c.frm) := hcb 3 _ rfl
    have u4 : wr.cell? ⟨b, off + k * 13 + 4, none⟩ = some (.int .i64 c.upto) := hcb 4 _ rfl
    have u5 : wr.cell? ⟨b, off + k * 13 + 5, none⟩ = some (.string c.key) := hcb 5 _ rfl
    have u6 : wr.cell? ⟨b, off + k * 13 + 6, none⟩ = some (.bool c.ca) := hcb 6 _ rfl
    have u7 : wr.cell? ⟨b, off + k * 13 + 7, none⟩ = some (.int .i64 c.pathLen) := hcb 7 _ rfl
    have u8 : wr.cell? ⟨b, off + k * 13 + 8, none⟩ = some (.int .i64 c.usage) := hcb 8 _ rfl
    have u9 : wr.cell? ⟨b, off + k * 13 + 9, none⟩ = some (.slice ap c.pol.length aq) := hcb 9 _ rfl
    have u10 : wr.cell? ⟨b, off + k * 13 + 10, none⟩ = some (.slice ep c.per.length eq) := hcb 10 _ rfl
    have u11 : wr.cell? ⟨b, off + k * 13 + 11, none⟩ = some (.slice dp c.den.length dq) := hcb 11 _ rfl
    have u12 : wr.cell? ⟨b, off + k * 13 + 12, none⟩ = some (.string c.sig) := hcb 12 _ rfl
    have HS : Hid ((((l.map wtC).take (k + 1)).sum = ((l.map wtC).take k).sum + wtC c) /\ ((l.map wtC).take (k + 1)).sum <= (l.map wtC).sum /\ wtM l = len + (l.map wtC).sum) := by
     refine ⟨?_, sumM_take_le _ _, by unfold wtM; rw [HA.out.2.1]⟩
     rw [sumM_take (by rw [List.length_map]; exact hkl), List.getElem_map, hc]
    have hki : (k : Int) < (len : Int) := by omega
    have hk0 : (0 : Int) <= (k : Int) := by omega
    clear hcb hcell hPu hus hbB hc hkl HP hBl
    obtain ⟨zz, hzz⟩ := zE (szC c z)
    rw [hzz] at HR
    unfold ctV at HR
    by_cases hfit : (wtC c : Int) <= z
    ·have hzv : zz = z - (wtC c : Int) := by rw [<- hzz]; unfold szC; rw [if_pos hfit]
     have hz0' : ¬ zz < 0 := by omega
     have HZ : Hid (zz = left - (len : Int) - ((((l.map wtC).take (k + 1)).sum : Nat) : Int) /\ 0 <= zz /\ zz <= 1048576) := ⟨by rw [HS.out.1, hzv, H.out.1]; omega, by omega, by omega⟩
     clear hzz hzv HS hfit
     go_wp2_with fail
     refine HR.mono ?_
     rintro e w3 ⟨rfl, hb3⟩
     clear u0 u1 u2 u3 u4 u5 u6 u7 u8 u9 u10 u11 u12 HR
     have HB3 : Hid (Below w.heap.size w w3) := H.out.2.trans (hb3.mono H.out.2.size)
     clear H hb3
     go_wp2_with fail
     go_roundw
     case rel => exact ⟨k + 1, zz, by omega, by go_num, rfl, HZ.out.2.1, HZ.out.2.2, HZ.out.1, HB3.out⟩
     case measure => simp [intOf]; omega
    ·have hzv : zz = -1 := by rw [<- hzz]; unfold szC; rw [if_neg hfit]
     subst hzv
     have HRR : Hid (R = -1) := by
      show R = -1
      rw [<- HA.out.2.2.2, if_neg]
      have h1 := HS.out
      have h2 := H.out.1
      omega
     clear HS hfit hzz
     go_wp2_with fail
     refine HR.mono ?_
     rintro e w3 ⟨rfl, hb3⟩
     clear u0 u1 u2 u3 u4 u5 u6 u7 u8 u9 u10 u11 u12 HR
     have HB3 : Hid (Below w.heap.size w w3) := H.out.2.trans (hb3.mono H.out.2.size)
     clear H hb3
     go_wp2
     go_ret
     exact ⟨by rw [HRR.out]; rfl, HB3.out⟩
   ·have hkl : k = len := by omega
    subst hkl
    have HRR : Hid (R = z) := by
     show R = z
     have h1 := H.out.1
     rw [List.take_of_length_le (by rw [List.length_map, HA.out.2.1]; exact Nat.le_refl _)] at h1
     have h2 := HA.out.2.1
     rw [<- HA.out.2.2.2, if_pos (by unfold wtM; omega)]
     unfold wtM
     omega
    go_wp2
    go_ret
    exact ⟨by rw [HRR.out]; rfl, H.out.2⟩
theorem eqCertS_same (l : List Ct) (a b : Value) (w : World) (hl : wtM l <= 1000000000) (ha : AtS certKd w a l) (hb : AtS certKd w b l) :
  Calls Try.prog 44 #[a, b] w fun e w' => e = .returned (.bool true) /\ Below w.heap.size w w' := by
 obtain ⟨ax, cx, hv⟩ := ha.shape
 obtain ⟨ay, cy, hu⟩ := hb.shape
 obtain ⟨len, hlen⟩ := zE (l.length)
 rw [hlen] at hv hu
 subst hv hu
 have hl20 : len <= 1000000000 := by unfold wtM at hl; omega
 have HX : Hid (AtS certKd w (.slice ax len cx) l /\ AtS certKd w (.slice ay len cy) l /\ l.length = len /\ wtM l <= 1000000000) := ⟨ha, hb, hlen, hl⟩
 clear ha hb hlen hl
 go_enter Try.func44, Try.ntmps44
 go_wp2_with fail
 go_loopw [5] (fun iv wr => ∃ k : Nat, k <= len /\ iv = .int .i64 k /\ Hid (Below w.heap.size w wr)) (fun iv _ => len - (intOf iv).toNat)
 case atStart => exact ⟨0, Nat.zero_le _, rfl, Below.refl _ _⟩
 case round =>
  obtain ⟨k, hk, rfl, HB⟩ := hrel
  by_cases hkn : k < len
  ·have hkl : k < l.length := by rw [HX.out.2.2.1]; exact hkn
   obtain ⟨g1, o1, u1, hax, hg1, hP1, hs1, hc1⟩ := HX.out.1.get hkl
   obtain ⟨g2, o2, u2, hay, hg2, hP2, hs2, hc2⟩ := HX.out.2.1.get hkl
   subst hax hay
   obtain ⟨c, hc⟩ := zE (l[k])
   have hBd : Below w.heap.size w wr.drew := HB.out.drew
   have hrl : c.pol.length <= 1000000000 /\ c.per.length <= 1000000000 /\ c.den.length <= 1000000000 := by
    have h1 := wtM_mem (List.getElem_mem hkl)
    rw [hc] at h1
    obtain ⟨_, _, _, h4, h5, h6, _⟩ := wt_parts (Nat.le_trans h1 HX.out.2.2.2)
    exact ⟨h4, h5, h6⟩
   have HR := eqCert_same c u1 u2 wr.drew hrl (by rw [<- hc]; exact CtAt.below hP1 hBd) (by rw [<- hc]; exact CtAt.below hP2 hBd)
   obtain ⟨p1, q1, e1, r1, d1, s1, hu1⟩ := CtAt.shape hP1
   obtain ⟨p2, q2, e2, r2, d2, s2, hu2⟩ := CtAt.shape hP2
   rw [hc] at hu1 hu2
   subst hu1 hu2
   have hf1 : ∀ (W : World) (i : Nat) (x : Value), Below w.heap.size w W -> (ctV c (.slice p1 c.pol.length q1) (.slice e1 c.per.length r1) (.slice d1 c.den.length s1)).cells[i]? = some x -> W.cell? ⟨g1, o1 + k * 13 + i, none⟩ = some x := fun W i x hW hx => (hW.cell (p := ⟨g1, o1 + k * 13 + i, none⟩) hg1).trans (hc1 i x hx)
   have hf2 : ∀ (W : World) (i : Nat) (x : Value), Below w.heap.size w W -> (ctV c (.slice p2 c.pol.length q2) (.slice e2 c.per.length r2) (.slice d2 c.den.length s2)).cells[i]? = some x -> W.cell? ⟨g2, o2 + k * 13 + i, none⟩ = some x := fun W i x hW hx => (hW.cell (p := ⟨g2, o2 + k * 13 + i, none⟩) hg2).trans (hc2 i x hx)
   have HS : Hid (∀ W, Below w.heap.size w W -> (W.cell? ⟨g1, o1 + k * 13, none⟩ = some (.int .i64 c.serial) /\ W.cell? ⟨g1, o1 + k * 13 + 1, none⟩ = some (.string c.issuer) /\ W.cell? ⟨g1, o1 + k * 13 + 2, none⟩ = some (.string c.subject) /\ W.cell? ⟨g1, o1 + k * 13 + 3, none⟩ = some (.int .i64 c.frm) /\ W.cell? ⟨g1, o1 + k * 13 + 4, none⟩ = some (.int .i64 c.upto) /\ W.cell? ⟨g1, o1 + k * 13 + 5, none⟩ = some (.string c.key) /\ W.cell? ⟨g1, o1 + k * 13 + 6, none⟩ = some (.bool c.ca) /\ W.cell? ⟨g1, o1 + k * 13 + 7, none⟩ = some (.int .i64 c.pathLen) /\ W.cell? ⟨g1, o1 + k * 13 + 8, none⟩ = some (.int .i64 c.usage) /\ W.cell? ⟨g1, o1 + k * 13 + 9, none⟩ = some (.slice p1 c.pol.length q1) /\ W.cell? ⟨g1, o1 + k * 13 + 10, none⟩ = some (.slice e1 c.per.length r1) /\ W.cell? ⟨g1, o1 + k * 13 + 11, none⟩ = some (.slice d1 c.den.length s1) /\ W.cell? ⟨g1, o1 + k * 13 + 12, none⟩ = some (.string c.sig)) /\ (W.cell? ⟨g2, o2 + k * 13, none⟩ = some (.int .i64 c.serial) /\ W.cell? ⟨g2, o2 + k * 13 + 1, none⟩ = some (.string c.issuer) /\ W.cell? ⟨g2, o2 + k * 13 + 2, none⟩ = some (.string c.subject) /\ W.cell? ⟨g2, o2 + k * 13 + 3, none⟩ = some (.int .i64 c.frm) /\ W.cell? ⟨g2, o2 + k * 13 + 4, none⟩ = some (.int .i64 c.upto) /\ W.cell? ⟨g2, o2 + k * 13 + 5, none⟩ = some (.string c.key) /\ W.cell? ⟨g2, o2 + k * 13 + 6, none⟩ = some (.bool c.ca) /\ W.cell? ⟨g2, o2 + k * 13 + 7, none⟩ = some (.int .i64 c.pathLen) /\ W.cell? ⟨g2, o2 + k * 13 + 8, none⟩ = some (.int .i64 c.usage) /\ W.cell? ⟨g2, o2 + k * 13 + 9, none⟩ = some (.slice p2 c.pol.length q2) /\ W.cell? ⟨g2, o2 + k * 13 + 10, none⟩ = some (.slice e2 c.per.length r2) /\ W.cell? ⟨g2, o2 + k * 13 + 11, none⟩ = some (.slice d2 c.den.length s2) /\ W.cell? ⟨g2, o2 + k * 13 + 12, none⟩ = some (.string c.sig))) := fun W hW =>
    ⟨⟨hf1 W 0 _ hW rfl, hf1 W 1 _ hW rfl, hf1 W 2 _ hW rfl, hf1 W 3 _ hW rfl, hf1 W 4 _ hW rfl, hf1 W 5 _ hW rfl, hf1 W 6 _ hW rfl, hf1 W 7 _ hW rfl, hf1 W 8 _ hW rfl, hf1 W 9 _ hW rfl, hf1 W 10 _ hW rfl, hf1 W 11 _ hW rfl, hf1 W 12 _ hW rfl⟩, hf2 W 0 _ hW rfl, hf2 W 1 _ hW rfl, hf2 W 2 _ hW rfl, hf2 W 3 _ hW rfl, hf2 W 4 _ hW rfl, hf2 W 5 _ hW rfl, hf2 W 6 _ hW rfl, hf2 W 7 _ hW rfl, hf2 W 8 _ hW rfl, hf2 W 9 _ hW rfl, hf2 W 10 _ hW rfl, hf2 W 11 _ hW rfl, hf2 W 12 _ hW rfl⟩
   have hki : (k : Int) < (len : Int) := by omega
   have hk0 : (0 : Int) <= (k : Int) := by omega
   unfold ctV at HR
   clear hf1 hf2 hc1 hc2 hP1 hP2 hs1 hs2 hg1 hg2 hc hkl
   go_upto_region 6 with fail
   refine wp_region_held_drew (S := fun W => Below w.heap.size w W) (by kernel_rfl) hBd (fun hHeld => ?_)
   clear hBd
   have HBW : Hid (Below w.heap.size w wr.drew) := hHeld
   refine zT 0 17 ?_ rfl (by rfl) ?_ hHeld ?_
   rotate_left
   ·intro W hSw
    go_simp
    try with_reducible rfl
   try simp only [Act.put, zA, zB, zC]
   refine zT 1 18 ?_ rfl (by rfl) ?_ hHeld ?_
   rotate_left
   ·intro W hSw
    go_simp
    try with_reducible rfl
   try simp only [Act.put, zA, zB, zC]
   refine zT 2 19 ?_ rfl (by rfl) ?_ hHeld ?_
   rotate_left
   ·intro W hSw
    go_simp
    try with_reducible rfl
   try simp only [Act.put, zA, zB, zC]
   refine zT 3 20 ?_ rfl (by rfl) ?_ hHeld ?_
   rotate_left
   ·intro W hSw
    obtain ⟨⟨e0, e1, e2, e3, e4, e5, e6, e7, e8, e9, e10, e11, e12⟩, -⟩ := HS.out W hSw
    go_simp
    try with_reducible rfl
   try simp only [Act.put, zA, zB, zC]
   refine zT 4 21 ?_ rfl (by rfl) ?_ hHeld ?_
   rotate_left
   ·intro W hSw
    go_simp
    try with_reducible rfl
   try simp only [Act.put, zA, zB, zC]
   refine zT 5 22 ?_ rfl (by rfl) ?_ hHeld ?_
   rotate_left
   ·intro W hSw
    go_simp
    try with_reducible rfl
   try simp only [Act.put, zA, zB, zC]
   refine zT 6 23 ?_ rfl (by rfl) ?_ hHeld ?_
   rotate_left
   ·intro W hSw
    go_simp
    try with_reducible rfl
   try simp only [Act.put, zA, zB, zC]
   refine zT 7 24 ?_ rfl (by rfl) ?_ hHeld ?_
   rotate_left
   ·intro W hSw
    obtain ⟨-, e0, e1, e2, e3, e4, e5, e6, e7, e8, e9, e10, e11, e12⟩ := HS.out W hSw
    go_simp
    try with_reducible rfl
   try simp only [Act.put, zA, zB, zC]
   refine wpAnyH_ready (rs := [8]) (by kernel_rfl) (by simp) ?_
   refine AllReadyH.cons (o := ⟨some 25, _, _, _, _, _⟩) rfl (fun K hK => ?_) AllReadyH.nil
   go_simp
   refine HR.mono ?_
   rintro e w3 ⟨rfl, hb3⟩
   have HB3 : Hid (Below w.heap.size w w3) := HBW.out.trans (hb3.mono HBW.out.size)
   clear hb3 HR HBW
   refine hK.out _ _ HB3.out (fun hHeld => ?_)
   clear hK K
   try simp only [Act.put, zA, zB, zC]
   refine zT 9 26 ?_ rfl (by rfl) ?_ hHeld ?_
   rotate_left
   ·intro W hSw
    go_simp
    try with_reducible rfl
   try simp only [Act.put, zA, zB, zC]
   refine wpAnyH_done (by kernel_rfl) ?_ _
   clear HS
   go_wp2_with fail
   go_roundw
   case rel => exact ⟨k + 1, by omega, by go_num, HB3.out⟩
   case measure => simp [intOf]; omega
  ·have hkl : k = len := by omega
   subst hkl
   go_wp2
   go_ret
   exact ⟨rfl, HB.out⟩
end Go.Proofs.Ytllmgjfffkhocaa
