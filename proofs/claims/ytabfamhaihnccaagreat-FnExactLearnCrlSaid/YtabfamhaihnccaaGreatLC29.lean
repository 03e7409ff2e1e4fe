/-
  Texts of the proof.
-/
import Derived.Test.YtabfamhaihnccaaGreatShelf
import Derived.Deep.WholeRow
import Derived.StillTailTactics
import Derived.Deep.MidRow
import Derived.Lib.SlicesS
import Derived.Laws.AppendOwnNone
import Derived.Test.YtabfamhaihnccaaGreatLC28
set_option linter.unusedVariables false
set_option linter.unusedSimpArgs false
set_option maxRecDepth 100000
set_option maxHeartbeats 25600000
namespace Go.Proofs.YtabfamhaihnccaaGreat
open Go.RowKit Der
def inT (l : List ByteArray) (x : ByteArray) : Bool := l.any fun z => decide (z = x)
theorem inT_iff {l : List ByteArray} {x : ByteArray} : inT l x = true ↔ x ∈ l := by
 unfold inT;rw [List.any_eq_true];exact ⟨fun ⟨z, h1, h2⟩ => by rw [<- of_decide_eq_true h2]; exact h1, fun h => ⟨x, h, decide_eq_true rfl⟩⟩
theorem inT_no {l : List ByteArray} {x : ByteArray} (h : ¬ x ∈ l) : inT l x = false := Bool.eq_false_iff.2 fun h2 => h (inT_iff.1 h2)
def dif : List ByteArray -> List (Bool × ByteArray) -> Bool
 | _, [] => true
 | seen, x :: l => x.1 && (!inT seen x.2 && dif (seen ++ [x.2]) l)
def tC (c : Ct) : Bool × ByteArray := ((ctxt c).isSome, ⟨((ctxt c).getD []).toArray⟩)
def tL (c : Cl) : Bool × ByteArray := ((ltxt c).isSome, ⟨((ltxt c).getD []).toArray⟩)
def tA (a : An) : Bool × ByteArray := (nameOk a.name && decide (a.key.size = 15), a.name)
def stoOk (s : So) : Bool := (decide (s.certs.length <= 12) && decide (s.crls.length <= 8) && decide (s.ancs.length <= 3)) && (dif [] (s.certs.map tC) && (dif [] (s.crls.map tL) && dif [] (s.ancs.map tA)))
theorem dif_at {L : List (Bool × ByteArray)} {k : Nat} (hk : k < L.length) : dif ((L.take k).map Prod.snd) (L.drop k) = (L[k].1 && (!inT ((L.take k).map Prod.snd) L[k].2 && dif ((L.take (k + 1)).map Prod.snd) (L.drop (k + 1)))) := by
 rw [List.drop_eq_getElem_cons hk, List.take_succ_eq_append_getElem hk, List.map_append];rfl
theorem dif_end (L : List (Bool × ByteArray)) {k : Nat} (hk : L.length <= k) : dif ((L.take k).map Prod.snd) (L.drop k) = true := by
 rw [List.drop_eq_nil_of_le hk];rfl
theorem l13In_any (v : Value) (l : List ByteArray) (x : ByteArray) (w : World) (hl : l.length <= 100000000) (h : TxtAt w v l) : Calls Tryz.prog 75 #[v, zG x] w fun e w' => e = .returned (.bool (inT l x)) /\ w = w' := by
 obtain ⟨ao, cap, rfl, hc⟩ := h;obtain ⟨n, hn⟩ := zE (l.length);obtain ⟨R, hR⟩ := zE (inT l x);have HC : Hid ((∀ j, j < l.length -> ∃ g, ao = some ⟨g, 0, none⟩ /\ g < w.heap.size /\ w.cell? ⟨g, j, none⟩ = some (zG (l.getD j ByteArray.empty))) /\ l.length = n /\ inT l x = R) := ⟨hc, hn, hR⟩;rw [hn] at hl |-;rw [hR];clear hc hn hR;go_enter Tryz.func75, Tryz.ntmps75
 go_wp2
 go_loopw [5] (fun iv wr => ∃ k : Nat, k <= n /\ iv = zI k /\ Hid (∀ j, j < k -> l.getD j ByteArray.empty ≠ x) /\ w = wr) (fun iv _ => n - (intOf iv).toNat)
 case atStart => exact ⟨0, Nat.zero_le _, rfl, fun j hj => absurd hj (Nat.not_lt_zero _), rfl⟩
 case round =>
  obtain ⟨k, hk, rfl, HK, rfl⟩ := hrel;by_cases hlt : k < n
  ·have hki : (k : Int) < (n : Int) := by omega
   have hk0 : (0 : Int) <= (k : Int) := by omega
   have hj : k < l.length := by rw [HC.2.1]; exact hlt
   obtain ⟨g, hao, hg, hcx⟩ := HC.1 k hj;subst hao;have hmem : l.getD k ByteArray.empty ∈ l := by rw [List.getD_eq_getElem?_getD, List.getElem?_eq_getElem hj]; exact List.getElem_mem _
   by_cases hx : l.getD k ByteArray.empty = x
   ·have HRR : Hid (R = true) := by show R = true; rw [<- HC.2.2, inT_iff, <- hx]; exact hmem
    have hq : ((l.getD k ByteArray.empty).toList == x.toList) = true := (Lib.bytes_beq_iff _ _).2 hx;clear hmem hx;generalize l.getD k ByteArray.empty = y at *
    go_wp2
    go_ret;exact ⟨by rw [HRR.out]; rfl, rfl⟩
   ·have HN : Hid (∀ j, j < k + 1 -> l.getD j ByteArray.empty ≠ x) := fun j hj => by
     by_cases e : j = k
     ·subst e; exact hx
     ·exact HK.out j (by omega)
    have hq : ((l.getD k ByteArray.empty).toList == x.toList) = false := (Lib.bytes_beq_false_iff _ _).2 hx;clear hmem hx HK;obtain ⟨y, hy⟩ := zE (l.getD k ByteArray.empty);rw [hy] at hcx hq;clear hy
    go_wp2
    go_roundw
    case rel => exact ⟨k + 1, by omega, by go_num, HN, by first | rfl | trivial⟩
    case measure => simp [intOf]; omega
  ·have hkl : k = n := by omega
   subst hkl;have HRR : Hid (R = false) := by
    show R = false;rw [<- HC.2.2];refine inT_no fun hm => ?_
    obtain ⟨j, hj, he⟩ := List.getElem_of_mem hm;refine HK.out j (by rw [<- HC.2.1]; exact hj) ?_;rw [List.getD_eq_getElem?_getD, List.getElem?_eq_getElem hj];exact he
   go_wp2
   go_ret;exact ⟨by rw [HRR.out]; rfl, rfl⟩
theorem hasText_any (v : Value) (l : List ByteArray) (x : ByteArray) (b : Nat) (w : World) (hl : l.length <= 100000000) (h : OwnT w b v l) : Calls Tryz.prog 128 #[v, zG x] w fun e w' => e = .returned (.bool (inT l x)) /\ w = w' := by
 by_cases h0 : l.length = 0
 ·obtain ⟨ao, cap, rfl, _⟩ := h.at
  have hn : l = [] := List.eq_nil_of_length_eq_zero h0;subst hn;exact (Tryz.slices_Contains_string_empty ao cap x w).mono (by rintro e w' ⟨rfl, rfl⟩; exact ⟨rfl, rfl⟩)
 ·obtain ⟨ao, cap, rfl, hc⟩ := h.at
  obtain ⟨g, rfl, _, _⟩ := hc 0 (by omega);refine (Tryz.slices_Contains_string g 0 l.length cap l x w (Nat.le_refl _) (by omega) (fun j hj => by rw [Nat.zero_add]; exact h.cell hj)).mono ?_;rintro e w' ⟨rfl, rfl⟩;refine ⟨?_, rfl⟩;rw [List.take_length]
  congr 2
  rw [Bool.eq_iff_iff, Lib.containsS_iff, inT_iff]
theorem l13Anchor_any (a : An) (w : World) (hs : wtA a <= 1048576) : Calls Tryz.prog 77 #[.agg #[zG a.name, zG a.key]] w fun e w' => e = .returned (.bool (tA a).1) /\ zW w w' := by
 unfold wtA at hs;obtain ⟨R, hR⟩ := zE ((tA a).1);obtain ⟨N, hN⟩ := zE (nameOk a.name);have HR : Hid ((N && decide (a.key.size = 15)) = R) := by rw [<- hR, <- hN]; exact rfl
 rw [hR];obtain ⟨V, hV⟩ : ∃ V, V = w.alloc (Obj.cells #[zG a.name, zG a.key] 124) := ⟨_, rfl⟩;have HV : Hid (zW w V /\ Blk V w.heap.size 124 #[zG a.name, zG a.key]) := by rw [hV]; exact ⟨(Below.refl _ _).alloc (Nat.le_refl _) _, Blk.new w _ _⟩
 have E := specName_any a.name V (by omega);rw [hN] at E;clear hR hN;go_enter Tryz.func77, Tryz.ntmps77;go_wp2_with fail;rw [<- hV];clear hV;refine E.mono ?_;rintro e w2 ⟨rfl, rfl⟩;clear E;have c1 := fun j => HV.2.cell j
 have hk15 : a.key.size <= 1048576 := by omega
 cases N with
 | false =>
  go_wp2
  go_ret;exact ⟨by rw [<- HR.out]; rfl, HV.1⟩
 | true =>
  by_cases hk : a.key.size = 15
  ·have hb : ((a.key.size : Int) == 15) = true := by rw [hk]; rfl
   have HRR : Hid (R = true) := by show R = true; rw [<- HR.out, decide_eq_true hk]; rfl
   clear hk HR
   go_wp2
   go_ret;exact ⟨by rw [HRR.out]; simp, HV.1⟩
  ·have hb : ((a.key.size : Int) == 15) = false := beq_eq_false_iff_ne.2 (by omega)
   have HRR : Hid (R = false) := by show R = false; rw [<- HR.out, decide_eq_false hk]; rfl
   clear hk HR
   go_wp2
   go_ret;exact ⟨by rw [HRR.out]; simp, HV.1⟩
theorem anchorText_any (a : An) (w : World) (hs : wtA a <= 1048576) : Calls Tryz.prog 89 #[.agg #[zG a.name, zG a.key]] w fun e w' => e = .returned (.tuple #[zG (tA a).2, .bool (tA a).1]) /\ zW w w' := by
 unfold wtA at hs;obtain ⟨R, hR⟩ := zE ((tA a).1);obtain ⟨N, hN⟩ := zE (nameOk a.name);have HR : Hid ((N && decide (a.key.size = 15)) = R) := by rw [<- hR, <- hN]; exact rfl
 rw [hR];change Calls _ _ _ _ fun e w' => e = .returned (.tuple #[zG a.name, .bool R]) /\ _
 obtain ⟨V, hV⟩ : ∃ V, V = w.alloc (Obj.cells #[zG a.name, zG a.key] 124) := ⟨_, rfl⟩;have HV : Hid (zW w V /\ Blk V w.heap.size 124 #[zG a.name, zG a.key]) := by rw [hV]; exact ⟨(Below.refl _ _).alloc (Nat.le_refl _) _, Blk.new w _ _⟩
 have E := implName_any a.name V (by omega);rw [hN] at E;have hk15 : a.key.size <= 1048576 := by omega
 clear hR;have HL : Hid (∀ W, zW V W -> W.cell? ⟨w.heap.size, 0, none⟩ = some (zG a.name) /\ W.cell? ⟨w.heap.size, 1, none⟩ = some (zG a.key)) := fun W hb => ⟨(HV.2.below hb HV.2.lt).cell 0, (HV.2.below hb HV.2.lt).cell 1⟩
 go_enter Tryz.func89, Tryz.ntmps89;go_upto_region 1 with fail;have hS0 : zW V V.drew := (Below.refl _ _).drew;have E2 := implName_any a.name V.drew (by omega);rw [hN] at E2;clear E hN;subst hV;refine wp_region_held_drew (S := fun W => Below (w.alloc (Obj.cells #[zG a.name, zG a.key] 124)).heap.size (w.alloc (Obj.cells #[zG a.name, zG a.key] 124)) W) (by kernel_rfl) hS0 (fun hHeld => ?_);refine zQ 0 4 rfl hHeld ?_;refine zT 1 5 ?_ rfl (by rfl) ?_ hHeld ?_;rotate_left
 ·intro W hSw
  obtain ⟨d0, d1⟩ := HL.out W hSw;go_simp
  try with_reducible rfl
 refine zQ 2 6 rfl hHeld ?_;refine zT 3 7 ?_ rfl (by rfl) ?_ hHeld ?_;rotate_left
 ·intro W hSw
  obtain ⟨d0, d1⟩ := HL.out W hSw;go_simp
  try with_reducible rfl
 refine zR 4 8 rfl fun K hK => ?_
 go_simp;refine E2.mono ?_;rintro e w3 ⟨rfl, hb3⟩;have HB3 : Hid (Below (w.alloc (Obj.cells #[zG a.name, zG a.key] 124)).heap.size (w.alloc (Obj.cells #[zG a.name, zG a.key] 124)) w3) := hS0.trans hb3;clear hb3 hS0 E2;refine hK.out _ _ (HB3.out) (fun hHeld => ?_);clear hK K;refine zQ 5 9 rfl hHeld ?_
 cases N with
 | false =>
  refine zU 6 10 rfl (by rfl) hHeld ?_;refine zU 7 11 rfl (by rfl) hHeld ?_;refine zU 8 12 rfl (by rfl) hHeld ?_;refine zU 9 13 rfl (by rfl) hHeld ?_;refine zQ 10 14 rfl hHeld ?_;refine zQ 11 2 rfl hHeld ?_;refine zQ 12 3 rfl hHeld ?_;refine wpAnyH_done (by kernel_rfl) ?_ _;go_wp2_with fail
  go_ret2
  exact ⟨by rw [<- HR.out]; rfl, HV.1.trans (HB3.mono HV.1.size)⟩
 | true =>
  by_cases hk : a.key.size = 15
  ·have hb : ((a.key.size : Int) == 15) = true := by rw [hk]; rfl
   have HRR : Hid (R = true) := by show R = true; rw [<- HR.out, decide_eq_true hk]; rfl
   clear hk HR;refine zQ 6 10 rfl hHeld ?_;refine zT 7 11 ?_ rfl (by rfl) ?_ hHeld ?_;rotate_left
   ·intro W hSw
    obtain ⟨d0, d1⟩ := HL.out W hSw;go_simp
    try with_reducible rfl
   refine zQ 8 12 rfl hHeld ?_;refine zQ 9 13 rfl hHeld ?_;refine zQ 10 14 rfl hHeld ?_;refine zQ 11 2 rfl hHeld ?_;refine zQ 12 3 rfl hHeld ?_;refine wpAnyH_done (by kernel_rfl) ?_ _;go_wp2_with fail
   go_ret2
   exact ⟨by rw [HRR.out]; rfl, HV.1.trans (HB3.mono HV.1.size)⟩
  ·have hb : ((a.key.size : Int) == 15) = false := beq_eq_false_iff_ne.2 (by omega)
   have HRR : Hid (R = false) := by show R = false; rw [<- HR.out, decide_eq_false hk]; rfl
   clear hk HR;refine zQ 6 10 rfl hHeld ?_;refine zT 7 11 ?_ rfl (by rfl) ?_ hHeld ?_;rotate_left
   ·intro W hSw
    obtain ⟨d0, d1⟩ := HL.out W hSw;go_simp
    try with_reducible rfl
   refine zQ 8 12 rfl hHeld ?_;refine zQ 9 13 rfl hHeld ?_;refine zQ 10 14 rfl hHeld ?_;refine zQ 11 2 rfl hHeld ?_;refine zQ 12 3 rfl hHeld ?_;refine wpAnyH_done (by kernel_rfl) ?_ _;go_wp2_with fail
   go_ret2
   exact ⟨by rw [HRR.out]; rfl, HV.1.trans (HB3.mono HV.1.size)⟩
def OkO (s : So) : Prop := (s.certs.length <= 2000000 /\ s.crls.length <= 2000000 /\ s.ancs.length <= 2000000) /\ (∀ c ∈ s.certs, wtC c <= 1048576 /\ WdC c) /\ (∀ c ∈ s.crls, wtL c <= 1048576 /\ WdL c) /\ ∀ a ∈ s.ancs, wtA a <= 1048576
theorem differentCert_any (l : List Ct) (v : Value) (w : World) (hl : l.length <= 2000000) (hwd : ∀ c ∈ l, wtC c <= 1048576 /\ WdC c) (ha : AtS certKd w v l) :
  Calls Tryz.prog 84 #[v, .func (.func 85) #[] #[]] w fun e w' => e = .returned (.bool (dif [] (l.map tC))) /\ zW w w' := by
 obtain ⟨i0, hi, hz0, hz1, hz2⟩ := info_parts info9;obtain ⟨ax, cx, hv⟩ := ha.shape;obtain ⟨len, hlen⟩ := zE (l.length);rw [hlen] at hv hl;subst hv;obtain ⟨R, hR⟩ := zE (dif [] (l.map tC));rw [hR];have HX : Hid (AtS certKd w (zS ax len cx) l /\ l.length = len /\ (∀ c ∈ l, wtC c <= 1048576 /\ WdC c) /\ dif [] (l.map tC) = R) := ⟨ha, hlen, hwd, hR⟩;have HTX : Hid (∀ (c : Ct) (v : Value) (W : World), wtC c <= 1048576 /\ WdC c -> certKd.At W v c -> Calls Tryz.prog 85 #[v] W fun e w' => e = .returned (.tuple #[zG (tC c).2, .bool (tC c).1]) /\ zW W w') := fun c v W h2 h1 => (implCertText_any c _ W h2.1 h2.2 h1)
 clear ha hlen hwd hR;go_enter Tryz.func84, Tryz.ntmps84;go_wp2_with fail
 go_loopw [5, 12] (fun tv iv wr => ∃ k : Nat, k <= len /\ iv = zI k /\ Hid (OwnT wr w.heap.size tv (((l.map tC).take k).map Prod.snd) /\ zW w wr /\ dif (((l.map tC).take k).map Prod.snd) ((l.map tC).drop k) = R)) (fun _ iv _ => len - (intOf iv).toNat)
 case atStart => exact ⟨0, Nat.zero_le _, rfl, World.ownsRow_nil _ _ _ _, Below.refl _ _, HX.2.2.2⟩
 case round =>
  obtain ⟨k, hk, rfl, H⟩ := hrel;by_cases hkn : k < len
  ·have hkl : k < l.length := by rw [HX.2.1]; exact hkn
   have hkm : k < (l.map tC).length := by rw [List.length_map]; exact hkl
   obtain ⟨g, o, u, hax, hg, hP, hs, hc⟩ := HX.1.get hkl;obtain ⟨p1, q1, p2, q2, p3, q3, hu⟩ := CtAt.shape hP;subst hax;have hki : (k : Int) < (len : Int) := by omega
   have hk0 : (0 : Int) <= (k : Int) := by omega
   have hPw := certKd.below hP H.2.1;obtain ⟨c, hce⟩ := zE (l[k]);have hwc := HX.2.2.1 _ (List.getElem_mem hkl);have hrg0 := fun i x hx => (H.2.1.cell (p := ⟨g, o + k * 13 + i, none⟩) hg).trans (hc i x hx)
   rw [hce] at hu hPw hwc;subst hu;have hrg : wr.rangeAt g (o + k * 13) (zCt c (zS p1 c.pol.length q1) (zS p2 c.per.length q2) (zS p3 c.den.length q3)).toList := fun j x hx => hrg0 j x (by rw [<- hx]; exact Array.getElem?_toList.symm)
   obtain ⟨V, hV⟩ : ∃ V, V = (wr.alloc (Obj.cells #[zI 0, zG ⟨#[]⟩, zG ⟨#[]⟩, zI 0, zI 0, zG ⟨#[]⟩, .bool false, zI 0, zI 0, zZ, zZ, zZ, zG ⟨#[]⟩] 52)).setCells wr.heap.size 0 (zCt c (zS p1 c.pol.length q1) (zS p2 c.per.length q2) (zS p3 c.den.length q3)).toList := ⟨_, rfl⟩;have HV : Hid (zW wr V /\ Blk V wr.heap.size 52 (zCt c (zS p1 c.pol.length q1) (zS p2 c.per.length q2) (zS p3 c.den.length q3))) := fresh_store hV rfl;have hth := (Blk.new wr 52 #[zI 0, zG ⟨#[]⟩, zG ⟨#[]⟩, zI 0, zI 0, zG ⟨#[]⟩, .bool false, zI 0, zI 0, zZ, zZ, zZ, zG ⟨#[]⟩]).there (n := 13) rfl;have HR := HTX.out c _ V hwc (certKd.below hPw HV.1);unfold ctV at HR;have HD : Hid (R = ((tC c).1 && (!inT (((l.map tC).take k).map Prod.snd) (tC c).2 && dif (((l.map tC).take (k + 1)).map Prod.snd) ((l.map tC).drop (k + 1))))) := by
    show R = _;rw [<- H.2.2, dif_at hkm, List.getElem_map, hce]
   have HN : Hid (((l.map tC).take (k + 1)).map Prod.snd = ((l.map tC).take k).map Prod.snd ++ [(tC c).2]) := by
    show _ = _;rw [List.take_succ_eq_append_getElem hkm, List.map_append, List.getElem_map, hce];rfl
   obtain ⟨T, hT⟩ := zE ((tC c).2);obtain ⟨OK, hOK⟩ := zE ((tC c).1);rw [hT, hOK] at HR HD;rw [hT] at HN;obtain ⟨SN, hSN⟩ := zE (((l.map tC).take k).map Prod.snd);have HSL : Hid (SN.length = k) := by show _ = _; rw [<- hSN, List.length_map, List.length_take, List.length_map]; omega
   rw [hSN] at H HD HN;clear hP hPw hwc hrg0 hs hc hce hT hOK hSN hg;obtain ⟨la, lc, hlv⟩ : ∃ ao cap, u5 = zS ao SN.length cap := by obtain ⟨ao, cap, h, _⟩ := H.1.at; exact ⟨ao, cap, h⟩
   rw [HSL.out] at hlv;subst hlv;go_upto_region 5 with (first | refine wpList_load_mid rfl 52 _ rfl g (o + k * 13) rfl _ _ hrg Tryz.underlying52 rfl (by kernel_rfl) ?_ | (refine step_storeV rfl 52 _ _ rfl wr.heap.size 0 #[zI c.serial, zG c.issuer, zG c.subject, zI c.frm, zI c.upto, zG c.key, .bool c.ca, zI c.pathLen, zI c.usage, zS p1 c.pol.length q1, zS p2 c.per.length q2, zS p3 c.den.length q3, zG c.sig] rfl rfl hth (by kernel_rfl) (by simp [Value.oneCell']) hV ?_; clear hV hth))
   have hrv := HV.2.range;go_wp2_with (refine wpList_load_mid rfl 52 _ rfl wr.heap.size 0 rfl _ _ hrv Tryz.underlying52 rfl (by kernel_rfl) ?_);refine HR.mono ?_;rintro e w3 ⟨rfl, hb3'⟩;have hb3 : zW wr w3 := HV.1.trans (hb3'.mono HV.1.size);have H3 := zH (zJ (H.1.stays hb3) (H.2.1.trans (hb3.mono H.2.1.size)));clear hb3 hb3' H HR hrg hrv HV
   cases OK with
   | false =>
    go_wp2_with fail;go_ret;exact ⟨by rw [HD.out]; rfl, H3.2⟩
   | true =>
    go_wp2_with fail;refine (hasText_any _ SN T _ w3 (by rw [HSL.out]; omega) H3.1).mono ?_;rintro e w4 ⟨rfl, rfl⟩;obtain ⟨IN, hIN⟩ := zE (inT SN T);rw [hIN] at HD |-;clear hIN
    cases IN with
    | true =>
     go_wp2_with fail;go_ret;exact ⟨by rw [HD.out]; rfl, H3.2⟩
    | false =>
     obtain ⟨W4, hW4⟩ : ∃ V, V = w3.alloc (Obj.cells #[zG T] 9) := ⟨_, rfl⟩;have hb34 : zW w3 W4 := by rw [hW4]; exact (Below.refl _ _).alloc (Nat.le_refl _) _
     have H4 := zH (zJ (H3.1.stays hb34) (zJ (by rw [hW4]; exact World.ownsRow_lit w3 #[zG T] 1 (Nat.le_refl _) (by decide) rfl : OwnT W4 w3.heap.size (zS (some ⟨w3.heap.size, 0, none⟩) 1 1) [T]) (H3.2.trans (hb34.mono H3.2.size))));clear hb34 H3;go_wp2_with (at_builtin; rw [<- hW4]; refine wpList_append_texts2 rfl _ _ 46 rfl w.heap.size i0 Tryz.underlying46 hi hz0 hz1 hz2 (zS la k lc) SN.length (cellsT SN) rfl H4.1 _ [T] w3.heap.size H4.2.1 rfl (by rw [HSL.out]; simp only [List.length_singleton]; omega) H4.2.2.size ?_);intro v9 w9 ho9 hg9;rw [<- hW4] at hg9;have H9 : Hid (OwnT w9 w.heap.size v9 (((l.map tC).take (k + 1)).map Prod.snd) /\ zW w w9 /\ dif (((l.map tC).take (k + 1)).map Prod.snd) ((l.map tC).drop (k + 1)) = R) := by
      have hrl := fun b hb => (World.ownsRow.lt H4.1 b hb).1
      refine ⟨?_, H4.2.2.grown hg9 H4.2.2.size hrl, by rw [HD.out]; rfl⟩;rw [HN.out];simpa [OwnT, cellsT_append] using ho9
     clear ho9 hg9 H4 hW4;go_wp2_with fail;exact ⟨⟨k + 1, by omega, by go_num, H9⟩, by simp [intOf]; omega⟩
  ·have hkl : k = len := by omega
   subst hkl;have HRR : Hid (R = true) := by show R = true; rw [<- H.2.2]; exact dif_end _ (by rw [List.length_map, HX.2.1]; exact Nat.le_refl _)
   go_wp2_with fail;go_ret;exact ⟨by rw [HRR.out]; rfl, H.2.1⟩
theorem differentCrl_any (l : List Cl) (v : Value) (w : World) (hl : l.length <= 2000000) (hwd : ∀ c ∈ l, wtL c <= 1048576 /\ WdL c) (ha : AtS crlKd w v l) :
  Calls Tryz.prog 86 #[v, .func (.func 87) #[] #[]] w fun e w' => e = .returned (.bool (dif [] (l.map tL))) /\ zW w w' := by
 obtain ⟨i0, hi, hz0, hz1, hz2⟩ := info_parts info9;obtain ⟨ax, cx, hv⟩ := ha.shape;obtain ⟨len, hlen⟩ := zE (l.length);rw [hlen] at hv hl;subst hv;obtain ⟨R, hR⟩ := zE (dif [] (l.map tL));rw [hR];have HX : Hid (AtS crlKd w (zS ax len cx) l /\ l.length = len /\ (∀ c ∈ l, wtL c <= 1048576 /\ WdL c) /\ dif [] (l.map tL) = R) := ⟨ha, hlen, hwd, hR⟩;have HTX : Hid (∀ (c : Cl) (v : Value) (W : World), wtL c <= 1048576 /\ WdL c -> crlKd.At W v c -> Calls Tryz.prog 87 #[v] W fun e w' => e = .returned (.tuple #[zG (tL c).2, .bool (tL c).1]) /\ zW W w') := fun c v W h2 h1 => (implCrlText_any c _ W h2.1 h2.2 h1)
 clear ha hlen hwd hR;go_enter Tryz.func86, Tryz.ntmps86;go_wp2_with fail
 go_loopw [5, 12] (fun tv iv wr => ∃ k : Nat, k <= len /\ iv = zI k /\ Hid (OwnT wr w.heap.size tv (((l.map tL).take k).map Prod.snd) /\ zW w wr /\ dif (((l.map tL).take k).map Prod.snd) ((l.map tL).drop k) = R)) (fun _ iv _ => len - (intOf iv).toNat)
 case atStart => exact ⟨0, Nat.zero_le _, rfl, World.ownsRow_nil _ _ _ _, Below.refl _ _, HX.2.2.2⟩
 case round =>
  obtain ⟨k, hk, rfl, H⟩ := hrel;by_cases hkn : k < len
  ·have hkl : k < l.length := by rw [HX.2.1]; exact hkn
   have hkm : k < (l.map tL).length := by rw [List.length_map]; exact hkl
   obtain ⟨g, o, u, hax, hg, hP, hs, hc⟩ := HX.1.get hkl;obtain ⟨p1, q1, hu⟩ := ClAt.shape hP;subst hax;have hki : (k : Int) < (len : Int) := by omega
   have hk0 : (0 : Int) <= (k : Int) := by omega
   have hPw := crlKd.below hP H.2.1;obtain ⟨c, hce⟩ := zE (l[k]);have hwc := HX.2.2.1 _ (List.getElem_mem hkl);have hrg0 := fun i x hx => (H.2.1.cell (p := ⟨g, o + k * 7 + i, none⟩) hg).trans (hc i x hx)
   rw [hce] at hu hPw hwc;subst hu;have hrg : wr.rangeAt g (o + k * 7) (zCl c (zS p1 c.revs.length q1)).toList := fun j x hx => hrg0 j x (by rw [<- hx]; exact Array.getElem?_toList.symm)
   obtain ⟨V, hV⟩ : ∃ V, V = (wr.alloc (Obj.cells #[zG ⟨#[]⟩, zI 0, zI 0, zI 0, zI 0, zZ, zG ⟨#[]⟩] 65)).setCells wr.heap.size 0 (zCl c (zS p1 c.revs.length q1)).toList := ⟨_, rfl⟩;have HV : Hid (zW wr V /\ Blk V wr.heap.size 65 (zCl c (zS p1 c.revs.length q1))) := fresh_store hV rfl;have hth := (Blk.new wr 65 #[zG ⟨#[]⟩, zI 0, zI 0, zI 0, zI 0, zZ, zG ⟨#[]⟩]).there (n := 7) rfl;have HR := HTX.out c _ V hwc (crlKd.below hPw HV.1);unfold clV at HR;have HD : Hid (R = ((tL c).1 && (!inT (((l.map tL).take k).map Prod.snd) (tL c).2 && dif (((l.map tL).take (k + 1)).map Prod.snd) ((l.map tL).drop (k + 1))))) := by
    show R = _;rw [<- H.2.2, dif_at hkm, List.getElem_map, hce]
   have HN : Hid (((l.map tL).take (k + 1)).map Prod.snd = ((l.map tL).take k).map Prod.snd ++ [(tL c).2]) := by
    show _ = _;rw [List.take_succ_eq_append_getElem hkm, List.map_append, List.getElem_map, hce];rfl
   obtain ⟨T, hT⟩ := zE ((tL c).2);obtain ⟨OK, hOK⟩ := zE ((tL c).1);rw [hT, hOK] at HR HD;rw [hT] at HN;obtain ⟨SN, hSN⟩ := zE (((l.map tL).take k).map Prod.snd);have HSL : Hid (SN.length = k) := by show _ = _; rw [<- hSN, List.length_map, List.length_take, List.length_map]; omega
   rw [hSN] at H HD HN;clear hP hPw hwc hrg0 hs hc hce hT hOK hSN hg;obtain ⟨la, lc, hlv⟩ : ∃ ao cap, u5 = zS ao SN.length cap := by obtain ⟨ao, cap, h, _⟩ := H.1.at; exact ⟨ao, cap, h⟩
   rw [HSL.out] at hlv;subst hlv;go_upto_region 5 with (first | refine wpList_load_mid rfl 65 _ rfl g (o + k * 7) rfl _ _ hrg Tryz.underlying65 rfl (by kernel_rfl) ?_ | (refine step_storeV rfl 65 _ _ rfl wr.heap.size 0 #[zG c.issuer, zI c.num, zI c.ths, zI c.nxt, zI c.bas, zS p1 c.revs.length q1, zG c.sig] rfl rfl hth (by kernel_rfl) (by simp [Value.oneCell']) hV ?_; clear hV hth))
   have hrv := HV.2.range;go_wp2_with (refine wpList_load_mid rfl 65 _ rfl wr.heap.size 0 rfl _ _ hrv Tryz.underlying65 rfl (by kernel_rfl) ?_);refine HR.mono ?_;rintro e w3 ⟨rfl, hb3'⟩;have hb3 : zW wr w3 := HV.1.trans (hb3'.mono HV.1.size);have H3 := zH (zJ (H.1.stays hb3) (H.2.1.trans (hb3.mono H.2.1.size)));clear hb3 hb3' H HR hrg hrv HV
   cases OK with
   | false =>
    go_wp2_with fail;go_ret;exact ⟨by rw [HD.out]; rfl, H3.2⟩
   | true =>
    go_wp2_with fail;refine (hasText_any _ SN T _ w3 (by rw [HSL.out]; omega) H3.1).mono ?_;rintro e w4 ⟨rfl, rfl⟩;obtain ⟨IN, hIN⟩ := zE (inT SN T);rw [hIN] at HD |-;clear hIN
    cases IN with
    | true =>
     go_wp2_with fail;go_ret;exact ⟨by rw [HD.out]; rfl, H3.2⟩
    | false =>
     obtain ⟨W4, hW4⟩ : ∃ V, V = w3.alloc (Obj.cells #[zG T] 9) := ⟨_, rfl⟩;have hb34 : zW w3 W4 := by rw [hW4]; exact (Below.refl _ _).alloc (Nat.le_refl _) _
     have H4 := zH (zJ (H3.1.stays hb34) (zJ (by rw [hW4]; exact World.ownsRow_lit w3 #[zG T] 1 (Nat.le_refl _) (by decide) rfl : OwnT W4 w3.heap.size (zS (some ⟨w3.heap.size, 0, none⟩) 1 1) [T]) (H3.2.trans (hb34.mono H3.2.size))));clear hb34 H3;go_wp2_with (at_builtin; rw [<- hW4]; refine wpList_append_texts2 rfl _ _ 46 rfl w.heap.size i0 Tryz.underlying46 hi hz0 hz1 hz2 (zS la k lc) SN.length (cellsT SN) rfl H4.1 _ [T] w3.heap.size H4.2.1 rfl (by rw [HSL.out]; simp only [List.length_singleton]; omega) H4.2.2.size ?_);intro v9 w9 ho9 hg9;rw [<- hW4] at hg9;have H9 : Hid (OwnT w9 w.heap.size v9 (((l.map tL).take (k + 1)).map Prod.snd) /\ zW w w9 /\ dif (((l.map tL).take (k + 1)).map Prod.snd) ((l.map tL).drop (k + 1)) = R) := by
      have hrl := fun b hb => (World.ownsRow.lt H4.1 b hb).1
      refine ⟨?_, H4.2.2.grown hg9 H4.2.2.size hrl, by rw [HD.out]; rfl⟩;rw [HN.out];simpa [OwnT, cellsT_append] using ho9
     clear ho9 hg9 H4 hW4;go_wp2_with fail;exact ⟨⟨k + 1, by omega, by go_num, H9⟩, by simp [intOf]; omega⟩
  ·have hkl : k = len := by omega
   subst hkl;have HRR : Hid (R = true) := by show R = true; rw [<- H.2.2]; exact dif_end _ (by rw [List.length_map, HX.2.1]; exact Nat.le_refl _)
   go_wp2_with fail;go_ret;exact ⟨by rw [HRR.out]; rfl, H.2.1⟩
theorem differentAnchor_any (l : List An) (v : Value) (w : World) (hl : l.length <= 2000000) (hwd : ∀ c ∈ l, wtA c <= 1048576) (ha : AtS anKd w v l) :
  Calls Tryz.prog 88 #[v, .func (.func 89) #[] #[]] w fun e w' => e = .returned (.bool (dif [] (l.map tA))) /\ zW w w' := by
 obtain ⟨i0, hi, hz0, hz1, hz2⟩ := info_parts info9;obtain ⟨ax, cx, hv⟩ := ha.shape;obtain ⟨len, hlen⟩ := zE (l.length);rw [hlen] at hv hl;subst hv;obtain ⟨R, hR⟩ := zE (dif [] (l.map tA));rw [hR];have HX : Hid (AtS anKd w (zS ax len cx) l /\ l.length = len /\ (∀ c ∈ l, wtA c <= 1048576) /\ dif [] (l.map tA) = R) := ⟨ha, hlen, hwd, hR⟩;have HTX : Hid (∀ (c : An) (v : Value) (W : World), wtA c <= 1048576 -> anKd.At W v c -> Calls Tryz.prog 89 #[v] W fun e w' => e = .returned (.tuple #[zG (tA c).2, .bool (tA c).1]) /\ zW W w') := fun c v W h2 h1 => (by have h1' : _ = anV c := h1; subst h1'; exact anchorText_any c W h2)
 clear ha hlen hwd hR;go_enter Tryz.func88, Tryz.ntmps88;go_wp2_with fail
 go_loopw [5, 12] (fun tv iv wr => ∃ k : Nat, k <= len /\ iv = zI k /\ Hid (OwnT wr w.heap.size tv (((l.map tA).take k).map Prod.snd) /\ zW w wr /\ dif (((l.map tA).take k).map Prod.snd) ((l.map tA).drop k) = R)) (fun _ iv _ => len - (intOf iv).toNat)
 case atStart => exact ⟨0, Nat.zero_le _, rfl, World.ownsRow_nil _ _ _ _, Below.refl _ _, HX.2.2.2⟩
 case round =>
  obtain ⟨k, hk, rfl, H⟩ := hrel;by_cases hkn : k < len
  ·have hkl : k < l.length := by rw [HX.2.1]; exact hkn
   have hkm : k < (l.map tA).length := by rw [List.length_map]; exact hkl
   obtain ⟨g, o, u, hax, hg, hP, hs, hc⟩ := HX.1.get hkl;have hu : u = anV l[k] := hP;subst hax;have hki : (k : Int) < (len : Int) := by omega
   have hk0 : (0 : Int) <= (k : Int) := by omega
   have hPw := anKd.below hP H.2.1;obtain ⟨c, hce⟩ := zE (l[k]);have hwc := HX.2.2.1 _ (List.getElem_mem hkl);have hrg0 := fun i x hx => (H.2.1.cell (p := ⟨g, o + k * 2 + i, none⟩) hg).trans (hc i x hx)
   rw [hce] at hu hPw hwc;subst hu;have hrg : wr.rangeAt g (o + k * 2) #[zG c.name, zG c.key].toList := fun j x hx => hrg0 j x (by rw [<- hx]; exact Array.getElem?_toList.symm)
   obtain ⟨V, hV⟩ : ∃ V, V = (wr.alloc (Obj.cells #[zG ⟨#[]⟩, zG ⟨#[]⟩] 124)).setCells wr.heap.size 0 #[zG c.name, zG c.key].toList := ⟨_, rfl⟩;have HV : Hid (zW wr V /\ Blk V wr.heap.size 124 #[zG c.name, zG c.key]) := fresh_store hV rfl;have hth := (Blk.new wr 124 #[zG ⟨#[]⟩, zG ⟨#[]⟩]).there (n := 2) rfl;have HR := HTX.out c _ V hwc (anKd.below hPw HV.1);unfold anV at HR;have HD : Hid (R = ((tA c).1 && (!inT (((l.map tA).take k).map Prod.snd) (tA c).2 && dif (((l.map tA).take (k + 1)).map Prod.snd) ((l.map tA).drop (k + 1))))) := by
    show R = _;rw [<- H.2.2, dif_at hkm, List.getElem_map, hce]
   have HN : Hid (((l.map tA).take (k + 1)).map Prod.snd = ((l.map tA).take k).map Prod.snd ++ [(tA c).2]) := by
    show _ = _;rw [List.take_succ_eq_append_getElem hkm, List.map_append, List.getElem_map, hce];rfl
   obtain ⟨T, hT⟩ := zE ((tA c).2);obtain ⟨OK, hOK⟩ := zE ((tA c).1);rw [hT, hOK] at HR HD;rw [hT] at HN;obtain ⟨SN, hSN⟩ := zE (((l.map tA).take k).map Prod.snd);have HSL : Hid (SN.length = k) := by show _ = _; rw [<- hSN, List.length_map, List.length_take, List.length_map]; omega
   rw [hSN] at H HD HN;clear hP hPw hwc hrg0 hs hc hce hT hOK hSN hg;obtain ⟨la, lc, hlv⟩ : ∃ ao cap, u5 = zS ao SN.length cap := by obtain ⟨ao, cap, h, _⟩ := H.1.at; exact ⟨ao, cap, h⟩
   rw [HSL.out] at hlv;subst hlv;go_upto_region 5 with (first | refine wpList_load_mid rfl 124 _ rfl g (o + k * 2) rfl _ _ hrg Tryz.underlying124 rfl (by kernel_rfl) ?_ | (refine step_storeV rfl 124 _ _ rfl wr.heap.size 0 #[zG c.name, zG c.key] rfl rfl hth (by kernel_rfl) (by simp [Value.oneCell']) hV ?_; clear hV hth))
   have hrv := HV.2.range;go_wp2_with (refine wpList_load_mid rfl 124 _ rfl wr.heap.size 0 rfl _ _ hrv Tryz.underlying124 rfl (by kernel_rfl) ?_);refine HR.mono ?_;rintro e w3 ⟨rfl, hb3'⟩;have hb3 : zW wr w3 := HV.1.trans (hb3'.mono HV.1.size);have H3 := zH (zJ (H.1.stays hb3) (H.2.1.trans (hb3.mono H.2.1.size)));clear hb3 hb3' H HR hrg hrv HV
   cases OK with
   | false =>
    go_wp2_with fail;go_ret;exact ⟨by rw [HD.out]; rfl, H3.2⟩
   | true =>
    go_wp2_with fail;refine (hasText_any _ SN T _ w3 (by rw [HSL.out]; omega) H3.1).mono ?_;rintro e w4 ⟨rfl, rfl⟩;obtain ⟨IN, hIN⟩ := zE (inT SN T);rw [hIN] at HD |-;clear hIN
    cases IN with
    | true =>
     go_wp2_with fail;go_ret;exact ⟨by rw [HD.out]; rfl, H3.2⟩
    | false =>
     obtain ⟨W4, hW4⟩ : ∃ V, V = w3.alloc (Obj.cells #[zG T] 9) := ⟨_, rfl⟩;have hb34 : zW w3 W4 := by rw [hW4]; exact (Below.refl _ _).alloc (Nat.le_refl _) _
     have H4 := zH (zJ (H3.1.stays hb34) (zJ (by rw [hW4]; exact World.ownsRow_lit w3 #[zG T] 1 (Nat.le_refl _) (by decide) rfl : OwnT W4 w3.heap.size (zS (some ⟨w3.heap.size, 0, none⟩) 1 1) [T]) (H3.2.trans (hb34.mono H3.2.size))));clear hb34 H3;go_wp2_with (at_builtin; rw [<- hW4]; refine wpList_append_texts2 rfl _ _ 46 rfl w.heap.size i0 Tryz.underlying46 hi hz0 hz1 hz2 (zS la k lc) SN.length (cellsT SN) rfl H4.1 _ [T] w3.heap.size H4.2.1 rfl (by rw [HSL.out]; simp only [List.length_singleton]; omega) H4.2.2.size ?_);intro v9 w9 ho9 hg9;rw [<- hW4] at hg9;have H9 : Hid (OwnT w9 w.heap.size v9 (((l.map tA).take (k + 1)).map Prod.snd) /\ zW w w9 /\ dif (((l.map tA).take (k + 1)).map Prod.snd) ((l.map tA).drop (k + 1)) = R) := by
      have hrl := fun b hb => (World.ownsRow.lt H4.1 b hb).1
      refine ⟨?_, H4.2.2.grown hg9 H4.2.2.size hrl, by rw [HD.out]; rfl⟩;rw [HN.out];simpa [OwnT, cellsT_append] using ho9
     clear ho9 hg9 H4 hW4;go_wp2_with fail;exact ⟨⟨k + 1, by omega, by go_num, H9⟩, by simp [intOf]; omega⟩
  ·have hkl : k = len := by omega
   subst hkl;have HRR : Hid (R = true) := by show R = true; rw [<- H.2.2]; exact dif_end _ (by rw [List.length_map, HX.2.1]; exact Nat.le_refl _)
   go_wp2_with fail;go_ret;exact ⟨by rw [HRR.out]; rfl, H.2.1⟩
theorem implStoreOk_any (s : So) (v : Value) (w : World) (hok : OkO s) (ha : SoAt w v s) : Calls Tryz.prog 35 #[v] w fun e w' => e = .returned (.bool (stoOk s)) /\ zW w w' := by
 obtain ⟨⟨l1, l2, l3⟩, wd1, wd2, wd3⟩ := hok;obtain ⟨a1, c1, a2, c2, a3, c3, rfl⟩ := ha.shape;obtain ⟨k1, k2, k3⟩ := ha.rows;obtain ⟨R, hR⟩ := zE (stoOk s);rw [hR];obtain ⟨n1, e1⟩ := zE (s.certs.length);obtain ⟨n2, e2⟩ := zE (s.crls.length);obtain ⟨n3, e3⟩ := zE (s.ancs.length);have HR : Hid (R = ((decide (n1 <= 12) && decide (n2 <= 8) && decide (n3 <= 3)) && (dif [] (s.certs.map tC) && (dif [] (s.crls.map tL) && dif [] (s.ancs.map tA))))) := by show R = _; rw [<- hR, <- e1, <- e2, <- e3]; rfl
 rw [e1] at k1 l1 |-;rw [e2] at k2 l2 |-;rw [e3] at k3 l3 |-;obtain ⟨D1, d1⟩ := zE (dif [] (s.certs.map tC));obtain ⟨D2, d2⟩ := zE (dif [] (s.crls.map tL));obtain ⟨D3, d3⟩ := zE (dif [] (s.ancs.map tA));have Q1 : Hid (∀ W, zW w W -> Calls Tryz.prog 84 #[zS a1 n1 c1, .func (.func 85) #[] #[]] W fun e w' => e = .returned (.bool D1) /\ zW W w') := fun W hb => by rw [<- d1]; exact differentCert_any s.certs _ W (by omega) wd1 (k1.below hb)
 have Q2 : Hid (∀ W, zW w W -> Calls Tryz.prog 86 #[zS a2 n2 c2, .func (.func 87) #[] #[]] W fun e w' => e = .returned (.bool D2) /\ zW W w') := fun W hb => by rw [<- d2]; exact differentCrl_any s.crls _ W (by omega) wd2 (k2.below hb)
 have Q3 : Hid (∀ W, zW w W -> Calls Tryz.prog 88 #[zS a3 n3 c3, .func (.func 89) #[] #[]] W fun e w' => e = .returned (.bool D3) /\ zW W w') := fun W hb => by rw [<- d3]; exact differentAnchor_any s.ancs _ W (by omega) wd3 (k3.below hb)
 rw [d1, d2, d3] at HR;clear ha k1 k2 k3 wd1 wd2 wd3 hR e1 e2 e3 d1 d2 d3;by_cases g1 : n1 <= 12;rotate_left
 ·have g1' : ¬ (n1 : Int) <= 12 := by omega
  have HRR : Hid (R = false) := by show R = false; rw [HR.out, decide_eq_false g1]; simp
  clear HR g1;go_enter Tryz.func35, Tryz.ntmps35;go_wp2_with fail;go_ret;exact ⟨by rw [HRR.out]; rfl, (Below.refl _ _).alloc (Nat.le_refl _) _⟩
 have g1' : (n1 : Int) <= 12 := by omega
 by_cases g2 : n2 <= 8;rotate_left
 ·have g2' : ¬ (n2 : Int) <= 8 := by omega
  have HRR : Hid (R = false) := by show R = false; rw [HR.out, decide_eq_false g2]; simp
  clear HR g2;go_enter Tryz.func35, Tryz.ntmps35;go_wp2_with fail;go_ret;exact ⟨by rw [HRR.out]; rfl, (Below.refl _ _).alloc (Nat.le_refl _) _⟩
 have g2' : (n2 : Int) <= 8 := by omega
 by_cases g3 : n3 <= 3;rotate_left
 ·have g3' : ¬ (n3 : Int) <= 3 := by omega
  have HRR : Hid (R = false) := by show R = false; rw [HR.out, decide_eq_false g3]; simp
  clear HR g3;go_enter Tryz.func35, Tryz.ntmps35;go_wp2_with fail;go_ret;exact ⟨by rw [HRR.out]; rfl, (Below.refl _ _).alloc (Nat.le_refl _) _⟩
 have g3' : (n3 : Int) <= 3 := by omega
 have HRR : Hid (R = (D1 && (D2 && D3))) := by show R = _; rw [HR.out, decide_eq_true g1, decide_eq_true g2, decide_eq_true g3]; rfl
 clear HR g1 g2 g3;obtain ⟨V, hV⟩ : ∃ V, V = w.alloc (Obj.cells #[zS a1 n1 c1, zS a2 n2 c2, zS a3 n3 c3] 37) := ⟨_, rfl⟩;have G0 : Hid (zW w V /\ Blk V w.heap.size 37 #[zS a1 n1 c1, zS a2 n2 c2, zS a3 n3 c3]) := by rw [hV]; exact ⟨(Below.refl _ _).alloc (Nat.le_refl _) _, Blk.new w _ _⟩
 go_enter Tryz.func35, Tryz.ntmps35;go_wp2_with fail;rw [<- hV];clear hV;refine (Q1.out V G0.1).mono ?_;rintro e V1 ⟨rfl, hb⟩;have G1 := zH (zJ (G0.1.trans (hb.mono G0.1.size)) (G0.2.below hb G0.2.lt));clear hb G0
 cases D1 with
 | false =>
  go_wp2_with fail;go_ret;exact ⟨by rw [HRR.out]; rfl, G1.1⟩
 | true =>
  have x1 := fun j => G1.2.cell j
  go_wp2_with fail;clear x1;refine (Q2.out V1 G1.1).mono ?_;rintro e V2 ⟨rfl, hb⟩;have G2 := zH (zJ (G1.1.trans (hb.mono G1.1.size)) (G1.2.below hb G1.2.lt));clear hb G1
  cases D2 with
  | false =>
   go_wp2_with fail;go_ret;exact ⟨by rw [HRR.out]; rfl, G2.1⟩
  | true =>
   have x1 := fun j => G2.2.cell j
   go_wp2_with fail;clear x1;refine (Q3.out V2 G2.1).mono ?_;rintro e V3 ⟨rfl, hb⟩;have G3 : Hid (zW w V3) := G2.1.trans (hb.mono G2.1.size);clear hb G2;go_wp2_with fail;go_ret;exact ⟨by rw [HRR.out]; rfl, G3.out⟩
end Go.Proofs.YtabfamhaihnccaaGreat
namespace Go.Proofs.YtabfamhaihnccaaGreat
open Go.RowKit
theorem pickV {n : Nat} {P : Nat -> Value -> Prop} (h : ∀ j, j < n -> ∃ y, P j y) : ∃ l : List Value, ∃ hl : l.length = n, ∀ j (hj : j < l.length), P j l[j] := by
 induction n with
 | zero => exact ⟨[], rfl, fun j hj => absurd hj (Nat.not_lt_zero _)⟩
 | succ n ih =>
  obtain ⟨l, hl, hP⟩ := ih fun j hj => h j (by omega)
  obtain ⟨y, hy⟩ := h n (by omega);refine ⟨l ++ [y], by simp [hl], fun j hj => ?_⟩;by_cases e : j < l.length
  ·rw [List.getElem_append_left e]
   exact hP j e
  ·have e2 : j = l.length := by simp at hj; omega
   subst e2;simpa [hl] using hy
theorem ShS.vals {α : Type} {k : Kd α} {w : World} {v : Value} {l : List α} (h : ShS k w v l) : ∃ us : List Value, ∃ hl : us.length = l.length, (∀ j (h1 : j < us.length) (h2 : j < l.length), k.Own w 0 us[j] l[j]) /\ ((v = zZ /\ l = []) ∨ ∃ ad cap, v = zS (some ad) l.length cap /\ ∀ i x, (cellsV us)[i]? = some x -> w.cell? (ad.add i) = some x) := by
 obtain ⟨⟨ao, cap, rfl, hc⟩, hnil⟩ := h
 cases ao with
 | none =>
  have h0 : l = [] := List.eq_nil_of_length_eq_zero (by
   refine Nat.eq_zero_of_not_pos fun hp => ?_
   obtain ⟨_, _, _, h, _⟩ := hc 0 hp
   cases h)
  subst h0;exact ⟨[], rfl, fun j h1 => absurd h1 (Nat.not_lt_zero _), .inl ⟨by rw [hnil _ _ rfl]; rfl, rfl⟩⟩
 | some ad =>
  obtain ⟨us, hl, hP⟩ := pickV (n := l.length) (P := fun j u => ∃ h2 : j < l.length, k.Own w 0 u l[j] /\ u.cells.size = k.K /\ ∀ i x, u.cells[i]? = some x -> w.cell? (ad.add (j * k.K + i)) = some x) (fun j hj => by
   obtain ⟨g, o, u, h1, _, h3, h4, h5⟩ := hc j hj;injection h1 with h1
   refine ⟨u, hj, h3, h4, fun i x hx => ?_⟩;rw [h1, Addr.add_lit, <- Nat.add_assoc];exact h5 i x hx)
  refine ⟨us, hl, fun j h1 h2 => (hP j h1).2.1, .inr ⟨ad, cap, rfl, fun i x hx => ?_⟩⟩;have hsz : ∀ u ∈ us, u.cells.size = k.K := fun u hu => by
   obtain ⟨j, hj, rfl⟩ := List.getElem_of_mem hu;exact (hP j hj).2.2.1
  have hil : i < us.length * k.K := by
   rw [<- cellsV_len hsz];exact (List.getElem?_eq_some_iff.1 hx).1
  have hd : i / k.K < us.length := Nat.div_lt_of_lt_mul (by rw [Nat.mul_comm]; exact hil);have hm : i % k.K < k.K := Nat.mod_lt _ k.pos;have e : i = i / k.K * k.K + i % k.K := by rw [Nat.mul_comm]; exact (Nat.div_add_mod i k.K).symm
  have h2 := cellsV_at hsz (i / k.K) hd (i % k.K) hm;rw [<- e, hx] at h2;have := (hP _ hd).2.2.2 (i % k.K) x h2.symm;rw [<- e] at this;exact this
theorem ones_of {α : Type} {k : Kd α} {w : World} {us : List Value} {l : List α} (hl : us.length = l.length) (he : ∀ j (h1 : j < us.length) (h2 : j < l.length), k.Own w 0 us[j] l[j]) : ∀ x ∈ cellsV us, x.oneCell' = true := fun x hx => by
 obtain ⟨u, hu, hxu⟩ := List.mem_flatMap.1 hx;obtain ⟨j, hj, rfl⟩ := List.getElem_of_mem hu;exact (k.size (he j hj (by omega))).2 x hxu
theorem len_of {α : Type} {k : Kd α} {w : World} {us : List Value} {l : List α} (hl : us.length = l.length) (he : ∀ j (h1 : j < us.length) (h2 : j < l.length), k.Own w 0 us[j] l[j]) : (cellsV us).length = l.length * k.K := by
 rw [cellsV_len (K := k.K) (fun u hu => by
  obtain ⟨j, hj, rfl⟩ := List.getElem_of_mem hu;exact (k.size (he j hj (by omega))).1), hl]
theorem wpList_append_sh {α : Type} (k : Kd α) {w : World} {ops : Array Oper} {rest : List Oper} {o : Oper} {a : Act} {Q : Exit -> Act -> World -> Prop} (hgd : o.guard = none) (p q : Operand) (t : TypeId) (ho : o.op = .call { callee := .builtin .append, args := #[p, q], argTypes := #[t, t] })
  (i0 : TypeInfo) (z : Value) (bytes : Nat) (ht : Tryz.prog.underlying t = some (.slice k.T)) (hi : Tryz.prog.info? k.T = some i0) (hz0 : i0.zero = some z) (hz1 : i0.size = k.K) (hz2 : i0.bytes = bytes) (hzs : z.cells.size = k.K) (hby : bytes <= 1000)
  (base : Nat) (v : Value) (hp : a.eval p = v) (hown : w.ownsRow base k.T k.K v 0 []) (w0 : World) (hb0 : zW w0 w) (u : Value) (l : List α) (hq : a.eval q = u) (hu : ShS k w0 u l) (hl : l.length <= 10000000) (hbase : base <= w.heap.size)
  (h : ∀ v' w' us, us.length = l.length -> (∀ j (h1 : j < us.length) (h2 : j < l.length), k.Own w0 0 us[j] l[j]) -> w'.ownsRow base k.T k.K v' l.length (cellsV us) -> w.grownBy w' v.ownBlock -> wpList Tryz.prog ops Q rest (a.put o.dst v') w') : wpList Tryz.prog ops Q (o :: rest) a w := by
 obtain ⟨us, hul, he, hv⟩ := hu.vals
 rcases hv with ⟨rfl, rfl⟩ | ⟨ad, cap, rfl, hc⟩
 ·cases us with
  | cons x xs => simp at hul
  | nil => exact wpList_append_own_none hgd p q t ho base k.T i0 k.K ht hi v 0 [] hp hown hq (h v w [] rfl (fun j h1 => absurd h1 (Nat.not_lt_zero _)) hown (World.grownBy.refl _ _))
 ·refine wpList_append_own w hgd p q t ho base k.T i0 z k.K bytes ht hi hz0 hz1 hz2 hzs k.pos v 0 [] hp hown ad l.length cap (cellsV us) hq (len_of hul he) (fun i x hx => (hb0.cell (p := ad.add i) (lt_of_cell (hc i x hx))).trans (hc i x hx)) (ones_of hul he) (by unfold maxLen; omega) (by have := Nat.mul_le_mul (show 0 + l.length <= 10000000 by omega) hby; omega) hbase (fun v' w' h1 h2 _ => h v' w' us hul he (by rw [Nat.zero_add] at h1; exact h1) h2)
theorem withCrl_any (l : List Cl) (v u : Value) (c : Cl) (w0 w : World) (hb0 : zW w0 w) (hl : l.length <= 2000000) (ha : ShS crlKd w0 v l) (hu : crlKd.Own w0 0 u c) :
  Calls Tryz.prog 114 #[v, u] w fun e w' => ∃ v', e = .returned v' /\ (∀ W, zW w0 W -> (∀ b, w.heap.size <= b -> b < w'.heap.size -> W.heap[b]? = w'.heap[b]?) -> ShS crlKd W v' (l ++ [c])) /\ zW w w' := by
 obtain ⟨i2, hi2, hz02, hz12, hz22⟩ := info_parts infoCrl;obtain ⟨p1, q1, hue⟩ := ClAt.shape (OwnL.at hu);subst hue;have HU : Hid (crlKd.Own w0 0 (.agg (zCl c (zS p1 c.revs.length q1))) c /\ ShS crlKd w0 v l /\ zW w0 w) := ⟨hu, ha, hb0⟩;clear hu ha hb0;unfold clV;obtain ⟨W1, hW1⟩ : ∃ W, W = (w.alloc (Obj.cells (zCl c (zS p1 c.revs.length q1)) 65)).alloc (Obj.cells #[] 65) := ⟨_, rfl⟩;have e0 : (w.alloc (Obj.cells (zCl c (zS p1 c.revs.length q1)) 65)).heap.size = w.heap.size + 1 := Array.size_push _;have H1 : Hid (zW w W1 /\ Blk W1 w.heap.size 65 (zCl c (zS p1 c.revs.length q1)) /\ W1.ownsRow (w.heap.size + 1) crlKd.T crlKd.K (zS (some ⟨w.heap.size + 1, 0, none⟩) 0 0) 0 []) := by
  rw [hW1];refine ⟨((Below.refl _ _).alloc (Nat.le_refl _) _).alloc (by rw [e0]; omega) _, (Blk.new w _ _).alloc _, ?_⟩;have h := World.ownsRow_made (w.alloc (Obj.cells (zCl c (zS p1 c.revs.length q1)) 65)) (base := w.heap.size + 1) (e := 65) (size := 7) #[] 0 (by rw [e0]; exact Nat.le_refl _) (Nat.zero_le _) (by simp);rw [e0] at h;exact h
 go_enter Tryz.func114, Tryz.ntmps114;go_upto_region 2 with (at_builtin; rw [<- hW1]; refine wpList_append_sh crlKd rfl _ _ 34 rfl i2 (.agg #[zG ⟨#[]⟩, zI 0, zI 0, zI 0, zI 0, zZ, zG ⟨#[]⟩]) 88 Tryz.underlying34 hi2 hz02 hz12 hz22 rfl (by decide) (w.heap.size + 1) (zS (some ⟨w.heap.size + 1, 0, none⟩) 0 0) rfl H1.2.2 w0 (HU.2.2.trans (H1.1.mono HU.2.2.size)) v l rfl HU.2.1 (by omega) H1.2.1.lt ?_; intro v2 w2 us hul he2 ho2 hg2)
 have H2 : Hid (zW w w2 /\ Blk w2 w.heap.size 65 (zCl c (zS p1 c.revs.length q1)) /\ w2.ownsRow (w.heap.size + 1) crlKd.T crlKd.K v2 l.length (cellsV us) /\ (∀ j (h1 : j < us.length) (h2 : j < l.length), crlKd.Own w0 0 us[j] l[j]) /\ us.length = l.length) :=
  ⟨H1.1.grown hg2 H1.1.size (fun q e => by simp [Value.ownBlock] at e; omega), (hg2.block _ H1.2.1.lt (fun e => by simp [Value.ownBlock] at e)).trans H1.2.1, ho2, he2, hul⟩
 clear hg2 ho2 he2 hul H1 hW1 e0;have hrg := H2.2.1.range;obtain ⟨W3, hW3⟩ : ∃ W, W = w2.alloc (Obj.cells (zCl c (zS p1 c.revs.length q1)) 65) := ⟨_, rfl⟩;have H3 : Hid (zW w W3 /\ W3.ownsRow (w.heap.size + 1) crlKd.T crlKd.K v2 l.length (cellsV us) /\ Blk W3 w2.heap.size 65 (zCl c (zS p1 c.revs.length q1)) /\ w.heap.size + 1 <= W3.heap.size) := by
  have hb : zW w2 W3 := by rw [hW3]; exact (Below.refl _ _).alloc (Nat.le_refl _) _
  exact ⟨H2.1.trans (hb.mono H2.1.size), own_kept H2.2.2.1 hb, by rw [hW3]; exact Blk.new w2 _ _, Nat.le_trans H2.2.1.lt hb.size⟩
 go_wp2_with (first | (refine wpList_load_mid rfl 65 _ rfl w.heap.size 0 rfl _ _ hrg Tryz.underlying65 rfl (by kernel_rfl) ?_) | (at_builtin; rw [<- hW3]; refine wpList_append_own _ rfl _ _ 34 rfl (w.heap.size + 1) crlKd.T i2 (.agg #[zG ⟨#[]⟩, zI 0, zI 0, zI 0, zI 0, zZ, zG ⟨#[]⟩]) crlKd.K 88 Tryz.underlying34 hi2 hz02 hz12 hz22 rfl crlKd.pos v2 l.length (cellsV us) rfl H3.2.1 ⟨w2.heap.size, 0, none⟩ 1 1 (Value.agg (zCl c (zS p1 c.revs.length q1))).cells.toList rfl rfl (fun i x hx => by rw [Addr.add_lit, Nat.zero_add]; have h := H3.2.2.1.range i x hx; rw [Nat.zero_add] at h; exact h) (crlKd.size HU.1).2 (by unfold maxLen; omega) (by omega) H3.2.2.2 ?_; intro v4 w4 ho4 hg4 _));have HE : Hid ((∀ W, zW w0 W -> (∀ b, w.heap.size <= b -> b < w4.heap.size -> W.heap[b]? = w4.heap[b]?) -> ShS crlKd W v4 (l ++ [c])) /\ zW w w4) := by
  have hb4 : zW w w4 := H3.1.grown hg4 H3.1.size (fun q e => by have := (H3.2.1.lt q e).1; omega);refine ⟨fun W hW hsame => row_of (k := crlKd) (B := w.heap.size + 1) (vs := us ++ [.agg (zCl c (zS p1 c.revs.length q1))]) (by simp [H2.2.2.2.2]) ?_ (fun i h1 h2 => ?_), hb4⟩
  ·rw [cellsV_append, List.length_append]
   show W.ownsRow _ _ _ _ _ (cellsV us ++ ((Value.agg (zCl c (zS p1 c.revs.length q1))).cells.toList ++ []));rw [List.append_nil];exact row_same ho4 (fun g hg => hsame g (by have := (ho4.lt g hg).1; omega) (ho4.lt g hg).2)
  ·have hx : ∀ (u : Value) (y : Cl), crlKd.Own w0 0 u y -> crlKd.Own W 0 u y := fun u y h => crlKd.same h (fun b hb => hW.block b (crlKd.lt h b hb).2)
   by_cases hi : i < us.length
   ·have e1 : (us ++ [Value.agg (zCl c (zS p1 c.revs.length q1))])[i] = us[i] := List.getElem_append_left hi
    have e2 : (l ++ [c])[i] = l[i]'(by rw [<- H2.2.2.2.2]; exact hi) := List.getElem_append_left (by rw [<- H2.2.2.2.2]; exact hi);rw [e1, e2];exact hx _ _ (H2.2.2.2.1 i hi _)
   ·have hie : i = us.length := by simp at h1; omega
    subst hie;have e1 : (us ++ [Value.agg (zCl c (zS p1 c.revs.length q1))])[us.length] = .agg (zCl c (zS p1 c.revs.length q1)) := by simp
    have e2 : (l ++ [c])[us.length]'h2 = c := by simp [H2.2.2.2.2]
    rw [e1, e2];exact hx _ _ HU.1
 clear ho4 hg4 H3 hW3 H2 hrg;go_wp2_with fail;go_ret;exact ⟨_, rfl, HE.1, HE.2⟩
end Go.Proofs.YtabfamhaihnccaaGreat
