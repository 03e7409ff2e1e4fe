/-
  Texts of the proof.
-/
import Derived.Deep.AppendLies
import Derived.Test.YtabfamhaihnccaaGreatLC19
import Derived.Test.YtabfamhaihnccaaGreatLC25
set_option linter.unusedVariables false
set_option linter.unusedSimpArgs false
set_option maxRecDepth 100000
set_option maxHeartbeats 25600000
namespace Go.Proofs.YtabfamhaihnccaaGreat
open Go.RowKit Der
theorem sz_lst {n : Nat} (ks : List (It n)) : szI (n + 1) (lstJ ks) = ks.length + (ks.map (szI n)).sum := by
 show 0 + ks.length + (ks.map (szI n)).sum = _;omega
theorem sz_int {n : Nat} (x : Int) : szI (n + 1) (intI x) <= 5 := by
 have h := intT_ok (numN_le x);unfold plainOk at h;rw [if_neg (by decide), if_pos rfl] at h;simp only [Bool.and_eq_true, decide_eq_true_eq] at h;show (intT (numN x)).length + 0 + 0 <= 5;omega
theorem sz_txt {n : Nat} (s : ByteArray) : szI (n + 1) (txtJ s) = s.size := rfl
theorem sz_ints {n : Nat} : ∀ l : List Int, ((l.map (intI (n := n))).map (szI (n + 1))).sum <= 5 * l.length
 | [] => Nat.le_refl _
 | x :: l => by
  have h1 := sz_ints (n := n) l;have h2 := sz_int (n := n) x;simp only [List.map_cons, List.sum_cons, List.length_cons];omega
theorem sz_txts {n : Nat} : ∀ l : List ByteArray, l.length + ((l.map (txtJ (n := n))).map (szI (n + 1))).sum = totT l
 | [] => rfl
 | x :: l => by
  have h1 := sz_txts (n := n) l;have h2 := sz_txt (n := n) x;simp only [List.map_cons, List.sum_cons, List.length_cons, totT];omega
end Go.Proofs.YtabfamhaihnccaaGreat
namespace Go.Proofs.YtabfamhaihnccaaGreat
open Go.RowKit Der
theorem sz_body {c : Ct} (h : wtC c <= 1048576) : szI 3 (bodyC c) <= 8000000 := by
 unfold wtC at h;have a0 : szI 2 (intI c.serial) <= 5 := sz_int c.serial;have a6 : szI 2 (intI c.pathLen) <= 5 := sz_int c.pathLen;have a7 : szI 2 (intI c.usage) <= 5 := sz_int c.usage;have f : szI 1 (intI c.frm) <= 5 := sz_int c.frm;have u : szI 1 (intI c.upto) <= 5 := sz_int c.upto;have p : ((c.pol.map intI).map (szI 1)).sum <= 5 * c.pol.length := sz_ints (n := 0) c.pol;have e : c.per.length + ((c.per.map txtJ).map (szI 1)).sum = totT c.per := sz_txts (n := 0) c.per;have d : c.den.length + ((c.den.map txtJ).map (szI 1)).sum = totT c.den := sz_txts (n := 0) c.den;have t1 : szI 2 (txtJ c.issuer) = c.issuer.size := rfl;have t3 : szI 2 (txtJ c.subject) = c.subject.size := rfl;have t4 : szI 2 (bytJ c.key) = c.key.size := rfl;have t5 : szI 2 (flagJ c.ca) = 1 := rfl;unfold bodyC;rw [sz_lst];simp only [List.map_cons, List.map_nil, List.sum_cons, List.sum_nil, List.length_cons, List.length_nil];rw [sz_lst, sz_lst, sz_lst, sz_lst];simp only [List.map_cons, List.map_nil, List.sum_cons, List.sum_nil, List.length_cons, List.length_nil, List.length_map];omega
theorem sz_cert {c : Ct} (h : wtC c <= 1048576) : szI 4 (certI c) <= 20000000 := by
 have hb := sz_body h;have hs := (wt_parts h).2.2.2.2.2.2.1;have t : szI 3 (bytJ c.sig) = c.sig.size := rfl;unfold certI;rw [sz_lst];simp only [List.map_cons, List.map_nil, List.sum_cons, List.sum_nil, List.length_cons, List.length_nil];omega
def ctxt (c : Ct) : Option (List UInt8) := if certOk c = true then writeI 4 (certI c) else none
theorem to_body {w w' : World} {c : Ct} {e : Ending} (h : ToIt w 2 (bodyC c) e w') : ∃ (a : Option Addr) (l cx : Nat) (fp : List Nat), e = .returned (.agg #[zI 48, zG ⟨#[]⟩, zS a l cx]) /\ OwnK w' w.heap.size 2 (zS a l cx) (It.kids (bodyC c)) fp /\ zW w w' := by
 obtain ⟨k, fp, rfl, ho, hb⟩ := h;obtain ⟨a, cx, rfl⟩ := ho.shape;exact ⟨a, _, cx, fp, rfl, ho, hb⟩
theorem cert_row {W W' : World} {b : Nat} {c : Ct} {k : Value} {fp : List Nat} (h : OwnK W b 2 k (It.kids (bodyC c)) fp) (hb : b <= W.heap.size)
  (hW : W' = W.alloc (.cells #[zI 48, zG ⟨#[]⟩, k, zI 4, zG c.sig, zZ] 178)) : ItAt W' 4 (.agg #[zI 48, zG ⟨#[]⟩, zS (some ⟨W.heap.size, 0, none⟩) 2 2]) (certI c) := by
 have R : RowsK W b 2 (It.kids (certI c)) [k, zZ] [fp, []] := ⟨h, own_none W b 2, trivial⟩;obtain ⟨fq, hq⟩ := (R.grow (W' := W') (cap := 2) hb (by have := h.nodup; simpa using this) (by show 2 <= 1000; decide) rfl (by rw [hW]; rfl)).own;exact ⟨_, rfl, hq.at⟩
def KS (w W : World) (a : Array Value) : Prop := zW w W /\ Blk W w.heap.size 52 a
theorem KS.below {w W W' : World} {a : Array Value} (h : KS w W a) (hb : zW W W') : KS w W' a := ⟨h.1.trans (hb.mono h.1.size), h.2.below hb h.2.lt⟩
theorem KS.start {w W : World} {a : Array Value} (hW : W = w.alloc (Obj.cells a 52)) : KS w W a := by rw [hW]; exact ⟨(Below.refl _ _).alloc (Nat.le_refl _) _, Blk.new w _ _⟩
theorem specCertText_any (c : Ct) (v : Value) (w : World) (hz : wtC c <= 1048576) (hw : WdC c) (ha : CtAt w v c) : Calls Tryz.prog 74 #[v] w fun e w' => e = .returned (.tuple #[zG ⟨((ctxt c).getD []).toArray⟩, .bool (ctxt c).isSome]) /\ zW w w' := by
 obtain ⟨pa, pc, ea, ec, da, dc, hv⟩ := CtAt.shape ha;subst hv;have HC : Hid (CtAt w _ c) := ha;clear ha;unfold ctV at HC |-;obtain ⟨T, hT⟩ : ∃ T : ByteArray, (⟨((ctxt c).getD []).toArray⟩ : ByteArray) = T := ⟨_, rfl⟩;obtain ⟨okT, hok⟩ := zE ((ctxt c).isSome);rw [hT, hok];have HT : Hid ((⟨((ctxt c).getD []).toArray⟩ : ByteArray) = T /\ (ctxt c).isSome = okT) := ⟨hT, hok⟩;have HZ : Hid (wtC c <= 1048576 /\ WdC c) := ⟨hz, hw⟩;clear hT hz hw hok;obtain ⟨B, hB⟩ := zE (certOk c);have HB : Hid (certOk c = B) := hB;go_enter Tryz.func74, Tryz.ntmps74;go_wp2_with fail;obtain ⟨W1, hW1⟩ : ∃ W, W = w.alloc (Obj.cells (zCt c (zS pa c.pol.length pc) (zS ea c.per.length ec) (zS da c.den.length dc)) 52) := ⟨_, rfl⟩;rw [<- hW1];have H1 : Hid (KS w W1 (zCt c (zS pa c.pol.length pc) (zS ea c.per.length ec) (zS da c.den.length dc))) := KS.start hW1;clear hW1;have E1 := specCertOk_any c _ W1 (Nat.le_trans HZ.1 (by decide)) (HC.below H1.1);rw [hB] at E1;clear hB;refine E1.mono ?_;rintro e w2 ⟨rfl, hb2⟩;have H2 : Hid (KS w w2 (zCt c (zS pa c.pol.length pc) (zS ea c.per.length ec) (zS da c.den.length dc))) := H1.below hb2;clear E1 H1 hb2
 cases B with
 | false =>
  have HN : Hid (T = ⟨#[]⟩ /\ okT = false) := by
   have e : ctxt c = none := by unfold ctxt; rw [HB.out]; rfl
   rw [<- HT.1, <- HT.2, e];exact ⟨rfl, rfl⟩
  go_wp2_with fail
  go_ret2
  exact ⟨by rw [HN.1, HN.2]; rfl, H2.1⟩
 | true =>
  have HE : Hid (ctxt c = writeI 4 (certI c)) := by show ctxt c = _; unfold ctxt; rw [HB.out]; rfl
  go_wp2_with fail;refine wp_region_held_drew (S := fun W => KS w W (zCt c (zS pa c.pol.length pc) (zS ea c.per.length ec) (zS da c.den.length dc))) (by kernel_rfl) (KS.below H2.out ((Below.refl _ _).drew)) (fun hHeld => ?_);clear H2;generalize w2.drew = Wd at hHeld |-;refine zT 0 7 ?_ rfl (by rfl) ?_ hHeld ?_;rotate_left
  ·intro W hSw
   obtain ⟨c0, c1, c2, c3, c4, c5, c6, c7, c8, c9, c10, c11, c12⟩ := zc13 hSw.2;go_simp
   try with_reducible rfl
  refine zQ 2 9 rfl hHeld ?_;refine zT 3 10 ?_ rfl (by rfl) ?_ hHeld ?_;rotate_left
  ·intro W hSw
   have c12 : W.cell? ⟨w.heap.size, 12, none⟩ = some (zG c.sig) := hSw.2.cell 12;go_simp
   try with_reducible rfl
  refine zR 1 8 rfl fun K hK => ?_
  go_simp;refine (specBodyItem_any c _ _ (Nat.le_trans HZ.1 (by decide)) HZ.2 (HC.below hHeld.1)).mono ?_;intro e v1 hto;obtain ⟨a1, l1, x1, f1, rfl, ho1, hv⟩ := to_body hto;clear hto;have hH := KS.below hHeld hv;have HO : Hid (OwnK v1 w.heap.size 2 (zS a1 l1 x1) (It.kids (bodyC c)) f1) := OwnK.base hHeld.1.size ho1;clear ho1;go_wp2_with fail;refine hK.out _ _ hH (fun hHeld => ?_);clear hK K hH hv;refine zR 4 11 rfl fun K hK => ?_
  go_simp;refine (bytes_any c.sig _).mono ?_;rintro e v2 ⟨rfl, hv⟩;have hH := KS.below hHeld hv;have HO2 : Hid (OwnK v2 w.heap.size 2 (zS a1 l1 x1) (It.kids (bodyC c)) f1) := HO.below hv (fun b hm => (OwnK.lt HO.out b hm).2);clear HO;go_wp2_with fail;refine hK.out _ _ hH (fun hHeld => ?_);clear hK K hH hv;refine zR 5 12 rfl fun K hK => ?_
  obtain ⟨W3, hW3⟩ : ∃ W, W = v2.alloc (Obj.cells #[zI 48, zG ⟨#[]⟩, zS a1 l1 x1, zI 4, zG c.sig, zZ] 178) := ⟨_, rfl⟩;have HI : Hid (ItAt W3 4 (.agg #[zI 48, zG ⟨#[]⟩, zS (some ⟨v2.heap.size, 0, none⟩) 2 2]) (certI c)) := cert_row HO2.out hHeld.1.size hW3;have hH : KS w W3 (zCt c (zS pa c.pol.length pc) (zS ea c.per.length ec) (zS da c.den.length dc)) := KS.below hHeld (by rw [hW3]; exact (Below.refl _ _).alloc (Nat.le_refl _) _);go_simp;rw [<- hW3];refine hK.out _ _ hH (fun hHeld => ?_);clear hK K hH hW3 HO2;refine zQ 6 13 rfl hHeld ?_;refine zR 7 14 rfl fun K hK => ?_
  have E7 := specItemText_any 4 (certI c) _ W3 HI.out (sz_cert HZ.1);rw [<- HE.out, HT.1, HT.2] at E7;go_simp;refine E7.mono ?_;rintro e v4 ⟨rfl, hv⟩;have hH := KS.below hHeld hv;clear E7;go_wp2_with fail;refine hK.out _ _ hH (fun hHeld => ?_);clear hK K hH hv;refine zQ 8 15 rfl hHeld ?_;refine zQ 9 16 rfl hHeld ?_;refine zQ 10 2 rfl hHeld ?_;refine zQ 11 3 rfl hHeld ?_;refine wpAnyH_done (by kernel_rfl) ?_ _;have HEND : Hid (zW w _) := hHeld.1;clear hHeld;go_wp2_with fail
  go_ret2
  exact ⟨rfl, HEND.out⟩
theorem implCertText_any (c : Ct) (v : Value) (w : World) (hz : wtC c <= 1048576) (hw : WdC c) (ha : CtAt w v c) : Calls Tryz.prog 85 #[v] w fun e w' => e = .returned (.tuple #[zG ⟨((ctxt c).getD []).toArray⟩, .bool (ctxt c).isSome]) /\ zW w w' := by
 obtain ⟨pa, pc, ea, ec, da, dc, hv⟩ := CtAt.shape ha;subst hv;have HC : Hid (CtAt w _ c) := ha;clear ha;unfold ctV at HC |-;obtain ⟨T, hT⟩ : ∃ T : ByteArray, (⟨((ctxt c).getD []).toArray⟩ : ByteArray) = T := ⟨_, rfl⟩;obtain ⟨okT, hok⟩ := zE ((ctxt c).isSome);rw [hT, hok];have HT : Hid ((⟨((ctxt c).getD []).toArray⟩ : ByteArray) = T /\ (ctxt c).isSome = okT) := ⟨hT, hok⟩;have HZ : Hid (wtC c <= 1048576 /\ WdC c) := ⟨hz, hw⟩;clear hT hz hw hok;obtain ⟨B, hB⟩ := zE (certOk c);have HB : Hid (certOk c = B) := hB;go_enter Tryz.func85, Tryz.ntmps85;go_wp2_with fail;obtain ⟨W1, hW1⟩ : ∃ W, W = w.alloc (Obj.cells (zCt c (zS pa c.pol.length pc) (zS ea c.per.length ec) (zS da c.den.length dc)) 52) := ⟨_, rfl⟩;rw [<- hW1];have H1 : Hid (KS w W1 (zCt c (zS pa c.pol.length pc) (zS ea c.per.length ec) (zS da c.den.length dc))) := KS.start hW1;clear hW1;have E1 := implCertOk_any c _ W1 (Nat.le_trans HZ.1 (by decide)) (HC.below H1.1);rw [hB] at E1;clear hB;refine E1.mono ?_;rintro e w2 ⟨rfl, hb2⟩;have H2 : Hid (KS w w2 (zCt c (zS pa c.pol.length pc) (zS ea c.per.length ec) (zS da c.den.length dc))) := H1.below hb2;clear E1 H1 hb2
 cases B with
 | false =>
  have HN : Hid (T = ⟨#[]⟩ /\ okT = false) := by
   have e : ctxt c = none := by unfold ctxt; rw [HB.out]; rfl
   rw [<- HT.1, <- HT.2, e];exact ⟨rfl, rfl⟩
  go_wp2_with fail
  go_ret2
  exact ⟨by rw [HN.1, HN.2]; rfl, H2.1⟩
 | true =>
  have HE : Hid (ctxt c = writeI 4 (certI c)) := by show ctxt c = _; unfold ctxt; rw [HB.out]; rfl
  go_wp2_with fail;refine wp_region_held_drew (S := fun W => KS w W (zCt c (zS pa c.pol.length pc) (zS ea c.per.length ec) (zS da c.den.length dc))) (by kernel_rfl) (KS.below H2.out ((Below.refl _ _).drew)) (fun hHeld => ?_);clear H2;generalize w2.drew = Wd at hHeld |-;refine zT 0 7 ?_ rfl (by rfl) ?_ hHeld ?_;rotate_left
  ·intro W hSw
   obtain ⟨c0, c1, c2, c3, c4, c5, c6, c7, c8, c9, c10, c11, c12⟩ := zc13 hSw.2;go_simp
   try with_reducible rfl
  refine zQ 2 9 rfl hHeld ?_;refine zT 3 10 ?_ rfl (by rfl) ?_ hHeld ?_;rotate_left
  ·intro W hSw
   have c12 : W.cell? ⟨w.heap.size, 12, none⟩ = some (zG c.sig) := hSw.2.cell 12;go_simp
   try with_reducible rfl
  refine zR 1 8 rfl fun K hK => ?_
  go_simp;refine (implBodyItem_any c _ _ (Nat.le_trans HZ.1 (by decide)) HZ.2 (HC.below hHeld.1)).mono ?_;intro e v1 hto;obtain ⟨a1, l1, x1, f1, rfl, ho1, hv⟩ := to_body hto;clear hto;have hH := KS.below hHeld hv;have HO : Hid (OwnK v1 w.heap.size 2 (zS a1 l1 x1) (It.kids (bodyC c)) f1) := OwnK.base hHeld.1.size ho1;clear ho1;go_wp2_with fail;refine hK.out _ _ hH (fun hHeld => ?_);clear hK K hH hv;refine zR 4 11 rfl fun K hK => ?_
  go_simp;refine (signedItem_any 2 (bodyC c) 48 ⟨#[]⟩ c.sig (zS a1 l1 x1) f1 w.heap.size _ rfl rfl ⟨_, _, _, rfl⟩ (by have := (wt_parts HZ.1).2.2.2.2.2.2.1; omega) HO.out hHeld.1.size).mono ?_;rintro e v2 ⟨q2, f2, rfl, ho2, hv⟩;have hH := KS.below hHeld hv;have HI : Hid (ItAt v2 4 (.agg #[zI 48, zG ⟨#[]⟩, zS (some ⟨q2, 0, none⟩) 2 2]) (certI c)) := ⟨_, rfl, ho2.at⟩;clear HO ho2;go_wp2_with fail;refine hK.out _ _ hH (fun hHeld => ?_);clear hK K hH hv;refine zR 5 12 rfl fun K hK => ?_
  have E7 := implItemText_any 4 (certI c) _ v2 HI.out (Nat.le_trans (sz_cert HZ.1) (by decide));rw [<- HE.out, HT.1, HT.2] at E7;go_simp;refine E7.mono ?_;rintro e v4 ⟨rfl, hv⟩;have hH := KS.below hHeld hv;clear E7;go_wp2_with fail;refine hK.out _ _ hH (fun hHeld => ?_);clear hK K hH hv;refine zQ 6 13 rfl hHeld ?_;refine zQ 7 14 rfl hHeld ?_;refine zQ 8 2 rfl hHeld ?_;refine zQ 9 3 rfl hHeld ?_;refine wpAnyH_done (by kernel_rfl) ?_ _;have HEND : Hid (zW w _) := hHeld.1;clear hHeld;go_wp2_with fail
  go_ret2
  exact ⟨rfl, HEND.out⟩
end Go.Proofs.YtabfamhaihnccaaGreat
namespace Go.Proofs.YtabfamhaihnccaaGreat
open Go.RowKit
def tdV (c : Cl) (p : Value) : Value := .agg #[zG c.issuer, zI c.num, zI c.ths, zI c.nxt, zI c.bas, p]
def hdV (c : Cl) : Value := .agg #[zG c.issuer, zI c.num, zI c.ths, zI c.nxt, zI c.bas]
theorem tidingsOf_any (c : Cl) (p : Value) (w : World) (hp : ∃ pa lp pc, p = zS pa lp pc) : Calls Tryz.prog 134 #[clV c p] w fun e w' => e = .returned (tdV c p) /\ zW w w' := by
 obtain ⟨pa, lp, pc, rfl⟩ := hp;unfold clV;have e0 := size_alloc w (Obj.cells (zCl c (zS pa lp pc)) 65);go_enter Tryz.func134, Tryz.ntmps134;go_wp2_with fail;refine bodyPost_ret (v := tdV c (zS pa lp pc)) (by simp [results, Tryz.results134, go_sem, tdV]) rfl ⟨rfl, ?_⟩;exact ((Below.refl _ _).alloc (Nat.le_refl _) _).alloc (by omega) _
theorem allows_any (c : Cl) (r : Int) (w : World) : Calls Tryz.prog 209 #[hdV c, zI r] w fun e w' => e = .returned (.bool (inB r 1 10 && !(decide (r = 8) && decide (c.bas = 0)))) /\ zW w w' := by
 obtain ⟨Q, hQ⟩ := zE ((inB r 1 10 && !(decide (r = 8) && decide (c.bas = 0))));rw [hQ];unfold hdV;by_cases h8 : r = 8
 ·subst h8
  by_cases hb : c.bas = 0
  ·have HF : Hid (Q = false) := by show Q = _; rw [<- hQ, decide_eq_true hb]; rfl
   clear hQ;go_enter Tryz.func209, Tryz.ntmps209;go_wp2_with fail;go_ret;exact ⟨by rw [HF.out]; simp [hb], (Below.refl _ _).alloc (Nat.le_refl _) _⟩
  ·have HF : Hid (Q = true) := by show Q = _; rw [<- hQ, decide_eq_false hb]; rfl
   clear hQ;go_enter Tryz.func209, Tryz.ntmps209;go_wp2_with fail;go_ret;exact ⟨by rw [HF.out]; simp [hb], (Below.refl _ _).alloc (Nat.le_refl _) _⟩
 ·have hq : (r == 8) = false := beq_eq_false_iff_ne.2 h8
  by_cases h1 : 1 <= r
  ·by_cases h2 : r <= 10
   ·have HF : Hid (Q = true) := by show Q = _; rw [<- hQ, decide_eq_false h8]; simp [inB, h1, h2]
    clear hQ;go_enter Tryz.func209, Tryz.ntmps209;go_wp2_with fail;go_ret;exact ⟨by rw [HF.out]; simp [*], (Below.refl _ _).alloc (Nat.le_refl _) _⟩
   ·have HF : Hid (Q = false) := by show Q = _; rw [<- hQ, show inB r 1 10 = false from decide_eq_false (fun q => h2 q.2)]; rfl
    clear hQ;go_enter Tryz.func209, Tryz.ntmps209;go_wp2_with fail;go_ret;exact ⟨by rw [HF.out]; simp [*], (Below.refl _ _).alloc (Nat.le_refl _) _⟩
  ·have HF : Hid (Q = false) := by show Q = _; rw [<- hQ, show inB r 1 10 = false from decide_eq_false (fun q => h1 q.1)]; rfl
   clear hQ;go_enter Tryz.func209, Tryz.ntmps209;go_wp2_with fail;go_ret;exact ⟨by rw [HF.out]; simp [*], (Below.refl _ _).alloc (Nat.le_refl _) _⟩
theorem headRight_any (c : Cl) (w : World) (hz : c.issuer.size <= 1000000000) : Calls Tryz.prog 194 #[hdV c] w fun e w' => e = .returned (.bool (headOk c)) /\ zW w w' := by
 obtain ⟨NM, hNM⟩ := zE (c.num - 1);obtain ⟨B1, hB1⟩ := zE (nameOk c.issuer);have E1 : Hid (∀ W, Calls Tryz.prog 136 #[zG c.issuer] W fun e w' => e = .returned (.bool B1) /\ zW W w') := fun W => by rw [<- hB1]; exact implName_any c.issuer W (by omega)
 obtain ⟨B2, hB2⟩ := zE (inB c.bas 0 NM);have E2 : Hid (∀ W, Calls Tryz.prog 37 #[zI NM, zI c.bas] W fun e w' => e = .returned (.bool B2) /\ zW W w') := fun W => by rw [<- hB2]; exact upTo_any _ _ W
 obtain ⟨B3, hB3⟩ := zE (inB c.ths 0 9999);have E3 : Hid (∀ W, Calls Tryz.prog 37 #[zI 9999, zI c.ths] W fun e w' => e = .returned (.bool B3) /\ zW W w') := fun W => by rw [<- hB3]; exact upTo_any _ _ W
 obtain ⟨B4, hB4⟩ := zE (inB c.nxt 0 9999);have E4 : Hid (∀ W, Calls Tryz.prog 37 #[zI 9999, zI c.nxt] W fun e w' => e = .returned (.bool B4) /\ zW W w') := fun W => by rw [<- hB4]; exact upTo_any _ _ W
 have HC : Hid (headOk c = (B1 && (inB c.num 1 9999 && (B2 && (B3 && B4))))) := by show headOk c = _; unfold headOk; rw [hNM, hB1, hB2, hB3, hB4]
 have HWN : Hid (1 <= c.num -> c.num <= 9999 -> IntKind.i64.wrap (c.num - 1) = NM) := fun h1 h2 => by rw [IntKind.wrap_i64]; omega
 clear hB1 hB2 hB3 hB4 hNM;unfold hdV;go_enter Tryz.func194, Tryz.ntmps194;go_wp2_with fail;obtain ⟨V, hV⟩ : ∃ V, V = w.alloc (Obj.cells #[zG c.issuer, zI c.num, zI c.ths, zI c.nxt, zI c.bas] 188) := ⟨_, rfl⟩;rw [<- hV];have G : Hid (zW w V /\ Blk V w.heap.size 188 #[zG c.issuer, zI c.num, zI c.ths, zI c.nxt, zI c.bas]) := by rw [hV]; exact ⟨(Below.refl _ _).alloc (Nat.le_refl _) _, Blk.new w _ _⟩
 clear hV;refine (E1.out V).mono ?_;rintro e V1 ⟨rfl, hb⟩;have G1 := zH (zJ (G.1.trans (hb.mono G.1.size)) (G.2.below hb G.2.lt));clear hb G;have c0 := fun j => G1.2.cell j
 cases B1 with
 | false =>
  go_wp2_with fail;go_ret;exact ⟨by rw [HC.out]; simp, G1.1⟩
 | true =>
  by_cases n1 : 1 <= c.num;rotate_left
  ·have HN : Hid (inB c.num 1 9999 = false) := decide_eq_false (fun q => n1 q.1)
   go_wp2_with fail;go_ret;exact ⟨by rw [HC.out, HN.out]; simp, G1.1⟩
  by_cases n2 : c.num <= 9999;rotate_left
  ·have HN : Hid (inB c.num 1 9999 = false) := decide_eq_false (fun q => n2 q.2)
   go_wp2_with fail;go_ret;exact ⟨by rw [HC.out, HN.out]; simp, G1.1⟩
  have HNY : Hid (inB c.num 1 9999 = true) := decide_eq_true ⟨n1, n2⟩;have wn := HWN.out n1 n2;go_wp2_with fail;clear c0;refine (E2.out V1).mono ?_;rintro e V2 ⟨rfl, hb⟩;have G2 := zH (zJ (G1.1.trans (hb.mono G1.1.size)) (G1.2.below hb G1.2.lt));clear hb G1;have c0 := fun j => G2.2.cell j
  cases B2 with
  | false =>
   go_wp2_with fail;go_ret;exact ⟨by rw [HC.out]; simp, G2.1⟩
  | true =>
   go_wp2_with fail;clear c0;refine (E3.out V2).mono ?_;rintro e V3 ⟨rfl, hb⟩;have G3 := zH (zJ (G2.1.trans (hb.mono G2.1.size)) (G2.2.below hb G2.2.lt));clear hb G2;have c0 := fun j => G3.2.cell j
   cases B3 with
   | false =>
    go_wp2_with fail;go_ret;exact ⟨by rw [HC.out]; simp, G3.1⟩
   | true =>
    go_wp2_with fail;clear c0;refine (E4.out V3).mono ?_;rintro e V4 ⟨rfl, hb⟩;have G4 := zH (zJ (G3.1.trans (hb.mono G3.1.size)) (G3.2.below hb G3.2.lt));clear hb G3;have c0 := fun j => G4.2.cell j
    cases B4 with
    | false =>
     go_wp2_with fail;go_ret;exact ⟨by rw [HC.out]; simp, G4.1⟩
    | true =>
     go_wp2_with fail;go_ret;exact ⟨by rw [HC.out, HNY.out]; rfl, G4.1⟩
end Go.Proofs.YtabfamhaihnccaaGreat
