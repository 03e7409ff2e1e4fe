/-
  Texts of the proof.
-/
import Derived.Test.YtabfamhaihnccaaGreatLC12
import Derived.Test.YtabfamhaihnccaaGreatLC13
set_option linter.unusedVariables false
set_option linter.unusedSimpArgs false
set_option maxRecDepth 100000
set_option maxHeartbeats 25600000
namespace Go.Proofs.YtabfamhaihnccaaGreat
open Go.RowKit
theorem OwnC.same {w w' : World} {base : Nat} {v : Value} {c : Ct} (h : OwnC w base v c) (hs : ∀ g ∈ fpC v, w'.heap[g]? = w.heap[g]?) : OwnC w' base v c := by
 obtain ⟨p, e, d, rfl, h1, h2, h3, h4⟩ := h;exact ⟨p, e, d, rfl, row_same h1 fun g hg => hs g (fpC_mem.2 (.inl hg)), row_same h2 fun g hg => hs g (fpC_mem.2 (.inr (.inl hg))), row_same h3 fun g hg => hs g (fpC_mem.2 (.inr (.inr hg))), h4⟩
theorem rowOne {w : World} {base t n : Nat} {s : Nat} {p : Value} {l : List Value} (h : w.ownsRow base t s p n l) : p.oneCell' = true := by
 rcases h.2 with ⟨rfl, _⟩ | ⟨g, cap, cur, rfl, _⟩ <;> rfl
theorem ap_ne {p e : Value} (h : Ap p e) {g : Nat} (h1 : p.ownBlock = some g) (h2 : e.ownBlock = some g) : False := by
 rcases h with h | h
 ·rw [h] at h1; cases h1
 ·exact h (h1.trans h2.symm)
theorem optNodup (o : Option Nat) : o.toList.Nodup := by cases o <;> simp
def certKd : Kd Ct where
 T := 52
 K := 13
 Own := OwnC
 At := CtAt
 fp := fpC
 pos := by decide
 size := fun h => by
  obtain ⟨p, e, d, rfl, h1, h2, h3, _⟩ := h;refine ⟨rfl, fun x hx => ?_⟩;change x ∈ [_, _, _, _, _, _, _, _, _, _, _, _, _] at hx;simp only [List.mem_cons, List.not_mem_nil, or_false] at hx
  rcases hx with rfl | rfl | rfl | rfl | rfl | rfl | rfl | rfl | rfl | rfl | rfl | rfl | rfl
  all_goals first | rfl | exact rowOne h1 | exact rowOne h2 | exact rowOne h3
 same := OwnC.same
 lt := fpC_lt
 base := OwnC.base
 nodup := fun h => by
  obtain ⟨p, e, d, rfl, h1, h2, h3, h4, h5, h6⟩ := h;show (p.ownBlock.toList ++ (e.ownBlock.toList ++ d.ownBlock.toList)).Nodup;refine nodup_app (optNodup _) (nodup_app (optNodup _) (optNodup _) fun y h7 h8 => ap_ne h6.1 (Option.mem_toList.1 h7) (Option.mem_toList.1 h8)) fun y h7 h8 => ?_
  rcases List.mem_append.1 h8 with h8 | h8
  ·exact ap_ne h4.1 (Option.mem_toList.1 h7) (Option.mem_toList.1 h8)
  ·exact ap_ne h5.1 (Option.mem_toList.1 h7) (Option.mem_toList.1 h8)
 own_at := OwnC.at
 below := CtAt.below
def zeC : Ct := ⟨0, ⟨#[]⟩, ⟨#[]⟩, 0, 0, ⟨#[]⟩, false, 0, 0, [], [], [], ⟨#[]⟩⟩
def zeCV : Value := .agg #[zI 0, zG ⟨#[]⟩, zG ⟨#[]⟩, zI 0, zI 0, zG ⟨#[]⟩, .bool false, zI 0, zI 0, zZ, zZ, zZ, zG ⟨#[]⟩]
theorem own_zeC (w : World) (base : Nat) : OwnC w base zeCV zeC := ⟨zZ, zZ, zZ, rfl, World.ownsRow_nil _ _ _ _, World.ownsRow_nil _ _ _ _, World.ownsRow_nil _ _ _ _, ⟨.inl rfl, .inl rfl⟩, ⟨.inl rfl, .inl rfl⟩, .inl rfl, .inl rfl⟩
theorem infoCert : (Tryz.prog.info? 52).map (fun i => (i.zero, i.size, i.bytes)) = some (some (.agg #[zI 0, zG ⟨#[]⟩, zG ⟨#[]⟩, zI 0, zI 0, zG ⟨#[]⟩, .bool false, zI 0, zI 0, zZ, zZ, zZ, zG ⟨#[]⟩]), 13, 184) := by kernel_rfl
def wtM (l : List Ct) : Nat := l.length + (l.map wtC).sum
theorem wtM_mem : ∀ {l : List Ct} {c : Ct}, c ∈ l -> wtC c <= wtM l
 | c :: l, d, h => by
  rcases List.mem_cons.1 h with rfl | h
  ·unfold wtM; simp; omega
  ·have := wtM_mem h
   unfold wtM at this |-;simp;omega
theorem sumM_take {l : List Nat} {k : Nat} (h : k < l.length) : (l.take (k + 1)).sum = (l.take k).sum + l[k] := by
 rw [List.take_add_one, List.sum_append, List.getElem?_eq_getElem h];simp
theorem sumM_take_le (l : List Nat) (k : Nat) : (l.take k).sum <= l.sum := by
 have h : (l.take k ++ l.drop k).sum = (l.take k).sum + (l.drop k).sum := List.sum_append;rw [List.take_append_drop] at h;omega
def ArgM (B : Nat) (w : World) (v : Value) (l : List Ct) : Prop := RowS 13 B (ArgC B w) w v l
theorem ArgM.below {B : Nat} {w w' : World} {v : Value} {l : List Ct} (h : ArgM B w v l) (hb : Below B w w') {B' : Nat} (hB : B <= B') : ArgM B' w' v l := RowS.below h hb (fun _ _ hP => (hP.below hb).mono hB) hB
theorem fillM_set {l : List Ct} {k : Nat} (hk : k < l.length) : (l.take k ++ List.replicate (l.length - k) zeC).set k l[k] = l.take (k + 1) ++ List.replicate (l.length - (k + 1)) zeC := by
 have e : (l.take k).length = k := by rw [List.length_take]; omega
 rw [List.set_append_right _ _ (by omega), e, Nat.sub_self, show l.length - k = (l.length - (k + 1)) + 1 by omega, List.replicate_succ, List.set_cons_zero, List.take_succ_eq_append_getElem hk, List.append_assoc];rfl
theorem fillM_len {l : List Ct} {k : Nat} (hk : k <= l.length) : (l.take k ++ List.replicate (l.length - k) zeC).length = l.length := by
 rw [List.length_append, List.length_take, List.length_replicate];omega
theorem OwnS.cellsM {w : World} {base g n cap : Nat} {l : List Ct} {fp : List Nat} (h : OwnS certKd w base (zS (some ⟨g, 0, none⟩) n cap) l fp) (hn : n = l.length) {j : Nat} (hj : j < l.length) :
  (∃ u, OwnC w base u l[j] /\ (∀ b ∈ fpC u, b ∈ fp /\ b ≠ g) /\ ∀ i x, u.cells[i]? = some x -> w.cell? ⟨g, j * 13 + i, none⟩ = some x) /\ ∀ i, w.frozen? ⟨g, i, none⟩ = false := by
 subst hn;obtain ⟨vs, hl, hr, he, rfl, hnd⟩ := h;have hsz := OwnS.sizes hl he;refine ⟨⟨vs[j]'(by omega), he j (by omega) hj, fun b hb => ⟨List.mem_append_right _ (mem_flat (by omega) hb), fun e => ?_⟩, fun i x hx => ?_⟩, fun i => World.ownsRow.frozenAt hr i⟩
 ·subst e
  exact (List.nodup_append.1 hnd).2.2 b (by simp [Value.ownBlock]) b (mem_flat (by omega) hb) rfl
 ·have hi : i < 13 := by
   have := (Array.getElem?_eq_some_iff.1 hx).1;rw [hsz _ (List.getElem_mem _)] at this;exact this
  rw [World.ownsRow.cellAt hr _ (by show j * 13 + i < l.length * 13; omega)];exact (cellsV_at hsz j (by omega) i hi).trans hx
theorem ArgC.shape {B : Nat} {w : World} {v : Value} {c : Ct} (h : ArgC B w v c) : ∃ p q e r d s, v = ctV c (zS p c.pol.length q) (zS e c.per.length r) (zS d c.den.length s) := by
 obtain ⟨pa, pc, ea, ec, da, dc, hv, _⟩ := h;exact ⟨pa, pc, ea, ec, da, dc, hv⟩
theorem toCertS_any (v : Value) (l : List Ct) (B : Nat) (w : World) (hl : wtM l <= 1048576) (hB : B <= w.heap.size) (ha : ArgM B w v l) :
  Calls Tryz.prog 79 #[v] w fun e w' => ∃ u fp, e = .returned u /\ OwnS certKd w' w.heap.size u l fp /\ zW w w' := by
 obtain ⟨i0, hi, hz0, hz1, hz2⟩ := info_parts infoCert;obtain ⟨a0, cap, hv⟩ := ha.shape;obtain ⟨len, hlen⟩ := zE (l.length);rw [hlen] at hv;subst hv;have hl20 : len <= 1048576 := by unfold wtM at hl; omega
 have HA : Hid (ArgM B w (zS a0 len cap) l /\ l.length = len /\ wtM l <= 1048576) := ⟨ha, hlen, hl⟩;clear ha hlen hl;go_enter Tryz.func79, Tryz.ntmps79;go_wp2_with (at_make; refine wpList_make_full _ rfl _ _ 33 rfl w.heap.size 52 i0 (.agg #[zI 0, zG ⟨#[]⟩, zG ⟨#[]⟩, zI 0, zI 0, zG ⟨#[]⟩, .bool false, zI 0, zI 0, zZ, zZ, zZ, zG ⟨#[]⟩]) 13 Tryz.underlying33 hi hz0 hz1 .i64 .i64 _ _ len rfl rfl ?m0 ?m1 ?m2 ?m3 ?m4 ?_)
 case m0 => simp
 case m1 => simp
 case m2 => rw [hz2]; omega
 case m3 => unfold maxLen; omega
 case m4 => exact Nat.le_refl _
 intro w1 hown hgrow;have HO : Hid (∃ fp, OwnS certKd w1 w.heap.size (zS (some ⟨w.heap.size, 0, none⟩) len len) (l.take 0 ++ List.replicate (l.length - 0) zeC) fp /\ zW w w1) := by
  refine ⟨[w.heap.size], ?_, (Below.refl _ _).grown hgrow (Nat.le_refl _) (fun j hj => by cases hj)⟩;rw [List.take_zero, List.nil_append, Nat.sub_zero, HA.2.1];exact OwnS.zeros certKd (own_zeC _ _) rfl (by have h2 : (madeCells zeCV.cells (len * 13)).toList = cellsV (List.replicate len zeCV) := made_cellsV zeCV len (by decide); rw [<- h2]; exact hown)
 clear hown hgrow;go_wp2_with fail
 go_loopw [4] (fun iv wr => ∃ k : Nat, k <= len /\ iv = zI k /\ Hid (∃ fp, OwnS certKd wr w.heap.size (zS (some ⟨w.heap.size, 0, none⟩) len len) (l.take k ++ List.replicate (l.length - k) zeC) fp /\ zW w wr)) (fun iv _ => len - (intOf iv).toNat)
 case atStart => exact ⟨0, Nat.zero_le _, rfl, HO.out⟩
 case round =>
  obtain ⟨k, hk, rfl, H⟩ := hrel;clear HO;by_cases hkn : k < len
  ·have hkl : k < l.length := by rw [HA.2.1]; exact hkn
   obtain ⟨b, off, u, hao, hbB, hPu, hus, hcell⟩ := HA.1.get hkl;obtain ⟨ap, aq, ep, eq, dp, dq, hu⟩ := hPu.shape;subst hao;obtain ⟨fp, hO, hBl⟩ := H.out;have HP : Hid (ArgC w.heap.size wr u l[k]) := (hPu.mono hB).below hBl;have hcb := fun i x (hx : u.cells[i]? = some x) => (hBl.cell (p := ⟨b, off + k * 13 + i, none⟩) (by show b < w.heap.size; omega)).trans (hcell i x hx)
   obtain ⟨c, hc⟩ := zE (l[k]);rw [hc] at HP hu;have HR := toCert_any c u w.heap.size wr (by have h1 := wtM_mem (List.getElem_mem hkl); rw [hc] at h1; exact wt_lens (Nat.le_trans h1 HA.2.2)) hBl.size HP.out;subst hu;have u0 : wr.cell? ⟨b, off + k * 13, none⟩ = some (zI c.serial) := hcb 0 _ rfl;have u1 : wr.cell? ⟨b, off + k * 13 + 1, none⟩ = some (zG c.issuer) := hcb 1 _ rfl;have u2 : wr.cell? ⟨b, off + k * 13 + 2, none⟩ = some (zG c.subject) := hcb 2 _ rfl;have u3 : wr.cell? ⟨b, off + k * 13 + 3, none⟩ = some (zI c.frm) := hcb 3 _ rfl;have u4 : wr.cell? ⟨b, off + k * 13 + 4, none⟩ = some (zI c.upto) := hcb 4 _ rfl;have u5 : wr.cell? ⟨b, off + k * 13 + 5, none⟩ = some (zG c.key) := hcb 5 _ rfl;have u6 : wr.cell? ⟨b, off + k * 13 + 6, none⟩ = some (.bool c.ca) := hcb 6 _ rfl;have u7 : wr.cell? ⟨b, off + k * 13 + 7, none⟩ = some (zI c.pathLen) := hcb 7 _ rfl;have u8 : wr.cell? ⟨b, off + k * 13 + 8, none⟩ = some (zI c.usage) := hcb 8 _ rfl;have u9 : wr.cell? ⟨b, off + k * 13 + 9, none⟩ = some (zS ap c.pol.length aq) := hcb 9 _ rfl;have u10 : wr.cell? ⟨b, off + k * 13 + 10, none⟩ = some (zS ep c.per.length eq) := hcb 10 _ rfl;have u11 : wr.cell? ⟨b, off + k * 13 + 11, none⟩ = some (zS dp c.den.length dq) := hcb 11 _ rfl;have u12 : wr.cell? ⟨b, off + k * 13 + 12, none⟩ = some (zG c.sig) := hcb 12 _ rfl;have HN : Hid (∀ (w3 : World) (p e d : Value), zW wr w3 -> OwnC w3 wr.heap.size (ctV c p e d) c -> ∃ fp, OwnS certKd (w3.setCells w.heap.size (k * 13) [zI c.serial, zG c.issuer, zG c.subject, zI c.frm, zI c.upto, zG c.key, .bool c.ca, zI c.pathLen, zI c.usage, p, e, d, zG c.sig]) w.heap.size (zS (some ⟨w.heap.size, 0, none⟩) len len) (l.take (k + 1) ++ List.replicate (l.length - (k + 1)) zeC) fp /\ zW w (w3.setCells w.heap.size (k * 13) [zI c.serial, zG c.issuer, zG c.subject, zI c.frm, zI c.upto, zG c.key, .bool c.ca, zI c.pathLen, zI c.usage, p, e, d, zG c.sig])) := fun w3 p e d hb hop => by
    have h2 := (hO.stays hb).put (j := k) (by rw [fillM_len (Nat.le_of_lt hkl)]; exact HA.2.1.symm) (by rw [fillM_len (Nat.le_of_lt hkl)]; exact hkl) (hop.base hBl.size) (fun y hy hm => by have h3 := fpC_lt hop y hy; have h4 := hO.lt y hm; omega);obtain ⟨fp', h2, _⟩ := h2;rw [<- hc, fillM_set hkl] at h2;rw [<- hc];have e1 : w3.setCells w.heap.size (k * 13) [zI l[k].serial, zG l[k].issuer, zG l[k].subject, zI l[k].frm, zI l[k].upto, zG l[k].key, .bool l[k].ca, zI l[k].pathLen, zI l[k].usage, p, e, d, zG l[k].sig] = putCells w3 w.heap.size (k * 13) (ctV l[k] p e d).cells.toList := (putCells_set _ _ _ _).symm;rw [e1];refine ⟨fp', h2, ?_⟩;exact (hBl.trans (hb.mono hBl.size)).trans ((putCells_out _ _ _ _).below (fun b hb => by rw [List.mem_singleton.1 hb]; exact Nat.le_refl _) (hBl.trans (hb.mono hBl.size)).size)
   have HC : Hid (∀ w3, zW wr w3 -> w3.there w.heap.size (k * 13) 13) := fun w3 hb => by
    obtain ⟨⟨u, hu, _, hcs⟩, hfz⟩ := (hO.stays hb).cellsM (j := k) (by rw [fillM_len (Nat.le_of_lt hkl)]; exact HA.2.1.symm) (by rw [fillM_len (Nat.le_of_lt hkl)]; exact hkl);obtain ⟨p, e, d, rfl, _⟩ := hu;intro j hj;refine ⟨?_, hfz _⟩;have h13 : j < (ctV ((l.take k ++ List.replicate (l.length - k) zeC)[k]'(by rw [fillM_len (Nat.le_of_lt hkl)]; exact hkl)) p e d).cells.size := hj;rw [hcs j _ (Array.getElem?_eq_getElem h13)];rfl
   clear H hO hBl HP hcb hcell hPu hus hbB hc hkl;have hki : (k : Int) < (len : Int) := by omega
   have hk0 : (0 : Int) <= (k : Int) := by omega
   unfold ctV at HR HN;go_wp2_with fail;refine HR.mono ?_;rintro e w3 ⟨v3, rfl, ⟨p3, e3, d3, rfl, ho3, ho4, ho5, hap⟩, hb3⟩;have hth := HC.out w3 hb3;have HN3 := HN.out w3 p3 e3 d3 hb3 ⟨p3, e3, d3, rfl, ho3, ho4, ho5, hap⟩;obtain ⟨qa, qc, hq3, -⟩ := ho3.at
   obtain ⟨qe, qf, hq4, -⟩ := ho4.at
   obtain ⟨qg, qh, hq5, -⟩ := ho5.at
   subst hq3 hq4 hq5;clear HN HC hb3 u0 u1 u2 u3 u4 u5 u6 u7 u8 u9 u10 u11 u12 HR ho3 ho4 ho5 hap;have HN : Hid _ := HN3;clear HN3;unfold ctV;obtain ⟨VV, hVV⟩ : ∃ V, V = w3.setCells w.heap.size (k * 13) (zCt c (zS qa c.pol.length qc) (zS qe c.per.length qf) (zS qg c.den.length qh)).toList := ⟨_, rfl⟩;have HNV : Hid (∃ fp, OwnS certKd VV w.heap.size (zS (some ⟨w.heap.size, 0, none⟩) len len) (l.take (k + 1) ++ List.replicate (l.length - (k + 1)) zeC) fp /\ zW w VV) := by rw [hVV]; exact HN.out
   clear HN;go_wp2_with (refine step_storeV rfl 52 _ _ rfl w.heap.size (k * 13) #[zI c.serial, zG c.issuer, zG c.subject, zI c.frm, zI c.upto, zG c.key, .bool c.ca, zI c.pathLen, zI c.usage, zS qa c.pol.length qc, zS qe c.per.length qf, zS qg c.den.length qh, zG c.sig] rfl rfl hth (by kernel_rfl) (by simp [Value.oneCell']) hVV ?_; clear hVV hth)
   go_roundw
   case rel => exact ⟨k + 1, by omega, by go_num, HNV.out⟩
   case measure => simp [intOf]; omega
  ·have hkl : k = len := by omega
   subst hkl
   go_wp2
   go_ret;obtain ⟨fp, hO, hBl⟩ := H.out;refine ⟨_, fp, rfl, ?_, hBl⟩;rw [<- HA.2.1, List.take_length, Nat.sub_self, List.replicate_zero, List.append_nil] at hO;rw [<- HA.2.1];exact hO
theorem szCertS_any (v : Value) (l : List Ct) (left : Int) (w : World) (hm : l.length <= 9223372036854775807) (hwd : ∀ c ∈ l, WdC c) (h0 : 0 <= left) (hl : left <= 1048576) (ha : ArgM w.heap.size w v l) :
  Calls Tryz.prog 69 #[v, zI left] w fun e w' => e = .returned (zI (if (wtM l : Int) <= left then left - (wtM l : Int) else -1)) /\ zW w w' := by
 obtain ⟨a0, cap, hv⟩ := ha.shape;obtain ⟨len, hlen⟩ := zE (l.length);rw [hlen] at hv hm;subst hv;obtain ⟨R, hR⟩ : ∃ r : Int, (if (wtM l : Int) <= left then left - (wtM l : Int) else -1) = r := ⟨_, rfl⟩;rw [hR];have HA : Hid (ArgM w.heap.size w (zS a0 len cap) l /\ l.length = len /\ (∀ c ∈ l, WdC c) /\ (if (wtM l : Int) <= left then left - (wtM l : Int) else -1) = R) := ⟨ha, hlen, hwd, hR⟩;clear ha hlen hwd hR;have w1 : IntKind.i64.wrap (left - (len : Int)) = left - (len : Int) := by rw [IntKind.wrap_i64]; omega
 by_cases hneg : left - (len : Int) < 0
 ·have HRR : Hid (R = -1) := by
   show R = -1;rw [<- HA.2.2.2, if_neg];have h1 := HA.2.1;unfold wtM;omega
  go_enter Tryz.func69, Tryz.ntmps69
  go_wp2
  go_ret;exact ⟨by rw [HRR.out]; rfl, Below.refl _ _⟩
 ·have hll : len <= 1048576 := by omega
  go_enter Tryz.func69, Tryz.ntmps69;go_wp2_with fail
  go_loopw [1, 5] (fun lv iv wr => ∃ k : Nat, ∃ z : Int, k <= len /\ iv = zI k /\ lv = zI z /\ 0 <= z /\ z <= 1048576 /\ Hid (z = left - (len : Int) - ((((l.map wtC).take k).sum : Nat) : Int) /\ zW w wr)) (fun _ iv _ => len - (intOf iv).toNat)
  case atStart => exact ⟨0, _, Nat.zero_le _, rfl, rfl, by omega, by omega, by simp, Below.refl _ _⟩
  case round =>
   obtain ⟨k, z, hk, rfl, rfl, hz0, hz1, H⟩ := hrel;by_cases hkn : k < len
   ·have hkl : k < l.length := by rw [HA.2.1]; exact hkn
    obtain ⟨b, off, u, hao, hbB, hPu, hus, hcell⟩ := HA.1.get hkl;obtain ⟨ap, aq, ep, eq, dp, dq, hu⟩ := hPu.shape;subst hao;have hBl := H.2;have hcb := fun i x (hx : u.cells[i]? = some x) => (hBl.cell (p := ⟨b, off + k * 13 + i, none⟩) hbB).trans (hcell i x hx)
    obtain ⟨c, hc⟩ := zE (l[k]);have HP : ArgC wr.heap.size wr u c := by rw [<- hc]; exact (hPu.below hBl).mono hBl.size
    rw [hc] at hu;have HR := szCert_any c u z wr (by rw [<- hc]; exact HA.2.2.1 _ (List.getElem_mem hkl)) hz0 hz1 HP;subst hu;have u0 : wr.cell? ⟨b, off + k * 13, none⟩ = some (zI c.serial) := hcb 0 _ rfl;have u1 : wr.cell? ⟨b, off + k * 13 + 1, none⟩ = some (zG c.issuer) := hcb 1 _ rfl;have u2 : wr.cell? ⟨b, off + k * 13 + 2, none⟩ = some (zG c.subject) := hcb 2 _ rfl;have u3 : wr.cell? ⟨b, off + k * 13 + 3, none⟩ = some (zI c.frm) := hcb 3 _ rfl;have u4 : wr.cell? ⟨b, off + k * 13 + 4, none⟩ = some (zI c.upto) := hcb 4 _ rfl;have u5 : wr.cell? ⟨b, off + k * 13 + 5, none⟩ = some (zG c.key) := hcb 5 _ rfl;have u6 : wr.cell? ⟨b, off + k * 13 + 6, none⟩ = some (.bool c.ca) := hcb 6 _ rfl;have u7 : wr.cell? ⟨b, off + k * 13 + 7, none⟩ = some (zI c.pathLen) := hcb 7 _ rfl;have u8 : wr.cell? ⟨b, off + k * 13 + 8, none⟩ = some (zI c.usage) := hcb 8 _ rfl;have u9 : wr.cell? ⟨b, off + k * 13 + 9, none⟩ = some (zS ap c.pol.length aq) := hcb 9 _ rfl;have u10 : wr.cell? ⟨b, off + k * 13 + 10, none⟩ = some (zS ep c.per.length eq) := hcb 10 _ rfl;have u11 : wr.cell? ⟨b, off + k * 13 + 11, none⟩ = some (zS dp c.den.length dq) := hcb 11 _ rfl;have u12 : wr.cell? ⟨b, off + k * 13 + 12, none⟩ = some (zG c.sig) := hcb 12 _ rfl;have HS : Hid ((((l.map wtC).take (k + 1)).sum = ((l.map wtC).take k).sum + wtC c) /\ ((l.map wtC).take (k + 1)).sum <= (l.map wtC).sum /\ wtM l = len + (l.map wtC).sum) := by
     refine ⟨?_, sumM_take_le _ _, by unfold wtM; rw [HA.2.1]⟩;rw [sumM_take (by rw [List.length_map]; exact hkl), List.getElem_map, hc]
    have hki : (k : Int) < (len : Int) := by omega
    have hk0 : (0 : Int) <= (k : Int) := by omega
    clear hcb hcell hPu hus hbB hc hkl HP hBl;obtain ⟨zz, hzz⟩ := zE (szC c z);rw [hzz] at HR;unfold ctV at HR;by_cases hfit : (wtC c : Int) <= z
    ·have hzv : zz = z - (wtC c : Int) := by rw [<- hzz]; unfold szC; rw [if_pos hfit]
     have hz0' : ¬ zz < 0 := by omega
     have HZ : Hid (zz = left - (len : Int) - ((((l.map wtC).take (k + 1)).sum : Nat) : Int) /\ 0 <= zz /\ zz <= 1048576) := ⟨by rw [HS.1, hzv, H.1]; omega, by omega, by omega⟩;clear hzz hzv HS hfit;go_wp2_with fail;refine HR.mono ?_;rintro e w3 ⟨rfl, hb3⟩;clear u0 u1 u2 u3 u4 u5 u6 u7 u8 u9 u10 u11 u12 HR;have HB3 : Hid (zW w w3) := H.2.trans (hb3.mono H.2.size);clear H hb3;go_wp2_with fail
     go_roundw
     case rel => exact ⟨k + 1, zz, by omega, by go_num, rfl, HZ.2.1, HZ.2.2, HZ.1, HB3.out⟩
     case measure => simp [intOf]; omega
    ·have hzv : zz = -1 := by rw [<- hzz]; unfold szC; rw [if_neg hfit]
     subst hzv;have HRR : Hid (R = -1) := by
      show R = -1;rw [<- HA.2.2.2, if_neg];have h1 := HS.out;have h2 := H.1;omega
     clear HS hfit hzz;go_wp2_with fail;refine HR.mono ?_;rintro e w3 ⟨rfl, hb3⟩;clear u0 u1 u2 u3 u4 u5 u6 u7 u8 u9 u10 u11 u12 HR;have HB3 : Hid (zW w w3) := H.2.trans (hb3.mono H.2.size);clear H hb3
     go_wp2
     go_ret;exact ⟨by rw [HRR.out]; rfl, HB3.out⟩
   ·have hkl : k = len := by omega
    subst hkl;have HRR : Hid (R = z) := by
     show R = z;have h1 := H.1;rw [List.take_of_length_le (by rw [List.length_map, HA.2.1]; exact Nat.le_refl _)] at h1;have h2 := HA.2.1;rw [<- HA.2.2.2, if_pos (by unfold wtM; omega)];unfold wtM;omega
    go_wp2
    go_ret;exact ⟨by rw [HRR.out]; rfl, H.2⟩
end Go.Proofs.YtabfamhaihnccaaGreat
