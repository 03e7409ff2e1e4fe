/-
  Texts of the proof.
-/
import Derived.Deep.MidRow
import Derived.Test.YtabfamhaihnccaaGreatLC11
set_option linter.unusedVariables false
set_option linter.unusedSimpArgs false
set_option maxRecDepth 100000
set_option maxHeartbeats 25600000
namespace Go.Proofs.YtabfamhaihnccaaGreat
open Go.RowKit Go.ChangeShapes
structure An where
 name : ByteArray
 key : ByteArray
def anV (a : An) : Value := .agg #[zG a.name, zG a.key]
def anKd : Kd An where
 T := 124
 K := 2
 Own := fun _ _ v a => v = anV a
 At := fun _ v a => v = anV a
 fp := fun _ => []
 pos := by decide
 size := fun h => by
  subst h;refine ⟨rfl, fun x hx => ?_⟩;change x ∈ [_, _] at hx;simp only [List.mem_cons, List.not_mem_nil, or_false] at hx
  rcases hx with rfl | rfl
  all_goals rfl
 same := fun h _ => h
 lt := fun _ g hg => by cases hg
 base := fun h _ => h
 nodup := fun _ => List.nodup_nil
 own_at := fun h => h
 below := fun h _ => h
def zeA : An := ⟨⟨#[]⟩, ⟨#[]⟩⟩
theorem infoAn : (Tryz.prog.info? 124).map (fun i => (i.zero, i.size, i.bytes)) = some (some (.agg #[zG ⟨#[]⟩, zG ⟨#[]⟩]), 2, 32) := by kernel_rfl
def wtA (a : An) : Nat := a.name.size + a.key.size
def wtN (l : List An) : Nat := l.length + (l.map wtA).sum
theorem wtN_mem : ∀ {l : List An} {c : An}, c ∈ l -> wtA c <= wtN l
 | c :: l, d, h => by
  rcases List.mem_cons.1 h with rfl | h
  ·unfold wtN; simp; omega
  ·have := wtN_mem h
   unfold wtN at this |-;simp;omega
def WdA (a : An) : Prop := a.name.size <= 9223372036854775807 /\ a.key.size <= 9223372036854775807
def szA (a : An) (left : Int) : Int := if (wtA a : Int) <= left then left - (wtA a : Int) else -1
def ArgN (B : Nat) (w : World) (v : Value) (l : List An) : Prop := RowS 2 B (fun v a => v = anV a) w v l
theorem ArgN.below {B : Nat} {w w' : World} {v : Value} {l : List An} (h : ArgN B w v l) (hb : Below B w w') {B' : Nat} (hB : B <= B') : ArgN B' w' v l := RowS.below h hb (fun _ _ hP => hP) hB
theorem fillA_set {l : List An} {k : Nat} (hk : k < l.length) : (l.take k ++ List.replicate (l.length - k) zeA).set k l[k] = l.take (k + 1) ++ List.replicate (l.length - (k + 1)) zeA := by
 have e : (l.take k).length = k := by rw [List.length_take]; omega
 rw [List.set_append_right _ _ (by omega), e, Nat.sub_self, show l.length - k = (l.length - (k + 1)) + 1 by omega, List.replicate_succ, List.set_cons_zero, List.take_succ_eq_append_getElem hk, List.append_assoc];rfl
theorem fillA_len {l : List An} {k : Nat} (hk : k <= l.length) : (l.take k ++ List.replicate (l.length - k) zeA).length = l.length := by
 rw [List.length_append, List.length_take, List.length_replicate];omega
theorem OwnS.cellsA {w : World} {base g n cap : Nat} {l : List An} {fp : List Nat} (h : OwnS anKd w base (zS (some ⟨g, 0, none⟩) n cap) l fp) (hn : n = l.length) {j : Nat} (hj : j < l.length) :
  (w.cell? ⟨g, j * 2, none⟩ = some (zG l[j].name) /\ w.cell? ⟨g, j * 2 + 1, none⟩ = some (zG l[j].key)) /\ ∀ i, w.frozen? ⟨g, i, none⟩ = false := by
 subst hn;obtain ⟨g', o, u, h1, _, hP, hs, hc⟩ := h.at.get hj;injection h1 with h1
 injection h1 with h1 h2
 subst h1 h2;have hP' : u = anV l[j] := hP;subst hP';obtain ⟨vs, hl, hr, he, rfl, hnd⟩ := h;have c0 := hc 0 _ rfl;have c1 := hc 1 _ rfl;rw [Nat.zero_add] at c0 c1;exact ⟨⟨c0, c1⟩, fun i => World.ownsRow.frozenAt hr i⟩
theorem toAnchor_any (a : An) (w : World) : Calls Tryz.prog 126 #[.agg #[zG a.name, zG a.key]] w fun e w' => e = .returned (.agg #[zG a.name, zG a.key]) /\ zW w w' := by
 go_enter Tryz.func126, Tryz.ntmps126;go_wp2_with fail;refine bodyPost_ret (v := .agg #[zG a.name, zG a.key]) (by simp [results, Tryz.results126, go_sem]) rfl ⟨rfl, ?_⟩;exact (((Below.refl _ _).alloc (Nat.le_refl _) _).alloc (by rw [size_alloc]; omega) _).alloc (by rw [size_alloc, size_alloc]; omega) _
theorem toAnchorS_any (v : Value) (l : List An) (B : Nat) (w : World) (hl : wtN l <= 1048576) (hB : B <= w.heap.size) (ha : ArgN B w v l) :
  Calls Tryz.prog 81 #[v] w fun e w' => ∃ u fp, e = .returned u /\ OwnS anKd w' w.heap.size u l fp /\ zW w w' := by
 obtain ⟨i0, hi, hz0, hz1, hz2⟩ := info_parts infoAn;obtain ⟨a0, cap, hv⟩ := ha.shape;obtain ⟨len, hlen⟩ := zE (l.length);rw [hlen] at hv;subst hv;have hl20 : len <= 1048576 := by unfold wtN at hl; omega
 have HA : Hid (ArgN B w (zS a0 len cap) l /\ l.length = len) := ⟨ha, hlen⟩;clear ha hlen hl;go_enter Tryz.func81, Tryz.ntmps81;go_wp2_with (at_make; refine wpList_make_full _ rfl _ _ 35 rfl w.heap.size 124 i0 (.agg #[zG ⟨#[]⟩, zG ⟨#[]⟩]) 2 Tryz.underlying35 hi hz0 hz1 .i64 .i64 _ _ len rfl rfl ?m0 ?m1 ?m2 ?m3 ?m4 ?_)
 case m0 => simp
 case m1 => simp
 case m2 => rw [hz2]; omega
 case m3 => unfold maxLen; omega
 case m4 => exact Nat.le_refl _
 intro w1 hown hgrow;have HO : Hid (∃ fp, OwnS anKd w1 w.heap.size (zS (some ⟨w.heap.size, 0, none⟩) len len) (l.take 0 ++ List.replicate (l.length - 0) zeA) fp /\ zW w w1) := by
  refine ⟨[w.heap.size], ?_, (Below.refl _ _).grown hgrow (Nat.le_refl _) (fun j hj => by cases hj)⟩;rw [List.take_zero, List.nil_append, Nat.sub_zero, HA.2];exact OwnS.zeros anKd (c := zeA) (z := anV zeA) rfl rfl (by have h2 : (madeCells (anV zeA).cells (len * 2)).toList = cellsV (List.replicate len (anV zeA)) := made_cellsV (anV zeA) len (by decide); rw [<- h2]; exact hown)
 clear hown hgrow;go_wp2_with fail
 go_loopw [4] (fun iv wr => ∃ k : Nat, k <= len /\ iv = zI k /\ Hid (∃ fp, OwnS anKd wr w.heap.size (zS (some ⟨w.heap.size, 0, none⟩) len len) (l.take k ++ List.replicate (l.length - k) zeA) fp /\ zW w wr)) (fun iv _ => len - (intOf iv).toNat)
 case atStart => exact ⟨0, Nat.zero_le _, rfl, HO.out⟩
 case round =>
  obtain ⟨k, hk, rfl, H⟩ := hrel;clear HO;by_cases hkn : k < len
  ·have hkl : k < l.length := by rw [HA.2]; exact hkn
   obtain ⟨b, off, u, hao, hbB, hu, hus, hcell⟩ := HA.1.get hkl;subst hao;obtain ⟨fp, hO, hBl⟩ := H.out;have hcb := fun i x (hx : u.cells[i]? = some x) => (hBl.cell (p := ⟨b, off + k * 2 + i, none⟩) (by show b < w.heap.size; omega)).trans (hcell i x hx)
   obtain ⟨c, hc⟩ := zE (l[k]);rw [hc] at hu;subst hu;have u0 : wr.cell? ⟨b, off + k * 2, none⟩ = some (zG c.name) := hcb 0 _ rfl;have u1 : wr.cell? ⟨b, off + k * 2 + 1, none⟩ = some (zG c.key) := hcb 1 _ rfl;have HN : Hid (∀ (w3 : World), zW wr w3 -> ∃ fp, OwnS anKd ((w3.setCell ⟨w.heap.size, k * 2, none⟩ (zG c.name)).setCell ⟨w.heap.size, k * 2 + 1, none⟩ (zG c.key)) w.heap.size (zS (some ⟨w.heap.size, 0, none⟩) len len) (l.take (k + 1) ++ List.replicate (l.length - (k + 1)) zeA) fp /\ zW w ((w3.setCell ⟨w.heap.size, k * 2, none⟩ (zG c.name)).setCell ⟨w.heap.size, k * 2 + 1, none⟩ (zG c.key))) := fun w3 hb => by
    have h2 := (hO.stays hb).put (k := anKd) (j := k) (u := anV c) (c := c) (by rw [fillA_len (Nat.le_of_lt hkl)]; exact HA.2.symm) (by rw [fillA_len (Nat.le_of_lt hkl)]; exact hkl) rfl (fun y hy hm => by cases hy);obtain ⟨fp', h2, _⟩ := h2;rw [<- hc, fillA_set hkl] at h2;rw [<- hc];refine ⟨fp', h2, ?_⟩
    iterate 2 refine Below.setCell ?_ (by show w.heap.size <= w.heap.size; exact Nat.le_refl _) _
    exact hBl.trans (hb.mono hBl.size)
   have HC : Hid (∀ w3, zW wr w3 -> (∀ j, w3.frozen? ⟨w.heap.size, j, none⟩ = false) /\ ∃ x0 x1, w3.cell? ⟨w.heap.size, k * 2, none⟩ = some x0 /\ w3.cell? ⟨w.heap.size, k * 2 + 1, none⟩ = some x1) := fun w3 hb => by
    obtain ⟨hcs, hfz⟩ := (hO.stays hb).cellsA (j := k) (by rw [fillA_len (Nat.le_of_lt hkl)]; exact HA.2.symm) (by rw [fillA_len (Nat.le_of_lt hkl)]; exact hkl);exact ⟨hfz, _, _, hcs.1, hcs.2⟩
   clear H hO hBl hcb hcell hus hbB hc hkl;have hki : (k : Int) < (len : Int) := by omega
   have hk0 : (0 : Int) <= (k : Int) := by omega
   go_wp2_with fail;refine (toAnchor_any c wr).mono ?_;rintro e w3 ⟨rfl, hb3⟩;obtain ⟨fz, x0, x1, d0, d1⟩ := HC.out w3 hb3;have HN3 : Hid _ := HN.out w3 hb3;clear HN HC hb3 u0 u1;go_wp2_with fail
   go_roundw
   case rel => exact ⟨k + 1, by omega, by go_num, HN3.out⟩
   case measure => simp [intOf]; omega
  ·have hkl : k = len := by omega
   subst hkl
   go_wp2
   go_ret;obtain ⟨fp, hO, hBl⟩ := H.out;refine ⟨_, fp, rfl, ?_, hBl⟩;rw [<- HA.2, List.take_length, Nat.sub_self, List.replicate_zero, List.append_nil] at hO;rw [<- HA.2];exact hO
theorem szAnchor_any (a : An) (left : Int) (w : World) (hwd : WdA a) (h0 : 0 <= left) (hl : left <= 1048576) : Calls Tryz.prog 116 #[.agg #[zG a.name, zG a.key], zI left] w fun e w' => e = .returned (zI (szA a left)) /\ zW w w' := by
 obtain ⟨wd1, wd2⟩ := hwd;obtain ⟨R, hR⟩ := zE (szA a left);rw [hR];have w1 : IntKind.i64.wrap (left - (a.name.size : Int)) = left - (a.name.size : Int) := by rw [IntKind.wrap_i64]; omega
 have hR2 : R = if (a.name.size : Int) + a.key.size <= left then left - ((a.name.size : Int) + a.key.size) else -1 := by rw [<- hR]; unfold szA wtA; rw [Int.natCast_add]
 clear hR;by_cases g1 : left - (a.name.size : Int) < 0
 ·have HR : Hid (R = -1) := by show R = -1; rw [hR2, if_neg (by omega)]
  clear hR2;go_enter Tryz.func116, Tryz.ntmps116
  go_wp2
  go_ret;exact ⟨by rw [HR.out]; rfl, (Below.refl _ _).alloc (Nat.le_refl _) _⟩
 ·have w2 : IntKind.i64.wrap (left - (a.name.size : Int) - (a.key.size : Int)) = left - (a.name.size : Int) - (a.key.size : Int) := by rw [IntKind.wrap_i64]; omega
  by_cases g2 : left - (a.name.size : Int) - (a.key.size : Int) < 0
  ·have HR : Hid (R = -1) := by show R = -1; rw [hR2, if_neg (by omega)]
   clear hR2;go_enter Tryz.func116, Tryz.ntmps116
   go_wp2
   go_ret;exact ⟨by rw [HR.out]; rfl, (Below.refl _ _).alloc (Nat.le_refl _) _⟩
  ·have HR : Hid (R = left - (a.name.size : Int) - (a.key.size : Int)) := by show R = _; rw [hR2, if_pos (by omega)]; omega
   clear hR2;go_enter Tryz.func116, Tryz.ntmps116
   go_wp2
   go_ret;exact ⟨by rw [HR.out]; rfl, (Below.refl _ _).alloc (Nat.le_refl _) _⟩
theorem szAnchorS_any (v : Value) (l : List An) (left : Int) (w : World) (hm : l.length <= 9223372036854775807) (hwd : ∀ c ∈ l, WdA c) (h0 : 0 <= left) (hl : left <= 1048576) (ha : ArgN w.heap.size w v l) :
  Calls Tryz.prog 71 #[v, zI left] w fun e w' => e = .returned (zI (if (wtN l : Int) <= left then left - (wtN l : Int) else -1)) /\ zW w w' := by
 obtain ⟨a0, cap, hv⟩ := ha.shape;obtain ⟨len, hlen⟩ := zE (l.length);rw [hlen] at hv hm;subst hv;obtain ⟨R, hR⟩ : ∃ r : Int, (if (wtN l : Int) <= left then left - (wtN l : Int) else -1) = r := ⟨_, rfl⟩;rw [hR];have HA : Hid (ArgN w.heap.size w (zS a0 len cap) l /\ l.length = len /\ (∀ c ∈ l, WdA c) /\ (if (wtN l : Int) <= left then left - (wtN l : Int) else -1) = R) := ⟨ha, hlen, hwd, hR⟩;clear ha hlen hwd hR;have w1 : IntKind.i64.wrap (left - (len : Int)) = left - (len : Int) := by rw [IntKind.wrap_i64]; omega
 by_cases hneg : left - (len : Int) < 0
 ·have HRR : Hid (R = -1) := by
   show R = -1;rw [<- HA.2.2.2, if_neg];have h1 := HA.2.1;unfold wtN;omega
  go_enter Tryz.func71, Tryz.ntmps71
  go_wp2
  go_ret;exact ⟨by rw [HRR.out]; rfl, Below.refl _ _⟩
 ·have hll : len <= 1048576 := by omega
  go_enter Tryz.func71, Tryz.ntmps71;go_wp2_with fail
  go_loopw [1, 5] (fun lv iv wr => ∃ k : Nat, ∃ z : Int, k <= len /\ iv = zI k /\ lv = zI z /\ 0 <= z /\ z <= 1048576 /\ Hid (z = left - (len : Int) - ((((l.map wtA).take k).sum : Nat) : Int) /\ zW w wr)) (fun _ iv _ => len - (intOf iv).toNat)
  case atStart => exact ⟨0, _, Nat.zero_le _, rfl, rfl, by omega, by omega, by simp, Below.refl _ _⟩
  case round =>
   obtain ⟨k, z, hk, rfl, rfl, hz0, hz1, H⟩ := hrel;by_cases hkn : k < len
   ·have hkl : k < l.length := by rw [HA.2.1]; exact hkn
    obtain ⟨b, off, u, hao, hbB, hu, hus, hcell⟩ := HA.1.get hkl;subst hao;have hBl := H.2;have hcb := fun i x (hx : u.cells[i]? = some x) => (hBl.cell (p := ⟨b, off + k * 2 + i, none⟩) hbB).trans (hcell i x hx)
    obtain ⟨c, hc⟩ := zE (l[k]);rw [hc] at hu;have HR := szAnchor_any c z wr (by rw [<- hc]; exact HA.2.2.1 _ (List.getElem_mem hkl)) hz0 hz1;subst hu;have u0 : wr.cell? ⟨b, off + k * 2, none⟩ = some (zG c.name) := hcb 0 _ rfl;have u1 : wr.cell? ⟨b, off + k * 2 + 1, none⟩ = some (zG c.key) := hcb 1 _ rfl;have HS : Hid ((((l.map wtA).take (k + 1)).sum = ((l.map wtA).take k).sum + wtA c) /\ ((l.map wtA).take (k + 1)).sum <= (l.map wtA).sum /\ wtN l = len + (l.map wtA).sum) := by
     refine ⟨?_, sum_take_le _ _, by unfold wtN; rw [HA.2.1]⟩;rw [sum_take (by rw [List.length_map]; exact hkl), List.getElem_map, hc]
    have hki : (k : Int) < (len : Int) := by omega
    have hk0 : (0 : Int) <= (k : Int) := by omega
    clear hcb hcell hus hbB hc hkl hBl;obtain ⟨zz, hzz⟩ := zE (szA c z);rw [hzz] at HR;by_cases hfit : (wtA c : Int) <= z
    ·have hzv : zz = z - (wtA c : Int) := by rw [<- hzz]; unfold szA; rw [if_pos hfit]
     have hz0' : ¬ zz < 0 := by omega
     have HZ : Hid (zz = left - (len : Int) - ((((l.map wtA).take (k + 1)).sum : Nat) : Int) /\ 0 <= zz /\ zz <= 1048576) := ⟨by rw [HS.1, hzv, H.1]; omega, by omega, by omega⟩;clear hzz hzv HS hfit;go_wp2_with fail;refine HR.mono ?_;rintro e w3 ⟨rfl, hb3⟩;clear u0 u1 HR;have HB3 : Hid (zW w w3) := H.2.trans (hb3.mono H.2.size);clear H hb3;go_wp2_with fail
     go_roundw
     case rel => exact ⟨k + 1, zz, by omega, by go_num, rfl, HZ.2.1, HZ.2.2, HZ.1, HB3.out⟩
     case measure => simp [intOf]; omega
    ·have hzv : zz = -1 := by rw [<- hzz]; unfold szA; rw [if_neg hfit]
     subst hzv;have HRR : Hid (R = -1) := by
      show R = -1;rw [<- HA.2.2.2, if_neg];have h1 := HS.out;have h2 := H.1;omega
     clear HS hfit hzz;go_wp2_with fail;refine HR.mono ?_;rintro e w3 ⟨rfl, hb3⟩;clear u0 u1 HR;have HB3 : Hid (zW w w3) := H.2.trans (hb3.mono H.2.size);clear H hb3
     go_wp2
     go_ret;exact ⟨by rw [HRR.out]; rfl, HB3.out⟩
   ·have hkl : k = len := by omega
    subst hkl;have HRR : Hid (R = z) := by
     show R = z;have h1 := H.1;rw [List.take_of_length_le (by rw [List.length_map, HA.2.1]; exact Nat.le_refl _)] at h1;have h2 := HA.2.1;rw [<- HA.2.2.2, if_pos (by unfold wtN; omega)];unfold wtN;omega
    go_wp2
    go_ret;exact ⟨by rw [HRR.out]; rfl, H.2⟩
theorem eqAnchor_same (a : An) (w : World) : Calls Tryz.prog 142 #[.agg #[zG a.name, zG a.key], .agg #[zG a.name, zG a.key]] w fun e w' => e = .returned (.bool true) /\ zW w w' := by
 go_enter Tryz.func142, Tryz.ntmps142
 go_wp2
 go_ret;exact ⟨rfl, ((Below.refl _ _).alloc (Nat.le_refl _) _).alloc (by rw [size_alloc]; omega) _⟩
theorem eqAnchorS_same (l : List An) (a b : Value) (w : World) (hl : l.length <= 1000000000) (ha : AtS anKd w a l) (hb : AtS anKd w b l) :
  Calls Tryz.prog 94 #[a, b] w fun e w' => e = .returned (.bool true) /\ zW w w' := by
 obtain ⟨ax, cx, hv⟩ := ha.shape;obtain ⟨ay, cy, hu⟩ := hb.shape;obtain ⟨len, hlen⟩ := zE (l.length);rw [hlen] at hv hu;subst hv hu;have hl20 : len <= 1000000000 := by omega
 have HX : Hid (AtS anKd w (zS ax len cx) l /\ AtS anKd w (zS ay len cy) l /\ l.length = len /\ l.length <= 1000000000) := ⟨ha, hb, hlen, hl⟩;clear ha hb hlen hl;go_enter Tryz.func94, Tryz.ntmps94;go_wp2_with fail
 go_loopw [5] (fun iv wr => ∃ k : Nat, k <= len /\ iv = zI k /\ Hid (zW w wr)) (fun iv _ => len - (intOf iv).toNat)
 case atStart => exact ⟨0, Nat.zero_le _, rfl, Below.refl _ _⟩
 case round =>
  obtain ⟨k, hk, rfl, HB⟩ := hrel;by_cases hkn : k < len
  ·have hkl : k < l.length := by rw [HX.2.2.1]; exact hkn
   obtain ⟨g1, o1, u1, hax, hg1, hP1, hs1, hc1⟩ := HX.1.get hkl;obtain ⟨g2, o2, u2, hay, hg2, hP2, hs2, hc2⟩ := HX.2.1.get hkl;subst hax hay;obtain ⟨c, hc⟩ := zE (l[k]);have hBd : zW w wr.drew := HB.out.drew;have HR := eqAnchor_same c wr.drew;rw [hc] at hP1 hP2;have hu1 : u1 = anV c := hP1;have hu2 : u2 = anV c := hP2;subst hu1 hu2;have HS : Hid (∀ W, zW w W -> (W.cell? ⟨g1, o1 + k * 2, none⟩ = some (zG c.name) /\ W.cell? ⟨g1, o1 + k * 2 + 1, none⟩ = some (zG c.key)) /\ W.cell? ⟨g2, o2 + k * 2, none⟩ = some (zG c.name) /\ W.cell? ⟨g2, o2 + k * 2 + 1, none⟩ = some (zG c.key)) := fun W hW =>
    ⟨⟨(hW.cell (p := ⟨g1, o1 + k * 2 + 0, none⟩) hg1).trans (hc1 0 _ rfl), (hW.cell (p := ⟨g1, o1 + k * 2 + 1, none⟩) hg1).trans (hc1 1 _ rfl)⟩, (hW.cell (p := ⟨g2, o2 + k * 2 + 0, none⟩) hg2).trans (hc2 0 _ rfl), (hW.cell (p := ⟨g2, o2 + k * 2 + 1, none⟩) hg2).trans (hc2 1 _ rfl)⟩
   have hki : (k : Int) < (len : Int) := by omega
   have hk0 : (0 : Int) <= (k : Int) := by omega
   clear hc1 hc2 hP1 hP2 hs1 hs2 hg1 hg2 hc hkl;go_upto_region 6 with fail;refine wp_region_held_drew (S := fun W => zW w W) (by kernel_rfl) hBd (fun hHeld => ?_);clear hBd;have HBW : Hid (zW w wr.drew) := hHeld;refine zQ 0 17 rfl hHeld ?_;refine zQ 1 18 rfl hHeld ?_;refine zQ 2 19 rfl hHeld ?_;refine zT 3 20 ?_ rfl (by rfl) ?_ hHeld ?_;rotate_left
   ·intro W hSw
    obtain ⟨⟨e0, e1⟩, -⟩ := HS.out W hSw;go_simp
    try with_reducible rfl
   refine zQ 4 21 rfl hHeld ?_;refine zQ 5 22 rfl hHeld ?_;refine zQ 6 23 rfl hHeld ?_;refine zT 7 24 ?_ rfl (by rfl) ?_ hHeld ?_;rotate_left
   ·intro W hSw
    obtain ⟨-, e0, e1⟩ := HS.out W hSw;go_simp
    try with_reducible rfl
   refine zR 8 25 rfl fun K hK => ?_
   go_simp;refine HR.mono ?_;rintro e w3 ⟨rfl, hb3⟩;have HB3 : Hid (zW w w3) := HBW.trans (hb3.mono HBW.size);clear hb3 HR HBW;refine hK.out _ _ HB3.out (fun hHeld => ?_);clear hK K;refine zQ 9 26 rfl hHeld ?_;refine wpAnyH_done (by kernel_rfl) ?_ _;clear HS;go_wp2_with fail
   go_roundw
   case rel => exact ⟨k + 1, by omega, by go_num, HB3.out⟩
   case measure => simp [intOf]; omega
  ·have hkl : k = len := by omega
   subst hkl
   go_wp2
   go_ret;exact ⟨rfl, HB.out⟩
end Go.Proofs.YtabfamhaihnccaaGreat
namespace Go.Proofs.YtabfamhaihnccaaGreat
open Go.RowKit Go.ChangeShapes
theorem pickA {n : Nat} {P : Nat -> An -> Prop} (h : ∀ j, j < n -> ∃ y, P j y) : ∃ l : List An, ∃ hl : l.length = n, ∀ j (hj : j < l.length), P j l[j] := by
 induction n with
 | zero => exact ⟨[], rfl, fun j hj => absurd hj (Nat.not_lt_zero _)⟩
 | succ n ih =>
  obtain ⟨l, hl, hP⟩ := ih fun j hj => h j (by omega)
  obtain ⟨y, hy⟩ := h n (by omega);refine ⟨l ++ [y], by simp [hl], fun j hj => ?_⟩;by_cases e : j < l.length
  ·rw [List.getElem_append_left e]
   exact hP j e
  ·have e2 : j = l.length := by simp at hj; omega
   subst e2;simpa [hl] using hy
theorem cellsAnchor : Tryz.prog.cellsOf 172 = 2 := by kernel_rfl
theorem anchor_of_trod {H : Type} {enc : TypeId × Value -> H} {W : World} {fuel : Nat} {cs : List Value} {x : DataW H × List MemPlace} (h : DataW.trod enc Tryz.prog W 0 (fun _ => true) true fuel 172 cs = some x) :
  ∃ a : An, Value.agg cs.toArray = anV a /\ WdA a := by
 obtain ⟨xs, m, rfl, hx, hl, hxl, hall⟩ := DataW.trod_struct Tryz.underlying172 h;rw [cellsAnchor] at hl;obtain ⟨x0, x1, rfl⟩ : ∃ x0 x1, xs = [x0, x1] := by
  match xs, hxl with
  | [x0, x1], _ => exact ⟨x0, x1, rfl⟩
 have f0 := hall 0 _ rfl;change DataW.trod _ _ _ _ _ _ _ 9 ((cs.drop 0).take (Tryz.prog.cellsOf 9)) = some x0 at f0;rw [cS] at f0;obtain ⟨v0, h0, _, w0⟩ := DataW.trod_string Tryz.underlying9 f0;have g0 := take_one h0;have f1 := hall 1 _ rfl;change DataW.trod _ _ _ _ _ _ _ 9 ((cs.drop 1).take (Tryz.prog.cellsOf 9)) = some x1 at f1;rw [cS] at f1;obtain ⟨v1, h1, _, w1⟩ := DataW.trod_string Tryz.underlying9 f1;have g1 := take_one h1;have hcs : cs = [zG v0, zG v1] := by
  match cs, hl with
  | [y0, y1], _ =>
   simp at g0 g1;rw [g0, g1]
 refine ⟨⟨v0, v1⟩, by rw [hcs]; rfl, ?_⟩;unfold maxLen at w0 w1;exact ⟨w0, w1⟩
theorem anchors_in {H : Type} {enc : TypeId × Value -> H} {W : World} {fuel : Nat} {cs : List Value} {x : DataW H × List MemPlace} (h : DataW.trod enc Tryz.prog W 0 (fun _ => true) true fuel 24 cs = some x) :
  ∃ ao cap, ∃ l : List An, cs = [zS ao l.length cap] /\ l.length <= maxLen /\ (∀ c ∈ l, WdA c) /\ ArgN W.heap.size W (zS ao l.length cap) l := by
 rcases DataW.trod_slice Tryz.underlying24 h with ⟨h0, _⟩ | ⟨a, len, cap, elems, rest, q, hq, hc, _, hb, hlc, hcm, hel, helem, _, _⟩
 ·exact ⟨none, 0, [], h0, Nat.zero_le _, fun x hx => by simp at hx, none, 0, rfl, fun j hj => by simp at hj⟩
 ·have each : ∀ j, j < len -> ∃ c : An, ∃ u : Value, u = anV c /\ WdA c /\ u.cells.size = 2 /\ ∀ i x, u.cells[i]? = some x -> W.cell? (a.add (j * 2 + i)) = some x := by
   intro j hj;have he := helem j hj;rw [cellsAnchor] at he;obtain ⟨z, hz⟩ : ∃ z, elems[j]? = some z := ⟨elems[j]'(by omega), by simp [show j < elems.length by omega]⟩;rw [hz, Option.bind_eq_some_iff] at he;obtain ⟨cs2, hcs2, htr⟩ := he;obtain ⟨c, hv, hwd⟩ := anchor_of_trod htr;have hsome := World.cells?_some hcs2;refine ⟨c, anV c, rfl, hwd, rfl, fun i x hx => ?_⟩;have hcl : (anV c).cells = cs2.toArray := by rw [<- hv]; rfl
   rw [hcl] at hx;have hi : i < cs2.length := by have := (Array.getElem?_eq_some_iff.1 hx).1; simpa using this
   have h3 := hsome.2.2 i (by omega);rw [Addr.add_add] at h3;rw [h3];simpa using hx
  obtain ⟨l, hl, hP⟩ := pickA each;refine ⟨some a, cap, l, by rw [hl]; exact hc, by rw [hl]; exact Nat.le_trans hlc hcm, fun y hy => ?_, some a, cap, rfl, fun j hj => ?_⟩
  ·obtain ⟨j, hj, rfl⟩ := List.getElem_of_mem hy
   obtain ⟨u, _, h2, _⟩ := hP j hj;exact h2
  ·obtain ⟨u, h1, h2, h3, h4⟩ := hP j hj
   obtain ⟨x0, hx0⟩ : ∃ x, u.cells[0]? = some x := ⟨u.cells[0]'(by omega), Array.getElem?_eq_getElem _⟩;have c0 := h4 0 x0 hx0;obtain ⟨u', _, _, g3, g4⟩ := hP 0 (by omega);obtain ⟨y0, hy0⟩ : ∃ x, u'.cells[0]? = some x := ⟨u'.cells[0]'(by omega), Array.getElem?_eq_getElem _⟩;have d0 := g4 0 y0 hy0;obtain ⟨b, off, spot⟩ := a;have hspot : spot = none := by simpa [Addr.add] using World.cell?_spot d0
   subst hspot;rw [Addr.add_lit] at c0;refine ⟨b, off, u, rfl, lt_of_cell c0, h1, h3, fun i x hx => ?_⟩;have := h4 i x hx;rw [Addr.add_lit, <- Nat.add_assoc] at this;exact this
end Go.Proofs.YtabfamhaihnccaaGreat
namespace Go.Proofs.YtabfamhaihnccaaGreat
open Go.RowKit
theorem step_storeV {P : Program} {ops : Array Oper} {rest : List Oper} {op : Oper} {a : Act} {w V : World} {Q : Exit -> Act -> World -> Prop} (hgd : op.guard = none) (ty : TypeId) (x y : Operand) (ho : op.op = .store ty x y) (b o : Nat) (cells : Array Value) (hx : a.eval x = .pointer (some ⟨b, o, none⟩)) (hy : a.eval y = .agg cells)
  (ht : w.there b o cells.size) (hi : (P.info? ty).map (·.size) = some cells.size) (h1 : cells.all (·.oneCell') = true) (hV : V = w.setCells b o cells.toList) (h : wpList P ops Q rest (a.put op.dst undef) V) : wpList P ops Q (op :: rest) a w := by
 subst hV;exact wpList_store_mid hgd ty x y ho b o cells hx hy ht hi h1 h
theorem putCells_set : ∀ (us : List Value) (w : World) (g i : Nat), putCells w g i us = w.setCells g i us
 | [], _, _, _ => rfl
 | u :: us, w, g, i => putCells_set us (w.setCell ⟨g, i, none⟩ u) g (i + 1)
theorem Blk.there {w : World} {b : Nat} {t : TypeId} {vs : Array Value} (h : Blk w b t vs) {n : Nat} (hn : n = vs.size) : w.there b 0 n := fun j hj => by
 rw [Nat.zero_add];refine ⟨?_, h.free j⟩;rw [h.cell j, Array.getElem?_eq_getElem (by omega)];rfl
theorem Blk.range {w : World} {b : Nat} {t : TypeId} {vs : Array Value} (h : Blk w b t vs) : w.rangeAt b 0 vs.toList := fun j v hv => by
 rw [Nat.zero_add, h.cell j, <- Array.getElem?_toList];exact hv
theorem Blk.setMany : ∀ (us : List Value) {w : World} {b : Nat} {t : TypeId} {vs : List Value} (i : Nat), Blk w b t vs.toArray -> Blk (w.setCells b i us) b t (Go.Proofs.YtabfamhaihnccaaGreat.setMany vs i us).toArray
 | [], _, _, _, _, _, h => h
 | u :: us, w, b, t, vs, i, h => Blk.setMany us (i + 1) (by have h2 := h.set i u; rw [List.setIfInBounds_toArray] at h2; exact h2)
theorem Blk.setAll {w : World} {b : Nat} {t : TypeId} {vs cells : Array Value} (h : Blk w b t vs) (hl : cells.size = vs.size) : Blk (w.setCells b 0 cells.toList) b t cells := by
 have h2 := Blk.setMany cells.toList (vs := vs.toList) 0 h;have h3 := setMany_head cells.toList vs.toList [] (by rw [Array.length_toList, Array.length_toList, hl]);rw [List.append_nil, List.append_nil] at h3;rw [h3] at h2;exact h2
theorem setCells_out (us : List Value) (w : World) (g i : Nat) : Out [g] w (w.setCells g i us) := by rw [<- putCells_set]; exact putCells_out us w g i
theorem fresh_store {w V : World} {t : TypeId} {Z cells : Array Value} (hV : V = (w.alloc (.cells Z t)).setCells w.heap.size 0 cells.toList) (hl : cells.size = Z.size) : zW w V /\ Blk V w.heap.size t cells := by
 rw [hV];exact ⟨((Below.refl _ _).alloc (Nat.le_refl _) _).trans ((setCells_out _ _ _ _).below (fun b hb => by rw [List.mem_singleton.1 hb]; exact Nat.le_refl _) (by rw [size_alloc]; omega)), (Blk.new w t Z).setAll hl⟩
end Go.Proofs.YtabfamhaihnccaaGreat
