/-
  Texts of the proof.
-/
import Derived.Deep.RegionHeld3
import Derived.Test.YtabfamhaihnccaaGreatLC36
set_option linter.unusedVariables false
set_option linter.unusedSimpArgs false
set_option maxRecDepth 100000
set_option maxHeartbeats 25600000
namespace Go.Proofs.YtabfamhaihnccaaGreat
open Go.RowKit
def mkA (k : Nat) (_ : An) : An := ⟨⟨(mt k).toArray⟩, ⟨(mt (k + 1)).toArray⟩⟩
def szA2 (_ : An) : Nat := 2
theorem sum_szA : ∀ l : List An, (l.map szA2).sum = 2 * l.length
 | [] => rfl
 | c :: l => by
  have := sum_szA l;simp only [List.map_cons, List.sum_cons, List.length_cons, szA2] at this |-;omega
def MkA (w0 W : World) (base g n cap : Nat) (fq : List Nat) (X : List Value) : Prop :=
 W.ownsRow base 124 2 (zS (some ⟨g, 0, none⟩) n cap) n X /\ Out fq w0 W /\ g ∈ fq
section
variable {w0 W W' : World} {base g n cap : Nat} {fq : List Nat} {X : List Value}
theorem MkA.below (h : MkA w0 W base g n cap fq X) (hb : zW W W') : MkA w0 W' base g n cap fq X := ⟨own_kept h.1 hb, h.2.1.trans (Out.of_below hb), h.2.2⟩
theorem MkA.put (h : MkA w0 W base g n cap fq X) (i : Nat) (x : Value) : MkA w0 (W.setCell ⟨g, i, none⟩ x) base g n cap fq (X.set i x) := ⟨(h.1.stored i x).1, h.2.1.setCell _ _ h.2.2, h.2.2⟩
theorem MkA.cell (h : MkA w0 W base g n cap fq X) {i : Nat} (hi : i < n * 2) : ∃ x, W.cell? ⟨g, i, none⟩ = some x := by
 rw [World.ownsRow.cellAt h.1 i hi];exact ⟨X[i]'(by rw [h.1.1]; exact hi), List.getElem?_eq_getElem _⟩
theorem MkA.free (h : MkA w0 W base g n cap fq X) (i : Nat) : W.frozen? ⟨g, i, none⟩ = false := World.ownsRow.frozenAt h.1 i
end
theorem markAnchorS_out (l : List An) (v : Value) (k base : Nat) (fp : List Nat) (w : World) (hl : l.length <= 1048577) (hk1 : 1 <= k) (hk : k <= 100000000) (ha : OwnS anKd w base v l fp) :
  Calls Tryz.prog 106 #[v, zI k] w fun e w' => e = .returned (zI ((posG szA2 k l l.length : Nat) : Int)) /\ OwnS anKd w' base v (mkG mkA szA2 k l) fp /\ Out fp w w' := by
 obtain ⟨ao, cap, hv, hg, -, -⟩ := ha.shape;obtain ⟨n, hn⟩ := zE (l.length);rw [hn] at hv hg;subst hv;obtain ⟨KK, hKK⟩ : ∃ q : Nat, posG szA2 k l l.length = q := ⟨_, rfl⟩;rw [hKK];have HA : Hid (OwnS anKd w base (zS ao n cap) l fp /\ l.length = n /\ (0 < n -> ∃ g, ao = some ⟨g, 0, none⟩) /\ posG szA2 k l l.length = KK) := ⟨ha, hn, hg, hKK⟩;have hn20 : n <= 1048577 := by omega
 clear ha hn hl hg hKK;go_enter Tryz.func106, Tryz.ntmps106;go_wp2_with fail
 go_loopw [1, 5] (fun kv iv wr => ∃ j q : Nat, j <= n /\ iv = zI j /\ kv = zI q /\ (1 <= q /\ q <= 200000000) /\ Hid (q = posG szA2 k l j /\ OwnS anKd wr base (zS ao n cap) ((mkG mkA szA2 k l).take j ++ l.drop j) fp /\ Out fp w wr)) (fun _ iv _ => n - (intOf iv).toNat)
 case atStart => exact ⟨0, k, Nat.zero_le _, rfl, rfl, ⟨hk1, by omega⟩, by simp [posG], by simpa using HA.1, Out.refl _ _⟩
 case round =>
  obtain ⟨j, q, hj, rfl, rfl, ⟨hq1, hq2⟩, H⟩ := hrel;by_cases hjn : j < n
  ·have hjl : j < l.length := by rw [HA.2.1]; exact hjn
   obtain ⟨g, hg⟩ := HA.2.2.1 (by omega);subst hg;obtain ⟨vs, hvl, hr, he, hfp, hnd⟩ := H.2.1;have hml := markG_len mkA szA2 (k := k) (Nat.le_of_lt hjl);have hjv : j < vs.length := by rw [hvl, hml]; exact hjl
   obtain ⟨X, hX⟩ := zE (cellsV vs);have HM : Hid (MkA wr wr base g n cap [g] X) := ⟨by rw [<- hX]; rw [hml, HA.2.1] at hr; exact hr, Out.refl _ _, List.mem_cons_self ..⟩;have HE : Hid (∀ (W : World), MkA wr W base g n cap [g] ((X.set (j * 2) (zG ⟨(mt q).toArray⟩)).set (j * 2 + 1) (zG ⟨(mt (q + 1)).toArray⟩)) -> (q = posG szA2 k l j -> OwnS anKd W base (zS (some ⟨g, 0, none⟩) n cap) ((mkG mkA szA2 k l).take (j + 1) ++ l.drop (j + 1)) fp /\ Out fp w W)) := fun W hM hq => by
    have hset : cellsV (vs.set j (anV (mkA q l[j]))) = (X.set (j * 2) (zG ⟨(mt q).toArray⟩)).set (j * 2 + 1) (zG ⟨(mt (q + 1)).toArray⟩) := by
     rw [<- setMany_cells (K := 2) (OwnS.sizes (k := anKd) hvl he) j _ hjv rfl, hX];rfl
    have hT := OwnS.turnK anKd (c' := mkA q l[j]) (cap := cap) (n := n) (j := j) (l := (mkG mkA szA2 k l).take j ++ l.drop j) (by omega) hvl he (hfp ▸ hnd) (u := anV (mkA q l[j])) rfl (by rw [hset, hml, HA.2.1]; exact hM.1) rfl hM.2.1;refine ⟨?_, ?_⟩
    ·rw [hfp, <- markG_set mkA szA2 hjl, <- hq]
     exact hT
    ·refine H.2.2.trans (hM.2.1.mono fun b hb => ?_)
     rw [hfp];exact List.mem_append_left _ (by rw [List.mem_singleton.1 hb]; simp [Value.ownBlock])
   have HQ := zH (zJ H.1 (by rw [posG_next szA2 hjl, <- H.1]; rfl : posG szA2 k l (j + 1) = q + 2));have hqb : q + 2 <= 120000000 := by
    have h1 := posG_le szA2 k l (j + 1);have h2 := sum_szA l;have h3 := HQ.2;have h4 := HA.2.1;omega
   clear H hr he hfp hnd hvl hX hml hjv;have hki : (j : Int) < (n : Int) := by omega
   have hk0 : (0 : Int) <= (j : Int) := by omega
   have E1 := markText_str q wr hq1 (by omega);go_wp2_with fail;refine E1.mono ?_;rintro e w1 ⟨rfl, hb1⟩;have HM1 : Hid (MkA wr w1 base g n cap [g] X) := HM.below hb1;clear HM E1 hb1;obtain ⟨y0, c0⟩ := HM1.cell (i := j * 2) (by omega);have fz := fun i => HM1.free i
   go_wp2_with fail;clear c0 fz;obtain ⟨V, hV⟩ : ∃ V, V = w1.setCell ⟨g, j * 2, none⟩ (zG ⟨(mt q).toArray⟩) := ⟨_, rfl⟩;rw [<- hV];have HM2 : Hid (MkA wr V base g n cap [g] (X.set (j * 2) (zG ⟨(mt q).toArray⟩))) := by rw [hV]; exact HM1.out.put _ _
   clear hV HM1;have E1 := markText_str (q + 1) V (by omega) (by omega);rw [show (((q + 1 : Nat)) : Int) = (q : Int) + 1 from by omega] at E1;refine E1.mono ?_;rintro e w3 ⟨rfl, hb1⟩;have HM3 : Hid (MkA wr w3 base g n cap [g] (X.set (j * 2) (zG ⟨(mt q).toArray⟩))) := HM2.below hb1;clear HM2 E1 hb1;obtain ⟨y1, c1⟩ := HM3.cell (i := j * 2 + 1) (by omega);have fz := fun i => HM3.free i
   go_wp2_with fail
   go_roundw
   case rel => exact ⟨j + 1, q + 2, by omega, by go_num, by go_num, ⟨by omega, by omega⟩, HQ.2.symm, HE.out _ (HM3.out.put _ _) HQ.1⟩
   case measure => simp [intOf]; omega
  ·have hjl : n = j := by omega
   subst hjl;have HE : Hid (q = KK /\ (mkG mkA szA2 k l).take n ++ l.drop n = mkG mkA szA2 k l) := by
    have h1 := HA.2.1;refine ⟨?_, markG_all mkA szA2 (by omega)⟩;rw [<- HA.2.2.2, h1]; exact H.1
   go_wp2
   go_ret;refine ⟨by rw [HE.1]; rfl, ?_, H.2.2⟩;have h := H.2.1;rw [HE.2] at h;exact h
theorem heldAnchorS_same (l : List An) (v : Value) (k : Nat) (w : World) (hl : l.length <= 1048577) (hk1 : 1 <= k) (hk : k <= 100000000) (ha : AtS anKd w v (mkG mkA szA2 k l)) :
  Calls Tryz.prog 110 #[v, zI k] w fun e w' => e = .returned (zI ((posG szA2 k l l.length : Nat) : Int)) /\ zW w w' := by
 obtain ⟨ao, cap, hv⟩ := ha.shape;obtain ⟨n, hn⟩ := zE (l.length);rw [mkG_len, hn] at hv;subst hv;obtain ⟨KK, hKK⟩ : ∃ q : Nat, posG szA2 k l l.length = q := ⟨_, rfl⟩;rw [hKK];have HA : Hid (AtS anKd w (zS ao n cap) (mkG mkA szA2 k l) /\ l.length = n /\ posG szA2 k l l.length = KK) := ⟨ha, hn, hKK⟩;have hn20 : n <= 1048577 := by omega
 clear ha hn hl hKK;go_enter Tryz.func110, Tryz.ntmps110;go_wp2_with fail
 go_loopw [1, 5] (fun kv iv wr => ∃ j q : Nat, j <= n /\ iv = zI j /\ kv = zI q /\ (1 <= q /\ q <= 200000000) /\ Hid (q = posG szA2 k l j /\ zW w wr)) (fun _ iv _ => n - (intOf iv).toNat)
 case atStart => exact ⟨0, k, Nat.zero_le _, rfl, rfl, ⟨hk1, by omega⟩, by simp [posG], Below.refl _ _⟩
 case round =>
  obtain ⟨j, q, hj, rfl, rfl, ⟨hq1, hq2⟩, H⟩ := hrel;by_cases hjn : j < n
  ·have hjl : j < l.length := by rw [HA.2.1]; exact hjn
   have hjm : j < (mkG mkA szA2 k l).length := by rw [mkG_len]; exact hjl
   obtain ⟨g, off, u, hao, hgB, hPu, hus, hcell⟩ := HA.1.get hjm;rw [mkG_get mkA szA2 l k j hjl hjm, <- H.1] at hPu;have hup : u = anV (mkA q l[j]) := hPu;subst hao;have HC : Hid (∀ (W : World), zW w W -> ∀ i x, (Value.agg #[zG ⟨(mt q).toArray⟩, zG ⟨(mt (q + 1)).toArray⟩]).cells[i]? = some x -> W.cell? ⟨g, off + j * 2 + i, none⟩ = some x) := fun W hb i x hx => by
    refine (hb.cell (p := ⟨g, off + j * 2 + i, none⟩) hgB).trans (hcell i x ?_);rw [hup];exact hx
   have HQ : Hid (posG szA2 k l (j + 1) = q + 2) := by show _ = _; rw [posG_next szA2 hjl, <- H.1]; rfl
   have hqb : q + 2 <= 120000000 := by
    have h1 := posG_le szA2 k l (j + 1);have h2 := sum_szA l;have h3 := HQ.out;have h4 := HA.2.1;omega
   have HB : Hid (zW w wr) := H.2;clear H hus hcell hup hgB hjm hPu;have hki : (j : Int) < (n : Int) := by omega
   have hk0 : (0 : Int) <= (j : Int) := by omega
   go_upto_region 4 with fail;have hDr : zW wr wr.drew := (Below.refl _ _).drew;refine wp_region_held_drew (S := fun W => zW wr W) (by kernel_rfl) hDr (fun hHeld => ?_);clear hDr;generalize wr.drew = wd at hHeld |-;refine zQ 0 12 rfl hHeld ?_;refine zQ 1 13 rfl hHeld ?_;refine zQ 2 14 rfl hHeld ?_;refine zQ 3 15 rfl hHeld ?_;refine zT 4 16 ?_ rfl (by rfl) ?_ hHeld ?_;rotate_left
   ·intro W hSw
    have e0 : W.cell? ⟨g, off + j * 2, none⟩ = some (zG ⟨(mt q).toArray⟩) := HC.out W (HB.trans (hSw.mono HB.size)) 0 _ rfl;go_simp
    try with_reducible rfl
   refine zQ 5 17 rfl hHeld ?_;refine zR 6 18 rfl fun K hK => ?_
   go_simp;have E1 := markText_str (q) wd hq1 (by omega);refine E1.mono ?_;rintro e w3 ⟨rfl, hb3⟩;have hS3 : zW wr w3 := hHeld.trans (hb3.mono hHeld.size);clear hb3 E1;refine hK.out _ _ hS3 (fun hHeld => ?_);clear hK K hS3;refine zQ 7 19 rfl hHeld ?_;refine wpAnyH_done (by kernel_rfl) ?_ _;have HBn : Hid (zW w w3) := HB.trans (hHeld.mono HB.size);clear HB hHeld;have HB := HBn;clear HBn;go_upto_region 7 with fail;have hDr : zW w3 w3.drew := (Below.refl _ _).drew;refine wp_region_held_drew (S := fun W => zW w3 W) (by kernel_rfl) hDr (fun hHeld => ?_);clear hDr;generalize w3.drew = wd at hHeld |-;refine zQ 0 22 rfl hHeld ?_;refine zQ 1 23 rfl hHeld ?_;refine zQ 2 24 rfl hHeld ?_;refine zQ 3 25 rfl hHeld ?_;refine zT 4 26 ?_ rfl (by rfl) ?_ hHeld ?_;rotate_left
   ·intro W hSw
    have e0 : W.cell? ⟨g, off + j * 2 + 1, none⟩ = some (zG ⟨(mt (q + 1)).toArray⟩) := HC.out W (HB.trans (hSw.mono HB.size)) 1 _ rfl;go_simp
    try with_reducible rfl
   refine zQ 5 27 rfl hHeld ?_;refine zR 6 28 rfl fun K hK => ?_
   go_simp;have E1 := markText_str (q + 1) wd (by omega) (by omega);rw [show (((q + 1 : Nat)) : Int) = (q : Int) + 1 from by omega] at E1;refine E1.mono ?_;rintro e w4 ⟨rfl, hb3⟩;have hS3 : zW w3 w4 := hHeld.trans (hb3.mono hHeld.size);clear hb3 E1;refine hK.out _ _ hS3 (fun hHeld => ?_);clear hK K hS3;refine zQ 7 29 rfl hHeld ?_;refine wpAnyH_done (by kernel_rfl) ?_ _;have HBn : Hid (zW w w4) := HB.trans (hHeld.mono HB.size);clear HB hHeld;have HB := HBn;clear HBn;go_wp2_with fail
   go_roundw
   case rel => exact ⟨j + 1, q + 2, by omega, by go_num, by go_num, ⟨by omega, by omega⟩, HQ.out.symm, HB.out⟩
   case measure => simp [intOf]; omega
  ·have hjl : n = j := by omega
   subst hjl;have HE : Hid (q = KK) := by
    show q = KK;rw [<- HA.2.2, HA.2.1];exact H.1
   go_wp2
   go_ret;exact ⟨by rw [HE.out]; rfl, H.2⟩
def mkE (k : Nat) (c : Cl) : Cl := ⟨⟨(mt k).toArray⟩, ((k + 1 : Nat) : Int), ((k + 2 : Nat) : Int), ((k + 3 : Nat) : Int), ((k + 4 : Nat) : Int), marksR (k + 5) c.revs.length, ⟨(mt (k + 5 + 2 * c.revs.length)).toArray⟩⟩
def szE (c : Cl) : Nat := 6 + 2 * c.revs.length
def mkS : Nat -> List Cl -> List Cl
 | _, [] => []
 | k, c :: l => mkE k c :: mkS (k + szE c) l
def posS (k : Nat) (l : List Cl) (j : Nat) : Nat := k + ((l.map szE).take j).sum
theorem mkS_len : ∀ (k : Nat) (l : List Cl), (mkS k l).length = l.length
 | _, [] => rfl
 | k, c :: l => by simp [mkS, mkS_len]
theorem mkS_get : ∀ (l : List Cl) (k j : Nat) (h : j < l.length) (h' : j < (mkS k l).length), (mkS k l)[j] = mkE (posS k l j) l[j]
 | c :: l, k, 0, h, h' => by simp [mkS, posS]
 | c :: l, k, j + 1, h, h' => by
  have := mkS_get l (k + szE c) j (by simpa using h) (by rw [mkS_len]; simpa using h);simp only [mkS, List.getElem_cons_succ, this]
  congr 1
  simp [posS];omega
theorem posS_next {k : Nat} {l : List Cl} {j : Nat} (h : j < l.length) : posS k l (j + 1) = posS k l j + szE l[j] := by
 unfold posS;rw [sum_take (by rw [List.length_map]; exact h), List.getElem_map];omega
theorem sum_szE : ∀ l : List Cl, (l.map szE).sum <= 6 * wtS l
 | [] => by simp
 | c :: l => by
  have := sum_szE l;have h2 : c.revs.length <= wtL c := by unfold wtL; omega
  unfold wtS at this |-;simp only [List.map_cons, List.sum_cons, List.length_cons];unfold szE at this |-;omega
theorem posS_le (k : Nat) (l : List Cl) (j : Nat) : posS k l j <= k + 6 * wtS l := by
 have h1 := sum_take_le (l.map szE) j;have h2 := sum_szE l;unfold posS;omega
theorem mark_set {k : Nat} {l : List Cl} {j : Nat} (h : j < l.length) : ((mkS k l).take j ++ l.drop j).set j (mkE (posS k l j) l[j]) = (mkS k l).take (j + 1) ++ l.drop (j + 1) := by
 have hm : j < (mkS k l).length := by rw [mkS_len]; exact h
 have e : ((mkS k l).take j).length = j := by rw [List.length_take]; omega
 rw [List.set_append_right _ _ (by omega), e, Nat.sub_self, List.drop_eq_getElem_cons h, List.set_cons_zero, List.take_succ_eq_append_getElem hm, mkS_get l k j h hm, List.append_assoc];rfl
theorem mark_len {k : Nat} {l : List Cl} {j : Nat} (h : j <= l.length) : ((mkS k l).take j ++ l.drop j).length = l.length := by
 rw [List.length_append, List.length_take, List.length_drop, mkS_len];omega
theorem mark_get {k : Nat} {l : List Cl} {j : Nat} (h : j < l.length) (h' : j < ((mkS k l).take j ++ l.drop j).length) : ((mkS k l).take j ++ l.drop j)[j] = l[j] := by
 have e : ((mkS k l).take j).length = j := by rw [List.length_take, mkS_len]; omega
 rw [List.getElem_append_right (by omega)];simp [e]
theorem set_self {l : List Value} {i : Nat} {a : Value} (h : l[i]? = some a) : l.set i a = l := by
 apply List.ext_getElem?;intro j;rw [List.getElem?_set]
 split
 ·next e =>
  subst e;rw [h]
  split
  ·rfl
  ·next hn => rw [List.getElem?_eq_none (by omega)] at h; cases h
 ·rfl
def MkSt (w0 W : World) (base g n cap : Nat) (fq : List Nat) (X : List Value) (p : Value) (R : List (Int × Int)) : Prop :=
 W.ownsRow base 65 7 (zS (some ⟨g, 0, none⟩) n cap) n X /\ OwnR W base p R /\ Out fq w0 W /\ g ∈ fq /\ ∀ b, p.ownBlock = some b -> b ≠ g /\ b ∈ fq
theorem MkSt.below {w0 W W' : World} {base g n cap : Nat} {fq : List Nat} {X : List Value} {p : Value} {R : List (Int × Int)} (h : MkSt w0 W base g n cap fq X p R) (hb : zW W W') : MkSt w0 W' base g n cap fq X p R :=
 ⟨own_kept h.1 hb, h.2.1.stays hb, h.2.2.1.trans (Out.of_below hb), h.2.2.2⟩
theorem MkSt.put {w0 W : World} {base g n cap : Nat} {fq : List Nat} {X : List Value} {p : Value} {R : List (Int × Int)} (h : MkSt w0 W base g n cap fq X p R) (i : Nat) (x : Value) : MkSt w0 (W.setCell ⟨g, i, none⟩ x) base g n cap fq (X.set i x) p R :=
 ⟨(h.1.stored i x).1, row_same h.2.1 (fun b hb => heap_setCell_other _ _ _ _ (h.2.2.2.2 b hb).1), h.2.2.1.setCell _ _ h.2.2.2.1, h.2.2.2⟩
theorem MkSt.mark {w0 W W' : World} {base g n cap : Nat} {fq : List Nat} {X : List Value} {p : Value} {R R' : List (Int × Int)} (h : MkSt w0 W base g n cap fq X p R) (ho : OwnR W' base p R') (hg : W.grownBy W' p.ownBlock) : MkSt w0 W' base g n cap fq X p R' :=
 ⟨h.1.kept hg (.inr fun e => (h.2.2.2.2 g e.symm).1 rfl), ho, h.2.2.1.grown hg (fun q hq => (h.2.2.2.2 q hq).2), h.2.2.2⟩
theorem MkSt.cell {w0 W : World} {base g n cap : Nat} {fq : List Nat} {X : List Value} {p : Value} {R : List (Int × Int)} (h : MkSt w0 W base g n cap fq X p R) {i : Nat} (hi : i < n * 7) : ∃ x, W.cell? ⟨g, i, none⟩ = some x := by
 rw [World.ownsRow.cellAt h.1 i hi];exact ⟨X[i]'(by rw [h.1.1]; exact hi), List.getElem?_eq_getElem _⟩
theorem MkSt.free {w0 W : World} {base g n cap : Nat} {fq : List Nat} {X : List Value} {p : Value} {R : List (Int × Int)} (h : MkSt w0 W base g n cap fq X p R) (i : Nat) : W.frozen? ⟨g, i, none⟩ = false := World.ownsRow.frozenAt h.1 i
theorem OwnS.turn {w W : World} {base g n cap : Nat} {l : List Cl} {vs : List Value} {c' : Cl} {j : Nat} (hj : j < l.length) (hl : vs.length = l.length) (he : ∀ i (h1 : i < vs.length) (h2 : i < l.length), OwnL w base vs[i] l[i]) (hn : ((Value.slice (some ⟨g, 0, none⟩) n cap).ownBlock.toList ++ vs.flatMap fpL).Nodup) {u : Value} (hfp : fpL u = fpL (vs[j]'(by omega)))
  (hr : W.ownsRow base 65 7 (zS (some ⟨g, 0, none⟩) n cap) l.length (cellsV (vs.set j u))) (hu : OwnL W base u c') (ho : Out (g :: fpL (vs[j]'(by omega))) w W) : OwnS crlKd W base (zS (some ⟨g, 0, none⟩) n cap) (l.set j c') ((Value.slice (some ⟨g, 0, none⟩) n cap).ownBlock.toList ++ vs.flatMap fpL) := by
 have hjv : j < vs.length := by omega
 have e1 : vs = vs.take j ++ vs[j] :: vs.drop (j + 1) := by rw [List.getElem_cons_drop, List.take_append_drop]
 have e2 : vs.set j u = vs.take j ++ u :: vs.drop (j + 1) := List.set_eq_take_append_cons_drop.trans (by rw [if_pos hjv]);have e3 : (vs.set j u).flatMap fpL = vs.flatMap fpL := by
  rw [e2, List.flatMap_append, List.flatMap_cons, hfp, <- List.flatMap_cons, <- List.flatMap_append, <- e1]
 refine ⟨vs.set j u, by simp [hl], by rw [List.length_set]; exact hr, fun i h1 h2 => ?_, ?_, hn⟩
 ·rw [List.getElem_set, List.getElem_set]
  by_cases e : j = i
  ·rw [if_pos e, if_pos e]
   exact hu
  ·rw [if_neg e, if_neg e]
   have h3 : i < vs.length := by simpa using h1
   refine OwnL.same (he i h3 (by omega)) fun b hb => ho.2.2.2.2 b (fpL_lt (he i h3 (by omega)) b hb).2 fun hm => ?_
   have hq := List.nodup_append.1 hn
   rcases List.mem_cons.1 hm with rfl | hm
   ·exact hq.2.2 b (by simp [Value.ownBlock]) b (mem_flat h3 hb) rfl
   ·have hA : (vs.take j).flatMap fpL ++ (fpL vs[j] ++ (vs.drop (j + 1)).flatMap fpL) = vs.flatMap fpL := by
     rw [<- List.flatMap_cons, <- List.flatMap_append, <- e1]
    have hnf := hq.2.1;rw [<- hA] at hnf;have q1 := List.nodup_append.1 hnf;have q2 := List.nodup_append.1 q1.2.1
    rcases Nat.lt_or_ge i j with hij | hij
    ·refine q1.2.2 b (List.mem_flatMap.2 ⟨vs[i], ?_, hb⟩) b (List.mem_append_left _ hm) rfl
     rw [List.mem_take_iff_getElem];exact ⟨i, by omega, rfl⟩
    ·refine q2.2.2 b hm b (List.mem_flatMap.2 ⟨vs[i], ?_, hb⟩) rfl
     rw [List.mem_drop_iff_getElem];exact ⟨i - (j + 1), by omega, by congr 1; omega⟩
 ·show _ = _ ++ (vs.set j u).flatMap fpL
  rw [e3]
theorem markCrlS_big (l : List Cl) (v : Value) (k base : Nat) (fp : List Nat) (w : World) (hl : wtS l <= 1048577) (hk1 : 1 <= k) (hk : k <= 100000000) (ha : OwnS crlKd w base v l fp) :
  Calls Tryz.prog 105 #[v, zI k] w fun e w' => e = .returned (zI ((posS k l l.length : Nat) : Int)) /\ OwnS crlKd w' base v (mkS k l) fp /\ Out fp w w' := by
 obtain ⟨ao, cap, hv, hg, -, -⟩ := ha.shape;obtain ⟨n, hn⟩ := zE (l.length);rw [hn] at hv hg;subst hv;obtain ⟨KK, hKK⟩ : ∃ q : Nat, posS k l l.length = q := ⟨_, rfl⟩;rw [hKK];have HA : Hid (OwnS crlKd w base (zS ao n cap) l fp /\ l.length = n /\ wtS l <= 1048577 /\ (0 < n -> ∃ g, ao = some ⟨g, 0, none⟩) /\ posS k l l.length = KK) := ⟨ha, hn, hl, hg, hKK⟩;have hn20 : n <= 1048577 := by unfold wtS at hl; omega
 clear ha hn hl hg hKK;go_enter Tryz.func105, Tryz.ntmps105;go_wp2_with fail
 go_loopw [1, 5] (fun kv iv wr => ∃ j q : Nat, j <= n /\ iv = zI j /\ kv = zI q /\ (1 <= q /\ q <= 200000000) /\ Hid (q = posS k l j /\ OwnS crlKd wr base (zS ao n cap) ((mkS k l).take j ++ l.drop j) fp /\ Out fp w wr)) (fun _ iv _ => n - (intOf iv).toNat)
 case atStart => exact ⟨0, k, Nat.zero_le _, rfl, rfl, ⟨hk1, by omega⟩, by simp [posS], by simpa using HA.1, Out.refl _ _⟩
 case round =>
  obtain ⟨j, q, hj, rfl, rfl, ⟨hq1, hq2⟩, H⟩ := hrel;by_cases hjn : j < n
  ·have hjl : j < l.length := by rw [HA.2.1]; exact hjn
   obtain ⟨g, hg⟩ := HA.2.2.2.1 (by omega);subst hg;obtain ⟨vs, hvl, hr, he, hfp, hnd⟩ := H.2.1;have hml := mark_len (k := k) (Nat.le_of_lt hjl);have hjv : j < vs.length := by rw [hvl, hml]; exact hjl
   have hej : OwnL wr base vs[j] ((mkS k l).take j ++ l.drop j)[j] := he j hjv (by omega);rw [mark_get hjl] at hej;obtain ⟨c, hc⟩ := zE (l[j]);rw [hc] at hej;obtain ⟨p, hup, hop⟩ := hej;obtain ⟨m, hm⟩ := zE (c.revs.length);have hm20 : m <= 1048577 := by
    have h1 := wtS_mem (List.getElem_mem hjl);rw [hc] at h1;have h2 := HA.2.2.1;unfold wtL at h1;omega
   obtain ⟨pa, pc, hpv, -⟩ := hop.shape;rw [hm] at hpv;subst hpv;obtain ⟨X, hX⟩ := zE (cellsV vs);have HM : Hid (MkSt wr wr base g n cap (g :: fpL vs[j]) X (zS pa m pc) c.revs) := by
    refine ⟨by rw [<- hX]; rw [hml, HA.2.1] at hr; exact hr, hop, Out.refl _ _, List.mem_cons_self .., fun b hb => ⟨fun e => ?_, List.mem_cons_of_mem _ (by rw [hup]; exact fpL_mem.2 hb)⟩⟩;subst e;refine (List.nodup_append.1 (hfp ▸ hnd)).2.2 b (by simp [Value.ownBlock]) b (mem_flat (k := fpL) hjv (by rw [hup]; exact fpL_mem.2 hb)) rfl
   have HX5 : Hid (∀ i, i < 7 -> X[j * 7 + i]? = (clV c (zS pa m pc)).cells[i]?) := fun i hi => by
    rw [<- hX, <- hup];exact cellsV_at (OwnS.sizes (k := crlKd) hvl he) j hjv i hi
   have HE : Hid (∀ (W : World) (x0 x6 : ByteArray) (x1 x2 x3 x4 : Int) (c' : Cl), c' = ⟨x0, x1, x2, x3, x4, c'.revs, x6⟩ -> MkSt wr W base g n cap (g :: fpL vs[j]) ((((((X.set (j * 7) (zG x0)).set (j * 7 + 1) (zI x1)).set (j * 7 + 2) (zI x2)).set (j * 7 + 3) (zI x3)).set (j * 7 + 4) (zI x4)).set (j * 7 + 6) (zG x6)) (zS pa m pc) c'.revs -> c' = mkE q c -> (q = posS k l j -> OwnS crlKd W base (zS (some ⟨g, 0, none⟩) n cap) ((mkS k l).take (j + 1) ++ l.drop (j + 1)) fp /\ Out fp w W)) := fun W x0 x6 x1 x2 x3 x4 c' hc' hM hmk hq => by
    have hset : cellsV (vs.set j (.agg #[zG x0, zI x1, zI x2, zI x3, zI x4, zS pa m pc, zG x6])) = (((((X.set (j * 7) (zG x0)).set (j * 7 + 1) (zI x1)).set (j * 7 + 2) (zI x2)).set (j * 7 + 3) (zI x3)).set (j * 7 + 4) (zI x4)).set (j * 7 + 6) (zG x6) := by
     rw [<- setMany_cells (K := 7) (OwnS.sizes (k := crlKd) hvl he) j _ hjv rfl, hX];show ((((((X.set (j * 7) _).set (j * 7 + 1) _).set (j * 7 + 1 + 1) _).set (j * 7 + 1 + 1 + 1) _).set (j * 7 + 1 + 1 + 1 + 1) _).set (j * 7 + 1 + 1 + 1 + 1 + 1) _).set (j * 7 + 1 + 1 + 1 + 1 + 1 + 1) _ = _
     congr 1
     have h5 : X[j * 7 + 5]? = some (zS pa m pc) := HX5.out 5 (by decide);refine set_self ?_;rw [List.getElem?_set_ne (by omega), List.getElem?_set_ne (by omega), List.getElem?_set_ne (by omega), List.getElem?_set_ne (by omega), List.getElem?_set_ne (by omega)];exact h5
    have hT := OwnS.turn (c' := mkE q c) (cap := cap) (n := n) (j := j) (l := (mkS k l).take j ++ l.drop j) (by omega) hvl he (hfp ▸ hnd) (u := .agg #[zG x0, zI x1, zI x2, zI x3, zI x4, zS pa m pc, zG x6]) (by rw [hup]; rfl) (by rw [hset, hml, HA.2.1]; exact hM.1) ⟨zS pa m pc, by rw [<- hmk, hc']; rfl, by rw [<- hmk]; exact hM.2.1⟩ hM.2.2.1;refine ⟨?_, ?_⟩
    ·rw [hfp, <- mark_set hjl, <- hq, hc]
     exact hT
    ·refine H.2.2.trans (hM.2.2.1.mono fun b hb => ?_)
     rw [hfp]
     rcases List.mem_cons.1 hb with rfl | hb
     ·exact List.mem_append_left _ (by simp [Value.ownBlock])
     ·exact List.mem_append_right _ (mem_flat (k := fpL) hjv hb)
   have HQ := zH (zJ H.1 (zJ (by rw [posS_next hjl, hc, <- H.1]; unfold szE; rw [hm] : posS k l (j + 1) = q + (6 + 2 * m)) (zJ (posS_le _ _ _ : posS k l (j + 1) <= k + 6 * wtS l) (zJ HA.2.2.1 (hm : c.revs.length = m)))));clear H hr he hfp hnd hvl hop hX hml;have hki : (j : Int) < (n : Int) := by omega
   have hk0 : (0 : Int) <= (j : Int) := by omega
   generalize g :: fpL vs[j] = fq at HM HE;clear hup hjv hc hm;have E1 := markText_str q wr hq1 (by omega);go_wp2_with fail;refine E1.mono ?_;rintro e w1 ⟨rfl, hb1⟩;have HM1 : Hid (MkSt wr w1 base g n cap fq X (zS pa m pc) c.revs) := HM.below hb1;clear HM E1 hb1;obtain ⟨y0, c0⟩ := HM1.cell (i := j * 7) (by omega);obtain ⟨y1, c1⟩ := HM1.cell (i := j * 7 + 1) (by omega);obtain ⟨y2, c2⟩ := HM1.cell (i := j * 7 + 2) (by omega);obtain ⟨y3, c3⟩ := HM1.cell (i := j * 7 + 3) (by omega);obtain ⟨y4, c4⟩ := HM1.cell (i := j * 7 + 4) (by omega);have c5 : w1.cell? ⟨g, j * 7 + 5, none⟩ = some (zS pa m pc) := by rw [World.ownsRow.cellAt HM1.1 _ (by omega)]; exact HX5.out 5 (by decide)
   have fz := fun i => HM1.free i
   go_wp2_with fail;clear c0 c1 c2 c3 c4 c5 fz;obtain ⟨V, hV⟩ : ∃ V, V = (((((w1.setCell ⟨g, j * 7, none⟩ (zG ⟨(mt q).toArray⟩)).setCell ⟨g, j * 7 + 1, none⟩ (zI ((q : Int) + 1))).setCell ⟨g, j * 7 + 2, none⟩ (zI ((q : Int) + 1 + 1))).setCell ⟨g, j * 7 + 3, none⟩ (zI ((q : Int) + 1 + 1 + 1))).setCell ⟨g, j * 7 + 4, none⟩ (zI ((q : Int) + 1 + 1 + 1 + 1))) := ⟨_, rfl⟩;rw [<- hV];have HM5 : Hid (MkSt wr V base g n cap fq (((((X.set (j * 7) (zG ⟨(mt q).toArray⟩)).set (j * 7 + 1) (zI ((q : Int) + 1))).set (j * 7 + 2) (zI ((q : Int) + 1 + 1))).set (j * 7 + 3) (zI ((q : Int) + 1 + 1 + 1))).set (j * 7 + 4) (zI ((q : Int) + 1 + 1 + 1 + 1))) (zS pa m pc) c.revs) := by rw [hV]; exact ((((HM1.out.put _ _).put _ _).put _ _).put _ _).put _ _
   clear hV HM1;obtain ⟨q5, hq5⟩ := zE (q + 5 + 2 * m);have hq5b : q5 <= 200000000 := by have := HQ.out; omega
   have hq51 : 1 <= q5 := by omega
   have E5 := markR_any (zS pa m pc) c.revs (q + 5) base V (by rw [HQ.2.2.2.2]; omega) (by omega) HM5.2.1;rw [HQ.2.2.2.2, hq5, show (((q + 5 : Nat)) : Int) = (q : Int) + 1 + 1 + 1 + 1 + 1 from by omega] at E5;have HQ5 : Hid (q + 5 + 2 * m = q5) := hq5;clear hq5;refine E5.mono ?_;rintro e w5 ⟨rfl, ho5, hg5⟩;have HM6 : Hid (MkSt wr w5 base g n cap fq (((((X.set (j * 7) (zG ⟨(mt q).toArray⟩)).set (j * 7 + 1) (zI ((q : Int) + 1))).set (j * 7 + 2) (zI ((q : Int) + 1 + 1))).set (j * 7 + 3) (zI ((q : Int) + 1 + 1 + 1))).set (j * 7 + 4) (zI ((q : Int) + 1 + 1 + 1 + 1))) (zS pa m pc) (marksR (q + 5) m)) := HM5.out.mark ho5 hg5;clear HM5 E5 ho5 hg5;go_wp2_with fail;refine (markText_str q5 w5 hq51 (by omega)).mono ?_;rintro e w6 ⟨rfl, hb6⟩;have HM7 : Hid (MkSt wr w6 base g n cap fq (((((X.set (j * 7) (zG ⟨(mt q).toArray⟩)).set (j * 7 + 1) (zI ((q : Int) + 1))).set (j * 7 + 2) (zI ((q : Int) + 1 + 1))).set (j * 7 + 3) (zI ((q : Int) + 1 + 1 + 1))).set (j * 7 + 4) (zI ((q : Int) + 1 + 1 + 1 + 1))) (zS pa m pc) (marksR (q + 5) m)) := HM6.below hb6;clear HM6 hb6;obtain ⟨y6, c6⟩ := HM7.cell (i := j * 7 + 6) (by omega);have fz := fun i => HM7.free i
   go_wp2_with fail
   go_roundw
   case rel =>
    refine ⟨j + 1, q5 + 1, by omega, by go_num, by go_num, ⟨by omega, by have := HQ.out; have := HQ5.out; omega⟩, by have := HQ.out; have := HQ5.out; omega, ?_⟩;exact HE.out _ _ _ _ _ _ _ (mkE q c) (by unfold mkE; rw [HQ.2.2.2.2, HQ5.out]; try rfl) (by unfold mkE; rw [HQ.2.2.2.2]; exact HM7.out.put _ _) rfl HQ.1
   case measure => simp [intOf]; omega
  ·have hjl : j = n := by omega
   subst hjl;have HE : Hid (q = KK /\ (mkS k l).take j ++ l.drop j = mkS k l) := by
    have h1 := HA.2.1;refine ⟨?_, ?_⟩
    ·rw [<- HA.2.2.2.2, h1]; exact H.1
    ·rw [List.drop_eq_nil_of_le (by omega), List.append_nil, List.take_of_length_le (by rw [mkS_len]; omega)]
   go_wp2
   go_ret;refine ⟨by rw [HE.1]; rfl, ?_, H.2.2⟩;have h := H.2.1;rw [HE.2] at h;exact h
theorem heldCrlS_big (l : List Cl) (v : Value) (k : Nat) (w : World) (hl : wtS l <= 1048577) (hk1 : 1 <= k) (hk : k <= 100000000) (ha : AtS crlKd w v (mkS k l)) :
  Calls Tryz.prog 109 #[v, zI k] w fun e w' => e = .returned (zI ((posS k l l.length : Nat) : Int)) /\ zW w w' := by
 obtain ⟨ao, cap, hv⟩ := ha.shape;obtain ⟨n, hn⟩ := zE (l.length);rw [mkS_len, hn] at hv;subst hv;obtain ⟨KK, hKK⟩ : ∃ q : Nat, posS k l l.length = q := ⟨_, rfl⟩;rw [hKK];have HA : Hid (AtS crlKd w (zS ao n cap) (mkS k l) /\ l.length = n /\ wtS l <= 1048577 /\ posS k l l.length = KK) := ⟨ha, hn, hl, hKK⟩;have hn20 : n <= 1048577 := by unfold wtS at hl; omega
 clear ha hn hl hKK;go_enter Tryz.func109, Tryz.ntmps109;go_wp2_with fail
 go_loopw [1, 5] (fun kv iv wr => ∃ j q : Nat, j <= n /\ iv = zI j /\ kv = zI q /\ (1 <= q /\ q <= 200000000) /\ Hid (q = posS k l j /\ zW w wr)) (fun _ iv _ => n - (intOf iv).toNat)
 case atStart => exact ⟨0, k, Nat.zero_le _, rfl, rfl, ⟨hk1, by omega⟩, by simp [posS], Below.refl _ _⟩
 case round =>
  obtain ⟨j, q, hj, rfl, rfl, ⟨hq1, hq2⟩, H⟩ := hrel;by_cases hjn : j < n
  ·have hjl : j < l.length := by rw [HA.2.1]; exact hjn
   have hjm : j < (mkS k l).length := by rw [mkS_len]; exact hjl
   obtain ⟨g, off, u, hao, hgB, hPu, hus, hcell⟩ := HA.1.get hjm;rw [mkS_get l k j hjl hjm, <- H.1] at hPu;obtain ⟨c, hc⟩ := zE (l[j]);rw [hc] at hPu;obtain ⟨m, hm⟩ := zE (c.revs.length);have hm20 : m <= 1048577 := by
    have h1 := wtS_mem (List.getElem_mem hjl);rw [hc] at h1;have h2 := HA.2.2.1;unfold wtL at h1;omega
   obtain ⟨p, hup, hrv⟩ := hPu;change RevAt w p (marksR (q + 5) c.revs.length) at hrv;obtain ⟨pa, pc, hp, -⟩ := id hrv;rw [marksR_len, hm] at hp;subst hp;subst hao;rw [hm] at hrv;obtain ⟨q5, hq5⟩ := zE (q + 5 + 2 * m);have HC : Hid (∀ (W : World), zW w W -> ∀ i x, (Value.agg #[zG ⟨(mt q).toArray⟩, zI ((q : Int) + 1), zI ((q : Int) + 1 + 1), zI ((q : Int) + 1 + 1 + 1), zI ((q : Int) + 1 + 1 + 1 + 1), zS pa m pc, zG ⟨(mt q5).toArray⟩]).cells[i]? = some x -> W.cell? ⟨g, off + j * 7 + i, none⟩ = some x) := fun W hb i x hx => by
    refine (hb.cell (p := ⟨g, off + j * 7 + i, none⟩) hgB).trans (hcell i x ?_);rw [hup];unfold mkE clV;rw [hm, hq5];exact hx
   have HRV : Hid (RevAt w (zS pa m pc) (marksR (q + 5) m)) := hrv;have HQ := zH (zJ (by rw [posS_next hjl, hc, <- H.1]; unfold szE; rw [hm] : posS k l (j + 1) = q + (6 + 2 * m)) (zJ (posS_le _ _ _ : posS k l (j + 1) <= k + 6 * wtS l) (zJ HA.2.2.1 (hq5 : q + 5 + 2 * m = q5))));have hq5b : q5 <= 200000000 := by have := HQ.out; omega
   have hq51 : 1 <= q5 := by omega
   have HB : Hid (zW w wr) := H.2;clear H hus hcell hup hrv hc hm hq5 hgB hjm;have hki : (j : Int) < (n : Int) := by omega
   have hk0 : (0 : Int) <= (j : Int) := by omega
   go_upto_region 4 with fail;have hDr : zW wr wr.drew := (Below.refl _ _).drew;refine wp_region_held_drew (S := fun W => zW wr W) (by kernel_rfl) hDr (fun hHeld => ?_);clear hDr;generalize wr.drew = wd at hHeld |-;refine zQ 0 12 rfl hHeld ?_;refine zQ 1 13 rfl hHeld ?_;refine zQ 2 14 rfl hHeld ?_;refine zQ 3 15 rfl hHeld ?_;refine zT 4 16 ?_ rfl (by rfl) ?_ hHeld ?_;rotate_left
   ·intro W hSw
    have e0 : W.cell? ⟨g, off + j * 7, none⟩ = some (zG ⟨(mt q).toArray⟩) := HC.out W (HB.trans (hSw.mono HB.size)) 0 _ rfl;go_simp
    try with_reducible rfl
   refine zQ 5 17 rfl hHeld ?_;refine zR 6 18 rfl fun K hK => ?_
   go_simp;refine (markText_str q wd hq1 (by omega)).mono ?_;rintro e w3 ⟨rfl, hb3⟩;have hS3 : zW wr w3 := hHeld.trans (hb3.mono hHeld.size);clear hb3;refine hK.out _ _ hS3 (fun hHeld => ?_);clear hK K hS3;refine zQ 7 19 rfl hHeld ?_;refine wpAnyH_done (by kernel_rfl) ?_ _;have HBn : Hid (zW w w3) := HB.trans (hHeld.mono HB.size);clear HB hHeld;have HB := HBn;clear HBn;have c1 : w3.cell? ⟨g, off + j * 7 + 1, none⟩ = some (zI ((q : Int) + 1)) := HC.out w3 HB.out 1 _ rfl;have c2 : w3.cell? ⟨g, off + j * 7 + 2, none⟩ = some (zI ((q : Int) + 1 + 1)) := HC.out w3 HB.out 2 _ rfl;have c3 : w3.cell? ⟨g, off + j * 7 + 3, none⟩ = some (zI ((q : Int) + 1 + 1 + 1)) := HC.out w3 HB.out 3 _ rfl;have c4 : w3.cell? ⟨g, off + j * 7 + 4, none⟩ = some (zI ((q : Int) + 1 + 1 + 1 + 1)) := HC.out w3 HB.out 4 _ rfl;have c5 : w3.cell? ⟨g, off + j * 7 + 5, none⟩ = some (zS pa m pc) := HC.out w3 HB.out 5 _ rfl;have E5 := heldR_same (zS pa m pc) m (q + 5) w3 (by omega) (by omega) (HRV.below HB.out);rw [HQ.2.2.2, show (((q + 5 : Nat)) : Int) = (q : Int) + 1 + 1 + 1 + 1 + 1 from by omega] at E5;go_wp2_with fail;clear c1 c2 c3 c4 c5;refine E5.mono ?_;rintro e w4 ⟨rfl, hb4⟩;have HBn : Hid (zW w w4) := HB.trans (hb4.mono HB.size);clear HB hb4 E5;have HB := HBn;clear HBn;have hq5n : ¬ (q5 : Int) < 0 := by omega
   go_upto_region 22 with fail;have hDr : zW w4 w4.drew := (Below.refl _ _).drew;refine wp_region_held_drew (S := fun W => zW w4 W) (by kernel_rfl) hDr (fun hHeld => ?_);clear hDr;generalize w4.drew = wd at hHeld |-;refine zQ 0 67 rfl hHeld ?_;refine zQ 1 68 rfl hHeld ?_;refine zQ 2 69 rfl hHeld ?_;refine zQ 3 70 rfl hHeld ?_;refine zT 4 71 ?_ rfl (by rfl) ?_ hHeld ?_;rotate_left
   ·intro W hSw
    have e0 : W.cell? ⟨g, off + j * 7 + 6, none⟩ = some (zG ⟨(mt q5).toArray⟩) := HC.out W (HB.trans (hSw.mono HB.size)) 6 _ rfl;go_simp
    try with_reducible rfl
   refine zQ 5 72 rfl hHeld ?_;refine zR 6 73 rfl fun K hK => ?_
   go_simp;refine (markText_str q5 wd hq51 (by omega)).mono ?_;rintro e w3 ⟨rfl, hb3⟩;have hS3 : zW w4 w3 := hHeld.trans (hb3.mono hHeld.size);clear hb3;refine hK.out _ _ hS3 (fun hHeld => ?_);clear hK K hS3;refine zQ 7 74 rfl hHeld ?_;refine wpAnyH_done (by kernel_rfl) ?_ _;have HBn : Hid (zW w w3) := HB.trans (hHeld.mono HB.size);clear HB hHeld;have HB := HBn;clear HBn;go_wp2_with fail
   go_roundw
   case rel => exact ⟨j + 1, q5 + 1, by omega, by go_num, by go_num, ⟨by omega, by have := HQ.out; omega⟩, by have := HQ.out; omega, HB.out⟩
   case measure => simp [intOf]; omega
  ·have hjl : j = n := by omega
   subst hjl;have HE : Hid (q = KK) := by
    show q = KK;rw [<- HA.2.2.2, HA.2.1];exact H.1
   go_wp2
   go_ret;exact ⟨by rw [HE.out]; rfl, H.2⟩
end Go.Proofs.YtabfamhaihnccaaGreat
