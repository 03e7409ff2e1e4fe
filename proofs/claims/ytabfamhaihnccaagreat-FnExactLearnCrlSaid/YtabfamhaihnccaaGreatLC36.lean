/-
  Texts of the proof.
-/
import Derived.Deep.RegionHeld3
import Derived.Test.YtabfamhaihnccaaGreatLC14
set_option linter.unusedVariables false
set_option linter.unusedSimpArgs false
set_option maxRecDepth 100000
set_option maxHeartbeats 25600000
namespace Go.Proofs.YtabfamhaihnccaaGreat
open Go.RowKit
section
variable {α : Type} (mk : Nat -> α -> α) (sz : α -> Nat)
def mkG : Nat -> List α -> List α
 | _, [] => []
 | k, c :: l => mk k c :: mkG (k + sz c) l
def posG (k : Nat) (l : List α) (j : Nat) : Nat := k + ((l.map sz).take j).sum
theorem mkG_len : ∀ (k : Nat) (l : List α), (mkG mk sz k l).length = l.length
 | _, [] => rfl
 | k, c :: l => by simp [mkG, mkG_len]
theorem mkG_get : ∀ (l : List α) (k j : Nat) (h : j < l.length) (h' : j < (mkG mk sz k l).length), (mkG mk sz k l)[j] = mk (posG sz k l j) l[j]
 | c :: l, k, 0, h, h' => by simp [mkG, posG]
 | c :: l, k, j + 1, h, h' => by
  have := mkG_get l (k + sz c) j (by simpa using h) (by rw [mkG_len]; simpa using h);simp only [mkG, List.getElem_cons_succ, this]
  congr 1
  simp [posG];omega
theorem posG_next {k : Nat} {l : List α} {j : Nat} (h : j < l.length) : posG sz k l (j + 1) = posG sz k l j + sz l[j] := by
 unfold posG;rw [sum_take (by rw [List.length_map]; exact h), List.getElem_map];omega
theorem posG_le (k : Nat) (l : List α) (j : Nat) : posG sz k l j <= k + (l.map sz).sum := by
 have h1 := sum_take_le (l.map sz) j;unfold posG;omega
theorem markG_set {k : Nat} {l : List α} {j : Nat} (h : j < l.length) : ((mkG mk sz k l).take j ++ l.drop j).set j (mk (posG sz k l j) l[j]) = (mkG mk sz k l).take (j + 1) ++ l.drop (j + 1) := by
 have hm : j < (mkG mk sz k l).length := by rw [mkG_len]; exact h
 have e : ((mkG mk sz k l).take j).length = j := by rw [List.length_take]; omega
 rw [List.set_append_right _ _ (by omega), e, Nat.sub_self, List.drop_eq_getElem_cons h, List.set_cons_zero, List.take_succ_eq_append_getElem hm, mkG_get mk sz l k j h hm, List.append_assoc];rfl
theorem markG_len {k : Nat} {l : List α} {j : Nat} (h : j <= l.length) : ((mkG mk sz k l).take j ++ l.drop j).length = l.length := by
 rw [List.length_append, List.length_take, List.length_drop, mkG_len];omega
theorem markG_get {k : Nat} {l : List α} {j : Nat} (h : j < l.length) (h' : j < ((mkG mk sz k l).take j ++ l.drop j).length) : ((mkG mk sz k l).take j ++ l.drop j)[j] = l[j] := by
 have e : ((mkG mk sz k l).take j).length = j := by rw [List.length_take, mkG_len]; omega
 rw [List.getElem_append_right (by omega)];simp [e]
theorem markG_all {k : Nat} {l : List α} {j : Nat} (h : l.length <= j) : (mkG mk sz k l).take j ++ l.drop j = mkG mk sz k l := by
 rw [List.drop_eq_nil_of_le h, List.append_nil, List.take_of_length_le (by rw [mkG_len]; exact h)]
end
theorem set_selfG {l : List Value} {i : Nat} {a : Value} (h : l[i]? = some a) : l.set i a = l := by
 apply List.ext_getElem?;intro j;rw [List.getElem?_set]
 split
 ·next e =>
  subst e;rw [h]
  split
  ·rfl
  ·next hn => rw [List.getElem?_eq_none (by omega)] at h; cases h
 ·rfl
theorem OwnS.turnK {α : Type} (k : Kd α) {w W : World} {base g n cap : Nat} {l : List α} {vs : List Value} {c' : α} {j : Nat} (hj : j < l.length) (hl : vs.length = l.length) (he : ∀ i (h1 : i < vs.length) (h2 : i < l.length), k.Own w base vs[i] l[i]) (hn : ((Value.slice (some ⟨g, 0, none⟩) n cap).ownBlock.toList ++ vs.flatMap k.fp).Nodup) {u : Value} (hfp : k.fp u = k.fp (vs[j]'(by omega)))
  (hr : W.ownsRow base k.T k.K (zS (some ⟨g, 0, none⟩) n cap) l.length (cellsV (vs.set j u))) (hu : k.Own W base u c') (ho : Out (g :: k.fp (vs[j]'(by omega))) w W) : OwnS k W base (zS (some ⟨g, 0, none⟩) n cap) (l.set j c') ((Value.slice (some ⟨g, 0, none⟩) n cap).ownBlock.toList ++ vs.flatMap k.fp) := by
 have hjv : j < vs.length := by omega
 have e1 : vs = vs.take j ++ vs[j] :: vs.drop (j + 1) := by rw [List.getElem_cons_drop, List.take_append_drop]
 have e2 : vs.set j u = vs.take j ++ u :: vs.drop (j + 1) := List.set_eq_take_append_cons_drop.trans (by rw [if_pos hjv]);have e3 : (vs.set j u).flatMap k.fp = vs.flatMap k.fp := by
  rw [e2, List.flatMap_append, List.flatMap_cons, hfp, <- List.flatMap_cons, <- List.flatMap_append, <- e1]
 refine ⟨vs.set j u, by simp [hl], by rw [List.length_set]; exact hr, fun i h1 h2 => ?_, ?_, hn⟩
 ·rw [List.getElem_set, List.getElem_set]
  by_cases e : j = i
  ·rw [if_pos e, if_pos e]
   exact hu
  ·rw [if_neg e, if_neg e]
   have h3 : i < vs.length := by simpa using h1
   refine k.same (he i h3 (by omega)) fun b hb => ho.2.2.2.2 b (k.lt (he i h3 (by omega)) b hb).2 fun hm => ?_
   have hq := List.nodup_append.1 hn
   rcases List.mem_cons.1 hm with rfl | hm
   ·exact hq.2.2 b (by simp [Value.ownBlock]) b (mem_flat h3 hb) rfl
   ·have hA : (vs.take j).flatMap k.fp ++ (k.fp vs[j] ++ (vs.drop (j + 1)).flatMap k.fp) = vs.flatMap k.fp := by
     rw [<- List.flatMap_cons, <- List.flatMap_append, <- e1]
    have hnf := hq.2.1;rw [<- hA] at hnf;have q1 := List.nodup_append.1 hnf;have q2 := List.nodup_append.1 q1.2.1
    rcases Nat.lt_or_ge i j with hij | hij
    ·refine q1.2.2 b (List.mem_flatMap.2 ⟨vs[i], ?_, hb⟩) b (List.mem_append_left _ hm) rfl
     rw [List.mem_take_iff_getElem];exact ⟨i, by omega, rfl⟩
    ·refine q2.2.2 b hm b (List.mem_flatMap.2 ⟨vs[i], ?_, hb⟩) rfl
     rw [List.mem_drop_iff_getElem];exact ⟨i - (j + 1), by omega, by congr 1; omega⟩
 ·show _ = _ ++ (vs.set j u).flatMap k.fp
  rw [e3]
def mkM (k : Nat) (c : Ct) : Ct := ⟨(k : Int), ⟨(mt (k + 1)).toArray⟩, ⟨(mt (k + 2)).toArray⟩, (k : Int) + 1 + 1 + 1, (k : Int) + 1 + 1 + 1 + 1, ⟨(mt (k + 5)).toArray⟩, decide ((k + 6) % 3 = 0), (k : Int) + 1 + 1 + 1 + 1 + 1 + 1 + 1, (k : Int) + 1 + 1 + 1 + 1 + 1 + 1 + 1 + 1, marksI (k + 9) c.pol.length, marksT (k + 9 + c.pol.length) c.per.length, marksT (k + 9 + c.pol.length + c.per.length) c.den.length, ⟨(mt (k + 9 + c.pol.length + c.per.length + c.den.length)).toArray⟩⟩
def szM (c : Ct) : Nat := 10 + c.pol.length + c.per.length + c.den.length
theorem szM_wt (c : Ct) : szM c <= 10 + wtC c := by
 have h1 := tot_len c.per;have h2 := tot_len c.den;unfold szM wtC;omega
theorem sum_szM : ∀ l : List Ct, (l.map szM).sum <= 10 * wtM l
 | [] => by simp
 | c :: l => by
  have := sum_szM l;have h2 := szM_wt c;unfold wtM at this |-;simp only [List.map_cons, List.sum_cons, List.length_cons];omega
def MkM (w0 W : World) (base g n cap : Nat) (fq : List Nat) (X : List Value) (p e d : Value) (P : List Int) (E D : List ByteArray) : Prop :=
 W.ownsRow base 52 13 (zS (some ⟨g, 0, none⟩) n cap) n X /\ (OwnI W base p P /\ OwnT W base e E /\ OwnT W base d D) /\ Out fq w0 W /\ g ∈ fq /\ (∀ b, p.ownBlock = some b ∨ e.ownBlock = some b ∨ d.ownBlock = some b -> b ≠ g /\ b ∈ fq) /\ ((Ap p e /\ Ap e p) /\ (Ap p d /\ Ap d p) /\ Ap e d /\ Ap d e)
section
variable {w0 W W' : World} {base g n cap : Nat} {fq : List Nat} {X : List Value} {p e d : Value} {P P' : List Int} {E D E' D' : List ByteArray}
theorem MkM.below (h : MkM w0 W base g n cap fq X p e d P E D) (hb : zW W W') : MkM w0 W' base g n cap fq X p e d P E D :=
 ⟨own_kept h.1 hb, ⟨h.2.1.1.stays hb, h.2.1.2.1.stays hb, h.2.1.2.2.stays hb⟩, h.2.2.1.trans (Out.of_below hb), h.2.2.2⟩
theorem MkM.put (h : MkM w0 W base g n cap fq X p e d P E D) (i : Nat) (x : Value) : MkM w0 (W.setCell ⟨g, i, none⟩ x) base g n cap fq (X.set i x) p e d P E D :=
 ⟨(h.1.stored i x).1, ⟨row_same h.2.1.1 (fun b hb => heap_setCell_other _ _ _ _ (h.2.2.2.2.1 b (.inl hb)).1), row_same h.2.1.2.1 (fun b hb => heap_setCell_other _ _ _ _ (h.2.2.2.2.1 b (.inr (.inl hb))).1), row_same h.2.1.2.2 (fun b hb => heap_setCell_other _ _ _ _ (h.2.2.2.2.1 b (.inr (.inr hb))).1)⟩, h.2.2.1.setCell _ _ h.2.2.2.1, h.2.2.2⟩
theorem MkM.markP (h : MkM w0 W base g n cap fq X p e d P E D) (ho : OwnI W' base p P') (hg : W.grownBy W' p.ownBlock) : MkM w0 W' base g n cap fq X p e d P' E D :=
 ⟨h.1.kept hg (.inr fun e => (h.2.2.2.2.1 g (.inl e.symm)).1 rfl), ⟨ho, World.ownsRow.kept h.2.1.2.1 hg h.2.2.2.2.2.1.2, World.ownsRow.kept h.2.1.2.2 hg h.2.2.2.2.2.2.1.2⟩, h.2.2.1.grown hg (fun q hq => (h.2.2.2.2.1 q (.inl hq)).2), h.2.2.2⟩
theorem MkM.markE (h : MkM w0 W base g n cap fq X p e d P E D) (ho : OwnT W' base e E') (hg : W.grownBy W' e.ownBlock) : MkM w0 W' base g n cap fq X p e d P E' D :=
 ⟨h.1.kept hg (.inr fun e => (h.2.2.2.2.1 g (.inr (.inl e.symm))).1 rfl), ⟨World.ownsRow.kept h.2.1.1 hg h.2.2.2.2.2.1.1, ho, World.ownsRow.kept h.2.1.2.2 hg h.2.2.2.2.2.2.2.2⟩, h.2.2.1.grown hg (fun q hq => (h.2.2.2.2.1 q (.inr (.inl hq))).2), h.2.2.2⟩
theorem MkM.markD (h : MkM w0 W base g n cap fq X p e d P E D) (ho : OwnT W' base d D') (hg : W.grownBy W' d.ownBlock) : MkM w0 W' base g n cap fq X p e d P E D' :=
 ⟨h.1.kept hg (.inr fun e => (h.2.2.2.2.1 g (.inr (.inr e.symm))).1 rfl), ⟨World.ownsRow.kept h.2.1.1 hg h.2.2.2.2.2.2.1.1, World.ownsRow.kept h.2.1.2.1 hg h.2.2.2.2.2.2.2.1, ho⟩, h.2.2.1.grown hg (fun q hq => (h.2.2.2.2.1 q (.inr (.inr hq))).2), h.2.2.2⟩
theorem MkM.cell (h : MkM w0 W base g n cap fq X p e d P E D) {i : Nat} (hi : i < n * 13) : ∃ x, W.cell? ⟨g, i, none⟩ = some x := by
 rw [World.ownsRow.cellAt h.1 i hi];exact ⟨X[i]'(by rw [h.1.1]; exact hi), List.getElem?_eq_getElem _⟩
theorem MkM.at (h : MkM w0 W base g n cap fq X p e d P E D) {i : Nat} (hi : i < n * 13) : W.cell? ⟨g, i, none⟩ = X[i]? := World.ownsRow.cellAt h.1 i hi
theorem MkM.free (h : MkM w0 W base g n cap fq X p e d P E D) (i : Nat) : W.frozen? ⟨g, i, none⟩ = false := World.ownsRow.frozenAt h.1 i
end
theorem markCertS_out (l : List Ct) (v : Value) (k base : Nat) (fp : List Nat) (w : World) (hl : wtM l <= 1048577) (hk1 : 1 <= k) (hk : k <= 100000000) (ha : OwnS certKd w base v l fp) :
  Calls Tryz.prog 104 #[v, zI k] w fun e w' => e = .returned (zI ((posG szM k l l.length : Nat) : Int)) /\ OwnS certKd w' base v (mkG mkM szM k l) fp /\ Out fp w w' := by
 obtain ⟨ao, cap, hv, hg, -, -⟩ := ha.shape;obtain ⟨n, hn⟩ := zE (l.length);rw [hn] at hv hg;subst hv;obtain ⟨KK, hKK⟩ : ∃ q : Nat, posG szM k l l.length = q := ⟨_, rfl⟩;rw [hKK];have HA : Hid (OwnS certKd w base (zS ao n cap) l fp /\ l.length = n /\ wtM l <= 1048577 /\ (0 < n -> ∃ g, ao = some ⟨g, 0, none⟩) /\ posG szM k l l.length = KK) := ⟨ha, hn, hl, hg, hKK⟩;have hn20 : n <= 1048577 := by unfold wtM at hl; omega
 clear ha hn hl hg hKK;go_enter Tryz.func104, Tryz.ntmps104;go_wp2_with fail
 go_loopw [1, 5] (fun kv iv wr => ∃ j q : Nat, j <= n /\ iv = zI j /\ kv = zI q /\ (1 <= q /\ q <= 200000000) /\ Hid (q = posG szM k l j /\ OwnS certKd wr base (zS ao n cap) ((mkG mkM szM k l).take j ++ l.drop j) fp /\ Out fp w wr)) (fun _ iv _ => n - (intOf iv).toNat)
 case atStart => exact ⟨0, k, Nat.zero_le _, rfl, rfl, ⟨hk1, by omega⟩, by simp [posG], by simpa using HA.1, Out.refl _ _⟩
 case round =>
  obtain ⟨j, q, hj, rfl, rfl, ⟨hq1, hq2⟩, H⟩ := hrel;by_cases hjn : j < n
  ·have hjl : j < l.length := by rw [HA.2.1]; exact hjn
   obtain ⟨g, hg⟩ := HA.2.2.2.1 (by omega);subst hg;obtain ⟨vs, hvl, hr, he, hfp, hnd⟩ := H.2.1;have hml := markG_len mkM szM (k := k) (Nat.le_of_lt hjl);have hjv : j < vs.length := by rw [hvl, hml]; exact hjl
   have hej : OwnC wr base vs[j] ((mkG mkM szM k l).take j ++ l.drop j)[j] := he j hjv (by omega);rw [markG_get mkM szM hjl] at hej;obtain ⟨c, hc⟩ := zE (l[j]);rw [hc] at hej;obtain ⟨p, e, d, hup, hop, hoe, hod, hap⟩ := hej;obtain ⟨lp, hlp⟩ := zE (c.pol.length);obtain ⟨le, hle⟩ := zE (c.per.length);obtain ⟨ld, hld⟩ := zE (c.den.length);obtain ⟨pa, pc, hpv⟩ : ∃ ao cap, p = zS ao c.pol.length cap := by obtain ⟨ao, cap, h, _⟩ := hop.at; exact ⟨ao, cap, h⟩
   obtain ⟨ea, ec, hev⟩ : ∃ ao cap, e = zS ao c.per.length cap := by obtain ⟨ao, cap, h, _⟩ := hoe.at; exact ⟨ao, cap, h⟩
   obtain ⟨da, dc, hdv⟩ : ∃ ao cap, d = zS ao c.den.length cap := by obtain ⟨ao, cap, h, _⟩ := hod.at; exact ⟨ao, cap, h⟩
   rw [hlp] at hpv;rw [hle] at hev;rw [hld] at hdv;subst hpv hev hdv;obtain ⟨X, hX⟩ := zE (cellsV vs);have HM : Hid (MkM wr wr base g n cap (g :: fpC vs[j]) X (zS pa lp pc) (zS ea le ec) (zS da ld dc) c.pol c.per c.den) := by
    refine ⟨by rw [<- hX]; rw [hml, HA.2.1] at hr; exact hr, ⟨hop, hoe, hod⟩, Out.refl _ _, List.mem_cons_self .., fun b hb => ⟨fun e => ?_, List.mem_cons_of_mem _ (by rw [hup]; exact fpC_mem.2 hb)⟩, hap⟩;subst e;refine (List.nodup_append.1 (hfp ▸ hnd)).2.2 b (by simp [Value.ownBlock]) b (mem_flat (k := fpC) hjv (by rw [hup]; exact fpC_mem.2 hb)) rfl
   have HX5 : Hid (∀ i, i < 13 -> X[j * 13 + i]? = (ctV c (zS pa lp pc) (zS ea le ec) (zS da ld dc)).cells[i]?) := fun i hi => by
    rw [<- hX, <- hup];exact cellsV_at (OwnS.sizes (k := certKd) hvl he) j hjv i hi
   have HE : Hid (∀ (W : World) (x1 x2 x5 x12 : ByteArray) (x0 x3 x4 x7 x8 : Int) (x6 : Bool) (c' : Ct), c' = ⟨x0, x1, x2, x3, x4, x5, x6, x7, x8, c'.pol, c'.per, c'.den, x12⟩ -> MkM wr W base g n cap (g :: fpC vs[j]) ((((((((((X.set (j * 13) (zI x0)).set (j * 13 + 1) (zG x1)).set (j * 13 + 2) (zG x2)).set (j * 13 + 3) (zI x3)).set (j * 13 + 4) (zI x4)).set (j * 13 + 5) (zG x5)).set (j * 13 + 6) (.bool x6)).set (j * 13 + 7) (zI x7)).set (j * 13 + 8) (zI x8)).set (j * 13 + 12) (zG x12)) (zS pa lp pc) (zS ea le ec) (zS da ld dc) c'.pol c'.per c'.den -> c' = mkM q c -> (q = posG szM k l j -> OwnS certKd W base (zS (some ⟨g, 0, none⟩) n cap) ((mkG mkM szM k l).take (j + 1) ++ l.drop (j + 1)) fp /\ Out fp w W)) := fun W x1 x2 x5 x12 x0 x3 x4 x7 x8 x6 c' hc' hM hmk hq => by
    have hset : cellsV (vs.set j (.agg #[zI x0, zG x1, zG x2, zI x3, zI x4, zG x5, .bool x6, zI x7, zI x8, zS pa lp pc, zS ea le ec, zS da ld dc, zG x12])) = ((((((((((X.set (j * 13) (zI x0)).set (j * 13 + 1) (zG x1)).set (j * 13 + 2) (zG x2)).set (j * 13 + 3) (zI x3)).set (j * 13 + 4) (zI x4)).set (j * 13 + 5) (zG x5)).set (j * 13 + 6) (.bool x6)).set (j * 13 + 7) (zI x7)).set (j * 13 + 8) (zI x8)).set (j * 13 + 12) (zG x12)) := by
     rw [<- setMany_cells (K := 13) (OwnS.sizes (k := certKd) hvl he) j _ hjv rfl, hX];show ((((((((((((X.set (j * 13) (zI x0)).set (j * 13 + 1) (zG x1)).set (j * 13 + 2) (zG x2)).set (j * 13 + 3) (zI x3)).set (j * 13 + 4) (zI x4)).set (j * 13 + 5) (zG x5)).set (j * 13 + 6) (.bool x6)).set (j * 13 + 7) (zI x7)).set (j * 13 + 8) (zI x8)).set (j * 13 + 9) (zS pa lp pc)).set (j * 13 + 10) (zS ea le ec)).set (j * 13 + 11) (zS da ld dc)).set (j * 13 + 12) _ = _
     congr 1
     have h9 : X[j * 13 + 9]? = some (zS pa lp pc) := HX5.out 9 (by decide);have h10 : X[j * 13 + 10]? = some (zS ea le ec) := HX5.out 10 (by decide);have h11 : X[j * 13 + 11]? = some (zS da ld dc) := HX5.out 11 (by decide);have s9 := set_selfG (l := (((((((((X.set (j * 13) (zI x0)).set (j * 13 + 1) (zG x1)).set (j * 13 + 2) (zG x2)).set (j * 13 + 3) (zI x3)).set (j * 13 + 4) (zI x4)).set (j * 13 + 5) (zG x5)).set (j * 13 + 6) (.bool x6)).set (j * 13 + 7) (zI x7)).set (j * 13 + 8) (zI x8))) (i := j * 13 + 9) (a := zS pa lp pc) (by (iterate 9 rw [List.getElem?_set_ne (by omega)]); exact h9);have s10 := set_selfG (l := (((((((((X.set (j * 13) (zI x0)).set (j * 13 + 1) (zG x1)).set (j * 13 + 2) (zG x2)).set (j * 13 + 3) (zI x3)).set (j * 13 + 4) (zI x4)).set (j * 13 + 5) (zG x5)).set (j * 13 + 6) (.bool x6)).set (j * 13 + 7) (zI x7)).set (j * 13 + 8) (zI x8))) (i := j * 13 + 10) (a := zS ea le ec) (by (iterate 9 rw [List.getElem?_set_ne (by omega)]); exact h10);have s11 := set_selfG (l := (((((((((X.set (j * 13) (zI x0)).set (j * 13 + 1) (zG x1)).set (j * 13 + 2) (zG x2)).set (j * 13 + 3) (zI x3)).set (j * 13 + 4) (zI x4)).set (j * 13 + 5) (zG x5)).set (j * 13 + 6) (.bool x6)).set (j * 13 + 7) (zI x7)).set (j * 13 + 8) (zI x8))) (i := j * 13 + 11) (a := zS da ld dc) (by (iterate 9 rw [List.getElem?_set_ne (by omega)]); exact h11);rw [s9, s10, s11]
    have hT := OwnS.turnK certKd (c' := mkM q c) (cap := cap) (n := n) (j := j) (l := (mkG mkM szM k l).take j ++ l.drop j) (by omega) hvl he (hfp ▸ hnd) (u := .agg #[zI x0, zG x1, zG x2, zI x3, zI x4, zG x5, .bool x6, zI x7, zI x8, zS pa lp pc, zS ea le ec, zS da ld dc, zG x12]) (by rw [hup]; rfl) (by rw [hset, hml, HA.2.1]; exact hM.1) ⟨zS pa lp pc, zS ea le ec, zS da ld dc, by rw [<- hmk, hc']; rfl, by rw [<- hmk]; exact hM.2.1.1, by rw [<- hmk]; exact hM.2.1.2.1, by rw [<- hmk]; exact hM.2.1.2.2, hM.2.2.2.2.2⟩ hM.2.2.1;refine ⟨?_, ?_⟩
    ·rw [hfp, <- markG_set mkM szM hjl, <- hq, hc]
     exact hT
    ·refine H.2.2.trans (hM.2.2.1.mono fun b hb => ?_)
     rw [hfp]
     rcases List.mem_cons.1 hb with rfl | hb
     ·exact List.mem_append_left _ (by simp [Value.ownBlock])
     ·exact List.mem_append_right _ (mem_flat (k := fpC) hjv hb)
   have HL : Hid (c.pol.length = lp /\ c.per.length = le /\ c.den.length = ld) := ⟨hlp, hle, hld⟩;have HQ := zH (zJ H.1 (by rw [posG_next szM hjl, hc, <- H.1]; unfold szM; rw [hlp, hle, hld] : posG szM k l (j + 1) = q + (10 + lp + le + ld)));have hqb : q + (10 + lp + le + ld) <= 120000000 := by
    have h1 := posG_le szM k l (j + 1);have h2 := sum_szM l;have h3 := HQ.2;have h4 := HA.2.2.1;omega
   clear H hr he hfp hnd hvl hop hoe hod hap hX hml;have hki : (j : Int) < (n : Int) := by omega
   have hk0 : (0 : Int) <= (j : Int) := by omega
   generalize g :: fpC vs[j] = fq at HM HE;clear hup hjv hc hlp hle hld;obtain ⟨CA, hCA⟩ := zE (decide ((q + 6) % 3 = 0));have hCA2 : (((q : Int) + 1 + 1 + 1 + 1 + 1 + 1) % 3 == 0) = CA := by rw [<- hCA, Bool.eq_iff_iff, beq_iff_eq, decide_eq_true_eq]; omega
   have HCA : Hid (decide ((q + 6) % 3 = 0) = CA) := hCA;clear hCA;have HM0 : Hid (MkM wr wr base g n cap fq X (zS pa lp pc) (zS ea le ec) (zS da ld dc) c.pol c.per c.den) := HM.out;clear HM;obtain ⟨y0, c0⟩ := HM0.cell (i := j * 13) (by omega);have fz := fun i => HM0.free i
   go_wp2_with fail;clear c0 fz;obtain ⟨V1, hV1⟩ : ∃ V, V = (wr.setCell ⟨g, j * 13, none⟩ (zI (q : Int))) := ⟨_, rfl⟩;rw [<- hV1];have HM1 : Hid (MkM wr V1 base g n cap fq (X.set (j * 13) (zI (q : Int))) (zS pa lp pc) (zS ea le ec) (zS da ld dc) c.pol c.per c.den) := by rw [hV1]; exact (HM0.out.put _ _)
   clear hV1 HM0;have E1 := markText_str (q + 1) V1 (by omega) (by omega);rw [show (((q + 1 : Nat)) : Int) = (q : Int) + 1 from by omega] at E1;refine E1.mono ?_;rintro e w2 ⟨rfl, hb1⟩;have HM2 : Hid (MkM wr w2 base g n cap fq (X.set (j * 13) (zI (q : Int))) (zS pa lp pc) (zS ea le ec) (zS da ld dc) c.pol c.per c.den) := HM1.below hb1;clear E1 hb1 HM1;obtain ⟨y1, c1⟩ := HM2.cell (i := j * 13 + 1) (by omega);have fz := fun i => HM2.free i
   go_wp2_with fail;clear c1 fz;obtain ⟨V3, hV3⟩ : ∃ V, V = (w2.setCell ⟨g, j * 13 + 1, none⟩ (zG ⟨(mt (q + 1)).toArray⟩)) := ⟨_, rfl⟩;rw [<- hV3];have HM3 : Hid (MkM wr V3 base g n cap fq ((X.set (j * 13) (zI (q : Int))).set (j * 13 + 1) (zG ⟨(mt (q + 1)).toArray⟩)) (zS pa lp pc) (zS ea le ec) (zS da ld dc) c.pol c.per c.den) := by rw [hV3]; exact (HM2.out.put _ _)
   clear hV3 HM2;have E1 := markText_str (q + 2) V3 (by omega) (by omega);rw [show (((q + 2 : Nat)) : Int) = (q : Int) + 1 + 1 from by omega] at E1;refine E1.mono ?_;rintro e w4 ⟨rfl, hb1⟩;have HM4 : Hid (MkM wr w4 base g n cap fq ((X.set (j * 13) (zI (q : Int))).set (j * 13 + 1) (zG ⟨(mt (q + 1)).toArray⟩)) (zS pa lp pc) (zS ea le ec) (zS da ld dc) c.pol c.per c.den) := HM3.below hb1;clear E1 hb1 HM3;obtain ⟨y2, c2⟩ := HM4.cell (i := j * 13 + 2) (by omega);obtain ⟨y3, c3⟩ := HM4.cell (i := j * 13 + 3) (by omega);obtain ⟨y4, c4⟩ := HM4.cell (i := j * 13 + 4) (by omega);have fz := fun i => HM4.free i
   go_wp2_with fail;clear c2 c3 c4 fz;obtain ⟨V5, hV5⟩ : ∃ V, V = (((w4.setCell ⟨g, j * 13 + 2, none⟩ (zG ⟨(mt (q + 2)).toArray⟩)).setCell ⟨g, j * 13 + 3, none⟩ (zI ((q : Int) + 1 + 1 + 1))).setCell ⟨g, j * 13 + 4, none⟩ (zI ((q : Int) + 1 + 1 + 1 + 1))) := ⟨_, rfl⟩;rw [<- hV5];have HM5 : Hid (MkM wr V5 base g n cap fq (((((X.set (j * 13) (zI (q : Int))).set (j * 13 + 1) (zG ⟨(mt (q + 1)).toArray⟩)).set (j * 13 + 2) (zG ⟨(mt (q + 2)).toArray⟩)).set (j * 13 + 3) (zI ((q : Int) + 1 + 1 + 1))).set (j * 13 + 4) (zI ((q : Int) + 1 + 1 + 1 + 1))) (zS pa lp pc) (zS ea le ec) (zS da ld dc) c.pol c.per c.den) := by rw [hV5]; exact (((HM4.out.put _ _).put _ _).put _ _)
   clear hV5 HM4;have E1 := markText_str (q + 5) V5 (by omega) (by omega);rw [show (((q + 5 : Nat)) : Int) = (q : Int) + 1 + 1 + 1 + 1 + 1 from by omega] at E1;refine E1.mono ?_;rintro e w6 ⟨rfl, hb1⟩;have HM6 : Hid (MkM wr w6 base g n cap fq (((((X.set (j * 13) (zI (q : Int))).set (j * 13 + 1) (zG ⟨(mt (q + 1)).toArray⟩)).set (j * 13 + 2) (zG ⟨(mt (q + 2)).toArray⟩)).set (j * 13 + 3) (zI ((q : Int) + 1 + 1 + 1))).set (j * 13 + 4) (zI ((q : Int) + 1 + 1 + 1 + 1))) (zS pa lp pc) (zS ea le ec) (zS da ld dc) c.pol c.per c.den) := HM5.below hb1;clear E1 hb1 HM5;obtain ⟨y5, c5⟩ := HM6.cell (i := j * 13 + 5) (by omega);obtain ⟨y6, c6⟩ := HM6.cell (i := j * 13 + 6) (by omega);obtain ⟨y7, c7⟩ := HM6.cell (i := j * 13 + 7) (by omega);obtain ⟨y8, c8⟩ := HM6.cell (i := j * 13 + 8) (by omega);have fz := fun i => HM6.free i
   have c9 : w6.cell? ⟨g, j * 13 + 9, none⟩ = some (zS pa lp pc) := by
    rw [HM6.at (by omega)]
    iterate 5 rw [List.getElem?_set_ne (by omega)]
    exact HX5.out 9 (by decide)
   go_wp2_with fail;clear c5 c6 c7 c8 c9 fz;obtain ⟨V7, hV7⟩ : ∃ V, V = ((((w6.setCell ⟨g, j * 13 + 5, none⟩ (zG ⟨(mt (q + 5)).toArray⟩)).setCell ⟨g, j * 13 + 6, none⟩ (.bool CA)).setCell ⟨g, j * 13 + 7, none⟩ (zI ((q : Int) + 1 + 1 + 1 + 1 + 1 + 1 + 1))).setCell ⟨g, j * 13 + 8, none⟩ (zI ((q : Int) + 1 + 1 + 1 + 1 + 1 + 1 + 1 + 1))) := ⟨_, rfl⟩;rw [<- hV7];have HM7 : Hid (MkM wr V7 base g n cap fq (((((((((X.set (j * 13) (zI (q : Int))).set (j * 13 + 1) (zG ⟨(mt (q + 1)).toArray⟩)).set (j * 13 + 2) (zG ⟨(mt (q + 2)).toArray⟩)).set (j * 13 + 3) (zI ((q : Int) + 1 + 1 + 1))).set (j * 13 + 4) (zI ((q : Int) + 1 + 1 + 1 + 1))).set (j * 13 + 5) (zG ⟨(mt (q + 5)).toArray⟩)).set (j * 13 + 6) (.bool CA)).set (j * 13 + 7) (zI ((q : Int) + 1 + 1 + 1 + 1 + 1 + 1 + 1))).set (j * 13 + 8) (zI ((q : Int) + 1 + 1 + 1 + 1 + 1 + 1 + 1 + 1))) (zS pa lp pc) (zS ea le ec) (zS da ld dc) c.pol c.per c.den) := by rw [hV7]; exact ((((HM6.out.put _ _).put _ _).put _ _).put _ _)
   clear hV7 HM6;have E5 := mark_any (zS pa lp pc) c.pol (q + 9) base V7 (by rw [HL.1]; omega) (by omega) HM7.2.1.1;rw [HL.1, show (((q + 9 : Nat)) : Int) = (q : Int) + 1 + 1 + 1 + 1 + 1 + 1 + 1 + 1 + 1 from by omega] at E5;refine E5.mono ?_;rintro e w8 ⟨rfl, ho5, hg5⟩;have HM8 : Hid (MkM wr w8 base g n cap fq (((((((((X.set (j * 13) (zI (q : Int))).set (j * 13 + 1) (zG ⟨(mt (q + 1)).toArray⟩)).set (j * 13 + 2) (zG ⟨(mt (q + 2)).toArray⟩)).set (j * 13 + 3) (zI ((q : Int) + 1 + 1 + 1))).set (j * 13 + 4) (zI ((q : Int) + 1 + 1 + 1 + 1))).set (j * 13 + 5) (zG ⟨(mt (q + 5)).toArray⟩)).set (j * 13 + 6) (.bool CA)).set (j * 13 + 7) (zI ((q : Int) + 1 + 1 + 1 + 1 + 1 + 1 + 1))).set (j * 13 + 8) (zI ((q : Int) + 1 + 1 + 1 + 1 + 1 + 1 + 1 + 1))) (zS pa lp pc) (zS ea le ec) (zS da ld dc) (marksI (q + 9) lp) c.per c.den) := HM7.out.markP ho5 hg5;clear HM7 E5 ho5 hg5;have fz := fun i => HM8.free i
   have c10 : w8.cell? ⟨g, j * 13 + 10, none⟩ = some (zS ea le ec) := by
    rw [HM8.at (by omega)]
    iterate 9 rw [List.getElem?_set_ne (by omega)]
    exact HX5.out 10 (by decide)
   go_wp2_with fail;clear c10 fz;have E5 := markT_any (zS ea le ec) c.per (q + 9 + lp) base w8 (by rw [HL.2.1]; omega) (by omega) (by omega) HM8.2.1.2.1;rw [HL.2.1, show (((q + 9 + lp : Nat)) : Int) = (q : Int) + 1 + 1 + 1 + 1 + 1 + 1 + 1 + 1 + 1 + (lp : Int) from by omega] at E5;refine E5.mono ?_;rintro e w9 ⟨rfl, ho5, hg5⟩;have HM9 : Hid (MkM wr w9 base g n cap fq (((((((((X.set (j * 13) (zI (q : Int))).set (j * 13 + 1) (zG ⟨(mt (q + 1)).toArray⟩)).set (j * 13 + 2) (zG ⟨(mt (q + 2)).toArray⟩)).set (j * 13 + 3) (zI ((q : Int) + 1 + 1 + 1))).set (j * 13 + 4) (zI ((q : Int) + 1 + 1 + 1 + 1))).set (j * 13 + 5) (zG ⟨(mt (q + 5)).toArray⟩)).set (j * 13 + 6) (.bool CA)).set (j * 13 + 7) (zI ((q : Int) + 1 + 1 + 1 + 1 + 1 + 1 + 1))).set (j * 13 + 8) (zI ((q : Int) + 1 + 1 + 1 + 1 + 1 + 1 + 1 + 1))) (zS pa lp pc) (zS ea le ec) (zS da ld dc) (marksI (q + 9) lp) (marksT (q + 9 + lp) le) c.den) := HM8.out.markE ho5 hg5;clear HM8 E5 ho5 hg5;have fz := fun i => HM9.free i
   have c11 : w9.cell? ⟨g, j * 13 + 11, none⟩ = some (zS da ld dc) := by
    rw [HM9.at (by omega)]
    iterate 9 rw [List.getElem?_set_ne (by omega)]
    exact HX5.out 11 (by decide)
   go_wp2_with fail;clear c11 fz;have E5 := markT_any (zS da ld dc) c.den (q + 9 + lp + le) base w9 (by rw [HL.2.2]; omega) (by omega) (by omega) HM9.2.1.2.2;rw [HL.2.2, show (((q + 9 + lp + le : Nat)) : Int) = (q : Int) + 1 + 1 + 1 + 1 + 1 + 1 + 1 + 1 + 1 + (lp : Int) + (le : Int) from by omega] at E5;refine E5.mono ?_;rintro e w10 ⟨rfl, ho5, hg5⟩;have HM10 : Hid (MkM wr w10 base g n cap fq (((((((((X.set (j * 13) (zI (q : Int))).set (j * 13 + 1) (zG ⟨(mt (q + 1)).toArray⟩)).set (j * 13 + 2) (zG ⟨(mt (q + 2)).toArray⟩)).set (j * 13 + 3) (zI ((q : Int) + 1 + 1 + 1))).set (j * 13 + 4) (zI ((q : Int) + 1 + 1 + 1 + 1))).set (j * 13 + 5) (zG ⟨(mt (q + 5)).toArray⟩)).set (j * 13 + 6) (.bool CA)).set (j * 13 + 7) (zI ((q : Int) + 1 + 1 + 1 + 1 + 1 + 1 + 1))).set (j * 13 + 8) (zI ((q : Int) + 1 + 1 + 1 + 1 + 1 + 1 + 1 + 1))) (zS pa lp pc) (zS ea le ec) (zS da ld dc) (marksI (q + 9) lp) (marksT (q + 9 + lp) le) (marksT (q + 9 + lp + le) ld)) := HM9.out.markD ho5 hg5;clear HM9 E5 ho5 hg5;go_wp2_with fail;have E1 := markText_str (q + 9 + lp + le + ld) w10 (by omega) (by omega);rw [show (((q + 9 + lp + le + ld : Nat)) : Int) = (q : Int) + 1 + 1 + 1 + 1 + 1 + 1 + 1 + 1 + 1 + (lp : Int) + (le : Int) + (ld : Int) from by omega] at E1;refine E1.mono ?_;rintro e w11 ⟨rfl, hb1⟩;have HM11 : Hid (MkM wr w11 base g n cap fq (((((((((X.set (j * 13) (zI (q : Int))).set (j * 13 + 1) (zG ⟨(mt (q + 1)).toArray⟩)).set (j * 13 + 2) (zG ⟨(mt (q + 2)).toArray⟩)).set (j * 13 + 3) (zI ((q : Int) + 1 + 1 + 1))).set (j * 13 + 4) (zI ((q : Int) + 1 + 1 + 1 + 1))).set (j * 13 + 5) (zG ⟨(mt (q + 5)).toArray⟩)).set (j * 13 + 6) (.bool CA)).set (j * 13 + 7) (zI ((q : Int) + 1 + 1 + 1 + 1 + 1 + 1 + 1))).set (j * 13 + 8) (zI ((q : Int) + 1 + 1 + 1 + 1 + 1 + 1 + 1 + 1))) (zS pa lp pc) (zS ea le ec) (zS da ld dc) (marksI (q + 9) lp) (marksT (q + 9 + lp) le) (marksT (q + 9 + lp + le) ld)) := HM10.below hb1
   clear E1 hb1 HM10;obtain ⟨y12, c12⟩ := HM11.cell (i := j * 13 + 12) (by omega);have fz := fun i => HM11.free i
   go_wp2_with fail
   go_roundw
   case rel =>
    refine ⟨j + 1, q + (10 + lp + le + ld), by omega, by go_num, by go_num, ⟨by omega, by omega⟩, HQ.2.symm, ?_⟩;exact HE.out _ _ _ _ _ _ _ _ _ _ _ (mkM q c) (by unfold mkM; rw [HL.1, HL.2.1, HL.2.2, HCA.out]) (by unfold mkM; rw [HL.1, HL.2.1, HL.2.2]; exact HM11.out.put _ _) rfl HQ.1
   case measure => simp [intOf]; omega
  ·have hjl : n = j := by omega
   subst hjl;have HE : Hid (q = KK /\ (mkG mkM szM k l).take n ++ l.drop n = mkG mkM szM k l) := by
    have h1 := HA.2.1;refine ⟨?_, markG_all mkM szM (by omega)⟩;rw [<- HA.2.2.2.2, h1]; exact H.1
   go_wp2
   go_ret;refine ⟨by rw [HE.1]; rfl, ?_, H.2.2⟩;have h := H.2.1;rw [HE.2] at h;exact h
theorem heldCertS_same (l : List Ct) (v : Value) (k : Nat) (w : World) (hl : wtM l <= 1048577) (hk1 : 1 <= k) (hk : k <= 100000000) (ha : AtS certKd w v (mkG mkM szM k l)) :
  Calls Tryz.prog 108 #[v, zI k] w fun e w' => e = .returned (zI ((posG szM k l l.length : Nat) : Int)) /\ zW w w' := by
 obtain ⟨ao, cap, hv⟩ := ha.shape;obtain ⟨n, hn⟩ := zE (l.length);rw [mkG_len, hn] at hv;subst hv;obtain ⟨KK, hKK⟩ : ∃ q : Nat, posG szM k l l.length = q := ⟨_, rfl⟩;rw [hKK];have HA : Hid (AtS certKd w (zS ao n cap) (mkG mkM szM k l) /\ l.length = n /\ wtM l <= 1048577 /\ posG szM k l l.length = KK) := ⟨ha, hn, hl, hKK⟩;have hn20 : n <= 1048577 := by unfold wtM at hl; omega
 clear ha hn hl hKK;go_enter Tryz.func108, Tryz.ntmps108;go_wp2_with fail
 go_loopw [1, 5] (fun kv iv wr => ∃ j q : Nat, j <= n /\ iv = zI j /\ kv = zI q /\ (1 <= q /\ q <= 200000000) /\ Hid (q = posG szM k l j /\ zW w wr)) (fun _ iv _ => n - (intOf iv).toNat)
 case atStart => exact ⟨0, k, Nat.zero_le _, rfl, rfl, ⟨hk1, by omega⟩, by simp [posG], Below.refl _ _⟩
 case round =>
  obtain ⟨j, q, hj, rfl, rfl, ⟨hq1, hq2⟩, H⟩ := hrel;by_cases hjn : j < n
  ·have hjl : j < l.length := by rw [HA.2.1]; exact hjn
   have hjm : j < (mkG mkM szM k l).length := by rw [mkG_len]; exact hjl
   obtain ⟨g, off, u, hao, hgB, hPu, hus, hcell⟩ := HA.1.get hjm;rw [mkG_get mkM szM l k j hjl hjm, <- H.1] at hPu;obtain ⟨c, hc⟩ := zE (l[j]);rw [hc] at hPu;obtain ⟨lp, hlp⟩ := zE (c.pol.length);obtain ⟨le, hle⟩ := zE (c.per.length);obtain ⟨ld, hld⟩ := zE (c.den.length);obtain ⟨p, e, d, hup, h1, h2, h3⟩ := hPu;change IntAt w p (marksI (q + 9) c.pol.length) at h1;change TxtAt w e (marksT (q + 9 + c.pol.length) c.per.length) at h2;change TxtAt w d (marksT (q + 9 + c.pol.length + c.per.length) c.den.length) at h3;rw [hlp] at h1 h2 h3;rw [hle] at h2 h3;rw [hld] at h3;obtain ⟨pa, pc, hp, -⟩ := id h1;obtain ⟨ea, ec, he, -⟩ := id h2;obtain ⟨da, dc, hd, -⟩ := id h3;rw [marksI_len] at hp;rw [marksT_len] at he hd;subst hp he hd hao;obtain ⟨CA, hCA⟩ := zE (decide ((q + 6) % 3 = 0));have hCA2 : (((q : Int) + 1 + 1 + 1 + 1 + 1 + 1) % 3 == 0) = CA := by rw [<- hCA, Bool.eq_iff_iff, beq_iff_eq, decide_eq_true_eq]; omega
   have HC : Hid (∀ (W : World), zW w W -> ∀ i x, (Value.agg #[zI (q : Int), zG ⟨(mt (q + 1)).toArray⟩, zG ⟨(mt (q + 2)).toArray⟩, zI ((q : Int) + 1 + 1 + 1), zI ((q : Int) + 1 + 1 + 1 + 1), zG ⟨(mt (q + 5)).toArray⟩, .bool CA, zI ((q : Int) + 1 + 1 + 1 + 1 + 1 + 1 + 1), zI ((q : Int) + 1 + 1 + 1 + 1 + 1 + 1 + 1 + 1), zS pa lp pc, zS ea le ec, zS da ld dc, zG ⟨(mt (q + 9 + lp + le + ld)).toArray⟩]).cells[i]? = some x -> W.cell? ⟨g, off + j * 13 + i, none⟩ = some x) := fun W hb i x hx => by
    refine (hb.cell (p := ⟨g, off + j * 13 + i, none⟩) hgB).trans (hcell i x ?_);rw [hup];unfold mkM ctV;rw [hlp, hle, hld, hCA];exact hx
   have HRV : Hid (IntAt w (zS pa lp pc) (marksI (q + 9) lp) /\ TxtAt w (zS ea le ec) (marksT (q + 9 + lp) le) /\ TxtAt w (zS da ld dc) (marksT (q + 9 + lp + le) ld)) := ⟨h1, h2, h3⟩;have HQ : Hid (posG szM k l (j + 1) = q + (10 + lp + le + ld)) := by show _ = _; rw [posG_next szM hjl, hc, <- H.1]; unfold szM; rw [hlp, hle, hld]
   have hqb : q + (10 + lp + le + ld) <= 120000000 := by
    have h1 := posG_le szM k l (j + 1);have h2 := sum_szM l;have h3 := HQ.out;have h4 := HA.2.2.1;omega
   have HB : Hid (zW w wr) := H.2;clear H hus hcell hup h1 h2 h3 hc hlp hle hld hCA hgB hjm;have hki : (j : Int) < (n : Int) := by omega
   have hk0 : (0 : Int) <= (j : Int) := by omega
   have c0 : wr.cell? ⟨g, off + j * 13, none⟩ = some (zI (q : Int)) := HC.out wr HB.out 0 _ rfl;go_upto_region 7 with fail;clear c0;have hDr : zW wr wr.drew := (Below.refl _ _).drew;refine wp_region_held_drew (S := fun W => zW wr W) (by kernel_rfl) hDr (fun hHeld => ?_);clear hDr;generalize wr.drew = wd at hHeld |-;refine zQ 0 21 rfl hHeld ?_;refine zQ 1 22 rfl hHeld ?_;refine zQ 2 23 rfl hHeld ?_;refine zQ 3 24 rfl hHeld ?_;refine zT 4 25 ?_ rfl (by rfl) ?_ hHeld ?_;rotate_left
   ·intro W hSw
    have e0 : W.cell? ⟨g, off + j * 13 + 1, none⟩ = some (zG ⟨(mt (q + 1)).toArray⟩) := HC.out W (HB.trans (hSw.mono HB.size)) 1 _ rfl;go_simp
    try with_reducible rfl
   refine zQ 5 26 rfl hHeld ?_;refine zR 6 27 rfl fun K hK => ?_
   go_simp;have E1 := markText_str (q + 1) wd (by omega) (by omega);rw [show (((q + 1 : Nat)) : Int) = (q : Int) + 1 from by omega] at E1;refine E1.mono ?_;rintro e w3 ⟨rfl, hb3⟩;have hS3 : zW wr w3 := hHeld.trans (hb3.mono hHeld.size);clear hb3 E1;refine hK.out _ _ hS3 (fun hHeld => ?_);clear hK K hS3;refine zQ 7 28 rfl hHeld ?_;refine wpAnyH_done (by kernel_rfl) ?_ _;have HBn : Hid (zW w w3) := HB.trans (hHeld.mono HB.size);clear HB hHeld;have HB := HBn;clear HBn;go_upto_region 10 with fail;have hDr : zW w3 w3.drew := (Below.refl _ _).drew;refine wp_region_held_drew (S := fun W => zW w3 W) (by kernel_rfl) hDr (fun hHeld => ?_);clear hDr;generalize w3.drew = wd at hHeld |-;refine zQ 0 31 rfl hHeld ?_;refine zQ 1 32 rfl hHeld ?_;refine zQ 2 33 rfl hHeld ?_;refine zQ 3 34 rfl hHeld ?_;refine zT 4 35 ?_ rfl (by rfl) ?_ hHeld ?_;rotate_left
   ·intro W hSw
    have e0 : W.cell? ⟨g, off + j * 13 + 2, none⟩ = some (zG ⟨(mt (q + 2)).toArray⟩) := HC.out W (HB.trans (hSw.mono HB.size)) 2 _ rfl;go_simp
    try with_reducible rfl
   refine zQ 5 36 rfl hHeld ?_;refine zR 6 37 rfl fun K hK => ?_
   go_simp;have E1 := markText_str (q + 2) wd (by omega) (by omega);rw [show (((q + 2 : Nat)) : Int) = (q : Int) + 1 + 1 from by omega] at E1;refine E1.mono ?_;rintro e w4 ⟨rfl, hb3⟩;have hS3 : zW w3 w4 := hHeld.trans (hb3.mono hHeld.size);clear hb3 E1;refine hK.out _ _ hS3 (fun hHeld => ?_);clear hK K hS3;refine zQ 7 38 rfl hHeld ?_;refine wpAnyH_done (by kernel_rfl) ?_ _;have HBn : Hid (zW w w4) := HB.trans (hHeld.mono HB.size);clear HB hHeld;have HB := HBn;clear HBn;have c3 : w4.cell? ⟨g, off + j * 13 + 3, none⟩ = some (zI ((q : Int) + 1 + 1 + 1)) := HC.out w4 HB.out 3 _ rfl;have c4 : w4.cell? ⟨g, off + j * 13 + 4, none⟩ = some (zI ((q : Int) + 1 + 1 + 1 + 1)) := HC.out w4 HB.out 4 _ rfl;go_upto_region 19 with fail;clear c3 c4;have hDr : zW w4 w4.drew := (Below.refl _ _).drew;refine wp_region_held_drew (S := fun W => zW w4 W) (by kernel_rfl) hDr (fun hHeld => ?_);clear hDr;generalize w4.drew = wd at hHeld |-;refine zQ 0 59 rfl hHeld ?_;refine zQ 1 60 rfl hHeld ?_;refine zQ 2 61 rfl hHeld ?_;refine zQ 3 62 rfl hHeld ?_;refine zT 4 63 ?_ rfl (by rfl) ?_ hHeld ?_;rotate_left
   ·intro W hSw
    have e0 : W.cell? ⟨g, off + j * 13 + 5, none⟩ = some (zG ⟨(mt (q + 5)).toArray⟩) := HC.out W (HB.trans (hSw.mono HB.size)) 5 _ rfl;go_simp
    try with_reducible rfl
   refine zQ 5 64 rfl hHeld ?_;refine zR 6 65 rfl fun K hK => ?_
   go_simp;have E1 := markText_str (q + 5) wd (by omega) (by omega);rw [show (((q + 5 : Nat)) : Int) = (q : Int) + 1 + 1 + 1 + 1 + 1 from by omega] at E1;refine E1.mono ?_;rintro e w5 ⟨rfl, hb3⟩;have hS3 : zW w4 w5 := hHeld.trans (hb3.mono hHeld.size);clear hb3 E1;refine hK.out _ _ hS3 (fun hHeld => ?_);clear hK K hS3;refine zQ 7 66 rfl hHeld ?_;refine wpAnyH_done (by kernel_rfl) ?_ _;have HBn : Hid (zW w w5) := HB.trans (hHeld.mono HB.size);clear HB hHeld;have HB := HBn;clear HBn;have c6 : w5.cell? ⟨g, off + j * 13 + 6, none⟩ = some (.bool CA) := HC.out w5 HB.out 6 _ rfl;have c7 : w5.cell? ⟨g, off + j * 13 + 7, none⟩ = some (zI ((q : Int) + 1 + 1 + 1 + 1 + 1 + 1 + 1)) := HC.out w5 HB.out 7 _ rfl;have c8 : w5.cell? ⟨g, off + j * 13 + 8, none⟩ = some (zI ((q : Int) + 1 + 1 + 1 + 1 + 1 + 1 + 1 + 1)) := HC.out w5 HB.out 8 _ rfl;have c9 : w5.cell? ⟨g, off + j * 13 + 9, none⟩ = some (zS pa lp pc) := HC.out w5 HB.out 9 _ rfl;have E5 := held_int (zS pa lp pc) lp ((q : Int) + 1 + 1 + 1 + 1 + 1 + 1 + 1 + 1 + 1) w5 (by omega) (by omega) (by rw [show ((q : Int) + 1 + 1 + 1 + 1 + 1 + 1 + 1 + 1 + 1).toNat = q + 9 from by omega]; exact HRV.1.below HB.out);go_wp2_with fail;clear c6 c7 c8 c9;refine E5.mono ?_;rintro e w6 ⟨rfl, hb4⟩;have HBn : Hid (zW w w6) := HB.trans (hb4.mono HB.size);clear HB hb4 E5;have HB := HBn;clear HBn;have hneg : ¬ ((q : Int) + 1 + 1 + 1 + 1 + 1 + 1 + 1 + 1 + 1 + (lp : Int)) < 0 := by omega
   have c10 : w6.cell? ⟨g, off + j * 13 + 10, none⟩ = some (zS ea le ec) := HC.out w6 HB.out 10 _ rfl;have E5 := heldT_same (zS ea le ec) le (q + 9 + lp) w6 (by omega) (by omega) (by omega) (HRV.2.1.below HB.out);rw [show (((q + 9 + lp : Nat)) : Int) = (q : Int) + 1 + 1 + 1 + 1 + 1 + 1 + 1 + 1 + 1 + (lp : Int) from by omega] at E5;go_wp2_with fail;clear c10 hneg;refine E5.mono ?_;rintro e w7 ⟨rfl, hb4⟩;have HBn : Hid (zW w w7) := HB.trans (hb4.mono HB.size);clear HB hb4 E5;have HB := HBn;clear HBn;have hneg : ¬ ((q : Int) + 1 + 1 + 1 + 1 + 1 + 1 + 1 + 1 + 1 + (lp : Int) + (le : Int)) < 0 := by omega
   have c11 : w7.cell? ⟨g, off + j * 13 + 11, none⟩ = some (zS da ld dc) := HC.out w7 HB.out 11 _ rfl;have E5 := heldT_same (zS da ld dc) ld (q + 9 + lp + le) w7 (by omega) (by omega) (by omega) (HRV.2.2.below HB.out);rw [show (((q + 9 + lp + le : Nat)) : Int) = (q : Int) + 1 + 1 + 1 + 1 + 1 + 1 + 1 + 1 + 1 + (lp : Int) + (le : Int) from by omega] at E5;go_wp2_with fail;clear c11 hneg;refine E5.mono ?_;rintro e w8 ⟨rfl, hb4⟩;have HBn : Hid (zW w w8) := HB.trans (hb4.mono HB.size);clear HB hb4 E5;have HB := HBn;clear HBn;have hneg : ¬ ((q : Int) + 1 + 1 + 1 + 1 + 1 + 1 + 1 + 1 + 1 + (lp : Int) + (le : Int) + (ld : Int)) < 0 := by omega
   go_upto_region 40 with fail;have hDr : zW w8 w8.drew := (Below.refl _ _).drew;refine wp_region_held_drew (S := fun W => zW w8 W) (by kernel_rfl) hDr (fun hHeld => ?_);clear hDr;generalize w8.drew = wd at hHeld |-;refine zQ 0 125 rfl hHeld ?_;refine zQ 1 126 rfl hHeld ?_;refine zQ 2 127 rfl hHeld ?_;refine zQ 3 128 rfl hHeld ?_;refine zT 4 129 ?_ rfl (by rfl) ?_ hHeld ?_;rotate_left
   ·intro W hSw
    have e0 : W.cell? ⟨g, off + j * 13 + 12, none⟩ = some (zG ⟨(mt (q + 9 + lp + le + ld)).toArray⟩) := HC.out W (HB.trans (hSw.mono HB.size)) 12 _ rfl;go_simp
    try with_reducible rfl
   refine zQ 5 130 rfl hHeld ?_;refine zR 6 131 rfl fun K hK => ?_
   go_simp;have E1 := markText_str (q + 9 + lp + le + ld) wd (by omega) (by omega);rw [show (((q + 9 + lp + le + ld : Nat)) : Int) = (q : Int) + 1 + 1 + 1 + 1 + 1 + 1 + 1 + 1 + 1 + (lp : Int) + (le : Int) + (ld : Int) from by omega] at E1;refine E1.mono ?_;rintro e w9 ⟨rfl, hb3⟩;have hS3 : zW w8 w9 := hHeld.trans (hb3.mono hHeld.size);clear hb3 E1;refine hK.out _ _ hS3 (fun hHeld => ?_);clear hK K hS3;refine zQ 7 132 rfl hHeld ?_;refine wpAnyH_done (by kernel_rfl) ?_ _;have HBn : Hid (zW w w9) := HB.trans (hHeld.mono HB.size);clear HB hHeld;have HB := HBn;clear HBn;go_wp2_with fail
   go_roundw
   case rel => exact ⟨j + 1, q + (10 + lp + le + ld), by omega, by go_num, by go_num, ⟨by omega, by omega⟩, HQ.out.symm, HB.out⟩
   case measure => simp [intOf]; omega
  ·have hjl : n = j := by omega
   subst hjl;have HE : Hid (q = KK) := by
    show q = KK;rw [<- HA.2.2.2, HA.2.1];exact H.1
   go_wp2
   go_ret;exact ⟨by rw [HE.out]; rfl, H.2⟩
end Go.Proofs.YtabfamhaihnccaaGreat
