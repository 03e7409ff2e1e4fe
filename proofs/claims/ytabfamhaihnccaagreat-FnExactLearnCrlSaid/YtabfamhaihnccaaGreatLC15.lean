/-
  Texts of the proof.
-/
import Derived.Test.YtabfamhaihnccaaGreatLC14
set_option linter.unusedVariables false
set_option linter.unusedSimpArgs false
set_option maxRecDepth 100000
set_option maxHeartbeats 25600000
namespace Go.Proofs.YtabfamhaihnccaaGreat
open Go.RowKit
theorem eqCertS_same (l : List Ct) (a b : Value) (w : World) (hl : wtM l <= 1000000000) (ha : AtS certKd w a l) (hb : AtS certKd w b l) :
  Calls Tryz.prog 92 #[a, b] w fun e w' => e = .returned (.bool true) /\ zW w w' := by
 obtain ⟨ax, cx, hv⟩ := ha.shape;obtain ⟨ay, cy, hu⟩ := hb.shape;obtain ⟨len, hlen⟩ := zE (l.length);rw [hlen] at hv hu;subst hv hu;have hl20 : len <= 1000000000 := by unfold wtM at hl; omega
 have HX : Hid (AtS certKd w (zS ax len cx) l /\ AtS certKd w (zS ay len cy) l /\ l.length = len /\ wtM l <= 1000000000) := ⟨ha, hb, hlen, hl⟩;clear ha hb hlen hl;go_enter Tryz.func92, Tryz.ntmps92;go_wp2_with fail
 go_loopw [5] (fun iv wr => ∃ k : Nat, k <= len /\ iv = zI k /\ Hid (zW w wr)) (fun iv _ => len - (intOf iv).toNat)
 case atStart => exact ⟨0, Nat.zero_le _, rfl, Below.refl _ _⟩
 case round =>
  obtain ⟨k, hk, rfl, HB⟩ := hrel;by_cases hkn : k < len
  ·have hkl : k < l.length := by rw [HX.2.2.1]; exact hkn
   obtain ⟨g1, o1, u1, hax, hg1, hP1, hs1, hc1⟩ := HX.1.get hkl;obtain ⟨g2, o2, u2, hay, hg2, hP2, hs2, hc2⟩ := HX.2.1.get hkl;subst hax hay;obtain ⟨c, hc⟩ := zE (l[k]);have hBd : zW w wr.drew := HB.out.drew;have hrl : c.pol.length <= 1000000000 /\ c.per.length <= 1000000000 /\ c.den.length <= 1000000000 := by
    have h1 := wtM_mem (List.getElem_mem hkl);rw [hc] at h1;obtain ⟨_, _, _, h4, h5, h6, _⟩ := wt_parts (Nat.le_trans h1 HX.2.2.2);exact ⟨h4, h5, h6⟩
   have HR := eqCert_same c u1 u2 wr.drew hrl (by rw [<- hc]; exact CtAt.below hP1 hBd) (by rw [<- hc]; exact CtAt.below hP2 hBd);obtain ⟨p1, q1, e1, r1, d1, s1, hu1⟩ := CtAt.shape hP1;obtain ⟨p2, q2, e2, r2, d2, s2, hu2⟩ := CtAt.shape hP2;rw [hc] at hu1 hu2;subst hu1 hu2;have hf1 : ∀ (W : World) (i : Nat) (x : Value), zW w W -> (ctV c (zS p1 c.pol.length q1) (zS e1 c.per.length r1) (zS d1 c.den.length s1)).cells[i]? = some x -> W.cell? ⟨g1, o1 + k * 13 + i, none⟩ = some x := fun W i x hW hx => (hW.cell (p := ⟨g1, o1 + k * 13 + i, none⟩) hg1).trans (hc1 i x hx)
   have hf2 : ∀ (W : World) (i : Nat) (x : Value), zW w W -> (ctV c (zS p2 c.pol.length q2) (zS e2 c.per.length r2) (zS d2 c.den.length s2)).cells[i]? = some x -> W.cell? ⟨g2, o2 + k * 13 + i, none⟩ = some x := fun W i x hW hx => (hW.cell (p := ⟨g2, o2 + k * 13 + i, none⟩) hg2).trans (hc2 i x hx)
   have HS : Hid (∀ W, zW w W -> (W.cell? ⟨g1, o1 + k * 13, none⟩ = some (zI c.serial) /\ W.cell? ⟨g1, o1 + k * 13 + 1, none⟩ = some (zG c.issuer) /\ W.cell? ⟨g1, o1 + k * 13 + 2, none⟩ = some (zG c.subject) /\ W.cell? ⟨g1, o1 + k * 13 + 3, none⟩ = some (zI c.frm) /\ W.cell? ⟨g1, o1 + k * 13 + 4, none⟩ = some (zI c.upto) /\ W.cell? ⟨g1, o1 + k * 13 + 5, none⟩ = some (zG c.key) /\ W.cell? ⟨g1, o1 + k * 13 + 6, none⟩ = some (.bool c.ca) /\ W.cell? ⟨g1, o1 + k * 13 + 7, none⟩ = some (zI c.pathLen) /\ W.cell? ⟨g1, o1 + k * 13 + 8, none⟩ = some (zI c.usage) /\ W.cell? ⟨g1, o1 + k * 13 + 9, none⟩ = some (zS p1 c.pol.length q1) /\ W.cell? ⟨g1, o1 + k * 13 + 10, none⟩ = some (zS e1 c.per.length r1) /\ W.cell? ⟨g1, o1 + k * 13 + 11, none⟩ = some (zS d1 c.den.length s1) /\ W.cell? ⟨g1, o1 + k * 13 + 12, none⟩ = some (zG c.sig)) /\ (W.cell? ⟨g2, o2 + k * 13, none⟩ = some (zI c.serial) /\ W.cell? ⟨g2, o2 + k * 13 + 1, none⟩ = some (zG c.issuer) /\ W.cell? ⟨g2, o2 + k * 13 + 2, none⟩ = some (zG c.subject) /\ W.cell? ⟨g2, o2 + k * 13 + 3, none⟩ = some (zI c.frm) /\ W.cell? ⟨g2, o2 + k * 13 + 4, none⟩ = some (zI c.upto) /\ W.cell? ⟨g2, o2 + k * 13 + 5, none⟩ = some (zG c.key) /\ W.cell? ⟨g2, o2 + k * 13 + 6, none⟩ = some (.bool c.ca) /\ W.cell? ⟨g2, o2 + k * 13 + 7, none⟩ = some (zI c.pathLen) /\ W.cell? ⟨g2, o2 + k * 13 + 8, none⟩ = some (zI c.usage) /\ W.cell? ⟨g2, o2 + k * 13 + 9, none⟩ = some (zS p2 c.pol.length q2) /\ W.cell? ⟨g2, o2 + k * 13 + 10, none⟩ = some (zS e2 c.per.length r2) /\ W.cell? ⟨g2, o2 + k * 13 + 11, none⟩ = some (zS d2 c.den.length s2) /\ W.cell? ⟨g2, o2 + k * 13 + 12, none⟩ = some (zG c.sig))) := fun W hW =>
    ⟨⟨hf1 W 0 _ hW rfl, hf1 W 1 _ hW rfl, hf1 W 2 _ hW rfl, hf1 W 3 _ hW rfl, hf1 W 4 _ hW rfl, hf1 W 5 _ hW rfl, hf1 W 6 _ hW rfl, hf1 W 7 _ hW rfl, hf1 W 8 _ hW rfl, hf1 W 9 _ hW rfl, hf1 W 10 _ hW rfl, hf1 W 11 _ hW rfl, hf1 W 12 _ hW rfl⟩, hf2 W 0 _ hW rfl, hf2 W 1 _ hW rfl, hf2 W 2 _ hW rfl, hf2 W 3 _ hW rfl, hf2 W 4 _ hW rfl, hf2 W 5 _ hW rfl, hf2 W 6 _ hW rfl, hf2 W 7 _ hW rfl, hf2 W 8 _ hW rfl, hf2 W 9 _ hW rfl, hf2 W 10 _ hW rfl, hf2 W 11 _ hW rfl, hf2 W 12 _ hW rfl⟩
   have hki : (k : Int) < (len : Int) := by omega
   have hk0 : (0 : Int) <= (k : Int) := by omega
   unfold ctV at HR;clear hf1 hf2 hc1 hc2 hP1 hP2 hs1 hs2 hg1 hg2 hc hkl;go_upto_region 6 with fail;refine wp_region_held_drew (S := fun W => zW w W) (by kernel_rfl) hBd (fun hHeld => ?_);clear hBd;have HBW : Hid (zW w wr.drew) := hHeld;refine zQ 0 17 rfl hHeld ?_;refine zQ 1 18 rfl hHeld ?_;refine zQ 2 19 rfl hHeld ?_;refine zT 3 20 ?_ rfl (by rfl) ?_ hHeld ?_;rotate_left
   ·intro W hSw
    obtain ⟨⟨e0, e1, e2, e3, e4, e5, e6, e7, e8, e9, e10, e11, e12⟩, -⟩ := HS.out W hSw;go_simp
    try with_reducible rfl
   refine zQ 4 21 rfl hHeld ?_;refine zQ 5 22 rfl hHeld ?_;refine zQ 6 23 rfl hHeld ?_;refine zT 7 24 ?_ rfl (by rfl) ?_ hHeld ?_;rotate_left
   ·intro W hSw
    obtain ⟨-, e0, e1, e2, e3, e4, e5, e6, e7, e8, e9, e10, e11, e12⟩ := HS.out W hSw;go_simp
    try with_reducible rfl
   refine zR 8 25 rfl fun K hK => ?_
   go_simp;refine HR.mono ?_;rintro e w3 ⟨rfl, hb3⟩;have HB3 : Hid (zW w w3) := HBW.trans (hb3.mono HBW.size);clear hb3 HR HBW;refine hK.out _ _ HB3.out (fun hHeld => ?_);clear hK K;refine zQ 9 26 rfl hHeld ?_;refine wpAnyH_done (by kernel_rfl) ?_ _;clear HS;go_wp2_with fail
   go_roundw
   case rel => exact ⟨k + 1, by omega, by go_num, HB3.out⟩
   case measure => simp [intOf]; omega
  ·have hkl : k = len := by omega
   subst hkl
   go_wp2
   go_ret;exact ⟨rfl, HB.out⟩
end Go.Proofs.YtabfamhaihnccaaGreat
namespace Go.Proofs.YtabfamhaihnccaaGreat
open Go.RowKit
theorem pickC {n : Nat} {P : Nat -> Ct -> Prop} (h : ∀ j, j < n -> ∃ y, P j y) : ∃ l : List Ct, ∃ hl : l.length = n, ∀ j (hj : j < l.length), P j l[j] := by
 induction n with
 | zero => exact ⟨[], rfl, fun j hj => absurd hj (Nat.not_lt_zero _)⟩
 | succ n ih =>
  obtain ⟨l, hl, hP⟩ := ih fun j hj => h j (by omega)
  obtain ⟨y, hy⟩ := h n (by omega);refine ⟨l ++ [y], by simp [hl], fun j hj => ?_⟩;by_cases e : j < l.length
  ·rw [List.getElem_append_left e]
   exact hP j e
  ·have e2 : j = l.length := by simp at hj; omega
   subst e2;simpa [hl] using hy
theorem certs_in {H : Type} {enc : TypeId × Value -> H} {W : World} {fuel : Nat} {cs : List Value} {x : DataW H × List MemPlace} (h : DataW.trod enc Tryz.prog W 0 (fun _ => true) true fuel 22 cs = some x) :
  ∃ ao cap, ∃ l : List Ct, cs = [zS ao l.length cap] /\ l.length <= maxLen /\ (∀ c ∈ l, WdC c) /\ ArgM W.heap.size W (zS ao l.length cap) l := by
 rcases DataW.trod_slice Tryz.underlying22 h with ⟨h0, _⟩ | ⟨a, len, cap, elems, rest, q, hq, hc, _, hb, hlc, hcm, hel, helem, _, _⟩
 ·exact ⟨none, 0, [], h0, Nat.zero_le _, fun x hx => by simp at hx, none, 0, rfl, fun j hj => by simp at hj⟩
 ·have each : ∀ j, j < len -> ∃ c : Ct, ∃ u : Value, ArgC W.heap.size W u c /\ WdC c /\ u.cells.size = 13 /\ ∀ i x, u.cells[i]? = some x -> W.cell? (a.add (j * 13 + i)) = some x := by
   intro j hj;have he := helem j hj;rw [cellsCert] at he;obtain ⟨z, hz⟩ : ∃ z, elems[j]? = some z := ⟨elems[j]'(by omega), by simp [show j < elems.length by omega]⟩;rw [hz, Option.bind_eq_some_iff] at he;obtain ⟨cs2, hcs2, htr⟩ := he;obtain ⟨c, p, e, d, hv, harg, hwd⟩ := cert_of_trod htr;have hsome := World.cells?_some hcs2;refine ⟨c, ctV c p e d, harg, hwd, rfl, fun i x hx => ?_⟩;have hcl : (ctV c p e d).cells = cs2.toArray := by rw [<- hv]; rfl
   rw [hcl] at hx;have hi : i < cs2.length := by have := (Array.getElem?_eq_some_iff.1 hx).1; simpa using this
   have h3 := hsome.2.2 i (by omega);rw [Addr.add_add] at h3;rw [h3];simpa using hx
  obtain ⟨l, hl, hP⟩ := pickC each;refine ⟨some a, cap, l, by rw [hl]; exact hc, by rw [hl]; exact Nat.le_trans hlc hcm, fun y hy => ?_, some a, cap, rfl, fun j hj => ?_⟩
  ·obtain ⟨j, hj, rfl⟩ := List.getElem_of_mem hy
   obtain ⟨u, _, h2, _⟩ := hP j hj;exact h2
  ·obtain ⟨u, h1, h2, h3, h4⟩ := hP j hj
   obtain ⟨x0, hx0⟩ : ∃ x, u.cells[0]? = some x := ⟨u.cells[0]'(by omega), Array.getElem?_eq_getElem _⟩;have c0 := h4 0 x0 hx0;obtain ⟨u', _, _, g3, g4⟩ := hP 0 (by omega);obtain ⟨y0, hy0⟩ : ∃ x, u'.cells[0]? = some x := ⟨u'.cells[0]'(by omega), Array.getElem?_eq_getElem _⟩;have d0 := g4 0 y0 hy0;obtain ⟨b, off, spot⟩ := a;have hspot : spot = none := by simpa [Addr.add] using World.cell?_spot d0
   subst hspot;rw [Addr.add_lit] at c0;refine ⟨b, off, u, rfl, lt_of_cell c0, h1, h3, fun i x hx => ?_⟩;have := h4 i x hx;rw [Addr.add_lit, <- Nat.add_assoc] at this;exact this
theorem pickL {n : Nat} {P : Nat -> Cl -> Prop} (h : ∀ j, j < n -> ∃ y, P j y) : ∃ l : List Cl, ∃ hl : l.length = n, ∀ j (hj : j < l.length), P j l[j] := by
 induction n with
 | zero => exact ⟨[], rfl, fun j hj => absurd hj (Nat.not_lt_zero _)⟩
 | succ n ih =>
  obtain ⟨l, hl, hP⟩ := ih fun j hj => h j (by omega)
  obtain ⟨y, hy⟩ := h n (by omega);refine ⟨l ++ [y], by simp [hl], fun j hj => ?_⟩;by_cases e : j < l.length
  ·rw [List.getElem_append_left e]
   exact hP j e
  ·have e2 : j = l.length := by simp at hj; omega
   subst e2;simpa [hl] using hy
theorem crls_in {H : Type} {enc : TypeId × Value -> H} {W : World} {fuel : Nat} {cs : List Value} {x : DataW H × List MemPlace} (h : DataW.trod enc Tryz.prog W 0 (fun _ => true) true fuel 23 cs = some x) :
  ∃ ao cap, ∃ l : List Cl, cs = [zS ao l.length cap] /\ l.length <= maxLen /\ (∀ c ∈ l, WdL c) /\ ArgS W.heap.size W (zS ao l.length cap) l := by
 rcases DataW.trod_slice Tryz.underlying23 h with ⟨h0, _⟩ | ⟨a, len, cap, elems, rest, q, hq, hc, _, hb, hlc, hcm, hel, helem, _, _⟩
 ·exact ⟨none, 0, [], h0, Nat.zero_le _, fun x hx => by simp at hx, none, 0, rfl, fun j hj => by simp at hj⟩
 ·have each : ∀ j, j < len -> ∃ c : Cl, ∃ u : Value, ArgL W.heap.size W u c /\ WdL c /\ u.cells.size = 7 /\ ∀ i x, u.cells[i]? = some x -> W.cell? (a.add (j * 7 + i)) = some x := by
   intro j hj;have he := helem j hj;rw [cellsCrl] at he;obtain ⟨z, hz⟩ : ∃ z, elems[j]? = some z := ⟨elems[j]'(by omega), by simp [show j < elems.length by omega]⟩;rw [hz, Option.bind_eq_some_iff] at he;obtain ⟨cs2, hcs2, htr⟩ := he;obtain ⟨c, p, hv, harg, hwd⟩ := crl_of_trod htr;have hsome := World.cells?_some hcs2;refine ⟨c, clV c p, harg, hwd, rfl, fun i x hx => ?_⟩;have hcl : (clV c p).cells = cs2.toArray := by rw [<- hv]; rfl
   rw [hcl] at hx;have hi : i < cs2.length := by have := (Array.getElem?_eq_some_iff.1 hx).1; simpa using this
   have h3 := hsome.2.2 i (by omega);rw [Addr.add_add] at h3;rw [h3];simpa using hx
  obtain ⟨l, hl, hP⟩ := pickL each;refine ⟨some a, cap, l, by rw [hl]; exact hc, by rw [hl]; exact Nat.le_trans hlc hcm, fun y hy => ?_, some a, cap, rfl, fun j hj => ?_⟩
  ·obtain ⟨j, hj, rfl⟩ := List.getElem_of_mem hy
   obtain ⟨u, _, h2, _⟩ := hP j hj;exact h2
  ·obtain ⟨u, h1, h2, h3, h4⟩ := hP j hj
   obtain ⟨x0, hx0⟩ : ∃ x, u.cells[0]? = some x := ⟨u.cells[0]'(by omega), Array.getElem?_eq_getElem _⟩;have c0 := h4 0 x0 hx0;obtain ⟨u', _, _, g3, g4⟩ := hP 0 (by omega);obtain ⟨y0, hy0⟩ : ∃ x, u'.cells[0]? = some x := ⟨u'.cells[0]'(by omega), Array.getElem?_eq_getElem _⟩;have d0 := g4 0 y0 hy0;obtain ⟨b, off, spot⟩ := a;have hspot : spot = none := by simpa [Addr.add] using World.cell?_spot d0
   subst hspot;rw [Addr.add_lit] at c0;refine ⟨b, off, u, rfl, lt_of_cell c0, h1, h3, fun i x hx => ?_⟩;have := h4 i x hx;rw [Addr.add_lit, <- Nat.add_assoc] at this;exact this
end Go.Proofs.YtabfamhaihnccaaGreat
