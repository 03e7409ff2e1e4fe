/-
  Texts of the proof.
-/
import Derived.Test.YtagmnlmfoanelaaGreatSK14
import Derived.Test.YtagmnlmfoanelaaGreatSK19
set_option maxRecDepth 100000
set_option maxHeartbeats 25600000
namespace Go.Proofs.YtagmnlmfoanelaaGreat
open Go.RowKit
set_option linter.unusedVariables false
set_option linter.unusedSimpArgs false
def mkW (k : Nat) (c : Aw) : Aw := ⟨(k : Int), (k : Int) + 1, marksT (k + 2) c.path.length, marksT (k + 2 + c.path.length) c.lst.length⟩
def szW (c : Aw) : Nat := 2 + c.path.length + c.lst.length
theorem szW_wt (c : Aw) : szW c <= 2 + wtAw c := by
 have h1 := tot_len c.path
 have h2 := tot_len c.lst
 unfold szW wtAw
 omega
theorem sum_szW : ∀ l : List Aw, (l.map szW).sum <= 2 * wtAS l
 | [] => by simp
 | c :: l => by
  have := sum_szW l
  have h2 := szW_wt c
  unfold wtAS at this |-
  simp only [List.map_cons, List.sum_cons, List.length_cons]
  omega
def MkW (w0 W : World) (base g n cap : Nat) (fq : List Nat) (X : List Value) (p e : Value) (P E : List ByteArray) : Prop :=
 W.ownsRow base 103 4 (.slice (some ⟨g, 0, none⟩) n cap) n X /\ (OwnT W base p P /\ OwnT W base e E) /\ Out fq w0 W /\ g ∈ fq /\ (∀ b, p.ownBlock = some b ∨ e.ownBlock = some b -> b ≠ g /\ b ∈ fq) /\ (Ap p e /\ Ap e p)
section
variable {w0 W W' : World} {base g n cap : Nat} {fq : List Nat} {X : List Value} {p e : Value} {P E P' E' : List ByteArray}
theorem MkW.put (h : MkW w0 W base g n cap fq X p e P E) (i : Nat) (x : Value) : MkW w0 (W.setCell ⟨g, i, none⟩ x) base g n cap fq (X.set i x) p e P E :=
 ⟨(h.1.stored i x).1, ⟨row_same h.2.1.1 (fun b hb => heap_setCell_other _ _ _ _ (h.2.2.2.2.1 b (.inl hb)).1), row_same h.2.1.2 (fun b hb => heap_setCell_other _ _ _ _ (h.2.2.2.2.1 b (.inr hb)).1)⟩, h.2.2.1.setCell _ _ h.2.2.2.1, h.2.2.2⟩
theorem MkW.markP (h : MkW w0 W base g n cap fq X p e P E) (ho : OwnT W' base p P') (hg : W.grownBy W' p.ownBlock) : MkW w0 W' base g n cap fq X p e P' E :=
 ⟨h.1.kept hg (.inr fun e => (h.2.2.2.2.1 g (.inl e.symm)).1 rfl), ⟨ho, World.ownsRow.kept h.2.1.2 hg h.2.2.2.2.2.2⟩, h.2.2.1.grown hg (fun q hq => (h.2.2.2.2.1 q (.inl hq)).2), h.2.2.2⟩
theorem MkW.markE (h : MkW w0 W base g n cap fq X p e P E) (ho : OwnT W' base e E') (hg : W.grownBy W' e.ownBlock) : MkW w0 W' base g n cap fq X p e P E' :=
 ⟨h.1.kept hg (.inr fun e => (h.2.2.2.2.1 g (.inr e.symm)).1 rfl), ⟨World.ownsRow.kept h.2.1.1 hg h.2.2.2.2.2.1, ho⟩, h.2.2.1.grown hg (fun q hq => (h.2.2.2.2.1 q (.inr hq)).2), h.2.2.2⟩
theorem MkW.cell (h : MkW w0 W base g n cap fq X p e P E) {i : Nat} (hi : i < n * 4) : ∃ x, W.cell? ⟨g, i, none⟩ = some x := by
 rw [World.ownsRow.cellAt h.1 i hi]
 exact ⟨X[i]'(by rw [h.1.1]; exact hi), List.getElem?_eq_getElem _⟩
theorem MkW.at (h : MkW w0 W base g n cap fq X p e P E) {i : Nat} (hi : i < n * 4) : W.cell? ⟨g, i, none⟩ = X[i]? := World.ownsRow.cellAt h.1 i hi
theorem MkW.free (h : MkW w0 W base g n cap fq X p e P E) (i : Nat) : W.frozen? ⟨g, i, none⟩ = false := World.ownsRow.frozenAt h.1 i
end
theorem markAnswerS_out (l : List Aw) (v : Value) (k base : Nat) (fp : List Nat) (w : World) (hl : wtAS l <= 1048577) (hk1 : 1 <= k) (hk : k <= 100000000) (ha : OwnS awKd w base v l fp) :
  Calls Tryz.prog 61 #[v, .int .i64 k] w fun e w' => e = .returned (.int .i64 ((posG szW k l l.length : Nat) : Int)) /\ OwnS awKd w' base v (mkG mkW szW k l) fp /\ Out fp w w' := by
 obtain ⟨ao, cap, hv, hg, -, -⟩ := ha.shape
 obtain ⟨n, hn⟩ := zE (l.length)
 rw [hn] at hv hg
 subst hv
 obtain ⟨KK, hKK⟩ : ∃ q : Nat, posG szW k l l.length = q := ⟨_, rfl⟩
 rw [hKK]
 have HA : Hid (OwnS awKd w base (.slice ao n cap) l fp /\ l.length = n /\ wtAS l <= 1048577 /\ (0 < n -> ∃ g, ao = some ⟨g, 0, none⟩) /\ posG szW k l l.length = KK) := ⟨ha, hn, hl, hg, hKK⟩
 have hn20 : n <= 1048577 := by unfold wtAS at hl; omega
 clear ha hn hl hg hKK
 go_enter Tryz.func61, Tryz.ntmps61
 go_wp2_with fail
 go_loopw [1, 5] (fun kv iv wr => ∃ j q : Nat, j <= n /\ iv = .int .i64 j /\ kv = .int .i64 q /\ (1 <= q /\ q <= 200000000) /\ Hid (q = posG szW k l j /\ OwnS awKd wr base (.slice ao n cap) ((mkG mkW szW k l).take j ++ l.drop j) fp /\ Out fp w wr)) (fun _ iv _ => n - (intOf iv).toNat)
 case atStart => exact ⟨0, k, Nat.zero_le _, rfl, rfl, ⟨hk1, by omega⟩, by simp [posG], by simpa using HA.out.1, Out.refl _ _⟩
 case round =>
  obtain ⟨j, q, hj, rfl, rfl, ⟨hq1, hq2⟩, H⟩ := hrel
  by_cases hjn : j < n
  ·have hjl : j < l.length := by rw [HA.out.2.1]; exact hjn
   obtain ⟨g, hg⟩ := HA.out.2.2.2.1 (by omega)
   subst hg
   obtain ⟨vs, hvl, hr, he, hfp, hnd⟩ := H.out.2.1
   have hml := markG_len mkW szW (k := k) (Nat.le_of_lt hjl)
   have hjv : j < vs.length := by rw [hvl, hml]; exact hjl
   have hej : OwnAw wr base vs[j] ((mkG mkW szW k l).take j ++ l.drop j)[j] := he j hjv (by omega)
   rw [markG_get mkW szW hjl] at hej
   obtain ⟨c, hc⟩ := zE (l[j])
   rw [hc] at hej
   obtain ⟨p, e, hup, hop, hoe, hap⟩ := hej
   obtain ⟨lp, hlp⟩ := zE (c.path.length)
   obtain ⟨le, hle⟩ := zE (c.lst.length)
   obtain ⟨pa, pc, hpv⟩ : ∃ ao cap, p = .slice ao c.path.length cap := by obtain ⟨ao, cap, h, _⟩ := hop.at; exact ⟨ao, cap, h⟩
   obtain ⟨ea, ec, hev⟩ : ∃ ao cap, e = .slice ao c.lst.length cap := by obtain ⟨ao, cap, h, _⟩ := hoe.at; exact ⟨ao, cap, h⟩
   rw [hlp] at hpv
   rw [hle] at hev
   subst hpv hev
   obtain ⟨X, hX⟩ := zE (cellsV vs)
   have HM : Hid (MkW wr wr base g n cap (g :: fpAw vs[j]) X (.slice pa lp pc) (.slice ea le ec) c.path c.lst) := by
    refine ⟨by rw [<- hX]; rw [hml, HA.out.2.1] at hr; exact hr, ⟨hop, hoe⟩, Out.refl _ _, List.mem_cons_self .., fun b hb => ⟨fun e => ?_, List.mem_cons_of_mem _ (by rw [hup]; exact fpAw_mem.2 hb)⟩, hap⟩
    subst e
    refine (List.nodup_append.1 (hfp ▸ hnd)).2.2 b (by simp [Value.ownBlock]) b (mem_flat (k := fpAw) hjv (by rw [hup]; exact fpAw_mem.2 hb)) rfl
   have HX5 : Hid (∀ i, i < 4 -> X[j * 4 + i]? = (awV c (.slice pa lp pc) (.slice ea le ec)).cells[i]?) := fun i hi => by
    rw [<- hX, <- hup]
    exact cellsV_at (OwnS.sizes (k := awKd) hvl he) j hjv i hi
   have HE : Hid (∀ (W : World), MkW wr W base g n cap (g :: fpAw vs[j]) ((X.set (j * 4) (.int .i64 (q : Int))).set (j * 4 + 1) (.int .i64 ((q : Int) + 1))) (.slice pa lp pc) (.slice ea le ec) (marksT (q + 2) lp) (marksT (q + 2 + lp) le) -> (q = posG szW k l j -> OwnS awKd W base (.slice (some ⟨g, 0, none⟩) n cap) ((mkG mkW szW k l).take (j + 1) ++ l.drop (j + 1)) fp /\ Out fp w W)) := fun W hM hq => by
    have hset : cellsV (vs.set j (.agg #[.int .i64 (q : Int), .int .i64 ((q : Int) + 1), .slice pa lp pc, .slice ea le ec])) = ((X.set (j * 4) (.int .i64 (q : Int))).set (j * 4 + 1) (.int .i64 ((q : Int) + 1))) := by
     rw [<- setMany_cells (K := 4) (OwnS.sizes (k := awKd) hvl he) j _ hjv rfl, hX]
     show ((((X.set (j * 4) (.int .i64 (q : Int))).set (j * 4 + 1) (.int .i64 ((q : Int) + 1))).set (j * 4 + 2) (.slice pa lp pc)).set (j * 4 + 3) (.slice ea le ec)) = _
     have h2 : X[j * 4 + 2]? = some (.slice pa lp pc) := HX5.out 2 (by decide)
     have h3 : X[j * 4 + 3]? = some (.slice ea le ec) := HX5.out 3 (by decide)
     have s2 := set_selfG (l := ((X.set (j * 4) (.int .i64 (q : Int))).set (j * 4 + 1) (.int .i64 ((q : Int) + 1)))) (i := j * 4 + 2) (a := .slice pa lp pc) (by (iterate 2 rw [List.getElem?_set_ne (by omega)]); exact h2)
     have s3 := set_selfG (l := ((X.set (j * 4) (.int .i64 (q : Int))).set (j * 4 + 1) (.int .i64 ((q : Int) + 1)))) (i := j * 4 + 3) (a := .slice ea le ec) (by (iterate 2 rw [List.getElem?_set_ne (by omega)]); exact h3)
     rw [s2, s3]
    have hmk : mkW q c = ⟨(q : Int), (q : Int) + 1, marksT (q + 2) lp, marksT (q + 2 + lp) le⟩ := by unfold mkW; rw [hlp, hle]
    have hT := OwnS.turnK awKd (c' := mkW q c) (cap := cap) (n := n) (j := j) (l := (mkG mkW szW k l).take j ++ l.drop j) (by omega) hvl he (hfp ▸ hnd) (u := .agg #[.int .i64 (q : Int), .int .i64 ((q : Int) + 1), .slice pa lp pc, .slice ea le ec]) (by rw [hup]; rfl) (by rw [hset, hml, HA.out.2.1]; exact hM.1) ⟨.slice pa lp pc, .slice ea le ec, by rw [hmk]; rfl, by rw [hmk]; exact hM.2.1.1, by rw [hmk]; exact hM.2.1.2, hM.2.2.2.2.2⟩ hM.2.2.1
    refine ⟨?_, ?_⟩
    ·rw [hfp, <- markG_set mkW szW hjl, <- hq, hc]
     exact hT
    ·refine H.out.2.2.trans (hM.2.2.1.mono fun b hb => ?_)
     rw [hfp]
     rcases List.mem_cons.1 hb with rfl | hb
     ·exact List.mem_append_left _ (by simp [Value.ownBlock])
     ·exact List.mem_append_right _ (mem_flat (k := fpAw) hjv hb)
   have HL : Hid (c.path.length = lp /\ c.lst.length = le) := ⟨hlp, hle⟩
   have HQ := zH (zJ H.out.1 (by rw [posG_next szW hjl, hc, <- H.out.1]; unfold szW; rw [hlp, hle] : posG szW k l (j + 1) = q + (2 + lp + le)))
   have hqb : q + (2 + lp + le) <= 120000000 := by
    have h1 := posG_le szW k l (j + 1)
    have h2 := sum_szW l
    have h3 := HQ.out.2
    have h4 := HA.out.2.2.1
    omega
   clear H hr he hfp hnd hvl hop hoe hap hX hml
   have hki : (j : Int) < (n : Int) := by omega
   have hk0 : (0 : Int) <= (j : Int) := by omega
   generalize g :: fpAw vs[j] = fq at HM HE
   clear hup hjv hc hlp hle
   obtain ⟨y0, c0⟩ := HM.out.cell (i := j * 4) (by omega)
   obtain ⟨y1, c1⟩ := HM.out.cell (i := j * 4 + 1) (by omega)
   have fz := fun i => HM.out.free i
   have c2 : wr.cell? ⟨g, j * 4 + 2, none⟩ = some (.slice pa lp pc) := by
    rw [HM.out.at (by omega)]
    exact HX5.out 2 (by decide)
   go_wp2_with fail
   clear c0 c1 c2 fz
   obtain ⟨V1, hV1⟩ : ∃ V, V = ((wr.setCell ⟨g, j * 4, none⟩ (.int .i64 (q : Int))).setCell ⟨g, j * 4 + 1, none⟩ (.int .i64 ((q : Int) + 1))) := ⟨_, rfl⟩
   rw [<- hV1]
   have HM1 : Hid (MkW wr V1 base g n cap fq ((X.set (j * 4) (.int .i64 (q : Int))).set (j * 4 + 1) (.int .i64 ((q : Int) + 1))) (.slice pa lp pc) (.slice ea le ec) c.path c.lst) := by rw [hV1]; exact (HM.out.put _ _).put _ _
   clear hV1 HM
   have E5 := markT_any (.slice pa lp pc) c.path (q + 2) base V1 (by rw [HL.out.1]; omega) (by omega) (by omega) HM1.out.2.1.1
   rw [HL.out.1, show (((q + 2 : Nat)) : Int) = (q : Int) + 1 + 1 from by omega] at E5
   refine E5.mono ?_
   rintro e w2 ⟨rfl, ho5, hg5⟩
   have HM2 : Hid (MkW wr w2 base g n cap fq ((X.set (j * 4) (.int .i64 (q : Int))).set (j * 4 + 1) (.int .i64 ((q : Int) + 1))) (.slice pa lp pc) (.slice ea le ec) (marksT (q + 2) lp) c.lst) := HM1.out.markP ho5 hg5
   clear HM1 E5 ho5 hg5
   have fz := fun i => HM2.out.free i
   have c3 : w2.cell? ⟨g, j * 4 + 3, none⟩ = some (.slice ea le ec) := by
    rw [HM2.out.at (by omega)]
    iterate 2 rw [List.getElem?_set_ne (by omega)]
    exact HX5.out 3 (by decide)
   go_wp2_with fail
   clear c3 fz
   have E5 := markT_any (.slice ea le ec) c.lst (q + 2 + lp) base w2 (by rw [HL.out.2]; omega) (by omega) (by omega) HM2.out.2.1.2
   rw [HL.out.2, show (((q + 2 + lp : Nat)) : Int) = (q : Int) + 1 + 1 + (lp : Int) from by omega] at E5
   refine E5.mono ?_
   rintro e w3 ⟨rfl, ho5, hg5⟩
   have HM3 : Hid (MkW wr w3 base g n cap fq ((X.set (j * 4) (.int .i64 (q : Int))).set (j * 4 + 1) (.int .i64 ((q : Int) + 1))) (.slice pa lp pc) (.slice ea le ec) (marksT (q + 2) lp) (marksT (q + 2 + lp) le)) := HM2.out.markE ho5 hg5
   clear HM2 E5 ho5 hg5
   go_wp2_with fail
   go_roundw
   case rel => exact ⟨j + 1, q + (2 + lp + le), by omega, by go_num, by go_num, ⟨by omega, by omega⟩, HQ.out.2.symm, HE.out _ HM3.out HQ.out.1⟩
   case measure => simp [intOf]; omega
  ·have hjl : n = j := by omega
   subst hjl
   have HE : Hid (q = KK /\ (mkG mkW szW k l).take n ++ l.drop n = mkG mkW szW k l) := by
    have h1 := HA.out.2.1
    refine ⟨?_, markG_all mkW szW (by omega)⟩
    rw [<- HA.out.2.2.2.2, h1]; exact H.out.1
   go_wp2
   go_ret
   refine ⟨by rw [HE.out.1]; rfl, ?_, H.out.2.2⟩
   have h := H.out.2.1
   rw [HE.out.2] at h
   exact h
theorem markP_any (g o n : Nat) (l : List ByteArray) (k base : Nat) (w : World) (hl : l.length <= 1000000000) (hon : o + n <= l.length) (hk1 : 1 <= k) (hk : k <= 1000000000) (hv : RowW w base g l) :
  Calls Tryz.prog 37 #[pcV g o n, .int .i64 k] w fun e w' => e = .returned (.int .i64 ((k : Int) + (n : Int))) /\ RowW w' base g (l.take o ++ marksT k n ++ l.drop (o + n)) /\ w.grownBy w' (if l.length = 0 then none else some g) := by
 by_cases h0 : n = 0
 ·subst h0
  obtain ⟨LL, hLL⟩ := zE (l.take o ++ marksT k 0 ++ l.drop (o + 0))
  obtain ⟨ro, hro⟩ := zE ((if l.length = 0 then none else some g))
  rw [hLL, hro]
  have HE : Hid (LL = l) := by
   show LL = l
   rw [<- hLL, show marksT k 0 = [] from rfl, List.append_nil, Nat.add_zero, List.take_append_drop]
  clear hLL hro
  have HV : Hid (RowW w base g l) := hv
  clear hv
  rw [pcV_zero]
  go_enter Tryz.func37, Tryz.ntmps37
  go_wp2
  go_loopw [1, 5] (fun kv iv wr => kv = .int .i64 k /\ iv = .int .i64 0 /\ Hid (wr = w)) (fun _ iv _ => 0)
  case atStart => exact ⟨rfl, rfl, rfl⟩
  case round =>
   obtain ⟨rfl, rfl, HW⟩ := hrel
   go_wp2
   go_ret
   have e := HW.out
   subst e
   exact ⟨by simp, by rw [HE.out]; exact HV.out, World.grownBy.refl _ _⟩
 rcases hv with hv | hv
 ·omega
 rw [pcV_pos (by omega), if_neg (by omega)]
 obtain ⟨N, hN⟩ := zE (l.length)
 rw [hN] at hv hl hon
 have HV : Hid (OwnT w base (.slice (some ⟨g, 0, none⟩) N N) l /\ l.length = N /\ 0 < n /\ o + n <= N) := ⟨hv, hN, by omega, hon⟩
 clear hv hN h0
 go_enter Tryz.func37, Tryz.ntmps37
 go_wp2
 go_loopw [1, 5] (fun kv iv wr => ∃ (j : Nat) (L : List ByteArray), j <= n /\ kv = .int .i64 ((k : Int) + (j : Int)) /\ iv = .int .i64 j /\ Hid (L.length = N /\ (∀ i, i < N -> L.getD i ByteArray.empty = if o <= i /\ i < o + j then ⟨(mt (k + (i - o))).toArray⟩ else l.getD i ByteArray.empty) /\ OwnT wr base (.slice (some ⟨g, 0, none⟩) N N) L /\ w.grownBy wr (some g))) (fun _ iv _ => n - (intOf iv).toNat)
 case atStart => exact ⟨0, l, Nat.zero_le _, by simp, rfl, HV.out.2.1, fun i hi => by rw [if_neg (by omega)], HV.out.1, World.grownBy.refl _ _⟩
 case round =>
  obtain ⟨j, L, hj, rfl, rfl, H⟩ := hrel
  by_cases hlt : j < n
  ·have hL := H.out.1
   have hO : OwnT wr base (.slice (some ⟨g, 0, none⟩) L.length N) L := by rw [hL]; exact H.out.2.2.1
   have hoj : o + j < N := by have := HV.out.2.2.2; omega
   have hu := hO.cell (j := o + j) (by omega)
   have hf := hO.frozen (o + j)
   have hgl : g < wr.heap.size := (World.ownsRow.lt hO g rfl).2
   have HX : Hid (∀ w1, Below wr.heap.size wr w1 -> (L.set (o + j) ⟨(mt (k + j)).toArray⟩).length = N /\ (∀ i, i < N -> (L.set (o + j) ⟨(mt (k + j)).toArray⟩).getD i ByteArray.empty = if o <= i /\ i < o + (j + 1) then ⟨(mt (k + (i - o))).toArray⟩ else l.getD i ByteArray.empty) /\ OwnT (w1.setCell ⟨g, o + j, none⟩ (.string ⟨(mt (k + j)).toArray⟩)) base (.slice (some ⟨g, 0, none⟩) N N) (L.set (o + j) ⟨(mt (k + j)).toArray⟩) /\ w.grownBy (w1.setCell ⟨g, o + j, none⟩ (.string ⟨(mt (k + j)).toArray⟩)) (some g)) := by
    intro w1 hb1
    refine ⟨by simp [hL], fun i hi => ?_, ?_, grown_trans H.out.2.2.2 (grown_trans (grown_below hb1) (grown_set w1 g (o + j) _))⟩
    ·rw [getT_set _ (by omega)]
     by_cases e : i = o + j
     ·rw [if_pos e, if_pos (by omega), e, Nat.add_sub_cancel_left]
     ·rw [if_neg e, H.out.2.1 i hi]
      by_cases e2 : o <= i /\ i < o + j
      ·rw [if_pos e2, if_pos (by omega)]
      ·rw [if_neg e2, if_neg (by omega)]
    ·have h := (hO.stays hb1).set (o + j) ⟨(mt (k + j)).toArray⟩
     rw [List.length_set, hL] at h
     exact h
   clear H hO hL
   generalize L.getD (o + j) ByteArray.empty = z at *
   have hji : (j : Int) < (n : Int) := by omega
   have hj0 : (0 : Int) <= (j : Int) := by omega
   have e : ((k : Int) + (j : Int)).toNat = k + j := by omega
   go_wp2_with (go_at_call 60; refine (markText_int _ _ ?_ ?_).mono ?_; omega; omega; rintro e w1 ⟨rfl, hb1⟩; have hu1 := (hb1.cell (p := ⟨g, o + j, none⟩) hgl).trans hu; have hf1 := (hb1.frozen (p := ⟨g, o + j, none⟩) hgl).trans hf)
   have HX1 := HX.out w1 hb1
   go_roundw
   case rel => exact ⟨j + 1, L.set (o + j) ⟨(mt (k + j)).toArray⟩, by omega, by go_num, by go_num, by first | exact HX1 | (rw [e]; exact HX1)⟩
   case measure => simp [intOf]; omega
  ·have hjn : j = n := by omega
   subst hjn
   have HE : Hid (L = l.take o ++ marksT k j ++ l.drop (o + j)) := by
    have hln : (l.take o).length = o := by rw [List.length_take]; have := HV.out; omega
    refine extT_getD (by rw [H.out.1, List.length_append, List.length_append, hln, marksT_len, List.length_drop]; have := HV.out; omega) (fun i hi => ?_)
    rw [H.out.1] at hi
    rw [H.out.2.1 i hi]
    by_cases h1 : i < o
    ·rw [if_neg (by omega), List.append_assoc, getD_left (by rw [hln]; exact h1), List.getD_eq_getElem?_getD, List.getD_eq_getElem?_getD, List.getElem?_take, if_pos h1]
    ·obtain ⟨q, rfl⟩ : ∃ q, i = o + q := ⟨i - o, by omega⟩
     have e1 : (l.take o ++ marksT k j ++ l.drop (o + j)).getD (o + q) ByteArray.empty = (marksT k j ++ l.drop (o + j)).getD q ByteArray.empty := by
      have h := getD_right (a := l.take o) (b := marksT k j ++ l.drop (o + j)) (j := q)
      rw [hln] at h
      rw [List.append_assoc]
      exact h
     rw [e1]
     by_cases h2 : q < j
     ·rw [if_pos (by omega), getD_left (by rw [marksT_len]; exact h2), marksT_at h2, Nat.add_sub_cancel_left]
     ·obtain ⟨r, rfl⟩ : ∃ r, q = j + r := ⟨q - j, by omega⟩
      have h := getD_right (a := marksT k j) (b := l.drop (o + j)) (j := r)
      rw [marksT_len] at h
      rw [if_neg (by omega), h, List.getD_eq_getElem?_getD, List.getD_eq_getElem?_getD, List.getElem?_drop, Nat.add_assoc]
   have HZ : Hid ((l.take o ++ marksT k j ++ l.drop (o + j)).length = N) := by rw [<- HE.out]; exact H.out.1
   go_wp2
   go_ret
   refine ⟨rfl, .inr ?_, H.out.2.2.2⟩
   rw [HZ.out, <- HE.out]
   exact H.out.2.2.1
def MkX (w0 W : World) (base g n cap : Nat) (fq : List Nat) (X : List Value) (h : Nat) (P : List ByteArray) : Prop :=
 W.ownsRow base 103 4 (.slice (some ⟨g, 0, none⟩) n cap) n X /\ RowW W base h P /\ Out fq w0 W /\ g ∈ fq /\ (0 < P.length -> h ≠ g /\ h ∈ fq)
section
variable {w0 W W' : World} {base g n cap h : Nat} {fq : List Nat} {X : List Value} {P P' : List ByteArray}
theorem MkX.put (q : MkX w0 W base g n cap fq X h P) (i : Nat) (x : Value) : MkX w0 (W.setCell ⟨g, i, none⟩ x) base g n cap fq (X.set i x) h P :=
 ⟨(q.1.stored i x).1, q.2.1.same (fun h0 => heap_setCell_other _ _ _ _ (q.2.2.2.2 h0).1), q.2.2.1.setCell _ _ q.2.2.2.1, q.2.2.2⟩
theorem MkX.mark (q : MkX w0 W base g n cap fq X h P) (hl : P'.length = P.length) (ho : RowW W' base h P') (hg : W.grownBy W' (if P.length = 0 then none else some h)) : MkX w0 W' base g n cap fq X h P' := by
 by_cases h0 : P.length = 0
 ·rw [if_pos h0] at hg
  exact ⟨q.1.kept hg (.inr (by simp [Value.ownBlock])), ho, q.2.2.1.grown hg (fun _ e => by cases e), q.2.2.2.1, fun h1 => by omega⟩
 ·rw [if_neg h0] at hg
  have h1 := q.2.2.2.2 (by omega)
  exact ⟨q.1.kept hg (.inr fun e => h1.1 (by injection e with e; exact e.symm)), ho, q.2.2.1.grown hg (fun z hz => by injection hz with hz; subst hz; exact h1.2), q.2.2.2.1, fun _ => h1⟩
theorem MkX.cell (q : MkX w0 W base g n cap fq X h P) {i : Nat} (hi : i < n * 4) : ∃ x, W.cell? ⟨g, i, none⟩ = some x := by
 rw [World.ownsRow.cellAt q.1 i hi]
 exact ⟨X[i]'(by rw [q.1.1]; exact hi), List.getElem?_eq_getElem _⟩
theorem MkX.at (q : MkX w0 W base g n cap fq X h P) {i : Nat} (hi : i < n * 4) : W.cell? ⟨g, i, none⟩ = X[i]? := World.ownsRow.cellAt q.1 i hi
theorem MkX.free (q : MkX w0 W base g n cap fq X h P) (i : Nat) : W.frozen? ⟨g, i, none⟩ = false := World.ownsRow.frozenAt q.1 i
end
theorem markAnswerS_outW (l : List Aw) (v : Value) (k base : Nat) (fp : List Nat) (w : World) (hl : wtAS l <= 1048577) (hk1 : 1 <= k) (hk : k <= 100000000) (ha : OwnS awWd w base v l fp) :
  Calls Tryz.prog 61 #[v, .int .i64 k] w fun e w' => e = .returned (.int .i64 ((posG szW k l l.length : Nat) : Int)) /\ OwnS awWd w' base v (mkG mkW szW k l) fp /\ Out fp w w' := by
 obtain ⟨ao, cap, hv, hg, -, -⟩ := ha.shape
 obtain ⟨n, hn⟩ := zE (l.length)
 rw [hn] at hv hg
 subst hv
 obtain ⟨KK, hKK⟩ : ∃ q : Nat, posG szW k l l.length = q := ⟨_, rfl⟩
 rw [hKK]
 have HA : Hid (OwnS awWd w base (.slice ao n cap) l fp /\ l.length = n /\ wtAS l <= 1048577 /\ (0 < n -> ∃ g, ao = some ⟨g, 0, none⟩) /\ posG szW k l l.length = KK) := ⟨ha, hn, hl, hg, hKK⟩
 have hn20 : n <= 1048577 := by unfold wtAS at hl; omega
 clear ha hn hl hg hKK
 go_enter Tryz.func61, Tryz.ntmps61
 go_wp2_with fail
 go_loopw [1, 5] (fun kv iv wr => ∃ j q : Nat, j <= n /\ iv = .int .i64 j /\ kv = .int .i64 q /\ (1 <= q /\ q <= 200000000) /\ Hid (q = posG szW k l j /\ OwnS awWd wr base (.slice ao n cap) ((mkG mkW szW k l).take j ++ l.drop j) fp /\ Out fp w wr)) (fun _ iv _ => n - (intOf iv).toNat)
 case atStart => exact ⟨0, k, Nat.zero_le _, rfl, rfl, ⟨hk1, by omega⟩, by simp [posG], by simpa using HA.out.1, Out.refl _ _⟩
 case round =>
  obtain ⟨j, q, hj, rfl, rfl, ⟨hq1, hq2⟩, H⟩ := hrel
  by_cases hjn : j < n
  ·have hjl : j < l.length := by rw [HA.out.2.1]; exact hjn
   obtain ⟨g, hg⟩ := HA.out.2.2.2.1 (by omega)
   subst hg
   obtain ⟨vs, hvl, hr, he, hfp, hnd⟩ := H.out.2.1
   have hml := markG_len mkW szW (k := k) (Nat.le_of_lt hjl)
   have hjv : j < vs.length := by rw [hvl, hml]; exact hjl
   have hej : OwnW wr base vs[j] ((mkG mkW szW k l).take j ++ l.drop j)[j] := he j hjv (by omega)
   rw [markG_get mkW szW hjl] at hej
   obtain ⟨c, hc⟩ := zE (l[j])
   rw [hc] at hej
   obtain ⟨h, hup, hrw⟩ := hej
   obtain ⟨lp, hlp⟩ := zE (c.path.length)
   obtain ⟨le, hle⟩ := zE (c.lst.length)
   rw [hlp, hle] at hup
   obtain ⟨X, hX⟩ := zE (cellsV vs)
   have hfv : fpW vs[j] = if lp + le = 0 then [] else [h] := by rw [hup]; exact fpW_eq
   have HM : Hid (MkX wr wr base g n cap (g :: fpW vs[j]) X h (c.path ++ c.lst)) := by
    refine ⟨by rw [<- hX]; rw [hml, HA.out.2.1] at hr; exact hr, hrw, Out.refl _ _, List.mem_cons_self .., fun h0 => ?_⟩
    have hm : h ∈ fpW vs[j] := by rw [hfv, if_neg (by rw [List.length_append] at h0; omega)]; simp
    refine ⟨fun e => ?_, List.mem_cons_of_mem _ hm⟩
    subst e
    exact (List.nodup_append.1 (hfp ▸ hnd)).2.2 h (by simp [Value.ownBlock]) h (mem_flat (k := fpW) hjv hm) rfl
   have HX5 : Hid (∀ i, i < 4 -> X[j * 4 + i]? = (awV c (pcV h 0 lp) (pcV h lp le)).cells[i]?) := fun i hi => by
    rw [<- hX, <- hup]
    exact cellsV_at (OwnS.sizes (k := awWd) hvl he) j hjv i hi
   have HE : Hid (∀ (W : World), MkX wr W base g n cap (g :: fpW vs[j]) ((X.set (j * 4) (.int .i64 (q : Int))).set (j * 4 + 1) (.int .i64 ((q : Int) + 1))) h (marksT (q + 2) lp ++ marksT (q + 2 + lp) le) -> (q = posG szW k l j -> OwnS awWd W base (.slice (some ⟨g, 0, none⟩) n cap) ((mkG mkW szW k l).take (j + 1) ++ l.drop (j + 1)) fp /\ Out fp w W)) := fun W hM hq => by
    have hset : cellsV (vs.set j (.agg #[.int .i64 (q : Int), .int .i64 ((q : Int) + 1), pcV h 0 lp, pcV h lp le])) = ((X.set (j * 4) (.int .i64 (q : Int))).set (j * 4 + 1) (.int .i64 ((q : Int) + 1))) := by
     rw [<- setMany_cells (K := 4) (OwnS.sizes (k := awWd) hvl he) j _ hjv rfl, hX]
     show ((((X.set (j * 4) (.int .i64 (q : Int))).set (j * 4 + 1) (.int .i64 ((q : Int) + 1))).set (j * 4 + 2) (pcV h 0 lp)).set (j * 4 + 3) (pcV h lp le)) = _
     have h2 : X[j * 4 + 2]? = some (pcV h 0 lp) := HX5.out 2 (by decide)
     have h3 : X[j * 4 + 3]? = some (pcV h lp le) := HX5.out 3 (by decide)
     have s2 := set_selfG (l := ((X.set (j * 4) (.int .i64 (q : Int))).set (j * 4 + 1) (.int .i64 ((q : Int) + 1)))) (i := j * 4 + 2) (a := pcV h 0 lp) (by (iterate 2 rw [List.getElem?_set_ne (by omega)]); exact h2)
     have s3 := set_selfG (l := ((X.set (j * 4) (.int .i64 (q : Int))).set (j * 4 + 1) (.int .i64 ((q : Int) + 1)))) (i := j * 4 + 3) (a := pcV h lp le) (by (iterate 2 rw [List.getElem?_set_ne (by omega)]); exact h3)
     rw [s2, s3]
    have hmk : mkW q c = ⟨(q : Int), (q : Int) + 1, marksT (q + 2) lp, marksT (q + 2 + lp) le⟩ := by unfold mkW; rw [hlp, hle]
    have hT := OwnS.turnK awWd (c' := mkW q c) (cap := cap) (n := n) (j := j) (l := (mkG mkW szW k l).take j ++ l.drop j) (by omega) hvl he (hfp ▸ hnd) (u := .agg #[.int .i64 (q : Int), .int .i64 ((q : Int) + 1), pcV h 0 lp, pcV h lp le]) (by rw [hup]; rfl) (by rw [hset, hml, HA.out.2.1]; exact hM.1) ⟨h, by rw [hmk]; show _ = Value.agg #[_, _, pcV h 0 (marksT (q + 2) lp).length, pcV h (marksT (q + 2) lp).length (marksT (q + 2 + lp) le).length]; rw [marksT_len, marksT_len], by rw [hmk]; exact hM.2.1⟩ hM.2.2.1
    refine ⟨?_, ?_⟩
    ·rw [hfp, <- markG_set mkW szW hjl, <- hq, hc]
     exact hT
    ·refine H.out.2.2.trans (hM.2.2.1.mono fun b hb => ?_)
     rw [hfp]
     rcases List.mem_cons.1 hb with rfl | hb
     ·exact List.mem_append_left _ (by simp [Value.ownBlock])
     ·exact List.mem_append_right _ (mem_flat (k := fpW) hjv hb)
   have HL : Hid (c.path.length = lp /\ c.lst.length = le) := ⟨hlp, hle⟩
   have HQ := zH (zJ H.out.1 (by rw [posG_next szW hjl, hc, <- H.out.1]; unfold szW; rw [hlp, hle] : posG szW k l (j + 1) = q + (2 + lp + le)))
   have hqb : q + (2 + lp + le) <= 120000000 := by
    have h1 := posG_le szW k l (j + 1)
    have h2 := sum_szW l
    have h3 := HQ.out.2
    have h4 := HA.out.2.2.1
    omega
   clear H hr he hfp hnd hvl hrw hX hml hfv
   obtain ⟨sp, hs0⟩ := pcV_shape h 0 lp
   obtain ⟨se, hs1⟩ := pcV_shape h lp le
   have hki : (j : Int) < (n : Int) := by omega
   have hk0 : (0 : Int) <= (j : Int) := by omega
   generalize g :: fpW vs[j] = fq at HM HE
   clear hup hjv hc hlp hle
   obtain ⟨y0, c0⟩ := HM.out.cell (i := j * 4) (by omega)
   obtain ⟨y1, c1⟩ := HM.out.cell (i := j * 4 + 1) (by omega)
   have fz := fun i => HM.out.free i
   have c2 : wr.cell? ⟨g, j * 4 + 2, none⟩ = some (.slice sp lp lp) := by
    rw [HM.out.at (by omega), <- hs0]
    exact HX5.out 2 (by decide)
   go_wp2_with fail
   clear c0 c1 c2 fz
   obtain ⟨V1, hV1⟩ : ∃ V, V = ((wr.setCell ⟨g, j * 4, none⟩ (.int .i64 (q : Int))).setCell ⟨g, j * 4 + 1, none⟩ (.int .i64 ((q : Int) + 1))) := ⟨_, rfl⟩
   rw [<- hV1]
   have HM1 : Hid (MkX wr V1 base g n cap fq ((X.set (j * 4) (.int .i64 (q : Int))).set (j * 4 + 1) (.int .i64 ((q : Int) + 1))) h (c.path ++ c.lst)) := by rw [hV1]; exact (HM.out.put _ _).put _ _
   clear hV1 HM
   have E5 := markP_any h 0 lp (c.path ++ c.lst) (q + 2) base V1 (by rw [List.length_append, HL.out.1, HL.out.2]; omega) (by rw [List.length_append, HL.out.1]; omega) (by omega) (by omega) HM1.out.2.1
   rw [show (((q + 2 : Nat)) : Int) = (q : Int) + 1 + 1 from by omega] at E5
   rw [hs0] at E5
   refine E5.mono ?_
   rintro e w2 ⟨rfl, ho5, hg5⟩
   have HT1 : Hid ((c.path ++ c.lst).take 0 ++ marksT (q + 2) lp ++ (c.path ++ c.lst).drop (0 + lp) = marksT (q + 2) lp ++ c.lst) := by
    show (c.path ++ c.lst).take 0 ++ marksT (q + 2) lp ++ (c.path ++ c.lst).drop (0 + lp) = marksT (q + 2) lp ++ c.lst
    rw [List.take_zero, List.nil_append, Nat.zero_add, <- HL.out.1, List.drop_left]
   rw [HT1.out] at ho5
   have HM2 : Hid (MkX wr w2 base g n cap fq ((X.set (j * 4) (.int .i64 (q : Int))).set (j * 4 + 1) (.int .i64 ((q : Int) + 1))) h (marksT (q + 2) lp ++ c.lst)) := HM1.out.mark (by rw [List.length_append, List.length_append, marksT_len, HL.out.1]) ho5 hg5
   clear HM1 E5 ho5 hg5 HT1
   have fz := fun i => HM2.out.free i
   have c3 : w2.cell? ⟨g, j * 4 + 3, none⟩ = some (.slice se le le) := by
    rw [HM2.out.at (by omega)]
    iterate 2 rw [List.getElem?_set_ne (by omega)]
    rw [<- hs1]
    exact HX5.out 3 (by decide)
   go_wp2_with fail
   clear c3 fz
   have E5 := markP_any h lp le (marksT (q + 2) lp ++ c.lst) (q + 2 + lp) base w2 (by rw [List.length_append, marksT_len, HL.out.2]; omega) (by rw [List.length_append, marksT_len, HL.out.2]; exact Nat.le_refl _) (by omega) (by omega) HM2.out.2.1
   rw [show (((q + 2 + lp : Nat)) : Int) = (q : Int) + 1 + 1 + (lp : Int) from by omega] at E5
   rw [hs1] at E5
   refine E5.mono ?_
   rintro e w3 ⟨rfl, ho5, hg5⟩
   have HT2 : Hid ((marksT (q + 2) lp ++ c.lst).take lp ++ marksT (q + 2 + lp) le ++ (marksT (q + 2) lp ++ c.lst).drop (lp + le) = marksT (q + 2) lp ++ marksT (q + 2 + lp) le) := by
    show (marksT (q + 2) lp ++ c.lst).take lp ++ marksT (q + 2 + lp) le ++ (marksT (q + 2) lp ++ c.lst).drop (lp + le) = _
    have e1 : (marksT (q + 2) lp ++ c.lst).take lp = marksT (q + 2) lp := by
     have h := List.take_left (l₁ := marksT (q + 2) lp) (l₂ := c.lst)
     rw [marksT_len] at h
     exact h
    rw [e1, List.drop_eq_nil_of_le (by rw [List.length_append, marksT_len, HL.out.2]; exact Nat.le_refl _), List.append_nil]
   rw [HT2.out] at ho5
   have HM3 : Hid (MkX wr w3 base g n cap fq ((X.set (j * 4) (.int .i64 (q : Int))).set (j * 4 + 1) (.int .i64 ((q : Int) + 1))) h (marksT (q + 2) lp ++ marksT (q + 2 + lp) le)) := HM2.out.mark (by rw [List.length_append, List.length_append, marksT_len, marksT_len, HL.out.2]) ho5 hg5
   clear HM2 E5 ho5 hg5 HT2
   go_wp2_with fail
   go_roundw
   case rel => exact ⟨j + 1, q + (2 + lp + le), by omega, by go_num, by go_num, ⟨by omega, by omega⟩, HQ.out.2.symm, HE.out _ HM3.out HQ.out.1⟩
   case measure => simp [intOf]; omega
  ·have hjl : n = j := by omega
   subst hjl
   have HE : Hid (q = KK /\ (mkG mkW szW k l).take n ++ l.drop n = mkG mkW szW k l) := by
    have h1 := HA.out.2.1
    refine ⟨?_, markG_all mkW szW (by omega)⟩
    rw [<- HA.out.2.2.2.2, h1]; exact H.out.1
   go_wp2
   go_ret
   refine ⟨by rw [HE.out.1]; rfl, ?_, H.out.2.2⟩
   have h := H.out.2.1
   rw [HE.out.2] at h
   exact h
theorem heldT_sameO (v : Value) (n k : Nat) (w : World) (hn : n <= 1000000000) (hk1 : 1 <= k) (hk : k <= 1000000000) (hv : TxtO w v (marksT k n)) :
  Calls Tryz.prog 78 #[v, .int .i64 k] w fun e w' => e = .returned (.int .i64 ((k : Int) + (n : Int))) /\ Below w.heap.size w w' := by
 obtain ⟨ao, cap, rfl, hc⟩ := hv
 rw [marksT_len]
 have HC : Hid (∀ j, j < n -> ∃ g o, ao = some ⟨g, o, none⟩ /\ g < w.heap.size /\ w.cell? ⟨g, o + j, none⟩ = some (.string ⟨(mt (k + j)).toArray⟩)) := fun j h => by
  obtain ⟨g, o, hg, hl, hcs⟩ := hc j (by rw [marksT_len]; exact h)
  rw [marksT_at h] at hcs
  exact ⟨g, o, hg, hl, hcs⟩
 clear hc
 go_enter Tryz.func78, Tryz.ntmps78
 go_wp2
 go_loopw [1, 5] (fun kv iv wr => ∃ j : Nat, j <= n /\ kv = .int .i64 ((k : Int) + (j : Int)) /\ iv = .int .i64 j /\ Below w.heap.size w wr) (fun _ iv _ => n - (intOf iv).toNat)
 case atStart => exact ⟨0, Nat.zero_le _, by simp, rfl, Below.refl _ _⟩
 case round =>
  obtain ⟨j, hj, rfl, rfl, hbel⟩ := hrel
  have hsz := hbel.size
  by_cases hlt : j < n
  ·obtain ⟨g, o, hao, hgl, hcs⟩ := HC.out j hlt
   subst hao
   have hu : wr.cell? ⟨g, o + j, none⟩ = some (.string ⟨(mt (k + j)).toArray⟩) := (hbel.cell (p := ⟨g, o + j, none⟩) hgl).trans hcs
   have hgr : g < wr.heap.size := by omega
   have hji : (j : Int) < (n : Int) := by omega
   have hj0 : (0 : Int) <= (j : Int) := by omega
   clear hcs
   have he : ((k : Int) + (j : Int)).toNat = k + j := by omega
   go_wp2_with fail
   go_region_held3 (fun w' => w'.cell? ⟨g, o + j, none⟩ = some (.string ⟨(mt (k + j)).toArray⟩)) (first | go_keep | exact (hb1.cell (p := ⟨g, o + j, none⟩) hgr).trans hu) ((go_at_call 60; refine (markText_int _ _ ?_ ?_).mono ?_; omega; omega; rintro e w1 ⟨rfl, hb1⟩))
   all_goals
    have hb2 : Below w.heap.size w w1 := hbel.drew.trans (hb1.mono hsz)
    go_wp2
    go_roundw
    case rel => exact ⟨j + 1, by omega, by go_num, by go_num, hb2⟩
    case measure => simp [intOf]; omega
  ·have hjn : j = n := by omega
   subst hjn
   go_wp2
   go_ret
   exact ⟨rfl, hbel⟩
theorem heldAnswerS_sameO (l : List Aw) (v : Value) (k : Nat) (w : World) (hl : wtAS l <= 1048577) (hk1 : 1 <= k) (hk : k <= 100000000) (ha : AtS awWd w v (mkG mkW szW k l)) :
  Calls Tryz.prog 62 #[v, .int .i64 k] w fun e w' => e = .returned (.int .i64 ((posG szW k l l.length : Nat) : Int)) /\ Below w.heap.size w w' := by
 obtain ⟨ao, cap, hv⟩ := ha.shape
 obtain ⟨n, hn⟩ := zE (l.length)
 rw [mkG_len, hn] at hv
 subst hv
 obtain ⟨KK, hKK⟩ : ∃ q : Nat, posG szW k l l.length = q := ⟨_, rfl⟩
 rw [hKK]
 have HA : Hid (AtS awWd w (.slice ao n cap) (mkG mkW szW k l) /\ l.length = n /\ wtAS l <= 1048577 /\ posG szW k l l.length = KK) := ⟨ha, hn, hl, hKK⟩
 have hn20 : n <= 1048577 := by unfold wtAS at hl; omega
 clear ha hn hl hKK
 go_enter Tryz.func62, Tryz.ntmps62
 go_wp2_with fail
 go_loopw [1, 5] (fun kv iv wr => ∃ j q : Nat, j <= n /\ iv = .int .i64 j /\ kv = .int .i64 q /\ (1 <= q /\ q <= 200000000) /\ Hid (q = posG szW k l j /\ Below w.heap.size w wr)) (fun _ iv _ => n - (intOf iv).toNat)
 case atStart => exact ⟨0, k, Nat.zero_le _, rfl, rfl, ⟨hk1, by omega⟩, by simp [posG], Below.refl _ _⟩
 case round =>
  obtain ⟨j, q, hj, rfl, rfl, ⟨hq1, hq2⟩, H⟩ := hrel
  by_cases hjn : j < n
  ·have hjl : j < l.length := by rw [HA.out.2.1]; exact hjn
   have hjm : j < (mkG mkW szW k l).length := by rw [mkG_len]; exact hjl
   obtain ⟨g, off, u, hao, hgB, hPu, hus, hcell⟩ := HA.out.1.get hjm
   rw [mkG_get mkW szW l k j hjl hjm, <- H.out.1] at hPu
   obtain ⟨c, hc⟩ := zE (l[j])
   rw [hc] at hPu
   obtain ⟨lp, hlp⟩ := zE (c.path.length)
   obtain ⟨le, hle⟩ := zE (c.lst.length)
   obtain ⟨p, e, hup, h1, h2⟩ := hPu
   change TxtO w p (marksT (q + 2) c.path.length) at h1
   change TxtO w e (marksT (q + 2 + c.path.length) c.lst.length) at h2
   rw [hlp] at h1 h2
   rw [hle] at h2
   obtain ⟨pa, pc, hp, -⟩ := id h1
   obtain ⟨ea, ec, he, -⟩ := id h2
   rw [marksT_len] at hp he
   subst hp he hao
   have HC : Hid (∀ (W : World), Below w.heap.size w W -> ∀ i x, (Value.agg #[.int .i64 (q : Int), .int .i64 ((q : Int) + 1), .slice pa lp pc, .slice ea le ec]).cells[i]? = some x -> W.cell? ⟨g, off + j * 4 + i, none⟩ = some x) := fun W hb i x hx => by
    refine (hb.cell (p := ⟨g, off + j * 4 + i, none⟩) hgB).trans (hcell i x ?_)
    rw [hup]
    unfold mkW awV
    exact hx
   have HRV : Hid (TxtO w (.slice pa lp pc) (marksT (q + 2) lp) /\ TxtO w (.slice ea le ec) (marksT (q + 2 + lp) le)) := ⟨h1, h2⟩
   have HQ : Hid (posG szW k l (j + 1) = q + (2 + lp + le)) := by show _ = _; rw [posG_next szW hjl, hc, <- H.out.1]; unfold szW; rw [hlp, hle]
   have hqb : q + (2 + lp + le) <= 120000000 := by
    have h1 := posG_le szW k l (j + 1)
    have h2 := sum_szW l
    have h3 := HQ.out
    have h4 := HA.out.2.2.1
    omega
   have HB : Hid (Below w.heap.size w wr) := H.out.2
   clear H hus hcell hup h1 h2 hc hlp hle hgB hjm
   have hki : (j : Int) < (n : Int) := by omega
   have hk0 : (0 : Int) <= (j : Int) := by omega
   have c0 : wr.cell? ⟨g, off + j * 4, none⟩ = some (.int .i64 (q : Int)) := HC.out wr HB.out 0 _ rfl
   have c1 : wr.cell? ⟨g, off + j * 4 + 1, none⟩ = some (.int .i64 ((q : Int) + 1)) := HC.out wr HB.out 1 _ rfl
   have c2 : wr.cell? ⟨g, off + j * 4 + 2, none⟩ = some (.slice pa lp pc) := HC.out wr HB.out 2 _ rfl
   have E5 := heldT_sameO (.slice pa lp pc) lp (q + 2) wr (by omega) (by omega) (by omega) (HRV.out.1.below HB.out)
   rw [show (((q + 2 : Nat)) : Int) = (q : Int) + 1 + 1 from by omega] at E5
   go_wp2_with fail
   clear c0 c1 c2
   refine E5.mono ?_
   rintro e w6 ⟨rfl, hb4⟩
   have HBn : Hid (Below w.heap.size w w6) := HB.out.trans (hb4.mono HB.out.size)
   clear HB hb4 E5
   have HB := HBn
   clear HBn
   have hneg : ¬ ((q : Int) + 1 + 1 + (lp : Int)) < 0 := by omega
   have c3 : w6.cell? ⟨g, off + j * 4 + 3, none⟩ = some (.slice ea le ec) := HC.out w6 HB.out 3 _ rfl
   have E5 := heldT_sameO (.slice ea le ec) le (q + 2 + lp) w6 (by omega) (by omega) (by omega) (HRV.out.2.below HB.out)
   rw [show (((q + 2 + lp : Nat)) : Int) = (q : Int) + 1 + 1 + (lp : Int) from by omega] at E5
   go_wp2_with fail
   clear c3 hneg
   refine E5.mono ?_
   rintro e w7 ⟨rfl, hb4⟩
   have HBn : Hid (Below w.heap.size w w7) := HB.out.trans (hb4.mono HB.out.size)
   clear HB hb4 E5
   have HB := HBn
   clear HBn
   have hneg : ¬ ((q : Int) + 1 + 1 + (lp : Int) + (le : Int)) < 0 := by omega
   go_wp2_with fail
   go_roundw
   case rel => exact ⟨j + 1, q + (2 + lp + le), by omega, by go_num, by go_num, ⟨by omega, by omega⟩, HQ.out.symm, HB.out⟩
   case measure => simp [intOf]; omega
  ·have hjl : n = j := by omega
   subst hjl
   have HE : Hid (q = KK) := by
    show q = KK
    rw [<- HA.out.2.2.2, HA.out.2.1]
    exact H.out.1
   go_wp2
   go_ret
   exact ⟨by rw [HE.out]; rfl, H.out.2⟩
end Go.Proofs.YtagmnlmfoanelaaGreat
