/-
  Texts of the proof.
-/
import Derived.Test.YtbiiihjohbnodaaMRV25
set_option maxRecDepth 100000
set_option maxHeartbeats 25600000
namespace Go.Proofs.Ytbiiihjohbnodaa
open Go.RowKit
set_option linter.unusedVariables false
set_option linter.unusedSimpArgs false
def mkW (k : Nat) (c : Aw) : Aw := ⟨(k : Int), (k : Int) + 1, marksT (k + 2) c.path.length, marksT (k + 2 + c.path.length) c.lst.length⟩
def szW (c : Aw) : Nat := 2 + c.path.length + c.lst.length
theorem szW_wt (c : Aw) : szW c <= 2 + wtAw c := by
 have h1 := tot_len c.path
 have h2 := tot_len c.lst
 unfold szW wtAw
 omega
theorem sum_szW : ∀ l : List Aw, (l.map szW).sum <= 2 * wtAS l
 | [] => by simp
 | c :: l => by
  have := sum_szW l
  have h2 := szW_wt c
  unfold wtAS at this |-
  simp only [List.map_cons, List.sum_cons, List.length_cons]
  omega
def MkW (w0 W : World) (base g n cap : Nat) (fq : List Nat) (X : List Value) (p e : Value) (P E : List ByteArray) : Prop :=
 W.ownsRow base 84 4 (.slice (some ⟨g, 0, none⟩) n cap) n X /\ (OwnT W base p P /\ OwnT W base e E) /\ Out fq w0 W /\ g ∈ fq /\ (∀ b, p.ownBlock = some b ∨ e.ownBlock = some b -> b ≠ g /\ b ∈ fq) /\ (Ap p e /\ Ap e p)
section
variable {w0 W W' : World} {base g n cap : Nat} {fq : List Nat} {X : List Value} {p e : Value} {P E P' E' : List ByteArray}
theorem MkW.put (h : MkW w0 W base g n cap fq X p e P E) (i : Nat) (x : Value) : MkW w0 (W.setCell ⟨g, i, none⟩ x) base g n cap fq (X.set i x) p e P E :=
 ⟨(h.1.stored i x).1, ⟨row_same h.2.1.1 (fun b hb => heap_setCell_other _ _ _ _ (h.2.2.2.2.1 b (.inl hb)).1), row_same h.2.1.2 (fun b hb => heap_setCell_other _ _ _ _ (h.2.2.2.2.1 b (.inr hb)).1)⟩, h.2.2.1.setCell _ _ h.2.2.2.1, h.2.2.2⟩
theorem MkW.markP (h : MkW w0 W base g n cap fq X p e P E) (ho : OwnT W' base p P') (hg : W.grownBy W' p.ownBlock) : MkW w0 W' base g n cap fq X p e P' E :=
 ⟨h.1.kept hg (.inr fun e => (h.2.2.2.2.1 g (.inl e.symm)).1 rfl), ⟨ho, World.ownsRow.kept h.2.1.2 hg h.2.2.2.2.2.2⟩, h.2.2.1.grown hg (fun q hq => (h.2.2.2.2.1 q (.inl hq)).2), h.2.2.2⟩
theorem MkW.markE (h : MkW w0 W base g n cap fq X p e P E) (ho : OwnT W' base e E') (hg : W.grownBy W' e.ownBlock) : MkW w0 W' base g n cap fq X p e P E' :=
 ⟨h.1.kept hg (.inr fun e => (h.2.2.2.2.1 g (.inr e.symm)).1 rfl), ⟨World.ownsRow.kept h.2.1.1 hg h.2.2.2.2.2.1, ho⟩, h.2.2.1.grown hg (fun q hq => (h.2.2.2.2.1 q (.inr hq)).2), h.2.2.2⟩
theorem MkW.cell (h : MkW w0 W base g n cap fq X p e P E) {i : Nat} (hi : i < n * 4) : ∃ x, W.cell? ⟨g, i, none⟩ = some x := by
 rw [World.ownsRow.cellAt h.1 i hi]
 exact ⟨X[i]'(by rw [h.1.1]; exact hi), List.getElem?_eq_getElem _⟩
theorem MkW.at (h : MkW w0 W base g n cap fq X p e P E) {i : Nat} (hi : i < n * 4) : W.cell? ⟨g, i, none⟩ = X[i]? := World.ownsRow.cellAt h.1 i hi
theorem MkW.free (h : MkW w0 W base g n cap fq X p e P E) (i : Nat) : W.frozen? ⟨g, i, none⟩ = false := World.ownsRow.frozenAt h.1 i
end
theorem markAnswerS_out (l : List Aw) (v : Value) (k base : Nat) (fp : List Nat) (w : World) (hl : wtAS l <= 1048577) (hk1 : 1 <= k) (hk : k <= 100000000) (ha : OwnS awKd w base v l fp) :
  Calls Try.prog 70 #[v, .int .i64 k] w fun e w' => e = .returned (.int .i64 ((posG szW k l l.length : Nat) : Int)) /\ OwnS awKd w' base v (mkG mkW szW k l) fp /\ Out fp w w' := by
 obtain ⟨ao, cap, hv, hg, -, -⟩ := ha.shape
 obtain ⟨n, hn⟩ := zE (l.length)
 rw [hn] at hv hg
 subst hv
 obtain ⟨KK, hKK⟩ : ∃ q : Nat, posG szW k l l.length = q := ⟨_, rfl⟩
 rw [hKK]
 have HA : Hid (OwnS awKd w base (.slice ao n cap) l fp /\ l.length = n /\ wtAS l <= 1048577 /\ (0 < n -> ∃ g, ao = some ⟨g, 0, none⟩) /\ posG szW k l l.length = KK) := ⟨ha, hn, hl, hg, hKK⟩
 have hn20 : n <= 1048577 := by unfold wtAS at hl; omega
 clear ha hn hl hg hKK
 go_enter Try.func70, Try.ntmps70
 go_wp2_with fail
 go_loopw [1, 5] (fun kv iv wr => ∃ j q : Nat, j <= n /\ iv = .int .i64 j /\ kv = .int .i64 q /\ (1 <= q /\ q <= 200000000) /\ Hid (q = posG szW k l j /\ OwnS awKd wr base (.slice ao n cap) ((mkG mkW szW k l).take j ++ l.drop j) fp /\ Out fp w wr)) (fun _ iv _ => n - (intOf iv).toNat)
 case atStart => exact ⟨0, k, Nat.zero_le _, rfl, rfl, ⟨hk1, by omega⟩, by simp [posG], by simpa using HA.out.1, Out.refl _ _⟩
 case round =>
  obtain ⟨j, q, hj, rfl, rfl, ⟨hq1, hq2⟩, H⟩ := hrel
  by_cases hjn : j < n
  ·have hjl : j < l.length := by rw [HA.out.2.1]; exact hjn
   obtain ⟨g, hg⟩ := HA.out.2.2.2.1 (by omega)
   subst hg
   obtain ⟨vs, hvl, hr, he, hfp, hnd⟩ := H.out.2.1
   have hml := markG_len mkW szW (k := k) (Nat.le_of_lt hjl)
   have hjv : j < vs.length := by rw [hvl, hml]; exact hjl
   have hej : OwnAw wr base vs[j] ((mkG mkW szW k l).take j ++ l.drop j)[j] := he j hjv (by omega)
   rw [markG_get mkW szW hjl] at hej
   obtain ⟨c, hc⟩ := zE (l[j])
   rw [hc] at hej
   obtain ⟨p, e, hup, hop, hoe, hap⟩ := hej
   obtain ⟨lp, hlp⟩ := zE (c.path.length)
   obtain ⟨le, hle⟩ := zE (c.lst.length)
   obtain ⟨pa, pc, hpv⟩ : ∃ ao cap, p = .slice ao c.path.length cap := by obtain ⟨ao, cap, h, _⟩ := hop.at; exact ⟨ao, cap, h⟩
   obtain ⟨ea, ec, hev⟩ : ∃ ao cap, e = .slice ao c.lst.length cap := by obtain ⟨ao, cap, h, _⟩ := hoe.at; exact ⟨ao, cap, h⟩
   rw [hlp] at hpv
   rw [hle] at hev
   subst hpv hev
   obtain ⟨X, hX⟩ := zE (cellsV vs)
   have HM : Hid (MkW wr wr base g n cap (g :: fpAw vs[j]) X (.slice pa lp pc) (.slice ea le ec) c.path c.lst) := by
    refine ⟨by rw [<- hX]; rw [hml, HA.out.2.1] at hr; exact hr, ⟨hop, hoe⟩, Out.refl _ _, List.mem_cons_self .., fun b hb => ⟨fun e => ?_, List.mem_cons_of_mem _ (by rw [hup]; exact fpAw_mem.2 hb)⟩, hap⟩
    subst e
    refine (List.nodup_append.1 (hfp ▸ hnd)).2.2 b (by simp [Value.ownBlock]) b (mem_flat (k := fpAw) hjv (by rw [hup]; exact fpAw_mem.2 hb)) rfl
   have HX5 : Hid (∀ i, i < 4 -> X[j * 4 + i]? = (awV c (.slice pa lp pc) (.slice ea le ec)).cells[i]?) := fun i hi => by
    rw [<- hX, <- hup]
    exact cellsV_at (OwnS.sizes (k := awKd) hvl he) j hjv i hi
   have HE : Hid (∀ (W : World), MkW wr W base g n cap (g :: fpAw vs[j]) ((X.set (j * 4) (.int .i64 (q : Int))).set (j * 4 + 1) (.int .i64 ((q : Int) + 1))) (.slice pa lp pc) (.slice ea le ec) (marksT (q + 2) lp) (marksT (q + 2 + lp) le) -> (q = posG szW k l j -> OwnS awKd W base (.slice (some ⟨g, 0, none⟩) n cap) ((mkG mkW szW k l).take (j + 1) ++ l.drop (j + 1)) fp /\ Out fp w W)) := fun W hM hq => by
    have hset : cellsV (vs.set j (.agg #[.int .i64 (q : Int), .int .i64 ((q : Int) + 1), .slice pa lp pc, .slice ea le ec])) = ((X.set (j * 4) (.int .i64 (q : Int))).set (j * 4 + 1) (.int .i64 ((q : Int) + 1))) := by
     rw [<- setMany_cells (K := 4) (OwnS.sizes (k := awKd) hvl he) j _ hjv rfl, hX]
     show ((((X.set (j * 4) (.int .i64 (q : Int))).set (j * 4 + 1) (.int .i64 ((q : Int) + 1))).set (j * 4 + 2) (.slice pa lp pc)).set (j * 4 + 3) (.slice ea le ec)) = _
     have h2 : X[j * 4 + 2]? = some (.slice pa lp pc) := HX5.out 2 (by decide)
     have h3 : X[j * 4 + 3]? = some (.slice ea le ec) := HX5.out 3 (by decide)
     have s2 := set_selfG (l := ((X.set (j * 4) (.int .i64 (q : Int))).set (j * 4 + 1) (.int .i64 ((q : Int) + 1)))) (i := j * 4 + 2) (a := .slice pa lp pc) (by (iterate 2 rw [List.getElem?_set_ne (by omega)]); exact h2)
     have s3 := set_selfG (l := ((X.set (j * 4) (.int .i64 (q : Int))).set (j * 4 + 1) (.int .i64 ((q : Int) + 1)))) (i := j * 4 + 3) (a := .slice ea le ec) (by (iterate 2 rw [List.getElem?_set_ne (by omega)]); exact h3)
     rw [s2, s3]
    have hmk : mkW q c = ⟨(q : Int), (q : Int) + 1, marksT (q + 2) lp, marksT (q + 2 + lp) le⟩ := by unfold mkW; rw [hlp, hle]
    have hT := OwnS.turnK awKd (c' := mkW q c) (cap := cap) (n := n) (j := j) (l := (mkG mkW szW k l).take j ++ l.drop j) (by omega) hvl he (hfp ▸ hnd) (u := .agg #[.int .i64 (q : Int), .int .i64 ((q : Int) + 1), .slice pa lp pc, .slice ea le ec]) (by rw [hup]; rfl) (by rw [hset, hml, HA.out.2.1]; exact hM.1) ⟨.slice pa lp pc, .slice ea le ec, by rw [hmk]; rfl, by rw [hmk]; exact hM.2.1.1, by rw [hmk]; exact hM.2.1.2, hM.2.2.2.2.2⟩ hM.2.2.1
    refine ⟨?_, ?_⟩
    ·rw [hfp, <- markG_set mkW szW hjl, <- hq, hc]
     exact hT
    ·refine H.out.2.2.trans (hM.2.2.1.mono fun b hb => ?_)
     rw [hfp]
     rcases List.mem_cons.1 hb with rfl | hb
     ·exact List.mem_append_left _ (by simp [Value.ownBlock])
     ·exact List.mem_append_right _ (mem_flat (k := fpAw) hjv hb)
   have HL : Hid (c.path.length = lp /\ c.lst.length = le) := ⟨hlp, hle⟩
   have HQ : Hid (q = posG szW k l j /\ posG szW k l (j + 1) = q + (2 + lp + le)) := ⟨H.out.1, by rw [posG_next szW hjl, hc, <- H.out.1]; unfold szW; rw [hlp, hle]⟩
   have hqb : q + (2 + lp + le) <= 120000000 := by
    have h1 := posG_le szW k l (j + 1)
    have h2 := sum_szW l
    have h3 := HQ.out.2
    have h4 := HA.out.2.2.1
    omega
   clear H hr he hfp hnd hvl hop hoe hap hX hml
   have hki : (j : Int) < (n : Int) := by omega
   have hk0 : (0 : Int) <= (j : Int) := by omega
   generalize g :: fpAw vs[j] = fq at HM HE
   clear hup hjv hc hlp hle
   obtain ⟨y0, c0⟩ := HM.out.cell (i := j * 4) (by omega)
   obtain ⟨y1, c1⟩ := HM.out.cell (i := j * 4 + 1) (by omega)
   have fz := fun i => HM.out.free i
   have c2 : wr.cell? ⟨g, j * 4 + 2, none⟩ = some (.slice pa lp pc) := by
    rw [HM.out.at (by omega)]
    exact HX5.out 2 (by decide)
   go_wp2_with fail
   clear c0 c1 c2 fz
   obtain ⟨V1, hV1⟩ : ∃ V, V = ((wr.setCell ⟨g, j * 4, none⟩ (.int .i64 (q : Int))).setCell ⟨g, j * 4 + 1, none⟩ (.int .i64 ((q : Int) + 1))) := ⟨_, rfl⟩
   rw [<- hV1]
   have HM1 : Hid (MkW wr V1 base g n cap fq ((X.set (j * 4) (.int .i64 (q : Int))).set (j * 4 + 1) (.int .i64 ((q : Int) + 1))) (.slice pa lp pc) (.slice ea le ec) c.path c.lst) := by rw [hV1]; exact (HM.out.put _ _).put _ _
   clear hV1 HM
   have E5 := markT_any (.slice pa lp pc) c.path (q + 2) base V1 (by rw [HL.out.1]; omega) (by omega) (by omega) HM1.out.2.1.1
   rw [HL.out.1, show (((q + 2 : Nat)) : Int) = (q : Int) + 1 + 1 from by omega] at E5
   refine E5.mono ?_
   rintro e w2 ⟨rfl, ho5, hg5⟩
   have HM2 : Hid (MkW wr w2 base g n cap fq ((X.set (j * 4) (.int .i64 (q : Int))).set (j * 4 + 1) (.int .i64 ((q : Int) + 1))) (.slice pa lp pc) (.slice ea le ec) (marksT (q + 2) lp) c.lst) := HM1.out.markP ho5 hg5
   clear HM1 E5 ho5 hg5
   have fz := fun i => HM2.out.free i
   have c3 : w2.cell? ⟨g, j * 4 + 3, none⟩ = some (.slice ea le ec) := by
    rw [HM2.out.at (by omega)]
    iterate 2 rw [List.getElem?_set_ne (by omega)]
    exact HX5.out 3 (by decide)
   go_wp2_with fail
   clear c3 fz
   have E5 := markT_any (.slice ea le ec) c.lst (q + 2 + lp) base w2 (by rw [HL.out.2]; omega) (by omega) (by omega) HM2.out.2.1.2
   rw [HL.out.2, show (((q + 2 + lp : Nat)) : Int) = (q : Int) + 1 + 1 + (lp : Int) from by omega] at E5
   refine E5.mono ?_
   rintro e w3 ⟨rfl, ho5, hg5⟩
   have HM3 : Hid (MkW wr w3 base g n cap fq ((X.set (j * 4) (.int .i64 (q : Int))).set (j * 4 + 1) (.int .i64 ((q : Int) + 1))) (.slice pa lp pc) (.slice ea le ec) (marksT (q + 2) lp) (marksT (q + 2 + lp) le)) := HM2.out.markE ho5 hg5
   clear HM2 E5 ho5 hg5
   go_wp2_with fail
   go_roundw
   case rel => exact ⟨j + 1, q + (2 + lp + le), by omega, by go_num, by go_num, ⟨by omega, by omega⟩, HQ.out.2.symm, HE.out _ HM3.out HQ.out.1⟩
   case measure => simp [intOf]; omega
  ·have hjl : n = j := by omega
   subst hjl
   have HE : Hid (q = KK /\ (mkG mkW szW k l).take n ++ l.drop n = mkG mkW szW k l) := by
    have h1 := HA.out.2.1
    refine ⟨?_, markG_all mkW szW (by omega)⟩
    rw [<- HA.out.2.2.2.2, h1]; exact H.out.1
   go_wp2
   go_ret
   refine ⟨by rw [HE.out.1]; rfl, ?_, H.out.2.2⟩
   have h := H.out.2.1
   rw [HE.out.2] at h
   exact h
theorem heldAnswerS_same (l : List Aw) (v : Value) (k : Nat) (w : World) (hl : wtAS l <= 1048577) (hk1 : 1 <= k) (hk : k <= 100000000) (ha : AtS awKd w v (mkG mkW szW k l)) :
  Calls Try.prog 71 #[v, .int .i64 k] w fun e w' => e = .returned (.int .i64 ((posG szW k l l.length : Nat) : Int)) /\ Below w.heap.size w w' := by
 obtain ⟨ao, cap, hv⟩ := ha.shape
 obtain ⟨n, hn⟩ := zE (l.length)
 rw [mkG_len, hn] at hv
 subst hv
 obtain ⟨KK, hKK⟩ : ∃ q : Nat, posG szW k l l.length = q := ⟨_, rfl⟩
 rw [hKK]
 have HA : Hid (AtS awKd w (.slice ao n cap) (mkG mkW szW k l) /\ l.length = n /\ wtAS l <= 1048577 /\ posG szW k l l.length = KK) := ⟨ha, hn, hl, hKK⟩
 have hn20 : n <= 1048577 := by unfold wtAS at hl; omega
 clear ha hn hl hKK
 go_enter Try.func71, Try.ntmps71
 go_wp2_with fail
 go_loopw [1, 5] (fun kv iv wr => ∃ j q : Nat, j <= n /\ iv = .int .i64 j /\ kv = .int .i64 q /\ (1 <= q /\ q <= 200000000) /\ Hid (q = posG szW k l j /\ Below w.heap.size w wr)) (fun _ iv _ => n - (intOf iv).toNat)
 case atStart => exact ⟨0, k, Nat.zero_le _, rfl, rfl, ⟨hk1, by omega⟩, by simp [posG], Below.refl _ _⟩
 case round =>
  obtain ⟨j, q, hj, rfl, rfl, ⟨hq1, hq2⟩, H⟩ := hrel
  by_cases hjn : j < n
  ·have hjl : j < l.length := by rw [HA.out.2.1]; exact hjn
   have hjm : j < (mkG mkW szW k l).length := by rw [mkG_len]; exact hjl
   obtain ⟨g, off, u, hao, hgB, hPu, hus, hcell⟩ := HA.out.1.get hjm
   rw [mkG_get mkW szW l k j hjl hjm, <- H.out.1] at hPu
   obtain ⟨c, hc⟩ := zE (l[j])
   rw [hc] at hPu
   obtain ⟨lp, hlp⟩ := zE (c.path.length)
   obtain ⟨le, hle⟩ := zE (c.lst.length)
   obtain ⟨p, e, hup, h1, h2⟩ := hPu
   change TxtAt w p (marksT (q + 2) c.path.length) at h1
   change TxtAt w e (marksT (q + 2 + c.path.length) c.lst.length) at h2
   rw [hlp] at h1 h2
   rw [hle] at h2
   obtain ⟨pa, pc, hp, -⟩ := id h1
   obtain ⟨ea, ec, he, -⟩ := id h2
   rw [marksT_len] at hp he
   subst hp he hao
   have HC : Hid (∀ (W : World), Below w.heap.size w W -> ∀ i x, (Value.agg #[.int .i64 (q : Int), .int .i64 ((q : Int) + 1), .slice pa lp pc, .slice ea le ec]).cells[i]? = some x -> W.cell? ⟨g, off + j * 4 + i, none⟩ = some x) := fun W hb i x hx => by
    refine (hb.cell (p := ⟨g, off + j * 4 + i, none⟩) hgB).trans (hcell i x ?_)
    rw [hup]
    unfold mkW awV
    exact hx
   have HRV : Hid (TxtAt w (.slice pa lp pc) (marksT (q + 2) lp) /\ TxtAt w (.slice ea le ec) (marksT (q + 2 + lp) le)) := ⟨h1, h2⟩
   have HQ : Hid (posG szW k l (j + 1) = q + (2 + lp + le)) := by show _ = _; rw [posG_next szW hjl, hc, <- H.out.1]; unfold szW; rw [hlp, hle]
   have hqb : q + (2 + lp + le) <= 120000000 := by
    have h1 := posG_le szW k l (j + 1)
    have h2 := sum_szW l
    have h3 := HQ.out
    have h4 := HA.out.2.2.1
    omega
   have HB : Hid (Below w.heap.size w wr) := H.out.2
   clear H hus hcell hup h1 h2 hc hlp hle hgB hjm
   have hki : (j : Int) < (n : Int) := by omega
   have hk0 : (0 : Int) <= (j : Int) := by omega
   have c0 : wr.cell? ⟨g, off + j * 4, none⟩ = some (.int .i64 (q : Int)) := HC.out wr HB.out 0 _ rfl
   have c1 : wr.cell? ⟨g, off + j * 4 + 1, none⟩ = some (.int .i64 ((q : Int) + 1)) := HC.out wr HB.out 1 _ rfl
   have c2 : wr.cell? ⟨g, off + j * 4 + 2, none⟩ = some (.slice pa lp pc) := HC.out wr HB.out 2 _ rfl
   have E5 := heldT_same (.slice pa lp pc) lp (q + 2) wr (by omega) (by omega) (by omega) (HRV.out.1.below HB.out)
   rw [show (((q + 2 : Nat)) : Int) = (q : Int) + 1 + 1 from by omega] at E5
   go_wp2_with fail
   clear c0 c1 c2
   refine E5.mono ?_
   rintro e w6 ⟨rfl, hb4⟩
   have HBn : Hid (Below w.heap.size w w6) := HB.out.trans (hb4.mono HB.out.size)
   clear HB hb4 E5
   have HB := HBn
   clear HBn
   have hneg : ¬ ((q : Int) + 1 + 1 + (lp : Int)) < 0 := by omega
   have c3 : w6.cell? ⟨g, off + j * 4 + 3, none⟩ = some (.slice ea le ec) := HC.out w6 HB.out 3 _ rfl
   have E5 := heldT_same (.slice ea le ec) le (q + 2 + lp) w6 (by omega) (by omega) (by omega) (HRV.out.2.below HB.out)
   rw [show (((q + 2 + lp : Nat)) : Int) = (q : Int) + 1 + 1 + (lp : Int) from by omega] at E5
   go_wp2_with fail
   clear c3 hneg
   refine E5.mono ?_
   rintro e w7 ⟨rfl, hb4⟩
   have HBn : Hid (Below w.heap.size w w7) := HB.out.trans (hb4.mono HB.out.size)
   clear HB hb4 E5
   have HB := HBn
   clear HBn
   have hneg : ¬ ((q : Int) + 1 + 1 + (lp : Int) + (le : Int)) < 0 := by omega
   go_wp2_with fail
   go_roundw
   case rel => exact ⟨j + 1, q + (2 + lp + le), by omega, by go_num, by go_num, ⟨by omega, by omega⟩, HQ.out.symm, HB.out⟩
   case measure => simp [intOf]; omega
  ·have hjl : n = j := by omega
   subst hjl
   have HE : Hid (q = KK) := by
    show q = KK
    rw [<- HA.out.2.2.2, HA.out.2.1]
    exact H.out.1
   go_wp2
   go_ret
   exact ⟨by rw [HE.out]; rfl, H.out.2⟩
end Go.Proofs.Ytbiiihjohbnodaa
namespace Go.Proofs.Ytbiiihjohbnodaa
open Go.RowKit
set_option linter.unusedVariables false
def mkRp (k : Nat) (c : Rp) : Rp := { c with ans := mkG mkW szW k c.ans }
def posR (k : Nat) (c : Rp) : Nat := posG szW k c.ans c.ans.length
theorem posR_le {k : Nat} {c : Rp} : posR k c <= k + 2 * wtAS c.ans := by
 have h1 := posG_le szW k c.ans c.ans.length
 have h2 := sum_szW c.ans
 unfold posR
 omega
theorem markReply_out (c : Rp) (v : Value) (k base : Nat) (fp : List Nat) (w : World) (hl : wtAS c.ans <= 1048577) (hk1 : 1 <= k) (hk : k <= 100000000) (ha : OwnRp w base v c fp) :
  Calls Try.prog 33 #[v, .int .i64 k] w fun e w' => e = .returned (.int .i64 ((posR k c : Nat) : Int)) /\ OwnRp w' base v (mkRp k c) fp /\ Out fp w w' := by
 obtain ⟨p, rfl, h1⟩ := ha
 obtain ⟨ap, cp, hp⟩ := h1.at.shape
 obtain ⟨lp, hlp⟩ := zE (c.ans.length)
 rw [hlp] at hp
 subst hp
 obtain ⟨KK, hKK⟩ : ∃ q : Nat, posR k c = q := ⟨_, rfl⟩
 have HA : Hid (OwnS awKd w base (.slice ap lp cp) c.ans fp /\ posG szW k c.ans c.ans.length = KK /\ wtAS c.ans <= 1048577) := ⟨h1, hKK, hl⟩
 rw [hKK]
 have hKb : KK <= 200000000 := by rw [<- hKK]; have := posR_le (k := k) (c := c); omega
 clear h1 hlp hKK hl
 unfold rpV
 go_enter Try.func33, Try.ntmps33
 go_wp2_with fail
 obtain ⟨V, hV⟩ : ∃ V, V = w.alloc (Obj.cells #[.string c.hash, .int .i64 c.nonce, .int .i64 c.time, .int .i64 c.next, .int .i64 c.plan, .int .i64 c.err, .slice ap lp cp, .string c.sig] 44) := ⟨_, rfl⟩
 rw [<- hV]
 have G : Hid (Out fp w V /\ OwnS awKd V base (.slice ap lp cp) c.ans fp) := by
  have hb : Below w.heap.size w V := by rw [hV]; exact (Below.refl _ _).alloc (Nat.le_refl _) _
  exact ⟨Out.of_below hb, HA.out.1.stays hb⟩
 clear hV
 have E0 := markAnswerS_out c.ans (.slice ap lp cp) k base fp V HA.out.2.2 hk1 hk G.out.2
 rw [HA.out.2.1] at E0
 refine E0.mono ?_
 rintro r u0 ⟨rfl, ho, hg⟩
 have G0 : Hid (Out fp w u0 /\ OwnS awKd u0 base (.slice ap lp cp) (mkG mkW szW k c.ans) fp) := ⟨G.out.1.trans hg, ho⟩
 clear ho hg G E0
 go_wp2_with fail
 go_ret
 exact ⟨rfl, ⟨_, rfl, G0.out.2⟩, G0.out.1⟩
theorem heldReply_same (c : Rp) (v : Value) (k : Nat) (w : World) (hl : wtAS c.ans <= 1048577) (hk1 : 1 <= k) (hk : k <= 100000000) (ha : RpAt w v (mkRp k c)) :
  Calls Try.prog 34 #[v, .int .i64 k] w fun e w' => e = .returned (.int .i64 ((posR k c : Nat) : Int)) /\ Below w.heap.size w w' := by
 obtain ⟨p, rfl, h1⟩ := ha
 change AtS awKd w p (mkG mkW szW k c.ans) at h1
 obtain ⟨ap, cp, hp⟩ := h1.shape
 obtain ⟨lp, hlp⟩ := zE ((mkG mkW szW k c.ans).length)
 rw [hlp] at hp
 subst hp
 obtain ⟨KK, hKK⟩ : ∃ K : Int, ((posR k c : Nat) : Int) = K := ⟨_, rfl⟩
 have hK0 : ¬ KK < 0 := by omega
 have HQ : Hid (∀ W, Below w.heap.size w W -> Calls Try.prog 71 #[.slice ap lp cp, .int .i64 (k : Int)] W (fun e w' => e = .returned (.int .i64 KK) /\ Below W.heap.size W w')) := fun W hb => by rw [<- hKK]; exact heldAnswerS_same c.ans _ k W hl hk1 hk (h1.below hb)
 rw [hKK]
 clear h1 hlp hKK hl
 show Calls Try.prog 34 #[rpV c (.slice ap lp cp), .int .i64 k] w _
 unfold rpV
 go_enter Try.func34, Try.ntmps34
 go_wp2_with fail
 obtain ⟨V, hV⟩ : ∃ V, V = w.alloc (Obj.cells #[.string c.hash, .int .i64 c.nonce, .int .i64 c.time, .int .i64 c.next, .int .i64 c.plan, .int .i64 c.err, .slice ap lp cp, .string c.sig] 44) := ⟨_, rfl⟩
 rw [<- hV]
 have G : Hid (Below w.heap.size w V) := by rw [hV]; exact (Below.refl _ _).alloc (Nat.le_refl _) _
 clear hV
 refine (HQ.out V G.out).mono ?_
 rintro r u0 ⟨rfl, hb⟩
 have G0 : Hid (Below w.heap.size w u0) := G.out.trans (hb.mono G.out.size)
 clear hb G
 go_wp2_with fail
 go_ret
 exact ⟨rfl, G0.out⟩
end Go.Proofs.Ytbiiihjohbnodaa
