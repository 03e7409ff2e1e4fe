/-
  Texts of the proof.
-/
import Derived.Deep.RegionHeld3
import Derived.Test.YtagmnlmfoanelaaNA11
set_option maxRecDepth 100000
set_option maxHeartbeats 25600000
namespace Go.Proofs.Ytagmnlmfoanelaa
open Go.RowKit
set_option linter.unusedVariables false
set_option linter.unusedSimpArgs false
def mkWa (k : Nat) (_ : Wa) : Wa := ⟨(k : Int), (k : Int) + 1, ⟨(mt (k + 2)).toArray⟩, (k : Int) + 1 + 1 + 1⟩
def szMWa (_ : Wa) : Nat := 4
theorem sum_szMWa : ∀ l : List Wa, (l.map szMWa).sum = 4 * l.length
 | [] => rfl
 | c :: l => by
  have := sum_szMWa l
  simp only [List.map_cons, List.sum_cons, List.length_cons, szMWa] at this |-
  omega
def MkWa (w0 W : World) (base g n cap : Nat) (fq : List Nat) (X : List Value) : Prop :=
 W.ownsRow base 64 4 (.slice (some ⟨g, 0, none⟩) n cap) n X /\ Out fq w0 W /\ g ∈ fq
section
variable {w0 W W' : World} {base g n cap : Nat} {fq : List Nat} {X : List Value}
theorem MkWa.below (h : MkWa w0 W base g n cap fq X) (hb : Below W.heap.size W W') : MkWa w0 W' base g n cap fq X := ⟨own_kept h.1 hb, h.2.1.trans (Out.of_below hb), h.2.2⟩
theorem MkWa.put (h : MkWa w0 W base g n cap fq X) (i : Nat) (x : Value) : MkWa w0 (W.setCell ⟨g, i, none⟩ x) base g n cap fq (X.set i x) := ⟨(h.1.stored i x).1, h.2.1.setCell _ _ h.2.2, h.2.2⟩
theorem MkWa.cell (h : MkWa w0 W base g n cap fq X) {i : Nat} (hi : i < n * 4) : ∃ x, W.cell? ⟨g, i, none⟩ = some x := by
 rw [World.ownsRow.cellAt h.1 i hi]
 exact ⟨X[i]'(by rw [h.1.1]; exact hi), List.getElem?_eq_getElem _⟩
theorem MkWa.free (h : MkWa w0 W base g n cap fq X) (i : Nat) : W.frozen? ⟨g, i, none⟩ = false := World.ownsRow.frozenAt h.1 i
end
theorem markWaitS_out (l : List Wa) (v : Value) (k base : Nat) (fp : List Nat) (w : World) (hl : l.length <= 1048577) (hk1 : 1 <= k) (hk : k <= 100000000) (ha : OwnS waKd w base v l fp) :
  Calls Try.prog 21 #[v, .int .i64 k] w fun e w' => e = .returned (.int .i64 ((posG szMWa k l l.length : Nat) : Int)) /\ OwnS waKd w' base v (mkG mkWa szMWa k l) fp /\ Out fp w w' := by
 obtain ⟨ao, cap, hv, hg, -, -⟩ := ha.shape
 obtain ⟨n, hn⟩ := zE (l.length)
 rw [hn] at hv hg
 subst hv
 obtain ⟨KK, hKK⟩ : ∃ q : Nat, posG szMWa k l l.length = q := ⟨_, rfl⟩
 rw [hKK]
 have HA : Hid (OwnS waKd w base (.slice ao n cap) l fp /\ l.length = n /\ (0 < n -> ∃ g, ao = some ⟨g, 0, none⟩) /\ posG szMWa k l l.length = KK) := ⟨ha, hn, hg, hKK⟩
 have hn20 : n <= 1048577 := by omega
 clear ha hn hl hg hKK
 go_enter Try.func21, Try.ntmps21
 go_wp2_with fail
 go_loopw [1, 5] (fun kv iv wr => ∃ j q : Nat, j <= n /\ iv = .int .i64 j /\ kv = .int .i64 q /\ (1 <= q /\ q <= 200000000) /\ Hid (q = posG szMWa k l j /\ OwnS waKd wr base (.slice ao n cap) ((mkG mkWa szMWa k l).take j ++ l.drop j) fp /\ Out fp w wr)) (fun _ iv _ => n - (intOf iv).toNat)
 case atStart => exact ⟨0, k, Nat.zero_le _, rfl, rfl, ⟨hk1, by omega⟩, by simp [posG], by simpa using HA.out.1, Out.refl _ _⟩
 case round =>
  obtain ⟨j, q, hj, rfl, rfl, ⟨hq1, hq2⟩, H⟩ := hrel
  by_cases hjn : j < n
  ·have hjl : j < l.length := by rw [HA.out.2.1]; exact hjn
   obtain ⟨g, hg⟩ := HA.out.2.2.1 (by omega)
   subst hg
   obtain ⟨vs, hvl, hr, he, hfp, hnd⟩ := H.out.2.1
   have hml := markG_len mkWa szMWa (k := k) (Nat.le_of_lt hjl)
   have hjv : j < vs.length := by rw [hvl, hml]; exact hjl
   obtain ⟨X, hX⟩ := zE (cellsV vs)
   have HM : Hid (MkWa wr wr base g n cap [g] X) := ⟨by rw [<- hX]; rw [hml, HA.out.2.1] at hr; exact hr, Out.refl _ _, List.mem_cons_self ..⟩
   have HE : Hid (∀ (W : World), MkWa wr W base g n cap [g] ((((X.set (j * 4) (.int .i64 ((q : Int)))).set (j * 4 + 1) (.int .i64 ((q : Int) + 1))).set (j * 4 + 2) (.string ⟨(mt (q + 2)).toArray⟩)).set (j * 4 + 3) (.int .i64 ((q : Int) + 1 + 1 + 1))) -> (q = posG szMWa k l j -> OwnS waKd W base (.slice (some ⟨g, 0, none⟩) n cap) ((mkG mkWa szMWa k l).take (j + 1) ++ l.drop (j + 1)) fp /\ Out fp w W)) := fun W hM hq => by
    have hset : cellsV (vs.set j (waV (mkWa q l[j]))) = ((((X.set (j * 4) (.int .i64 ((q : Int)))).set (j * 4 + 1) (.int .i64 ((q : Int) + 1))).set (j * 4 + 2) (.string ⟨(mt (q + 2)).toArray⟩)).set (j * 4 + 3) (.int .i64 ((q : Int) + 1 + 1 + 1))) := by
     rw [<- setMany_cells (K := 4) (OwnS.sizes (k := waKd) hvl he) j _ hjv rfl, hX]
     rfl
    have hT := OwnS.turnK waKd (c' := mkWa q l[j]) (cap := cap) (n := n) (j := j) (l := (mkG mkWa szMWa k l).take j ++ l.drop j) (by omega) hvl he (hfp ▸ hnd) (u := waV (mkWa q l[j])) rfl (by rw [hset, hml, HA.out.2.1]; exact hM.1) rfl hM.2.1
    refine ⟨?_, ?_⟩
    ·rw [hfp, <- markG_set mkWa szMWa hjl, <- hq]
     exact hT
    ·refine H.out.2.2.trans (hM.2.1.mono fun b hb => ?_)
     rw [hfp]
     exact List.mem_append_left _ (by rw [List.mem_singleton.1 hb]; simp [Value.ownBlock])
   have HQ := zH (zJ H.out.1 (by rw [posG_next szMWa hjl, <- H.out.1]; rfl : posG szMWa k l (j + 1) = q + 4))
   have hqb : q + 4 <= 120000000 := by
    have h1 := posG_le szMWa k l (j + 1)
    have h2 := sum_szMWa l
    have h3 := HQ.out.2
    have h4 := HA.out.2.1
    omega
   clear H hr he hfp hnd hvl hX hml hjv
   have hki : (j : Int) < (n : Int) := by omega
   have hk0 : (0 : Int) <= (j : Int) := by omega
   go_upto_region 4 with fail
   obtain ⟨y0, c0⟩ := HM.out.cell (i := j * 4) (by omega)
   have fz := fun i => HM.out.free i
   go_upto_region 6 with fail
   clear c0 fz
   obtain ⟨V0, hV⟩ : ∃ V, V = wr.setCell ⟨g, j * 4, none⟩ (.int .i64 ((q : Int))) := ⟨_, rfl⟩
   rw [<- hV]
   have HP0 : Hid (MkWa wr V0 base g n cap [g] (X.set (j * 4) (.int .i64 ((q : Int))))) := by rw [hV]; exact HM.out.put _ _
   clear hV HM
   obtain ⟨y1, c1⟩ := HP0.out.cell (i := j * 4 + 1) (by omega)
   have fz := fun i => HP0.out.free i
   go_upto_region 8 with fail
   clear c1 fz
   obtain ⟨V1, hV⟩ : ∃ V, V = V0.setCell ⟨g, j * 4 + 1, none⟩ (.int .i64 ((q : Int) + 1)) := ⟨_, rfl⟩
   rw [<- hV]
   have HP1 : Hid (MkWa wr V1 base g n cap [g] ((X.set (j * 4) (.int .i64 ((q : Int)))).set (j * 4 + 1) (.int .i64 ((q : Int) + 1)))) := by rw [hV]; exact HP0.out.put _ _
   clear hV HP0
   have E1 := markText_str (q + 2) V1 (by omega) (by omega)
   rw [show (((q + 2 : Nat)) : Int) = (q : Int) + 1 + 1 from by omega] at E1
   go_wp2_with fail
   refine E1.mono ?_
   rintro e v2 ⟨rfl, hb1⟩
   have HN2 : Hid (MkWa wr v2 base g n cap [g] ((X.set (j * 4) (.int .i64 ((q : Int)))).set (j * 4 + 1) (.int .i64 ((q : Int) + 1)))) := HP1.out.below hb1
   clear HP1 E1 hb1
   obtain ⟨y2, c2⟩ := HN2.out.cell (i := j * 4 + 2) (by omega)
   have fz := fun i => HN2.out.free i
   go_upto_region 10 with fail
   clear c2 fz
   obtain ⟨V2, hV⟩ : ∃ V, V = v2.setCell ⟨g, j * 4 + 2, none⟩ (.string ⟨(mt (q + 2)).toArray⟩) := ⟨_, rfl⟩
   rw [<- hV]
   have HP2 : Hid (MkWa wr V2 base g n cap [g] (((X.set (j * 4) (.int .i64 ((q : Int)))).set (j * 4 + 1) (.int .i64 ((q : Int) + 1))).set (j * 4 + 2) (.string ⟨(mt (q + 2)).toArray⟩))) := by rw [hV]; exact HN2.out.put _ _
   clear hV HN2
   obtain ⟨y3, c3⟩ := HP2.out.cell (i := j * 4 + 3) (by omega)
   have fz := fun i => HP2.out.free i
   go_wp2_with fail
   go_roundw
   case rel => exact ⟨j + 1, q + 4, by omega, by go_num, by go_num, ⟨by omega, by omega⟩, HQ.out.2.symm, HE.out _ (HP2.out.put _ _) HQ.out.1⟩
   case measure => simp [intOf]; omega
  ·have hjl : n = j := by omega
   subst hjl
   have HE : Hid (q = KK /\ (mkG mkWa szMWa k l).take n ++ l.drop n = mkG mkWa szMWa k l) := by
    have h1 := HA.out.2.1
    refine ⟨?_, markG_all mkWa szMWa (by omega)⟩
    rw [<- HA.out.2.2.2, h1]; exact H.out.1
   go_wp2
   go_ret
   refine ⟨by rw [HE.out.1]; rfl, ?_, H.out.2.2⟩
   have h := H.out.2.1
   rw [HE.out.2] at h
   exact h
theorem heldWaitS_same (l : List Wa) (v : Value) (k : Nat) (w : World) (hl : l.length <= 1048577) (hk1 : 1 <= k) (hk : k <= 100000000) (ha : AtS waKd w v (mkG mkWa szMWa k l)) :
  Calls Try.prog 24 #[v, .int .i64 k] w fun e w' => e = .returned (.int .i64 ((posG szMWa k l l.length : Nat) : Int)) /\ Below w.heap.size w w' := by
 obtain ⟨ao, cap, hv⟩ := ha.shape
 obtain ⟨n, hn⟩ := zE (l.length)
 rw [mkG_len, hn] at hv
 subst hv
 obtain ⟨KK, hKK⟩ : ∃ q : Nat, posG szMWa k l l.length = q := ⟨_, rfl⟩
 rw [hKK]
 have HA : Hid (AtS waKd w (.slice ao n cap) (mkG mkWa szMWa k l) /\ l.length = n /\ posG szMWa k l l.length = KK) := ⟨ha, hn, hKK⟩
 have hn20 : n <= 1048577 := by omega
 clear ha hn hl hKK
 go_enter Try.func24, Try.ntmps24
 go_wp2_with fail
 go_loopw [1, 5] (fun kv iv wr => ∃ j q : Nat, j <= n /\ iv = .int .i64 j /\ kv = .int .i64 q /\ (1 <= q /\ q <= 200000000) /\ Hid (q = posG szMWa k l j /\ Below w.heap.size w wr)) (fun _ iv _ => n - (intOf iv).toNat)
 case atStart => exact ⟨0, k, Nat.zero_le _, rfl, rfl, ⟨hk1, by omega⟩, by simp [posG], Below.refl _ _⟩
 case round =>
  obtain ⟨j, q, hj, rfl, rfl, ⟨hq1, hq2⟩, H⟩ := hrel
  by_cases hjn : j < n
  ·have hjl : j < l.length := by rw [HA.out.2.1]; exact hjn
   have hjm : j < (mkG mkWa szMWa k l).length := by rw [mkG_len]; exact hjl
   obtain ⟨g, off, u, hao, hgB, hPu, hus, hcell⟩ := HA.out.1.get hjm
   rw [mkG_get mkWa szMWa l k j hjl hjm, <- H.out.1] at hPu
   have hup : u = waV (mkWa q l[j]) := hPu
   subst hao
   have HC : Hid (∀ (W : World), Below w.heap.size w W -> ∀ i x, (Value.agg #[.int .i64 ((q : Int)), .int .i64 ((q : Int) + 1), .string ⟨(mt (q + 2)).toArray⟩, .int .i64 ((q : Int) + 1 + 1 + 1)]).cells[i]? = some x -> W.cell? ⟨g, off + j * 4 + i, none⟩ = some x) := fun W hb i x hx => by
    refine (hb.cell (p := ⟨g, off + j * 4 + i, none⟩) hgB).trans (hcell i x ?_)
    rw [hup]
    exact hx
   have HQ : Hid (posG szMWa k l (j + 1) = q + 4) := by show _ = _; rw [posG_next szMWa hjl, <- H.out.1]; rfl
   have hqb : q + 4 <= 120000000 := by
    have h1 := posG_le szMWa k l (j + 1)
    have h2 := sum_szMWa l
    have h3 := HQ.out
    have h4 := HA.out.2.1
    omega
   have HB : Hid (Below w.heap.size w wr) := H.out.2
   clear H hus hcell hup hgB hjm hPu
   have hki : (j : Int) < (n : Int) := by omega
   have hk0 : (0 : Int) <= (j : Int) := by omega
   have e0 : wr.cell? ⟨g, off + j * 4, none⟩ = some (.int .i64 ((q : Int))) := HC.out wr HB.out 0 _ rfl
   go_upto_region 7 with fail
   clear e0
   have e1 : wr.cell? ⟨g, off + j * 4 + 1, none⟩ = some (.int .i64 ((q : Int) + 1)) := HC.out wr HB.out 1 _ rfl
   go_upto_region 10 with fail
   clear e1
   go_upto_region 10 with fail
   have hDr : Below wr.heap.size wr wr.drew := (Below.refl _ _).drew
   refine wp_region_held_drew (S := fun W => Below wr.heap.size wr W) (by kernel_rfl) hDr (fun hHeld => ?_)
   clear hDr
   generalize wr.drew = wd at hHeld |-
   refine zT 0 30 ?_ rfl (by rfl) ?_ hHeld ?_
   rotate_left
   ·intro W hSw
    go_simp
    try with_reducible rfl
   try simp only [Act.put, zA, zB, zC]
   refine zT 1 31 ?_ rfl (by rfl) ?_ hHeld ?_
   rotate_left
   ·intro W hSw
    go_simp
    try with_reducible rfl
   try simp only [Act.put, zA, zB, zC]
   refine zT 2 32 ?_ rfl (by rfl) ?_ hHeld ?_
   rotate_left
   ·intro W hSw
    go_simp
    try with_reducible rfl
   try simp only [Act.put, zA, zB, zC]
   refine zT 3 33 ?_ rfl (by rfl) ?_ hHeld ?_
   rotate_left
   ·intro W hSw
    go_simp
    try with_reducible rfl
   try simp only [Act.put, zA, zB, zC]
   refine zT 4 34 ?_ rfl (by rfl) ?_ hHeld ?_
   rotate_left
   ·intro W hSw
    have e0 : W.cell? ⟨g, off + j * 4 + 2, none⟩ = some (.string ⟨(mt (q + 2)).toArray⟩) := HC.out W (HB.out.trans (hSw.mono HB.out.size)) 2 _ rfl
    go_simp
    try with_reducible rfl
   try simp only [Act.put, zA, zB, zC]
   refine zT 5 35 ?_ rfl (by rfl) ?_ hHeld ?_
   rotate_left
   ·intro W hSw
    go_simp
    try with_reducible rfl
   try simp only [Act.put, zA, zB, zC]
   refine wpAnyH_ready (rs := [6]) (by kernel_rfl) (by simp) ?_
   refine AllReadyH.cons (o := ⟨some 36, _, _, _, _, _⟩) rfl (fun K hK => ?_) AllReadyH.nil
   have E1 := markText_str (q + 2) wd (by omega) (by omega)
   rw [show (((q + 2 : Nat)) : Int) = (q : Int) + 1 + 1 from by omega] at E1
   go_simp
   refine E1.mono ?_
   rintro e v2 ⟨rfl, hb3⟩
   have hS3 : Below wr.heap.size wr v2 := hHeld.trans (hb3.mono hHeld.size)
   clear hb3 E1
   refine hK.out _ _ hS3 (fun hHeld => ?_)
   clear hK K hS3
   try simp only [Act.put, zA, zB, zC]
   refine zT 7 37 ?_ rfl (by rfl) ?_ hHeld ?_
   rotate_left
   ·intro W hSw
    go_simp
    try with_reducible rfl
   try simp only [Act.put, zA, zB, zC]
   refine wpAnyH_done (by kernel_rfl) ?_ _
   have HBn : Hid (Below w.heap.size w v2) := HB.out.trans (hHeld.mono HB.out.size)
   clear HB hHeld
   have HB := HBn
   clear HBn
   have e3 : v2.cell? ⟨g, off + j * 4 + 3, none⟩ = some (.int .i64 ((q : Int) + 1 + 1 + 1)) := HC.out v2 HB.out 3 _ rfl
   go_upto_region 3 with fail
   clear e3
   go_wp2_with fail
   go_roundw
   case rel => exact ⟨j + 1, q + 4, by omega, by go_num, by go_num, ⟨by omega, by omega⟩, HQ.out.symm, HB.out⟩
   case measure => simp [intOf]; omega
  ·have hjl : n = j := by omega
   subst hjl
   have HE : Hid (q = KK) := by
    show q = KK
    rw [<- HA.out.2.2, HA.out.2.1]
    exact H.out.1
   go_wp2
   go_ret
   exact ⟨by rw [HE.out]; rfl, H.out.2⟩
theorem OwnX.turnX {α : Type} (k : Kx α) {w W : World} {base g n cap : Nat} {l : List α} {vs : List Value} {fs : List (List Nat)} {c' : α} {j : Nat} (hj : j < l.length) (hl : vs.length = l.length) (hf : fs.length = l.length) (he : ∀ i (h1 : i < vs.length) (h2 : i < l.length) (h3 : i < fs.length), k.Own w base vs[i] l[i] fs[i]) (hn : ((Value.slice (some ⟨g, 0, none⟩) n cap).ownBlock.toList ++ fs.flatten).Nodup) {u : Value}
  (hr : W.ownsRow base k.T k.K (.slice (some ⟨g, 0, none⟩) n cap) l.length (cellsV (vs.set j u))) (hu : k.Own W base u c' (fs[j]'(by omega))) (ho : Out (g :: fs[j]'(by omega)) w W) : OwnX k W base (.slice (some ⟨g, 0, none⟩) n cap) (l.set j c') ((Value.slice (some ⟨g, 0, none⟩) n cap).ownBlock.toList ++ fs.flatten) := by
 refine ⟨vs.set j u, fs, by simp [hl], by simp [hf], by rw [List.length_set]; exact hr, fun i h1 h2 h3 => ?_, rfl, hn⟩
 rw [List.getElem_set, List.getElem_set]
 by_cases e : j = i
 ·subst e
  rw [if_pos rfl, if_pos rfl]
  exact hu
 ·rw [if_neg e, if_neg e]
  have h4 : i < vs.length := by simpa using h1
  refine k.same (he i h4 (by omega) h3) fun b hb => ho.2.2.2.2 b (k.lt (he i h4 (by omega) h3) b hb).2 fun hm => ?_
  have hq := List.nodup_append.1 hn
  rcases List.mem_cons.1 hm with rfl | hm
  ·exact hq.2.2 b (by simp [Value.ownBlock]) b (List.mem_flatten.2 ⟨_, List.getElem_mem h3, hb⟩) rfl
  ·have hp := (List.pairwise_iff_getElem.1 (List.pairwise_flatten.1 hq.2.1).2)
   rcases Nat.lt_or_ge i j with hij | hij
   ·exact hp i j h3 (by omega) hij b hb b hm rfl
   ·exact hp j i (by omega) h3 (by omega) b hm b hb rfl
def mkW (k : Nat) (c : Aw) : Aw := ⟨(k : Int), (k : Int) + 1, marksT (k + 2) c.path.length, marksT (k + 2 + c.path.length) c.lst.length⟩
def szW (c : Aw) : Nat := 2 + c.path.length + c.lst.length
theorem szW_wt (c : Aw) : szW c <= 2 + wtAw c := by
 have h1 := tot_len c.path
 have h2 := tot_len c.lst
 unfold szW wtAw
 omega
theorem sum_szW : ∀ l : List Aw, (l.map szW).sum <= 2 * wtAS l
 | [] => by simp
 | c :: l => by
  have := sum_szW l
  have h2 := szW_wt c
  unfold wtAS at this |-
  simp only [List.map_cons, List.sum_cons, List.length_cons]
  omega
def MkW (w0 W : World) (base g n cap : Nat) (fq : List Nat) (X : List Value) (p e : Value) (P E : List ByteArray) : Prop :=
 W.ownsRow base 77 4 (.slice (some ⟨g, 0, none⟩) n cap) n X /\ (OwnT W base p P /\ OwnT W base e E) /\ Out fq w0 W /\ g ∈ fq /\ (∀ b, p.ownBlock = some b ∨ e.ownBlock = some b -> b ≠ g /\ b ∈ fq) /\ (Ap p e /\ Ap e p)
section
variable {w0 W W' : World} {base g n cap : Nat} {fq : List Nat} {X : List Value} {p e : Value} {P E P' E' : List ByteArray}
theorem MkW.put (h : MkW w0 W base g n cap fq X p e P E) (i : Nat) (x : Value) : MkW w0 (W.setCell ⟨g, i, none⟩ x) base g n cap fq (X.set i x) p e P E :=
 ⟨(h.1.stored i x).1, ⟨row_same h.2.1.1 (fun b hb => heap_setCell_other _ _ _ _ (h.2.2.2.2.1 b (.inl hb)).1), row_same h.2.1.2 (fun b hb => heap_setCell_other _ _ _ _ (h.2.2.2.2.1 b (.inr hb)).1)⟩, h.2.2.1.setCell _ _ h.2.2.2.1, h.2.2.2⟩
theorem MkW.markP (h : MkW w0 W base g n cap fq X p e P E) (ho : OwnT W' base p P') (hg : W.grownBy W' p.ownBlock) : MkW w0 W' base g n cap fq X p e P' E :=
 ⟨h.1.kept hg (.inr fun e => (h.2.2.2.2.1 g (.inl e.symm)).1 rfl), ⟨ho, World.ownsRow.kept h.2.1.2 hg h.2.2.2.2.2.2⟩, h.2.2.1.grown hg (fun q hq => (h.2.2.2.2.1 q (.inl hq)).2), h.2.2.2⟩
theorem MkW.markE (h : MkW w0 W base g n cap fq X p e P E) (ho : OwnT W' base e E') (hg : W.grownBy W' e.ownBlock) : MkW w0 W' base g n cap fq X p e P E' :=
 ⟨h.1.kept hg (.inr fun e => (h.2.2.2.2.1 g (.inr e.symm)).1 rfl), ⟨World.ownsRow.kept h.2.1.1 hg h.2.2.2.2.2.1, ho⟩, h.2.2.1.grown hg (fun q hq => (h.2.2.2.2.1 q (.inr hq)).2), h.2.2.2⟩
theorem MkW.cell (h : MkW w0 W base g n cap fq X p e P E) {i : Nat} (hi : i < n * 4) : ∃ x, W.cell? ⟨g, i, none⟩ = some x := by
 rw [World.ownsRow.cellAt h.1 i hi]
 exact ⟨X[i]'(by rw [h.1.1]; exact hi), List.getElem?_eq_getElem _⟩
theorem MkW.at (h : MkW w0 W base g n cap fq X p e P E) {i : Nat} (hi : i < n * 4) : W.cell? ⟨g, i, none⟩ = X[i]? := World.ownsRow.cellAt h.1 i hi
theorem MkW.free (h : MkW w0 W base g n cap fq X p e P E) (i : Nat) : W.frozen? ⟨g, i, none⟩ = false := World.ownsRow.frozenAt h.1 i
end
theorem markAnswerS_out (l : List Aw) (v : Value) (k base : Nat) (fp : List Nat) (w : World) (hl : wtAS l <= 1048577) (hk1 : 1 <= k) (hk : k <= 100000000) (ha : OwnS awKd w base v l fp) :
  Calls Try.prog 37 #[v, .int .i64 k] w fun e w' => e = .returned (.int .i64 ((posG szW k l l.length : Nat) : Int)) /\ OwnS awKd w' base v (mkG mkW szW k l) fp /\ Out fp w w' := by
 obtain ⟨ao, cap, hv, hg, -, -⟩ := ha.shape
 obtain ⟨n, hn⟩ := zE (l.length)
 rw [hn] at hv hg
 subst hv
 obtain ⟨KK, hKK⟩ : ∃ q : Nat, posG szW k l l.length = q := ⟨_, rfl⟩
 rw [hKK]
 have HA : Hid (OwnS awKd w base (.slice ao n cap) l fp /\ l.length = n /\ wtAS l <= 1048577 /\ (0 < n -> ∃ g, ao = some ⟨g, 0, none⟩) /\ posG szW k l l.length = KK) := ⟨ha, hn, hl, hg, hKK⟩
 have hn20 : n <= 1048577 := by unfold wtAS at hl; omega
 clear ha hn hl hg hKK
 go_enter Try.func37, Try.ntmps37
 go_wp2_with fail
 go_loopw [1, 5] (fun kv iv wr => ∃ j q : Nat, j <= n /\ iv = .int .i64 j /\ kv = .int .i64 q /\ (1 <= q /\ q <= 200000000) /\ Hid (q = posG szW k l j /\ OwnS awKd wr base (.slice ao n cap) ((mkG mkW szW k l).take j ++ l.drop j) fp /\ Out fp w wr)) (fun _ iv _ => n - (intOf iv).toNat)
 case atStart => exact ⟨0, k, Nat.zero_le _, rfl, rfl, ⟨hk1, by omega⟩, by simp [posG], by simpa using HA.out.1, Out.refl _ _⟩
 case round =>
  obtain ⟨j, q, hj, rfl, rfl, ⟨hq1, hq2⟩, H⟩ := hrel
  by_cases hjn : j < n
  ·have hjl : j < l.length := by rw [HA.out.2.1]; exact hjn
   obtain ⟨g, hg⟩ := HA.out.2.2.2.1 (by omega)
   subst hg
   obtain ⟨vs, hvl, hr, he, hfp, hnd⟩ := H.out.2.1
   have hml := markG_len mkW szW (k := k) (Nat.le_of_lt hjl)
   have hjv : j < vs.length := by rw [hvl, hml]; exact hjl
   have hej : OwnAw wr base vs[j] ((mkG mkW szW k l).take j ++ l.drop j)[j] := he j hjv (by omega)
   rw [markG_get mkW szW hjl] at hej
   obtain ⟨c, hc⟩ := zE (l[j])
   rw [hc] at hej
   obtain ⟨p, e, hup, hop, hoe, hap⟩ := hej
   obtain ⟨lp, hlp⟩ := zE (c.path.length)
   obtain ⟨le, hle⟩ := zE (c.lst.length)
   obtain ⟨pa, pc, hpv⟩ : ∃ ao cap, p = .slice ao c.path.length cap := by obtain ⟨ao, cap, h, _⟩ := hop.at; exact ⟨ao, cap, h⟩
   obtain ⟨ea, ec, hev⟩ : ∃ ao cap, e = .slice ao c.lst.length cap := by obtain ⟨ao, cap, h, _⟩ := hoe.at; exact ⟨ao, cap, h⟩
   rw [hlp] at hpv
   rw [hle] at hev
   subst hpv hev
   obtain ⟨X, hX⟩ := zE (cellsV vs)
   have HM : Hid (MkW wr wr base g n cap (g :: fpAw vs[j]) X (.slice pa lp pc) (.slice ea le ec) c.path c.lst) := by
    refine ⟨by rw [<- hX]; rw [hml, HA.out.2.1] at hr; exact hr, ⟨hop, hoe⟩, Out.refl _ _, List.mem_cons_self .., fun b hb => ⟨fun e => ?_, List.mem_cons_of_mem _ (by rw [hup]; exact fpAw_mem.2 hb)⟩, hap⟩
    subst e
    refine (List.nodup_append.1 (hfp ▸ hnd)).2.2 b (by simp [Value.ownBlock]) b (mem_flat (k := fpAw) hjv (by rw [hup]; exact fpAw_mem.2 hb)) rfl
   have HX5 : Hid (∀ i, i < 4 -> X[j * 4 + i]? = (awV c (.slice pa lp pc) (.slice ea le ec)).cells[i]?) := fun i hi => by
    rw [<- hX, <- hup]
    exact cellsV_at (OwnS.sizes (k := awKd) hvl he) j hjv i hi
   have HE : Hid (∀ (W : World), MkW wr W base g n cap (g :: fpAw vs[j]) ((X.set (j * 4) (.int .i64 (q : Int))).set (j * 4 + 1) (.int .i64 ((q : Int) + 1))) (.slice pa lp pc) (.slice ea le ec) (marksT (q + 2) lp) (marksT (q + 2 + lp) le) -> (q = posG szW k l j -> OwnS awKd W base (.slice (some ⟨g, 0, none⟩) n cap) ((mkG mkW szW k l).take (j + 1) ++ l.drop (j + 1)) fp /\ Out fp w W)) := fun W hM hq => by
    have hset : cellsV (vs.set j (.agg #[.int .i64 (q : Int), .int .i64 ((q : Int) + 1), .slice pa lp pc, .slice ea le ec])) = ((X.set (j * 4) (.int .i64 (q : Int))).set (j * 4 + 1) (.int .i64 ((q : Int) + 1))) := by
     rw [<- setMany_cells (K := 4) (OwnS.sizes (k := awKd) hvl he) j _ hjv rfl, hX]
     show ((((X.set (j * 4) (.int .i64 (q : Int))).set (j * 4 + 1) (.int .i64 ((q : Int) + 1))).set (j * 4 + 2) (.slice pa lp pc)).set (j * 4 + 3) (.slice ea le ec)) = _
     have h2 : X[j * 4 + 2]? = some (.slice pa lp pc) := HX5.out 2 (by decide)
     have h3 : X[j * 4 + 3]? = some (.slice ea le ec) := HX5.out 3 (by decide)
     have s2 := set_selfG (l := ((X.set (j * 4) (.int .i64 (q : Int))).set (j * 4 + 1) (.int .i64 ((q : Int) + 1)))) (i := j * 4 + 2) (a := .slice pa lp pc) (by (iterate 2 rw [List.getElem?_set_ne (by omega)]); exact h2)
     have s3 := set_selfG (l := ((X.set (j * 4) (.int .i64 (q : Int))).set (j * 4 + 1) (.int .i64 ((q : Int) + 1)))) (i := j * 4 + 3) (a := .slice ea le ec) (by (iterate 2 rw [List.getElem?_set_ne (by omega)]); exact h3)
     rw [s2, s3]
    have hmk : mkW q c = ⟨(q : Int), (q : Int) + 1, marksT (q + 2) lp, marksT (q + 2 + lp) le⟩ := by unfold mkW; rw [hlp, hle]
    have hT := OwnS.turnK awKd (c' := mkW q c) (cap := cap) (n := n) (j := j) (l := (mkG mkW szW k l).take j ++ l.drop j) (by omega) hvl he (hfp ▸ hnd) (u := .agg #[.int .i64 (q : Int), .int .i64 ((q : Int) + 1), .slice pa lp pc, .slice ea le ec]) (by rw [hup]; rfl) (by rw [hset, hml, HA.out.2.1]; exact hM.1) ⟨.slice pa lp pc, .slice ea le ec, by rw [hmk]; rfl, by rw [hmk]; exact hM.2.1.1, by rw [hmk]; exact hM.2.1.2, hM.2.2.2.2.2⟩ hM.2.2.1
    refine ⟨?_, ?_⟩
    ·rw [hfp, <- markG_set mkW szW hjl, <- hq, hc]
     exact hT
    ·refine H.out.2.2.trans (hM.2.2.1.mono fun b hb => ?_)
     rw [hfp]
     rcases List.mem_cons.1 hb with rfl | hb
     ·exact List.mem_append_left _ (by simp [Value.ownBlock])
     ·exact List.mem_append_right _ (mem_flat (k := fpAw) hjv hb)
   have HL : Hid (c.path.length = lp /\ c.lst.length = le) := ⟨hlp, hle⟩
   have HQ := zH (zJ H.out.1 (by rw [posG_next szW hjl, hc, <- H.out.1]; unfold szW; rw [hlp, hle] : posG szW k l (j + 1) = q + (2 + lp + le)))
   have hqb : q + (2 + lp + le) <= 120000000 := by
    have h1 := posG_le szW k l (j + 1)
    have h2 := sum_szW l
    have h3 := HQ.out.2
    have h4 := HA.out.2.2.1
    omega
   clear H hr he hfp hnd hvl hop hoe hap hX hml
   have hki : (j : Int) < (n : Int) := by omega
   have hk0 : (0 : Int) <= (j : Int) := by omega
   generalize g :: fpAw vs[j] = fq at HM HE
   clear hup hjv hc hlp hle
   obtain ⟨y0, c0⟩ := HM.out.cell (i := j * 4) (by omega)
   obtain ⟨y1, c1⟩ := HM.out.cell (i := j * 4 + 1) (by omega)
   have fz := fun i => HM.out.free i
   have c2 : wr.cell? ⟨g, j * 4 + 2, none⟩ = some (.slice pa lp pc) := by
    rw [HM.out.at (by omega)]
    exact HX5.out 2 (by decide)
   go_wp2_with fail
   clear c0 c1 c2 fz
   obtain ⟨V1, hV1⟩ : ∃ V, V = ((wr.setCell ⟨g, j * 4, none⟩ (.int .i64 (q : Int))).setCell ⟨g, j * 4 + 1, none⟩ (.int .i64 ((q : Int) + 1))) := ⟨_, rfl⟩
   rw [<- hV1]
   have HM1 : Hid (MkW wr V1 base g n cap fq ((X.set (j * 4) (.int .i64 (q : Int))).set (j * 4 + 1) (.int .i64 ((q : Int) + 1))) (.slice pa lp pc) (.slice ea le ec) c.path c.lst) := by rw [hV1]; exact (HM.out.put _ _).put _ _
   clear hV1 HM
   have E5 := markT_any (.slice pa lp pc) c.path (q + 2) base V1 (by rw [HL.out.1]; omega) (by omega) (by omega) HM1.out.2.1.1
   rw [HL.out.1, show (((q + 2 : Nat)) : Int) = (q : Int) + 1 + 1 from by omega] at E5
   refine E5.mono ?_
   rintro e w2 ⟨rfl, ho5, hg5⟩
   have HM2 : Hid (MkW wr w2 base g n cap fq ((X.set (j * 4) (.int .i64 (q : Int))).set (j * 4 + 1) (.int .i64 ((q : Int) + 1))) (.slice pa lp pc) (.slice ea le ec) (marksT (q + 2) lp) c.lst) := HM1.out.markP ho5 hg5
   clear HM1 E5 ho5 hg5
   have fz := fun i => HM2.out.free i
   have c3 : w2.cell? ⟨g, j * 4 + 3, none⟩ = some (.slice ea le ec) := by
    rw [HM2.out.at (by omega)]
    iterate 2 rw [List.getElem?_set_ne (by omega)]
    exact HX5.out 3 (by decide)
   go_wp2_with fail
   clear c3 fz
   have E5 := markT_any (.slice ea le ec) c.lst (q + 2 + lp) base w2 (by rw [HL.out.2]; omega) (by omega) (by omega) HM2.out.2.1.2
   rw [HL.out.2, show (((q + 2 + lp : Nat)) : Int) = (q : Int) + 1 + 1 + (lp : Int) from by omega] at E5
   refine E5.mono ?_
   rintro e w3 ⟨rfl, ho5, hg5⟩
   have HM3 : Hid (MkW wr w3 base g n cap fq ((X.set (j * 4) (.int .i64 (q : Int))).set (j * 4 + 1) (.int .i64 ((q : Int) + 1))) (.slice pa lp pc) (.slice ea le ec) (marksT (q + 2) lp) (marksT (q + 2 + lp) le)) := HM2.out.markE ho5 hg5
   clear HM2 E5 ho5 hg5
   go_wp2_with fail
   go_roundw
   case rel => exact ⟨j + 1, q + (2 + lp + le), by omega, by go_num, by go_num, ⟨by omega, by omega⟩, HQ.out.2.symm, HE.out _ HM3.out HQ.out.1⟩
   case measure => simp [intOf]; omega
  ·have hjl : n = j := by omega
   subst hjl
   have HE : Hid (q = KK /\ (mkG mkW szW k l).take n ++ l.drop n = mkG mkW szW k l) := by
    have h1 := HA.out.2.1
    refine ⟨?_, markG_all mkW szW (by omega)⟩
    rw [<- HA.out.2.2.2.2, h1]; exact H.out.1
   go_wp2
   go_ret
   refine ⟨by rw [HE.out.1]; rfl, ?_, H.out.2.2⟩
   have h := H.out.2.1
   rw [HE.out.2] at h
   exact h
end Go.Proofs.Ytagmnlmfoanelaa
