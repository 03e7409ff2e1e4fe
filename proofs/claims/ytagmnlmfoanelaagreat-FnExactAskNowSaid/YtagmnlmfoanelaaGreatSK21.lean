/-
  Texts of the proof.
-/
import Derived.Test.YtagmnlmfoanelaaGreatSK18
import Derived.Test.YtagmnlmfoanelaaGreatSK20
set_option maxRecDepth 100000
set_option maxHeartbeats 25600000
namespace Go.Proofs.YtagmnlmfoanelaaGreat
open Go.RowKit
set_option linter.unusedVariables false
set_option linter.unusedSimpArgs false
def midGt (k : Nat) (c : Gt) : Nat := k + 7 + (c.rp.ans.map szW).sum
def mkGt (k : Nat) (c : Gt) : Gt := ⟨(k : Int), ⟨⟨(mt (k + 1)).toArray⟩, (k : Int) + 1 + 1, (k : Int) + 1 + 1 + 1, (k : Int) + 1 + 1 + 1 + 1, (k : Int) + 1 + 1 + 1 + 1 + 1, (k : Int) + 1 + 1 + 1 + 1 + 1 + 1, mkG mkW szW (k + 7) c.rp.ans, ⟨(mt (midGt k c)).toArray⟩⟩⟩
def szGM (c : Gt) : Nat := 8 + (c.rp.ans.map szW).sum
theorem sum_szGM : ∀ l : List Gt, (l.map szGM).sum <= 8 * l.length + 2 * wtGtS l
 | [] => by simp
 | c :: l => by
  have := sum_szGM l
  have h2 := sum_szW c.rp.ans
  unfold wtGtS at this |-
  simp only [List.map_cons, List.sum_cons, List.length_cons]
  have h3 : szGM c = 8 + (c.rp.ans.map szW).sum := rfl
  have h4 : wtAS c.rp.ans <= wtGt c := by unfold wtGt wtR; omega
  omega
theorem posW_all (k : Nat) (l : List Aw) : posG szW k l l.length = k + (l.map szW).sum := by
 unfold posG
 rw [List.take_of_length_le (by rw [List.length_map]; exact Nat.le_refl _)]
def MkGt (kd : Kd Aw) (w0 W : World) (base g n cap : Nat) (f : List Nat) (X : List Value) (p : Value) (P : List Aw) : Prop :=
 W.ownsRow base 81 9 (.slice (some ⟨g, 0, none⟩) n cap) n X /\ OwnS kd W base p P f /\ Out (g :: f) w0 W /\ g ∉ f
section
variable {kd : Kd Aw} {w0 W W' : World} {base g n cap : Nat} {f : List Nat} {X : List Value} {p : Value} {P P' : List Aw}
theorem MkGt.put (h : MkGt kd w0 W base g n cap f X p P) (i : Nat) (x : Value) : MkGt kd w0 (W.setCell ⟨g, i, none⟩ x) base g n cap f (X.set i x) p P :=
 ⟨(h.1.stored i x).1, h.2.1.same (fun b hb => heap_setCell_other _ _ _ _ (fun (e : b = g) => h.2.2.2 (by rw [<- e]; exact hb))), h.2.2.1.setCell _ _ (List.mem_cons_self ..), h.2.2.2⟩
theorem MkGt.mark (h : MkGt kd w0 W base g n cap f X p P) (ho : OwnS kd W' base p P' f) (hg : Out f W W') : MkGt kd w0 W' base g n cap f X p P' :=
 ⟨row_same h.1 (fun b hb => hg.2.2.2.2 b (h.1.lt b hb).2 (fun hm => h.2.2.2 (by cases hb; exact hm))), ho, h.2.2.1.trans (hg.mono fun b hb => List.mem_cons_of_mem _ hb), h.2.2.2⟩
theorem MkGt.below (h : MkGt kd w0 W base g n cap f X p P) (hb : Below W.heap.size W W') : MkGt kd w0 W' base g n cap f X p P :=
 ⟨row_same h.1 (fun b hb2 => hb.block b (h.1.lt b hb2).2), h.2.1.stays hb, h.2.2.1.trans (Out.of_below hb), h.2.2.2⟩
theorem MkGt.cell (h : MkGt kd w0 W base g n cap f X p P) {i : Nat} (hi : i < n * 9) : ∃ x, W.cell? ⟨g, i, none⟩ = some x := by
 rw [World.ownsRow.cellAt h.1 i hi]
 exact ⟨X[i]'(by rw [h.1.1]; exact hi), List.getElem?_eq_getElem _⟩
theorem MkGt.at (h : MkGt kd w0 W base g n cap f X p P) {i : Nat} (hi : i < n * 9) : W.cell? ⟨g, i, none⟩ = X[i]? := World.ownsRow.cellAt h.1 i hi
theorem MkGt.free (h : MkGt kd w0 W base g n cap f X p P) (i : Nat) : W.frozen? ⟨g, i, none⟩ = false := World.ownsRow.frozenAt h.1 i
end
theorem markGotS_of (kd : Kd Aw) (hob : ∀ {w : World} {b : Nat} {v : Value} {l : List Aw} {f : List Nat}, OwnS kd w b v l f -> AtS awWd w v l)
  (MA : ∀ (l : List Aw) (v : Value) (k base : Nat) (fp : List Nat) (w : World), wtAS l <= 1048577 -> 1 <= k -> k <= 100000000 -> OwnS kd w base v l fp -> Calls Tryz.prog 61 #[v, .int .i64 k] w fun e w' => e = .returned (.int .i64 ((posG szW k l l.length : Nat) : Int)) /\ OwnS kd w' base v (mkG mkW szW k l) fp /\ Out fp w w')
  (l : List Gt) (v : Value) (k base : Nat) (fp : List Nat) (w : World) (hl : wtGtS l <= 1048577) (hk1 : 1 <= k) (hk : k <= 50000000) (ha : OwnX (gtKx kd hob) w base v l fp) :
  Calls Tryz.prog 35 #[v, .int .i64 k] w fun e w' => e = .returned (.int .i64 ((posG szGM k l l.length : Nat) : Int)) /\ OwnX (gtKx kd hob) w' base v (mkG mkGt szGM k l) fp /\ Out fp w w' := by
 obtain ⟨n, hn⟩ := zE (l.length)
 obtain ⟨ao, cap, hv, hg⟩ := ha.shape
 rw [hn] at hv hg
 subst hv
 obtain ⟨KK, hKK⟩ : ∃ q : Nat, posG szGM k l l.length = q := ⟨_, rfl⟩
 rw [hKK]
 have HA : Hid (OwnX (gtKx kd hob) w base (.slice ao n cap) l fp /\ l.length = n /\ wtGtS l <= 1048577 /\ (0 < n -> ∃ g, ao = some ⟨g, 0, none⟩) /\ posG szGM k l l.length = KK) := by exact ⟨ha, hn, hl, hg, hKK⟩
 have HM0 : Hid (∀ (l : List Aw) (v : Value) (k base : Nat) (fp : List Nat) (w : World), wtAS l <= 1048577 -> 1 <= k -> k <= 100000000 -> OwnS kd w base v l fp -> Calls Tryz.prog 61 #[v, .int .i64 k] w fun e w' => e = .returned (.int .i64 ((posG szW k l l.length : Nat) : Int)) /\ OwnS kd w' base v (mkG mkW szW k l) fp /\ Out fp w w') := MA
 have hn20 : n <= 1048577 := by unfold wtGtS at hl; omega
 clear ha hn hl hg hKK MA
 go_enter Tryz.func35, Tryz.ntmps35
 go_wp2_with fail
 go_loopw [1, 5] (fun kv iv wr => ∃ j q : Nat, j <= n /\ iv = .int .i64 j /\ kv = .int .i64 q /\ (1 <= q /\ q <= 90000000) /\ Hid (q = posG szGM k l j /\ OwnX (gtKx kd hob) wr base (.slice ao n cap) ((mkG mkGt szGM k l).take j ++ l.drop j) fp /\ Out fp w wr)) (fun _ iv _ => n - (intOf iv).toNat)
 case atStart => exact ⟨0, k, Nat.zero_le _, rfl, rfl, ⟨hk1, by omega⟩, by simp [posG], by simpa using HA.out.1, Out.refl _ _⟩
 case round =>
  obtain ⟨j, q, hj, rfl, rfl, ⟨hq1, hq2⟩, H⟩ := hrel
  by_cases hjn : j < n
  ·have hjl : j < l.length := by rw [HA.out.2.1]; exact hjn
   obtain ⟨g, hg⟩ := HA.out.2.2.2.1 (by omega)
   subst hg
   obtain ⟨vs, fs, hvl, hfl, hr, he, hfp, hnd⟩ := H.out.2.1
   have hml := markG_len mkGt szGM (k := k) (Nat.le_of_lt hjl)
   have hjv : j < vs.length := by rw [hvl, hml]; exact hjl
   have hjf : j < fs.length := by rw [hfl, hml]; exact hjl
   have hej : (gtKx kd hob).Own wr base vs[j] ((mkG mkGt szGM k l).take j ++ l.drop j)[j] fs[j] := he j hjv (by omega) hjf
   rw [markG_get mkGt szGM hjl] at hej
   obtain ⟨c, hc⟩ := zE (l[j])
   rw [hc] at hej
   obtain ⟨p, hup, hop⟩ := hej
   obtain ⟨lp, hlp⟩ := zE (c.rp.ans.length)
   obtain ⟨pa, pc, hpv⟩ : ∃ ao cap, p = .slice ao c.rp.ans.length cap := (hob hop).shape
   rw [hlp] at hpv
   subst hpv
   obtain ⟨X, hX⟩ := zE (cellsV vs)
   have hsz := OwnX.sizes hvl hfl he
   have hgf : g ∉ fs[j] := fun hm => (List.nodup_append.1 (hfp ▸ hnd)).2.2 g (by simp [Value.ownBlock]) g (List.mem_flatten.2 ⟨_, List.getElem_mem hjf, hm⟩) rfl
   obtain ⟨fq, hfq⟩ := zE (fs[j])
   have HM : Hid (MkGt kd wr wr base g n cap fq X (.slice pa lp pc) c.rp.ans) := ⟨by rw [<- hX]; rw [hml, HA.out.2.1] at hr; exact hr, by rw [<- hfq]; exact hop, Out.refl _ _, by rw [<- hfq]; exact hgf⟩
   have HX5 : Hid (∀ i, i < 9 -> X[j * 9 + i]? = (gtV c (.slice pa lp pc)).cells[i]?) := fun i hi => by
    rw [<- hX, <- hup]
    exact cellsV_at hsz j hjv i hi
   obtain ⟨K2, hK2⟩ : ∃ m : Nat, midGt q c = m := ⟨_, rfl⟩
   have HE : Hid (∀ (W : World), MkGt kd wr W base g n cap fq ((((((((X.set (j * 9) (.int .i64 ((q : Int)))).set (j * 9 + 1) (.string ⟨(mt (q + 1)).toArray⟩)).set (j * 9 + 2) (.int .i64 ((q : Int) + 1 + 1))).set (j * 9 + 3) (.int .i64 ((q : Int) + 1 + 1 + 1))).set (j * 9 + 4) (.int .i64 ((q : Int) + 1 + 1 + 1 + 1))).set (j * 9 + 5) (.int .i64 ((q : Int) + 1 + 1 + 1 + 1 + 1))).set (j * 9 + 6) (.int .i64 ((q : Int) + 1 + 1 + 1 + 1 + 1 + 1))).set (j * 9 + 8) (.string ⟨(mt K2).toArray⟩)) (.slice pa lp pc) (mkG mkW szW (q + 7) c.rp.ans) -> (q = posG szGM k l j -> OwnX (gtKx kd hob) W base (.slice (some ⟨g, 0, none⟩) n cap) ((mkG mkGt szGM k l).take (j + 1) ++ l.drop (j + 1)) fp /\ Out fp w W)) := fun W hM hq => by
    have hset : cellsV (vs.set j (.agg #[.int .i64 ((q : Int)), .string ⟨(mt (q + 1)).toArray⟩, .int .i64 ((q : Int) + 1 + 1), .int .i64 ((q : Int) + 1 + 1 + 1), .int .i64 ((q : Int) + 1 + 1 + 1 + 1), .int .i64 ((q : Int) + 1 + 1 + 1 + 1 + 1), .int .i64 ((q : Int) + 1 + 1 + 1 + 1 + 1 + 1), .slice pa lp pc, .string ⟨(mt K2).toArray⟩])) = ((((((((X.set (j * 9) (.int .i64 ((q : Int)))).set (j * 9 + 1) (.string ⟨(mt (q + 1)).toArray⟩)).set (j * 9 + 2) (.int .i64 ((q : Int) + 1 + 1))).set (j * 9 + 3) (.int .i64 ((q : Int) + 1 + 1 + 1))).set (j * 9 + 4) (.int .i64 ((q : Int) + 1 + 1 + 1 + 1))).set (j * 9 + 5) (.int .i64 ((q : Int) + 1 + 1 + 1 + 1 + 1))).set (j * 9 + 6) (.int .i64 ((q : Int) + 1 + 1 + 1 + 1 + 1 + 1))).set (j * 9 + 8) (.string ⟨(mt K2).toArray⟩)) := by
     rw [<- setMany_cells (K := 9) hsz j _ hjv rfl, hX]
     show ((((((((X.set (j * 9) (.int .i64 ((q : Int)))).set (j * 9 + 1) (.string ⟨(mt (q + 1)).toArray⟩)).set (j * 9 + 2) (.int .i64 ((q : Int) + 1 + 1))).set (j * 9 + 3) (.int .i64 ((q : Int) + 1 + 1 + 1))).set (j * 9 + 4) (.int .i64 ((q : Int) + 1 + 1 + 1 + 1))).set (j * 9 + 5) (.int .i64 ((q : Int) + 1 + 1 + 1 + 1 + 1))).set (j * 9 + 6) (.int .i64 ((q : Int) + 1 + 1 + 1 + 1 + 1 + 1))).set (j * 9 + 7) (.slice pa lp pc)).set (j * 9 + 8) (.string ⟨(mt K2).toArray⟩) = _
     have h1 : X[j * 9 + 7]? = some (.slice pa lp pc) := HX5.out 7 (by decide)
     have s1 := set_selfG (l := (((((((X.set (j * 9) (.int .i64 ((q : Int)))).set (j * 9 + 1) (.string ⟨(mt (q + 1)).toArray⟩)).set (j * 9 + 2) (.int .i64 ((q : Int) + 1 + 1))).set (j * 9 + 3) (.int .i64 ((q : Int) + 1 + 1 + 1))).set (j * 9 + 4) (.int .i64 ((q : Int) + 1 + 1 + 1 + 1))).set (j * 9 + 5) (.int .i64 ((q : Int) + 1 + 1 + 1 + 1 + 1))).set (j * 9 + 6) (.int .i64 ((q : Int) + 1 + 1 + 1 + 1 + 1 + 1)))) (i := j * 9 + 7) (a := .slice pa lp pc) (by (iterate 7 rw [List.getElem?_set_ne (by omega)]); exact h1)
     rw [s1]
    have hmk : mkGt q c = ⟨(q : Int), ⟨⟨(mt (q + 1)).toArray⟩, (q : Int) + 1 + 1, (q : Int) + 1 + 1 + 1, (q : Int) + 1 + 1 + 1 + 1, (q : Int) + 1 + 1 + 1 + 1 + 1, (q : Int) + 1 + 1 + 1 + 1 + 1 + 1, mkG mkW szW (q + 7) c.rp.ans, ⟨(mt K2).toArray⟩⟩⟩ := by unfold mkGt; rw [hK2]
    have hT := OwnX.turnX (gtKx kd hob) (c' := mkGt q c) (cap := cap) (n := n) (j := j) (l := (mkG mkGt szGM k l).take j ++ l.drop j) (by omega) hvl hfl he (hfp ▸ hnd) (u := .agg #[.int .i64 ((q : Int)), .string ⟨(mt (q + 1)).toArray⟩, .int .i64 ((q : Int) + 1 + 1), .int .i64 ((q : Int) + 1 + 1 + 1), .int .i64 ((q : Int) + 1 + 1 + 1 + 1), .int .i64 ((q : Int) + 1 + 1 + 1 + 1 + 1), .int .i64 ((q : Int) + 1 + 1 + 1 + 1 + 1 + 1), .slice pa lp pc, .string ⟨(mt K2).toArray⟩]) (by rw [hset, hml, HA.out.2.1]; exact hM.1) ⟨.slice pa lp pc, by rw [hmk]; rfl, by rw [hmk, hfq]; exact hM.2.1⟩ (by rw [hfq]; exact hM.2.2.1)
    refine ⟨?_, ?_⟩
    ·rw [hfp, <- markG_set mkGt szGM hjl, <- hq, hc]
     exact hT
    ·refine H.out.2.2.trans (hM.2.2.1.mono fun b hb => ?_)
     rw [hfp]
     rcases List.mem_cons.1 hb with rfl | hb
     ·exact List.mem_append_left _ (by simp [Value.ownBlock])
     ·exact List.mem_append_right _ (List.mem_flatten.2 ⟨_, List.getElem_mem hjf, by rw [hfq]; exact hb⟩)
   have hK3 : posG szW (q + 7) c.rp.ans c.rp.ans.length = K2 := by rw [posW_all, <- hK2]; rfl
   have HQ : Hid (q = posG szGM k l j /\ posG szGM k l (j + 1) = K2 + 1) := ⟨H.out.1, by rw [posG_next szGM hjl, hc, <- H.out.1, <- hK2]; unfold szGM midGt; omega⟩
   have hqb : q + 7 <= K2 /\ K2 + 1 <= 90000000 := by
    have h1 := posG_le szGM k l (j + 1)
    have h2 := sum_szGM l
    rw [HQ.out.2] at h1
    have h3 := HA.out.2.1
    have h4 := HA.out.2.2.1
    have h5 : midGt q c = q + 7 + (c.rp.ans.map szW).sum := rfl
    omega
   have hwa : wtAS c.rp.ans <= 1048577 := by
    have h1 := wtGtS_mem (List.getElem_mem hjl)
    rw [hc] at h1
    have h2 : wtAS c.rp.ans <= wtGt c := by unfold wtGt wtR; omega
    have h3 := HA.out.2.2.1
    omega
   have HL : Hid (wtAS c.rp.ans <= 1048577 /\ posG szW (q + 7) c.rp.ans c.rp.ans.length = K2) := ⟨hwa, hK3⟩
   clear H hr he hfp hnd hvl hfl hop hX hml hgf hsz hK2 hK3 hwa hfq hup hjv hjf hc hlp
   have hki : (j : Int) < (n : Int) := by omega
   have hk0 : (0 : Int) <= (j : Int) := by omega
   go_upto_region 4 with fail
   obtain ⟨y0, c0⟩ := HM.out.cell (i := j * 9) (by omega)
   have fz := fun i => HM.out.free i
   go_upto_region 6 with fail
   clear c0 fz
   obtain ⟨V0, hV⟩ : ∃ V, V = wr.setCell ⟨g, j * 9, none⟩ (.int .i64 ((q : Int))) := ⟨_, rfl⟩
   rw [<- hV]
   have HP0 : Hid (MkGt kd wr V0 base g n cap fq (X.set (j * 9) (.int .i64 ((q : Int)))) (.slice pa lp pc) c.rp.ans) := by rw [hV]; exact HM.out.put _ _
   clear hV HM
   have E1 := markText_str (q + 1) V0 (by omega) (by omega)
   rw [show (((q + 1 : Nat)) : Int) = (q : Int) + 1 from by omega] at E1
   go_wp2_with fail
   refine E1.mono ?_
   rintro e v1 ⟨rfl, hb1⟩
   have HN1 : Hid (MkGt kd wr v1 base g n cap fq (X.set (j * 9) (.int .i64 ((q : Int)))) (.slice pa lp pc) c.rp.ans) := HP0.out.below hb1
   clear HP0 E1 hb1
   obtain ⟨y1, c1⟩ := HN1.out.cell (i := j * 9 + 1) (by omega)
   have fz := fun i => HN1.out.free i
   go_upto_region 8 with fail
   clear c1 fz
   obtain ⟨V1, hV⟩ : ∃ V, V = v1.setCell ⟨g, j * 9 + 1, none⟩ (.string ⟨(mt (q + 1)).toArray⟩) := ⟨_, rfl⟩
   rw [<- hV]
   have HP1 : Hid (MkGt kd wr V1 base g n cap fq ((X.set (j * 9) (.int .i64 ((q : Int)))).set (j * 9 + 1) (.string ⟨(mt (q + 1)).toArray⟩)) (.slice pa lp pc) c.rp.ans) := by rw [hV]; exact HN1.out.put _ _
   clear hV HN1
   obtain ⟨y2, c2⟩ := HP1.out.cell (i := j * 9 + 2) (by omega)
   have fz := fun i => HP1.out.free i
   go_upto_region 10 with fail
   clear c2 fz
   obtain ⟨V2, hV⟩ : ∃ V, V = V1.setCell ⟨g, j * 9 + 2, none⟩ (.int .i64 ((q : Int) + 1 + 1)) := ⟨_, rfl⟩
   rw [<- hV]
   have HP2 : Hid (MkGt kd wr V2 base g n cap fq (((X.set (j * 9) (.int .i64 ((q : Int)))).set (j * 9 + 1) (.string ⟨(mt (q + 1)).toArray⟩)).set (j * 9 + 2) (.int .i64 ((q : Int) + 1 + 1))) (.slice pa lp pc) c.rp.ans) := by rw [hV]; exact HP1.out.put _ _
   clear hV HP1
   obtain ⟨y3, c3⟩ := HP2.out.cell (i := j * 9 + 3) (by omega)
   have fz := fun i => HP2.out.free i
   go_upto_region 12 with fail
   clear c3 fz
   obtain ⟨V3, hV⟩ : ∃ V, V = V2.setCell ⟨g, j * 9 + 3, none⟩ (.int .i64 ((q : Int) + 1 + 1 + 1)) := ⟨_, rfl⟩
   rw [<- hV]
   have HP3 : Hid (MkGt kd wr V3 base g n cap fq ((((X.set (j * 9) (.int .i64 ((q : Int)))).set (j * 9 + 1) (.string ⟨(mt (q + 1)).toArray⟩)).set (j * 9 + 2) (.int .i64 ((q : Int) + 1 + 1))).set (j * 9 + 3) (.int .i64 ((q : Int) + 1 + 1 + 1))) (.slice pa lp pc) c.rp.ans) := by rw [hV]; exact HP2.out.put _ _
   clear hV HP2
   obtain ⟨y4, c4⟩ := HP3.out.cell (i := j * 9 + 4) (by omega)
   have fz := fun i => HP3.out.free i
   go_upto_region 14 with fail
   clear c4 fz
   obtain ⟨V4, hV⟩ : ∃ V, V = V3.setCell ⟨g, j * 9 + 4, none⟩ (.int .i64 ((q : Int) + 1 + 1 + 1 + 1)) := ⟨_, rfl⟩
   rw [<- hV]
   have HP4 : Hid (MkGt kd wr V4 base g n cap fq (((((X.set (j * 9) (.int .i64 ((q : Int)))).set (j * 9 + 1) (.string ⟨(mt (q + 1)).toArray⟩)).set (j * 9 + 2) (.int .i64 ((q : Int) + 1 + 1))).set (j * 9 + 3) (.int .i64 ((q : Int) + 1 + 1 + 1))).set (j * 9 + 4) (.int .i64 ((q : Int) + 1 + 1 + 1 + 1))) (.slice pa lp pc) c.rp.ans) := by rw [hV]; exact HP3.out.put _ _
   clear hV HP3
   obtain ⟨y5, c5⟩ := HP4.out.cell (i := j * 9 + 5) (by omega)
   have fz := fun i => HP4.out.free i
   go_upto_region 16 with fail
   clear c5 fz
   obtain ⟨V5, hV⟩ : ∃ V, V = V4.setCell ⟨g, j * 9 + 5, none⟩ (.int .i64 ((q : Int) + 1 + 1 + 1 + 1 + 1)) := ⟨_, rfl⟩
   rw [<- hV]
   have HP5 : Hid (MkGt kd wr V5 base g n cap fq ((((((X.set (j * 9) (.int .i64 ((q : Int)))).set (j * 9 + 1) (.string ⟨(mt (q + 1)).toArray⟩)).set (j * 9 + 2) (.int .i64 ((q : Int) + 1 + 1))).set (j * 9 + 3) (.int .i64 ((q : Int) + 1 + 1 + 1))).set (j * 9 + 4) (.int .i64 ((q : Int) + 1 + 1 + 1 + 1))).set (j * 9 + 5) (.int .i64 ((q : Int) + 1 + 1 + 1 + 1 + 1))) (.slice pa lp pc) c.rp.ans) := by rw [hV]; exact HP4.out.put _ _
   clear hV HP4
   obtain ⟨y6, c6⟩ := HP5.out.cell (i := j * 9 + 6) (by omega)
   have fz := fun i => HP5.out.free i
   go_upto_region 18 with fail
   clear c6 fz
   obtain ⟨V6, hV⟩ : ∃ V, V = V5.setCell ⟨g, j * 9 + 6, none⟩ (.int .i64 ((q : Int) + 1 + 1 + 1 + 1 + 1 + 1)) := ⟨_, rfl⟩
   rw [<- hV]
   have HP6 : Hid (MkGt kd wr V6 base g n cap fq (((((((X.set (j * 9) (.int .i64 ((q : Int)))).set (j * 9 + 1) (.string ⟨(mt (q + 1)).toArray⟩)).set (j * 9 + 2) (.int .i64 ((q : Int) + 1 + 1))).set (j * 9 + 3) (.int .i64 ((q : Int) + 1 + 1 + 1))).set (j * 9 + 4) (.int .i64 ((q : Int) + 1 + 1 + 1 + 1))).set (j * 9 + 5) (.int .i64 ((q : Int) + 1 + 1 + 1 + 1 + 1))).set (j * 9 + 6) (.int .i64 ((q : Int) + 1 + 1 + 1 + 1 + 1 + 1))) (.slice pa lp pc) c.rp.ans) := by rw [hV]; exact HP5.out.put _ _
   clear hV HP5
   have c7 : V6.cell? ⟨g, j * 9 + 7, none⟩ = some (.slice pa lp pc) := by
    rw [HP6.out.at (by omega)]
    iterate 7 rw [List.getElem?_set_ne (by omega)]
    exact HX5.out 7 (by decide)
   have E5 := HM0.out c.rp.ans (.slice pa lp pc) (q + 7) base fq V6 HL.out.1 (by omega) (by omega) HP6.out.2.1
   rw [HL.out.2, show (((q + 7 : Nat)) : Int) = (q : Int) + 1 + 1 + 1 + 1 + 1 + 1 + 1 from by omega] at E5
   go_wp2_with fail
   clear c7
   refine E5.mono ?_
   rintro e w7 ⟨rfl, ho7, hg7⟩
   have HP7 : Hid (MkGt kd wr w7 base g n cap fq (((((((X.set (j * 9) (.int .i64 ((q : Int)))).set (j * 9 + 1) (.string ⟨(mt (q + 1)).toArray⟩)).set (j * 9 + 2) (.int .i64 ((q : Int) + 1 + 1))).set (j * 9 + 3) (.int .i64 ((q : Int) + 1 + 1 + 1))).set (j * 9 + 4) (.int .i64 ((q : Int) + 1 + 1 + 1 + 1))).set (j * 9 + 5) (.int .i64 ((q : Int) + 1 + 1 + 1 + 1 + 1))).set (j * 9 + 6) (.int .i64 ((q : Int) + 1 + 1 + 1 + 1 + 1 + 1))) (.slice pa lp pc) (mkG mkW szW (q + 7) c.rp.ans)) := HP6.out.mark ho7 hg7
   clear HP6 E5 ho7 hg7
   have E1 := markText_str K2 w7 (by omega) (by omega)
   go_wp2_with fail
   refine E1.mono ?_
   rintro e v8 ⟨rfl, hb1⟩
   have HN8 : Hid (MkGt kd wr v8 base g n cap fq (((((((X.set (j * 9) (.int .i64 ((q : Int)))).set (j * 9 + 1) (.string ⟨(mt (q + 1)).toArray⟩)).set (j * 9 + 2) (.int .i64 ((q : Int) + 1 + 1))).set (j * 9 + 3) (.int .i64 ((q : Int) + 1 + 1 + 1))).set (j * 9 + 4) (.int .i64 ((q : Int) + 1 + 1 + 1 + 1))).set (j * 9 + 5) (.int .i64 ((q : Int) + 1 + 1 + 1 + 1 + 1))).set (j * 9 + 6) (.int .i64 ((q : Int) + 1 + 1 + 1 + 1 + 1 + 1))) (.slice pa lp pc) (mkG mkW szW (q + 7) c.rp.ans)) := HP7.out.below hb1
   clear HP7 E1 hb1
   obtain ⟨y8, c8⟩ := HN8.out.cell (i := j * 9 + 8) (by omega)
   have fz := fun i => HN8.out.free i
   go_wp2_with fail
   go_roundw
   case rel => exact ⟨j + 1, K2 + 1, by omega, by go_num, by go_num, ⟨by omega, by omega⟩, HQ.out.2.symm, HE.out _ (HN8.out.put _ _) HQ.out.1⟩
   case measure => simp [intOf]; omega
  ·have hjl : n = j := by omega
   subst hjl
   have HE : Hid (q = KK /\ (mkG mkGt szGM k l).take n ++ l.drop n = mkG mkGt szGM k l) := by
    have h1 := HA.out.2.1
    refine ⟨?_, markG_all mkGt szGM (by omega)⟩
    rw [<- HA.out.2.2.2.2, h1]; exact H.out.1
   go_wp2
   go_ret
   refine ⟨by rw [HE.out.1]; rfl, ?_, H.out.2.2⟩
   have h := H.out.2.1
   rw [HE.out.2] at h
   exact h
theorem markGotS_out (bb : Bool) (l : List Gt) (v : Value) (k base : Nat) (fp : List Nat) (w : World) (hl : wtGtS l <= 1048577) (hk1 : 1 <= k) (hk : k <= 50000000) (ha : OwnX (gtB bb) w base v l fp) :
  Calls Tryz.prog 35 #[v, .int .i64 k] w fun e w' => e = .returned (.int .i64 ((posG szGM k l l.length : Nat) : Int)) /\ OwnX (gtB bb) w' base v (mkG mkGt szGM k l) fp /\ Out fp w w' := by
 cases bb with
 | false => exact markGotS_of awKd (fun h => h.at.o) markAnswerS_out l v k base fp w hl hk1 hk ha
 | true => exact markGotS_of awWd (fun h => h.at) markAnswerS_outW l v k base fp w hl hk1 hk ha
theorem heldGotS_same (l : List Gt) (v : Value) (k : Nat) (w : World) (hl : wtGtS l <= 1048577) (hk1 : 1 <= k) (hk : k <= 50000000) (ha : AtX gtW w v (mkG mkGt szGM k l)) :
  Calls Tryz.prog 39 #[v, .int .i64 k] w fun e w' => e = .returned (.int .i64 ((posG szGM k l l.length : Nat) : Int)) /\ Below w.heap.size w w' := by
 obtain ⟨ao, cap, hv⟩ := ha.shape
 obtain ⟨n, hn⟩ := zE (l.length)
 rw [mkG_len, hn] at hv
 subst hv
 obtain ⟨KK, hKK⟩ : ∃ q : Nat, posG szGM k l l.length = q := ⟨_, rfl⟩
 rw [hKK]
 have HA : Hid (AtX gtW w (.slice ao n cap) (mkG mkGt szGM k l) /\ l.length = n /\ wtGtS l <= 1048577 /\ posG szGM k l l.length = KK) := by exact ⟨ha, hn, hl, hKK⟩
 have hn20 : n <= 1048577 := by unfold wtGtS at hl; omega
 clear ha hn hl hKK
 go_enter Tryz.func39, Tryz.ntmps39
 go_wp2_with fail
 go_loopw [1, 5] (fun kv iv wr => ∃ j q : Nat, j <= n /\ iv = .int .i64 j /\ kv = .int .i64 q /\ (1 <= q /\ q <= 90000000) /\ Hid (q = posG szGM k l j /\ Below w.heap.size w wr)) (fun _ iv _ => n - (intOf iv).toNat)
 case atStart => exact ⟨0, k, Nat.zero_le _, rfl, rfl, ⟨hk1, by omega⟩, by simp [posG], Below.refl _ _⟩
 case round =>
  obtain ⟨j, q, hj, rfl, rfl, ⟨hq1, hq2⟩, H⟩ := hrel
  by_cases hjn : j < n
  ·have hjl : j < l.length := by rw [HA.out.2.1]; exact hjn
   have hjm : j < (mkG mkGt szGM k l).length := by rw [mkG_len]; exact hjl
   obtain ⟨g, off, u, hao, hgB, hPu, hus, hcell⟩ := HA.out.1.get hjm
   rw [mkG_get mkGt szGM l k j hjl hjm, <- H.out.1] at hPu
   obtain ⟨c, hc⟩ := zE (l[j])
   rw [hc] at hPu
   obtain ⟨K2, hK2⟩ : ∃ m : Nat, midGt q c = m := ⟨_, rfl⟩
   have hmk : mkGt q c = ⟨(q : Int), ⟨⟨(mt (q + 1)).toArray⟩, (q : Int) + 1 + 1, (q : Int) + 1 + 1 + 1, (q : Int) + 1 + 1 + 1 + 1, (q : Int) + 1 + 1 + 1 + 1 + 1, (q : Int) + 1 + 1 + 1 + 1 + 1 + 1, mkG mkW szW (q + 7) c.rp.ans, ⟨(mt K2).toArray⟩⟩⟩ := by unfold mkGt; rw [hK2]
   rw [hmk] at hPu
   obtain ⟨p, hup, hat⟩ := hPu
   obtain ⟨pa, pc, hpv⟩ : ∃ ao cap, p = .slice ao _ cap := RowS.shape hat
   obtain ⟨lp, hlp⟩ := zE ((mkG mkW szW (q + 7) c.rp.ans).length)
   rw [hlp] at hpv
   subst hpv
   subst hao
   have HC : Hid (∀ (W : World), Below w.heap.size w W -> ∀ i x, (Value.agg #[.int .i64 ((q : Int)), .string ⟨(mt (q + 1)).toArray⟩, .int .i64 ((q : Int) + 1 + 1), .int .i64 ((q : Int) + 1 + 1 + 1), .int .i64 ((q : Int) + 1 + 1 + 1 + 1), .int .i64 ((q : Int) + 1 + 1 + 1 + 1 + 1), .int .i64 ((q : Int) + 1 + 1 + 1 + 1 + 1 + 1), .slice pa lp pc, .string ⟨(mt K2).toArray⟩]).cells[i]? = some x -> W.cell? ⟨g, off + j * 9 + i, none⟩ = some x) := fun W hb i x hx => by
    refine (hb.cell (p := ⟨g, off + j * 9 + i, none⟩) hgB).trans (hcell i x ?_)
    rw [hup]
    exact hx
   have hK3 : posG szW (q + 7) c.rp.ans c.rp.ans.length = K2 := by rw [posW_all, <- hK2]; rfl
   have HQ : Hid (posG szGM k l (j + 1) = K2 + 1) := by show _ = _; rw [posG_next szGM hjl, hc, <- H.out.1, <- hK2]; unfold szGM midGt; omega
   have hqb : q + 7 <= K2 /\ K2 + 1 <= 90000000 := by
    have h1 := posG_le szGM k l (j + 1)
    have h2 := sum_szGM l
    rw [HQ.out] at h1
    have h3 := HA.out.2.1
    have h4 := HA.out.2.2.1
    have h5 : midGt q c = q + 7 + (c.rp.ans.map szW).sum := rfl
    omega
   have hwa : wtAS c.rp.ans <= 1048577 := by
    have h1 := wtGtS_mem (List.getElem_mem hjl)
    rw [hc] at h1
    have h2 : wtAS c.rp.ans <= wtGt c := by unfold wtGt wtR; omega
    have h3 := HA.out.2.2.1
    omega
   have HL : Hid (∀ W, Below w.heap.size w W -> Calls Tryz.prog 62 #[.slice pa lp pc, .int .i64 ((q : Int) + 1 + 1 + 1 + 1 + 1 + 1 + 1)] W fun e w' => e = .returned (.int .i64 (K2 : Int)) /\ Below W.heap.size W w') := fun W hb => by
    have h9 := heldAnswerS_sameO c.rp.ans (.slice pa lp pc) (q + 7) W hwa (by omega) (by omega) (AtS.below hat hb)
    rw [hK3, show (((q + 7 : Nat)) : Int) = (q : Int) + 1 + 1 + 1 + 1 + 1 + 1 + 1 from by omega] at h9
    exact h9
   have HB : Hid (Below w.heap.size w wr) := H.out.2
   clear H hus hcell hup hgB hjm hat hmk hK2 hK3 hwa hc hlp
   have hki : (j : Int) < (n : Int) := by omega
   have hk0 : (0 : Int) <= (j : Int) := by omega
   have e0 : wr.cell? ⟨g, off + j * 9, none⟩ = some (.int .i64 ((q : Int))) := HC.out wr HB.out 0 _ rfl
   go_upto_region 7 with fail
   clear e0
   have hDr : Below wr.heap.size wr wr.drew := (Below.refl _ _).drew
   refine wp_region_held_drew (S := fun W => Below wr.heap.size wr W) (by kernel_rfl) hDr (fun hHeld => ?_)
   clear hDr
   generalize wr.drew = wd at hHeld |-
   refine zT 0 21 ?_ rfl (by rfl) ?_ hHeld ?_
   rotate_left
   ·intro W hSw
    go_simp
    try with_reducible rfl
   try simp only [Act.put, zA, zB, zC]
   refine zT 1 22 ?_ rfl (by rfl) ?_ hHeld ?_
   rotate_left
   ·intro W hSw
    go_simp
    try with_reducible rfl
   try simp only [Act.put, zA, zB, zC]
   refine zT 2 23 ?_ rfl (by rfl) ?_ hHeld ?_
   rotate_left
   ·intro W hSw
    go_simp
    try with_reducible rfl
   try simp only [Act.put, zA, zB, zC]
   refine zT 3 24 ?_ rfl (by rfl) ?_ hHeld ?_
   rotate_left
   ·intro W hSw
    go_simp
    try with_reducible rfl
   try simp only [Act.put, zA, zB, zC]
   refine zT 4 25 ?_ rfl (by rfl) ?_ hHeld ?_
   rotate_left
   ·intro W hSw
    go_simp
    try with_reducible rfl
   try simp only [Act.put, zA, zB, zC]
   refine zT 5 26 ?_ rfl (by rfl) ?_ hHeld ?_
   rotate_left
   ·intro W hSw
    have e0 : W.cell? ⟨g, off + j * 9 + 1, none⟩ = some (.string ⟨(mt (q + 1)).toArray⟩) := HC.out W (HB.out.trans (hSw.mono HB.out.size)) 1 _ rfl
    go_simp
    try with_reducible rfl
   try simp only [Act.put, zA, zB, zC]
   refine zT 6 27 ?_ rfl (by rfl) ?_ hHeld ?_
   rotate_left
   ·intro W hSw
    go_simp
    try with_reducible rfl
   try simp only [Act.put, zA, zB, zC]
   refine wpAnyH_ready (rs := [7]) (by kernel_rfl) (by simp) ?_
   refine AllReadyH.cons (o := ⟨some 28, _, _, _, _, _⟩) rfl (fun K hK => ?_) AllReadyH.nil
   have E1 := markText_str (q + 1) wd (by omega) (by omega)
   rw [show (((q + 1 : Nat)) : Int) = (q : Int) + 1 from by omega] at E1
   go_simp
   refine E1.mono ?_
   rintro e v1 ⟨rfl, hb3⟩
   have hS3 : Below wr.heap.size wr v1 := hHeld.trans (hb3.mono hHeld.size)
   clear hb3 E1
   refine hK.out _ _ hS3 (fun hHeld => ?_)
   clear hK K hS3
   try simp only [Act.put, zA, zB, zC]
   refine zT 8 29 ?_ rfl (by rfl) ?_ hHeld ?_
   rotate_left
   ·intro W hSw
    go_simp
    try with_reducible rfl
   try simp only [Act.put, zA, zB, zC]
   refine wpAnyH_done (by kernel_rfl) ?_ _
   have HBn : Hid (Below w.heap.size w v1) := HB.out.trans (hHeld.mono HB.out.size)
   clear HB hHeld
   have HB := HBn
   clear HBn
   have e2 : v1.cell? ⟨g, off + j * 9 + 2, none⟩ = some (.int .i64 ((q : Int) + 1 + 1)) := HC.out v1 HB.out 2 _ rfl
   go_upto_region 13 with fail
   clear e2
   have e3 : v1.cell? ⟨g, off + j * 9 + 3, none⟩ = some (.int .i64 ((q : Int) + 1 + 1 + 1)) := HC.out v1 HB.out 3 _ rfl
   go_upto_region 16 with fail
   clear e3
   have e4 : v1.cell? ⟨g, off + j * 9 + 4, none⟩ = some (.int .i64 ((q : Int) + 1 + 1 + 1 + 1)) := HC.out v1 HB.out 4 _ rfl
   go_upto_region 19 with fail
   clear e4
   have e5 : v1.cell? ⟨g, off + j * 9 + 5, none⟩ = some (.int .i64 ((q : Int) + 1 + 1 + 1 + 1 + 1)) := HC.out v1 HB.out 5 _ rfl
   go_upto_region 22 with fail
   clear e5
   have e6 : v1.cell? ⟨g, off + j * 9 + 6, none⟩ = some (.int .i64 ((q : Int) + 1 + 1 + 1 + 1 + 1 + 1)) := HC.out v1 HB.out 6 _ rfl
   go_upto_region 25 with fail
   clear e6
   have e7 : v1.cell? ⟨g, off + j * 9 + 7, none⟩ = some (.slice pa lp pc) := HC.out v1 HB.out 7 _ rfl
   go_wp2_with fail
   clear e7
   refine (HL.out v1 HB.out).mono ?_
   rintro e v7 ⟨rfl, hb⟩
   have HBn : Hid (Below w.heap.size w v7) := HB.out.trans (hb.mono HB.out.size)
   clear HB hb HL
   have HB := HBn
   clear HBn
   have hneg : ¬ (K2 : Int) < 0 := by omega
   go_upto_region 28 with fail
   have hDr : Below v7.heap.size v7 v7.drew := (Below.refl _ _).drew
   refine wp_region_held_drew (S := fun W => Below v7.heap.size v7 W) (by kernel_rfl) hDr (fun hHeld => ?_)
   clear hDr
   generalize v7.drew = wd at hHeld |-
   refine zT 0 92 ?_ rfl (by rfl) ?_ hHeld ?_
   rotate_left
   ·intro W hSw
    go_simp
    try with_reducible rfl
   try simp only [Act.put, zA, zB, zC]
   refine zT 1 93 ?_ rfl (by rfl) ?_ hHeld ?_
   rotate_left
   ·intro W hSw
    go_simp
    try with_reducible rfl
   try simp only [Act.put, zA, zB, zC]
   refine zT 2 94 ?_ rfl (by rfl) ?_ hHeld ?_
   rotate_left
   ·intro W hSw
    go_simp
    try with_reducible rfl
   try simp only [Act.put, zA, zB, zC]
   refine zT 3 95 ?_ rfl (by rfl) ?_ hHeld ?_
   rotate_left
   ·intro W hSw
    go_simp
    try with_reducible rfl
   try simp only [Act.put, zA, zB, zC]
   refine zT 4 96 ?_ rfl (by rfl) ?_ hHeld ?_
   rotate_left
   ·intro W hSw
    go_simp
    try with_reducible rfl
   try simp only [Act.put, zA, zB, zC]
   refine zT 5 97 ?_ rfl (by rfl) ?_ hHeld ?_
   rotate_left
   ·intro W hSw
    have e0 : W.cell? ⟨g, off + j * 9 + 8, none⟩ = some (.string ⟨(mt K2).toArray⟩) := HC.out W (HB.out.trans (hSw.mono HB.out.size)) 8 _ rfl
    go_simp
    try with_reducible rfl
   try simp only [Act.put, zA, zB, zC]
   refine zT 6 98 ?_ rfl (by rfl) ?_ hHeld ?_
   rotate_left
   ·intro W hSw
    go_simp
    try with_reducible rfl
   try simp only [Act.put, zA, zB, zC]
   refine wpAnyH_ready (rs := [7]) (by kernel_rfl) (by simp) ?_
   refine AllReadyH.cons (o := ⟨some 99, _, _, _, _, _⟩) rfl (fun K hK => ?_) AllReadyH.nil
   have E1 := markText_str K2 wd (by omega) (by omega)
   go_simp
   refine E1.mono ?_
   rintro e v8 ⟨rfl, hb3⟩
   have hS3 : Below v7.heap.size v7 v8 := hHeld.trans (hb3.mono hHeld.size)
   clear hb3 E1
   refine hK.out _ _ hS3 (fun hHeld => ?_)
   clear hK K hS3
   try simp only [Act.put, zA, zB, zC]
   refine zT 8 100 ?_ rfl (by rfl) ?_ hHeld ?_
   rotate_left
   ·intro W hSw
    go_simp
    try with_reducible rfl
   try simp only [Act.put, zA, zB, zC]
   refine wpAnyH_done (by kernel_rfl) ?_ _
   have HBn : Hid (Below w.heap.size w v8) := HB.out.trans (hHeld.mono HB.out.size)
   clear HB hHeld
   have HB := HBn
   clear HBn
   go_wp2_with fail
   go_roundw
   case rel => exact ⟨j + 1, K2 + 1, by omega, by go_num, by go_num, ⟨by omega, by omega⟩, HQ.out.symm, HB.out⟩
   case measure => simp [intOf]; omega
  ·have hjl : n = j := by omega
   subst hjl
   have HE : Hid (q = KK) := by
    show q = KK
    rw [<- HA.out.2.2.2, HA.out.2.1]
    exact H.out.1
   go_wp2
   go_ret
   exact ⟨by rw [HE.out]; rfl, H.out.2⟩
def pcn1 (k : Nat) (s : Cn) : Nat := posG szMWa k s.waits s.waits.length
def pcn2 (k : Nat) (s : Cn) : Nat := posG szGM (pcn1 k s) s.gots s.gots.length
def pcn3 (k : Nat) (s : Cn) : Nat := (pcn2 k s) + s.late.length
def mkCn (k : Nat) (s : Cn) : Cn := { s with waits := mkG mkWa szMWa k s.waits, gots := mkG mkGt szGM (pcn1 k s) s.gots, late := mkI (pcn2 k s) s.late }
def LmCn (s : Cn) : Prop := (s.waits.length <= 1048577) /\ (wtGtS s.gots <= 1048577) /\ (s.late.length <= 1048577)
theorem pcn_le {k : Nat} {s : Cn} (hl : LmCn s) (hk : 1 <= k) : (1 <= pcn1 k s /\ pcn1 k s <= k + 4194308) /\ (1 <= pcn2 k s /\ pcn2 k s <= k + 14680078) /\ (1 <= pcn3 k s /\ pcn3 k s <= k + 15728655) := by
 have b0 : 1 <= pcn1 k s /\ pcn1 k s <= k + 4194308 := by
  have g1 : k <= pcn1 k s := Nat.le_add_right _ _
  have g2 : pcn1 k s <= k + (s.waits.map szMWa).sum := posG_le szMWa k s.waits s.waits.length
  have g3 := sum_szMWa s.waits
  have g4 : s.waits.length <= 1048577 := hl.1
  have g5 : 1 <= k := hk
  omega
 have b1 : 1 <= pcn2 k s /\ pcn2 k s <= (pcn1 k s) + 10485770 := by
  have g1 : (pcn1 k s) <= pcn2 k s := Nat.le_add_right _ _
  have g2 : pcn2 k s <= (pcn1 k s) + (s.gots.map szGM).sum := posG_le szGM (pcn1 k s) s.gots s.gots.length
  have g3 := sum_szGM s.gots
  have g4 : wtGtS s.gots <= 1048577 := hl.2.1
  have g5 : 1 <= (pcn1 k s) := b0.1
  have g6 : s.gots.length <= wtGtS s.gots := Nat.le_add_right _ _
  omega
 have b2 : 1 <= pcn3 k s /\ pcn3 k s <= (pcn2 k s) + 1048577 := by
  have g1 : pcn3 k s = (pcn2 k s) + s.late.length := rfl
  have g4 : s.late.length <= 1048577 := hl.2.2
  have g5 : 1 <= (pcn2 k s) := b1.1
  omega
 exact ⟨⟨b0.1, by have := b0.2;  omega⟩, ⟨b1.1, by have c0 := b0.2; have c1 := b1.2; omega⟩, ⟨b2.1, by have c0 := b0.2; have c1 := b1.2; have c2 := b2.2; omega⟩⟩
theorem markClient_out {bb : Bool} (s : Cn) (v : Value) (k base : Nat) (fp : List Nat) (w : World) (hl : LmCn s) (hk1 : 1 <= k) (hk : k <= 20000000) (ha : OwnCn bb w base v s fp) :
  Calls Tryz.prog 12 #[v, .int .i64 k] w fun e w' => e = .returned (.int .i64 ((pcn3 k s : Nat) : Int)) /\ OwnCn bb w' base v (mkCn k s) fp /\ Out fp w w' := by
 have hpo := pcn_le hl hk1
 obtain ⟨a1, c1, a2, c2, a3, c3, hv⟩ := ha.at.shape
 obtain ⟨v1, v2, v3, f1, f2, f3, hv2, h1, h2, h3, rfl, hnd⟩ := ha
 rw [hv] at hv2
 simp only [Value.agg.injEq, Array.mk.injEq, List.cons.injEq, and_true, true_and] at hv2
 obtain ⟨rfl, rfl, rfl⟩ := hv2
 subst hv
 obtain ⟨n1, e1⟩ := zE (s.waits.length)
 obtain ⟨n2, e2⟩ := zE (s.gots.length)
 obtain ⟨n3, e3⟩ := zE (s.late.length)
 obtain ⟨K1, hK1⟩ := zE (pcn1 k s)
 obtain ⟨K2, hK2⟩ := zE (pcn2 k s)
 obtain ⟨K3, hK3⟩ := zE (pcn3 k s)
 have hmk : mkCn k s = { s with waits := mkG mkWa szMWa k s.waits, gots := mkG mkGt szGM K1 s.gots, late := mkI K2 s.late } := by unfold mkCn; rw [hK1, hK2]
 rw [hmk, hK3]
 rw [hK1, hK2, hK3] at hpo
 rw [e1, e2, e3]
 rw [e1] at h1
 rw [e2] at h2
 rw [e3] at h3
 have m0 := List.nodup_append.1 hnd
 have m1 := List.nodup_append.1 m0.2.1
 have DD : Hid ((∀ b ∈ f1, b ∉ f2) /\ (∀ b ∈ f1, b ∉ f3) /\ (∀ b ∈ f2, b ∉ f3)) := ⟨fun b x y => m0.2.2 b x b (List.mem_append_left _ y) rfl, fun b x y => m0.2.2 b x b (List.mem_append_right _ (y)) rfl, fun b x y => m1.2.2 b x b (y) rfl⟩
 have HND : Hid ((f1 ++ (f2 ++ (f3))).Nodup) := hnd
 obtain ⟨V, hV⟩ : ∃ V, V = w.alloc (Obj.cells #[.string s.key, .int .i64 s.now, .slice a1 n1 c1, .slice a2 n2 c2, .slice a3 n3 c3] 35) := ⟨_, rfl⟩
 have hb0 : Below w.heap.size w V := by rw [hV]; exact (Below.refl _ _).alloc (Nat.le_refl _) _
 have LT : Hid ((∀ b ∈ f1, b < w.heap.size) /\ (∀ b ∈ f2, b < w.heap.size) /\ (∀ b ∈ f3, b < w.heap.size)) := ⟨fun b hb => (h1.lt b hb).2, fun b hb => (h2.lt b hb).2, fun b hb => (h3.lt b hb).2⟩
 have H0 : Hid ((OwnS waKd V base (.slice a1 n1 c1) (s.waits) f1 /\ OwnX (gtB bb) V base (.slice a2 n2 c2) (s.gots) f2 /\ OwnIF V base (.slice a3 n3 c3) (s.late) f3) /\ Blk V w.heap.size 35 #[.string s.key, .int .i64 s.now, .slice a1 n1 c1, .slice a2 n2 c2, .slice a3 n3 c3] /\ Out (f1 ++ (f2 ++ (f3))) w V) := ⟨⟨h1.stays hb0, h2.stays hb0, h3.stays hb0⟩, by rw [hV]; exact Blk.new w _ _, Out.of_below hb0⟩
 have X1 : Hid (∀ W, OwnS waKd W base (.slice a1 n1 c1) (s.waits) f1 -> Calls Tryz.prog 34 #[.slice a1 n1 c1, .int .i64 (k : Int)] W fun e w' => e = .returned (.int .i64 (K1 : Int)) /\ OwnS waKd w' base (.slice a1 n1 c1) (mkG mkWa szMWa k s.waits) f1 /\ Out f1 W w') := fun W h => by
  have h9 := markWaitS_out s.waits _ k base f1 W hl.1 (by omega) (by omega) h
  have e9 : posG szMWa k s.waits s.waits.length = K1 := by exact hK1
  rw [e9] at h9
  exact h9
 have X2 : Hid (∀ W, OwnX (gtB bb) W base (.slice a2 n2 c2) (s.gots) f2 -> Calls Tryz.prog 35 #[.slice a2 n2 c2, .int .i64 (K1 : Int)] W fun e w' => e = .returned (.int .i64 (K2 : Int)) /\ OwnX (gtB bb) w' base (.slice a2 n2 c2) (mkG mkGt szGM K1 s.gots) f2 /\ Out f2 W w') := fun W h => by
  have h9 := markGotS_out bb s.gots _ K1 base f2 W hl.2.1 (by omega) (by omega) h
  have e9 : posG szGM K1 s.gots s.gots.length = K2 := by rw [<- hK1]; exact hK2
  rw [e9] at h9
  exact h9
 have X3 : Hid (∀ W, OwnIF W base (.slice a3 n3 c3) (s.late) f3 -> Calls Tryz.prog 36 #[.slice a3 n3 c3, .int .i64 (K2 : Int)] W fun e w' => e = .returned (.int .i64 (K3 : Int)) /\ OwnIF w' base (.slice a3 n3 c3) (mkI K2 s.late) f3 /\ Out f3 W w') := fun W h => by
  have h9 := markIntSF_out s.late _ K2 base f3 W (Nat.le_trans hl.2.2 (by decide)) (by omega) h
  have e9 : K2 + s.late.length = K3 := by rw [<- hK2]; exact hK3
  rw [e9] at h9
  exact h9
 clear h1 h2 h3 hnd m0 m1 hb0 hK1 hK2 hK3 e1 e2 e3 hl hmk
 go_enter Tryz.func12, Tryz.ntmps12
 go_wp2_with fail
 rw [<- hV]
 clear hV
 refine (X1.out V (H0.out.1.1)).mono ?_
 rintro e w1 ⟨rfl, o1, t1⟩
 have H1 : Hid ((OwnS waKd w1 base (.slice a1 n1 c1) (mkG mkWa szMWa k s.waits) f1 /\ OwnX (gtB bb) w1 base (.slice a2 n2 c2) (s.gots) f2 /\ OwnIF w1 base (.slice a3 n3 c3) (s.late) f3) /\ Blk w1 w.heap.size 35 #[.string s.key, .int .i64 s.now, .slice a1 n1 c1, .slice a2 n2 c2, .slice a3 n3 c3] /\ Out (f1 ++ (f2 ++ (f3))) w w1) := ⟨⟨o1, (H0.out.1.2.1).out t1 (fun b x y => DD.out.1 b y x), (H0.out.1.2.2).out t1 (fun b x y => DD.out.2.1 b y x)⟩, (t1.2.2.2.2 _ H0.out.2.1.lt (fun hm => by have := LT.out.1 _ hm; omega)).trans H0.out.2.1, H0.out.2.2.trans (t1.mono fun b hb => List.mem_append_left _ hb)⟩
 clear o1 t1 H0
 have x1 := fun j => H1.out.2.1.cell j
 go_wp2_with fail
 clear x1
 refine (X2.out w1 (H1.out.1.2.1)).mono ?_
 rintro e w2 ⟨rfl, o1, t1⟩
 have H2 : Hid ((OwnS waKd w2 base (.slice a1 n1 c1) (mkG mkWa szMWa k s.waits) f1 /\ OwnX (gtB bb) w2 base (.slice a2 n2 c2) (mkG mkGt szGM K1 s.gots) f2 /\ OwnIF w2 base (.slice a3 n3 c3) (s.late) f3) /\ Blk w2 w.heap.size 35 #[.string s.key, .int .i64 s.now, .slice a1 n1 c1, .slice a2 n2 c2, .slice a3 n3 c3] /\ Out (f1 ++ (f2 ++ (f3))) w w2) := ⟨⟨(H1.out.1.1).out t1 (fun b x y => DD.out.1 b x y), o1, (H1.out.1.2.2).out t1 (fun b x y => DD.out.2.2 b y x)⟩, (t1.2.2.2.2 _ H1.out.2.1.lt (fun hm => by have := LT.out.2.1 _ hm; omega)).trans H1.out.2.1, H1.out.2.2.trans (t1.mono fun b hb => List.mem_append_right _ (List.mem_append_left _ hb))⟩
 clear o1 t1 H1
 have x1 := fun j => H2.out.2.1.cell j
 go_wp2_with fail
 clear x1
 refine (X3.out w2 (H2.out.1.2.2)).mono ?_
 rintro e w3 ⟨rfl, o1, t1⟩
 have H3 : Hid ((OwnS waKd w3 base (.slice a1 n1 c1) (mkG mkWa szMWa k s.waits) f1 /\ OwnX (gtB bb) w3 base (.slice a2 n2 c2) (mkG mkGt szGM K1 s.gots) f2 /\ OwnIF w3 base (.slice a3 n3 c3) (mkI K2 s.late) f3) /\ Blk w3 w.heap.size 35 #[.string s.key, .int .i64 s.now, .slice a1 n1 c1, .slice a2 n2 c2, .slice a3 n3 c3] /\ Out (f1 ++ (f2 ++ (f3))) w w3) := ⟨⟨(H2.out.1.1).out t1 (fun b x y => DD.out.2.1 b x y), (H2.out.1.2.1).out t1 (fun b x y => DD.out.2.2 b x y), o1⟩, (t1.2.2.2.2 _ H2.out.2.1.lt (fun hm => by have := LT.out.2.2 _ hm; omega)).trans H2.out.2.1, H2.out.2.2.trans (t1.mono fun b hb => List.mem_append_right _ (List.mem_append_right _ hb))⟩
 clear o1 t1 H2
 go_wp2_with fail
 go_ret
 exact ⟨rfl, ⟨_, _, _, f1, f2, f3, rfl, H3.out.1.1, H3.out.1.2.1, H3.out.1.2.2, rfl, HND.out⟩, H3.out.2.2⟩
theorem heldClient_same (s : Cn) (v : Value) (k : Nat) (w : World) (hl : LmCn s) (hk1 : 1 <= k) (hk : k <= 20000000) (ha : CnAt w v (mkCn k s)) :
  Calls Tryz.prog 14 #[v, .int .i64 k] w fun e w' => e = .returned (.int .i64 ((pcn3 k s : Nat) : Int)) /\ Below w.heap.size w w' := by
 have hpo := pcn_le hl hk1
 obtain ⟨a1, c1, a2, c2, a3, c3, hv⟩ := ha.shape
 subst hv
 obtain ⟨h1, h2, h3⟩ := ha.rows
 obtain ⟨n1, e1⟩ := zE ((mkCn k s).waits.length)
 obtain ⟨n2, e2⟩ := zE ((mkCn k s).gots.length)
 obtain ⟨n3, e3⟩ := zE ((mkCn k s).late.length)
 rw [e1, e2, e3]
 rw [e1] at h1
 rw [e2] at h2
 rw [e3] at h3
 obtain ⟨K1, hK1⟩ := zE (pcn1 k s)
 obtain ⟨K2, hK2⟩ := zE (pcn2 k s)
 obtain ⟨K3, hK3⟩ := zE (pcn3 k s)
 change AtS waKd w _ (mkG mkWa szMWa k s.waits) at h1
 change AtX gtW w _ (mkG mkGt szGM (pcn1 k s) s.gots) at h2
 change AtI w _ (mkI (pcn2 k s) s.late) at h3
 rw [hK1, hK2, hK3] at hpo
 rw [hK1] at h2
 rw [hK2] at h3
 rw [hK3]
 change Calls _ _ #[.agg #[.string s.key, .int .i64 s.now, .slice a1 n1 c1, .slice a2 n2 c2, .slice a3 n3 c3], _] _ _
 have X1 : Hid (∀ W, Below w.heap.size w W -> Calls Tryz.prog 38 #[.slice a1 n1 c1, .int .i64 (k : Int)] W fun e w' => e = .returned (.int .i64 (K1 : Int)) /\ Below W.heap.size W w') := fun W h => by
  have h9 := heldWaitS_same s.waits _ k W hl.1 (by omega) (by omega) (h1.below h)
  have e9 : posG szMWa k s.waits s.waits.length = K1 := by exact hK1
  rw [e9] at h9
  exact h9
 have X2 : Hid (∀ W, Below w.heap.size w W -> Calls Tryz.prog 39 #[.slice a2 n2 c2, .int .i64 (K1 : Int)] W fun e w' => e = .returned (.int .i64 (K2 : Int)) /\ Below W.heap.size W w') := fun W h => by
  have h9 := heldGotS_same s.gots _ K1 W hl.2.1 (by omega) (by omega) (h2.below h)
  have e9 : posG szGM K1 s.gots s.gots.length = K2 := by rw [<- hK1]; exact hK2
  rw [e9] at h9
  exact h9
 have X3 : Hid (∀ W, Below w.heap.size w W -> Calls Tryz.prog 40 #[.slice a3 n3 c3, .int .i64 (K2 : Int)] W fun e w' => e = .returned (.int .i64 (K3 : Int)) /\ Below W.heap.size W w') := fun W h => by
  have h9 := heldIntSF_same s.late _ K2 W (Nat.le_trans hl.2.2 (by decide)) (by omega) (h3.below h)
  have e9 : K2 + s.late.length = K3 := by rw [<- hK2]; exact hK3
  rw [e9] at h9
  exact h9
 have p1 : ¬ (K1 : Int) < 0 := by omega
 have p2 : ¬ (K2 : Int) < 0 := by omega
 have p3 : ¬ (K3 : Int) < 0 := by omega
 obtain ⟨V, hV⟩ : ∃ V, V = w.alloc (Obj.cells #[.string s.key, .int .i64 s.now, .slice a1 n1 c1, .slice a2 n2 c2, .slice a3 n3 c3] 35) := ⟨_, rfl⟩
 have H0 : Hid (Below w.heap.size w V /\ Blk V w.heap.size 35 #[.string s.key, .int .i64 s.now, .slice a1 n1 c1, .slice a2 n2 c2, .slice a3 n3 c3]) := by rw [hV]; exact ⟨(Below.refl _ _).alloc (Nat.le_refl _) _, Blk.new w _ _⟩
 clear h1 h2 h3 hK1 hK2 hK3 e1 e2 e3 hl ha hpo
 go_enter Tryz.func14, Tryz.ntmps14
 go_wp2_with fail
 rw [<- hV]
 clear hV
 refine (X1.out V H0.out.1).mono ?_
 rintro e w1 ⟨rfl, hb⟩
 have H1 : Hid (Below w.heap.size w w1 /\ Blk w1 w.heap.size 35 #[.string s.key, .int .i64 s.now, .slice a1 n1 c1, .slice a2 n2 c2, .slice a3 n3 c3]) := ⟨H0.out.1.trans (hb.mono H0.out.1.size), H0.out.2.below hb H0.out.2.lt⟩
 clear hb H0
 have x1 := fun j => H1.out.2.cell j
 go_wp2_with fail
 clear x1
 refine (X2.out w1 H1.out.1).mono ?_
 rintro e w2 ⟨rfl, hb⟩
 have H2 : Hid (Below w.heap.size w w2 /\ Blk w2 w.heap.size 35 #[.string s.key, .int .i64 s.now, .slice a1 n1 c1, .slice a2 n2 c2, .slice a3 n3 c3]) := ⟨H1.out.1.trans (hb.mono H1.out.1.size), H1.out.2.below hb H1.out.2.lt⟩
 clear hb H1
 have x1 := fun j => H2.out.2.cell j
 go_wp2_with fail
 clear x1
 refine (X3.out w2 H2.out.1).mono ?_
 rintro e w3 ⟨rfl, hb⟩
 have H3 : Hid (Below w.heap.size w w3 /\ Blk w3 w.heap.size 35 #[.string s.key, .int .i64 s.now, .slice a1 n1 c1, .slice a2 n2 c2, .slice a3 n3 c3]) := ⟨H2.out.1.trans (hb.mono H2.out.1.size), H2.out.2.below hb H2.out.2.lt⟩
 clear hb H2
 go_wp2_with fail
 go_ret
 exact ⟨rfl, H3.out.1⟩
end Go.Proofs.YtagmnlmfoanelaaGreat
namespace Go.Proofs.YtagmnlmfoanelaaGreat
open Go.RowKit
set_option linter.unusedVariables false
structure Ak where
 tg : List ByteArray
 plan : Int
 want : Int
 nonce : Int
 time : Int
 cac : Bool
def akV (c : Ak) (p : Value) : Value := .agg #[p, .int .i64 c.plan, .int .i64 c.want, .int .i64 c.nonce, .int .i64 c.time, .bool c.cac]
def AkAt (w : World) (v : Value) (c : Ak) : Prop := ∃ p, v = akV c p /\ TxtAt w p c.tg
theorem AkAt.below {w w' : World} {v : Value} {c : Ak} (h : AkAt w v c) (hb : Below w.heap.size w w') : AkAt w' v c := by
 obtain ⟨p, hv, h1⟩ := h
 exact ⟨p, hv, h1.below hb⟩
theorem AkAt.shape {w : World} {v : Value} {c : Ak} (h : AkAt w v c) : ∃ p q, v = akV c (.slice p c.tg.length q) := by
 obtain ⟨pv, hv, ⟨p, q, h1, _⟩⟩ := h
 exact ⟨p, q, by rw [hv, h1]⟩
def OwnAk (w : World) (base : Nat) (v : Value) (c : Ak) : Prop := ∃ p, v = akV c p /\ OwnT w base p c.tg
theorem OwnAk.at {w : World} {base : Nat} {v : Value} {c : Ak} (h : OwnAk w base v c) : AkAt w v c := by
 obtain ⟨p, hv, h1⟩ := h
 exact ⟨p, hv, h1.at⟩
theorem OwnAk.stays {w w' : World} {base : Nat} {v : Value} {c : Ak} (h : OwnAk w base v c) (hb : Below w.heap.size w w') : OwnAk w' base v c := by
 obtain ⟨p, hv, h1⟩ := h
 exact ⟨p, hv, h1.stays hb⟩
def ArgAk (B : Nat) (w : World) (v : Value) (c : Ak) : Prop := ∃ pa pc, v = akV c (.slice pa c.tg.length pc) /\ ArgT B w pa c.tg
theorem ArgAk.below {B : Nat} {w w' : World} {v : Value} {c : Ak} (h : ArgAk B w v c) (hb : Below B w w') : ArgAk B w' v c := by
 obtain ⟨pa, pc, hv, h1⟩ := h
 exact ⟨pa, pc, hv, h1.below hb⟩
theorem ArgAk.mono {B B' : Nat} {w : World} {v : Value} {c : Ak} (h : ArgAk B w v c) (hB : B <= B') : ArgAk B' w v c := by
 obtain ⟨pa, pc, hv, h1⟩ := h
 exact ⟨pa, pc, hv, fun j hj => by obtain ⟨x, o, h2, h3, h4⟩ := h1 j hj; exact ⟨x, o, h2, Nat.lt_of_lt_of_le h3 hB, h4⟩⟩
def wtAk (c : Ak) : Nat := totT c.tg
def WdAk (c : Ak) : Prop := Wd [c.plan, c.want, c.nonce, c.time] /\ WdT c.tg /\ c.tg.length <= 9223372036854775807
def szAk (c : Ak) (left : Int) : Int := if (wtAk c : Int) <= left then left - wtAk c else -1
theorem wtAk_len {c : Ak} (h : wtAk c <= 1048576) : c.tg.length <= 1048576 := Nat.le_trans (tot_len _) h
end Go.Proofs.YtagmnlmfoanelaaGreat
