/-
  Texts of the proof.
-/
import Derived.Test.YtlbjhibolcgnoaaGreatDoorSR33
set_option maxRecDepth 100000
set_option maxHeartbeats 25600000
namespace Go.Proofs.YtlbjhibolcgnoaaGreatDoor
open Go.RowKit
set_option linter.unusedVariables false
set_option linter.unusedSimpArgs false
theorem markReply_outW (c : Rp) (v : Value) (k base : Nat) (fp : List Nat) (w : World) (hl : wtAS c.ans <= 1048577) (hk1 : 1 <= k) (hk : k <= 100000000) (ha : OwnRW w base v c fp) :
  Calls Tryz.prog 9 #[v, .int .i64 k] w fun e w' => e = .returned (.int .i64 ((posR k c : Nat) : Int)) /\ OwnRW w' base v (mkRp k c) fp /\ Out fp w w' := by
 obtain ⟨p, rfl, h1⟩ := ha
 obtain ⟨ap, cp, hp⟩ := h1.at.shape
 obtain ⟨lp, hlp⟩ := zE (c.ans.length)
 rw [hlp] at hp
 subst hp
 obtain ⟨KK, hKK⟩ : ∃ q : Nat, posR k c = q := ⟨_, rfl⟩
 have HA : Hid (OwnS awWd w base (.slice ap lp cp) c.ans fp /\ posG szW k c.ans c.ans.length = KK /\ wtAS c.ans <= 1048577) := ⟨h1, hKK, hl⟩
 rw [hKK]
 have hKb : KK <= 200000000 := by rw [<- hKK]; have := posR_le (k := k) (c := c); omega
 clear h1 hlp hKK hl
 unfold rpV
 go_enter Tryz.func9, Tryz.ntmps9
 go_wp2_with fail
 obtain ⟨V, hV⟩ : ∃ V, V = w.alloc (Obj.cells #[.string c.hash, .int .i64 c.nonce, .int .i64 c.time, .int .i64 c.next, .int .i64 c.plan, .int .i64 c.err, .slice ap lp cp, .string c.sig] 28) := ⟨_, rfl⟩
 rw [<- hV]
 have G : Hid (Out fp w V /\ OwnS awWd V base (.slice ap lp cp) c.ans fp) := by
  have hb : Below w.heap.size w V := by rw [hV]; exact (Below.refl _ _).alloc (Nat.le_refl _) _
  exact ⟨Out.of_below hb, HA.out.1.stays hb⟩
 clear hV
 have E0 := markAnswerS_outW c.ans (.slice ap lp cp) k base fp V HA.out.2.2 hk1 hk G.out.2
 rw [HA.out.2.1] at E0
 refine E0.mono ?_
 rintro r u0 ⟨rfl, ho, hg⟩
 have G0 : Hid (Out fp w u0 /\ OwnS awWd u0 base (.slice ap lp cp) (mkG mkW szW k c.ans) fp) := ⟨G.out.1.trans hg, ho⟩
 clear ho hg G E0
 go_wp2_with fail
 go_ret
 exact ⟨rfl, ⟨_, rfl, G0.out.2⟩, G0.out.1⟩
theorem heldReply_sameO (c : Rp) (v : Value) (k : Nat) (w : World) (hl : wtAS c.ans <= 1048577) (hk1 : 1 <= k) (hk : k <= 100000000) (ha : RpO w v (mkRp k c)) :
  Calls Tryz.prog 10 #[v, .int .i64 k] w fun e w' => e = .returned (.int .i64 ((posR k c : Nat) : Int)) /\ Below w.heap.size w w' := by
 obtain ⟨p, rfl, h1⟩ := ha
 change AtS awWd w p (mkG mkW szW k c.ans) at h1
 obtain ⟨ap, cp, hp⟩ := h1.shape
 obtain ⟨lp, hlp⟩ := zE ((mkG mkW szW k c.ans).length)
 rw [hlp] at hp
 subst hp
 obtain ⟨KK, hKK⟩ : ∃ K : Int, ((posR k c : Nat) : Int) = K := ⟨_, rfl⟩
 have hK0 : ¬ KK < 0 := by omega
 have HQ : Hid (∀ W, Below w.heap.size w W -> Calls Tryz.prog 21 #[.slice ap lp cp, .int .i64 (k : Int)] W (fun e w' => e = .returned (.int .i64 KK) /\ Below W.heap.size W w')) := fun W hb => by rw [<- hKK]; exact heldAnswerS_sameO c.ans _ k W hl hk1 hk (h1.below hb)
 rw [hKK]
 clear h1 hlp hKK hl
 show Calls Tryz.prog 10 #[rpV c (.slice ap lp cp), .int .i64 k] w _
 unfold rpV
 go_enter Tryz.func10, Tryz.ntmps10
 go_wp2_with fail
 obtain ⟨V, hV⟩ : ∃ V, V = w.alloc (Obj.cells #[.string c.hash, .int .i64 c.nonce, .int .i64 c.time, .int .i64 c.next, .int .i64 c.plan, .int .i64 c.err, .slice ap lp cp, .string c.sig] 28) := ⟨_, rfl⟩
 rw [<- hV]
 have G : Hid (Below w.heap.size w V) := by rw [hV]; exact (Below.refl _ _).alloc (Nat.le_refl _) _
 clear hV
 refine (HQ.out V G.out).mono ?_
 rintro r u0 ⟨rfl, hb⟩
 have G0 : Hid (Below w.heap.size w u0) := G.out.trans (hb.mono G.out.size)
 clear hb G
 go_wp2_with fail
 go_ret
 exact ⟨rfl, G0.out⟩
theorem eqAnswerS_same (l : List Aw) (a b : Value) (w : World) (hl : wtAS l <= 1000000000) (ha : AtS awKd w a l) (hb : AtS awKd w b l) :
  Calls Tryz.prog 19 #[a, b] w fun e w' => e = .returned (.bool true) /\ Below w.heap.size w w' := by
 obtain ⟨ax, cx, hv⟩ := ha.shape
 obtain ⟨ay, cy, hu⟩ := hb.shape
 obtain ⟨len, hlen⟩ := zE (l.length)
 rw [hlen] at hv hu
 subst hv hu
 have hl20 : len <= 1000000000 := by unfold wtAS at hl; omega
 have HX : Hid (AtS awKd w (.slice ax len cx) l /\ AtS awKd w (.slice ay len cy) l /\ l.length = len /\ wtAS l <= 1000000000) := ⟨ha, hb, hlen, hl⟩
 clear ha hb hlen hl
 go_enter Tryz.func19, Tryz.ntmps19
 go_wp2_with fail
 go_loopw [5] (fun iv wr => ∃ k : Nat, k <= len /\ iv = .int .i64 k /\ Hid (Below w.heap.size w wr)) (fun iv _ => len - (intOf iv).toNat)
 case atStart => exact ⟨0, Nat.zero_le _, rfl, Below.refl _ _⟩
 case round =>
  obtain ⟨k, hk, rfl, HB⟩ := hrel
  by_cases hkn : k < len
  ·have hkl : k < l.length := by rw [HX.out.2.2.1]; exact hkn
   obtain ⟨g1, o1, u1, hax, hg1, hP1, hs1, hc1⟩ := HX.out.1.get hkl
   obtain ⟨g2, o2, u2, hay, hg2, hP2, hs2, hc2⟩ := HX.out.2.1.get hkl
   subst hax hay
   obtain ⟨c, hc⟩ := zE (l[k])
   have hBd : Below w.heap.size w wr.drew := HB.out.drew
   have hrl : c.path.length <= 1000000000 /\ c.lst.length <= 1000000000 := by
    have h1 := wtAS_mem (List.getElem_mem hkl)
    rw [hc] at h1
    exact wtAw_lens (Nat.le_trans h1 HX.out.2.2.2)
   have HR := eqAnswer_same c u1 u2 wr.drew hrl (by rw [<- hc]; exact AwAt.below hP1 hBd) (by rw [<- hc]; exact AwAt.below hP2 hBd)
   obtain ⟨p1, q1, e1, r1, hu1⟩ := AwAt.shape hP1
   obtain ⟨p2, q2, e2, r2, hu2⟩ := AwAt.shape hP2
   rw [hc] at hu1 hu2
   subst hu1 hu2
   have hf1 : ∀ (W : World) (i : Nat) (x : Value), Below w.heap.size w W -> (awV c (.slice p1 c.path.length q1) (.slice e1 c.lst.length r1)).cells[i]? = some x -> W.cell? ⟨g1, o1 + k * 4 + i, none⟩ = some x := fun W i x hW hx => (hW.cell (p := ⟨g1, o1 + k * 4 + i, none⟩) hg1).trans (hc1 i x hx)
   have hf2 : ∀ (W : World) (i : Nat) (x : Value), Below w.heap.size w W -> (awV c (.slice p2 c.path.length q2) (.slice e2 c.lst.length r2)).cells[i]? = some x -> W.cell? ⟨g2, o2 + k * 4 + i, none⟩ = some x := fun W i x hW hx => (hW.cell (p := ⟨g2, o2 + k * 4 + i, none⟩) hg2).trans (hc2 i x hx)
   have HS : Hid (∀ W, Below w.heap.size w W -> (W.cell? ⟨g1, o1 + k * 4, none⟩ = some (.int .i64 c.status) /\ W.cell? ⟨g1, o1 + k * 4 + 1, none⟩ = some (.int .i64 c.why) /\ W.cell? ⟨g1, o1 + k * 4 + 2, none⟩ = some (.slice p1 c.path.length q1) /\ W.cell? ⟨g1, o1 + k * 4 + 3, none⟩ = some (.slice e1 c.lst.length r1)) /\ (W.cell? ⟨g2, o2 + k * 4, none⟩ = some (.int .i64 c.status) /\ W.cell? ⟨g2, o2 + k * 4 + 1, none⟩ = some (.int .i64 c.why) /\ W.cell? ⟨g2, o2 + k * 4 + 2, none⟩ = some (.slice p2 c.path.length q2) /\ W.cell? ⟨g2, o2 + k * 4 + 3, none⟩ = some (.slice e2 c.lst.length r2))) := fun W hW =>
    ⟨⟨hf1 W 0 _ hW rfl, hf1 W 1 _ hW rfl, hf1 W 2 _ hW rfl, hf1 W 3 _ hW rfl⟩, hf2 W 0 _ hW rfl, hf2 W 1 _ hW rfl, hf2 W 2 _ hW rfl, hf2 W 3 _ hW rfl⟩
   have hki : (k : Int) < (len : Int) := by omega
   have hk0 : (0 : Int) <= (k : Int) := by omega
   unfold awV at HR
   clear hf1 hf2 hc1 hc2 hP1 hP2 hs1 hs2 hg1 hg2 hc hkl
   go_upto_region 6 with fail
   refine wp_region_held_drew (S := fun W => Below w.heap.size w W) (by kernel_rfl) hBd (fun hHeld => ?_)
   clear hBd
   have HBW : Hid (Below w.heap.size w wr.drew) := hHeld
   refine zT 0 17 ?_ rfl (by rfl) ?_ hHeld ?_
   rotate_left
   ·intro W hSw
    go_simp
    try with_reducible rfl
   try simp only [Act.put, zA, zB, zC]
   refine zT 1 18 ?_ rfl (by rfl) ?_ hHeld ?_
   rotate_left
   ·intro W hSw
    go_simp
    try with_reducible rfl
   try simp only [Act.put, zA, zB, zC]
   refine zT 2 19 ?_ rfl (by rfl) ?_ hHeld ?_
   rotate_left
   ·intro W hSw
    go_simp
    try with_reducible rfl
   try simp only [Act.put, zA, zB, zC]
   refine zT 3 20 ?_ rfl (by rfl) ?_ hHeld ?_
   rotate_left
   ·intro W hSw
    obtain ⟨⟨e0, e1, e2, e3⟩, -⟩ := HS.out W hSw
    go_simp
    try with_reducible rfl
   try simp only [Act.put, zA, zB, zC]
   refine zT 4 21 ?_ rfl (by rfl) ?_ hHeld ?_
   rotate_left
   ·intro W hSw
    go_simp
    try with_reducible rfl
   try simp only [Act.put, zA, zB, zC]
   refine zT 5 22 ?_ rfl (by rfl) ?_ hHeld ?_
   rotate_left
   ·intro W hSw
    go_simp
    try with_reducible rfl
   try simp only [Act.put, zA, zB, zC]
   refine zT 6 23 ?_ rfl (by rfl) ?_ hHeld ?_
   rotate_left
   ·intro W hSw
    go_simp
    try with_reducible rfl
   try simp only [Act.put, zA, zB, zC]
   refine zT 7 24 ?_ rfl (by rfl) ?_ hHeld ?_
   rotate_left
   ·intro W hSw
    obtain ⟨-, e0, e1, e2, e3⟩ := HS.out W hSw
    go_simp
    try with_reducible rfl
   try simp only [Act.put, zA, zB, zC]
   refine wpAnyH_ready (rs := [8]) (by kernel_rfl) (by simp) ?_
   refine AllReadyH.cons (o := ⟨some 25, _, _, _, _, _⟩) rfl (fun K hK => ?_) AllReadyH.nil
   go_simp
   refine HR.mono ?_
   rintro e w3 ⟨rfl, hb3⟩
   have HB3 : Hid (Below w.heap.size w w3) := HBW.out.trans (hb3.mono HBW.out.size)
   clear hb3 HR HBW
   refine hK.out _ _ HB3.out (fun hHeld => ?_)
   clear hK K
   try simp only [Act.put, zA, zB, zC]
   refine zT 9 26 ?_ rfl (by rfl) ?_ hHeld ?_
   rotate_left
   ·intro W hSw
    go_simp
    try with_reducible rfl
   try simp only [Act.put, zA, zB, zC]
   refine wpAnyH_done (by kernel_rfl) ?_ _
   clear HS
   go_wp2_with fail
   go_roundw
   case rel => exact ⟨k + 1, by omega, by go_num, HB3.out⟩
   case measure => simp [intOf]; omega
  ·have hkl : k = len := by omega
   subst hkl
   go_wp2
   go_ret
   exact ⟨rfl, HB.out⟩
theorem toAnswerS_any (v : Value) (l : List Aw) (B : Nat) (w : World) (hl : wtAS l <= 1048576) (hB : B <= w.heap.size) (ha : ArgAS B w v l) :
  Calls Tryz.prog 15 #[v] w fun e w' => ∃ u fp, e = .returned u /\ OwnS awKd w' w.heap.size u l fp /\ Below w.heap.size w w' := by
 obtain ⟨i0, hi, hz0, hz1, hz2⟩ := info_parts infoAns
 obtain ⟨a0, cap, hv⟩ := ha.shape
 obtain ⟨len, hlen⟩ := zE (l.length)
 rw [hlen] at hv
 subst hv
 have hl20 : len <= 1048576 := by unfold wtAS at hl; omega
 have HA : Hid (ArgAS B w (.slice a0 len cap) l /\ l.length = len /\ wtAS l <= 1048576) := ⟨ha, hlen, hl⟩
 clear ha hlen hl
 go_enter Tryz.func15, Tryz.ntmps15
 go_wp2_with (at_make; refine wpList_make_full _ rfl _ _ 26 rfl w.heap.size 45 i0 (.agg #[.int .i64 0, .int .i64 0, .slice none 0 0, .slice none 0 0]) 4 Tryz.underlying26 hi hz0 hz1 .i64 .i64 _ _ len rfl rfl ?m0 ?m1 ?m2 ?m3 ?m4 ?_)
 case m0 => simp
 case m1 => simp
 case m2 => rw [hz2]; omega
 case m3 => unfold maxLen; omega
 case m4 => exact Nat.le_refl _
 intro w1 hown hgrow
 have HO : Hid (∃ fp, OwnS awKd w1 w.heap.size (.slice (some ⟨w.heap.size, 0, none⟩) len len) (l.take 0 ++ List.replicate (l.length - 0) zeAw) fp /\ Below w.heap.size w w1) := by
  refine ⟨[w.heap.size], ?_, (Below.refl _ _).grown hgrow (Nat.le_refl _) (fun j hj => by cases hj)⟩
  rw [List.take_zero, List.nil_append, Nat.sub_zero, HA.out.2.1]
  exact OwnS.zeros awKd (own_zeAw _ _) rfl (by have h2 : (madeCells zeAwV.cells (len * 4)).toList = cellsV (List.replicate len zeAwV) := made_cellsV zeAwV len (by decide); rw [<- h2]; exact hown)
 clear hown hgrow
 go_wp2_with fail
 go_loopw [4] (fun iv wr => ∃ k : Nat, k <= len /\ iv = .int .i64 k /\ Hid (∃ fp, OwnS awKd wr w.heap.size (.slice (some ⟨w.heap.size, 0, none⟩) len len) (l.take k ++ List.replicate (l.length - k) zeAw) fp /\ Below w.heap.size w wr)) (fun iv _ => len - (intOf iv).toNat)
 case atStart => exact ⟨0, Nat.zero_le _, rfl, HO.out⟩
 case round =>
  obtain ⟨k, hk, rfl, H⟩ := hrel
  clear HO
  by_cases hkn : k < len
  ·have hkl : k < l.length := by rw [HA.out.2.1]; exact hkn
   obtain ⟨b, off, u, hao, hbB, hPu, hus, hcell⟩ := HA.out.1.get hkl
   obtain ⟨ap, aq, ep, eq, hu⟩ := hPu.shape
   subst hao
   obtain ⟨fp, hO, hBl⟩ := H.out
   have HP : Hid (ArgAw w.heap.size wr u l[k]) := (hPu.mono hB).below hBl
   have hcb := fun i x (hx : u.cells[i]? = some x) => (hBl.cell (p := ⟨b, off + k * 4 + i, none⟩) (by show b < w.heap.size; omega)).trans (hcell i x hx)
   obtain ⟨c, hc⟩ := zE (l[k])
   rw [hc] at HP hu
   have HR := toAnswer_any c u w.heap.size wr (by have h1 := wtAS_mem (List.getElem_mem hkl); rw [hc] at h1; exact wtAw_lens (Nat.le_trans h1 HA.out.2.2)) hBl.size HP.out
   subst hu
   have u0 : wr.cell? ⟨b, off + k * 4, none⟩ = some (.int .i64 c.status) := hcb 0 _ rfl
   have u1 : wr.cell? ⟨b, off + k * 4 + 1, none⟩ = some (.int .i64 c.why) := hcb 1 _ rfl
   have u2 : wr.cell? ⟨b, off + k * 4 + 2, none⟩ = some (.slice ap c.path.length aq) := hcb 2 _ rfl
   have u3 : wr.cell? ⟨b, off + k * 4 + 3, none⟩ = some (.slice ep c.lst.length eq) := hcb 3 _ rfl
   have HN : Hid (∀ (w3 : World) (p e : Value), Below wr.heap.size wr w3 -> OwnAw w3 wr.heap.size (awV c p e) c -> ∃ fp, OwnS awKd (w3.setCells w.heap.size (k * 4) [.int .i64 c.status, .int .i64 c.why, p, e]) w.heap.size (.slice (some ⟨w.heap.size, 0, none⟩) len len) (l.take (k + 1) ++ List.replicate (l.length - (k + 1)) zeAw) fp /\ Below w.heap.size w (w3.setCells w.heap.size (k * 4) [.int .i64 c.status, .int .i64 c.why, p, e])) := fun w3 p e hb hop => by
    have h2 := (hO.stays hb).put (j := k) (by rw [fillAw_len (Nat.le_of_lt hkl)]; exact HA.out.2.1.symm) (by rw [fillAw_len (Nat.le_of_lt hkl)]; exact hkl) (hop.base hBl.size) (fun y hy hm => by have h3 := fpAw_lt hop y hy; have h4 := hO.lt y hm; omega)
    obtain ⟨fp', h2, _⟩ := h2
    rw [<- hc, fillAw_set hkl] at h2
    rw [<- hc]
    have e1 : w3.setCells w.heap.size (k * 4) [.int .i64 l[k].status, .int .i64 l[k].why, p, e] = putCells w3 w.heap.size (k * 4) (awV l[k] p e).cells.toList := (putCells_set _ _ _ _).symm
    rw [e1]
    refine ⟨fp', h2, ?_⟩
    exact (hBl.trans (hb.mono hBl.size)).trans ((putCells_out _ _ _ _).below (fun b hb => by rw [List.mem_singleton.1 hb]; exact Nat.le_refl _) (hBl.trans (hb.mono hBl.size)).size)
   have HC : Hid (∀ w3, Below wr.heap.size wr w3 -> w3.there w.heap.size (k * 4) 4) := fun w3 hb => by
    obtain ⟨⟨u, hu, _, hcs⟩, hfz⟩ := (hO.stays hb).cellsAw (j := k) (by rw [fillAw_len (Nat.le_of_lt hkl)]; exact HA.out.2.1.symm) (by rw [fillAw_len (Nat.le_of_lt hkl)]; exact hkl)
    obtain ⟨p, e, rfl, _⟩ := hu
    intro j hj
    refine ⟨?_, hfz _⟩
    have h4 : j < (awV ((l.take k ++ List.replicate (l.length - k) zeAw)[k]'(by rw [fillAw_len (Nat.le_of_lt hkl)]; exact hkl)) p e).cells.size := hj
    rw [hcs j _ (Array.getElem?_eq_getElem h4)]
    rfl
   clear H hO hBl HP hcb hcell hPu hus hbB hc hkl
   have hki : (k : Int) < (len : Int) := by omega
   have hk0 : (0 : Int) <= (k : Int) := by omega
   unfold awV at HR HN
   go_wp2_with fail
   refine HR.mono ?_
   rintro e w3 ⟨v3, rfl, ⟨p3, e3, rfl, ho3, ho4, hap⟩, hb3⟩
   have hth := HC.out w3 hb3
   have HN3 := HN.out w3 p3 e3 hb3 ⟨p3, e3, rfl, ho3, ho4, hap⟩
   obtain ⟨qa, qc, hq3, -⟩ := ho3.at
   obtain ⟨qe, qf, hq4, -⟩ := ho4.at
   subst hq3 hq4
   clear HN HC hb3 u0 u1 u2 u3 HR ho3 ho4 hap
   have HN : Hid _ := HN3
   clear HN3
   unfold awV
   obtain ⟨VV, hVV⟩ : ∃ V, V = w3.setCells w.heap.size (k * 4) #[.int .i64 c.status, .int .i64 c.why, .slice qa c.path.length qc, .slice qe c.lst.length qf].toList := ⟨_, rfl⟩
   have HNV : Hid (∃ fp, OwnS awKd VV w.heap.size (.slice (some ⟨w.heap.size, 0, none⟩) len len) (l.take (k + 1) ++ List.replicate (l.length - (k + 1)) zeAw) fp /\ Below w.heap.size w VV) := by rw [hVV]; exact HN.out
   clear HN
   go_wp2_with (refine step_storeV rfl 45 _ _ rfl w.heap.size (k * 4) #[.int .i64 c.status, .int .i64 c.why, .slice qa c.path.length qc, .slice qe c.lst.length qf] rfl rfl hth (by kernel_rfl) (by simp [Value.oneCell']) hVV ?_; clear hVV hth)
   go_roundw
   case rel => exact ⟨k + 1, by omega, by go_num, HNV.out⟩
   case measure => simp [intOf]; omega
  ·have hkl : k = len := by omega
   subst hkl
   go_wp2
   go_ret
   obtain ⟨fp, hO, hBl⟩ := H.out
   refine ⟨_, fp, rfl, ?_, hBl⟩
   rw [<- HA.out.2.1, List.take_length, Nat.sub_self, List.replicate_zero, List.append_nil] at hO
   rw [<- HA.out.2.1]
   exact hO
theorem szAnswerS_any (v : Value) (l : List Aw) (left : Int) (w : World) (hm : l.length <= 9223372036854775807) (hwd : ∀ c ∈ l, WdAw c) (h0 : 0 <= left) (hl : left <= 1048576) (ha : ArgAS w.heap.size w v l) :
  Calls Tryz.prog 11 #[v, .int .i64 left] w fun e w' => e = .returned (.int .i64 (if (wtAS l : Int) <= left then left - (wtAS l : Int) else -1)) /\ Below w.heap.size w w' := by
 obtain ⟨a0, cap, hv⟩ := ha.shape
 obtain ⟨len, hlen⟩ := zE (l.length)
 rw [hlen] at hv hm
 subst hv
 obtain ⟨R, hR⟩ : ∃ r : Int, (if (wtAS l : Int) <= left then left - (wtAS l : Int) else -1) = r := ⟨_, rfl⟩
 rw [hR]
 have HA : Hid (ArgAS w.heap.size w (.slice a0 len cap) l /\ l.length = len /\ (∀ c ∈ l, WdAw c) /\ (if (wtAS l : Int) <= left then left - (wtAS l : Int) else -1) = R) := ⟨ha, hlen, hwd, hR⟩
 clear ha hlen hwd hR
 have w1 : IntKind.i64.wrap (left - (len : Int)) = left - (len : Int) := by rw [IntKind.wrap_i64]; omega
 by_cases hneg : left - (len : Int) < 0
 ·have HRR : Hid (R = -1) := by
   show R = -1
   rw [<- HA.out.2.2.2, if_neg]
   have h1 := HA.out.2.1
   unfold wtAS
   omega
  go_enter Tryz.func11, Tryz.ntmps11
  go_wp2
  go_ret
  exact ⟨by rw [HRR.out]; rfl, Below.refl _ _⟩
 ·have hll : len <= 1048576 := by omega
  go_enter Tryz.func11, Tryz.ntmps11
  go_wp2_with fail
  go_loopw [1, 5] (fun lv iv wr => ∃ k : Nat, ∃ z : Int, k <= len /\ iv = .int .i64 k /\ lv = .int .i64 z /\ 0 <= z /\ z <= 1048576 /\ Hid (z = left - (len : Int) - ((((l.map wtAw).take k).sum : Nat) : Int) /\ Below w.heap.size w wr)) (fun _ iv _ => len - (intOf iv).toNat)
  case atStart => exact ⟨0, _, Nat.zero_le _, rfl, rfl, by omega, by omega, by simp, Below.refl _ _⟩
  case round =>
   obtain ⟨k, z, hk, rfl, rfl, hz0, hz1, H⟩ := hrel
   by_cases hkn : k < len
   ·have hkl : k < l.length := by rw [HA.out.2.1]; exact hkn
    obtain ⟨b, off, u, hao, hbB, hPu, hus, hcell⟩ := HA.out.1.get hkl
    obtain ⟨ap, aq, ep, eq, hu⟩ := hPu.shape
    subst hao
    have hBl := H.out.2
    have hcb := fun i x (hx : u.cells[i]? = some x) => (hBl.cell (p := ⟨b, off + k * 4 + i, none⟩) hbB).trans (hcell i x hx)
    obtain ⟨c, hc⟩ := zE (l[k])
    have HP : ArgAw wr.heap.size wr u c := by rw [<- hc]; exact (hPu.below hBl).mono hBl.size
    rw [hc] at hu
    have HR := szAnswer_any c u z wr (by rw [<- hc]; exact HA.out.2.2.1 _ (List.getElem_mem hkl)) hz0 hz1 HP
    subst hu
    have u0 : wr.cell? ⟨b, off + k * 4, none⟩ = some (.int .i64 c.status) := hcb 0 _ rfl
    have u1 : wr.cell? ⟨b, off + k * 4 + 1, none⟩ = some (.int .i64 c.why) := hcb 1 _ rfl
    have u2 : wr.cell? ⟨b, off + k * 4 + 2, none⟩ = some (.slice ap c.path.length aq) := hcb 2 _ rfl
    have u3 : wr.cell? ⟨b, off + k * 4 + 3, none⟩ = some (.slice ep c.lst.length eq) := hcb 3 _ rfl
    have HS : Hid ((((l.map wtAw).take (k + 1)).sum = ((l.map wtAw).take k).sum + wtAw c) /\ ((l.map wtAw).take (k + 1)).sum <= (l.map wtAw).sum /\ wtAS l = len + (l.map wtAw).sum) := by
     refine ⟨?_, sumM_take_le _ _, by unfold wtAS; rw [HA.out.2.1]⟩
     rw [sumM_take (by rw [List.length_map]; exact hkl), List.getElem_map, hc]
    have hki : (k : Int) < (len : Int) := by omega
    have hk0 : (0 : Int) <= (k : Int) := by omega
    clear hcb hcell hPu hus hbB hc hkl HP hBl
    obtain ⟨zz, hzz⟩ := zE (szAw c z)
    rw [hzz] at HR
    unfold awV at HR
    by_cases hfit : (wtAw c : Int) <= z
    ·have hzv : zz = z - (wtAw c : Int) := by rw [<- hzz]; unfold szAw; rw [if_pos hfit]
     have hz0' : ¬ zz < 0 := by omega
     have HZ : Hid (zz = left - (len : Int) - ((((l.map wtAw).take (k + 1)).sum : Nat) : Int) /\ 0 <= zz /\ zz <= 1048576) := ⟨by rw [HS.out.1, hzv, H.out.1]; omega, by omega, by omega⟩
     clear hzz hzv HS hfit
     go_wp2_with fail
     refine HR.mono ?_
     rintro e w3 ⟨rfl, hb3⟩
     clear u0 u1 u2 u3 HR
     have HB3 : Hid (Below w.heap.size w w3) := H.out.2.trans (hb3.mono H.out.2.size)
     clear H hb3
     go_wp2_with fail
     go_roundw
     case rel => exact ⟨k + 1, zz, by omega, by go_num, rfl, HZ.out.2.1, HZ.out.2.2, HZ.out.1, HB3.out⟩
     case measure => simp [intOf]; omega
    ·have hzv : zz = -1 := by rw [<- hzz]; unfold szAw; rw [if_neg hfit]
     subst hzv
     have HRR : Hid (R = -1) := by
      show R = -1
      rw [<- HA.out.2.2.2, if_neg]
      have h1 := HS.out
      have h2 := H.out.1
      omega
     clear HS hfit hzz
     go_wp2_with fail
     refine HR.mono ?_
     rintro e w3 ⟨rfl, hb3⟩
     clear u0 u1 u2 u3 HR
     have HB3 : Hid (Below w.heap.size w w3) := H.out.2.trans (hb3.mono H.out.2.size)
     clear H hb3
     go_wp2
     go_ret
     exact ⟨by rw [HRR.out]; rfl, HB3.out⟩
   ·have hkl : k = len := by omega
    subst hkl
    have HRR : Hid (R = z) := by
     show R = z
     have h1 := H.out.1
     rw [List.take_of_length_le (by rw [List.length_map, HA.out.2.1]; exact Nat.le_refl _)] at h1
     have h2 := HA.out.2.1
     rw [<- HA.out.2.2.2, if_pos (by unfold wtAS; omega)]
     unfold wtAS
     omega
    go_wp2
    go_ret
    exact ⟨by rw [HRR.out]; rfl, H.out.2⟩
end Go.Proofs.YtlbjhibolcgnoaaGreatDoor
