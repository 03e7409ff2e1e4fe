/-
  Texts of the proof.
-/
import Derived.Deep.RegionHeld3
import Derived.Test.YtagmnlmfoanelaaGreatSK13
set_option maxRecDepth 100000
set_option maxHeartbeats 25600000
namespace Go.Proofs.YtagmnlmfoanelaaGreat
open Go.RowKit
set_option linter.unusedVariables false
section
variable {α : Type} (mk : Nat -> α -> α) (sz : α -> Nat)
def mkG : Nat -> List α -> List α
 | _, [] => []
 | k, c :: l => mk k c :: mkG (k + sz c) l
def posG (k : Nat) (l : List α) (j : Nat) : Nat := k + ((l.map sz).take j).sum
theorem mkG_len : ∀ (k : Nat) (l : List α), (mkG mk sz k l).length = l.length
 | _, [] => rfl
 | k, c :: l => by simp [mkG, mkG_len]
theorem mkG_get : ∀ (l : List α) (k j : Nat) (h : j < l.length) (h' : j < (mkG mk sz k l).length), (mkG mk sz k l)[j] = mk (posG sz k l j) l[j]
 | c :: l, k, 0, h, h' => by simp [mkG, posG]
 | c :: l, k, j + 1, h, h' => by
  have := mkG_get l (k + sz c) j (by simpa using h) (by rw [mkG_len]; simpa using h)
  simp only [mkG, List.getElem_cons_succ, this]
  congr 1
  simp [posG]
  omega
theorem posG_next {k : Nat} {l : List α} {j : Nat} (h : j < l.length) : posG sz k l (j + 1) = posG sz k l j + sz l[j] := by
 unfold posG
 rw [sum_take (by rw [List.length_map]; exact h), List.getElem_map]
 omega
theorem posG_le (k : Nat) (l : List α) (j : Nat) : posG sz k l j <= k + (l.map sz).sum := by
 have h1 := sum_take_le (l.map sz) j
 unfold posG
 omega
theorem markG_set {k : Nat} {l : List α} {j : Nat} (h : j < l.length) : ((mkG mk sz k l).take j ++ l.drop j).set j (mk (posG sz k l j) l[j]) = (mkG mk sz k l).take (j + 1) ++ l.drop (j + 1) := by
 have hm : j < (mkG mk sz k l).length := by rw [mkG_len]; exact h
 have e : ((mkG mk sz k l).take j).length = j := by rw [List.length_take]; omega
 rw [List.set_append_right _ _ (by omega), e, Nat.sub_self, List.drop_eq_getElem_cons h, List.set_cons_zero, List.take_succ_eq_append_getElem hm, mkG_get mk sz l k j h hm, List.append_assoc]
 rfl
theorem markG_len {k : Nat} {l : List α} {j : Nat} (h : j <= l.length) : ((mkG mk sz k l).take j ++ l.drop j).length = l.length := by
 rw [List.length_append, List.length_take, List.length_drop, mkG_len]
 omega
theorem markG_get {k : Nat} {l : List α} {j : Nat} (h : j < l.length) (h' : j < ((mkG mk sz k l).take j ++ l.drop j).length) : ((mkG mk sz k l).take j ++ l.drop j)[j] = l[j] := by
 have e : ((mkG mk sz k l).take j).length = j := by rw [List.length_take, mkG_len]; omega
 rw [List.getElem_append_right (by omega)]
 simp [e]
theorem markG_all {k : Nat} {l : List α} {j : Nat} (h : l.length <= j) : (mkG mk sz k l).take j ++ l.drop j = mkG mk sz k l := by
 rw [List.drop_eq_nil_of_le h, List.append_nil, List.take_of_length_le (by rw [mkG_len]; exact h)]
end
theorem set_selfG {l : List Value} {i : Nat} {a : Value} (h : l[i]? = some a) : l.set i a = l := by
 apply List.ext_getElem?
 intro j
 rw [List.getElem?_set]
 split
 ·next e =>
  subst e
  rw [h]
  split
  ·rfl
  ·next hn => rw [List.getElem?_eq_none (by omega)] at h; cases h
 ·rfl
theorem OwnS.turnK {α : Type} (k : Kd α) {w W : World} {base g n cap : Nat} {l : List α} {vs : List Value} {c' : α} {j : Nat} (hj : j < l.length) (hl : vs.length = l.length) (he : ∀ i (h1 : i < vs.length) (h2 : i < l.length), k.Own w base vs[i] l[i]) (hn : ((Value.slice (some ⟨g, 0, none⟩) n cap).ownBlock.toList ++ vs.flatMap k.fp).Nodup) {u : Value} (hfp : k.fp u = k.fp (vs[j]'(by omega)))
  (hr : W.ownsRow base k.T k.K (.slice (some ⟨g, 0, none⟩) n cap) l.length (cellsV (vs.set j u))) (hu : k.Own W base u c') (ho : Out (g :: k.fp (vs[j]'(by omega))) w W) : OwnS k W base (.slice (some ⟨g, 0, none⟩) n cap) (l.set j c') ((Value.slice (some ⟨g, 0, none⟩) n cap).ownBlock.toList ++ vs.flatMap k.fp) := by
 have hjv : j < vs.length := by omega
 have e1 : vs = vs.take j ++ vs[j] :: vs.drop (j + 1) := by rw [List.getElem_cons_drop, List.take_append_drop]
 have e2 : vs.set j u = vs.take j ++ u :: vs.drop (j + 1) := List.set_eq_take_append_cons_drop.trans (by rw [if_pos hjv])
 have e3 : (vs.set j u).flatMap k.fp = vs.flatMap k.fp := by
  rw [e2, List.flatMap_append, List.flatMap_cons, hfp, <- List.flatMap_cons, <- List.flatMap_append, <- e1]
 refine ⟨vs.set j u, by simp [hl], by rw [List.length_set]; exact hr, fun i h1 h2 => ?_, ?_, hn⟩
 ·rw [List.getElem_set, List.getElem_set]
  by_cases e : j = i
  ·rw [if_pos e, if_pos e]
   exact hu
  ·rw [if_neg e, if_neg e]
   have h3 : i < vs.length := by simpa using h1
   refine k.same (he i h3 (by omega)) fun b hb => ho.2.2.2.2 b (k.lt (he i h3 (by omega)) b hb).2 fun hm => ?_
   have hq := List.nodup_append.1 hn
   rcases List.mem_cons.1 hm with rfl | hm
   ·exact hq.2.2 b (by simp [Value.ownBlock]) b (mem_flat h3 hb) rfl
   ·have hA : (vs.take j).flatMap k.fp ++ (k.fp vs[j] ++ (vs.drop (j + 1)).flatMap k.fp) = vs.flatMap k.fp := by
     rw [<- List.flatMap_cons, <- List.flatMap_append, <- e1]
    have hnf := hq.2.1
    rw [<- hA] at hnf
    have q1 := List.nodup_append.1 hnf
    have q2 := List.nodup_append.1 q1.2.1
    rcases Nat.lt_or_ge i j with hij | hij
    ·refine q1.2.2 b (List.mem_flatMap.2 ⟨vs[i], ?_, hb⟩) b (List.mem_append_left _ hm) rfl
     rw [List.mem_take_iff_getElem]
     exact ⟨i, by omega, rfl⟩
    ·refine q2.2.2 b hm b (List.mem_flatMap.2 ⟨vs[i], ?_, hb⟩) rfl
     rw [List.mem_drop_iff_getElem]
     exact ⟨i - (j + 1), by omega, by congr 1; omega⟩
 ·show _ = _ ++ (vs.set j u).flatMap k.fp
  rw [e3]
end Go.Proofs.YtagmnlmfoanelaaGreat
namespace Go.Proofs.YtagmnlmfoanelaaGreat
open Go.RowKit
set_option linter.unusedVariables false
set_option linter.unusedSimpArgs false
def mkWa (k : Nat) (_ : Wa) : Wa := ⟨(k : Int), (k : Int) + 1, ⟨(mt (k + 2)).toArray⟩, (k : Int) + 1 + 1 + 1⟩
def szMWa (_ : Wa) : Nat := 4
theorem sum_szMWa : ∀ l : List Wa, (l.map szMWa).sum = 4 * l.length
 | [] => rfl
 | c :: l => by
  have := sum_szMWa l
  simp only [List.map_cons, List.sum_cons, List.length_cons, szMWa] at this |-
  omega
def MkWa (w0 W : World) (base g n cap : Nat) (fq : List Nat) (X : List Value) : Prop :=
 W.ownsRow base 57 4 (.slice (some ⟨g, 0, none⟩) n cap) n X /\ Out fq w0 W /\ g ∈ fq
section
variable {w0 W W' : World} {base g n cap : Nat} {fq : List Nat} {X : List Value}
theorem MkWa.below (h : MkWa w0 W base g n cap fq X) (hb : Below W.heap.size W W') : MkWa w0 W' base g n cap fq X := ⟨own_kept h.1 hb, h.2.1.trans (Out.of_below hb), h.2.2⟩
theorem MkWa.put (h : MkWa w0 W base g n cap fq X) (i : Nat) (x : Value) : MkWa w0 (W.setCell ⟨g, i, none⟩ x) base g n cap fq (X.set i x) := ⟨(h.1.stored i x).1, h.2.1.setCell _ _ h.2.2, h.2.2⟩
theorem MkWa.cell (h : MkWa w0 W base g n cap fq X) {i : Nat} (hi : i < n * 4) : ∃ x, W.cell? ⟨g, i, none⟩ = some x := by
 rw [World.ownsRow.cellAt h.1 i hi]
 exact ⟨X[i]'(by rw [h.1.1]; exact hi), List.getElem?_eq_getElem _⟩
theorem MkWa.free (h : MkWa w0 W base g n cap fq X) (i : Nat) : W.frozen? ⟨g, i, none⟩ = false := World.ownsRow.frozenAt h.1 i
end
theorem markWaitS_out (l : List Wa) (v : Value) (k base : Nat) (fp : List Nat) (w : World) (hl : l.length <= 1048577) (hk1 : 1 <= k) (hk : k <= 100000000) (ha : OwnS waKd w base v l fp) :
  Calls Tryz.prog 34 #[v, .int .i64 k] w fun e w' => e = .returned (.int .i64 ((posG szMWa k l l.length : Nat) : Int)) /\ OwnS waKd w' base v (mkG mkWa szMWa k l) fp /\ Out fp w w' := by
 obtain ⟨ao, cap, hv, hg, -, -⟩ := ha.shape
 obtain ⟨n, hn⟩ := zE (l.length)
 rw [hn] at hv hg
 subst hv
 obtain ⟨KK, hKK⟩ : ∃ q : Nat, posG szMWa k l l.length = q := ⟨_, rfl⟩
 rw [hKK]
 have HA : Hid (OwnS waKd w base (.slice ao n cap) l fp /\ l.length = n /\ (0 < n -> ∃ g, ao = some ⟨g, 0, none⟩) /\ posG szMWa k l l.length = KK) := ⟨ha, hn, hg, hKK⟩
 have hn20 : n <= 1048577 := by omega
 clear ha hn hl hg hKK
 go_enter Tryz.func34, Tryz.ntmps34
 go_wp2_with fail
 go_loopw [1, 5] (fun kv iv wr => ∃ j q : Nat, j <= n /\ iv = .int .i64 j /\ kv = .int .i64 q /\ (1 <= q /\ q <= 200000000) /\ Hid (q = posG szMWa k l j /\ OwnS waKd wr base (.slice ao n cap) ((mkG mkWa szMWa k l).take j ++ l.drop j) fp /\ Out fp w wr)) (fun _ iv _ => n - (intOf iv).toNat)
 case atStart => exact ⟨0, k, Nat.zero_le _, rfl, rfl, ⟨hk1, by omega⟩, by simp [posG], by simpa using HA.out.1, Out.refl _ _⟩
 case round =>
  obtain ⟨j, q, hj, rfl, rfl, ⟨hq1, hq2⟩, H⟩ := hrel
  by_cases hjn : j < n
  ·have hjl : j < l.length := by rw [HA.out.2.1]; exact hjn
   obtain ⟨g, hg⟩ := HA.out.2.2.1 (by omega)
   subst hg
   obtain ⟨vs, hvl, hr, he, hfp, hnd⟩ := H.out.2.1
   have hml := markG_len mkWa szMWa (k := k) (Nat.le_of_lt hjl)
   have hjv : j < vs.length := by rw [hvl, hml]; exact hjl
   obtain ⟨X, hX⟩ := zE (cellsV vs)
   have HM : Hid (MkWa wr wr base g n cap [g] X) := ⟨by rw [<- hX]; rw [hml, HA.out.2.1] at hr; exact hr, Out.refl _ _, List.mem_cons_self ..⟩
   have HE : Hid (∀ (W : World), MkWa wr W base g n cap [g] ((((X.set (j * 4) (.int .i64 ((q : Int)))).set (j * 4 + 1) (.int .i64 ((q : Int) + 1))).set (j * 4 + 2) (.string ⟨(mt (q + 2)).toArray⟩)).set (j * 4 + 3) (.int .i64 ((q : Int) + 1 + 1 + 1))) -> (q = posG szMWa k l j -> OwnS waKd W base (.slice (some ⟨g, 0, none⟩) n cap) ((mkG mkWa szMWa k l).take (j + 1) ++ l.drop (j + 1)) fp /\ Out fp w W)) := fun W hM hq => by
    have hset : cellsV (vs.set j (waV (mkWa q l[j]))) = ((((X.set (j * 4) (.int .i64 ((q : Int)))).set (j * 4 + 1) (.int .i64 ((q : Int) + 1))).set (j * 4 + 2) (.string ⟨(mt (q + 2)).toArray⟩)).set (j * 4 + 3) (.int .i64 ((q : Int) + 1 + 1 + 1))) := by
     rw [<- setMany_cells (K := 4) (OwnS.sizes (k := waKd) hvl he) j _ hjv rfl, hX]
     rfl
    have hT := OwnS.turnK waKd (c' := mkWa q l[j]) (cap := cap) (n := n) (j := j) (l := (mkG mkWa szMWa k l).take j ++ l.drop j) (by omega) hvl he (hfp ▸ hnd) (u := waV (mkWa q l[j])) rfl (by rw [hset, hml, HA.out.2.1]; exact hM.1) rfl hM.2.1
    refine ⟨?_, ?_⟩
    ·rw [hfp, <- markG_set mkWa szMWa hjl, <- hq]
     exact hT
    ·refine H.out.2.2.trans (hM.2.1.mono fun b hb => ?_)
     rw [hfp]
     exact List.mem_append_left _ (by rw [List.mem_singleton.1 hb]; simp [Value.ownBlock])
   have HQ := zH (zJ H.out.1 (by rw [posG_next szMWa hjl, <- H.out.1]; rfl : posG szMWa k l (j + 1) = q + 4))
   have hqb : q + 4 <= 120000000 := by
    have h1 := posG_le szMWa k l (j + 1)
    have h2 := sum_szMWa l
    have h3 := HQ.out.2
    have h4 := HA.out.2.1
    omega
   clear H hr he hfp hnd hvl hX hml hjv
   have hki : (j : Int) < (n : Int) := by omega
   have hk0 : (0 : Int) <= (j : Int) := by omega
   go_upto_region 4 with fail
   obtain ⟨y0, c0⟩ := HM.out.cell (i := j * 4) (by omega)
   have fz := fun i => HM.out.free i
   go_upto_region 6 with fail
   clear c0 fz
   obtain ⟨V0, hV⟩ : ∃ V, V = wr.setCell ⟨g, j * 4, none⟩ (.int .i64 ((q : Int))) := ⟨_, rfl⟩
   rw [<- hV]
   have HP0 : Hid (MkWa wr V0 base g n cap [g] (X.set (j * 4) (.int .i64 ((q : Int))))) := by rw [hV]; exact HM.out.put _ _
   clear hV HM
   obtain ⟨y1, c1⟩ := HP0.out.cell (i := j * 4 + 1) (by omega)
   have fz := fun i => HP0.out.free i
   go_upto_region 8 with fail
   clear c1 fz
   obtain ⟨V1, hV⟩ : ∃ V, V = V0.setCell ⟨g, j * 4 + 1, none⟩ (.int .i64 ((q : Int) + 1)) := ⟨_, rfl⟩
   rw [<- hV]
   have HP1 : Hid (MkWa wr V1 base g n cap [g] ((X.set (j * 4) (.int .i64 ((q : Int)))).set (j * 4 + 1) (.int .i64 ((q : Int) + 1)))) := by rw [hV]; exact HP0.out.put _ _
   clear hV HP0
   have E1 := markText_str (q + 2) V1 (by omega) (by omega)
   rw [show (((q + 2 : Nat)) : Int) = (q : Int) + 1 + 1 from by omega] at E1
   go_wp2_with fail
   refine E1.mono ?_
   rintro e v2 ⟨rfl, hb1⟩
   have HN2 : Hid (MkWa wr v2 base g n cap [g] ((X.set (j * 4) (.int .i64 ((q : Int)))).set (j * 4 + 1) (.int .i64 ((q : Int) + 1)))) := HP1.out.below hb1
   clear HP1 E1 hb1
   obtain ⟨y2, c2⟩ := HN2.out.cell (i := j * 4 + 2) (by omega)
   have fz := fun i => HN2.out.free i
   go_upto_region 10 with fail
   clear c2 fz
   obtain ⟨V2, hV⟩ : ∃ V, V = v2.setCell ⟨g, j * 4 + 2, none⟩ (.string ⟨(mt (q + 2)).toArray⟩) := ⟨_, rfl⟩
   rw [<- hV]
   have HP2 : Hid (MkWa wr V2 base g n cap [g] (((X.set (j * 4) (.int .i64 ((q : Int)))).set (j * 4 + 1) (.int .i64 ((q : Int) + 1))).set (j * 4 + 2) (.string ⟨(mt (q + 2)).toArray⟩))) := by rw [hV]; exact HN2.out.put _ _
   clear hV HN2
   obtain ⟨y3, c3⟩ := HP2.out.cell (i := j * 4 + 3) (by omega)
   have fz := fun i => HP2.out.free i
   go_wp2_with fail
   go_roundw
   case rel => exact ⟨j + 1, q + 4, by omega, by go_num, by go_num, ⟨by omega, by omega⟩, HQ.out.2.symm, HE.out _ (HP2.out.put _ _) HQ.out.1⟩
   case measure => simp [intOf]; omega
  ·have hjl : n = j := by omega
   subst hjl
   have HE : Hid (q = KK /\ (mkG mkWa szMWa k l).take n ++ l.drop n = mkG mkWa szMWa k l) := by
    have h1 := HA.out.2.1
    refine ⟨?_, markG_all mkWa szMWa (by omega)⟩
    rw [<- HA.out.2.2.2, h1]; exact H.out.1
   go_wp2
   go_ret
   refine ⟨by rw [HE.out.1]; rfl, ?_, H.out.2.2⟩
   have h := H.out.2.1
   rw [HE.out.2] at h
   exact h
theorem heldWaitS_same (l : List Wa) (v : Value) (k : Nat) (w : World) (hl : l.length <= 1048577) (hk1 : 1 <= k) (hk : k <= 100000000) (ha : AtS waKd w v (mkG mkWa szMWa k l)) :
  Calls Tryz.prog 38 #[v, .int .i64 k] w fun e w' => e = .returned (.int .i64 ((posG szMWa k l l.length : Nat) : Int)) /\ Below w.heap.size w w' := by
 obtain ⟨ao, cap, hv⟩ := ha.shape
 obtain ⟨n, hn⟩ := zE (l.length)
 rw [mkG_len, hn] at hv
 subst hv
 obtain ⟨KK, hKK⟩ : ∃ q : Nat, posG szMWa k l l.length = q := ⟨_, rfl⟩
 rw [hKK]
 have HA : Hid (AtS waKd w (.slice ao n cap) (mkG mkWa szMWa k l) /\ l.length = n /\ posG szMWa k l l.length = KK) := ⟨ha, hn, hKK⟩
 have hn20 : n <= 1048577 := by omega
 clear ha hn hl hKK
 go_enter Tryz.func38, Tryz.ntmps38
 go_wp2_with fail
 go_loopw [1, 5] (fun kv iv wr => ∃ j q : Nat, j <= n /\ iv = .int .i64 j /\ kv = .int .i64 q /\ (1 <= q /\ q <= 200000000) /\ Hid (q = posG szMWa k l j /\ Below w.heap.size w wr)) (fun _ iv _ => n - (intOf iv).toNat)
 case atStart => exact ⟨0, k, Nat.zero_le _, rfl, rfl, ⟨hk1, by omega⟩, by simp [posG], Below.refl _ _⟩
 case round =>
  obtain ⟨j, q, hj, rfl, rfl, ⟨hq1, hq2⟩, H⟩ := hrel
  by_cases hjn : j < n
  ·have hjl : j < l.length := by rw [HA.out.2.1]; exact hjn
   have hjm : j < (mkG mkWa szMWa k l).length := by rw [mkG_len]; exact hjl
   obtain ⟨g, off, u, hao, hgB, hPu, hus, hcell⟩ := HA.out.1.get hjm
   rw [mkG_get mkWa szMWa l k j hjl hjm, <- H.out.1] at hPu
   have hup : u = waV (mkWa q l[j]) := hPu
   subst hao
   have HC : Hid (∀ (W : World), Below w.heap.size w W -> ∀ i x, (Value.agg #[.int .i64 ((q : Int)), .int .i64 ((q : Int) + 1), .string ⟨(mt (q + 2)).toArray⟩, .int .i64 ((q : Int) + 1 + 1 + 1)]).cells[i]? = some x -> W.cell? ⟨g, off + j * 4 + i, none⟩ = some x) := fun W hb i x hx => by
    refine (hb.cell (p := ⟨g, off + j * 4 + i, none⟩) hgB).trans (hcell i x ?_)
    rw [hup]
    exact hx
   have HQ : Hid (posG szMWa k l (j + 1) = q + 4) := by show _ = _; rw [posG_next szMWa hjl, <- H.out.1]; rfl
   have hqb : q + 4 <= 120000000 := by
    have h1 := posG_le szMWa k l (j + 1)
    have h2 := sum_szMWa l
    have h3 := HQ.out
    have h4 := HA.out.2.1
    omega
   have HB : Hid (Below w.heap.size w wr) := H.out.2
   clear H hus hcell hup hgB hjm hPu
   have hki : (j : Int) < (n : Int) := by omega
   have hk0 : (0 : Int) <= (j : Int) := by omega
   have e0 : wr.cell? ⟨g, off + j * 4, none⟩ = some (.int .i64 ((q : Int))) := HC.out wr HB.out 0 _ rfl
   go_upto_region 7 with fail
   clear e0
   have e1 : wr.cell? ⟨g, off + j * 4 + 1, none⟩ = some (.int .i64 ((q : Int) + 1)) := HC.out wr HB.out 1 _ rfl
   go_upto_region 10 with fail
   clear e1
   go_upto_region 10 with fail
   have hDr : Below wr.heap.size wr wr.drew := (Below.refl _ _).drew
   refine wp_region_held_drew (S := fun W => Below wr.heap.size wr W) (by kernel_rfl) hDr (fun hHeld => ?_)
   clear hDr
   generalize wr.drew = wd at hHeld |-
   refine zT 0 30 ?_ rfl (by rfl) ?_ hHeld ?_
   rotate_left
   ·intro W hSw
    go_simp
    try with_reducible rfl
   try simp only [Act.put, zA, zB, zC]
   refine zT 1 31 ?_ rfl (by rfl) ?_ hHeld ?_
   rotate_left
   ·intro W hSw
    go_simp
    try with_reducible rfl
   try simp only [Act.put, zA, zB, zC]
   refine zT 2 32 ?_ rfl (by rfl) ?_ hHeld ?_
   rotate_left
   ·intro W hSw
    go_simp
    try with_reducible rfl
   try simp only [Act.put, zA, zB, zC]
   refine zT 3 33 ?_ rfl (by rfl) ?_ hHeld ?_
   rotate_left
   ·intro W hSw
    go_simp
    try with_reducible rfl
   try simp only [Act.put, zA, zB, zC]
   refine zT 4 34 ?_ rfl (by rfl) ?_ hHeld ?_
   rotate_left
   ·intro W hSw
    have e0 : W.cell? ⟨g, off + j * 4 + 2, none⟩ = some (.string ⟨(mt (q + 2)).toArray⟩) := HC.out W (HB.out.trans (hSw.mono HB.out.size)) 2 _ rfl
    go_simp
    try with_reducible rfl
   try simp only [Act.put, zA, zB, zC]
   refine zT 5 35 ?_ rfl (by rfl) ?_ hHeld ?_
   rotate_left
   ·intro W hSw
    go_simp
    try with_reducible rfl
   try simp only [Act.put, zA, zB, zC]
   refine wpAnyH_ready (rs := [6]) (by kernel_rfl) (by simp) ?_
   refine AllReadyH.cons (o := ⟨some 36, _, _, _, _, _⟩) rfl (fun K hK => ?_) AllReadyH.nil
   have E1 := markText_str (q + 2) wd (by omega) (by omega)
   rw [show (((q + 2 : Nat)) : Int) = (q : Int) + 1 + 1 from by omega] at E1
   go_simp
   refine E1.mono ?_
   rintro e v2 ⟨rfl, hb3⟩
   have hS3 : Below wr.heap.size wr v2 := hHeld.trans (hb3.mono hHeld.size)
   clear hb3 E1
   refine hK.out _ _ hS3 (fun hHeld => ?_)
   clear hK K hS3
   try simp only [Act.put, zA, zB, zC]
   refine zT 7 37 ?_ rfl (by rfl) ?_ hHeld ?_
   rotate_left
   ·intro W hSw
    go_simp
    try with_reducible rfl
   try simp only [Act.put, zA, zB, zC]
   refine wpAnyH_done (by kernel_rfl) ?_ _
   have HBn : Hid (Below w.heap.size w v2) := HB.out.trans (hHeld.mono HB.out.size)
   clear HB hHeld
   have HB := HBn
   clear HBn
   have e3 : v2.cell? ⟨g, off + j * 4 + 3, none⟩ = some (.int .i64 ((q : Int) + 1 + 1 + 1)) := HC.out v2 HB.out 3 _ rfl
   go_upto_region 3 with fail
   clear e3
   go_wp2_with fail
   go_roundw
   case rel => exact ⟨j + 1, q + 4, by omega, by go_num, by go_num, ⟨by omega, by omega⟩, HQ.out.symm, HB.out⟩
   case measure => simp [intOf]; omega
  ·have hjl : n = j := by omega
   subst hjl
   have HE : Hid (q = KK) := by
    show q = KK
    rw [<- HA.out.2.2, HA.out.2.1]
    exact H.out.1
   go_wp2
   go_ret
   exact ⟨by rw [HE.out]; rfl, H.out.2⟩
theorem OwnX.turnX {α : Type} (k : Kx α) {w W : World} {base g n cap : Nat} {l : List α} {vs : List Value} {fs : List (List Nat)} {c' : α} {j : Nat} (hj : j < l.length) (hl : vs.length = l.length) (hf : fs.length = l.length) (he : ∀ i (h1 : i < vs.length) (h2 : i < l.length) (h3 : i < fs.length), k.Own w base vs[i] l[i] fs[i]) (hn : ((Value.slice (some ⟨g, 0, none⟩) n cap).ownBlock.toList ++ fs.flatten).Nodup) {u : Value}
  (hr : W.ownsRow base k.T k.K (.slice (some ⟨g, 0, none⟩) n cap) l.length (cellsV (vs.set j u))) (hu : k.Own W base u c' (fs[j]'(by omega))) (ho : Out (g :: fs[j]'(by omega)) w W) : OwnX k W base (.slice (some ⟨g, 0, none⟩) n cap) (l.set j c') ((Value.slice (some ⟨g, 0, none⟩) n cap).ownBlock.toList ++ fs.flatten) := by
 refine ⟨vs.set j u, fs, by simp [hl], by simp [hf], by rw [List.length_set]; exact hr, fun i h1 h2 h3 => ?_, rfl, hn⟩
 rw [List.getElem_set, List.getElem_set]
 by_cases e : j = i
 ·subst e
  rw [if_pos rfl, if_pos rfl]
  exact hu
 ·rw [if_neg e, if_neg e]
  have h4 : i < vs.length := by simpa using h1
  refine k.same (he i h4 (by omega) h3) fun b hb => ho.2.2.2.2 b (k.lt (he i h4 (by omega) h3) b hb).2 fun hm => ?_
  have hq := List.nodup_append.1 hn
  rcases List.mem_cons.1 hm with rfl | hm
  ·exact hq.2.2 b (by simp [Value.ownBlock]) b (List.mem_flatten.2 ⟨_, List.getElem_mem h3, hb⟩) rfl
  ·have hp := (List.pairwise_iff_getElem.1 (List.pairwise_flatten.1 hq.2.1).2)
   rcases Nat.lt_or_ge i j with hij | hij
   ·exact hp i j h3 (by omega) hij b hb b hm rfl
   ·exact hp j i (by omega) h3 (by omega) b hm b hb rfl
end Go.Proofs.YtagmnlmfoanelaaGreat
