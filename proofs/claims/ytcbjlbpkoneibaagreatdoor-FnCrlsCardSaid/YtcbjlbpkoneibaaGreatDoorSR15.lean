/-
  Texts of the proof.
-/
import Derived.Deep.RegionHeld3
import Derived.Deep.AppendSrc
import Derived.Test.YtcbjlbpkoneibaaGreatDoorSR12
set_option linter.unusedVariables false
set_option linter.unusedSimpArgs false
set_option maxRecDepth 100000
set_option maxHeartbeats 25600000
namespace Go.Proofs.YtcbjlbpkoneibaaGreatDoor
open Go.RowKit Der
def KG (w W : World) (t s k : Value) : Prop := zW w W /\ Blk3 W w.heap.size t s k /\ ∃ x y z, Blk3 W (w.heap.size + 1) x y z
theorem KG.below {w W W' : World} {t s k : Value} (h : KG w W t s k) (hb : zW W W') : KG w W' t s k := by
 obtain ⟨h1, h2, x, y, z, h3⟩ := h;exact ⟨h1.trans (hb.mono h1.size), h2.below hb, x, y, z, h3.below hb⟩
theorem KG.set {w W : World} {t s k : Value} (h : KG w W t s k) (p q r : Value) : KG w (((W.setCell ⟨w.heap.size + 1, 0, none⟩ p).setCell ⟨w.heap.size + 1, 1, none⟩ q).setCell ⟨w.heap.size + 1, 2, none⟩ r) t s k := by
 obtain ⟨h1, h2, x, y, z, h3⟩ := h;refine ⟨((h1.setCell (p := ⟨w.heap.size + 1, 0, none⟩) (Nat.le_succ _) _).setCell (p := ⟨w.heap.size + 1, 1, none⟩) (Nat.le_succ _) _).setCell (p := ⟨w.heap.size + 1, 2, none⟩) (Nat.le_succ _) _, ?_, p, q, r, ?_⟩
 ·have ne : w.heap.size ≠ w.heap.size + 1 := by omega
  exact ((h2.other (p := ⟨w.heap.size + 1, 0, none⟩) ne _).other (p := ⟨w.heap.size + 1, 1, none⟩) ne _).other (p := ⟨w.heap.size + 1, 2, none⟩) ne _
 ·have e := (((show Blk W (w.heap.size + 1) 50 #[x, y, z] from h3).set 0 p).set 1 q).set 2 r
  exact e
theorem KG.start (w : World) (t s k x y z : Value) (W : World) (hW : W = (w.alloc (Obj.cells #[t, s, k] 50)).alloc (Obj.cells #[x, y, z] 50)) : KG w W t s k := by
 have e0 : (w.alloc (Obj.cells #[t, s, k] 50)).heap.size = w.heap.size + 1 := Array.size_push _;have hb : zW w W := by rw [hW]; exact ((Below.refl _ _).alloc (Nat.le_refl _) _).alloc (by rw [e0]; omega) _
 refine ⟨hb, ?_, x, y, z, ?_⟩
 ·rw [hW]; exact (heap_alloc_old _ _ (by rw [e0]; omega)).trans (heap_alloc_new w _)
 ·rw [hW]
  have h := heap_alloc_new (w.alloc (Obj.cells #[t, s, k] 50)) (Obj.cells #[x, y, z] 50);rw [e0] at h;exact h
theorem RowsK.owns {W W' : World} {b n cap : Nat} {ks : List (It (n + 1))} {kvs : List Value} {fps : List (List Nat)} (h : RowsK W b n ks kvs fps) (hb : b <= W.heap.size) (hnd : fps.flatten.Nodup) (hp : 0 < ks.length) (hc : cap = ks.length)
  (hW : W' = W.alloc (.cells (cellsK ks kvs).toArray 50)) : OwnK W' b (n + 1) (zS (some ⟨W.heap.size, 0, none⟩) cap cap) ks (W.heap.size :: fps.flatten) := by
 subst hc;obtain ⟨h1, h2, h3⟩ := h.each;have hbel : zW W W' := by rw [hW]; exact (Below.refl _ _).alloc (Nat.le_refl _) _
 have hg : W'.heap[W.heap.size]? = some (.cells (cellsK ks kvs).toArray 50 (0, 0)) := by rw [hW]; exact heap_alloc_new W _
 refine ⟨some ⟨W.heap.size, 0, none⟩, ks.length, rfl, fun h => by omega, fun _ => ⟨W.heap.size, 0, ks.length * 3, fun j => (cellsK ks kvs).toArray.getD j (zI 0), fps, rfl, hb, rowV_of hg (by rw [List.size_toArray, cellsK_len h1]), by omega, rfl, ?_, h2.symm, fun j hj hj2 => ?_⟩⟩
 ·refine List.nodup_cons.2 ⟨fun hm => ?_, hnd⟩
  obtain ⟨l, m1, m2⟩ := List.mem_flatten.1 hm;obtain ⟨j, hj, rfl⟩ := List.getElem_of_mem m1;have := (OwnK.lt (h3 j (by omega) (by omega) hj) _ m2).2;omega
 ·obtain ⟨c0, c1, c2⟩ := cellsK_at h1 j hj
  have hcell : ∀ q u, (cellsK ks kvs)[q]? = some u -> (cellsK ks kvs).toArray.getD q (zI 0) = u := fun q u hq => by simp [Array.getD_eq_getD_getElem?, hq]
  show (cellsK ks kvs).toArray.getD (0 + j * 3) _ = _ /\ (cellsK ks kvs).toArray.getD (0 + j * 3 + 1) _ = _ /\ OwnK W' b n ((cellsK ks kvs).toArray.getD (0 + j * 3 + 2) _) _ _;rw [Nat.zero_add, hcell _ _ c0, hcell _ _ c1, hcell _ _ c2];exact ⟨rfl, rfl, (h3 j hj (by omega) hj2).below hbel (fun x hx => (OwnK.lt (h3 j hj (by omega) hj2) x hx).2)⟩
theorem signed_row {W W' : World} {b n : Nat} {x : It (n + 1)} {s : ByteArray} {k : Value} {fp : List Nat} (h : OwnK W b n k (It.kids x) fp) (hb : b <= W.heap.size)
  (hW : W' = W.alloc (.cells #[zI (It.tag x), zG ⟨(It.text x).toArray⟩, k, zI 4, zG s, zZ] 50)) : OwnK W' b (n + 1) (zS (some ⟨W.heap.size, 0, none⟩) 2 2) [x, bytJ s] (W.heap.size :: fp) := by
 have R : RowsK W b n [x, bytJ s] [k, zZ] [fp, []] := ⟨h, own_none W b n, trivial⟩;have := R.owns (W' := W') (cap := 2) hb (by have := h.nodup; simpa using this) (by show 0 < 2; decide) rfl (by rw [hW]; rfl);simpa using this
theorem signedItem_any (n : Nat) (x : It (n + 1)) (t : Int) (S s : ByteArray) (kv : Value) (fp : List Nat) (b : Nat) (w : World) (ht : It.tag x = t) (hS : (⟨(It.text x).toArray⟩ : ByteArray) = S) (hsl : ∃ a l cx, kv = zS a l cx) (hs : s.size <= 20000000) (ho : OwnK w b n kv (It.kids x) fp) (hb : b <= w.heap.size) :
  Calls Tryz.prog 27 #[.agg #[zI t, zG S, kv], zG s] w fun e w' => ∃ q fq, e = .returned (.agg #[zI 48, zG ⟨#[]⟩, zS (some ⟨q, 0, none⟩) 2 2]) /\ OwnK w' b (n + 1) (zS (some ⟨q, 0, none⟩) 2 2) [x, bytJ s] fq /\ zW w w' := by
 obtain ⟨ka, kl, kx, rfl⟩ := hsl;have HO : Hid (OwnK w b n (zS ka kl kx) (It.kids x) fp /\ b <= w.heap.size /\ s.size <= 20000000 /\ It.tag x = t /\ (⟨(It.text x).toArray⟩ : ByteArray) = S) := ⟨ho, hb, hs, ht, hS⟩;clear ho hb hs ht hS;go_enter Tryz.func27, Tryz.ntmps27;go_wp2_with fail;obtain ⟨W0, hW0⟩ : ∃ W, W = (w.alloc (Obj.cells #[zI t, zG S, zS ka kl kx] 50)).alloc (Obj.cells #[Value.int IntKind.i64 0, Value.string ⟨#[]⟩, Value.slice none 0 0] 50) := ⟨_, rfl⟩;rw [<- hW0];have H0 : KG w W0 (zI t) (zG S) (zS ka kl kx) := KG.start w _ _ _ _ _ _ W0 hW0;clear hW0;refine wp_region_held_drew (S := fun W => KG w W (zI t) (zG S) (zS ka kl kx)) (by kernel_rfl) (KG.below H0 ((Below.refl _ _).drew)) (fun hHeld => ?_);clear H0;generalize W0.drew = Wd0 at hHeld |-;refine zT 0 5 ?_ rfl (by rfl) ?_ hHeld ?_;rotate_left
 ·intro W hSw
  obtain ⟨⟨l0, l1, l2⟩, -⟩ := cell_in hSw.2.1;go_simp
  try with_reducible rfl
 refine zQ 1 6 rfl hHeld ?_;refine zR 2 7 rfl fun K hK => ?_
 go_simp;refine (bytesItem_any s _ HO.2.2.1).mono ?_;rintro e v1 ⟨rfl, hv⟩;have hH := KG.below hHeld hv;go_wp2_with fail;refine hK.out _ _ hH (fun hHeld => ?_);clear hK K hH hv;refine zR 3 8 rfl fun K hK => ?_
 have HF : Hid (OwnK (v1.alloc (Obj.cells #[zI t, zG S, zS ka kl kx, zI 4, zG s, zZ] 50)) b (n + 1) (zS (some ⟨v1.heap.size, 0, none⟩) 2 2) [x, bytJ s] (v1.heap.size :: fp)) := by
  have h := HO.out;refine signed_row (h.1.below hHeld.1 (fun y hy => (OwnK.lt h.1 y hy).2)) (Nat.le_trans h.2.1 hHeld.1.size) ?_;rw [h.2.2.2.1, h.2.2.2.2]
 have HS0 : Hid (w.heap.size + 2 <= v1.heap.size /\ b <= w.heap.size) := by
  obtain ⟨_, _, _, _, _, h3⟩ := hHeld;exact ⟨by have := h3.lt; omega, HO.2.1⟩
 have HFP : Hid (∀ y ∈ fp, y < w.heap.size) := fun y hy => (OwnK.lt HO.1 y hy).2
 go_simp;refine hK.out _ _ (KG.below hHeld ((Below.refl _ _).alloc (Nat.le_refl _) _)) (fun hHeld => ?_);clear hK K;refine zQ 4 9 rfl hHeld ?_;refine zN 5 rfl fun K hK => ?_
 obtain ⟨W9, hW9⟩ : ∃ W, W = v1.alloc (Obj.cells #[zI t, zG S, zS ka kl kx, zI 4, zG s, zZ] 50) := ⟨_, rfl⟩;obtain ⟨q9, hq9⟩ := zE (v1.heap.size);rw [<- hW9] at HF hHeld |-;rw [hq9] at HF HS0 |-;clear hW9 hq9;obtain ⟨x9, y9, z9, hB9⟩ := hHeld.2.2;obtain ⟨⟨r0, r1, r2⟩, rf⟩ := cell_in hB9;go_simp;refine hK.out _ _ (KG.set hHeld _ _ _) (fun hHeld => ?_);clear hK K;refine wpAnyH_done (by kernel_rfl) ?_ _;have HEND : Hid (zW w _) := hHeld.1;clear hHeld;go_wp2_with fail;refine bodyPost_ret (v := .agg #[zI 48, zG ⟨#[]⟩, zS (some ⟨q9, 0, none⟩) 2 2]) (by simp [results, Tryz.results27, go_sem, r0, r1, r2]; try rfl) rfl ?_;refine ⟨q9, _, rfl, HF.same fun y hy => ?_, HEND.out⟩;have h2 := HS0.1;have ne : y ≠ w.heap.size + 1 := by
  rcases List.mem_cons.1 hy with rfl | hy
  ·omega
  ·have := HFP.out y hy; omega
 rw [heap_setCell_other _ _ _ _ (by show y ≠ w.heap.size + 1; exact ne), heap_setCell_other _ _ _ _ (by show y ≠ w.heap.size + 1; exact ne), heap_setCell_other _ _ _ _ (by show y ≠ w.heap.size + 1; exact ne)]
end Go.Proofs.YtcbjlbpkoneibaaGreatDoor
namespace Go.Proofs.YtcbjlbpkoneibaaGreatDoor
open Go.RowKit Der
theorem sz_lst {n : Nat} (ks : List (It n)) : szI (n + 1) (lstJ ks) = ks.length + (ks.map (szI n)).sum := by
 show 0 + ks.length + (ks.map (szI n)).sum = _;omega
theorem sz_int {n : Nat} (x : Int) : szI (n + 1) (intI x) <= 5 := by
 have h := intT_ok (numN_le x);unfold plainOk at h;rw [if_neg (by decide), if_pos rfl] at h;simp only [Bool.and_eq_true, decide_eq_true_eq] at h;show (intT (numN x)).length + 0 + 0 <= 5;omega
end Go.Proofs.YtcbjlbpkoneibaaGreatDoor
namespace Go.Proofs.YtcbjlbpkoneibaaGreatDoor
open Go.RowKit
theorem byteCells_cellB (s : ByteArray) : byteCells s = s.data.toList.map cellB := rfl
theorem run_append_str {w : World} (base : Nat) (ty : TypeId) (v : Value) (n : Nat) (xs : List Value) (s : ByteArray) (hown : w.ownsRow base 5 1 v n xs) (h63 : n + s.size <= 1000000000000) (hbase : base <= w.heap.size) (hn : v ≠ zZ) :
  ∃ v' w', (Builtin.append_ #[22, 9] ty #[v, zG s]).run Tryz.prog w = .ok v' w' /\ w'.ownsRow base 5 1 v' (n + s.size) (xs ++ s.data.toList.map cellB) /\ w.grownBy w' v.ownBlock /\ v' ≠ zZ := by
 obtain ⟨i, hi, hz0, hz1, hz2⟩ := info_parts info5;have hsrc : Src Tryz.prog i.size 9 (zG s) s.size (byteCells s) w := by rw [hz1]; exact Src.ofString w Tryz.underlying9 s
 have hl : (byteCells s).length = s.size := byteCells_length s
 rcases hown.2 with ⟨h, _⟩ | ⟨g, cap, cur, rfl, hbg, hg, hnc, hcm, hcs, htake⟩
 ·exact absurd h hn
 ·have hx := hown.1
  rw [Nat.mul_one] at hx hcs htake;by_cases hroom : n + s.size <= cap
  ·have hst := run_storeCells_at Tryz.prog g n 5 (byteCells s) 0 cur w hg (by rw [hl]; omega) hsrc.one
   have hr : (Builtin.append_ #[22, 9] ty #[zS (some ⟨g, 0, none⟩) n cap, zG s]).run Tryz.prog w = .ok (zS (some ⟨g, 0, none⟩) (n + s.size) cap) (w.setRow g (cur.toList.take n ++ byteCells s ++ cur.toList.drop (n + (byteCells s).length)).toArray) := by
    have hc := hsrc.cells;rw [hz1] at hc;simp only [Nat.add_zero] at hst;simp [Builtin.append_, run_underlying Tryz.underlying22, run_underlying Tryz.underlying9, sizeOf, typeInfo, hi, hz1, hsrc.len, hroom, hc, Addr.add_lit, hst]
   refine ⟨_, _, hr, ⟨by rw [List.length_append, List.length_map, hx, Nat.mul_one]; rfl, .inr ⟨g, cap, _, rfl, hbg, setRow_heap w g cur _ 5 _ hg, hroom, hcm, ?_, ?_⟩⟩, ⟨rfl, rfl, rfl, by simp, fun k _ hk => setRow_other w g k _ (fun e => hk (by simp [Value.ownBlock, e]))⟩, by simp⟩
   ·simp only [List.size_toArray, List.length_append, List.length_take, List.length_drop, Array.length_toList]
    omega
   ·rw [htake, Nat.mul_one, <- byteCells_cellB]
    have e : n + s.size = (xs ++ byteCells s).length := by rw [List.length_append, hl, hx]
    rw [e];exact List.take_left
  ·have holds : ∀ j u, xs[j]? = some u -> w.cell? ((⟨g, 0, none⟩ : Addr).add j) = some u := hown.cells (g := g) rfl
   have hold := run_firstCells_some (P := Tryz.prog) w.drew i.size n ⟨g, 0, none⟩ n cap xs (by rw [hz1, Nat.mul_one]; exact hx) (by simpa using holds);have hr := run_append_grow_src (P := Tryz.prog) w 22 9 ty 5 i (.int .u8 0) Tryz.underlying22 hi hz0 (some ⟨g, 0, none⟩) n cap xs hold (zG s) s.size (byteCells s) hsrc (by omega) (by omega) (growslice_fits (by omega) (by rw [hz2]; omega));have hge := grownCap_ge w (n + s.size) cap 5;have hcm2 : grownCap w (n + s.size) cap 5 <= maxLen := grownCap_le_maxLen w (n + s.size) cap 5 (by unfold maxLen; omega);refine ⟨_, _, hr, ⟨by rw [List.length_append, List.length_map, hx, Nat.mul_one]; rfl, .inr ⟨w.heap.size, _, _, rfl, hbase, heap_alloc_new w.drew _, hge, hcm2, ?_, ?_⟩⟩, ⟨rfl, rfl, rfl, by simp, fun k hk _ => heap_alloc_old w.drew _ hk⟩, by simp⟩
   ·have hzc : (Value.cells (.int .u8 0)).size = 1 := rfl
    simp only [Array.size_append, List.size_toArray, List.length_append, size_zeroCells, hzc, hl, hx];omega
   ·rw [Array.toList_append, Nat.mul_one, <- byteCells_cellB]
    have e : n + s.size = (xs ++ byteCells s).length := by rw [List.length_append, hl, hx]
    rw [e];exact List.take_left
theorem wpList_append_str {w : World} {ops : Array Oper} {rest : List Oper} {o : Oper} {a : Act} {Q : Exit -> Act -> World -> Prop} (hgd : o.guard = none) (p x : Operand)
  (ho : o.op = .call { callee := .builtin .append, args := #[p, x], argTypes := #[22, 9] }) (base : Nat) (v : Value) (n : Nat) (xs : List Value) (s : ByteArray) (hs : a.eval p = v) (hx : a.eval x = zG s) (hown : w.ownsRow base 5 1 v n xs) (h63 : n + s.size <= 1000000000000) (hbase : base <= w.heap.size) (hn : v ≠ zZ)
  (h : ∀ v' w', w'.ownsRow base 5 1 v' (n + s.size) (xs ++ s.data.toList.map cellB) -> w.grownBy w' v.ownBlock -> v' ≠ zZ -> wpList Tryz.prog ops Q rest (a.put o.dst v') w') : wpList Tryz.prog ops Q (o :: rest) a w :=
 wpList_plain hgd fun _ hK => by
  obtain ⟨v', w', hr, h2, h3, h4⟩ := run_append_str base o.type v n xs s hown h63 hbase hn;unfold Oper.wp execOp;simp only [ho, resolve, invoke, builtin, Sem.run_bind, Sem.run_pure, Result.andThen_ok, List.map_toArray, List.map_cons, List.map_nil, hs, hx, hr];exact hK _ _ (h v' w' h2 h3 h4)
open Go.RowKit Der
def GoodT (s t : List UInt8) : Prop := (t.length <= 4000 -> s = t) /\ (4000 < t.length -> 4000 < s.length)
theorem GoodT.refl (s : List UInt8) : GoodT s s := ⟨fun _ => rfl, fun h => h⟩
theorem GoodT.whole {b s t : List UInt8} {c : UInt8} (h : GoodT s t) : GoodT (c :: (lenB s.length ++ s)) (c :: (lenB t.length ++ t)) := by
 by_cases ht : t.length <= 4000
 ·rw [h.1 ht]
  exact GoodT.refl _
 ·have h2 := h.2 (by omega)
  refine ⟨fun h3 => ?_, fun _ => ?_⟩
  ·simp only [List.length_cons, List.length_append] at h3
   omega
  ·simp only [List.length_cons, List.length_append]
   omega
def TxC (n : Nat) : Prop := ∀ (t : Int) (s : List UInt8) (ks : List (It n)) (a : Value) (d : Nat) (w : World), KidsAt w (ItAt w n) a ks -> szI (n + 1) (It.mk t s ks) <= 20000000 -> rightI (n + 1) (It.mk t s ks) d = true ->
 Calls Tryz.prog 61 #[.agg #[zI t, zG ⟨s.toArray⟩, a]] w fun e w' => ∃ r : List UInt8, e = .returned (zG ⟨r.toArray⟩) /\ GoodT r (txtI (n + 1) (It.mk t s ks)) /\ r.length <= 11 + 12 * szI (n + 1) (It.mk t s ks) /\ zW w w'
def BdC (n : Nat) : Prop := ∀ (ks : List (It n)) (v : Value) (d : Nat) (w : World), KidsAt w (ItAt w n) v ks -> szS n ks <= 20000000 -> (∀ y ∈ ks, rightI n y d = true) ->
 Calls Tryz.prog 210 #[v] w fun e w' => ∃ r : List UInt8, e = .returned (zG ⟨r.toArray⟩) /\ GoodT r ((ks.map (txtI n)).flatten) /\ r.length <= 12 * szS n ks /\ zW w w'
theorem bd_zero : BdC 0 := fun ks v d w hx hz hr => by
 have hk : ks = [] := by
  cases ks with
  | nil => rfl
  | cons x _ => exact (x : Empty).elim
 subst hk;obtain ⟨ax, cx, rfl, _⟩ := hx;clear hz hr;show Calls Tryz.prog 210 #[zS ax 0 cx] w _;go_enter Tryz.func210, Tryz.ntmps210;go_wp2_with fail;have HO : Hid ((w.alloc (Obj.cells #[] 5)).ownsRow w.heap.size 5 1 (zS (some ⟨w.heap.size, 0, none⟩) 0 0) 0 (([] : List UInt8).map cellB) /\ zW w (w.alloc (Obj.cells #[] 5))) := ⟨World.ownsRow_made w #[] 0 (Nat.le_refl _) (Nat.zero_le _) rfl, (Below.refl _ _).alloc (Nat.le_refl _) _⟩;have hcv := conv_own HO.1
 go_loopw [9, 3] (fun iv tv wr => iv = zI 0 /\ tv = zS (some ⟨w.heap.size, 0, none⟩) 0 0 /\ wr = w.alloc (Obj.cells #[] 5)) (fun _ _ _ => 0)
 case atStart => exact ⟨rfl, rfl, rfl⟩
 case round =>
  obtain ⟨rfl, rfl, rfl⟩ := hrel;go_wp2_with fail;go_ret;exact ⟨[], rfl, GoodT.refl _, by simp, HO.2⟩
theorem flat_take {n : Nat} {ks : List (It n)} {k : Nat} (h : k < ks.length) : ((ks.take (k + 1)).map (txtI n)).flatten = ((ks.take k).map (txtI n)).flatten ++ txtI n ks[k] := by
 rw [<- List.take_append_getElem h, List.map_append, List.flatten_append];simp
theorem flat_part {n : Nat} {ks : List (It n)} (k : Nat) : (((ks.take k).map (txtI n)).flatten).length <= ((ks.map (txtI n)).flatten).length := by
 have e : (ks.map (txtI n)).flatten = ((ks.take k).map (txtI n)).flatten ++ ((ks.drop k).map (txtI n)).flatten := by
  rw [<- List.flatten_append, <- List.map_append, List.take_append_drop]
 rw [e, List.length_append];exact Nat.le_add_right _ _
theorem flat_bound {n : Nat} (ks : List (It n)) : (((ks).map (txtI n)).flatten).length <= 12 * szS n ks := by
 unfold szS
 induction ks with
 | nil => simp
 | cons x ks ih =>
  have := txt_le n x;simp only [List.map_cons, List.flatten_cons, List.length_append, List.sum_cons, List.length_cons];omega
theorem szS_take {n : Nat} {ks : List (It n)} {k : Nat} (h : k < ks.length) : szS n (ks.take k) + 1 + szI n ks[k] <= szS n ks := by
 have h1 := take_sum h;have h2 := take_sum_le ks (k + 1);unfold szS;rw [List.length_take];omega
theorem bd_step (n : Nat) (IH : Hid (TxC n)) (ks : List (It (n + 1))) (v : Value) (d : Nat) (w : World) (hx : KidsAt w (ItAt w (n + 1)) v ks) (hz : szS (n + 1) ks <= 20000000) (hr : ∀ y ∈ ks, rightI (n + 1) y d = true) :
  Calls Tryz.prog 210 #[v] w fun e w' => ∃ r : List UInt8, e = .returned (zG ⟨r.toArray⟩) /\ GoodT r ((ks.map (txtI (n + 1))).flatten) /\ r.length <= 12 * szS (n + 1) ks /\ zW w w' := by
 have hx0 := hx;obtain ⟨ax, cx, rfl, _⟩ := hx0;have HZ : Hid (szS (n + 1) ks <= 20000000 /\ ∀ y ∈ ks, rightI (n + 1) y d = true) := ⟨hz, hr⟩;have hl := (szS_kid hz).1;have HX : Hid (KidsAt w (ItAt w (n + 1)) (zS ax ks.length cx) ks) := hx;obtain ⟨l, hle⟩ := zE (ks.length);have HE : Hid (ks.length = l) := hle;rw [hle] at HX hl |-;clear hx hz hle hr;go_enter Tryz.func210, Tryz.ntmps210;go_wp2_with fail;have HO : Hid ((w.alloc (Obj.cells #[] 5)).ownsRow w.heap.size 5 1 (zS (some ⟨w.heap.size, 0, none⟩) 0 0) 0 (([] : List UInt8).map cellB) /\ zW w (w.alloc (Obj.cells #[] 5))) := ⟨World.ownsRow_made w #[] 0 (Nat.le_refl _) (Nat.zero_le _) rfl, (Below.refl _ _).alloc (Nat.le_refl _) _⟩
 go_loopw [9, 3] (fun iv tv wr => ∃ (k : Nat), k <= l /\ iv = zI k /\ Hid (∃ T : List UInt8, T = ((ks.take k).map (txtI (n + 1))).flatten /\ T.length <= 4000 /\ wr.ownsRow w.heap.size 5 1 tv T.length (T.map cellB) /\ tv ≠ zZ /\ zW w wr)) (fun iv _ _ => l - (intOf iv).toNat)
 case atStart => exact ⟨0, Nat.zero_le _, rfl, [], rfl, Nat.zero_le _, HO.1, by simp, HO.2⟩
 case round =>
  obtain ⟨k, hk, rfl, H⟩ := hrel;clear HO;obtain ⟨T, hT, hTl, hown, hnn, hbel⟩ := H.out;have HT : Hid (T = ((ks.take k).map (txtI (n + 1))).flatten) := hT;have HB : Hid (zW w wr) := hbel;clear H hT hbel;by_cases hlt : k < l
  ·have hlti : (k : Int) < (l : Int) := by omega
   have hk0 : (0 : Int) <= (k : Int) := by omega
   have hj1 : k < ks.length := by rw [HE.out]; exact hlt
   obtain ⟨g1, o1, t1, s1, k1, hax, hg1, hc1, hi1⟩ := HX.out.get hj1;obtain ⟨c10, c11, c12⟩ := Cells3.below (w' := wr) (t := t1) (s := s1) (k := k1) hc1 hg1 HB.out;obtain ⟨kk, hkk, hkids⟩ := ItAt.below HB.out hi1;injection hkk with hkk
   simp only [Array.mk.injEq, List.cons.injEq, and_true] at hkk;obtain ⟨rfl, rfl, rfl⟩ := hkk;have hsz : szI (n + 1) ks[k] <= 20000000 := (szS_kid HZ.1).2 _ (List.getElem_mem hj1);have hrk := HZ.2 _ (List.getElem_mem hj1);obtain ⟨t, s, ks1, hxe⟩ : ∃ t s ks1, ks[k] = It.mk t s ks1 := ⟨_, _, _, (It.eta ks[k]).symm⟩;have HXE : Hid (ks[k] = It.mk t s ks1) := hxe;rw [hxe] at hkids hsz c10 c11 hrk;change KidsAt wr (ItAt wr n) k1 ks1 at hkids;change wr.cell? _ = some (zI t) at c10;change wr.cell? _ = some (zG ⟨s.toArray⟩) at c11;obtain ⟨ax1, cx1, rfl, _⟩ := id hkids;obtain ⟨W1, hW1⟩ : ∃ W, W = wr.alloc (Obj.cells #[Value.int IntKind.i64 t, Value.string { data := s.toArray }, Value.slice ax1 ks1.length cx1] 50) := ⟨_, rfl⟩;have hb1 := (one_laid wr (zI t) (zG ⟨s.toArray⟩) (zS ax1 ks1.length cx1) 50 W1 hW1).1;have E := IH.out t s ks1 _ d W1 (hkids.mono hb1 fun _ _ h => ItAt.below hb1 h) hsz hrk;have HS : Hid (szI (n + 1) (It.mk t s ks1) <= 20000000 /\ zW wr W1) := ⟨hsz, hb1⟩;obtain ⟨l1, hl1⟩ := zE (ks1.length);rw [hl1] at c12 hW1 E;subst hax;clear hc1 hi1 hg1 hkids hsz hxe hl1 hb1 hrk;go_wp2_with fail;rw [<- hW1];clear hW1;refine E.mono ?_;rintro e w3 ⟨r, rfl, hgood, hrl, hb3⟩;have hrs : (⟨r.toArray⟩ : ByteArray).size = r.length := by show r.toArray.size = _; simp
   have hr9 : r.length <= 1000000000 := by have := HS.1; omega
   have H3 : Hid (w3.ownsRow w.heap.size 5 1 u3 T.length (T.map cellB) /\ zW w w3 /\ GoodT r (txtI (n + 1) ks[k]) /\ r.length <= 11 + 12 * szI (n + 1) ks[k]) := by
    have hbw : zW wr w3 := HS.2.trans (hb3.mono HS.2.size);refine ⟨?_, HB.trans (hbw.mono HB.size), ?_, ?_⟩
    ·exact hown.kept ⟨hbw.os, hbw.tape, hbw.output, hbw.size, fun k hk _ => hbw.block k hk⟩ (row := none) (by cases hv : u3.ownBlock <;> simp)
    ·rw [HXE.out]; exact hgood
    ·rw [HXE.out]; exact hrl
   have hown3 := H3.1;clear E hgood hrl hb3 c10 c11 c12 hown;go_wp2_with (at_builtin; refine wpList_append_str rfl _ _ rfl w.heap.size u3 T.length (T.map cellB) ⟨r.toArray⟩ rfl rfl hown3 ?a1 ?a2 hnn ?_)
   case a1 => rw [hrs]; omega
   case a2 => exact H3.2.1.size
   intro v' w4 hown' hgrow hnn';have HN : Hid (w4.ownsRow w.heap.size 5 1 v' (T ++ r).length ((T ++ r).map cellB) /\ zW w w4) := by
    refine ⟨?_, H3.2.1.grown hgrow H3.2.1.size (fun j hj => (hown3.lt j hj).1)⟩;rw [List.map_append, List.length_append];exact hown'
   obtain ⟨g', cap', hv'⟩ : ∃ g' cap', v' = zS (some ⟨g', 0, none⟩) (T ++ r).length cap' := by
    rcases HN.1.2 with ⟨h, _⟩ | ⟨g', cap', cur, h, _⟩
    ·exact absurd h hnn'
    ·exact ⟨g', cap', h⟩
   subst hv';have hcv := conv_own HN.1;obtain ⟨T', hT'⟩ : ∃ T', T ++ r = T' := ⟨_, rfl⟩;have HT' : Hid (T ++ r = T' /\ T'.length = T.length + r.length) := ⟨hT', by rw [<- hT', List.length_append]⟩;rw [hT'] at HN hcv |-;have hT'9 : T'.length <= 2000000000 := by rw [HT'.2]; omega
   have HFL : Hid (T'.length <= 12 * szS (n + 1) ks) := by
    show T'.length <= _;have h1 := szS_take hj1;have h2 := flat_bound (ks.take k);rw [<- HT.out] at h2;have h3 := H3.2.2.2;rw [HT'.2];omega
   clear hown' hgrow hnn' hown3 hnn hT';by_cases hbig : 4000 < T'.length
   ·have hbi : (4000 : Int) < (T'.length : Int) := by omega
    have HG : Hid (GoodT T' ((ks.map (txtI (n + 1))).flatten)) := by
     have hfl : 4000 < ((ks.map (txtI (n + 1))).flatten).length := by
      have h1 := flat_part (ks := ks) (k + 1);rw [flat_take hj1, List.length_append, <- HT.out] at h1;have h2 := HT'.2;by_cases hq : (txtI (n + 1) ks[k]).length <= 4000
      ·have := H3.2.2.1.1 hq
       rw [this] at h2;omega
      ·omega
     exact ⟨fun h => by omega, fun _ => hbig⟩
    go_wp2_with fail;go_ret;exact ⟨T', rfl, HG.out, HFL.out, HN.2⟩
   ·have hbi : ¬ (4000 : Int) < (T'.length : Int) := by omega
    have HT2 : Hid (T' = ((ks.take (k + 1)).map (txtI (n + 1))).flatten /\ T'.length <= 4000) := by
     refine ⟨?_, by omega⟩;have hq : (txtI (n + 1) ks[k]).length <= 4000 := by
      refine Nat.le_of_not_lt fun hq => ?_
      have h1 := H3.2.2.1.2 hq;have h2 := HT'.2;omega
     rw [flat_take hj1, <- HT.out, <- HT'.1, H3.2.2.1.1 hq]
    clear hcv;go_wp2_with fail;exact ⟨⟨k + 1, by omega, by go_num, T', HT2.1, HT2.2, HN.1, by simp, HN.2⟩, by simp [intOf]; omega⟩
  ·have hlti : ¬ (k : Int) < (l : Int) := by omega
   have hkl : k = l := by omega
   have hcv := conv_own hown;have HG : Hid (GoodT T ((ks.map (txtI (n + 1))).flatten) /\ T.length <= 12 * szS (n + 1) ks) := by
    have h := HT.out;rw [List.take_of_length_le (by rw [HE.out]; omega)] at h;rw [<- h];refine ⟨GoodT.refl _, ?_⟩;rw [h];exact flat_bound ks
   clear hown hnn;go_wp2_with fail;go_ret;exact ⟨T, rfl, HG.1, HG.2, HB.out⟩
end Go.Proofs.YtcbjlbpkoneibaaGreatDoor
