/-
  Texts of the proof.
-/
import Derived.OwnWalk
import Derived.Deep.AppendLies
import Derived.Deep.RegionLaw
import Derived.Test.YtcbjlbpkoneibaaGreatDoorChecked
import Derived.WalkKit
import Derived.WalkSpells
import Derived.WalkLawsBesides
import Derived.Handy
import Derived.Laws.OwnMore
import Derived.Deep.Cut
import Derived.Deep.QuietTactic
import Derived.BigQuiet
import Derived.Test.YtcbjlbpkoneibaaGreatDoorSR2
set_option linter.unusedVariables false
set_option linter.unusedSimpArgs false
set_option maxRecDepth 100000
set_option maxHeartbeats 25600000
namespace Go.Proofs.YtcbjlbpkoneibaaGreatDoor
open Go.RowKit Der
def cellsK {n : Nat} (ks : List (It (n + 1))) (kvs : List Value) : List Value := (ks.zip kvs).flatMap fun p => [zI (It.tag p.1), zG ⟨(It.text p.1).toArray⟩, p.2]
theorem cellsK_snoc {n : Nat} {ks : List (It (n + 1))} {kvs : List Value} (h : ks.length = kvs.length) (x : It (n + 1)) (k : Value) : cellsK (ks ++ [x]) (kvs ++ [k]) = cellsK ks kvs ++ [zI (It.tag x), zG ⟨(It.text x).toArray⟩, k] := by
 unfold cellsK;rw [List.zip_append h, List.flatMap_append];rfl
theorem cellsK_len {n : Nat} : ∀ {ks : List (It (n + 1))} {kvs : List Value}, ks.length = kvs.length -> (cellsK ks kvs).length = ks.length * 3
 | [], [], _ => rfl
 | [], _ :: _, h => by simp at h
 | _ :: _, [], h => by simp at h
 | x :: ks, k :: kvs, h => by
  have ih := cellsK_len (ks := ks) (kvs := kvs) (by simpa using h);unfold cellsK at ih |-;rw [List.zip_cons_cons, List.flatMap_cons, List.length_append, ih];simp;omega
theorem cellsK_at {n : Nat} : ∀ {ks : List (It (n + 1))} {kvs : List Value} (h : ks.length = kvs.length) (j : Nat) (hj : j < ks.length), (cellsK ks kvs)[j * 3]? = some (zI (It.tag ks[j])) /\ (cellsK ks kvs)[j * 3 + 1]? = some (zG ⟨(It.text ks[j]).toArray⟩) /\ (cellsK ks kvs)[j * 3 + 2]? = some (kvs[j]'(by omega))
 | [], _, _, _, hj => by simp at hj
 | _ :: _, [], h, _, _ => by simp at h
 | x :: ks, k :: kvs, h, 0, hj => by
  unfold cellsK;rw [List.zip_cons_cons, List.flatMap_cons];exact ⟨rfl, rfl, rfl⟩
 | x :: ks, k :: kvs, h, j + 1, hj => by
  have ih := cellsK_at (ks := ks) (kvs := kvs) (by simpa using h) j (by simpa using hj);have e : cellsK (x :: ks) (k :: kvs) = zI (It.tag x) :: zG ⟨(It.text x).toArray⟩ :: k :: cellsK ks kvs := by
   unfold cellsK;rw [List.zip_cons_cons, List.flatMap_cons];rfl
  rw [e, show (j + 1) * 3 = j * 3 + 3 by omega];exact ih
def GrowK (w : World) (base n : Nat) (v : Value) (ks : List (It (n + 1))) : Prop := ∃ (kvs : List Value) (fps : List (List Nat)), ks.length = kvs.length /\ ks.length = fps.length /\ w.ownsRow base 50 3 v ks.length (cellsK ks kvs) /\ fps.flatten.Nodup /\ (∀ g, v.ownBlock = some g -> g ∉ fps.flatten) /\
 ∀ j (h1 : j < ks.length) (h2 : j < kvs.length) (h3 : j < fps.length), OwnK w base n kvs[j] (It.kids ks[j]) fps[j]
theorem GrowK.nil (w : World) (base n : Nat) : GrowK w base n zZ [] := ⟨[], [], rfl, rfl, World.ownsRow_nil _ _ _ _, by simp, fun g hg => by simp [Value.ownBlock] at hg, fun j h => absurd h (Nat.not_lt_zero _)⟩
theorem GrowK.shape {w : World} {base n : Nat} {v : Value} {ks : List (It (n + 1))} (h : GrowK w base n v ks) : ∃ ao cap, v = zS ao ks.length cap := by
 obtain ⟨kvs, fps, h1, h2, ho, _⟩ := h
 rcases ho.2 with ⟨h, h0⟩ | ⟨g, cap, cur, hv, _⟩
 ·exact ⟨none, 0, by rw [h, h0]⟩
 ·exact ⟨_, cap, hv⟩
theorem GrowK.lt {w : World} {base n : Nat} {v : Value} {ks : List (It (n + 1))} (h : GrowK w base n v ks) : ∀ g, v.ownBlock = some g -> base <= g /\ g < w.heap.size := by
 obtain ⟨kvs, fps, h1, h2, ho, _⟩ := h;exact ho.lt
theorem own_kept {w w' : World} {base : Nat} {e : TypeId} {size : Nat} {v : Value} {n : Nat} {xs : List Value} (h : w.ownsRow base e size v n xs) (hb : zW w w') : w'.ownsRow base e size v n xs :=
 h.kept ⟨hb.os, hb.tape, hb.output, hb.size, fun k hk _ => hb.block k hk⟩ (row := none) (by cases hv : v.ownBlock <;> simp)
theorem GrowK.own {w : World} {base n : Nat} {v : Value} {ks : List (It (n + 1))} (h : GrowK w base n v ks) : ∃ fp, OwnK w base (n + 1) v ks fp := by
 obtain ⟨kvs, fps, h1, h2, ho, h3, h4, h5⟩ := h
 rcases ho.2 with ⟨hv, h0⟩ | ⟨g, cap, cur, hv, hbg, hg, hnc, hcm, hcs, htk⟩
 ·exact ⟨[], none, 0, by rw [hv, h0], fun _ => rfl, fun hp => by omega⟩
 ·by_cases hp : 0 < ks.length
  ·refine ⟨g :: fps.flatten, some ⟨g, 0, none⟩, cap, hv, fun h => by omega, fun _ => ⟨g, 0, cap * 3, fun j => cur.getD j (zI 0), fps, rfl, hbg, rowV_of hg hcs, by omega, rfl, ?_, h2.symm, fun j hj hj2 => ?_⟩⟩
   ·rw [List.nodup_cons]
    exact ⟨h4 g (by rw [hv]; rfl), h3⟩
   ·obtain ⟨c0, c1, c2⟩ := cellsK_at h1 j hj
    have hcell : ∀ q u, (cellsK ks kvs)[q]? = some u -> cur.getD q (zI 0) = u := fun q u hq => by
     rw [<- htk, List.getElem?_take] at hq
     split at hq
     ·rw [Array.getElem?_toList] at hq
      simp [Array.getD_eq_getD_getElem?, hq]
     ·cases hq
    show cur.getD (0 + j * 3) _ = _ /\ cur.getD (0 + j * 3 + 1) _ = _ /\ OwnK w base n (cur.getD (0 + j * 3 + 2) _) _ _;rw [Nat.zero_add, hcell _ _ c0, hcell _ _ c1, hcell _ _ c2];exact ⟨rfl, rfl, h5 j hj (by omega) hj2⟩
  ·exact ⟨[], some ⟨g, 0, none⟩, cap, hv, fun _ => rfl, fun h => absurd h hp⟩
theorem news_three (w : World) (a b c : Value) (t : TypeId) : ∀ j u, [a, b, c][j]? = some u -> (w.alloc (.cells #[a, b, c] t)).cell? ((⟨w.heap.size, 0, none⟩ : Addr).add j) = some u := by
 intro j u hj;rw [Addr.add_lit, Nat.zero_add, World.cell?_alloc_mark w _ t _ j];simpa using hj
theorem nodup_app {a b : List Nat} (ha : a.Nodup) (hb : b.Nodup) (hd : ∀ x ∈ a, x ∉ b) : (a ++ b).Nodup := List.nodup_append.2 ⟨ha, hb, fun x hx y hy e => hd x hx (e ▸ hy)⟩
theorem GrowK.snoc {wr w W w' : World} {base n g cap : Nat} {v : Value} {ks : List (It (n + 1))} {x : It (n + 1)} {kv : Value} {fp : List Nat} {kvs : List Value} {fps : List (List Nat)} (h1 : ks.length = kvs.length) (h2 : ks.length = fps.length) (hro : wr.ownsRow base 50 3 v ks.length (cellsK ks kvs)) (h3 : fps.flatten.Nodup) (h4 : ∀ g, v.ownBlock = some g -> g ∉ fps.flatten)
  (h5 : ∀ j (h1 : j < ks.length) (h2 : j < kvs.length) (h3 : j < fps.length), OwnK wr base n kvs[j] (It.kids ks[j]) fps[j]) (hb : zW wr w) (hbase : base <= wr.heap.size) (ho : OwnK w wr.heap.size n kv (It.kids x) fp) (hW : zW w W)
  (hown : w'.ownsRow base 50 3 (zS (some ⟨g, 0, none⟩) (ks.length + 1) cap) (ks.length + 1) (cellsK ks kvs ++ [zI (It.tag x), zG ⟨(It.text x).toArray⟩, kv])) (hgrow : W.grownBy w' v.ownBlock) (hg : v.ownBlock = some g ∨ w.heap.size <= g) :
  GrowK w' base n (zS (some ⟨g, 0, none⟩) (ks.length + 1) cap) (ks ++ [x]) := by
 have old : ∀ y ∈ fps.flatten, y < wr.heap.size := fun y hy => by
  obtain ⟨q, hq, hyq⟩ := List.mem_flatten.1 hy;obtain ⟨j, hj, rfl⟩ := List.getElem_of_mem hq;exact (OwnK.lt (h5 j (by omega) (by omega) hj) y hyq).2
 have new : ∀ y ∈ fp, wr.heap.size <= y /\ y < w.heap.size := OwnK.lt ho;have s1 := hb.size;have s2 := hW.size;refine ⟨kvs ++ [kv], fps ++ [fp], by simp [h1], by simp [h2], ?_, ?_, ?_, ?_⟩
 ·rw [cellsK_snoc h1, List.length_append, List.length_singleton]
  exact hown
 ·rw [List.flatten_append, List.flatten_singleton]
  refine nodup_app h3 (OwnK.nodup ho) fun y hy hy2 => ?_
  have a := old y hy;have b := (new y hy2).1;omega
 ·intro q hq hm
  obtain rfl : g = q := by simpa [Value.ownBlock] using hq
  rw [List.flatten_append, List.flatten_singleton, List.mem_append] at hm
  rcases hg with hg | hg
  ·rcases hm with hm | hm
   ·exact h4 g hg hm
   ·have a := (hro.lt g hg).2
    have b := (new g hm).1;omega
  ·rcases hm with hm | hm
   ·have := old g hm; omega
   ·have := (new g hm).2; omega
 ·intro j a b c
  by_cases hj : j < ks.length
  ·have e1 : (ks ++ [x])[j] = ks[j] := List.getElem_append_left hj
   have e2 : (kvs ++ [kv])[j] = kvs[j]'(by omega) := List.getElem_append_left (by omega);have e3 : (fps ++ [fp])[j] = fps[j]'(by omega) := List.getElem_append_left (by omega);rw [e1, e2, e3];refine (h5 j hj (by omega) (by omega)).same fun y hy => ?_
   have hy2 : y ∈ fps.flatten := List.mem_flatten.2 ⟨_, List.getElem_mem (by omega), hy⟩;have hlt := old y hy2;rw [hgrow.block y (by omega) (fun e => h4 y e.symm hy2), hW.block y (by omega), hb.block y hlt]
  ·have hj2 : j = ks.length := by simp at a; omega
   subst hj2;have e1 : (ks ++ [x])[ks.length] = x := by simp
   have e2 : (kvs ++ [kv])[ks.length] = kv := by simp [h1]
   have e3 : (fps ++ [fp])[ks.length] = fp := by simp [h2]
   rw [e1, e2, e3];refine (OwnK.base hbase ho).same fun y hy => ?_
   have hlt := new y hy;rw [hgrow.block y (by omega) (fun e => by have := (hro.lt y e.symm).2; omega), hW.block y hlt.2]
theorem wpList_append_item {wr w : World} {ops : Array Oper} {rest : List Oper} {o : Oper} {a : Act} {Q : Exit -> Act -> World -> Prop} (hgd : o.guard = none) (p q : Operand) (ho : o.op = .call { callee := .builtin .append, args := #[p, q], argTypes := #[48, 48] })
  (base n : Nat) (v : Value) (ks : List (It (n + 1))) (x : It (n + 1)) (t : Int) (s : ByteArray) (kv : Value) (fp : List Nat) (ht : It.tag x = t) (hs : (⟨(It.text x).toArray⟩ : ByteArray) = s) (hp : a.eval p = v) (H : Nat) (hq : a.eval q = zS (some ⟨H, 0, none⟩) 1 1) (hH : w.heap.size = H) (hG : GrowK wr base n v ks) (hb : zW wr w) (hk : OwnK w wr.heap.size n kv (It.kids x) fp) (hbase : base <= wr.heap.size) (hl : ks.length <= 1000000000)
  (h : ∀ g cap w', GrowK w' base n (zS (some ⟨g, 0, none⟩) (ks.length + 1) cap) (ks ++ [x]) -> (w.alloc (.cells #[zI t, zG s, kv] 50)).grownBy w' v.ownBlock -> wpList Tryz.prog ops Q rest (a.put o.dst (zS (some ⟨g, 0, none⟩) (ks.length + 1) cap)) w') :
  wpList Tryz.prog ops Q (o :: rest) a (w.alloc (.cells #[zI t, zG s, kv] 50)) := by
 subst ht hs hH;obtain ⟨kvs, fps, h1, h2, hro, h3, h4, h5⟩ := hG;obtain ⟨i0, hi, hz0, hz1, hz2⟩ := infoItem_parts;obtain ⟨ao, cap, hkv⟩ := hk.shape;have hb1 : zW w (w.alloc (.cells #[zI (It.tag x), zG ⟨(It.text x).toArray⟩, kv] 50)) := (Below.refl _ _).alloc (Nat.le_refl _) _;have hbw := hb.trans (hb1.mono hb.size);refine wpList_append_lies _ hgd p q 48 ho base 50 i0 (.agg #[zI 0, zG ⟨#[]⟩, zZ]) 3 48 Tryz.underlying48 hi hz0 hz1 hz2 rfl (by decide) v ks.length (cellsK ks kvs) hp (own_kept hro hbw)
  ⟨w.heap.size, 0, none⟩ 1 1 [zI (It.tag x), zG ⟨(It.text x).toArray⟩, kv] hq rfl (news_three w _ _ _ _) (by
   intro u hu;simp only [List.mem_cons, List.not_mem_nil, or_false] at hu
   rcases hu with rfl | rfl | rfl
   ·rfl
   ·rfl
   ·rw [hkv]; rfl) (by decide) (by unfold maxLen; omega) (by omega) (Nat.le_trans hbase hbw.size) _ rfl ?_
 intro g cap w' hown hgrow hg _;refine h g cap w' (GrowK.snoc h1 h2 hro h3 h4 h5 hb hbase hk hb1 hown hgrow ?_) hgrow
 rcases hg with hg | hg
 ·exact .inl hg
 ·exact .inr (by rw [hg]; exact hb1.size)
theorem step_append_item0 {wr w : World} {ops : Array Oper} {o : Oper} {a : Act} {K : Act -> World -> Prop} {Q : Exit -> Act -> World -> Prop} {E : Prop} (hgd : o.guard = none) (p q : Operand) (ho : o.op = .call { callee := .builtin .append, args := #[p, q], argTypes := #[48, 48] })
  (base n : Nat) (v : Value) (ks : List (It (n + 1))) (x : It (n + 1)) (t : Int) (s : ByteArray) (kv : Value) (fp : List Nat) (ht : It.tag x = t) (hs : (⟨(It.text x).toArray⟩ : ByteArray) = s) (hp : a.eval p = v) (H : Nat) (hq : a.eval q = zS (some ⟨H, 0, none⟩) 1 1) (hH : w.heap.size = H) (hG : GrowK wr base n v ks) (hb : zW wr w) (hk : OwnK w wr.heap.size n kv (It.kids x) fp) (hbase : base <= wr.heap.size) (hl : ks.length <= 1000000000)
  (h : ∀ g cap w', GrowK w' base n (zS (some ⟨g, 0, none⟩) (ks.length + 1) cap) (ks ++ [x]) -> (w.alloc (.cells #[zI t, zG s, kv] 50)).grownBy w' v.ownBlock -> K (a.put o.dst (zS (some ⟨g, 0, none⟩) (ks.length + 1) cap)) w') :
  if Region.wanted o (yielded ops a.tmps) = true then Oper.wp Tryz.prog o a (w.alloc (.cells #[zI t, zG s, kv] 50)) K Q else E := by
 subst ht hs hH;obtain ⟨kvs, fps, h1, h2, hro, h3, h4, h5⟩ := hG;obtain ⟨i0, hi, hz0, hz1, hz2⟩ := infoItem_parts;obtain ⟨ao, cap, hkv⟩ := hk.shape;have hb1 : zW w (w.alloc (.cells #[zI (It.tag x), zG ⟨(It.text x).toArray⟩, kv] 50)) := (Below.refl _ _).alloc (Nat.le_refl _) _;have hbw := hb.trans (hb1.mono hb.size);refine step_append_lies _ hgd p q 48 ho base 50 i0 (.agg #[zI 0, zG ⟨#[]⟩, zZ]) 3 48 Tryz.underlying48 hi hz0 hz1 hz2 rfl (by decide) v ks.length (cellsK ks kvs) hp (own_kept hro hbw)
  ⟨w.heap.size, 0, none⟩ 1 1 [zI (It.tag x), zG ⟨(It.text x).toArray⟩, kv] hq rfl (news_three w _ _ _ _) (by
   intro u hu;simp only [List.mem_cons, List.not_mem_nil, or_false] at hu
   rcases hu with rfl | rfl | rfl
   ·rfl
   ·rfl
   ·rw [hkv]; rfl) (by decide) (by unfold maxLen; omega) (by omega) (Nat.le_trans hbase hbw.size) _ rfl ?_
 intro g cap w' hown hgrow hg _;refine h g cap w' (GrowK.snoc h1 h2 hro h3 h4 h5 hb hbase hk hb1 hown hgrow ?_) hgrow
 rcases hg with hg | hg
 ·exact .inl hg
 ·exact .inr (by rw [hg]; exact hb1.size)
theorem step_call {P : Program} {ops : Array Oper} {o : Oper} {a : Act} {w : World} {K : Act -> World -> Prop} {Q : Exit -> Act -> World -> Prop} {E : Prop} (hgd : o.guard = none) (f : Nat) (xs : Array Operand) (tys : Array TypeId) (hop : o.op = .call { callee := .value (.func f), args := xs, argTypes := tys })
  (vs : Array Value) (hv0 : xs.toList.map a.eval = vs.toList) (hr : (callFunc f vs).run P w = .ok (.enter f vs) w)
  (h : Calls P f vs w fun | .returned v, w'' => K (a.put o.dst v) w'' | .panicked chain, w'' => Q (.panic chain) a w'' | .outgrown, _ => LetsOut Q) :
  if Region.wanted o (yielded ops a.tmps) = true then Oper.wp P o a w K Q else E := by
 have hw : Region.wanted o (yielded ops a.tmps) = true := by simp [Region.wanted, hgd]
 rw [if_pos hw];have hv : xs.map a.eval = vs := Array.ext' (by rw [Array.toList_map]; exact hv0);have e : (execOp a.eval o).run P w = .ok (.enter f vs) w := by
  simp [execOp, hop, resolve, invoke, Deferred.ofValue, Act.eval, hv, hr]
 unfold Oper.wp;rw [e];exact h
end Go.Proofs.YtcbjlbpkoneibaaGreatDoor
namespace Go.Proofs.YtcbjlbpkoneibaaGreatDoor
open Go.RowKit
def cellsI (l : List Int) : List Value := l.map fun z => Value.int .i64 z
def IntAt (w : World) (v : Value) (l : List Int) : Prop := ∃ ao cap, v = zS ao l.length cap /\ (0 < l.length -> ∃ g, ao = some ⟨g, 0, none⟩ /\ g < w.heap.size /\ ∀ j (hj : j < l.length), w.cell? ⟨g, j, none⟩ = some (zI l[j]))
theorem IntAt.below {w w' : World} {v : Value} {l : List Int} (h : IntAt w v l) (hb : zW w w') : IntAt w' v l := by
 obtain ⟨ao, cap, hv, h⟩ := h;refine ⟨ao, cap, hv, fun hl => ?_⟩;obtain ⟨g, hg, hlt, hc⟩ := h hl;exact ⟨g, hg, Nat.lt_of_lt_of_le hlt hb.size, fun j hj => by rw [hb.cell (p := ⟨g, j, none⟩) hlt]; exact hc j hj⟩
theorem IntAt.of_own {w : World} {base : Nat} {v : Value} {l : List Int} (h : w.ownsRow base 3 1 v l.length (cellsI l)) : IntAt w v l := by
 have hc := fun g (hg : v.ownBlock = some g) => (h.lt g hg).2
 have h' := h;obtain ⟨h1, h2⟩ := h
 rcases h2 with ⟨rfl, h0⟩ | ⟨g, cap, cur, rfl, hbg, hg, r⟩
 ·exact ⟨none, 0, by rw [h0], fun hl => by omega⟩
 ·refine ⟨some ⟨g, 0, none⟩, cap, rfl, fun hl => ⟨g, rfl, hc g rfl, fun j hj => ?_⟩⟩
  rw [h'.cellAt j (by omega)];simp [cellsI, hj]
def ev : List Int -> Int
 | [] => 0
 | x :: xs => x + 10000 * ev xs
def Dig (l : List Int) : Prop := ∀ x ∈ l, 0 <= x /\ x <= 9999
def Top (l : List Int) : Prop := 0 < l.length -> l.getD (l.length - 1) 0 ≠ 0
def digN (n : Nat) : List Int := if _h : n = 0 then [] else ((n % 10000 : Nat) : Int) :: digN (n / 10000)
def digs (x : Int) : List Int := digN x.toNat
theorem pw_pos (k : Nat) : (0 : Int) < 10000 ^ k := Int.pow_pos (by decide)
theorem pw_succ (k : Nat) : (10000 : Int) ^ (k + 1) = 10000 * 10000 ^ k := by rw [Int.pow_succ]; exact Int.mul_comm _ _
theorem pw_add (j k : Nat) : (10000 : Int) ^ (j + k) = 10000 ^ j * 10000 ^ k := Int.pow_add _ _ _
theorem pw_le {j k : Nat} (h : j <= k) : (10000 : Int) ^ j <= 10000 ^ k := by
 obtain ⟨d, rfl⟩ := Nat.exists_eq_add_of_le h;rw [pw_add];have := Int.mul_le_mul_of_nonneg_left (show (1 : Int) <= 10000 ^ d from pw_pos d) (Int.le_of_lt (pw_pos j))
 rwa [Int.mul_one] at this
theorem ev_append (a b : List Int) : ev (a ++ b) = ev a + 10000 ^ a.length * ev b := by
 induction a with
 | nil => simp [ev]
 | cons x xs ih => simp only [List.cons_append, ev, ih, List.length_cons]; grind
theorem Dig.cons {x : Int} {l : List Int} (h : Dig (x :: l)) : (0 <= x /\ x <= 9999) /\ Dig l := ⟨h x (by simp), fun y hy => h y (by simp [hy])⟩
theorem Dig.nil : Dig [] := fun x hx => by simp at hx
theorem dig_of_getD {l : List Int} (h : ∀ j, j < l.length -> 0 <= l.getD j 0 /\ l.getD j 0 <= 9999) : Dig l := by
 intro x hx;obtain ⟨j, hj, rfl⟩ := List.getElem_of_mem hx;have := h j hj;simpa [List.getD, hj] using this
theorem Dig.getD {l : List Int} (h : Dig l) (j : Nat) : 0 <= l.getD j 0 /\ l.getD j 0 <= 9999 := by
 by_cases hj : j < l.length
 ·have := h l[j] (List.getElem_mem hj)
  simpa [List.getD, hj] using this
 ·simp [List.getD, List.getElem?_eq_none (Nat.le_of_not_lt hj)]
theorem Dig.take {l : List Int} (h : Dig l) (k : Nat) : Dig (l.take k) := fun x hx => h x (List.mem_of_mem_take hx)
theorem Dig.drop {l : List Int} (h : Dig l) (k : Nat) : Dig (l.drop k) := fun x hx => h x (List.mem_of_mem_drop hx)
theorem ev_nonneg {l : List Int} (h : Dig l) : 0 <= ev l := by
 induction l with
 | nil => simp [ev]
 | cons x xs ih =>
  have := ih h.cons.2;have := h.cons.1;simp only [ev];omega
theorem ev_lt {l : List Int} (h : Dig l) : ev l < 10000 ^ l.length := by
 induction l with
 | nil => simp [ev]
 | cons x xs ih =>
  have := ih h.cons.2;have := h.cons.1;simp only [ev, List.length_cons, pw_succ];omega
theorem Top.cons {x : Int} {l : List Int} (h : Top (x :: l)) (hl : 0 < l.length) : Top l := by
 intro _;have := h (by simp);simp only [List.length_cons, Nat.add_sub_cancel] at this;obtain ⟨k, hk⟩ : ∃ k, l.length = k + 1 := ⟨l.length - 1, by omega⟩;rw [hk] at this |-;simpa using this
theorem ev_ge {l : List Int} (h : Dig l) (ht : Top l) (h0 : 0 < l.length) : 10000 ^ (l.length - 1) <= ev l := by
 induction l with
 | nil => simp at h0
 | cons x xs ih =>
  have h1 := h.cons;by_cases hx : 0 < xs.length
  ·have := ih h1.2 (ht.cons hx) hx
   obtain ⟨k, hk⟩ : ∃ k, xs.length = k + 1 := ⟨xs.length - 1, by omega⟩;simp only [ev, List.length_cons, Nat.add_sub_cancel, hk, pw_succ] at this |-;omega
  ·have : xs = [] := List.eq_nil_of_length_eq_zero (by omega)
   subst this;have := ht (by simp);simp [ev] at this |-;omega
theorem digN_zero : digN 0 = [] := by rw [digN, dif_pos rfl]
theorem digN_pos {n : Nat} (h : n ≠ 0) : digN n = ((n % 10000 : Nat) : Int) :: digN (n / 10000) := by rw [digN, dif_neg h]
theorem eq_digs {l : List Int} (h : Dig l) (ht : Top l) : l = digs (ev l) := by
 unfold digs
 induction l with
 | nil => simp [ev, digN_zero]
 | cons x xs ih =>
  have h1 := h.cons;have hn := ev_nonneg h1.2;have he : ev (x :: xs) = x + 10000 * ev xs := rfl;have hpos : (ev (x :: xs)).toNat ≠ 0 := by
   have := ev_ge h ht (by simp);have := pw_pos ((x :: xs).length - 1);omega
  rw [digN_pos hpos];have e1 : (((ev (x :: xs)).toNat % 10000 : Nat) : Int) = x := by omega
  have e2 : (ev (x :: xs)).toNat / 10000 = (ev xs).toNat := by omega
  rw [e1, e2];by_cases hx : 0 < xs.length
  ·rw [<- ih h1.2 (ht.cons hx)]
  ·have : xs = [] := List.eq_nil_of_length_eq_zero (by omega)
   subst this;simp [ev, digN_zero]
theorem digN_facts (n : Nat) : Dig (digN n) /\ Top (digN n) /\ ev (digN n) = (n : Int) := by
 induction n using Nat.strongRecOn with
 | _ n ih =>
  by_cases h : n = 0
  ·subst h
   rw [digN_zero];exact ⟨Dig.nil, fun h => by simp at h, rfl⟩
  ·have ⟨i1, i2, i3⟩ := ih (n / 10000) (by omega)
   rw [digN_pos h];refine ⟨?_, ?_, ?_⟩
   ·intro x hx
    rcases List.mem_cons.1 hx with rfl | hx
    ·omega
    ·exact i1 x hx
   ·intro _
    by_cases hq : n / 10000 = 0
    ·rw [hq, digN_zero]
     simp;omega
    ·have hl : 0 < (digN (n / 10000)).length := by rw [digN_pos hq]; simp
     have := i2 hl;simp only [List.length_cons, Nat.add_sub_cancel];obtain ⟨k, hk⟩ : ∃ k, (digN (n / 10000)).length = k + 1 := ⟨(digN (n / 10000)).length - 1, by omega⟩;rw [hk] at this |-;simpa using this
   ·simp only [ev, i3]
    omega
theorem dig_digs (x : Int) : Dig (digs x) := (digN_facts _).1
theorem top_digs (x : Int) : Top (digs x) := (digN_facts _).2.1
theorem ev_digs {x : Int} (h : 0 <= x) : ev (digs x) = x := by
 unfold digs;rw [(digN_facts _).2.2];omega
theorem digs_zero : digs 0 = [] := by unfold digs; exact digN_zero
theorem digs_step {x : Int} (h : 0 < x) : digs x = x % 10000 :: digs (x / 10000) := by
 unfold digs;rw [digN_pos (by omega)]
 congr 1
 ·omega
 ·congr 1
  omega
theorem digs_neg {x : Int} (h : x <= 0) : digs x = [] := by
 unfold digs;rw [show x.toNat = 0 by omega, digN_zero]
theorem eq_digs_of {l : List Int} {x : Int} (h : Dig l) (ht : Top l) (he : ev l = x) : l = digs x := he ▸ eq_digs h ht
theorem len_of_lt {l : List Int} (h : Dig l) (ht : Top l) {k : Nat} (hx : ev l < 10000 ^ k) : l.length <= k := by
 by_cases h0 : 0 < l.length
 ·have := ev_ge h ht h0
  refine Nat.le_of_not_lt fun hk => ?_
  have := pw_le (show k <= l.length - 1 by omega);omega
 ·omega
theorem digs_len {x : Int} {k : Nat} (h : 0 <= x) (hx : x < 10000 ^ k) : (digs x).length <= k := len_of_lt (dig_digs x) (top_digs x) (by rw [ev_digs h]; exact hx)
theorem len_le_of_ev {a b : List Int} (ha : Dig a) (hb : Dig b) (tb : Top b) (h : ev b <= ev a) : b.length <= a.length := len_of_lt hb tb (Int.lt_of_le_of_lt h (ev_lt ha))
theorem digs_ne {x : Int} (h : 0 < x) : 0 < (digs x).length := by
 refine Nat.pos_of_ne_zero fun h0 => ?_
 have := ev_digs (x := x) (by omega);rw [List.eq_nil_of_length_eq_zero h0] at this;simp [ev] at this;omega
theorem ev_pos {l : List Int} (h : Dig l) (ht : Top l) (h0 : 0 < l.length) : 0 < ev l := by
 have := ev_ge h ht h0;have := pw_pos (l.length - 1);omega
theorem ev_take_succ (l : List Int) (k : Nat) : ev (l.take (k + 1)) = ev (l.take k) + 10000 ^ k * l.getD k 0 := by
 by_cases hk : k < l.length
 ·rw [List.take_add_one, ev_append]
  simp [hk, ev, Nat.min_eq_left (Nat.le_of_lt hk)]
 ·rw [List.take_of_length_le (by omega), List.take_of_length_le (by omega)]
  simp [List.getD, List.getElem?_eq_none (Nat.le_of_not_lt hk)]
theorem ev_take_all (l : List Int) {k : Nat} (h : l.length <= k) : ev (l.take k) = ev l := by rw [List.take_of_length_le h]
theorem getD_take {l : List Int} {k j : Nat} (h : j < k) : (l.take k).getD j 0 = l.getD j 0 := by simp [List.getD, h]
theorem getD_set {l : List Int} {k j : Nat} (x : Int) (hk : k < l.length) : (l.set k x).getD j 0 = if j = k then x else l.getD j 0 := by
 by_cases h : j = k
 ·subst h
  simp [List.getD, hk]
 ·rw [if_neg h]
  simp [List.getD, List.getElem?_set_ne (fun e => h e.symm)]
theorem getD_past {l : List Int} {j : Nat} (h : l.length <= j) : l.getD j 0 = 0 := by simp [List.getD, List.getElem?_eq_none h]
theorem ev_set {l : List Int} {k : Nat} (x : Int) (hk : k < l.length) : ev (l.set k x) = ev l + 10000 ^ k * (x - l.getD k 0) := by
 induction l generalizing k with
 | nil => simp at hk
 | cons y ys ih =>
  cases k with
  | zero => simp [ev]; omega
  | succ k =>
   have hk' : k < ys.length := by simpa using hk
   simp only [List.set_cons_succ, ev, ih hk', List.getD_cons_succ, pw_succ]
   grind
theorem ev_congr {a b : List Int} (n : Nat) (h : ∀ j, j < n -> a.getD j 0 = b.getD j 0) : ev (a.take n) = ev (b.take n) := by
 induction n with
 | zero => simp
 | succ n ih => rw [ev_take_succ, ev_take_succ, ih fun j hj => h j (by omega), h n (by omega)]
theorem ev_zeros {l : List Int} {k : Nat} (h : ∀ j, k <= j -> l.getD j 0 = 0) : ev (l.take k) = ev l := by
 have H : ∀ d, ev (l.take (k + d)) = ev (l.take k) := fun d => by
  induction d with
  | zero => rfl
  | succ d ih => rw [<- Nat.add_assoc, ev_take_succ, ih, h (k + d) (by omega)]; simp
 rw [<- H l.length, List.take_of_length_le (by omega)]
theorem ev_lt_at {a b : List Int} (ha : Dig a) (hb : Dig b) (p : Nat) (h : ∀ j, p < j -> a.getD j 0 = b.getD j 0) (hp : a.getD p 0 < b.getD p 0) : ev a < ev b := by
 have H : ∀ d, ev (a.take (p + 1 + d)) - ev (b.take (p + 1 + d)) = ev (a.take (p + 1)) - ev (b.take (p + 1)) := fun d => by
  induction d with
  | zero => rfl
  | succ d ih => rw [<- Nat.add_assoc, ev_take_succ, ev_take_succ, h (p + 1 + d) (by omega)]; omega
 have h1 := H (a.length + b.length);rw [ev_take_all a (by omega), ev_take_all b (by omega), ev_take_succ, ev_take_succ] at h1;have h2 := ev_lt (ha.take p);have h3 := ev_nonneg (hb.take p);have h4 := pw_le (show (a.take p).length <= p by simp; omega);have h5 := Int.mul_le_mul_of_nonneg_left (show 1 <= b.getD p 0 - a.getD p 0 by omega) (Int.le_of_lt (pw_pos p));rw [Int.mul_sub, Int.mul_one] at h5;omega
theorem ev_same {a b : List Int} (h : ∀ j, a.getD j 0 = b.getD j 0) : ev a = ev b := by
 have := ev_congr (a := a) (b := b) (a.length + b.length) fun j _ => h j
 rwa [ev_take_all a (by omega), ev_take_all b (by omega)] at this
def cmpI (x y : Int) : Int := if x < y then -1 else if y < x then 1 else 0
theorem cmpI_lt {x y : Int} (h : x < y) : cmpI x y = -1 := by simp [cmpI, h]
theorem cmpI_gt {x y : Int} (h : y < x) : cmpI x y = 1 := by simp [cmpI, h]; omega
theorem cmpI_eq {x y : Int} (h : x = y) : cmpI x y = 0 := by simp [cmpI, h]
theorem cmpI_neg {x y : Int} : cmpI x y < 0 ↔ x < y := by unfold cmpI; split <;> (try split) <;> omega
theorem cmpI_nonneg {x y : Int} : 0 <= cmpI x y ↔ y <= x := by unfold cmpI; split <;> (try split) <;> omega
theorem cmpI_pos {x y : Int} : 0 < cmpI x y ↔ y < x := by unfold cmpI; split <;> (try split) <;> omega
theorem no_carry {e c t : Int} {n : Nat} (h : e + 10000 ^ n * c = t) (h0 : 0 <= e) (h1 : e < 10000 ^ n) (t0 : 0 <= t) (t1 : t < 10000 ^ n) : c = 0 /\ e = t := by
 have hp := pw_pos n;have hc : c = 0 := by
  rcases Int.lt_trichotomy c 0 with hc | hc | hc
  ·have := Int.mul_le_mul_of_nonneg_left (show c <= -1 by omega) (Int.le_of_lt hp)
   rw [Int.mul_neg, Int.mul_one] at this;omega
  ·exact hc
  ·have := Int.mul_le_mul_of_nonneg_left (show 1 <= c by omega) (Int.le_of_lt hp)
   rw [Int.mul_one] at this;omega
 subst hc;simp at h;exact ⟨rfl, h⟩
theorem info3 : (Tryz.prog.info? 3).map (fun i => (i.zero, i.size, i.bytes)) = some (some (zI 0), 1, 8) := by kernel_rfl
theorem one_int (x : Int) : ∀ u ∈ [Value.int .i64 x], u.oneCell' = true := by
 intro u hu;simp at hu;subst hu; rfl
theorem size_ok {n : Nat} {w : World} (h : n <= w.heap.size) (o : Obj) : n <= (w.alloc o).heap.size := by simp; omega
def OwnI (w : World) (base : Nat) (v : Value) (l : List Int) : Prop := w.ownsRow base 3 1 v l.length (cellsI l)
theorem cellsI_len (l : List Int) : (cellsI l).length = l.length := by simp [cellsI]
theorem cellsI_set (l : List Int) (k : Nat) (x : Int) : (cellsI l).set k (zI x) = cellsI (l.set k x) := by simp [cellsI]
theorem cellsI_append (a b : List Int) : cellsI (a ++ b) = cellsI a ++ cellsI b := by simp [cellsI]
theorem cellsI_take (l : List Int) (k : Nat) : (cellsI l).take k = cellsI (l.take k) := by simp [cellsI]
theorem cellsI_getD {l : List Int} {j : Nat} (h : j < l.length) : (cellsI l)[j]? = some (zI (l.getD j 0)) := by simp [cellsI, List.getD, h]
theorem OwnI.at {w : World} {base : Nat} {v : Value} {l : List Int} (h : OwnI w base v l) : IntAt w v l := IntAt.of_own h
theorem OwnI.stays {w w' : World} {base : Nat} {v : Value} {l : List Int} (h : OwnI w base v l) (hb : zW w w') : OwnI w' base v l := by
 obtain ⟨h1, h2⟩ := h;refine ⟨h1, ?_⟩
 rcases h2 with h2 | ⟨g, cap, cur, hv, hbg, hg, r⟩
 ·exact .inl h2
 ·have hlt : g < w.heap.size := by
   rcases Nat.lt_or_ge g w.heap.size with h | h
   ·exact h
   ·rw [Array.getElem?_eq_none h] at hg; cases hg
  exact .inr ⟨g, cap, cur, hv, hbg, by rw [hb.block g hlt]; exact hg, r⟩
theorem OwnI.base {w : World} {b b' : Nat} {v : Value} {l : List Int} (h : OwnI w b v l) (hb : b' <= b) : OwnI w b' v l := by
 obtain ⟨h1, h2⟩ := h;refine ⟨h1, ?_⟩
 rcases h2 with h2 | ⟨g, cap, cur, hv, hbg, r⟩
 ·exact .inl h2
 ·exact .inr ⟨g, cap, cur, hv, Nat.le_trans hb hbg, r⟩
theorem OwnI.drew {w : World} {base : Nat} {v : Value} {l : List Int} (h : OwnI w base v l) : OwnI w.drew base v l := World.ownsRow.drew h
theorem OwnI.nil (w : World) (base : Nat) : OwnI w base zZ [] := World.ownsRow_nil _ _ _ _
theorem OwnI.shape {w : World} {base : Nat} {v : Value} {l : List Int} (h : OwnI w base v l) : ∃ ao cap, v = zS ao l.length cap /\ (0 < l.length -> ∃ g, ao = some ⟨g, 0, none⟩) /\ l.length <= cap /\ cap <= maxLen := by
 rcases h.2 with ⟨h1, h0⟩ | ⟨g, cap, cur, hv, _, _, hn, hm, _⟩
 ·exact ⟨none, 0, by rw [h1, h0], fun h => by omega, by omega, Nat.zero_le _⟩
 ·exact ⟨some ⟨g, 0, none⟩, cap, hv, fun _ => ⟨g, rfl⟩, hn, hm⟩
theorem OwnI.cell {w : World} {base g cap : Nat} {l : List Int} (h : OwnI w base (zS (some ⟨g, 0, none⟩) l.length cap) l) {j : Nat} (hj : j < l.length) : w.cell? ⟨g, j, none⟩ = some (zI (l.getD j 0)) := by
 rw [World.ownsRow.cellAt h j (by omega), cellsI_getD hj]
theorem OwnI.frozen {w : World} {base g cap : Nat} {l : List Int} (h : OwnI w base (zS (some ⟨g, 0, none⟩) l.length cap) l) (j : Nat) : w.frozen? ⟨g, j, none⟩ = false := World.ownsRow.frozenAt h j
theorem OwnI.lt {w : World} {base g cap : Nat} {l : List Int} (h : OwnI w base (zS (some ⟨g, 0, none⟩) l.length cap) l) : base <= g /\ g < w.heap.size := World.ownsRow.lt h g rfl
theorem OwnI.set {w : World} {base g cap : Nat} {l : List Int} (h : OwnI w base (zS (some ⟨g, 0, none⟩) l.length cap) l) (j : Nat) (x : Int) :
  OwnI (w.setCell ⟨g, j, none⟩ (zI x)) base (zS (some ⟨g, 0, none⟩) (l.set j x).length cap) (l.set j x) := by
 have := (World.ownsRow.stored h j (zI x)).1;rw [cellsI_set] at this;unfold OwnI;rw [List.length_set];exact this
theorem OwnI.take {w : World} {base g cap : Nat} {l : List Int} (h : OwnI w base (zS (some ⟨g, 0, none⟩) l.length cap) l) {k : Nat} (hk : k <= l.length) :
  OwnI w base (zS (some ⟨g, 0, none⟩) k cap) (l.take k) := by
 have hl : (l.take k).length = k := by simp; omega
 unfold OwnI;rw [hl];refine ⟨by rw [cellsI_len, hl, Nat.mul_one], ?_⟩
 rcases h.2 with ⟨h1, _⟩ | ⟨g', cap', cur, hv, hbg, hg, hn, hm, hs, ht⟩
 ·simp at h1
 ·simp only [Value.slice.injEq, Option.some.injEq, Addr.mk.injEq, and_true, true_and] at hv
  obtain ⟨rfl, rfl⟩ := hv;refine .inr ⟨g, cap, cur, rfl, hbg, hg, by omega, hm, hs, ?_⟩;rw [<- cellsI_take, <- ht, List.take_take]
  congr 1
  omega
theorem grown_trans {a b c : World} {row : Option Nat} (h1 : a.grownBy b row) (h2 : b.grownBy c row) : a.grownBy c row :=
 ⟨h2.os.trans h1.os, h2.tape.trans h1.tape, h2.output.trans h1.output, Nat.le_trans h1.size h2.size, fun k hk hr => (h2.block k (Nat.lt_of_lt_of_le hk h1.size) hr).trans (h1.block k hk hr)⟩
theorem grown_set (w : World) (g j : Nat) (u : Value) : w.grownBy (w.setCell ⟨g, j, none⟩ u) (some g) :=
 ⟨rfl, rfl, rfl, by simp [World.setCell], fun k _ hk => heap_setCell_other w ⟨g, j, none⟩ k u (fun e => hk (by simp [e]))⟩
theorem OwnI.kept {w w' : World} {base g n cap : Nat} {l : List Int} {row : Option Nat} (h : OwnI w base (zS (some ⟨g, 0, none⟩) n cap) l) (hg : w.grownBy w' row) (hne : some g ≠ row) : OwnI w' base (zS (some ⟨g, 0, none⟩) n cap) l :=
 World.ownsRow.kept h hg (.inr hne)
theorem below_of_grown {w w' : World} {g base : Nat} (hg : w.grownBy w' (some g)) (hb : base <= g) (hgl : g < w.heap.size) : Below base w w' :=
 (Below.refl _ _).grown hg (by omega) (fun k hk => by cases hk; exact hb)
theorem made_zeros (n : Nat) : (madeCells #[Value.int .i64 0] n).toList = cellsI (List.replicate n 0) := by
 apply List.ext_getElem (by simp [madeCells, cellsI]);intro j h1 h2;simp [madeCells, cellsI, Nat.mod_one]
theorem OwnI.of_made {w : World} {base g n : Nat} (h : w.ownsRow base 3 1 (zS (some ⟨g, 0, none⟩) n n) n (madeCells #[Value.int .i64 0] n).toList) :
  OwnI w base (zS (some ⟨g, 0, none⟩) (List.replicate n (0 : Int)).length n) (List.replicate n 0) := by
 rw [made_zeros] at h;unfold OwnI;rw [List.length_replicate];exact h
def IntLo (B : Nat) (w : World) (v : Value) (l : List Int) : Prop := ∃ ao cap, v = zS ao l.length cap /\ (0 < l.length -> ∃ g, ao = some ⟨g, 0, none⟩ /\ g < B /\ ∀ j (hj : j < l.length), w.cell? ⟨g, j, none⟩ = some (zI l[j]))
theorem IntAt.lo {w : World} {v : Value} {l : List Int} (h : IntAt w v l) : IntLo w.heap.size w v l := h
theorem IntLo.below {B : Nat} {w w' : World} {v : Value} {l : List Int} (h : IntLo B w v l) (hb : Below B w w') : IntLo B w' v l := by
 obtain ⟨ao, cap, hv, h⟩ := h;refine ⟨ao, cap, hv, fun hl => ?_⟩;obtain ⟨g, hg, hlt, hc⟩ := h hl;exact ⟨g, hg, hlt, fun j hj => by rw [hb.cell (p := ⟨g, j, none⟩) hlt]; exact hc j hj⟩
def atI (l : List Int) (p : Int) : Int := if p < 0 then 0 else l.getD p.toNat 0
theorem atI_nat (l : List Int) (p : Nat) : atI l (p : Int) = l.getD p 0 := by simp [atI]; omega
theorem atI_neg (l : List Int) {p : Int} (h : p < 0) : atI l p = 0 := by simp [atI, h]
theorem OwnI.cut {w : World} {base : Nat} {ao : Option Addr} {cap : Nat} {l : List Int} (h : OwnI w base (zS ao l.length cap) l) {k : Nat} (hk : k <= l.length) :
  OwnI w base (zS ao k cap) (l.take k) := by
 rcases h.2 with ⟨h1, h0⟩ | ⟨g', cap', cur, hv, _⟩
 ·simp only [Value.slice.injEq] at h1
  obtain ⟨rfl, h2, rfl⟩ := h1;obtain rfl : k = 0 := by omega
  simpa using OwnI.nil w base
 ·simp only [Value.slice.injEq, true_and] at hv
  obtain ⟨rfl, rfl⟩ := hv;exact h.take hk
theorem trim_digs {l : List Int} {k : Nat} (hd : Dig l) (hk : k <= l.length) (hz : ∀ j, k <= j -> l.getD j 0 = 0) (ht : k = 0 ∨ l.getD (k - 1) 0 ≠ 0) : l.take k = digs (ev l) := by
 refine eq_digs_of (hd.take k) ?_ (ev_zeros hz);intro h;have hl : (l.take k).length = k := by simp; omega
 rw [hl] at h |-;rw [getD_take (by omega)]
 rcases ht with rfl | ht
 ·omega
 ·exact ht
theorem at_any (v : Value) (l : List Int) (p : Int) (w : World) (hl : l.length <= 1000000000) (hv : IntAt w v l) : Calls Tryz.prog 135 #[v, zI p] w fun e w' => e = .returned (zI (atI l p)) /\ w = w' := by
 obtain ⟨ao, cap, rfl, hc⟩ := hv;by_cases h0 : p < 0
 ·rw [atI_neg l h0]
  clear hc;go_enter Tryz.func135, Tryz.ntmps135
  go_wp2
  go_ret;exact ⟨rfl, rfl⟩
 ·obtain ⟨q, rfl⟩ : ∃ q : Nat, p = (q : Int) := ⟨p.toNat, by omega⟩
  rw [atI_nat];by_cases h1 : q < l.length
  ·obtain ⟨g, rfl, hgl, hcs⟩ := hc (by omega)
   have hu : w.cell? ⟨g, q, none⟩ = some (zI (l.getD q 0)) := by rw [hcs q h1]; simp [List.getD, h1]
   clear hcs hc;generalize l.getD q 0 = x at *;go_enter Tryz.func135, Tryz.ntmps135
   go_wp2
   go_ret;exact ⟨rfl, rfl⟩
  ·rw [getD_past (by omega)]
   clear hc;go_enter Tryz.func135, Tryz.ntmps135
   go_wp2
   go_ret;exact ⟨rfl, rfl⟩
theorem trimmed_any (v : Value) (l : List Int) (base : Nat) (w : World) (hl : l.length <= 1000000000) (hd : Dig l) (hv : OwnI w base v l) : Calls Tryz.prog 169 #[v] w fun e w' => ∃ v', e = .returned v' /\ OwnI w' base v' (digs (ev l)) /\ zW w w' := by
 obtain ⟨ao, cap, rfl, hc, hcap, hcm⟩ := hv.shape;unfold maxLen at hcm;have HC : Hid (0 < l.length -> ∃ g, ao = some ⟨g, 0, none⟩) := hc;have HV : Hid (OwnI w base (zS ao l.length cap) l) := hv;clear hc hv;go_enter Tryz.func169, Tryz.ntmps169
 go_wp2
 go_loopw [3] (fun s wr => ∃ k : Nat, k <= l.length /\ s = zI k /\ w = wr /\ Hid (∀ j, k <= j -> l.getD j 0 = 0)) (fun s _ => (intOf s).toNat)
 case atStart => exact ⟨l.length, Nat.le_refl _, rfl, rfl, fun j hj => getD_past hj⟩
 case round =>
  obtain ⟨k, hk, rfl, rfl, HZ⟩ := hrel;by_cases h0 : k = 0
  ·subst h0
   have hend : OwnI w base (zS ao 0 cap) (digs (ev l)) := by
    have e := trim_digs hd hk HZ.out (.inl rfl);rw [<- e];exact OwnI.cut HV.out hk
   have HE : Hid (OwnI w base (zS ao 0 cap) (digs (ev l))) := hend;clear hend
   go_wp2
   go_ret;exact ⟨_, rfl, HE.out, Below.refl _ _⟩
  ·obtain ⟨g, rfl⟩ := HC.out (by omega)
   obtain ⟨m, rfl⟩ : ∃ m, k = m + 1 := ⟨k - 1, by omega⟩;have hu := HV.cell (j := m) (by omega);have em : (m + 1 : Nat) - 1 = m := by omega
   obtain ⟨x, hx⟩ := zE (l.getD m 0);rw [hx] at hu;have HX : Hid (l.getD m 0 = x) := hx;clear hx;by_cases hz : x = 0
   ·subst hz
    go_wp2
    go_roundw
    case rel => exact ⟨m, by omega, by go_num, by trivial, fun j hj => by
     by_cases e : j = m
     ·rw [e]; exact HX.out
     ·exact HZ.out j (by omega)⟩
    case measure => simp [intOf]
   ·have hz' : (x == 0) = false := by simpa using hz
    have hend : OwnI w base (zS (some ⟨g, 0, none⟩) (m + 1) cap) (digs (ev l)) := by
     have e := trim_digs hd hk HZ.out (.inr (by rw [Nat.add_sub_cancel, HX.out]; exact hz));rw [<- e];exact OwnI.cut HV.out hk
    have HE : Hid (OwnI w base (zS (some ⟨g, 0, none⟩) (m + 1) cap) (digs (ev l))) := hend;clear hend
    go_wp2
    go_ret;exact ⟨_, rfl, HE.out, Below.refl _ _⟩
end Go.Proofs.YtcbjlbpkoneibaaGreatDoor
