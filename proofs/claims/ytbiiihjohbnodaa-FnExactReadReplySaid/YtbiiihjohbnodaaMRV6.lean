/-
  Texts of the proof.
-/
import Derived.OwnWalk
import Derived.Deep.AppendLies
import Derived.Deep.RegionLaw
import Derived.Deep.RegionHeld3
import Derived.Laws.OwnMore
import Derived.Test.YtbiiihjohbnodaaMRV5
set_option maxRecDepth 100000
set_option maxHeartbeats 25600000
namespace Go.Proofs.Ytbiiihjohbnodaa
open Go.RowKit Der
set_option linter.unusedVariables false
def cellsK {n : Nat} (ks : List (It (n + 1))) (kvs : List Value) : List Value := (ks.zip kvs).flatMap fun p => [.int .i64 (It.tag p.1), .string ⟨(It.text p.1).toArray⟩, p.2]
theorem cellsK_snoc {n : Nat} {ks : List (It (n + 1))} {kvs : List Value} (h : ks.length = kvs.length) (x : It (n + 1)) (k : Value) : cellsK (ks ++ [x]) (kvs ++ [k]) = cellsK ks kvs ++ [.int .i64 (It.tag x), .string ⟨(It.text x).toArray⟩, k] := by
 unfold cellsK
 rw [List.zip_append h, List.flatMap_append]
 rfl
theorem cellsK_len {n : Nat} : ∀ {ks : List (It (n + 1))} {kvs : List Value}, ks.length = kvs.length -> (cellsK ks kvs).length = ks.length * 3
 | [], [], _ => rfl
 | [], _ :: _, h => by simp at h
 | _ :: _, [], h => by simp at h
 | x :: ks, k :: kvs, h => by
  have ih := cellsK_len (ks := ks) (kvs := kvs) (by simpa using h)
  unfold cellsK at ih |-
  rw [List.zip_cons_cons, List.flatMap_cons, List.length_append, ih]
  simp
  omega
theorem cellsK_at {n : Nat} : ∀ {ks : List (It (n + 1))} {kvs : List Value} (h : ks.length = kvs.length) (j : Nat) (hj : j < ks.length), (cellsK ks kvs)[j * 3]? = some (.int .i64 (It.tag ks[j])) /\ (cellsK ks kvs)[j * 3 + 1]? = some (.string ⟨(It.text ks[j]).toArray⟩) /\ (cellsK ks kvs)[j * 3 + 2]? = some (kvs[j]'(by omega))
 | [], _, _, _, hj => by simp at hj
 | _ :: _, [], h, _, _ => by simp at h
 | x :: ks, k :: kvs, h, 0, hj => by
  unfold cellsK
  rw [List.zip_cons_cons, List.flatMap_cons]
  exact ⟨rfl, rfl, rfl⟩
 | x :: ks, k :: kvs, h, j + 1, hj => by
  have ih := cellsK_at (ks := ks) (kvs := kvs) (by simpa using h) j (by simpa using hj)
  have e : cellsK (x :: ks) (k :: kvs) = .int .i64 (It.tag x) :: .string ⟨(It.text x).toArray⟩ :: k :: cellsK ks kvs := by
   unfold cellsK
   rw [List.zip_cons_cons, List.flatMap_cons]
   rfl
  rw [e, show (j + 1) * 3 = j * 3 + 3 by omega]
  exact ih
def GrowK (w : World) (base n : Nat) (v : Value) (ks : List (It (n + 1))) : Prop := ∃ (kvs : List Value) (fps : List (List Nat)), ks.length = kvs.length /\ ks.length = fps.length /\ w.ownsRow base 67 3 v ks.length (cellsK ks kvs) /\ fps.flatten.Nodup /\ (∀ g, v.ownBlock = some g -> g ∉ fps.flatten) /\
 ∀ j (h1 : j < ks.length) (h2 : j < kvs.length) (h3 : j < fps.length), OwnK w base n kvs[j] (It.kids ks[j]) fps[j]
theorem GrowK.nil (w : World) (base n : Nat) : GrowK w base n (.slice none 0 0) [] := ⟨[], [], rfl, rfl, World.ownsRow_nil _ _ _ _, by simp, fun g hg => by simp [Value.ownBlock] at hg, fun j h => absurd h (Nat.not_lt_zero _)⟩
theorem GrowK.shape {w : World} {base n : Nat} {v : Value} {ks : List (It (n + 1))} (h : GrowK w base n v ks) : ∃ ao cap, v = .slice ao ks.length cap := by
 obtain ⟨kvs, fps, h1, h2, ho, _⟩ := h
 rcases ho.2 with ⟨h, h0⟩ | ⟨g, cap, cur, hv, _⟩
 ·exact ⟨none, 0, by rw [h, h0]⟩
 ·exact ⟨_, cap, hv⟩
theorem GrowK.lt {w : World} {base n : Nat} {v : Value} {ks : List (It (n + 1))} (h : GrowK w base n v ks) : ∀ g, v.ownBlock = some g -> base <= g /\ g < w.heap.size := by
 obtain ⟨kvs, fps, h1, h2, ho, _⟩ := h
 exact ho.lt
theorem own_kept {w w' : World} {base : Nat} {e : TypeId} {size : Nat} {v : Value} {n : Nat} {xs : List Value} (h : w.ownsRow base e size v n xs) (hb : Below w.heap.size w w') : w'.ownsRow base e size v n xs :=
 h.kept ⟨hb.os, hb.tape, hb.output, hb.size, fun k hk _ => hb.block k hk⟩ (row := none) (by cases hv : v.ownBlock <;> simp)
theorem GrowK.own {w : World} {base n : Nat} {v : Value} {ks : List (It (n + 1))} (h : GrowK w base n v ks) : ∃ fp, OwnK w base (n + 1) v ks fp := by
 obtain ⟨kvs, fps, h1, h2, ho, h3, h4, h5⟩ := h
 rcases ho.2 with ⟨hv, h0⟩ | ⟨g, cap, cur, hv, hbg, hg, hnc, hcm, hcs, htk⟩
 ·exact ⟨[], none, 0, by rw [hv, h0], fun _ => rfl, fun hp => by omega⟩
 ·by_cases hp : 0 < ks.length
  ·refine ⟨g :: fps.flatten, some ⟨g, 0, none⟩, cap, hv, fun h => by omega, fun _ => ⟨g, 0, cap * 3, fun j => cur.getD j (.int .i64 0), fps, rfl, hbg, rowV_of hg hcs, by omega, rfl, ?_, h2.symm, fun j hj hj2 => ?_⟩⟩
   ·rw [List.nodup_cons]
    exact ⟨h4 g (by rw [hv]; rfl), h3⟩
   ·obtain ⟨c0, c1, c2⟩ := cellsK_at h1 j hj
    have hcell : ∀ q u, (cellsK ks kvs)[q]? = some u -> cur.getD q (.int .i64 0) = u := fun q u hq => by
     rw [<- htk, List.getElem?_take] at hq
     split at hq
     ·rw [Array.getElem?_toList] at hq
      simp [Array.getD_eq_getD_getElem?, hq]
     ·cases hq
    show cur.getD (0 + j * 3) _ = _ /\ cur.getD (0 + j * 3 + 1) _ = _ /\ OwnK w base n (cur.getD (0 + j * 3 + 2) _) _ _
    rw [Nat.zero_add, hcell _ _ c0, hcell _ _ c1, hcell _ _ c2]
    exact ⟨rfl, rfl, h5 j hj (by omega) hj2⟩
  ·exact ⟨[], some ⟨g, 0, none⟩, cap, hv, fun _ => rfl, fun h => absurd h hp⟩
theorem news_three (w : World) (a b c : Value) (t : TypeId) : ∀ j u, [a, b, c][j]? = some u -> (w.alloc (.cells #[a, b, c] t)).cell? ((⟨w.heap.size, 0, none⟩ : Addr).add j) = some u := by
 intro j u hj
 rw [Addr.add_lit, Nat.zero_add, World.cell?_alloc_mark w _ t _ j]
 simpa using hj
theorem nodup_app {a b : List Nat} (ha : a.Nodup) (hb : b.Nodup) (hd : ∀ x ∈ a, x ∉ b) : (a ++ b).Nodup := List.nodup_append.2 ⟨ha, hb, fun x hx y hy e => hd x hx (e ▸ hy)⟩
theorem GrowK.snoc {wr w W w' : World} {base n g cap : Nat} {v : Value} {ks : List (It (n + 1))} {x : It (n + 1)} {kv : Value} {fp : List Nat} {kvs : List Value} {fps : List (List Nat)} (h1 : ks.length = kvs.length) (h2 : ks.length = fps.length) (hro : wr.ownsRow base 67 3 v ks.length (cellsK ks kvs)) (h3 : fps.flatten.Nodup) (h4 : ∀ g, v.ownBlock = some g -> g ∉ fps.flatten)
  (h5 : ∀ j (h1 : j < ks.length) (h2 : j < kvs.length) (h3 : j < fps.length), OwnK wr base n kvs[j] (It.kids ks[j]) fps[j]) (hb : Below wr.heap.size wr w) (hbase : base <= wr.heap.size) (ho : OwnK w wr.heap.size n kv (It.kids x) fp) (hW : Below w.heap.size w W)
  (hown : w'.ownsRow base 67 3 (.slice (some ⟨g, 0, none⟩) (ks.length + 1) cap) (ks.length + 1) (cellsK ks kvs ++ [.int .i64 (It.tag x), .string ⟨(It.text x).toArray⟩, kv])) (hgrow : W.grownBy w' v.ownBlock) (hg : v.ownBlock = some g ∨ w.heap.size <= g) :
  GrowK w' base n (.slice (some ⟨g, 0, none⟩) (ks.length + 1) cap) (ks ++ [x]) := by
 have old : ∀ y ∈ fps.flatten, y < wr.heap.size := fun y hy => by
  obtain ⟨q, hq, hyq⟩ := List.mem_flatten.1 hy
  obtain ⟨j, hj, rfl⟩ := List.getElem_of_mem hq
  exact (OwnK.lt (h5 j (by omega) (by omega) hj) y hyq).2
 have new : ∀ y ∈ fp, wr.heap.size <= y /\ y < w.heap.size := OwnK.lt ho
 have s1 := hb.size
 have s2 := hW.size
 refine ⟨kvs ++ [kv], fps ++ [fp], by simp [h1], by simp [h2], ?_, ?_, ?_, ?_⟩
 ·rw [cellsK_snoc h1, List.length_append, List.length_singleton]
  exact hown
 ·rw [List.flatten_append, List.flatten_singleton]
  refine nodup_app h3 (OwnK.nodup ho) fun y hy hy2 => ?_
  have a := old y hy
  have b := (new y hy2).1
  omega
 ·intro q hq hm
  obtain rfl : g = q := by simpa [Value.ownBlock] using hq
  rw [List.flatten_append, List.flatten_singleton, List.mem_append] at hm
  rcases hg with hg | hg
  ·rcases hm with hm | hm
   ·exact h4 g hg hm
   ·have a := (hro.lt g hg).2
    have b := (new g hm).1
    omega
  ·rcases hm with hm | hm
   ·have := old g hm; omega
   ·have := (new g hm).2; omega
 ·intro j a b c
  by_cases hj : j < ks.length
  ·have e1 : (ks ++ [x])[j] = ks[j] := List.getElem_append_left hj
   have e2 : (kvs ++ [kv])[j] = kvs[j]'(by omega) := List.getElem_append_left (by omega)
   have e3 : (fps ++ [fp])[j] = fps[j]'(by omega) := List.getElem_append_left (by omega)
   rw [e1, e2, e3]
   refine (h5 j hj (by omega) (by omega)).same fun y hy => ?_
   have hy2 : y ∈ fps.flatten := List.mem_flatten.2 ⟨_, List.getElem_mem (by omega), hy⟩
   have hlt := old y hy2
   rw [hgrow.block y (by omega) (fun e => h4 y e.symm hy2), hW.block y (by omega), hb.block y hlt]
  ·have hj2 : j = ks.length := by simp at a; omega
   subst hj2
   have e1 : (ks ++ [x])[ks.length] = x := by simp
   have e2 : (kvs ++ [kv])[ks.length] = kv := by simp [h1]
   have e3 : (fps ++ [fp])[ks.length] = fp := by simp [h2]
   rw [e1, e2, e3]
   refine (OwnK.base hbase ho).same fun y hy => ?_
   have hlt := new y hy
   rw [hgrow.block y (by omega) (fun e => by have := (hro.lt y e.symm).2; omega), hW.block y hlt.2]
theorem wpList_append_item {wr w : World} {ops : Array Oper} {rest : List Oper} {o : Oper} {a : Act} {Q : Exit -> Act -> World -> Prop} (hgd : o.guard = none) (p q : Operand) (ho : o.op = .call { callee := .builtin .append, args := #[p, q], argTypes := #[65, 65] })
  (base n : Nat) (v : Value) (ks : List (It (n + 1))) (x : It (n + 1)) (t : Int) (s : ByteArray) (kv : Value) (fp : List Nat) (ht : It.tag x = t) (hs : (⟨(It.text x).toArray⟩ : ByteArray) = s) (hp : a.eval p = v) (H : Nat) (hq : a.eval q = .slice (some ⟨H, 0, none⟩) 1 1) (hH : w.heap.size = H) (hG : GrowK wr base n v ks) (hb : Below wr.heap.size wr w) (hk : OwnK w wr.heap.size n kv (It.kids x) fp) (hbase : base <= wr.heap.size) (hl : ks.length <= 1000000000)
  (h : ∀ g cap w', GrowK w' base n (.slice (some ⟨g, 0, none⟩) (ks.length + 1) cap) (ks ++ [x]) -> (w.alloc (.cells #[.int .i64 t, .string s, kv] 67)).grownBy w' v.ownBlock -> wpList Try.prog ops Q rest (a.put o.dst (.slice (some ⟨g, 0, none⟩) (ks.length + 1) cap)) w') :
  wpList Try.prog ops Q (o :: rest) a (w.alloc (.cells #[.int .i64 t, .string s, kv] 67)) := by
 subst ht hs hH
 obtain ⟨kvs, fps, h1, h2, hro, h3, h4, h5⟩ := hG
 obtain ⟨i0, hi, hz0, hz1, hz2⟩ := infoItem_parts
 obtain ⟨ao, cap, hkv⟩ := hk.shape
 have hb1 : Below w.heap.size w (w.alloc (.cells #[.int .i64 (It.tag x), .string ⟨(It.text x).toArray⟩, kv] 67)) := (Below.refl _ _).alloc (Nat.le_refl _) _
 have hbw := hb.trans (hb1.mono hb.size)
 refine wpList_append_lies _ hgd p q 65 ho base 67 i0 (.agg #[.int .i64 0, .string ⟨#[]⟩, .slice none 0 0]) 3 48 Try.underlying65 hi hz0 hz1 hz2 rfl (by decide) v ks.length (cellsK ks kvs) hp (own_kept hro hbw)
  ⟨w.heap.size, 0, none⟩ 1 1 [.int .i64 (It.tag x), .string ⟨(It.text x).toArray⟩, kv] hq rfl (news_three w _ _ _ _) (by
   intro u hu
   simp only [List.mem_cons, List.not_mem_nil, or_false] at hu
   rcases hu with rfl | rfl | rfl
   ·rfl
   ·rfl
   ·rw [hkv]; rfl) (by decide) (by unfold maxLen; omega) (by omega) (Nat.le_trans hbase hbw.size) _ rfl ?_
 intro g cap w' hown hgrow hg _
 refine h g cap w' (GrowK.snoc h1 h2 hro h3 h4 h5 hb hbase hk hb1 hown hgrow ?_) hgrow
 rcases hg with hg | hg
 ·exact .inl hg
 ·exact .inr (by rw [hg]; exact hb1.size)
theorem step_append_item0 {wr w : World} {ops : Array Oper} {o : Oper} {a : Act} {K : Act -> World -> Prop} {Q : Exit -> Act -> World -> Prop} {E : Prop} (hgd : o.guard = none) (p q : Operand) (ho : o.op = .call { callee := .builtin .append, args := #[p, q], argTypes := #[65, 65] })
  (base n : Nat) (v : Value) (ks : List (It (n + 1))) (x : It (n + 1)) (t : Int) (s : ByteArray) (kv : Value) (fp : List Nat) (ht : It.tag x = t) (hs : (⟨(It.text x).toArray⟩ : ByteArray) = s) (hp : a.eval p = v) (H : Nat) (hq : a.eval q = .slice (some ⟨H, 0, none⟩) 1 1) (hH : w.heap.size = H) (hG : GrowK wr base n v ks) (hb : Below wr.heap.size wr w) (hk : OwnK w wr.heap.size n kv (It.kids x) fp) (hbase : base <= wr.heap.size) (hl : ks.length <= 1000000000)
  (h : ∀ g cap w', GrowK w' base n (.slice (some ⟨g, 0, none⟩) (ks.length + 1) cap) (ks ++ [x]) -> (w.alloc (.cells #[.int .i64 t, .string s, kv] 67)).grownBy w' v.ownBlock -> K (a.put o.dst (.slice (some ⟨g, 0, none⟩) (ks.length + 1) cap)) w') :
  if Region.wanted o (yielded ops a.tmps) = true then Oper.wp Try.prog o a (w.alloc (.cells #[.int .i64 t, .string s, kv] 67)) K Q else E := by
 subst ht hs hH
 obtain ⟨kvs, fps, h1, h2, hro, h3, h4, h5⟩ := hG
 obtain ⟨i0, hi, hz0, hz1, hz2⟩ := infoItem_parts
 obtain ⟨ao, cap, hkv⟩ := hk.shape
 have hb1 : Below w.heap.size w (w.alloc (.cells #[.int .i64 (It.tag x), .string ⟨(It.text x).toArray⟩, kv] 67)) := (Below.refl _ _).alloc (Nat.le_refl _) _
 have hbw := hb.trans (hb1.mono hb.size)
 refine step_append_lies _ hgd p q 65 ho base 67 i0 (.agg #[.int .i64 0, .string ⟨#[]⟩, .slice none 0 0]) 3 48 Try.underlying65 hi hz0 hz1 hz2 rfl (by decide) v ks.length (cellsK ks kvs) hp (own_kept hro hbw)
  ⟨w.heap.size, 0, none⟩ 1 1 [.int .i64 (It.tag x), .string ⟨(It.text x).toArray⟩, kv] hq rfl (news_three w _ _ _ _) (by
   intro u hu
   simp only [List.mem_cons, List.not_mem_nil, or_false] at hu
   rcases hu with rfl | rfl | rfl
   ·rfl
   ·rfl
   ·rw [hkv]; rfl) (by decide) (by unfold maxLen; omega) (by omega) (Nat.le_trans hbase hbw.size) _ rfl ?_
 intro g cap w' hown hgrow hg _
 refine h g cap w' (GrowK.snoc h1 h2 hro h3 h4 h5 hb hbase hk hb1 hown hgrow ?_) hgrow
 rcases hg with hg | hg
 ·exact .inl hg
 ·exact .inr (by rw [hg]; exact hb1.size)
theorem step_call {P : Program} {ops : Array Oper} {o : Oper} {a : Act} {w : World} {K : Act -> World -> Prop} {Q : Exit -> Act -> World -> Prop} {E : Prop} (hgd : o.guard = none) (f : Nat) (xs : Array Operand) (tys : Array TypeId) (hop : o.op = .call { callee := .value (.func f), args := xs, argTypes := tys })
  (vs : Array Value) (hv0 : xs.toList.map a.eval = vs.toList) (hr : (callFunc f vs).run P w = .ok (.enter f vs) w)
  (h : Calls P f vs w fun | .returned v, w'' => K (a.put o.dst v) w'' | .panicked chain, w'' => Q (.panic chain) a w'' | .outgrown, _ => LetsOut Q) :
  if Region.wanted o (yielded ops a.tmps) = true then Oper.wp P o a w K Q else E := by
 have hw : Region.wanted o (yielded ops a.tmps) = true := by simp [Region.wanted, hgd]
 rw [if_pos hw]
 have hv : xs.map a.eval = vs := Array.ext' (by rw [Array.toList_map]; exact hv0)
 have e : (execOp a.eval o).run P w = .ok (.enter f vs) w := by
  simp [execOp, hop, resolve, invoke, Deferred.ofValue, Act.eval, hv, hr]
 unfold Oper.wp
 rw [e]
 exact h
theorem plain_any (t : Int) (s : List UInt8) (kv : Value) (w : World) (hs : s.length <= 20000000) :
  Calls Try.prog 122 #[.agg #[.int .i64 t, .string ⟨s.toArray⟩, kv]] w fun e w' => e = .returned (.bool (plainOk t s)) /\ Below w.heap.size w w' := by
 have HL := one_laid w (.int .i64 t) (.string ⟨s.toArray⟩) kv 67
 by_cases h1 : t = 1
 ·subst h1
  have HN : Hid (plainOk 1 s = (s == [0] || s == [255])) := rfl
  by_cases e0 : s = [0]
  ·subst e0
   go_enter Try.func122, Try.ntmps122
   go_wp2_with fail
   go_ret
   exact ⟨by rw [HN.out]; rfl, (HL _ rfl).1⟩
  ·by_cases e1 : s = [255]
   ·subst e1
    go_enter Try.func122, Try.ntmps122
    go_wp2_with fail
    go_ret
    exact ⟨by rw [HN.out]; rfl, (HL _ rfl).1⟩
   ·have f0 : (s == [0]) = false := by simpa using e0
    have f1 : (s == [255]) = false := by simpa using e1
    have HR : Hid (plainOk 1 s = false) := by show plainOk 1 s = false; rw [HN.out, f0, f1]; rfl
    go_enter Try.func122, Try.ntmps122
    go_wp2_with fail
    go_ret
    exact ⟨by rw [HR.out]; rfl, (HL _ rfl).1⟩
 by_cases h2 : t = 2
 ·subst h2
  have hsz : (⟨s.toArray⟩ : ByteArray).size = s.length := by show s.toArray.size = _; simp
  by_cases hl : 1 <= s.length /\ s.length <= 5
  ·obtain ⟨b, r, rfl⟩ : ∃ b r, s = b :: r := by
    cases s with
    | nil => simp at hl
    | cons b r => exact ⟨b, r, rfl⟩
   have hg0 : ∀ h, (⟨(b :: r).toArray⟩ : ByteArray)[0]'h = b := fun h => rfl
   by_cases hb : 128 <= b.toNat
   ·have HR : Hid (plainOk 2 (b :: r) = false) := by
     show plainOk 2 (b :: r) = false
     unfold plainOk
     rw [if_neg (by decide), if_pos rfl]
     have : ¬ b < 128 := by rw [UInt8.lt_iff_toNat_lt]; simpa using hb
     simp [this]
    have hbi : (128 : Int) <= (b.toNat : Int) := by omega
    go_enter Try.func122, Try.ntmps122
    go_wp2_with fail
    refine (in_yes _ 1 5 _ (by simp at hl |-; omega) (by simp at hl |-; omega)).mono ?_
    rintro e w' ⟨rfl, rfl⟩
    go_wp2_with fail
    go_ret
    exact ⟨by rw [HR.out]; rfl, (HL _ rfl).1⟩
   ·have hbi : ¬ (128 : Int) <= (b.toNat : Int) := by omega
    have hblt : b < 128 := by rw [UInt8.lt_iff_toNat_lt]; simpa using hb
    by_cases hb0 : b.toNat = 0
    ·have hb00 : b = 0 := UInt8.toNat_inj.1 (by simpa using hb0)
     subst hb00
     cases r with
     | nil =>
      have HR : Hid (plainOk 2 [0] = true) := by show plainOk 2 [0] = true; decide
      go_enter Try.func122, Try.ntmps122
      go_wp2_with fail
      refine (in_yes _ 1 5 _ (by simp) (by simp)).mono ?_
      rintro e w' ⟨rfl, rfl⟩
      go_wp2_with fail
      go_ret
      exact ⟨by rw [HR.out]; rfl, (HL _ rfl).1⟩
     | cons c r =>
      have hg1 : ∀ h, (⟨(0 :: c :: r).toArray⟩ : ByteArray)[1]'h = c := fun h => rfl
      have hrl : ¬ ((r.length : Int) + 1 + 1 = 1) := by omega
      have HR : Hid (plainOk 2 (0 :: c :: r) = decide ((128 : Int) <= (c.toNat : Int))) := by
       show plainOk 2 (0 :: c :: r) = _
       unfold plainOk
       rw [if_neg (by decide), if_pos rfl]
       have h5 : r.length + 1 + 1 <= 5 := by simpa using hl.2
       have e : ((128 : UInt8) <= c) = ((128 : Int) <= (c.toNat : Int)) := by
        rw [UInt8.le_iff_toNat_le]
        show (128 <= c.toNat) = _
        exact propext ⟨fun h => by omega, fun h => by omega⟩
       simp [h5, e]
      go_enter Try.func122, Try.ntmps122
      go_wp2_with fail
      refine (in_yes _ 1 5 _ (by simp at hl |-; omega) (by simp at hl |-; omega)).mono ?_
      rintro e w' ⟨rfl, rfl⟩
      go_wp2_with fail
      go_ret
      exact ⟨by rw [HR.out]; rfl, (HL _ rfl).1⟩
    ·have hbz : ¬ (b.toNat : Int) = 0 := by omega
     have HR : Hid (plainOk 2 (b :: r) = true) := by
      show plainOk 2 (b :: r) = true
      unfold plainOk
      rw [if_neg (by decide), if_pos rfl]
      have h5 : r.length + 1 <= 5 := by simpa using hl.2
      have hne : b ≠ 0 := fun e => hb0 (by rw [e]; rfl)
      simp [hblt, h5, hne]
     go_enter Try.func122, Try.ntmps122
     go_wp2_with fail
     refine (in_yes _ 1 5 _ (by simp at hl |-; omega) (by simp at hl |-; omega)).mono ?_
     rintro e w' ⟨rfl, rfl⟩
     go_wp2_with fail
     go_ret
     exact ⟨by rw [HR.out]; rfl, (HL _ rfl).1⟩
  ·have HR : Hid (plainOk 2 s = false) := by
    show plainOk 2 s = false
    unfold plainOk
    rw [if_neg (by decide), if_pos rfl]
    by_cases h1 : 1 <= s.length
    ·have h5 : ¬ s.length <= 5 := fun h => hl ⟨h1, h⟩
     simp [h5]
    ·simp [h1]
   go_enter Try.func122, Try.ntmps122
   go_wp2_with fail
   refine (in_no _ 1 5 _ (by omega)).mono ?_
   rintro e w' ⟨rfl, rfl⟩
   go_wp2_with fail
   go_ret
   exact ⟨by rw [HR.out]; rfl, (HL _ rfl).1⟩
 by_cases h12 : t = 12
 ·subst h12
  obtain ⟨W2, hW2⟩ : ∃ W, W = w.alloc (Obj.cells #[Value.int IntKind.i64 12, Value.string { data := s.toArray }, kv] 67) := ⟨_, rfl⟩
  have HW := HL W2 hW2
  have c1 := HW.2.2.2.1
  have hb := HW.1
  have hsz : (⟨s.toArray⟩ : ByteArray).size = s.length := by show s.toArray.size = _; simp
  go_enter Try.func122, Try.ntmps122
  go_wp2_with fail
  rw [<- hW2]
  clear HL hW2 HW
  go_loopw [3] (fun iv wr => ∃ k : Nat, k <= s.length /\ iv = .int .i64 (k : Int) /\ wr = W2 /\ Hid (∀ j (hj : j < s.length), j < k -> 32 <= s[j].toNat /\ s[j].toNat <= 126)) (fun iv _ => s.length - (intOf iv).toNat)
  case atStart => exact ⟨0, Nat.zero_le _, rfl, rfl, fun j _ h => absurd h (Nat.not_lt_zero _)⟩
  case round =>
   obtain ⟨k, hk, rfl, rfl, HP⟩ := hrel
   by_cases hlt : k < s.length
   ·have hlti : (k : Int) < (s.length : Int) := by omega
    have hk0 : (0 : Int) <= (k : Int) := by omega
    obtain ⟨b, hbk⟩ := zE (s[k])
    have hgk : ∀ h, (⟨s.toArray⟩ : ByteArray)[k]'h = b := fun h => by rw [<- hbk]; rfl
    by_cases hok : 32 <= b.toNat /\ b.toNat <= 126
    ·have HN : Hid (∀ j (hj : j < s.length), j < k + 1 -> 32 <= s[j].toNat /\ s[j].toNat <= 126) := fun j hj hjk => by
      by_cases e : j = k
      ·subst e; rw [hbk]; exact hok
      ·exact HP.out j hj (by omega)
     have h1 : ¬ (b.toNat : Int) < 32 := by omega
     have h2 : ¬ (126 : Int) < (b.toNat : Int) := by omega
     clear hbk HP hok
     go_wp2_with fail
     go_roundw
     case rel => exact ⟨k + 1, by omega, by go_num, by trivial, HN.out⟩
     case measure => simp [intOf]; omega
    ·have HR : Hid (plainOk 12 s = false) := by
      show plainOk 12 s = false
      unfold plainOk
      rw [if_neg (by decide), if_neg (by decide), if_pos rfl, List.all_eq_false]
      refine ⟨s[k], List.getElem_mem hlt, ?_⟩
      rw [hbk]
      simp only [Bool.and_eq_true, decide_eq_true_eq, UInt8.le_iff_toNat_le]
      exact fun h => hok ⟨h.1, h.2⟩
     clear HP
     by_cases h1 : (b.toNat : Int) < 32
     ·go_wp2_with fail
      go_ret
      exact ⟨by rw [HR.out]; rfl, hb⟩
     ·have h2 : (126 : Int) < (b.toNat : Int) := by omega
      go_wp2_with fail
      go_ret
      exact ⟨by rw [HR.out]; rfl, hb⟩
   ·have hlti : ¬ (k : Int) < (s.length : Int) := by omega
    have HR : Hid (plainOk 12 s = true) := by
     show plainOk 12 s = true
     unfold plainOk
     rw [if_neg (by decide), if_neg (by decide), if_pos rfl, List.all_eq_true]
     intro b hbm
     obtain ⟨j, hj, rfl⟩ := List.getElem_of_mem hbm
     have := HP.out j hj (by omega)
     simp only [Bool.and_eq_true, decide_eq_true_eq, UInt8.le_iff_toNat_le]
     exact this
    go_wp2_with fail
    go_ret
    exact ⟨by rw [HR.out]; rfl, hb⟩
 ·have HN : Hid (plainOk t s = decide (t = 4)) := by
   show plainOk t s = decide (t = 4)
   unfold plainOk
   rw [if_neg h1, if_neg h2, if_neg h12]
  go_enter Try.func122, Try.ntmps122
  go_wp2_with fail
  go_ret
  exact ⟨by rw [HN.out]; rfl, (HL _ rfl).1⟩
def RightC (n : Nat) : Prop := ∀ (x : It n) (v : Value) (d : Nat) (w : World), ItAt w n v x -> szI n x <= 20000000 -> d <= 6 -> Calls Try.prog 108 #[v, .int .i64 (d : Int)] w fun e w' => e = .returned (.bool (rightI n x d)) /\ Below w.heap.size w w'
theorem right_step (n : Nat) (IH : Hid (RightC n)) (t : Int) (s : List UInt8) (ks : List (It n)) (a : Value) (d : Nat) (w : World) (hx : KidsAt w (ItAt w n) a ks) (hz : szI (n + 1) (It.mk t s ks) <= 20000000) (hd : d <= 6) :
  Calls Try.prog 108 #[.agg #[.int .i64 t, .string ⟨s.toArray⟩, a], .int .i64 (d : Int)] w fun e w' => e = .returned (.bool (rightI (n + 1) (It.mk t s ks) d)) /\ Below w.heap.size w w' := by
 have hx0 := hx
 obtain ⟨ax, cx, rfl, _⟩ := hx0
 have hsz := szI_kid hz
 obtain ⟨l, hle⟩ := zE (ks.length)
 have HE : Hid (ks.length = l /\ szI (n + 1) (It.mk t s ks) <= 20000000) := ⟨hle, hz⟩
 have hlb : l <= 20000000 := by rw [<- hle]; exact hsz.2.1
 rw [hle] at hx |-
 have HX : Hid (KidsAt w (ItAt w n) (.slice ax l cx) ks) := hx
 have HL := one_laid w (.int .i64 t) (.string ⟨s.toArray⟩) (.slice ax l cx) 67
 have HN : Hid (rightI (n + 1) (It.mk t s ks) d = (if t ≠ 48 then decide (ks.length = 0) && plainOk t s else decide (s.length = 0) && decide (ks.length <= 40) && decide (d < 6) && ks.all fun y => rightI n y (d + 1))) := rfl
 obtain ⟨W2, hW2⟩ : ∃ W, W = w.alloc (Obj.cells #[Value.int IntKind.i64 t, Value.string { data := s.toArray }, Value.slice ax l cx] 67) := ⟨_, rfl⟩
 have HW := HL W2 hW2
 have HW2 : Hid (Below w.heap.size w W2 /\ w.heap.size < W2.heap.size /\ W2.cell? ⟨w.heap.size, 2, none⟩ = some (.slice ax l cx)) := ⟨HW.1, HW.2.1, HW.2.2.2.2⟩
 clear hx hz hle
 by_cases h48 : t = 48
 ·subst h48
  have hssz : (⟨s.toArray⟩ : ByteArray).size = s.length := by show s.toArray.size = _; simp
  by_cases hs0 : s = []
  ·subst hs0
   by_cases hl40 : l <= 40
   ·by_cases hd6 : d < 6
    ·have hl40i : ¬ (40 : Int) < (l : Int) := by omega
     have hd6i : ¬ (6 : Int) <= (d : Int) := by omega
     have hdw : IntKind.i64.wrap ((d : Int) + 1) = ((d + 1 : Nat) : Int) := by rw [IntKind.wrap_i64]; omega
     have HR0 : Hid (rightI (n + 1) (It.mk 48 [] ks) d = ks.all fun y => rightI n y (d + 1)) := by
      show rightI (n + 1) (It.mk 48 [] ks) d = _
      rw [HN.out, HE.out.1]
      simp [hl40, hd6]
     clear HL HW hsz
     go_enter Try.func108, Try.ntmps108
     go_wp2_with fail
     rw [<- hW2]
     clear hW2
     go_loopw [5] (fun iv wr => ∃ k : Nat, k <= l /\ iv = .int .i64 (k : Int) /\ Hid (Below W2.heap.size W2 wr /\ ∀ j (hj : j < ks.length), j < k -> rightI n ks[j] (d + 1) = true)) (fun iv _ => l - (intOf iv).toNat)
     case atStart => exact ⟨0, Nat.zero_le _, rfl, Below.refl _ _, fun j _ h => absurd h (Nat.not_lt_zero _)⟩
     case round =>
      obtain ⟨k, hk, rfl, HB⟩ := hrel
      have p1 : wr.cell? ⟨w.heap.size, 2, none⟩ = some (.slice ax l cx) := (HB.out.1.cell (p := ⟨w.heap.size, 2, none⟩) HW2.out.2.1).trans HW2.out.2.2
      have HWR : Hid (Below w.heap.size w wr) := HW2.out.1.trans (HB.out.1.mono HW2.out.1.size)
      by_cases hlt : k < l
      ·have hlti : (k : Int) < (l : Int) := by omega
       have hk0 : (0 : Int) <= (k : Int) := by omega
       have hj1 : k < ks.length := by rw [HE.out.1]; exact hlt
       obtain ⟨g1, o1, t1, s1, k1, hax, hg1, hc1, hi1⟩ := HX.out.get hj1
       obtain ⟨c10, c11, c12⟩ := Cells3.below (w' := wr) (t := t1) (s := s1) (k := k1) hc1 hg1 HWR.out
       have HR := IH.out ks[k] (.agg #[t1, s1, k1]) (d + 1) wr (ItAt.below HWR.out hi1) ((szI_kid HE.out.2).2.2 _ (List.getElem_mem hj1)) (by omega)
       rw [show ((d + 1 : Nat) : Int) = (d : Int) + 1 by omega] at HR
       subst hax
       clear hc1 hi1 hg1
       cases hb : rightI n ks[k] (d + 1) with
       | true =>
        rw [hb] at HR
        have HT : Hid (∀ j (hj : j < ks.length), j < k + 1 -> rightI n ks[j] (d + 1) = true) := fun j hj hjk => by
         by_cases e : j = k
         ·subst e; exact hb
         ·exact HB.out.2 j hj (by omega)
        clear hb
        go_wp2_with fail
        refine HR.mono ?_
        rintro e w3 ⟨rfl, hb3⟩
        have H3 : Hid (Below W2.heap.size W2 w3) := HB.out.1.trans (hb3.mono HB.out.1.size)
        clear HR hb3 c10 c11 c12 p1
        go_wp2_with fail
        exact ⟨⟨k + 1, by omega, by go_num, H3.out, HT.out⟩, by simp [intOf]; omega⟩
       | false =>
        rw [hb] at HR
        have HF : Hid (rightI (n + 1) (It.mk 48 [] ks) d = false) := by
         show rightI (n + 1) (It.mk 48 [] ks) d = false
         rw [HR0.out, List.all_eq_false]
         exact ⟨ks[k], List.getElem_mem hj1, by rw [hb]; simp⟩
        clear hb
        go_wp2_with fail
        refine HR.mono ?_
        rintro e w3 ⟨rfl, hb3⟩
        have H3 : Hid (Below w.heap.size w w3) := HWR.out.trans (hb3.mono HWR.out.size)
        clear HR hb3 c10 c11 c12 p1
        go_wp2_with fail
        go_ret
        exact ⟨by rw [HF.out]; rfl, H3.out⟩
      ·have hlti : ¬ (k : Int) < (l : Int) := by omega
       have HF : Hid (rightI (n + 1) (It.mk 48 [] ks) d = true) := by
        show rightI (n + 1) (It.mk 48 [] ks) d = true
        rw [HR0.out, List.all_eq_true]
        intro y hy
        obtain ⟨j, hj, rfl⟩ := List.getElem_of_mem hy
        exact HB.out.2 j hj (by have := HE.out.1; omega)
       go_wp2_with fail
       go_ret
       exact ⟨by rw [HF.out]; rfl, HWR.out⟩
    ·have hl40i : ¬ (40 : Int) < (l : Int) := by omega
     have hd6i : (6 : Int) <= (d : Int) := by omega
     have HF : Hid (rightI (n + 1) (It.mk 48 [] ks) d = false) := by
      show rightI (n + 1) (It.mk 48 [] ks) d = false
      rw [HN.out]
      simp [hd6]
     go_enter Try.func108, Try.ntmps108
     go_wp2_with fail
     go_ret
     exact ⟨by rw [HF.out]; rfl, (HL _ rfl).1⟩
   ·have hl40i : (40 : Int) < (l : Int) := by omega
    have HF : Hid (rightI (n + 1) (It.mk 48 [] ks) d = false) := by
     show rightI (n + 1) (It.mk 48 [] ks) d = false
     rw [HN.out, HE.out.1]
     simp [hl40]
    go_enter Try.func108, Try.ntmps108
    go_wp2_with fail
    go_ret
    exact ⟨by rw [HF.out]; rfl, (HL _ rfl).1⟩
  ·have hsn : (s == []) = false := by simpa using hs0
   have hsl : ¬ s.length = 0 := fun h => hs0 (List.eq_nil_of_length_eq_zero h)
   have HF : Hid (rightI (n + 1) (It.mk 48 s ks) d = false) := by
    show rightI (n + 1) (It.mk 48 s ks) d = false
    rw [HN.out]
    simp [hsl]
   go_enter Try.func108, Try.ntmps108
   go_wp2_with fail
   go_ret
   exact ⟨by rw [HF.out]; rfl, (HL _ rfl).1⟩
 ·have h48b : (t != 48) = true := by simpa using h48
  by_cases hl0 : l = 0
  ·subst hl0
   have HF : Hid (rightI (n + 1) (It.mk t s ks) d = plainOk t s) := by
    show rightI (n + 1) (It.mk t s ks) d = plainOk t s
    rw [HN.out, HE.out.1, if_pos h48]
    simp
   have EP := plain_any t s (.slice ax 0 cx) W2 hsz.1
   obtain ⟨P, hP⟩ := zE (plainOk t s)
   rw [hP] at EP HF
   clear hP HL
   go_enter Try.func108, Try.ntmps108
   go_wp2_with fail
   rw [<- hW2]
   refine EP.mono ?_
   rintro e w3 ⟨rfl, hb3⟩
   have H3 : Hid (Below w.heap.size w w3) := HW2.out.1.trans (hb3.mono HW2.out.1.size)
   clear hb3 EP HW hW2
   go_wp2_with fail
   go_ret
   exact ⟨by rw [HF.out]; rfl, H3.out⟩
  ·have hl0i : ¬ (l : Int) = 0 := by omega
   have HF : Hid (rightI (n + 1) (It.mk t s ks) d = false) := by
    show rightI (n + 1) (It.mk t s ks) d = false
    rw [HN.out, HE.out.1, if_pos h48]
    simp [hl0]
   go_enter Try.func108, Try.ntmps108
   go_wp2_with fail
   go_ret
   exact ⟨by rw [HF.out]; rfl, (HL _ rfl).1⟩
theorem itRight_any : ∀ (n : Nat), RightC n
 | 0 => fun _ _ _ _ h _ _ => h.elim
 | n + 1 => fun x v d w hx hz hd => by
  obtain ⟨kx, rfl, hkx⟩ := hx
  exact right_step n (itRight_any n) (It.tag x) (It.text x) (It.kids x) kx d w hkx hz hd
theorem ItAt.parts {w : World} : ∀ {n : Nat} {v : Value} {x : It n}, ItAt w n v x -> ∃ (t : Int) (s : ByteArray) (ao : Option Addr) (l cap : Nat), v = .agg #[.int .i64 t, .string s, .slice ao l cap]
 | 0, _, _, h => h.elim
 | _ + 1, _, x, ⟨k, hv, hk⟩ => by
  obtain ⟨ao, cap, rfl, _⟩ := hk
  exact ⟨_, _, _, _, _, hv⟩
theorem specItemOk_any (n : Nat) (x : It n) (v : Value) (w : World) (hx : ItAt w n v x) (hz : szI n x <= 20000000) : Calls Try.prog 79 #[v] w fun e w' => e = .returned (.bool (rightI n x 0)) /\ Below w.heap.size w w' := by
 obtain ⟨t, s, ao, l, cap, rfl⟩ := hx.parts
 obtain ⟨W2, hW2⟩ : ∃ W, W = w.alloc (Obj.cells #[Value.int IntKind.i64 t, Value.string s, Value.slice ao l cap] 67) := ⟨_, rfl⟩
 have HW := one_laid w (.int .i64 t) (.string s) (.slice ao l cap) 67 W2 hW2
 have E := itRight_any n x _ 0 W2 (ItAt.below HW.1 hx) hz (by omega)
 obtain ⟨P, hP⟩ := zE (rightI n x 0)
 rw [hP] at E |-
 clear hP hx hz
 go_enter Try.func79, Try.ntmps79
 go_wp2_with fail
 rw [<- hW2]
 refine E.mono ?_
 rintro e w3 ⟨rfl, hb3⟩
 have H3 : Hid (Below w.heap.size w w3) := HW.1.trans (hb3.mono HW.1.size)
 clear hb3 E HW hW2
 go_wp2_with fail
 go_ret
 exact ⟨rfl, H3.out⟩
end Go.Proofs.Ytbiiihjohbnodaa
namespace Go.Proofs.Ytbiiihjohbnodaa
open Go.RowKit
def mfig (n : Nat) : UInt8 := UInt8.ofNat (48 + n % 10)
def mdg (n : Nat) : List UInt8 := if _h : n = 0 then [] else mdg (n / 10) ++ [mfig n]
theorem mdg_zero : mdg 0 = [] := by rw [mdg, dif_pos rfl]
theorem mdg_pos {n : Nat} (h : n ≠ 0) : mdg n = mdg (n / 10) ++ [mfig n] := by rw [mdg, dif_neg h]
theorem mdg_step {m n : Nat} {ds : List UInt8} (h : mdg m ++ ds = mdg n) (hm : m ≠ 0) : mdg (m / 10) ++ (mfig m :: ds) = mdg n := by
 rw [<- h, mdg_pos hm]; simp
theorem mdg_len (n : Nat) : (mdg n).length <= n := by
 induction n using Nat.strongRecOn with
 | _ n ih =>
  by_cases h : n = 0
  ·subst h; rw [mdg_zero]; exact Nat.le_refl _
  ·rw [mdg_pos h]
   have := ih (n / 10) (by omega)
   simp; omega
def mt (k : Nat) : List UInt8 := 109 :: mdg k
theorem conv_oneM (m : Nat) (W : World) : (convert 103 9 (.slice (some ⟨W.heap.size, 0, none⟩) 1 1)).run Try.prog (W.alloc (.cells #[.int .u8 (48 + (m : Int) % 10)] 5)) = .ok (.string ⟨#[mfig m]⟩) (W.alloc (.cells #[.int .u8 (48 + (m : Int) % 10)] 5)) := by
 have ho := World.ownsRow_lit (base := W.heap.size) (e := 5) (size := 1) W #[.int .u8 (48 + (m : Int) % 10)] 1 (Nat.le_refl _) (by decide) rfl
 have e : (#[Value.int .u8 (48 + (m : Int) % 10)]).toList = [mfig m].map cellB := by
  unfold mfig
  simp only [List.map_cons, List.map_nil, cellB_of (show 48 + m % 10 < 256 by omega)]
  simp
 rw [e] at ho
 exact conv_own ho
theorem cat_oneM (f : UInt8) (ds : List UInt8) : (⟨#[f]⟩ : ByteArray) ++ (⟨ds.toArray⟩ : ByteArray) = ⟨(f :: ds).toArray⟩ := by
 apply ByteArray.ext
 simp [ByteArray.data_append]
theorem markText_str (k : Nat) (w : World) (h1 : 1 <= k) (hk : k <= 1000000000000) : Calls Try.prog 98 #[.int .i64 k] w fun e w' => e = .returned (.string ⟨(mt k).toArray⟩) /\ Below w.heap.size w w' := by
 have hpos : ¬ (k : Int) <= 0 := by omega
 go_enter Try.func98, Try.ntmps98
 go_wp2
 go_loopw [3, 0] (fun sv kv wr => ∃ (m : Nat) (ds : List UInt8), m <= k /\ kv = .int .i64 m /\ sv = .string ⟨ds.toArray⟩ /\ Hid (mdg m ++ ds = mdg k) /\ Below w.heap.size w wr) (fun _ kv _ => (intOf kv).toNat)
 case atStart => exact ⟨k, [], Nat.le_refl _, rfl, rfl, by show _ = _; simp, Below.refl _ _⟩
 case round =>
  obtain ⟨m, ds, hm, rfl, rfl, HD, hbel⟩ := hrel
  have hdl : ds.length <= k := by
   have h1 := mdg_len k
   rw [<- HD.out] at h1
   simp at h1
   omega
  by_cases hm0 : m = 0
  ·subst hm0
   have HF : Hid (ds = mdg k) := by have := HD.out; rw [mdg_zero] at this; exact this
   go_wp2
   go_ret
   exact ⟨by rw [HF.out]; rfl, hbel⟩
  ·have hmp : (0 : Int) < (m : Int) := by omega
   have hcv := conv_oneM m
   go_wp2
   go_roundw
   case rel => exact ⟨m / 10, mfig m :: ds, by omega, by go_num, by rw [cat_oneM], mdg_step HD.out hm0, hbel.alloc hbel.size _⟩
   case measure => simp [intOf]; omega
theorem markText_int (x : Int) (w : World) (h1 : 1 <= x) (hk : x <= 1000000000000) : Calls Try.prog 98 #[.int .i64 x] w fun e w' => e = .returned (.string ⟨(mt x.toNat).toArray⟩) /\ Below w.heap.size w w' := by
 obtain ⟨k, rfl⟩ := Int.eq_ofNat_of_zero_le (show 0 <= x by omega)
 rw [Int.toNat_natCast]
 exact markText_str k w (by omega) (by omega)
end Go.Proofs.Ytbiiihjohbnodaa
