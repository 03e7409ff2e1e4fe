/-
  Texts of the proof.
-/
import Derived.OwnWalk
import Derived.Deep.AppendLies
import Derived.Deep.RegionLaw
import Derived.Test.YtabfamhaihnccaaGreatChecked
import Derived.WalkKit
import Derived.WalkSpells
import Derived.WalkLawsBesides
import Derived.Handy
import Derived.Laws.OwnMore
import Derived.Deep.Cut
import Derived.Deep.QuietTactic
import Derived.BigQuiet
import Derived.Test.YtabfamhaihnccaaGreatSV2
set_option maxRecDepth 100000
set_option maxHeartbeats 25600000
namespace Go.Proofs.YtabfamhaihnccaaGreat
open Go.RowKit Der
set_option linter.unusedVariables false
set_option linter.unusedSimpArgs false
def cellsK {n : Nat} (ks : List (It (n + 1))) (kvs : List Value) : List Value := (ks.zip kvs).flatMap fun p => [.int .i64 (It.tag p.1), .string ⟨(It.text p.1).toArray⟩, p.2]
theorem cellsK_snoc {n : Nat} {ks : List (It (n + 1))} {kvs : List Value} (h : ks.length = kvs.length) (x : It (n + 1)) (k : Value) : cellsK (ks ++ [x]) (kvs ++ [k]) = cellsK ks kvs ++ [.int .i64 (It.tag x), .string ⟨(It.text x).toArray⟩, k] := by
 unfold cellsK
 rw [List.zip_append h, List.flatMap_append]
 rfl
theorem cellsK_len {n : Nat} : ∀ {ks : List (It (n + 1))} {kvs : List Value}, ks.length = kvs.length -> (cellsK ks kvs).length = ks.length * 3
 | [], [], _ => rfl
 | [], _ :: _, h => by simp at h
 | _ :: _, [], h => by simp at h
 | x :: ks, k :: kvs, h => by
  have ih := cellsK_len (ks := ks) (kvs := kvs) (by simpa using h)
  unfold cellsK at ih |-
  rw [List.zip_cons_cons, List.flatMap_cons, List.length_append, ih]
  simp
  omega
theorem cellsK_at {n : Nat} : ∀ {ks : List (It (n + 1))} {kvs : List Value} (h : ks.length = kvs.length) (j : Nat) (hj : j < ks.length), (cellsK ks kvs)[j * 3]? = some (.int .i64 (It.tag ks[j])) /\ (cellsK ks kvs)[j * 3 + 1]? = some (.string ⟨(It.text ks[j]).toArray⟩) /\ (cellsK ks kvs)[j * 3 + 2]? = some (kvs[j]'(by omega))
 | [], _, _, _, hj => by simp at hj
 | _ :: _, [], h, _, _ => by simp at h
 | x :: ks, k :: kvs, h, 0, hj => by
  unfold cellsK
  rw [List.zip_cons_cons, List.flatMap_cons]
  exact ⟨rfl, rfl, rfl⟩
 | x :: ks, k :: kvs, h, j + 1, hj => by
  have ih := cellsK_at (ks := ks) (kvs := kvs) (by simpa using h) j (by simpa using hj)
  have e : cellsK (x :: ks) (k :: kvs) = .int .i64 (It.tag x) :: .string ⟨(It.text x).toArray⟩ :: k :: cellsK ks kvs := by
   unfold cellsK
   rw [List.zip_cons_cons, List.flatMap_cons]
   rfl
  rw [e, show (j + 1) * 3 = j * 3 + 3 by omega]
  exact ih
def GrowK (w : World) (base n : Nat) (v : Value) (ks : List (It (n + 1))) : Prop := ∃ (kvs : List Value) (fps : List (List Nat)), ks.length = kvs.length /\ ks.length = fps.length /\ w.ownsRow base 178 3 v ks.length (cellsK ks kvs) /\ fps.flatten.Nodup /\ (∀ g, v.ownBlock = some g -> g ∉ fps.flatten) /\
 ∀ j (h1 : j < ks.length) (h2 : j < kvs.length) (h3 : j < fps.length), OwnK w base n kvs[j] (It.kids ks[j]) fps[j]
theorem GrowK.nil (w : World) (base n : Nat) : GrowK w base n (.slice none 0 0) [] := ⟨[], [], rfl, rfl, World.ownsRow_nil _ _ _ _, by simp, fun g hg => by simp [Value.ownBlock] at hg, fun j h => absurd h (Nat.not_lt_zero _)⟩
theorem GrowK.shape {w : World} {base n : Nat} {v : Value} {ks : List (It (n + 1))} (h : GrowK w base n v ks) : ∃ ao cap, v = .slice ao ks.length cap := by
 obtain ⟨kvs, fps, h1, h2, ho, _⟩ := h
 rcases ho.2 with ⟨h, h0⟩ | ⟨g, cap, cur, hv, _⟩
 ·exact ⟨none, 0, by rw [h, h0]⟩
 ·exact ⟨_, cap, hv⟩
theorem GrowK.lt {w : World} {base n : Nat} {v : Value} {ks : List (It (n + 1))} (h : GrowK w base n v ks) : ∀ g, v.ownBlock = some g -> base <= g /\ g < w.heap.size := by
 obtain ⟨kvs, fps, h1, h2, ho, _⟩ := h
 exact ho.lt
theorem own_kept {w w' : World} {base : Nat} {e : TypeId} {size : Nat} {v : Value} {n : Nat} {xs : List Value} (h : w.ownsRow base e size v n xs) (hb : Below w.heap.size w w') : w'.ownsRow base e size v n xs :=
 h.kept ⟨hb.os, hb.tape, hb.output, hb.size, fun k hk _ => hb.block k hk⟩ (row := none) (by cases hv : v.ownBlock <;> simp)
theorem GrowK.own {w : World} {base n : Nat} {v : Value} {ks : List (It (n + 1))} (h : GrowK w base n v ks) : ∃ fp, OwnK w base (n + 1) v ks fp := by
 obtain ⟨kvs, fps, h1, h2, ho, h3, h4, h5⟩ := h
 rcases ho.2 with ⟨hv, h0⟩ | ⟨g, cap, cur, hv, hbg, hg, hnc, hcm, hcs, htk⟩
 ·exact ⟨[], none, 0, by rw [hv, h0], fun _ => rfl, fun hp => by omega⟩
 ·by_cases hp : 0 < ks.length
  ·refine ⟨g :: fps.flatten, some ⟨g, 0, none⟩, cap, hv, fun h => by omega, fun _ => ⟨g, 0, cap * 3, fun j => cur.getD j (.int .i64 0), fps, rfl, hbg, rowV_of hg hcs, by omega, rfl, ?_, h2.symm, fun j hj hj2 => ?_⟩⟩
   ·rw [List.nodup_cons]
    exact ⟨h4 g (by rw [hv]; rfl), h3⟩
   ·obtain ⟨c0, c1, c2⟩ := cellsK_at h1 j hj
    have hcell : ∀ q u, (cellsK ks kvs)[q]? = some u -> cur.getD q (.int .i64 0) = u := fun q u hq => by
     rw [<- htk, List.getElem?_take] at hq
     split at hq
     ·rw [Array.getElem?_toList] at hq
      simp [Array.getD_eq_getD_getElem?, hq]
     ·cases hq
    show cur.getD (0 + j * 3) _ = _ /\ cur.getD (0 + j * 3 + 1) _ = _ /\ OwnK w base n (cur.getD (0 + j * 3 + 2) _) _ _
    rw [Nat.zero_add, hcell _ _ c0, hcell _ _ c1, hcell _ _ c2]
    exact ⟨rfl, rfl, h5 j hj (by omega) hj2⟩
  ·exact ⟨[], some ⟨g, 0, none⟩, cap, hv, fun _ => rfl, fun h => absurd h hp⟩
theorem news_three (w : World) (a b c : Value) (t : TypeId) : ∀ j u, [a, b, c][j]? = some u -> (w.alloc (.cells #[a, b, c] t)).cell? ((⟨w.heap.size, 0, none⟩ : Addr).add j) = some u := by
 intro j u hj
 rw [Addr.add_lit, Nat.zero_add, World.cell?_alloc_mark w _ t _ j]
 simpa using hj
theorem nodup_app {a b : List Nat} (ha : a.Nodup) (hb : b.Nodup) (hd : ∀ x ∈ a, x ∉ b) : (a ++ b).Nodup := List.nodup_append.2 ⟨ha, hb, fun x hx y hy e => hd x hx (e ▸ hy)⟩
theorem GrowK.snoc {wr w W w' : World} {base n g cap : Nat} {v : Value} {ks : List (It (n + 1))} {x : It (n + 1)} {kv : Value} {fp : List Nat} {kvs : List Value} {fps : List (List Nat)} (h1 : ks.length = kvs.length) (h2 : ks.length = fps.length) (hro : wr.ownsRow base 178 3 v ks.length (cellsK ks kvs)) (h3 : fps.flatten.Nodup) (h4 : ∀ g, v.ownBlock = some g -> g ∉ fps.flatten)
  (h5 : ∀ j (h1 : j < ks.length) (h2 : j < kvs.length) (h3 : j < fps.length), OwnK wr base n kvs[j] (It.kids ks[j]) fps[j]) (hb : Below wr.heap.size wr w) (hbase : base <= wr.heap.size) (ho : OwnK w wr.heap.size n kv (It.kids x) fp) (hW : Below w.heap.size w W)
  (hown : w'.ownsRow base 178 3 (.slice (some ⟨g, 0, none⟩) (ks.length + 1) cap) (ks.length + 1) (cellsK ks kvs ++ [.int .i64 (It.tag x), .string ⟨(It.text x).toArray⟩, kv])) (hgrow : W.grownBy w' v.ownBlock) (hg : v.ownBlock = some g ∨ w.heap.size <= g) :
  GrowK w' base n (.slice (some ⟨g, 0, none⟩) (ks.length + 1) cap) (ks ++ [x]) := by
 have old : ∀ y ∈ fps.flatten, y < wr.heap.size := fun y hy => by
  obtain ⟨q, hq, hyq⟩ := List.mem_flatten.1 hy
  obtain ⟨j, hj, rfl⟩ := List.getElem_of_mem hq
  exact (OwnK.lt (h5 j (by omega) (by omega) hj) y hyq).2
 have new : ∀ y ∈ fp, wr.heap.size <= y /\ y < w.heap.size := OwnK.lt ho
 have s1 := hb.size
 have s2 := hW.size
 refine ⟨kvs ++ [kv], fps ++ [fp], by simp [h1], by simp [h2], ?_, ?_, ?_, ?_⟩
 ·rw [cellsK_snoc h1, List.length_append, List.length_singleton]
  exact hown
 ·rw [List.flatten_append, List.flatten_singleton]
  refine nodup_app h3 (OwnK.nodup ho) fun y hy hy2 => ?_
  have a := old y hy
  have b := (new y hy2).1
  omega
 ·intro q hq hm
  obtain rfl : g = q := by simpa [Value.ownBlock] using hq
  rw [List.flatten_append, List.flatten_singleton, List.mem_append] at hm
  rcases hg with hg | hg
  ·rcases hm with hm | hm
   ·exact h4 g hg hm
   ·have a := (hro.lt g hg).2
    have b := (new g hm).1
    omega
  ·rcases hm with hm | hm
   ·have := old g hm; omega
   ·have := (new g hm).2; omega
 ·intro j a b c
  by_cases hj : j < ks.length
  ·have e1 : (ks ++ [x])[j] = ks[j] := List.getElem_append_left hj
   have e2 : (kvs ++ [kv])[j] = kvs[j]'(by omega) := List.getElem_append_left (by omega)
   have e3 : (fps ++ [fp])[j] = fps[j]'(by omega) := List.getElem_append_left (by omega)
   rw [e1, e2, e3]
   refine (h5 j hj (by omega) (by omega)).same fun y hy => ?_
   have hy2 : y ∈ fps.flatten := List.mem_flatten.2 ⟨_, List.getElem_mem (by omega), hy⟩
   have hlt := old y hy2
   rw [hgrow.block y (by omega) (fun e => h4 y e.symm hy2), hW.block y (by omega), hb.block y hlt]
  ·have hj2 : j = ks.length := by simp at a; omega
   subst hj2
   have e1 : (ks ++ [x])[ks.length] = x := by simp
   have e2 : (kvs ++ [kv])[ks.length] = kv := by simp [h1]
   have e3 : (fps ++ [fp])[ks.length] = fp := by simp [h2]
   rw [e1, e2, e3]
   refine (OwnK.base hbase ho).same fun y hy => ?_
   have hlt := new y hy
   rw [hgrow.block y (by omega) (fun e => by have := (hro.lt y e.symm).2; omega), hW.block y hlt.2]
theorem wpList_append_item {wr w : World} {ops : Array Oper} {rest : List Oper} {o : Oper} {a : Act} {Q : Exit -> Act -> World -> Prop} (hgd : o.guard = none) (p q : Operand) (ho : o.op = .call { callee := .builtin .append, args := #[p, q], argTypes := #[176, 176] })
  (base n : Nat) (v : Value) (ks : List (It (n + 1))) (x : It (n + 1)) (t : Int) (s : ByteArray) (kv : Value) (fp : List Nat) (ht : It.tag x = t) (hs : (⟨(It.text x).toArray⟩ : ByteArray) = s) (hp : a.eval p = v) (H : Nat) (hq : a.eval q = .slice (some ⟨H, 0, none⟩) 1 1) (hH : w.heap.size = H) (hG : GrowK wr base n v ks) (hb : Below wr.heap.size wr w) (hk : OwnK w wr.heap.size n kv (It.kids x) fp) (hbase : base <= wr.heap.size) (hl : ks.length <= 1000000000)
  (h : ∀ g cap w', GrowK w' base n (.slice (some ⟨g, 0, none⟩) (ks.length + 1) cap) (ks ++ [x]) -> (w.alloc (.cells #[.int .i64 t, .string s, kv] 178)).grownBy w' v.ownBlock -> wpList Tryz.prog ops Q rest (a.put o.dst (.slice (some ⟨g, 0, none⟩) (ks.length + 1) cap)) w') :
  wpList Tryz.prog ops Q (o :: rest) a (w.alloc (.cells #[.int .i64 t, .string s, kv] 178)) := by
 subst ht hs hH
 obtain ⟨kvs, fps, h1, h2, hro, h3, h4, h5⟩ := hG
 obtain ⟨i0, hi, hz0, hz1, hz2⟩ := infoItem_parts
 obtain ⟨ao, cap, hkv⟩ := hk.shape
 have hb1 : Below w.heap.size w (w.alloc (.cells #[.int .i64 (It.tag x), .string ⟨(It.text x).toArray⟩, kv] 178)) := (Below.refl _ _).alloc (Nat.le_refl _) _
 have hbw := hb.trans (hb1.mono hb.size)
 refine wpList_append_lies _ hgd p q 176 ho base 178 i0 (.agg #[.int .i64 0, .string ⟨#[]⟩, .slice none 0 0]) 3 48 Tryz.underlying176 hi hz0 hz1 hz2 rfl (by decide) v ks.length (cellsK ks kvs) hp (own_kept hro hbw)
  ⟨w.heap.size, 0, none⟩ 1 1 [.int .i64 (It.tag x), .string ⟨(It.text x).toArray⟩, kv] hq rfl (news_three w _ _ _ _) (by
   intro u hu
   simp only [List.mem_cons, List.not_mem_nil, or_false] at hu
   rcases hu with rfl | rfl | rfl
   ·rfl
   ·rfl
   ·rw [hkv]; rfl) (by decide) (by unfold maxLen; omega) (by omega) (Nat.le_trans hbase hbw.size) _ rfl ?_
 intro g cap w' hown hgrow hg _
 refine h g cap w' (GrowK.snoc h1 h2 hro h3 h4 h5 hb hbase hk hb1 hown hgrow ?_) hgrow
 rcases hg with hg | hg
 ·exact .inl hg
 ·exact .inr (by rw [hg]; exact hb1.size)
theorem step_append_item0 {wr w : World} {ops : Array Oper} {o : Oper} {a : Act} {K : Act -> World -> Prop} {Q : Exit -> Act -> World -> Prop} {E : Prop} (hgd : o.guard = none) (p q : Operand) (ho : o.op = .call { callee := .builtin .append, args := #[p, q], argTypes := #[176, 176] })
  (base n : Nat) (v : Value) (ks : List (It (n + 1))) (x : It (n + 1)) (t : Int) (s : ByteArray) (kv : Value) (fp : List Nat) (ht : It.tag x = t) (hs : (⟨(It.text x).toArray⟩ : ByteArray) = s) (hp : a.eval p = v) (H : Nat) (hq : a.eval q = .slice (some ⟨H, 0, none⟩) 1 1) (hH : w.heap.size = H) (hG : GrowK wr base n v ks) (hb : Below wr.heap.size wr w) (hk : OwnK w wr.heap.size n kv (It.kids x) fp) (hbase : base <= wr.heap.size) (hl : ks.length <= 1000000000)
  (h : ∀ g cap w', GrowK w' base n (.slice (some ⟨g, 0, none⟩) (ks.length + 1) cap) (ks ++ [x]) -> (w.alloc (.cells #[.int .i64 t, .string s, kv] 178)).grownBy w' v.ownBlock -> K (a.put o.dst (.slice (some ⟨g, 0, none⟩) (ks.length + 1) cap)) w') :
  if Region.wanted o (yielded ops a.tmps) = true then Oper.wp Tryz.prog o a (w.alloc (.cells #[.int .i64 t, .string s, kv] 178)) K Q else E := by
 subst ht hs hH
 obtain ⟨kvs, fps, h1, h2, hro, h3, h4, h5⟩ := hG
 obtain ⟨i0, hi, hz0, hz1, hz2⟩ := infoItem_parts
 obtain ⟨ao, cap, hkv⟩ := hk.shape
 have hb1 : Below w.heap.size w (w.alloc (.cells #[.int .i64 (It.tag x), .string ⟨(It.text x).toArray⟩, kv] 178)) := (Below.refl _ _).alloc (Nat.le_refl _) _
 have hbw := hb.trans (hb1.mono hb.size)
 refine step_append_lies _ hgd p q 176 ho base 178 i0 (.agg #[.int .i64 0, .string ⟨#[]⟩, .slice none 0 0]) 3 48 Tryz.underlying176 hi hz0 hz1 hz2 rfl (by decide) v ks.length (cellsK ks kvs) hp (own_kept hro hbw)
  ⟨w.heap.size, 0, none⟩ 1 1 [.int .i64 (It.tag x), .string ⟨(It.text x).toArray⟩, kv] hq rfl (news_three w _ _ _ _) (by
   intro u hu
   simp only [List.mem_cons, List.not_mem_nil, or_false] at hu
   rcases hu with rfl | rfl | rfl
   ·rfl
   ·rfl
   ·rw [hkv]; rfl) (by decide) (by unfold maxLen; omega) (by omega) (Nat.le_trans hbase hbw.size) _ rfl ?_
 intro g cap w' hown hgrow hg _
 refine h g cap w' (GrowK.snoc h1 h2 hro h3 h4 h5 hb hbase hk hb1 hown hgrow ?_) hgrow
 rcases hg with hg | hg
 ·exact .inl hg
 ·exact .inr (by rw [hg]; exact hb1.size)
theorem step_call {P : Program} {ops : Array Oper} {o : Oper} {a : Act} {w : World} {K : Act -> World -> Prop} {Q : Exit -> Act -> World -> Prop} {E : Prop} (hgd : o.guard = none) (f : Nat) (xs : Array Operand) (tys : Array TypeId) (hop : o.op = .call { callee := .value (.func f), args := xs, argTypes := tys })
  (vs : Array Value) (hv0 : xs.toList.map a.eval = vs.toList) (hr : (callFunc f vs).run P w = .ok (.enter f vs) w)
  (h : Calls P f vs w fun | .returned v, w'' => K (a.put o.dst v) w'' | .panicked chain, w'' => Q (.panic chain) a w'' | .outgrown, _ => LetsOut Q) :
  if Region.wanted o (yielded ops a.tmps) = true then Oper.wp P o a w K Q else E := by
 have hw : Region.wanted o (yielded ops a.tmps) = true := by simp [Region.wanted, hgd]
 rw [if_pos hw]
 have hv : xs.map a.eval = vs := Array.ext' (by rw [Array.toList_map]; exact hv0)
 have e : (execOp a.eval o).run P w = .ok (.enter f vs) w := by
  simp [execOp, hop, resolve, invoke, Deferred.ofValue, Act.eval, hv, hr]
 unfold Oper.wp
 rw [e]
 exact h
end Go.Proofs.YtabfamhaihnccaaGreat
namespace Go.Proofs.YtabfamhaihnccaaGreat
open Go.RowKit
def cellsI (l : List Int) : List Value := l.map fun z => Value.int .i64 z
def IntAt (w : World) (v : Value) (l : List Int) : Prop := ∃ ao cap, v = .slice ao l.length cap /\ (0 < l.length -> ∃ g, ao = some ⟨g, 0, none⟩ /\ g < w.heap.size /\ ∀ j (hj : j < l.length), w.cell? ⟨g, j, none⟩ = some (.int .i64 l[j]))
theorem IntAt.below {w w' : World} {v : Value} {l : List Int} (h : IntAt w v l) (hb : Below w.heap.size w w') : IntAt w' v l := by
 obtain ⟨ao, cap, hv, h⟩ := h
 refine ⟨ao, cap, hv, fun hl => ?_⟩
 obtain ⟨g, hg, hlt, hc⟩ := h hl
 exact ⟨g, hg, Nat.lt_of_lt_of_le hlt hb.size, fun j hj => by rw [hb.cell (p := ⟨g, j, none⟩) hlt]; exact hc j hj⟩
theorem IntAt.of_own {w : World} {base : Nat} {v : Value} {l : List Int} (h : w.ownsRow base 3 1 v l.length (cellsI l)) : IntAt w v l := by
 have hc := fun g (hg : v.ownBlock = some g) => (h.lt g hg).2
 have h' := h
 obtain ⟨h1, h2⟩ := h
 rcases h2 with ⟨rfl, h0⟩ | ⟨g, cap, cur, rfl, hbg, hg, r⟩
 ·exact ⟨none, 0, by rw [h0], fun hl => by omega⟩
 ·refine ⟨some ⟨g, 0, none⟩, cap, rfl, fun hl => ⟨g, rfl, hc g rfl, fun j hj => ?_⟩⟩
  rw [h'.cellAt j (by omega)]
  simp [cellsI, hj]
theorem eqIntS_same (a b : Value) (l : List Int) (w : World) (hl : l.length <= 1000000000) (ha : IntAt w a l) (hb : IntAt w b l) : Calls Tryz.prog 52 #[a, b] w fun e w' => e = .returned (.bool true) /\ Below w.heap.size w w' := by
 obtain ⟨ao, ac, rfl, ha⟩ := ha
 obtain ⟨bo, bc, rfl, hb⟩ := hb
 have HA : Hid (0 < l.length -> ∃ g, ao = some ⟨g, 0, none⟩ /\ g < w.heap.size /\ ∀ j (hj : j < l.length), w.cell? ⟨g, j, none⟩ = some (.int .i64 l[j])) := ha
 have HB : Hid (0 < l.length -> ∃ g, bo = some ⟨g, 0, none⟩ /\ g < w.heap.size /\ ∀ j (hj : j < l.length), w.cell? ⟨g, j, none⟩ = some (.int .i64 l[j])) := hb
 clear ha hb
 go_enter Tryz.func52, Tryz.ntmps52
 go_wp2
 go_loopw [5] (fun iv wr => ∃ k : Nat, k <= l.length /\ iv = .int .i64 k /\ Below w.heap.size w wr) (fun iv _ => l.length - (intOf iv).toNat)
 case atStart => exact ⟨0, Nat.zero_le _, rfl, Below.refl _ _⟩
 case round =>
  obtain ⟨k, hk, rfl, hbel⟩ := hrel
  by_cases hlt : k < l.length
  ·obtain ⟨ga, hao, hga, hca⟩ := HA.out (by omega)
   obtain ⟨gb, hbo, hgb, hcb⟩ := HB.out (by omega)
   have c1 : wr.cell? ⟨ga, k, none⟩ = some (.int .i64 l[k]) := (hbel.cell (p := ⟨ga, k, none⟩) hga).trans (hca k hlt)
   have c2 : wr.cell? ⟨gb, k, none⟩ = some (.int .i64 l[k]) := (hbel.cell (p := ⟨gb, k, none⟩) hgb).trans (hcb k hlt)
   generalize l[k] = x at *
   subst hao hbo
   clear hca hcb
   have hki : (k : Int) < (l.length : Int) := by omega
   have hk0 : (0 : Int) <= (k : Int) := by omega
   go_wp2_with fail
   go_region
   go_wp2
   go_roundw
   case rel => exact ⟨k + 1, by omega, by go_num, hbel.drew⟩
   case measure => simp [intOf]; omega
  ·go_wp2
   go_ret
   exact ⟨rfl, hbel⟩
end Go.Proofs.YtabfamhaihnccaaGreat
namespace Go.Proofs.YtabfamhaihnccaaGreat
def ev : List Int -> Int
 | [] => 0
 | x :: xs => x + 10000 * ev xs
theorem getD_take {l : List Int} {k j : Nat} (h : j < k) : (l.take k).getD j 0 = l.getD j 0 := by simp [List.getD, h]
theorem getD_set {l : List Int} {k j : Nat} (x : Int) (hk : k < l.length) : (l.set k x).getD j 0 = if j = k then x else l.getD j 0 := by
 by_cases h : j = k
 ·subst h
  simp [List.getD, hk]
 ·rw [if_neg h]
  simp [List.getD, List.getElem?_set_ne (fun e => h e.symm)]
theorem ext_getD {a b : List Int} (hl : a.length = b.length) (h : ∀ j, j < a.length -> a.getD j 0 = b.getD j 0) : a = b := by
 apply List.ext_getElem hl
 intro j h1 h2
 have := h j h1
 simpa [List.getD, h1, h2] using this
def fillL (f : Nat -> Int) (k n : Nat) : List Int := (List.range n).map fun j => if j < k then f j else 0
theorem fillL_len (f : Nat -> Int) (k n : Nat) : (fillL f k n).length = n := by simp [fillL]
theorem fillL_getD (f : Nat -> Int) (k n j : Nat) : (fillL f k n).getD j 0 = if j < n /\ j < k then f j else 0 := by
 unfold fillL
 by_cases hj : j < n
 ·simp [List.getD, hj]
 ·simp [List.getD, hj]
theorem fillL_zero (f : Nat -> Int) (n : Nat) : fillL f 0 n = List.replicate n 0 := by
 apply List.ext_getElem (by simp [fillL])
 intro j h1 h2
 simp [fillL]
theorem fillL_set (f : Nat -> Int) (k n : Nat) (h : k < n) : (fillL f k n).set k (f k) = fillL f (k + 1) n := by
 apply ext_getD (by simp [fillL])
 intro j hj
 have hj' : j < n := by simpa [fillL] using hj
 rw [getD_set _ (by rw [fillL_len]; exact h), fillL_getD, fillL_getD]
 by_cases h1 : j = k
 ·subst h1; simp [h]
 ·rw [if_neg h1]
  by_cases h2 : j < k
  ·rw [if_pos ⟨hj', h2⟩, if_pos ⟨hj', by omega⟩]
  ·rw [if_neg (by omega), if_neg (by omega)]
end Go.Proofs.YtabfamhaihnccaaGreat
namespace Go.Proofs.YtabfamhaihnccaaGreat
open Go.RowKit
theorem info3 : (Tryz.prog.info? 3).map (fun i => (i.zero, i.size, i.bytes)) = some (some (.int .i64 0), 1, 8) := by kernel_rfl
def OwnI (w : World) (base : Nat) (v : Value) (l : List Int) : Prop := w.ownsRow base 3 1 v l.length (cellsI l)
theorem cellsI_len (l : List Int) : (cellsI l).length = l.length := by simp [cellsI]
theorem cellsI_set (l : List Int) (k : Nat) (x : Int) : (cellsI l).set k (.int .i64 x) = cellsI (l.set k x) := by simp [cellsI]
theorem cellsI_append (a b : List Int) : cellsI (a ++ b) = cellsI a ++ cellsI b := by simp [cellsI]
theorem cellsI_getD {l : List Int} {j : Nat} (h : j < l.length) : (cellsI l)[j]? = some (.int .i64 (l.getD j 0)) := by simp [cellsI, List.getD, h]
theorem OwnI.at {w : World} {base : Nat} {v : Value} {l : List Int} (h : OwnI w base v l) : IntAt w v l := IntAt.of_own h
theorem OwnI.stays {w w' : World} {base : Nat} {v : Value} {l : List Int} (h : OwnI w base v l) (hb : Below w.heap.size w w') : OwnI w' base v l := by
 obtain ⟨h1, h2⟩ := h
 refine ⟨h1, ?_⟩
 rcases h2 with h2 | ⟨g, cap, cur, hv, hbg, hg, r⟩
 ·exact .inl h2
 ·have hlt : g < w.heap.size := by
   rcases Nat.lt_or_ge g w.heap.size with h | h
   ·exact h
   ·rw [Array.getElem?_eq_none h] at hg; cases hg
  exact .inr ⟨g, cap, cur, hv, hbg, by rw [hb.block g hlt]; exact hg, r⟩
theorem OwnI.base {w : World} {b b' : Nat} {v : Value} {l : List Int} (h : OwnI w b v l) (hb : b' <= b) : OwnI w b' v l := by
 obtain ⟨h1, h2⟩ := h
 refine ⟨h1, ?_⟩
 rcases h2 with h2 | ⟨g, cap, cur, hv, hbg, r⟩
 ·exact .inl h2
 ·exact .inr ⟨g, cap, cur, hv, Nat.le_trans hb hbg, r⟩
theorem OwnI.nil (w : World) (base : Nat) : OwnI w base (.slice none 0 0) [] := World.ownsRow_nil _ _ _ _
theorem OwnI.shape {w : World} {base : Nat} {v : Value} {l : List Int} (h : OwnI w base v l) : ∃ ao cap, v = .slice ao l.length cap /\ (0 < l.length -> ∃ g, ao = some ⟨g, 0, none⟩) /\ l.length <= cap /\ cap <= maxLen := by
 rcases h.2 with ⟨h1, h0⟩ | ⟨g, cap, cur, hv, _, _, hn, hm, _⟩
 ·exact ⟨none, 0, by rw [h1, h0], fun h => by omega, by omega, Nat.zero_le _⟩
 ·exact ⟨some ⟨g, 0, none⟩, cap, hv, fun _ => ⟨g, rfl⟩, hn, hm⟩
theorem OwnI.cell {w : World} {base g cap : Nat} {l : List Int} (h : OwnI w base (.slice (some ⟨g, 0, none⟩) l.length cap) l) {j : Nat} (hj : j < l.length) : w.cell? ⟨g, j, none⟩ = some (.int .i64 (l.getD j 0)) := by
 rw [World.ownsRow.cellAt h j (by omega), cellsI_getD hj]
theorem OwnI.frozen {w : World} {base g cap : Nat} {l : List Int} (h : OwnI w base (.slice (some ⟨g, 0, none⟩) l.length cap) l) (j : Nat) : w.frozen? ⟨g, j, none⟩ = false := World.ownsRow.frozenAt h j
theorem OwnI.set {w : World} {base g cap : Nat} {l : List Int} (h : OwnI w base (.slice (some ⟨g, 0, none⟩) l.length cap) l) (j : Nat) (x : Int) :
  OwnI (w.setCell ⟨g, j, none⟩ (.int .i64 x)) base (.slice (some ⟨g, 0, none⟩) (l.set j x).length cap) (l.set j x) := by
 have := (World.ownsRow.stored h j (.int .i64 x)).1
 rw [cellsI_set] at this
 unfold OwnI
 rw [List.length_set]
 exact this
theorem made_zeros (n : Nat) : (madeCells #[Value.int .i64 0] n).toList = cellsI (List.replicate n 0) := by
 apply List.ext_getElem (by simp [madeCells, cellsI])
 intro j h1 h2
 simp [madeCells, cellsI, Nat.mod_one]
theorem OwnI.of_made {w : World} {base g n : Nat} (h : w.ownsRow base 3 1 (.slice (some ⟨g, 0, none⟩) n n) n (madeCells #[Value.int .i64 0] n).toList) :
  OwnI w base (.slice (some ⟨g, 0, none⟩) (List.replicate n (0 : Int)).length n) (List.replicate n 0) := by
 rw [made_zeros] at h
 unfold OwnI
 rw [List.length_replicate]
 exact h
end Go.Proofs.YtabfamhaihnccaaGreat
