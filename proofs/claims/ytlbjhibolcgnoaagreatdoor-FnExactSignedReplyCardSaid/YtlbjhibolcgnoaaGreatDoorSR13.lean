/-
  Texts of the proof.
-/
import Derived.Deep.AppendSrc
import Derived.Test.YtlbjhibolcgnoaaGreatDoorSR10
set_option maxRecDepth 100000
set_option maxHeartbeats 25600000
namespace Go.Proofs.YtlbjhibolcgnoaaGreatDoor
open Go.RowKit
set_option linter.unusedVariables false
theorem byteCells_cellB (s : ByteArray) : byteCells s = s.data.toList.map cellB := rfl
theorem run_append_str {w : World} (base : Nat) (ty : TypeId) (v : Value) (n : Nat) (xs : List Value) (s : ByteArray) (hown : w.ownsRow base 5 1 v n xs) (h63 : n + s.size <= 1000000000000) (hbase : base <= w.heap.size) (hn : v ≠ .slice none 0 0) :
  ∃ v' w', (Builtin.append_ #[69, 9] ty #[v, .string s]).run Tryz.prog w = .ok v' w' /\ w'.ownsRow base 5 1 v' (n + s.size) (xs ++ s.data.toList.map cellB) /\ w.grownBy w' v.ownBlock /\ v' ≠ .slice none 0 0 := by
 obtain ⟨i, hi, hz0, hz1, hz2⟩ := info_parts info5
 have hsrc : Src Tryz.prog i.size 9 (.string s) s.size (byteCells s) w := by rw [hz1]; exact Src.ofString w Tryz.underlying9 s
 have hl : (byteCells s).length = s.size := byteCells_length s
 rcases hown.2 with ⟨h, _⟩ | ⟨g, cap, cur, rfl, hbg, hg, hnc, hcm, hcs, htake⟩
 ·exact absurd h hn
 ·have hx := hown.1
  rw [Nat.mul_one] at hx hcs htake
  by_cases hroom : n + s.size <= cap
  ·have hst := run_storeCells_at Tryz.prog g n 5 (byteCells s) 0 cur w hg (by rw [hl]; omega) hsrc.one
   have hr : (Builtin.append_ #[69, 9] ty #[.slice (some ⟨g, 0, none⟩) n cap, .string s]).run Tryz.prog w = .ok (.slice (some ⟨g, 0, none⟩) (n + s.size) cap) (w.setRow g (cur.toList.take n ++ byteCells s ++ cur.toList.drop (n + (byteCells s).length)).toArray) := by
    have hc := hsrc.cells
    rw [hz1] at hc
    simp only [Nat.add_zero] at hst
    simp [Builtin.append_, run_underlying Tryz.underlying69, run_underlying Tryz.underlying9, sizeOf, typeInfo, hi, hz1, hsrc.len, hroom, hc, Addr.add_lit, hst]
   refine ⟨_, _, hr, ⟨by rw [List.length_append, List.length_map, hx, Nat.mul_one]; rfl, .inr ⟨g, cap, _, rfl, hbg, setRow_heap w g cur _ 5 _ hg, hroom, hcm, ?_, ?_⟩⟩, ⟨rfl, rfl, rfl, by simp, fun k _ hk => setRow_other w g k _ (fun e => hk (by simp [Value.ownBlock, e]))⟩, by simp⟩
   ·simp only [List.size_toArray, List.length_append, List.length_take, List.length_drop, Array.length_toList]
    omega
   ·rw [htake, Nat.mul_one, <- byteCells_cellB]
    have e : n + s.size = (xs ++ byteCells s).length := by rw [List.length_append, hl, hx]
    rw [e]
    exact List.take_left
  ·have holds : ∀ j u, xs[j]? = some u -> w.cell? ((⟨g, 0, none⟩ : Addr).add j) = some u := hown.cells (g := g) rfl
   have hold := run_firstCells_some (P := Tryz.prog) w.drew i.size n ⟨g, 0, none⟩ n cap xs (by rw [hz1, Nat.mul_one]; exact hx) (by simpa using holds)
   have hr := run_append_grow_src (P := Tryz.prog) w 69 9 ty 5 i (.int .u8 0) Tryz.underlying69 hi hz0 (some ⟨g, 0, none⟩) n cap xs hold (.string s) s.size (byteCells s) hsrc (by omega) (by omega) (growslice_fits (by omega) (by rw [hz2]; omega))
   have hge := grownCap_ge w (n + s.size) cap 5
   have hcm2 : grownCap w (n + s.size) cap 5 <= maxLen := grownCap_le_maxLen w (n + s.size) cap 5 (by unfold maxLen; omega)
   refine ⟨_, _, hr, ⟨by rw [List.length_append, List.length_map, hx, Nat.mul_one]; rfl, .inr ⟨w.heap.size, _, _, rfl, hbase, heap_alloc_new w.drew _, hge, hcm2, ?_, ?_⟩⟩, ⟨rfl, rfl, rfl, by simp, fun k hk _ => heap_alloc_old w.drew _ hk⟩, by simp⟩
   ·have hzc : (Value.cells (.int .u8 0)).size = 1 := rfl
    simp only [Array.size_append, List.size_toArray, List.length_append, size_zeroCells, hzc, hl, hx]
    omega
   ·rw [Array.toList_append, Nat.mul_one, <- byteCells_cellB]
    have e : n + s.size = (xs ++ byteCells s).length := by rw [List.length_append, hl, hx]
    rw [e]
    exact List.take_left
theorem wpList_append_str {w : World} {ops : Array Oper} {rest : List Oper} {o : Oper} {a : Act} {Q : Exit -> Act -> World -> Prop} (hgd : o.guard = none) (p x : Operand)
  (ho : o.op = .call { callee := .builtin .append, args := #[p, x], argTypes := #[69, 9] }) (base : Nat) (v : Value) (n : Nat) (xs : List Value) (s : ByteArray) (hs : a.eval p = v) (hx : a.eval x = .string s) (hown : w.ownsRow base 5 1 v n xs) (h63 : n + s.size <= 1000000000000) (hbase : base <= w.heap.size) (hn : v ≠ .slice none 0 0)
  (h : ∀ v' w', w'.ownsRow base 5 1 v' (n + s.size) (xs ++ s.data.toList.map cellB) -> w.grownBy w' v.ownBlock -> v' ≠ .slice none 0 0 -> wpList Tryz.prog ops Q rest (a.put o.dst v') w') : wpList Tryz.prog ops Q (o :: rest) a w :=
 wpList_plain hgd fun _ hK => by
  obtain ⟨v', w', hr, h2, h3, h4⟩ := run_append_str base o.type v n xs s hown h63 hbase hn
  unfold Oper.wp execOp
  simp only [ho, resolve, invoke, builtin, Sem.run_bind, Sem.run_pure, Result.andThen_ok, List.map_toArray, List.map_cons, List.map_nil, hs, hx, hr]
  exact hK _ _ (h v' w' h2 h3 h4)
end Go.Proofs.YtlbjhibolcgnoaaGreatDoor
namespace Go.Proofs.YtlbjhibolcgnoaaGreatDoor
open Go.RowKit Der
set_option linter.unusedVariables false
def GoodT (s t : List UInt8) : Prop := (t.length <= 4000 -> s = t) /\ (4000 < t.length -> 4000 < s.length)
theorem GoodT.refl (s : List UInt8) : GoodT s s := ⟨fun _ => rfl, fun h => h⟩
theorem GoodT.whole {b s t : List UInt8} {c : UInt8} (h : GoodT s t) : GoodT (c :: (lenB s.length ++ s)) (c :: (lenB t.length ++ t)) := by
 by_cases ht : t.length <= 4000
 ·rw [h.1 ht]
  exact GoodT.refl _
 ·have h2 := h.2 (by omega)
  refine ⟨fun h3 => ?_, fun _ => ?_⟩
  ·simp only [List.length_cons, List.length_append] at h3
   omega
  ·simp only [List.length_cons, List.length_append]
   omega
def TxC (n : Nat) : Prop := ∀ (t : Int) (s : List UInt8) (ks : List (It n)) (a : Value) (d : Nat) (w : World), KidsAt w (ItAt w n) a ks -> szI (n + 1) (It.mk t s ks) <= 20000000 -> rightI (n + 1) (It.mk t s ks) d = true ->
 Calls Tryz.prog 72 #[.agg #[.int .i64 t, .string ⟨s.toArray⟩, a]] w fun e w' => ∃ r : List UInt8, e = .returned (.string ⟨r.toArray⟩) /\ GoodT r (txtI (n + 1) (It.mk t s ks)) /\ r.length <= 11 + 12 * szI (n + 1) (It.mk t s ks) /\ Below w.heap.size w w'
def BdC (n : Nat) : Prop := ∀ (ks : List (It n)) (v : Value) (d : Nat) (w : World), KidsAt w (ItAt w n) v ks -> szS n ks <= 20000000 -> (∀ y ∈ ks, rightI n y d = true) ->
 Calls Tryz.prog 158 #[v] w fun e w' => ∃ r : List UInt8, e = .returned (.string ⟨r.toArray⟩) /\ GoodT r ((ks.map (txtI n)).flatten) /\ r.length <= 12 * szS n ks /\ Below w.heap.size w w'
theorem bd_zero : BdC 0 := fun ks v d w hx hz hr => by
 have hk : ks = [] := by
  cases ks with
  | nil => rfl
  | cons x _ => exact (x : Empty).elim
 subst hk
 obtain ⟨ax, cx, rfl, _⟩ := hx
 clear hz hr
 show Calls Tryz.prog 158 #[.slice ax 0 cx] w _
 go_enter Tryz.func158, Tryz.ntmps158
 go_wp2_with fail
 have HO : Hid ((w.alloc (Obj.cells #[] 5)).ownsRow w.heap.size 5 1 (.slice (some ⟨w.heap.size, 0, none⟩) 0 0) 0 (([] : List UInt8).map cellB) /\ Below w.heap.size w (w.alloc (Obj.cells #[] 5))) := ⟨World.ownsRow_made w #[] 0 (Nat.le_refl _) (Nat.zero_le _) rfl, (Below.refl _ _).alloc (Nat.le_refl _) _⟩
 have hcv := conv_own HO.out.1
 go_loopw [9, 3] (fun iv tv wr => iv = .int .i64 0 /\ tv = .slice (some ⟨w.heap.size, 0, none⟩) 0 0 /\ wr = w.alloc (Obj.cells #[] 5)) (fun _ _ _ => 0)
 case atStart => exact ⟨rfl, rfl, rfl⟩
 case round =>
  obtain ⟨rfl, rfl, rfl⟩ := hrel
  go_wp2_with fail
  go_ret
  exact ⟨[], rfl, GoodT.refl _, by simp, HO.out.2⟩
theorem flat_take {n : Nat} {ks : List (It n)} {k : Nat} (h : k < ks.length) : ((ks.take (k + 1)).map (txtI n)).flatten = ((ks.take k).map (txtI n)).flatten ++ txtI n ks[k] := by
 rw [<- List.take_append_getElem h, List.map_append, List.flatten_append]
 simp
theorem flat_part {n : Nat} {ks : List (It n)} (k : Nat) : (((ks.take k).map (txtI n)).flatten).length <= ((ks.map (txtI n)).flatten).length := by
 have e : (ks.map (txtI n)).flatten = ((ks.take k).map (txtI n)).flatten ++ ((ks.drop k).map (txtI n)).flatten := by
  rw [<- List.flatten_append, <- List.map_append, List.take_append_drop]
 rw [e, List.length_append]
 exact Nat.le_add_right _ _
theorem flat_bound {n : Nat} (ks : List (It n)) : (((ks).map (txtI n)).flatten).length <= 12 * szS n ks := by
 unfold szS
 induction ks with
 | nil => simp
 | cons x ks ih =>
  have := txt_le n x
  simp only [List.map_cons, List.flatten_cons, List.length_append, List.sum_cons, List.length_cons]
  omega
theorem szS_take {n : Nat} {ks : List (It n)} {k : Nat} (h : k < ks.length) : szS n (ks.take k) + 1 + szI n ks[k] <= szS n ks := by
 have h1 := take_sum h
 have h2 := take_sum_le ks (k + 1)
 unfold szS
 rw [List.length_take]
 omega
theorem bd_step (n : Nat) (IH : Hid (TxC n)) (ks : List (It (n + 1))) (v : Value) (d : Nat) (w : World) (hx : KidsAt w (ItAt w (n + 1)) v ks) (hz : szS (n + 1) ks <= 20000000) (hr : ∀ y ∈ ks, rightI (n + 1) y d = true) :
  Calls Tryz.prog 158 #[v] w fun e w' => ∃ r : List UInt8, e = .returned (.string ⟨r.toArray⟩) /\ GoodT r ((ks.map (txtI (n + 1))).flatten) /\ r.length <= 12 * szS (n + 1) ks /\ Below w.heap.size w w' := by
 have hx0 := hx
 obtain ⟨ax, cx, rfl, _⟩ := hx0
 have HZ : Hid (szS (n + 1) ks <= 20000000 /\ ∀ y ∈ ks, rightI (n + 1) y d = true) := ⟨hz, hr⟩
 have hl := (szS_kid hz).1
 have HX : Hid (KidsAt w (ItAt w (n + 1)) (.slice ax ks.length cx) ks) := hx
 obtain ⟨l, hle⟩ := zE (ks.length)
 have HE : Hid (ks.length = l) := hle
 rw [hle] at HX hl |-
 clear hx hz hle hr
 go_enter Tryz.func158, Tryz.ntmps158
 go_wp2_with fail
 have HO : Hid ((w.alloc (Obj.cells #[] 5)).ownsRow w.heap.size 5 1 (.slice (some ⟨w.heap.size, 0, none⟩) 0 0) 0 (([] : List UInt8).map cellB) /\ Below w.heap.size w (w.alloc (Obj.cells #[] 5))) := ⟨World.ownsRow_made w #[] 0 (Nat.le_refl _) (Nat.zero_le _) rfl, (Below.refl _ _).alloc (Nat.le_refl _) _⟩
 go_loopw [9, 3] (fun iv tv wr => ∃ (k : Nat), k <= l /\ iv = .int .i64 k /\ Hid (∃ T : List UInt8, T = ((ks.take k).map (txtI (n + 1))).flatten /\ T.length <= 4000 /\ wr.ownsRow w.heap.size 5 1 tv T.length (T.map cellB) /\ tv ≠ .slice none 0 0 /\ Below w.heap.size w wr)) (fun iv _ _ => l - (intOf iv).toNat)
 case atStart => exact ⟨0, Nat.zero_le _, rfl, [], rfl, Nat.zero_le _, HO.out.1, by simp, HO.out.2⟩
 case round =>
  obtain ⟨k, hk, rfl, H⟩ := hrel
  clear HO
  obtain ⟨T, hT, hTl, hown, hnn, hbel⟩ := H.out
  have HT : Hid (T = ((ks.take k).map (txtI (n + 1))).flatten) := hT
  have HB : Hid (Below w.heap.size w wr) := hbel
  clear H hT hbel
  by_cases hlt : k < l
  ·have hlti : (k : Int) < (l : Int) := by omega
   have hk0 : (0 : Int) <= (k : Int) := by omega
   have hj1 : k < ks.length := by rw [HE.out]; exact hlt
   obtain ⟨g1, o1, t1, s1, k1, hax, hg1, hc1, hi1⟩ := HX.out.get hj1
   obtain ⟨c10, c11, c12⟩ := Cells3.below (w' := wr) (t := t1) (s := s1) (k := k1) hc1 hg1 HB.out
   obtain ⟨kk, hkk, hkids⟩ := ItAt.below HB.out hi1
   injection hkk with hkk
   simp only [Array.mk.injEq, List.cons.injEq, and_true] at hkk
   obtain ⟨rfl, rfl, rfl⟩ := hkk
   have hsz : szI (n + 1) ks[k] <= 20000000 := (szS_kid HZ.out.1).2 _ (List.getElem_mem hj1)
   have hrk := HZ.out.2 _ (List.getElem_mem hj1)
   obtain ⟨t, s, ks1, hxe⟩ : ∃ t s ks1, ks[k] = It.mk t s ks1 := ⟨_, _, _, (It.eta ks[k]).symm⟩
   have HXE : Hid (ks[k] = It.mk t s ks1) := hxe
   rw [hxe] at hkids hsz c10 c11 hrk
   change KidsAt wr (ItAt wr n) k1 ks1 at hkids
   change wr.cell? _ = some (.int .i64 t) at c10
   change wr.cell? _ = some (.string ⟨s.toArray⟩) at c11
   obtain ⟨ax1, cx1, rfl, _⟩ := id hkids
   obtain ⟨W1, hW1⟩ : ∃ W, W = wr.alloc (Obj.cells #[Value.int IntKind.i64 t, Value.string { data := s.toArray }, Value.slice ax1 ks1.length cx1] 57) := ⟨_, rfl⟩
   have hb1 := (one_laid wr (.int .i64 t) (.string ⟨s.toArray⟩) (.slice ax1 ks1.length cx1) 57 W1 hW1).1
   have E := IH.out t s ks1 _ d W1 (hkids.mono hb1 fun _ _ h => ItAt.below hb1 h) hsz hrk
   have HS : Hid (szI (n + 1) (It.mk t s ks1) <= 20000000 /\ Below wr.heap.size wr W1) := ⟨hsz, hb1⟩
   obtain ⟨l1, hl1⟩ := zE (ks1.length)
   rw [hl1] at c12 hW1 E
   subst hax
   clear hc1 hi1 hg1 hkids hsz hxe hl1 hb1 hrk
   go_wp2_with fail
   rw [<- hW1]
   clear hW1
   refine E.mono ?_
   rintro e w3 ⟨r, rfl, hgood, hrl, hb3⟩
   have hrs : (⟨r.toArray⟩ : ByteArray).size = r.length := by show r.toArray.size = _; simp
   have hr9 : r.length <= 1000000000 := by have := HS.out.1; omega
   have H3 : Hid (w3.ownsRow w.heap.size 5 1 u3 T.length (T.map cellB) /\ Below w.heap.size w w3 /\ GoodT r (txtI (n + 1) ks[k]) /\ r.length <= 11 + 12 * szI (n + 1) ks[k]) := by
    have hbw : Below wr.heap.size wr w3 := HS.out.2.trans (hb3.mono HS.out.2.size)
    refine ⟨?_, HB.out.trans (hbw.mono HB.out.size), ?_, ?_⟩
    ·exact hown.kept ⟨hbw.os, hbw.tape, hbw.output, hbw.size, fun k hk _ => hbw.block k hk⟩ (row := none) (by cases hv : u3.ownBlock <;> simp)
    ·rw [HXE.out]; exact hgood
    ·rw [HXE.out]; exact hrl
   have hown3 := H3.out.1
   clear E hgood hrl hb3 c10 c11 c12 hown
   go_wp2_with (at_builtin; refine wpList_append_str rfl _ _ rfl w.heap.size u3 T.length (T.map cellB) ⟨r.toArray⟩ rfl rfl hown3 ?a1 ?a2 hnn ?_)
   case a1 => rw [hrs]; omega
   case a2 => exact H3.out.2.1.size
   intro v' w4 hown' hgrow hnn'
   have HN : Hid (w4.ownsRow w.heap.size 5 1 v' (T ++ r).length ((T ++ r).map cellB) /\ Below w.heap.size w w4) := by
    refine ⟨?_, H3.out.2.1.grown hgrow H3.out.2.1.size (fun j hj => (hown3.lt j hj).1)⟩
    rw [List.map_append, List.length_append]
    exact hown'
   obtain ⟨g', cap', hv'⟩ : ∃ g' cap', v' = .slice (some ⟨g', 0, none⟩) (T ++ r).length cap' := by
    rcases HN.out.1.2 with ⟨h, _⟩ | ⟨g', cap', cur, h, _⟩
    ·exact absurd h hnn'
    ·exact ⟨g', cap', h⟩
   subst hv'
   have hcv := conv_own HN.out.1
   obtain ⟨T', hT'⟩ : ∃ T', T ++ r = T' := ⟨_, rfl⟩
   have HT' : Hid (T ++ r = T' /\ T'.length = T.length + r.length) := ⟨hT', by rw [<- hT', List.length_append]⟩
   rw [hT'] at HN hcv |-
   have hT'9 : T'.length <= 2000000000 := by rw [HT'.out.2]; omega
   have HFL : Hid (T'.length <= 12 * szS (n + 1) ks) := by
    show T'.length <= _
    have h1 := szS_take hj1
    have h2 := flat_bound (ks.take k)
    rw [<- HT.out] at h2
    have h3 := H3.out.2.2.2
    rw [HT'.out.2]
    omega
   clear hown' hgrow hnn' hown3 hnn hT'
   by_cases hbig : 4000 < T'.length
   ·have hbi : (4000 : Int) < (T'.length : Int) := by omega
    have HG : Hid (GoodT T' ((ks.map (txtI (n + 1))).flatten)) := by
     have hfl : 4000 < ((ks.map (txtI (n + 1))).flatten).length := by
      have h1 := flat_part (ks := ks) (k + 1)
      rw [flat_take hj1, List.length_append, <- HT.out] at h1
      have h2 := HT'.out.2
      by_cases hq : (txtI (n + 1) ks[k]).length <= 4000
      ·have := H3.out.2.2.1.1 hq
       rw [this] at h2
       omega
      ·omega
     exact ⟨fun h => by omega, fun _ => hbig⟩
    go_wp2_with fail
    go_ret
    exact ⟨T', rfl, HG.out, HFL.out, HN.out.2⟩
   ·have hbi : ¬ (4000 : Int) < (T'.length : Int) := by omega
    have HT2 : Hid (T' = ((ks.take (k + 1)).map (txtI (n + 1))).flatten /\ T'.length <= 4000) := by
     refine ⟨?_, by omega⟩
     have hq : (txtI (n + 1) ks[k]).length <= 4000 := by
      refine Nat.le_of_not_lt fun hq => ?_
      have h1 := H3.out.2.2.1.2 hq
      have h2 := HT'.out.2
      omega
     rw [flat_take hj1, <- HT.out, <- HT'.out.1, H3.out.2.2.1.1 hq]
    clear hcv
    go_wp2_with fail
    exact ⟨⟨k + 1, by omega, by go_num, T', HT2.out.1, HT2.out.2, HN.out.1, by simp, HN.out.2⟩, by simp [intOf]; omega⟩
  ·have hlti : ¬ (k : Int) < (l : Int) := by omega
   have hkl : k = l := by omega
   have hcv := conv_own hown
   have HG : Hid (GoodT T ((ks.map (txtI (n + 1))).flatten) /\ T.length <= 12 * szS (n + 1) ks) := by
    have h := HT.out
    rw [List.take_of_length_le (by rw [HE.out]; omega)] at h
    rw [<- h]
    refine ⟨GoodT.refl _, ?_⟩
    rw [h]
    exact flat_bound ks
   clear hown hnn
   go_wp2_with fail
   go_ret
   exact ⟨T, rfl, HG.out.1, HG.out.2, HB.out⟩
theorem body_flag (s : ByteArray) (w : World) : Calls Tryz.prog 154 #[.string s] w fun e w' => e = .returned (.string s) /\ Below w.heap.size w w' := by
 go_enter Tryz.func154, Tryz.ntmps154
 go_wp2_with fail
 go_ret
 exact ⟨rfl, Below.refl _ _⟩
theorem body_integer (s : ByteArray) (w : World) : Calls Tryz.prog 155 #[.string s] w fun e w' => e = .returned (.string s) /\ Below w.heap.size w w' := by
 go_enter Tryz.func155, Tryz.ntmps155
 go_wp2_with fail
 go_ret
 exact ⟨rfl, Below.refl _ _⟩
theorem body_octets (s : ByteArray) (w : World) : Calls Tryz.prog 156 #[.string s] w fun e w' => e = .returned (.string s) /\ Below w.heap.size w w' := by
 go_enter Tryz.func156, Tryz.ntmps156
 go_wp2_with fail
 go_ret
 exact ⟨rfl, Below.refl _ _⟩
theorem body_plain (s : ByteArray) (w : World) : Calls Tryz.prog 157 #[.string s] w fun e w' => e = .returned (.string s) /\ Below w.heap.size w w' := by
 go_enter Tryz.func157, Tryz.ntmps157
 go_wp2_with fail
 go_ret
 exact ⟨rfl, Below.refl _ _⟩
def TxPost (t : Int) (B : List UInt8 -> Prop) (w : World) (e : Ending) (w' : World) : Prop := ∃ r : List UInt8, e = .returned (.string ⟨(UInt8.ofNat (t % 256).toNat :: (lenB r.length ++ r)).toArray⟩) /\ B r /\ Below w.heap.size w w'
theorem textOf_flag (t : Int) (s : List UInt8) (ax : Option Addr) (l cx : Nat) (w : World) (hl : l <= 20000000) (hs : s.length <= 20000000) (hF : formV t s (.slice ax l cx) l = .iface 142 (.string ⟨s.toArray⟩)) (B : List UInt8 -> Prop)
  (EB : ∀ w3, Below w.heap.size w w3 -> Calls Tryz.prog 154 #[.string ⟨s.toArray⟩] w3 fun e w' => ∃ r : List UInt8, e = .returned (.string ⟨r.toArray⟩) /\ B r /\ r.length <= 400000000 /\ Below w3.heap.size w3 w') :
  Calls Tryz.prog 72 #[.agg #[.int .i64 t, .string ⟨s.toArray⟩, .slice ax l cx]] w fun e w' => TxPost t B w e w' := by
 obtain ⟨W2, hW2⟩ : ∃ W, W = w.alloc (Obj.cells #[Value.int IntKind.i64 t, Value.string { data := s.toArray }, Value.slice ax l cx] 57) := ⟨_, rfl⟩
 have E := formOf_any t s ax l cx W2 hl hs
 rw [hF] at E
 have HW := one_laid w (.int .i64 t) (.string ⟨s.toArray⟩) (.slice ax l cx) 57 W2 hW2
 have H2 : Hid (Below w.heap.size w W2 /\ w.heap.size < W2.heap.size /\ W2.cell? ⟨w.heap.size, 0, none⟩ = some (.int .i64 t)) := ⟨HW.1, HW.2.1, HW.2.2.1⟩
 have HEB : Hid (∀ w3, Below w.heap.size w w3 -> Calls Tryz.prog 154 #[.string ⟨s.toArray⟩] w3 fun e w' => ∃ r : List UInt8, e = .returned (.string ⟨r.toArray⟩) /\ B r /\ r.length <= 400000000 /\ Below w3.heap.size w3 w') := EB
 clear HW hF EB
 go_enter Tryz.func72, Tryz.ntmps72
 go_wp2_with fail
 rw [<- hW2]
 clear hW2
 refine E.mono ?_
 rintro e w3 ⟨rfl, hb3⟩
 have H3 : Hid (Below w.heap.size w w3 /\ w.heap.size < w3.heap.size /\ w3.cell? ⟨w.heap.size, 0, none⟩ = some (.int .i64 t)) := ⟨H2.out.1.trans (hb3.mono H2.out.1.size), Nat.lt_of_lt_of_le H2.out.2.1 hb3.size, (hb3.cell (p := ⟨w.heap.size, 0, none⟩) H2.out.2.1).trans H2.out.2.2⟩
 clear E H2 hb3
 go_wp2_with fail
 refine (HEB.out w3 H3.out.1).mono ?_
 rintro e w4 ⟨r, rfl, hBr, hrl, hb4⟩
 have H4 : Hid (Below w.heap.size w w4 /\ w.heap.size < w4.heap.size /\ B r) := ⟨H3.out.1.trans (hb4.mono H3.out.1.size), Nat.lt_of_lt_of_le H3.out.2.1 hb4.size, hBr⟩
 have cT : w4.cell? ⟨w.heap.size, 0, none⟩ = some (.int .i64 t) := (hb4.cell (p := ⟨w.heap.size, 0, none⟩) H3.out.2.1).trans H3.out.2.2
 clear H3 hb4 hBr HEB
 have hwt : IntKind.u8.wrap t = t % 256 := by rw [IntKind.wrap_u8]
 obtain ⟨x, hx⟩ : ∃ x : Int, t % 256 = x := ⟨_, rfl⟩
 obtain ⟨b, hb⟩ := zE (UInt8.ofNat (t % 256).toNat)
 have hxb : x = (b.toNat : Int) := by rw [<- hb, UInt8.toNat_ofNat', <- hx]; omega
 rw [hx] at hwt
 have hcv := conv_at x b hxb
 have hssz : (⟨r.toArray⟩ : ByteArray).size = r.length := by show r.toArray.size = _; simp
 have EL := fun W => lengthText_any r.length W (by omega)
 obtain ⟨L, hL⟩ : ∃ L : ByteArray, (⟨(lenB r.length).toArray⟩ : ByteArray) = L := ⟨_, rfl⟩
 rw [hL] at EL
 have HR : Hid ((⟨(UInt8.ofNat (t % 256).toNat :: (lenB r.length ++ r)).toArray⟩ : ByteArray) = ⟨#[b]⟩ ++ L ++ ⟨r.toArray⟩ /\ L.size <= 10) := by
  refine ⟨?_, ?_⟩
  ·rw [hb, <- hL]
   apply ByteArray.ext
   simp
  ·rw [<- hL]; show ((lenB r.length).toArray).size <= 10; have := beN_short9 r.length; simpa using this
 have ra := fun W => run_string_add_sum (P := Tryz.prog) W ⟨#[b]⟩ L (by show 1 + L.size <= _; have := HR.out.2; omega)
 have rb := fun W => run_string_add_sum (P := Tryz.prog) W (⟨#[b]⟩ ++ L) ⟨r.toArray⟩ (by rw [ByteArray.size_append, hssz]; show 1 + L.size + r.length <= _; have := HR.out.2; omega)
 have hlt2 := H4.out.2.1
 have hne2 := Nat.ne_of_lt hlt2
 have HWR : Hid (Below w.heap.size w w4) := H4.out.1
 clear hL hb hx hxb
 go_wp2_with fail
 go_region_with (go_at_call 109; refine (EL _).mono ?_; rintro e w5 ⟨rfl, hb5⟩; have cT5 : w5.cell? ⟨w.heap.size, 0, none⟩ = some (.int .i64 t) := (hb5.cell (p := ⟨w.heap.size, 0, none⟩) (by first | exact hlt2 | (simp; omega))).trans (by first | exact cT | go_keep); have hcar := fun (p : Addr) (h : p.block < _) => hb5.cell (p := p) h; have hB3 := below_via hb5 (by first | exact HWR.out.drew | exact (HWR.out.drew.alloc HWR.out.drew.size _).drew | exact HWR.out.drew.alloc HWR.out.drew.size _ | exact HWR.out); clear hb5)
 all_goals (
  go_wp2_with fail
  go_ret
  exact ⟨r, by rw [HR.out.1]; rfl, H4.out.2.2, by first | exact hB3 | exact hB3.drew | exact hB3.alloc hB3.size _ | exact hB3.drew.alloc hB3.size _ | exact (hB3.alloc hB3.size _).drew | exact (hB3.drew.alloc hB3.size _).drew⟩)
theorem textOf_integer (t : Int) (s : List UInt8) (ax : Option Addr) (l cx : Nat) (w : World) (hl : l <= 20000000) (hs : s.length <= 20000000) (hF : formV t s (.slice ax l cx) l = .iface 143 (.string ⟨s.toArray⟩)) (B : List UInt8 -> Prop)
  (EB : ∀ w3, Below w.heap.size w w3 -> Calls Tryz.prog 155 #[.string ⟨s.toArray⟩] w3 fun e w' => ∃ r : List UInt8, e = .returned (.string ⟨r.toArray⟩) /\ B r /\ r.length <= 400000000 /\ Below w3.heap.size w3 w') :
  Calls Tryz.prog 72 #[.agg #[.int .i64 t, .string ⟨s.toArray⟩, .slice ax l cx]] w fun e w' => TxPost t B w e w' := by
 obtain ⟨W2, hW2⟩ : ∃ W, W = w.alloc (Obj.cells #[Value.int IntKind.i64 t, Value.string { data := s.toArray }, Value.slice ax l cx] 57) := ⟨_, rfl⟩
 have E := formOf_any t s ax l cx W2 hl hs
 rw [hF] at E
 have HW := one_laid w (.int .i64 t) (.string ⟨s.toArray⟩) (.slice ax l cx) 57 W2 hW2
 have H2 : Hid (Below w.heap.size w W2 /\ w.heap.size < W2.heap.size /\ W2.cell? ⟨w.heap.size, 0, none⟩ = some (.int .i64 t)) := ⟨HW.1, HW.2.1, HW.2.2.1⟩
 have HEB : Hid (∀ w3, Below w.heap.size w w3 -> Calls Tryz.prog 155 #[.string ⟨s.toArray⟩] w3 fun e w' => ∃ r : List UInt8, e = .returned (.string ⟨r.toArray⟩) /\ B r /\ r.length <= 400000000 /\ Below w3.heap.size w3 w') := EB
 clear HW hF EB
 go_enter Tryz.func72, Tryz.ntmps72
 go_wp2_with fail
 rw [<- hW2]
 clear hW2
 refine E.mono ?_
 rintro e w3 ⟨rfl, hb3⟩
 have H3 : Hid (Below w.heap.size w w3 /\ w.heap.size < w3.heap.size /\ w3.cell? ⟨w.heap.size, 0, none⟩ = some (.int .i64 t)) := ⟨H2.out.1.trans (hb3.mono H2.out.1.size), Nat.lt_of_lt_of_le H2.out.2.1 hb3.size, (hb3.cell (p := ⟨w.heap.size, 0, none⟩) H2.out.2.1).trans H2.out.2.2⟩
 clear E H2 hb3
 go_wp2_with fail
 refine (HEB.out w3 H3.out.1).mono ?_
 rintro e w4 ⟨r, rfl, hBr, hrl, hb4⟩
 have H4 : Hid (Below w.heap.size w w4 /\ w.heap.size < w4.heap.size /\ B r) := ⟨H3.out.1.trans (hb4.mono H3.out.1.size), Nat.lt_of_lt_of_le H3.out.2.1 hb4.size, hBr⟩
 have cT : w4.cell? ⟨w.heap.size, 0, none⟩ = some (.int .i64 t) := (hb4.cell (p := ⟨w.heap.size, 0, none⟩) H3.out.2.1).trans H3.out.2.2
 clear H3 hb4 hBr HEB
 have hwt : IntKind.u8.wrap t = t % 256 := by rw [IntKind.wrap_u8]
 obtain ⟨x, hx⟩ : ∃ x : Int, t % 256 = x := ⟨_, rfl⟩
 obtain ⟨b, hb⟩ := zE (UInt8.ofNat (t % 256).toNat)
 have hxb : x = (b.toNat : Int) := by rw [<- hb, UInt8.toNat_ofNat', <- hx]; omega
 rw [hx] at hwt
 have hcv := conv_at x b hxb
 have hssz : (⟨r.toArray⟩ : ByteArray).size = r.length := by show r.toArray.size = _; simp
 have EL := fun W => lengthText_any r.length W (by omega)
 obtain ⟨L, hL⟩ : ∃ L : ByteArray, (⟨(lenB r.length).toArray⟩ : ByteArray) = L := ⟨_, rfl⟩
 rw [hL] at EL
 have HR : Hid ((⟨(UInt8.ofNat (t % 256).toNat :: (lenB r.length ++ r)).toArray⟩ : ByteArray) = ⟨#[b]⟩ ++ L ++ ⟨r.toArray⟩ /\ L.size <= 10) := by
  refine ⟨?_, ?_⟩
  ·rw [hb, <- hL]
   apply ByteArray.ext
   simp
  ·rw [<- hL]; show ((lenB r.length).toArray).size <= 10; have := beN_short9 r.length; simpa using this
 have ra := fun W => run_string_add_sum (P := Tryz.prog) W ⟨#[b]⟩ L (by show 1 + L.size <= _; have := HR.out.2; omega)
 have rb := fun W => run_string_add_sum (P := Tryz.prog) W (⟨#[b]⟩ ++ L) ⟨r.toArray⟩ (by rw [ByteArray.size_append, hssz]; show 1 + L.size + r.length <= _; have := HR.out.2; omega)
 have hlt2 := H4.out.2.1
 have hne2 := Nat.ne_of_lt hlt2
 have HWR : Hid (Below w.heap.size w w4) := H4.out.1
 clear hL hb hx hxb
 go_wp2_with fail
 go_region_with (go_at_call 109; refine (EL _).mono ?_; rintro e w5 ⟨rfl, hb5⟩; have cT5 : w5.cell? ⟨w.heap.size, 0, none⟩ = some (.int .i64 t) := (hb5.cell (p := ⟨w.heap.size, 0, none⟩) (by first | exact hlt2 | (simp; omega))).trans (by first | exact cT | go_keep); have hcar := fun (p : Addr) (h : p.block < _) => hb5.cell (p := p) h; have hB3 := below_via hb5 (by first | exact HWR.out.drew | exact (HWR.out.drew.alloc HWR.out.drew.size _).drew | exact HWR.out.drew.alloc HWR.out.drew.size _ | exact HWR.out); clear hb5)
 all_goals (
  go_wp2_with fail
  go_ret
  exact ⟨r, by rw [HR.out.1]; rfl, H4.out.2.2, by first | exact hB3 | exact hB3.drew | exact hB3.alloc hB3.size _ | exact hB3.drew.alloc hB3.size _ | exact (hB3.alloc hB3.size _).drew | exact (hB3.drew.alloc hB3.size _).drew⟩)
theorem textOf_octets (t : Int) (s : List UInt8) (ax : Option Addr) (l cx : Nat) (w : World) (hl : l <= 20000000) (hs : s.length <= 20000000) (hF : formV t s (.slice ax l cx) l = .iface 144 (.string ⟨s.toArray⟩)) (B : List UInt8 -> Prop)
  (EB : ∀ w3, Below w.heap.size w w3 -> Calls Tryz.prog 156 #[.string ⟨s.toArray⟩] w3 fun e w' => ∃ r : List UInt8, e = .returned (.string ⟨r.toArray⟩) /\ B r /\ r.length <= 400000000 /\ Below w3.heap.size w3 w') :
  Calls Tryz.prog 72 #[.agg #[.int .i64 t, .string ⟨s.toArray⟩, .slice ax l cx]] w fun e w' => TxPost t B w e w' := by
 obtain ⟨W2, hW2⟩ : ∃ W, W = w.alloc (Obj.cells #[Value.int IntKind.i64 t, Value.string { data := s.toArray }, Value.slice ax l cx] 57) := ⟨_, rfl⟩
 have E := formOf_any t s ax l cx W2 hl hs
 rw [hF] at E
 have HW := one_laid w (.int .i64 t) (.string ⟨s.toArray⟩) (.slice ax l cx) 57 W2 hW2
 have H2 : Hid (Below w.heap.size w W2 /\ w.heap.size < W2.heap.size /\ W2.cell? ⟨w.heap.size, 0, none⟩ = some (.int .i64 t)) := ⟨HW.1, HW.2.1, HW.2.2.1⟩
 have HEB : Hid (∀ w3, Below w.heap.size w w3 -> Calls Tryz.prog 156 #[.string ⟨s.toArray⟩] w3 fun e w' => ∃ r : List UInt8, e = .returned (.string ⟨r.toArray⟩) /\ B r /\ r.length <= 400000000 /\ Below w3.heap.size w3 w') := EB
 clear HW hF EB
 go_enter Tryz.func72, Tryz.ntmps72
 go_wp2_with fail
 rw [<- hW2]
 clear hW2
 refine E.mono ?_
 rintro e w3 ⟨rfl, hb3⟩
 have H3 : Hid (Below w.heap.size w w3 /\ w.heap.size < w3.heap.size /\ w3.cell? ⟨w.heap.size, 0, none⟩ = some (.int .i64 t)) := ⟨H2.out.1.trans (hb3.mono H2.out.1.size), Nat.lt_of_lt_of_le H2.out.2.1 hb3.size, (hb3.cell (p := ⟨w.heap.size, 0, none⟩) H2.out.2.1).trans H2.out.2.2⟩
 clear E H2 hb3
 go_wp2_with fail
 refine (HEB.out w3 H3.out.1).mono ?_
 rintro e w4 ⟨r, rfl, hBr, hrl, hb4⟩
 have H4 : Hid (Below w.heap.size w w4 /\ w.heap.size < w4.heap.size /\ B r) := ⟨H3.out.1.trans (hb4.mono H3.out.1.size), Nat.lt_of_lt_of_le H3.out.2.1 hb4.size, hBr⟩
 have cT : w4.cell? ⟨w.heap.size, 0, none⟩ = some (.int .i64 t) := (hb4.cell (p := ⟨w.heap.size, 0, none⟩) H3.out.2.1).trans H3.out.2.2
 clear H3 hb4 hBr HEB
 have hwt : IntKind.u8.wrap t = t % 256 := by rw [IntKind.wrap_u8]
 obtain ⟨x, hx⟩ : ∃ x : Int, t % 256 = x := ⟨_, rfl⟩
 obtain ⟨b, hb⟩ := zE (UInt8.ofNat (t % 256).toNat)
 have hxb : x = (b.toNat : Int) := by rw [<- hb, UInt8.toNat_ofNat', <- hx]; omega
 rw [hx] at hwt
 have hcv := conv_at x b hxb
 have hssz : (⟨r.toArray⟩ : ByteArray).size = r.length := by show r.toArray.size = _; simp
 have EL := fun W => lengthText_any r.length W (by omega)
 obtain ⟨L, hL⟩ : ∃ L : ByteArray, (⟨(lenB r.length).toArray⟩ : ByteArray) = L := ⟨_, rfl⟩
 rw [hL] at EL
 have HR : Hid ((⟨(UInt8.ofNat (t % 256).toNat :: (lenB r.length ++ r)).toArray⟩ : ByteArray) = ⟨#[b]⟩ ++ L ++ ⟨r.toArray⟩ /\ L.size <= 10) := by
  refine ⟨?_, ?_⟩
  ·rw [hb, <- hL]
   apply ByteArray.ext
   simp
  ·rw [<- hL]; show ((lenB r.length).toArray).size <= 10; have := beN_short9 r.length; simpa using this
 have ra := fun W => run_string_add_sum (P := Tryz.prog) W ⟨#[b]⟩ L (by show 1 + L.size <= _; have := HR.out.2; omega)
 have rb := fun W => run_string_add_sum (P := Tryz.prog) W (⟨#[b]⟩ ++ L) ⟨r.toArray⟩ (by rw [ByteArray.size_append, hssz]; show 1 + L.size + r.length <= _; have := HR.out.2; omega)
 have hlt2 := H4.out.2.1
 have hne2 := Nat.ne_of_lt hlt2
 have HWR : Hid (Below w.heap.size w w4) := H4.out.1
 clear hL hb hx hxb
 go_wp2_with fail
 go_region_with (go_at_call 109; refine (EL _).mono ?_; rintro e w5 ⟨rfl, hb5⟩; have cT5 : w5.cell? ⟨w.heap.size, 0, none⟩ = some (.int .i64 t) := (hb5.cell (p := ⟨w.heap.size, 0, none⟩) (by first | exact hlt2 | (simp; omega))).trans (by first | exact cT | go_keep); have hcar := fun (p : Addr) (h : p.block < _) => hb5.cell (p := p) h; have hB3 := below_via hb5 (by first | exact HWR.out.drew | exact (HWR.out.drew.alloc HWR.out.drew.size _).drew | exact HWR.out.drew.alloc HWR.out.drew.size _ | exact HWR.out); clear hb5)
 all_goals (
  go_wp2_with fail
  go_ret
  exact ⟨r, by rw [HR.out.1]; rfl, H4.out.2.2, by first | exact hB3 | exact hB3.drew | exact hB3.alloc hB3.size _ | exact hB3.drew.alloc hB3.size _ | exact (hB3.alloc hB3.size _).drew | exact (hB3.drew.alloc hB3.size _).drew⟩)
theorem textOf_plain (t : Int) (s : List UInt8) (ax : Option Addr) (l cx : Nat) (w : World) (hl : l <= 20000000) (hs : s.length <= 20000000) (hF : formV t s (.slice ax l cx) l = .iface 145 (.string ⟨s.toArray⟩)) (B : List UInt8 -> Prop)
  (EB : ∀ w3, Below w.heap.size w w3 -> Calls Tryz.prog 157 #[.string ⟨s.toArray⟩] w3 fun e w' => ∃ r : List UInt8, e = .returned (.string ⟨r.toArray⟩) /\ B r /\ r.length <= 400000000 /\ Below w3.heap.size w3 w') :
  Calls Tryz.prog 72 #[.agg #[.int .i64 t, .string ⟨s.toArray⟩, .slice ax l cx]] w fun e w' => TxPost t B w e w' := by
 obtain ⟨W2, hW2⟩ : ∃ W, W = w.alloc (Obj.cells #[Value.int IntKind.i64 t, Value.string { data := s.toArray }, Value.slice ax l cx] 57) := ⟨_, rfl⟩
 have E := formOf_any t s ax l cx W2 hl hs
 rw [hF] at E
 have HW := one_laid w (.int .i64 t) (.string ⟨s.toArray⟩) (.slice ax l cx) 57 W2 hW2
 have H2 : Hid (Below w.heap.size w W2 /\ w.heap.size < W2.heap.size /\ W2.cell? ⟨w.heap.size, 0, none⟩ = some (.int .i64 t)) := ⟨HW.1, HW.2.1, HW.2.2.1⟩
 have HEB : Hid (∀ w3, Below w.heap.size w w3 -> Calls Tryz.prog 157 #[.string ⟨s.toArray⟩] w3 fun e w' => ∃ r : List UInt8, e = .returned (.string ⟨r.toArray⟩) /\ B r /\ r.length <= 400000000 /\ Below w3.heap.size w3 w') := EB
 clear HW hF EB
 go_enter Tryz.func72, Tryz.ntmps72
 go_wp2_with fail
 rw [<- hW2]
 clear hW2
 refine E.mono ?_
 rintro e w3 ⟨rfl, hb3⟩
 have H3 : Hid (Below w.heap.size w w3 /\ w.heap.size < w3.heap.size /\ w3.cell? ⟨w.heap.size, 0, none⟩ = some (.int .i64 t)) := ⟨H2.out.1.trans (hb3.mono H2.out.1.size), Nat.lt_of_lt_of_le H2.out.2.1 hb3.size, (hb3.cell (p := ⟨w.heap.size, 0, none⟩) H2.out.2.1).trans H2.out.2.2⟩
 clear E H2 hb3
 go_wp2_with fail
 refine (HEB.out w3 H3.out.1).mono ?_
 rintro e w4 ⟨r, rfl, hBr, hrl, hb4⟩
 have H4 : Hid (Below w.heap.size w w4 /\ w.heap.size < w4.heap.size /\ B r) := ⟨H3.out.1.trans (hb4.mono H3.out.1.size), Nat.lt_of_lt_of_le H3.out.2.1 hb4.size, hBr⟩
 have cT : w4.cell? ⟨w.heap.size, 0, none⟩ = some (.int .i64 t) := (hb4.cell (p := ⟨w.heap.size, 0, none⟩) H3.out.2.1).trans H3.out.2.2
 clear H3 hb4 hBr HEB
 have hwt : IntKind.u8.wrap t = t % 256 := by rw [IntKind.wrap_u8]
 obtain ⟨x, hx⟩ : ∃ x : Int, t % 256 = x := ⟨_, rfl⟩
 obtain ⟨b, hb⟩ := zE (UInt8.ofNat (t % 256).toNat)
 have hxb : x = (b.toNat : Int) := by rw [<- hb, UInt8.toNat_ofNat', <- hx]; omega
 rw [hx] at hwt
 have hcv := conv_at x b hxb
 have hssz : (⟨r.toArray⟩ : ByteArray).size = r.length := by show r.toArray.size = _; simp
 have EL := fun W => lengthText_any r.length W (by omega)
 obtain ⟨L, hL⟩ : ∃ L : ByteArray, (⟨(lenB r.length).toArray⟩ : ByteArray) = L := ⟨_, rfl⟩
 rw [hL] at EL
 have HR : Hid ((⟨(UInt8.ofNat (t % 256).toNat :: (lenB r.length ++ r)).toArray⟩ : ByteArray) = ⟨#[b]⟩ ++ L ++ ⟨r.toArray⟩ /\ L.size <= 10) := by
  refine ⟨?_, ?_⟩
  ·rw [hb, <- hL]
   apply ByteArray.ext
   simp
  ·rw [<- hL]; show ((lenB r.length).toArray).size <= 10; have := beN_short9 r.length; simpa using this
 have ra := fun W => run_string_add_sum (P := Tryz.prog) W ⟨#[b]⟩ L (by show 1 + L.size <= _; have := HR.out.2; omega)
 have rb := fun W => run_string_add_sum (P := Tryz.prog) W (⟨#[b]⟩ ++ L) ⟨r.toArray⟩ (by rw [ByteArray.size_append, hssz]; show 1 + L.size + r.length <= _; have := HR.out.2; omega)
 have hlt2 := H4.out.2.1
 have hne2 := Nat.ne_of_lt hlt2
 have HWR : Hid (Below w.heap.size w w4) := H4.out.1
 clear hL hb hx hxb
 go_wp2_with fail
 go_region_with (go_at_call 109; refine (EL _).mono ?_; rintro e w5 ⟨rfl, hb5⟩; have cT5 : w5.cell? ⟨w.heap.size, 0, none⟩ = some (.int .i64 t) := (hb5.cell (p := ⟨w.heap.size, 0, none⟩) (by first | exact hlt2 | (simp; omega))).trans (by first | exact cT | go_keep); have hcar := fun (p : Addr) (h : p.block < _) => hb5.cell (p := p) h; have hB3 := below_via hb5 (by first | exact HWR.out.drew | exact (HWR.out.drew.alloc HWR.out.drew.size _).drew | exact HWR.out.drew.alloc HWR.out.drew.size _ | exact HWR.out); clear hb5)
 all_goals (
  go_wp2_with fail
  go_ret
  exact ⟨r, by rw [HR.out.1]; rfl, H4.out.2.2, by first | exact hB3 | exact hB3.drew | exact hB3.alloc hB3.size _ | exact hB3.drew.alloc hB3.size _ | exact (hB3.alloc hB3.size _).drew | exact (hB3.drew.alloc hB3.size _).drew⟩)
theorem textOf_row (t : Int) (s : List UInt8) (ax : Option Addr) (l cx : Nat) (w : World) (hl : l <= 20000000) (hs : s.length <= 20000000) (hF : formV t s (.slice ax l cx) l = .iface 147 (.slice ax l cx)) (B : List UInt8 -> Prop)
  (EB : ∀ w3, Below w.heap.size w w3 -> Calls Tryz.prog 158 #[.slice ax l cx] w3 fun e w' => ∃ r : List UInt8, e = .returned (.string ⟨r.toArray⟩) /\ B r /\ r.length <= 400000000 /\ Below w3.heap.size w3 w') :
  Calls Tryz.prog 72 #[.agg #[.int .i64 t, .string ⟨s.toArray⟩, .slice ax l cx]] w fun e w' => TxPost t B w e w' := by
 obtain ⟨W2, hW2⟩ : ∃ W, W = w.alloc (Obj.cells #[Value.int IntKind.i64 t, Value.string { data := s.toArray }, Value.slice ax l cx] 57) := ⟨_, rfl⟩
 have E := formOf_any t s ax l cx W2 hl hs
 rw [hF] at E
 have HW := one_laid w (.int .i64 t) (.string ⟨s.toArray⟩) (.slice ax l cx) 57 W2 hW2
 have H2 : Hid (Below w.heap.size w W2 /\ w.heap.size < W2.heap.size /\ W2.cell? ⟨w.heap.size, 0, none⟩ = some (.int .i64 t)) := ⟨HW.1, HW.2.1, HW.2.2.1⟩
 have HEB : Hid (∀ w3, Below w.heap.size w w3 -> Calls Tryz.prog 158 #[.slice ax l cx] w3 fun e w' => ∃ r : List UInt8, e = .returned (.string ⟨r.toArray⟩) /\ B r /\ r.length <= 400000000 /\ Below w3.heap.size w3 w') := EB
 clear HW hF EB
 go_enter Tryz.func72, Tryz.ntmps72
 go_wp2_with fail
 rw [<- hW2]
 clear hW2
 refine E.mono ?_
 rintro e w3 ⟨rfl, hb3⟩
 have H3 : Hid (Below w.heap.size w w3 /\ w.heap.size < w3.heap.size /\ w3.cell? ⟨w.heap.size, 0, none⟩ = some (.int .i64 t)) := ⟨H2.out.1.trans (hb3.mono H2.out.1.size), Nat.lt_of_lt_of_le H2.out.2.1 hb3.size, (hb3.cell (p := ⟨w.heap.size, 0, none⟩) H2.out.2.1).trans H2.out.2.2⟩
 clear E H2 hb3
 go_wp2_with fail
 refine (HEB.out w3 H3.out.1).mono ?_
 rintro e w4 ⟨r, rfl, hBr, hrl, hb4⟩
 have H4 : Hid (Below w.heap.size w w4 /\ w.heap.size < w4.heap.size /\ B r) := ⟨H3.out.1.trans (hb4.mono H3.out.1.size), Nat.lt_of_lt_of_le H3.out.2.1 hb4.size, hBr⟩
 have cT : w4.cell? ⟨w.heap.size, 0, none⟩ = some (.int .i64 t) := (hb4.cell (p := ⟨w.heap.size, 0, none⟩) H3.out.2.1).trans H3.out.2.2
 clear H3 hb4 hBr HEB
 have hwt : IntKind.u8.wrap t = t % 256 := by rw [IntKind.wrap_u8]
 obtain ⟨x, hx⟩ : ∃ x : Int, t % 256 = x := ⟨_, rfl⟩
 obtain ⟨b, hb⟩ := zE (UInt8.ofNat (t % 256).toNat)
 have hxb : x = (b.toNat : Int) := by rw [<- hb, UInt8.toNat_ofNat', <- hx]; omega
 rw [hx] at hwt
 have hcv := conv_at x b hxb
 have hssz : (⟨r.toArray⟩ : ByteArray).size = r.length := by show r.toArray.size = _; simp
 have EL := fun W => lengthText_any r.length W (by omega)
 obtain ⟨L, hL⟩ : ∃ L : ByteArray, (⟨(lenB r.length).toArray⟩ : ByteArray) = L := ⟨_, rfl⟩
 rw [hL] at EL
 have HR : Hid ((⟨(UInt8.ofNat (t % 256).toNat :: (lenB r.length ++ r)).toArray⟩ : ByteArray) = ⟨#[b]⟩ ++ L ++ ⟨r.toArray⟩ /\ L.size <= 10) := by
  refine ⟨?_, ?_⟩
  ·rw [hb, <- hL]
   apply ByteArray.ext
   simp
  ·rw [<- hL]; show ((lenB r.length).toArray).size <= 10; have := beN_short9 r.length; simpa using this
 have ra := fun W => run_string_add_sum (P := Tryz.prog) W ⟨#[b]⟩ L (by show 1 + L.size <= _; have := HR.out.2; omega)
 have rb := fun W => run_string_add_sum (P := Tryz.prog) W (⟨#[b]⟩ ++ L) ⟨r.toArray⟩ (by rw [ByteArray.size_append, hssz]; show 1 + L.size + r.length <= _; have := HR.out.2; omega)
 have hlt2 := H4.out.2.1
 have hne2 := Nat.ne_of_lt hlt2
 have HWR : Hid (Below w.heap.size w w4) := H4.out.1
 clear hL hb hx hxb
 go_wp2_with fail
 go_region_with (go_at_call 109; refine (EL _).mono ?_; rintro e w5 ⟨rfl, hb5⟩; have cT5 : w5.cell? ⟨w.heap.size, 0, none⟩ = some (.int .i64 t) := (hb5.cell (p := ⟨w.heap.size, 0, none⟩) (by first | exact hlt2 | (simp; omega))).trans (by first | exact cT | go_keep); have hcar := fun (p : Addr) (h : p.block < _) => hb5.cell (p := p) h; have hB3 := below_via hb5 (by first | exact HWR.out.drew | exact (HWR.out.drew.alloc HWR.out.drew.size _).drew | exact HWR.out.drew.alloc HWR.out.drew.size _ | exact HWR.out); clear hb5)
 all_goals (
  go_wp2_with fail
  go_ret
  exact ⟨r, by rw [HR.out.1]; rfl, H4.out.2.2, by first | exact hB3 | exact hB3.drew | exact hB3.alloc hB3.size _ | exact hB3.drew.alloc hB3.size _ | exact (hB3.alloc hB3.size _).drew | exact (hB3.drew.alloc hB3.size _).drew⟩)
theorem leaf_post {n : Nat} {t : Int} {s : List UInt8} {ks : List (It n)} {w w' : World} {e : Ending} (h48 : t ≠ 48) (h : TxPost t (fun r => r = s) w e w') :
  ∃ r : List UInt8, e = .returned (.string ⟨r.toArray⟩) /\ GoodT r (txtI (n + 1) (It.mk t s ks)) /\ r.length <= 11 + 12 * szI (n + 1) (It.mk t s ks) /\ Below w.heap.size w w' := by
 obtain ⟨r, rfl, rfl, hb⟩ := h
 have e : txtI (n + 1) (It.mk t r ks) = UInt8.ofNat (t % 256).toNat :: (lenB r.length ++ r) := by
  show UInt8.ofNat (t % 256).toNat :: (lenB (if t = 48 then _ else r).length ++ (if t = 48 then _ else r)) = _
  rw [if_neg h48]
 have h1 := txt_le (n + 1) (It.mk t r ks)
 rw [<- e]
 exact ⟨_, rfl, GoodT.refl _, h1, hb⟩
theorem row_post {n : Nat} {ks : List (It n)} {w w' : World} {e : Ending} (h : TxPost 48 (fun r => GoodT r ((ks.map (txtI n)).flatten) /\ r.length <= 12 * szS n ks) w e w') :
  ∃ r : List UInt8, e = .returned (.string ⟨r.toArray⟩) /\ GoodT r (txtI (n + 1) (It.mk 48 [] ks)) /\ r.length <= 11 + 12 * szI (n + 1) (It.mk 48 [] ks) /\ Below w.heap.size w w' := by
 obtain ⟨r, rfl, ⟨hg, hl⟩, hb⟩ := h
 have e : txtI (n + 1) (It.mk 48 [] ks) = UInt8.ofNat ((48 : Int) % 256).toNat :: (lenB ((ks.map (txtI n)).flatten).length ++ (ks.map (txtI n)).flatten) := rfl
 refine ⟨_, rfl, ?_, ?_, hb⟩
 ·rw [e]
  exact GoodT.whole (b := []) hg
 ·have h1 := beN_short9 r.length
  have h2 : szI (n + 1) (It.mk 48 [] ks) = szS n ks := by
   show ([] : List UInt8).length + ks.length + (ks.map (szI n)).sum = ks.length + (ks.map (szI n)).sum
   simp
  rw [h2]
  simp only [List.length_cons, List.length_append]
  omega
theorem txC_of (n : Nat) (HB : Hid (BdC n)) : TxC n := fun t s ks a d w hx hz hr => by
 have hsz := szI_kid hz
 obtain ⟨ax, cx, rfl, hcx⟩ := id hx
 rw [right_mk] at hr
 by_cases h48 : t = 48
 ·subst h48
  rw [if_neg (by simp)] at hr
  simp only [Bool.and_eq_true, List.all_eq_true] at hr
  obtain ⟨⟨⟨hs, _⟩, _⟩, hall⟩ := hr
  have hs0 := of_decide_eq_true hs
  obtain rfl : s = [] := List.eq_nil_of_length_eq_zero hs0
  refine (textOf_row 48 [] ax ks.length cx w hsz.2.1 hsz.1 (formV_row _ _) (fun r => GoodT r ((ks.map (txtI n)).flatten) /\ r.length <= 12 * szS n ks) fun w3 hb => ?_).mono fun e w' h => row_post h
  refine (HB.out ks _ (d + 1) w3 (hx.mono hb fun _ _ h => ItAt.below hb h) (szS_of hz) hall).mono ?_
  rintro e w' ⟨r, rfl, hg, hl, hb'⟩
  have := szS_of hz
  exact ⟨r, rfl, ⟨hg, hl⟩, by omega, hb'⟩
 ·rw [if_pos h48, Bool.and_eq_true] at hr
  have hk0 : ks.length = 0 := of_decide_eq_true hr.1
  have hp := hr.2
  rw [hk0]
  have done : ∀ w3 : World, ∀ F : Nat, (Calls Tryz.prog F #[.string ⟨s.toArray⟩] w3 fun e w' => e = .returned (.string ⟨s.toArray⟩) /\ Below w3.heap.size w3 w') -> Calls Tryz.prog F #[.string ⟨s.toArray⟩] w3 fun e w' => ∃ r : List UInt8, e = .returned (.string ⟨r.toArray⟩) /\ r = s /\ r.length <= 400000000 /\ Below w3.heap.size w3 w' :=
   fun w3 F h => h.mono fun e w' ⟨h1, h2⟩ => ⟨s, h1, rfl, by omega, h2⟩
  rcases plainOk_tag hp with rfl | rfl | rfl | rfl
  ·exact (textOf_flag 1 s ax 0 cx w (by omega) hsz.1 (formV_one _ _) (fun r => r = s) fun w3 _ => done w3 _ (body_flag ⟨s.toArray⟩ w3)).mono fun e w' h => leaf_post (by decide) h
  ·exact (textOf_integer 2 s ax 0 cx w (by omega) hsz.1 (formV_two _ _) (fun r => r = s) fun w3 _ => done w3 _ (body_integer ⟨s.toArray⟩ w3)).mono fun e w' h => leaf_post (by decide) h
  ·exact (textOf_plain 12 s ax 0 cx w (by omega) hsz.1 (formV_twelve _ _) (fun r => r = s) fun w3 _ => done w3 _ (body_plain ⟨s.toArray⟩ w3)).mono fun e w' h => leaf_post (by decide) h
  ·exact (textOf_octets 4 s ax 0 cx w (by omega) hsz.1 (formV_four _ _) (fun r => r = s) fun w3 _ => done w3 _ (body_octets ⟨s.toArray⟩ w3)).mono fun e w' h => leaf_post (by decide) h
theorem bdC_any : ∀ (n : Nat), BdC n
 | 0 => bd_zero
 | n + 1 => fun ks v d w hx hz hr => bd_step n (txC_of n (bdC_any n)) ks v d w hx hz hr
theorem textOf_any (n : Nat) : TxC n := txC_of n (bdC_any n)
theorem implItemText_step (n : Nat) (t : Int) (s : List UInt8) (ks : List (It n)) (a : Value) (w : World) (hx : KidsAt w (ItAt w n) a ks) (hz : szI (n + 1) (It.mk t s ks) <= 20000000) :
  Calls Tryz.prog 41 #[.agg #[.int .i64 t, .string ⟨s.toArray⟩, a]] w fun e w' => e = .returned (.tuple #[.string ⟨((writeI (n + 1) (It.mk t s ks)).getD []).toArray⟩, .bool (writeI (n + 1) (It.mk t s ks)).isSome]) /\ Below w.heap.size w w' := by
 obtain ⟨ax, cx, rfl, -⟩ := id hx
 obtain ⟨W2, hW2⟩ : ∃ W, W = w.alloc (Obj.cells #[Value.int IntKind.i64 t, Value.string { data := s.toArray }, Value.slice ax ks.length cx] 57) := ⟨_, rfl⟩
 have HW := one_laid w (.int .i64 t) (.string ⟨s.toArray⟩) (.slice ax ks.length cx) 57 W2 hW2
 have E := implItemOk_any (n + 1) (It.mk t s ks) (.agg #[.int .i64 t, .string ⟨s.toArray⟩, .slice ax ks.length cx]) W2 ⟨_, rfl, hx.mono HW.1 fun _ _ h => ItAt.below HW.1 h⟩ hz
 have HN : Hid (writeI (n + 1) (It.mk t s ks) = if rightI (n + 1) (It.mk t s ks) 0 = true /\ (txtI (n + 1) (It.mk t s ks)).length <= 4000 then some (txtI (n + 1) (It.mk t s ks)) else none) := rfl
 have HX : Hid (KidsAt w (ItAt w n) (.slice ax ks.length cx) ks /\ szI (n + 1) (It.mk t s ks) <= 20000000) := ⟨hx, hz⟩
 obtain ⟨l, hl⟩ := zE (ks.length)
 have HL : Hid (ks.length = l) := hl
 have HC : Hid (Below w.heap.size w W2 /\ w.heap.size < W2.heap.size /\ Cells3 W2 w.heap.size 0 (.int .i64 t) (.string ⟨s.toArray⟩) (.slice ax ks.length cx)) := ⟨HW.1, HW.2.1, HW.2.2⟩
 rw [hl] at hW2 E HX HC |-
 clear hx hz HW hl
 cases hr : rightI (n + 1) (It.mk t s ks) 0 with
 | false =>
  rw [hr] at E
  have HR : Hid (writeI (n + 1) (It.mk t s ks) = none) := by
   show writeI (n + 1) (It.mk t s ks) = none
   rw [HN.out, hr]
   simp
  clear hr
  go_enter Tryz.func41, Tryz.ntmps41
  go_wp2_with fail
  rw [<- hW2]
  refine E.mono ?_
  rintro e w3 ⟨rfl, hb3⟩
  have H3 : Hid (Below w.heap.size w w3) := HC.out.1.trans (hb3.mono HC.out.1.size)
  clear E hb3 hW2
  go_wp2_with fail
  go_ret2
  exact ⟨by rw [HR.out]; rfl, H3.out⟩
 | true =>
  rw [hr] at E
  have HR : Hid (rightI (n + 1) (It.mk t s ks) 0 = true /\ writeI (n + 1) (It.mk t s ks) = if (txtI (n + 1) (It.mk t s ks)).length <= 4000 then some (txtI (n + 1) (It.mk t s ks)) else none) := by
   refine ⟨hr, ?_⟩
   rw [HN.out, hr]
   simp
  clear hr HN
  go_enter Tryz.func41, Tryz.ntmps41
  go_wp2_with fail
  rw [<- hW2]
  refine E.mono ?_
  rintro e w3 ⟨rfl, hb3⟩
  obtain ⟨c0, c1, c2⟩ := HC.out.2.2.below HC.out.2.1 hb3
  have hbw : Below w.heap.size w w3 := HC.out.1.trans (hb3.mono HC.out.1.size)
  have ET := textOf_any n t s ks (.slice ax l cx) 0 w3 (HX.out.1.mono hbw fun _ _ h => ItAt.below hbw h) HX.out.2 HR.out.1
  have H3 : Hid (Below w.heap.size w w3) := hbw
  clear E hb3 hW2 hbw
  rw [show (0 : Nat) + 1 = 1 from rfl] at c1
  rw [show (0 : Nat) + 2 = 2 from rfl] at c2
  go_wp2_with fail
  refine ET.mono ?_
  rintro e w4 ⟨r, rfl, hg, hrl, hb4⟩
  have hssz : (⟨r.toArray⟩ : ByteArray).size = r.length := by show r.toArray.size = _; simp
  have hr9 : r.length <= 1000000000 := by have := HX.out.2; omega
  have H4 : Hid (Below w.heap.size w w4 /\ GoodT r (txtI (n + 1) (It.mk t s ks))) := ⟨H3.out.trans (hb4.mono H3.out.size), hg⟩
  clear ET hb4 hg hrl c0 c1 c2
  by_cases hbig : 4000 < r.length
  ·have hbi : (4000 : Int) < (r.length : Int) := by omega
   have HF : Hid (writeI (n + 1) (It.mk t s ks) = none) := by
    show _ = none
    rw [HR.out.2, if_neg]
    intro hle
    have := H4.out.2.1 hle
    rw [this] at hbig
    omega
   go_wp2_with fail
   go_ret2
   exact ⟨by rw [HF.out]; rfl, H4.out.1⟩
  ·have hbi : ¬ (4000 : Int) < (r.length : Int) := by omega
   have HF : Hid (writeI (n + 1) (It.mk t s ks) = some r) := by
    show _ = some r
    have hle : (txtI (n + 1) (It.mk t s ks)).length <= 4000 := by
     refine Nat.le_of_not_lt fun hlt => ?_
     exact hbig (H4.out.2.2 hlt)
    rw [HR.out.2, if_pos hle, H4.out.2.1 hle]
   go_wp2_with fail
   go_ret2
   exact ⟨by rw [HF.out]; rfl, H4.out.1⟩
theorem implItemText_any : ∀ (n : Nat) (x : It n) (v : Value) (w : World), ItAt w n v x -> szI n x <= 20000000 -> Calls Tryz.prog 41 #[v] w fun e w' => e = .returned (.tuple #[.string ⟨((writeI n x).getD []).toArray⟩, .bool (writeI n x).isSome]) /\ Below w.heap.size w w'
 | 0, _, _, _, h, _ => h.elim
 | n + 1, x, v, w, hx, hz => by
  obtain ⟨kx, rfl, hkx⟩ := hx
  exact implItemText_step n (It.tag x) (It.text x) (It.kids x) kx w hkx hz
end Go.Proofs.YtlbjhibolcgnoaaGreatDoor
