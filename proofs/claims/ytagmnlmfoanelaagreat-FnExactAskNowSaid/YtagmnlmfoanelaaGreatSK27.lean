/-
  Texts of the proof.
-/
import Derived.Deep.AppendSrc
import Derived.Test.YtagmnlmfoanelaaGreatSK26
set_option maxRecDepth 100000
set_option maxHeartbeats 25600000
namespace Go.Proofs.YtagmnlmfoanelaaGreat
open Go.RowKit Der
set_option linter.unusedVariables false
set_option linter.unusedSimpArgs false
theorem bytesItem_any (s : ByteArray) (w : World) (hs : s.size <= 20000000) : Calls Tryz.prog 92 #[.string s] w fun e w' => e = .returned (.agg #[.int .i64 4, .string s, .slice none 0 0]) /\ Below w.heap.size w w' := by
 go_enter Tryz.func92, Tryz.ntmps92
 go_wp2_with fail
 obtain ⟨W, hW⟩ : ∃ W, W = w.alloc (Obj.cells #[Value.int IntKind.i64 0, Value.string ⟨#[]⟩, Value.slice none 0 0] 87) := ⟨_, rfl⟩
 rw [<- hW]
 have H3 : Hid (Below w.heap.size w W /\ Blk3 W w.heap.size (.int .i64 0) (.string ⟨#[]⟩) (.slice none 0 0)) := by rw [hW]; exact ⟨(Below.refl _ _).alloc (Nat.le_refl _) _, heap_alloc_new w _⟩
 clear hW
 refine (cloneB_any s W (by omega)).mono ?_
 rintro e w2 ⟨rfl, hb2⟩
 have H4 := zH (zJ (H3.out.1.trans (hb2.mono H3.out.1.size)) (H3.out.2.below hb2))
 obtain ⟨⟨r0, r1, r2⟩, rf⟩ := cell_in H4.out.2
 clear H3 hb2
 go_wp2_with fail
 refine bodyPost_ret (v := .agg #[.int .i64 4, .string s, .slice none 0 0]) (by simp [results, Tryz.results92, go_sem, r0, r1, r2]; try rfl) rfl ⟨rfl, ?_⟩
 exact ((H4.out.1.setCell (p := ⟨w.heap.size, 0, none⟩) (Nat.le_refl _) _).setCell (p := ⟨w.heap.size, 1, none⟩) (Nat.le_refl _) _).setCell (p := ⟨w.heap.size, 2, none⟩) (Nat.le_refl _) _
theorem boolItem_any (b : Bool) (w : World) : Calls Tryz.prog 94 #[.bool b] w fun e w' => e = .returned (.agg #[.int .i64 1, .string ⟨[if b then 255 else 0].toArray⟩, .slice none 0 0]) /\ Below w.heap.size w w' := by
 cases b with
 | true =>
  go_enter Tryz.func94, Tryz.ntmps94
  go_wp2_with fail
  refine bodyPost_ret (v := .agg #[.int .i64 1, .string ⟨#[255]⟩, .slice none 0 0]) (by simp [results, Tryz.results94, go_sem]; try rfl) rfl ⟨rfl, ?_⟩
  exact (Below.refl _ _).alloc (Nat.le_refl _) _
 | false =>
  go_enter Tryz.func94, Tryz.ntmps94
  go_wp2_with fail
  refine bodyPost_ret (v := .agg #[.int .i64 1, .string ⟨#[0]⟩, .slice none 0 0]) (by simp [results, Tryz.results94, go_sem]; try rfl) rfl ⟨rfl, ?_⟩
  exact (Below.refl _ _).alloc (Nat.le_refl _) _
end Go.Proofs.YtagmnlmfoanelaaGreat
namespace Go.Proofs.YtagmnlmfoanelaaGreat
open Go.RowKit
set_option linter.unusedVariables false
theorem byteCells_cellB (s : ByteArray) : byteCells s = s.data.toList.map cellB := rfl
theorem run_append_str {w : World} (base : Nat) (ty : TypeId) (v : Value) (n : Nat) (xs : List Value) (s : ByteArray) (hown : w.ownsRow base 5 1 v n xs) (h63 : n + s.size <= 1000000000000) (hbase : base <= w.heap.size) (hn : v ≠ .slice none 0 0) :
  ∃ v' w', (Builtin.append_ #[107, 9] ty #[v, .string s]).run Tryz.prog w = .ok v' w' /\ w'.ownsRow base 5 1 v' (n + s.size) (xs ++ s.data.toList.map cellB) /\ w.grownBy w' v.ownBlock /\ v' ≠ .slice none 0 0 := by
 obtain ⟨i, hi, hz0, hz1, hz2⟩ := info_parts info5
 have hsrc : Src Tryz.prog i.size 9 (.string s) s.size (byteCells s) w := by rw [hz1]; exact Src.ofString w Tryz.underlying9 s
 have hl : (byteCells s).length = s.size := byteCells_length s
 rcases hown.2 with ⟨h, _⟩ | ⟨g, cap, cur, rfl, hbg, hg, hnc, hcm, hcs, htake⟩
 ·exact absurd h hn
 ·have hx := hown.1
  rw [Nat.mul_one] at hx hcs htake
  by_cases hroom : n + s.size <= cap
  ·have hst := run_storeCells_at Tryz.prog g n 5 (byteCells s) 0 cur w hg (by rw [hl]; omega) hsrc.one
   have hr : (Builtin.append_ #[107, 9] ty #[.slice (some ⟨g, 0, none⟩) n cap, .string s]).run Tryz.prog w = .ok (.slice (some ⟨g, 0, none⟩) (n + s.size) cap) (w.setRow g (cur.toList.take n ++ byteCells s ++ cur.toList.drop (n + (byteCells s).length)).toArray) := by
    have hc := hsrc.cells
    rw [hz1] at hc
    simp only [Nat.add_zero] at hst
    simp [Builtin.append_, run_underlying Tryz.underlying107, run_underlying Tryz.underlying9, sizeOf, typeInfo, hi, hz1, hsrc.len, hroom, hc, Addr.add_lit, hst]
   refine ⟨_, _, hr, ⟨by rw [List.length_append, List.length_map, hx, Nat.mul_one]; rfl, .inr ⟨g, cap, _, rfl, hbg, setRow_heap w g cur _ 5 _ hg, hroom, hcm, ?_, ?_⟩⟩, ⟨rfl, rfl, rfl, by simp, fun k _ hk => setRow_other w g k _ (fun e => hk (by simp [Value.ownBlock, e]))⟩, by simp⟩
   ·simp only [List.size_toArray, List.length_append, List.length_take, List.length_drop, Array.length_toList]
    omega
   ·rw [htake, Nat.mul_one, <- byteCells_cellB]
    have e : n + s.size = (xs ++ byteCells s).length := by rw [List.length_append, hl, hx]
    rw [e]
    exact List.take_left
  ·have holds : ∀ j u, xs[j]? = some u -> w.cell? ((⟨g, 0, none⟩ : Addr).add j) = some u := hown.cells (g := g) rfl
   have hold := run_firstCells_some (P := Tryz.prog) w.drew i.size n ⟨g, 0, none⟩ n cap xs (by rw [hz1, Nat.mul_one]; exact hx) (by simpa using holds)
   have hr := run_append_grow_src (P := Tryz.prog) w 107 9 ty 5 i (.int .u8 0) Tryz.underlying107 hi hz0 (some ⟨g, 0, none⟩) n cap xs hold (.string s) s.size (byteCells s) hsrc (by omega) (by omega) (growslice_fits (by omega) (by rw [hz2]; omega))
   have hge := grownCap_ge w (n + s.size) cap 5
   have hcm2 : grownCap w (n + s.size) cap 5 <= maxLen := grownCap_le_maxLen w (n + s.size) cap 5 (by unfold maxLen; omega)
   refine ⟨_, _, hr, ⟨by rw [List.length_append, List.length_map, hx, Nat.mul_one]; rfl, .inr ⟨w.heap.size, _, _, rfl, hbase, heap_alloc_new w.drew _, hge, hcm2, ?_, ?_⟩⟩, ⟨rfl, rfl, rfl, by simp, fun k hk _ => heap_alloc_old w.drew _ hk⟩, by simp⟩
   ·have hzc : (Value.cells (.int .u8 0)).size = 1 := rfl
    simp only [Array.size_append, List.size_toArray, List.length_append, size_zeroCells, hzc, hl, hx]
    omega
   ·rw [Array.toList_append, Nat.mul_one, <- byteCells_cellB]
    have e : n + s.size = (xs ++ byteCells s).length := by rw [List.length_append, hl, hx]
    rw [e]
    exact List.take_left
theorem wpList_append_str {w : World} {ops : Array Oper} {rest : List Oper} {o : Oper} {a : Act} {Q : Exit -> Act -> World -> Prop} (hgd : o.guard = none) (p x : Operand)
  (ho : o.op = .call { callee := .builtin .append, args := #[p, x], argTypes := #[107, 9] }) (base : Nat) (v : Value) (n : Nat) (xs : List Value) (s : ByteArray) (hs : a.eval p = v) (hx : a.eval x = .string s) (hown : w.ownsRow base 5 1 v n xs) (h63 : n + s.size <= 1000000000000) (hbase : base <= w.heap.size) (hn : v ≠ .slice none 0 0)
  (h : ∀ v' w', w'.ownsRow base 5 1 v' (n + s.size) (xs ++ s.data.toList.map cellB) -> w.grownBy w' v.ownBlock -> v' ≠ .slice none 0 0 -> wpList Tryz.prog ops Q rest (a.put o.dst v') w') : wpList Tryz.prog ops Q (o :: rest) a w :=
 wpList_plain hgd fun _ hK => by
  obtain ⟨v', w', hr, h2, h3, h4⟩ := run_append_str base o.type v n xs s hown h63 hbase hn
  unfold Oper.wp execOp
  simp only [ho, resolve, invoke, builtin, Sem.run_bind, Sem.run_pure, Result.andThen_ok, List.map_toArray, List.map_cons, List.map_nil, hs, hx, hr]
  exact hK _ _ (h v' w' h2 h3 h4)
end Go.Proofs.YtagmnlmfoanelaaGreat
namespace Go.Proofs.YtagmnlmfoanelaaGreat
open Go.RowKit Der
set_option linter.unusedVariables false
def GoodT (s t : List UInt8) : Prop := (t.length <= 4000 -> s = t) /\ (4000 < t.length -> 4000 < s.length)
theorem GoodT.refl (s : List UInt8) : GoodT s s := ⟨fun _ => rfl, fun h => h⟩
theorem GoodT.whole {b s t : List UInt8} {c : UInt8} (h : GoodT s t) : GoodT (c :: (lenB s.length ++ s)) (c :: (lenB t.length ++ t)) := by
 by_cases ht : t.length <= 4000
 ·rw [h.1 ht]
  exact GoodT.refl _
 ·have h2 := h.2 (by omega)
  refine ⟨fun h3 => ?_, fun _ => ?_⟩
  ·simp only [List.length_cons, List.length_append] at h3
   omega
  ·simp only [List.length_cons, List.length_append]
   omega
def TxC (n : Nat) : Prop := ∀ (t : Int) (s : List UInt8) (ks : List (It n)) (a : Value) (d : Nat) (w : World), KidsAt w (ItAt w n) a ks -> szI (n + 1) (It.mk t s ks) <= 20000000 -> rightI (n + 1) (It.mk t s ks) d = true ->
 Calls Tryz.prog 89 #[.agg #[.int .i64 t, .string ⟨s.toArray⟩, a]] w fun e w' => ∃ r : List UInt8, e = .returned (.string ⟨r.toArray⟩) /\ GoodT r (txtI (n + 1) (It.mk t s ks)) /\ r.length <= 11 + 12 * szI (n + 1) (It.mk t s ks) /\ Below w.heap.size w w'
def BdC (n : Nat) : Prop := ∀ (ks : List (It n)) (v : Value) (d : Nat) (w : World), KidsAt w (ItAt w n) v ks -> szS n ks <= 20000000 -> (∀ y ∈ ks, rightI n y d = true) ->
 Calls Tryz.prog 132 #[v] w fun e w' => ∃ r : List UInt8, e = .returned (.string ⟨r.toArray⟩) /\ GoodT r ((ks.map (txtI n)).flatten) /\ r.length <= 12 * szS n ks /\ Below w.heap.size w w'
theorem bd_zero : BdC 0 := fun ks v d w hx hz hr => by
 have hk : ks = [] := by
  cases ks with
  | nil => rfl
  | cons x _ => exact (x : Empty).elim
 subst hk
 obtain ⟨ax, cx, rfl, _⟩ := hx
 clear hz hr
 show Calls Tryz.prog 132 #[.slice ax 0 cx] w _
 go_enter Tryz.func132, Tryz.ntmps132
 go_wp2_with fail
 have HO : Hid ((w.alloc (Obj.cells #[] 5)).ownsRow w.heap.size 5 1 (.slice (some ⟨w.heap.size, 0, none⟩) 0 0) 0 (([] : List UInt8).map cellB) /\ Below w.heap.size w (w.alloc (Obj.cells #[] 5))) := ⟨World.ownsRow_made w #[] 0 (Nat.le_refl _) (Nat.zero_le _) rfl, (Below.refl _ _).alloc (Nat.le_refl _) _⟩
 have hcv := conv_own HO.out.1
 go_loopw [9, 3] (fun iv tv wr => iv = .int .i64 0 /\ tv = .slice (some ⟨w.heap.size, 0, none⟩) 0 0 /\ wr = w.alloc (Obj.cells #[] 5)) (fun _ _ _ => 0)
 case atStart => exact ⟨rfl, rfl, rfl⟩
 case round =>
  obtain ⟨rfl, rfl, rfl⟩ := hrel
  go_wp2_with fail
  go_ret
  exact ⟨[], rfl, GoodT.refl _, by simp, HO.out.2⟩
theorem flat_take {n : Nat} {ks : List (It n)} {k : Nat} (h : k < ks.length) : ((ks.take (k + 1)).map (txtI n)).flatten = ((ks.take k).map (txtI n)).flatten ++ txtI n ks[k] := by
 rw [<- List.take_append_getElem h, List.map_append, List.flatten_append]
 simp
theorem flat_part {n : Nat} {ks : List (It n)} (k : Nat) : (((ks.take k).map (txtI n)).flatten).length <= ((ks.map (txtI n)).flatten).length := by
 have e : (ks.map (txtI n)).flatten = ((ks.take k).map (txtI n)).flatten ++ ((ks.drop k).map (txtI n)).flatten := by
  rw [<- List.flatten_append, <- List.map_append, List.take_append_drop]
 rw [e, List.length_append]
 exact Nat.le_add_right _ _
theorem flat_bound {n : Nat} (ks : List (It n)) : (((ks).map (txtI n)).flatten).length <= 12 * szS n ks := by
 unfold szS
 induction ks with
 | nil => simp
 | cons x ks ih =>
  have := txt_le n x
  simp only [List.map_cons, List.flatten_cons, List.length_append, List.sum_cons, List.length_cons]
  omega
theorem szS_take {n : Nat} {ks : List (It n)} {k : Nat} (h : k < ks.length) : szS n (ks.take k) + 1 + szI n ks[k] <= szS n ks := by
 have h1 := take_sum h
 have h2 := take_sum_le ks (k + 1)
 unfold szS
 rw [List.length_take]
 omega
theorem bd_step (n : Nat) (IH : Hid (TxC n)) (ks : List (It (n + 1))) (v : Value) (d : Nat) (w : World) (hx : KidsAt w (ItAt w (n + 1)) v ks) (hz : szS (n + 1) ks <= 20000000) (hr : ∀ y ∈ ks, rightI (n + 1) y d = true) :
  Calls Tryz.prog 132 #[v] w fun e w' => ∃ r : List UInt8, e = .returned (.string ⟨r.toArray⟩) /\ GoodT r ((ks.map (txtI (n + 1))).flatten) /\ r.length <= 12 * szS (n + 1) ks /\ Below w.heap.size w w' := by
 have hx0 := hx
 obtain ⟨ax, cx, rfl, _⟩ := hx0
 have HZ : Hid (szS (n + 1) ks <= 20000000 /\ ∀ y ∈ ks, rightI (n + 1) y d = true) := ⟨hz, hr⟩
 have hl := (szS_kid hz).1
 have HX : Hid (KidsAt w (ItAt w (n + 1)) (.slice ax ks.length cx) ks) := hx
 obtain ⟨l, hle⟩ := zE (ks.length)
 have HE : Hid (ks.length = l) := hle
 rw [hle] at HX hl |-
 clear hx hz hle hr
 go_enter Tryz.func132, Tryz.ntmps132
 go_wp2_with fail
 have HO : Hid ((w.alloc (Obj.cells #[] 5)).ownsRow w.heap.size 5 1 (.slice (some ⟨w.heap.size, 0, none⟩) 0 0) 0 (([] : List UInt8).map cellB) /\ Below w.heap.size w (w.alloc (Obj.cells #[] 5))) := ⟨World.ownsRow_made w #[] 0 (Nat.le_refl _) (Nat.zero_le _) rfl, (Below.refl _ _).alloc (Nat.le_refl _) _⟩
 go_loopw [9, 3] (fun iv tv wr => ∃ (k : Nat), k <= l /\ iv = .int .i64 k /\ Hid (∃ T : List UInt8, T = ((ks.take k).map (txtI (n + 1))).flatten /\ T.length <= 4000 /\ wr.ownsRow w.heap.size 5 1 tv T.length (T.map cellB) /\ tv ≠ .slice none 0 0 /\ Below w.heap.size w wr)) (fun iv _ _ => l - (intOf iv).toNat)
 case atStart => exact ⟨0, Nat.zero_le _, rfl, [], rfl, Nat.zero_le _, HO.out.1, by simp, HO.out.2⟩
 case round =>
  obtain ⟨k, hk, rfl, H⟩ := hrel
  clear HO
  obtain ⟨T, hT, hTl, hown, hnn, hbel⟩ := H.out
  have HT : Hid (T = ((ks.take k).map (txtI (n + 1))).flatten) := hT
  have HB : Hid (Below w.heap.size w wr) := hbel
  clear H hT hbel
  by_cases hlt : k < l
  ·have hlti : (k : Int) < (l : Int) := by omega
   have hk0 : (0 : Int) <= (k : Int) := by omega
   have hj1 : k < ks.length := by rw [HE.out]; exact hlt
   obtain ⟨g1, o1, t1, s1, k1, hax, hg1, hc1, hi1⟩ := HX.out.get hj1
   obtain ⟨c10, c11, c12⟩ := Cells3.below (w' := wr) (t := t1) (s := s1) (k := k1) hc1 hg1 HB.out
   obtain ⟨kk, hkk, hkids⟩ := ItAt.below HB.out hi1
   injection hkk with hkk
   simp only [Array.mk.injEq, List.cons.injEq, and_true] at hkk
   obtain ⟨rfl, rfl, rfl⟩ := hkk
   have hsz : szI (n + 1) ks[k] <= 20000000 := (szS_kid HZ.out.1).2 _ (List.getElem_mem hj1)
   have hrk := HZ.out.2 _ (List.getElem_mem hj1)
   obtain ⟨t, s, ks1, hxe⟩ : ∃ t s ks1, ks[k] = It.mk t s ks1 := ⟨_, _, _, (It.eta ks[k]).symm⟩
   have HXE : Hid (ks[k] = It.mk t s ks1) := hxe
   rw [hxe] at hkids hsz c10 c11 hrk
   change KidsAt wr (ItAt wr n) k1 ks1 at hkids
   change wr.cell? _ = some (.int .i64 t) at c10
   change wr.cell? _ = some (.string ⟨s.toArray⟩) at c11
   obtain ⟨ax1, cx1, rfl, _⟩ := id hkids
   obtain ⟨W1, hW1⟩ : ∃ W, W = wr.alloc (Obj.cells #[Value.int IntKind.i64 t, Value.string { data := s.toArray }, Value.slice ax1 ks1.length cx1] 87) := ⟨_, rfl⟩
   have hb1 := (one_laid wr (.int .i64 t) (.string ⟨s.toArray⟩) (.slice ax1 ks1.length cx1) 87 W1 hW1).1
   have E := IH.out t s ks1 _ d W1 (hkids.mono hb1 fun _ _ h => ItAt.below hb1 h) hsz hrk
   have HS : Hid (szI (n + 1) (It.mk t s ks1) <= 20000000 /\ Below wr.heap.size wr W1) := ⟨hsz, hb1⟩
   obtain ⟨l1, hl1⟩ := zE (ks1.length)
   rw [hl1] at c12 hW1 E
   subst hax
   clear hc1 hi1 hg1 hkids hsz hxe hl1 hb1 hrk
   go_wp2_with fail
   rw [<- hW1]
   clear hW1
   refine E.mono ?_
   rintro e w3 ⟨r, rfl, hgood, hrl, hb3⟩
   have hrs : (⟨r.toArray⟩ : ByteArray).size = r.length := by show r.toArray.size = _; simp
   have hr9 : r.length <= 1000000000 := by have := HS.out.1; omega
   have H3 : Hid (w3.ownsRow w.heap.size 5 1 u3 T.length (T.map cellB) /\ Below w.heap.size w w3 /\ GoodT r (txtI (n + 1) ks[k]) /\ r.length <= 11 + 12 * szI (n + 1) ks[k]) := by
    have hbw : Below wr.heap.size wr w3 := HS.out.2.trans (hb3.mono HS.out.2.size)
    refine ⟨?_, HB.out.trans (hbw.mono HB.out.size), ?_, ?_⟩
    ·exact hown.kept ⟨hbw.os, hbw.tape, hbw.output, hbw.size, fun k hk _ => hbw.block k hk⟩ (row := none) (by cases hv : u3.ownBlock <;> simp)
    ·rw [HXE.out]; exact hgood
    ·rw [HXE.out]; exact hrl
   have hown3 := H3.out.1
   clear E hgood hrl hb3 c10 c11 c12 hown
   go_wp2_with (at_builtin; refine wpList_append_str rfl _ _ rfl w.heap.size u3 T.length (T.map cellB) ⟨r.toArray⟩ rfl rfl hown3 ?a1 ?a2 hnn ?_)
   case a1 => rw [hrs]; omega
   case a2 => exact H3.out.2.1.size
   intro v' w4 hown' hgrow hnn'
   have HN : Hid (w4.ownsRow w.heap.size 5 1 v' (T ++ r).length ((T ++ r).map cellB) /\ Below w.heap.size w w4) := by
    refine ⟨?_, H3.out.2.1.grown hgrow H3.out.2.1.size (fun j hj => (hown3.lt j hj).1)⟩
    rw [List.map_append, List.length_append]
    exact hown'
   obtain ⟨g', cap', hv'⟩ : ∃ g' cap', v' = .slice (some ⟨g', 0, none⟩) (T ++ r).length cap' := by
    rcases HN.out.1.2 with ⟨h, _⟩ | ⟨g', cap', cur, h, _⟩
    ·exact absurd h hnn'
    ·exact ⟨g', cap', h⟩
   subst hv'
   have hcv := conv_own HN.out.1
   obtain ⟨T', hT'⟩ : ∃ T', T ++ r = T' := ⟨_, rfl⟩
   have HT' : Hid (T ++ r = T' /\ T'.length = T.length + r.length) := ⟨hT', by rw [<- hT', List.length_append]⟩
   rw [hT'] at HN hcv |-
   have hT'9 : T'.length <= 2000000000 := by rw [HT'.out.2]; omega
   have HFL : Hid (T'.length <= 12 * szS (n + 1) ks) := by
    show T'.length <= _
    have h1 := szS_take hj1
    have h2 := flat_bound (ks.take k)
    rw [<- HT.out] at h2
    have h3 := H3.out.2.2.2
    rw [HT'.out.2]
    omega
   clear hown' hgrow hnn' hown3 hnn hT'
   by_cases hbig : 4000 < T'.length
   ·have hbi : (4000 : Int) < (T'.length : Int) := by omega
    have HG : Hid (GoodT T' ((ks.map (txtI (n + 1))).flatten)) := by
     have hfl : 4000 < ((ks.map (txtI (n + 1))).flatten).length := by
      have h1 := flat_part (ks := ks) (k + 1)
      rw [flat_take hj1, List.length_append, <- HT.out] at h1
      have h2 := HT'.out.2
      by_cases hq : (txtI (n + 1) ks[k]).length <= 4000
      ·have := H3.out.2.2.1.1 hq
       rw [this] at h2
       omega
      ·omega
     exact ⟨fun h => by omega, fun _ => hbig⟩
    go_wp2_with fail
    go_ret
    exact ⟨T', rfl, HG.out, HFL.out, HN.out.2⟩
   ·have hbi : ¬ (4000 : Int) < (T'.length : Int) := by omega
    have HT2 : Hid (T' = ((ks.take (k + 1)).map (txtI (n + 1))).flatten /\ T'.length <= 4000) := by
     refine ⟨?_, by omega⟩
     have hq : (txtI (n + 1) ks[k]).length <= 4000 := by
      refine Nat.le_of_not_lt fun hq => ?_
      have h1 := H3.out.2.2.1.2 hq
      have h2 := HT'.out.2
      omega
     rw [flat_take hj1, <- HT.out, <- HT'.out.1, H3.out.2.2.1.1 hq]
    clear hcv
    go_wp2_with fail
    exact ⟨⟨k + 1, by omega, by go_num, T', HT2.out.1, HT2.out.2, HN.out.1, by simp, HN.out.2⟩, by simp [intOf]; omega⟩
  ·have hlti : ¬ (k : Int) < (l : Int) := by omega
   have hkl : k = l := by omega
   have hcv := conv_own hown
   have HG : Hid (GoodT T ((ks.map (txtI (n + 1))).flatten) /\ T.length <= 12 * szS (n + 1) ks) := by
    have h := HT.out
    rw [List.take_of_length_le (by rw [HE.out]; omega)] at h
    rw [<- h]
    refine ⟨GoodT.refl _, ?_⟩
    rw [h]
    exact flat_bound ks
   clear hown hnn
   go_wp2_with fail
   go_ret
   exact ⟨T, rfl, HG.out.1, HG.out.2, HB.out⟩
end Go.Proofs.YtagmnlmfoanelaaGreat
