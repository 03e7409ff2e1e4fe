/-
  Texts of the proof.
-/
import Derived.Laws.AppendOwnNone
import Derived.Test.YtabfamhaihnccaaGreatSV11
set_option maxRecDepth 100000
set_option maxHeartbeats 25600000
namespace Go.Proofs.YtabfamhaihnccaaGreat
open Go.RowKit Go.ChangeShapes
set_option linter.unusedVariables false
set_option linter.unusedSimpArgs false
theorem sizeSet (w : World) (p : Addr) (v : Value) : w.heap.size <= (w.setCell p v).heap.size := ((Below.refl 0 w).setCell (p := p) (Nat.zero_le _) v).size
structure So where
 certs : List Ct
 crls : List Cl
 ancs : List An
def SoAt (w : World) (v : Value) (s : So) : Prop := ∃ p q r, v = .agg #[p, q, r] /\ AtS certKd w p s.certs /\ AtS crlKd w q s.crls /\ AtS anKd w r s.ancs
theorem SoAt.below {w w' : World} {v : Value} {s : So} (h : SoAt w v s) (hb : Below w.heap.size w w') : SoAt w' v s := by
 obtain ⟨p, q, r, hv, h1, h2, h3⟩ := h
 exact ⟨p, q, r, hv, h1.below hb, h2.below hb, h3.below hb⟩
theorem SoAt.shape {w : World} {v : Value} {s : So} (h : SoAt w v s) : ∃ a1 c1 a2 c2 a3 c3, v = .agg #[.slice a1 s.certs.length c1, .slice a2 s.crls.length c2, .slice a3 s.ancs.length c3] := by
 obtain ⟨p, q, r, hv, h1, h2, h3⟩ := h
 obtain ⟨a1, c1, hp⟩ := h1.shape
 obtain ⟨a2, c2, hq⟩ := h2.shape
 obtain ⟨a3, c3, hr⟩ := h3.shape
 exact ⟨a1, c1, a2, c2, a3, c3, by rw [hv, hp, hq, hr]⟩
theorem SoAt.rows {w : World} {p q r : Value} {s : So} (h : SoAt w (.agg #[p, q, r]) s) : AtS certKd w p s.certs /\ AtS crlKd w q s.crls /\ AtS anKd w r s.ancs := by
 obtain ⟨p', q', r', hv, h1⟩ := h
 injection hv with hv
 injection hv with hv
 injection hv with e1 hv
 injection hv with e2 hv
 injection hv with e3 hv
 rw [e1, e2, e3]
 exact h1
def OwnO (w : World) (base : Nat) (v : Value) (s : So) (fp : List Nat) : Prop := ∃ p q r f1 f2 f3, v = .agg #[p, q, r] /\ OwnS certKd w base p s.certs f1 /\ OwnS crlKd w base q s.crls f2 /\ OwnS anKd w base r s.ancs f3 /\ fp = f1 ++ (f2 ++ f3) /\ fp.Nodup
theorem OwnO.at {w : World} {base : Nat} {v : Value} {s : So} {fp : List Nat} (h : OwnO w base v s fp) : SoAt w v s := by
 obtain ⟨p, q, r, f1, f2, f3, hv, h1, h2, h3, _, _⟩ := h
 exact ⟨p, q, r, hv, h1.at, h2.at, h3.at⟩
theorem OwnO.same {w w' : World} {base : Nat} {v : Value} {s : So} {fp : List Nat} (h : OwnO w base v s fp) (hs : ∀ b ∈ fp, w'.heap[b]? = w.heap[b]?) : OwnO w' base v s fp := by
 obtain ⟨p, q, r, f1, f2, f3, hv, h1, h2, h3, rfl, hn⟩ := h
 exact ⟨p, q, r, f1, f2, f3, hv, h1.same fun b hb => hs b (List.mem_append_left _ hb), h2.same fun b hb => hs b (List.mem_append_right _ (List.mem_append_left _ hb)), h3.same fun b hb => hs b (List.mem_append_right _ (List.mem_append_right _ hb)), rfl, hn⟩
theorem OwnO.lt {w : World} {base : Nat} {v : Value} {s : So} {fp : List Nat} (h : OwnO w base v s fp) : ∀ b ∈ fp, base <= b /\ b < w.heap.size := by
 obtain ⟨p, q, r, f1, f2, f3, hv, h1, h2, h3, rfl, hn⟩ := h
 intro b hb
 rcases List.mem_append.1 hb with hb | hb
 ·exact h1.lt b hb
 ·rcases List.mem_append.1 hb with hb | hb
  ·exact h2.lt b hb
  ·exact h3.lt b hb
theorem OwnO.stays {w w' : World} {base : Nat} {v : Value} {s : So} {fp : List Nat} (h : OwnO w base v s fp) (hb : Below w.heap.size w w') : OwnO w' base v s fp := h.same fun b hm => hb.block b (h.lt b hm).2
theorem OwnO.out {w w' : World} {base : Nat} {v : Value} {s : So} {fp fq : List Nat} (h : OwnO w base v s fp) (ho : Out fq w w') (hn : ∀ b ∈ fp, b ∉ fq) : OwnO w' base v s fp := h.same fun b hm => ho.2.2.2.2 b (h.lt b hm).2 (hn b hm)
def ArgO (B : Nat) (w : World) (v : Value) (s : So) : Prop := ∃ a1 c1 a2 c2 a3 c3, v = .agg #[.slice a1 s.certs.length c1, .slice a2 s.crls.length c2, .slice a3 s.ancs.length c3] /\ ArgM B w (.slice a1 s.certs.length c1) s.certs /\ ArgS B w (.slice a2 s.crls.length c2) s.crls /\ ArgN B w (.slice a3 s.ancs.length c3) s.ancs
theorem ArgO.below {B : Nat} {w w' : World} {v : Value} {s : So} (h : ArgO B w v s) (hb : Below B w w') {B' : Nat} (hB : B <= B') : ArgO B' w' v s := by
 obtain ⟨a1, c1, a2, c2, a3, c3, hv, h1, h2, h3⟩ := h
 exact ⟨a1, c1, a2, c2, a3, c3, hv, h1.below hb hB, h2.below hb hB, h3.below hb hB⟩
def wtO (s : So) : Nat := wtM s.certs + wtS s.crls + wtN s.ancs
def WdO (s : So) : Prop := ((∀ c ∈ s.certs, WdC c) /\ s.certs.length <= 9223372036854775807) /\ ((∀ c ∈ s.crls, WdL c) /\ s.crls.length <= 9223372036854775807) /\ (∀ c ∈ s.ancs, WdA c) /\ s.ancs.length <= 9223372036854775807
def szO (s : So) (left : Int) : Int := if (wtO s : Int) <= left then left - (wtO s : Int) else -1
theorem cellsStore : Tryz.prog.cellsOf 26 = 3 := by kernel_rfl
theorem cellsRow1 : Tryz.prog.cellsOf 22 = 1 := by kernel_rfl
theorem cellsRow2 : Tryz.prog.cellsOf 23 = 1 := by kernel_rfl
theorem cellsRow3 : Tryz.prog.cellsOf 24 = 1 := by kernel_rfl
theorem store_of_trod {H : Type} {enc : TypeId × Value -> H} {W : World} {fuel : Nat} {cs : List Value} {x : DataW H × List MemPlace} (h : DataW.trod enc Tryz.prog W 0 (fun _ => true) true fuel 26 cs = some x) :
  ∃ s : So, ArgO W.heap.size W (.agg cs.toArray) s /\ WdO s := by
 obtain ⟨xs, m, rfl, hx, hl, hxl, hall⟩ := DataW.trod_struct Tryz.underlying26 h
 rw [cellsStore] at hl
 obtain ⟨x0, x1, x2, rfl⟩ : ∃ x0 x1 x2, xs = [x0, x1, x2] := by
  match xs, hxl with
  | [x0, x1, x2], _ => exact ⟨x0, x1, x2, rfl⟩
 have f0 := hall 0 _ rfl
 change DataW.trod _ _ _ _ _ _ _ 22 ((cs.drop 0).take (Tryz.prog.cellsOf 22)) = some x0 at f0
 rw [cellsRow1] at f0
 obtain ⟨a0, c0, l0, h0, m0, w0, r0⟩ := certs_in f0
 have g0 := take_one h0
 have f1 := hall 1 _ rfl
 change DataW.trod _ _ _ _ _ _ _ 23 ((cs.drop 1).take (Tryz.prog.cellsOf 23)) = some x1 at f1
 rw [cellsRow2] at f1
 obtain ⟨a1, c1, l1, h1, m1, w1, r1⟩ := crls_in f1
 have g1 := take_one h1
 have f2 := hall 2 _ rfl
 change DataW.trod _ _ _ _ _ _ _ 24 ((cs.drop 2).take (Tryz.prog.cellsOf 24)) = some x2 at f2
 rw [cellsRow3] at f2
 obtain ⟨a2, c2, l2, h2, m2, w2, r2⟩ := anchors_in f2
 have g2 := take_one h2
 have hcs : cs = [.slice a0 l0.length c0, .slice a1 l1.length c1, .slice a2 l2.length c2] := by
  match cs, hl with
  | [y0, y1, y2], _ =>
   simp at g0 g1 g2
   rw [g0, g1, g2]
 unfold maxLen at m0 m1 m2
 exact ⟨⟨l0, l1, l2⟩, ⟨a0, c0, a1, c1, a2, c2, by rw [hcs], r0, r1, r2⟩, ⟨w0, m0⟩, ⟨w1, m1⟩, w2, m2⟩
end Go.Proofs.YtabfamhaihnccaaGreat
namespace Go.Proofs.YtabfamhaihnccaaGreat
open Go.RowKit
theorem wpList_append_list {w : World} {ops : Array Oper} {rest : List Oper} {o : Oper} {a : Act} {Q : Exit -> Act -> World -> Prop} (hgd : o.guard = none) (s x : Operand) (t : TypeId)
  (ho : o.op = .call { callee := .builtin .append, args := #[s, x], argTypes := #[t, t] }) (base : Nat) (i0 : TypeInfo) (ht : Tryz.prog.underlying t = some (.slice 3)) (hi : Tryz.prog.info? 3 = some i0) (hz0 : i0.zero = some (.int .i64 0)) (hz1 : i0.size = 1) (hz2 : i0.bytes = 8)
  (v : Value) (n : Nat) (xs : List Value) (hs : a.eval s = v) (hown : w.ownsRow base 3 1 v n xs) (u : Value) (lu : List Int) (bu : Nat) (hu : OwnI w bu u lu) (hx : a.eval x = u) (hlen : n + lu.length <= 1000000) (hbase : base <= w.heap.size)
  (h : ∀ v' w', w'.ownsRow base 3 1 v' (n + lu.length) (xs ++ cellsI lu) -> w.grownBy w' v.ownBlock -> wpList Tryz.prog ops Q rest (a.put o.dst v') w') : wpList Tryz.prog ops Q (o :: rest) a w := by
 rcases hu.2 with ⟨rfl, h0⟩ | ⟨g, cap, cur, rfl, hbg, hg, hn, hm, hsz, htk⟩
 ·have hl : lu = [] := List.eq_nil_of_length_eq_zero h0
  subst hl
  refine wpList_append_own_none hgd s x t ho base 3 i0 1 ht hi v n xs hs hown hx (h v w (by simpa [cellsI] using hown) (World.grownBy.refl _ _))
 ·refine wpList_append_own w hgd s x t ho base 3 i0 (.int .i64 0) 1 8 ht hi hz0 hz1 hz2 rfl (by decide) v n xs hs hown ⟨g, 0, none⟩ lu.length cap (cellsI lu) hx (by simp [cellsI]) (fun j q hq => ?_) (fun q hq => ?_) (by unfold maxLen; omega) (by omega) hbase (fun v' w' h1 h2 _ => h v' w' h1 h2)
  ·have hj : j < lu.length := by
    refine Nat.lt_of_not_le fun h => ?_
    rw [List.getElem?_eq_none (by rw [cellsI_len]; exact h)] at hq
    cases hq
   rw [Addr.add_lit, Nat.zero_add, hu.cell hj, <- hq, cellsI_getD hj]
  ·obtain ⟨y, _, rfl⟩ := List.mem_map.1 hq
   rfl
end Go.Proofs.YtabfamhaihnccaaGreat
namespace Go.Proofs.YtabfamhaihnccaaGreat
open Go.RowKit
set_option linter.unusedVariables false
theorem wpList_append_ints2 {w : World} {ops : Array Oper} {rest : List Oper} {o : Oper} {a : Act} {Q : Exit -> Act -> World -> Prop} (hgd : o.guard = none) (s x : Operand) (t : TypeId)
  (ho : o.op = .call { callee := .builtin .append, args := #[s, x], argTypes := #[t, t] }) (base : Nat) (i0 : TypeInfo) (ht : Tryz.prog.underlying t = some (.slice 3)) (hi : Tryz.prog.info? 3 = some i0) (hz0 : i0.zero = some (.int .i64 0)) (hz1 : i0.size = 1) (hz2 : i0.bytes = 8)
  (v : Value) (n : Nat) (xs : List Value) (hs : a.eval s = v) (hown : w.ownsRow base 3 1 v n xs) (u : Value) (lu : List Int) (bu : Nat) (hu : OwnI w bu u lu) (hx : a.eval x = u) (hlen : n + lu.length <= 100000000) (hbase : base <= w.heap.size)
  (h : ∀ v' w', w'.ownsRow base 3 1 v' (n + lu.length) (xs ++ cellsI lu) -> w.grownBy w' v.ownBlock -> wpList Tryz.prog ops Q rest (a.put o.dst v') w') : wpList Tryz.prog ops Q (o :: rest) a w := by
 rcases hu.2 with ⟨rfl, h0⟩ | ⟨g, cap, cur, rfl, hbg, hg, hn, hm, hsz, htk⟩
 ·have hl : lu = [] := List.eq_nil_of_length_eq_zero h0
  subst hl
  refine wpList_append_own_none hgd s x t ho base 3 i0 1 ht hi v n xs hs hown hx (h v w (by simpa [cellsI] using hown) (World.grownBy.refl _ _))
 ·refine wpList_append_own w hgd s x t ho base 3 i0 (.int .i64 0) 1 8 ht hi hz0 hz1 hz2 rfl (by decide) v n xs hs hown ⟨g, 0, none⟩ lu.length cap (cellsI lu) hx (by simp [cellsI]) (fun j q hq => ?_) (fun q hq => ?_) (by unfold maxLen; omega) (by omega) hbase (fun v' w' h1 h2 _ => h v' w' h1 h2)
  ·have hj : j < lu.length := by
    refine Nat.lt_of_not_le fun h => ?_
    rw [List.getElem?_eq_none (by rw [cellsI_len]; exact h)] at hq
    cases hq
   rw [Addr.add_lit, Nat.zero_add, hu.cell hj, <- hq, cellsI_getD hj]
  ·obtain ⟨y, _, rfl⟩ := List.mem_map.1 hq
   rfl
theorem wpList_append_texts2 {w : World} {ops : Array Oper} {rest : List Oper} {o : Oper} {a : Act} {Q : Exit -> Act -> World -> Prop} (hgd : o.guard = none) (s x : Operand) (t : TypeId)
  (ho : o.op = .call { callee := .builtin .append, args := #[s, x], argTypes := #[t, t] }) (base : Nat) (i0 : TypeInfo) (ht : Tryz.prog.underlying t = some (.slice 9)) (hi : Tryz.prog.info? 9 = some i0) (hz0 : i0.zero = some (.string ByteArray.empty)) (hz1 : i0.size = 1) (hz2 : i0.bytes = 16)
  (v : Value) (n : Nat) (xs : List Value) (hs : a.eval s = v) (hown : w.ownsRow base 9 1 v n xs) (u : Value) (lu : List ByteArray) (bu : Nat) (hu : OwnT w bu u lu) (hx : a.eval x = u) (hlen : n + lu.length <= 100000000) (hbase : base <= w.heap.size)
  (h : ∀ v' w', w'.ownsRow base 9 1 v' (n + lu.length) (xs ++ cellsT lu) -> w.grownBy w' v.ownBlock -> wpList Tryz.prog ops Q rest (a.put o.dst v') w') : wpList Tryz.prog ops Q (o :: rest) a w := by
 rcases hu.2 with ⟨rfl, h0⟩ | ⟨g, cap, cur, rfl, hbg, hg, hn, hm, hsz, htk⟩
 ·have hl : lu = [] := List.eq_nil_of_length_eq_zero h0
  subst hl
  refine wpList_append_own_none hgd s x t ho base 9 i0 1 ht hi v n xs hs hown hx (h v w (by simpa [cellsT] using hown) (World.grownBy.refl _ _))
 ·refine wpList_append_own w hgd s x t ho base 9 i0 (.string ByteArray.empty) 1 16 ht hi hz0 hz1 hz2 rfl (by decide) v n xs hs hown ⟨g, 0, none⟩ lu.length cap (cellsT lu) hx (by simp [cellsT]) (fun j q hq => ?_) (fun q hq => ?_) (by unfold maxLen; omega) (by omega) hbase (fun v' w' h1 h2 _ => h v' w' h1 h2)
  ·have hj : j < lu.length := by
    refine Nat.lt_of_not_le fun h => ?_
    rw [List.getElem?_eq_none (by rw [cellsT_len]; exact h)] at hq
    cases hq
   rw [Addr.add_lit, Nat.zero_add, hu.cell hj, <- hq, cellsT_getD hj]
  ·obtain ⟨y, _, rfl⟩ := List.mem_map.1 hq
   rfl
end Go.Proofs.YtabfamhaihnccaaGreat
namespace Go.Proofs.YtabfamhaihnccaaGreat
open Go.RowKit Der
set_option linter.unusedVariables false
theorem plain_any (t : Int) (s : List UInt8) (kv : Value) (w : World) (hs : s.length <= 20000000) :
  Calls Tryz.prog 204 #[.agg #[.int .i64 t, .string ⟨s.toArray⟩, kv]] w fun e w' => e = .returned (.bool (plainOk t s)) /\ Below w.heap.size w w' := by
 have HL := one_laid w (.int .i64 t) (.string ⟨s.toArray⟩) kv 178
 by_cases h1 : t = 1
 ·subst h1
  have HN : Hid (plainOk 1 s = (s == [0] || s == [255])) := rfl
  by_cases e0 : s = [0]
  ·subst e0
   go_enter Tryz.func204, Tryz.ntmps204
   go_wp2_with fail
   go_ret
   exact ⟨by rw [HN.out]; rfl, (HL _ rfl).1⟩
  ·by_cases e1 : s = [255]
   ·subst e1
    go_enter Tryz.func204, Tryz.ntmps204
    go_wp2_with fail
    go_ret
    exact ⟨by rw [HN.out]; rfl, (HL _ rfl).1⟩
   ·have f0 : (s == [0]) = false := by simpa using e0
    have f1 : (s == [255]) = false := by simpa using e1
    have HR : Hid (plainOk 1 s = false) := by show plainOk 1 s = false; rw [HN.out, f0, f1]; rfl
    go_enter Tryz.func204, Tryz.ntmps204
    go_wp2_with fail
    go_ret
    exact ⟨by rw [HR.out]; rfl, (HL _ rfl).1⟩
 by_cases h2 : t = 2
 ·subst h2
  have hsz : (⟨s.toArray⟩ : ByteArray).size = s.length := by show s.toArray.size = _; simp
  by_cases hl : 1 <= s.length /\ s.length <= 5
  ·obtain ⟨b, r, rfl⟩ : ∃ b r, s = b :: r := by
    cases s with
    | nil => simp at hl
    | cons b r => exact ⟨b, r, rfl⟩
   have hg0 : ∀ h, (⟨(b :: r).toArray⟩ : ByteArray)[0]'h = b := fun h => rfl
   by_cases hb : 128 <= b.toNat
   ·have HR : Hid (plainOk 2 (b :: r) = false) := by
     show plainOk 2 (b :: r) = false
     unfold plainOk
     rw [if_neg (by decide), if_pos rfl]
     have : ¬ b < 128 := by rw [UInt8.lt_iff_toNat_lt]; simpa using hb
     simp [this]
    have hbi : (128 : Int) <= (b.toNat : Int) := by omega
    go_enter Tryz.func204, Tryz.ntmps204
    go_wp2_with fail
    refine (in_yes _ 1 5 _ (by simp at hl |-; omega) (by simp at hl |-; omega)).mono ?_
    rintro e w' ⟨rfl, rfl⟩
    go_wp2_with fail
    go_ret
    exact ⟨by rw [HR.out]; rfl, (HL _ rfl).1⟩
   ·have hbi : ¬ (128 : Int) <= (b.toNat : Int) := by omega
    have hblt : b < 128 := by rw [UInt8.lt_iff_toNat_lt]; simpa using hb
    by_cases hb0 : b.toNat = 0
    ·have hb00 : b = 0 := UInt8.toNat_inj.1 (by simpa using hb0)
     subst hb00
     cases r with
     | nil =>
      have HR : Hid (plainOk 2 [0] = true) := by show plainOk 2 [0] = true; decide
      go_enter Tryz.func204, Tryz.ntmps204
      go_wp2_with fail
      refine (in_yes _ 1 5 _ (by simp) (by simp)).mono ?_
      rintro e w' ⟨rfl, rfl⟩
      go_wp2_with fail
      go_ret
      exact ⟨by rw [HR.out]; rfl, (HL _ rfl).1⟩
     | cons c r =>
      have hg1 : ∀ h, (⟨(0 :: c :: r).toArray⟩ : ByteArray)[1]'h = c := fun h => rfl
      have hrl : ¬ ((r.length : Int) + 1 + 1 = 1) := by omega
      have HR : Hid (plainOk 2 (0 :: c :: r) = decide ((128 : Int) <= (c.toNat : Int))) := by
       show plainOk 2 (0 :: c :: r) = _
       unfold plainOk
       rw [if_neg (by decide), if_pos rfl]
       have h5 : r.length + 1 + 1 <= 5 := by simpa using hl.2
       have e : ((128 : UInt8) <= c) = ((128 : Int) <= (c.toNat : Int)) := by
        rw [UInt8.le_iff_toNat_le]
        show (128 <= c.toNat) = _
        exact propext ⟨fun h => by omega, fun h => by omega⟩
       simp [h5, e]
      go_enter Tryz.func204, Tryz.ntmps204
      go_wp2_with fail
      refine (in_yes _ 1 5 _ (by simp at hl |-; omega) (by simp at hl |-; omega)).mono ?_
      rintro e w' ⟨rfl, rfl⟩
      go_wp2_with fail
      go_ret
      exact ⟨by rw [HR.out]; rfl, (HL _ rfl).1⟩
    ·have hbz : ¬ (b.toNat : Int) = 0 := by omega
     have HR : Hid (plainOk 2 (b :: r) = true) := by
      show plainOk 2 (b :: r) = true
      unfold plainOk
      rw [if_neg (by decide), if_pos rfl]
      have h5 : r.length + 1 <= 5 := by simpa using hl.2
      have hne : b ≠ 0 := fun e => hb0 (by rw [e]; rfl)
      simp [hblt, h5, hne]
     go_enter Tryz.func204, Tryz.ntmps204
     go_wp2_with fail
     refine (in_yes _ 1 5 _ (by simp at hl |-; omega) (by simp at hl |-; omega)).mono ?_
     rintro e w' ⟨rfl, rfl⟩
     go_wp2_with fail
     go_ret
     exact ⟨by rw [HR.out]; rfl, (HL _ rfl).1⟩
  ·have HR : Hid (plainOk 2 s = false) := by
    show plainOk 2 s = false
    unfold plainOk
    rw [if_neg (by decide), if_pos rfl]
    by_cases h1 : 1 <= s.length
    ·have h5 : ¬ s.length <= 5 := fun h => hl ⟨h1, h⟩
     simp [h5]
    ·simp [h1]
   go_enter Tryz.func204, Tryz.ntmps204
   go_wp2_with fail
   refine (in_no _ 1 5 _ (by omega)).mono ?_
   rintro e w' ⟨rfl, rfl⟩
   go_wp2_with fail
   go_ret
   exact ⟨by rw [HR.out]; rfl, (HL _ rfl).1⟩
 by_cases h12 : t = 12
 ·subst h12
  obtain ⟨W2, hW2⟩ : ∃ W, W = w.alloc (Obj.cells #[Value.int IntKind.i64 12, Value.string { data := s.toArray }, kv] 178) := ⟨_, rfl⟩
  have HW := HL W2 hW2
  have c1 := HW.2.2.2.1
  have hb := HW.1
  have hsz : (⟨s.toArray⟩ : ByteArray).size = s.length := by show s.toArray.size = _; simp
  go_enter Tryz.func204, Tryz.ntmps204
  go_wp2_with fail
  rw [<- hW2]
  clear HL hW2 HW
  go_loopw [3] (fun iv wr => ∃ k : Nat, k <= s.length /\ iv = .int .i64 (k : Int) /\ wr = W2 /\ Hid (∀ j (hj : j < s.length), j < k -> 32 <= s[j].toNat /\ s[j].toNat <= 126)) (fun iv _ => s.length - (intOf iv).toNat)
  case atStart => exact ⟨0, Nat.zero_le _, rfl, rfl, fun j _ h => absurd h (Nat.not_lt_zero _)⟩
  case round =>
   obtain ⟨k, hk, rfl, rfl, HP⟩ := hrel
   by_cases hlt : k < s.length
   ·have hlti : (k : Int) < (s.length : Int) := by omega
    have hk0 : (0 : Int) <= (k : Int) := by omega
    obtain ⟨b, hbk⟩ := zE (s[k])
    have hgk : ∀ h, (⟨s.toArray⟩ : ByteArray)[k]'h = b := fun h => by rw [<- hbk]; rfl
    by_cases hok : 32 <= b.toNat /\ b.toNat <= 126
    ·have HN : Hid (∀ j (hj : j < s.length), j < k + 1 -> 32 <= s[j].toNat /\ s[j].toNat <= 126) := fun j hj hjk => by
      by_cases e : j = k
      ·subst e; rw [hbk]; exact hok
      ·exact HP.out j hj (by omega)
     have h1 : ¬ (b.toNat : Int) < 32 := by omega
     have h2 : ¬ (126 : Int) < (b.toNat : Int) := by omega
     clear hbk HP hok
     go_wp2_with fail
     go_roundw
     case rel => exact ⟨k + 1, by omega, by go_num, by trivial, HN.out⟩
     case measure => simp [intOf]; omega
    ·have HR : Hid (plainOk 12 s = false) := by
      show plainOk 12 s = false
      unfold plainOk
      rw [if_neg (by decide), if_neg (by decide), if_pos rfl, List.all_eq_false]
      refine ⟨s[k], List.getElem_mem hlt, ?_⟩
      rw [hbk]
      simp only [Bool.and_eq_true, decide_eq_true_eq, UInt8.le_iff_toNat_le]
      exact fun h => hok ⟨h.1, h.2⟩
     clear HP
     by_cases h1 : (b.toNat : Int) < 32
     ·go_wp2_with fail
      go_ret
      exact ⟨by rw [HR.out]; rfl, hb⟩
     ·have h2 : (126 : Int) < (b.toNat : Int) := by omega
      go_wp2_with fail
      go_ret
      exact ⟨by rw [HR.out]; rfl, hb⟩
   ·have hlti : ¬ (k : Int) < (s.length : Int) := by omega
    have HR : Hid (plainOk 12 s = true) := by
     show plainOk 12 s = true
     unfold plainOk
     rw [if_neg (by decide), if_neg (by decide), if_pos rfl, List.all_eq_true]
     intro b hbm
     obtain ⟨j, hj, rfl⟩ := List.getElem_of_mem hbm
     have := HP.out j hj (by omega)
     simp only [Bool.and_eq_true, decide_eq_true_eq, UInt8.le_iff_toNat_le]
     exact this
    go_wp2_with fail
    go_ret
    exact ⟨by rw [HR.out]; rfl, hb⟩
 ·have HN : Hid (plainOk t s = decide (t = 4)) := by
   show plainOk t s = decide (t = 4)
   unfold plainOk
   rw [if_neg h1, if_neg h2, if_neg h12]
  go_enter Tryz.func204, Tryz.ntmps204
  go_wp2_with fail
  go_ret
  exact ⟨by rw [HN.out]; rfl, (HL _ rfl).1⟩
def RightC (n : Nat) : Prop := ∀ (x : It n) (v : Value) (d : Nat) (w : World), ItAt w n v x -> szI n x <= 20000000 -> d <= 6 -> Calls Tryz.prog 187 #[v, .int .i64 (d : Int)] w fun e w' => e = .returned (.bool (rightI n x d)) /\ Below w.heap.size w w'
theorem right_step (n : Nat) (IH : Hid (RightC n)) (t : Int) (s : List UInt8) (ks : List (It n)) (a : Value) (d : Nat) (w : World) (hx : KidsAt w (ItAt w n) a ks) (hz : szI (n + 1) (It.mk t s ks) <= 20000000) (hd : d <= 6) :
  Calls Tryz.prog 187 #[.agg #[.int .i64 t, .string ⟨s.toArray⟩, a], .int .i64 (d : Int)] w fun e w' => e = .returned (.bool (rightI (n + 1) (It.mk t s ks) d)) /\ Below w.heap.size w w' := by
 have hx0 := hx
 obtain ⟨ax, cx, rfl, _⟩ := hx0
 have hsz := szI_kid hz
 obtain ⟨l, hle⟩ := zE (ks.length)
 have HE : Hid (ks.length = l /\ szI (n + 1) (It.mk t s ks) <= 20000000) := ⟨hle, hz⟩
 have hlb : l <= 20000000 := by rw [<- hle]; exact hsz.2.1
 rw [hle] at hx |-
 have HX : Hid (KidsAt w (ItAt w n) (.slice ax l cx) ks) := hx
 have HL := one_laid w (.int .i64 t) (.string ⟨s.toArray⟩) (.slice ax l cx) 178
 have HN : Hid (rightI (n + 1) (It.mk t s ks) d = (if t ≠ 48 then decide (ks.length = 0) && plainOk t s else decide (s.length = 0) && decide (ks.length <= 40) && decide (d < 6) && ks.all fun y => rightI n y (d + 1))) := rfl
 obtain ⟨W2, hW2⟩ : ∃ W, W = w.alloc (Obj.cells #[Value.int IntKind.i64 t, Value.string { data := s.toArray }, Value.slice ax l cx] 178) := ⟨_, rfl⟩
 have HW := HL W2 hW2
 have HW2 := zH (zJ HW.1 (zJ HW.2.1 HW.2.2.2.2))
 clear hx hz hle
 by_cases h48 : t = 48
 ·subst h48
  have hssz : (⟨s.toArray⟩ : ByteArray).size = s.length := by show s.toArray.size = _; simp
  by_cases hs0 : s = []
  ·subst hs0
   by_cases hl40 : l <= 40
   ·by_cases hd6 : d < 6
    ·have hl40i : ¬ (40 : Int) < (l : Int) := by omega
     have hd6i : ¬ (6 : Int) <= (d : Int) := by omega
     have hdw : IntKind.i64.wrap ((d : Int) + 1) = ((d + 1 : Nat) : Int) := by rw [IntKind.wrap_i64]; omega
     have HR0 : Hid (rightI (n + 1) (It.mk 48 [] ks) d = ks.all fun y => rightI n y (d + 1)) := by
      show rightI (n + 1) (It.mk 48 [] ks) d = _
      rw [HN.out, HE.out.1]
      simp [hl40, hd6]
     clear HL HW hsz
     go_enter Tryz.func187, Tryz.ntmps187
     go_wp2_with fail
     rw [<- hW2]
     clear hW2
     go_loopw [5] (fun iv wr => ∃ k : Nat, k <= l /\ iv = .int .i64 (k : Int) /\ Hid (Below W2.heap.size W2 wr /\ ∀ j (hj : j < ks.length), j < k -> rightI n ks[j] (d + 1) = true)) (fun iv _ => l - (intOf iv).toNat)
     case atStart => exact ⟨0, Nat.zero_le _, rfl, Below.refl _ _, fun j _ h => absurd h (Nat.not_lt_zero _)⟩
     case round =>
      obtain ⟨k, hk, rfl, HB⟩ := hrel
      have p1 : wr.cell? ⟨w.heap.size, 2, none⟩ = some (.slice ax l cx) := (HB.out.1.cell (p := ⟨w.heap.size, 2, none⟩) HW2.out.2.1).trans HW2.out.2.2
      have HWR : Hid (Below w.heap.size w wr) := HW2.out.1.trans (HB.out.1.mono HW2.out.1.size)
      by_cases hlt : k < l
      ·have hlti : (k : Int) < (l : Int) := by omega
       have hk0 : (0 : Int) <= (k : Int) := by omega
       have hj1 : k < ks.length := by rw [HE.out.1]; exact hlt
       obtain ⟨g1, o1, t1, s1, k1, hax, hg1, hc1, hi1⟩ := HX.out.get hj1
       obtain ⟨c10, c11, c12⟩ := Cells3.below (w' := wr) (t := t1) (s := s1) (k := k1) hc1 hg1 HWR.out
       have HR := IH.out ks[k] (.agg #[t1, s1, k1]) (d + 1) wr (ItAt.below HWR.out hi1) ((szI_kid HE.out.2).2.2 _ (List.getElem_mem hj1)) (by omega)
       rw [show ((d + 1 : Nat) : Int) = (d : Int) + 1 by omega] at HR
       subst hax
       clear hc1 hi1 hg1
       cases hb : rightI n ks[k] (d + 1) with
       | true =>
        rw [hb] at HR
        have HT : Hid (∀ j (hj : j < ks.length), j < k + 1 -> rightI n ks[j] (d + 1) = true) := fun j hj hjk => by
         by_cases e : j = k
         ·subst e; exact hb
         ·exact HB.out.2 j hj (by omega)
        clear hb
        go_wp2_with fail
        refine HR.mono ?_
        rintro e w3 ⟨rfl, hb3⟩
        have H3 : Hid (Below W2.heap.size W2 w3) := HB.out.1.trans (hb3.mono HB.out.1.size)
        clear HR hb3 c10 c11 c12 p1
        go_wp2_with fail
        exact ⟨⟨k + 1, by omega, by go_num, H3.out, HT.out⟩, by simp [intOf]; omega⟩
       | false =>
        rw [hb] at HR
        have HF : Hid (rightI (n + 1) (It.mk 48 [] ks) d = false) := by
         show rightI (n + 1) (It.mk 48 [] ks) d = false
         rw [HR0.out, List.all_eq_false]
         exact ⟨ks[k], List.getElem_mem hj1, by rw [hb]; simp⟩
        clear hb
        go_wp2_with fail
        refine HR.mono ?_
        rintro e w3 ⟨rfl, hb3⟩
        have H3 : Hid (Below w.heap.size w w3) := HWR.out.trans (hb3.mono HWR.out.size)
        clear HR hb3 c10 c11 c12 p1
        go_wp2_with fail
        go_ret
        exact ⟨by rw [HF.out]; rfl, H3.out⟩
      ·have hlti : ¬ (k : Int) < (l : Int) := by omega
       have HF : Hid (rightI (n + 1) (It.mk 48 [] ks) d = true) := by
        show rightI (n + 1) (It.mk 48 [] ks) d = true
        rw [HR0.out, List.all_eq_true]
        intro y hy
        obtain ⟨j, hj, rfl⟩ := List.getElem_of_mem hy
        exact HB.out.2 j hj (by have := HE.out.1; omega)
       go_wp2_with fail
       go_ret
       exact ⟨by rw [HF.out]; rfl, HWR.out⟩
    ·have hl40i : ¬ (40 : Int) < (l : Int) := by omega
     have hd6i : (6 : Int) <= (d : Int) := by omega
     have HF : Hid (rightI (n + 1) (It.mk 48 [] ks) d = false) := by
      show rightI (n + 1) (It.mk 48 [] ks) d = false
      rw [HN.out]
      simp [hd6]
     go_enter Tryz.func187, Tryz.ntmps187
     go_wp2_with fail
     go_ret
     exact ⟨by rw [HF.out]; rfl, (HL _ rfl).1⟩
   ·have hl40i : (40 : Int) < (l : Int) := by omega
    have HF : Hid (rightI (n + 1) (It.mk 48 [] ks) d = false) := by
     show rightI (n + 1) (It.mk 48 [] ks) d = false
     rw [HN.out, HE.out.1]
     simp [hl40]
    go_enter Tryz.func187, Tryz.ntmps187
    go_wp2_with fail
    go_ret
    exact ⟨by rw [HF.out]; rfl, (HL _ rfl).1⟩
  ·have hsn : (s == []) = false := by simpa using hs0
   have hsl : ¬ s.length = 0 := fun h => hs0 (List.eq_nil_of_length_eq_zero h)
   have HF : Hid (rightI (n + 1) (It.mk 48 s ks) d = false) := by
    show rightI (n + 1) (It.mk 48 s ks) d = false
    rw [HN.out]
    simp [hsl]
   go_enter Tryz.func187, Tryz.ntmps187
   go_wp2_with fail
   go_ret
   exact ⟨by rw [HF.out]; rfl, (HL _ rfl).1⟩
 ·have h48b : (t != 48) = true := by simpa using h48
  by_cases hl0 : l = 0
  ·subst hl0
   have HF : Hid (rightI (n + 1) (It.mk t s ks) d = plainOk t s) := by
    show rightI (n + 1) (It.mk t s ks) d = plainOk t s
    rw [HN.out, HE.out.1, if_pos h48]
    simp
   have EP := plain_any t s (.slice ax 0 cx) W2 hsz.1
   obtain ⟨P, hP⟩ := zE (plainOk t s)
   rw [hP] at EP HF
   clear hP HL
   go_enter Tryz.func187, Tryz.ntmps187
   go_wp2_with fail
   rw [<- hW2]
   refine EP.mono ?_
   rintro e w3 ⟨rfl, hb3⟩
   have H3 : Hid (Below w.heap.size w w3) := HW2.out.1.trans (hb3.mono HW2.out.1.size)
   clear hb3 EP HW hW2
   go_wp2_with fail
   go_ret
   exact ⟨by rw [HF.out]; rfl, H3.out⟩
  ·have hl0i : ¬ (l : Int) = 0 := by omega
   have HF : Hid (rightI (n + 1) (It.mk t s ks) d = false) := by
    show rightI (n + 1) (It.mk t s ks) d = false
    rw [HN.out, HE.out.1, if_pos h48]
    simp [hl0]
   go_enter Tryz.func187, Tryz.ntmps187
   go_wp2_with fail
   go_ret
   exact ⟨by rw [HF.out]; rfl, (HL _ rfl).1⟩
theorem itRight_any : ∀ (n : Nat), RightC n
 | 0 => fun _ _ _ _ h _ _ => h.elim
 | n + 1 => fun x v d w hx hz hd => by
  obtain ⟨kx, rfl, hkx⟩ := hx
  exact right_step n (itRight_any n) (It.tag x) (It.text x) (It.kids x) kx d w hkx hz hd
theorem ItAt.parts {w : World} : ∀ {n : Nat} {v : Value} {x : It n}, ItAt w n v x -> ∃ (t : Int) (s : ByteArray) (ao : Option Addr) (l cap : Nat), v = .agg #[.int .i64 t, .string s, .slice ao l cap]
 | 0, _, _, h => h.elim
 | _ + 1, _, x, ⟨k, hv, hk⟩ => by
  obtain ⟨ao, cap, rfl, _⟩ := hk
  exact ⟨_, _, _, _, _, hv⟩
theorem specItemOk_any (n : Nat) (x : It n) (v : Value) (w : World) (hx : ItAt w n v x) (hz : szI n x <= 20000000) : Calls Tryz.prog 152 #[v] w fun e w' => e = .returned (.bool (rightI n x 0)) /\ Below w.heap.size w w' := by
 obtain ⟨t, s, ao, l, cap, rfl⟩ := hx.parts
 obtain ⟨W2, hW2⟩ : ∃ W, W = w.alloc (Obj.cells #[Value.int IntKind.i64 t, Value.string s, Value.slice ao l cap] 178) := ⟨_, rfl⟩
 have HW := one_laid w (.int .i64 t) (.string s) (.slice ao l cap) 178 W2 hW2
 have E := itRight_any n x _ 0 W2 (ItAt.below HW.1 hx) hz (by omega)
 obtain ⟨P, hP⟩ := zE (rightI n x 0)
 rw [hP] at E |-
 clear hP hx hz
 go_enter Tryz.func152, Tryz.ntmps152
 go_wp2_with fail
 rw [<- hW2]
 refine E.mono ?_
 rintro e w3 ⟨rfl, hb3⟩
 have H3 : Hid (Below w.heap.size w w3) := HW.1.trans (hb3.mono HW.1.size)
 clear hb3 E HW hW2
 go_wp2_with fail
 go_ret
 exact ⟨rfl, H3.out⟩
end Go.Proofs.YtabfamhaihnccaaGreat
