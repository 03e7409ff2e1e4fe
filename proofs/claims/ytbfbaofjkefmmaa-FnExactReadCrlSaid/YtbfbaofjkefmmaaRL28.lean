/-
  Texts of the proof, one behind the other: ClC, DrB.
-/
import Derived.Laws.AppendOwnNone
import Derived.Test.YtbfbaofjkefmmaaRL20
import Derived.Test.YtbfbaofjkefmmaaRL21
import Derived.Test.YtbfbaofjkefmmaaRL26
import Derived.Test.YtbfbaofjkefmmaaRL27

/-
  Pairs appended; the specification's l10Copy.
-/
namespace Go.Proofs.Ytbfbaofjkefmmaa
open Go.RowKit
set_option linter.unusedVariables false

theorem revs_one (l : List (Int × Int)) : ∀ q ∈ cellsR l, q.oneCell' = true := by
  intro q hq
  unfold cellsR at hq
  obtain ⟨p, _, hp⟩ := List.mem_flatMap.1 hq
  simp only [List.mem_cons, List.not_mem_nil, or_false] at hp
  rcases hp with rfl | rfl <;> rfl
theorem wpList_append_revs {w : World} {ops : Array Oper} {rest : List Oper} {o : Oper} {a : Act} {Q : Exit → Act → World → Prop} (hgd : o.guard = none) (s x : Operand)
    (ho : o.op = .call { callee := .builtin .append, args := #[s, x], argTypes := #[22, 22] }) (base : Nat)
    (v : Value) (n : Nat) (xs : List Value) (hs : a.eval s = v) (hown : w.ownsRow base 57 2 v n xs) (u : Value) (lu : List (Int × Int)) (bu : Nat) (hu : OwnR w bu u lu) (hx : a.eval x = u) (hlen : n + lu.length ≤ 100000000) (hbase : base ≤ w.heap.size)
    (h : ∀ v' w', w'.ownsRow base 57 2 v' (n + lu.length) (xs ++ cellsR lu) → w.grownBy w' v.ownBlock → wpList Try.prog ops Q rest (a.put o.dst v') w') : wpList Try.prog ops Q (o :: rest) a w := by
  obtain ⟨i0, hi, hz0, hz1, hz2⟩ := info_parts infoRev
  rcases hu.2 with ⟨rfl, h0⟩ | ⟨g, cap, cur, rfl, hbg, hg, hn, hm, hsz, htk⟩
  · have hl : lu = [] := List.eq_nil_of_length_eq_zero h0
    subst hl
    refine wpList_append_own_none hgd s x 22 ho base 57 i0 2 Try.underlying22 hi v n xs hs hown hx (h v w (by simpa [cellsR] using hown) (World.grownBy.refl _ _))
  · refine wpList_append_own w hgd s x 22 ho base 57 i0 (.agg #[.int .i64 0, .int .i64 0]) 2 16 Try.underlying22 hi hz0 hz1 hz2 rfl (by decide) v n xs hs hown ⟨g, 0, none⟩ lu.length cap (cellsR lu) hx (by rw [cellsR_len]) (fun j q hq => ?_) (revs_one lu) (by unfold maxLen; omega) (by omega) hbase (fun v' w' h1 h2 _ => h v' w' h1 h2)
    have hj : j < lu.length * 2 := by
      refine Nat.lt_of_not_le fun h => ?_
      rw [List.getElem?_eq_none (by rw [cellsR_len]; exact h)] at hq
      cases hq
    rw [Addr.add_lit, Nat.zero_add, World.ownsRow.cellAt hu j hj]
    exact hq
end Go.Proofs.Ytbfbaofjkefmmaa

/-
  The program's rowIn of what was called back.
-/
namespace Go.Proofs.Ytbfbaofjkefmmaa
open Go.RowKit Der
set_option linter.unusedVariables false
set_option linter.unusedSimpArgs false

theorem rone_rev (w : World) (x : Int × Int) : OwnR (w.alloc (Obj.cells #[.int .i64 x.1, .int .i64 x.2] 57)) w.heap.size (.slice (some ⟨w.heap.size, 0, none⟩) 1 1) [x] := World.ownsRow_lit w #[.int .i64 x.1, .int .i64 x.2] 1 (Nat.le_refl _) (by decide) rfl
theorem rev_tail {k : Nat} {y : It (k + 2)} {q q' : List (It (k + 2))} {x : Int × Int} (h : revP (y :: q) = some (x, q')) : ∃ y', y :: q = y' :: q' := by
  obtain ⟨y', _, _, _, _, h1, _⟩ := rev_some h
  exact ⟨y', h1⟩
/-- What mpl.Rev] leaves. -/
def RevsPost (w0 W : World) (g n : Nat) (o : Option (List (Int × Int) × List (It (n + 3)))) (e : Ending) (W' : World) : Prop := Out [g] W W' ∧
  ((o = none ∧ e = misfit) ∨ ∃ (l : List (Int × Int)) (r : List (It (n + 3))) (v' u : Value), o = some (l, r) ∧ e = .returned u ∧ OwnR W' W.heap.size u l ∧ KcAt w0 (n + 3) v' r ∧ Blk W' g 107 #[v'])
theorem revsP_step {k : Nat} {y : It (k + 2)} {q : List (It (k + 2))} {x : (Int × Int)} (h : revP (y :: q) = some (x, q)) : revsP (y :: q) = (revsP q).map (x :: ·) := by
  show (match revP (y :: q) with
    | none => none
    | some (v, _) => match revsP q with
      | none => none
      | some l => some (v :: l)) = _
  rw [h]
  cases revsP q <;> rfl
theorem revsP_none {k : Nat} {y : It (k + 2)} {q : List (It (k + 2))} (h : revP (y :: q) = none) : revsP (y :: q) = none := by
  show (match revP (y :: q) with
    | none => none
    | some (v, _) => match revsP q with
      | none => none
      | some l => some (v :: l)) = _
  rw [h]
set_option maxHeartbeats 6400000 in
set_option maxRecDepth 100000 in
theorem rrevs_any (w0 W : World) (g n : Nat) (v : Value) (ks : List (It (n + 3))) (hw : Below w0.heap.size w0 W) (hk : KcAt w0 (n + 3) v ks) (hr : Blk W g 107 #[v]) (hg : w0.heap.size ≤ g) (hl : ks.length ≤ 1000000) (hz : ∀ y ∈ ks, szI (n + 3) y ≤ 1000000) :
    Calls Try.prog 72 #[.pointer (some ⟨g, 0, none⟩), .func (.func 73) #[] #[]] W fun e W' => RevsPost w0 W g n (revsL ks) e W' := by
  obtain ⟨i0, hi, hz0, hz1, hz2⟩ := info_parts infoRev
  have E := list_any w0 W g (n + 2) v ks hw hk hr hg hl
  have HP : Hid (revsL ks = match lstP ks with
    | none => none
    | some (i, r) => match revsP i with
      | none => none
      | some l => some (l, r)) := rfl
  generalize revsL ks = oL at HP ⊢
  have HW : Hid (Below w0.heap.size w0 W ∧ w0.heap.size ≤ g ∧ (∀ y ∈ ks, szI (n + 3) y ≤ 1000000) ∧ g < W.heap.size) := ⟨hw, hg, hz, hr.lt⟩
  clear hw hk hr hg hl hz
  go_enter Try.func72, Try.ntmps72
  go_wp2_with fail
  refine E.mono ?_
  rintro e w2 ⟨ho, ⟨hn, rfl⟩ | ⟨i, r, v', vi, gi, hn, rfl, hgi, hki, hkr, hB, hBi⟩⟩
  · have HE : Hid (Out [g] W w2 ∧ oL = none) := ⟨ho, by rw [HP.out, hn]⟩
    clear ho hn E
    unfold misfit
    go_wp2_with fail
    exact ⟨rfl, HE.out.1, .inl ⟨HE.out.2, rfl⟩⟩
  have hsz : i.length ≤ 1000000 ∧ ∀ y ∈ i, szI (n + 2) y ≤ 1000000 := by
    obtain ⟨y, h1, h2, h3⟩ := lst_some hn
    have h4 := HW.out.2.2.1 y (by rw [h1]; simp)
    have h5 := szI_kid (t := It.tag y) (s := It.text y) (ks := It.kids y) h4
    change i = It.kids y at h3
    rw [h3]
    exact ⟨h5.2.1, fun z hz => by have := h5.2.2 z hz; omega⟩
  have HE : Hid (oL = match revsP i with
      | none => none
      | some l => some (l, r)) := by show oL = _; rw [HP.out, hn]
  have HI : Hid (w2.heap.size ≤ w2.heap.size ∧ W.heap.size ≤ gi ∧ gi < w2.heap.size ∧ g < W.heap.size ∧ W.heap.size ≤ w2.heap.size ∧ w0.heap.size ≤ g ∧ w0.heap.size ≤ W.heap.size ∧ KcAt w0 (n + 3) v' r ∧ i.length ≤ 1000000) := ⟨Nat.le_refl _, hgi, hBi.lt, HW.out.2.2.2, ho.size, HW.out.2.1, HW.out.1.size, hkr, hsz.1⟩
  have HS : Hid (OwnR w2 w2.heap.size (.slice none 0 0) [] ∧ KcAt w0 (n + 2) vi i ∧ Blk w2 gi 107 #[vi] ∧ Blk w2 g 107 #[v'] ∧ revsP i = (revsP i).map (([] : List (Int × Int)) ++ ·) ∧ Out [g] W w2 ∧ Below w0.heap.size w0 w2 ∧ w2.heap.size ≤ w2.heap.size ∧ ([] : List (Int × Int)).length + i.length = i.length ∧ (∀ y ∈ i, szI (n + 2) y ≤ 1000000)) := ⟨World.ownsRow_nil _ _ _ _, hki, hBi, hB, by simp, ho, below_out HW.out.1 ho HW.out.2.1, Nat.le_refl _, by simp, hsz.2⟩
  clear ho hn hgi hki hkr hB hBi E hsz HP HW
  go_wp2_with fail
  go_loopw [5] (fun lv wr => Hid (∃ (ps : List (Int × Int)) (q : List (It (n + 2))) (vr : Value), OwnR wr w2.heap.size lv ps ∧ KcAt w0 (n + 2) vr q ∧ Blk wr gi 107 #[vr] ∧ Blk wr g 107 #[v'] ∧ revsP i = (revsP q).map (ps ++ ·) ∧ Out [g] W wr ∧ Below w0.heap.size w0 wr ∧ w2.heap.size ≤ wr.heap.size ∧ ps.length + q.length = i.length ∧ (∀ y ∈ q, szI (n + 2) y ≤ 1000000))) (fun lv _ => i.length - lenV lv)
  case atStart => exact ⟨[], i, vi, HS.out⟩
  case round =>
    clear HS
    obtain ⟨ps, q, vr, h1, h2, h3, h4, h5, h6, h7, h8, h9, h10⟩ := hrel
    obtain ⟨la, lc, hlv⟩ : ∃ ao cap, u5 = .slice ao ps.length cap := by obtain ⟨ao, cap, h, _⟩ := h1.at; exact ⟨ao, cap, h⟩
    obtain ⟨qa, qc, hvr⟩ := h2.shape
    subst hvr
    cases q with
    | nil =>
      have HF : Hid (RevsPost w0 W g n oL (.returned u5) wr) := by
        have e : revsP i = some ps := by rw [h5]; show Option.map (ps ++ ·) (some []) = _; simp
        refine ⟨h6, .inr ⟨ps, r, v', u5, ?_, rfl, h1.base HI.out.2.2.2.2.1, HI.out.2.2.2.2.2.2.2.1, h4⟩⟩
        rw [HE.out, e]
      have c1 : wr.cell? ⟨gi, 0, none⟩ = some (.slice qa 0 qc) := h3.cell 0
      clear h1 h2 h3 h4 h5 h6 h7 h8 h9 h10 hlv
      go_wp2_with fail
      go_ret
      exact HF.out
    | cons y q =>
      rw [List.length_cons] at h3 h9
      have c1 : wr.cell? ⟨gi, 0, none⟩ = some (.slice qa (q.length + 1) qc) := h3.cell 0
      have hql : ps.length + (q.length + 1) ≤ 1000000 := by have := HI.out.2.2.2.2.2.2.2.2; omega
      have E3 := rev_any w0 wr gi n (.slice qa (q.length + 1) qc) (y :: q) h7 h2 h3 (by have := HI.out; omega) ⟨by rw [List.length_cons]; omega, h10⟩
      have HK : Hid (OwnR wr w2.heap.size u5 ps ∧ Blk wr g 107 #[v'] ∧ revsP i = (revsP (y :: q)).map (ps ++ ·) ∧ Out [g] W wr ∧ Below w0.heap.size w0 wr ∧ w2.heap.size ≤ wr.heap.size ∧ ps.length + (q.length + 1) = i.length ∧ (∀ z ∈ (y :: q), szI (n + 2) z ≤ 1000000) ∧ (∀ b, u5.ownBlock = some b → w2.heap.size ≤ b)) := ⟨h1, h4, h5, h6, h7, h8, h9, h10, fun b hb => (World.ownsRow.lt h1 b hb).1⟩
      obtain ⟨m, hm⟩ : ∃ m, q.length = m := ⟨_, rfl⟩
      rw [hm] at c1
      have hm0 : (0 : Int) < (m : Int) + 1 := by omega
      have HM : Hid (q.length = m ∧ ps.length + (m + 1) ≤ 1000000) := ⟨hm, by rw [← hm]; exact hql⟩
      clear h1 h2 h3 h4 h5 h6 h7 h8 h9 h10 hql hm
      obtain ⟨pl, hpl⟩ : ∃ p, ps.length = p := ⟨_, rfl⟩
      rw [hpl] at hlv
      have HPL : Hid (ps.length = pl) := hpl
      clear hpl
      subst hlv
      go_wp2_with fail
      clear c1
      refine E3.mono ?_
      rintro e w3 ⟨ho3, ⟨hn3, rfl⟩ | ⟨x, q', vq, hn3, rfl, hkq, hBq⟩⟩
      · have HF : Hid (Out [g] W w3 ∧ oL = none) := by
          refine ⟨HK.out.2.2.2.1.aside ho3 HI.out.2.1, ?_⟩
          rw [HE.out, HK.out.2.2.1, revsP_none hn3]
          rfl
        clear ho3 hn3 E3
        unfold misfit
        go_wp2_with fail
        exact ⟨rfl, HF.out.1, .inl ⟨HF.out.2, rfl⟩⟩
      · have hq' : q' = q := by
          obtain ⟨y', hh⟩ := rev_tail hn3
          exact (List.cons.inj hh).2.symm
        subst hq'
        have hx3 : revP (y :: q') = some (x, q') := hn3
        obtain ⟨W4, hW4⟩ : ∃ V, V = w3.alloc (Obj.cells #[.int .i64 x.1, .int .i64 x.2] 57) := ⟨_, rfl⟩
        have hb4 : Below w3.heap.size w3 W4 := by rw [hW4]; exact (Below.refl _ _).alloc (Nat.le_refl _) _
        have H4 : Hid (OwnR W4 w2.heap.size (.slice la pl lc) ps ∧ OwnR W4 w3.heap.size (.slice (some ⟨w3.heap.size, 0, none⟩) 1 1) [x] ∧ KcAt w0 (n + 2) vq q' ∧ Blk W4 gi 107 #[vq] ∧ Blk W4 g 107 #[v'] ∧ revsP i = (revsP q').map ((ps ++ [x]) ++ ·) ∧ Out [g] W W4 ∧ Below w0.heap.size w0 W4 ∧ w2.heap.size ≤ W4.heap.size ∧ (∀ z ∈ q', szI (n + 2) z ≤ 1000000)) := by
          have hrow := ho3.row (v := .slice la pl lc) (fun b hb => by have := HK.out.2.2.2.2.2.2.2.2 b hb; have := HI.out; simp; omega) HK.out.1
          refine ⟨OwnR.stays hrow hb4, by rw [hW4]; exact rone_rev w3 x, hkq, hBq.on hb4, (HK.out.2.1.outX ho3 (by have := HI.out; simp; omega)).on hb4, ?_, (HK.out.2.2.2.1.aside ho3 HI.out.2.1).trans (Out.of_below hb4), ?_, Nat.le_trans HK.out.2.2.2.2.2.1 (Nat.le_trans ho3.size hb4.size), fun z hz => HK.out.2.2.2.2.2.2.2.1 z (by simp [hz])⟩
          · rw [HK.out.2.2.1, revsP_step hx3]
            cases revsP q' with
            | none => rfl
            | some l => simp
          · have := below_out HK.out.2.2.2.2.1 ho3 (by have := HI.out; omega)
            exact this.trans (hb4.mono this.size)
        have HLQ : Hid (ps.length + (q'.length + 1) = i.length ∧ q'.length = m ∧ ps.length + (m + 1) ≤ 1000000) := ⟨HK.out.2.2.2.2.2.2.1, HM.out.1, HM.out.2⟩
        clear ho3 hn3 hkq hBq hx3 hb4 E3 HK HM
        go_wp2_with (at_builtin; rw [← hW4]; refine wpList_append_revs rfl _ _ rfl w2.heap.size (.slice la pl lc) ps.length (cellsR ps) rfl H4.out.1 _ [x] w3.heap.size H4.out.2.1 rfl (by have := HLQ.out; simp only [List.length_singleton]; omega) H4.out.2.2.2.2.2.2.2.2.1 ?_)
        intro v9 w9 ho9 hg9
        rw [← hW4] at hg9
        have H9 : Hid (OwnR w9 w2.heap.size v9 (ps ++ [x]) ∧ KcAt w0 (n + 2) vq q' ∧ Blk w9 gi 107 #[vq] ∧ Blk w9 g 107 #[v'] ∧ revsP i = (revsP q').map ((ps ++ [x]) ++ ·) ∧ Out [g] W w9 ∧ Below w0.heap.size w0 w9 ∧ w2.heap.size ≤ w9.heap.size ∧ (ps ++ [x]).length + q'.length = i.length ∧ (∀ z ∈ q', szI (n + 2) z ≤ 1000000)) := by
          have hrl := fun b hb => (World.ownsRow.lt H4.out.1 b hb).1
          refine ⟨?_, H4.out.2.2.1, H4.out.2.2.2.1.grown hg9 (fun e => by have := hrl _ e.symm; have := HI.out; omega), H4.out.2.2.2.2.1.grown hg9 (fun e => by have := hrl _ e.symm; have := HI.out; omega), H4.out.2.2.2.2.2.1, H4.out.2.2.2.2.2.2.1.grow hg9 (fun b hb => by have := hrl b hb; have := HI.out; omega), belowGrown H4.out.2.2.2.2.2.2.2.1 hg9 (fun b hb => by have := hrl b hb; have := HI.out; omega), Nat.le_trans H4.out.2.2.2.2.2.2.2.2.1 hg9.size, by have := HLQ.out; simp only [List.length_append, List.length_singleton]; omega, H4.out.2.2.2.2.2.2.2.2.2⟩
          simpa [OwnR, cellsR_append] using ho9
        obtain ⟨a9, c9, hv9⟩ : ∃ ao cap, v9 = .slice ao (ps ++ [x]).length cap := by obtain ⟨ao, cap, h, _⟩ := H9.out.1.at; exact ⟨ao, cap, h⟩
        have HL9 : Hid (v9 = .slice a9 (pl + 1) c9) := by show v9 = _; rw [hv9, List.length_append, HPL.out]; rfl
        clear ho9 hg9 H4 hW4 hv9
        go_wp2_with fail
        exact ⟨⟨ps ++ [x], q', vq, H9.out⟩, by rw [HL9.out]; show i.length - (pl + 1) < i.length - pl; have := HLQ.out; have := HPL.out; omega⟩

end Go.Proofs.Ytbfbaofjkefmmaa
