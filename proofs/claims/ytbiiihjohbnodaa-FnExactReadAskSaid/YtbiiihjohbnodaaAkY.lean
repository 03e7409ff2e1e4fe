/-
  The program's rowIn of texts, read as bytes.
-/
import Derived.Test.YtbiiihjohbnodaaCrY
import Derived.Test.YtbiiihjohbnodaaCrZ
import Derived.Test.YtbiiihjohbnodaaAkP
namespace Go.Proofs.Ytbiiihjohbnodaa
open Go.RowKit Der
set_option linter.unusedVariables false

theorem byt_tail {k : Nat} {y : It (k + 1)} {q q' : List (It (k + 1))} {x : ByteArray} (h : txtP 4 (y :: q) = some (x, q')) : ∃ y', y :: q = y' :: q' := by
  obtain ⟨y', h1, _⟩ := txt_some h
  exact ⟨y', h1⟩

theorem bytsP_step {k : Nat} {y : It (k + 1)} {q : List (It (k + 1))} {x : ByteArray} (h : txtP 4 (y :: q) = some (x, q)) : bytsP (y :: q) = (bytsP q).map (x :: ·) := by
  show (match txtP 4 (y :: q) with
    | none => none
    | some (v, _) => match bytsP q with
      | none => none
      | some l => some (v :: l)) = _
  rw [h]
  cases bytsP q <;> rfl
theorem bytsP_none {k : Nat} {y : It (k + 1)} {q : List (It (k + 1))} (h : txtP 4 (y :: q) = none) : bytsP (y :: q) = none := by
  show (match txtP 4 (y :: q) with
    | none => none
    | some (v, _) => match bytsP q with
      | none => none
      | some l => some (v :: l)) = _
  rw [h]
set_option maxHeartbeats 6400000 in
set_option maxRecDepth 100000 in
theorem rbyts_any (w0 W : World) (g n : Nat) (v : Value) (ks : List (It (n + 2))) (hw : Below w0.heap.size w0 W) (hk : KcAt w0 (n + 2) v ks) (hr : Blk W g 134 #[v]) (hg : w0.heap.size ≤ g) (hl : ks.length ≤ 1000000) (hz : ∀ y ∈ ks, szI (n + 2) y ≤ 1000000) :
    Calls Try.prog 93 #[.pointer (some ⟨g, 0, none⟩), .func (.func 94) #[] #[]] W fun e W' => TxtsPost w0 W g n (bytsL ks) e W' := by
  obtain ⟨i0, hi, hz0, hz1, hz2⟩ := info_parts info9
  have E := list_any w0 W g (n + 1) v ks hw hk hr hg hl
  have HP : Hid (bytsL ks = match lstP ks with
    | none => none
    | some (i, r) => match bytsP i with
      | none => none
      | some l => some (l, r)) := rfl
  generalize bytsL ks = oL at HP ⊢
  have HW : Hid (Below w0.heap.size w0 W ∧ w0.heap.size ≤ g ∧ (∀ y ∈ ks, szI (n + 2) y ≤ 1000000) ∧ g < W.heap.size) := ⟨hw, hg, hz, hr.lt⟩
  clear hw hk hr hg hl hz
  go_enter Try.func93, Try.ntmps93
  go_wp2_with fail
  refine E.mono ?_
  rintro e w2 ⟨ho, ⟨hn, rfl⟩ | ⟨i, r, v', vi, gi, hn, rfl, hgi, hki, hkr, hB, hBi⟩⟩
  · have HE : Hid (Out [g] W w2 ∧ oL = none) := ⟨ho, by rw [HP.out, hn]⟩
    clear ho hn E
    unfold misfit
    go_wp2_with fail
    exact ⟨rfl, HE.out.1, .inl ⟨HE.out.2, rfl⟩⟩
  have hsz : i.length ≤ 1000000 ∧ ∀ y ∈ i, szI (n + 1) y ≤ 20000000 := by
    obtain ⟨y, h1, h2, h3⟩ := lst_some hn
    have h4 := HW.out.2.2.1 y (by rw [h1]; simp)
    have h5 := szI_kid (t := It.tag y) (s := It.text y) (ks := It.kids y) h4
    change i = It.kids y at h3
    rw [h3]
    exact ⟨h5.2.1, fun z hz => by have := h5.2.2 z hz; omega⟩
  have HE : Hid (oL = match bytsP i with
      | none => none
      | some l => some (l, r)) := by show oL = _; rw [HP.out, hn]
  have HI : Hid (w2.heap.size ≤ w2.heap.size ∧ W.heap.size ≤ gi ∧ gi < w2.heap.size ∧ g < W.heap.size ∧ W.heap.size ≤ w2.heap.size ∧ w0.heap.size ≤ g ∧ w0.heap.size ≤ W.heap.size ∧ KcAt w0 (n + 2) v' r ∧ i.length ≤ 1000000) := ⟨Nat.le_refl _, hgi, hBi.lt, HW.out.2.2.2, ho.size, HW.out.2.1, HW.out.1.size, hkr, hsz.1⟩
  have HS : Hid (OwnT w2 w2.heap.size (.slice none 0 0) [] ∧ KcAt w0 (n + 1) vi i ∧ Blk w2 gi 134 #[vi] ∧ Blk w2 g 134 #[v'] ∧ bytsP i = (bytsP i).map (([] : List ByteArray) ++ ·) ∧ Out [g] W w2 ∧ Below w0.heap.size w0 w2 ∧ w2.heap.size ≤ w2.heap.size ∧ ([] : List ByteArray).length + i.length = i.length ∧ (∀ y ∈ i, szI (n + 1) y ≤ 20000000)) := ⟨World.ownsRow_nil _ _ _ _, hki, hBi, hB, by simp, ho, below_out HW.out.1 ho HW.out.2.1, Nat.le_refl _, by simp, hsz.2⟩
  clear ho hn hgi hki hkr hB hBi E hsz HP HW
  go_wp2_with fail
  go_loopw [5] (fun lv wr => Hid (∃ (ps : List ByteArray) (q : List (It (n + 1))) (vr : Value), OwnT wr w2.heap.size lv ps ∧ KcAt w0 (n + 1) vr q ∧ Blk wr gi 134 #[vr] ∧ Blk wr g 134 #[v'] ∧ bytsP i = (bytsP q).map (ps ++ ·) ∧ Out [g] W wr ∧ Below w0.heap.size w0 wr ∧ w2.heap.size ≤ wr.heap.size ∧ ps.length + q.length = i.length ∧ (∀ y ∈ q, szI (n + 1) y ≤ 20000000))) (fun lv _ => i.length - lenV lv)
  case atStart => exact ⟨[], i, vi, HS.out⟩
  case round =>
    clear HS
    obtain ⟨ps, q, vr, h1, h2, h3, h4, h5, h6, h7, h8, h9, h10⟩ := hrel
    obtain ⟨la, lc, hlv⟩ : ∃ ao cap, u5 = .slice ao ps.length cap := by obtain ⟨ao, cap, h, _⟩ := h1.at; exact ⟨ao, cap, h⟩
    obtain ⟨qa, qc, hvr⟩ := h2.shape
    subst hvr
    cases q with
    | nil =>
      have HF : Hid (TxtsPost w0 W g n oL (.returned u5) wr) := by
        have e : bytsP i = some ps := by rw [h5]; show Option.map (ps ++ ·) (some []) = _; simp
        refine ⟨h6, .inr ⟨ps, r, v', u5, ?_, rfl, h1.base HI.out.2.2.2.2.1, HI.out.2.2.2.2.2.2.2.1, h4⟩⟩
        rw [HE.out, e]
      have c1 : wr.cell? ⟨gi, 0, none⟩ = some (.slice qa 0 qc) := h3.cell 0
      clear h1 h2 h3 h4 h5 h6 h7 h8 h9 h10 hlv
      go_wp2_with fail
      go_ret
      exact HF.out
    | cons y q =>
      rw [List.length_cons] at h3 h9
      have c1 : wr.cell? ⟨gi, 0, none⟩ = some (.slice qa (q.length + 1) qc) := h3.cell 0
      have hql : ps.length + (q.length + 1) ≤ 1000000 := by have := HI.out.2.2.2.2.2.2.2.2; omega
      have E3 := rbytes_any w0 wr gi n (.slice qa (q.length + 1) qc) (y :: q) h7 h2 h3 (by have := HI.out; omega) (by rw [List.length_cons]; omega)
      have HK : Hid (OwnT wr w2.heap.size u5 ps ∧ Blk wr g 134 #[v'] ∧ bytsP i = (bytsP (y :: q)).map (ps ++ ·) ∧ Out [g] W wr ∧ Below w0.heap.size w0 wr ∧ w2.heap.size ≤ wr.heap.size ∧ ps.length + (q.length + 1) = i.length ∧ (∀ z ∈ (y :: q), szI (n + 1) z ≤ 20000000) ∧ (∀ b, u5.ownBlock = some b → w2.heap.size ≤ b)) := ⟨h1, h4, h5, h6, h7, h8, h9, h10, fun b hb => (World.ownsRow.lt h1 b hb).1⟩
      obtain ⟨m, hm⟩ : ∃ m, q.length = m := ⟨_, rfl⟩
      rw [hm] at c1
      have hm0 : (0 : Int) < (m : Int) + 1 := by omega
      have HM : Hid (q.length = m ∧ ps.length + (m + 1) ≤ 1000000) := ⟨hm, by rw [← hm]; exact hql⟩
      clear h1 h2 h3 h4 h5 h6 h7 h8 h9 h10 hql hm
      obtain ⟨pl, hpl⟩ : ∃ p, ps.length = p := ⟨_, rfl⟩
      rw [hpl] at hlv
      have HPL : Hid (ps.length = pl) := hpl
      clear hpl
      subst hlv
      go_wp2_with fail
      clear c1
      refine E3.mono ?_
      rintro e w3 ⟨ho3, ⟨hn3, rfl⟩ | ⟨x, q', vq, hn3, rfl, hkq, hBq⟩⟩
      · have HF : Hid (Out [g] W w3 ∧ oL = none) := by
          refine ⟨HK.out.2.2.2.1.aside ho3 HI.out.2.1, ?_⟩
          rw [HE.out, HK.out.2.2.1, bytsP_none hn3]
          rfl
        clear ho3 hn3 E3
        unfold misfit
        go_wp2_with fail
        exact ⟨rfl, HF.out.1, .inl ⟨HF.out.2, rfl⟩⟩
      · have hq' : q' = q := by
          obtain ⟨y', hh⟩ := byt_tail hn3
          exact (List.cons.inj hh).2.symm
        subst hq'
        have hx3 : txtP 4 (y :: q') = some (x, q') := hn3
        obtain ⟨W4, hW4⟩ : ∃ V, V = w3.alloc (Obj.cells #[.string x] 9) := ⟨_, rfl⟩
        have hb4 : Below w3.heap.size w3 W4 := by rw [hW4]; exact (Below.refl _ _).alloc (Nat.le_refl _) _
        have H4 : Hid (OwnT W4 w2.heap.size (.slice la pl lc) ps ∧ OwnT W4 w3.heap.size (.slice (some ⟨w3.heap.size, 0, none⟩) 1 1) [x] ∧ KcAt w0 (n + 1) vq q' ∧ Blk W4 gi 134 #[vq] ∧ Blk W4 g 134 #[v'] ∧ bytsP i = (bytsP q').map ((ps ++ [x]) ++ ·) ∧ Out [g] W W4 ∧ Below w0.heap.size w0 W4 ∧ w2.heap.size ≤ W4.heap.size ∧ (∀ z ∈ q', szI (n + 1) z ≤ 20000000)) := by
          have hrow := ho3.row (v := .slice la pl lc) (fun b hb => by have := HK.out.2.2.2.2.2.2.2.2 b hb; have := HI.out; simp; omega) HK.out.1
          refine ⟨OwnT.stays hrow hb4, by rw [hW4]; exact rone_text w3 x, hkq, hBq.on hb4, (HK.out.2.1.outX ho3 (by have := HI.out; simp; omega)).on hb4, ?_, (HK.out.2.2.2.1.aside ho3 HI.out.2.1).trans (Out.of_below hb4), ?_, Nat.le_trans HK.out.2.2.2.2.2.1 (Nat.le_trans ho3.size hb4.size), fun z hz => HK.out.2.2.2.2.2.2.2.1 z (by simp [hz])⟩
          · rw [HK.out.2.2.1, bytsP_step hx3]
            cases bytsP q' with
            | none => rfl
            | some l => simp
          · have := below_out HK.out.2.2.2.2.1 ho3 (by have := HI.out; omega)
            exact this.trans (hb4.mono this.size)
        have HLQ : Hid (ps.length + (q'.length + 1) = i.length ∧ q'.length = m ∧ ps.length + (m + 1) ≤ 1000000) := ⟨HK.out.2.2.2.2.2.2.1, HM.out.1, HM.out.2⟩
        clear ho3 hn3 hkq hBq hx3 hb4 E3 HK HM
        go_wp2_with (at_builtin; rw [← hW4]; refine wpList_append_texts2 rfl _ _ 22 rfl w2.heap.size i0 Try.underlying22 hi hz0 hz1 hz2 (.slice la pl lc) ps.length (cellsT ps) rfl H4.out.1 _ [x] w3.heap.size H4.out.2.1 rfl (by have := HLQ.out; simp only [List.length_singleton]; omega) H4.out.2.2.2.2.2.2.2.2.1 ?_)
        intro v9 w9 ho9 hg9
        rw [← hW4] at hg9
        have H9 : Hid (OwnT w9 w2.heap.size v9 (ps ++ [x]) ∧ KcAt w0 (n + 1) vq q' ∧ Blk w9 gi 134 #[vq] ∧ Blk w9 g 134 #[v'] ∧ bytsP i = (bytsP q').map ((ps ++ [x]) ++ ·) ∧ Out [g] W w9 ∧ Below w0.heap.size w0 w9 ∧ w2.heap.size ≤ w9.heap.size ∧ (ps ++ [x]).length + q'.length = i.length ∧ (∀ z ∈ q', szI (n + 1) z ≤ 20000000)) := by
          have hrl := fun b hb => (World.ownsRow.lt H4.out.1 b hb).1
          refine ⟨?_, H4.out.2.2.1, H4.out.2.2.2.1.grown hg9 (fun e => by have := hrl _ e.symm; have := HI.out; omega), H4.out.2.2.2.2.1.grown hg9 (fun e => by have := hrl _ e.symm; have := HI.out; omega), H4.out.2.2.2.2.2.1, H4.out.2.2.2.2.2.2.1.grow hg9 (fun b hb => by have := hrl b hb; have := HI.out; omega), belowGrown H4.out.2.2.2.2.2.2.2.1 hg9 (fun b hb => by have := hrl b hb; have := HI.out; omega), Nat.le_trans H4.out.2.2.2.2.2.2.2.2.1 hg9.size, by have := HLQ.out; simp only [List.length_append, List.length_singleton]; omega, H4.out.2.2.2.2.2.2.2.2.2⟩
          simpa [OwnT, cellsT_append] using ho9
        obtain ⟨a9, c9, hv9⟩ : ∃ ao cap, v9 = .slice ao (ps ++ [x]).length cap := by obtain ⟨ao, cap, h, _⟩ := H9.out.1.at; exact ⟨ao, cap, h⟩
        have HL9 : Hid (v9 = .slice a9 (pl + 1) c9) := by show v9 = _; rw [hv9, List.length_append, HPL.out]; rfl
        clear ho9 hg9 H4 hW4 hv9
        go_wp2_with fail
        exact ⟨⟨ps ++ [x], q', vq, H9.out⟩, by rw [HL9.out]; show i.length - (pl + 1) < i.length - pl; have := HLQ.out; have := HPL.out; omega⟩
theorem SzL.byts {k : Nat} {ks r : List (It (k + 2))} {l : List ByteArray} (h : SzL ks) (hn : bytsL ks = some (l, r)) : SzL r := by
  obtain ⟨y, h1, _⟩ := bytsL_some hn
  rw [h1] at h
  exact h.tail
end Go.Proofs.Ytbiiihjohbnodaa
