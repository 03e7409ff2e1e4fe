/-
  Texts of the proof.
-/
import Derived.Deep.AppendLies
import Derived.Test.YtbiiihjohbnodaaMRV13
import Derived.Test.YtbiiihjohbnodaaMRV18
set_option maxRecDepth 100000
set_option maxHeartbeats 25600000
namespace Go.Proofs.Ytbiiihjohbnodaa
open Go.RowKit Der
set_option linter.unusedVariables false
set_option linter.unusedSimpArgs false
def SzL {n : Nat} (ks : List (It n)) : Prop := ks.length <= 1000000 /\ ∀ y ∈ ks, szI n y <= 1000000
theorem SzL.tail {n : Nat} {y : It n} {r : List (It n)} (h : SzL (y :: r)) : SzL r := ⟨by have := h.1; rw [List.length_cons] at this; omega, fun z hz => h.2 z (by simp [hz])⟩
theorem SzL.kids {n : Nat} {y : It (n + 1)} {r : List (It (n + 1))} (h : SzL (y :: r)) : SzL (It.kids y) := by
 have h5 := szI_kid (t := It.tag y) (s := It.text y) (ks := It.kids y) (h.2 y (by simp))
 exact ⟨h5.2.1, h5.2.2⟩
theorem SzL.num {k : Nat} {ks r : List (It (k + 1))} {x : Int} (h : SzL ks) (hn : numP ks = some (x, r)) : SzL r := by
 obtain ⟨y, _, h1, _⟩ := num_some hn
 rw [h1] at h
 exact h.tail
theorem SzL.txt {k : Nat} {t : Int} {ks r : List (It (k + 1))} {x : ByteArray} (h : SzL ks) (hn : txtP t ks = some (x, r)) : SzL r := by
 obtain ⟨y, h1, _⟩ := txt_some hn
 rw [h1] at h
 exact h.tail
theorem SzL.lst {k : Nat} {ks r : List (It (k + 1))} {i : List (It k)} (h : SzL ks) (hn : lstP ks = some (i, r)) : SzL i /\ SzL r := by
 obtain ⟨y, h1, _, h3⟩ := lst_some hn
 rw [h1] at h
 change i = It.kids y at h3
 rw [h3]
 exact ⟨h.kids, h.tail⟩
theorem out_set {w : World} (b j : Nat) (v : Value) : Out [b] w (w.setCell ⟨b, j, none⟩ v) := (Out.refl _ _).setCell _ _ (by simp)
end Go.Proofs.Ytbiiihjohbnodaa
namespace Go.Proofs.Ytbiiihjohbnodaa
open Go.RowKit Der
set_option linter.unusedVariables false
theorem byt_tail {k : Nat} {y : It (k + 1)} {q q' : List (It (k + 1))} {x : ByteArray} (h : txtP 4 (y :: q) = some (x, q')) : ∃ y', y :: q = y' :: q' := by
 obtain ⟨y', h1, _⟩ := txt_some h
 exact ⟨y', h1⟩
theorem bytsP_step {k : Nat} {y : It (k + 1)} {q : List (It (k + 1))} {x : ByteArray} (h : txtP 4 (y :: q) = some (x, q)) : bytsP (y :: q) = (bytsP q).map (x :: ·) := by
 show (match txtP 4 (y :: q) with
  | none => none
  | some (v, _) => match bytsP q with
   | none => none
   | some l => some (v :: l)) = _
 rw [h]
 cases bytsP q <;> rfl
theorem bytsP_none {k : Nat} {y : It (k + 1)} {q : List (It (k + 1))} (h : txtP 4 (y :: q) = none) : bytsP (y :: q) = none := by
 show (match txtP 4 (y :: q) with
  | none => none
  | some (v, _) => match bytsP q with
   | none => none
   | some l => some (v :: l)) = _
 rw [h]
theorem rbyts_any (w0 W : World) (g n : Nat) (v : Value) (ks : List (It (n + 2))) (hw : Below w0.heap.size w0 W) (hk : KcAt w0 (n + 2) v ks) (hr : Blk W g 134 #[v]) (hg : w0.heap.size <= g) (hl : ks.length <= 1000000) (hz : ∀ y ∈ ks, szI (n + 2) y <= 1000000) :
  Calls Try.prog 93 #[.pointer (some ⟨g, 0, none⟩), .func (.func 94) #[] #[]] W fun e W' => TxtsPost w0 W g n (bytsL ks) e W' := by
 obtain ⟨i0, hi, hz0, hz1, hz2⟩ := info_parts info9
 have E := list_any w0 W g (n + 1) v ks hw hk hr hg hl
 have HP : Hid (bytsL ks = match lstP ks with
  | none => none
  | some (i, r) => match bytsP i with
   | none => none
   | some l => some (l, r)) := rfl
 generalize bytsL ks = oL at HP |-
 have HW : Hid (Below w0.heap.size w0 W /\ w0.heap.size <= g /\ (∀ y ∈ ks, szI (n + 2) y <= 1000000) /\ g < W.heap.size) := ⟨hw, hg, hz, hr.lt⟩
 clear hw hk hr hg hl hz
 go_enter Try.func93, Try.ntmps93
 go_wp2_with fail
 refine E.mono ?_
 rintro e w2 ⟨ho, ⟨hn, rfl⟩ | ⟨i, r, v', vi, gi, hn, rfl, hgi, hki, hkr, hB, hBi⟩⟩
 ·have HE : Hid (Out [g] W w2 /\ oL = none) := ⟨ho, by rw [HP.out, hn]⟩
  clear ho hn E
  unfold misfit
  go_wp2_with fail
  exact ⟨rfl, HE.out.1, .inl ⟨HE.out.2, rfl⟩⟩
 have hsz : i.length <= 1000000 /\ ∀ y ∈ i, szI (n + 1) y <= 20000000 := by
  obtain ⟨y, h1, h2, h3⟩ := lst_some hn
  have h4 := HW.out.2.2.1 y (by rw [h1]; simp)
  have h5 := szI_kid (t := It.tag y) (s := It.text y) (ks := It.kids y) h4
  change i = It.kids y at h3
  rw [h3]
  exact ⟨h5.2.1, fun z hz => by have := h5.2.2 z hz; omega⟩
 have HE : Hid (oL = match bytsP i with
   | none => none
   | some l => some (l, r)) := by show oL = _; rw [HP.out, hn]
 have HI : Hid (w2.heap.size <= w2.heap.size /\ W.heap.size <= gi /\ gi < w2.heap.size /\ g < W.heap.size /\ W.heap.size <= w2.heap.size /\ w0.heap.size <= g /\ w0.heap.size <= W.heap.size /\ KcAt w0 (n + 2) v' r /\ i.length <= 1000000) := ⟨Nat.le_refl _, hgi, hBi.lt, HW.out.2.2.2, ho.size, HW.out.2.1, HW.out.1.size, hkr, hsz.1⟩
 have HS : Hid (OwnT w2 w2.heap.size (.slice none 0 0) [] /\ KcAt w0 (n + 1) vi i /\ Blk w2 gi 134 #[vi] /\ Blk w2 g 134 #[v'] /\ bytsP i = (bytsP i).map (([] : List ByteArray) ++ ·) /\ Out [g] W w2 /\ Below w0.heap.size w0 w2 /\ w2.heap.size <= w2.heap.size /\ ([] : List ByteArray).length + i.length = i.length /\ (∀ y ∈ i, szI (n + 1) y <= 20000000)) := ⟨World.ownsRow_nil _ _ _ _, hki, hBi, hB, by simp, ho, below_out HW.out.1 ho HW.out.2.1, Nat.le_refl _, by simp, hsz.2⟩
 clear ho hn hgi hki hkr hB hBi E hsz HP HW
 go_wp2_with fail
 go_loopw [5] (fun lv wr => Hid (∃ (ps : List ByteArray) (q : List (It (n + 1))) (vr : Value), OwnT wr w2.heap.size lv ps /\ KcAt w0 (n + 1) vr q /\ Blk wr gi 134 #[vr] /\ Blk wr g 134 #[v'] /\ bytsP i = (bytsP q).map (ps ++ ·) /\ Out [g] W wr /\ Below w0.heap.size w0 wr /\ w2.heap.size <= wr.heap.size /\ ps.length + q.length = i.length /\ (∀ y ∈ q, szI (n + 1) y <= 20000000))) (fun lv _ => i.length - lenV lv)
 case atStart => exact ⟨[], i, vi, HS.out⟩
 case round =>
  clear HS
  obtain ⟨ps, q, vr, h1, h2, h3, h4, h5, h6, h7, h8, h9, h10⟩ := hrel
  obtain ⟨la, lc, hlv⟩ : ∃ ao cap, u5 = .slice ao ps.length cap := by obtain ⟨ao, cap, h, _⟩ := h1.at; exact ⟨ao, cap, h⟩
  obtain ⟨qa, qc, hvr⟩ := h2.shape
  subst hvr
  cases q with
  | nil =>
   have HF : Hid (TxtsPost w0 W g n oL (.returned u5) wr) := by
    have e : bytsP i = some ps := by rw [h5]; show Option.map (ps ++ ·) (some []) = _; simp
    refine ⟨h6, .inr ⟨ps, r, v', u5, ?_, rfl, h1.base HI.out.2.2.2.2.1, HI.out.2.2.2.2.2.2.2.1, h4⟩⟩
    rw [HE.out, e]
   have c1 : wr.cell? ⟨gi, 0, none⟩ = some (.slice qa 0 qc) := h3.cell 0
   clear h1 h2 h3 h4 h5 h6 h7 h8 h9 h10 hlv
   go_wp2_with fail
   go_ret
   exact HF.out
  | cons y q =>
   rw [List.length_cons] at h3 h9
   have c1 : wr.cell? ⟨gi, 0, none⟩ = some (.slice qa (q.length + 1) qc) := h3.cell 0
   have hql : ps.length + (q.length + 1) <= 1000000 := by have := HI.out.2.2.2.2.2.2.2.2; omega
   have E3 := rbytes_any w0 wr gi n (.slice qa (q.length + 1) qc) (y :: q) h7 h2 h3 (by have := HI.out; omega) (by rw [List.length_cons]; omega)
   have HK : Hid (OwnT wr w2.heap.size u5 ps /\ Blk wr g 134 #[v'] /\ bytsP i = (bytsP (y :: q)).map (ps ++ ·) /\ Out [g] W wr /\ Below w0.heap.size w0 wr /\ w2.heap.size <= wr.heap.size /\ ps.length + (q.length + 1) = i.length /\ (∀ z ∈ (y :: q), szI (n + 1) z <= 20000000) /\ (∀ b, u5.ownBlock = some b -> w2.heap.size <= b)) := ⟨h1, h4, h5, h6, h7, h8, h9, h10, fun b hb => (World.ownsRow.lt h1 b hb).1⟩
   obtain ⟨m, hm⟩ := zE (q.length)
   rw [hm] at c1
   have hm0 : (0 : Int) < (m : Int) + 1 := by omega
   have HM : Hid (q.length = m /\ ps.length + (m + 1) <= 1000000) := ⟨hm, by rw [<- hm]; exact hql⟩
   clear h1 h2 h3 h4 h5 h6 h7 h8 h9 h10 hql hm
   obtain ⟨pl, hpl⟩ := zE (ps.length)
   rw [hpl] at hlv
   have HPL : Hid (ps.length = pl) := hpl
   clear hpl
   subst hlv
   go_wp2_with fail
   clear c1
   refine E3.mono ?_
   rintro e w3 ⟨ho3, ⟨hn3, rfl⟩ | ⟨x, q', vq, hn3, rfl, hkq, hBq⟩⟩
   ·have HF : Hid (Out [g] W w3 /\ oL = none) := by
     refine ⟨HK.out.2.2.2.1.aside ho3 HI.out.2.1, ?_⟩
     rw [HE.out, HK.out.2.2.1, bytsP_none hn3]
     rfl
    clear ho3 hn3 E3
    unfold misfit
    go_wp2_with fail
    exact ⟨rfl, HF.out.1, .inl ⟨HF.out.2, rfl⟩⟩
   ·have hq' : q' = q := by
     obtain ⟨y', hh⟩ := byt_tail hn3
     exact (List.cons.inj hh).2.symm
    subst hq'
    have hx3 : txtP 4 (y :: q') = some (x, q') := hn3
    obtain ⟨W4, hW4⟩ : ∃ V, V = w3.alloc (Obj.cells #[.string x] 9) := ⟨_, rfl⟩
    have hb4 : Below w3.heap.size w3 W4 := by rw [hW4]; exact (Below.refl _ _).alloc (Nat.le_refl _) _
    have H4 : Hid (OwnT W4 w2.heap.size (.slice la pl lc) ps /\ OwnT W4 w3.heap.size (.slice (some ⟨w3.heap.size, 0, none⟩) 1 1) [x] /\ KcAt w0 (n + 1) vq q' /\ Blk W4 gi 134 #[vq] /\ Blk W4 g 134 #[v'] /\ bytsP i = (bytsP q').map ((ps ++ [x]) ++ ·) /\ Out [g] W W4 /\ Below w0.heap.size w0 W4 /\ w2.heap.size <= W4.heap.size /\ (∀ z ∈ q', szI (n + 1) z <= 20000000)) := by
     have hrow := ho3.row (v := .slice la pl lc) (fun b hb => by have := HK.out.2.2.2.2.2.2.2.2 b hb; have := HI.out; simp; omega) HK.out.1
     refine ⟨OwnT.stays hrow hb4, by rw [hW4]; exact rone_text w3 x, hkq, hBq.on hb4, (HK.out.2.1.outX ho3 (by have := HI.out; simp; omega)).on hb4, ?_, (HK.out.2.2.2.1.aside ho3 HI.out.2.1).trans (Out.of_below hb4), ?_, Nat.le_trans HK.out.2.2.2.2.2.1 (Nat.le_trans ho3.size hb4.size), fun z hz => HK.out.2.2.2.2.2.2.2.1 z (by simp [hz])⟩
     ·rw [HK.out.2.2.1, bytsP_step hx3]
      cases bytsP q' with
      | none => rfl
      | some l => simp
     ·have := below_out HK.out.2.2.2.2.1 ho3 (by have := HI.out; omega)
      exact this.trans (hb4.mono this.size)
    have HLQ : Hid (ps.length + (q'.length + 1) = i.length /\ q'.length = m /\ ps.length + (m + 1) <= 1000000) := ⟨HK.out.2.2.2.2.2.2.1, HM.out.1, HM.out.2⟩
    clear ho3 hn3 hkq hBq hx3 hb4 E3 HK HM
    go_wp2_with (at_builtin; rw [<- hW4]; refine wpList_append_texts2 rfl _ _ 22 rfl w2.heap.size i0 Try.underlying22 hi hz0 hz1 hz2 (.slice la pl lc) ps.length (cellsT ps) rfl H4.out.1 _ [x] w3.heap.size H4.out.2.1 rfl (by have := HLQ.out; simp only [List.length_singleton]; omega) H4.out.2.2.2.2.2.2.2.2.1 ?_)
    intro v9 w9 ho9 hg9
    rw [<- hW4] at hg9
    have H9 : Hid (OwnT w9 w2.heap.size v9 (ps ++ [x]) /\ KcAt w0 (n + 1) vq q' /\ Blk w9 gi 134 #[vq] /\ Blk w9 g 134 #[v'] /\ bytsP i = (bytsP q').map ((ps ++ [x]) ++ ·) /\ Out [g] W w9 /\ Below w0.heap.size w0 w9 /\ w2.heap.size <= w9.heap.size /\ (ps ++ [x]).length + q'.length = i.length /\ (∀ z ∈ q', szI (n + 1) z <= 20000000)) := by
     have hrl := fun b hb => (World.ownsRow.lt H4.out.1 b hb).1
     refine ⟨?_, H4.out.2.2.1, H4.out.2.2.2.1.grown hg9 (fun e => by have := hrl _ e.symm; have := HI.out; omega), H4.out.2.2.2.2.1.grown hg9 (fun e => by have := hrl _ e.symm; have := HI.out; omega), H4.out.2.2.2.2.2.1, H4.out.2.2.2.2.2.2.1.grow hg9 (fun b hb => by have := hrl b hb; have := HI.out; omega), belowGrown H4.out.2.2.2.2.2.2.2.1 hg9 (fun b hb => by have := hrl b hb; have := HI.out; omega), Nat.le_trans H4.out.2.2.2.2.2.2.2.2.1 hg9.size, by have := HLQ.out; simp only [List.length_append, List.length_singleton]; omega, H4.out.2.2.2.2.2.2.2.2.2⟩
     simpa [OwnT, cellsT_append] using ho9
    obtain ⟨a9, c9, hv9⟩ : ∃ ao cap, v9 = .slice ao (ps ++ [x]).length cap := by obtain ⟨ao, cap, h, _⟩ := H9.out.1.at; exact ⟨ao, cap, h⟩
    have HL9 : Hid (v9 = .slice a9 (pl + 1) c9) := by show v9 = _; rw [hv9, List.length_append, HPL.out]; rfl
    clear ho9 hg9 H4 hW4 hv9
    go_wp2_with fail
    exact ⟨⟨ps ++ [x], q', vq, H9.out⟩, by rw [HL9.out]; show i.length - (pl + 1) < i.length - pl; have := HLQ.out; have := HPL.out; omega⟩
theorem SzL.byts {k : Nat} {ks r : List (It (k + 2))} {l : List ByteArray} (h : SzL ks) (hn : bytsL ks = some (l, r)) : SzL r := by
 obtain ⟨y, h1, _⟩ := bytsL_some hn
 rw [h1] at h
 exact h.tail
end Go.Proofs.Ytbiiihjohbnodaa
namespace Go.Proofs.Ytbiiihjohbnodaa
open Go.RowKit Der
set_option linter.unusedVariables false
set_option linter.unusedSimpArgs false
def AnPost (w0 w : World) (g n : Nat) (ob : Option (Aw × List (It (n + 3)))) (e : Ending) (W' : World) : Prop := Out [g] w W' /\
 ((ob = none /\ e = misfit) ∨ ∃ (x : Aw) (r : List (It (n + 3))) (v' u : Value), ob = some (x, r) /\ e = .returned u /\ OwnAw W' w.heap.size u x /\ KcAt w0 (n + 3) v' r /\ Blk W' g 134 #[v'])
theorem ap_of {u v : Value} (h : ∀ b, u.ownBlock = some b -> v.ownBlock = some b -> False) : Ap u v := by
 unfold Ap
 cases hu : u.ownBlock with
 | none => exact .inl rfl
 | some b => exact .inr (fun e => h b hu e.symm)
theorem answer_any (w0 w : World) (g n : Nat) (v : Value) (ks : List (It (n + 3))) (hw : Below w0.heap.size w0 w) (hk : KcAt w0 (n + 3) v ks) (hr : Blk w g 134 #[v]) (hg : w0.heap.size <= g) (hz : SzL ks) :
  Calls Try.prog 120 #[.pointer (some ⟨g, 0, none⟩)] w fun e W' => AnPost w0 w g n (ansP ks) e W' := by
 obtain ⟨oB, hoB⟩ := zE (ansP ks)
 have HP : Hid (ansP ks = oB) := hoB
 rw [hoB]
 clear hoB
 have KW : Hid (KcAt w0 (n + 3) v ks /\ SzL ks) := ⟨hk, hz⟩
 have O0 : Hid (w0.heap.size <= g /\ g < w.heap.size /\ w0.heap.size <= w.heap.size) := ⟨hg, hr.lt, hw.size⟩
 clear hk hz hg
 go_enter Try.func120, Try.ntmps120
 go_wp2_with fail
 obtain ⟨W1, hW1⟩ : ∃ V, V = (w.alloc (Obj.cells #[.int .i64 0, .int .i64 0, .slice none 0 0, .slice none 0 0] 84)).alloc (Obj.cells #[.int .i64 0, .int .i64 0, .slice none 0 0, .slice none 0 0] 84) := ⟨_, rfl⟩
 rw [<- hW1]
 have e0 : (w.alloc (Obj.cells #[.int .i64 0, .int .i64 0, .slice none 0 0, .slice none 0 0] 84)).heap.size = w.heap.size + 1 := Array.size_push _
 have hb1 : Below w.heap.size w W1 := by rw [hW1]; exact ((Below.refl _ _).alloc (Nat.le_refl _) _).alloc (by rw [e0]; omega) _
 have hv1 : Blk W1 w.heap.size 84 #[.int .i64 0, .int .i64 0, .slice none 0 0, .slice none 0 0] := by rw [hW1]; exact (Blk.new w _ _).alloc _
 have hv2 : Blk W1 (w.heap.size + 1) 84 #[.int .i64 0, .int .i64 0, .slice none 0 0, .slice none 0 0] := by
  rw [hW1]
  have h := Blk.new (w.alloc (Obj.cells #[.int .i64 0, .int .i64 0, .slice none 0 0, .slice none 0 0] 84)) 84 #[.int .i64 0, .int .i64 0, .slice none 0 0, .slice none 0 0]
  rw [e0] at h
  exact h
 have hs1 : W1.heap.size = w.heap.size + 2 := by rw [hW1, size_alloc, e0]
 have HB : Hid (Below w0.heap.size w0 W1) := hw.trans (hb1.mono hw.size)
 have HO : Hid (Out [g] w W1) := Out.of_below hb1
 have VC : Hid (Blk W1 w.heap.size 84 #[.int .i64 0, .int .i64 0, .slice none 0 0, .slice none 0 0]) := hv1
 have VA : Hid (Blk W1 (w.heap.size + 1) 84 #[.int .i64 0, .int .i64 0, .slice none 0 0, .slice none 0 0]) := hv2
 have RW : Hid (Blk W1 g 134 #[v]) := hr.below hb1 hr.lt
 have O1 : Hid (W1.heap.size = w.heap.size + 2) := hs1
 clear hW1 e0 hb1 hv1 hv2 hs1 hr hw
 refine (list_any w0 W1 g (n + 2) v ks HB.out KW.out.1 RW.out (by have := O0.out; have := O1.out; omega) KW.out.2.1).mono ?_
 rintro e w2 ⟨ho, ⟨hn, rfl⟩ | ⟨i2, r2, v2, vi2, gi, hn, rfl, hgi, hki, hkr, hB, hBi⟩⟩
 ·have HF : Hid (Out [g] w w2 /\ oB = none) := by
   refine ⟨HO.out.trans ho, ?_⟩
   rw [<- HP.out]
   unfold ansP ansB; simp only [hn, Option.bind_some, Option.bind_none]
  clear hn ho
  unfold misfit
  go_wp2_with fail
  exact ⟨rfl, HF.out.1, .inl ⟨HF.out.2, rfl⟩⟩
 have N2 : Hid (lstP ks = some (i2, r2)) := hn
 replace HB := zH (below_out HB.out ho (by have := O0.out; have := O1.out; omega))
 replace HO := zH (HO.out.trans ho)
 replace VC := zH (VC.out.outX ho (by have := O0.out; have := O1.out; simp <;> omega))
 replace VA := zH (VA.out.outX ho (by have := O0.out; have := O1.out; simp <;> omega))
 clear RW
 have O2 : Hid (W1.heap.size <= w2.heap.size) := ho.size
 have RW : Hid (Blk w2 g 134 #[v2]) := hB
 have RI : Hid (Blk w2 gi 134 #[vi2]) := hBi
 have O3 : Hid (W1.heap.size <= gi /\ gi < w2.heap.size) := ⟨hgi, hBi.lt⟩
 have KI : Hid (KcAt w0 (n + 2) vi2 i2 /\ SzL i2) := ⟨hki, (KW.out.2.lst hn).1⟩
 have KR : Hid (KcAt w0 (n + 3) v2 r2) := hkr
 clear hn ho hgi hki hkr hB hBi
 go_wp2_with fail
 refine (number_any w0 w2 gi (n + 1) vi2 i2 HB.out KI.out.1 RI.out (by have := O0.out; have := O1.out; have := O2.out; have := O3.out; omega) KI.out.2.1 (fun y hy => Nat.le_trans (KI.out.2.2 y hy) (by decide))).mono ?_
 rintro e w3 ⟨ho, ⟨hn, rfl⟩ | ⟨x3, r3, v3, hn, rfl, hkq, hB⟩⟩
 ·have HF : Hid (Out [g] w w3 /\ oB = none) := by
   refine ⟨HO.out.aside ho (by have := O0.out; have := O1.out; have := O2.out; have := O3.out; omega), ?_⟩
   rw [<- HP.out]
   unfold ansP ansB; simp only [N2.out, hn, Option.bind_some, Option.bind_none]
  clear hn ho
  unfold misfit
  go_wp2_with fail
  exact ⟨rfl, HF.out.1, .inl ⟨HF.out.2, rfl⟩⟩
 have N3 : Hid (numP i2 = some (x3, r3)) := hn
 replace HB := zH (below_out HB.out ho (by have := O0.out; have := O1.out; have := O2.out; have := O3.out; omega))
 replace HO := zH (HO.out.aside ho (by have := O0.out; have := O1.out; have := O2.out; have := O3.out; omega))
 replace VC := zH (VC.out.outX ho (by have := O0.out; have := O1.out; have := O2.out; have := O3.out; simp <;> omega))
 replace VA := zH (VA.out.outX ho (by have := O0.out; have := O1.out; have := O2.out; have := O3.out; simp <;> omega))
 replace RW := zH (RW.out.outX ho (by have := O0.out; have := O1.out; have := O2.out; have := O3.out; simp <;> omega))
 clear RI
 have O4 : Hid (w2.heap.size <= w3.heap.size) := ho.size
 have RI : Hid (Blk w3 gi 134 #[v3]) := hB
 have KIn : Hid (KcAt w0 (n + 2) v3 r3 /\ SzL r3) := ⟨hkq, KI.out.2.num hn⟩
 clear KI
 have KI := KIn
 clear KIn hn ho hkq hB
 have cc : w3.cell? ⟨w.heap.size + 1, 0, none⟩ = some (.int .i64 0) := VA.out.cell 0
 have cf := VA.out.free 0
 go_wp2_with fail
 clear cc cf
 obtain ⟨V3, hV⟩ : ∃ V, V = w3.setCell ⟨w.heap.size + 1, 0, none⟩ (.int .i64 x3) := ⟨_, rfl⟩
 rw [<- hV]
 have hset : Out [w.heap.size + 1] w3 V3 := by rw [hV]; exact out_set _ _ _
 have hVA : Blk V3 (w.heap.size + 1) 84 #[.int .i64 x3, .int .i64 0, .slice none 0 0, .slice none 0 0] := by rw [hV]; exact VA.out.set 0 _
 replace HB := zH (below_out HB.out hset (by have := O0.out; have := O1.out; have := O2.out; have := O3.out; have := O4.out; omega))
 replace HO := zH (HO.out.aside hset (by have := O0.out; have := O1.out; have := O2.out; have := O3.out; have := O4.out; omega))
 replace VC := zH (VC.out.outX hset (by have := O0.out; have := O1.out; have := O2.out; have := O3.out; have := O4.out; simp <;> omega))
 replace RW := zH (RW.out.outX hset (by have := O0.out; have := O1.out; have := O2.out; have := O3.out; have := O4.out; simp <;> omega))
 replace RI := zH (RI.out.outX hset (by have := O0.out; have := O1.out; have := O2.out; have := O3.out; have := O4.out; simp <;> omega))
 clear VA
 have O5 : Hid (w3.heap.size <= V3.heap.size) := hset.size
 have VA : Hid (Blk V3 (w.heap.size + 1) 84 #[.int .i64 x3, .int .i64 0, .slice none 0 0, .slice none 0 0]) := hVA
 clear hset hVA hV
 refine (number_any w0 V3 gi (n + 1) v3 r3 HB.out KI.out.1 RI.out (by have := O0.out; have := O1.out; have := O2.out; have := O3.out; have := O4.out; have := O5.out; omega) KI.out.2.1 (fun y hy => Nat.le_trans (KI.out.2.2 y hy) (by decide))).mono ?_
 rintro e w4 ⟨ho, ⟨hn, rfl⟩ | ⟨x4, r4, v4, hn, rfl, hkq, hB⟩⟩
 ·have HF : Hid (Out [g] w w4 /\ oB = none) := by
   refine ⟨HO.out.aside ho (by have := O0.out; have := O1.out; have := O2.out; have := O3.out; have := O4.out; have := O5.out; omega), ?_⟩
   rw [<- HP.out]
   unfold ansP ansB; simp only [N2.out, N3.out, hn, Option.bind_some, Option.bind_none]
  clear hn ho
  unfold misfit
  go_wp2_with fail
  exact ⟨rfl, HF.out.1, .inl ⟨HF.out.2, rfl⟩⟩
 have N4 : Hid (numP r3 = some (x4, r4)) := hn
 replace HB := zH (below_out HB.out ho (by have := O0.out; have := O1.out; have := O2.out; have := O3.out; have := O4.out; have := O5.out; omega))
 replace HO := zH (HO.out.aside ho (by have := O0.out; have := O1.out; have := O2.out; have := O3.out; have := O4.out; have := O5.out; omega))
 replace VC := zH (VC.out.outX ho (by have := O0.out; have := O1.out; have := O2.out; have := O3.out; have := O4.out; have := O5.out; simp <;> omega))
 replace RW := zH (RW.out.outX ho (by have := O0.out; have := O1.out; have := O2.out; have := O3.out; have := O4.out; have := O5.out; simp <;> omega))
 replace VA := zH (VA.out.outX ho (by have := O0.out; have := O1.out; have := O2.out; have := O3.out; have := O4.out; have := O5.out; simp <;> omega))
 clear RI
 have O6 : Hid (V3.heap.size <= w4.heap.size) := ho.size
 have RI : Hid (Blk w4 gi 134 #[v4]) := hB
 have KIn : Hid (KcAt w0 (n + 2) v4 r4 /\ SzL r4) := ⟨hkq, KI.out.2.num hn⟩
 clear KI
 have KI := KIn
 clear KIn hn ho hkq hB
 have cc : w4.cell? ⟨w.heap.size + 1, 1, none⟩ = some (.int .i64 0) := VA.out.cell 1
 have cf := VA.out.free 1
 go_wp2_with fail
 clear cc cf
 obtain ⟨V4, hV⟩ : ∃ V, V = w4.setCell ⟨w.heap.size + 1, 1, none⟩ (.int .i64 x4) := ⟨_, rfl⟩
 rw [<- hV]
 have hset : Out [w.heap.size + 1] w4 V4 := by rw [hV]; exact out_set _ _ _
 have hVA : Blk V4 (w.heap.size + 1) 84 #[.int .i64 x3, .int .i64 x4, .slice none 0 0, .slice none 0 0] := by rw [hV]; exact VA.out.set 1 _
 replace HB := zH (below_out HB.out hset (by have := O0.out; have := O1.out; have := O2.out; have := O3.out; have := O4.out; have := O5.out; have := O6.out; omega))
 replace HO := zH (HO.out.aside hset (by have := O0.out; have := O1.out; have := O2.out; have := O3.out; have := O4.out; have := O5.out; have := O6.out; omega))
 replace VC := zH (VC.out.outX hset (by have := O0.out; have := O1.out; have := O2.out; have := O3.out; have := O4.out; have := O5.out; have := O6.out; simp <;> omega))
 replace RW := zH (RW.out.outX hset (by have := O0.out; have := O1.out; have := O2.out; have := O3.out; have := O4.out; have := O5.out; have := O6.out; simp <;> omega))
 replace RI := zH (RI.out.outX hset (by have := O0.out; have := O1.out; have := O2.out; have := O3.out; have := O4.out; have := O5.out; have := O6.out; simp <;> omega))
 clear VA
 have O7 : Hid (w4.heap.size <= V4.heap.size) := hset.size
 have VA : Hid (Blk V4 (w.heap.size + 1) 84 #[.int .i64 x3, .int .i64 x4, .slice none 0 0, .slice none 0 0]) := hVA
 clear hset hVA hV
 refine (rbyts_any w0 V4 gi n v4 r4 HB.out KI.out.1 RI.out (by have := O0.out; have := O1.out; have := O2.out; have := O3.out; have := O4.out; have := O5.out; have := O6.out; have := O7.out; omega) KI.out.2.1 KI.out.2.2).mono ?_
 rintro e w5 ⟨ho, ⟨hn, rfl⟩ | ⟨x5, r5, v5, u5, hn, rfl, hown, hkq, hB⟩⟩
 ·have HF : Hid (Out [g] w w5 /\ oB = none) := by
   refine ⟨HO.out.aside ho (by have := O0.out; have := O1.out; have := O2.out; have := O3.out; have := O4.out; have := O5.out; have := O6.out; have := O7.out; omega), ?_⟩
   rw [<- HP.out]
   unfold ansP ansB; simp only [N2.out, N3.out, N4.out, hn, Option.bind_some, Option.bind_none]
  clear hn ho
  unfold misfit
  go_wp2_with fail
  exact ⟨rfl, HF.out.1, .inl ⟨HF.out.2, rfl⟩⟩
 have N5 : Hid (bytsL r4 = some (x5, r5)) := hn
 replace HB := zH (below_out HB.out ho (by have := O0.out; have := O1.out; have := O2.out; have := O3.out; have := O4.out; have := O5.out; have := O6.out; have := O7.out; omega))
 replace HO := zH (HO.out.aside ho (by have := O0.out; have := O1.out; have := O2.out; have := O3.out; have := O4.out; have := O5.out; have := O6.out; have := O7.out; omega))
 replace VC := zH (VC.out.outX ho (by have := O0.out; have := O1.out; have := O2.out; have := O3.out; have := O4.out; have := O5.out; have := O6.out; have := O7.out; simp <;> omega))
 replace RW := zH (RW.out.outX ho (by have := O0.out; have := O1.out; have := O2.out; have := O3.out; have := O4.out; have := O5.out; have := O6.out; have := O7.out; simp <;> omega))
 replace VA := zH (VA.out.outX ho (by have := O0.out; have := O1.out; have := O2.out; have := O3.out; have := O4.out; have := O5.out; have := O6.out; have := O7.out; simp <;> omega))
 clear RI
 have O8 : Hid (V4.heap.size <= w5.heap.size) := ho.size
 have RI : Hid (Blk w5 gi 134 #[v5]) := hB
 have KIn : Hid (KcAt w0 (n + 2) v5 r5 /\ SzL r5) := ⟨hkq, KI.out.2.byts hn⟩
 clear KI
 have KI := KIn
 clear KIn hn ho hkq hB
 obtain ⟨pa2, pc2, hu2⟩ : ∃ ao cap, u5 = .slice ao x5.length cap := by obtain ⟨ao, cap, h, _⟩ := hown.at; exact ⟨ao, cap, h⟩
 subst hu2
 have BLP : Hid (∀ b, (Value.slice pa2 x5.length pc2).ownBlock = some b -> V4.heap.size <= b /\ b < w5.heap.size) := fun b hb => World.ownsRow.lt hown b hb
 have LP : Hid (OwnT w5 V4.heap.size (.slice pa2 x5.length pc2) x5) := hown
 clear hown
 have cc : w5.cell? ⟨w.heap.size + 1, 2, none⟩ = some (.slice none 0 0) := VA.out.cell 2
 have cf := VA.out.free 2
 go_wp2_with fail
 clear cc cf
 obtain ⟨V5, hV⟩ : ∃ V, V = w5.setCell ⟨w.heap.size + 1, 2, none⟩ (.slice pa2 x5.length pc2) := ⟨_, rfl⟩
 rw [<- hV]
 have hset : Out [w.heap.size + 1] w5 V5 := by rw [hV]; exact out_set _ _ _
 have hVA : Blk V5 (w.heap.size + 1) 84 #[.int .i64 x3, .int .i64 x4, .slice pa2 x5.length pc2, .slice none 0 0] := by rw [hV]; exact VA.out.set 2 _
 replace HB := zH (below_out HB.out hset (by have := O0.out; have := O1.out; have := O2.out; have := O3.out; have := O4.out; have := O5.out; have := O6.out; have := O7.out; have := O8.out; omega))
 replace HO := zH (HO.out.aside hset (by have := O0.out; have := O1.out; have := O2.out; have := O3.out; have := O4.out; have := O5.out; have := O6.out; have := O7.out; have := O8.out; omega))
 replace VC := zH (VC.out.outX hset (by have := O0.out; have := O1.out; have := O2.out; have := O3.out; have := O4.out; have := O5.out; have := O6.out; have := O7.out; have := O8.out; simp <;> omega))
 replace RW := zH (RW.out.outX hset (by have := O0.out; have := O1.out; have := O2.out; have := O3.out; have := O4.out; have := O5.out; have := O6.out; have := O7.out; have := O8.out; simp <;> omega))
 replace RI := zH (RI.out.outX hset (by have := O0.out; have := O1.out; have := O2.out; have := O3.out; have := O4.out; have := O5.out; have := O6.out; have := O7.out; have := O8.out; simp <;> omega))
 replace LP := zH (hset.row (fun b hb => by have := BLP.out b hb; have := O0.out; have := O1.out; have := O2.out; have := O3.out; have := O4.out; have := O5.out; have := O6.out; have := O7.out; have := O8.out; simp <;> omega) LP.out)
 clear VA
 have O9 : Hid (w5.heap.size <= V5.heap.size) := hset.size
 have VA : Hid (Blk V5 (w.heap.size + 1) 84 #[.int .i64 x3, .int .i64 x4, .slice pa2 x5.length pc2, .slice none 0 0]) := hVA
 clear hset hVA hV
 refine (rbyts_any w0 V5 gi n v5 r5 HB.out KI.out.1 RI.out (by have := O0.out; have := O1.out; have := O2.out; have := O3.out; have := O4.out; have := O5.out; have := O6.out; have := O7.out; have := O8.out; have := O9.out; omega) KI.out.2.1 KI.out.2.2).mono ?_
 rintro e w6 ⟨ho, ⟨hn, rfl⟩ | ⟨x6, r6, v6, u6, hn, rfl, hown, hkq, hB⟩⟩
 ·have HF : Hid (Out [g] w w6 /\ oB = none) := by
   refine ⟨HO.out.aside ho (by have := O0.out; have := O1.out; have := O2.out; have := O3.out; have := O4.out; have := O5.out; have := O6.out; have := O7.out; have := O8.out; have := O9.out; omega), ?_⟩
   rw [<- HP.out]
   unfold ansP ansB; simp only [N2.out, N3.out, N4.out, N5.out, hn, Option.bind_some, Option.bind_none]
  clear hn ho
  unfold misfit
  go_wp2_with fail
  exact ⟨rfl, HF.out.1, .inl ⟨HF.out.2, rfl⟩⟩
 have N6 : Hid (bytsL r5 = some (x6, r6)) := hn
 replace HB := zH (below_out HB.out ho (by have := O0.out; have := O1.out; have := O2.out; have := O3.out; have := O4.out; have := O5.out; have := O6.out; have := O7.out; have := O8.out; have := O9.out; omega))
 replace HO := zH (HO.out.aside ho (by have := O0.out; have := O1.out; have := O2.out; have := O3.out; have := O4.out; have := O5.out; have := O6.out; have := O7.out; have := O8.out; have := O9.out; omega))
 replace VC := zH (VC.out.outX ho (by have := O0.out; have := O1.out; have := O2.out; have := O3.out; have := O4.out; have := O5.out; have := O6.out; have := O7.out; have := O8.out; have := O9.out; simp <;> omega))
 replace RW := zH (RW.out.outX ho (by have := O0.out; have := O1.out; have := O2.out; have := O3.out; have := O4.out; have := O5.out; have := O6.out; have := O7.out; have := O8.out; have := O9.out; simp <;> omega))
 replace LP := zH (ho.row (fun b hb => by have := BLP.out b hb; have := O0.out; have := O1.out; have := O2.out; have := O3.out; have := O4.out; have := O5.out; have := O6.out; have := O7.out; have := O8.out; have := O9.out; simp <;> omega) LP.out)
 replace VA := zH (VA.out.outX ho (by have := O0.out; have := O1.out; have := O2.out; have := O3.out; have := O4.out; have := O5.out; have := O6.out; have := O7.out; have := O8.out; have := O9.out; simp <;> omega))
 clear RI
 have O10 : Hid (V5.heap.size <= w6.heap.size) := ho.size
 have RI : Hid (Blk w6 gi 134 #[v6]) := hB
 have KIn : Hid (KcAt w0 (n + 2) v6 r6 /\ SzL r6) := ⟨hkq, KI.out.2.byts hn⟩
 clear KI
 have KI := KIn
 clear KIn hn ho hkq hB
 obtain ⟨pa3, pc3, hu3⟩ : ∃ ao cap, u6 = .slice ao x6.length cap := by obtain ⟨ao, cap, h, _⟩ := hown.at; exact ⟨ao, cap, h⟩
 subst hu3
 have BLE : Hid (∀ b, (Value.slice pa3 x6.length pc3).ownBlock = some b -> V5.heap.size <= b /\ b < w6.heap.size) := fun b hb => World.ownsRow.lt hown b hb
 have LE : Hid (OwnT w6 V5.heap.size (.slice pa3 x6.length pc3) x6) := hown
 clear hown
 have cc : w6.cell? ⟨w.heap.size + 1, 3, none⟩ = some (.slice none 0 0) := VA.out.cell 3
 have cf := VA.out.free 3
 go_wp2_with fail
 clear cc cf
 obtain ⟨V6, hV⟩ : ∃ V, V = w6.setCell ⟨w.heap.size + 1, 3, none⟩ (.slice pa3 x6.length pc3) := ⟨_, rfl⟩
 rw [<- hV]
 have hset : Out [w.heap.size + 1] w6 V6 := by rw [hV]; exact out_set _ _ _
 have hVA : Blk V6 (w.heap.size + 1) 84 #[.int .i64 x3, .int .i64 x4, .slice pa2 x5.length pc2, .slice pa3 x6.length pc3] := by rw [hV]; exact VA.out.set 3 _
 replace HB := zH (below_out HB.out hset (by have := O0.out; have := O1.out; have := O2.out; have := O3.out; have := O4.out; have := O5.out; have := O6.out; have := O7.out; have := O8.out; have := O9.out; have := O10.out; omega))
 replace HO := zH (HO.out.aside hset (by have := O0.out; have := O1.out; have := O2.out; have := O3.out; have := O4.out; have := O5.out; have := O6.out; have := O7.out; have := O8.out; have := O9.out; have := O10.out; omega))
 replace VC := zH (VC.out.outX hset (by have := O0.out; have := O1.out; have := O2.out; have := O3.out; have := O4.out; have := O5.out; have := O6.out; have := O7.out; have := O8.out; have := O9.out; have := O10.out; simp <;> omega))
 replace RW := zH (RW.out.outX hset (by have := O0.out; have := O1.out; have := O2.out; have := O3.out; have := O4.out; have := O5.out; have := O6.out; have := O7.out; have := O8.out; have := O9.out; have := O10.out; simp <;> omega))
 replace LP := zH (hset.row (fun b hb => by have := BLP.out b hb; have := O0.out; have := O1.out; have := O2.out; have := O3.out; have := O4.out; have := O5.out; have := O6.out; have := O7.out; have := O8.out; have := O9.out; have := O10.out; simp <;> omega) LP.out)
 replace RI := zH (RI.out.outX hset (by have := O0.out; have := O1.out; have := O2.out; have := O3.out; have := O4.out; have := O5.out; have := O6.out; have := O7.out; have := O8.out; have := O9.out; have := O10.out; simp <;> omega))
 replace LE := zH (hset.row (fun b hb => by have := BLE.out b hb; have := O0.out; have := O1.out; have := O2.out; have := O3.out; have := O4.out; have := O5.out; have := O6.out; have := O7.out; have := O8.out; have := O9.out; have := O10.out; simp <;> omega) LE.out)
 clear VA
 have O11 : Hid (w6.heap.size <= V6.heap.size) := hset.size
 have VA : Hid (Blk V6 (w.heap.size + 1) 84 #[.int .i64 x3, .int .i64 x4, .slice pa2 x5.length pc2, .slice pa3 x6.length pc3]) := hVA
 clear hset hVA hV
 obtain ⟨ea, ec, he⟩ := KI.out.1.shape
 have hRE : Blk V6 gi 134 #[.slice ea r6.length ec] := by rw [<- he]; exact RI.out
 refine (end_any V6 gi r6.length ec ea r6 rfl hRE).mono ?_
 rintro e w7 ⟨hb, ⟨hn, rfl⟩ | ⟨hnil, hn, rfl⟩⟩
 ·have HF : Hid (Out [g] w w7 /\ oB = none) := by
   refine ⟨HO.out.trans (Out.of_below hb), ?_⟩
   rw [<- HP.out]
   unfold ansP ansB; simp only [N2.out, N3.out, N4.out, N5.out, N6.out, hn, Option.bind_some, Option.bind_none]
  clear hn hb
  unfold misfit
  go_wp2_with fail
  exact ⟨rfl, HF.out.1, .inl ⟨HF.out.2, rfl⟩⟩
 have N7 : Hid (endP r6 = some ()) := hn
 replace HB := zH (HB.out.trans (hb.mono HB.out.size))
 replace HO := zH (HO.out.trans (Out.of_below hb))
 replace VC := zH (VC.out.on hb)
 replace RW := zH (RW.out.on hb)
 replace LP := zH (OwnT.stays LP.out hb)
 replace RI := zH (RI.out.on hb)
 replace LE := zH (OwnT.stays LE.out hb)
 replace VA := zH (VA.out.on hb)
 have O12 : Hid (V6.heap.size <= w7.heap.size) := hb.size
 clear hn hb hnil hRE he
 have HF : Hid (oB = some (⟨x3, x4, x5, x6⟩, r2)) := by
  show oB = _
  rw [<- HP.out]
  unfold ansP ansB; simp only [N2.out, N3.out, N4.out, N5.out, N6.out, N7.out, Option.bind_some, Option.bind_none]
 have a0 : w7.cell? ⟨w.heap.size + 1, 0, none⟩ = some (.int .i64 x3) := VA.out.cell 0
 have b0 : w7.cell? ⟨w.heap.size, 0, none⟩ = some (.int .i64 0) := VC.out.cell 0
 have a1 : w7.cell? ⟨w.heap.size + 1, 1, none⟩ = some (.int .i64 x4) := VA.out.cell 1
 have b1 : w7.cell? ⟨w.heap.size, 1, none⟩ = some (.int .i64 0) := VC.out.cell 1
 have a2 : w7.cell? ⟨w.heap.size + 1, 2, none⟩ = some (.slice pa2 x5.length pc2) := VA.out.cell 2
 have b2 : w7.cell? ⟨w.heap.size, 2, none⟩ = some (.slice none 0 0) := VC.out.cell 2
 have a3 : w7.cell? ⟨w.heap.size + 1, 3, none⟩ = some (.slice pa3 x6.length pc3) := VA.out.cell 3
 have b3 : w7.cell? ⟨w.heap.size, 3, none⟩ = some (.slice none 0 0) := VC.out.cell 3
 have fb := fun j => VC.out.free j
 go_wp2_with fail
 generalize hV8 : World.setCell _ { block := w.heap.size, off := 3 } _ = V8
 have FIN : Out [w.heap.size] w7 V8 /\ Blk V8 w.heap.size 84 #[.int .i64 x3, .int .i64 x4, .slice pa2 x5.length pc2, .slice pa3 x6.length pc3] := by
  rw [<- hV8]
  refine ⟨?_, ?_⟩
  ·iterate 4 refine Out.setCell ?_ _ _ (by simp)
   exact Out.refl _ _
  ·have h0 := VC.out
   have h1 : Blk _ w.heap.size 84 #[.int .i64 x3, .int .i64 0, .slice none 0 0, .slice none 0 0] := h0.set 0 (.int .i64 x3)
   have h2 : Blk _ w.heap.size 84 #[.int .i64 x3, .int .i64 x4, .slice none 0 0, .slice none 0 0] := h1.set 1 (.int .i64 x4)
   have h3 : Blk _ w.heap.size 84 #[.int .i64 x3, .int .i64 x4, .slice pa2 x5.length pc2, .slice none 0 0] := h2.set 2 (.slice pa2 x5.length pc2)
   have h4 : Blk _ w.heap.size 84 #[.int .i64 x3, .int .i64 x4, .slice pa2 x5.length pc2, .slice pa3 x6.length pc3] := h3.set 3 (.slice pa3 x6.length pc3)
   exact h4
 clear hV8 fb a0 b0 a1 b1 a2 b2 a3 b3
 have HE8 : AnPost w0 w g n oB (.returned (.agg #[.int .i64 x3, .int .i64 x4, .slice pa2 x5.length pc2, .slice pa3 x6.length pc3])) V8 := by
  refine ⟨HO.out.aside FIN.1 (by have := O0.out; have := O1.out; have := O2.out; have := O3.out; have := O4.out; have := O5.out; have := O6.out; have := O7.out; have := O8.out; have := O9.out; have := O10.out; have := O11.out; have := O12.out; omega), .inr ⟨⟨x3, x4, x5, x6⟩, r2, v2, .agg #[.int .i64 x3, .int .i64 x4, .slice pa2 x5.length pc2, .slice pa3 x6.length pc3], HF.out, rfl, ?_, KR.out, RW.out.outX FIN.1 (by have := O0.out; have := O1.out; have := O2.out; have := O3.out; have := O4.out; have := O5.out; have := O6.out; have := O7.out; have := O8.out; have := O9.out; have := O10.out; have := O11.out; have := O12.out; simp <;> omega)⟩⟩
  refine ⟨_, _, rfl, OwnT.base (FIN.1.row (fun b hb => by have := BLP.out b hb; have := O0.out; have := O1.out; have := O2.out; have := O3.out; have := O4.out; have := O5.out; have := O6.out; have := O7.out; have := O8.out; have := O9.out; have := O10.out; have := O11.out; have := O12.out; simp <;> omega) LP.out) (by have := O0.out; have := O1.out; have := O2.out; have := O3.out; have := O4.out; have := O5.out; have := O6.out; have := O7.out; have := O8.out; have := O9.out; have := O10.out; have := O11.out; have := O12.out; omega), OwnT.base (FIN.1.row (fun b hb => by have := BLE.out b hb; have := O0.out; have := O1.out; have := O2.out; have := O3.out; have := O4.out; have := O5.out; have := O6.out; have := O7.out; have := O8.out; have := O9.out; have := O10.out; have := O11.out; have := O12.out; simp <;> omega) LE.out) (by have := O0.out; have := O1.out; have := O2.out; have := O3.out; have := O4.out; have := O5.out; have := O6.out; have := O7.out; have := O8.out; have := O9.out; have := O10.out; have := O11.out; have := O12.out; omega), ap_of ?_, ap_of ?_⟩
  ·intro b h1 h2; have := BLP.out b h1; have := BLE.out b h2; have := O0.out; have := O1.out; have := O2.out; have := O3.out; have := O4.out; have := O5.out; have := O6.out; have := O7.out; have := O8.out; have := O9.out; have := O10.out; have := O11.out; have := O12.out; omega
  ·intro b h1 h2; have := BLE.out b h1; have := BLP.out b h2; have := O0.out; have := O1.out; have := O2.out; have := O3.out; have := O4.out; have := O5.out; have := O6.out; have := O7.out; have := O8.out; have := O9.out; have := O10.out; have := O11.out; have := O12.out; omega
 have q0 : V8.cell? ⟨w.heap.size, 0, none⟩ = some (.int .i64 x3) := FIN.2.cell 0
 have q1 : V8.cell? ⟨w.heap.size, 1, none⟩ = some (.int .i64 x4) := FIN.2.cell 1
 have q2 : V8.cell? ⟨w.heap.size, 2, none⟩ = some (.slice pa2 x5.length pc2) := FIN.2.cell 2
 have q3 : V8.cell? ⟨w.heap.size, 3, none⟩ = some (.slice pa3 x6.length pc3) := FIN.2.cell 3
 refine bodyPost_ret (v := .agg #[.int .i64 x3, .int .i64 x4, .slice pa2 x5.length pc2, .slice pa3 x6.length pc3]) (by simp [results, Try.results120, go_sem, q0, q1, q2, q3]) rfl HE8
def OwnAS (w : World) (base : Nat) (v : Value) (l : List Aw) : Prop := ∃ fp, OwnS awKd w base v l fp
theorem OwnAS.shape {w : World} {base : Nat} {v : Value} {l : List Aw} (h : OwnAS w base v l) : ∃ ao cap, v = .slice ao l.length cap := by
 obtain ⟨fp, h⟩ := h
 obtain ⟨ao, cap, h, _⟩ := h.shape
 exact ⟨ao, cap, h⟩
theorem OwnAS.base {w : World} {b b' : Nat} {v : Value} {l : List Aw} (h : OwnAS w b v l) (hb : b' <= b) : OwnAS w b' v l := by
 obtain ⟨fp, h⟩ := h
 exact ⟨fp, h.base hb⟩
theorem OwnAS.stays {w w' : World} {b : Nat} {v : Value} {l : List Aw} (h : OwnAS w b v l) (hb : Below w.heap.size w w') : OwnAS w' b v l := by
 obtain ⟨fp, h⟩ := h
 exact ⟨fp, h.stays hb⟩
theorem OwnAS.outX {w w' : World} {b : Nat} {v : Value} {l : List Aw} {fq : List Nat} (h : OwnAS w b v l) (ho : Out fq w w') (hn : ∀ x ∈ fq, x < b ∨ w.heap.size <= x) : OwnAS w' b v l := by
 obtain ⟨fp, h⟩ := h
 exact ⟨fp, h.out ho fun x hx hq => by have := h.lt x hx; rcases hn x hq with h1 | h1 <;> omega⟩
theorem Out.low {fp : List Nat} {a b c : World} {B : Nat} (h : Out fp a b) (hb : Below B b c) (hB : a.heap.size <= B) : Out fp a c :=
 ⟨hb.os.trans h.1, hb.tape.trans h.2.1, hb.output.trans h.2.2.1, Nat.le_trans h.2.2.2.1 hb.size, fun k hk hn => (hb.block k (Nat.lt_of_lt_of_le hk hB)).trans (h.2.2.2.2 k hk hn)⟩
theorem news_aw (w : World) (c : Aw) (p e : Value) : ∀ j u, (awV c p e).cells.toList[j]? = some u -> (w.alloc (.cells #[.int .i64 c.status, .int .i64 c.why, p, e] 84)).cell? ((⟨w.heap.size, 0, none⟩ : Addr).add j) = some u := by
 intro j u hj
 rw [Addr.add_lit, Nat.zero_add, World.cell?_alloc_mark w _ 84 _ j]
 simpa [awV, Value.cells] using hj
theorem wpList_append_aw {w : World} {ops : Array Oper} {rest : List Oper} {o : Oper} {a : Act} {Q : Exit -> Act -> World -> Prop} (hgd : o.guard = none) (p q : Operand) (ho : o.op = .call { callee := .builtin .append, args := #[p, q], argTypes := #[42, 42] })
  (base : Nat) (v : Value) (l : List Aw) (c : Aw) (pv ev : Value) (hp : a.eval p = v) (H : Nat) (hq : a.eval q = .slice (some ⟨H, 0, none⟩) 1 1) (hH : w.heap.size = H) (hO : ∃ fp, OwnS awKd w base v l fp /\ ∀ x ∈ fpAw (awV c pv ev), x ∉ fp) (b2 : Nat) (hu : OwnAw w b2 (awV c pv ev) c) (hb2 : base <= b2) (hbase : base <= w.heap.size) (hl : l.length <= 100000000)
  (h : ∀ g cap w', OwnAS w' base (.slice (some ⟨g, 0, none⟩) (l ++ [c]).length cap) (l ++ [c]) -> Below base w w' -> wpList Try.prog ops Q rest (a.put o.dst (.slice (some ⟨g, 0, none⟩) (l.length + 1) cap)) w') :
  wpList Try.prog ops Q (o :: rest) a (w.alloc (.cells #[.int .i64 c.status, .int .i64 c.why, pv, ev] 84)) := by
 subst hH
 obtain ⟨fp, hO, hd⟩ := hO
 replace hu := OwnAw.base hu hb2
 have hlt := hO.lt
 obtain ⟨vs, hvl, hro, he, rfl, hn⟩ := hO
 obtain ⟨i0, hi, hz0, hz1, hz2⟩ := info_parts infoAns
 have hb1 : Below w.heap.size w (w.alloc (.cells #[.int .i64 c.status, .int .i64 c.why, pv, ev] 84)) := (Below.refl _ _).alloc (Nat.le_refl _) _
 have hsz := size_alloc w (.cells #[.int .i64 c.status, .int .i64 c.why, pv, ev] 84)
 refine wpList_append_lies _ hgd p q 42 ho base 84 i0 (.agg #[.int .i64 0, .int .i64 0, .slice none 0 0, .slice none 0 0]) 4 64 Try.underlying42 hi hz0 hz1 hz2 rfl (by decide) v l.length (cellsV vs) hp (own_kept hro hb1) ⟨w.heap.size, 0, none⟩ 1 1 (awV c pv ev).cells.toList hq rfl (news_aw w c pv ev) (awKd.size (OwnAw.stays hu hb1)).2 (by decide) (by unfold maxLen; omega) (by omega) (by omega) _ rfl ?_
 intro g cap w' hown hgrow hg hlt2
 obtain ⟨fp', hS, -⟩ := OwnS.snoc (k := awKd) (fp := []) (c := c) (u := awV c pv ev) hvl (own_kept hro hb1) (fun j a b => awKd.same (he j a b) fun y hy => hb1.block y (awKd.lt (he j a b) y hy).2) hn (OwnAw.stays hu hb1) hd hown hgrow hg
 refine h g cap w' ⟨fp', hS⟩ ((hb1.mono hbase).grown hgrow (by rw [hsz]; omega) (fun b hb => (hlt b (List.mem_append_left _ (Option.mem_toList.2 hb))).1))
def AnsPost (w0 W : World) (g n : Nat) (o : Option (List Aw × List (It (n + 4)))) (e : Ending) (W' : World) : Prop := Out [g] W W' /\
 ((o = none /\ e = misfit) ∨ ∃ (l : List Aw) (r : List (It (n + 4))) (v' u : Value), o = some (l, r) /\ e = .returned u /\ OwnAS W' W.heap.size u l /\ KcAt w0 (n + 4) v' r /\ Blk W' g 134 #[v'])
theorem anssP_step {k : Nat} {y : It (k + 3)} {q : List (It (k + 3))} {x : Aw} (h : ansP (y :: q) = some (x, q)) : anssP (y :: q) = (anssP q).map (x :: ·) := by
 show (match ansP (y :: q) with
  | none => none
  | some (v, _) => match anssP q with
   | none => none
   | some l => some (v :: l)) = _
 rw [h]
 cases anssP q <;> rfl
theorem anssP_none {k : Nat} {y : It (k + 3)} {q : List (It (k + 3))} (h : ansP (y :: q) = none) : anssP (y :: q) = none := by
 show (match ansP (y :: q) with
  | none => none
  | some (v, _) => match anssP q with
   | none => none
   | some l => some (v :: l)) = _
 rw [h]
theorem ans_tail {k : Nat} {y : It (k + 3)} {q q' : List (It (k + 3))} {x : Aw} (h : ansP (y :: q) = some (x, q')) : ∃ y', y :: q = y' :: q' := by
 obtain ⟨y', h1, _⟩ := ans_some h
 exact ⟨y', h1⟩
theorem SzL.anss {k : Nat} {ks r : List (It (k + 4))} {l : List Aw} (h : SzL ks) (hn : anssL ks = some (l, r)) : SzL r := by
 obtain ⟨y, h1, _⟩ := anssL_some hn
 rw [h1] at h
 exact h.tail
theorem ranss_any (w0 W : World) (g n : Nat) (v : Value) (ks : List (It (n + 4))) (hw : Below w0.heap.size w0 W) (hk : KcAt w0 (n + 4) v ks) (hr : Blk W g 134 #[v]) (hg : w0.heap.size <= g) (hz : SzL ks) :
  Calls Try.prog 119 #[.pointer (some ⟨g, 0, none⟩), .func (.func 120) #[] #[]] W fun e W' => AnsPost w0 W g n (anssL ks) e W' := by
 have E := list_any w0 W g (n + 3) v ks hw hk hr hg hz.1
 have HP : Hid (anssL ks = match lstP ks with
  | none => none
  | some (i, r) => match anssP i with
   | none => none
   | some l => some (l, r)) := rfl
 generalize anssL ks = oL at HP |-
 have HW : Hid (Below w0.heap.size w0 W /\ w0.heap.size <= g /\ SzL ks /\ g < W.heap.size) := ⟨hw, hg, hz, hr.lt⟩
 clear hw hk hr hg hz
 go_enter Try.func119, Try.ntmps119
 go_wp2_with fail
 refine E.mono ?_
 rintro e w2 ⟨ho, ⟨hn, rfl⟩ | ⟨i, r, v', vi, gi, hn, rfl, hgi, hki, hkr, hB, hBi⟩⟩
 ·have HE : Hid (Out [g] W w2 /\ oL = none) := ⟨ho, by rw [HP.out, hn]⟩
  clear ho hn E
  unfold misfit
  go_wp2_with fail
  exact ⟨rfl, HE.out.1, .inl ⟨HE.out.2, rfl⟩⟩
 have hsz : SzL i := (HW.out.2.2.1.lst hn).1
 have HE : Hid (oL = match anssP i with
   | none => none
   | some l => some (l, r)) := by show oL = _; rw [HP.out, hn]
 have HI : Hid (W.heap.size <= gi /\ gi < w2.heap.size /\ g < W.heap.size /\ W.heap.size <= w2.heap.size /\ w0.heap.size <= g /\ w0.heap.size <= W.heap.size /\ KcAt w0 (n + 4) v' r /\ i.length <= 1000000) := ⟨hgi, hBi.lt, HW.out.2.2.2, ho.size, HW.out.2.1, HW.out.1.size, hkr, hsz.1⟩
 have HS : Hid (OwnAS w2 w2.heap.size (.slice none 0 0) [] /\ KcAt w0 (n + 3) vi i /\ Blk w2 gi 134 #[vi] /\ Blk w2 g 134 #[v'] /\ anssP i = (anssP i).map (([] : List Aw) ++ ·) /\ Out [g] W w2 /\ Below w0.heap.size w0 w2 /\ w2.heap.size <= w2.heap.size /\ ([] : List Aw).length + i.length = i.length /\ SzL i) := ⟨⟨[], OwnS.nil awKd w2 _⟩, hki, hBi, hB, by simp, ho, below_out HW.out.1 ho HW.out.2.1, Nat.le_refl _, by simp, hsz⟩
 clear ho hn hgi hki hkr hB hBi E hsz HP HW
 go_wp2_with fail
 go_loopw [5] (fun lv wr => Hid (∃ (ps : List Aw) (q : List (It (n + 3))) (vr : Value), OwnAS wr w2.heap.size lv ps /\ KcAt w0 (n + 3) vr q /\ Blk wr gi 134 #[vr] /\ Blk wr g 134 #[v'] /\ anssP i = (anssP q).map (ps ++ ·) /\ Out [g] W wr /\ Below w0.heap.size w0 wr /\ w2.heap.size <= wr.heap.size /\ ps.length + q.length = i.length /\ SzL q)) (fun lv _ => i.length - lenV lv)
 case atStart => exact ⟨[], i, vi, HS.out⟩
 case round =>
  clear HS
  obtain ⟨ps, q, vr, h1, h2, h3, h4, h5, h6, h7, h8, h9, h10⟩ := hrel
  obtain ⟨la, lc, hlv⟩ := h1.shape
  obtain ⟨qa, qc, hvr⟩ := h2.shape
  subst hvr
  cases q with
  | nil =>
   have HF : Hid (AnsPost w0 W g n oL (.returned u5) wr) := by
    have e : anssP i = some ps := by rw [h5]; show Option.map (ps ++ ·) (some []) = _; simp
    refine ⟨h6, .inr ⟨ps, r, v', u5, ?_, rfl, h1.base HI.out.2.2.2.1, HI.out.2.2.2.2.2.2.1, h4⟩⟩
    rw [HE.out, e]
   have c1 : wr.cell? ⟨gi, 0, none⟩ = some (.slice qa 0 qc) := h3.cell 0
   clear h1 h2 h3 h4 h5 h6 h7 h8 h9 h10 hlv
   go_wp2_with fail
   go_ret
   exact HF.out
  | cons y q =>
   have E3 := answer_any w0 wr gi n (.slice qa (y :: q).length qc) (y :: q) h7 h2 h3 (by have := HI.out; omega) h10
   rw [List.length_cons] at h3 h9
   have c1 : wr.cell? ⟨gi, 0, none⟩ = some (.slice qa (q.length + 1) qc) := h3.cell 0
   have hql : ps.length + (q.length + 1) <= 1000000 := by have := HI.out.2.2.2.2.2.2.2; omega
   have HK : Hid (OwnAS wr w2.heap.size u5 ps /\ Blk wr g 134 #[v'] /\ anssP i = (anssP (y :: q)).map (ps ++ ·) /\ Out [g] W wr /\ Below w0.heap.size w0 wr /\ w2.heap.size <= wr.heap.size /\ ps.length + (q.length + 1) = i.length /\ SzL (y :: q)) := ⟨h1, h4, h5, h6, h7, h8, h9, h10⟩
   obtain ⟨m, hm⟩ := zE (q.length)
   rw [hm] at c1
   have hm0 : (0 : Int) < (m : Int) + 1 := by omega
   have HM : Hid (q.length = m /\ ps.length + (m + 1) <= 1000000) := ⟨hm, by rw [<- hm]; exact hql⟩
   clear h1 h2 h3 h4 h5 h6 h7 h8 h9 h10 hql hm
   obtain ⟨pl, hpl⟩ := zE (ps.length)
   rw [hpl] at hlv
   have HPL : Hid (ps.length = pl) := hpl
   clear hpl
   subst hlv
   go_wp2_with fail
   clear c1
   refine E3.mono ?_
   rintro e w3 ⟨ho3, ⟨hn3, rfl⟩ | ⟨x, q', vq, ux, hn3, rfl, hox, hkq, hBq⟩⟩
   ·have HF : Hid (Out [g] W w3 /\ oL = none) := by
     refine ⟨HK.out.2.2.2.1.aside ho3 HI.out.1, ?_⟩
     rw [HE.out, HK.out.2.2.1, anssP_none hn3]
     rfl
    clear ho3 hn3 E3
    unfold misfit
    go_wp2_with fail
    exact ⟨rfl, HF.out.1, .inl ⟨HF.out.2, rfl⟩⟩
   ·have hq' : q' = q := by
     obtain ⟨y', hh⟩ := ans_tail hn3
     exact (List.cons.inj hh).2.symm
    subst hq'
    have hx3 : ansP (y :: q') = some (x, q') := hn3
    obtain ⟨p1, q1, e1, r1, hux⟩ := AwAt.shape hox.at
    subst hux
    obtain ⟨n1, hn1⟩ := zE (x.path.length)
    obtain ⟨n2, hn2⟩ := zE (x.lst.length)
    rw [hn1, hn2] at hox |-
    have hOw : ∃ fp, OwnS awKd w3 w2.heap.size (.slice la pl lc) ps fp /\ ∀ z ∈ fpAw (awV x (.slice p1 n1 q1) (.slice e1 n2 r1)), z ∉ fp := by
     obtain ⟨fp0, hf0⟩ := HK.out.1
     refine ⟨fp0, hf0.out ho3 (fun b hb hq => by have := hf0.lt b hb; have := HI.out; simp at hq; omega), fun z hz hzf => ?_⟩
     have h5 := (fpAw_lt hox z hz).1
     have := (hf0.lt z hzf).2
     omega
    have H4 : Hid ((∃ fp, OwnS awKd w3 w2.heap.size (.slice la pl lc) ps fp /\ ∀ z ∈ fpAw (awV x (.slice p1 n1 q1) (.slice e1 n2 r1)), z ∉ fp) /\ OwnAw w3 wr.heap.size (awV x (.slice p1 n1 q1) (.slice e1 n2 r1)) x /\ KcAt w0 (n + 3) vq q' /\ Blk w3 gi 134 #[vq] /\ Blk w3 g 134 #[v'] /\ anssP i = (anssP q').map ((ps ++ [x]) ++ ·) /\ Out [g] W w3 /\ Below w0.heap.size w0 w3 /\ w2.heap.size <= w3.heap.size /\ SzL q') := by
     refine ⟨hOw, hox, hkq, hBq, HK.out.2.1.outX ho3 (by have := HI.out; simp; omega), ?_, HK.out.2.2.2.1.aside ho3 HI.out.1, below_out HK.out.2.2.2.2.1 ho3 (by have := HI.out; omega), Nat.le_trans HK.out.2.2.2.2.2.1 ho3.size, HK.out.2.2.2.2.2.2.2.tail⟩
     rw [HK.out.2.2.1, anssP_step hx3]
     cases anssP q' with
     | none => rfl
     | some l => simp
    have HLQ : Hid (ps.length + (q'.length + 1) = i.length /\ q'.length = m /\ ps.length + (m + 1) <= 1000000 /\ w2.heap.size <= wr.heap.size) := ⟨HK.out.2.2.2.2.2.2.1, HM.out.1, HM.out.2, HK.out.2.2.2.2.2.1⟩
    clear ho3 hn3 hkq hBq hx3 E3 HK HM hox hOw hn1 hn2
    unfold awV
    go_wp2_with (at_builtin; refine wpList_append_aw rfl _ _ rfl w2.heap.size (.slice la pl lc) ps x (.slice p1 n1 q1) (.slice e1 n2 r1) rfl w3.heap.size rfl rfl H4.out.1 wr.heap.size H4.out.2.1 HLQ.out.2.2.2 H4.out.2.2.2.2.2.2.2.2.1 (by have := HLQ.out; omega) ?_)
    intro g9 cap9 w9 ho9 hb9
    have ho9x : OwnAS w9 w2.heap.size (.slice (some ⟨g9, 0, none⟩) (pl + 1) cap9) (ps ++ [x]) := by
     first | (rw [HPL.out] at ho9; exact ho9) | (rw [List.length_append, HPL.out] at ho9; exact ho9)
    have H9 : Hid (OwnAS w9 w2.heap.size (.slice (some ⟨g9, 0, none⟩) (pl + 1) cap9) (ps ++ [x]) /\ KcAt w0 (n + 3) vq q' /\ Blk w9 gi 134 #[vq] /\ Blk w9 g 134 #[v'] /\ anssP i = (anssP q').map ((ps ++ [x]) ++ ·) /\ Out [g] W w9 /\ Below w0.heap.size w0 w9 /\ w2.heap.size <= w9.heap.size /\ (ps ++ [x]).length + q'.length = i.length /\ SzL q') := by
     have hlow : ∀ b, b < w2.heap.size -> w9.heap[b]? = w3.heap[b]? := fun b hb => hb9.block b hb
     have hsz9 := hb9.size
     have hBk : ∀ {b : Nat} {vs : Array Value}, b < w2.heap.size -> Blk w3 b 134 vs -> Blk w9 b 134 vs := fun hb h => (hlow _ hb).trans h
     refine ⟨ho9x, H4.out.2.2.1, hBk HI.out.2.1 H4.out.2.2.2.1, hBk (by have := HI.out; omega) H4.out.2.2.2.2.1, H4.out.2.2.2.2.2.1, H4.out.2.2.2.2.2.2.1.low hb9 HI.out.2.2.2.1, H4.out.2.2.2.2.2.2.2.1.trans (hb9.mono (by have := HI.out; omega)), by have := H4.out.2.2.2.2.2.2.2.2.1; omega, by have := HLQ.out; simp only [List.length_append, List.length_singleton]; omega, H4.out.2.2.2.2.2.2.2.2.2⟩
    have e9 : ps.length + 1 = pl + 1 := by rw [HPL.out]
    try rw [e9]
    clear ho9 ho9x hb9 H4 e9
    go_wp2_with fail
    exact ⟨⟨ps ++ [x], q', vq, H9.out⟩, by show i.length - (pl + 1) < i.length - pl; have := HLQ.out; have := HPL.out; omega⟩
end Go.Proofs.Ytbiiihjohbnodaa
