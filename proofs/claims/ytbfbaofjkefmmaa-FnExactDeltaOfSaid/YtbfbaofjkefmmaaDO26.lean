/-
  Texts of the proof, one behind the other: SvM, SvG.
-/
import Derived.Test.YtbfbaofjkefmmaaDO9
import Derived.Test.YtbfbaofjkefmmaaDO15

/-
  The laws' marks over rows of lists of what was called back: markCrlS, heldCrlS.
-/
namespace Go.Proofs.Ytbfbaofjkefmmaa
open Go.RowKit
set_option linter.unusedVariables false
set_option linter.unusedSimpArgs false

/-- The marks of one list, from k on. -/
def mkE (k : Nat) (c : Cl) : Cl := ⟨⟨(mt k).toArray⟩, ((k + 1 : Nat) : Int), ((k + 2 : Nat) : Int), ((k + 3 : Nat) : Int), ((k + 4 : Nat) : Int), marksR (k + 5) c.revs.length, ⟨(mt (k + 5 + 2 * c.revs.length)).toArray⟩⟩
def szE (c : Cl) : Nat := 6 + 2 * c.revs.length
def mkS : Nat → List Cl → List Cl
  | _, [] => []
  | k, c :: l => mkE k c :: mkS (k + szE c) l
def posS (k : Nat) (l : List Cl) (j : Nat) : Nat := k + ((l.map szE).take j).sum
theorem mkS_len : ∀ (k : Nat) (l : List Cl), (mkS k l).length = l.length
  | _, [] => rfl
  | k, c :: l => by simp [mkS, mkS_len]
theorem mkS_get : ∀ (l : List Cl) (k j : Nat) (h : j < l.length) (h' : j < (mkS k l).length), (mkS k l)[j] = mkE (posS k l j) l[j]
  | c :: l, k, 0, h, h' => by simp [mkS, posS]
  | c :: l, k, j + 1, h, h' => by
    have := mkS_get l (k + szE c) j (by simpa using h) (by rw [mkS_len]; simpa using h)
    simp only [mkS, List.getElem_cons_succ, this]
    congr 1
    simp [posS]
    omega
theorem posS_next {k : Nat} {l : List Cl} {j : Nat} (h : j < l.length) : posS k l (j + 1) = posS k l j + szE l[j] := by
  unfold posS
  rw [sum_take (by rw [List.length_map]; exact h), List.getElem_map]
  omega
theorem sum_szE : ∀ l : List Cl, (l.map szE).sum ≤ 6 * wtS l
  | [] => by simp
  | c :: l => by
    have := sum_szE l
    have h2 : c.revs.length ≤ wtL c := by unfold wtL; omega
    unfold wtS at this ⊢
    simp only [List.map_cons, List.sum_cons, List.length_cons]
    unfold szE at this ⊢
    omega
theorem posS_le (k : Nat) (l : List Cl) (j : Nat) : posS k l j ≤ k + 6 * wtS l := by
  have h1 := sum_take_le (l.map szE) j
  have h2 := sum_szE l
  unfold posS
  omega
theorem mark_set {k : Nat} {l : List Cl} {j : Nat} (h : j < l.length) : ((mkS k l).take j ++ l.drop j).set j (mkE (posS k l j) l[j]) = (mkS k l).take (j + 1) ++ l.drop (j + 1) := by
  have hm : j < (mkS k l).length := by rw [mkS_len]; exact h
  have e : ((mkS k l).take j).length = j := by rw [List.length_take]; omega
  rw [List.set_append_right _ _ (by omega), e, Nat.sub_self, List.drop_eq_getElem_cons h, List.set_cons_zero, List.take_succ_eq_append_getElem hm, mkS_get l k j h hm, List.append_assoc]
  rfl
theorem mark_len {k : Nat} {l : List Cl} {j : Nat} (h : j ≤ l.length) : ((mkS k l).take j ++ l.drop j).length = l.length := by
  rw [List.length_append, List.length_take, List.length_drop, mkS_len]
  omega
theorem mark_get {k : Nat} {l : List Cl} {j : Nat} (h : j < l.length) (h' : j < ((mkS k l).take j ++ l.drop j).length) : ((mkS k l).take j ++ l.drop j)[j] = l[j] := by
  have e : ((mkS k l).take j).length = j := by rw [List.length_take, mkS_len]; omega
  rw [List.getElem_append_right (by omega)]
  simp [e]
theorem set_self {l : List Value} {i : Nat} {a : Value} (h : l[i]? = some a) : l.set i a = l := by
  apply List.ext_getElem?
  intro j
  rw [List.getElem?_set]
  split
  · next e =>
    subst e
    rw [h]
    split
    · rfl
    · next hn => rw [List.getElem?_eq_none (by omega)] at h; cases h
  · rfl
/-- Where the marking of one list stands: its row, its own pairs, what has turned. -/
def MkSt (w0 W : World) (base g n cap : Nat) (fq : List Nat) (X : List Value) (p : Value) (R : List (Int × Int)) : Prop :=
  W.ownsRow base 24 7 (.slice (some ⟨g, 0, none⟩) n cap) n X ∧ OwnR W base p R ∧ Out fq w0 W ∧ g ∈ fq ∧ ∀ b, p.ownBlock = some b → b ≠ g ∧ b ∈ fq
theorem MkSt.below {w0 W W' : World} {base g n cap : Nat} {fq : List Nat} {X : List Value} {p : Value} {R : List (Int × Int)} (h : MkSt w0 W base g n cap fq X p R) (hb : Below W.heap.size W W') : MkSt w0 W' base g n cap fq X p R :=
  ⟨own_kept h.1 hb, h.2.1.stays hb, h.2.2.1.trans (Out.of_below hb), h.2.2.2⟩
theorem MkSt.put {w0 W : World} {base g n cap : Nat} {fq : List Nat} {X : List Value} {p : Value} {R : List (Int × Int)} (h : MkSt w0 W base g n cap fq X p R) (i : Nat) (x : Value) : MkSt w0 (W.setCell ⟨g, i, none⟩ x) base g n cap fq (X.set i x) p R :=
  ⟨(h.1.stored i x).1, row_same h.2.1 (fun b hb => heap_setCell_other _ _ _ _ (h.2.2.2.2 b hb).1), h.2.2.1.setCell _ _ h.2.2.2.1, h.2.2.2⟩
theorem MkSt.mark {w0 W W' : World} {base g n cap : Nat} {fq : List Nat} {X : List Value} {p : Value} {R R' : List (Int × Int)} (h : MkSt w0 W base g n cap fq X p R) (ho : OwnR W' base p R') (hg : W.grownBy W' p.ownBlock) : MkSt w0 W' base g n cap fq X p R' :=
  ⟨h.1.kept hg (.inr fun e => (h.2.2.2.2 g e.symm).1 rfl), ho, h.2.2.1.grown hg (fun q hq => (h.2.2.2.2 q hq).2), h.2.2.2⟩
theorem MkSt.cell {w0 W : World} {base g n cap : Nat} {fq : List Nat} {X : List Value} {p : Value} {R : List (Int × Int)} (h : MkSt w0 W base g n cap fq X p R) {i : Nat} (hi : i < n * 7) : ∃ x, W.cell? ⟨g, i, none⟩ = some x := by
  rw [World.ownsRow.cellAt h.1 i hi]
  exact ⟨X[i]'(by rw [h.1.1]; exact hi), List.getElem?_eq_getElem _⟩
theorem MkSt.free {w0 W : World} {base g n cap : Nat} {fq : List Nat} {X : List Value} {p : Value} {R : List (Int × Int)} (h : MkSt w0 W base g n cap fq X p R) (i : Nat) : W.frozen? ⟨g, i, none⟩ = false := World.ownsRow.frozenAt h.1 i
/-- One of the row has turned, in its own blocks alone. -/
theorem OwnS.turn {w W : World} {base g n cap : Nat} {l : List Cl} {vs : List Value} {c' : Cl} {j : Nat} (hj : j < l.length) (hl : vs.length = l.length) (he : ∀ i (h1 : i < vs.length) (h2 : i < l.length), OwnL w base vs[i] l[i]) (hn : ((Value.slice (some ⟨g, 0, none⟩) n cap).ownBlock.toList ++ vs.flatMap fpL).Nodup) {u : Value} (hfp : fpL u = fpL (vs[j]'(by omega)))
    (hr : W.ownsRow base 24 7 (.slice (some ⟨g, 0, none⟩) n cap) l.length (cellsV (vs.set j u))) (hu : OwnL W base u c') (ho : Out (g :: fpL (vs[j]'(by omega))) w W) : OwnS crlKd W base (.slice (some ⟨g, 0, none⟩) n cap) (l.set j c') ((Value.slice (some ⟨g, 0, none⟩) n cap).ownBlock.toList ++ vs.flatMap fpL) := by
  have hjv : j < vs.length := by omega
  have e1 : vs = vs.take j ++ vs[j] :: vs.drop (j + 1) := by rw [List.getElem_cons_drop, List.take_append_drop]
  have e2 : vs.set j u = vs.take j ++ u :: vs.drop (j + 1) := List.set_eq_take_append_cons_drop.trans (by rw [if_pos hjv])
  have e3 : (vs.set j u).flatMap fpL = vs.flatMap fpL := by
    rw [e2, List.flatMap_append, List.flatMap_cons, hfp, ← List.flatMap_cons, ← List.flatMap_append, ← e1]
  refine ⟨vs.set j u, by simp [hl], by rw [List.length_set]; exact hr, fun i h1 h2 => ?_, ?_, hn⟩
  · rw [List.getElem_set, List.getElem_set]
    by_cases e : j = i
    · rw [if_pos e, if_pos e]
      exact hu
    · rw [if_neg e, if_neg e]
      have h3 : i < vs.length := by simpa using h1
      refine OwnL.same (he i h3 (by omega)) fun b hb => ho.2.2.2.2 b (fpL_lt (he i h3 (by omega)) b hb).2 fun hm => ?_
      have hq := List.nodup_append.1 hn
      rcases List.mem_cons.1 hm with rfl | hm
      · exact hq.2.2 b (by simp [Value.ownBlock]) b (mem_flat h3 hb) rfl
      · have hA : (vs.take j).flatMap fpL ++ (fpL vs[j] ++ (vs.drop (j + 1)).flatMap fpL) = vs.flatMap fpL := by
          rw [← List.flatMap_cons, ← List.flatMap_append, ← e1]
        have hnf := hq.2.1
        rw [← hA] at hnf
        have q1 := List.nodup_append.1 hnf
        have q2 := List.nodup_append.1 q1.2.1
        rcases Nat.lt_or_ge i j with hij | hij
        · refine q1.2.2 b (List.mem_flatMap.2 ⟨vs[i], ?_, hb⟩) b (List.mem_append_left _ hm) rfl
          rw [List.mem_take_iff_getElem]
          exact ⟨i, by omega, rfl⟩
        · refine q2.2.2 b hm b (List.mem_flatMap.2 ⟨vs[i], ?_, hb⟩) rfl
          rw [List.mem_drop_iff_getElem]
          exact ⟨i - (j + 1), by omega, by congr 1; omega⟩
  · show _ = _ ++ (vs.set j u).flatMap fpL
    rw [e3]
set_option maxHeartbeats 6400000 in
set_option maxRecDepth 100000 in
theorem markCrlS_out (l : List Cl) (v : Value) (k base : Nat) (fp : List Nat) (w : World) (hl : wtS l ≤ 1048576) (hk1 : 1 ≤ k) (hk : k ≤ 100000000) (ha : OwnS crlKd w base v l fp) :
    Calls Try.prog 16 #[v, .int .i64 k] w fun e w' => e = .returned (.int .i64 ((posS k l l.length : Nat) : Int)) ∧ OwnS crlKd w' base v (mkS k l) fp ∧ Out fp w w' := by
  obtain ⟨ao, cap, hv, hg, -, -⟩ := ha.shape
  obtain ⟨n, hn⟩ : ∃ n, l.length = n := ⟨_, rfl⟩
  rw [hn] at hv hg
  subst hv
  obtain ⟨KK, hKK⟩ : ∃ q : Nat, posS k l l.length = q := ⟨_, rfl⟩
  rw [hKK]
  have HA : Hid (OwnS crlKd w base (.slice ao n cap) l fp ∧ l.length = n ∧ wtS l ≤ 1048576 ∧ (0 < n → ∃ g, ao = some ⟨g, 0, none⟩) ∧ posS k l l.length = KK) := ⟨ha, hn, hl, hg, hKK⟩
  have hn20 : n ≤ 1048576 := by unfold wtS at hl; omega
  clear ha hn hl hg hKK
  go_enter Try.func16, Try.ntmps16
  go_wp2_with fail
  go_loopw [1, 5] (fun kv iv wr => ∃ j q : Nat, j ≤ n ∧ iv = .int .i64 j ∧ kv = .int .i64 q ∧ (1 ≤ q ∧ q ≤ 200000000) ∧ Hid (q = posS k l j ∧ OwnS crlKd wr base (.slice ao n cap) ((mkS k l).take j ++ l.drop j) fp ∧ Out fp w wr)) (fun _ iv _ => n - (intOf iv).toNat)
  case atStart => exact ⟨0, k, Nat.zero_le _, rfl, rfl, ⟨hk1, by omega⟩, by simp [posS], by simpa using HA.out.1, Out.refl _ _⟩
  case round =>
    obtain ⟨j, q, hj, rfl, rfl, ⟨hq1, hq2⟩, H⟩ := hrel
    by_cases hjn : j < n
    · have hjl : j < l.length := by rw [HA.out.2.1]; exact hjn
      obtain ⟨g, hg⟩ := HA.out.2.2.2.1 (by omega)
      subst hg
      obtain ⟨vs, hvl, hr, he, hfp, hnd⟩ := H.out.2.1
      have hml := mark_len (k := k) (Nat.le_of_lt hjl)
      have hjv : j < vs.length := by rw [hvl, hml]; exact hjl
      have hej : OwnL wr base vs[j] ((mkS k l).take j ++ l.drop j)[j] := he j hjv (by omega)
      rw [mark_get hjl] at hej
      obtain ⟨c, hc⟩ : ∃ c, l[j] = c := ⟨_, rfl⟩
      rw [hc] at hej
      obtain ⟨p, hup, hop⟩ := hej
      obtain ⟨m, hm⟩ : ∃ m, c.revs.length = m := ⟨_, rfl⟩
      have hm20 : m ≤ 1048576 := by
        have h1 := wtS_mem (List.getElem_mem hjl)
        rw [hc] at h1
        have h2 := HA.out.2.2.1
        unfold wtL at h1
        omega
      obtain ⟨pa, pc, hpv, -⟩ := hop.shape
      rw [hm] at hpv
      subst hpv
      obtain ⟨X, hX⟩ : ∃ X, cellsV vs = X := ⟨_, rfl⟩
      have HM : Hid (MkSt wr wr base g n cap (g :: fpL vs[j]) X (.slice pa m pc) c.revs) := by
        refine ⟨by rw [← hX]; rw [hml, HA.out.2.1] at hr; exact hr, hop, Out.refl _ _, List.mem_cons_self .., fun b hb => ⟨fun e => ?_, List.mem_cons_of_mem _ (by rw [hup]; exact fpL_mem.2 hb)⟩⟩
        subst e
        refine (List.nodup_append.1 (hfp ▸ hnd)).2.2 b (by simp [Value.ownBlock]) b (mem_flat (k := fpL) hjv (by rw [hup]; exact fpL_mem.2 hb)) rfl
      have HX5 : Hid (∀ i, i < 7 → X[j * 7 + i]? = (clV c (.slice pa m pc)).cells[i]?) := fun i hi => by
        rw [← hX, ← hup]
        exact cellsV_at (OwnS.sizes (k := crlKd) hvl he) j hjv i hi
      have HE : Hid (∀ (W : World) (x0 x6 : ByteArray) (x1 x2 x3 x4 : Int) (c' : Cl), c' = ⟨x0, x1, x2, x3, x4, c'.revs, x6⟩ → MkSt wr W base g n cap (g :: fpL vs[j]) ((((((X.set (j * 7) (.string x0)).set (j * 7 + 1) (.int .i64 x1)).set (j * 7 + 2) (.int .i64 x2)).set (j * 7 + 3) (.int .i64 x3)).set (j * 7 + 4) (.int .i64 x4)).set (j * 7 + 6) (.string x6)) (.slice pa m pc) c'.revs → c' = mkE q c → (q = posS k l j → OwnS crlKd W base (.slice (some ⟨g, 0, none⟩) n cap) ((mkS k l).take (j + 1) ++ l.drop (j + 1)) fp ∧ Out fp w W)) := fun W x0 x6 x1 x2 x3 x4 c' hc' hM hmk hq => by
        have hset : cellsV (vs.set j (.agg #[.string x0, .int .i64 x1, .int .i64 x2, .int .i64 x3, .int .i64 x4, .slice pa m pc, .string x6])) = (((((X.set (j * 7) (.string x0)).set (j * 7 + 1) (.int .i64 x1)).set (j * 7 + 2) (.int .i64 x2)).set (j * 7 + 3) (.int .i64 x3)).set (j * 7 + 4) (.int .i64 x4)).set (j * 7 + 6) (.string x6) := by
          rw [← setMany_cells (K := 7) (OwnS.sizes (k := crlKd) hvl he) j _ hjv rfl, hX]
          show ((((((X.set (j * 7) _).set (j * 7 + 1) _).set (j * 7 + 1 + 1) _).set (j * 7 + 1 + 1 + 1) _).set (j * 7 + 1 + 1 + 1 + 1) _).set (j * 7 + 1 + 1 + 1 + 1 + 1) _).set (j * 7 + 1 + 1 + 1 + 1 + 1 + 1) _ = _
          congr 1
          have h5 : X[j * 7 + 5]? = some (.slice pa m pc) := HX5.out 5 (by decide)
          refine set_self ?_
          rw [List.getElem?_set_ne (by omega), List.getElem?_set_ne (by omega), List.getElem?_set_ne (by omega), List.getElem?_set_ne (by omega), List.getElem?_set_ne (by omega)]
          exact h5
        have hT := OwnS.turn (c' := mkE q c) (cap := cap) (n := n) (j := j) (l := (mkS k l).take j ++ l.drop j) (by omega) hvl he (hfp ▸ hnd) (u := .agg #[.string x0, .int .i64 x1, .int .i64 x2, .int .i64 x3, .int .i64 x4, .slice pa m pc, .string x6]) (by rw [hup]; rfl) (by rw [hset, hml, HA.out.2.1]; exact hM.1) ⟨.slice pa m pc, by rw [← hmk, hc']; rfl, by rw [← hmk]; exact hM.2.1⟩ hM.2.2.1
        refine ⟨?_, ?_⟩
        · rw [hfp, ← mark_set hjl, ← hq, hc]
          exact hT
        · refine H.out.2.2.trans (hM.2.2.1.mono fun b hb => ?_)
          rw [hfp]
          rcases List.mem_cons.1 hb with rfl | hb
          · exact List.mem_append_left _ (by simp [Value.ownBlock])
          · exact List.mem_append_right _ (mem_flat (k := fpL) hjv hb)
      have HQ : Hid (q = posS k l j ∧ posS k l (j + 1) = q + (6 + 2 * m) ∧ posS k l (j + 1) ≤ k + 6 * wtS l ∧ wtS l ≤ 1048576 ∧ c.revs.length = m) := ⟨H.out.1, by rw [posS_next hjl, hc, ← H.out.1]; unfold szE; rw [hm], posS_le _ _ _, HA.out.2.2.1, hm⟩
      clear H hr he hfp hnd hvl hop hX hml
      have hki : (j : Int) < (n : Int) := by omega
      have hk0 : (0 : Int) ≤ (j : Int) := by omega
      generalize g :: fpL vs[j] = fq at HM HE
      clear hup hjv hc hm
      have E1 := markText_str q wr hq1 (by omega)
      go_wp2_with fail
      refine E1.mono ?_
      rintro e w1 ⟨rfl, hb1⟩
      have HM1 : Hid (MkSt wr w1 base g n cap fq X (.slice pa m pc) c.revs) := HM.out.below hb1
      clear HM E1 hb1
      obtain ⟨y0, c0⟩ := HM1.out.cell (i := j * 7) (by omega)
      obtain ⟨y1, c1⟩ := HM1.out.cell (i := j * 7 + 1) (by omega)
      obtain ⟨y2, c2⟩ := HM1.out.cell (i := j * 7 + 2) (by omega)
      obtain ⟨y3, c3⟩ := HM1.out.cell (i := j * 7 + 3) (by omega)
      obtain ⟨y4, c4⟩ := HM1.out.cell (i := j * 7 + 4) (by omega)
      have c5 : w1.cell? ⟨g, j * 7 + 5, none⟩ = some (.slice pa m pc) := by rw [World.ownsRow.cellAt HM1.out.1 _ (by omega)]; exact HX5.out 5 (by decide)
      have fz := fun i => HM1.out.free i
      go_wp2_with fail
      clear c0 c1 c2 c3 c4 c5 fz
      obtain ⟨V, hV⟩ : ∃ V, V = (((((w1.setCell ⟨g, j * 7, none⟩ (.string ⟨(mt q).toArray⟩)).setCell ⟨g, j * 7 + 1, none⟩ (.int .i64 ((q : Int) + 1))).setCell ⟨g, j * 7 + 2, none⟩ (.int .i64 ((q : Int) + 1 + 1))).setCell ⟨g, j * 7 + 3, none⟩ (.int .i64 ((q : Int) + 1 + 1 + 1))).setCell ⟨g, j * 7 + 4, none⟩ (.int .i64 ((q : Int) + 1 + 1 + 1 + 1))) := ⟨_, rfl⟩
      rw [← hV]
      have HM5 : Hid (MkSt wr V base g n cap fq (((((X.set (j * 7) (.string ⟨(mt q).toArray⟩)).set (j * 7 + 1) (.int .i64 ((q : Int) + 1))).set (j * 7 + 2) (.int .i64 ((q : Int) + 1 + 1))).set (j * 7 + 3) (.int .i64 ((q : Int) + 1 + 1 + 1))).set (j * 7 + 4) (.int .i64 ((q : Int) + 1 + 1 + 1 + 1))) (.slice pa m pc) c.revs) := by rw [hV]; exact ((((HM1.out.put _ _).put _ _).put _ _).put _ _).put _ _
      clear hV HM1
      obtain ⟨q5, hq5⟩ : ∃ t, q + 5 + 2 * m = t := ⟨_, rfl⟩
      have hq5b : q5 ≤ 200000000 := by have := HQ.out; omega
      have hq51 : 1 ≤ q5 := by omega
      have E5 := markR_any (.slice pa m pc) c.revs (q + 5) base V (by rw [HQ.out.2.2.2.2]; omega) (by omega) HM5.out.2.1
      rw [HQ.out.2.2.2.2, hq5, show (((q + 5 : Nat)) : Int) = (q : Int) + 1 + 1 + 1 + 1 + 1 from by omega] at E5
      have HQ5 : Hid (q + 5 + 2 * m = q5) := hq5
      clear hq5
      refine E5.mono ?_
      rintro e w5 ⟨rfl, ho5, hg5⟩
      have HM6 : Hid (MkSt wr w5 base g n cap fq (((((X.set (j * 7) (.string ⟨(mt q).toArray⟩)).set (j * 7 + 1) (.int .i64 ((q : Int) + 1))).set (j * 7 + 2) (.int .i64 ((q : Int) + 1 + 1))).set (j * 7 + 3) (.int .i64 ((q : Int) + 1 + 1 + 1))).set (j * 7 + 4) (.int .i64 ((q : Int) + 1 + 1 + 1 + 1))) (.slice pa m pc) (marksR (q + 5) m)) := HM5.out.mark ho5 hg5
      clear HM5 E5 ho5 hg5
      go_wp2_with fail
      refine (markText_str q5 w5 hq51 (by omega)).mono ?_
      rintro e w6 ⟨rfl, hb6⟩
      have HM7 : Hid (MkSt wr w6 base g n cap fq (((((X.set (j * 7) (.string ⟨(mt q).toArray⟩)).set (j * 7 + 1) (.int .i64 ((q : Int) + 1))).set (j * 7 + 2) (.int .i64 ((q : Int) + 1 + 1))).set (j * 7 + 3) (.int .i64 ((q : Int) + 1 + 1 + 1))).set (j * 7 + 4) (.int .i64 ((q : Int) + 1 + 1 + 1 + 1))) (.slice pa m pc) (marksR (q + 5) m)) := HM6.out.below hb6
      clear HM6 hb6
      obtain ⟨y6, c6⟩ := HM7.out.cell (i := j * 7 + 6) (by omega)
      have fz := fun i => HM7.out.free i
      go_wp2_with fail
      go_roundw
      case rel =>
        refine ⟨j + 1, q5 + 1, by omega, by go_num, by go_num, ⟨by omega, by have := HQ.out; have := HQ5.out; omega⟩, by have := HQ.out; have := HQ5.out; omega, ?_⟩
        exact HE.out _ _ _ _ _ _ _ (mkE q c) (by unfold mkE; rw [HQ.out.2.2.2.2, HQ5.out]; try rfl) (by unfold mkE; rw [HQ.out.2.2.2.2]; exact HM7.out.put _ _) rfl HQ.out.1
      case measure => simp [intOf]; omega
    · have hjl : j = n := by omega
      subst hjl
      have HE : Hid (q = KK ∧ (mkS k l).take j ++ l.drop j = mkS k l) := by
        have h1 := HA.out.2.1
        refine ⟨?_, ?_⟩
        · rw [← HA.out.2.2.2.2, h1]; exact H.out.1
        · rw [List.drop_eq_nil_of_le (by omega), List.append_nil, List.take_of_length_le (by rw [mkS_len]; omega)]
      go_wp2
      go_ret
      refine ⟨by rw [HE.out.1]; rfl, ?_, H.out.2.2⟩
      have h := H.out.2.1
      rw [HE.out.2] at h
      exact h
end Go.Proofs.Ytbfbaofjkefmmaa

/-
  A row of lists of what was called back that came in, opened.
-/
namespace Go.Proofs.Ytbfbaofjkefmmaa
open Go.RowKit
set_option linter.unusedVariables false

theorem pickL {n : Nat} {P : Nat → Cl → Prop} (h : ∀ j, j < n → ∃ y, P j y) : ∃ l : List Cl, ∃ hl : l.length = n, ∀ j (hj : j < l.length), P j l[j] := by
  induction n with
  | zero => exact ⟨[], rfl, fun j hj => absurd hj (Nat.not_lt_zero _)⟩
  | succ n ih =>
    obtain ⟨l, hl, hP⟩ := ih fun j hj => h j (by omega)
    obtain ⟨y, hy⟩ := h n (by omega)
    refine ⟨l ++ [y], by simp [hl], fun j hj => ?_⟩
    by_cases e : j < l.length
    · rw [List.getElem_append_left e]
      exact hP j e
    · have e2 : j = l.length := by simp at hj; omega
      subst e2
      simpa [hl] using hy
theorem crls_in {H : Type} {enc : TypeId × Value → H} {W : World} {fuel : Nat} {cs : List Value} {x : DataW H × List MemPlace} (h : DataW.trod enc Try.prog W 0 (fun _ => true) true fuel 30 cs = some x) :
    ∃ ao cap, ∃ l : List Cl, cs = [.slice ao l.length cap] ∧ l.length ≤ maxLen ∧ (∀ c ∈ l, WdL c) ∧ ArgS W.heap.size W (.slice ao l.length cap) l := by
  rcases DataW.trod_slice Try.underlying30 h with ⟨h0, _⟩ | ⟨a, len, cap, elems, rest, q, hq, hc, _, hb, hlc, hcm, hel, helem, _, _⟩
  · exact ⟨none, 0, [], h0, Nat.zero_le _, fun x hx => by simp at hx, none, 0, rfl, fun j hj => by simp at hj⟩
  · have each : ∀ j, j < len → ∃ c : Cl, ∃ u : Value, ArgL W.heap.size W u c ∧ WdL c ∧ u.cells.size = 7 ∧ ∀ i x, u.cells[i]? = some x → W.cell? (a.add (j * 7 + i)) = some x := by
      intro j hj
      have he := helem j hj
      rw [cellsCrl] at he
      obtain ⟨z, hz⟩ : ∃ z, elems[j]? = some z := ⟨elems[j]'(by omega), by simp [show j < elems.length by omega]⟩
      rw [hz, Option.bind_eq_some_iff] at he
      obtain ⟨cs2, hcs2, htr⟩ := he
      obtain ⟨c, p, hv, harg, hwd⟩ := crl_of_trod htr
      have hsome := World.cells?_some hcs2
      refine ⟨c, clV c p, harg, hwd, rfl, fun i x hx => ?_⟩
      have hcl : (clV c p).cells = cs2.toArray := by rw [← hv]; rfl
      rw [hcl] at hx
      have hi : i < cs2.length := by have := (Array.getElem?_eq_some_iff.1 hx).1; simpa using this
      have h3 := hsome.2.2 i (by omega)
      rw [Addr.add_add] at h3
      rw [h3]
      simpa using hx
    obtain ⟨l, hl, hP⟩ := pickL each
    refine ⟨some a, cap, l, by rw [hl]; exact hc, by rw [hl]; exact Nat.le_trans hlc hcm, fun y hy => ?_, some a, cap, rfl, fun j hj => ?_⟩
    · obtain ⟨j, hj, rfl⟩ := List.getElem_of_mem hy
      obtain ⟨u, _, h2, _⟩ := hP j hj
      exact h2
    · obtain ⟨u, h1, h2, h3, h4⟩ := hP j hj
      obtain ⟨x0, hx0⟩ : ∃ x, u.cells[0]? = some x := ⟨u.cells[0]'(by omega), Array.getElem?_eq_getElem _⟩
      have c0 := h4 0 x0 hx0
      obtain ⟨u', _, _, g3, g4⟩ := hP 0 (by omega)
      obtain ⟨y0, hy0⟩ : ∃ x, u'.cells[0]? = some x := ⟨u'.cells[0]'(by omega), Array.getElem?_eq_getElem _⟩
      have d0 := g4 0 y0 hy0
      obtain ⟨b, off, spot⟩ := a
      have hspot : spot = none := by simpa [Addr.add] using World.cell?_spot d0
      subst hspot
      rw [Addr.add_lit] at c0
      refine ⟨b, off, u, rfl, lt_of_cell c0, h1, h3, fun i x hx => ?_⟩
      have := h4 i x hx
      rw [Addr.add_lit, ← Nat.add_assoc] at this
      exact this
end Go.Proofs.Ytbfbaofjkefmmaa
