/-
  Texts of the proof, one behind the other: ItH, ItI.
-/
import Derived.Test.YtgkaagmjipkeaaaM17

/-
  The laws' markItemS, markItem, heldItemS, heldItem.
-/
namespace Go.Proofs.Ytgkaagmjipkeaaa
open Go.RowKit Der
set_option linter.unusedVariables false

def MarkPost (n : Nat) (ks : List (It n)) (v : Value) (fp : List Nat) (base k : Nat) (w : World) (e : Ending) (w' : World) : Prop :=
  e = .returned (.int .i64 (((markL (markI n) k ks).2 : Nat) : Int)) ∧ OwnK w' base n v (markL (markI n) k ks).1 fp ∧ Out fp w w'
def MarkC (n : Nat) : Prop := ∀ (ks : List (It n)) (v : Value) (fp : List Nat) (base k : Nat) (w : World), OwnK w base n v ks fp → 1 ≤ k → k + 2 * szS n ks ≤ 1000000000 → Calls Try.prog 56 #[v, .int .i64 (k : Int)] w fun e w' => MarkPost n ks v fp base k w e w'

theorem size_setCell' (w : World) (p : Addr) (v : Value) : w.heap.size ≤ (w.setCell p v).heap.size := ((Below.refl 0 w).setCell (p := p) (Nat.zero_le _) v).size
theorem mem_fp {g i : Nat} {fps : List (List Nat)} {fp : List Nat} (hfp : fp = g :: fps.flatten) (hi : i < fps.length) : g ∈ fp ∧ ∀ b ∈ fps[i], b ∈ fp := by
  rw [hfp]
  exact ⟨List.mem_cons_self, fun b hb => List.mem_cons_of_mem _ (List.mem_flatten.2 ⟨fps[i], List.getElem_mem hi, hb⟩)⟩
theorem g_not {g i : Nat} {fps : List (List Nat)} (hn : (g :: fps.flatten).Nodup) (hi : i < fps.length) : g ∉ fps[i] := fun hm => (List.nodup_cons.1 hn).1 (List.mem_flatten.2 ⟨fps[i], List.getElem_mem hi, hm⟩)
/-- The kids of the one that is being marked, behind its own two marks. -/
theorem mark_mid {wr w2 : World} {base n g o c l i q : Nat} {fps : List (List Nat)} {f : Nat → Value} {ks : List (It (n + 1))} (h : OpenK wr base n g o c l fps f ks) (hi : i < l) (hn : (g :: fps.flatten).Nodup) (hf : fps.length = l)
    (hb : Below (wr.setCell ⟨g, o + i * 3, none⟩ (.int .i64 (q : Int))).heap.size (wr.setCell ⟨g, o + i * 3, none⟩ (.int .i64 (q : Int))) w2) (S : Value) :
    OwnK (w2.setCell ⟨g, o + i * 3 + 1, none⟩ S) base n (f (o + i * 3 + 2)) (It.kids (ks[i]'(by have := h.2.1; omega))) (fps[i]'(by omega)) := by
  have h3 := (h.2.2 i (by have := h.2.1; omega) (by omega)).2.2
  refine h3.same fun b hm => ?_
  have hbg : b ≠ g := fun e => g_not hn (by omega) (e ▸ hm)
  have hlt := (OwnK.lt h3 b hm).2
  rw [heap_setCell_other _ _ _ _ hbg, hb.block b (Nat.lt_of_lt_of_le hlt (size_setCell' _ _ _)), heap_setCell_other _ _ _ _ hbg]
/-- Behind a round: one more is marked. -/
theorem mark_round {w wr w2 w4 : World} {base n g o c l i q : Nat} {fps : List (List Nat)} {fp : List Nat} {f : Nat → Value} {ks : List (It (n + 1))} {ys : List (It n)} (h : OpenK wr base n g o c l fps f ks) (hi : i < l) (hn : (g :: fps.flatten).Nodup) (hf : fps.length = l) (hfp : fp = g :: fps.flatten)
    (hb : Below (wr.setCell ⟨g, o + i * 3, none⟩ (.int .i64 (q : Int))).heap.size (wr.setCell ⟨g, o + i * 3, none⟩ (.int .i64 (q : Int))) w2)
    (h4 : OwnK w4 base n (f (o + i * 3 + 2)) ys (fps[i]'(by omega))) (ho : Out (fps[i]'(by omega)) (w2.setCell ⟨g, o + i * 3 + 1, none⟩ (.string ⟨(mt (q + 1)).toArray⟩)) w4) (hw : Out fp w wr) :
    OpenK w4 base n g o c l fps (updV (updV f (o + i * 3) (.int .i64 (q : Int))) (o + i * 3 + 1) (.string ⟨(mt (q + 1)).toArray⟩)) (ks.set i (It.mk (q : Int) (mt (q + 1)) ys)) ∧ Out fp w w4 := by
  have hlen : i < fps.length := by omega
  have hm := mem_fp hfp hlen
  have hgn := g_not hn hlen
  have hglt : g < wr.heap.size := h.1.lt
  have s1 := size_setCell' wr ⟨g, o + i * 3, none⟩ (.int .i64 (q : Int))
  have s2 := size_setCell' w2 ⟨g, o + i * 3 + 1, none⟩ (.string ⟨(mt (q + 1)).toArray⟩)
  have hr1 : RowV w2 g c (updV f (o + i * 3) (.int .i64 (q : Int))) := (h.1.set _ _).same (hb.block g (by omega))
  have hr2 := (hr1.set (o + i * 3 + 1) (.string ⟨(mt (q + 1)).toArray⟩)).same (ho.2.2.2.2 g (by have := hb.size; omega) hgn)
  refine ⟨open_set (y := It.mk (q : Int) (mt (q + 1)) ys) h hi hn hf hr2 h4 fun b hb1 hbg hbf => ?_, ?_⟩
  · rw [ho.2.2.2.2 b (by have := hb.size; omega) hbf, heap_setCell_other _ _ _ _ hbg, hb.block b (by omega), heap_setCell_other _ _ _ _ hbg]
  · exact (((hw.setCell _ _ hm.1).trans (Out.of_below hb)).setCell _ _ hm.1).trans (ho.mono hm.2)

set_option maxHeartbeats 3200000 in
set_option maxRecDepth 100000 in
theorem mark_step (n : Nat) (IH : Hid (MarkC n)) (ks : List (It (n + 1))) (v : Value) (fp : List Nat) (base k0 : Nat) (w : World) (ho : OwnK w base (n + 1) v ks fp) (hk1 : 1 ≤ k0) (hb : k0 + 2 * szS (n + 1) ks ≤ 1000000000) :
    Calls Try.prog 56 #[v, .int .i64 (k0 : Int)] w fun e w' => MarkPost (n + 1) ks v fp base k0 w e w' := by
  obtain ⟨ao, cap, rfl, h0, hp⟩ := ho
  obtain ⟨l, hle⟩ : ∃ l, ks.length = l := ⟨_, rfl⟩
  by_cases hl0 : l = 0
  · have hks : ks = [] := List.eq_nil_of_length_eq_zero (by omega)
    subst hks
    have HR : Hid (fp = []) := h0 rfl
    show Calls Try.prog 56 #[.slice ao 0 cap, .int .i64 (k0 : Int)] w fun e w' => MarkPost (n + 1) [] (.slice ao 0 cap) fp base k0 w e w'
    clear hp h0 hb hle hl0
    go_enter Try.func56, Try.ntmps56
    go_wp2_with fail
    go_loopw [1, 5] (fun kv iv wr => kv = .int .i64 (k0 : Int) ∧ iv = .int .i64 0 ∧ wr = w) (fun _ _ _ => 0)
    case atStart => exact ⟨rfl, rfl, rfl⟩
    case round =>
      obtain ⟨rfl, rfl, rfl⟩ := hrel
      go_wp2_with fail
      go_ret
      exact ⟨rfl, ⟨ao, cap, rfl, fun _ => HR.out, fun h => absurd h (Nat.lt_irrefl _)⟩, Out.refl _ _⟩
  · obtain ⟨g, o, c, f, fps, hao, hg, hr, hoc, hfp, hnd, hfl, hkk⟩ := hp (by omega)
    subst hao
    rw [hle] at hoc hfl ⊢
    have HH : Hid (base ≤ g ∧ (o + 3 * l ≤ c ∧ l ≤ cap) ∧ fp = g :: fps.flatten ∧ (g :: fps.flatten).Nodup ∧ fps.length = l) := ⟨hg, hoc, hfp, by rw [← hfp]; exact hnd, hfl⟩
    have HO : Hid (OpenK w base n g o c l fps f ks) := ⟨hr, hle, hkk⟩
    have HE : Hid (ks.length = l ∧ k0 + 2 * szS (n + 1) ks ≤ 1000000000) := ⟨hle, hb⟩
    have hlb : l ≤ 1000000000 := by unfold szS at hb; omega
    clear hp h0 hg hr hoc hfp hnd hfl hkk hb hle
    go_enter Try.func56, Try.ntmps56
    go_wp2_with fail
    go_loopw [1, 5] (fun kv iv wr => ∃ (i q : Nat), i ≤ l ∧ kv = .int .i64 (q : Int) ∧ iv = .int .i64 (i : Int) ∧ 1 ≤ q ∧ q ≤ 1000000000 ∧ Hid (q = (markL (markI (n + 1)) k0 (ks.take i)).2 ∧ (∃ f, OpenK wr base n g o c l fps f ((markL (markI (n + 1)) k0 ks).1.take i ++ ks.drop i)) ∧ Out fp w wr)) (fun _ iv _ => l - (intOf iv).toNat)
    case atStart => exact ⟨0, k0, Nat.zero_le _, rfl, rfl, hk1, by have := HE.out.2; omega, rfl, ⟨f, by simpa using HO.out⟩, Out.refl _ _⟩
    case round =>
      obtain ⟨i, q, hi, rfl, rfl, hq1, hq2, HB⟩ := hrel
      by_cases hlt : i < l
      · have hlti : (i : Int) < (l : Int) := by omega
        have hi0 : (0 : Int) ≤ (i : Int) := by omega
        obtain ⟨hqe, ⟨f1, hOp⟩, hOut⟩ := HB.out
        have hml := markL_len (markI (n + 1)) k0 ks
        have hik : i < ks.length := by rw [HE.out.1]; exact hlt
        have hmix : ((markL (markI (n + 1)) k0 ks).1.take i ++ ks.drop i)[i]'(by rw [hOp.2.1]; exact hlt) = ks[i] := by
          rw [List.getElem_append_right (by rw [List.length_take]; omega)]
          simp [Nat.min_eq_left (show i ≤ (markL (markI (n + 1)) k0 ks).1.length by omega)]
        obtain ⟨e0, e1, e2⟩ := hOp.2.2 i (by rw [hOp.2.1]; exact hlt) (by rw [HH.out.2.2.2.2]; exact hlt)
        rw [hmix] at e0 e1 e2
        have hoc := HH.out.2.1
        have c0 := hOp.1.cell (j := o + i * 3) (by omega)
        have c1 := hOp.1.cell (j := o + i * 3 + 1) (by omega)
        have c2 := hOp.1.cell (j := o + i * 3 + 2) (by omega)
        have fz := hOp.1.free
        rw [e0] at c0
        rw [e1] at c1
        obtain ⟨ka, kc, hkv⟩ := e2.shape
        have HF : Hid (f1 (o + i * 3 + 2) = .slice ka (It.kids ks[i]).length kc) := hkv
        obtain ⟨kl, hkl⟩ : ∃ kl, (It.kids ks[i]).length = kl := ⟨_, rfl⟩
        rw [hkv, hkl] at c2
        have HKL : Hid (f1 (o + i * 3 + 2) = .slice ka kl kc) := by rw [← hkl]; exact hkv
        have HOp : Hid (OpenK wr base n g o c l fps f1 ((markL (markI (n + 1)) k0 ks).1.take i ++ ks.drop i) ∧ Out fp w wr ∧ q = (markL (markI (n + 1)) k0 (ks.take i)).2) := ⟨hOp, hOut, hqe⟩
        have HMX : Hid (∀ h : i < ((markL (markI (n + 1)) k0 ks).1.take i ++ ks.drop i).length, ((markL (markI (n + 1)) k0 ks).1.take i ++ ks.drop i)[i]'h = ks[i]) := fun _ => hmix
        have hglt := hOp.1.lt
        have hqn := markL_next (markI (n + 1)) k0 ks i hik
        have hqt := (mark_le (n + 1)).2 k0 (ks.take (i + 1))
        have hst : szS (n + 1) (ks.take (i + 1)) ≤ szS (n + 1) ks := by
          unfold szS
          have := take_sum_le ks (i + 1)
          rw [List.length_take]
          omega
        have HQ : Hid ((markI (n + 1) q ks[i]).2 = (markL (markI (n + 1)) k0 (ks.take (i + 1))).2 ∧ (markI (n + 1) q ks[i]).2 ≤ 1000000000 ∧ q ≤ (markI (n + 1) q ks[i]).2) := by
          have := HE.out.2
          rw [← hqe] at hqn
          exact ⟨hqn.symm, by omega, ((mark_le (n + 1)).1 q ks[i]).1⟩
        have hsk : Hid (q + 2 + 2 * szS n (It.kids ks[i]) ≤ 1000000000) := by
          have h1 := HE.out.2
          have h2 := (mark_le (n + 1)).2 k0 (ks.take i)
          have h3 := take_sum hik
          have h4 := take_sum_le ks (i + 1)
          have h5 : szS n (It.kids ks[i]) ≤ szI (n + 1) ks[i] := by
            show _ ≤ (It.text ks[i]).length + (It.kids ks[i]).length + ((It.kids ks[i]).map (szI n)).sum
            unfold szS
            omega
          have h6 : szS (n + 1) (ks.take i) = i + ((ks.take i).map (szI (n + 1))).sum := by
            unfold szS
            rw [List.length_take]
            congr 1
            omega
          have h7 : szS (n + 1) ks = l + (ks.map (szI (n + 1))).sum := by unfold szS; rw [HE.out.1]
          show q + 2 + 2 * szS n (It.kids ks[i]) ≤ 1000000000
          rw [← hqe] at h2
          omega
        clear hqe hOp hOut hml hmix e0 e1 e2 hoc hkv hkl hqn hqt hst HB
        have hq3 : IntKind.i64.wrap ((q : Int) + 1) = ((q + 1 : Nat) : Int) := by rw [IntKind.wrap_i64]; omega
        have hq4 : IntKind.i64.wrap ((q : Int) + 1 + 1) = ((q + 2 : Nat) : Int) := by rw [IntKind.wrap_i64]; omega
        go_wp2_with fail
        refine (markText_str (q + 1) _ (by omega) (by omega)).mono ?_
        rintro e w2 ⟨rfl, hb2⟩
        have hsz1 := size_setCell' wr ⟨g, o + i * 3, none⟩ (.int .i64 (q : Int))
        have d1 : w2.cell? ⟨g, o + i * 3 + 1, none⟩ = some (.string ⟨(It.text ks[i]).toArray⟩) := by
          rw [hb2.cell (p := ⟨g, o + i * 3 + 1, none⟩) (by show g < _; omega), ((HOp.out.1.1.set (o + i * 3) (.int .i64 (q : Int))).cell (j := o + i * 3 + 1) (by have := HH.out.2.1; omega))]
          have := HOp.out.1.1.cell (j := o + i * 3 + 1) (by have := HH.out.2.1; omega)
          rw [c1] at this
          unfold updV
          rw [if_neg (by omega)]
          exact this.symm
        have d2 : w2.cell? ⟨g, o + i * 3 + 2, none⟩ = some (.slice ka kl kc) := by
          rw [hb2.cell (p := ⟨g, o + i * 3 + 2, none⟩) (by show g < _; omega), ((HOp.out.1.1.set (o + i * 3) (.int .i64 (q : Int))).cell (j := o + i * 3 + 2) (by have := HH.out.2.1; omega))]
          unfold updV
          rw [if_neg (by omega), HKL.out]
        have fz2 : ∀ j, w2.frozen? ⟨g, j, none⟩ = false := ((HOp.out.1.1.set (o + i * 3) (.int .i64 (q : Int))).same (hb2.block g (by omega))).free
        have HB2 : Hid (Below (wr.setCell ⟨g, o + i * 3, none⟩ (.int .i64 (q : Int))).heap.size (wr.setCell ⟨g, o + i * 3, none⟩ (.int .i64 (q : Int))) w2) := hb2
        have hmid := mark_mid HOp.out.1 hlt HH.out.2.2.2.1 HH.out.2.2.2.2 hb2 (.string ⟨(mt (q + 1)).toArray⟩)
        rw [HMX.out, HKL.out] at hmid
        have E5 := IH.out (It.kids ks[i]) (.slice ka kl kc) _ base (q + 2) _ hmid (by omega) hsk.out
        rw [show ((q + 2 : Nat) : Int) = (q : Int) + 2 by omega] at E5
        clear hb2 hsz1 c0 c1 c2 fz hmid
        go_wp2_with fail
        refine E5.mono ?_
        rintro e w4 ⟨rfl, ho4, hout4⟩
        have HR := mark_round HOp.out.1 hlt HH.out.2.2.2.1 HH.out.2.2.2.2 HH.out.2.2.1 HB2.out (by rw [HKL.out]; exact ho4) hout4 HOp.out.2.1
        have hml := markL_len (markI (n + 1)) k0 ks
        have hmx := mix_next (M := (markL (markI (n + 1)) k0 ks).1) hik hml
        have hat := markL_at (markI (n + 1)) k0 ks i hik (by omega)
        rw [← HOp.out.2.2] at hat
        have hat2 : (markL (markI (n + 1)) k0 ks).1[i]'(by omega) = It.mk (q : Int) (mt (q + 1)) (markL (markI n) (q + 2) (It.kids ks[i])).1 := hat
        rw [hat2] at hmx
        rw [hmx] at HR
        have HN : Hid ((∃ f, OpenK w4 base n g o c l fps f ((markL (markI (n + 1)) k0 ks).1.take (i + 1) ++ ks.drop (i + 1))) ∧ Out fp w w4) := ⟨⟨_, HR.1⟩, HR.2⟩
        have HQ2 : Hid ((markL (markI n) (q + 2) (It.kids ks[i])).2 = (markL (markI (n + 1)) k0 (ks.take (i + 1))).2 ∧ (markL (markI n) (q + 2) (It.kids ks[i])).2 ≤ 1000000000 ∧ q ≤ (markL (markI n) (q + 2) (It.kids ks[i])).2) := HQ.out
        obtain ⟨q2, hq2e⟩ : ∃ q2, (markL (markI n) (q + 2) (It.kids ks[i])).2 = q2 := ⟨_, rfl⟩
        rw [hq2e] at HQ2 ⊢
        clear hml hmx hat hat2 HR ho4 hout4 E5 d1 d2 fz2 HQ hq2e
        go_wp2_with fail
        exact ⟨⟨i + 1, q2, by omega, rfl, by go_num, by have := HQ2.out.2.2; omega, HQ2.out.2.1, HQ2.out.1, HN.out.1, HN.out.2⟩, by simp [intOf]; omega⟩
      · have hil : i = l := by omega
        subst hil
        have hlti : ¬ (i : Int) < (i : Int) := by omega
        have HR : Hid (q = (markL (markI (n + 1)) k0 ks).2 ∧ OwnK wr base (n + 1) (.slice (some ⟨g, o, none⟩) i cap) (markL (markI (n + 1)) k0 ks).1 fp ∧ Out fp w wr) := by
          obtain ⟨hqe, ⟨f1, hOp⟩, hOut⟩ := HB.out
          have hml := markL_len (markI (n + 1)) k0 ks
          have hle := HE.out.1
          rw [List.take_of_length_le (by omega)] at hqe
          rw [List.take_of_length_le (by omega), List.drop_of_length_le (by omega), List.append_nil] at hOp
          refine ⟨hqe, ⟨some ⟨g, o, none⟩, cap, by rw [hml, hle], fun h => by omega, fun _ => ⟨g, o, c, f1, fps, rfl, HH.out.1, hOp.1, by rw [hml, hle]; exact HH.out.2.1, HH.out.2.2.1, by rw [HH.out.2.2.1]; exact HH.out.2.2.2.1, by rw [hml, hle]; exact HH.out.2.2.2.2, hOp.2.2⟩⟩, hOut⟩
        go_wp2_with fail
        go_ret
        exact ⟨by rw [← HR.out.1]; rfl, HR.out.2.1, HR.out.2.2⟩
set_option maxHeartbeats 800000 in
set_option maxRecDepth 100000 in
theorem mark_zero : MarkC 0 := fun ks v fp base k0 w ho hk1 hb => by
  have hk : ks = [] := by
    cases ks with
    | nil => rfl
    | cons x _ => exact (x : Empty).elim
  subst hk
  obtain ⟨⟨ao, cap, rfl⟩, hfp⟩ := ho
  have HR : Hid (fp = []) := hfp
  show Calls Try.prog 56 #[.slice ao 0 cap, .int .i64 (k0 : Int)] w fun e w' => MarkPost 0 [] (.slice ao 0 cap) fp base k0 w e w'
  clear hb hfp
  go_enter Try.func56, Try.ntmps56
  go_wp2_with fail
  go_loopw [1, 5] (fun kv iv wr => kv = .int .i64 (k0 : Int) ∧ iv = .int .i64 0 ∧ wr = w) (fun _ _ _ => 0)
  case atStart => exact ⟨rfl, rfl, rfl⟩
  case round =>
    obtain ⟨rfl, rfl, rfl⟩ := hrel
    go_wp2_with fail
    go_ret
    exact ⟨rfl, ⟨⟨ao, cap, rfl⟩, HR.out⟩, Out.refl _ _⟩
theorem markItemS_any : ∀ (n : Nat), MarkC n
  | 0 => mark_zero
  | n + 1 => fun ks v fp base k w ho hk hb => mark_step n (markItemS_any n) ks v fp base k w ho hk hb
end Go.Proofs.Ytgkaagmjipkeaaa

/-
  The laws' heldItemS, heldItem, markItem.
-/
namespace Go.Proofs.Ytgkaagmjipkeaaa
open Go.RowKit Der
set_option linter.unusedVariables false

def HeldC (n : Nat) : Prop := ∀ (ks : List (It n)) (v : Value) (k : Nat) (w : World), KidsAt w (ItAt w n) v (markL (markI n) k ks).1 → 1 ≤ k → k + 2 * szS n ks ≤ 1000000000 → Calls Try.prog 57 #[v, .int .i64 (k : Int)] w fun e w' => e = .returned (.int .i64 (((markL (markI n) k ks).2 : Nat) : Int)) ∧ Below w.heap.size w w'

set_option maxHeartbeats 3200000 in
set_option maxRecDepth 100000 in
theorem held_step (n : Nat) (IH : Hid (HeldC n)) (ks : List (It (n + 1))) (v : Value) (k0 : Nat) (w : World) (hx : KidsAt w (ItAt w (n + 1)) v (markL (markI (n + 1)) k0 ks).1) (hk1 : 1 ≤ k0) (hb : k0 + 2 * szS (n + 1) ks ≤ 1000000000) :
    Calls Try.prog 57 #[v, .int .i64 (k0 : Int)] w fun e w' => e = .returned (.int .i64 (((markL (markI (n + 1)) k0 ks).2 : Nat) : Int)) ∧ Below w.heap.size w w' := by
  have hx0 := hx
  obtain ⟨ax, cx, rfl, _⟩ := hx0
  have hml := markL_len (markI (n + 1)) k0 ks
  obtain ⟨l, hle⟩ : ∃ l, ks.length = l := ⟨_, rfl⟩
  have HX : Hid (KidsAt w (ItAt w (n + 1)) (.slice ax l cx) (markL (markI (n + 1)) k0 ks).1) := by rw [hml, hle] at hx; exact hx
  rw [hml, hle]
  have HE : Hid (ks.length = l ∧ k0 + 2 * szS (n + 1) ks ≤ 1000000000 ∧ (markL (markI (n + 1)) k0 ks).1.length = l) := ⟨hle, hb, hml.trans hle⟩
  have hlb : l ≤ 1000000000 := by unfold szS at hb; omega
  clear hx hb hml hle
  go_enter Try.func57, Try.ntmps57
  go_wp2_with fail
  go_loopw [1, 5] (fun kv iv wr => ∃ (i q : Nat), i ≤ l ∧ kv = .int .i64 (q : Int) ∧ iv = .int .i64 (i : Int) ∧ 1 ≤ q ∧ q ≤ 1000000000 ∧ Hid (q = (markL (markI (n + 1)) k0 (ks.take i)).2 ∧ Below w.heap.size w wr)) (fun _ iv _ => l - (intOf iv).toNat)
  case atStart => exact ⟨0, k0, Nat.zero_le _, rfl, rfl, hk1, by have := HE.out.2.1; omega, rfl, Below.refl _ _⟩
  case round =>
    obtain ⟨i, q, hi, rfl, rfl, hq1, hq2, HB⟩ := hrel
    by_cases hlt : i < l
    · have hlti : (i : Int) < (l : Int) := by omega
      have hi0 : (0 : Int) ≤ (i : Int) := by omega
      obtain ⟨hqe, hB⟩ := HB.out
      have hik : i < ks.length := by rw [HE.out.1]; exact hlt
      have hat := markL_at (markI (n + 1)) k0 ks i hik (by rw [HE.out.2.2]; exact hlt)
      rw [← hqe] at hat
      have hat2 : (markL (markI (n + 1)) k0 ks).1[i]'(by rw [HE.out.2.2]; exact hlt) = It.mk (q : Int) (mt (q + 1)) (markL (markI n) (q + 2) (It.kids ks[i])).1 := hat
      obtain ⟨g1, o1, t1, s1, k1, hax, hg1, hc1, hi1⟩ := HX.out.get (j := i) (by rw [HE.out.2.2]; exact hlt)
      rw [hat2] at hi1
      obtain ⟨c10, c11, c12⟩ := Cells3.below (w' := wr) (t := t1) (s := s1) (k := k1) hc1 hg1 hB
      obtain ⟨kk, hkk, hkids⟩ := ItAt.below hB hi1
      change Value.agg #[t1, s1, k1] = Value.agg #[.int .i64 (q : Int), .string ⟨(mt (q + 1)).toArray⟩, kk] at hkk
      change KidsAt wr (ItAt wr n) kk (markL (markI n) (q + 2) (It.kids ks[i])).1 at hkids
      injection hkk with hkk
      simp only [Array.mk.injEq, List.cons.injEq, and_true] at hkk
      obtain ⟨rfl, rfl, rfl⟩ := hkk
      have hkids0 := hkids
      obtain ⟨ka, kc, rfl, _⟩ := hkids0
      have hqn := markL_next (markI (n + 1)) k0 ks i hik
      have hqt := (mark_le (n + 1)).2 k0 (ks.take (i + 1))
      have hst : szS (n + 1) (ks.take (i + 1)) ≤ szS (n + 1) ks := by
        unfold szS
        have := take_sum_le ks (i + 1)
        rw [List.length_take]
        omega
      have HQ : Hid ((markL (markI n) (q + 2) (It.kids ks[i])).2 = (markL (markI (n + 1)) k0 (ks.take (i + 1))).2 ∧ (markL (markI n) (q + 2) (It.kids ks[i])).2 ≤ 1000000000 ∧ q ≤ (markL (markI n) (q + 2) (It.kids ks[i])).2) := by
        have := HE.out.2.1
        rw [← hqe] at hqn
        have h1 : (markI (n + 1) q ks[i]).2 = (markL (markI n) (q + 2) (It.kids ks[i])).2 := rfl
        rw [h1] at hqn
        exact ⟨hqn.symm, by omega, by have := ((mark_le n).2 (q + 2) (It.kids ks[i])).1; omega⟩
      have hsk : Hid (q + 2 + 2 * szS n (It.kids ks[i]) ≤ 1000000000) := by
        have h1 := HE.out.2.1
        have h2 := (mark_le (n + 1)).2 k0 (ks.take i)
        have h3 := take_sum hik
        have h4 := take_sum_le ks (i + 1)
        have h5 : szS n (It.kids ks[i]) ≤ szI (n + 1) ks[i] := by
          show _ ≤ (It.text ks[i]).length + (It.kids ks[i]).length + ((It.kids ks[i]).map (szI n)).sum
          unfold szS
          omega
        have h6 : szS (n + 1) (ks.take i) = i + ((ks.take i).map (szI (n + 1))).sum := by
          unfold szS
          rw [List.length_take]
          congr 1
          omega
        have h7 : szS (n + 1) ks = l + (ks.map (szI (n + 1))).sum := by unfold szS; rw [HE.out.1]
        show q + 2 + 2 * szS n (It.kids ks[i]) ≤ 1000000000
        rw [← hqe] at h2
        omega
      obtain ⟨kl, hkl⟩ : ∃ kl, (markL (markI n) (q + 2) (It.kids ks[i])).1.length = kl := ⟨_, rfl⟩
      have HKD : Hid (KidsAt wr (ItAt wr n) (.slice ka kl kc) (markL (markI n) (q + 2) (It.kids ks[i])).1 ∧ Below w.heap.size w wr ∧ g1 < w.heap.size) := by
        rw [hkl] at hkids
        exact ⟨hkids, hB, hg1⟩
      rw [hkl] at c12
      subst hax
      have hgw : Hid (g1 < wr.heap.size) := Nat.lt_of_lt_of_le hg1 hB.size
      clear hqe hB hat hat2 hc1 hi1 hkids hqn hqt hst HB hkl hg1
      have hq3 : IntKind.i64.wrap ((q : Int) + 1) = ((q + 1 : Nat) : Int) := by rw [IntKind.wrap_i64]; omega
      have E1 := fun W => markText_str (q + 1) W (by omega) (by omega)
      rw [show ((q + 1 : Nat) : Int) = (q : Int) + 1 by omega] at E1
      have hq4 : IntKind.i64.wrap ((q : Int) + 1 + 1) = ((q + 2 : Nat) : Int) := by rw [IntKind.wrap_i64]; omega
      obtain ⟨S, hS⟩ : ∃ S : ByteArray, (⟨(mt (q + 1)).toArray⟩ : ByteArray) = S := ⟨_, rfl⟩
      rw [hS] at c11 E1
      clear hS
      go_wp2_with fail
      go_region_held3 (fun W => W.cell? ⟨g1, o1 + i * 3 + 1, none⟩ = some (.string S)) (first | exact hc3 | exact c11) ((go_at_call 73; refine (E1 wr.drew).mono ?_; rintro e w3 ⟨rfl, hb3⟩; have hc3 : w3.cell? ⟨g1, o1 + i * 3 + 1, none⟩ = some (.string S) := (hb3.cell (p := ⟨g1, o1 + i * 3 + 1, none⟩) hgw.out).trans c11))
      all_goals (
        have HB3 : Hid (Below w.heap.size w w3) := HKD.out.2.1.drew.trans (hb3.mono HKD.out.2.1.drew.size)
        have hk3 : KidsAt w3 (ItAt w3 n) (.slice ka kl kc) (markL (markI n) (q + 2) (It.kids ks[i])).1 := HKD.out.1.mono (w' := w3) (Below.mono (Below.trans ((Below.refl _ _).drew) hb3) (Nat.le_refl _)) fun _ _ h => ItAt.below (Below.trans ((Below.refl _ _).drew) hb3) h
        have c13 : w3.cell? ⟨g1, o1 + i * 3 + 2, none⟩ = some (.slice ka kl kc) := (hb3.cell (p := ⟨g1, o1 + i * 3 + 2, none⟩) hgw.out).trans c12
        have E5 := IH.out (It.kids ks[i]) (.slice ka kl kc) (q + 2) w3 hk3 (by omega) hsk.out
        rw [show ((q + 2 : Nat) : Int) = (q : Int) + 2 by omega] at E5
        obtain ⟨q2, hq2e⟩ : ∃ q2, (markL (markI n) (q + 2) (It.kids ks[i])).2 = q2 := ⟨_, rfl⟩
        rw [hq2e] at E5 HQ
        have hq2n : ¬ (q2 : Int) < 0 := by omega
        clear hk3 hb3 c10 c11 c12 hc3 hq2e
        go_wp2_with fail
        refine E5.mono ?_
        rintro e w5 ⟨rfl, hb5⟩
        have H5 : Hid (Below w.heap.size w w5) := HB3.out.trans (hb5.mono HB3.out.size)
        clear hb5 E5 c13
        go_wp2_with fail
        exact ⟨⟨i + 1, q2, by omega, rfl, by go_num, by have := HQ.out.2.2; omega, HQ.out.2.1, HQ.out.1, H5.out⟩, by simp [intOf]; omega⟩)
    · have hil : i = l := by omega
      subst hil
      have hlti : ¬ (i : Int) < (i : Int) := by omega
      have HR : Hid (q = (markL (markI (n + 1)) k0 ks).2 ∧ Below w.heap.size w wr) := by
        obtain ⟨hqe, hB⟩ := HB.out
        rw [List.take_of_length_le (by have := HE.out.1; omega)] at hqe
        exact ⟨hqe, hB⟩
      go_wp2_with fail
      go_ret
      exact ⟨by rw [← HR.out.1]; rfl, HR.out.2⟩
set_option maxHeartbeats 800000 in
set_option maxRecDepth 100000 in
theorem held_zero : HeldC 0 := fun ks v k0 w hx hk1 hb => by
  have hk : ks = [] := by
    cases ks with
    | nil => rfl
    | cons x _ => exact (x : Empty).elim
  subst hk
  obtain ⟨ao, cap, rfl, _⟩ := hx
  show Calls Try.prog 57 #[.slice ao 0 cap, .int .i64 (k0 : Int)] w fun e w' => e = .returned (.int .i64 (k0 : Int)) ∧ Below w.heap.size w w'
  clear hb
  go_enter Try.func57, Try.ntmps57
  go_wp2_with fail
  go_loopw [1, 5] (fun kv iv wr => kv = .int .i64 (k0 : Int) ∧ iv = .int .i64 0 ∧ wr = w) (fun _ _ _ => 0)
  case atStart => exact ⟨rfl, rfl, rfl⟩
  case round =>
    obtain ⟨rfl, rfl, rfl⟩ := hrel
    go_wp2_with fail
    go_ret
    exact ⟨rfl, Below.refl _ _⟩
theorem heldItemS_any : ∀ (n : Nat), HeldC n
  | 0 => held_zero
  | n + 1 => fun ks v k w hx hk hb => held_step n (heldItemS_any n) ks v k w hx hk hb
set_option maxHeartbeats 800000 in
set_option maxRecDepth 100000 in
theorem markItem_any (n : Nat) (t : Int) (s : ByteArray) (ks : List (It n)) (v : Value) (fp : List Nat) (base k : Nat) (w : World) (ho : OwnK w base n v ks fp) (hk : 1 ≤ k) (hb : k + 2 * szS n ks ≤ 1000000000) :
    Calls Try.prog 17 #[.agg #[.int .i64 t, .string s, v], .int .i64 (k : Int)] w fun e w' => MarkPost n ks v fp base k w e w' := by
  have HL := one_laid w (.int .i64 t) (.string s) v 34
  obtain ⟨W2, hW2⟩ : ∃ W, W = w.alloc (Obj.cells #[Value.int IntKind.i64 t, Value.string s, v] 34) := ⟨_, rfl⟩
  have HW := HL W2 hW2
  have E2 := markItemS_any n ks v fp base k W2 (ho.below HW.1 fun b hm => (OwnK.lt ho b hm).2) hk hb
  clear HL
  go_enter Try.func17, Try.ntmps17
  go_wp2_with fail
  rw [← hW2]
  refine E2.mono ?_
  rintro e w3 ⟨rfl, ho3, hout⟩
  have H3 : Hid (OwnK w3 base n v (markL (markI n) k ks).1 fp ∧ Out fp w w3) := ⟨ho3, (Out.of_below HW.1).trans hout⟩
  clear E2 ho3 hout HW hW2
  obtain ⟨q, hq⟩ : ∃ q, (markL (markI n) k ks).2 = q := ⟨_, rfl⟩
  have HQ : Hid ((markL (markI n) k ks).2 = q) := hq
  rw [hq]
  clear hq
  go_wp2_with fail
  go_ret
  exact ⟨by rw [HQ.out]; rfl, H3.out.1, H3.out.2⟩
set_option maxHeartbeats 800000 in
set_option maxRecDepth 100000 in
theorem heldItem_any (n : Nat) (t : Int) (s : ByteArray) (ks : List (It n)) (v : Value) (k : Nat) (w : World) (hx : KidsAt w (ItAt w n) v (markL (markI n) k ks).1) (hk : 1 ≤ k) (hb : k + 2 * szS n ks ≤ 1000000000) :
    Calls Try.prog 18 #[.agg #[.int .i64 t, .string s, v], .int .i64 (k : Int)] w fun e w' => e = .returned (.int .i64 (((markL (markI n) k ks).2 : Nat) : Int)) ∧ Below w.heap.size w w' := by
  have HL := one_laid w (.int .i64 t) (.string s) v 34
  obtain ⟨W2, hW2⟩ : ∃ W, W = w.alloc (Obj.cells #[Value.int IntKind.i64 t, Value.string s, v] 34) := ⟨_, rfl⟩
  have HW := HL W2 hW2
  have E2 := heldItemS_any n ks v k W2 (hx.mono HW.1 fun _ _ h => ItAt.below HW.1 h) hk hb
  clear HL
  obtain ⟨q, hq⟩ : ∃ q, (markL (markI n) k ks).2 = q := ⟨_, rfl⟩
  rw [hq] at E2 ⊢
  have hn : ¬ (q : Int) < 0 := by omega
  clear hq
  go_enter Try.func18, Try.ntmps18
  go_wp2_with fail
  rw [← hW2]
  refine E2.mono ?_
  rintro e w3 ⟨rfl, hb3⟩
  have H3 : Hid (Below w.heap.size w w3) := HW.1.trans (hb3.mono HW.1.size)
  clear E2 hb3 HW hW2
  go_wp2_with fail
  go_ret
  exact ⟨rfl, H3.out⟩
end Go.Proofs.Ytgkaagmjipkeaaa
