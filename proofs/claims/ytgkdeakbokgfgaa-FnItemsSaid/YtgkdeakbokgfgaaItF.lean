/-
  The laws' toItemS.
-/
import Derived.Test.YtgkdeakbokgfgaaItE
namespace Go.Proofs.Ytgkdeakbokgfgaa
open Go.RowKit Der
set_option linter.unusedVariables false

theorem infoItem : (Try.prog.info? 54).map (fun i => (i.zero, i.size, i.bytes)) = some (some (.agg #[.int .i64 0, .string ⟨#[]⟩, .slice none 0 0]), 3, 48) := by kernel_rfl
theorem infoItem_parts : ∃ i, Try.prog.info? 54 = some i ∧ i.zero = some (.agg #[.int .i64 0, .string ⟨#[]⟩, .slice none 0 0]) ∧ i.size = 3 ∧ i.bytes = 48 := by
  cases h : Try.prog.info? 54 with
  | none => have := infoItem; rw [h] at this; cases this
  | some i =>
    have := infoItem
    rw [h] at this
    simp only [Option.map_some, Option.some.injEq, Prod.mk.injEq] at this
    exact ⟨i, rfl, this.1, this.2.1, this.2.2⟩
theorem rowV_of {w : World} {g n : Nat} {cur : Array Value} {t : TypeId} (h : w.heap[g]? = some (.cells cur t (0, 0))) (hn : cur.size = n) : RowV w g n (fun j => cur.getD j (.int .i64 0)) := by
  refine ⟨t, ?_⟩
  rw [h]
  congr 2
  apply Array.ext'
  apply List.ext_getElem?
  intro i
  simp only [List.getElem?_map]
  by_cases hi : i < n
  · rw [List.getElem?_range hi]
    simp [Array.getD, hn, hi]
  · have e : (List.range n)[i]? = none := by simp; omega
    rw [e]
    simp
    omega
theorem own_heap {w : World} {base : Nat} {e : TypeId} {g n cap : Nat} {xs : List Value} (h : w.ownsRow base e 3 (.slice (some ⟨g, 0, none⟩) n cap) n xs) : ∃ f, RowV w g (cap * 3) f := by
  rcases h.2 with ⟨h0, _⟩ | ⟨g', cap', cur, hv, _, hg, _, _, hs, _⟩
  · cases h0
  · injection hv with h1 h2 h3
    injection h1 with h1
    injection h1 with h1
    subst h1
    subst h3
    exact ⟨_, rowV_of hg hs⟩
/-- What has been laid of a row of kids, behind k of them. -/
def Laid (w : World) (base g n l : Nat) (ks : List (It (n + 1))) (k : Nat) : Prop := ∃ (f : Nat → Value) (fps : List (List Nat)), RowV w g (l * 3) f ∧ fps.length = k ∧ (g :: fps.flatten).Nodup ∧
  ∀ j (hj : j < ks.length) (hj2 : j < fps.length), f (j * 3) = .int .i64 (It.tag ks[j]) ∧ f (j * 3 + 1) = .string ⟨(It.text ks[j]).toArray⟩ ∧ OwnK w base n (f (j * 3 + 2)) (It.kids ks[j]) fps[j]
theorem laid_next {w w' : World} {base g n l k : Nat} {ks : List (It (n + 1))} {fp : List Nat} {kv : Value} (hkl : k < l) (hl : ks.length = l) (h : Laid w base g n l ks k) (hg : g < w.heap.size) (hb : Below w.heap.size w w') (hgb : g < base) (hbw : base ≤ w.heap.size)
    (ho : OwnK w' w.heap.size n kv (It.kids (ks[k]'(by omega))) fp) (hnd : fp.Nodup) :
    Laid (((w'.setCell ⟨g, k * 3, none⟩ (.int .i64 (It.tag (ks[k]'(by omega))))).setCell ⟨g, k * 3 + 1, none⟩ (.string ⟨(It.text (ks[k]'(by omega))).toArray⟩)).setCell ⟨g, k * 3 + 2, none⟩ kv) base g n l ks (k + 1) := by
  obtain ⟨f, fps, hr, hf, hn, hk⟩ := h
  have hold : ∀ b ∈ fps.flatten, base ≤ b ∧ b < w.heap.size := fun b hm => by
    obtain ⟨q, hq1, hq2⟩ := List.mem_flatten.1 hm
    obtain ⟨j, hj, rfl⟩ := List.getElem_of_mem hq1
    exact OwnK.lt (hk j (by omega) hj).2.2 b hq2
  have hnew := OwnK.lt ho
  have heap_eq : ∀ b, b ≠ g → (((w'.setCell ⟨g, k * 3, none⟩ (.int .i64 (It.tag (ks[k]'(by omega))))).setCell ⟨g, k * 3 + 1, none⟩ (.string ⟨(It.text (ks[k]'(by omega))).toArray⟩)).setCell ⟨g, k * 3 + 2, none⟩ kv).heap[b]? = w'.heap[b]? := fun b hbg => by
    rw [heap_setCell_other _ _ _ _ hbg, heap_setCell_other _ _ _ _ hbg, heap_setCell_other _ _ _ _ hbg]
  refine ⟨_, fps ++ [fp], ((((hr.same (hb.block g hg)).set _ _).set _ _).set _ _), by simp [hf], ?_, fun j hj hj2 => ?_⟩
  · rw [List.flatten_append, List.flatten_singleton]
    rw [List.nodup_cons] at hn ⊢
    refine ⟨?_, ?_⟩
    · intro hm
      rcases List.mem_append.1 hm with hm | hm
      · exact hn.1 hm
      · have := (hnew g hm).1
        omega
    · rw [List.nodup_append]
      refine ⟨hn.2, hnd, fun a ha b hb2 e => ?_⟩
      have h1 := (hold a ha).2
      have h2 := (hnew b hb2).1
      omega
  · by_cases hjk : j = k
    · subst hjk
      refine ⟨?_, ?_, ?_⟩
      · simp [updV]
      · simp [updV]
      · have e1 : (fps ++ [fp])[j]'hj2 = fp := by
          rw [List.getElem_append_right (by omega)]
          simp [hf]
        rw [e1]
        have e2 : updV (updV (updV f (j * 3) (.int .i64 (It.tag (ks[j]'(by omega))))) (j * 3 + 1) (.string ⟨(It.text (ks[j]'(by omega))).toArray⟩)) (j * 3 + 2) kv (j * 3 + 2) = kv := by simp [updV]
        rw [e2]
        exact OwnK.base hbw (ho.same fun b hm => heap_eq b (by have := (hnew b hm).1; omega))
    · have hj3 : j < fps.length := by simp at hj2; omega
      obtain ⟨h1, h2, h3⟩ := hk j hj hj3
      have e1 : (fps ++ [fp])[j]'hj2 = fps[j] := List.getElem_append_left hj3
      rw [e1]
      have u0 : ∀ q, q < k * 3 → updV (updV (updV f (k * 3) (.int .i64 (It.tag (ks[k]'(by omega))))) (k * 3 + 1) (.string ⟨(It.text (ks[k]'(by omega))).toArray⟩)) (k * 3 + 2) kv q = f q := fun q hq => by
        unfold updV
        rw [if_neg (by omega), if_neg (by omega), if_neg (by omega)]
      rw [u0 _ (by omega), u0 _ (by omega), u0 _ (by omega)]
      refine ⟨h1, h2, h3.same fun b hm => ?_⟩
      have hbm := hold b (List.mem_flatten.2 ⟨fps[j], List.getElem_mem hj3, hm⟩)
      rw [heap_eq b (by omega)]
      exact hb.block b hbm.2
theorem OwnK.nodup {w : World} {base : Nat} : ∀ {n : Nat} {v : Value} {ks : List (It n)} {fp : List Nat}, OwnK w base n v ks fp → fp.Nodup
  | 0, _, _, _, ⟨_, h⟩ => by rw [h]; exact List.nodup_nil
  | n + 1, v, ks, fp, ⟨ao, cap, hv, h0, h⟩ => by
      by_cases hp : 0 < ks.length
      · obtain ⟨g, o, c, f, fps, hao, hg, hr, hoc, hfp, hnd, hl, hk⟩ := h hp
        exact hnd
      · rw [h0 (by omega)]; exact List.nodup_nil
theorem laid_start {w : World} {base g n l : Nat} {ks : List (It (n + 1))} {f : Nat → Value} (h : RowV w g (l * 3) f) : Laid w base g n l ks 0 := ⟨f, [], h, rfl, by simp, fun j _ hj => absurd hj (Nat.not_lt_zero _)⟩
theorem laid_done {w : World} {base g n l : Nat} {ks : List (It (n + 1))} (hl : ks.length = l) (hg : base ≤ g) (hgb : base ≤ base) (h : Laid w (g + 1) g n l ks l) : ∃ fp, OwnK w base (n + 1) (.slice (some ⟨g, 0, none⟩) l l) ks fp := by
  obtain ⟨f, fps, hr, hf, hn, hk⟩ := h
  by_cases h0 : l = 0
  · exact ⟨[], some ⟨g, 0, none⟩, l, by rw [hl], fun _ => rfl, fun hp => by omega⟩
  · refine ⟨g :: fps.flatten, some ⟨g, 0, none⟩, l, by rw [hl], fun h => by omega, fun _ => ⟨g, 0, l * 3, f, fps, rfl, hg, hr, by omega, rfl, hn, by omega, fun j hj hj2 => ?_⟩⟩
    obtain ⟨h1, h2, h3⟩ := hk j hj hj2
    rw [Nat.zero_add]
    exact ⟨h1, h2, OwnK.base (by omega) h3⟩
theorem Laid.below {w w' : World} {base g n l k : Nat} {ks : List (It (n + 1))} (h : Laid w base g n l ks k) (hl : k ≤ ks.length) (hb : Below w.heap.size w w') (hg : g < w.heap.size) : Laid w' base g n l ks k := by
  obtain ⟨f, fps, hr, hf, hn, hk⟩ := h
  refine ⟨f, fps, hr.same (hb.block g hg), hf, hn, fun j hj hj2 => ?_⟩
  obtain ⟨h1, h2, h3⟩ := hk j hj hj2
  exact ⟨h1, h2, h3.below hb fun b hm => (OwnK.lt h3 b hm).2⟩
theorem szS_kid {n : Nat} {ks : List (It n)} {b : Nat} (h : szS n ks ≤ b) : ks.length ≤ b ∧ ∀ y ∈ ks, szI n y ≤ b := by
  unfold szS at h
  exact ⟨by omega, fun y hy => by have := sum_mem (ks.map (szI n)) (szI n y) (List.mem_map.2 ⟨y, hy, rfl⟩); omega⟩

set_option maxHeartbeats 1600000 in
set_option maxRecDepth 100000 in
theorem toS_step (n : Nat) (IH : Hid (ToC n)) (ks : List (It (n + 1))) (v : Value) (w : World) (hx : KidsAt w (ItAt w (n + 1)) v ks) (hz : szS (n + 1) ks ≤ 10000000) :
    Calls Try.prog 69 #[v] w fun e w' => ToPost w (n + 1) ks e w' := by
  have hx0 := hx
  obtain ⟨ax, cx, rfl, _⟩ := hx0
  have HZ : Hid (szS (n + 1) ks ≤ 10000000) := hz
  have hl := (szS_kid hz).1
  have HX : Hid (KidsAt w (ItAt w (n + 1)) (.slice ax ks.length cx) ks) := hx
  obtain ⟨l, hle⟩ : ∃ l, ks.length = l := ⟨_, rfl⟩
  have HE : Hid (ks.length = l) := hle
  rw [hle] at HX hl ⊢
  clear hx hz hle
  obtain ⟨i0, hi, hz0, hz1, hz2⟩ := infoItem_parts
  go_enter Try.func69, Try.ntmps69
  go_wp2_with (at_make; refine wpList_make_full _ rfl _ _ 52 rfl w.heap.size 54 i0 _ 3 Try.underlying52 hi hz0 hz1 .i64 .i64 _ _ l rfl rfl ?m0 ?m1 ?m2 ?m3 ?m4 ?_)
  case m0 => simp
  case m1 => simp
  case m2 => rw [hz2]; omega
  case m3 => unfold maxLen; omega
  case m4 => exact Nat.le_refl _
  intro w1 hown hgrow
  have hb1 : Below w.heap.size w w1 := (Below.refl _ _).grown hgrow (Nat.le_refl _) (fun j hj => by cases hj)
  obtain ⟨f, hf⟩ := own_heap hown
  have HO : Hid (Laid w1 (w.heap.size + 1) w.heap.size n l ks 0 ∧ Below w.heap.size w w1 ∧ w.heap.size < w1.heap.size) := ⟨laid_start hf, hb1, hf.lt⟩
  clear hown hgrow hb1 hf
  go_wp2_with fail
  go_loopw [4] (fun iv wr => ∃ k : Nat, k ≤ l ∧ iv = .int .i64 k ∧ Hid (Laid wr (w.heap.size + 1) w.heap.size n l ks k ∧ Below w.heap.size w wr ∧ w.heap.size < wr.heap.size)) (fun iv _ => l - (intOf iv).toNat)
  case atStart => exact ⟨0, Nat.zero_le _, rfl, HO.out⟩
  case round =>
    obtain ⟨k, hk, rfl, HB⟩ := hrel
    clear HO
    by_cases hlt : k < l
    · have hlti : (k : Int) < (l : Int) := by omega
      have hk0 : (0 : Int) ≤ (k : Int) := by omega
      have hj1 : k < ks.length := by rw [HE.out]; exact hlt
      obtain ⟨g1, o1, t1, s1, k1, hax, hg1, hc1, hi1⟩ := HX.out.get hj1
      obtain ⟨c10, c11, c12⟩ := Cells3.below (w' := wr) (t := t1) (s := s1) (k := k1) hc1 hg1 HB.out.2.1
      obtain ⟨kk, hkk, hkids⟩ := ItAt.below HB.out.2.1 hi1
      have hsz : szI (n + 1) ks[k] ≤ 10000000 := (szS_kid HZ.out).2 _ (List.getElem_mem hj1)
      have hsk : szS n (It.kids ks[k]) ≤ 10000000 := by
        change (It.text ks[k]).length + (It.kids ks[k]).length + ((It.kids ks[k]).map (szI n)).sum ≤ 10000000 at hsz
        unfold szS
        omega
      have HR := toItem_step n IH (It.tag ks[k]) (It.text ks[k]) (It.kids ks[k]) kk wr hkids hsk
      injection hkk with hkk
      simp only [Array.mk.injEq, List.cons.injEq, and_true] at hkk
      obtain ⟨rfl, rfl, rfl⟩ := hkk
      subst hax
      clear hc1 hi1 hg1 hkids hsz hsk
      go_wp2_with fail
      refine HR.mono ?_
      rintro e w3 ⟨kv, fp, rfl, ho3, hb3⟩
      change OwnK w3 wr.heap.size n kv (It.kids ks[k]) fp at ho3
      obtain ⟨ao, cap, hkv⟩ := ho3.shape
      have HL3 := HB.out.1.below (by rw [HE.out]; exact hk) hb3 HB.out.2.2
      obtain ⟨f, fps, hr, _⟩ := HL3
      have d0 := hr.cell (j := k * 3) (by omega)
      have d1 := hr.cell (j := k * 3 + 1) (by omega)
      have d2 := hr.cell (j := k * 3 + 2) (by omega)
      have fz := hr.free
      have HN : Hid (Laid (((w3.setCell ⟨w.heap.size, k * 3, none⟩ (.int .i64 (It.tag ks[k]))).setCell ⟨w.heap.size, k * 3 + 1, none⟩ (.string ⟨(It.text ks[k]).toArray⟩)).setCell ⟨w.heap.size, k * 3 + 2, none⟩ kv) (w.heap.size + 1) w.heap.size n l ks (k + 1)) := laid_next hlt HE.out HB.out.1 HB.out.2.2 hb3 (Nat.lt_succ_self _) HB.out.2.2 ho3 ho3.nodup
      have HB3 : Hid (Below w.heap.size w w3 ∧ w.heap.size < w3.heap.size) := ⟨HB.out.2.1.trans (hb3.mono HB.out.2.1.size), Nat.lt_of_lt_of_le HB.out.2.2 hb3.size⟩
      obtain ⟨q, hq⟩ : ∃ q, (It.kids ks[k]).length = q := ⟨_, rfl⟩
      rw [hq] at hkv
      subst hkv
      clear hq ho3 hb3 hr c10 c11 c12 HR
      go_wp2_with fail
      refine ⟨⟨k + 1, by omega, by go_num, HN.out, ?_, ?_⟩, by simp [intOf]; omega⟩
      · exact ((HB3.out.1.setCell (p := ⟨w.heap.size, k * 3, none⟩) (Nat.le_refl _) _).setCell (p := ⟨w.heap.size, k * 3 + 1, none⟩) (Nat.le_refl _) _).setCell (p := ⟨w.heap.size, k * 3 + 2, none⟩) (Nat.le_refl _) _
      · exact Nat.lt_of_lt_of_le HB3.out.2 (((((Below.refl 0 w3).setCell (p := ⟨w.heap.size, k * 3, none⟩) (Nat.zero_le _) _).setCell (p := ⟨w.heap.size, k * 3 + 1, none⟩) (Nat.zero_le _) _).setCell (p := ⟨w.heap.size, k * 3 + 2, none⟩) (Nat.zero_le _) _).size)
    · have hkl : k = l := by omega
      subst hkl
      have hlti : ¬ (k : Int) < (k : Int) := by omega
      go_wp2_with fail
      go_ret
      obtain ⟨fp, hfp⟩ := laid_done (base := w.heap.size) HE.out (Nat.le_refl _) (Nat.le_refl _) HB.out.1
      exact ⟨_, fp, rfl, hfp, HB.out.2.1⟩
set_option maxHeartbeats 800000 in
set_option maxRecDepth 100000 in
theorem toS_zero : ToC 0 := fun ks v w hx hz => by
  have hk : ks = [] := by
    cases ks with
    | nil => rfl
    | cons x _ => exact (x : Empty).elim
  subst hk
  obtain ⟨ax, cx, rfl, _⟩ := hx
  clear hz
  show Calls Try.prog 69 #[.slice ax 0 cx] w fun e w' => ToPost w 0 [] e w'
  obtain ⟨i0, hi, hz0, hz1, hz2⟩ := infoItem_parts
  go_enter Try.func69, Try.ntmps69
  go_wp2_with (at_make; refine wpList_make_full _ rfl _ _ 52 rfl w.heap.size 54 i0 _ 3 Try.underlying52 hi hz0 hz1 .i64 .i64 _ _ 0 rfl rfl ?m0 ?m1 ?m2 ?m3 ?m4 ?_)
  case m0 => simp
  case m1 => simp
  case m2 => simp
  case m3 => unfold maxLen; omega
  case m4 => exact Nat.le_refl _
  intro w1 hown hgrow
  have HB : Hid (Below w.heap.size w w1) := (Below.refl _ _).grown hgrow (Nat.le_refl _) (fun j hj => by cases hj)
  clear hown hgrow
  go_wp2_with fail
  go_loopw [4] (fun iv wr => iv = .int .i64 0 ∧ Hid (Below w.heap.size w wr)) (fun _ _ => 0)
  case atStart => exact ⟨rfl, HB.out⟩
  case round =>
    obtain ⟨rfl, HB2⟩ := hrel
    go_wp2_with fail
    go_ret
    exact ⟨_, [], rfl, ⟨⟨_, _, rfl⟩, rfl⟩, HB2.out⟩
theorem toItemS_any : ∀ (n : Nat), ToC n
  | 0 => toS_zero
  | n + 1 => fun ks v w hx hz => toS_step n (toItemS_any n) ks v w hx hz
theorem toItem_any (n : Nat) (x : It (n + 1)) (v : Value) (w : World) (hx : ItAt w (n + 1) v x) (hz : szI (n + 1) x ≤ 10000000) : Calls Try.prog 39 #[v] w fun e w' => ToIt w n x e w' := by
  obtain ⟨kx, rfl, hkx⟩ := hx
  exact toItem_step n (toItemS_any n) (It.tag x) (It.text x) (It.kids x) kx w hkx (by
    change (It.text x).length + (It.kids x).length + ((It.kids x).map (szI n)).sum ≤ 10000000 at hz
    unfold szS
    omega)
end Go.Proofs.Ytgkdeakbokgfgaa
