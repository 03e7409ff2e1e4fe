/-
  The specification's l07Copy and ListItem.
-/
import Derived.Test.YtbbmobgknnjfbaaItZ
import Derived.Test.YtbbmobgknnjfbaaItM
import Derived.Deep.RegionLaw
namespace Go.Proofs.Ytbbmobgknnjfbaa
open Go.RowKit Der
set_option linter.unusedVariables false

/-- A block of three cells that nobody has frozen. -/
def Blk3 (w : World) (g : Nat) (a b c : Value) : Prop := w.heap[g]? = some (.cells #[a, b, c] 26 (0, 0))
theorem Blk3.lt {w : World} {g : Nat} {a b c : Value} (h : Blk3 w g a b c) : g < w.heap.size := by
  rcases Nat.lt_or_ge g w.heap.size with h' | h'
  · exact h'
  · unfold Blk3 at h; rw [Array.getElem?_eq_none h'] at h; cases h
theorem Blk3.below {w w' : World} {g : Nat} {a b c : Value} (h : Blk3 w g a b c) (hb : Below w.heap.size w w') : Blk3 w' g a b c := (hb.block g h.lt).trans h
theorem Blk3.grown {w w' : World} {g : Nat} {a b c : Value} {row : Option Nat} (h : Blk3 w g a b c) (hg : w.grownBy w' row) (hne : some g ≠ row) : Blk3 w' g a b c := (hg.block g h.lt hne).trans h
theorem Blk3.other {w : World} {g : Nat} {a b c : Value} (h : Blk3 w g a b c) {p : Addr} (hne : g ≠ p.block) (v : Value) : Blk3 (w.setCell p v) g a b c := (heap_setCell_other _ _ _ _ hne).trans h
theorem Blk3.set {w : World} {g : Nat} {a b c : Value} (h : Blk3 w g a b c) (v : Value) : Blk3 (w.setCell ⟨g, 2, none⟩ v) g a b v := by
  unfold Blk3 at h ⊢
  rw [heap_setCell_same w g 2 _ _ _ h]
  rfl
theorem three_blk (w : World) (a b c : Value) (p q r : Value) (x y z : Value) : ∀ W, W = ((w.alloc (Obj.cells #[a, b, c] 26)).alloc (Obj.cells #[p, q, r] 26)).alloc (Obj.cells #[x, y, z] 26) →
    Below w.heap.size w W ∧ W.heap.size = w.heap.size + 3 ∧ Blk3 W w.heap.size a b c ∧ Blk3 W (w.heap.size + 1) p q r ∧ Blk3 W (w.heap.size + 2) x y z := by
  intro W hW
  obtain ⟨h1, h2, h3, h4⟩ := three_laid w a b c 26 26 26 p q r x y z W hW
  refine ⟨h1, h2, ?_, h3, h4⟩
  subst hW
  show (((w.heap.push (Obj.cells #[a, b, c] 26)).push (Obj.cells #[p, q, r] 26)).push (Obj.cells #[x, y, z] 26))[w.heap.size]? = _
  rw [Array.getElem?_push, if_neg (by rw [Array.size_push, Array.size_push]; omega), Array.getElem?_push, if_neg (by rw [Array.size_push]; omega), Array.getElem?_push, if_pos rfl]
theorem two_blk (w : World) (p q r : Value) (x y z : Value) : ∀ W, W = (w.alloc (Obj.cells #[p, q, r] 26)).alloc (Obj.cells #[x, y, z] 26) → Below w.heap.size w W ∧ W.heap.size = w.heap.size + 2 ∧ Blk3 W w.heap.size p q r ∧ Blk3 W (w.heap.size + 1) x y z := by
  rintro W rfl
  have e : (w.alloc (Obj.cells #[p, q, r] 26)).heap.size = w.heap.size + 1 := Array.size_push _
  refine ⟨((Below.refl _ _).alloc (Nat.le_refl _) _).alloc (by rw [e]; omega) _, ?_, ?_, ?_⟩
  · rw [show ((w.alloc (Obj.cells #[p, q, r] 26)).alloc (Obj.cells #[x, y, z] 26)).heap.size = (w.alloc (Obj.cells #[p, q, r] 26)).heap.size + 1 from Array.size_push _, e]
  · show ((w.heap.push (Obj.cells #[p, q, r] 26)).push (Obj.cells #[x, y, z] 26))[w.heap.size]? = _
    rw [Array.getElem?_push, if_neg (by rw [Array.size_push]; omega), Array.getElem?_push, if_pos rfl]
  · have h := heap_alloc_new (w.alloc (Obj.cells #[p, q, r] 26)) (Obj.cells #[x, y, z] 26)
    rw [e] at h
    exact h
theorem GrowK.out {w w' : World} {base n : Nat} {v : Value} {ks : List (It (n + 1))} (h : GrowK w base n v ks) (he : ∀ b, base ≤ b → w'.heap[b]? = w.heap[b]?) : GrowK w' base n v ks := by
  obtain ⟨kvs, fps, h1, h2, ho, h3, h4, h5⟩ := h
  refine ⟨kvs, fps, h1, h2, ⟨ho.1, ?_⟩, h3, h4, fun j a b c => ?_⟩
  · rcases ho.2 with hn | ⟨g, cap, cur, hv, hb, hg, rest⟩
    · exact .inl hn
    · exact .inr ⟨g, cap, cur, hv, hb, by rw [he g hb]; exact hg, rest⟩
  · have := h5 j a b c
    exact this.same fun x hx => he x (OwnK.lt this x hx).1

/-- What l07Copy keeps to. -/
def CpC (n : Nat) : Prop := ∀ (t : Int) (s : List UInt8) (ks : List (It n)) (a : Value) (w : World), KidsAt w (ItAt w n) a ks → szI (n + 1) (It.mk t s ks) ≤ 10000000 → Calls Try.prog 68 #[.agg #[.int .i64 t, .string ⟨s.toArray⟩, a]] w fun e w' => ToIt w n (It.mk t s ks) e w'

set_option maxHeartbeats 1600000 in
set_option maxRecDepth 100000 in
theorem copy_step (n : Nat) (IH : Hid (CpC n)) (t : Int) (s : List UInt8) (ks : List (It (n + 1))) (a : Value) (w : World) (hx : KidsAt w (ItAt w (n + 1)) a ks) (hz : szI (n + 2) (It.mk t s ks) ≤ 10000000) :
    Calls Try.prog 68 #[.agg #[.int .i64 t, .string ⟨s.toArray⟩, a]] w fun e w' => ToIt w (n + 1) (It.mk t s ks) e w' := by
  obtain ⟨ax, cx, rfl, -⟩ := id hx
  obtain ⟨l, hle⟩ : ∃ l, ks.length = l := ⟨_, rfl⟩
  obtain ⟨S, hS⟩ : ∃ S : ByteArray, (⟨s.toArray⟩ : ByteArray) = S := ⟨_, rfl⟩
  have HX : Hid (KidsAt w (ItAt w (n + 1)) (.slice ax ks.length cx) ks ∧ szI (n + 2) (It.mk t s ks) ≤ 10000000 ∧ ks.length = l ∧ (⟨s.toArray⟩ : ByteArray) = S) := ⟨hx, hz, hle, hS⟩
  have hlb : l ≤ 10000000 := by rw [← hle]; exact (szI_kid hz).2.1
  rw [hle, hS]
  clear hx hz hle hS
  go_enter Try.func68, Try.ntmps68
  go_wp2_with fail
  obtain ⟨W3, hW3⟩ : ∃ W, W = ((w.alloc (Obj.cells #[Value.int IntKind.i64 t, Value.string S, Value.slice ax l cx] 26)).alloc (Obj.cells #[Value.int IntKind.i64 0, Value.string { data := #[] }, Value.slice none 0 0] 26)).alloc (Obj.cells #[Value.int IntKind.i64 t, Value.string S, Value.slice none 0 0] 26) := ⟨_, rfl⟩
  rw [← hW3]
  have H3 : Hid (Below w.heap.size w W3 ∧ W3.heap.size = w.heap.size + 3 ∧ Blk3 W3 w.heap.size (.int .i64 t) (.string S) (.slice ax l cx) ∧ Blk3 W3 (w.heap.size + 1) (.int .i64 0) (.string ⟨#[]⟩) (.slice none 0 0) ∧ Blk3 W3 (w.heap.size + 2) (.int .i64 t) (.string S) (.slice none 0 0)) := three_blk w _ _ _ _ _ _ _ _ _ W3 hW3
  clear hW3
  go_loopw [4] (fun iv wr => ∃ k : Nat, k ≤ l ∧ iv = .int .i64 k ∧ Hid (∃ kv : Value, Blk3 wr w.heap.size (.int .i64 t) (.string S) (.slice ax l cx) ∧ Blk3 wr (w.heap.size + 1) (.int .i64 0) (.string ⟨#[]⟩) (.slice none 0 0) ∧ Blk3 wr (w.heap.size + 2) (.int .i64 t) (.string S) kv ∧ GrowK wr (w.heap.size + 3) n kv (ks.take k) ∧ Below w.heap.size w wr ∧ w.heap.size + 3 ≤ wr.heap.size)) (fun iv _ => l - (intOf iv).toNat)
  case atStart => exact ⟨0, Nat.zero_le _, rfl, _, H3.out.2.2.1, H3.out.2.2.2.1, H3.out.2.2.2.2, GrowK.nil _ _ _, H3.out.1, by rw [H3.out.2.1]; exact Nat.le_refl _⟩
  case round =>
    obtain ⟨k, hk, rfl, HR⟩ := hrel
    obtain ⟨kv, hr0, hr1, hr2, hrG, hrB, hrs⟩ := HR.out
    have HK : Hid (Blk3 wr w.heap.size (.int .i64 t) (.string S) (.slice ax l cx) ∧ Blk3 wr (w.heap.size + 1) (.int .i64 0) (.string ⟨#[]⟩) (.slice none 0 0) ∧ Blk3 wr (w.heap.size + 2) (.int .i64 t) (.string S) kv ∧ GrowK wr (w.heap.size + 3) n kv (ks.take k) ∧ Below w.heap.size w wr ∧ w.heap.size + 3 ≤ wr.heap.size) := ⟨hr0, hr1, hr2, hrG, hrB, hrs⟩
    obtain ⟨⟨_, _, x2⟩, _⟩ := cell_in hr0
    clear HR hr0 hr1 hr2 hrG hrB hrs H3
    by_cases hlt : k < l
    · have hlti : (k : Int) < (l : Int) := by omega
      have hk0 : (0 : Int) ≤ (k : Int) := by omega
      have hj1 : k < ks.length := by rw [HX.out.2.2.1]; exact hlt
      have hx1 := HX.out.1
      obtain ⟨g1, o1, t1, s1, k1, hax, hg1, hc1, hi1⟩ := hx1.get hj1
      obtain ⟨c10, c11, c12⟩ := Cells3.below (w' := wr) (t := t1) (s := s1) (k := k1) hc1 hg1 HK.out.2.2.2.2.1
      obtain ⟨kk, hkk, hkids⟩ := ItAt.below HK.out.2.2.2.2.1 hi1
      injection hkk with hkk
      simp only [Array.mk.injEq, List.cons.injEq, and_true] at hkk
      obtain ⟨rfl, rfl, rfl⟩ := hkk
      have hsz : szI (n + 1) ks[k] ≤ 10000000 := (szI_kid HX.out.2.1).2.2 _ (List.getElem_mem hj1)
      have E := IH.out (It.tag ks[k]) (It.text ks[k]) (It.kids ks[k]) k1 wr hkids hsz
      subst hax
      clear hc1 hi1 hg1 hkids hsz hx1
      go_wp2_with fail
      refine E.mono ?_
      rintro e w3 ⟨kk3, fp3, rfl, ho3, hb3⟩
      change OwnK w3 wr.heap.size n kk3 (It.kids ks[k]) fp3 at ho3
      obtain ⟨ax3, cx3, rfl⟩ := ho3.shape
      obtain ⟨l3, hl3⟩ : ∃ l3, (It.kids ks[k]).length = l3 := ⟨_, rfl⟩
      obtain ⟨t3, ht3⟩ : ∃ t3, It.tag ks[k] = t3 := ⟨_, rfl⟩
      obtain ⟨s3, hs3⟩ : ∃ s3 : ByteArray, (⟨(It.text ks[k]).toArray⟩ : ByteArray) = s3 := ⟨_, rfl⟩
      change Hid _ at HK
      rw [show (It.mk (It.tag ks[k]) (It.text ks[k]) (It.kids ks[k])).tag = It.tag ks[k] from rfl, show (It.mk (It.tag ks[k]) (It.text ks[k]) (It.kids ks[k])).text = It.text ks[k] from rfl]
      rw [hl3] at ho3 ⊢
      rw [ht3, hs3]
      have hb4 : Below w3.heap.size w3 (w3.alloc (Obj.cells #[Value.int IntKind.i64 t3, Value.string s3, Value.slice ax3 l3 cx3] 26)) := (Below.refl _ _).alloc (Nat.le_refl _) _
      have hbr4 := hb3.trans (hb4.mono hb3.size)
      have H4 : Hid (Below wr.heap.size wr (w3.alloc (Obj.cells #[Value.int IntKind.i64 t3, Value.string s3, Value.slice ax3 l3 cx3] 26)) ∧ OwnK (w3.alloc (Obj.cells #[Value.int IntKind.i64 t3, Value.string s3, Value.slice ax3 l3 cx3] 26)) wr.heap.size n (.slice ax3 l3 cx3) (It.kids ks[k]) fp3 ∧ It.tag ks[k] = t3 ∧ (⟨(It.text ks[k]).toArray⟩ : ByteArray) = s3) :=
        ⟨hbr4, ho3.below hb4 (fun b hm => (OwnK.lt ho3 b hm).2), ht3, hs3⟩
      obtain ⟨⟨_, _, y2⟩, _⟩ := cell_in (HK.out.2.2.1.below hbr4)
      rw [show w.heap.size + 2 = w.heap.size + 1 + 1 from rfl] at y2
      have htl : (ks.take k).length = k := by rw [List.length_take]; omega
      clear E ho3 hb3 hb4 hbr4 hl3 ht3 hs3 c10 c11 c12 x2
      go_wp2_with (at_builtin; refine wpList_append_item rfl _ _ rfl (w.heap.size + 3) n kv (ks.take k) ks[k] t3 s3 (.slice ax3 l3 cx3) fp3 H4.out.2.2.1 H4.out.2.2.2 rfl _ rfl (by simp) HK.out.2.2.2.1 H4.out.1 H4.out.2.1 HK.out.2.2.2.2.2 (by omega) ?_)
      intro g cap w6 hG6 hgrow6
      have H6 : Hid (Blk3 w6 w.heap.size (.int .i64 t) (.string S) (.slice (some ⟨g1, o1, none⟩) l cx) ∧ Blk3 w6 (w.heap.size + 1) (.int .i64 0) (.string ⟨#[]⟩) (.slice none 0 0) ∧ Blk3 w6 (w.heap.size + 2) (.int .i64 t) (.string S) kv ∧ GrowK w6 (w.heap.size + 3) n (.slice (some ⟨g, 0, none⟩) (k + 1) cap) (ks.take (k + 1)) ∧ Below w.heap.size w w6 ∧ w.heap.size + 3 ≤ w6.heap.size) := by
        have hb5 := H4.out.1.alloc H4.out.1.size (Obj.cells #[Value.int IntKind.i64 t3, Value.string s3, Value.slice ax3 l3 cx3] 26)
        have hkb := HK.out.2.2.2.1.lt
        have ne : ∀ q, q < w.heap.size + 3 → some q ≠ kv.ownBlock := fun q hq e => by have := (hkb q e.symm).1; omega
        have hbw := HK.out.2.2.2.2.1.trans (hb5.mono HK.out.2.2.2.2.1.size)
        exact ⟨(HK.out.1.below hb5).grown hgrow6 (ne _ (by omega)), (HK.out.2.1.below hb5).grown hgrow6 (ne _ (by omega)), (HK.out.2.2.1.below hb5).grown hgrow6 (ne _ (by omega)), hG6, hbw.grown hgrow6 (hbw.size) (fun q hq => by have := (hkb q hq).1; omega), Nat.le_trans HK.out.2.2.2.2.2 (Nat.le_trans hb5.size hgrow6.size)⟩
      obtain ⟨⟨_, _, y6⟩, fz6⟩ := cell_in H6.out.2.2.1
      rw [show w.heap.size + 2 = w.heap.size + 1 + 1 from rfl] at y6 fz6
      clear hG6 hgrow6 y2 H4 HK
      go_wp2_with fail
      refine ⟨⟨k + 1, by omega, by go_num, .slice (some ⟨g, 0, none⟩) (k + 1) cap, ?_, ?_, ?_, ?_, ?_, ?_⟩, by simp [intOf]; omega⟩
      · exact H6.out.1.other (by show w.heap.size ≠ w.heap.size + 1 + 1; omega) _
      · exact H6.out.2.1.other (by show w.heap.size + 1 ≠ w.heap.size + 1 + 1; omega) _
      · exact H6.out.2.2.1.set _
      · exact H6.out.2.2.2.1.out fun b hb => heap_setCell_other _ _ _ _ (by show b ≠ w.heap.size + 1 + 1; omega)
      · exact H6.out.2.2.2.2.1.setCell (p := ⟨w.heap.size + 1 + 1, 2, none⟩) (by show w.heap.size ≤ w.heap.size + 1 + 1; omega) _
      · exact Nat.le_trans H6.out.2.2.2.2.2 (((Below.refl 0 w6).setCell (p := ⟨w.heap.size + 1 + 1, 2, none⟩) (Nat.zero_le _) _).size)
    · have hlti : ¬ (k : Int) < (l : Int) := by omega
      obtain ⟨⟨q0, q1, q2⟩, _⟩ := cell_in HK.out.2.2.1
      obtain ⟨⟨r0, r1, r2⟩, rf⟩ := cell_in HK.out.2.1
      rw [show w.heap.size + 2 = w.heap.size + 1 + 1 from rfl] at q0 q1 q2
      have HE : Hid (∃ fp, OwnK wr (w.heap.size + 3) (n + 1) kv ks fp) := by
        have h := HK.out.2.2.2.1
        rw [List.take_of_length_le (by have := HX.out.2.2.1; omega)] at h
        exact h.own
      obtain ⟨axe, cape, hkv⟩ := HK.out.2.2.2.1.shape
      obtain ⟨le, hle⟩ : ∃ le, (ks.take k).length = le := ⟨_, rfl⟩
      rw [hle] at hkv
      subst hkv
      clear hle
      go_wp2_with fail
      refine bodyPost_ret (v := .agg #[.int .i64 t, .string S, .slice axe le cape]) (by simp [results, Try.results68, go_sem, r0, r1, r2]; try rfl) rfl ?_
      obtain ⟨fp, hfp⟩ := HE.out
      refine ⟨.slice axe le cape, fp, by rw [← HX.out.2.2.2]; rfl, ?_, ?_⟩
      · refine OwnK.base (base := w.heap.size + 3) (by omega) (hfp.same fun b hb => ?_)
        have h1 := (OwnK.lt hfp b hb).1
        rw [heap_setCell_other _ _ _ _ (by show b ≠ w.heap.size + 1; omega), heap_setCell_other _ _ _ _ (by show b ≠ w.heap.size + 1; omega), heap_setCell_other _ _ _ _ (by show b ≠ w.heap.size + 1; omega)]
      · exact ((HK.out.2.2.2.2.1.setCell (p := ⟨w.heap.size + 1, 0, none⟩) (by show w.heap.size ≤ w.heap.size + 1; omega) _).setCell (p := ⟨w.heap.size + 1, 1, none⟩) (by show w.heap.size ≤ w.heap.size + 1; omega) _).setCell (p := ⟨w.heap.size + 1, 2, none⟩) (by show w.heap.size ≤ w.heap.size + 1; omega) _

set_option maxHeartbeats 1600000 in
set_option maxRecDepth 100000 in
theorem copy_zero : CpC 0 := fun t s ks a w hx hz => by
  have hk : ks = [] := by
    cases ks with
    | nil => rfl
    | cons x _ => exact (x : Empty).elim
  subst hk
  obtain ⟨ax, cx, rfl, -⟩ := id hx
  obtain ⟨S, hS⟩ : ∃ S : ByteArray, (⟨s.toArray⟩ : ByteArray) = S := ⟨_, rfl⟩
  have HS : Hid ((⟨s.toArray⟩ : ByteArray) = S) := hS
  show Calls Try.prog 68 #[.agg #[.int .i64 t, .string ⟨s.toArray⟩, .slice ax 0 cx]] w _
  rw [hS]
  clear hx hz hS
  go_enter Try.func68, Try.ntmps68
  go_wp2_with fail
  obtain ⟨W3, hW3⟩ : ∃ W, W = ((w.alloc (Obj.cells #[Value.int IntKind.i64 t, Value.string S, Value.slice ax 0 cx] 26)).alloc (Obj.cells #[Value.int IntKind.i64 0, Value.string { data := #[] }, Value.slice none 0 0] 26)).alloc (Obj.cells #[Value.int IntKind.i64 t, Value.string S, Value.slice none 0 0] 26) := ⟨_, rfl⟩
  rw [← hW3]
  have H3 : Hid (Below w.heap.size w W3 ∧ W3.heap.size = w.heap.size + 3 ∧ Blk3 W3 w.heap.size (.int .i64 t) (.string S) (.slice ax 0 cx) ∧ Blk3 W3 (w.heap.size + 1) (.int .i64 0) (.string ⟨#[]⟩) (.slice none 0 0) ∧ Blk3 W3 (w.heap.size + 2) (.int .i64 t) (.string S) (.slice none 0 0)) := three_blk w _ _ _ _ _ _ _ _ _ W3 hW3
  clear hW3
  obtain ⟨⟨_, _, x2⟩, _⟩ := cell_in H3.out.2.2.1
  obtain ⟨⟨q0, q1, q2⟩, _⟩ := cell_in H3.out.2.2.2.2
  obtain ⟨⟨r0, r1, r2⟩, rf⟩ := cell_in H3.out.2.2.2.1
  rw [show w.heap.size + 2 = w.heap.size + 1 + 1 from rfl] at q0 q1 q2
  go_loopw [4] (fun iv wr => iv = .int .i64 0 ∧ wr = W3) (fun _ _ => 0)
  case atStart => exact ⟨rfl, rfl⟩
  case round =>
    obtain ⟨rfl, rfl⟩ := hrel
    go_wp2_with fail
    refine bodyPost_ret (v := .agg #[.int .i64 t, .string S, .slice none 0 0]) (by simp [results, Try.results68, go_sem, r0, r1, r2]; try rfl) rfl ?_
    refine ⟨.slice none 0 0, [], by rw [← HS.out]; rfl, ⟨⟨none, 0, rfl⟩, rfl⟩, ?_⟩
    exact ((H3.out.1.setCell (p := ⟨w.heap.size + 1, 0, none⟩) (by show w.heap.size ≤ w.heap.size + 1; omega) _).setCell (p := ⟨w.heap.size + 1, 1, none⟩) (by show w.heap.size ≤ w.heap.size + 1; omega) _).setCell (p := ⟨w.heap.size + 1, 2, none⟩) (by show w.heap.size ≤ w.heap.size + 1; omega) _
theorem copy_any : ∀ (n : Nat), CpC n
  | 0 => copy_zero
  | n + 1 => fun t s ks a w hx hz => copy_step n (copy_any n) t s ks a w hx hz

theorem four_below {wr w3 : World} {g h o : Nat} {kv t s k : Value} (hc : wr.cell? ⟨g, 2, none⟩ = some kv ∧ wr.cell? ⟨h, o, none⟩ = some t ∧ wr.cell? ⟨h, o + 1, none⟩ = some s ∧ wr.cell? ⟨h, o + 2, none⟩ = some k) (hg : g < wr.heap.size) (hh : h < wr.heap.size) (hb : Below wr.heap.size wr w3) :
    w3.cell? ⟨g, 2, none⟩ = some kv ∧ w3.cell? ⟨h, o, none⟩ = some t ∧ w3.cell? ⟨h, o + 1, none⟩ = some s ∧ w3.cell? ⟨h, o + 2, none⟩ = some k :=
  ⟨(hb.cell (p := ⟨g, 2, none⟩) hg).trans hc.1, (hb.cell (p := ⟨h, o, none⟩) hh).trans hc.2.1, (hb.cell (p := ⟨h, o + 1, none⟩) hh).trans hc.2.2.1, (hb.cell (p := ⟨h, o + 2, none⟩) hh).trans hc.2.2.2⟩
theorem four_grown {w5 w6 : World} {g h o : Nat} {kv t s k : Value} {row : Option Nat} (hc : w5.cell? ⟨g, 2, none⟩ = some kv ∧ w5.cell? ⟨h, o, none⟩ = some t ∧ w5.cell? ⟨h, o + 1, none⟩ = some s ∧ w5.cell? ⟨h, o + 2, none⟩ = some k) (hg : w5.grownBy w6 row) (n1 : some g ≠ row) (n2 : some h ≠ row) :
    w6.cell? ⟨g, 2, none⟩ = some kv ∧ w6.cell? ⟨h, o, none⟩ = some t ∧ w6.cell? ⟨h, o + 1, none⟩ = some s ∧ w6.cell? ⟨h, o + 2, none⟩ = some k :=
  ⟨hg.cell hc.1 n1, hg.cell hc.2.1 n2, hg.cell hc.2.2.1 n2, hg.cell hc.2.2.2 n2⟩

set_option maxHeartbeats 1600000 in
set_option maxRecDepth 100000 in
theorem specList_step (n : Nat) (ks : List (It (n + 1))) (a : Value) (w : World) (hx : KidsAt w (ItAt w (n + 1)) a ks) (hz : szS (n + 1) ks ≤ 10000000) :
    Calls Try.prog 35 #[a] w fun e w' => ToIt w (n + 1) (It.mk 48 [] ks) e w' := by
  obtain ⟨ax, cx, rfl, -⟩ := id hx
  obtain ⟨l, hle⟩ : ∃ l, ks.length = l := ⟨_, rfl⟩
  have HX : Hid (KidsAt w (ItAt w (n + 1)) (.slice ax ks.length cx) ks ∧ szS (n + 1) ks ≤ 10000000 ∧ ks.length = l) := ⟨hx, hz, hle⟩
  have hlb : l ≤ 10000000 := by rw [← hle]; exact (szS_kid hz).1
  rw [hle]
  clear hx hz hle
  go_enter Try.func35, Try.ntmps35
  go_wp2_with fail
  obtain ⟨W3, hW3⟩ : ∃ W, W = (w.alloc (Obj.cells #[Value.int IntKind.i64 0, Value.string { data := #[] }, Value.slice none 0 0] 26)).alloc (Obj.cells #[Value.int IntKind.i64 48, Value.string { data := #[] }, Value.slice none 0 0] 26) := ⟨_, rfl⟩
  rw [← hW3]
  have H3 : Hid (Below w.heap.size w W3 ∧ W3.heap.size = w.heap.size + 2 ∧ Blk3 W3 w.heap.size (.int .i64 0) (.string ⟨#[]⟩) (.slice none 0 0) ∧ Blk3 W3 (w.heap.size + 1) (.int .i64 48) (.string ⟨#[]⟩) (.slice none 0 0)) := two_blk w _ _ _ _ _ _ W3 hW3
  clear hW3
  go_loopw [4] (fun iv wr => ∃ k : Nat, k ≤ l ∧ iv = .int .i64 k ∧ Hid (∃ kv : Value, Blk3 wr w.heap.size (.int .i64 0) (.string ⟨#[]⟩) (.slice none 0 0) ∧ Blk3 wr (w.heap.size + 1) (.int .i64 48) (.string ⟨#[]⟩) kv ∧ GrowK wr (w.heap.size + 2) n kv (ks.take k) ∧ Below w.heap.size w wr ∧ w.heap.size + 2 ≤ wr.heap.size)) (fun iv _ => l - (intOf iv).toNat)
  case atStart => exact ⟨0, Nat.zero_le _, rfl, _, H3.out.2.2.1, H3.out.2.2.2, GrowK.nil _ _ _, H3.out.1, by rw [H3.out.2.1]; exact Nat.le_refl _⟩
  case round =>
    obtain ⟨k, hk, rfl, HR⟩ := hrel
    obtain ⟨kv, hr1, hr2, hrG, hrB, hrs⟩ := HR.out
    have HK : Hid (Blk3 wr w.heap.size (.int .i64 0) (.string ⟨#[]⟩) (.slice none 0 0) ∧ Blk3 wr (w.heap.size + 1) (.int .i64 48) (.string ⟨#[]⟩) kv ∧ GrowK wr (w.heap.size + 2) n kv (ks.take k) ∧ Below w.heap.size w wr ∧ w.heap.size + 2 ≤ wr.heap.size) := ⟨hr1, hr2, hrG, hrB, hrs⟩
    clear HR hr1 hr2 hrG hrB hrs H3
    by_cases hlt : k < l
    · have hlti : (k : Int) < (l : Int) := by omega
      have hk0 : (0 : Int) ≤ (k : Int) := by omega
      have hj1 : k < ks.length := by rw [HX.out.2.2]; exact hlt
      have hx1 := HX.out.1
      obtain ⟨g1, o1, t1, s1, k1, hax, hg1, hc1, hi1⟩ := hx1.get hj1
      obtain ⟨c10, c11, c12⟩ := Cells3.below (w' := wr) (t := t1) (s := s1) (k := k1) hc1 hg1 HK.out.2.2.2.1
      obtain ⟨kk, hkk, hkids⟩ := ItAt.below HK.out.2.2.2.1.drew hi1
      injection hkk with hkk
      simp only [Array.mk.injEq, List.cons.injEq, and_true] at hkk
      obtain ⟨rfl, rfl, rfl⟩ := hkk
      have hsz : szI (n + 1) ks[k] ≤ 10000000 := (szS_kid HX.out.2.1).2 _ (List.getElem_mem hj1)
      have E := copy_any n (It.tag ks[k]) (It.text ks[k]) (It.kids ks[k]) k1 wr.drew hkids hsz
      obtain ⟨t3, ht3⟩ : ∃ t3, It.tag ks[k] = t3 := ⟨_, rfl⟩
      obtain ⟨s3, hs3⟩ : ∃ s3 : ByteArray, (⟨(It.text ks[k]).toArray⟩ : ByteArray) = s3 := ⟨_, rfl⟩
      have HT : Hid (It.tag ks[k] = t3 ∧ (⟨(It.text ks[k]).toArray⟩ : ByteArray) = s3) := ⟨ht3, hs3⟩
      have E3 : Calls Try.prog 68 #[.agg #[.int .i64 t3, .string s3, k1]] wr.drew fun e w' => ∃ ax3 l3 cx3 fp, e = .returned (.agg #[.int .i64 t3, .string s3, .slice ax3 l3 cx3]) ∧ OwnK w' wr.heap.size n (.slice ax3 l3 cx3) (It.kids ks[k]) fp ∧ Below wr.heap.size wr w' := by
        rw [ht3, hs3] at E
        refine E.mono ?_
        rintro e w' ⟨kk, fp, rfl, ho, hb⟩
        obtain ⟨ax3, cx3, hsh⟩ := ho.shape
        refine ⟨ax3, (It.kids ks[k]).length, cx3, fp, ?_, ?_, (Below.refl wr.heap.size wr).drew.trans hb⟩
        · rw [← ht3, ← hs3, hsh]; rfl
        · subst hsh
          exact ho
      obtain ⟨⟨_, _, y2⟩, fy⟩ := cell_in HK.out.2.1
      have htl : (ks.take k).length = k := by rw [List.length_take]; omega
      rw [ht3] at c10
      rw [hs3] at c11
      have HG1 : Hid (g1 < w.heap.size) := hg1
      have HNE : Hid (∀ q, q < w.heap.size + 2 → some q ≠ kv.ownBlock) := fun q hq e => by have := (HK.out.2.2.1.lt q e.symm).1; omega
      subst hax
      clear hc1 hi1 hg1 hkids hsz hx1 E ht3 hs3
      go_wp2_with fail
      have hcs : wr.cell? ⟨w.heap.size + 1, 2, none⟩ = some kv ∧ wr.cell? ⟨g1, o1 + k * 3, none⟩ = some (.int .i64 t3) ∧ wr.cell? ⟨g1, o1 + k * 3 + 1, none⟩ = some (.string s3) ∧ wr.cell? ⟨g1, o1 + k * 3 + 2, none⟩ = some k1 := ⟨y2, c10, c11, c12⟩
      go_region_law (first
        | (refine step_call rfl 68 _ _ rfl #[.agg #[.int .i64 t3, .string s3, k1]] rfl (by kernel_rfl) ?_; refine E3.mono ?_; rintro e w3 ⟨ax3, l3, cx3, fp3, rfl, ho3, hb3⟩; have hc3 := four_below hcs (by have := HK.out.2.2.2.2; omega) (by have := HG1.out; have := HK.out.2.2.2.1.size; omega) hb3; have hy3 := hc3.1; have hc4 := fun o => four_below hcs (by have := HK.out.2.2.2.2; omega) (by have := HG1.out; have := HK.out.2.2.2.1.size; omega) (hb3.alloc hb3.size o); have hy4 := fun o => (hc4 o).1; clear hc3; dsimp only)
        | (refine step_append_item0 rfl _ _ rfl (w.heap.size + 2) n kv (ks.take k) ks[k] t3 s3 (.slice ax3 l3 cx3) fp3 HT.out.1 HT.out.2 rfl _ rfl rfl HK.out.2.2.1 hb3 ho3 HK.out.2.2.2.2 (by omega) ?_; intro g cap w6 hG6 hgrow6; have hy6 := (four_grown (hc4 _) hgrow6 (HNE.out _ (by omega)) (HNE.out _ (by have := HG1.out; omega))).1; have fz6 := (cell_in ((HK.out.2.1.below (hb3.alloc hb3.size _)).grown hgrow6 (HNE.out _ (by omega)))).2))
      all_goals (
        have H6 : Hid (Blk3 w6 w.heap.size (.int .i64 0) (.string ⟨#[]⟩) (.slice none 0 0) ∧ Blk3 w6 (w.heap.size + 1) (.int .i64 48) (.string ⟨#[]⟩) kv ∧ GrowK w6 (w.heap.size + 2) n (.slice (some ⟨g, 0, none⟩) (k + 1) cap) (ks.take (k + 1)) ∧ Below w.heap.size w w6 ∧ w.heap.size + 2 ≤ w6.heap.size) := by
          have hb5 := hb3.alloc hb3.size (Obj.cells #[Value.int IntKind.i64 t3, Value.string s3, Value.slice ax3 l3 cx3] 26)
          have hbw := HK.out.2.2.2.1.trans (hb5.mono HK.out.2.2.2.1.size)
          have e := List.take_append_getElem hj1
          rw [htl, e] at hG6
          exact ⟨(HK.out.1.below hb5).grown hgrow6 (HNE.out _ (by omega)), (HK.out.2.1.below hb5).grown hgrow6 (HNE.out _ (by omega)), hG6, hbw.grown hgrow6 hbw.size (fun q hq => by have := (HK.out.2.2.1.lt q hq).1; omega), Nat.le_trans HK.out.2.2.2.2 (Nat.le_trans hb5.size hgrow6.size)⟩
        clear hG6 hgrow6 hy6 fz6 hy3 hc4 hy4 ho3 hb3 hcs y2 c10 c11 c12 E3
        go_wp2_with fail
        refine ⟨⟨k + 1, by omega, by go_num, .slice (some ⟨g, 0, none⟩) (k + 1) cap, ?_, ?_, ?_, ?_, ?_⟩, by simp [intOf]; omega⟩
        · exact H6.out.1.other (by show w.heap.size ≠ w.heap.size + 1; omega) _
        · exact H6.out.2.1.set _
        · exact H6.out.2.2.1.out fun b hb => heap_setCell_other _ _ _ _ (by show b ≠ w.heap.size + 1; omega)
        · exact H6.out.2.2.2.1.setCell (p := ⟨w.heap.size + 1, 2, none⟩) (by show w.heap.size ≤ w.heap.size + 1; omega) _
        · exact Nat.le_trans H6.out.2.2.2.2 (((Below.refl 0 w6).setCell (p := ⟨w.heap.size + 1, 2, none⟩) (Nat.zero_le _) _).size))
    · have hlti : ¬ (k : Int) < (l : Int) := by omega
      obtain ⟨⟨q0, q1, q2⟩, _⟩ := cell_in HK.out.2.1
      obtain ⟨⟨r0, r1, r2⟩, rf⟩ := cell_in HK.out.1
      have HE : Hid (∃ fp, OwnK wr (w.heap.size + 2) (n + 1) kv ks fp) := by
        have h := HK.out.2.2.1
        rw [List.take_of_length_le (by have := HX.out.2.2; omega)] at h
        exact h.own
      obtain ⟨axe, cape, hkv⟩ := HK.out.2.2.1.shape
      obtain ⟨le, hle⟩ : ∃ le, (ks.take k).length = le := ⟨_, rfl⟩
      rw [hle] at hkv
      subst hkv
      clear hle
      go_wp2_with fail
      refine bodyPost_ret (v := .agg #[.int .i64 48, .string ⟨#[]⟩, .slice axe le cape]) (by simp [results, Try.results35, go_sem, r0, r1, r2]; try rfl) rfl ?_
      obtain ⟨fp, hfp⟩ := HE.out
      refine ⟨.slice axe le cape, fp, rfl, ?_, ?_⟩
      · refine OwnK.base (base := w.heap.size + 2) (by omega) (hfp.same fun b hb => ?_)
        have h1 := (OwnK.lt hfp b hb).1
        rw [heap_setCell_other _ _ _ _ (by show b ≠ w.heap.size; omega), heap_setCell_other _ _ _ _ (by show b ≠ w.heap.size; omega), heap_setCell_other _ _ _ _ (by show b ≠ w.heap.size; omega)]
      · exact ((HK.out.2.2.2.1.setCell (p := ⟨w.heap.size, 0, none⟩) (Nat.le_refl _) _).setCell (p := ⟨w.heap.size, 1, none⟩) (Nat.le_refl _) _).setCell (p := ⟨w.heap.size, 2, none⟩) (Nat.le_refl _) _
end Go.Proofs.Ytbbmobgknnjfbaa
