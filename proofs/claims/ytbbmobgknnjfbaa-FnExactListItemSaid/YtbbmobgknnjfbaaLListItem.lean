/-
  Proved: FnExactListItem of chapter 7 holds for every list of items: the program's ListItem answers as its model does, writes into no argument, and its answer owns its memory.
-/
import Derived.Test.YtbbmobgknnjfbaaRows
import Derived.Test.YtbbmobgknnjfbaaJtE
import Derived.Test.YtbbmobgknnjfbaaItT
import Derived.Test.YtbbmobgknnjfbaaItI
import Derived.Test.YtbbmobgknnjfbaaItO
import Derived.ProofKit
import Derived.OpenShut
import Derived.ShutString
namespace Go.Proofs.Ytbbmobgknnjfbaa
open Go.ChangeShapes Go.WideShapes Go.ChangeAt Go.RowKit Der
open Go.ChangeMaps (open_string shut_string)
set_option linter.unusedVariables false

theorem Arg3.out {W W' : World} {g : Nat} {a b c : Value} {fp : List Nat} (h : Arg3 W g a b c) (ho : Out fp W W') (hg : g ∉ fp) : Arg3 W' g a b c := by
  have e := ho.2.2.2.2 g h.1 hg
  exact ⟨Nat.lt_of_lt_of_le h.1 ho.2.2.2.1, (World.cell?_of_block (a := ⟨g, 0, none⟩) e).trans h.2.1, (World.cell?_of_block (a := ⟨g, 1, none⟩) e).trans h.2.2.1, (World.cell?_of_block (a := ⟨g, 2, none⟩) e).trans h.2.2.2⟩
theorem OwnK.out {w w' : World} {base n : Nat} {v : Value} {ks : List (It n)} {fp fq : List Nat} (h : OwnK w base n v ks fp) (ho : Out fq w w') (hd : ∀ b ∈ fp, b ∉ fq) : OwnK w' base n v ks fp :=
  h.same fun b hb => ho.2.2.2.2 b (OwnK.lt h b hb).2 (hd b hb)
theorem Below.out {w W W' : World} {fp : List Nat} (h : Below w.heap.size w W) (ho : Out fp W W') (hf : ∀ b ∈ fp, w.heap.size ≤ b) : Below w.heap.size w W' := h.trans (ho.below hf h.size)
theorem sameS_refl (n : Nat) (ks : List (It n)) : sameS n n ks ks = true := by
  unfold sameS
  simp only [decide_true, Bool.true_and, List.all_eq_true]
  intro p hp
  obtain ⟨j, hj, e⟩ := List.getElem_of_mem hp
  rw [List.getElem_zip] at e
  rw [← e]
  exact same_refl n _
theorem szI_list (n : Nat) (ks : List (It n)) : szI (n + 1) (It.mk 48 [] ks) = szS n ks := by
  show ([] : List UInt8).length + ks.length + (ks.map (szI n)).sum = ks.length + (ks.map (szI n)).sum
  simp

set_option maxHeartbeats 6400000 in
set_option maxRecDepth 100000 in
theorem walk_FnExactListItem (a0 : Option Addr) (len0 cap0 : Nat) (w : World) (h : ∃ (n : Nat) (ks : List (It (n + 1))), KidsAt w (ItAt w (n + 1)) (.slice a0 len0 cap0) ks ∧ ks.length ≤ 9223372036854775807 ∧ ∀ y ∈ ks, ItWd (n + 1) y) : Calls Try.prog 12 #[.slice a0 len0 cap0] w fun e w' => e = .returned (.bool true) ∧ Below w.heap.size w w' := by
  obtain ⟨n, ks, hx, hl, hw⟩ := h
  have E := szS_any (n + 1) (szItem_any (n + 1)) ks (.slice a0 len0 cap0) 1048576 w hx hl hw (by decide) (by decide)
  have hlen : ks.length = len0 := by
    obtain ⟨ao, cap, hv, _⟩ := hx
    injection hv with _ h2 _
    exact h2.symm
  have HX : Hid (KidsAt w (ItAt w (n + 1)) (.slice a0 len0 cap0) ks ∧ ks.length = len0) := ⟨hx, hlen⟩
  clear hx hl hw hlen
  by_cases hz : szS (n + 1) ks ≤ 1048576
  · rw [szR_yes hz] at E
    have HZ : Hid (szS (n + 1) ks ≤ 10000000 ∧ szI (n + 2) (It.mk 48 [] ks) ≤ 10000000 ∧ 1 + 2 * szS (n + 1) ks ≤ 1000000000) := ⟨Nat.le_trans hz (by decide), by rw [szI_list]; exact Nat.le_trans hz (by decide), by omega⟩
    obtain ⟨z, hze⟩ : ∃ z : Int, z = 1048576 - ((szS (n + 1) ks : Nat) : Int) := ⟨_, rfl⟩
    have hz0 : ¬ z < 0 := by omega
    rw [← hze] at E
    clear hze hz
    have HTO : Hid (∀ W, Below w.heap.size w W → Calls Try.prog 45 #[.slice a0 len0 cap0] W fun e w' => ∃ ax cx fp, e = .returned (.slice ax len0 cx) ∧ OwnK w' W.heap.size (n + 1) (.slice ax len0 cx) ks fp ∧ Below W.heap.size W w') := fun W hb => by
      refine (toItemS_any (n + 1) ks (.slice a0 len0 cap0) W (HX.out.1.mono hb fun _ _ h => ItAt.below hb h) HZ.out.1).mono ?_
      rintro e w' ⟨v, fp, rfl, ho, hb'⟩
      obtain ⟨ax, cx, rfl⟩ := ho.shape
      rw [HX.out.2] at ho ⊢
      exact ⟨ax, cx, fp, rfl, ho, hb'⟩
    have HSP : Hid (∀ (W : World) (base : Nat) (ax : Option Addr) (cx : Nat) (fp : List Nat), OwnK W base (n + 1) (.slice ax len0 cx) ks fp → Calls Try.prog 35 #[.slice ax len0 cx] W fun e w' => ∃ ay cy fq, e = .returned (.agg #[.int .i64 48, .string ⟨#[]⟩, .slice ay len0 cy]) ∧ OwnK w' W.heap.size (n + 1) (.slice ay len0 cy) ks fq ∧ Below W.heap.size W w') := fun W base ax cx fp hk => by
      refine (specList_step n ks (.slice ax len0 cx) W hk.at HZ.out.1).mono ?_
      rintro e w' ⟨v, fq, rfl, ho, hb'⟩
      obtain ⟨ay, cy, rfl⟩ := ho.shape
      change OwnK w' W.heap.size (n + 1) (.slice ay ks.length cy) ks fq at ho
      refine ⟨ay, cy, fq, by rw [← HX.out.2]; rfl, ?_, hb'⟩
      rw [← HX.out.2]
      exact ho
    have HIM : Hid (∀ (W : World) (base : Nat) (ax : Option Addr) (cx : Nat) (fp : List Nat), OwnK W base (n + 1) (.slice ax len0 cx) ks fp → Calls Try.prog 34 #[.slice ax len0 cx] W fun e w' => ∃ ay cy fq, e = .returned (.agg #[.int .i64 48, .string ⟨#[]⟩, .slice ay len0 cy]) ∧ OwnK w' W.heap.size (n + 1) (.slice ay len0 cy) ks fq ∧ Below W.heap.size W w') := fun W base ax cx fp hk => by
      refine (implList_any (n + 1) ks (.slice ax len0 cx) W hk.at hk.free HZ.out.1).mono ?_
      rintro e w' ⟨v, fq, rfl, ho, hb'⟩
      obtain ⟨ay, cy, rfl⟩ := ho.shape
      change OwnK w' W.heap.size (n + 1) (.slice ay ks.length cy) ks fq at ho
      refine ⟨ay, cy, fq, by rw [← HX.out.2]; rfl, ?_, hb'⟩
      rw [← HX.out.2]
      exact ho
    have HEQ : Hid (∀ (W : World) (ba bb : Nat) (ax ay : Option Addr) (cx cy : Nat) (fa fb : List Nat), OwnK W ba (n + 1) (.slice ax len0 cx) ks fa → OwnK W bb (n + 1) (.slice ay len0 cy) ks fb → Calls Try.prog 40 #[.agg #[.int .i64 48, .string ⟨#[]⟩, .slice ax len0 cx], .agg #[.int .i64 48, .string ⟨#[]⟩, .slice ay len0 cy]] W fun e w' => e = .returned (.bool true) ∧ Below W.heap.size W w') := fun W ba bb ax ay cx cy fa fb h1 h2 =>
      same_true (eqItem_any (n + 2) (n + 2) (It.mk 48 [] ks) (It.mk 48 [] ks) _ _ W ⟨_, rfl, h1.at⟩ ⟨_, rfl, h2.at⟩ HZ.out.2.1 HZ.out.2.1)
    have HES : Hid (∀ (W : World) (ba bb : Nat) (ax ay : Option Addr) (cx cy : Nat) (fa fb : List Nat), OwnK W ba (n + 1) (.slice ax len0 cx) ks fa → OwnK W bb (n + 1) (.slice ay len0 cy) ks fb → Calls Try.prog 46 #[.slice ax len0 cx, .slice ay len0 cy] W fun e w' => e = .returned (.bool true) ∧ Below W.heap.size W w') := fun W ba bb ax ay cx cy fa fb h1 h2 => by
      have h := eqS_any (n + 1) (n + 1) (eqItem_any (n + 1) (n + 1)) ks ks _ _ W h1.at h2.at (szS_kid HZ.out.1).1 (szS_kid HZ.out.1).1 (szS_kid HZ.out.1).2 (szS_kid HZ.out.1).2
      rw [sameS_refl] at h
      exact h
    have HMS : Hid (∀ (W : World) (ba : Nat) (ax : Option Addr) (cx : Nat) (fa : List Nat), OwnK W ba (n + 1) (.slice ax len0 cx) ks fa → Calls Try.prog 47 #[.slice ax len0 cx, .int .i64 1] W fun e w' => ∃ q : Nat, e = .returned (.int .i64 (q : Int)) ∧ Out fa W w') := fun W ba ax cx fa h1 =>
      (markItemS_any (n + 1) ks _ fa ba 1 W h1 (Nat.le_refl _) HZ.out.2.2).mono fun e w' ⟨h1, _, h3⟩ => ⟨_, h1, h3⟩
    obtain ⟨M, hM⟩ : ∃ M, (markL (markI (n + 1)) 1 ks).2 = M := ⟨_, rfl⟩
    obtain ⟨ms, hms⟩ : ∃ ms, (markL (markI (n + 1)) 1 ks).1 = ms := ⟨_, rfl⟩
    have HMI : Hid (∀ (W : World) (ba : Nat) (ax : Option Addr) (cx : Nat) (fa : List Nat), OwnK W ba (n + 1) (.slice ax len0 cx) ks fa → Calls Try.prog 42 #[.agg #[.int .i64 48, .string ⟨#[]⟩, .slice ax len0 cx], .int .i64 1] W fun e w' => e = .returned (.int .i64 (M : Int)) ∧ OwnK w' ba (n + 1) (.slice ax len0 cx) ms fa ∧ Out fa W w') := fun W ba ax cx fa h1 => by
      have h := markItem_any (n + 1) 48 ⟨#[]⟩ ks _ fa ba 1 W h1 (Nat.le_refl _) HZ.out.2.2
      unfold MarkPost at h
      rw [hM, hms] at h
      exact h
    have HHI : Hid (∀ (W : World) (ba : Nat) (ax : Option Addr) (cx : Nat) (fa : List Nat), OwnK W ba (n + 1) (.slice ax len0 cx) ms fa → Calls Try.prog 43 #[.agg #[.int .i64 48, .string ⟨#[]⟩, .slice ax len0 cx], .int .i64 1] W fun e w' => e = .returned (.int .i64 (M : Int)) ∧ Below W.heap.size W w') := fun W ba ax cx fa h1 => by
      have h := heldItem_any (n + 1) 48 ⟨#[]⟩ ks (.slice ax len0 cx) 1 W (by rw [hms]; exact h1.at) (Nat.le_refl _) HZ.out.2.2
      rw [hM] at h
      exact h
    clear hM hms
    go_enter Try.func12, Try.ntmps12
    have H1 : Hid (Below w.heap.size w w) := Below.refl _ _
    go_wp2_with fail
    refine E.mono ?_
    rintro e v1 ⟨rfl, hb1⟩
    have H2 : Hid (Below w.heap.size w v1) := H1.out.trans (hb1.mono H1.out.size)
    clear H1
    clear hb1
    clear E
    go_wp2_with fail
    refine (HTO.out _ H2.out).mono ?_
    rintro e v2 ⟨ax2, cx2, fp2, rfl, ho2, hb2⟩
    have H3 : Hid (Below w.heap.size w v2 ∧ OwnK v2 (v1.heap.size) (n + 1) (.slice ax2 len0 cx2) (ks) fp2) := ⟨H2.out.trans (hb2.mono H2.out.size), ho2⟩
    clear H2
    clear hb2
    clear ho2
    go_wp2_with fail
    refine (HSP.out _ _ _ _ _ H3.out.2).mono ?_
    rintro e v3 ⟨ax3, cx3, fp3, rfl, ho3, hb3⟩
    have H4 : Hid (Below w.heap.size w v3 ∧ OwnK v3 (v2.heap.size) (n + 1) (.slice ax3 len0 cx3) (ks) fp3) := ⟨H3.out.1.trans (hb3.mono H3.out.1.size), ho3⟩
    clear H3
    clear hb3
    have HF3 : Hid (∀ b ∈ fp3, b < v3.heap.size) := fun b hb => (OwnK.lt ho3 b hb).2
    clear ho3
    go_wp2_with fail
    obtain ⟨u1, hu2⟩ : ∃ W, W = v3.alloc (Obj.cells #[Value.int IntKind.i64 48, Value.string { data := #[] }, Value.slice ax3 len0 cx3] 26) := ⟨_, rfl⟩
    rw [← hu2]
    obtain ⟨hu2a, hu2b⟩ := arg3_of hu2
    have H5 : Hid (Below w.heap.size w u1 ∧ OwnK u1 (v2.heap.size) (n + 1) (.slice ax3 len0 cx3) (ks) fp3 ∧ Arg3 u1 (v3.heap.size) (.int .i64 48) (.string ⟨#[]⟩) (.slice ax3 len0 cx3)) := ⟨H4.out.1.trans (hu2b.mono H4.out.1.size), H4.out.2.below hu2b (fun b hm => (OwnK.lt H4.out.2 b hm).2), hu2a⟩
    clear H4
    have u1s : u1.heap.size = v3.heap.size + 1 := by rw [hu2]; simp
    have u1S : Hid (u1.heap.size = v3.heap.size + 1) := u1s
    clear hu2 hu2a hu2b u1s
    refine (HTO.out _ H5.out.1).mono ?_
    rintro e v5 ⟨ax5, cx5, fp5, rfl, ho5, hb5⟩
    have u1X : Hid (u1.heap.size = v3.heap.size + 1 ∧ w.heap.size ≤ u1.heap.size ∧ u1.heap.size ≤ v5.heap.size) := ⟨u1S.out, H5.out.1.size, hb5.size⟩
    have HF5 : Hid (∀ b ∈ fp5, u1.heap.size ≤ b ∧ b < v5.heap.size) := OwnK.lt ho5
    have H6 : Hid (Below w.heap.size w v5 ∧ OwnK v5 (v2.heap.size) (n + 1) (.slice ax3 len0 cx3) (ks) fp3 ∧ Arg3 v5 (v3.heap.size) (.int .i64 48) (.string ⟨#[]⟩) (.slice ax3 len0 cx3) ∧ OwnK v5 (u1.heap.size) (n + 1) (.slice ax5 len0 cx5) (ks) fp5) := ⟨H5.out.1.trans (hb5.mono H5.out.1.size), H5.out.2.1.below hb5 (fun b hm => (OwnK.lt H5.out.2.1 b hm).2), H5.out.2.2.below hb5, ho5⟩
    clear H5
    clear hb5
    clear ho5
    obtain ⟨-, c2x0, c2x1, c2x2⟩ := H6.out.2.2.1
    obtain ⟨d2x0, d2x1, d2x2⟩ := Arg3.alloc H6.out.2.2.1
    go_wp2_with fail
    refine (HIM.out _ _ _ _ _ H6.out.2.2.2).mono ?_
    rintro e v6 ⟨ax6, cx6, fp6, rfl, ho6, hb6⟩
    have HNU : Hid (v5.heap.size ≤ v6.heap.size) := hb6.size
    have HF6 : Hid (∀ b ∈ fp6, v5.heap.size ≤ b ∧ b < v6.heap.size) := OwnK.lt ho6
    clear c2x0 c2x1 c2x2 d2x0 d2x1 d2x2
    have H7 : Hid (Below w.heap.size w v6 ∧ OwnK v6 (v2.heap.size) (n + 1) (.slice ax3 len0 cx3) (ks) fp3 ∧ Arg3 v6 (v3.heap.size) (.int .i64 48) (.string ⟨#[]⟩) (.slice ax3 len0 cx3) ∧ OwnK v6 (u1.heap.size) (n + 1) (.slice ax5 len0 cx5) (ks) fp5 ∧ OwnK v6 (v5.heap.size) (n + 1) (.slice ax6 len0 cx6) (ks) fp6) := ⟨H6.out.1.trans (hb6.mono H6.out.1.size), H6.out.2.1.below hb6 (fun b hm => (OwnK.lt H6.out.2.1 b hm).2), H6.out.2.2.1.below hb6, H6.out.2.2.2.below hb6 (fun b hm => (OwnK.lt H6.out.2.2.2 b hm).2), ho6⟩
    clear H6
    clear hb6
    clear ho6
    obtain ⟨-, c2x0, c2x1, c2x2⟩ := H7.out.2.2.1
    obtain ⟨d2x0, d2x1, d2x2⟩ := Arg3.alloc H7.out.2.2.1
    go_wp2_with fail
    obtain ⟨u3, hu4⟩ : ∃ W, W = v6.alloc (Obj.cells #[Value.int IntKind.i64 48, Value.string { data := #[] }, Value.slice ax6 len0 cx6] 26) := ⟨_, rfl⟩
    rw [← hu4]
    obtain ⟨hu4a, hu4b⟩ := arg3_of hu4
    clear c2x0 c2x1 c2x2 d2x0 d2x1 d2x2
    have H8 : Hid (Below w.heap.size w u3 ∧ OwnK u3 (v2.heap.size) (n + 1) (.slice ax3 len0 cx3) (ks) fp3 ∧ Arg3 u3 (v3.heap.size) (.int .i64 48) (.string ⟨#[]⟩) (.slice ax3 len0 cx3) ∧ OwnK u3 (u1.heap.size) (n + 1) (.slice ax5 len0 cx5) (ks) fp5 ∧ OwnK u3 (v5.heap.size) (n + 1) (.slice ax6 len0 cx6) (ks) fp6 ∧ Arg3 u3 (v6.heap.size) (.int .i64 48) (.string ⟨#[]⟩) (.slice ax6 len0 cx6)) := ⟨H7.out.1.trans (hu4b.mono H7.out.1.size), H7.out.2.1.below hu4b (fun b hm => (OwnK.lt H7.out.2.1 b hm).2), H7.out.2.2.1.below hu4b, H7.out.2.2.2.1.below hu4b (fun b hm => (OwnK.lt H7.out.2.2.2.1 b hm).2), H7.out.2.2.2.2.below hu4b (fun b hm => (OwnK.lt H7.out.2.2.2.2 b hm).2), hu4a⟩
    clear H7
    have u3s : u3.heap.size = v6.heap.size + 1 := by rw [hu4]; simp
    have u3S : Hid (u3.heap.size = v6.heap.size + 1) := u3s
    clear hu4 hu4a hu4b u3s
    refine (HEQ.out _ _ _ _ _ _ _ _ _ H8.out.2.2.2.2.1 H8.out.2.1).mono ?_
    rintro e v8 ⟨rfl, hb8⟩
    have H9 : Hid (Below w.heap.size w v8 ∧ OwnK v8 (v2.heap.size) (n + 1) (.slice ax3 len0 cx3) (ks) fp3 ∧ Arg3 v8 (v3.heap.size) (.int .i64 48) (.string ⟨#[]⟩) (.slice ax3 len0 cx3) ∧ OwnK v8 (u1.heap.size) (n + 1) (.slice ax5 len0 cx5) (ks) fp5 ∧ OwnK v8 (v5.heap.size) (n + 1) (.slice ax6 len0 cx6) (ks) fp6 ∧ Arg3 v8 (v6.heap.size) (.int .i64 48) (.string ⟨#[]⟩) (.slice ax6 len0 cx6)) := ⟨H8.out.1.trans (hb8.mono H8.out.1.size), H8.out.2.1.below hb8 (fun b hm => (OwnK.lt H8.out.2.1 b hm).2), H8.out.2.2.1.below hb8, H8.out.2.2.2.1.below hb8 (fun b hm => (OwnK.lt H8.out.2.2.2.1 b hm).2), H8.out.2.2.2.2.1.below hb8 (fun b hm => (OwnK.lt H8.out.2.2.2.2.1 b hm).2), H8.out.2.2.2.2.2.below hb8⟩
    clear H8
    clear hb8
    obtain ⟨-, c2x0, c2x1, c2x2⟩ := H9.out.2.2.1
    obtain ⟨-, c5x0, c5x1, c5x2⟩ := H9.out.2.2.2.2.2
    go_wp2_with fail
    refine (HTO.out _ H9.out.1).mono ?_
    rintro e v9 ⟨ax9, cx9, fp9, rfl, ho9, hb9⟩
    clear c2x0 c2x1 c2x2 c5x0 c5x1 c5x2
    have H10 : Hid (Below w.heap.size w v9 ∧ OwnK v9 (v2.heap.size) (n + 1) (.slice ax3 len0 cx3) (ks) fp3 ∧ Arg3 v9 (v3.heap.size) (.int .i64 48) (.string ⟨#[]⟩) (.slice ax3 len0 cx3) ∧ OwnK v9 (u1.heap.size) (n + 1) (.slice ax5 len0 cx5) (ks) fp5 ∧ OwnK v9 (v5.heap.size) (n + 1) (.slice ax6 len0 cx6) (ks) fp6 ∧ Arg3 v9 (v6.heap.size) (.int .i64 48) (.string ⟨#[]⟩) (.slice ax6 len0 cx6) ∧ OwnK v9 (v8.heap.size) (n + 1) (.slice ax9 len0 cx9) (ks) fp9) := ⟨H9.out.1.trans (hb9.mono H9.out.1.size), H9.out.2.1.below hb9 (fun b hm => (OwnK.lt H9.out.2.1 b hm).2), H9.out.2.2.1.below hb9, H9.out.2.2.2.1.below hb9 (fun b hm => (OwnK.lt H9.out.2.2.2.1 b hm).2), H9.out.2.2.2.2.1.below hb9 (fun b hm => (OwnK.lt H9.out.2.2.2.2.1 b hm).2), H9.out.2.2.2.2.2.below hb9, ho9⟩
    clear H9
    clear hb9
    clear ho9
    obtain ⟨-, c2x0, c2x1, c2x2⟩ := H10.out.2.2.1
    obtain ⟨-, c5x0, c5x1, c5x2⟩ := H10.out.2.2.2.2.2.1
    go_wp2_with fail
    refine (HES.out _ _ _ _ _ _ _ _ _ H10.out.2.2.2.1 H10.out.2.2.2.2.2.2).mono ?_
    rintro e v10 ⟨rfl, hb10⟩
    clear c2x0 c2x1 c2x2 c5x0 c5x1 c5x2
    have H11 : Hid (Below w.heap.size w v10 ∧ OwnK v10 (v2.heap.size) (n + 1) (.slice ax3 len0 cx3) (ks) fp3 ∧ Arg3 v10 (v3.heap.size) (.int .i64 48) (.string ⟨#[]⟩) (.slice ax3 len0 cx3) ∧ OwnK v10 (u1.heap.size) (n + 1) (.slice ax5 len0 cx5) (ks) fp5 ∧ OwnK v10 (v5.heap.size) (n + 1) (.slice ax6 len0 cx6) (ks) fp6 ∧ Arg3 v10 (v6.heap.size) (.int .i64 48) (.string ⟨#[]⟩) (.slice ax6 len0 cx6)) := ⟨H10.out.1.trans (hb10.mono H10.out.1.size), H10.out.2.1.below hb10 (fun b hm => (OwnK.lt H10.out.2.1 b hm).2), H10.out.2.2.1.below hb10, H10.out.2.2.2.1.below hb10 (fun b hm => (OwnK.lt H10.out.2.2.2.1 b hm).2), H10.out.2.2.2.2.1.below hb10 (fun b hm => (OwnK.lt H10.out.2.2.2.2.1 b hm).2), H10.out.2.2.2.2.2.1.below hb10⟩
    clear H10
    clear hb10
    obtain ⟨-, c2x0, c2x1, c2x2⟩ := H11.out.2.2.1
    obtain ⟨-, c5x0, c5x1, c5x2⟩ := H11.out.2.2.2.2.2
    go_wp2_with fail
    refine (HMS.out _ _ _ _ _ H11.out.2.2.2.1).mono ?_
    rintro e v11 ⟨q, rfl, ho11⟩
    have hq0 : ¬ (q : Int) < 0 := by omega
    clear c2x0 c2x1 c2x2 c5x0 c5x1 c5x2
    have H12 : Hid (Below w.heap.size w v11 ∧ OwnK v11 (v2.heap.size) (n + 1) (.slice ax3 len0 cx3) (ks) fp3 ∧ Arg3 v11 (v3.heap.size) (.int .i64 48) (.string ⟨#[]⟩) (.slice ax3 len0 cx3) ∧ OwnK v11 (v5.heap.size) (n + 1) (.slice ax6 len0 cx6) (ks) fp6 ∧ Arg3 v11 (v6.heap.size) (.int .i64 48) (.string ⟨#[]⟩) (.slice ax6 len0 cx6)) := ⟨Below.out H11.out.1 ho11 (fun b hb => by have h5 := HF5.out b hb; have a1 := HNU.out; have a2 := u1X.out; omega), OwnK.out H11.out.2.1 ho11 (fun b hb hm => by have h3 := HF3.out b hb; have h5 := HF5.out b hm; have a1 := HNU.out; have a2 := u1X.out; omega), Arg3.out H11.out.2.2.1 ho11 (fun hm => by have h5 := HF5.out _ hm; have a1 := HNU.out; have a2 := u1X.out; omega), OwnK.out H11.out.2.2.2.2.1 ho11 (fun b hb hm => by have h6 := HF6.out b hb; have h5 := HF5.out b hm; have a1 := HNU.out; have a2 := u1X.out; omega), Arg3.out H11.out.2.2.2.2.2 ho11 (fun hm => by have h5 := HF5.out _ hm; have a1 := HNU.out; have a2 := u1X.out; omega)⟩
    clear H11 ho11
    obtain ⟨-, c2x0, c2x1, c2x2⟩ := H12.out.2.2.1
    obtain ⟨-, c4x0, c4x1, c4x2⟩ := H12.out.2.2.2.2
    go_wp2_with fail
    refine (HEQ.out _ _ _ _ _ _ _ _ _ H12.out.2.2.2.1 H12.out.2.1).mono ?_
    rintro e v12 ⟨rfl, hb12⟩
    clear c2x0 c2x1 c2x2 c4x0 c4x1 c4x2
    have H13 : Hid (Below w.heap.size w v12 ∧ OwnK v12 (v2.heap.size) (n + 1) (.slice ax3 len0 cx3) (ks) fp3 ∧ Arg3 v12 (v3.heap.size) (.int .i64 48) (.string ⟨#[]⟩) (.slice ax3 len0 cx3) ∧ OwnK v12 (v5.heap.size) (n + 1) (.slice ax6 len0 cx6) (ks) fp6 ∧ Arg3 v12 (v6.heap.size) (.int .i64 48) (.string ⟨#[]⟩) (.slice ax6 len0 cx6)) := ⟨H12.out.1.trans (hb12.mono H12.out.1.size), H12.out.2.1.below hb12 (fun b hm => (OwnK.lt H12.out.2.1 b hm).2), H12.out.2.2.1.below hb12, H12.out.2.2.2.1.below hb12 (fun b hm => (OwnK.lt H12.out.2.2.2.1 b hm).2), H12.out.2.2.2.2.below hb12⟩
    clear H12
    clear hb12
    obtain ⟨-, c2x0, c2x1, c2x2⟩ := H13.out.2.2.1
    obtain ⟨-, c4x0, c4x1, c4x2⟩ := H13.out.2.2.2.2
    go_wp2_with fail
    refine (HMI.out _ _ _ _ _ H13.out.2.2.2.1).mono ?_
    rintro e v13 ⟨rfl, hg13, ho13⟩
    clear c2x0 c2x1 c2x2 c4x0 c4x1 c4x2
    have H14 : Hid (Below w.heap.size w v13 ∧ OwnK v13 (v2.heap.size) (n + 1) (.slice ax3 len0 cx3) (ks) fp3 ∧ Arg3 v13 (v3.heap.size) (.int .i64 48) (.string ⟨#[]⟩) (.slice ax3 len0 cx3) ∧ Arg3 v13 (v6.heap.size) (.int .i64 48) (.string ⟨#[]⟩) (.slice ax6 len0 cx6) ∧ OwnK v13 (v5.heap.size) (n + 1) (.slice ax6 len0 cx6) (ms) fp6) := ⟨Below.out H13.out.1 ho13 (fun b hb => by have h6 := HF6.out b hb; have a1 := HNU.out; have a2 := u1X.out; omega), OwnK.out H13.out.2.1 ho13 (fun b hb hm => by have h3 := HF3.out b hb; have h6 := HF6.out b hm; have a1 := HNU.out; have a2 := u1X.out; omega), Arg3.out H13.out.2.2.1 ho13 (fun hm => by have h6 := HF6.out _ hm; have a1 := HNU.out; have a2 := u1X.out; omega), Arg3.out H13.out.2.2.2.2 ho13 (fun hm => by have h6 := HF6.out _ hm; omega), hg13⟩
    clear H13 ho13
    clear hg13
    have hM0 : ¬ (M : Int) < 0 := by omega
    obtain ⟨-, c2x0, c2x1, c2x2⟩ := H14.out.2.2.1
    obtain ⟨-, c3x0, c3x1, c3x2⟩ := H14.out.2.2.2.1
    go_wp2_with fail
    refine (HHI.out _ _ _ _ _ H14.out.2.2.2.2).mono ?_
    rintro e v14 ⟨rfl, hb14⟩
    clear c2x0 c2x1 c2x2 c3x0 c3x1 c3x2
    have H15 : Hid (Below w.heap.size w v14 ∧ OwnK v14 (v2.heap.size) (n + 1) (.slice ax3 len0 cx3) (ks) fp3 ∧ Arg3 v14 (v3.heap.size) (.int .i64 48) (.string ⟨#[]⟩) (.slice ax3 len0 cx3) ∧ Arg3 v14 (v6.heap.size) (.int .i64 48) (.string ⟨#[]⟩) (.slice ax6 len0 cx6) ∧ OwnK v14 (v5.heap.size) (n + 1) (.slice ax6 len0 cx6) (ms) fp6) := ⟨H14.out.1.trans (hb14.mono H14.out.1.size), H14.out.2.1.below hb14 (fun b hm => (OwnK.lt H14.out.2.1 b hm).2), H14.out.2.2.1.below hb14, H14.out.2.2.2.1.below hb14, H14.out.2.2.2.2.below hb14 (fun b hm => (OwnK.lt H14.out.2.2.2.2 b hm).2)⟩
    clear H14
    clear hb14
    obtain ⟨-, c2x0, c2x1, c2x2⟩ := H15.out.2.2.1
    obtain ⟨-, c3x0, c3x1, c3x2⟩ := H15.out.2.2.2.1
    go_wp2_with fail
    refine (HTO.out _ H15.out.1).mono ?_
    rintro e v15 ⟨ax15, cx15, fp15, rfl, ho15, hb15⟩
    clear c2x0 c2x1 c2x2 c3x0 c3x1 c3x2
    have H16 : Hid (Below w.heap.size w v15 ∧ OwnK v15 (v2.heap.size) (n + 1) (.slice ax3 len0 cx3) (ks) fp3 ∧ Arg3 v15 (v3.heap.size) (.int .i64 48) (.string ⟨#[]⟩) (.slice ax3 len0 cx3) ∧ Arg3 v15 (v6.heap.size) (.int .i64 48) (.string ⟨#[]⟩) (.slice ax6 len0 cx6) ∧ OwnK v15 (v5.heap.size) (n + 1) (.slice ax6 len0 cx6) (ms) fp6 ∧ OwnK v15 (v14.heap.size) (n + 1) (.slice ax15 len0 cx15) (ks) fp15) := ⟨H15.out.1.trans (hb15.mono H15.out.1.size), H15.out.2.1.below hb15 (fun b hm => (OwnK.lt H15.out.2.1 b hm).2), H15.out.2.2.1.below hb15, H15.out.2.2.2.1.below hb15, H15.out.2.2.2.2.below hb15 (fun b hm => (OwnK.lt H15.out.2.2.2.2 b hm).2), ho15⟩
    clear H15
    clear hb15
    clear ho15
    obtain ⟨-, c2x0, c2x1, c2x2⟩ := H16.out.2.2.1
    obtain ⟨-, c3x0, c3x1, c3x2⟩ := H16.out.2.2.2.1
    go_wp2_with fail
    refine (HIM.out _ _ _ _ _ H16.out.2.2.2.2.2).mono ?_
    rintro e v16 ⟨ax16, cx16, fp16, rfl, ho16, hb16⟩
    clear c2x0 c2x1 c2x2 c3x0 c3x1 c3x2
    have H17 : Hid (Below w.heap.size w v16 ∧ OwnK v16 (v2.heap.size) (n + 1) (.slice ax3 len0 cx3) (ks) fp3 ∧ Arg3 v16 (v3.heap.size) (.int .i64 48) (.string ⟨#[]⟩) (.slice ax3 len0 cx3) ∧ Arg3 v16 (v6.heap.size) (.int .i64 48) (.string ⟨#[]⟩) (.slice ax6 len0 cx6) ∧ OwnK v16 (v5.heap.size) (n + 1) (.slice ax6 len0 cx6) (ms) fp6 ∧ OwnK v16 (v15.heap.size) (n + 1) (.slice ax16 len0 cx16) (ks) fp16) := ⟨H16.out.1.trans (hb16.mono H16.out.1.size), H16.out.2.1.below hb16 (fun b hm => (OwnK.lt H16.out.2.1 b hm).2), H16.out.2.2.1.below hb16, H16.out.2.2.2.1.below hb16, H16.out.2.2.2.2.1.below hb16 (fun b hm => (OwnK.lt H16.out.2.2.2.2.1 b hm).2), ho16⟩
    clear H16
    clear hb16
    clear ho16
    obtain ⟨-, c2x0, c2x1, c2x2⟩ := H17.out.2.2.1
    obtain ⟨d2x0, d2x1, d2x2⟩ := Arg3.alloc H17.out.2.2.1
    obtain ⟨-, c3x0, c3x1, c3x2⟩ := H17.out.2.2.2.1
    obtain ⟨d3x0, d3x1, d3x2⟩ := Arg3.alloc H17.out.2.2.2.1
    go_wp2_with fail
    obtain ⟨u5, hu6⟩ : ∃ W, W = v16.alloc (Obj.cells #[Value.int IntKind.i64 48, Value.string { data := #[] }, Value.slice ax16 len0 cx16] 26) := ⟨_, rfl⟩
    rw [← hu6]
    obtain ⟨hu6a, hu6b⟩ := arg3_of hu6
    clear c2x0 c2x1 c2x2 d2x0 d2x1 d2x2 c3x0 c3x1 c3x2 d3x0 d3x1 d3x2
    have H18 : Hid (Below w.heap.size w u5 ∧ OwnK u5 (v2.heap.size) (n + 1) (.slice ax3 len0 cx3) (ks) fp3 ∧ Arg3 u5 (v3.heap.size) (.int .i64 48) (.string ⟨#[]⟩) (.slice ax3 len0 cx3) ∧ Arg3 u5 (v6.heap.size) (.int .i64 48) (.string ⟨#[]⟩) (.slice ax6 len0 cx6) ∧ OwnK u5 (v5.heap.size) (n + 1) (.slice ax6 len0 cx6) (ms) fp6 ∧ OwnK u5 (v15.heap.size) (n + 1) (.slice ax16 len0 cx16) (ks) fp16 ∧ Arg3 u5 (v16.heap.size) (.int .i64 48) (.string ⟨#[]⟩) (.slice ax16 len0 cx16)) := ⟨H17.out.1.trans (hu6b.mono H17.out.1.size), H17.out.2.1.below hu6b (fun b hm => (OwnK.lt H17.out.2.1 b hm).2), H17.out.2.2.1.below hu6b, H17.out.2.2.2.1.below hu6b, H17.out.2.2.2.2.1.below hu6b (fun b hm => (OwnK.lt H17.out.2.2.2.2.1 b hm).2), H17.out.2.2.2.2.2.below hu6b (fun b hm => (OwnK.lt H17.out.2.2.2.2.2 b hm).2), hu6a⟩
    clear H17
    have u5s : u5.heap.size = v16.heap.size + 1 := by rw [hu6]; simp
    have u5S : Hid (u5.heap.size = v16.heap.size + 1) := u5s
    clear hu6 hu6a hu6b u5s
    refine (HEQ.out _ _ _ _ _ _ _ _ _ H18.out.2.2.2.2.2.1 H18.out.2.1).mono ?_
    rintro e v18 ⟨rfl, hb18⟩
    have H19 : Hid (Below w.heap.size w v18 ∧ OwnK v18 (v2.heap.size) (n + 1) (.slice ax3 len0 cx3) (ks) fp3 ∧ Arg3 v18 (v3.heap.size) (.int .i64 48) (.string ⟨#[]⟩) (.slice ax3 len0 cx3) ∧ Arg3 v18 (v6.heap.size) (.int .i64 48) (.string ⟨#[]⟩) (.slice ax6 len0 cx6) ∧ OwnK v18 (v5.heap.size) (n + 1) (.slice ax6 len0 cx6) (ms) fp6 ∧ OwnK v18 (v15.heap.size) (n + 1) (.slice ax16 len0 cx16) (ks) fp16 ∧ Arg3 v18 (v16.heap.size) (.int .i64 48) (.string ⟨#[]⟩) (.slice ax16 len0 cx16)) := ⟨H18.out.1.trans (hb18.mono H18.out.1.size), H18.out.2.1.below hb18 (fun b hm => (OwnK.lt H18.out.2.1 b hm).2), H18.out.2.2.1.below hb18, H18.out.2.2.2.1.below hb18, H18.out.2.2.2.2.1.below hb18 (fun b hm => (OwnK.lt H18.out.2.2.2.2.1 b hm).2), H18.out.2.2.2.2.2.1.below hb18 (fun b hm => (OwnK.lt H18.out.2.2.2.2.2.1 b hm).2), H18.out.2.2.2.2.2.2.below hb18⟩
    clear H18
    clear hb18
    obtain ⟨-, c2x0, c2x1, c2x2⟩ := H19.out.2.2.1
    obtain ⟨-, c3x0, c3x1, c3x2⟩ := H19.out.2.2.2.1
    obtain ⟨-, c6x0, c6x1, c6x2⟩ := H19.out.2.2.2.2.2.2
    go_wp2_with fail
    refine (HHI.out _ _ _ _ _ H19.out.2.2.2.2.1).mono ?_
    rintro e v19 ⟨rfl, hb19⟩
    clear c2x0 c2x1 c2x2 c3x0 c3x1 c3x2 c6x0 c6x1 c6x2
    have H20 : Hid (Below w.heap.size w v19 ∧ OwnK v19 (v2.heap.size) (n + 1) (.slice ax3 len0 cx3) (ks) fp3 ∧ Arg3 v19 (v3.heap.size) (.int .i64 48) (.string ⟨#[]⟩) (.slice ax3 len0 cx3) ∧ Arg3 v19 (v6.heap.size) (.int .i64 48) (.string ⟨#[]⟩) (.slice ax6 len0 cx6) ∧ OwnK v19 (v5.heap.size) (n + 1) (.slice ax6 len0 cx6) (ms) fp6 ∧ OwnK v19 (v15.heap.size) (n + 1) (.slice ax16 len0 cx16) (ks) fp16 ∧ Arg3 v19 (v16.heap.size) (.int .i64 48) (.string ⟨#[]⟩) (.slice ax16 len0 cx16)) := ⟨H19.out.1.trans (hb19.mono H19.out.1.size), H19.out.2.1.below hb19 (fun b hm => (OwnK.lt H19.out.2.1 b hm).2), H19.out.2.2.1.below hb19, H19.out.2.2.2.1.below hb19, H19.out.2.2.2.2.1.below hb19 (fun b hm => (OwnK.lt H19.out.2.2.2.2.1 b hm).2), H19.out.2.2.2.2.2.1.below hb19 (fun b hm => (OwnK.lt H19.out.2.2.2.2.2.1 b hm).2), H19.out.2.2.2.2.2.2.below hb19⟩
    clear H19
    clear hb19
    obtain ⟨-, c2x0, c2x1, c2x2⟩ := H20.out.2.2.1
    obtain ⟨-, c3x0, c3x1, c3x2⟩ := H20.out.2.2.2.1
    obtain ⟨-, c6x0, c6x1, c6x2⟩ := H20.out.2.2.2.2.2.2
    go_wp2_with fail
    go_ret
    exact ⟨rfl, H20.out.1⟩
  · rw [szR_no hz] at E
    clear hz
    go_enter Try.func12, Try.ntmps12
    go_wp2_with fail
    refine E.mono ?_
    rintro e w2 ⟨rfl, hb2⟩
    clear E
    go_wp2_with fail
    go_ret
    exact ⟨rfl, hb2⟩
theorem laidOut_FnExactListItem : laidOutB Try.prog = true := by kernel_rfl
theorem own_FnExactListItem : ownKnob Try.prog.godebug = none := by kernel_rfl
set_option maxRecDepth 100000 in
theorem lifted_FnExactListItem (os : Os) (started : os.Started) (H : Type) (enc : TypeId × Value → H) :
    ReturnsInHanded {} Try.checked os 12 .any (Rows.fnExactListItemSpec.pre6 enc Try.prog Try.f12 Rows.fnExactListItemRow.domain false) (Rows.fnExactListItemSpec.post enc Try.prog Try.f12 false true false false) := by
  refine returnsInHanded_of_change (C := Try.checked) own_FnExactListItem started (by kernel_rfl) Try.func12
    (ChangeSpec.witness6 (enc := enc) (C := Try.checked) false ⟨#[], #[.slice none 0 0], []⟩ 8 (by kernel_rfl) (by kernel_rfl) (by kernel_rfl) (by kernel_rfl)) ?_
  intro W base args ds gs before hval0 hW hcnd _
  have hval : ∀ (j : Nat) t v, Try.f12.params[j]? = some t → args[j]? = some v → Value.okWide Try.prog W .any base t v := hval0
  have hW' := hW
  obtain ⟨p, q, hA0, hV, rfl, hfz, hnd⟩ := hW
  have hA : DataW.TrodAll enc Try.prog W 0 (fun _ => true) true Try.f12.params.toList args.toList ds p := hA0
  rw [Try.params12] at hA hval
  obtain ⟨v0, vs0, d0, ds0, p0, q0, hargs, rfl, rfl, h0, r0⟩ := trodAll_cons hA
  obtain ⟨rfl, rfl, rfl⟩ := trodAll_nil r0
  obtain rfl : args = #[v0] := by cases args; simp_all
  obtain ⟨rfl, rfl⟩ := trodVars_none hV
  obtain ⟨a0, len0, cap0, rfl⟩ := okWide_slice Try.underlying46 (hval 0 46 v0 rfl rfl)
  have k0 := h0
  have lt0 : ∀ x ∈ p0, x.block < W.heap.size := by obtain ⟨m, hm⟩ := k0; exact DataW.trod_lt m _ _ _ hm
  have w0 : ∃ (n : Nat) (ks : List (Der.It (n + 1))), KidsAt W (ItAt W (n + 1)) (.slice a0 len0 cap0) ks ∧ ks.length ≤ 9223372036854775807 ∧ ∀ y ∈ ks, ItWd (n + 1) y := by
    obtain ⟨fuel, hf⟩ := h0
    exact ⟨fuel, kids_of_trod fuel _ _ _ _ hf⟩
  clear hA0 hval0
  simp only [List.append_nil] at hW'
  refine (walk_FnExactListItem a0 len0 cap0 W w0).mono fun e W' ⟨he, bel⟩ => ?_
  subst he
  exact ⟨_, rfl, _, _, _, [], _, [], hW', trodAll_mk1 (shut_bool Try.underlying4 _), (trodAll_cons_mk (Below.trod laidOut_FnExactListItem (by kernel_rfl) (of_decide_eq_true (by kernel_rfl)) k0 bel lt0) trodAll_mk0), rfl, bel.frame _, fun h => by cases h⟩
theorem over_FnExactListItem : Rows.fnExactListItemRow.holds Try.pinned (OpenSpec.ofChange Rows.fnExactListItemSpec) :=
  OpenClaim.holds_of_wide 12 Try.f12 rfl rfl rfl rfl rfl rfl rfl ⟨rfl, rfl, rfl, rfl, rfl⟩ rfl rfl rfl rfl rfl (by kernel_rfl) Try.func12 (by kernel_rfl)
    (of_decide_eq_true (by kernel_rfl)) (by unfold Func.isWrapper; first | (rw [if_pos (by decide +kernel)]; kernel_rfl) | (rw [if_neg (by decide +kernel)]; exact ⟨rfl, rfl⟩))
    (fun os started H enc _ => lifted_FnExactListItem os started H enc)
theorem proved_FnExactListItem : Rows.FnExactListItemSaid := over_FnExactListItem
#print axioms proved_FnExactListItem
end Go.Proofs.Ytbbmobgknnjfbaa
