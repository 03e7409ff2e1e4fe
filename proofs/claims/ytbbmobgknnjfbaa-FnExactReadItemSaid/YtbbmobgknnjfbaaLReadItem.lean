/-
  Proved: FnExactReadItem of chapter 7 holds for every text: the program's ReadItem answers as its model does, and its answer owns its memory, behind another call too.
-/
import Derived.Test.YtbbmobgknnjfbaaRows
import Derived.Test.YtbbmobgknnjfbaaJtO
import Derived.Test.YtbbmobgknnjfbaaItI
import Derived.Test.YtbbmobgknnjfbaaItB
import Derived.ProofKit
import Derived.OpenShut
import Derived.ShutString
namespace Go.Proofs.Ytbbmobgknnjfbaa
open Go.ChangeShapes Go.WideShapes Go.ChangeAt Go.RowKit Der
open Go.ChangeMaps (open_string shut_string)
set_option linter.unusedVariables false

theorem Arg3.out {W W' : World} {g : Nat} {a b c : Value} {fp : List Nat} (h : Arg3 W g a b c) (ho : Out fp W W') (hg : g ∉ fp) : Arg3 W' g a b c := by
  have e := ho.2.2.2.2 g h.1 hg
  exact ⟨Nat.lt_of_lt_of_le h.1 ho.2.2.2.1, (World.cell?_of_block (a := ⟨g, 0, none⟩) e).trans h.2.1, (World.cell?_of_block (a := ⟨g, 1, none⟩) e).trans h.2.2.1, (World.cell?_of_block (a := ⟨g, 2, none⟩) e).trans h.2.2.2⟩
theorem OwnK.out {w w' : World} {base n : Nat} {v : Value} {ks : List (It n)} {fp fq : List Nat} (h : OwnK w base n v ks fp) (ho : Out fq w w') (hd : ∀ b ∈ fp, b ∉ fq) : OwnK w' base n v ks fp :=
  h.same fun b hb => ho.2.2.2.2 b (OwnK.lt h b hb).2 (hd b hb)
theorem Below.out {w W W' : World} {fp : List Nat} (h : Below w.heap.size w W) (ho : Out fp W W') (hf : ∀ b ∈ fp, w.heap.size ≤ b) : Below w.heap.size w W' := h.trans (ho.below hf h.size)
/-- What a ReadItem answers, whether it reads or not. -/
def UPost (n : Nat) (t : Int) (s : ByteArray) (ks : List (It n)) (f : Bool) (w : World) (e : Ending) (w' : World) : Prop := ∃ (ax : Option Addr) (l cx : Nat) (fp : List Nat), e = .returned (.tuple #[.agg #[.int .i64 t, .string s, .slice ax l cx], .bool f]) ∧ OwnK w' w.heap.size n (.slice ax l cx) ks fp ∧ Below w.heap.size w w'
theorem zero_same (n : Nat) : sameI (n + 1) 7 (It.mk 0 [] ([] : List (It n))) (It.mk 0 [] ([] : List (It 6))) = true := by
  unfold sameI
  simp [It.tag_mk, It.text_mk, It.kids_mk]
theorem zero_sz (n : Nat) : szI (n + 1) (It.mk 0 [] ([] : List (It n))) ≤ 4000 := by
  show ([] : List UInt8).length + ([] : List (It n)).length + (([] : List (It n)).map (szI n)).sum ≤ 4000
  simp
/-- Both answer the same. -/
theorem both_read (T : ByteArray) (hT : T.size ≤ 1000000000000) : ∃ (n : Nat) (x : It (n + 1)) (y : It 7) (t : Int) (s : ByteArray) (f : Bool), sameI (n + 1) 7 x y = true ∧ szI (n + 1) x ≤ 4000 ∧ szI 7 y ≤ 4000 ∧ (It.tag x = t ∧ (⟨(It.text x).toArray⟩ : ByteArray) = s) ∧ (It.tag y = t ∧ (⟨(It.text y).toArray⟩ : ByteArray) = s) ∧
    (∀ W, Calls Try.prog 16 #[.string T] W fun e w' => UPost n t s (It.kids x) f W e w') ∧ (∀ W, Calls Try.prog 18 #[.string T] W fun e w' => UPost 6 t s (It.kids y) f W e w') := by
  obtain ⟨n, hn⟩ : ∃ n : Nat, 4000 ≤ n := ⟨4000, Nat.le_refl _⟩
  have EI := fun W => implRead_any n hn T W hT
  have ES := fun W => specRead_any T W hT
  cases hq : readG (n + 1) T.data.toList with
  | none =>
    have hs : readI T.data.toList = none := (readG_none (by omega) _).1 hq
    rw [hq] at EI
    rw [hs] at ES
    refine ⟨n, It.mk 0 [] [], It.mk 0 [] [], 0, ⟨#[]⟩, false, zero_same n, zero_sz n, zero_sz 6, ⟨rfl, rfl⟩, ⟨rfl, rfl⟩, fun W => (EI W).mono ?_, fun W => (ES W).mono ?_⟩
    · rintro e w' ⟨hb, ⟨_, rfl⟩ | ⟨x, t, s, ax, l, cx, fp, h, _⟩⟩
      · exact ⟨none, 0, 0, [], rfl, own_nil _ _ _, hb⟩
      · cases h
    · rintro e w' ⟨hb, ⟨_, rfl⟩ | ⟨x, t, s, ax, l, cx, fp, h, _⟩⟩
      · exact ⟨none, 0, 0, [], rfl, own_nil _ _ _, hb⟩
      · cases h
  | some x =>
    obtain ⟨y, hxy, hy⟩ := readG_same hq
    rw [hq] at EI
    rw [hy] at ES
    obtain ⟨h1, h2, h3, h4⟩ := same_parts hxy
    have hzx : szI (n + 1) x ≤ 4000 := by
      unfold readG at hq
      split at hq
      · cases hq
      · next hl =>
        split at hq
        · cases hq
        · next x' u hr =>
          split at hq
          · injection hq with hq
            subst hq
            have := rdG_sz _ _ _ _ hr
            omega
          · cases hq
    have hzy : szI 7 y ≤ 4000 := by
      obtain ⟨g1, g2⟩ := read_some hy
      have g3 := rdI_sz _ _ _ _ g2
      have g4 := (write_some g1).2.1
      omega
    refine ⟨n, x, y, It.tag x, ⟨(It.text x).toArray⟩, true, hxy, hzx, hzy, ⟨rfl, rfl⟩, ⟨h1.symm, by rw [h2]⟩, fun W => (EI W).mono ?_, fun W => (ES W).mono ?_⟩
    · rintro e w' ⟨hb, ⟨h, _⟩ | ⟨x', t, s, ax, l, cx, fp, h, rfl, _, ht, hs, ho⟩⟩
      · cases h
      · injection h with h
        subst h
        exact ⟨ax, l, cx, fp, by rw [ht, hs], ho, hb⟩
    · rintro e w' ⟨hb, ⟨h, _⟩ | ⟨y', t, s, ax, l, cx, fp, h, rfl, _, ht, hs, ho⟩⟩
      · cases h
      · injection h with h
        subst h
        exact ⟨ax, l, cx, fp, by rw [h1, h2, ht, hs], ho, hb⟩
/-- What goes along: the specification's answer, the program's, and their variables. -/
def RK (w W : World) (g1 g2 B2 n : Nat) (t s K1 K2 : Value) (ys : List (It 6)) (xs : List (It n)) (fp1 fp2 : List Nat) : Prop := Below w.heap.size w W ∧ OwnK W w.heap.size 6 K1 ys fp1 ∧ Arg3 W g1 t s K1 ∧ OwnK W B2 n K2 xs fp2 ∧ Arg3 W g2 t s K2
theorem RK.below {w W W' : World} {g1 g2 B2 n : Nat} {t s K1 K2 : Value} {ys : List (It 6)} {xs : List (It n)} {fp1 fp2 : List Nat} (h : RK w W g1 g2 B2 n t s K1 K2 ys xs fp1 fp2) (hb : Below W.heap.size W W') : RK w W' g1 g2 B2 n t s K1 K2 ys xs fp1 fp2 :=
  ⟨h.1.trans (hb.mono h.1.size), h.2.1.below hb (fun b hm => (OwnK.lt h.2.1 b hm).2), h.2.2.1.below hb, h.2.2.2.1.below hb (fun b hm => (OwnK.lt h.2.2.2.1 b hm).2), h.2.2.2.2.below hb⟩
set_option maxHeartbeats 6400000 in
set_option maxRecDepth 100000 in
theorem walk_FnExactReadItem (T0 : ByteArray) (w : World) (hm : T0.size ≤ maxLen) : Calls Try.prog 7 #[.string T0] w fun e w' => e = .returned (.bool true) ∧ Below w.heap.size w w' := by
  unfold maxLen at hm
  by_cases big : 1048576 < T0.size
  · have bg : (1048576 : Int) < (T0.size : Int) := by omega
    go_enter Try.func7, Try.ntmps7
    go_wp2_with fail
    go_ret
    exact ⟨rfl, Below.refl _ _⟩
  have ng : ¬ (1048576 : Int) < (T0.size : Int) := by omega
  obtain ⟨n, x, y, t, s, f, hxy, hzx, hzy, hx, hy, EI, ES⟩ := both_read T0 (by omega)
  have HI : Hid (∀ W, Calls Try.prog 16 #[.string T0] W fun e w' => UPost n t s (It.kids x) f W e w') := EI
  have HS : Hid (∀ W, Calls Try.prog 18 #[.string T0] W fun e w' => UPost 6 t s (It.kids y) f W e w') := ES
  have hzk : 1 + 2 * szS n (It.kids x) ≤ 1000000000 := by
    have h : (It.text x).length + (It.kids x).length + ((It.kids x).map (szI n)).sum ≤ 4000 := hzx
    show 1 + 2 * ((It.kids x).length + ((It.kids x).map (szI n)).sum) ≤ 1000000000
    omega
  have HEQ : Hid (∀ (W : World) (b1 b2 : Nat) (a1 a2 : Option Addr) (l1 l2 c1 c2 : Nat) (f1 f2 : List Nat), OwnK W b2 n (.slice a2 l2 c2) (It.kids x) f2 → OwnK W b1 6 (.slice a1 l1 c1) (It.kids y) f1 → Calls Try.prog 40 #[.agg #[.int .i64 t, .string s, .slice a2 l2 c2], .agg #[.int .i64 t, .string s, .slice a1 l1 c1]] W fun e w' => e = .returned (.bool true) ∧ Below W.heap.size W w') := fun W b1 b2 a1 a2 l1 l2 c1 c2 f1 f2 h2 h1 => by
    have E := eqItem_any (n + 1) 7 x y (.agg #[.int .i64 t, .string s, .slice a2 l2 c2]) (.agg #[.int .i64 t, .string s, .slice a1 l1 c1]) W ⟨_, by rw [hx.1, hx.2], h2.at⟩ ⟨_, by rw [hy.1, hy.2], h1.at⟩ (by omega) (by omega)
    rw [hxy] at E
    exact E
  obtain ⟨M, hM⟩ : ∃ M, (markL (markI n) 1 (It.kids x)).2 = M := ⟨_, rfl⟩
  obtain ⟨ms, hms⟩ : ∃ ms, (markL (markI n) 1 (It.kids x)).1 = ms := ⟨_, rfl⟩
  have HMI : Hid (∀ (W : World) (ba : Nat) (ax : Option Addr) (l cx : Nat) (fa : List Nat), OwnK W ba n (.slice ax l cx) (It.kids x) fa → Calls Try.prog 42 #[.agg #[.int .i64 t, .string s, .slice ax l cx], .int .i64 1] W fun e w' => e = .returned (.int .i64 (M : Int)) ∧ OwnK w' ba n (.slice ax l cx) ms fa ∧ Out fa W w') := fun W ba ax l cx fa h1 => by
    have h := markItem_any n t s (It.kids x) (.slice ax l cx) fa ba 1 W h1 (Nat.le_refl _) hzk
    unfold MarkPost at h
    rw [hM, hms] at h
    exact h
  have HHI : Hid (∀ (W : World) (ba : Nat) (ax : Option Addr) (l cx : Nat) (fa : List Nat), OwnK W ba n (.slice ax l cx) ms fa → Calls Try.prog 43 #[.agg #[.int .i64 t, .string s, .slice ax l cx], .int .i64 1] W fun e w' => e = .returned (.int .i64 (M : Int)) ∧ Below W.heap.size W w') := fun W ba ax l cx fa h1 => by
    have h := heldItem_any n t s (It.kids x) (.slice ax l cx) 1 W (by rw [hms]; exact h1.at) (Nat.le_refl _) hzk
    rw [hM] at h
    exact h
  clear hM hms EI ES hxy hzx hzy hx hy hzk
  go_enter Try.func7, Try.ntmps7
  go_wp2_with fail
  refine (HS.out _).mono ?_
  rintro e v1 ⟨a1, l1, c1, fp1, rfl, ho1, hb1⟩
  obtain ⟨u1, hu1⟩ : ∃ W, W = v1.alloc (Obj.cells #[Value.int IntKind.i64 t, Value.string s, Value.slice a1 l1 c1] 26) := ⟨_, rfl⟩
  obtain ⟨g1, hg1⟩ : ∃ g, v1.heap.size = g := ⟨_, rfl⟩
  obtain ⟨hA1, hB1⟩ := arg3_of hu1
  have H1 : Hid (Below w.heap.size w u1 ∧ OwnK u1 w.heap.size 6 (.slice a1 l1 c1) (It.kids y) fp1 ∧ Arg3 u1 g1 (.int .i64 t) (.string s) (.slice a1 l1 c1) ∧ (∀ b ∈ fp1, b < g1) ∧ g1 < u1.heap.size) := ⟨hb1.trans (hB1.mono hb1.size), ho1.below hB1 (fun b hm => (OwnK.lt ho1 b hm).2), by rw [← hg1]; exact hA1, fun b hb => by rw [← hg1]; exact (OwnK.lt ho1 b hb).2, by rw [← hg1]; exact hA1.1⟩
  clear ho1 hb1 hA1 hB1
  go_wp2_with fail
  rw [← hu1]
  clear hu1 hg1
  refine (HI.out _).mono ?_
  rintro e v2 ⟨a2, l2, c2, fp2, rfl, ho2, hb2⟩
  obtain ⟨u2, hu2⟩ : ∃ W, W = v2.alloc (Obj.cells #[Value.int IntKind.i64 t, Value.string s, Value.slice a2 l2 c2] 26) := ⟨_, rfl⟩
  obtain ⟨g2, hg2⟩ : ∃ g, v2.heap.size = g := ⟨_, rfl⟩
  obtain ⟨hA2, hB2⟩ := arg3_of hu2
  obtain ⟨B2, hB2e⟩ : ∃ B, u1.heap.size = B := ⟨_, rfl⟩
  have H2 : Hid (RK w u2 g1 g2 B2 n (.int .i64 t) (.string s) (.slice a1 l1 c1) (.slice a2 l2 c2) (It.kids y) (It.kids x) fp1 fp2 ∧ (∀ b ∈ fp1, b < g1) ∧ g1 < B2 ∧ (∀ b ∈ fp2, B2 ≤ b ∧ b < g2) ∧ w.heap.size ≤ B2) := by
    have hb12 : Below u1.heap.size u1 u2 := hb2.trans (hB2.mono hb2.size)
    refine ⟨⟨H1.out.1.trans (hb12.mono H1.out.1.size), H1.out.2.1.below hb12 (fun b hm => (OwnK.lt H1.out.2.1 b hm).2), H1.out.2.2.1.below hb12, ?_, by rw [← hg2]; exact hA2⟩, H1.out.2.2.2.1, by rw [← hB2e]; exact H1.out.2.2.2.2, fun b hb => ?_, by rw [← hB2e]; exact H1.out.1.size⟩
    · rw [← hB2e]; exact ho2.below hB2 (fun b hm => (OwnK.lt ho2 b hm).2)
    · rw [← hB2e, ← hg2]; exact OwnK.lt ho2 b hb
  obtain ⟨-, c10, c11, c12⟩ := H2.out.1.2.2.1
  obtain ⟨-, c20, c21, c22⟩ := H2.out.1.2.2.2.2
  rw [hu2] at c10 c11 c12 c20 c21 c22
  clear ho2 hb2 hA2 hB2 hB2e H1
  go_wp2_with fail
  rw [← hu2]
  clear hg2 hu2 c10 c11 c12 c20 c21 c22
  refine (HEQ.out u2 _ _ _ _ _ _ _ _ _ _ H2.out.1.2.2.2.1 H2.out.1.2.1).mono ?_
  rintro e v3 ⟨rfl, hb3⟩
  replace H2 : Hid (RK w v3 g1 g2 B2 n (.int .i64 t) (.string s) (.slice a1 l1 c1) (.slice a2 l2 c2) (It.kids y) (It.kids x) fp1 fp2 ∧ (∀ b ∈ fp1, b < g1) ∧ g1 < B2 ∧ (∀ b ∈ fp2, B2 ≤ b ∧ b < g2) ∧ w.heap.size ≤ B2) := ⟨H2.out.1.below hb3, H2.out.2⟩
  obtain ⟨-, c20, c21, c22⟩ := H2.out.1.2.2.2.2
  clear hb3
  go_wp2_with fail
  refine (HMI.out v3 _ _ _ _ _ H2.out.1.2.2.2.1).mono ?_
  rintro e v4 ⟨rfl, ho4, hout4⟩
  have H4 : Hid (RK w v4 g1 g2 B2 n (.int .i64 t) (.string s) (.slice a1 l1 c1) (.slice a2 l2 c2) (It.kids y) ms fp1 fp2) := by
    obtain ⟨⟨h1, h2, h3, h4, h5⟩, k1, k2, k3, k4⟩ := H2.out
    exact ⟨Below.out h1 hout4 (fun b hb => by have := (k3 b hb).1; omega), h2.out hout4 (fun b hb hb2 => by have := k1 b hb; have := (k3 b hb2).1; omega), h3.out hout4 (fun hb => by have := (k3 g1 hb).1; omega), ho4, h5.out hout4 (fun hb => by have := (k3 g2 hb).2; omega)⟩
  clear ho4 hout4 H2 c20 c21 c22
  obtain ⟨-, c20, c21, c22⟩ := H4.out.2.2.2.2
  go_wp2_with fail
  refine (HHI.out v4 _ _ _ _ _ H4.out.2.2.2.1).mono ?_
  rintro e v5 ⟨rfl, hb5⟩
  have H5 : Hid (RK w v5 g1 g2 B2 n (.int .i64 t) (.string s) (.slice a1 l1 c1) (.slice a2 l2 c2) (It.kids y) ms fp1 fp2) := H4.out.below hb5
  clear hb5 H4 c20 c21 c22
  have hM0 : ¬ (M : Int) < 0 := by omega
  go_wp2_with fail
  refine (HI.out _).mono ?_
  rintro e v6 ⟨a6, l6, c6, fp6, rfl, ho6, hb6⟩
  obtain ⟨u6, hu6⟩ : ∃ W, W = v6.alloc (Obj.cells #[Value.int IntKind.i64 t, Value.string s, Value.slice a6 l6 c6] 26) := ⟨_, rfl⟩
  obtain ⟨hA6, hB6⟩ := arg3_of hu6
  have H6 : Hid (RK w u6 g1 g2 B2 n (.int .i64 t) (.string s) (.slice a1 l1 c1) (.slice a2 l2 c2) (It.kids y) ms fp1 fp2 ∧ OwnK u6 v5.heap.size n (.slice a6 l6 c6) (It.kids x) fp6 ∧ Arg3 u6 v6.heap.size (.int .i64 t) (.string s) (.slice a6 l6 c6)) := ⟨(H5.out.below hb6).below hB6, ho6.below hB6 (fun b hm => (OwnK.lt ho6 b hm).2), hA6⟩
  obtain ⟨-, c10, c11, c12⟩ := H6.out.1.2.2.1
  obtain ⟨-, c60, c61, c62⟩ := H6.out.2.2
  rw [hu6] at c10 c11 c12 c60 c61 c62
  clear ho6 hb6 hA6 hB6 H5
  go_wp2_with fail
  rw [← hu6]
  clear hu6 c10 c11 c12 c60 c61 c62
  refine (HEQ.out u6 _ _ _ _ _ _ _ _ _ _ H6.out.2.1 H6.out.1.2.1).mono ?_
  rintro e v7 ⟨rfl, hb7⟩
  have H7 : Hid (RK w v7 g1 g2 B2 n (.int .i64 t) (.string s) (.slice a1 l1 c1) (.slice a2 l2 c2) (It.kids y) ms fp1 fp2) := H6.out.1.below hb7
  clear hb7 H6
  obtain ⟨-, c20, c21, c22⟩ := H7.out.2.2.2.2
  go_wp2_with fail
  refine (HHI.out v7 _ _ _ _ _ H7.out.2.2.2.1).mono ?_
  rintro e v8 ⟨rfl, hb8⟩
  have H8 : Hid (Below w.heap.size w v8) := (H7.out.below hb8).1
  clear hb8 H7 c20 c21 c22
  go_wp2_with fail
  go_ret
  exact ⟨rfl, H8.out⟩
theorem own_FnExactReadItem : ownKnob Try.prog.godebug = none := by kernel_rfl
set_option maxRecDepth 100000 in
theorem lifted_FnExactReadItem (os : Os) (started : os.Started) (H : Type) (enc : TypeId × Value → H) :
    ReturnsInHanded {} Try.checked os 7 .any (Rows.fnExactReadItemSpec.pre6 enc Try.prog Try.f7 Rows.fnExactReadItemRow.domain false) (Rows.fnExactReadItemSpec.post enc Try.prog Try.f7 false true false false) := by
  refine returnsInHanded_of_change (C := Try.checked) own_FnExactReadItem started (by kernel_rfl) Try.func7
    (ChangeSpec.witness6 (enc := enc) (C := Try.checked) false ⟨#[], #[.string ByteArray.empty], []⟩ 8 (by kernel_rfl) (by kernel_rfl) (by kernel_rfl) (by kernel_rfl)) ?_
  intro W base args ds gs before hval0 hW hcnd _
  have hval : ∀ (j : Nat) t v, Try.f7.params[j]? = some t → args[j]? = some v → Value.okWide Try.prog W .any base t v := hval0
  have hW' := hW
  obtain ⟨p, q, hA0, hV, rfl, hfz, hnd⟩ := hW
  have hA : DataW.TrodAll enc Try.prog W 0 (fun _ => true) true Try.f7.params.toList args.toList ds p := hA0
  rw [Try.params7] at hA hval
  obtain ⟨v0, vs0, d0, ds0, p0, q0, hargs, rfl, rfl, h0, r0⟩ := trodAll_cons hA
  obtain ⟨rfl, rfl, rfl⟩ := trodAll_nil r0
  obtain rfl : args = #[v0] := by cases args; simp_all
  obtain ⟨rfl, rfl⟩ := trodVars_none hV
  obtain ⟨a0, rfl, rfl, rfl, w0⟩ := open_string Try.underlying9 (hval 0 9 v0 rfl rfl) h0
  clear hA0 hval0
  simp only [List.append_nil] at hW'
  refine (walk_FnExactReadItem a0 W w0).mono fun e W' ⟨he, bel⟩ => ?_
  subst he
  exact ⟨_, rfl, _, _, _, [], _, [], hW', trodAll_mk1 (shut_bool Try.underlying4 _), (trodAll_cons_mk (shut_string Try.underlying9 w0) trodAll_mk0), rfl, bel.frame _, fun h => by cases h⟩
theorem over_FnExactReadItem : Rows.fnExactReadItemRow.holds Try.pinned (OpenSpec.ofChange Rows.fnExactReadItemSpec) :=
  OpenClaim.holds_of_wide 7 Try.f7 rfl rfl rfl rfl rfl rfl rfl ⟨rfl, rfl, rfl, rfl, rfl⟩ rfl rfl rfl rfl rfl (by kernel_rfl) Try.func7 (by kernel_rfl)
    (of_decide_eq_true (by kernel_rfl)) (by unfold Func.isWrapper; first | (rw [if_pos (by decide +kernel)]; kernel_rfl) | (rw [if_neg (by decide +kernel)]; exact ⟨rfl, rfl⟩))
    (fun os started H enc _ => lifted_FnExactReadItem os started H enc)
theorem proved_FnExactReadItem : Rows.FnExactReadItemSaid := over_FnExactReadItem
#print axioms proved_FnExactReadItem
end Go.Proofs.Ytbbmobgknnjfbaa
