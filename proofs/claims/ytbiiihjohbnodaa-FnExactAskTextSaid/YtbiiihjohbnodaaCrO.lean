/-
  A row of items that is built at once out of its kids.
-/
import Derived.Test.YtbiiihjohbnodaaCrF
namespace Go.Proofs.Ytbiiihjohbnodaa
open Go.RowKit Der
set_option linter.unusedVariables false

/-- Items one by one, each with the blocks that its kids take. -/
def RowsK (W : World) (b n : Nat) : List (It (n + 1)) → List Value → List (List Nat) → Prop
  | [], [], [] => True
  | x :: ks, v :: kvs, fp :: fps => OwnK W b n v (It.kids x) fp ∧ RowsK W b n ks kvs fps
  | _, _, _ => False
theorem RowsK.each {W : World} {b n : Nat} : ∀ {ks : List (It (n + 1))} {kvs : List Value} {fps : List (List Nat)}, RowsK W b n ks kvs fps → ks.length = kvs.length ∧ ks.length = fps.length ∧ ∀ j (h1 : j < ks.length) (h2 : j < kvs.length) (h3 : j < fps.length), OwnK W b n kvs[j] (It.kids ks[j]) fps[j]
  | [], [], [], _ => ⟨rfl, rfl, fun j h => absurd h (Nat.not_lt_zero _)⟩
  | [], _ :: _, _, h => h.elim
  | [], [], _ :: _, h => h.elim
  | _ :: _, [], _, h => h.elim
  | _ :: _, _ :: _, [], h => h.elim
  | x :: ks, v :: kvs, fp :: fps, ⟨h, r⟩ => by
    obtain ⟨h1, h2, h3⟩ := RowsK.each r
    refine ⟨by simp [h1], by simp [h2], fun j a b c => ?_⟩
    cases j with
    | zero => exact h
    | succ j => exact h3 j (by simpa using a) (by simpa using b) (by simpa using c)
theorem RowsK.grow {W W' : World} {b n cap : Nat} {ks : List (It (n + 1))} {kvs : List Value} {fps : List (List Nat)} (h : RowsK W b n ks kvs fps) (hb : b ≤ W.heap.size) (hnd : fps.flatten.Nodup) (hl : ks.length ≤ 1000) (hc : cap = ks.length)
    (hW : W' = W.alloc (.cells (cellsK ks kvs).toArray 67)) : GrowK W' b n (.slice (some ⟨W.heap.size, 0, none⟩) cap cap) ks := by
  subst hc
  obtain ⟨h1, h2, h3⟩ := h.each
  have hbel : Below W.heap.size W W' := by rw [hW]; exact (Below.refl _ _).alloc (Nat.le_refl _) _
  refine ⟨kvs, fps, h1, h2, ?_, hnd, ?_, fun j a c d => ?_⟩
  · rw [hW]
    exact ⟨by rw [cellsK_len h1], .inr ⟨W.heap.size, ks.length, (cellsK ks kvs).toArray, rfl, hb, heap_alloc_new W _, Nat.le_refl _, by unfold maxLen; omega, by rw [List.size_toArray, cellsK_len h1], List.take_of_length_le (by rw [cellsK_len h1]; exact Nat.le_refl _)⟩⟩
  · intro g hg hm
    simp only [Value.ownBlock, Option.some.injEq] at hg
    obtain ⟨l, m1, m2⟩ := List.mem_flatten.1 hm
    obtain ⟨j, hj, rfl⟩ := List.getElem_of_mem m1
    have := (OwnK.lt (h3 j (by omega) (by omega) hj) g m2).2
    omega
  · exact (h3 j a c d).below hbel (fun x hx => (OwnK.lt (h3 j a c d) x hx).2)
theorem text_back (s : ByteArray) : (⟨s.data.toList.toArray⟩ : ByteArray) = s := by simp
theorem ints_at {W W' : World} {a b : Int} {t : TypeId} (hW : W' = W.alloc (Obj.cells #[.int .i64 a, .int .i64 b] t)) : IntAt W' (.slice (some ⟨W.heap.size, 0, none⟩) 2 2) [a, b] := by
  refine ⟨some ⟨W.heap.size, 0, none⟩, 2, rfl, fun _ => ⟨W.heap.size, rfl, by rw [hW, size_alloc]; omega, fun j hj => ?_⟩⟩
  rw [hW]
  match j, hj with
  | 0, _ => simp
  | 1, _ => simp
/-- A list's kids, made between two sizes of the heap. -/
def LK (W : World) (lo : Nat) (kv : Value) (x : It 2) (fp : List Nat) (hi : Nat) : Prop := OwnK W lo 1 kv (It.kids x) fp ∧ (∀ b ∈ fp, b < hi) ∧ hi ≤ W.heap.size
theorem LK.below {W W' : World} {lo hi : Nat} {kv : Value} {x : It 2} {fp : List Nat} (h : LK W lo kv x fp hi) (hb : Below W.heap.size W W') : LK W' lo kv x fp hi :=
  ⟨h.1.below hb (fun b hm => Nat.lt_of_lt_of_le (h.2.1 b hm) h.2.2), h.2.1, Nat.le_trans h.2.2 hb.size⟩
theorem LK.made {W W' : World} {kv : Value} {x : It 2} {fp : List Nat} (h : OwnK W' W.heap.size 1 kv (It.kids x) fp) : LK W' W.heap.size kv x fp W'.heap.size :=
  ⟨h, fun b hm => (OwnK.lt h b hm).2, Nat.le_refl _⟩
theorem LK.lo {W : World} {lo hi : Nat} {kv : Value} {x : It 2} {fp : List Nat} (h : LK W lo kv x fp hi) : ∀ b ∈ fp, lo ≤ b := fun b hm => (OwnK.lt h.1 b hm).1
theorem four_nodup {a b c d : List Nat} {p q r : Nat} (ha : a.Nodup) (hb : b.Nodup) (hc : c.Nodup) (hd : d.Nodup) (a1 : ∀ x ∈ a, x < p) (b0 : ∀ x ∈ b, p ≤ x) (b1 : ∀ x ∈ b, x < q) (c0 : ∀ x ∈ c, q ≤ x) (c1 : ∀ x ∈ c, x < r) (d0 : ∀ x ∈ d, r ≤ x) (hpq : p ≤ q) (hqr : q ≤ r) : (a ++ (b ++ (c ++ d))).Nodup := by
  refine nodup_app ha (nodup_app hb (nodup_app hc hd fun x h1 h2 => ?_) fun x h1 h2 => ?_) fun x h1 h2 => ?_
  · have := c1 x h1; have := d0 x h2; omega
  · have := b1 x h1
    rcases List.mem_append.1 h2 with h2 | h2
    · have := c0 x h2; omega
    · have := d0 x h2; omega
  · have := a1 x h1
    rcases List.mem_append.1 h2 with h2 | h2
    · have := b0 x h2; omega
    · rcases List.mem_append.1 h2 with h2 | h2
      · have := c0 x h2; omega
      · have := d0 x h2; omega
theorem body_row {W W' : World} {b : Nat} {c : Ct} {kT kP kE kD : Value} {fT fP fE fD : List Nat} {l0 h0 l1 h1 l2 h2 l3 h3 : Nat} {FL : ByteArray} (hFL : FL = ⟨[if c.ca then 255 else 0].toArray⟩) (hT : LK W l0 kT (lstJ [intI c.frm, intI c.upto]) fT h0) (hP : LK W l1 kP (lstJ (c.pol.map intI)) fP h1) (hE : LK W l2 kE (lstJ (c.per.map txtJ)) fE h2) (hD : LK W l3 kD (lstJ (c.den.map txtJ)) fD h3)
    (b0 : b ≤ l0) (b1 : b ≤ l1) (b2 : b ≤ l2) (b3 : b ≤ l3) (o1 : h0 ≤ l1) (o2 : h1 ≤ l2) (o3 : h2 ≤ l3) (lh1 : l1 ≤ l2) (lh2 : l2 ≤ l3) (hb : b ≤ W.heap.size)
    (hW : W' = W.alloc (.cells (.int .i64 2 :: .string ⟨(intT (numN c.serial)).toArray⟩ :: .slice none 0 0 :: .int .i64 12 :: .string c.issuer :: .slice none 0 0 :: .int .i64 48 :: .string ⟨#[]⟩ :: kT :: .int .i64 12 :: .string c.subject :: .slice none 0 0 :: .int .i64 4 :: .string c.key :: .slice none 0 0 :: .int .i64 1 :: .string FL :: .slice none 0 0 :: .int .i64 2 :: .string ⟨(intT (numN c.pathLen)).toArray⟩ :: .slice none 0 0 :: .int .i64 2 :: .string ⟨(intT (numN c.usage)).toArray⟩ :: .slice none 0 0 :: .int .i64 48 :: .string ⟨#[]⟩ :: kP :: .int .i64 48 :: .string ⟨#[]⟩ :: kE :: .int .i64 48 :: .string ⟨#[]⟩ :: kD :: []).toArray 67)) :
    ∃ fp, OwnK W' b 2 (.slice (some ⟨W.heap.size, 0, none⟩) 11 11) (It.kids (bodyC c)) fp := by
  subst hFL
  have nn := fun v => own_none W v 1
  have R : RowsK W b 1 (It.kids (bodyC c)) [.slice none 0 0, .slice none 0 0, kT, .slice none 0 0, .slice none 0 0, .slice none 0 0, .slice none 0 0, .slice none 0 0, kP, kE, kD] [[], [], fT, [], [], [], [], [], fP, fE, fD] :=
    ⟨nn b, nn b, OwnK.base b0 hT.1, nn b, nn b, nn b, nn b, nn b, OwnK.base b1 hP.1, OwnK.base b2 hE.1, OwnK.base b3 hD.1, trivial⟩
  refine (R.grow (cap := 11) hb ?_ (by show 11 ≤ 1000; decide) rfl ?_).own
  · have := four_nodup hT.1.nodup hP.1.nodup hE.1.nodup hD.1.nodup (p := l1) (q := l2) (r := l3) (fun x hx => Nat.lt_of_lt_of_le (hT.2.1 x hx) o1) hP.lo (fun x hx => Nat.lt_of_lt_of_le (hP.2.1 x hx) o2) hE.lo (fun x hx => Nat.lt_of_lt_of_le (hE.2.1 x hx) o3) hD.lo lh1 lh2
    simpa using this
  · rw [hW]
    congr 2
/-- A list that a call has made, its row's shape in sight. -/
theorem to_lst {w w' : World} {ks : List (It 1)} {e : Ending} (h : ToIt w 1 (lstJ ks) e w') : ∃ (a : Option Addr) (l cx : Nat) (fp : List Nat), e = .returned (.agg #[.int .i64 48, .string ⟨#[]⟩, .slice a l cx]) ∧ OwnK w' w.heap.size 1 (.slice a l cx) (It.kids (lstJ ks)) fp ∧ Below w.heap.size w w' := by
  obtain ⟨k, fp, rfl, ho, hb⟩ := h
  obtain ⟨a, cx, rfl⟩ := ho.shape
  exact ⟨a, _, cx, fp, rfl, ho, hb⟩
theorem flagFL {P : Program} {f : Nat} {a : Array Value} {w : World} {c : Ct} {FL : ByteArray} (E : Calls P f a w fun e w' => e = .returned (.agg #[.int .i64 1, .string ⟨[if c.ca then 255 else 0].toArray⟩, .slice none 0 0]) ∧ Below w.heap.size w w') (h : FL = ⟨[if c.ca then 255 else 0].toArray⟩) :
    Calls P f a w fun e w' => e = .returned (.agg #[.int .i64 1, .string FL, .slice none 0 0]) ∧ Below w.heap.size w w' := by
  rw [h]; exact E
theorem times_row {W W' : World} {c : Ct} (hW : W' = W.alloc (.cells #[.int .i64 2, .string ⟨(intT (numN c.frm)).toArray⟩, .slice none 0 0, .int .i64 2, .string ⟨(intT (numN c.upto)).toArray⟩, .slice none 0 0] 67)) :
    ∃ fp, LK W' W.heap.size (.slice (some ⟨W.heap.size, 0, none⟩) 2 2) (lstJ [intI c.frm, intI c.upto]) fp W'.heap.size := by
  have R : RowsK W W.heap.size 0 [intI c.frm, intI c.upto] [.slice none 0 0, .slice none 0 0] [[], []] := ⟨own_none W _ 0, own_none W _ 0, trivial⟩
  obtain ⟨fp, h⟩ := (R.grow (W' := W') (cap := 2) (Nat.le_refl _) (by simp) (by show 2 ≤ 1000; decide) rfl (by rw [hW]; rfl)).own
  exact ⟨fp, h, fun x hx => (OwnK.lt h x hx).2, Nat.le_refl _⟩
theorem LK.laid {W : World} {lo hi g : Nat} {kv : Value} {x : It 2} {fp : List Nat} (h : LK W lo kv x fp hi) (hg : ∀ b ∈ fp, b ≠ g) (p q r : Value) : LK (((W.setCell ⟨g, 0, none⟩ p).setCell ⟨g, 1, none⟩ q).setCell ⟨g, 2, none⟩ r) lo kv x fp hi := by
  refine ⟨h.1.same fun b hb => ?_, h.2.1, ?_⟩
  · rw [heap_setCell_other _ _ _ _ (hg b hb), heap_setCell_other _ _ _ _ (hg b hb), heap_setCell_other _ _ _ _ (hg b hb)]
  · refine Nat.le_trans h.2.2 ?_
    exact ((((Below.refl 0 W).setCell (p := ⟨g, 0, none⟩) (Nat.zero_le _) p).setCell (p := ⟨g, 1, none⟩) (Nat.zero_le _) q).setCell (p := ⟨g, 2, none⟩) (Nat.zero_le _) r).size
end Go.Proofs.Ytbiiihjohbnodaa
