/-
  Texts of the proof, one behind the other: ClU, ClT.
-/
import Derived.Deep.RegionHeld3
import Derived.Test.YtplblechcnbieaaGreatSK26
import Derived.Test.YtplblechcnbieaaGreatSK35
import Derived.Test.YtplblechcnbieaaGreatSK36
import Derived.Test.YtplblechcnbieaaGreatSK37
import Derived.Test.YtplblechcnbieaaGreatSK39
import Derived.Test.YtplblechcnbieaaGreatSK40

/-
  The specification's l10Item.
-/
namespace Go.Proofs.YtplblechcnbieaaGreat
open Go.RowKit Der
set_option linter.unusedVariables false

/-- Where l10Item stands: the list, the result, and the items of what was called back, each in a variable's block. -/
def KM (w W : World) (a : Array Value) (kv : Value) : Prop := Below w.heap.size w W ∧ Blk W w.heap.size 57 a ∧ (∃ x y z, Blk3 W (w.heap.size + 1) x y z) ∧ Blk3 W (w.heap.size + 1 + 1) (.int .i64 48) (.string ⟨#[]⟩) kv
theorem KM.below {w W W' : World} {a : Array Value} {kv : Value} (h : KM w W a kv) (hb : Below W.heap.size W W') : KM w W' a kv := by
  obtain ⟨h1, h2, ⟨x, y, z, h3⟩, h4⟩ := h
  exact ⟨h1.trans (hb.mono h1.size), h2.below hb h2.lt, ⟨x, y, z, h3.below hb⟩, h4.below hb⟩
theorem KM.size {w W : World} {a : Array Value} {kv : Value} (h : KM w W a kv) : w.heap.size + 3 ≤ W.heap.size := by
  have := h.2.2.2.lt
  omega
theorem KM.grown {w W W' : World} {a : Array Value} {kv : Value} {row : Option Nat} (h : KM w W a kv) (hg : W.grownBy W' row) (hr : ∀ q, row = some q → w.heap.size + 3 ≤ q) : KM w W' a kv := by
  obtain ⟨h1, h2, ⟨x, y, z, h3⟩, h4⟩ := h
  exact ⟨h1.grown hg h1.size (fun q hq => by have := hr q hq; omega), (hg.block _ h2.lt (fun e => by have := hr _ e.symm; omega)).trans h2, ⟨x, y, z, h3.grown hg (fun e => by have := hr _ e.symm; omega)⟩, h4.grown hg (fun e => by have := hr _ e.symm; omega)⟩
theorem KM.laid {w W : World} {a : Array Value} {kv : Value} (h : KM w W a kv) (k : Value) : KM w (W.setCell ⟨w.heap.size + 1 + 1, 2, none⟩ k) a k := by
  obtain ⟨h1, h2, ⟨x, y, z, h3⟩, h4⟩ := h
  exact ⟨h1.setCell (p := ⟨w.heap.size + 1 + 1, 2, none⟩) (by show w.heap.size ≤ w.heap.size + 1 + 1; omega) _, h2.other (p := ⟨w.heap.size + 1 + 1, 2, none⟩) _ (by show w.heap.size ≠ w.heap.size + 1 + 1; omega), ⟨x, y, z, h3.other (p := ⟨w.heap.size + 1 + 1, 2, none⟩) (by show w.heap.size + 1 ≠ w.heap.size + 1 + 1; omega) _⟩, h4.set _⟩
theorem KM.set {w W : World} {a : Array Value} {kv : Value} (h : KM w W a kv) (p q r : Value) : KM w (((W.setCell ⟨w.heap.size + 1, 0, none⟩ p).setCell ⟨w.heap.size + 1, 1, none⟩ q).setCell ⟨w.heap.size + 1, 2, none⟩ r) a kv := by
  obtain ⟨h1, h2, ⟨x, y, z, h3⟩, h4⟩ := h
  refine ⟨((h1.setCell (p := ⟨w.heap.size + 1, 0, none⟩) (Nat.le_succ _) _).setCell (p := ⟨w.heap.size + 1, 1, none⟩) (Nat.le_succ _) _).setCell (p := ⟨w.heap.size + 1, 2, none⟩) (Nat.le_succ _) _, ?_, ⟨p, q, r, ?_⟩, ?_⟩
  · have ne : w.heap.size ≠ w.heap.size + 1 := by omega
    exact ((h2.other _ ne).other _ ne).other _ ne
  · have e := (((show Blk W (w.heap.size + 1) 122 #[x, y, z] from h3).set 0 p).set 1 q).set 2 r
    exact e
  · have ne : w.heap.size + 1 + 1 ≠ w.heap.size + 1 := by omega
    exact ((h4.other (p := ⟨w.heap.size + 1, 0, none⟩) ne _).other (p := ⟨w.heap.size + 1, 1, none⟩) ne _).other (p := ⟨w.heap.size + 1, 2, none⟩) ne _
theorem KM.start (w : World) (a : Array Value) (W : World) (hW : W = ((w.alloc (Obj.cells a 57)).alloc (Obj.cells #[Value.int IntKind.i64 0, Value.string ⟨#[]⟩, Value.slice none 0 0] 122)).alloc (Obj.cells #[Value.int IntKind.i64 48, Value.string ⟨#[]⟩, Value.slice none 0 0] 122)) : KM w W a (.slice none 0 0) := by
  have e0 : (w.alloc (Obj.cells a 57)).heap.size = w.heap.size + 1 := Array.size_push _
  have e1 : ((w.alloc (Obj.cells a 57)).alloc (Obj.cells #[Value.int IntKind.i64 0, Value.string ⟨#[]⟩, Value.slice none 0 0] 122)).heap.size = w.heap.size + 1 + 1 := by rw [size_alloc, e0]
  refine ⟨by rw [hW]; exact (((Below.refl _ _).alloc (Nat.le_refl _) _).alloc (by rw [e0]; omega) _).alloc (by rw [e1]; omega) _, by rw [hW]; exact ((Blk.new w _ _).alloc _).alloc _, ⟨.int .i64 0, .string ⟨#[]⟩, .slice none 0 0, ?_⟩, ?_⟩
  · have h := heap_alloc_new (w.alloc (Obj.cells a 57)) (Obj.cells #[Value.int IntKind.i64 0, Value.string ⟨#[]⟩, Value.slice none 0 0] 122)
    rw [e0] at h
    rw [hW]
    exact (heap_alloc_old _ _ (by rw [e1]; omega)).trans h
  · have h := heap_alloc_new ((w.alloc (Obj.cells a 57)).alloc (Obj.cells #[Value.int IntKind.i64 0, Value.string ⟨#[]⟩, Value.slice none 0 0] 122)) (Obj.cells #[Value.int IntKind.i64 48, Value.string ⟨#[]⟩, Value.slice none 0 0] 122)
    rw [e1] at h
    rw [hW]
    exact h
/-- The same, whatever items there are. -/
def KX (w W : World) (a : Array Value) : Prop := ∃ kv, KM w W a kv
theorem KX.below {w W W' : World} {a : Array Value} (h : KX w W a) (hb : Below W.heap.size W W') : KX w W' a := by
  obtain ⟨kv, h⟩ := h
  exact ⟨kv, h.below hb⟩
theorem bodyL_row {W W' : World} {b : Nat} {c : Cl} {kv : Value} {fp : List Nat} (h : OwnK W b 2 kv (c.revs.map revI) fp) (hb : b ≤ W.heap.size) (hW : W' = W.alloc (.cells (.int .i64 12 :: .string c.issuer :: .slice none 0 0 :: .int .i64 2 :: .string ⟨(intT (numN c.num)).toArray⟩ :: .slice none 0 0 :: .int .i64 2 :: .string ⟨(intT (numN c.ths)).toArray⟩ :: .slice none 0 0 :: .int .i64 2 :: .string ⟨(intT (numN c.nxt)).toArray⟩ :: .slice none 0 0 :: .int .i64 2 :: .string ⟨(intT (numN c.bas)).toArray⟩ :: .slice none 0 0 :: .int .i64 48 :: .string ⟨#[]⟩ :: kv :: []).toArray 122)) : ∃ fq, OwnK W' b 3 (.slice (some ⟨W.heap.size, 0, none⟩) 6 6) (It.kids (bodyL c)) fq := by
  have nn := own_none W b 2
  have R : RowsK W b 2 (It.kids (bodyL c)) [.slice none 0 0, .slice none 0 0, .slice none 0 0, .slice none 0 0, .slice none 0 0, kv] [[], [], [], [], [], fp] := ⟨nn, nn, nn, nn, nn, h, trivial⟩
  exact (R.grow (W' := W') (cap := 6) hb (by have := h.nodup; simpa using this) (by show 6 ≤ 1000; decide) rfl (by rw [hW]; rfl)).own
set_option maxHeartbeats 12800000 in
set_option maxRecDepth 100000 in
theorem l10Item_any (c : Cl) (v : Value) (w : World) (hz : wtL c ≤ 20000000) (hw : WdL c) (ha : ClAt w v c) : Calls Tryz.prog 86 #[v] w fun e w' => ToIt w 3 (bodyL c) e w' := by
  obtain ⟨z1, z2, z3⟩ := wtL_parts hz
  obtain ⟨pv, rfl, hrv⟩ := ha
  obtain ⟨pa, pc, hpa, hcell⟩ := hrv
  have w1 := hw.1 c.num (by simp)
  have w2 := hw.1 c.ths (by simp)
  have w3 := hw.1 c.nxt (by simp)
  have w4 := hw.1 c.bas (by simp)
  have HN : Hid ((-9223372036854775808 ≤ c.num ∧ c.num ≤ 9223372036854775807) ∧ (-9223372036854775808 ≤ c.ths ∧ c.ths ≤ 9223372036854775807) ∧ (-9223372036854775808 ≤ c.nxt ∧ c.nxt ≤ 9223372036854775807) ∧ (-9223372036854775808 ≤ c.bas ∧ c.bas ≤ 9223372036854775807)) := ⟨w1, w2, w3, w4⟩
  obtain ⟨lp, hlp⟩ : ∃ l, c.revs.length = l := ⟨_, rfl⟩
  rw [hlp] at hpa z2
  subst hpa
  have HX : Hid ((∀ j, j < c.revs.length → ∃ g, pa = some ⟨g, 0, none⟩ ∧ g < w.heap.size ∧ w.cell? ⟨g, j * 2, none⟩ = some (.int .i64 (c.revs.getD j (0, 0)).1) ∧ w.cell? ⟨g, j * 2 + 1, none⟩ = some (.int .i64 (c.revs.getD j (0, 0)).2)) ∧ c.revs.length = lp ∧ WdR c.revs) := ⟨hcell, hlp, hw.2.1⟩
  clear hcell hlp hw w1 w2 w3 w4 hz z1 z3
  obtain ⟨ks, hks⟩ : ∃ ks : List (It 2), c.revs.map revI = ks := ⟨_, rfl⟩
  have HK0 : Hid (c.revs.map revI = ks ∧ ks.length = lp) := ⟨hks, by rw [← hks, List.length_map]; exact HX.out.2.1⟩
  clear hks
  unfold clV
  go_enter Tryz.func86, Tryz.ntmps86
  go_wp2_with fail
  obtain ⟨W3, hW3⟩ : ∃ W, W = ((w.alloc (Obj.cells #[.string c.issuer, .int .i64 c.num, .int .i64 c.ths, .int .i64 c.nxt, .int .i64 c.bas, .slice pa lp pc, .string c.sig] 57)).alloc (Obj.cells #[Value.int IntKind.i64 0, Value.string ⟨#[]⟩, Value.slice none 0 0] 122)).alloc (Obj.cells #[Value.int IntKind.i64 48, Value.string ⟨#[]⟩, Value.slice none 0 0] 122) := ⟨_, rfl⟩
  rw [← hW3]
  have H3 : Hid (KM w W3 #[.string c.issuer, .int .i64 c.num, .int .i64 c.ths, .int .i64 c.nxt, .int .i64 c.bas, .slice pa lp pc, .string c.sig] (.slice none 0 0)) := KM.start w _ W3 hW3
  clear hW3
  go_loopw [4] (fun iv wr => ∃ k : Nat, k ≤ lp ∧ iv = .int .i64 k ∧ Hid (∃ kv : Value, KM w wr #[.string c.issuer, .int .i64 c.num, .int .i64 c.ths, .int .i64 c.nxt, .int .i64 c.bas, .slice pa lp pc, .string c.sig] (kv) ∧ GrowK wr (w.heap.size + 3) 1 kv (ks.take k))) (fun iv _ => lp - (intOf iv).toNat)
  case atStart => exact ⟨0, Nat.zero_le _, rfl, _, H3.out, GrowK.nil _ _ _⟩
  case round =>
    obtain ⟨k, hk, rfl, HR⟩ := hrel
    obtain ⟨kv, hr1, hrG⟩ := HR.out
    have HK : Hid (KM w wr #[.string c.issuer, .int .i64 c.num, .int .i64 c.ths, .int .i64 c.nxt, .int .i64 c.bas, .slice pa lp pc, .string c.sig] (kv) ∧ GrowK wr (w.heap.size + 3) 1 kv (ks.take k)) := ⟨hr1, hrG⟩
    clear HR hr1 hrG H3
    have y5 : wr.cell? ⟨w.heap.size, 5, none⟩ = some (.slice pa lp pc) := HK.out.1.2.1.cell 5
    by_cases hlt : k < lp
    · have hlti : (k : Int) < (lp : Int) := by omega
      have hk0 : (0 : Int) ≤ (k : Int) := by omega
      have hj0 : k < c.revs.length := by rw [HX.out.2.1]; exact hlt
      have hj1 : k < ks.length := by rw [HK0.out.2]; exact hlt
      obtain ⟨g1, hax, hg1, hc1, hc2⟩ := HX.out.1 k hj0
      have c10 : wr.cell? ⟨g1, k * 2, none⟩ = some (.int .i64 (c.revs.getD k (0, 0)).1) := (HK.out.1.1.cell (p := ⟨g1, k * 2, none⟩) hg1).trans hc1
      have c11 : wr.cell? ⟨g1, k * 2 + 1, none⟩ = some (.int .i64 (c.revs.getD k (0, 0)).2) := (HK.out.1.1.cell (p := ⟨g1, k * 2 + 1, none⟩) hg1).trans hc2
      have hm := HX.out.2.2 _ (getR_mem hj0)
      have hkx : ks[k] = revI ((c.revs.getD k (0, 0)).1, (c.revs.getD k (0, 0)).2) := by
        have h := HK0.out.1
        subst h
        simp [List.getD, hj0]
      generalize (c.revs.getD k (0, 0)).1 = s at *
      generalize (c.revs.getD k (0, 0)).2 = r at *
      have HT : Hid (It.tag ks[k] = 48 ∧ (⟨(It.text ks[k]).toArray⟩ : ByteArray) = ⟨#[]⟩ ∧ It.kids ks[k] = [intI s, intI r]) := by
        rw [hkx]
        exact ⟨rfl, rfl, rfl⟩
      have HWD : Hid (Wd [s, r]) := fun x hx => by
        simp only [List.mem_cons, List.not_mem_nil, or_false] at hx
        rcases hx with rfl | rfl
        · exact hm.1
        · exact hm.2
      have htl : (ks.take k).length = k := by rw [List.length_take]; omega
      have hsz3 := HK.out.1.size
      have HG1 : Hid (g1 < w.heap.size ∧ w.heap.size + 3 ≤ wr.heap.size) := ⟨hg1, hsz3⟩
      subst hax
      obtain ⟨⟨_, _, y2⟩, fy⟩ := cell_in HK.out.1.2.2.2
      have HC : Hid (w.cell? ⟨g1, k * 2, none⟩ = some (.int .i64 s) ∧ w.cell? ⟨g1, k * 2 + 1, none⟩ = some (.int .i64 r)) := ⟨hc1, hc2⟩
      have HNE : Hid (∀ q, q < w.heap.size + 3 → some q ≠ kv.ownBlock) := fun q hq e => by have := (HK.out.2.lt q e.symm).1; omega
      have HB : Hid (Below wr.heap.size wr wr.drew) := (Below.refl _ _).drew
      have HG : Hid (Blk3 wr.drew (w.heap.size + 1 + 1) (.int .i64 48) (.string ⟨#[]⟩) kv) := HK.out.1.2.2.2.below ((Below.refl _ _).drew)
      clear hc1 hc2 hg1 hkx hm hsz3 y2 fy
      go_wp2_with fail
      refine wp_region_held_drew (S := fun W => KX w W #[.string c.issuer, .int .i64 c.num, .int .i64 c.ths, .int .i64 c.nxt, .int .i64 c.bas, .slice (some ⟨g1, 0, none⟩) lp pc, .string c.sig]) (by kernel_rfl) (KX.below ⟨_, HK.out.1⟩ ((Below.refl _ _).drew)) (fun hHeld => ?_)
      generalize wr.drew = Wd0 at hHeld HB HG ⊢
      clear y5 c10 c11
      refine wpAnyH_take (i := 0) (oi := ⟨some 13, _, _, _, _, _⟩) (v := ?_) rfl (by kernel_rfl) (by kernel_rfl) (by kernel_rfl) (fun _ _ _ h => h) (Or.inl ⟨by rfl, ?_⟩) hHeld ?_
      rotate_left
      · intro W hSw
        go_simp
        try with_reducible rfl
      try simp only [Act.put, List.setIfInBounds_toArray, List.set_cons_zero, List.set_cons_succ]
      refine wpAnyH_take (i := 2) (oi := ⟨some 15, _, _, _, _, _⟩) (v := ?_) rfl (by kernel_rfl) (by kernel_rfl) (by kernel_rfl) (fun _ _ _ h => h) (Or.inl ⟨by rfl, ?_⟩) hHeld ?_
      rotate_left
      · intro W hSw
        go_simp
        try with_reducible rfl
      try simp only [Act.put, List.setIfInBounds_toArray, List.set_cons_zero, List.set_cons_succ]
      refine wpAnyH_take (i := 3) (oi := ⟨some 16, _, _, _, _, _⟩) (v := ?_) rfl (by kernel_rfl) (by kernel_rfl) (by kernel_rfl) (fun _ _ _ h => h) (Or.inl ⟨by rfl, ?_⟩) hHeld ?_
      rotate_left
      · intro W hSw
        obtain ⟨_, hS1⟩ := hSw
        have l0 : W.cell? ⟨w.heap.size, 5, none⟩ = some (.slice (some ⟨g1, 0, none⟩) lp pc) := hS1.2.1.cell 5
        go_simp
        try with_reducible rfl
      try simp only [Act.put, List.setIfInBounds_toArray, List.set_cons_zero, List.set_cons_succ]
      refine wpAnyH_take (i := 4) (oi := ⟨some 17, _, _, _, _, _⟩) (v := ?_) rfl (by kernel_rfl) (by kernel_rfl) (by kernel_rfl) (fun _ _ _ h => h) (Or.inl ⟨by rfl, ?_⟩) hHeld ?_
      rotate_left
      · intro W hSw
        go_simp
        try with_reducible rfl
      try simp only [Act.put, List.setIfInBounds_toArray, List.set_cons_zero, List.set_cons_succ]
      refine wpAnyH_take (i := 5) (oi := ⟨some 18, _, _, _, _, _⟩) (v := ?_) rfl (by kernel_rfl) (by kernel_rfl) (by kernel_rfl) (fun _ _ _ h => h) (Or.inl ⟨by rfl, ?_⟩) hHeld ?_
      rotate_left
      · intro W hSw
        go_simp
        try with_reducible rfl
      try simp only [Act.put, List.setIfInBounds_toArray, List.set_cons_zero, List.set_cons_succ]
      refine wpAnyH_take (i := 6) (oi := ⟨some 19, _, _, _, _, _⟩) (v := ?_) rfl (by kernel_rfl) (by kernel_rfl) (by kernel_rfl) (fun _ _ _ h => h) (Or.inl ⟨by rfl, ?_⟩) hHeld ?_
      rotate_left
      · intro W hSw
        go_simp
        try with_reducible rfl
      try simp only [Act.put, List.setIfInBounds_toArray, List.set_cons_zero, List.set_cons_succ]
      refine wpAnyH_take (i := 7) (oi := ⟨some 20, _, _, _, _, _⟩) (v := ?_) rfl (by kernel_rfl) (by kernel_rfl) (by kernel_rfl) (fun _ _ _ h => h) (Or.inl ⟨by rfl, ?_⟩) hHeld ?_
      rotate_left
      · intro W hSw
        obtain ⟨_, hS1⟩ := hSw
        have l0 : W.cell? ⟨g1, k * 2, none⟩ = some (.int .i64 s) := (hS1.1.cell (p := ⟨g1, k * 2, none⟩) HG1.out.1).trans HC.out.1
        go_simp
        try with_reducible rfl
      try simp only [Act.put, List.setIfInBounds_toArray, List.set_cons_zero, List.set_cons_succ]
      refine wpAnyH_take (i := 8) (oi := ⟨some 21, _, _, _, _, _⟩) (v := ?_) rfl (by kernel_rfl) (by kernel_rfl) (by kernel_rfl) (fun _ _ _ h => h) (Or.inl ⟨by rfl, ?_⟩) hHeld ?_
      rotate_left
      · intro W hSw
        go_simp
        try with_reducible rfl
      try simp only [Act.put, List.setIfInBounds_toArray, List.set_cons_zero, List.set_cons_succ]
      refine wpAnyH_take (i := 9) (oi := ⟨some 22, _, _, _, _, _⟩) (v := ?_) rfl (by kernel_rfl) (by kernel_rfl) (by kernel_rfl) (fun _ _ _ h => h) (Or.inl ⟨by rfl, ?_⟩) hHeld ?_
      rotate_left
      · intro W hSw
        obtain ⟨_, hS1⟩ := hSw
        have l0 : W.cell? ⟨w.heap.size, 5, none⟩ = some (.slice (some ⟨g1, 0, none⟩) lp pc) := hS1.2.1.cell 5
        go_simp
        try with_reducible rfl
      try simp only [Act.put, List.setIfInBounds_toArray, List.set_cons_zero, List.set_cons_succ]
      refine wpAnyH_take (i := 10) (oi := ⟨some 23, _, _, _, _, _⟩) (v := ?_) rfl (by kernel_rfl) (by kernel_rfl) (by kernel_rfl) (fun _ _ _ h => h) (Or.inl ⟨by rfl, ?_⟩) hHeld ?_
      rotate_left
      · intro W hSw
        go_simp
        try with_reducible rfl
      try simp only [Act.put, List.setIfInBounds_toArray, List.set_cons_zero, List.set_cons_succ]
      refine wpAnyH_take (i := 11) (oi := ⟨some 24, _, _, _, _, _⟩) (v := ?_) rfl (by kernel_rfl) (by kernel_rfl) (by kernel_rfl) (fun _ _ _ h => h) (Or.inl ⟨by rfl, ?_⟩) hHeld ?_
      rotate_left
      · intro W hSw
        go_simp
        try with_reducible rfl
      try simp only [Act.put, List.setIfInBounds_toArray, List.set_cons_zero, List.set_cons_succ]
      refine wpAnyH_take (i := 12) (oi := ⟨some 25, _, _, _, _, _⟩) (v := ?_) rfl (by kernel_rfl) (by kernel_rfl) (by kernel_rfl) (fun _ _ _ h => h) (Or.inl ⟨by rfl, ?_⟩) hHeld ?_
      rotate_left
      · intro W hSw
        go_simp
        try with_reducible rfl
      try simp only [Act.put, List.setIfInBounds_toArray, List.set_cons_zero, List.set_cons_succ]
      refine wpAnyH_take (i := 13) (oi := ⟨some 26, _, _, _, _, _⟩) (v := ?_) rfl (by kernel_rfl) (by kernel_rfl) (by kernel_rfl) (fun _ _ _ h => h) (Or.inl ⟨by rfl, ?_⟩) hHeld ?_
      rotate_left
      · intro W hSw
        obtain ⟨_, hS1⟩ := hSw
        have l0 : W.cell? ⟨g1, k * 2 + 1, none⟩ = some (.int .i64 r) := (hS1.1.cell (p := ⟨g1, k * 2 + 1, none⟩) HG1.out.1).trans HC.out.2
        go_simp
        try with_reducible rfl
      try simp only [Act.put, List.setIfInBounds_toArray, List.set_cons_zero, List.set_cons_succ]
      refine wpAnyH_ready (rs := [1, 14]) (by kernel_rfl) (by simp) ?_
      refine AllReadyH.cons (o := ⟨some 14, _, _, _, _, _⟩) rfl (fun K hK => ?_) ?_
      rotate_left
      · refine AllReadyH.cons (o := ⟨some 27, _, _, _, _, _⟩) rfl (fun K hK => ?_) AllReadyH.nil
        obtain ⟨Wi1, hWi⟩ : ∃ W, W = Wd0.alloc (Obj.cells #[.int .i64 s, .int .i64 r] 3) := ⟨_, rfl⟩
        have hv : Below Wd0.heap.size Wd0 Wi1 := by rw [hWi]; exact (Below.refl _ _).alloc (Nat.le_refl _) _
        have HI : Hid (IntAt Wi1 (.slice (some ⟨Wd0.heap.size, 0, none⟩) 2 2) [s, r]) := ints_own hWi
        have HBn : Hid (Below wr.heap.size wr Wi1) := HB.out.trans (hv.mono HB.out.size)
        clear HB
        have HB := HBn
        clear HBn
        have HGn : Hid (Blk3 Wi1 (w.heap.size + 1 + 1) (.int .i64 48) (.string ⟨#[]⟩) kv) := HG.out.below hv
        clear HG
        have HG := HGn
        clear HGn
        have hH := KX.below hHeld hv
        go_simp
        rw [← hWi]
        refine hK.out _ _ hH (fun hHeld => ?_)
        clear hK K hH hv hWi
        try simp only [Act.put, List.setIfInBounds_toArray, List.set_cons_zero, List.set_cons_succ]
        obtain ⟨gi, hgi⟩ : ∃ q, Wd0.heap.size = q := ⟨_, rfl⟩
        rw [hgi] at HI ⊢
        clear hgi
        refine wpAnyH_ready (rs := [1, 15]) (by kernel_rfl) (by simp) ?_
        refine AllReadyH.cons (o := ⟨some 14, _, _, _, _, _⟩) rfl (fun K hK => ?_) ?_
        rotate_left
        · refine AllReadyH.cons (o := ⟨some 28, _, _, _, _, _⟩) rfl (fun K hK => ?_) AllReadyH.nil
          go_simp
          refine (ints_any 0 [s, r] _ _ (by show 2 ≤ 20000000; decide) HWD.out HI.out).mono ?_
          intro e v2 hto
          obtain ⟨a3, l3, x3, f3, rfl, ho3, hv⟩ := to_any hto
          clear hto HI
          have hH := KX.below hHeld hv
          have H3 : Hid (OwnK v2 wr.heap.size 1 (.slice a3 l3 x3) (It.kids ks[k]) f3 ∧ Below wr.heap.size wr v2) := ⟨by rw [HT.out.2.2]; exact OwnK.base HB.out.size ho3, HB.out.trans (hv.mono HB.out.size)⟩
          clear HB
          have HGn : Hid (Blk3 v2 (w.heap.size + 1 + 1) (.int .i64 48) (.string ⟨#[]⟩) kv) := HG.out.below hv
          clear HG
          have HG := HGn
          clear HGn
          go_wp2_with fail
          refine hK.out _ _ hH (fun hHeld => ?_)
          clear hK K hH hv ho3
          try simp only [Act.put, List.setIfInBounds_toArray, List.set_cons_zero, List.set_cons_succ]
          refine wpAnyH_ready (rs := [1, 16]) (by kernel_rfl) (by simp) ?_
          refine AllReadyH.cons (o := ⟨some 14, _, _, _, _, _⟩) rfl (fun K hK => ?_) ?_
          rotate_left
          · refine AllReadyH.cons (o := ⟨some 29, _, _, _, _, _⟩) rfl (fun K hK => ?_) AllReadyH.nil
            have hH := KX.below hHeld ((Below.refl v2.heap.size v2).alloc (Nat.le_refl _) (Obj.cells #[.int .i64 48, .string ⟨#[]⟩, .slice a3 l3 x3] 122))
            have HGn : Hid (Blk3 (v2.alloc (Obj.cells #[.int .i64 48, .string ⟨#[]⟩, .slice a3 l3 x3] 122)) (w.heap.size + 1 + 1) (.int .i64 48) (.string ⟨#[]⟩) kv) := HG.out.below ((Below.refl _ _).alloc (Nat.le_refl _) _)
            clear HG
            have HG := HGn
            clear HGn
            go_simp
            refine hK.out _ _ hH (fun hHeld => ?_)
            clear hK K hH
            try simp only [Act.put, List.setIfInBounds_toArray, List.set_cons_zero, List.set_cons_succ]
            refine wpAnyH_ready (rs := [1]) (by kernel_rfl) (by simp) ?_
            refine AllReadyH.cons (o := ⟨some 14, _, _, _, _, _⟩) rfl (fun K hK => ?_) AllReadyH.nil
            have lk : (v2.alloc (Obj.cells #[.int .i64 48, .string ⟨#[]⟩, .slice a3 l3 x3] 122)).cell? ⟨w.heap.size + 1 + 1, 2, none⟩ = some kv := (cell_in HG.out).1.2.2
            go_simp
            refine hK.out _ _ hHeld (fun hHeld => ?_)
            clear hK K lk
            try simp only [Act.put, List.setIfInBounds_toArray, List.set_cons_zero, List.set_cons_succ]
            refine wpAnyH_ready (rs := [17]) (by kernel_rfl) (by simp) ?_
            refine AllReadyH.cons (o := ⟨some 30, _, _, _, _, _⟩) rfl (fun K hK => ?_) AllReadyH.nil
            refine step_append_item0 (o := ⟨some 30, _, _, _, _, _⟩) rfl (.tmp 14) (.tmp 29) rfl (w.heap.size + 3) 1 kv (ks.take k) ks[k] 48 ⟨#[]⟩ (.slice a3 l3 x3) f3 HT.out.1 HT.out.2.1 (by rfl) v2.heap.size (by rfl) rfl HK.out.2 H3.out.2 H3.out.1 HG1.out.2 (by omega) ?_
            intro g cap w6 hG6 hgrow6
            have hm6 := (HK.out.1.below (H3.out.2.alloc H3.out.2.size (Obj.cells #[.int .i64 48, .string ⟨#[]⟩, .slice a3 l3 x3] 122))).grown hgrow6 (fun q hq => (HK.out.2.lt q hq).1)
            have H6 : Hid (KM w w6 #[.string c.issuer, .int .i64 c.num, .int .i64 c.ths, .int .i64 c.nxt, .int .i64 c.bas, .slice (some ⟨g1, 0, none⟩) lp pc, .string c.sig] kv ∧ GrowK w6 (w.heap.size + 3) 1 (.slice (some ⟨g, 0, none⟩) (k + 1) cap) (ks.take (k + 1))) := by
              have e := List.take_append_getElem hj1
              rw [htl, e] at hG6
              exact ⟨hm6, hG6⟩
            try rw [htl]
            clear hG6 hgrow6 hm6 HG H3
            refine hK.out _ _ ⟨kv, H6.out.1⟩ (fun hHeld => ?_)
            clear hK K
            try simp only [Act.put, List.setIfInBounds_toArray, List.set_cons_zero, List.set_cons_succ]
            refine wpAnyH_take (i := 18) (oi := ⟨some 31, _, _, _, _, _⟩) (v := ?_) rfl (by kernel_rfl) (by kernel_rfl) (by kernel_rfl) (fun _ _ _ h => h) (Or.inl ⟨by rfl, ?_⟩) hHeld ?_
            rotate_left
            · intro W hSw
              go_simp
              try with_reducible rfl
            try simp only [Act.put, List.setIfInBounds_toArray, List.set_cons_zero, List.set_cons_succ]
            refine wpAnyH_ready (rs := [19]) (by kernel_rfl) (by simp) ?_
            refine AllReadyH.cons (o := ⟨none, _, _, _, _, _⟩) rfl (fun K hK => ?_) AllReadyH.nil
            obtain ⟨⟨q0, q1, q2⟩, qf⟩ := cell_in H6.out.1.2.2.2
            go_simp
            refine hK.out _ _ ⟨_, H6.out.1.laid _⟩ (fun hHeld => ?_)
            clear hK K hHeld q0 q1 q2 qf
            try simp only [Act.put, List.setIfInBounds_toArray, List.set_cons_zero, List.set_cons_succ]
            refine wpAnyH_done (by kernel_rfl) ?_ _
            go_wp2_with fail
            refine ⟨⟨k + 1, by omega, by go_num, .slice (some ⟨g, 0, none⟩) (k + 1) cap, H6.out.1.laid _, ?_⟩, by simp [intOf]; omega⟩
            exact H6.out.2.out fun b hb => heap_setCell_other _ _ _ _ (by show b ≠ w.heap.size + 1 + 1; omega)
          have lk : v2.cell? ⟨w.heap.size + 1 + 1, 2, none⟩ = some kv := (cell_in HG.out).1.2.2
          go_simp
          refine hK.out _ _ hHeld (fun hHeld => ?_)
          clear hK K lk
          try simp only [Act.put, List.setIfInBounds_toArray, List.set_cons_zero, List.set_cons_succ]
          refine wpAnyH_ready (rs := [16]) (by kernel_rfl) (by simp) ?_
          refine AllReadyH.cons (o := ⟨some 29, _, _, _, _, _⟩) rfl (fun K hK => ?_) AllReadyH.nil
          have hH := KX.below hHeld ((Below.refl v2.heap.size v2).alloc (Nat.le_refl _) (Obj.cells #[.int .i64 48, .string ⟨#[]⟩, .slice a3 l3 x3] 122))
          have HGn : Hid (Blk3 (v2.alloc (Obj.cells #[.int .i64 48, .string ⟨#[]⟩, .slice a3 l3 x3] 122)) (w.heap.size + 1 + 1) (.int .i64 48) (.string ⟨#[]⟩) kv) := HG.out.below ((Below.refl _ _).alloc (Nat.le_refl _) _)
          clear HG
          have HG := HGn
          clear HGn
          go_simp
          refine hK.out _ _ hH (fun hHeld => ?_)
          clear hK K hH
          try simp only [Act.put, List.setIfInBounds_toArray, List.set_cons_zero, List.set_cons_succ]
          refine wpAnyH_ready (rs := [17]) (by kernel_rfl) (by simp) ?_
          refine AllReadyH.cons (o := ⟨some 30, _, _, _, _, _⟩) rfl (fun K hK => ?_) AllReadyH.nil
          refine step_append_item0 (o := ⟨some 30, _, _, _, _, _⟩) rfl (.tmp 14) (.tmp 29) rfl (w.heap.size + 3) 1 kv (ks.take k) ks[k] 48 ⟨#[]⟩ (.slice a3 l3 x3) f3 HT.out.1 HT.out.2.1 (by rfl) v2.heap.size (by rfl) rfl HK.out.2 H3.out.2 H3.out.1 HG1.out.2 (by omega) ?_
          intro g cap w6 hG6 hgrow6
          have hm6 := (HK.out.1.below (H3.out.2.alloc H3.out.2.size (Obj.cells #[.int .i64 48, .string ⟨#[]⟩, .slice a3 l3 x3] 122))).grown hgrow6 (fun q hq => (HK.out.2.lt q hq).1)
          have H6 : Hid (KM w w6 #[.string c.issuer, .int .i64 c.num, .int .i64 c.ths, .int .i64 c.nxt, .int .i64 c.bas, .slice (some ⟨g1, 0, none⟩) lp pc, .string c.sig] kv ∧ GrowK w6 (w.heap.size + 3) 1 (.slice (some ⟨g, 0, none⟩) (k + 1) cap) (ks.take (k + 1))) := by
            have e := List.take_append_getElem hj1
            rw [htl, e] at hG6
            exact ⟨hm6, hG6⟩
          try rw [htl]
          clear hG6 hgrow6 hm6 HG H3
          refine hK.out _ _ ⟨kv, H6.out.1⟩ (fun hHeld => ?_)
          clear hK K
          try simp only [Act.put, List.setIfInBounds_toArray, List.set_cons_zero, List.set_cons_succ]
          refine wpAnyH_take (i := 18) (oi := ⟨some 31, _, _, _, _, _⟩) (v := ?_) rfl (by kernel_rfl) (by kernel_rfl) (by kernel_rfl) (fun _ _ _ h => h) (Or.inl ⟨by rfl, ?_⟩) hHeld ?_
          rotate_left
          · intro W hSw
            go_simp
            try with_reducible rfl
          try simp only [Act.put, List.setIfInBounds_toArray, List.set_cons_zero, List.set_cons_succ]
          refine wpAnyH_ready (rs := [19]) (by kernel_rfl) (by simp) ?_
          refine AllReadyH.cons (o := ⟨none, _, _, _, _, _⟩) rfl (fun K hK => ?_) AllReadyH.nil
          obtain ⟨⟨q0, q1, q2⟩, qf⟩ := cell_in H6.out.1.2.2.2
          go_simp
          refine hK.out _ _ ⟨_, H6.out.1.laid _⟩ (fun hHeld => ?_)
          clear hK K hHeld q0 q1 q2 qf
          try simp only [Act.put, List.setIfInBounds_toArray, List.set_cons_zero, List.set_cons_succ]
          refine wpAnyH_done (by kernel_rfl) ?_ _
          go_wp2_with fail
          refine ⟨⟨k + 1, by omega, by go_num, .slice (some ⟨g, 0, none⟩) (k + 1) cap, H6.out.1.laid _, ?_⟩, by simp [intOf]; omega⟩
          exact H6.out.2.out fun b hb => heap_setCell_other _ _ _ _ (by show b ≠ w.heap.size + 1 + 1; omega)
        have lk : Wi1.cell? ⟨w.heap.size + 1 + 1, 2, none⟩ = some kv := (cell_in HG.out).1.2.2
        go_simp
        refine hK.out _ _ hHeld (fun hHeld => ?_)
        clear hK K lk
        try simp only [Act.put, List.setIfInBounds_toArray, List.set_cons_zero, List.set_cons_succ]
        refine wpAnyH_ready (rs := [15]) (by kernel_rfl) (by simp) ?_
        refine AllReadyH.cons (o := ⟨some 28, _, _, _, _, _⟩) rfl (fun K hK => ?_) AllReadyH.nil
        go_simp
        refine (ints_any 0 [s, r] _ _ (by show 2 ≤ 20000000; decide) HWD.out HI.out).mono ?_
        intro e v5 hto
        obtain ⟨a3, l3, x3, f3, rfl, ho3, hv⟩ := to_any hto
        clear hto HI
        have hH := KX.below hHeld hv
        have H3 : Hid (OwnK v5 wr.heap.size 1 (.slice a3 l3 x3) (It.kids ks[k]) f3 ∧ Below wr.heap.size wr v5) := ⟨by rw [HT.out.2.2]; exact OwnK.base HB.out.size ho3, HB.out.trans (hv.mono HB.out.size)⟩
        clear HB
        have HGn : Hid (Blk3 v5 (w.heap.size + 1 + 1) (.int .i64 48) (.string ⟨#[]⟩) kv) := HG.out.below hv
        clear HG
        have HG := HGn
        clear HGn
        go_wp2_with fail
        refine hK.out _ _ hH (fun hHeld => ?_)
        clear hK K hH hv ho3
        try simp only [Act.put, List.setIfInBounds_toArray, List.set_cons_zero, List.set_cons_succ]
        refine wpAnyH_ready (rs := [16]) (by kernel_rfl) (by simp) ?_
        refine AllReadyH.cons (o := ⟨some 29, _, _, _, _, _⟩) rfl (fun K hK => ?_) AllReadyH.nil
        have hH := KX.below hHeld ((Below.refl v5.heap.size v5).alloc (Nat.le_refl _) (Obj.cells #[.int .i64 48, .string ⟨#[]⟩, .slice a3 l3 x3] 122))
        have HGn : Hid (Blk3 (v5.alloc (Obj.cells #[.int .i64 48, .string ⟨#[]⟩, .slice a3 l3 x3] 122)) (w.heap.size + 1 + 1) (.int .i64 48) (.string ⟨#[]⟩) kv) := HG.out.below ((Below.refl _ _).alloc (Nat.le_refl _) _)
        clear HG
        have HG := HGn
        clear HGn
        go_simp
        refine hK.out _ _ hH (fun hHeld => ?_)
        clear hK K hH
        try simp only [Act.put, List.setIfInBounds_toArray, List.set_cons_zero, List.set_cons_succ]
        refine wpAnyH_ready (rs := [17]) (by kernel_rfl) (by simp) ?_
        refine AllReadyH.cons (o := ⟨some 30, _, _, _, _, _⟩) rfl (fun K hK => ?_) AllReadyH.nil
        refine step_append_item0 (o := ⟨some 30, _, _, _, _, _⟩) rfl (.tmp 14) (.tmp 29) rfl (w.heap.size + 3) 1 kv (ks.take k) ks[k] 48 ⟨#[]⟩ (.slice a3 l3 x3) f3 HT.out.1 HT.out.2.1 (by rfl) v5.heap.size (by rfl) rfl HK.out.2 H3.out.2 H3.out.1 HG1.out.2 (by omega) ?_
        intro g cap w6 hG6 hgrow6
        have hm6 := (HK.out.1.below (H3.out.2.alloc H3.out.2.size (Obj.cells #[.int .i64 48, .string ⟨#[]⟩, .slice a3 l3 x3] 122))).grown hgrow6 (fun q hq => (HK.out.2.lt q hq).1)
        have H6 : Hid (KM w w6 #[.string c.issuer, .int .i64 c.num, .int .i64 c.ths, .int .i64 c.nxt, .int .i64 c.bas, .slice (some ⟨g1, 0, none⟩) lp pc, .string c.sig] kv ∧ GrowK w6 (w.heap.size + 3) 1 (.slice (some ⟨g, 0, none⟩) (k + 1) cap) (ks.take (k + 1))) := by
          have e := List.take_append_getElem hj1
          rw [htl, e] at hG6
          exact ⟨hm6, hG6⟩
        try rw [htl]
        clear hG6 hgrow6 hm6 HG H3
        refine hK.out _ _ ⟨kv, H6.out.1⟩ (fun hHeld => ?_)
        clear hK K
        try simp only [Act.put, List.setIfInBounds_toArray, List.set_cons_zero, List.set_cons_succ]
        refine wpAnyH_take (i := 18) (oi := ⟨some 31, _, _, _, _, _⟩) (v := ?_) rfl (by kernel_rfl) (by kernel_rfl) (by kernel_rfl) (fun _ _ _ h => h) (Or.inl ⟨by rfl, ?_⟩) hHeld ?_
        rotate_left
        · intro W hSw
          go_simp
          try with_reducible rfl
        try simp only [Act.put, List.setIfInBounds_toArray, List.set_cons_zero, List.set_cons_succ]
        refine wpAnyH_ready (rs := [19]) (by kernel_rfl) (by simp) ?_
        refine AllReadyH.cons (o := ⟨none, _, _, _, _, _⟩) rfl (fun K hK => ?_) AllReadyH.nil
        obtain ⟨⟨q0, q1, q2⟩, qf⟩ := cell_in H6.out.1.2.2.2
        go_simp
        refine hK.out _ _ ⟨_, H6.out.1.laid _⟩ (fun hHeld => ?_)
        clear hK K hHeld q0 q1 q2 qf
        try simp only [Act.put, List.setIfInBounds_toArray, List.set_cons_zero, List.set_cons_succ]
        refine wpAnyH_done (by kernel_rfl) ?_ _
        go_wp2_with fail
        refine ⟨⟨k + 1, by omega, by go_num, .slice (some ⟨g, 0, none⟩) (k + 1) cap, H6.out.1.laid _, ?_⟩, by simp [intOf]; omega⟩
        exact H6.out.2.out fun b hb => heap_setCell_other _ _ _ _ (by show b ≠ w.heap.size + 1 + 1; omega)
      have lk : Wd0.cell? ⟨w.heap.size + 1 + 1, 2, none⟩ = some kv := (cell_in HG.out).1.2.2
      go_simp
      refine hK.out _ _ hHeld (fun hHeld => ?_)
      clear hK K lk
      try simp only [Act.put, List.setIfInBounds_toArray, List.set_cons_zero, List.set_cons_succ]
      refine wpAnyH_ready (rs := [14]) (by kernel_rfl) (by simp) ?_
      refine AllReadyH.cons (o := ⟨some 27, _, _, _, _, _⟩) rfl (fun K hK => ?_) AllReadyH.nil
      obtain ⟨Wi7, hWi⟩ : ∃ W, W = Wd0.alloc (Obj.cells #[.int .i64 s, .int .i64 r] 3) := ⟨_, rfl⟩
      have hv : Below Wd0.heap.size Wd0 Wi7 := by rw [hWi]; exact (Below.refl _ _).alloc (Nat.le_refl _) _
      have HI : Hid (IntAt Wi7 (.slice (some ⟨Wd0.heap.size, 0, none⟩) 2 2) [s, r]) := ints_own hWi
      have HBn : Hid (Below wr.heap.size wr Wi7) := HB.out.trans (hv.mono HB.out.size)
      clear HB
      have HB := HBn
      clear HBn
      have HGn : Hid (Blk3 Wi7 (w.heap.size + 1 + 1) (.int .i64 48) (.string ⟨#[]⟩) kv) := HG.out.below hv
      clear HG
      have HG := HGn
      clear HGn
      have hH := KX.below hHeld hv
      go_simp
      rw [← hWi]
      refine hK.out _ _ hH (fun hHeld => ?_)
      clear hK K hH hv hWi
      try simp only [Act.put, List.setIfInBounds_toArray, List.set_cons_zero, List.set_cons_succ]
      obtain ⟨gi, hgi⟩ : ∃ q, Wd0.heap.size = q := ⟨_, rfl⟩
      rw [hgi] at HI ⊢
      clear hgi
      refine wpAnyH_ready (rs := [15]) (by kernel_rfl) (by simp) ?_
      refine AllReadyH.cons (o := ⟨some 28, _, _, _, _, _⟩) rfl (fun K hK => ?_) AllReadyH.nil
      go_simp
      refine (ints_any 0 [s, r] _ _ (by show 2 ≤ 20000000; decide) HWD.out HI.out).mono ?_
      intro e v8 hto
      obtain ⟨a3, l3, x3, f3, rfl, ho3, hv⟩ := to_any hto
      clear hto HI
      have hH := KX.below hHeld hv
      have H3 : Hid (OwnK v8 wr.heap.size 1 (.slice a3 l3 x3) (It.kids ks[k]) f3 ∧ Below wr.heap.size wr v8) := ⟨by rw [HT.out.2.2]; exact OwnK.base HB.out.size ho3, HB.out.trans (hv.mono HB.out.size)⟩
      clear HB
      have HGn : Hid (Blk3 v8 (w.heap.size + 1 + 1) (.int .i64 48) (.string ⟨#[]⟩) kv) := HG.out.below hv
      clear HG
      have HG := HGn
      clear HGn
      go_wp2_with fail
      refine hK.out _ _ hH (fun hHeld => ?_)
      clear hK K hH hv ho3
      try simp only [Act.put, List.setIfInBounds_toArray, List.set_cons_zero, List.set_cons_succ]
      refine wpAnyH_ready (rs := [16]) (by kernel_rfl) (by simp) ?_
      refine AllReadyH.cons (o := ⟨some 29, _, _, _, _, _⟩) rfl (fun K hK => ?_) AllReadyH.nil
      have hH := KX.below hHeld ((Below.refl v8.heap.size v8).alloc (Nat.le_refl _) (Obj.cells #[.int .i64 48, .string ⟨#[]⟩, .slice a3 l3 x3] 122))
      have HGn : Hid (Blk3 (v8.alloc (Obj.cells #[.int .i64 48, .string ⟨#[]⟩, .slice a3 l3 x3] 122)) (w.heap.size + 1 + 1) (.int .i64 48) (.string ⟨#[]⟩) kv) := HG.out.below ((Below.refl _ _).alloc (Nat.le_refl _) _)
      clear HG
      have HG := HGn
      clear HGn
      go_simp
      refine hK.out _ _ hH (fun hHeld => ?_)
      clear hK K hH
      try simp only [Act.put, List.setIfInBounds_toArray, List.set_cons_zero, List.set_cons_succ]
      refine wpAnyH_ready (rs := [17]) (by kernel_rfl) (by simp) ?_
      refine AllReadyH.cons (o := ⟨some 30, _, _, _, _, _⟩) rfl (fun K hK => ?_) AllReadyH.nil
      refine step_append_item0 (o := ⟨some 30, _, _, _, _, _⟩) rfl (.tmp 14) (.tmp 29) rfl (w.heap.size + 3) 1 kv (ks.take k) ks[k] 48 ⟨#[]⟩ (.slice a3 l3 x3) f3 HT.out.1 HT.out.2.1 (by rfl) v8.heap.size (by rfl) rfl HK.out.2 H3.out.2 H3.out.1 HG1.out.2 (by omega) ?_
      intro g cap w6 hG6 hgrow6
      have hm6 := (HK.out.1.below (H3.out.2.alloc H3.out.2.size (Obj.cells #[.int .i64 48, .string ⟨#[]⟩, .slice a3 l3 x3] 122))).grown hgrow6 (fun q hq => (HK.out.2.lt q hq).1)
      have H6 : Hid (KM w w6 #[.string c.issuer, .int .i64 c.num, .int .i64 c.ths, .int .i64 c.nxt, .int .i64 c.bas, .slice (some ⟨g1, 0, none⟩) lp pc, .string c.sig] kv ∧ GrowK w6 (w.heap.size + 3) 1 (.slice (some ⟨g, 0, none⟩) (k + 1) cap) (ks.take (k + 1))) := by
        have e := List.take_append_getElem hj1
        rw [htl, e] at hG6
        exact ⟨hm6, hG6⟩
      try rw [htl]
      clear hG6 hgrow6 hm6 HG H3
      refine hK.out _ _ ⟨kv, H6.out.1⟩ (fun hHeld => ?_)
      clear hK K
      try simp only [Act.put, List.setIfInBounds_toArray, List.set_cons_zero, List.set_cons_succ]
      refine wpAnyH_take (i := 18) (oi := ⟨some 31, _, _, _, _, _⟩) (v := ?_) rfl (by kernel_rfl) (by kernel_rfl) (by kernel_rfl) (fun _ _ _ h => h) (Or.inl ⟨by rfl, ?_⟩) hHeld ?_
      rotate_left
      · intro W hSw
        go_simp
        try with_reducible rfl
      try simp only [Act.put, List.setIfInBounds_toArray, List.set_cons_zero, List.set_cons_succ]
      refine wpAnyH_ready (rs := [19]) (by kernel_rfl) (by simp) ?_
      refine AllReadyH.cons (o := ⟨none, _, _, _, _, _⟩) rfl (fun K hK => ?_) AllReadyH.nil
      obtain ⟨⟨q0, q1, q2⟩, qf⟩ := cell_in H6.out.1.2.2.2
      go_simp
      refine hK.out _ _ ⟨_, H6.out.1.laid _⟩ (fun hHeld => ?_)
      clear hK K hHeld q0 q1 q2 qf
      try simp only [Act.put, List.setIfInBounds_toArray, List.set_cons_zero, List.set_cons_succ]
      refine wpAnyH_done (by kernel_rfl) ?_ _
      go_wp2_with fail
      refine ⟨⟨k + 1, by omega, by go_num, .slice (some ⟨g, 0, none⟩) (k + 1) cap, H6.out.1.laid _, ?_⟩, by simp [intOf]; omega⟩
      exact H6.out.2.out fun b hb => heap_setCell_other _ _ _ _ (by show b ≠ w.heap.size + 1 + 1; omega)
    · have hlti : ¬ (k : Int) < (lp : Int) := by omega
      have HE : Hid (∃ fp, OwnK wr (w.heap.size + 3) 2 kv (c.revs.map revI) fp) := by
        have h := HK.out.2
        rw [List.take_of_length_le (by have := HK0.out.2; omega), ← HK0.out.1] at h
        exact h.own
      obtain ⟨axe, cape, hkv⟩ := HK.out.2.shape
      obtain ⟨le, hle⟩ : ∃ le, (ks.take k).length = le := ⟨_, rfl⟩
      rw [hle] at hkv
      subst hkv
      clear hle
      have HM : Hid (KM w wr #[.string c.issuer, .int .i64 c.num, .int .i64 c.ths, .int .i64 c.nxt, .int .i64 c.bas, .slice pa lp pc, .string c.sig] (.slice axe le cape)) := HK.out.1
      clear HK
      go_wp2_with fail
      clear y5
      refine wp_region_held_drew (S := fun W => KM w W #[.string c.issuer, .int .i64 c.num, .int .i64 c.ths, .int .i64 c.nxt, .int .i64 c.bas, .slice pa lp pc, .string c.sig] (.slice axe le cape)) (by kernel_rfl) (KM.below HM.out ((Below.refl _ _).drew)) (fun hHeld => ?_)
      have HE0 : Hid (∃ fp, OwnK wr.drew (w.heap.size + 3) 2 (.slice axe le cape) (c.revs.map revI) fp) := by
        obtain ⟨fp, h⟩ := HE.out
        exact ⟨fp, h.below (Below.refl _ _).drew (fun b hb => (OwnK.lt h b hb).2)⟩
      clear HM HE
      generalize wr.drew = Wd0 at hHeld HE0 ⊢
      refine wpAnyH_take (i := 0) (oi := ⟨some 32, _, _, _, _, _⟩) (v := ?_) rfl (by kernel_rfl) (by kernel_rfl) (by kernel_rfl) (fun _ _ _ h => h) (Or.inl ⟨by rfl, ?_⟩) hHeld ?_
      rotate_left
      · intro W hSw
        go_simp
        try with_reducible rfl
      try simp only [Act.put, List.setIfInBounds_toArray, List.set_cons_zero, List.set_cons_succ]
      refine wpAnyH_take (i := 1) (oi := ⟨some 33, _, _, _, _, _⟩) (v := ?_) rfl (by kernel_rfl) (by kernel_rfl) (by kernel_rfl) (fun _ _ _ h => h) (Or.inl ⟨by rfl, ?_⟩) hHeld ?_
      rotate_left
      · intro W hSw
        have l0 : W.cell? ⟨w.heap.size, 0, none⟩ = some (.string c.issuer) := hSw.2.1.cell 0
        go_simp
        try with_reducible rfl
      try simp only [Act.put, List.setIfInBounds_toArray, List.set_cons_zero, List.set_cons_succ]
      refine wpAnyH_take (i := 3) (oi := ⟨some 35, _, _, _, _, _⟩) (v := ?_) rfl (by kernel_rfl) (by kernel_rfl) (by kernel_rfl) (fun _ _ _ h => h) (Or.inl ⟨by rfl, ?_⟩) hHeld ?_
      rotate_left
      · intro W hSw
        go_simp
        try with_reducible rfl
      try simp only [Act.put, List.setIfInBounds_toArray, List.set_cons_zero, List.set_cons_succ]
      refine wpAnyH_take (i := 4) (oi := ⟨some 36, _, _, _, _, _⟩) (v := ?_) rfl (by kernel_rfl) (by kernel_rfl) (by kernel_rfl) (fun _ _ _ h => h) (Or.inl ⟨by rfl, ?_⟩) hHeld ?_
      rotate_left
      · intro W hSw
        have l0 : W.cell? ⟨w.heap.size, 1, none⟩ = some (.int .i64 c.num) := hSw.2.1.cell 1
        go_simp
        try with_reducible rfl
      try simp only [Act.put, List.setIfInBounds_toArray, List.set_cons_zero, List.set_cons_succ]
      refine wpAnyH_take (i := 6) (oi := ⟨some 38, _, _, _, _, _⟩) (v := ?_) rfl (by kernel_rfl) (by kernel_rfl) (by kernel_rfl) (fun _ _ _ h => h) (Or.inl ⟨by rfl, ?_⟩) hHeld ?_
      rotate_left
      · intro W hSw
        go_simp
        try with_reducible rfl
      try simp only [Act.put, List.setIfInBounds_toArray, List.set_cons_zero, List.set_cons_succ]
      refine wpAnyH_take (i := 7) (oi := ⟨some 39, _, _, _, _, _⟩) (v := ?_) rfl (by kernel_rfl) (by kernel_rfl) (by kernel_rfl) (fun _ _ _ h => h) (Or.inl ⟨by rfl, ?_⟩) hHeld ?_
      rotate_left
      · intro W hSw
        have l0 : W.cell? ⟨w.heap.size, 2, none⟩ = some (.int .i64 c.ths) := hSw.2.1.cell 2
        go_simp
        try with_reducible rfl
      try simp only [Act.put, List.setIfInBounds_toArray, List.set_cons_zero, List.set_cons_succ]
      refine wpAnyH_take (i := 9) (oi := ⟨some 41, _, _, _, _, _⟩) (v := ?_) rfl (by kernel_rfl) (by kernel_rfl) (by kernel_rfl) (fun _ _ _ h => h) (Or.inl ⟨by rfl, ?_⟩) hHeld ?_
      rotate_left
      · intro W hSw
        go_simp
        try with_reducible rfl
      try simp only [Act.put, List.setIfInBounds_toArray, List.set_cons_zero, List.set_cons_succ]
      refine wpAnyH_take (i := 10) (oi := ⟨some 42, _, _, _, _, _⟩) (v := ?_) rfl (by kernel_rfl) (by kernel_rfl) (by kernel_rfl) (fun _ _ _ h => h) (Or.inl ⟨by rfl, ?_⟩) hHeld ?_
      rotate_left
      · intro W hSw
        have l0 : W.cell? ⟨w.heap.size, 3, none⟩ = some (.int .i64 c.nxt) := hSw.2.1.cell 3
        go_simp
        try with_reducible rfl
      try simp only [Act.put, List.setIfInBounds_toArray, List.set_cons_zero, List.set_cons_succ]
      refine wpAnyH_take (i := 12) (oi := ⟨some 44, _, _, _, _, _⟩) (v := ?_) rfl (by kernel_rfl) (by kernel_rfl) (by kernel_rfl) (fun _ _ _ h => h) (Or.inl ⟨by rfl, ?_⟩) hHeld ?_
      rotate_left
      · intro W hSw
        go_simp
        try with_reducible rfl
      try simp only [Act.put, List.setIfInBounds_toArray, List.set_cons_zero, List.set_cons_succ]
      refine wpAnyH_take (i := 13) (oi := ⟨some 45, _, _, _, _, _⟩) (v := ?_) rfl (by kernel_rfl) (by kernel_rfl) (by kernel_rfl) (fun _ _ _ h => h) (Or.inl ⟨by rfl, ?_⟩) hHeld ?_
      rotate_left
      · intro W hSw
        have l0 : W.cell? ⟨w.heap.size, 4, none⟩ = some (.int .i64 c.bas) := hSw.2.1.cell 4
        go_simp
        try with_reducible rfl
      try simp only [Act.put, List.setIfInBounds_toArray, List.set_cons_zero, List.set_cons_succ]
      refine wpAnyH_take (i := 15) (oi := ⟨some 47, _, _, _, _, _⟩) (v := ?_) rfl (by kernel_rfl) (by kernel_rfl) (by kernel_rfl) (fun _ _ _ h => h) (Or.inl ⟨by rfl, ?_⟩) hHeld ?_
      rotate_left
      · intro W hSw
        obtain ⟨⟨l0, l1, l2⟩, -⟩ := cell_in hSw.2.2.2
        go_simp
        try with_reducible rfl
      try simp only [Act.put, List.setIfInBounds_toArray, List.set_cons_zero, List.set_cons_succ]
      refine wpAnyH_ready (rs := [2]) (by kernel_rfl) (by simp) ?_
      refine AllReadyH.cons (o := ⟨some 34, _, _, _, _, _⟩) rfl (fun K hK => ?_) AllReadyH.nil
      go_simp
      refine (specTextItem_any c.issuer _).mono ?_
      rintro e v1 ⟨rfl, hv⟩
      have hH := KM.below hHeld hv
      have HE1 : Hid (∃ fp, OwnK v1 (w.heap.size + 3) 2 (.slice axe le cape) (c.revs.map revI) fp) := by
        obtain ⟨fp, h⟩ := HE0.out
        exact ⟨fp, h.below hv (fun b hb => (OwnK.lt h b hb).2)⟩
      clear HE0
      go_wp2_with fail
      refine hK.out _ _ hH (fun hHeld => ?_)
      clear hK K hH hv
      try simp only [Act.put, List.setIfInBounds_toArray, List.set_cons_zero, List.set_cons_succ]
      refine wpAnyH_ready (rs := [5]) (by kernel_rfl) (by simp) ?_
      refine AllReadyH.cons (o := ⟨some 37, _, _, _, _, _⟩) rfl (fun K hK => ?_) AllReadyH.nil
      go_simp
      refine (specIntItem_any c.num _ HN.out.1).mono ?_
      rintro e v2 ⟨rfl, hv⟩
      have hH := KM.below hHeld hv
      have HE2 : Hid (∃ fp, OwnK v2 (w.heap.size + 3) 2 (.slice axe le cape) (c.revs.map revI) fp) := by
        obtain ⟨fp, h⟩ := HE1.out
        exact ⟨fp, h.below hv (fun b hb => (OwnK.lt h b hb).2)⟩
      clear HE1
      go_wp2_with fail
      refine hK.out _ _ hH (fun hHeld => ?_)
      clear hK K hH hv
      try simp only [Act.put, List.setIfInBounds_toArray, List.set_cons_zero, List.set_cons_succ]
      refine wpAnyH_ready (rs := [8]) (by kernel_rfl) (by simp) ?_
      refine AllReadyH.cons (o := ⟨some 40, _, _, _, _, _⟩) rfl (fun K hK => ?_) AllReadyH.nil
      go_simp
      refine (specIntItem_any c.ths _ HN.out.2.1).mono ?_
      rintro e v3 ⟨rfl, hv⟩
      have hH := KM.below hHeld hv
      have HE3 : Hid (∃ fp, OwnK v3 (w.heap.size + 3) 2 (.slice axe le cape) (c.revs.map revI) fp) := by
        obtain ⟨fp, h⟩ := HE2.out
        exact ⟨fp, h.below hv (fun b hb => (OwnK.lt h b hb).2)⟩
      clear HE2
      go_wp2_with fail
      refine hK.out _ _ hH (fun hHeld => ?_)
      clear hK K hH hv
      try simp only [Act.put, List.setIfInBounds_toArray, List.set_cons_zero, List.set_cons_succ]
      refine wpAnyH_ready (rs := [11]) (by kernel_rfl) (by simp) ?_
      refine AllReadyH.cons (o := ⟨some 43, _, _, _, _, _⟩) rfl (fun K hK => ?_) AllReadyH.nil
      go_simp
      refine (specIntItem_any c.nxt _ HN.out.2.2.1).mono ?_
      rintro e v4 ⟨rfl, hv⟩
      have hH := KM.below hHeld hv
      have HE4 : Hid (∃ fp, OwnK v4 (w.heap.size + 3) 2 (.slice axe le cape) (c.revs.map revI) fp) := by
        obtain ⟨fp, h⟩ := HE3.out
        exact ⟨fp, h.below hv (fun b hb => (OwnK.lt h b hb).2)⟩
      clear HE3
      go_wp2_with fail
      refine hK.out _ _ hH (fun hHeld => ?_)
      clear hK K hH hv
      try simp only [Act.put, List.setIfInBounds_toArray, List.set_cons_zero, List.set_cons_succ]
      refine wpAnyH_ready (rs := [14]) (by kernel_rfl) (by simp) ?_
      refine AllReadyH.cons (o := ⟨some 46, _, _, _, _, _⟩) rfl (fun K hK => ?_) AllReadyH.nil
      go_simp
      refine (specIntItem_any c.bas _ HN.out.2.2.2).mono ?_
      rintro e v5 ⟨rfl, hv⟩
      have hH := KM.below hHeld hv
      have HE5 : Hid (∃ fp, OwnK v5 (w.heap.size + 3) 2 (.slice axe le cape) (c.revs.map revI) fp) := by
        obtain ⟨fp, h⟩ := HE4.out
        exact ⟨fp, h.below hv (fun b hb => (OwnK.lt h b hb).2)⟩
      clear HE4
      go_wp2_with fail
      refine hK.out _ _ hH (fun hHeld => ?_)
      clear hK K hH hv
      try simp only [Act.put, List.setIfInBounds_toArray, List.set_cons_zero, List.set_cons_succ]
      refine wpAnyH_ready (rs := [16]) (by kernel_rfl) (by simp) ?_
      refine AllReadyH.cons (o := ⟨some 48, _, _, _, _, _⟩) rfl (fun K hK => ?_) AllReadyH.nil
      have HF : Hid (∃ fq, OwnK (v5.alloc (Obj.cells (.int .i64 12 :: .string c.issuer :: .slice none 0 0 :: .int .i64 2 :: .string ⟨(intT (numN c.num)).toArray⟩ :: .slice none 0 0 :: .int .i64 2 :: .string ⟨(intT (numN c.ths)).toArray⟩ :: .slice none 0 0 :: .int .i64 2 :: .string ⟨(intT (numN c.nxt)).toArray⟩ :: .slice none 0 0 :: .int .i64 2 :: .string ⟨(intT (numN c.bas)).toArray⟩ :: .slice none 0 0 :: .int .i64 48 :: .string ⟨#[]⟩ :: .slice axe le cape :: []).toArray 122)) (w.heap.size + 3) 3 (.slice (some ⟨v5.heap.size, 0, none⟩) 6 6) (It.kids (bodyL c)) fq) := by
        obtain ⟨fp, h⟩ := HE5.out
        exact bodyL_row h (KM.size hHeld) rfl
      clear HE5
      go_simp
      refine hK.out _ _ (KM.below hHeld ((Below.refl _ _).alloc (Nat.le_refl _) _)) (fun hHeld => ?_)
      clear hK K
      try simp only [Act.put, List.setIfInBounds_toArray, List.set_cons_zero, List.set_cons_succ]
      refine wpAnyH_take (i := 17) (oi := ⟨some 49, _, _, _, _, _⟩) (v := ?_) rfl (by kernel_rfl) (by kernel_rfl) (by kernel_rfl) (fun _ _ _ h => h) (Or.inl ⟨by rfl, ?_⟩) hHeld ?_
      rotate_left
      · intro W hSw
        go_simp
        try with_reducible rfl
      try simp only [Act.put, List.setIfInBounds_toArray, List.set_cons_zero, List.set_cons_succ]
      refine wpAnyH_ready (rs := [18]) (by kernel_rfl) (by simp) ?_
      refine AllReadyH.cons (o := ⟨none, _, _, _, _, _⟩) rfl (fun K hK => ?_) AllReadyH.nil
      obtain ⟨W9, hW9⟩ : ∃ W, W = v5.alloc (Obj.cells (.int .i64 12 :: .string c.issuer :: .slice none 0 0 :: .int .i64 2 :: .string ⟨(intT (numN c.num)).toArray⟩ :: .slice none 0 0 :: .int .i64 2 :: .string ⟨(intT (numN c.ths)).toArray⟩ :: .slice none 0 0 :: .int .i64 2 :: .string ⟨(intT (numN c.nxt)).toArray⟩ :: .slice none 0 0 :: .int .i64 2 :: .string ⟨(intT (numN c.bas)).toArray⟩ :: .slice none 0 0 :: .int .i64 48 :: .string ⟨#[]⟩ :: .slice axe le cape :: []).toArray 122) := ⟨_, rfl⟩
      obtain ⟨q9, hq9⟩ : ∃ q, v5.heap.size = q := ⟨_, rfl⟩
      rw [← hW9] at HF hHeld ⊢
      rw [hq9] at HF ⊢
      clear hW9 hq9
      obtain ⟨x9, y9, z9, hB9⟩ := hHeld.2.2.1
      obtain ⟨⟨r0, r1, r2⟩, rf⟩ := cell_in hB9
      go_simp
      refine hK.out _ _ (KM.set hHeld _ _ _) (fun hHeld => ?_)
      clear hK K
      try simp only [Act.put, List.setIfInBounds_toArray, List.set_cons_zero, List.set_cons_succ]
      refine wpAnyH_done (by kernel_rfl) ?_ _
      have HEND : Hid (Below w.heap.size w _) := hHeld.1
      clear hHeld
      go_wp2_with fail
      refine bodyPost_ret (v := .agg #[.int .i64 48, .string ⟨#[]⟩, .slice (some ⟨q9, 0, none⟩) 6 6]) (by simp [results, Tryz.results86, go_sem, r0, r1, r2]; try rfl) rfl ?_
      obtain ⟨fp, hfp⟩ := HF.out
      refine ⟨.slice (some ⟨q9, 0, none⟩) 6 6, fp, rfl, ?_, HEND.out⟩
      refine OwnK.base (base := w.heap.size + 3) (by omega) (hfp.same fun b hb => ?_)
      have h1 := (OwnK.lt hfp b hb).1
      rw [heap_setCell_other _ _ _ _ (by show b ≠ w.heap.size + 1; omega), heap_setCell_other _ _ _ _ (by show b ≠ w.heap.size + 1; omega), heap_setCell_other _ _ _ _ (by show b ≠ w.heap.size + 1; omega)]
end Go.Proofs.YtplblechcnbieaaGreat

/-
  CrlBody and CrlText of both: the bytes of what is signed, and of a list.
-/
namespace Go.Proofs.YtplblechcnbieaaGreat
open Go.RowKit Der
set_option linter.unusedVariables false

theorem sz_rev (p : Int × Int) : szI 2 (revI p) ≤ 12 := by
  have h1 : szI 1 (intI p.1) ≤ 5 := sz_int p.1
  have h2 : szI 1 (intI p.2) ≤ 5 := sz_int p.2
  unfold revI
  rw [sz_lst]
  simp only [List.map_cons, List.map_nil, List.sum_cons, List.sum_nil, List.length_cons, List.length_nil]
  omega
theorem sz_revs : ∀ l : List (Int × Int), ((l.map revI).map (szI 2)).sum ≤ 12 * l.length
  | [] => Nat.le_refl _
  | x :: l => by
    have h1 := sz_revs l
    have h2 := sz_rev x
    simp only [List.map_cons, List.sum_cons, List.length_cons]
    omega
theorem sz_bodyL {c : Cl} (h : wtL c ≤ 1048576) : szI 4 (bodyL c) ≤ 16000000 := by
  obtain ⟨z1, z2, z3⟩ := wtL_parts h
  have a1 : szI 3 (intI c.num) ≤ 5 := sz_int c.num
  have a2 : szI 3 (intI c.ths) ≤ 5 := sz_int c.ths
  have a3 : szI 3 (intI c.nxt) ≤ 5 := sz_int c.nxt
  have a4 : szI 3 (intI c.bas) ≤ 5 := sz_int c.bas
  have t0 : szI 3 (txtJ c.issuer) = c.issuer.size := rfl
  have r := sz_revs c.revs
  unfold bodyL headL
  rw [sz_lst]
  simp only [List.cons_append, List.nil_append, List.map_cons, List.map_nil, List.sum_cons, List.sum_nil, List.length_cons, List.length_nil]
  rw [sz_lst]
  simp only [List.length_map]
  omega
theorem sz_crl {c : Cl} (h : wtL c ≤ 1048576) : szI 5 (crlI c) ≤ 20000000 := by
  have hb := sz_bodyL h
  have hs := (wtL_parts h).2.2
  have t : szI 4 (bytJ c.sig) = c.sig.size := rfl
  unfold crlI
  rw [sz_lst]
  simp only [List.map_cons, List.map_nil, List.sum_cons, List.sum_nil, List.length_cons, List.length_nil]
  omega
/-- The bytes of a list, if it is right and not too great. -/
def ltxt (c : Cl) : Option (List UInt8) := if crlOk c = true then writeI 5 (crlI c) else none
theorem to_bodyL {w w' : World} {c : Cl} {e : Ending} (h : ToIt w 3 (bodyL c) e w') : ∃ (a : Option Addr) (l cx : Nat) (fp : List Nat), e = .returned (.agg #[.int .i64 48, .string ⟨#[]⟩, .slice a l cx]) ∧ OwnK w' w.heap.size 3 (.slice a l cx) (It.kids (bodyL c)) fp ∧ Below w.heap.size w w' := to_any h
theorem crl_row {W W' : World} {b : Nat} {c : Cl} {k : Value} {fp : List Nat} (h : OwnK W b 3 k (It.kids (bodyL c)) fp) (hb : b ≤ W.heap.size)
    (hW : W' = W.alloc (.cells #[.int .i64 48, .string ⟨#[]⟩, k, .int .i64 4, .string c.sig, .slice none 0 0] 122)) : ItAt W' 5 (.agg #[.int .i64 48, .string ⟨#[]⟩, .slice (some ⟨W.heap.size, 0, none⟩) 2 2]) (crlI c) := by
  have R : RowsK W b 3 (It.kids (crlI c)) [k, .slice none 0 0] [fp, []] := ⟨h, own_none W b 3, trivial⟩
  obtain ⟨fq, hq⟩ := (R.grow (W' := W') (cap := 2) hb (by have := h.nodup; simpa using this) (by show 2 ≤ 1000; decide) rfl (by rw [hW]; rfl)).own
  exact ⟨_, rfl, hq.at⟩
/-- A list in a variable's block. -/
def KR (w W : World) (a : Array Value) : Prop := Below w.heap.size w W ∧ Blk W w.heap.size 57 a
theorem KR.below {w W W' : World} {a : Array Value} (h : KR w W a) (hb : Below W.heap.size W W') : KR w W' a := ⟨h.1.trans (hb.mono h.1.size), h.2.below hb h.2.lt⟩
theorem KR.start {w W : World} {a : Array Value} (hW : W = w.alloc (Obj.cells a 57)) : KR w W a := by rw [hW]; exact ⟨(Below.refl _ _).alloc (Nat.le_refl _) _, Blk.new w _ _⟩
set_option maxHeartbeats 6400000 in
set_option maxRecDepth 100000 in
theorem specCrlText_any (c : Cl) (v : Value) (w : World) (hz : wtL c ≤ 1048576) (hw : WdL c) (ha : ClAt w v c) : Calls Tryz.prog 36 #[v] w fun e w' => e = .returned (.tuple #[.string ⟨((ltxt c).getD []).toArray⟩, .bool (ltxt c).isSome]) ∧ Below w.heap.size w w' := by
  obtain ⟨pv, rfl, hrv⟩ := ha
  obtain ⟨pa, pc, hpv⟩ : ∃ pa pc, pv = .slice pa c.revs.length pc := by obtain ⟨a, b, h, _⟩ := hrv; exact ⟨a, b, h⟩
  obtain ⟨lp, hlp⟩ : ∃ l, c.revs.length = l := ⟨_, rfl⟩
  rw [hlp] at hpv
  subst hpv
  have HC : Hid (ClAt w (clV c (.slice pa lp pc)) c ∧ RevAt w (.slice pa lp pc) c.revs) := ⟨⟨_, rfl, hrv⟩, hrv⟩
  clear hrv hlp
  unfold clV at HC ⊢
  obtain ⟨T, hT⟩ : ∃ T : ByteArray, (⟨((ltxt c).getD []).toArray⟩ : ByteArray) = T := ⟨_, rfl⟩
  obtain ⟨okT, hok⟩ : ∃ b, (ltxt c).isSome = b := ⟨_, rfl⟩
  rw [hT, hok]
  have HT : Hid ((⟨((ltxt c).getD []).toArray⟩ : ByteArray) = T ∧ (ltxt c).isSome = okT) := ⟨hT, hok⟩
  have HZ : Hid (wtL c ≤ 1048576 ∧ WdL c) := ⟨hz, hw⟩
  clear hT hz hw hok
  obtain ⟨B, hB⟩ : ∃ B, crlOk c = B := ⟨_, rfl⟩
  have HB : Hid (crlOk c = B) := hB
  go_enter Tryz.func36, Tryz.ntmps36
  go_wp2_with fail
  obtain ⟨W1, hW1⟩ : ∃ W, W = w.alloc (Obj.cells #[.string c.issuer, .int .i64 c.num, .int .i64 c.ths, .int .i64 c.nxt, .int .i64 c.bas, .slice pa lp pc, .string c.sig] 57) := ⟨_, rfl⟩
  rw [← hW1]
  have H1 : Hid (KR w W1 #[.string c.issuer, .int .i64 c.num, .int .i64 c.ths, .int .i64 c.nxt, .int .i64 c.bas, .slice pa lp pc, .string c.sig]) := KR.start hW1
  clear hW1
  have E1 := specCrlOk_any c _ W1 (Nat.le_trans HZ.out.1 (by decide)) (HC.out.1.below H1.out.1)
  rw [hB] at E1
  clear hB
  refine E1.mono ?_
  rintro e w2 ⟨rfl, hb2⟩
  have H2 : Hid (KR w w2 #[.string c.issuer, .int .i64 c.num, .int .i64 c.ths, .int .i64 c.nxt, .int .i64 c.bas, .slice pa lp pc, .string c.sig]) := H1.out.below hb2
  clear E1 H1 hb2
  cases B with
  | false =>
    have HN : Hid (T = ⟨#[]⟩ ∧ okT = false) := by
      have e : ltxt c = none := by unfold ltxt; rw [HB.out]; rfl
      rw [← HT.out.1, ← HT.out.2, e]
      exact ⟨rfl, rfl⟩
    go_wp2_with fail
    go_ret2
    exact ⟨by rw [HN.out.1, HN.out.2]; rfl, H2.out.1⟩
  | true =>
    have HE : Hid (ltxt c = writeI 5 (crlI c)) := by show ltxt c = _; unfold ltxt; rw [HB.out]; rfl
    go_wp2_with fail
    refine wp_region_held_drew (S := fun W => KR w W #[.string c.issuer, .int .i64 c.num, .int .i64 c.ths, .int .i64 c.nxt, .int .i64 c.bas, .slice pa lp pc, .string c.sig]) (by kernel_rfl) (KR.below H2.out ((Below.refl _ _).drew)) (fun hHeld => ?_)
    clear H2
    generalize w2.drew = Wd at hHeld ⊢
    refine wpAnyH_take (i := 0) (oi := ⟨some 7, _, _, _, _, _⟩) (v := ?_) rfl (by kernel_rfl) (by kernel_rfl) (by kernel_rfl) (fun _ _ _ h => h) (Or.inl ⟨by rfl, ?_⟩) hHeld ?_
    rotate_left
    · intro W hSw
      have c0 : W.cell? ⟨w.heap.size, 0, none⟩ = some (.string c.issuer) := hSw.2.cell 0
      have c1 : W.cell? ⟨w.heap.size, 1, none⟩ = some (.int .i64 c.num) := hSw.2.cell 1
      have c2 : W.cell? ⟨w.heap.size, 2, none⟩ = some (.int .i64 c.ths) := hSw.2.cell 2
      have c3 : W.cell? ⟨w.heap.size, 3, none⟩ = some (.int .i64 c.nxt) := hSw.2.cell 3
      have c4 : W.cell? ⟨w.heap.size, 4, none⟩ = some (.int .i64 c.bas) := hSw.2.cell 4
      have c5 : W.cell? ⟨w.heap.size, 5, none⟩ = some (.slice pa lp pc) := hSw.2.cell 5
      have c6 : W.cell? ⟨w.heap.size, 6, none⟩ = some (.string c.sig) := hSw.2.cell 6
      go_simp
      try with_reducible rfl
    try simp only [Act.put, List.setIfInBounds_toArray, List.set_cons_zero, List.set_cons_succ]
    refine wpAnyH_take (i := 2) (oi := ⟨some 9, _, _, _, _, _⟩) (v := ?_) rfl (by kernel_rfl) (by kernel_rfl) (by kernel_rfl) (fun _ _ _ h => h) (Or.inl ⟨by rfl, ?_⟩) hHeld ?_
    rotate_left
    · intro W hSw
      go_simp
      try with_reducible rfl
    try simp only [Act.put, List.setIfInBounds_toArray, List.set_cons_zero, List.set_cons_succ]
    refine wpAnyH_take (i := 3) (oi := ⟨some 10, _, _, _, _, _⟩) (v := ?_) rfl (by kernel_rfl) (by kernel_rfl) (by kernel_rfl) (fun _ _ _ h => h) (Or.inl ⟨by rfl, ?_⟩) hHeld ?_
    rotate_left
    · intro W hSw
      have c6 : W.cell? ⟨w.heap.size, 6, none⟩ = some (.string c.sig) := hSw.2.cell 6
      go_simp
      try with_reducible rfl
    try simp only [Act.put, List.setIfInBounds_toArray, List.set_cons_zero, List.set_cons_succ]
    refine wpAnyH_ready (rs := [1]) (by kernel_rfl) (by simp) ?_
    refine AllReadyH.cons (o := ⟨some 8, _, _, _, _, _⟩) rfl (fun K hK => ?_) AllReadyH.nil
    go_simp
    refine (l10Item_any c _ _ (Nat.le_trans HZ.out.1 (by decide)) HZ.out.2 (HC.out.1.below hHeld.1)).mono ?_
    intro e v1 hto
    obtain ⟨a1, l1, x1, f1, rfl, ho1, hv⟩ := to_bodyL hto
    clear hto
    have hH := KR.below hHeld hv
    have HO : Hid (OwnK v1 w.heap.size 3 (.slice a1 l1 x1) (It.kids (bodyL c)) f1) := OwnK.base hHeld.1.size ho1
    clear ho1
    go_wp2_with fail
    refine hK.out _ _ hH (fun hHeld => ?_)
    clear hK K hH hv
    try simp only [Act.put, List.setIfInBounds_toArray, List.set_cons_zero, List.set_cons_succ]
    refine wpAnyH_ready (rs := [4]) (by kernel_rfl) (by simp) ?_
    refine AllReadyH.cons (o := ⟨some 11, _, _, _, _, _⟩) rfl (fun K hK => ?_) AllReadyH.nil
    go_simp
    refine (bytes_any c.sig _).mono ?_
    rintro e v2 ⟨rfl, hv⟩
    have hH := KR.below hHeld hv
    have HO2 : Hid (OwnK v2 w.heap.size 3 (.slice a1 l1 x1) (It.kids (bodyL c)) f1) := HO.out.below hv (fun b hm => (OwnK.lt HO.out b hm).2)
    clear HO
    go_wp2_with fail
    refine hK.out _ _ hH (fun hHeld => ?_)
    clear hK K hH hv
    try simp only [Act.put, List.setIfInBounds_toArray, List.set_cons_zero, List.set_cons_succ]
    refine wpAnyH_ready (rs := [5]) (by kernel_rfl) (by simp) ?_
    refine AllReadyH.cons (o := ⟨some 12, _, _, _, _, _⟩) rfl (fun K hK => ?_) AllReadyH.nil
    obtain ⟨W3, hW3⟩ : ∃ W, W = v2.alloc (Obj.cells #[.int .i64 48, .string ⟨#[]⟩, .slice a1 l1 x1, .int .i64 4, .string c.sig, .slice none 0 0] 122) := ⟨_, rfl⟩
    have HI : Hid (ItAt W3 5 (.agg #[.int .i64 48, .string ⟨#[]⟩, .slice (some ⟨v2.heap.size, 0, none⟩) 2 2]) (crlI c)) := crl_row HO2.out hHeld.1.size hW3
    have hH : KR w W3 #[.string c.issuer, .int .i64 c.num, .int .i64 c.ths, .int .i64 c.nxt, .int .i64 c.bas, .slice pa lp pc, .string c.sig] := KR.below hHeld (by rw [hW3]; exact (Below.refl _ _).alloc (Nat.le_refl _) _)
    go_simp
    rw [← hW3]
    refine hK.out _ _ hH (fun hHeld => ?_)
    clear hK K hH hW3 HO2
    try simp only [Act.put, List.setIfInBounds_toArray, List.set_cons_zero, List.set_cons_succ]
    refine wpAnyH_take (i := 6) (oi := ⟨some 13, _, _, _, _, _⟩) (v := ?_) rfl (by kernel_rfl) (by kernel_rfl) (by kernel_rfl) (fun _ _ _ h => h) (Or.inl ⟨by rfl, ?_⟩) hHeld ?_
    rotate_left
    · intro W hSw
      go_simp
      try with_reducible rfl
    try simp only [Act.put, List.setIfInBounds_toArray, List.set_cons_zero, List.set_cons_succ]
    refine wpAnyH_ready (rs := [7]) (by kernel_rfl) (by simp) ?_
    refine AllReadyH.cons (o := ⟨some 14, _, _, _, _, _⟩) rfl (fun K hK => ?_) AllReadyH.nil
    have E7 := specItemText_any 5 (crlI c) _ W3 HI.out (sz_crl HZ.out.1)
    rw [← HE.out, HT.out.1, HT.out.2] at E7
    go_simp
    refine E7.mono ?_
    rintro e v4 ⟨rfl, hv⟩
    have hH := KR.below hHeld hv
    clear E7
    go_wp2_with fail
    refine hK.out _ _ hH (fun hHeld => ?_)
    clear hK K hH hv
    try simp only [Act.put, List.setIfInBounds_toArray, List.set_cons_zero, List.set_cons_succ]
    refine wpAnyH_take (i := 8) (oi := ⟨some 15, _, _, _, _, _⟩) (v := ?_) rfl (by kernel_rfl) (by kernel_rfl) (by kernel_rfl) (fun _ _ _ h => h) (Or.inl ⟨by rfl, ?_⟩) hHeld ?_
    rotate_left
    · intro W hSw
      go_simp
      try with_reducible rfl
    try simp only [Act.put, List.setIfInBounds_toArray, List.set_cons_zero, List.set_cons_succ]
    refine wpAnyH_take (i := 9) (oi := ⟨some 16, _, _, _, _, _⟩) (v := ?_) rfl (by kernel_rfl) (by kernel_rfl) (by kernel_rfl) (fun _ _ _ h => h) (Or.inl ⟨by rfl, ?_⟩) hHeld ?_
    rotate_left
    · intro W hSw
      go_simp
      try with_reducible rfl
    try simp only [Act.put, List.setIfInBounds_toArray, List.set_cons_zero, List.set_cons_succ]
    refine wpAnyH_take (i := 10) (oi := ⟨some 2, _, _, _, _, _⟩) (v := ?_) rfl (by kernel_rfl) (by kernel_rfl) (by kernel_rfl) (fun _ _ _ h => h) (Or.inl ⟨by rfl, ?_⟩) hHeld ?_
    rotate_left
    · intro W hSw
      go_simp
      try with_reducible rfl
    try simp only [Act.put, List.setIfInBounds_toArray, List.set_cons_zero, List.set_cons_succ]
    refine wpAnyH_take (i := 11) (oi := ⟨some 3, _, _, _, _, _⟩) (v := ?_) rfl (by kernel_rfl) (by kernel_rfl) (by kernel_rfl) (fun _ _ _ h => h) (Or.inl ⟨by rfl, ?_⟩) hHeld ?_
    rotate_left
    · intro W hSw
      go_simp
      try with_reducible rfl
    try simp only [Act.put, List.setIfInBounds_toArray, List.set_cons_zero, List.set_cons_succ]
    refine wpAnyH_done (by kernel_rfl) ?_ _
    have HEND : Hid (Below w.heap.size w _) := hHeld.1
    clear hHeld
    go_wp2_with fail
    go_ret2
    exact ⟨rfl, HEND.out⟩
set_option maxHeartbeats 6400000 in
set_option maxRecDepth 100000 in
theorem implCrlText_any (c : Cl) (v : Value) (w : World) (hz : wtL c ≤ 1048576) (hw : WdL c) (ha : ClAt w v c) : Calls Tryz.prog 44 #[v] w fun e w' => e = .returned (.tuple #[.string ⟨((ltxt c).getD []).toArray⟩, .bool (ltxt c).isSome]) ∧ Below w.heap.size w w' := by
  obtain ⟨pv, rfl, hrv⟩ := ha
  obtain ⟨pa, pc, hpv⟩ : ∃ pa pc, pv = .slice pa c.revs.length pc := by obtain ⟨a, b, h, _⟩ := hrv; exact ⟨a, b, h⟩
  obtain ⟨lp, hlp⟩ : ∃ l, c.revs.length = l := ⟨_, rfl⟩
  rw [hlp] at hpv
  subst hpv
  have HC : Hid (ClAt w (clV c (.slice pa lp pc)) c ∧ RevAt w (.slice pa lp pc) c.revs) := ⟨⟨_, rfl, hrv⟩, hrv⟩
  clear hrv hlp
  unfold clV at HC ⊢
  obtain ⟨T, hT⟩ : ∃ T : ByteArray, (⟨((ltxt c).getD []).toArray⟩ : ByteArray) = T := ⟨_, rfl⟩
  obtain ⟨okT, hok⟩ : ∃ b, (ltxt c).isSome = b := ⟨_, rfl⟩
  rw [hT, hok]
  have HT : Hid ((⟨((ltxt c).getD []).toArray⟩ : ByteArray) = T ∧ (ltxt c).isSome = okT) := ⟨hT, hok⟩
  have HZ : Hid (wtL c ≤ 1048576 ∧ WdL c) := ⟨hz, hw⟩
  clear hT hz hw hok
  obtain ⟨B, hB⟩ : ∃ B, crlOk c = B := ⟨_, rfl⟩
  have HB : Hid (crlOk c = B) := hB
  go_enter Tryz.func44, Tryz.ntmps44
  go_wp2_with fail
  obtain ⟨W1, hW1⟩ : ∃ W, W = w.alloc (Obj.cells #[.string c.issuer, .int .i64 c.num, .int .i64 c.ths, .int .i64 c.nxt, .int .i64 c.bas, .slice pa lp pc, .string c.sig] 57) := ⟨_, rfl⟩
  rw [← hW1]
  have H1 : Hid (KR w W1 #[.string c.issuer, .int .i64 c.num, .int .i64 c.ths, .int .i64 c.nxt, .int .i64 c.bas, .slice pa lp pc, .string c.sig]) := KR.start hW1
  clear hW1
  have E1 := implCrlOk_any c _ W1 (Nat.le_trans HZ.out.1 (by decide)) (HC.out.1.below H1.out.1)
  rw [hB] at E1
  clear hB
  refine E1.mono ?_
  rintro e w2 ⟨rfl, hb2⟩
  have H2 : Hid (KR w w2 #[.string c.issuer, .int .i64 c.num, .int .i64 c.ths, .int .i64 c.nxt, .int .i64 c.bas, .slice pa lp pc, .string c.sig]) := H1.out.below hb2
  clear E1 H1 hb2
  cases B with
  | false =>
    have HN : Hid (T = ⟨#[]⟩ ∧ okT = false) := by
      have e : ltxt c = none := by unfold ltxt; rw [HB.out]; rfl
      rw [← HT.out.1, ← HT.out.2, e]
      exact ⟨rfl, rfl⟩
    go_wp2_with fail
    go_ret2
    exact ⟨by rw [HN.out.1, HN.out.2]; rfl, H2.out.1⟩
  | true =>
    have HE : Hid (ltxt c = writeI 5 (crlI c)) := by show ltxt c = _; unfold ltxt; rw [HB.out]; rfl
    go_wp2_with fail
    refine wp_region_held_drew (S := fun W => KR w W #[.string c.issuer, .int .i64 c.num, .int .i64 c.ths, .int .i64 c.nxt, .int .i64 c.bas, .slice pa lp pc, .string c.sig]) (by kernel_rfl) (KR.below H2.out ((Below.refl _ _).drew)) (fun hHeld => ?_)
    clear H2
    generalize w2.drew = Wd at hHeld ⊢
    refine wpAnyH_take (i := 0) (oi := ⟨some 7, _, _, _, _, _⟩) (v := ?_) rfl (by kernel_rfl) (by kernel_rfl) (by kernel_rfl) (fun _ _ _ h => h) (Or.inl ⟨by rfl, ?_⟩) hHeld ?_
    rotate_left
    · intro W hSw
      have c0 : W.cell? ⟨w.heap.size, 0, none⟩ = some (.string c.issuer) := hSw.2.cell 0
      have c1 : W.cell? ⟨w.heap.size, 1, none⟩ = some (.int .i64 c.num) := hSw.2.cell 1
      have c2 : W.cell? ⟨w.heap.size, 2, none⟩ = some (.int .i64 c.ths) := hSw.2.cell 2
      have c3 : W.cell? ⟨w.heap.size, 3, none⟩ = some (.int .i64 c.nxt) := hSw.2.cell 3
      have c4 : W.cell? ⟨w.heap.size, 4, none⟩ = some (.int .i64 c.bas) := hSw.2.cell 4
      have c5 : W.cell? ⟨w.heap.size, 5, none⟩ = some (.slice pa lp pc) := hSw.2.cell 5
      have c6 : W.cell? ⟨w.heap.size, 6, none⟩ = some (.string c.sig) := hSw.2.cell 6
      go_simp
      try with_reducible rfl
    try simp only [Act.put, List.setIfInBounds_toArray, List.set_cons_zero, List.set_cons_succ]
    refine wpAnyH_take (i := 3) (oi := ⟨some 10, _, _, _, _, _⟩) (v := ?_) rfl (by kernel_rfl) (by kernel_rfl) (by kernel_rfl) (fun _ _ _ h => h) (Or.inl ⟨by rfl, ?_⟩) hHeld ?_
    rotate_left
    · intro W hSw
      go_simp
      try with_reducible rfl
    try simp only [Act.put, List.setIfInBounds_toArray, List.set_cons_zero, List.set_cons_succ]
    refine wpAnyH_take (i := 4) (oi := ⟨some 11, _, _, _, _, _⟩) (v := ?_) rfl (by kernel_rfl) (by kernel_rfl) (by kernel_rfl) (fun _ _ _ h => h) (Or.inl ⟨by rfl, ?_⟩) hHeld ?_
    rotate_left
    · intro W hSw
      have c6 : W.cell? ⟨w.heap.size, 6, none⟩ = some (.string c.sig) := hSw.2.cell 6
      go_simp
      try with_reducible rfl
    try simp only [Act.put, List.setIfInBounds_toArray, List.set_cons_zero, List.set_cons_succ]
    refine wpAnyH_ready (rs := [1]) (by kernel_rfl) (by simp) ?_
    refine AllReadyH.cons (o := ⟨some 8, _, _, _, _, _⟩) rfl (fun K hK => ?_) AllReadyH.nil
    go_simp
    refine (tidingsOf_any c (.slice pa lp pc) _ ⟨_, _, _, rfl⟩).mono ?_
    rintro e v0 ⟨rfl, hv⟩
    have hH := KR.below hHeld hv
    unfold tdV
    go_wp2_with fail
    refine hK.out _ _ hH (fun hHeld => ?_)
    clear hK K hH hv
    try simp only [Act.put, List.setIfInBounds_toArray, List.set_cons_zero, List.set_cons_succ]
    refine wpAnyH_ready (rs := [2]) (by kernel_rfl) (by simp) ?_
    refine AllReadyH.cons (o := ⟨some 9, _, _, _, _, _⟩) rfl (fun K hK => ?_) AllReadyH.nil
    go_simp
    refine (tidItem_any c pa lp pc _ (Nat.le_trans HZ.out.1 (by decide)) HZ.out.2 (HC.out.2.below hHeld.1)).mono ?_
    intro e v1 hto
    obtain ⟨a1, l1, x1, f1, rfl, ho1, hv⟩ := to_bodyL hto
    clear hto
    have hH := KR.below hHeld hv
    have HO : Hid (OwnK v1 w.heap.size 3 (.slice a1 l1 x1) (It.kids (bodyL c)) f1) := OwnK.base hHeld.1.size ho1
    clear ho1
    go_wp2_with fail
    refine hK.out _ _ hH (fun hHeld => ?_)
    clear hK K hH hv
    try simp only [Act.put, List.setIfInBounds_toArray, List.set_cons_zero, List.set_cons_succ]
    refine wpAnyH_ready (rs := [5]) (by kernel_rfl) (by simp) ?_
    refine AllReadyH.cons (o := ⟨some 12, _, _, _, _, _⟩) rfl (fun K hK => ?_) AllReadyH.nil
    go_simp
    refine (signedItem_any 3 (bodyL c) 48 ⟨#[]⟩ c.sig (.slice a1 l1 x1) f1 w.heap.size _ rfl rfl ⟨_, _, _, rfl⟩ (by have := (wtL_parts HZ.out.1).2.2; omega) HO.out hHeld.1.size).mono ?_
    rintro e v2 ⟨q2, f2, rfl, ho2, hv⟩
    have hH := KR.below hHeld hv
    have HI : Hid (ItAt v2 5 (.agg #[.int .i64 48, .string ⟨#[]⟩, .slice (some ⟨q2, 0, none⟩) 2 2]) (crlI c)) := ⟨_, rfl, ho2.at⟩
    clear HO ho2
    go_wp2_with fail
    refine hK.out _ _ hH (fun hHeld => ?_)
    clear hK K hH hv
    try simp only [Act.put, List.setIfInBounds_toArray, List.set_cons_zero, List.set_cons_succ]
    refine wpAnyH_ready (rs := [6]) (by kernel_rfl) (by simp) ?_
    refine AllReadyH.cons (o := ⟨some 13, _, _, _, _, _⟩) rfl (fun K hK => ?_) AllReadyH.nil
    have E7 := implItemText_any 5 (crlI c) _ v2 HI.out (sz_crl HZ.out.1)
    rw [← HE.out, HT.out.1, HT.out.2] at E7
    go_simp
    refine E7.mono ?_
    rintro e v4 ⟨rfl, hv⟩
    have hH := KR.below hHeld hv
    clear E7
    go_wp2_with fail
    refine hK.out _ _ hH (fun hHeld => ?_)
    clear hK K hH hv
    try simp only [Act.put, List.setIfInBounds_toArray, List.set_cons_zero, List.set_cons_succ]
    refine wpAnyH_take (i := 7) (oi := ⟨some 14, _, _, _, _, _⟩) (v := ?_) rfl (by kernel_rfl) (by kernel_rfl) (by kernel_rfl) (fun _ _ _ h => h) (Or.inl ⟨by rfl, ?_⟩) hHeld ?_
    rotate_left
    · intro W hSw
      go_simp
      try with_reducible rfl
    try simp only [Act.put, List.setIfInBounds_toArray, List.set_cons_zero, List.set_cons_succ]
    refine wpAnyH_take (i := 8) (oi := ⟨some 15, _, _, _, _, _⟩) (v := ?_) rfl (by kernel_rfl) (by kernel_rfl) (by kernel_rfl) (fun _ _ _ h => h) (Or.inl ⟨by rfl, ?_⟩) hHeld ?_
    rotate_left
    · intro W hSw
      go_simp
      try with_reducible rfl
    try simp only [Act.put, List.setIfInBounds_toArray, List.set_cons_zero, List.set_cons_succ]
    refine wpAnyH_take (i := 9) (oi := ⟨some 2, _, _, _, _, _⟩) (v := ?_) rfl (by kernel_rfl) (by kernel_rfl) (by kernel_rfl) (fun _ _ _ h => h) (Or.inl ⟨by rfl, ?_⟩) hHeld ?_
    rotate_left
    · intro W hSw
      go_simp
      try with_reducible rfl
    try simp only [Act.put, List.setIfInBounds_toArray, List.set_cons_zero, List.set_cons_succ]
    refine wpAnyH_take (i := 10) (oi := ⟨some 3, _, _, _, _, _⟩) (v := ?_) rfl (by kernel_rfl) (by kernel_rfl) (by kernel_rfl) (fun _ _ _ h => h) (Or.inl ⟨by rfl, ?_⟩) hHeld ?_
    rotate_left
    · intro W hSw
      go_simp
      try with_reducible rfl
    try simp only [Act.put, List.setIfInBounds_toArray, List.set_cons_zero, List.set_cons_succ]
    refine wpAnyH_done (by kernel_rfl) ?_ _
    have HEND : Hid (Below w.heap.size w _) := hHeld.1
    clear hHeld
    go_wp2_with fail
    go_ret2
    exact ⟨rfl, HEND.out⟩
end Go.Proofs.YtplblechcnbieaaGreat
