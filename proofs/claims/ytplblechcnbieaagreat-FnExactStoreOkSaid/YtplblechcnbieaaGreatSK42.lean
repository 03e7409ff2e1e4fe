/-
  Texts of the proof, one behind the other: CrH, SoK.
-/
import Derived.Test.YtplblechcnbieaaGreatShelf
import Derived.Deep.WholeRow
import Derived.StillTailTactics
import Derived.Deep.MidRow
import Derived.Lib.SlicesS
import Derived.Test.YtplblechcnbieaaGreatSK8
import Derived.Test.YtplblechcnbieaaGreatSK13
import Derived.Test.YtplblechcnbieaaGreatSK20
import Derived.Test.YtplblechcnbieaaGreatSK24
import Derived.Test.YtplblechcnbieaaGreatSK37
import Derived.Test.YtplblechcnbieaaGreatSK38
import Derived.Test.YtplblechcnbieaaGreatSK41

/-
  The specification's l09Copy, of a letter whose lists a call owns.
-/
namespace Go.Proofs.YtplblechcnbieaaGreat
open Go.RowKit
set_option linter.unusedVariables false

theorem wpList_append_texts2 {w : World} {ops : Array Oper} {rest : List Oper} {o : Oper} {a : Act} {Q : Exit → Act → World → Prop} (hgd : o.guard = none) (s x : Operand) (t : TypeId)
    (ho : o.op = .call { callee := .builtin .append, args := #[s, x], argTypes := #[t, t] }) (base : Nat) (i0 : TypeInfo) (ht : Tryz.prog.underlying t = some (.slice 9)) (hi : Tryz.prog.info? 9 = some i0) (hz0 : i0.zero = some (.string ByteArray.empty)) (hz1 : i0.size = 1) (hz2 : i0.bytes = 16)
    (v : Value) (n : Nat) (xs : List Value) (hs : a.eval s = v) (hown : w.ownsRow base 9 1 v n xs) (u : Value) (lu : List ByteArray) (bu : Nat) (hu : OwnT w bu u lu) (hx : a.eval x = u) (hlen : n + lu.length ≤ 100000000) (hbase : base ≤ w.heap.size)
    (h : ∀ v' w', w'.ownsRow base 9 1 v' (n + lu.length) (xs ++ cellsT lu) → w.grownBy w' v.ownBlock → wpList Tryz.prog ops Q rest (a.put o.dst v') w') : wpList Tryz.prog ops Q (o :: rest) a w := by
  rcases hu.2 with ⟨rfl, h0⟩ | ⟨g, cap, cur, rfl, hbg, hg, hn, hm, hsz, htk⟩
  · have hl : lu = [] := List.eq_nil_of_length_eq_zero h0
    subst hl
    refine wpList_append_own_none hgd s x t ho base 9 i0 1 ht hi v n xs hs hown hx (h v w (by simpa [cellsT] using hown) (World.grownBy.refl _ _))
  · refine wpList_append_own w hgd s x t ho base 9 i0 (.string ByteArray.empty) 1 16 ht hi hz0 hz1 hz2 rfl (by decide) v n xs hs hown ⟨g, 0, none⟩ lu.length cap (cellsT lu) hx (by simp [cellsT]) (fun j q hq => ?_) (fun q hq => ?_) (by unfold maxLen; omega) (by omega) hbase (fun v' w' h1 h2 _ => h v' w' h1 h2)
    · have hj : j < lu.length := by
        refine Nat.lt_of_not_le fun h => ?_
        rw [List.getElem?_eq_none (by rw [cellsT_len]; exact h)] at hq
        cases hq
      rw [Addr.add_lit, Nat.zero_add, hu.cell hj, ← hq, cellsT_getD hj]
    · obtain ⟨y, _, rfl⟩ := List.mem_map.1 hq
      rfl
end Go.Proofs.YtplblechcnbieaaGreat

/-
  Stores that are right: what is asked; the small functions of both.
-/
namespace Go.Proofs.YtplblechcnbieaaGreat
open Go.RowKit Der
set_option linter.unusedVariables false

/-- Whether a text is among texts. -/
def inT (l : List ByteArray) (x : ByteArray) : Bool := l.any fun z => decide (z = x)
theorem inT_iff {l : List ByteArray} {x : ByteArray} : inT l x = true ↔ x ∈ l := by
  unfold inT
  rw [List.any_eq_true]
  exact ⟨fun ⟨z, h1, h2⟩ => by rw [← of_decide_eq_true h2]; exact h1, fun h => ⟨x, h, decide_eq_true rfl⟩⟩
theorem inT_no {l : List ByteArray} {x : ByteArray} (h : ¬ x ∈ l) : inT l x = false := Bool.eq_false_iff.2 fun h2 => h (inT_iff.1 h2)
/-- All are right, and no two have one text: those that were seen are told. -/
def dif : List ByteArray → List (Bool × ByteArray) → Bool
  | _, [] => true
  | seen, x :: l => x.1 && (!inT seen x.2 && dif (seen ++ [x.2]) l)
def tC (c : Ct) : Bool × ByteArray := ((ctxt c).isSome, ⟨((ctxt c).getD []).toArray⟩)
def tL (c : Cl) : Bool × ByteArray := ((ltxt c).isSome, ⟨((ltxt c).getD []).toArray⟩)
def tA (a : An) : Bool × ByteArray := (nameOk a.name && decide (a.key.size = 15), a.name)
/-- Whether a store is right. -/
def stoOk (s : So) : Bool := (decide (s.certs.length ≤ 12) && decide (s.crls.length ≤ 8) && decide (s.ancs.length ≤ 3)) && (dif [] (s.certs.map tC) && (dif [] (s.crls.map tL) && dif [] (s.ancs.map tA)))
theorem dif_at {L : List (Bool × ByteArray)} {k : Nat} (hk : k < L.length) : dif ((L.take k).map Prod.snd) (L.drop k) = (L[k].1 && (!inT ((L.take k).map Prod.snd) L[k].2 && dif ((L.take (k + 1)).map Prod.snd) (L.drop (k + 1)))) := by
  rw [List.drop_eq_getElem_cons hk, List.take_succ_eq_append_getElem hk, List.map_append]
  rfl
theorem dif_end (L : List (Bool × ByteArray)) {k : Nat} (hk : L.length ≤ k) : dif ((L.take k).map Prod.snd) (L.drop k) = true := by
  rw [List.drop_eq_nil_of_le hk]
  rfl
set_option maxHeartbeats 1600000 in
set_option maxRecDepth 100000 in
theorem l13In_any (v : Value) (l : List ByteArray) (x : ByteArray) (w : World) (hl : l.length ≤ 100000000) (h : TxtAt w v l) : Calls Tryz.prog 35 #[v, .string x] w fun e w' => e = .returned (.bool (inT l x)) ∧ w = w' := by
  obtain ⟨ao, cap, rfl, hc⟩ := h
  obtain ⟨n, hn⟩ : ∃ n, l.length = n := ⟨_, rfl⟩
  obtain ⟨R, hR⟩ : ∃ b, inT l x = b := ⟨_, rfl⟩
  have HC : Hid ((∀ j, j < l.length → ∃ g, ao = some ⟨g, 0, none⟩ ∧ g < w.heap.size ∧ w.cell? ⟨g, j, none⟩ = some (.string (l.getD j ByteArray.empty))) ∧ l.length = n ∧ inT l x = R) := ⟨hc, hn, hR⟩
  rw [hn] at hl ⊢
  rw [hR]
  clear hc hn hR
  go_enter Tryz.func35, Tryz.ntmps35
  go_wp2
  go_loopw [5] (fun iv wr => ∃ k : Nat, k ≤ n ∧ iv = .int .i64 k ∧ Hid (∀ j, j < k → l.getD j ByteArray.empty ≠ x) ∧ w = wr) (fun iv _ => n - (intOf iv).toNat)
  case atStart => exact ⟨0, Nat.zero_le _, rfl, fun j hj => absurd hj (Nat.not_lt_zero _), rfl⟩
  case round =>
    obtain ⟨k, hk, rfl, HK, rfl⟩ := hrel
    by_cases hlt : k < n
    · have hki : (k : Int) < (n : Int) := by omega
      have hk0 : (0 : Int) ≤ (k : Int) := by omega
      have hj : k < l.length := by rw [HC.out.2.1]; exact hlt
      obtain ⟨g, hao, hg, hcx⟩ := HC.out.1 k hj
      subst hao
      have hmem : l.getD k ByteArray.empty ∈ l := by rw [List.getD_eq_getElem?_getD, List.getElem?_eq_getElem hj]; exact List.getElem_mem _
      by_cases hx : l.getD k ByteArray.empty = x
      · have HRR : Hid (R = true) := by show R = true; rw [← HC.out.2.2, inT_iff, ← hx]; exact hmem
        have hq : ((l.getD k ByteArray.empty).toList == x.toList) = true := (Lib.bytes_beq_iff _ _).2 hx
        clear hmem hx
        generalize l.getD k ByteArray.empty = y at *
        go_wp2
        go_ret
        exact ⟨by rw [HRR.out]; rfl, rfl⟩
      · have HN : Hid (∀ j, j < k + 1 → l.getD j ByteArray.empty ≠ x) := fun j hj => by
          by_cases e : j = k
          · subst e; exact hx
          · exact HK.out j (by omega)
        have hq : ((l.getD k ByteArray.empty).toList == x.toList) = false := (Lib.bytes_beq_false_iff _ _).2 hx
        clear hmem hx HK
        obtain ⟨y, hy⟩ : ∃ y, l.getD k ByteArray.empty = y := ⟨_, rfl⟩
        rw [hy] at hcx hq
        clear hy
        go_wp2
        go_roundw
        case rel => exact ⟨k + 1, by omega, by go_num, HN, by first | rfl | trivial⟩
        case measure => simp [intOf]; omega
    · have hkl : k = n := by omega
      subst hkl
      have HRR : Hid (R = false) := by
        show R = false
        rw [← HC.out.2.2]
        refine inT_no fun hm => ?_
        obtain ⟨j, hj, he⟩ := List.getElem_of_mem hm
        refine HK.out j (by rw [← HC.out.2.1]; exact hj) ?_
        rw [List.getD_eq_getElem?_getD, List.getElem?_eq_getElem hj]
        exact he
      go_wp2
      go_ret
      exact ⟨by rw [HRR.out]; rfl, rfl⟩
theorem hasText_any (v : Value) (l : List ByteArray) (x : ByteArray) (b : Nat) (w : World) (hl : l.length ≤ 100000000) (h : OwnT w b v l) : Calls Tryz.prog 89 #[v, .string x] w fun e w' => e = .returned (.bool (inT l x)) ∧ w = w' := by
  by_cases h0 : l.length = 0
  · obtain ⟨ao, cap, rfl, _⟩ := h.at
    have hn : l = [] := List.eq_nil_of_length_eq_zero h0
    subst hn
    exact (Tryz.slices_Contains_string_empty ao cap x w).mono (by rintro e w' ⟨rfl, rfl⟩; exact ⟨rfl, rfl⟩)
  · obtain ⟨ao, cap, rfl, hc⟩ := h.at
    obtain ⟨g, rfl, _, _⟩ := hc 0 (by omega)
    refine (Tryz.slices_Contains_string g 0 l.length cap l x w (Nat.le_refl _) (by omega) (fun j hj => by rw [Nat.zero_add]; exact h.cell hj)).mono ?_
    rintro e w' ⟨rfl, rfl⟩
    refine ⟨?_, rfl⟩
    rw [List.take_length]
    congr 2
    rw [Bool.eq_iff_iff, Lib.containsS_iff, inT_iff]
set_option maxHeartbeats 1600000 in
set_option maxRecDepth 100000 in
theorem l13Anchor_any (a : An) (w : World) (hs : wtA a ≤ 1048576) : Calls Tryz.prog 37 #[.agg #[.string a.name, .string a.key]] w fun e w' => e = .returned (.bool (tA a).1) ∧ Below w.heap.size w w' := by
  unfold wtA at hs
  obtain ⟨R, hR⟩ : ∃ b, (tA a).1 = b := ⟨_, rfl⟩
  obtain ⟨N, hN⟩ : ∃ b, nameOk a.name = b := ⟨_, rfl⟩
  have HR : Hid ((N && decide (a.key.size = 15)) = R) := by rw [← hR, ← hN]; exact rfl
  rw [hR]
  obtain ⟨V, hV⟩ : ∃ V, V = w.alloc (Obj.cells #[.string a.name, .string a.key] 75) := ⟨_, rfl⟩
  have HV : Hid (Below w.heap.size w V ∧ Blk V w.heap.size 75 #[.string a.name, .string a.key]) := by rw [hV]; exact ⟨(Below.refl _ _).alloc (Nat.le_refl _) _, Blk.new w _ _⟩
  have E := specName_any a.name V (by omega)
  rw [hN] at E
  clear hR hN
  go_enter Tryz.func37, Tryz.ntmps37
  go_wp2_with fail
  rw [← hV]
  clear hV
  refine E.mono ?_
  rintro e w2 ⟨rfl, rfl⟩
  clear E
  have c1 : V.cell? ⟨w.heap.size, 1, none⟩ = some (.string a.key) := HV.out.2.cell 1
  have hk15 : a.key.size ≤ 1048576 := by omega
  cases N with
  | false =>
    go_wp2
    go_ret
    exact ⟨by rw [← HR.out]; rfl, HV.out.1⟩
  | true =>
    by_cases hk : a.key.size = 15
    · have hb : ((a.key.size : Int) == 15) = true := by rw [hk]; rfl
      have HRR : Hid (R = true) := by show R = true; rw [← HR.out, decide_eq_true hk]; rfl
      clear hk HR
      go_wp2
      go_ret
      exact ⟨by rw [HRR.out]; simp, HV.out.1⟩
    · have hb : ((a.key.size : Int) == 15) = false := beq_eq_false_iff_ne.2 (by omega)
      have HRR : Hid (R = false) := by show R = false; rw [← HR.out, decide_eq_false hk]; rfl
      clear hk HR
      go_wp2
      go_ret
      exact ⟨by rw [HRR.out]; simp, HV.out.1⟩
set_option maxHeartbeats 1600000 in
set_option maxRecDepth 100000 in
theorem anchorText_any (a : An) (w : World) (hs : wtA a ≤ 1048576) : Calls Tryz.prog 46 #[.agg #[.string a.name, .string a.key]] w fun e w' => e = .returned (.tuple #[.string (tA a).2, .bool (tA a).1]) ∧ Below w.heap.size w w' := by
  unfold wtA at hs
  obtain ⟨R, hR⟩ : ∃ b, (tA a).1 = b := ⟨_, rfl⟩
  obtain ⟨N, hN⟩ : ∃ b, nameOk a.name = b := ⟨_, rfl⟩
  have HR : Hid ((N && decide (a.key.size = 15)) = R) := by rw [← hR, ← hN]; exact rfl
  rw [hR]
  change Calls _ _ _ _ fun e w' => e = .returned (.tuple #[.string a.name, .bool R]) ∧ _
  obtain ⟨V, hV⟩ : ∃ V, V = w.alloc (Obj.cells #[.string a.name, .string a.key] 75) := ⟨_, rfl⟩
  have HV : Hid (Below w.heap.size w V ∧ Blk V w.heap.size 75 #[.string a.name, .string a.key]) := by rw [hV]; exact ⟨(Below.refl _ _).alloc (Nat.le_refl _) _, Blk.new w _ _⟩
  have E := implName_any a.name V (by omega)
  rw [hN] at E
  have hk15 : a.key.size ≤ 1048576 := by omega
  clear hR
  have HL : Hid (∀ W, Below V.heap.size V W → W.cell? ⟨w.heap.size, 0, none⟩ = some (.string a.name) ∧ W.cell? ⟨w.heap.size, 1, none⟩ = some (.string a.key)) := fun W hb => ⟨(HV.out.2.below hb HV.out.2.lt).cell 0, (HV.out.2.below hb HV.out.2.lt).cell 1⟩
  go_enter Tryz.func46, Tryz.ntmps46
  go_upto_region 1 with fail
  have hS0 : Below V.heap.size V V.drew := (Below.refl _ _).drew
  have E2 := implName_any a.name V.drew (by omega)
  rw [hN] at E2
  clear E hN
  subst hV
  refine wp_region_held_drew (S := fun W => Below (w.alloc (Obj.cells #[.string a.name, .string a.key] 75)).heap.size (w.alloc (Obj.cells #[.string a.name, .string a.key] 75)) W) (by kernel_rfl) hS0 (fun hHeld => ?_)
  refine wpAnyH_take (i := 0) (oi := ⟨some 4, _, _, _, _, _⟩) (v := ?_) rfl (by kernel_rfl) (by kernel_rfl) (by kernel_rfl) (fun _ _ _ h => h) (Or.inl ⟨by rfl, ?_⟩) hHeld ?_
  rotate_left
  · intro W hSw
    go_simp
    try with_reducible rfl
  try simp only [Act.put, List.setIfInBounds_toArray, List.set_cons_zero, List.set_cons_succ]
  refine wpAnyH_take (i := 1) (oi := ⟨some 5, _, _, _, _, _⟩) (v := ?_) rfl (by kernel_rfl) (by kernel_rfl) (by kernel_rfl) (fun _ _ _ h => h) (Or.inl ⟨by rfl, ?_⟩) hHeld ?_
  rotate_left
  · intro W hSw
    obtain ⟨d0, d1⟩ := HL.out W hSw
    go_simp
    try with_reducible rfl
  try simp only [Act.put, List.setIfInBounds_toArray, List.set_cons_zero, List.set_cons_succ]
  refine wpAnyH_take (i := 2) (oi := ⟨some 6, _, _, _, _, _⟩) (v := ?_) rfl (by kernel_rfl) (by kernel_rfl) (by kernel_rfl) (fun _ _ _ h => h) (Or.inl ⟨by rfl, ?_⟩) hHeld ?_
  rotate_left
  · intro W hSw
    go_simp
    try with_reducible rfl
  try simp only [Act.put, List.setIfInBounds_toArray, List.set_cons_zero, List.set_cons_succ]
  refine wpAnyH_take (i := 3) (oi := ⟨some 7, _, _, _, _, _⟩) (v := ?_) rfl (by kernel_rfl) (by kernel_rfl) (by kernel_rfl) (fun _ _ _ h => h) (Or.inl ⟨by rfl, ?_⟩) hHeld ?_
  rotate_left
  · intro W hSw
    obtain ⟨d0, d1⟩ := HL.out W hSw
    go_simp
    try with_reducible rfl
  try simp only [Act.put, List.setIfInBounds_toArray, List.set_cons_zero, List.set_cons_succ]
  refine wpAnyH_ready (rs := [4]) (by kernel_rfl) (by simp) ?_
  refine AllReadyH.cons (o := ⟨some 8, _, _, _, _, _⟩) rfl (fun K hK => ?_) AllReadyH.nil
  go_simp
  refine E2.mono ?_
  rintro e w3 ⟨rfl, hb3⟩
  have HB3 : Hid (Below (w.alloc (Obj.cells #[.string a.name, .string a.key] 75)).heap.size (w.alloc (Obj.cells #[.string a.name, .string a.key] 75)) w3) := hS0.trans hb3
  clear hb3 hS0 E2
  refine hK.out _ _ (HB3.out) (fun hHeld => ?_)
  clear hK K
  try simp only [Act.put, List.setIfInBounds_toArray, List.set_cons_zero, List.set_cons_succ]
  refine wpAnyH_take (i := 5) (oi := ⟨some 9, _, _, _, _, _⟩) (v := ?_) rfl (by kernel_rfl) (by kernel_rfl) (by kernel_rfl) (fun _ _ _ h => h) (Or.inl ⟨by rfl, ?_⟩) hHeld ?_
  rotate_left
  · intro W hSw
    go_simp
    try with_reducible rfl
  try simp only [Act.put, List.setIfInBounds_toArray, List.set_cons_zero, List.set_cons_succ]
  cases N with
  | false =>
    refine wpAnyH_take (i := 6) (oi := ⟨some 10, _, _, _, _, _⟩) rfl (by kernel_rfl) (by kernel_rfl) (by kernel_rfl) (fun _ _ _ h => h) (Or.inr ⟨by rfl, rfl⟩) hHeld ?_
    try simp only [Act.put, List.setIfInBounds_toArray, List.set_cons_zero, List.set_cons_succ]
    refine wpAnyH_take (i := 7) (oi := ⟨some 11, _, _, _, _, _⟩) rfl (by kernel_rfl) (by kernel_rfl) (by kernel_rfl) (fun _ _ _ h => h) (Or.inr ⟨by rfl, rfl⟩) hHeld ?_
    try simp only [Act.put, List.setIfInBounds_toArray, List.set_cons_zero, List.set_cons_succ]
    refine wpAnyH_take (i := 8) (oi := ⟨some 12, _, _, _, _, _⟩) rfl (by kernel_rfl) (by kernel_rfl) (by kernel_rfl) (fun _ _ _ h => h) (Or.inr ⟨by rfl, rfl⟩) hHeld ?_
    try simp only [Act.put, List.setIfInBounds_toArray, List.set_cons_zero, List.set_cons_succ]
    refine wpAnyH_take (i := 9) (oi := ⟨some 13, _, _, _, _, _⟩) rfl (by kernel_rfl) (by kernel_rfl) (by kernel_rfl) (fun _ _ _ h => h) (Or.inr ⟨by rfl, rfl⟩) hHeld ?_
    try simp only [Act.put, List.setIfInBounds_toArray, List.set_cons_zero, List.set_cons_succ]
    refine wpAnyH_take (i := 10) (oi := ⟨some 14, _, _, _, _, _⟩) (v := ?_) rfl (by kernel_rfl) (by kernel_rfl) (by kernel_rfl) (fun _ _ _ h => h) (Or.inl ⟨by rfl, ?_⟩) hHeld ?_
    rotate_left
    · intro W hSw
      go_simp
      try with_reducible rfl
    try simp only [Act.put, List.setIfInBounds_toArray, List.set_cons_zero, List.set_cons_succ]
    refine wpAnyH_take (i := 11) (oi := ⟨some 2, _, _, _, _, _⟩) (v := ?_) rfl (by kernel_rfl) (by kernel_rfl) (by kernel_rfl) (fun _ _ _ h => h) (Or.inl ⟨by rfl, ?_⟩) hHeld ?_
    rotate_left
    · intro W hSw
      go_simp
      try with_reducible rfl
    try simp only [Act.put, List.setIfInBounds_toArray, List.set_cons_zero, List.set_cons_succ]
    refine wpAnyH_take (i := 12) (oi := ⟨some 3, _, _, _, _, _⟩) (v := ?_) rfl (by kernel_rfl) (by kernel_rfl) (by kernel_rfl) (fun _ _ _ h => h) (Or.inl ⟨by rfl, ?_⟩) hHeld ?_
    rotate_left
    · intro W hSw
      go_simp
      try with_reducible rfl
    try simp only [Act.put, List.setIfInBounds_toArray, List.set_cons_zero, List.set_cons_succ]
    refine wpAnyH_done (by kernel_rfl) ?_ _
    go_wp2_with fail
    go_ret2
    exact ⟨by rw [← HR.out]; rfl, HV.out.1.trans (HB3.out.mono HV.out.1.size)⟩
  | true =>
    by_cases hk : a.key.size = 15
    · have hb : ((a.key.size : Int) == 15) = true := by rw [hk]; rfl
      have HRR : Hid (R = true) := by show R = true; rw [← HR.out, decide_eq_true hk]; rfl
      clear hk HR
      refine wpAnyH_take (i := 6) (oi := ⟨some 10, _, _, _, _, _⟩) (v := ?_) rfl (by kernel_rfl) (by kernel_rfl) (by kernel_rfl) (fun _ _ _ h => h) (Or.inl ⟨by rfl, ?_⟩) hHeld ?_
      rotate_left
      · intro W hSw
        go_simp
        try with_reducible rfl
      try simp only [Act.put, List.setIfInBounds_toArray, List.set_cons_zero, List.set_cons_succ]
      refine wpAnyH_take (i := 7) (oi := ⟨some 11, _, _, _, _, _⟩) (v := ?_) rfl (by kernel_rfl) (by kernel_rfl) (by kernel_rfl) (fun _ _ _ h => h) (Or.inl ⟨by rfl, ?_⟩) hHeld ?_
      rotate_left
      · intro W hSw
        obtain ⟨d0, d1⟩ := HL.out W hSw
        go_simp
        try with_reducible rfl
      try simp only [Act.put, List.setIfInBounds_toArray, List.set_cons_zero, List.set_cons_succ]
      refine wpAnyH_take (i := 8) (oi := ⟨some 12, _, _, _, _, _⟩) (v := ?_) rfl (by kernel_rfl) (by kernel_rfl) (by kernel_rfl) (fun _ _ _ h => h) (Or.inl ⟨by rfl, ?_⟩) hHeld ?_
      rotate_left
      · intro W hSw
        go_simp
        try with_reducible rfl
      try simp only [Act.put, List.setIfInBounds_toArray, List.set_cons_zero, List.set_cons_succ]
      refine wpAnyH_take (i := 9) (oi := ⟨some 13, _, _, _, _, _⟩) (v := ?_) rfl (by kernel_rfl) (by kernel_rfl) (by kernel_rfl) (fun _ _ _ h => h) (Or.inl ⟨by rfl, ?_⟩) hHeld ?_
      rotate_left
      · intro W hSw
        go_simp
        try with_reducible rfl
      try simp only [Act.put, List.setIfInBounds_toArray, List.set_cons_zero, List.set_cons_succ]
      refine wpAnyH_take (i := 10) (oi := ⟨some 14, _, _, _, _, _⟩) (v := ?_) rfl (by kernel_rfl) (by kernel_rfl) (by kernel_rfl) (fun _ _ _ h => h) (Or.inl ⟨by rfl, ?_⟩) hHeld ?_
      rotate_left
      · intro W hSw
        go_simp
        try with_reducible rfl
      try simp only [Act.put, List.setIfInBounds_toArray, List.set_cons_zero, List.set_cons_succ]
      refine wpAnyH_take (i := 11) (oi := ⟨some 2, _, _, _, _, _⟩) (v := ?_) rfl (by kernel_rfl) (by kernel_rfl) (by kernel_rfl) (fun _ _ _ h => h) (Or.inl ⟨by rfl, ?_⟩) hHeld ?_
      rotate_left
      · intro W hSw
        go_simp
        try with_reducible rfl
      try simp only [Act.put, List.setIfInBounds_toArray, List.set_cons_zero, List.set_cons_succ]
      refine wpAnyH_take (i := 12) (oi := ⟨some 3, _, _, _, _, _⟩) (v := ?_) rfl (by kernel_rfl) (by kernel_rfl) (by kernel_rfl) (fun _ _ _ h => h) (Or.inl ⟨by rfl, ?_⟩) hHeld ?_
      rotate_left
      · intro W hSw
        go_simp
        try with_reducible rfl
      try simp only [Act.put, List.setIfInBounds_toArray, List.set_cons_zero, List.set_cons_succ]
      refine wpAnyH_done (by kernel_rfl) ?_ _
      go_wp2_with fail
      go_ret2
      exact ⟨by rw [HRR.out]; rfl, HV.out.1.trans (HB3.out.mono HV.out.1.size)⟩
    · have hb : ((a.key.size : Int) == 15) = false := beq_eq_false_iff_ne.2 (by omega)
      have HRR : Hid (R = false) := by show R = false; rw [← HR.out, decide_eq_false hk]; rfl
      clear hk HR
      refine wpAnyH_take (i := 6) (oi := ⟨some 10, _, _, _, _, _⟩) (v := ?_) rfl (by kernel_rfl) (by kernel_rfl) (by kernel_rfl) (fun _ _ _ h => h) (Or.inl ⟨by rfl, ?_⟩) hHeld ?_
      rotate_left
      · intro W hSw
        go_simp
        try with_reducible rfl
      try simp only [Act.put, List.setIfInBounds_toArray, List.set_cons_zero, List.set_cons_succ]
      refine wpAnyH_take (i := 7) (oi := ⟨some 11, _, _, _, _, _⟩) (v := ?_) rfl (by kernel_rfl) (by kernel_rfl) (by kernel_rfl) (fun _ _ _ h => h) (Or.inl ⟨by rfl, ?_⟩) hHeld ?_
      rotate_left
      · intro W hSw
        obtain ⟨d0, d1⟩ := HL.out W hSw
        go_simp
        try with_reducible rfl
      try simp only [Act.put, List.setIfInBounds_toArray, List.set_cons_zero, List.set_cons_succ]
      refine wpAnyH_take (i := 8) (oi := ⟨some 12, _, _, _, _, _⟩) (v := ?_) rfl (by kernel_rfl) (by kernel_rfl) (by kernel_rfl) (fun _ _ _ h => h) (Or.inl ⟨by rfl, ?_⟩) hHeld ?_
      rotate_left
      · intro W hSw
        go_simp
        try with_reducible rfl
      try simp only [Act.put, List.setIfInBounds_toArray, List.set_cons_zero, List.set_cons_succ]
      refine wpAnyH_take (i := 9) (oi := ⟨some 13, _, _, _, _, _⟩) (v := ?_) rfl (by kernel_rfl) (by kernel_rfl) (by kernel_rfl) (fun _ _ _ h => h) (Or.inl ⟨by rfl, ?_⟩) hHeld ?_
      rotate_left
      · intro W hSw
        go_simp
        try with_reducible rfl
      try simp only [Act.put, List.setIfInBounds_toArray, List.set_cons_zero, List.set_cons_succ]
      refine wpAnyH_take (i := 10) (oi := ⟨some 14, _, _, _, _, _⟩) (v := ?_) rfl (by kernel_rfl) (by kernel_rfl) (by kernel_rfl) (fun _ _ _ h => h) (Or.inl ⟨by rfl, ?_⟩) hHeld ?_
      rotate_left
      · intro W hSw
        go_simp
        try with_reducible rfl
      try simp only [Act.put, List.setIfInBounds_toArray, List.set_cons_zero, List.set_cons_succ]
      refine wpAnyH_take (i := 11) (oi := ⟨some 2, _, _, _, _, _⟩) (v := ?_) rfl (by kernel_rfl) (by kernel_rfl) (by kernel_rfl) (fun _ _ _ h => h) (Or.inl ⟨by rfl, ?_⟩) hHeld ?_
      rotate_left
      · intro W hSw
        go_simp
        try with_reducible rfl
      try simp only [Act.put, List.setIfInBounds_toArray, List.set_cons_zero, List.set_cons_succ]
      refine wpAnyH_take (i := 12) (oi := ⟨some 3, _, _, _, _, _⟩) (v := ?_) rfl (by kernel_rfl) (by kernel_rfl) (by kernel_rfl) (fun _ _ _ h => h) (Or.inl ⟨by rfl, ?_⟩) hHeld ?_
      rotate_left
      · intro W hSw
        go_simp
        try with_reducible rfl
      try simp only [Act.put, List.setIfInBounds_toArray, List.set_cons_zero, List.set_cons_succ]
      refine wpAnyH_done (by kernel_rfl) ?_ _
      go_wp2_with fail
      go_ret2
      exact ⟨by rw [HRR.out]; rfl, HV.out.1.trans (HB3.out.mono HV.out.1.size)⟩
end Go.Proofs.YtplblechcnbieaaGreat
