/-
  The specification's draws of chapter 8: names, lists of names, lists of rules.
-/
import Derived.Test.YtgkdeakbokgfgaaNmL
import Derived.Test.YtgkdeakbokgfgaaPkT
import Derived.Test.YtgkdeakbokgfgaaAppI
import Derived.Laws.AppendOwnNone
namespace Go.Proofs.Ytgkdeakbokgfgaa
open Go.RowKit
set_option linter.unusedVariables false

theorem OwnT.base {w : World} {b b' : Nat} {v : Value} {l : List ByteArray} (h : OwnT w b v l) (hb : b' ≤ b) : OwnT w b' v l := by
  obtain ⟨h1, h2⟩ := h
  refine ⟨h1, ?_⟩
  rcases h2 with h2 | ⟨g, cap, cur, hv, hbg, r⟩
  · exact .inl h2
  · exact .inr ⟨g, cap, cur, hv, Nat.le_trans hb hbg, r⟩
theorem OwnT.grown {w w' : World} {b c : Nat} {v : Value} {l : List ByteArray} (h : OwnT w b v l) (hg : w.grownBy w' (some c)) (hc : c < b) : OwnT w' b v l := by
  refine World.ownsRow.kept h hg ?_
  rcases h.2 with ⟨rfl, _⟩ | ⟨g, cap, cur, rfl, hbg, _⟩
  · exact .inl rfl
  · exact .inr (by simp [Value.ownBlock]; omega)
theorem OwnI.grown {w w' : World} {b c : Nat} {v : Value} {l : List Int} (h : OwnI w b v l) (hg : w.grownBy w' (some c)) (hc : c < b) : OwnI w' b v l := by
  refine World.ownsRow.kept h hg ?_
  rcases h.2 with ⟨rfl, _⟩ | ⟨g, cap, cur, rfl, hbg, _⟩
  · exact .inl rfl
  · exact .inr (by simp [Value.ownBlock]; omega)
theorem litT (w : World) (ts : List ByteArray) (h : ts.length ≤ 100) : OwnT (w.alloc (.cells (cellsT ts).toArray 9)) w.heap.size (.slice (some ⟨w.heap.size, 0, none⟩) ts.length ts.length) ts := by
  have := World.ownsRow_lit (base := w.heap.size) (e := 9) (size := 1) w (cellsT ts).toArray ts.length (Nat.le_refl _) (by unfold maxLen; omega) (by simp [cellsT])
  simpa [OwnT] using this
theorem litI (w : World) (ts : List Int) (h : ts.length ≤ 100) : OwnI (w.alloc (.cells (cellsI ts).toArray 3)) w.heap.size (.slice (some ⟨w.heap.size, 0, none⟩) ts.length ts.length) ts := by
  have := World.ownsRow_lit (base := w.heap.size) (e := 3) (size := 1) w (cellsI ts).toArray ts.length (Nat.le_refl _) (by unfold maxLen; omega) (by simp [cellsI])
  simpa [OwnI] using this
theorem pickT (w : World) (ts : List ByteArray) (h : ∀ s ∈ ts, s.size ≤ 100) : ∀ j, j < ts.length → ∃ x : ByteArray, (w.alloc (.cells (cellsT ts).toArray 9)).cell? ⟨w.heap.size, j, none⟩ = some (.string x) ∧ x.size ≤ 100 := fun j hj => by
  refine ⟨ts[j], ?_, h _ (List.getElem_mem hj)⟩
  rw [World.cell?_alloc_new]
  simp [cellsT, hj]
theorem pickI (w : World) (ts : List Int) (h : ∀ x ∈ ts, -9223372036854775808 ≤ x ∧ x ≤ 9223372036854775807) : ∀ j, j < ts.length → ∃ x : Int, (w.alloc (.cells (cellsI ts).toArray 3)).cell? ⟨w.heap.size, j, none⟩ = some (.int .i64 x) ∧ -9223372036854775808 ≤ x ∧ x ≤ 9223372036854775807 := fun j hj => by
  refine ⟨ts[j], ?_, h _ (List.getElem_mem hj)⟩
  rw [World.cell?_alloc_new]
  simp [cellsI, hj]
theorem alloc_grown (w : World) (o : Obj) (r : Option Nat) : w.grownBy (w.alloc o) r := grownBy_below' ((Below.refl _ _).alloc (Nat.le_refl _) _)
theorem wpList_append_texts {w : World} {ops : Array Oper} {rest : List Oper} {o : Oper} {a : Act} {Q : Exit → Act → World → Prop} (hgd : o.guard = none) (s x : Operand) (t : TypeId)
    (ho : o.op = .call { callee := .builtin .append, args := #[s, x], argTypes := #[t, t] }) (base : Nat) (i0 : TypeInfo) (ht : Try.prog.underlying t = some (.slice 9)) (hi : Try.prog.info? 9 = some i0) (hz0 : i0.zero = some (.string ByteArray.empty)) (hz1 : i0.size = 1) (hz2 : i0.bytes = 16)
    (v : Value) (n : Nat) (xs : List Value) (hs : a.eval s = v) (hown : w.ownsRow base 9 1 v n xs) (u : Value) (lu : List ByteArray) (bu : Nat) (hu : OwnT w bu u lu) (hx : a.eval x = u) (hlen : n + lu.length ≤ 1000000) (hbase : base ≤ w.heap.size)
    (h : ∀ v' w', w'.ownsRow base 9 1 v' (n + lu.length) (xs ++ cellsT lu) → w.grownBy w' v.ownBlock → wpList Try.prog ops Q rest (a.put o.dst v') w') : wpList Try.prog ops Q (o :: rest) a w := by
  rcases hu.2 with ⟨rfl, h0⟩ | ⟨g, cap, cur, rfl, hbg, hg, hn, hm, hsz, htk⟩
  · have hl : lu = [] := List.eq_nil_of_length_eq_zero h0
    subst hl
    refine wpList_append_own_none hgd s x t ho base 9 i0 1 ht hi v n xs hs hown hx (h v w (by simpa [cellsT] using hown) (World.grownBy.refl _ _))
  · refine wpList_append_own w hgd s x t ho base 9 i0 (.string ByteArray.empty) 1 16 ht hi hz0 hz1 hz2 rfl (by decide) v n xs hs hown ⟨g, 0, none⟩ lu.length cap (cellsT lu) hx (by simp [cellsT]) (fun j q hq => ?_) (fun q hq => ?_) (by unfold maxLen; omega) (by omega) hbase (fun v' w' h1 h2 _ => h v' w' h1 h2)
    · have hj : j < lu.length := by
        refine Nat.lt_of_not_le fun h => ?_
        rw [List.getElem?_eq_none (by rw [cellsT_len]; exact h)] at hq
        cases hq
      rw [Addr.add_lit, Nat.zero_add, hu.cell hj, ← hq, cellsT_getD hj]
    · obtain ⟨y, _, rfl⟩ := List.mem_map.1 hq
      rfl

set_option maxHeartbeats 1600000 in
set_option maxRecDepth 100000 in
theorem l08Name_any (B : Nat) (w : World) (c : Nat) (a0 : Option Addr) (len cap : Nat) (hC : Cur B w c a0 len cap) : Calls Try.prog 59 #[.pointer (some ⟨c, 0, none⟩)] w fun e w' => ∃ x : ByteArray, x.size ≤ 100 ∧ e = .returned (.string x) ∧ Cur B w' c a0 len cap ∧ w.grownBy w' (some c) := by
  have HC : Hid (Cur B w c a0 len cap) := hC
  clear hC
  go_enter Try.func59, Try.ntmps59
  go_wp2_with fail
  refine (l01Pick_any w.heap.size 7 7 B _ c a0 len cap (by decide) (by decide) (by have := HC.out.lt; omega) (pickT w [(⟨#[114, 111, 111, 116]⟩ : ByteArray), ⟨#[99, 97, 46, 111, 114, 103]⟩, ⟨#[115, 117, 98, 46, 99, 97, 46, 111, 114, 103]⟩, ⟨#[108, 101, 97, 102, 46, 115, 117, 98, 46, 99, 97, 46, 111, 114, 103]⟩, ⟨#[111, 114, 103]⟩, ⟨#[111, 116, 104, 101, 114, 46, 99, 111, 109]⟩, ⟨#[108, 101, 97, 102, 46, 99, 111, 109]⟩] (by intro s hs; simp only [List.mem_cons, List.not_mem_nil, or_false] at hs; rcases hs with rfl | rfl | rfl | rfl | rfl | rfl | rfl <;> decide)) (HC.out.kept ((Below.refl _ _).alloc (Nat.le_refl _) _))).mono ?_
  rintro e w3 ⟨y, hy, rfl, hC3, hg3⟩
  have H3 : Hid (Cur B w3 c a0 len cap ∧ w.grownBy w3 (some c)) := ⟨hC3, grownBy_trans (alloc_grown _ _ _) hg3⟩
  clear hC3 hg3
  go_wp2_with fail
  go_ret
  exact ⟨y, hy, rfl, H3.out.1, H3.out.2⟩
/-- What a drawn list of names keeps to. -/
def NmsPost (B : Nat) (w : World) (c : Nat) (a0 : Option Addr) (len cap : Nat) (e : Ending) (w' : World) : Prop := ∃ (l : List ByteArray) (v : Value), e = .returned v ∧ OwnT w' w.heap.size v l ∧ l.length ≤ 2 ∧ (∀ s ∈ l, s.size ≤ 100) ∧ Cur B w' c a0 len cap ∧ w.grownBy w' (some c)
/-- The lists of rules that are drawn. -/
def polLists : List (List Int) := [[0], [1, 2], [2], [0, 5], []]
def PolPost (B : Nat) (w : World) (c : Nat) (a0 : Option Addr) (len cap : Nat) (e : Ending) (w' : World) : Prop := ∃ (l : List Int) (v : Value), e = .returned v ∧ OwnI w' w.heap.size v l ∧ l ∈ polLists ∧ Cur B w' c a0 len cap ∧ w.grownBy w' (some c)
set_option maxHeartbeats 1600000 in
set_option maxRecDepth 100000 in
theorem l08Names_any (B : Nat) (w : World) (c : Nat) (a0 : Option Addr) (len cap : Nat) (hC : Cur B w c a0 len cap) : Calls Try.prog 60 #[.pointer (some ⟨c, 0, none⟩)] w fun e w' => NmsPost B w c a0 len cap e w' := by
  have HC : Hid (Cur B w c a0 len cap) := hC
  clear hC
  go_enter Try.func60, Try.ntmps60
  go_wp2_with fail
  refine (l01Below_any 5 B w c a0 len cap (by decide) HC.out).mono ?_
  rintro e w1 ⟨x, hx0, hx5, _, rfl, hC1, hg1⟩
  have hx5 := hx5 (by decide)
  have HG : Hid (Cur B w1 c a0 len cap ∧ w.grownBy w1 (some c)) := ⟨hC1, hg1⟩
  clear hC1 hg1
  by_cases e0 : x = 0
  · subst e0
    go_wp2_with fail
    go_ret
    exact ⟨([(⟨#[111, 114, 103]⟩ : ByteArray)] : List ByteArray), _, rfl, (litT w1 ([(⟨#[111, 114, 103]⟩ : ByteArray)] : List ByteArray) (by decide)).base HG.out.2.size, by decide, (by intro s hs; simp only [List.mem_cons, List.not_mem_nil, or_false] at hs; rcases hs with rfl <;> decide), HG.out.1.kept ((Below.refl _ _).alloc (Nat.le_refl _) _), grownBy_trans HG.out.2 (alloc_grown _ _ _)⟩
  have n0 : (x == 0) = false := beq_eq_false_iff_ne.2 e0
  by_cases e1 : x = 1
  · subst e1
    go_wp2_with fail
    go_ret
    exact ⟨([(⟨#[99, 97, 46, 111, 114, 103]⟩ : ByteArray), ⟨#[99, 111, 109]⟩] : List ByteArray), _, rfl, (litT w1 ([(⟨#[99, 97, 46, 111, 114, 103]⟩ : ByteArray), ⟨#[99, 111, 109]⟩] : List ByteArray) (by decide)).base HG.out.2.size, by decide, (by intro s hs; simp only [List.mem_cons, List.not_mem_nil, or_false] at hs; rcases hs with rfl | rfl <;> decide), HG.out.1.kept ((Below.refl _ _).alloc (Nat.le_refl _) _), grownBy_trans HG.out.2 (alloc_grown _ _ _)⟩
  have n1 : (x == 1) = false := beq_eq_false_iff_ne.2 e1
  by_cases e2 : x = 2
  · subst e2
    go_wp2_with fail
    go_ret
    exact ⟨([(⟨#[111, 116, 104, 101, 114, 46, 99, 111, 109]⟩ : ByteArray)] : List ByteArray), _, rfl, (litT w1 ([(⟨#[111, 116, 104, 101, 114, 46, 99, 111, 109]⟩ : ByteArray)] : List ByteArray) (by decide)).base HG.out.2.size, by decide, (by intro s hs; simp only [List.mem_cons, List.not_mem_nil, or_false] at hs; rcases hs with rfl <;> decide), HG.out.1.kept ((Below.refl _ _).alloc (Nat.le_refl _) _), grownBy_trans HG.out.2 (alloc_grown _ _ _)⟩
  have n2 : (x == 2) = false := beq_eq_false_iff_ne.2 e2
  go_wp2_with fail
  go_ret
  exact ⟨([] : List ByteArray), _, rfl, (litT w1 ([] : List ByteArray) (by decide)).base HG.out.2.size, by decide, (by simp), HG.out.1.kept ((Below.refl _ _).alloc (Nat.le_refl _) _), grownBy_trans HG.out.2 (alloc_grown _ _ _)⟩
set_option maxHeartbeats 1600000 in
set_option maxRecDepth 100000 in
theorem l08Policies_any (B : Nat) (w : World) (c : Nat) (a0 : Option Addr) (len cap : Nat) (hC : Cur B w c a0 len cap) : Calls Try.prog 62 #[.pointer (some ⟨c, 0, none⟩)] w fun e w' => PolPost B w c a0 len cap e w' := by
  have HC : Hid (Cur B w c a0 len cap) := hC
  clear hC
  go_enter Try.func62, Try.ntmps62
  go_wp2_with fail
  refine (l01Below_any 5 B w c a0 len cap (by decide) HC.out).mono ?_
  rintro e w1 ⟨x, hx0, hx5, _, rfl, hC1, hg1⟩
  have hx5 := hx5 (by decide)
  have HG : Hid (Cur B w1 c a0 len cap ∧ w.grownBy w1 (some c)) := ⟨hC1, hg1⟩
  clear hC1 hg1
  by_cases e0 : x = 0
  · subst e0
    go_wp2_with fail
    go_ret
    exact ⟨([0] : List Int), _, rfl, (litI w1 ([0] : List Int) (by decide)).base HG.out.2.size, by decide, HG.out.1.kept ((Below.refl _ _).alloc (Nat.le_refl _) _), grownBy_trans HG.out.2 (alloc_grown _ _ _)⟩
  have n0 : (x == 0) = false := beq_eq_false_iff_ne.2 e0
  by_cases e1 : x = 1
  · subst e1
    go_wp2_with fail
    go_ret
    exact ⟨([1, 2] : List Int), _, rfl, (litI w1 ([1, 2] : List Int) (by decide)).base HG.out.2.size, by decide, HG.out.1.kept ((Below.refl _ _).alloc (Nat.le_refl _) _), grownBy_trans HG.out.2 (alloc_grown _ _ _)⟩
  have n1 : (x == 1) = false := beq_eq_false_iff_ne.2 e1
  by_cases e2 : x = 2
  · subst e2
    go_wp2_with fail
    go_ret
    exact ⟨([2] : List Int), _, rfl, (litI w1 ([2] : List Int) (by decide)).base HG.out.2.size, by decide, HG.out.1.kept ((Below.refl _ _).alloc (Nat.le_refl _) _), grownBy_trans HG.out.2 (alloc_grown _ _ _)⟩
  have n2 : (x == 2) = false := beq_eq_false_iff_ne.2 e2
  by_cases e3 : x = 3
  · subst e3
    go_wp2_with fail
    go_ret
    exact ⟨([0, 5] : List Int), _, rfl, (litI w1 ([0, 5] : List Int) (by decide)).base HG.out.2.size, by decide, HG.out.1.kept ((Below.refl _ _).alloc (Nat.le_refl _) _), grownBy_trans HG.out.2 (alloc_grown _ _ _)⟩
  have n3 : (x == 3) = false := beq_eq_false_iff_ne.2 e3
  go_wp2_with fail
  go_ret
  exact ⟨([] : List Int), _, rfl, (litI w1 ([] : List Int) (by decide)).base HG.out.2.size, by decide, HG.out.1.kept ((Below.refl _ _).alloc (Nat.le_refl _) _), grownBy_trans HG.out.2 (alloc_grown _ _ _)⟩
set_option maxHeartbeats 1600000 in
set_option maxRecDepth 100000 in
theorem drawNameOk_any (w : World) (a0 : Option Addr) (len cap : Nat) (hl : len ≤ 1048576) (B : Nat) (hB : B ≤ w.heap.size) (hcode : CodeAt B w a0 len) : Calls Try.prog 30 #[.slice a0 len cap] w fun e w' => ∃ s : ByteArray, s.size ≤ 100 ∧ e = .returned (.string s) ∧ Below w.heap.size w w' := by
  go_enter Try.func30, Try.ntmps30
  go_wp2_with fail
  refine (l01New_any B w a0 len cap hl hB hcode).mono ?_
  rintro e w2 ⟨c, rfl, hC2, hb2, hc2⟩
  have HC : Hid (Cur B w2 c a0 len cap ∧ Below w.heap.size w w2 ∧ w.heap.size ≤ c ∧ c < w2.heap.size) := ⟨hC2, hb2, hc2, hC2.lt⟩
  clear hC2 hb2 hc2
  go_wp2_with fail
  refine (l01Pick_any w2.heap.size 10 10 B _ c a0 len cap (by decide) (by decide) (by have := HC.out.1.lt; omega) (pickT w2 [(⟨#[]⟩ : ByteArray), ⟨#[97]⟩, ⟨#[97, 46, 98]⟩, ⟨#[46, 97]⟩, ⟨#[97, 46]⟩, ⟨#[97, 46, 46, 98]⟩, ⟨#[65]⟩, ⟨#[114, 111, 111, 116]⟩, ⟨#[97, 98, 99, 100, 101, 102, 103, 104, 105, 106, 46, 97, 98, 99, 100, 101, 102, 103, 104, 105]⟩, ⟨#[97, 98, 99, 100, 101, 102, 103, 104, 105, 106, 46, 97, 98, 99, 100, 101, 102, 103, 104, 105, 106]⟩] (by intro s hs; simp only [List.mem_cons, List.not_mem_nil, or_false] at hs; rcases hs with rfl | rfl | rfl | rfl | rfl | rfl | rfl | rfl | rfl | rfl <;> decide)) (HC.out.1.kept ((Below.refl _ _).alloc (Nat.le_refl _) _))).mono ?_
  rintro e w3 ⟨y, hy, rfl, hC3, hg3⟩
  have H3 : Hid (Below w.heap.size w w3) := HC.out.2.1.trans (grownBy_below (grownBy_trans (alloc_grown _ _ _) hg3) HC.out.2.2.1 HC.out.2.1.size)
  clear hC3 hg3
  go_wp2_with fail
  go_ret
  exact ⟨y, hy, rfl, H3.out⟩
set_option maxHeartbeats 1600000 in
set_option maxRecDepth 100000 in
theorem drawUnder_any (w : World) (a0 : Option Addr) (len cap : Nat) (hl : len ≤ 1048576) (B : Nat) (hB : B ≤ w.heap.size) (hcode : CodeAt B w a0 len) : Calls Try.prog 28 #[.slice a0 len cap] w fun e w' => ∃ s t : ByteArray, s.size ≤ 100 ∧ t.size ≤ 100 ∧ e = .returned (.tuple #[.string s, .string t]) ∧ Below w.heap.size w w' := by
  go_enter Try.func28, Try.ntmps28
  go_wp2_with fail
  refine (l01New_any B w a0 len cap hl hB hcode).mono ?_
  rintro e w2 ⟨c, rfl, hC2, hb2, hc2⟩
  have HC : Hid (Cur B w2 c a0 len cap ∧ Below w.heap.size w w2 ∧ w.heap.size ≤ c ∧ c < w2.heap.size) := ⟨hC2, hb2, hc2, hC2.lt⟩
  clear hC2 hb2 hc2
  go_wp2_with fail
  refine (l01Pick_any w2.heap.size 6 6 B _ c a0 len cap (by decide) (by decide) (by have := HC.out.1.lt; omega) (pickT w2 [(⟨#[]⟩ : ByteArray), ⟨#[111, 114, 103]⟩, ⟨#[99, 97, 46, 111, 114, 103]⟩, ⟨#[97, 46, 111, 114, 103]⟩, ⟨#[99, 111, 109]⟩, ⟨#[114, 111, 111, 116]⟩] (by intro s hs; simp only [List.mem_cons, List.not_mem_nil, or_false] at hs; rcases hs with rfl | rfl | rfl | rfl | rfl | rfl <;> decide)) (HC.out.1.kept ((Below.refl _ _).alloc (Nat.le_refl _) _))).mono ?_
  rintro e w3 ⟨y, hy, rfl, hC3, hg3⟩
  have H3 : Hid (Cur B w3 c a0 len cap ∧ Below w.heap.size w w3) := ⟨hC3, HC.out.2.1.trans (grownBy_below (grownBy_trans (alloc_grown _ _ _) hg3) HC.out.2.2.1 HC.out.2.1.size)⟩
  clear hC3 hg3
  go_wp2_with fail
  refine (l08Name_any B w3 c a0 len cap H3.out.1).mono ?_
  rintro e w4 ⟨z, hz, rfl, hC4, hg4⟩
  have H4 : Hid (Below w.heap.size w w4) := H3.out.2.trans (grownBy_below hg4 HC.out.2.2.1 H3.out.2.size)
  clear hC4 hg4
  go_wp2_with fail
  go_ret2
  exact ⟨z, y, hz, hy, rfl, H4.out⟩
/-- What DrawAllowed keeps to. -/
def AlwPost (w : World) (e : Ending) (w' : World) : Prop := ∃ (s : ByteArray) (u v : Value) (ps ds : List ByteArray), s.size ≤ 100 ∧ e = .returned (.tuple #[.string s, u, v]) ∧ OwnT w' w.heap.size u ps ∧ OwnT w' w.heap.size v ds ∧ ps.length ≤ 2 ∧ ds.length ≤ 2 ∧ (∀ s ∈ ps, s.size ≤ 100) ∧ (∀ s ∈ ds, s.size ≤ 100) ∧ Below w.heap.size w w'
set_option maxHeartbeats 1600000 in
set_option maxRecDepth 100000 in
theorem drawAllowed_any (w : World) (a0 : Option Addr) (len cap : Nat) (hl : len ≤ 1048576) (B : Nat) (hB : B ≤ w.heap.size) (hcode : CodeAt B w a0 len) : Calls Try.prog 29 #[.slice a0 len cap] w fun e w' => AlwPost w e w' := by
  go_enter Try.func29, Try.ntmps29
  go_wp2_with fail
  refine (l01New_any B w a0 len cap hl hB hcode).mono ?_
  rintro e w2 ⟨c, rfl, hC2, hb2, hc2⟩
  have HC : Hid (Cur B w2 c a0 len cap ∧ Below w.heap.size w w2 ∧ w.heap.size ≤ c ∧ c < w2.heap.size) := ⟨hC2, hb2, hc2, hC2.lt⟩
  clear hC2 hb2 hc2
  go_wp2_with fail
  refine (l08Name_any B w2 c a0 len cap HC.out.1).mono ?_
  rintro e w3 ⟨z, hz, rfl, hC3, hg3⟩
  have H3 : Hid (Cur B w3 c a0 len cap ∧ Below w.heap.size w w3 ∧ w2.heap.size ≤ w3.heap.size) := ⟨hC3, HC.out.2.1.trans (grownBy_below hg3 HC.out.2.2.1 HC.out.2.1.size), hg3.size⟩
  clear hC3 hg3
  go_wp2_with fail
  refine (l08Names_any B w3 c a0 len cap H3.out.1).mono ?_
  rintro e w4 ⟨ps, u, rfl, ho4, hl4, hs4, hC4, hg4⟩
  have H4 : Hid (Cur B w4 c a0 len cap ∧ Below w.heap.size w w4 ∧ OwnT w4 w3.heap.size u ps ∧ ps.length ≤ 2 ∧ ∀ s ∈ ps, s.size ≤ 100) := ⟨hC4, H3.out.2.1.trans (grownBy_below hg4 HC.out.2.2.1 H3.out.2.1.size), ho4, hl4, hs4⟩
  clear ho4 hl4 hs4 hC4 hg4
  go_wp2_with fail
  refine (l08Names_any B w4 c a0 len cap H4.out.1).mono ?_
  rintro e w5 ⟨ds, v, rfl, ho5, hl5, hs5, hC5, hg5⟩
  have H5 : Hid (Below w.heap.size w w5 ∧ OwnT w5 w.heap.size u ps ∧ OwnT w5 w.heap.size v ds ∧ ds.length ≤ 2 ∧ ∀ s ∈ ds, s.size ≤ 100) := ⟨H4.out.2.1.trans (grownBy_below hg5 HC.out.2.2.1 H4.out.2.1.size), (H4.out.2.2.1.grown hg5 (by have := H3.out.2.2; have := HC.out.2.2.2; omega)).base H3.out.2.1.size, ho5.base H4.out.2.1.size, hl5, hs5⟩
  clear ho5 hl5 hs5 hC5 hg5
  go_wp2_with fail
  go_ret3
  exact ⟨z, u, v, ps, ds, hz, rfl, H5.out.2.1, H5.out.2.2.1, H4.out.2.2.2.1, H5.out.2.2.2.1, H4.out.2.2.2.2, H5.out.2.2.2.2, H5.out.1⟩
/-- What DrawJoinPolicies keeps to. -/
def JpPost (w : World) (e : Ending) (w' : World) : Prop := ∃ (b : Bool) (u v : Value) (ps ds : List Int), e = .returned (.tuple #[u, .bool b, v]) ∧ OwnI w' w.heap.size u ps ∧ OwnI w' w.heap.size v ds ∧ ps ∈ polLists ∧ ds ∈ polLists ∧ Below w.heap.size w w'
set_option maxHeartbeats 1600000 in
set_option maxRecDepth 100000 in
theorem drawJoin_any (w : World) (a0 : Option Addr) (len cap : Nat) (hl : len ≤ 1048576) (B : Nat) (hB : B ≤ w.heap.size) (hcode : CodeAt B w a0 len) : Calls Try.prog 33 #[.slice a0 len cap] w fun e w' => JpPost w e w' := by
  go_enter Try.func33, Try.ntmps33
  go_wp2_with fail
  refine (l01New_any B w a0 len cap hl hB hcode).mono ?_
  rintro e w2 ⟨c, rfl, hC2, hb2, hc2⟩
  have HC : Hid (Cur B w2 c a0 len cap ∧ Below w.heap.size w w2 ∧ w.heap.size ≤ c ∧ c < w2.heap.size) := ⟨hC2, hb2, hc2, hC2.lt⟩
  clear hC2 hb2 hc2
  go_wp2_with fail
  refine (l01Once_any 2 B w2 c a0 len cap (by decide) HC.out.1).mono ?_
  rintro e w3 ⟨b, rfl, hC3, hg3⟩
  have H3 : Hid (Cur B w3 c a0 len cap ∧ Below w.heap.size w w3 ∧ w2.heap.size ≤ w3.heap.size) := ⟨hC3, HC.out.2.1.trans (grownBy_below hg3 HC.out.2.2.1 HC.out.2.1.size), hg3.size⟩
  clear hC3 hg3
  go_wp2_with fail
  refine (l08Policies_any B w3 c a0 len cap H3.out.1).mono ?_
  rintro e w4 ⟨ps, u, rfl, ho4, hl4, hC4, hg4⟩
  have H4 : Hid (Cur B w4 c a0 len cap ∧ Below w.heap.size w w4 ∧ OwnI w4 w3.heap.size u ps ∧ ps ∈ polLists) := ⟨hC4, H3.out.2.1.trans (grownBy_below hg4 HC.out.2.2.1 H3.out.2.1.size), ho4, hl4⟩
  clear ho4 hl4 hC4 hg4
  go_wp2_with fail
  refine (l08Policies_any B w4 c a0 len cap H4.out.1).mono ?_
  rintro e w5 ⟨ds, v, rfl, ho5, hl5, hC5, hg5⟩
  have H5 : Hid (Below w.heap.size w w5 ∧ OwnI w5 w.heap.size u ps ∧ OwnI w5 w.heap.size v ds ∧ ds ∈ polLists) := ⟨H4.out.2.1.trans (grownBy_below hg5 HC.out.2.2.1 H4.out.2.1.size), (H4.out.2.2.1.grown hg5 (by have := H3.out.2.2; have := HC.out.2.2.2; omega)).base H3.out.2.1.size, ho5.base H4.out.2.1.size, hl5⟩
  clear ho5 hl5 hC5 hg5
  go_wp2_with fail
  go_ret3
  exact ⟨b, u, v, ps, ds, rfl, H5.out.2.1, H5.out.2.2.1, H4.out.2.2.2, H5.out.2.2.2, H5.out.1⟩
def DnPost (w : World) (e : Ending) (w' : World) : Prop := ∃ (l : List ByteArray) (v : Value), e = .returned v ∧ OwnT w' w.heap.size v l ∧ l.length ≤ 3 ∧ (∀ s ∈ l, s.size ≤ 100) ∧ Below w.heap.size w w'
set_option maxHeartbeats 1600000 in
set_option maxRecDepth 100000 in
theorem drawNamesOk_any (w : World) (a0 : Option Addr) (len cap : Nat) (hl : len ≤ 1048576) (B : Nat) (hB : B ≤ w.heap.size) (hcode : CodeAt B w a0 len) : Calls Try.prog 31 #[.slice a0 len cap] w fun e w' => DnPost w e w' := by
  obtain ⟨i0, hi, hz0, hz1, hz2⟩ := info_parts info9
  go_enter Try.func31, Try.ntmps31
  go_wp2_with fail
  refine (l01New_any B w a0 len cap hl hB hcode).mono ?_
  rintro e w2 ⟨c, rfl, hC2, hb2, hc2⟩
  have HC : Hid (Cur B w2 c a0 len cap ∧ Below w.heap.size w w2 ∧ w.heap.size ≤ c ∧ c < w2.heap.size) := ⟨hC2, hb2, hc2, hC2.lt⟩
  clear hC2 hb2 hc2
  go_wp2_with fail
  refine (l01Once_any 3 B w2 c a0 len cap (by decide) HC.out.1).mono ?_
  rintro e w3 ⟨b, rfl, hC3, hg3⟩
  have H3 : Hid (Cur B w3 c a0 len cap ∧ Below w.heap.size w w3 ∧ c < w3.heap.size) := ⟨hC3, HC.out.2.1.trans (grownBy_below hg3 HC.out.2.2.1 HC.out.2.1.size), hC3.lt⟩
  clear hC3 hg3
  cases b with
  | true =>
    go_wp2_with fail
    go_ret
    exact ⟨[(⟨#[98]⟩ : ByteArray), ⟨#[97]⟩], _, rfl, (litT w3 [(⟨#[98]⟩ : ByteArray), ⟨#[97]⟩] (by decide)).base H3.out.2.1.size, by decide, (by intro s hs; simp only [List.mem_cons, List.not_mem_nil, or_false] at hs; rcases hs with rfl | rfl <;> decide), H3.out.2.1.alloc H3.out.2.1.size _⟩
  | false =>
    go_wp2_with fail
    obtain ⟨w4, hw4⟩ : ∃ W, W = w3.alloc (Obj.cells #[] 9) := ⟨_, rfl⟩
    have H4 : Hid (Cur B w4 c a0 len cap ∧ Below w.heap.size w w4 ∧ OwnT w4 w3.heap.size (.slice (some ⟨w3.heap.size, 0, none⟩) 0 0) [] ∧ c < w3.heap.size ∧ w3.heap.size ≤ w4.heap.size) := by
      subst hw4
      exact ⟨H3.out.1.kept ((Below.refl _ _).alloc (Nat.le_refl _) _), H3.out.2.1.alloc H3.out.2.1.size _, litT w3 [] (by decide), H3.out.2.2, ((Below.refl w3.heap.size w3).alloc (Nat.le_refl _) _).size⟩
    rw [← hw4]
    clear hw4
    refine (l08Names_any B w4 c a0 len cap H4.out.1).mono ?_
    rintro e w5 ⟨l, v, rfl, ho5, hl5, hs5, hC5, hg5⟩
    have H5 : Hid (Cur B w5 c a0 len cap ∧ Below w.heap.size w w5 ∧ OwnT w5 w3.heap.size (.slice (some ⟨w3.heap.size, 0, none⟩) 0 0) [] ∧ OwnT w5 w4.heap.size v l ∧ l.length ≤ 2 ∧ (∀ s ∈ l, s.size ≤ 100) ∧ w3.heap.size ≤ w5.heap.size) := ⟨hC5, H4.out.2.1.trans (grownBy_below hg5 HC.out.2.2.1 H4.out.2.1.size), H4.out.2.2.1.grown hg5 H4.out.2.2.2.1, ho5, hl5, hs5, Nat.le_trans H4.out.2.2.2.2 hg5.size⟩
    clear ho5 hl5 hs5 hC5 hg5
    go_wp2_with (at_builtin; refine wpList_append_texts rfl _ _ 24 rfl w3.heap.size i0 Try.underlying24 hi hz0 hz1 hz2 _ 0 [] rfl H5.out.2.2.1 v l w4.heap.size H5.out.2.2.2.1 rfl (by have := H5.out.2.2.2.2.1; omega) H5.out.2.2.2.2.2.2 ?_)
    intro v6 w6 ho6 hg6
    have H6 : Hid (Cur B w6 c a0 len cap ∧ Below w.heap.size w w6 ∧ OwnT w6 w3.heap.size v6 l ∧ w3.heap.size ≤ w6.heap.size) := by
      have hh : w5.grownBy w6 (some w3.heap.size) := hg6
      refine ⟨H5.out.1.grown hh (fun k hk => by cases hk; exact H4.out.2.2.2.1), H5.out.2.1.trans (grownBy_below hh H3.out.2.1.size H5.out.2.1.size), ?_, Nat.le_trans H5.out.2.2.2.2.2.2 hg6.size⟩
      simpa [OwnT] using ho6
    clear ho6 hg6
    go_wp2_with fail
    refine (l01Pick_any w6.heap.size 3 3 B _ c a0 len cap (by decide) (by decide) (by have := H6.out.1.lt; omega) (pickT w6 [(⟨#[122, 122]⟩ : ByteArray), ⟨#[65]⟩, ⟨#[122, 122, 122, 46, 111, 114, 103]⟩] (by intro s hs; simp only [List.mem_cons, List.not_mem_nil, or_false] at hs; rcases hs with rfl | rfl | rfl <;> decide)) (H6.out.1.kept ((Below.refl _ _).alloc (Nat.le_refl _) _))).mono ?_
    rintro e w7 ⟨y, hy, rfl, hC7, hg7⟩
    have H7 : Hid (Below w.heap.size w w7 ∧ OwnT w7 w3.heap.size v6 l ∧ w3.heap.size ≤ w7.heap.size) := by
      have hh := grownBy_trans (alloc_grown w6 (Obj.cells (cellsT [(⟨#[122, 122]⟩ : ByteArray), ⟨#[65]⟩, ⟨#[122, 122, 122, 46, 111, 114, 103]⟩]).toArray 9) (some c)) hg7
      exact ⟨H6.out.2.1.trans (grownBy_below hh HC.out.2.2.1 H6.out.2.1.size), H6.out.2.2.1.grown hh H4.out.2.2.2.1, Nat.le_trans H6.out.2.2.2 hh.size⟩
    clear hC7 hg7
    have H8 : Hid (OwnT (w7.alloc (Obj.cells #[Value.string y] 9)) w7.heap.size (.slice (some ⟨w7.heap.size, 0, none⟩) 1 1) [y] ∧ OwnT (w7.alloc (Obj.cells #[Value.string y] 9)) w3.heap.size v6 l ∧ Below w.heap.size w (w7.alloc (Obj.cells #[Value.string y] 9)) ∧ w3.heap.size ≤ (w7.alloc (Obj.cells #[Value.string y] 9)).heap.size) := by
      have hb := (Below.refl w7.heap.size w7).alloc (Nat.le_refl _) (Obj.cells #[Value.string y] 9)
      exact ⟨litT w7 [y] (by simp), H7.out.2.1.stays hb, H7.out.1.alloc H7.out.1.size _, Nat.le_trans H7.out.2.2 hb.size⟩
    go_wp2_with (at_builtin; refine wpList_append_texts rfl _ _ 24 rfl w3.heap.size i0 Try.underlying24 hi hz0 hz1 hz2 v6 l.length (cellsT l) rfl H8.out.2.1 _ [y] w7.heap.size H8.out.1 rfl (by have := H5.out.2.2.2.2.1; simp; omega) H8.out.2.2.2 ?_)
    intro v9 w9 ho9 hg9
    have H9 : Hid (Below w.heap.size w w9 ∧ OwnT w9 w3.heap.size v9 (l ++ [y])) := by
      refine ⟨H8.out.2.2.1.trans ⟨hg9.os, hg9.tape, hg9.output, hg9.size, fun k hk => hg9.block k (Nat.lt_of_lt_of_le hk H8.out.2.2.1.size) (fun e => ?_)⟩, ?_⟩
      · have := (World.ownsRow.lt H8.out.2.1 k e.symm).1
        have := H3.out.2.1.size
        omega
      · simpa [OwnT, cellsT_append] using ho9
    clear ho9 hg9
    go_wp2_with fail
    go_ret
    refine ⟨l ++ [y], _, rfl, H9.out.2.base H3.out.2.1.size, ?_, ?_, H9.out.1⟩
    · have := H5.out.2.2.2.2.1
      rw [List.length_append, List.length_singleton]; omega
    · intro s hs
      rcases List.mem_append.1 hs with hs | hs
      · exact H5.out.2.2.2.2.2.1 s hs
      · obtain rfl := List.mem_singleton.1 hs
        exact hy
def DpPost (w : World) (e : Ending) (w' : World) : Prop := ∃ (l : List Int) (v : Value), e = .returned v ∧ OwnI w' w.heap.size v l ∧ l.length ≤ 3 ∧ Below w.heap.size w w'
theorem polLists_len {l : List Int} (h : l ∈ polLists) : l.length ≤ 2 := by
  simp only [polLists, List.mem_cons, List.not_mem_nil, or_false] at h
  rcases h with rfl | rfl | rfl | rfl | rfl <;> decide
set_option maxHeartbeats 1600000 in
set_option maxRecDepth 100000 in
theorem drawPoliciesOk_any (w : World) (a0 : Option Addr) (len cap : Nat) (hl : len ≤ 1048576) (B : Nat) (hB : B ≤ w.heap.size) (hcode : CodeAt B w a0 len) : Calls Try.prog 32 #[.slice a0 len cap] w fun e w' => DpPost w e w' := by
  obtain ⟨i0, hi, hz0, hz1, hz2⟩ := info_parts info3
  go_enter Try.func32, Try.ntmps32
  go_wp2_with fail
  refine (l01New_any B w a0 len cap hl hB hcode).mono ?_
  rintro e w2 ⟨c, rfl, hC2, hb2, hc2⟩
  have HC : Hid (Cur B w2 c a0 len cap ∧ Below w.heap.size w w2 ∧ w.heap.size ≤ c ∧ c < w2.heap.size) := ⟨hC2, hb2, hc2, hC2.lt⟩
  clear hC2 hb2 hc2
  go_wp2_with fail
  obtain ⟨w4, hw4⟩ : ∃ W, W = w2.alloc (Obj.cells #[] 3) := ⟨_, rfl⟩
  have H4 : Hid (Cur B w4 c a0 len cap ∧ Below w.heap.size w w4 ∧ OwnI w4 w2.heap.size (.slice (some ⟨w2.heap.size, 0, none⟩) 0 0) [] ∧ c < w2.heap.size ∧ w2.heap.size ≤ w4.heap.size) := by
    subst hw4
    exact ⟨HC.out.1.kept ((Below.refl _ _).alloc (Nat.le_refl _) _), HC.out.2.1.alloc HC.out.2.1.size _, litI w2 [] (by decide), HC.out.2.2.2, ((Below.refl w2.heap.size w2).alloc (Nat.le_refl _) _).size⟩
  rw [← hw4]
  clear hw4
  refine (l08Policies_any B w4 c a0 len cap H4.out.1).mono ?_
  rintro e w5 ⟨l, v, rfl, ho5, hl5, hC5, hg5⟩
  have H5 : Hid (Cur B w5 c a0 len cap ∧ Below w.heap.size w w5 ∧ OwnI w5 w2.heap.size (.slice (some ⟨w2.heap.size, 0, none⟩) 0 0) [] ∧ OwnI w5 w4.heap.size v l ∧ l.length ≤ 2 ∧ w2.heap.size ≤ w5.heap.size) := ⟨hC5, H4.out.2.1.trans (grownBy_below hg5 HC.out.2.2.1 H4.out.2.1.size), H4.out.2.2.1.grown hg5 H4.out.2.2.2.1, ho5, polLists_len hl5, Nat.le_trans H4.out.2.2.2.2 hg5.size⟩
  clear ho5 hl5 hC5 hg5
  go_wp2_with (at_builtin; refine wpList_append_list rfl _ _ 29 rfl w2.heap.size i0 Try.underlying29 hi hz0 hz1 hz2 _ 0 [] rfl H5.out.2.2.1 v l w4.heap.size H5.out.2.2.2.1 rfl (by have := H5.out.2.2.2.2.1; omega) H5.out.2.2.2.2.2 ?_)
  intro v6 w6 ho6 hg6
  have H6 : Hid (Cur B w6 c a0 len cap ∧ Below w.heap.size w w6 ∧ OwnI w6 w2.heap.size v6 l ∧ w2.heap.size ≤ w6.heap.size) := by
    have hh : w5.grownBy w6 (some w2.heap.size) := hg6
    refine ⟨H5.out.1.grown hh (fun k hk => by cases hk; exact H4.out.2.2.2.1), H5.out.2.1.trans (grownBy_below hh HC.out.2.1.size H5.out.2.1.size), ?_, Nat.le_trans H5.out.2.2.2.2.2 hg6.size⟩
    simpa [OwnI] using ho6
  clear ho6 hg6
  go_wp2_with fail
  refine (l01PickInt_any w6.heap.size 5 5 B _ c a0 len cap (by decide) (by decide) (by have := H6.out.1.lt; omega) (pickI w6 [(7 : Int), 99, 100, 0, -1] (by decide)) (H6.out.1.kept ((Below.refl _ _).alloc (Nat.le_refl _) _))).mono ?_
  rintro e w7 ⟨y, hy0, hy1, rfl, hC7, hg7⟩
  have H7 : Hid (Below w.heap.size w w7 ∧ OwnI w7 w2.heap.size v6 l ∧ w2.heap.size ≤ w7.heap.size) := by
    have hh := grownBy_trans (alloc_grown w6 (Obj.cells (cellsI [(7 : Int), 99, 100, 0, -1]).toArray 3) (some c)) hg7
    exact ⟨H6.out.2.1.trans (grownBy_below hh HC.out.2.2.1 H6.out.2.1.size), H6.out.2.2.1.grown hh H4.out.2.2.2.1, Nat.le_trans H6.out.2.2.2 hh.size⟩
  clear hC7 hg7
  have H8 : Hid (OwnI (w7.alloc (Obj.cells #[Value.int .i64 y] 3)) w7.heap.size (.slice (some ⟨w7.heap.size, 0, none⟩) 1 1) [y] ∧ OwnI (w7.alloc (Obj.cells #[Value.int .i64 y] 3)) w2.heap.size v6 l ∧ Below w.heap.size w (w7.alloc (Obj.cells #[Value.int .i64 y] 3)) ∧ w2.heap.size ≤ (w7.alloc (Obj.cells #[Value.int .i64 y] 3)).heap.size) := by
    have hb := (Below.refl w7.heap.size w7).alloc (Nat.le_refl _) (Obj.cells #[Value.int .i64 y] 3)
    exact ⟨litI w7 [y] (by simp), H7.out.2.1.stays hb, H7.out.1.alloc H7.out.1.size _, Nat.le_trans H7.out.2.2 hb.size⟩
  go_wp2_with (at_builtin; refine wpList_append_list rfl _ _ 29 rfl w2.heap.size i0 Try.underlying29 hi hz0 hz1 hz2 v6 l.length (cellsI l) rfl H8.out.2.1 _ [y] w7.heap.size H8.out.1 rfl (by have := H5.out.2.2.2.2.1; simp; omega) H8.out.2.2.2 ?_)
  intro v9 w9 ho9 hg9
  have H9 : Hid (Below w.heap.size w w9 ∧ OwnI w9 w2.heap.size v9 (l ++ [y])) := by
    refine ⟨H8.out.2.2.1.trans ⟨hg9.os, hg9.tape, hg9.output, hg9.size, fun k hk => hg9.block k (Nat.lt_of_lt_of_le hk H8.out.2.2.1.size) (fun e => ?_)⟩, ?_⟩
    · have := (World.ownsRow.lt H8.out.2.1 k e.symm).1
      have := HC.out.2.1.size
      omega
    · simpa [OwnI, cellsI_append] using ho9
  clear ho9 hg9
  go_wp2_with fail
  go_ret
  refine ⟨l ++ [y], _, rfl, H9.out.2.base HC.out.2.1.size, ?_, H9.out.1⟩
  have := H5.out.2.2.2.2.1
  rw [List.length_append, List.length_singleton]; omega
end Go.Proofs.Ytgkdeakbokgfgaa
