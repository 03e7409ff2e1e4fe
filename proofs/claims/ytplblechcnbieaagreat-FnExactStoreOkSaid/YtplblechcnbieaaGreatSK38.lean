/-
  Texts of the proof, one behind the other: AppI, ClS.
-/
import Derived.Laws.AppendOwnNone
import Derived.Deep.AppendLies
import Derived.Test.YtplblechcnbieaaGreatSK6
import Derived.Test.YtplblechcnbieaaGreatSK15
import Derived.Test.YtplblechcnbieaaGreatSK24

/-
  'append(out, list...)' of a list of numbers that a call owns, nil or not.
-/
namespace Go.Proofs.YtplblechcnbieaaGreat
open Go.RowKit
theorem wpList_append_list {w : World} {ops : Array Oper} {rest : List Oper} {o : Oper} {a : Act} {Q : Exit → Act → World → Prop} (hgd : o.guard = none) (s x : Operand) (t : TypeId)
    (ho : o.op = .call { callee := .builtin .append, args := #[s, x], argTypes := #[t, t] }) (base : Nat) (i0 : TypeInfo) (ht : Tryz.prog.underlying t = some (.slice 3)) (hi : Tryz.prog.info? 3 = some i0) (hz0 : i0.zero = some (.int .i64 0)) (hz1 : i0.size = 1) (hz2 : i0.bytes = 8)
    (v : Value) (n : Nat) (xs : List Value) (hs : a.eval s = v) (hown : w.ownsRow base 3 1 v n xs) (u : Value) (lu : List Int) (bu : Nat) (hu : OwnI w bu u lu) (hx : a.eval x = u) (hlen : n + lu.length ≤ 1000000) (hbase : base ≤ w.heap.size)
    (h : ∀ v' w', w'.ownsRow base 3 1 v' (n + lu.length) (xs ++ cellsI lu) → w.grownBy w' v.ownBlock → wpList Tryz.prog ops Q rest (a.put o.dst v') w') : wpList Tryz.prog ops Q (o :: rest) a w := by
  rcases hu.2 with ⟨rfl, h0⟩ | ⟨g, cap, cur, rfl, hbg, hg, hn, hm, hsz, htk⟩
  · have hl : lu = [] := List.eq_nil_of_length_eq_zero h0
    subst hl
    refine wpList_append_own_none hgd s x t ho base 3 i0 1 ht hi v n xs hs hown hx (h v w (by simpa [cellsI] using hown) (World.grownBy.refl _ _))
  · refine wpList_append_own w hgd s x t ho base 3 i0 (.int .i64 0) 1 8 ht hi hz0 hz1 hz2 rfl (by decide) v n xs hs hown ⟨g, 0, none⟩ lu.length cap (cellsI lu) hx (by simp [cellsI]) (fun j q hq => ?_) (fun q hq => ?_) (by unfold maxLen; omega) (by omega) hbase (fun v' w' h1 h2 _ => h v' w' h1 h2)
    · have hj : j < lu.length := by
        refine Nat.lt_of_not_le fun h => ?_
        rw [List.getElem?_eq_none (by rw [cellsI_len]; exact h)] at hq
        cases hq
      rw [Addr.add_lit, Nat.zero_add, hu.cell hj, ← hq, cellsI_getD hj]
    · obtain ⟨y, _, rfl⟩ := List.mem_map.1 hq
      rfl
end Go.Proofs.YtplblechcnbieaaGreat

/-
  The program's CrlOk and what it calls.
-/
namespace Go.Proofs.YtplblechcnbieaaGreat
open Go.RowKit
set_option linter.unusedVariables false

/-- A list as it is signed, as a value. -/
def tdV (c : Cl) (p : Value) : Value := .agg #[.string c.issuer, .int .i64 c.num, .int .i64 c.ths, .int .i64 c.nxt, .int .i64 c.bas, p]
/-- A list's head, as a value. -/
def hdV (c : Cl) : Value := .agg #[.string c.issuer, .int .i64 c.num, .int .i64 c.ths, .int .i64 c.nxt, .int .i64 c.bas]
set_option maxHeartbeats 1600000 in
set_option maxRecDepth 100000 in
theorem tidingsOf_any (c : Cl) (p : Value) (w : World) (hp : ∃ pa lp pc, p = .slice pa lp pc) : Calls Tryz.prog 94 #[clV c p] w fun e w' => e = .returned (tdV c p) ∧ Below w.heap.size w w' := by
  obtain ⟨pa, lp, pc, rfl⟩ := hp
  unfold clV
  have e0 := size_alloc w (Obj.cells #[.string c.issuer, .int .i64 c.num, .int .i64 c.ths, .int .i64 c.nxt, .int .i64 c.bas, .slice pa lp pc, .string c.sig] 57)
  go_enter Tryz.func94, Tryz.ntmps94
  go_wp2_with fail
  refine bodyPost_ret (v := tdV c (.slice pa lp pc)) (by simp [results, Tryz.results94, go_sem, tdV]) rfl ⟨rfl, ?_⟩
  exact ((Below.refl _ _).alloc (Nat.le_refl _) _).alloc (by omega) _
set_option maxHeartbeats 1600000 in
set_option maxRecDepth 100000 in
theorem allows_any (c : Cl) (r : Int) (w : World) : Calls Tryz.prog 155 #[hdV c, .int .i64 r] w fun e w' => e = .returned (.bool (inB r 1 10 && !(decide (r = 8) && decide (c.bas = 0)))) ∧ Below w.heap.size w w' := by
  obtain ⟨Q, hQ⟩ : ∃ b, (inB r 1 10 && !(decide (r = 8) && decide (c.bas = 0))) = b := ⟨_, rfl⟩
  rw [hQ]
  unfold hdV
  by_cases h8 : r = 8
  · subst h8
    by_cases hb : c.bas = 0
    · have HF : Hid (Q = false) := by show Q = _; rw [← hQ, decide_eq_true hb]; rfl
      clear hQ
      go_enter Tryz.func155, Tryz.ntmps155
      go_wp2_with fail
      go_ret
      exact ⟨by rw [HF.out]; simp [hb], (Below.refl _ _).alloc (Nat.le_refl _) _⟩
    · have HF : Hid (Q = true) := by show Q = _; rw [← hQ, decide_eq_false hb]; rfl
      clear hQ
      go_enter Tryz.func155, Tryz.ntmps155
      go_wp2_with fail
      go_ret
      exact ⟨by rw [HF.out]; simp [hb], (Below.refl _ _).alloc (Nat.le_refl _) _⟩
  · have hq : (r == 8) = false := beq_eq_false_iff_ne.2 h8
    by_cases h1 : 1 ≤ r
    · by_cases h2 : r ≤ 10
      · have HF : Hid (Q = true) := by show Q = _; rw [← hQ, decide_eq_false h8]; simp [inB, h1, h2]
        clear hQ
        go_enter Tryz.func155, Tryz.ntmps155
        go_wp2_with fail
        go_ret
        exact ⟨by rw [HF.out]; simp [*], (Below.refl _ _).alloc (Nat.le_refl _) _⟩
      · have HF : Hid (Q = false) := by show Q = _; rw [← hQ, show inB r 1 10 = false from decide_eq_false (fun q => h2 q.2)]; rfl
        clear hQ
        go_enter Tryz.func155, Tryz.ntmps155
        go_wp2_with fail
        go_ret
        exact ⟨by rw [HF.out]; simp [*], (Below.refl _ _).alloc (Nat.le_refl _) _⟩
    · have HF : Hid (Q = false) := by show Q = _; rw [← hQ, show inB r 1 10 = false from decide_eq_false (fun q => h1 q.1)]; rfl
      clear hQ
      go_enter Tryz.func155, Tryz.ntmps155
      go_wp2_with fail
      go_ret
      exact ⟨by rw [HF.out]; simp [*], (Below.refl _ _).alloc (Nat.le_refl _) _⟩
set_option maxHeartbeats 3200000 in
set_option maxRecDepth 100000 in
theorem headRight_any (c : Cl) (w : World) (hz : c.issuer.size ≤ 1000000000) : Calls Tryz.prog 147 #[hdV c] w fun e w' => e = .returned (.bool (headOk c)) ∧ Below w.heap.size w w' := by
  obtain ⟨NM, hNM⟩ : ∃ n, c.num - 1 = n := ⟨_, rfl⟩
  obtain ⟨B1, hB1⟩ : ∃ b, nameOk c.issuer = b := ⟨_, rfl⟩
  have E1 : Hid (∀ W, Calls Tryz.prog 96 #[.string c.issuer] W fun e w' => e = .returned (.bool B1) ∧ Below W.heap.size W w') := fun W => by rw [← hB1]; exact implName_any c.issuer W (by omega)
  obtain ⟨B2, hB2⟩ : ∃ b, inB c.bas 0 NM = b := ⟨_, rfl⟩
  have E2 : Hid (∀ W, Calls Tryz.prog 111 #[.int .i64 NM, .int .i64 c.bas] W fun e w' => e = .returned (.bool B2) ∧ Below W.heap.size W w') := fun W => by rw [← hB2]; exact upTo_any _ _ W
  obtain ⟨B3, hB3⟩ : ∃ b, inB c.ths 0 9999 = b := ⟨_, rfl⟩
  have E3 : Hid (∀ W, Calls Tryz.prog 111 #[.int .i64 9999, .int .i64 c.ths] W fun e w' => e = .returned (.bool B3) ∧ Below W.heap.size W w') := fun W => by rw [← hB3]; exact upTo_any _ _ W
  obtain ⟨B4, hB4⟩ : ∃ b, inB c.nxt 0 9999 = b := ⟨_, rfl⟩
  have E4 : Hid (∀ W, Calls Tryz.prog 111 #[.int .i64 9999, .int .i64 c.nxt] W fun e w' => e = .returned (.bool B4) ∧ Below W.heap.size W w') := fun W => by rw [← hB4]; exact upTo_any _ _ W
  have HC : Hid (headOk c = (B1 && (inB c.num 1 9999 && (B2 && (B3 && B4))))) := by show headOk c = _; unfold headOk; rw [hNM, hB1, hB2, hB3, hB4]
  have HWN : Hid (1 ≤ c.num → c.num ≤ 9999 → IntKind.i64.wrap (c.num - 1) = NM) := fun h1 h2 => by rw [IntKind.wrap_i64]; omega
  clear hB1 hB2 hB3 hB4 hNM
  unfold hdV
  go_enter Tryz.func147, Tryz.ntmps147
  go_wp2_with fail
  obtain ⟨V, hV⟩ : ∃ V, V = w.alloc (Obj.cells #[.string c.issuer, .int .i64 c.num, .int .i64 c.ths, .int .i64 c.nxt, .int .i64 c.bas] 131) := ⟨_, rfl⟩
  rw [← hV]
  have G : Hid (Below w.heap.size w V ∧ Blk V w.heap.size 131 #[.string c.issuer, .int .i64 c.num, .int .i64 c.ths, .int .i64 c.nxt, .int .i64 c.bas]) := by rw [hV]; exact ⟨(Below.refl _ _).alloc (Nat.le_refl _) _, Blk.new w _ _⟩
  clear hV
  refine (E1.out V).mono ?_
  rintro e V1 ⟨rfl, hb⟩
  have G1 : Hid (Below w.heap.size w V1 ∧ Blk V1 w.heap.size 131 #[.string c.issuer, .int .i64 c.num, .int .i64 c.ths, .int .i64 c.nxt, .int .i64 c.bas]) := ⟨G.out.1.trans (hb.mono G.out.1.size), G.out.2.below hb G.out.2.lt⟩
  clear hb G
  have c0 : V1.cell? ⟨w.heap.size, 0, none⟩ = some (.string c.issuer) := G1.out.2.cell 0
  have c1 : V1.cell? ⟨w.heap.size, 1, none⟩ = some (.int .i64 c.num) := G1.out.2.cell 1
  have c2 : V1.cell? ⟨w.heap.size, 2, none⟩ = some (.int .i64 c.ths) := G1.out.2.cell 2
  have c3 : V1.cell? ⟨w.heap.size, 3, none⟩ = some (.int .i64 c.nxt) := G1.out.2.cell 3
  have c4 : V1.cell? ⟨w.heap.size, 4, none⟩ = some (.int .i64 c.bas) := G1.out.2.cell 4
  cases B1 with
  | false =>
    go_wp2_with fail
    go_ret
    exact ⟨by rw [HC.out]; simp, G1.out.1⟩
  | true =>
    by_cases n1 : 1 ≤ c.num
    rotate_left
    · have HN : Hid (inB c.num 1 9999 = false) := decide_eq_false (fun q => n1 q.1)
      go_wp2_with fail
      go_ret
      exact ⟨by rw [HC.out, HN.out]; simp, G1.out.1⟩
    by_cases n2 : c.num ≤ 9999
    rotate_left
    · have HN : Hid (inB c.num 1 9999 = false) := decide_eq_false (fun q => n2 q.2)
      go_wp2_with fail
      go_ret
      exact ⟨by rw [HC.out, HN.out]; simp, G1.out.1⟩
    have HNY : Hid (inB c.num 1 9999 = true) := decide_eq_true ⟨n1, n2⟩
    have wn := HWN.out n1 n2
    go_wp2_with fail
    clear c0 c1 c2 c3 c4
    refine (E2.out V1).mono ?_
    rintro e V2 ⟨rfl, hb⟩
    have G2 : Hid (Below w.heap.size w V2 ∧ Blk V2 w.heap.size 131 #[.string c.issuer, .int .i64 c.num, .int .i64 c.ths, .int .i64 c.nxt, .int .i64 c.bas]) := ⟨G1.out.1.trans (hb.mono G1.out.1.size), G1.out.2.below hb G1.out.2.lt⟩
    clear hb G1
    have c0 : V2.cell? ⟨w.heap.size, 0, none⟩ = some (.string c.issuer) := G2.out.2.cell 0
    have c1 : V2.cell? ⟨w.heap.size, 1, none⟩ = some (.int .i64 c.num) := G2.out.2.cell 1
    have c2 : V2.cell? ⟨w.heap.size, 2, none⟩ = some (.int .i64 c.ths) := G2.out.2.cell 2
    have c3 : V2.cell? ⟨w.heap.size, 3, none⟩ = some (.int .i64 c.nxt) := G2.out.2.cell 3
    have c4 : V2.cell? ⟨w.heap.size, 4, none⟩ = some (.int .i64 c.bas) := G2.out.2.cell 4
    cases B2 with
    | false =>
      go_wp2_with fail
      go_ret
      exact ⟨by rw [HC.out]; simp, G2.out.1⟩
    | true =>
      go_wp2_with fail
      clear c0 c1 c2 c3 c4
      refine (E3.out V2).mono ?_
      rintro e V3 ⟨rfl, hb⟩
      have G3 : Hid (Below w.heap.size w V3 ∧ Blk V3 w.heap.size 131 #[.string c.issuer, .int .i64 c.num, .int .i64 c.ths, .int .i64 c.nxt, .int .i64 c.bas]) := ⟨G2.out.1.trans (hb.mono G2.out.1.size), G2.out.2.below hb G2.out.2.lt⟩
      clear hb G2
      have c0 : V3.cell? ⟨w.heap.size, 0, none⟩ = some (.string c.issuer) := G3.out.2.cell 0
      have c1 : V3.cell? ⟨w.heap.size, 1, none⟩ = some (.int .i64 c.num) := G3.out.2.cell 1
      have c2 : V3.cell? ⟨w.heap.size, 2, none⟩ = some (.int .i64 c.ths) := G3.out.2.cell 2
      have c3 : V3.cell? ⟨w.heap.size, 3, none⟩ = some (.int .i64 c.nxt) := G3.out.2.cell 3
      have c4 : V3.cell? ⟨w.heap.size, 4, none⟩ = some (.int .i64 c.bas) := G3.out.2.cell 4
      cases B3 with
      | false =>
        go_wp2_with fail
        go_ret
        exact ⟨by rw [HC.out]; simp, G3.out.1⟩
      | true =>
        go_wp2_with fail
        clear c0 c1 c2 c3 c4
        refine (E4.out V3).mono ?_
        rintro e V4 ⟨rfl, hb⟩
        have G4 : Hid (Below w.heap.size w V4 ∧ Blk V4 w.heap.size 131 #[.string c.issuer, .int .i64 c.num, .int .i64 c.ths, .int .i64 c.nxt, .int .i64 c.bas]) := ⟨G3.out.1.trans (hb.mono G3.out.1.size), G3.out.2.below hb G3.out.2.lt⟩
        clear hb G3
        have c0 : V4.cell? ⟨w.heap.size, 0, none⟩ = some (.string c.issuer) := G4.out.2.cell 0
        have c1 : V4.cell? ⟨w.heap.size, 1, none⟩ = some (.int .i64 c.num) := G4.out.2.cell 1
        have c2 : V4.cell? ⟨w.heap.size, 2, none⟩ = some (.int .i64 c.ths) := G4.out.2.cell 2
        have c3 : V4.cell? ⟨w.heap.size, 3, none⟩ = some (.int .i64 c.nxt) := G4.out.2.cell 3
        have c4 : V4.cell? ⟨w.heap.size, 4, none⟩ = some (.int .i64 c.bas) := G4.out.2.cell 4
        cases B4 with
        | false =>
          go_wp2_with fail
          go_ret
          exact ⟨by rw [HC.out]; simp, G4.out.1⟩
        | true =>
          go_wp2_with fail
          go_ret
          exact ⟨by rw [HC.out, HNY.out]; rfl, G4.out.1⟩
end Go.Proofs.YtplblechcnbieaaGreat
