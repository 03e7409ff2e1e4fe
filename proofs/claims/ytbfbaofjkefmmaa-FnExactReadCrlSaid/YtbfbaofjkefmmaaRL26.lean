/-
  Texts of the proof, one behind the other: ClS, DrA.
-/
import Derived.Deep.AppendLies
import Derived.Test.YtbfbaofjkefmmaaRL20
import Derived.Test.YtbfbaofjkefmmaaRL22
import Derived.Test.YtbfbaofjkefmmaaRL24
import Derived.Test.YtbfbaofjkefmmaaRL25

/-
  The program's CrlOk and what it calls.
-/
namespace Go.Proofs.Ytbfbaofjkefmmaa
open Go.RowKit
set_option linter.unusedVariables false

/-- A list as it is signed, as a value. -/
def tdV (c : Cl) (p : Value) : Value := .agg #[.string c.issuer, .int .i64 c.num, .int .i64 c.ths, .int .i64 c.nxt, .int .i64 c.bas, p]
/-- A list's head, as a value. -/
def hdV (c : Cl) : Value := .agg #[.string c.issuer, .int .i64 c.num, .int .i64 c.ths, .int .i64 c.nxt, .int .i64 c.bas]
set_option maxHeartbeats 1600000 in
set_option maxRecDepth 100000 in
theorem tidingsOf_any (c : Cl) (p : Value) (w : World) (hp : ∃ pa lp pc, p = .slice pa lp pc) : Calls Try.prog 54 #[clV c p] w fun e w' => e = .returned (tdV c p) ∧ Below w.heap.size w w' := by
  obtain ⟨pa, lp, pc, rfl⟩ := hp
  unfold clV
  have e0 := size_alloc w (Obj.cells #[.string c.issuer, .int .i64 c.num, .int .i64 c.ths, .int .i64 c.nxt, .int .i64 c.bas, .slice pa lp pc, .string c.sig] 24)
  go_enter Try.func54, Try.ntmps54
  go_wp2_with fail
  refine bodyPost_ret (v := tdV c (.slice pa lp pc)) (by simp [results, Try.results54, go_sem, tdV]) rfl ⟨rfl, ?_⟩
  exact ((Below.refl _ _).alloc (Nat.le_refl _) _).alloc (by omega) _
set_option maxHeartbeats 1600000 in
set_option maxRecDepth 100000 in
theorem allows_any (c : Cl) (r : Int) (w : World) : Calls Try.prog 87 #[hdV c, .int .i64 r] w fun e w' => e = .returned (.bool (inB r 1 10 && !(decide (r = 8) && decide (c.bas = 0)))) ∧ Below w.heap.size w w' := by
  obtain ⟨Q, hQ⟩ : ∃ b, (inB r 1 10 && !(decide (r = 8) && decide (c.bas = 0))) = b := ⟨_, rfl⟩
  rw [hQ]
  unfold hdV
  by_cases h8 : r = 8
  · subst h8
    by_cases hb : c.bas = 0
    · have HF : Hid (Q = false) := by show Q = _; rw [← hQ, decide_eq_true hb]; rfl
      clear hQ
      go_enter Try.func87, Try.ntmps87
      go_wp2_with fail
      go_ret
      exact ⟨by rw [HF.out]; simp [hb], (Below.refl _ _).alloc (Nat.le_refl _) _⟩
    · have HF : Hid (Q = true) := by show Q = _; rw [← hQ, decide_eq_false hb]; rfl
      clear hQ
      go_enter Try.func87, Try.ntmps87
      go_wp2_with fail
      go_ret
      exact ⟨by rw [HF.out]; simp [hb], (Below.refl _ _).alloc (Nat.le_refl _) _⟩
  · have hq : (r == 8) = false := beq_eq_false_iff_ne.2 h8
    by_cases h1 : 1 ≤ r
    · by_cases h2 : r ≤ 10
      · have HF : Hid (Q = true) := by show Q = _; rw [← hQ, decide_eq_false h8]; simp [inB, h1, h2]
        clear hQ
        go_enter Try.func87, Try.ntmps87
        go_wp2_with fail
        go_ret
        exact ⟨by rw [HF.out]; simp [*], (Below.refl _ _).alloc (Nat.le_refl _) _⟩
      · have HF : Hid (Q = false) := by show Q = _; rw [← hQ, show inB r 1 10 = false from decide_eq_false (fun q => h2 q.2)]; rfl
        clear hQ
        go_enter Try.func87, Try.ntmps87
        go_wp2_with fail
        go_ret
        exact ⟨by rw [HF.out]; simp [*], (Below.refl _ _).alloc (Nat.le_refl _) _⟩
    · have HF : Hid (Q = false) := by show Q = _; rw [← hQ, show inB r 1 10 = false from decide_eq_false (fun q => h1 q.1)]; rfl
      clear hQ
      go_enter Try.func87, Try.ntmps87
      go_wp2_with fail
      go_ret
      exact ⟨by rw [HF.out]; simp [*], (Below.refl _ _).alloc (Nat.le_refl _) _⟩
set_option maxHeartbeats 3200000 in
set_option maxRecDepth 100000 in
theorem headRight_any (c : Cl) (w : World) (hz : c.issuer.size ≤ 1000000000) : Calls Try.prog 74 #[hdV c] w fun e w' => e = .returned (.bool (headOk c)) ∧ Below w.heap.size w w' := by
  obtain ⟨NM, hNM⟩ : ∃ n, c.num - 1 = n := ⟨_, rfl⟩
  obtain ⟨B1, hB1⟩ : ∃ b, nameOk c.issuer = b := ⟨_, rfl⟩
  have E1 : Hid (∀ W, Calls Try.prog 85 #[.string c.issuer] W fun e w' => e = .returned (.bool B1) ∧ Below W.heap.size W w') := fun W => by rw [← hB1]; exact implName_any c.issuer W (by omega)
  obtain ⟨B2, hB2⟩ : ∃ b, inB c.bas 0 NM = b := ⟨_, rfl⟩
  have E2 : Hid (∀ W, Calls Try.prog 86 #[.int .i64 NM, .int .i64 c.bas] W fun e w' => e = .returned (.bool B2) ∧ Below W.heap.size W w') := fun W => by rw [← hB2]; exact upTo_any _ _ W
  obtain ⟨B3, hB3⟩ : ∃ b, inB c.ths 0 9999 = b := ⟨_, rfl⟩
  have E3 : Hid (∀ W, Calls Try.prog 86 #[.int .i64 9999, .int .i64 c.ths] W fun e w' => e = .returned (.bool B3) ∧ Below W.heap.size W w') := fun W => by rw [← hB3]; exact upTo_any _ _ W
  obtain ⟨B4, hB4⟩ : ∃ b, inB c.nxt 0 9999 = b := ⟨_, rfl⟩
  have E4 : Hid (∀ W, Calls Try.prog 86 #[.int .i64 9999, .int .i64 c.nxt] W fun e w' => e = .returned (.bool B4) ∧ Below W.heap.size W w') := fun W => by rw [← hB4]; exact upTo_any _ _ W
  have HC : Hid (headOk c = (B1 && (inB c.num 1 9999 && (B2 && (B3 && B4))))) := by show headOk c = _; unfold headOk; rw [hNM, hB1, hB2, hB3, hB4]
  have HWN : Hid (1 ≤ c.num → c.num ≤ 9999 → IntKind.i64.wrap (c.num - 1) = NM) := fun h1 h2 => by rw [IntKind.wrap_i64]; omega
  clear hB1 hB2 hB3 hB4 hNM
  unfold hdV
  go_enter Try.func74, Try.ntmps74
  go_wp2_with fail
  obtain ⟨V, hV⟩ : ∃ V, V = w.alloc (Obj.cells #[.string c.issuer, .int .i64 c.num, .int .i64 c.ths, .int .i64 c.nxt, .int .i64 c.bas] 83) := ⟨_, rfl⟩
  rw [← hV]
  have G : Hid (Below w.heap.size w V ∧ Blk V w.heap.size 83 #[.string c.issuer, .int .i64 c.num, .int .i64 c.ths, .int .i64 c.nxt, .int .i64 c.bas]) := by rw [hV]; exact ⟨(Below.refl _ _).alloc (Nat.le_refl _) _, Blk.new w _ _⟩
  clear hV
  refine (E1.out V).mono ?_
  rintro e V1 ⟨rfl, hb⟩
  have G1 : Hid (Below w.heap.size w V1 ∧ Blk V1 w.heap.size 83 #[.string c.issuer, .int .i64 c.num, .int .i64 c.ths, .int .i64 c.nxt, .int .i64 c.bas]) := ⟨G.out.1.trans (hb.mono G.out.1.size), G.out.2.below hb G.out.2.lt⟩
  clear hb G
  have c0 : V1.cell? ⟨w.heap.size, 0, none⟩ = some (.string c.issuer) := G1.out.2.cell 0
  have c1 : V1.cell? ⟨w.heap.size, 1, none⟩ = some (.int .i64 c.num) := G1.out.2.cell 1
  have c2 : V1.cell? ⟨w.heap.size, 2, none⟩ = some (.int .i64 c.ths) := G1.out.2.cell 2
  have c3 : V1.cell? ⟨w.heap.size, 3, none⟩ = some (.int .i64 c.nxt) := G1.out.2.cell 3
  have c4 : V1.cell? ⟨w.heap.size, 4, none⟩ = some (.int .i64 c.bas) := G1.out.2.cell 4
  cases B1 with
  | false =>
    go_wp2_with fail
    go_ret
    exact ⟨by rw [HC.out]; simp, G1.out.1⟩
  | true =>
    by_cases n1 : 1 ≤ c.num
    rotate_left
    · have HN : Hid (inB c.num 1 9999 = false) := decide_eq_false (fun q => n1 q.1)
      go_wp2_with fail
      go_ret
      exact ⟨by rw [HC.out, HN.out]; simp, G1.out.1⟩
    by_cases n2 : c.num ≤ 9999
    rotate_left
    · have HN : Hid (inB c.num 1 9999 = false) := decide_eq_false (fun q => n2 q.2)
      go_wp2_with fail
      go_ret
      exact ⟨by rw [HC.out, HN.out]; simp, G1.out.1⟩
    have HNY : Hid (inB c.num 1 9999 = true) := decide_eq_true ⟨n1, n2⟩
    have wn := HWN.out n1 n2
    go_wp2_with fail
    clear c0 c1 c2 c3 c4
    refine (E2.out V1).mono ?_
    rintro e V2 ⟨rfl, hb⟩
    have G2 : Hid (Below w.heap.size w V2 ∧ Blk V2 w.heap.size 83 #[.string c.issuer, .int .i64 c.num, .int .i64 c.ths, .int .i64 c.nxt, .int .i64 c.bas]) := ⟨G1.out.1.trans (hb.mono G1.out.1.size), G1.out.2.below hb G1.out.2.lt⟩
    clear hb G1
    have c0 : V2.cell? ⟨w.heap.size, 0, none⟩ = some (.string c.issuer) := G2.out.2.cell 0
    have c1 : V2.cell? ⟨w.heap.size, 1, none⟩ = some (.int .i64 c.num) := G2.out.2.cell 1
    have c2 : V2.cell? ⟨w.heap.size, 2, none⟩ = some (.int .i64 c.ths) := G2.out.2.cell 2
    have c3 : V2.cell? ⟨w.heap.size, 3, none⟩ = some (.int .i64 c.nxt) := G2.out.2.cell 3
    have c4 : V2.cell? ⟨w.heap.size, 4, none⟩ = some (.int .i64 c.bas) := G2.out.2.cell 4
    cases B2 with
    | false =>
      go_wp2_with fail
      go_ret
      exact ⟨by rw [HC.out]; simp, G2.out.1⟩
    | true =>
      go_wp2_with fail
      clear c0 c1 c2 c3 c4
      refine (E3.out V2).mono ?_
      rintro e V3 ⟨rfl, hb⟩
      have G3 : Hid (Below w.heap.size w V3 ∧ Blk V3 w.heap.size 83 #[.string c.issuer, .int .i64 c.num, .int .i64 c.ths, .int .i64 c.nxt, .int .i64 c.bas]) := ⟨G2.out.1.trans (hb.mono G2.out.1.size), G2.out.2.below hb G2.out.2.lt⟩
      clear hb G2
      have c0 : V3.cell? ⟨w.heap.size, 0, none⟩ = some (.string c.issuer) := G3.out.2.cell 0
      have c1 : V3.cell? ⟨w.heap.size, 1, none⟩ = some (.int .i64 c.num) := G3.out.2.cell 1
      have c2 : V3.cell? ⟨w.heap.size, 2, none⟩ = some (.int .i64 c.ths) := G3.out.2.cell 2
      have c3 : V3.cell? ⟨w.heap.size, 3, none⟩ = some (.int .i64 c.nxt) := G3.out.2.cell 3
      have c4 : V3.cell? ⟨w.heap.size, 4, none⟩ = some (.int .i64 c.bas) := G3.out.2.cell 4
      cases B3 with
      | false =>
        go_wp2_with fail
        go_ret
        exact ⟨by rw [HC.out]; simp, G3.out.1⟩
      | true =>
        go_wp2_with fail
        clear c0 c1 c2 c3 c4
        refine (E4.out V3).mono ?_
        rintro e V4 ⟨rfl, hb⟩
        have G4 : Hid (Below w.heap.size w V4 ∧ Blk V4 w.heap.size 83 #[.string c.issuer, .int .i64 c.num, .int .i64 c.ths, .int .i64 c.nxt, .int .i64 c.bas]) := ⟨G3.out.1.trans (hb.mono G3.out.1.size), G3.out.2.below hb G3.out.2.lt⟩
        clear hb G3
        have c0 : V4.cell? ⟨w.heap.size, 0, none⟩ = some (.string c.issuer) := G4.out.2.cell 0
        have c1 : V4.cell? ⟨w.heap.size, 1, none⟩ = some (.int .i64 c.num) := G4.out.2.cell 1
        have c2 : V4.cell? ⟨w.heap.size, 2, none⟩ = some (.int .i64 c.ths) := G4.out.2.cell 2
        have c3 : V4.cell? ⟨w.heap.size, 3, none⟩ = some (.int .i64 c.nxt) := G4.out.2.cell 3
        have c4 : V4.cell? ⟨w.heap.size, 4, none⟩ = some (.int .i64 c.bas) := G4.out.2.cell 4
        cases B4 with
        | false =>
          go_wp2_with fail
          go_ret
          exact ⟨by rw [HC.out]; simp, G4.out.1⟩
        | true =>
          go_wp2_with fail
          go_ret
          exact ⟨by rw [HC.out, HNY.out]; rfl, G4.out.1⟩
end Go.Proofs.Ytbfbaofjkefmmaa

/-
  The program's rev and head: what a reader reads of one that was called back, and of a list's head.
-/
namespace Go.Proofs.Ytbfbaofjkefmmaa
open Go.RowKit Der
set_option linter.unusedVariables false
set_option linter.unusedSimpArgs false

set_option maxHeartbeats 12800000 in
set_option maxRecDepth 100000 in
theorem rev_any (w0 w : World) (g n : Nat) (v : Value) (ks : List (It (n + 2))) (hw : Below w0.heap.size w0 w) (hk : KcAt w0 (n + 2) v ks) (hr : Blk w g 107 #[v]) (hg : w0.heap.size ≤ g) (hz : SzL ks) :
    Calls Try.prog 73 #[.pointer (some ⟨g, 0, none⟩)] w fun e W' => OnePost (fun p : Int × Int => .agg #[.int .i64 p.1, .int .i64 p.2]) w0 w g (n + 1) (revP ks) e W' := by
  obtain ⟨oB, hoB⟩ : ∃ b, revP ks = b := ⟨_, rfl⟩
  have HP : Hid (revP ks = oB) := hoB
  rw [hoB]
  clear hoB
  have KW : Hid (KcAt w0 (n + 2) v ks ∧ SzL ks) := ⟨hk, hz⟩
  have O0 : Hid (w0.heap.size ≤ g ∧ g < w.heap.size ∧ w0.heap.size ≤ w.heap.size) := ⟨hg, hr.lt, hw.size⟩
  clear hk hz hg
  go_enter Try.func73, Try.ntmps73
  go_wp2_with fail
  obtain ⟨W1, hW1⟩ : ∃ V, V = (w.alloc (Obj.cells #[.int .i64 0, .int .i64 0] 57)).alloc (Obj.cells #[.int .i64 0, .int .i64 0] 57) := ⟨_, rfl⟩
  rw [← hW1]
  have e0 : (w.alloc (Obj.cells #[.int .i64 0, .int .i64 0] 57)).heap.size = w.heap.size + 1 := Array.size_push _
  have hb1 : Below w.heap.size w W1 := by rw [hW1]; exact ((Below.refl _ _).alloc (Nat.le_refl _) _).alloc (by rw [e0]; omega) _
  have hv1 : Blk W1 w.heap.size 57 #[.int .i64 0, .int .i64 0] := by rw [hW1]; exact (Blk.new w _ _).alloc _
  have hv2 : Blk W1 (w.heap.size + 1) 57 #[.int .i64 0, .int .i64 0] := by
    rw [hW1]
    have h := Blk.new (w.alloc (Obj.cells #[.int .i64 0, .int .i64 0] 57)) 57 #[.int .i64 0, .int .i64 0]
    rw [e0] at h
    exact h
  have hs1 : W1.heap.size = w.heap.size + 2 := by rw [hW1, size_alloc, e0]
  have HB : Hid (Below w0.heap.size w0 W1) := hw.trans (hb1.mono hw.size)
  have HO : Hid (Out [g] w W1) := Out.of_below hb1
  have VC : Hid (Blk W1 w.heap.size 57 #[.int .i64 0, .int .i64 0]) := hv1
  have VA : Hid (Blk W1 (w.heap.size + 1) 57 #[.int .i64 0, .int .i64 0]) := hv2
  have RW : Hid (Blk W1 g 107 #[v]) := hr.below hb1 hr.lt
  have O1 : Hid (W1.heap.size = w.heap.size + 2) := hs1
  clear hW1 e0 hb1 hv1 hv2 hs1 hr hw
  refine (list_any w0 W1 g (n + 1) v ks HB.out KW.out.1 RW.out (by have := O0.out; have := O1.out; omega) KW.out.2.1).mono ?_
  rintro e w2 ⟨ho, ⟨hn, rfl⟩ | ⟨i2, r2, v2, vi2, gi, hn, rfl, hgi, hki, hkr, hB, hBi⟩⟩
  · have HF : Hid (Out [g] w w2 ∧ oB = none) := by
      refine ⟨HO.out.trans ho, ?_⟩
      rw [← HP.out]
      unfold revP; simp only [hn, Option.bind_some, Option.bind_none]
    clear hn ho
    unfold misfit
    go_wp2_with fail
    exact ⟨rfl, HF.out.1, .inl ⟨HF.out.2, rfl⟩⟩
  have N2 : Hid (lstP ks = some (i2, r2)) := hn
  have HBn : Hid (Below w0.heap.size w0 w2) := below_out HB.out ho (by have := O0.out; have := O1.out; omega)
  clear HB
  have HB := HBn
  clear HBn
  have HOn : Hid (Out [g] w w2) := HO.out.trans ho
  clear HO
  have HO := HOn
  clear HOn
  have VCn : Hid (Blk w2 w.heap.size 57 #[.int .i64 0, .int .i64 0]) := VC.out.outX ho (by have := O0.out; have := O1.out; simp <;> omega)
  clear VC
  have VC := VCn
  clear VCn
  have VAn : Hid (Blk w2 (w.heap.size + 1) 57 #[.int .i64 0, .int .i64 0]) := VA.out.outX ho (by have := O0.out; have := O1.out; simp <;> omega)
  clear VA
  have VA := VAn
  clear VAn
  clear RW
  have O2 : Hid (W1.heap.size ≤ w2.heap.size) := ho.size
  have RW : Hid (Blk w2 g 107 #[v2]) := hB
  have RI : Hid (Blk w2 gi 107 #[vi2]) := hBi
  have O3 : Hid (W1.heap.size ≤ gi ∧ gi < w2.heap.size) := ⟨hgi, hBi.lt⟩
  have KI : Hid (KcAt w0 (n + 1) vi2 i2 ∧ SzL i2) := ⟨hki, (KW.out.2.lst hn).1⟩
  have KR : Hid (KcAt w0 (n + 2) v2 r2) := hkr
  clear hn ho hgi hki hkr hB hBi
  go_wp2_with fail
  refine (number_any w0 w2 gi n vi2 i2 HB.out KI.out.1 RI.out (by have := O0.out; have := O1.out; have := O2.out; have := O3.out; omega) KI.out.2.1 (fun y hy => Nat.le_trans (KI.out.2.2 y hy) (by decide))).mono ?_
  rintro e w3 ⟨ho, ⟨hn, rfl⟩ | ⟨x3, r3, v3, hn, rfl, hkq, hB⟩⟩
  · have HF : Hid (Out [g] w w3 ∧ oB = none) := by
      refine ⟨HO.out.aside ho (by have := O0.out; have := O1.out; have := O2.out; have := O3.out; omega), ?_⟩
      rw [← HP.out]
      unfold revP; simp only [N2.out, hn, Option.bind_some, Option.bind_none]
    clear hn ho
    unfold misfit
    go_wp2_with fail
    exact ⟨rfl, HF.out.1, .inl ⟨HF.out.2, rfl⟩⟩
  have N3 : Hid (numP i2 = some (x3, r3)) := hn
  have HBn : Hid (Below w0.heap.size w0 w3) := below_out HB.out ho (by have := O0.out; have := O1.out; have := O2.out; have := O3.out; omega)
  clear HB
  have HB := HBn
  clear HBn
  have HOn : Hid (Out [g] w w3) := HO.out.aside ho (by have := O0.out; have := O1.out; have := O2.out; have := O3.out; omega)
  clear HO
  have HO := HOn
  clear HOn
  have VCn : Hid (Blk w3 w.heap.size 57 #[.int .i64 0, .int .i64 0]) := VC.out.outX ho (by have := O0.out; have := O1.out; have := O2.out; have := O3.out; simp <;> omega)
  clear VC
  have VC := VCn
  clear VCn
  have VAn : Hid (Blk w3 (w.heap.size + 1) 57 #[.int .i64 0, .int .i64 0]) := VA.out.outX ho (by have := O0.out; have := O1.out; have := O2.out; have := O3.out; simp <;> omega)
  clear VA
  have VA := VAn
  clear VAn
  have RWn : Hid (Blk w3 g 107 #[v2]) := RW.out.outX ho (by have := O0.out; have := O1.out; have := O2.out; have := O3.out; simp <;> omega)
  clear RW
  have RW := RWn
  clear RWn
  clear RI
  have O4 : Hid (w2.heap.size ≤ w3.heap.size) := ho.size
  have RI : Hid (Blk w3 gi 107 #[v3]) := hB
  have KIn : Hid (KcAt w0 (n + 1) v3 r3 ∧ SzL r3) := ⟨hkq, by obtain ⟨y', _, h1, _⟩ := num_some hn; have h := KI.out.2; rw [h1] at h; exact h.tail⟩
  clear KI
  have KI := KIn
  clear KIn hn ho hkq hB
  have cc : w3.cell? ⟨w.heap.size + 1, 0, none⟩ = some (.int .i64 0) := VA.out.cell 0
  have cf := VA.out.free 0
  go_wp2_with fail
  clear cc cf
  obtain ⟨V3, hV⟩ : ∃ V, V = w3.setCell ⟨w.heap.size + 1, 0, none⟩ (.int .i64 x3) := ⟨_, rfl⟩
  rw [← hV]
  have hset : Out [w.heap.size + 1] w3 V3 := by rw [hV]; exact out_set _ _ _
  have hVA : Blk V3 (w.heap.size + 1) 57 #[.int .i64 x3, .int .i64 0] := by rw [hV]; exact VA.out.set 0 _
  have HBn : Hid (Below w0.heap.size w0 V3) := below_out HB.out hset (by have := O0.out; have := O1.out; have := O2.out; have := O3.out; have := O4.out; omega)
  clear HB
  have HB := HBn
  clear HBn
  have HOn : Hid (Out [g] w V3) := HO.out.aside hset (by have := O0.out; have := O1.out; have := O2.out; have := O3.out; have := O4.out; omega)
  clear HO
  have HO := HOn
  clear HOn
  have VCn : Hid (Blk V3 w.heap.size 57 #[.int .i64 0, .int .i64 0]) := VC.out.outX hset (by have := O0.out; have := O1.out; have := O2.out; have := O3.out; have := O4.out; simp <;> omega)
  clear VC
  have VC := VCn
  clear VCn
  have RWn : Hid (Blk V3 g 107 #[v2]) := RW.out.outX hset (by have := O0.out; have := O1.out; have := O2.out; have := O3.out; have := O4.out; simp <;> omega)
  clear RW
  have RW := RWn
  clear RWn
  have RIn : Hid (Blk V3 gi 107 #[v3]) := RI.out.outX hset (by have := O0.out; have := O1.out; have := O2.out; have := O3.out; have := O4.out; simp <;> omega)
  clear RI
  have RI := RIn
  clear RIn
  clear VA
  have O5 : Hid (w3.heap.size ≤ V3.heap.size) := hset.size
  have VA : Hid (Blk V3 (w.heap.size + 1) 57 #[.int .i64 x3, .int .i64 0]) := hVA
  clear hset hVA hV
  refine (number_any w0 V3 gi n v3 r3 HB.out KI.out.1 RI.out (by have := O0.out; have := O1.out; have := O2.out; have := O3.out; have := O4.out; have := O5.out; omega) KI.out.2.1 (fun y hy => Nat.le_trans (KI.out.2.2 y hy) (by decide))).mono ?_
  rintro e w4 ⟨ho, ⟨hn, rfl⟩ | ⟨x4, r4, v4, hn, rfl, hkq, hB⟩⟩
  · have HF : Hid (Out [g] w w4 ∧ oB = none) := by
      refine ⟨HO.out.aside ho (by have := O0.out; have := O1.out; have := O2.out; have := O3.out; have := O4.out; have := O5.out; omega), ?_⟩
      rw [← HP.out]
      unfold revP; simp only [N2.out, N3.out, hn, Option.bind_some, Option.bind_none]
    clear hn ho
    unfold misfit
    go_wp2_with fail
    exact ⟨rfl, HF.out.1, .inl ⟨HF.out.2, rfl⟩⟩
  have N4 : Hid (numP r3 = some (x4, r4)) := hn
  have HBn : Hid (Below w0.heap.size w0 w4) := below_out HB.out ho (by have := O0.out; have := O1.out; have := O2.out; have := O3.out; have := O4.out; have := O5.out; omega)
  clear HB
  have HB := HBn
  clear HBn
  have HOn : Hid (Out [g] w w4) := HO.out.aside ho (by have := O0.out; have := O1.out; have := O2.out; have := O3.out; have := O4.out; have := O5.out; omega)
  clear HO
  have HO := HOn
  clear HOn
  have VCn : Hid (Blk w4 w.heap.size 57 #[.int .i64 0, .int .i64 0]) := VC.out.outX ho (by have := O0.out; have := O1.out; have := O2.out; have := O3.out; have := O4.out; have := O5.out; simp <;> omega)
  clear VC
  have VC := VCn
  clear VCn
  have RWn : Hid (Blk w4 g 107 #[v2]) := RW.out.outX ho (by have := O0.out; have := O1.out; have := O2.out; have := O3.out; have := O4.out; have := O5.out; simp <;> omega)
  clear RW
  have RW := RWn
  clear RWn
  have VAn : Hid (Blk w4 (w.heap.size + 1) 57 #[.int .i64 x3, .int .i64 0]) := VA.out.outX ho (by have := O0.out; have := O1.out; have := O2.out; have := O3.out; have := O4.out; have := O5.out; simp <;> omega)
  clear VA
  have VA := VAn
  clear VAn
  clear RI
  have O6 : Hid (V3.heap.size ≤ w4.heap.size) := ho.size
  have RI : Hid (Blk w4 gi 107 #[v4]) := hB
  have KIn : Hid (KcAt w0 (n + 1) v4 r4 ∧ SzL r4) := ⟨hkq, by obtain ⟨y', _, h1, _⟩ := num_some hn; have h := KI.out.2; rw [h1] at h; exact h.tail⟩
  clear KI
  have KI := KIn
  clear KIn hn ho hkq hB
  have cc : w4.cell? ⟨w.heap.size + 1, 1, none⟩ = some (.int .i64 0) := VA.out.cell 1
  have cf := VA.out.free 1
  go_wp2_with fail
  clear cc cf
  obtain ⟨V4, hV⟩ : ∃ V, V = w4.setCell ⟨w.heap.size + 1, 1, none⟩ (.int .i64 x4) := ⟨_, rfl⟩
  rw [← hV]
  have hset : Out [w.heap.size + 1] w4 V4 := by rw [hV]; exact out_set _ _ _
  have hVA : Blk V4 (w.heap.size + 1) 57 #[.int .i64 x3, .int .i64 x4] := by rw [hV]; exact VA.out.set 1 _
  have HBn : Hid (Below w0.heap.size w0 V4) := below_out HB.out hset (by have := O0.out; have := O1.out; have := O2.out; have := O3.out; have := O4.out; have := O5.out; have := O6.out; omega)
  clear HB
  have HB := HBn
  clear HBn
  have HOn : Hid (Out [g] w V4) := HO.out.aside hset (by have := O0.out; have := O1.out; have := O2.out; have := O3.out; have := O4.out; have := O5.out; have := O6.out; omega)
  clear HO
  have HO := HOn
  clear HOn
  have VCn : Hid (Blk V4 w.heap.size 57 #[.int .i64 0, .int .i64 0]) := VC.out.outX hset (by have := O0.out; have := O1.out; have := O2.out; have := O3.out; have := O4.out; have := O5.out; have := O6.out; simp <;> omega)
  clear VC
  have VC := VCn
  clear VCn
  have RWn : Hid (Blk V4 g 107 #[v2]) := RW.out.outX hset (by have := O0.out; have := O1.out; have := O2.out; have := O3.out; have := O4.out; have := O5.out; have := O6.out; simp <;> omega)
  clear RW
  have RW := RWn
  clear RWn
  have RIn : Hid (Blk V4 gi 107 #[v4]) := RI.out.outX hset (by have := O0.out; have := O1.out; have := O2.out; have := O3.out; have := O4.out; have := O5.out; have := O6.out; simp <;> omega)
  clear RI
  have RI := RIn
  clear RIn
  clear VA
  have O7 : Hid (w4.heap.size ≤ V4.heap.size) := hset.size
  have VA : Hid (Blk V4 (w.heap.size + 1) 57 #[.int .i64 x3, .int .i64 x4]) := hVA
  clear hset hVA hV
  obtain ⟨ea, ec, he⟩ := KI.out.1.shape
  have hRE : Blk V4 gi 107 #[.slice ea r4.length ec] := by rw [← he]; exact RI.out
  refine (end_any V4 gi r4.length ec ea r4 rfl hRE).mono ?_
  rintro e w7 ⟨hb, ⟨hn, rfl⟩ | ⟨hnil, hn, rfl⟩⟩
  · have HF : Hid (Out [g] w w7 ∧ oB = none) := by
      refine ⟨HO.out.trans (Out.of_below hb), ?_⟩
      rw [← HP.out]
      unfold revP; simp only [N2.out, N3.out, N4.out, hn, Option.bind_some, Option.bind_none]
    clear hn hb
    unfold misfit
    go_wp2_with fail
    exact ⟨rfl, HF.out.1, .inl ⟨HF.out.2, rfl⟩⟩
  have N7 : Hid (endP r4 = some ()) := hn
  have HBn : Hid (Below w0.heap.size w0 w7) := HB.out.trans (hb.mono HB.out.size)
  clear HB
  have HB := HBn
  clear HBn
  have HOn : Hid (Out [g] w w7) := HO.out.trans (Out.of_below hb)
  clear HO
  have HO := HOn
  clear HOn
  have VCn : Hid (Blk w7 w.heap.size 57 #[.int .i64 0, .int .i64 0]) := VC.out.on hb
  clear VC
  have VC := VCn
  clear VCn
  have RWn : Hid (Blk w7 g 107 #[v2]) := RW.out.on hb
  clear RW
  have RW := RWn
  clear RWn
  have RIn : Hid (Blk w7 gi 107 #[v4]) := RI.out.on hb
  clear RI
  have RI := RIn
  clear RIn
  have VAn : Hid (Blk w7 (w.heap.size + 1) 57 #[.int .i64 x3, .int .i64 x4]) := VA.out.on hb
  clear VA
  have VA := VAn
  clear VAn
  have O8 : Hid (V4.heap.size ≤ w7.heap.size) := hb.size
  clear hn hb hnil hRE he
  have HF : Hid (oB = some ((x3, x4), r2)) := by
    show oB = _
    rw [← HP.out]
    unfold revP; simp only [N2.out, N3.out, N4.out, N7.out, Option.bind_some, Option.bind_none]
  have a0 : w7.cell? ⟨w.heap.size + 1, 0, none⟩ = some (.int .i64 x3) := VA.out.cell 0
  have b0 : w7.cell? ⟨w.heap.size, 0, none⟩ = some (.int .i64 0) := VC.out.cell 0
  have a1 : w7.cell? ⟨w.heap.size + 1, 1, none⟩ = some (.int .i64 x4) := VA.out.cell 1
  have b1 : w7.cell? ⟨w.heap.size, 1, none⟩ = some (.int .i64 0) := VC.out.cell 1
  have fb := fun j => VC.out.free j
  go_wp2_with fail
  generalize hV8 : World.setCell _ { block := w.heap.size, off := 1 } _ = V8
  have FIN : Out [w.heap.size] w7 V8 ∧ Blk V8 w.heap.size 57 #[.int .i64 x3, .int .i64 x4] := by
    rw [← hV8]
    refine ⟨?_, ?_⟩
    · iterate 2 refine Out.setCell ?_ _ _ (by simp)
      exact Out.refl _ _
    · have h0 := VC.out
      have h1 : Blk _ w.heap.size 57 #[.int .i64 x3, .int .i64 0] := h0.set 0 (.int .i64 x3)
      have h2 : Blk _ w.heap.size 57 #[.int .i64 x3, .int .i64 x4] := h1.set 1 (.int .i64 x4)
      exact h2
  clear hV8 fb a0 b0 a1 b1
  have HE8 : OnePost (fun p : Int × Int => .agg #[.int .i64 p.1, .int .i64 p.2]) w0 w g (n + 1) oB (.returned (.agg #[.int .i64 x3, .int .i64 x4])) V8 := ⟨HO.out.aside FIN.1 (by have := O0.out; have := O1.out; have := O2.out; have := O3.out; have := O4.out; have := O5.out; have := O6.out; have := O7.out; have := O8.out; omega), .inr ⟨(x3, x4), r2, v2, HF.out, rfl, KR.out, RW.out.outX FIN.1 (by have := O0.out; have := O1.out; have := O2.out; have := O3.out; have := O4.out; have := O5.out; have := O6.out; have := O7.out; have := O8.out; simp <;> omega)⟩⟩
  have q0 : V8.cell? ⟨w.heap.size, 0, none⟩ = some (.int .i64 x3) := FIN.2.cell 0
  have q1 : V8.cell? ⟨w.heap.size, 1, none⟩ = some (.int .i64 x4) := FIN.2.cell 1
  refine bodyPost_ret (v := .agg #[.int .i64 x3, .int .i64 x4]) (by simp [results, Try.results73, go_sem, q0, q1]) rfl HE8
set_option maxHeartbeats 12800000 in
set_option maxRecDepth 100000 in
theorem rhead_any (w0 w : World) (g n : Nat) (v : Value) (ks : List (It (n + 3))) (hw : Below w0.heap.size w0 w) (hk : KcAt w0 (n + 3) v ks) (hr : Blk w g 107 #[v]) (hg : w0.heap.size ≤ g) (hz : SzL ks) :
    Calls Try.prog 71 #[.pointer (some ⟨g, 0, none⟩)] w fun e W' => OnePost (fun c : Cl => hdV c) w0 w g (n + 2) (headP ks) e W' := by
  obtain ⟨oB, hoB⟩ : ∃ b, headP ks = b := ⟨_, rfl⟩
  have HP : Hid (headP ks = oB) := hoB
  rw [hoB]
  clear hoB
  have KW : Hid (KcAt w0 (n + 3) v ks ∧ SzL ks) := ⟨hk, hz⟩
  have O0 : Hid (w0.heap.size ≤ g ∧ g < w.heap.size ∧ w0.heap.size ≤ w.heap.size) := ⟨hg, hr.lt, hw.size⟩
  clear hk hz hg
  go_enter Try.func71, Try.ntmps71
  go_wp2_with fail
  obtain ⟨W1, hW1⟩ : ∃ V, V = (w.alloc (Obj.cells #[.string ⟨#[]⟩, .int .i64 0, .int .i64 0, .int .i64 0, .int .i64 0] 83)).alloc (Obj.cells #[.string ⟨#[]⟩, .int .i64 0, .int .i64 0, .int .i64 0, .int .i64 0] 83) := ⟨_, rfl⟩
  rw [← hW1]
  have e0 : (w.alloc (Obj.cells #[.string ⟨#[]⟩, .int .i64 0, .int .i64 0, .int .i64 0, .int .i64 0] 83)).heap.size = w.heap.size + 1 := Array.size_push _
  have hb1 : Below w.heap.size w W1 := by rw [hW1]; exact ((Below.refl _ _).alloc (Nat.le_refl _) _).alloc (by rw [e0]; omega) _
  have hv1 : Blk W1 w.heap.size 83 #[.string ⟨#[]⟩, .int .i64 0, .int .i64 0, .int .i64 0, .int .i64 0] := by rw [hW1]; exact (Blk.new w _ _).alloc _
  have hv2 : Blk W1 (w.heap.size + 1) 83 #[.string ⟨#[]⟩, .int .i64 0, .int .i64 0, .int .i64 0, .int .i64 0] := by
    rw [hW1]
    have h := Blk.new (w.alloc (Obj.cells #[.string ⟨#[]⟩, .int .i64 0, .int .i64 0, .int .i64 0, .int .i64 0] 83)) 83 #[.string ⟨#[]⟩, .int .i64 0, .int .i64 0, .int .i64 0, .int .i64 0]
    rw [e0] at h
    exact h
  have hs1 : W1.heap.size = w.heap.size + 2 := by rw [hW1, size_alloc, e0]
  have HB : Hid (Below w0.heap.size w0 W1) := hw.trans (hb1.mono hw.size)
  have HO : Hid (Out [g] w W1) := Out.of_below hb1
  have VC : Hid (Blk W1 w.heap.size 83 #[.string ⟨#[]⟩, .int .i64 0, .int .i64 0, .int .i64 0, .int .i64 0]) := hv1
  have VA : Hid (Blk W1 (w.heap.size + 1) 83 #[.string ⟨#[]⟩, .int .i64 0, .int .i64 0, .int .i64 0, .int .i64 0]) := hv2
  have RW : Hid (Blk W1 g 107 #[v]) := hr.below hb1 hr.lt
  have O1 : Hid (W1.heap.size = w.heap.size + 2) := hs1
  clear hW1 e0 hb1 hv1 hv2 hs1 hr hw
  have KI : Hid (KcAt w0 (n + 3) v ks ∧ SzL ks) := KW.out
  refine (rtext_any w0 W1 g (n + 2) v ks HB.out KI.out.1 RW.out (by have := O0.out; have := O1.out; omega) KI.out.2.1).mono ?_
  rintro e w2 ⟨ho, ⟨hn, rfl⟩ | ⟨x2, r2, v2, hn, rfl, hkq, hB⟩⟩
  · have HF : Hid (Out [g] w w2 ∧ oB = none) := by
      refine ⟨HO.out.trans ho, ?_⟩
      rw [← HP.out]
      unfold headP; simp only [hn, Option.bind_some, Option.bind_none]
    clear hn ho
    unfold misfit
    go_wp2_with fail
    exact ⟨rfl, HF.out.1, .inl ⟨HF.out.2, rfl⟩⟩
  have N2 : Hid (txtP 12 ks = some (x2, r2)) := hn
  have HBn : Hid (Below w0.heap.size w0 w2) := below_out HB.out ho (by have := O0.out; have := O1.out; omega)
  clear HB
  have HB := HBn
  clear HBn
  have HOn : Hid (Out [g] w w2) := HO.out.trans ho
  clear HO
  have HO := HOn
  clear HOn
  have VCn : Hid (Blk w2 w.heap.size 83 #[.string ⟨#[]⟩, .int .i64 0, .int .i64 0, .int .i64 0, .int .i64 0]) := VC.out.outX ho (by have := O0.out; have := O1.out; simp <;> omega)
  clear VC
  have VC := VCn
  clear VCn
  have VAn : Hid (Blk w2 (w.heap.size + 1) 83 #[.string ⟨#[]⟩, .int .i64 0, .int .i64 0, .int .i64 0, .int .i64 0]) := VA.out.outX ho (by have := O0.out; have := O1.out; simp <;> omega)
  clear VA
  have VA := VAn
  clear VAn
  clear RW
  have O2 : Hid (W1.heap.size ≤ w2.heap.size) := ho.size
  have RW : Hid (Blk w2 g 107 #[v2]) := hB
  have KIn : Hid (KcAt w0 (n + 3) v2 r2 ∧ SzL r2) := ⟨hkq, by obtain ⟨y', h1, _⟩ := txt_some hn; have h := KI.out.2; rw [h1] at h; exact h.tail⟩
  clear KI
  have KI := KIn
  clear KIn hn ho hkq hB
  have cc : w2.cell? ⟨w.heap.size + 1, 0, none⟩ = some (.string ⟨#[]⟩) := VA.out.cell 0
  have cf := VA.out.free 0
  go_wp2_with fail
  clear cc cf
  obtain ⟨V2, hV⟩ : ∃ V, V = w2.setCell ⟨w.heap.size + 1, 0, none⟩ (.string x2) := ⟨_, rfl⟩
  rw [← hV]
  have hset : Out [w.heap.size + 1] w2 V2 := by rw [hV]; exact out_set _ _ _
  have hVA : Blk V2 (w.heap.size + 1) 83 #[.string x2, .int .i64 0, .int .i64 0, .int .i64 0, .int .i64 0] := by rw [hV]; exact VA.out.set 0 _
  have HBn : Hid (Below w0.heap.size w0 V2) := below_out HB.out hset (by have := O0.out; have := O1.out; have := O2.out; omega)
  clear HB
  have HB := HBn
  clear HBn
  have HOn : Hid (Out [g] w V2) := HO.out.aside hset (by have := O0.out; have := O1.out; have := O2.out; omega)
  clear HO
  have HO := HOn
  clear HOn
  have VCn : Hid (Blk V2 w.heap.size 83 #[.string ⟨#[]⟩, .int .i64 0, .int .i64 0, .int .i64 0, .int .i64 0]) := VC.out.outX hset (by have := O0.out; have := O1.out; have := O2.out; simp <;> omega)
  clear VC
  have VC := VCn
  clear VCn
  have RWn : Hid (Blk V2 g 107 #[v2]) := RW.out.outX hset (by have := O0.out; have := O1.out; have := O2.out; simp <;> omega)
  clear RW
  have RW := RWn
  clear RWn
  clear VA
  have O3 : Hid (w2.heap.size ≤ V2.heap.size) := hset.size
  have VA : Hid (Blk V2 (w.heap.size + 1) 83 #[.string x2, .int .i64 0, .int .i64 0, .int .i64 0, .int .i64 0]) := hVA
  clear hset hVA hV
  refine (number_any w0 V2 g (n + 2) v2 r2 HB.out KI.out.1 RW.out (by have := O0.out; have := O1.out; have := O2.out; have := O3.out; omega) KI.out.2.1 (fun y hy => Nat.le_trans (KI.out.2.2 y hy) (by decide))).mono ?_
  rintro e w3 ⟨ho, ⟨hn, rfl⟩ | ⟨x3, r3, v3, hn, rfl, hkq, hB⟩⟩
  · have HF : Hid (Out [g] w w3 ∧ oB = none) := by
      refine ⟨HO.out.trans ho, ?_⟩
      rw [← HP.out]
      unfold headP; simp only [N2.out, hn, Option.bind_some, Option.bind_none]
    clear hn ho
    unfold misfit
    go_wp2_with fail
    exact ⟨rfl, HF.out.1, .inl ⟨HF.out.2, rfl⟩⟩
  have N3 : Hid (numP r2 = some (x3, r3)) := hn
  have HBn : Hid (Below w0.heap.size w0 w3) := below_out HB.out ho (by have := O0.out; have := O1.out; have := O2.out; have := O3.out; omega)
  clear HB
  have HB := HBn
  clear HBn
  have HOn : Hid (Out [g] w w3) := HO.out.trans ho
  clear HO
  have HO := HOn
  clear HOn
  have VCn : Hid (Blk w3 w.heap.size 83 #[.string ⟨#[]⟩, .int .i64 0, .int .i64 0, .int .i64 0, .int .i64 0]) := VC.out.outX ho (by have := O0.out; have := O1.out; have := O2.out; have := O3.out; simp <;> omega)
  clear VC
  have VC := VCn
  clear VCn
  have VAn : Hid (Blk w3 (w.heap.size + 1) 83 #[.string x2, .int .i64 0, .int .i64 0, .int .i64 0, .int .i64 0]) := VA.out.outX ho (by have := O0.out; have := O1.out; have := O2.out; have := O3.out; simp <;> omega)
  clear VA
  have VA := VAn
  clear VAn
  clear RW
  have O4 : Hid (V2.heap.size ≤ w3.heap.size) := ho.size
  have RW : Hid (Blk w3 g 107 #[v3]) := hB
  have KIn : Hid (KcAt w0 (n + 3) v3 r3 ∧ SzL r3) := ⟨hkq, by obtain ⟨y', _, h1, _⟩ := num_some hn; have h := KI.out.2; rw [h1] at h; exact h.tail⟩
  clear KI
  have KI := KIn
  clear KIn hn ho hkq hB
  have cc : w3.cell? ⟨w.heap.size + 1, 1, none⟩ = some (.int .i64 0) := VA.out.cell 1
  have cf := VA.out.free 1
  go_wp2_with fail
  clear cc cf
  obtain ⟨V3, hV⟩ : ∃ V, V = w3.setCell ⟨w.heap.size + 1, 1, none⟩ (.int .i64 x3) := ⟨_, rfl⟩
  rw [← hV]
  have hset : Out [w.heap.size + 1] w3 V3 := by rw [hV]; exact out_set _ _ _
  have hVA : Blk V3 (w.heap.size + 1) 83 #[.string x2, .int .i64 x3, .int .i64 0, .int .i64 0, .int .i64 0] := by rw [hV]; exact VA.out.set 1 _
  have HBn : Hid (Below w0.heap.size w0 V3) := below_out HB.out hset (by have := O0.out; have := O1.out; have := O2.out; have := O3.out; have := O4.out; omega)
  clear HB
  have HB := HBn
  clear HBn
  have HOn : Hid (Out [g] w V3) := HO.out.aside hset (by have := O0.out; have := O1.out; have := O2.out; have := O3.out; have := O4.out; omega)
  clear HO
  have HO := HOn
  clear HOn
  have VCn : Hid (Blk V3 w.heap.size 83 #[.string ⟨#[]⟩, .int .i64 0, .int .i64 0, .int .i64 0, .int .i64 0]) := VC.out.outX hset (by have := O0.out; have := O1.out; have := O2.out; have := O3.out; have := O4.out; simp <;> omega)
  clear VC
  have VC := VCn
  clear VCn
  have RWn : Hid (Blk V3 g 107 #[v3]) := RW.out.outX hset (by have := O0.out; have := O1.out; have := O2.out; have := O3.out; have := O4.out; simp <;> omega)
  clear RW
  have RW := RWn
  clear RWn
  clear VA
  have O5 : Hid (w3.heap.size ≤ V3.heap.size) := hset.size
  have VA : Hid (Blk V3 (w.heap.size + 1) 83 #[.string x2, .int .i64 x3, .int .i64 0, .int .i64 0, .int .i64 0]) := hVA
  clear hset hVA hV
  refine (number_any w0 V3 g (n + 2) v3 r3 HB.out KI.out.1 RW.out (by have := O0.out; have := O1.out; have := O2.out; have := O3.out; have := O4.out; have := O5.out; omega) KI.out.2.1 (fun y hy => Nat.le_trans (KI.out.2.2 y hy) (by decide))).mono ?_
  rintro e w4 ⟨ho, ⟨hn, rfl⟩ | ⟨x4, r4, v4, hn, rfl, hkq, hB⟩⟩
  · have HF : Hid (Out [g] w w4 ∧ oB = none) := by
      refine ⟨HO.out.trans ho, ?_⟩
      rw [← HP.out]
      unfold headP; simp only [N2.out, N3.out, hn, Option.bind_some, Option.bind_none]
    clear hn ho
    unfold misfit
    go_wp2_with fail
    exact ⟨rfl, HF.out.1, .inl ⟨HF.out.2, rfl⟩⟩
  have N4 : Hid (numP r3 = some (x4, r4)) := hn
  have HBn : Hid (Below w0.heap.size w0 w4) := below_out HB.out ho (by have := O0.out; have := O1.out; have := O2.out; have := O3.out; have := O4.out; have := O5.out; omega)
  clear HB
  have HB := HBn
  clear HBn
  have HOn : Hid (Out [g] w w4) := HO.out.trans ho
  clear HO
  have HO := HOn
  clear HOn
  have VCn : Hid (Blk w4 w.heap.size 83 #[.string ⟨#[]⟩, .int .i64 0, .int .i64 0, .int .i64 0, .int .i64 0]) := VC.out.outX ho (by have := O0.out; have := O1.out; have := O2.out; have := O3.out; have := O4.out; have := O5.out; simp <;> omega)
  clear VC
  have VC := VCn
  clear VCn
  have VAn : Hid (Blk w4 (w.heap.size + 1) 83 #[.string x2, .int .i64 x3, .int .i64 0, .int .i64 0, .int .i64 0]) := VA.out.outX ho (by have := O0.out; have := O1.out; have := O2.out; have := O3.out; have := O4.out; have := O5.out; simp <;> omega)
  clear VA
  have VA := VAn
  clear VAn
  clear RW
  have O6 : Hid (V3.heap.size ≤ w4.heap.size) := ho.size
  have RW : Hid (Blk w4 g 107 #[v4]) := hB
  have KIn : Hid (KcAt w0 (n + 3) v4 r4 ∧ SzL r4) := ⟨hkq, by obtain ⟨y', _, h1, _⟩ := num_some hn; have h := KI.out.2; rw [h1] at h; exact h.tail⟩
  clear KI
  have KI := KIn
  clear KIn hn ho hkq hB
  have cc : w4.cell? ⟨w.heap.size + 1, 2, none⟩ = some (.int .i64 0) := VA.out.cell 2
  have cf := VA.out.free 2
  go_wp2_with fail
  clear cc cf
  obtain ⟨V4, hV⟩ : ∃ V, V = w4.setCell ⟨w.heap.size + 1, 2, none⟩ (.int .i64 x4) := ⟨_, rfl⟩
  rw [← hV]
  have hset : Out [w.heap.size + 1] w4 V4 := by rw [hV]; exact out_set _ _ _
  have hVA : Blk V4 (w.heap.size + 1) 83 #[.string x2, .int .i64 x3, .int .i64 x4, .int .i64 0, .int .i64 0] := by rw [hV]; exact VA.out.set 2 _
  have HBn : Hid (Below w0.heap.size w0 V4) := below_out HB.out hset (by have := O0.out; have := O1.out; have := O2.out; have := O3.out; have := O4.out; have := O5.out; have := O6.out; omega)
  clear HB
  have HB := HBn
  clear HBn
  have HOn : Hid (Out [g] w V4) := HO.out.aside hset (by have := O0.out; have := O1.out; have := O2.out; have := O3.out; have := O4.out; have := O5.out; have := O6.out; omega)
  clear HO
  have HO := HOn
  clear HOn
  have VCn : Hid (Blk V4 w.heap.size 83 #[.string ⟨#[]⟩, .int .i64 0, .int .i64 0, .int .i64 0, .int .i64 0]) := VC.out.outX hset (by have := O0.out; have := O1.out; have := O2.out; have := O3.out; have := O4.out; have := O5.out; have := O6.out; simp <;> omega)
  clear VC
  have VC := VCn
  clear VCn
  have RWn : Hid (Blk V4 g 107 #[v4]) := RW.out.outX hset (by have := O0.out; have := O1.out; have := O2.out; have := O3.out; have := O4.out; have := O5.out; have := O6.out; simp <;> omega)
  clear RW
  have RW := RWn
  clear RWn
  clear VA
  have O7 : Hid (w4.heap.size ≤ V4.heap.size) := hset.size
  have VA : Hid (Blk V4 (w.heap.size + 1) 83 #[.string x2, .int .i64 x3, .int .i64 x4, .int .i64 0, .int .i64 0]) := hVA
  clear hset hVA hV
  refine (number_any w0 V4 g (n + 2) v4 r4 HB.out KI.out.1 RW.out (by have := O0.out; have := O1.out; have := O2.out; have := O3.out; have := O4.out; have := O5.out; have := O6.out; have := O7.out; omega) KI.out.2.1 (fun y hy => Nat.le_trans (KI.out.2.2 y hy) (by decide))).mono ?_
  rintro e w5 ⟨ho, ⟨hn, rfl⟩ | ⟨x5, r5, v5, hn, rfl, hkq, hB⟩⟩
  · have HF : Hid (Out [g] w w5 ∧ oB = none) := by
      refine ⟨HO.out.trans ho, ?_⟩
      rw [← HP.out]
      unfold headP; simp only [N2.out, N3.out, N4.out, hn, Option.bind_some, Option.bind_none]
    clear hn ho
    unfold misfit
    go_wp2_with fail
    exact ⟨rfl, HF.out.1, .inl ⟨HF.out.2, rfl⟩⟩
  have N5 : Hid (numP r4 = some (x5, r5)) := hn
  have HBn : Hid (Below w0.heap.size w0 w5) := below_out HB.out ho (by have := O0.out; have := O1.out; have := O2.out; have := O3.out; have := O4.out; have := O5.out; have := O6.out; have := O7.out; omega)
  clear HB
  have HB := HBn
  clear HBn
  have HOn : Hid (Out [g] w w5) := HO.out.trans ho
  clear HO
  have HO := HOn
  clear HOn
  have VCn : Hid (Blk w5 w.heap.size 83 #[.string ⟨#[]⟩, .int .i64 0, .int .i64 0, .int .i64 0, .int .i64 0]) := VC.out.outX ho (by have := O0.out; have := O1.out; have := O2.out; have := O3.out; have := O4.out; have := O5.out; have := O6.out; have := O7.out; simp <;> omega)
  clear VC
  have VC := VCn
  clear VCn
  have VAn : Hid (Blk w5 (w.heap.size + 1) 83 #[.string x2, .int .i64 x3, .int .i64 x4, .int .i64 0, .int .i64 0]) := VA.out.outX ho (by have := O0.out; have := O1.out; have := O2.out; have := O3.out; have := O4.out; have := O5.out; have := O6.out; have := O7.out; simp <;> omega)
  clear VA
  have VA := VAn
  clear VAn
  clear RW
  have O8 : Hid (V4.heap.size ≤ w5.heap.size) := ho.size
  have RW : Hid (Blk w5 g 107 #[v5]) := hB
  have KIn : Hid (KcAt w0 (n + 3) v5 r5 ∧ SzL r5) := ⟨hkq, by obtain ⟨y', _, h1, _⟩ := num_some hn; have h := KI.out.2; rw [h1] at h; exact h.tail⟩
  clear KI
  have KI := KIn
  clear KIn hn ho hkq hB
  have cc : w5.cell? ⟨w.heap.size + 1, 3, none⟩ = some (.int .i64 0) := VA.out.cell 3
  have cf := VA.out.free 3
  go_wp2_with fail
  clear cc cf
  obtain ⟨V5, hV⟩ : ∃ V, V = w5.setCell ⟨w.heap.size + 1, 3, none⟩ (.int .i64 x5) := ⟨_, rfl⟩
  rw [← hV]
  have hset : Out [w.heap.size + 1] w5 V5 := by rw [hV]; exact out_set _ _ _
  have hVA : Blk V5 (w.heap.size + 1) 83 #[.string x2, .int .i64 x3, .int .i64 x4, .int .i64 x5, .int .i64 0] := by rw [hV]; exact VA.out.set 3 _
  have HBn : Hid (Below w0.heap.size w0 V5) := below_out HB.out hset (by have := O0.out; have := O1.out; have := O2.out; have := O3.out; have := O4.out; have := O5.out; have := O6.out; have := O7.out; have := O8.out; omega)
  clear HB
  have HB := HBn
  clear HBn
  have HOn : Hid (Out [g] w V5) := HO.out.aside hset (by have := O0.out; have := O1.out; have := O2.out; have := O3.out; have := O4.out; have := O5.out; have := O6.out; have := O7.out; have := O8.out; omega)
  clear HO
  have HO := HOn
  clear HOn
  have VCn : Hid (Blk V5 w.heap.size 83 #[.string ⟨#[]⟩, .int .i64 0, .int .i64 0, .int .i64 0, .int .i64 0]) := VC.out.outX hset (by have := O0.out; have := O1.out; have := O2.out; have := O3.out; have := O4.out; have := O5.out; have := O6.out; have := O7.out; have := O8.out; simp <;> omega)
  clear VC
  have VC := VCn
  clear VCn
  have RWn : Hid (Blk V5 g 107 #[v5]) := RW.out.outX hset (by have := O0.out; have := O1.out; have := O2.out; have := O3.out; have := O4.out; have := O5.out; have := O6.out; have := O7.out; have := O8.out; simp <;> omega)
  clear RW
  have RW := RWn
  clear RWn
  clear VA
  have O9 : Hid (w5.heap.size ≤ V5.heap.size) := hset.size
  have VA : Hid (Blk V5 (w.heap.size + 1) 83 #[.string x2, .int .i64 x3, .int .i64 x4, .int .i64 x5, .int .i64 0]) := hVA
  clear hset hVA hV
  refine (number_any w0 V5 g (n + 2) v5 r5 HB.out KI.out.1 RW.out (by have := O0.out; have := O1.out; have := O2.out; have := O3.out; have := O4.out; have := O5.out; have := O6.out; have := O7.out; have := O8.out; have := O9.out; omega) KI.out.2.1 (fun y hy => Nat.le_trans (KI.out.2.2 y hy) (by decide))).mono ?_
  rintro e w6 ⟨ho, ⟨hn, rfl⟩ | ⟨x6, r6, v6, hn, rfl, hkq, hB⟩⟩
  · have HF : Hid (Out [g] w w6 ∧ oB = none) := by
      refine ⟨HO.out.trans ho, ?_⟩
      rw [← HP.out]
      unfold headP; simp only [N2.out, N3.out, N4.out, N5.out, hn, Option.bind_some, Option.bind_none]
    clear hn ho
    unfold misfit
    go_wp2_with fail
    exact ⟨rfl, HF.out.1, .inl ⟨HF.out.2, rfl⟩⟩
  have N6 : Hid (numP r5 = some (x6, r6)) := hn
  have HBn : Hid (Below w0.heap.size w0 w6) := below_out HB.out ho (by have := O0.out; have := O1.out; have := O2.out; have := O3.out; have := O4.out; have := O5.out; have := O6.out; have := O7.out; have := O8.out; have := O9.out; omega)
  clear HB
  have HB := HBn
  clear HBn
  have HOn : Hid (Out [g] w w6) := HO.out.trans ho
  clear HO
  have HO := HOn
  clear HOn
  have VCn : Hid (Blk w6 w.heap.size 83 #[.string ⟨#[]⟩, .int .i64 0, .int .i64 0, .int .i64 0, .int .i64 0]) := VC.out.outX ho (by have := O0.out; have := O1.out; have := O2.out; have := O3.out; have := O4.out; have := O5.out; have := O6.out; have := O7.out; have := O8.out; have := O9.out; simp <;> omega)
  clear VC
  have VC := VCn
  clear VCn
  have VAn : Hid (Blk w6 (w.heap.size + 1) 83 #[.string x2, .int .i64 x3, .int .i64 x4, .int .i64 x5, .int .i64 0]) := VA.out.outX ho (by have := O0.out; have := O1.out; have := O2.out; have := O3.out; have := O4.out; have := O5.out; have := O6.out; have := O7.out; have := O8.out; have := O9.out; simp <;> omega)
  clear VA
  have VA := VAn
  clear VAn
  clear RW
  have O10 : Hid (V5.heap.size ≤ w6.heap.size) := ho.size
  have RW : Hid (Blk w6 g 107 #[v6]) := hB
  have KIn : Hid (KcAt w0 (n + 3) v6 r6 ∧ SzL r6) := ⟨hkq, by obtain ⟨y', _, h1, _⟩ := num_some hn; have h := KI.out.2; rw [h1] at h; exact h.tail⟩
  clear KI
  have KI := KIn
  clear KIn hn ho hkq hB
  have HF : Hid (oB = some (⟨x2, x3, x4, x5, x6, [], ⟨#[]⟩⟩, r6)) := by
    show oB = _
    rw [← HP.out]
    unfold headP; simp only [N2.out, N3.out, N4.out, N5.out, N6.out, Option.bind_some, Option.bind_none]
  have a0 : w6.cell? ⟨w.heap.size + 1, 0, none⟩ = some (.string x2) := VA.out.cell 0
  have b0 : w6.cell? ⟨w.heap.size, 0, none⟩ = some (.string ⟨#[]⟩) := VC.out.cell 0
  have a1 : w6.cell? ⟨w.heap.size + 1, 1, none⟩ = some (.int .i64 x3) := VA.out.cell 1
  have b1 : w6.cell? ⟨w.heap.size, 1, none⟩ = some (.int .i64 0) := VC.out.cell 1
  have a2 : w6.cell? ⟨w.heap.size + 1, 2, none⟩ = some (.int .i64 x4) := VA.out.cell 2
  have b2 : w6.cell? ⟨w.heap.size, 2, none⟩ = some (.int .i64 0) := VC.out.cell 2
  have a3 : w6.cell? ⟨w.heap.size + 1, 3, none⟩ = some (.int .i64 x5) := VA.out.cell 3
  have b3 : w6.cell? ⟨w.heap.size, 3, none⟩ = some (.int .i64 0) := VC.out.cell 3
  have a4 : w6.cell? ⟨w.heap.size + 1, 4, none⟩ = some (.int .i64 0) := VA.out.cell 4
  have b4 : w6.cell? ⟨w.heap.size, 4, none⟩ = some (.int .i64 0) := VC.out.cell 4
  have fb := fun j => VC.out.free j
  have fa := fun j => VA.out.free j
  have nb : ¬ w.heap.size = w.heap.size + 1 := by omega
  have na : ¬ w.heap.size + 1 = w.heap.size := by omega
  go_wp2_with fail
  clear fb fa nb na a0 b0 a1 b1 a2 b2 a3 b3 a4 b4
  generalize hV7 : World.setCell w6 { block := w.heap.size + 1, off := 4 } _ = V7
  have hset : Out [w.heap.size + 1] w6 V7 := by rw [← hV7]; exact out_set _ _ _
  have hVA : Blk V7 (w.heap.size + 1) 83 #[.string x2, .int .i64 x3, .int .i64 x4, .int .i64 x5, .int .i64 x6] := by rw [← hV7]; exact VA.out.set 4 _
  have HBn : Hid (Below w0.heap.size w0 V7) := below_out HB.out hset (by have := O0.out; have := O1.out; have := O2.out; have := O3.out; have := O4.out; have := O5.out; have := O6.out; have := O7.out; have := O8.out; have := O9.out; have := O10.out; omega)
  clear HB
  have HB := HBn
  clear HBn
  have HOn : Hid (Out [g] w V7) := HO.out.aside hset (by have := O0.out; have := O1.out; have := O2.out; have := O3.out; have := O4.out; have := O5.out; have := O6.out; have := O7.out; have := O8.out; have := O9.out; have := O10.out; omega)
  clear HO
  have HO := HOn
  clear HOn
  have VCn : Hid (Blk V7 w.heap.size 83 #[.string ⟨#[]⟩, .int .i64 0, .int .i64 0, .int .i64 0, .int .i64 0]) := VC.out.outX hset (by have := O0.out; have := O1.out; have := O2.out; have := O3.out; have := O4.out; have := O5.out; have := O6.out; have := O7.out; have := O8.out; have := O9.out; have := O10.out; simp <;> omega)
  clear VC
  have VC := VCn
  clear VCn
  have RWn : Hid (Blk V7 g 107 #[v6]) := RW.out.outX hset (by have := O0.out; have := O1.out; have := O2.out; have := O3.out; have := O4.out; have := O5.out; have := O6.out; have := O7.out; have := O8.out; have := O9.out; have := O10.out; simp <;> omega)
  clear RW
  have RW := RWn
  clear RWn
  clear VA
  have O11 : Hid (w6.heap.size ≤ V7.heap.size) := hset.size
  have VA : Hid (Blk V7 (w.heap.size + 1) 83 #[.string x2, .int .i64 x3, .int .i64 x4, .int .i64 x5, .int .i64 x6]) := hVA
  clear hset hVA hV7
  generalize hV8 : World.setCell _ { block := w.heap.size, off := 4 } _ = V8
  have FIN : Out [w.heap.size] V7 V8 ∧ Blk V8 w.heap.size 83 #[.string x2, .int .i64 x3, .int .i64 x4, .int .i64 x5, .int .i64 x6] := by
    rw [← hV8]
    refine ⟨?_, ?_⟩
    · iterate 5 refine Out.setCell ?_ _ _ (by simp)
      exact Out.refl _ _
    · have h0 := VC.out
      have h1 : Blk _ w.heap.size 83 #[.string x2, .int .i64 0, .int .i64 0, .int .i64 0, .int .i64 0] := h0.set 0 (.string x2)
      have h2 : Blk _ w.heap.size 83 #[.string x2, .int .i64 x3, .int .i64 0, .int .i64 0, .int .i64 0] := h1.set 1 (.int .i64 x3)
      have h3 : Blk _ w.heap.size 83 #[.string x2, .int .i64 x3, .int .i64 x4, .int .i64 0, .int .i64 0] := h2.set 2 (.int .i64 x4)
      have h4 : Blk _ w.heap.size 83 #[.string x2, .int .i64 x3, .int .i64 x4, .int .i64 x5, .int .i64 0] := h3.set 3 (.int .i64 x5)
      have h5 : Blk _ w.heap.size 83 #[.string x2, .int .i64 x3, .int .i64 x4, .int .i64 x5, .int .i64 x6] := h4.set 4 (.int .i64 x6)
      exact h5
  clear hV8
  have HE8 : OnePost (fun c : Cl => hdV c) w0 w g (n + 2) oB (.returned (.agg #[.string x2, .int .i64 x3, .int .i64 x4, .int .i64 x5, .int .i64 x6])) V8 := ⟨HO.out.aside FIN.1 (by have := O0.out; have := O1.out; have := O2.out; have := O3.out; have := O4.out; have := O5.out; have := O6.out; have := O7.out; have := O8.out; have := O9.out; have := O10.out; have := O11.out; omega), .inr ⟨⟨x2, x3, x4, x5, x6, [], ⟨#[]⟩⟩, r6, v6, HF.out, rfl, KI.out.1, RW.out.outX FIN.1 (by have := O0.out; have := O1.out; have := O2.out; have := O3.out; have := O4.out; have := O5.out; have := O6.out; have := O7.out; have := O8.out; have := O9.out; have := O10.out; have := O11.out; simp <;> omega)⟩⟩
  have q0 : V8.cell? ⟨w.heap.size, 0, none⟩ = some (.string x2) := FIN.2.cell 0
  have q1 : V8.cell? ⟨w.heap.size, 1, none⟩ = some (.int .i64 x3) := FIN.2.cell 1
  have q2 : V8.cell? ⟨w.heap.size, 2, none⟩ = some (.int .i64 x4) := FIN.2.cell 2
  have q3 : V8.cell? ⟨w.heap.size, 3, none⟩ = some (.int .i64 x5) := FIN.2.cell 3
  have q4 : V8.cell? ⟨w.heap.size, 4, none⟩ = some (.int .i64 x6) := FIN.2.cell 4
  refine bodyPost_ret (v := .agg #[.string x2, .int .i64 x3, .int .i64 x4, .int .i64 x5, .int .i64 x6]) (by simp [results, Try.results71, go_sem, q0, q1, q2, q3, q4]) rfl HE8
end Go.Proofs.Ytbfbaofjkefmmaa
