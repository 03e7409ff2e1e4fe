/-
  Texts of the proof, one behind the other: RvB, ClB.
-/
import Derived.Test.YtbfbaofjkefmmaaRL5
import Derived.Test.YtbfbaofjkefmmaaRL16
import Derived.Test.YtbfbaofjkefmmaaRL23

/-
  The laws' helpers over what was called back: toRev, toRevS, szRevS, eqRev, eqRevS, markRevS, heldRevS.
-/
namespace Go.Proofs.Ytbfbaofjkefmmaa
open Go.RowKit
set_option linter.unusedVariables false

set_option maxHeartbeats 800000 in
set_option maxRecDepth 100000 in
theorem eqRev_same (s r : Int) (w : World) : Calls Try.prog 56 #[.agg #[.int .i64 s, .int .i64 r], .agg #[.int .i64 s, .int .i64 r]] w fun e w' => e = .returned (.bool true) ∧ Below w.heap.size w w' := by
  have e0 := size_alloc w (Obj.cells #[.int .i64 s, .int .i64 r] 57)
  go_enter Try.func56, Try.ntmps56
  go_wp2_with fail
  go_ret
  exact ⟨rfl, ((Below.refl _ _).alloc (Nat.le_refl _) _).alloc (by omega) _⟩
set_option maxHeartbeats 1600000 in
set_option maxRecDepth 100000 in
theorem eqRevS_same (a b : Value) (l : List (Int × Int)) (w : World) (hl : l.length ≤ 1000000000) (ha : RevAt w a l) (hb : RevAt w b l) : Calls Try.prog 29 #[a, b] w fun e w' => e = .returned (.bool true) ∧ Below w.heap.size w w' := by
  obtain ⟨ao, ca, rfl, hca⟩ := ha
  obtain ⟨bo, cb, rfl, hcb⟩ := hb
  have HA : Hid (∀ j, j < l.length → ∃ g, ao = some ⟨g, 0, none⟩ ∧ g < w.heap.size ∧ w.cell? ⟨g, j * 2, none⟩ = some (.int .i64 (l.getD j (0, 0)).1) ∧ w.cell? ⟨g, j * 2 + 1, none⟩ = some (.int .i64 (l.getD j (0, 0)).2)) := hca
  have HB : Hid (∀ j, j < l.length → ∃ g, bo = some ⟨g, 0, none⟩ ∧ g < w.heap.size ∧ w.cell? ⟨g, j * 2, none⟩ = some (.int .i64 (l.getD j (0, 0)).1) ∧ w.cell? ⟨g, j * 2 + 1, none⟩ = some (.int .i64 (l.getD j (0, 0)).2)) := hcb
  clear hca hcb
  go_enter Try.func29, Try.ntmps29
  go_wp2_with fail
  go_loopw [5] (fun iv wr => ∃ k : Nat, k ≤ l.length ∧ iv = .int .i64 k ∧ Hid (Below w.heap.size w wr)) (fun iv _ => l.length - (intOf iv).toNat)
  case atStart => exact ⟨0, Nat.zero_le _, rfl, Below.refl _ _⟩
  case round =>
    obtain ⟨k, hk, rfl, HW⟩ := hrel
    by_cases hlt : k < l.length
    · obtain ⟨ga, hao, hga, ha1, ha2⟩ := HA.out k hlt
      obtain ⟨gb, hbo, hgb, hb1, hb2⟩ := HB.out k hlt
      have hbel := HW.out
      have c1 : wr.cell? ⟨ga, k * 2, none⟩ = some (.int .i64 (l.getD k (0, 0)).1) := (hbel.cell (p := ⟨ga, k * 2, none⟩) hga).trans ha1
      have c2 : wr.cell? ⟨ga, k * 2 + 1, none⟩ = some (.int .i64 (l.getD k (0, 0)).2) := (hbel.cell (p := ⟨ga, k * 2 + 1, none⟩) hga).trans ha2
      have c3 : wr.cell? ⟨gb, k * 2, none⟩ = some (.int .i64 (l.getD k (0, 0)).1) := (hbel.cell (p := ⟨gb, k * 2, none⟩) hgb).trans hb1
      have c4 : wr.cell? ⟨gb, k * 2 + 1, none⟩ = some (.int .i64 (l.getD k (0, 0)).2) := (hbel.cell (p := ⟨gb, k * 2 + 1, none⟩) hgb).trans hb2
      generalize (l.getD k (0, 0)).1 = x at *
      generalize (l.getD k (0, 0)).2 = y at *
      have HQ : Hid (ga < w.heap.size ∧ gb < w.heap.size) := ⟨hga, hgb⟩
      subst hao hbo
      clear ha1 ha2 hb1 hb2 hbel hga hgb
      have hki : (k : Int) < (l.length : Int) := by omega
      have hk0 : (0 : Int) ≤ (k : Int) := by omega
      have HR := eqRev_same x y wr.drew
      have hcs : wr.cell? ⟨ga, k * 2, none⟩ = some (.int .i64 x) ∧ wr.cell? ⟨ga, k * 2 + 1, none⟩ = some (.int .i64 y) ∧ wr.cell? ⟨gb, k * 2, none⟩ = some (.int .i64 x) ∧ wr.cell? ⟨gb, k * 2 + 1, none⟩ = some (.int .i64 y) := ⟨c1, c2, c3, c4⟩
      have HS : Hid (∀ w3, Below wr.drew.heap.size wr.drew w3 → w3.cell? ⟨ga, k * 2, none⟩ = some (.int .i64 x) ∧ w3.cell? ⟨ga, k * 2 + 1, none⟩ = some (.int .i64 y) ∧ w3.cell? ⟨gb, k * 2, none⟩ = some (.int .i64 x) ∧ w3.cell? ⟨gb, k * 2 + 1, none⟩ = some (.int .i64 y)) := fun w3 hb => by
        have e : wr.drew.heap.size = wr.heap.size := rfl
        have h1 := HW.out.size
        have h2 := HQ.out
        exact ⟨(hb.cell (p := ⟨ga, k * 2, none⟩) (by show ga < _; omega)).trans c1, (hb.cell (p := ⟨ga, k * 2 + 1, none⟩) (by show ga < _; omega)).trans c2, (hb.cell (p := ⟨gb, k * 2, none⟩) (by show gb < _; omega)).trans c3, (hb.cell (p := ⟨gb, k * 2 + 1, none⟩) (by show gb < _; omega)).trans c4⟩
      go_wp2_with fail
      go_region_held3 (fun W => W.cell? ⟨ga, k * 2, none⟩ = some (.int .i64 x) ∧ W.cell? ⟨ga, k * 2 + 1, none⟩ = some (.int .i64 y) ∧ W.cell? ⟨gb, k * 2, none⟩ = some (.int .i64 x) ∧ W.cell? ⟨gb, k * 2 + 1, none⟩ = some (.int .i64 y)) (first | exact hc3 | exact hcs) ((go_at_call 56; refine HR.mono ?_; rintro e w3 ⟨rfl, hb3⟩; have hc3 := HS.out w3 hb3))
      all_goals (
        go_wp2_with fail
        exact ⟨⟨k + 1, by omega, by go_num, HW.out.drew.trans (hb3.mono HW.out.drew.size)⟩, by simp [intOf]; omega⟩)
    · go_wp2_with fail
      go_ret
      exact ⟨rfl, HW.out⟩
set_option maxHeartbeats 1600000 in
set_option maxRecDepth 100000 in
theorem markR_any (v : Value) (l : List (Int × Int)) (k base : Nat) (w : World) (hl : l.length ≤ 100000000) (hk : k ≤ 1000000000) (hv : OwnR w base v l) :
    Calls Try.prog 30 #[v, .int .i64 k] w fun e w' => e = .returned (.int .i64 (((k + 2 * l.length : Nat)) : Int)) ∧ OwnR w' base v (marksR k l.length) ∧ w.grownBy w' v.ownBlock := by
  obtain ⟨n, hn⟩ : ∃ n, l.length = n := ⟨_, rfl⟩
  have HN : Hid (l.length = n) := hn
  obtain ⟨ao, cap, rfl, hc, _⟩ := hv.shape
  rw [hn] at hc hl
  have hv' : OwnR w base (.slice ao n cap) l := hn ▸ hv
  rw [hn]
  have HV : Hid (OwnR w base (.slice ao n cap) l) := hv'
  have HC : Hid (0 < n → ∃ g, ao = some ⟨g, 0, none⟩) := hc
  clear hv hv' hc hn
  go_enter Try.func30, Try.ntmps30
  go_wp2_with fail
  go_loopw [1, 5] (fun kv iv wr => ∃ (j : Nat) (L : List (Int × Int)), j ≤ n ∧ kv = .int .i64 ((k + 2 * j : Nat) : Int) ∧ iv = .int .i64 j ∧ Hid (L.length = n ∧ (∀ i, i < j → L.getD i (0, 0) = (((k + 2 * i : Nat) : Int), ((k + 2 * i + 1 : Nat) : Int))) ∧ OwnR wr base (.slice ao n cap) L ∧ w.grownBy wr (Value.slice ao n cap).ownBlock)) (fun _ iv _ => n - (intOf iv).toNat)
  case atStart => exact ⟨0, l, Nat.zero_le _, by simp, rfl, HN.out, fun i hi => by omega, HV.out, World.grownBy.refl _ _⟩
  case round =>
    obtain ⟨j, L, hj, rfl, rfl, H⟩ := hrel
    by_cases hlt : j < n
    · obtain ⟨g, hao⟩ := HC.out (by omega)
      subst hao
      have hL := H.out.1
      have hO : OwnR wr base (.slice (some ⟨g, 0, none⟩) L.length cap) L := by rw [hL]; exact H.out.2.2.1
      obtain ⟨c1, c2⟩ := hO.cell (j := j) (by omega)
      have fz := fun i => hO.frozen i
      obtain ⟨q, hq⟩ : ∃ q : Nat, k + 2 * j = q := ⟨_, rfl⟩
      have HNx : Hid (OwnR ((wr.setCell ⟨g, j * 2, none⟩ (.int .i64 (q : Int))).setCell ⟨g, j * 2 + 1, none⟩ (.int .i64 ((q + 1 : Nat) : Int))) base (.slice (some ⟨g, 0, none⟩) n cap) (L.set j ((q : Int), ((q + 1 : Nat) : Int))) ∧ w.grownBy ((wr.setCell ⟨g, j * 2, none⟩ (.int .i64 (q : Int))).setCell ⟨g, j * 2 + 1, none⟩ (.int .i64 ((q + 1 : Nat) : Int))) (some g)) := by
        refine ⟨?_, grown_trans H.out.2.2.2 (hO.grown_set rfl j _ _)⟩
        have := hO.set j ((q : Int), ((q + 1 : Nat) : Int))
        rw [List.length_set, hL] at this
        exact this
      have HLs : Hid (∀ i, i < j + 1 → (L.set j ((q : Int), ((q + 1 : Nat) : Int))).getD i (0, 0) = (((k + 2 * i : Nat) : Int), ((k + 2 * i + 1 : Nat) : Int))) := fun i hi => by
        by_cases e : i = j
        · subst e
          rw [hq]
          simp [List.getD, show i < L.length by omega]
        · have := H.out.2.1 i (by omega)
          rw [← this]
          simp [List.getD, List.getElem?_set_ne (show j ≠ i by omega)]
      have HLl : Hid ((L.set j ((q : Int), ((q + 1 : Nat) : Int))).length = n) := by show _ = n; rw [List.length_set]; exact hL
      have hqb : q ≤ 2000000000 := by omega
      have HQ : Hid (k + 2 * (j + 1) = q + 1 + 1) := by show k + 2 * (j + 1) = q + 1 + 1; omega
      rw [hq]
      have q1 : IntKind.i64.wrap ((q : Int) + 1) = ((q + 1 : Nat) : Int) := by rw [IntKind.wrap_i64]; omega
      have q2 : IntKind.i64.wrap (((q + 1 : Nat) : Int) + 1) = ((q + 1 + 1 : Nat) : Int) := by rw [IntKind.wrap_i64]; omega
      obtain ⟨Q1, hQ1⟩ : ∃ z : Int, ((q + 1 : Nat) : Int) = z := ⟨_, rfl⟩
      obtain ⟨Q2, hQ2⟩ : ∃ z : Int, ((q + 1 + 1 : Nat) : Int) = z := ⟨_, rfl⟩
      have HQ2 : Hid (((q + 1 + 1 : Nat) : Int) = Q2) := hQ2
      rw [hQ1] at q1 q2 HNx HLs HLl
      rw [hQ2] at q2
      clear hQ1 hQ2 hq H hO hL
      generalize (L.getD j (0, 0)).1 = x0 at *
      generalize (L.getD j (0, 0)).2 = y0 at *
      have hji : (j : Int) < (n : Int) := by omega
      have hj0 : (0 : Int) ≤ (j : Int) := by omega
      go_wp2_with fail
      go_roundw
      case rel => exact ⟨j + 1, _, by omega, by rw [HQ.out, HQ2.out], by go_num, HLl.out, HLs.out, HNx.out.1, HNx.out.2⟩
      case measure => simp [intOf]; omega
    · have hjn : j = n := by omega
      subst hjn
      have HE : Hid (L = marksR k j) := by
        refine List.ext_getElem (by rw [marksR_len]; exact H.out.1) fun i h1 h2 => ?_
        have := H.out.2.1 i (by have := H.out.1; omega)
        simp only [List.getD, List.getElem?_eq_getElem h1, Option.getD_some] at this
        rw [this]
        simp [marksR]
      go_wp2_with fail
      go_ret
      refine ⟨rfl, ?_, H.out.2.2.2⟩
      rw [← HE.out]
      exact H.out.2.2.1
set_option maxHeartbeats 1600000 in
set_option maxRecDepth 100000 in
theorem heldR_same (v : Value) (n k : Nat) (w : World) (hn : n ≤ 100000000) (hk : k ≤ 1000000000) (hv : RevAt w v (marksR k n)) :
    Calls Try.prog 31 #[v, .int .i64 k] w fun e w' => e = .returned (.int .i64 (((k + 2 * n : Nat)) : Int)) ∧ Below w.heap.size w w' := by
  obtain ⟨ao, cap, rfl, hc⟩ := hv
  rw [marksR_len] at hc ⊢
  have HC : Hid (∀ j, j < n → ∃ g, ao = some ⟨g, 0, none⟩ ∧ g < w.heap.size ∧ w.cell? ⟨g, j * 2, none⟩ = some (.int .i64 ((k + 2 * j : Nat) : Int)) ∧ w.cell? ⟨g, j * 2 + 1, none⟩ = some (.int .i64 ((k + 2 * j + 1 : Nat) : Int))) := fun j hj => by
    have := hc j hj
    rw [marksR_getD hj] at this
    exact this
  clear hc
  go_enter Try.func31, Try.ntmps31
  go_wp2_with fail
  go_loopw [1, 5] (fun kv iv wr => ∃ j : Nat, j ≤ n ∧ kv = .int .i64 ((k + 2 * j : Nat) : Int) ∧ iv = .int .i64 j ∧ wr = w) (fun _ iv _ => n - (intOf iv).toNat)
  case atStart => exact ⟨0, Nat.zero_le _, by simp, rfl, rfl⟩
  case round =>
    obtain ⟨j, hj, rfl, rfl, rfl⟩ := hrel
    by_cases hlt : j < n
    · obtain ⟨g, hao, hg, c1, c2⟩ := HC.out j hlt
      subst hao
      obtain ⟨q, hq⟩ : ∃ q : Nat, k + 2 * j = q := ⟨_, rfl⟩
      have hqb : q ≤ 2000000000 := by omega
      have HQ : Hid (k + 2 * (j + 1) = q + 1 + 1) := by show k + 2 * (j + 1) = q + 1 + 1; omega
      rw [hq] at c1 c2 ⊢
      have q1 : IntKind.i64.wrap ((q : Int) + 1) = ((q + 1 : Nat) : Int) := by rw [IntKind.wrap_i64]; omega
      have q2 : IntKind.i64.wrap (((q + 1 : Nat) : Int) + 1) = ((q + 1 + 1 : Nat) : Int) := by rw [IntKind.wrap_i64]; omega
      obtain ⟨Q1, hQ1⟩ : ∃ z : Int, ((q + 1 : Nat) : Int) = z := ⟨_, rfl⟩
      obtain ⟨Q2, hQ2⟩ : ∃ z : Int, ((q + 1 + 1 : Nat) : Int) = z := ⟨_, rfl⟩
      have HQ2 : Hid (((q + 1 + 1 : Nat) : Int) = Q2) := hQ2
      rw [hQ1] at q1 q2 c2
      rw [hQ2] at q2
      clear hQ1 hQ2 hq
      have hji : (j : Int) < (n : Int) := by omega
      have hj0 : (0 : Int) ≤ (j : Int) := by omega
      go_wp2_with fail
      go_roundw
      case rel => exact ⟨j + 1, by omega, by rw [HQ.out, HQ2.out], by go_num, by first | rfl | trivial⟩
      case measure => simp [intOf]; omega
    · have hjn : j = n := by omega
      subst hjn
      go_wp2_with fail
      go_ret
      exact ⟨rfl, Below.refl _ _⟩
end Go.Proofs.Ytbfbaofjkefmmaa

/-
  The laws' toCrl, szCrl, eqCrl, markCrl, heldCrl.
-/
namespace Go.Proofs.Ytbfbaofjkefmmaa
open Go.RowKit
set_option linter.unusedVariables false

set_option maxHeartbeats 6400000 in
set_option maxRecDepth 100000 in
theorem eqCrl_same (c : Cl) (a b : Value) (w : World) (hl : c.revs.length ≤ 1000000000) (ha : ClAt w a c) (hb : ClAt w b c) :
    Calls Try.prog 8 #[a, b] w fun e w' => e = .returned (.bool true) ∧ Below w.heap.size w w' := by
  obtain ⟨pv, rfl, h1⟩ := ha
  obtain ⟨pu, rfl, k1⟩ := hb
  have HQ : Hid (∀ W, Below w.heap.size w W → Calls Try.prog 29 #[pv, pu] W (fun e w' => e = .returned (.bool true) ∧ Below W.heap.size W w')) := fun W hb => eqRevS_same pv pu c.revs W hl (h1.below hb) (k1.below hb)
  obtain ⟨lp, hlp⟩ : ∃ l, c.revs.length = l := ⟨_, rfl⟩
  obtain ⟨pa, pc, hpa, _⟩ := h1
  obtain ⟨pb, qc, hpb, _⟩ := k1
  rw [hlp] at hpa hpb
  subst hpa hpb
  clear hlp hl
  unfold clV
  go_enter Try.func8, Try.ntmps8
  go_wp2_with fail
  obtain ⟨V, hV⟩ : ∃ V, V = (w.alloc (Obj.cells #[.string c.issuer, .int .i64 c.num, .int .i64 c.ths, .int .i64 c.nxt, .int .i64 c.bas, .slice pa lp pc, .string c.sig] 24)).alloc (Obj.cells #[.string c.issuer, .int .i64 c.num, .int .i64 c.ths, .int .i64 c.nxt, .int .i64 c.bas, .slice pb lp qc, .string c.sig] 24) := ⟨_, rfl⟩
  rw [← hV]
  have G : Hid (Blk V w.heap.size 24 #[.string c.issuer, .int .i64 c.num, .int .i64 c.ths, .int .i64 c.nxt, .int .i64 c.bas, .slice pa lp pc, .string c.sig] ∧ Blk V (w.heap.size + 1) 24 #[.string c.issuer, .int .i64 c.num, .int .i64 c.ths, .int .i64 c.nxt, .int .i64 c.bas, .slice pb lp qc, .string c.sig] ∧ Below w.heap.size w V ∧ w.heap.size + 1 < V.heap.size) := by
    have e0 : (w.alloc (Obj.cells #[.string c.issuer, .int .i64 c.num, .int .i64 c.ths, .int .i64 c.nxt, .int .i64 c.bas, .slice pa lp pc, .string c.sig] 24)).heap.size = w.heap.size + 1 := Array.size_push _
    have h := Blk.new (w.alloc (Obj.cells #[.string c.issuer, .int .i64 c.num, .int .i64 c.ths, .int .i64 c.nxt, .int .i64 c.bas, .slice pa lp pc, .string c.sig] 24)) 24 #[.string c.issuer, .int .i64 c.num, .int .i64 c.ths, .int .i64 c.nxt, .int .i64 c.bas, .slice pb lp qc, .string c.sig]
    rw [e0] at h
    rw [hV]
    exact ⟨(Blk.new w _ _).alloc _, h, ((Below.refl _ _).alloc (Nat.le_refl _) _).alloc (by rw [e0]; omega) _, by rw [size_alloc, e0]; omega⟩
  clear hV
  refine (HQ.out V G.out.2.2.1).mono ?_
  rintro e V2 ⟨rfl, hb⟩
  have G2 : Hid (Blk V2 w.heap.size 24 #[.string c.issuer, .int .i64 c.num, .int .i64 c.ths, .int .i64 c.nxt, .int .i64 c.bas, .slice pa lp pc, .string c.sig] ∧ Blk V2 (w.heap.size + 1) 24 #[.string c.issuer, .int .i64 c.num, .int .i64 c.ths, .int .i64 c.nxt, .int .i64 c.bas, .slice pb lp qc, .string c.sig] ∧ Below w.heap.size w V2 ∧ w.heap.size + 1 < V2.heap.size) := ⟨G.out.1.below hb (by have := G.out.2.2.2; omega), G.out.2.1.below hb G.out.2.2.2, G.out.2.2.1.trans (hb.mono G.out.2.2.1.size), Nat.lt_of_lt_of_le G.out.2.2.2 hb.size⟩
  clear hb G
  have ca : V2.cell? ⟨w.heap.size, 6, none⟩ = some (.string c.sig) := G2.out.1.cell 6
  have cb : V2.cell? ⟨w.heap.size + 1, 6, none⟩ = some (.string c.sig) := G2.out.2.1.cell 6
  go_wp2_with fail
  go_ret
  exact ⟨rfl, G2.out.2.2.1⟩
/-- A list whose row is marked from k on. -/
def mkL (k : Nat) (c : Cl) : Cl := { c with revs := marksR k c.revs.length }
/-- The block that a list's row takes. -/
def fpL (v : Value) : List Nat := match v with
  | .agg a => (a.getD 5 (.slice none 0 0)).ownBlock.toList
  | _ => []
theorem fpL_mem {c : Cl} {p : Value} {g : Nat} : g ∈ fpL (clV c p) ↔ p.ownBlock = some g := by
  show g ∈ p.ownBlock.toList ↔ _
  simp [Option.mem_toList]
theorem fpL_lt {w : World} {base : Nat} {v : Value} {c : Cl} (h : OwnL w base v c) : ∀ b ∈ fpL v, base ≤ b ∧ b < w.heap.size := by
  obtain ⟨p, rfl, h1⟩ := h
  intro b hb
  exact World.ownsRow.lt h1 b (fpL_mem.1 hb)
theorem OwnL.out {w w' : World} {base : Nat} {v : Value} {c : Cl} {fp : List Nat} (h : OwnL w base v c) (ho : Out fp w w') (hn : ∀ b ∈ fpL v, b ∉ fp) : OwnL w' base v c := by
  obtain ⟨p, rfl, h1⟩ := h
  exact ⟨p, rfl, ho.row (fun g hg => hn g (fpL_mem.2 hg)) h1⟩
set_option maxHeartbeats 3200000 in
set_option maxRecDepth 100000 in
theorem markCrl_out (c : Cl) (v : Value) (k base : Nat) (w : World) (hl : c.revs.length ≤ 20000000) (hk : k ≤ 100000000) (ha : OwnL w base v c) :
    Calls Try.prog 9 #[v, .int .i64 k] w fun e w' => e = .returned (.int .i64 (((k + 2 * c.revs.length : Nat)) : Int)) ∧ OwnL w' base v (mkL k c) ∧ Out (fpL v) w w' := by
  obtain ⟨p, rfl, h1⟩ := ha
  obtain ⟨ap, cp, hp⟩ : ∃ ao cap, p = .slice ao c.revs.length cap := by obtain ⟨ao, cap, h, _⟩ := h1.at; exact ⟨ao, cap, h⟩
  obtain ⟨lp, hlp⟩ : ∃ l, c.revs.length = l := ⟨_, rfl⟩
  rw [hlp] at hp
  subst hp
  have HB : Hid (∀ g, (Value.slice ap lp cp).ownBlock = some g → g < w.heap.size) := fun g hg => (World.ownsRow.lt h1 g hg).2
  have HA : Hid (OwnR w base (.slice ap lp cp) c.revs ∧ c.revs.length = lp) := ⟨h1, hlp⟩
  rw [hlp] at hl
  have hm : mkL k c = { c with revs := marksR k lp } := by unfold mkL; rw [hlp]
  rw [hm, hlp]
  clear h1 hm hlp
  unfold clV
  go_enter Try.func9, Try.ntmps9
  go_wp2_with fail
  obtain ⟨V, hV⟩ : ∃ V, V = w.alloc (Obj.cells #[.string c.issuer, .int .i64 c.num, .int .i64 c.ths, .int .i64 c.nxt, .int .i64 c.bas, .slice ap lp cp, .string c.sig] 24) := ⟨_, rfl⟩
  rw [← hV]
  have G : Hid (Out (fpL (clV c (.slice ap lp cp))) w V ∧ OwnR V base (.slice ap lp cp) c.revs) := by
    have hb : Below w.heap.size w V := by rw [hV]; exact (Below.refl _ _).alloc (Nat.le_refl _) _
    exact ⟨Out.of_below hb, HA.out.1.stays hb⟩
  clear hV
  have E0 := markR_any (.slice ap lp cp) c.revs k base V (by rw [HA.out.2]; omega) (by omega) G.out.2
  rw [HA.out.2] at E0
  refine E0.mono ?_
  rintro r u0 ⟨rfl, ho, hg⟩
  have G0 : Hid (Out (fpL (clV c (.slice ap lp cp))) w u0 ∧ OwnR u0 base (.slice ap lp cp) (marksR k lp)) := ⟨G.out.1.grown hg (fun q hq => fpL_mem.2 hq), ho⟩
  clear ho hg G E0
  obtain ⟨KK, hKK⟩ : ∃ K : Int, ((k + 2 * lp : Nat) : Int) = K := ⟨_, rfl⟩
  rw [hKK]
  have HKK : Hid (((k + 2 * lp : Nat) : Int) = KK) := hKK
  clear hKK
  go_wp2_with fail
  go_ret
  exact ⟨by rw [HKK.out]; rfl, ⟨_, rfl, G0.out.2⟩, G0.out.1⟩
set_option maxHeartbeats 3200000 in
set_option maxRecDepth 100000 in
theorem heldCrl_same (c : Cl) (v : Value) (k : Nat) (w : World) (hl : c.revs.length ≤ 20000000) (hk : k ≤ 100000000) (ha : ClAt w v (mkL k c)) :
    Calls Try.prog 10 #[v, .int .i64 k] w fun e w' => e = .returned (.int .i64 (((k + 2 * c.revs.length : Nat)) : Int)) ∧ Below w.heap.size w w' := by
  obtain ⟨p, rfl, h1⟩ := ha
  change RevAt w p (marksR k c.revs.length) at h1
  obtain ⟨ap, cp, hp⟩ : ∃ ao cap, p = .slice ao c.revs.length cap := by obtain ⟨ao, cap, h, _⟩ := h1; exact ⟨ao, cap, by rw [marksR_len] at h; exact h⟩
  obtain ⟨lp, hlp⟩ : ∃ l, c.revs.length = l := ⟨_, rfl⟩
  rw [hlp] at hp
  subst hp
  rw [hlp] at h1 hl ⊢
  obtain ⟨KK, hKK⟩ : ∃ K : Int, ((k + 2 * lp : Nat) : Int) = K := ⟨_, rfl⟩
  have hK0 : ¬ KK < 0 := by omega
  have HQ : Hid (∀ W, Below w.heap.size w W → Calls Try.prog 31 #[.slice ap lp cp, .int .i64 (k : Int)] W (fun e w' => e = .returned (.int .i64 KK) ∧ Below W.heap.size W w')) := fun W hb => by rw [← hKK]; exact heldR_same _ lp k W (by omega) (by omega) (h1.below hb)
  rw [hKK]
  clear h1 hlp hKK
  show Calls Try.prog 10 #[clV c (.slice ap lp cp), .int .i64 k] w _
  unfold clV
  go_enter Try.func10, Try.ntmps10
  go_wp2_with fail
  obtain ⟨V, hV⟩ : ∃ V, V = w.alloc (Obj.cells #[.string c.issuer, .int .i64 c.num, .int .i64 c.ths, .int .i64 c.nxt, .int .i64 c.bas, .slice ap lp cp, .string c.sig] 24) := ⟨_, rfl⟩
  rw [← hV]
  have G : Hid (Below w.heap.size w V) := by rw [hV]; exact (Below.refl _ _).alloc (Nat.le_refl _) _
  clear hV
  refine (HQ.out V G.out).mono ?_
  rintro r u0 ⟨rfl, hb⟩
  have G0 : Hid (Below w.heap.size w u0) := G.out.trans (hb.mono G.out.size)
  clear hb G
  go_wp2_with fail
  go_ret
  exact ⟨rfl, G0.out⟩
end Go.Proofs.Ytbfbaofjkefmmaa
