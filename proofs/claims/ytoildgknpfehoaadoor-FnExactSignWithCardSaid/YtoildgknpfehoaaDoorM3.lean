/-
  Texts of the proof, one behind the other: NatB, NatF.
-/
import Derived.Laws.OwnMore
import Derived.Deep.Cut
import Derived.Deep.QuietTactic
import Derived.BigQuiet
import Derived.Test.YtoildgknpfehoaaDoorM2

/-
  Rows of numbers that a call owns: what is read, stored and cut there.
-/
namespace Go.Proofs.YtoildgknpfehoaaDoor
open Go.RowKit

theorem info3 : (Tryd.prog.info? 3).map (fun i => (i.zero, i.size, i.bytes)) = some (some (.int .i64 0), 1, 8) := by kernel_rfl
theorem one_int (x : Int) : ∀ u ∈ [Value.int .i64 x], u.oneCell' = true := by
  intro u hu
  simp at hu
  subst hu; rfl
theorem size_ok {n : Nat} {w : World} (h : n ≤ w.heap.size) (o : Obj) : n ≤ (w.alloc o).heap.size := by simp; omega

/-- A list of numbers that a call owns. -/
def OwnI (w : World) (base : Nat) (v : Value) (l : List Int) : Prop := w.ownsRow base 3 1 v l.length (cellsI l)
theorem cellsI_len (l : List Int) : (cellsI l).length = l.length := by simp [cellsI]
theorem cellsI_set (l : List Int) (k : Nat) (x : Int) : (cellsI l).set k (.int .i64 x) = cellsI (l.set k x) := by simp [cellsI]
theorem cellsI_append (a b : List Int) : cellsI (a ++ b) = cellsI a ++ cellsI b := by simp [cellsI]
theorem cellsI_take (l : List Int) (k : Nat) : (cellsI l).take k = cellsI (l.take k) := by simp [cellsI]
theorem cellsI_getD {l : List Int} {j : Nat} (h : j < l.length) : (cellsI l)[j]? = some (.int .i64 (l.getD j 0)) := by simp [cellsI, List.getD, h]

theorem OwnI.at {w : World} {base : Nat} {v : Value} {l : List Int} (h : OwnI w base v l) : IntAt w v l := IntAt.of_own h
theorem OwnI.stays {w w' : World} {base : Nat} {v : Value} {l : List Int} (h : OwnI w base v l) (hb : Below w.heap.size w w') : OwnI w' base v l := by
  obtain ⟨h1, h2⟩ := h
  refine ⟨h1, ?_⟩
  rcases h2 with h2 | ⟨g, cap, cur, hv, hbg, hg, r⟩
  · exact .inl h2
  · have hlt : g < w.heap.size := by
      rcases Nat.lt_or_ge g w.heap.size with h | h
      · exact h
      · rw [Array.getElem?_eq_none h] at hg; cases hg
    exact .inr ⟨g, cap, cur, hv, hbg, by rw [hb.block g hlt]; exact hg, r⟩
theorem OwnI.base {w : World} {b b' : Nat} {v : Value} {l : List Int} (h : OwnI w b v l) (hb : b' ≤ b) : OwnI w b' v l := by
  obtain ⟨h1, h2⟩ := h
  refine ⟨h1, ?_⟩
  rcases h2 with h2 | ⟨g, cap, cur, hv, hbg, r⟩
  · exact .inl h2
  · exact .inr ⟨g, cap, cur, hv, Nat.le_trans hb hbg, r⟩
theorem OwnI.drew {w : World} {base : Nat} {v : Value} {l : List Int} (h : OwnI w base v l) : OwnI w.drew base v l := World.ownsRow.drew h
theorem OwnI.nil (w : World) (base : Nat) : OwnI w base (.slice none 0 0) [] := World.ownsRow_nil _ _ _ _
theorem OwnI.shape {w : World} {base : Nat} {v : Value} {l : List Int} (h : OwnI w base v l) : ∃ ao cap, v = .slice ao l.length cap ∧ (0 < l.length → ∃ g, ao = some ⟨g, 0, none⟩) ∧ l.length ≤ cap ∧ cap ≤ maxLen := by
  rcases h.2 with ⟨h1, h0⟩ | ⟨g, cap, cur, hv, _, _, hn, hm, _⟩
  · exact ⟨none, 0, by rw [h1, h0], fun h => by omega, by omega, Nat.zero_le _⟩
  · exact ⟨some ⟨g, 0, none⟩, cap, hv, fun _ => ⟨g, rfl⟩, hn, hm⟩
theorem OwnI.cell {w : World} {base g cap : Nat} {l : List Int} (h : OwnI w base (.slice (some ⟨g, 0, none⟩) l.length cap) l) {j : Nat} (hj : j < l.length) : w.cell? ⟨g, j, none⟩ = some (.int .i64 (l.getD j 0)) := by
  rw [World.ownsRow.cellAt h j (by omega), cellsI_getD hj]
theorem OwnI.frozen {w : World} {base g cap : Nat} {l : List Int} (h : OwnI w base (.slice (some ⟨g, 0, none⟩) l.length cap) l) (j : Nat) : w.frozen? ⟨g, j, none⟩ = false := World.ownsRow.frozenAt h j
theorem OwnI.lt {w : World} {base g cap : Nat} {l : List Int} (h : OwnI w base (.slice (some ⟨g, 0, none⟩) l.length cap) l) : base ≤ g ∧ g < w.heap.size := World.ownsRow.lt h g rfl
theorem OwnI.set {w : World} {base g cap : Nat} {l : List Int} (h : OwnI w base (.slice (some ⟨g, 0, none⟩) l.length cap) l) (j : Nat) (x : Int) :
    OwnI (w.setCell ⟨g, j, none⟩ (.int .i64 x)) base (.slice (some ⟨g, 0, none⟩) (l.set j x).length cap) (l.set j x) := by
  have := (World.ownsRow.stored h j (.int .i64 x)).1
  rw [cellsI_set] at this
  unfold OwnI
  rw [List.length_set]
  exact this
theorem OwnI.take {w : World} {base g cap : Nat} {l : List Int} (h : OwnI w base (.slice (some ⟨g, 0, none⟩) l.length cap) l) {k : Nat} (hk : k ≤ l.length) :
    OwnI w base (.slice (some ⟨g, 0, none⟩) k cap) (l.take k) := by
  have hl : (l.take k).length = k := by simp; omega
  unfold OwnI
  rw [hl]
  refine ⟨by rw [cellsI_len, hl, Nat.mul_one], ?_⟩
  rcases h.2 with ⟨h1, _⟩ | ⟨g', cap', cur, hv, hbg, hg, hn, hm, hs, ht⟩
  · simp at h1
  · simp only [Value.slice.injEq, Option.some.injEq, Addr.mk.injEq, and_true, true_and] at hv
    obtain ⟨rfl, rfl⟩ := hv
    refine .inr ⟨g, cap, cur, rfl, hbg, hg, by omega, hm, hs, ?_⟩
    rw [← cellsI_take, ← ht, List.take_take]
    congr 1
    omega
theorem grown_trans {a b c : World} {row : Option Nat} (h1 : a.grownBy b row) (h2 : b.grownBy c row) : a.grownBy c row :=
  ⟨h2.os.trans h1.os, h2.tape.trans h1.tape, h2.output.trans h1.output, Nat.le_trans h1.size h2.size, fun k hk hr => (h2.block k (Nat.lt_of_lt_of_le hk h1.size) hr).trans (h1.block k hk hr)⟩
theorem grown_set (w : World) (g j : Nat) (u : Value) : w.grownBy (w.setCell ⟨g, j, none⟩ u) (some g) :=
  ⟨rfl, rfl, rfl, by simp [World.setCell], fun k _ hk => heap_setCell_other w ⟨g, j, none⟩ k u (fun e => hk (by simp [e]))⟩
theorem OwnI.kept {w w' : World} {base g n cap : Nat} {l : List Int} {row : Option Nat} (h : OwnI w base (.slice (some ⟨g, 0, none⟩) n cap) l) (hg : w.grownBy w' row) (hne : some g ≠ row) : OwnI w' base (.slice (some ⟨g, 0, none⟩) n cap) l :=
  World.ownsRow.kept h hg (.inr hne)
theorem below_of_grown {w w' : World} {g base : Nat} (hg : w.grownBy w' (some g)) (hb : base ≤ g) (hgl : g < w.heap.size) : Below base w w' :=
  (Below.refl _ _).grown hg (by omega) (fun k hk => by cases hk; exact hb)
/-- A new row of zeros. -/
theorem made_zeros (n : Nat) : (madeCells #[Value.int .i64 0] n).toList = cellsI (List.replicate n 0) := by
  apply List.ext_getElem (by simp [madeCells, cellsI])
  intro j h1 h2
  simp [madeCells, cellsI, Nat.mod_one]
theorem OwnI.of_made {w : World} {base g n : Nat} (h : w.ownsRow base 3 1 (.slice (some ⟨g, 0, none⟩) n n) n (madeCells #[Value.int .i64 0] n).toList) :
    OwnI w base (.slice (some ⟨g, 0, none⟩) (List.replicate n (0 : Int)).length n) (List.replicate n 0) := by
  rw [made_zeros] at h
  unfold OwnI
  rw [List.length_replicate]
  exact h
/-- A list of numbers can be read at a value, in memory below a bound. -/
def IntLo (B : Nat) (w : World) (v : Value) (l : List Int) : Prop := ∃ ao cap, v = .slice ao l.length cap ∧ (0 < l.length → ∃ g, ao = some ⟨g, 0, none⟩ ∧ g < B ∧ ∀ j (hj : j < l.length), w.cell? ⟨g, j, none⟩ = some (.int .i64 l[j]))
theorem IntAt.lo {w : World} {v : Value} {l : List Int} (h : IntAt w v l) : IntLo w.heap.size w v l := h
theorem IntLo.at {B : Nat} {w : World} {v : Value} {l : List Int} (h : IntLo B w v l) (hB : B ≤ w.heap.size) : IntAt w v l := by
  obtain ⟨ao, cap, hv, h⟩ := h
  exact ⟨ao, cap, hv, fun hl => by obtain ⟨g, hg, hlt, hc⟩ := h hl; exact ⟨g, hg, by omega, hc⟩⟩
theorem IntLo.below {B : Nat} {w w' : World} {v : Value} {l : List Int} (h : IntLo B w v l) (hb : Below B w w') : IntLo B w' v l := by
  obtain ⟨ao, cap, hv, h⟩ := h
  refine ⟨ao, cap, hv, fun hl => ?_⟩
  obtain ⟨g, hg, hlt, hc⟩ := h hl
  exact ⟨g, hg, hlt, fun j hj => by rw [hb.cell (p := ⟨g, j, none⟩) hlt]; exact hc j hj⟩
theorem IntLo.mono {B B' : Nat} {w : World} {v : Value} {l : List Int} (h : IntLo B w v l) (hb : B ≤ B') : IntLo B' w v l := by
  obtain ⟨ao, cap, hv, h⟩ := h
  exact ⟨ao, cap, hv, fun hl => by obtain ⟨g, hg, hlt, hc⟩ := h hl; exact ⟨g, hg, by omega, hc⟩⟩
/-- Where a place is in a list, or 0. -/
def atI (l : List Int) (p : Int) : Int := if p < 0 then 0 else l.getD p.toNat 0
theorem atI_nat (l : List Int) (p : Nat) : atI l (p : Int) = l.getD p 0 := by simp [atI]; omega
theorem atI_neg (l : List Int) {p : Int} (h : p < 0) : atI l p = 0 := by simp [atI, h]
theorem OwnI.cut {w : World} {base : Nat} {ao : Option Addr} {cap : Nat} {l : List Int} (h : OwnI w base (.slice ao l.length cap) l) {k : Nat} (hk : k ≤ l.length) :
    OwnI w base (.slice ao k cap) (l.take k) := by
  rcases h.2 with ⟨h1, h0⟩ | ⟨g', cap', cur, hv, _⟩
  · simp only [Value.slice.injEq] at h1
    obtain ⟨rfl, h2, rfl⟩ := h1
    obtain rfl : k = 0 := by omega
    simpa using OwnI.nil w base
  · simp only [Value.slice.injEq, true_and] at hv
    obtain ⟨rfl, rfl⟩ := hv
    exact h.take hk
theorem trim_digs {l : List Int} {k : Nat} (hd : Dig l) (hk : k ≤ l.length) (hz : ∀ j, k ≤ j → l.getD j 0 = 0) (ht : k = 0 ∨ l.getD (k - 1) 0 ≠ 0) : l.take k = digs (ev l) := by
  refine eq_digs_of (hd.take k) ?_ (ev_zeros hz)
  intro h
  have hl : (l.take k).length = k := by simp; omega
  rw [hl] at h ⊢
  rw [getD_take (by omega)]
  rcases ht with rfl | ht
  · omega
  · exact ht

set_option maxHeartbeats 800000 in
set_option maxRecDepth 100000 in
theorem at_any (v : Value) (l : List Int) (p : Int) (w : World) (hl : l.length ≤ 1000000000) (hv : IntAt w v l) : Calls Tryd.prog 44 #[v, .int .i64 p] w fun e w' => e = .returned (.int .i64 (atI l p)) ∧ w = w' := by
  obtain ⟨ao, cap, rfl, hc⟩ := hv
  by_cases h0 : p < 0
  · rw [atI_neg l h0]
    clear hc
    go_enter Tryd.func44, Tryd.ntmps44
    go_wp2
    go_ret
    exact ⟨rfl, rfl⟩
  · obtain ⟨q, rfl⟩ : ∃ q : Nat, p = (q : Int) := ⟨p.toNat, by omega⟩
    rw [atI_nat]
    by_cases h1 : q < l.length
    · obtain ⟨g, rfl, hgl, hcs⟩ := hc (by omega)
      have hu : w.cell? ⟨g, q, none⟩ = some (.int .i64 (l.getD q 0)) := by rw [hcs q h1]; simp [List.getD, h1]
      clear hcs hc
      generalize l.getD q 0 = x at *
      go_enter Tryd.func44, Tryd.ntmps44
      go_wp2
      go_ret
      exact ⟨rfl, rfl⟩
    · rw [getD_past (by omega)]
      clear hc
      go_enter Tryd.func44, Tryd.ntmps44
      go_wp2
      go_ret
      exact ⟨rfl, rfl⟩

set_option maxHeartbeats 800000 in
set_option maxRecDepth 100000 in
theorem trimmed_any (v : Value) (l : List Int) (base : Nat) (w : World) (hl : l.length ≤ 1000000000) (hd : Dig l) (hv : OwnI w base v l) : Calls Tryd.prog 68 #[v] w fun e w' => ∃ v', e = .returned v' ∧ OwnI w' base v' (digs (ev l)) ∧ Below w.heap.size w w' := by
  obtain ⟨ao, cap, rfl, hc, hcap, hcm⟩ := hv.shape
  unfold maxLen at hcm
  have HC : Hid (0 < l.length → ∃ g, ao = some ⟨g, 0, none⟩) := hc
  have HV : Hid (OwnI w base (.slice ao l.length cap) l) := hv
  clear hc hv
  go_enter Tryd.func68, Tryd.ntmps68
  go_wp2
  go_loopw [3] (fun s wr => ∃ k : Nat, k ≤ l.length ∧ s = .int .i64 k ∧ w = wr ∧ Hid (∀ j, k ≤ j → l.getD j 0 = 0)) (fun s _ => (intOf s).toNat)
  case atStart => exact ⟨l.length, Nat.le_refl _, rfl, rfl, fun j hj => getD_past hj⟩
  case round =>
    obtain ⟨k, hk, rfl, rfl, HZ⟩ := hrel
    by_cases h0 : k = 0
    · subst h0
      have hend : OwnI w base (.slice ao 0 cap) (digs (ev l)) := by
        have e := trim_digs hd hk HZ.out (.inl rfl)
        rw [← e]
        exact OwnI.cut HV.out hk
      have HE : Hid (OwnI w base (.slice ao 0 cap) (digs (ev l))) := hend
      clear hend
      go_wp2
      go_ret
      exact ⟨_, rfl, HE.out, Below.refl _ _⟩
    · obtain ⟨g, rfl⟩ := HC.out (by omega)
      obtain ⟨m, rfl⟩ : ∃ m, k = m + 1 := ⟨k - 1, by omega⟩
      have hu := HV.out.cell (j := m) (by omega)
      have em : (m + 1 : Nat) - 1 = m := by omega
      obtain ⟨x, hx⟩ : ∃ x, l.getD m 0 = x := ⟨_, rfl⟩
      rw [hx] at hu
      have HX : Hid (l.getD m 0 = x) := hx
      clear hx
      by_cases hz : x = 0
      · subst hz
        go_wp2
        go_roundw
        case rel => exact ⟨m, by omega, by go_num, by trivial, fun j hj => by
          by_cases e : j = m
          · rw [e]; exact HX.out
          · exact HZ.out j (by omega)⟩
        case measure => simp [intOf]
      · have hz' : (x == 0) = false := by simpa using hz
        have hend : OwnI w base (.slice (some ⟨g, 0, none⟩) (m + 1) cap) (digs (ev l)) := by
          have e := trim_digs hd hk HZ.out (.inr (by rw [Nat.add_sub_cancel, HX.out]; exact hz))
          rw [← e]
          exact OwnI.cut HV.out hk
        have HE : Hid (OwnI w base (.slice (some ⟨g, 0, none⟩) (m + 1) cap) (digs (ev l))) := hend
        clear hend
        go_wp2
        go_ret
        exact ⟨_, rfl, HE.out, Below.refl _ _⟩
end Go.Proofs.YtoildgknpfehoaaDoor

/-
  The program's compare and right.
-/
namespace Go.Proofs.YtoildgknpfehoaaDoor
open Go.RowKit
set_option maxHeartbeats 1600000 in
set_option maxRecDepth 100000 in
theorem compare_any (a b : Value) (la lb : List Int) (w : World) (hl : la.length ≤ 1000000) (hl2 : lb.length ≤ 1000000) (hda : Dig la) (hdb : Dig lb) (ha : IntAt w a la) (hb : IntAt w b lb) :
    Calls Tryd.prog 61 #[a, b] w fun e w' => e = .returned (.int .i64 (cmpI (ev la) (ev lb))) ∧ Below w.heap.size w w' := by
  have HA : Hid (IntAt w a la ∧ Dig la) := ⟨ha, hda⟩
  have HB : Hid (IntAt w b lb ∧ Dig lb) := ⟨hb, hdb⟩
  obtain ⟨ao, ac, hae, HA0⟩ := ha
  obtain ⟨bo, bc, hbe, HB0⟩ := hb
  subst hae hbe
  clear hda hdb
  go_enter Tryd.func61, Tryd.ntmps61
  go_wp2
  all_goals (
    clear HA0 HB0
    go_loopw [5] (fun s wr => ∃ z : Int, -1 ≤ z ∧ z < 1000000 ∧ s = .int .i64 z ∧ Below w.heap.size w wr ∧ Hid (∀ j : Nat, z < (j : Int) → la.getD j 0 = lb.getD j 0)) (fun s _ => (intOf s + 1).toNat)
    case atStart =>
      first
      | exact ⟨(lb.length : Int) - 1, by omega, by omega, rfl, Below.refl _ _, fun j hj => by rw [getD_past (by omega), getD_past (by omega)]⟩
      | exact ⟨(la.length : Int) - 1, by omega, by omega, rfl, Below.refl _ _, fun j hj => by rw [getD_past (by omega), getD_past (by omega)]⟩
    case round =>
      obtain ⟨z, hz1, hz2, rfl, hbel, HZ⟩ := hrel
      by_cases hz : z < 0
      · have e : Hid (ev la = ev lb) := ev_same fun j => HZ.out j (by omega)
        go_wp2
        go_ret
        exact ⟨congrArg (fun z => Ending.returned (Value.int .i64 z)) (cmpI_eq e.out).symm, hbel⟩
      · have EA := at_any (.slice ao la.length ac) la z wr (by omega) (HA.out.1.below hbel)
        have EB := at_any (.slice bo lb.length bc) lb z wr (by omega) (HB.out.1.below hbel)
        have ez : z = ((z.toNat : Nat) : Int) := by omega
        have HQ : Hid ((atI la z < atI lb z → cmpI (ev la) (ev lb) = -1) ∧ (atI lb z < atI la z → cmpI (ev la) (ev lb) = 1) ∧ (atI la z = atI lb z → ∀ j : Nat, z - 1 < (j : Int) → la.getD j 0 = lb.getD j 0)) := by
          rw [ez, atI_nat, atI_nat]
          exact ⟨fun h => cmpI_lt (ev_lt_at HA.out.2 HB.out.2 z.toNat (fun j hj => HZ.out j (by omega)) h), fun h => cmpI_gt (ev_lt_at HB.out.2 HA.out.2 z.toNat (fun j hj => (HZ.out j (by omega)).symm) h), fun h j hj => by
            by_cases e : j = z.toNat
            · rw [e]; exact h
            · exact HZ.out j (by omega)⟩
        clear HZ HA HB ez
        generalize atI la z = x at *
        generalize atI lb z = y at *
        go_wp2_with fail
        refine EA.mono ?_
        rintro e w' ⟨rfl, rfl⟩
        go_wp2_with fail
        refine EB.mono ?_
        rintro e w' ⟨rfl, rfl⟩
        go_wp2_with fail
        · have h1 : x < y := by assumption
          go_ret
          exact ⟨congrArg (fun z => Ending.returned (Value.int .i64 z)) (HQ.out.1 h1).symm, hbel⟩
        · refine EA.mono ?_
          rintro e w' ⟨rfl, rfl⟩
          go_wp2_with fail
          refine EB.mono ?_
          rintro e w' ⟨rfl, rfl⟩
          go_wp2_with fail
          · have h1 : y < x := by assumption
            go_ret
            exact ⟨congrArg (fun z => Ending.returned (Value.int .i64 z)) (HQ.out.2.1 h1).symm, hbel⟩
          · go_roundw
            case rel => exact ⟨z - 1, by omega, by omega, rfl, hbel, HQ.out.2.2 (by omega)⟩
            case measure => simp [intOf]; omega)
/-- A list is a right one. -/
def okL (l : List Int) : Bool := decide (l.length ≤ 40) && (l.all fun x => decide (0 ≤ x) && decide (x ≤ 9999)) && (l.length == 0 || !(l.getD (l.length - 1) 0 == 0))
theorem okL_iff (l : List Int) : okL l = true ↔ l.length ≤ 40 ∧ Dig l ∧ Top l := by
  unfold okL
  rw [Bool.and_eq_true, Bool.and_eq_true, decide_eq_true_iff, List.all_eq_true, Bool.or_eq_true, beq_iff_eq, Bool.not_eq_true', beq_eq_false_iff_ne]
  constructor
  · rintro ⟨⟨h1, h2⟩, h3⟩
    refine ⟨h1, fun x hx => ?_, fun h0 => ?_⟩
    · have := h2 x hx
      rw [Bool.and_eq_true, decide_eq_true_iff, decide_eq_true_iff] at this
      exact this
    · rcases h3 with h3 | h3
      · omega
      · exact h3
  · rintro ⟨h1, h2, h3⟩
    refine ⟨⟨h1, fun x hx => ?_⟩, ?_⟩
    · rw [Bool.and_eq_true, decide_eq_true_iff, decide_eq_true_iff]
      exact h2 x hx
    · by_cases h0 : l.length = 0
      · exact .inl h0
      · exact .inr (h3 (by omega))
theorem okL_yes {l : List Int} (h1 : l.length ≤ 40) (h2 : Dig l) (h3 : Top l) : okL l = true := (okL_iff l).2 ⟨h1, h2, h3⟩
theorem okL_no {l : List Int} (h : ¬ (l.length ≤ 40 ∧ Dig l ∧ Top l)) : okL l = false := by
  rcases e : okL l with _ | _
  · rfl
  · exact absurd ((okL_iff l).1 e) h
set_option maxHeartbeats 1600000 in
set_option maxRecDepth 100000 in
theorem right_any (a : Value) (la : List Int) (w : World) (hl : la.length ≤ 10000000) (ha : IntAt w a la) (hw : ∀ x ∈ la, -9223372036854775808 ≤ x ∧ x ≤ 9223372036854775807) :
    Calls Tryd.prog 42 #[a] w fun e w' => e = .returned (.bool (okL la)) ∧ Below w.heap.size w w' := by
  obtain ⟨ao, ac, rfl, ha⟩ := ha
  have HA : Hid ((0 < la.length → ∃ g, ao = some ⟨g, 0, none⟩ ∧ g < w.heap.size ∧ ∀ j (hj : j < la.length), w.cell? ⟨g, j, none⟩ = some (.int .i64 la[j])) ∧ ∀ x ∈ la, -9223372036854775808 ≤ x ∧ x ≤ 9223372036854775807) := ⟨ha, hw⟩
  clear ha hw
  by_cases h40 : la.length ≤ 40
  · have hq40 : ¬ (40 : Int) < (la.length : Int) := by omega
    go_enter Tryd.func42, Tryd.ntmps42
    go_wp2
    go_loopw [10] (fun iv wr => ∃ k : Nat, k ≤ la.length ∧ iv = .int .i64 k ∧ Below w.heap.size w wr ∧ Hid (∀ j, j < k → 0 ≤ la.getD j 0 ∧ la.getD j 0 ≤ 9999)) (fun iv _ => la.length - (intOf iv).toNat)
    case atStart => exact ⟨0, Nat.zero_le _, rfl, Below.refl _ _, fun j hj => by omega⟩
    case round =>
      obtain ⟨k, hk, rfl, hbel, HK⟩ := hrel
      by_cases hlt : k < la.length
      · obtain ⟨g, hao, hgl, hcs⟩ := HA.out.1 (by omega)
        have hu : wr.cell? ⟨g, k, none⟩ = some (.int .i64 (la.getD k 0)) := by
          rw [hbel.cell (p := ⟨g, k, none⟩) hgl, hcs k hlt]; simp [List.getD, hlt]
        subst hao
        clear hcs hgl
        have HX : Hid (∀ x, la.getD k 0 = x → (0 ≤ x ∧ x ≤ 9999 → ∀ j, j < k + 1 → 0 ≤ la.getD j 0 ∧ la.getD j 0 ≤ 9999) ∧ (¬ (0 ≤ x ∧ x ≤ 9999) → okL la = false)) := fun x hx => by
          refine ⟨fun h j hj => ?_, fun h => okL_no fun h3 => h (hx ▸ h3.2.1.getD k)⟩
          by_cases e : j = k
          · rw [e, hx]; exact h
          · exact HK.out j (by omega)
        have HX2 := HX.out _ rfl
        have HX3 : Hid ((0 ≤ la.getD k 0 ∧ la.getD k 0 ≤ 9999 → ∀ j, j < k + 1 → 0 ≤ la.getD j 0 ∧ la.getD j 0 ≤ 9999) ∧ (¬ (0 ≤ la.getD k 0 ∧ la.getD k 0 ≤ 9999) → okL la = false)) := HX2
        clear HX HX2 HK
        have hki : (k : Int) < (la.length : Int) := by omega
        have hk0 : (0 : Int) ≤ (k : Int) := by omega
        generalize la.getD k 0 = x at *
        by_cases h0 : x < 0
        · go_wp2
          go_ret
          exact ⟨congrArg (fun z => Ending.returned (Value.bool z)) (HX3.out.2 (by omega)).symm, hbel⟩
        · by_cases h1 : x ≤ 9999
          · have h1' : ¬ (10000 : Int) ≤ x := by omega
            go_wp2
            go_roundw
            case rel => exact ⟨k + 1, by omega, by go_num, hbel, HX3.out.1 ⟨by omega, h1⟩⟩
            case measure => simp [intOf]; omega
          · have h1' : (10000 : Int) ≤ x := by omega
            go_wp2
            go_ret
            exact ⟨congrArg (fun z => Ending.returned (Value.bool z)) (HX3.out.2 (by omega)).symm, hbel⟩
      · have hkl : k = la.length := by omega
        subst hkl
        by_cases hz : la.length = 0
        · have hz' : ((la.length : Int) == 0) = true := by simpa using hz
          have HE : Hid (okL la = true) := okL_yes h40 (dig_of_getD HK.out) (fun h => by omega)
          go_wp2
          go_ret
          exact ⟨congrArg (fun z => Ending.returned (Value.bool z)) HE.out.symm, hbel⟩
        · have hz' : ((la.length : Int) == 0) = false := by simpa using hz
          obtain ⟨g, hao, hgl, hcs⟩ := HA.out.1 (by omega)
          have hu : wr.cell? ⟨g, la.length - 1, none⟩ = some (.int .i64 (la.getD (la.length - 1) 0)) := by
            rw [hbel.cell (p := ⟨g, la.length - 1, none⟩) hgl, hcs (la.length - 1) (by omega)]; simp [List.getD, show la.length - 1 < la.length by omega]
          subst hao
          clear hcs hgl
          have HE : Hid ((la.getD (la.length - 1) 0 ≠ 0 → okL la = true) ∧ (la.getD (la.length - 1) 0 = 0 → okL la = false)) := ⟨fun h => okL_yes h40 (dig_of_getD HK.out) (fun _ => h), fun h => okL_no (fun h3 => h3.2.2 (by omega) h)⟩
          clear HK
          generalize la.getD (la.length - 1) 0 = x at *
          have hz1 : 1 ≤ la.length := by omega
          by_cases hx : x = 0
          · subst hx
            go_wp2
            go_ret
            exact ⟨congrArg (fun z => Ending.returned (Value.bool z)) (HE.out.2 trivial).symm, hbel⟩
          · have hx' : (x == 0) = false := by simpa using hx
            go_wp2
            go_ret
            exact ⟨congrArg (fun z => Ending.returned (Value.bool z)) (show (x != 0) = okL la by rw [HE.out.1 hx]; simp [hx]), hbel⟩
  · rw [okL_no (fun h => h40 h.1)]
    have hq40 : (40 : Int) < (la.length : Int) := by omega
    go_enter Tryd.func42, Tryd.ntmps42
    go_wp2
    go_ret
    exact ⟨rfl, Below.refl _ _⟩
end Go.Proofs.YtoildgknpfehoaaDoor
