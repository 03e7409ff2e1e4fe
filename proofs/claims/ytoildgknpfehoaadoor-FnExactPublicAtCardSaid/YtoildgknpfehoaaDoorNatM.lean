/-
  The program's naturalOf, ReadNat and NatFigures.
-/
import Derived.Test.YtoildgknpfehoaaDoorNatL
import Derived.Test.YtoildgknpfehoaaDoorFigI
import Derived.Test.YtoildgknpfehoaaDoorSpF
namespace Go.Proofs.YtoildgknpfehoaaDoor
open Go.RowKit

/-- A row of bytes can be read at a value. -/
def ByAt (w : World) (v : Value) (l : List Int) : Prop := ∃ ao cap, v = .slice ao l.length cap ∧ (0 < l.length → ∃ g, ao = some ⟨g, 0, none⟩ ∧ g < w.heap.size ∧ ∀ j, j < l.length → w.cell? ⟨g, j, none⟩ = some (.int .u8 (l.getD j 0)))
theorem horn_take_bd {b : Int} (hb : 1 ≤ b ∧ b ≤ 1000) {l : List Int} (h : ∀ x ∈ l, 0 ≤ x ∧ x < b) (k : Nat) (hk : k ≤ l.length) : 0 ≤ horn b (l.take k) ∧ (digs (horn b (l.take k))).length ≤ k := by
  have := horn_bd (b := b) (by omega) (l.take k) (fun x hx => h x (List.mem_of_mem_take hx))
  have hl : (l.take k).length = k := by simp; omega
  rw [hl] at this
  exact ⟨this.1, digs_len this.1 this.2⟩
theorem getD_mem {l : List Int} {k : Nat} (h : k < l.length) : l.getD k 0 ∈ l := by
  rw [List.getD_eq_getElem?_getD, List.getElem?_eq_getElem h]
  exact List.getElem_mem _

set_option maxHeartbeats 1600000 in
set_option maxRecDepth 100000 in
theorem naturalOf_any (v : Value) (bs : List Int) (b : Int) (w : World) (hl : bs.length ≤ 1000) (hb : 1 ≤ b ∧ b ≤ 1000) (hx : ∀ x ∈ bs, 0 ≤ x ∧ x < b) (hx2 : ∀ x ∈ bs, x ≤ 255) (hv : ByAt w v bs) :
    Calls Tryd.prog 47 #[v, .int .i64 b] w fun e w' => ∃ v', e = .returned v' ∧ OwnI w' w.heap.size v' (digs (horn b bs)) ∧ Below w.heap.size w w' := by
  obtain ⟨ao, cap, rfl, hc⟩ := hv
  have HC : Hid ((0 < bs.length → ∃ g, ao = some ⟨g, 0, none⟩ ∧ g < w.heap.size ∧ ∀ j, j < bs.length → w.cell? ⟨g, j, none⟩ = some (.int .u8 (bs.getD j 0))) ∧ (∀ x ∈ bs, 0 ≤ x ∧ x < b) ∧ ∀ x ∈ bs, x ≤ 255) := ⟨hc, hx, hx2⟩
  clear hc hx hx2
  go_enter Tryd.func47, Tryd.ntmps47
  go_wp2
  go_loopw [5, 11] (fun nv iv wr => ∃ k : Nat, k ≤ bs.length ∧ iv = .int .i64 k ∧ Hid (OwnI wr w.heap.size nv (digs (horn b (bs.take k))) ∧ Below w.heap.size w wr)) (fun _ iv _ => bs.length - (intOf iv).toNat)
  case atStart => exact ⟨0, Nat.zero_le _, rfl, by rw [show digs (horn b (bs.take 0)) = [] by simp [horn, digs_zero]]; exact OwnI.empty w (Nat.le_refl _), (Below.refl _ _).alloc (Nat.le_refl _) _⟩
  case round =>
    obtain ⟨k, hk, rfl, H⟩ := hrel
    by_cases hlt : k < bs.length
    · obtain ⟨g, hao, hgl, hcs⟩ := HC.out.1 (by omega)
      have hu : wr.cell? ⟨g, k, none⟩ = some (.int .u8 (bs.getD k 0)) := by
        rw [H.out.2.cell (p := ⟨g, k, none⟩) hgl, hcs k hlt]
      subst hao
      have hxb := HC.out.2.1 _ (getD_mem hlt)
      have hxc := HC.out.2.2 _ (getD_mem hlt)
      have hbd := horn_take_bd hb HC.out.2.1 k hk
      have EE := extended_any u5 (digs (horn b (bs.take k))) b (bs.getD k 0) w.heap.size wr (by omega) hb hxb (dig_digs _) (top_digs _) H.out.2.size H.out.1
      rw [ev_digs hbd.1, ← horn_take hlt] at EE
      have HB : Hid (Below w.heap.size w wr) := H.out.2
      clear hcs hgl H hbd
      generalize bs.getD k 0 = x at *
      have hki : (k : Int) < (bs.length : Int) := by omega
      have hk0 : (0 : Int) ≤ (k : Int) := by omega
      go_wp2_with fail
      refine EE.mono ?_
      rintro e w1 ⟨v1, rfl, ho1, hb1⟩
      have HN : Hid (OwnI w1 w.heap.size v1 (digs (horn b (bs.take (k + 1)))) ∧ Below w.heap.size w w1) := ⟨ho1, HB.out.trans hb1⟩
      clear EE ho1 hb1
      go_wp2_with fail
      go_roundw
      case rel => exact ⟨k + 1, by omega, by go_num, HN.out⟩
      case measure => simp [intOf]; omega
    · have hkn : k = bs.length := by omega
      subst hkn
      have HE : Hid (OwnI wr w.heap.size u5 (digs (horn b bs)) ∧ Below w.heap.size w wr) := by
        have h := H.out
        rw [List.take_of_length_le (Nat.le_refl _)] at h
        exact h
      clear H
      go_wp2
      go_ret
      exact ⟨_, rfl, HE.out⟩

set_option maxHeartbeats 1600000 in
set_option maxRecDepth 100000 in
theorem implRead_any (s : ByteArray) (w : World) (hs : s.size ≤ 1048576) :
    Calls Tryd.prog 34 #[.string s] w fun e w' => ∃ v, e = .returned v ∧ OwnI w' w.heap.size v (if s.size ≤ 60 then digs (horn 256 (bytesI s)) else []) ∧ Below w.heap.size w w' := by
  obtain ⟨R, hR⟩ : ∃ R, R = if s.size ≤ 60 then digs (horn 256 (bytesI s)) else [] := ⟨_, rfl⟩
  rw [← hR]
  have HRR : Hid (R = if s.size ≤ 60 then digs (horn 256 (bytesI s)) else []) := hR
  clear hR
  have hcv := fun w => run_bytes_of_string (P := Tryd.prog) w 9 46 5 s Tryd.underlying9 Tryd.underlying46 Tryd.underlying5
  by_cases h60 : s.size ≤ 60
  · have h60' : ¬ (60 : Int) < (s.size : Int) := by omega
    go_enter Tryd.func34, Tryd.ntmps34
    go_wp2_with fail
    obtain ⟨C, hC⟩ : ∃ C, grownCap w s.size 0 5 = C := ⟨_, rfl⟩
    rw [hC]
    clear hC hcv
    have HV : Hid (ByAt ((w.alloc (.cells (bytesRow s C) 5 ((bytesRow s C).size, (bytesRow s C).size + 1))).drew) (.slice (some ⟨w.heap.size, 0, none⟩) s.size C) (bytesI s) ∧ Below w.heap.size w ((w.alloc (.cells (bytesRow s C) 5 ((bytesRow s C).size, (bytesRow s C).size + 1))).drew)) := by
      refine ⟨?_, ((Below.refl _ _).alloc (Nat.le_refl _) _).drew⟩
      unfold ByAt
      rw [bytesI_len]
      refine ⟨_, _, rfl, fun _ => ⟨w.heap.size, rfl, ?_, fun j hj => ?_⟩⟩
      · show w.heap.size < (w.alloc _).heap.size
        simp
      · show (w.alloc (.cells (bytesRow s C) 5 ((bytesRow s C).size, (bytesRow s C).size + 1))).cell? ⟨w.heap.size, j, none⟩ = _
        rw [World.cell?_alloc_mark, bytesRow_at s C j hj, bytesI_getD hj]; rfl
    refine (naturalOf_any _ (bytesI s) 256 _ (by rw [bytesI_len]; omega) (by omega) (bytesI_bd s) (fun x hx => by have := bytesI_bd s x hx; omega) HV.out.1).mono ?_
    rintro e w2 ⟨v2, rfl, ho2, hb2⟩
    have HF : Hid (OwnI w2 w.heap.size v2 R ∧ Below w.heap.size w w2) := ⟨by rw [HRR.out, if_pos h60]; exact ho2.base HV.out.2.size, below_go HV.out.2 hb2⟩
    clear ho2 hb2
    go_wp2_with fail
    go_ret
    exact ⟨_, rfl, HF.out⟩
  · have h60' : (60 : Int) < (s.size : Int) := by omega
    have HE : Hid (R = []) := HRR.out.trans (if_neg h60)
    go_enter Tryd.func34, Tryd.ntmps34
    go_wp2
    go_ret
    exact ⟨_, rfl, (by rw [HE.out]; exact OwnI.nil _ _), Below.refl _ _⟩

/-- What figures tell: nothing where one is none. -/
def figL (s : ByteArray) : List Int := if s.size ≤ 140 then (match fvals 10 s.data.toList with | some vs => digs (horn 10 (vs.map fun x : Nat => (x : Int))) | none => []) else []
set_option maxHeartbeats 1600000 in
set_option maxRecDepth 100000 in
theorem implFig_any (s : ByteArray) (w : World) (hs : s.size ≤ 1048576) :
    Calls Tryd.prog 24 #[.string s] w fun e w' => ∃ v, e = .returned v ∧ OwnI w' w.heap.size v (figL s) ∧ Below w.heap.size w w' := by
  by_cases h140 : s.size ≤ 140
  · have h140' : ¬ (140 : Int) < (s.size : Int) := by omega
    go_enter Tryd.func24, Tryd.ntmps24
    go_wp2_with fail
    refine (figureValues_any s 10 w (by omega) (by decide)).mono ?_
    rintro e w1 ⟨v, rfl, hb1, ho1⟩
    cases hf : fvals 10 s.data.toList with
    | none =>
      have HE : Hid (figL s = [] ∧ Below w.heap.size w w1) := ⟨by unfold figL; rw [if_pos h140, hf], hb1⟩
      clear ho1 hb1
      go_wp2_with fail
      go_ret
      exact ⟨_, rfl, (by rw [HE.out.1]; exact OwnI.nil _ _), HE.out.2⟩
    | some vs =>
      have hvl := fvals_len hf
      have hvb := fvals_lt hf
      have ho := ho1 vs hf
      have HV : Hid (ByAt w1 v (vs.map fun x : Nat => (x : Int)) ∧ (vs.map fun x : Nat => (x : Int)).length = s.size ∧ (∀ x ∈ (vs.map fun x : Nat => (x : Int)), 0 ≤ x ∧ x < 10) ∧ Below w.heap.size w w1) := by
        have hl : (vs.map fun x : Nat => (x : Int)).length = s.size := by simp [hvl]
        refine ⟨?_, hl, fun x hx => ?_, hb1⟩
        · unfold ByAt
          rw [hl]
          rcases ho.2 with ⟨h1, h0⟩ | ⟨g, cap, cur, hv, _⟩
          · exact ⟨none, 0, by rw [h1, h0], fun h => by omega⟩
          · refine ⟨some ⟨g, 0, none⟩, cap, hv, fun _ => ⟨g, rfl, (ho.lt g (by rw [hv]; rfl)).2, fun j hj => ?_⟩⟩
            rw [hv] at ho
            rw [ho.cellAt j (by omega)]
            simp [cellN, List.getD, show j < vs.length by simp at hl; omega]
        · obtain ⟨y, hy, rfl⟩ := List.mem_map.1 hx
          have := hvb y hy
          omega
      have he : figL s = digs (horn 10 (vs.map fun x : Nat => (x : Int))) := by unfold figL; rw [if_pos h140, hf]
      have HE : Hid (figL s = digs (horn 10 (vs.map fun x : Nat => (x : Int)))) := he
      clear he
      clear ho1 hb1 hvl hvb ho
      have hll : (vs.map fun x : Nat => (x : Int)).length ≤ 140 := by rw [HV.out.2.1]; exact h140
      generalize (vs.map fun x : Nat => (x : Int)) = bs at *
      go_wp2_with fail
      refine (naturalOf_any v bs 10 w1 (by omega) (by omega) HV.out.2.2.1 (fun x hx => by have := HV.out.2.2.1 x hx; omega) HV.out.1).mono ?_
      rintro e w2 ⟨v2, rfl, ho2, hb2⟩
      have HF : Hid (OwnI w2 w.heap.size v2 (figL s) ∧ Below w.heap.size w w2) := ⟨by rw [HE.out]; exact ho2.base HV.out.2.2.2.size, below_go HV.out.2.2.2 hb2⟩
      clear ho2 hb2
      go_wp2_with fail
      go_ret
      exact ⟨_, rfl, HF.out⟩
  · have h140' : (140 : Int) < (s.size : Int) := by omega
    have he : figL s = [] := by unfold figL; rw [if_neg h140]
    have HE : Hid (figL s = []) := he
    clear he
    go_enter Tryd.func24, Tryd.ntmps24
    go_wp2
    go_ret
    exact ⟨_, rfl, (by rw [HE.out]; exact OwnI.nil _ _), Below.refl _ _⟩
end Go.Proofs.YtoildgknpfehoaaDoor
