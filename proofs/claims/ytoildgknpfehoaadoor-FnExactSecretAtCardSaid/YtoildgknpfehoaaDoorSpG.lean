/-
  The specification's NatFigures.
-/
import Derived.Test.YtoildgknpfehoaaDoorNatM
namespace Go.Proofs.YtoildgknpfehoaaDoor
open Go.RowKit

theorem readL_len (s : ByteArray) : (if s.size ≤ 60 then digs (horn 256 (bytesI s)) else []).length ≤ 40 := by
  split
  · rename_i h
    have h1 := horn_lt (b := 256) (by decide) s.size (bytesI s) (bytesI_len s) (bytesI_bd s)
    have h2 := pb_le (b := 256) (by decide) h
    have h3 : (256 : Int) ^ 60 < 10000 ^ 40 := by decide
    exact digs_len h1.1 (by omega)
  · simp
theorem figL_len (s : ByteArray) : (figL s).length ≤ 40 := by
  unfold figL
  split
  · rename_i h
    cases hf : fvals 10 s.data.toList with
    | none => simp
    | some vs =>
      have hvb : ∀ x ∈ (vs.map fun x : Nat => (x : Int)), 0 ≤ x ∧ x < 10 := fun x hx => by
        obtain ⟨y, hy, rfl⟩ := List.mem_map.1 hx
        have := fvals_lt hf y hy
        omega
      have hvl : (vs.map fun x : Nat => (x : Int)).length = s.size := by
        rw [List.length_map, fvals_len hf]
        simp
      have h1 := horn_lt (b := 10) (by decide) s.size _ hvl hvb
      have h2 := pb_le (b := 10) (by decide) h
      have h3 : (10 : Int) ^ 140 < 10000 ^ 40 := by decide
      exact digs_len h1.1 (by omega)
  · simp
set_option maxHeartbeats 1600000 in
set_option maxRecDepth 100000 in
theorem specFig_any (s : ByteArray) (w : World) (hs : s.size ≤ 1048576) :
    Calls Tryd.prog 27 #[.string s] w fun e w' => ∃ v, e = .returned v ∧ OwnI w' w.heap.size v (figL s) ∧ Below w.heap.size w w' := by
  have HW : Hid (Below w.heap.size w (w.alloc (Obj.cells #[] 3)) ∧ OwnI (w.alloc (Obj.cells #[] 3)) w.heap.size (.slice (some ⟨w.heap.size, 0, none⟩) 0 0) []) := ⟨(Below.refl _ _).alloc (Nat.le_refl _) _, OwnI.empty w (Nat.le_refl _)⟩
  by_cases hin : 1 ≤ s.size ∧ s.size ≤ 140
  · go_enter Tryd.func27, Tryd.ntmps27
    go_wp2_with fail
    refine (in_yes _ 1 140 _ (by omega) (by omega)).mono ?_
    rintro e w' ⟨rfl, rfl⟩
    go_wp2_with fail
    go_loopw [3, 4] (fun nv iv wr => ∃ (k : Nat) (vs : List Nat), k ≤ s.size ∧ iv = .int .i64 k ∧ Hid (fvals 10 (s.data.toList.take k) = some vs ∧ OwnI wr w.heap.size nv (digs (horn 10 (vs.map fun x : Nat => (x : Int)))) ∧ Below w.heap.size w wr)) (fun _ iv _ => s.size - (intOf iv).toNat)
    case atStart => exact ⟨0, [], Nat.zero_le _, rfl, by simp [fvals], by rw [show digs (horn 10 (([] : List Nat).map fun x : Nat => (x : Int))) = [] by simp [horn, digs_zero]]; exact HW.out.2, HW.out.1⟩
    case round =>
      obtain ⟨k, vs, hk, rfl, H⟩ := hrel
      by_cases hlt : k < s.size
      · have hf10 := fval10 s[k]
        have hcb : (s[k].toNat : Int) < 256 := by have := s[k].toNat_lt; omega
        have hc0 : (0 : Int) ≤ (s[k].toNat : Int) := by omega
        have hki : (k : Int) < (s.size : Int) := by omega
        have hk0 : (0 : Int) ≤ (k : Int) := by omega
        by_cases hd : 48 ≤ s[k].toNat ∧ s[k].toNat ≤ 57
        · have hd1 : ¬ (s[k].toNat : Int) < 48 := by omega
          have hd2 : ¬ (57 : Int) < (s[k].toNat : Int) := by omega
          rw [if_pos hd] at hf10
          have HNX : Hid (fvals 10 (s.data.toList.take (k + 1)) = some (vs ++ [s[k].toNat - 48]) ∧ horn 10 ((vs ++ [s[k].toNat - 48]).map fun x : Nat => (x : Int)) = horn 10 (vs.map fun x : Nat => (x : Int)) * 10 + ((s[k].toNat : Int) - 48)) := by
            refine ⟨?_, ?_⟩
            · have hbl : k < s.data.toList.length := by simpa using hlt
              have hge : s.data.toList[k] = s[k]'hlt := rfl
              rw [List.take_add_one, List.getElem?_eq_getElem hbl, hge]
              exact fvals_snoc H.out.1 hf10
            · rw [List.map_append, List.map_singleton, horn_snoc]
              congr 1
              omega
          have hvb : ∀ x ∈ (vs.map fun x : Nat => (x : Int)), 0 ≤ x ∧ x < 10 := fun x hx => by
            obtain ⟨y, hy, rfl⟩ := List.mem_map.1 hx
            have := fvals_lt H.out.1 y hy
            omega
          have hvl : (vs.map fun x : Nat => (x : Int)).length = k := by
            have hsl : s.data.toList.length = s.size := by simp
            rw [List.length_map, fvals_len H.out.1, List.length_take, hsl]
            omega
          have hlim := horn_lt (b := 10) (by decide) k _ hvl hvb
          have hp := pb_le (b := 10) (by decide) (show k + 1 ≤ 140 by omega)
          have hq : (10 : Int) ^ 140 < 10000 ^ 40 := by decide
          rw [Int.pow_succ] at hp
          have hoo := H.out.2.1
          have HB : Hid (Below w.heap.size w wr) := H.out.2.2
          clear H hvb hvl hf10
          generalize horn 10 (vs.map fun x : Nat => (x : Int)) = h at *
          have HH : Hid (0 ≤ h ∧ h < 10000 ^ 40 ∧ h * 10 + ((s[k].toNat : Int) - 48) < 10000 ^ 40) := ⟨hlim.1, by omega, by omega⟩
          have hll := digs_len HH.out.1 HH.out.2.1
          clear hlim hp hq
          have ha := (Below.refl wr.heap.size wr).alloc (Nat.le_refl _) (Obj.cells #[Value.int IntKind.i64 10] 3)
          have hlit : OwnI (wr.alloc (Obj.cells #[Value.int IntKind.i64 10] 3)) wr.heap.size (.slice (some ⟨wr.heap.size, 0, none⟩) 1 1) [10] := World.ownsRow_lit wr #[Value.int .i64 10] 1 (Nat.le_refl _) (by unfold maxLen; omega) rfl
          have EM := specMul0_any u3 (.slice (some ⟨wr.heap.size, 0, none⟩) 1 1) (digs h) [10] (wr.alloc (Obj.cells #[Value.int IntKind.i64 10] 3)).drew (by omega) (by simp) (dig_digs h) (by intro y hy; simp at hy; omega) ((hoo.at.below ha).below ((Below.refl _ _).drew)) (hlit.drew.at)
          rw [ev_digs HH.out.1, show ev [10] = 10 by simp [ev]] at EM
          clear hoo hlit hll
          have HA2 : Hid (Below wr.heap.size wr (wr.alloc (Obj.cells #[Value.int IntKind.i64 10] 3)).drew) := ha.drew
          clear ha
          have hwp : IntKind.i64.wrap (s[k].toNat : Int) = (s[k].toNat : Int) := IntWalk.i64_in _ (by omega)
          have hwq : IntKind.i64.wrap ((s[k].toNat : Int) - 48) = (s[k].toNat : Int) - 48 := IntWalk.i64_in _ (by omega)
          go_wp2_with fail
          go_region_held3 (fun _ => True) (exact trivial) ((first | (go_at_call 49; refine EM.mono ?_; rintro e w1 ⟨v1, rfl, ho1, hb1⟩) | (go_at_call 36; refine (specOf_any _ _ ?_).mono ?_; (constructor <;> omega); rintro e w2 ⟨v2, rfl, ho2, hb2⟩) | (go_at_call 48; refine (specAdd_any _ _ (digs (h * 10)) (digs ((s[k].toNat : Int) - 48)) _ ?_ ?_ ?_ ?_ ?_ ?_).mono ?_; (have := HH.out; have := digs_len (x := h * 10) (k := 40) (by omega) (by omega); omega); (have := HH.out; have := digs_len (x := (s[k].toNat : Int) - 48) (k := 40) (by omega) (by omega); omega); exact (dig_digs _).wd; exact (dig_digs _).wd; exact ho1.at.below hb2; exact ho2.at; rintro e w3 ⟨v3, rfl, ho3, hb3⟩)))
          all_goals (
            have HN : Hid (fvals 10 (s.data.toList.take (k + 1)) = some (vs ++ [s[k].toNat - 48]) ∧ OwnI w3 w.heap.size v3 (digs (horn 10 ((vs ++ [s[k].toNat - 48]).map fun x : Nat => (x : Int)))) ∧ Below w.heap.size w w3) := by
              have hb2' := below_go (below_go (below_go HB.out HA2.out) hb1) hb2
              rw [addL_digs (by have := HH.out; omega) (by omega) HH.out.2.2, ← HNX.out.2] at ho3
              exact ⟨HNX.out.1, ho3.base hb2'.size, below_go hb2' hb3⟩
            clear EM ho1 ho2 ho3 hb1 hb2 hb3
            go_wp2
            go_roundw
            case rel => exact ⟨k + 1, _, by omega, by go_num, HN.out⟩
            case measure => simp [intOf]; omega)
        · rw [if_neg hd] at hf10
          have he : figL s = [] := by
            unfold figL
            rw [if_pos hin.2, fvals_none (byte_mem s k hlt) hf10]
          have HE : Hid (figL s = [] ∧ Below w.heap.size w wr) := ⟨he, H.out.2.2⟩
          clear he H hf10
          by_cases hd1 : (s[k].toNat : Int) < 48
          · go_wp2_with fail
            go_ret
            exact ⟨_, rfl, (by rw [HE.out.1]; exact OwnI.empty wr HE.out.2.size), HE.out.2.alloc HE.out.2.size _⟩
          · have hd2 : (57 : Int) < (s[k].toNat : Int) := by omega
            go_wp2_with fail
            go_ret
            exact ⟨_, rfl, (by rw [HE.out.1]; exact OwnI.empty wr HE.out.2.size), HE.out.2.alloc HE.out.2.size _⟩
      · have hkn : k = s.size := by omega
        subst hkn
        have HE : Hid (OwnI wr w.heap.size u3 (figL s) ∧ Below w.heap.size w wr) := by
          have h := H.out
          rw [List.take_of_length_le (by simp)] at h
          refine ⟨?_, h.2.2⟩
          unfold figL
          rw [if_pos hin.2, h.1]
          exact h.2.1
        clear H
        go_wp2
        go_ret
        exact ⟨_, rfl, HE.out⟩
  · have he : figL s = [] := by
      unfold figL
      by_cases h : s.size ≤ 140
      · have h0 : s.size = 0 := by omega
        have h1 : s.data.toList = [] := List.eq_nil_of_length_eq_zero (by simpa using h0)
        rw [if_pos h, h1]
        simp [fvals, horn, digs_zero]
      · rw [if_neg h]
    have HE : Hid (figL s = []) := he
    clear he
    go_enter Tryd.func27, Tryd.ntmps27
    go_wp2_with fail
    refine (in_no _ 1 140 _ (by omega)).mono ?_
    rintro e w' ⟨rfl, rfl⟩
    go_wp2_with fail
    go_ret
    exact ⟨_, rfl, (by rw [HE.out]; exact HW.out.2), HW.out.1⟩
end Go.Proofs.YtoildgknpfehoaaDoor
