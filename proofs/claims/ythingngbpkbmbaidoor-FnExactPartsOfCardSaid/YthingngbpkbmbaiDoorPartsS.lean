/-
  The specification's PartsOf answers 'ptR', its list in a row of its own.
-/
import Derived.Test.YthingngbpkbmbaiDoorChecked
import Derived.Test.YthingngbpkbmbaiDoorPartsP
import Derived.WalkKit
import Derived.WalkSpells
import Derived.WalkLawsBesides
import Derived.Handy
import Derived.Deep.AppendLies
namespace Go.Proofs.YthingngbpkbmbaiDoor
open Go.RowKit

theorem info9 : (Tryd.prog.info? 9).map (fun i => (i.zero, i.size, i.bytes)) = some (some (.string ByteArray.empty), 1, 16) := by kernel_rfl
theorem one_newS (w : World) (v : Value) (t : TypeId) : ∀ j u, [v][j]? = some u → (w.alloc (.cells #[v] t)).cell? ((⟨w.heap.size, 0, none⟩ : Addr).add j) = some u := by
  intro j u hj
  match j, hj with
  | 0, hj => simp at hj; subst hj; simp [Addr.add]
theorem take_snocS (s : ByteArray) (k : Nat) (h : k < s.size) : s.data.toList.take (k + 1) = s.data.toList.take k ++ [s[k]] := by
  rw [List.take_succ_eq_append_getElem (by simpa using h)]; rfl
theorem take_allS (s : ByteArray) (k : Nat) (h : ¬ k < s.size) : s.data.toList.take k = s.data.toList :=
  List.take_of_length_le (by have : s.data.size = s.size := rfl; simp; omega)
theorem byte_memS (s : ByteArray) (k : Nat) (h : k < s.size) : s[k] ∈ s.data.toList := by
  have : s[k] = s.data.toList[k]'(by simpa using h) := by simp; rfl
  rw [this]
  exact List.getElem_mem _

/-- Where the specification's reader stands ahead of byte k: words behind it, the word that is under way, and where it began. -/
structure PtAt (s : ByteArray) (k B : Nat) (ws : List (List UInt8)) (cur : List UInt8) : Prop where
  st : stW (s.data.toList.take k) = (ws, cur)
  place : B + cur.length = k
  part : cur = (s.data.toList.take k).drop B
  plain : plainB (s.data.toList.take k) = true
theorem PtAt.start (s : ByteArray) : PtAt s 0 0 [] [] := ⟨rfl, rfl, by simp, rfl⟩
theorem PtAt.letter {s : ByteArray} {k B : Nat} {ws : List (List UInt8)} {cur : List UInt8} (h : PtAt s k B ws cur) (hk : k < s.size) (h1 : 32 < s[k].toNat) (h2 : s[k].toNat ≤ 126) : PtAt s (k + 1) B ws (cur ++ [s[k]]) := by
  have hne : s[k] ≠ 32 := fun e => by rw [e] at h1; simp at h1
  have hp := h.place
  refine ⟨?_, by simp; omega, ?_, ?_⟩
  · rw [take_snocS s k hk, stW_snoc, h.st]; simp [stepW, hne]
  · rw [take_snocS s k hk, List.drop_append_of_le_length, ← h.part]
    have : s.data.size = s.size := rfl
    simp; omega
  · rw [take_snocS s k hk, plainB_snoc, h.plain]; simp; omega
theorem PtAt.blank {s : ByteArray} {k B : Nat} {ws : List (List UInt8)} {cur : List UInt8} (h : PtAt s k B ws cur) (hk : k < s.size) (hb : s[k].toNat = 32) : PtAt s (k + 1) (k + 1) (finW (ws, cur)) [] := by
  have he : s[k] = 32 := UInt8.toNat_inj.1 (by simpa using hb)
  refine ⟨?_, by simp, ?_, ?_⟩
  · rw [take_snocS s k hk, stW_snoc, h.st, he]; simp [stepW, finW]
  · rw [List.drop_eq_nil_of_le]
    have : s.data.size = s.size := rfl
    simp; omega
  · rw [take_snocS s k hk, plainB_snoc, h.plain, hb]; rfl
theorem PtAt.all {s : ByteArray} {k B : Nat} {ws : List (List UInt8)} {cur : List UInt8} (h : PtAt s k B ws cur) (hk : ¬ k < s.size) : words s.data.toList = finW (ws, cur) ∧ plainB s.data.toList = true := by
  have h1 := h.st; have h2 := h.plain
  rw [take_allS s k hk] at h1 h2
  exact ⟨by unfold words; rw [h1], h2⟩
theorem PtAt.cut {s : ByteArray} {k B : Nat} {ws : List (List UInt8)} {cur : List UInt8} (h : PtAt s k B ws cur) : Value.string (s.extract B k) = cellS cur := by
  unfold cellS
  congr 1
  apply ByteArray.ext
  apply Array.toList_inj.1
  rw [h.part]
  simp [ByteArray.data_extract, List.drop_take]
theorem PtAt.len {s : ByteArray} {k B : Nat} {ws : List (List UInt8)} {cur : List UInt8} (h : PtAt s k B ws cur) : ws.length ≤ k := by
  have h1 := stW_len (s.data.toList.take k)
  rw [h.st] at h1
  have h2 := List.length_take_le k s.data.toList
  simp only at h1
  omega
theorem finW_some {ws : List (List UInt8)} {cur : List UInt8} (h : cur ≠ []) : finW (ws, cur) = ws ++ [cur] := by simp [finW, h]
theorem finW_none (ws : List (List UInt8)) : finW (ws, []) = ws := by simp [finW]
theorem own_shape {w : World} {base : Nat} {e : TypeId} {size : Nat} {v : Value} {n : Nat} {xs : List Value} (h : w.ownsRow base e size v n xs) : ∃ ao cap, v = .slice ao n cap := by
  rcases h.2 with ⟨h1, h0⟩ | ⟨g, cap, cur, hv, hb, hg, _⟩
  · exact ⟨none, 0, by rw [h1, h0]⟩
  · exact ⟨some ⟨g, 0, none⟩, cap, hv⟩
/-- The state of the loop: the place k, where the word under way began, and the words behind. -/
def PtSt (s : ByteArray) (k B : Nat) (ws : List (List UInt8)) : Prop :=
  (k ≤ s.size → ∃ cur, PtAt s k B ws cur) ∧ (¬ k ≤ s.size → ws = words s.data.toList ∧ plainB s.data.toList = true)

set_option maxHeartbeats 1600000 in
set_option maxRecDepth 100000 in
theorem specPartsOf_any (s : ByteArray) (w : World) (hs : s.size ≤ 1000000000000) : Calls Tryd.prog 4 #[.string s] w fun e w' =>
    ∃ v, e = .returned (.tuple #[v, .bool (ptR s).2]) ∧ Below w.heap.size w w' ∧ w'.ownsRow w.heap.size 9 1 v (ptR s).1.length ((ptR s).1.map cellS) := by
  by_cases h : 600 < s.size
  · rw [ptR_no (.inl h)]
    go_enter Tryd.func4, Tryd.ntmps4
    go_wp2
    go_ret2
    exact ⟨_, rfl, (Below.refl _ _).alloc (Nat.le_refl _) _, World.ownsRow_made w #[] 0 (Nat.le_refl _) (Nat.zero_le _) rfl⟩
  · obtain ⟨i0, hi, hz0, hz1, hz2⟩ := info_parts info9
    go_enter Tryd.func4, Tryd.ntmps4
    go_wp2
    go_loopw [4, 5, 6] (fun v bv iv wr => ∃ (k B : Nat) (ws : List (List UInt8)), k ≤ s.size + 1 ∧ bv = .int .i64 B ∧ iv = .int .i64 k ∧ ws.length ≤ s.size ∧ Hid (PtSt s k B ws) ∧ wr.ownsRow w.heap.size 9 1 v ws.length (ws.map cellS) ∧ Below w.heap.size w wr) (fun _ _ iv _ => s.size + 1 - (intOf iv).toNat)
    case atStart => exact ⟨0, 0, [], Nat.zero_le _, rfl, rfl, Nat.zero_le _, ⟨fun _ => ⟨[], PtAt.start s⟩, fun hn => absurd (Nat.zero_le _) hn⟩, World.ownsRow_made w #[] 0 (Nat.le_refl _) (Nat.zero_le _) rfl, (Below.refl _ _).alloc (Nat.le_refl _) _⟩
    case round =>
      obtain ⟨k, B, ws, hk1, rfl, rfl, hwl, HS, hown, hbel⟩ := hrel
      have hsz := hbel.size
      by_cases hk : k ≤ s.size
      · obtain ⟨cur, HP⟩ := HS.out.1 hk
        have HP2 : Hid (PtAt s k B ws cur) := HP
        have hBk : B ≤ k := by have := HP.place; omega
        have hwk := HP.len
        clear HP HS
        by_cases hlt : k < s.size
        · have hc := s[k].toNat_lt
          by_cases h1 : s[k].toNat < 32
          · have HF : Hid (ptR s = ([], false)) := ptR_no (.inr (.inl (plainB_bad (byte_memS s k hlt) (.inl h1))))
            go_wp2
            go_ret2
            rw [HF.out]
            exact ⟨_, rfl, hbel.alloc hsz _, World.ownsRow_made wr #[] 0 hsz (Nat.zero_le _) rfl⟩
          · by_cases h2 : 126 < s[k].toNat
            · have HF : Hid (ptR s = ([], false)) := ptR_no (.inr (.inl (plainB_bad (byte_memS s k hlt) (.inr h2))))
              go_wp2
              go_ret2
              rw [HF.out]
              exact ⟨_, rfl, hbel.alloc hsz _, World.ownsRow_made wr #[] 0 hsz (Nat.zero_le _) rfl⟩
            · by_cases h3 : s[k].toNat = 32
              · have hq : ((s[k].toNat : Int) != 32) = false := by rw [h3]; rfl
                have HN : Hid (PtAt s (k + 1) (k + 1) (finW (ws, cur)) []) := HP2.out.blank hlt h3
                clear h3
                by_cases hB : B < k
                · have hne : cur ≠ [] := fun e => by have := HP2.out.place; rw [e] at this; simp at this; omega
                  go_wp2_with (at_builtin; refine wpList_append_own _ rfl _ _ 22 rfl w.heap.size 9 i0 (.string ByteArray.empty) 1 16 Tryd.underlying22 hi hz0 hz1 hz2 rfl (by decide) _ _ _ rfl (hown.alloc _) ⟨wr.heap.size, 0, none⟩ 1 1 [.string (s.extract B k)] rfl rfl ?d1 ?d2 ?d3 ?d4 ?d5 ?_)
                  case d1 => exact one_newS _ _ _
                  case d2 => intro u hu; simp at hu; subst hu; rfl
                  case d3 => unfold maxLen; omega
                  case d4 => omega
                  case d5 => simp; omega
                  intro v' w1 hown' hgrow _
                  have hb1 : Below w.heap.size w w1 := (hbel.alloc hsz _).grown hgrow (by simp; omega) (fun j hj => (hown.lt j hj).1)
                  have ho1 : w1.ownsRow w.heap.size 9 1 v' (ws ++ [cur]).length ((ws ++ [cur]).map cellS) := by
                    rw [List.map_append, List.length_append]
                    rw [HP2.out.cut] at hown'
                    exact hown'
                  rw [finW_some hne] at HN
                  clear hown' hgrow hown hne
                  go_wp2
                  go_roundw
                  case rel => exact ⟨k + 1, k + 1, ws ++ [cur], by omega, by go_num, by go_num, by simp; omega, ⟨fun _ => ⟨[], HN.out⟩, fun hn => absurd (show k + 1 ≤ s.size by omega) hn⟩, ho1, hb1⟩
                  case measure => simp [intOf]; omega
                · have hne : cur = [] := List.length_eq_zero_iff.1 (by have := HP2.out.place; omega)
                  subst hne
                  rw [finW_none] at HN
                  go_wp2
                  go_roundw
                  case rel => exact ⟨k + 1, k + 1, ws, by omega, by go_num, by go_num, hwl, ⟨fun _ => ⟨[], HN.out⟩, fun hn => absurd (show k + 1 ≤ s.size by omega) hn⟩, hown, hbel⟩
                  case measure => simp [intOf]; omega
              · have hq : ((s[k].toNat : Int) != 32) = true := bne_iff_ne.2 (by omega)
                have HN : Hid (PtAt s (k + 1) B ws (cur ++ [s[k]])) := HP2.out.letter hlt (by omega) (by omega)
                go_wp2
                go_roundw
                case rel => exact ⟨k + 1, B, ws, by omega, rfl, by go_num, hwl, ⟨fun _ => ⟨_, HN.out⟩, fun hn => absurd (show k + 1 ≤ s.size by omega) hn⟩, hown, hbel⟩
                case measure => simp [intOf]; omega
        · have HA := HP2.out.all hlt
          have HA1 : Hid (words s.data.toList = finW (ws, cur)) := HA.1
          have HA2 : Hid (plainB s.data.toList = true) := HA.2
          clear HA
          by_cases hB : B < k
          · have hne : cur ≠ [] := fun e => by have := HP2.out.place; rw [e] at this; simp at this; omega
            have hwk2 : ws.length + 1 ≤ k := by
              have h1 := stW_len (s.data.toList.take k)
              rw [HP2.out.st] at h1
              have h2 := List.length_take_le k s.data.toList
              have h3 := List.length_pos_iff.2 hne
              simp only at h1
              omega
            rw [finW_some hne] at HA1
            go_wp2_with (at_builtin; refine wpList_append_own _ rfl _ _ 22 rfl w.heap.size 9 i0 (.string ByteArray.empty) 1 16 Tryd.underlying22 hi hz0 hz1 hz2 rfl (by decide) _ _ _ rfl (hown.alloc _) ⟨wr.heap.size, 0, none⟩ 1 1 [.string (s.extract B k)] rfl rfl ?e1 ?e2 ?e3 ?e4 ?e5 ?_)
            case e1 => exact one_newS _ _ _
            case e2 => intro u hu; simp at hu; subst hu; rfl
            case e3 => unfold maxLen; omega
            case e4 => omega
            case e5 => simp; omega
            intro v' w1 hown' hgrow _
            have hb1 : Below w.heap.size w w1 := (hbel.alloc hsz _).grown hgrow (by simp; omega) (fun j hj => (hown.lt j hj).1)
            have ho1 : w1.ownsRow w.heap.size 9 1 v' (ws ++ [cur]).length ((ws ++ [cur]).map cellS) := by
              rw [List.map_append, List.length_append]
              rw [HP2.out.cut] at hown'
              exact hown'
            clear hown' hgrow hown hne
            go_wp2
            go_roundw
            case rel => exact ⟨k + 1, k + 1, ws ++ [cur], by omega, by go_num, by go_num, by simp; omega, ⟨fun hn => absurd hn (by omega), fun _ => ⟨HA1.out.symm, HA2.out⟩⟩, ho1, hb1⟩
            case measure => simp [intOf]; omega
          · have hne : cur = [] := List.length_eq_zero_iff.1 (by have := HP2.out.place; omega)
            subst hne
            rw [finW_none] at HA1
            go_wp2
            go_roundw
            case rel => exact ⟨k + 1, k + 1, ws, by omega, by go_num, by go_num, hwl, ⟨fun hn => absurd hn (by omega), fun _ => ⟨HA1.out.symm, HA2.out⟩⟩, hown, hbel⟩
            case measure => simp [intOf]; omega
      · obtain ⟨hw1, hw2⟩ := HS.out.2 hk
        have HW : Hid (ws = words s.data.toList) := hw1
        have HPl : Hid (plainB s.data.toList = true) := hw2
        clear hw1 hw2 HS
        obtain ⟨g, cap, hv⟩ : ∃ ao cap, _ = Value.slice ao ws.length cap := own_shape hown
        by_cases h10 : 10 < ws.length
        · have HF : Hid (ptR s = ([], false)) := ptR_no (.inr (.inr (by rw [← HW.out]; exact h10)))
          rw [hv]
          go_wp2
          go_ret2
          rw [HF.out]
          exact ⟨_, rfl, hbel.alloc hsz _, World.ownsRow_made wr #[] 0 hsz (Nat.zero_le _) rfl⟩
        · have HF : Hid (ptR s = (ws, true)) := by
            show _ = _
            rw [HW.out]
            exact ptR_yes h HPl.out (by rw [← HW.out]; exact h10)
          rw [hv]
          rw [hv] at hown
          go_wp2
          go_ret2
          rw [HF.out]
          exact ⟨_, rfl, hbel, hown⟩
end Go.Proofs.YthingngbpkbmbaiDoor
