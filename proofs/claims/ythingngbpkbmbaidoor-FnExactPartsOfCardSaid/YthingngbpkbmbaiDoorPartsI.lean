/-
  The program's PartsOf (with plainLine and the library's Split and Clone) answers 'ptR', its list in a row of its own.
-/
import Derived.Test.YthingngbpkbmbaiDoorPartsS
import Derived.Test.YthingngbpkbmbaiDoorShelf
import Derived.Laws.IdiomStrings
namespace Go.Proofs.YthingngbpkbmbaiDoor
open Go.RowKit

theorem ownsRow_below {w w' : World} {base : Nat} {e : TypeId} {size : Nat} {v : Value} {n : Nat} {xs : List Value} (h : w.ownsRow base e size v n xs) (hb : Below w.heap.size w w') : w'.ownsRow base e size v n xs := by
  obtain ⟨h1, h2⟩ := h
  refine ⟨h1, ?_⟩
  rcases h2 with h2 | ⟨g, cap, cur, hv, hbg, hg, r⟩
  · exact .inl h2
  · have hlt : g < w.heap.size := by
      rcases Nat.lt_or_ge g w.heap.size with h | h
      · exact h
      · rw [Array.getElem?_eq_none h] at hg; cases hg
    exact .inr ⟨g, cap, cur, hv, hbg, by rw [hb.block g hlt]; exact hg, r⟩

set_option maxHeartbeats 800000 in
set_option maxRecDepth 100000 in
theorem plainLine_any (s : ByteArray) (w : World) (hs : s.size ≤ 1000000000000) : Calls Tryd.prog 9 #[.string s] w fun e w' => e = .returned (.bool (plainB s.data.toList)) ∧ Below w.heap.size w w' := by
  have hcv := fun w => run_bytes_of_string (P := Tryd.prog) w 9 31 5 s Tryd.underlying9 Tryd.underlying31 Tryd.underlying5
  go_enter Tryd.func9, Tryd.ntmps9
  go_wp2
  generalize hC : grownCap w s.size 0 5 = C
  have HCell : Hid (∀ j (hj : j < s.size), ((w.alloc (.cells (bytesRow s C) 5 ((bytesRow s C).size, (bytesRow s C).size + 1))).drew).cell? ⟨w.heap.size, j, none⟩ = some (.int .u8 ((s[j]'hj).toNat : Int))) := fun j hj => by
    show (w.alloc (.cells (bytesRow s C) 5 ((bytesRow s C).size, (bytesRow s C).size + 1))).cell? ⟨w.heap.size, j, none⟩ = _
    rw [World.cell?_alloc_mark, bytesRow_at s C j hj]; rfl
  clear hC hcv
  go_loopw [8] (fun iv wr => ∃ k : Nat, k ≤ s.size ∧ iv = .int .i64 k ∧ Hid (plainB (s.data.toList.take k) = true) ∧ (w.alloc (.cells (bytesRow s C) 5 ((bytesRow s C).size, (bytesRow s C).size + 1))).drew = wr) (fun iv _ => s.size - (intOf iv).toNat)
  case atStart => exact ⟨0, Nat.zero_le _, rfl, rfl, rfl⟩
  case round =>
    obtain ⟨k, hk, rfl, HP, rfl⟩ := hrel
    by_cases hlt : k < s.size
    · have hc := s[k].toNat_lt
      have hck : (w.alloc (.cells (bytesRow s C) 5 ((bytesRow s C).size, (bytesRow s C).size + 1))).cell? ⟨w.heap.size, k, none⟩ = some (.int .u8 (s[k].toNat : Int)) := HCell.out k hlt
      by_cases h1 : s[k].toNat < 32
      · have HF : Hid (plainB s.data.toList = false) := plainB_bad (byte_memS s k hlt) (.inl h1)
        go_wp2
        go_ret
        exact ⟨by rw [HF.out]; rfl, ((Below.refl _ _).alloc (Nat.le_refl _) _).drew⟩
      · by_cases h2 : 126 < s[k].toNat
        · have HF : Hid (plainB s.data.toList = false) := plainB_bad (byte_memS s k hlt) (.inr h2)
          go_wp2
          go_ret
          exact ⟨by rw [HF.out]; rfl, ((Below.refl _ _).alloc (Nat.le_refl _) _).drew⟩
        · have HN : Hid (plainB (s.data.toList.take (k + 1)) = true) := by
            show _ = _
            rw [take_snocS s k hlt, plainB_snoc, HP.out]; simp; omega
          go_wp2
          go_roundw
          case rel => exact ⟨k + 1, by omega, by go_num, HN, by first | rfl | trivial⟩
          case measure => simp [intOf]; omega
    · have HF : Hid (plainB s.data.toList = true) := by have := HP.out; rwa [take_allS s k hlt] at this
      go_wp2
      go_ret
      exact ⟨by rw [HF.out]; rfl, ((Below.refl _ _).alloc (Nat.le_refl _) _).drew⟩

theorem sp_len : ∀ l, (sp l).length ≤ l.length + 1
  | [] => by simp [sp]
  | b :: r => by
    have ih := sp_len r
    rw [sp]
    split
    · simp; omega
    · cases h : sp r with
      | nil => simp
      | cons p ps => rw [h] at ih; simp at ih ⊢; omega

theorem sp_part : ∀ l, ∀ p ∈ sp l, p.length ≤ l.length
  | [], p, h => by simp [sp] at h; subst h; simp
  | b :: r, p, h => by
    have ih := sp_part r
    rw [sp] at h
    split at h
    · rcases List.mem_cons.1 h with rfl | h
      · simp
      · have := ih p h; simp; omega
    · cases hs : sp r with
      | nil => exact absurd hs (sp_ne r)
      | cons q qs =>
        rw [hs] at h ih
        rcases List.mem_cons.1 h with rfl | h
        · have := ih q (by simp); simp; omega
        · have := ih p (by simp [h]); simp; omega
theorem cellS_data (p : ByteArray) : cellS p.data.toList = .string p := by unfold cellS; simp

/-- The words among the first k pieces. -/
def wordsTo (l : List UInt8) (k : Nat) : List (List UInt8) := ((sp l).take k).filter full
theorem wordsTo_blank {l : List UInt8} {k : Nat} {x : List UInt8} (hx : (sp l)[k]? = some x) (he : full x = false) : wordsTo l (k + 1) = wordsTo l k := by
  unfold wordsTo
  rw [List.take_add_one, hx, List.filter_append]
  simp [he]
theorem wordsTo_word {l : List UInt8} {k : Nat} {x : List UInt8} (hx : (sp l)[k]? = some x) (he : full x = true) : wordsTo l (k + 1) = wordsTo l k ++ [x] := by
  unfold wordsTo
  rw [List.take_add_one, hx, List.filter_append]
  simp [he]
theorem wordsTo_le (l : List UInt8) (k : Nat) : (wordsTo l k).length ≤ (words l).length := by
  rw [words_sp]
  exact ((List.take_sublist k (sp l)).filter full).length_le
theorem wordsTo_all {l : List UInt8} {k : Nat} (h : (sp l).length ≤ k) : wordsTo l k = words l := by
  rw [words_sp]; unfold wordsTo; rw [List.take_of_length_le h]

theorem cells_overS {P : List ByteArray} {wr w2 : World} {b : Nat} {v : Value} {o : Obj} (hb : b < wr.heap.size) (h : ∀ j (hj : j < P.length), wr.cell? ⟨b, j, none⟩ = some (.string P[j])) (hv : v.ownBlock ≠ some b)
    (hg : (wr.alloc o).grownBy w2 v.ownBlock) : ∀ j (hj : j < P.length), w2.cell? ⟨b, j, none⟩ = some (.string P[j]) := fun j hj => by
  refine hg.cell ?_ (fun e => hv e.symm)
  exact (((Below.refl wr.heap.size wr).alloc (Nat.le_refl _) o).cell (p := ⟨b, j, none⟩) hb).trans (h j hj)
theorem block_overS {wr : World} {b g n cap : Nat} {v : Value} (hb : b < wr.heap.size) (hv : v.ownBlock ≠ some b) (hat : v.ownBlock = some g ∨ g = wr.heap.size + 1) : (Value.slice (some ⟨g, 0, none⟩) n cap).ownBlock ≠ some b := by
  intro e
  have e2 : g = b := by simpa [Value.ownBlock] using e
  subst e2
  rcases hat with h | h
  · exact hv h
  · omega

theorem own_next (a n c : Nat) : (Value.slice (some ⟨a, 0, none⟩) n c).ownBlock ≠ some (a + 1) := by
  intro e
  simp [Value.ownBlock] at e

/-- The library's Split at a blank: a new row that holds the pieces. -/
theorem split_any (s : ByteArray) (m : Int) (w : World) (hs : s.size ≤ 2000000) (hm : w.cell? ⟨0, 0, none⟩ = some (.int .i64 m)) : Calls Tryd.prog 10 #[.string s, .string ⟨#[32]⟩] w fun e w' =>
    ∃ P : List ByteArray, e = .returned (.slice (some ⟨w.heap.size, 0, none⟩) P.length P.length) ∧ w.alloc (.cells (P.map Value.string).toArray 9) = w' ∧ P.map (·.data.toList) = sp s.data.toList := by
  refine (Tryd.strings_Split s ⟨#[32]⟩ m w (by omega) hm (by decide)).mono ?_
  rintro e w' ⟨rfl, rfl⟩
  refine ⟨Lib.splitB ⟨#[32]⟩ 0 (Lib.countB s ⟨#[32]⟩) s, ?_, rfl, ?_⟩
  · rw [Lib.splitB_all ⟨#[32]⟩ (by decide) 0 _ s rfl]
  · rw [Lib.splitB_data]
    exact split_sp s.data.toList

theorem clone_any (s : ByteArray) (w : World) (hs : s.size ≤ 1000000000000) : Calls Tryd.prog 11 #[.string s] w fun e w' => e = .returned (.string s) ∧ Below w.heap.size w w' := by
  go_enter Tryd.func11, Tryd.ntmps11
  go_wp2_with (go_at_call 14; refine (Tryd.stringslite_Clone s _ (by omega)).mono ?_; rintro e w1 ⟨rfl, hb1⟩)
  go_ret
  exact ⟨rfl, hb1⟩

set_option maxHeartbeats 1600000 in
set_option maxRecDepth 100000 in
theorem implPartsOf_any (s : ByteArray) (m : Int) (w : World) (hs : s.size ≤ 2000000) (hm : w.cell? ⟨0, 0, none⟩ = some (.int .i64 m)) : Calls Tryd.prog 5 #[.string s] w fun e w' =>
    ∃ v, e = .returned (.tuple #[v, .bool (ptR s).2]) ∧ Below w.heap.size w w' ∧ w'.ownsRow w.heap.size 9 1 v (ptR s).1.length ((ptR s).1.map cellS) := by
  by_cases h : 600 < s.size
  · rw [ptR_no (.inl h)]
    clear hm
    go_enter Tryd.func5, Tryd.ntmps5
    go_wp2
    go_ret2
    exact ⟨_, rfl, Below.refl _ _, World.ownsRow_nil _ _ _ _⟩
  · have HM : Hid (w.cell? ⟨0, 0, none⟩ = some (.int .i64 m)) := hm
    clear hm
    cases hp : plainB s.data.toList with
    | false =>
      rw [ptR_no (.inr (.inl hp))]
      have HC := fun w => plainLine_any s w (by omega)
      rw [hp] at HC
      have HC2 := (id HC : Hid _)
      clear HC hp
      go_enter Tryd.func5, Tryd.ntmps5
      go_wp2_with (go_at_call 9; refine (HC2.out _).mono ?_; rintro e w1 ⟨rfl, hb1⟩)
      go_ret2
      exact ⟨_, rfl, hb1, World.ownsRow_nil _ _ _ _⟩
    | true =>
      have HC := fun w => plainLine_any s w (by omega)
      rw [hp] at HC
      have HC2 := (id HC : Hid _)
      have HPl : Hid (plainB s.data.toList = true) := hp
      clear HC hp
      obtain ⟨i0, hi, hz0, hz1, hz2⟩ := info_parts info9
      have hwm : 0 < w.heap.size := World.block_lt_of_cell? w _ HM.out
      go_enter Tryd.func5, Tryd.ntmps5
      go_wp2_with (go_at_call 9; refine (HC2.out _).mono ?_; rintro e w1 ⟨rfl, hb1⟩)
      refine (split_any s m _ hs ?hm).mono ?_
      case hm => exact (((hb1.alloc hb1.size _).cell (p := ⟨0, 0, none⟩) hwm)).trans HM.out
      rintro e w2 ⟨P, rfl, hw2, hP⟩
      have hs1 := hb1.size
      have hown0 : w2.ownsRow w.heap.size 9 1 (.slice (some ⟨w1.heap.size, 0, none⟩) 0 0) 0 [] := by
        rw [← hw2]
        exact (World.ownsRow_made w1 #[] 0 hs1 (Nat.zero_le _) rfl).alloc _
      have hb2 : Below w.heap.size w w2 := by rw [← hw2]; exact (hb1.alloc hs1 _).alloc (by simp; omega) _
      have hl2 : w1.heap.size + 1 < w2.heap.size := by rw [← hw2]; simp
      have HCell : Hid (∀ j (hj : j < P.length), w2.cell? ⟨w1.heap.size + 1, j, none⟩ = some (.string P[j])) := fun j hj => by
        rw [← hw2]
        have := World.cell?_alloc_mark (w1.alloc (.cells #[] 9)) (P.map Value.string).toArray 9 (0, 0) j
        rw [World.size_alloc] at this
        rw [this]
        simp [hj]
      have HP : Hid (P.map (·.data.toList) = sp s.data.toList) := hP
      have hPl : P.length ≤ s.size + 1 := by
        have h1 := sp_len s.data.toList
        rw [← hP] at h1
        have : s.data.size = s.size := rfl
        simp at h1
        omega
      clear hP hw2
      go_wp2
      go_loopw [4, 19] (fun v iv wr => ∃ (k : Nat) (ws : List (List UInt8)), k ≤ P.length ∧ iv = .int .i64 k ∧ ws.length ≤ 10 ∧ Hid (ws = wordsTo s.data.toList k) ∧ wr.ownsRow w.heap.size 9 1 v ws.length (ws.map cellS) ∧ Below w.heap.size w wr ∧ w1.heap.size + 1 < wr.heap.size ∧ Hid (∀ j (hj : j < P.length), wr.cell? ⟨w1.heap.size + 1, j, none⟩ = some (.string P[j])) ∧ Hid (v.ownBlock ≠ some (w1.heap.size + 1))) (fun _ iv _ => P.length - (intOf iv).toNat)
      case atStart => exact ⟨0, [], Nat.zero_le _, rfl, Nat.zero_le _, rfl, hown0, hb2, hl2, HCell, own_next _ _ _⟩
      case round =>
        obtain ⟨k, ws, hk, rfl, hw10, HW, hown, hbel, hwl, HJ, HG⟩ := hrel
        have hsz := hbel.size
        obtain ⟨ao, cap, hv⟩ := own_shape hown
        rw [hv]
        rw [hv] at hown HG
        clear hv hown0 hb2 hl2 HCell
        by_cases hlt : k < P.length
        · have hck := HJ.out k hlt
          have HX : Hid ((sp s.data.toList)[k]? = some P[k].data.toList) := by
            show _ = _
            rw [← HP.out]; simp [hlt]
          have hpl : P[k].size ≤ 1000000000000 := by
            have h1 := sp_part s.data.toList P[k].data.toList (List.mem_of_getElem? HX.out)
            have : s.data.size = s.size := rfl
            have h2 : P[k].data.size = P[k].size := rfl
            simp at h1
            omega
          generalize P[k] = p at *
          cases he : p.toList.isEmpty with
          | true =>
            have HN : Hid (ws = wordsTo s.data.toList (k + 1)) := by
              show _ = _
              rw [wordsTo_blank HX.out (by rw [ByteArray.toList_eq] at he; simp [full, he])]; exact HW.out
            go_wp2
            go_roundw
            case rel => exact ⟨k + 1, ws, by omega, by go_num, hw10, HN, hown, hbel, hwl, HJ, HG⟩
            case measure => simp [intOf]; omega
          | false =>
            have HN : Hid (wordsTo s.data.toList (k + 1) = ws ++ [p.data.toList]) := by
              show _ = _
              rw [wordsTo_word HX.out (by rw [ByteArray.toList_eq] at he; simp [full, he]), ← HW.out]
            by_cases h10 : ws.length = 10
            · have hq : ((ws.length : Int) == 10) = true := beq_iff_eq.2 (by omega)
              have HF : Hid (ptR s = ([], false)) := ptR_no (.inr (.inr (by
                have h1 := wordsTo_le s.data.toList (k + 1)
                rw [HN.out] at h1
                simp at h1
                omega)))
              clear h10
              go_wp2
              go_ret2
              rw [HF.out]
              exact ⟨_, rfl, hbel, World.ownsRow_nil _ _ _ _⟩
            · have hq : ((ws.length : Int) == 10) = false := beq_eq_false_iff_ne.2 (by omega)
              go_wp2_with (first
                | (go_at_call 11; refine (clone_any p _ hpl).mono ?_; rintro e w3 ⟨rfl, hb3⟩)
                | (at_builtin; refine wpList_append_lies _ rfl _ _ 22 rfl w.heap.size 9 i0 (.string ByteArray.empty) 1 16 Tryd.underlying22 hi hz0 hz1 hz2 rfl (by decide) _ _ _ rfl ((ownsRow_below hown hb3).alloc _) ⟨w3.heap.size, 0, none⟩ 1 1 [.string p] rfl rfl ?d1 ?d2 ?d3 ?d4 ?d5 ?d6 (w3.heap.size + 1) ?d7 ?_))
              case d1 => exact one_newS _ _ _
              case d2 => intro u hu; simp at hu; subst hu; rfl
              case d3 => exact Nat.one_pos
              case d4 => unfold maxLen; omega
              case d5 => omega
              case d6 => have := hb3.size; simp; omega
              case d7 => simp
              intro gg cap2 w4 hown4 hgrow hat _
              have hs3 := hb3.size
              have ho4 : w4.ownsRow w.heap.size 9 1 (.slice (some ⟨gg, 0, none⟩) (ws.length + 1) cap2) (ws ++ [p.data.toList]).length ((ws ++ [p.data.toList]).map cellS) := by
                rw [List.map_append, List.length_append]
                simp only [List.map_cons, List.map_nil, cellS_data]
                exact hown4
              have hbel3 : Below w.heap.size w w3 := hbel.trans (hb3.mono hsz)
              have hb4 : Below w.heap.size w w4 := (hbel3.alloc hbel3.size _).grown hgrow (by simp; omega) (fun j hj => ((ownsRow_below hown hb3).lt j hj).1)
              have hj4 : Hid (∀ j (hj : j < P.length), w4.cell? ⟨w1.heap.size + 1, j, none⟩ = some (.string P[j])) := cells_overS (by omega) (fun j hj => (hb3.cell (p := ⟨w1.heap.size + 1, j, none⟩) hwl).trans (HJ.out j hj)) HG.out hgrow
              have hg4 : Hid ((Value.slice (some ⟨gg, 0, none⟩) (ws.length + 1) cap2).ownBlock ≠ some (w1.heap.size + 1)) := block_overS (wr := w3) (by omega) HG.out hat
              have hl4 : w1.heap.size + 1 < w4.heap.size := by have := hgrow.size; simp at this; omega
              clear hown4 hgrow hat HJ HG hown hck hb3
              go_wp2
              go_roundw
              case rel => exact ⟨k + 1, ws ++ [p.data.toList], by omega, by go_num, by simp; omega, HN.out.symm, ho4, hb4, hl4, hj4, hg4⟩
              case measure => simp [intOf]; omega
        · have HA : Hid (ws = words s.data.toList) := by
            have h1 := HW.out
            rw [wordsTo_all (by rw [← HP.out]; simp; omega)] at h1
            exact h1
          have HF : Hid (ptR s = (ws, true)) := by
            show _ = _
            rw [HA.out]
            exact ptR_yes h HPl.out (by rw [← HA.out]; omega)
          go_wp2
          go_ret2
          rw [HF.out]
          exact ⟨_, rfl, hbel, hown⟩
end Go.Proofs.YthingngbpkbmbaiDoor
