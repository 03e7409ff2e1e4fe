/-
  Contracts of ReadDecimal: the specification's and the program's answer 'rdR'.
-/
import Derived.Test.YthingngbpkbmbaaDoorDecS
import Derived.Test.YthingngbpkbmbaaDoorUnhexI
namespace Go.Proofs.YthingngbpkbmbaaDoor
open Go.RowKit

theorem fval10_some {b : UInt8} (h1 : 48 ≤ b.toNat) (h2 : b.toNat ≤ 57) : fval 10 b = some (b.toNat - 48) := by rw [fval10, if_pos ⟨h1, h2⟩]
theorem fval10_none {b : UInt8} (h : b.toNat < 48 ∨ 57 < b.toNat) : fval 10 b = none := by rw [fval10, if_neg (by omega)]

/-- Where the specification's reader stands behind k figures. -/
structure RdAt (s : ByteArray) (k N : Nat) (vs : List Nat) : Prop where
  figs : fvals 10 (s.data.toList.take k) = some vs
  num : N = numOf vs
theorem RdAt.bound {s : ByteArray} {k N : Nat} {vs : List Nat} (h : RdAt s k N vs) (hk : k ≤ s.size) (h10 : s.size ≤ 10) : N ≤ 10000000000 := by
  rw [h.num]
  refine numOf_le (fvals_lt h.figs) ?_
  rw [fvals_len h.figs, take_len s k hk]
  omega
theorem RdAt.step {s : ByteArray} {k N : Nat} {vs : List Nat} (h : RdAt s k N vs) (hk : k < s.size) (h1 : 48 ≤ s[k].toNat) (h2 : s[k].toNat ≤ 57) : RdAt s (k + 1) (10 * N + s[k].toNat - 48) (vs ++ [s[k].toNat - 48]) :=
  ⟨by rw [take_snoc s k hk]; exact fvals_snoc h.figs (fval10_some h1 h2), by rw [numOf_snoc, h.num]; omega⟩
theorem RdAt.all {s : ByteArray} {k N : Nat} {vs : List Nat} (h : RdAt s k N vs) (hk : ¬ k < s.size) : fvals 10 s.data.toList = some vs ∧ N = numOf vs := by
  have := h.figs
  rw [take_all s k hk] at this
  exact ⟨this, h.num⟩
theorem RdAt.big {s : ByteArray} {k N : Nat} {vs : List Nat} (h : RdAt s k N vs) (hk : ¬ k < s.size) (hN : 1000000000 < N) : rdR s = (0, false) :=
  rdR_no (h.all hk).1 (.inl (by have := (h.all hk).2; omega))
theorem RdAt.other {s : ByteArray} {k N : Nat} {vs : List Nat} (h : RdAt s k N vs) (hk : ¬ k < s.size) (hc : (!decR (N : Int) == s.toList) = true) : rdR s = (0, false) := by
  refine rdR_no (h.all hk).1 (.inr ?_)
  rw [ByteArray.toList_eq, (h.all hk).2] at hc
  simpa using hc
theorem RdAt.fine {s : ByteArray} {k N : Nat} {vs : List Nat} (h : RdAt s k N vs) (hk : ¬ k < s.size) (h10 : ¬ 10 < s.size) (hN : ¬ 1000000000 < N) (hc : (!decR (N : Int) == s.toList) = false) : rdR s = ((N : Int), true) := by
  have e := (h.all hk).2
  rw [rdR_yes h10 (h.all hk).1, ← e]
  rw [ByteArray.toList_eq, e] at hc
  rintro (h1 | h1)
  · omega
  · exact h1 (by simpa using hc)

theorem figures_none10 (s : ByteArray) (w : World) (hs : s.size ≤ 1000000000000) (hf : fvals 10 s.data.toList = none) : Calls Tryd.prog 17 #[.string s, .int .i64 10] w fun e w' =>
    ∃ v, e = .returned (.tuple #[v, .bool false]) ∧ Below w.heap.size w w' := figures_none s 10 w hs (by decide) hf
theorem figures_some10 (s : ByteArray) (w : World) (vs : List Nat) (hs : s.size ≤ 1000000000000) (hf : fvals 10 s.data.toList = some vs) : Calls Tryd.prog 17 #[.string s, .int .i64 10] w fun e w' =>
    ∃ ao cap, e = .returned (.tuple #[.slice ao s.size cap, .bool true]) ∧ Below w.heap.size w w' ∧ (0 < s.size → ∃ g, ao = some ⟨g, 0, none⟩ ∧ g < w'.heap.size ∧ ∀ j (hj : j < vs.length), w'.cell? ⟨g, j, none⟩ = some (.int .u8 (vs[j] : Int))) := figures_some s 10 w vs hs (by decide) hf

theorem head_is (s : ByteArray) (h : 0 < s.size) : s.data.toList.head? = some s[0] := by
  rw [List.head?_eq_getElem?, List.getElem?_eq_getElem (by simpa using h)]; rfl

set_option maxHeartbeats 1600000 in
set_option maxRecDepth 100000 in
theorem implReadDecimal_any (s : ByteArray) (w : World) (hs : s.size ≤ 1000000000000) : Calls Tryd.prog 8 #[.string s] w fun e w' => e = .returned (.tuple #[.int .i64 (rdR s).1, .bool (rdR s).2]) ∧ Below w.heap.size w w' := by
  by_cases h : 10 < s.size
  · rw [rdR_long h]
    have hz : ((s.size : Int) == 0) = false := beq_eq_false_iff_ne.2 (by omega)
    go_enter Tryd.func8, Tryd.ntmps8
    go_wp2
    go_ret2
    exact ⟨rfl, Below.refl _ _⟩
  · by_cases h0 : s.size = 0
    · have hn : s.data.toList = [] := List.length_eq_zero_iff.1 (by simpa using h0)
      have HF : Hid (rdR s = (0, false)) := rdR_no (vs := []) (by rw [hn]; rfl) (.inr (by rw [hn]; decide))
      rw [HF.out]
      have hz : ((s.size : Int) == 0) = true := beq_iff_eq.2 (by omega)
      clear hn h0
      go_enter Tryd.func8, Tryd.ntmps8
      go_wp2
      go_ret2
      exact ⟨rfl, Below.refl _ _⟩
    · have hz : ((s.size : Int) == 0) = false := beq_eq_false_iff_ne.2 (by omega)
      have hpos : 0 < s.size := by omega
      have hc0 := s[0].toNat_lt
      clear h0
      cases hf : fvals 10 s.data.toList with
      | none =>
        rw [rdR_none hf]
        have HF : Hid (fvals 10 s.data.toList = none) := hf
        clear hf
        go_enter Tryd.func8, Tryd.ntmps8
        by_cases h1 : 1 < s.size
        · go_wp2_with (go_at_call 17; refine (figures_none10 s _ hs HF.out).mono ?_; rintro e w1 ⟨v, rfl, hb1⟩)
          all_goals (go_ret2; exact ⟨rfl, by assumption⟩)
        · go_wp2_with (go_at_call 17; refine (figures_none10 s _ hs HF.out).mono ?_; rintro e w1 ⟨v, rfl, hb1⟩)
          all_goals (go_ret2; exact ⟨rfl, by assumption⟩)
      | some vs =>
        have HF : Hid (fvals 10 s.data.toList = some vs) := hf
        have hvl := fvals_len hf
        have hsl : s.data.toList.length = s.size := by simp
        have HL : Hid (vs.length = s.size) := by show _ = _; omega
        have H10 : Hid (∀ x ∈ vs, x < 10) := fvals_lt hf
        have HD := dec_iff hf
        have hhd := head_is s hpos
        clear hf hvl
        by_cases hn : 1 < s.size ∧ s[0].toNat = 48
        · have HR : Hid (rdR s = (0, false)) := rdR_no HF.out (.inr (fun e => HD.1 e (.inr ⟨by omega, by rw [hhd]; congr 1; exact u8_eq hn.2⟩)))
          rw [HR.out]
          have h1 := hn.1
          have hq : ((s[0].toNat : Int) == 48) = true := by simp [hn.2]
          clear hn HD hhd hsl
          go_enter Tryd.func8, Tryd.ntmps8
          go_wp2_with (go_at_call 17; refine (figures_some10 s _ vs hs HF.out).mono ?_; rintro e wA ⟨ao, cap, rfl, hbA, hg⟩)
          go_ret2
          exact ⟨rfl, by assumption⟩
        · have HE : Hid (decR (numOf vs : Nat) = s.data.toList) := HD.2 (by
            rintro (e | ⟨e1, e2⟩)
            · rw [e] at hsl; simp at hsl; omega
            · rw [hhd] at e2
              simp only [Option.some.injEq] at e2
              exact hn ⟨by omega, by rw [e2]; rfl⟩)
          have HB : Hid (numOf vs ≤ 10000000000) := numOf_le H10.out (by have := HL.out; omega)
          clear HD hhd hsl
          have hq : 1 < s.size → ((s[0].toNat : Int) == 48) = false := fun h1 => beq_eq_false_iff_ne.2 (by omega)
          have HN : Hid (¬ 10 < s.size) := h
          clear hn
          go_enter Tryd.func8, Tryd.ntmps8
          by_cases h1 : 1 < s.size
          all_goals
            first | (have hq1 := hq h1) | skip
            clear hq
            go_wp2_with (go_at_call 17; refine (figures_some10 s _ vs hs HF.out).mono ?_; rintro e wA ⟨ao, cap, rfl, hbA, hg⟩)
            obtain ⟨g, hao, hgl, hcs⟩ := hg hpos
            subst hao
            have HC : Hid (∀ j (hj : j < vs.length), wA.cell? ⟨g, j, none⟩ = some (.int .u8 (vs[j] : Int))) := hcs
            clear hg hcs
            go_loop [7, 38] (fun nv iv => ∃ k N : Nat, k ≤ s.size ∧ nv = .int .i64 N ∧ iv = .int .i64 k ∧ N ≤ 10000000000 ∧ Hid (N = numOf (vs.take k))) (fun _ iv => s.size - (intOf iv).toNat)
            case atStart => exact ⟨0, 0, Nat.zero_le _, rfl, rfl, Nat.zero_le _, rfl⟩
            case round =>
              obtain ⟨k, N, hk, rfl, rfl, hN, HM⟩ := hrel
              have hL := HL.out
              by_cases hlt : k < s.size
              · have hck := HC.out k (by omega)
                have hx := H10.out vs[k] (List.getElem_mem _)
                have HM2 : Hid (N * 10 + vs[k] = numOf (vs.take (k + 1))) := by
                  have := HM.out
                  show _ = _
                  rw [List.take_succ_eq_append_getElem (by omega), numOf_snoc, ← this]; omega
                have hN2 : N * 10 + vs[k] ≤ 10000000000 := by
                  rw [HM2.out]
                  exact numOf_le (fun x hx => H10.out x (List.mem_of_mem_take hx)) (by rw [List.length_take]; omega)
                generalize vs[k] = x at *
                clear hL
                go_wp2
                go_round
                case rel => exact ⟨k + 1, N * 10 + x, by omega, by go_num, by go_num, hN2, HM2⟩
                case measure => simp [intOf]; omega
              · have HM3 : Hid (N = numOf vs) := by
                  have := HM.out
                  rwa [List.take_of_length_le (by omega)] at this
                by_cases hb : 1000000000 < N
                · have HR : Hid (rdR s = (0, false)) := rdR_no HF.out (.inl (by have := HM3.out; omega))
                  clear hL
                  go_wp2
                  go_ret2
                  exact ⟨by rw [HR.out]; rfl, hbA⟩
                · have HR : Hid (rdR s = ((N : Int), true)) := by
                    have := HM3.out
                    show _ = _
                    rw [rdR_yes HN.out HF.out, ← this]
                    rintro (e | e)
                    · omega
                    · exact e HE.out
                  clear hL
                  go_wp2
                  go_ret2
                  exact ⟨by rw [HR.out]; rfl, hbA⟩
end Go.Proofs.YthingngbpkbmbaaDoor
