/-
  The program's Unhex answers 'uxR'.
-/
import Derived.Test.YthingngbpkbmbaaDoorUnhexP
import Derived.Test.YthingngbpkbmbaaDoorFigI
namespace Go.Proofs.YthingngbpkbmbaaDoor
open Go.RowKit

/-- 'append' of one new byte to an owned row, at a step of a region that draws its order. -/
theorem step_app1 {ops : Array Oper} {o : Oper} {a : Act} {K : Act → World → Prop} {Q : Exit → Act → World → Prop} {E : Prop} {w wr : World} {n : Nat} {v : Value} {xs : List Value} (p : Int)
    (hgd : o.guard = none) (s x : Operand) (ho : o.op = .call { callee := .builtin .append, args := #[s, x], argTypes := #[22, 22] })
    (hown : wr.ownsRow w.heap.size 5 1 v n xs) (hbel : Below w.heap.size w wr) (hs : a.eval s = v) (hx : a.eval x = .slice (some ⟨wr.heap.size, 0, none⟩) 1 1) (h63 : n ≤ 1000000000000)
    (h : ∀ g cap w', w'.ownsRow w.heap.size 5 1 (.slice (some ⟨g, 0, none⟩) (n + 1) cap) (n + 1) (xs ++ [.int .u8 p]) → Below w.heap.size w w' → K (a.put o.dst (.slice (some ⟨g, 0, none⟩) (n + 1) cap)) w') :
    if Region.wanted o (yielded ops a.tmps) = true then Oper.wp Tryd.prog o a ((wr.alloc (.cells #[.int .u8 p] 5)).drew) K Q else E := by
  obtain ⟨i0, hi, hz0, hz1, hz2⟩ := info_parts info5
  have hsz := hbel.size
  refine step_append_lies _ hgd s x 22 ho w.heap.size 5 i0 (.int .u8 0) 1 1 Tryd.underlying22 hi hz0 hz1 hz2 rfl Nat.one_pos v n xs hs ((hown.alloc _).drew) ⟨wr.heap.size, 0, none⟩ 1 1 [.int .u8 p] hx rfl
    (World.news_of_block (cs := #[.int .u8 p]) (t := 5) (fr := (0, 0)) (heap_alloc_new wr _)) (by intro u hu; simp at hu; subst hu; rfl) Nat.one_pos (by unfold maxLen; omega) (by omega) (le_alloc_drew hsz _) (wr.heap.size + 1) (size_alloc_drew _ _) ?_
  intro g cap w1 hown1 hgrow hat _
  exact h g cap w1 hown1 ((hbel.alloc hsz _).drew.grown hgrow (le_alloc_drew hsz _) (fun j hj => (hown.lt j hj).1))

theorem own_form {w : World} {base : Nat} {e : TypeId} {size : Nat} {v : Value} {n : Nat} {xs : List Value} (h : w.ownsRow base e size v n xs) : ∃ ao cap, v = .slice ao n cap ∧ (0 < n → ∃ g, ao = some ⟨g, 0, none⟩ ∧ g < w.heap.size) := by
  rcases h.2 with ⟨h1, h0⟩ | ⟨g, cap, cur, hv, hb, hg, _⟩
  · exact ⟨none, 0, by rw [h1, h0], fun hn => by omega⟩
  · refine ⟨some ⟨g, 0, none⟩, cap, hv, fun _ => ⟨g, rfl, ?_⟩⟩
    have := h.lt g (by rw [hv]; rfl)
    exact this.2

theorem figures_none (s : ByteArray) (base : Nat) (w : World) (hs : s.size ≤ 1000000000000) (hbase : base ≤ 16) (hf : fvals base s.data.toList = none) : Calls Tryd.prog 17 #[.string s, .int .i64 base] w fun e w' =>
    ∃ v, e = .returned (.tuple #[v, .bool false]) ∧ Below w.heap.size w w' := by
  refine (figureValues_any s base w hs hbase).mono ?_
  rintro e w' ⟨v, rfl, hb, _⟩
  exact ⟨v, by rw [hf]; rfl, hb⟩
theorem figures_some (s : ByteArray) (base : Nat) (w : World) (vs : List Nat) (hs : s.size ≤ 1000000000000) (hbase : base ≤ 16) (hf : fvals base s.data.toList = some vs) : Calls Tryd.prog 17 #[.string s, .int .i64 base] w fun e w' =>
    ∃ ao cap, e = .returned (.tuple #[.slice ao s.size cap, .bool true]) ∧ Below w.heap.size w w' ∧ (0 < s.size → ∃ g, ao = some ⟨g, 0, none⟩ ∧ g < w'.heap.size ∧ ∀ j (hj : j < vs.length), w'.cell? ⟨g, j, none⟩ = some (.int .u8 (vs[j] : Int))) := by
  refine (figureValues_any s base w hs hbase).mono ?_
  rintro e w' ⟨v, rfl, hb, hv⟩
  have ho := hv vs hf
  have hl := fvals_len hf
  obtain ⟨ao, cap, rfl, hg⟩ := own_form ho
  refine ⟨ao, cap, by rw [hf]; rfl, hb, fun hn => ?_⟩
  obtain ⟨g, rfl, hlt⟩ := hg hn
  refine ⟨g, rfl, hlt, fun j hj => ?_⟩
  have := ho.cellAt j (by have : s.data.toList.length = s.size := by simp
                          omega)
  rw [this]
  simp [hj, cellN]

theorem figures_none16 (s : ByteArray) (w : World) (hs : s.size ≤ 1000000000000) (hf : fvals 16 s.data.toList = none) : Calls Tryd.prog 17 #[.string s, .int .i64 16] w fun e w' =>
    ∃ v, e = .returned (.tuple #[v, .bool false]) ∧ Below w.heap.size w w' := figures_none s 16 w hs (by decide) hf
theorem figures_some16 (s : ByteArray) (w : World) (vs : List Nat) (hs : s.size ≤ 1000000000000) (hf : fvals 16 s.data.toList = some vs) : Calls Tryd.prog 17 #[.string s, .int .i64 16] w fun e w' =>
    ∃ ao cap, e = .returned (.tuple #[.slice ao s.size cap, .bool true]) ∧ Below w.heap.size w w' ∧ (0 < s.size → ∃ g, ao = some ⟨g, 0, none⟩ ∧ g < w'.heap.size ∧ ∀ j (hj : j < vs.length), w'.cell? ⟨g, j, none⟩ = some (.int .u8 (vs[j] : Int))) := figures_some s 16 w vs hs (by decide) hf

/-- Two values more. -/
theorem pairs_take {vs : List Nat} {j : Nat} (hp : j % 2 = 0) (h : j + 1 < vs.length) : pairs (vs.take (j + 2)) = pairs (vs.take j) ++ [UInt8.ofNat (16 * vs[j] + vs[j + 1])] := by
  have e : vs.take (j + 2) = vs.take j ++ [vs[j], vs[j + 1]] := by
    rw [List.take_succ_eq_append_getElem (show j + 1 < vs.length by omega), List.take_succ_eq_append_getElem (show j < vs.length by omega), List.append_assoc]
    rfl
  rw [e, pairs_snoc _ _ _ (by simp; omega)]

set_option maxHeartbeats 1600000 in
set_option maxRecDepth 100000 in
theorem implUnhex_any (s : ByteArray) (w : World) (hs : s.size ≤ 1000000000000) : Calls Tryd.prog 14 #[.string s] w fun e w' => e = .returned (.tuple #[.string ⟨(uxR s).1.toArray⟩, .bool (uxR s).2]) ∧ Below w.heap.size w w' := by
  by_cases hp : s.size % 2 = 1
  · rw [uxR_no (.inr hp)]
    have hp2 : ((s.size : Int) % 2 != 0) = true := by simp; omega
    clear hp
    go_enter Tryd.func14, Tryd.ntmps14
    go_wp2
    go_ret2
    exact ⟨rfl, Below.refl _ _⟩
  · have hp2 : ((s.size : Int) % 2 != 0) = false := by simp; omega
    have HP : Hid (s.size % 2 = 0) := by show _ = _; omega
    clear hp
    by_cases h : 40000 < s.size
    · rw [uxR_no (.inl h)]
      have hd : (20000 : Int) < (s.size : Int) / 2 := by have := HP.out; omega
      go_enter Tryd.func14, Tryd.ntmps14
      go_wp2
      go_ret2
      exact ⟨rfl, Below.refl _ _⟩
    · have hd : ¬ (20000 : Int) < (s.size : Int) / 2 := by omega
      have HN : Hid (¬ (40000 < s.size ∨ s.size % 2 = 1)) := by have := HP.out; show ¬ _; omega
      cases hf : fvals 16 s.data.toList with
      | none =>
        rw [uxR_none hf]
        have HF : Hid (fvals 16 s.data.toList = none) := hf
        clear hf
        go_enter Tryd.func14, Tryd.ntmps14
        go_wp2_with (go_at_call 17; refine (figures_none16 s _ hs HF.out).mono ?_; rintro e w1 ⟨v, rfl, hb1⟩)
        go_ret2
        exact ⟨rfl, hb1⟩
      | some vs =>
        rw [uxR_some HN.out hf]
        have hvl := fvals_len hf
        have hv16 := fvals_lt hf
        have HF : Hid (fvals 16 s.data.toList = some vs) := hf
        have hsl : s.data.toList.length = s.size := by simp
        have HL : Hid (vs.length = s.size) := by show _ = _; omega
        have H16 : Hid (∀ x ∈ vs, x < 16) := hv16
        clear hf hvl hv16 hsl
        obtain ⟨i0, hi, hz0, hz1, hz2⟩ := info_parts info5
        go_enter Tryd.func14, Tryd.ntmps14
        go_wp2_with (first
          | (go_at_call 17; refine (figures_some16 s _ vs hs HF.out).mono ?_; rintro e wA ⟨ao, cap, rfl, hbA, hg⟩)
          | (at_make; refine wpList_make_own _ rfl _ _ 22 rfl wA.heap.size 5 i0 (.int .u8 0) 1 Tryd.underlying22 hi hz0 hz1 .i64 .i64 _ (s.size / 2) rfl rfl ?m1 ?m2 ?m3 ?m4 ?_))
        case m1 => omega
        case m2 => rw [hz2]; omega
        case m3 => unfold maxLen; omega
        case m4 => omega
        intro w1 hown1 hgrow1
        have hb1 : Below wA.heap.size wA w1 := (Below.refl _ _).grown hgrow1 (Nat.le_refl _) (fun k hk => by cases hk)
        have HG : Hid (0 < s.size → ∃ g, ao = some ⟨g, 0, none⟩ ∧ g < wA.heap.size ∧ ∀ j (hj : j < vs.length), wA.cell? ⟨g, j, none⟩ = some (.int .u8 (vs[j] : Int))) := hg
        have hbs := hbA.size
        clear hgrow1 hg
        go_wp2
        go_loopw [6, 7] (fun v i wr => ∃ j : Nat, j ≤ s.size ∧ i = .int .i64 j ∧ Hid (j % 2 = 0) ∧ wr.ownsRow wA.heap.size 5 1 v (pairs (vs.take j)).length ((pairs (vs.take j)).map cellB) ∧ Below wA.heap.size wA wr) (fun _ i _ => s.size - (intOf i).toNat)
        case atStart => exact ⟨0, Nat.zero_le _, rfl, rfl, hown1, hb1⟩
        case round =>
          obtain ⟨j, hj, rfl, HE, hown, hbel⟩ := hrel
          have hsz := hbel.size
          clear hown1 hb1
          have q1 : (pairs (vs.take j)).length ≤ 1000000000000 := by
            have h1 := pairs_len (vs.take j)
            have h2 := List.length_take_le j vs
            omega
          by_cases hlt : j < s.size
          · obtain ⟨g, hao, hgl, hcs⟩ := HG.out (by omega)
            have hL := HL.out
            have hj1 : j + 1 < s.size := by have := HE.out; have := HP.out; omega
            have hji : (j : Int) + 1 < (s.size : Int) := by omega
            have hj0 : (0 : Int) ≤ (j : Int) := by omega
            have hjl : (j : Int) < (s.size : Int) := by omega
            have hk1 := hcs j (by omega)
            have hk2 := hcs (j + 1) (by omega)
            have hj10 : (0 : Int) ≤ (j : Int) + 1 := by omega
            have hc1 : wr.cell? ⟨g, j, none⟩ = some (.int .u8 (vs[j] : Int)) := (hbel.cell (p := ⟨g, j, none⟩) hgl).trans (hcs j (by omega))
            have hc2 : wr.cell? ⟨g, j + 1, none⟩ = some (.int .u8 (vs[j + 1] : Int)) := (hbel.cell (p := ⟨g, j + 1, none⟩) hgl).trans (hcs (j + 1) (by omega))
            have hx16 := H16.out vs[j] (List.getElem_mem _)
            have hy16 := H16.out vs[j + 1] (List.getElem_mem _)
            have HPv : Hid (pairs (vs.take (j + 2)) = pairs (vs.take j) ++ [UInt8.ofNat (16 * vs[j] + vs[j + 1])]) := pairs_take HE.out (by omega)
            have hE2 : Hid ((j + 2) % 2 = 0) := by have := HE.out; show _ = _; omega
            generalize vs[j] = x at *
            generalize vs[j + 1] = y at *
            subst hao
            clear hcs hL
            have hw1 : IntKind.u8.wrap ((x : Int) * 16) = (x : Int) * 16 := IntWalk.u8_in _ (by omega)
            have hw2 : IntKind.u8.wrap ((x : Int) * 16 + (y : Int)) = (x : Int) * 16 + (y : Int) := IntWalk.u8_in _ (by omega)
            have hw3 : IntKind.i64.wrap ((j : Int) + 1) = (j : Int) + 1 := IntWalk.i64_in _ (by omega)
            go_wp2_with fail
            go_region_held3 (fun w' => w'.cell? ⟨g, j, none⟩ = some (.int .u8 (x : Int)) ∧ w'.cell? ⟨g, j + 1, none⟩ = some (.int .u8 (y : Int))) (first | go_keep | exact ⟨(hb2.cell (p := ⟨g, j, none⟩) hgl).trans hk1, (hb2.cell (p := ⟨g, j + 1, none⟩) hgl).trans hk2⟩) ((refine step_app1 _ (by rfl) _ _ (by rfl) hown hbel (by rfl) (by rfl) q1 ?_; intro gg cap2 w2 hown2 hb2))
            all_goals
              have ho2 : w2.ownsRow wA.heap.size 5 1 (.slice (some ⟨gg, 0, none⟩) ((pairs (vs.take j)).length + 1) cap2) (pairs (vs.take (j + 2))).length ((pairs (vs.take (j + 2))).map cellB) := by
                rw [HPv.out, List.map_append, List.length_append]
                simp only [List.map_cons, List.map_nil, cellB_of (show 16 * x + y < 256 by omega)]
                have e : ((16 * x + y : Nat) : Int) = (x : Int) * 16 + (y : Int) := by omega
                rw [e]
                exact hown2
              clear hown2 hown
              go_wp2
              go_roundw
              case rel => exact ⟨j + 2, by omega, by go_num, hE2, ho2, hb2⟩
              case measure => simp [intOf]; omega
          · have hjs : j = s.size := by omega
            have HT : Hid (vs.take j = vs) := List.take_of_length_le (by have := HL.out; omega)
            have hcv := conv_own hown
            rw [HT.out] at hcv
            go_wp2
            go_ret2
            exact ⟨rfl, hbA.trans (hbel.mono hbs)⟩
end Go.Proofs.YthingngbpkbmbaaDoor
