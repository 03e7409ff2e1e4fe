/-
  The program's BitsOf.
-/
import Derived.Test.YtfepknjdehannaaBitI
import Derived.Test.YtfepknjdehannaaNatK
import Derived.Maps.AppendAt
namespace Go.Proofs.Ytfepknjdehannaa
open Go Go.RowKit Go.Shelf
attribute [local go_sem] Oper.semAt_some

/-- The bits of a list of figures; of one that is not right, none. -/
def bitsL (l : List Int) : List Int := if okL l = true then bitsI (ev l) else []
theorem bitsL_len (l : List Int) : (bitsL l).length ≤ 560 := by
  unfold bitsL
  split
  · rename_i h
    have h1 := okL_true h
    have := ev_lt h1.2.1
    have := pw_le h1.1
    exact bitsI_len (by omega)
  · simp

/-- An append of one number: the list stays where it was, or goes to new memory. -/
theorem run_append_same {P : Program} (w : World) (base : Nat) (t ty : TypeId) (i : TypeInfo) (ht : P.underlying t = some (.slice 3)) (hi : P.info? 3 = some i) (hz : i.zero = some (.int .i64 0)) (hsize : i.size = 1) (hby : i.bytes = 8)
    (g n cap : Nat) (xs : List Value) (hown : w.ownsRow base 3 1 (.slice (some ⟨g, 0, none⟩) n cap) n xs) (a : Addr) (x : Int) (hx : w.cell? a = some (.int .i64 x)) (hn : n ≤ 1000000) (hbase : base ≤ w.heap.size) :
    ∃ g' cap' w', (Builtin.append_ #[t, t] ty #[.slice (some ⟨g, 0, none⟩) n cap, .slice (some a) 1 1]).run P w = .ok (.slice (some ⟨g', 0, none⟩) (n + 1) cap') w' ∧ w'.ownsRow base 3 1 (.slice (some ⟨g', 0, none⟩) (n + 1) cap') (n + 1) (xs ++ [.int .i64 x]) ∧ w.grownBy w' (some g) ∧ (g' = g ∨ g' = w.heap.size) := by
  have hc : ∀ j u, [Value.int .i64 x][j]? = some u → w.cell? (a.add j) = some u := fun j u hu => by
    rcases j with _ | j
    · simp at hu
      subst hu
      simpa [Addr.add] using hx
    · simp at hu
  have h1c : ∀ u ∈ [Value.int .i64 x], u.oneCell' = true := one_int x
  obtain ⟨v', w', hr, h2, h3, _⟩ := run_append_own (P := P) w base t ty 3 i (.int .i64 0) 1 8 ht hi hz hsize hby rfl (by decide) _ n xs hown a 1 1 [.int .i64 x] rfl hc h1c (by unfold maxLen; omega) (by omega) hbase
  rcases hown.2 with ⟨h0, _⟩ | ⟨g', cap', cur, hv, hbg, hg, hnc, hcm, hcs, htake⟩
  · cases h0
  · cases hv
    by_cases hroom : n + 1 ≤ cap
    · have hr2 := run_append_room (P := P) w t ty 3 i ht hi g n cap cur hg a 1 1 [.int .i64 x] (by simp [hsize]) hc h1c hroom (by rw [hsize, hcs]; simp; omega)
      rw [hr] at hr2
      injection hr2 with e1 e2
      rw [e1] at hr h2
      exact ⟨g, cap, w', hr, h2, h3, .inl rfl⟩
    · have holds : ∀ j u, xs[j]? = some u → w.cell? ((⟨g, 0, none⟩ : Addr).add j) = some u := hown.cells (g := g) rfl
      have hr2 := run_append_grow (P := P) w t ty 3 i (.int .i64 0) ht hi hz ⟨g, 0, none⟩ n cap xs (by rw [hsize]; exact hown.1) holds a 1 1 [.int .i64 x] (by simp [hsize]) hc (by omega) (by omega) (growslice_fits (by omega) (by rw [hby]; omega))
      rw [hr] at hr2
      injection hr2 with e1 e2
      rw [e1] at hr h2
      exact ⟨_, _, w', hr, h2, h3, .inr rfl⟩
theorem wpListIn_append_same {F : Fence} {n : Nat} {w : World} {ops : Array Oper} {rest : List Oper} {o : Oper} {a : Act} {Q : Exit → Act → World → Prop} (hgd : o.guard = none) (s x : Operand) (t : TypeId)
    (ho : o.op = .call { callee := .builtin .append, args := #[s, x], argTypes := #[t, t] }) (base : Nat) (i0 : TypeInfo) (ht : Try.prog.underlying t = some (.slice 3)) (hi : Try.prog.info? 3 = some i0) (hz0 : i0.zero = some (.int .i64 0)) (hz1 : i0.size = 1) (hz2 : i0.bytes = 8)
    (g k cap : Nat) (xs : List Value) (hs : a.eval s = .slice (some ⟨g, 0, none⟩) k cap) (hown : w.ownsRow base 3 1 (.slice (some ⟨g, 0, none⟩) k cap) k xs) (ad : Addr) (z : Int) (hx : a.eval x = .slice (some ad) 1 1) (hc : w.cell? ad = some (.int .i64 z)) (hk : k ≤ 1000000) (hbase : base ≤ w.heap.size)
    (h : ∀ g' cap' w', w'.ownsRow base 3 1 (.slice (some ⟨g', 0, none⟩) (k + 1) cap') (k + 1) (xs ++ [.int .i64 z]) → w.grownBy w' (some g) → (g' = g ∨ g' = w.heap.size) → wpListIn F n Try.prog ops Q rest (a.put o.dst (.slice (some ⟨g', 0, none⟩) (k + 1) cap')) w') :
    wpListIn F n Try.prog ops Q (o :: rest) a w := by
  refine wpListIn_plain hgd fun K hK' => ?_
  obtain ⟨g', cap', w', hrun, r1, r2, r3⟩ := run_append_same (P := Try.prog) w base t o.type i0 ht hi hz0 hz1 hz2 g k cap xs hown ad z hc hk hbase
  unfold Oper.wpIn
  refine ⟨?_, ?_⟩
  · simp [Oper.about, ho, resolve, Target.leads, Sem.run_pure]
  · rw [Oper.semAt_plain F _ _ (by rw [ho]; intro c hc'; cases hc')]
    simp [execOp, ho, resolve, invoke, builtin, hs, hx, hrun, Result.andThen]
    exact hK' _ _ (h g' cap' w' r1 r2 r3)

/-- What a caller holds between two rounds: a variable's box with a list that lies in none of the iterator's blocks. -/
def HoldsB (w : World) (B lo : Nat) (C : Nat) (pre : List Int) (W : World) : Prop :=
  ∃ g cap, Boxed W B 24 (.slice (some ⟨g, 0, none⟩) pre.length cap) ∧ OwnI W w.heap.size (.slice (some ⟨g, 0, none⟩) pre.length cap) pre ∧ (g < lo ∨ C ≤ g) ∧ Below w.heap.size w W
theorem HoldsB.bides {w : World} {B lo : Nat} (hB : B < lo) (hlo : w.heap.size ≤ lo) : Bides lo (HoldsB w B lo) := by
  rintro C s A A' row ⟨g, cap, h1, h2, h3, h4⟩ hg hr
  have hne : ∀ k, (k < lo ∨ C ≤ k) → some k ≠ row := fun k hk e => by have := hr k e.symm; omega
  exact ⟨g, cap, h1.kept hg (hne B (.inl hB)), h2.kept hg (hne g h3), h3, h4.grown hg h4.size (fun k e => by have := hr k e; omega)⟩

set_option maxRecDepth 100000 in
set_option maxHeartbeats 2000000 in
theorem implBits_any (v : Value) (la : List Int) (w : World) (hl : la.length ≤ 10000000) (wa : Wd la) (ha : IntAt w v la) :
    Calls Try.prog 14 #[v] w fun e w' => ∃ u, e = .returned u ∧ OwnI w' w.heap.size u (bitsL la) ∧ Below w.heap.size w w' := by
  obtain ⟨i0, hi, hz0, hz1, hz2⟩ := info_parts info3
  have HA : Hid (IntAt w v la ∧ Wd la) := ⟨ha, wa⟩
  clear ha wa
  obtain ⟨n, -⟩ : ∃ n : Nat, n = 5 := ⟨_, rfl⟩
  refine (callsIn_wide (n := n)).1 ?_
  refine callsIn_of_wp_marks Try.func14 rfl trivial ?_ rfl
  simp only [Try.ntmps14, List.size_toArray, List.length_cons, List.length_nil, Nat.reduceAdd, Nat.reduceSub, Array.replicate_succ, Array.replicate_zero, List.push_toArray, List.append_toArray, List.nil_append, List.cons_append]
  gi_wp2_with fail
  refine call_wide (right_any v la w hl HA.out.1 HA.out.2) ?_
  rintro e w1 ⟨rfl, hb1⟩
  have H1 : Hid (IntAt w1 v la ∧ Below w.heap.size w w1) := ⟨HA.out.1.below hb1, hb1⟩
  clear hb1
  rcases h : okL la with _ | _
  · have HN : Hid (bitsL la = []) := by show bitsL la = []; unfold bitsL; rw [if_neg (by rw [h]; decide)]
    gi_wp2_with fail
    exact ⟨_, results_tmp rfl _ _ _, _, rfl, by rw [HN.out]; exact OwnI.nil _ _, H1.out.2⟩
  · have HK : Hid (okL la = true) := h
    have hk := okL_true h
    have hk40 := hk.1
    have HD : Hid (Dig la ∧ Top la ∧ ev la < 10000 ^ 40) := ⟨hk.2.1, hk.2.2, by have a1 := ev_lt hk.2.1; have a2 := pw_le hk.1; omega⟩
    clear h hk
    gi_wp2_with fail
    obtain ⟨W0, hW0⟩ : ∃ W0, (w1.alloc (.cells #[] 3)).alloc (.cells #[.slice (some ⟨w1.heap.size, 0, none⟩) 0 0] 24) = W0 := ⟨_, rfl⟩
    rw [hW0]
    have hs0 : W0.heap.size = w1.heap.size + 2 := by rw [← hW0]; simp
    have hws : w.heap.size ≤ w1.heap.size := H1.out.2.size
    have hb0 : Below w1.heap.size w1 W0 := by rw [← hW0]; exact ((Below.refl _ w1).alloc (Nat.le_refl _) _).alloc (by simp) _
    have bx : Boxed W0 (w1.heap.size + 1) 24 (.slice (some ⟨w1.heap.size, 0, none⟩) 0 0) := by
      have := Boxed.new (w1.alloc (.cells #[] 3)) 24 (.slice (some ⟨w1.heap.size, 0, none⟩) 0 0)
      rw [World.size_alloc, hW0] at this
      exact this
    have ow : OwnI W0 w.heap.size (.slice (some ⟨w1.heap.size, 0, none⟩) ([] : List Int).length 0) [] := by
      have h1 : OwnI (w1.alloc (.cells #[] 3)) w.heap.size (.slice (some ⟨w1.heap.size, 0, none⟩) 0 0) [] := World.ownsRow_made w1 #[] 0 hws (Nat.zero_le _) rfl
      rw [← hW0]
      exact h1.stays ((Below.refl _ _).alloc (Nat.le_refl _) _)
    have HI0 : Hid (IntAt W0 v la ∧ ∀ C, HoldsB w (w1.heap.size + 1) W0.heap.size C [] W0) := ⟨H1.out.1.below hb0, fun C => ⟨w1.heap.size, 0, bx, ow, .inl (by omega), H1.out.2.trans (hb0.mono hws)⟩⟩
    have HB0 : Hid (Bides W0.heap.size (HoldsB w (w1.heap.size + 1) W0.heap.size)) := HoldsB.bides (by omega) (by omega)
    clear hb0 bx ow hW0
    refine range_tells (n := n) (gf := 37) (bd := #[v]) rfl (enters_of Try.func37 (by kernel_rfl) rfl) (bits_tells (n - 1) v la W0 hk40 HD.out.1 HD.out.2.1 HI0.out.1) (Below.refl _ _) rfl
      (HoldsB w (w1.heap.size + 1) W0.heap.size) HB0.out HI0.out.2
      (fun x => { tmps := #[v, undef, .slice none 0 0, .pointer (some ⟨w1.heap.size + 1, 0, none⟩), .int .i64 x, v, .bool true, .bool false, .slice (some ⟨w1.heap.size, 0, none⟩) 0 0, v, .func (.func 37) #[v] #[], .int .i64 x, undef, undef, undef, undef, undef], defers := [] }) ?assign ?body ?done
    case assign =>
      intro l x W K hK
      gi_wp2
      exact hK
    case body =>
      rintro l C pre x W hx hC hCW ⟨g, cap, b1, o1, n1, e1⟩
      have hc := b1.cell
      have hlen : pre.length ≤ 560 := by
        have h1 := hx.length_le
        have h2 := bitsI_len HD.out.2.2
        simp at h1
        omega
      have HX : Hid (Boxed W (w1.heap.size + 1) 24 (.slice (some ⟨g, 0, none⟩) pre.length cap) ∧ OwnI W w.heap.size (.slice (some ⟨g, 0, none⟩) pre.length cap) pre ∧ (g < W0.heap.size ∨ C ≤ g) ∧ Below w.heap.size w W) := ⟨b1, o1, n1, e1⟩
      clear b1 o1 n1 e1
      gi_wp2_with (gi_at_builtin; refine wpListIn_append_same rfl _ _ 24 rfl w.heap.size i0 Try.underlying24 hi hz0 hz1 hz2 g pre.length cap (cellsI pre) rfl (World.ownsRow.alloc HX.out.2.1 _) ⟨W.heap.size, 0, none⟩ x rfl ?c1 (by omega) ?c2 ?_)
      case c1 => exact (Boxed.new W 3 (.int .i64 x)).cell
      case c2 => have := HX.out.2.2.2.size; simp; omega
      intro g' cap' w2 h1 h2 h3
      have hws2 : w.heap.size ≤ W.heap.size := HX.out.2.2.2.size
      obtain ⟨hv1, hv2, hr2, hk2, hb2⟩ := HX.out.1.appended (by decide) HX.out.2.1 hws2 (by omega) h1 h2
      have hc1 := hv1.cell
      have hf1 := hv1.frozen
      have hsz2 : W.heap.size ≤ w2.heap.size := Nat.le_trans (by simp) h2.size
      have HR : Hid (Rest W0.heap.size C W (w2.setCell ⟨w1.heap.size + 1, 0, none⟩ (.slice (some ⟨g', 0, none⟩) (pre.length + 1) cap')) ∧ HoldsB w (w1.heap.size + 1) W0.heap.size C (pre ++ [x]) (w2.setCell ⟨w1.heap.size + 1, 0, none⟩ (.slice (some ⟨g', 0, none⟩) (pre.length + 1) cap'))) := by
        have hl1 : (pre ++ [x]).length = pre.length + 1 := by simp
        refine ⟨Rest.setCell ⟨hsz2, fun k k1 k2 => ?_⟩ (.inl (by show w1.heap.size + 1 < W0.heap.size; omega)) _, g', cap', by rw [hl1]; exact hv2, ?_, ?_, HX.out.2.2.2.trans hb2⟩
        · rw [h2.block k (by simp; omega) (fun e => by cases e; have := HX.out.2.2.1; omega), Below.heap_alloc _ _ _ (by omega)]
        · unfold OwnI
          rw [hl1, cellsI_append]
          exact hr2
        · rcases h3 with rfl | rfl
          · exact HX.out.2.2.1
          · exact .inr (by omega)
      rw [hs0] at HR
      clear h1 h2 h3 hv1 hv2 hr2 hk2 hb2 hsz2 HX
      gi_wp2_with fail
      exact HR.out
    case done =>
      rintro D C W hD hDC ⟨g, cap, b1, o1, n1, e1⟩ hK
      have hc := b1.cell
      gi_wp2
      refine ⟨by simp, .inl ⟨_, _, rfl, run_takeDeferred hK, ?_⟩⟩
      have hne : g ≠ D := by omega
      exact ⟨_, results_tmp rfl _ _ _, _, rfl, by unfold bitsL; rw [if_pos HK.out]; exact o1.kept (grownBy_putObj' W D _) (fun e => hne (by cases e; rfl)), e1.grown (grownBy_putObj' W D _) e1.size (fun k e => by cases e; omega)⟩
end Go.Proofs.Ytfepknjdehannaa
