/-
  What stays of rules: the program's JoinPolicies, of lists that ascend.
-/
import Derived.Test.YtgkdeakbokgfgaaNmJ
import Derived.Test.YtgkdeakbokgfgaaShelf2
import Derived.WalkSmall
import Derived.Deep.AppendLies
namespace Go.Proofs.Ytgkdeakbokgfgaa
open Go.RowKit
set_option linter.unusedVariables false

/-- A list that ascends. -/
def As (l : List Int) : Prop := l.Pairwise (· < ·)
theorem As.le {l : List Int} (h : As l) : l.Pairwise (· ≤ ·) := List.Pairwise.imp (fun h => Int.le_of_lt h) h
theorem sort_as {l : List Int} (h : As l) : (l.mergeSort fun x y => decide (x ≤ y)) = l :=
  List.mergeSort_of_pairwise (List.Pairwise.imp (fun h => decide_eq_true (Int.le_of_lt h)) h)
theorem as_at {l : List Int} (h : As l) {i j : Nat} (hij : i < j) (hj : j < l.length) : l[i]'(by omega) < l[j] := List.pairwise_iff_getElem.1 h i j (by omega) hj hij
theorem compact_as {l : List Int} (h : As l) : Lib.compact l = l := by
  have hk : ∀ j ∈ List.range l.length, Lib.keeps l.toArray j = true := fun j hj => by
    rw [List.mem_range] at hj
    by_cases h0 : j < 1
    · exact Lib.keeps_lt_one _ j h0
    · refine Lib.keeps_pos ?_
      have e1 : l.toArray[j]! = l[j] := by simp [hj]
      have e2 : l.toArray[j - 1]! = l[j - 1]'(by omega) := by simp [show j - 1 < l.length by omega]
      rw [e1, e2]
      have := as_at h (i := j - 1) (j := j) (by omega) hj
      omega
  unfold Lib.compact Lib.compactUpTo
  rw [List.filter_eq_self.2 hk]
  apply List.ext_getElem (by simp)
  intro j h1 h2
  simp [h2]
theorem OwnI.holds {w : World} {b g cap : Nat} {l : List Int} (h : OwnI w b (.slice (some ⟨g, 0, none⟩) l.length cap) l) : Sort.Holds (Value.int .i64) w g 0 l.toArray := fun j hj => by
  have hj2 : j < l.length := by simpa using hj
  refine ⟨?_, ?_⟩
  · rw [Nat.zero_add, h.cell hj2]
    simp [List.getD, hj2]
  · exact h.frozen _
theorem below_ahead (w : World) (n : Nat) (os : Array Obj) : Below w.heap.size w (Sort.grow (Sort.ahead w n) os) :=
  ⟨rfl, rfl, rfl, by simp [Sort.grow, Sort.ahead], fun k hk => by
    show (w.heap ++ os)[k]? = w.heap[k]?
    rw [Array.getElem?_append_left hk]⟩
theorem sort_own (v : Value) (l : List Int) (b : Nat) (w : World) (hl : l.length ≤ 1000000) (ha : As l) (h : OwnI w b v l) : Calls Try.prog 86 #[v] w fun e w' => e = .returned (.tuple #[]) ∧ Below w.heap.size w w' := by
  by_cases h0 : l.length = 0
  · obtain ⟨ao, cap, rfl, _⟩ := h.shape
    rw [h0]
    exact (Try.slices_Sort_int_none ao cap w).mono (by rintro e w' ⟨rfl, rfl⟩; exact ⟨rfl, Below.refl _ _⟩)
  · obtain ⟨ao, cap, rfl, hao, _⟩ := h.shape
    obtain ⟨g, rfl⟩ := hao (by omega)
    refine (Try.slices_Sort_int g 0 cap l w h.holds h.lt.2 (by omega)).mono ?_
    rintro e w' ⟨rfl, n, os, rfl⟩
    refine ⟨rfl, ?_⟩
    rw [sort_as ha, Sort.putRow_self _ _ _ _ _ (Sort.holds_ahead _ _ _ _ _ _ h.holds)]
    exact below_ahead w n os
theorem compact_own (v : Value) (l : List Int) (b : Nat) (w : World) (hl : l.length ≤ 1000000) (ha : As l) (h : OwnI w b v l) : Calls Try.prog 87 #[v] w fun e w' => e = .returned v ∧ Below w.heap.size w w' := by
  by_cases h0 : l.length = 0
  · obtain ⟨ao, cap, rfl, _⟩ := h.shape
    rw [h0]
    exact (Try.slices_Compact_int_empty ao cap w).mono (by rintro e w' ⟨rfl, rfl⟩; exact ⟨rfl, Below.refl _ _⟩)
  · obtain ⟨ao, cap, rfl, hao, hcap, _⟩ := h.shape
    obtain ⟨g, rfl⟩ := hao (by omega)
    refine (Try.slices_Compact_int g 0 cap l w h.holds (by omega) hcap).mono ?_
    rintro e w' ⟨rfl, q, rfl⟩
    rw [compact_as ha, Nat.sub_self, List.replicate_zero, List.append_nil, Sort.putRow_self _ _ _ _ _ (Sort.holds_ahead _ _ _ _ _ _ h.holds)]
    refine ⟨rfl, ?_⟩
    have hb := below_ahead w q #[]
    rw [Sort.grow_empty] at hb
    exact hb
theorem contains_own (v : Value) (l : List Int) (x : Int) (b : Nat) (w : World) (hl : l.length ≤ 1000000) (h : OwnI w b v l) : Calls Try.prog 64 #[v, .int .i64 x] w fun e w' => e = .returned (.bool (decide (x ∈ l))) ∧ w = w' := by
  by_cases h0 : l.length = 0
  · obtain ⟨ao, cap, rfl, _⟩ := h.shape
    have hn : l = [] := List.eq_nil_of_length_eq_zero h0
    subst hn
    exact (Try.slices_Contains_int_empty ao cap x w).mono (by rintro e w' ⟨rfl, rfl⟩; exact ⟨by simp, rfl⟩)
  · obtain ⟨ao, cap, rfl, hao, hcap, _⟩ := h.shape
    obtain ⟨g, rfl⟩ := hao (by omega)
    refine (Try.slices_Contains_int g 0 l.length cap l x w (Nat.le_refl _) (by omega) (fun j hj => by rw [Nat.zero_add]; exact h.cell hj)).mono ?_
    rintro e w' ⟨rfl, rfl⟩
    refine ⟨?_, rfl⟩
    rw [List.take_length]
    simp [List.contains_eq_mem]
theorem search_own (v : Value) (l : List Int) (x : Int) (b : Nat) (w : World) (hl : l.length ≤ 1000000) (ha : As l) (h : OwnI w b v l) : Calls Try.prog 66 #[v, .int .i64 x] w fun e w' => (∃ i : Nat, e = .returned (.tuple #[.int .i64 (i : Int), .bool (decide (x ∈ l))])) ∧ Below w.heap.size w w' := by
  by_cases h0 : l.length = 0
  · obtain ⟨ao, cap, rfl, _⟩ := h.shape
    have hn : l = [] := List.eq_nil_of_length_eq_zero h0
    subst hn
    exact (Try.slices_BinarySearch_int_empty ao cap x w).mono (by rintro e w' ⟨rfl, rfl⟩; exact ⟨⟨0, by simp⟩, Below.refl _ _⟩)
  · obtain ⟨ao, cap, rfl, hao, hcap, _⟩ := h.shape
    obtain ⟨g, rfl⟩ := hao (by omega)
    refine (Try.slices_BinarySearch_int g 0 l.length cap l x w (Nat.le_refl _) (by omega) (fun j hj => by rw [Nat.zero_add]; exact h.cell hj) (by rw [List.take_length]; exact ha.le)).mono ?_
    rintro e w' ⟨rfl, q, rfl⟩
    refine ⟨⟨(l.take l.length).countP (· < x), ?_⟩, below_drewN (Below.refl _ _) _⟩
    rw [List.take_length]
    simp [List.contains_eq_mem]
set_option maxHeartbeats 1600000 in
set_option maxRecDepth 100000 in
theorem inOrder_any (u : Value) (l : List Int) (bu : Nat) (w : World) (hl : l.length ≤ 100000) (ha : As l) (hu : OwnI w bu u l) : Calls Try.prog 65 #[u] w fun e w' => ∃ v, e = .returned v ∧ OwnI w' w.heap.size v l ∧ Below w.heap.size w w' := by
  obtain ⟨i0, hi, hz0, hz1, hz2⟩ := info_parts info3
  obtain ⟨w1, hw1⟩ : ∃ W, W = w.alloc (Obj.cells #[] 3) := ⟨_, rfl⟩
  have hb1 : Below w.heap.size w w1 := by rw [hw1]; exact (Below.refl _ _).alloc (Nat.le_refl _) _
  have H1 : Hid (Below w.heap.size w w1 ∧ OwnI w1 w.heap.size (.slice (some ⟨w.heap.size, 0, none⟩) 0 0) [] ∧ OwnI w1 bu u l ∧ w.heap.size ≤ w1.heap.size) := ⟨hb1, by rw [hw1]; exact litI w [] (by decide), hu.stays hb1, hb1.size⟩
  have HA : Hid (As l) := ha
  clear hb1 hu ha
  go_enter Try.func65, Try.ntmps65
  go_wp2_with (at_builtin; rw [← hw1]; refine wpList_append_list rfl _ _ 29 rfl w.heap.size i0 Try.underlying29 hi hz0 hz1 hz2 _ 0 [] rfl H1.out.2.1 u l bu H1.out.2.2.1 rfl (by omega) H1.out.2.2.2 ?_)
  intro v6 w6 ho6 hg6
  rw [← hw1] at hg6
  have H6 : Hid (OwnI w6 w.heap.size v6 l ∧ Below w.heap.size w w6) := ⟨by simpa [OwnI] using ho6, below_own H1.out.1 H1.out.2.1 (Nat.le_refl _) hg6⟩
  clear ho6 hg6 hw1 H1
  go_wp2_with fail
  refine (sort_own v6 l w.heap.size w6 (by omega) HA.out H6.out.1).mono ?_
  rintro e w7 ⟨rfl, hb7⟩
  have H7 : Hid (OwnI w7 w.heap.size v6 l ∧ Below w.heap.size w w7) := ⟨H6.out.1.stays hb7, H6.out.2.trans (hb7.mono H6.out.2.size)⟩
  clear hb7 H6
  go_wp2_with fail
  refine (compact_own v6 l w.heap.size w7 (by omega) HA.out H7.out.1).mono ?_
  rintro e w8 ⟨rfl, hb8⟩
  have H8 : Hid (OwnI w8 w.heap.size v6 l ∧ Below w.heap.size w w8) := ⟨H7.out.1.stays hb8, H7.out.2.trans (hb8.mono H7.out.2.size)⟩
  clear hb8 H7
  go_wp2_with fail
  go_ret
  exact ⟨v6, rfl, H8.out.1, H8.out.2⟩
/-- What stays, as the program tells it. -/
def ijL (now : List Int) (an : Bool) (cert : List Int) : List Int := if 0 ∈ cert then now else if an = true then cert else now.filter fun x => decide (x ∈ cert)
set_option maxHeartbeats 3200000 in
set_option maxRecDepth 100000 in
theorem implJoin_any (u v : Value) (now cert : List Int) (an : Bool) (bu bv : Nat) (w : World) (hn : now.length ≤ 100000) (hc : cert.length ≤ 100000) (han : As now) (hac : As cert) (hu : OwnI w bu u now) (hv : OwnI w bv v cert) : Calls Try.prog 34 #[u, .bool an, v] w fun e w' => JoinPost w (ijL now an cert) (sjB an cert) e w' := by
  obtain ⟨i0, hi, hz0, hz1, hz2⟩ := info_parts info3
  have HL : Hid ((∀ g, u.ownBlock = some g → g < w.heap.size) ∧ ∀ g, v.ownBlock = some g → g < w.heap.size) := ⟨own_lt hu, own_lt hv⟩
  have HU : Hid (OwnI w bu u now ∧ OwnI w bv v cert ∧ As now ∧ As cert) := ⟨hu, hv, han, hac⟩
  have E1 := contains_own v cert 0 bv w (by omega) hv
  clear hu hv han hac
  by_cases h0 : 0 ∈ cert
  · have HR : Hid (ijL now an cert = now ∧ sjB an cert = an) := ⟨by unfold ijL; rw [if_pos h0], by unfold sjB; rw [if_pos h0]⟩
    rw [decide_eq_true h0] at E1
    clear h0
    go_enter Try.func34, Try.ntmps34
    go_wp2_with fail
    refine E1.mono ?_
    rintro e w' ⟨rfl, rfl⟩
    go_wp2_with fail
    refine (inOrder_any u now bu w hn HU.out.2.2.1 HU.out.1).mono ?_
    rintro e w2 ⟨v2, rfl, ho2, hb2⟩
    have H2 : Hid (OwnI w2 w.heap.size v2 now ∧ Below w.heap.size w w2) := ⟨ho2, hb2⟩
    clear ho2 hb2
    go_wp2_with fail
    go_ret2
    refine ⟨v2, ?_, ?_, H2.out.2⟩
    · rw [HR.out.2]; rfl
    · rw [HR.out.1]; exact H2.out.1
  have hb0 : sjB an cert = false := by unfold sjB; rw [if_neg h0]
  have HR0 : Hid (sjB an cert = false) := hb0
  rw [decide_eq_false h0] at E1
  cases an with
  | true =>
    have HR : Hid (ijL now true cert = cert) := by show ijL now true cert = cert; unfold ijL; rw [if_neg h0, if_pos rfl]
    clear h0 hb0
    go_enter Try.func34, Try.ntmps34
    go_wp2_with fail
    refine E1.mono ?_
    rintro e w' ⟨rfl, rfl⟩
    go_wp2_with fail
    refine (inOrder_any v cert bv w hc HU.out.2.2.2 HU.out.2.1).mono ?_
    rintro e w2 ⟨v2, rfl, ho2, hb2⟩
    have H2 : Hid (OwnI w2 w.heap.size v2 cert ∧ Below w.heap.size w w2) := ⟨ho2, hb2⟩
    clear ho2 hb2
    go_wp2_with fail
    go_ret2
    refine ⟨v2, ?_, ?_, H2.out.2⟩
    · rw [HR0.out]; rfl
    · rw [HR.out]; exact H2.out.1
  | false =>
    obtain ⟨f, hf⟩ : ∃ f : Int → Bool, (fun x => decide (x ∈ cert)) = f := ⟨_, rfl⟩
    have HF : Hid ((fun x => decide (x ∈ cert)) = f) := hf
    have HR : Hid (ijL now false cert = now.filter f) := by show ijL now false cert = _; unfold ijL; rw [if_neg h0, if_neg (by simp), hf]
    clear h0 hb0 hf
    go_enter Try.func34, Try.ntmps34
    go_wp2_with fail
    refine E1.mono ?_
    rintro e w' ⟨rfl, rfl⟩
    go_wp2_with fail
    refine (inOrder_any v cert bv w hc HU.out.2.2.2 HU.out.2.1).mono ?_
    rintro e w2 ⟨v2, rfl, ho2, hb2⟩
    obtain ⟨w3, hw3⟩ : ∃ W, W = w2.alloc (Obj.cells #[] 3) := ⟨_, rfl⟩
    have hb3 : Below w2.heap.size w2 w3 := by rw [hw3]; exact (Below.refl _ _).alloc (Nat.le_refl _) _
    have H3 : Hid (OwnI w3 w.heap.size v2 cert ∧ Below w.heap.size w w3 ∧ OwnI w3 w2.heap.size (.slice (some ⟨w2.heap.size, 0, none⟩) 0 0) [] ∧ (∀ g, v2.ownBlock = some g → g < w2.heap.size) ∧ w.heap.size ≤ w2.heap.size ∧ w2.heap.size ≤ w3.heap.size ∧ OwnI w3 bu u now) := ⟨ho2.stays hb3, hb2.trans (hb3.mono hb2.size), by rw [hw3]; exact litI w2 [] (by decide), own_lt ho2, hb2.size, hb3.size, (HU.out.1.stays hb2).stays hb3⟩
    clear ho2 hb2 hb3
    go_wp2_with fail
    rw [← hw3]
    clear hw3
    refine (inOrder_any u now bu w3 hn HU.out.2.2.1 H3.out.2.2.2.2.2.2).mono ?_
    rintro e w4 ⟨v4, rfl, ho4, hb4⟩
    obtain ⟨bo, bcap, rfl, _⟩ := (ho4.at).each
    have H4 : Hid (OwnI w4 w.heap.size v2 cert ∧ Below w.heap.size w w4 ∧ OwnI w4 w2.heap.size (.slice (some ⟨w2.heap.size, 0, none⟩) 0 0) [] ∧ OwnI w4 w3.heap.size (.slice bo now.length bcap) now) := ⟨H3.out.1.stays hb4, H3.out.2.1.trans (hb4.mono H3.out.2.1.size), H3.out.2.2.1.stays hb4, ho4⟩
    have HNL : Hid (∀ g, (Value.slice bo now.length bcap).ownBlock = some g → w3.heap.size ≤ g ∧ g < w4.heap.size) := fun g hg => World.ownsRow.lt ho4 g hg
    have HK : Hid ((∀ g, v2.ownBlock = some g → g < w2.heap.size) ∧ w.heap.size ≤ w2.heap.size ∧ w2.heap.size < w3.heap.size ∧ w2.heap.size ≤ w4.heap.size) := ⟨H3.out.2.2.2.1, H3.out.2.2.2.2.1, (own_lt H3.out.2.2.1) _ rfl, by have := hb4.size; have := H3.out.2.2.2.2.2.1; omega⟩
    clear ho4 hb4 H3
    go_wp2_with fail
    go_loopw [9, 27] (fun ov iv wr => ∃ k : Nat, k ≤ now.length ∧ iv = .int .i64 k ∧ Hid (OwnI wr w2.heap.size ov ((now.take k).filter f) ∧ (∀ g, ov.ownBlock = some g → g = w2.heap.size ∨ w4.heap.size ≤ g) ∧ Below w.heap.size w wr ∧ OwnI wr w.heap.size v2 cert ∧ OwnI wr w3.heap.size (.slice bo now.length bcap) now ∧ w4.heap.size ≤ wr.heap.size)) (fun _ iv _ => now.length - (intOf iv).toNat)
    case atStart => exact ⟨0, Nat.zero_le _, rfl, H4.out.2.2.1, (fun g hg => .inl (by injection hg with hg; exact hg.symm)), H4.out.2.1, H4.out.1, H4.out.2.2.2, Nat.le_refl _⟩
    case round =>
      obtain ⟨k, hk, rfl, HI⟩ := hrel
      clear H4 E1
      by_cases hlt : k < now.length
      · have hki : (k : Int) < (now.length : Int) := by omega
        have hk0 : (0 : Int) ≤ (k : Int) := by omega
        obtain ⟨bo2, bcap2, hv2, hcb⟩ := (HI.out.2.2.2.2.1.at).each
        injection hv2 with e1 e2 e3
        subst e1 e3
        obtain ⟨g, hao, hg, hcx⟩ := hcb k hlt
        have hfs := filter_step (f := f) hlt
        have hfx : f (now.getD k 0) = decide (now.getD k 0 ∈ cert) := by rw [← HF.out]
        have hfl : ((now.take k).filter f).length ≤ k := by have h1 := List.length_filter_le f (now.take k); rw [List.length_take] at h1; omega
        generalize hx : now.getD k 0 = x at *
        have EC := search_own v2 cert x w.heap.size wr (by omega) HU.out.2.2.2 HI.out.2.2.2.1
        have HX : Hid ((now.take (k + 1)).filter f = (now.take k).filter f ++ (if f x = true then [x] else [])) := hfs
        subst hao
        clear hcb hfs hx e2
        obtain ⟨c, hcc⟩ : ∃ c : Bool, decide (x ∈ cert) = c := ⟨_, rfl⟩
        rw [hcc] at EC hfx
        clear hcc
        go_wp2_with fail
        refine EC.mono ?_
        rintro e wb ⟨⟨i, rfl⟩, hbb⟩
        have HB : Hid (OwnI wb w2.heap.size u9 ((now.take k).filter f) ∧ (∀ g, u9.ownBlock = some g → g = w2.heap.size ∨ w4.heap.size ≤ g) ∧ Below w.heap.size w wb ∧ OwnI wb w.heap.size v2 cert ∧ OwnI wb w3.heap.size (.slice (some ⟨g, 0, none⟩) now.length bcap) now ∧ w4.heap.size ≤ wb.heap.size) := ⟨HI.out.1.stays hbb, HI.out.2.1, HI.out.2.2.1.trans (hbb.mono HI.out.2.2.1.size), HI.out.2.2.2.1.stays hbb, HI.out.2.2.2.2.1.stays hbb, Nat.le_trans HI.out.2.2.2.2.2 hbb.size⟩
        clear HI hbb EC hcx hg
        cases c with
        | true =>
          rw [if_pos hfx] at HX
          have HS : Hid (OwnI (wb.alloc (Obj.cells #[Value.int .i64 x] 3)) w2.heap.size u9 ((now.take k).filter f) ∧ Below w.heap.size w (wb.alloc (Obj.cells #[Value.int .i64 x] 3)) ∧ OwnI (wb.alloc (Obj.cells #[Value.int .i64 x] 3)) w.heap.size v2 cert ∧ OwnI (wb.alloc (Obj.cells #[Value.int .i64 x] 3)) w3.heap.size (.slice (some ⟨g, 0, none⟩) now.length bcap) now ∧ w4.heap.size ≤ (wb.alloc (Obj.cells #[Value.int .i64 x] 3)).heap.size ∧ w2.heap.size ≤ (wb.alloc (Obj.cells #[Value.int .i64 x] 3)).heap.size) := by
            have hb := (Below.refl wb.heap.size wb).alloc (Nat.le_refl _) (Obj.cells #[Value.int .i64 x] 3)
            have hbw := HB.out.2.2.1.alloc HB.out.2.2.1.size (Obj.cells #[Value.int .i64 x] 3)
            have h4 := Nat.le_trans HB.out.2.2.2.2.2 hb.size
            exact ⟨HB.out.1.stays hb, hbw, HB.out.2.2.2.1.stays hb, HB.out.2.2.2.2.1.stays hb, h4, Nat.le_trans HK.out.2.2.2 h4⟩
          go_wp2_with (at_builtin; refine wpList_append_lies _ rfl _ _ 29 rfl w2.heap.size 3 i0 (.int .i64 0) 1 8 Try.underlying29 hi hz0 hz1 hz2 rfl (by decide) u9 _ _ rfl HS.out.1 ⟨wb.heap.size, 0, none⟩ 1 1 [.int .i64 x] rfl rfl (one_new _ _ _) (one_int x) (by decide) (by unfold maxLen; omega) (by omega) HS.out.2.2.2.2.2 _ rfl ?_)
          intro g9 cap9 w9 ho9 hg9 hloc hlt9
          have H9 : Hid (OwnI w9 w2.heap.size (.slice (some ⟨g9, 0, none⟩) (((now.take k).filter f).length + 1) cap9) ((now.take (k + 1)).filter f) ∧ (∀ q, (Value.slice (some ⟨g9, 0, none⟩) (((now.take k).filter f).length + 1) cap9).ownBlock = some q → q = w2.heap.size ∨ w4.heap.size ≤ q) ∧ Below w.heap.size w w9 ∧ OwnI w9 w.heap.size v2 cert ∧ OwnI w9 w3.heap.size (.slice (some ⟨g, 0, none⟩) now.length bcap) now ∧ w4.heap.size ≤ w9.heap.size) := by
            refine ⟨?_, ?_, below_own HS.out.2.1 HS.out.1 HK.out.2.1 hg9, own_aside HS.out.1 hg9 HS.out.2.2.1 HK.out.1, ?_, Nat.le_trans HS.out.2.2.2.2.1 hg9.size⟩
            · rw [HX.out]
              simpa [OwnI, cellsI] using ho9
            · intro q hq
              injection hq with hq
              subst hq
              rcases hloc with h | h
              · exact HB.out.2.1 _ h
              · exact .inr (by rw [h]; have := HB.out.2.2.2.2.2; show w4.heap.size ≤ wb.heap.size + 1; omega)
            · refine World.ownsRow.kept HS.out.2.2.2.1 hg9 (.inr fun e => ?_)
              have h1 := HNL.out g rfl
              have h2 := HB.out.2.1 g e.symm
              have h3 := HK.out.2.2.1
              omega
          clear ho9 hg9 hloc hlt9 HS HB
          go_wp2_with fail
          go_roundw
          case rel => exact ⟨k + 1, by omega, by go_num, H9.out⟩
          case measure => simp [intOf]; omega
        | false =>
          rw [if_neg (by rw [hfx]; simp), List.append_nil] at HX
          have H9 : Hid (OwnI wb w2.heap.size u9 ((now.take (k + 1)).filter f) ∧ (∀ g, u9.ownBlock = some g → g = w2.heap.size ∨ w4.heap.size ≤ g) ∧ Below w.heap.size w wb ∧ OwnI wb w.heap.size v2 cert ∧ OwnI wb w3.heap.size (.slice (some ⟨g, 0, none⟩) now.length bcap) now ∧ w4.heap.size ≤ wb.heap.size) := ⟨by rw [HX.out]; exact HB.out.1, HB.out.2⟩
          clear HB
          go_wp2_with fail
          go_roundw
          case rel => exact ⟨k + 1, by omega, by go_num, H9.out⟩
          case measure => simp [intOf]; omega
      · have hki : ¬ (k : Int) < (now.length : Int) := by omega
        have HE : Hid (OwnI wr w.heap.size u9 (ijL now false cert) ∧ Below w.heap.size w wr) := by
          refine ⟨?_, HI.out.2.2.1⟩
          have h := HI.out.1
          rw [List.take_of_length_le (by omega)] at h
          rw [HR.out]
          exact h.base HK.out.2.1
        clear HI
        go_wp2_with fail
        go_ret2
        refine ⟨u9, ?_, HE.out.1, HE.out.2⟩
        rw [HR0.out]
        rfl
end Go.Proofs.Ytgkdeakbokgfgaa
