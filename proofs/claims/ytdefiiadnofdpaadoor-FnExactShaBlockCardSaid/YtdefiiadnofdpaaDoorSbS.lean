/-
  The specification's ShaBlock.
-/
import Derived.Test.YtdefiiadnofdpaaDoorSbI
import Derived.Test.YtdefiiadnofdpaaDoorKeyS
import Derived.Laws.AppendOwnNone
import Derived.Deep.RegionWith
namespace Go.Proofs.YtdefiiadnofdpaaDoor
open Go.RowKit

/-- 'append(out, list...)' of a list that came in, nil or not. -/
theorem wpList_append_int {w : World} {ops : Array Oper} {rest : List Oper} {o : Oper} {a : Act} {Q : Exit → Act → World → Prop} (hgd : o.guard = none) (s x : Operand) (t : TypeId)
    (ho : o.op = .call { callee := .builtin .append, args := #[s, x], argTypes := #[t, t] }) (base : Nat) (i0 : TypeInfo) (ht : Tryd.prog.underlying t = some (.slice 3)) (hi : Tryd.prog.info? 3 = some i0) (hz0 : i0.zero = some (.int .i64 0)) (hz1 : i0.size = 1) (hz2 : i0.bytes = 8)
    (v : Value) (n : Nat) (xs : List Value) (hs : a.eval s = v) (hown : w.ownsRow base 3 1 v n xs) (u : Value) (lu : List Int) (hu : IntO w u lu) (hnil : ∀ m c, u = .slice none m c → c = 0) (hx : a.eval x = u) (hlen : n + lu.length ≤ 100000000) (hbase : base ≤ w.heap.size)
    (h : ∀ v' w', w'.ownsRow base 3 1 v' (n + lu.length) (xs ++ cellsI lu) → w.grownBy w' v.ownBlock → wpList Tryd.prog ops Q rest (a.put o.dst v') w') : wpList Tryd.prog ops Q (o :: rest) a w := by
  obtain ⟨ao, cap, rfl, hc⟩ := hu
  rcases ao with _ | ad
  · have h0 : lu = [] := by
      rcases Nat.eq_zero_or_pos lu.length with h | h
      · exact List.eq_nil_of_length_eq_zero h
      · obtain ⟨g, off, hg, _⟩ := hc h
        cases hg
    subst h0
    have hc0 := hnil _ _ rfl
    subst hc0
    refine wpList_append_own_none hgd s x t ho base 3 i0 1 ht hi v n xs hs hown hx (h v w (by simpa [cellsI] using hown) (World.grownBy.refl _ _))
  · refine wpList_append_own w hgd s x t ho base 3 i0 (.int .i64 0) 1 8 ht hi hz0 hz1 hz2 rfl (by decide) v n xs hs hown ad lu.length cap (cellsI lu) hx (by simp [cellsI]) (fun j q hq => ?_) (fun q hq => ?_) (by unfold maxLen; omega) (by omega) hbase (fun v' w' h1 h2 _ => h v' w' h1 h2)
    · have hj : j < lu.length := by
        refine Nat.lt_of_not_le fun h => ?_
        rw [List.getElem?_eq_none (by rw [cellsI_len]; exact h)] at hq
        cases hq
      obtain ⟨g, off, hg, _, hcs⟩ := hc (by omega)
      cases hg
      rw [Addr.add_lit, hcs j hj, ← hq, cellsI_getD hj]
      simp [List.getD, hj]
    · obtain ⟨y, _, rfl⟩ := List.mem_map.1 hq
      rfl
theorem appended_out {w w1 : World} {l : List Int} {o1 : Value} (hown : w1.ownsRow w.heap.size 3 1 o1 (0 + l.length) ((#[] : Array Value).toList ++ cellsI l)) (hgrow : (w.alloc (.cells #[] 3)).grownBy w1 (Value.slice (some ⟨w.heap.size, 0, none⟩) 0 0).ownBlock) : Hid (OwnI w1 w.heap.size o1 l ∧ Below w.heap.size w w1) :=
  ⟨by simpa [OwnI] using hown, ((Below.refl _ w).alloc (Nat.le_refl _) _).grown hgrow (by simp) (fun k hk => by simp [Value.ownBlock] at hk; omega)⟩
theorem OwnI.shape2 {w : World} {base : Nat} {v : Value} {l : List Int} (h : OwnI w base v l) : ∃ ao cap, v = .slice ao l.length cap := by
  obtain ⟨ao, cap, hv, _⟩ := h.shape
  exact ⟨ao, cap, hv⟩
theorem own_ne_row {w : World} {base g n cap c : Nat} {t : TypeId} {l : List Int} {f : Nat → Nat} (h : OwnI w base (.slice (some ⟨g, 0, none⟩) n cap) l) (hr : Row w c t 8 f) (ht : t ≠ 3) : g ≠ c := by
  rintro rfl
  rcases h.2 with ⟨h1, _⟩ | ⟨g', cap', cur, hv, _, hg, _⟩
  · cases h1
  · cases hv
    rw [show w.heap[g]? = _ from hr] at hg
    simp at hg
    exact ht hg.2
theorem own_set {w : World} {base c k : Nat} {oo : Option Addr} {n cap : Nat} {t : TypeId} {l : List Int} {f : Nat → Nat} {x : Value} (h : OwnI w base (.slice oo n cap) l) (hr : Row w c t 8 f) (ht : t ≠ 3) : OwnI (w.setCell ⟨c, k, none⟩ x) base (.slice oo n cap) l := by
  obtain ⟨h1, h2⟩ := h
  refine ⟨h1, ?_⟩
  rcases h2 with h2 | ⟨g, cap', cur, hv, hbg, hg, r⟩
  · exact .inl h2
  · refine .inr ⟨g, cap', cur, hv, hbg, ?_, r⟩
    rw [heap_setCell_other w ⟨c, k, none⟩ g x ?_]
    · exact hg
    · intro e
      have e' : g = c := e
      subst e'
      rw [show w.heap[g]? = _ from hr] at hg
      simp at hg
      exact ht hg.2
/-- What is written of a state over a list. -/
def overL (l : List Int) (f : Nat → Nat) : Nat → List Int
  | 0 => l
  | k + 1 => (overL l f k).set k ((f k : Nat) : Int)
theorem overL_len (l : List Int) (f : Nat → Nat) (k : Nat) : (overL l f k).length = l.length := by
  induction k with
  | zero => rfl
  | succ k ih => simp [overL, ih]
theorem overL_getD (l : List Int) (f : Nat → Nat) (k j : Nat) (hk : k ≤ l.length) : (overL l f k).getD j 0 = if j < k then ((f j : Nat) : Int) else l.getD j 0 := by
  induction k with
  | zero => simp [overL]
  | succ k ih =>
    rw [overL, getD_set _ (by rw [overL_len]; omega), ih (by omega)]
    by_cases h : j = k
    · subst h; simp
    · rw [if_neg h]
      by_cases h2 : j < k
      · rw [if_pos h2, if_pos (by omega)]
      · rw [if_neg h2, if_neg (by omega)]
theorem overL_all (l : List Int) (f : Nat → Nat) (h : l.length = 8) : overL l f 8 = toI f 8 := by
  refine ext_getD (by rw [overL_len, toI_len, h]) fun j hj => ?_
  rw [overL_len, h] at hj
  rw [overL_getD l f 8 j (by omega), if_pos hj]
  simp [toI, List.getD, hj]

theorem stored_eight {w w0 : World} {base B c n cap : Nat} {t : TypeId} {f g : Nat → Nat} {oo : Option Addr} {l : List Int} (hr : Row w c t 8 f) (ho : OwnI w base (.slice oo n cap) l) (ht : t ≠ 3) (hB : Below B w0 w) (hc : B ≤ c) :
    Row ((((((((w.setCell ⟨c, 0, none⟩ (.int .u32 ((g 0 : Nat) : Int))).setCell ⟨c, 1, none⟩ (.int .u32 ((g 1 : Nat) : Int))).setCell ⟨c, 2, none⟩ (.int .u32 ((g 2 : Nat) : Int))).setCell ⟨c, 3, none⟩ (.int .u32 ((g 3 : Nat) : Int))).setCell ⟨c, 4, none⟩ (.int .u32 ((g 4 : Nat) : Int))).setCell ⟨c, 5, none⟩ (.int .u32 ((g 5 : Nat) : Int))).setCell ⟨c, 6, none⟩ (.int .u32 ((g 6 : Nat) : Int))).setCell ⟨c, 7, none⟩ (.int .u32 ((g 7 : Nat) : Int))) c t 8 g ∧ OwnI ((((((((w.setCell ⟨c, 0, none⟩ (.int .u32 ((g 0 : Nat) : Int))).setCell ⟨c, 1, none⟩ (.int .u32 ((g 1 : Nat) : Int))).setCell ⟨c, 2, none⟩ (.int .u32 ((g 2 : Nat) : Int))).setCell ⟨c, 3, none⟩ (.int .u32 ((g 3 : Nat) : Int))).setCell ⟨c, 4, none⟩ (.int .u32 ((g 4 : Nat) : Int))).setCell ⟨c, 5, none⟩ (.int .u32 ((g 5 : Nat) : Int))).setCell ⟨c, 6, none⟩ (.int .u32 ((g 6 : Nat) : Int))).setCell ⟨c, 7, none⟩ (.int .u32 ((g 7 : Nat) : Int))) base (.slice oo n cap) l ∧ Below B w0 ((((((((w.setCell ⟨c, 0, none⟩ (.int .u32 ((g 0 : Nat) : Int))).setCell ⟨c, 1, none⟩ (.int .u32 ((g 1 : Nat) : Int))).setCell ⟨c, 2, none⟩ (.int .u32 ((g 2 : Nat) : Int))).setCell ⟨c, 3, none⟩ (.int .u32 ((g 3 : Nat) : Int))).setCell ⟨c, 4, none⟩ (.int .u32 ((g 4 : Nat) : Int))).setCell ⟨c, 5, none⟩ (.int .u32 ((g 5 : Nat) : Int))).setCell ⟨c, 6, none⟩ (.int .u32 ((g 6 : Nat) : Int))).setCell ⟨c, 7, none⟩ (.int .u32 ((g 7 : Nat) : Int))) := by
  have r0 := hr.set 0 (g 0)
  have o0 := own_set (k := 0) (x := .int .u32 ((g 0 : Nat) : Int)) ho hr ht
  have b0 := hB.setCell (p := ⟨c, 0, none⟩) hc (.int .u32 ((g 0 : Nat) : Int))
  have r1 := r0.set 1 (g 1)
  have o1 := own_set (k := 1) (x := .int .u32 ((g 1 : Nat) : Int)) o0 r0 ht
  have b1 := b0.setCell (p := ⟨c, 1, none⟩) hc (.int .u32 ((g 1 : Nat) : Int))
  have r2 := r1.set 2 (g 2)
  have o2 := own_set (k := 2) (x := .int .u32 ((g 2 : Nat) : Int)) o1 r1 ht
  have b2 := b1.setCell (p := ⟨c, 2, none⟩) hc (.int .u32 ((g 2 : Nat) : Int))
  have r3 := r2.set 3 (g 3)
  have o3 := own_set (k := 3) (x := .int .u32 ((g 3 : Nat) : Int)) o2 r2 ht
  have b3 := b2.setCell (p := ⟨c, 3, none⟩) hc (.int .u32 ((g 3 : Nat) : Int))
  have r4 := r3.set 4 (g 4)
  have o4 := own_set (k := 4) (x := .int .u32 ((g 4 : Nat) : Int)) o3 r3 ht
  have b4 := b3.setCell (p := ⟨c, 4, none⟩) hc (.int .u32 ((g 4 : Nat) : Int))
  have r5 := r4.set 5 (g 5)
  have o5 := own_set (k := 5) (x := .int .u32 ((g 5 : Nat) : Int)) o4 r4 ht
  have b5 := b4.setCell (p := ⟨c, 5, none⟩) hc (.int .u32 ((g 5 : Nat) : Int))
  have r6 := r5.set 6 (g 6)
  have o6 := own_set (k := 6) (x := .int .u32 ((g 6 : Nat) : Int)) o5 r5 ht
  have b6 := b5.setCell (p := ⟨c, 6, none⟩) hc (.int .u32 ((g 6 : Nat) : Int))
  have r7 := r6.set 7 (g 7)
  have o7 := own_set (k := 7) (x := .int .u32 ((g 7 : Nat) : Int)) o6 r6 ht
  have b7 := b6.setCell (p := ⟨c, 7, none⟩) hc (.int .u32 ((g 7 : Nat) : Int))
  refine ⟨r7.congr (fun j hj => ?_), o7, b7⟩
  match j, hj with
  | 0, _ => rfl
  | 1, _ => rfl
  | 2, _ => rfl
  | 3, _ => rfl
  | 4, _ => rfl
  | 5, _ => rfl
  | 6, _ => rfl
  | 7, _ => rfl

/-- Eight cells hold eight numbers. -/
def Eight (f : Nat → Nat) (c : Nat) (W : World) : Prop := W.cell? ⟨c, 0, none⟩ = some (.int .u32 ((f 0 : Nat) : Int)) ∧ W.cell? ⟨c, 1, none⟩ = some (.int .u32 ((f 1 : Nat) : Int)) ∧ W.cell? ⟨c, 2, none⟩ = some (.int .u32 ((f 2 : Nat) : Int)) ∧ W.cell? ⟨c, 3, none⟩ = some (.int .u32 ((f 3 : Nat) : Int)) ∧ W.cell? ⟨c, 4, none⟩ = some (.int .u32 ((f 4 : Nat) : Int)) ∧ W.cell? ⟨c, 5, none⟩ = some (.int .u32 ((f 5 : Nat) : Int)) ∧ W.cell? ⟨c, 6, none⟩ = some (.int .u32 ((f 6 : Nat) : Int)) ∧ W.cell? ⟨c, 7, none⟩ = some (.int .u32 ((f 7 : Nat) : Int))
theorem Eight.below {f : Nat → Nat} {c : Nat} {w w' : World} (h : Eight f c w) (hb : Below w.heap.size w w') (hc : c < w.heap.size) : Eight f c w' := by
  have e : ∀ j, w'.cell? ⟨c, j, none⟩ = w.cell? ⟨c, j, none⟩ := fun j => hb.cell (p := ⟨c, j, none⟩) hc
  unfold Eight
  rw [e 0, e 1, e 2, e 3, e 4, e 5, e 6, e 7]
  exact h

set_option maxHeartbeats 3200000 in
set_option maxRecDepth 100000 in
theorem specBlock_any (v : Value) (l : List Int) (b : ByteArray) (w : World) (hl : l.length ≤ 10000000) (hv : IntO w v l) (hnil : ∀ m c, v = .slice none m c → c = 0) :
    Calls Tryd.prog 16 #[v, .string b] w fun e w' => ∃ u, e = .returned u ∧ OwnI w' w.heap.size u (sbL l b) ∧ Below w.heap.size w w' := by
  obtain ⟨i0, hi, hz0, hz1, hz2⟩ := info_parts info3
  have HV : Hid (IntO w v l) := hv
  obtain ⟨ao, ac, rfl, _⟩ := hv
  by_cases h8 : l.length = 8
  · have h8' : ((l.length : Int) != 8) = false := by simp [h8]
    by_cases h64 : b.size = 64
    · have h64' : ((b.size : Int) != 64) = false := by simp [h64]
      go_enter Tryd.func16, Tryd.ntmps16
      go_wp2_with (first | (at_builtin; refine wpList_append_int rfl _ _ 26 rfl w.heap.size i0 Tryd.underlying26 hi hz0 hz1 hz2 _ _ _ rfl (World.ownsRow_made w #[] 0 (Nat.le_refl _) (Nat.zero_le _) rfl) _ l (HV.out.below ((Below.refl _ _).alloc (Nat.le_refl _) _)) hnil rfl (by omega) (by simp) ?_; intro o1 w1 hown hgrow; have H1 := appended_out hown hgrow; obtain ⟨oo, oc, hoe⟩ := H1.out.1.shape2; subst hoe; clear hown hgrow) | (refine step_storeRow 45 w1.heap.size 8 (fun _ => 0) (Row.new w1 45 8 fun _ => 0) rfl rfl rfl rfl rfl info8s ?_; intro W2 HW2))
      have HW : Hid (OwnI W2 w.heap.size (.slice oo 8 oc) l ∧ Row W2 w1.heap.size 45 8 (fun _ => 0) ∧ Below w.heap.size w W2 ∧ w.heap.size ≤ w1.heap.size) := by
        have hW2 := HW2.out
        have h1 := H1.out
        rw [h8] at h1
        subst hW2
        have hB : Below w1.heap.size w1 ((w1.alloc (.cells (arrN 8 fun _ => 0) 45)).setRow w1.heap.size (arrN 8 fun _ => 0)) := below_setRow ((Below.refl _ _).alloc (Nat.le_refl _) _) (Nat.le_refl _) _
        exact ⟨h1.1.stays hB, Row.setRow (Row.new w1 45 8 fun _ => 0), h1.2.trans (hB.mono h1.2.size), h1.2.size⟩
      have HV8 : Hid (IntO w (.slice ao 8 ac) l) := by have h := HV.out; rw [h8] at h; exact h
      obtain ⟨c, hc⟩ : ∃ c, w1.heap.size = c := ⟨_, rfl⟩
      rw [hc] at HW
      try rw [hc]
      clear hc HW2 H1 h8' h64'
      have HR0 : Hid (∀ j, j < 0 → 0 ≤ l.getD j 0 ∧ l.getD j 0 ≤ 4294967295) := fun j hj => by omega
      have H88 : Hid (l.length = 8) := h8
      have H64 : Hid (b.size = 64) := h64
      clear h8 h64 HV hl
      go_loopw [7] (fun iv wr => ∃ k : Nat, k ≤ 8 ∧ iv = .int .i64 k ∧ Hid ((∀ j, j < k → 0 ≤ l.getD j 0 ∧ l.getD j 0 ≤ 4294967295) ∧ OwnI wr w.heap.size (.slice oo 8 oc) l ∧ Row wr c 45 8 (upTo l k) ∧ Below w.heap.size w wr ∧ w.heap.size ≤ c)) (fun iv _ => 8 - (intOf iv).toNat)
      case atStart => exact ⟨0, by omega, rfl, HR0.out, HW.out.1, HW.out.2.1.congr (fun j _ => by simp [upTo]), HW.out.2.2⟩
      case round =>
        obtain ⟨k, hk, rfl, H⟩ := hrel
        clear HW HR0
        by_cases hlt : k < 8
        · obtain ⟨ao', ac', hve, hcs0⟩ := HV8.out
          rw [H88.out] at hve
          cases hve
          obtain ⟨g, off, hge, hgl, hcs⟩ := hcs0 (by rw [H88.out]; omega)
          subst hge
          have hce : wr.cell? ⟨g, off + k, none⟩ = some (.int .i64 (l.getD k 0)) := by
            rw [H.out.2.2.2.1.cell (p := ⟨g, off + k, none⟩) hgl, hcs k (by rw [H88.out]; exact hlt)]
            simp [List.getD, show k < l.length by rw [H88.out]; exact hlt]
          clear hcs hcs0
          have hkk : (k : Int) < 8 := by omega
          have hk0 : (0 : Int) ≤ (k : Int) := by omega
          obtain ⟨x, hx⟩ : ∃ x, l.getD k 0 = x := ⟨_, rfl⟩
          rw [hx] at hce
          by_cases hr : 0 ≤ x ∧ x ≤ 4294967295
          · obtain ⟨y, rfl⟩ : ∃ y : Nat, x = (y : Int) := ⟨x.toNat, by omega⟩
            have hfr := H.out.2.2.1.free k
            have hcf := H.out.2.2.1.cell k hlt
            have hwr : IntKind.u32.wrap (y : Int) = (y : Int) := by rw [IntKind.wrap_u32]; omega
            have HN : Hid ((∀ j, j < k + 1 → 0 ≤ l.getD j 0 ∧ l.getD j 0 ≤ 4294967295) ∧ OwnI (wr.setCell ⟨c, k, none⟩ (.int .u32 (y : Int))) w.heap.size (.slice oo 8 oc) l ∧ Row (wr.setCell ⟨c, k, none⟩ (.int .u32 (y : Int))) c 45 8 (upTo l (k + 1)) ∧ Below w.heap.size w (wr.setCell ⟨c, k, none⟩ (.int .u32 (y : Int))) ∧ w.heap.size ≤ c) := by
              refine ⟨fun j hj => ?_, ?_, (H.out.2.2.1.set k y).congr (fun j _ => ?_), H.out.2.2.2.1.setCell (p := ⟨c, k, none⟩) H.out.2.2.2.2 _, H.out.2.2.2.2⟩
              · by_cases e : j = k
                · rw [e, hx]; exact hr
                · exact H.out.1 j (by omega)
              · exact own_set H.out.2.1 H.out.2.2.1 (by decide)
              · have hy : y = (l.getD k 0).toNat := by rw [hx]; simp
                rw [hy]
                exact upTo_upd l k j
            clear H hx
            generalize upTo l k k = z at *
            go_wp2_with (go_at_call 41; refine (in_yes _ _ _ _ (by omega) (by omega)).mono ?_; rintro e w' ⟨rfl, rfl⟩)
            go_roundw
            case rel => exact ⟨k + 1, by omega, by go_num, HN.out⟩
            case measure => simp [intOf]; omega
          · have HE : Hid (sbL l b = l) := by
              show sbL l b = l
              unfold sbL
              refine if_neg (fun h => hr ?_)
              have := ((okS_iff l).1 (Bool.and_eq_true_iff.1 h).1).2 k hlt
              rw [hx] at this
              exact this
            have HR : Hid (OwnI wr w.heap.size (.slice oo 8 oc) l ∧ Below w.heap.size w wr) := ⟨H.out.2.1, H.out.2.2.2.1⟩
            have hno : x < 0 ∨ 4294967295 < x := by omega
            have HNO : Hid (x < 0 ∨ 4294967295 < x) := hno
            clear H hx hr hno
            go_wp2_with (go_at_call 41; refine (in_no _ _ _ _ HNO.out).mono ?_; rintro e w' ⟨rfl, rfl⟩)
            go_ret
            exact ⟨_, rfl, by rw [HE.out]; exact HR.out.1, HR.out.2⟩
        · have hk8 : k = 8 := by omega
          subst hk8
          have hok : okS l = true := (okS_iff l).2 ⟨H88.out, H.out.1⟩
          have HE : Hid (sbL l b = toI (stf (blockN (stL l) b.data.toList)) 8) := by
            show sbL l b = _
            unfold sbL
            exact if_pos (by rw [hok, H64.out]; rfl)
          have HR : Hid (OwnI wr w.heap.size (.slice oo 8 oc) l ∧ Row wr c 45 8 (stf (stL l)) ∧ Below w.heap.size w wr ∧ w.heap.size ≤ c) :=
            ⟨H.out.2.1, H.out.2.2.1.congr (fun j hj => by rw [stf_stL l j hj]; simp [upTo, hj]), H.out.2.2.2⟩
          have HO : Hid (stL l).ok := stL_ok hok
          clear H hok
          have hcw : Eight (stf (stL l)) c wr.drew := ⟨HR.out.2.1.cell 0 (by omega), HR.out.2.1.cell 1 (by omega), HR.out.2.1.cell 2 (by omega), HR.out.2.1.cell 3 (by omega), HR.out.2.1.cell 4 (by omega), HR.out.2.1.cell 5 (by omega), HR.out.2.1.cell 6 (by omega), HR.out.2.1.cell 7 (by omega)⟩
          have HE8 : Hid (Eight (stf (stL l)) c wr.drew) := hcw
          have HCL : Hid (c < wr.heap.size) := (Array.getElem?_eq_some_iff.1 HR.out.2.1).1
          have HRD : Hid (Row wr.drew c 45 8 (stf (stL l))) := HR.out.2.1
          obtain ⟨hc0, hc1, hc2, hc3, hc4, hc5, hc6, hc7⟩ := hcw
          have EB : ∀ W, Hid (Calls Tryd.prog 40 #[.agg (arrN 8 (stf (stL l))), .string b, .agg (arrN 64 keyf)] W fun e w' => e = .returned (.agg (arrN 8 (stf (blockN (stL l) b.data.toList)))) ∧ Below W.heap.size W w') := fun W => block_any (stL l) b W HO.out H64.out
          have HZ : Hid (blockN (stL l) b.data.toList).ok := blockN_ok _ _
          generalize blockN (stL l) b.data.toList = z at *
          generalize stf (stL l) = f at *
          have hz8 : arrN 8 (stf z) = #[.int .u32 ((stf z 0 : Nat) : Int), .int .u32 ((stf z 1 : Nat) : Int), .int .u32 ((stf z 2 : Nat) : Int), .int .u32 ((stf z 3 : Nat) : Int), .int .u32 ((stf z 4 : Nat) : Int), .int .u32 ((stf z 5 : Nat) : Int), .int .u32 ((stf z 6 : Nat) : Int), .int .u32 ((stf z 7 : Nat) : Int)] := rfl
          go_wp2_with fail
          go_region_with (first | (go_at_call 38; refine (keys_any _).mono ?_; rintro e w31 ⟨rfl, hb31⟩; have H31 := HE8.out.below hb31 HCL.out; have HR31 : Hid (Row w31 c 45 8 f) := HRD.out.below hb31 HCL.out; obtain ⟨k0, k1, k2, k3, k4, k5, k6, k7⟩ := H31) | (go_at_call 40; refine (EB _).out.mono ?_; rintro e w32 ⟨rfl, hb32⟩; have HR32 : Hid (Row w32 c 45 8 f) := HR31.out.below hb32 (Nat.lt_of_lt_of_le HCL.out hb31.size); have m0 := HR32.out.cell 0 (by omega); have m1 := HR32.out.cell 1 (by omega); have m2 := HR32.out.cell 2 (by omega); have m3 := HR32.out.cell 3 (by omega); have m4 := HR32.out.cell 4 (by omega); have m5 := HR32.out.cell 5 (by omega); have m6 := HR32.out.cell 6 (by omega); have m7 := HR32.out.cell 7 (by omega); have n0 := HR32.out.free 0; have n1 := HR32.out.free 1; have n2 := HR32.out.free 2; have n3 := HR32.out.free 3; have n4 := HR32.out.free 4; have n5 := HR32.out.free 5; have n6 := HR32.out.free 6; have n7 := HR32.out.free 7))
          all_goals (
            obtain ⟨W3, hW3⟩ : ∃ W3, ((((((((w32.setCell ⟨c, 0, none⟩ (.int .u32 ((stf z 0 : Nat) : Int))).setCell ⟨c, 1, none⟩ (.int .u32 ((stf z 1 : Nat) : Int))).setCell ⟨c, 2, none⟩ (.int .u32 ((stf z 2 : Nat) : Int))).setCell ⟨c, 3, none⟩ (.int .u32 ((stf z 3 : Nat) : Int))).setCell ⟨c, 4, none⟩ (.int .u32 ((stf z 4 : Nat) : Int))).setCell ⟨c, 5, none⟩ (.int .u32 ((stf z 5 : Nat) : Int))).setCell ⟨c, 6, none⟩ (.int .u32 ((stf z 6 : Nat) : Int))).setCell ⟨c, 7, none⟩ (.int .u32 ((stf z 7 : Nat) : Int))) = W3 := ⟨_, rfl⟩
            have HS : Hid (Row W3 c 45 8 (stf z) ∧ OwnI W3 w.heap.size (.slice oo 8 oc) l ∧ Below w.heap.size w W3 ∧ w.heap.size ≤ c) := by
              have hB32 : Below w.heap.size w w32 := (HR.out.2.2.1.drew.trans (hb31.mono (show w.heap.size ≤ wr.drew.heap.size from HR.out.2.2.1.size))).trans (hb32.mono (Nat.le_trans (show w.heap.size ≤ wr.drew.heap.size from HR.out.2.2.1.size) hb31.size))
              have h := stored_eight (g := stf z) HR32.out ((HR.out.1.drew.stays hb31).stays hb32) (by decide) hB32 HR.out.2.2.2
              rw [hW3] at h
              exact ⟨h.1, h.2.1, h.2.2, HR.out.2.2.2⟩
            rw [hW3]
            clear hW3 hc0 hc1 hc2 hc3 hc4 hc5 hc6 hc7 k0 k1 k2 k3 k4 k5 k6 k7 m0 m1 m2 m3 m4 m5 m6 m7 n0 n1 n2 n3 n4 n5 n6 n7 hz8 HR HR31 HR32 HE8 HRD EB hb31 hb32 HCL
            go_wp2_with fail
            go_loopw [8] (fun iv wr => ∃ k : Nat, k ≤ 8 ∧ iv = .int .i64 k ∧ Hid (Row wr c 45 8 (stf z) ∧ OwnI wr w.heap.size (.slice oo 8 oc) (overL l (stf z) k) ∧ Below w.heap.size w wr)) (fun iv _ => 8 - (intOf iv).toNat)
            case atStart => exact ⟨0, by omega, rfl, HS.out.1, HS.out.2.1, HS.out.2.2.1⟩
            case round =>
              obtain ⟨k, hk, rfl, H⟩ := hrel
              by_cases hlt : k < 8
              · have hlen : (overL l (stf z) k).length = 8 := by rw [overL_len, H88.out]
                have hO : OwnI wr w.heap.size (.slice oo (overL l (stf z) k).length oc) (overL l (stf z) k) := by rw [hlen]; exact H.out.2.1
                obtain ⟨ox, cx, hvx, hgx, _⟩ := hO.shape
                cases hvx
                obtain ⟨g, hge⟩ := hgx (by omega)
                subst hge
                have hgc := own_ne_row H.out.2.1 H.out.1 (by decide)
                have hu := hO.cell (j := k) (by omega)
                have hfz := hO.frozen k
                have hce := H.out.1.cell k hlt
                have hyl := stf_lt z HZ.out k
                have HOS := hO.set k ((stf z k : Nat) : Int)
                rw [List.length_set, hlen] at HOS
                have HN : Hid (Row (wr.setCell ⟨g, k, none⟩ (.int .i64 ((stf z k : Nat) : Int))) c 45 8 (stf z) ∧ OwnI (wr.setCell ⟨g, k, none⟩ (.int .i64 ((stf z k : Nat) : Int))) w.heap.size (.slice (some ⟨g, 0, none⟩) 8 oc) (overL l (stf z) (k + 1)) ∧ Below w.heap.size w (wr.setCell ⟨g, k, none⟩ (.int .i64 ((stf z k : Nat) : Int)))) :=
                  ⟨H.out.1.other _ _ (fun e => hgc e.symm), HOS, H.out.2.2.setCell (p := ⟨g, k, none⟩) hO.lt.1 _⟩
                clear H HOS hO hgx hlen
                have hkk : (k : Int) < 8 := by omega
                have hk0 : (0 : Int) ≤ (k : Int) := by omega
                generalize (overL l (stf z) k).getD k 0 = q at *
                generalize stf z k = y at *
                go_wp2_with fail
                go_roundw
                case rel => exact ⟨k + 1, by omega, by go_num, HN.out⟩
                case measure => simp [intOf]; omega
              · have hk8 : k = 8 := by omega
                subst hk8
                have HF : Hid (OwnI wr w.heap.size (.slice oo 8 oc) (sbL l b) ∧ Below w.heap.size w wr) := by
                  refine ⟨?_, H.out.2.2⟩
                  rw [HE.out, ← overL_all l (stf z) H88.out]
                  exact H.out.2.1
                clear H
                go_wp2_with fail
                go_ret
                exact ⟨_, rfl, HF.out⟩)
    · have h64' : ((b.size : Int) != 64) = true := by simp; omega
      have HN : Hid (sbL l b = l) := by show sbL l b = l; unfold sbL; rw [if_neg (by simp [h64])]
      clear h64
      go_enter Tryd.func16, Tryd.ntmps16
      go_wp2_with (at_builtin; refine wpList_append_int rfl _ _ 26 rfl w.heap.size i0 Tryd.underlying26 hi hz0 hz1 hz2 _ _ _ rfl (World.ownsRow_made w #[] 0 (Nat.le_refl _) (Nat.zero_le _) rfl) _ l (HV.out.below ((Below.refl _ _).alloc (Nat.le_refl _) _)) hnil rfl (by omega) (by simp) ?_; intro o1 w1 hown hgrow; have H1 := appended_out hown hgrow; obtain ⟨oo, oc, hoe⟩ := H1.out.1.shape2; subst hoe; clear hown hgrow)
      go_ret
      exact ⟨_, rfl, by rw [HN.out]; have h := H1.out.1; rw [h8] at h; exact h, H1.out.2⟩
  · have h8' : ((l.length : Int) != 8) = true := by simp; omega
    have HN : Hid (sbL l b = l) := by
      show sbL l b = l
      unfold sbL
      exact if_neg (fun h => h8 ((okS_iff l).1 (Bool.and_eq_true_iff.1 h).1).1)
    clear h8
    go_enter Tryd.func16, Tryd.ntmps16
    go_wp2_with (at_builtin; refine wpList_append_int rfl _ _ 26 rfl w.heap.size i0 Tryd.underlying26 hi hz0 hz1 hz2 _ _ _ rfl (World.ownsRow_made w #[] 0 (Nat.le_refl _) (Nat.zero_le _) rfl) _ l (HV.out.below ((Below.refl _ _).alloc (Nat.le_refl _) _)) hnil rfl (by omega) (by simp) ?_; intro o1 w1 hown hgrow; have H1 := appended_out hown hgrow; obtain ⟨oo, oc, hoe⟩ := H1.out.1.shape2; subst hoe; clear hown hgrow)
    go_ret
    exact ⟨_, rfl, by rw [HN.out]; exact H1.out.1, H1.out.2⟩
theorem specBlock_own (v : Value) (l : List Int) (b : ByteArray) (base : Nat) (w : World) (hl : l.length ≤ 10000000) (ho : OwnI w base v l) :
    Calls Tryd.prog 16 #[v, .string b] w fun e w' => ∃ u, e = .returned u ∧ OwnI w' w.heap.size u (sbL l b) ∧ Below w.heap.size w w' :=
  specBlock_any v l b w hl ho.at.o (fun m c hv => by
    rcases ho.2 with ⟨h, _⟩ | ⟨g, cap, cur, h, _⟩
    · rw [hv] at h
      cases h
      rfl
    · rw [hv] at h
      cases h)
theorem sbL_len (l : List Int) (b : ByteArray) : (sbL l b).length = l.length := by
  unfold sbL
  split
  · rename_i h
    rw [toI_len, ((okS_iff l).1 (Bool.and_eq_true_iff.1 h).1).1]
  · rfl
end Go.Proofs.YtdefiiadnofdpaaDoor
