/-
  The program's ShaBlock: stateOf, slices.Clone of numbers, a block more.
-/
import Derived.Test.YtdefiiadnofdpaaDoorStartI
import Derived.Test.YtdefiiadnofdpaaDoorArgI
import Derived.Laws.ResultCell
import Derived.WalkSpells
namespace Go.Proofs.YtdefiiadnofdpaaDoor
open Go.RowKit

/-- Eight numbers of 32 bits. -/
def okS (l : List Int) : Bool := decide (l.length = 8) && l.all fun x => decide (0 ≤ x ∧ x ≤ 4294967295)
theorem okS_iff (l : List Int) : okS l = true ↔ l.length = 8 ∧ ∀ j, j < 8 → 0 ≤ l.getD j 0 ∧ l.getD j 0 ≤ 4294967295 := by
  unfold okS
  simp only [Bool.and_eq_true, decide_eq_true_eq, List.all_eq_true]
  constructor
  · rintro ⟨h1, h2⟩
    refine ⟨h1, fun j hj => ?_⟩
    have := h2 l[j] (List.getElem_mem (by omega))
    simpa [List.getD, show j < l.length by omega] using this
  · rintro ⟨h1, h2⟩
    refine ⟨h1, fun x hx => ?_⟩
    obtain ⟨j, hj, rfl⟩ := List.getElem_of_mem hx
    have := h2 j (by omega)
    simpa [List.getD, hj] using this
/-- The state that they are. -/
def stL (l : List Int) : St := ⟨(l.getD 0 0).toNat, (l.getD 1 0).toNat, (l.getD 2 0).toNat, (l.getD 3 0).toNat, (l.getD 4 0).toNat, (l.getD 5 0).toNat, (l.getD 6 0).toNat, (l.getD 7 0).toNat⟩
theorem stf_stL (l : List Int) (j : Nat) (h : j < 8) : stf (stL l) j = (l.getD j 0).toNat := by
  match j, h with
  | 0, _ => rfl
  | 1, _ => rfl
  | 2, _ => rfl
  | 3, _ => rfl
  | 4, _ => rfl
  | 5, _ => rfl
  | 6, _ => rfl
  | 7, _ => rfl
theorem stL_ok {l : List Int} (h : okS l = true) : (stL l).ok := by
  have h2 := ((okS_iff l).1 h).2
  have a0 := h2 0 (by omega)
  have a1 := h2 1 (by omega)
  have a2 := h2 2 (by omega)
  have a3 := h2 3 (by omega)
  have a4 := h2 4 (by omega)
  have a5 := h2 5 (by omega)
  have a6 := h2 6 (by omega)
  have a7 := h2 7 (by omega)
  refine ⟨?_, ?_, ?_, ?_, ?_, ?_, ?_, ?_⟩ <;> (simp only [stL]; omega)
/-- What ShaBlock answers. -/
def sbL (l : List Int) (b : ByteArray) : List Int := if (okS l && decide (b.size = 64)) = true then toI (stf (blockN (stL l) b.data.toList)) 8 else l
/-- What has been taken over of a list, the rest 0. -/
def upTo (l : List Int) (k : Nat) : Nat → Nat := fun j => if j < k then (l.getD j 0).toNat else 0
theorem upTo_upd (l : List Int) (k : Nat) (j : Nat) : upd (upTo l k) k (l.getD k 0).toNat j = upTo l (k + 1) j := by
  unfold upd upTo
  by_cases h : j = k
  · subst h; simp
  · rw [if_neg h]
    by_cases h2 : j < k
    · rw [if_pos h2, if_pos (by omega)]
    · rw [if_neg h2, if_neg (by omega)]
/-- A list of numbers that lies at whatever place of a block. -/
def IntO (w : World) (v : Value) (l : List Int) : Prop := ∃ ao cap, v = .slice ao l.length cap ∧ (0 < l.length → ∃ g off, ao = some ⟨g, off, none⟩ ∧ g < w.heap.size ∧ ∀ j (hj : j < l.length), w.cell? ⟨g, off + j, none⟩ = some (.int .i64 l[j]))
theorem IntAt.o {w : World} {v : Value} {l : List Int} (h : IntAt w v l) : IntO w v l := by
  obtain ⟨ao, cap, hv, hc⟩ := h
  refine ⟨ao, cap, hv, fun hl => ?_⟩
  obtain ⟨g, hg, hlt, hcs⟩ := hc hl
  exact ⟨g, 0, hg, hlt, fun j hj => by rw [Nat.zero_add]; exact hcs j hj⟩
theorem IntO.below {w w' : World} {v : Value} {l : List Int} (h : IntO w v l) (hb : Below w.heap.size w w') : IntO w' v l := by
  obtain ⟨ao, cap, hv, hc⟩ := h
  refine ⟨ao, cap, hv, fun hl => ?_⟩
  obtain ⟨g, off, hg, hlt, hcs⟩ := hc hl
  exact ⟨g, off, hg, Nat.lt_of_lt_of_le hlt hb.size, fun j hj => by rw [hb.cell (p := ⟨g, off + j, none⟩) hlt]; exact hcs j hj⟩
theorem OwnI.of8 {w : World} {base : Nat} {v : Value} {f : Nat → Nat} (h : w.ownsRow base 3 1 v 8 (cellsI (toI f 8))) : OwnI w base v (toI f 8) := by
  unfold OwnI
  rw [toI_len]
  exact h
theorem results_two {fn : Func} {p u : Tmp} {ty : TypeId} (h : fn.results = #[.cell p ty, .tmp u]) (tmps : Array Value) (w : World) (g : Nat) (f : Nat → Nat) {t e : TypeId} {m : Nat} (hp : tmps.getD p undef = .pointer (some ⟨g, 0, none⟩)) (hr : Row w g t 8 f) (hu : Tryd.prog.underlying ty = some (.array m e)) (hi : (Tryd.prog.info? ty).map (·.size) = some 8) :
    (results fn tmps).run Tryd.prog w = .ok (.tuple #[.agg (arrN 8 f), tmps.getD u undef]) w := by
  rw [results_cell_tmp h, hp]
  simp only [asAddr]
  have hl := hr.load (P := Tryd.prog) hu hi
  simp [Result.andThen, hl]

set_option maxHeartbeats 1600000 in
set_option maxRecDepth 100000 in
theorem stateOf_any (v : Value) (l : List Int) (w : World) (hv : IntO w v l) :
    Calls Tryd.prog 29 #[v] w fun e w' => e = .returned (.tuple #[.agg (arrN 8 (if okS l = true then stf (stL l) else fun _ => 0)), .bool (okS l)]) ∧ Below w.heap.size w w' := by
  obtain ⟨ao, ac, rfl, hc⟩ := hv
  have HC : Hid (0 < l.length → ∃ g off, ao = some ⟨g, off, none⟩ ∧ g < w.heap.size ∧ ∀ j (hj : j < l.length), w.cell? ⟨g, off + j, none⟩ = some (.int .i64 l[j])) := hc
  clear hc
  obtain ⟨F, hF⟩ : ∃ F : Nat → Nat, F = if okS l = true then stf (stL l) else fun _ => 0 := ⟨_, rfl⟩
  rw [← hF]
  obtain ⟨ob, hob⟩ : ∃ ob : Bool, ob = okS l := ⟨_, rfl⟩
  rw [← hob]
  have HFF : Hid ((okS l = false → F = fun _ => 0) ∧ (okS l = true → F = stf (stL l)) ∧ ob = okS l) := ⟨fun h => by rw [hF, h]; rfl, fun h => by rw [hF, if_pos h], hob⟩
  clear hF hob
  go_enter Tryd.func29, Tryd.ntmps29
  go_upto_region 2 with fail
  have HW : Hid (Row ((w.alloc (.cells (arrN 8 fun _ => 0) 46)).alloc (.cells (arrN 8 fun _ => 0) 46)) w.heap.size 46 8 (fun _ => 0) ∧ Row ((w.alloc (.cells (arrN 8 fun _ => 0) 46)).alloc (.cells (arrN 8 fun _ => 0) 46)) (w.heap.size + 1) 46 8 (fun _ => 0) ∧ Below w.heap.size w ((w.alloc (.cells (arrN 8 fun _ => 0) 46)).alloc (.cells (arrN 8 fun _ => 0) 46)) ∧ ((w.alloc (.cells (arrN 8 fun _ => 0) 46)).alloc (.cells (arrN 8 fun _ => 0) 46)).heap.size = w.heap.size + 2) :=
    ⟨(Row.new w _ 8 _).alloc _, Row.new1 w _ _ 8 _, below2 w _ _, size_alloc2 w _ _⟩
  change Code.wp _ _ _ _ ((w.alloc (.cells (arrN 8 fun _ => 0) 46)).alloc (.cells (arrN 8 fun _ => 0) 46))
  generalize (w.alloc (.cells (arrN 8 fun _ => 0) 46)).alloc (.cells (arrN 8 fun _ => 0) 46) = W0 at *
  by_cases h8 : l.length = 8
  · have h8' : ((l.length : Int) != 8) = false := by simp [h8]
    have HR0 : Hid (∀ j, j < 0 → 0 ≤ l.getD j 0 ∧ l.getD j 0 ≤ 4294967295) := fun j hj => by omega
    go_wp2_with fail
    go_loopw [13] (fun iv wr => ∃ k : Nat, k ≤ 8 ∧ iv = .int .i64 k ∧ Hid ((∀ j, j < k → 0 ≤ l.getD j 0 ∧ l.getD j 0 ≤ 4294967295) ∧ Row wr w.heap.size 46 8 (fun _ => 0) ∧ Row wr (w.heap.size + 1) 46 8 (upTo l k) ∧ Below w.heap.size w wr)) (fun iv _ => 8 - (intOf iv).toNat)
    case atStart => exact ⟨0, by omega, rfl, HR0.out, HW.out.1, HW.out.2.1.congr (fun j _ => by simp [upTo]), HW.out.2.2.1⟩
    case round =>
      obtain ⟨k, hk, rfl, H⟩ := hrel
      clear HW HR0
      have hki8 : (l.length : Int) = 8 := by omega
      by_cases hlt : k < 8
      · obtain ⟨g, off, hge, hgl, hcs⟩ := HC.out (by omega)
        subst hge
        have hce : wr.cell? ⟨g, off + k, none⟩ = some (.int .i64 (l.getD k 0)) := by
          rw [H.out.2.2.2.cell (p := ⟨g, off + k, none⟩) hgl, hcs k (by omega)]
          simp [List.getD, show k < l.length by omega]
        clear hcs
        have hkk : (k : Int) < 8 := by omega
        have hk0 : (0 : Int) ≤ (k : Int) := by omega
        obtain ⟨x, hx⟩ : ∃ x, l.getD k 0 = x := ⟨_, rfl⟩
        rw [hx] at hce
        by_cases hr : 0 ≤ x ∧ x ≤ 4294967295
        · obtain ⟨y, rfl⟩ : ∃ y : Nat, x = (y : Int) := ⟨x.toNat, by omega⟩
          have hfr := H.out.2.2.1.free k
          have hcf := H.out.2.2.1.cell k hlt
          have hwr : IntKind.u32.wrap (y : Int) = (y : Int) := by rw [IntKind.wrap_u32]; omega
          have h1 : ¬ (y : Int) < 0 := by omega
          have h2 : ¬ (4294967295 : Int) < (y : Int) := by omega
          have HN : Hid ((∀ j, j < k + 1 → 0 ≤ l.getD j 0 ∧ l.getD j 0 ≤ 4294967295) ∧ Row (wr.setCell ⟨w.heap.size + 1, k, none⟩ (.int .u32 (y : Int))) w.heap.size 46 8 (fun _ => 0) ∧ Row (wr.setCell ⟨w.heap.size + 1, k, none⟩ (.int .u32 (y : Int))) (w.heap.size + 1) 46 8 (upTo l (k + 1)) ∧ Below w.heap.size w (wr.setCell ⟨w.heap.size + 1, k, none⟩ (.int .u32 (y : Int)))) := by
            refine ⟨fun j hj => ?_, H.out.2.1.other _ _ (show w.heap.size ≠ w.heap.size + 1 by omega), (H.out.2.2.1.set k y).congr (fun j _ => ?_), H.out.2.2.2.setCell (p := ⟨w.heap.size + 1, k, none⟩) (show w.heap.size ≤ w.heap.size + 1 by omega) _⟩
            · by_cases e : j = k
              · rw [e, hx]; exact hr
              · exact H.out.1 j (by omega)
            · have hy : y = (l.getD k 0).toNat := by rw [hx]; simp
              rw [hy]
              exact upTo_upd l k j
          clear H hx hr
          generalize upTo l k k = z at *
          go_wp2_with fail
          go_roundw
          case rel => exact ⟨k + 1, by omega, by go_num, HN.out⟩
          case measure => simp [intOf]; omega
        · have HE : Hid (okS l = false) := by
            show okS l = false
            rw [Bool.eq_false_iff]
            intro h
            have := ((okS_iff l).1 h).2 k hlt
            rw [hx] at this
            exact hr this
          have HR : Hid (Row wr w.heap.size 46 8 (fun _ => 0) ∧ Below w.heap.size w wr) := ⟨H.out.2.1, H.out.2.2.2⟩
          clear H hx
          by_cases hneg : x < 0
          · clear hr
            go_wp2_with (refine step_storeRow 46 w.heap.size 8 (fun _ => 0) HR.out.1 rfl rfl rfl rfl rfl info8 ?_; intro W2 HW2)
            have hW2 := HW2.out
            subst hW2
            have hrow := HR.out.1.setRow (g := fun _ => 0)
            rw [HFF.out.1 HE.out, HFF.out.2.2, HE.out]
            exact bodyPost_ret (results_two rfl _ _ w.heap.size _ rfl hrow Tryd.underlying46 info8) rfl ⟨rfl, below_setRow HR.out.2 (Nat.le_refl _) _⟩
          · have hbig : (4294967295 : Int) < x := by omega
            clear hr
            go_wp2_with (refine step_storeRow 46 w.heap.size 8 (fun _ => 0) HR.out.1 rfl rfl rfl rfl rfl info8 ?_; intro W2 HW2)
            have hW2 := HW2.out
            subst hW2
            have hrow := HR.out.1.setRow (g := fun _ => 0)
            rw [HFF.out.1 HE.out, HFF.out.2.2, HE.out]
            exact bodyPost_ret (results_two rfl _ _ w.heap.size _ rfl hrow Tryd.underlying46 info8) rfl ⟨rfl, below_setRow HR.out.2 (Nat.le_refl _) _⟩
      · have hk8 : k = 8 := by omega
        subst hk8
        have HE : Hid (okS l = true) := (okS_iff l).2 ⟨h8, H.out.1⟩
        have HR : Hid (Row wr w.heap.size 46 8 (fun _ => 0) ∧ Row wr (w.heap.size + 1) 46 8 (stf (stL l)) ∧ Below w.heap.size w wr) :=
          ⟨H.out.2.1, H.out.2.2.1.congr (fun j hj => by rw [stf_stL l j hj]; simp [upTo, hj]), H.out.2.2.2⟩
        clear H
        go_wp2_with (first | (refine step_loadRow 46 44 (w.heap.size + 1) 8 HR.out.2.1 rfl rfl rfl Tryd.underlying46 info8 ?_) | (refine step_storeRow 46 w.heap.size 8 (stf (stL l)) HR.out.1 rfl rfl rfl rfl rfl info8 ?_; intro W2 HW2))
        have hW2 := HW2.out
        subst hW2
        have hrow := HR.out.1.setRow (g := stf (stL l))
        rw [HFF.out.2.1 HE.out, HFF.out.2.2, HE.out]
        exact bodyPost_ret (results_two rfl _ _ w.heap.size _ rfl hrow Tryd.underlying46 info8) rfl ⟨rfl, below_setRow HR.out.2.2 (Nat.le_refl _) _⟩
  · have h8' : ((l.length : Int) != 8) = true := by simp; omega
    have HE : Hid (okS l = false) := by
      show okS l = false
      rw [Bool.eq_false_iff]
      intro h
      exact h8 ((okS_iff l).1 h).1
    clear h8
    go_wp2_with (refine step_storeRow 46 w.heap.size 8 (fun _ => 0) HW.out.1 rfl rfl rfl rfl rfl info8 ?_; intro W2 HW2)
    have hW2 := HW2.out
    subst hW2
    have hrow := HW.out.1.setRow (g := fun _ => 0)
    rw [HFF.out.1 HE.out, HFF.out.2.2, HE.out]
    exact bodyPost_ret (results_two rfl _ _ w.heap.size _ rfl hrow Tryd.underlying46 info8) rfl ⟨rfl, below_setRow HW.out.2.2.1 (Nat.le_refl _) _⟩
set_option maxHeartbeats 800000 in
set_option maxRecDepth 100000 in
theorem cloneI_any (v : Value) (l : List Int) (w : World) (hl : l.length ≤ 10000000) (hv : IntO w v l) :
    Calls Tryd.prog 30 #[v] w fun e w' => ∃ v', e = .returned v' ∧ OwnI w' w.heap.size v' l ∧ Below w.heap.size w w' := by
  obtain ⟨i0, hi, hz0, hz1, hz2⟩ := info_parts info3
  obtain ⟨ao, cap, rfl, hc⟩ := hv
  have hnil := fun (a : Option Addr) (n c : Nat) (w : World) => Lib.run_eql_slice_nil w 26 3 a n c 0 0 Tryd.underlying26
  rcases ao with _ | ad
  · have h0 : l = [] := by
      rcases Nat.eq_zero_or_pos l.length with h | h
      · exact List.eq_nil_of_length_eq_zero h
      · obtain ⟨g, off, hg, _⟩ := hc h
        cases hg
    subst h0
    go_enter Tryd.func30, Tryd.ntmps30
    go_wp2
    go_ret
    exact ⟨_, rfl, OwnI.nil _ _, Below.refl _ _⟩
  · have HC : Hid (0 < l.length → ∃ g off, some ad = some (⟨g, off, none⟩ : Addr) ∧ g < w.heap.size ∧ ∀ j (hj : j < l.length), w.cell? ⟨g, off + j, none⟩ = some (.int .i64 l[j])) := hc
    clear hc
    go_enter Tryd.func30, Tryd.ntmps30
    go_wp2_with (at_builtin; refine wpList_append_own _ rfl _ _ 26 rfl w.heap.size 3 i0 (.int .i64 0) 1 8 Tryd.underlying26 hi hz0 hz1 hz2 rfl (by decide) _ _ _ rfl (World.ownsRow_made w #[] 0 (Nat.le_refl _) (Nat.zero_le _) rfl) ad l.length cap (cellsI l) rfl (by simp [cellsI]) ?c1 ?c2 (by unfold maxLen; omega) (by omega) (by simp) ?_)
    case c1 =>
      intro j q hq
      have hj : j < l.length := by
        refine Nat.lt_of_not_le fun h => ?_
        rw [List.getElem?_eq_none (by rw [cellsI_len]; exact h)] at hq
        cases hq
      obtain ⟨g, off, hg, hgl, hcs⟩ := HC.out (by omega)
      cases hg
      rw [Addr.add_lit, World.cell?_of_block (w := w) (Below.heap_alloc w _ g hgl), hcs j hj, ← hq, cellsI_getD hj]
      simp [List.getD, hj]
    case c2 =>
      intro q hq
      obtain ⟨y, _, rfl⟩ := List.mem_map.1 hq
      rfl
    intro v' w1 hown hgrow _
    have HO : Hid (OwnI w1 w.heap.size v' l ∧ Below w.heap.size w w1) := by
      refine ⟨by simpa [OwnI] using hown, ?_⟩
      exact ((Below.refl _ w).alloc (Nat.le_refl _) _).grown hgrow (by simp) (fun k hk => by simp [Value.ownBlock] at hk; omega)
    clear hown hgrow
    go_wp2_with fail
    go_ret
    exact ⟨_, rfl, HO.out⟩

theorem stored_now {w w1 W2 : World} {v : Value} {l : List Int} {f : Nat → Nat} (hW2 : W2 = (w1.alloc (.cells (arrN 8 fun _ => 0) 46)).setRow w1.heap.size (arrN 8 f)) (hb1 : Below w.heap.size w w1) (hv : IntO w v l) (hK : KeysOk w) :
    Hid (IntO W2 v l ∧ Row W2 w1.heap.size 46 8 f ∧ Below w.heap.size w W2 ∧ KeysOk W2) := by
  subst hW2
  have hB : Below w.heap.size w ((w1.alloc (.cells (arrN 8 fun _ => 0) 46)).setRow w1.heap.size (arrN 8 f)) := below_setRow (hb1.alloc hb1.size _) hb1.size _
  exact ⟨hv.below hB, Row.setRow (Row.new w1 46 8 fun _ => 0), hB, keysBelow hK _ hB⟩

set_option maxHeartbeats 1600000 in
set_option maxRecDepth 100000 in
theorem implBlock_any (v : Value) (l : List Int) (b : ByteArray) (w : World) (hl : l.length ≤ 10000000) (hv : IntO w v l) (hK : KeysOk w) :
    Calls Tryd.prog 10 #[v, .string b] w fun e w' => ∃ u, e = .returned u ∧ OwnI w' w.heap.size u (sbL l b) ∧ Below w.heap.size w w' := by
  have HV : Hid (IntO w v l ∧ KeysOk w) := ⟨hv, hK⟩
  clear hv hK
  have E := stateOf_any v l w HV.out.1
  rcases h : okS l with _ | _
  · have HN : Hid (sbL l b = l) := by show sbL l b = l; unfold sbL; rw [if_neg (by rw [h]; simp)]
    rw [h, if_neg (by decide)] at E
    clear h
    go_enter Tryd.func10, Tryd.ntmps10
    go_wp2_with fail
    refine E.mono ?_
    rintro e w1 ⟨rfl, hb1⟩
    clear E
    go_wp2_with (refine step_storeRow 46 w1.heap.size 8 (fun _ => 0) (Row.new w1 46 8 fun _ => 0) rfl rfl rfl rfl rfl info8 ?_; intro W2 HW2)
    have HW : Hid (IntO W2 v l ∧ Row W2 w1.heap.size 46 8 (fun _ => 0) ∧ Below w.heap.size w W2 ∧ KeysOk W2) := by
      have hW2 := HW2.out
      subst hW2
      have hB : Below w.heap.size w ((w1.alloc (.cells (arrN 8 fun _ => 0) 46)).setRow w1.heap.size (arrN 8 (fun _ => 0))) := below_setRow (hb1.alloc hb1.size _) hb1.size _
      exact ⟨HV.out.1.below hB, Row.setRow (Row.new w1 46 8 fun _ => 0), hB, keysBelow HV.out.2 _ hB⟩
    clear HW2 hb1
    obtain ⟨c, hc⟩ : ∃ c, w1.heap.size = c := ⟨_, rfl⟩
    rw [hc] at HW
    try rw [hc]
    clear hc
    go_wp2_with fail
    refine (cloneI_any v l W2 hl HW.out.1).mono ?_
    rintro e w3 ⟨u, rfl, ho3, hb3⟩
    have H3 : Hid (OwnI w3 w.heap.size u (sbL l b) ∧ Below w.heap.size w w3) := ⟨by rw [HN.out]; exact ho3.base HW.out.2.2.1.size, HW.out.2.2.1.trans (hb3.mono HW.out.2.2.1.size)⟩
    clear ho3 hb3
    go_wp2_with fail
    go_ret
    exact ⟨_, rfl, H3.out⟩
  · rw [h, if_pos rfl] at E
    have HO : Hid (stL l).ok := stL_ok h
    by_cases h64 : b.size = 64
    · have HN : Hid (sbL l b = toI (stf (blockN (stL l) b.data.toList)) 8) := by show sbL l b = _; unfold sbL; rw [if_pos (by rw [h, h64]; rfl)]
      have h64' : ((b.size : Int) != 64) = false := by simp [h64]
      clear h
      go_enter Tryd.func10, Tryd.ntmps10
      go_wp2_with fail
      refine E.mono ?_
      rintro e w1 ⟨rfl, hb1⟩
      clear E
      go_wp2_with (first | (refine step_storeRow 46 w1.heap.size 8 (stf (stL l)) (Row.new w1 46 8 fun _ => 0) rfl rfl rfl rfl rfl info8 ?_; intro W2 HW2; have HW := stored_now HW2.out hb1 HV.out.1 HV.out.2) | (refine step_loadRow 46 44 w1.heap.size 8 HW.out.2.1 rfl rfl rfl Tryd.underlying46 info8 ?_))
      have EA := after_any (stL l) b W2 HO.out h64 HW.out.2.2.2
      refine EA.mono ?_
      rintro e w3 ⟨rfl, hb3⟩
      have H3 : Hid (Below w.heap.size w w3) := HW.out.2.2.1.trans (hb3.mono HW.out.2.2.1.size)
      clear hb3 EA
      have HO2 : Hid (blockN (stL l) b.data.toList).ok := blockN_ok _ _
      generalize blockN (stL l) b.data.toList = z at *
      go_wp2_with fail
      refine (numbers_any z w3 HO2.out).mono ?_
      rintro e w4 ⟨u, rfl, ho4, hb4⟩
      have H4 : Hid (OwnI w4 w.heap.size u (sbL l b) ∧ Below w.heap.size w w4) := ⟨by rw [HN.out]; exact (OwnI.of8 ho4).base H3.out.size, H3.out.trans (hb4.mono H3.out.size)⟩
      clear ho4 hb4
      go_wp2_with fail
      go_ret
      exact ⟨_, rfl, H4.out⟩
    · have HN : Hid (sbL l b = l) := by show sbL l b = l; unfold sbL; rw [if_neg (by simp [h64])]
      have h64' : ((b.size : Int) != 64) = true := by simp; omega
      clear h h64
      go_enter Tryd.func10, Tryd.ntmps10
      go_wp2_with fail
      refine E.mono ?_
      rintro e w1 ⟨rfl, hb1⟩
      clear E
      go_wp2_with (refine step_storeRow 46 w1.heap.size 8 (stf (stL l)) (Row.new w1 46 8 fun _ => 0) rfl rfl rfl rfl rfl info8 ?_; intro W2 HW2)
      have HW : Hid (IntO W2 v l ∧ Row W2 w1.heap.size 46 8 (stf (stL l)) ∧ Below w.heap.size w W2 ∧ KeysOk W2) := by
        have hW2 := HW2.out
        subst hW2
        have hB : Below w.heap.size w ((w1.alloc (.cells (arrN 8 fun _ => 0) 46)).setRow w1.heap.size (arrN 8 (stf (stL l)))) := below_setRow (hb1.alloc hb1.size _) hb1.size _
        exact ⟨HV.out.1.below hB, Row.setRow (Row.new w1 46 8 fun _ => 0), hB, keysBelow HV.out.2 _ hB⟩
      clear HW2 hb1
      obtain ⟨c, hc⟩ : ∃ c, w1.heap.size = c := ⟨_, rfl⟩
      rw [hc] at HW
      try rw [hc]
      clear hc
      go_wp2_with fail
      refine (cloneI_any v l W2 hl HW.out.1).mono ?_
      rintro e w3 ⟨u, rfl, ho3, hb3⟩
      have H3 : Hid (OwnI w3 w.heap.size u (sbL l b) ∧ Below w.heap.size w w3) := ⟨by rw [HN.out]; exact ho3.base HW.out.2.2.1.size, HW.out.2.2.1.trans (hb3.mono HW.out.2.2.1.size)⟩
      clear ho3 hb3
      go_wp2_with fail
      go_ret
      exact ⟨_, rfl, H3.out⟩
end Go.Proofs.YtdefiiadnofdpaaDoor
