/-
  Texts of the proof, one behind the other: SvB, AnA.
-/
import Derived.Test.YtplblechcnbieaaGreatSK10
import Derived.Test.YtplblechcnbieaaGreatSK12
import Derived.Test.YtplblechcnbieaaGreatSK15
import Derived.Test.YtplblechcnbieaaGreatSK16

/-
  Rows of lists of what was called back: the kind, and the laws' helpers toCrlS, szCrlS, eqCrlS.
-/
namespace Go.Proofs.YtplblechcnbieaaGreat
open Go.RowKit
set_option linter.unusedVariables false
set_option linter.unusedSimpArgs false

theorem OwnL.same {w w' : World} {base : Nat} {v : Value} {c : Cl} (h : OwnL w base v c) (hs : ∀ g ∈ fpL v, w'.heap[g]? = w.heap[g]?) : OwnL w' base v c := by
  obtain ⟨p, rfl, h1⟩ := h
  exact ⟨p, rfl, row_same h1 fun g hg => hs g (fpL_mem.2 hg)⟩
theorem own_one {w : World} {base : Nat} {p : Value} {l : List (Int × Int)} (h : OwnR w base p l) : p.oneCell' = true := by
  obtain ⟨ao, cap, rfl, _⟩ := h.shape
  rfl
/-- Lists of what was called back, as a kind of struct. -/
def crlKd : Kd Cl where
  T := 57
  K := 7
  Own := OwnL
  At := ClAt
  fp := fpL
  pos := by decide
  size := fun h => by
    obtain ⟨p, rfl, h1⟩ := h
    refine ⟨rfl, fun x hx => ?_⟩
    change x ∈ [_, _, _, _, _, _, _] at hx
    simp only [List.mem_cons, List.not_mem_nil, or_false] at hx
    rcases hx with rfl | rfl | rfl | rfl | rfl | rfl | rfl
    all_goals first | rfl | exact own_one h1
  same := OwnL.same
  lt := fpL_lt
  base := OwnL.base
  nodup := fun h => by
    obtain ⟨p, rfl, h1⟩ := h
    show (p.ownBlock.toList).Nodup
    cases p.ownBlock <;> simp
  own_at := OwnL.at
  below := ClAt.below
/-- The list that is empty in all. -/
def zeL : Cl := ⟨⟨#[]⟩, 0, 0, 0, 0, [], ⟨#[]⟩⟩
def zeV : Value := .agg #[.string ⟨#[]⟩, .int .i64 0, .int .i64 0, .int .i64 0, .int .i64 0, .slice none 0 0, .string ⟨#[]⟩]
theorem own_zeL (w : World) (base : Nat) : OwnL w base zeV zeL := ⟨.slice none 0 0, rfl, World.ownsRow_nil _ _ _ _⟩
theorem infoCrl : (Tryz.prog.info? 57).map (fun i => (i.zero, i.size, i.bytes)) = some (some (.agg #[.string ⟨#[]⟩, .int .i64 0, .int .i64 0, .int .i64 0, .int .i64 0, .slice none 0 0, .string ⟨#[]⟩]), 7, 88) := by kernel_rfl
/-- What rows of lists weigh. -/
def wtS (l : List Cl) : Nat := l.length + (l.map wtL).sum
theorem wtS_mem : ∀ {l : List Cl} {c : Cl}, c ∈ l → wtL c ≤ wtS l
  | c :: l, d, h => by
    rcases List.mem_cons.1 h with rfl | h
    · unfold wtS; simp; omega
    · have := wtS_mem h
      unfold wtS at this ⊢
      simp
      omega
theorem sum_take {l : List Nat} {k : Nat} (h : k < l.length) : (l.take (k + 1)).sum = (l.take k).sum + l[k] := by
  rw [List.take_add_one, List.sum_append, List.getElem?_eq_getElem h]
  simp
theorem sum_take_le (l : List Nat) (k : Nat) : (l.take k).sum ≤ l.sum := by
  have h : (l.take k ++ l.drop k).sum = (l.take k).sum + (l.drop k).sum := List.sum_append
  rw [List.take_append_drop] at h
  omega
/-- A row of lists that came in. -/
def ArgS (B : Nat) (w : World) (v : Value) (l : List Cl) : Prop := RowS 7 B (ArgL B w) w v l
theorem ArgS.below {B : Nat} {w w' : World} {v : Value} {l : List Cl} (h : ArgS B w v l) (hb : Below B w w') {B' : Nat} (hB : B ≤ B') : ArgS B' w' v l := RowS.below h hb (fun _ _ hP => (hP.below hb).mono hB) hB
theorem fill_set {l : List Cl} {k : Nat} (hk : k < l.length) : (l.take k ++ List.replicate (l.length - k) zeL).set k l[k] = l.take (k + 1) ++ List.replicate (l.length - (k + 1)) zeL := by
  have e : (l.take k).length = k := by rw [List.length_take]; omega
  rw [List.set_append_right _ _ (by omega), e, Nat.sub_self, show l.length - k = (l.length - (k + 1)) + 1 by omega, List.replicate_succ, List.set_cons_zero, List.take_succ_eq_append_getElem hk, List.append_assoc]
  rfl
theorem fill_len {l : List Cl} {k : Nat} (hk : k ≤ l.length) : (l.take k ++ List.replicate (l.length - k) zeL).length = l.length := by
  rw [List.length_append, List.length_take, List.length_replicate]
  omega
/-- The cells of one of the row, and that they may be written. -/
theorem OwnS.cells {w : World} {base g n cap : Nat} {l : List Cl} {fp : List Nat} (h : OwnS crlKd w base (.slice (some ⟨g, 0, none⟩) n cap) l fp) (hn : n = l.length) {j : Nat} (hj : j < l.length) :
    (∃ u, OwnL w base u l[j] ∧ (∀ b ∈ fpL u, b ∈ fp ∧ b ≠ g) ∧ ∀ i x, u.cells[i]? = some x → w.cell? ⟨g, j * 7 + i, none⟩ = some x) ∧ ∀ i, w.frozen? ⟨g, i, none⟩ = false := by
  subst hn
  obtain ⟨vs, hl, hr, he, rfl, hnd⟩ := h
  have hsz := OwnS.sizes hl he
  refine ⟨⟨vs[j]'(by omega), he j (by omega) hj, fun b hb => ⟨List.mem_append_right _ (mem_flat (by omega) hb), fun e => ?_⟩, fun i x hx => ?_⟩, fun i => World.ownsRow.frozenAt hr i⟩
  · subst e
    exact (List.nodup_append.1 hnd).2.2 b (by simp [Value.ownBlock]) b (mem_flat (by omega) hb) rfl
  · have hi : i < 7 := by
      have := (Array.getElem?_eq_some_iff.1 hx).1
      rw [hsz _ (List.getElem_mem _)] at this
      exact this
    rw [World.ownsRow.cellAt hr _ (by show j * 7 + i < l.length * 7; omega)]
    exact (cellsV_at hsz j (by omega) i hi).trans hx
theorem ArgL.shape {B : Nat} {w : World} {v : Value} {c : Cl} (h : ArgL B w v c) : ∃ p q, v = clV c (.slice p c.revs.length q) := by
  obtain ⟨pa, pc, hv, _⟩ := h
  exact ⟨pa, pc, hv⟩
set_option maxHeartbeats 6400000 in
set_option maxRecDepth 100000 in
theorem toCrlS_any (v : Value) (l : List Cl) (B : Nat) (w : World) (hl : wtS l ≤ 1048576) (hB : B ≤ w.heap.size) (ha : ArgS B w v l) :
    Calls Tryz.prog 39 #[v] w fun e w' => ∃ u fp, e = .returned u ∧ OwnS crlKd w' w.heap.size u l fp ∧ Below w.heap.size w w' := by
  obtain ⟨i0, hi, hz0, hz1, hz2⟩ := info_parts infoCrl
  obtain ⟨a0, cap, hv⟩ := ha.shape
  obtain ⟨len, hlen⟩ : ∃ n, l.length = n := ⟨_, rfl⟩
  rw [hlen] at hv
  subst hv
  have hl20 : len ≤ 1048576 := by unfold wtS at hl; omega
  have HA : Hid (ArgS B w (.slice a0 len cap) l ∧ l.length = len ∧ wtS l ≤ 1048576) := ⟨ha, hlen, hl⟩
  clear ha hlen hl
  go_enter Tryz.func39, Tryz.ntmps39
  go_wp2_with (at_make; refine wpList_make_full _ rfl _ _ 30 rfl w.heap.size 57 i0 (.agg #[.string ⟨#[]⟩, .int .i64 0, .int .i64 0, .int .i64 0, .int .i64 0, .slice none 0 0, .string ⟨#[]⟩]) 7 Tryz.underlying30 hi hz0 hz1 .i64 .i64 _ _ len rfl rfl ?m0 ?m1 ?m2 ?m3 ?m4 ?_)
  case m0 => simp
  case m1 => simp
  case m2 => rw [hz2]; omega
  case m3 => unfold maxLen; omega
  case m4 => exact Nat.le_refl _
  intro w1 hown hgrow
  have HO : Hid (∃ fp, OwnS crlKd w1 w.heap.size (.slice (some ⟨w.heap.size, 0, none⟩) len len) (l.take 0 ++ List.replicate (l.length - 0) zeL) fp ∧ Below w.heap.size w w1) := by
    refine ⟨[w.heap.size], ?_, (Below.refl _ _).grown hgrow (Nat.le_refl _) (fun j hj => by cases hj)⟩
    rw [List.take_zero, List.nil_append, Nat.sub_zero, HA.out.2.1]
    exact OwnS.zeros crlKd (own_zeL _ _) rfl (by have h2 : (madeCells zeV.cells (len * 7)).toList = cellsV (List.replicate len zeV) := made_cellsV zeV len (by decide); rw [← h2]; exact hown)
  clear hown hgrow
  go_wp2_with fail
  go_loopw [4] (fun iv wr => ∃ k : Nat, k ≤ len ∧ iv = .int .i64 k ∧ Hid (∃ fp, OwnS crlKd wr w.heap.size (.slice (some ⟨w.heap.size, 0, none⟩) len len) (l.take k ++ List.replicate (l.length - k) zeL) fp ∧ Below w.heap.size w wr)) (fun iv _ => len - (intOf iv).toNat)
  case atStart => exact ⟨0, Nat.zero_le _, rfl, HO.out⟩
  case round =>
    obtain ⟨k, hk, rfl, H⟩ := hrel
    clear HO
    by_cases hkn : k < len
    · have hkl : k < l.length := by rw [HA.out.2.1]; exact hkn
      obtain ⟨b, off, u, hao, hbB, hPu, hus, hcell⟩ := HA.out.1.get hkl
      obtain ⟨ap, ac, hu⟩ := hPu.shape
      subst hao
      obtain ⟨fp, hO, hBl⟩ := H.out
      have HP : Hid (ArgL w.heap.size wr u l[k]) := (hPu.mono hB).below hBl
      have hcb := fun i x (hx : u.cells[i]? = some x) => (hBl.cell (p := ⟨b, off + k * 7 + i, none⟩) (by show b < w.heap.size; omega)).trans (hcell i x hx)
      obtain ⟨c, hc⟩ : ∃ c, l[k] = c := ⟨_, rfl⟩
      rw [hc] at HP hu
      have HR := toCrl_any c u w.heap.size wr (by have h1 := wtS_mem (List.getElem_mem hkl); rw [hc] at h1; exact (wtL_parts (Nat.le_trans h1 HA.out.2.2)).2.1) hBl.size HP.out
      subst hu
      have u0 : wr.cell? ⟨b, off + k * 7, none⟩ = some (.string c.issuer) := hcb 0 _ rfl
      have u1 : wr.cell? ⟨b, off + k * 7 + 1, none⟩ = some (.int .i64 c.num) := hcb 1 _ rfl
      have u2 : wr.cell? ⟨b, off + k * 7 + 2, none⟩ = some (.int .i64 c.ths) := hcb 2 _ rfl
      have u3 : wr.cell? ⟨b, off + k * 7 + 3, none⟩ = some (.int .i64 c.nxt) := hcb 3 _ rfl
      have u4 : wr.cell? ⟨b, off + k * 7 + 4, none⟩ = some (.int .i64 c.bas) := hcb 4 _ rfl
      have u5 : wr.cell? ⟨b, off + k * 7 + 5, none⟩ = some (.slice ap c.revs.length ac) := hcb 5 _ rfl
      have u6 : wr.cell? ⟨b, off + k * 7 + 6, none⟩ = some (.string c.sig) := hcb 6 _ rfl
      have HN : Hid (∀ (w3 : World) (p : Value), Below wr.heap.size wr w3 → OwnL w3 wr.heap.size (clV c p) c → ∃ fp, OwnS crlKd (((((((w3.setCell ⟨w.heap.size, k * 7, none⟩ (.string c.issuer)).setCell ⟨w.heap.size, k * 7 + 1, none⟩ (.int .i64 c.num)).setCell ⟨w.heap.size, k * 7 + 2, none⟩ (.int .i64 c.ths)).setCell ⟨w.heap.size, k * 7 + 3, none⟩ (.int .i64 c.nxt)).setCell ⟨w.heap.size, k * 7 + 4, none⟩ (.int .i64 c.bas)).setCell ⟨w.heap.size, k * 7 + 5, none⟩ p).setCell ⟨w.heap.size, k * 7 + 6, none⟩ (.string c.sig)) w.heap.size (.slice (some ⟨w.heap.size, 0, none⟩) len len) (l.take (k + 1) ++ List.replicate (l.length - (k + 1)) zeL) fp ∧ Below w.heap.size w (((((((w3.setCell ⟨w.heap.size, k * 7, none⟩ (.string c.issuer)).setCell ⟨w.heap.size, k * 7 + 1, none⟩ (.int .i64 c.num)).setCell ⟨w.heap.size, k * 7 + 2, none⟩ (.int .i64 c.ths)).setCell ⟨w.heap.size, k * 7 + 3, none⟩ (.int .i64 c.nxt)).setCell ⟨w.heap.size, k * 7 + 4, none⟩ (.int .i64 c.bas)).setCell ⟨w.heap.size, k * 7 + 5, none⟩ p).setCell ⟨w.heap.size, k * 7 + 6, none⟩ (.string c.sig))) := fun w3 p hb hop => by
        have h2 := (hO.stays hb).put (j := k) (by rw [fill_len (Nat.le_of_lt hkl)]; exact HA.out.2.1.symm) (by rw [fill_len (Nat.le_of_lt hkl)]; exact hkl) (hop.base hBl.size) (fun y hy hm => by have h3 := fpL_lt hop y hy; have h4 := hO.lt y hm; omega)
        obtain ⟨fp', h2, _⟩ := h2
        rw [← hc, fill_set hkl] at h2
        rw [← hc]
        refine ⟨fp', h2, ?_⟩
        iterate 7 refine Below.setCell ?_ (by show w.heap.size ≤ w.heap.size; exact Nat.le_refl _) _
        exact hBl.trans (hb.mono hBl.size)
      have HC : Hid (∀ w3, Below wr.heap.size wr w3 → (∀ j, w3.frozen? ⟨w.heap.size, j, none⟩ = false) ∧ ∃ x0 x1 x2 x3 x4 x5 x6, w3.cell? ⟨w.heap.size, k * 7, none⟩ = some x0 ∧ w3.cell? ⟨w.heap.size, k * 7 + 1, none⟩ = some x1 ∧ w3.cell? ⟨w.heap.size, k * 7 + 2, none⟩ = some x2 ∧ w3.cell? ⟨w.heap.size, k * 7 + 3, none⟩ = some x3 ∧ w3.cell? ⟨w.heap.size, k * 7 + 4, none⟩ = some x4 ∧ w3.cell? ⟨w.heap.size, k * 7 + 5, none⟩ = some x5 ∧ w3.cell? ⟨w.heap.size, k * 7 + 6, none⟩ = some x6) := fun w3 hb => by
        obtain ⟨⟨u, hu, _, hcs⟩, hfz⟩ := (hO.stays hb).cells (j := k) (by rw [fill_len (Nat.le_of_lt hkl)]; exact HA.out.2.1.symm) (by rw [fill_len (Nat.le_of_lt hkl)]; exact hkl)
        obtain ⟨p, rfl, _⟩ := hu
        exact ⟨hfz, _, _, _, _, _, _, _, hcs 0 _ rfl, hcs 1 _ rfl, hcs 2 _ rfl, hcs 3 _ rfl, hcs 4 _ rfl, hcs 5 _ rfl, hcs 6 _ rfl⟩
      clear H hO hBl HP hcb hcell hPu hus hbB hc hkl
      have hki : (k : Int) < (len : Int) := by omega
      have hk0 : (0 : Int) ≤ (k : Int) := by omega
      unfold clV at HR HN
      go_wp2_with fail
      refine HR.mono ?_
      rintro e w3 ⟨v3, rfl, ⟨p3, rfl, ho3⟩, hb3⟩
      obtain ⟨fz, x0, x1, x2, x3, x4, x5, x6, d0, d1, d2, d3, d4, d5, d6⟩ := HC.out w3 hb3
      have HN3 := HN.out w3 p3 hb3 ⟨p3, rfl, ho3⟩
      obtain ⟨qa, qc, hq3, -, -, -⟩ := OwnR.shape ho3
      subst hq3
      clear HN HC hb3 u0 u1 u2 u3 u4 u5 u6 HR ho3
      have HN : Hid _ := HN3
      clear HN3
      unfold clV
      go_wp2_with fail
      go_roundw
      case rel => exact ⟨k + 1, by omega, by go_num, HN.out⟩
      case measure => simp [intOf]; omega
    · have hkl : k = len := by omega
      subst hkl
      go_wp2
      go_ret
      obtain ⟨fp, hO, hBl⟩ := H.out
      refine ⟨_, fp, rfl, ?_, hBl⟩
      rw [← HA.out.2.1, List.take_length, Nat.sub_self, List.replicate_zero, List.append_nil] at hO
      rw [← HA.out.2.1]
      exact hO
set_option maxHeartbeats 6400000 in
set_option maxRecDepth 100000 in
theorem szCrlS_any (v : Value) (l : List Cl) (left : Int) (w : World) (hm : l.length ≤ 9223372036854775807) (hwd : ∀ c ∈ l, WdL c) (h0 : 0 ≤ left) (hl : left ≤ 1048576) (ha : ArgS w.heap.size w v l) :
    Calls Tryz.prog 32 #[v, .int .i64 left] w fun e w' => e = .returned (.int .i64 (if (wtS l : Int) ≤ left then left - (wtS l : Int) else -1)) ∧ Below w.heap.size w w' := by
  obtain ⟨a0, cap, hv⟩ := ha.shape
  obtain ⟨len, hlen⟩ : ∃ n, l.length = n := ⟨_, rfl⟩
  rw [hlen] at hv hm
  subst hv
  obtain ⟨R, hR⟩ : ∃ r : Int, (if (wtS l : Int) ≤ left then left - (wtS l : Int) else -1) = r := ⟨_, rfl⟩
  rw [hR]
  have HA : Hid (ArgS w.heap.size w (.slice a0 len cap) l ∧ l.length = len ∧ (∀ c ∈ l, WdL c) ∧ (if (wtS l : Int) ≤ left then left - (wtS l : Int) else -1) = R) := ⟨ha, hlen, hwd, hR⟩
  clear ha hlen hwd hR
  have w1 : IntKind.i64.wrap (left - (len : Int)) = left - (len : Int) := by rw [IntKind.wrap_i64]; omega
  by_cases hneg : left - (len : Int) < 0
  · have HRR : Hid (R = -1) := by
      show R = -1
      rw [← HA.out.2.2.2, if_neg]
      have h1 := HA.out.2.1
      unfold wtS
      omega
    go_enter Tryz.func32, Tryz.ntmps32
    go_wp2
    go_ret
    exact ⟨by rw [HRR.out]; rfl, Below.refl _ _⟩
  · have hll : len ≤ 1048576 := by omega
    go_enter Tryz.func32, Tryz.ntmps32
    go_wp2_with fail
    go_loopw [1, 5] (fun lv iv wr => ∃ k : Nat, ∃ z : Int, k ≤ len ∧ iv = .int .i64 k ∧ lv = .int .i64 z ∧ 0 ≤ z ∧ z ≤ 1048576 ∧ Hid (z = left - (len : Int) - ((((l.map wtL).take k).sum : Nat) : Int) ∧ Below w.heap.size w wr)) (fun _ iv _ => len - (intOf iv).toNat)
    case atStart => exact ⟨0, _, Nat.zero_le _, rfl, rfl, by omega, by omega, by simp, Below.refl _ _⟩
    case round =>
      obtain ⟨k, z, hk, rfl, rfl, hz0, hz1, H⟩ := hrel
      by_cases hkn : k < len
      · have hkl : k < l.length := by rw [HA.out.2.1]; exact hkn
        obtain ⟨b, off, u, hao, hbB, hPu, hus, hcell⟩ := HA.out.1.get hkl
        obtain ⟨ap, ac, hu⟩ := hPu.shape
        subst hao
        have hBl := H.out.2
        have hcb := fun i x (hx : u.cells[i]? = some x) => (hBl.cell (p := ⟨b, off + k * 7 + i, none⟩) hbB).trans (hcell i x hx)
        obtain ⟨c, hc⟩ : ∃ c, l[k] = c := ⟨_, rfl⟩
        have HP : ArgL wr.heap.size wr u c := by rw [← hc]; exact (hPu.below hBl).mono hBl.size
        rw [hc] at hu
        have HR := szCrl_any c u z wr (by rw [← hc]; exact HA.out.2.2.1 _ (List.getElem_mem hkl)) hz0 hz1 HP
        subst hu
        have u0 : wr.cell? ⟨b, off + k * 7, none⟩ = some (.string c.issuer) := hcb 0 _ rfl
        have u1 : wr.cell? ⟨b, off + k * 7 + 1, none⟩ = some (.int .i64 c.num) := hcb 1 _ rfl
        have u2 : wr.cell? ⟨b, off + k * 7 + 2, none⟩ = some (.int .i64 c.ths) := hcb 2 _ rfl
        have u3 : wr.cell? ⟨b, off + k * 7 + 3, none⟩ = some (.int .i64 c.nxt) := hcb 3 _ rfl
        have u4 : wr.cell? ⟨b, off + k * 7 + 4, none⟩ = some (.int .i64 c.bas) := hcb 4 _ rfl
        have u5 : wr.cell? ⟨b, off + k * 7 + 5, none⟩ = some (.slice ap c.revs.length ac) := hcb 5 _ rfl
        have u6 : wr.cell? ⟨b, off + k * 7 + 6, none⟩ = some (.string c.sig) := hcb 6 _ rfl
        have HS : Hid ((((l.map wtL).take (k + 1)).sum = ((l.map wtL).take k).sum + wtL c) ∧ ((l.map wtL).take (k + 1)).sum ≤ (l.map wtL).sum ∧ wtS l = len + (l.map wtL).sum) := by
          refine ⟨?_, sum_take_le _ _, by unfold wtS; rw [HA.out.2.1]⟩
          rw [sum_take (by rw [List.length_map]; exact hkl), List.getElem_map, hc]
        have hki : (k : Int) < (len : Int) := by omega
        have hk0 : (0 : Int) ≤ (k : Int) := by omega
        clear hcb hcell hPu hus hbB hc hkl HP hBl
        obtain ⟨zz, hzz⟩ : ∃ q, szL c z = q := ⟨_, rfl⟩
        rw [hzz] at HR
        unfold clV at HR
        by_cases hfit : (wtL c : Int) ≤ z
        · have hzv : zz = z - (wtL c : Int) := by rw [← hzz]; unfold szL; rw [if_pos hfit]
          have hz0' : ¬ zz < 0 := by omega
          have HZ : Hid (zz = left - (len : Int) - ((((l.map wtL).take (k + 1)).sum : Nat) : Int) ∧ 0 ≤ zz ∧ zz ≤ 1048576) := ⟨by rw [HS.out.1, hzv, H.out.1]; omega, by omega, by omega⟩
          clear hzz hzv HS hfit
          go_wp2_with fail
          refine HR.mono ?_
          rintro e w3 ⟨rfl, hb3⟩
          clear u0 u1 u2 u3 u4 u5 u6 HR
          have HB3 : Hid (Below w.heap.size w w3) := H.out.2.trans (hb3.mono H.out.2.size)
          clear H hb3
          go_wp2_with fail
          go_roundw
          case rel => exact ⟨k + 1, zz, by omega, by go_num, rfl, HZ.out.2.1, HZ.out.2.2, HZ.out.1, HB3.out⟩
          case measure => simp [intOf]; omega
        · have hzv : zz = -1 := by rw [← hzz]; unfold szL; rw [if_neg hfit]
          subst hzv
          have HRR : Hid (R = -1) := by
            show R = -1
            rw [← HA.out.2.2.2, if_neg]
            have h1 := HS.out
            have h2 := H.out.1
            omega
          clear HS hfit hzz
          go_wp2_with fail
          refine HR.mono ?_
          rintro e w3 ⟨rfl, hb3⟩
          clear u0 u1 u2 u3 u4 u5 u6 HR
          have HB3 : Hid (Below w.heap.size w w3) := H.out.2.trans (hb3.mono H.out.2.size)
          clear H hb3
          go_wp2
          go_ret
          exact ⟨by rw [HRR.out]; rfl, HB3.out⟩
      · have hkl : k = len := by omega
        subst hkl
        have HRR : Hid (R = z) := by
          show R = z
          have h1 := H.out.1
          rw [List.take_of_length_le (by rw [List.length_map, HA.out.2.1]; exact Nat.le_refl _)] at h1
          have h2 := HA.out.2.1
          rw [← HA.out.2.2.2, if_pos (by unfold wtS; omega)]
          unfold wtS
          omega
        go_wp2
        go_ret
        exact ⟨by rw [HRR.out]; rfl, H.out.2⟩
set_option maxHeartbeats 6400000 in
set_option maxRecDepth 100000 in
theorem eqCrlS_same (l : List Cl) (a b : Value) (w : World) (hl : wtS l ≤ 1000000000) (ha : AtS crlKd w a l) (hb : AtS crlKd w b l) :
    Calls Tryz.prog 48 #[a, b] w fun e w' => e = .returned (.bool true) ∧ Below w.heap.size w w' := by
  obtain ⟨ax, cx, hv⟩ := ha.shape
  obtain ⟨ay, cy, hu⟩ := hb.shape
  obtain ⟨len, hlen⟩ : ∃ n, l.length = n := ⟨_, rfl⟩
  rw [hlen] at hv hu
  subst hv hu
  have hl20 : len ≤ 1000000000 := by unfold wtS at hl; omega
  have HX : Hid (AtS crlKd w (.slice ax len cx) l ∧ AtS crlKd w (.slice ay len cy) l ∧ l.length = len ∧ wtS l ≤ 1000000000) := ⟨ha, hb, hlen, hl⟩
  clear ha hb hlen hl
  go_enter Tryz.func48, Tryz.ntmps48
  go_wp2_with fail
  go_loopw [5] (fun iv wr => ∃ k : Nat, k ≤ len ∧ iv = .int .i64 k ∧ Hid (Below w.heap.size w wr)) (fun iv _ => len - (intOf iv).toNat)
  case atStart => exact ⟨0, Nat.zero_le _, rfl, Below.refl _ _⟩
  case round =>
    obtain ⟨k, hk, rfl, HB⟩ := hrel
    by_cases hkn : k < len
    · have hkl : k < l.length := by rw [HX.out.2.2.1]; exact hkn
      obtain ⟨g1, o1, u1, hax, hg1, hP1, hs1, hc1⟩ := HX.out.1.get hkl
      obtain ⟨g2, o2, u2, hay, hg2, hP2, hs2, hc2⟩ := HX.out.2.1.get hkl
      subst hax hay
      obtain ⟨c, hc⟩ : ∃ c, l[k] = c := ⟨_, rfl⟩
      have hBd : Below w.heap.size w wr.drew := HB.out.drew
      have hrl : c.revs.length ≤ 1000000000 := by
        have h1 := wtS_mem (List.getElem_mem hkl)
        rw [hc] at h1
        have h2 := HX.out.2.2.2
        unfold wtL at h1
        omega
      have HR := eqCrl_same c u1 u2 wr.drew hrl (by rw [← hc]; exact ClAt.below hP1 hBd) (by rw [← hc]; exact ClAt.below hP2 hBd)
      obtain ⟨p1, q1, hu1⟩ := ClAt.shape hP1
      obtain ⟨p2, q2, hu2⟩ := ClAt.shape hP2
      rw [hc] at hu1 hu2
      subst hu1 hu2
      have hf1 : ∀ (W : World) (i : Nat) (x : Value), Below w.heap.size w W → (clV c (.slice p1 c.revs.length q1)).cells[i]? = some x → W.cell? ⟨g1, o1 + k * 7 + i, none⟩ = some x := fun W i x hW hx => (hW.cell (p := ⟨g1, o1 + k * 7 + i, none⟩) hg1).trans (hc1 i x hx)
      have hf2 : ∀ (W : World) (i : Nat) (x : Value), Below w.heap.size w W → (clV c (.slice p2 c.revs.length q2)).cells[i]? = some x → W.cell? ⟨g2, o2 + k * 7 + i, none⟩ = some x := fun W i x hW hx => (hW.cell (p := ⟨g2, o2 + k * 7 + i, none⟩) hg2).trans (hc2 i x hx)
      have HS : Hid (∀ W, Below w.heap.size w W → ((W.cell? ⟨g1, o1 + k * 7, none⟩ = some (.string c.issuer) ∧ W.cell? ⟨g1, o1 + k * 7 + 1, none⟩ = some (.int .i64 c.num) ∧ W.cell? ⟨g1, o1 + k * 7 + 2, none⟩ = some (.int .i64 c.ths) ∧ W.cell? ⟨g1, o1 + k * 7 + 3, none⟩ = some (.int .i64 c.nxt) ∧ W.cell? ⟨g1, o1 + k * 7 + 4, none⟩ = some (.int .i64 c.bas) ∧ W.cell? ⟨g1, o1 + k * 7 + 5, none⟩ = some (.slice p1 c.revs.length q1) ∧ W.cell? ⟨g1, o1 + k * 7 + 6, none⟩ = some (.string c.sig)) ∧ (W.cell? ⟨g2, o2 + k * 7, none⟩ = some (.string c.issuer) ∧ W.cell? ⟨g2, o2 + k * 7 + 1, none⟩ = some (.int .i64 c.num) ∧ W.cell? ⟨g2, o2 + k * 7 + 2, none⟩ = some (.int .i64 c.ths) ∧ W.cell? ⟨g2, o2 + k * 7 + 3, none⟩ = some (.int .i64 c.nxt) ∧ W.cell? ⟨g2, o2 + k * 7 + 4, none⟩ = some (.int .i64 c.bas) ∧ W.cell? ⟨g2, o2 + k * 7 + 5, none⟩ = some (.slice p2 c.revs.length q2) ∧ W.cell? ⟨g2, o2 + k * 7 + 6, none⟩ = some (.string c.sig)))) := fun W hW =>
        ⟨⟨hf1 W 0 _ hW rfl, hf1 W 1 _ hW rfl, hf1 W 2 _ hW rfl, hf1 W 3 _ hW rfl, hf1 W 4 _ hW rfl, hf1 W 5 _ hW rfl, hf1 W 6 _ hW rfl⟩, ⟨hf2 W 0 _ hW rfl, hf2 W 1 _ hW rfl, hf2 W 2 _ hW rfl, hf2 W 3 _ hW rfl, hf2 W 4 _ hW rfl, hf2 W 5 _ hW rfl, hf2 W 6 _ hW rfl⟩⟩
      have hki : (k : Int) < (len : Int) := by omega
      have hk0 : (0 : Int) ≤ (k : Int) := by omega
      unfold clV at HR
      clear hf1 hf2 hc1 hc2 hP1 hP2 hs1 hs2 hg1 hg2 hc hkl
      go_upto_region 6 with fail
      refine wp_region_held_drew (S := fun W => Below w.heap.size w W) (by kernel_rfl) hBd (fun hHeld => ?_)
      clear hBd
      have HBW : Hid (Below w.heap.size w wr.drew) := hHeld
      refine wpAnyH_take (i := 0) (oi := ⟨some 17, _, _, _, _, _⟩) (v := ?_) rfl (by kernel_rfl) (by kernel_rfl) (by kernel_rfl) (fun _ _ _ h => h) (Or.inl ⟨by rfl, ?_⟩) hHeld ?_
      rotate_left
      · intro W hSw
        go_simp
        try with_reducible rfl
      try simp only [Act.put, List.setIfInBounds_toArray, List.set_cons_zero, List.set_cons_succ]
      refine wpAnyH_take (i := 1) (oi := ⟨some 18, _, _, _, _, _⟩) (v := ?_) rfl (by kernel_rfl) (by kernel_rfl) (by kernel_rfl) (fun _ _ _ h => h) (Or.inl ⟨by rfl, ?_⟩) hHeld ?_
      rotate_left
      · intro W hSw
        go_simp
        try with_reducible rfl
      try simp only [Act.put, List.setIfInBounds_toArray, List.set_cons_zero, List.set_cons_succ]
      refine wpAnyH_take (i := 2) (oi := ⟨some 19, _, _, _, _, _⟩) (v := ?_) rfl (by kernel_rfl) (by kernel_rfl) (by kernel_rfl) (fun _ _ _ h => h) (Or.inl ⟨by rfl, ?_⟩) hHeld ?_
      rotate_left
      · intro W hSw
        go_simp
        try with_reducible rfl
      try simp only [Act.put, List.setIfInBounds_toArray, List.set_cons_zero, List.set_cons_succ]
      refine wpAnyH_take (i := 3) (oi := ⟨some 20, _, _, _, _, _⟩) (v := ?_) rfl (by kernel_rfl) (by kernel_rfl) (by kernel_rfl) (fun _ _ _ h => h) (Or.inl ⟨by rfl, ?_⟩) hHeld ?_
      rotate_left
      · intro W hSw
        obtain ⟨⟨e0, e1, e2, e3, e4, e5, e6⟩, -⟩ := HS.out W hSw
        go_simp
        try with_reducible rfl
      try simp only [Act.put, List.setIfInBounds_toArray, List.set_cons_zero, List.set_cons_succ]
      refine wpAnyH_take (i := 4) (oi := ⟨some 21, _, _, _, _, _⟩) (v := ?_) rfl (by kernel_rfl) (by kernel_rfl) (by kernel_rfl) (fun _ _ _ h => h) (Or.inl ⟨by rfl, ?_⟩) hHeld ?_
      rotate_left
      · intro W hSw
        go_simp
        try with_reducible rfl
      try simp only [Act.put, List.setIfInBounds_toArray, List.set_cons_zero, List.set_cons_succ]
      refine wpAnyH_take (i := 5) (oi := ⟨some 22, _, _, _, _, _⟩) (v := ?_) rfl (by kernel_rfl) (by kernel_rfl) (by kernel_rfl) (fun _ _ _ h => h) (Or.inl ⟨by rfl, ?_⟩) hHeld ?_
      rotate_left
      · intro W hSw
        go_simp
        try with_reducible rfl
      try simp only [Act.put, List.setIfInBounds_toArray, List.set_cons_zero, List.set_cons_succ]
      refine wpAnyH_take (i := 6) (oi := ⟨some 23, _, _, _, _, _⟩) (v := ?_) rfl (by kernel_rfl) (by kernel_rfl) (by kernel_rfl) (fun _ _ _ h => h) (Or.inl ⟨by rfl, ?_⟩) hHeld ?_
      rotate_left
      · intro W hSw
        go_simp
        try with_reducible rfl
      try simp only [Act.put, List.setIfInBounds_toArray, List.set_cons_zero, List.set_cons_succ]
      refine wpAnyH_take (i := 7) (oi := ⟨some 24, _, _, _, _, _⟩) (v := ?_) rfl (by kernel_rfl) (by kernel_rfl) (by kernel_rfl) (fun _ _ _ h => h) (Or.inl ⟨by rfl, ?_⟩) hHeld ?_
      rotate_left
      · intro W hSw
        obtain ⟨-, e0, e1, e2, e3, e4, e5, e6⟩ := HS.out W hSw
        go_simp
        try with_reducible rfl
      try simp only [Act.put, List.setIfInBounds_toArray, List.set_cons_zero, List.set_cons_succ]
      refine wpAnyH_ready (rs := [8]) (by kernel_rfl) (by simp) ?_
      refine AllReadyH.cons (o := ⟨some 25, _, _, _, _, _⟩) rfl (fun K hK => ?_) AllReadyH.nil
      go_simp
      refine HR.mono ?_
      rintro e w3 ⟨rfl, hb3⟩
      have HB3 : Hid (Below w.heap.size w w3) := HBW.out.trans (hb3.mono HBW.out.size)
      clear hb3 HR HBW
      refine hK.out _ _ HB3.out (fun hHeld => ?_)
      clear hK K
      try simp only [Act.put, List.setIfInBounds_toArray, List.set_cons_zero, List.set_cons_succ]
      refine wpAnyH_take (i := 9) (oi := ⟨some 26, _, _, _, _, _⟩) (v := ?_) rfl (by kernel_rfl) (by kernel_rfl) (by kernel_rfl) (fun _ _ _ h => h) (Or.inl ⟨by rfl, ?_⟩) hHeld ?_
      rotate_left
      · intro W hSw
        go_simp
        try with_reducible rfl
      try simp only [Act.put, List.setIfInBounds_toArray, List.set_cons_zero, List.set_cons_succ]
      refine wpAnyH_done (by kernel_rfl) ?_ _
      clear HS
      go_wp2_with fail
      go_roundw
      case rel => exact ⟨k + 1, by omega, by go_num, HB3.out⟩
      case measure => simp [intOf]; omega
    · have hkl : k = len := by omega
      subst hkl
      go_wp2
      go_ret
      exact ⟨rfl, HB.out⟩
end Go.Proofs.YtplblechcnbieaaGreat

/-
  Anchors, and rows of them: the kind, and the laws' helpers toAnchorS, szAnchorS, eqAnchorS.
-/
namespace Go.Proofs.YtplblechcnbieaaGreat
open Go.RowKit Go.ChangeShapes
set_option linter.unusedVariables false
set_option linter.unusedSimpArgs false

/-- An anchor as data. -/
structure An where
  name : ByteArray
  key : ByteArray
def anV (a : An) : Value := .agg #[.string a.name, .string a.key]
/-- Anchors, as a kind of struct. -/
def anKd : Kd An where
  T := 75
  K := 2
  Own := fun _ _ v a => v = anV a
  At := fun _ v a => v = anV a
  fp := fun _ => []
  pos := by decide
  size := fun h => by
    subst h
    refine ⟨rfl, fun x hx => ?_⟩
    change x ∈ [_, _] at hx
    simp only [List.mem_cons, List.not_mem_nil, or_false] at hx
    rcases hx with rfl | rfl
    all_goals rfl
  same := fun h _ => h
  lt := fun _ g hg => by cases hg
  base := fun h _ => h
  nodup := fun _ => List.nodup_nil
  own_at := fun h => h
  below := fun h _ => h
/-- The anchor that is empty. -/
def zeA : An := ⟨⟨#[]⟩, ⟨#[]⟩⟩
theorem infoAn : (Tryz.prog.info? 75).map (fun i => (i.zero, i.size, i.bytes)) = some (some (.agg #[.string ⟨#[]⟩, .string ⟨#[]⟩]), 2, 32) := by kernel_rfl
/-- What anchors weigh. -/
def wtA (a : An) : Nat := a.name.size + a.key.size
def wtN (l : List An) : Nat := l.length + (l.map wtA).sum
theorem wtN_mem : ∀ {l : List An} {c : An}, c ∈ l → wtA c ≤ wtN l
  | c :: l, d, h => by
    rcases List.mem_cons.1 h with rfl | h
    · unfold wtN; simp; omega
    · have := wtN_mem h
      unfold wtN at this ⊢
      simp
      omega
def WdA (a : An) : Prop := a.name.size ≤ 9223372036854775807 ∧ a.key.size ≤ 9223372036854775807
def szA (a : An) (left : Int) : Int := if (wtA a : Int) ≤ left then left - (wtA a : Int) else -1
/-- A row of anchors that came in. -/
def ArgN (B : Nat) (w : World) (v : Value) (l : List An) : Prop := RowS 2 B (fun v a => v = anV a) w v l
theorem ArgN.below {B : Nat} {w w' : World} {v : Value} {l : List An} (h : ArgN B w v l) (hb : Below B w w') {B' : Nat} (hB : B ≤ B') : ArgN B' w' v l := RowS.below h hb (fun _ _ hP => hP) hB
theorem fillA_set {l : List An} {k : Nat} (hk : k < l.length) : (l.take k ++ List.replicate (l.length - k) zeA).set k l[k] = l.take (k + 1) ++ List.replicate (l.length - (k + 1)) zeA := by
  have e : (l.take k).length = k := by rw [List.length_take]; omega
  rw [List.set_append_right _ _ (by omega), e, Nat.sub_self, show l.length - k = (l.length - (k + 1)) + 1 by omega, List.replicate_succ, List.set_cons_zero, List.take_succ_eq_append_getElem hk, List.append_assoc]
  rfl
theorem fillA_len {l : List An} {k : Nat} (hk : k ≤ l.length) : (l.take k ++ List.replicate (l.length - k) zeA).length = l.length := by
  rw [List.length_append, List.length_take, List.length_replicate]
  omega
/-- The cells of one of the row, and that they may be written. -/
theorem OwnS.cellsA {w : World} {base g n cap : Nat} {l : List An} {fp : List Nat} (h : OwnS anKd w base (.slice (some ⟨g, 0, none⟩) n cap) l fp) (hn : n = l.length) {j : Nat} (hj : j < l.length) :
    (w.cell? ⟨g, j * 2, none⟩ = some (.string l[j].name) ∧ w.cell? ⟨g, j * 2 + 1, none⟩ = some (.string l[j].key)) ∧ ∀ i, w.frozen? ⟨g, i, none⟩ = false := by
  subst hn
  obtain ⟨g', o, u, h1, _, hP, hs, hc⟩ := h.at.get hj
  injection h1 with h1
  injection h1 with h1 h2
  subst h1 h2
  have hP' : u = anV l[j] := hP
  subst hP'
  obtain ⟨vs, hl, hr, he, rfl, hnd⟩ := h
  have c0 := hc 0 _ rfl
  have c1 := hc 1 _ rfl
  rw [Nat.zero_add] at c0 c1
  exact ⟨⟨c0, c1⟩, fun i => World.ownsRow.frozenAt hr i⟩
set_option maxHeartbeats 6400000 in
set_option maxRecDepth 100000 in
theorem toAnchor_any (a : An) (w : World) : Calls Tryz.prog 88 #[.agg #[.string a.name, .string a.key]] w fun e w' => e = .returned (.agg #[.string a.name, .string a.key]) ∧ Below w.heap.size w w' := by
  go_enter Tryz.func88, Tryz.ntmps88
  go_wp2_with fail
  refine bodyPost_ret (v := .agg #[.string a.name, .string a.key]) (by simp [results, Tryz.results88, go_sem]) rfl ⟨rfl, ?_⟩
  exact (((Below.refl _ _).alloc (Nat.le_refl _) _).alloc (by rw [size_alloc]; omega) _).alloc (by rw [size_alloc, size_alloc]; omega) _
set_option maxHeartbeats 6400000 in
set_option maxRecDepth 100000 in
theorem toAnchorS_any (v : Value) (l : List An) (B : Nat) (w : World) (hl : wtN l ≤ 1048576) (hB : B ≤ w.heap.size) (ha : ArgN B w v l) :
    Calls Tryz.prog 40 #[v] w fun e w' => ∃ u fp, e = .returned u ∧ OwnS anKd w' w.heap.size u l fp ∧ Below w.heap.size w w' := by
  obtain ⟨i0, hi, hz0, hz1, hz2⟩ := info_parts infoAn
  obtain ⟨a0, cap, hv⟩ := ha.shape
  obtain ⟨len, hlen⟩ : ∃ n, l.length = n := ⟨_, rfl⟩
  rw [hlen] at hv
  subst hv
  have hl20 : len ≤ 1048576 := by unfold wtN at hl; omega
  have HA : Hid (ArgN B w (.slice a0 len cap) l ∧ l.length = len) := ⟨ha, hlen⟩
  clear ha hlen hl
  go_enter Tryz.func40, Tryz.ntmps40
  go_wp2_with (at_make; refine wpList_make_full _ rfl _ _ 31 rfl w.heap.size 75 i0 (.agg #[.string ⟨#[]⟩, .string ⟨#[]⟩]) 2 Tryz.underlying31 hi hz0 hz1 .i64 .i64 _ _ len rfl rfl ?m0 ?m1 ?m2 ?m3 ?m4 ?_)
  case m0 => simp
  case m1 => simp
  case m2 => rw [hz2]; omega
  case m3 => unfold maxLen; omega
  case m4 => exact Nat.le_refl _
  intro w1 hown hgrow
  have HO : Hid (∃ fp, OwnS anKd w1 w.heap.size (.slice (some ⟨w.heap.size, 0, none⟩) len len) (l.take 0 ++ List.replicate (l.length - 0) zeA) fp ∧ Below w.heap.size w w1) := by
    refine ⟨[w.heap.size], ?_, (Below.refl _ _).grown hgrow (Nat.le_refl _) (fun j hj => by cases hj)⟩
    rw [List.take_zero, List.nil_append, Nat.sub_zero, HA.out.2]
    exact OwnS.zeros anKd (c := zeA) (z := anV zeA) rfl rfl (by have h2 : (madeCells (anV zeA).cells (len * 2)).toList = cellsV (List.replicate len (anV zeA)) := made_cellsV (anV zeA) len (by decide); rw [← h2]; exact hown)
  clear hown hgrow
  go_wp2_with fail
  go_loopw [4] (fun iv wr => ∃ k : Nat, k ≤ len ∧ iv = .int .i64 k ∧ Hid (∃ fp, OwnS anKd wr w.heap.size (.slice (some ⟨w.heap.size, 0, none⟩) len len) (l.take k ++ List.replicate (l.length - k) zeA) fp ∧ Below w.heap.size w wr)) (fun iv _ => len - (intOf iv).toNat)
  case atStart => exact ⟨0, Nat.zero_le _, rfl, HO.out⟩
  case round =>
    obtain ⟨k, hk, rfl, H⟩ := hrel
    clear HO
    by_cases hkn : k < len
    · have hkl : k < l.length := by rw [HA.out.2]; exact hkn
      obtain ⟨b, off, u, hao, hbB, hu, hus, hcell⟩ := HA.out.1.get hkl
      subst hao
      obtain ⟨fp, hO, hBl⟩ := H.out
      have hcb := fun i x (hx : u.cells[i]? = some x) => (hBl.cell (p := ⟨b, off + k * 2 + i, none⟩) (by show b < w.heap.size; omega)).trans (hcell i x hx)
      obtain ⟨c, hc⟩ : ∃ c, l[k] = c := ⟨_, rfl⟩
      rw [hc] at hu
      subst hu
      have u0 : wr.cell? ⟨b, off + k * 2, none⟩ = some (.string c.name) := hcb 0 _ rfl
      have u1 : wr.cell? ⟨b, off + k * 2 + 1, none⟩ = some (.string c.key) := hcb 1 _ rfl
      have HN : Hid (∀ (w3 : World), Below wr.heap.size wr w3 → ∃ fp, OwnS anKd ((w3.setCell ⟨w.heap.size, k * 2, none⟩ (.string c.name)).setCell ⟨w.heap.size, k * 2 + 1, none⟩ (.string c.key)) w.heap.size (.slice (some ⟨w.heap.size, 0, none⟩) len len) (l.take (k + 1) ++ List.replicate (l.length - (k + 1)) zeA) fp ∧ Below w.heap.size w ((w3.setCell ⟨w.heap.size, k * 2, none⟩ (.string c.name)).setCell ⟨w.heap.size, k * 2 + 1, none⟩ (.string c.key))) := fun w3 hb => by
        have h2 := (hO.stays hb).put (k := anKd) (j := k) (u := anV c) (c := c) (by rw [fillA_len (Nat.le_of_lt hkl)]; exact HA.out.2.symm) (by rw [fillA_len (Nat.le_of_lt hkl)]; exact hkl) rfl (fun y hy hm => by cases hy)
        obtain ⟨fp', h2, _⟩ := h2
        rw [← hc, fillA_set hkl] at h2
        rw [← hc]
        refine ⟨fp', h2, ?_⟩
        iterate 2 refine Below.setCell ?_ (by show w.heap.size ≤ w.heap.size; exact Nat.le_refl _) _
        exact hBl.trans (hb.mono hBl.size)
      have HC : Hid (∀ w3, Below wr.heap.size wr w3 → (∀ j, w3.frozen? ⟨w.heap.size, j, none⟩ = false) ∧ ∃ x0 x1, w3.cell? ⟨w.heap.size, k * 2, none⟩ = some x0 ∧ w3.cell? ⟨w.heap.size, k * 2 + 1, none⟩ = some x1) := fun w3 hb => by
        obtain ⟨hcs, hfz⟩ := (hO.stays hb).cellsA (j := k) (by rw [fillA_len (Nat.le_of_lt hkl)]; exact HA.out.2.symm) (by rw [fillA_len (Nat.le_of_lt hkl)]; exact hkl)
        exact ⟨hfz, _, _, hcs.1, hcs.2⟩
      clear H hO hBl hcb hcell hus hbB hc hkl
      have hki : (k : Int) < (len : Int) := by omega
      have hk0 : (0 : Int) ≤ (k : Int) := by omega
      go_wp2_with fail
      refine (toAnchor_any c wr).mono ?_
      rintro e w3 ⟨rfl, hb3⟩
      obtain ⟨fz, x0, x1, d0, d1⟩ := HC.out w3 hb3
      have HN3 : Hid _ := HN.out w3 hb3
      clear HN HC hb3 u0 u1
      go_wp2_with fail
      go_roundw
      case rel => exact ⟨k + 1, by omega, by go_num, HN3.out⟩
      case measure => simp [intOf]; omega
    · have hkl : k = len := by omega
      subst hkl
      go_wp2
      go_ret
      obtain ⟨fp, hO, hBl⟩ := H.out
      refine ⟨_, fp, rfl, ?_, hBl⟩
      rw [← HA.out.2, List.take_length, Nat.sub_self, List.replicate_zero, List.append_nil] at hO
      rw [← HA.out.2]
      exact hO
set_option maxHeartbeats 6400000 in
set_option maxRecDepth 100000 in
theorem szAnchor_any (a : An) (left : Int) (w : World) (hwd : WdA a) (h0 : 0 ≤ left) (hl : left ≤ 1048576) : Calls Tryz.prog 81 #[.agg #[.string a.name, .string a.key], .int .i64 left] w fun e w' => e = .returned (.int .i64 (szA a left)) ∧ Below w.heap.size w w' := by
  obtain ⟨wd1, wd2⟩ := hwd
  obtain ⟨R, hR⟩ : ∃ r, szA a left = r := ⟨_, rfl⟩
  rw [hR]
  have w1 : IntKind.i64.wrap (left - (a.name.size : Int)) = left - (a.name.size : Int) := by rw [IntKind.wrap_i64]; omega
  have hR2 : R = if (a.name.size : Int) + a.key.size ≤ left then left - ((a.name.size : Int) + a.key.size) else -1 := by rw [← hR]; unfold szA wtA; rw [Int.natCast_add]
  clear hR
  by_cases g1 : left - (a.name.size : Int) < 0
  · have HR : Hid (R = -1) := by show R = -1; rw [hR2, if_neg (by omega)]
    clear hR2
    go_enter Tryz.func81, Tryz.ntmps81
    go_wp2
    go_ret
    exact ⟨by rw [HR.out]; rfl, (Below.refl _ _).alloc (Nat.le_refl _) _⟩
  · have w2 : IntKind.i64.wrap (left - (a.name.size : Int) - (a.key.size : Int)) = left - (a.name.size : Int) - (a.key.size : Int) := by rw [IntKind.wrap_i64]; omega
    by_cases g2 : left - (a.name.size : Int) - (a.key.size : Int) < 0
    · have HR : Hid (R = -1) := by show R = -1; rw [hR2, if_neg (by omega)]
      clear hR2
      go_enter Tryz.func81, Tryz.ntmps81
      go_wp2
      go_ret
      exact ⟨by rw [HR.out]; rfl, (Below.refl _ _).alloc (Nat.le_refl _) _⟩
    · have HR : Hid (R = left - (a.name.size : Int) - (a.key.size : Int)) := by show R = _; rw [hR2, if_pos (by omega)]; omega
      clear hR2
      go_enter Tryz.func81, Tryz.ntmps81
      go_wp2
      go_ret
      exact ⟨by rw [HR.out]; rfl, (Below.refl _ _).alloc (Nat.le_refl _) _⟩
set_option maxHeartbeats 6400000 in
set_option maxRecDepth 100000 in
theorem szAnchorS_any (v : Value) (l : List An) (left : Int) (w : World) (hm : l.length ≤ 9223372036854775807) (hwd : ∀ c ∈ l, WdA c) (h0 : 0 ≤ left) (hl : left ≤ 1048576) (ha : ArgN w.heap.size w v l) :
    Calls Tryz.prog 33 #[v, .int .i64 left] w fun e w' => e = .returned (.int .i64 (if (wtN l : Int) ≤ left then left - (wtN l : Int) else -1)) ∧ Below w.heap.size w w' := by
  obtain ⟨a0, cap, hv⟩ := ha.shape
  obtain ⟨len, hlen⟩ : ∃ n, l.length = n := ⟨_, rfl⟩
  rw [hlen] at hv hm
  subst hv
  obtain ⟨R, hR⟩ : ∃ r : Int, (if (wtN l : Int) ≤ left then left - (wtN l : Int) else -1) = r := ⟨_, rfl⟩
  rw [hR]
  have HA : Hid (ArgN w.heap.size w (.slice a0 len cap) l ∧ l.length = len ∧ (∀ c ∈ l, WdA c) ∧ (if (wtN l : Int) ≤ left then left - (wtN l : Int) else -1) = R) := ⟨ha, hlen, hwd, hR⟩
  clear ha hlen hwd hR
  have w1 : IntKind.i64.wrap (left - (len : Int)) = left - (len : Int) := by rw [IntKind.wrap_i64]; omega
  by_cases hneg : left - (len : Int) < 0
  · have HRR : Hid (R = -1) := by
      show R = -1
      rw [← HA.out.2.2.2, if_neg]
      have h1 := HA.out.2.1
      unfold wtN
      omega
    go_enter Tryz.func33, Tryz.ntmps33
    go_wp2
    go_ret
    exact ⟨by rw [HRR.out]; rfl, Below.refl _ _⟩
  · have hll : len ≤ 1048576 := by omega
    go_enter Tryz.func33, Tryz.ntmps33
    go_wp2_with fail
    go_loopw [1, 5] (fun lv iv wr => ∃ k : Nat, ∃ z : Int, k ≤ len ∧ iv = .int .i64 k ∧ lv = .int .i64 z ∧ 0 ≤ z ∧ z ≤ 1048576 ∧ Hid (z = left - (len : Int) - ((((l.map wtA).take k).sum : Nat) : Int) ∧ Below w.heap.size w wr)) (fun _ iv _ => len - (intOf iv).toNat)
    case atStart => exact ⟨0, _, Nat.zero_le _, rfl, rfl, by omega, by omega, by simp, Below.refl _ _⟩
    case round =>
      obtain ⟨k, z, hk, rfl, rfl, hz0, hz1, H⟩ := hrel
      by_cases hkn : k < len
      · have hkl : k < l.length := by rw [HA.out.2.1]; exact hkn
        obtain ⟨b, off, u, hao, hbB, hu, hus, hcell⟩ := HA.out.1.get hkl
        subst hao
        have hBl := H.out.2
        have hcb := fun i x (hx : u.cells[i]? = some x) => (hBl.cell (p := ⟨b, off + k * 2 + i, none⟩) hbB).trans (hcell i x hx)
        obtain ⟨c, hc⟩ : ∃ c, l[k] = c := ⟨_, rfl⟩
        rw [hc] at hu
        have HR := szAnchor_any c z wr (by rw [← hc]; exact HA.out.2.2.1 _ (List.getElem_mem hkl)) hz0 hz1
        subst hu
        have u0 : wr.cell? ⟨b, off + k * 2, none⟩ = some (.string c.name) := hcb 0 _ rfl
        have u1 : wr.cell? ⟨b, off + k * 2 + 1, none⟩ = some (.string c.key) := hcb 1 _ rfl
        have HS : Hid ((((l.map wtA).take (k + 1)).sum = ((l.map wtA).take k).sum + wtA c) ∧ ((l.map wtA).take (k + 1)).sum ≤ (l.map wtA).sum ∧ wtN l = len + (l.map wtA).sum) := by
          refine ⟨?_, sum_take_le _ _, by unfold wtN; rw [HA.out.2.1]⟩
          rw [sum_take (by rw [List.length_map]; exact hkl), List.getElem_map, hc]
        have hki : (k : Int) < (len : Int) := by omega
        have hk0 : (0 : Int) ≤ (k : Int) := by omega
        clear hcb hcell hus hbB hc hkl hBl
        obtain ⟨zz, hzz⟩ : ∃ q, szA c z = q := ⟨_, rfl⟩
        rw [hzz] at HR
        by_cases hfit : (wtA c : Int) ≤ z
        · have hzv : zz = z - (wtA c : Int) := by rw [← hzz]; unfold szA; rw [if_pos hfit]
          have hz0' : ¬ zz < 0 := by omega
          have HZ : Hid (zz = left - (len : Int) - ((((l.map wtA).take (k + 1)).sum : Nat) : Int) ∧ 0 ≤ zz ∧ zz ≤ 1048576) := ⟨by rw [HS.out.1, hzv, H.out.1]; omega, by omega, by omega⟩
          clear hzz hzv HS hfit
          go_wp2_with fail
          refine HR.mono ?_
          rintro e w3 ⟨rfl, hb3⟩
          clear u0 u1 HR
          have HB3 : Hid (Below w.heap.size w w3) := H.out.2.trans (hb3.mono H.out.2.size)
          clear H hb3
          go_wp2_with fail
          go_roundw
          case rel => exact ⟨k + 1, zz, by omega, by go_num, rfl, HZ.out.2.1, HZ.out.2.2, HZ.out.1, HB3.out⟩
          case measure => simp [intOf]; omega
        · have hzv : zz = -1 := by rw [← hzz]; unfold szA; rw [if_neg hfit]
          subst hzv
          have HRR : Hid (R = -1) := by
            show R = -1
            rw [← HA.out.2.2.2, if_neg]
            have h1 := HS.out
            have h2 := H.out.1
            omega
          clear HS hfit hzz
          go_wp2_with fail
          refine HR.mono ?_
          rintro e w3 ⟨rfl, hb3⟩
          clear u0 u1 HR
          have HB3 : Hid (Below w.heap.size w w3) := H.out.2.trans (hb3.mono H.out.2.size)
          clear H hb3
          go_wp2
          go_ret
          exact ⟨by rw [HRR.out]; rfl, HB3.out⟩
      · have hkl : k = len := by omega
        subst hkl
        have HRR : Hid (R = z) := by
          show R = z
          have h1 := H.out.1
          rw [List.take_of_length_le (by rw [List.length_map, HA.out.2.1]; exact Nat.le_refl _)] at h1
          have h2 := HA.out.2.1
          rw [← HA.out.2.2.2, if_pos (by unfold wtN; omega)]
          unfold wtN
          omega
        go_wp2
        go_ret
        exact ⟨by rw [HRR.out]; rfl, H.out.2⟩
set_option maxHeartbeats 6400000 in
set_option maxRecDepth 100000 in
theorem eqAnchor_same (a : An) (w : World) : Calls Tryz.prog 97 #[.agg #[.string a.name, .string a.key], .agg #[.string a.name, .string a.key]] w fun e w' => e = .returned (.bool true) ∧ Below w.heap.size w w' := by
  go_enter Tryz.func97, Tryz.ntmps97
  go_wp2
  go_ret
  exact ⟨rfl, ((Below.refl _ _).alloc (Nat.le_refl _) _).alloc (by rw [size_alloc]; omega) _⟩
set_option maxHeartbeats 6400000 in
set_option maxRecDepth 100000 in
theorem eqAnchorS_same (l : List An) (a b : Value) (w : World) (hl : wtN l ≤ 1000000000) (ha : AtS anKd w a l) (hb : AtS anKd w b l) :
    Calls Tryz.prog 49 #[a, b] w fun e w' => e = .returned (.bool true) ∧ Below w.heap.size w w' := by
  obtain ⟨ax, cx, hv⟩ := ha.shape
  obtain ⟨ay, cy, hu⟩ := hb.shape
  obtain ⟨len, hlen⟩ : ∃ n, l.length = n := ⟨_, rfl⟩
  rw [hlen] at hv hu
  subst hv hu
  have hl20 : len ≤ 1000000000 := by unfold wtN at hl; omega
  have HX : Hid (AtS anKd w (.slice ax len cx) l ∧ AtS anKd w (.slice ay len cy) l ∧ l.length = len ∧ wtN l ≤ 1000000000) := ⟨ha, hb, hlen, hl⟩
  clear ha hb hlen hl
  go_enter Tryz.func49, Tryz.ntmps49
  go_wp2_with fail
  go_loopw [5] (fun iv wr => ∃ k : Nat, k ≤ len ∧ iv = .int .i64 k ∧ Hid (Below w.heap.size w wr)) (fun iv _ => len - (intOf iv).toNat)
  case atStart => exact ⟨0, Nat.zero_le _, rfl, Below.refl _ _⟩
  case round =>
    obtain ⟨k, hk, rfl, HB⟩ := hrel
    by_cases hkn : k < len
    · have hkl : k < l.length := by rw [HX.out.2.2.1]; exact hkn
      obtain ⟨g1, o1, u1, hax, hg1, hP1, hs1, hc1⟩ := HX.out.1.get hkl
      obtain ⟨g2, o2, u2, hay, hg2, hP2, hs2, hc2⟩ := HX.out.2.1.get hkl
      subst hax hay
      obtain ⟨c, hc⟩ : ∃ c, l[k] = c := ⟨_, rfl⟩
      have hBd : Below w.heap.size w wr.drew := HB.out.drew
      have HR := eqAnchor_same c wr.drew
      rw [hc] at hP1 hP2
      have hu1 : u1 = anV c := hP1
      have hu2 : u2 = anV c := hP2
      subst hu1 hu2
      have HS : Hid (∀ W, Below w.heap.size w W → (W.cell? ⟨g1, o1 + k * 2, none⟩ = some (.string c.name) ∧ W.cell? ⟨g1, o1 + k * 2 + 1, none⟩ = some (.string c.key)) ∧ W.cell? ⟨g2, o2 + k * 2, none⟩ = some (.string c.name) ∧ W.cell? ⟨g2, o2 + k * 2 + 1, none⟩ = some (.string c.key)) := fun W hW =>
        ⟨⟨(hW.cell (p := ⟨g1, o1 + k * 2 + 0, none⟩) hg1).trans (hc1 0 _ rfl), (hW.cell (p := ⟨g1, o1 + k * 2 + 1, none⟩) hg1).trans (hc1 1 _ rfl)⟩, (hW.cell (p := ⟨g2, o2 + k * 2 + 0, none⟩) hg2).trans (hc2 0 _ rfl), (hW.cell (p := ⟨g2, o2 + k * 2 + 1, none⟩) hg2).trans (hc2 1 _ rfl)⟩
      have hki : (k : Int) < (len : Int) := by omega
      have hk0 : (0 : Int) ≤ (k : Int) := by omega
      clear hc1 hc2 hP1 hP2 hs1 hs2 hg1 hg2 hc hkl
      go_upto_region 6 with fail
      refine wp_region_held_drew (S := fun W => Below w.heap.size w W) (by kernel_rfl) hBd (fun hHeld => ?_)
      clear hBd
      have HBW : Hid (Below w.heap.size w wr.drew) := hHeld
      refine wpAnyH_take (i := 0) (oi := ⟨some 17, _, _, _, _, _⟩) (v := ?_) rfl (by kernel_rfl) (by kernel_rfl) (by kernel_rfl) (fun _ _ _ h => h) (Or.inl ⟨by rfl, ?_⟩) hHeld ?_
      rotate_left
      · intro W hSw
        go_simp
        try with_reducible rfl
      try simp only [Act.put, List.setIfInBounds_toArray, List.set_cons_zero, List.set_cons_succ]
      refine wpAnyH_take (i := 1) (oi := ⟨some 18, _, _, _, _, _⟩) (v := ?_) rfl (by kernel_rfl) (by kernel_rfl) (by kernel_rfl) (fun _ _ _ h => h) (Or.inl ⟨by rfl, ?_⟩) hHeld ?_
      rotate_left
      · intro W hSw
        go_simp
        try with_reducible rfl
      try simp only [Act.put, List.setIfInBounds_toArray, List.set_cons_zero, List.set_cons_succ]
      refine wpAnyH_take (i := 2) (oi := ⟨some 19, _, _, _, _, _⟩) (v := ?_) rfl (by kernel_rfl) (by kernel_rfl) (by kernel_rfl) (fun _ _ _ h => h) (Or.inl ⟨by rfl, ?_⟩) hHeld ?_
      rotate_left
      · intro W hSw
        go_simp
        try with_reducible rfl
      try simp only [Act.put, List.setIfInBounds_toArray, List.set_cons_zero, List.set_cons_succ]
      refine wpAnyH_take (i := 3) (oi := ⟨some 20, _, _, _, _, _⟩) (v := ?_) rfl (by kernel_rfl) (by kernel_rfl) (by kernel_rfl) (fun _ _ _ h => h) (Or.inl ⟨by rfl, ?_⟩) hHeld ?_
      rotate_left
      · intro W hSw
        obtain ⟨⟨e0, e1⟩, -⟩ := HS.out W hSw
        go_simp
        try with_reducible rfl
      try simp only [Act.put, List.setIfInBounds_toArray, List.set_cons_zero, List.set_cons_succ]
      refine wpAnyH_take (i := 4) (oi := ⟨some 21, _, _, _, _, _⟩) (v := ?_) rfl (by kernel_rfl) (by kernel_rfl) (by kernel_rfl) (fun _ _ _ h => h) (Or.inl ⟨by rfl, ?_⟩) hHeld ?_
      rotate_left
      · intro W hSw
        go_simp
        try with_reducible rfl
      try simp only [Act.put, List.setIfInBounds_toArray, List.set_cons_zero, List.set_cons_succ]
      refine wpAnyH_take (i := 5) (oi := ⟨some 22, _, _, _, _, _⟩) (v := ?_) rfl (by kernel_rfl) (by kernel_rfl) (by kernel_rfl) (fun _ _ _ h => h) (Or.inl ⟨by rfl, ?_⟩) hHeld ?_
      rotate_left
      · intro W hSw
        go_simp
        try with_reducible rfl
      try simp only [Act.put, List.setIfInBounds_toArray, List.set_cons_zero, List.set_cons_succ]
      refine wpAnyH_take (i := 6) (oi := ⟨some 23, _, _, _, _, _⟩) (v := ?_) rfl (by kernel_rfl) (by kernel_rfl) (by kernel_rfl) (fun _ _ _ h => h) (Or.inl ⟨by rfl, ?_⟩) hHeld ?_
      rotate_left
      · intro W hSw
        go_simp
        try with_reducible rfl
      try simp only [Act.put, List.setIfInBounds_toArray, List.set_cons_zero, List.set_cons_succ]
      refine wpAnyH_take (i := 7) (oi := ⟨some 24, _, _, _, _, _⟩) (v := ?_) rfl (by kernel_rfl) (by kernel_rfl) (by kernel_rfl) (fun _ _ _ h => h) (Or.inl ⟨by rfl, ?_⟩) hHeld ?_
      rotate_left
      · intro W hSw
        obtain ⟨-, e0, e1⟩ := HS.out W hSw
        go_simp
        try with_reducible rfl
      try simp only [Act.put, List.setIfInBounds_toArray, List.set_cons_zero, List.set_cons_succ]
      refine wpAnyH_ready (rs := [8]) (by kernel_rfl) (by simp) ?_
      refine AllReadyH.cons (o := ⟨some 25, _, _, _, _, _⟩) rfl (fun K hK => ?_) AllReadyH.nil
      go_simp
      refine HR.mono ?_
      rintro e w3 ⟨rfl, hb3⟩
      have HB3 : Hid (Below w.heap.size w w3) := HBW.out.trans (hb3.mono HBW.out.size)
      clear hb3 HR HBW
      refine hK.out _ _ HB3.out (fun hHeld => ?_)
      clear hK K
      try simp only [Act.put, List.setIfInBounds_toArray, List.set_cons_zero, List.set_cons_succ]
      refine wpAnyH_take (i := 9) (oi := ⟨some 26, _, _, _, _, _⟩) (v := ?_) rfl (by kernel_rfl) (by kernel_rfl) (by kernel_rfl) (fun _ _ _ h => h) (Or.inl ⟨by rfl, ?_⟩) hHeld ?_
      rotate_left
      · intro W hSw
        go_simp
        try with_reducible rfl
      try simp only [Act.put, List.setIfInBounds_toArray, List.set_cons_zero, List.set_cons_succ]
      refine wpAnyH_done (by kernel_rfl) ?_ _
      clear HS
      go_wp2_with fail
      go_roundw
      case rel => exact ⟨k + 1, by omega, by go_num, HB3.out⟩
      case measure => simp [intOf]; omega
    · have hkl : k = len := by omega
      subst hkl
      go_wp2
      go_ret
      exact ⟨rfl, HB.out⟩
end Go.Proofs.YtplblechcnbieaaGreat
