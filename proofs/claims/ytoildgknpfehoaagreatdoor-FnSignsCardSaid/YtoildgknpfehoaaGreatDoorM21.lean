/-
  Texts of the proof, one behind the other: HouI, SgA.
-/
import Derived.Lib.LaidU8
import Derived.Test.YtoildgknpfehoaaGreatDoorM20

/-
  The houses as the program lays them; houseAt.
-/
namespace Go.Proofs.YtoildgknpfehoaaGreatDoor
open Go.RowKit

theorem gHouses : Tryz.prog.globalNamed "loop.example/g00394/impl.houses" = some 0 := by kernel_rfl
theorem housesType : (Tryz.prog.globals[0]?).map (·.type) = some 63 := by kernel_rfl
theorem cellsHouse : Tryz.prog.cellsOf 46 = 2 := by kernel_rfl
theorem cellsStr : Tryz.prog.cellsOf 9 = 1 := by kernel_rfl
/-- Each house's two texts lie where the program lays them. -/
def HousesOk (w : World) : Prop := 0 < w.heap.size ∧ ∀ i : Nat, i < 6 → w.cell? ⟨0, 2 * i, none⟩ = some (.string ⟨(pubF i).toArray⟩) ∧ w.cell? ⟨0, 2 * i + 1, none⟩ = some (.string ⟨(secF i).toArray⟩)
theorem housesBelow {w : World} (h : HousesOk w) : ∀ w', Below w.heap.size w w' → HousesOk w' := fun _ hb =>
  ⟨Nat.lt_of_lt_of_le h.1 hb.size, fun i hi => ⟨(hb.cell (p := ⟨_, 2 * i, none⟩) h.1).trans (h.2 i hi).1, (hb.cell (p := ⟨_, 2 * i + 1, none⟩) h.1).trans (h.2 i hi).2⟩⟩
/-- The houses as a row lists them. -/
def housesD {H : Type} : DataW H := .agg ((List.range 6).map fun i => .agg [.lit (.string (pubF i)), .lit (.string (secF i))])
theorem bytes_back (s : ByteArray) (l : List UInt8) (h : s.data.toList = l) : s = ⟨l.toArray⟩ := by
  subst h
  apply ByteArray.ext
  simp
theorem take_one {cs : List Value} {k : Nat} {v : Value} (h : (cs.drop k).take 1 = [v]) : cs[k]? = some v := by
  have := congrArg (·[0]?) h
  simpa [List.getElem?_take, List.getElem?_drop] using this
theorem pair_cells {W : World} {fuel : Nat} {cs : List Value} {a b : List UInt8} {p : List MemPlace} (h : DataW.trod (fun _ => ()) Tryz.prog W 0 (fun _ => true) false fuel 46 cs = some (.agg [.lit (.string a), .lit (.string b)], p)) :
    cs[0]? = some (.string ⟨a.toArray⟩) ∧ cs[1]? = some (.string ⟨b.toArray⟩) := by
  obtain ⟨xs, n, rfl, hx, hl, hxl, hall⟩ := DataW.trod_struct Tryz.underlying46 h
  have hx2 : xs.map (·.1) = [.lit (.string a), .lit (.string b)] := by
    have := congrArg Prod.fst hx
    simpa using this.symm
  obtain ⟨x0, x1, rfl⟩ : ∃ x0 x1, xs = [x0, x1] := by
    match xs, hx2 with
    | [x0, x1], _ => exact ⟨x0, x1, rfl⟩
  simp only [List.map_cons, List.map_nil, List.cons.injEq, and_true] at hx2
  obtain ⟨e0, e1⟩ := hx2
  have f0 := hall 0 _ rfl
  have f1 := hall 1 _ rfl
  change DataW.trod _ _ _ _ _ _ _ 9 ((cs.drop 0).take (Tryz.prog.cellsOf 9)) = some x0 at f0
  change DataW.trod _ _ _ _ _ _ _ 9 ((cs.drop 1).take (Tryz.prog.cellsOf 9)) = some x1 at f1
  rw [cellsStr] at f0 f1
  refine ⟨?_, ?_⟩
  · obtain ⟨s, hz, hx', _⟩ := DataW.trod_string Tryz.underlying9 f0
    rw [hx'] at e0
    simp only [DataW.lit.injEq, Lit.string.injEq] at e0
    rw [take_one hz, bytes_back s a e0]
  · obtain ⟨s, hz, hx', _⟩ := DataW.trod_string Tryz.underlying9 f1
    rw [hx'] at e1
    simp only [DataW.lit.injEq, Lit.string.injEq] at e1
    rw [take_one hz, bytes_back s b e1]
theorem houses_of_reads {W : World} (h : Lib.VarReads Tryz.prog W "loop.example/g00394/impl.houses" housesD) : HousesOk W := by
  obtain ⟨g', t', cs, fuel, p, hg', ht', hvar, hd⟩ := h
  obtain rfl := Option.some.inj (gHouses.symm.trans hg')
  obtain rfl := Option.some.inj (housesType.symm.trans ht')
  obtain ⟨xs, m, rfl, hx, hlen, hxl, hall⟩ := DataW.trod_array Tryz.underlying63 hd
  have hx2 : xs.map (·.1) = (List.range 6).map fun i => (DataW.agg [.lit (.string (pubF i)), .lit (.string (secF i))] : DataW Unit) := by
    have := congrArg Prod.fst hx
    simpa [housesD] using this.symm
  have hc := World.var?_cell gHouses hvar
  have hboth : ∀ i : Nat, i < 6 → W.cell? ⟨0, 2 * i, none⟩ = some (.string ⟨(pubF i).toArray⟩) ∧ W.cell? ⟨0, 2 * i + 1, none⟩ = some (.string ⟨(secF i).toArray⟩) := by
    intro i hi
    have h1 := hall i hi
    obtain ⟨y, hy⟩ : ∃ y, xs[i]? = some y := ⟨xs[i]'(by omega), by simp [show i < xs.length by omega]⟩
    have hy1 : y.1 = DataW.agg [.lit (.string (pubF i)), .lit (.string (secF i))] := by
      have h2 := congrArg (·[i]?) hx2
      simp only [List.getElem?_map, hy, Option.map_some] at h2
      rw [List.getElem?_range hi] at h2
      simpa using h2
    obtain ⟨y1, y2⟩ := y
    subst hy1
    rw [hy, cellsHouse] at h1
    have h3 := pair_cells h1
    rw [List.getElem?_take, List.getElem?_take, List.getElem?_drop, List.getElem?_drop] at h3
    simp only [show (0 : Nat) < 2 by decide, show (1 : Nat) < 2 by decide, if_true] at h3
    rw [hc, hc]
    constructor
    · rw [← h3.1, show 2 * i = i * 2 + 0 by omega]; simp
    · rw [← h3.2, show 2 * i + 1 = i * 2 + 1 by omega]; simp
  refine ⟨?_, hboth⟩
  have h0 := (hboth 0 (by decide)).1
  rcases Nat.lt_or_ge 0 W.heap.size with h | h
  · exact h
  · simp [World.cell?, Array.getElem?_eq_none h] at h0

set_option maxHeartbeats 800000 in
set_option maxRecDepth 100000 in
theorem houseAt_any (i : Int) (w : World) (hi : -9223372036854775808 ≤ i ∧ i ≤ 9223372036854775807) (hH : HousesOk w) : Calls Tryz.prog 27 #[.int .i64 i] w fun e w' => e = .returned (.agg #[.string (pubT i), .string (secT i)]) ∧ Below w.heap.size w w' := by
  by_cases h : 0 ≤ i ∧ i < 6
  · obtain ⟨n, rfl⟩ : ∃ n : Nat, i = (n : Int) := ⟨i.toNat, by omega⟩
    have hn : n < 6 := by omega
    rw [pubT_at hn, secT_at hn]
    have HB := (Below.refl w.heap.size w).alloc (Nat.le_refl _) (Obj.cells #[Value.string { data := #[] }, Value.string { data := #[] }] 46)
    obtain ⟨c0, c1⟩ := (housesBelow hH _ HB).2 n hn
    rw [Nat.mul_comm 2 n] at c0 c1
    clear hH HB
    have h1 : ¬ (n : Int) < 0 := by omega
    have h2 : ¬ (6 : Int) ≤ (n : Int) := by omega
    generalize (⟨(pubF n).toArray⟩ : ByteArray) = P at *
    generalize (⟨(secF n).toArray⟩ : ByteArray) = Q at *
    go_enter Tryz.func27, Tryz.ntmps27
    go_wp2_with fail
    refine bodyPost_ret (v := .agg #[.string P, .string Q]) (by simp [results, Tryz.results27, go_sem]; try rfl) rfl ⟨rfl, ?_⟩
    exact (Below.refl _ _).alloc (Nat.le_refl _) _
  · rw [pubT_no h, secT_no h]
    clear hH
    by_cases h3 : i < 0
    · go_enter Tryz.func27, Tryz.ntmps27
      go_wp2_with fail
      refine bodyPost_ret (v := .agg #[.string ByteArray.empty, .string ByteArray.empty]) (by simp [results, Tryz.results27, go_sem]; try rfl) rfl ⟨rfl, ?_⟩
      exact ((Below.refl _ _).alloc (Nat.le_refl _) _)
    · have h4 : (6 : Int) ≤ i := by omega
      go_enter Tryz.func27, Tryz.ntmps27
      go_wp2_with fail
      refine bodyPost_ret (v := .agg #[.string ByteArray.empty, .string ByteArray.empty]) (by simp [results, Tryz.results27, go_sem]; try rfl) rfl ⟨rfl, ?_⟩
      exact ((Below.refl _ _).alloc (Nat.le_refl _) _)
end Go.Proofs.YtoildgknpfehoaaGreatDoor

/-
  The program's PublicAt and SecretAt.
-/
namespace Go.Proofs.YtoildgknpfehoaaGreatDoor
open Go.RowKit

theorem run_field0 (T U : ByteArray) (w : World) : Sem.run Tryz.prog (Instr.field 46 (.agg #[.string T, .string U]) 0) w = .ok (.string T) w := by
  first | kernel_rfl | rfl | simp [Instr.field, go_sem]
theorem run_field1 (T U : ByteArray) (w : World) : Sem.run Tryz.prog (Instr.field 46 (.agg #[.string T, .string U]) 1) w = .ok (.string U) w := by
  first | kernel_rfl | rfl | simp [Instr.field, go_sem]

set_option maxHeartbeats 800000 in
set_option maxRecDepth 100000 in
theorem implPublic_any (i : Int) (w : World) (hi : -9223372036854775808 ≤ i ∧ i ≤ 9223372036854775807) (hH : HousesOk w) : Calls Tryz.prog 8 #[.int .i64 i] w fun e w' => e = .returned (.string (pubB i)) ∧ Below w.heap.size w w' := by
  have E := houseAt_any i w hi hH
  have HN : Hid (pubB i = txtL (figL (pubT i)) ∧ (pubT i).size ≤ 37) := ⟨rfl, pubT_size i⟩
  clear hH
  generalize pubT i = T at *
  generalize secT i = U at *
  have RF := run_field0 T U
  go_enter Tryz.func8, Tryz.ntmps8
  go_wp2_with fail
  refine E.mono ?_
  rintro e w1 ⟨rfl, hb1⟩
  have H1 : Hid (Below w.heap.size w w1) := hb1
  clear hb1 E
  go_wp2_with fail
  refine (implFig_any T _ (by have := HN.out.2; omega)).mono ?_
  rintro e w2 ⟨v, rfl, ho2, hb2⟩
  have H2 : Hid (OwnI w2 w1.heap.size v (figL T) ∧ Below w.heap.size w w2) := ⟨ho2, below_on H1.out hb2⟩
  clear ho2 hb2 H1
  go_wp2_with fail
  refine (implText_any v (figL T) w2 (by have := figL_len T; omega) (figL_wd T) H2.out.1.at).mono ?_
  rintro e w3 ⟨rfl, hb3⟩
  have H3 : Hid (Below w.heap.size w w3) := below_on H2.out.2 hb3
  clear hb3 H2
  go_wp2_with fail
  go_ret
  exact ⟨by rw [HN.out.1]; rfl, H3.out⟩

set_option maxHeartbeats 800000 in
set_option maxRecDepth 100000 in
theorem implSecret_any (i : Int) (w : World) (hi : -9223372036854775808 ≤ i ∧ i ≤ 9223372036854775807) (hH : HousesOk w) : Calls Tryz.prog 21 #[.int .i64 i] w fun e w' => ∃ v, e = .returned v ∧ OwnI w' w.heap.size v (secL i) ∧ Below w.heap.size w w' := by
  have E := houseAt_any i w hi hH
  have HN : Hid (secL i = figL (secT i) ∧ (secT i).size ≤ 37) := ⟨rfl, secT_size i⟩
  clear hH
  generalize pubT i = T at *
  generalize secT i = U at *
  have RF := run_field1 T U
  go_enter Tryz.func21, Tryz.ntmps21
  go_wp2_with fail
  refine E.mono ?_
  rintro e w1 ⟨rfl, hb1⟩
  have H1 : Hid (Below w.heap.size w w1) := hb1
  clear hb1 E
  go_wp2_with fail
  refine (implFig_any U _ (by have := HN.out.2; omega)).mono ?_
  rintro e w2 ⟨v, rfl, ho2, hb2⟩
  have H2 : Hid (OwnI w2 w.heap.size v (figL U) ∧ Below w.heap.size w w2) := ⟨ho2.base H1.out.size, below_on H1.out hb2⟩
  clear ho2 hb2 H1
  go_wp2_with fail
  go_ret
  exact ⟨_, rfl, by rw [HN.out.1]; exact H2.out.1, H2.out.2⟩

end Go.Proofs.YtoildgknpfehoaaGreatDoor
