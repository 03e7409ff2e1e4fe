/-
  Texts of the proof, one behind the other: HouP, HouI, SgS.
-/
import Derived.Lib.LaidU8
import Derived.Laws.Rows
import Derived.Test.YtfgkpjjjjnollaaGreatDoorSC23
import Derived.Test.YtfgkpjjjjnollaaGreatDoorSC26

/-
  Plain facts: the six houses' figures, as texts.
-/
namespace Go.Proofs.YtfgkpjjjjnollaaGreatDoor
open Go.RowKit

/-- The figures of the houses' numbers, and of their secrets. -/
def pubF : Nat → List UInt8
  | 0 => [49, 49, 50, 54, 56, 52, 50, 52, 56, 50, 50, 57, 52, 55, 55, 53, 51, 48, 56, 49, 57, 53, 54, 57, 52, 54, 50, 51, 51, 48, 56, 50, 52, 48, 53, 57, 55]
  | 1 => [49, 50, 52, 55, 57, 56, 49, 54, 53, 53, 52, 50, 51, 53, 51, 50, 49, 53, 52, 48, 57, 50, 53, 53, 52, 56, 54, 51, 56, 56, 56, 56, 57, 55, 50, 48, 57]
  | 2 => [49, 49, 52, 56, 54, 56, 54, 51, 50, 48, 48, 50, 57, 57, 54, 55, 55, 54, 53, 49, 55, 52, 50, 53, 54, 55, 48, 52, 54, 56, 52, 51, 53, 48, 49, 49, 49]
  | 3 => [49, 48, 52, 49, 54, 57, 49, 55, 51, 56, 57, 54, 51, 57, 50, 48, 52, 52, 48, 51, 50, 51, 57, 49, 49, 48, 55, 56, 50, 53, 57, 51, 49, 54, 48, 51, 57]
  | 4 => [49, 49, 56, 56, 50, 52, 52, 51, 56, 51, 50, 57, 56, 53, 50, 56, 55, 53, 52, 52, 55, 57, 57, 55, 51, 54, 53, 50, 50, 49, 54, 53, 52, 55, 56, 55, 55]
  | 5 => [49, 48, 55, 53, 49, 55, 48, 53, 51, 48, 57, 52, 53, 51, 54, 56, 54, 49, 55, 53, 49, 56, 55, 55, 49, 52, 54, 54, 55, 56, 56, 55, 56, 53, 56, 49, 51]
  | _ => []
def secF : Nat → List UInt8
  | 0 => [54, 50, 55, 48, 56, 49, 57, 56, 54, 56, 52, 51, 54, 53, 55, 48, 50, 49, 48, 51, 56, 49, 48, 51, 48, 52, 54, 56, 51, 50, 49, 57, 48, 48, 56, 49]
  | 1 => [50, 51, 53, 57, 55, 51, 51, 57, 57, 51, 54, 50, 51, 50, 48, 54, 56, 48, 51, 49, 53, 50, 57, 57, 49, 54, 55, 51, 54, 51, 49, 53, 57, 55, 49, 51]
  | 2 => [50, 56, 49, 48, 51, 50, 54, 52, 52, 57, 57, 57, 57, 51, 49, 51, 56, 51, 57, 56, 55, 55, 57, 54, 56, 52, 57, 51, 48, 48, 48, 57, 55, 48, 53, 55]
  | 3 => [53, 52, 55, 48, 49, 54, 53, 49, 50, 55, 53, 53, 50, 56, 56, 49, 56, 54, 53, 55, 48, 49, 57, 48, 50, 56, 53, 49, 57, 54, 56, 57, 51, 53, 53, 51]
  | 4 => [54, 56, 53, 49, 54, 54, 52, 55, 52, 53, 56, 52, 54, 48, 55, 49, 57, 50, 49, 49, 48, 52, 57, 48, 54, 52, 53, 50, 57, 50, 50, 53, 48, 55, 57, 51]
  | 5 => [57, 54, 48, 50, 49, 54, 56, 52, 50, 48, 51, 49, 55, 49, 51, 55, 54, 53, 54, 56, 54, 57, 48, 51, 54, 56, 51, 49, 54, 49, 49, 57, 50, 57, 51]
  | _ => []
/-- The same as texts, of any number of a house. -/
def pubT (i : Int) : ByteArray := if 0 ≤ i ∧ i < 6 then ⟨(pubF i.toNat).toArray⟩ else ByteArray.empty
def secT (i : Int) : ByteArray := if 0 ≤ i ∧ i < 6 then ⟨(secF i.toNat).toArray⟩ else ByteArray.empty
theorem pubT_no {i : Int} (h : ¬ (0 ≤ i ∧ i < 6)) : pubT i = ByteArray.empty := if_neg h
theorem secT_no {i : Int} (h : ¬ (0 ≤ i ∧ i < 6)) : secT i = ByteArray.empty := if_neg h
theorem pubT_at {i : Nat} (h : i < 6) : pubT (i : Int) = ⟨(pubF i).toArray⟩ := by unfold pubT; rw [if_pos (by omega), Int.toNat_natCast]
theorem secT_at {i : Nat} (h : i < 6) : secT (i : Int) = ⟨(secF i).toArray⟩ := by unfold secT; rw [if_pos (by omega), Int.toNat_natCast]
theorem pubT_size (i : Int) : (pubT i).size ≤ 37 := by
  by_cases h : 0 ≤ i ∧ i < 6
  · obtain ⟨n, rfl⟩ : ∃ n : Nat, i = (n : Int) := ⟨i.toNat, by omega⟩
    rw [pubT_at (by omega)]
    match n, h with
    | 0, _ => decide
    | 1, _ => decide
    | 2, _ => decide
    | 3, _ => decide
    | 4, _ => decide
    | 5, _ => decide
    | n + 6, h => omega
  · rw [pubT_no h]; decide
theorem pubT_pos {i : Nat} (h : i < 6) : (pubT (i : Int)).size ≠ 0 := by
  rw [pubT_at h]
  match i, h with
  | 0, _ => decide
  | 1, _ => decide
  | 2, _ => decide
  | 3, _ => decide
  | 4, _ => decide
  | 5, _ => decide
theorem secT_size (i : Int) : (secT i).size ≤ 37 := by
  by_cases h : 0 ≤ i ∧ i < 6
  · obtain ⟨n, rfl⟩ : ∃ n : Nat, i = (n : Int) := ⟨i.toNat, by omega⟩
    rw [secT_at (by omega)]
    match n, h with
    | 0, _ => decide
    | 1, _ => decide
    | 2, _ => decide
    | 3, _ => decide
    | 4, _ => decide
    | 5, _ => decide
    | n + 6, h => omega
  · rw [secT_no h]; decide
theorem figL_of {l : List UInt8} {vs : List Nat} {n : Nat} (h : l.length ≤ 140) (hv : fvals 10 l = some vs) (hn : horn 10 (vs.map fun x : Nat => (x : Int)) = (n : Int)) : figL ⟨l.toArray⟩ = digs (n : Int) := by
  unfold figL
  rw [if_pos (by show l.toArray.size ≤ 140; simpa using h)]
  show (match fvals 10 l.toArray.toList with | some vs => digs (horn 10 (vs.map fun x : Nat => (x : Int))) | none => []) = _
  rw [show l.toArray.toList = l by simp, hv]
  show digs (horn 10 (vs.map fun x : Nat => (x : Int))) = _
  rw [hn]
theorem figL_empty : figL ByteArray.empty = [] := by
  have h := figL_of (l := []) (vs := []) (n := 0) (by decide) rfl (by decide)
  have e : (⟨([] : List UInt8).toArray⟩ : ByteArray) = ByteArray.empty := rfl
  rw [e] at h
  rw [h]
  exact digs_neg (by decide)
def secL (i : Int) : List Int := figL (secT i)
theorem figL_wd (s : ByteArray) : Wd (figL s) := by
  unfold figL
  split
  · split
    · exact (dig_digs _).wd
    · exact fun x hx => by simp at hx
  · exact fun x hx => by simp at hx
theorem below_on {a b c : World} (h1 : Below a.heap.size a b) (h2 : Below b.heap.size b c) : Below a.heap.size a c := h1.trans (h2.mono h1.size)
end Go.Proofs.YtfgkpjjjjnollaaGreatDoor

/-
  The houses as the program lays them; houseAt.
-/
namespace Go.Proofs.YtfgkpjjjjnollaaGreatDoor
open Go.RowKit

theorem gHouses : Tryz.prog.globalNamed "loop.example/g00394/impl.houses" = some 0 := by kernel_rfl
theorem housesType : (Tryz.prog.globals[0]?).map (·.type) = some 221 := by kernel_rfl
theorem cellsHouse : Tryz.prog.cellsOf 183 = 2 := by kernel_rfl
theorem cellsStr : Tryz.prog.cellsOf 9 = 1 := by kernel_rfl
/-- Each house's two texts lie where the program lays them. -/
def HousesOk (w : World) : Prop := 0 < w.heap.size ∧ ∀ i : Nat, i < 6 → w.cell? ⟨0, 2 * i, none⟩ = some (.string ⟨(pubF i).toArray⟩) ∧ w.cell? ⟨0, 2 * i + 1, none⟩ = some (.string ⟨(secF i).toArray⟩)
theorem housesBelow {w : World} (h : HousesOk w) : ∀ w', Below w.heap.size w w' → HousesOk w' := fun _ hb =>
  ⟨Nat.lt_of_lt_of_le h.1 hb.size, fun i hi => ⟨(hb.cell (p := ⟨_, 2 * i, none⟩) h.1).trans (h.2 i hi).1, (hb.cell (p := ⟨_, 2 * i + 1, none⟩) h.1).trans (h.2 i hi).2⟩⟩
/-- The houses as a row lists them. -/
def housesD {H : Type} : DataW H := .agg ((List.range 6).map fun i => .agg [.lit (.string (pubF i)), .lit (.string (secF i))])
theorem bytes_backH (s : ByteArray) (l : List UInt8) (h : s.data.toList = l) : s = ⟨l.toArray⟩ := by
  subst h
  apply ByteArray.ext
  simp
theorem take_oneH {cs : List Value} {k : Nat} {v : Value} (h : (cs.drop k).take 1 = [v]) : cs[k]? = some v := by
  have := congrArg (·[0]?) h
  simpa [List.getElem?_take, List.getElem?_drop] using this
theorem pair_cells {W : World} {fuel : Nat} {cs : List Value} {a b : List UInt8} {p : List MemPlace} (h : DataW.trod (fun _ => ()) Tryz.prog W 0 (fun _ => true) false fuel 183 cs = some (.agg [.lit (.string a), .lit (.string b)], p)) :
    cs[0]? = some (.string ⟨a.toArray⟩) ∧ cs[1]? = some (.string ⟨b.toArray⟩) := by
  obtain ⟨xs, n, rfl, hx, hl, hxl, hall⟩ := DataW.trod_struct Tryz.underlying183 h
  have hx2 : xs.map (·.1) = [.lit (.string a), .lit (.string b)] := by
    have := congrArg Prod.fst hx
    simpa using this.symm
  obtain ⟨x0, x1, rfl⟩ : ∃ x0 x1, xs = [x0, x1] := by
    match xs, hx2 with
    | [x0, x1], _ => exact ⟨x0, x1, rfl⟩
  simp only [List.map_cons, List.map_nil, List.cons.injEq, and_true] at hx2
  obtain ⟨e0, e1⟩ := hx2
  have f0 := hall 0 _ rfl
  have f1 := hall 1 _ rfl
  change DataW.trod _ _ _ _ _ _ _ 9 ((cs.drop 0).take (Tryz.prog.cellsOf 9)) = some x0 at f0
  change DataW.trod _ _ _ _ _ _ _ 9 ((cs.drop 1).take (Tryz.prog.cellsOf 9)) = some x1 at f1
  rw [cellsStr] at f0 f1
  refine ⟨?_, ?_⟩
  · obtain ⟨s, hz, hx', _⟩ := DataW.trod_string Tryz.underlying9 f0
    rw [hx'] at e0
    simp only [DataW.lit.injEq, Lit.string.injEq] at e0
    rw [take_oneH hz, bytes_backH s a e0]
  · obtain ⟨s, hz, hx', _⟩ := DataW.trod_string Tryz.underlying9 f1
    rw [hx'] at e1
    simp only [DataW.lit.injEq, Lit.string.injEq] at e1
    rw [take_oneH hz, bytes_backH s b e1]
theorem houses_of_reads {W : World} (h : Lib.VarReads Tryz.prog W "loop.example/g00394/impl.houses" housesD) : HousesOk W := by
  obtain ⟨g', t', cs, fuel, p, hg', ht', hvar, hd⟩ := h
  obtain rfl := Option.some.inj (gHouses.symm.trans hg')
  obtain rfl := Option.some.inj (housesType.symm.trans ht')
  obtain ⟨xs, m, rfl, hx, hlen, hxl, hall⟩ := DataW.trod_array Tryz.underlying221 hd
  have hx2 : xs.map (·.1) = (List.range 6).map fun i => (DataW.agg [.lit (.string (pubF i)), .lit (.string (secF i))] : DataW Unit) := by
    have := congrArg Prod.fst hx
    simpa [housesD] using this.symm
  have hc := World.var?_cell gHouses hvar
  have hboth : ∀ i : Nat, i < 6 → W.cell? ⟨0, 2 * i, none⟩ = some (.string ⟨(pubF i).toArray⟩) ∧ W.cell? ⟨0, 2 * i + 1, none⟩ = some (.string ⟨(secF i).toArray⟩) := by
    intro i hi
    have h1 := hall i hi
    obtain ⟨y, hy⟩ : ∃ y, xs[i]? = some y := ⟨xs[i]'(by omega), by simp [show i < xs.length by omega]⟩
    have hy1 : y.1 = DataW.agg [.lit (.string (pubF i)), .lit (.string (secF i))] := by
      have h2 := congrArg (·[i]?) hx2
      simp only [List.getElem?_map, hy, Option.map_some] at h2
      rw [List.getElem?_range hi] at h2
      simpa using h2
    obtain ⟨y1, y2⟩ := y
    subst hy1
    rw [hy, cellsHouse] at h1
    have h3 := pair_cells h1
    rw [List.getElem?_take, List.getElem?_take, List.getElem?_drop, List.getElem?_drop] at h3
    simp only [show (0 : Nat) < 2 by decide, show (1 : Nat) < 2 by decide, if_true] at h3
    rw [hc, hc]
    constructor
    · rw [← h3.1, show 2 * i = i * 2 + 0 by omega]; simp
    · rw [← h3.2, show 2 * i + 1 = i * 2 + 1 by omega]; simp
  refine ⟨?_, hboth⟩
  have h0 := (hboth 0 (by decide)).1
  rcases Nat.lt_or_ge 0 W.heap.size with h | h
  · exact h
  · simp [World.cell?, Array.getElem?_eq_none h] at h0

set_option maxHeartbeats 800000 in
set_option maxRecDepth 100000 in
theorem houseAt_any (i : Int) (w : World) (hi : -9223372036854775808 ≤ i ∧ i ≤ 9223372036854775807) (hH : HousesOk w) : Calls Tryz.prog 176 #[.int .i64 i] w fun e w' => e = .returned (.agg #[.string (pubT i), .string (secT i)]) ∧ Below w.heap.size w w' := by
  by_cases h : 0 ≤ i ∧ i < 6
  · obtain ⟨n, rfl⟩ : ∃ n : Nat, i = (n : Int) := ⟨i.toNat, by omega⟩
    have hn : n < 6 := by omega
    rw [pubT_at hn, secT_at hn]
    have HB := (Below.refl w.heap.size w).alloc (Nat.le_refl _) (Obj.cells #[Value.string { data := #[] }, Value.string { data := #[] }] 183)
    obtain ⟨c0, c1⟩ := (housesBelow hH _ HB).2 n hn
    rw [Nat.mul_comm 2 n] at c0 c1
    clear hH HB
    have h1 : ¬ (n : Int) < 0 := by omega
    have h2 : ¬ (6 : Int) ≤ (n : Int) := by omega
    generalize (⟨(pubF n).toArray⟩ : ByteArray) = P at *
    generalize (⟨(secF n).toArray⟩ : ByteArray) = Q at *
    go_enter Tryz.func176, Tryz.ntmps176
    go_wp2_with fail
    refine bodyPost_ret (v := .agg #[.string P, .string Q]) (by simp [results, Tryz.results176, go_sem]; try rfl) rfl ⟨rfl, ?_⟩
    exact (Below.refl _ _).alloc (Nat.le_refl _) _
  · rw [pubT_no h, secT_no h]
    clear hH
    by_cases h3 : i < 0
    · go_enter Tryz.func176, Tryz.ntmps176
      go_wp2_with fail
      refine bodyPost_ret (v := .agg #[.string ByteArray.empty, .string ByteArray.empty]) (by simp [results, Tryz.results176, go_sem]; try rfl) rfl ⟨rfl, ?_⟩
      exact ((Below.refl _ _).alloc (Nat.le_refl _) _)
    · have h4 : (6 : Int) ≤ i := by omega
      go_enter Tryz.func176, Tryz.ntmps176
      go_wp2_with fail
      refine bodyPost_ret (v := .agg #[.string ByteArray.empty, .string ByteArray.empty]) (by simp [results, Tryz.results176, go_sem]; try rfl) rfl ⟨rfl, ?_⟩
      exact ((Below.refl _ _).alloc (Nat.le_refl _) _)
end Go.Proofs.YtfgkpjjjjnollaaGreatDoor

/-
  The specification's signatures: l06Public, PublicAt, SecretAt.
-/
namespace Go.Proofs.YtfgkpjjjjnollaaGreatDoor
open Go.RowKit

theorem alloc_more0 (w : World) (o : Obj) : w.heap.size < (w.alloc o).heap.size := by
  show w.heap.size < (w.heap.push o).size
  rw [Array.size_push]
  exact Nat.lt_succ_self _
theorem alloc_two (w : World) (cs : Array Value) (t : TypeId) : OwnI ((w.alloc (Obj.cells cs t)).alloc (Obj.cells #[] 3)) w.heap.size (.slice (some ⟨w.heap.size + 1, 0, none⟩) 0 0) [] := by
  have h := OwnI.empty (w.alloc (Obj.cells cs t)) (base := w.heap.size) (Nat.le_of_lt (alloc_more0 w _))
  rw [show (w.alloc (Obj.cells cs t)).heap.size = w.heap.size + 1 from Array.size_push _] at h
  exact h
theorem alloc_at (w : World) (cs : Array Value) (t : TypeId) (n : Nat) : (w.alloc (Obj.cells cs t)).cell? ⟨w.heap.size, n, none⟩ = cs[n]? := by
  simp only [World.cell?, heap_alloc_new]
  rfl
theorem pub_lit {n : Nat} (h : n < 6) : (#[Value.string { data := #[49, 49, 50, 54, 56, 52, 50, 52, 56, 50, 50, 57, 52, 55, 55, 53, 51, 48, 56, 49, 57, 53, 54, 57, 52, 54, 50, 51, 51, 48, 56, 50, 52, 48, 53, 57, 55] }, Value.string { data := #[49, 50, 52, 55, 57, 56, 49, 54, 53, 53, 52, 50, 51, 53, 51, 50, 49, 53, 52, 48, 57, 50, 53, 53, 52, 56, 54, 51, 56, 56, 56, 56, 57, 55, 50, 48, 57] }, Value.string { data := #[49, 49, 52, 56, 54, 56, 54, 51, 50, 48, 48, 50, 57, 57, 54, 55, 55, 54, 53, 49, 55, 52, 50, 53, 54, 55, 48, 52, 54, 56, 52, 51, 53, 48, 49, 49, 49] }, Value.string { data := #[49, 48, 52, 49, 54, 57, 49, 55, 51, 56, 57, 54, 51, 57, 50, 48, 52, 52, 48, 51, 50, 51, 57, 49, 49, 48, 55, 56, 50, 53, 57, 51, 49, 54, 48, 51, 57] }, Value.string { data := #[49, 49, 56, 56, 50, 52, 52, 51, 56, 51, 50, 57, 56, 53, 50, 56, 55, 53, 52, 52, 55, 57, 57, 55, 51, 54, 53, 50, 50, 49, 54, 53, 52, 55, 56, 55, 55] }, Value.string { data := #[49, 48, 55, 53, 49, 55, 48, 53, 51, 48, 57, 52, 53, 51, 54, 56, 54, 49, 55, 53, 49, 56, 55, 55, 49, 52, 54, 54, 55, 56, 56, 55, 56, 53, 56, 49, 51] }] : Array Value)[n]? = some (.string ⟨(pubF n).toArray⟩) := by
  match n, h with
  | 0, _ => rfl
  | 1, _ => rfl
  | 2, _ => rfl
  | 3, _ => rfl
  | 4, _ => rfl
  | 5, _ => rfl
set_option maxHeartbeats 800000 in
set_option maxRecDepth 100000 in
theorem specPub_any (i : Int) (w : World) (hi : -9223372036854775808 ≤ i ∧ i ≤ 9223372036854775807) : Calls Tryz.prog 111 #[.int .i64 i] w fun e w' => ∃ v, e = .returned v ∧ OwnI w' w.heap.size v (figL (pubT i)) ∧ Below w.heap.size w w' := by
  by_cases h : 0 ≤ i ∧ i < 6
  · have HN : Hid (figL (pubT i) = figL (pubT i)) := rfl
    obtain ⟨n, rfl⟩ : ∃ n : Nat, i = (n : Int) := ⟨i.toNat, by omega⟩
    have hn : n < 6 := by omega
    have hcell := (alloc_at w #[Value.string { data := #[49, 49, 50, 54, 56, 52, 50, 52, 56, 50, 50, 57, 52, 55, 55, 53, 51, 48, 56, 49, 57, 53, 54, 57, 52, 54, 50, 51, 51, 48, 56, 50, 52, 48, 53, 57, 55] }, Value.string { data := #[49, 50, 52, 55, 57, 56, 49, 54, 53, 53, 52, 50, 51, 53, 51, 50, 49, 53, 52, 48, 57, 50, 53, 53, 52, 56, 54, 51, 56, 56, 56, 56, 57, 55, 50, 48, 57] }, Value.string { data := #[49, 49, 52, 56, 54, 56, 54, 51, 50, 48, 48, 50, 57, 57, 54, 55, 55, 54, 53, 49, 55, 52, 50, 53, 54, 55, 48, 52, 54, 56, 52, 51, 53, 48, 49, 49, 49] }, Value.string { data := #[49, 48, 52, 49, 54, 57, 49, 55, 51, 56, 57, 54, 51, 57, 50, 48, 52, 52, 48, 51, 50, 51, 57, 49, 49, 48, 55, 56, 50, 53, 57, 51, 49, 54, 48, 51, 57] }, Value.string { data := #[49, 49, 56, 56, 50, 52, 52, 51, 56, 51, 50, 57, 56, 53, 50, 56, 55, 53, 52, 52, 55, 57, 57, 55, 51, 54, 53, 50, 50, 49, 54, 53, 52, 55, 56, 55, 55] }, Value.string { data := #[49, 48, 55, 53, 49, 55, 48, 53, 51, 48, 57, 52, 53, 51, 54, 56, 54, 49, 55, 53, 49, 56, 55, 55, 49, 52, 54, 54, 55, 56, 56, 55, 56, 53, 56, 49, 51] }] 9 n).trans (pub_lit hn)
    have HZ : Hid ((pubT (n : Int)).size ≤ 37) := pubT_size _
    rw [← pubT_at hn] at hcell
    have HB : Hid (Below w.heap.size w (w.alloc (Obj.cells #[Value.string { data := #[49, 49, 50, 54, 56, 52, 50, 52, 56, 50, 50, 57, 52, 55, 55, 53, 51, 48, 56, 49, 57, 53, 54, 57, 52, 54, 50, 51, 51, 48, 56, 50, 52, 48, 53, 57, 55] }, Value.string { data := #[49, 50, 52, 55, 57, 56, 49, 54, 53, 53, 52, 50, 51, 53, 51, 50, 49, 53, 52, 48, 57, 50, 53, 53, 52, 56, 54, 51, 56, 56, 56, 56, 57, 55, 50, 48, 57] }, Value.string { data := #[49, 49, 52, 56, 54, 56, 54, 51, 50, 48, 48, 50, 57, 57, 54, 55, 55, 54, 53, 49, 55, 52, 50, 53, 54, 55, 48, 52, 54, 56, 52, 51, 53, 48, 49, 49, 49] }, Value.string { data := #[49, 48, 52, 49, 54, 57, 49, 55, 51, 56, 57, 54, 51, 57, 50, 48, 52, 52, 48, 51, 50, 51, 57, 49, 49, 48, 55, 56, 50, 53, 57, 51, 49, 54, 48, 51, 57] }, Value.string { data := #[49, 49, 56, 56, 50, 52, 52, 51, 56, 51, 50, 57, 56, 53, 50, 56, 55, 53, 52, 52, 55, 57, 57, 55, 51, 54, 53, 50, 50, 49, 54, 53, 52, 55, 56, 55, 55] }, Value.string { data := #[49, 48, 55, 53, 49, 55, 48, 53, 51, 48, 57, 52, 53, 51, 54, 56, 54, 49, 55, 53, 49, 56, 55, 55, 49, 52, 54, 54, 55, 56, 56, 55, 56, 53, 56, 49, 51] }] 9))) := (Below.refl _ _).alloc (Nat.le_refl _) _
    generalize pubT (n : Int) = T at *
    have hn0 : (0 : Int) ≤ (n : Int) := by omega
    have hn6 : (n : Int) < 6 := by omega
    go_enter Tryz.func111, Tryz.ntmps111
    go_wp2_with fail
    refine (in_yes (n : Int) 0 5 _ (by omega) (by omega)).mono ?_
    rintro e w' ⟨rfl, rfl⟩
    go_wp2_with fail
    refine (specFig_any T _ (by have := HZ.out; omega)).mono ?_
    rintro e w2 ⟨v, rfl, ho2, hb2⟩
    have H2 : Hid (OwnI w2 w.heap.size v (figL T) ∧ Below w.heap.size w w2) := ⟨ho2.base HB.out.size, below_on HB.out hb2⟩
    clear ho2 hb2 HB hcell
    go_wp2_with fail
    go_ret
    exact ⟨_, rfl, by first | exact H2.out.1 | (rw [HN.out]; exact H2.out.1), H2.out.2⟩
  · have HN : Hid (figL (pubT i) = []) := by
      show figL (pubT i) = []
      rw [pubT_no h, figL_empty]
    have HB : Hid (Below w.heap.size w (w.alloc (Obj.cells #[Value.string { data := #[49, 49, 50, 54, 56, 52, 50, 52, 56, 50, 50, 57, 52, 55, 55, 53, 51, 48, 56, 49, 57, 53, 54, 57, 52, 54, 50, 51, 51, 48, 56, 50, 52, 48, 53, 57, 55] }, Value.string { data := #[49, 50, 52, 55, 57, 56, 49, 54, 53, 53, 52, 50, 51, 53, 51, 50, 49, 53, 52, 48, 57, 50, 53, 53, 52, 56, 54, 51, 56, 56, 56, 56, 57, 55, 50, 48, 57] }, Value.string { data := #[49, 49, 52, 56, 54, 56, 54, 51, 50, 48, 48, 50, 57, 57, 54, 55, 55, 54, 53, 49, 55, 52, 50, 53, 54, 55, 48, 52, 54, 56, 52, 51, 53, 48, 49, 49, 49] }, Value.string { data := #[49, 48, 52, 49, 54, 57, 49, 55, 51, 56, 57, 54, 51, 57, 50, 48, 52, 52, 48, 51, 50, 51, 57, 49, 49, 48, 55, 56, 50, 53, 57, 51, 49, 54, 48, 51, 57] }, Value.string { data := #[49, 49, 56, 56, 50, 52, 52, 51, 56, 51, 50, 57, 56, 53, 50, 56, 55, 53, 52, 52, 55, 57, 57, 55, 51, 54, 53, 50, 50, 49, 54, 53, 52, 55, 56, 55, 55] }, Value.string { data := #[49, 48, 55, 53, 49, 55, 48, 53, 51, 48, 57, 52, 53, 51, 54, 56, 54, 49, 55, 53, 49, 56, 55, 55, 49, 52, 54, 54, 55, 56, 56, 55, 56, 53, 56, 49, 51] }] 9))) := (Below.refl _ _).alloc (Nat.le_refl _) _
    have HO : Hid (OwnI ((w.alloc (Obj.cells #[Value.string { data := #[49, 49, 50, 54, 56, 52, 50, 52, 56, 50, 50, 57, 52, 55, 55, 53, 51, 48, 56, 49, 57, 53, 54, 57, 52, 54, 50, 51, 51, 48, 56, 50, 52, 48, 53, 57, 55] }, Value.string { data := #[49, 50, 52, 55, 57, 56, 49, 54, 53, 53, 52, 50, 51, 53, 51, 50, 49, 53, 52, 48, 57, 50, 53, 53, 52, 56, 54, 51, 56, 56, 56, 56, 57, 55, 50, 48, 57] }, Value.string { data := #[49, 49, 52, 56, 54, 56, 54, 51, 50, 48, 48, 50, 57, 57, 54, 55, 55, 54, 53, 49, 55, 52, 50, 53, 54, 55, 48, 52, 54, 56, 52, 51, 53, 48, 49, 49, 49] }, Value.string { data := #[49, 48, 52, 49, 54, 57, 49, 55, 51, 56, 57, 54, 51, 57, 50, 48, 52, 52, 48, 51, 50, 51, 57, 49, 49, 48, 55, 56, 50, 53, 57, 51, 49, 54, 48, 51, 57] }, Value.string { data := #[49, 49, 56, 56, 50, 52, 52, 51, 56, 51, 50, 57, 56, 53, 50, 56, 55, 53, 52, 52, 55, 57, 57, 55, 51, 54, 53, 50, 50, 49, 54, 53, 52, 55, 56, 55, 55] }, Value.string { data := #[49, 48, 55, 53, 49, 55, 48, 53, 51, 48, 57, 52, 53, 51, 54, 56, 54, 49, 55, 53, 49, 56, 55, 55, 49, 52, 54, 54, 55, 56, 56, 55, 56, 53, 56, 49, 51] }] 9)).alloc (Obj.cells #[] 3)) w.heap.size (.slice (some ⟨w.heap.size + 1, 0, none⟩) 0 0) []) := alloc_two w _ _
    have hno : ¬ (0 ≤ i ∧ i ≤ 5) := by omega
    go_enter Tryz.func111, Tryz.ntmps111
    go_wp2_with fail
    refine (in_no i 0 5 _ (by omega)).mono ?_
    rintro e w' ⟨rfl, rfl⟩
    go_wp2_with fail
    go_ret
    exact ⟨_, rfl, by rw [HN.out]; exact HO.out, HB.out.alloc HB.out.size _⟩

theorem sec_lit {n : Nat} (h : n < 6) : (#[Value.string { data := #[54, 50, 55, 48, 56, 49, 57, 56, 54, 56, 52, 51, 54, 53, 55, 48, 50, 49, 48, 51, 56, 49, 48, 51, 48, 52, 54, 56, 51, 50, 49, 57, 48, 48, 56, 49] }, Value.string { data := #[50, 51, 53, 57, 55, 51, 51, 57, 57, 51, 54, 50, 51, 50, 48, 54, 56, 48, 51, 49, 53, 50, 57, 57, 49, 54, 55, 51, 54, 51, 49, 53, 57, 55, 49, 51] }, Value.string { data := #[50, 56, 49, 48, 51, 50, 54, 52, 52, 57, 57, 57, 57, 51, 49, 51, 56, 51, 57, 56, 55, 55, 57, 54, 56, 52, 57, 51, 48, 48, 48, 57, 55, 48, 53, 55] }, Value.string { data := #[53, 52, 55, 48, 49, 54, 53, 49, 50, 55, 53, 53, 50, 56, 56, 49, 56, 54, 53, 55, 48, 49, 57, 48, 50, 56, 53, 49, 57, 54, 56, 57, 51, 53, 53, 51] }, Value.string { data := #[54, 56, 53, 49, 54, 54, 52, 55, 52, 53, 56, 52, 54, 48, 55, 49, 57, 50, 49, 49, 48, 52, 57, 48, 54, 52, 53, 50, 57, 50, 50, 53, 48, 55, 57, 51] }, Value.string { data := #[57, 54, 48, 50, 49, 54, 56, 52, 50, 48, 51, 49, 55, 49, 51, 55, 54, 53, 54, 56, 54, 57, 48, 51, 54, 56, 51, 49, 54, 49, 49, 57, 50, 57, 51] }] : Array Value)[n]? = some (.string ⟨(secF n).toArray⟩) := by
  match n, h with
  | 0, _ => rfl
  | 1, _ => rfl
  | 2, _ => rfl
  | 3, _ => rfl
  | 4, _ => rfl
  | 5, _ => rfl
set_option maxHeartbeats 800000 in
set_option maxRecDepth 100000 in
theorem specSecret_any (i : Int) (w : World) (hi : -9223372036854775808 ≤ i ∧ i ≤ 9223372036854775807) : Calls Tryz.prog 186 #[.int .i64 i] w fun e w' => ∃ v, e = .returned v ∧ OwnI w' w.heap.size v (secL i) ∧ Below w.heap.size w w' := by
  by_cases h : 0 ≤ i ∧ i < 6
  · have HN : Hid (secL i = figL (secT i)) := rfl
    obtain ⟨n, rfl⟩ : ∃ n : Nat, i = (n : Int) := ⟨i.toNat, by omega⟩
    have hn : n < 6 := by omega
    have hcell := (alloc_at w #[Value.string { data := #[54, 50, 55, 48, 56, 49, 57, 56, 54, 56, 52, 51, 54, 53, 55, 48, 50, 49, 48, 51, 56, 49, 48, 51, 48, 52, 54, 56, 51, 50, 49, 57, 48, 48, 56, 49] }, Value.string { data := #[50, 51, 53, 57, 55, 51, 51, 57, 57, 51, 54, 50, 51, 50, 48, 54, 56, 48, 51, 49, 53, 50, 57, 57, 49, 54, 55, 51, 54, 51, 49, 53, 57, 55, 49, 51] }, Value.string { data := #[50, 56, 49, 48, 51, 50, 54, 52, 52, 57, 57, 57, 57, 51, 49, 51, 56, 51, 57, 56, 55, 55, 57, 54, 56, 52, 57, 51, 48, 48, 48, 57, 55, 48, 53, 55] }, Value.string { data := #[53, 52, 55, 48, 49, 54, 53, 49, 50, 55, 53, 53, 50, 56, 56, 49, 56, 54, 53, 55, 48, 49, 57, 48, 50, 56, 53, 49, 57, 54, 56, 57, 51, 53, 53, 51] }, Value.string { data := #[54, 56, 53, 49, 54, 54, 52, 55, 52, 53, 56, 52, 54, 48, 55, 49, 57, 50, 49, 49, 48, 52, 57, 48, 54, 52, 53, 50, 57, 50, 50, 53, 48, 55, 57, 51] }, Value.string { data := #[57, 54, 48, 50, 49, 54, 56, 52, 50, 48, 51, 49, 55, 49, 51, 55, 54, 53, 54, 56, 54, 57, 48, 51, 54, 56, 51, 49, 54, 49, 49, 57, 50, 57, 51] }] 9 n).trans (sec_lit hn)
    have HZ : Hid ((secT (n : Int)).size ≤ 37) := secT_size _
    rw [← secT_at hn] at hcell
    have HB : Hid (Below w.heap.size w (w.alloc (Obj.cells #[Value.string { data := #[54, 50, 55, 48, 56, 49, 57, 56, 54, 56, 52, 51, 54, 53, 55, 48, 50, 49, 48, 51, 56, 49, 48, 51, 48, 52, 54, 56, 51, 50, 49, 57, 48, 48, 56, 49] }, Value.string { data := #[50, 51, 53, 57, 55, 51, 51, 57, 57, 51, 54, 50, 51, 50, 48, 54, 56, 48, 51, 49, 53, 50, 57, 57, 49, 54, 55, 51, 54, 51, 49, 53, 57, 55, 49, 51] }, Value.string { data := #[50, 56, 49, 48, 51, 50, 54, 52, 52, 57, 57, 57, 57, 51, 49, 51, 56, 51, 57, 56, 55, 55, 57, 54, 56, 52, 57, 51, 48, 48, 48, 57, 55, 48, 53, 55] }, Value.string { data := #[53, 52, 55, 48, 49, 54, 53, 49, 50, 55, 53, 53, 50, 56, 56, 49, 56, 54, 53, 55, 48, 49, 57, 48, 50, 56, 53, 49, 57, 54, 56, 57, 51, 53, 53, 51] }, Value.string { data := #[54, 56, 53, 49, 54, 54, 52, 55, 52, 53, 56, 52, 54, 48, 55, 49, 57, 50, 49, 49, 48, 52, 57, 48, 54, 52, 53, 50, 57, 50, 50, 53, 48, 55, 57, 51] }, Value.string { data := #[57, 54, 48, 50, 49, 54, 56, 52, 50, 48, 51, 49, 55, 49, 51, 55, 54, 53, 54, 56, 54, 57, 48, 51, 54, 56, 51, 49, 54, 49, 49, 57, 50, 57, 51] }] 9))) := (Below.refl _ _).alloc (Nat.le_refl _) _
    generalize secT (n : Int) = T at *
    have hn0 : (0 : Int) ≤ (n : Int) := by omega
    have hn6 : (n : Int) < 6 := by omega
    go_enter Tryz.func186, Tryz.ntmps186
    go_wp2_with fail
    refine (in_yes (n : Int) 0 5 _ (by omega) (by omega)).mono ?_
    rintro e w' ⟨rfl, rfl⟩
    go_wp2_with fail
    refine (specFig_any T _ (by have := HZ.out; omega)).mono ?_
    rintro e w2 ⟨v, rfl, ho2, hb2⟩
    have H2 : Hid (OwnI w2 w.heap.size v (figL T) ∧ Below w.heap.size w w2) := ⟨ho2.base HB.out.size, below_on HB.out hb2⟩
    clear ho2 hb2 HB hcell
    go_wp2_with fail
    go_ret
    exact ⟨_, rfl, by first | exact H2.out.1 | (rw [HN.out]; exact H2.out.1), H2.out.2⟩
  · have HN : Hid (secL i = []) := by
      show secL i = []
      unfold secL; rw [secT_no h, figL_empty]
    have HB : Hid (Below w.heap.size w (w.alloc (Obj.cells #[Value.string { data := #[54, 50, 55, 48, 56, 49, 57, 56, 54, 56, 52, 51, 54, 53, 55, 48, 50, 49, 48, 51, 56, 49, 48, 51, 48, 52, 54, 56, 51, 50, 49, 57, 48, 48, 56, 49] }, Value.string { data := #[50, 51, 53, 57, 55, 51, 51, 57, 57, 51, 54, 50, 51, 50, 48, 54, 56, 48, 51, 49, 53, 50, 57, 57, 49, 54, 55, 51, 54, 51, 49, 53, 57, 55, 49, 51] }, Value.string { data := #[50, 56, 49, 48, 51, 50, 54, 52, 52, 57, 57, 57, 57, 51, 49, 51, 56, 51, 57, 56, 55, 55, 57, 54, 56, 52, 57, 51, 48, 48, 48, 57, 55, 48, 53, 55] }, Value.string { data := #[53, 52, 55, 48, 49, 54, 53, 49, 50, 55, 53, 53, 50, 56, 56, 49, 56, 54, 53, 55, 48, 49, 57, 48, 50, 56, 53, 49, 57, 54, 56, 57, 51, 53, 53, 51] }, Value.string { data := #[54, 56, 53, 49, 54, 54, 52, 55, 52, 53, 56, 52, 54, 48, 55, 49, 57, 50, 49, 49, 48, 52, 57, 48, 54, 52, 53, 50, 57, 50, 50, 53, 48, 55, 57, 51] }, Value.string { data := #[57, 54, 48, 50, 49, 54, 56, 52, 50, 48, 51, 49, 55, 49, 51, 55, 54, 53, 54, 56, 54, 57, 48, 51, 54, 56, 51, 49, 54, 49, 49, 57, 50, 57, 51] }] 9))) := (Below.refl _ _).alloc (Nat.le_refl _) _
    have HO : Hid (OwnI ((w.alloc (Obj.cells #[Value.string { data := #[54, 50, 55, 48, 56, 49, 57, 56, 54, 56, 52, 51, 54, 53, 55, 48, 50, 49, 48, 51, 56, 49, 48, 51, 48, 52, 54, 56, 51, 50, 49, 57, 48, 48, 56, 49] }, Value.string { data := #[50, 51, 53, 57, 55, 51, 51, 57, 57, 51, 54, 50, 51, 50, 48, 54, 56, 48, 51, 49, 53, 50, 57, 57, 49, 54, 55, 51, 54, 51, 49, 53, 57, 55, 49, 51] }, Value.string { data := #[50, 56, 49, 48, 51, 50, 54, 52, 52, 57, 57, 57, 57, 51, 49, 51, 56, 51, 57, 56, 55, 55, 57, 54, 56, 52, 57, 51, 48, 48, 48, 57, 55, 48, 53, 55] }, Value.string { data := #[53, 52, 55, 48, 49, 54, 53, 49, 50, 55, 53, 53, 50, 56, 56, 49, 56, 54, 53, 55, 48, 49, 57, 48, 50, 56, 53, 49, 57, 54, 56, 57, 51, 53, 53, 51] }, Value.string { data := #[54, 56, 53, 49, 54, 54, 52, 55, 52, 53, 56, 52, 54, 48, 55, 49, 57, 50, 49, 49, 48, 52, 57, 48, 54, 52, 53, 50, 57, 50, 50, 53, 48, 55, 57, 51] }, Value.string { data := #[57, 54, 48, 50, 49, 54, 56, 52, 50, 48, 51, 49, 55, 49, 51, 55, 54, 53, 54, 56, 54, 57, 48, 51, 54, 56, 51, 49, 54, 49, 49, 57, 50, 57, 51] }] 9)).alloc (Obj.cells #[] 3)) w.heap.size (.slice (some ⟨w.heap.size + 1, 0, none⟩) 0 0) []) := alloc_two w _ _
    have hno : ¬ (0 ≤ i ∧ i ≤ 5) := by omega
    go_enter Tryz.func186, Tryz.ntmps186
    go_wp2_with fail
    refine (in_no i 0 5 _ (by omega)).mono ?_
    rintro e w' ⟨rfl, rfl⟩
    go_wp2_with fail
    go_ret
    exact ⟨_, rfl, by rw [HN.out]; exact HO.out, HB.out.alloc HB.out.size _⟩

end Go.Proofs.YtfgkpjjjjnollaaGreatDoor
