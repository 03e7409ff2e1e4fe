/-
  Texts of the proof.
-/
import Derived.Lib.LaidU8
import Derived.Laws.Rows
import Derived.WalkKit
import Derived.Test.YtcbjlbpkoneibaaGreatDoorChecked
import Derived.WalkSpells
import Derived.WalkLawsBesides
import Derived.Handy
import Derived.Laws.BitsAllLaws
import Derived.Test.YtcbjlbpkoneibaaGreatDoorSR24
set_option linter.unusedVariables false
set_option linter.unusedSimpArgs false
set_option maxRecDepth 100000
set_option maxHeartbeats 25600000
namespace Go.Proofs.YtcbjlbpkoneibaaGreatDoor
open Go.RowKit
theorem gHouses : Tryz.prog.globalNamed "loop.example/g00394/impl.houses" = some 0 := by kernel_rfl
theorem housesType : (Tryz.prog.globals[0]?).map (·.type) = some 146 := by kernel_rfl
theorem cellsHouse : Tryz.prog.cellsOf 113 = 2 := by kernel_rfl
theorem cellsStr : Tryz.prog.cellsOf 9 = 1 := by kernel_rfl
def HousesOk (w : World) : Prop := 0 < w.heap.size /\ ∀ i : Nat, i < 6 -> w.cell? ⟨0, 2 * i, none⟩ = some (zG ⟨(pubF i).toArray⟩) /\ w.cell? ⟨0, 2 * i + 1, none⟩ = some (zG ⟨(secF i).toArray⟩)
theorem housesBelow {w : World} (h : HousesOk w) : ∀ w', zW w w' -> HousesOk w' := fun _ hb =>
 ⟨Nat.lt_of_lt_of_le h.1 hb.size, fun i hi => ⟨(hb.cell (p := ⟨_, 2 * i, none⟩) h.1).trans (h.2 i hi).1, (hb.cell (p := ⟨_, 2 * i + 1, none⟩) h.1).trans (h.2 i hi).2⟩⟩
def housesD {H : Type} : DataW H := .agg ((List.range 6).map fun i => .agg [.lit (.string (pubF i)), .lit (.string (secF i))])
theorem bytes_backH (s : ByteArray) (l : List UInt8) (h : s.data.toList = l) : s = ⟨l.toArray⟩ := by
 subst h;apply ByteArray.ext;simp
theorem take_oneH {cs : List Value} {k : Nat} {v : Value} (h : (cs.drop k).take 1 = [v]) : cs[k]? = some v := by
 have := congrArg (·[0]?) h;simpa [List.getElem?_take, List.getElem?_drop] using this
theorem pair_cells {W : World} {fuel : Nat} {cs : List Value} {a b : List UInt8} {p : List MemPlace} (h : DataW.trod (fun _ => ()) Tryz.prog W 0 (fun _ => true) false fuel 113 cs = some (.agg [.lit (.string a), .lit (.string b)], p)) :
  cs[0]? = some (.string ⟨a.toArray⟩) /\ cs[1]? = some (.string ⟨b.toArray⟩) := by
 obtain ⟨xs, n, rfl, hx, hl, hxl, hall⟩ := DataW.trod_struct Tryz.underlying113 h;have hx2 : xs.map (·.1) = [.lit (.string a), .lit (.string b)] := by
  have := congrArg Prod.fst hx;simpa using this.symm
 obtain ⟨x0, x1, rfl⟩ : ∃ x0 x1, xs = [x0, x1] := by
  match xs, hx2 with
  | [x0, x1], _ => exact ⟨x0, x1, rfl⟩
 simp only [List.map_cons, List.map_nil, List.cons.injEq, and_true] at hx2;obtain ⟨e0, e1⟩ := hx2;have f0 := hall 0 _ rfl;have f1 := hall 1 _ rfl;change DataW.trod _ _ _ _ _ _ _ 9 ((cs.drop 0).take (Tryz.prog.cellsOf 9)) = some x0 at f0;change DataW.trod _ _ _ _ _ _ _ 9 ((cs.drop 1).take (Tryz.prog.cellsOf 9)) = some x1 at f1;rw [cellsStr] at f0 f1;refine ⟨?_, ?_⟩
 ·obtain ⟨s, hz, hx', _⟩ := DataW.trod_string Tryz.underlying9 f0
  rw [hx'] at e0;simp only [DataW.lit.injEq, Lit.string.injEq] at e0;rw [take_oneH hz, bytes_backH s a e0]
 ·obtain ⟨s, hz, hx', _⟩ := DataW.trod_string Tryz.underlying9 f1
  rw [hx'] at e1;simp only [DataW.lit.injEq, Lit.string.injEq] at e1;rw [take_oneH hz, bytes_backH s b e1]
theorem houses_of_reads {W : World} (h : Lib.VarReads Tryz.prog W "loop.example/g00394/impl.houses" housesD) : HousesOk W := by
 obtain ⟨g', t', cs, fuel, p, hg', ht', hvar, hd⟩ := h;obtain rfl := Option.some.inj (gHouses.symm.trans hg');obtain rfl := Option.some.inj (housesType.symm.trans ht');obtain ⟨xs, m, rfl, hx, hlen, hxl, hall⟩ := DataW.trod_array Tryz.underlying146 hd;have hx2 : xs.map (·.1) = (List.range 6).map fun i => (DataW.agg [.lit (.string (pubF i)), .lit (.string (secF i))] : DataW Unit) := by
  have := congrArg Prod.fst hx;simpa [housesD] using this.symm
 have hc := World.var?_cell gHouses hvar;have hboth : ∀ i : Nat, i < 6 -> W.cell? ⟨0, 2 * i, none⟩ = some (.string ⟨(pubF i).toArray⟩) /\ W.cell? ⟨0, 2 * i + 1, none⟩ = some (.string ⟨(secF i).toArray⟩) := by
  intro i hi;have h1 := hall i hi;obtain ⟨y, hy⟩ : ∃ y, xs[i]? = some y := ⟨xs[i]'(by omega), by simp [show i < xs.length by omega]⟩;have hy1 : y.1 = DataW.agg [.lit (.string (pubF i)), .lit (.string (secF i))] := by
   have h2 := congrArg (·[i]?) hx2;simp only [List.getElem?_map, hy, Option.map_some] at h2;rw [List.getElem?_range hi] at h2;simpa using h2
  obtain ⟨y1, y2⟩ := y;subst hy1;rw [hy, cellsHouse] at h1;have h3 := pair_cells h1;rw [List.getElem?_take, List.getElem?_take, List.getElem?_drop, List.getElem?_drop] at h3;simp only [show (0 : Nat) < 2 by decide, show (1 : Nat) < 2 by decide, if_true] at h3;rw [hc, hc];constructor
  ·rw [<- h3.1, show 2 * i = i * 2 + 0 by omega]; simp
  ·rw [<- h3.2, show 2 * i + 1 = i * 2 + 1 by omega]; simp
 refine ⟨?_, hboth⟩;have h0 := (hboth 0 (by decide)).1
 rcases Nat.lt_or_ge 0 W.heap.size with h | h
 ·exact h
 ·simp [World.cell?, Array.getElem?_eq_none h] at h0
theorem houseAt_any (i : Int) (w : World) (hi : -9223372036854775808 <= i /\ i <= 9223372036854775807) (hH : HousesOk w) : Calls Tryz.prog 83 #[zI i] w fun e w' => e = .returned (.agg #[zG (pubT i), zG (secT i)]) /\ zW w w' := by
 by_cases h : 0 <= i /\ i < 6
 ·obtain ⟨n, rfl⟩ : ∃ n : Nat, i = (n : Int) := ⟨i.toNat, by omega⟩
  have hn : n < 6 := by omega
  rw [pubT_at hn, secT_at hn];have HB := (Below.refl w.heap.size w).alloc (Nat.le_refl _) (Obj.cells #[Value.string { data := #[] }, Value.string { data := #[] }] 113);obtain ⟨c0, c1⟩ := (housesBelow hH _ HB).2 n hn;rw [Nat.mul_comm 2 n] at c0 c1;clear hH HB;have h1 : ¬ (n : Int) < 0 := by omega
  have h2 : ¬ (6 : Int) <= (n : Int) := by omega
  generalize (⟨(pubF n).toArray⟩ : ByteArray) = P at *;generalize (⟨(secF n).toArray⟩ : ByteArray) = Q at *;go_enter Tryz.func83, Tryz.ntmps83;go_wp2_with fail;refine bodyPost_ret (v := .agg #[zG P, zG Q]) (by simp [results, Tryz.results83, go_sem]; try rfl) rfl ⟨rfl, ?_⟩;exact (Below.refl _ _).alloc (Nat.le_refl _) _
 ·rw [pubT_no h, secT_no h]
  clear hH;by_cases h3 : i < 0
  ·go_enter Tryz.func83, Tryz.ntmps83
   go_wp2_with fail;refine bodyPost_ret (v := .agg #[zG ByteArray.empty, zG ByteArray.empty]) (by simp [results, Tryz.results83, go_sem]; try rfl) rfl ⟨rfl, ?_⟩;exact ((Below.refl _ _).alloc (Nat.le_refl _) _)
  ·have h4 : (6 : Int) <= i := by omega
   go_enter Tryz.func83, Tryz.ntmps83;go_wp2_with fail;refine bodyPost_ret (v := .agg #[zG ByteArray.empty, zG ByteArray.empty]) (by simp [results, Tryz.results83, go_sem]; try rfl) rfl ⟨rfl, ?_⟩;exact ((Below.refl _ _).alloc (Nat.le_refl _) _)
end Go.Proofs.YtcbjlbpkoneibaaGreatDoor
namespace Go.Proofs.YtcbjlbpkoneibaaGreatDoor
open Go.RowKit
theorem alloc_more0 (w : World) (o : Obj) : w.heap.size < (w.alloc o).heap.size := by
 show w.heap.size < (w.heap.push o).size;rw [Array.size_push];exact Nat.lt_succ_self _
theorem alloc_two (w : World) (cs : Array Value) (t : TypeId) : OwnI ((w.alloc (Obj.cells cs t)).alloc (Obj.cells #[] 3)) w.heap.size (zS (some ⟨w.heap.size + 1, 0, none⟩) 0 0) [] := by
 have h := OwnI.empty (w.alloc (Obj.cells cs t)) (base := w.heap.size) (Nat.le_of_lt (alloc_more0 w _));rw [show (w.alloc (Obj.cells cs t)).heap.size = w.heap.size + 1 from Array.size_push _] at h;exact h
theorem alloc_at (w : World) (cs : Array Value) (t : TypeId) (n : Nat) : (w.alloc (Obj.cells cs t)).cell? ⟨w.heap.size, n, none⟩ = cs[n]? := by
 simp only [World.cell?, heap_alloc_new];rfl
theorem pub_lit {n : Nat} (h : n < 6) : (#[Value.string { data := #[49, 49, 50, 54, 56, 52, 50, 52, 56, 50, 50, 57, 52, 55, 55, 53, 51, 48, 56, 49, 57, 53, 54, 57, 52, 54, 50, 51, 51, 48, 56, 50, 52, 48, 53, 57, 55] }, Value.string { data := #[49, 50, 52, 55, 57, 56, 49, 54, 53, 53, 52, 50, 51, 53, 51, 50, 49, 53, 52, 48, 57, 50, 53, 53, 52, 56, 54, 51, 56, 56, 56, 56, 57, 55, 50, 48, 57] }, Value.string { data := #[49, 49, 52, 56, 54, 56, 54, 51, 50, 48, 48, 50, 57, 57, 54, 55, 55, 54, 53, 49, 55, 52, 50, 53, 54, 55, 48, 52, 54, 56, 52, 51, 53, 48, 49, 49, 49] }, Value.string { data := #[49, 48, 52, 49, 54, 57, 49, 55, 51, 56, 57, 54, 51, 57, 50, 48, 52, 52, 48, 51, 50, 51, 57, 49, 49, 48, 55, 56, 50, 53, 57, 51, 49, 54, 48, 51, 57] }, Value.string { data := #[49, 49, 56, 56, 50, 52, 52, 51, 56, 51, 50, 57, 56, 53, 50, 56, 55, 53, 52, 52, 55, 57, 57, 55, 51, 54, 53, 50, 50, 49, 54, 53, 52, 55, 56, 55, 55] }, Value.string { data := #[49, 48, 55, 53, 49, 55, 48, 53, 51, 48, 57, 52, 53, 51, 54, 56, 54, 49, 55, 53, 49, 56, 55, 55, 49, 52, 54, 54, 55, 56, 56, 55, 56, 53, 56, 49, 51] }] : Array Value)[n]? = some (zG ⟨(pubF n).toArray⟩) := by
 match n, h with
 | 0, _ => rfl
 | 1, _ => rfl
 | 2, _ => rfl
 | 3, _ => rfl
 | 4, _ => rfl
 | 5, _ => rfl
theorem specPub_any (i : Int) (w : World) (hi : -9223372036854775808 <= i /\ i <= 9223372036854775807) : Calls Tryz.prog 56 #[zI i] w fun e w' => ∃ v, e = .returned v /\ OwnI w' w.heap.size v (figL (pubT i)) /\ zW w w' := by
 by_cases h : 0 <= i /\ i < 6
 ·have HN : Hid (figL (pubT i) = figL (pubT i)) := rfl
  obtain ⟨n, rfl⟩ : ∃ n : Nat, i = (n : Int) := ⟨i.toNat, by omega⟩;have hn : n < 6 := by omega
  have hcell := (alloc_at w #[Value.string { data := #[49, 49, 50, 54, 56, 52, 50, 52, 56, 50, 50, 57, 52, 55, 55, 53, 51, 48, 56, 49, 57, 53, 54, 57, 52, 54, 50, 51, 51, 48, 56, 50, 52, 48, 53, 57, 55] }, Value.string { data := #[49, 50, 52, 55, 57, 56, 49, 54, 53, 53, 52, 50, 51, 53, 51, 50, 49, 53, 52, 48, 57, 50, 53, 53, 52, 56, 54, 51, 56, 56, 56, 56, 57, 55, 50, 48, 57] }, Value.string { data := #[49, 49, 52, 56, 54, 56, 54, 51, 50, 48, 48, 50, 57, 57, 54, 55, 55, 54, 53, 49, 55, 52, 50, 53, 54, 55, 48, 52, 54, 56, 52, 51, 53, 48, 49, 49, 49] }, Value.string { data := #[49, 48, 52, 49, 54, 57, 49, 55, 51, 56, 57, 54, 51, 57, 50, 48, 52, 52, 48, 51, 50, 51, 57, 49, 49, 48, 55, 56, 50, 53, 57, 51, 49, 54, 48, 51, 57] }, Value.string { data := #[49, 49, 56, 56, 50, 52, 52, 51, 56, 51, 50, 57, 56, 53, 50, 56, 55, 53, 52, 52, 55, 57, 57, 55, 51, 54, 53, 50, 50, 49, 54, 53, 52, 55, 56, 55, 55] }, Value.string { data := #[49, 48, 55, 53, 49, 55, 48, 53, 51, 48, 57, 52, 53, 51, 54, 56, 54, 49, 55, 53, 49, 56, 55, 55, 49, 52, 54, 54, 55, 56, 56, 55, 56, 53, 56, 49, 51] }] 9 n).trans (pub_lit hn);have HZ : Hid ((pubT (n : Int)).size <= 37) := pubT_size _;rw [<- pubT_at hn] at hcell;have HB : Hid (zW w (w.alloc (Obj.cells #[Value.string { data := #[49, 49, 50, 54, 56, 52, 50, 52, 56, 50, 50, 57, 52, 55, 55, 53, 51, 48, 56, 49, 57, 53, 54, 57, 52, 54, 50, 51, 51, 48, 56, 50, 52, 48, 53, 57, 55] }, Value.string { data := #[49, 50, 52, 55, 57, 56, 49, 54, 53, 53, 52, 50, 51, 53, 51, 50, 49, 53, 52, 48, 57, 50, 53, 53, 52, 56, 54, 51, 56, 56, 56, 56, 57, 55, 50, 48, 57] }, Value.string { data := #[49, 49, 52, 56, 54, 56, 54, 51, 50, 48, 48, 50, 57, 57, 54, 55, 55, 54, 53, 49, 55, 52, 50, 53, 54, 55, 48, 52, 54, 56, 52, 51, 53, 48, 49, 49, 49] }, Value.string { data := #[49, 48, 52, 49, 54, 57, 49, 55, 51, 56, 57, 54, 51, 57, 50, 48, 52, 52, 48, 51, 50, 51, 57, 49, 49, 48, 55, 56, 50, 53, 57, 51, 49, 54, 48, 51, 57] }, Value.string { data := #[49, 49, 56, 56, 50, 52, 52, 51, 56, 51, 50, 57, 56, 53, 50, 56, 55, 53, 52, 52, 55, 57, 57, 55, 51, 54, 53, 50, 50, 49, 54, 53, 52, 55, 56, 55, 55] }, Value.string { data := #[49, 48, 55, 53, 49, 55, 48, 53, 51, 48, 57, 52, 53, 51, 54, 56, 54, 49, 55, 53, 49, 56, 55, 55, 49, 52, 54, 54, 55, 56, 56, 55, 56, 53, 56, 49, 51] }] 9))) := (Below.refl _ _).alloc (Nat.le_refl _) _
  generalize pubT (n : Int) = T at *;have hn0 : (0 : Int) <= (n : Int) := by omega
  have hn6 : (n : Int) < 6 := by omega
  go_enter Tryz.func56, Tryz.ntmps56;go_wp2_with fail;refine (in_yes (n : Int) 0 5 _ (by omega) (by omega)).mono ?_;rintro e w' ⟨rfl, rfl⟩;go_wp2_with fail;refine (specFig_any T _ (by have := HZ.out; omega)).mono ?_;rintro e w2 ⟨v, rfl, ho2, hb2⟩;have H2 := zH (zJ (ho2.base HB.size) (below_on HB.out hb2 : zW w w2));clear ho2 hb2 HB hcell;go_wp2_with fail;go_ret;exact ⟨_, rfl, by first | exact H2.1 | (rw [HN.out]; exact H2.1), H2.2⟩
 ·have HN : Hid (figL (pubT i) = []) := by
   show figL (pubT i) = [];rw [pubT_no h, figL_empty]
  have HB : Hid (zW w (w.alloc (Obj.cells #[Value.string { data := #[49, 49, 50, 54, 56, 52, 50, 52, 56, 50, 50, 57, 52, 55, 55, 53, 51, 48, 56, 49, 57, 53, 54, 57, 52, 54, 50, 51, 51, 48, 56, 50, 52, 48, 53, 57, 55] }, Value.string { data := #[49, 50, 52, 55, 57, 56, 49, 54, 53, 53, 52, 50, 51, 53, 51, 50, 49, 53, 52, 48, 57, 50, 53, 53, 52, 56, 54, 51, 56, 56, 56, 56, 57, 55, 50, 48, 57] }, Value.string { data := #[49, 49, 52, 56, 54, 56, 54, 51, 50, 48, 48, 50, 57, 57, 54, 55, 55, 54, 53, 49, 55, 52, 50, 53, 54, 55, 48, 52, 54, 56, 52, 51, 53, 48, 49, 49, 49] }, Value.string { data := #[49, 48, 52, 49, 54, 57, 49, 55, 51, 56, 57, 54, 51, 57, 50, 48, 52, 52, 48, 51, 50, 51, 57, 49, 49, 48, 55, 56, 50, 53, 57, 51, 49, 54, 48, 51, 57] }, Value.string { data := #[49, 49, 56, 56, 50, 52, 52, 51, 56, 51, 50, 57, 56, 53, 50, 56, 55, 53, 52, 52, 55, 57, 57, 55, 51, 54, 53, 50, 50, 49, 54, 53, 52, 55, 56, 55, 55] }, Value.string { data := #[49, 48, 55, 53, 49, 55, 48, 53, 51, 48, 57, 52, 53, 51, 54, 56, 54, 49, 55, 53, 49, 56, 55, 55, 49, 52, 54, 54, 55, 56, 56, 55, 56, 53, 56, 49, 51] }] 9))) := (Below.refl _ _).alloc (Nat.le_refl _) _;have HO : Hid (OwnI ((w.alloc (Obj.cells #[Value.string { data := #[49, 49, 50, 54, 56, 52, 50, 52, 56, 50, 50, 57, 52, 55, 55, 53, 51, 48, 56, 49, 57, 53, 54, 57, 52, 54, 50, 51, 51, 48, 56, 50, 52, 48, 53, 57, 55] }, Value.string { data := #[49, 50, 52, 55, 57, 56, 49, 54, 53, 53, 52, 50, 51, 53, 51, 50, 49, 53, 52, 48, 57, 50, 53, 53, 52, 56, 54, 51, 56, 56, 56, 56, 57, 55, 50, 48, 57] }, Value.string { data := #[49, 49, 52, 56, 54, 56, 54, 51, 50, 48, 48, 50, 57, 57, 54, 55, 55, 54, 53, 49, 55, 52, 50, 53, 54, 55, 48, 52, 54, 56, 52, 51, 53, 48, 49, 49, 49] }, Value.string { data := #[49, 48, 52, 49, 54, 57, 49, 55, 51, 56, 57, 54, 51, 57, 50, 48, 52, 52, 48, 51, 50, 51, 57, 49, 49, 48, 55, 56, 50, 53, 57, 51, 49, 54, 48, 51, 57] }, Value.string { data := #[49, 49, 56, 56, 50, 52, 52, 51, 56, 51, 50, 57, 56, 53, 50, 56, 55, 53, 52, 52, 55, 57, 57, 55, 51, 54, 53, 50, 50, 49, 54, 53, 52, 55, 56, 55, 55] }, Value.string { data := #[49, 48, 55, 53, 49, 55, 48, 53, 51, 48, 57, 52, 53, 51, 54, 56, 54, 49, 55, 53, 49, 56, 55, 55, 49, 52, 54, 54, 55, 56, 56, 55, 56, 53, 56, 49, 51] }] 9)).alloc (Obj.cells #[] 3)) w.heap.size (zS (some ⟨w.heap.size + 1, 0, none⟩) 0 0) []) := alloc_two w _ _
  have hno : ¬ (0 <= i /\ i <= 5) := by omega
  go_enter Tryz.func56, Tryz.ntmps56;go_wp2_with fail;refine (in_no i 0 5 _ (by omega)).mono ?_;rintro e w' ⟨rfl, rfl⟩;go_wp2_with fail;go_ret;exact ⟨_, rfl, by rw [HN.out]; exact HO.out, HB.alloc HB.size _⟩
theorem sec_lit {n : Nat} (h : n < 6) : (#[Value.string { data := #[54, 50, 55, 48, 56, 49, 57, 56, 54, 56, 52, 51, 54, 53, 55, 48, 50, 49, 48, 51, 56, 49, 48, 51, 48, 52, 54, 56, 51, 50, 49, 57, 48, 48, 56, 49] }, Value.string { data := #[50, 51, 53, 57, 55, 51, 51, 57, 57, 51, 54, 50, 51, 50, 48, 54, 56, 48, 51, 49, 53, 50, 57, 57, 49, 54, 55, 51, 54, 51, 49, 53, 57, 55, 49, 51] }, Value.string { data := #[50, 56, 49, 48, 51, 50, 54, 52, 52, 57, 57, 57, 57, 51, 49, 51, 56, 51, 57, 56, 55, 55, 57, 54, 56, 52, 57, 51, 48, 48, 48, 57, 55, 48, 53, 55] }, Value.string { data := #[53, 52, 55, 48, 49, 54, 53, 49, 50, 55, 53, 53, 50, 56, 56, 49, 56, 54, 53, 55, 48, 49, 57, 48, 50, 56, 53, 49, 57, 54, 56, 57, 51, 53, 53, 51] }, Value.string { data := #[54, 56, 53, 49, 54, 54, 52, 55, 52, 53, 56, 52, 54, 48, 55, 49, 57, 50, 49, 49, 48, 52, 57, 48, 54, 52, 53, 50, 57, 50, 50, 53, 48, 55, 57, 51] }, Value.string { data := #[57, 54, 48, 50, 49, 54, 56, 52, 50, 48, 51, 49, 55, 49, 51, 55, 54, 53, 54, 56, 54, 57, 48, 51, 54, 56, 51, 49, 54, 49, 49, 57, 50, 57, 51] }] : Array Value)[n]? = some (zG ⟨(secF n).toArray⟩) := by
 match n, h with
 | 0, _ => rfl
 | 1, _ => rfl
 | 2, _ => rfl
 | 3, _ => rfl
 | 4, _ => rfl
 | 5, _ => rfl
theorem specSecret_any (i : Int) (w : World) (hi : -9223372036854775808 <= i /\ i <= 9223372036854775807) : Calls Tryz.prog 91 #[zI i] w fun e w' => ∃ v, e = .returned v /\ OwnI w' w.heap.size v (secL i) /\ zW w w' := by
 by_cases h : 0 <= i /\ i < 6
 ·have HN : Hid (secL i = figL (secT i)) := rfl
  obtain ⟨n, rfl⟩ : ∃ n : Nat, i = (n : Int) := ⟨i.toNat, by omega⟩;have hn : n < 6 := by omega
  have hcell := (alloc_at w #[Value.string { data := #[54, 50, 55, 48, 56, 49, 57, 56, 54, 56, 52, 51, 54, 53, 55, 48, 50, 49, 48, 51, 56, 49, 48, 51, 48, 52, 54, 56, 51, 50, 49, 57, 48, 48, 56, 49] }, Value.string { data := #[50, 51, 53, 57, 55, 51, 51, 57, 57, 51, 54, 50, 51, 50, 48, 54, 56, 48, 51, 49, 53, 50, 57, 57, 49, 54, 55, 51, 54, 51, 49, 53, 57, 55, 49, 51] }, Value.string { data := #[50, 56, 49, 48, 51, 50, 54, 52, 52, 57, 57, 57, 57, 51, 49, 51, 56, 51, 57, 56, 55, 55, 57, 54, 56, 52, 57, 51, 48, 48, 48, 57, 55, 48, 53, 55] }, Value.string { data := #[53, 52, 55, 48, 49, 54, 53, 49, 50, 55, 53, 53, 50, 56, 56, 49, 56, 54, 53, 55, 48, 49, 57, 48, 50, 56, 53, 49, 57, 54, 56, 57, 51, 53, 53, 51] }, Value.string { data := #[54, 56, 53, 49, 54, 54, 52, 55, 52, 53, 56, 52, 54, 48, 55, 49, 57, 50, 49, 49, 48, 52, 57, 48, 54, 52, 53, 50, 57, 50, 50, 53, 48, 55, 57, 51] }, Value.string { data := #[57, 54, 48, 50, 49, 54, 56, 52, 50, 48, 51, 49, 55, 49, 51, 55, 54, 53, 54, 56, 54, 57, 48, 51, 54, 56, 51, 49, 54, 49, 49, 57, 50, 57, 51] }] 9 n).trans (sec_lit hn);have HZ : Hid ((secT (n : Int)).size <= 37) := secT_size _;rw [<- secT_at hn] at hcell;have HB : Hid (zW w (w.alloc (Obj.cells #[Value.string { data := #[54, 50, 55, 48, 56, 49, 57, 56, 54, 56, 52, 51, 54, 53, 55, 48, 50, 49, 48, 51, 56, 49, 48, 51, 48, 52, 54, 56, 51, 50, 49, 57, 48, 48, 56, 49] }, Value.string { data := #[50, 51, 53, 57, 55, 51, 51, 57, 57, 51, 54, 50, 51, 50, 48, 54, 56, 48, 51, 49, 53, 50, 57, 57, 49, 54, 55, 51, 54, 51, 49, 53, 57, 55, 49, 51] }, Value.string { data := #[50, 56, 49, 48, 51, 50, 54, 52, 52, 57, 57, 57, 57, 51, 49, 51, 56, 51, 57, 56, 55, 55, 57, 54, 56, 52, 57, 51, 48, 48, 48, 57, 55, 48, 53, 55] }, Value.string { data := #[53, 52, 55, 48, 49, 54, 53, 49, 50, 55, 53, 53, 50, 56, 56, 49, 56, 54, 53, 55, 48, 49, 57, 48, 50, 56, 53, 49, 57, 54, 56, 57, 51, 53, 53, 51] }, Value.string { data := #[54, 56, 53, 49, 54, 54, 52, 55, 52, 53, 56, 52, 54, 48, 55, 49, 57, 50, 49, 49, 48, 52, 57, 48, 54, 52, 53, 50, 57, 50, 50, 53, 48, 55, 57, 51] }, Value.string { data := #[57, 54, 48, 50, 49, 54, 56, 52, 50, 48, 51, 49, 55, 49, 51, 55, 54, 53, 54, 56, 54, 57, 48, 51, 54, 56, 51, 49, 54, 49, 49, 57, 50, 57, 51] }] 9))) := (Below.refl _ _).alloc (Nat.le_refl _) _
  generalize secT (n : Int) = T at *;have hn0 : (0 : Int) <= (n : Int) := by omega
  have hn6 : (n : Int) < 6 := by omega
  go_enter Tryz.func91, Tryz.ntmps91;go_wp2_with fail;refine (in_yes (n : Int) 0 5 _ (by omega) (by omega)).mono ?_;rintro e w' ⟨rfl, rfl⟩;go_wp2_with fail;refine (specFig_any T _ (by have := HZ.out; omega)).mono ?_;rintro e w2 ⟨v, rfl, ho2, hb2⟩;have H2 := zH (zJ (ho2.base HB.size) (below_on HB.out hb2 : zW w w2));clear ho2 hb2 HB hcell;go_wp2_with fail;go_ret;exact ⟨_, rfl, by first | exact H2.1 | (rw [HN.out]; exact H2.1), H2.2⟩
 ·have HN : Hid (secL i = []) := by
   show secL i = [];unfold secL; rw [secT_no h, figL_empty]
  have HB : Hid (zW w (w.alloc (Obj.cells #[Value.string { data := #[54, 50, 55, 48, 56, 49, 57, 56, 54, 56, 52, 51, 54, 53, 55, 48, 50, 49, 48, 51, 56, 49, 48, 51, 48, 52, 54, 56, 51, 50, 49, 57, 48, 48, 56, 49] }, Value.string { data := #[50, 51, 53, 57, 55, 51, 51, 57, 57, 51, 54, 50, 51, 50, 48, 54, 56, 48, 51, 49, 53, 50, 57, 57, 49, 54, 55, 51, 54, 51, 49, 53, 57, 55, 49, 51] }, Value.string { data := #[50, 56, 49, 48, 51, 50, 54, 52, 52, 57, 57, 57, 57, 51, 49, 51, 56, 51, 57, 56, 55, 55, 57, 54, 56, 52, 57, 51, 48, 48, 48, 57, 55, 48, 53, 55] }, Value.string { data := #[53, 52, 55, 48, 49, 54, 53, 49, 50, 55, 53, 53, 50, 56, 56, 49, 56, 54, 53, 55, 48, 49, 57, 48, 50, 56, 53, 49, 57, 54, 56, 57, 51, 53, 53, 51] }, Value.string { data := #[54, 56, 53, 49, 54, 54, 52, 55, 52, 53, 56, 52, 54, 48, 55, 49, 57, 50, 49, 49, 48, 52, 57, 48, 54, 52, 53, 50, 57, 50, 50, 53, 48, 55, 57, 51] }, Value.string { data := #[57, 54, 48, 50, 49, 54, 56, 52, 50, 48, 51, 49, 55, 49, 51, 55, 54, 53, 54, 56, 54, 57, 48, 51, 54, 56, 51, 49, 54, 49, 49, 57, 50, 57, 51] }] 9))) := (Below.refl _ _).alloc (Nat.le_refl _) _;have HO : Hid (OwnI ((w.alloc (Obj.cells #[Value.string { data := #[54, 50, 55, 48, 56, 49, 57, 56, 54, 56, 52, 51, 54, 53, 55, 48, 50, 49, 48, 51, 56, 49, 48, 51, 48, 52, 54, 56, 51, 50, 49, 57, 48, 48, 56, 49] }, Value.string { data := #[50, 51, 53, 57, 55, 51, 51, 57, 57, 51, 54, 50, 51, 50, 48, 54, 56, 48, 51, 49, 53, 50, 57, 57, 49, 54, 55, 51, 54, 51, 49, 53, 57, 55, 49, 51] }, Value.string { data := #[50, 56, 49, 48, 51, 50, 54, 52, 52, 57, 57, 57, 57, 51, 49, 51, 56, 51, 57, 56, 55, 55, 57, 54, 56, 52, 57, 51, 48, 48, 48, 57, 55, 48, 53, 55] }, Value.string { data := #[53, 52, 55, 48, 49, 54, 53, 49, 50, 55, 53, 53, 50, 56, 56, 49, 56, 54, 53, 55, 48, 49, 57, 48, 50, 56, 53, 49, 57, 54, 56, 57, 51, 53, 53, 51] }, Value.string { data := #[54, 56, 53, 49, 54, 54, 52, 55, 52, 53, 56, 52, 54, 48, 55, 49, 57, 50, 49, 49, 48, 52, 57, 48, 54, 52, 53, 50, 57, 50, 50, 53, 48, 55, 57, 51] }, Value.string { data := #[57, 54, 48, 50, 49, 54, 56, 52, 50, 48, 51, 49, 55, 49, 51, 55, 54, 53, 54, 56, 54, 57, 48, 51, 54, 56, 51, 49, 54, 49, 49, 57, 50, 57, 51] }] 9)).alloc (Obj.cells #[] 3)) w.heap.size (zS (some ⟨w.heap.size + 1, 0, none⟩) 0 0) []) := alloc_two w _ _
  have hno : ¬ (0 <= i /\ i <= 5) := by omega
  go_enter Tryz.func91, Tryz.ntmps91;go_wp2_with fail;refine (in_no i 0 5 _ (by omega)).mono ?_;rintro e w' ⟨rfl, rfl⟩;go_wp2_with fail;go_ret;exact ⟨_, rfl, by rw [HN.out]; exact HO.out, HB.alloc HB.size _⟩
theorem specPublic_any (i : Int) (w : World) (hi : -9223372036854775808 <= i /\ i <= 9223372036854775807) : Calls Tryz.prog 19 #[zI i] w fun e w' => e = .returned (zG (pubB i)) /\ zW w w' := by
 have HN : Hid (pubB i = txtL (figL (pubT i))) := rfl;go_enter Tryz.func19, Tryz.ntmps19;go_wp2_with fail;refine (specPub_any i w hi).mono ?_;rintro e w1 ⟨v, rfl, ho1, hb1⟩;have H1 := zH (zJ ho1.at (hb1 : zW w w1));clear ho1 hb1;go_wp2_with fail;refine (specText_any v _ w1 (by have := figL_len (pubT i); omega) (figL_wd _) H1.1).mono ?_;rintro e w2 ⟨rfl, hb2⟩;have H2 : Hid (zW w w2) := below_on H1.2 hb2;clear hb2 H1;go_wp2_with fail;go_ret;exact ⟨by rw [HN.out]; rfl, H2.out⟩
def rotr (k x : Nat) : Nat := (x / 2 ^ k) ||| (x * 2 ^ (32 - k) % 4294967296)
def bigS1 (e : Nat) : Nat := rotr 6 e ^^^ rotr 11 e ^^^ rotr 25 e
def bigS0 (e : Nat) : Nat := rotr 2 e ^^^ rotr 13 e ^^^ rotr 22 e
def smS0 (e : Nat) : Nat := rotr 7 e ^^^ rotr 18 e ^^^ (e / 8)
def smS1 (e : Nat) : Nat := rotr 17 e ^^^ rotr 19 e ^^^ (e / 1024)
def chN (e f g : Nat) : Nat := (e &&& f) ^^^ ((e ^^^ 4294967295) &&& g)
def majN (a b c : Nat) : Nat := (a &&& b) ^^^ (a &&& c) ^^^ (b &&& c)
structure St where
 a : Nat
 b : Nat
 c : Nat
 d : Nat
 e : Nat
 f : Nat
 g : Nat
 h : Nat
def oneN (k w : Nat) (s : St) : Nat := (s.h + bigS1 s.e + chN s.e s.f s.g + k + w) % 4294967296
def twoN (s : St) : Nat := (bigS0 s.a + majN s.a s.b s.c) % 4294967296
def rnd (k w : Nat) (s : St) : St := ⟨(oneN k w s + twoN s) % 4294967296, s.a, s.b, s.c, (s.d + oneN k w s) % 4294967296, s.e, s.f, s.g⟩
def keysN : List Nat := [1116352408, 1899447441, 3049323471, 3921009573, 961987163, 1508970993, 2453635748, 2870763221, 3624381080, 310598401, 607225278, 1426881987, 1925078388, 2162078206, 2614888103, 3248222580, 3835390401, 4022224774, 264347078, 604807628, 770255983, 1249150122, 1555081692, 1996064986, 2554220882, 2821834349, 2952996808, 3210313671, 3336571891, 3584528711, 113926993, 338241895, 666307205, 773529912, 1294757372, 1396182291, 1695183700, 1986661051, 2177026350, 2456956037, 2730485921, 2820302411, 3259730800, 3345764771, 3516065817, 3600352804, 4094571909, 275423344, 430227734, 506948616, 659060556, 883997877, 958139571, 1322822218, 1537002063, 1747873779, 1955562222, 2024104815, 2227730452, 2361852424, 2428436474, 2756734187, 3204031479, 3329325298]
def firstN : St := ⟨1779033703, 3144134277, 1013904242, 2773480762, 1359893119, 2600822924, 528734635, 1541459225⟩
def wordOf (b : List UInt8) (i : Nat) : Nat := (b.getD (4 * i) 0).toNat * 16777216 + (b.getD (4 * i + 1) 0).toNat * 65536 + (b.getD (4 * i + 2) 0).toNat * 256 + (b.getD (4 * i + 3) 0).toNat
def wd (b : List UInt8) (i : Nat) : Nat :=
 if h : i < 16 then wordOf b i else (wd b (i - 16) + smS0 (wd b (i - 15)) + wd b (i - 7) + smS1 (wd b (i - 2))) % 4294967296
def rounds (b : List UInt8) : Nat -> St -> St
 | 0, s => s
 | n + 1, s => rnd (keysN.getD n 0) (wd b n) (rounds b n s)
def addSt (s t : St) : St := ⟨(s.a + t.a) % 4294967296, (s.b + t.b) % 4294967296, (s.c + t.c) % 4294967296, (s.d + t.d) % 4294967296, (s.e + t.e) % 4294967296, (s.f + t.f) % 4294967296, (s.g + t.g) % 4294967296, (s.h + t.h) % 4294967296⟩
def blockN (s : St) (b : List UInt8) : St := addSt s (rounds b 64 s)
def blocksN (s : St) (p : List UInt8) : Nat -> St
 | 0 => s
 | n + 1 => blockN (blocksN s p n) ((p.drop (64 * n)).take 64)
def St.ok (s : St) : Prop := s.a < 4294967296 /\ s.b < 4294967296 /\ s.c < 4294967296 /\ s.d < 4294967296 /\ s.e < 4294967296 /\ s.f < 4294967296 /\ s.g < 4294967296 /\ s.h < 4294967296
theorem and_lt32 {a b : Nat} (ha : a < 4294967296) : a &&& b < 4294967296 := Nat.lt_of_le_of_lt Nat.and_le_left ha
theorem xor_lt32 {a b : Nat} (ha : a < 4294967296) (hb : b < 4294967296) : a ^^^ b < 4294967296 := Nat.xor_lt_two_pow (n := 32) ha hb
theorem or_lt32 {a b : Nat} (ha : a < 4294967296) (hb : b < 4294967296) : a ||| b < 4294967296 := Nat.or_lt_two_pow (n := 32) ha hb
theorem div_lt32 {x : Nat} (k : Nat) (h : x < 4294967296) : x / 2 ^ k < 4294967296 := Nat.lt_of_le_of_lt (Nat.div_le_self _ _) h
theorem rotr_lt (k : Nat) {x : Nat} (h : x < 4294967296) : rotr k x < 4294967296 := or_lt32 (div_lt32 k h) (Nat.mod_lt _ (by decide))
theorem bigS1_lt {x : Nat} (h : x < 4294967296) : bigS1 x < 4294967296 := xor_lt32 (xor_lt32 (rotr_lt _ h) (rotr_lt _ h)) (rotr_lt _ h)
theorem bigS0_lt {x : Nat} (h : x < 4294967296) : bigS0 x < 4294967296 := xor_lt32 (xor_lt32 (rotr_lt _ h) (rotr_lt _ h)) (rotr_lt _ h)
theorem smS1_lt {x : Nat} (h : x < 4294967296) : smS1 x < 4294967296 := xor_lt32 (xor_lt32 (rotr_lt _ h) (rotr_lt _ h)) (by omega)
theorem smS0_lt {x : Nat} (h : x < 4294967296) : smS0 x < 4294967296 := xor_lt32 (xor_lt32 (rotr_lt _ h) (rotr_lt _ h)) (by omega)
theorem chN_lt {e f g : Nat} (he : e < 4294967296) : chN e f g < 4294967296 := xor_lt32 (and_lt32 he) (and_lt32 (xor_lt32 he (by decide)))
theorem majN_lt {a b c : Nat} (ha : a < 4294967296) (hb : b < 4294967296) : majN a b c < 4294967296 := xor_lt32 (xor_lt32 (and_lt32 ha) (and_lt32 ha)) (and_lt32 hb)
theorem rnd_ok {s : St} (k w : Nat) (h : s.ok) : (rnd k w s).ok := ⟨Nat.mod_lt _ (by decide), h.1, h.2.1, h.2.2.1, Nat.mod_lt _ (by decide), h.2.2.2.2.1, h.2.2.2.2.2.1, h.2.2.2.2.2.2.1⟩
theorem rounds_ok (b : List UInt8) (n : Nat) {s : St} (h : s.ok) : (rounds b n s).ok := by
 induction n with
 | zero => exact h
 | succ n ih => exact rnd_ok _ _ ih
theorem addSt_ok (s t : St) : (addSt s t).ok := by refine ⟨?_, ?_, ?_, ?_, ?_, ?_, ?_, ?_⟩ <;> exact Nat.mod_lt _ (by decide)
theorem blockN_ok (s : St) (b : List UInt8) : (blockN s b).ok := addSt_ok _ _
theorem firstN_ok : firstN.ok := by unfold St.ok firstN; decide
theorem blocksN_ok {s : St} (p : List UInt8) (n : Nat) (h : s.ok) : (blocksN s p n).ok := by
 cases n with
 | zero => exact h
 | succ n => exact blockN_ok _ _
theorem wordOf_lt (b : List UInt8) (i : Nat) : wordOf b i < 4294967296 := by
 unfold wordOf;have h1 := (b.getD (4 * i) 0).toNat_lt;have h2 := (b.getD (4 * i + 1) 0).toNat_lt;have h3 := (b.getD (4 * i + 2) 0).toNat_lt;have h4 := (b.getD (4 * i + 3) 0).toNat_lt;omega
theorem wd_lt (b : List UInt8) (i : Nat) : wd b i < 4294967296 := by
 rw [wd]
 split
 ·exact wordOf_lt _ _
 ·exact Nat.mod_lt _ (by decide)
theorem wd_lo (b : List UInt8) {i : Nat} (h : i < 16) : wd b i = wordOf b i := by rw [wd, dif_pos h]
theorem wd_hi (b : List UInt8) (i : Nat) : wd b (i + 16) = (wd b i + smS0 (wd b (i + 1)) + wd b (i + 9) + smS1 (wd b (i + 14))) % 4294967296 := by
 rw [wd, dif_neg (by omega)];simp only [show i + 16 - 16 = i by omega, show i + 16 - 15 = i + 1 by omega, show i + 16 - 7 = i + 9 by omega, show i + 16 - 2 = i + 14 by omega]
theorem keysN_len : keysN.length = 64 := rfl
theorem keysN_lt (k : Nat) : keysN.getD k 0 < 4294967296 := by
 have : ∀ x ∈ keysN, x < 4294967296 := by unfold keysN; decide
 rw [List.getD_eq_getElem?_getD]
 cases h : keysN[k]? with
 | none => simp
 | some x => exact this x (List.mem_of_getElem? h)
def padTail (n : Nat) : List UInt8 := 128 :: (List.replicate ((64 - (n + 9) % 64) % 64) 0 ++ [UInt8.ofNat (8 * n / 72057594037927936), UInt8.ofNat (8 * n / 281474976710656), UInt8.ofNat (8 * n / 1099511627776), UInt8.ofNat (8 * n / 4294967296), UInt8.ofNat (8 * n / 16777216), UInt8.ofNat (8 * n / 65536), UInt8.ofNat (8 * n / 256), UInt8.ofNat (8 * n)])
def padL (t : List UInt8) : List UInt8 := t ++ padTail t.length
theorem padTail_len (n : Nat) : (padTail n).length = 9 + (64 - (n + 9) % 64) % 64 := by simp [padTail]; omega
def four8 (x : Nat) : List UInt8 := [UInt8.ofNat (x / 16777216 % 256), UInt8.ofNat (x / 65536 % 256), UInt8.ofNat (x / 256 % 256), UInt8.ofNat (x % 256)]
def bytesOfSt (s : St) : List UInt8 := four8 s.a ++ four8 s.b ++ four8 s.c ++ four8 s.d ++ four8 s.e ++ four8 s.f ++ four8 s.g ++ four8 s.h
def digSt (t : List UInt8) : St := blocksN firstN (padL t) ((padL t).length / 64)
def digL (t : List UInt8) : List UInt8 := bytesOfSt (digSt t)
theorem or_rotr (x k : Nat) (hx : x < 4294967296) : bits .or .u32 ((x : Int) / 2 ^ k) ((x : Int) * 2 ^ (32 - k) % 4294967296) = (rotr k x : Nat) := by
 have h := u32_or_nat (x / 2 ^ k) (x * 2 ^ (32 - k) % 4294967296) (div_lt32 k hx) (Nat.mod_lt _ (by decide));have e1 : ((x / 2 ^ k : Nat) : Int) = (x : Int) / 2 ^ k := by simp
 have e2 : ((x * 2 ^ (32 - k) % 4294967296 : Nat) : Int) = (x : Int) * 2 ^ (32 - k) % 4294967296 := by simp
 rw [e1, e2] at h;exact h
theorem or_rotl (x k : Nat) (hx : x < 4294967296) : bits .or .u32 ((x : Int) * 2 ^ (32 - k) % 4294967296) ((x : Int) / 2 ^ k) = (rotr k x : Nat) := by
 have h := u32_or_nat (x * 2 ^ (32 - k) % 4294967296) (x / 2 ^ k) (Nat.mod_lt _ (by decide)) (div_lt32 k hx);have e1 : ((x / 2 ^ k : Nat) : Int) = (x : Int) / 2 ^ k := by simp
 have e2 : ((x * 2 ^ (32 - k) % 4294967296 : Nat) : Int) = (x : Int) * 2 ^ (32 - k) % 4294967296 := by simp
 rw [e1, e2, Nat.or_comm] at h;exact h
theorem turn_any (x k : Nat) (w : World) (hx : x < 4294967296) (hk : 0 < k) (hk2 : k < 32) : Calls Tryz.prog 183 #[.int .u32 x, .int .u64 k] w fun e w' => e = .returned (.int .u32 (rotr k x : Nat)) /\ w = w' := by
 have ho := or_rotr x k hx;go_enter Tryz.func183, Tryz.ntmps183
 go_wp2
 go_ret;exact ⟨rfl, rfl⟩
theorem low5 : ∀ k : Nat, k < 32 -> 0 < k -> bits .and .u64 (IntKind.u64.wrap (-(k : Int))) 31 = ((32 - k : Nat) : Int) := by decide
theorem rotateLeft_any (x k : Nat) (w : World) (hx : x < 4294967296) (hk : 0 < k) (hk2 : k < 32) : Calls Tryz.prog 190 #[.int .u32 x, zI (-(k : Int))] w fun e w' => e = .returned (.int .u32 (rotr k x : Nat)) /\ w = w' := by
 have ho := or_rotl x k hx;have h5 := low5 k hk2 hk;obtain ⟨j, hj⟩ : ∃ j : Nat, j = 32 - k := ⟨_, rfl⟩;have hj2 : 32 - j = k := by omega
 have hj3 : j < 32 := by omega
 rw [<- hj] at h5 ho;have hs : IntKind.u64.wrap (32 - (j : Int)) = (k : Int) := by rw [IntWalk.u64_in _ (by omega)]; omega
 clear hj;go_enter Tryz.func190, Tryz.ntmps190
 go_wp2
 go_ret;exact ⟨rfl, rfl⟩
theorem turned_any (x k : Nat) (w : World) (hx : x < 4294967296) (hk : 0 < k) (hk2 : k < 32) : Calls Tryz.prog 187 #[.int .u32 x, zI k] w fun e w' => e = .returned (.int .u32 (rotr k x : Nat)) /\ w = w' := by
 go_enter Tryz.func187, Tryz.ntmps187;go_wp2_with (go_at_call 190; refine (rotateLeft_any x k _ hx hk hk2).mono ?_; rintro e w1 ⟨rfl, rfl⟩);go_ret;exact ⟨rfl, rfl⟩
end Go.Proofs.YtcbjlbpkoneibaaGreatDoor
