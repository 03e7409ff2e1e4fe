/-
  Texts of the proof.
-/
import Derived.Lib.LaidU8
import Derived.WalkKit
import Derived.Test.YtlbjhibolcgnoaaGreatDoorChecked
import Derived.WalkSpells
import Derived.WalkLawsBesides
import Derived.Handy
import Derived.Laws.BitsAllLaws
import Derived.Laws.Rows
import Derived.Laws.Tables
import Derived.Deep.MidRow
import Derived.Test.YtlbjhibolcgnoaaGreatDoorSR21
set_option maxRecDepth 100000
set_option maxHeartbeats 25600000
namespace Go.Proofs.YtlbjhibolcgnoaaGreatDoor
open Go.RowKit
theorem gHouses : Tryz.prog.globalNamed "loop.example/g00394/impl.houses" = some 0 := by kernel_rfl
theorem housesType : (Tryz.prog.globals[0]?).map (·.type) = some 79 := by kernel_rfl
theorem cellsHouse : Tryz.prog.cellsOf 62 = 2 := by kernel_rfl
theorem cellsStr : Tryz.prog.cellsOf 9 = 1 := by kernel_rfl
def HousesOk (w : World) : Prop := 0 < w.heap.size /\ ∀ i : Nat, i < 6 -> w.cell? ⟨0, 2 * i, none⟩ = some (.string ⟨(pubF i).toArray⟩) /\ w.cell? ⟨0, 2 * i + 1, none⟩ = some (.string ⟨(secF i).toArray⟩)
theorem housesBelow {w : World} (h : HousesOk w) : ∀ w', Below w.heap.size w w' -> HousesOk w' := fun _ hb =>
 ⟨Nat.lt_of_lt_of_le h.1 hb.size, fun i hi => ⟨(hb.cell (p := ⟨_, 2 * i, none⟩) h.1).trans (h.2 i hi).1, (hb.cell (p := ⟨_, 2 * i + 1, none⟩) h.1).trans (h.2 i hi).2⟩⟩
def housesD {H : Type} : DataW H := .agg ((List.range 6).map fun i => .agg [.lit (.string (pubF i)), .lit (.string (secF i))])
theorem bytes_backH (s : ByteArray) (l : List UInt8) (h : s.data.toList = l) : s = ⟨l.toArray⟩ := by
 subst h
 apply ByteArray.ext
 simp
theorem take_oneH {cs : List Value} {k : Nat} {v : Value} (h : (cs.drop k).take 1 = [v]) : cs[k]? = some v := by
 have := congrArg (·[0]?) h
 simpa [List.getElem?_take, List.getElem?_drop] using this
theorem pair_cells {W : World} {fuel : Nat} {cs : List Value} {a b : List UInt8} {p : List MemPlace} (h : DataW.trod (fun _ => ()) Tryz.prog W 0 (fun _ => true) false fuel 62 cs = some (.agg [.lit (.string a), .lit (.string b)], p)) :
  cs[0]? = some (.string ⟨a.toArray⟩) /\ cs[1]? = some (.string ⟨b.toArray⟩) := by
 obtain ⟨xs, n, rfl, hx, hl, hxl, hall⟩ := DataW.trod_struct Tryz.underlying62 h
 have hx2 : xs.map (·.1) = [.lit (.string a), .lit (.string b)] := by
  have := congrArg Prod.fst hx
  simpa using this.symm
 obtain ⟨x0, x1, rfl⟩ : ∃ x0 x1, xs = [x0, x1] := by
  match xs, hx2 with
  | [x0, x1], _ => exact ⟨x0, x1, rfl⟩
 simp only [List.map_cons, List.map_nil, List.cons.injEq, and_true] at hx2
 obtain ⟨e0, e1⟩ := hx2
 have f0 := hall 0 _ rfl
 have f1 := hall 1 _ rfl
 change DataW.trod _ _ _ _ _ _ _ 9 ((cs.drop 0).take (Tryz.prog.cellsOf 9)) = some x0 at f0
 change DataW.trod _ _ _ _ _ _ _ 9 ((cs.drop 1).take (Tryz.prog.cellsOf 9)) = some x1 at f1
 rw [cellsStr] at f0 f1
 refine ⟨?_, ?_⟩
 ·obtain ⟨s, hz, hx', _⟩ := DataW.trod_string Tryz.underlying9 f0
  rw [hx'] at e0
  simp only [DataW.lit.injEq, Lit.string.injEq] at e0
  rw [take_oneH hz, bytes_backH s a e0]
 ·obtain ⟨s, hz, hx', _⟩ := DataW.trod_string Tryz.underlying9 f1
  rw [hx'] at e1
  simp only [DataW.lit.injEq, Lit.string.injEq] at e1
  rw [take_oneH hz, bytes_backH s b e1]
theorem houses_of_reads {W : World} (h : Lib.VarReads Tryz.prog W "loop.example/g00394/impl.houses" housesD) : HousesOk W := by
 obtain ⟨g', t', cs, fuel, p, hg', ht', hvar, hd⟩ := h
 obtain rfl := Option.some.inj (gHouses.symm.trans hg')
 obtain rfl := Option.some.inj (housesType.symm.trans ht')
 obtain ⟨xs, m, rfl, hx, hlen, hxl, hall⟩ := DataW.trod_array Tryz.underlying79 hd
 have hx2 : xs.map (·.1) = (List.range 6).map fun i => (DataW.agg [.lit (.string (pubF i)), .lit (.string (secF i))] : DataW Unit) := by
  have := congrArg Prod.fst hx
  simpa [housesD] using this.symm
 have hc := World.var?_cell gHouses hvar
 have hboth : ∀ i : Nat, i < 6 -> W.cell? ⟨0, 2 * i, none⟩ = some (.string ⟨(pubF i).toArray⟩) /\ W.cell? ⟨0, 2 * i + 1, none⟩ = some (.string ⟨(secF i).toArray⟩) := by
  intro i hi
  have h1 := hall i hi
  obtain ⟨y, hy⟩ : ∃ y, xs[i]? = some y := ⟨xs[i]'(by omega), by simp [show i < xs.length by omega]⟩
  have hy1 : y.1 = DataW.agg [.lit (.string (pubF i)), .lit (.string (secF i))] := by
   have h2 := congrArg (·[i]?) hx2
   simp only [List.getElem?_map, hy, Option.map_some] at h2
   rw [List.getElem?_range hi] at h2
   simpa using h2
  obtain ⟨y1, y2⟩ := y
  subst hy1
  rw [hy, cellsHouse] at h1
  have h3 := pair_cells h1
  rw [List.getElem?_take, List.getElem?_take, List.getElem?_drop, List.getElem?_drop] at h3
  simp only [show (0 : Nat) < 2 by decide, show (1 : Nat) < 2 by decide, if_true] at h3
  rw [hc, hc]
  constructor
  ·rw [<- h3.1, show 2 * i = i * 2 + 0 by omega]; simp
  ·rw [<- h3.2, show 2 * i + 1 = i * 2 + 1 by omega]; simp
 refine ⟨?_, hboth⟩
 have h0 := (hboth 0 (by decide)).1
 rcases Nat.lt_or_ge 0 W.heap.size with h | h
 ·exact h
 ·simp [World.cell?, Array.getElem?_eq_none h] at h0
theorem houseAt_any (i : Int) (w : World) (hi : -9223372036854775808 <= i /\ i <= 9223372036854775807) (hH : HousesOk w) : Calls Tryz.prog 35 #[.int .i64 i] w fun e w' => e = .returned (.agg #[.string (pubT i), .string (secT i)]) /\ Below w.heap.size w w' := by
 by_cases h : 0 <= i /\ i < 6
 ·obtain ⟨n, rfl⟩ : ∃ n : Nat, i = (n : Int) := ⟨i.toNat, by omega⟩
  have hn : n < 6 := by omega
  rw [pubT_at hn, secT_at hn]
  have HB := (Below.refl w.heap.size w).alloc (Nat.le_refl _) (Obj.cells #[Value.string { data := #[] }, Value.string { data := #[] }] 62)
  obtain ⟨c0, c1⟩ := (housesBelow hH _ HB).2 n hn
  rw [Nat.mul_comm 2 n] at c0 c1
  clear hH HB
  have h1 : ¬ (n : Int) < 0 := by omega
  have h2 : ¬ (6 : Int) <= (n : Int) := by omega
  generalize (⟨(pubF n).toArray⟩ : ByteArray) = P at *
  generalize (⟨(secF n).toArray⟩ : ByteArray) = Q at *
  go_enter Tryz.func35, Tryz.ntmps35
  go_wp2_with fail
  refine bodyPost_ret (v := .agg #[.string P, .string Q]) (by simp [results, Tryz.results35, go_sem]; try rfl) rfl ⟨rfl, ?_⟩
  exact (Below.refl _ _).alloc (Nat.le_refl _) _
 ·rw [pubT_no h, secT_no h]
  clear hH
  by_cases h3 : i < 0
  ·go_enter Tryz.func35, Tryz.ntmps35
   go_wp2_with fail
   refine bodyPost_ret (v := .agg #[.string ByteArray.empty, .string ByteArray.empty]) (by simp [results, Tryz.results35, go_sem]; try rfl) rfl ⟨rfl, ?_⟩
   exact ((Below.refl _ _).alloc (Nat.le_refl _) _)
  ·have h4 : (6 : Int) <= i := by omega
   go_enter Tryz.func35, Tryz.ntmps35
   go_wp2_with fail
   refine bodyPost_ret (v := .agg #[.string ByteArray.empty, .string ByteArray.empty]) (by simp [results, Tryz.results35, go_sem]; try rfl) rfl ⟨rfl, ?_⟩
   exact ((Below.refl _ _).alloc (Nat.le_refl _) _)
end Go.Proofs.YtlbjhibolcgnoaaGreatDoor
namespace Go.Proofs.YtlbjhibolcgnoaaGreatDoor
def rotr (k x : Nat) : Nat := (x / 2 ^ k) ||| (x * 2 ^ (32 - k) % 4294967296)
def bigS1 (e : Nat) : Nat := rotr 6 e ^^^ rotr 11 e ^^^ rotr 25 e
def bigS0 (e : Nat) : Nat := rotr 2 e ^^^ rotr 13 e ^^^ rotr 22 e
def smS0 (e : Nat) : Nat := rotr 7 e ^^^ rotr 18 e ^^^ (e / 8)
def smS1 (e : Nat) : Nat := rotr 17 e ^^^ rotr 19 e ^^^ (e / 1024)
def chN (e f g : Nat) : Nat := (e &&& f) ^^^ ((e ^^^ 4294967295) &&& g)
def majN (a b c : Nat) : Nat := (a &&& b) ^^^ (a &&& c) ^^^ (b &&& c)
structure St where
 a : Nat
 b : Nat
 c : Nat
 d : Nat
 e : Nat
 f : Nat
 g : Nat
 h : Nat
def oneN (k w : Nat) (s : St) : Nat := (s.h + bigS1 s.e + chN s.e s.f s.g + k + w) % 4294967296
def twoN (s : St) : Nat := (bigS0 s.a + majN s.a s.b s.c) % 4294967296
def rnd (k w : Nat) (s : St) : St := ⟨(oneN k w s + twoN s) % 4294967296, s.a, s.b, s.c, (s.d + oneN k w s) % 4294967296, s.e, s.f, s.g⟩
def keysN : List Nat := [1116352408, 1899447441, 3049323471, 3921009573, 961987163, 1508970993, 2453635748, 2870763221, 3624381080, 310598401, 607225278, 1426881987, 1925078388, 2162078206, 2614888103, 3248222580, 3835390401, 4022224774, 264347078, 604807628, 770255983, 1249150122, 1555081692, 1996064986, 2554220882, 2821834349, 2952996808, 3210313671, 3336571891, 3584528711, 113926993, 338241895, 666307205, 773529912, 1294757372, 1396182291, 1695183700, 1986661051, 2177026350, 2456956037, 2730485921, 2820302411, 3259730800, 3345764771, 3516065817, 3600352804, 4094571909, 275423344, 430227734, 506948616, 659060556, 883997877, 958139571, 1322822218, 1537002063, 1747873779, 1955562222, 2024104815, 2227730452, 2361852424, 2428436474, 2756734187, 3204031479, 3329325298]
def firstN : St := ⟨1779033703, 3144134277, 1013904242, 2773480762, 1359893119, 2600822924, 528734635, 1541459225⟩
def wordOf (b : List UInt8) (i : Nat) : Nat := (b.getD (4 * i) 0).toNat * 16777216 + (b.getD (4 * i + 1) 0).toNat * 65536 + (b.getD (4 * i + 2) 0).toNat * 256 + (b.getD (4 * i + 3) 0).toNat
def wd (b : List UInt8) (i : Nat) : Nat :=
 if h : i < 16 then wordOf b i else (wd b (i - 16) + smS0 (wd b (i - 15)) + wd b (i - 7) + smS1 (wd b (i - 2))) % 4294967296
def rounds (b : List UInt8) : Nat -> St -> St
 | 0, s => s
 | n + 1, s => rnd (keysN.getD n 0) (wd b n) (rounds b n s)
def addSt (s t : St) : St := ⟨(s.a + t.a) % 4294967296, (s.b + t.b) % 4294967296, (s.c + t.c) % 4294967296, (s.d + t.d) % 4294967296, (s.e + t.e) % 4294967296, (s.f + t.f) % 4294967296, (s.g + t.g) % 4294967296, (s.h + t.h) % 4294967296⟩
def blockN (s : St) (b : List UInt8) : St := addSt s (rounds b 64 s)
def blocksN (s : St) (p : List UInt8) : Nat -> St
 | 0 => s
 | n + 1 => blockN (blocksN s p n) ((p.drop (64 * n)).take 64)
def St.ok (s : St) : Prop := s.a < 4294967296 /\ s.b < 4294967296 /\ s.c < 4294967296 /\ s.d < 4294967296 /\ s.e < 4294967296 /\ s.f < 4294967296 /\ s.g < 4294967296 /\ s.h < 4294967296
theorem and_lt32 {a b : Nat} (ha : a < 4294967296) : a &&& b < 4294967296 := Nat.lt_of_le_of_lt Nat.and_le_left ha
theorem xor_lt32 {a b : Nat} (ha : a < 4294967296) (hb : b < 4294967296) : a ^^^ b < 4294967296 := Nat.xor_lt_two_pow (n := 32) ha hb
theorem or_lt32 {a b : Nat} (ha : a < 4294967296) (hb : b < 4294967296) : a ||| b < 4294967296 := Nat.or_lt_two_pow (n := 32) ha hb
theorem div_lt32 {x : Nat} (k : Nat) (h : x < 4294967296) : x / 2 ^ k < 4294967296 := Nat.lt_of_le_of_lt (Nat.div_le_self _ _) h
theorem rotr_lt (k : Nat) {x : Nat} (h : x < 4294967296) : rotr k x < 4294967296 := or_lt32 (div_lt32 k h) (Nat.mod_lt _ (by decide))
theorem bigS1_lt {x : Nat} (h : x < 4294967296) : bigS1 x < 4294967296 := xor_lt32 (xor_lt32 (rotr_lt _ h) (rotr_lt _ h)) (rotr_lt _ h)
theorem bigS0_lt {x : Nat} (h : x < 4294967296) : bigS0 x < 4294967296 := xor_lt32 (xor_lt32 (rotr_lt _ h) (rotr_lt _ h)) (rotr_lt _ h)
theorem smS1_lt {x : Nat} (h : x < 4294967296) : smS1 x < 4294967296 := xor_lt32 (xor_lt32 (rotr_lt _ h) (rotr_lt _ h)) (by omega)
theorem smS0_lt {x : Nat} (h : x < 4294967296) : smS0 x < 4294967296 := xor_lt32 (xor_lt32 (rotr_lt _ h) (rotr_lt _ h)) (by omega)
theorem chN_lt {e f g : Nat} (he : e < 4294967296) : chN e f g < 4294967296 := xor_lt32 (and_lt32 he) (and_lt32 (xor_lt32 he (by decide)))
theorem majN_lt {a b c : Nat} (ha : a < 4294967296) (hb : b < 4294967296) : majN a b c < 4294967296 := xor_lt32 (xor_lt32 (and_lt32 ha) (and_lt32 ha)) (and_lt32 hb)
theorem rnd_ok {s : St} (k w : Nat) (h : s.ok) : (rnd k w s).ok := ⟨Nat.mod_lt _ (by decide), h.1, h.2.1, h.2.2.1, Nat.mod_lt _ (by decide), h.2.2.2.2.1, h.2.2.2.2.2.1, h.2.2.2.2.2.2.1⟩
theorem rounds_ok (b : List UInt8) (n : Nat) {s : St} (h : s.ok) : (rounds b n s).ok := by
 induction n with
 | zero => exact h
 | succ n ih => exact rnd_ok _ _ ih
theorem addSt_ok (s t : St) : (addSt s t).ok := by refine ⟨?_, ?_, ?_, ?_, ?_, ?_, ?_, ?_⟩ <;> exact Nat.mod_lt _ (by decide)
theorem blockN_ok (s : St) (b : List UInt8) : (blockN s b).ok := addSt_ok _ _
theorem firstN_ok : firstN.ok := by unfold St.ok firstN; decide
theorem blocksN_ok {s : St} (p : List UInt8) (n : Nat) (h : s.ok) : (blocksN s p n).ok := by
 cases n with
 | zero => exact h
 | succ n => exact blockN_ok _ _
theorem wordOf_lt (b : List UInt8) (i : Nat) : wordOf b i < 4294967296 := by
 unfold wordOf
 have h1 := (b.getD (4 * i) 0).toNat_lt
 have h2 := (b.getD (4 * i + 1) 0).toNat_lt
 have h3 := (b.getD (4 * i + 2) 0).toNat_lt
 have h4 := (b.getD (4 * i + 3) 0).toNat_lt
 omega
theorem wd_lt (b : List UInt8) (i : Nat) : wd b i < 4294967296 := by
 rw [wd]
 split
 ·exact wordOf_lt _ _
 ·exact Nat.mod_lt _ (by decide)
theorem wd_lo (b : List UInt8) {i : Nat} (h : i < 16) : wd b i = wordOf b i := by rw [wd, dif_pos h]
theorem wd_hi (b : List UInt8) (i : Nat) : wd b (i + 16) = (wd b i + smS0 (wd b (i + 1)) + wd b (i + 9) + smS1 (wd b (i + 14))) % 4294967296 := by
 rw [wd, dif_neg (by omega)]
 simp only [show i + 16 - 16 = i by omega, show i + 16 - 15 = i + 1 by omega, show i + 16 - 7 = i + 9 by omega, show i + 16 - 2 = i + 14 by omega]
theorem keysN_len : keysN.length = 64 := rfl
theorem keysN_lt (k : Nat) : keysN.getD k 0 < 4294967296 := by
 have : ∀ x ∈ keysN, x < 4294967296 := by unfold keysN; decide
 rw [List.getD_eq_getElem?_getD]
 cases h : keysN[k]? with
 | none => simp
 | some x => exact this x (List.mem_of_getElem? h)
def padTail (n : Nat) : List UInt8 := 128 :: (List.replicate ((64 - (n + 9) % 64) % 64) 0 ++ [UInt8.ofNat (8 * n / 72057594037927936), UInt8.ofNat (8 * n / 281474976710656), UInt8.ofNat (8 * n / 1099511627776), UInt8.ofNat (8 * n / 4294967296), UInt8.ofNat (8 * n / 16777216), UInt8.ofNat (8 * n / 65536), UInt8.ofNat (8 * n / 256), UInt8.ofNat (8 * n)])
def padL (t : List UInt8) : List UInt8 := t ++ padTail t.length
theorem padTail_len (n : Nat) : (padTail n).length = 9 + (64 - (n + 9) % 64) % 64 := by simp [padTail]; omega
def four8 (x : Nat) : List UInt8 := [UInt8.ofNat (x / 16777216 % 256), UInt8.ofNat (x / 65536 % 256), UInt8.ofNat (x / 256 % 256), UInt8.ofNat (x % 256)]
def bytesOfSt (s : St) : List UInt8 := four8 s.a ++ four8 s.b ++ four8 s.c ++ four8 s.d ++ four8 s.e ++ four8 s.f ++ four8 s.g ++ four8 s.h
def digSt (t : List UInt8) : St := blocksN firstN (padL t) ((padL t).length / 64)
def digL (t : List UInt8) : List UInt8 := bytesOfSt (digSt t)
end Go.Proofs.YtlbjhibolcgnoaaGreatDoor
namespace Go.Proofs.YtlbjhibolcgnoaaGreatDoor
open Go.RowKit
theorem or_rotr (x k : Nat) (hx : x < 4294967296) : bits .or .u32 ((x : Int) / 2 ^ k) ((x : Int) * 2 ^ (32 - k) % 4294967296) = (rotr k x : Nat) := by
 have h := u32_or_nat (x / 2 ^ k) (x * 2 ^ (32 - k) % 4294967296) (div_lt32 k hx) (Nat.mod_lt _ (by decide))
 have e1 : ((x / 2 ^ k : Nat) : Int) = (x : Int) / 2 ^ k := by simp
 have e2 : ((x * 2 ^ (32 - k) % 4294967296 : Nat) : Int) = (x : Int) * 2 ^ (32 - k) % 4294967296 := by simp
 rw [e1, e2] at h
 exact h
theorem or_rotl (x k : Nat) (hx : x < 4294967296) : bits .or .u32 ((x : Int) * 2 ^ (32 - k) % 4294967296) ((x : Int) / 2 ^ k) = (rotr k x : Nat) := by
 have h := u32_or_nat (x * 2 ^ (32 - k) % 4294967296) (x / 2 ^ k) (Nat.mod_lt _ (by decide)) (div_lt32 k hx)
 have e1 : ((x / 2 ^ k : Nat) : Int) = (x : Int) / 2 ^ k := by simp
 have e2 : ((x * 2 ^ (32 - k) % 4294967296 : Nat) : Int) = (x : Int) * 2 ^ (32 - k) % 4294967296 := by simp
 rw [e1, e2, Nat.or_comm] at h
 exact h
theorem turn_any (x k : Nat) (w : World) (hx : x < 4294967296) (hk : 0 < k) (hk2 : k < 32) : Calls Tryz.prog 112 #[.int .u32 x, .int .u64 k] w fun e w' => e = .returned (.int .u32 (rotr k x : Nat)) /\ w = w' := by
 have ho := or_rotr x k hx
 go_enter Tryz.func112, Tryz.ntmps112
 go_wp2
 go_ret
 exact ⟨rfl, rfl⟩
theorem low5 : ∀ k : Nat, k < 32 -> 0 < k -> bits .and .u64 (IntKind.u64.wrap (-(k : Int))) 31 = ((32 - k : Nat) : Int) := by decide
theorem rotateLeft_any (x k : Nat) (w : World) (hx : x < 4294967296) (hk : 0 < k) (hk2 : k < 32) : Calls Tryz.prog 137 #[.int .u32 x, .int .i64 (-(k : Int))] w fun e w' => e = .returned (.int .u32 (rotr k x : Nat)) /\ w = w' := by
 have ho := or_rotl x k hx
 have h5 := low5 k hk2 hk
 obtain ⟨j, hj⟩ : ∃ j : Nat, j = 32 - k := ⟨_, rfl⟩
 have hj2 : 32 - j = k := by omega
 have hj3 : j < 32 := by omega
 rw [<- hj] at h5 ho
 have hs : IntKind.u64.wrap (32 - (j : Int)) = (k : Int) := by rw [IntWalk.u64_in _ (by omega)]; omega
 clear hj
 go_enter Tryz.func137, Tryz.ntmps137
 go_wp2
 go_ret
 exact ⟨rfl, rfl⟩
theorem turned_any (x k : Nat) (w : World) (hx : x < 4294967296) (hk : 0 < k) (hk2 : k < 32) : Calls Tryz.prog 136 #[.int .u32 x, .int .i64 k] w fun e w' => e = .returned (.int .u32 (rotr k x : Nat)) /\ w = w' := by
 go_enter Tryz.func136, Tryz.ntmps136
 go_wp2_with (go_at_call 137; refine (rotateLeft_any x k _ hx hk hk2).mono ?_; rintro e w1 ⟨rfl, rfl⟩)
 go_ret
 exact ⟨rfl, rfl⟩
def arrN (n : Nat) (f : Nat -> Nat) : Array Value := ((List.range n).map fun j => Value.int .u32 ((f j : Nat) : Int)).toArray
theorem arrN_size (n : Nat) (f : Nat -> Nat) : (arrN n f).size = n := by simp [arrN]
theorem arrN_get (n : Nat) (f : Nat -> Nat) (j : Nat) (h : j < n) : (arrN n f)[j]? = some (.int .u32 ((f j : Nat) : Int)) := by
 simp [arrN, h]
theorem arrN_congr {n : Nat} {f g : Nat -> Nat} (h : ∀ j, j < n -> f j = g j) : arrN n f = arrN n g := by
 unfold arrN
 congr 1
 apply List.map_congr_left
 intro j hj
 rw [h j (List.mem_range.1 hj)]
theorem arrN_one (n : Nat) (f : Nat -> Nat) : (arrN n f).all (·.oneCell') = true := by
 rw [Array.all_eq_true_iff_forall_mem]
 intro x hx
 simp only [arrN, List.mem_toArray, List.mem_map] at hx
 obtain ⟨j, _, rfl⟩ := hx
 rfl
def upd (f : Nat -> Nat) (k v : Nat) : Nat -> Nat := fun j => if j = k then v else f j
theorem upd_same (f : Nat -> Nat) (k v : Nat) : upd f k v k = v := by simp [upd]
theorem upd_other (f : Nat -> Nat) {k j : Nat} (v : Nat) (h : j ≠ k) : upd f k v j = f j := by simp [upd, h]
theorem arrN_set (n : Nat) (f : Nat -> Nat) (k v : Nat) : (arrN n f).setIfInBounds k (.int .u32 ((v : Nat) : Int)) = arrN n (upd f k v) := by
 apply Array.ext_getElem?
 intro i
 rw [Array.getElem?_setIfInBounds]
 by_cases hi : i < n
 ·rw [arrN_get n (upd f k v) i hi]
  by_cases hk : k = i
  ·subst hk
   rw [if_pos rfl, if_pos (by rw [arrN_size]; exact hi), upd_same]
  ·rw [if_neg hk, arrN_get n f i hi, upd_other f v (fun e => hk e.symm)]
 ·have h1 : (arrN n (upd f k v))[i]? = none := by rw [Array.getElem?_eq_none_iff, arrN_size]; omega
  have h2 : (arrN n f)[i]? = none := by rw [Array.getElem?_eq_none_iff, arrN_size]; omega
  rw [h1, h2]
  split
  ·rw [if_neg (by rw [arrN_size]; omega)]
  ·rfl
def Row (w : World) (b : Nat) (t : TypeId) (n : Nat) (f : Nat -> Nat) : Prop := w.heap[b]? = some (.cells (arrN n f) t (0, 0))
theorem Row.cell {w : World} {b : Nat} {t : TypeId} {n : Nat} {f : Nat -> Nat} (h : Row w b t n f) (j : Nat) (hj : j < n) : w.cell? ⟨b, j, none⟩ = some (.int .u32 ((f j : Nat) : Int)) := by
 rw [cell_of_row w b j _ t _ h, arrN_get n f j hj]
theorem Row.free {w : World} {b : Nat} {t : TypeId} {n : Nat} {f : Nat -> Nat} (h : Row w b t n f) (j : Nat) : w.frozen? ⟨b, j, none⟩ = false := by
 have h' : w.heap[b]? = some (.cells (arrN n f) t (0, 0)) := h
 simp [World.frozen?, h']
theorem Row.set {w : World} {b : Nat} {t : TypeId} {n : Nat} {f : Nat -> Nat} (h : Row w b t n f) (k v : Nat) : Row (w.setCell ⟨b, k, none⟩ (.int .u32 ((v : Nat) : Int))) b t n (upd f k v) := by
 show _ = _
 rw [heap_setCell_same w b k _ t _ h, arrN_set]
theorem Row.other {w : World} {b : Nat} {t : TypeId} {n : Nat} {f : Nat -> Nat} (h : Row w b t n f) (a : Addr) (v : Value) (hb : b ≠ a.block) : Row (w.setCell a v) b t n f := by
 show _ = _
 rw [heap_setCell_other w a b v hb]
 exact h
theorem Row.congr {w : World} {b : Nat} {t : TypeId} {n : Nat} {f g : Nat -> Nat} (h : Row w b t n f) (hfg : ∀ j, j < n -> f j = g j) : Row w b t n g := by
 show _ = _
 rw [<- arrN_congr hfg]
 exact h
theorem Row.load {w : World} {b : Nat} {t : TypeId} {n : Nat} {f : Nat -> Nat} {P : Program} {ty e : TypeId} {m : Nat} (h : Row w b t n f) (hu : P.underlying ty = some (.array m e)) (hi : (P.info? ty).map (·.size) = some n) :
  (loadVar ty ⟨b, 0, none⟩).run P w = .ok (.agg (arrN n f)) w :=
 run_loadVar_row w b t ty (arrN n f) (0, 0) _ h hu rfl (by rw [arrN_size]; exact hi)
theorem Row.store {w : World} {b : Nat} {t : TypeId} {n : Nat} {f g : Nat -> Nat} {P : Program} {ty : TypeId} (h : Row w b t n f) (hi : (P.info? ty).map (·.size) = some n) :
  (storeVar ty ⟨b, 0, none⟩ (.agg (arrN n g))).run P w = .ok () (w.setRow b (arrN n g)) :=
 run_storeVar_row w b t ty (arrN n f) (arrN n g) h (by rw [arrN_size]; exact hi) (by rw [arrN_size, arrN_size]) (arrN_one _ _)
theorem Row.setRow {w : World} {b : Nat} {t : TypeId} {n : Nat} {f g : Nat -> Nat} (h : Row w b t n f) : Row (w.setRow b (arrN n g)) b t n g := setRow_heap w b _ _ t _ h
theorem Row.setRow_other {w : World} {b : Nat} {t : TypeId} {n : Nat} {f : Nat -> Nat} (h : Row w b t n f) (k : Nat) (cs : Array Value) (hk : b ≠ k) : Row (w.setRow k cs) b t n f := by
 show _ = _
 rw [Go.setRow_other w k b cs hk]
 exact h
theorem Row.below {w w' : World} {B b : Nat} {t : TypeId} {n : Nat} {f : Nat -> Nat} (h : Row w b t n f) (hB : Below B w w') (hb : b < B) : Row w' b t n f := by
 show _ = _
 rw [hB.block b hb]
 exact h
theorem Row.new (w : World) (t : TypeId) (n : Nat) (f : Nat -> Nat) : Row (w.alloc (.cells (arrN n f) t)) w.heap.size t n f := by
 show (w.heap.push _)[w.heap.size]? = _
 simp
theorem Row.alloc {w : World} {b : Nat} {t : TypeId} {n : Nat} {f : Nat -> Nat} (h : Row w b t n f) (o : Obj) : Row (w.alloc o) b t n f := by
 have hb : b < w.heap.size := (Array.getElem?_eq_some_iff.1 h).1
 show (w.heap.push o)[b]? = _
 rw [Array.getElem?_push, if_neg (by omega)]
 exact h
theorem sizeA (w : World) (o : Obj) : (w.alloc o).heap.size = w.heap.size + 1 := by
 show (w.heap.push o).size = _
 simp
theorem Row.new1 (w : World) (o : Obj) (t : TypeId) (n : Nat) (f : Nat -> Nat) : Row ((w.alloc o).alloc (.cells (arrN n f) t)) (w.heap.size + 1) t n f := by
 rw [<- sizeA w o]
 exact Row.new _ _ _ _
theorem size_alloc2 (w : World) (o p : Obj) : ((w.alloc o).alloc p).heap.size = w.heap.size + 2 := by rw [sizeA, sizeA]
theorem below2 (w : World) (o p : Obj) : Below w.heap.size w ((w.alloc o).alloc p) := ((Below.refl _ _).alloc (Nat.le_refl _) _).alloc (by rw [sizeA]; omega) _
theorem step_loadRow {P : Program} {ops : Array Oper} {rest : List Oper} {op : Oper} {a : Act} {w : World} {Q : Exit -> Act -> World -> Prop} {x : Operand} (ty e : TypeId) (b n : Nat) {t : TypeId} {f : Nat -> Nat} (h : Row w b t n f) (hgd : op.guard = none) (ho : op.op = .load ty x) (hx : a.eval x = .pointer (some ⟨b, 0, none⟩))
  (hu : P.underlying ty = some (.array n e)) (hi : (P.info? ty).map (·.size) = some n) (hk : wpList P ops Q rest (a.put op.dst (.agg (arrN n f))) w) : wpList P ops Q (op :: rest) a w :=
 wpList_load_mid hgd ty x ho b 0 hx ((List.range n).map fun j => Value.int .u32 ((f j : Nat) : Int)) _ (fun j v hv => by
  rw [Nat.zero_add, cell_of_row w b j _ t _ h]
  simpa [arrN] using hv) hu rfl (by simpa using hi) hk
theorem step_storeRow {P : Program} {ops : Array Oper} {rest : List Oper} {op : Oper} {a : Act} {w : World} {Q : Exit -> Act -> World -> Prop} {x y : Operand} (ty : TypeId) (b n : Nat) {t : TypeId} {f : Nat -> Nat} (g : Nat -> Nat) (h : Row w b t n f) (hgd : op.guard = none) (hds : op.dst = none) (ho : op.op = .store ty x y) (hx : a.eval x = .pointer (some ⟨b, 0, none⟩)) (hy : a.eval y = .agg (arrN n g))
  (hi : (P.info? ty).map (·.size) = some n) (hk : ∀ W, Hid (W = w.setRow b (arrN n g)) -> wpList P ops Q rest a W) : wpList P ops Q (op :: rest) a w :=
 wpList_plain hgd fun _ hK => by
  have hs := Row.store (P := P) (ty := ty) (g := g) h hi
  unfold Oper.wp execOp
  simp only [ho, hx, hy, Instr.storeAt, Instr.sureAddr, Sem.run_bind, Sem.run_pure, Result.andThen_ok, hs]
  have hK' := hK _ _ (hk _ rfl)
  have hp : a.put op.dst undef = a := by rw [hds]; rfl
  rw [<- hp] at hK'
  exact hK'
def pw (bl : List UInt8) (i j : Nat) : Nat :=
 if 4 * j + 4 <= i then wordOf bl j
 else if i <= 4 * j then 0
 else if i = 4 * j + 1 then (bl.getD (4 * j) 0).toNat
 else if i = 4 * j + 2 then (bl.getD (4 * j) 0).toNat * 256 + (bl.getD (4 * j + 1) 0).toNat
 else (bl.getD (4 * j) 0).toNat * 65536 + (bl.getD (4 * j + 1) 0).toNat * 256 + (bl.getD (4 * j + 2) 0).toNat
theorem pw_zero (bl : List UInt8) (j : Nat) : pw bl 0 j = 0 := by
 unfold pw
 rw [if_neg (by omega), if_pos (by omega)]
theorem pw_other (bl : List UInt8) (i j : Nat) (h : j ≠ i / 4) : pw bl (i + 1) j = pw bl i j := by
 unfold pw
 by_cases h1 : 4 * j + 4 <= i
 ·rw [if_pos (by omega), if_pos h1]
 ·have h2 : i <= 4 * j /\ i + 1 <= 4 * j := by omega
  rw [if_neg (by omega), if_pos h2.2, if_neg h1, if_pos h2.1]
theorem pw_same (bl : List UInt8) (i : Nat) : pw bl (i + 1) (i / 4) = pw bl i (i / 4) % 16777216 * 256 + (bl.getD i 0).toNat := by
 have b0 := (bl.getD (4 * (i / 4)) 0).toNat_lt
 have b1 := (bl.getD (4 * (i / 4) + 1) 0).toNat_lt
 have b2 := (bl.getD (4 * (i / 4) + 2) 0).toNat_lt
 have hc : i = 4 * (i / 4) ∨ i = 4 * (i / 4) + 1 ∨ i = 4 * (i / 4) + 2 ∨ i = 4 * (i / 4) + 3 := by omega
 generalize hq : i / 4 = q at *
 unfold pw wordOf
 rcases hc with h | h | h | h <;> subst h
 ·rw [if_neg (by omega), if_neg (by omega), if_pos rfl, if_neg (by omega), if_pos (by omega)]; omega
 ·rw [if_neg (by omega), if_neg (by omega), if_neg (by omega), if_pos rfl, if_neg (by omega), if_neg (by omega), if_pos rfl]; omega
 ·rw [if_neg (by omega), if_neg (by omega), if_neg (by omega), if_neg (by omega), if_neg (by omega), if_neg (by omega), if_neg (by omega), if_pos rfl]; omega
 ·rw [if_pos (by omega), if_neg (by omega), if_neg (by omega), if_neg (by omega), if_neg (by omega)]; omega
theorem pw_lt (bl : List UInt8) (i j : Nat) : pw bl i j < 4294967296 := by
 have b0 := (bl.getD (4 * j) 0).toNat_lt
 have b1 := (bl.getD (4 * j + 1) 0).toNat_lt
 have b2 := (bl.getD (4 * j + 2) 0).toNat_lt
 have := wordOf_lt bl j
 unfold pw
 repeat' split
 all_goals omega
theorem shl8_or (x b : Nat) (hb : b < 256) : (x % 16777216 * 256) ||| b = x % 16777216 * 256 + b := by
 have := Nat.shiftLeft_add_eq_or_of_lt (b := b) (i := 8) (by simpa using hb) (x % 16777216)
 rw [Nat.shiftLeft_eq] at this
 exact this.symm
end Go.Proofs.YtlbjhibolcgnoaaGreatDoor
