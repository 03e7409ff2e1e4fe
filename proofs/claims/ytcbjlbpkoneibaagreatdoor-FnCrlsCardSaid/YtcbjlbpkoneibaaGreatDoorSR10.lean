/-
  Texts of the proof.
-/
import Derived.Deep.RegionLaw
import Derived.Test.YtcbjlbpkoneibaaGreatDoorSR9
set_option linter.unusedVariables false
set_option linter.unusedSimpArgs false
set_option maxRecDepth 100000
set_option maxHeartbeats 25600000
namespace Go.Proofs.YtcbjlbpkoneibaaGreatDoor
open Go.RowKit Der
def numN (n : Int) : Nat := if 0 <= n /\ n <= 1000000000 then n.toNat else 0
theorem numN_le (n : Int) : numN n <= 1000000000 := by unfold numN; split <;> omega
theorem res_cells {w W2 wr : World} {t : TypeId} (h2 : W2 = w.alloc (Obj.cells #[Value.int IntKind.i64 0, Value.string { data := #[] }, Value.slice none 0 0] t)) (hb : zW W2 wr) :
  (wr.cell? ⟨w.heap.size, 0, none⟩ = some (zI 0) /\ wr.cell? ⟨w.heap.size, 1, none⟩ = some (zG ⟨#[]⟩) /\ wr.cell? ⟨w.heap.size, 2, none⟩ = some zZ) /\ (∀ j, wr.frozen? ⟨w.heap.size, j, none⟩ = false) /\ zW w wr := by
 have h := one_laid w (zI 0) (zG ⟨#[]⟩) zZ t W2 h2;have hh : wr.heap[w.heap.size]? = some (.cells #[zI 0, zG ⟨#[]⟩, zZ] t (0, 0)) := by
  rw [hb.block _ h.2.1, h2];exact heap_alloc_new w _
 obtain ⟨a, b⟩ := cell_in hh;exact ⟨a, b, h.1.trans (hb.mono h.1.size)⟩
theorem specIntItem_any (n0 : Int) (w : World) (h64 : -9223372036854775808 <= n0 /\ n0 <= 9223372036854775807) : Calls Tryz.prog 104 #[zI n0] w fun e w' => e = .returned (.agg #[zI 2, zG ⟨(intT (numN n0)).toArray⟩, zZ]) /\ zW w w' := by
 by_cases hin : 0 <= n0 /\ n0 <= 1000000000
 ·obtain ⟨n, rfl⟩ : ∃ n : Nat, n0 = (n : Int) := ⟨n0.toNat, by omega⟩
  have hnn : numN (n : Int) = n := by unfold numN; rw [if_pos hin]; omega
  have hbl := beN_len 9 n;rw [hnn];clear hnn;go_enter Tryz.func104, Tryz.ntmps104;go_wp2_with fail;refine (in_yes (n : Int) 0 1000000000 _ (by omega) (by omega)).mono ?_;rintro e w' ⟨rfl, rfl⟩;go_wp2_with fail;obtain ⟨W2, hW2⟩ : ∃ W, W = w.alloc (Obj.cells #[Value.int IntKind.i64 0, Value.string { data := #[] }, Value.slice none 0 0] 50) := ⟨_, rfl⟩;rw [<- hW2];have HW : Hid (W2 = w.alloc (Obj.cells #[Value.int IntKind.i64 0, Value.string { data := #[] }, Value.slice none 0 0] 50)) := hW2;clear hW2
  go_loopw [3, 0] (fun sv kv wr => ∃ (m : Nat) (ds : List UInt8), m <= n /\ kv = zI (m : Int) /\ sv = zG ⟨ds.toArray⟩ /\ Hid (∃ f, m < 256 ^ f /\ beN f m ++ ds = beN 9 n) /\ Hid (zW W2 wr)) (fun _ kv _ => (intOf kv).toNat)
  case atStart => exact ⟨n, [], Nat.le_refl _, rfl, rfl, ⟨9, by omega, by simp⟩, Below.refl _ _⟩
  case round =>
   obtain ⟨m, ds, hm, rfl, rfl, HD, HB⟩ := hrel;have hdl : ds.length <= 9 := by
    obtain ⟨f, _, hf⟩ := HD.out;have := congrArg List.length hf;rw [List.length_append] at this;omega
   by_cases hm0 : m = 0
   ·subst hm0
    have HF : Hid (ds = beN 9 n) := by
     obtain ⟨f, _, hf⟩ := HD.out;rw [beN_nil, List.nil_append] at hf;exact hf
    obtain ⟨⟨c0, c1, c2⟩, fz, hbw⟩ := res_cells HW.out HB.out;have HBW : Hid (zW w wr) := hbw;clear hbw
    cases ds with
    | nil =>
     have HR : Hid (intT n = [0]) := by
      show intT n = [0];unfold intT;rw [<- HF.out]
      decide
     go_wp2_with fail;refine bodyPost_ret (v := .agg #[zI 2, zG ⟨#[0]⟩, zZ]) (by simp [results, Tryz.results104, go_sem, c0, c1, c2]; try rfl) rfl ⟨by rw [HR.out], ?_⟩;exact ((HBW.setCell (p := ⟨w.heap.size, 0, none⟩) (Nat.le_refl _) _).setCell (p := ⟨w.heap.size, 1, none⟩) (Nat.le_refl _) _).setCell (p := ⟨w.heap.size, 2, none⟩) (Nat.le_refl _) _
    | cons b r =>
     have hg0 : ∀ h, (⟨(b :: r).toArray⟩ : ByteArray)[0]'h = b := fun h => rfl
     have hcat : (⟨#[0]⟩ : ByteArray) ++ ⟨(b :: r).toArray⟩ = ⟨(0 :: b :: r).toArray⟩ := by apply ByteArray.ext; simp
     by_cases hb : 128 <= b.toNat
     ·have hbi : (128 : Int) <= (b.toNat : Int) := by omega
      have HR : Hid (intT n = 0 :: b :: r) := by
       show intT n = 0 :: b :: r;unfold intT;rw [<- HF.out, if_pos (.inr (UInt8.le_iff_toNat_le.2 hb))]
      have ra := fun W => run_string_add_sum (P := Tryz.prog) W ⟨#[0]⟩ ⟨(b :: r).toArray⟩ (by show 1 + (b :: r).toArray.size <= _; simp at hdl |-; omega)
      go_wp2_with fail;refine bodyPost_ret (v := .agg #[zI 2, zG ⟨(0 :: b :: r).toArray⟩, zZ]) (by simp [results, Tryz.results104, go_sem, c0, c1, c2]; try rfl) rfl ⟨by rw [HR.out], ?_⟩;exact ((HBW.setCell (p := ⟨w.heap.size, 0, none⟩) (Nat.le_refl _) _).setCell (p := ⟨w.heap.size, 1, none⟩) (Nat.le_refl _) _).setCell (p := ⟨w.heap.size, 2, none⟩) (Nat.le_refl _) _
     ·have hbi : ¬ (128 : Int) <= (b.toNat : Int) := by omega
      have HR : Hid (intT n = b :: r) := by
       show intT n = b :: r;unfold intT;rw [<- HF.out, if_neg];intro h
       rcases h with h | h
       ·simp at h
       ·exact hb (UInt8.le_iff_toNat_le.1 h)
      go_wp2_with fail;refine bodyPost_ret (v := .agg #[zI 2, zG ⟨(b :: r).toArray⟩, zZ]) (by simp [results, Tryz.results104, go_sem, c0, c1, c2]; try rfl) rfl ⟨by rw [HR.out], ?_⟩;exact ((HBW.setCell (p := ⟨w.heap.size, 0, none⟩) (Nat.le_refl _) _).setCell (p := ⟨w.heap.size, 1, none⟩) (Nat.le_refl _) _).setCell (p := ⟨w.heap.size, 2, none⟩) (Nat.le_refl _) _
   ·have hmp : (0 : Int) < (m : Int) := by omega
    have hcv := conv_byte ((m : Int) % 256) (UInt8.ofNat (m % 256)) (by rw [UInt8.toNat_ofNat']; omega);have HS : Hid (∃ g, m / 256 < 256 ^ g /\ beN g (m / 256) ++ (UInt8.ofNat (m % 256) :: ds) = beN 9 n) := by
     obtain ⟨f, h1, h2⟩ := HD.out;exact beN_step h2 hm0 h1
    go_wp2_with fail
    go_roundw
    case rel => exact ⟨m / 256, UInt8.ofNat (m % 256) :: ds, by omega, by go_num, by rw [cat_oneM], HS.out, HB.alloc HB.size _⟩
    case measure => simp [intOf]; omega
 ·have hnn : numN n0 = 0 := by unfold numN; rw [if_neg hin]
  have HR : Hid (intT (numN n0) = [0]) := by show intT (numN n0) = [0]; rw [hnn]; decide
  clear hnn;go_enter Tryz.func104, Tryz.ntmps104;go_wp2_with fail;refine (in_no n0 0 1000000000 _ (by omega)).mono ?_;rintro e w' ⟨rfl, rfl⟩;go_wp2_with fail;obtain ⟨W2, hW2⟩ : ∃ W, W = w.alloc (Obj.cells #[Value.int IntKind.i64 0, Value.string { data := #[] }, Value.slice none 0 0] 50) := ⟨_, rfl⟩;rw [<- hW2];obtain ⟨⟨c0, c1, c2⟩, fz, hbw⟩ := res_cells hW2 (Below.refl _ _);have HBW : Hid (zW w W2) := hbw;clear hW2 hbw
  go_loopw [3, 0] (fun sv kv wr => kv = zI 0 /\ sv = zG ⟨#[]⟩ /\ wr = W2) (fun _ kv _ => 0)
  case atStart => exact ⟨rfl, rfl, rfl⟩
  case round =>
   obtain ⟨rfl, rfl, rfl⟩ := hrel;go_wp2_with fail;refine bodyPost_ret (v := .agg #[zI 2, zG ⟨#[0]⟩, zZ]) (by simp [results, Tryz.results104, go_sem, c0, c1, c2]; try rfl) rfl ⟨by rw [HR.out], ?_⟩;exact ((HBW.setCell (p := ⟨w.heap.size, 0, none⟩) (Nat.le_refl _) _).setCell (p := ⟨w.heap.size, 1, none⟩) (Nat.le_refl _) _).setCell (p := ⟨w.heap.size, 2, none⟩) (Nat.le_refl _) _
def inI : (n : Nat) -> It n -> Option Nat
 | 0, _ => none
 | n + 1, x => if It.tag x = 2 /\ rightI (n + 1) x 0 = true /\ valB8 (It.text x) <= 1000000000 then some (valB8 (It.text x)) else none
theorem valB8_take {s : List UInt8} {k : Nat} (h : k < s.length) : valB8 (s.take (k + 1)) = 256 * valB8 (s.take k) + s[k].toNat := by
 rw [<- List.take_append_getElem h, valB8_snoc]
theorem valB8_lt : ∀ (k : Nat) (s : List UInt8), s.length = k -> valB8 s < 256 ^ k := by
 intro k
 induction k with
 | zero => intro s h; rw [List.eq_nil_of_length_eq_zero h]; decide
 | succ k ih =>
  intro s h;obtain ⟨l, b, rfl⟩ : ∃ l b, s = l ++ [b] := ⟨s.dropLast, s.getLast (fun e => by rw [e] at h; simp at h), (List.dropLast_concat_getLast _).symm⟩;have h1 := ih l (by simpa using h);have h2 := b.toNat_lt;rw [valB8_snoc, Nat.pow_succ];omega
theorem specIntIn_step (n : Nat) (t : Int) (s : List UInt8) (ks : List (It n)) (a : Value) (w : World) (hx : KidsAt w (ItAt w n) a ks) (hz : szI (n + 1) (It.mk t s ks) <= 20000000) :
  Calls Tryz.prog 37 #[.agg #[zI t, zG ⟨s.toArray⟩, a]] w fun e w' => e = .returned (.tuple #[zI (((inI (n + 1) (It.mk t s ks)).getD 0 : Nat) : Int), .bool (inI (n + 1) (It.mk t s ks)).isSome]) /\ zW w w' := by
 have hx0 := hx;obtain ⟨ax, cx, rfl, _⟩ := hx0;obtain ⟨l, hle⟩ := zE (ks.length);rw [hle] at hx |-;have HX : Hid (ItAt w (n + 1) (.agg #[zI t, zG ⟨s.toArray⟩, zS ax l cx]) (It.mk t s ks) /\ szI (n + 1) (It.mk t s ks) <= 20000000) := ⟨⟨_, rfl, hx⟩, hz⟩;have HN : Hid (inI (n + 1) (It.mk t s ks) = if t = 2 /\ rightI (n + 1) (It.mk t s ks) 0 = true /\ valB8 s <= 1000000000 then some (valB8 s) else none) := rfl;obtain ⟨W2, hW2⟩ : ∃ W, W = w.alloc (Obj.cells #[Value.int IntKind.i64 t, Value.string { data := s.toArray }, Value.slice ax l cx] 50) := ⟨_, rfl⟩;have HW := one_laid w (zI t) (zG ⟨s.toArray⟩) (zS ax l cx) 50 W2 hW2;have HC : Hid (zW w W2 /\ w.heap.size < W2.heap.size /\ Cells3 W2 w.heap.size 0 (zI t) (zG ⟨s.toArray⟩) (zS ax l cx)) := by exact ⟨HW.1, HW.2.1, HW.2.2⟩
 clear hx hz HW hle;by_cases h2 : t = 2
 ·subst h2
  have E := specItemOk_any (n + 1) (It.mk 2 s ks) _ W2 (ItAt.below HC.1 HX.1) HX.2
  cases hr : rightI (n + 1) (It.mk 2 s ks) 0 with
  | false =>
   rw [hr] at E;have HR : Hid (inI (n + 1) (It.mk 2 s ks) = none) := by
    show inI (n + 1) (It.mk 2 s ks) = none;rw [HN.out, hr];simp
   clear hr;go_enter Tryz.func37, Tryz.ntmps37;go_wp2_with fail;rw [<- hW2];refine E.mono ?_;rintro e w3 ⟨rfl, hb3⟩;have H3 : Hid (zW w w3) := HC.1.trans (hb3.mono HC.1.size);clear E hb3 hW2;go_wp2_with fail
   go_ret2
   exact ⟨by rw [HR.out]; rfl, H3.out⟩
  | true =>
   rw [hr] at E;have hpl : plainOk 2 s = true := by
    have h : rightI (n + 1) (It.mk 2 s ks) 0 = (if (2 : Int) ≠ 48 then decide (ks.length = 0) && plainOk 2 s else _) := rfl;rw [hr, if_pos (by decide)] at h;have := h.symm;rw [Bool.and_eq_true] at this;exact this.2
   have hl5 : s.length <= 5 := by
    unfold plainOk at hpl;rw [if_neg (by decide), if_pos rfl] at hpl;simp only [Bool.and_eq_true, decide_eq_true_eq] at hpl;exact hpl.1.1.2
   have HR : Hid (inI (n + 1) (It.mk 2 s ks) = if valB8 s <= 1000000000 then some (valB8 s) else none) := by
    show inI (n + 1) (It.mk 2 s ks) = _;rw [HN.out, hr];simp
   clear hr hpl;have hssz : (⟨s.toArray⟩ : ByteArray).size = s.length := by show s.toArray.size = _; simp
   go_enter Tryz.func37, Tryz.ntmps37;go_wp2_with fail;rw [<- hW2];refine E.mono ?_;rintro e w3 ⟨rfl, hb3⟩;obtain ⟨c0, c1, c2⟩ := HC.2.2.below HC.2.1 hb3;have H3 : Hid (zW w w3) := HC.1.trans (hb3.mono HC.1.size);clear E hb3 hW2 c0 c2;rw [show (0 : Nat) + 1 = 1 from rfl] at c1;go_wp2_with fail
   go_loopw [4, 5] (fun nv iv wr => ∃ (k q : Nat), k <= s.length /\ nv = zI (q : Int) /\ iv = zI (k : Int) /\ q < 1099511627776 /\ wr = w3 /\ Hid (q = valB8 (s.take k))) (fun _ iv _ => s.length - (intOf iv).toNat)
   case atStart => exact ⟨0, 0, Nat.zero_le _, rfl, rfl, by omega, rfl, rfl⟩
   case round =>
    obtain ⟨k, q, hk, rfl, rfl, hq, rfl, HQ⟩ := hrel;by_cases hlt : k < s.length
    ·have hlti : (k : Int) < (s.length : Int) := by omega
     have hk0 : (0 : Int) <= (k : Int) := by omega
     obtain ⟨b, hbk⟩ := zE (s[k]);have hgk : ∀ h, (⟨s.toArray⟩ : ByteArray)[k]'h = b := fun h => by rw [<- hbk]; rfl
     have hbl := b.toNat_lt;have hvt := valB8_take hlt;rw [hbk, <- HQ.out] at hvt;have hv := valB8_lt (k + 1) (s.take (k + 1)) (by rw [List.length_take]; omega);have hpw : (256 : Nat) ^ (k + 1) <= 256 ^ 5 := Nat.pow_le_pow_right (by decide) (by omega);rw [hvt] at hv;have hq2 : 256 * q + b.toNat < 1099511627776 := by
      have : (256 : Nat) ^ 5 = 1099511627776 := by decide
      omega
     have w1 : IntKind.i64.wrap (256 * (q : Int)) = ((256 * q : Nat) : Int) := by rw [IntKind.wrap_i64]; omega
     have w2 : IntKind.i64.wrap (256 * (q : Int) + (b.toNat : Int)) = ((256 * q + b.toNat : Nat) : Int) := by rw [IntKind.wrap_i64]; omega
     have w3' : IntKind.i64.wrap (b.toNat : Int) = (b.toNat : Int) := by rw [IntKind.wrap_i64]; omega
     have HV : Hid (256 * q + b.toNat = valB8 (s.take (k + 1))) := hvt.symm;clear hbk hvt hv hpw HQ;go_wp2_with fail
     go_roundw
     case rel => exact ⟨k + 1, 256 * q + b.toNat, by omega, by go_num, by go_num, hq2, by trivial, HV.out⟩
     case measure => simp [intOf]; omega
    ·have hlti : ¬ (k : Int) < (s.length : Int) := by omega
     have HV : Hid (q = valB8 s) := by
      have h := HQ.out;rw [List.take_of_length_le (by omega)] at h;exact h
     by_cases hle : q <= 1000000000
     ·have hlei : ¬ (1000000000 : Int) < (q : Int) := by omega
      have HR2 : Hid (inI (n + 1) (It.mk 2 s ks) = some q) := by
       show inI (n + 1) (It.mk 2 s ks) = some q;rw [HR.out, <- HV.out, if_pos hle]
      go_wp2_with fail
      go_ret2
      exact ⟨by rw [HR2.out]; rfl, H3.out⟩
     ·have hlei : (1000000000 : Int) < (q : Int) := by omega
      have HR2 : Hid (inI (n + 1) (It.mk 2 s ks) = none) := by
       show inI (n + 1) (It.mk 2 s ks) = none;rw [HR.out, <- HV.out, if_neg hle]
      go_wp2_with fail
      go_ret2
      exact ⟨by rw [HR2.out]; rfl, H3.out⟩
 ·have h2b : (t != 2) = true := by simpa using h2
  have HR : Hid (inI (n + 1) (It.mk t s ks) = none) := by
   show inI (n + 1) (It.mk t s ks) = none;rw [HN.out, if_neg (fun h => h2 h.1)]
  go_enter Tryz.func37, Tryz.ntmps37;go_wp2_with fail
  go_ret2
  exact ⟨by rw [HR.out]; rfl, (one_laid w (zI t) (zG ⟨s.toArray⟩) (zS ax l cx) 50 _ rfl).1⟩
theorem specIntIn_any : ∀ (n : Nat) (x : It n) (v : Value) (w : World), ItAt w n v x -> szI n x <= 20000000 -> Calls Tryz.prog 37 #[v] w fun e w' => e = .returned (.tuple #[zI (((inI n x).getD 0 : Nat) : Int), .bool (inI n x).isSome]) /\ zW w w'
 | 0, _, _, _, h, _ => h.elim
 | n + 1, x, v, w, hx, hz => by
  obtain ⟨kx, rfl, hkx⟩ := hx;exact specIntIn_step n (It.tag x) (It.text x) (It.kids x) kx w hkx hz
end Go.Proofs.YtcbjlbpkoneibaaGreatDoor
namespace Go.Proofs.YtcbjlbpkoneibaaGreatDoor
open Go.RowKit Der
def Blk3 (w : World) (g : Nat) (a b c : Value) : Prop := w.heap[g]? = some (.cells #[a, b, c] 50 (0, 0))
theorem Blk3.lt {w : World} {g : Nat} {a b c : Value} (h : Blk3 w g a b c) : g < w.heap.size := by
 rcases Nat.lt_or_ge g w.heap.size with h' | h'
 ·exact h'
 ·unfold Blk3 at h; rw [Array.getElem?_eq_none h'] at h; cases h
theorem Blk3.below {w w' : World} {g : Nat} {a b c : Value} (h : Blk3 w g a b c) (hb : zW w w') : Blk3 w' g a b c := (hb.block g h.lt).trans h
theorem Blk3.grown {w w' : World} {g : Nat} {a b c : Value} {row : Option Nat} (h : Blk3 w g a b c) (hg : w.grownBy w' row) (hne : some g ≠ row) : Blk3 w' g a b c := (hg.block g h.lt hne).trans h
theorem Blk3.other {w : World} {g : Nat} {a b c : Value} (h : Blk3 w g a b c) {p : Addr} (hne : g ≠ p.block) (v : Value) : Blk3 (w.setCell p v) g a b c := (heap_setCell_other _ _ _ _ hne).trans h
theorem Blk3.set {w : World} {g : Nat} {a b c : Value} (h : Blk3 w g a b c) (v : Value) : Blk3 (w.setCell ⟨g, 2, none⟩ v) g a b v := by
 unfold Blk3 at h |-;rw [heap_setCell_same w g 2 _ _ _ h];rfl
theorem two_blk (w : World) (p q r : Value) (x y z : Value) : ∀ W, W = (w.alloc (Obj.cells #[p, q, r] 50)).alloc (Obj.cells #[x, y, z] 50) -> zW w W /\ W.heap.size = w.heap.size + 2 /\ Blk3 W w.heap.size p q r /\ Blk3 W (w.heap.size + 1) x y z := by
 rintro W rfl;have e : (w.alloc (Obj.cells #[p, q, r] 50)).heap.size = w.heap.size + 1 := Array.size_push _;refine ⟨((Below.refl _ _).alloc (Nat.le_refl _) _).alloc (by rw [e]; omega) _, ?_, ?_, ?_⟩
 ·rw [show ((w.alloc (Obj.cells #[p, q, r] 50)).alloc (Obj.cells #[x, y, z] 50)).heap.size = (w.alloc (Obj.cells #[p, q, r] 50)).heap.size + 1 from Array.size_push _, e]
 ·show ((w.heap.push (Obj.cells #[p, q, r] 50)).push (Obj.cells #[x, y, z] 50))[w.heap.size]? = _
  rw [Array.getElem?_push, if_neg (by rw [Array.size_push]; omega), Array.getElem?_push, if_pos rfl]
 ·have h := heap_alloc_new (w.alloc (Obj.cells #[p, q, r] 50)) (Obj.cells #[x, y, z] 50)
  rw [e] at h;exact h
theorem GrowK.out {w w' : World} {base n : Nat} {v : Value} {ks : List (It (n + 1))} (h : GrowK w base n v ks) (he : ∀ b, base <= b -> w'.heap[b]? = w.heap[b]?) : GrowK w' base n v ks := by
 obtain ⟨kvs, fps, h1, h2, ho, h3, h4, h5⟩ := h;refine ⟨kvs, fps, h1, h2, ⟨ho.1, ?_⟩, h3, h4, fun j a b c => ?_⟩
 ·rcases ho.2 with hn | ⟨g, cap, cur, hv, hb, hg, rest⟩
  ·exact .inl hn
  ·exact .inr ⟨g, cap, cur, hv, hb, by rw [he g hb]; exact hg, rest⟩
 ·have := h5 j a b c
  exact this.same fun x hx => he x (OwnK.lt this x hx).1
def intI {n : Nat} (x : Int) : It (n + 1) := It.mk 2 (intT (numN x)) []
def txtJ {n : Nat} (s : ByteArray) : It (n + 1) := It.mk 12 s.data.toList []
def bytJ {n : Nat} (s : ByteArray) : It (n + 1) := It.mk 4 s.data.toList []
def lstJ {n : Nat} (ks : List (It n)) : It (n + 1) := It.mk 48 [] ks
theorem bytes_any (s : ByteArray) (w : World) : Calls Tryz.prog 76 #[zG s] w fun e w' => e = .returned (.agg #[zI 4, zG s, zZ]) /\ zW w w' := by
 go_enter Tryz.func76, Tryz.ntmps76;go_wp2_with fail;refine bodyPost_ret (v := .agg #[zI 4, zG s, zZ]) (by simp [results, Tryz.results76, go_sem]; try rfl) rfl ⟨rfl, ?_⟩;exact (Below.refl _ _).alloc (Nat.le_refl _) _
theorem own_none (w : World) (base : Nat) : ∀ n, OwnK w base n zZ [] []
 | 0 => ⟨⟨none, 0, rfl⟩, rfl⟩
 | _ + 1 => ⟨none, 0, rfl, fun _ => rfl, fun h => absurd h (Nat.lt_irrefl _)⟩
theorem both_below {wr w3 : World} {g h o : Nat} {kv t : Value} (hc : wr.cell? ⟨g, 2, none⟩ = some kv /\ wr.cell? ⟨h, o, none⟩ = some t) (hg : g < wr.heap.size) (hh : h < wr.heap.size) (hb : zW wr w3) : w3.cell? ⟨g, 2, none⟩ = some kv /\ w3.cell? ⟨h, o, none⟩ = some t :=
 ⟨(hb.cell (p := ⟨g, 2, none⟩) hg).trans hc.1, (hb.cell (p := ⟨h, o, none⟩) hh).trans hc.2⟩
theorem both_grown {w5 w6 : World} {g h o : Nat} {kv t : Value} {row : Option Nat} (hc : w5.cell? ⟨g, 2, none⟩ = some kv /\ w5.cell? ⟨h, o, none⟩ = some t) (hg : w5.grownBy w6 row) (n1 : some g ≠ row) (n2 : some h ≠ row) : w6.cell? ⟨g, 2, none⟩ = some kv /\ w6.cell? ⟨h, o, none⟩ = some t :=
 ⟨hg.cell hc.1 n1, hg.cell hc.2 n2⟩
theorem ints_any (n : Nat) (ls : List Int) (v : Value) (w : World) (hz : ls.length <= 20000000) (hwd : Wd ls) (hx : IntAt w v ls) :
  Calls Tryz.prog 102 #[v] w fun e w' => ToIt w (n + 1) (lstJ (ls.map intI)) e w' := by
 obtain ⟨ax, cx, rfl, hcell⟩ := hx.each;obtain ⟨l, hle⟩ := zE (ls.length);have HX : Hid ((∀ j, j < ls.length -> ∃ g, ax = some ⟨g, 0, none⟩ /\ g < w.heap.size /\ w.cell? ⟨g, j, none⟩ = some (zI (ls.getD j 0))) /\ ls.length = l /\ Wd ls) := ⟨hcell, hle, hwd⟩;have hlb : l <= 20000000 := by rw [<- hle]; exact hz
 rw [hle];clear hx hz hle hcell hwd;obtain ⟨ks, hks⟩ : ∃ ks : List (It (n + 1)), ls.map intI = ks := ⟨_, rfl⟩;rw [hks];have HK0 : Hid (ls.map intI = ks /\ ks.length = l) := ⟨hks, by rw [<- hks, List.length_map]; exact HX.2.1⟩;clear hks;go_enter Tryz.func102, Tryz.ntmps102;go_wp2_with fail;obtain ⟨W3, hW3⟩ : ∃ W, W = (w.alloc (Obj.cells #[Value.int IntKind.i64 0, Value.string { data := #[] }, Value.slice none 0 0] 50)).alloc (Obj.cells #[Value.int IntKind.i64 48, Value.string { data := #[] }, Value.slice none 0 0] 50) := ⟨_, rfl⟩;rw [<- hW3];have H3 : Hid (zW w W3 /\ W3.heap.size = w.heap.size + 2 /\ Blk3 W3 w.heap.size (zI 0) (zG ⟨#[]⟩) zZ /\ Blk3 W3 (w.heap.size + 1) (zI 48) (zG ⟨#[]⟩) zZ) := two_blk w _ _ _ _ _ _ W3 hW3;clear hW3
 go_loopw [4] (fun iv wr => ∃ k : Nat, k <= l /\ iv = zI k /\ Hid (∃ kv : Value, Blk3 wr w.heap.size (zI 0) (zG ⟨#[]⟩) zZ /\ Blk3 wr (w.heap.size + 1) (zI 48) (zG ⟨#[]⟩) kv /\ GrowK wr (w.heap.size + 2) n kv (ks.take k) /\ zW w wr /\ w.heap.size + 2 <= wr.heap.size)) (fun iv _ => l - (intOf iv).toNat)
 case atStart => exact ⟨0, Nat.zero_le _, rfl, _, H3.2.2.1, H3.2.2.2, GrowK.nil _ _ _, H3.1, by rw [H3.2.1]; exact Nat.le_refl _⟩
 case round =>
  obtain ⟨k, hk, rfl, HR⟩ := hrel;obtain ⟨kv, hr1, hr2, hrG, hrB, hrs⟩ := HR.out;have HK : Hid (Blk3 wr w.heap.size (zI 0) (zG ⟨#[]⟩) zZ /\ Blk3 wr (w.heap.size + 1) (zI 48) (zG ⟨#[]⟩) kv /\ GrowK wr (w.heap.size + 2) n kv (ks.take k) /\ zW w wr /\ w.heap.size + 2 <= wr.heap.size) := ⟨hr1, hr2, hrG, hrB, hrs⟩;clear HR hr1 hr2 hrG hrB hrs H3;by_cases hlt : k < l
  ·have hlti : (k : Int) < (l : Int) := by omega
   have hk0 : (0 : Int) <= (k : Int) := by omega
   have hj0 : k < ls.length := by rw [HX.2.1]; exact hlt
   have hj1 : k < ks.length := by rw [HK0.2]; exact hlt
   obtain ⟨g1, hax, hg1, hc1⟩ := HX.1 k hj0;have c10 : wr.cell? ⟨g1, k, none⟩ = some (zI (ls.getD k 0)) := (HK.2.2.2.1.cell (p := ⟨g1, k, none⟩) hg1).trans hc1;have hm : (ls.getD k 0) ∈ ls := by rw [List.getD_eq_getElem?_getD, List.getElem?_eq_getElem hj0]; exact List.getElem_mem _
   obtain ⟨x, hxe⟩ := zE ((ls.getD k 0));rw [hxe] at c10 hm;have hkx : ks[k] = intI x := by
    rw [<- hxe];have h := HK0.1;subst h;simp [List.getD, hj0]
   have E := specIntItem_any x wr.drew (HX.2.2 x hm);obtain ⟨s3, hs3⟩ : ∃ s3 : ByteArray, (⟨(intT (numN x)).toArray⟩ : ByteArray) = s3 := ⟨_, rfl⟩;have HT : Hid (It.tag ks[k] = 2 /\ (⟨(It.text ks[k]).toArray⟩ : ByteArray) = s3 /\ It.kids ks[k] = []) := by
    rw [hkx];exact ⟨rfl, hs3, rfl⟩
   have E3 : Calls Tryz.prog 104 #[zI x] wr.drew fun e w' => e = .returned (.agg #[zI 2, zG s3, zZ]) /\ zW wr w' := by
    refine E.mono ?_;rintro e w' ⟨rfl, hb⟩;exact ⟨by rw [<- hs3], (Below.refl wr.heap.size wr).drew.trans hb⟩
   obtain ⟨⟨_, _, y2⟩, fy⟩ := cell_in HK.2.1;have htl : (ks.take k).length = k := by rw [List.length_take]; omega
   have HG1 : Hid (g1 < w.heap.size) := hg1;have HNE : Hid (∀ q, q < w.heap.size + 2 -> some q ≠ kv.ownBlock) := fun q hq e => by have := (HK.2.2.1.lt q e.symm).1; omega
   subst hax;clear hc1 hg1 hxe hkx hm E hs3;go_wp2_with fail;have hcs : wr.cell? ⟨w.heap.size + 1, 2, none⟩ = some kv /\ wr.cell? ⟨g1, k, none⟩ = some (zI x) := ⟨y2, c10⟩
   go_region_law (first
    | (refine step_call rfl 104 _ _ rfl #[.int .i64 x] rfl (by kernel_rfl) ?_; refine E3.mono ?_; rintro e w3 ⟨rfl, hb3⟩; have ho3 : OwnK w3 wr.heap.size n (.slice none 0 0) (It.kids ks[k]) [] := (by rw [HT.2.2]; exact own_none _ _ _); have hc3 := both_below hcs (by have := HK.2.2.2.2; omega) (by have := HG1.out; have := HK.2.2.2.1.size; omega) hb3; have hy3 := hc3.1; have hc4 := fun o => both_below hcs (by have := HK.2.2.2.2; omega) (by have := HG1.out; have := HK.2.2.2.1.size; omega) (hb3.alloc hb3.size o); have hy4 := fun o => (hc4 o).1; clear hc3; dsimp only)
    | (refine step_append_item0 rfl _ _ rfl (w.heap.size + 2) n kv (ks.take k) ks[k] 2 s3 (.slice none 0 0) [] HT.1 HT.2.1 rfl _ rfl rfl HK.2.2.1 hb3 ho3 HK.2.2.2.2 (by omega) ?_; intro g cap w6 hG6 hgrow6; have hy6 := (both_grown (hc4 _) hgrow6 (HNE.out _ (by omega)) (HNE.out _ (by have := HG1.out; omega))).1; have fz6 := (cell_in ((HK.2.1.below (hb3.alloc hb3.size _)).grown hgrow6 (HNE.out _ (by omega)))).2))
   all_goals (
    have H6 : Hid (Blk3 w6 w.heap.size (zI 0) (zG ⟨#[]⟩) zZ /\ Blk3 w6 (w.heap.size + 1) (zI 48) (zG ⟨#[]⟩) kv /\ GrowK w6 (w.heap.size + 2) n (zS (some ⟨g, 0, none⟩) (k + 1) cap) (ks.take (k + 1)) /\ zW w w6 /\ w.heap.size + 2 <= w6.heap.size) := by
     have hb5 := hb3.alloc hb3.size (Obj.cells #[Value.int IntKind.i64 2, Value.string s3, Value.slice none 0 0] 50);have hbw := HK.2.2.2.1.trans (hb5.mono HK.2.2.2.1.size);have e := List.take_append_getElem hj1;rw [htl, e] at hG6;exact ⟨(HK.1.below hb5).grown hgrow6 (HNE.out _ (by omega)), (HK.2.1.below hb5).grown hgrow6 (HNE.out _ (by omega)), hG6, hbw.grown hgrow6 hbw.size (fun q hq => by have := (HK.2.2.1.lt q hq).1; omega), Nat.le_trans HK.2.2.2.2 (Nat.le_trans hb5.size hgrow6.size)⟩
    clear hG6 hgrow6 hy6 fz6 hy3 hc4 hy4 ho3 hb3 hcs y2 c10 E3;go_wp2_with fail;refine ⟨⟨k + 1, by omega, by go_num, zS (some ⟨g, 0, none⟩) (k + 1) cap, ?_, ?_, ?_, ?_, ?_⟩, by simp [intOf]; omega⟩
    ·exact H6.1.other (by show w.heap.size ≠ w.heap.size + 1; omega) _
    ·exact H6.2.1.set _
    ·exact H6.2.2.1.out fun b hb => heap_setCell_other _ _ _ _ (by show b ≠ w.heap.size + 1; omega)
    ·exact H6.2.2.2.1.setCell (p := ⟨w.heap.size + 1, 2, none⟩) (by show w.heap.size <= w.heap.size + 1; omega) _
    ·exact Nat.le_trans H6.2.2.2.2 (((Below.refl 0 w6).setCell (p := ⟨w.heap.size + 1, 2, none⟩) (Nat.zero_le _) _).size))
  ·have hlti : ¬ (k : Int) < (l : Int) := by omega
   obtain ⟨⟨q0, q1, q2⟩, _⟩ := cell_in HK.2.1;obtain ⟨⟨r0, r1, r2⟩, rf⟩ := cell_in HK.1;have HE : Hid (∃ fp, OwnK wr (w.heap.size + 2) (n + 1) kv ks fp) := by
    have h := HK.2.2.1;rw [List.take_of_length_le (by have := HK0.2; omega)] at h;exact h.own
   obtain ⟨axe, cape, hkv⟩ := HK.2.2.1.shape;obtain ⟨le, hle⟩ := zE ((ks.take k).length);rw [hle] at hkv;subst hkv;clear hle;go_wp2_with fail;refine bodyPost_ret (v := .agg #[zI 48, zG ⟨#[]⟩, zS axe le cape]) (by simp [results, Tryz.results102, go_sem, r0, r1, r2]; try rfl) rfl ?_;obtain ⟨fp, hfp⟩ := HE.out;refine ⟨zS axe le cape, fp, rfl, ?_, ?_⟩
   ·refine OwnK.base (base := w.heap.size + 2) (by omega) (hfp.same fun b hb => ?_)
    have h1 := (OwnK.lt hfp b hb).1;rw [heap_setCell_other _ _ _ _ (by show b ≠ w.heap.size; omega), heap_setCell_other _ _ _ _ (by show b ≠ w.heap.size; omega), heap_setCell_other _ _ _ _ (by show b ≠ w.heap.size; omega)]
   ·exact ((HK.2.2.2.1.setCell (p := ⟨w.heap.size, 0, none⟩) (Nat.le_refl _) _).setCell (p := ⟨w.heap.size, 1, none⟩) (Nat.le_refl _) _).setCell (p := ⟨w.heap.size, 2, none⟩) (Nat.le_refl _) _
def RowsK (W : World) (b n : Nat) : List (It (n + 1)) -> List Value -> List (List Nat) -> Prop
 | [], [], [] => True
 | x :: ks, v :: kvs, fp :: fps => OwnK W b n v (It.kids x) fp /\ RowsK W b n ks kvs fps
 | _, _, _ => False
theorem RowsK.each {W : World} {b n : Nat} : ∀ {ks : List (It (n + 1))} {kvs : List Value} {fps : List (List Nat)}, RowsK W b n ks kvs fps -> ks.length = kvs.length /\ ks.length = fps.length /\ ∀ j (h1 : j < ks.length) (h2 : j < kvs.length) (h3 : j < fps.length), OwnK W b n kvs[j] (It.kids ks[j]) fps[j]
 | [], [], [], _ => ⟨rfl, rfl, fun j h => absurd h (Nat.not_lt_zero _)⟩
 | [], _ :: _, _, h => h.elim
 | [], [], _ :: _, h => h.elim
 | _ :: _, [], _, h => h.elim
 | _ :: _, _ :: _, [], h => h.elim
 | x :: ks, v :: kvs, fp :: fps, ⟨h, r⟩ => by
  obtain ⟨h1, h2, h3⟩ := RowsK.each r;refine ⟨by simp [h1], by simp [h2], fun j a b c => ?_⟩
  cases j with
  | zero => exact h
  | succ j => exact h3 j (by simpa using a) (by simpa using b) (by simpa using c)
theorem RowsK.grow {W W' : World} {b n cap : Nat} {ks : List (It (n + 1))} {kvs : List Value} {fps : List (List Nat)} (h : RowsK W b n ks kvs fps) (hb : b <= W.heap.size) (hnd : fps.flatten.Nodup) (hl : ks.length <= 1000) (hc : cap = ks.length)
  (hW : W' = W.alloc (.cells (cellsK ks kvs).toArray 50)) : GrowK W' b n (zS (some ⟨W.heap.size, 0, none⟩) cap cap) ks := by
 subst hc;obtain ⟨h1, h2, h3⟩ := h.each;have hbel : zW W W' := by rw [hW]; exact (Below.refl _ _).alloc (Nat.le_refl _) _
 refine ⟨kvs, fps, h1, h2, ?_, hnd, ?_, fun j a c d => ?_⟩
 ·rw [hW]
  exact ⟨by rw [cellsK_len h1], .inr ⟨W.heap.size, ks.length, (cellsK ks kvs).toArray, rfl, hb, heap_alloc_new W _, Nat.le_refl _, by unfold maxLen; omega, by rw [List.size_toArray, cellsK_len h1], List.take_of_length_le (by rw [cellsK_len h1]; exact Nat.le_refl _)⟩⟩
 ·intro g hg hm
  simp only [Value.ownBlock, Option.some.injEq] at hg;obtain ⟨l, m1, m2⟩ := List.mem_flatten.1 hm;obtain ⟨j, hj, rfl⟩ := List.getElem_of_mem m1;have := (OwnK.lt (h3 j (by omega) (by omega) hj) g m2).2;omega
 ·exact (h3 j a c d).below hbel (fun x hx => (OwnK.lt (h3 j a c d) x hx).2)
theorem ints_at {W W' : World} {a b : Int} {t : TypeId} (hW : W' = W.alloc (Obj.cells #[zI a, zI b] t)) : IntAt W' (zS (some ⟨W.heap.size, 0, none⟩) 2 2) [a, b] := by
 refine ⟨some ⟨W.heap.size, 0, none⟩, 2, rfl, fun _ => ⟨W.heap.size, rfl, by rw [hW, size_alloc]; omega, fun j hj => ?_⟩⟩;rw [hW]
 match j, hj with
 | 0, _ => simp
 | 1, _ => simp
end Go.Proofs.YtcbjlbpkoneibaaGreatDoor
