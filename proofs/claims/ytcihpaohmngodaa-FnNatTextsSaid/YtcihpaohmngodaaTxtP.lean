/-
  Plain facts: a number comes back from its bytes and from its figures; the draws of chapter 4.
-/
import Derived.Test.YtcihpaohmngodaaTxtI
import Derived.Test.YtcihpaohmngodaaDecS
import Derived.Test.YtcihpaohmngodaaDrawR
import Derived.Test.YtcihpaohmngodaaDrawS
namespace Go.Proofs.Ytcihpaohmngodaa
open Go.RowKit

theorem horn_byI {x : Int} (h : 0 ≤ x) : horn 256 ((byI x).reverse.map fun b => (b.toNat : Int)) = x := by
  obtain ⟨n, rfl⟩ : ∃ n : Nat, x = (n : Int) := ⟨x.toNat, by omega⟩
  clear h
  induction n using Nat.strongRecOn with
  | _ n ih =>
    by_cases h0 : n = 0
    · subst h0; rw [byI_zero (by simp)]; simp [horn]
    · rw [byI_step (by omega), List.reverse_cons, List.map_append, List.map_singleton, horn_snoc]
      have h1 := ih (n / 256) (by omega)
      rw [show ((n : Int) / 256) = ((n / 256 : Nat) : Int) by omega, h1, u8_ofNat (by omega)]
      omega
theorem byI_last {x : Int} (h : 0 < x) : ∃ b l, (byI x).reverse = b :: l ∧ b ≠ 0 := by
  obtain ⟨n, rfl⟩ : ∃ n : Nat, x = (n : Int) := ⟨x.toNat, by omega⟩
  induction n using Nat.strongRecOn with
  | _ n ih =>
    rw [byI_step h, List.reverse_cons]
    by_cases h0 : n / 256 = 0
    · refine ⟨UInt8.ofNat ((n : Int) % 256).toNat, [], ?_, fun e => ?_⟩
      · rw [byI_zero (by omega)]; rfl
      · have h2 := congrArg UInt8.toNat e
        rw [u8_ofNat (by omega)] at h2
        simp at h2
        omega
    · obtain ⟨b, l, h1, h2⟩ := ih (n / 256) (by omega) (by omega)
      rw [show ((n : Int) / 256) = ((n / 256 : Nat) : Int) by omega, h1]
      exact ⟨b, l ++ [UInt8.ofNat ((n : Int) % 256).toNat], rfl, h2⟩
/-- The text of a number of at most sixteen bytes. -/
def txtN (x : Int) : ByteArray := ⟨(byI x).reverse.toArray⟩
theorem txtN_size (x : Int) : (txtN x).size = (byI x).length := by
  show ((byI x).reverse.toArray).size = _
  simp
theorem txtL_digs {x : Int} (h : 0 ≤ x) (h2 : x < 10000 ^ 40) : txtL (digs x) = txtN x := by
  unfold txtL txtN
  rw [if_pos (okL_digs h h2), ev_digs h]
theorem readL_txtN {x : Int} (h : 0 ≤ x) (h2 : x < 256 ^ 60) : readL (txtN x) = digs x := by
  have hs := byI_len h2
  unfold readL
  rw [if_pos (by rw [txtN_size]; exact hs)]
  have e : bytesI (txtN x) = (byI x).reverse.map fun b => (b.toNat : Int) := by simp [bytesI, txtN]
  rw [e, horn_byI h]
theorem numOf_horn (vs : List Nat) : horn 10 (vs.map fun x : Nat => (x : Int)) = (numOf vs : Int) := by
  suffices H : ∀ (n : Nat) (vs : List Nat), vs.length = n → horn 10 (vs.map fun x : Nat => (x : Int)) = (numOf vs : Int) from H vs.length vs rfl
  intro n
  induction n with
  | zero =>
    intro vs hl
    rw [List.eq_nil_of_length_eq_zero hl]
    simp [horn, numOf]
  | succ n ih =>
    intro v0 hl
    obtain ⟨l, x, rfl⟩ : ∃ l x, v0 = l ++ [x] := ⟨v0.dropLast, v0.getLast (fun e => by rw [e] at hl; simp at hl), (List.dropLast_concat_getLast _).symm⟩
    rw [List.map_append, List.map_singleton, horn_snoc, ih l (by simpa using hl), numOf_snoc]
    omega
theorem fval10_fig : ∀ d, d < 10 → fval 10 (fig d) = some d := by decide +kernel
theorem fvals_dg (n : Nat) : ∃ ds, fvals 10 (dg n) = some ds ∧ numOf ds = n := by
  induction n using Nat.strongRecOn with
  | _ n ih =>
    by_cases h : n = 0
    · subst h; rw [dg_zero]; exact ⟨[], rfl, rfl⟩
    · obtain ⟨ds, h1, h2⟩ := ih (n / 10) (by omega)
      rw [dg_pos h]
      exact ⟨ds ++ [n % 10], fvals_snoc h1 (fval10_fig _ (by omega)), by rw [numOf_snoc, h2]; omega⟩
/-- The decimal text of a number. -/
def decN (n : Nat) : ByteArray := ⟨(decR n).toArray⟩
theorem decR_len {n : Nat} (h : n < 10000) : (decR n).length ≤ 140 := by
  by_cases h0 : n = 0
  · subst h0; decide
  · rw [decR_pos h0]
    have hs : ∀ (k n : Nat), n < 10 ^ k → (dg n).length ≤ k := by
      intro k
      induction k with
      | zero => intro n hn; have : n = 0 := by simpa using hn
                subst this; rw [dg_zero]; simp
      | succ k ih =>
        intro n hn
        by_cases h1 : n = 0
        · subst h1; rw [dg_zero]; simp
        · rw [dg_pos h1]
          have := ih (n / 10) (by rw [Nat.pow_succ] at hn; omega)
          simp; omega
    have := hs 4 n (by omega)
    omega
theorem figL_dec {n : Nat} (h : n < 10000) : figL (decN n) = digs (n : Int) := by
  have hsz : (decN n).size = (decR n).length := by show ((decR n).toArray).size = _; simp
  unfold figL
  rw [if_pos (by rw [hsz]; exact decR_len h)]
  have hd : (decN n).data.toList = decR n := by simp [decN]
  rw [hd]
  by_cases h0 : n = 0
  · subst h0
    rw [show decR ((0 : Nat) : Int) = [48] from rfl]
    have : fvals 10 [48] = some [0] := by decide +kernel
    rw [this]
    simp [horn, digs_zero]
  · rw [decR_pos h0]
    obtain ⟨ds, h1, h2⟩ := fvals_dg n
    rw [h1]
    simp only
    rw [numOf_horn, h2]

set_option maxHeartbeats 1600000 in
set_option maxRecDepth 100000 in
theorem drawNatText_any (B : Nat) (w : World) (a0 : Option Addr) (len cap : Nat) (hl : len ≤ 1048576) (hB : B ≤ w.heap.size) (hcode : CodeAt B w a0 len) : Calls Try.prog 31 #[.slice a0 len cap] w fun e w' =>
    ∃ (v : Value) (l : List Int), e = .returned v ∧ IntAt w' v l ∧ Wd l ∧ l.length ≤ 50 ∧ Below w.heap.size w w' := by
  have HD : Hid (CodeAt B w a0 len) := hcode
  clear hcode
  go_enter Try.func31, Try.ntmps31
  go_wp2_with fail
  refine (l01New_any B w a0 len cap hl hB HD.out).mono ?_
  rintro e w1 ⟨c, rfl, hC1, hb1, hc⟩
  have H1 : Hid (Cur B w1 c a0 len cap ∧ Below w.heap.size w w1) := ⟨hC1, hb1⟩
  clear hC1 hb1 HD
  go_wp2_with fail
  refine (l04Any_any B w1 c a0 len cap H1.out.1).mono ?_
  rintro e w2 ⟨v, l, rfl, ho, hw, hll, hC2, hg2⟩
  have H2 : Hid (IntAt w2 v l ∧ Wd l ∧ l.length ≤ 50 ∧ Below w.heap.size w w2) := ⟨ho.at, hw, hll, H1.out.2.grown hg2 H1.out.2.size (fun k hk => by cases hk; exact hc)⟩
  clear ho hw hC2 hg2 H1
  go_wp2_with fail
  go_ret
  exact ⟨_, _, rfl, H2.out⟩

set_option maxHeartbeats 1600000 in
set_option maxRecDepth 100000 in
theorem drawNatSub_any (B : Nat) (w : World) (a0 : Option Addr) (len cap : Nat) (hl : len ≤ 1048576) (hB : B ≤ w.heap.size) (hcode : CodeAt B w a0 len) : Calls Try.prog 32 #[.slice a0 len cap] w fun e w' =>
    ∃ (v u : Value) (l r : List Int), e = .returned (.tuple #[v, u]) ∧ TwoAt w' v u l r ∧ Below w.heap.size w w' := by
  have E := l04Pair_any B w a0 len cap hl hB hcode
  clear hcode
  go_enter Try.func32, Try.ntmps32
  go_wp2_with fail
  refine E.mono ?_
  rintro e w1 ⟨v, u, l, r, rfl, h, hb⟩
  have H : Hid (TwoAt w1 v u l r ∧ Below w.heap.size w w1) := ⟨h, hb⟩
  clear E h hb
  go_wp2_with fail
  go_ret2
  exact ⟨_, _, _, _, rfl, H.out⟩

set_option maxHeartbeats 1600000 in
set_option maxRecDepth 100000 in
theorem drawNatOf_any (B : Nat) (w : World) (a0 : Option Addr) (len cap : Nat) (hl : len ≤ 1048576) (hB : B ≤ w.heap.size) (hcode : CodeAt B w a0 len) : Calls Try.prog 33 #[.slice a0 len cap] w fun e w' =>
    ∃ x : Int, e = .returned (.int .i64 x) ∧ -9223372036854775808 ≤ x ∧ x ≤ 9223372036854775807 ∧ Below w.heap.size w w' := by
  have HD : Hid (CodeAt B w a0 len) := hcode
  clear hcode
  go_enter Try.func33, Try.ntmps33
  go_wp2_with fail
  refine (l01New_any B w a0 len cap hl hB HD.out).mono ?_
  rintro e w1 ⟨c, rfl, hC1, hb1, hc⟩
  have H1 : Hid (Cur B w1 c a0 len cap ∧ Below w.heap.size w w1) := ⟨hC1, hb1⟩
  clear hC1 hb1 HD
  go_wp2_with fail
  have hlit : OwnI (w1.alloc (Obj.cells #[Value.int IntKind.i64 0, Value.int IntKind.i64 1, Value.int IntKind.i64 9999, Value.int IntKind.i64 10000, Value.int IntKind.i64 123456789, Value.int IntKind.i64 (-1), Value.int IntKind.i64 9223372036854775807] 3)) w1.heap.size (.slice (some ⟨w1.heap.size, 0, none⟩) 7 7) [0, 1, 9999, 10000, 123456789, -1, 9223372036854775807] :=
    World.ownsRow_lit w1 #[Value.int .i64 0, Value.int .i64 1, Value.int .i64 9999, Value.int .i64 10000, Value.int .i64 123456789, Value.int .i64 (-1), Value.int .i64 9223372036854775807] 7 (Nat.le_refl _) (by unfold maxLen; omega) rfl
  have ha := (Below.refl w1.heap.size w1).alloc (Nat.le_refl _) (Obj.cells #[Value.int IntKind.i64 0, Value.int IntKind.i64 1, Value.int IntKind.i64 9999, Value.int IntKind.i64 10000, Value.int IntKind.i64 123456789, Value.int IntKind.i64 (-1), Value.int IntKind.i64 9223372036854775807] 3)
  have hcl := H1.out.1.lt
  refine (l01PickInt_any w1.heap.size 7 7 B _ c a0 len cap (by omega) (by omega) (by omega) (fun j hj => ⟨_, hlit.cell (j := j) hj, by match j, hj with
    | 0, _ => decide
    | 1, _ => decide
    | 2, _ => decide
    | 3, _ => decide
    | 4, _ => decide
    | 5, _ => decide
    | 6, _ => decide⟩) (H1.out.1.kept ha)).mono ?_
  rintro e w2 ⟨x, hx0, hx1, rfl, hC2, hg2⟩
  have H2 : Hid (Below w.heap.size w w2) := (below_go H1.out.2 ha).grown hg2 (below_go H1.out.2 ha).size (fun k hk => by cases hk; exact hc)
  clear hC2 hg2 hlit ha H1 hcl
  go_wp2_with fail
  go_ret
  exact ⟨_, rfl, hx0, hx1, H2.out⟩

set_option maxHeartbeats 1600000 in
set_option maxRecDepth 100000 in
theorem drawReadNat_any (B : Nat) (w : World) (a0 : Option Addr) (len cap : Nat) (hl : len ≤ 1048576) (hB : B ≤ w.heap.size) (hcode : CodeAt B w a0 len) : Calls Try.prog 29 #[.slice a0 len cap] w fun e w' =>
    ∃ s : ByteArray, e = .returned (.string s) ∧ s.size ≤ 5000 ∧ Below w.heap.size w w' := by
  have HD : Hid (CodeAt B w a0 len) := hcode
  clear hcode
  go_enter Try.func29, Try.ntmps29
  go_wp2_with fail
  refine (l01New_any B w a0 len cap hl hB HD.out).mono ?_
  rintro e w1 ⟨c, rfl, hC1, hb1, hc⟩
  have H1 : Hid (Cur B w1 c a0 len cap ∧ Below w.heap.size w w1) := ⟨hC1, hb1⟩
  clear hC1 hb1 HD
  go_wp2_with fail
  have hlit : OwnI (w1.alloc (Obj.cells #[Value.int IntKind.i64 0, Value.int IntKind.i64 1, Value.int IntKind.i64 2, Value.int IntKind.i64 15, Value.int IntKind.i64 60, Value.int IntKind.i64 61, Value.int IntKind.i64 8] 3)) w1.heap.size (.slice (some ⟨w1.heap.size, 0, none⟩) 7 7) [0, 1, 2, 15, 60, 61, 8] :=
    World.ownsRow_lit w1 #[Value.int .i64 0, Value.int .i64 1, Value.int .i64 2, Value.int .i64 15, Value.int .i64 60, Value.int .i64 61, Value.int .i64 8] 7 (Nat.le_refl _) (by unfold maxLen; omega) rfl
  have ha := (Below.refl w1.heap.size w1).alloc (Nat.le_refl _) (Obj.cells #[Value.int IntKind.i64 0, Value.int IntKind.i64 1, Value.int IntKind.i64 2, Value.int IntKind.i64 15, Value.int IntKind.i64 60, Value.int IntKind.i64 61, Value.int IntKind.i64 8] 3)
  have hcl := H1.out.1.lt
  refine (l01PickInt_any w1.heap.size 7 7 B _ c a0 len cap (by omega) (by omega) (by omega) (fun j hj => ⟨_, hlit.cell (j := j) hj, by match j, hj with
    | 0, _ => decide
    | 1, _ => decide
    | 2, _ => decide
    | 3, _ => decide
    | 4, _ => decide
    | 5, _ => decide
    | 6, _ => decide⟩) (H1.out.1.kept ha)).mono ?_
  rintro e w2 ⟨x, hx0, hx1, rfl, hC2, hg2⟩
  have H2 : Hid (Cur B w2 c a0 len cap ∧ Below w.heap.size w w2) := ⟨hC2, (below_go H1.out.2 ha).grown hg2 (below_go H1.out.2 ha).size (fun k hk => by cases hk; exact hc)⟩
  clear hC2 hg2 hlit ha H1 hcl
  go_wp2_with fail
  refine (l01Text_any x B w2 c a0 len cap H2.out.1).mono ?_
  rintro e w3 ⟨s, rfl, hs, hC3, hg3⟩
  have H3 : Hid (Below w.heap.size w w3) := H2.out.2.grown hg3 H2.out.2.size (fun k hk => by cases hk; exact hc)
  clear hC3 hg3 H2
  go_wp2_with fail
  go_ret
  exact ⟨_, rfl, hs, H3.out⟩
end Go.Proofs.Ytcihpaohmngodaa
