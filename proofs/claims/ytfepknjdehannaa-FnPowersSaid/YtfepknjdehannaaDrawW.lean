/-
  What the laws of chapter 5 draw: three lists, right or not.
-/
import Derived.Test.YtfepknjdehannaaDrawR
namespace Go.Proofs.Ytfepknjdehannaa
open Go.RowKit

/-- Three lists of numbers. -/
def ThreeAt (w : World) (v1 v2 v3 : Value) (l1 l2 l3 : List Int) : Prop := (IntAt w v1 l1 ∧ Wd l1 ∧ l1.length ≤ 50) ∧ (IntAt w v2 l2 ∧ Wd l2 ∧ l2.length ≤ 50) ∧ (IntAt w v3 l3 ∧ Wd l3 ∧ l3.length ≤ 50)

set_option maxHeartbeats 3200000 in
set_option maxRecDepth 100000 in
theorem l05Three_any (B : Nat) (w : World) (a0 : Option Addr) (len cap : Nat) (hl : len ≤ 1048576) (hB : B ≤ w.heap.size) (hcode : CodeAt B w a0 len) : Calls Try.prog 38 #[.slice a0 len cap] w fun e w' =>
    ∃ (v1 v2 v3 : Value) (l1 l2 l3 : List Int), e = .returned (.tuple #[v1, v2, v3]) ∧ ThreeAt w' v1 v2 v3 l1 l2 l3 ∧ Below w.heap.size w w' := by
  have HD : Hid (CodeAt B w a0 len) := hcode
  clear hcode
  go_enter Try.func38, Try.ntmps38
  go_wp2_with fail
  refine (l01New_any B w a0 len cap hl hB HD.out).mono ?_
  rintro e w1 ⟨c, rfl, hC1, hb1, hc⟩
  have H1 : Hid (Cur B w1 c a0 len cap ∧ Below w.heap.size w w1) := ⟨hC1, hb1⟩
  clear hC1 hb1 HD
  go_wp2_with fail
  refine (l04Any_any B w1 c a0 len cap H1.out.1).mono ?_
  rintro e w2 ⟨vm, lm, rfl, ho, hw, hll, hC2, hg2⟩
  have H2 : Hid ((OwnI w2 w1.heap.size vm lm ∧ Wd lm ∧ lm.length ≤ 50 ∧ c < w1.heap.size) ∧ Cur B w2 c a0 len cap ∧ Below w.heap.size w w2) := ⟨⟨ho, hw, hll, H1.out.1.lt⟩, hC2, H1.out.2.grown hg2 H1.out.2.size (fun k hk => by cases hk; exact hc)⟩
  clear ho hw hC2 hg2 H1 hll
  go_wp2_with fail
  refine (l04Any_any B w2 c a0 len cap H2.out.2.1).mono ?_
  rintro e w3 ⟨va, la, rfl, ho, hw, hll, hC3, hg3⟩
  have H3 : Hid ((OwnI w3 w1.heap.size vm lm ∧ Wd lm ∧ lm.length ≤ 50 ∧ c < w1.heap.size) ∧ (OwnI w3 w2.heap.size va la ∧ Wd la ∧ la.length ≤ 50 ∧ c < w2.heap.size) ∧ Cur B w3 c a0 len cap ∧ Below w.heap.size w w3) :=
    ⟨⟨H2.out.1.1.keepC H2.out.1.2.2.2 hg3, H2.out.1.2⟩, ⟨ho, hw, hll, H2.out.2.1.lt⟩, hC3, H2.out.2.2.grown hg3 H2.out.2.2.size (fun k hk => by cases hk; exact hc)⟩
  clear ho hw hC3 hg3 H2 hll
  go_wp2_with fail
  have hlit : OwnI (w3.alloc (Obj.cells #[Value.int IntKind.i64 0, Value.int IntKind.i64 1, Value.int IntKind.i64 2, Value.int IntKind.i64 3, Value.int IntKind.i64 17, Value.int IntKind.i64 65537] 3)) w3.heap.size (.slice (some ⟨w3.heap.size, 0, none⟩) 6 6) [0, 1, 2, 3, 17, 65537] :=
    World.ownsRow_lit w3 #[Value.int .i64 0, Value.int .i64 1, Value.int .i64 2, Value.int .i64 3, Value.int .i64 17, Value.int .i64 65537] 6 (Nat.le_refl _) (by unfold maxLen; omega) rfl
  have ha := (Below.refl w3.heap.size w3).alloc (Nat.le_refl _) (Obj.cells #[Value.int IntKind.i64 0, Value.int IntKind.i64 1, Value.int IntKind.i64 2, Value.int IntKind.i64 3, Value.int IntKind.i64 17, Value.int IntKind.i64 65537] 3)
  have hcl := H3.out.2.2.1.lt
  refine (l01PickInt_any w3.heap.size 6 6 B _ c a0 len cap (by omega) (by omega) (by omega) (fun j hj => ⟨_, hlit.cell (j := j) hj, by match j, hj with
    | 0, _ => decide
    | 1, _ => decide
    | 2, _ => decide
    | 3, _ => decide
    | 4, _ => decide
    | 5, _ => decide⟩) (H3.out.2.2.1.kept ha)).mono ?_
  rintro e w4 ⟨x, hx0, hx1, rfl, hC4, hg4⟩
  have hw3 : w3.grownBy w4 (some c) := grownBy_trans (grownBy_below' ha) hg4
  have H4 : Hid ((OwnI w4 w1.heap.size vm lm ∧ Wd lm ∧ lm.length ≤ 50 ∧ c < w1.heap.size) ∧ (OwnI w4 w2.heap.size va la ∧ Wd la ∧ la.length ≤ 50 ∧ c < w2.heap.size) ∧ Cur B w4 c a0 len cap ∧ Below w.heap.size w w4) :=
    ⟨⟨H3.out.1.1.keepC H3.out.1.2.2.2 hw3, H3.out.1.2⟩, ⟨H3.out.2.1.1.keepC H3.out.2.1.2.2.2 hw3, H3.out.2.1.2⟩, hC4, H3.out.2.2.2.grown hw3 H3.out.2.2.2.size (fun k hk => by cases hk; exact hc)⟩
  clear hC4 hg4 hw3 hlit ha H3 hcl
  go_wp2_with fail
  refine (specOf_any x w4 ⟨hx0, hx1⟩).mono ?_
  rintro e w5 ⟨ve, rfl, ho, hb⟩
  have H5 : Hid ((OwnI w5 w1.heap.size vm lm ∧ Wd lm ∧ lm.length ≤ 50 ∧ c < w1.heap.size) ∧ (OwnI w5 w2.heap.size va la ∧ Wd la ∧ la.length ≤ 50 ∧ c < w2.heap.size) ∧ (OwnI w5 w4.heap.size ve (digs x) ∧ Wd (digs x) ∧ (digs x).length ≤ 50 ∧ c < w4.heap.size) ∧ Cur B w5 c a0 len cap ∧ Below w.heap.size w w5) :=
    ⟨⟨H4.out.1.1.stays hb, H4.out.1.2⟩, ⟨H4.out.2.1.1.stays hb, H4.out.2.1.2⟩, ⟨ho, (dig_digs x).wd, by have := digs_len64 ⟨hx0, hx1⟩; omega, H4.out.2.2.1.lt⟩, H4.out.2.2.1.kept hb, below_go H4.out.2.2.2 hb⟩
  clear ho hb H4
  go_wp2_with fail
  refine (l01Once_any 8 B w5 c a0 len cap (by omega) H5.out.2.2.2.1).mono ?_
  rintro e w6 ⟨q, rfl, hC6, hg6⟩
  have H6 : Hid ((OwnI w6 w1.heap.size vm lm ∧ Wd lm ∧ lm.length ≤ 50 ∧ c < w1.heap.size) ∧ (OwnI w6 w2.heap.size va la ∧ Wd la ∧ la.length ≤ 50 ∧ c < w2.heap.size) ∧ (OwnI w6 w4.heap.size ve (digs x) ∧ Wd (digs x) ∧ (digs x).length ≤ 50 ∧ c < w4.heap.size) ∧ Cur B w6 c a0 len cap ∧ Below w.heap.size w w6) :=
    ⟨⟨H5.out.1.1.keepC H5.out.1.2.2.2 hg6, H5.out.1.2⟩, ⟨H5.out.2.1.1.keepC H5.out.2.1.2.2.2 hg6, H5.out.2.1.2⟩, ⟨H5.out.2.2.1.1.keepC H5.out.2.2.1.2.2.2 hg6, H5.out.2.2.1.2⟩, hC6, H5.out.2.2.2.2.grown hg6 H5.out.2.2.2.2.size (fun k hk => by cases hk; exact hc)⟩
  clear hC6 hg6 H5
  rcases q with _ | _
  · have HF : Hid (ThreeAt w6 va ve vm la (digs x) lm ∧ Below w.heap.size w w6) :=
      ⟨⟨⟨H6.out.2.1.1.at, H6.out.2.1.2.1, H6.out.2.1.2.2.1⟩, ⟨H6.out.2.2.1.1.at, H6.out.2.2.1.2.1, H6.out.2.2.1.2.2.1⟩, ⟨H6.out.1.1.at, H6.out.1.2.1, H6.out.1.2.2.1⟩⟩, H6.out.2.2.2.2⟩
    clear H6
    go_wp2_with fail
    go_ret3
    exact ⟨_, _, _, _, _, _, rfl, HF.out⟩
  · go_wp2_with fail
    refine (l04Any_any B w6 c a0 len cap H6.out.2.2.2.1).mono ?_
    rintro e w7 ⟨vx, lx, rfl, ho, hw, hll, hC7, hg7⟩
    have HF : Hid (ThreeAt w7 va vx vm la lx lm ∧ Below w.heap.size w w7) :=
      ⟨⟨⟨(H6.out.2.1.1.keepC H6.out.2.1.2.2.2 hg7).at, H6.out.2.1.2.1, H6.out.2.1.2.2.1⟩, ⟨ho.at, hw, hll⟩, ⟨(H6.out.1.1.keepC H6.out.1.2.2.2 hg7).at, H6.out.1.2.1, H6.out.1.2.2.1⟩⟩, H6.out.2.2.2.2.grown hg7 H6.out.2.2.2.2.size (fun k hk => by cases hk; exact hc)⟩
    clear H6 ho hw hll hC7 hg7
    go_wp2_with fail
    go_ret3
    exact ⟨_, _, _, _, _, _, rfl, HF.out⟩

set_option maxHeartbeats 800000 in
set_option maxRecDepth 100000 in
theorem drawPowMod_any (B : Nat) (w : World) (a0 : Option Addr) (len cap : Nat) (hl : len ≤ 1048576) (hB : B ≤ w.heap.size) (hcode : CodeAt B w a0 len) : Calls Try.prog 15 #[.slice a0 len cap] w fun e w' =>
    ∃ (v1 v2 v3 : Value) (l1 l2 l3 : List Int), e = .returned (.tuple #[v1, v2, v3]) ∧ ThreeAt w' v1 v2 v3 l1 l2 l3 ∧ Below w.heap.size w w' := by
  have E := l05Three_any B w a0 len cap hl hB hcode
  clear hcode
  go_enter Try.func15, Try.ntmps15
  go_wp2_with fail
  refine E.mono ?_
  rintro e w1 ⟨v1, v2, v3, l1, l2, l3, rfl, h1, h2⟩
  have H : Hid (ThreeAt w1 v1 v2 v3 l1 l2 l3 ∧ Below w.heap.size w w1) := ⟨h1, h2⟩
  clear h1 h2 E
  go_wp2_with fail
  go_ret3
  exact ⟨_, _, _, _, _, _, rfl, H.out⟩
end Go.Proofs.Ytfepknjdehannaa
