/-
  Texts of the proof, one behind the other: DrawT, NmD, SigP.
-/
import Derived.Laws.AppendOwnNone
import Derived.Test.YtfgkpjjjjnollaaGreatDoorST1
import Derived.Test.YtfgkpjjjjnollaaGreatDoorST4
import Derived.Test.YtfgkpjjjjnollaaGreatDoorST5
import Derived.Test.YtfgkpjjjjnollaaGreatDoorST9
import Derived.Test.YtfgkpjjjjnollaaGreatDoorST12
import Derived.Test.YtfgkpjjjjnollaaGreatDoorST41
import Derived.Test.YtfgkpjjjjnollaaGreatDoorST52

/-
  Contracts of the specification's drawing functions that make texts, and of the one that makes the cursor.
-/
namespace Go.Proofs.YtfgkpjjjjnollaaGreatDoor
open Go.RowKit

/-- The bytes of a draw, as they came in: below B. -/
def CodeAt (B : Nat) (w : World) (a0 : Option Addr) (len : Nat) : Prop :=
  ∀ j, j < len → ∃ b off x, a0 = some ⟨b, off, none⟩ ∧ b < B ∧ w.cell? ⟨b, off + j, none⟩ = some (.int .u8 x) ∧ 0 ≤ x ∧ x ≤ 255
theorem CodeAt.below {B : Nat} {w w' : World} {a0 : Option Addr} {len : Nat} (h : CodeAt B w a0 len) (hb : Below B w w') : CodeAt B w' a0 len := fun j hj => by
  obtain ⟨b, off, x, e, hbB, hc, h1, h2⟩ := h j hj
  exact ⟨b, off, x, e, hbB, (hb.cell (p := ⟨b, off + j, none⟩) hbB).trans hc, h1, h2⟩

/-- A slice of bytes that came in, as the draws take it. -/
theorem codeAt_of {W : World} {x : Addr} {len cap : Nat} {zs : List Int} (hl : len ≤ cap) (hz : zs.length = cap) (hcell : ∀ i, i < zs.length → W.cell? (x.add i) = some (.int .u8 (zs.getD i 0))) (hwz : ∀ n ∈ zs, (Lit.int .u8 n).wf = true) : CodeAt W.heap.size W (some x) len := fun j hj => by
  have hc := hcell j (by omega)
  have hc0 := hcell 0 (by omega)
  obtain ⟨b, off, spot⟩ := x
  have hspot : spot = none := by simpa [Addr.add] using World.cell?_spot hc0
  subst hspot
  have hadd : (⟨b, off, none⟩ : Addr).add j = ⟨b, off + j, none⟩ := by unfold Addr.add; split <;> simp_all
  rw [hadd] at hc
  have hm : zs.getD j 0 ∈ zs := by
    rw [List.getD_eq_getElem?_getD, List.getElem?_eq_getElem (by omega)]
    exact List.getElem_mem _
  have hw := hwz _ hm
  have hr : 0 ≤ zs.getD j 0 ∧ zs.getD j 0 ≤ 255 := by simpa [Lit.wf, IntKind.min, IntKind.max, IntKind.signed, IntKind.bits] using hw
  exact ⟨b, off, _, rfl, World.block_lt_of_cell? W _ hc, hc, hr.1, hr.2⟩

set_option maxHeartbeats 1600000 in
set_option maxRecDepth 100000 in
theorem l01New_any (B : Nat) (w : World) (a0 : Option Addr) (len cap : Nat) (hl : len ≤ 1048576) (hB : B ≤ w.heap.size) (hcode : CodeAt B w a0 len) : Calls Tryz.prog 72 #[.slice a0 len cap] w fun e w' =>
    ∃ c, e = .returned (.pointer (some ⟨c, 0, none⟩)) ∧ Cur B w' c a0 len cap ∧ Below w.heap.size w w' ∧ w.heap.size ≤ c := by
  have HD : Hid (CodeAt B w a0 len) := hcode
  clear hcode
  have hm := i64_and30
  go_enter Tryz.func72, Tryz.ntmps72
  go_wp2
  go_loop [3, 4] (fun hv iv => ∃ (k : Nat) (h : Int), k ≤ len ∧ hv = .int .i64 h ∧ iv = .int .i64 k ∧ 0 ≤ h ∧ h ≤ 2000000000) (fun _ iv => len - (intOf iv).toNat)
  case atStart => exact ⟨0, _, Nat.zero_le _, rfl, rfl, by omega, by omega⟩
  case round =>
    obtain ⟨k, h, hk, rfl, rfl, h0, h1⟩ := hrel
    by_cases hlt : k < len
    · by_cases h4 : k < 4000
      · obtain ⟨b, off, x, rfl, hbB, hcx, hx0, hx1⟩ := HD.out k hlt
        go_wp2
        go_round
        case rel => exact ⟨k + 1, _, by omega, rfl, by go_num, by omega, by omega⟩
        case measure => simp [intOf]; omega
      · go_wp2
        go_ret
        exact ⟨w.heap.size, rfl, ⟨hB, hl, ⟨0, h, heap_alloc_new w _, by omega, by omega⟩, HD.out.below ((Below.refl B w).alloc hB _)⟩, (Below.refl _ _).alloc (Nat.le_refl _) _, Nat.le_refl _⟩
    · go_wp2
      go_ret
      exact ⟨w.heap.size, rfl, ⟨hB, hl, ⟨0, h, heap_alloc_new w _, by omega, by omega⟩, HD.out.below ((Below.refl B w).alloc hB _)⟩, (Below.refl _ _).alloc (Nat.le_refl _) _, Nat.le_refl _⟩

theorem grow_step {w wr w2 : World} {row r2 : Option Nat} (h : w.grownBy wr row) (hg : wr.grownBy w2 r2) (hr : ∀ k, r2 = some k → w.heap.size ≤ k) : w.grownBy w2 row :=
  ⟨hg.os.trans h.os, hg.tape.trans h.tape, hg.output.trans h.output, Nat.le_trans h.size hg.size, fun k hk hn => (hg.block k (Nat.lt_of_lt_of_le hk h.size) (fun e => by have := hr k e.symm; omega)).trans (h.block k hk hn)⟩

theorem Cur.grown {B : Nat} {w w' : World} {c : Nat} {a0 : Option Addr} {len cap : Nat} {r : Option Nat} (h : Cur B w c a0 len cap) (hg : w.grownBy w' r) (hr : ∀ k, r = some k → c < k) : Cur B w' c a0 len cap := by
  have hlt := h.lt
  have hlow := h.low
  refine ⟨h.low, h.len_le, ?_, fun j hj => ?_⟩
  · obtain ⟨i, k, hrow, h1, h2⟩ := h.row
    exact ⟨i, k, by rw [hg.block c hlt (fun e => by have := hr c e.symm; omega)]; exact hrow, h1, h2⟩
  · obtain ⟨b, off, x, e, hbB, hc, h1, h2⟩ := h.code j hj
    exact ⟨b, off, x, e, hbB, hg.cell hc (fun e => by have := hr b e.symm; omega), h1, h2⟩
theorem len_ok (k : Nat) (h : k < 5000) : k + 1 ≤ maxLen := by unfold maxLen; omega
end Go.Proofs.YtfgkpjjjjnollaaGreatDoor

/-
  The specification's draws of chapter 8: names, lists of names, lists of rules.
-/
namespace Go.Proofs.YtfgkpjjjjnollaaGreatDoor
open Go.RowKit
set_option linter.unusedVariables false

theorem OwnT.grown {w w' : World} {b c : Nat} {v : Value} {l : List ByteArray} (h : OwnT w b v l) (hg : w.grownBy w' (some c)) (hc : c < b) : OwnT w' b v l := by
  refine World.ownsRow.kept h hg ?_
  rcases h.2 with ⟨rfl, _⟩ | ⟨g, cap, cur, rfl, hbg, _⟩
  · exact .inl rfl
  · exact .inr (by simp [Value.ownBlock]; omega)
theorem OwnI.grown {w w' : World} {b c : Nat} {v : Value} {l : List Int} (h : OwnI w b v l) (hg : w.grownBy w' (some c)) (hc : c < b) : OwnI w' b v l := by
  refine World.ownsRow.kept h hg ?_
  rcases h.2 with ⟨rfl, _⟩ | ⟨g, cap, cur, rfl, hbg, _⟩
  · exact .inl rfl
  · exact .inr (by simp [Value.ownBlock]; omega)
end Go.Proofs.YtfgkpjjjjnollaaGreatDoor

/-
  Plain facts: what a house signs is right by its key, and by its secret it is the padded text again.
-/
namespace Go.Proofs.YtfgkpjjjjnollaaGreatDoor
open Go.RowKit

theorem horn_zeros (k : Nat) (l : List Int) : horn 256 (List.replicate k 0 ++ l) = horn 256 l := by
  unfold horn
  rw [List.foldl_append]
  congr 1
  induction k with
  | zero => rfl
  | succ k ih => rw [List.replicate_succ, List.foldl_cons]; exact ih
theorem horn_lt256 : ∀ (l : List Int), (∀ x ∈ l, 0 ≤ x ∧ x < 256) → 0 ≤ horn 256 l ∧ horn 256 l < 256 ^ l.length := by
  suffices H : ∀ (n : Nat) (l : List Int), l.length = n → (∀ x ∈ l, 0 ≤ x ∧ x < 256) → 0 ≤ horn 256 l ∧ horn 256 l < 256 ^ l.length from fun l => H l.length l rfl
  intro n
  induction n with
  | zero => intro l hl _; rw [List.eq_nil_of_length_eq_zero hl]; decide
  | succ n ih =>
    intro l hl h
    obtain ⟨m, x, rfl⟩ : ∃ m x, l = m ++ [x] := ⟨l.dropLast, l.getLast (fun e => by rw [e] at hl; simp at hl), (List.dropLast_concat_getLast _).symm⟩
    have h1 := ih m (by simpa using hl) (fun y hy => h y (by simp [hy]))
    have h2 := h x (by simp)
    rw [horn_snoc, List.length_append, List.length_singleton, Int.pow_succ]
    omega
theorem bytesI_bd2 (s : ByteArray) : ∀ x ∈ bytesI s, 0 ≤ x ∧ x < 256 := by
  intro x hx
  unfold bytesI at hx
  obtain ⟨b, _, rfl⟩ := List.mem_map.1 hx
  have := b.toNat_lt
  omega
/-- The number of a padded text. -/
def pnum (s : ByteArray) : Int := horn 256 (bytesI (pddB s))
theorem readL_pdd (s : ByteArray) : readL (pddB s) = digs (pnum s) := if_pos (by rw [pddB_size]; decide)
theorem pnum_bd (s : ByteArray) : 0 ≤ pnum s ∧ pnum s < 256 ^ 14 := by
  have e : bytesI (pddB s) = List.replicate 1 0 ++ (bytesI (pddB s)).tail := by
    have : bytesI (pddB s) = 0 :: ((aheadB.data.toList.tail ++ ((digB s).extract 0 6).data.toList).map fun b => (b.toNat : Int)) := by
      unfold bytesI pddB
      rw [ByteArray.data_append, Array.toList_append]
      rfl
    rw [this]
    rfl
  have hl : (bytesI (pddB s)).length = 15 := by
    have := pddB_size s
    unfold bytesI
    rw [List.length_map]
    exact this
  unfold pnum
  rw [e, horn_zeros]
  have h := horn_lt256 (bytesI (pddB s)).tail (fun x hx => bytesI_bd2 _ x (List.mem_of_mem_tail hx))
  rw [List.length_tail, hl] at h
  exact h
theorem txtD {x : Int} (h : 0 ≤ x) (h2 : x < 256 ^ 15) : txtL (digs x) = ⟨(byI x).reverse.toArray⟩ ∧ (txtL (digs x)).size ≤ 15 := by
  have h3 : (256 : Int) ^ 15 ≤ 10000 ^ 40 := by decide
  have e : txtL (digs x) = ⟨(byI x).reverse.toArray⟩ := by
    unfold txtL
    rw [if_pos (okL_digs h (by omega)), ev_digs h]
  refine ⟨e, txtL_size ?_⟩
  rw [ev_digs h]
  exact h2
theorem keyD_size {x : Int} (h : 0 ≤ x) (h2 : x < 256 ^ 15) : (keyB (digs x)).size = 15 := by
  have h3 := (txtD h h2).2
  unfold keyB
  rw [ByteArray.size_append, zerosB_size]
  omega
theorem p15 : (256 : Int) ^ 15 = ((256 ^ 15 : Nat) : Int) := by decide
theorem p14 : (256 : Int) ^ 14 = ((256 ^ 14 : Nat) : Int) := by decide
theorem pubZ {i : Nat} (h : i < 6) : (256 : Int) ^ 14 ≤ (Rsa.pubN i : Int) ∧ (Rsa.pubN i : Int) < 256 ^ 15 ∧ (Rsa.pubN i : Int) < 10000 ^ 40 := by
  have hb := pubN_bd h
  have h3 : (256 : Int) ^ 15 ≤ 10000 ^ 40 := by decide
  have h1 : ((256 ^ 14 : Nat) : Int) ≤ ((Rsa.pubN i : Nat) : Int) := Int.ofNat_le.2 hb.1
  have h2 : ((Rsa.pubN i : Nat) : Int) < ((256 ^ 15 : Nat) : Int) := Int.ofNat_lt.2 hb.2
  rw [← p14] at h1
  rw [← p15] at h2
  exact ⟨h1, h2, Int.lt_of_lt_of_le h2 h3⟩
theorem secZ {i : Nat} (h : i < 6) : (0 : Int) ≤ (Rsa.secN i : Int) ∧ (Rsa.secN i : Int) < 10000 ^ 40 := by
  have hb := secN_bd h
  have h3 : (256 : Int) ^ 15 ≤ 10000 ^ 40 := by decide
  have h2 : ((Rsa.secN i : Nat) : Int) < ((256 ^ 15 : Nat) : Int) := Int.ofNat_lt.2 hb.2
  rw [← p15] at h2
  exact ⟨by omega, Int.lt_of_lt_of_le h2 h3⟩
theorem byI_more {x : Int} : ∀ {k : Nat}, 256 ^ k ≤ x → k < (byI x).length := by
  intro k
  induction k generalizing x with
  | zero => intro h; rw [byI_step (by simp at h; omega)]; simp
  | succ k ih =>
    intro h
    rw [Int.pow_succ] at h
    have hp : (0 : Int) < 256 ^ k := Int.pow_pos (by decide)
    rw [byI_step (by omega), List.length_cons]
    have := ih (x := x / 256) (by omega)
    omega
theorem pubB_is {i : Nat} (h : i < 6) : pubB (i : Int) = txtL (digs (Rsa.pubN i : Int)) := by unfold pubB; rw [fig_pub h]
theorem pubB_size {i : Nat} (h : i < 6) : (pubB (i : Int)).size = 15 := by
  have hz := pubZ h
  have h0 : (0 : Int) ≤ (Rsa.pubN i : Int) := by omega
  have h1 := txtD h0 hz.2.1
  rw [pubB_is h]
  have h2 : (txtL (digs (Rsa.pubN i : Int))).size = (byI (Rsa.pubN i : Int)).length := by
    rw [h1.1]
    show ((byI (Rsa.pubN i : Int)).reverse.toArray).size = _
    simp
  have h3 := byI_more hz.1
  have h4 := h1.2
  omega
/-- The number that is signed. -/
def snum (i : Nat) (s : ByteArray) : Int := pnum s ^ Rsa.secN i % (Rsa.pubN i : Int)
theorem snum_bd {i : Nat} (h : i < 6) (s : ByteArray) : 0 ≤ snum i s ∧ snum i s < (Rsa.pubN i : Int) := by
  have hz := pubZ h
  have hp : (0 : Int) < 256 ^ 14 := by decide
  exact ⟨Int.emod_nonneg _ (by omega), Int.emod_lt_of_pos _ (by omega)⟩
theorem pmD {x y z : Int} (hx : 0 ≤ x ∧ x < 10000 ^ 40) (hy : 0 ≤ y ∧ y < 10000 ^ 40) (hz : 0 < z ∧ z < 10000 ^ 40) : pmL (digs x) (digs y) (digs z) = digs (x ^ y.toNat % z) := by
  have hm : 0 < (digs z).length := digs_ne hz.1
  unfold pmL
  rw [if_pos (by simp [okL_digs hx.1 hx.2, okL_digs hy.1 hy.2, okL_digs (Int.le_of_lt hz.1) hz.2, hm]), ev_digs hx.1, ev_digs hy.1, ev_digs (Int.le_of_lt hz.1)]
theorem pnum40 (s : ByteArray) : 0 ≤ pnum s ∧ pnum s < 10000 ^ 40 := by
  have h := pnum_bd s
  have h3 : (256 : Int) ^ 14 ≤ 10000 ^ 40 := by decide
  exact ⟨h.1, Int.lt_of_lt_of_le h.2 h3⟩
theorem pubZ0 {i : Nat} (h : i < 6) : (0 : Int) < (Rsa.pubN i : Int) := Int.lt_of_lt_of_le (by decide) (pubZ h).1
theorem sigB_is {i : Nat} (h : i < 6) (s : ByteArray) : sigB (i : Int) s = keyB (digs (snum i s)) := by
  unfold sigB secL
  rw [if_pos (by omega), fig_sec h, fig_pub h, readL_pdd, pmD (pnum40 s) (secZ h) ⟨pubZ0 h, (pubZ h).2.2⟩, Int.toNat_natCast]
  rfl
theorem snum15 {i : Nat} (h : i < 6) (s : ByteArray) : 0 ≤ snum i s ∧ snum i s < 256 ^ 15 := ⟨(snum_bd h s).1, Int.lt_trans (snum_bd h s).2 (pubZ h).2.1⟩
theorem sigB_size {i : Nat} (s : ByteArray) (h : i < 6) : (sigB (i : Int) s).size = 15 := by
  rw [sigB_is h]
  exact keyD_size (snum15 h s).1 (snum15 h s).2
end Go.Proofs.YtfgkpjjjjnollaaGreatDoor
