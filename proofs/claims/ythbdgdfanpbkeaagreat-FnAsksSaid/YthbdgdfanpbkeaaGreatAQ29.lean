/-
  Texts of the proof.
-/
import Derived.Laws.AppendOwnNone
import Derived.Laws.OwnMore
import Derived.Deep.RegionHeld3
import Derived.Deep.AppendLies
import Derived.Recover
import Derived.Deep.Cut
import Derived.Deep.CutRange
import Derived.Test.YthbdgdfanpbkeaaGreatAQ24
import Derived.Test.YthbdgdfanpbkeaaGreatAQ26
import Derived.Test.YthbdgdfanpbkeaaGreatAQ28
set_option maxRecDepth 100000
set_option maxHeartbeats 25600000
namespace Go.Proofs.YthbdgdfanpbkeaaGreat
open Go.RowKit
set_option linter.unusedVariables false
theorem litT (w : World) (ts : List ByteArray) (h : ts.length <= 100) : OwnT (w.alloc (.cells (cellsT ts).toArray 9)) w.heap.size (.slice (some ⟨w.heap.size, 0, none⟩) ts.length ts.length) ts := by
 have := World.ownsRow_lit (base := w.heap.size) (e := 9) (size := 1) w (cellsT ts).toArray ts.length (Nat.le_refl _) (by unfold maxLen; omega) (by simp [cellsT])
 simpa [OwnT] using this
theorem litI (w : World) (ts : List Int) (h : ts.length <= 100) : OwnI (w.alloc (.cells (cellsI ts).toArray 3)) w.heap.size (.slice (some ⟨w.heap.size, 0, none⟩) ts.length ts.length) ts := by
 have := World.ownsRow_lit (base := w.heap.size) (e := 3) (size := 1) w (cellsI ts).toArray ts.length (Nat.le_refl _) (by unfold maxLen; omega) (by simp [cellsI])
 simpa [OwnI] using this
theorem pickI (w : World) (ts : List Int) (h : ∀ x ∈ ts, -9223372036854775808 <= x /\ x <= 9223372036854775807) : ∀ j, j < ts.length -> ∃ x : Int, (w.alloc (.cells (cellsI ts).toArray 3)).cell? ⟨w.heap.size, j, none⟩ = some (.int .i64 x) /\ -9223372036854775808 <= x /\ x <= 9223372036854775807 := fun j hj => by
 refine ⟨ts[j], ?_, h _ (List.getElem_mem hj)⟩
 rw [World.cell?_alloc_new]
 simp [cellsI, hj]
theorem alloc_grown (w : World) (o : Obj) (r : Option Nat) : w.grownBy (w.alloc o) r := grownBy_below' ((Below.refl _ _).alloc (Nat.le_refl _) _)
def NmsPost (B : Nat) (w : World) (c : Nat) (a0 : Option Addr) (len cap : Nat) (e : Ending) (w' : World) : Prop := ∃ (l : List ByteArray) (v : Value), e = .returned v /\ OwnT w' w.heap.size v l /\ l.length <= 2 /\ (∀ s ∈ l, s.size <= 100) /\ Cur B w' c a0 len cap /\ w.grownBy w' (some c)
def polLists : List (List Int) := [[0], [1, 2], [2], [0, 5], []]
def PolPost (B : Nat) (w : World) (c : Nat) (a0 : Option Addr) (len cap : Nat) (e : Ending) (w' : World) : Prop := ∃ (l : List Int) (v : Value), e = .returned v /\ OwnI w' w.heap.size v l /\ l ∈ polLists /\ Cur B w' c a0 len cap /\ w.grownBy w' (some c)
theorem l08Names_any (B : Nat) (w : World) (c : Nat) (a0 : Option Addr) (len cap : Nat) (hC : Cur B w c a0 len cap) : Calls Tryz.prog 100 #[.pointer (some ⟨c, 0, none⟩)] w fun e w' => NmsPost B w c a0 len cap e w' := by
 have HC : Hid (Cur B w c a0 len cap) := hC
 clear hC
 go_enter Tryz.func100, Tryz.ntmps100
 go_wp2_with fail
 refine (l01Below_any 5 B w c a0 len cap (by decide) HC.out).mono ?_
 rintro e w1 ⟨x, hx0, hx5, _, rfl, hC1, hg1⟩
 have hx5 := hx5 (by decide)
 have HG : Hid (Cur B w1 c a0 len cap /\ w.grownBy w1 (some c)) := ⟨hC1, hg1⟩
 clear hC1 hg1
 by_cases e0 : x = 0
 ·subst e0
  go_wp2_with fail
  go_ret
  exact ⟨([(⟨#[111, 114, 103]⟩ : ByteArray)] : List ByteArray), _, rfl, (litT w1 ([(⟨#[111, 114, 103]⟩ : ByteArray)] : List ByteArray) (by decide)).base HG.out.2.size, by decide, (by intro s hs; simp only [List.mem_cons, List.not_mem_nil, or_false] at hs; rcases hs with rfl <;> decide), HG.out.1.kept ((Below.refl _ _).alloc (Nat.le_refl _) _), grownBy_trans HG.out.2 (alloc_grown _ _ _)⟩
 have n0 : (x == 0) = false := beq_eq_false_iff_ne.2 e0
 by_cases e1 : x = 1
 ·subst e1
  go_wp2_with fail
  go_ret
  exact ⟨([(⟨#[99, 97, 46, 111, 114, 103]⟩ : ByteArray), ⟨#[99, 111, 109]⟩] : List ByteArray), _, rfl, (litT w1 ([(⟨#[99, 97, 46, 111, 114, 103]⟩ : ByteArray), ⟨#[99, 111, 109]⟩] : List ByteArray) (by decide)).base HG.out.2.size, by decide, (by intro s hs; simp only [List.mem_cons, List.not_mem_nil, or_false] at hs; rcases hs with rfl | rfl <;> decide), HG.out.1.kept ((Below.refl _ _).alloc (Nat.le_refl _) _), grownBy_trans HG.out.2 (alloc_grown _ _ _)⟩
 have n1 : (x == 1) = false := beq_eq_false_iff_ne.2 e1
 by_cases e2 : x = 2
 ·subst e2
  go_wp2_with fail
  go_ret
  exact ⟨([(⟨#[111, 116, 104, 101, 114, 46, 99, 111, 109]⟩ : ByteArray)] : List ByteArray), _, rfl, (litT w1 ([(⟨#[111, 116, 104, 101, 114, 46, 99, 111, 109]⟩ : ByteArray)] : List ByteArray) (by decide)).base HG.out.2.size, by decide, (by intro s hs; simp only [List.mem_cons, List.not_mem_nil, or_false] at hs; rcases hs with rfl <;> decide), HG.out.1.kept ((Below.refl _ _).alloc (Nat.le_refl _) _), grownBy_trans HG.out.2 (alloc_grown _ _ _)⟩
 have n2 : (x == 2) = false := beq_eq_false_iff_ne.2 e2
 go_wp2_with fail
 go_ret
 exact ⟨([] : List ByteArray), _, rfl, (litT w1 ([] : List ByteArray) (by decide)).base HG.out.2.size, by decide, (by simp), HG.out.1.kept ((Below.refl _ _).alloc (Nat.le_refl _) _), grownBy_trans HG.out.2 (alloc_grown _ _ _)⟩
theorem l08Policies_any (B : Nat) (w : World) (c : Nat) (a0 : Option Addr) (len cap : Nat) (hC : Cur B w c a0 len cap) : Calls Tryz.prog 99 #[.pointer (some ⟨c, 0, none⟩)] w fun e w' => PolPost B w c a0 len cap e w' := by
 have HC : Hid (Cur B w c a0 len cap) := hC
 clear hC
 go_enter Tryz.func99, Tryz.ntmps99
 go_wp2_with fail
 refine (l01Below_any 5 B w c a0 len cap (by decide) HC.out).mono ?_
 rintro e w1 ⟨x, hx0, hx5, _, rfl, hC1, hg1⟩
 have hx5 := hx5 (by decide)
 have HG : Hid (Cur B w1 c a0 len cap /\ w.grownBy w1 (some c)) := ⟨hC1, hg1⟩
 clear hC1 hg1
 by_cases e0 : x = 0
 ·subst e0
  go_wp2_with fail
  go_ret
  exact ⟨([0] : List Int), _, rfl, (litI w1 ([0] : List Int) (by decide)).base HG.out.2.size, by decide, HG.out.1.kept ((Below.refl _ _).alloc (Nat.le_refl _) _), grownBy_trans HG.out.2 (alloc_grown _ _ _)⟩
 have n0 : (x == 0) = false := beq_eq_false_iff_ne.2 e0
 by_cases e1 : x = 1
 ·subst e1
  go_wp2_with fail
  go_ret
  exact ⟨([1, 2] : List Int), _, rfl, (litI w1 ([1, 2] : List Int) (by decide)).base HG.out.2.size, by decide, HG.out.1.kept ((Below.refl _ _).alloc (Nat.le_refl _) _), grownBy_trans HG.out.2 (alloc_grown _ _ _)⟩
 have n1 : (x == 1) = false := beq_eq_false_iff_ne.2 e1
 by_cases e2 : x = 2
 ·subst e2
  go_wp2_with fail
  go_ret
  exact ⟨([2] : List Int), _, rfl, (litI w1 ([2] : List Int) (by decide)).base HG.out.2.size, by decide, HG.out.1.kept ((Below.refl _ _).alloc (Nat.le_refl _) _), grownBy_trans HG.out.2 (alloc_grown _ _ _)⟩
 have n2 : (x == 2) = false := beq_eq_false_iff_ne.2 e2
 by_cases e3 : x = 3
 ·subst e3
  go_wp2_with fail
  go_ret
  exact ⟨([0, 5] : List Int), _, rfl, (litI w1 ([0, 5] : List Int) (by decide)).base HG.out.2.size, by decide, HG.out.1.kept ((Below.refl _ _).alloc (Nat.le_refl _) _), grownBy_trans HG.out.2 (alloc_grown _ _ _)⟩
 have n3 : (x == 3) = false := beq_eq_false_iff_ne.2 e3
 go_wp2_with fail
 go_ret
 exact ⟨([] : List Int), _, rfl, (litI w1 ([] : List Int) (by decide)).base HG.out.2.size, by decide, HG.out.1.kept ((Below.refl _ _).alloc (Nat.le_refl _) _), grownBy_trans HG.out.2 (alloc_grown _ _ _)⟩
end Go.Proofs.YthbdgdfanpbkeaaGreat
namespace Go.Proofs.YthbdgdfanpbkeaaGreat
open Go.RowKit
theorem horn_zeros (k : Nat) (l : List Int) : horn 256 (List.replicate k 0 ++ l) = horn 256 l := by
 unfold horn
 rw [List.foldl_append]
 congr 1
 induction k with
 | zero => rfl
 | succ k ih => rw [List.replicate_succ, List.foldl_cons]; exact ih
theorem horn_lt256 : ∀ (l : List Int), (∀ x ∈ l, 0 <= x /\ x < 256) -> 0 <= horn 256 l /\ horn 256 l < 256 ^ l.length := by
 suffices H : ∀ (n : Nat) (l : List Int), l.length = n -> (∀ x ∈ l, 0 <= x /\ x < 256) -> 0 <= horn 256 l /\ horn 256 l < 256 ^ l.length from fun l => H l.length l rfl
 intro n
 induction n with
 | zero => intro l hl _; rw [List.eq_nil_of_length_eq_zero hl]; decide
 | succ n ih =>
  intro l hl h
  obtain ⟨m, x, rfl⟩ : ∃ m x, l = m ++ [x] := ⟨l.dropLast, l.getLast (fun e => by rw [e] at hl; simp at hl), (List.dropLast_concat_getLast _).symm⟩
  have h1 := ih m (by simpa using hl) (fun y hy => h y (by simp [hy]))
  have h2 := h x (by simp)
  rw [horn_snoc, List.length_append, List.length_singleton, Int.pow_succ]
  omega
theorem bytesI_bd2 (s : ByteArray) : ∀ x ∈ bytesI s, 0 <= x /\ x < 256 := by
 intro x hx
 unfold bytesI at hx
 obtain ⟨b, _, rfl⟩ := List.mem_map.1 hx
 have := b.toNat_lt
 omega
def pnum (s : ByteArray) : Int := horn 256 (bytesI (pddB s))
theorem readL_pdd (s : ByteArray) : readL (pddB s) = digs (pnum s) := if_pos (by rw [pddB_size]; decide)
theorem pnum_bd (s : ByteArray) : 0 <= pnum s /\ pnum s < 256 ^ 14 := by
 have e : bytesI (pddB s) = List.replicate 1 0 ++ (bytesI (pddB s)).tail := by
  have : bytesI (pddB s) = 0 :: ((aheadB.data.toList.tail ++ ((digB s).extract 0 6).data.toList).map fun b => (b.toNat : Int)) := by
   unfold bytesI pddB
   rw [ByteArray.data_append, Array.toList_append]
   rfl
  rw [this]
  rfl
 have hl : (bytesI (pddB s)).length = 15 := by
  have := pddB_size s
  unfold bytesI
  rw [List.length_map]
  exact this
 unfold pnum
 rw [e, horn_zeros]
 have h := horn_lt256 (bytesI (pddB s)).tail (fun x hx => bytesI_bd2 _ x (List.mem_of_mem_tail hx))
 rw [List.length_tail, hl] at h
 exact h
theorem txtD {x : Int} (h : 0 <= x) (h2 : x < 256 ^ 15) : txtL (digs x) = ⟨(byI x).reverse.toArray⟩ /\ (txtL (digs x)).size <= 15 := by
 have h3 : (256 : Int) ^ 15 <= 10000 ^ 40 := by decide
 have e : txtL (digs x) = ⟨(byI x).reverse.toArray⟩ := by
  unfold txtL
  rw [if_pos (okL_digs h (by omega)), ev_digs h]
 refine ⟨e, txtL_size ?_⟩
 rw [ev_digs h]
 exact h2
theorem keyD_size {x : Int} (h : 0 <= x) (h2 : x < 256 ^ 15) : (keyB (digs x)).size = 15 := by
 have h3 := (txtD h h2).2
 unfold keyB
 rw [ByteArray.size_append, zerosB_size]
 omega
theorem p15 : (256 : Int) ^ 15 = ((256 ^ 15 : Nat) : Int) := by decide
theorem p14 : (256 : Int) ^ 14 = ((256 ^ 14 : Nat) : Int) := by decide
theorem pubZ {i : Nat} (h : i < 6) : (256 : Int) ^ 14 <= (Rsa.pubN i : Int) /\ (Rsa.pubN i : Int) < 256 ^ 15 /\ (Rsa.pubN i : Int) < 10000 ^ 40 := by
 have hb := pubN_bd h
 have h3 : (256 : Int) ^ 15 <= 10000 ^ 40 := by decide
 have h1 : ((256 ^ 14 : Nat) : Int) <= ((Rsa.pubN i : Nat) : Int) := Int.ofNat_le.2 hb.1
 have h2 : ((Rsa.pubN i : Nat) : Int) < ((256 ^ 15 : Nat) : Int) := Int.ofNat_lt.2 hb.2
 rw [<- p14] at h1
 rw [<- p15] at h2
 exact ⟨h1, h2, Int.lt_of_lt_of_le h2 h3⟩
theorem secZ {i : Nat} (h : i < 6) : (0 : Int) <= (Rsa.secN i : Int) /\ (Rsa.secN i : Int) < 10000 ^ 40 := by
 have hb := secN_bd h
 have h3 : (256 : Int) ^ 15 <= 10000 ^ 40 := by decide
 have h2 : ((Rsa.secN i : Nat) : Int) < ((256 ^ 15 : Nat) : Int) := Int.ofNat_lt.2 hb.2
 rw [<- p15] at h2
 exact ⟨by omega, Int.lt_of_lt_of_le h2 h3⟩
theorem byI_more {x : Int} : ∀ {k : Nat}, 256 ^ k <= x -> k < (byI x).length := by
 intro k
 induction k generalizing x with
 | zero => intro h; rw [byI_step (by simp at h; omega)]; simp
 | succ k ih =>
  intro h
  rw [Int.pow_succ] at h
  have hp : (0 : Int) < 256 ^ k := Int.pow_pos (by decide)
  rw [byI_step (by omega), List.length_cons]
  have := ih (x := x / 256) (by omega)
  omega
theorem pubB_is {i : Nat} (h : i < 6) : pubB (i : Int) = txtL (digs (Rsa.pubN i : Int)) := by unfold pubB; rw [fig_pub h]
theorem pubB_size {i : Nat} (h : i < 6) : (pubB (i : Int)).size = 15 := by
 have hz := pubZ h
 have h0 : (0 : Int) <= (Rsa.pubN i : Int) := by omega
 have h1 := txtD h0 hz.2.1
 rw [pubB_is h]
 have h2 : (txtL (digs (Rsa.pubN i : Int))).size = (byI (Rsa.pubN i : Int)).length := by
  rw [h1.1]
  show ((byI (Rsa.pubN i : Int)).reverse.toArray).size = _
  simp
 have h3 := byI_more hz.1
 have h4 := h1.2
 omega
def snum (i : Nat) (s : ByteArray) : Int := pnum s ^ Rsa.secN i % (Rsa.pubN i : Int)
theorem snum_bd {i : Nat} (h : i < 6) (s : ByteArray) : 0 <= snum i s /\ snum i s < (Rsa.pubN i : Int) := by
 have hz := pubZ h
 have hp : (0 : Int) < 256 ^ 14 := by decide
 exact ⟨Int.emod_nonneg _ (by omega), Int.emod_lt_of_pos _ (by omega)⟩
theorem pmD {x y z : Int} (hx : 0 <= x /\ x < 10000 ^ 40) (hy : 0 <= y /\ y < 10000 ^ 40) (hz : 0 < z /\ z < 10000 ^ 40) : pmL (digs x) (digs y) (digs z) = digs (x ^ y.toNat % z) := by
 have hm : 0 < (digs z).length := digs_ne hz.1
 unfold pmL
 rw [if_pos (by simp [okL_digs hx.1 hx.2, okL_digs hy.1 hy.2, okL_digs (Int.le_of_lt hz.1) hz.2, hm]), ev_digs hx.1, ev_digs hy.1, ev_digs (Int.le_of_lt hz.1)]
theorem pnum40 (s : ByteArray) : 0 <= pnum s /\ pnum s < 10000 ^ 40 := by
 have h := pnum_bd s
 have h3 : (256 : Int) ^ 14 <= 10000 ^ 40 := by decide
 exact ⟨h.1, Int.lt_of_lt_of_le h.2 h3⟩
theorem pubZ0 {i : Nat} (h : i < 6) : (0 : Int) < (Rsa.pubN i : Int) := Int.lt_of_lt_of_le (by decide) (pubZ h).1
theorem sigB_is {i : Nat} (h : i < 6) (s : ByteArray) : sigB (i : Int) s = keyB (digs (snum i s)) := by
 unfold sigB secL
 rw [if_pos (by omega), fig_sec h, fig_pub h, readL_pdd, pmD (pnum40 s) (secZ h) ⟨pubZ0 h, (pubZ h).2.2⟩, Int.toNat_natCast]
 rfl
theorem snum15 {i : Nat} (h : i < 6) (s : ByteArray) : 0 <= snum i s /\ snum i s < 256 ^ 15 := ⟨(snum_bd h s).1, Int.lt_trans (snum_bd h s).2 (pubZ h).2.1⟩
theorem sigB_size {i : Nat} (s : ByteArray) (h : i < 6) : (sigB (i : Int) s).size = 15 := by
 rw [sigB_is h]
 exact keyD_size (snum15 h s).1 (snum15 h s).2
end Go.Proofs.YthbdgdfanpbkeaaGreat
namespace Go.Proofs.YthbdgdfanpbkeaaGreat
open Go.RowKit Der
set_option linter.unusedVariables false
set_option linter.unusedSimpArgs false
def bd (x : Int) : Prop := -1000000 <= x /\ x <= 1000000
theorem Cur.keptB {B : Nat} {w w' : World} {c : Nat} {a0 : Option Addr} {len cap K : Nat} (h : Cur B w c a0 len cap) (hb : Below K w w') (hK : c < K) : Cur B w' c a0 len cap := by
 refine ⟨h.low, h.len_le, ?_, fun j hj => ?_⟩
 ·obtain ⟨i, k, hr, h1, h2⟩ := h.row
  exact ⟨i, k, by rw [hb.block c hK]; exact hr, h1, h2⟩
 ·obtain ⟨b, off, x, e, hbB, hc, h1, h2⟩ := h.code j hj
  have hbw : b < K := by have := h.low; omega
  exact ⟨b, off, x, e, hbB, (hb.cell (p := ⟨b, off + j, none⟩) hbw).trans hc, h1, h2⟩
theorem grow_below {w W W' : World} {c : Nat} (h : w.grownBy W (some c)) (hb : Below w.heap.size W W') : w.grownBy W' (some c) :=
 ⟨hb.os.trans h.os, hb.tape.trans h.tape, hb.output.trans h.output, Nat.le_trans h.size hb.size, fun k hk hn => (hb.block k hk).trans (h.block k hk hn)⟩
end Go.Proofs.YthbdgdfanpbkeaaGreat
