/-
  Texts of the proof, one behind the other: NatE, ArgI.
-/
import Derived.Test.YtoildgknpfehoaaGreatDoorM8

/-
  The program's take: less by so many times another, in place.
-/
namespace Go.Proofs.YtoildgknpfehoaaGreatDoor
open Go.RowKit
/-- Where the taking stands. -/
structure Tk (L0 lb : List Int) (p : Nat) (og : Int) (k : Nat) (L : List Int) : Prop where
  len : L.length = L0.length
  val : ev L = ev L0 - 10000 ^ p * og * ev (lb.take k)
  hi : ∀ j, p + k ≤ j → L.getD j 0 = L0.getD j 0
  lo : ∀ j, j < p → L.getD j 0 = L0.getD j 0
  bd : ∀ j, -1000000000000 ≤ L.getD j 0 ∧ L.getD j 0 ≤ 1000000000000
theorem prod_bd {x og : Int} (hx : 0 ≤ x ∧ x ≤ 9999) (hog : -10000000 ≤ og ∧ og ≤ 10000000) : -100000000000 ≤ x * og ∧ x * og ≤ 100000000000 := by
  have h1 := Int.mul_le_mul_of_nonneg_left hog.1 hx.1
  have h2 := Int.mul_le_mul_of_nonneg_left hog.2 hx.1
  omega
theorem Tk.start {L0 lb : List Int} {p : Nat} {og : Int} (hd : Dig L0) : Tk L0 lb p og 0 L0 :=
  ⟨rfl, by simp [ev], fun _ _ => rfl, fun _ _ => rfl, fun j => by have := hd.getD j; omega⟩
theorem Tk.step {L0 lb : List Int} {p : Nat} {og : Int} {k : Nat} {L : List Int} (h : Tk L0 lb p og k L) (hd : Dig L0) (hdb : Dig lb) (hog : -10000000 ≤ og ∧ og ≤ 10000000) (hk : p + k < L0.length) :
    Tk L0 lb p og (k + 1) (L.set (p + k) (L.getD (p + k) 0 - lb.getD k 0 * og)) := by
  have hl := h.len
  have hkl : p + k < L.length := by omega
  have h1 := h.hi (p + k) (Nat.le_refl _)
  have h2 := hd.getD (p + k)
  have h3 := prod_bd (hdb.getD k) hog
  refine ⟨by simp [hl], ?_, fun j hj => ?_, fun j hj => ?_, fun j => ?_⟩
  · rw [ev_set _ hkl, h.val, ev_take_succ, pw_add]
    grind
  · rw [getD_set _ hkl, if_neg (by omega)]
    exact h.hi j (by omega)
  · rw [getD_set _ hkl, if_neg (by omega)]
    exact h.lo j hj
  · rw [getD_set _ hkl]
    split
    · omega
    · exact h.bd j

set_option maxHeartbeats 1600000 in
set_option maxRecDepth 100000 in
theorem take_any (g p m c cap base : Nat) (L0 lb : List Int) (vb : Value) (og : Int) (w : World) (hl : L0.length ≤ 1000000) (hpm : p + m ≤ L0.length) (hbm : lb.length ≤ m) (hd : Dig L0) (hdb : Dig lb) (hog : -10000000 ≤ og ∧ og ≤ 10000000)
    (hv : OwnI w base (.slice (some ⟨g, 0, none⟩) L0.length cap) L0) (hb : IntLo base w vb lb) :
    Calls Tryz.prog 78 #[.slice (some ⟨g, p, none⟩) m c, vb, .int .i64 og] w fun e w' => ∃ (L : List Int) (cy : Int), e = .returned (.int .i64 cy) ∧ L.length = L0.length ∧ ev L + 10000 ^ (p + m) * cy = ev L0 - 10000 ^ p * og * ev lb ∧ Dig L ∧ (∀ j, p + m ≤ j → L.getD j 0 = L0.getD j 0) ∧ OwnI w' base (.slice (some ⟨g, 0, none⟩) L.length cap) L ∧ w.grownBy w' (some g) := by
  obtain ⟨ao, cb, rfl, hcb⟩ := hb
  have HV : Hid (OwnI w base (.slice (some ⟨g, 0, none⟩) L0.length cap) L0) := hv
  have HB : Hid (0 < lb.length → ∃ g, ao = some ⟨g, 0, none⟩ ∧ g < base ∧ ∀ j (hj : j < lb.length), w.cell? ⟨g, j, none⟩ = some (.int .i64 lb[j])) := hcb
  have HD : Hid (Dig L0 ∧ Dig lb) := ⟨hd, hdb⟩
  clear hv hcb hd hdb
  go_enter Tryz.func78, Tryz.ntmps78
  go_wp2
  go_loopw [11] (fun iv wr => ∃ (k : Nat) (L : List Int), k ≤ lb.length ∧ iv = .int .i64 k ∧ Hid (Tk L0 lb p og k L ∧ OwnI wr base (.slice (some ⟨g, 0, none⟩) L.length cap) L ∧ w.grownBy wr (some g))) (fun iv _ => lb.length - (intOf iv).toNat)
  case atStart => exact ⟨0, L0, Nat.zero_le _, rfl, Tk.start HD.out.1, HV.out, World.grownBy.refl _ _⟩
  case round =>
    obtain ⟨k, L, hk, rfl, H⟩ := hrel
    by_cases hlt : k < lb.length
    · obtain ⟨gb, hao, hgb, hcs⟩ := HB.out (by omega)
      have hub : wr.cell? ⟨gb, k, none⟩ = some (.int .i64 (lb.getD k 0)) := by
        rw [(below_of_grown H.out.2.2 HV.out.lt.1 HV.out.lt.2).cell (p := ⟨gb, k, none⟩) hgb, hcs k hlt]; simp [List.getD, hlt]
      subst hao
      clear hcs hgb
      have hll : L.length = L0.length := H.out.1.len
      have hpk : p + k < L.length := by omega
      have hu := H.out.2.1.cell hpk
      have hf := H.out.2.1.frozen (p + k)
      have hbx := H.out.1.bd (p + k)
      have hpr := prod_bd (HD.out.2.getD k) hog
      have HN : Hid (Tk L0 lb p og (k + 1) (L.set (p + k) (L.getD (p + k) 0 - lb.getD k 0 * og)) ∧ (∀ y, OwnI (wr.setCell ⟨g, p + k, none⟩ (.int .i64 y)) base (.slice (some ⟨g, 0, none⟩) (L.set (p + k) y).length cap) (L.set (p + k) y)) ∧ ∀ y, w.grownBy (wr.setCell ⟨g, p + k, none⟩ (.int .i64 y)) (some g)) :=
        ⟨H.out.1.step HD.out.1 HD.out.2 hog (by omega), fun y => H.out.2.1.set (p + k) y, fun y => grown_trans H.out.2.2 (grown_set wr g (p + k) (.int .i64 y))⟩
      clear H hll hpk
      generalize L.getD (p + k) 0 = x at *
      generalize lb.getD k 0 = z at *
      have hki : (k : Int) < (m : Int) := by omega
      have hkl : (k : Int) < (lb.length : Int) := by omega
      have hk0 : (0 : Int) ≤ (k : Int) := by omega
      go_wp2
      go_roundw
      case rel => exact ⟨k + 1, _, by omega, by go_num, HN.out.1, HN.out.2.1 _, HN.out.2.2 _⟩
      case measure => simp [intOf]; omega
    · have hkm : k = lb.length := by omega
      subst hkm
      have hll : L.length = L0.length := H.out.1.len
      go_wp2_with fail
      refine (settle_any g p m c cap base L wr (by omega) (by omega) H.out.1.bd H.out.2.1).mono ?_
      rintro e w' ⟨L2, cy, rfl, hst, ho2, _, hb2⟩
      have HF : Hid (L2.length = L0.length ∧ ev L2 + 10000 ^ (p + m) * cy = ev L0 - 10000 ^ p * og * ev lb ∧ Dig L2 ∧ (∀ j, p + m ≤ j → L2.getD j 0 = L0.getD j 0) ∧ OwnI w' base (.slice (some ⟨g, 0, none⟩) L2.length cap) L2 ∧ w.grownBy w' (some g)) := by
        have hT := H.out.1
        refine ⟨by rw [hst.len, hll], by rw [hst.val, hT.val, ev_take_all lb (Nat.le_refl _)], dig_of_getD fun j _ => ?_, fun j hj => ?_, ho2, grown_trans H.out.2.2 hb2⟩
        · by_cases h1 : j < p
          · rw [hst.lo j h1, hT.lo j h1]; exact HD.out.1.getD j
          · by_cases h2 : j < p + m
            · exact hst.mid j (by omega) h2
            · rw [hst.hi j (by omega), hT.hi j (by omega)]; exact HD.out.1.getD j
        · rw [hst.hi j hj, hT.hi j (by omega)]
      clear hst ho2 hb2
      go_wp2
      go_ret
      exact ⟨L2, cy, rfl, HF.out⟩
end Go.Proofs.YtoildgknpfehoaaGreatDoor

/-
  The law's helpers over lists of numbers that came in, and over those that a call owns: toIntS, markIntS.
-/
namespace Go.Proofs.YtoildgknpfehoaaGreatDoor
open Go.RowKit

/-- Numbers that a machine's word holds. -/
def Wd (l : List Int) : Prop := ∀ x ∈ l, -9223372036854775808 ≤ x ∧ x ≤ 9223372036854775807
theorem Dig.wd {l : List Int} (h : Dig l) : Wd l := fun x hx => by have := h x hx; omega
/-- A list of numbers that came in, at whatever place. -/
def ArgAt (B : Nat) (w : World) (a0 : Option Addr) (l : List Int) : Prop := ∀ j, j < l.length → ∃ b off, a0 = some ⟨b, off, none⟩ ∧ b < B ∧ w.cell? ⟨b, off + j, none⟩ = some (.int .i64 (l.getD j 0))
theorem ArgAt.below {B : Nat} {w w' : World} {a0 : Option Addr} {l : List Int} (h : ArgAt B w a0 l) (hb : Below B w w') : ArgAt B w' a0 l := fun j hj => by
  obtain ⟨b, off, e, hbB, hc⟩ := h j hj
  exact ⟨b, off, e, hbB, (hb.cell (p := ⟨b, off + j, none⟩) hbB).trans hc⟩
theorem lt_of_cell {w : World} {p : Addr} {v : Value} (h : w.cell? p = some v) : p.block < w.heap.size := by
  rcases Nat.lt_or_ge p.block w.heap.size with h1 | h1
  · exact h1
  · unfold World.cell? at h
    rw [Array.getElem?_eq_none h1] at h
    simp at h
theorem argAt_of {W : World} {x : Addr} {len cap : Nat} {zs : List Int} (hl : len ≤ cap) (hz : zs.length = cap) (hcell : ∀ i, i < zs.length → W.cell? (x.add i) = some (.int .i64 (zs.getD i 0))) (hwz : ∀ n ∈ zs, (Lit.int .i64 n).wf = true) :
    (zs.take len).length = len ∧ Wd (zs.take len) ∧ ArgAt W.heap.size W (some x) (zs.take len) := by
  have hlen : (zs.take len).length = len := by simp; omega
  refine ⟨hlen, fun n hn => ?_, fun j hj => ?_⟩
  · have hw := hwz n (List.mem_of_mem_take hn)
    simpa [Lit.wf, IntKind.min, IntKind.max, IntKind.signed, IntKind.bits] using hw
  · rw [hlen] at hj
    have hc := hcell j (by omega)
    have hc0 := hcell 0 (by omega)
    obtain ⟨b, off, spot⟩ := x
    have hspot : spot = none := by simpa [Addr.add] using World.cell?_spot hc0
    subst hspot
    rw [Addr.add_lit] at hc
    refine ⟨b, off, rfl, lt_of_cell hc, ?_⟩
    rw [hc, getD_take hj]

/-- Two values that lie in no block together. -/
def Ap (u v : Value) : Prop := u.ownBlock = none ∨ u.ownBlock ≠ v.ownBlock
theorem OwnI.apart {w w' : World} {b b' : Nat} {u v : Value} {l l' : List Int} (hu : OwnI w b u l) (hv : OwnI w' b' v l') (hb : w.heap.size ≤ b') : Ap u v ∧ Ap v u := by
  rcases hv.2 with ⟨rfl, _⟩ | ⟨g', cap', cur', rfl, hbg', _⟩
  · refine ⟨?_, .inl rfl⟩
    rcases hu.2 with ⟨rfl, _⟩ | ⟨g, cap, cur, rfl, _⟩
    · exact .inl rfl
    · exact .inr (by simp [Value.ownBlock])
  · rcases hu.2 with ⟨rfl, _⟩ | ⟨g, cap, cur, rfl, _, hg, _⟩
    · exact ⟨.inl rfl, .inr (by simp [Value.ownBlock])⟩
    · have hlt : g < w.heap.size := by
        rcases Nat.lt_or_ge g w.heap.size with h | h
        · exact h
        · rw [Array.getElem?_eq_none h] at hg; cases hg
      exact ⟨.inr (by simp [Value.ownBlock]; omega), .inr (by simp [Value.ownBlock]; omega)⟩
theorem OwnI.aside {w w' : World} {b : Nat} {u v : Value} {l : List Int} (h : OwnI w b u l) (hg : w.grownBy w' v.ownBlock) (ha : Ap u v) : OwnI w' b u l := World.ownsRow.kept h hg ha
theorem OwnI.below_of {w w' : World} {b B : Nat} {v : Value} {l : List Int} (h : OwnI w b v l) (hg : w.grownBy w' v.ownBlock) (hb : B ≤ b) (hB : B ≤ w.heap.size) : Below B w w' :=
  (Below.refl _ _).grown hg hB (fun k hk => Nat.le_trans hb (World.ownsRow.lt h k hk).1)

end Go.Proofs.YtoildgknpfehoaaGreatDoor
