/-
  Contracts of the law's own helpers over lists of texts: markText, eqStringS, markStringS, heldStringS.
-/
import Derived.Test.YthingngbpkbmbaiDoorPartsI
import Derived.Test.YthingngbpkbmbaiDoorVar
import Derived.Deep.RegionHeld3
import Derived.Laws.OwnMore
namespace Go.Proofs.YthingngbpkbmbaiDoor
open Go.RowKit

/-- The last figure of a number. -/
def mfig (n : Nat) : UInt8 := UInt8.ofNat (48 + n % 10)
/-- The figures of a number above 0. -/
def mdg (n : Nat) : List UInt8 := if _h : n = 0 then [] else mdg (n / 10) ++ [mfig n]
theorem mdg_zero : mdg 0 = [] := by rw [mdg, dif_pos rfl]
theorem mdg_pos {n : Nat} (h : n ≠ 0) : mdg n = mdg (n / 10) ++ [mfig n] := by rw [mdg, dif_neg h]
theorem mdg_step {m n : Nat} {ds : List UInt8} (h : mdg m ++ ds = mdg n) (hm : m ≠ 0) : mdg (m / 10) ++ (mfig m :: ds) = mdg n := by
  rw [← h, mdg_pos hm]; simp
theorem mdg_len (n : Nat) : (mdg n).length ≤ n := by
  induction n using Nat.strongRecOn with
  | _ n ih =>
    by_cases h : n = 0
    · subst h; rw [mdg_zero]; exact Nat.le_refl _
    · rw [mdg_pos h]
      have := ih (n / 10) (by omega)
      simp; omega
/-- What markText answers of a number above 0. -/
def mt (k : Nat) : List UInt8 := 109 :: mdg k

theorem conv_oneM (m : Nat) (W : World) : (convert 31 9 (.slice (some ⟨W.heap.size, 0, none⟩) 1 1)).run Tryd.prog (W.alloc (.cells #[.int .u8 (48 + (m : Int) % 10)] 5)) = .ok (.string ⟨#[mfig m]⟩) (W.alloc (.cells #[.int .u8 (48 + (m : Int) % 10)] 5)) := by
  have ho := World.ownsRow_lit (base := W.heap.size) (e := 5) (size := 1) W #[.int .u8 (48 + (m : Int) % 10)] 1 (Nat.le_refl _) (by decide) rfl
  have e : (#[Value.int .u8 (48 + (m : Int) % 10)]).toList = [mfig m].map cellB := by
    unfold mfig
    simp only [List.map_cons, List.map_nil, cellB_of (show 48 + m % 10 < 256 by omega)]
    simp
  rw [e] at ho
  exact conv_own ho
theorem cat_oneM (f : UInt8) (ds : List UInt8) : (⟨#[f]⟩ : ByteArray) ++ (⟨ds.toArray⟩ : ByteArray) = ⟨(f :: ds).toArray⟩ := by
  apply ByteArray.ext
  simp [ByteArray.data_append]

set_option maxHeartbeats 800000 in
set_option maxRecDepth 100000 in
theorem markText_any (k : Nat) (w : World) (h1 : 1 ≤ k) (hk : k ≤ 1000000000000) : Calls Tryd.prog 12 #[.int .i64 k] w fun e w' => e = .returned (cellS (mt k)) ∧ Below w.heap.size w w' := by
  have hpos : ¬ (k : Int) ≤ 0 := by omega
  go_enter Tryd.func12, Tryd.ntmps12
  go_wp2
  go_loopw [3, 0] (fun sv kv wr => ∃ (m : Nat) (ds : List UInt8), m ≤ k ∧ kv = .int .i64 m ∧ sv = .string ⟨ds.toArray⟩ ∧ Hid (mdg m ++ ds = mdg k) ∧ Below w.heap.size w wr) (fun _ kv _ => (intOf kv).toNat)
  case atStart => exact ⟨k, [], Nat.le_refl _, rfl, rfl, by show _ = _; simp, Below.refl _ _⟩
  case round =>
    obtain ⟨m, ds, hm, rfl, rfl, HD, hbel⟩ := hrel
    have hdl : ds.length ≤ k := by
      have h1 := mdg_len k
      rw [← HD.out] at h1
      simp at h1
      omega
    by_cases hm0 : m = 0
    · subst hm0
      have HF : Hid (ds = mdg k) := by have := HD.out; rw [mdg_zero] at this; exact this
      go_wp2
      go_ret
      exact ⟨by rw [HF.out]; rfl, hbel⟩
    · have hmp : (0 : Int) < (m : Int) := by omega
      have hcv := conv_oneM m
      go_wp2
      go_roundw
      case rel => exact ⟨m / 10, mfig m :: ds, by omega, by go_num, by rw [cat_oneM], mdg_step HD.out hm0, hbel.alloc hbel.size _⟩
      case measure => simp [intOf]; omega

/-- A list of texts, as a slice value reads it. -/
def StrAt (w : World) (v : Value) (l : List (List UInt8)) : Prop :=
  ∃ ao cap, v = .slice ao l.length cap ∧ (0 < l.length → ∃ g, ao = some ⟨g, 0, none⟩ ∧ g < w.heap.size ∧ ∀ j (hj : j < l.length), w.cell? ⟨g, j, none⟩ = some (cellS l[j]))
theorem StrAt.below {w w' : World} {v : Value} {l : List (List UInt8)} (h : StrAt w v l) (hb : Below w.heap.size w w') : StrAt w' v l := by
  obtain ⟨ao, cap, hv, hc⟩ := h
  refine ⟨ao, cap, hv, fun hn => ?_⟩
  obtain ⟨g, hg, hlt, hcs⟩ := hc hn
  exact ⟨g, hg, Nat.lt_of_lt_of_le hlt hb.size, fun j hj => (hb.cell (p := ⟨g, j, none⟩) hlt).trans (hcs j hj)⟩
theorem StrAt.of_own {w : World} {base : Nat} {v : Value} {l : List (List UInt8)} (h : w.ownsRow base 9 1 v l.length (l.map cellS)) : StrAt w v l := by
  rcases h.2 with ⟨h1, h0⟩ | ⟨g, cap, cur, rfl, hb, hg, hnc, hcm, hcs, ht⟩
  · exact ⟨none, 0, by rw [h1, h0], fun hn => by omega⟩
  · refine ⟨some ⟨g, 0, none⟩, cap, rfl, fun _ => ⟨g, rfl, (h.lt g rfl).2, fun j hj => ?_⟩⟩
    rw [h.cellAt j (by omega)]
    simp [hj]

set_option maxHeartbeats 800000 in
set_option maxRecDepth 100000 in
theorem eqStringS_same (a b : Value) (l : List (List UInt8)) (w : World) (hl : l.length ≤ 1000000000) (ha : StrAt w a l) (hb : StrAt w b l) : Calls Tryd.prog 6 #[a, b] w fun e w' => e = .returned (.bool true) ∧ Below w.heap.size w w' := by
  obtain ⟨ao, ca, rfl, hca⟩ := ha
  obtain ⟨bo, cb, rfl, hcb⟩ := hb
  have HA : Hid (0 < l.length → ∃ g, ao = some ⟨g, 0, none⟩ ∧ g < w.heap.size ∧ ∀ j (hj : j < l.length), w.cell? ⟨g, j, none⟩ = some (cellS l[j])) := hca
  have HB : Hid (0 < l.length → ∃ g, bo = some ⟨g, 0, none⟩ ∧ g < w.heap.size ∧ ∀ j (hj : j < l.length), w.cell? ⟨g, j, none⟩ = some (cellS l[j])) := hcb
  clear hca hcb
  go_enter Tryd.func6, Tryd.ntmps6
  go_wp2
  go_loopw [5] (fun iv wr => ∃ k : Nat, k ≤ l.length ∧ iv = .int .i64 k ∧ Below w.heap.size w wr) (fun iv _ => l.length - (intOf iv).toNat)
  case atStart => exact ⟨0, Nat.zero_le _, rfl, Below.refl _ _⟩
  case round =>
    obtain ⟨k, hk, rfl, hbel⟩ := hrel
    by_cases hlt : k < l.length
    · obtain ⟨ga, hao, hga, hca⟩ := HA.out (by omega)
      obtain ⟨gb, hbo, hgb, hcb⟩ := HB.out (by omega)
      have c1 : wr.cell? ⟨ga, k, none⟩ = some (.string ⟨l[k].toArray⟩) := (hbel.cell (p := ⟨ga, k, none⟩) hga).trans (hca k hlt)
      have c2 : wr.cell? ⟨gb, k, none⟩ = some (.string ⟨l[k].toArray⟩) := (hbel.cell (p := ⟨gb, k, none⟩) hgb).trans (hcb k hlt)
      generalize l[k] = x at *
      subst hao hbo
      clear hca hcb
      have hki : (k : Int) < (l.length : Int) := by omega
      have hk0 : (0 : Int) ≤ (k : Int) := by omega
      go_wp2_with fail
      go_region_held3 (fun w' => w'.cell? ⟨ga, k, none⟩ = some (.string ⟨x.toArray⟩) ∧ w'.cell? ⟨gb, k, none⟩ = some (.string ⟨x.toArray⟩)) (go_keep) (fail)
      all_goals
        go_wp2
        go_roundw
        case rel => exact ⟨k + 1, by omega, by go_num, hbel.drew⟩
        case measure => simp [intOf]; omega
    · go_wp2
      go_ret
      exact ⟨rfl, hbel⟩
end Go.Proofs.YthingngbpkbmbaiDoor
