/-
  Texts of the proof, one behind the other: NatL, HexP, FigP.
-/
import Derived.Deep.RegionHeld3
import Derived.Deep.AppendLies
import Derived.Test.YtfgkpjjjjnollaaGreatDoorSC1
import Derived.Test.YtfgkpjjjjnollaaGreatDoorSC23

/-
  The program's extended and naturalOf: a number, figure by figure from above.
-/
namespace Go.Proofs.YtfgkpjjjjnollaaGreatDoor
open Go.RowKit

/-- What figures to a base are worth, the highest first. -/
def horn (b : Int) (l : List Int) : Int := l.foldl (fun acc x => acc * b + x) 0
theorem horn_snoc (b : Int) (l : List Int) (x : Int) : horn b (l ++ [x]) = horn b l * b + x := by simp [horn]
theorem horn_take {b : Int} {l : List Int} {k : Nat} (h : k < l.length) : horn b (l.take (k + 1)) = horn b (l.take k) * b + l.getD k 0 := by
  rw [List.take_add_one, show l[k]?.toList = [l.getD k 0] by simp [List.getD, h], horn_snoc]
theorem horn_bd {b : Int} (hb : 1 ≤ b ∧ b ≤ 10000) : ∀ (l : List Int), (∀ x ∈ l, 0 ≤ x ∧ x < b) → 0 ≤ horn b l ∧ horn b l < 10000 ^ l.length := by
  suffices H : ∀ (n : Nat) (l : List Int), l.length = n → (∀ x ∈ l, 0 ≤ x ∧ x < b) → 0 ≤ horn b l ∧ horn b l < 10000 ^ l.length from fun l => H l.length l rfl
  intro n
  induction n with
  | zero =>
    intro l hl _
    rw [List.eq_nil_of_length_eq_zero hl]
    simp [horn]
  | succ n ih =>
    intro l0 hl h
    obtain ⟨l, x, rfl⟩ : ∃ l x, l0 = l ++ [x] := ⟨l0.dropLast, l0.getLast (fun e => by rw [e] at hl; simp at hl), (List.dropLast_concat_getLast _).symm⟩
    have hln : l.length = n := by simpa using hl
    have hx := h x (by simp)
    have hi := ih l hln fun y hy => h y (by simp [hy])
    rw [horn_snoc, List.length_append, List.length_singleton, pw_succ]
    have h1 := Int.mul_nonneg hi.1 (show 0 ≤ b by omega)
    have h2 := Int.mul_le_mul_of_nonneg_right (show horn b l ≤ 10000 ^ l.length - 1 by omega) (show 0 ≤ b by omega)
    have h3 := Int.mul_le_mul_of_nonneg_left hb.2 (Int.le_of_lt (pw_pos l.length))
    rw [Int.sub_mul, Int.one_mul] at h2
    omega

/-- Where the extending stands. -/
structure Ex (l0 : List Int) (b x : Int) (k : Nat) (L : List Int) (c : Int) : Prop where
  len : L.length = l0.length
  dig : Dig L
  val : ev (L.take k) + 10000 ^ k * c = ev (l0.take k) * b + x
  small : 0 ≤ c ∧ c < b
  hi : ∀ j, k ≤ j → L.getD j 0 = l0.getD j 0
theorem Ex.start {l0 : List Int} {b x : Int} (h : Dig l0) (hx : 0 ≤ x ∧ x < b) : Ex l0 b x 0 l0 x := ⟨rfl, h, by simp [ev], hx, fun _ _ => rfl⟩
theorem ext_prod {z b : Int} (hz : 0 ≤ z ∧ z ≤ 9999) (hb : 1 ≤ b ∧ b ≤ 1000) : 0 ≤ z * b ∧ z * b ≤ 9999 * b := by
  have h1 := Int.mul_le_mul_of_nonneg_right hz.2 (show 0 ≤ b by omega)
  have h2 := Int.mul_nonneg hz.1 (show 0 ≤ b by omega)
  omega
theorem Ex.step {l0 : List Int} {b x : Int} {k : Nat} {L : List Int} {c : Int} (h : Ex l0 b x k L c) (hb : 1 ≤ b ∧ b ≤ 1000) (hk : k < l0.length) :
    Ex l0 b x (k + 1) (L.set k ((L.getD k 0 * b + c) % 10000)) ((L.getD k 0 * b + c) / 10000) := by
  have hl := h.len
  have hkl : k < L.length := by omega
  have h1 := ext_prod (h.dig.getD k) hb
  have hs := h.small
  have h2 := h.hi k (Nat.le_refl _)
  refine ⟨by simp [hl], ?_, ?_, by omega, fun j hj => ?_⟩
  · refine dig_of_getD fun j _ => ?_
    rw [getD_set _ hkl]
    split
    · omega
    · exact h.dig.getD j
  · have e1 : ev ((L.set k ((L.getD k 0 * b + c) % 10000)).take k) = ev (L.take k) := ev_congr k fun j hj => by rw [getD_set _ hkl, if_neg (by omega)]
    rw [ev_take_succ, e1, getD_set _ hkl, if_pos rfl, ev_take_succ, pw_succ]
    have hv := h.val
    have e := Int.emod_add_mul_ediv (L.getD k 0 * b + c) 10000
    generalize (L.getD k 0 * b + c) % 10000 = r at *
    generalize (L.getD k 0 * b + c) / 10000 = q at *
    have e' : r = L.getD k 0 * b + c - 10000 * q := by omega
    rw [e', h2]
    grind
  · rw [getD_set _ hkl, if_neg (by omega)]
    exact h.hi j (by omega)
theorem Ex.full {l0 : List Int} {b x : Int} {L : List Int} {c : Int} (h : Ex l0 b x l0.length L c) : ev L + 10000 ^ l0.length * c = ev l0 * b + x := by
  have hv := h.val
  have hl := h.len
  rw [ev_take_all l0 (Nat.le_refl _), ev_take_all L (by omega)] at hv
  exact hv
theorem Ex.more {l0 : List Int} {b x : Int} {L : List Int} {c : Int} (h : Ex l0 b x l0.length L c) (hb : b ≤ 1000) (hc : 0 < c) : L ++ [c] = digs (ev l0 * b + x) := by
  have hs := h.small
  refine eq_digs_of (dig_snoc h.dig (by omega)) (fun _ => ?_) ?_
  · have : (L ++ [c]).getD ((L ++ [c]).length - 1) 0 = c := by simp [List.getD]
    rw [this]
    omega
  · rw [ev_snoc, h.len]
    exact h.full
theorem Ex.same {l0 : List Int} {b x : Int} {L : List Int} {c : Int} (h : Ex l0 b x l0.length L c) (hd : Dig l0) (ht : Top l0) (hb : 1 ≤ b) (hx : 0 ≤ x) (hc : c = 0) : L = digs (ev l0 * b + x) := by
  have hf := h.full
  rw [hc, Int.mul_zero, Int.add_zero] at hf
  refine eq_digs_of h.dig (top_of_ge h.dig fun h0 => ?_) hf
  rw [hf]
  have hl := h.len
  have h1 := ev_ge hd ht (by omega)
  have h2 := ev_nonneg hd
  have h3 := Int.mul_le_mul_of_nonneg_left hb h2
  rw [hl]
  omega

set_option maxHeartbeats 1600000 in
set_option maxRecDepth 100000 in
theorem extended_any (v : Value) (l0 : List Int) (b x : Int) (base : Nat) (w : World) (hl : l0.length ≤ 1000) (hb : 1 ≤ b ∧ b ≤ 1000) (hx : 0 ≤ x ∧ x < b) (hd : Dig l0) (ht : Top l0) (hbase : base ≤ w.heap.size) (hv : OwnI w base v l0) :
    Calls Tryz.prog 233 #[v, .int .i64 b, .int .i64 x] w fun e w' => ∃ v', e = .returned v' ∧ OwnI w' base v' (digs (ev l0 * b + x)) ∧ Below base w w' := by
  obtain ⟨i0, hi, hz0, hz1, hz2⟩ := info_parts info3
  obtain ⟨n, hn⟩ : ∃ n, l0.length = n := ⟨_, rfl⟩
  obtain ⟨ao, cap, rfl, hc, hcap, hcm⟩ := hv.shape
  unfold maxLen at hcm
  rw [hn] at hc hcap hl
  have hv' : OwnI w base (.slice ao n cap) l0 := hn ▸ hv
  rw [hn]
  have HN : Hid (l0.length = n) := hn
  have HC : Hid (0 < n → ∃ g, ao = some ⟨g, 0, none⟩) := hc
  have HV : Hid (OwnI w base (.slice ao n cap) l0) := hv'
  have HD : Hid (Dig l0 ∧ Top l0) := ⟨hd, ht⟩
  clear hc hv hv' hn hd ht
  go_enter Tryz.func233, Tryz.ntmps233
  go_wp2
  go_loopw [7, 13] (fun cv iv wr => ∃ (k : Nat) (L : List Int) (c : Int), k ≤ n ∧ iv = .int .i64 k ∧ cv = .int .i64 c ∧ 0 ≤ c ∧ c < b ∧ Hid (Ex l0 b x k L c ∧ OwnI wr base (.slice ao n cap) L ∧ Below base w wr)) (fun _ iv _ => n - (intOf iv).toNat)
  case atStart => exact ⟨0, l0, x, Nat.zero_le _, rfl, rfl, hx.1, hx.2, Ex.start HD.out.1 hx, HV.out, Below.refl _ _⟩
  case round =>
    obtain ⟨k, L, c, hk, rfl, rfl, hc0, hc1, H⟩ := hrel
    have hLl : L.length = n := by rw [H.out.1.len]; exact HN.out
    by_cases hlt : k < n
    · obtain ⟨g, hao⟩ := HC.out (by omega)
      subst hao
      have hO : OwnI wr base (.slice (some ⟨g, 0, none⟩) L.length cap) L := by rw [hLl]; exact H.out.2.1
      have hu := hO.cell (j := k) (by omega)
      have hf := hO.frozen k
      have hzd := H.out.1.dig.getD k
      have hpr := ext_prod hzd hb
      have HX : Hid (Ex l0 b x (k + 1) (L.set k ((L.getD k 0 * b + c) % 10000)) ((L.getD k 0 * b + c) / 10000) ∧ (∀ y, OwnI (wr.setCell ⟨g, k, none⟩ (.int .i64 y)) base (.slice (some ⟨g, 0, none⟩) n cap) (L.set k y)) ∧ ∀ y, Below base w (wr.setCell ⟨g, k, none⟩ (.int .i64 y))) := by
        refine ⟨H.out.1.step hb (by rw [HN.out]; exact hlt), fun y => ?_, fun y => Below.setCell (p := ⟨g, k, none⟩) H.out.2.2 hO.lt.1 _⟩
        have h := hO.set k y
        rw [List.length_set, hLl] at h
        exact h
      have hsm := H.out.1.step hb (by rw [HN.out]; exact hlt)
      have hs2 := hsm.small
      clear H hO hLl hsm
      generalize L.getD k 0 = z at *
      have hki : (k : Int) < (n : Int) := by omega
      have hk0 : (0 : Int) ≤ (k : Int) := by omega
      go_wp2_with fail
      go_roundw
      case rel => exact ⟨k + 1, _, _, by omega, by go_num, rfl, by omega, by omega, HX.out.1, HX.out.2.1 _, HX.out.2.2 _⟩
      case measure => simp [intOf]; omega
    · have hkn : k = n := by omega
      subst hkn
      have HE : Hid (Ex l0 b x l0.length L c) := by rw [HN.out]; exact H.out.1
      by_cases hcp : 0 < c
      · have hsz : base ≤ wr.heap.size := Nat.le_trans hbase H.out.2.2.size
        have hown : wr.ownsRow base 3 1 (.slice ao k cap) k (cellsI L) := by
          have h := H.out.2.1
          unfold OwnI at h
          rw [hLl] at h
          exact h
        go_wp2_with (at_builtin; refine wpList_append_own _ rfl _ _ 187 rfl base 3 i0 (.int .i64 0) 1 8 Tryz.underlying187 hi hz0 hz1 hz2 rfl (by decide) _ _ _ rfl (hown.alloc _) ⟨wr.heap.size, 0, none⟩ 1 1 [.int .i64 c] rfl rfl (one_new _ _ _) (one_int c) (by unfold maxLen; omega) (by omega) (size_ok hsz _) ?_)
        intro v' w4 hown' hgrow _
        have HF : Hid (OwnI w4 base v' (digs (ev l0 * b + x)) ∧ Below base w w4) := by
          refine ⟨?_, (H.out.2.2.alloc hsz _).grown hgrow (size_ok hsz _) (fun j hj => (hown.lt j hj).1)⟩
          rw [← HE.out.more hb.2 hcp]
          unfold OwnI
          rw [cellsI_append, List.length_append, hLl]
          exact hown'
        clear hown hown' hgrow H
        go_wp2
        go_ret
        exact ⟨_, rfl, HF.out⟩
      · have HF : Hid (L = digs (ev l0 * b + x)) := HE.out.same HD.out.1 HD.out.2 hb.1 hx.1 (by omega)
        go_wp2
        go_ret
        exact ⟨_, rfl, by rw [← HF.out]; exact H.out.2.1, H.out.2.2⟩
end Go.Proofs.YtfgkpjjjjnollaaGreatDoor

/-
  What Hex answers, and the contract of the specification's l01Figure.
-/
namespace Go.Proofs.YtfgkpjjjjnollaaGreatDoor
open Go.RowKit

/-- The figure of a number below 16. -/
def fig (x : Nat) : UInt8 := if x < 10 then UInt8.ofNat (48 + x) else UInt8.ofNat (97 + x - 10)
theorem take_snoc (s : ByteArray) (k : Nat) (h : k < s.size) : s.data.toList.take (k + 1) = s.data.toList.take k ++ [s[k]] := by
  rw [List.take_succ_eq_append_getElem (by simpa using h)]; rfl
theorem take_all (s : ByteArray) (k : Nat) (h : ¬ k < s.size) : s.data.toList.take k = s.data.toList :=
  List.take_of_length_le (by have : s.data.size = s.size := rfl; simp; omega)
theorem size_alloc_drew (wr : World) (o : Obj) : ((wr.alloc o).drew).heap.size = wr.heap.size + 1 := by
  show (wr.heap.push o).size = _
  simp
theorem block_over {wr : World} {b g n cap : Nat} {v : Value} (hb : b < wr.heap.size) (hv : v.ownBlock ≠ some b) (hat : v.ownBlock = some g ∨ g = wr.heap.size + 1) : (Value.slice (some ⟨g, 0, none⟩) n cap).ownBlock ≠ some b := by
  intro e
  have e2 : g = b := by simpa [Value.ownBlock] using e
  subst e2
  rcases hat with h | h
  · exact hv h
  · omega

end Go.Proofs.YtfgkpjjjjnollaaGreatDoor

/-
  Plain facts alone: what a figure is worth to a base, and what a row of figures is worth.
-/
namespace Go.Proofs.YtfgkpjjjjnollaaGreatDoor

/-- What a figure is worth to a base; none where it is no figure of it. -/
def fval (base : Nat) (b : UInt8) : Option Nat := (List.range base).find? fun x => fig x == b

theorem fval_hit {base m : Nat} {b : UInt8} (hm : m < base) (hf : fig m = b) (hn : ∀ x, x < m → fig x ≠ b) : fval base b = some m := by
  unfold fval
  rw [List.find?_range_eq_some]
  refine ⟨by simp [hf], by simpa using hm, fun j hj => ?_⟩
  have := hn j hj
  simp [this]
theorem fval_miss {base : Nat} {b : UInt8} (hn : ∀ x, x < base → fig x ≠ b) : fval base b = none := by
  unfold fval
  rw [List.find?_eq_none]
  intro x hx
  have := hn x (by simpa using hx)
  simp [this]
theorem fval_lt {base m : Nat} {b : UInt8} (h : fval base b = some m) : m < base := by
  unfold fval at h
  rw [List.find?_range_eq_some] at h
  simpa using h.2.1

def fvals (base : Nat) : List UInt8 → Option (List Nat)
  | [] => some []
  | b :: r => match fval base b with
    | none => none
    | some x => (fvals base r).map (x :: ·)

theorem fvals_snoc {base : Nat} : ∀ {l : List UInt8} {vs : List Nat} {b : UInt8} {x : Nat}, fvals base l = some vs → fval base b = some x → fvals base (l ++ [b]) = some (vs ++ [x])
  | [], vs, b, x, h, hx => by simp [fvals] at h; subst h; simp [fvals, hx]
  | c :: r, vs, b, x, h, hx => by
    simp only [fvals, List.cons_append] at h ⊢
    cases hc : fval base c with
    | none => rw [hc] at h; simp at h
    | some y =>
      rw [hc] at h
      simp only [Option.map_eq_some_iff] at h
      obtain ⟨ws, h1, rfl⟩ := h
      simp [fvals_snoc h1 hx]
theorem fvals_none {base : Nat} : ∀ {l : List UInt8} {b : UInt8}, b ∈ l → fval base b = none → fvals base l = none
  | [], _, h, _ => by simp at h
  | c :: r, b, h, hx => by
    simp only [fvals]
    rcases List.mem_cons.1 h with rfl | h
    · rw [hx]
    · cases hc : fval base c with
      | none => rfl
      | some y => simp [fvals_none h hx]
theorem fvals_len {base : Nat} : ∀ {l : List UInt8} {vs : List Nat}, fvals base l = some vs → vs.length = l.length
  | [], vs, h => by simp [fvals] at h; subst h; rfl
  | c :: r, vs, h => by
    simp only [fvals] at h
    cases hc : fval base c with
    | none => rw [hc] at h; simp at h
    | some y =>
      rw [hc] at h
      simp only [Option.map_eq_some_iff] at h
      obtain ⟨ws, h1, rfl⟩ := h
      simp [fvals_len h1]
theorem fvals_lt {base : Nat} : ∀ {l : List UInt8} {vs : List Nat}, fvals base l = some vs → ∀ x ∈ vs, x < base
  | [], vs, h => by simp [fvals] at h; subst h; simp
  | c :: r, vs, h => by
    simp only [fvals] at h
    cases hc : fval base c with
    | none => rw [hc] at h; simp at h
    | some y =>
      rw [hc] at h
      simp only [Option.map_eq_some_iff] at h
      obtain ⟨ws, h1, rfl⟩ := h
      intro x hx
      rcases List.mem_cons.1 hx with rfl | hx
      · exact fval_lt hc
      · exact fvals_lt h1 x hx

/-- A number below 256 as a cell of a byte. -/
def cellN (x : Nat) : Value := .int .u8 (x : Int)

theorem all_bytes {p : UInt8 → Prop} (h : ∀ n, n < 256 → p (UInt8.ofNat n)) (b : UInt8) : p b := by
  have := h b.toNat b.toNat_lt
  rwa [UInt8.ofNat_toNat] at this

theorem fval10 (b : UInt8) : fval 10 b = if 48 ≤ b.toNat ∧ b.toNat ≤ 57 then some (b.toNat - 48) else none := by
  revert b
  refine all_bytes ?_
  decide +kernel
theorem byte_mem (s : ByteArray) (k : Nat) (h : k < s.size) : s[k] ∈ s.data.toList := by
  have : s[k] = s.data.toList[k]'(by simpa using h) := by simp; rfl
  rw [this]
  exact List.getElem_mem _
end Go.Proofs.YtfgkpjjjjnollaaGreatDoor
