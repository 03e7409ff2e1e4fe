/-
  Texts of the proof.
-/
import Derived.Deep.LoopGhost
import Derived.Deep.RegionHeld3
import Derived.Test.YtcbjlbpkoneibaaGreatDoorSR22
set_option linter.unusedVariables false
set_option linter.unusedSimpArgs false
set_option maxRecDepth 100000
set_option maxHeartbeats 25600000
namespace Go.Proofs.YtcbjlbpkoneibaaGreatDoor
def fval (base : Nat) (b : UInt8) : Option Nat := (List.range base).find? fun x => fig x == b
theorem fval_hit {base m : Nat} {b : UInt8} (hm : m < base) (hf : fig m = b) (hn : ∀ x, x < m -> fig x ≠ b) : fval base b = some m := by
 unfold fval;rw [List.find?_range_eq_some];refine ⟨by simp [hf], by simpa using hm, fun j hj => ?_⟩;have := hn j hj;simp [this]
theorem fval_miss {base : Nat} {b : UInt8} (hn : ∀ x, x < base -> fig x ≠ b) : fval base b = none := by
 unfold fval;rw [List.find?_eq_none];intro x hx;have := hn x (by simpa using hx);simp [this]
theorem fval_lt {base m : Nat} {b : UInt8} (h : fval base b = some m) : m < base := by
 unfold fval at h;rw [List.find?_range_eq_some] at h;simpa using h.2.1
def fvals (base : Nat) : List UInt8 -> Option (List Nat)
 | [] => some []
 | b :: r => match fval base b with
  | none => none
  | some x => (fvals base r).map (x :: ·)
theorem fvals_snoc {base : Nat} : ∀ {l : List UInt8} {vs : List Nat} {b : UInt8} {x : Nat}, fvals base l = some vs -> fval base b = some x -> fvals base (l ++ [b]) = some (vs ++ [x])
 | [], vs, b, x, h, hx => by simp [fvals] at h; subst h; simp [fvals, hx]
 | c :: r, vs, b, x, h, hx => by
  simp only [fvals, List.cons_append] at h |-
  cases hc : fval base c with
  | none => rw [hc] at h; simp at h
  | some y =>
   rw [hc] at h;simp only [Option.map_eq_some_iff] at h;obtain ⟨ws, h1, rfl⟩ := h;simp [fvals_snoc h1 hx]
theorem fvals_none {base : Nat} : ∀ {l : List UInt8} {b : UInt8}, b ∈ l -> fval base b = none -> fvals base l = none
 | [], _, h, _ => by simp at h
 | c :: r, b, h, hx => by
  simp only [fvals]
  rcases List.mem_cons.1 h with rfl | h
  ·rw [hx]
  ·cases hc : fval base c with
   | none => rfl
   | some y => simp [fvals_none h hx]
theorem fvals_len {base : Nat} : ∀ {l : List UInt8} {vs : List Nat}, fvals base l = some vs -> vs.length = l.length
 | [], vs, h => by simp [fvals] at h; subst h; rfl
 | c :: r, vs, h => by
  simp only [fvals] at h
  cases hc : fval base c with
  | none => rw [hc] at h; simp at h
  | some y =>
   rw [hc] at h;simp only [Option.map_eq_some_iff] at h;obtain ⟨ws, h1, rfl⟩ := h;simp [fvals_len h1]
theorem fvals_lt {base : Nat} : ∀ {l : List UInt8} {vs : List Nat}, fvals base l = some vs -> ∀ x ∈ vs, x < base
 | [], vs, h => by simp [fvals] at h; subst h; simp
 | c :: r, vs, h => by
  simp only [fvals] at h
  cases hc : fval base c with
  | none => rw [hc] at h; simp at h
  | some y =>
   rw [hc] at h;simp only [Option.map_eq_some_iff] at h;obtain ⟨ws, h1, rfl⟩ := h;intro x hx
   rcases List.mem_cons.1 hx with rfl | hx
   ·exact fval_lt hc
   ·exact fvals_lt h1 x hx
def cellN (x : Nat) : Value := .int .u8 (x : Int)
theorem all_bytes {p : UInt8 -> Prop} (h : ∀ n, n < 256 -> p (UInt8.ofNat n)) (b : UInt8) : p b := by
 have := h b.toNat b.toNat_lt
 rwa [UInt8.ofNat_toNat] at this
theorem fval10 (b : UInt8) : fval 10 b = if 48 <= b.toNat /\ b.toNat <= 57 then some (b.toNat - 48) else none := by
 revert b
 refine all_bytes ?_
 decide +kernel
theorem byte_mem (s : ByteArray) (k : Nat) (h : k < s.size) : s[k] ∈ s.data.toList := by
 have : s[k] = s.data.toList[k]'(by simpa using h) := by simp; rfl
 rw [this];exact List.getElem_mem _
end Go.Proofs.YtcbjlbpkoneibaaGreatDoor
namespace Go.Proofs.YtcbjlbpkoneibaaGreatDoor
open Go.RowKit
theorem idx_fig_i (x : Nat) (h1 : x < 16) (w : World) : (Instr.index 9 (zG ⟨#[48, 49, 50, 51, 52, 53, 54, 55, 56, 57, 97, 98, 99, 100, 101, 102]⟩) (zI x)).run Tryz.prog w = .ok (.int .u8 ((fig x).toNat : Int)) w := by
 have h : x = 0 ∨ x = 1 ∨ x = 2 ∨ x = 3 ∨ x = 4 ∨ x = 5 ∨ x = 6 ∨ x = 7 ∨ x = 8 ∨ x = 9 ∨ x = 10 ∨ x = 11 ∨ x = 12 ∨ x = 13 ∨ x = 14 ∨ x = 15 := by omega
 rcases h with h | h | h | h | h | h | h | h | h | h | h | h | h | h | h | h <;> (subst h; show _ = _; kernel_rfl)
theorem cells_over1 {s : ByteArray} {wr w2 : World} {b : Nat} {v : Value} {o : Obj} (hb : b < wr.heap.size) (h : ∀ j (hj : j < s.size), wr.cell? ⟨b, j, none⟩ = some (.int .u8 ((s[j]'hj).toNat : Int))) (hv : v.ownBlock ≠ some b)
  (hg : (wr.alloc o).grownBy w2 v.ownBlock) : ∀ j (hj : j < s.size), w2.cell? ⟨b, j, none⟩ = some (.int .u8 ((s[j]'hj).toNat : Int)) := fun j hj => by
 refine hg.cell ?_ (fun e => hv e.symm);exact (((Below.refl wr.heap.size wr).alloc (Nat.le_refl _) o).cell (p := ⟨b, j, none⟩) hb).trans (h j hj)
theorem figureValues_any (s : ByteArray) (base : Nat) (w : World) (hs : s.size <= 1000000000000) (hbase : base <= 16) : Calls Tryz.prog 122 #[zG s, zI base] w fun e w' =>
  ∃ v, e = .returned (.tuple #[v, .bool (fvals base s.data.toList).isSome]) /\ zW w w' /\ (∀ vs, fvals base s.data.toList = some vs -> w'.ownsRow w.heap.size 5 1 v s.size (vs.map cellN)) := by
 obtain ⟨i0, hi, hz0, hz1, hz2⟩ := info_parts info5;have hcv := fun w => run_bytes_of_string (P := Tryz.prog) w 9 22 5 s Tryz.underlying9 Tryz.underlying22 Tryz.underlying5
 go_enter Tryz.func122, Tryz.ntmps122
 go_wp2
 go_step3
 go_wp2_with (at_make; refine wpList_make_own _ rfl _ _ 22 rfl w.heap.size 5 i0 (.int .u8 0) 1 Tryz.underlying22 hi hz0 hz1 .i64 .i64 _ s.size rfl rfl ?m1 ?m2 ?m3 ?m4 ?_)
 case m1 => omega
 case m2 => rw [hz2]; omega
 case m3 => unfold maxLen; omega
 case m4 => omega
 intro w1 hown1 hgrow1;have hb1 : zW w w1 := (Below.refl _ _).grown hgrow1 (Nat.le_refl _) (fun k hk => by cases hk);clear hgrow1
 go_wp2
 go_step3
 go_wp2
 generalize hC : grownCap w1 s.size 0 5 = C;have HC : Hid (grownCap w1 s.size 0 5 = C) := hC;have HCell : Hid (∀ j (hj : j < s.size), ((w1.alloc (.cells (bytesRow s C) 5 ((bytesRow s C).size, (bytesRow s C).size + 1))).drew).cell? ⟨w1.heap.size, j, none⟩ = some (.int .u8 ((s[j]'hj).toNat : Int))) := fun j hj => by
  show (w1.alloc (.cells (bytesRow s C) 5 ((bytesRow s C).size, (bytesRow s C).size + 1))).cell? ⟨w1.heap.size, j, none⟩ = _;rw [World.cell?_alloc_mark, bytesRow_at s C j hj]; rfl
 clear hC;have hs1 := hb1.size
 go_loopg [6, 16] s.size (fun g v i wr => ∃ (k : Nat) (vs : List Nat), k + g = s.size /\ i = zI k /\ Hid (fvals base (s.data.toList.take k) = some vs) /\ wr.ownsRow w.heap.size 5 1 v k (vs.map cellN) /\ zW w wr /\ w1.heap.size < wr.heap.size /\ Hid (∀ j (hj : j < s.size), wr.cell? ⟨w1.heap.size, j, none⟩ = some (.int .u8 ((s[j]'hj).toNat : Int))) /\ Hid (v.ownBlock ≠ some w1.heap.size))
 case atStart =>
  refine ⟨0, [], by omega, rfl, rfl, (hown1.alloc _).drew, (hb1.alloc hs1 _).drew, ?_, HCell, ?_⟩
  ·rw [size_alloc_drew]; omega
  ·intro e
   have e2 : w.heap.size = w1.heap.size := by simpa [Value.ownBlock] using e
   have := hown1.lt w.heap.size rfl;omega
 case round =>
  obtain ⟨k, vs, hkg, rfl, HV, hown, hbel, hwl, HJ, HG⟩ := hrel;have hsz := hbel.size;clear hown1 hb1 HCell hcv
  cases gk with
  | zero =>
   have hkz : ¬ ((k : Int) < (s.size : Int)) := by omega
   have HF : Hid (fvals base s.data.toList = some vs) := by have := HV.out; rwa [take_all s k (by omega)] at this
   have hks : k = s.size := by omega
   subst hks
   go_wp2
   try rw [Exit.noGoto_ret]
   go_ret2
   exact ⟨_, by rw [HF.out]; rfl, hbel, fun us hu => by rw [HF.out] at hu; cases hu; exact hown⟩
  | succ g =>
   have hlt : k < s.size := by omega
   have hki : (k : Int) < (s.size : Int) := by omega
   have hck := HJ.out k hlt;have hc := s[k].toNat_lt
   go_wp2
   go_loopg [6, 21] base (fun g2 v m wy => ∃ mm : Nat, mm + g2 = base /\ m = zI mm /\ Hid (∀ x, x < mm -> fig x ≠ s[k]) /\ wy.ownsRow w.heap.size 5 1 v k (vs.map cellN) /\ Hid (v.ownBlock ≠ some w1.heap.size) /\ wr = wy)
   case atStart => exact ⟨0, by omega, rfl, fun x hx => by omega, hown, HG, rfl⟩
   case round =>
    obtain ⟨m, hmg, rfl, HX, hown2, HG2, rfl⟩ := hrel;clear hown HG
    cases gk with
    | zero =>
     have hmz : ¬ ((m : Int) < (base : Int)) := by omega
     have HF : Hid (fvals base s.data.toList = none) := fvals_none (b := s[k]) (byte_mem s k hlt) (fval_miss (fun x hx => HX.out x (by omega)))
     go_wp2
     try rw [Exit.noGoto_ret]
     go_ret2
     exact ⟨_, by rw [HF.out]; rfl, hbel, fun us hu => by rw [HF.out] at hu; cases hu⟩
    | succ g2 =>
     have hmz : (m : Int) < (base : Int) := by omega
     have hm16 : m < 16 := by omega
     have hix := idx_fig_i m (by omega);by_cases hf : fig m = s[k]
     ·have hq : (((fig m).toNat : Int) == (s[k].toNat : Int)) = true := by simp [hf]
      have HV2 : Hid (fvals base (s.data.toList.take (k + 1)) = some (vs ++ [m])) := by
       have e := fvals_snoc HV.out (fval_hit (base := base) (by omega) hf HX.out);rw [<- take_snoc s k hlt] at e;exact e
      go_wp2_with (at_builtin; refine wpList_append_lies _ rfl _ _ 22 rfl w.heap.size 5 i0 (.int .u8 0) 1 1 Tryz.underlying22 hi hz0 hz1 hz2 rfl (by decide) _ _ _ rfl (hown2.alloc _) ⟨wr.heap.size, 0, none⟩ 1 1 [.int .u8 (m : Int)] rfl rfl ?d1 ?d2 ?d3 ?d4 ?d5 ?d6 (wr.heap.size + 1) ?d7 ?_)
      case d1 => exact one_new _ _ _
      case d2 => intro u hu; simp at hu; subst hu; rfl
      case d3 => exact Nat.one_pos
      case d4 => unfold maxLen; omega
      case d5 => omega
      case d6 => simp; omega
      case d7 => simp
      intro gg cap w2 hown3 hgrow hat _;have ho3 : w2.ownsRow w.heap.size 5 1 (zS (some ⟨gg, 0, none⟩) (k + 1) cap) (k + 1) ((vs ++ [m]).map cellN) := by rw [List.map_append]; exact hown3
      have hb3 : zW w w2 := (hbel.alloc hsz _).grown hgrow (by simp; omega) (fun j hj => (hown2.lt j hj).1);have hj3 : Hid (∀ j (hj : j < s.size), w2.cell? ⟨w1.heap.size, j, none⟩ = some (.int .u8 ((s[j]'hj).toNat : Int))) := cells_over1 hwl HJ.out HG2.out hgrow;have hg3 : Hid ((Value.slice (some ⟨gg, 0, none⟩) (k + 1) cap).ownBlock ≠ some w1.heap.size) := block_over hwl HG2.out hat;have hl3 : w1.heap.size < w2.heap.size := by have := hgrow.size; simp at this; omega
      clear hown3 hgrow hat HJ HG2 hown2 hix hck
      go_wp2
      go_roundg g
      case measure => omega
      case rel => exact ⟨k + 1, vs ++ [m], by omega, by first | rfl | go_num, HV2, ho3, hb3, hl3, hj3, hg3⟩
     ·have hq : (((fig m).toNat : Int) == (s[k].toNat : Int)) = false := by
       simp only [beq_eq_false_iff_ne, ne_eq];intro e;exact hf (u8_eq (by omega))
      go_wp2
      go_roundg g2
      case measure => omega
      case rel =>
       refine ⟨m + 1, by omega, by first | rfl | go_num, fun x hx => ?_, hown2, HG2, rfl⟩;by_cases e : x = m
       ·subst e; exact hf
       ·exact HX.out x (by omega)
theorem okL_digs {x : Int} (h : 0 <= x) (hx : x < 10000 ^ 40) : okL (digs x) = true := okL_yes (digs_len h hx) (dig_digs x) (top_digs x)
theorem addL_digs {x y : Int} (hx : 0 <= x) (hy : 0 <= y) (h : x + y < 10000 ^ 40) : addL (digs x) (digs y) = digs (x + y) := by
 unfold addL limL;rw [if_pos ⟨okL_digs hx (by omega), okL_digs hy (by omega)⟩, ev_digs hx, ev_digs hy, if_pos (digs_len (by omega) h)]
theorem pb_le {b : Int} (hb : 1 <= b) {j k : Nat} (h : j <= k) : b ^ j <= b ^ k := by
 obtain ⟨d, rfl⟩ := Nat.exists_eq_add_of_le h;rw [Int.pow_add];have h1 := Int.mul_le_mul_of_nonneg_left (show 1 <= b ^ d from Int.pow_pos (by omega)) (Int.le_of_lt (Int.pow_pos (n := b) (m := j) (by omega)))
 rwa [Int.mul_one] at h1
theorem horn_lt {b : Int} (hb : 1 <= b) : ∀ (n : Nat) (l : List Int), l.length = n -> (∀ x ∈ l, 0 <= x /\ x < b) -> 0 <= horn b l /\ horn b l < b ^ n := by
 intro n
 induction n with
 | zero =>
  intro l hl _;rw [List.eq_nil_of_length_eq_zero hl];simp [horn]
 | succ n ih =>
  intro l0 hl h;obtain ⟨l, x, rfl⟩ : ∃ l x, l0 = l ++ [x] := ⟨l0.dropLast, l0.getLast (fun e => by rw [e] at hl; simp at hl), (List.dropLast_concat_getLast _).symm⟩;have hln : l.length = n := by simpa using hl
  have hx := h x (by simp);have hi := ih l hln fun y hy => h y (by simp [hy])
  rw [horn_snoc, Int.pow_succ];have h1 := Int.mul_nonneg hi.1 (show 0 <= b by omega);have h2 := Int.mul_le_mul_of_nonneg_right (show horn b l <= b ^ n - 1 by omega) (show 0 <= b by omega);rw [Int.sub_mul, Int.one_mul] at h2;omega
theorem horn_lim {b : Int} (hb : 1 <= b) {N : Nat} (hN : b ^ N < 10000 ^ 40) {l : List Int} (h : ∀ x ∈ l, 0 <= x /\ x < b) {k : Nat} (hk : k <= N) : 0 <= horn b (l.take k) /\ horn b (l.take k) < 10000 ^ 40 := by
 have h1 := horn_lt hb (l.take k).length (l.take k) rfl (fun x hx => h x (List.mem_of_mem_take hx));have h2 := pb_le hb (show (l.take k).length <= N by simp; omega);omega
theorem below_go {a b c : World} (h1 : zW a b) (h2 : zW b c) : zW a c := h1.trans (h2.mono h1.size)
def bytesI (s : ByteArray) : List Int := s.data.toList.map fun b => (b.toNat : Int)
theorem bytesI_len (s : ByteArray) : (bytesI s).length = s.size := by simp [bytesI]
theorem bytesI_getD {s : ByteArray} {k : Nat} (h : k < s.size) : (bytesI s).getD k 0 = ((s[k]'h).toNat : Int) := by
 have h2 : s.data[k]? = some (s.data[k]'h) := Array.getElem?_eq_getElem h;simp [bytesI, List.getD, h2];rfl
theorem bytesI_bd (s : ByteArray) : ∀ x ∈ bytesI s, 0 <= x /\ x < 256 := by
 intro x hx;obtain ⟨b, _, rfl⟩ := List.mem_map.1 hx;have := b.toNat_lt;omega
theorem specReadN_any (s : ByteArray) (w : World) (hs : s.size <= 1048576) :
  Calls Tryz.prog 89 #[zG s] w fun e w' => ∃ v, e = .returned v /\ OwnI w' w.heap.size v (if s.size <= 60 then digs (horn 256 (bytesI s)) else []) /\ zW w w' := by
 obtain ⟨R, hR⟩ : ∃ R, R = if s.size <= 60 then digs (horn 256 (bytesI s)) else [] := ⟨_, rfl⟩;rw [<- hR];have HRR : Hid (R = if s.size <= 60 then digs (horn 256 (bytesI s)) else []) := hR;clear hR;by_cases h60 : s.size <= 60
 ·have h60' : ¬ (60 : Int) < (s.size : Int) := by omega
  go_enter Tryz.func89, Tryz.ntmps89
  go_wp2
  go_loopw [3, 4] (fun nv iv wr => ∃ k : Nat, k <= s.size /\ iv = zI k /\ Hid (OwnI wr w.heap.size nv (digs (horn 256 ((bytesI s).take k))) /\ zW w wr)) (fun _ iv _ => s.size - (intOf iv).toNat)
  case atStart => exact ⟨0, Nat.zero_le _, rfl, by rw [show digs (horn 256 ((bytesI s).take 0)) = [] by simp [horn, digs_zero]]; exact OwnI.empty w (Nat.le_refl _), (Below.refl _ _).alloc (Nat.le_refl _) _⟩
  case round =>
   obtain ⟨k, hk, rfl, H⟩ := hrel;by_cases hlt : k < s.size
   ·have hbl := bytesI_len s
    have hlim := horn_lim (b := 256) (by decide) (N := 60) (by decide) (bytesI_bd s) (k := k) (by omega);have hlim2 := horn_lim (b := 256) (by decide) (N := 60) (by decide) (bytesI_bd s) (k := k + 1) (by omega);have hnx := horn_take (b := 256) (l := bytesI s) (k := k) (by omega);rw [bytesI_getD hlt] at hnx;rw [hnx] at hlim2;have hcb : (s[k].toNat : Int) < 256 := by have := s[k].toNat_lt; omega
    have HNX : Hid (horn 256 ((bytesI s).take (k + 1)) = horn 256 ((bytesI s).take k) * 256 + (s[k].toNat : Int)) := hnx;have hoo := H.1;have HB : Hid (zW w wr) := H.2;clear hnx hbl H;generalize horn 256 ((bytesI s).take k) = h at *;have hll := digs_len hlim.1 hlim.2;have ha := (Below.refl wr.heap.size wr).alloc (Nat.le_refl _) (Obj.cells #[Value.int IntKind.i64 256] 3);have hlit : OwnI (wr.alloc (Obj.cells #[Value.int IntKind.i64 256] 3)) wr.heap.size (zS (some ⟨wr.heap.size, 0, none⟩) 1 1) [256] := World.ownsRow_lit wr #[Value.int .i64 256] 1 (Nat.le_refl _) (by unfold maxLen; omega) rfl;have EM := specMul0_any u3 (zS (some ⟨wr.heap.size, 0, none⟩) 1 1) (digs h) [256] (wr.alloc (Obj.cells #[Value.int IntKind.i64 256] 3)).drew (by omega) (by simp) (dig_digs h) (by intro y hy; simp at hy; omega) ((hoo.at.below ha).below ((Below.refl _ _).drew)) (hlit.drew.at);rw [ev_digs hlim.1, show ev [256] = 256 by simp [ev]] at EM;clear hoo hlit;have HH := zH (zJ hlim.1 (zJ hlim.2 hlim2.2));have HA2 : Hid (zW wr (wr.alloc (Obj.cells #[Value.int IntKind.i64 256] 3)).drew) := ha.drew;clear hlim hlim2 hll ha;have hki : (k : Int) < (s.size : Int) := by omega
    have hk0 : (0 : Int) <= (k : Int) := by omega
    have hwp : IntKind.i64.wrap (s[k].toNat : Int) = (s[k].toNat : Int) := IntWalk.i64_in _ (by omega);have hc0 : (0 : Int) <= (s[k].toNat : Int) := by omega
    go_wp2_with fail
    go_region_held3 (fun _ => True) (exact trivial) ((first | (go_at_call 130; refine EM.mono ?_; rintro e w1 ⟨v1, rfl, ho1, hb1⟩) | (go_at_call 131; refine (specOf_any _ _ ?_).mono ?_; (constructor <;> omega); rintro e w2 ⟨v2, rfl, ho2, hb2⟩) | (go_at_call 129; refine (specAdd_any _ _ (digs (h * 256)) (digs (s[k].toNat : Int)) _ ?_ ?_ ?_ ?_ ?_ ?_).mono ?_; (have := HH.out; have := digs_len (x := h * 256) (k := 40) (by omega) (by omega); omega); (have := HH.out; have := digs_len (x := (s[k].toNat : Int)) (k := 40) (by omega) (by omega); omega); exact (dig_digs _).wd; exact (dig_digs _).wd; exact ho1.at.below hb2; exact ho2.at; rintro e w3 ⟨v3, rfl, ho3, hb3⟩)))
    all_goals (
     have HN : Hid (OwnI w3 w.heap.size v3 (digs (horn 256 ((bytesI s).take (k + 1)))) /\ zW w w3) := by
      have hb2' := below_go (below_go (below_go HB.out HA2.out) hb1) hb2;rw [addL_digs (by have := HH.out; omega) hc0 HH.2.2, <- HNX.out] at ho3;exact ⟨ho3.base hb2'.size, below_go hb2' hb3⟩
     clear EM ho1 ho2 ho3 hb1 hb2 hb3
     go_wp2
     go_roundw
     case rel => exact ⟨k + 1, by omega, by go_num, HN.out⟩
     case measure => simp [intOf]; omega)
   ·have hkn : k = s.size := by omega
    subst hkn;have HE : Hid (OwnI wr w.heap.size u3 R /\ zW w wr) := by
     have h := H.out;rw [List.take_of_length_le (by rw [bytesI_len]; exact Nat.le_refl _)] at h;rw [HRR.out, if_pos h60];exact h
    clear H
    go_wp2
    go_ret;exact ⟨_, rfl, HE.out⟩
 ·have h60' : (60 : Int) < (s.size : Int) := by omega
  have HE : Hid (R = []) := HRR.trans (if_neg h60);go_enter Tryz.func89, Tryz.ntmps89
  go_wp2
  go_ret;exact ⟨_, rfl, (by rw [HE.out]; exact OwnI.empty w (Nat.le_refl _)), (Below.refl _ _).alloc (Nat.le_refl _) _⟩
def ByAt (w : World) (v : Value) (l : List Int) : Prop := ∃ ao cap, v = zS ao l.length cap /\ (0 < l.length -> ∃ g, ao = some ⟨g, 0, none⟩ /\ g < w.heap.size /\ ∀ j, j < l.length -> w.cell? ⟨g, j, none⟩ = some (.int .u8 (l.getD j 0)))
theorem horn_take_bd {b : Int} (hb : 1 <= b /\ b <= 1000) {l : List Int} (h : ∀ x ∈ l, 0 <= x /\ x < b) (k : Nat) (hk : k <= l.length) : 0 <= horn b (l.take k) /\ (digs (horn b (l.take k))).length <= k := by
 have := horn_bd (b := b) (by omega) (l.take k) (fun x hx => h x (List.mem_of_mem_take hx));have hl : (l.take k).length = k := by simp; omega
 rw [hl] at this;exact ⟨this.1, digs_len this.1 this.2⟩
theorem getD_mem {l : List Int} {k : Nat} (h : k < l.length) : l.getD k 0 ∈ l := by
 rw [List.getD_eq_getElem?_getD, List.getElem?_eq_getElem h];exact List.getElem_mem _
theorem naturalOf_any (v : Value) (bs : List Int) (b : Int) (w : World) (hl : bs.length <= 1000) (hb : 1 <= b /\ b <= 1000) (hx : ∀ x ∈ bs, 0 <= x /\ x < b) (hx2 : ∀ x ∈ bs, x <= 255) (hv : ByAt w v bs) :
  Calls Tryz.prog 92 #[v, zI b] w fun e w' => ∃ v', e = .returned v' /\ OwnI w' w.heap.size v' (digs (horn b bs)) /\ zW w w' := by
 obtain ⟨ao, cap, rfl, hc⟩ := hv;have HC : Hid ((0 < bs.length -> ∃ g, ao = some ⟨g, 0, none⟩ /\ g < w.heap.size /\ ∀ j, j < bs.length -> w.cell? ⟨g, j, none⟩ = some (.int .u8 (bs.getD j 0))) /\ (∀ x ∈ bs, 0 <= x /\ x < b) /\ ∀ x ∈ bs, x <= 255) := ⟨hc, hx, hx2⟩;clear hc hx hx2;go_enter Tryz.func92, Tryz.ntmps92
 go_wp2
 go_loopw [5, 11] (fun nv iv wr => ∃ k : Nat, k <= bs.length /\ iv = zI k /\ Hid (OwnI wr w.heap.size nv (digs (horn b (bs.take k))) /\ zW w wr)) (fun _ iv _ => bs.length - (intOf iv).toNat)
 case atStart => exact ⟨0, Nat.zero_le _, rfl, by rw [show digs (horn b (bs.take 0)) = [] by simp [horn, digs_zero]]; exact OwnI.empty w (Nat.le_refl _), (Below.refl _ _).alloc (Nat.le_refl _) _⟩
 case round =>
  obtain ⟨k, hk, rfl, H⟩ := hrel;by_cases hlt : k < bs.length
  ·obtain ⟨g, hao, hgl, hcs⟩ := HC.1 (by omega)
   have hu : wr.cell? ⟨g, k, none⟩ = some (.int .u8 (bs.getD k 0)) := by
    rw [H.2.cell (p := ⟨g, k, none⟩) hgl, hcs k hlt]
   subst hao;have hxb := HC.2.1 _ (getD_mem hlt);have hxc := HC.2.2 _ (getD_mem hlt);have hbd := horn_take_bd hb HC.2.1 k hk;have EE := extended_any u5 (digs (horn b (bs.take k))) b (bs.getD k 0) w.heap.size wr (by omega) hb hxb (dig_digs _) (top_digs _) H.2.size H.1;rw [ev_digs hbd.1, <- horn_take hlt] at EE;have HB : Hid (zW w wr) := H.2;clear hcs hgl H hbd;generalize bs.getD k 0 = x at *;have hki : (k : Int) < (bs.length : Int) := by omega
   have hk0 : (0 : Int) <= (k : Int) := by omega
   go_wp2_with fail;refine EE.mono ?_;rintro e w1 ⟨v1, rfl, ho1, hb1⟩;have HN := zH (zJ (ho1 : OwnI w1 w.heap.size v1 (digs (horn b (bs.take (k + 1))))) (HB.trans hb1));clear EE ho1 hb1;go_wp2_with fail
   go_roundw
   case rel => exact ⟨k + 1, by omega, by go_num, HN.out⟩
   case measure => simp [intOf]; omega
  ·have hkn : k = bs.length := by omega
   subst hkn;have HE : Hid (OwnI wr w.heap.size u5 (digs (horn b bs)) /\ zW w wr) := by
    have h := H.out;rw [List.take_of_length_le (Nat.le_refl _)] at h;exact h
   clear H
   go_wp2
   go_ret;exact ⟨_, rfl, HE.out⟩
theorem implReadN_any (s : ByteArray) (w : World) (hs : s.size <= 1048576) :
  Calls Tryz.prog 49 #[zG s] w fun e w' => ∃ v, e = .returned v /\ OwnI w' w.heap.size v (if s.size <= 60 then digs (horn 256 (bytesI s)) else []) /\ zW w w' := by
 obtain ⟨R, hR⟩ : ∃ R, R = if s.size <= 60 then digs (horn 256 (bytesI s)) else [] := ⟨_, rfl⟩;rw [<- hR];have HRR : Hid (R = if s.size <= 60 then digs (horn 256 (bytesI s)) else []) := hR;clear hR;have hcv := fun w => run_bytes_of_string (P := Tryz.prog) w 9 22 5 s Tryz.underlying9 Tryz.underlying22 Tryz.underlying5
 by_cases h60 : s.size <= 60
 ·have h60' : ¬ (60 : Int) < (s.size : Int) := by omega
  go_enter Tryz.func49, Tryz.ntmps49;go_wp2_with fail;obtain ⟨C, hC⟩ := zE (grownCap w s.size 0 5);rw [hC];clear hC hcv;have HV : Hid (ByAt ((w.alloc (.cells (bytesRow s C) 5 ((bytesRow s C).size, (bytesRow s C).size + 1))).drew) (zS (some ⟨w.heap.size, 0, none⟩) s.size C) (bytesI s) /\ zW w ((w.alloc (.cells (bytesRow s C) 5 ((bytesRow s C).size, (bytesRow s C).size + 1))).drew)) := by
   refine ⟨?_, ((Below.refl _ _).alloc (Nat.le_refl _) _).drew⟩;unfold ByAt;rw [bytesI_len];refine ⟨_, _, rfl, fun _ => ⟨w.heap.size, rfl, ?_, fun j hj => ?_⟩⟩
   ·show w.heap.size < (w.alloc _).heap.size
    simp
   ·show (w.alloc (.cells (bytesRow s C) 5 ((bytesRow s C).size, (bytesRow s C).size + 1))).cell? ⟨w.heap.size, j, none⟩ = _
    rw [World.cell?_alloc_mark, bytesRow_at s C j hj, bytesI_getD hj]; rfl
  refine (naturalOf_any _ (bytesI s) 256 _ (by rw [bytesI_len]; omega) (by omega) (bytesI_bd s) (fun x hx => by have := bytesI_bd s x hx; omega) HV.1).mono ?_;rintro e w2 ⟨v2, rfl, ho2, hb2⟩;have HF : Hid (OwnI w2 w.heap.size v2 R /\ zW w w2) := ⟨by rw [HRR.out, if_pos h60]; exact ho2.base HV.2.size, below_go HV.2 hb2⟩;clear ho2 hb2;go_wp2_with fail;go_ret;exact ⟨_, rfl, HF.out⟩
 ·have h60' : (60 : Int) < (s.size : Int) := by omega
  have HE : Hid (R = []) := HRR.trans (if_neg h60);go_enter Tryz.func49, Tryz.ntmps49
  go_wp2
  go_ret;exact ⟨_, rfl, (by rw [HE.out]; exact OwnI.nil _ _), Below.refl _ _⟩
def figL (s : ByteArray) : List Int := if s.size <= 140 then (match fvals 10 s.data.toList with | some vs => digs (horn 10 (vs.map fun x : Nat => (x : Int))) | none => []) else []
theorem implFig_any (s : ByteArray) (w : World) (hs : s.size <= 1048576) :
  Calls Tryz.prog 85 #[zG s] w fun e w' => ∃ v, e = .returned v /\ OwnI w' w.heap.size v (figL s) /\ zW w w' := by
 by_cases h140 : s.size <= 140
 ·have h140' : ¬ (140 : Int) < (s.size : Int) := by omega
  go_enter Tryz.func85, Tryz.ntmps85;go_wp2_with fail;refine (figureValues_any s 10 w (by omega) (by decide)).mono ?_;rintro e w1 ⟨v, rfl, hb1, ho1⟩
  cases hf : fvals 10 s.data.toList with
  | none =>
   have HE : Hid (figL s = [] /\ zW w w1) := ⟨by unfold figL; rw [if_pos h140, hf], hb1⟩;clear ho1 hb1;go_wp2_with fail;go_ret;exact ⟨_, rfl, (by rw [HE.1]; exact OwnI.nil _ _), HE.2⟩
  | some vs =>
   have hvl := fvals_len hf;have hvb := fvals_lt hf;have ho := ho1 vs hf;have HV : Hid (ByAt w1 v (vs.map fun x : Nat => (x : Int)) /\ (vs.map fun x : Nat => (x : Int)).length = s.size /\ (∀ x ∈ (vs.map fun x : Nat => (x : Int)), 0 <= x /\ x < 10) /\ zW w w1) := by
    have hl : (vs.map fun x : Nat => (x : Int)).length = s.size := by simp [hvl]
    refine ⟨?_, hl, fun x hx => ?_, hb1⟩
    ·unfold ByAt
     rw [hl]
     rcases ho.2 with ⟨h1, h0⟩ | ⟨g, cap, cur, hv, _⟩
     ·exact ⟨none, 0, by rw [h1, h0], fun h => by omega⟩
     ·refine ⟨some ⟨g, 0, none⟩, cap, hv, fun _ => ⟨g, rfl, (ho.lt g (by rw [hv]; rfl)).2, fun j hj => ?_⟩⟩
      rw [hv] at ho;rw [ho.cellAt j (by omega)];simp [cellN, List.getD, show j < vs.length by simp at hl; omega]
    ·obtain ⟨y, hy, rfl⟩ := List.mem_map.1 hx
     have := hvb y hy;omega
   have he : figL s = digs (horn 10 (vs.map fun x : Nat => (x : Int))) := by unfold figL; rw [if_pos h140, hf]
   have HE : Hid (figL s = digs (horn 10 (vs.map fun x : Nat => (x : Int)))) := he;clear he;clear ho1 hb1 hvl hvb ho;have hll : (vs.map fun x : Nat => (x : Int)).length <= 140 := by rw [HV.2.1]; exact h140
   generalize (vs.map fun x : Nat => (x : Int)) = bs at *;go_wp2_with fail;refine (naturalOf_any v bs 10 w1 (by omega) (by omega) HV.2.2.1 (fun x hx => by have := HV.2.2.1 x hx; omega) HV.1).mono ?_;rintro e w2 ⟨v2, rfl, ho2, hb2⟩;have HF : Hid (OwnI w2 w.heap.size v2 (figL s) /\ zW w w2) := ⟨by rw [HE.out]; exact ho2.base HV.2.2.2.size, below_go HV.2.2.2 hb2⟩;clear ho2 hb2;go_wp2_with fail;go_ret;exact ⟨_, rfl, HF.out⟩
 ·have h140' : (140 : Int) < (s.size : Int) := by omega
  have he : figL s = [] := by unfold figL; rw [if_neg h140]
  have HE : Hid (figL s = []) := he;clear he;go_enter Tryz.func85, Tryz.ntmps85
  go_wp2
  go_ret;exact ⟨_, rfl, (by rw [HE.out]; exact OwnI.nil _ _), Below.refl _ _⟩
end Go.Proofs.YtcbjlbpkoneibaaGreatDoor
