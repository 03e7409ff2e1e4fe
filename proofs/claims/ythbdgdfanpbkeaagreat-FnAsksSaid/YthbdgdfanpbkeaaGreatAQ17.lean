/-
  Texts of the proof.
-/
import Derived.Deep.RegionHeld3
import Derived.Deep.LoopGhost
import Derived.Test.YthbdgdfanpbkeaaGreatAQ16
set_option maxRecDepth 100000
set_option maxHeartbeats 25600000
namespace Go.Proofs.YthbdgdfanpbkeaaGreat
open Go.RowKit
theorem okL_digs {x : Int} (h : 0 <= x) (hx : x < 10000 ^ 40) : okL (digs x) = true := okL_yes (digs_len h hx) (dig_digs x) (top_digs x)
theorem addL_digs {x y : Int} (hx : 0 <= x) (hy : 0 <= y) (h : x + y < 10000 ^ 40) : addL (digs x) (digs y) = digs (x + y) := by
 unfold addL limL
 rw [if_pos ⟨okL_digs hx (by omega), okL_digs hy (by omega)⟩, ev_digs hx, ev_digs hy, if_pos (digs_len (by omega) h)]
theorem pb_le {b : Int} (hb : 1 <= b) {j k : Nat} (h : j <= k) : b ^ j <= b ^ k := by
 obtain ⟨d, rfl⟩ := Nat.exists_eq_add_of_le h
 rw [Int.pow_add]
 have h1 := Int.mul_le_mul_of_nonneg_left (show 1 <= b ^ d from Int.pow_pos (by omega)) (Int.le_of_lt (Int.pow_pos (n := b) (m := j) (by omega)))
 rwa [Int.mul_one] at h1
theorem horn_lt {b : Int} (hb : 1 <= b) : ∀ (n : Nat) (l : List Int), l.length = n -> (∀ x ∈ l, 0 <= x /\ x < b) -> 0 <= horn b l /\ horn b l < b ^ n := by
 intro n
 induction n with
 | zero =>
  intro l hl _
  rw [List.eq_nil_of_length_eq_zero hl]
  simp [horn]
 | succ n ih =>
  intro l0 hl h
  obtain ⟨l, x, rfl⟩ : ∃ l x, l0 = l ++ [x] := ⟨l0.dropLast, l0.getLast (fun e => by rw [e] at hl; simp at hl), (List.dropLast_concat_getLast _).symm⟩
  have hln : l.length = n := by simpa using hl
  have hx := h x (by simp)
  have hi := ih l hln fun y hy => h y (by simp [hy])
  rw [horn_snoc, Int.pow_succ]
  have h1 := Int.mul_nonneg hi.1 (show 0 <= b by omega)
  have h2 := Int.mul_le_mul_of_nonneg_right (show horn b l <= b ^ n - 1 by omega) (show 0 <= b by omega)
  rw [Int.sub_mul, Int.one_mul] at h2
  omega
theorem horn_lim {b : Int} (hb : 1 <= b) {N : Nat} (hN : b ^ N < 10000 ^ 40) {l : List Int} (h : ∀ x ∈ l, 0 <= x /\ x < b) {k : Nat} (hk : k <= N) : 0 <= horn b (l.take k) /\ horn b (l.take k) < 10000 ^ 40 := by
 have h1 := horn_lt hb (l.take k).length (l.take k) rfl (fun x hx => h x (List.mem_of_mem_take hx))
 have h2 := pb_le hb (show (l.take k).length <= N by simp; omega)
 omega
theorem below_go {a b c : World} (h1 : Below a.heap.size a b) (h2 : Below b.heap.size b c) : Below a.heap.size a c := h1.trans (h2.mono h1.size)
def bytesI (s : ByteArray) : List Int := s.data.toList.map fun b => (b.toNat : Int)
theorem bytesI_len (s : ByteArray) : (bytesI s).length = s.size := by simp [bytesI]
theorem bytesI_getD {s : ByteArray} {k : Nat} (h : k < s.size) : (bytesI s).getD k 0 = ((s[k]'h).toNat : Int) := by
 have h2 : s.data[k]? = some (s.data[k]'h) := Array.getElem?_eq_getElem h
 simp [bytesI, List.getD, h2]
 rfl
theorem bytesI_bd (s : ByteArray) : ∀ x ∈ bytesI s, 0 <= x /\ x < 256 := by
 intro x hx
 obtain ⟨b, _, rfl⟩ := List.mem_map.1 hx
 have := b.toNat_lt
 omega
theorem specReadN_any (s : ByteArray) (w : World) (hs : s.size <= 1048576) :
  Calls Tryz.prog 111 #[.string s] w fun e w' => ∃ v, e = .returned v /\ OwnI w' w.heap.size v (if s.size <= 60 then digs (horn 256 (bytesI s)) else []) /\ Below w.heap.size w w' := by
 obtain ⟨R, hR⟩ : ∃ R, R = if s.size <= 60 then digs (horn 256 (bytesI s)) else [] := ⟨_, rfl⟩
 rw [<- hR]
 have HRR : Hid (R = if s.size <= 60 then digs (horn 256 (bytesI s)) else []) := hR
 clear hR
 by_cases h60 : s.size <= 60
 ·have h60' : ¬ (60 : Int) < (s.size : Int) := by omega
  go_enter Tryz.func111, Tryz.ntmps111
  go_wp2
  go_loopw [3, 4] (fun nv iv wr => ∃ k : Nat, k <= s.size /\ iv = .int .i64 k /\ Hid (OwnI wr w.heap.size nv (digs (horn 256 ((bytesI s).take k))) /\ Below w.heap.size w wr)) (fun _ iv _ => s.size - (intOf iv).toNat)
  case atStart => exact ⟨0, Nat.zero_le _, rfl, by rw [show digs (horn 256 ((bytesI s).take 0)) = [] by simp [horn, digs_zero]]; exact OwnI.empty w (Nat.le_refl _), (Below.refl _ _).alloc (Nat.le_refl _) _⟩
  case round =>
   obtain ⟨k, hk, rfl, H⟩ := hrel
   by_cases hlt : k < s.size
   ·have hbl := bytesI_len s
    have hlim := horn_lim (b := 256) (by decide) (N := 60) (by decide) (bytesI_bd s) (k := k) (by omega)
    have hlim2 := horn_lim (b := 256) (by decide) (N := 60) (by decide) (bytesI_bd s) (k := k + 1) (by omega)
    have hnx := horn_take (b := 256) (l := bytesI s) (k := k) (by omega)
    rw [bytesI_getD hlt] at hnx
    rw [hnx] at hlim2
    have hcb : (s[k].toNat : Int) < 256 := by have := s[k].toNat_lt; omega
    have HNX : Hid (horn 256 ((bytesI s).take (k + 1)) = horn 256 ((bytesI s).take k) * 256 + (s[k].toNat : Int)) := hnx
    have hoo := H.out.1
    have HB : Hid (Below w.heap.size w wr) := H.out.2
    clear hnx hbl H
    generalize horn 256 ((bytesI s).take k) = h at *
    have hll := digs_len hlim.1 hlim.2
    have ha := (Below.refl wr.heap.size wr).alloc (Nat.le_refl _) (Obj.cells #[Value.int IntKind.i64 256] 3)
    have hlit : OwnI (wr.alloc (Obj.cells #[Value.int IntKind.i64 256] 3)) wr.heap.size (.slice (some ⟨wr.heap.size, 0, none⟩) 1 1) [256] := World.ownsRow_lit wr #[Value.int .i64 256] 1 (Nat.le_refl _) (by unfold maxLen; omega) rfl
    have EM := specMul0_any u3 (.slice (some ⟨wr.heap.size, 0, none⟩) 1 1) (digs h) [256] (wr.alloc (Obj.cells #[Value.int IntKind.i64 256] 3)).drew (by omega) (by simp) (dig_digs h) (by intro y hy; simp at hy; omega) ((hoo.at.below ha).below ((Below.refl _ _).drew)) (hlit.drew.at)
    rw [ev_digs hlim.1, show ev [256] = 256 by simp [ev]] at EM
    clear hoo hlit
    have HH : Hid (0 <= h /\ h < 10000 ^ 40 /\ h * 256 + (s[k].toNat : Int) < 10000 ^ 40) := ⟨hlim.1, hlim.2, hlim2.2⟩
    have HA2 : Hid (Below wr.heap.size wr (wr.alloc (Obj.cells #[Value.int IntKind.i64 256] 3)).drew) := ha.drew
    clear hlim hlim2 hll ha
    have hki : (k : Int) < (s.size : Int) := by omega
    have hk0 : (0 : Int) <= (k : Int) := by omega
    have hwp : IntKind.i64.wrap (s[k].toNat : Int) = (s[k].toNat : Int) := IntWalk.i64_in _ (by omega)
    have hc0 : (0 : Int) <= (s[k].toNat : Int) := by omega
    go_wp2_with fail
    go_region_held3 (fun _ => True) (exact trivial) ((first | (go_at_call 120; refine EM.mono ?_; rintro e w1 ⟨v1, rfl, ho1, hb1⟩) | (go_at_call 121; refine (specOf_any _ _ ?_).mono ?_; (constructor <;> omega); rintro e w2 ⟨v2, rfl, ho2, hb2⟩) | (go_at_call 119; refine (specAdd_any _ _ (digs (h * 256)) (digs (s[k].toNat : Int)) _ ?_ ?_ ?_ ?_ ?_ ?_).mono ?_; (have := HH.out; have := digs_len (x := h * 256) (k := 40) (by omega) (by omega); omega); (have := HH.out; have := digs_len (x := (s[k].toNat : Int)) (k := 40) (by omega) (by omega); omega); exact (dig_digs _).wd; exact (dig_digs _).wd; exact ho1.at.below hb2; exact ho2.at; rintro e w3 ⟨v3, rfl, ho3, hb3⟩)))
    all_goals (
     have HN : Hid (OwnI w3 w.heap.size v3 (digs (horn 256 ((bytesI s).take (k + 1)))) /\ Below w.heap.size w w3) := by
      have hb2' := below_go (below_go (below_go HB.out HA2.out) hb1) hb2
      rw [addL_digs (by have := HH.out; omega) hc0 HH.out.2.2, <- HNX.out] at ho3
      exact ⟨ho3.base hb2'.size, below_go hb2' hb3⟩
     clear EM ho1 ho2 ho3 hb1 hb2 hb3
     go_wp2
     go_roundw
     case rel => exact ⟨k + 1, by omega, by go_num, HN.out⟩
     case measure => simp [intOf]; omega)
   ·have hkn : k = s.size := by omega
    subst hkn
    have HE : Hid (OwnI wr w.heap.size u3 R /\ Below w.heap.size w wr) := by
     have h := H.out
     rw [List.take_of_length_le (by rw [bytesI_len]; exact Nat.le_refl _)] at h
     rw [HRR.out, if_pos h60]
     exact h
    clear H
    go_wp2
    go_ret
    exact ⟨_, rfl, HE.out⟩
 ·have h60' : (60 : Int) < (s.size : Int) := by omega
  have HE : Hid (R = []) := HRR.out.trans (if_neg h60)
  go_enter Tryz.func111, Tryz.ntmps111
  go_wp2
  go_ret
  exact ⟨_, rfl, (by rw [HE.out]; exact OwnI.empty w (Nat.le_refl _)), (Below.refl _ _).alloc (Nat.le_refl _) _⟩
def figL (s : ByteArray) : List Int := if s.size <= 140 then (match fvals 10 s.data.toList with | some vs => digs (horn 10 (vs.map fun x : Nat => (x : Int))) | none => []) else []
theorem readL_len (s : ByteArray) : (if s.size <= 60 then digs (horn 256 (bytesI s)) else []).length <= 40 := by
 split
 ·rename_i h
  have h1 := horn_lt (b := 256) (by decide) s.size (bytesI s) (bytesI_len s) (bytesI_bd s)
  have h2 := pb_le (b := 256) (by decide) h
  have h3 : (256 : Int) ^ 60 < 10000 ^ 40 := by decide
  exact digs_len h1.1 (by omega)
 ·simp
theorem figL_len (s : ByteArray) : (figL s).length <= 40 := by
 unfold figL
 split
 ·rename_i h
  cases hf : fvals 10 s.data.toList with
  | none => simp
  | some vs =>
   have hvb : ∀ x ∈ (vs.map fun x : Nat => (x : Int)), 0 <= x /\ x < 10 := fun x hx => by
    obtain ⟨y, hy, rfl⟩ := List.mem_map.1 hx
    have := fvals_lt hf y hy
    omega
   have hvl : (vs.map fun x : Nat => (x : Int)).length = s.size := by
    rw [List.length_map, fvals_len hf]
    simp
   have h1 := horn_lt (b := 10) (by decide) s.size _ hvl hvb
   have h2 := pb_le (b := 10) (by decide) h
   have h3 : (10 : Int) ^ 140 < 10000 ^ 40 := by decide
   exact digs_len h1.1 (by omega)
 ·simp
theorem specFig_any (s : ByteArray) (w : World) (hs : s.size <= 1048576) :
  Calls Tryz.prog 109 #[.string s] w fun e w' => ∃ v, e = .returned v /\ OwnI w' w.heap.size v (figL s) /\ Below w.heap.size w w' := by
 have HW : Hid (Below w.heap.size w (w.alloc (Obj.cells #[] 3)) /\ OwnI (w.alloc (Obj.cells #[] 3)) w.heap.size (.slice (some ⟨w.heap.size, 0, none⟩) 0 0) []) := ⟨(Below.refl _ _).alloc (Nat.le_refl _) _, OwnI.empty w (Nat.le_refl _)⟩
 by_cases hin : 1 <= s.size /\ s.size <= 140
 ·go_enter Tryz.func109, Tryz.ntmps109
  go_wp2_with fail
  refine (in_yes _ 1 140 _ (by omega) (by omega)).mono ?_
  rintro e w' ⟨rfl, rfl⟩
  go_wp2_with fail
  go_loopw [3, 4] (fun nv iv wr => ∃ (k : Nat) (vs : List Nat), k <= s.size /\ iv = .int .i64 k /\ Hid (fvals 10 (s.data.toList.take k) = some vs /\ OwnI wr w.heap.size nv (digs (horn 10 (vs.map fun x : Nat => (x : Int)))) /\ Below w.heap.size w wr)) (fun _ iv _ => s.size - (intOf iv).toNat)
  case atStart => exact ⟨0, [], Nat.zero_le _, rfl, by simp [fvals], by rw [show digs (horn 10 (([] : List Nat).map fun x : Nat => (x : Int))) = [] by simp [horn, digs_zero]]; exact HW.out.2, HW.out.1⟩
  case round =>
   obtain ⟨k, vs, hk, rfl, H⟩ := hrel
   by_cases hlt : k < s.size
   ·have hf10 := fval10 s[k]
    have hcb : (s[k].toNat : Int) < 256 := by have := s[k].toNat_lt; omega
    have hc0 : (0 : Int) <= (s[k].toNat : Int) := by omega
    have hki : (k : Int) < (s.size : Int) := by omega
    have hk0 : (0 : Int) <= (k : Int) := by omega
    by_cases hd : 48 <= s[k].toNat /\ s[k].toNat <= 57
    ·have hd1 : ¬ (s[k].toNat : Int) < 48 := by omega
     have hd2 : ¬ (57 : Int) < (s[k].toNat : Int) := by omega
     rw [if_pos hd] at hf10
     have HNX : Hid (fvals 10 (s.data.toList.take (k + 1)) = some (vs ++ [s[k].toNat - 48]) /\ horn 10 ((vs ++ [s[k].toNat - 48]).map fun x : Nat => (x : Int)) = horn 10 (vs.map fun x : Nat => (x : Int)) * 10 + ((s[k].toNat : Int) - 48)) := by
      refine ⟨?_, ?_⟩
      ·have hbl : k < s.data.toList.length := by simpa using hlt
       have hge : s.data.toList[k] = s[k]'hlt := rfl
       rw [List.take_add_one, List.getElem?_eq_getElem hbl, hge]
       exact fvals_snoc H.out.1 hf10
      ·rw [List.map_append, List.map_singleton, horn_snoc]
       congr 1
       omega
     have hvb : ∀ x ∈ (vs.map fun x : Nat => (x : Int)), 0 <= x /\ x < 10 := fun x hx => by
      obtain ⟨y, hy, rfl⟩ := List.mem_map.1 hx
      have := fvals_lt H.out.1 y hy
      omega
     have hvl : (vs.map fun x : Nat => (x : Int)).length = k := by
      have hsl : s.data.toList.length = s.size := by simp
      rw [List.length_map, fvals_len H.out.1, List.length_take, hsl]
      omega
     have hlim := horn_lt (b := 10) (by decide) k _ hvl hvb
     have hp := pb_le (b := 10) (by decide) (show k + 1 <= 140 by omega)
     have hq : (10 : Int) ^ 140 < 10000 ^ 40 := by decide
     rw [Int.pow_succ] at hp
     have hoo := H.out.2.1
     have HB : Hid (Below w.heap.size w wr) := H.out.2.2
     clear H hvb hvl hf10
     generalize horn 10 (vs.map fun x : Nat => (x : Int)) = h at *
     have HH : Hid (0 <= h /\ h < 10000 ^ 40 /\ h * 10 + ((s[k].toNat : Int) - 48) < 10000 ^ 40) := ⟨hlim.1, by omega, by omega⟩
     have hll := digs_len HH.out.1 HH.out.2.1
     clear hlim hp hq
     have ha := (Below.refl wr.heap.size wr).alloc (Nat.le_refl _) (Obj.cells #[Value.int IntKind.i64 10] 3)
     have hlit : OwnI (wr.alloc (Obj.cells #[Value.int IntKind.i64 10] 3)) wr.heap.size (.slice (some ⟨wr.heap.size, 0, none⟩) 1 1) [10] := World.ownsRow_lit wr #[Value.int .i64 10] 1 (Nat.le_refl _) (by unfold maxLen; omega) rfl
     have EM := specMul0_any u3 (.slice (some ⟨wr.heap.size, 0, none⟩) 1 1) (digs h) [10] (wr.alloc (Obj.cells #[Value.int IntKind.i64 10] 3)).drew (by omega) (by simp) (dig_digs h) (by intro y hy; simp at hy; omega) ((hoo.at.below ha).below ((Below.refl _ _).drew)) (hlit.drew.at)
     rw [ev_digs HH.out.1, show ev [10] = 10 by simp [ev]] at EM
     clear hoo hlit hll
     have HA2 : Hid (Below wr.heap.size wr (wr.alloc (Obj.cells #[Value.int IntKind.i64 10] 3)).drew) := ha.drew
     clear ha
     have hwp : IntKind.i64.wrap (s[k].toNat : Int) = (s[k].toNat : Int) := IntWalk.i64_in _ (by omega)
     have hwq : IntKind.i64.wrap ((s[k].toNat : Int) - 48) = (s[k].toNat : Int) - 48 := IntWalk.i64_in _ (by omega)
     go_wp2_with fail
     go_region_held3 (fun _ => True) (exact trivial) ((first | (go_at_call 120; refine EM.mono ?_; rintro e w1 ⟨v1, rfl, ho1, hb1⟩) | (go_at_call 121; refine (specOf_any _ _ ?_).mono ?_; (constructor <;> omega); rintro e w2 ⟨v2, rfl, ho2, hb2⟩) | (go_at_call 119; refine (specAdd_any _ _ (digs (h * 10)) (digs ((s[k].toNat : Int) - 48)) _ ?_ ?_ ?_ ?_ ?_ ?_).mono ?_; (have := HH.out; have := digs_len (x := h * 10) (k := 40) (by omega) (by omega); omega); (have := HH.out; have := digs_len (x := (s[k].toNat : Int) - 48) (k := 40) (by omega) (by omega); omega); exact (dig_digs _).wd; exact (dig_digs _).wd; exact ho1.at.below hb2; exact ho2.at; rintro e w3 ⟨v3, rfl, ho3, hb3⟩)))
     all_goals (
      have HN : Hid (fvals 10 (s.data.toList.take (k + 1)) = some (vs ++ [s[k].toNat - 48]) /\ OwnI w3 w.heap.size v3 (digs (horn 10 ((vs ++ [s[k].toNat - 48]).map fun x : Nat => (x : Int)))) /\ Below w.heap.size w w3) := by
       have hb2' := below_go (below_go (below_go HB.out HA2.out) hb1) hb2
       rw [addL_digs (by have := HH.out; omega) (by omega) HH.out.2.2, <- HNX.out.2] at ho3
       exact ⟨HNX.out.1, ho3.base hb2'.size, below_go hb2' hb3⟩
      clear EM ho1 ho2 ho3 hb1 hb2 hb3
      go_wp2
      go_roundw
      case rel => exact ⟨k + 1, _, by omega, by go_num, HN.out⟩
      case measure => simp [intOf]; omega)
    ·rw [if_neg hd] at hf10
     have he : figL s = [] := by
      unfold figL
      rw [if_pos hin.2, fvals_none (byte_mem s k hlt) hf10]
     have HE : Hid (figL s = [] /\ Below w.heap.size w wr) := ⟨he, H.out.2.2⟩
     clear he H hf10
     by_cases hd1 : (s[k].toNat : Int) < 48
     ·go_wp2_with fail
      go_ret
      exact ⟨_, rfl, (by rw [HE.out.1]; exact OwnI.empty wr HE.out.2.size), HE.out.2.alloc HE.out.2.size _⟩
     ·have hd2 : (57 : Int) < (s[k].toNat : Int) := by omega
      go_wp2_with fail
      go_ret
      exact ⟨_, rfl, (by rw [HE.out.1]; exact OwnI.empty wr HE.out.2.size), HE.out.2.alloc HE.out.2.size _⟩
   ·have hkn : k = s.size := by omega
    subst hkn
    have HE : Hid (OwnI wr w.heap.size u3 (figL s) /\ Below w.heap.size w wr) := by
     have h := H.out
     rw [List.take_of_length_le (by simp)] at h
     refine ⟨?_, h.2.2⟩
     unfold figL
     rw [if_pos hin.2, h.1]
     exact h.2.1
    clear H
    go_wp2
    go_ret
    exact ⟨_, rfl, HE.out⟩
 ·have he : figL s = [] := by
   unfold figL
   by_cases h : s.size <= 140
   ·have h0 : s.size = 0 := by omega
    have h1 : s.data.toList = [] := List.eq_nil_of_length_eq_zero (by simpa using h0)
    rw [if_pos h, h1]
    simp [fvals, horn, digs_zero]
   ·rw [if_neg h]
  have HE : Hid (figL s = []) := he
  clear he
  go_enter Tryz.func109, Tryz.ntmps109
  go_wp2_with fail
  refine (in_no _ 1 140 _ (by omega)).mono ?_
  rintro e w' ⟨rfl, rfl⟩
  go_wp2_with fail
  go_ret
  exact ⟨_, rfl, (by rw [HE.out]; exact HW.out.2), HW.out.1⟩
def readL (s : ByteArray) : List Int := if s.size <= 60 then digs (horn 256 (bytesI s)) else []
theorem readL_len2 (s : ByteArray) : (readL s).length <= 40 := readL_len s
theorem specReadL_any (s : ByteArray) (w : World) (hs : s.size <= 1048576) :
  Calls Tryz.prog 111 #[.string s] w fun e w' => ∃ v, e = .returned v /\ OwnI w' w.heap.size v (readL s) /\ Below w.heap.size w w' := specReadN_any s w hs
end Go.Proofs.YthbdgdfanpbkeaaGreat
