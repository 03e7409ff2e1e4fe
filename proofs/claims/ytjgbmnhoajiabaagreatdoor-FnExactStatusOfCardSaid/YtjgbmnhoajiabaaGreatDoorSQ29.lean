/-
  Texts of the proof.
-/
import Derived.Deep.RegionHeld3
import Derived.Deep.AppendLies
import Derived.Deep.LoopGhost
import Derived.Test.YtjgbmnhoajiabaaGreatDoorSQ28
set_option maxRecDepth 100000
namespace Go.Proofs.YtjgbmnhoajiabaaGreatDoor
open Go.RowKit
theorem okL_digs {x : Int} (h : 0 <= x) (hx : x < 10000 ^ 40) : okL (digs x) = true := okL_yes (digs_len h hx) (dig_digs x) (top_digs x)
theorem addL_digs {x y : Int} (hx : 0 <= x) (hy : 0 <= y) (h : x + y < 10000 ^ 40) : addL (digs x) (digs y) = digs (x + y) := by
 unfold addL limL
 rw [if_pos ⟨okL_digs hx (by omega), okL_digs hy (by omega)⟩, ev_digs hx, ev_digs hy, if_pos (digs_len (by omega) h)]
theorem pb_le {b : Int} (hb : 1 <= b) {j k : Nat} (h : j <= k) : b ^ j <= b ^ k := by
 obtain ⟨d, rfl⟩ := Nat.exists_eq_add_of_le h
 rw [Int.pow_add]
 have h1 := Int.mul_le_mul_of_nonneg_left (show 1 <= b ^ d from Int.pow_pos (by omega)) (Int.le_of_lt (Int.pow_pos (n := b) (m := j) (by omega)))
 rwa [Int.mul_one] at h1
theorem horn_lt {b : Int} (hb : 1 <= b) : ∀ (n : Nat) (l : List Int), l.length = n -> (∀ x ∈ l, 0 <= x /\ x < b) -> 0 <= horn b l /\ horn b l < b ^ n := by
 intro n
 induction n with
 | zero =>
  intro l hl _
  rw [List.eq_nil_of_length_eq_zero hl]
  simp [horn]
 | succ n ih =>
  intro l0 hl h
  obtain ⟨l, x, rfl⟩ : ∃ l x, l0 = l ++ [x] := ⟨l0.dropLast, l0.getLast (fun e => by rw [e] at hl; simp at hl), (List.dropLast_concat_getLast _).symm⟩
  have hln : l.length = n := by simpa using hl
  have hx := h x (by simp)
  have hi := ih l hln fun y hy => h y (by simp [hy])
  rw [horn_snoc, Int.pow_succ]
  have h1 := Int.mul_nonneg hi.1 (show 0 <= b by omega)
  have h2 := Int.mul_le_mul_of_nonneg_right (show horn b l <= b ^ n - 1 by omega) (show 0 <= b by omega)
  rw [Int.sub_mul, Int.one_mul] at h2
  omega
theorem horn_lim {b : Int} (hb : 1 <= b) {N : Nat} (hN : b ^ N < 10000 ^ 40) {l : List Int} (h : ∀ x ∈ l, 0 <= x /\ x < b) {k : Nat} (hk : k <= N) : 0 <= horn b (l.take k) /\ horn b (l.take k) < 10000 ^ 40 := by
 have h1 := horn_lt hb (l.take k).length (l.take k) rfl (fun x hx => h x (List.mem_of_mem_take hx))
 have h2 := pb_le hb (show (l.take k).length <= N by simp; omega)
 omega
theorem below_go {a b c : World} (h1 : Below a.heap.size a b) (h2 : Below b.heap.size b c) : Below a.heap.size a c := h1.trans (h2.mono h1.size)
def bytesI (s : ByteArray) : List Int := s.data.toList.map fun b => (b.toNat : Int)
theorem bytesI_len (s : ByteArray) : (bytesI s).length = s.size := by simp [bytesI]
theorem bytesI_getD {s : ByteArray} {k : Nat} (h : k < s.size) : (bytesI s).getD k 0 = ((s[k]'h).toNat : Int) := by
 have h2 : s.data[k]? = some (s.data[k]'h) := Array.getElem?_eq_getElem h
 simp [bytesI, List.getD, h2]
 rfl
theorem bytesI_bd (s : ByteArray) : ∀ x ∈ bytesI s, 0 <= x /\ x < 256 := by
 intro x hx
 obtain ⟨b, _, rfl⟩ := List.mem_map.1 hx
 have := b.toNat_lt
 omega
set_option maxHeartbeats 1600000 in
theorem specReadN_any (s : ByteArray) (w : World) (hs : s.size <= 1048576) :
  Calls Tryz.prog 160 #[.string s] w fun e w' => ∃ v, e = .returned v /\ OwnI w' w.heap.size v (if s.size <= 60 then digs (horn 256 (bytesI s)) else []) /\ Below w.heap.size w w' := by
 obtain ⟨R, hR⟩ : ∃ R, R = if s.size <= 60 then digs (horn 256 (bytesI s)) else [] := ⟨_, rfl⟩
 rw [<- hR]
 have HRR : Hid (R = if s.size <= 60 then digs (horn 256 (bytesI s)) else []) := hR
 clear hR
 by_cases h60 : s.size <= 60
 ·have h60' : ¬ (60 : Int) < (s.size : Int) := by omega
  go_enter Tryz.func160, Tryz.ntmps160
  go_wp2
  go_loopw [3, 4] (fun nv iv wr => ∃ k : Nat, k <= s.size /\ iv = .int .i64 k /\ Hid (OwnI wr w.heap.size nv (digs (horn 256 ((bytesI s).take k))) /\ Below w.heap.size w wr)) (fun _ iv _ => s.size - (intOf iv).toNat)
  case atStart => exact ⟨0, Nat.zero_le _, rfl, by rw [show digs (horn 256 ((bytesI s).take 0)) = [] by simp [horn, digs_zero]]; exact OwnI.empty w (Nat.le_refl _), (Below.refl _ _).alloc (Nat.le_refl _) _⟩
  case round =>
   obtain ⟨k, hk, rfl, H⟩ := hrel
   by_cases hlt : k < s.size
   ·have hbl := bytesI_len s
    have hlim := horn_lim (b := 256) (by decide) (N := 60) (by decide) (bytesI_bd s) (k := k) (by omega)
    have hlim2 := horn_lim (b := 256) (by decide) (N := 60) (by decide) (bytesI_bd s) (k := k + 1) (by omega)
    have hnx := horn_take (b := 256) (l := bytesI s) (k := k) (by omega)
    rw [bytesI_getD hlt] at hnx
    rw [hnx] at hlim2
    have hcb : (s[k].toNat : Int) < 256 := by have := s[k].toNat_lt; omega
    have HNX : Hid (horn 256 ((bytesI s).take (k + 1)) = horn 256 ((bytesI s).take k) * 256 + (s[k].toNat : Int)) := hnx
    have hoo := H.out.1
    have HB : Hid (Below w.heap.size w wr) := H.out.2
    clear hnx hbl H
    generalize horn 256 ((bytesI s).take k) = h at *
    have hll := digs_len hlim.1 hlim.2
    have ha := (Below.refl wr.heap.size wr).alloc (Nat.le_refl _) (Obj.cells #[Value.int IntKind.i64 256] 3)
    have hlit : OwnI (wr.alloc (Obj.cells #[Value.int IntKind.i64 256] 3)) wr.heap.size (.slice (some ⟨wr.heap.size, 0, none⟩) 1 1) [256] := World.ownsRow_lit wr #[Value.int .i64 256] 1 (Nat.le_refl _) (by unfold maxLen; omega) rfl
    have EM := specMul0_any u3 (.slice (some ⟨wr.heap.size, 0, none⟩) 1 1) (digs h) [256] (wr.alloc (Obj.cells #[Value.int IntKind.i64 256] 3)).drew (by omega) (by simp) (dig_digs h) (by intro y hy; simp at hy; omega) ((hoo.at.below ha).below ((Below.refl _ _).drew)) (hlit.drew.at)
    rw [ev_digs hlim.1, show ev [256] = 256 by simp [ev]] at EM
    clear hoo hlit
    have HH : Hid (0 <= h /\ h < 10000 ^ 40 /\ h * 256 + (s[k].toNat : Int) < 10000 ^ 40) := ⟨hlim.1, hlim.2, hlim2.2⟩
    have HA2 : Hid (Below wr.heap.size wr (wr.alloc (Obj.cells #[Value.int IntKind.i64 256] 3)).drew) := ha.drew
    clear hlim hlim2 hll ha
    have hki : (k : Int) < (s.size : Int) := by omega
    have hk0 : (0 : Int) <= (k : Int) := by omega
    have hwp : IntKind.i64.wrap (s[k].toNat : Int) = (s[k].toNat : Int) := IntWalk.i64_in _ (by omega)
    have hc0 : (0 : Int) <= (s[k].toNat : Int) := by omega
    go_wp2_with fail
    go_region_held3 (fun _ => True) (exact trivial) ((first | (go_at_call 234; refine EM.mono ?_; rintro e w1 ⟨v1, rfl, ho1, hb1⟩) | (go_at_call 163; refine (specOf_any _ _ ?_).mono ?_; (constructor <;> omega); rintro e w2 ⟨v2, rfl, ho2, hb2⟩) | (go_at_call 233; refine (specAdd_any _ _ (digs (h * 256)) (digs (s[k].toNat : Int)) _ ?_ ?_ ?_ ?_ ?_ ?_).mono ?_; (have := HH.out; have := digs_len (x := h * 256) (k := 40) (by omega) (by omega); omega); (have := HH.out; have := digs_len (x := (s[k].toNat : Int)) (k := 40) (by omega) (by omega); omega); exact (dig_digs _).wd; exact (dig_digs _).wd; exact ho1.at.below hb2; exact ho2.at; rintro e w3 ⟨v3, rfl, ho3, hb3⟩)))
    all_goals (
     have HN : Hid (OwnI w3 w.heap.size v3 (digs (horn 256 ((bytesI s).take (k + 1)))) /\ Below w.heap.size w w3) := by
      have hb2' := below_go (below_go (below_go HB.out HA2.out) hb1) hb2
      rw [addL_digs (by have := HH.out; omega) hc0 HH.out.2.2, <- HNX.out] at ho3
      exact ⟨ho3.base hb2'.size, below_go hb2' hb3⟩
     clear EM ho1 ho2 ho3 hb1 hb2 hb3
     go_wp2
     go_roundw
     case rel => exact ⟨k + 1, by omega, by go_num, HN.out⟩
     case measure => simp [intOf]; omega)
   ·have hkn : k = s.size := by omega
    subst hkn
    have HE : Hid (OwnI wr w.heap.size u3 R /\ Below w.heap.size w wr) := by
     have h := H.out
     rw [List.take_of_length_le (by rw [bytesI_len]; exact Nat.le_refl _)] at h
     rw [HRR.out, if_pos h60]
     exact h
    clear H
    go_wp2
    go_ret
    exact ⟨_, rfl, HE.out⟩
 ·have h60' : (60 : Int) < (s.size : Int) := by omega
  have HE : Hid (R = []) := HRR.out.trans (if_neg h60)
  go_enter Tryz.func160, Tryz.ntmps160
  go_wp2
  go_ret
  exact ⟨_, rfl, (by rw [HE.out]; exact OwnI.empty w (Nat.le_refl _)), (Below.refl _ _).alloc (Nat.le_refl _) _⟩
def ByAt (w : World) (v : Value) (l : List Int) : Prop := ∃ ao cap, v = .slice ao l.length cap /\ (0 < l.length -> ∃ g, ao = some ⟨g, 0, none⟩ /\ g < w.heap.size /\ ∀ j, j < l.length -> w.cell? ⟨g, j, none⟩ = some (.int .u8 (l.getD j 0)))
theorem horn_take_bd {b : Int} (hb : 1 <= b /\ b <= 1000) {l : List Int} (h : ∀ x ∈ l, 0 <= x /\ x < b) (k : Nat) (hk : k <= l.length) : 0 <= horn b (l.take k) /\ (digs (horn b (l.take k))).length <= k := by
 have := horn_bd (b := b) (by omega) (l.take k) (fun x hx => h x (List.mem_of_mem_take hx))
 have hl : (l.take k).length = k := by simp; omega
 rw [hl] at this
 exact ⟨this.1, digs_len this.1 this.2⟩
theorem getD_mem {l : List Int} {k : Nat} (h : k < l.length) : l.getD k 0 ∈ l := by
 rw [List.getD_eq_getElem?_getD, List.getElem?_eq_getElem h]
 exact List.getElem_mem _
set_option maxHeartbeats 1600000 in
theorem naturalOf_any (v : Value) (bs : List Int) (b : Int) (w : World) (hl : bs.length <= 1000) (hb : 1 <= b /\ b <= 1000) (hx : ∀ x ∈ bs, 0 <= x /\ x < b) (hx2 : ∀ x ∈ bs, x <= 255) (hv : ByAt w v bs) :
  Calls Tryz.prog 205 #[v, .int .i64 b] w fun e w' => ∃ v', e = .returned v' /\ OwnI w' w.heap.size v' (digs (horn b bs)) /\ Below w.heap.size w w' := by
 obtain ⟨ao, cap, rfl, hc⟩ := hv
 have HC : Hid ((0 < bs.length -> ∃ g, ao = some ⟨g, 0, none⟩ /\ g < w.heap.size /\ ∀ j, j < bs.length -> w.cell? ⟨g, j, none⟩ = some (.int .u8 (bs.getD j 0))) /\ (∀ x ∈ bs, 0 <= x /\ x < b) /\ ∀ x ∈ bs, x <= 255) := ⟨hc, hx, hx2⟩
 clear hc hx hx2
 go_enter Tryz.func205, Tryz.ntmps205
 go_wp2
 go_loopw [5, 11] (fun nv iv wr => ∃ k : Nat, k <= bs.length /\ iv = .int .i64 k /\ Hid (OwnI wr w.heap.size nv (digs (horn b (bs.take k))) /\ Below w.heap.size w wr)) (fun _ iv _ => bs.length - (intOf iv).toNat)
 case atStart => exact ⟨0, Nat.zero_le _, rfl, by rw [show digs (horn b (bs.take 0)) = [] by simp [horn, digs_zero]]; exact OwnI.empty w (Nat.le_refl _), (Below.refl _ _).alloc (Nat.le_refl _) _⟩
 case round =>
  obtain ⟨k, hk, rfl, H⟩ := hrel
  by_cases hlt : k < bs.length
  ·obtain ⟨g, hao, hgl, hcs⟩ := HC.out.1 (by omega)
   have hu : wr.cell? ⟨g, k, none⟩ = some (.int .u8 (bs.getD k 0)) := by
    rw [H.out.2.cell (p := ⟨g, k, none⟩) hgl, hcs k hlt]
   subst hao
   have hxb := HC.out.2.1 _ (getD_mem hlt)
   have hxc := HC.out.2.2 _ (getD_mem hlt)
   have hbd := horn_take_bd hb HC.out.2.1 k hk
   have EE := extended_any u5 (digs (horn b (bs.take k))) b (bs.getD k 0) w.heap.size wr (by omega) hb hxb (dig_digs _) (top_digs _) H.out.2.size H.out.1
   rw [ev_digs hbd.1, <- horn_take hlt] at EE
   have HB : Hid (Below w.heap.size w wr) := H.out.2
   clear hcs hgl H hbd
   generalize bs.getD k 0 = x at *
   have hki : (k : Int) < (bs.length : Int) := by omega
   have hk0 : (0 : Int) <= (k : Int) := by omega
   go_wp2_with fail
   refine EE.mono ?_
   rintro e w1 ⟨v1, rfl, ho1, hb1⟩
   have HN : Hid (OwnI w1 w.heap.size v1 (digs (horn b (bs.take (k + 1)))) /\ Below w.heap.size w w1) := ⟨ho1, HB.out.trans hb1⟩
   clear EE ho1 hb1
   go_wp2_with fail
   go_roundw
   case rel => exact ⟨k + 1, by omega, by go_num, HN.out⟩
   case measure => simp [intOf]; omega
  ·have hkn : k = bs.length := by omega
   subst hkn
   have HE : Hid (OwnI wr w.heap.size u5 (digs (horn b bs)) /\ Below w.heap.size w wr) := by
    have h := H.out
    rw [List.take_of_length_le (Nat.le_refl _)] at h
    exact h
   clear H
   go_wp2
   go_ret
   exact ⟨_, rfl, HE.out⟩
set_option maxHeartbeats 1600000 in
theorem implReadN_any (s : ByteArray) (w : World) (hs : s.size <= 1048576) :
  Calls Tryz.prog 112 #[.string s] w fun e w' => ∃ v, e = .returned v /\ OwnI w' w.heap.size v (if s.size <= 60 then digs (horn 256 (bytesI s)) else []) /\ Below w.heap.size w w' := by
 obtain ⟨R, hR⟩ : ∃ R, R = if s.size <= 60 then digs (horn 256 (bytesI s)) else [] := ⟨_, rfl⟩
 rw [<- hR]
 have HRR : Hid (R = if s.size <= 60 then digs (horn 256 (bytesI s)) else []) := hR
 clear hR
 have hcv := fun w => run_bytes_of_string (P := Tryz.prog) w 9 22 5 s Tryz.underlying9 Tryz.underlying22 Tryz.underlying5
 by_cases h60 : s.size <= 60
 ·have h60' : ¬ (60 : Int) < (s.size : Int) := by omega
  go_enter Tryz.func112, Tryz.ntmps112
  go_wp2_with fail
  obtain ⟨C, hC⟩ : ∃ C, grownCap w s.size 0 5 = C := ⟨_, rfl⟩
  rw [hC]
  clear hC hcv
  have HV : Hid (ByAt ((w.alloc (.cells (bytesRow s C) 5 ((bytesRow s C).size, (bytesRow s C).size + 1))).drew) (.slice (some ⟨w.heap.size, 0, none⟩) s.size C) (bytesI s) /\ Below w.heap.size w ((w.alloc (.cells (bytesRow s C) 5 ((bytesRow s C).size, (bytesRow s C).size + 1))).drew)) := by
   refine ⟨?_, ((Below.refl _ _).alloc (Nat.le_refl _) _).drew⟩
   unfold ByAt
   rw [bytesI_len]
   refine ⟨_, _, rfl, fun _ => ⟨w.heap.size, rfl, ?_, fun j hj => ?_⟩⟩
   ·show w.heap.size < (w.alloc _).heap.size
    simp
   ·show (w.alloc (.cells (bytesRow s C) 5 ((bytesRow s C).size, (bytesRow s C).size + 1))).cell? ⟨w.heap.size, j, none⟩ = _
    rw [World.cell?_alloc_mark, bytesRow_at s C j hj, bytesI_getD hj]; rfl
  refine (naturalOf_any _ (bytesI s) 256 _ (by rw [bytesI_len]; omega) (by omega) (bytesI_bd s) (fun x hx => by have := bytesI_bd s x hx; omega) HV.out.1).mono ?_
  rintro e w2 ⟨v2, rfl, ho2, hb2⟩
  have HF : Hid (OwnI w2 w.heap.size v2 R /\ Below w.heap.size w w2) := ⟨by rw [HRR.out, if_pos h60]; exact ho2.base HV.out.2.size, below_go HV.out.2 hb2⟩
  clear ho2 hb2
  go_wp2_with fail
  go_ret
  exact ⟨_, rfl, HF.out⟩
 ·have h60' : (60 : Int) < (s.size : Int) := by omega
  have HE : Hid (R = []) := HRR.out.trans (if_neg h60)
  go_enter Tryz.func112, Tryz.ntmps112
  go_wp2
  go_ret
  exact ⟨_, rfl, (by rw [HE.out]; exact OwnI.nil _ _), Below.refl _ _⟩
theorem readL_len (s : ByteArray) : (if s.size <= 60 then digs (horn 256 (bytesI s)) else []).length <= 40 := by
 split
 ·rename_i h
  have h1 := horn_lt (b := 256) (by decide) s.size (bytesI s) (bytesI_len s) (bytesI_bd s)
  have h2 := pb_le (b := 256) (by decide) h
  have h3 : (256 : Int) ^ 60 < 10000 ^ 40 := by decide
  exact digs_len h1.1 (by omega)
 ·simp
end Go.Proofs.YtjgbmnhoajiabaaGreatDoor
