/-
  Texts of the proof.
-/
import Derived.Deep.LoopGhost
import Derived.Test.YtjgbmnhoajiabaaGreatDoorSR28
set_option maxRecDepth 100000
namespace Go.Proofs.YtjgbmnhoajiabaaGreatDoor
open Go.RowKit
def ByAt (w : World) (v : Value) (l : List Int) : Prop := ∃ ao cap, v = .slice ao l.length cap /\ (0 < l.length -> ∃ g, ao = some ⟨g, 0, none⟩ /\ g < w.heap.size /\ ∀ j, j < l.length -> w.cell? ⟨g, j, none⟩ = some (.int .u8 (l.getD j 0)))
theorem horn_take_bd {b : Int} (hb : 1 <= b /\ b <= 1000) {l : List Int} (h : ∀ x ∈ l, 0 <= x /\ x < b) (k : Nat) (hk : k <= l.length) : 0 <= horn b (l.take k) /\ (digs (horn b (l.take k))).length <= k := by
 have := horn_bd (b := b) (by omega) (l.take k) (fun x hx => h x (List.mem_of_mem_take hx))
 have hl : (l.take k).length = k := by simp; omega
 rw [hl] at this
 exact ⟨this.1, digs_len this.1 this.2⟩
theorem getD_mem {l : List Int} {k : Nat} (h : k < l.length) : l.getD k 0 ∈ l := by
 rw [List.getD_eq_getElem?_getD, List.getElem?_eq_getElem h]
 exact List.getElem_mem _
set_option maxHeartbeats 1600000 in
theorem naturalOf_any (v : Value) (bs : List Int) (b : Int) (w : World) (hl : bs.length <= 1000) (hb : 1 <= b /\ b <= 1000) (hx : ∀ x ∈ bs, 0 <= x /\ x < b) (hx2 : ∀ x ∈ bs, x <= 255) (hv : ByAt w v bs) :
  Calls Tryz.prog 205 #[v, .int .i64 b] w fun e w' => ∃ v', e = .returned v' /\ OwnI w' w.heap.size v' (digs (horn b bs)) /\ Below w.heap.size w w' := by
 obtain ⟨ao, cap, rfl, hc⟩ := hv
 have HC : Hid ((0 < bs.length -> ∃ g, ao = some ⟨g, 0, none⟩ /\ g < w.heap.size /\ ∀ j, j < bs.length -> w.cell? ⟨g, j, none⟩ = some (.int .u8 (bs.getD j 0))) /\ (∀ x ∈ bs, 0 <= x /\ x < b) /\ ∀ x ∈ bs, x <= 255) := ⟨hc, hx, hx2⟩
 clear hc hx hx2
 go_enter Tryz.func205, Tryz.ntmps205
 go_wp2
 go_loopw [5, 11] (fun nv iv wr => ∃ k : Nat, k <= bs.length /\ iv = .int .i64 k /\ Hid (OwnI wr w.heap.size nv (digs (horn b (bs.take k))) /\ Below w.heap.size w wr)) (fun _ iv _ => bs.length - (intOf iv).toNat)
 case atStart => exact ⟨0, Nat.zero_le _, rfl, by rw [show digs (horn b (bs.take 0)) = [] by simp [horn, digs_zero]]; exact OwnI.empty w (Nat.le_refl _), (Below.refl _ _).alloc (Nat.le_refl _) _⟩
 case round =>
  obtain ⟨k, hk, rfl, H⟩ := hrel
  by_cases hlt : k < bs.length
  ·obtain ⟨g, hao, hgl, hcs⟩ := HC.out.1 (by omega)
   have hu : wr.cell? ⟨g, k, none⟩ = some (.int .u8 (bs.getD k 0)) := by
    rw [H.out.2.cell (p := ⟨g, k, none⟩) hgl, hcs k hlt]
   subst hao
   have hxb := HC.out.2.1 _ (getD_mem hlt)
   have hxc := HC.out.2.2 _ (getD_mem hlt)
   have hbd := horn_take_bd hb HC.out.2.1 k hk
   have EE := extended_any u5 (digs (horn b (bs.take k))) b (bs.getD k 0) w.heap.size wr (by omega) hb hxb (dig_digs _) (top_digs _) H.out.2.size H.out.1
   rw [ev_digs hbd.1, <- horn_take hlt] at EE
   have HB : Hid (Below w.heap.size w wr) := H.out.2
   clear hcs hgl H hbd
   generalize bs.getD k 0 = x at *
   have hki : (k : Int) < (bs.length : Int) := by omega
   have hk0 : (0 : Int) <= (k : Int) := by omega
   go_wp2_with fail
   refine EE.mono ?_
   rintro e w1 ⟨v1, rfl, ho1, hb1⟩
   have HN : Hid (OwnI w1 w.heap.size v1 (digs (horn b (bs.take (k + 1)))) /\ Below w.heap.size w w1) := ⟨ho1, HB.out.trans hb1⟩
   clear EE ho1 hb1
   go_wp2_with fail
   go_roundw
   case rel => exact ⟨k + 1, by omega, by go_num, HN.out⟩
   case measure => simp [intOf]; omega
  ·have hkn : k = bs.length := by omega
   subst hkn
   have HE : Hid (OwnI wr w.heap.size u5 (digs (horn b bs)) /\ Below w.heap.size w wr) := by
    have h := H.out
    rw [List.take_of_length_le (Nat.le_refl _)] at h
    exact h
   clear H
   go_wp2
   go_ret
   exact ⟨_, rfl, HE.out⟩
set_option maxHeartbeats 1600000 in
theorem implReadN_any (s : ByteArray) (w : World) (hs : s.size <= 1048576) :
  Calls Tryz.prog 112 #[.string s] w fun e w' => ∃ v, e = .returned v /\ OwnI w' w.heap.size v (if s.size <= 60 then digs (horn 256 (bytesI s)) else []) /\ Below w.heap.size w w' := by
 obtain ⟨R, hR⟩ : ∃ R, R = if s.size <= 60 then digs (horn 256 (bytesI s)) else [] := ⟨_, rfl⟩
 rw [<- hR]
 have HRR : Hid (R = if s.size <= 60 then digs (horn 256 (bytesI s)) else []) := hR
 clear hR
 have hcv := fun w => run_bytes_of_string (P := Tryz.prog) w 9 22 5 s Tryz.underlying9 Tryz.underlying22 Tryz.underlying5
 by_cases h60 : s.size <= 60
 ·have h60' : ¬ (60 : Int) < (s.size : Int) := by omega
  go_enter Tryz.func112, Tryz.ntmps112
  go_wp2_with fail
  obtain ⟨C, hC⟩ : ∃ C, grownCap w s.size 0 5 = C := ⟨_, rfl⟩
  rw [hC]
  clear hC hcv
  have HV : Hid (ByAt ((w.alloc (.cells (bytesRow s C) 5 ((bytesRow s C).size, (bytesRow s C).size + 1))).drew) (.slice (some ⟨w.heap.size, 0, none⟩) s.size C) (bytesI s) /\ Below w.heap.size w ((w.alloc (.cells (bytesRow s C) 5 ((bytesRow s C).size, (bytesRow s C).size + 1))).drew)) := by
   refine ⟨?_, ((Below.refl _ _).alloc (Nat.le_refl _) _).drew⟩
   unfold ByAt
   rw [bytesI_len]
   refine ⟨_, _, rfl, fun _ => ⟨w.heap.size, rfl, ?_, fun j hj => ?_⟩⟩
   ·show w.heap.size < (w.alloc _).heap.size
    simp
   ·show (w.alloc (.cells (bytesRow s C) 5 ((bytesRow s C).size, (bytesRow s C).size + 1))).cell? ⟨w.heap.size, j, none⟩ = _
    rw [World.cell?_alloc_mark, bytesRow_at s C j hj, bytesI_getD hj]; rfl
  refine (naturalOf_any _ (bytesI s) 256 _ (by rw [bytesI_len]; omega) (by omega) (bytesI_bd s) (fun x hx => by have := bytesI_bd s x hx; omega) HV.out.1).mono ?_
  rintro e w2 ⟨v2, rfl, ho2, hb2⟩
  have HF : Hid (OwnI w2 w.heap.size v2 R /\ Below w.heap.size w w2) := ⟨by rw [HRR.out, if_pos h60]; exact ho2.base HV.out.2.size, below_go HV.out.2 hb2⟩
  clear ho2 hb2
  go_wp2_with fail
  go_ret
  exact ⟨_, rfl, HF.out⟩
 ·have h60' : (60 : Int) < (s.size : Int) := by omega
  have HE : Hid (R = []) := HRR.out.trans (if_neg h60)
  go_enter Tryz.func112, Tryz.ntmps112
  go_wp2
  go_ret
  exact ⟨_, rfl, (by rw [HE.out]; exact OwnI.nil _ _), Below.refl _ _⟩
def figL (s : ByteArray) : List Int := if s.size <= 140 then (match fvals 10 s.data.toList with | some vs => digs (horn 10 (vs.map fun x : Nat => (x : Int))) | none => []) else []
theorem readL_len (s : ByteArray) : (if s.size <= 60 then digs (horn 256 (bytesI s)) else []).length <= 40 := by
 split
 ·rename_i h
  have h1 := horn_lt (b := 256) (by decide) s.size (bytesI s) (bytesI_len s) (bytesI_bd s)
  have h2 := pb_le (b := 256) (by decide) h
  have h3 : (256 : Int) ^ 60 < 10000 ^ 40 := by decide
  exact digs_len h1.1 (by omega)
 ·simp
theorem figL_len (s : ByteArray) : (figL s).length <= 40 := by
 unfold figL
 split
 ·rename_i h
  cases hf : fvals 10 s.data.toList with
  | none => simp
  | some vs =>
   have hvb : ∀ x ∈ (vs.map fun x : Nat => (x : Int)), 0 <= x /\ x < 10 := fun x hx => by
    obtain ⟨y, hy, rfl⟩ := List.mem_map.1 hx
    have := fvals_lt hf y hy
    omega
   have hvl : (vs.map fun x : Nat => (x : Int)).length = s.size := by
    rw [List.length_map, fvals_len hf]
    simp
   have h1 := horn_lt (b := 10) (by decide) s.size _ hvl hvb
   have h2 := pb_le (b := 10) (by decide) h
   have h3 : (10 : Int) ^ 140 < 10000 ^ 40 := by decide
   exact digs_len h1.1 (by omega)
 ·simp
set_option maxHeartbeats 1600000 in
theorem specFig_any (s : ByteArray) (w : World) (hs : s.size <= 1048576) :
  Calls Tryz.prog 213 #[.string s] w fun e w' => ∃ v, e = .returned v /\ OwnI w' w.heap.size v (figL s) /\ Below w.heap.size w w' := by
 have HW : Hid (Below w.heap.size w (w.alloc (Obj.cells #[] 3)) /\ OwnI (w.alloc (Obj.cells #[] 3)) w.heap.size (.slice (some ⟨w.heap.size, 0, none⟩) 0 0) []) := ⟨(Below.refl _ _).alloc (Nat.le_refl _) _, OwnI.empty w (Nat.le_refl _)⟩
 by_cases hin : 1 <= s.size /\ s.size <= 140
 ·go_enter Tryz.func213, Tryz.ntmps213
  go_wp2_with fail
  refine (in_yes _ 1 140 _ (by omega) (by omega)).mono ?_
  rintro e w' ⟨rfl, rfl⟩
  go_wp2_with fail
  go_loopw [3, 4] (fun nv iv wr => ∃ (k : Nat) (vs : List Nat), k <= s.size /\ iv = .int .i64 k /\ Hid (fvals 10 (s.data.toList.take k) = some vs /\ OwnI wr w.heap.size nv (digs (horn 10 (vs.map fun x : Nat => (x : Int)))) /\ Below w.heap.size w wr)) (fun _ iv _ => s.size - (intOf iv).toNat)
  case atStart => exact ⟨0, [], Nat.zero_le _, rfl, by simp [fvals], by rw [show digs (horn 10 (([] : List Nat).map fun x : Nat => (x : Int))) = [] by simp [horn, digs_zero]]; exact HW.out.2, HW.out.1⟩
  case round =>
   obtain ⟨k, vs, hk, rfl, H⟩ := hrel
   by_cases hlt : k < s.size
   ·have hf10 := fval10 s[k]
    have hcb : (s[k].toNat : Int) < 256 := by have := s[k].toNat_lt; omega
    have hc0 : (0 : Int) <= (s[k].toNat : Int) := by omega
    have hki : (k : Int) < (s.size : Int) := by omega
    have hk0 : (0 : Int) <= (k : Int) := by omega
    by_cases hd : 48 <= s[k].toNat /\ s[k].toNat <= 57
    ·have hd1 : ¬ (s[k].toNat : Int) < 48 := by omega
     have hd2 : ¬ (57 : Int) < (s[k].toNat : Int) := by omega
     rw [if_pos hd] at hf10
     have HNX : Hid (fvals 10 (s.data.toList.take (k + 1)) = some (vs ++ [s[k].toNat - 48]) /\ horn 10 ((vs ++ [s[k].toNat - 48]).map fun x : Nat => (x : Int)) = horn 10 (vs.map fun x : Nat => (x : Int)) * 10 + ((s[k].toNat : Int) - 48)) := by
      refine ⟨?_, ?_⟩
      ·have hbl : k < s.data.toList.length := by simpa using hlt
       have hge : s.data.toList[k] = s[k]'hlt := rfl
       rw [List.take_add_one, List.getElem?_eq_getElem hbl, hge]
       exact fvals_snoc H.out.1 hf10
      ·rw [List.map_append, List.map_singleton, horn_snoc]
       congr 1
       omega
     have hvb : ∀ x ∈ (vs.map fun x : Nat => (x : Int)), 0 <= x /\ x < 10 := fun x hx => by
      obtain ⟨y, hy, rfl⟩ := List.mem_map.1 hx
      have := fvals_lt H.out.1 y hy
      omega
     have hvl : (vs.map fun x : Nat => (x : Int)).length = k := by
      have hsl : s.data.toList.length = s.size := by simp
      rw [List.length_map, fvals_len H.out.1, List.length_take, hsl]
      omega
     have hlim := horn_lt (b := 10) (by decide) k _ hvl hvb
     have hp := pb_le (b := 10) (by decide) (show k + 1 <= 140 by omega)
     have hq : (10 : Int) ^ 140 < 10000 ^ 40 := by decide
     rw [Int.pow_succ] at hp
     have hoo := H.out.2.1
     have HB : Hid (Below w.heap.size w wr) := H.out.2.2
     clear H hvb hvl hf10
     generalize horn 10 (vs.map fun x : Nat => (x : Int)) = h at *
     have HH : Hid (0 <= h /\ h < 10000 ^ 40 /\ h * 10 + ((s[k].toNat : Int) - 48) < 10000 ^ 40) := ⟨hlim.1, by omega, by omega⟩
     have hll := digs_len HH.out.1 HH.out.2.1
     clear hlim hp hq
     have ha := (Below.refl wr.heap.size wr).alloc (Nat.le_refl _) (Obj.cells #[Value.int IntKind.i64 10] 3)
     have hlit : OwnI (wr.alloc (Obj.cells #[Value.int IntKind.i64 10] 3)) wr.heap.size (.slice (some ⟨wr.heap.size, 0, none⟩) 1 1) [10] := World.ownsRow_lit wr #[Value.int .i64 10] 1 (Nat.le_refl _) (by unfold maxLen; omega) rfl
     have EM := specMul0_any u3 (.slice (some ⟨wr.heap.size, 0, none⟩) 1 1) (digs h) [10] (wr.alloc (Obj.cells #[Value.int IntKind.i64 10] 3)).drew (by omega) (by simp) (dig_digs h) (by intro y hy; simp at hy; omega) ((hoo.at.below ha).below ((Below.refl _ _).drew)) (hlit.drew.at)
     rw [ev_digs HH.out.1, show ev [10] = 10 by simp [ev]] at EM
     clear hoo hlit hll
     have HA2 : Hid (Below wr.heap.size wr (wr.alloc (Obj.cells #[Value.int IntKind.i64 10] 3)).drew) := ha.drew
     clear ha
     have hwp : IntKind.i64.wrap (s[k].toNat : Int) = (s[k].toNat : Int) := IntWalk.i64_in _ (by omega)
     have hwq : IntKind.i64.wrap ((s[k].toNat : Int) - 48) = (s[k].toNat : Int) - 48 := IntWalk.i64_in _ (by omega)
     go_wp2_with fail
     go_region_held3 (fun _ => True) (exact trivial) ((first | (go_at_call 234; refine EM.mono ?_; rintro e w1 ⟨v1, rfl, ho1, hb1⟩) | (go_at_call 163; refine (specOf_any _ _ ?_).mono ?_; (constructor <;> omega); rintro e w2 ⟨v2, rfl, ho2, hb2⟩) | (go_at_call 233; refine (specAdd_any _ _ (digs (h * 10)) (digs ((s[k].toNat : Int) - 48)) _ ?_ ?_ ?_ ?_ ?_ ?_).mono ?_; (have := HH.out; have := digs_len (x := h * 10) (k := 40) (by omega) (by omega); omega); (have := HH.out; have := digs_len (x := (s[k].toNat : Int) - 48) (k := 40) (by omega) (by omega); omega); exact (dig_digs _).wd; exact (dig_digs _).wd; exact ho1.at.below hb2; exact ho2.at; rintro e w3 ⟨v3, rfl, ho3, hb3⟩)))
     all_goals (
      have HN : Hid (fvals 10 (s.data.toList.take (k + 1)) = some (vs ++ [s[k].toNat - 48]) /\ OwnI w3 w.heap.size v3 (digs (horn 10 ((vs ++ [s[k].toNat - 48]).map fun x : Nat => (x : Int)))) /\ Below w.heap.size w w3) := by
       have hb2' := below_go (below_go (below_go HB.out HA2.out) hb1) hb2
       rw [addL_digs (by have := HH.out; omega) (by omega) HH.out.2.2, <- HNX.out.2] at ho3
       exact ⟨HNX.out.1, ho3.base hb2'.size, below_go hb2' hb3⟩
      clear EM ho1 ho2 ho3 hb1 hb2 hb3
      go_wp2
      go_roundw
      case rel => exact ⟨k + 1, _, by omega, by go_num, HN.out⟩
      case measure => simp [intOf]; omega)
    ·rw [if_neg hd] at hf10
     have he : figL s = [] := by
      unfold figL
      rw [if_pos hin.2, fvals_none (byte_mem s k hlt) hf10]
     have HE : Hid (figL s = [] /\ Below w.heap.size w wr) := ⟨he, H.out.2.2⟩
     clear he H hf10
     by_cases hd1 : (s[k].toNat : Int) < 48
     ·go_wp2_with fail
      go_ret
      exact ⟨_, rfl, (by rw [HE.out.1]; exact OwnI.empty wr HE.out.2.size), HE.out.2.alloc HE.out.2.size _⟩
     ·have hd2 : (57 : Int) < (s[k].toNat : Int) := by omega
      go_wp2_with fail
      go_ret
      exact ⟨_, rfl, (by rw [HE.out.1]; exact OwnI.empty wr HE.out.2.size), HE.out.2.alloc HE.out.2.size _⟩
   ·have hkn : k = s.size := by omega
    subst hkn
    have HE : Hid (OwnI wr w.heap.size u3 (figL s) /\ Below w.heap.size w wr) := by
     have h := H.out
     rw [List.take_of_length_le (by simp)] at h
     refine ⟨?_, h.2.2⟩
     unfold figL
     rw [if_pos hin.2, h.1]
     exact h.2.1
    clear H
    go_wp2
    go_ret
    exact ⟨_, rfl, HE.out⟩
 ·have he : figL s = [] := by
   unfold figL
   by_cases h : s.size <= 140
   ·have h0 : s.size = 0 := by omega
    have h1 : s.data.toList = [] := List.eq_nil_of_length_eq_zero (by simpa using h0)
    rw [if_pos h, h1]
    simp [fvals, horn, digs_zero]
   ·rw [if_neg h]
  have HE : Hid (figL s = []) := he
  clear he
  go_enter Tryz.func213, Tryz.ntmps213
  go_wp2_with fail
  refine (in_no _ 1 140 _ (by omega)).mono ?_
  rintro e w' ⟨rfl, rfl⟩
  go_wp2_with fail
  go_ret
  exact ⟨_, rfl, (by rw [HE.out]; exact HW.out.2), HW.out.1⟩
def readL (s : ByteArray) : List Int := if s.size <= 60 then digs (horn 256 (bytesI s)) else []
theorem readL_len2 (s : ByteArray) : (readL s).length <= 40 := readL_len s
theorem specReadL_any (s : ByteArray) (w : World) (hs : s.size <= 1048576) :
  Calls Tryz.prog 160 #[.string s] w fun e w' => ∃ v, e = .returned v /\ OwnI w' w.heap.size v (readL s) /\ Below w.heap.size w w' := specReadN_any s w hs
theorem implReadL_any (s : ByteArray) (w : World) (hs : s.size <= 1048576) :
  Calls Tryz.prog 112 #[.string s] w fun e w' => ∃ v, e = .returned v /\ OwnI w' w.heap.size v (readL s) /\ Below w.heap.size w w' := implReadN_any s w hs
end Go.Proofs.YtjgbmnhoajiabaaGreatDoor
