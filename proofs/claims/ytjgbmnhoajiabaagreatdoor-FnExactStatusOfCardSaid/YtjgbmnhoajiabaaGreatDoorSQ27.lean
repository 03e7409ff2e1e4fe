/-
  Texts of the proof.
-/
import Derived.Test.YtjgbmnhoajiabaaGreatDoorSQ26
set_option maxRecDepth 100000
namespace Go.Proofs.YtjgbmnhoajiabaaGreatDoor
open Go.RowKit
theorem digs_len64 {n : Int} (h : -9223372036854775808 <= n /\ n <= 9223372036854775807) : (digs n).length <= 5 := by
 by_cases h0 : 0 <= n
 ·exact digs_len h0 (by (have : (10000 : Int) ^ 5 = 100000000000000000000 := by decide); omega)
 ·rw [digs_neg (by omega)]; simp
set_option maxHeartbeats 1600000 in
theorem implOf_any (n : Int) (w : World) (hn : -9223372036854775808 <= n /\ n <= 9223372036854775807) :
  Calls Tryz.prog 116 #[.int .i64 n] w fun e w' => ∃ v, e = .returned v /\ OwnI w' w.heap.size v (digs n) /\ Below w.heap.size w w' := by
 obtain ⟨i0, hi, hz0, hz1, hz2⟩ := info_parts info3
 go_enter Tryz.func116, Tryz.ntmps116
 go_wp2
 go_loopw [0, 3] (fun nv v wr => ∃ (x : Int) (l : List Int), -9223372036854775808 <= x /\ x <= 9223372036854775807 /\ nv = .int .i64 x /\ Hid (l ++ digs x = digs n /\ OwnI wr w.heap.size v l /\ Below w.heap.size w wr)) (fun nv _ _ => (intOf nv).toNat)
 case atStart => exact ⟨n, [], hn.1, hn.2, rfl, rfl, World.ownsRow_made w #[] 0 (Nat.le_refl _) (Nat.zero_le _) rfl, (Below.refl _ _).alloc (Nat.le_refl _) _⟩
 case round =>
  obtain ⟨x, l, hx1, hx2, rfl, H⟩ := hrel
  have hll : l.length <= 5 := by
   have h := congrArg List.length H.out.1
   rw [List.length_append] at h
   by_cases hn0 : 0 <= n
   ·have := digs_len (k := 5) hn0 (by (have : (10000 : Int) ^ 5 = 100000000000000000000 := by decide); omega)
    omega
   ·rw [digs_neg (x := n) (by omega)] at h
    rw [List.length_nil] at h
    omega
  by_cases hx : 0 < x
  ·have hsz := H.out.2.2.size
   have hown := H.out.2.1
   unfold OwnI at hown
   go_wp2_with (at_builtin; refine wpList_append_own _ rfl _ _ 24 rfl w.heap.size 3 i0 (.int .i64 0) 1 8 Tryz.underlying24 hi hz0 hz1 hz2 rfl (by decide) _ _ _ rfl (hown.alloc _) ⟨wr.heap.size, 0, none⟩ 1 1 [.int .i64 (x % 10000)] rfl rfl (one_new _ _ _) (one_int (x % 10000)) (by unfold maxLen; omega) (by omega) (size_ok hsz _) ?_)
   intro v' w4 hown' hgrow _
   have HN : Hid ((l ++ [x % 10000]) ++ digs (x / 10000) = digs n /\ OwnI w4 w.heap.size v' (l ++ [x % 10000]) /\ Below w.heap.size w w4) := by
    refine ⟨by rw [List.append_assoc, List.singleton_append, <- digs_step hx]; exact H.out.1, ?_, (H.out.2.2.alloc hsz _).grown hgrow (size_ok hsz _) (fun j hj => (hown.lt j hj).1)⟩
    unfold OwnI
    rw [cellsI_append, List.length_append]
    exact hown'
   clear hown hown' hgrow H
   go_wp2
   go_roundw
   case rel => exact ⟨x / 10000, _, by omega, by omega, rfl, HN.out⟩
   case measure => simp [intOf]; omega
  ·have HE : Hid (l = digs n) := by have h := H.out.1; rw [digs_neg (x := x) (by omega), List.append_nil] at h; exact h
   go_wp2
   go_ret
   exact ⟨_, rfl, by rw [<- HE.out]; exact H.out.2.1, H.out.2.2⟩
theorem fig_prod2 {x y : Int} (hx : 0 <= x /\ x <= 9999) (hy : 0 <= y /\ y <= 9999) : 0 <= x * y /\ x * y <= 99980001 := by
 have h1 := Int.mul_le_mul_of_nonneg_left hy.2 hx.1
 have h2 := Int.mul_nonneg hx.1 hy.1
 omega
theorem OwnI.drewN {w : World} {base : Nat} {v : Value} {l : List Int} (h : OwnI w base v l) (n : Nat) : OwnI (w.drewN n) base v l := h.stays ⟨rfl, rfl, rfl, Nat.le_refl _, fun _ _ => rfl⟩
structure Mu (la lb : List Int) (i k : Nat) (L : List Int) (c : Int) : Prop where
 len : L.length = la.length + lb.length
 dig : Dig L
 val : ev L + 10000 ^ (i + k) * c = ev (la.take i) * ev lb + 10000 ^ i * la.getD i 0 * ev (lb.take k)
 small : 0 <= c /\ c <= 9999
 hi : ∀ q, i + lb.length <= q -> L.getD q 0 = 0
theorem Mu.start (la lb : List Int) : Mu la lb 0 0 (List.replicate (la.length + lb.length) 0) 0 := by
 have h0 : ∀ q, (List.replicate (la.length + lb.length) (0 : Int)).getD q 0 = 0 := fun q => by
  by_cases h : q < la.length + lb.length
  ·simp [List.getD, h]
  ·rw [getD_past (by simp; omega)]
 exact ⟨by simp, fun x hx => by simp at hx; omega, by rw [ev_replicate]; simp [ev], by omega, fun q _ => h0 q⟩
theorem Mu.step {la lb : List Int} {i k : Nat} {L : List Int} {c : Int} (h : Mu la lb i k L c) (ha : Dig la) (hb : Dig lb) (hi : i < la.length) (hk : k < lb.length) :
  Mu la lb i (k + 1) (L.set (i + k) ((L.getD (i + k) 0 + la.getD i 0 * lb.getD k 0 + c) % 10000)) ((L.getD (i + k) 0 + la.getD i 0 * lb.getD k 0 + c) / 10000) := by
 have hl := h.len
 have hkl : i + k < L.length := by omega
 have h1 := h.dig.getD (i + k)
 have h2 := fig_prod2 (ha.getD i) (hb.getD k)
 have hs := h.small
 refine ⟨by simp [hl], ?_, ?_, by omega, fun q hq => ?_⟩
 ·refine dig_of_getD fun j hj => ?_
  rw [getD_set _ hkl]
  split
  ·omega
  ·exact h.dig.getD j
 ·rw [ev_set _ hkl, ev_take_succ, <- Nat.add_assoc, pw_succ]
  have hv := h.val
  have e := Int.emod_add_mul_ediv (L.getD (i + k) 0 + la.getD i 0 * lb.getD k 0 + c) 10000
  generalize (L.getD (i + k) 0 + la.getD i 0 * lb.getD k 0 + c) % 10000 = r at *
  generalize (L.getD (i + k) 0 + la.getD i 0 * lb.getD k 0 + c) / 10000 = q at *
  have e' : r = L.getD (i + k) 0 + la.getD i 0 * lb.getD k 0 + c - 10000 * q := by omega
  rw [e']
  rw [pw_add] at hv |-
  grind
 ·rw [getD_set _ hkl, if_neg (by omega)]
  exact h.hi q hq
theorem Mu.next {la lb : List Int} {i : Nat} {L : List Int} {c : Int} (h : Mu la lb i lb.length L c) (hi : i < la.length) (_hb : 0 < lb.length) :
  Mu la lb (i + 1) 0 (L.set (i + lb.length) (L.getD (i + lb.length) 0 + c)) 0 := by
 have hl := h.len
 have hkl : i + lb.length < L.length := by omega
 have h0 := h.hi (i + lb.length) (Nat.le_refl _)
 have hs := h.small
 refine ⟨by simp [hl], ?_, ?_, by omega, fun q hq => ?_⟩
 ·refine dig_of_getD fun j hj => ?_
  rw [getD_set _ hkl]
  split
  ·omega
  ·exact h.dig.getD j
 ·rw [ev_set _ hkl, h0, ev_take_succ]
  have hv := h.val
  rw [ev_take_all lb (Nat.le_refl _)] at hv
  simp only [List.take_zero, ev, Int.mul_zero, Int.add_zero, Int.zero_add, Int.sub_zero]
  grind
 ·rw [getD_set _ hkl, if_neg (by omega)]
  exact h.hi q (by omega)
set_option maxHeartbeats 1600000 in
theorem specMul0_any (a b : Value) (la lb : List Int) (w : World) (hl : la.length <= 1000) (hl2 : lb.length <= 1000) (hda : Dig la) (hdb : Dig lb) (ha : IntAt w a la) (hb : IntAt w b lb) :
  Calls Tryz.prog 234 #[a, b] w fun e w' => ∃ v, e = .returned v /\ OwnI w' w.heap.size v (digs (ev la * ev lb)) /\ Below w.heap.size w w' := by
 obtain ⟨i0, hi, hz0, hz1, hz2⟩ := info_parts info3
 obtain ⟨ao, ac, rfl, HA0⟩ := ha
 obtain ⟨bo, bc, rfl, HB0⟩ := hb
 have HA : Hid (Dig la /\ (0 < la.length -> ∃ g, ao = some ⟨g, 0, none⟩ /\ g < w.heap.size /\ ∀ j (hj : j < la.length), w.cell? ⟨g, j, none⟩ = some (.int .i64 la[j]))) := ⟨hda, HA0⟩
 have HB : Hid (Dig lb /\ (0 < lb.length -> ∃ g, bo = some ⟨g, 0, none⟩ /\ g < w.heap.size /\ ∀ j (hj : j < lb.length), w.cell? ⟨g, j, none⟩ = some (.int .i64 lb[j]))) := ⟨hdb, HB0⟩
 clear hda hdb HA0 HB0
 by_cases ha0 : la.length = 0
 ·have ha0' : ((la.length : Int) == 0) = true := by simpa using ha0
  have he : digs (ev la * ev lb) = [] := by
   rw [List.eq_nil_of_length_eq_zero ha0]
   simp [ev, digs_zero]
  have HE : Hid (digs (ev la * ev lb) = []) := he
  clear he
  go_enter Tryz.func234, Tryz.ntmps234
  go_wp2
  go_ret
  exact ⟨_, rfl, by rw [HE.out]; exact World.ownsRow_made w #[] 0 (Nat.le_refl _) (Nat.zero_le _) rfl, (Below.refl _ _).alloc (Nat.le_refl _) _⟩
 have ha0' : ((la.length : Int) == 0) = false := by simpa using ha0
 by_cases hb0 : lb.length = 0
 ·have hb0' : ((lb.length : Int) == 0) = true := by simpa using hb0
  have he : digs (ev la * ev lb) = [] := by
   rw [List.eq_nil_of_length_eq_zero hb0]
   simp [ev, digs_zero]
  have HE : Hid (digs (ev la * ev lb) = []) := he
  clear he
  go_enter Tryz.func234, Tryz.ntmps234
  go_wp2
  go_ret
  exact ⟨_, rfl, by rw [HE.out]; exact World.ownsRow_made w #[] 0 (Nat.le_refl _) (Nat.zero_le _) rfl, (Below.refl _ _).alloc (Nat.le_refl _) _⟩
 have hb0' : ((lb.length : Int) == 0) = false := by simpa using hb0
 have hbp : 0 < lb.length := by omega
 have HZ : Hid (¬ la.length = 0 /\ ¬ lb.length = 0) := ⟨ha0, hb0⟩
 clear ha0 hb0
 go_enter Tryz.func234, Tryz.ntmps234
 go_wp2_with (at_make; refine wpList_make_full _ rfl _ _ 24 rfl w.heap.size 3 i0 (.int .i64 0) 1 Tryz.underlying24 hi hz0 hz1 .i64 .i64 _ _ (la.length + lb.length) rfl rfl ?m0 ?m1 ?m2 ?m3 ?m4 ?_)
 case m0 => simp
 case m1 => simp
 case m2 => rw [hz2]; omega
 case m3 => unfold maxLen; omega
 case m4 => exact Nat.le_refl _
 intro w1 hown hgrow
 have HO : Hid (∃ L, Mu la lb 0 0 L 0 /\ OwnI w1 w.heap.size (.slice (some ⟨w.heap.size, 0, none⟩) L.length (la.length + lb.length)) L /\ Below w.heap.size w w1) :=
  ⟨_, Mu.start la lb, OwnI.of_made hown, (Below.refl _ _).grown hgrow (Nat.le_refl _) (fun j hj => by cases hj)⟩
 clear hown hgrow
 go_wp2_with fail
 go_loopw [6] (fun iv wr => ∃ (i : Nat) (L : List Int), i <= la.length /\ iv = .int .i64 i /\ Hid (Mu la lb i 0 L 0 /\ OwnI wr w.heap.size (.slice (some ⟨w.heap.size, 0, none⟩) L.length (la.length + lb.length)) L /\ Below w.heap.size w wr)) (fun iv _ => la.length - (intOf iv).toNat)
 case atStart => obtain ⟨L, h⟩ := HO.out; exact ⟨0, L, Nat.zero_le _, rfl, h⟩
 case round =>
  obtain ⟨i, L, hi1, rfl, H⟩ := hrel
  clear HO
  by_cases hin : i < la.length
  ·have hii : (i : Int) < (la.length : Int) := by omega
   have hi0 : (0 : Int) <= (i : Int) := by omega
   obtain ⟨ga, hao, hgl, hcs⟩ := HA.out.2 (by omega)
   have HUA : Hid (∀ w', Below w.heap.size w w' -> w'.cell? ⟨ga, i, none⟩ = some (.int .i64 (la.getD i 0))) := fun w' hb => by
    rw [hb.cell (p := ⟨ga, i, none⟩) hgl, hcs i hin]; simp [List.getD, hin]
   have hga : ga ≠ w.heap.size := by omega
   subst hao
   clear hcs hgl
   go_wp2_with fail
   go_loopw [7, 8] (fun cv jv wj => ∃ (k : Nat) (M : List Int) (c : Int), k <= lb.length /\ jv = .int .i64 k /\ cv = .int .i64 c /\ 0 <= c /\ c <= 9999 /\ Hid (Mu la lb i k M c /\ OwnI wj w.heap.size (.slice (some ⟨w.heap.size, 0, none⟩) M.length (la.length + lb.length)) M /\ Below w.heap.size w wj)) (fun _ jv _ => lb.length - (intOf jv).toNat)
   case atStart => exact ⟨0, L, 0, Nat.zero_le _, rfl, rfl, by omega, by omega, H.out⟩
   case round =>
    obtain ⟨k, M, c, hk, rfl, rfl, hc0, hc1, HJ⟩ := hrel
    clear H
    by_cases hkn : k < lb.length
    ·obtain ⟨gb, hbo, hgl, hcs⟩ := HB.out.2 (by omega)
     have hub : wr.cell? ⟨gb, k, none⟩ = some (.int .i64 (lb.getD k 0)) := by
      rw [HJ.out.2.2.cell (p := ⟨gb, k, none⟩) hgl, hcs k hkn]; simp [List.getD, hkn]
     subst hbo
     clear hcs hgl
     have hua := HUA.out wr HJ.out.2.2
     have hxa := HA.out.1.getD i
     have hxb := HB.out.1.getD k
     have hml := HJ.out.1.len
     have hu := HJ.out.2.1.cell (j := i + k) (by omega)
     have hfz := HJ.out.2.1.frozen (i + k)
     have hbd := HJ.out.1.dig.getD (i + k)
     have hpr := fig_prod2 hxa hxb
     have HN : Hid (Mu la lb i (k + 1) (M.set (i + k) ((M.getD (i + k) 0 + la.getD i 0 * lb.getD k 0 + c) % 10000)) ((M.getD (i + k) 0 + la.getD i 0 * lb.getD k 0 + c) / 10000) /\ (∀ y nq, OwnI ((wr.drewN nq).setCell ⟨w.heap.size, i + k, none⟩ (.int .i64 y)) w.heap.size (.slice (some ⟨w.heap.size, 0, none⟩) (M.set (i + k) y).length (la.length + lb.length)) (M.set (i + k) y)) /\ ∀ y nq, Below w.heap.size w ((wr.drewN nq).setCell ⟨w.heap.size, i + k, none⟩ (.int .i64 y))) :=
      ⟨HJ.out.1.step HA.out.1 HB.out.1 hin hkn, fun y nq => (OwnI.drewN HJ.out.2.1 nq).set (i + k) y, fun y nq => Below.setCell (p := ⟨w.heap.size, i + k, none⟩) (below_drewN HJ.out.2.2 nq) (Nat.le_refl _) (.int .i64 y)⟩
     clear HJ hml
     generalize M.getD (i + k) 0 = z at *
     generalize lb.getD k 0 = y at *
     generalize la.getD i 0 = x at *
     have hki : (k : Int) < (lb.length : Int) := by omega
     have hk0 : (0 : Int) <= (k : Int) := by omega
     have hik : (i : Int) + (k : Int) < (la.length : Int) + (lb.length : Int) := by omega
     go_wp2_with fail
     go_quiet (fail)
     go_wp2_with fail
     go_roundw
     case rel => exact ⟨k + 1, _, _, by omega, by go_num, rfl, by omega, by omega, HN.out.1, HN.out.2.1 _ _, HN.out.2.2 _ _⟩
     case measure => simp [intOf]; omega
    ·have hjl : k = lb.length := by omega
     subst hjl
     have hml := HJ.out.1.len
     have hu := HJ.out.2.1.cell (j := i + lb.length) (by omega)
     have hfz := HJ.out.2.1.frozen (i + lb.length)
     have hbd := HJ.out.1.dig.getD (i + lb.length)
     have HT := HJ.out.1.next hin hbp
     have HK : Hid (Mu la lb (i + 1) 0 (M.set (i + lb.length) (M.getD (i + lb.length) 0 + c)) 0 /\ (∀ y, OwnI (wr.setCell ⟨w.heap.size, i + lb.length, none⟩ (.int .i64 y)) w.heap.size (.slice (some ⟨w.heap.size, 0, none⟩) (M.set (i + lb.length) y).length (la.length + lb.length)) (M.set (i + lb.length) y)) /\ ∀ y, Below w.heap.size w (wr.setCell ⟨w.heap.size, i + lb.length, none⟩ (.int .i64 y))) :=
      ⟨HT, fun y => HJ.out.2.1.set (i + lb.length) y, fun y => Below.setCell (p := ⟨w.heap.size, i + lb.length, none⟩) HJ.out.2.2 (Nat.le_refl _) (.int .i64 y)⟩
     clear HT HJ hml
     generalize M.getD (i + lb.length) 0 = z at *
     have hik : (i : Int) + (lb.length : Int) < (la.length : Int) + (lb.length : Int) := by omega
     go_wp2_with fail
     go_roundw
     case rel => exact ⟨i + 1, _, by omega, by go_num, HK.out.1, HK.out.2.1 _, HK.out.2.2 _⟩
     case measure => simp [intOf]; omega
  ·have hkl : i = la.length := by omega
   subst hkl
   have HV : Hid (ev L = ev la * ev lb) := by
    have hv := H.out.1.val
    rw [ev_take_all la (Nat.le_refl _)] at hv
    simp only [List.take_zero, ev, Int.mul_zero, Int.add_zero] at hv
    exact hv
   go_wp2_with fail
   have ho := H.out.2.1
   rw [H.out.1.len] at ho
   refine (specTrim_any _ L w.heap.size wr (by rw [H.out.1.len]; omega) H.out.1.dig ho).mono ?_
   clear ho
   rintro e w3 ⟨v, rfl, ho3, hb3⟩
   rw [HV.out] at ho3
   have HE : Hid (OwnI w3 w.heap.size v (digs (ev la * ev lb)) /\ Below w.heap.size w w3) := ⟨ho3, H.out.2.2.trans (hb3.mono H.out.2.2.size)⟩
   clear ho3 hb3
   go_wp2
   go_ret
   exact ⟨_, rfl, HE.out⟩
set_option maxHeartbeats 1600000 in
theorem specTimes_any (a : Value) (la : List Int) (n : Int) (w : World) (hl : la.length <= 1000) (hda : Dig la) (hn : 0 <= n /\ n <= 9999) (ha : IntAt w a la) :
  Calls Tryz.prog 272 #[a, .int .i64 n] w fun e w' => ∃ v, e = .returned v /\ OwnI w' w.heap.size v (digs (ev la * n)) /\ Below w.heap.size w w' := by
 have HA : Hid (IntAt w a la /\ Dig la) := ⟨ha, hda⟩
 clear ha hda
 by_cases h0 : n = 0
 ·subst h0
  have he : digs (ev la * 0) = [] := by rw [Int.mul_zero]; exact digs_zero
  have HE : Hid (digs (ev la * 0) = []) := he
  clear he
  go_enter Tryz.func272, Tryz.ntmps272
  go_wp2
  go_ret
  exact ⟨_, rfl, by rw [HE.out]; exact World.ownsRow_made w #[] 0 (Nat.le_refl _) (Nat.zero_le _) rfl, (Below.refl _ _).alloc (Nat.le_refl _) _⟩
 ·have h0' : (n == 0) = false := by simpa using h0
  go_enter Tryz.func272, Tryz.ntmps272
  go_wp2_with fail
  have HL : Hid (OwnI (w.alloc (Obj.cells #[Value.int IntKind.i64 n] 3)) w.heap.size (.slice (some ⟨w.heap.size, 0, none⟩) 1 1) [n] /\ Below w.heap.size w (w.alloc (Obj.cells #[Value.int IntKind.i64 n] 3))) :=
   ⟨World.ownsRow_lit w #[Value.int .i64 n] 1 (Nat.le_refl _) (by unfold maxLen; omega) rfl, (Below.refl _ _).alloc (Nat.le_refl _) _⟩
  have hev : ev [n] = n := by simp [ev]
  have hdn : Dig [n] := fun x hx => by simp at hx; subst hx; exact hn
  have E := specMul0_any a (.slice (some ⟨w.heap.size, 0, none⟩) 1 1) la [n] (w.alloc (Obj.cells #[Value.int IntKind.i64 n] 3)) hl (by simp) HA.out.2 hdn (HA.out.1.below HL.out.2) HL.out.1.at
  rw [hev] at E
  clear hev hdn
  refine E.mono ?_
  clear E
  rintro e w2 ⟨v, rfl, ho2, hb2⟩
  have HE : Hid (OwnI w2 w.heap.size v (digs (ev la * n)) /\ Below w.heap.size w w2) := ⟨ho2.base HL.out.2.size, HL.out.2.trans (hb2.mono HL.out.2.size)⟩
  clear ho2 hb2
  go_wp2_with fail
  go_ret
  exact ⟨_, rfl, HE.out⟩
set_option maxHeartbeats 1600000 in
theorem specGuess_any (a b : Value) (la lb : List Int) (w : World) (hl : la.length <= lb.length + 1) (hl2 : lb.length <= 1000) (hb0 : 0 < lb.length) (hda : Dig la) (hdb : Dig lb) (tb : Top lb) (ha : IntAt w a la) (hb : IntAt w b lb) :
  Calls Tryz.prog 271 #[a, b] w fun e w' => ∃ q : Int, e = .returned (.int .i64 q) /\ 0 <= q /\ q <= 9999 /\ Below w.heap.size w w' := by
 obtain ⟨ao, ac, rfl, HA0⟩ := ha
 obtain ⟨bo, bc, rfl, HB0⟩ := hb
 have HA : Hid (Dig la /\ (0 < la.length -> ∃ g, ao = some ⟨g, 0, none⟩ /\ g < w.heap.size /\ ∀ j (hj : j < la.length), w.cell? ⟨g, j, none⟩ = some (.int .i64 la[j]))) := ⟨hda, HA0⟩
 have HB : Hid (Dig lb /\ Top lb /\ (0 < lb.length -> ∃ g, bo = some ⟨g, 0, none⟩ /\ g < w.heap.size /\ ∀ j (hj : j < lb.length), w.cell? ⟨g, j, none⟩ = some (.int .i64 lb[j]))) := ⟨hdb, tb, HB0⟩
 clear hda hdb HA0 HB0 tb
 by_cases hlt : la.length < lb.length
 ·have hlt' : (la.length : Int) < (lb.length : Int) := by omega
  go_enter Tryz.func271, Tryz.ntmps271
  go_wp2
  go_ret
  exact ⟨0, rfl, by omega, by omega, Below.refl _ _⟩
 ·have hlt' : ¬ (la.length : Int) < (lb.length : Int) := by omega
  go_enter Tryz.func271, Tryz.ntmps271
  go_wp2
  go_loopw [6, 7] (fun tv iv wr => ∃ t z : Int, tv = .int .i64 t /\ iv = .int .i64 z /\ (lb.length : Int) - 2 <= z /\ z <= (la.length : Int) - 1 /\ 0 <= t /\ t < 100000000 /\ Below w.heap.size w wr /\ Hid ((z = (la.length : Int) - 1 /\ t = 0) ∨ (z = (la.length : Int) - 2 /\ t < 10000) ∨ z = (la.length : Int) - 3)) (fun _ iv _ => (intOf iv + 2).toNat)
  case atStart => exact ⟨0, _, rfl, rfl, by omega, by omega, by omega, by omega, Below.refl _ _, .inl ⟨rfl, rfl⟩⟩
  case round =>
   obtain ⟨t, z, rfl, rfl, hz1, hz2, ht0, ht1, hbel, HD⟩ := hrel
   by_cases hz : (lb.length : Int) - 1 <= z
   ·have hz0 : 0 <= z := by omega
    have hzl : z.toNat < la.length := by omega
    have hzl' : z < (la.length : Int) := by omega
    have ht2 : t < 10000 := by rcases HD.out with h | h | h <;> omega
    obtain ⟨ga, hao, hgl, hcs⟩ := HA.out.2 (by omega)
    have hua : wr.cell? ⟨ga, z.toNat, none⟩ = some (.int .i64 (la.getD z.toNat 0)) := by
     rw [hbel.cell (p := ⟨ga, z.toNat, none⟩) hgl, hcs z.toNat hzl]; simp [List.getD, hzl]
    subst hao
    have hx := HA.out.1.getD z.toNat
    have HN : Hid (∀ x, 0 <= x /\ x <= 9999 -> ((z - 1 = (la.length : Int) - 1 /\ t * 10000 + x = 0) ∨ (z - 1 = (la.length : Int) - 2 /\ t * 10000 + x < 10000) ∨ z - 1 = (la.length : Int) - 3)) := fun x hx => by
     rcases HD.out with h | h | h <;> omega
    clear hcs hgl HD hzl
    generalize la.getD z.toNat 0 = x at *
    go_wp2_with fail
    go_roundw
    case rel => exact ⟨t * 10000 + x, z - 1, rfl, rfl, by omega, by omega, by omega, by omega, hbel, HN.out x hx⟩
    case measure => simp [intOf]; omega
   ·have hzz : ¬ (lb.length : Int) - 1 <= z := hz
    obtain ⟨gb, hbo, hgl, hcs⟩ := HB.out.2.2 hb0
    have hub : wr.cell? ⟨gb, lb.length - 1, none⟩ = some (.int .i64 (lb.getD (lb.length - 1) 0)) := by
     rw [hbel.cell (p := ⟨gb, lb.length - 1, none⟩) hgl, hcs (lb.length - 1) (by omega)]; simp [List.getD, show lb.length - 1 < lb.length by omega]
    have hy := HB.out.1.getD (lb.length - 1)
    have hy1 : 1 <= lb.getD (lb.length - 1) 0 := by have := HB.out.2.1 hb0; omega
    by_cases hone : lb.length = 1
    ·have hone' : ¬ (1 : Int) < (lb.length : Int) := by omega
     clear hone
     subst hbo
     clear hcs hgl
     generalize lb.getD (lb.length - 1) 0 = y at *
     have hq0 : 0 <= t / y := Int.ediv_nonneg ht0 (by omega)
     have hq1 : t / y <= t := Int.ediv_le_self y ht0
     by_cases hq : (9999 : Int) < t / y
     ·go_wp2_with fail
      go_ret
      exact ⟨_, rfl, by omega, by omega, hbel⟩
     ·go_wp2_with fail
      go_ret
      exact ⟨_, rfl, by omega, by omega, hbel⟩
    ·have hone' : (1 : Int) < (lb.length : Int) := by omega
     have hub2 : wr.cell? ⟨gb, lb.length - 2, none⟩ = some (.int .i64 (lb.getD (lb.length - 2) 0)) := by
      rw [hbel.cell (p := ⟨gb, lb.length - 2, none⟩) hgl, hcs (lb.length - 2) (by omega)]; simp [List.getD, show lb.length - 2 < lb.length by omega]
     have hv := HB.out.1.getD (lb.length - 2)
     subst hbo
     clear hcs hgl
     obtain ⟨ga, hao, hgl, hcs⟩ := HA.out.2 (by omega)
     have hua : wr.cell? ⟨ga, lb.length - 2, none⟩ = some (.int .i64 (la.getD (lb.length - 2) 0)) := by
      rw [hbel.cell (p := ⟨ga, lb.length - 2, none⟩) hgl, hcs (lb.length - 2) (by omega)]; simp [List.getD, show lb.length - 2 < la.length by omega]
     have hx := HA.out.1.getD (lb.length - 2)
     subst hao
     clear hcs hgl
     generalize lb.getD (lb.length - 1) 0 = y at *
     generalize lb.getD (lb.length - 2) 0 = v at *
     generalize la.getD (lb.length - 2) 0 = x at *
     have hin : (lb.length : Int) - 2 < (la.length : Int) := by omega
     have hq0 : 0 <= (t * 10000 + x) / (y * 10000 + v) := Int.ediv_nonneg (by omega) (by omega)
     have hq1 : (t * 10000 + x) / (y * 10000 + v) <= t * 10000 + x := Int.ediv_le_self _ (by omega)
     by_cases hq : (9999 : Int) < (t * 10000 + x) / (y * 10000 + v)
     ·go_wp2_with fail
      go_ret
      exact ⟨_, rfl, by omega, by omega, hbel⟩
     ·go_wp2_with fail
      go_ret
      exact ⟨_, rfl, by omega, by omega, hbel⟩
end Go.Proofs.YtjgbmnhoajiabaaGreatDoor
