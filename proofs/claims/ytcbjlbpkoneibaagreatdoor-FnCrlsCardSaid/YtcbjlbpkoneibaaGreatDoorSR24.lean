/-
  Texts of the proof.
-/
import Derived.Test.YtcbjlbpkoneibaaGreatDoorSR11
import Derived.Test.YtcbjlbpkoneibaaGreatDoorSR23
set_option linter.unusedVariables false
set_option linter.unusedSimpArgs false
set_option maxRecDepth 100000
set_option maxHeartbeats 25600000
namespace Go.Proofs.YtcbjlbpkoneibaaGreatDoor
open Go.RowKit
theorem readL_len (s : ByteArray) : (if s.size <= 60 then digs (horn 256 (bytesI s)) else []).length <= 40 := by
 split
 ·rename_i h
  have h1 := horn_lt (b := 256) (by decide) s.size (bytesI s) (bytesI_len s) (bytesI_bd s);have h2 := pb_le (b := 256) (by decide) h;have h3 : (256 : Int) ^ 60 < 10000 ^ 40 := by decide
  exact digs_len h1.1 (by omega)
 ·simp
theorem figL_len (s : ByteArray) : (figL s).length <= 40 := by
 unfold figL
 split
 ·rename_i h
  cases hf : fvals 10 s.data.toList with
  | none => simp
  | some vs =>
   have hvb : ∀ x ∈ (vs.map fun x : Nat => (x : Int)), 0 <= x /\ x < 10 := fun x hx => by
    obtain ⟨y, hy, rfl⟩ := List.mem_map.1 hx;have := fvals_lt hf y hy;omega
   have hvl : (vs.map fun x : Nat => (x : Int)).length = s.size := by
    rw [List.length_map, fvals_len hf];simp
   have h1 := horn_lt (b := 10) (by decide) s.size _ hvl hvb;have h2 := pb_le (b := 10) (by decide) h;have h3 : (10 : Int) ^ 140 < 10000 ^ 40 := by decide
   exact digs_len h1.1 (by omega)
 ·simp
theorem specFig_any (s : ByteArray) (w : World) (hs : s.size <= 1048576) :
  Calls Tryz.prog 100 #[zG s] w fun e w' => ∃ v, e = .returned v /\ OwnI w' w.heap.size v (figL s) /\ zW w w' := by
 have HW : Hid (zW w (w.alloc (Obj.cells #[] 3)) /\ OwnI (w.alloc (Obj.cells #[] 3)) w.heap.size (zS (some ⟨w.heap.size, 0, none⟩) 0 0) []) := ⟨(Below.refl _ _).alloc (Nat.le_refl _) _, OwnI.empty w (Nat.le_refl _)⟩;by_cases hin : 1 <= s.size /\ s.size <= 140
 ·go_enter Tryz.func100, Tryz.ntmps100
  go_wp2_with fail;refine (in_yes _ 1 140 _ (by omega) (by omega)).mono ?_;rintro e w' ⟨rfl, rfl⟩;go_wp2_with fail
  go_loopw [3, 4] (fun nv iv wr => ∃ (k : Nat) (vs : List Nat), k <= s.size /\ iv = zI k /\ Hid (fvals 10 (s.data.toList.take k) = some vs /\ OwnI wr w.heap.size nv (digs (horn 10 (vs.map fun x : Nat => (x : Int)))) /\ zW w wr)) (fun _ iv _ => s.size - (intOf iv).toNat)
  case atStart => exact ⟨0, [], Nat.zero_le _, rfl, by simp [fvals], by rw [show digs (horn 10 (([] : List Nat).map fun x : Nat => (x : Int))) = [] by simp [horn, digs_zero]]; exact HW.2, HW.1⟩
  case round =>
   obtain ⟨k, vs, hk, rfl, H⟩ := hrel;by_cases hlt : k < s.size
   ·have hf10 := fval10 s[k]
    have hcb : (s[k].toNat : Int) < 256 := by have := s[k].toNat_lt; omega
    have hc0 : (0 : Int) <= (s[k].toNat : Int) := by omega
    have hki : (k : Int) < (s.size : Int) := by omega
    have hk0 : (0 : Int) <= (k : Int) := by omega
    by_cases hd : 48 <= s[k].toNat /\ s[k].toNat <= 57
    ·have hd1 : ¬ (s[k].toNat : Int) < 48 := by omega
     have hd2 : ¬ (57 : Int) < (s[k].toNat : Int) := by omega
     rw [if_pos hd] at hf10;have HNX : Hid (fvals 10 (s.data.toList.take (k + 1)) = some (vs ++ [s[k].toNat - 48]) /\ horn 10 ((vs ++ [s[k].toNat - 48]).map fun x : Nat => (x : Int)) = horn 10 (vs.map fun x : Nat => (x : Int)) * 10 + ((s[k].toNat : Int) - 48)) := by
      refine ⟨?_, ?_⟩
      ·have hbl : k < s.data.toList.length := by simpa using hlt
       have hge : s.data.toList[k] = s[k]'hlt := rfl;rw [List.take_add_one, List.getElem?_eq_getElem hbl, hge];exact fvals_snoc H.1 hf10
      ·rw [List.map_append, List.map_singleton, horn_snoc]
       congr 1
       omega
     have hvb : ∀ x ∈ (vs.map fun x : Nat => (x : Int)), 0 <= x /\ x < 10 := fun x hx => by
      obtain ⟨y, hy, rfl⟩ := List.mem_map.1 hx;have := fvals_lt H.1 y hy;omega
     have hvl : (vs.map fun x : Nat => (x : Int)).length = k := by
      have hsl : s.data.toList.length = s.size := by simp
      rw [List.length_map, fvals_len H.1, List.length_take, hsl];omega
     have hlim := horn_lt (b := 10) (by decide) k _ hvl hvb;have hp := pb_le (b := 10) (by decide) (show k + 1 <= 140 by omega);have hq : (10 : Int) ^ 140 < 10000 ^ 40 := by decide
     rw [Int.pow_succ] at hp;have hoo := H.2.1;have HB : Hid (zW w wr) := H.2.2;clear H hvb hvl hf10;generalize horn 10 (vs.map fun x : Nat => (x : Int)) = h at *;have HH := zH (zJ hlim.1 (zJ (by omega : h < 10000 ^ 40) (by omega : h * 10 + ((s[k].toNat : Int) - 48) < 10000 ^ 40)));have hll := digs_len HH.1 HH.2.1;clear hlim hp hq;have ha := (Below.refl wr.heap.size wr).alloc (Nat.le_refl _) (Obj.cells #[Value.int IntKind.i64 10] 3);have hlit : OwnI (wr.alloc (Obj.cells #[Value.int IntKind.i64 10] 3)) wr.heap.size (zS (some ⟨wr.heap.size, 0, none⟩) 1 1) [10] := World.ownsRow_lit wr #[Value.int .i64 10] 1 (Nat.le_refl _) (by unfold maxLen; omega) rfl;have EM := specMul0_any u3 (zS (some ⟨wr.heap.size, 0, none⟩) 1 1) (digs h) [10] (wr.alloc (Obj.cells #[Value.int IntKind.i64 10] 3)).drew (by omega) (by simp) (dig_digs h) (by intro y hy; simp at hy; omega) ((hoo.at.below ha).below ((Below.refl _ _).drew)) (hlit.drew.at);rw [ev_digs HH.1, show ev [10] = 10 by simp [ev]] at EM;clear hoo hlit hll;have HA2 : Hid (zW wr (wr.alloc (Obj.cells #[Value.int IntKind.i64 10] 3)).drew) := ha.drew;clear ha;have hwp : IntKind.i64.wrap (s[k].toNat : Int) = (s[k].toNat : Int) := IntWalk.i64_in _ (by omega);have hwq : IntKind.i64.wrap ((s[k].toNat : Int) - 48) = (s[k].toNat : Int) - 48 := IntWalk.i64_in _ (by omega);go_wp2_with fail
     go_region_held3 (fun _ => True) (exact trivial) ((first | (go_at_call 130; refine EM.mono ?_; rintro e w1 ⟨v1, rfl, ho1, hb1⟩) | (go_at_call 131; refine (specOf_any _ _ ?_).mono ?_; (constructor <;> omega); rintro e w2 ⟨v2, rfl, ho2, hb2⟩) | (go_at_call 129; refine (specAdd_any _ _ (digs (h * 10)) (digs ((s[k].toNat : Int) - 48)) _ ?_ ?_ ?_ ?_ ?_ ?_).mono ?_; (have := HH.out; have := digs_len (x := h * 10) (k := 40) (by omega) (by omega); omega); (have := HH.out; have := digs_len (x := (s[k].toNat : Int) - 48) (k := 40) (by omega) (by omega); omega); exact (dig_digs _).wd; exact (dig_digs _).wd; exact ho1.at.below hb2; exact ho2.at; rintro e w3 ⟨v3, rfl, ho3, hb3⟩)))
     all_goals (
      have HN : Hid (fvals 10 (s.data.toList.take (k + 1)) = some (vs ++ [s[k].toNat - 48]) /\ OwnI w3 w.heap.size v3 (digs (horn 10 ((vs ++ [s[k].toNat - 48]).map fun x : Nat => (x : Int)))) /\ zW w w3) := by
       have hb2' := below_go (below_go (below_go HB.out HA2.out) hb1) hb2;rw [addL_digs (by have := HH.out; omega) (by omega) HH.2.2, <- HNX.2] at ho3;exact ⟨HNX.1, ho3.base hb2'.size, below_go hb2' hb3⟩
      clear EM ho1 ho2 ho3 hb1 hb2 hb3
      go_wp2
      go_roundw
      case rel => exact ⟨k + 1, _, by omega, by go_num, HN.out⟩
      case measure => simp [intOf]; omega)
    ·rw [if_neg hd] at hf10
     have he : figL s = [] := by
      unfold figL;rw [if_pos hin.2, fvals_none (byte_mem s k hlt) hf10]
     have HE := zH (zJ (he : figL s = []) H.2.2);clear he H hf10;by_cases hd1 : (s[k].toNat : Int) < 48
     ·go_wp2_with fail
      go_ret;exact ⟨_, rfl, (by rw [HE.1]; exact OwnI.empty wr HE.2.size), HE.2.alloc HE.2.size _⟩
     ·have hd2 : (57 : Int) < (s[k].toNat : Int) := by omega
      go_wp2_with fail;go_ret;exact ⟨_, rfl, (by rw [HE.1]; exact OwnI.empty wr HE.2.size), HE.2.alloc HE.2.size _⟩
   ·have hkn : k = s.size := by omega
    subst hkn;have HE : Hid (OwnI wr w.heap.size u3 (figL s) /\ zW w wr) := by
     have h := H.out;rw [List.take_of_length_le (by simp)] at h;refine ⟨?_, h.2.2⟩;unfold figL;rw [if_pos hin.2, h.1];exact h.2.1
    clear H
    go_wp2
    go_ret;exact ⟨_, rfl, HE.out⟩
 ·have he : figL s = [] := by
   unfold figL;by_cases h : s.size <= 140
   ·have h0 : s.size = 0 := by omega
    have h1 : s.data.toList = [] := List.eq_nil_of_length_eq_zero (by simpa using h0);rw [if_pos h, h1];simp [fvals, horn, digs_zero]
   ·rw [if_neg h]
  have HE : Hid (figL s = []) := he;clear he;go_enter Tryz.func100, Tryz.ntmps100;go_wp2_with fail;refine (in_no _ 1 140 _ (by omega)).mono ?_;rintro e w' ⟨rfl, rfl⟩;go_wp2_with fail;go_ret;exact ⟨_, rfl, (by rw [HE.out]; exact HW.2), HW.1⟩
end Go.Proofs.YtcbjlbpkoneibaaGreatDoor
namespace Go.Proofs.YtcbjlbpkoneibaaGreatDoor
open Go.RowKit
def readL (s : ByteArray) : List Int := if s.size <= 60 then digs (horn 256 (bytesI s)) else []
theorem readL_len2 (s : ByteArray) : (readL s).length <= 40 := readL_len s
theorem specReadL_any (s : ByteArray) (w : World) (hs : s.size <= 1048576) :
  Calls Tryz.prog 89 #[zG s] w fun e w' => ∃ v, e = .returned v /\ OwnI w' w.heap.size v (readL s) /\ zW w w' := specReadN_any s w hs
theorem implReadL_any (s : ByteArray) (w : World) (hs : s.size <= 1048576) :
  Calls Tryz.prog 49 #[zG s] w fun e w' => ∃ v, e = .returned v /\ OwnI w' w.heap.size v (readL s) /\ zW w w' := implReadN_any s w hs
def byN (n : Nat) : List UInt8 := if _h : n = 0 then [] else UInt8.ofNat (n % 256) :: byN (n / 256)
def byI (x : Int) : List UInt8 := byN x.toNat
theorem byI_zero {x : Int} (h : x <= 0) : byI x = [] := by
 unfold byI;rw [show x.toNat = 0 by omega, byN, dif_pos rfl]
theorem byI_step {x : Int} (h : 0 < x) : byI x = UInt8.ofNat (x % 256).toNat :: byI (x / 256) := by
 unfold byI;rw [byN, dif_neg (by omega)]
 congr 1
 ·congr 1
  omega
 ·congr 1
  omega
theorem byI_len {x : Int} : ∀ {k : Nat}, x < 256 ^ k -> (byI x).length <= k := by
 intro k
 induction k generalizing x with
 | zero => intro h; rw [byI_zero (by simp at h; omega)]; simp
 | succ k ih =>
  intro h;by_cases h0 : 0 < x
  ·rw [byI_step h0, List.length_cons]
   have := ih (x := x / 256) (by rw [Int.pow_succ] at h; omega);omega
  ·rw [byI_zero (by omega)]; simp
theorem digs_low {y : Int} (h : 0 <= y) (h2 : y < 10000) : (digs y).getD 0 0 = y := by
 by_cases h0 : 0 < y
 ·rw [digs_step h0]
  simp;omega
 ·rw [digs_neg (by omega)]
  simp;omega
theorem digs_pos_len {x : Int} (h : 0 < x) : 0 < (digs x).length := digs_ne h
theorem cellB_int {y : Int} (h : 0 <= y) (h2 : y < 256) : cellB (UInt8.ofNat y.toNat) = .int .u8 y := by
 rw [cellB_of (by omega)]
 congr 1
 omega
theorem mapB_snoc (l : List UInt8) (b : UInt8) : (l ++ [b]).map cellB = l.map cellB ++ [cellB b] := by simp
def Ap2 (u v : Value) : Prop := ∀ g, u.ownBlock = some g -> v.ownBlock = some g -> False
theorem ownsRow_stay2 {w w' : World} {base : Nat} {e : TypeId} {size : Nat} {v : Value} {n : Nat} {xs : List Value} (h : w.ownsRow base e size v n xs) (hb : zW w w') : w'.ownsRow base e size v n xs := by
 obtain ⟨h1, h2⟩ := h;refine ⟨h1, ?_⟩
 rcases h2 with h2 | ⟨g, cap, cur, hv, hbg, hg, r⟩
 ·exact .inl h2
 ·have hlt : g < w.heap.size := by
   rcases Nat.lt_or_ge g w.heap.size with h | h
   ·exact h
   ·rw [Array.getElem?_eq_none h] at hg; cases hg
  exact .inr ⟨g, cap, cur, hv, hbg, by rw [hb.block g hlt]; exact hg, r⟩
theorem below_go2 {a b c : World} (h1 : zW a b) (h2 : zW b c) : zW a c := h1.trans (h2.mono h1.size)
theorem rev_text (b : UInt8) (l : List UInt8) : (⟨#[b]⟩ : ByteArray) ++ ⟨l.reverse.toArray⟩ = ⟨(l ++ [b]).reverse.toArray⟩ := by
 apply ByteArray.ext;simp
def txtL (l : List Int) : ByteArray := if okL l = true then ⟨(byI (ev l)).reverse.toArray⟩ else ByteArray.empty
theorem specText_any (a : Value) (la : List Int) (w : World) (hl : la.length <= 10000000) (wa : Wd la) (ha : IntAt w a la) :
  Calls Tryz.prog 55 #[a] w fun e w' => e = .returned (zG (txtL la)) /\ zW w w' := by
 have HX : Hid (IntAt w a la /\ Wd la) := ⟨ha, wa⟩;obtain ⟨ao, ac, hae, HA0⟩ := ha;subst hae;clear HA0 wa;go_enter Tryz.func55, Tryz.ntmps55;go_wp2_with fail;refine (specOk_any _ la w hl HX.1 HX.2).mono ?_;rintro e w1 ⟨rfl, hb1⟩;have HX1 := zH (zJ (HX.1.below hb1) (hb1 : zW w w1));clear hb1
 rcases h : okL la with _ | _
 ·have he : txtL la = ByteArray.empty := by unfold txtL; rw [h]; simp
  have HE : Hid (txtL la = ByteArray.empty) := he;clear he;go_wp2_with fail;go_ret;exact ⟨congrArg (fun z => Ending.returned (Value.string z)) HE.out.symm, HX1.2⟩
 ·have ok := okL_true h
  have HK := zH (zJ (h : okL la = true) (zJ ok.2.1 ok.2.2));have hl40 := ok.1;clear h ok;go_wp2_with fail;have HI : Hid (IntAt w1 (zS ao la.length ac) (digs (ev la))) := by
   rw [<- eq_digs HK.2.1 HK.2.2];exact HX1.1
  have HX0 : Hid (0 <= ev la /\ ev la < 256 ^ 80) := by
   have h1 := ev_lt HK.2.1;have h2 := pw_le hl40;have h3 : (10000 : Int) ^ 40 < 256 ^ 80 := by decide
   exact ⟨ev_nonneg HK.2.1, by omega⟩
  go_loopg [0, 3] (byI (ev la)).length (fun gk lv sv wr => ∃ (x : Int) (l : List UInt8), 0 <= x /\ sv = zG ⟨l.reverse.toArray⟩ /\ Hid (x <= ev la /\ l ++ byI x = byI (ev la) /\ (byI x).length = gk /\ IntAt wr lv (digs x) /\ zW w wr))
  case atStart => exact ⟨ev la, [], HX0.1, rfl, Int.le_refl _, rfl, rfl, HI.out, HX1.2⟩
  case round =>
   obtain ⟨x, l, hx0, rfl, H⟩ := hrel;clear HI;obtain ⟨lo, lc, hle, _⟩ := H.2.2.2.1;subst hle;have hdl : (digs x).length <= 40 := by
    have h1 := ev_lt HK.2.1;have h2 := pw_le hl40;have h3 := H.1;exact digs_len hx0 (by omega)
   have hll : l.length <= 80 := by
    have h1 := byI_len HX0.2;have h2 := congrArg List.length H.2.1;rw [List.length_append] at h2;omega
   by_cases hx : x = 0
   ·have hl0 : (digs x).length = 0 := by rw [hx, digs_zero]; rfl
    have hlt : ¬ (0 : Int) < ((digs x).length : Int) := by omega
    have HE : Hid (txtL la = ⟨l.reverse.toArray⟩ /\ zW w wr) := by
     have h := H.2.1;rw [hx, byI_zero (Int.le_refl _), List.append_nil] at h;refine ⟨?_, H.2.2.2.2⟩;unfold txtL;rw [if_pos HK.1, h]
    clear hl0 hx H;go_wp2_with fail;go_ret;exact ⟨congrArg (fun z => Ending.returned (Value.string z)) HE.1.symm, HE.2⟩
   ·have hxp : 0 < x := by omega
    have hlp := digs_pos_len hxp;have hlt : (0 : Int) < ((digs x).length : Int) := by omega
    have ha := (Below.refl wr.heap.size wr).alloc (Nat.le_refl _) (Obj.cells #[Value.int IntKind.i64 256] 3);have hlit : OwnI (wr.alloc (Obj.cells #[Value.int IntKind.i64 256] 3)) wr.heap.size (zS (some ⟨wr.heap.size, 0, none⟩) 1 1) [256] := World.ownsRow_lit wr #[Value.int .i64 256] 1 (Nat.le_refl _) (by unfold maxLen; omega) rfl;have EO := specDiv0_any (zS lo (digs x).length lc) (zS (some ⟨wr.heap.size, 0, none⟩) 1 1) (digs x) [256] (wr.alloc (Obj.cells #[Value.int IntKind.i64 256] 3)) (by omega) (by simp) (dig_digs x) (by intro y hy; simp at hy; omega) (by intro _; simp) (by simp) (H.2.2.2.1.below ha) hlit.at
    rw [ev_digs hx0, show ev [256] = 256 by simp [ev]] at EO;have HA : Hid (zW wr (wr.alloc (Obj.cells #[Value.int IntKind.i64 256] 3))) := ha;clear hlit ha;go_wp2_with fail;refine EO.mono ?_;rintro e w2 ⟨v2, r2, rfl, ho2, hp2, hb2⟩;have HW2 := zH (zJ (ho2.base HA.size) (zJ (hp2.base HA.size) (below_go HA.out hb2 : zW wr w2)));clear EO ho2 hp2 hb2 HA;have hr0 : 0 <= x % 256 := by omega
    have hr1 : x % 256 < 256 := by omega
    have HM : Hid (x / 256 <= ev la /\ (l ++ [UInt8.ofNat (x % 256).toNat]) ++ byI (x / 256) = byI (ev la) /\ (byI (x / 256)).length < (byI x).length /\ cellB (UInt8.ofNat (x % 256).toNat) = .int .u8 (x % 256) /\ (byI x).length = gk /\ zW w w2) := by
     have h1 := H.1;have h2 := H.2.1;have h5 := H.2.2.1;rw [byI_step hxp] at h2 h5 |-;exact ⟨by omega, by rw [List.append_assoc]; exact h2, by simp, cellB_int hr0 hr1, h5, below_go H.2.2.2.2 HW2.2.2⟩
    clear H;obtain ⟨ro, rc, hre, hrs, _⟩ := HW2.2.1.shape;have HRS : Hid (0 < (digs (x % 256)).length -> ∃ g, ro = some ⟨g, 0, none⟩) := hrs;subst hre;clear hrs;have hwx : IntKind.u8.wrap (x % 256) = x % 256 := by rw [IntKind.wrap]; simp [IntKind.signed, IntKind.bits]
    by_cases hr : x % 256 = 0
    ·have hq : ¬ (0 : Int) < ((digs (x % 256)).length : Int) := by rw [hr, digs_zero]; decide
     have hcv : (convert 22 9 (zS (some ⟨w2.heap.size, 0, none⟩) 1 1)).run Tryz.prog (w2.alloc (Obj.cells #[Value.int IntKind.u8 (0)] 5)) = .ok (zG ⟨[UInt8.ofNat (x % 256).toNat].toArray⟩) (w2.alloc (Obj.cells #[Value.int IntKind.u8 (0)] 5)) := by
      refine conv_own (base := w2.heap.size) (n := 1) ?_;have h := World.ownsRow_lit (base := w2.heap.size) (e := 5) (size := 1) w2 #[Value.int .u8 (0)] 1 (Nat.le_refl _) (by unfold maxLen; omega) rfl;have e : [UInt8.ofNat (x % 256).toNat].map cellB = (#[Value.int IntKind.u8 (0)] : Array Value).toList := by rw [List.map_singleton, HM.2.2.2.1]; simp [hr]
      rw [e];exact h
     clear hr;go_wp2_with fail
     go_roundg ((byI (x / 256)).length)
     case measure => have h1 := HM.2.2.1; rw [HM.2.2.2.2.1] at h1; exact h1
     case rel => exact ⟨x / 256, l ++ [UInt8.ofNat (x % 256).toNat], by omega, by rw [rev_text], HM.1, HM.2.1, rfl, (HW2.1.stays ((Below.refl _ _).alloc (Nat.le_refl _) _)).at, HM.2.2.2.2.2.alloc HM.2.2.2.2.2.size _⟩
    ·have hrl := digs_pos_len (show 0 < x % 256 by omega)
     have hq : (0 : Int) < ((digs (x % 256)).length : Int) := by omega
     obtain ⟨gr, hro⟩ := HRS.out hrl;subst hro;have hur := HW2.2.1.cell (j := 0) hrl;rw [digs_low hr0 (by omega)] at hur;have hcv : (convert 22 9 (zS (some ⟨w2.heap.size, 0, none⟩) 1 1)).run Tryz.prog (w2.alloc (Obj.cells #[Value.int IntKind.u8 (x % 256)] 5)) = .ok (zG ⟨[UInt8.ofNat (x % 256).toNat].toArray⟩) (w2.alloc (Obj.cells #[Value.int IntKind.u8 (x % 256)] 5)) := by
      refine conv_own (base := w2.heap.size) (n := 1) ?_;have h := World.ownsRow_lit (base := w2.heap.size) (e := 5) (size := 1) w2 #[Value.int .u8 (x % 256)] 1 (Nat.le_refl _) (by unfold maxLen; omega) rfl;have e : [UInt8.ofNat (x % 256).toNat].map cellB = (#[Value.int IntKind.u8 (x % 256)] : Array Value).toList := by rw [List.map_singleton, HM.2.2.2.1]
      rw [e];exact h
     go_wp2_with fail
     go_roundg ((byI (x / 256)).length)
     case measure => have h1 := HM.2.2.1; rw [HM.2.2.2.2.1] at h1; exact h1
     case rel => exact ⟨x / 256, l ++ [UInt8.ofNat (x % 256).toNat], by omega, by rw [rev_text], HM.1, HM.2.1, rfl, (HW2.1.stays ((Below.refl _ _).alloc (Nat.le_refl _) _)).at, HM.2.2.2.2.2.alloc HM.2.2.2.2.2.size _⟩
theorem implText_any (a : Value) (la : List Int) (w : World) (hl : la.length <= 10000000) (wa : Wd la) (ha : IntAt w a la) :
  Calls Tryz.prog 120 #[a] w fun e w' => e = .returned (zG (txtL la)) /\ zW w w' := by
 obtain ⟨i5, hi5, hy0, hy1, hy2⟩ := info_parts info5;have HX : Hid (IntAt w a la /\ Wd la) := ⟨ha, wa⟩;obtain ⟨ao, ac, hae, HA0⟩ := ha;subst hae;clear HA0 wa;go_enter Tryz.func120, Tryz.ntmps120;go_wp2_with fail;refine (right_any _ la w hl HX.1 HX.2).mono ?_;rintro e w1 ⟨rfl, hb1⟩;have HX1 := zH (zJ (HX.1.below hb1) (hb1 : zW w w1));clear hb1
 rcases h : okL la with _ | _
 ·have he : txtL la = ByteArray.empty := by unfold txtL; rw [h]; simp
  have HE : Hid (txtL la = ByteArray.empty) := he;clear he;go_wp2_with fail;go_ret;exact ⟨congrArg (fun z => Ending.returned (Value.string z)) HE.out.symm, HX1.2⟩
 ·have ok := okL_true h
  have HK := zH (zJ (h : okL la = true) (zJ ok.2.1 ok.2.2));have hl40 := ok.1;clear h ok;go_wp2_with fail;have HI : Hid ((w1.alloc (Obj.cells #[] 5)).ownsRow w1.heap.size 5 1 (zS (some ⟨w1.heap.size, 0, none⟩) 0 0) 0 (([] : List UInt8).map cellB) /\ IntAt (w1.alloc (Obj.cells #[] 5)) (zS ao la.length ac) (digs (ev la)) /\ zW w (w1.alloc (Obj.cells #[] 5))) := by
   have ha := (Below.refl w1.heap.size w1).alloc (Nat.le_refl _) (Obj.cells #[] 5);refine ⟨World.ownsRow_made w1 #[] 0 (Nat.le_refl _) (Nat.zero_le _) rfl, ?_, below_go HX1.2 ha⟩;rw [<- eq_digs HK.2.1 HK.2.2];exact HX1.1.below ha
  have HX0 : Hid (0 <= ev la /\ ev la < 256 ^ 80) := by
   have h1 := ev_lt HK.2.1;have h2 := pw_le hl40;have h3 : (10000 : Int) ^ 40 < 256 ^ 80 := by decide
   exact ⟨ev_nonneg HK.2.1, by omega⟩
  go_loopg [3, 4] (byI (ev la)).length (fun gk lv tv wr => ∃ (x : Int) (l : List UInt8), 0 <= x /\ Hid (x <= ev la /\ l ++ byI x = byI (ev la) /\ (byI x).length = gk /\ wr.ownsRow w1.heap.size 5 1 tv l.length (l.map cellB) /\ IntAt wr lv (digs x) /\ zW w wr /\ w1.heap.size <= wr.heap.size))
  case atStart => exact ⟨ev la, [], HX0.1, Int.le_refl _, rfl, rfl, HI.1, HI.2.1, HI.2.2, by simp⟩
  case round =>
   obtain ⟨x, l, hx0, H⟩ := hrel;clear HI;obtain ⟨lo, lc, hle, _⟩ := H.2.2.2.2.1;subst hle;have hdl : (digs x).length <= 40 := by
    have h1 := ev_lt HK.2.1;have h2 := pw_le hl40;have h3 := H.1;exact digs_len hx0 (by omega)
   have hll : l.length <= 80 := by
    have h1 := byI_len HX0.2;have h2 := congrArg List.length H.2.1;rw [List.length_append] at h2;omega
   by_cases hx : x = 0
   ·have hl0 : (digs x).length = 0 := by rw [hx, digs_zero]; rfl
    have hlt : ¬ (0 : Int) < ((digs x).length : Int) := by omega
    have HL : Hid (l = byI (ev la)) := by
     have h := H.2.1;rw [hx, byI_zero (Int.le_refl _), List.append_nil] at h;exact h
    clear hl0 hx;go_wp2_with fail;refine (reverse_any u4 l l.length w1.heap.size wr (by omega) H.2.2.2.1).mono ?_;rintro e w2 ⟨rfl, ho2, hb2⟩;have hcv := conv_own ho2;have HE : Hid (txtL la = ⟨l.reverse.toArray⟩ /\ zW w w2) := by
     refine ⟨?_, H.2.2.2.2.2.1.trans (hb2.mono HX1.2.size)⟩;unfold txtL;rw [if_pos HK.1, HL.out]
    clear ho2 hb2 H;go_wp2_with fail;go_ret;exact ⟨congrArg (fun z => Ending.returned (Value.string z)) HE.1.symm, HE.2⟩
   ·have hxp : 0 < x := by omega
    have hlp := digs_pos_len hxp;have hlt : (0 : Int) < ((digs x).length : Int) := by omega
    have ha := (Below.refl wr.heap.size wr).alloc (Nat.le_refl _) (Obj.cells #[Value.int IntKind.i64 256] 3);have hlit : OwnI (wr.alloc (Obj.cells #[Value.int IntKind.i64 256] 3)) wr.heap.size (zS (some ⟨wr.heap.size, 0, none⟩) 1 1) [256] := World.ownsRow_lit wr #[Value.int .i64 256] 1 (Nat.le_refl _) (by unfold maxLen; omega) rfl;have EO := over_any (zS lo (digs x).length lc) (zS (some ⟨wr.heap.size, 0, none⟩) 1 1) (digs x) [256] (wr.alloc (Obj.cells #[Value.int IntKind.i64 256] 3)) (by omega) (by simp) (dig_digs x) (by intro y hy; simp at hy; omega) (by intro _; simp) (by simp) (H.2.2.2.2.1.below ha) hlit.at
    rw [ev_digs hx0, show ev [256] = 256 by simp [ev]] at EO;have HA : Hid (zW wr (wr.alloc (Obj.cells #[Value.int IntKind.i64 256] 3))) := ha;clear hlit ha;go_wp2_with fail;refine EO.mono ?_;rintro e w2 ⟨v2, r2, rfl, ho2, hp2, hb2, _⟩;have HW2 := zH (zJ (ho2.base HA.size) (zJ (hp2.base HA.size) (below_go HA.out hb2 : zW wr w2)));clear EO ho2 hp2 hb2 HA;have hr0 : 0 <= x % 256 := by omega
    have hr1 : x % 256 < 256 := by omega
    have EA := at_any r2 (digs (x % 256)) 0 w2 (by have := digs_len (k := 1) hr0 (by omega); omega) HW2.2.1.at
    rw [show (0 : Int) = ((0 : Nat) : Int) from rfl, atI_nat, digs_low hr0 (by omega)] at EA;have HM : Hid (x / 256 <= ev la /\ (l ++ [UInt8.ofNat (x % 256).toNat]) ++ byI (x / 256) = byI (ev la) /\ (byI (x / 256)).length < (byI x).length /\ cellB (UInt8.ofNat (x % 256).toNat) = .int .u8 (x % 256)) := by
     have h1 := H.1;have h2 := H.2.1;rw [byI_step hxp] at h2 |-;exact ⟨by omega, by rw [List.append_assoc]; exact h2, by simp, cellB_int hr0 hr1⟩
    have HO : Hid (w2.ownsRow w1.heap.size 5 1 u4 l.length (l.map cellB) /\ zW w w2 /\ w1.heap.size <= w2.heap.size /\ (byI x).length = gk /\ Ap2 v2 u4) := by
     have h3 := H.2.2.2.1;refine ⟨ownsRow_stay2 h3 HW2.2.2, H.2.2.2.2.2.1.trans (HW2.2.2.mono (Nat.le_trans HX1.2.size H.2.2.2.2.2.2)), Nat.le_trans H.2.2.2.2.2.2 HW2.2.2.size, H.2.2.1, ?_⟩;exact fun g hg hg2 => by
      have h4 := (World.ownsRow.lt HW2.1 g hg).1;have h5 := (h3.lt g hg2).2;omega
    clear H;have hwx : IntKind.u8.wrap (x % 256) = x % 256 := by rw [IntKind.wrap]; simp [IntKind.signed, IntKind.bits]
    have hox := HO.1;go_wp2_with fail;refine EA.mono ?_;rintro e w3 ⟨rfl, rfl⟩;go_wp2_with (at_builtin; refine wpList_append_own _ rfl _ _ 22 rfl w1.heap.size 5 i5 (.int .u8 0) 1 1 Tryz.underlying22 hi5 hy0 hy1 hy2 rfl (by decide) _ _ _ rfl (hox.alloc _) ⟨w2.heap.size, 0, none⟩ 1 1 [.int .u8 (x % 256)] rfl rfl (one_new _ _ _) ?a1 ?a2 ?a3 ?a4 ?_)
    case a1 =>
     intro u hu;simp at hu;subst hu; rfl
    case a2 => unfold maxLen; omega
    case a3 => omega
    case a4 => exact size_ok HO.2.2.1 _
    intro v' w4 hown' hgrow _;have HN : Hid (x / 256 <= ev la /\ (l ++ [UInt8.ofNat (x % 256).toNat]) ++ byI (x / 256) = byI (ev la) /\ w4.ownsRow w1.heap.size 5 1 v' (l ++ [UInt8.ofNat (x % 256).toNat]).length ((l ++ [UInt8.ofNat (x % 256).toNat]).map cellB) /\ IntAt w4 v2 (digs (x / 256)) /\ zW w w4 /\ w1.heap.size <= w4.heap.size) := by
     have ha := (Below.refl w2.heap.size w2).alloc (Nat.le_refl _) (Obj.cells #[Value.int IntKind.u8 (x % 256)] 5);refine ⟨HM.1, HM.2.1, ?_, ?_, ?_, ?_⟩
     ·rw [mapB_snoc, HM.2.2.2, List.length_append]
      exact hown'
     ·have h := HW2.1.stays ha
      have h2 : OwnI w4 wr.heap.size v2 (digs (x / 256)) := World.ownsRow.kept h hgrow (by
       by_cases e : v2.ownBlock = u4.ownBlock
       ·rcases hv : v2.ownBlock with _ | g
        ·exact .inl rfl
        ·exact (HO.2.2.2.2 g hv (by rw [<- e]; exact hv)).elim
       ·exact .inr e)
      exact h2.at
     ·exact (below_go2 HO.2.1 ha).grown hgrow (size_ok HO.2.1.size _) (fun k hk => Nat.le_trans HX1.2.size (hox.lt k hk).1)
     ·exact Nat.le_trans HO.2.2.1 (Nat.le_trans ha.size hgrow.size)
    have HG : Hid ((byI (x / 256)).length < gk) := by have h1 := HM.2.2.1; rw [HO.2.2.2.1] at h1; exact h1
    clear hown' hgrow hox
    go_wp2
    go_roundg ((byI (x / 256)).length)
    case measure => exact HG.out
    case rel => exact ⟨x / 256, _, by omega, HN.1, HN.2.1, rfl, HN.2.2⟩
def pubF : Nat -> List UInt8
 | 0 => [49, 49, 50, 54, 56, 52, 50, 52, 56, 50, 50, 57, 52, 55, 55, 53, 51, 48, 56, 49, 57, 53, 54, 57, 52, 54, 50, 51, 51, 48, 56, 50, 52, 48, 53, 57, 55]
 | 1 => [49, 50, 52, 55, 57, 56, 49, 54, 53, 53, 52, 50, 51, 53, 51, 50, 49, 53, 52, 48, 57, 50, 53, 53, 52, 56, 54, 51, 56, 56, 56, 56, 57, 55, 50, 48, 57]
 | 2 => [49, 49, 52, 56, 54, 56, 54, 51, 50, 48, 48, 50, 57, 57, 54, 55, 55, 54, 53, 49, 55, 52, 50, 53, 54, 55, 48, 52, 54, 56, 52, 51, 53, 48, 49, 49, 49]
 | 3 => [49, 48, 52, 49, 54, 57, 49, 55, 51, 56, 57, 54, 51, 57, 50, 48, 52, 52, 48, 51, 50, 51, 57, 49, 49, 48, 55, 56, 50, 53, 57, 51, 49, 54, 48, 51, 57]
 | 4 => [49, 49, 56, 56, 50, 52, 52, 51, 56, 51, 50, 57, 56, 53, 50, 56, 55, 53, 52, 52, 55, 57, 57, 55, 51, 54, 53, 50, 50, 49, 54, 53, 52, 55, 56, 55, 55]
 | 5 => [49, 48, 55, 53, 49, 55, 48, 53, 51, 48, 57, 52, 53, 51, 54, 56, 54, 49, 55, 53, 49, 56, 55, 55, 49, 52, 54, 54, 55, 56, 56, 55, 56, 53, 56, 49, 51]
 | _ => []
def secF : Nat -> List UInt8
 | 0 => [54, 50, 55, 48, 56, 49, 57, 56, 54, 56, 52, 51, 54, 53, 55, 48, 50, 49, 48, 51, 56, 49, 48, 51, 48, 52, 54, 56, 51, 50, 49, 57, 48, 48, 56, 49]
 | 1 => [50, 51, 53, 57, 55, 51, 51, 57, 57, 51, 54, 50, 51, 50, 48, 54, 56, 48, 51, 49, 53, 50, 57, 57, 49, 54, 55, 51, 54, 51, 49, 53, 57, 55, 49, 51]
 | 2 => [50, 56, 49, 48, 51, 50, 54, 52, 52, 57, 57, 57, 57, 51, 49, 51, 56, 51, 57, 56, 55, 55, 57, 54, 56, 52, 57, 51, 48, 48, 48, 57, 55, 48, 53, 55]
 | 3 => [53, 52, 55, 48, 49, 54, 53, 49, 50, 55, 53, 53, 50, 56, 56, 49, 56, 54, 53, 55, 48, 49, 57, 48, 50, 56, 53, 49, 57, 54, 56, 57, 51, 53, 53, 51]
 | 4 => [54, 56, 53, 49, 54, 54, 52, 55, 52, 53, 56, 52, 54, 48, 55, 49, 57, 50, 49, 49, 48, 52, 57, 48, 54, 52, 53, 50, 57, 50, 50, 53, 48, 55, 57, 51]
 | 5 => [57, 54, 48, 50, 49, 54, 56, 52, 50, 48, 51, 49, 55, 49, 51, 55, 54, 53, 54, 56, 54, 57, 48, 51, 54, 56, 51, 49, 54, 49, 49, 57, 50, 57, 51]
 | _ => []
def pubT (i : Int) : ByteArray := if 0 <= i /\ i < 6 then ⟨(pubF i.toNat).toArray⟩ else ByteArray.empty
def secT (i : Int) : ByteArray := if 0 <= i /\ i < 6 then ⟨(secF i.toNat).toArray⟩ else ByteArray.empty
theorem pubT_no {i : Int} (h : ¬ (0 <= i /\ i < 6)) : pubT i = ByteArray.empty := if_neg h
theorem secT_no {i : Int} (h : ¬ (0 <= i /\ i < 6)) : secT i = ByteArray.empty := if_neg h
theorem pubT_at {i : Nat} (h : i < 6) : pubT (i : Int) = ⟨(pubF i).toArray⟩ := by unfold pubT; rw [if_pos (by omega), Int.toNat_natCast]
theorem secT_at {i : Nat} (h : i < 6) : secT (i : Int) = ⟨(secF i).toArray⟩ := by unfold secT; rw [if_pos (by omega), Int.toNat_natCast]
theorem pubT_size (i : Int) : (pubT i).size <= 37 := by
 by_cases h : 0 <= i /\ i < 6
 ·obtain ⟨n, rfl⟩ : ∃ n : Nat, i = (n : Int) := ⟨i.toNat, by omega⟩
  rw [pubT_at (by omega)]
  match n, h with
  | 0, _ => decide
  | 1, _ => decide
  | 2, _ => decide
  | 3, _ => decide
  | 4, _ => decide
  | 5, _ => decide
  | n + 6, h => omega
 ·rw [pubT_no h]; decide
theorem pubT_pos {i : Nat} (h : i < 6) : (pubT (i : Int)).size ≠ 0 := by
 rw [pubT_at h]
 match i, h with
 | 0, _ => decide
 | 1, _ => decide
 | 2, _ => decide
 | 3, _ => decide
 | 4, _ => decide
 | 5, _ => decide
theorem secT_size (i : Int) : (secT i).size <= 37 := by
 by_cases h : 0 <= i /\ i < 6
 ·obtain ⟨n, rfl⟩ : ∃ n : Nat, i = (n : Int) := ⟨i.toNat, by omega⟩
  rw [secT_at (by omega)]
  match n, h with
  | 0, _ => decide
  | 1, _ => decide
  | 2, _ => decide
  | 3, _ => decide
  | 4, _ => decide
  | 5, _ => decide
  | n + 6, h => omega
 ·rw [secT_no h]; decide
theorem figL_of {l : List UInt8} {vs : List Nat} {n : Nat} (h : l.length <= 140) (hv : fvals 10 l = some vs) (hn : horn 10 (vs.map fun x : Nat => (x : Int)) = (n : Int)) : figL ⟨l.toArray⟩ = digs (n : Int) := by
 unfold figL;rw [if_pos (by show l.toArray.size <= 140; simpa using h)];show (match fvals 10 l.toArray.toList with | some vs => digs (horn 10 (vs.map fun x : Nat => (x : Int))) | none => []) = _;rw [show l.toArray.toList = l by simp, hv];show digs (horn 10 (vs.map fun x : Nat => (x : Int))) = _;rw [hn]
theorem figL_empty : figL ByteArray.empty = [] := by
 have h := figL_of (l := []) (vs := []) (n := 0) (by decide) rfl (by decide);have e : (⟨([] : List UInt8).toArray⟩ : ByteArray) = ByteArray.empty := rfl;rw [e] at h;rw [h];exact digs_neg (by decide)
def pubB (i : Int) : ByteArray := txtL (figL (pubT i))
def secL (i : Int) : List Int := figL (secT i)
theorem figL_wd (s : ByteArray) : Wd (figL s) := by
 unfold figL
 split
 ·split
  ·exact (dig_digs _).wd
  ·exact fun x hx => by simp at hx
 ·exact fun x hx => by simp at hx
theorem below_on {a b c : World} (h1 : zW a b) (h2 : zW b c) : zW a c := h1.trans (h2.mono h1.size)
end Go.Proofs.YtcbjlbpkoneibaaGreatDoor
