/-
  Texts of the proof.
-/
import Derived.Lib.LaidU8
import Derived.Laws.Rows
import Derived.Test.YtjgbmnhoajiabaaGreatDoorSR16
import Derived.Test.YtjgbmnhoajiabaaGreatDoorSR29
set_option maxRecDepth 100000
namespace Go.Proofs.YtjgbmnhoajiabaaGreatDoor
open Go.RowKit
def byN (n : Nat) : List UInt8 := if _h : n = 0 then [] else UInt8.ofNat (n % 256) :: byN (n / 256)
def byI (x : Int) : List UInt8 := byN x.toNat
theorem byI_zero {x : Int} (h : x <= 0) : byI x = [] := by
 unfold byI
 rw [show x.toNat = 0 by omega, byN, dif_pos rfl]
theorem byI_step {x : Int} (h : 0 < x) : byI x = UInt8.ofNat (x % 256).toNat :: byI (x / 256) := by
 unfold byI
 rw [byN, dif_neg (by omega)]
 congr 1
 ·congr 1
  omega
 ·congr 1
  omega
theorem byI_len {x : Int} : ∀ {k : Nat}, x < 256 ^ k -> (byI x).length <= k := by
 intro k
 induction k generalizing x with
 | zero => intro h; rw [byI_zero (by simp at h; omega)]; simp
 | succ k ih =>
  intro h
  by_cases h0 : 0 < x
  ·rw [byI_step h0, List.length_cons]
   have := ih (x := x / 256) (by rw [Int.pow_succ] at h; omega)
   omega
  ·rw [byI_zero (by omega)]; simp
theorem digs_low {y : Int} (h : 0 <= y) (h2 : y < 10000) : (digs y).getD 0 0 = y := by
 by_cases h0 : 0 < y
 ·rw [digs_step h0]
  simp
  omega
 ·rw [digs_neg (by omega)]
  simp
  omega
theorem digs_pos_len {x : Int} (h : 0 < x) : 0 < (digs x).length := digs_ne h
theorem cellB_int {y : Int} (h : 0 <= y) (h2 : y < 256) : cellB (UInt8.ofNat y.toNat) = .int .u8 y := by
 rw [cellB_of (by omega)]
 congr 1
 omega
theorem rev_text (b : UInt8) (l : List UInt8) : (⟨#[b]⟩ : ByteArray) ++ ⟨l.reverse.toArray⟩ = ⟨(l ++ [b]).reverse.toArray⟩ := by
 apply ByteArray.ext
 simp
def txtL (l : List Int) : ByteArray := if okL l = true then ⟨(byI (ev l)).reverse.toArray⟩ else ByteArray.empty
set_option maxHeartbeats 1600000 in
theorem specText_any (a : Value) (la : List Int) (w : World) (hl : la.length <= 10000000) (wa : Wd la) (ha : IntAt w a la) :
  Calls Tryz.prog 118 #[a] w fun e w' => e = .returned (.string (txtL la)) /\ Below w.heap.size w w' := by
 have HX : Hid (IntAt w a la /\ Wd la) := ⟨ha, wa⟩
 obtain ⟨ao, ac, hae, HA0⟩ := ha
 subst hae
 clear HA0 wa
 go_enter Tryz.func118, Tryz.ntmps118
 go_wp2_with fail
 refine (specOk_any _ la w hl HX.out.1 HX.out.2).mono ?_
 rintro e w1 ⟨rfl, hb1⟩
 have HX1 : Hid (IntAt w1 (.slice ao la.length ac) la /\ Below w.heap.size w w1) := ⟨HX.out.1.below hb1, hb1⟩
 clear hb1
 rcases h : okL la with _ | _
 ·have he : txtL la = ByteArray.empty := by unfold txtL; rw [h]; simp
  have HE : Hid (txtL la = ByteArray.empty) := he
  clear he
  go_wp2_with fail
  go_ret
  exact ⟨congrArg (fun z => Ending.returned (Value.string z)) HE.out.symm, HX1.out.2⟩
 ·have ok := okL_true h
  have HK : Hid (okL la = true /\ Dig la /\ Top la) := ⟨h, ok.2.1, ok.2.2⟩
  have hl40 := ok.1
  clear h ok
  go_wp2_with fail
  have HI : Hid (IntAt w1 (.slice ao la.length ac) (digs (ev la))) := by
   rw [<- eq_digs HK.out.2.1 HK.out.2.2]
   exact HX1.out.1
  have HX0 : Hid (0 <= ev la /\ ev la < 256 ^ 80) := by
   have h1 := ev_lt HK.out.2.1
   have h2 := pw_le hl40
   have h3 : (10000 : Int) ^ 40 < 256 ^ 80 := by decide
   exact ⟨ev_nonneg HK.out.2.1, by omega⟩
  go_loopg [0, 3] (byI (ev la)).length (fun gk lv sv wr => ∃ (x : Int) (l : List UInt8), 0 <= x /\ sv = .string ⟨l.reverse.toArray⟩ /\ Hid (x <= ev la /\ l ++ byI x = byI (ev la) /\ (byI x).length = gk /\ IntAt wr lv (digs x) /\ Below w.heap.size w wr))
  case atStart => exact ⟨ev la, [], HX0.out.1, rfl, Int.le_refl _, rfl, rfl, HI.out, HX1.out.2⟩
  case round =>
   obtain ⟨x, l, hx0, rfl, H⟩ := hrel
   clear HI
   obtain ⟨lo, lc, hle, _⟩ := H.out.2.2.2.1
   subst hle
   have hdl : (digs x).length <= 40 := by
    have h1 := ev_lt HK.out.2.1
    have h2 := pw_le hl40
    have h3 := H.out.1
    exact digs_len hx0 (by omega)
   have hll : l.length <= 80 := by
    have h1 := byI_len HX0.out.2
    have h2 := congrArg List.length H.out.2.1
    rw [List.length_append] at h2
    omega
   by_cases hx : x = 0
   ·have hl0 : (digs x).length = 0 := by rw [hx, digs_zero]; rfl
    have hlt : ¬ (0 : Int) < ((digs x).length : Int) := by omega
    have HE : Hid (txtL la = ⟨l.reverse.toArray⟩ /\ Below w.heap.size w wr) := by
     have h := H.out.2.1
     rw [hx, byI_zero (Int.le_refl _), List.append_nil] at h
     refine ⟨?_, H.out.2.2.2.2⟩
     unfold txtL
     rw [if_pos HK.out.1, h]
    clear hl0 hx H
    go_wp2_with fail
    go_ret
    exact ⟨congrArg (fun z => Ending.returned (Value.string z)) HE.out.1.symm, HE.out.2⟩
   ·have hxp : 0 < x := by omega
    have hlp := digs_pos_len hxp
    have hlt : (0 : Int) < ((digs x).length : Int) := by omega
    have ha := (Below.refl wr.heap.size wr).alloc (Nat.le_refl _) (Obj.cells #[Value.int IntKind.i64 256] 3)
    have hlit : OwnI (wr.alloc (Obj.cells #[Value.int IntKind.i64 256] 3)) wr.heap.size (.slice (some ⟨wr.heap.size, 0, none⟩) 1 1) [256] := World.ownsRow_lit wr #[Value.int .i64 256] 1 (Nat.le_refl _) (by unfold maxLen; omega) rfl
    have EO := specDiv0_any (.slice lo (digs x).length lc) (.slice (some ⟨wr.heap.size, 0, none⟩) 1 1) (digs x) [256] (wr.alloc (Obj.cells #[Value.int IntKind.i64 256] 3)) (by omega) (by simp) (dig_digs x) (by intro y hy; simp at hy; omega) (by intro _; simp) (by simp) (H.out.2.2.2.1.below ha) hlit.at
    rw [ev_digs hx0, show ev [256] = 256 by simp [ev]] at EO
    have HA : Hid (Below wr.heap.size wr (wr.alloc (Obj.cells #[Value.int IntKind.i64 256] 3))) := ha
    clear hlit ha
    go_wp2_with fail
    refine EO.mono ?_
    rintro e w2 ⟨v2, r2, rfl, ho2, hp2, hb2⟩
    have HW2 : Hid (OwnI w2 wr.heap.size v2 (digs (x / 256)) /\ OwnI w2 wr.heap.size r2 (digs (x % 256)) /\ Below wr.heap.size wr w2) := ⟨ho2.base HA.out.size, hp2.base HA.out.size, below_go HA.out hb2⟩
    clear EO ho2 hp2 hb2 HA
    have hr0 : 0 <= x % 256 := by omega
    have hr1 : x % 256 < 256 := by omega
    have HM : Hid (x / 256 <= ev la /\ (l ++ [UInt8.ofNat (x % 256).toNat]) ++ byI (x / 256) = byI (ev la) /\ (byI (x / 256)).length < (byI x).length /\ cellB (UInt8.ofNat (x % 256).toNat) = .int .u8 (x % 256) /\ (byI x).length = gk /\ Below w.heap.size w w2) := by
     have h1 := H.out.1
     have h2 := H.out.2.1
     have h5 := H.out.2.2.1
     rw [byI_step hxp] at h2 h5 |-
     exact ⟨by omega, by rw [List.append_assoc]; exact h2, by simp, cellB_int hr0 hr1, h5, below_go H.out.2.2.2.2 HW2.out.2.2⟩
    clear H
    obtain ⟨ro, rc, hre, hrs, _⟩ := HW2.out.2.1.shape
    have HRS : Hid (0 < (digs (x % 256)).length -> ∃ g, ro = some ⟨g, 0, none⟩) := hrs
    subst hre
    clear hrs
    have hwx : IntKind.u8.wrap (x % 256) = x % 256 := by rw [IntKind.wrap]; simp [IntKind.signed, IntKind.bits]
    by_cases hr : x % 256 = 0
    ·have hq : ¬ (0 : Int) < ((digs (x % 256)).length : Int) := by rw [hr, digs_zero]; decide
     have hcv : (convert 22 9 (.slice (some ⟨w2.heap.size, 0, none⟩) 1 1)).run Tryz.prog (w2.alloc (Obj.cells #[Value.int IntKind.u8 (0)] 5)) = .ok (.string ⟨[UInt8.ofNat (x % 256).toNat].toArray⟩) (w2.alloc (Obj.cells #[Value.int IntKind.u8 (0)] 5)) := by
      refine conv_own (base := w2.heap.size) (n := 1) ?_
      have h := World.ownsRow_lit (base := w2.heap.size) (e := 5) (size := 1) w2 #[Value.int .u8 (0)] 1 (Nat.le_refl _) (by unfold maxLen; omega) rfl
      have e : [UInt8.ofNat (x % 256).toNat].map cellB = (#[Value.int IntKind.u8 (0)] : Array Value).toList := by rw [List.map_singleton, HM.out.2.2.2.1]; simp [hr]
      rw [e]
      exact h
     clear hr
     go_wp2_with fail
     go_roundg ((byI (x / 256)).length)
     case measure => have h1 := HM.out.2.2.1; rw [HM.out.2.2.2.2.1] at h1; exact h1
     case rel => exact ⟨x / 256, l ++ [UInt8.ofNat (x % 256).toNat], by omega, by rw [rev_text], HM.out.1, HM.out.2.1, rfl, (HW2.out.1.stays ((Below.refl _ _).alloc (Nat.le_refl _) _)).at, HM.out.2.2.2.2.2.alloc HM.out.2.2.2.2.2.size _⟩
    ·have hrl := digs_pos_len (show 0 < x % 256 by omega)
     have hq : (0 : Int) < ((digs (x % 256)).length : Int) := by omega
     obtain ⟨gr, hro⟩ := HRS.out hrl
     subst hro
     have hur := HW2.out.2.1.cell (j := 0) hrl
     rw [digs_low hr0 (by omega)] at hur
     have hcv : (convert 22 9 (.slice (some ⟨w2.heap.size, 0, none⟩) 1 1)).run Tryz.prog (w2.alloc (Obj.cells #[Value.int IntKind.u8 (x % 256)] 5)) = .ok (.string ⟨[UInt8.ofNat (x % 256).toNat].toArray⟩) (w2.alloc (Obj.cells #[Value.int IntKind.u8 (x % 256)] 5)) := by
      refine conv_own (base := w2.heap.size) (n := 1) ?_
      have h := World.ownsRow_lit (base := w2.heap.size) (e := 5) (size := 1) w2 #[Value.int .u8 (x % 256)] 1 (Nat.le_refl _) (by unfold maxLen; omega) rfl
      have e : [UInt8.ofNat (x % 256).toNat].map cellB = (#[Value.int IntKind.u8 (x % 256)] : Array Value).toList := by rw [List.map_singleton, HM.out.2.2.2.1]
      rw [e]
      exact h
     go_wp2_with fail
     go_roundg ((byI (x / 256)).length)
     case measure => have h1 := HM.out.2.2.1; rw [HM.out.2.2.2.2.1] at h1; exact h1
     case rel => exact ⟨x / 256, l ++ [UInt8.ofNat (x % 256).toNat], by omega, by rw [rev_text], HM.out.1, HM.out.2.1, rfl, (HW2.out.1.stays ((Below.refl _ _).alloc (Nat.le_refl _) _)).at, HM.out.2.2.2.2.2.alloc HM.out.2.2.2.2.2.size _⟩
def pubF : Nat -> List UInt8
 | 0 => [49, 49, 50, 54, 56, 52, 50, 52, 56, 50, 50, 57, 52, 55, 55, 53, 51, 48, 56, 49, 57, 53, 54, 57, 52, 54, 50, 51, 51, 48, 56, 50, 52, 48, 53, 57, 55]
 | 1 => [49, 50, 52, 55, 57, 56, 49, 54, 53, 53, 52, 50, 51, 53, 51, 50, 49, 53, 52, 48, 57, 50, 53, 53, 52, 56, 54, 51, 56, 56, 56, 56, 57, 55, 50, 48, 57]
 | 2 => [49, 49, 52, 56, 54, 56, 54, 51, 50, 48, 48, 50, 57, 57, 54, 55, 55, 54, 53, 49, 55, 52, 50, 53, 54, 55, 48, 52, 54, 56, 52, 51, 53, 48, 49, 49, 49]
 | 3 => [49, 48, 52, 49, 54, 57, 49, 55, 51, 56, 57, 54, 51, 57, 50, 48, 52, 52, 48, 51, 50, 51, 57, 49, 49, 48, 55, 56, 50, 53, 57, 51, 49, 54, 48, 51, 57]
 | 4 => [49, 49, 56, 56, 50, 52, 52, 51, 56, 51, 50, 57, 56, 53, 50, 56, 55, 53, 52, 52, 55, 57, 57, 55, 51, 54, 53, 50, 50, 49, 54, 53, 52, 55, 56, 55, 55]
 | 5 => [49, 48, 55, 53, 49, 55, 48, 53, 51, 48, 57, 52, 53, 51, 54, 56, 54, 49, 55, 53, 49, 56, 55, 55, 49, 52, 54, 54, 55, 56, 56, 55, 56, 53, 56, 49, 51]
 | _ => []
def secF : Nat -> List UInt8
 | 0 => [54, 50, 55, 48, 56, 49, 57, 56, 54, 56, 52, 51, 54, 53, 55, 48, 50, 49, 48, 51, 56, 49, 48, 51, 48, 52, 54, 56, 51, 50, 49, 57, 48, 48, 56, 49]
 | 1 => [50, 51, 53, 57, 55, 51, 51, 57, 57, 51, 54, 50, 51, 50, 48, 54, 56, 48, 51, 49, 53, 50, 57, 57, 49, 54, 55, 51, 54, 51, 49, 53, 57, 55, 49, 51]
 | 2 => [50, 56, 49, 48, 51, 50, 54, 52, 52, 57, 57, 57, 57, 51, 49, 51, 56, 51, 57, 56, 55, 55, 57, 54, 56, 52, 57, 51, 48, 48, 48, 57, 55, 48, 53, 55]
 | 3 => [53, 52, 55, 48, 49, 54, 53, 49, 50, 55, 53, 53, 50, 56, 56, 49, 56, 54, 53, 55, 48, 49, 57, 48, 50, 56, 53, 49, 57, 54, 56, 57, 51, 53, 53, 51]
 | 4 => [54, 56, 53, 49, 54, 54, 52, 55, 52, 53, 56, 52, 54, 48, 55, 49, 57, 50, 49, 49, 48, 52, 57, 48, 54, 52, 53, 50, 57, 50, 50, 53, 48, 55, 57, 51]
 | 5 => [57, 54, 48, 50, 49, 54, 56, 52, 50, 48, 51, 49, 55, 49, 51, 55, 54, 53, 54, 56, 54, 57, 48, 51, 54, 56, 51, 49, 54, 49, 49, 57, 50, 57, 51]
 | _ => []
def pubT (i : Int) : ByteArray := if 0 <= i /\ i < 6 then ⟨(pubF i.toNat).toArray⟩ else ByteArray.empty
def secT (i : Int) : ByteArray := if 0 <= i /\ i < 6 then ⟨(secF i.toNat).toArray⟩ else ByteArray.empty
theorem pubT_no {i : Int} (h : ¬ (0 <= i /\ i < 6)) : pubT i = ByteArray.empty := if_neg h
theorem secT_no {i : Int} (h : ¬ (0 <= i /\ i < 6)) : secT i = ByteArray.empty := if_neg h
theorem pubT_at {i : Nat} (h : i < 6) : pubT (i : Int) = ⟨(pubF i).toArray⟩ := by unfold pubT; rw [if_pos (by omega), Int.toNat_natCast]
theorem secT_at {i : Nat} (h : i < 6) : secT (i : Int) = ⟨(secF i).toArray⟩ := by unfold secT; rw [if_pos (by omega), Int.toNat_natCast]
theorem pubT_size (i : Int) : (pubT i).size <= 37 := by
 by_cases h : 0 <= i /\ i < 6
 ·obtain ⟨n, rfl⟩ : ∃ n : Nat, i = (n : Int) := ⟨i.toNat, by omega⟩
  rw [pubT_at (by omega)]
  match n, h with
  | 0, _ => decide
  | 1, _ => decide
  | 2, _ => decide
  | 3, _ => decide
  | 4, _ => decide
  | 5, _ => decide
  | n + 6, h => omega
 ·rw [pubT_no h]; decide
theorem secT_size (i : Int) : (secT i).size <= 37 := by
 by_cases h : 0 <= i /\ i < 6
 ·obtain ⟨n, rfl⟩ : ∃ n : Nat, i = (n : Int) := ⟨i.toNat, by omega⟩
  rw [secT_at (by omega)]
  match n, h with
  | 0, _ => decide
  | 1, _ => decide
  | 2, _ => decide
  | 3, _ => decide
  | 4, _ => decide
  | 5, _ => decide
  | n + 6, h => omega
 ·rw [secT_no h]; decide
theorem figL_of {l : List UInt8} {vs : List Nat} {n : Nat} (h : l.length <= 140) (hv : fvals 10 l = some vs) (hn : horn 10 (vs.map fun x : Nat => (x : Int)) = (n : Int)) : figL ⟨l.toArray⟩ = digs (n : Int) := by
 unfold figL
 rw [if_pos (by show l.toArray.size <= 140; simpa using h)]
 show (match fvals 10 l.toArray.toList with | some vs => digs (horn 10 (vs.map fun x : Nat => (x : Int))) | none => []) = _
 rw [show l.toArray.toList = l by simp, hv]
 show digs (horn 10 (vs.map fun x : Nat => (x : Int))) = _
 rw [hn]
theorem figL_empty : figL ByteArray.empty = [] := by
 have h := figL_of (l := []) (vs := []) (n := 0) (by decide) rfl (by decide)
 have e : (⟨([] : List UInt8).toArray⟩ : ByteArray) = ByteArray.empty := rfl
 rw [e] at h
 rw [h]
 exact digs_neg (by decide)
def pubB (i : Int) : ByteArray := txtL (figL (pubT i))
def secL (i : Int) : List Int := figL (secT i)
theorem figL_wd (s : ByteArray) : Wd (figL s) := by
 unfold figL
 split
 ·split
  ·exact (dig_digs _).wd
  ·exact fun x hx => by simp at hx
 ·exact fun x hx => by simp at hx
theorem below_on {a b c : World} (h1 : Below a.heap.size a b) (h2 : Below b.heap.size b c) : Below a.heap.size a c := h1.trans (h2.mono h1.size)
theorem alloc_more0 (w : World) (o : Obj) : w.heap.size < (w.alloc o).heap.size := by
 show w.heap.size < (w.heap.push o).size
 rw [Array.size_push]
 exact Nat.lt_succ_self _
theorem alloc_two (w : World) (cs : Array Value) (t : TypeId) : OwnI ((w.alloc (Obj.cells cs t)).alloc (Obj.cells #[] 3)) w.heap.size (.slice (some ⟨w.heap.size + 1, 0, none⟩) 0 0) [] := by
 have h := OwnI.empty (w.alloc (Obj.cells cs t)) (base := w.heap.size) (Nat.le_of_lt (alloc_more0 w _))
 rw [show (w.alloc (Obj.cells cs t)).heap.size = w.heap.size + 1 from Array.size_push _] at h
 exact h
theorem alloc_at (w : World) (cs : Array Value) (t : TypeId) (n : Nat) : (w.alloc (Obj.cells cs t)).cell? ⟨w.heap.size, n, none⟩ = cs[n]? := by
 simp only [World.cell?, heap_alloc_new]
 rfl
theorem pub_lit {n : Nat} (h : n < 6) : (#[Value.string { data := #[49, 49, 50, 54, 56, 52, 50, 52, 56, 50, 50, 57, 52, 55, 55, 53, 51, 48, 56, 49, 57, 53, 54, 57, 52, 54, 50, 51, 51, 48, 56, 50, 52, 48, 53, 57, 55] }, Value.string { data := #[49, 50, 52, 55, 57, 56, 49, 54, 53, 53, 52, 50, 51, 53, 51, 50, 49, 53, 52, 48, 57, 50, 53, 53, 52, 56, 54, 51, 56, 56, 56, 56, 57, 55, 50, 48, 57] }, Value.string { data := #[49, 49, 52, 56, 54, 56, 54, 51, 50, 48, 48, 50, 57, 57, 54, 55, 55, 54, 53, 49, 55, 52, 50, 53, 54, 55, 48, 52, 54, 56, 52, 51, 53, 48, 49, 49, 49] }, Value.string { data := #[49, 48, 52, 49, 54, 57, 49, 55, 51, 56, 57, 54, 51, 57, 50, 48, 52, 52, 48, 51, 50, 51, 57, 49, 49, 48, 55, 56, 50, 53, 57, 51, 49, 54, 48, 51, 57] }, Value.string { data := #[49, 49, 56, 56, 50, 52, 52, 51, 56, 51, 50, 57, 56, 53, 50, 56, 55, 53, 52, 52, 55, 57, 57, 55, 51, 54, 53, 50, 50, 49, 54, 53, 52, 55, 56, 55, 55] }, Value.string { data := #[49, 48, 55, 53, 49, 55, 48, 53, 51, 48, 57, 52, 53, 51, 54, 56, 54, 49, 55, 53, 49, 56, 55, 55, 49, 52, 54, 54, 55, 56, 56, 55, 56, 53, 56, 49, 51] }] : Array Value)[n]? = some (.string ⟨(pubF n).toArray⟩) := by
 match n, h with
 | 0, _ => rfl
 | 1, _ => rfl
 | 2, _ => rfl
 | 3, _ => rfl
 | 4, _ => rfl
 | 5, _ => rfl
set_option maxHeartbeats 800000 in
theorem specPub_any (i : Int) (w : World) (hi : -9223372036854775808 <= i /\ i <= 9223372036854775807) : Calls Tryz.prog 119 #[.int .i64 i] w fun e w' => ∃ v, e = .returned v /\ OwnI w' w.heap.size v (figL (pubT i)) /\ Below w.heap.size w w' := by
 by_cases h : 0 <= i /\ i < 6
 ·have HN : Hid (figL (pubT i) = figL (pubT i)) := rfl
  obtain ⟨n, rfl⟩ : ∃ n : Nat, i = (n : Int) := ⟨i.toNat, by omega⟩
  have hn : n < 6 := by omega
  have hcell := (alloc_at w #[Value.string { data := #[49, 49, 50, 54, 56, 52, 50, 52, 56, 50, 50, 57, 52, 55, 55, 53, 51, 48, 56, 49, 57, 53, 54, 57, 52, 54, 50, 51, 51, 48, 56, 50, 52, 48, 53, 57, 55] }, Value.string { data := #[49, 50, 52, 55, 57, 56, 49, 54, 53, 53, 52, 50, 51, 53, 51, 50, 49, 53, 52, 48, 57, 50, 53, 53, 52, 56, 54, 51, 56, 56, 56, 56, 57, 55, 50, 48, 57] }, Value.string { data := #[49, 49, 52, 56, 54, 56, 54, 51, 50, 48, 48, 50, 57, 57, 54, 55, 55, 54, 53, 49, 55, 52, 50, 53, 54, 55, 48, 52, 54, 56, 52, 51, 53, 48, 49, 49, 49] }, Value.string { data := #[49, 48, 52, 49, 54, 57, 49, 55, 51, 56, 57, 54, 51, 57, 50, 48, 52, 52, 48, 51, 50, 51, 57, 49, 49, 48, 55, 56, 50, 53, 57, 51, 49, 54, 48, 51, 57] }, Value.string { data := #[49, 49, 56, 56, 50, 52, 52, 51, 56, 51, 50, 57, 56, 53, 50, 56, 55, 53, 52, 52, 55, 57, 57, 55, 51, 54, 53, 50, 50, 49, 54, 53, 52, 55, 56, 55, 55] }, Value.string { data := #[49, 48, 55, 53, 49, 55, 48, 53, 51, 48, 57, 52, 53, 51, 54, 56, 54, 49, 55, 53, 49, 56, 55, 55, 49, 52, 54, 54, 55, 56, 56, 55, 56, 53, 56, 49, 51] }] 9 n).trans (pub_lit hn)
  have HZ : Hid ((pubT (n : Int)).size <= 37) := pubT_size _
  rw [<- pubT_at hn] at hcell
  have HB : Hid (Below w.heap.size w (w.alloc (Obj.cells #[Value.string { data := #[49, 49, 50, 54, 56, 52, 50, 52, 56, 50, 50, 57, 52, 55, 55, 53, 51, 48, 56, 49, 57, 53, 54, 57, 52, 54, 50, 51, 51, 48, 56, 50, 52, 48, 53, 57, 55] }, Value.string { data := #[49, 50, 52, 55, 57, 56, 49, 54, 53, 53, 52, 50, 51, 53, 51, 50, 49, 53, 52, 48, 57, 50, 53, 53, 52, 56, 54, 51, 56, 56, 56, 56, 57, 55, 50, 48, 57] }, Value.string { data := #[49, 49, 52, 56, 54, 56, 54, 51, 50, 48, 48, 50, 57, 57, 54, 55, 55, 54, 53, 49, 55, 52, 50, 53, 54, 55, 48, 52, 54, 56, 52, 51, 53, 48, 49, 49, 49] }, Value.string { data := #[49, 48, 52, 49, 54, 57, 49, 55, 51, 56, 57, 54, 51, 57, 50, 48, 52, 52, 48, 51, 50, 51, 57, 49, 49, 48, 55, 56, 50, 53, 57, 51, 49, 54, 48, 51, 57] }, Value.string { data := #[49, 49, 56, 56, 50, 52, 52, 51, 56, 51, 50, 57, 56, 53, 50, 56, 55, 53, 52, 52, 55, 57, 57, 55, 51, 54, 53, 50, 50, 49, 54, 53, 52, 55, 56, 55, 55] }, Value.string { data := #[49, 48, 55, 53, 49, 55, 48, 53, 51, 48, 57, 52, 53, 51, 54, 56, 54, 49, 55, 53, 49, 56, 55, 55, 49, 52, 54, 54, 55, 56, 56, 55, 56, 53, 56, 49, 51] }] 9))) := (Below.refl _ _).alloc (Nat.le_refl _) _
  generalize pubT (n : Int) = T at *
  have hn0 : (0 : Int) <= (n : Int) := by omega
  have hn6 : (n : Int) < 6 := by omega
  go_enter Tryz.func119, Tryz.ntmps119
  go_wp2_with fail
  refine (in_yes (n : Int) 0 5 _ (by omega) (by omega)).mono ?_
  rintro e w' ⟨rfl, rfl⟩
  go_wp2_with fail
  refine (specFig_any T _ (by have := HZ.out; omega)).mono ?_
  rintro e w2 ⟨v, rfl, ho2, hb2⟩
  have H2 : Hid (OwnI w2 w.heap.size v (figL T) /\ Below w.heap.size w w2) := ⟨ho2.base HB.out.size, below_on HB.out hb2⟩
  clear ho2 hb2 HB hcell
  go_wp2_with fail
  go_ret
  exact ⟨_, rfl, by first | exact H2.out.1 | (rw [HN.out]; exact H2.out.1), H2.out.2⟩
 ·have HN : Hid (figL (pubT i) = []) := by
   show figL (pubT i) = []
   rw [pubT_no h, figL_empty]
  have HB : Hid (Below w.heap.size w (w.alloc (Obj.cells #[Value.string { data := #[49, 49, 50, 54, 56, 52, 50, 52, 56, 50, 50, 57, 52, 55, 55, 53, 51, 48, 56, 49, 57, 53, 54, 57, 52, 54, 50, 51, 51, 48, 56, 50, 52, 48, 53, 57, 55] }, Value.string { data := #[49, 50, 52, 55, 57, 56, 49, 54, 53, 53, 52, 50, 51, 53, 51, 50, 49, 53, 52, 48, 57, 50, 53, 53, 52, 56, 54, 51, 56, 56, 56, 56, 57, 55, 50, 48, 57] }, Value.string { data := #[49, 49, 52, 56, 54, 56, 54, 51, 50, 48, 48, 50, 57, 57, 54, 55, 55, 54, 53, 49, 55, 52, 50, 53, 54, 55, 48, 52, 54, 56, 52, 51, 53, 48, 49, 49, 49] }, Value.string { data := #[49, 48, 52, 49, 54, 57, 49, 55, 51, 56, 57, 54, 51, 57, 50, 48, 52, 52, 48, 51, 50, 51, 57, 49, 49, 48, 55, 56, 50, 53, 57, 51, 49, 54, 48, 51, 57] }, Value.string { data := #[49, 49, 56, 56, 50, 52, 52, 51, 56, 51, 50, 57, 56, 53, 50, 56, 55, 53, 52, 52, 55, 57, 57, 55, 51, 54, 53, 50, 50, 49, 54, 53, 52, 55, 56, 55, 55] }, Value.string { data := #[49, 48, 55, 53, 49, 55, 48, 53, 51, 48, 57, 52, 53, 51, 54, 56, 54, 49, 55, 53, 49, 56, 55, 55, 49, 52, 54, 54, 55, 56, 56, 55, 56, 53, 56, 49, 51] }] 9))) := (Below.refl _ _).alloc (Nat.le_refl _) _
  have HO : Hid (OwnI ((w.alloc (Obj.cells #[Value.string { data := #[49, 49, 50, 54, 56, 52, 50, 52, 56, 50, 50, 57, 52, 55, 55, 53, 51, 48, 56, 49, 57, 53, 54, 57, 52, 54, 50, 51, 51, 48, 56, 50, 52, 48, 53, 57, 55] }, Value.string { data := #[49, 50, 52, 55, 57, 56, 49, 54, 53, 53, 52, 50, 51, 53, 51, 50, 49, 53, 52, 48, 57, 50, 53, 53, 52, 56, 54, 51, 56, 56, 56, 56, 57, 55, 50, 48, 57] }, Value.string { data := #[49, 49, 52, 56, 54, 56, 54, 51, 50, 48, 48, 50, 57, 57, 54, 55, 55, 54, 53, 49, 55, 52, 50, 53, 54, 55, 48, 52, 54, 56, 52, 51, 53, 48, 49, 49, 49] }, Value.string { data := #[49, 48, 52, 49, 54, 57, 49, 55, 51, 56, 57, 54, 51, 57, 50, 48, 52, 52, 48, 51, 50, 51, 57, 49, 49, 48, 55, 56, 50, 53, 57, 51, 49, 54, 48, 51, 57] }, Value.string { data := #[49, 49, 56, 56, 50, 52, 52, 51, 56, 51, 50, 57, 56, 53, 50, 56, 55, 53, 52, 52, 55, 57, 57, 55, 51, 54, 53, 50, 50, 49, 54, 53, 52, 55, 56, 55, 55] }, Value.string { data := #[49, 48, 55, 53, 49, 55, 48, 53, 51, 48, 57, 52, 53, 51, 54, 56, 54, 49, 55, 53, 49, 56, 55, 55, 49, 52, 54, 54, 55, 56, 56, 55, 56, 53, 56, 49, 51] }] 9)).alloc (Obj.cells #[] 3)) w.heap.size (.slice (some ⟨w.heap.size + 1, 0, none⟩) 0 0) []) := alloc_two w _ _
  have hno : ¬ (0 <= i /\ i <= 5) := by omega
  go_enter Tryz.func119, Tryz.ntmps119
  go_wp2_with fail
  refine (in_no i 0 5 _ (by omega)).mono ?_
  rintro e w' ⟨rfl, rfl⟩
  go_wp2_with fail
  go_ret
  exact ⟨_, rfl, by rw [HN.out]; exact HO.out, HB.out.alloc HB.out.size _⟩
theorem sec_lit {n : Nat} (h : n < 6) : (#[Value.string { data := #[54, 50, 55, 48, 56, 49, 57, 56, 54, 56, 52, 51, 54, 53, 55, 48, 50, 49, 48, 51, 56, 49, 48, 51, 48, 52, 54, 56, 51, 50, 49, 57, 48, 48, 56, 49] }, Value.string { data := #[50, 51, 53, 57, 55, 51, 51, 57, 57, 51, 54, 50, 51, 50, 48, 54, 56, 48, 51, 49, 53, 50, 57, 57, 49, 54, 55, 51, 54, 51, 49, 53, 57, 55, 49, 51] }, Value.string { data := #[50, 56, 49, 48, 51, 50, 54, 52, 52, 57, 57, 57, 57, 51, 49, 51, 56, 51, 57, 56, 55, 55, 57, 54, 56, 52, 57, 51, 48, 48, 48, 57, 55, 48, 53, 55] }, Value.string { data := #[53, 52, 55, 48, 49, 54, 53, 49, 50, 55, 53, 53, 50, 56, 56, 49, 56, 54, 53, 55, 48, 49, 57, 48, 50, 56, 53, 49, 57, 54, 56, 57, 51, 53, 53, 51] }, Value.string { data := #[54, 56, 53, 49, 54, 54, 52, 55, 52, 53, 56, 52, 54, 48, 55, 49, 57, 50, 49, 49, 48, 52, 57, 48, 54, 52, 53, 50, 57, 50, 50, 53, 48, 55, 57, 51] }, Value.string { data := #[57, 54, 48, 50, 49, 54, 56, 52, 50, 48, 51, 49, 55, 49, 51, 55, 54, 53, 54, 56, 54, 57, 48, 51, 54, 56, 51, 49, 54, 49, 49, 57, 50, 57, 51] }] : Array Value)[n]? = some (.string ⟨(secF n).toArray⟩) := by
 match n, h with
 | 0, _ => rfl
 | 1, _ => rfl
 | 2, _ => rfl
 | 3, _ => rfl
 | 4, _ => rfl
 | 5, _ => rfl
set_option maxHeartbeats 800000 in
theorem specSecret_any (i : Int) (w : World) (hi : -9223372036854775808 <= i /\ i <= 9223372036854775807) : Calls Tryz.prog 204 #[.int .i64 i] w fun e w' => ∃ v, e = .returned v /\ OwnI w' w.heap.size v (secL i) /\ Below w.heap.size w w' := by
 by_cases h : 0 <= i /\ i < 6
 ·have HN : Hid (secL i = figL (secT i)) := rfl
  obtain ⟨n, rfl⟩ : ∃ n : Nat, i = (n : Int) := ⟨i.toNat, by omega⟩
  have hn : n < 6 := by omega
  have hcell := (alloc_at w #[Value.string { data := #[54, 50, 55, 48, 56, 49, 57, 56, 54, 56, 52, 51, 54, 53, 55, 48, 50, 49, 48, 51, 56, 49, 48, 51, 48, 52, 54, 56, 51, 50, 49, 57, 48, 48, 56, 49] }, Value.string { data := #[50, 51, 53, 57, 55, 51, 51, 57, 57, 51, 54, 50, 51, 50, 48, 54, 56, 48, 51, 49, 53, 50, 57, 57, 49, 54, 55, 51, 54, 51, 49, 53, 57, 55, 49, 51] }, Value.string { data := #[50, 56, 49, 48, 51, 50, 54, 52, 52, 57, 57, 57, 57, 51, 49, 51, 56, 51, 57, 56, 55, 55, 57, 54, 56, 52, 57, 51, 48, 48, 48, 57, 55, 48, 53, 55] }, Value.string { data := #[53, 52, 55, 48, 49, 54, 53, 49, 50, 55, 53, 53, 50, 56, 56, 49, 56, 54, 53, 55, 48, 49, 57, 48, 50, 56, 53, 49, 57, 54, 56, 57, 51, 53, 53, 51] }, Value.string { data := #[54, 56, 53, 49, 54, 54, 52, 55, 52, 53, 56, 52, 54, 48, 55, 49, 57, 50, 49, 49, 48, 52, 57, 48, 54, 52, 53, 50, 57, 50, 50, 53, 48, 55, 57, 51] }, Value.string { data := #[57, 54, 48, 50, 49, 54, 56, 52, 50, 48, 51, 49, 55, 49, 51, 55, 54, 53, 54, 56, 54, 57, 48, 51, 54, 56, 51, 49, 54, 49, 49, 57, 50, 57, 51] }] 9 n).trans (sec_lit hn)
  have HZ : Hid ((secT (n : Int)).size <= 37) := secT_size _
  rw [<- secT_at hn] at hcell
  have HB : Hid (Below w.heap.size w (w.alloc (Obj.cells #[Value.string { data := #[54, 50, 55, 48, 56, 49, 57, 56, 54, 56, 52, 51, 54, 53, 55, 48, 50, 49, 48, 51, 56, 49, 48, 51, 48, 52, 54, 56, 51, 50, 49, 57, 48, 48, 56, 49] }, Value.string { data := #[50, 51, 53, 57, 55, 51, 51, 57, 57, 51, 54, 50, 51, 50, 48, 54, 56, 48, 51, 49, 53, 50, 57, 57, 49, 54, 55, 51, 54, 51, 49, 53, 57, 55, 49, 51] }, Value.string { data := #[50, 56, 49, 48, 51, 50, 54, 52, 52, 57, 57, 57, 57, 51, 49, 51, 56, 51, 57, 56, 55, 55, 57, 54, 56, 52, 57, 51, 48, 48, 48, 57, 55, 48, 53, 55] }, Value.string { data := #[53, 52, 55, 48, 49, 54, 53, 49, 50, 55, 53, 53, 50, 56, 56, 49, 56, 54, 53, 55, 48, 49, 57, 48, 50, 56, 53, 49, 57, 54, 56, 57, 51, 53, 53, 51] }, Value.string { data := #[54, 56, 53, 49, 54, 54, 52, 55, 52, 53, 56, 52, 54, 48, 55, 49, 57, 50, 49, 49, 48, 52, 57, 48, 54, 52, 53, 50, 57, 50, 50, 53, 48, 55, 57, 51] }, Value.string { data := #[57, 54, 48, 50, 49, 54, 56, 52, 50, 48, 51, 49, 55, 49, 51, 55, 54, 53, 54, 56, 54, 57, 48, 51, 54, 56, 51, 49, 54, 49, 49, 57, 50, 57, 51] }] 9))) := (Below.refl _ _).alloc (Nat.le_refl _) _
  generalize secT (n : Int) = T at *
  have hn0 : (0 : Int) <= (n : Int) := by omega
  have hn6 : (n : Int) < 6 := by omega
  go_enter Tryz.func204, Tryz.ntmps204
  go_wp2_with fail
  refine (in_yes (n : Int) 0 5 _ (by omega) (by omega)).mono ?_
  rintro e w' ⟨rfl, rfl⟩
  go_wp2_with fail
  refine (specFig_any T _ (by have := HZ.out; omega)).mono ?_
  rintro e w2 ⟨v, rfl, ho2, hb2⟩
  have H2 : Hid (OwnI w2 w.heap.size v (figL T) /\ Below w.heap.size w w2) := ⟨ho2.base HB.out.size, below_on HB.out hb2⟩
  clear ho2 hb2 HB hcell
  go_wp2_with fail
  go_ret
  exact ⟨_, rfl, by first | exact H2.out.1 | (rw [HN.out]; exact H2.out.1), H2.out.2⟩
 ·have HN : Hid (secL i = []) := by
   show secL i = []
   unfold secL; rw [secT_no h, figL_empty]
  have HB : Hid (Below w.heap.size w (w.alloc (Obj.cells #[Value.string { data := #[54, 50, 55, 48, 56, 49, 57, 56, 54, 56, 52, 51, 54, 53, 55, 48, 50, 49, 48, 51, 56, 49, 48, 51, 48, 52, 54, 56, 51, 50, 49, 57, 48, 48, 56, 49] }, Value.string { data := #[50, 51, 53, 57, 55, 51, 51, 57, 57, 51, 54, 50, 51, 50, 48, 54, 56, 48, 51, 49, 53, 50, 57, 57, 49, 54, 55, 51, 54, 51, 49, 53, 57, 55, 49, 51] }, Value.string { data := #[50, 56, 49, 48, 51, 50, 54, 52, 52, 57, 57, 57, 57, 51, 49, 51, 56, 51, 57, 56, 55, 55, 57, 54, 56, 52, 57, 51, 48, 48, 48, 57, 55, 48, 53, 55] }, Value.string { data := #[53, 52, 55, 48, 49, 54, 53, 49, 50, 55, 53, 53, 50, 56, 56, 49, 56, 54, 53, 55, 48, 49, 57, 48, 50, 56, 53, 49, 57, 54, 56, 57, 51, 53, 53, 51] }, Value.string { data := #[54, 56, 53, 49, 54, 54, 52, 55, 52, 53, 56, 52, 54, 48, 55, 49, 57, 50, 49, 49, 48, 52, 57, 48, 54, 52, 53, 50, 57, 50, 50, 53, 48, 55, 57, 51] }, Value.string { data := #[57, 54, 48, 50, 49, 54, 56, 52, 50, 48, 51, 49, 55, 49, 51, 55, 54, 53, 54, 56, 54, 57, 48, 51, 54, 56, 51, 49, 54, 49, 49, 57, 50, 57, 51] }] 9))) := (Below.refl _ _).alloc (Nat.le_refl _) _
  have HO : Hid (OwnI ((w.alloc (Obj.cells #[Value.string { data := #[54, 50, 55, 48, 56, 49, 57, 56, 54, 56, 52, 51, 54, 53, 55, 48, 50, 49, 48, 51, 56, 49, 48, 51, 48, 52, 54, 56, 51, 50, 49, 57, 48, 48, 56, 49] }, Value.string { data := #[50, 51, 53, 57, 55, 51, 51, 57, 57, 51, 54, 50, 51, 50, 48, 54, 56, 48, 51, 49, 53, 50, 57, 57, 49, 54, 55, 51, 54, 51, 49, 53, 57, 55, 49, 51] }, Value.string { data := #[50, 56, 49, 48, 51, 50, 54, 52, 52, 57, 57, 57, 57, 51, 49, 51, 56, 51, 57, 56, 55, 55, 57, 54, 56, 52, 57, 51, 48, 48, 48, 57, 55, 48, 53, 55] }, Value.string { data := #[53, 52, 55, 48, 49, 54, 53, 49, 50, 55, 53, 53, 50, 56, 56, 49, 56, 54, 53, 55, 48, 49, 57, 48, 50, 56, 53, 49, 57, 54, 56, 57, 51, 53, 53, 51] }, Value.string { data := #[54, 56, 53, 49, 54, 54, 52, 55, 52, 53, 56, 52, 54, 48, 55, 49, 57, 50, 49, 49, 48, 52, 57, 48, 54, 52, 53, 50, 57, 50, 50, 53, 48, 55, 57, 51] }, Value.string { data := #[57, 54, 48, 50, 49, 54, 56, 52, 50, 48, 51, 49, 55, 49, 51, 55, 54, 53, 54, 56, 54, 57, 48, 51, 54, 56, 51, 49, 54, 49, 49, 57, 50, 57, 51] }] 9)).alloc (Obj.cells #[] 3)) w.heap.size (.slice (some ⟨w.heap.size + 1, 0, none⟩) 0 0) []) := alloc_two w _ _
  have hno : ¬ (0 <= i /\ i <= 5) := by omega
  go_enter Tryz.func204, Tryz.ntmps204
  go_wp2_with fail
  refine (in_no i 0 5 _ (by omega)).mono ?_
  rintro e w' ⟨rfl, rfl⟩
  go_wp2_with fail
  go_ret
  exact ⟨_, rfl, by rw [HN.out]; exact HO.out, HB.out.alloc HB.out.size _⟩
set_option maxHeartbeats 800000 in
theorem specPublic_any (i : Int) (w : World) (hi : -9223372036854775808 <= i /\ i <= 9223372036854775807) : Calls Tryz.prog 24 #[.int .i64 i] w fun e w' => e = .returned (.string (pubB i)) /\ Below w.heap.size w w' := by
 have HN : Hid (pubB i = txtL (figL (pubT i))) := rfl
 go_enter Tryz.func24, Tryz.ntmps24
 go_wp2_with fail
 refine (specPub_any i w hi).mono ?_
 rintro e w1 ⟨v, rfl, ho1, hb1⟩
 have H1 : Hid (IntAt w1 v (figL (pubT i)) /\ Below w.heap.size w w1) := ⟨ho1.at, hb1⟩
 clear ho1 hb1
 go_wp2_with fail
 refine (specText_any v _ w1 (by have := figL_len (pubT i); omega) (figL_wd _) H1.out.1).mono ?_
 rintro e w2 ⟨rfl, hb2⟩
 have H2 : Hid (Below w.heap.size w w2) := below_on H1.out.2 hb2
 clear hb2 H1
 go_wp2_with fail
 go_ret
 exact ⟨by rw [HN.out]; rfl, H2.out⟩
end Go.Proofs.YtjgbmnhoajiabaaGreatDoor
