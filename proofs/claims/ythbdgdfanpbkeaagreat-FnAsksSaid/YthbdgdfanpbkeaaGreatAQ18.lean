/-
  Texts of the proof.
-/
import Derived.Lib.LaidU8
import Derived.Laws.Rows
import Derived.WalkKit
import Derived.Test.YthbdgdfanpbkeaaGreatAQ10
import Derived.Test.YthbdgdfanpbkeaaGreatAQ17
set_option maxRecDepth 100000
set_option maxHeartbeats 25600000
namespace Go.Proofs.YthbdgdfanpbkeaaGreat
open Go.RowKit
def byN (n : Nat) : List UInt8 := if _h : n = 0 then [] else UInt8.ofNat (n % 256) :: byN (n / 256)
def byI (x : Int) : List UInt8 := byN x.toNat
theorem byI_zero {x : Int} (h : x <= 0) : byI x = [] := by
 unfold byI
 rw [show x.toNat = 0 by omega, byN, dif_pos rfl]
theorem byI_step {x : Int} (h : 0 < x) : byI x = UInt8.ofNat (x % 256).toNat :: byI (x / 256) := by
 unfold byI
 rw [byN, dif_neg (by omega)]
 congr 1
 ·congr 1
  omega
 ·congr 1
  omega
theorem byI_len {x : Int} : ∀ {k : Nat}, x < 256 ^ k -> (byI x).length <= k := by
 intro k
 induction k generalizing x with
 | zero => intro h; rw [byI_zero (by simp at h; omega)]; simp
 | succ k ih =>
  intro h
  by_cases h0 : 0 < x
  ·rw [byI_step h0, List.length_cons]
   have := ih (x := x / 256) (by rw [Int.pow_succ] at h; omega)
   omega
  ·rw [byI_zero (by omega)]; simp
theorem digs_low {y : Int} (h : 0 <= y) (h2 : y < 10000) : (digs y).getD 0 0 = y := by
 by_cases h0 : 0 < y
 ·rw [digs_step h0]
  simp
  omega
 ·rw [digs_neg (by omega)]
  simp
  omega
theorem digs_pos_len {x : Int} (h : 0 < x) : 0 < (digs x).length := digs_ne h
theorem cellB_int {y : Int} (h : 0 <= y) (h2 : y < 256) : cellB (UInt8.ofNat y.toNat) = .int .u8 y := by
 rw [cellB_of (by omega)]
 congr 1
 omega
theorem rev_text (b : UInt8) (l : List UInt8) : (⟨#[b]⟩ : ByteArray) ++ ⟨l.reverse.toArray⟩ = ⟨(l ++ [b]).reverse.toArray⟩ := by
 apply ByteArray.ext
 simp
def txtL (l : List Int) : ByteArray := if okL l = true then ⟨(byI (ev l)).reverse.toArray⟩ else ByteArray.empty
theorem specText_any (a : Value) (la : List Int) (w : World) (hl : la.length <= 10000000) (wa : Wd la) (ha : IntAt w a la) :
  Calls Tryz.prog 102 #[a] w fun e w' => e = .returned (.string (txtL la)) /\ Below w.heap.size w w' := by
 have HX : Hid (IntAt w a la /\ Wd la) := ⟨ha, wa⟩
 obtain ⟨ao, ac, hae, HA0⟩ := ha
 subst hae
 clear HA0 wa
 go_enter Tryz.func102, Tryz.ntmps102
 go_wp2_with fail
 refine (specOk_any _ la w hl HX.out.1 HX.out.2).mono ?_
 rintro e w1 ⟨rfl, hb1⟩
 have HX1 : Hid (IntAt w1 (.slice ao la.length ac) la /\ Below w.heap.size w w1) := ⟨HX.out.1.below hb1, hb1⟩
 clear hb1
 rcases h : okL la with _ | _
 ·have he : txtL la = ByteArray.empty := by unfold txtL; rw [h]; simp
  have HE : Hid (txtL la = ByteArray.empty) := he
  clear he
  go_wp2_with fail
  go_ret
  exact ⟨congrArg (fun z => Ending.returned (Value.string z)) HE.out.symm, HX1.out.2⟩
 ·have ok := okL_true h
  have HK : Hid (okL la = true /\ Dig la /\ Top la) := ⟨h, ok.2.1, ok.2.2⟩
  have hl40 := ok.1
  clear h ok
  go_wp2_with fail
  have HI : Hid (IntAt w1 (.slice ao la.length ac) (digs (ev la))) := by
   rw [<- eq_digs HK.out.2.1 HK.out.2.2]
   exact HX1.out.1
  have HX0 : Hid (0 <= ev la /\ ev la < 256 ^ 80) := by
   have h1 := ev_lt HK.out.2.1
   have h2 := pw_le hl40
   have h3 : (10000 : Int) ^ 40 < 256 ^ 80 := by decide
   exact ⟨ev_nonneg HK.out.2.1, by omega⟩
  go_loopg [0, 3] (byI (ev la)).length (fun gk lv sv wr => ∃ (x : Int) (l : List UInt8), 0 <= x /\ sv = .string ⟨l.reverse.toArray⟩ /\ Hid (x <= ev la /\ l ++ byI x = byI (ev la) /\ (byI x).length = gk /\ IntAt wr lv (digs x) /\ Below w.heap.size w wr))
  case atStart => exact ⟨ev la, [], HX0.out.1, rfl, Int.le_refl _, rfl, rfl, HI.out, HX1.out.2⟩
  case round =>
   obtain ⟨x, l, hx0, rfl, H⟩ := hrel
   clear HI
   obtain ⟨lo, lc, hle, _⟩ := H.out.2.2.2.1
   subst hle
   have hdl : (digs x).length <= 40 := by
    have h1 := ev_lt HK.out.2.1
    have h2 := pw_le hl40
    have h3 := H.out.1
    exact digs_len hx0 (by omega)
   have hll : l.length <= 80 := by
    have h1 := byI_len HX0.out.2
    have h2 := congrArg List.length H.out.2.1
    rw [List.length_append] at h2
    omega
   by_cases hx : x = 0
   ·have hl0 : (digs x).length = 0 := by rw [hx, digs_zero]; rfl
    have hlt : ¬ (0 : Int) < ((digs x).length : Int) := by omega
    have HE : Hid (txtL la = ⟨l.reverse.toArray⟩ /\ Below w.heap.size w wr) := by
     have h := H.out.2.1
     rw [hx, byI_zero (Int.le_refl _), List.append_nil] at h
     refine ⟨?_, H.out.2.2.2.2⟩
     unfold txtL
     rw [if_pos HK.out.1, h]
    clear hl0 hx H
    go_wp2_with fail
    go_ret
    exact ⟨congrArg (fun z => Ending.returned (Value.string z)) HE.out.1.symm, HE.out.2⟩
   ·have hxp : 0 < x := by omega
    have hlp := digs_pos_len hxp
    have hlt : (0 : Int) < ((digs x).length : Int) := by omega
    have ha := (Below.refl wr.heap.size wr).alloc (Nat.le_refl _) (Obj.cells #[Value.int IntKind.i64 256] 3)
    have hlit : OwnI (wr.alloc (Obj.cells #[Value.int IntKind.i64 256] 3)) wr.heap.size (.slice (some ⟨wr.heap.size, 0, none⟩) 1 1) [256] := World.ownsRow_lit wr #[Value.int .i64 256] 1 (Nat.le_refl _) (by unfold maxLen; omega) rfl
    have EO := specDiv0_any (.slice lo (digs x).length lc) (.slice (some ⟨wr.heap.size, 0, none⟩) 1 1) (digs x) [256] (wr.alloc (Obj.cells #[Value.int IntKind.i64 256] 3)) (by omega) (by simp) (dig_digs x) (by intro y hy; simp at hy; omega) (by intro _; simp) (by simp) (H.out.2.2.2.1.below ha) hlit.at
    rw [ev_digs hx0, show ev [256] = 256 by simp [ev]] at EO
    have HA : Hid (Below wr.heap.size wr (wr.alloc (Obj.cells #[Value.int IntKind.i64 256] 3))) := ha
    clear hlit ha
    go_wp2_with fail
    refine EO.mono ?_
    rintro e w2 ⟨v2, r2, rfl, ho2, hp2, hb2⟩
    have HW2 : Hid (OwnI w2 wr.heap.size v2 (digs (x / 256)) /\ OwnI w2 wr.heap.size r2 (digs (x % 256)) /\ Below wr.heap.size wr w2) := ⟨ho2.base HA.out.size, hp2.base HA.out.size, below_go HA.out hb2⟩
    clear EO ho2 hp2 hb2 HA
    have hr0 : 0 <= x % 256 := by omega
    have hr1 : x % 256 < 256 := by omega
    have HM : Hid (x / 256 <= ev la /\ (l ++ [UInt8.ofNat (x % 256).toNat]) ++ byI (x / 256) = byI (ev la) /\ (byI (x / 256)).length < (byI x).length /\ cellB (UInt8.ofNat (x % 256).toNat) = .int .u8 (x % 256) /\ (byI x).length = gk /\ Below w.heap.size w w2) := by
     have h1 := H.out.1
     have h2 := H.out.2.1
     have h5 := H.out.2.2.1
     rw [byI_step hxp] at h2 h5 |-
     exact ⟨by omega, by rw [List.append_assoc]; exact h2, by simp, cellB_int hr0 hr1, h5, below_go H.out.2.2.2.2 HW2.out.2.2⟩
    clear H
    obtain ⟨ro, rc, hre, hrs, _⟩ := HW2.out.2.1.shape
    have HRS : Hid (0 < (digs (x % 256)).length -> ∃ g, ro = some ⟨g, 0, none⟩) := hrs
    subst hre
    clear hrs
    have hwx : IntKind.u8.wrap (x % 256) = x % 256 := by rw [IntKind.wrap]; simp [IntKind.signed, IntKind.bits]
    by_cases hr : x % 256 = 0
    ·have hq : ¬ (0 : Int) < ((digs (x % 256)).length : Int) := by rw [hr, digs_zero]; decide
     have hcv : (convert 22 9 (.slice (some ⟨w2.heap.size, 0, none⟩) 1 1)).run Tryz.prog (w2.alloc (Obj.cells #[Value.int IntKind.u8 (0)] 5)) = .ok (.string ⟨[UInt8.ofNat (x % 256).toNat].toArray⟩) (w2.alloc (Obj.cells #[Value.int IntKind.u8 (0)] 5)) := by
      refine conv_own (base := w2.heap.size) (n := 1) ?_
      have h := World.ownsRow_lit (base := w2.heap.size) (e := 5) (size := 1) w2 #[Value.int .u8 (0)] 1 (Nat.le_refl _) (by unfold maxLen; omega) rfl
      have e : [UInt8.ofNat (x % 256).toNat].map cellB = (#[Value.int IntKind.u8 (0)] : Array Value).toList := by rw [List.map_singleton, HM.out.2.2.2.1]; simp [hr]
      rw [e]
      exact h
     clear hr
     go_wp2_with fail
     go_roundg ((byI (x / 256)).length)
     case measure => have h1 := HM.out.2.2.1; rw [HM.out.2.2.2.2.1] at h1; exact h1
     case rel => exact ⟨x / 256, l ++ [UInt8.ofNat (x % 256).toNat], by omega, by rw [rev_text], HM.out.1, HM.out.2.1, rfl, (HW2.out.1.stays ((Below.refl _ _).alloc (Nat.le_refl _) _)).at, HM.out.2.2.2.2.2.alloc HM.out.2.2.2.2.2.size _⟩
    ·have hrl := digs_pos_len (show 0 < x % 256 by omega)
     have hq : (0 : Int) < ((digs (x % 256)).length : Int) := by omega
     obtain ⟨gr, hro⟩ := HRS.out hrl
     subst hro
     have hur := HW2.out.2.1.cell (j := 0) hrl
     rw [digs_low hr0 (by omega)] at hur
     have hcv : (convert 22 9 (.slice (some ⟨w2.heap.size, 0, none⟩) 1 1)).run Tryz.prog (w2.alloc (Obj.cells #[Value.int IntKind.u8 (x % 256)] 5)) = .ok (.string ⟨[UInt8.ofNat (x % 256).toNat].toArray⟩) (w2.alloc (Obj.cells #[Value.int IntKind.u8 (x % 256)] 5)) := by
      refine conv_own (base := w2.heap.size) (n := 1) ?_
      have h := World.ownsRow_lit (base := w2.heap.size) (e := 5) (size := 1) w2 #[Value.int .u8 (x % 256)] 1 (Nat.le_refl _) (by unfold maxLen; omega) rfl
      have e : [UInt8.ofNat (x % 256).toNat].map cellB = (#[Value.int IntKind.u8 (x % 256)] : Array Value).toList := by rw [List.map_singleton, HM.out.2.2.2.1]
      rw [e]
      exact h
     go_wp2_with fail
     go_roundg ((byI (x / 256)).length)
     case measure => have h1 := HM.out.2.2.1; rw [HM.out.2.2.2.2.1] at h1; exact h1
     case rel => exact ⟨x / 256, l ++ [UInt8.ofNat (x % 256).toNat], by omega, by rw [rev_text], HM.out.1, HM.out.2.1, rfl, (HW2.out.1.stays ((Below.refl _ _).alloc (Nat.le_refl _) _)).at, HM.out.2.2.2.2.2.alloc HM.out.2.2.2.2.2.size _⟩
def pubF : Nat -> List UInt8
 | 0 => [49, 49, 50, 54, 56, 52, 50, 52, 56, 50, 50, 57, 52, 55, 55, 53, 51, 48, 56, 49, 57, 53, 54, 57, 52, 54, 50, 51, 51, 48, 56, 50, 52, 48, 53, 57, 55]
 | 1 => [49, 50, 52, 55, 57, 56, 49, 54, 53, 53, 52, 50, 51, 53, 51, 50, 49, 53, 52, 48, 57, 50, 53, 53, 52, 56, 54, 51, 56, 56, 56, 56, 57, 55, 50, 48, 57]
 | 2 => [49, 49, 52, 56, 54, 56, 54, 51, 50, 48, 48, 50, 57, 57, 54, 55, 55, 54, 53, 49, 55, 52, 50, 53, 54, 55, 48, 52, 54, 56, 52, 51, 53, 48, 49, 49, 49]
 | 3 => [49, 48, 52, 49, 54, 57, 49, 55, 51, 56, 57, 54, 51, 57, 50, 48, 52, 52, 48, 51, 50, 51, 57, 49, 49, 48, 55, 56, 50, 53, 57, 51, 49, 54, 48, 51, 57]
 | 4 => [49, 49, 56, 56, 50, 52, 52, 51, 56, 51, 50, 57, 56, 53, 50, 56, 55, 53, 52, 52, 55, 57, 57, 55, 51, 54, 53, 50, 50, 49, 54, 53, 52, 55, 56, 55, 55]
 | 5 => [49, 48, 55, 53, 49, 55, 48, 53, 51, 48, 57, 52, 53, 51, 54, 56, 54, 49, 55, 53, 49, 56, 55, 55, 49, 52, 54, 54, 55, 56, 56, 55, 56, 53, 56, 49, 51]
 | _ => []
def secF : Nat -> List UInt8
 | 0 => [54, 50, 55, 48, 56, 49, 57, 56, 54, 56, 52, 51, 54, 53, 55, 48, 50, 49, 48, 51, 56, 49, 48, 51, 48, 52, 54, 56, 51, 50, 49, 57, 48, 48, 56, 49]
 | 1 => [50, 51, 53, 57, 55, 51, 51, 57, 57, 51, 54, 50, 51, 50, 48, 54, 56, 48, 51, 49, 53, 50, 57, 57, 49, 54, 55, 51, 54, 51, 49, 53, 57, 55, 49, 51]
 | 2 => [50, 56, 49, 48, 51, 50, 54, 52, 52, 57, 57, 57, 57, 51, 49, 51, 56, 51, 57, 56, 55, 55, 57, 54, 56, 52, 57, 51, 48, 48, 48, 57, 55, 48, 53, 55]
 | 3 => [53, 52, 55, 48, 49, 54, 53, 49, 50, 55, 53, 53, 50, 56, 56, 49, 56, 54, 53, 55, 48, 49, 57, 48, 50, 56, 53, 49, 57, 54, 56, 57, 51, 53, 53, 51]
 | 4 => [54, 56, 53, 49, 54, 54, 52, 55, 52, 53, 56, 52, 54, 48, 55, 49, 57, 50, 49, 49, 48, 52, 57, 48, 54, 52, 53, 50, 57, 50, 50, 53, 48, 55, 57, 51]
 | 5 => [57, 54, 48, 50, 49, 54, 56, 52, 50, 48, 51, 49, 55, 49, 51, 55, 54, 53, 54, 56, 54, 57, 48, 51, 54, 56, 51, 49, 54, 49, 49, 57, 50, 57, 51]
 | _ => []
def pubT (i : Int) : ByteArray := if 0 <= i /\ i < 6 then ⟨(pubF i.toNat).toArray⟩ else ByteArray.empty
def secT (i : Int) : ByteArray := if 0 <= i /\ i < 6 then ⟨(secF i.toNat).toArray⟩ else ByteArray.empty
theorem pubT_no {i : Int} (h : ¬ (0 <= i /\ i < 6)) : pubT i = ByteArray.empty := if_neg h
theorem secT_no {i : Int} (h : ¬ (0 <= i /\ i < 6)) : secT i = ByteArray.empty := if_neg h
theorem pubT_at {i : Nat} (h : i < 6) : pubT (i : Int) = ⟨(pubF i).toArray⟩ := by unfold pubT; rw [if_pos (by omega), Int.toNat_natCast]
theorem secT_at {i : Nat} (h : i < 6) : secT (i : Int) = ⟨(secF i).toArray⟩ := by unfold secT; rw [if_pos (by omega), Int.toNat_natCast]
theorem pubT_size (i : Int) : (pubT i).size <= 37 := by
 by_cases h : 0 <= i /\ i < 6
 ·obtain ⟨n, rfl⟩ : ∃ n : Nat, i = (n : Int) := ⟨i.toNat, by omega⟩
  rw [pubT_at (by omega)]
  match n, h with
  | 0, _ => decide
  | 1, _ => decide
  | 2, _ => decide
  | 3, _ => decide
  | 4, _ => decide
  | 5, _ => decide
  | n + 6, h => omega
 ·rw [pubT_no h]; decide
theorem secT_size (i : Int) : (secT i).size <= 37 := by
 by_cases h : 0 <= i /\ i < 6
 ·obtain ⟨n, rfl⟩ : ∃ n : Nat, i = (n : Int) := ⟨i.toNat, by omega⟩
  rw [secT_at (by omega)]
  match n, h with
  | 0, _ => decide
  | 1, _ => decide
  | 2, _ => decide
  | 3, _ => decide
  | 4, _ => decide
  | 5, _ => decide
  | n + 6, h => omega
 ·rw [secT_no h]; decide
theorem figL_of {l : List UInt8} {vs : List Nat} {n : Nat} (h : l.length <= 140) (hv : fvals 10 l = some vs) (hn : horn 10 (vs.map fun x : Nat => (x : Int)) = (n : Int)) : figL ⟨l.toArray⟩ = digs (n : Int) := by
 unfold figL
 rw [if_pos (by show l.toArray.size <= 140; simpa using h)]
 show (match fvals 10 l.toArray.toList with | some vs => digs (horn 10 (vs.map fun x : Nat => (x : Int))) | none => []) = _
 rw [show l.toArray.toList = l by simp, hv]
 show digs (horn 10 (vs.map fun x : Nat => (x : Int))) = _
 rw [hn]
theorem figL_empty : figL ByteArray.empty = [] := by
 have h := figL_of (l := []) (vs := []) (n := 0) (by decide) rfl (by decide)
 have e : (⟨([] : List UInt8).toArray⟩ : ByteArray) = ByteArray.empty := rfl
 rw [e] at h
 rw [h]
 exact digs_neg (by decide)
def pubB (i : Int) : ByteArray := txtL (figL (pubT i))
def secL (i : Int) : List Int := figL (secT i)
theorem figL_wd (s : ByteArray) : Wd (figL s) := by
 unfold figL
 split
 ·split
  ·exact (dig_digs _).wd
  ·exact fun x hx => by simp at hx
 ·exact fun x hx => by simp at hx
theorem below_on {a b c : World} (h1 : Below a.heap.size a b) (h2 : Below b.heap.size b c) : Below a.heap.size a c := h1.trans (h2.mono h1.size)
theorem alloc_more0 (w : World) (o : Obj) : w.heap.size < (w.alloc o).heap.size := by
 show w.heap.size < (w.heap.push o).size
 rw [Array.size_push]
 exact Nat.lt_succ_self _
theorem alloc_two (w : World) (cs : Array Value) (t : TypeId) : OwnI ((w.alloc (Obj.cells cs t)).alloc (Obj.cells #[] 3)) w.heap.size (.slice (some ⟨w.heap.size + 1, 0, none⟩) 0 0) [] := by
 have h := OwnI.empty (w.alloc (Obj.cells cs t)) (base := w.heap.size) (Nat.le_of_lt (alloc_more0 w _))
 rw [show (w.alloc (Obj.cells cs t)).heap.size = w.heap.size + 1 from Array.size_push _] at h
 exact h
theorem alloc_at (w : World) (cs : Array Value) (t : TypeId) (n : Nat) : (w.alloc (Obj.cells cs t)).cell? ⟨w.heap.size, n, none⟩ = cs[n]? := by
 simp only [World.cell?, heap_alloc_new]
 rfl
theorem pub_lit {n : Nat} (h : n < 6) : (#[Value.string { data := #[49, 49, 50, 54, 56, 52, 50, 52, 56, 50, 50, 57, 52, 55, 55, 53, 51, 48, 56, 49, 57, 53, 54, 57, 52, 54, 50, 51, 51, 48, 56, 50, 52, 48, 53, 57, 55] }, Value.string { data := #[49, 50, 52, 55, 57, 56, 49, 54, 53, 53, 52, 50, 51, 53, 51, 50, 49, 53, 52, 48, 57, 50, 53, 53, 52, 56, 54, 51, 56, 56, 56, 56, 57, 55, 50, 48, 57] }, Value.string { data := #[49, 49, 52, 56, 54, 56, 54, 51, 50, 48, 48, 50, 57, 57, 54, 55, 55, 54, 53, 49, 55, 52, 50, 53, 54, 55, 48, 52, 54, 56, 52, 51, 53, 48, 49, 49, 49] }, Value.string { data := #[49, 48, 52, 49, 54, 57, 49, 55, 51, 56, 57, 54, 51, 57, 50, 48, 52, 52, 48, 51, 50, 51, 57, 49, 49, 48, 55, 56, 50, 53, 57, 51, 49, 54, 48, 51, 57] }, Value.string { data := #[49, 49, 56, 56, 50, 52, 52, 51, 56, 51, 50, 57, 56, 53, 50, 56, 55, 53, 52, 52, 55, 57, 57, 55, 51, 54, 53, 50, 50, 49, 54, 53, 52, 55, 56, 55, 55] }, Value.string { data := #[49, 48, 55, 53, 49, 55, 48, 53, 51, 48, 57, 52, 53, 51, 54, 56, 54, 49, 55, 53, 49, 56, 55, 55, 49, 52, 54, 54, 55, 56, 56, 55, 56, 53, 56, 49, 51] }] : Array Value)[n]? = some (.string ⟨(pubF n).toArray⟩) := by
 match n, h with
 | 0, _ => rfl
 | 1, _ => rfl
 | 2, _ => rfl
 | 3, _ => rfl
 | 4, _ => rfl
 | 5, _ => rfl
theorem specPub_any (i : Int) (w : World) (hi : -9223372036854775808 <= i /\ i <= 9223372036854775807) : Calls Tryz.prog 103 #[.int .i64 i] w fun e w' => ∃ v, e = .returned v /\ OwnI w' w.heap.size v (figL (pubT i)) /\ Below w.heap.size w w' := by
 by_cases h : 0 <= i /\ i < 6
 ·have HN : Hid (figL (pubT i) = figL (pubT i)) := rfl
  obtain ⟨n, rfl⟩ : ∃ n : Nat, i = (n : Int) := ⟨i.toNat, by omega⟩
  have hn : n < 6 := by omega
  have hcell := (alloc_at w #[Value.string { data := #[49, 49, 50, 54, 56, 52, 50, 52, 56, 50, 50, 57, 52, 55, 55, 53, 51, 48, 56, 49, 57, 53, 54, 57, 52, 54, 50, 51, 51, 48, 56, 50, 52, 48, 53, 57, 55] }, Value.string { data := #[49, 50, 52, 55, 57, 56, 49, 54, 53, 53, 52, 50, 51, 53, 51, 50, 49, 53, 52, 48, 57, 50, 53, 53, 52, 56, 54, 51, 56, 56, 56, 56, 57, 55, 50, 48, 57] }, Value.string { data := #[49, 49, 52, 56, 54, 56, 54, 51, 50, 48, 48, 50, 57, 57, 54, 55, 55, 54, 53, 49, 55, 52, 50, 53, 54, 55, 48, 52, 54, 56, 52, 51, 53, 48, 49, 49, 49] }, Value.string { data := #[49, 48, 52, 49, 54, 57, 49, 55, 51, 56, 57, 54, 51, 57, 50, 48, 52, 52, 48, 51, 50, 51, 57, 49, 49, 48, 55, 56, 50, 53, 57, 51, 49, 54, 48, 51, 57] }, Value.string { data := #[49, 49, 56, 56, 50, 52, 52, 51, 56, 51, 50, 57, 56, 53, 50, 56, 55, 53, 52, 52, 55, 57, 57, 55, 51, 54, 53, 50, 50, 49, 54, 53, 52, 55, 56, 55, 55] }, Value.string { data := #[49, 48, 55, 53, 49, 55, 48, 53, 51, 48, 57, 52, 53, 51, 54, 56, 54, 49, 55, 53, 49, 56, 55, 55, 49, 52, 54, 54, 55, 56, 56, 55, 56, 53, 56, 49, 51] }] 9 n).trans (pub_lit hn)
  have HZ : Hid ((pubT (n : Int)).size <= 37) := pubT_size _
  rw [<- pubT_at hn] at hcell
  have HB : Hid (Below w.heap.size w (w.alloc (Obj.cells #[Value.string { data := #[49, 49, 50, 54, 56, 52, 50, 52, 56, 50, 50, 57, 52, 55, 55, 53, 51, 48, 56, 49, 57, 53, 54, 57, 52, 54, 50, 51, 51, 48, 56, 50, 52, 48, 53, 57, 55] }, Value.string { data := #[49, 50, 52, 55, 57, 56, 49, 54, 53, 53, 52, 50, 51, 53, 51, 50, 49, 53, 52, 48, 57, 50, 53, 53, 52, 56, 54, 51, 56, 56, 56, 56, 57, 55, 50, 48, 57] }, Value.string { data := #[49, 49, 52, 56, 54, 56, 54, 51, 50, 48, 48, 50, 57, 57, 54, 55, 55, 54, 53, 49, 55, 52, 50, 53, 54, 55, 48, 52, 54, 56, 52, 51, 53, 48, 49, 49, 49] }, Value.string { data := #[49, 48, 52, 49, 54, 57, 49, 55, 51, 56, 57, 54, 51, 57, 50, 48, 52, 52, 48, 51, 50, 51, 57, 49, 49, 48, 55, 56, 50, 53, 57, 51, 49, 54, 48, 51, 57] }, Value.string { data := #[49, 49, 56, 56, 50, 52, 52, 51, 56, 51, 50, 57, 56, 53, 50, 56, 55, 53, 52, 52, 55, 57, 57, 55, 51, 54, 53, 50, 50, 49, 54, 53, 52, 55, 56, 55, 55] }, Value.string { data := #[49, 48, 55, 53, 49, 55, 48, 53, 51, 48, 57, 52, 53, 51, 54, 56, 54, 49, 55, 53, 49, 56, 55, 55, 49, 52, 54, 54, 55, 56, 56, 55, 56, 53, 56, 49, 51] }] 9))) := (Below.refl _ _).alloc (Nat.le_refl _) _
  generalize pubT (n : Int) = T at *
  have hn0 : (0 : Int) <= (n : Int) := by omega
  have hn6 : (n : Int) < 6 := by omega
  go_enter Tryz.func103, Tryz.ntmps103
  go_wp2_with fail
  refine (in_yes (n : Int) 0 5 _ (by omega) (by omega)).mono ?_
  rintro e w' ⟨rfl, rfl⟩
  go_wp2_with fail
  refine (specFig_any T _ (by have := HZ.out; omega)).mono ?_
  rintro e w2 ⟨v, rfl, ho2, hb2⟩
  have H2 : Hid (OwnI w2 w.heap.size v (figL T) /\ Below w.heap.size w w2) := ⟨ho2.base HB.out.size, below_on HB.out hb2⟩
  clear ho2 hb2 HB hcell
  go_wp2_with fail
  go_ret
  exact ⟨_, rfl, by first | exact H2.out.1 | (rw [HN.out]; exact H2.out.1), H2.out.2⟩
 ·have HN : Hid (figL (pubT i) = []) := by
   show figL (pubT i) = []
   rw [pubT_no h, figL_empty]
  have HB : Hid (Below w.heap.size w (w.alloc (Obj.cells #[Value.string { data := #[49, 49, 50, 54, 56, 52, 50, 52, 56, 50, 50, 57, 52, 55, 55, 53, 51, 48, 56, 49, 57, 53, 54, 57, 52, 54, 50, 51, 51, 48, 56, 50, 52, 48, 53, 57, 55] }, Value.string { data := #[49, 50, 52, 55, 57, 56, 49, 54, 53, 53, 52, 50, 51, 53, 51, 50, 49, 53, 52, 48, 57, 50, 53, 53, 52, 56, 54, 51, 56, 56, 56, 56, 57, 55, 50, 48, 57] }, Value.string { data := #[49, 49, 52, 56, 54, 56, 54, 51, 50, 48, 48, 50, 57, 57, 54, 55, 55, 54, 53, 49, 55, 52, 50, 53, 54, 55, 48, 52, 54, 56, 52, 51, 53, 48, 49, 49, 49] }, Value.string { data := #[49, 48, 52, 49, 54, 57, 49, 55, 51, 56, 57, 54, 51, 57, 50, 48, 52, 52, 48, 51, 50, 51, 57, 49, 49, 48, 55, 56, 50, 53, 57, 51, 49, 54, 48, 51, 57] }, Value.string { data := #[49, 49, 56, 56, 50, 52, 52, 51, 56, 51, 50, 57, 56, 53, 50, 56, 55, 53, 52, 52, 55, 57, 57, 55, 51, 54, 53, 50, 50, 49, 54, 53, 52, 55, 56, 55, 55] }, Value.string { data := #[49, 48, 55, 53, 49, 55, 48, 53, 51, 48, 57, 52, 53, 51, 54, 56, 54, 49, 55, 53, 49, 56, 55, 55, 49, 52, 54, 54, 55, 56, 56, 55, 56, 53, 56, 49, 51] }] 9))) := (Below.refl _ _).alloc (Nat.le_refl _) _
  have HO : Hid (OwnI ((w.alloc (Obj.cells #[Value.string { data := #[49, 49, 50, 54, 56, 52, 50, 52, 56, 50, 50, 57, 52, 55, 55, 53, 51, 48, 56, 49, 57, 53, 54, 57, 52, 54, 50, 51, 51, 48, 56, 50, 52, 48, 53, 57, 55] }, Value.string { data := #[49, 50, 52, 55, 57, 56, 49, 54, 53, 53, 52, 50, 51, 53, 51, 50, 49, 53, 52, 48, 57, 50, 53, 53, 52, 56, 54, 51, 56, 56, 56, 56, 57, 55, 50, 48, 57] }, Value.string { data := #[49, 49, 52, 56, 54, 56, 54, 51, 50, 48, 48, 50, 57, 57, 54, 55, 55, 54, 53, 49, 55, 52, 50, 53, 54, 55, 48, 52, 54, 56, 52, 51, 53, 48, 49, 49, 49] }, Value.string { data := #[49, 48, 52, 49, 54, 57, 49, 55, 51, 56, 57, 54, 51, 57, 50, 48, 52, 52, 48, 51, 50, 51, 57, 49, 49, 48, 55, 56, 50, 53, 57, 51, 49, 54, 48, 51, 57] }, Value.string { data := #[49, 49, 56, 56, 50, 52, 52, 51, 56, 51, 50, 57, 56, 53, 50, 56, 55, 53, 52, 52, 55, 57, 57, 55, 51, 54, 53, 50, 50, 49, 54, 53, 52, 55, 56, 55, 55] }, Value.string { data := #[49, 48, 55, 53, 49, 55, 48, 53, 51, 48, 57, 52, 53, 51, 54, 56, 54, 49, 55, 53, 49, 56, 55, 55, 49, 52, 54, 54, 55, 56, 56, 55, 56, 53, 56, 49, 51] }] 9)).alloc (Obj.cells #[] 3)) w.heap.size (.slice (some ⟨w.heap.size + 1, 0, none⟩) 0 0) []) := alloc_two w _ _
  have hno : ¬ (0 <= i /\ i <= 5) := by omega
  go_enter Tryz.func103, Tryz.ntmps103
  go_wp2_with fail
  refine (in_no i 0 5 _ (by omega)).mono ?_
  rintro e w' ⟨rfl, rfl⟩
  go_wp2_with fail
  go_ret
  exact ⟨_, rfl, by rw [HN.out]; exact HO.out, HB.out.alloc HB.out.size _⟩
theorem sec_lit {n : Nat} (h : n < 6) : (#[Value.string { data := #[54, 50, 55, 48, 56, 49, 57, 56, 54, 56, 52, 51, 54, 53, 55, 48, 50, 49, 48, 51, 56, 49, 48, 51, 48, 52, 54, 56, 51, 50, 49, 57, 48, 48, 56, 49] }, Value.string { data := #[50, 51, 53, 57, 55, 51, 51, 57, 57, 51, 54, 50, 51, 50, 48, 54, 56, 48, 51, 49, 53, 50, 57, 57, 49, 54, 55, 51, 54, 51, 49, 53, 57, 55, 49, 51] }, Value.string { data := #[50, 56, 49, 48, 51, 50, 54, 52, 52, 57, 57, 57, 57, 51, 49, 51, 56, 51, 57, 56, 55, 55, 57, 54, 56, 52, 57, 51, 48, 48, 48, 57, 55, 48, 53, 55] }, Value.string { data := #[53, 52, 55, 48, 49, 54, 53, 49, 50, 55, 53, 53, 50, 56, 56, 49, 56, 54, 53, 55, 48, 49, 57, 48, 50, 56, 53, 49, 57, 54, 56, 57, 51, 53, 53, 51] }, Value.string { data := #[54, 56, 53, 49, 54, 54, 52, 55, 52, 53, 56, 52, 54, 48, 55, 49, 57, 50, 49, 49, 48, 52, 57, 48, 54, 52, 53, 50, 57, 50, 50, 53, 48, 55, 57, 51] }, Value.string { data := #[57, 54, 48, 50, 49, 54, 56, 52, 50, 48, 51, 49, 55, 49, 51, 55, 54, 53, 54, 56, 54, 57, 48, 51, 54, 56, 51, 49, 54, 49, 49, 57, 50, 57, 51] }] : Array Value)[n]? = some (.string ⟨(secF n).toArray⟩) := by
 match n, h with
 | 0, _ => rfl
 | 1, _ => rfl
 | 2, _ => rfl
 | 3, _ => rfl
 | 4, _ => rfl
 | 5, _ => rfl
theorem specSecret_any (i : Int) (w : World) (hi : -9223372036854775808 <= i /\ i <= 9223372036854775807) : Calls Tryz.prog 113 #[.int .i64 i] w fun e w' => ∃ v, e = .returned v /\ OwnI w' w.heap.size v (secL i) /\ Below w.heap.size w w' := by
 by_cases h : 0 <= i /\ i < 6
 ·have HN : Hid (secL i = figL (secT i)) := rfl
  obtain ⟨n, rfl⟩ : ∃ n : Nat, i = (n : Int) := ⟨i.toNat, by omega⟩
  have hn : n < 6 := by omega
  have hcell := (alloc_at w #[Value.string { data := #[54, 50, 55, 48, 56, 49, 57, 56, 54, 56, 52, 51, 54, 53, 55, 48, 50, 49, 48, 51, 56, 49, 48, 51, 48, 52, 54, 56, 51, 50, 49, 57, 48, 48, 56, 49] }, Value.string { data := #[50, 51, 53, 57, 55, 51, 51, 57, 57, 51, 54, 50, 51, 50, 48, 54, 56, 48, 51, 49, 53, 50, 57, 57, 49, 54, 55, 51, 54, 51, 49, 53, 57, 55, 49, 51] }, Value.string { data := #[50, 56, 49, 48, 51, 50, 54, 52, 52, 57, 57, 57, 57, 51, 49, 51, 56, 51, 57, 56, 55, 55, 57, 54, 56, 52, 57, 51, 48, 48, 48, 57, 55, 48, 53, 55] }, Value.string { data := #[53, 52, 55, 48, 49, 54, 53, 49, 50, 55, 53, 53, 50, 56, 56, 49, 56, 54, 53, 55, 48, 49, 57, 48, 50, 56, 53, 49, 57, 54, 56, 57, 51, 53, 53, 51] }, Value.string { data := #[54, 56, 53, 49, 54, 54, 52, 55, 52, 53, 56, 52, 54, 48, 55, 49, 57, 50, 49, 49, 48, 52, 57, 48, 54, 52, 53, 50, 57, 50, 50, 53, 48, 55, 57, 51] }, Value.string { data := #[57, 54, 48, 50, 49, 54, 56, 52, 50, 48, 51, 49, 55, 49, 51, 55, 54, 53, 54, 56, 54, 57, 48, 51, 54, 56, 51, 49, 54, 49, 49, 57, 50, 57, 51] }] 9 n).trans (sec_lit hn)
  have HZ : Hid ((secT (n : Int)).size <= 37) := secT_size _
  rw [<- secT_at hn] at hcell
  have HB : Hid (Below w.heap.size w (w.alloc (Obj.cells #[Value.string { data := #[54, 50, 55, 48, 56, 49, 57, 56, 54, 56, 52, 51, 54, 53, 55, 48, 50, 49, 48, 51, 56, 49, 48, 51, 48, 52, 54, 56, 51, 50, 49, 57, 48, 48, 56, 49] }, Value.string { data := #[50, 51, 53, 57, 55, 51, 51, 57, 57, 51, 54, 50, 51, 50, 48, 54, 56, 48, 51, 49, 53, 50, 57, 57, 49, 54, 55, 51, 54, 51, 49, 53, 57, 55, 49, 51] }, Value.string { data := #[50, 56, 49, 48, 51, 50, 54, 52, 52, 57, 57, 57, 57, 51, 49, 51, 56, 51, 57, 56, 55, 55, 57, 54, 56, 52, 57, 51, 48, 48, 48, 57, 55, 48, 53, 55] }, Value.string { data := #[53, 52, 55, 48, 49, 54, 53, 49, 50, 55, 53, 53, 50, 56, 56, 49, 56, 54, 53, 55, 48, 49, 57, 48, 50, 56, 53, 49, 57, 54, 56, 57, 51, 53, 53, 51] }, Value.string { data := #[54, 56, 53, 49, 54, 54, 52, 55, 52, 53, 56, 52, 54, 48, 55, 49, 57, 50, 49, 49, 48, 52, 57, 48, 54, 52, 53, 50, 57, 50, 50, 53, 48, 55, 57, 51] }, Value.string { data := #[57, 54, 48, 50, 49, 54, 56, 52, 50, 48, 51, 49, 55, 49, 51, 55, 54, 53, 54, 56, 54, 57, 48, 51, 54, 56, 51, 49, 54, 49, 49, 57, 50, 57, 51] }] 9))) := (Below.refl _ _).alloc (Nat.le_refl _) _
  generalize secT (n : Int) = T at *
  have hn0 : (0 : Int) <= (n : Int) := by omega
  have hn6 : (n : Int) < 6 := by omega
  go_enter Tryz.func113, Tryz.ntmps113
  go_wp2_with fail
  refine (in_yes (n : Int) 0 5 _ (by omega) (by omega)).mono ?_
  rintro e w' ⟨rfl, rfl⟩
  go_wp2_with fail
  refine (specFig_any T _ (by have := HZ.out; omega)).mono ?_
  rintro e w2 ⟨v, rfl, ho2, hb2⟩
  have H2 : Hid (OwnI w2 w.heap.size v (figL T) /\ Below w.heap.size w w2) := ⟨ho2.base HB.out.size, below_on HB.out hb2⟩
  clear ho2 hb2 HB hcell
  go_wp2_with fail
  go_ret
  exact ⟨_, rfl, by first | exact H2.out.1 | (rw [HN.out]; exact H2.out.1), H2.out.2⟩
 ·have HN : Hid (secL i = []) := by
   show secL i = []
   unfold secL; rw [secT_no h, figL_empty]
  have HB : Hid (Below w.heap.size w (w.alloc (Obj.cells #[Value.string { data := #[54, 50, 55, 48, 56, 49, 57, 56, 54, 56, 52, 51, 54, 53, 55, 48, 50, 49, 48, 51, 56, 49, 48, 51, 48, 52, 54, 56, 51, 50, 49, 57, 48, 48, 56, 49] }, Value.string { data := #[50, 51, 53, 57, 55, 51, 51, 57, 57, 51, 54, 50, 51, 50, 48, 54, 56, 48, 51, 49, 53, 50, 57, 57, 49, 54, 55, 51, 54, 51, 49, 53, 57, 55, 49, 51] }, Value.string { data := #[50, 56, 49, 48, 51, 50, 54, 52, 52, 57, 57, 57, 57, 51, 49, 51, 56, 51, 57, 56, 55, 55, 57, 54, 56, 52, 57, 51, 48, 48, 48, 57, 55, 48, 53, 55] }, Value.string { data := #[53, 52, 55, 48, 49, 54, 53, 49, 50, 55, 53, 53, 50, 56, 56, 49, 56, 54, 53, 55, 48, 49, 57, 48, 50, 56, 53, 49, 57, 54, 56, 57, 51, 53, 53, 51] }, Value.string { data := #[54, 56, 53, 49, 54, 54, 52, 55, 52, 53, 56, 52, 54, 48, 55, 49, 57, 50, 49, 49, 48, 52, 57, 48, 54, 52, 53, 50, 57, 50, 50, 53, 48, 55, 57, 51] }, Value.string { data := #[57, 54, 48, 50, 49, 54, 56, 52, 50, 48, 51, 49, 55, 49, 51, 55, 54, 53, 54, 56, 54, 57, 48, 51, 54, 56, 51, 49, 54, 49, 49, 57, 50, 57, 51] }] 9))) := (Below.refl _ _).alloc (Nat.le_refl _) _
  have HO : Hid (OwnI ((w.alloc (Obj.cells #[Value.string { data := #[54, 50, 55, 48, 56, 49, 57, 56, 54, 56, 52, 51, 54, 53, 55, 48, 50, 49, 48, 51, 56, 49, 48, 51, 48, 52, 54, 56, 51, 50, 49, 57, 48, 48, 56, 49] }, Value.string { data := #[50, 51, 53, 57, 55, 51, 51, 57, 57, 51, 54, 50, 51, 50, 48, 54, 56, 48, 51, 49, 53, 50, 57, 57, 49, 54, 55, 51, 54, 51, 49, 53, 57, 55, 49, 51] }, Value.string { data := #[50, 56, 49, 48, 51, 50, 54, 52, 52, 57, 57, 57, 57, 51, 49, 51, 56, 51, 57, 56, 55, 55, 57, 54, 56, 52, 57, 51, 48, 48, 48, 57, 55, 48, 53, 55] }, Value.string { data := #[53, 52, 55, 48, 49, 54, 53, 49, 50, 55, 53, 53, 50, 56, 56, 49, 56, 54, 53, 55, 48, 49, 57, 48, 50, 56, 53, 49, 57, 54, 56, 57, 51, 53, 53, 51] }, Value.string { data := #[54, 56, 53, 49, 54, 54, 52, 55, 52, 53, 56, 52, 54, 48, 55, 49, 57, 50, 49, 49, 48, 52, 57, 48, 54, 52, 53, 50, 57, 50, 50, 53, 48, 55, 57, 51] }, Value.string { data := #[57, 54, 48, 50, 49, 54, 56, 52, 50, 48, 51, 49, 55, 49, 51, 55, 54, 53, 54, 56, 54, 57, 48, 51, 54, 56, 51, 49, 54, 49, 49, 57, 50, 57, 51] }] 9)).alloc (Obj.cells #[] 3)) w.heap.size (.slice (some ⟨w.heap.size + 1, 0, none⟩) 0 0) []) := alloc_two w _ _
  have hno : ¬ (0 <= i /\ i <= 5) := by omega
  go_enter Tryz.func113, Tryz.ntmps113
  go_wp2_with fail
  refine (in_no i 0 5 _ (by omega)).mono ?_
  rintro e w' ⟨rfl, rfl⟩
  go_wp2_with fail
  go_ret
  exact ⟨_, rfl, by rw [HN.out]; exact HO.out, HB.out.alloc HB.out.size _⟩
theorem specPublic_any (i : Int) (w : World) (hi : -9223372036854775808 <= i /\ i <= 9223372036854775807) : Calls Tryz.prog 98 #[.int .i64 i] w fun e w' => e = .returned (.string (pubB i)) /\ Below w.heap.size w w' := by
 have HN : Hid (pubB i = txtL (figL (pubT i))) := rfl
 go_enter Tryz.func98, Tryz.ntmps98
 go_wp2_with fail
 refine (specPub_any i w hi).mono ?_
 rintro e w1 ⟨v, rfl, ho1, hb1⟩
 have H1 : Hid (IntAt w1 v (figL (pubT i)) /\ Below w.heap.size w w1) := ⟨ho1.at, hb1⟩
 clear ho1 hb1
 go_wp2_with fail
 refine (specText_any v _ w1 (by have := figL_len (pubT i); omega) (figL_wd _) H1.out.1).mono ?_
 rintro e w2 ⟨rfl, hb2⟩
 have H2 : Hid (Below w.heap.size w w2) := below_on H1.out.2 hb2
 clear hb2 H1
 go_wp2_with fail
 go_ret
 exact ⟨by rw [HN.out]; rfl, H2.out⟩
end Go.Proofs.YthbdgdfanpbkeaaGreat
namespace Go.Proofs.YthbdgdfanpbkeaaGreat
def rotr (k x : Nat) : Nat := (x / 2 ^ k) ||| (x * 2 ^ (32 - k) % 4294967296)
def bigS1 (e : Nat) : Nat := rotr 6 e ^^^ rotr 11 e ^^^ rotr 25 e
def bigS0 (e : Nat) : Nat := rotr 2 e ^^^ rotr 13 e ^^^ rotr 22 e
def smS0 (e : Nat) : Nat := rotr 7 e ^^^ rotr 18 e ^^^ (e / 8)
def smS1 (e : Nat) : Nat := rotr 17 e ^^^ rotr 19 e ^^^ (e / 1024)
def chN (e f g : Nat) : Nat := (e &&& f) ^^^ ((e ^^^ 4294967295) &&& g)
def majN (a b c : Nat) : Nat := (a &&& b) ^^^ (a &&& c) ^^^ (b &&& c)
structure St where
 a : Nat
 b : Nat
 c : Nat
 d : Nat
 e : Nat
 f : Nat
 g : Nat
 h : Nat
def oneN (k w : Nat) (s : St) : Nat := (s.h + bigS1 s.e + chN s.e s.f s.g + k + w) % 4294967296
def twoN (s : St) : Nat := (bigS0 s.a + majN s.a s.b s.c) % 4294967296
def rnd (k w : Nat) (s : St) : St := ⟨(oneN k w s + twoN s) % 4294967296, s.a, s.b, s.c, (s.d + oneN k w s) % 4294967296, s.e, s.f, s.g⟩
def keysN : List Nat := [1116352408, 1899447441, 3049323471, 3921009573, 961987163, 1508970993, 2453635748, 2870763221, 3624381080, 310598401, 607225278, 1426881987, 1925078388, 2162078206, 2614888103, 3248222580, 3835390401, 4022224774, 264347078, 604807628, 770255983, 1249150122, 1555081692, 1996064986, 2554220882, 2821834349, 2952996808, 3210313671, 3336571891, 3584528711, 113926993, 338241895, 666307205, 773529912, 1294757372, 1396182291, 1695183700, 1986661051, 2177026350, 2456956037, 2730485921, 2820302411, 3259730800, 3345764771, 3516065817, 3600352804, 4094571909, 275423344, 430227734, 506948616, 659060556, 883997877, 958139571, 1322822218, 1537002063, 1747873779, 1955562222, 2024104815, 2227730452, 2361852424, 2428436474, 2756734187, 3204031479, 3329325298]
def firstN : St := ⟨1779033703, 3144134277, 1013904242, 2773480762, 1359893119, 2600822924, 528734635, 1541459225⟩
def wordOf (b : List UInt8) (i : Nat) : Nat := (b.getD (4 * i) 0).toNat * 16777216 + (b.getD (4 * i + 1) 0).toNat * 65536 + (b.getD (4 * i + 2) 0).toNat * 256 + (b.getD (4 * i + 3) 0).toNat
def wd (b : List UInt8) (i : Nat) : Nat :=
 if h : i < 16 then wordOf b i else (wd b (i - 16) + smS0 (wd b (i - 15)) + wd b (i - 7) + smS1 (wd b (i - 2))) % 4294967296
def rounds (b : List UInt8) : Nat -> St -> St
 | 0, s => s
 | n + 1, s => rnd (keysN.getD n 0) (wd b n) (rounds b n s)
def addSt (s t : St) : St := ⟨(s.a + t.a) % 4294967296, (s.b + t.b) % 4294967296, (s.c + t.c) % 4294967296, (s.d + t.d) % 4294967296, (s.e + t.e) % 4294967296, (s.f + t.f) % 4294967296, (s.g + t.g) % 4294967296, (s.h + t.h) % 4294967296⟩
def blockN (s : St) (b : List UInt8) : St := addSt s (rounds b 64 s)
def blocksN (s : St) (p : List UInt8) : Nat -> St
 | 0 => s
 | n + 1 => blockN (blocksN s p n) ((p.drop (64 * n)).take 64)
def St.ok (s : St) : Prop := s.a < 4294967296 /\ s.b < 4294967296 /\ s.c < 4294967296 /\ s.d < 4294967296 /\ s.e < 4294967296 /\ s.f < 4294967296 /\ s.g < 4294967296 /\ s.h < 4294967296
theorem and_lt32 {a b : Nat} (ha : a < 4294967296) : a &&& b < 4294967296 := Nat.lt_of_le_of_lt Nat.and_le_left ha
theorem xor_lt32 {a b : Nat} (ha : a < 4294967296) (hb : b < 4294967296) : a ^^^ b < 4294967296 := Nat.xor_lt_two_pow (n := 32) ha hb
theorem or_lt32 {a b : Nat} (ha : a < 4294967296) (hb : b < 4294967296) : a ||| b < 4294967296 := Nat.or_lt_two_pow (n := 32) ha hb
theorem div_lt32 {x : Nat} (k : Nat) (h : x < 4294967296) : x / 2 ^ k < 4294967296 := Nat.lt_of_le_of_lt (Nat.div_le_self _ _) h
theorem rotr_lt (k : Nat) {x : Nat} (h : x < 4294967296) : rotr k x < 4294967296 := or_lt32 (div_lt32 k h) (Nat.mod_lt _ (by decide))
theorem bigS1_lt {x : Nat} (h : x < 4294967296) : bigS1 x < 4294967296 := xor_lt32 (xor_lt32 (rotr_lt _ h) (rotr_lt _ h)) (rotr_lt _ h)
theorem bigS0_lt {x : Nat} (h : x < 4294967296) : bigS0 x < 4294967296 := xor_lt32 (xor_lt32 (rotr_lt _ h) (rotr_lt _ h)) (rotr_lt _ h)
theorem smS1_lt {x : Nat} (h : x < 4294967296) : smS1 x < 4294967296 := xor_lt32 (xor_lt32 (rotr_lt _ h) (rotr_lt _ h)) (by omega)
theorem smS0_lt {x : Nat} (h : x < 4294967296) : smS0 x < 4294967296 := xor_lt32 (xor_lt32 (rotr_lt _ h) (rotr_lt _ h)) (by omega)
theorem chN_lt {e f g : Nat} (he : e < 4294967296) : chN e f g < 4294967296 := xor_lt32 (and_lt32 he) (and_lt32 (xor_lt32 he (by decide)))
theorem majN_lt {a b c : Nat} (ha : a < 4294967296) (hb : b < 4294967296) : majN a b c < 4294967296 := xor_lt32 (xor_lt32 (and_lt32 ha) (and_lt32 ha)) (and_lt32 hb)
theorem rnd_ok {s : St} (k w : Nat) (h : s.ok) : (rnd k w s).ok := ⟨Nat.mod_lt _ (by decide), h.1, h.2.1, h.2.2.1, Nat.mod_lt _ (by decide), h.2.2.2.2.1, h.2.2.2.2.2.1, h.2.2.2.2.2.2.1⟩
theorem rounds_ok (b : List UInt8) (n : Nat) {s : St} (h : s.ok) : (rounds b n s).ok := by
 induction n with
 | zero => exact h
 | succ n ih => exact rnd_ok _ _ ih
theorem addSt_ok (s t : St) : (addSt s t).ok := by refine ⟨?_, ?_, ?_, ?_, ?_, ?_, ?_, ?_⟩ <;> exact Nat.mod_lt _ (by decide)
theorem blockN_ok (s : St) (b : List UInt8) : (blockN s b).ok := addSt_ok _ _
theorem firstN_ok : firstN.ok := by unfold St.ok firstN; decide
theorem blocksN_ok {s : St} (p : List UInt8) (n : Nat) (h : s.ok) : (blocksN s p n).ok := by
 cases n with
 | zero => exact h
 | succ n => exact blockN_ok _ _
theorem wordOf_lt (b : List UInt8) (i : Nat) : wordOf b i < 4294967296 := by
 unfold wordOf
 have h1 := (b.getD (4 * i) 0).toNat_lt
 have h2 := (b.getD (4 * i + 1) 0).toNat_lt
 have h3 := (b.getD (4 * i + 2) 0).toNat_lt
 have h4 := (b.getD (4 * i + 3) 0).toNat_lt
 omega
theorem wd_lt (b : List UInt8) (i : Nat) : wd b i < 4294967296 := by
 rw [wd]
 split
 ·exact wordOf_lt _ _
 ·exact Nat.mod_lt _ (by decide)
theorem wd_lo (b : List UInt8) {i : Nat} (h : i < 16) : wd b i = wordOf b i := by rw [wd, dif_pos h]
theorem wd_hi (b : List UInt8) (i : Nat) : wd b (i + 16) = (wd b i + smS0 (wd b (i + 1)) + wd b (i + 9) + smS1 (wd b (i + 14))) % 4294967296 := by
 rw [wd, dif_neg (by omega)]
 simp only [show i + 16 - 16 = i by omega, show i + 16 - 15 = i + 1 by omega, show i + 16 - 7 = i + 9 by omega, show i + 16 - 2 = i + 14 by omega]
theorem keysN_lt (k : Nat) : keysN.getD k 0 < 4294967296 := by
 have : ∀ x ∈ keysN, x < 4294967296 := by unfold keysN; decide
 rw [List.getD_eq_getElem?_getD]
 cases h : keysN[k]? with
 | none => simp
 | some x => exact this x (List.mem_of_getElem? h)
def padTail (n : Nat) : List UInt8 := 128 :: (List.replicate ((64 - (n + 9) % 64) % 64) 0 ++ [UInt8.ofNat (8 * n / 72057594037927936), UInt8.ofNat (8 * n / 281474976710656), UInt8.ofNat (8 * n / 1099511627776), UInt8.ofNat (8 * n / 4294967296), UInt8.ofNat (8 * n / 16777216), UInt8.ofNat (8 * n / 65536), UInt8.ofNat (8 * n / 256), UInt8.ofNat (8 * n)])
def padL (t : List UInt8) : List UInt8 := t ++ padTail t.length
theorem padTail_len (n : Nat) : (padTail n).length = 9 + (64 - (n + 9) % 64) % 64 := by simp [padTail]; omega
def four8 (x : Nat) : List UInt8 := [UInt8.ofNat (x / 16777216 % 256), UInt8.ofNat (x / 65536 % 256), UInt8.ofNat (x / 256 % 256), UInt8.ofNat (x % 256)]
def bytesOfSt (s : St) : List UInt8 := four8 s.a ++ four8 s.b ++ four8 s.c ++ four8 s.d ++ four8 s.e ++ four8 s.f ++ four8 s.g ++ four8 s.h
def digSt (t : List UInt8) : St := blocksN firstN (padL t) ((padL t).length / 64)
def digL (t : List UInt8) : List UInt8 := bytesOfSt (digSt t)
end Go.Proofs.YthbdgdfanpbkeaaGreat
