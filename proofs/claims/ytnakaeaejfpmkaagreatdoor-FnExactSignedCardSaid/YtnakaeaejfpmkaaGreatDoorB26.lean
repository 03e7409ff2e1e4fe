/-
  Texts of the proof, one behind the other: TxtI, HouP, HouI.
-/
import Derived.Lib.LaidU8
import Derived.Test.YtnakaeaejfpmkaaGreatDoorB11
import Derived.Test.YtnakaeaejfpmkaaGreatDoorB25

/-
  NatText: a number's bytes, the highest first.
-/
namespace Go.Proofs.YtnakaeaejfpmkaaGreatDoor
open Go.RowKit

/-- The bytes of a number, the lowest first. -/
def byN (n : Nat) : List UInt8 := if _h : n = 0 then [] else UInt8.ofNat (n % 256) :: byN (n / 256)
def byI (x : Int) : List UInt8 := byN x.toNat
theorem byI_zero {x : Int} (h : x ≤ 0) : byI x = [] := by
  unfold byI
  rw [show x.toNat = 0 by omega, byN, dif_pos rfl]
theorem byI_step {x : Int} (h : 0 < x) : byI x = UInt8.ofNat (x % 256).toNat :: byI (x / 256) := by
  unfold byI
  rw [byN, dif_neg (by omega)]
  congr 1
  · congr 1
    omega
  · congr 1
    omega
theorem byI_len {x : Int} : ∀ {k : Nat}, x < 256 ^ k → (byI x).length ≤ k := by
  intro k
  induction k generalizing x with
  | zero => intro h; rw [byI_zero (by simp at h; omega)]; simp
  | succ k ih =>
    intro h
    by_cases h0 : 0 < x
    · rw [byI_step h0, List.length_cons]
      have := ih (x := x / 256) (by rw [Int.pow_succ] at h; omega)
      omega
    · rw [byI_zero (by omega)]; simp

theorem digs_low {y : Int} (h : 0 ≤ y) (h2 : y < 10000) : (digs y).getD 0 0 = y := by
  by_cases h0 : 0 < y
  · rw [digs_step h0]
    simp
    omega
  · rw [digs_neg (by omega)]
    simp
    omega
theorem digs_pos_len {x : Int} (h : 0 < x) : 0 < (digs x).length := digs_ne h
theorem cellB_int {y : Int} (h : 0 ≤ y) (h2 : y < 256) : cellB (UInt8.ofNat y.toNat) = .int .u8 y := by
  rw [cellB_of (by omega)]
  congr 1
  omega
theorem mapB_snoc (l : List UInt8) (b : UInt8) : (l ++ [b]).map cellB = l.map cellB ++ [cellB b] := by simp
/-- Two values that lie in no block together. -/
def Ap2 (u v : Value) : Prop := ∀ g, u.ownBlock = some g → v.ownBlock = some g → False
theorem ownsRow_stay2 {w w' : World} {base : Nat} {e : TypeId} {size : Nat} {v : Value} {n : Nat} {xs : List Value} (h : w.ownsRow base e size v n xs) (hb : Below w.heap.size w w') : w'.ownsRow base e size v n xs := by
  obtain ⟨h1, h2⟩ := h
  refine ⟨h1, ?_⟩
  rcases h2 with h2 | ⟨g, cap, cur, hv, hbg, hg, r⟩
  · exact .inl h2
  · have hlt : g < w.heap.size := by
      rcases Nat.lt_or_ge g w.heap.size with h | h
      · exact h
      · rw [Array.getElem?_eq_none h] at hg; cases hg
    exact .inr ⟨g, cap, cur, hv, hbg, by rw [hb.block g hlt]; exact hg, r⟩
theorem below_go2 {a b c : World} (h1 : Below a.heap.size a b) (h2 : Below b.heap.size b c) : Below a.heap.size a c := h1.trans (h2.mono h1.size)
theorem rev_text (b : UInt8) (l : List UInt8) : (⟨#[b]⟩ : ByteArray) ++ ⟨l.reverse.toArray⟩ = ⟨(l ++ [b]).reverse.toArray⟩ := by
  apply ByteArray.ext
  simp
/-- What NatText tells of a list. -/
def txtL (l : List Int) : ByteArray := if okL l = true then ⟨(byI (ev l)).reverse.toArray⟩ else ByteArray.empty

set_option maxHeartbeats 1600000 in
set_option maxRecDepth 100000 in
theorem specText_any (a : Value) (la : List Int) (w : World) (hl : la.length ≤ 10000000) (wa : Wd la) (ha : IntAt w a la) :
    Calls Tryz.prog 93 #[a] w fun e w' => e = .returned (.string (txtL la)) ∧ Below w.heap.size w w' := by
  have HX : Hid (IntAt w a la ∧ Wd la) := ⟨ha, wa⟩
  obtain ⟨ao, ac, hae, HA0⟩ := ha
  subst hae
  clear HA0 wa
  go_enter Tryz.func93, Tryz.ntmps93
  go_wp2_with fail
  refine (specOk_any _ la w hl HX.out.1 HX.out.2).mono ?_
  rintro e w1 ⟨rfl, hb1⟩
  have HX1 : Hid (IntAt w1 (.slice ao la.length ac) la ∧ Below w.heap.size w w1) := ⟨HX.out.1.below hb1, hb1⟩
  clear hb1
  rcases h : okL la with _ | _
  · have he : txtL la = ByteArray.empty := by unfold txtL; rw [h]; simp
    have HE : Hid (txtL la = ByteArray.empty) := he
    clear he
    go_wp2_with fail
    go_ret
    exact ⟨congrArg (fun z => Ending.returned (Value.string z)) HE.out.symm, HX1.out.2⟩
  · have ok := okL_true h
    have HK : Hid (okL la = true ∧ Dig la ∧ Top la) := ⟨h, ok.2.1, ok.2.2⟩
    have hl40 := ok.1
    clear h ok
    go_wp2_with fail
    have HI : Hid (IntAt w1 (.slice ao la.length ac) (digs (ev la))) := by
      rw [← eq_digs HK.out.2.1 HK.out.2.2]
      exact HX1.out.1
    have HX0 : Hid (0 ≤ ev la ∧ ev la < 256 ^ 80) := by
      have h1 := ev_lt HK.out.2.1
      have h2 := pw_le hl40
      have h3 : (10000 : Int) ^ 40 < 256 ^ 80 := by decide
      exact ⟨ev_nonneg HK.out.2.1, by omega⟩
    go_loopg [0, 3] (byI (ev la)).length (fun gk lv sv wr => ∃ (x : Int) (l : List UInt8), 0 ≤ x ∧ sv = .string ⟨l.reverse.toArray⟩ ∧ Hid (x ≤ ev la ∧ l ++ byI x = byI (ev la) ∧ (byI x).length = gk ∧ IntAt wr lv (digs x) ∧ Below w.heap.size w wr))
    case atStart => exact ⟨ev la, [], HX0.out.1, rfl, Int.le_refl _, rfl, rfl, HI.out, HX1.out.2⟩
    case round =>
      obtain ⟨x, l, hx0, rfl, H⟩ := hrel
      clear HI
      obtain ⟨lo, lc, hle, _⟩ := H.out.2.2.2.1
      subst hle
      have hdl : (digs x).length ≤ 40 := by
        have h1 := ev_lt HK.out.2.1
        have h2 := pw_le hl40
        have h3 := H.out.1
        exact digs_len hx0 (by omega)
      have hll : l.length ≤ 80 := by
        have h1 := byI_len HX0.out.2
        have h2 := congrArg List.length H.out.2.1
        rw [List.length_append] at h2
        omega
      by_cases hx : x = 0
      · have hl0 : (digs x).length = 0 := by rw [hx, digs_zero]; rfl
        have hlt : ¬ (0 : Int) < ((digs x).length : Int) := by omega
        have HE : Hid (txtL la = ⟨l.reverse.toArray⟩ ∧ Below w.heap.size w wr) := by
          have h := H.out.2.1
          rw [hx, byI_zero (Int.le_refl _), List.append_nil] at h
          refine ⟨?_, H.out.2.2.2.2⟩
          unfold txtL
          rw [if_pos HK.out.1, h]
        clear hl0 hx H
        go_wp2_with fail
        go_ret
        exact ⟨congrArg (fun z => Ending.returned (Value.string z)) HE.out.1.symm, HE.out.2⟩
      · have hxp : 0 < x := by omega
        have hlp := digs_pos_len hxp
        have hlt : (0 : Int) < ((digs x).length : Int) := by omega
        have ha := (Below.refl wr.heap.size wr).alloc (Nat.le_refl _) (Obj.cells #[Value.int IntKind.i64 256] 3)
        have hlit : OwnI (wr.alloc (Obj.cells #[Value.int IntKind.i64 256] 3)) wr.heap.size (.slice (some ⟨wr.heap.size, 0, none⟩) 1 1) [256] := World.ownsRow_lit wr #[Value.int .i64 256] 1 (Nat.le_refl _) (by unfold maxLen; omega) rfl
        have EO := specDiv0_any (.slice lo (digs x).length lc) (.slice (some ⟨wr.heap.size, 0, none⟩) 1 1) (digs x) [256] (wr.alloc (Obj.cells #[Value.int IntKind.i64 256] 3)) (by omega) (by simp) (dig_digs x) (by intro y hy; simp at hy; omega) (by intro _; simp) (by simp) (H.out.2.2.2.1.below ha) hlit.at
        rw [ev_digs hx0, show ev [256] = 256 by simp [ev]] at EO
        have HA : Hid (Below wr.heap.size wr (wr.alloc (Obj.cells #[Value.int IntKind.i64 256] 3))) := ha
        clear hlit ha
        go_wp2_with fail
        refine EO.mono ?_
        rintro e w2 ⟨v2, r2, rfl, ho2, hp2, hb2⟩
        have HW2 : Hid (OwnI w2 wr.heap.size v2 (digs (x / 256)) ∧ OwnI w2 wr.heap.size r2 (digs (x % 256)) ∧ Below wr.heap.size wr w2) := ⟨ho2.base HA.out.size, hp2.base HA.out.size, below_go HA.out hb2⟩
        clear EO ho2 hp2 hb2 HA
        have hr0 : 0 ≤ x % 256 := by omega
        have hr1 : x % 256 < 256 := by omega
        have HM : Hid (x / 256 ≤ ev la ∧ (l ++ [UInt8.ofNat (x % 256).toNat]) ++ byI (x / 256) = byI (ev la) ∧ (byI (x / 256)).length < (byI x).length ∧ cellB (UInt8.ofNat (x % 256).toNat) = .int .u8 (x % 256) ∧ (byI x).length = gk ∧ Below w.heap.size w w2) := by
          have h1 := H.out.1
          have h2 := H.out.2.1
          have h5 := H.out.2.2.1
          rw [byI_step hxp] at h2 h5 ⊢
          exact ⟨by omega, by rw [List.append_assoc]; exact h2, by simp, cellB_int hr0 hr1, h5, below_go H.out.2.2.2.2 HW2.out.2.2⟩
        clear H
        obtain ⟨ro, rc, hre, hrs, _⟩ := HW2.out.2.1.shape
        have HRS : Hid (0 < (digs (x % 256)).length → ∃ g, ro = some ⟨g, 0, none⟩) := hrs
        subst hre
        clear hrs
        have hwx : IntKind.u8.wrap (x % 256) = x % 256 := by rw [IntKind.wrap]; simp [IntKind.signed, IntKind.bits]
        by_cases hr : x % 256 = 0
        · have hq : ¬ (0 : Int) < ((digs (x % 256)).length : Int) := by rw [hr, digs_zero]; decide
          have hcv : (convert 22 9 (.slice (some ⟨w2.heap.size, 0, none⟩) 1 1)).run Tryz.prog (w2.alloc (Obj.cells #[Value.int IntKind.u8 (0)] 5)) = .ok (.string ⟨[UInt8.ofNat (x % 256).toNat].toArray⟩) (w2.alloc (Obj.cells #[Value.int IntKind.u8 (0)] 5)) := by
            refine conv_own (base := w2.heap.size) (n := 1) ?_
            have h := World.ownsRow_lit (base := w2.heap.size) (e := 5) (size := 1) w2 #[Value.int .u8 (0)] 1 (Nat.le_refl _) (by unfold maxLen; omega) rfl
            have e : [UInt8.ofNat (x % 256).toNat].map cellB = (#[Value.int IntKind.u8 (0)] : Array Value).toList := by rw [List.map_singleton, HM.out.2.2.2.1]; simp [hr]
            rw [e]
            exact h
          clear hr
          go_wp2_with fail
          go_roundg ((byI (x / 256)).length)
          case measure => have h1 := HM.out.2.2.1; rw [HM.out.2.2.2.2.1] at h1; exact h1
          case rel => exact ⟨x / 256, l ++ [UInt8.ofNat (x % 256).toNat], by omega, by rw [rev_text], HM.out.1, HM.out.2.1, rfl, (HW2.out.1.stays ((Below.refl _ _).alloc (Nat.le_refl _) _)).at, HM.out.2.2.2.2.2.alloc HM.out.2.2.2.2.2.size _⟩
        · have hrl := digs_pos_len (show 0 < x % 256 by omega)
          have hq : (0 : Int) < ((digs (x % 256)).length : Int) := by omega
          obtain ⟨gr, hro⟩ := HRS.out hrl
          subst hro
          have hur := HW2.out.2.1.cell (j := 0) hrl
          rw [digs_low hr0 (by omega)] at hur
          have hcv : (convert 22 9 (.slice (some ⟨w2.heap.size, 0, none⟩) 1 1)).run Tryz.prog (w2.alloc (Obj.cells #[Value.int IntKind.u8 (x % 256)] 5)) = .ok (.string ⟨[UInt8.ofNat (x % 256).toNat].toArray⟩) (w2.alloc (Obj.cells #[Value.int IntKind.u8 (x % 256)] 5)) := by
            refine conv_own (base := w2.heap.size) (n := 1) ?_
            have h := World.ownsRow_lit (base := w2.heap.size) (e := 5) (size := 1) w2 #[Value.int .u8 (x % 256)] 1 (Nat.le_refl _) (by unfold maxLen; omega) rfl
            have e : [UInt8.ofNat (x % 256).toNat].map cellB = (#[Value.int IntKind.u8 (x % 256)] : Array Value).toList := by rw [List.map_singleton, HM.out.2.2.2.1]
            rw [e]
            exact h
          go_wp2_with fail
          go_roundg ((byI (x / 256)).length)
          case measure => have h1 := HM.out.2.2.1; rw [HM.out.2.2.2.2.1] at h1; exact h1
          case rel => exact ⟨x / 256, l ++ [UInt8.ofNat (x % 256).toNat], by omega, by rw [rev_text], HM.out.1, HM.out.2.1, rfl, (HW2.out.1.stays ((Below.refl _ _).alloc (Nat.le_refl _) _)).at, HM.out.2.2.2.2.2.alloc HM.out.2.2.2.2.2.size _⟩

set_option maxHeartbeats 1600000 in
set_option maxRecDepth 100000 in
theorem implText_any (a : Value) (la : List Int) (w : World) (hl : la.length ≤ 10000000) (wa : Wd la) (ha : IntAt w a la) :
    Calls Tryz.prog 199 #[a] w fun e w' => e = .returned (.string (txtL la)) ∧ Below w.heap.size w w' := by
  obtain ⟨i5, hi5, hy0, hy1, hy2⟩ := info_parts info5
  have HX : Hid (IntAt w a la ∧ Wd la) := ⟨ha, wa⟩
  obtain ⟨ao, ac, hae, HA0⟩ := ha
  subst hae
  clear HA0 wa
  go_enter Tryz.func199, Tryz.ntmps199
  go_wp2_with fail
  refine (right_any _ la w hl HX.out.1 HX.out.2).mono ?_
  rintro e w1 ⟨rfl, hb1⟩
  have HX1 : Hid (IntAt w1 (.slice ao la.length ac) la ∧ Below w.heap.size w w1) := ⟨HX.out.1.below hb1, hb1⟩
  clear hb1
  rcases h : okL la with _ | _
  · have he : txtL la = ByteArray.empty := by unfold txtL; rw [h]; simp
    have HE : Hid (txtL la = ByteArray.empty) := he
    clear he
    go_wp2_with fail
    go_ret
    exact ⟨congrArg (fun z => Ending.returned (Value.string z)) HE.out.symm, HX1.out.2⟩
  · have ok := okL_true h
    have HK : Hid (okL la = true ∧ Dig la ∧ Top la) := ⟨h, ok.2.1, ok.2.2⟩
    have hl40 := ok.1
    clear h ok
    go_wp2_with fail
    have HI : Hid ((w1.alloc (Obj.cells #[] 5)).ownsRow w1.heap.size 5 1 (.slice (some ⟨w1.heap.size, 0, none⟩) 0 0) 0 (([] : List UInt8).map cellB) ∧ IntAt (w1.alloc (Obj.cells #[] 5)) (.slice ao la.length ac) (digs (ev la)) ∧ Below w.heap.size w (w1.alloc (Obj.cells #[] 5))) := by
      have ha := (Below.refl w1.heap.size w1).alloc (Nat.le_refl _) (Obj.cells #[] 5)
      refine ⟨World.ownsRow_made w1 #[] 0 (Nat.le_refl _) (Nat.zero_le _) rfl, ?_, below_go HX1.out.2 ha⟩
      rw [← eq_digs HK.out.2.1 HK.out.2.2]
      exact HX1.out.1.below ha
    have HX0 : Hid (0 ≤ ev la ∧ ev la < 256 ^ 80) := by
      have h1 := ev_lt HK.out.2.1
      have h2 := pw_le hl40
      have h3 : (10000 : Int) ^ 40 < 256 ^ 80 := by decide
      exact ⟨ev_nonneg HK.out.2.1, by omega⟩
    go_loopg [3, 4] (byI (ev la)).length (fun gk lv tv wr => ∃ (x : Int) (l : List UInt8), 0 ≤ x ∧ Hid (x ≤ ev la ∧ l ++ byI x = byI (ev la) ∧ (byI x).length = gk ∧ wr.ownsRow w1.heap.size 5 1 tv l.length (l.map cellB) ∧ IntAt wr lv (digs x) ∧ Below w.heap.size w wr ∧ w1.heap.size ≤ wr.heap.size))
    case atStart => exact ⟨ev la, [], HX0.out.1, Int.le_refl _, rfl, rfl, HI.out.1, HI.out.2.1, HI.out.2.2, by simp⟩
    case round =>
      obtain ⟨x, l, hx0, H⟩ := hrel
      clear HI
      obtain ⟨lo, lc, hle, _⟩ := H.out.2.2.2.2.1
      subst hle
      have hdl : (digs x).length ≤ 40 := by
        have h1 := ev_lt HK.out.2.1
        have h2 := pw_le hl40
        have h3 := H.out.1
        exact digs_len hx0 (by omega)
      have hll : l.length ≤ 80 := by
        have h1 := byI_len HX0.out.2
        have h2 := congrArg List.length H.out.2.1
        rw [List.length_append] at h2
        omega
      by_cases hx : x = 0
      · have hl0 : (digs x).length = 0 := by rw [hx, digs_zero]; rfl
        have hlt : ¬ (0 : Int) < ((digs x).length : Int) := by omega
        have HL : Hid (l = byI (ev la)) := by
          have h := H.out.2.1
          rw [hx, byI_zero (Int.le_refl _), List.append_nil] at h
          exact h
        clear hl0 hx
        go_wp2_with fail
        refine (reverse_any u4 l l.length w1.heap.size wr (by omega) H.out.2.2.2.1).mono ?_
        rintro e w2 ⟨rfl, ho2, hb2⟩
        have hcv := conv_own ho2
        have HE : Hid (txtL la = ⟨l.reverse.toArray⟩ ∧ Below w.heap.size w w2) := by
          refine ⟨?_, H.out.2.2.2.2.2.1.trans (hb2.mono HX1.out.2.size)⟩
          unfold txtL
          rw [if_pos HK.out.1, HL.out]
        clear ho2 hb2 H
        go_wp2_with fail
        go_ret
        exact ⟨congrArg (fun z => Ending.returned (Value.string z)) HE.out.1.symm, HE.out.2⟩
      · have hxp : 0 < x := by omega
        have hlp := digs_pos_len hxp
        have hlt : (0 : Int) < ((digs x).length : Int) := by omega
        have ha := (Below.refl wr.heap.size wr).alloc (Nat.le_refl _) (Obj.cells #[Value.int IntKind.i64 256] 3)
        have hlit : OwnI (wr.alloc (Obj.cells #[Value.int IntKind.i64 256] 3)) wr.heap.size (.slice (some ⟨wr.heap.size, 0, none⟩) 1 1) [256] := World.ownsRow_lit wr #[Value.int .i64 256] 1 (Nat.le_refl _) (by unfold maxLen; omega) rfl
        have EO := over_any (.slice lo (digs x).length lc) (.slice (some ⟨wr.heap.size, 0, none⟩) 1 1) (digs x) [256] (wr.alloc (Obj.cells #[Value.int IntKind.i64 256] 3)) (by omega) (by simp) (dig_digs x) (by intro y hy; simp at hy; omega) (by intro _; simp) (by simp) (H.out.2.2.2.2.1.below ha) hlit.at
        rw [ev_digs hx0, show ev [256] = 256 by simp [ev]] at EO
        have HA : Hid (Below wr.heap.size wr (wr.alloc (Obj.cells #[Value.int IntKind.i64 256] 3))) := ha
        clear hlit ha
        go_wp2_with fail
        refine EO.mono ?_
        rintro e w2 ⟨v2, r2, rfl, ho2, hp2, hb2, _⟩
        have HW2 : Hid (OwnI w2 wr.heap.size v2 (digs (x / 256)) ∧ OwnI w2 wr.heap.size r2 (digs (x % 256)) ∧ Below wr.heap.size wr w2) := ⟨ho2.base HA.out.size, hp2.base HA.out.size, below_go HA.out hb2⟩
        clear EO ho2 hp2 hb2 HA
        have hr0 : 0 ≤ x % 256 := by omega
        have hr1 : x % 256 < 256 := by omega
        have EA := at_any r2 (digs (x % 256)) 0 w2 (by have := digs_len (k := 1) hr0 (by omega); omega) HW2.out.2.1.at
        rw [show (0 : Int) = ((0 : Nat) : Int) from rfl, atI_nat, digs_low hr0 (by omega)] at EA
        have HM : Hid (x / 256 ≤ ev la ∧ (l ++ [UInt8.ofNat (x % 256).toNat]) ++ byI (x / 256) = byI (ev la) ∧ (byI (x / 256)).length < (byI x).length ∧ cellB (UInt8.ofNat (x % 256).toNat) = .int .u8 (x % 256)) := by
          have h1 := H.out.1
          have h2 := H.out.2.1
          rw [byI_step hxp] at h2 ⊢
          exact ⟨by omega, by rw [List.append_assoc]; exact h2, by simp, cellB_int hr0 hr1⟩
        have HO : Hid (w2.ownsRow w1.heap.size 5 1 u4 l.length (l.map cellB) ∧ Below w.heap.size w w2 ∧ w1.heap.size ≤ w2.heap.size ∧ (byI x).length = gk ∧ Ap2 v2 u4) := by
          have h3 := H.out.2.2.2.1
          refine ⟨ownsRow_stay2 h3 HW2.out.2.2, H.out.2.2.2.2.2.1.trans (HW2.out.2.2.mono (Nat.le_trans HX1.out.2.size H.out.2.2.2.2.2.2)), Nat.le_trans H.out.2.2.2.2.2.2 HW2.out.2.2.size, H.out.2.2.1, ?_⟩
          exact fun g hg hg2 => by
            have h4 := (World.ownsRow.lt HW2.out.1 g hg).1
            have h5 := (h3.lt g hg2).2
            omega
        clear H
        have hwx : IntKind.u8.wrap (x % 256) = x % 256 := by rw [IntKind.wrap]; simp [IntKind.signed, IntKind.bits]
        have hox := HO.out.1
        go_wp2_with fail
        refine EA.mono ?_
        rintro e w3 ⟨rfl, rfl⟩
        go_wp2_with (at_builtin; refine wpList_append_own _ rfl _ _ 22 rfl w1.heap.size 5 i5 (.int .u8 0) 1 1 Tryz.underlying22 hi5 hy0 hy1 hy2 rfl (by decide) _ _ _ rfl (hox.alloc _) ⟨w2.heap.size, 0, none⟩ 1 1 [.int .u8 (x % 256)] rfl rfl (one_new _ _ _) ?a1 ?a2 ?a3 ?a4 ?_)
        case a1 =>
          intro u hu
          simp at hu
          subst hu; rfl
        case a2 => unfold maxLen; omega
        case a3 => omega
        case a4 => exact size_ok HO.out.2.2.1 _
        intro v' w4 hown' hgrow _
        have HN : Hid (x / 256 ≤ ev la ∧ (l ++ [UInt8.ofNat (x % 256).toNat]) ++ byI (x / 256) = byI (ev la) ∧ w4.ownsRow w1.heap.size 5 1 v' (l ++ [UInt8.ofNat (x % 256).toNat]).length ((l ++ [UInt8.ofNat (x % 256).toNat]).map cellB) ∧ IntAt w4 v2 (digs (x / 256)) ∧ Below w.heap.size w w4 ∧ w1.heap.size ≤ w4.heap.size) := by
          have ha := (Below.refl w2.heap.size w2).alloc (Nat.le_refl _) (Obj.cells #[Value.int IntKind.u8 (x % 256)] 5)
          refine ⟨HM.out.1, HM.out.2.1, ?_, ?_, ?_, ?_⟩
          · rw [mapB_snoc, HM.out.2.2.2, List.length_append]
            exact hown'
          · have h := HW2.out.1.stays ha
            have h2 : OwnI w4 wr.heap.size v2 (digs (x / 256)) := World.ownsRow.kept h hgrow (by
              by_cases e : v2.ownBlock = u4.ownBlock
              · rcases hv : v2.ownBlock with _ | g
                · exact .inl rfl
                · exact (HO.out.2.2.2.2 g hv (by rw [← e]; exact hv)).elim
              · exact .inr e)
            exact h2.at
          · exact (below_go2 HO.out.2.1 ha).grown hgrow (size_ok HO.out.2.1.size _) (fun k hk => Nat.le_trans HX1.out.2.size (hox.lt k hk).1)
          · exact Nat.le_trans HO.out.2.2.1 (Nat.le_trans ha.size hgrow.size)
        have HG : Hid ((byI (x / 256)).length < gk) := by have h1 := HM.out.2.2.1; rw [HO.out.2.2.2.1] at h1; exact h1
        clear hown' hgrow hox
        go_wp2
        go_roundg ((byI (x / 256)).length)
        case measure => exact HG.out
        case rel => exact ⟨x / 256, _, by omega, HN.out.1, HN.out.2.1, rfl, HN.out.2.2⟩
end Go.Proofs.YtnakaeaejfpmkaaGreatDoor

/-
  Plain facts: the six houses' figures, as texts.
-/
namespace Go.Proofs.YtnakaeaejfpmkaaGreatDoor
open Go.RowKit

/-- The figures of the houses' numbers, and of their secrets. -/
def pubF : Nat → List UInt8
  | 0 => [49, 49, 50, 54, 56, 52, 50, 52, 56, 50, 50, 57, 52, 55, 55, 53, 51, 48, 56, 49, 57, 53, 54, 57, 52, 54, 50, 51, 51, 48, 56, 50, 52, 48, 53, 57, 55]
  | 1 => [49, 50, 52, 55, 57, 56, 49, 54, 53, 53, 52, 50, 51, 53, 51, 50, 49, 53, 52, 48, 57, 50, 53, 53, 52, 56, 54, 51, 56, 56, 56, 56, 57, 55, 50, 48, 57]
  | 2 => [49, 49, 52, 56, 54, 56, 54, 51, 50, 48, 48, 50, 57, 57, 54, 55, 55, 54, 53, 49, 55, 52, 50, 53, 54, 55, 48, 52, 54, 56, 52, 51, 53, 48, 49, 49, 49]
  | 3 => [49, 48, 52, 49, 54, 57, 49, 55, 51, 56, 57, 54, 51, 57, 50, 48, 52, 52, 48, 51, 50, 51, 57, 49, 49, 48, 55, 56, 50, 53, 57, 51, 49, 54, 48, 51, 57]
  | 4 => [49, 49, 56, 56, 50, 52, 52, 51, 56, 51, 50, 57, 56, 53, 50, 56, 55, 53, 52, 52, 55, 57, 57, 55, 51, 54, 53, 50, 50, 49, 54, 53, 52, 55, 56, 55, 55]
  | 5 => [49, 48, 55, 53, 49, 55, 48, 53, 51, 48, 57, 52, 53, 51, 54, 56, 54, 49, 55, 53, 49, 56, 55, 55, 49, 52, 54, 54, 55, 56, 56, 55, 56, 53, 56, 49, 51]
  | _ => []
def secF : Nat → List UInt8
  | 0 => [54, 50, 55, 48, 56, 49, 57, 56, 54, 56, 52, 51, 54, 53, 55, 48, 50, 49, 48, 51, 56, 49, 48, 51, 48, 52, 54, 56, 51, 50, 49, 57, 48, 48, 56, 49]
  | 1 => [50, 51, 53, 57, 55, 51, 51, 57, 57, 51, 54, 50, 51, 50, 48, 54, 56, 48, 51, 49, 53, 50, 57, 57, 49, 54, 55, 51, 54, 51, 49, 53, 57, 55, 49, 51]
  | 2 => [50, 56, 49, 48, 51, 50, 54, 52, 52, 57, 57, 57, 57, 51, 49, 51, 56, 51, 57, 56, 55, 55, 57, 54, 56, 52, 57, 51, 48, 48, 48, 57, 55, 48, 53, 55]
  | 3 => [53, 52, 55, 48, 49, 54, 53, 49, 50, 55, 53, 53, 50, 56, 56, 49, 56, 54, 53, 55, 48, 49, 57, 48, 50, 56, 53, 49, 57, 54, 56, 57, 51, 53, 53, 51]
  | 4 => [54, 56, 53, 49, 54, 54, 52, 55, 52, 53, 56, 52, 54, 48, 55, 49, 57, 50, 49, 49, 48, 52, 57, 48, 54, 52, 53, 50, 57, 50, 50, 53, 48, 55, 57, 51]
  | 5 => [57, 54, 48, 50, 49, 54, 56, 52, 50, 48, 51, 49, 55, 49, 51, 55, 54, 53, 54, 56, 54, 57, 48, 51, 54, 56, 51, 49, 54, 49, 49, 57, 50, 57, 51]
  | _ => []
/-- The same as texts, of any number of a house. -/
def pubT (i : Int) : ByteArray := if 0 ≤ i ∧ i < 6 then ⟨(pubF i.toNat).toArray⟩ else ByteArray.empty
def secT (i : Int) : ByteArray := if 0 ≤ i ∧ i < 6 then ⟨(secF i.toNat).toArray⟩ else ByteArray.empty
theorem pubT_no {i : Int} (h : ¬ (0 ≤ i ∧ i < 6)) : pubT i = ByteArray.empty := if_neg h
theorem secT_no {i : Int} (h : ¬ (0 ≤ i ∧ i < 6)) : secT i = ByteArray.empty := if_neg h
theorem pubT_at {i : Nat} (h : i < 6) : pubT (i : Int) = ⟨(pubF i).toArray⟩ := by unfold pubT; rw [if_pos (by omega), Int.toNat_natCast]
theorem secT_at {i : Nat} (h : i < 6) : secT (i : Int) = ⟨(secF i).toArray⟩ := by unfold secT; rw [if_pos (by omega), Int.toNat_natCast]
theorem pubT_size (i : Int) : (pubT i).size ≤ 37 := by
  by_cases h : 0 ≤ i ∧ i < 6
  · obtain ⟨n, rfl⟩ : ∃ n : Nat, i = (n : Int) := ⟨i.toNat, by omega⟩
    rw [pubT_at (by omega)]
    match n, h with
    | 0, _ => decide
    | 1, _ => decide
    | 2, _ => decide
    | 3, _ => decide
    | 4, _ => decide
    | 5, _ => decide
    | n + 6, h => omega
  · rw [pubT_no h]; decide
theorem pubT_pos {i : Nat} (h : i < 6) : (pubT (i : Int)).size ≠ 0 := by
  rw [pubT_at h]
  match i, h with
  | 0, _ => decide
  | 1, _ => decide
  | 2, _ => decide
  | 3, _ => decide
  | 4, _ => decide
  | 5, _ => decide
theorem secT_size (i : Int) : (secT i).size ≤ 37 := by
  by_cases h : 0 ≤ i ∧ i < 6
  · obtain ⟨n, rfl⟩ : ∃ n : Nat, i = (n : Int) := ⟨i.toNat, by omega⟩
    rw [secT_at (by omega)]
    match n, h with
    | 0, _ => decide
    | 1, _ => decide
    | 2, _ => decide
    | 3, _ => decide
    | 4, _ => decide
    | 5, _ => decide
    | n + 6, h => omega
  · rw [secT_no h]; decide
theorem figL_of {l : List UInt8} {vs : List Nat} {n : Nat} (h : l.length ≤ 140) (hv : fvals 10 l = some vs) (hn : horn 10 (vs.map fun x : Nat => (x : Int)) = (n : Int)) : figL ⟨l.toArray⟩ = digs (n : Int) := by
  unfold figL
  rw [if_pos (by show l.toArray.size ≤ 140; simpa using h)]
  show (match fvals 10 l.toArray.toList with | some vs => digs (horn 10 (vs.map fun x : Nat => (x : Int))) | none => []) = _
  rw [show l.toArray.toList = l by simp, hv]
  show digs (horn 10 (vs.map fun x : Nat => (x : Int))) = _
  rw [hn]
theorem figL_empty : figL ByteArray.empty = [] := by
  have h := figL_of (l := []) (vs := []) (n := 0) (by decide) rfl (by decide)
  have e : (⟨([] : List UInt8).toArray⟩ : ByteArray) = ByteArray.empty := rfl
  rw [e] at h
  rw [h]
  exact digs_neg (by decide)
def secL (i : Int) : List Int := figL (secT i)
theorem figL_wd (s : ByteArray) : Wd (figL s) := by
  unfold figL
  split
  · split
    · exact (dig_digs _).wd
    · exact fun x hx => by simp at hx
  · exact fun x hx => by simp at hx
theorem below_on {a b c : World} (h1 : Below a.heap.size a b) (h2 : Below b.heap.size b c) : Below a.heap.size a c := h1.trans (h2.mono h1.size)
end Go.Proofs.YtnakaeaejfpmkaaGreatDoor

/-
  The houses as the program lays them; houseAt.
-/
namespace Go.Proofs.YtnakaeaejfpmkaaGreatDoor
open Go.RowKit

theorem gHouses : Tryz.prog.globalNamed "loop.example/g00394/impl.houses" = some 0 := by kernel_rfl
theorem housesType : (Tryz.prog.globals[0]?).map (·.type) = some 198 := by kernel_rfl
theorem cellsHouse : Tryz.prog.cellsOf 159 = 2 := by kernel_rfl
theorem cellsStr : Tryz.prog.cellsOf 9 = 1 := by kernel_rfl
/-- Each house's two texts lie where the program lays them. -/
def HousesOk (w : World) : Prop := 0 < w.heap.size ∧ ∀ i : Nat, i < 6 → w.cell? ⟨0, 2 * i, none⟩ = some (.string ⟨(pubF i).toArray⟩) ∧ w.cell? ⟨0, 2 * i + 1, none⟩ = some (.string ⟨(secF i).toArray⟩)
theorem housesBelow {w : World} (h : HousesOk w) : ∀ w', Below w.heap.size w w' → HousesOk w' := fun _ hb =>
  ⟨Nat.lt_of_lt_of_le h.1 hb.size, fun i hi => ⟨(hb.cell (p := ⟨_, 2 * i, none⟩) h.1).trans (h.2 i hi).1, (hb.cell (p := ⟨_, 2 * i + 1, none⟩) h.1).trans (h.2 i hi).2⟩⟩
/-- The houses as a row lists them. -/
def housesD {H : Type} : DataW H := .agg ((List.range 6).map fun i => .agg [.lit (.string (pubF i)), .lit (.string (secF i))])
theorem bytes_backH (s : ByteArray) (l : List UInt8) (h : s.data.toList = l) : s = ⟨l.toArray⟩ := by
  subst h
  apply ByteArray.ext
  simp
theorem take_oneH {cs : List Value} {k : Nat} {v : Value} (h : (cs.drop k).take 1 = [v]) : cs[k]? = some v := by
  have := congrArg (·[0]?) h
  simpa [List.getElem?_take, List.getElem?_drop] using this
theorem pair_cells {W : World} {fuel : Nat} {cs : List Value} {a b : List UInt8} {p : List MemPlace} (h : DataW.trod (fun _ => ()) Tryz.prog W 0 (fun _ => true) false fuel 159 cs = some (.agg [.lit (.string a), .lit (.string b)], p)) :
    cs[0]? = some (.string ⟨a.toArray⟩) ∧ cs[1]? = some (.string ⟨b.toArray⟩) := by
  obtain ⟨xs, n, rfl, hx, hl, hxl, hall⟩ := DataW.trod_struct Tryz.underlying159 h
  have hx2 : xs.map (·.1) = [.lit (.string a), .lit (.string b)] := by
    have := congrArg Prod.fst hx
    simpa using this.symm
  obtain ⟨x0, x1, rfl⟩ : ∃ x0 x1, xs = [x0, x1] := by
    match xs, hx2 with
    | [x0, x1], _ => exact ⟨x0, x1, rfl⟩
  simp only [List.map_cons, List.map_nil, List.cons.injEq, and_true] at hx2
  obtain ⟨e0, e1⟩ := hx2
  have f0 := hall 0 _ rfl
  have f1 := hall 1 _ rfl
  change DataW.trod _ _ _ _ _ _ _ 9 ((cs.drop 0).take (Tryz.prog.cellsOf 9)) = some x0 at f0
  change DataW.trod _ _ _ _ _ _ _ 9 ((cs.drop 1).take (Tryz.prog.cellsOf 9)) = some x1 at f1
  rw [cellsStr] at f0 f1
  refine ⟨?_, ?_⟩
  · obtain ⟨s, hz, hx', _⟩ := DataW.trod_string Tryz.underlying9 f0
    rw [hx'] at e0
    simp only [DataW.lit.injEq, Lit.string.injEq] at e0
    rw [take_oneH hz, bytes_backH s a e0]
  · obtain ⟨s, hz, hx', _⟩ := DataW.trod_string Tryz.underlying9 f1
    rw [hx'] at e1
    simp only [DataW.lit.injEq, Lit.string.injEq] at e1
    rw [take_oneH hz, bytes_backH s b e1]
theorem houses_of_reads {W : World} (h : Lib.VarReads Tryz.prog W "loop.example/g00394/impl.houses" housesD) : HousesOk W := by
  obtain ⟨g', t', cs, fuel, p, hg', ht', hvar, hd⟩ := h
  obtain rfl := Option.some.inj (gHouses.symm.trans hg')
  obtain rfl := Option.some.inj (housesType.symm.trans ht')
  obtain ⟨xs, m, rfl, hx, hlen, hxl, hall⟩ := DataW.trod_array Tryz.underlying198 hd
  have hx2 : xs.map (·.1) = (List.range 6).map fun i => (DataW.agg [.lit (.string (pubF i)), .lit (.string (secF i))] : DataW Unit) := by
    have := congrArg Prod.fst hx
    simpa [housesD] using this.symm
  have hc := World.var?_cell gHouses hvar
  have hboth : ∀ i : Nat, i < 6 → W.cell? ⟨0, 2 * i, none⟩ = some (.string ⟨(pubF i).toArray⟩) ∧ W.cell? ⟨0, 2 * i + 1, none⟩ = some (.string ⟨(secF i).toArray⟩) := by
    intro i hi
    have h1 := hall i hi
    obtain ⟨y, hy⟩ : ∃ y, xs[i]? = some y := ⟨xs[i]'(by omega), by simp [show i < xs.length by omega]⟩
    have hy1 : y.1 = DataW.agg [.lit (.string (pubF i)), .lit (.string (secF i))] := by
      have h2 := congrArg (·[i]?) hx2
      simp only [List.getElem?_map, hy, Option.map_some] at h2
      rw [List.getElem?_range hi] at h2
      simpa using h2
    obtain ⟨y1, y2⟩ := y
    subst hy1
    rw [hy, cellsHouse] at h1
    have h3 := pair_cells h1
    rw [List.getElem?_take, List.getElem?_take, List.getElem?_drop, List.getElem?_drop] at h3
    simp only [show (0 : Nat) < 2 by decide, show (1 : Nat) < 2 by decide, if_true] at h3
    rw [hc, hc]
    constructor
    · rw [← h3.1, show 2 * i = i * 2 + 0 by omega]; simp
    · rw [← h3.2, show 2 * i + 1 = i * 2 + 1 by omega]; simp
  refine ⟨?_, hboth⟩
  have h0 := (hboth 0 (by decide)).1
  rcases Nat.lt_or_ge 0 W.heap.size with h | h
  · exact h
  · simp [World.cell?, Array.getElem?_eq_none h] at h0

set_option maxHeartbeats 800000 in
set_option maxRecDepth 100000 in
theorem houseAt_any (i : Int) (w : World) (hi : -9223372036854775808 ≤ i ∧ i ≤ 9223372036854775807) (hH : HousesOk w) : Calls Tryz.prog 152 #[.int .i64 i] w fun e w' => e = .returned (.agg #[.string (pubT i), .string (secT i)]) ∧ Below w.heap.size w w' := by
  by_cases h : 0 ≤ i ∧ i < 6
  · obtain ⟨n, rfl⟩ : ∃ n : Nat, i = (n : Int) := ⟨i.toNat, by omega⟩
    have hn : n < 6 := by omega
    rw [pubT_at hn, secT_at hn]
    have HB := (Below.refl w.heap.size w).alloc (Nat.le_refl _) (Obj.cells #[Value.string { data := #[] }, Value.string { data := #[] }] 159)
    obtain ⟨c0, c1⟩ := (housesBelow hH _ HB).2 n hn
    rw [Nat.mul_comm 2 n] at c0 c1
    clear hH HB
    have h1 : ¬ (n : Int) < 0 := by omega
    have h2 : ¬ (6 : Int) ≤ (n : Int) := by omega
    generalize (⟨(pubF n).toArray⟩ : ByteArray) = P at *
    generalize (⟨(secF n).toArray⟩ : ByteArray) = Q at *
    go_enter Tryz.func152, Tryz.ntmps152
    go_wp2_with fail
    refine bodyPost_ret (v := .agg #[.string P, .string Q]) (by simp [results, Tryz.results152, go_sem]; try rfl) rfl ⟨rfl, ?_⟩
    exact (Below.refl _ _).alloc (Nat.le_refl _) _
  · rw [pubT_no h, secT_no h]
    clear hH
    by_cases h3 : i < 0
    · go_enter Tryz.func152, Tryz.ntmps152
      go_wp2_with fail
      refine bodyPost_ret (v := .agg #[.string ByteArray.empty, .string ByteArray.empty]) (by simp [results, Tryz.results152, go_sem]; try rfl) rfl ⟨rfl, ?_⟩
      exact ((Below.refl _ _).alloc (Nat.le_refl _) _)
    · have h4 : (6 : Int) ≤ i := by omega
      go_enter Tryz.func152, Tryz.ntmps152
      go_wp2_with fail
      refine bodyPost_ret (v := .agg #[.string ByteArray.empty, .string ByteArray.empty]) (by simp [results, Tryz.results152, go_sem]; try rfl) rfl ⟨rfl, ?_⟩
      exact ((Below.refl _ _).alloc (Nat.le_refl _) _)
end Go.Proofs.YtnakaeaejfpmkaaGreatDoor
