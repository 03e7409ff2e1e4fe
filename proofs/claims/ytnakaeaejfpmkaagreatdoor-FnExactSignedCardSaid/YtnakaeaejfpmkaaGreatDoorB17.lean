/-
  Texts of the proof, one behind the other: ItY, ItT, SiI.
-/
import Derived.Deep.RegionHeld3
import Derived.Test.YtnakaeaejfpmkaaGreatDoorB8
import Derived.Test.YtnakaeaejfpmkaaGreatDoorB10
import Derived.Test.YtnakaeaejfpmkaaGreatDoorB12
import Derived.Test.YtnakaeaejfpmkaaGreatDoorB16

/-
  The program's ItemText.
-/
namespace Go.Proofs.YtnakaeaejfpmkaaGreatDoor
open Go.RowKit Der
set_option linter.unusedVariables false

theorem leaf_post {n : Nat} {t : Int} {s : List UInt8} {ks : List (It n)} {w w' : World} {e : Ending} (h48 : t ≠ 48) (h : TxPost t (fun r => r = s) w e w') :
    ∃ r : List UInt8, e = .returned (.string ⟨r.toArray⟩) ∧ GoodT r (txtI (n + 1) (It.mk t s ks)) ∧ r.length ≤ 11 + 12 * szI (n + 1) (It.mk t s ks) ∧ Below w.heap.size w w' := by
  obtain ⟨r, rfl, rfl, hb⟩ := h
  have e : txtI (n + 1) (It.mk t r ks) = UInt8.ofNat (t % 256).toNat :: (lenB r.length ++ r) := by
    show UInt8.ofNat (t % 256).toNat :: (lenB (if t = 48 then _ else r).length ++ (if t = 48 then _ else r)) = _
    rw [if_neg h48]
  have h1 := txt_le (n + 1) (It.mk t r ks)
  rw [← e]
  exact ⟨_, rfl, GoodT.refl _, h1, hb⟩
theorem row_post {n : Nat} {ks : List (It n)} {w w' : World} {e : Ending} (h : TxPost 48 (fun r => GoodT r ((ks.map (txtI n)).flatten) ∧ r.length ≤ 12 * szS n ks) w e w') :
    ∃ r : List UInt8, e = .returned (.string ⟨r.toArray⟩) ∧ GoodT r (txtI (n + 1) (It.mk 48 [] ks)) ∧ r.length ≤ 11 + 12 * szI (n + 1) (It.mk 48 [] ks) ∧ Below w.heap.size w w' := by
  obtain ⟨r, rfl, ⟨hg, hl⟩, hb⟩ := h
  have e : txtI (n + 1) (It.mk 48 [] ks) = UInt8.ofNat ((48 : Int) % 256).toNat :: (lenB ((ks.map (txtI n)).flatten).length ++ (ks.map (txtI n)).flatten) := rfl
  refine ⟨_, rfl, ?_, ?_, hb⟩
  · rw [e]
    exact GoodT.whole (b := []) hg
  · have h1 := beN_short9 r.length
    have h2 : szI (n + 1) (It.mk 48 [] ks) = szS n ks := by
      show ([] : List UInt8).length + ks.length + (ks.map (szI n)).sum = ks.length + (ks.map (szI n)).sum
      simp
    rw [h2]
    simp only [List.length_cons, List.length_append]
    omega
theorem txC_of (n : Nat) (HB : Hid (BdC n)) : TxC n := fun t s ks a d w hx hz hr => by
  have hsz := szI_kid hz
  obtain ⟨ax, cx, rfl, hcx⟩ := id hx
  rw [right_mk] at hr
  by_cases h48 : t = 48
  · subst h48
    rw [if_neg (by simp)] at hr
    simp only [Bool.and_eq_true, List.all_eq_true] at hr
    obtain ⟨⟨⟨hs, _⟩, _⟩, hall⟩ := hr
    have hs0 := of_decide_eq_true hs
    obtain rfl : s = [] := List.eq_nil_of_length_eq_zero hs0
    refine (textOf_row 48 [] ax ks.length cx w hsz.2.1 hsz.1 (formV_row _ _) (fun r => GoodT r ((ks.map (txtI n)).flatten) ∧ r.length ≤ 12 * szS n ks) fun w3 hb => ?_).mono fun e w' h => row_post h
    refine (HB.out ks _ (d + 1) w3 (hx.mono hb fun _ _ h => ItAt.below hb h) (szS_of hz) hall).mono ?_
    rintro e w' ⟨r, rfl, hg, hl, hb'⟩
    have := szS_of hz
    exact ⟨r, rfl, ⟨hg, hl⟩, by omega, hb'⟩
  · rw [if_pos h48, Bool.and_eq_true] at hr
    have hk0 : ks.length = 0 := of_decide_eq_true hr.1
    have hp := hr.2
    rw [hk0]
    have done : ∀ w3 : World, ∀ F : Nat, (Calls Tryz.prog F #[.string ⟨s.toArray⟩] w3 fun e w' => e = .returned (.string ⟨s.toArray⟩) ∧ Below w3.heap.size w3 w') → Calls Tryz.prog F #[.string ⟨s.toArray⟩] w3 fun e w' => ∃ r : List UInt8, e = .returned (.string ⟨r.toArray⟩) ∧ r = s ∧ r.length ≤ 400000000 ∧ Below w3.heap.size w3 w' :=
      fun w3 F h => h.mono fun e w' ⟨h1, h2⟩ => ⟨s, h1, rfl, by omega, h2⟩
    rcases plainOk_tag hp with rfl | rfl | rfl | rfl
    · exact (textOf_flag 1 s ax 0 cx w (by omega) hsz.1 (formV_one _ _) (fun r => r = s) fun w3 _ => done w3 _ (body_flag ⟨s.toArray⟩ w3)).mono fun e w' h => leaf_post (by decide) h
    · exact (textOf_integer 2 s ax 0 cx w (by omega) hsz.1 (formV_two _ _) (fun r => r = s) fun w3 _ => done w3 _ (body_integer ⟨s.toArray⟩ w3)).mono fun e w' h => leaf_post (by decide) h
    · exact (textOf_plain 12 s ax 0 cx w (by omega) hsz.1 (formV_twelve _ _) (fun r => r = s) fun w3 _ => done w3 _ (body_plain ⟨s.toArray⟩ w3)).mono fun e w' h => leaf_post (by decide) h
    · exact (textOf_octets 4 s ax 0 cx w (by omega) hsz.1 (formV_four _ _) (fun r => r = s) fun w3 _ => done w3 _ (body_octets ⟨s.toArray⟩ w3)).mono fun e w' h => leaf_post (by decide) h
theorem bdC_any : ∀ (n : Nat), BdC n
  | 0 => bd_zero
  | n + 1 => fun ks v d w hx hz hr => bd_step n (txC_of n (bdC_any n)) ks v d w hx hz hr
theorem textOf_any (n : Nat) : TxC n := txC_of n (bdC_any n)

set_option maxHeartbeats 1600000 in
set_option maxRecDepth 100000 in
theorem implItemText_step (n : Nat) (t : Int) (s : List UInt8) (ks : List (It n)) (a : Value) (w : World) (hx : KidsAt w (ItAt w n) a ks) (hz : szI (n + 1) (It.mk t s ks) ≤ 20000000) :
    Calls Tryz.prog 56 #[.agg #[.int .i64 t, .string ⟨s.toArray⟩, a]] w fun e w' => e = .returned (.tuple #[.string ⟨((writeI (n + 1) (It.mk t s ks)).getD []).toArray⟩, .bool (writeI (n + 1) (It.mk t s ks)).isSome]) ∧ Below w.heap.size w w' := by
  obtain ⟨ax, cx, rfl, -⟩ := id hx
  obtain ⟨W2, hW2⟩ : ∃ W, W = w.alloc (Obj.cells #[Value.int IntKind.i64 t, Value.string { data := s.toArray }, Value.slice ax ks.length cx] 45) := ⟨_, rfl⟩
  have HW := one_laid w (.int .i64 t) (.string ⟨s.toArray⟩) (.slice ax ks.length cx) 45 W2 hW2
  have E := implItemOk_any (n + 1) (It.mk t s ks) (.agg #[.int .i64 t, .string ⟨s.toArray⟩, .slice ax ks.length cx]) W2 ⟨_, rfl, hx.mono HW.1 fun _ _ h => ItAt.below HW.1 h⟩ hz
  have HN : Hid (writeI (n + 1) (It.mk t s ks) = if rightI (n + 1) (It.mk t s ks) 0 = true ∧ (txtI (n + 1) (It.mk t s ks)).length ≤ 4000 then some (txtI (n + 1) (It.mk t s ks)) else none) := rfl
  have HX : Hid (KidsAt w (ItAt w n) (.slice ax ks.length cx) ks ∧ szI (n + 1) (It.mk t s ks) ≤ 20000000) := ⟨hx, hz⟩
  obtain ⟨l, hl⟩ : ∃ l, ks.length = l := ⟨_, rfl⟩
  have HL : Hid (ks.length = l) := hl
  have HC : Hid (Below w.heap.size w W2 ∧ w.heap.size < W2.heap.size ∧ Cells3 W2 w.heap.size 0 (.int .i64 t) (.string ⟨s.toArray⟩) (.slice ax ks.length cx)) := ⟨HW.1, HW.2.1, HW.2.2⟩
  rw [hl] at hW2 E HX HC ⊢
  clear hx hz HW hl
  cases hr : rightI (n + 1) (It.mk t s ks) 0 with
  | false =>
    rw [hr] at E
    have HR : Hid (writeI (n + 1) (It.mk t s ks) = none) := by
      show writeI (n + 1) (It.mk t s ks) = none
      rw [HN.out, hr]
      simp
    clear hr
    go_enter Tryz.func56, Tryz.ntmps56
    go_wp2_with fail
    rw [← hW2]
    refine E.mono ?_
    rintro e w3 ⟨rfl, hb3⟩
    have H3 : Hid (Below w.heap.size w w3) := HC.out.1.trans (hb3.mono HC.out.1.size)
    clear E hb3 hW2
    go_wp2_with fail
    go_ret2
    exact ⟨by rw [HR.out]; rfl, H3.out⟩
  | true =>
    rw [hr] at E
    have HR : Hid (rightI (n + 1) (It.mk t s ks) 0 = true ∧ writeI (n + 1) (It.mk t s ks) = if (txtI (n + 1) (It.mk t s ks)).length ≤ 4000 then some (txtI (n + 1) (It.mk t s ks)) else none) := by
      refine ⟨hr, ?_⟩
      rw [HN.out, hr]
      simp
    clear hr HN
    go_enter Tryz.func56, Tryz.ntmps56
    go_wp2_with fail
    rw [← hW2]
    refine E.mono ?_
    rintro e w3 ⟨rfl, hb3⟩
    obtain ⟨c0, c1, c2⟩ := HC.out.2.2.below HC.out.2.1 hb3
    have hbw : Below w.heap.size w w3 := HC.out.1.trans (hb3.mono HC.out.1.size)
    have ET := textOf_any n t s ks (.slice ax l cx) 0 w3 (HX.out.1.mono hbw fun _ _ h => ItAt.below hbw h) HX.out.2 HR.out.1
    have H3 : Hid (Below w.heap.size w w3) := hbw
    clear E hb3 hW2 hbw
    rw [show (0 : Nat) + 1 = 1 from rfl] at c1
    rw [show (0 : Nat) + 2 = 2 from rfl] at c2
    go_wp2_with fail
    refine ET.mono ?_
    rintro e w4 ⟨r, rfl, hg, hrl, hb4⟩
    have hssz : (⟨r.toArray⟩ : ByteArray).size = r.length := by show r.toArray.size = _; simp
    have hr9 : r.length ≤ 1000000000 := by have := HX.out.2; omega
    have H4 : Hid (Below w.heap.size w w4 ∧ GoodT r (txtI (n + 1) (It.mk t s ks))) := ⟨H3.out.trans (hb4.mono H3.out.size), hg⟩
    clear ET hb4 hg hrl c0 c1 c2
    by_cases hbig : 4000 < r.length
    · have hbi : (4000 : Int) < (r.length : Int) := by omega
      have HF : Hid (writeI (n + 1) (It.mk t s ks) = none) := by
        show _ = none
        rw [HR.out.2, if_neg]
        intro hle
        have := H4.out.2.1 hle
        rw [this] at hbig
        omega
      go_wp2_with fail
      go_ret2
      exact ⟨by rw [HF.out]; rfl, H4.out.1⟩
    · have hbi : ¬ (4000 : Int) < (r.length : Int) := by omega
      have HF : Hid (writeI (n + 1) (It.mk t s ks) = some r) := by
        show _ = some r
        have hle : (txtI (n + 1) (It.mk t s ks)).length ≤ 4000 := by
          refine Nat.le_of_not_lt fun hlt => ?_
          exact hbig (H4.out.2.2 hlt)
        rw [HR.out.2, if_pos hle, H4.out.2.1 hle]
      go_wp2_with fail
      go_ret2
      exact ⟨by rw [HF.out]; rfl, H4.out.1⟩
theorem implItemText_any : ∀ (n : Nat) (x : It n) (v : Value) (w : World), ItAt w n v x → szI n x ≤ 20000000 → Calls Tryz.prog 56 #[v] w fun e w' => e = .returned (.tuple #[.string ⟨((writeI n x).getD []).toArray⟩, .bool (writeI n x).isSome]) ∧ Below w.heap.size w w'
  | 0, _, _, _, h, _ => h.elim
  | n + 1, x, v, w, hx, hz => by
    obtain ⟨kx, rfl, hkx⟩ := hx
    exact implItemText_step n (It.tag x) (It.text x) (It.kids x) kx w hkx hz
end Go.Proofs.YtnakaeaejfpmkaaGreatDoor

/-
  What the laws over items share: an argument's cells, sizes, an item like itself.
-/
namespace Go.Proofs.YtnakaeaejfpmkaaGreatDoor
open Go.RowKit Der
set_option linter.unusedVariables false

theorem ToIt.at {w w' : World} {n : Nat} {x : It (n + 1)} {k : Value} {fp : List Nat} (ho : OwnK w' w.heap.size n k (It.kids x) fp) : ItAt w' (n + 1) (.agg #[.int .i64 (It.tag x), .string ⟨(It.text x).toArray⟩, k]) x := ⟨k, rfl, ho.at⟩

/-- An argument's three cells, and that they stay. -/
def Arg3 (W : World) (g : Nat) (a b c : Value) : Prop := g < W.heap.size ∧ W.cell? ⟨g, 0, none⟩ = some a ∧ W.cell? ⟨g, 1, none⟩ = some b ∧ W.cell? ⟨g, 2, none⟩ = some c
theorem Arg3.below {W W' : World} {g : Nat} {a b c : Value} (h : Arg3 W g a b c) (hb : Below W.heap.size W W') : Arg3 W' g a b c :=
  ⟨Nat.lt_of_lt_of_le h.1 hb.size, (hb.cell (p := ⟨g, 0, none⟩) h.1).trans h.2.1, (hb.cell (p := ⟨g, 1, none⟩) h.1).trans h.2.2.1, (hb.cell (p := ⟨g, 2, none⟩) h.1).trans h.2.2.2⟩
theorem Arg3.alloc {W : World} {g : Nat} {a b c : Value} (h : Arg3 W g a b c) : (∀ o, (W.alloc o).cell? ⟨g, 0, none⟩ = some a) ∧ (∀ o, (W.alloc o).cell? ⟨g, 1, none⟩ = some b) ∧ ∀ o, (W.alloc o).cell? ⟨g, 2, none⟩ = some c :=
  ⟨fun o => (h.below ((Below.refl _ _).alloc (Nat.le_refl _) o)).2.1, fun o => (h.below ((Below.refl _ _).alloc (Nat.le_refl _) o)).2.2.1, fun o => (h.below ((Below.refl _ _).alloc (Nat.le_refl _) o)).2.2.2⟩
end Go.Proofs.YtnakaeaejfpmkaaGreatDoor

/-
  The program's signedItem.
-/
namespace Go.Proofs.YtnakaeaejfpmkaaGreatDoor
open Go.RowKit Der
set_option linter.unusedVariables false

/-- Where signedItem stands: an item in a variable's block, the result in another. -/
def KG (w W : World) (t s k : Value) : Prop := Below w.heap.size w W ∧ Blk3 W w.heap.size t s k ∧ ∃ x y z, Blk3 W (w.heap.size + 1) x y z
theorem KG.below {w W W' : World} {t s k : Value} (h : KG w W t s k) (hb : Below W.heap.size W W') : KG w W' t s k := by
  obtain ⟨h1, h2, x, y, z, h3⟩ := h
  exact ⟨h1.trans (hb.mono h1.size), h2.below hb, x, y, z, h3.below hb⟩
theorem KG.set {w W : World} {t s k : Value} (h : KG w W t s k) (p q r : Value) : KG w (((W.setCell ⟨w.heap.size + 1, 0, none⟩ p).setCell ⟨w.heap.size + 1, 1, none⟩ q).setCell ⟨w.heap.size + 1, 2, none⟩ r) t s k := by
  obtain ⟨h1, h2, x, y, z, h3⟩ := h
  refine ⟨((h1.setCell (p := ⟨w.heap.size + 1, 0, none⟩) (Nat.le_succ _) _).setCell (p := ⟨w.heap.size + 1, 1, none⟩) (Nat.le_succ _) _).setCell (p := ⟨w.heap.size + 1, 2, none⟩) (Nat.le_succ _) _, ?_, p, q, r, ?_⟩
  · have ne : w.heap.size ≠ w.heap.size + 1 := by omega
    exact ((h2.other (p := ⟨w.heap.size + 1, 0, none⟩) ne _).other (p := ⟨w.heap.size + 1, 1, none⟩) ne _).other (p := ⟨w.heap.size + 1, 2, none⟩) ne _
  · have e := (((show Blk W (w.heap.size + 1) 45 #[x, y, z] from h3).set 0 p).set 1 q).set 2 r
    exact e
theorem KG.start (w : World) (t s k x y z : Value) (W : World) (hW : W = (w.alloc (Obj.cells #[t, s, k] 45)).alloc (Obj.cells #[x, y, z] 45)) : KG w W t s k := by
  have e0 : (w.alloc (Obj.cells #[t, s, k] 45)).heap.size = w.heap.size + 1 := Array.size_push _
  have hb : Below w.heap.size w W := by rw [hW]; exact ((Below.refl _ _).alloc (Nat.le_refl _) _).alloc (by rw [e0]; omega) _
  refine ⟨hb, ?_, x, y, z, ?_⟩
  · rw [hW]; exact (heap_alloc_old _ _ (by rw [e0]; omega)).trans (heap_alloc_new w _)
  · rw [hW]
    have h := heap_alloc_new (w.alloc (Obj.cells #[t, s, k] 45)) (Obj.cells #[x, y, z] 45)
    rw [e0] at h
    exact h
end Go.Proofs.YtnakaeaejfpmkaaGreatDoor
