/-
  The specification's draws of chapter 7 that answer a number, a text, a list.
-/
import Derived.Test.YtbbmobgknnjfbaaJtJ
namespace Go.Proofs.Ytbbmobgknnjfbaa
open Go.RowKit Der
set_option linter.unusedVariables false

set_option maxHeartbeats 1600000 in
set_option maxRecDepth 100000 in
theorem drawIntItem_any (w : World) (a0 : Option Addr) (len cap : Nat) (hl : len ≤ 1048576) (B : Nat) (hB : B ≤ w.heap.size) (hcode : CodeAt B w a0 len) : Calls Try.prog 30 #[.slice a0 len cap] w fun e w' => ∃ k : Int, (-9223372036854775808 ≤ k ∧ k ≤ 9223372036854775807) ∧ e = .returned (.int .i64 k) ∧ Below w.heap.size w w' := by
  go_enter Try.func30, Try.ntmps30
  go_wp2_with fail
  refine (l01New_any B w a0 len cap hl hB hcode).mono ?_
  rintro e w2 ⟨c, rfl, hC2, hb2, hc2⟩
  have HC : Hid (Cur B w2 c a0 len cap ∧ Below w.heap.size w w2 ∧ w.heap.size ≤ c) := ⟨hC2, hb2, hc2⟩
  clear hC2 hb2 hc2
  go_wp2_with fail
  refine (l01PickInt_any w2.heap.size 8 8 B _ c a0 len cap (by decide) (by decide) (by have := HC.out.1.lt; omega) (pickn w2 [(0 : Int), 1, 127, 128, 32768, 1000000000, 1000000001, -1] (by decide)) (HC.out.1.kept ((Below.refl _ _).alloc (Nat.le_refl _) _))).mono ?_
  rintro e w3 ⟨y, hy0, hy1, rfl, hC3, hg3⟩
  have H3 : Hid (Below w.heap.size w w3) := by
    have h := HC.out.2.1.alloc HC.out.2.1.size (Obj.cells ([(0 : Int), 1, 127, 128, 32768, 1000000000, 1000000001, -1].map (Value.int .i64)).toArray 3)
    exact h.trans (grownBy_below hg3 HC.out.2.2 h.size)
  clear hC3 hg3
  go_wp2_with fail
  go_ret
  exact ⟨y, ⟨hy0, hy1⟩, rfl, H3.out⟩

set_option maxHeartbeats 1600000 in
set_option maxRecDepth 100000 in
theorem drawTextItem_any (w : World) (a0 : Option Addr) (len cap : Nat) (hl : len ≤ 1048576) (B : Nat) (hB : B ≤ w.heap.size) (hcode : CodeAt B w a0 len) : Calls Try.prog 32 #[.slice a0 len cap] w fun e w' => ∃ s : ByteArray, s.size ≤ 100 ∧ e = .returned (.string s) ∧ Below w.heap.size w w' := by
  go_enter Try.func32, Try.ntmps32
  go_wp2_with fail
  refine (l01New_any B w a0 len cap hl hB hcode).mono ?_
  rintro e w2 ⟨c, rfl, hC2, hb2, hc2⟩
  have HC : Hid (Cur B w2 c a0 len cap ∧ Below w.heap.size w w2 ∧ w.heap.size ≤ c) := ⟨hC2, hb2, hc2⟩
  clear hC2 hb2 hc2
  go_wp2_with fail
  refine (l01Pick_any w2.heap.size 4 4 B _ c a0 len cap (by decide) (by decide) (by have := HC.out.1.lt; omega) (picks w2 [(⟨#[]⟩ : ByteArray), ⟨#[97]⟩, ⟨#[110, 97, 109, 101]⟩, ⟨#[1]⟩] (by intro s hs; simp only [List.mem_cons, List.not_mem_nil, or_false] at hs; rcases hs with rfl | rfl | rfl | rfl <;> decide)) (HC.out.1.kept ((Below.refl _ _).alloc (Nat.le_refl _) _))).mono ?_
  rintro e w3 ⟨y, hy, rfl, hC3, hg3⟩
  have H3 : Hid (Below w.heap.size w w3) := by
    have h := HC.out.2.1.alloc HC.out.2.1.size (Obj.cells ([(⟨#[]⟩ : ByteArray), ⟨#[97]⟩, ⟨#[110, 97, 109, 101]⟩, ⟨#[1]⟩].map Value.string).toArray 9)
    exact h.trans (grownBy_below hg3 HC.out.2.2 h.size)
  clear hC3 hg3
  go_wp2_with fail
  go_ret
  exact ⟨y, hy, rfl, H3.out⟩

theorem grow_under {B : Nat} {a b : World} {r : Option Nat} (h : a.grownBy b r) (hc : ∀ q, r = some q → B ≤ q) (hB : B ≤ a.heap.size) : Below B a b :=
  ⟨h.os, h.tape, h.output, h.size, fun k hk => h.block k (by omega) (fun e => by have := hc k e.symm; omega)⟩
/-- What a drawn list keeps to. -/
def LsPost (w : World) (e : Ending) (w' : World) : Prop := ∃ (ks : List (It 10)) (ax : Option Addr) (cx : Nat) (fp : List Nat), e = .returned (.slice ax ks.length cx) ∧ OwnK w' w.heap.size 10 (.slice ax ks.length cx) ks fp ∧ ks.length ≤ 3 ∧ (∀ y ∈ ks, szI 10 y ≤ 300000) ∧ Below w.heap.size w w'
set_option maxHeartbeats 3200000 in
set_option maxRecDepth 100000 in
theorem drawListItem_any (w : World) (a0 : Option Addr) (len cap : Nat) (hl : len ≤ 1048576) (B : Nat) (hB : B ≤ w.heap.size) (hcode : CodeAt B w a0 len) : Calls Try.prog 31 #[.slice a0 len cap] w fun e w' => LsPost w e w' := by
  go_enter Try.func31, Try.ntmps31
  go_wp2_with fail
  refine (l01New_any B w a0 len cap hl hB hcode).mono ?_
  rintro e w2 ⟨c, rfl, hC2, hb2, hc2⟩
  have HC : Hid (Cur B w2 c a0 len cap ∧ Below w.heap.size w w2 ∧ w.heap.size ≤ c ∧ c < w2.heap.size) := ⟨hC2, hb2, hc2, hC2.lt⟩
  clear hC2 hb2 hc2
  go_wp2_with fail
  have HL0 : Hid (Cur B (w2.alloc (Obj.cells #[] 26)) c a0 len cap ∧ Below w.heap.size w (w2.alloc (Obj.cells #[] 26)) ∧ GrowK (w2.alloc (Obj.cells #[] 26)) w2.heap.size 9 (.slice (some ⟨w2.heap.size, 0, none⟩) 0 0) [] ∧ w2.heap.size ≤ (w2.alloc (Obj.cells #[] 26)).heap.size) := by
    have hb := (Below.refl w2.heap.size w2).alloc (Nat.le_refl _) (Obj.cells #[] 26)
    exact ⟨HC.out.1.kept hb, HC.out.2.1.alloc HC.out.2.1.size _, GrowK.made w2 w2.heap.size 9 (Nat.le_refl _), hb.size⟩
  have HS : Hid (w.heap.size ≤ c ∧ c < w2.heap.size ∧ w.heap.size ≤ w2.heap.size) := ⟨HC.out.2.2.1, HC.out.2.2.2, HC.out.2.1.size⟩
  clear HC
  go_loopw [4, 5] (fun ov iv wr => ∃ k : Nat, k ≤ 3 ∧ iv = .int .i64 (k : Int) ∧ ∃ (ax : Option Addr) (cx : Nat), ov = .slice ax k cx ∧ Hid (∃ ks : List (It 10), ks.length = k ∧ Cur B wr c a0 len cap ∧ Below w.heap.size w wr ∧ GrowK wr w2.heap.size 9 (.slice ax k cx) ks ∧ (∀ y ∈ ks, szI 10 y ≤ 300000) ∧ w2.heap.size ≤ wr.heap.size)) (fun ov iv _ => 3 - (intOf iv).toNat)
  case atStart => exact ⟨0, Nat.zero_le _, rfl, _, _, rfl, [], rfl, HL0.out.1, HL0.out.2.1, HL0.out.2.2.1, (fun y hy => by cases hy), HL0.out.2.2.2⟩
  case round =>
    obtain ⟨k, hk, rfl, ax, cx, rfl, HR⟩ := hrel
    obtain ⟨ks, hks, hrC, hrb, hrG, hrz, hrs⟩ := HR.out
    have HK : Hid (ks.length = k ∧ Cur B wr c a0 len cap ∧ Below w.heap.size w wr ∧ GrowK wr w2.heap.size 9 (.slice ax k cx) ks ∧ (∀ y ∈ ks, szI 10 y ≤ 300000) ∧ w2.heap.size ≤ wr.heap.size) := ⟨hks, hrC, hrb, hrG, hrz, hrs⟩
    clear HR hks hrC hrb hrG hrz hrs HL0
    go_wp2_with fail
    refine (l01Below_any 4 B wr c a0 len cap (by decide) HK.out.2.1).mono ?_
    rintro e w3 ⟨y, hy0, hy4, _, rfl, hC3, hg3⟩
    have hy4 := hy4 (by decide)
    have H3 : Hid (Cur B w3 c a0 len cap ∧ Below w.heap.size w w3 ∧ GrowB w3 w2.heap.size 9 (.slice ax k cx) ks w3.heap.size ∧ w2.heap.size ≤ w3.heap.size) := by
      have hb := HK.out.2.2.2.1.bound
      have hs := HS.out
      refine ⟨hC3, HK.out.2.2.1.trans (grownBy_below hg3 hs.1 HK.out.2.2.1.size), (hb.kept fun q h1 h2 => hg3.block q h2 (fun e => by injection e with e; omega)).mono hg3.size, Nat.le_trans HK.out.2.2.2.2.2 hg3.size⟩
    clear hC3 hg3
    by_cases hlt : (k : Int) < y
    · go_wp2_with fail
      refine (any_nine B w3 c a0 len cap H3.out.1).mono ?_
      rintro e w4 ⟨z, ax4, l4, cx4, fp, rfl, ho4, hz4, hC4, hg4⟩
      obtain ⟨t4, ht4⟩ : ∃ t4, It.tag z = t4 := ⟨_, rfl⟩
      obtain ⟨s4, hs4⟩ : ∃ s4 : ByteArray, (⟨(It.text z).toArray⟩ : ByteArray) = s4 := ⟨_, rfl⟩
      rw [ht4, hs4]
      have H5 : Hid (Cur B w4 c a0 len cap ∧ Below w.heap.size w w4 ∧ GrowB w4 w2.heap.size 9 (.slice ax k cx) ks w3.heap.size ∧ OwnK w4 w3.heap.size 9 (.slice ax4 l4 cx4) (It.kids z) fp ∧ w3.heap.size ≤ w4.heap.size ∧ It.tag z = t4 ∧ (⟨(It.text z).toArray⟩ : ByteArray) = s4 ∧ szI 10 z ≤ 300000 ∧ w2.heap.size ≤ w3.heap.size) := by
        have hs := HS.out
        exact ⟨hC4, H3.out.2.1.trans (grownBy_below hg4 hs.1 H3.out.2.1.size), H3.out.2.2.1.kept fun q h1 h2 => hg4.block q h2 (fun e => by injection e with e; omega), ho4, hg4.size, ht4, hs4, hz4, H3.out.2.2.2⟩
      clear ho4 hz4 hC4 hg4 ht4 hs4
      go_wp2_with (at_builtin; refine wpList_append_itemB rfl _ _ rfl w2.heap.size 9 (.slice ax k cx) ks z t4 s4 (.slice ax4 l4 cx4) fp H5.out.2.2.2.2.2.1 H5.out.2.2.2.2.2.2.1 rfl _ rfl (by simp) w3.heap.size H5.out.2.2.1 H5.out.2.2.2.2.1 H5.out.2.2.2.1 H5.out.2.2.2.2.2.2.2.2 (by have := HK.out.1; omega) ?_)
      intro g6 cap6 w6 hG6 hgrow6
      have H6 : Hid (Cur B w6 c a0 len cap ∧ Below w.heap.size w w6 ∧ GrowK w6 w2.heap.size 9 (.slice (some ⟨g6, 0, none⟩) (k + 1) cap6) (ks ++ [z]) ∧ w2.heap.size ≤ w6.heap.size) := by
        have hlow : ∀ q, (Value.slice ax k cx).ownBlock = some q → w2.heap.size ≤ q := fun q hq => (H5.out.2.2.1.free.lt q hq).1
        have hb6 := (Below.refl w4.heap.size w4).alloc (Nat.le_refl _) (Obj.cells #[Value.int IntKind.i64 t4, Value.string s4, Value.slice ax4 l4 cx4] 26)
        have hs := HS.out
        have h54 := H5.out.2.2.2.2.1
        have h23 := H5.out.2.2.2.2.2.2.2.2
        rw [HK.out.1] at hG6
        have hbb : Below w2.heap.size (w4.alloc (Obj.cells #[Value.int IntKind.i64 t4, Value.string s4, Value.slice ax4 l4 cx4] 26)) w6 := grow_under hgrow6 hlow (Nat.le_trans h23 (Nat.le_trans h54 hb6.size))
        have hb26 := (hb6.mono (show w2.heap.size ≤ w4.heap.size by omega)).trans hbb
        exact ⟨(H5.out.1.kept hb6).grown hgrow6 (fun q hq => by have := hlow q hq; omega), H5.out.2.1.trans (hb26.mono (by omega)), hG6, Nat.le_trans (by omega) hb26.size⟩
      rw [HK.out.1]
      clear hG6 hgrow6
      go_wp2_with fail
      refine ⟨⟨k + 1, by omega, by go_num, _, _, rfl, ks ++ [z], ?_, H6.out.1, H6.out.2.1, H6.out.2.2.1, ?_, H6.out.2.2.2⟩, by simp [intOf]; omega⟩
      · rw [List.length_append, List.length_singleton, HK.out.1]
      · intro u hu
        rcases List.mem_append.1 hu with hu | hu
        · exact HK.out.2.2.2.2.1 u hu
        · obtain rfl := List.mem_singleton.1 hu
          exact H5.out.2.2.2.2.2.2.2.1
    · go_wp2_with fail
      go_ret
      obtain ⟨fp, hfp⟩ := H3.out.2.2.1.free.own
      refine ⟨ks, ax, cx, fp, by rw [HK.out.1]; rfl, by rw [HK.out.1]; exact OwnK.base HS.out.2.2 hfp, by rw [HK.out.1]; exact hk, HK.out.2.2.2.2.1, H3.out.2.1⟩
end Go.Proofs.Ytbbmobgknnjfbaa
