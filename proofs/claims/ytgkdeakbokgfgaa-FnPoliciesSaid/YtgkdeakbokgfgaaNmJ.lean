/-
  What stays of rules: the specification's JoinPolicies.
-/
import Derived.Test.YtgkdeakbokgfgaaNmD
namespace Go.Proofs.Ytgkdeakbokgfgaa
open Go.RowKit
set_option linter.unusedVariables false

/-- What stays, as the specification tells it. -/
def sjL (now : List Int) (an : Bool) (cert : List Int) : List Int := if 0 ∈ cert then now else cert.filter fun x => an || decide (x ∈ now)
def sjB (an : Bool) (cert : List Int) : Bool := if 0 ∈ cert then an else false
theorem mem_no {l : List Int} {x : Int} (h : ∀ j, j < l.length → ¬ l.getD j 0 = x) : ¬ x ∈ l := fun hm => by
  obtain ⟨j, hj, e⟩ := List.getElem_of_mem hm
  refine h j hj ?_
  rw [List.getD_eq_getElem?_getD, List.getElem?_eq_getElem hj]
  exact e
theorem mem_yes {l : List Int} {x : Int} {j : Nat} (hj : j < l.length) (h : l.getD j 0 = x) : x ∈ l := by
  rw [← h, List.getD_eq_getElem?_getD, List.getElem?_eq_getElem hj]
  exact List.getElem_mem hj
set_option maxHeartbeats 800000 in
set_option maxRecDepth 100000 in
theorem l08In_any (v : Value) (l : List Int) (x : Int) (w : World) (hl : l.length ≤ 1000000000) (h : IntAt w v l) : Calls Try.prog 67 #[v, .int .i64 x] w fun e w' => e = .returned (.bool (decide (x ∈ l))) ∧ w = w' := by
  obtain ⟨ao, cap, rfl, hc⟩ := h.each
  have HC : Hid (∀ j, j < l.length → ∃ g, ao = some ⟨g, 0, none⟩ ∧ g < w.heap.size ∧ w.cell? ⟨g, j, none⟩ = some (.int .i64 (l.getD j 0))) := hc
  clear hc h
  go_enter Try.func67, Try.ntmps67
  go_wp2
  go_loopw [5] (fun iv wr => ∃ k : Nat, k ≤ l.length ∧ iv = .int .i64 k ∧ Hid (∀ j, j < k → ¬ l.getD j 0 = x) ∧ w = wr) (fun iv _ => l.length - (intOf iv).toNat)
  case atStart => exact ⟨0, Nat.zero_le _, rfl, fun j hj => absurd hj (Nat.not_lt_zero _), rfl⟩
  case round =>
    obtain ⟨k, hk, rfl, HI, rfl⟩ := hrel
    by_cases hlt : k < l.length
    · obtain ⟨g, hao, hg, hcx⟩ := HC.out k hlt
      have hki : (k : Int) < (l.length : Int) := by omega
      have hk0 : (0 : Int) ≤ (k : Int) := by omega
      have HQ1 : Hid (l.getD k 0 = x → x ∈ l) := fun q => mem_yes hlt q
      have HQ3 : Hid (¬ l.getD k 0 = x → ∀ j, j < k + 1 → ¬ l.getD j 0 = x) := fun q j hj => by
          by_cases e : j = k
          · rw [e]; exact q
          · exact HI.out j (by omega)
      generalize hy : l.getD k 0 = y at *
      subst hao
      clear HI hy
      by_cases he : y = x
      · have HF : Hid (decide (x ∈ l) = true) := decide_eq_true (HQ1.out he)
        have hq : (y == x) = true := beq_iff_eq.2 he
        clear HQ1 HQ3 he
        go_wp2
        go_ret
        exact ⟨by rw [HF.out]; rfl, rfl⟩
      · have HN : Hid (∀ j, j < k + 1 → ¬ l.getD j 0 = x) := HQ3.out he
        have hq : (y == x) = false := beq_eq_false_iff_ne.2 he
        clear HQ1 HQ3 he
        go_wp2
        go_roundw
        case rel => exact ⟨k + 1, by omega, by go_num, HN, by first | rfl | trivial⟩
        case measure => simp [intOf]; omega
    · have hki : ¬ (k : Int) < (l.length : Int) := by omega
      have HF : Hid (decide (x ∈ l) = false) := decide_eq_false (mem_no fun j hj => HI.out j (by omega))
      go_wp2
      go_ret
      exact ⟨by rw [HF.out]; rfl, rfl⟩
theorem filter_step {f : Int → Bool} {l : List Int} {k : Nat} (h : k < l.length) : (l.take (k + 1)).filter f = (l.take k).filter f ++ (if f (l.getD k 0) = true then [l.getD k 0] else []) := by
  rw [List.take_add_one, List.filter_append, List.getD_eq_getElem?_getD, List.getElem?_eq_getElem h]
  congr 1
  simp only [Option.toList_some, Option.getD_some]
  by_cases hf : f l[k] = true
  · rw [if_pos hf]; simp [hf]
  · rw [if_neg hf]; simp [hf]
theorem grown_low {w w' : World} {b B : Nat} {v : Value} {l : List Int} (h : OwnI w b v l) (hg : w.grownBy w' v.ownBlock) (hb : B ≤ b) : Below B w w' ∨ True := .inr trivial
theorem below_own {w0 w w' : World} {b : Nat} {v : Value} {n : Nat} {xs : List Value} (h0 : Below w0.heap.size w0 w) (h : w.ownsRow b 3 1 v n xs) (hb : w0.heap.size ≤ b) (hg : w.grownBy w' v.ownBlock) : Below w0.heap.size w0 w' :=
  h0.trans ⟨hg.os, hg.tape, hg.output, hg.size, fun k hk => hg.block k (Nat.lt_of_lt_of_le hk h0.size) (fun e => by have := (World.ownsRow.lt h k e.symm).1; omega)⟩
theorem own_aside {w w' : World} {b bu : Nat} {v u : Value} {n : Nat} {xs : List Value} {l : List Int} (h : w.ownsRow b 3 1 v n xs) (hg : w.grownBy w' v.ownBlock) (hu : OwnI w bu u l) (hlt : ∀ g, u.ownBlock = some g → g < b) : OwnI w' bu u l := by
  refine World.ownsRow.kept hu hg ?_
  cases hq : u.ownBlock with
  | none => exact .inl rfl
  | some g =>
    refine .inr fun e => ?_
    have := (World.ownsRow.lt h g e.symm).1
    have := hlt g hq
    omega
theorem own_lt {w : World} {b : Nat} {v : Value} {l : List Int} (h : OwnI w b v l) : ∀ g, v.ownBlock = some g → g < w.heap.size := fun g hg => (World.ownsRow.lt h g hg).2
/-- What JoinPolicies hands out. -/
def JoinPost (w : World) (L : List Int) (b : Bool) (e : Ending) (w' : World) : Prop := ∃ v, e = .returned (.tuple #[v, .bool b]) ∧ OwnI w' w.heap.size v L ∧ Below w.heap.size w w'
set_option maxHeartbeats 3200000 in
set_option maxRecDepth 100000 in
theorem specJoin_any (u v : Value) (now cert : List Int) (an : Bool) (bu bv : Nat) (w : World) (hn : now.length ≤ 100000) (hc : cert.length ≤ 100000) (hu : OwnI w bu u now) (hv : OwnI w bv v cert) : Calls Try.prog 35 #[u, .bool an, v] w fun e w' => JoinPost w (sjL now an cert) (sjB an cert) e w' := by
  obtain ⟨i0, hi, hz0, hz1, hz2⟩ := info_parts info3
  obtain ⟨w1, hw1⟩ : ∃ W, W = w.alloc (Obj.cells #[] 3) := ⟨_, rfl⟩
  have hb1 : Below w.heap.size w w1 := by rw [hw1]; exact (Below.refl _ _).alloc (Nat.le_refl _) _
  have H1 : Hid (Below w.heap.size w w1 ∧ OwnI w1 w.heap.size (.slice (some ⟨w.heap.size, 0, none⟩) 0 0) [] ∧ OwnI w1 bu u now ∧ OwnI w1 bv v cert ∧ w.heap.size ≤ w1.heap.size) := ⟨hb1, by rw [hw1]; exact litI w [] (by decide), hu.stays hb1, hv.stays hb1, hb1.size⟩
  have HL : Hid ((∀ g, u.ownBlock = some g → g < w.heap.size) ∧ ∀ g, v.ownBlock = some g → g < w.heap.size) := ⟨own_lt hu, own_lt hv⟩
  have E1 := l08In_any v cert 0 w1 (by omega) H1.out.2.2.2.1.at
  clear hb1 hu hv
  by_cases h0 : 0 ∈ cert
  · have HR : Hid (sjL now an cert = now ∧ sjB an cert = an) := ⟨by unfold sjL; rw [if_pos h0], by unfold sjB; rw [if_pos h0]⟩
    rw [decide_eq_true h0] at E1
    clear h0
    go_enter Try.func35, Try.ntmps35
    go_wp2_with fail
    rw [← hw1]
    clear hw1
    refine E1.mono ?_
    rintro e w' ⟨rfl, rfl⟩
    go_wp2_with (at_builtin; refine wpList_append_list rfl _ _ 29 rfl w.heap.size i0 Try.underlying29 hi hz0 hz1 hz2 _ 0 [] rfl H1.out.2.1 u now bu H1.out.2.2.1 rfl (by omega) H1.out.2.2.2.2 ?_)
    intro v6 w6 ho6 hg6
    have H6 : Hid (OwnI w6 w.heap.size v6 now ∧ Below w.heap.size w w6) := ⟨by simpa [OwnI] using ho6, below_own H1.out.1 H1.out.2.1 (Nat.le_refl _) hg6⟩
    clear ho6 hg6
    go_wp2_with fail
    go_ret2
    refine ⟨v6, ?_, ?_, H6.out.2⟩
    · rw [HR.out.2]; rfl
    · rw [HR.out.1]; exact H6.out.1
  · have HR : Hid (sjL now an cert = cert.filter (fun x => an || decide (x ∈ now)) ∧ sjB an cert = false) := ⟨by unfold sjL; rw [if_neg h0], by unfold sjB; rw [if_neg h0]⟩
    rw [decide_eq_false h0] at E1
    clear h0
    obtain ⟨f, hf⟩ : ∃ f : Int → Bool, (fun x => an || decide (x ∈ now)) = f := ⟨_, rfl⟩
    rw [hf] at HR
    have HF : Hid ((fun x => an || decide (x ∈ now)) = f) := hf
    clear hf
    obtain ⟨bo, bcap, rfl, hcb⟩ := (H1.out.2.2.2.1.at).each
    clear hcb
    go_enter Try.func35, Try.ntmps35
    go_wp2_with fail
    rw [← hw1]
    clear hw1
    refine E1.mono ?_
    rintro e w' ⟨rfl, rfl⟩
    go_wp2_with fail
    go_loopw [8, 9] (fun ov iv wr => ∃ k : Nat, k ≤ cert.length ∧ iv = .int .i64 k ∧ Hid (OwnI wr w.heap.size ov ((cert.take k).filter f) ∧ Below w.heap.size w wr ∧ OwnI wr bu u now ∧ OwnI wr bv (.slice bo cert.length bcap) cert)) (fun _ iv _ => cert.length - (intOf iv).toNat)
    case atStart => exact ⟨0, Nat.zero_le _, rfl, H1.out.2.1, H1.out.1, H1.out.2.2.1, H1.out.2.2.2.1⟩
    case round =>
      obtain ⟨k, hk, rfl, HI⟩ := hrel
      by_cases hlt : k < cert.length
      · have hki : (k : Int) < (cert.length : Int) := by omega
        have hk0 : (0 : Int) ≤ (k : Int) := by omega
        obtain ⟨bo2, bcap2, hv2, hcb⟩ := (HI.out.2.2.2.at).each
        injection hv2 with e1 e2 e3
        subst e1 e3
        obtain ⟨g, hao, hg, hcx⟩ := hcb k hlt
        have hfs := filter_step (f := f) hlt
        have hfx : f (cert.getD k 0) = (an || decide (cert.getD k 0 ∈ now)) := by rw [← HF.out]
        have hfl : ((cert.take k).filter f).length ≤ k := by have h1 := List.length_filter_le f (cert.take k); rw [List.length_take] at h1; omega
        generalize hx : cert.getD k 0 = x at *
        have EC := l08In_any u now x wr (by omega) HI.out.2.2.1.at
        have HX : Hid ((cert.take (k + 1)).filter f = (cert.take k).filter f ++ (if f x = true then [x] else [])) := hfs
        subst hao
        clear hcb hfs hx e2 H1 E1
        obtain ⟨c, hcc⟩ : ∃ c : Bool, decide (x ∈ now) = c := ⟨_, rfl⟩
        rw [hcc] at EC hfx
        clear hcc
        by_cases hin : (an || c) = true
        · rw [hin] at hfx
          rw [if_pos hfx] at HX
          have HS : Hid (OwnI (wr.alloc (Obj.cells #[Value.int .i64 x] 3)) wr.heap.size (.slice (some ⟨wr.heap.size, 0, none⟩) 1 1) [x] ∧ OwnI (wr.alloc (Obj.cells #[Value.int .i64 x] 3)) w.heap.size u8 ((cert.take k).filter f) ∧ Below w.heap.size w (wr.alloc (Obj.cells #[Value.int .i64 x] 3)) ∧ OwnI (wr.alloc (Obj.cells #[Value.int .i64 x] 3)) bu u now ∧ OwnI (wr.alloc (Obj.cells #[Value.int .i64 x] 3)) bv (.slice (some ⟨g, 0, none⟩) cert.length bcap) cert ∧ w.heap.size ≤ (wr.alloc (Obj.cells #[Value.int .i64 x] 3)).heap.size) := by
            have hb := (Below.refl wr.heap.size wr).alloc (Nat.le_refl _) (Obj.cells #[Value.int .i64 x] 3)
            have hbw := HI.out.2.1.alloc HI.out.2.1.size (Obj.cells #[Value.int .i64 x] 3)
            exact ⟨litI wr [x] (by simp), HI.out.1.stays hb, hbw, HI.out.2.2.1.stays hb, HI.out.2.2.2.stays hb, hbw.size⟩
          clear HI
          cases an with
          | true =>
            go_wp2_with (at_builtin; refine wpList_append_list rfl _ _ 29 rfl w.heap.size i0 Try.underlying29 hi hz0 hz1 hz2 u8 _ _ rfl HS.out.2.1 _ [x] wr.heap.size HS.out.1 rfl (by simp only [List.length_singleton]; omega) HS.out.2.2.2.2.2 ?_)
            intro v9 w9 ho9 hg9
            have H9 : Hid (OwnI w9 w.heap.size v9 ((cert.take (k + 1)).filter f) ∧ Below w.heap.size w w9 ∧ OwnI w9 bu u now ∧ OwnI w9 bv (.slice (some ⟨g, 0, none⟩) cert.length bcap) cert) := by
              refine ⟨?_, below_own HS.out.2.2.1 HS.out.2.1 (Nat.le_refl _) hg9, own_aside HS.out.2.1 hg9 HS.out.2.2.2.1 HL.out.1, own_aside HS.out.2.1 hg9 HS.out.2.2.2.2.1 HL.out.2⟩
              rw [HX.out]
              simpa [OwnI, cellsI_append] using ho9
            clear ho9 hg9
            go_wp2_with fail
            go_roundw
            case rel => exact ⟨k + 1, by omega, by go_num, H9.out⟩
            case measure => simp [intOf]; omega
          | false =>
            have hct : c = true := by simpa using hin
            subst hct
            go_wp2_with fail
            refine EC.mono ?_
            rintro e w' ⟨rfl, rfl⟩
            go_wp2_with (at_builtin; refine wpList_append_list rfl _ _ 29 rfl w.heap.size i0 Try.underlying29 hi hz0 hz1 hz2 u8 _ _ rfl HS.out.2.1 _ [x] wr.heap.size HS.out.1 rfl (by simp only [List.length_singleton]; omega) HS.out.2.2.2.2.2 ?_)
            intro v9 w9 ho9 hg9
            have H9 : Hid (OwnI w9 w.heap.size v9 ((cert.take (k + 1)).filter f) ∧ Below w.heap.size w w9 ∧ OwnI w9 bu u now ∧ OwnI w9 bv (.slice (some ⟨g, 0, none⟩) cert.length bcap) cert) := by
              refine ⟨?_, below_own HS.out.2.2.1 HS.out.2.1 (Nat.le_refl _) hg9, own_aside HS.out.2.1 hg9 HS.out.2.2.2.1 HL.out.1, own_aside HS.out.2.1 hg9 HS.out.2.2.2.2.1 HL.out.2⟩
              rw [HX.out]
              simpa [OwnI, cellsI_append] using ho9
            clear ho9 hg9
            go_wp2_with fail
            go_roundw
            case rel => exact ⟨k + 1, by omega, by go_num, H9.out⟩
            case measure => simp [intOf]; omega
        · have hin2 : (an || c) = false := by simpa using hin
          obtain ⟨rfl, rfl⟩ : an = false ∧ c = false := by
            cases an <;> cases c <;> simp at hin2 ⊢
          rw [hin2] at hfx
          have H9 : Hid (OwnI wr w.heap.size u8 ((cert.take (k + 1)).filter f) ∧ Below w.heap.size w wr ∧ OwnI wr bu u now ∧ OwnI wr bv (.slice (some ⟨g, 0, none⟩) cert.length bcap) cert) := by
            refine ⟨?_, HI.out.2⟩
            rw [HX.out, if_neg (by rw [hfx]; simp), List.append_nil]
            exact HI.out.1
          clear HI HX hfx
          go_wp2_with fail
          refine EC.mono ?_
          rintro e w' ⟨rfl, rfl⟩
          go_wp2_with fail
          go_roundw
          case rel => exact ⟨k + 1, by omega, by go_num, H9.out⟩
          case measure => simp [intOf]; omega
      · have hki : ¬ (k : Int) < (cert.length : Int) := by omega
        have HE : Hid (OwnI wr w.heap.size u8 (sjL now an cert) ∧ Below w.heap.size w wr) := by
          refine ⟨?_, HI.out.2.1⟩
          have h := HI.out.1
          rw [List.take_of_length_le (by omega)] at h
          rw [HR.out.1]
          exact h
        clear HI
        go_wp2_with fail
        go_ret2
        refine ⟨u8, ?_, HE.out.1, HE.out.2⟩
        rw [HR.out.2]
        rfl
end Go.Proofs.Ytgkdeakbokgfgaa
