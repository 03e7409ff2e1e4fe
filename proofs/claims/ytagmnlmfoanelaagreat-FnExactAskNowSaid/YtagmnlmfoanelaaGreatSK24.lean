/-
  Texts of the proof.
-/
import Derived.Deep.RegionLaw
import Derived.Test.YtagmnlmfoanelaaGreatSK23
set_option maxRecDepth 100000
set_option maxHeartbeats 25600000
namespace Go.Proofs.YtagmnlmfoanelaaGreat
open Go.RowKit Der
set_option linter.unusedVariables false
set_option linter.unusedSimpArgs false
theorem specItemText_any (n : Nat) (x : It n) (v : Value) (w : World) (hx : ItAt w n v x) (hz : szI n x <= 20000000) : Calls Tryz.prog 45 #[v] w fun e w' => e = .returned (.tuple #[.string ⟨((writeI n x).getD []).toArray⟩, .bool (writeI n x).isSome]) /\ Below w.heap.size w w' := by
 obtain ⟨t, s, ao, l, cap, rfl⟩ := hx.parts
 obtain ⟨W2, hW2⟩ : ∃ W, W = w.alloc (Obj.cells #[Value.int IntKind.i64 t, Value.string s, Value.slice ao l cap] 87) := ⟨_, rfl⟩
 have HW := one_laid w (.int .i64 t) (.string s) (.slice ao l cap) 87 W2 hW2
 have HX : Hid (ItAt w n (.agg #[.int .i64 t, .string s, .slice ao l cap]) x /\ szI n x <= 20000000) := ⟨hx, hz⟩
 have E := specItemOk_any n x _ W2 (ItAt.below HW.1 hx) hz
 have HC : Hid (Below w.heap.size w W2 /\ w.heap.size < W2.heap.size /\ Cells3 W2 w.heap.size 0 (.int .i64 t) (.string s) (.slice ao l cap)) := by exact ⟨HW.1, HW.2.1, HW.2.2⟩
 have HN : Hid (writeI n x = if rightI n x 0 = true /\ (txtI n x).length <= 4000 then some (txtI n x) else none) := rfl
 clear hx hz HW
 cases hr : rightI n x 0 with
 | false =>
  rw [hr] at E
  have HR : Hid (writeI n x = none) := by
   show writeI n x = none
   rw [HN.out, hr]
   simp
  clear hr
  go_enter Tryz.func45, Tryz.ntmps45
  go_wp2_with fail
  rw [<- hW2]
  refine E.mono ?_
  rintro e w3 ⟨rfl, hb3⟩
  have H3 : Hid (Below w.heap.size w w3) := HC.out.1.trans (hb3.mono HC.out.1.size)
  clear E hb3 hW2
  go_wp2_with fail
  go_ret2
  exact ⟨by rw [HR.out]; rfl, H3.out⟩
 | true =>
  rw [hr] at E
  have htl := txt_le n x
  have HT : Hid ((txtI n x).length <= 400000000) := by have := HX.out.2; show (txtI n x).length <= 400000000; omega
  have HR : Hid (writeI n x = if (txtI n x).length <= 4000 then some (txtI n x) else none) := by
   show writeI n x = _
   rw [HN.out, hr]
   simp
  clear hr htl
  go_enter Tryz.func45, Tryz.ntmps45
  go_wp2_with fail
  rw [<- hW2]
  refine E.mono ?_
  rintro e w3 ⟨rfl, hb3⟩
  obtain ⟨c0, c1, c2⟩ := HC.out.2.2.below HC.out.2.1 hb3
  have H3 : Hid (Below w.heap.size w w3) := HC.out.1.trans (hb3.mono HC.out.1.size)
  have E2 := text_any n x _ w3 (ItAt.below H3.out HX.out.1) HX.out.2
  obtain ⟨T, hT⟩ := zE (txtI n x)
  rw [hT] at E2 HR HT
  have hsz : (⟨T.toArray⟩ : ByteArray).size = T.length := by show T.toArray.size = _; simp
  clear E hb3 hW2 hT
  go_wp2_with fail
  refine E2.mono ?_
  rintro e w4 ⟨rfl, hb4⟩
  have H4 : Hid (Below w.heap.size w w4) := H3.out.trans (hb4.mono H3.out.size)
  clear E2 hb4 c0 c1 c2
  by_cases hle : T.length <= 4000
  ·have hlei : ¬ (4000 : Int) < (T.length : Int) := by omega
   have HR2 : Hid (writeI n x = some T) := HR.out.trans (if_pos hle)
   go_wp2_with fail
   go_ret2
   exact ⟨by rw [HR2.out]; rfl, H4.out⟩
  ·have hlei : (4000 : Int) < (T.length : Int) := by omega
   have HR2 : Hid (writeI n x = none) := HR.out.trans (if_neg hle)
   go_wp2_with fail
   go_ret2
   exact ⟨by rw [HR2.out]; rfl, H4.out⟩
end Go.Proofs.YtagmnlmfoanelaaGreat
namespace Go.Proofs.YtagmnlmfoanelaaGreat
open Go.RowKit Der
set_option linter.unusedVariables false
def numN (n : Int) : Nat := if 0 <= n /\ n <= 1000000000 then n.toNat else 0
theorem numN_le (n : Int) : numN n <= 1000000000 := by unfold numN; split <;> omega
theorem res_cells {w W2 wr : World} {t : TypeId} (h2 : W2 = w.alloc (Obj.cells #[Value.int IntKind.i64 0, Value.string { data := #[] }, Value.slice none 0 0] t)) (hb : Below W2.heap.size W2 wr) :
  (wr.cell? ⟨w.heap.size, 0, none⟩ = some (.int .i64 0) /\ wr.cell? ⟨w.heap.size, 1, none⟩ = some (.string ⟨#[]⟩) /\ wr.cell? ⟨w.heap.size, 2, none⟩ = some (.slice none 0 0)) /\ (∀ j, wr.frozen? ⟨w.heap.size, j, none⟩ = false) /\ Below w.heap.size w wr := by
 have h := one_laid w (.int .i64 0) (.string ⟨#[]⟩) (.slice none 0 0) t W2 h2
 have hh : wr.heap[w.heap.size]? = some (.cells #[.int .i64 0, .string ⟨#[]⟩, .slice none 0 0] t (0, 0)) := by
  rw [hb.block _ h.2.1, h2]
  exact heap_alloc_new w _
 obtain ⟨a, b⟩ := cell_in hh
 exact ⟨a, b, h.1.trans (hb.mono h.1.size)⟩
theorem specIntItem_any (n0 : Int) (w : World) (h64 : -9223372036854775808 <= n0 /\ n0 <= 9223372036854775807) : Calls Tryz.prog 47 #[.int .i64 n0] w fun e w' => e = .returned (.agg #[.int .i64 2, .string ⟨(intT (numN n0)).toArray⟩, .slice none 0 0]) /\ Below w.heap.size w w' := by
 by_cases hin : 0 <= n0 /\ n0 <= 1000000000
 ·obtain ⟨n, rfl⟩ : ∃ n : Nat, n0 = (n : Int) := ⟨n0.toNat, by omega⟩
  have hnn : numN (n : Int) = n := by unfold numN; rw [if_pos hin]; omega
  have hbl := beN_len 9 n
  rw [hnn]
  clear hnn
  go_enter Tryz.func47, Tryz.ntmps47
  go_wp2_with fail
  refine (in_yes (n : Int) 0 1000000000 _ (by omega) (by omega)).mono ?_
  rintro e w' ⟨rfl, rfl⟩
  go_wp2_with fail
  obtain ⟨W2, hW2⟩ : ∃ W, W = w.alloc (Obj.cells #[Value.int IntKind.i64 0, Value.string { data := #[] }, Value.slice none 0 0] 87) := ⟨_, rfl⟩
  rw [<- hW2]
  have HW : Hid (W2 = w.alloc (Obj.cells #[Value.int IntKind.i64 0, Value.string { data := #[] }, Value.slice none 0 0] 87)) := hW2
  clear hW2
  go_loopw [3, 0] (fun sv kv wr => ∃ (m : Nat) (ds : List UInt8), m <= n /\ kv = .int .i64 (m : Int) /\ sv = .string ⟨ds.toArray⟩ /\ Hid (∃ f, m < 256 ^ f /\ beN f m ++ ds = beN 9 n) /\ Hid (Below W2.heap.size W2 wr)) (fun _ kv _ => (intOf kv).toNat)
  case atStart => exact ⟨n, [], Nat.le_refl _, rfl, rfl, ⟨9, by omega, by simp⟩, Below.refl _ _⟩
  case round =>
   obtain ⟨m, ds, hm, rfl, rfl, HD, HB⟩ := hrel
   have hdl : ds.length <= 9 := by
    obtain ⟨f, _, hf⟩ := HD.out
    have := congrArg List.length hf
    rw [List.length_append] at this
    omega
   by_cases hm0 : m = 0
   ·subst hm0
    have HF : Hid (ds = beN 9 n) := by
     obtain ⟨f, _, hf⟩ := HD.out
     rw [beN_nil, List.nil_append] at hf
     exact hf
    obtain ⟨⟨c0, c1, c2⟩, fz, hbw⟩ := res_cells HW.out HB.out
    have HBW : Hid (Below w.heap.size w wr) := hbw
    clear hbw
    cases ds with
    | nil =>
     have HR : Hid (intT n = [0]) := by
      show intT n = [0]
      unfold intT
      rw [<- HF.out]
      decide
     go_wp2_with fail
     refine bodyPost_ret (v := .agg #[.int .i64 2, .string ⟨#[0]⟩, .slice none 0 0]) (by simp [results, Tryz.results47, go_sem, c0, c1, c2]; try rfl) rfl ⟨by rw [HR.out], ?_⟩
     exact ((HBW.out.setCell (p := ⟨w.heap.size, 0, none⟩) (Nat.le_refl _) _).setCell (p := ⟨w.heap.size, 1, none⟩) (Nat.le_refl _) _).setCell (p := ⟨w.heap.size, 2, none⟩) (Nat.le_refl _) _
    | cons b r =>
     have hg0 : ∀ h, (⟨(b :: r).toArray⟩ : ByteArray)[0]'h = b := fun h => rfl
     have hcat : (⟨#[0]⟩ : ByteArray) ++ ⟨(b :: r).toArray⟩ = ⟨(0 :: b :: r).toArray⟩ := by apply ByteArray.ext; simp
     by_cases hb : 128 <= b.toNat
     ·have hbi : (128 : Int) <= (b.toNat : Int) := by omega
      have HR : Hid (intT n = 0 :: b :: r) := by
       show intT n = 0 :: b :: r
       unfold intT
       rw [<- HF.out, if_pos (.inr (UInt8.le_iff_toNat_le.2 hb))]
      have ra := fun W => run_string_add_sum (P := Tryz.prog) W ⟨#[0]⟩ ⟨(b :: r).toArray⟩ (by show 1 + (b :: r).toArray.size <= _; simp at hdl |-; omega)
      go_wp2_with fail
      refine bodyPost_ret (v := .agg #[.int .i64 2, .string ⟨(0 :: b :: r).toArray⟩, .slice none 0 0]) (by simp [results, Tryz.results47, go_sem, c0, c1, c2]; try rfl) rfl ⟨by rw [HR.out], ?_⟩
      exact ((HBW.out.setCell (p := ⟨w.heap.size, 0, none⟩) (Nat.le_refl _) _).setCell (p := ⟨w.heap.size, 1, none⟩) (Nat.le_refl _) _).setCell (p := ⟨w.heap.size, 2, none⟩) (Nat.le_refl _) _
     ·have hbi : ¬ (128 : Int) <= (b.toNat : Int) := by omega
      have HR : Hid (intT n = b :: r) := by
       show intT n = b :: r
       unfold intT
       rw [<- HF.out, if_neg]
       intro h
       rcases h with h | h
       ·simp at h
       ·exact hb (UInt8.le_iff_toNat_le.1 h)
      go_wp2_with fail
      refine bodyPost_ret (v := .agg #[.int .i64 2, .string ⟨(b :: r).toArray⟩, .slice none 0 0]) (by simp [results, Tryz.results47, go_sem, c0, c1, c2]; try rfl) rfl ⟨by rw [HR.out], ?_⟩
      exact ((HBW.out.setCell (p := ⟨w.heap.size, 0, none⟩) (Nat.le_refl _) _).setCell (p := ⟨w.heap.size, 1, none⟩) (Nat.le_refl _) _).setCell (p := ⟨w.heap.size, 2, none⟩) (Nat.le_refl _) _
   ·have hmp : (0 : Int) < (m : Int) := by omega
    have hcv := conv_byte ((m : Int) % 256) (UInt8.ofNat (m % 256)) (by rw [UInt8.toNat_ofNat']; omega)
    have HS : Hid (∃ g, m / 256 < 256 ^ g /\ beN g (m / 256) ++ (UInt8.ofNat (m % 256) :: ds) = beN 9 n) := by
     obtain ⟨f, h1, h2⟩ := HD.out
     exact beN_step h2 hm0 h1
    go_wp2_with fail
    go_roundw
    case rel => exact ⟨m / 256, UInt8.ofNat (m % 256) :: ds, by omega, by go_num, by rw [cat_oneM], HS.out, HB.out.alloc HB.out.size _⟩
    case measure => simp [intOf]; omega
 ·have hnn : numN n0 = 0 := by unfold numN; rw [if_neg hin]
  have HR : Hid (intT (numN n0) = [0]) := by show intT (numN n0) = [0]; rw [hnn]; decide
  clear hnn
  go_enter Tryz.func47, Tryz.ntmps47
  go_wp2_with fail
  refine (in_no n0 0 1000000000 _ (by omega)).mono ?_
  rintro e w' ⟨rfl, rfl⟩
  go_wp2_with fail
  obtain ⟨W2, hW2⟩ : ∃ W, W = w.alloc (Obj.cells #[Value.int IntKind.i64 0, Value.string { data := #[] }, Value.slice none 0 0] 87) := ⟨_, rfl⟩
  rw [<- hW2]
  obtain ⟨⟨c0, c1, c2⟩, fz, hbw⟩ := res_cells hW2 (Below.refl _ _)
  have HBW : Hid (Below w.heap.size w W2) := hbw
  clear hW2 hbw
  go_loopw [3, 0] (fun sv kv wr => kv = .int .i64 0 /\ sv = .string ⟨#[]⟩ /\ wr = W2) (fun _ kv _ => 0)
  case atStart => exact ⟨rfl, rfl, rfl⟩
  case round =>
   obtain ⟨rfl, rfl, rfl⟩ := hrel
   go_wp2_with fail
   refine bodyPost_ret (v := .agg #[.int .i64 2, .string ⟨#[0]⟩, .slice none 0 0]) (by simp [results, Tryz.results47, go_sem, c0, c1, c2]; try rfl) rfl ⟨by rw [HR.out], ?_⟩
   exact ((HBW.out.setCell (p := ⟨w.heap.size, 0, none⟩) (Nat.le_refl _) _).setCell (p := ⟨w.heap.size, 1, none⟩) (Nat.le_refl _) _).setCell (p := ⟨w.heap.size, 2, none⟩) (Nat.le_refl _) _
def Blk3 (w : World) (g : Nat) (a b c : Value) : Prop := w.heap[g]? = some (.cells #[a, b, c] 87 (0, 0))
theorem Blk3.lt {w : World} {g : Nat} {a b c : Value} (h : Blk3 w g a b c) : g < w.heap.size := by
 rcases Nat.lt_or_ge g w.heap.size with h' | h'
 ·exact h'
 ·unfold Blk3 at h; rw [Array.getElem?_eq_none h'] at h; cases h
theorem Blk3.below {w w' : World} {g : Nat} {a b c : Value} (h : Blk3 w g a b c) (hb : Below w.heap.size w w') : Blk3 w' g a b c := (hb.block g h.lt).trans h
theorem Blk3.grown {w w' : World} {g : Nat} {a b c : Value} {row : Option Nat} (h : Blk3 w g a b c) (hg : w.grownBy w' row) (hne : some g ≠ row) : Blk3 w' g a b c := (hg.block g h.lt hne).trans h
theorem Blk3.other {w : World} {g : Nat} {a b c : Value} (h : Blk3 w g a b c) {p : Addr} (hne : g ≠ p.block) (v : Value) : Blk3 (w.setCell p v) g a b c := (heap_setCell_other _ _ _ _ hne).trans h
theorem Blk3.set {w : World} {g : Nat} {a b c : Value} (h : Blk3 w g a b c) (v : Value) : Blk3 (w.setCell ⟨g, 2, none⟩ v) g a b v := by
 unfold Blk3 at h |-
 rw [heap_setCell_same w g 2 _ _ _ h]
 rfl
theorem two_blk (w : World) (p q r : Value) (x y z : Value) : ∀ W, W = (w.alloc (Obj.cells #[p, q, r] 87)).alloc (Obj.cells #[x, y, z] 87) -> Below w.heap.size w W /\ W.heap.size = w.heap.size + 2 /\ Blk3 W w.heap.size p q r /\ Blk3 W (w.heap.size + 1) x y z := by
 rintro W rfl
 have e : (w.alloc (Obj.cells #[p, q, r] 87)).heap.size = w.heap.size + 1 := Array.size_push _
 refine ⟨((Below.refl _ _).alloc (Nat.le_refl _) _).alloc (by rw [e]; omega) _, ?_, ?_, ?_⟩
 ·rw [show ((w.alloc (Obj.cells #[p, q, r] 87)).alloc (Obj.cells #[x, y, z] 87)).heap.size = (w.alloc (Obj.cells #[p, q, r] 87)).heap.size + 1 from Array.size_push _, e]
 ·show ((w.heap.push (Obj.cells #[p, q, r] 87)).push (Obj.cells #[x, y, z] 87))[w.heap.size]? = _
  rw [Array.getElem?_push, if_neg (by rw [Array.size_push]; omega), Array.getElem?_push, if_pos rfl]
 ·have h := heap_alloc_new (w.alloc (Obj.cells #[p, q, r] 87)) (Obj.cells #[x, y, z] 87)
  rw [e] at h
  exact h
theorem GrowK.out {w w' : World} {base n : Nat} {v : Value} {ks : List (It (n + 1))} (h : GrowK w base n v ks) (he : ∀ b, base <= b -> w'.heap[b]? = w.heap[b]?) : GrowK w' base n v ks := by
 obtain ⟨kvs, fps, h1, h2, ho, h3, h4, h5⟩ := h
 refine ⟨kvs, fps, h1, h2, ⟨ho.1, ?_⟩, h3, h4, fun j a b c => ?_⟩
 ·rcases ho.2 with hn | ⟨g, cap, cur, hv, hb, hg, rest⟩
  ·exact .inl hn
  ·exact .inr ⟨g, cap, cur, hv, hb, by rw [he g hb]; exact hg, rest⟩
 ·have := h5 j a b c
  exact this.same fun x hx => he x (OwnK.lt this x hx).1
end Go.Proofs.YtagmnlmfoanelaaGreat
