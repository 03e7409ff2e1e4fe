/-
  Texts of the proof.
-/
import Derived.Deep.RegionLaw
import Derived.Test.YtabfamhaihnccaaGreatSV13
set_option maxRecDepth 100000
set_option maxHeartbeats 25600000
namespace Go.Proofs.YtabfamhaihnccaaGreat
open Go.RowKit Der
set_option linter.unusedVariables false
theorem specItemText_any (n : Nat) (x : It n) (v : Value) (w : World) (hx : ItAt w n v x) (hz : szI n x <= 20000000) : Calls Tryz.prog 119 #[v] w fun e w' => e = .returned (.tuple #[.string ⟨((writeI n x).getD []).toArray⟩, .bool (writeI n x).isSome]) /\ Below w.heap.size w w' := by
 obtain ⟨t, s, ao, l, cap, rfl⟩ := hx.parts
 obtain ⟨W2, hW2⟩ : ∃ W, W = w.alloc (Obj.cells #[Value.int IntKind.i64 t, Value.string s, Value.slice ao l cap] 178) := ⟨_, rfl⟩
 have HW := one_laid w (.int .i64 t) (.string s) (.slice ao l cap) 178 W2 hW2
 have HX : Hid (ItAt w n (.agg #[.int .i64 t, .string s, .slice ao l cap]) x /\ szI n x <= 20000000) := ⟨hx, hz⟩
 have E := specItemOk_any n x _ W2 (ItAt.below HW.1 hx) hz
 have HC : Hid (Below w.heap.size w W2 /\ w.heap.size < W2.heap.size /\ Cells3 W2 w.heap.size 0 (.int .i64 t) (.string s) (.slice ao l cap)) := ⟨HW.1, HW.2.1, HW.2.2⟩
 have HN : Hid (writeI n x = if rightI n x 0 = true /\ (txtI n x).length <= 4000 then some (txtI n x) else none) := rfl
 clear hx hz HW
 cases hr : rightI n x 0 with
 | false =>
  rw [hr] at E
  have HR : Hid (writeI n x = none) := by
   show writeI n x = none
   rw [HN.out, hr]
   simp
  clear hr
  go_enter Tryz.func119, Tryz.ntmps119
  go_wp2_with fail
  rw [<- hW2]
  refine E.mono ?_
  rintro e w3 ⟨rfl, hb3⟩
  have H3 : Hid (Below w.heap.size w w3) := HC.out.1.trans (hb3.mono HC.out.1.size)
  clear E hb3 hW2
  go_wp2_with fail
  go_ret2
  exact ⟨by rw [HR.out]; rfl, H3.out⟩
 | true =>
  rw [hr] at E
  have htl := txt_le n x
  have HT : Hid ((txtI n x).length <= 400000000) := by have := HX.out.2; show (txtI n x).length <= 400000000; omega
  have HR : Hid (writeI n x = if (txtI n x).length <= 4000 then some (txtI n x) else none) := by
   show writeI n x = _
   rw [HN.out, hr]
   simp
  clear hr htl
  go_enter Tryz.func119, Tryz.ntmps119
  go_wp2_with fail
  rw [<- hW2]
  refine E.mono ?_
  rintro e w3 ⟨rfl, hb3⟩
  obtain ⟨c0, c1, c2⟩ := HC.out.2.2.below HC.out.2.1 hb3
  have H3 : Hid (Below w.heap.size w w3) := HC.out.1.trans (hb3.mono HC.out.1.size)
  have E2 := text_any n x _ w3 (ItAt.below H3.out HX.out.1) HX.out.2
  obtain ⟨T, hT⟩ := zE (txtI n x)
  rw [hT] at E2 HR HT
  have hsz : (⟨T.toArray⟩ : ByteArray).size = T.length := by show T.toArray.size = _; simp
  clear E hb3 hW2 hT
  go_wp2_with fail
  refine E2.mono ?_
  rintro e w4 ⟨rfl, hb4⟩
  have H4 : Hid (Below w.heap.size w w4) := H3.out.trans (hb4.mono H3.out.size)
  clear E2 hb4 c0 c1 c2
  by_cases hle : T.length <= 4000
  ·have hlei : ¬ (4000 : Int) < (T.length : Int) := by omega
   have HR2 : Hid (writeI n x = some T) := HR.out.trans (if_pos hle)
   go_wp2_with fail
   go_ret2
   exact ⟨by rw [HR2.out]; rfl, H4.out⟩
  ·have hlei : (4000 : Int) < (T.length : Int) := by omega
   have HR2 : Hid (writeI n x = none) := HR.out.trans (if_neg hle)
   go_wp2_with fail
   go_ret2
   exact ⟨by rw [HR2.out]; rfl, H4.out⟩
theorem specTextItem_any (s : ByteArray) (w : World) : Calls Tryz.prog 155 #[.string s] w fun e w' => e = .returned (.agg #[.int .i64 12, .string s, .slice none 0 0]) /\ Below w.heap.size w w' := by
 go_enter Tryz.func155, Tryz.ntmps155
 go_wp2_with fail
 refine bodyPost_ret (v := .agg #[.int .i64 12, .string s, .slice none 0 0]) (by simp [results, Tryz.results155, go_sem]; try rfl) rfl ⟨rfl, ?_⟩
 exact (Below.refl _ _).alloc (Nat.le_refl _) _
def numN (n : Int) : Nat := if 0 <= n /\ n <= 1000000000 then n.toNat else 0
theorem numN_le (n : Int) : numN n <= 1000000000 := by unfold numN; split <;> omega
theorem res_cells {w W2 wr : World} {t : TypeId} (h2 : W2 = w.alloc (Obj.cells #[Value.int IntKind.i64 0, Value.string { data := #[] }, Value.slice none 0 0] t)) (hb : Below W2.heap.size W2 wr) :
  (wr.cell? ⟨w.heap.size, 0, none⟩ = some (.int .i64 0) /\ wr.cell? ⟨w.heap.size, 1, none⟩ = some (.string ⟨#[]⟩) /\ wr.cell? ⟨w.heap.size, 2, none⟩ = some (.slice none 0 0)) /\ (∀ j, wr.frozen? ⟨w.heap.size, j, none⟩ = false) /\ Below w.heap.size w wr := by
 have h := one_laid w (.int .i64 0) (.string ⟨#[]⟩) (.slice none 0 0) t W2 h2
 have hh : wr.heap[w.heap.size]? = some (.cells #[.int .i64 0, .string ⟨#[]⟩, .slice none 0 0] t (0, 0)) := by
  rw [hb.block _ h.2.1, h2]
  exact heap_alloc_new w _
 obtain ⟨a, b⟩ := cell_in hh
 exact ⟨a, b, h.1.trans (hb.mono h.1.size)⟩
theorem specIntItem_any (n0 : Int) (w : World) (h64 : -9223372036854775808 <= n0 /\ n0 <= 9223372036854775807) : Calls Tryz.prog 154 #[.int .i64 n0] w fun e w' => e = .returned (.agg #[.int .i64 2, .string ⟨(intT (numN n0)).toArray⟩, .slice none 0 0]) /\ Below w.heap.size w w' := by
 by_cases hin : 0 <= n0 /\ n0 <= 1000000000
 ·obtain ⟨n, rfl⟩ : ∃ n : Nat, n0 = (n : Int) := ⟨n0.toNat, by omega⟩
  have hnn : numN (n : Int) = n := by unfold numN; rw [if_pos hin]; omega
  have hbl := beN_len 9 n
  rw [hnn]
  clear hnn
  go_enter Tryz.func154, Tryz.ntmps154
  go_wp2_with fail
  refine (in_yes (n : Int) 0 1000000000 _ (by omega) (by omega)).mono ?_
  rintro e w' ⟨rfl, rfl⟩
  go_wp2_with fail
  obtain ⟨W2, hW2⟩ : ∃ W, W = w.alloc (Obj.cells #[Value.int IntKind.i64 0, Value.string { data := #[] }, Value.slice none 0 0] 178) := ⟨_, rfl⟩
  rw [<- hW2]
  have HW : Hid (W2 = w.alloc (Obj.cells #[Value.int IntKind.i64 0, Value.string { data := #[] }, Value.slice none 0 0] 178)) := hW2
  clear hW2
  go_loopw [3, 0] (fun sv kv wr => ∃ (m : Nat) (ds : List UInt8), m <= n /\ kv = .int .i64 (m : Int) /\ sv = .string ⟨ds.toArray⟩ /\ Hid (∃ f, m < 256 ^ f /\ beN f m ++ ds = beN 9 n) /\ Hid (Below W2.heap.size W2 wr)) (fun _ kv _ => (intOf kv).toNat)
  case atStart => exact ⟨n, [], Nat.le_refl _, rfl, rfl, ⟨9, by omega, by simp⟩, Below.refl _ _⟩
  case round =>
   obtain ⟨m, ds, hm, rfl, rfl, HD, HB⟩ := hrel
   have hdl : ds.length <= 9 := by
    obtain ⟨f, _, hf⟩ := HD.out
    have := congrArg List.length hf
    rw [List.length_append] at this
    omega
   by_cases hm0 : m = 0
   ·subst hm0
    have HF : Hid (ds = beN 9 n) := by
     obtain ⟨f, _, hf⟩ := HD.out
     rw [beN_nil, List.nil_append] at hf
     exact hf
    obtain ⟨⟨c0, c1, c2⟩, fz, hbw⟩ := res_cells HW.out HB.out
    have HBW : Hid (Below w.heap.size w wr) := hbw
    clear hbw
    cases ds with
    | nil =>
     have HR : Hid (intT n = [0]) := by
      show intT n = [0]
      unfold intT
      rw [<- HF.out]
      decide
     go_wp2_with fail
     refine bodyPost_ret (v := .agg #[.int .i64 2, .string ⟨#[0]⟩, .slice none 0 0]) (by simp [results, Tryz.results154, go_sem, c0, c1, c2]; try rfl) rfl ⟨by rw [HR.out], ?_⟩
     exact ((HBW.out.setCell (p := ⟨w.heap.size, 0, none⟩) (Nat.le_refl _) _).setCell (p := ⟨w.heap.size, 1, none⟩) (Nat.le_refl _) _).setCell (p := ⟨w.heap.size, 2, none⟩) (Nat.le_refl _) _
    | cons b r =>
     have hg0 : ∀ h, (⟨(b :: r).toArray⟩ : ByteArray)[0]'h = b := fun h => rfl
     have hcat : (⟨#[0]⟩ : ByteArray) ++ ⟨(b :: r).toArray⟩ = ⟨(0 :: b :: r).toArray⟩ := by apply ByteArray.ext; simp
     by_cases hb : 128 <= b.toNat
     ·have hbi : (128 : Int) <= (b.toNat : Int) := by omega
      have HR : Hid (intT n = 0 :: b :: r) := by
       show intT n = 0 :: b :: r
       unfold intT
       rw [<- HF.out, if_pos (.inr (UInt8.le_iff_toNat_le.2 hb))]
      have ra := fun W => run_string_add_sum (P := Tryz.prog) W ⟨#[0]⟩ ⟨(b :: r).toArray⟩ (by show 1 + (b :: r).toArray.size <= _; simp at hdl |-; omega)
      go_wp2_with fail
      refine bodyPost_ret (v := .agg #[.int .i64 2, .string ⟨(0 :: b :: r).toArray⟩, .slice none 0 0]) (by simp [results, Tryz.results154, go_sem, c0, c1, c2]; try rfl) rfl ⟨by rw [HR.out], ?_⟩
      exact ((HBW.out.setCell (p := ⟨w.heap.size, 0, none⟩) (Nat.le_refl _) _).setCell (p := ⟨w.heap.size, 1, none⟩) (Nat.le_refl _) _).setCell (p := ⟨w.heap.size, 2, none⟩) (Nat.le_refl _) _
     ·have hbi : ¬ (128 : Int) <= (b.toNat : Int) := by omega
      have HR : Hid (intT n = b :: r) := by
       show intT n = b :: r
       unfold intT
       rw [<- HF.out, if_neg]
       intro h
       rcases h with h | h
       ·simp at h
       ·exact hb (UInt8.le_iff_toNat_le.1 h)
      go_wp2_with fail
      refine bodyPost_ret (v := .agg #[.int .i64 2, .string ⟨(b :: r).toArray⟩, .slice none 0 0]) (by simp [results, Tryz.results154, go_sem, c0, c1, c2]; try rfl) rfl ⟨by rw [HR.out], ?_⟩
      exact ((HBW.out.setCell (p := ⟨w.heap.size, 0, none⟩) (Nat.le_refl _) _).setCell (p := ⟨w.heap.size, 1, none⟩) (Nat.le_refl _) _).setCell (p := ⟨w.heap.size, 2, none⟩) (Nat.le_refl _) _
   ·have hmp : (0 : Int) < (m : Int) := by omega
    have hcv := conv_byte ((m : Int) % 256) (UInt8.ofNat (m % 256)) (by rw [UInt8.toNat_ofNat']; omega)
    have HS : Hid (∃ g, m / 256 < 256 ^ g /\ beN g (m / 256) ++ (UInt8.ofNat (m % 256) :: ds) = beN 9 n) := by
     obtain ⟨f, h1, h2⟩ := HD.out
     exact beN_step h2 hm0 h1
    go_wp2_with fail
    go_roundw
    case rel => exact ⟨m / 256, UInt8.ofNat (m % 256) :: ds, by omega, by go_num, by rw [cat_oneM], HS.out, HB.out.alloc HB.out.size _⟩
    case measure => simp [intOf]; omega
 ·have hnn : numN n0 = 0 := by unfold numN; rw [if_neg hin]
  have HR : Hid (intT (numN n0) = [0]) := by show intT (numN n0) = [0]; rw [hnn]; decide
  clear hnn
  go_enter Tryz.func154, Tryz.ntmps154
  go_wp2_with fail
  refine (in_no n0 0 1000000000 _ (by omega)).mono ?_
  rintro e w' ⟨rfl, rfl⟩
  go_wp2_with fail
  obtain ⟨W2, hW2⟩ : ∃ W, W = w.alloc (Obj.cells #[Value.int IntKind.i64 0, Value.string { data := #[] }, Value.slice none 0 0] 178) := ⟨_, rfl⟩
  rw [<- hW2]
  obtain ⟨⟨c0, c1, c2⟩, fz, hbw⟩ := res_cells hW2 (Below.refl _ _)
  have HBW : Hid (Below w.heap.size w W2) := hbw
  clear hW2 hbw
  go_loopw [3, 0] (fun sv kv wr => kv = .int .i64 0 /\ sv = .string ⟨#[]⟩ /\ wr = W2) (fun _ kv _ => 0)
  case atStart => exact ⟨rfl, rfl, rfl⟩
  case round =>
   obtain ⟨rfl, rfl, rfl⟩ := hrel
   go_wp2_with fail
   refine bodyPost_ret (v := .agg #[.int .i64 2, .string ⟨#[0]⟩, .slice none 0 0]) (by simp [results, Tryz.results154, go_sem, c0, c1, c2]; try rfl) rfl ⟨by rw [HR.out], ?_⟩
   exact ((HBW.out.setCell (p := ⟨w.heap.size, 0, none⟩) (Nat.le_refl _) _).setCell (p := ⟨w.heap.size, 1, none⟩) (Nat.le_refl _) _).setCell (p := ⟨w.heap.size, 2, none⟩) (Nat.le_refl _) _
def Blk3 (w : World) (g : Nat) (a b c : Value) : Prop := w.heap[g]? = some (.cells #[a, b, c] 178 (0, 0))
theorem Blk3.lt {w : World} {g : Nat} {a b c : Value} (h : Blk3 w g a b c) : g < w.heap.size := by
 rcases Nat.lt_or_ge g w.heap.size with h' | h'
 ·exact h'
 ·unfold Blk3 at h; rw [Array.getElem?_eq_none h'] at h; cases h
theorem Blk3.below {w w' : World} {g : Nat} {a b c : Value} (h : Blk3 w g a b c) (hb : Below w.heap.size w w') : Blk3 w' g a b c := (hb.block g h.lt).trans h
theorem Blk3.grown {w w' : World} {g : Nat} {a b c : Value} {row : Option Nat} (h : Blk3 w g a b c) (hg : w.grownBy w' row) (hne : some g ≠ row) : Blk3 w' g a b c := (hg.block g h.lt hne).trans h
theorem Blk3.other {w : World} {g : Nat} {a b c : Value} (h : Blk3 w g a b c) {p : Addr} (hne : g ≠ p.block) (v : Value) : Blk3 (w.setCell p v) g a b c := (heap_setCell_other _ _ _ _ hne).trans h
theorem Blk3.set {w : World} {g : Nat} {a b c : Value} (h : Blk3 w g a b c) (v : Value) : Blk3 (w.setCell ⟨g, 2, none⟩ v) g a b v := by
 unfold Blk3 at h |-
 rw [heap_setCell_same w g 2 _ _ _ h]
 rfl
theorem two_blk (w : World) (p q r : Value) (x y z : Value) : ∀ W, W = (w.alloc (Obj.cells #[p, q, r] 178)).alloc (Obj.cells #[x, y, z] 178) -> Below w.heap.size w W /\ W.heap.size = w.heap.size + 2 /\ Blk3 W w.heap.size p q r /\ Blk3 W (w.heap.size + 1) x y z := by
 rintro W rfl
 have e : (w.alloc (Obj.cells #[p, q, r] 178)).heap.size = w.heap.size + 1 := Array.size_push _
 refine ⟨((Below.refl _ _).alloc (Nat.le_refl _) _).alloc (by rw [e]; omega) _, ?_, ?_, ?_⟩
 ·rw [show ((w.alloc (Obj.cells #[p, q, r] 178)).alloc (Obj.cells #[x, y, z] 178)).heap.size = (w.alloc (Obj.cells #[p, q, r] 178)).heap.size + 1 from Array.size_push _, e]
 ·show ((w.heap.push (Obj.cells #[p, q, r] 178)).push (Obj.cells #[x, y, z] 178))[w.heap.size]? = _
  rw [Array.getElem?_push, if_neg (by rw [Array.size_push]; omega), Array.getElem?_push, if_pos rfl]
 ·have h := heap_alloc_new (w.alloc (Obj.cells #[p, q, r] 178)) (Obj.cells #[x, y, z] 178)
  rw [e] at h
  exact h
theorem GrowK.out {w w' : World} {base n : Nat} {v : Value} {ks : List (It (n + 1))} (h : GrowK w base n v ks) (he : ∀ b, base <= b -> w'.heap[b]? = w.heap[b]?) : GrowK w' base n v ks := by
 obtain ⟨kvs, fps, h1, h2, ho, h3, h4, h5⟩ := h
 refine ⟨kvs, fps, h1, h2, ⟨ho.1, ?_⟩, h3, h4, fun j a b c => ?_⟩
 ·rcases ho.2 with hn | ⟨g, cap, cur, hv, hb, hg, rest⟩
  ·exact .inl hn
  ·exact .inr ⟨g, cap, cur, hv, hb, by rw [he g hb]; exact hg, rest⟩
 ·have := h5 j a b c
  exact this.same fun x hx => he x (OwnK.lt this x hx).1
def intI {n : Nat} (x : Int) : It (n + 1) := It.mk 2 (intT (numN x)) []
def txtJ {n : Nat} (s : ByteArray) : It (n + 1) := It.mk 12 s.data.toList []
def bytJ {n : Nat} (s : ByteArray) : It (n + 1) := It.mk 4 s.data.toList []
def flagJ {n : Nat} (b : Bool) : It (n + 1) := It.mk 1 [if b then 255 else 0] []
def lstJ {n : Nat} (ks : List (It n)) : It (n + 1) := It.mk 48 [] ks
def bodyC (c : Ct) : It 3 := lstJ [intI c.serial, txtJ c.issuer, lstJ [intI c.frm, intI c.upto], txtJ c.subject, bytJ c.key, flagJ c.ca, intI c.pathLen, intI c.usage, lstJ (c.pol.map intI), lstJ (c.per.map txtJ), lstJ (c.den.map txtJ)]
def certI (c : Ct) : It 4 := lstJ [bodyC c, bytJ c.sig]
theorem bytes_any (s : ByteArray) (w : World) : Calls Tryz.prog 121 #[.string s] w fun e w' => e = .returned (.agg #[.int .i64 4, .string s, .slice none 0 0]) /\ Below w.heap.size w w' := by
 go_enter Tryz.func121, Tryz.ntmps121
 go_wp2_with fail
 refine bodyPost_ret (v := .agg #[.int .i64 4, .string s, .slice none 0 0]) (by simp [results, Tryz.results121, go_sem]; try rfl) rfl ⟨rfl, ?_⟩
 exact (Below.refl _ _).alloc (Nat.le_refl _) _
theorem flag_any (b : Bool) (w : World) : Calls Tryz.prog 156 #[.bool b] w fun e w' => e = .returned (.agg #[.int .i64 1, .string ⟨[if b then 255 else 0].toArray⟩, .slice none 0 0]) /\ Below w.heap.size w w' := by
 cases b with
 | true =>
  go_enter Tryz.func156, Tryz.ntmps156
  go_wp2_with fail
  refine bodyPost_ret (v := .agg #[.int .i64 1, .string ⟨#[255]⟩, .slice none 0 0]) (by simp [results, Tryz.results156, go_sem]; try rfl) rfl ⟨rfl, ?_⟩
  exact (Below.refl _ _).alloc (Nat.le_refl _) _
 | false =>
  go_enter Tryz.func156, Tryz.ntmps156
  go_wp2_with fail
  refine bodyPost_ret (v := .agg #[.int .i64 1, .string ⟨#[0]⟩, .slice none 0 0]) (by simp [results, Tryz.results156, go_sem]; try rfl) rfl ⟨rfl, ?_⟩
  exact (Below.refl _ _).alloc (Nat.le_refl _) _
theorem own_none (w : World) (base : Nat) : ∀ n, OwnK w base n (.slice none 0 0) [] []
 | 0 => ⟨⟨none, 0, rfl⟩, rfl⟩
 | _ + 1 => ⟨none, 0, rfl, fun _ => rfl, fun h => absurd h (Nat.lt_irrefl _)⟩
theorem both_below {wr w3 : World} {g h o : Nat} {kv t : Value} (hc : wr.cell? ⟨g, 2, none⟩ = some kv /\ wr.cell? ⟨h, o, none⟩ = some t) (hg : g < wr.heap.size) (hh : h < wr.heap.size) (hb : Below wr.heap.size wr w3) : w3.cell? ⟨g, 2, none⟩ = some kv /\ w3.cell? ⟨h, o, none⟩ = some t :=
 ⟨(hb.cell (p := ⟨g, 2, none⟩) hg).trans hc.1, (hb.cell (p := ⟨h, o, none⟩) hh).trans hc.2⟩
theorem both_grown {w5 w6 : World} {g h o : Nat} {kv t : Value} {row : Option Nat} (hc : w5.cell? ⟨g, 2, none⟩ = some kv /\ w5.cell? ⟨h, o, none⟩ = some t) (hg : w5.grownBy w6 row) (n1 : some g ≠ row) (n2 : some h ≠ row) : w6.cell? ⟨g, 2, none⟩ = some kv /\ w6.cell? ⟨h, o, none⟩ = some t :=
 ⟨hg.cell hc.1 n1, hg.cell hc.2 n2⟩
theorem ints_any (n : Nat) (ls : List Int) (v : Value) (w : World) (hz : ls.length <= 20000000) (hwd : Wd ls) (hx : IntAt w v ls) :
  Calls Tryz.prog 157 #[v] w fun e w' => ToIt w (n + 1) (lstJ (ls.map intI)) e w' := by
 obtain ⟨ax, cx, rfl, hcell⟩ := hx.each
 obtain ⟨l, hle⟩ := zE (ls.length)
 have HX : Hid ((∀ j, j < ls.length -> ∃ g, ax = some ⟨g, 0, none⟩ /\ g < w.heap.size /\ w.cell? ⟨g, j, none⟩ = some (.int .i64 (ls.getD j 0))) /\ ls.length = l /\ Wd ls) := ⟨hcell, hle, hwd⟩
 have hlb : l <= 20000000 := by rw [<- hle]; exact hz
 rw [hle]
 clear hx hz hle hcell hwd
 obtain ⟨ks, hks⟩ : ∃ ks : List (It (n + 1)), ls.map intI = ks := ⟨_, rfl⟩
 rw [hks]
 have HK0 : Hid (ls.map intI = ks /\ ks.length = l) := ⟨hks, by rw [<- hks, List.length_map]; exact HX.out.2.1⟩
 clear hks
 go_enter Tryz.func157, Tryz.ntmps157
 go_wp2_with fail
 obtain ⟨W3, hW3⟩ : ∃ W, W = (w.alloc (Obj.cells #[Value.int IntKind.i64 0, Value.string { data := #[] }, Value.slice none 0 0] 178)).alloc (Obj.cells #[Value.int IntKind.i64 48, Value.string { data := #[] }, Value.slice none 0 0] 178) := ⟨_, rfl⟩
 rw [<- hW3]
 have H3 : Hid (Below w.heap.size w W3 /\ W3.heap.size = w.heap.size + 2 /\ Blk3 W3 w.heap.size (.int .i64 0) (.string ⟨#[]⟩) (.slice none 0 0) /\ Blk3 W3 (w.heap.size + 1) (.int .i64 48) (.string ⟨#[]⟩) (.slice none 0 0)) := two_blk w _ _ _ _ _ _ W3 hW3
 clear hW3
 go_loopw [4] (fun iv wr => ∃ k : Nat, k <= l /\ iv = .int .i64 k /\ Hid (∃ kv : Value, Blk3 wr w.heap.size (.int .i64 0) (.string ⟨#[]⟩) (.slice none 0 0) /\ Blk3 wr (w.heap.size + 1) (.int .i64 48) (.string ⟨#[]⟩) kv /\ GrowK wr (w.heap.size + 2) n kv (ks.take k) /\ Below w.heap.size w wr /\ w.heap.size + 2 <= wr.heap.size)) (fun iv _ => l - (intOf iv).toNat)
 case atStart => exact ⟨0, Nat.zero_le _, rfl, _, H3.out.2.2.1, H3.out.2.2.2, GrowK.nil _ _ _, H3.out.1, by rw [H3.out.2.1]; exact Nat.le_refl _⟩
 case round =>
  obtain ⟨k, hk, rfl, HR⟩ := hrel
  obtain ⟨kv, hr1, hr2, hrG, hrB, hrs⟩ := HR.out
  have HK : Hid (Blk3 wr w.heap.size (.int .i64 0) (.string ⟨#[]⟩) (.slice none 0 0) /\ Blk3 wr (w.heap.size + 1) (.int .i64 48) (.string ⟨#[]⟩) kv /\ GrowK wr (w.heap.size + 2) n kv (ks.take k) /\ Below w.heap.size w wr /\ w.heap.size + 2 <= wr.heap.size) := ⟨hr1, hr2, hrG, hrB, hrs⟩
  clear HR hr1 hr2 hrG hrB hrs H3
  by_cases hlt : k < l
  ·have hlti : (k : Int) < (l : Int) := by omega
   have hk0 : (0 : Int) <= (k : Int) := by omega
   have hj0 : k < ls.length := by rw [HX.out.2.1]; exact hlt
   have hj1 : k < ks.length := by rw [HK0.out.2]; exact hlt
   obtain ⟨g1, hax, hg1, hc1⟩ := HX.out.1 k hj0
   have c10 : wr.cell? ⟨g1, k, none⟩ = some (.int .i64 (ls.getD k 0)) := (HK.out.2.2.2.1.cell (p := ⟨g1, k, none⟩) hg1).trans hc1
   have hm : (ls.getD k 0) ∈ ls := by rw [List.getD_eq_getElem?_getD, List.getElem?_eq_getElem hj0]; exact List.getElem_mem _
   obtain ⟨x, hxe⟩ := zE ((ls.getD k 0))
   rw [hxe] at c10 hm
   have hkx : ks[k] = intI x := by
    rw [<- hxe]
    have h := HK0.out.1
    subst h
    simp [List.getD, hj0]
   have E := specIntItem_any x wr.drew (HX.out.2.2 x hm)
   obtain ⟨s3, hs3⟩ : ∃ s3 : ByteArray, (⟨(intT (numN x)).toArray⟩ : ByteArray) = s3 := ⟨_, rfl⟩
   have HT : Hid (It.tag ks[k] = 2 /\ (⟨(It.text ks[k]).toArray⟩ : ByteArray) = s3 /\ It.kids ks[k] = []) := by
    rw [hkx]
    exact ⟨rfl, hs3, rfl⟩
   have E3 : Calls Tryz.prog 154 #[.int .i64 x] wr.drew fun e w' => e = .returned (.agg #[.int .i64 2, .string s3, .slice none 0 0]) /\ Below wr.heap.size wr w' := by
    refine E.mono ?_
    rintro e w' ⟨rfl, hb⟩
    exact ⟨by rw [<- hs3], (Below.refl wr.heap.size wr).drew.trans hb⟩
   obtain ⟨⟨_, _, y2⟩, fy⟩ := cell_in HK.out.2.1
   have htl : (ks.take k).length = k := by rw [List.length_take]; omega
   have HG1 : Hid (g1 < w.heap.size) := hg1
   have HNE : Hid (∀ q, q < w.heap.size + 2 -> some q ≠ kv.ownBlock) := fun q hq e => by have := (HK.out.2.2.1.lt q e.symm).1; omega
   subst hax
   clear hc1 hg1 hxe hkx hm E hs3
   go_wp2_with fail
   have hcs : wr.cell? ⟨w.heap.size + 1, 2, none⟩ = some kv /\ wr.cell? ⟨g1, k, none⟩ = some (.int .i64 x) := ⟨y2, c10⟩
   go_region_law (first
    | (refine step_call rfl 154 _ _ rfl #[.int .i64 x] rfl (by kernel_rfl) ?_; refine E3.mono ?_; rintro e w3 ⟨rfl, hb3⟩; have ho3 : OwnK w3 wr.heap.size n (.slice none 0 0) (It.kids ks[k]) [] := (by rw [HT.out.2.2]; exact own_none _ _ _); have hc3 := both_below hcs (by have := HK.out.2.2.2.2; omega) (by have := HG1.out; have := HK.out.2.2.2.1.size; omega) hb3; have hy3 := hc3.1; have hc4 := fun o => both_below hcs (by have := HK.out.2.2.2.2; omega) (by have := HG1.out; have := HK.out.2.2.2.1.size; omega) (hb3.alloc hb3.size o); have hy4 := fun o => (hc4 o).1; clear hc3; dsimp only)
    | (refine step_append_item0 rfl _ _ rfl (w.heap.size + 2) n kv (ks.take k) ks[k] 2 s3 (.slice none 0 0) [] HT.out.1 HT.out.2.1 rfl _ rfl rfl HK.out.2.2.1 hb3 ho3 HK.out.2.2.2.2 (by omega) ?_; intro g cap w6 hG6 hgrow6; have hy6 := (both_grown (hc4 _) hgrow6 (HNE.out _ (by omega)) (HNE.out _ (by have := HG1.out; omega))).1; have fz6 := (cell_in ((HK.out.2.1.below (hb3.alloc hb3.size _)).grown hgrow6 (HNE.out _ (by omega)))).2))
   all_goals (
    have H6 : Hid (Blk3 w6 w.heap.size (.int .i64 0) (.string ⟨#[]⟩) (.slice none 0 0) /\ Blk3 w6 (w.heap.size + 1) (.int .i64 48) (.string ⟨#[]⟩) kv /\ GrowK w6 (w.heap.size + 2) n (.slice (some ⟨g, 0, none⟩) (k + 1) cap) (ks.take (k + 1)) /\ Below w.heap.size w w6 /\ w.heap.size + 2 <= w6.heap.size) := by
     have hb5 := hb3.alloc hb3.size (Obj.cells #[Value.int IntKind.i64 2, Value.string s3, Value.slice none 0 0] 178)
     have hbw := HK.out.2.2.2.1.trans (hb5.mono HK.out.2.2.2.1.size)
     have e := List.take_append_getElem hj1
     rw [htl, e] at hG6
     exact ⟨(HK.out.1.below hb5).grown hgrow6 (HNE.out _ (by omega)), (HK.out.2.1.below hb5).grown hgrow6 (HNE.out _ (by omega)), hG6, hbw.grown hgrow6 hbw.size (fun q hq => by have := (HK.out.2.2.1.lt q hq).1; omega), Nat.le_trans HK.out.2.2.2.2 (Nat.le_trans hb5.size hgrow6.size)⟩
    clear hG6 hgrow6 hy6 fz6 hy3 hc4 hy4 ho3 hb3 hcs y2 c10 E3
    go_wp2_with fail
    refine ⟨⟨k + 1, by omega, by go_num, .slice (some ⟨g, 0, none⟩) (k + 1) cap, ?_, ?_, ?_, ?_, ?_⟩, by simp [intOf]; omega⟩
    ·exact H6.out.1.other (by show w.heap.size ≠ w.heap.size + 1; omega) _
    ·exact H6.out.2.1.set _
    ·exact H6.out.2.2.1.out fun b hb => heap_setCell_other _ _ _ _ (by show b ≠ w.heap.size + 1; omega)
    ·exact H6.out.2.2.2.1.setCell (p := ⟨w.heap.size + 1, 2, none⟩) (by show w.heap.size <= w.heap.size + 1; omega) _
    ·exact Nat.le_trans H6.out.2.2.2.2 (((Below.refl 0 w6).setCell (p := ⟨w.heap.size + 1, 2, none⟩) (Nat.zero_le _) _).size))
  ·have hlti : ¬ (k : Int) < (l : Int) := by omega
   obtain ⟨⟨q0, q1, q2⟩, _⟩ := cell_in HK.out.2.1
   obtain ⟨⟨r0, r1, r2⟩, rf⟩ := cell_in HK.out.1
   have HE : Hid (∃ fp, OwnK wr (w.heap.size + 2) (n + 1) kv ks fp) := by
    have h := HK.out.2.2.1
    rw [List.take_of_length_le (by have := HK0.out.2; omega)] at h
    exact h.own
   obtain ⟨axe, cape, hkv⟩ := HK.out.2.2.1.shape
   obtain ⟨le, hle⟩ := zE ((ks.take k).length)
   rw [hle] at hkv
   subst hkv
   clear hle
   go_wp2_with fail
   refine bodyPost_ret (v := .agg #[.int .i64 48, .string ⟨#[]⟩, .slice axe le cape]) (by simp [results, Tryz.results157, go_sem, r0, r1, r2]; try rfl) rfl ?_
   obtain ⟨fp, hfp⟩ := HE.out
   refine ⟨.slice axe le cape, fp, rfl, ?_, ?_⟩
   ·refine OwnK.base (base := w.heap.size + 2) (by omega) (hfp.same fun b hb => ?_)
    have h1 := (OwnK.lt hfp b hb).1
    rw [heap_setCell_other _ _ _ _ (by show b ≠ w.heap.size; omega), heap_setCell_other _ _ _ _ (by show b ≠ w.heap.size; omega), heap_setCell_other _ _ _ _ (by show b ≠ w.heap.size; omega)]
   ·exact ((HK.out.2.2.2.1.setCell (p := ⟨w.heap.size, 0, none⟩) (Nat.le_refl _) _).setCell (p := ⟨w.heap.size, 1, none⟩) (Nat.le_refl _) _).setCell (p := ⟨w.heap.size, 2, none⟩) (Nat.le_refl _) _
theorem texts_any (n : Nat) (ls : List ByteArray) (v : Value) (w : World) (hz : ls.length <= 20000000) (hwd : WdT ls) (hx : TxtAt w v ls) :
  Calls Tryz.prog 158 #[v] w fun e w' => ToIt w (n + 1) (lstJ (ls.map txtJ)) e w' := by
 obtain ⟨ax, cx, rfl, hcell⟩ := id hx
 obtain ⟨l, hle⟩ := zE (ls.length)
 have HX : Hid ((∀ j, j < ls.length -> ∃ g, ax = some ⟨g, 0, none⟩ /\ g < w.heap.size /\ w.cell? ⟨g, j, none⟩ = some (.string (ls.getD j ByteArray.empty))) /\ ls.length = l /\ WdT ls) := ⟨hcell, hle, hwd⟩
 have hlb : l <= 20000000 := by rw [<- hle]; exact hz
 rw [hle]
 clear hx hz hle hcell hwd
 obtain ⟨ks, hks⟩ : ∃ ks : List (It (n + 1)), ls.map txtJ = ks := ⟨_, rfl⟩
 rw [hks]
 have HK0 : Hid (ls.map txtJ = ks /\ ks.length = l) := ⟨hks, by rw [<- hks, List.length_map]; exact HX.out.2.1⟩
 clear hks
 go_enter Tryz.func158, Tryz.ntmps158
 go_wp2_with fail
 obtain ⟨W3, hW3⟩ : ∃ W, W = (w.alloc (Obj.cells #[Value.int IntKind.i64 0, Value.string { data := #[] }, Value.slice none 0 0] 178)).alloc (Obj.cells #[Value.int IntKind.i64 48, Value.string { data := #[] }, Value.slice none 0 0] 178) := ⟨_, rfl⟩
 rw [<- hW3]
 have H3 : Hid (Below w.heap.size w W3 /\ W3.heap.size = w.heap.size + 2 /\ Blk3 W3 w.heap.size (.int .i64 0) (.string ⟨#[]⟩) (.slice none 0 0) /\ Blk3 W3 (w.heap.size + 1) (.int .i64 48) (.string ⟨#[]⟩) (.slice none 0 0)) := two_blk w _ _ _ _ _ _ W3 hW3
 clear hW3
 go_loopw [4] (fun iv wr => ∃ k : Nat, k <= l /\ iv = .int .i64 k /\ Hid (∃ kv : Value, Blk3 wr w.heap.size (.int .i64 0) (.string ⟨#[]⟩) (.slice none 0 0) /\ Blk3 wr (w.heap.size + 1) (.int .i64 48) (.string ⟨#[]⟩) kv /\ GrowK wr (w.heap.size + 2) n kv (ks.take k) /\ Below w.heap.size w wr /\ w.heap.size + 2 <= wr.heap.size)) (fun iv _ => l - (intOf iv).toNat)
 case atStart => exact ⟨0, Nat.zero_le _, rfl, _, H3.out.2.2.1, H3.out.2.2.2, GrowK.nil _ _ _, H3.out.1, by rw [H3.out.2.1]; exact Nat.le_refl _⟩
 case round =>
  obtain ⟨k, hk, rfl, HR⟩ := hrel
  obtain ⟨kv, hr1, hr2, hrG, hrB, hrs⟩ := HR.out
  have HK : Hid (Blk3 wr w.heap.size (.int .i64 0) (.string ⟨#[]⟩) (.slice none 0 0) /\ Blk3 wr (w.heap.size + 1) (.int .i64 48) (.string ⟨#[]⟩) kv /\ GrowK wr (w.heap.size + 2) n kv (ks.take k) /\ Below w.heap.size w wr /\ w.heap.size + 2 <= wr.heap.size) := ⟨hr1, hr2, hrG, hrB, hrs⟩
  clear HR hr1 hr2 hrG hrB hrs H3
  by_cases hlt : k < l
  ·have hlti : (k : Int) < (l : Int) := by omega
   have hk0 : (0 : Int) <= (k : Int) := by omega
   have hj0 : k < ls.length := by rw [HX.out.2.1]; exact hlt
   have hj1 : k < ks.length := by rw [HK0.out.2]; exact hlt
   obtain ⟨g1, hax, hg1, hc1⟩ := HX.out.1 k hj0
   have c10 : wr.cell? ⟨g1, k, none⟩ = some (.string (ls.getD k ByteArray.empty)) := (HK.out.2.2.2.1.cell (p := ⟨g1, k, none⟩) hg1).trans hc1
   have hm : (ls.getD k ByteArray.empty) ∈ ls := by rw [List.getD_eq_getElem?_getD, List.getElem?_eq_getElem hj0]; exact List.getElem_mem _
   obtain ⟨x, hxe⟩ := zE ((ls.getD k ByteArray.empty))
   rw [hxe] at c10 hm
   have hkx : ks[k] = txtJ x := by
    rw [<- hxe]
    have h := HK0.out.1
    subst h
    simp [List.getD, hj0]
   have E := specTextItem_any x wr.drew
   obtain ⟨s3, hs3⟩ : ∃ s3 : ByteArray, x = s3 := ⟨_, rfl⟩
   have HT : Hid (It.tag ks[k] = 12 /\ (⟨(It.text ks[k]).toArray⟩ : ByteArray) = s3 /\ It.kids ks[k] = []) := by
    rw [hkx]
    exact ⟨rfl, by rw [<- hs3]; show (⟨x.data.toList.toArray⟩ : ByteArray) = x; simp, rfl⟩
   have E3 : Calls Tryz.prog 155 #[.string x] wr.drew fun e w' => e = .returned (.agg #[.int .i64 12, .string s3, .slice none 0 0]) /\ Below wr.heap.size wr w' := by
    refine E.mono ?_
    rintro e w' ⟨rfl, hb⟩
    exact ⟨by rw [<- hs3], (Below.refl wr.heap.size wr).drew.trans hb⟩
   obtain ⟨⟨_, _, y2⟩, fy⟩ := cell_in HK.out.2.1
   have htl : (ks.take k).length = k := by rw [List.length_take]; omega
   have HG1 : Hid (g1 < w.heap.size) := hg1
   have HNE : Hid (∀ q, q < w.heap.size + 2 -> some q ≠ kv.ownBlock) := fun q hq e => by have := (HK.out.2.2.1.lt q e.symm).1; omega
   subst hax
   clear hc1 hg1 hxe hkx hm E hs3
   go_wp2_with fail
   have hcs : wr.cell? ⟨w.heap.size + 1, 2, none⟩ = some kv /\ wr.cell? ⟨g1, k, none⟩ = some (.string x) := ⟨y2, c10⟩
   go_region_law (first
    | (refine step_call rfl 155 _ _ rfl #[.string x] rfl (by kernel_rfl) ?_; refine E3.mono ?_; rintro e w3 ⟨rfl, hb3⟩; have ho3 : OwnK w3 wr.heap.size n (.slice none 0 0) (It.kids ks[k]) [] := (by rw [HT.out.2.2]; exact own_none _ _ _); have hc3 := both_below hcs (by have := HK.out.2.2.2.2; omega) (by have := HG1.out; have := HK.out.2.2.2.1.size; omega) hb3; have hy3 := hc3.1; have hc4 := fun o => both_below hcs (by have := HK.out.2.2.2.2; omega) (by have := HG1.out; have := HK.out.2.2.2.1.size; omega) (hb3.alloc hb3.size o); have hy4 := fun o => (hc4 o).1; clear hc3; dsimp only)
    | (refine step_append_item0 rfl _ _ rfl (w.heap.size + 2) n kv (ks.take k) ks[k] 12 s3 (.slice none 0 0) [] HT.out.1 HT.out.2.1 rfl _ rfl rfl HK.out.2.2.1 hb3 ho3 HK.out.2.2.2.2 (by omega) ?_; intro g cap w6 hG6 hgrow6; have hy6 := (both_grown (hc4 _) hgrow6 (HNE.out _ (by omega)) (HNE.out _ (by have := HG1.out; omega))).1; have fz6 := (cell_in ((HK.out.2.1.below (hb3.alloc hb3.size _)).grown hgrow6 (HNE.out _ (by omega)))).2))
   all_goals (
    have H6 : Hid (Blk3 w6 w.heap.size (.int .i64 0) (.string ⟨#[]⟩) (.slice none 0 0) /\ Blk3 w6 (w.heap.size + 1) (.int .i64 48) (.string ⟨#[]⟩) kv /\ GrowK w6 (w.heap.size + 2) n (.slice (some ⟨g, 0, none⟩) (k + 1) cap) (ks.take (k + 1)) /\ Below w.heap.size w w6 /\ w.heap.size + 2 <= w6.heap.size) := by
     have hb5 := hb3.alloc hb3.size (Obj.cells #[Value.int IntKind.i64 12, Value.string s3, Value.slice none 0 0] 178)
     have hbw := HK.out.2.2.2.1.trans (hb5.mono HK.out.2.2.2.1.size)
     have e := List.take_append_getElem hj1
     rw [htl, e] at hG6
     exact ⟨(HK.out.1.below hb5).grown hgrow6 (HNE.out _ (by omega)), (HK.out.2.1.below hb5).grown hgrow6 (HNE.out _ (by omega)), hG6, hbw.grown hgrow6 hbw.size (fun q hq => by have := (HK.out.2.2.1.lt q hq).1; omega), Nat.le_trans HK.out.2.2.2.2 (Nat.le_trans hb5.size hgrow6.size)⟩
    clear hG6 hgrow6 hy6 fz6 hy3 hc4 hy4 ho3 hb3 hcs y2 c10 E3
    go_wp2_with fail
    refine ⟨⟨k + 1, by omega, by go_num, .slice (some ⟨g, 0, none⟩) (k + 1) cap, ?_, ?_, ?_, ?_, ?_⟩, by simp [intOf]; omega⟩
    ·exact H6.out.1.other (by show w.heap.size ≠ w.heap.size + 1; omega) _
    ·exact H6.out.2.1.set _
    ·exact H6.out.2.2.1.out fun b hb => heap_setCell_other _ _ _ _ (by show b ≠ w.heap.size + 1; omega)
    ·exact H6.out.2.2.2.1.setCell (p := ⟨w.heap.size + 1, 2, none⟩) (by show w.heap.size <= w.heap.size + 1; omega) _
    ·exact Nat.le_trans H6.out.2.2.2.2 (((Below.refl 0 w6).setCell (p := ⟨w.heap.size + 1, 2, none⟩) (Nat.zero_le _) _).size))
  ·have hlti : ¬ (k : Int) < (l : Int) := by omega
   obtain ⟨⟨q0, q1, q2⟩, _⟩ := cell_in HK.out.2.1
   obtain ⟨⟨r0, r1, r2⟩, rf⟩ := cell_in HK.out.1
   have HE : Hid (∃ fp, OwnK wr (w.heap.size + 2) (n + 1) kv ks fp) := by
    have h := HK.out.2.2.1
    rw [List.take_of_length_le (by have := HK0.out.2; omega)] at h
    exact h.own
   obtain ⟨axe, cape, hkv⟩ := HK.out.2.2.1.shape
   obtain ⟨le, hle⟩ := zE ((ks.take k).length)
   rw [hle] at hkv
   subst hkv
   clear hle
   go_wp2_with fail
   refine bodyPost_ret (v := .agg #[.int .i64 48, .string ⟨#[]⟩, .slice axe le cape]) (by simp [results, Tryz.results158, go_sem, r0, r1, r2]; try rfl) rfl ?_
   obtain ⟨fp, hfp⟩ := HE.out
   refine ⟨.slice axe le cape, fp, rfl, ?_, ?_⟩
   ·refine OwnK.base (base := w.heap.size + 2) (by omega) (hfp.same fun b hb => ?_)
    have h1 := (OwnK.lt hfp b hb).1
    rw [heap_setCell_other _ _ _ _ (by show b ≠ w.heap.size; omega), heap_setCell_other _ _ _ _ (by show b ≠ w.heap.size; omega), heap_setCell_other _ _ _ _ (by show b ≠ w.heap.size; omega)]
   ·exact ((HK.out.2.2.2.1.setCell (p := ⟨w.heap.size, 0, none⟩) (Nat.le_refl _) _).setCell (p := ⟨w.heap.size, 1, none⟩) (Nat.le_refl _) _).setCell (p := ⟨w.heap.size, 2, none⟩) (Nat.le_refl _) _
end Go.Proofs.YtabfamhaihnccaaGreat
