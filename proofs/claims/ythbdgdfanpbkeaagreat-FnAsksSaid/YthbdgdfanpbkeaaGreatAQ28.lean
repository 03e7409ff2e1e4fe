/-
  Texts of the proof.
-/
import Derived.Test.YthbdgdfanpbkeaaGreatChecked
import Derived.WalkKit
import Derived.WalkSpells
import Derived.WalkLawsBesides
import Derived.Handy
import Derived.Deep.QuietTactic
import Derived.BigQuiet
import Derived.Deep.RegionHeld3
import Derived.Deep.AppendLies
import Derived.Laws.Bits128
import Derived.Test.YthbdgdfanpbkeaaGreatAQ27
set_option maxRecDepth 100000
set_option maxHeartbeats 25600000
namespace Go.Proofs.YthbdgdfanpbkeaaGreat
open Go.RowKit Der
set_option linter.unusedVariables false
def FiPost (n : Nat) (T : ByteArray) (w : World) (e : Ending) (w' : World) : Prop := Below w.heap.size w w' /\
 ((rdG n T.data.toList = none /\ ∃ (t : Int) (s : ByteArray) (ax : Option Addr) (l cx : Nat) (s2 : ByteArray), e = .returned (.tuple #[.agg #[.int .i64 t, .string s, .slice ax l cx], .string s2, .bool false])) ∨
 ∃ (x : It n) (u : Nat) (t : Int) (s : ByteArray) (ax : Option Addr) (l cx : Nat) (fp : List Nat), rdG n T.data.toList = some (x, u) /\ e = .returned (.tuple #[.agg #[.int .i64 t, .string s, .slice ax l cx], .string (T.extract u T.size), .bool true]) /\ Own1 w' w.heap.size n t s (.slice ax l cx) x fp)
def FiC (n : Nat) : Prop := ∀ (T : ByteArray) (w : World), T.size <= 4000 -> T.size < n -> Calls Tryz.prog 72 #[.string T] w fun e w' => FiPost n T w e w'
def KiPost (n : Nat) (T : ByteArray) (w : World) (e : Ending) (w' : World) : Prop := Below w.heap.size w w' /\
 ((kidsL (rdG n) T.size T.data.toList = none /\ e = .returned (.tuple #[.slice none 0 0, .bool false])) ∨
 ∃ (ks : List (It n)) (ax : Option Addr) (l cx : Nat) (fp : List Nat), kidsL (rdG n) T.size T.data.toList = some ks /\ e = .returned (.tuple #[.slice ax l cx, .bool true]) /\ OwnK w' w.heap.size n (.slice ax l cx) ks fp)
def KiC (n : Nat) : Prop := ∀ (T : ByteArray) (w : World), T.size <= 4000 -> T.size < n -> Calls Tryz.prog 89 #[.string T] w fun e w' => KiPost n T w e w'
theorem rdG_cons (n : Nat) (b : UInt8) (r : List UInt8) : rdG (n + 1) (b :: r) = match sizeG r with
  | none => none
  | some (sz, c) => if (r.drop c).length < sz then none
   else if b.toNat ≠ 48 then some (It.mk (b.toNat : Int) ((r.drop c).take sz) [], 1 + c + sz)
   else match kidsL (rdG n) ((r.drop c).take sz).length ((r.drop c).take sz) with
    | none => none
    | some ks => some (It.mk (b.toNat : Int) [] ks, 1 + c + sz) := rfl
theorem empty_of {T : ByteArray} (h : T.size = 0) : T = ⟨#[]⟩ := by
 cases T with
 | mk d => congr 1; exact Array.eq_empty_of_size_eq_zero h
theorem first_step (n : Nat) (KI : Hid (KiC n)) : FiC (n + 1) := fun T w hT hTn => by
 obtain ⟨⟨r0, r1, r2⟩, hbw⟩ := res_is w (.int .i64 0) (.string ⟨#[]⟩) (.slice none 0 0) 41
 by_cases h0 : T.size = 0
 ·have hT0 := empty_of h0
  subst hT0
  go_enter Tryz.func72, Tryz.ntmps72
  go_wp2_with fail
  refine bodyPost_ret (v := .tuple #[.agg #[.int .i64 0, .string ⟨#[]⟩, .slice none 0 0], .string ⟨#[]⟩, .bool false]) (by simp [results, Tryz.results72, go_sem, r0, r1, r2]; try rfl) rfl ?_
  exact ⟨hbw, .inl ⟨rfl, _, _, _, _, _, _, rfl⟩⟩
 obtain ⟨b, r, he, hrl, hg0, hr1⟩ := list_cons (T := T) (by omega)
 have hne : T.toList.isEmpty = false := not_empty (by omega)
 have HBL : Hid (b.toNat < 256) := b.toNat_lt
 have h0i : (0 : Int) < (T.size : Int) := by omega
 have h0n : 0 < T.size := by omega
 have h1n : 1 <= T.size := by omega
 have h1i : (1 : Int) <= (T.size : Int) := by omega
 have wb : IntKind.i64.wrap (b.toNat : Int) = (b.toNat : Int) := by rw [IntKind.wrap_i64]; have := HBL.out; omega
 have HE : Hid (T.data.toList = b :: r /\ (T.extract 1 T.size).data.toList = r /\ r.length + 1 = T.size) := ⟨he, by
  rw [ext_list, <- hr1]
  exact List.take_of_length_le (by omega), hrl⟩
 have H1 : Hid (Blk3 (w.alloc (Obj.cells #[Value.int IntKind.i64 0, Value.string { data := #[] }, Value.slice none 0 0] 41)) w.heap.size (.int .i64 0) (.string ⟨#[]⟩) (.slice none 0 0) /\ Below w.heap.size w (w.alloc (Obj.cells #[Value.int IntKind.i64 0, Value.string { data := #[] }, Value.slice none 0 0] 41))) := ⟨heap_alloc_new w _, hbw⟩
 obtain ⟨W1, hW1⟩ : ∃ W, W = w.alloc (Obj.cells #[Value.int IntKind.i64 0, Value.string { data := #[] }, Value.slice none 0 0] 41) := ⟨_, rfl⟩
 rw [<- hW1] at H1
 have EL := readLength_any (T.extract 1 T.size) W1 (by rw [ByteArray.size_extract]; omega)
 clear he hr1 hrl r0 r1 r2 hbw
 go_enter Tryz.func72, Tryz.ntmps72
 go_wp2_with fail
 rw [<- hW1]
 clear hW1
 refine EL.mono ?_
 clear EL
 rintro e w2 ⟨hb2, hcase⟩
 have H2 : Hid (Blk3 w2 w.heap.size (.int .i64 0) (.string ⟨#[]⟩) (.slice none 0 0) /\ Below w.heap.size w w2 /\ w.heap.size < w2.heap.size) := ⟨H1.out.1.below hb2, H1.out.2.trans (hb2.mono H1.out.2.size), Nat.lt_of_lt_of_le H1.out.1.lt hb2.size⟩
 obtain ⟨⟨r0, r1, r2⟩, rf⟩ := cell_in H2.out.1
 clear H1 hb2
 rw [HE.out.2.1] at hcase
 rcases hcase with ⟨hnone, za, zb, hza, hzb, rfl⟩ | ⟨z, c, hsome, rfl⟩
 ·have HN : Hid (rdG (n + 1) T.data.toList = none) := by show rdG (n + 1) T.data.toList = none; rw [HE.out.1, rdG_cons, hnone]
  have ws : IntKind.i64.wrap (1 + (zb : Int)) = 1 + (zb : Int) := by rw [IntKind.wrap_i64]; omega
  clear hnone
  go_wp2_with fail
  refine bodyPost_ret (v := .tuple #[.agg #[.int .i64 0, .string ⟨#[]⟩, .slice none 0 0], .string ⟨#[]⟩, .bool false]) (by simp [results, Tryz.results72, go_sem, r0, r1, r2]; try rfl) rfl ?_
  exact ⟨((H2.out.2.1.setCell (p := ⟨w.heap.size, 0, none⟩) (Nat.le_refl _) _).setCell (p := ⟨w.heap.size, 1, none⟩) (Nat.le_refl _) _).setCell (p := ⟨w.heap.size, 2, none⟩) (Nat.le_refl _) _, .inl ⟨HN.out, _, _, _, _, _, _, rfl⟩⟩
 obtain ⟨-, -, hcr, hz6⟩ := sizeG_some hsome
 have hrT := HE.out.2.2
 obtain ⟨st, hst⟩ := zE (1 + c)
 have hsT : st <= T.size := by omega
 have ws : IntKind.i64.wrap (1 + (c : Int)) = (st : Int) := by rw [IntKind.wrap_i64]; omega
 have wd : IntKind.i64.wrap ((T.size : Int) - (st : Int)) = (T.size : Int) - (st : Int) := by rw [IntKind.wrap_i64]; omega
 have hdl : (r.drop c).length = T.size - st := by rw [List.length_drop]; omega
 by_cases hbig : T.size - st < z
 ·have hbi : (T.size : Int) - (st : Int) < (z : Int) := by omega
  have HN : Hid (rdG (n + 1) T.data.toList = none) := by
   show rdG (n + 1) T.data.toList = none
   rw [HE.out.1, rdG_cons, hsome]
   show (if (r.drop c).length < z then none else _) = none
   rw [if_pos (by omega)]
  clear hsome hdl
  go_wp2_with fail
  refine bodyPost_ret (v := .tuple #[.agg #[.int .i64 0, .string ⟨#[]⟩, .slice none 0 0], .string ⟨#[]⟩, .bool false]) (by simp [results, Tryz.results72, go_sem, r0, r1, r2]; try rfl) rfl ?_
  exact ⟨((H2.out.2.1.setCell (p := ⟨w.heap.size, 0, none⟩) (Nat.le_refl _) _).setCell (p := ⟨w.heap.size, 1, none⟩) (Nat.le_refl _) _).setCell (p := ⟨w.heap.size, 2, none⟩) (Nat.le_refl _) _, .inl ⟨HN.out, _, _, _, _, _, _, rfl⟩⟩
 have hbi : ¬ (T.size : Int) - (st : Int) < (z : Int) := by omega
 obtain ⟨q, hq⟩ := zE (st + z)
 have wq : IntKind.i64.wrap ((st : Int) + (z : Int)) = (q : Int) := by rw [IntKind.wrap_i64]; omega
 have hqT : q <= T.size := by omega
 have hsq : st <= q := by omega
 have hqi : (q : Int) <= (T.size : Int) := by omega
 have hs0 : (0 : Int) <= (st : Int) := by omega
 have hq0 : (0 : Int) <= (q : Int) := by omega
 have hsqi : (st : Int) <= (q : Int) := by omega
 have HS : Hid (sizeG r = some (z, c) /\ ¬ (r.drop c).length < z /\ (r.drop c).take z = (T.extract st q).data.toList /\ 1 + c + z = q /\ (T.extract st q).size < n /\ (T.extract st q).size <= 4000) := by
  refine ⟨hsome, by omega, ?_, by omega, by rw [ByteArray.size_extract]; omega, by rw [ByteArray.size_extract]; omega⟩
  rw [ext_list, HE.out.1, <- hst, Nat.add_comm 1 c, List.drop_succ_cons, show q - (c + 1) = z by omega]
 obtain ⟨W3, hW3⟩ : ∃ W, W = w2.alloc (Obj.cells #[Value.int IntKind.i64 (b.toNat : Int), Value.string { data := #[] }, Value.slice none 0 0] 41) := ⟨_, rfl⟩
 obtain ⟨gx, hgx⟩ := zE (w2.heap.size)
 have H3 : Hid (Blk3 W3 w.heap.size (.int .i64 0) (.string ⟨#[]⟩) (.slice none 0 0) /\ Blk3 W3 gx (.int .i64 (b.toNat : Int)) (.string ⟨#[]⟩) (.slice none 0 0) /\ Below w.heap.size w W3 /\ w.heap.size < gx /\ gx < W3.heap.size) := by
  have hb3 : Below w2.heap.size w2 W3 := by rw [hW3]; exact (Below.refl _ _).alloc (Nat.le_refl _) _
  have hx : Blk3 W3 gx (.int .i64 (b.toNat : Int)) (.string ⟨#[]⟩) (.slice none 0 0) := by rw [hW3, <- hgx]; exact heap_alloc_new w2 _
  exact ⟨H2.out.1.below hb3, hx, H2.out.2.1.trans (hb3.mono H2.out.2.1.size), by rw [<- hgx]; exact H2.out.2.2, hx.lt⟩
 clear hsome hdl hst hq hcr hz6 hrT H2
 by_cases h48 : b.toNat ≠ 48
 ·have h48i : ((b.toNat : Int) == 48) = false := by simp; omega
  have h48j : ¬ (b.toNat : Int) = 48 := by omega
  have HR : Hid (rdG (n + 1) T.data.toList = some (It.mk (b.toNat : Int) (T.extract st q).data.toList [], q)) := by
   show rdG (n + 1) T.data.toList = _
   rw [HE.out.1, rdG_cons, HS.out.1]
   show (if (r.drop c).length < z then none else _) = _
   rw [if_neg HS.out.2.1, if_pos h48, HS.out.2.2.1, HS.out.2.2.2.1]
  have EC := cloneB_any (T.extract st q) W3 (by have := HS.out.2.2.2.2.2; omega)
  go_wp2_with fail
  rw [<- hW3]
  clear hW3
  refine EC.mono ?_
  clear EC
  rintro e w4 ⟨rfl, hb4⟩
  clear hgx
  have H4 : Hid (Blk3 w4 w.heap.size (.int .i64 0) (.string ⟨#[]⟩) (.slice none 0 0) /\ Blk3 w4 gx (.int .i64 (b.toNat : Int)) (.string ⟨#[]⟩) (.slice none 0 0) /\ Below w.heap.size w w4) := ⟨H3.out.1.below hb4, H3.out.2.1.below hb4, H3.out.2.2.1.trans (hb4.mono H3.out.2.2.1.size)⟩
  have hgne : gx ≠ w.heap.size := by have := H3.out.2.2.2.1; omega
  have hgn2 : w.heap.size ≠ gx := fun e => hgne e.symm
  obtain ⟨⟨r0, r1, r2⟩, rf⟩ := cell_in H4.out.1
  obtain ⟨⟨x0, x1, x2⟩, xf⟩ := cell_in H4.out.2.1
  clear hb4
  go_wp2_with fail
  go_region
  all_goals (
   go_wp2_with fail
   refine bodyPost_ret (v := .tuple #[.agg #[.int .i64 (b.toNat : Int), .string (T.extract st q), .slice none 0 0], .string (T.extract q T.size), .bool true]) (by simp [results, Tryz.results72, go_sem, r0, r1, r2]; try rfl) rfl ?_
   have hb := H4.out.2.2.setCell (p := ⟨gx, 1, none⟩) (show w.heap.size <= gx by have := H3.out.2.2.2.1; omega) (Value.string (T.extract st q))
   refine ⟨((hb.drew.setCell (p := ⟨w.heap.size, 0, none⟩) (Nat.le_refl _) _).setCell (p := ⟨w.heap.size, 1, none⟩) (Nat.le_refl _) _).setCell (p := ⟨w.heap.size, 2, none⟩) (Nat.le_refl _) _, .inr ⟨_, _, (b.toNat : Int), T.extract st q, none, 0, 0, [], HR.out, rfl, rfl, bytes_back _, own_nil _ _ _⟩⟩)
 ·have h48i : ((b.toNat : Int) == 48) = true := by simp; omega
  have h48j : (b.toNat : Int) = 48 := by omega
  have hlen : ((r.drop c).take z).length = (T.extract st q).size := by rw [HS.out.2.2.1]; rfl
  have HR : Hid (∀ o, kidsL (rdG n) (T.extract st q).size (T.extract st q).data.toList = o -> rdG (n + 1) T.data.toList = match o with
    | none => none
    | some ks => some (It.mk 48 [] ks, q)) := fun o ho => by
   rw [HE.out.1, rdG_cons, HS.out.1]
   show (if (r.drop c).length < z then none else _) = _
   rw [if_neg HS.out.2.1, if_neg h48, hlen, HS.out.2.2.1, ho, h48j, HS.out.2.2.2.1]
  have EK := KI.out (T.extract st q) W3 HS.out.2.2.2.2.2 HS.out.2.2.2.2.1
  rw [h48j] at hW3 H3
  clear hlen
  go_wp2_with fail
  rw [<- hW3]
  clear hW3
  refine EK.mono ?_
  clear EK hgx
  rintro e w4 ⟨hb4, hcase⟩
  have H4 : Hid (Blk3 w4 w.heap.size (.int .i64 0) (.string ⟨#[]⟩) (.slice none 0 0) /\ Blk3 w4 gx (.int .i64 48) (.string ⟨#[]⟩) (.slice none 0 0) /\ Below w.heap.size w w4) := ⟨H3.out.1.below hb4, H3.out.2.1.below hb4, H3.out.2.2.1.trans (hb4.mono H3.out.2.2.1.size)⟩
  have hgne : gx ≠ w.heap.size := by have := H3.out.2.2.2.1; omega
  have hgn2 : w.heap.size ≠ gx := fun e => hgne e.symm
  obtain ⟨⟨r0, r1, r2⟩, rf⟩ := cell_in H4.out.1
  obtain ⟨⟨x0, x1, x2⟩, xf⟩ := cell_in H4.out.2.1
  clear hb4
  rcases hcase with ⟨hnone, rfl⟩ | ⟨ks, ax, l, cx, fp, hsome, rfl, hown⟩
  ·have HN : Hid (rdG (n + 1) T.data.toList = none) := HR.out none hnone
   clear hnone
   go_wp2_with fail
   go_region
   all_goals (
    go_wp2_with fail
    refine bodyPost_ret (v := .tuple #[.agg #[.int .i64 48, .string ⟨#[]⟩, .slice none 0 0], .string (T.extract q T.size), .bool false]) (by simp [results, Tryz.results72, go_sem, r0, r1, r2]; try rfl) rfl ?_
    have hb := H4.out.2.2.setCell (p := ⟨gx, 2, none⟩) (show w.heap.size <= gx by have := H3.out.2.2.2.1; omega) (Value.slice none 0 0)
    refine ⟨((hb.drew.setCell (p := ⟨w.heap.size, 0, none⟩) (Nat.le_refl _) _).setCell (p := ⟨w.heap.size, 1, none⟩) (Nat.le_refl _) _).setCell (p := ⟨w.heap.size, 2, none⟩) (Nat.le_refl _) _, .inl ⟨HN.out, _, _, _, _, _, _, rfl⟩⟩)
  ·have HSM : Hid (rdG (n + 1) T.data.toList = some (It.mk 48 [] ks, q)) := HR.out (some ks) hsome
   have HO : Hid (OwnK w4 W3.heap.size n (.slice ax l cx) ks fp) := hown
   clear hsome hown
   go_wp2_with fail
   go_region
   all_goals (
    go_wp2_with fail
    refine bodyPost_ret (v := .tuple #[.agg #[.int .i64 48, .string ⟨#[]⟩, .slice ax l cx], .string (T.extract q T.size), .bool true]) (by simp [results, Tryz.results72, go_sem, r0, r1, r2]; try rfl) rfl ?_
    have hb := H4.out.2.2.setCell (p := ⟨gx, 2, none⟩) (show w.heap.size <= gx by have := H3.out.2.2.2.1; omega) (Value.slice ax l cx)
    refine ⟨((hb.drew.setCell (p := ⟨w.heap.size, 0, none⟩) (Nat.le_refl _) _).setCell (p := ⟨w.heap.size, 1, none⟩) (Nat.le_refl _) _).setCell (p := ⟨w.heap.size, 2, none⟩) (Nat.le_refl _) _, .inr ⟨_, _, 48, ⟨#[]⟩, ax, l, cx, fp, HSM.out, rfl, rfl, rfl, ?_⟩⟩
    refine OwnK.base (base := W3.heap.size) (by have := H3.out.2.2.2; omega) (HO.out.same fun y hy => ?_)
    have h1 := (OwnK.lt HO.out y hy).1
    have h2 := H3.out.2.2.2
    show ((((w4.setCell ⟨gx, 2, none⟩ _).setCell ⟨w.heap.size, 0, none⟩ _).setCell ⟨w.heap.size, 1, none⟩ _).setCell ⟨w.heap.size, 2, none⟩ _).heap[y]? = _
    rw [heap_setCell_other _ _ _ _ (by show y ≠ w.heap.size; omega), heap_setCell_other _ _ _ _ (by show y ≠ w.heap.size; omega), heap_setCell_other _ _ _ _ (by show y ≠ w.heap.size; omega)]
    exact heap_setCell_other _ _ _ _ (by show y ≠ gx; omega))
def strSize : Value -> Nat
 | .string s => s.size
 | _ => 0
theorem kids_step (n : Nat) (FI : Hid (FiC (n + 1))) : KiC (n + 1) := fun T w hT hTn => by
 go_enter Tryz.func89, Tryz.ntmps89
 go_wp2_with fail
 go_loopw [0, 4] (fun tv kv wr => ∃ (S : ByteArray) (ao : Option Addr) (l cp : Nat), tv = .string S /\ kv = .slice ao l cp /\ Hid (∃ (ks : List (It (n + 1))) (m : Nat), GrowK wr w.heap.size n (.slice ao l cp) ks /\ ks.length = l /\ Below w.heap.size w wr /\ S.size <= m /\ S.size <= T.size /\ ks.length + m <= T.size /\ kidsL (rdG (n + 1)) T.size T.data.toList = (kidsL (rdG (n + 1)) m S.data.toList).map (ks ++ ·))) (fun tv _ _ => strSize tv)
 case atStart => exact ⟨T, none, 0, 0, rfl, rfl, [], T.size, GrowK.nil _ _ _, rfl, Below.refl _ _, Nat.le_refl _, Nat.le_refl _, by simp, (map_nil_app _).symm⟩
 case round =>
  obtain ⟨S, ao, l, cp, rfl, rfl, HR⟩ := hrel
  obtain ⟨ks, m, hrG, hkl, hrB, hSm, hST, hrm, hrK⟩ := HR.out
  have HK : Hid (GrowK wr w.heap.size n (.slice ao l cp) ks /\ ks.length = l /\ Below w.heap.size w wr /\ kidsL (rdG (n + 1)) T.size T.data.toList = (kidsL (rdG (n + 1)) m S.data.toList).map (ks ++ ·)) := ⟨hrG, hkl, hrB, hrK⟩
  clear HR hrG hkl hrB hrK
  by_cases h0 : S.size = 0
  ·have hS0 := empty_of h0
   subst hS0
   have HS : Hid (kidsL (rdG (n + 1)) T.size T.data.toList = some ks) := by
    show kidsL (rdG (n + 1)) T.size T.data.toList = some ks
    rw [HK.out.2.2.2, show (⟨#[]⟩ : ByteArray).data.toList = [] from rfl, kidsL_end]
    simp
   have HO : Hid (∃ fp, OwnK wr w.heap.size (n + 1) (.slice ao l cp) ks fp) := HK.out.1.own
   go_wp2_with fail
   go_ret2
   obtain ⟨fp, hfp⟩ := HO.out
   exact ⟨HK.out.2.2.1, .inr ⟨ks, ao, l, cp, fp, HS.out, rfl, hfp⟩⟩
  ·have hne : S.toList.isEmpty = false := not_empty (by omega)
   have hnl : S.data.toList ≠ [] := fun e => h0 (by have e2 : S.data.toList.length = S.size := rfl; rw [e] at e2; simpa using e2.symm)
   have E := FI.out S wr (by omega) (by omega)
   have HNL : Hid (S.data.toList ≠ []) := hnl
   clear hnl
   go_wp2_with fail
   refine E.mono ?_
   clear E
   rintro e w3 ⟨hb3, hcase⟩
   rcases hcase with ⟨hnone, t3, s3, ax3, l3, cx3, s4, rfl⟩ | ⟨y, u, t3, s3, ax3, l3, cx3, fp3, hsome, rfl, hown⟩
   ·have HN : Hid (kidsL (rdG (n + 1)) T.size T.data.toList = none) := by
     show kidsL (rdG (n + 1)) T.size T.data.toList = none
     rw [HK.out.2.2.2, kidsL_fail _ HNL.out hnone]
     rfl
    have HB : Hid (Below w.heap.size w (w3.alloc (Obj.cells #[Value.int IntKind.i64 t3, Value.string s3, Value.slice ax3 l3 cx3] 41))) := HK.out.2.2.1.trans ((hb3.alloc hb3.size _).mono HK.out.2.2.1.size)
    clear hnone hb3
    go_wp2_with fail
    go_ret2
    exact ⟨HB.out, .inl ⟨HN.out, rfl⟩⟩
   ·obtain ⟨hu1, hu2, -⟩ := rdG_txt _ _ _ _ hsome
    have e2 : S.data.toList.length = S.size := rfl
    rw [e2] at hu1
    obtain ⟨ht3, hs3, ho3⟩ := hown
    have hb34 : Below w3.heap.size w3 (w3.alloc (Obj.cells #[Value.int IntKind.i64 t3, Value.string s3, Value.slice ax3 l3 cx3] 41)) := (Below.refl _ _).alloc (Nat.le_refl _) _
    have H4 : Hid (Below wr.heap.size wr (w3.alloc (Obj.cells #[Value.int IntKind.i64 t3, Value.string s3, Value.slice ax3 l3 cx3] 41)) /\ OwnK (w3.alloc (Obj.cells #[Value.int IntKind.i64 t3, Value.string s3, Value.slice ax3 l3 cx3] 41)) wr.heap.size n (.slice ax3 l3 cx3) (It.kids y) fp3 /\ It.tag y = t3 /\ (⟨(It.text y).toArray⟩ : ByteArray) = s3) := ⟨hb3.alloc hb3.size _, ho3.below hb34 (fun b hm => (OwnK.lt ho3 b hm).2), ht3, hs3⟩
    obtain ⟨m', rfl⟩ : ∃ m', m = m' + 1 := ⟨m - 1, by omega⟩
    have HNX : Hid (kidsL (rdG (n + 1)) T.size T.data.toList = (kidsL (rdG (n + 1)) m' (S.extract u S.size).data.toList).map ((ks ++ [y]) ++ ·) /\ (S.extract u S.size).size <= m' /\ (S.extract u S.size).size < S.size) := by
     have es : (S.extract u S.size).size = S.size - u := by rw [ByteArray.size_extract]; omega
     refine ⟨?_, by omega, by omega⟩
     rw [HK.out.2.2.2, kidsL_step _ HNL.out hsome, Option.map_map, ext_list, List.take_of_length_le (by rw [List.length_drop]; omega)]
     congr 1
     funext l
     simp
    clear hsome hb3 hb34 ho3 ht3 hs3 hu1 hu2
    have HLN : Hid (ks.length <= 1000000000 /\ ks.length + 1 + m' <= T.size) := ⟨by omega, by omega⟩
    go_wp2_with (at_builtin; refine wpList_append_item rfl _ _ rfl w.heap.size n (.slice ao l cp) ks y t3 s3 (.slice ax3 l3 cx3) fp3 H4.out.2.2.1 H4.out.2.2.2 rfl _ rfl (by simp) HK.out.1 H4.out.1 H4.out.2.1 HK.out.2.2.1.size HLN.out.1 ?_)
    intro g cap w6 hG6 hgrow6
    have H6 : Hid (GrowK w6 w.heap.size n (.slice (some ⟨g, 0, none⟩) (l + 1) cap) (ks ++ [y]) /\ Below w.heap.size w w6) := by
     have hb5 := H4.out.1.alloc H4.out.1.size (Obj.cells #[Value.int IntKind.i64 t3, Value.string s3, Value.slice ax3 l3 cx3] 41)
     have hkb := GrowK.lt HK.out.1
     have hbw := HK.out.2.2.1.trans (hb5.mono HK.out.2.2.1.size)
     rw [HK.out.2.1] at hG6
     exact ⟨hG6, hbw.grown hgrow6 (hbw.size) (fun q hq => (hkb q hq).1)⟩
    rw [HK.out.2.1]
    have HLK : Hid (ks.length = l) := HK.out.2.1
    clear hG6 hgrow6 H4
    go_wp2_with fail
    refine ⟨⟨S.extract u S.size, some ⟨g, 0, none⟩, l + 1, cap, rfl, rfl, ks ++ [y], m', H6.out.1, by rw [List.length_append, List.length_singleton, HLK.out], H6.out.2, HNX.out.2.1, by have := HNX.out.2.2; omega, by rw [List.length_append, List.length_singleton]; exact HLN.out.2, HNX.out.1⟩, by have := HNX.out.2.2; show (S.extract u S.size).size < S.size; omega⟩
theorem reads_any : ∀ n, FiC n /\ KiC n
 | 0 => ⟨fun T w _ h => absurd h (Nat.not_lt_zero _), fun T w _ h => absurd h (Nat.not_lt_zero _)⟩
 | n + 1 => by
  have h := first_step n (reads_any n).2
  exact ⟨h, kids_step n h⟩
theorem kidsL_sz {n : Nat} (rd : List UInt8 -> Option (It n × Nat)) (h : ∀ t x u, rd t = some (x, u) -> szI n x + 2 <= u /\ u <= t.length) : ∀ (m : Nat) (l : List UInt8) (ks : List (It n)), kidsL rd m l = some ks -> ks.length + (ks.map (szI n)).sum <= l.length
 | m, [], ks, hk => by rw [kidsL_end] at hk; injection hk with hk; subst hk; simp
 | 0, b :: l, ks, hk => by rw [kidsL_full _ (by simp)] at hk; cases hk
 | m + 1, b :: l, ks, hk => by
  cases hr : rd (b :: l) with
  | none => rw [kidsL_fail _ (by simp) hr] at hk; cases hk
  | some xu =>
   obtain ⟨x, u⟩ := xu
   obtain ⟨h1, h2⟩ := h _ _ _ hr
   rw [kidsL_step _ (by simp) hr] at hk
   cases hq : kidsL rd m ((b :: l).drop u) with
   | none => rw [hq] at hk; cases hk
   | some xs =>
    rw [hq] at hk
    injection hk with hk
    subst hk
    have h3 := kidsL_sz rd h m _ xs hq
    rw [List.length_drop] at h3
    rw [List.length_cons, List.map_cons, List.sum_cons]
    omega
theorem rdG_sz : ∀ (n : Nat) (t : List UInt8) (x : It n) (u : Nat), rdG n t = some (x, u) -> szI n x + 2 <= u /\ u <= t.length
 | 0, _, _, _, h => by simp [rdG] at h
 | n + 1, [], _, _, h => by simp [rdG] at h
 | n + 1, b :: r, x, u, h => by
  have hu := rdG_txt _ _ _ _ h
  refine ⟨?_, hu.1⟩
  rw [rdG_cons] at h
  split at h
  ·cases h
  ·next sz c hs =>
   have hp : 1 <= c := by have := (sizeG_some hs).2.1; have := lenB_pos sz; omega
   split at h
   ·cases h
   ·split at h
    ·simp only [Option.some.injEq, Prod.mk.injEq] at h
     obtain ⟨rfl, rfl⟩ := h
     show ((r.drop c).take sz).length + ([] : List (It n)).length + (([] : List (It n)).map (szI n)).sum + 2 <= _
     rw [List.length_take]
     simp only [List.length_nil, List.map_nil, List.sum_nil]
     omega
    ·split at h
     ·cases h
     ·next ks hk =>
      simp only [Option.some.injEq, Prod.mk.injEq] at h
      obtain ⟨rfl, rfl⟩ := h
      have h1 := kidsL_sz _ (rdG_sz n) _ _ _ hk
      rw [List.length_take] at h1
      show ([] : List UInt8).length + ks.length + (ks.map (szI n)).sum + 2 <= _
      simp only [List.length_nil]
      omega
theorem rdI_sz : ∀ (n : Nat) (t : List UInt8) (x : It n) (u : Nat), rdI n t = some (x, u) -> szI n x + 2 <= u /\ u <= t.length
 | 0, _, _, _, h => by simp [rdI] at h
 | n + 1, [], _, _, h => by simp [rdI] at h
 | n + 1, b :: r, x, u, h => by
  have hu := rd_le h
  refine ⟨?_, hu.1⟩
  rw [rdI_cons] at h
  split at h
  ·cases h
  ·next sz c hs =>
   have hp := (sizeL_le hs).1
   split at h
   ·cases h
   ·split at h
    ·simp only [Option.some.injEq, Prod.mk.injEq] at h
     obtain ⟨rfl, rfl⟩ := h
     show ((r.drop c).take sz).length + ([] : List (It n)).length + (([] : List (It n)).map (szI n)).sum + 2 <= _
     rw [List.length_take]
     simp only [List.length_nil, List.map_nil, List.sum_nil]
     omega
    ·split at h
     ·cases h
     ·next ks hk =>
      simp only [Option.some.injEq, Prod.mk.injEq] at h
      obtain ⟨rfl, rfl⟩ := h
      have h1 := kidsL_sz _ (rdI_sz n) _ _ _ hk
      rw [List.length_take] at h1
      show ([] : List UInt8).length + ks.length + (ks.map (szI n)).sum + 2 <= _
      simp only [List.length_nil]
      omega
theorem readG_no {n : Nat} {t : List UInt8} (hl : ¬ 4000 < t.length) (h : rdG n t = none) : readG n t = none := by unfold readG; rw [if_neg hl, h]
theorem readG_at {n : Nat} {t : List UInt8} {x : It n} {u : Nat} (hl : ¬ 4000 < t.length) (h : rdG n t = some (x, u)) : readG n t = if u = t.length /\ rightI n x 0 = true then some x else none := by unfold readG; rw [if_neg hl, h]
theorem readI_no {t : List UInt8} (hl : ¬ 4000 < t.length) (h : rdI 7 t = none) : readI t = none := by unfold readI; rw [if_neg hl, h]
theorem readI_at {t : List UInt8} {x : It 7} {u : Nat} (hl : ¬ 4000 < t.length) (h : rdI 7 t = some (x, u)) : readI t = if u = t.length /\ rightI 7 x 0 = true /\ (txtI 7 x).length <= 4000 /\ txtI 7 x = t then some x else none := by unfold readI; rw [if_neg hl, h]
def ReadPost (n : Nat) (o : Option (It (n + 1))) (w : World) (e : Ending) (w' : World) : Prop := Below w.heap.size w w' /\
 ((o = none /\ e = .returned (.tuple #[.agg #[.int .i64 0, .string ⟨#[]⟩, .slice none 0 0], .bool false])) ∨
 ∃ (x : It (n + 1)) (t : Int) (s : ByteArray) (ax : Option Addr) (l cx : Nat) (fp : List Nat), o = some x /\ e = .returned (.tuple #[.agg #[.int .i64 t, .string s, .slice ax l cx], .bool true]) /\ szI (n + 1) x <= 4000 /\ It.tag x = t /\ (⟨(It.text x).toArray⟩ : ByteArray) = s /\ OwnK w' w.heap.size n (.slice ax l cx) (It.kids x) fp)
theorem implRead_any (n : Nat) (hn : 4000 <= n) (T : ByteArray) (w : World) (hTT : T.size <= 1000000000000) : Calls Tryz.prog 49 #[.string T] w fun e w' => ReadPost n (readG (n + 1) T.data.toList) w e w' := by
 obtain ⟨⟨r0, r1, r2⟩, hbw⟩ := res_is w (.int .i64 0) (.string ⟨#[]⟩) (.slice none 0 0) 41
 have HTL : Hid (T.data.toList.length = T.size) := rfl
 by_cases hbig : 4000 < T.size
 ·have hbi : (4000 : Int) < (T.size : Int) := by omega
  go_enter Tryz.func49, Tryz.ntmps49
  go_wp2_with fail
  refine bodyPost_ret (v := .tuple #[.agg #[.int .i64 0, .string ⟨#[]⟩, .slice none 0 0], .bool false]) (by simp [results, Tryz.results49, go_sem, r0, r1, r2]; try rfl) rfl ?_
  exact ⟨hbw, .inl ⟨by unfold readG; rw [if_pos (by rw [HTL.out]; exact hbig)], rfl⟩⟩
 have hbi : ¬ (4000 : Int) < (T.size : Int) := by omega
 obtain ⟨W1, hW1⟩ : ∃ W, W = w.alloc (Obj.cells #[Value.int IntKind.i64 0, Value.string { data := #[] }, Value.slice none 0 0] 41) := ⟨_, rfl⟩
 have H1 : Hid (Blk3 W1 w.heap.size (.int .i64 0) (.string ⟨#[]⟩) (.slice none 0 0) /\ Below w.heap.size w W1) := by rw [hW1]; exact ⟨heap_alloc_new w _, hbw⟩
 have E := (reads_any (n + 1)).1 T W1 (by omega) (by omega)
 clear r0 r1 r2 hbw
 go_enter Tryz.func49, Tryz.ntmps49
 go_wp2_with fail
 rw [<- hW1]
 clear hW1
 refine E.mono ?_
 clear E
 rintro e w2 ⟨hb2, hcase⟩
 rcases hcase with ⟨hnone, t, s, ax, l, cx, s2, rfl⟩ | ⟨x, u, t, s, ax, l, cx, fp, hsome, rfl, hown⟩
 ·have HN : Hid (readG (n + 1) T.data.toList = none) := by exact readG_no (by rw [HTL.out]; exact hbig) hnone
  have hb3 := hb2.alloc hb2.size (Obj.cells #[Value.int IntKind.i64 t, Value.string s, Value.slice ax l cx] 41)
  have HB : Hid (Below w.heap.size w (w2.alloc (Obj.cells #[Value.int IntKind.i64 t, Value.string s, Value.slice ax l cx] 41))) := H1.out.2.trans (hb3.mono H1.out.2.size)
  obtain ⟨⟨r0, r1, r2⟩, rf⟩ := cell_in (H1.out.1.below hb3)
  clear hnone hb2 hb3
  go_wp2_with fail
  refine bodyPost_ret (v := .tuple #[.agg #[.int .i64 0, .string ⟨#[]⟩, .slice none 0 0], .bool false]) (by simp [results, Tryz.results49, go_sem, r0, r1, r2]; try rfl) rfl ?_
  exact ⟨((HB.out.setCell (p := ⟨w.heap.size, 0, none⟩) (Nat.le_refl _) _).setCell (p := ⟨w.heap.size, 1, none⟩) (Nat.le_refl _) _).setCell (p := ⟨w.heap.size, 2, none⟩) (Nat.le_refl _) _, .inl ⟨HN.out, rfl⟩⟩
 obtain ⟨hz, hu⟩ := rdG_sz _ _ _ _ hsome
 rw [HTL.out] at hu
 obtain ⟨W3, hW3⟩ : ∃ W, W = w2.alloc (Obj.cells #[Value.int IntKind.i64 t, Value.string s, Value.slice ax l cx] 41) := ⟨_, rfl⟩
 obtain ⟨gx, hgx⟩ := zE (w2.heap.size)
 have hb3 : Below w2.heap.size w2 W3 := by rw [hW3]; exact (Below.refl _ _).alloc (Nat.le_refl _) _
 have hb13 : Below W1.heap.size W1 W3 := hb2.trans (hb3.mono hb2.size)
 have HO : Hid (szI (n + 1) x <= 4000 /\ It.tag x = t /\ (⟨(It.text x).toArray⟩ : ByteArray) = s /\ OwnK W3 W1.heap.size n (.slice ax l cx) (It.kids x) fp) := ⟨by omega, hown.1, hown.2.1, hown.2.2.below hb3 (fun b hm => (OwnK.lt hown.2.2 b hm).2)⟩
 have H3 : Hid (Blk3 W3 w.heap.size (.int .i64 0) (.string ⟨#[]⟩) (.slice none 0 0) /\ Blk3 W3 gx (.int .i64 t) (.string s) (.slice ax l cx) /\ Below w.heap.size w W3) := by
  refine ⟨H1.out.1.below hb13, ?_, H1.out.2.trans (hb13.mono H1.out.2.size)⟩
  rw [hW3, <- hgx]
  exact heap_alloc_new w2 _
 have HRS : Hid (readG (n + 1) T.data.toList = if u = T.size /\ rightI (n + 1) x 0 = true then some x else none) := by have h := readG_at (by rw [HTL.out]; exact hbig) hsome; rw [HTL.out] at h; exact h
 clear hown hsome hb2 hb3 hb13 hz
 by_cases hue : u = T.size
 ·have hem : (T.extract u T.size).toList.isEmpty = true := by rw [toList_data, ext_list, hue, Nat.sub_self, List.take_zero]; rfl
  have EO := implItemOk_any (n + 1) x (.agg #[.int .i64 t, .string s, .slice ax l cx]) W3 ⟨_, by rw [<- HO.out.2.1, <- HO.out.2.2.1], HO.out.2.2.2.at⟩ (by have := HO.out.1; omega)
  obtain ⟨bo, hbo⟩ := zE (rightI (n + 1) x 0)
  rw [hbo] at EO
  have HBO : Hid (rightI (n + 1) x 0 = bo) := hbo
  clear hbo
  go_wp2_with fail
  rw [<- hW3]
  clear hW3 hgx
  refine EO.mono ?_
  clear EO
  rintro e w4 ⟨rfl, hb4⟩
  obtain ⟨⟨r0, r1, r2⟩, rf⟩ := cell_in (H3.out.1.below hb4)
  obtain ⟨⟨x0, x1, x2⟩, xf⟩ := cell_in (H3.out.2.1.below hb4)
  have HB4 : Hid (Below w.heap.size w w4) := H3.out.2.2.trans (hb4.mono H3.out.2.2.size)
  replace HO : Hid (szI (n + 1) x <= 4000 /\ It.tag x = t /\ (⟨(It.text x).toArray⟩ : ByteArray) = s /\ OwnK w4 W1.heap.size n (.slice ax l cx) (It.kids x) fp) := ⟨HO.out.1, HO.out.2.1, HO.out.2.2.1, HO.out.2.2.2.below hb4 (fun b hm => (OwnK.lt HO.out.2.2.2 b hm).2)⟩
  clear hb4
  cases bo with
  | true =>
   go_wp2_with fail
   refine bodyPost_ret (v := .tuple #[.agg #[.int .i64 t, .string s, .slice ax l cx], .bool true]) (by simp [results, Tryz.results49, go_sem, r0, r1, r2]; try rfl) rfl ?_
   refine ⟨((HB4.out.setCell (p := ⟨w.heap.size, 0, none⟩) (Nat.le_refl _) _).setCell (p := ⟨w.heap.size, 1, none⟩) (Nat.le_refl _) _).setCell (p := ⟨w.heap.size, 2, none⟩) (Nat.le_refl _) _, .inr ⟨x, t, s, ax, l, cx, fp, by rw [HRS.out, if_pos ⟨hue, HBO.out⟩], rfl, HO.out.1, HO.out.2.1, HO.out.2.2.1, ?_⟩⟩
   refine OwnK.base (base := W1.heap.size) (by have := H1.out.1.lt; omega) (HO.out.2.2.2.same fun y hy => ?_)
   have h1 := (OwnK.lt HO.out.2.2.2 y hy).1
   have h2 := H1.out.1.lt
   rw [heap_setCell_other _ _ _ _ (by show y ≠ w.heap.size; omega), heap_setCell_other _ _ _ _ (by show y ≠ w.heap.size; omega), heap_setCell_other _ _ _ _ (by show y ≠ w.heap.size; omega)]
  | false =>
   go_wp2_with fail
   refine bodyPost_ret (v := .tuple #[.agg #[.int .i64 0, .string ⟨#[]⟩, .slice none 0 0], .bool false]) (by simp [results, Tryz.results49, go_sem, r0, r1, r2]; try rfl) rfl ?_
   exact ⟨((HB4.out.setCell (p := ⟨w.heap.size, 0, none⟩) (Nat.le_refl _) _).setCell (p := ⟨w.heap.size, 1, none⟩) (Nat.le_refl _) _).setCell (p := ⟨w.heap.size, 2, none⟩) (Nat.le_refl _) _, .inl ⟨by rw [HRS.out, if_neg (fun h => by rw [HBO.out] at h; cases h.2)], rfl⟩⟩
 ·have hem : (T.extract u T.size).toList.isEmpty = false := not_empty (by rw [ByteArray.size_extract]; omega)
  obtain ⟨⟨r0, r1, r2⟩, rf⟩ := cell_in H3.out.1
  rw [hW3] at r0 r1 r2 rf
  have HB : Hid (Below w.heap.size w (w2.alloc (Obj.cells #[Value.int IntKind.i64 t, Value.string s, Value.slice ax l cx] 41))) := by have := H3.out.2.2; rw [hW3] at this; exact this
  clear hW3 hgx
  go_wp2_with fail
  refine bodyPost_ret (v := .tuple #[.agg #[.int .i64 0, .string ⟨#[]⟩, .slice none 0 0], .bool false]) (by simp [results, Tryz.results49, go_sem, r0, r1, r2]; try rfl) rfl ?_
  exact ⟨((HB.out.setCell (p := ⟨w.heap.size, 0, none⟩) (Nat.le_refl _) _).setCell (p := ⟨w.heap.size, 1, none⟩) (Nat.le_refl _) _).setCell (p := ⟨w.heap.size, 2, none⟩) (Nat.le_refl _) _, .inl ⟨by rw [HRS.out, if_neg (fun h => hue h.1)], rfl⟩⟩
theorem specRead_any (T : ByteArray) (w : World) (hTT : T.size <= 1000000000000) : Calls Tryz.prog 26 #[.string T] w fun e w' => ReadPost 6 (readI T.data.toList) w e w' := by
 obtain ⟨⟨r0, r1, r2⟩, hbw⟩ := res_is w (.int .i64 0) (.string ⟨#[]⟩) (.slice none 0 0) 41
 have HTL : Hid (T.data.toList.length = T.size) := rfl
 by_cases hbig : 4000 < T.size
 ·have hbi : (4000 : Int) < (T.size : Int) := by omega
  go_enter Tryz.func26, Tryz.ntmps26
  go_wp2_with fail
  refine bodyPost_ret (v := .tuple #[.agg #[.int .i64 0, .string ⟨#[]⟩, .slice none 0 0], .bool false]) (by simp [results, Tryz.results26, go_sem, r0, r1, r2]; try rfl) rfl ?_
  exact ⟨hbw, .inl ⟨by unfold readI; rw [if_pos (by rw [HTL.out]; exact hbig)], rfl⟩⟩
 have hbi : ¬ (4000 : Int) < (T.size : Int) := by omega
 obtain ⟨W1, hW1⟩ : ∃ W, W = w.alloc (Obj.cells #[Value.int IntKind.i64 0, Value.string { data := #[] }, Value.slice none 0 0] 41) := ⟨_, rfl⟩
 have H1 : Hid (Blk3 W1 w.heap.size (.int .i64 0) (.string ⟨#[]⟩) (.slice none 0 0) /\ Below w.heap.size w W1) := by rw [hW1]; exact ⟨heap_alloc_new w _, hbw⟩
 have E : Calls Tryz.prog 59 #[.string T, .int .i64 0, .int .i64 0] W1 fun e w' => InPost 7 T 0 W1 e w' := read_any 7 (Nat.le_refl _) T 0 W1 (by omega) (Nat.zero_le _)
 clear r0 r1 r2 hbw
 go_enter Tryz.func26, Tryz.ntmps26
 go_wp2_with fail
 rw [<- hW1]
 clear hW1
 refine E.mono ?_
 clear E
 rintro e w2 ⟨hb2, hcase⟩
 rw [List.drop_zero] at hcase
 rcases hcase with ⟨hnone, rfl⟩ | ⟨x, u, t, s, ax, l, cx, fp, hsome, rfl, hown⟩
 ·have HN : Hid (readI T.data.toList = none) := readI_no (by rw [HTL.out]; exact hbig) hnone
  obtain ⟨W3, hW3⟩ : ∃ W, W = w2.alloc (Obj.cells #[Value.int IntKind.i64 0, Value.string { data := #[] }, Value.slice none 0 0] 41) := ⟨_, rfl⟩
  have hb3 : Below W1.heap.size W1 W3 := by rw [hW3]; exact hb2.alloc hb2.size _
  have HB : Hid (Below w.heap.size w W3) := H1.out.2.trans (hb3.mono H1.out.2.size)
  have EW := specItemText_any 1 (It.mk 0 [] ([] : List (It 0))) (.agg #[.int .i64 0, .string ⟨#[]⟩, .slice none 0 0]) W3 ⟨_, rfl, (own_nil W3 0 0).at⟩ (by decide)
  have hwn : writeI 1 (It.mk 0 [] ([] : List (It 0))) = none := by decide
  rw [hwn] at EW
  have H3 : Hid (Blk3 W3 w.heap.size (.int .i64 0) (.string ⟨#[]⟩) (.slice none 0 0)) := H1.out.1.below hb3
  clear hnone hb2 hb3 hwn
  go_wp2_with fail
  rw [<- hW3]
  clear hW3
  refine EW.mono ?_
  clear EW
  rintro e w4 ⟨rfl, hb4⟩
  obtain ⟨⟨r0, r1, r2⟩, rf⟩ := cell_in (H3.out.below hb4)
  replace HB : Hid (Below w.heap.size w w4) := HB.out.trans (hb4.mono HB.out.size)
  clear hb4
  go_wp2_with fail
  refine bodyPost_ret (v := .tuple #[.agg #[.int .i64 0, .string ⟨#[]⟩, .slice none 0 0], .bool false]) (by simp [results, Tryz.results26, go_sem, r0, r1, r2]; try rfl) rfl ?_
  exact ⟨((HB.out.setCell (p := ⟨w.heap.size, 0, none⟩) (Nat.le_refl _) _).setCell (p := ⟨w.heap.size, 1, none⟩) (Nat.le_refl _) _).setCell (p := ⟨w.heap.size, 2, none⟩) (Nat.le_refl _) _, .inl ⟨HN.out, rfl⟩⟩
 obtain ⟨hz, hu⟩ := rdI_sz _ _ _ _ hsome
 rw [HTL.out] at hu
 rw [Nat.zero_add]
 obtain ⟨W3, hW3⟩ : ∃ W, W = w2.alloc (Obj.cells #[Value.int IntKind.i64 t, Value.string s, Value.slice ax l cx] 41) := ⟨_, rfl⟩
 obtain ⟨gx, hgx⟩ := zE (w2.heap.size)
 have hb3 : Below w2.heap.size w2 W3 := by rw [hW3]; exact (Below.refl _ _).alloc (Nat.le_refl _) _
 have hb13 : Below W1.heap.size W1 W3 := hb2.trans (hb3.mono hb2.size)
 have HO : Hid (szI (6 + 1) x <= 4000 /\ It.tag x = t /\ (⟨(It.text x).toArray⟩ : ByteArray) = s /\ OwnK W3 W1.heap.size 6 (.slice ax l cx) (It.kids x) fp) := ⟨by show szI 7 x <= 4000; omega, hown.1, hown.2.1, hown.2.2.below hb3 (fun b hm => (OwnK.lt hown.2.2 b hm).2)⟩
 have H3 : Hid (Blk3 W3 w.heap.size (.int .i64 0) (.string ⟨#[]⟩) (.slice none 0 0) /\ Blk3 W3 gx (.int .i64 t) (.string s) (.slice ax l cx) /\ Below w.heap.size w W3) := by
  refine ⟨H1.out.1.below hb13, ?_, H1.out.2.trans (hb13.mono H1.out.2.size)⟩
  rw [hW3, <- hgx]
  exact heap_alloc_new w2 _
 have HRS : Hid (readI T.data.toList = if u = T.size /\ rightI 7 x 0 = true /\ (txtI 7 x).length <= 4000 /\ txtI 7 x = T.data.toList then some x else none) := by have h := readI_at (by rw [HTL.out]; exact hbig) hsome; rw [HTL.out] at h; exact h
 clear hown hsome hb2 hb3 hb13 hz
 have EW := specItemText_any 7 x (.agg #[.int .i64 t, .string s, .slice ax l cx]) W3 ⟨_, by rw [<- HO.out.2.1, <- HO.out.2.2.1], HO.out.2.2.2.at⟩ (by have h : szI 7 x <= 4000 := HO.out.1; omega)
 obtain ⟨wo, hwo⟩ := zE (writeI 7 x)
 rw [hwo] at EW
 have HWO : Hid (writeI 7 x = wo) := hwo
 clear hwo
 obtain ⟨A, hA⟩ : ∃ A : ByteArray, (⟨(wo.getD []).toArray⟩ : ByteArray) = A := ⟨_, rfl⟩
 have HA : Hid (A.data.toList = wo.getD []) := by show A.data.toList = wo.getD []; rw [<- hA]
 obtain ⟨bo, hbo⟩ := zE (wo.isSome)
 have HBO : Hid (wo.isSome = bo) := hbo
 rw [hA, hbo] at EW
 clear hA hbo
 go_wp2_with fail
 rw [<- hW3]
 clear hW3 hgx
 refine EW.mono ?_
 clear EW
 rintro e w4 ⟨rfl, hb4⟩
 obtain ⟨⟨r0, r1, r2⟩, rf⟩ := cell_in (H3.out.1.below hb4)
 obtain ⟨⟨x0, x1, x2⟩, xf⟩ := cell_in (H3.out.2.1.below hb4)
 have HB4 : Hid (Below w.heap.size w w4) := H3.out.2.2.trans (hb4.mono H3.out.2.2.size)
 replace HO : Hid (szI (6 + 1) x <= 4000 /\ It.tag x = t /\ (⟨(It.text x).toArray⟩ : ByteArray) = s /\ OwnK w4 W1.heap.size 6 (.slice ax l cx) (It.kids x) fp) := ⟨HO.out.1, HO.out.2.1, HO.out.2.2.1, HO.out.2.2.2.below hb4 (fun b hm => (OwnK.lt HO.out.2.2.2 b hm).2)⟩
 clear hb4
 by_cases hue : u = T.size
 ·have huei : (u : Int) = (T.size : Int) := by omega
  cases bo with
  | false =>
   have HN : Hid (readI T.data.toList = none) := by
    show readI T.data.toList = none
    rw [HRS.out, if_neg]
    rintro ⟨_, h2, h3, _⟩
    have h4 := HWO.out
    unfold writeI at h4
    rw [if_pos ⟨h2, h3⟩] at h4
    have h5 := HBO.out
    rw [<- h4] at h5
    cases h5
   go_wp2_with fail
   refine bodyPost_ret (v := .tuple #[.agg #[.int .i64 0, .string ⟨#[]⟩, .slice none 0 0], .bool false]) (by simp [results, Tryz.results26, go_sem, r0, r1, r2]; try rfl) rfl ?_
   exact ⟨((HB4.out.setCell (p := ⟨w.heap.size, 0, none⟩) (Nat.le_refl _) _).setCell (p := ⟨w.heap.size, 1, none⟩) (Nat.le_refl _) _).setCell (p := ⟨w.heap.size, 2, none⟩) (Nat.le_refl _) _, .inl ⟨HN.out, rfl⟩⟩
  | true =>
   obtain ⟨tt, htt⟩ : ∃ tt, wo = some tt := Option.isSome_iff_exists.1 HBO.out
   have hw := HWO.out
   rw [htt] at hw
   obtain ⟨g1, g2, g3⟩ := write_some hw
   have hAt := HA.out
   rw [htt] at hAt
   change A.data.toList = tt at hAt
   by_cases hc : A.data.toList = T.data.toList
   ·have hcm : (A.toList == T.toList) = true := by rw [toList_data, toList_data, hc]; simp
    have HY : Hid (readI T.data.toList = some x) := by
     show readI T.data.toList = some x
     rw [HRS.out, if_pos ⟨hue, g1, by rw [g3]; exact g2, by rw [g3, <- hAt]; exact hc⟩]
    clear htt hw g1 g2 g3 hAt hc
    go_wp2_with fail
    refine bodyPost_ret (v := .tuple #[.agg #[.int .i64 t, .string s, .slice ax l cx], .bool true]) (by simp [results, Tryz.results26, go_sem, r0, r1, r2]; try rfl) rfl ?_
    refine ⟨((HB4.out.setCell (p := ⟨w.heap.size, 0, none⟩) (Nat.le_refl _) _).setCell (p := ⟨w.heap.size, 1, none⟩) (Nat.le_refl _) _).setCell (p := ⟨w.heap.size, 2, none⟩) (Nat.le_refl _) _, .inr ⟨x, t, s, ax, l, cx, fp, HY.out, rfl, HO.out.1, HO.out.2.1, HO.out.2.2.1, ?_⟩⟩
    refine OwnK.base (base := W1.heap.size) (by have := H1.out.1.lt; omega) (HO.out.2.2.2.same fun y hy => ?_)
    have h1 := (OwnK.lt HO.out.2.2.2 y hy).1
    have h2 := H1.out.1.lt
    rw [heap_setCell_other _ _ _ _ (by show y ≠ w.heap.size; omega), heap_setCell_other _ _ _ _ (by show y ≠ w.heap.size; omega), heap_setCell_other _ _ _ _ (by show y ≠ w.heap.size; omega)]
   ·have hcm : (A.toList == T.toList) = false := by rw [toList_data, toList_data]; exact beq_eq_false_iff_ne.2 hc
    have HN : Hid (readI T.data.toList = none) := by
     show readI T.data.toList = none
     rw [HRS.out, if_neg]
     rintro ⟨_, _, _, h4⟩
     exact hc (by rw [hAt, <- g3, h4])
    clear htt hw g1 g2 g3 hAt hc
    go_wp2_with fail
    refine bodyPost_ret (v := .tuple #[.agg #[.int .i64 0, .string ⟨#[]⟩, .slice none 0 0], .bool false]) (by simp [results, Tryz.results26, go_sem, r0, r1, r2]; try rfl) rfl ?_
    exact ⟨((HB4.out.setCell (p := ⟨w.heap.size, 0, none⟩) (Nat.le_refl _) _).setCell (p := ⟨w.heap.size, 1, none⟩) (Nat.le_refl _) _).setCell (p := ⟨w.heap.size, 2, none⟩) (Nat.le_refl _) _, .inl ⟨HN.out, rfl⟩⟩
 ·have huei : ¬ (u : Int) = (T.size : Int) := by omega
  have HN : Hid (readI T.data.toList = none) := by
   show readI T.data.toList = none
   rw [HRS.out, if_neg (fun h => hue h.1)]
  go_wp2_with fail
  refine bodyPost_ret (v := .tuple #[.agg #[.int .i64 0, .string ⟨#[]⟩, .slice none 0 0], .bool false]) (by simp [results, Tryz.results26, go_sem, r0, r1, r2]; try rfl) rfl ?_
  exact ⟨((HB4.out.setCell (p := ⟨w.heap.size, 0, none⟩) (Nat.le_refl _) _).setCell (p := ⟨w.heap.size, 1, none⟩) (Nat.le_refl _) _).setCell (p := ⟨w.heap.size, 2, none⟩) (Nat.le_refl _) _, .inl ⟨HN.out, rfl⟩⟩
end Go.Proofs.YthbdgdfanpbkeaaGreat
namespace Go.Proofs.YthbdgdfanpbkeaaGreat
open Go.RowKit
theorem i64_and255 (n : Int) : bits .and .i64 n 255 = n % 256 := by
 have h255 : (BitVec.ofInt 64 255).toNat = 2 ^ 8 - 1 := by decide
 have key : (BitVec.ofInt 64 n &&& BitVec.ofInt 64 255).toNat = (n % ((2 ^ 64 : Nat) : Int)).toNat % 2 ^ 8 := by
  rw [BitVec.toNat_and, BitVec.toNat_ofInt, h255, Nat.and_two_pow_sub_one_eq_mod]
 show IntKind.i64.wrap ((BitVec.ofInt 64 n &&& BitVec.ofInt 64 255).toNat : Nat) = n % 256
 rw [key, IntKind.wrap_i64]
 omega
theorem i64_and30 (n : Int) : bits .and .i64 n 1073741823 = n % 1073741824 := by
 have h30 : (BitVec.ofInt 64 1073741823).toNat = 2 ^ 30 - 1 := by decide
 have key : (BitVec.ofInt 64 n &&& BitVec.ofInt 64 1073741823).toNat = (n % ((2 ^ 64 : Nat) : Int)).toNat % 2 ^ 30 := by
  rw [BitVec.toNat_and, BitVec.toNat_ofInt, h30, Nat.and_two_pow_sub_one_eq_mod]
 show IntKind.i64.wrap ((BitVec.ofInt 64 n &&& BitVec.ofInt 64 1073741823).toNat : Nat) = n % 1073741824
 rw [key, IntKind.wrap_i64]
 omega
theorem grownBy_refl (w : World) (row : Option Nat) : w.grownBy w row := ⟨rfl, rfl, rfl, Nat.le_refl _, fun _ _ _ => rfl⟩
theorem grownBy_trans {a b c : World} {row : Option Nat} (h : a.grownBy b row) (k : b.grownBy c row) : a.grownBy c row :=
 ⟨k.os.trans h.os, k.tape.trans h.tape, k.output.trans h.output, Nat.le_trans h.size k.size, fun j hj hr => (k.block j (Nat.lt_of_lt_of_le hj h.size) hr).trans (h.block j hj hr)⟩
theorem grownBy_below {B : Nat} {a b : World} {c : Nat} (h : a.grownBy b (some c)) (hc : B <= c) (hB : B <= a.heap.size) : Below B a b :=
 ⟨h.os, h.tape, h.output, h.size, fun k hk => h.block k (by omega) (fun e => by have := Option.some.inj e; omega)⟩
theorem grownBy_drewN {a : World} {row : Option Nat} (n : Nat) : a.grownBy (a.drewN n) row := ⟨rfl, rfl, rfl, Nat.le_refl _, fun _ _ _ => rfl⟩
theorem grownBy_below' {a b : World} {row : Option Nat} (h : Below a.heap.size a b) : a.grownBy b row := ⟨h.os, h.tape, h.output, h.size, fun k hk _ => h.block k hk⟩
structure Cur (B : Nat) (w : World) (c : Nat) (a0 : Option Addr) (len cap : Nat) : Prop where
 low : B <= c
 len_le : len <= 1048576
 row : ∃ i h : Int, w.heap[c]? = some (.cells #[.slice a0 len cap, .int .i64 i, .int .i64 h] 68 (0, 0)) /\ 0 <= i /\ i <= len
 code : ∀ j, j < len -> ∃ b off x, a0 = some ⟨b, off, none⟩ /\ b < B /\ w.cell? ⟨b, off + j, none⟩ = some (.int .u8 x) /\ 0 <= x /\ x <= 255
theorem Cur.lt {B : Nat} {w : World} {c : Nat} {a0 : Option Addr} {len cap : Nat} (h : Cur B w c a0 len cap) : c < w.heap.size := by
 obtain ⟨i, k, hr, _⟩ := h.row
 rcases Nat.lt_or_ge c w.heap.size with h1 | h1
 ·exact h1
 ·rw [Array.getElem?_eq_none h1] at hr; cases hr
theorem Cur.kept {B : Nat} {w w' : World} {c : Nat} {a0 : Option Addr} {len cap : Nat} (h : Cur B w c a0 len cap) (hb : Below w.heap.size w w') : Cur B w' c a0 len cap := by
 have hlt := h.lt
 refine ⟨h.low, h.len_le, ?_, fun j hj => ?_⟩
 ·obtain ⟨i, k, hr, h1, h2⟩ := h.row
  exact ⟨i, k, by rw [hb.block c hlt]; exact hr, h1, h2⟩
 ·obtain ⟨b, off, x, e, hbB, hc, h1, h2⟩ := h.code j hj
  have hbw : b < w.heap.size := by have := h.low; omega
  exact ⟨b, off, x, e, hbB, (hb.cell (p := ⟨b, off + j, none⟩) hbw).trans hc, h1, h2⟩
theorem Cur.after {B : Nat} {w w' : World} {c : Nat} {a0 : Option Addr} {len cap : Nat} (h : Cur B w c a0 len cap) (hg : w.grownBy w' (some c)) {i k : Int}
  (hr : w'.heap[c]? = some (.cells #[.slice a0 len cap, .int .i64 i, .int .i64 k] 68 (0, 0))) (h1 : 0 <= i) (h2 : i <= len) : Cur B w' c a0 len cap := by
 have hlt := h.lt
 have hlow := h.low
 refine ⟨h.low, h.len_le, ⟨i, k, hr, h1, h2⟩, fun j hj => ?_⟩
 obtain ⟨b, off, x, e, hbB, hc, g1, g2⟩ := h.code j hj
 have hbc : b ≠ c := by omega
 exact ⟨b, off, x, e, hbB, hg.cell hc (fun e => hbc (Option.some.inj e)), g1, g2⟩
theorem grownBy_setCell (w : World) (c j : Nat) (u : Value) : w.grownBy (w.setCell ⟨c, j, none⟩ u) (some c) :=
 ⟨rfl, rfl, rfl, by simp, fun k _ hk => heap_setCell_other w ⟨c, j, none⟩ k u (fun e => hk (by simp [e]))⟩
theorem l01Byte_any (B : Nat) (w : World) (c : Nat) (a0 : Option Addr) (len cap : Nat) (hC : Cur B w c a0 len cap) : Calls Tryz.prog 57 #[.pointer (some ⟨c, 0, none⟩)] w fun e w' =>
  ∃ x : Int, 0 <= x /\ x <= 255 /\ e = .returned (.int .i64 x) /\ Cur B w' c a0 len cap /\ w.grownBy w' (some c) := by
 obtain ⟨i, h, hrow, hi0, hi1⟩ := hC.row
 have hl := hC.len_le
 have c0 : w.cell? ⟨c, 0, none⟩ = some (.slice a0 len cap) := by rw [cell_of_row w c 0 _ _ _ hrow]; rfl
 have c1 : w.cell? ⟨c, 1, none⟩ = some (.int .i64 i) := by rw [cell_of_row w c 1 _ _ _ hrow]; rfl
 have c2 : w.cell? ⟨c, 2, none⟩ = some (.int .i64 h) := by rw [cell_of_row w c 2 _ _ _ hrow]; rfl
 have f1 : w.frozen? ⟨c, 1, none⟩ = false := by unfold World.frozen?; rw [hrow]; rfl
 have f2 : w.frozen? ⟨c, 2, none⟩ = false := by unfold World.frozen?; rw [hrow]; rfl
 have hm := i64_and255
 have HR : Hid (w.heap[c]? = some (.cells #[.slice a0 len cap, .int .i64 i, .int .i64 h] 68 (0, 0))) := hrow
 have HC : Hid (Cur B w c a0 len cap) := hC
 obtain ⟨j, rfl⟩ := Int.eq_ofNat_of_zero_le hi0
 by_cases hlt : j < len
 ·obtain ⟨b, off, x, rfl, hbB, hcx, hx0, hx1⟩ := hC.code j hlt
  have hlow := hC.low
  have hbc : b ≠ c := by omega
  have hcb : c ≠ b := by omega
  have hji : (j : Int) < (len : Int) := by omega
  clear hrow hC hlow
  go_enter Tryz.func57, Tryz.ntmps57
  go_wp2
  go_quiet (fail)
  go_wp2
  go_quiet (fail)
  go_wp2
  go_quiet (fail)
  go_wp2
  go_ret
  have hg : ∀ (u v : Value) (q : Nat), w.grownBy (((w.setCell ⟨c, 2, none⟩ u).setCell ⟨c, 1, none⟩ v).drewN q) (some c) := fun u v q => grownBy_trans (grownBy_trans (grownBy_setCell w c 2 u) (grownBy_setCell _ c 1 v)) (grownBy_drewN q)
  refine ⟨_, ?_, ?_, rfl, HC.out.after (i := (j : Int) + 1) ?_ (heap_setCell_same _ c 1 _ _ _ (heap_setCell_same w c 2 _ _ _ HR.out)) ?_ ?_, ?_⟩
  ·omega
  ·omega
  ·exact hg _ _ _
  ·omega
  ·omega
  ·exact hg _ _ _
 ·clear hrow hC
  go_enter Tryz.func57, Tryz.ntmps57
  go_wp2
  go_quiet (fail)
  go_wp2
  go_quiet (fail)
  go_wp2
  go_ret
  have hg : ∀ (u : Value) (q r : Nat), w.grownBy (((w.setCell ⟨c, 2, none⟩ u).drewN q).drewN r) (some c) := fun u q r => grownBy_trans (grownBy_trans (grownBy_setCell w c 2 u) (grownBy_drewN q)) (grownBy_drewN r)
  refine ⟨_, ?_, ?_, rfl, HC.out.after ?_ (heap_setCell_same w c 2 _ _ _ HR.out) ?_ ?_, ?_⟩
  ·omega
  ·omega
  ·exact hg _ _ _
  ·omega
  ·omega
  ·exact hg _ _ _
theorem l01Below_any (n : Int) (B : Nat) (w : World) (c : Nat) (a0 : Option Addr) (len cap : Nat) (hn : n <= 9223372036854775807) (hC : Cur B w c a0 len cap) : Calls Tryz.prog 24 #[.pointer (some ⟨c, 0, none⟩), .int .i64 n] w fun e w' =>
  ∃ x : Int, 0 <= x /\ (0 < n -> x < n) /\ (n <= 0 -> x = 0) /\ e = .returned (.int .i64 x) /\ Cur B w' c a0 len cap /\ w.grownBy w' (some c) := by
 have HC : Hid (Cur B w c a0 len cap) := hC
 clear hC
 by_cases h0 : n <= 0
 ·go_enter Tryz.func24, Tryz.ntmps24
  go_wp2
  go_ret
  exact ⟨0, by omega, fun h => by omega, fun _ => rfl, rfl, HC.out, grownBy_refl _ _⟩
 ·by_cases h1 : n <= 256
  ·go_enter Tryz.func24, Tryz.ntmps24
   go_wp2_with fail
   refine (l01Byte_any B _ c a0 len cap HC.out).mono ?_
   rintro e w1 ⟨x, hx0, hx1, rfl, hC1, hg1⟩
   have HC1 : Hid (Cur B w1 c a0 len cap) := hC1
   have HG1 : Hid (w.grownBy w1 (some c)) := hg1
   clear hC1 hg1
   have hz : (n == 0) = false := beq_eq_false_iff_ne.2 (by omega)
   go_wp2
   go_ret
   refine ⟨_, ?_, fun _ => ?_, fun h => by omega, rfl, HC1.out, HG1.out⟩
   ·exact Int.emod_nonneg _ (by omega)
   ·exact Int.emod_lt_of_pos _ (by omega)
  ·go_enter Tryz.func24, Tryz.ntmps24
   go_wp2_with fail
   refine (l01Byte_any B _ c a0 len cap HC.out).mono ?_
   rintro e w1 ⟨x, hx0, hx1, rfl, hC1, hg1⟩
   have HC1 : Hid (Cur B w1 c a0 len cap) := hC1
   have HG1 : Hid (w.grownBy w1 (some c)) := hg1
   clear hC1 hg1
   go_wp2_with fail
   refine (l01Byte_any B _ c a0 len cap HC1.out).mono ?_
   rintro e w2 ⟨y, hy0, hy1, rfl, hC2, hg2⟩
   have HC2 : Hid (Cur B w2 c a0 len cap) := hC2
   have HG2 : Hid (w.grownBy w2 (some c)) := grownBy_trans HG1.out hg2
   clear hC2 hg2 HC1 HG1
   go_wp2_with fail
   refine (l01Byte_any B _ c a0 len cap HC2.out).mono ?_
   rintro e w3 ⟨z, hz0, hz1, rfl, hC3, hg3⟩
   have HC3 : Hid (Cur B w3 c a0 len cap) := hC3
   have HG3 : Hid (w.grownBy w3 (some c)) := grownBy_trans HG2.out hg3
   clear hC3 hg3 HC2 HG2
   go_wp2_with fail
   refine (l01Byte_any B _ c a0 len cap HC3.out).mono ?_
   rintro e w4 ⟨v, hv0, hv1, rfl, hC4, hg4⟩
   have HC4 : Hid (Cur B w4 c a0 len cap) := hC4
   have HG4 : Hid (w.grownBy w4 (some c)) := grownBy_trans HG3.out hg4
   clear hC4 hg4 HC3 HG3
   have hz : (n == 0) = false := beq_eq_false_iff_ne.2 (by omega)
   go_wp2
   go_ret
   refine ⟨_, ?_, fun _ => ?_, fun h => by omega, rfl, HC4.out, HG4.out⟩
   ·exact Int.emod_nonneg _ (by omega)
   ·exact Int.emod_lt_of_pos _ (by omega)
theorem l01Once_any (n : Int) (B : Nat) (w : World) (c : Nat) (a0 : Option Addr) (len cap : Nat) (hn : n <= 9223372036854775807) (hC : Cur B w c a0 len cap) : Calls Tryz.prog 62 #[.pointer (some ⟨c, 0, none⟩), .int .i64 n] w fun e w' =>
  ∃ b : Bool, e = .returned (.bool b) /\ Cur B w' c a0 len cap /\ w.grownBy w' (some c) := by
 have HC : Hid (Cur B w c a0 len cap) := hC
 clear hC
 go_enter Tryz.func62, Tryz.ntmps62
 go_wp2_with fail
 refine (l01Below_any n B _ c a0 len cap hn HC.out).mono ?_
 rintro e w1 ⟨x, hx0, _, _, rfl, hC1, hg1⟩
 have HC1 : Hid (Cur B w1 c a0 len cap) := hC1
 have HG1 : Hid (w.grownBy w1 (some c)) := hg1
 clear hC1 hg1
 go_wp2
 go_ret
 exact ⟨_, rfl, HC1.out, HG1.out⟩
theorem l01PickInt_any (g n cp : Nat) (B : Nat) (w : World) (c : Nat) (a0 : Option Addr) (len cap : Nat) (hn : 0 < n) (hn2 : n <= 1000000) (hgc : g ≠ c)
  (hcs : ∀ j, j < n -> ∃ x : Int, w.cell? ⟨g, j, none⟩ = some (.int .i64 x) /\ -9223372036854775808 <= x /\ x <= 9223372036854775807) (hC : Cur B w c a0 len cap) :
  Calls Tryz.prog 61 #[.pointer (some ⟨c, 0, none⟩), .slice (some ⟨g, 0, none⟩) n cp] w fun e w' =>
  ∃ x : Int, -9223372036854775808 <= x /\ x <= 9223372036854775807 /\ e = .returned (.int .i64 x) /\ Cur B w' c a0 len cap /\ w.grownBy w' (some c) := by
 have HC : Hid (Cur B w c a0 len cap) := hC
 have HX : Hid (∀ j, j < n -> ∃ x : Int, w.cell? ⟨g, j, none⟩ = some (.int .i64 x) /\ -9223372036854775808 <= x /\ x <= 9223372036854775807) := hcs
 clear hC hcs
 go_enter Tryz.func61, Tryz.ntmps61
 go_wp2_with fail
 refine (l01Below_any _ B _ c a0 len cap (by omega) HC.out).mono ?_
 rintro e w1 ⟨x, hx0, hx1, _, rfl, hC1, hg1⟩
 have hx2 := hx1 (by omega)
 obtain ⟨j, rfl⟩ := Int.eq_ofNat_of_zero_le hx0
 obtain ⟨y, hy, hy0, hy1⟩ := HX.out j (by omega)
 have hcy : w1.cell? ⟨g, j, none⟩ = some (.int .i64 y) := hg1.cell hy (fun e => hgc (Option.some.inj e))
 have HC1 : Hid (Cur B w1 c a0 len cap) := hC1
 have HG1 : Hid (w.grownBy w1 (some c)) := hg1
 clear hC1 hg1 hx1 hy
 go_wp2
 go_ret
 exact ⟨_, hy0, hy1, rfl, HC1.out, HG1.out⟩
def CodeAt (B : Nat) (w : World) (a0 : Option Addr) (len : Nat) : Prop :=
 ∀ j, j < len -> ∃ b off x, a0 = some ⟨b, off, none⟩ /\ b < B /\ w.cell? ⟨b, off + j, none⟩ = some (.int .u8 x) /\ 0 <= x /\ x <= 255
theorem CodeAt.below {B : Nat} {w w' : World} {a0 : Option Addr} {len : Nat} (h : CodeAt B w a0 len) (hb : Below B w w') : CodeAt B w' a0 len := fun j hj => by
 obtain ⟨b, off, x, e, hbB, hc, h1, h2⟩ := h j hj
 exact ⟨b, off, x, e, hbB, (hb.cell (p := ⟨b, off + j, none⟩) hbB).trans hc, h1, h2⟩
theorem codeAt_of {W : World} {x : Addr} {len cap : Nat} {zs : List Int} (hl : len <= cap) (hz : zs.length = cap) (hcell : ∀ i, i < zs.length -> W.cell? (x.add i) = some (.int .u8 (zs.getD i 0))) (hwz : ∀ n ∈ zs, (Lit.int .u8 n).wf = true) : CodeAt W.heap.size W (some x) len := fun j hj => by
 have hc := hcell j (by omega)
 have hc0 := hcell 0 (by omega)
 obtain ⟨b, off, spot⟩ := x
 have hspot : spot = none := by simpa [Addr.add] using World.cell?_spot hc0
 subst hspot
 have hadd : (⟨b, off, none⟩ : Addr).add j = ⟨b, off + j, none⟩ := by unfold Addr.add; split <;> simp_all
 rw [hadd] at hc
 have hm : zs.getD j 0 ∈ zs := by
  rw [List.getD_eq_getElem?_getD, List.getElem?_eq_getElem (by omega)]
  exact List.getElem_mem _
 have hw := hwz _ hm
 have hr : 0 <= zs.getD j 0 /\ zs.getD j 0 <= 255 := by simpa [Lit.wf, IntKind.min, IntKind.max, IntKind.signed, IntKind.bits] using hw
 exact ⟨b, off, _, rfl, World.block_lt_of_cell? W _ hc, hc, hr.1, hr.2⟩
theorem l01New_any (B : Nat) (w : World) (a0 : Option Addr) (len cap : Nat) (hl : len <= 1048576) (hB : B <= w.heap.size) (hcode : CodeAt B w a0 len) : Calls Tryz.prog 15 #[.slice a0 len cap] w fun e w' =>
  ∃ c, e = .returned (.pointer (some ⟨c, 0, none⟩)) /\ Cur B w' c a0 len cap /\ Below w.heap.size w w' /\ w.heap.size <= c := by
 have HD : Hid (CodeAt B w a0 len) := hcode
 clear hcode
 have hm := i64_and30
 go_enter Tryz.func15, Tryz.ntmps15
 go_wp2
 go_loop [3, 4] (fun hv iv => ∃ (k : Nat) (h : Int), k <= len /\ hv = .int .i64 h /\ iv = .int .i64 k /\ 0 <= h /\ h <= 2000000000) (fun _ iv => len - (intOf iv).toNat)
 case atStart => exact ⟨0, _, Nat.zero_le _, rfl, rfl, by omega, by omega⟩
 case round =>
  obtain ⟨k, h, hk, rfl, rfl, h0, h1⟩ := hrel
  by_cases hlt : k < len
  ·by_cases h4 : k < 4000
   ·obtain ⟨b, off, x, rfl, hbB, hcx, hx0, hx1⟩ := HD.out k hlt
    go_wp2
    go_round
    case rel => exact ⟨k + 1, _, by omega, rfl, by go_num, by omega, by omega⟩
    case measure => simp [intOf]; omega
   ·go_wp2
    go_ret
    exact ⟨w.heap.size, rfl, ⟨hB, hl, ⟨0, h, heap_alloc_new w _, by omega, by omega⟩, HD.out.below ((Below.refl B w).alloc hB _)⟩, (Below.refl _ _).alloc (Nat.le_refl _) _, Nat.le_refl _⟩
  ·go_wp2
   go_ret
   exact ⟨w.heap.size, rfl, ⟨hB, hl, ⟨0, h, heap_alloc_new w _, by omega, by omega⟩, HD.out.below ((Below.refl B w).alloc hB _)⟩, (Below.refl _ _).alloc (Nat.le_refl _) _, Nat.le_refl _⟩
theorem grow_step {w wr w2 : World} {row r2 : Option Nat} (h : w.grownBy wr row) (hg : wr.grownBy w2 r2) (hr : ∀ k, r2 = some k -> w.heap.size <= k) : w.grownBy w2 row :=
 ⟨hg.os.trans h.os, hg.tape.trans h.tape, hg.output.trans h.output, Nat.le_trans h.size hg.size, fun k hk hn => (hg.block k (Nat.lt_of_lt_of_le hk h.size) (fun e => by have := hr k e.symm; omega)).trans (h.block k hk hn)⟩
theorem Cur.grown {B : Nat} {w w' : World} {c : Nat} {a0 : Option Addr} {len cap : Nat} {r : Option Nat} (h : Cur B w c a0 len cap) (hg : w.grownBy w' r) (hr : ∀ k, r = some k -> c < k) : Cur B w' c a0 len cap := by
 have hlt := h.lt
 have hlow := h.low
 refine ⟨h.low, h.len_le, ?_, fun j hj => ?_⟩
 ·obtain ⟨i, k, hrow, h1, h2⟩ := h.row
  exact ⟨i, k, by rw [hg.block c hlt (fun e => by have := hr c e.symm; omega)]; exact hrow, h1, h2⟩
 ·obtain ⟨b, off, x, e, hbB, hc, h1, h2⟩ := h.code j hj
  exact ⟨b, off, x, e, hbB, hg.cell hc (fun e => by have := hr b e.symm; omega), h1, h2⟩
theorem one_cell (x : Int) : ∀ u ∈ [Value.int .u8 x], u.oneCell' = true := by
 intro u hu
 simp at hu
 subst hu; rfl
theorem len_ok (k : Nat) (h : k < 5000) : k + 1 <= maxLen := by unfold maxLen; omega
theorem len_ok2 (k : Nat) (h : k < 5000) : (k + 1) * 1 <= 140737488355328 := by omega
theorem l01Text_len (n : Int) (B : Nat) (w : World) (c : Nat) (a0 : Option Addr) (len cap : Nat) (hC : Cur B w c a0 len cap) : Calls Tryz.prog 58 #[.pointer (some ⟨c, 0, none⟩), .int .i64 n] w fun e w' =>
  ∃ s : ByteArray, e = .returned (.string s) /\ s.size <= 5000 /\ Cur B w' c a0 len cap /\ w.grownBy w' (some c) /\ (0 <= n -> n <= 5000 -> (s.size : Int) = n) := by
 obtain ⟨i0, hi, hz0, hz1, hz2⟩ := info_parts info5
 have hcw := hC.lt
 have HC : Hid (Cur B w c a0 len cap) := hC
 clear hC
 by_cases h5 : 5000 < n
 all_goals
  go_enter Tryz.func58, Tryz.ntmps58
  go_wp2
  go_loopw [5, 6] (fun v iv wr => ∃ (k : Nat) (l : List UInt8), k <= 5000 /\ iv = .int .i64 k /\ l.length = k /\ wr.ownsRow w.heap.size 5 1 v k (l.map cellB) /\ Hid (Cur B wr c a0 len cap) /\ Hid (w.grownBy wr (some c)) /\ Hid (0 <= n -> (k : Int) <= n)) (fun _ iv _ => 5000 - (intOf iv).toNat)
  case atStart => exact ⟨0, [], Nat.zero_le _, rfl, rfl, World.ownsRow_made w #[] 0 (Nat.le_refl _) (Nat.zero_le _) rfl, HC.out.kept ((Below.refl _ _).alloc (Nat.le_refl _) _), World.grownBy_alloc _ _ _, fun h => h⟩
  case round =>
   obtain ⟨k, l, hk, rfl, hlen, hown, HC1, HG1, HKN⟩ := hrel
   have HLen : Hid (l.length = k) := hlen
   clear hlen
   by_cases hlt : (k : Int) < n /\ k < 5000
   ·obtain ⟨hkn, hk5⟩ := hlt
    go_wp2_with fail
    refine (l01Byte_any B _ c a0 len cap HC1.out).mono ?_
    rintro e w1 ⟨x, hx0, hx1, rfl, hC1, hg1⟩
    have hown1 : w1.ownsRow w.heap.size 5 1 _ k (l.map cellB) := hown.kept hg1 (.inr (fun e => by have := (hown.lt c e).1; omega))
    have HC2 : Hid (Cur B w1 c a0 len cap) := hC1
    have HG2 : Hid (w.grownBy w1 (some c)) := grownBy_trans HG1.out hg1
    have hsz : w.heap.size <= w1.heap.size := HG2.out.size
    clear hC1 hg1 hown HC1 HG1
    go_wp2_with (at_builtin; refine wpList_append_own _ rfl _ _ 22 rfl w.heap.size 5 i0 (.int .u8 0) 1 1 Tryz.underlying22 hi hz0 hz1 hz2 rfl (by decide) _ _ _ rfl (hown1.alloc _) ⟨w1.heap.size, 0, none⟩ 1 1 [.int .u8 x] rfl rfl (one_new _ _ _) (one_cell x) (len_ok k hk5) (len_ok2 k hk5) (size_ok hsz _) ?_)
    intro v' w2 hown' hgrow _
    have ho2 : w2.ownsRow w.heap.size 5 1 v' (k + 1) ((l ++ [UInt8.ofNat x.toNat]).map cellB) := by
     rw [List.map_append]
     simp only [List.map_cons, List.map_nil, cellB_of (show x.toNat < 256 by omega)]
     rw [Int.toNat_of_nonneg hx0]
     exact hown'
    have HC3 : Hid (Cur B w2 c a0 len cap) := by
     exact Cur.grown (HC2.out.kept ((Below.refl _ _).alloc (Nat.le_refl _) _)) hgrow (fun k hk => by have := (hown1.lt k hk).1; omega)
    have HG3 : Hid (w.grownBy w2 (some c)) := grow_step (grow_step HG2.out (World.grownBy_alloc _ _ none) (fun k hk => by cases hk)) hgrow (fun k hk => (hown1.lt k hk).1)
    clear hown' hgrow hown1 HC2 HG2
    go_wp2
    go_roundw
    case rel => exact ⟨k + 1, l ++ [UInt8.ofNat x.toNat], by omega, by go_num, by simp; exact HLen.out, ho2, HC3, HG3, fun _ => by omega⟩
    case measure => simp [intOf]; omega
   ·have hcv := conv_own hown
    go_wp2
    go_ret
    exact ⟨_, rfl, by have := HLen.out; simp [ByteArray.size]; omega, HC1.out, HG1.out, fun h0 h1 => by have := HLen.out; have := HKN.out h0; simp [ByteArray.size]; omega⟩
theorem l01Text_any (n : Int) (B : Nat) (w : World) (c : Nat) (a0 : Option Addr) (len cap : Nat) (hC : Cur B w c a0 len cap) : Calls Tryz.prog 58 #[.pointer (some ⟨c, 0, none⟩), .int .i64 n] w fun e w' =>
  ∃ s : ByteArray, e = .returned (.string s) /\ s.size <= 5000 /\ Cur B w' c a0 len cap /\ w.grownBy w' (some c) :=
 (l01Text_len n B w c a0 len cap hC).mono fun _ _ ⟨s, h1, h2, h3, h4, _⟩ => ⟨s, h1, h2, h3, h4⟩
theorem made_bytes (n : Nat) : (madeCells #[Value.int .u8 0] n).toList = (List.replicate n (0 : UInt8)).map cellB := by
 apply List.ext_getElem?
 intro j
 by_cases h : j < n
 ·simp [madeCells, cellB, h, Nat.mod_one]
 ·simp [madeCells, h]
theorem l01Long_any (n : Nat) (x : Int) (w : World) (hn : n <= 1000000) (hx0 : 0 <= x) (hx1 : x <= 255) : Calls Tryz.prog 37 #[.int .i64 n, .int .u8 x] w fun e w' =>
  ∃ s : ByteArray, e = .returned (.string s) /\ s.size = n /\ Below w.heap.size w w' := by
 obtain ⟨i0, hi, hz0, hz1, hz2⟩ := info_parts info5
 go_enter Tryz.func37, Tryz.ntmps37
 go_wp2_with (at_make; refine wpList_make_full _ rfl _ _ 22 rfl w.heap.size 5 i0 (.int .u8 0) 1 Tryz.underlying22 hi hz0 hz1 .i64 .i64 _ _ n rfl rfl ?m0 ?m1 ?m2 ?m3 ?m4 ?_)
 case m0 => rfl
 case m1 => rfl
 case m2 => rw [hz2]; omega
 case m3 => unfold maxLen; omega
 case m4 => omega
 intro w1 hown1 hgrow1
 rw [made_bytes] at hown1
 have hb1 : Below w.heap.size w w1 := (Below.refl _ _).grown hgrow1 (Nat.le_refl _) (fun k hk => by cases hk)
 have hl1 := (hown1.lt w.heap.size rfl).2
 clear hgrow1
 go_wp2
 go_loopw [6] (fun iv wr => ∃ (k : Nat) (l : List UInt8), k <= n /\ iv = .int .i64 k /\ l.length = n /\ wr.ownsRow w.heap.size 5 1 (.slice (some ⟨w.heap.size, 0, none⟩) n n) n (l.map cellB) /\ Below w.heap.size w wr) (fun iv _ => n - (intOf iv).toNat)
 case atStart => exact ⟨0, _, Nat.zero_le _, rfl, by simp, hown1, hb1⟩
 case round =>
  obtain ⟨k, l, hk, rfl, hlen, hown, hbel⟩ := hrel
  have HLen : Hid (l.length = n) := hlen
  clear hlen hown1 hb1
  by_cases hlt : k < n
  ·have hc := hown.cellAt k (by omega)
   obtain ⟨u, hu⟩ : ∃ u, wr.cell? ⟨w.heap.size, k, none⟩ = some u := by
    rw [hc]
    exact ⟨_, List.getElem?_eq_getElem (by simp; have := HLen.out; omega)⟩
   have hf := hown.frozenAt k
   have ho2 := (hown.stored k (.int .u8 x)).1
   have ho3 : (wr.setCell ⟨w.heap.size, k, none⟩ (.int .u8 x)).ownsRow w.heap.size 5 1 (.slice (some ⟨w.heap.size, 0, none⟩) n n) n ((l.set k (UInt8.ofNat x.toNat)).map cellB) := by
    rw [List.map_set, cellB_of (show x.toNat < 256 by omega), Int.toNat_of_nonneg hx0]
    exact ho2
   have hki : (k : Int) < (n : Int) := by omega
   clear hc ho2 hown
   go_wp2
   go_roundw
   case rel => exact ⟨k + 1, l.set k (UInt8.ofNat x.toNat), by omega, by go_num, by simp; exact HLen.out, ho3, hbel.setCell (p := ⟨w.heap.size, k, none⟩) (Nat.le_refl _) _⟩
   case measure => simp [intOf]; omega
  ·have hcv := conv_own hown
   go_wp2
   go_ret
   exact ⟨_, rfl, by have := HLen.out; simp [ByteArray.size]; omega, hbel⟩
theorem l01Long_int (n x : Int) (w : World) (h0 : 0 <= n) (hn : n <= 1000000) (hx0 : 0 <= x) (hx1 : x <= 255) : Calls Tryz.prog 37 #[.int .i64 n, .int .u8 x] w fun e w' =>
  ∃ s : ByteArray, e = .returned (.string s) /\ (s.size : Int) = n /\ Below w.heap.size w w' := by
 obtain ⟨m, rfl⟩ := Int.eq_ofNat_of_zero_le h0
 refine (l01Long_any m x w (by omega) hx0 hx1).mono ?_
 rintro e w' ⟨s, rfl, hs, hb⟩
 exact ⟨s, rfl, by omega, hb⟩
end Go.Proofs.YthbdgdfanpbkeaaGreat
