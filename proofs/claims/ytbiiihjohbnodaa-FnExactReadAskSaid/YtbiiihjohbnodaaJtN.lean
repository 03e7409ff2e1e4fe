/-
  The program's readFirst and readKids.
-/
import Derived.Test.YtbiiihjohbnodaaJtM
namespace Go.Proofs.Ytbiiihjohbnodaa
open Go.RowKit Der
set_option linter.unusedVariables false

/-- What readFirst keeps to. -/
def FiPost (n : Nat) (T : ByteArray) (w : World) (e : Ending) (w' : World) : Prop := Below w.heap.size w w' ∧
  ((rdG n T.data.toList = none ∧ ∃ (t : Int) (s : ByteArray) (ax : Option Addr) (l cx : Nat) (s2 : ByteArray), e = .returned (.tuple #[.agg #[.int .i64 t, .string s, .slice ax l cx], .string s2, .bool false])) ∨
  ∃ (x : It n) (u : Nat) (t : Int) (s : ByteArray) (ax : Option Addr) (l cx : Nat) (fp : List Nat), rdG n T.data.toList = some (x, u) ∧ e = .returned (.tuple #[.agg #[.int .i64 t, .string s, .slice ax l cx], .string (T.extract u T.size), .bool true]) ∧ Own1 w' w.heap.size n t s (.slice ax l cx) x fp)
def FiC (n : Nat) : Prop := ∀ (T : ByteArray) (w : World), T.size ≤ 4000 → T.size < n → Calls Try.prog 116 #[.string T] w fun e w' => FiPost n T w e w'
/-- What readKids keeps to. -/
def KiPost (n : Nat) (T : ByteArray) (w : World) (e : Ending) (w' : World) : Prop := Below w.heap.size w w' ∧
  ((kidsL (rdG n) T.size T.data.toList = none ∧ e = .returned (.tuple #[.slice none 0 0, .bool false])) ∨
  ∃ (ks : List (It n)) (ax : Option Addr) (l cx : Nat) (fp : List Nat), kidsL (rdG n) T.size T.data.toList = some ks ∧ e = .returned (.tuple #[.slice ax l cx, .bool true]) ∧ OwnK w' w.heap.size n (.slice ax l cx) ks fp)
def KiC (n : Nat) : Prop := ∀ (T : ByteArray) (w : World), T.size ≤ 4000 → T.size < n → Calls Try.prog 129 #[.string T] w fun e w' => KiPost n T w e w'
theorem rdG_cons (n : Nat) (b : UInt8) (r : List UInt8) : rdG (n + 1) (b :: r) = match sizeG r with
    | none => none
    | some (sz, c) => if (r.drop c).length < sz then none
      else if b.toNat ≠ 48 then some (It.mk (b.toNat : Int) ((r.drop c).take sz) [], 1 + c + sz)
      else match kidsL (rdG n) ((r.drop c).take sz).length ((r.drop c).take sz) with
        | none => none
        | some ks => some (It.mk (b.toNat : Int) [] ks, 1 + c + sz) := rfl
theorem empty_of {T : ByteArray} (h : T.size = 0) : T = ⟨#[]⟩ := by
  cases T with
  | mk d => congr 1; exact Array.eq_empty_of_size_eq_zero h
set_option maxHeartbeats 3200000 in
set_option maxRecDepth 100000 in
theorem first_step (n : Nat) (KI : Hid (KiC n)) : FiC (n + 1) := fun T w hT hTn => by
  obtain ⟨⟨r0, r1, r2⟩, hbw⟩ := res_is w (.int .i64 0) (.string ⟨#[]⟩) (.slice none 0 0) 67
  by_cases h0 : T.size = 0
  · have hT0 := empty_of h0
    subst hT0
    go_enter Try.func116, Try.ntmps116
    go_wp2_with fail
    refine bodyPost_ret (v := .tuple #[.agg #[.int .i64 0, .string ⟨#[]⟩, .slice none 0 0], .string ⟨#[]⟩, .bool false]) (by simp [results, Try.results116, go_sem, r0, r1, r2]; try rfl) rfl ?_
    exact ⟨hbw, .inl ⟨rfl, _, _, _, _, _, _, rfl⟩⟩
  obtain ⟨b, r, he, hrl, hg0, hr1⟩ := list_cons (T := T) (by omega)
  have hne : T.toList.isEmpty = false := not_empty (by omega)
  have HBL : Hid (b.toNat < 256) := b.toNat_lt
  have h0i : (0 : Int) < (T.size : Int) := by omega
  have h0n : 0 < T.size := by omega
  have h1n : 1 ≤ T.size := by omega
  have h1i : (1 : Int) ≤ (T.size : Int) := by omega
  have wb : IntKind.i64.wrap (b.toNat : Int) = (b.toNat : Int) := by rw [IntKind.wrap_i64]; have := HBL.out; omega
  have HE : Hid (T.data.toList = b :: r ∧ (T.extract 1 T.size).data.toList = r ∧ r.length + 1 = T.size) := ⟨he, by
    rw [ext_list, ← hr1]
    exact List.take_of_length_le (by omega), hrl⟩
  have H1 : Hid (Blk3 (w.alloc (Obj.cells #[Value.int IntKind.i64 0, Value.string { data := #[] }, Value.slice none 0 0] 67)) w.heap.size (.int .i64 0) (.string ⟨#[]⟩) (.slice none 0 0) ∧ Below w.heap.size w (w.alloc (Obj.cells #[Value.int IntKind.i64 0, Value.string { data := #[] }, Value.slice none 0 0] 67))) := ⟨heap_alloc_new w _, hbw⟩
  obtain ⟨W1, hW1⟩ : ∃ W, W = w.alloc (Obj.cells #[Value.int IntKind.i64 0, Value.string { data := #[] }, Value.slice none 0 0] 67) := ⟨_, rfl⟩
  rw [← hW1] at H1
  have EL := readLength_any (T.extract 1 T.size) W1 (by rw [ByteArray.size_extract]; omega)
  clear he hr1 hrl r0 r1 r2 hbw
  go_enter Try.func116, Try.ntmps116
  go_wp2_with fail
  rw [← hW1]
  clear hW1
  refine EL.mono ?_
  clear EL
  rintro e w2 ⟨hb2, hcase⟩
  have H2 : Hid (Blk3 w2 w.heap.size (.int .i64 0) (.string ⟨#[]⟩) (.slice none 0 0) ∧ Below w.heap.size w w2 ∧ w.heap.size < w2.heap.size) := ⟨H1.out.1.below hb2, H1.out.2.trans (hb2.mono H1.out.2.size), Nat.lt_of_lt_of_le H1.out.1.lt hb2.size⟩
  obtain ⟨⟨r0, r1, r2⟩, rf⟩ := cell_in H2.out.1
  clear H1 hb2
  rw [HE.out.2.1] at hcase
  rcases hcase with ⟨hnone, za, zb, hza, hzb, rfl⟩ | ⟨z, c, hsome, rfl⟩
  · have HN : Hid (rdG (n + 1) T.data.toList = none) := by show rdG (n + 1) T.data.toList = none; rw [HE.out.1, rdG_cons, hnone]
    have ws : IntKind.i64.wrap (1 + (zb : Int)) = 1 + (zb : Int) := by rw [IntKind.wrap_i64]; omega
    clear hnone
    go_wp2_with fail
    refine bodyPost_ret (v := .tuple #[.agg #[.int .i64 0, .string ⟨#[]⟩, .slice none 0 0], .string ⟨#[]⟩, .bool false]) (by simp [results, Try.results116, go_sem, r0, r1, r2]; try rfl) rfl ?_
    exact ⟨((H2.out.2.1.setCell (p := ⟨w.heap.size, 0, none⟩) (Nat.le_refl _) _).setCell (p := ⟨w.heap.size, 1, none⟩) (Nat.le_refl _) _).setCell (p := ⟨w.heap.size, 2, none⟩) (Nat.le_refl _) _, .inl ⟨HN.out, _, _, _, _, _, _, rfl⟩⟩
  obtain ⟨-, -, hcr, hz6⟩ := sizeG_some hsome
  have hrT := HE.out.2.2
  obtain ⟨st, hst⟩ : ∃ st, 1 + c = st := ⟨_, rfl⟩
  have hsT : st ≤ T.size := by omega
  have ws : IntKind.i64.wrap (1 + (c : Int)) = (st : Int) := by rw [IntKind.wrap_i64]; omega
  have wd : IntKind.i64.wrap ((T.size : Int) - (st : Int)) = (T.size : Int) - (st : Int) := by rw [IntKind.wrap_i64]; omega
  have hdl : (r.drop c).length = T.size - st := by rw [List.length_drop]; omega
  by_cases hbig : T.size - st < z
  · have hbi : (T.size : Int) - (st : Int) < (z : Int) := by omega
    have HN : Hid (rdG (n + 1) T.data.toList = none) := by
      show rdG (n + 1) T.data.toList = none
      rw [HE.out.1, rdG_cons, hsome]
      show (if (r.drop c).length < z then none else _) = none
      rw [if_pos (by omega)]
    clear hsome hdl
    go_wp2_with fail
    refine bodyPost_ret (v := .tuple #[.agg #[.int .i64 0, .string ⟨#[]⟩, .slice none 0 0], .string ⟨#[]⟩, .bool false]) (by simp [results, Try.results116, go_sem, r0, r1, r2]; try rfl) rfl ?_
    exact ⟨((H2.out.2.1.setCell (p := ⟨w.heap.size, 0, none⟩) (Nat.le_refl _) _).setCell (p := ⟨w.heap.size, 1, none⟩) (Nat.le_refl _) _).setCell (p := ⟨w.heap.size, 2, none⟩) (Nat.le_refl _) _, .inl ⟨HN.out, _, _, _, _, _, _, rfl⟩⟩
  have hbi : ¬ (T.size : Int) - (st : Int) < (z : Int) := by omega
  obtain ⟨q, hq⟩ : ∃ q, st + z = q := ⟨_, rfl⟩
  have wq : IntKind.i64.wrap ((st : Int) + (z : Int)) = (q : Int) := by rw [IntKind.wrap_i64]; omega
  have hqT : q ≤ T.size := by omega
  have hsq : st ≤ q := by omega
  have hqi : (q : Int) ≤ (T.size : Int) := by omega
  have hs0 : (0 : Int) ≤ (st : Int) := by omega
  have hq0 : (0 : Int) ≤ (q : Int) := by omega
  have hsqi : (st : Int) ≤ (q : Int) := by omega
  have HS : Hid (sizeG r = some (z, c) ∧ ¬ (r.drop c).length < z ∧ (r.drop c).take z = (T.extract st q).data.toList ∧ 1 + c + z = q ∧ (T.extract st q).size < n ∧ (T.extract st q).size ≤ 4000) := by
    refine ⟨hsome, by omega, ?_, by omega, by rw [ByteArray.size_extract]; omega, by rw [ByteArray.size_extract]; omega⟩
    rw [ext_list, HE.out.1, ← hst, Nat.add_comm 1 c, List.drop_succ_cons, show q - (c + 1) = z by omega]
  obtain ⟨W3, hW3⟩ : ∃ W, W = w2.alloc (Obj.cells #[Value.int IntKind.i64 (b.toNat : Int), Value.string { data := #[] }, Value.slice none 0 0] 67) := ⟨_, rfl⟩
  obtain ⟨gx, hgx⟩ : ∃ g, w2.heap.size = g := ⟨_, rfl⟩
  have H3 : Hid (Blk3 W3 w.heap.size (.int .i64 0) (.string ⟨#[]⟩) (.slice none 0 0) ∧ Blk3 W3 gx (.int .i64 (b.toNat : Int)) (.string ⟨#[]⟩) (.slice none 0 0) ∧ Below w.heap.size w W3 ∧ w.heap.size < gx ∧ gx < W3.heap.size) := by
    have hb3 : Below w2.heap.size w2 W3 := by rw [hW3]; exact (Below.refl _ _).alloc (Nat.le_refl _) _
    have hx : Blk3 W3 gx (.int .i64 (b.toNat : Int)) (.string ⟨#[]⟩) (.slice none 0 0) := by rw [hW3, ← hgx]; exact heap_alloc_new w2 _
    exact ⟨H2.out.1.below hb3, hx, H2.out.2.1.trans (hb3.mono H2.out.2.1.size), by rw [← hgx]; exact H2.out.2.2, hx.lt⟩
  clear hsome hdl hst hq hcr hz6 hrT H2
  by_cases h48 : b.toNat ≠ 48
  · have h48i : ((b.toNat : Int) == 48) = false := by simp; omega
    have h48j : ¬ (b.toNat : Int) = 48 := by omega
    have HR : Hid (rdG (n + 1) T.data.toList = some (It.mk (b.toNat : Int) (T.extract st q).data.toList [], q)) := by
      show rdG (n + 1) T.data.toList = _
      rw [HE.out.1, rdG_cons, HS.out.1]
      show (if (r.drop c).length < z then none else _) = _
      rw [if_neg HS.out.2.1, if_pos h48, HS.out.2.2.1, HS.out.2.2.2.1]
    have EC := cloneB_any (T.extract st q) W3 (by have := HS.out.2.2.2.2.2; omega)
    go_wp2_with fail
    rw [← hW3]
    clear hW3
    refine EC.mono ?_
    clear EC
    rintro e w4 ⟨rfl, hb4⟩
    clear hgx
    have H4 : Hid (Blk3 w4 w.heap.size (.int .i64 0) (.string ⟨#[]⟩) (.slice none 0 0) ∧ Blk3 w4 gx (.int .i64 (b.toNat : Int)) (.string ⟨#[]⟩) (.slice none 0 0) ∧ Below w.heap.size w w4) := ⟨H3.out.1.below hb4, H3.out.2.1.below hb4, H3.out.2.2.1.trans (hb4.mono H3.out.2.2.1.size)⟩
    have hgne : gx ≠ w.heap.size := by have := H3.out.2.2.2.1; omega
    have hgn2 : w.heap.size ≠ gx := fun e => hgne e.symm
    obtain ⟨⟨r0, r1, r2⟩, rf⟩ := cell_in H4.out.1
    obtain ⟨⟨x0, x1, x2⟩, xf⟩ := cell_in H4.out.2.1
    clear hb4
    go_wp2_with fail
    go_region
    all_goals (
      go_wp2_with fail
      refine bodyPost_ret (v := .tuple #[.agg #[.int .i64 (b.toNat : Int), .string (T.extract st q), .slice none 0 0], .string (T.extract q T.size), .bool true]) (by simp [results, Try.results116, go_sem, r0, r1, r2]; try rfl) rfl ?_
      have hb := H4.out.2.2.setCell (p := ⟨gx, 1, none⟩) (show w.heap.size ≤ gx by have := H3.out.2.2.2.1; omega) (Value.string (T.extract st q))
      refine ⟨((hb.drew.setCell (p := ⟨w.heap.size, 0, none⟩) (Nat.le_refl _) _).setCell (p := ⟨w.heap.size, 1, none⟩) (Nat.le_refl _) _).setCell (p := ⟨w.heap.size, 2, none⟩) (Nat.le_refl _) _, .inr ⟨_, _, (b.toNat : Int), T.extract st q, none, 0, 0, [], HR.out, rfl, rfl, bytes_back _, own_nil _ _ _⟩⟩)
  · have h48i : ((b.toNat : Int) == 48) = true := by simp; omega
    have h48j : (b.toNat : Int) = 48 := by omega
    have hlen : ((r.drop c).take z).length = (T.extract st q).size := by rw [HS.out.2.2.1]; rfl
    have HR : Hid (∀ o, kidsL (rdG n) (T.extract st q).size (T.extract st q).data.toList = o → rdG (n + 1) T.data.toList = match o with
        | none => none
        | some ks => some (It.mk 48 [] ks, q)) := fun o ho => by
      rw [HE.out.1, rdG_cons, HS.out.1]
      show (if (r.drop c).length < z then none else _) = _
      rw [if_neg HS.out.2.1, if_neg h48, hlen, HS.out.2.2.1, ho, h48j, HS.out.2.2.2.1]
    have EK := KI.out (T.extract st q) W3 HS.out.2.2.2.2.2 HS.out.2.2.2.2.1
    rw [h48j] at hW3 H3
    clear hlen
    go_wp2_with fail
    rw [← hW3]
    clear hW3
    refine EK.mono ?_
    clear EK hgx
    rintro e w4 ⟨hb4, hcase⟩
    have H4 : Hid (Blk3 w4 w.heap.size (.int .i64 0) (.string ⟨#[]⟩) (.slice none 0 0) ∧ Blk3 w4 gx (.int .i64 48) (.string ⟨#[]⟩) (.slice none 0 0) ∧ Below w.heap.size w w4) := ⟨H3.out.1.below hb4, H3.out.2.1.below hb4, H3.out.2.2.1.trans (hb4.mono H3.out.2.2.1.size)⟩
    have hgne : gx ≠ w.heap.size := by have := H3.out.2.2.2.1; omega
    have hgn2 : w.heap.size ≠ gx := fun e => hgne e.symm
    obtain ⟨⟨r0, r1, r2⟩, rf⟩ := cell_in H4.out.1
    obtain ⟨⟨x0, x1, x2⟩, xf⟩ := cell_in H4.out.2.1
    clear hb4
    rcases hcase with ⟨hnone, rfl⟩ | ⟨ks, ax, l, cx, fp, hsome, rfl, hown⟩
    · have HN : Hid (rdG (n + 1) T.data.toList = none) := HR.out none hnone
      clear hnone
      go_wp2_with fail
      go_region
      all_goals (
        go_wp2_with fail
        refine bodyPost_ret (v := .tuple #[.agg #[.int .i64 48, .string ⟨#[]⟩, .slice none 0 0], .string (T.extract q T.size), .bool false]) (by simp [results, Try.results116, go_sem, r0, r1, r2]; try rfl) rfl ?_
        have hb := H4.out.2.2.setCell (p := ⟨gx, 2, none⟩) (show w.heap.size ≤ gx by have := H3.out.2.2.2.1; omega) (Value.slice none 0 0)
        refine ⟨((hb.drew.setCell (p := ⟨w.heap.size, 0, none⟩) (Nat.le_refl _) _).setCell (p := ⟨w.heap.size, 1, none⟩) (Nat.le_refl _) _).setCell (p := ⟨w.heap.size, 2, none⟩) (Nat.le_refl _) _, .inl ⟨HN.out, _, _, _, _, _, _, rfl⟩⟩)
    · have HSM : Hid (rdG (n + 1) T.data.toList = some (It.mk 48 [] ks, q)) := HR.out (some ks) hsome
      have HO : Hid (OwnK w4 W3.heap.size n (.slice ax l cx) ks fp) := hown
      clear hsome hown
      go_wp2_with fail
      go_region
      all_goals (
        go_wp2_with fail
        refine bodyPost_ret (v := .tuple #[.agg #[.int .i64 48, .string ⟨#[]⟩, .slice ax l cx], .string (T.extract q T.size), .bool true]) (by simp [results, Try.results116, go_sem, r0, r1, r2]; try rfl) rfl ?_
        have hb := H4.out.2.2.setCell (p := ⟨gx, 2, none⟩) (show w.heap.size ≤ gx by have := H3.out.2.2.2.1; omega) (Value.slice ax l cx)
        refine ⟨((hb.drew.setCell (p := ⟨w.heap.size, 0, none⟩) (Nat.le_refl _) _).setCell (p := ⟨w.heap.size, 1, none⟩) (Nat.le_refl _) _).setCell (p := ⟨w.heap.size, 2, none⟩) (Nat.le_refl _) _, .inr ⟨_, _, 48, ⟨#[]⟩, ax, l, cx, fp, HSM.out, rfl, rfl, rfl, ?_⟩⟩
        refine OwnK.base (base := W3.heap.size) (by have := H3.out.2.2.2; omega) (HO.out.same fun y hy => ?_)
        have h1 := (OwnK.lt HO.out y hy).1
        have h2 := H3.out.2.2.2
        show ((((w4.setCell ⟨gx, 2, none⟩ _).setCell ⟨w.heap.size, 0, none⟩ _).setCell ⟨w.heap.size, 1, none⟩ _).setCell ⟨w.heap.size, 2, none⟩ _).heap[y]? = _
        rw [heap_setCell_other _ _ _ _ (by show y ≠ w.heap.size; omega), heap_setCell_other _ _ _ _ (by show y ≠ w.heap.size; omega), heap_setCell_other _ _ _ _ (by show y ≠ w.heap.size; omega)]
        exact heap_setCell_other _ _ _ _ (by show y ≠ gx; omega))
def strSize : Value → Nat
  | .string s => s.size
  | _ => 0
set_option maxHeartbeats 3200000 in
set_option maxRecDepth 100000 in
theorem kids_step (n : Nat) (FI : Hid (FiC (n + 1))) : KiC (n + 1) := fun T w hT hTn => by
  go_enter Try.func129, Try.ntmps129
  go_wp2_with fail
  go_loopw [0, 4] (fun tv kv wr => ∃ (S : ByteArray) (ao : Option Addr) (l cp : Nat), tv = .string S ∧ kv = .slice ao l cp ∧ Hid (∃ (ks : List (It (n + 1))) (m : Nat), GrowK wr w.heap.size n (.slice ao l cp) ks ∧ ks.length = l ∧ Below w.heap.size w wr ∧ S.size ≤ m ∧ S.size ≤ T.size ∧ ks.length + m ≤ T.size ∧ kidsL (rdG (n + 1)) T.size T.data.toList = (kidsL (rdG (n + 1)) m S.data.toList).map (ks ++ ·))) (fun tv _ _ => strSize tv)
  case atStart => exact ⟨T, none, 0, 0, rfl, rfl, [], T.size, GrowK.nil _ _ _, rfl, Below.refl _ _, Nat.le_refl _, Nat.le_refl _, by simp, (map_nil_app _).symm⟩
  case round =>
    obtain ⟨S, ao, l, cp, rfl, rfl, HR⟩ := hrel
    obtain ⟨ks, m, hrG, hkl, hrB, hSm, hST, hrm, hrK⟩ := HR.out
    have HK : Hid (GrowK wr w.heap.size n (.slice ao l cp) ks ∧ ks.length = l ∧ Below w.heap.size w wr ∧ kidsL (rdG (n + 1)) T.size T.data.toList = (kidsL (rdG (n + 1)) m S.data.toList).map (ks ++ ·)) := ⟨hrG, hkl, hrB, hrK⟩
    clear HR hrG hkl hrB hrK
    by_cases h0 : S.size = 0
    · have hS0 := empty_of h0
      subst hS0
      have HS : Hid (kidsL (rdG (n + 1)) T.size T.data.toList = some ks) := by
        show kidsL (rdG (n + 1)) T.size T.data.toList = some ks
        rw [HK.out.2.2.2, show (⟨#[]⟩ : ByteArray).data.toList = [] from rfl, kidsL_end]
        simp
      have HO : Hid (∃ fp, OwnK wr w.heap.size (n + 1) (.slice ao l cp) ks fp) := HK.out.1.own
      go_wp2_with fail
      go_ret2
      obtain ⟨fp, hfp⟩ := HO.out
      exact ⟨HK.out.2.2.1, .inr ⟨ks, ao, l, cp, fp, HS.out, rfl, hfp⟩⟩
    · have hne : S.toList.isEmpty = false := not_empty (by omega)
      have hnl : S.data.toList ≠ [] := fun e => h0 (by have e2 : S.data.toList.length = S.size := rfl; rw [e] at e2; simpa using e2.symm)
      have E := FI.out S wr (by omega) (by omega)
      have HNL : Hid (S.data.toList ≠ []) := hnl
      clear hnl
      go_wp2_with fail
      refine E.mono ?_
      clear E
      rintro e w3 ⟨hb3, hcase⟩
      rcases hcase with ⟨hnone, t3, s3, ax3, l3, cx3, s4, rfl⟩ | ⟨y, u, t3, s3, ax3, l3, cx3, fp3, hsome, rfl, hown⟩
      · have HN : Hid (kidsL (rdG (n + 1)) T.size T.data.toList = none) := by
          show kidsL (rdG (n + 1)) T.size T.data.toList = none
          rw [HK.out.2.2.2, kidsL_fail _ HNL.out hnone]
          rfl
        have HB : Hid (Below w.heap.size w (w3.alloc (Obj.cells #[Value.int IntKind.i64 t3, Value.string s3, Value.slice ax3 l3 cx3] 67))) := HK.out.2.2.1.trans ((hb3.alloc hb3.size _).mono HK.out.2.2.1.size)
        clear hnone hb3
        go_wp2_with fail
        go_ret2
        exact ⟨HB.out, .inl ⟨HN.out, rfl⟩⟩
      · obtain ⟨hu1, hu2, -⟩ := rdG_txt _ _ _ _ hsome
        have e2 : S.data.toList.length = S.size := rfl
        rw [e2] at hu1
        obtain ⟨ht3, hs3, ho3⟩ := hown
        have hb34 : Below w3.heap.size w3 (w3.alloc (Obj.cells #[Value.int IntKind.i64 t3, Value.string s3, Value.slice ax3 l3 cx3] 67)) := (Below.refl _ _).alloc (Nat.le_refl _) _
        have H4 : Hid (Below wr.heap.size wr (w3.alloc (Obj.cells #[Value.int IntKind.i64 t3, Value.string s3, Value.slice ax3 l3 cx3] 67)) ∧ OwnK (w3.alloc (Obj.cells #[Value.int IntKind.i64 t3, Value.string s3, Value.slice ax3 l3 cx3] 67)) wr.heap.size n (.slice ax3 l3 cx3) (It.kids y) fp3 ∧ It.tag y = t3 ∧ (⟨(It.text y).toArray⟩ : ByteArray) = s3) := ⟨hb3.alloc hb3.size _, ho3.below hb34 (fun b hm => (OwnK.lt ho3 b hm).2), ht3, hs3⟩
        obtain ⟨m', rfl⟩ : ∃ m', m = m' + 1 := ⟨m - 1, by omega⟩
        have HNX : Hid (kidsL (rdG (n + 1)) T.size T.data.toList = (kidsL (rdG (n + 1)) m' (S.extract u S.size).data.toList).map ((ks ++ [y]) ++ ·) ∧ (S.extract u S.size).size ≤ m' ∧ (S.extract u S.size).size < S.size) := by
          have es : (S.extract u S.size).size = S.size - u := by rw [ByteArray.size_extract]; omega
          refine ⟨?_, by omega, by omega⟩
          rw [HK.out.2.2.2, kidsL_step _ HNL.out hsome, Option.map_map, ext_list, List.take_of_length_le (by rw [List.length_drop]; omega)]
          congr 1
          funext l
          simp
        clear hsome hb3 hb34 ho3 ht3 hs3 hu1 hu2
        have HLN : Hid (ks.length ≤ 1000000000 ∧ ks.length + 1 + m' ≤ T.size) := ⟨by omega, by omega⟩
        go_wp2_with (at_builtin; refine wpList_append_item rfl _ _ rfl w.heap.size n (.slice ao l cp) ks y t3 s3 (.slice ax3 l3 cx3) fp3 H4.out.2.2.1 H4.out.2.2.2 rfl _ rfl (by simp) HK.out.1 H4.out.1 H4.out.2.1 HK.out.2.2.1.size HLN.out.1 ?_)
        intro g cap w6 hG6 hgrow6
        have H6 : Hid (GrowK w6 w.heap.size n (.slice (some ⟨g, 0, none⟩) (l + 1) cap) (ks ++ [y]) ∧ Below w.heap.size w w6) := by
          have hb5 := H4.out.1.alloc H4.out.1.size (Obj.cells #[Value.int IntKind.i64 t3, Value.string s3, Value.slice ax3 l3 cx3] 67)
          have hkb := GrowK.lt HK.out.1
          have hbw := HK.out.2.2.1.trans (hb5.mono HK.out.2.2.1.size)
          rw [HK.out.2.1] at hG6
          exact ⟨hG6, hbw.grown hgrow6 (hbw.size) (fun q hq => (hkb q hq).1)⟩
        rw [HK.out.2.1]
        have HLK : Hid (ks.length = l) := HK.out.2.1
        clear hG6 hgrow6 H4
        go_wp2_with fail
        refine ⟨⟨S.extract u S.size, some ⟨g, 0, none⟩, l + 1, cap, rfl, rfl, ks ++ [y], m', H6.out.1, by rw [List.length_append, List.length_singleton, HLK.out], H6.out.2, HNX.out.2.1, by have := HNX.out.2.2; omega, by rw [List.length_append, List.length_singleton]; exact HLN.out.2, HNX.out.1⟩, by have := HNX.out.2.2; show (S.extract u S.size).size < S.size; omega⟩
theorem reads_any : ∀ n, FiC n ∧ KiC n
  | 0 => ⟨fun T w _ h => absurd h (Nat.not_lt_zero _), fun T w _ h => absurd h (Nat.not_lt_zero _)⟩
  | n + 1 => by
    have h := first_step n (reads_any n).2
    exact ⟨h, kids_step n h⟩
end Go.Proofs.Ytbiiihjohbnodaa
