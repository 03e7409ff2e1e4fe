/-
  Texts of the proof.
-/
import Derived.LaidEqlPtr
import Derived.Laws.StructEq
import Derived.ChangeKeysEq
import Derived.Test.YthbdgdfanpbkeaaGreatAQ25
set_option maxRecDepth 100000
set_option maxHeartbeats 25600000
namespace Go.Proofs.YthbdgdfanpbkeaaGreat
open Go.RowKit Der
set_option linter.unusedVariables false
def szAt (t : List UInt8) (p : Nat) : Option (Nat × Nat) := sizeL (t.drop p)
def szV (t : List UInt8) (p : Nat) : Value := match szAt t p with
 | none => .tuple #[.int .i64 0, .int .i64 0, .bool false]
 | some (z, c) => .tuple #[.int .i64 (z : Int), .int .i64 ((p + c : Nat) : Int), .bool true]
theorem szV_none {t : List UInt8} {p : Nat} (h : szAt t p = none) : szV t p = .tuple #[.int .i64 0, .int .i64 0, .bool false] := by unfold szV; rw [h]
theorem szV_some {t : List UInt8} {p z c : Nat} (h : szAt t p = some (z, c)) : szV t p = .tuple #[.int .i64 (z : Int), .int .i64 ((p + c : Nat) : Int), .bool true] := by unfold szV; rw [h]
theorem size_any (t : List UInt8) (p : Nat) (w : World) (ht : t.length <= 20000000) (hp : p <= 20000001) : Calls Tryz.prog 76 #[.string ⟨t.toArray⟩, .int .i64 (p : Int)] w fun e w' => e = .returned (szV t p) /\ w' = w := by
 have hssz : (⟨t.toArray⟩ : ByteArray).size = t.length := by show t.toArray.size = _; simp
 by_cases hlt : p < t.length
 ·have hlti : ¬ (t.length : Int) <= (p : Int) := by omega
  have hlti2 : (p : Int) < (t.length : Int) := by omega
  have hp0 : (0 : Int) <= (p : Int) := by omega
  obtain ⟨b, hbk⟩ := zE (t[p])
  have hgk : ∀ h, (⟨t.toArray⟩ : ByteArray)[p]'h = b := fun h => by rw [<- hbk]; rfl
  have hdr : t.drop p = b :: t.drop (p + 1) := by rw [<- hbk]; exact List.drop_eq_getElem_cons hlt
  have hbl := b.toNat_lt
  have w3' : IntKind.i64.wrap (b.toNat : Int) = (b.toNat : Int) := by rw [IntKind.wrap_i64]; omega
  by_cases h128 : b.toNat < 128
  ·have h128i : (b.toNat : Int) < 128 := by omega
   have w4 : IntKind.i64.wrap ((p : Int) + 1) = ((p + 1 : Nat) : Int) := by rw [IntKind.wrap_i64]; omega
   have HR : Hid (szV t p = .tuple #[.int .i64 (b.toNat : Int), .int .i64 ((p + 1 : Nat) : Int), .bool true]) := szV_some (by unfold szAt; rw [hdr]; simp [sizeL, h128])
   go_enter Tryz.func76, Tryz.ntmps76
   go_wp2_with fail
   go_ret3
   exact ⟨by rw [HR.out]; rfl, rfl⟩
  ·have h128i : ¬ (b.toNat : Int) < 128 := by omega
   obtain ⟨k, hk⟩ : ∃ k : Nat, b.toNat - 128 = k := ⟨_, rfl⟩
   have w5 : IntKind.i64.wrap ((b.toNat : Int) - 128) = (k : Int) := by rw [IntKind.wrap_i64]; omega
   have hki : (b.toNat : Int) - 128 = (k : Int) := by omega
   have hrl : (t.drop (p + 1)).length = t.length - p - 1 := by rw [List.length_drop]; omega
   by_cases hk12 : 1 <= k /\ k <= 2
   ·have w6 : IntKind.i64.wrap ((t.length : Int) - (p : Int)) = (t.length : Int) - (p : Int) := by rw [IntKind.wrap_i64]; omega
    have w7 : IntKind.i64.wrap ((t.length : Int) - (p : Int) - 1) = (t.length : Int) - (p : Int) - 1 := by rw [IntKind.wrap_i64]; omega
    by_cases hfit : k <= t.length - p - 1
    ·have hfi : ¬ (t.length : Int) - (p : Int) - 1 < (k : Int) := by omega
     have HR0 : Hid (szAt t p = some (((t.drop (p + 1)).take k).foldl (fun a c => 256 * a + c.toNat) 0, 1 + k)) := by
      show szAt t p = _
      unfold szAt
      rw [hdr]
      unfold sizeL
      simp only
      rw [if_neg h128, hk, if_pos ⟨hk12.1, hk12.2, by rw [hrl]; exact hfit⟩]
     go_enter Tryz.func76, Tryz.ntmps76
     go_wp2_with fail
     refine (in_yes (k : Int) 1 2 _ (by omega) (by omega)).mono ?_
     rintro e w' ⟨rfl, rfl⟩
     go_wp2_with fail
     go_loopw [9, 10] (fun sv iv wr => ∃ (i q : Nat), i <= k /\ sv = .int .i64 (q : Int) /\ iv = .int .i64 (i : Int) /\ q < 65536 /\ wr = w /\ Hid (q = valB8 ((t.drop (p + 1)).take i))) (fun _ iv _ => k - (intOf iv).toNat)
     case atStart => exact ⟨0, 0, Nat.zero_le _, rfl, rfl, by omega, rfl, rfl⟩
     case round =>
      obtain ⟨i, q, hi, rfl, rfl, hq, rfl, HQ⟩ := hrel
      by_cases hik : i < k
      ·have hiki : (i : Int) < (k : Int) := by omega
       have hd1 : i < (t.drop (p + 1)).length := by rw [hrl]; omega
       obtain ⟨z, hz⟩ : ∃ z, z = p + 1 + i := ⟨_, rfl⟩
       have hzl : z < t.length := by omega
       obtain ⟨c, hc⟩ := zE (t[z])
       have hgc : ∀ h, (⟨t.toArray⟩ : ByteArray)[z]'h = c := fun h => by rw [<- hc]; rfl
       have hdc : (t.drop (p + 1))[i] = c := by rw [List.getElem_drop, <- hc]; congr 1; exact hz.symm
       have hcl := c.toNat_lt
       have hvt := valB8_take hd1
       rw [hdc, <- HQ.out] at hvt
       have hv := valB8_lt (i + 1) ((t.drop (p + 1)).take (i + 1)) (by rw [List.length_take]; omega)
       have hpw : (256 : Nat) ^ (i + 1) <= 256 ^ 2 := Nat.pow_le_pow_right (by decide) (by omega)
       rw [hvt] at hv
       have hq2 : 256 * q + c.toNat < 65536 := by
        have : (256 : Nat) ^ 2 = 65536 := by decide
        omega
       have HV : Hid (256 * q + c.toNat = valB8 ((t.drop (p + 1)).take (i + 1))) := hvt.symm
       have v1 : IntKind.i64.wrap ((p : Int) + 1) = (p : Int) + 1 := by rw [IntKind.wrap_i64]; omega
       have v2 : IntKind.i64.wrap ((p : Int) + 1 + (i : Int)) = (z : Int) := by rw [IntKind.wrap_i64]; omega
       have v3 : IntKind.i64.wrap (c.toNat : Int) = (c.toNat : Int) := by rw [IntKind.wrap_i64]; omega
       have v4 : (z : Int) < (t.length : Int) := by omega
       have v5 : (0 : Int) <= (z : Int) := by omega
       have v6 : (p : Int) + 1 + (i : Int) = (z : Int) := by omega
       clear hc hdc hvt hv hpw HQ hz
       go_wp2_with fail
       go_roundw
       case rel => exact ⟨i + 1, 256 * q + c.toNat, by omega, by go_num, by go_num, hq2, by trivial, HV.out⟩
       case measure => simp [intOf]; omega
      ·have hiki : ¬ (i : Int) < (k : Int) := by omega
       have hie : i = k := by omega
       subst hie
       have HR : Hid (szV t p = .tuple #[.int .i64 (q : Int), .int .i64 ((p + (1 + i) : Nat) : Int), .bool true]) := szV_some (by rw [HR0.out, HQ.out]; rfl)
       have v1 : IntKind.i64.wrap ((p : Int) + 1) = (p : Int) + 1 := by rw [IntKind.wrap_i64]; omega
       have v2 : IntKind.i64.wrap ((p : Int) + 1 + (i : Int)) = ((p + (1 + i) : Nat) : Int) := by rw [IntKind.wrap_i64]; omega
       obtain ⟨z, hz⟩ : ∃ z : Nat, p + (1 + i) = z := ⟨_, rfl⟩
       rw [hz] at HR v2
       have v6 : (p : Int) + 1 + (i : Int) = (z : Int) := by omega
       clear hz
       go_wp2_with fail
       go_ret3
       exact ⟨by rw [HR.out]; rfl, rfl⟩
    ·have hfi : (t.length : Int) - (p : Int) - 1 < (k : Int) := by omega
     have HR : Hid (szV t p = .tuple #[.int .i64 0, .int .i64 0, .bool false]) := szV_none (by
      unfold szAt
      rw [hdr]
      unfold sizeL
      simp only
      rw [if_neg h128, hk, if_neg (fun h => hfit (by rw [hrl] at h; exact h.2.2))])
     go_enter Tryz.func76, Tryz.ntmps76
     go_wp2_with fail
     refine (in_yes (k : Int) 1 2 _ (by omega) (by omega)).mono ?_
     rintro e w' ⟨rfl, rfl⟩
     go_wp2_with fail
     go_ret3
     exact ⟨by rw [HR.out]; rfl, rfl⟩
   ·have HR : Hid (szV t p = .tuple #[.int .i64 0, .int .i64 0, .bool false]) := szV_none (by
     unfold szAt
     rw [hdr]
     unfold sizeL
     simp only
     rw [if_neg h128, hk, if_neg (fun h => hk12 ⟨h.1, h.2.1⟩)])
    go_enter Tryz.func76, Tryz.ntmps76
    go_wp2_with fail
    refine (in_no (k : Int) 1 2 _ (by omega)).mono ?_
    rintro e w' ⟨rfl, rfl⟩
    go_wp2_with fail
    go_ret3
    exact ⟨by rw [HR.out]; rfl, rfl⟩
 ·have hlti : (t.length : Int) <= (p : Int) := by omega
  have HR : Hid (szV t p = .tuple #[.int .i64 0, .int .i64 0, .bool false]) := szV_none (by unfold szAt; rw [List.drop_of_length_le (by omega)]; rfl)
  go_enter Tryz.func76, Tryz.ntmps76
  go_wp2_with fail
  go_ret3
  exact ⟨by rw [HR.out]; rfl, rfl⟩
theorem own_nil (w : World) (base : Nat) : ∀ n, OwnK w base n (.slice none 0 0) [] []
 | 0 => ⟨⟨none, 0, rfl⟩, rfl⟩
 | _ + 1 => ⟨none, 0, rfl, fun _ => rfl, fun h => absurd h (Nat.lt_irrefl _)⟩
theorem ext_list (b : ByteArray) (p q : Nat) : (b.extract p q).data.toList = (b.data.toList.drop p).take (q - p) := by
 rw [ByteArray.data_extract]
 simp [Array.toList_extract, List.extract]
theorem size_at (T : ByteArray) (p : Nat) (w : World) (ht : T.size <= 20000000) (hp : p <= 20000001) : Calls Tryz.prog 76 #[.string T, .int .i64 (p : Int)] w fun e w' => e = .returned (szV T.data.toList p) /\ w' = w := by
 have h := size_any T.data.toList p w (by have e : T.data.toList.length = T.size := rfl; omega) hp
 have e : (⟨T.data.toList.toArray⟩ : ByteArray) = T := by simp
 rw [e] at h
 exact h
theorem sizeL_cons (b : UInt8) (r : List UInt8) : sizeL (b :: r) = if b.toNat < 128 then some (b.toNat, 1) else if 1 <= b.toNat - 128 /\ b.toNat - 128 <= 2 /\ b.toNat - 128 <= r.length then some ((r.take (b.toNat - 128)).foldl (fun a c => 256 * a + c.toNat) 0, 1 + (b.toNat - 128)) else none := rfl
theorem sizeL_le {l : List UInt8} {z c : Nat} (h : sizeL l = some (z, c)) : 1 <= c /\ c <= l.length /\ z < 65536 := by
 cases l with
 | nil => simp [sizeL] at h
 | cons b r =>
  rw [sizeL_cons] at h
  split at h
  ·simp only [Option.some.injEq, Prod.mk.injEq] at h
   obtain ⟨rfl, rfl⟩ := h
   exact ⟨Nat.le_refl _, by simp, by omega⟩
  ·split at h
   ·next hc =>
    simp only [Option.some.injEq, Prod.mk.injEq] at h
    obtain ⟨h1, h2⟩ := h
    have h3 := valB8_lt _ (r.take (b.toNat - 128)) rfl
    have h4 : (r.take (b.toNat - 128)).length <= 2 := by rw [List.length_take]; omega
    have h5 : 256 ^ (r.take (b.toNat - 128)).length <= 256 ^ 2 := Nat.pow_le_pow_right (by decide) h4
    have h6 : (256 : Nat) ^ 2 = 65536 := by decide
    have h7 : valB8 (r.take (b.toNat - 128)) = z := h1
    exact ⟨by omega, by simp only [List.length_cons]; omega, by omega⟩
   ·simp at h
theorem rdI_cons (n : Nat) (b : UInt8) (r : List UInt8) : rdI (n + 1) (b :: r) = match sizeL r with
  | none => none
  | some (sz, c) => if (r.drop c).length < sz then none
   else if b.toNat ≠ 48 then some (It.mk (b.toNat : Int) ((r.drop c).take sz) [], 1 + c + sz)
   else match kidsL (rdI n) 40 ((r.drop c).take sz) with
    | none => none
    | some ks => some (It.mk (b.toNat : Int) [] ks, 1 + c + sz) := rfl
theorem rd_le : ∀ {n : Nat} {l : List UInt8} {x : It n} {u : Nat}, rdI n l = some (x, u) -> u <= l.length /\ 2 <= u
 | 0, _, _, _, h => by simp [rdI] at h
 | n + 1, [], _, _, h => by simp [rdI] at h
 | n + 1, b :: r, x, u, h => by
  rw [rdI_cons] at h
  split at h
  ·simp at h
  ·next sz c hs =>
   have hc := sizeL_le hs
   split at h
   ·simp at h
   ·next hn =>
    have hl : (r.drop c).length = r.length - c := List.length_drop
    have key : u = 1 + c + sz -> u <= (b :: r).length /\ 2 <= u := fun e => by simp only [List.length_cons]; omega
    split at h
    ·simp only [Option.some.injEq, Prod.mk.injEq] at h
     exact key h.2.symm
    ·split at h
     ·simp at h
     ·simp only [Option.some.injEq, Prod.mk.injEq] at h
      exact key h.2.symm
theorem kidsL_end {α : Type} (rd : List UInt8 -> Option (α × Nat)) (m : Nat) : kidsL rd m [] = some [] := by cases m <;> rfl
theorem kidsL_full {α : Type} (rd : List UInt8 -> Option (α × Nat)) {l : List UInt8} (h : l ≠ []) : kidsL rd 0 l = none := by
 cases l with
 | nil => exact absurd rfl h
 | cons => rfl
theorem kidsL_fail {α : Type} (rd : List UInt8 -> Option (α × Nat)) {l : List UInt8} (h : l ≠ []) (hr : rd l = none) (m : Nat) : kidsL rd m l = none := by
 cases l with
 | nil => exact absurd rfl h
 | cons b l =>
  cases m with
  | zero => rfl
  | succ m => unfold kidsL; rw [hr]
theorem kidsL_step {α : Type} (rd : List UInt8 -> Option (α × Nat)) {l : List UInt8} (h : l ≠ []) {x : α} {u : Nat} (hr : rd l = some (x, u)) (m : Nat) : kidsL rd (m + 1) l = (kidsL rd m (l.drop u)).map (x :: ·) := by
 cases l with
 | nil => exact absurd rfl h
 | cons b l =>
  show (match rd (b :: l) with
   | none => none
   | some (x, u) => match kidsL rd m ((b :: l).drop u) with
    | none => none
    | some xs => some (x :: xs)) = _
  rw [hr]
  show (match kidsL rd m ((b :: l).drop u) with
    | none => none
    | some xs => some (x :: xs)) = _
  cases kidsL rd m ((b :: l).drop u) <;> rfl
def Own1 (w : World) (base : Nat) : (n : Nat) -> Int -> ByteArray -> Value -> It n -> List Nat -> Prop
 | 0, _, _, _, _, _ => False
 | m + 1, t, s, k, x, fp => It.tag x = t /\ (⟨(It.text x).toArray⟩ : ByteArray) = s /\ OwnK w base m k (It.kids x) fp
def GrowN (w : World) (base : Nat) : (n : Nat) -> Value -> List (It n) -> Prop
 | 0, v, ks => v = .slice none 0 0 /\ ks = []
 | m + 1, v, ks => GrowK w base m v ks
theorem GrowN.nil (w : World) (base : Nat) : ∀ n, GrowN w base n (.slice none 0 0) []
 | 0 => ⟨rfl, rfl⟩
 | _ + 1 => GrowK.nil _ _ _
theorem GrowN.shape {w : World} {base : Nat} : ∀ {n : Nat} {v : Value} {ks : List (It n)}, GrowN w base n v ks -> ∃ ao cap, v = .slice ao ks.length cap
 | 0, _, _, h => by obtain ⟨rfl, rfl⟩ := h; exact ⟨none, 0, rfl⟩
 | _ + 1, _, _, h => GrowK.shape h
theorem GrowN.own {w : World} {base : Nat} : ∀ {n : Nat} {v : Value} {ks : List (It n)}, GrowN w base n v ks -> ∃ fp, OwnK w base n v ks fp
 | 0, _, _, h => by obtain ⟨rfl, rfl⟩ := h; exact ⟨[], own_nil _ _ 0⟩
 | _ + 1, _, _, h => GrowK.own h
def InPost (n : Nat) (T : ByteArray) (p : Nat) (w : World) (e : Ending) (w' : World) : Prop := Below w.heap.size w w' /\
 ((rdI n (T.data.toList.drop p) = none /\ e = .returned (.tuple #[.agg #[.int .i64 0, .string ⟨#[]⟩, .slice none 0 0], .int .i64 0, .bool false])) ∨
 ∃ (x : It n) (u : Nat) (t : Int) (s : ByteArray) (ax : Option Addr) (l cx : Nat) (fp : List Nat), rdI n (T.data.toList.drop p) = some (x, u) /\ e = .returned (.tuple #[.agg #[.int .i64 t, .string s, .slice ax l cx], .int .i64 ((p + u : Nat) : Int), .bool true]) /\ Own1 w' w.heap.size n t s (.slice ax l cx) x fp)
def InC (n : Nat) : Prop := ∀ (T : ByteArray) (p : Nat) (w : World), T.size <= 4000 -> p <= T.size -> Calls Tryz.prog 59 #[.string T, .int .i64 (p : Int), .int .i64 ((7 - n : Nat) : Int)] w fun e w' => InPost n T p w e w'
theorem map_nil_app {α : Type} (o : Option (List α)) : o.map (([] : List α) ++ ·) = o := by cases o <;> simp
theorem cut_drop (t : List UInt8) {a k q : Nat} (h : a <= k) : ((t.drop 0).take (q - 0)).drop k = ((t.drop a).take (q - a)).drop (k - a) := by
 rw [List.drop_zero, Nat.sub_zero, List.drop_take, List.drop_take, List.drop_drop, show a + (k - a) = k by omega, show q - a - (k - a) = q - k by omega]
theorem bytes_back (B : ByteArray) : (⟨B.data.toList.toArray⟩ : ByteArray) = B := by simp
theorem res_is (w : World) (a b c : Value) (t : TypeId) : ((w.alloc (Obj.cells #[a, b, c] t)).cell? ⟨w.heap.size, 0, none⟩ = some a /\ (w.alloc (Obj.cells #[a, b, c] t)).cell? ⟨w.heap.size, 1, none⟩ = some b /\ (w.alloc (Obj.cells #[a, b, c] t)).cell? ⟨w.heap.size, 2, none⟩ = some c) /\ Below w.heap.size w (w.alloc (Obj.cells #[a, b, c] t)) := by
 refine ⟨⟨?_, ?_, ?_⟩, (Below.refl _ _).alloc (Nat.le_refl _) _⟩ <;> (rw [World.cell?_alloc_mark w _ t _ _]; simp)
theorem read_deep : InC 0 := fun T p w hT hp => by
 have hdd : (6 : Int) < ((7 - 0 : Nat) : Int) := by decide
 obtain ⟨⟨r0, r1, r2⟩, hbw⟩ := res_is w (.int .i64 0) (.string ⟨#[]⟩) (.slice none 0 0) 41
 by_cases hlt : p < T.size
 ·have hlti : ¬ (T.size : Int) <= (p : Int) := by omega
  go_enter Tryz.func59, Tryz.ntmps59
  go_wp2_with fail
  refine bodyPost_ret (v := .tuple #[.agg #[.int .i64 0, .string ⟨#[]⟩, .slice none 0 0], .int .i64 0, .bool false]) (by simp [results, Tryz.results59, go_sem, r0, r1, r2]; try rfl) rfl ?_
  exact ⟨hbw, .inl ⟨rfl, rfl⟩⟩
 ·have hlti : (T.size : Int) <= (p : Int) := by omega
  go_enter Tryz.func59, Tryz.ntmps59
  go_wp2_with fail
  refine bodyPost_ret (v := .tuple #[.agg #[.int .i64 0, .string ⟨#[]⟩, .slice none 0 0], .int .i64 0, .bool false]) (by simp [results, Tryz.results59, go_sem, r0, r1, r2]; try rfl) rfl ?_
  exact ⟨hbw, .inl ⟨rfl, rfl⟩⟩
theorem read_step (n : Nat) (hn : n <= 6) (IH : Hid (InC n)) : InC (n + 1) := fun T p w hT hp => by
 have hd6 : ¬ (6 : Int) < ((7 - (n + 1) : Nat) : Int) := by omega
 have hdw : IntKind.i64.wrap (((7 - (n + 1) : Nat) : Int) + 1) = ((7 - n : Nat) : Int) := by rw [IntKind.wrap_i64]; omega
 obtain ⟨dd, hdd⟩ : ∃ dd : Int, ((7 - (n + 1) : Nat) : Int) = dd := ⟨_, rfl⟩
 obtain ⟨de, hde⟩ : ∃ de : Int, ((7 - n : Nat) : Int) = de := ⟨_, rfl⟩
 have HDE : Hid (((7 - n : Nat) : Int) = de) := hde
 rw [hdd] at hd6 hdw |-
 rw [hde] at hdw
 clear hdd hde
 obtain ⟨⟨r0, r1, r2⟩, hbw⟩ := res_is w (.int .i64 0) (.string ⟨#[]⟩) (.slice none 0 0) 41
 by_cases hge : T.size <= p
 ·have hlti : (T.size : Int) <= (p : Int) := by omega
  go_enter Tryz.func59, Tryz.ntmps59
  go_wp2_with fail
  refine bodyPost_ret (v := .tuple #[.agg #[.int .i64 0, .string ⟨#[]⟩, .slice none 0 0], .int .i64 0, .bool false]) (by simp [results, Tryz.results59, go_sem, r0, r1, r2]; try rfl) rfl ?_
  refine ⟨hbw, .inl ⟨?_, rfl⟩⟩
  rw [List.drop_of_length_le (by show T.data.toList.length <= p; have e : T.data.toList.length = T.size := rfl; omega)]
  rfl
 have hlt : p < T.size := by omega
 have hlti : ¬ (T.size : Int) <= (p : Int) := by omega
 have hlti2 : (p : Int) < (T.size : Int) := by omega
 have hp0 : (0 : Int) <= (p : Int) := by omega
 have hpl : p < T.data.toList.length := hlt
 obtain ⟨b, hbk⟩ := zE (T.data.toList[p])
 have hgk : ∀ h, T[p]'h = b := fun h => by rw [<- hbk]; rfl
 have HDR : Hid (T.data.toList.drop p = b :: T.data.toList.drop (p + 1)) := by
  show T.data.toList.drop p = b :: T.data.toList.drop (p + 1)
  rw [<- hbk]; exact List.drop_eq_getElem_cons hpl
 have HBL : Hid (b.toNat < 256) := b.toNat_lt
 have wb : IntKind.i64.wrap (b.toNat : Int) = (b.toNat : Int) := by rw [IntKind.wrap_i64]; have := HBL.out; omega
 obtain ⟨p1, hp1⟩ : ∃ p1, p1 = p + 1 := ⟨_, rfl⟩
 have wp1 : IntKind.i64.wrap ((p : Int) + 1) = (p1 : Int) := by rw [IntKind.wrap_i64]; omega
 have wp2 : (p : Int) + 1 = (p1 : Int) := by omega
 have HP1 : Hid (p1 = p + 1) := hp1
 clear hp1
 clear r0 r1 r2 hbw hbk hpl
 go_enter Tryz.func59, Tryz.ntmps59
 go_wp2_with fail
 obtain ⟨W2, hW2⟩ : ∃ W, W = (w.alloc (Obj.cells #[Value.int IntKind.i64 0, Value.string { data := #[] }, Value.slice none 0 0] 41)).alloc (Obj.cells #[Value.int IntKind.i64 (b.toNat : Int), Value.string { data := #[] }, Value.slice none 0 0] 41) := ⟨_, rfl⟩
 rw [<- hW2]
 have H2 : Hid (Below w.heap.size w W2 /\ W2.heap.size = w.heap.size + 2 /\ Blk3 W2 w.heap.size (.int .i64 0) (.string ⟨#[]⟩) (.slice none 0 0) /\ Blk3 W2 (w.heap.size + 1) (.int .i64 (b.toNat : Int)) (.string ⟨#[]⟩) (.slice none 0 0)) := two_blk w _ _ _ _ _ _ W2 hW2
 clear hW2
 refine (size_at T p1 W2 (by omega) (by have := HP1.out; omega)).mono ?_
 rw [HP1.out]
 clear wp1 wp2
 obtain ⟨⟨r0, r1, r2⟩, rf⟩ := cell_in H2.out.2.2.1
 obtain ⟨⟨x0, x1, x2⟩, xf⟩ := cell_in H2.out.2.2.2
 cases hsz : szAt T.data.toList (p + 1) with
 | none =>
  rw [szV_none hsz]
  rintro e W3 ⟨rfl, rfl⟩
  have HN : Hid (rdI (n + 1) (T.data.toList.drop p) = none) := by
   show rdI (n + 1) (T.data.toList.drop p) = none
   rw [HDR.out, rdI_cons, show sizeL (T.data.toList.drop (p + 1)) = none from hsz]
  clear hsz
  go_wp2_with fail
  refine bodyPost_ret (v := .tuple #[.agg #[.int .i64 0, .string ⟨#[]⟩, .slice none 0 0], .int .i64 0, .bool false]) (by simp [results, Tryz.results59, go_sem, r0, r1, r2]; try rfl) rfl ?_
  exact ⟨((H2.out.1.setCell (p := ⟨w.heap.size, 0, none⟩) (Nat.le_refl _) _).setCell (p := ⟨w.heap.size, 1, none⟩) (Nat.le_refl _) _).setCell (p := ⟨w.heap.size, 2, none⟩) (Nat.le_refl _) _, .inl ⟨HN.out, rfl⟩⟩
 | some zc =>
  obtain ⟨z, c⟩ := zc
  rw [szV_some hsz]
  have hsz2 : sizeL (T.data.toList.drop (p + 1)) = some (z, c) := hsz
  obtain ⟨hc1, hc2, hz⟩ := sizeL_le hsz2
  have hrl : (T.data.toList.drop (p + 1)).length = T.size - (p + 1) := by rw [List.length_drop]; rfl
  rw [hrl] at hc2
  obtain ⟨from_, hfrom⟩ := zE (p + 1 + c)
  rw [hfrom]
  have hfl : from_ <= T.size := by omega
  have hdl : ((T.data.toList.drop (p + 1)).drop c).length = T.size - from_ := by rw [List.length_drop, hrl]; omega
  have ws : IntKind.i64.wrap ((T.size : Int) - (from_ : Int)) = (T.size : Int) - (from_ : Int) := by rw [IntKind.wrap_i64]; omega
  rintro e W3 ⟨rfl, rfl⟩
  by_cases hbig : T.size - from_ < z
  ·have hbi : (T.size : Int) - (from_ : Int) < (z : Int) := by omega
   have HN : Hid (rdI (n + 1) (T.data.toList.drop p) = none) := by
    show rdI (n + 1) (T.data.toList.drop p) = none
    rw [HDR.out, rdI_cons, hsz2]
    show (if ((T.data.toList.drop (p + 1)).drop c).length < z then none else _) = none
    rw [if_pos (by omega)]
   clear hsz hsz2 hrl hdl
   go_wp2_with fail
   refine bodyPost_ret (v := .tuple #[.agg #[.int .i64 0, .string ⟨#[]⟩, .slice none 0 0], .int .i64 0, .bool false]) (by simp [results, Tryz.results59, go_sem, r0, r1, r2]; try rfl) rfl ?_
   exact ⟨((H2.out.1.setCell (p := ⟨w.heap.size, 0, none⟩) (Nat.le_refl _) _).setCell (p := ⟨w.heap.size, 1, none⟩) (Nat.le_refl _) _).setCell (p := ⟨w.heap.size, 2, none⟩) (Nat.le_refl _) _, .inl ⟨HN.out, rfl⟩⟩
  have hbi : ¬ (T.size : Int) - (from_ : Int) < (z : Int) := by omega
  obtain ⟨q, hq⟩ := zE (from_ + z)
  have wq : IntKind.i64.wrap ((from_ : Int) + (z : Int)) = (q : Int) := by rw [IntKind.wrap_i64]; omega
  have wq2 : (from_ : Int) + (z : Int) = (q : Int) := by omega
  have hqT : q <= T.size := by omega
  have hfq : from_ <= q := by omega
  have hqi : (q : Int) <= (T.size : Int) := by omega
  have hf0 : (0 : Int) <= (from_ : Int) := by omega
  have hq0 : (0 : Int) <= (q : Int) := by omega
  have hfqi : (from_ : Int) <= (q : Int) := by omega
  have HBODY : Hid (((T.data.toList.drop (p + 1)).drop c).take z = (T.extract from_ q).data.toList /\ p + (1 + c + z) = q /\ ¬ ((T.data.toList.drop (p + 1)).drop c).length < z) := by
   refine ⟨?_, by omega, by omega⟩
   rw [ext_list, List.drop_drop, hfrom, show q - from_ = z by omega]
  have HS : Hid (sizeL (T.data.toList.drop (p + 1)) = some (z, c)) := hsz2
  clear hsz hsz2 hrl hdl hfrom
  by_cases h48 : b.toNat ≠ 48
  ·have h48i : ((b.toNat : Int) == 48) = false := by simp; omega
   have h48j : ¬ (b.toNat : Int) = 48 := by omega
   have HR : Hid (rdI (n + 1) (T.data.toList.drop p) = some (It.mk (b.toNat : Int) (T.extract from_ q).data.toList [], 1 + c + z)) := by
    show rdI (n + 1) (T.data.toList.drop p) = _
    rw [HDR.out, rdI_cons, HS.out]
    show (if ((T.data.toList.drop (p + 1)).drop c).length < z then none else _) = _
    rw [if_neg HBODY.out.2.2, if_pos h48, HBODY.out.1]
   go_wp2_with fail
   refine bodyPost_ret (v := .tuple #[.agg #[.int .i64 (b.toNat : Int), .string (T.extract from_ q), .slice none 0 0], .int .i64 (q : Int), .bool true]) (by simp [results, Tryz.results59, go_sem, r0, r1, r2]; try rfl) rfl ?_
   have hb := H2.out.1.setCell (p := ⟨w.heap.size + 1, 1, none⟩) (show w.heap.size <= w.heap.size + 1 by omega) (Value.string (T.extract from_ q))
   refine ⟨((hb.setCell (p := ⟨w.heap.size, 0, none⟩) (Nat.le_refl _) _).setCell (p := ⟨w.heap.size, 1, none⟩) (Nat.le_refl _) _).setCell (p := ⟨w.heap.size, 2, none⟩) (Nat.le_refl _) _, .inr ⟨_, _, (b.toNat : Int), T.extract from_ q, none, 0, 0, [], HR.out, by rw [HBODY.out.2.1], rfl, ?_, own_nil _ _ _⟩⟩
   exact bytes_back _
  ·have h48i : ((b.toNat : Int) == 48) = true := by simp; omega
   have h48j : (b.toNat : Int) = 48 := by omega
   have HR : Hid (∀ o, kidsL (rdI n) 40 (T.extract from_ q).data.toList = o -> rdI (n + 1) (T.data.toList.drop p) = match o with
    | none => none
    | some ks => some (It.mk 48 [] ks, 1 + c + z)) := fun o ho => by
    rw [HDR.out, rdI_cons, HS.out]
    show (if ((T.data.toList.drop (p + 1)).drop c).length < z then none else _) = _
    rw [if_neg HBODY.out.2.2, if_neg h48, HBODY.out.1, ho, h48j]
   rw [h48j] at x0
   have HX : Hid (Blk3 W3 (w.heap.size + 1) (.int .i64 48) (.string ⟨#[]⟩) (.slice none 0 0)) := by have h := H2.out.2.2.2; rw [h48j] at h; exact h
   go_wp2_with fail
   go_loopw [13] (fun iv wr => ∃ k : Nat, from_ <= k /\ k <= q /\ iv = .int .i64 (k : Int) /\ Hid (∃ (kv : Value) (ks : List (It n)), Blk3 wr w.heap.size (.int .i64 0) (.string ⟨#[]⟩) (.slice none 0 0) /\ Blk3 wr (w.heap.size + 1) (.int .i64 48) (.string ⟨#[]⟩) kv /\ GrowN wr (w.heap.size + 2) n kv ks /\ ks.length <= 40 /\ Below w.heap.size w wr /\ w.heap.size + 2 <= wr.heap.size /\ kidsL (rdI n) 40 (T.extract from_ q).data.toList = (kidsL (rdI n) (40 - ks.length) ((T.extract from_ q).data.toList.drop (k - from_))).map (ks ++ ·))) (fun iv _ => q - (intOf iv).toNat)
   case atStart => exact ⟨from_, Nat.le_refl _, hfq, rfl, _, [], H2.out.2.2.1, HX.out, GrowN.nil _ _ n, Nat.zero_le _, H2.out.1, by rw [H2.out.2.1]; exact Nat.le_refl _, by rw [Nat.sub_self, List.drop_zero]; exact (map_nil_app _).symm⟩
   case round =>
    obtain ⟨k, hfk, hkq, rfl, HR0⟩ := hrel
    obtain ⟨kv, ks, hr0, hr1, hrG, hr40, hrB, hrs, hrK⟩ := HR0.out
    obtain ⟨ao, cp, hkv⟩ := hrG.shape
    obtain ⟨lk, hlk⟩ := zE (ks.length)
    rw [hlk] at hkv hr40
    subst hkv
    have HK : Hid (Blk3 wr w.heap.size (.int .i64 0) (.string ⟨#[]⟩) (.slice none 0 0) /\ Blk3 wr (w.heap.size + 1) (.int .i64 48) (.string ⟨#[]⟩) (.slice ao lk cp) /\ GrowN wr (w.heap.size + 2) n (.slice ao lk cp) ks /\ Below w.heap.size w wr /\ w.heap.size + 2 <= wr.heap.size /\ kidsL (rdI n) 40 (T.extract from_ q).data.toList = (kidsL (rdI n) (40 - ks.length) ((T.extract from_ q).data.toList.drop (k - from_))).map (ks ++ ·) /\ ks.length = lk) := ⟨hr0, hr1, hrG, hrB, hrs, hrK, hlk⟩
    clear HR0 hr0 hr1 hrG hrB hrs hrK hlk H2 HX r0 r1 r2 rf x0 x1 x2 xf
    have hkq0 : (0 : Int) <= (k : Int) := by omega
    by_cases hlt2 : k < q
    ·have hki : (k : Int) < (q : Int) := by omega
     have hesz : (T.extract 0 q).size = q := by rw [ByteArray.size_extract]; omega
     have HCD : Hid ((T.extract 0 q).data.toList.drop k = (T.extract from_ q).data.toList.drop (k - from_) /\ ((T.extract from_ q).data.toList.drop (k - from_)).length = q - k) := by
      constructor
      ·rw [ext_list, ext_list]; exact cut_drop _ hfk
      ·rw [List.length_drop]
       have e : (T.extract from_ q).data.toList.length = (T.extract from_ q).size := rfl
       rw [e, ByteArray.size_extract]
       omega
     have E := IH.out (T.extract 0 q) k wr (by omega) (by omega)
     rw [HDE.out] at E
     clear hesz
     go_wp2_with fail
     refine E.mono ?_
     clear E
     rintro e w3 ⟨hb3, hcase⟩
     have hne : (T.extract from_ q).data.toList.drop (k - from_) ≠ [] := fun e => by have := HCD.out.2; rw [e] at this; simp at this; omega
     rcases hcase with ⟨hnone, rfl⟩ | ⟨y, u, t3, s3, ax3, l3, cx3, fp3, hsome, rfl, hown⟩
     ·rw [HCD.out.1] at hnone
      have HN : Hid (rdI (n + 1) (T.data.toList.drop p) = none) := HR.out none (by rw [HK.out.2.2.2.2.2.1, kidsL_fail _ hne hnone]; rfl)
      have hb4 := hb3.alloc hb3.size (Obj.cells #[Value.int IntKind.i64 0, Value.string { data := #[] }, Value.slice none 0 0] 41)
      obtain ⟨⟨r0, r1, r2⟩, rf⟩ := cell_in (HK.out.1.below hb4)
      have HB : Hid (Below w.heap.size w (w3.alloc (Obj.cells #[Value.int IntKind.i64 0, Value.string { data := #[] }, Value.slice none 0 0] 41))) := HK.out.2.2.2.1.trans (hb4.mono HK.out.2.2.2.1.size)
      clear hnone hne hb3 hb4
      go_wp2_with fail
      refine bodyPost_ret (v := .tuple #[.agg #[.int .i64 0, .string ⟨#[]⟩, .slice none 0 0], .int .i64 0, .bool false]) (by simp [results, Tryz.results59, go_sem, r0, r1, r2]; try rfl) rfl ?_
      exact ⟨((HB.out.setCell (p := ⟨w.heap.size, 0, none⟩) (Nat.le_refl _) _).setCell (p := ⟨w.heap.size, 1, none⟩) (Nat.le_refl _) _).setCell (p := ⟨w.heap.size, 2, none⟩) (Nat.le_refl _) _, .inl ⟨HN.out, rfl⟩⟩
     ·rw [HCD.out.1] at hsome
      obtain ⟨hu1, hu2⟩ := rd_le hsome
      rw [HCD.out.2] at hu1
      have hb4 := hb3.alloc hb3.size (Obj.cells #[Value.int IntKind.i64 t3, Value.string s3, Value.slice ax3 l3 cx3] 41)
      obtain ⟨⟨r0, r1, r2⟩, rf⟩ := cell_in (HK.out.1.below hb4)
      obtain ⟨⟨x0, x1, x2⟩, xf⟩ := cell_in (HK.out.2.1.below hb4)
      obtain ⟨kn, hkn⟩ := zE (k + u)
      rw [hkn]
      by_cases h40 : 40 <= lk
      ·have h40i : (40 : Int) <= (lk : Int) := by omega
       have HN : Hid (rdI (n + 1) (T.data.toList.drop p) = none) := HR.out none (by rw [HK.out.2.2.2.2.2.1, HK.out.2.2.2.2.2.2, show 40 - lk = 0 by omega, kidsL_full _ hne]; rfl)
       have HB : Hid (Below w.heap.size w (w3.alloc (Obj.cells #[Value.int IntKind.i64 t3, Value.string s3, Value.slice ax3 l3 cx3] 41))) := HK.out.2.2.2.1.trans (hb4.mono HK.out.2.2.2.1.size)
       clear hsome hne hb3 hb4 hown hkn
       go_wp2_with fail
       refine bodyPost_ret (v := .tuple #[.agg #[.int .i64 0, .string ⟨#[]⟩, .slice none 0 0], .int .i64 0, .bool false]) (by simp [results, Tryz.results59, go_sem, r0, r1, r2]; try rfl) rfl ?_
       exact ⟨((HB.out.setCell (p := ⟨w.heap.size, 0, none⟩) (Nat.le_refl _) _).setCell (p := ⟨w.heap.size, 1, none⟩) (Nat.le_refl _) _).setCell (p := ⟨w.heap.size, 2, none⟩) (Nat.le_refl _) _, .inl ⟨HN.out, rfl⟩⟩
      ·have h40i : ¬ (40 : Int) <= (lk : Int) := by omega
       obtain ⟨m, rfl⟩ : ∃ m, n = m + 1 := by
        cases n with
        | zero => exact hown.elim
        | succ m => exact ⟨m, rfl⟩
       obtain ⟨ht3, hs3, ho3⟩ := hown
       have hb34 : Below w3.heap.size w3 (w3.alloc (Obj.cells #[Value.int IntKind.i64 t3, Value.string s3, Value.slice ax3 l3 cx3] 41)) := (Below.refl _ _).alloc (Nat.le_refl _) _
       have H4 : Hid (Below wr.heap.size wr (w3.alloc (Obj.cells #[Value.int IntKind.i64 t3, Value.string s3, Value.slice ax3 l3 cx3] 41)) /\ OwnK (w3.alloc (Obj.cells #[Value.int IntKind.i64 t3, Value.string s3, Value.slice ax3 l3 cx3] 41)) wr.heap.size m (.slice ax3 l3 cx3) (It.kids y) fp3 /\ It.tag y = t3 /\ (⟨(It.text y).toArray⟩ : ByteArray) = s3) := ⟨hb4, ho3.below hb34 (fun b hm => (OwnK.lt ho3 b hm).2), ht3, hs3⟩
       have HNX : Hid (kidsL (rdI (m + 1)) 40 (T.extract from_ q).data.toList = (kidsL (rdI (m + 1)) (40 - (ks ++ [y]).length) ((T.extract from_ q).data.toList.drop (kn - from_))).map ((ks ++ [y]) ++ ·)) := by
        show kidsL (rdI (m + 1)) 40 (T.extract from_ q).data.toList = _
        rw [HK.out.2.2.2.2.2.1, HK.out.2.2.2.2.2.2, show 40 - lk = (40 - (lk + 1)) + 1 by omega, kidsL_step _ hne hsome, List.drop_drop, show k - from_ + u = kn - from_ by omega, List.length_append, List.length_singleton, HK.out.2.2.2.2.2.2, Option.map_map]
        congr 1
        funext l
        simp
       have HU : Hid (kn <= q /\ k < kn /\ from_ <= kn) := ⟨by omega, by omega, by omega⟩
       clear hsome hne hb3 hb4 hb34 ho3 ht3 hs3 hkn hu1 hu2 r0 r1 r2 rf
       go_wp2_with (at_builtin; refine wpList_append_item rfl _ _ rfl (w.heap.size + 2) m (.slice ao lk cp) ks y t3 s3 (.slice ax3 l3 cx3) fp3 H4.out.2.2.1 H4.out.2.2.2 rfl _ rfl (by simp) HK.out.2.2.1 H4.out.1 H4.out.2.1 HK.out.2.2.2.2.1 (by have := HK.out.2.2.2.2.2.2; omega) ?_)
       intro g cap w6 hG6 hgrow6
       have H6 : Hid (Blk3 w6 w.heap.size (.int .i64 0) (.string ⟨#[]⟩) (.slice none 0 0) /\ Blk3 w6 (w.heap.size + 1) (.int .i64 48) (.string ⟨#[]⟩) (.slice ao lk cp) /\ GrowK w6 (w.heap.size + 2) m (.slice (some ⟨g, 0, none⟩) (lk + 1) cap) (ks ++ [y]) /\ Below w.heap.size w w6 /\ w.heap.size + 2 <= w6.heap.size) := by
        have hb5 := H4.out.1.alloc H4.out.1.size (Obj.cells #[Value.int IntKind.i64 t3, Value.string s3, Value.slice ax3 l3 cx3] 41)
        have hkb := GrowK.lt HK.out.2.2.1
        have ne : ∀ q, q < w.heap.size + 2 -> some q ≠ (Value.slice ao lk cp).ownBlock := fun q hq e => by have := (hkb q e.symm).1; omega
        have hbw := HK.out.2.2.2.1.trans (hb5.mono HK.out.2.2.2.1.size)
        rw [HK.out.2.2.2.2.2.2] at hG6
        exact ⟨(HK.out.1.below hb5).grown hgrow6 (ne _ (by omega)), (HK.out.2.1.below hb5).grown hgrow6 (ne _ (by omega)), hG6, hbw.grown hgrow6 (hbw.size) (fun q hq => by have := (hkb q hq).1; omega), Nat.le_trans HK.out.2.2.2.2.1 (Nat.le_trans hb5.size hgrow6.size)⟩
       rw [HK.out.2.2.2.2.2.2]
       obtain ⟨⟨_, _, y6⟩, fz6⟩ := cell_in H6.out.2.1
       have HLK : Hid (ks.length = lk) := HK.out.2.2.2.2.2.2
       clear hG6 hgrow6 H4 HK x0 x1 x2 xf
       go_wp2_with fail
       refine ⟨⟨kn, HU.out.2.2, HU.out.1, rfl, .slice (some ⟨g, 0, none⟩) (lk + 1) cap, ks ++ [y], ?_, ?_, ?_, ?_, ?_, ?_, HNX.out⟩, by have := HU.out; simp [intOf]; omega⟩
       ·exact H6.out.1.other (by show w.heap.size ≠ w.heap.size + 1; omega) _
       ·exact H6.out.2.1.set _
       ·exact H6.out.2.2.1.out fun b hb => heap_setCell_other _ _ _ _ (by show b ≠ w.heap.size + 1; omega)
       ·rw [List.length_append, List.length_singleton, HLK.out]; omega
       ·exact H6.out.2.2.2.1.setCell (p := ⟨w.heap.size + 1, 2, none⟩) (by show w.heap.size <= w.heap.size + 1; omega) _
       ·exact Nat.le_trans H6.out.2.2.2.2 (((Below.refl 0 w6).setCell (p := ⟨w.heap.size + 1, 2, none⟩) (Nat.zero_le _) _).size)
    ·have hki : ¬ (k : Int) < (q : Int) := by omega
     have hkq2 : k = q := by omega
     obtain ⟨⟨x0, x1, x2⟩, xf⟩ := cell_in HK.out.2.1
     obtain ⟨⟨r0, r1, r2⟩, rf⟩ := cell_in HK.out.1
     have HS2 : Hid (rdI (n + 1) (T.data.toList.drop p) = some (It.mk 48 [] ks, 1 + c + z)) := HR.out (some ks) (by
      rw [HK.out.2.2.2.2.2.1, List.drop_of_length_le (by
       have e : (T.extract from_ q).data.toList.length = (T.extract from_ q).size := rfl
       rw [e, ByteArray.size_extract]
       omega), kidsL_end]
      simp)
     obtain ⟨fp, hfp⟩ := HK.out.2.2.1.own
     have HE : Hid (OwnK wr (w.heap.size + 2) n (.slice ao lk cp) ks fp /\ Below w.heap.size w wr) := ⟨hfp, HK.out.2.2.2.1⟩
     clear hfp HK
     subst hkq2
     go_wp2_with fail
     refine bodyPost_ret (v := .tuple #[.agg #[.int .i64 48, .string ⟨#[]⟩, .slice ao lk cp], .int .i64 (k : Int), .bool true]) (by simp [results, Tryz.results59, go_sem, r0, r1, r2]; try rfl) rfl ?_
     refine ⟨((HE.out.2.setCell (p := ⟨w.heap.size, 0, none⟩) (Nat.le_refl _) _).setCell (p := ⟨w.heap.size, 1, none⟩) (Nat.le_refl _) _).setCell (p := ⟨w.heap.size, 2, none⟩) (Nat.le_refl _) _, .inr ⟨_, _, 48, ⟨#[]⟩, ao, lk, cp, fp, HS2.out, by rw [HBODY.out.2.1], rfl, rfl, ?_⟩⟩
     refine OwnK.base (base := w.heap.size + 2) (by omega) (HE.out.1.same fun b hb => ?_)
     have h1 := (OwnK.lt HE.out.1 b hb).1
     rw [heap_setCell_other _ _ _ _ (by show b ≠ w.heap.size; omega), heap_setCell_other _ _ _ _ (by show b ≠ w.heap.size; omega), heap_setCell_other _ _ _ _ (by show b ≠ w.heap.size; omega)]
theorem read_any : ∀ n, n <= 7 -> InC n
 | 0, _ => read_deep
 | n + 1, h => read_step n (by omega) (read_any n (by omega))
def LenPost (T : ByteArray) (w : World) (e : Ending) (w' : World) : Prop := Below w.heap.size w w' /\
 ((sizeG T.data.toList = none /\ ∃ a b : Nat, a <= 100000 /\ b <= 100000 /\ e = .returned (.tuple #[.int .i64 (a : Int), .int .i64 (b : Int), .bool false])) ∨
 ∃ z c : Nat, sizeG T.data.toList = some (z, c) /\ e = .returned (.tuple #[.int .i64 (z : Int), .int .i64 (c : Int), .bool true]))
theorem toList_data (T : ByteArray) : T.toList = T.data.toList := by
 obtain ⟨d⟩ := T
 obtain ⟨l⟩ := d
 show (⟨l.toArray⟩ : ByteArray).toList = _
 simp
theorem not_empty {T : ByteArray} (h : 0 < T.size) : T.toList.isEmpty = false := by
 have e : T.data.toList.length = T.size := rfl
 rw [toList_data]
 cases hq : T.data.toList with
 | nil => rw [hq] at e; simp at e; omega
 | cons => rfl
theorem list_cons {T : ByteArray} (h : 0 < T.size) : ∃ b r, T.data.toList = b :: r /\ r.length + 1 = T.size /\ (∀ h, T[0]'h = b) /\ r = T.data.toList.drop 1 := by
 obtain ⟨b, r, he⟩ : ∃ b r, T.data.toList = b :: r := by
  cases hq : T.data.toList with
  | nil => have e : T.data.toList.length = T.size := rfl; rw [hq] at e; simp at e; omega
  | cons b r => exact ⟨b, r, rfl⟩
 have e : T.data.toList.length = T.size := rfl
 refine ⟨b, r, he, by rw [<- e, he]; rfl, fun h => ?_, by rw [he]; rfl⟩
 have h2 : T.data.toList[0]'(by rw [e]; exact h) = b := by simp [he]
 exact h2
theorem readLength_any (T : ByteArray) (w : World) (hT : T.size <= 4000) : Calls Tryz.prog 88 #[.string T] w fun e w' => LenPost T w e w' := by
 by_cases h0 : T.size = 0
 ·have hT0 : T = ⟨#[]⟩ := by
   cases T with
   | mk d => congr 1; exact Array.eq_empty_of_size_eq_zero h0
  subst hT0
  go_enter Tryz.func88, Tryz.ntmps88
  go_wp2_with fail
  go_ret3
  exact ⟨Below.refl _ _, .inl ⟨rfl, 0, 0, by omega, by omega, rfl⟩⟩
 obtain ⟨b, r, he, hrl, hg0, hr1⟩ := list_cons (T := T) (by omega)
 have hne : T.toList.isEmpty = false := not_empty (by omega)
 have hbl := b.toNat_lt
 have h0i : (0 : Int) < (T.size : Int) := by omega
 have h0n : 0 < T.size := by omega
 have wb : IntKind.i64.wrap (b.toNat : Int) = (b.toNat : Int) := by rw [IntKind.wrap_i64]; omega
 by_cases h128 : b.toNat < 128
 ·have h128i : (b.toNat : Int) < 128 := by omega
  have HR : Hid (sizeG T.data.toList = some (b.toNat, 1)) := by show sizeG T.data.toList = _; rw [he, sizeG_cons, if_pos h128]
  clear he hr1 hrl
  go_enter Tryz.func88, Tryz.ntmps88
  go_wp2_with fail
  go_ret3
  exact ⟨Below.refl _ _, .inr ⟨_, _, HR.out, rfl⟩⟩
 have h128i : ¬ (b.toNat : Int) < 128 := by omega
 obtain ⟨k, hk⟩ : ∃ k : Nat, b.toNat - 128 = k := ⟨_, rfl⟩
 have w5 : IntKind.i64.wrap ((b.toNat : Int) - 128) = (k : Int) := by rw [IntKind.wrap_i64]; omega
 by_cases hk2 : 2 < k
 ·have hk2i : (2 : Int) < (k : Int) := by omega
  have HR : Hid (sizeG T.data.toList = none) := by show sizeG T.data.toList = _; rw [he, sizeG_cons, if_neg h128, hk, if_pos (.inl hk2)]
  clear he hr1 hrl hk
  go_enter Tryz.func88, Tryz.ntmps88
  go_wp2_with fail
  go_ret3
  exact ⟨Below.refl _ _, .inl ⟨HR.out, 0, 0, by omega, by omega, rfl⟩⟩
 have hk2i : ¬ (2 : Int) < (k : Int) := by omega
 by_cases hkl : T.size <= k
 ·have hkli : (T.size : Int) <= (k : Int) := by omega
  have HR : Hid (sizeG T.data.toList = none) := by show sizeG T.data.toList = _; rw [he, sizeG_cons, if_neg h128, hk, if_pos (.inr (by omega))]
  clear he hr1 hrl hk
  go_enter Tryz.func88, Tryz.ntmps88
  go_wp2_with fail
  go_ret3
  exact ⟨Below.refl _ _, .inl ⟨HR.out, 0, 0, by omega, by omega, rfl⟩⟩
 have hkli : ¬ (T.size : Int) <= (k : Int) := by omega
 obtain ⟨v, hv⟩ : ∃ v : Nat, 1 + k = v := ⟨_, rfl⟩
 have wv : IntKind.i64.wrap (1 + (k : Int)) = (v : Int) := by rw [IntKind.wrap_i64]; omega
 have hvT : v <= T.size := by omega
 have h1v : 1 <= v := by omega
 have h1vi : (1 : Int) <= (v : Int) := by omega
 have hvTi : (v : Int) <= (T.size : Int) := by omega
 have hv0 : (0 : Int) <= (v : Int) := by omega
 have hsz : (T.extract 1 v).size <= 7 := by rw [ByteArray.size_extract]; omega
 obtain ⟨q, hq⟩ : ∃ q : Nat, valB8 (T.extract 1 v).data.toList = q := ⟨_, rfl⟩
 have hqs : q < 65536 := by
  have h1 := valB8_lt _ (T.extract 1 v).data.toList rfl
  have h2 : (T.extract 1 v).data.toList.length <= 2 := by
   have e : (T.extract 1 v).data.toList.length = (T.extract 1 v).size := rfl
   rw [e, ByteArray.size_extract]; omega
  have h3 : 256 ^ (T.extract 1 v).data.toList.length <= 256 ^ 2 := Nat.pow_le_pow_right (by decide) h2
  have h4 : (256 : Nat) ^ 2 = 65536 := by decide
  omega
 have HV : Hid (sizeG T.data.toList = if lenB q = (T.extract 0 v).data.toList then some (q, v) else none) := by
  show sizeG T.data.toList = _
  rw [ext_list, List.drop_zero, Nat.sub_zero, he, sizeG_cons, if_neg h128, hk, if_neg (by omega), <- hq, ext_list, <- hr1, show v - 1 = k by omega, hv]
 have EN := numberOf_any (T.extract 1 v) w hsz
 rw [hq] at EN
 clear he hr1 hrl hk hsz hq hv
 go_enter Tryz.func88, Tryz.ntmps88
 go_wp2_with fail
 refine EN.mono ?_
 clear EN
 rintro e w2 ⟨rfl, hb2⟩
 obtain ⟨L, hL⟩ : ∃ L : ByteArray, (⟨(lenB q).toArray⟩ : ByteArray) = L := ⟨_, rfl⟩
 have EL : Hid (∀ W, Calls Tryz.prog 67 #[.int .i64 (q : Int)] W fun e w' => e = .returned (.string L) /\ Below W.heap.size W w') := fun W => by rw [<- hL]; exact lengthText_any q W (by omega)
 have HB2 : Hid (Below w.heap.size w w2) := hb2
 have HLL : Hid (L.data.toList = lenB q) := by show L.data.toList = lenB q; rw [<- hL]
 clear hb2 hL
 go_wp2_with fail
 go_region_held3 (fun _ => True) (exact trivial) ((first
  | (go_at_call 67; refine (EL.out _).mono ?_; rintro e w3 ⟨rfl, hb3⟩)))
 all_goals (
  have HB3 : Hid (Below w.heap.size w w3) := HB2.out.trans (Below.mono (Below.trans ((Below.refl _ _).drew) hb3) HB2.out.size)
  clear hb3
  go_wp2_with fail
  go_ret3
  refine ⟨HB3.out, ?_⟩
  rw [HV.out]
  by_cases hc : lenB q = (T.extract 0 v).data.toList
  ·rw [if_pos hc]
   refine .inr ⟨q, v, rfl, ?_⟩
   have e : (L.toList == (T.extract 0 v).toList) = true := by rw [toList_data, toList_data, HLL.out, hc]; simp
   rw [<- e]
   rfl
  ·rw [if_neg hc]
   refine .inl ⟨rfl, q, v, by omega, by omega, ?_⟩
   have e : (L.toList == (T.extract 0 v).toList) = false := by rw [toList_data, toList_data, HLL.out]; exact beq_eq_false_iff_ne.2 hc
   rw [<- e]
   rfl)
end Go.Proofs.YthbdgdfanpbkeaaGreat
