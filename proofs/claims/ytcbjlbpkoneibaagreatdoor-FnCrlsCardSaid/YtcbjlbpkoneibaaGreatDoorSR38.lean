/-
  Texts of the proof.
-/
import Derived.Test.YtcbjlbpkoneibaaGreatDoorSR37
set_option linter.unusedVariables false
set_option linter.unusedSimpArgs false
set_option maxRecDepth 100000
set_option maxHeartbeats 25600000
namespace Go.Proofs.YtcbjlbpkoneibaaGreatDoor
open Go.RowKit Der
theorem ext_list (b : ByteArray) (p q : Nat) : (b.extract p q).data.toList = (b.data.toList.drop p).take (q - p) := by
 rw [ByteArray.data_extract];simp [Array.toList_extract, List.extract]
theorem size_at (T : ByteArray) (p : Nat) (w : World) (ht : T.size <= 20000000) (hp : p <= 20000001) : Calls Tryz.prog 117 #[zG T, zI (p : Int)] w fun e w' => e = .returned (szV T.data.toList p) /\ w' = w := by
 have h := size_any T.data.toList p w (by have e : T.data.toList.length = T.size := rfl; omega) hp;have e : (⟨T.data.toList.toArray⟩ : ByteArray) = T := by simp
 rw [e] at h;exact h
theorem sizeL_cons (b : UInt8) (r : List UInt8) : sizeL (b :: r) = if b.toNat < 128 then some (b.toNat, 1) else if 1 <= b.toNat - 128 /\ b.toNat - 128 <= 2 /\ b.toNat - 128 <= r.length then some ((r.take (b.toNat - 128)).foldl (fun a c => 256 * a + c.toNat) 0, 1 + (b.toNat - 128)) else none := rfl
theorem sizeL_le {l : List UInt8} {z c : Nat} (h : sizeL l = some (z, c)) : 1 <= c /\ c <= l.length /\ z < 65536 := by
 cases l with
 | nil => simp [sizeL] at h
 | cons b r =>
  rw [sizeL_cons] at h
  split at h
  ·simp only [Option.some.injEq, Prod.mk.injEq] at h
   obtain ⟨rfl, rfl⟩ := h;exact ⟨Nat.le_refl _, by simp, by omega⟩
  ·split at h
   ·next hc =>
    simp only [Option.some.injEq, Prod.mk.injEq] at h;obtain ⟨h1, h2⟩ := h;have h3 := valB8_lt _ (r.take (b.toNat - 128)) rfl;have h4 : (r.take (b.toNat - 128)).length <= 2 := by rw [List.length_take]; omega
    have h5 : 256 ^ (r.take (b.toNat - 128)).length <= 256 ^ 2 := Nat.pow_le_pow_right (by decide) h4;have h6 : (256 : Nat) ^ 2 = 65536 := by decide
    have h7 : valB8 (r.take (b.toNat - 128)) = z := h1;exact ⟨by omega, by simp only [List.length_cons]; omega, by omega⟩
   ·simp at h
theorem rdI_cons (n : Nat) (b : UInt8) (r : List UInt8) : rdI (n + 1) (b :: r) = match sizeL r with
  | none => none
  | some (sz, c) => if (r.drop c).length < sz then none
   else if b.toNat ≠ 48 then some (It.mk (b.toNat : Int) ((r.drop c).take sz) [], 1 + c + sz)
   else match kidsL (rdI n) 40 ((r.drop c).take sz) with
    | none => none
    | some ks => some (It.mk (b.toNat : Int) [] ks, 1 + c + sz) := rfl
theorem rd_le : ∀ {n : Nat} {l : List UInt8} {x : It n} {u : Nat}, rdI n l = some (x, u) -> u <= l.length /\ 2 <= u
 | 0, _, _, _, h => by simp [rdI] at h
 | n + 1, [], _, _, h => by simp [rdI] at h
 | n + 1, b :: r, x, u, h => by
  rw [rdI_cons] at h
  split at h
  ·simp at h
  ·next sz c hs =>
   have hc := sizeL_le hs
   split at h
   ·simp at h
   ·next hn =>
    have hl : (r.drop c).length = r.length - c := List.length_drop;have key : u = 1 + c + sz -> u <= (b :: r).length /\ 2 <= u := fun e => by simp only [List.length_cons]; omega
    split at h
    ·simp only [Option.some.injEq, Prod.mk.injEq] at h
     exact key h.2.symm
    ·split at h
     ·simp at h
     ·simp only [Option.some.injEq, Prod.mk.injEq] at h
      exact key h.2.symm
theorem kidsL_end {α : Type} (rd : List UInt8 -> Option (α × Nat)) (m : Nat) : kidsL rd m [] = some [] := by cases m <;> rfl
theorem kidsL_full {α : Type} (rd : List UInt8 -> Option (α × Nat)) {l : List UInt8} (h : l ≠ []) : kidsL rd 0 l = none := by
 cases l with
 | nil => exact absurd rfl h
 | cons => rfl
theorem kidsL_fail {α : Type} (rd : List UInt8 -> Option (α × Nat)) {l : List UInt8} (h : l ≠ []) (hr : rd l = none) (m : Nat) : kidsL rd m l = none := by
 cases l with
 | nil => exact absurd rfl h
 | cons b l =>
  cases m with
  | zero => rfl
  | succ m => unfold kidsL; rw [hr]
theorem kidsL_step {α : Type} (rd : List UInt8 -> Option (α × Nat)) {l : List UInt8} (h : l ≠ []) {x : α} {u : Nat} (hr : rd l = some (x, u)) (m : Nat) : kidsL rd (m + 1) l = (kidsL rd m (l.drop u)).map (x :: ·) := by
 cases l with
 | nil => exact absurd rfl h
 | cons b l =>
  show (match rd (b :: l) with
   | none => none
   | some (x, u) => match kidsL rd m ((b :: l).drop u) with
    | none => none
    | some xs => some (x :: xs)) = _
  rw [hr];show (match kidsL rd m ((b :: l).drop u) with
    | none => none
    | some xs => some (x :: xs)) = _
  cases kidsL rd m ((b :: l).drop u) <;> rfl
def Own1 (w : World) (base : Nat) : (n : Nat) -> Int -> ByteArray -> Value -> It n -> List Nat -> Prop
 | 0, _, _, _, _, _ => False
 | m + 1, t, s, k, x, fp => It.tag x = t /\ (⟨(It.text x).toArray⟩ : ByteArray) = s /\ OwnK w base m k (It.kids x) fp
def GrowN (w : World) (base : Nat) : (n : Nat) -> Value -> List (It n) -> Prop
 | 0, v, ks => v = .slice none 0 0 /\ ks = []
 | m + 1, v, ks => GrowK w base m v ks
theorem GrowN.nil (w : World) (base : Nat) : ∀ n, GrowN w base n zZ []
 | 0 => ⟨rfl, rfl⟩
 | _ + 1 => GrowK.nil _ _ _
theorem GrowN.shape {w : World} {base : Nat} : ∀ {n : Nat} {v : Value} {ks : List (It n)}, GrowN w base n v ks -> ∃ ao cap, v = zS ao ks.length cap
 | 0, _, _, h => by obtain ⟨rfl, rfl⟩ := h; exact ⟨none, 0, rfl⟩
 | _ + 1, _, _, h => GrowK.shape h
theorem GrowN.own {w : World} {base : Nat} : ∀ {n : Nat} {v : Value} {ks : List (It n)}, GrowN w base n v ks -> ∃ fp, OwnK w base n v ks fp
 | 0, _, _, h => by obtain ⟨rfl, rfl⟩ := h; exact ⟨[], own_nil _ _ 0⟩
 | _ + 1, _, _, h => GrowK.own h
def InPost (n : Nat) (T : ByteArray) (p : Nat) (w : World) (e : Ending) (w' : World) : Prop := zW w w' /\
 ((rdI n (T.data.toList.drop p) = none /\ e = .returned (.tuple #[.agg #[zI 0, zG ⟨#[]⟩, zZ], zI 0, .bool false])) ∨
 ∃ (x : It n) (u : Nat) (t : Int) (s : ByteArray) (ax : Option Addr) (l cx : Nat) (fp : List Nat), rdI n (T.data.toList.drop p) = some (x, u) /\ e = .returned (.tuple #[.agg #[zI t, zG s, zS ax l cx], zI ((p + u : Nat) : Int), .bool true]) /\ Own1 w' w.heap.size n t s (zS ax l cx) x fp)
def InC (n : Nat) : Prop := ∀ (T : ByteArray) (p : Nat) (w : World), T.size <= 4000 -> p <= T.size -> Calls Tryz.prog 78 #[zG T, zI (p : Int), zI ((7 - n : Nat) : Int)] w fun e w' => InPost n T p w e w'
theorem map_nil_app {α : Type} (o : Option (List α)) : o.map (([] : List α) ++ ·) = o := by cases o <;> simp
theorem cut_drop (t : List UInt8) {a k q : Nat} (h : a <= k) : ((t.drop 0).take (q - 0)).drop k = ((t.drop a).take (q - a)).drop (k - a) := by
 rw [List.drop_zero, Nat.sub_zero, List.drop_take, List.drop_take, List.drop_drop, show a + (k - a) = k by omega, show q - a - (k - a) = q - k by omega]
theorem bytes_back (B : ByteArray) : (⟨B.data.toList.toArray⟩ : ByteArray) = B := by simp
theorem res_is (w : World) (a b c : Value) (t : TypeId) : ((w.alloc (Obj.cells #[a, b, c] t)).cell? ⟨w.heap.size, 0, none⟩ = some a /\ (w.alloc (Obj.cells #[a, b, c] t)).cell? ⟨w.heap.size, 1, none⟩ = some b /\ (w.alloc (Obj.cells #[a, b, c] t)).cell? ⟨w.heap.size, 2, none⟩ = some c) /\ zW w (w.alloc (Obj.cells #[a, b, c] t)) := by
 refine ⟨⟨?_, ?_, ?_⟩, (Below.refl _ _).alloc (Nat.le_refl _) _⟩ <;> (rw [World.cell?_alloc_mark w _ t _ _]; simp)
theorem read_deep : InC 0 := fun T p w hT hp => by
 have hdd : (6 : Int) < ((7 - 0 : Nat) : Int) := by decide
 obtain ⟨⟨r0, r1, r2⟩, hbw⟩ := res_is w (zI 0) (zG ⟨#[]⟩) zZ 50;by_cases hlt : p < T.size
 ·have hlti : ¬ (T.size : Int) <= (p : Int) := by omega
  go_enter Tryz.func78, Tryz.ntmps78;go_wp2_with fail;refine bodyPost_ret (v := .tuple #[.agg #[zI 0, zG ⟨#[]⟩, zZ], zI 0, .bool false]) (by simp [results, Tryz.results78, go_sem, r0, r1, r2]; try rfl) rfl ?_;exact ⟨hbw, .inl ⟨rfl, rfl⟩⟩
 ·have hlti : (T.size : Int) <= (p : Int) := by omega
  go_enter Tryz.func78, Tryz.ntmps78;go_wp2_with fail;refine bodyPost_ret (v := .tuple #[.agg #[zI 0, zG ⟨#[]⟩, zZ], zI 0, .bool false]) (by simp [results, Tryz.results78, go_sem, r0, r1, r2]; try rfl) rfl ?_;exact ⟨hbw, .inl ⟨rfl, rfl⟩⟩
theorem read_step (n : Nat) (hn : n <= 6) (IH : Hid (InC n)) : InC (n + 1) := fun T p w hT hp => by
 have hd6 : ¬ (6 : Int) < ((7 - (n + 1) : Nat) : Int) := by omega
 have hdw : IntKind.i64.wrap (((7 - (n + 1) : Nat) : Int) + 1) = ((7 - n : Nat) : Int) := by rw [IntKind.wrap_i64]; omega
 obtain ⟨dd, hdd⟩ : ∃ dd : Int, ((7 - (n + 1) : Nat) : Int) = dd := ⟨_, rfl⟩;obtain ⟨de, hde⟩ : ∃ de : Int, ((7 - n : Nat) : Int) = de := ⟨_, rfl⟩;have HDE : Hid (((7 - n : Nat) : Int) = de) := hde;rw [hdd] at hd6 hdw |-;rw [hde] at hdw;clear hdd hde;obtain ⟨⟨r0, r1, r2⟩, hbw⟩ := res_is w (zI 0) (zG ⟨#[]⟩) zZ 50;by_cases hge : T.size <= p
 ·have hlti : (T.size : Int) <= (p : Int) := by omega
  go_enter Tryz.func78, Tryz.ntmps78;go_wp2_with fail;refine bodyPost_ret (v := .tuple #[.agg #[zI 0, zG ⟨#[]⟩, zZ], zI 0, .bool false]) (by simp [results, Tryz.results78, go_sem, r0, r1, r2]; try rfl) rfl ?_;refine ⟨hbw, .inl ⟨?_, rfl⟩⟩;rw [List.drop_of_length_le (by show T.data.toList.length <= p; have e : T.data.toList.length = T.size := rfl; omega)];rfl
 have hlt : p < T.size := by omega
 have hlti : ¬ (T.size : Int) <= (p : Int) := by omega
 have hlti2 : (p : Int) < (T.size : Int) := by omega
 have hp0 : (0 : Int) <= (p : Int) := by omega
 have hpl : p < T.data.toList.length := hlt;obtain ⟨b, hbk⟩ := zE (T.data.toList[p]);have hgk : ∀ h, T[p]'h = b := fun h => by rw [<- hbk]; rfl
 have HDR : Hid (T.data.toList.drop p = b :: T.data.toList.drop (p + 1)) := by
  show T.data.toList.drop p = b :: T.data.toList.drop (p + 1);rw [<- hbk]; exact List.drop_eq_getElem_cons hpl
 have HBL : Hid (b.toNat < 256) := b.toNat_lt;have wb : IntKind.i64.wrap (b.toNat : Int) = (b.toNat : Int) := by rw [IntKind.wrap_i64]; have := HBL.out; omega
 obtain ⟨p1, hp1⟩ : ∃ p1, p1 = p + 1 := ⟨_, rfl⟩;have wp1 : IntKind.i64.wrap ((p : Int) + 1) = (p1 : Int) := by rw [IntKind.wrap_i64]; omega
 have wp2 : (p : Int) + 1 = (p1 : Int) := by omega
 have HP1 : Hid (p1 = p + 1) := hp1;clear hp1;clear r0 r1 r2 hbw hbk hpl;go_enter Tryz.func78, Tryz.ntmps78;go_wp2_with fail;obtain ⟨W2, hW2⟩ : ∃ W, W = (w.alloc (Obj.cells #[Value.int IntKind.i64 0, Value.string { data := #[] }, Value.slice none 0 0] 50)).alloc (Obj.cells #[Value.int IntKind.i64 (b.toNat : Int), Value.string { data := #[] }, Value.slice none 0 0] 50) := ⟨_, rfl⟩;rw [<- hW2];have H2 : Hid (zW w W2 /\ W2.heap.size = w.heap.size + 2 /\ Blk3 W2 w.heap.size (zI 0) (zG ⟨#[]⟩) zZ /\ Blk3 W2 (w.heap.size + 1) (zI (b.toNat : Int)) (zG ⟨#[]⟩) zZ) := two_blk w _ _ _ _ _ _ W2 hW2;clear hW2;refine (size_at T p1 W2 (by omega) (by have := HP1.out; omega)).mono ?_;rw [HP1.out];clear wp1 wp2;obtain ⟨⟨r0, r1, r2⟩, rf⟩ := cell_in H2.2.2.1;obtain ⟨⟨x0, x1, x2⟩, xf⟩ := cell_in H2.2.2.2
 cases hsz : szAt T.data.toList (p + 1) with
 | none =>
  rw [szV_none hsz];rintro e W3 ⟨rfl, rfl⟩;have HN : Hid (rdI (n + 1) (T.data.toList.drop p) = none) := by
   show rdI (n + 1) (T.data.toList.drop p) = none;rw [HDR.out, rdI_cons, show sizeL (T.data.toList.drop (p + 1)) = none from hsz]
  clear hsz;go_wp2_with fail;refine bodyPost_ret (v := .tuple #[.agg #[zI 0, zG ⟨#[]⟩, zZ], zI 0, .bool false]) (by simp [results, Tryz.results78, go_sem, r0, r1, r2]; try rfl) rfl ?_;exact ⟨((H2.1.setCell (p := ⟨w.heap.size, 0, none⟩) (Nat.le_refl _) _).setCell (p := ⟨w.heap.size, 1, none⟩) (Nat.le_refl _) _).setCell (p := ⟨w.heap.size, 2, none⟩) (Nat.le_refl _) _, .inl ⟨HN.out, rfl⟩⟩
 | some zc =>
  obtain ⟨z, c⟩ := zc;rw [szV_some hsz];have hsz2 : sizeL (T.data.toList.drop (p + 1)) = some (z, c) := hsz;obtain ⟨hc1, hc2, hz⟩ := sizeL_le hsz2;have hrl : (T.data.toList.drop (p + 1)).length = T.size - (p + 1) := by rw [List.length_drop]; rfl
  rw [hrl] at hc2;obtain ⟨from_, hfrom⟩ := zE (p + 1 + c);rw [hfrom];have hfl : from_ <= T.size := by omega
  have hdl : ((T.data.toList.drop (p + 1)).drop c).length = T.size - from_ := by rw [List.length_drop, hrl]; omega
  have ws : IntKind.i64.wrap ((T.size : Int) - (from_ : Int)) = (T.size : Int) - (from_ : Int) := by rw [IntKind.wrap_i64]; omega
  rintro e W3 ⟨rfl, rfl⟩;by_cases hbig : T.size - from_ < z
  ·have hbi : (T.size : Int) - (from_ : Int) < (z : Int) := by omega
   have HN : Hid (rdI (n + 1) (T.data.toList.drop p) = none) := by
    show rdI (n + 1) (T.data.toList.drop p) = none;rw [HDR.out, rdI_cons, hsz2];show (if ((T.data.toList.drop (p + 1)).drop c).length < z then none else _) = none;rw [if_pos (by omega)]
   clear hsz hsz2 hrl hdl;go_wp2_with fail;refine bodyPost_ret (v := .tuple #[.agg #[zI 0, zG ⟨#[]⟩, zZ], zI 0, .bool false]) (by simp [results, Tryz.results78, go_sem, r0, r1, r2]; try rfl) rfl ?_;exact ⟨((H2.1.setCell (p := ⟨w.heap.size, 0, none⟩) (Nat.le_refl _) _).setCell (p := ⟨w.heap.size, 1, none⟩) (Nat.le_refl _) _).setCell (p := ⟨w.heap.size, 2, none⟩) (Nat.le_refl _) _, .inl ⟨HN.out, rfl⟩⟩
  have hbi : ¬ (T.size : Int) - (from_ : Int) < (z : Int) := by omega
  obtain ⟨q, hq⟩ := zE (from_ + z);have wq : IntKind.i64.wrap ((from_ : Int) + (z : Int)) = (q : Int) := by rw [IntKind.wrap_i64]; omega
  have wq2 : (from_ : Int) + (z : Int) = (q : Int) := by omega
  have hqT : q <= T.size := by omega
  have hfq : from_ <= q := by omega
  have hqi : (q : Int) <= (T.size : Int) := by omega
  have hf0 : (0 : Int) <= (from_ : Int) := by omega
  have hq0 : (0 : Int) <= (q : Int) := by omega
  have hfqi : (from_ : Int) <= (q : Int) := by omega
  have HBODY : Hid (((T.data.toList.drop (p + 1)).drop c).take z = (T.extract from_ q).data.toList /\ p + (1 + c + z) = q /\ ¬ ((T.data.toList.drop (p + 1)).drop c).length < z) := by
   refine ⟨?_, by omega, by omega⟩;rw [ext_list, List.drop_drop, hfrom, show q - from_ = z by omega]
  have HS : Hid (sizeL (T.data.toList.drop (p + 1)) = some (z, c)) := hsz2;clear hsz hsz2 hrl hdl hfrom
  by_cases h48 : b.toNat ≠ 48
  ·have h48i : ((b.toNat : Int) == 48) = false := by simp; omega
   have h48j : ¬ (b.toNat : Int) = 48 := by omega
   have HR : Hid (rdI (n + 1) (T.data.toList.drop p) = some (It.mk (b.toNat : Int) (T.extract from_ q).data.toList [], 1 + c + z)) := by
    show rdI (n + 1) (T.data.toList.drop p) = _;rw [HDR.out, rdI_cons, HS.out];show (if ((T.data.toList.drop (p + 1)).drop c).length < z then none else _) = _;rw [if_neg HBODY.2.2, if_pos h48, HBODY.1]
   go_wp2_with fail;refine bodyPost_ret (v := .tuple #[.agg #[zI (b.toNat : Int), zG (T.extract from_ q), zZ], zI (q : Int), .bool true]) (by simp [results, Tryz.results78, go_sem, r0, r1, r2]; try rfl) rfl ?_;have hb := H2.1.setCell (p := ⟨w.heap.size + 1, 1, none⟩) (show w.heap.size <= w.heap.size + 1 by omega) (Value.string (T.extract from_ q));refine ⟨((hb.setCell (p := ⟨w.heap.size, 0, none⟩) (Nat.le_refl _) _).setCell (p := ⟨w.heap.size, 1, none⟩) (Nat.le_refl _) _).setCell (p := ⟨w.heap.size, 2, none⟩) (Nat.le_refl _) _, .inr ⟨_, _, (b.toNat : Int), T.extract from_ q, none, 0, 0, [], HR.out, by rw [HBODY.2.1], rfl, ?_, own_nil _ _ _⟩⟩;exact bytes_back _
  ·have h48i : ((b.toNat : Int) == 48) = true := by simp; omega
   have h48j : (b.toNat : Int) = 48 := by omega
   have HR : Hid (∀ o, kidsL (rdI n) 40 (T.extract from_ q).data.toList = o -> rdI (n + 1) (T.data.toList.drop p) = match o with
    | none => none
    | some ks => some (It.mk 48 [] ks, 1 + c + z)) := fun o ho => by
    rw [HDR.out, rdI_cons, HS.out];show (if ((T.data.toList.drop (p + 1)).drop c).length < z then none else _) = _;rw [if_neg HBODY.2.2, if_neg h48, HBODY.1, ho, h48j]
   rw [h48j] at x0;have HX : Hid (Blk3 W3 (w.heap.size + 1) (zI 48) (zG ⟨#[]⟩) zZ) := by have h := H2.2.2.2; rw [h48j] at h; exact h
   go_wp2_with fail
   go_loopw [13] (fun iv wr => ∃ k : Nat, from_ <= k /\ k <= q /\ iv = zI (k : Int) /\ Hid (∃ (kv : Value) (ks : List (It n)), Blk3 wr w.heap.size (zI 0) (zG ⟨#[]⟩) zZ /\ Blk3 wr (w.heap.size + 1) (zI 48) (zG ⟨#[]⟩) kv /\ GrowN wr (w.heap.size + 2) n kv ks /\ ks.length <= 40 /\ zW w wr /\ w.heap.size + 2 <= wr.heap.size /\ kidsL (rdI n) 40 (T.extract from_ q).data.toList = (kidsL (rdI n) (40 - ks.length) ((T.extract from_ q).data.toList.drop (k - from_))).map (ks ++ ·))) (fun iv _ => q - (intOf iv).toNat)
   case atStart => exact ⟨from_, Nat.le_refl _, hfq, rfl, _, [], H2.2.2.1, HX.out, GrowN.nil _ _ n, Nat.zero_le _, H2.1, by rw [H2.2.1]; exact Nat.le_refl _, by rw [Nat.sub_self, List.drop_zero]; exact (map_nil_app _).symm⟩
   case round =>
    obtain ⟨k, hfk, hkq, rfl, HR0⟩ := hrel;obtain ⟨kv, ks, hr0, hr1, hrG, hr40, hrB, hrs, hrK⟩ := HR0.out;obtain ⟨ao, cp, hkv⟩ := hrG.shape;obtain ⟨lk, hlk⟩ := zE (ks.length);rw [hlk] at hkv hr40;subst hkv;have HK : Hid (Blk3 wr w.heap.size (zI 0) (zG ⟨#[]⟩) zZ /\ Blk3 wr (w.heap.size + 1) (zI 48) (zG ⟨#[]⟩) (zS ao lk cp) /\ GrowN wr (w.heap.size + 2) n (zS ao lk cp) ks /\ zW w wr /\ w.heap.size + 2 <= wr.heap.size /\ kidsL (rdI n) 40 (T.extract from_ q).data.toList = (kidsL (rdI n) (40 - ks.length) ((T.extract from_ q).data.toList.drop (k - from_))).map (ks ++ ·) /\ ks.length = lk) := ⟨hr0, hr1, hrG, hrB, hrs, hrK, hlk⟩;clear HR0 hr0 hr1 hrG hrB hrs hrK hlk H2 HX r0 r1 r2 rf x0 x1 x2 xf;have hkq0 : (0 : Int) <= (k : Int) := by omega
    by_cases hlt2 : k < q
    ·have hki : (k : Int) < (q : Int) := by omega
     have hesz : (T.extract 0 q).size = q := by rw [ByteArray.size_extract]; omega
     have HCD : Hid ((T.extract 0 q).data.toList.drop k = (T.extract from_ q).data.toList.drop (k - from_) /\ ((T.extract from_ q).data.toList.drop (k - from_)).length = q - k) := by
      constructor
      ·rw [ext_list, ext_list]; exact cut_drop _ hfk
      ·rw [List.length_drop]
       have e : (T.extract from_ q).data.toList.length = (T.extract from_ q).size := rfl;rw [e, ByteArray.size_extract];omega
     have E := IH.out (T.extract 0 q) k wr (by omega) (by omega);rw [HDE.out] at E;clear hesz;go_wp2_with fail;refine E.mono ?_;clear E;rintro e w3 ⟨hb3, hcase⟩;have hne : (T.extract from_ q).data.toList.drop (k - from_) ≠ [] := fun e => by have := HCD.2; rw [e] at this; simp at this; omega
     rcases hcase with ⟨hnone, rfl⟩ | ⟨y, u, t3, s3, ax3, l3, cx3, fp3, hsome, rfl, hown⟩
     ·rw [HCD.1] at hnone
      have HN : Hid (rdI (n + 1) (T.data.toList.drop p) = none) := HR.out none (by rw [HK.2.2.2.2.2.1, kidsL_fail _ hne hnone]; rfl);have hb4 := hb3.alloc hb3.size (Obj.cells #[Value.int IntKind.i64 0, Value.string { data := #[] }, Value.slice none 0 0] 50);obtain ⟨⟨r0, r1, r2⟩, rf⟩ := cell_in (HK.1.below hb4);have HB : Hid (zW w (w3.alloc (Obj.cells #[Value.int IntKind.i64 0, Value.string { data := #[] }, Value.slice none 0 0] 50))) := HK.2.2.2.1.trans (hb4.mono HK.2.2.2.1.size);clear hnone hne hb3 hb4;go_wp2_with fail;refine bodyPost_ret (v := .tuple #[.agg #[zI 0, zG ⟨#[]⟩, zZ], zI 0, .bool false]) (by simp [results, Tryz.results78, go_sem, r0, r1, r2]; try rfl) rfl ?_;exact ⟨((HB.setCell (p := ⟨w.heap.size, 0, none⟩) (Nat.le_refl _) _).setCell (p := ⟨w.heap.size, 1, none⟩) (Nat.le_refl _) _).setCell (p := ⟨w.heap.size, 2, none⟩) (Nat.le_refl _) _, .inl ⟨HN.out, rfl⟩⟩
     ·rw [HCD.1] at hsome
      obtain ⟨hu1, hu2⟩ := rd_le hsome;rw [HCD.2] at hu1;have hb4 := hb3.alloc hb3.size (Obj.cells #[Value.int IntKind.i64 t3, Value.string s3, Value.slice ax3 l3 cx3] 50);obtain ⟨⟨r0, r1, r2⟩, rf⟩ := cell_in (HK.1.below hb4);obtain ⟨⟨x0, x1, x2⟩, xf⟩ := cell_in (HK.2.1.below hb4);obtain ⟨kn, hkn⟩ := zE (k + u);rw [hkn];by_cases h40 : 40 <= lk
      ·have h40i : (40 : Int) <= (lk : Int) := by omega
       have HN : Hid (rdI (n + 1) (T.data.toList.drop p) = none) := HR.out none (by rw [HK.2.2.2.2.2.1, HK.2.2.2.2.2.2, show 40 - lk = 0 by omega, kidsL_full _ hne]; rfl);have HB : Hid (zW w (w3.alloc (Obj.cells #[Value.int IntKind.i64 t3, Value.string s3, Value.slice ax3 l3 cx3] 50))) := HK.2.2.2.1.trans (hb4.mono HK.2.2.2.1.size);clear hsome hne hb3 hb4 hown hkn;go_wp2_with fail;refine bodyPost_ret (v := .tuple #[.agg #[zI 0, zG ⟨#[]⟩, zZ], zI 0, .bool false]) (by simp [results, Tryz.results78, go_sem, r0, r1, r2]; try rfl) rfl ?_;exact ⟨((HB.setCell (p := ⟨w.heap.size, 0, none⟩) (Nat.le_refl _) _).setCell (p := ⟨w.heap.size, 1, none⟩) (Nat.le_refl _) _).setCell (p := ⟨w.heap.size, 2, none⟩) (Nat.le_refl _) _, .inl ⟨HN.out, rfl⟩⟩
      ·have h40i : ¬ (40 : Int) <= (lk : Int) := by omega
       obtain ⟨m, rfl⟩ : ∃ m, n = m + 1 := by
        cases n with
        | zero => exact hown.elim
        | succ m => exact ⟨m, rfl⟩
       obtain ⟨ht3, hs3, ho3⟩ := hown;have hb34 : zW w3 (w3.alloc (Obj.cells #[Value.int IntKind.i64 t3, Value.string s3, Value.slice ax3 l3 cx3] 50)) := (Below.refl _ _).alloc (Nat.le_refl _) _;have H4 : Hid (zW wr (w3.alloc (Obj.cells #[Value.int IntKind.i64 t3, Value.string s3, Value.slice ax3 l3 cx3] 50)) /\ OwnK (w3.alloc (Obj.cells #[Value.int IntKind.i64 t3, Value.string s3, Value.slice ax3 l3 cx3] 50)) wr.heap.size m (zS ax3 l3 cx3) (It.kids y) fp3 /\ It.tag y = t3 /\ (⟨(It.text y).toArray⟩ : ByteArray) = s3) := ⟨hb4, ho3.below hb34 (fun b hm => (OwnK.lt ho3 b hm).2), ht3, hs3⟩;have HNX : Hid (kidsL (rdI (m + 1)) 40 (T.extract from_ q).data.toList = (kidsL (rdI (m + 1)) (40 - (ks ++ [y]).length) ((T.extract from_ q).data.toList.drop (kn - from_))).map ((ks ++ [y]) ++ ·)) := by
        show kidsL (rdI (m + 1)) 40 (T.extract from_ q).data.toList = _;rw [HK.2.2.2.2.2.1, HK.2.2.2.2.2.2, show 40 - lk = (40 - (lk + 1)) + 1 by omega, kidsL_step _ hne hsome, List.drop_drop, show k - from_ + u = kn - from_ by omega, List.length_append, List.length_singleton, HK.2.2.2.2.2.2, Option.map_map]
        congr 1
        funext l
        simp
       have HU : Hid (kn <= q /\ k < kn /\ from_ <= kn) := ⟨by omega, by omega, by omega⟩;clear hsome hne hb3 hb4 hb34 ho3 ht3 hs3 hkn hu1 hu2 r0 r1 r2 rf;go_wp2_with (at_builtin; refine wpList_append_item rfl _ _ rfl (w.heap.size + 2) m (zS ao lk cp) ks y t3 s3 (zS ax3 l3 cx3) fp3 H4.2.2.1 H4.2.2.2 rfl _ rfl (by simp) HK.2.2.1 H4.1 H4.2.1 HK.2.2.2.2.1 (by have := HK.2.2.2.2.2.2; omega) ?_);intro g cap w6 hG6 hgrow6;have H6 : Hid (Blk3 w6 w.heap.size (zI 0) (zG ⟨#[]⟩) zZ /\ Blk3 w6 (w.heap.size + 1) (zI 48) (zG ⟨#[]⟩) (zS ao lk cp) /\ GrowK w6 (w.heap.size + 2) m (zS (some ⟨g, 0, none⟩) (lk + 1) cap) (ks ++ [y]) /\ zW w w6 /\ w.heap.size + 2 <= w6.heap.size) := by
        have hb5 := H4.1.alloc H4.1.size (Obj.cells #[Value.int IntKind.i64 t3, Value.string s3, Value.slice ax3 l3 cx3] 50);have hkb := GrowK.lt HK.2.2.1;have ne : ∀ q, q < w.heap.size + 2 -> some q ≠ (Value.slice ao lk cp).ownBlock := fun q hq e => by have := (hkb q e.symm).1; omega
        have hbw := HK.2.2.2.1.trans (hb5.mono HK.2.2.2.1.size);rw [HK.2.2.2.2.2.2] at hG6;exact ⟨(HK.1.below hb5).grown hgrow6 (ne _ (by omega)), (HK.2.1.below hb5).grown hgrow6 (ne _ (by omega)), hG6, hbw.grown hgrow6 (hbw.size) (fun q hq => by have := (hkb q hq).1; omega), Nat.le_trans HK.2.2.2.2.1 (Nat.le_trans hb5.size hgrow6.size)⟩
       rw [HK.2.2.2.2.2.2];obtain ⟨⟨_, _, y6⟩, fz6⟩ := cell_in H6.2.1;have HLK : Hid (ks.length = lk) := HK.2.2.2.2.2.2;clear hG6 hgrow6 H4 HK x0 x1 x2 xf;go_wp2_with fail;refine ⟨⟨kn, HU.2.2, HU.1, rfl, zS (some ⟨g, 0, none⟩) (lk + 1) cap, ks ++ [y], ?_, ?_, ?_, ?_, ?_, ?_, HNX.out⟩, by have := HU.out; simp [intOf]; omega⟩
       ·exact H6.1.other (by show w.heap.size ≠ w.heap.size + 1; omega) _
       ·exact H6.2.1.set _
       ·exact H6.2.2.1.out fun b hb => heap_setCell_other _ _ _ _ (by show b ≠ w.heap.size + 1; omega)
       ·rw [List.length_append, List.length_singleton, HLK.out]; omega
       ·exact H6.2.2.2.1.setCell (p := ⟨w.heap.size + 1, 2, none⟩) (by show w.heap.size <= w.heap.size + 1; omega) _
       ·exact Nat.le_trans H6.2.2.2.2 (((Below.refl 0 w6).setCell (p := ⟨w.heap.size + 1, 2, none⟩) (Nat.zero_le _) _).size)
    ·have hki : ¬ (k : Int) < (q : Int) := by omega
     have hkq2 : k = q := by omega
     obtain ⟨⟨x0, x1, x2⟩, xf⟩ := cell_in HK.2.1;obtain ⟨⟨r0, r1, r2⟩, rf⟩ := cell_in HK.1;have HS2 : Hid (rdI (n + 1) (T.data.toList.drop p) = some (It.mk 48 [] ks, 1 + c + z)) := HR.out (some ks) (by
      rw [HK.2.2.2.2.2.1, List.drop_of_length_le (by
       have e : (T.extract from_ q).data.toList.length = (T.extract from_ q).size := rfl;rw [e, ByteArray.size_extract];omega), kidsL_end]
      simp)
     obtain ⟨fp, hfp⟩ := HK.2.2.1.own;have HE := zH (zJ (hfp : OwnK wr (w.heap.size + 2) n (zS ao lk cp) ks fp) HK.2.2.2.1);clear hfp HK;subst hkq2;go_wp2_with fail;refine bodyPost_ret (v := .tuple #[.agg #[zI 48, zG ⟨#[]⟩, zS ao lk cp], zI (k : Int), .bool true]) (by simp [results, Tryz.results78, go_sem, r0, r1, r2]; try rfl) rfl ?_;refine ⟨((HE.2.setCell (p := ⟨w.heap.size, 0, none⟩) (Nat.le_refl _) _).setCell (p := ⟨w.heap.size, 1, none⟩) (Nat.le_refl _) _).setCell (p := ⟨w.heap.size, 2, none⟩) (Nat.le_refl _) _, .inr ⟨_, _, 48, ⟨#[]⟩, ao, lk, cp, fp, HS2.out, by rw [HBODY.2.1], rfl, rfl, ?_⟩⟩;refine OwnK.base (base := w.heap.size + 2) (by omega) (HE.1.same fun b hb => ?_);have h1 := (OwnK.lt HE.1 b hb).1;rw [heap_setCell_other _ _ _ _ (by show b ≠ w.heap.size; omega), heap_setCell_other _ _ _ _ (by show b ≠ w.heap.size; omega), heap_setCell_other _ _ _ _ (by show b ≠ w.heap.size; omega)]
theorem read_any : ∀ n, n <= 7 -> InC n
 | 0, _ => read_deep
 | n + 1, h => read_step n (by omega) (read_any n (by omega))
end Go.Proofs.YtcbjlbpkoneibaaGreatDoor
namespace Go.Proofs.YtcbjlbpkoneibaaGreatDoor
open Go.RowKit Der
def LenPost (T : ByteArray) (w : World) (e : Ending) (w' : World) : Prop := zW w w' /\
 ((sizeG T.data.toList = none /\ ∃ a b : Nat, a <= 100000 /\ b <= 100000 /\ e = .returned (.tuple #[zI (a : Int), zI (b : Int), .bool false])) ∨
 ∃ z c : Nat, sizeG T.data.toList = some (z, c) /\ e = .returned (.tuple #[zI (z : Int), zI (c : Int), .bool true]))
theorem toList_data (T : ByteArray) : T.toList = T.data.toList := by
 obtain ⟨d⟩ := T;obtain ⟨l⟩ := d;show (⟨l.toArray⟩ : ByteArray).toList = _;simp
theorem not_empty {T : ByteArray} (h : 0 < T.size) : T.toList.isEmpty = false := by
 have e : T.data.toList.length = T.size := rfl;rw [toList_data]
 cases hq : T.data.toList with
 | nil => rw [hq] at e; simp at e; omega
 | cons => rfl
theorem list_cons {T : ByteArray} (h : 0 < T.size) : ∃ b r, T.data.toList = b :: r /\ r.length + 1 = T.size /\ (∀ h, T[0]'h = b) /\ r = T.data.toList.drop 1 := by
 obtain ⟨b, r, he⟩ : ∃ b r, T.data.toList = b :: r := by
  cases hq : T.data.toList with
  | nil => have e : T.data.toList.length = T.size := rfl; rw [hq] at e; simp at e; omega
  | cons b r => exact ⟨b, r, rfl⟩
 have e : T.data.toList.length = T.size := rfl;refine ⟨b, r, he, by rw [<- e, he]; rfl, fun h => ?_, by rw [he]; rfl⟩;have h2 : T.data.toList[0]'(by rw [e]; exact h) = b := by simp [he]
 exact h2
theorem readLength_any (T : ByteArray) (w : World) (hT : T.size <= 4000) : Calls Tryz.prog 150 #[zG T] w fun e w' => LenPost T w e w' := by
 by_cases h0 : T.size = 0
 ·have hT0 : T = ⟨#[]⟩ := by
   cases T with
   | mk d => congr 1; exact Array.eq_empty_of_size_eq_zero h0
  subst hT0;go_enter Tryz.func150, Tryz.ntmps150;go_wp2_with fail
  go_ret3
  exact ⟨Below.refl _ _, .inl ⟨rfl, 0, 0, by omega, by omega, rfl⟩⟩
 obtain ⟨b, r, he, hrl, hg0, hr1⟩ := list_cons (T := T) (by omega);have hne : T.toList.isEmpty = false := not_empty (by omega);have hbl := b.toNat_lt;have h0i : (0 : Int) < (T.size : Int) := by omega
 have h0n : 0 < T.size := by omega
 have wb : IntKind.i64.wrap (b.toNat : Int) = (b.toNat : Int) := by rw [IntKind.wrap_i64]; omega
 by_cases h128 : b.toNat < 128
 ·have h128i : (b.toNat : Int) < 128 := by omega
  have HR : Hid (sizeG T.data.toList = some (b.toNat, 1)) := by show sizeG T.data.toList = _; rw [he, sizeG_cons, if_pos h128]
  clear he hr1 hrl;go_enter Tryz.func150, Tryz.ntmps150;go_wp2_with fail
  go_ret3
  exact ⟨Below.refl _ _, .inr ⟨_, _, HR.out, rfl⟩⟩
 have h128i : ¬ (b.toNat : Int) < 128 := by omega
 obtain ⟨k, hk⟩ : ∃ k : Nat, b.toNat - 128 = k := ⟨_, rfl⟩;have w5 : IntKind.i64.wrap ((b.toNat : Int) - 128) = (k : Int) := by rw [IntKind.wrap_i64]; omega
 by_cases hk2 : 2 < k
 ·have hk2i : (2 : Int) < (k : Int) := by omega
  have HR : Hid (sizeG T.data.toList = none) := by show sizeG T.data.toList = _; rw [he, sizeG_cons, if_neg h128, hk, if_pos (.inl hk2)]
  clear he hr1 hrl hk;go_enter Tryz.func150, Tryz.ntmps150;go_wp2_with fail
  go_ret3
  exact ⟨Below.refl _ _, .inl ⟨HR.out, 0, 0, by omega, by omega, rfl⟩⟩
 have hk2i : ¬ (2 : Int) < (k : Int) := by omega
 by_cases hkl : T.size <= k
 ·have hkli : (T.size : Int) <= (k : Int) := by omega
  have HR : Hid (sizeG T.data.toList = none) := by show sizeG T.data.toList = _; rw [he, sizeG_cons, if_neg h128, hk, if_pos (.inr (by omega))]
  clear he hr1 hrl hk;go_enter Tryz.func150, Tryz.ntmps150;go_wp2_with fail
  go_ret3
  exact ⟨Below.refl _ _, .inl ⟨HR.out, 0, 0, by omega, by omega, rfl⟩⟩
 have hkli : ¬ (T.size : Int) <= (k : Int) := by omega
 obtain ⟨v, hv⟩ : ∃ v : Nat, 1 + k = v := ⟨_, rfl⟩;have wv : IntKind.i64.wrap (1 + (k : Int)) = (v : Int) := by rw [IntKind.wrap_i64]; omega
 have hvT : v <= T.size := by omega
 have h1v : 1 <= v := by omega
 have h1vi : (1 : Int) <= (v : Int) := by omega
 have hvTi : (v : Int) <= (T.size : Int) := by omega
 have hv0 : (0 : Int) <= (v : Int) := by omega
 have hsz : (T.extract 1 v).size <= 7 := by rw [ByteArray.size_extract]; omega
 obtain ⟨q, hq⟩ : ∃ q : Nat, valB8 (T.extract 1 v).data.toList = q := ⟨_, rfl⟩;have hqs : q < 65536 := by
  have h1 := valB8_lt _ (T.extract 1 v).data.toList rfl;have h2 : (T.extract 1 v).data.toList.length <= 2 := by
   have e : (T.extract 1 v).data.toList.length = (T.extract 1 v).size := rfl;rw [e, ByteArray.size_extract]; omega
  have h3 : 256 ^ (T.extract 1 v).data.toList.length <= 256 ^ 2 := Nat.pow_le_pow_right (by decide) h2;have h4 : (256 : Nat) ^ 2 = 65536 := by decide
  omega
 have HV : Hid (sizeG T.data.toList = if Der.lenB q = (T.extract 0 v).data.toList then some (q, v) else none) := by
  show sizeG T.data.toList = _;rw [ext_list, List.drop_zero, Nat.sub_zero, he, sizeG_cons, if_neg h128, hk, if_neg (by omega), <- hq, ext_list, <- hr1, show v - 1 = k by omega, hv]
 have EN := numberOf_any (T.extract 1 v) w hsz;rw [hq] at EN;clear he hr1 hrl hk hsz hq hv;go_enter Tryz.func150, Tryz.ntmps150;go_wp2_with fail;refine EN.mono ?_;clear EN;rintro e w2 ⟨rfl, hb2⟩;obtain ⟨L, hL⟩ : ∃ L : ByteArray, (⟨(Der.lenB q).toArray⟩ : ByteArray) = L := ⟨_, rfl⟩;have EL : Hid (∀ W, Calls Tryz.prog 108 #[zI (q : Int)] W fun e w' => e = .returned (zG L) /\ zW W w') := fun W => by rw [<- hL]; exact lengthText_any q W (by omega)
 have HB2 : Hid (zW w w2) := hb2;have HLL : Hid (L.data.toList = Der.lenB q) := by show L.data.toList = Der.lenB q; rw [<- hL]
 clear hb2 hL;go_wp2_with fail
 go_region_held3 (fun _ => True) (exact trivial) ((first
  | (go_at_call 108; refine (EL.out _).mono ?_; rintro e w3 ⟨rfl, hb3⟩)))
 all_goals (
  have HB3 : Hid (zW w w3) := HB2.trans (Below.mono (Below.trans ((Below.refl _ _).drew) hb3) HB2.size);clear hb3;go_wp2_with fail
  go_ret3
  refine ⟨HB3.out, ?_⟩;rw [HV.out];by_cases hc : Der.lenB q = (T.extract 0 v).data.toList
  ·rw [if_pos hc]
   refine .inr ⟨q, v, rfl, ?_⟩;have e : (L.toList == (T.extract 0 v).toList) = true := by rw [toList_data, toList_data, HLL.out, hc]; simp
   rw [<- e];rfl
  ·rw [if_neg hc]
   refine .inl ⟨rfl, q, v, by omega, by omega, ?_⟩;have e : (L.toList == (T.extract 0 v).toList) = false := by rw [toList_data, toList_data, HLL.out]; exact beq_eq_false_iff_ne.2 hc
   rw [<- e];rfl)
def FiPost (n : Nat) (T : ByteArray) (w : World) (e : Ending) (w' : World) : Prop := zW w w' /\
 ((rdG n T.data.toList = none /\ ∃ (t : Int) (s : ByteArray) (ax : Option Addr) (l cx : Nat) (s2 : ByteArray), e = .returned (.tuple #[.agg #[zI t, zG s, zS ax l cx], zG s2, .bool false])) ∨
 ∃ (x : It n) (u : Nat) (t : Int) (s : ByteArray) (ax : Option Addr) (l cx : Nat) (fp : List Nat), rdG n T.data.toList = some (x, u) /\ e = .returned (.tuple #[.agg #[zI t, zG s, zS ax l cx], zG (T.extract u T.size), .bool true]) /\ Own1 w' w.heap.size n t s (zS ax l cx) x fp)
def FiC (n : Nat) : Prop := ∀ (T : ByteArray) (w : World), T.size <= 4000 -> T.size < n -> Calls Tryz.prog 112 #[zG T] w fun e w' => FiPost n T w e w'
def KiPost (n : Nat) (T : ByteArray) (w : World) (e : Ending) (w' : World) : Prop := zW w w' /\
 ((kidsL (rdG n) T.size T.data.toList = none /\ e = .returned (.tuple #[zZ, .bool false])) ∨
 ∃ (ks : List (It n)) (ax : Option Addr) (l cx : Nat) (fp : List Nat), kidsL (rdG n) T.size T.data.toList = some ks /\ e = .returned (.tuple #[zS ax l cx, .bool true]) /\ OwnK w' w.heap.size n (zS ax l cx) ks fp)
def KiC (n : Nat) : Prop := ∀ (T : ByteArray) (w : World), T.size <= 4000 -> T.size < n -> Calls Tryz.prog 151 #[zG T] w fun e w' => KiPost n T w e w'
theorem rdG_cons (n : Nat) (b : UInt8) (r : List UInt8) : rdG (n + 1) (b :: r) = match sizeG r with
  | none => none
  | some (sz, c) => if (r.drop c).length < sz then none
   else if b.toNat ≠ 48 then some (It.mk (b.toNat : Int) ((r.drop c).take sz) [], 1 + c + sz)
   else match kidsL (rdG n) ((r.drop c).take sz).length ((r.drop c).take sz) with
    | none => none
    | some ks => some (It.mk (b.toNat : Int) [] ks, 1 + c + sz) := rfl
theorem empty_of {T : ByteArray} (h : T.size = 0) : T = ⟨#[]⟩ := by
 cases T with
 | mk d => congr 1; exact Array.eq_empty_of_size_eq_zero h
theorem first_step (n : Nat) (KI : Hid (KiC n)) : FiC (n + 1) := fun T w hT hTn => by
 obtain ⟨⟨r0, r1, r2⟩, hbw⟩ := res_is w (zI 0) (zG ⟨#[]⟩) zZ 50;by_cases h0 : T.size = 0
 ·have hT0 := empty_of h0
  subst hT0;go_enter Tryz.func112, Tryz.ntmps112;go_wp2_with fail;refine bodyPost_ret (v := .tuple #[.agg #[zI 0, zG ⟨#[]⟩, zZ], zG ⟨#[]⟩, .bool false]) (by simp [results, Tryz.results112, go_sem, r0, r1, r2]; try rfl) rfl ?_;exact ⟨hbw, .inl ⟨rfl, _, _, _, _, _, _, rfl⟩⟩
 obtain ⟨b, r, he, hrl, hg0, hr1⟩ := list_cons (T := T) (by omega);have hne : T.toList.isEmpty = false := not_empty (by omega);have HBL : Hid (b.toNat < 256) := b.toNat_lt;have h0i : (0 : Int) < (T.size : Int) := by omega
 have h0n : 0 < T.size := by omega
 have h1n : 1 <= T.size := by omega
 have h1i : (1 : Int) <= (T.size : Int) := by omega
 have wb : IntKind.i64.wrap (b.toNat : Int) = (b.toNat : Int) := by rw [IntKind.wrap_i64]; have := HBL.out; omega
 have HE : Hid (T.data.toList = b :: r /\ (T.extract 1 T.size).data.toList = r /\ r.length + 1 = T.size) := ⟨he, by
  rw [ext_list, <- hr1];exact List.take_of_length_le (by omega), hrl⟩
 have H1 : Hid (Blk3 (w.alloc (Obj.cells #[Value.int IntKind.i64 0, Value.string { data := #[] }, Value.slice none 0 0] 50)) w.heap.size (zI 0) (zG ⟨#[]⟩) zZ /\ zW w (w.alloc (Obj.cells #[Value.int IntKind.i64 0, Value.string { data := #[] }, Value.slice none 0 0] 50))) := ⟨heap_alloc_new w _, hbw⟩;obtain ⟨W1, hW1⟩ : ∃ W, W = w.alloc (Obj.cells #[Value.int IntKind.i64 0, Value.string { data := #[] }, Value.slice none 0 0] 50) := ⟨_, rfl⟩;rw [<- hW1] at H1;have EL := readLength_any (T.extract 1 T.size) W1 (by rw [ByteArray.size_extract]; omega);clear he hr1 hrl r0 r1 r2 hbw;go_enter Tryz.func112, Tryz.ntmps112;go_wp2_with fail;rw [<- hW1];clear hW1;refine EL.mono ?_;clear EL;rintro e w2 ⟨hb2, hcase⟩;have H2 := zH (zJ (H1.1.below hb2) (zJ (H1.2.trans (hb2.mono H1.2.size)) (Nat.lt_of_lt_of_le H1.1.lt hb2.size)));obtain ⟨⟨r0, r1, r2⟩, rf⟩ := cell_in H2.1;clear H1 hb2;rw [HE.2.1] at hcase
 rcases hcase with ⟨hnone, za, zb, hza, hzb, rfl⟩ | ⟨z, c, hsome, rfl⟩
 ·have HN : Hid (rdG (n + 1) T.data.toList = none) := by show rdG (n + 1) T.data.toList = none; rw [HE.1, rdG_cons, hnone]
  have ws : IntKind.i64.wrap (1 + (zb : Int)) = 1 + (zb : Int) := by rw [IntKind.wrap_i64]; omega
  clear hnone;go_wp2_with fail;refine bodyPost_ret (v := .tuple #[.agg #[zI 0, zG ⟨#[]⟩, zZ], zG ⟨#[]⟩, .bool false]) (by simp [results, Tryz.results112, go_sem, r0, r1, r2]; try rfl) rfl ?_;exact ⟨((H2.2.1.setCell (p := ⟨w.heap.size, 0, none⟩) (Nat.le_refl _) _).setCell (p := ⟨w.heap.size, 1, none⟩) (Nat.le_refl _) _).setCell (p := ⟨w.heap.size, 2, none⟩) (Nat.le_refl _) _, .inl ⟨HN.out, _, _, _, _, _, _, rfl⟩⟩
 obtain ⟨-, -, hcr, hz6⟩ := sizeG_some hsome;have hrT := HE.2.2;obtain ⟨st, hst⟩ := zE (1 + c);have hsT : st <= T.size := by omega
 have ws : IntKind.i64.wrap (1 + (c : Int)) = (st : Int) := by rw [IntKind.wrap_i64]; omega
 have wd : IntKind.i64.wrap ((T.size : Int) - (st : Int)) = (T.size : Int) - (st : Int) := by rw [IntKind.wrap_i64]; omega
 have hdl : (r.drop c).length = T.size - st := by rw [List.length_drop]; omega
 by_cases hbig : T.size - st < z
 ·have hbi : (T.size : Int) - (st : Int) < (z : Int) := by omega
  have HN : Hid (rdG (n + 1) T.data.toList = none) := by
   show rdG (n + 1) T.data.toList = none;rw [HE.1, rdG_cons, hsome];show (if (r.drop c).length < z then none else _) = none;rw [if_pos (by omega)]
  clear hsome hdl;go_wp2_with fail;refine bodyPost_ret (v := .tuple #[.agg #[zI 0, zG ⟨#[]⟩, zZ], zG ⟨#[]⟩, .bool false]) (by simp [results, Tryz.results112, go_sem, r0, r1, r2]; try rfl) rfl ?_;exact ⟨((H2.2.1.setCell (p := ⟨w.heap.size, 0, none⟩) (Nat.le_refl _) _).setCell (p := ⟨w.heap.size, 1, none⟩) (Nat.le_refl _) _).setCell (p := ⟨w.heap.size, 2, none⟩) (Nat.le_refl _) _, .inl ⟨HN.out, _, _, _, _, _, _, rfl⟩⟩
 have hbi : ¬ (T.size : Int) - (st : Int) < (z : Int) := by omega
 obtain ⟨q, hq⟩ := zE (st + z);have wq : IntKind.i64.wrap ((st : Int) + (z : Int)) = (q : Int) := by rw [IntKind.wrap_i64]; omega
 have hqT : q <= T.size := by omega
 have hsq : st <= q := by omega
 have hqi : (q : Int) <= (T.size : Int) := by omega
 have hs0 : (0 : Int) <= (st : Int) := by omega
 have hq0 : (0 : Int) <= (q : Int) := by omega
 have hsqi : (st : Int) <= (q : Int) := by omega
 have HS : Hid (sizeG r = some (z, c) /\ ¬ (r.drop c).length < z /\ (r.drop c).take z = (T.extract st q).data.toList /\ 1 + c + z = q /\ (T.extract st q).size < n /\ (T.extract st q).size <= 4000) := by
  refine ⟨hsome, by omega, ?_, by omega, by rw [ByteArray.size_extract]; omega, by rw [ByteArray.size_extract]; omega⟩;rw [ext_list, HE.1, <- hst, Nat.add_comm 1 c, List.drop_succ_cons, show q - (c + 1) = z by omega]
 obtain ⟨W3, hW3⟩ : ∃ W, W = w2.alloc (Obj.cells #[Value.int IntKind.i64 (b.toNat : Int), Value.string { data := #[] }, Value.slice none 0 0] 50) := ⟨_, rfl⟩;obtain ⟨gx, hgx⟩ := zE (w2.heap.size);have H3 : Hid (Blk3 W3 w.heap.size (zI 0) (zG ⟨#[]⟩) zZ /\ Blk3 W3 gx (zI (b.toNat : Int)) (zG ⟨#[]⟩) zZ /\ zW w W3 /\ w.heap.size < gx /\ gx < W3.heap.size) := by
  have hb3 : zW w2 W3 := by rw [hW3]; exact (Below.refl _ _).alloc (Nat.le_refl _) _
  have hx : Blk3 W3 gx (zI (b.toNat : Int)) (zG ⟨#[]⟩) zZ := by rw [hW3, <- hgx]; exact heap_alloc_new w2 _
  exact ⟨H2.1.below hb3, hx, H2.2.1.trans (hb3.mono H2.2.1.size), by rw [<- hgx]; exact H2.2.2, hx.lt⟩
 clear hsome hdl hst hq hcr hz6 hrT H2;by_cases h48 : b.toNat ≠ 48
 ·have h48i : ((b.toNat : Int) == 48) = false := by simp; omega
  have h48j : ¬ (b.toNat : Int) = 48 := by omega
  have HR : Hid (rdG (n + 1) T.data.toList = some (It.mk (b.toNat : Int) (T.extract st q).data.toList [], q)) := by
   show rdG (n + 1) T.data.toList = _;rw [HE.1, rdG_cons, HS.1];show (if (r.drop c).length < z then none else _) = _;rw [if_neg HS.2.1, if_pos h48, HS.2.2.1, HS.2.2.2.1]
  have EC := cloneB_any (T.extract st q) W3 (by have := HS.2.2.2.2.2; omega);go_wp2_with fail;rw [<- hW3];clear hW3;refine EC.mono ?_;clear EC;rintro e w4 ⟨rfl, hb4⟩;clear hgx;have H4 := zH (zJ (H3.1.below hb4) (zJ (H3.2.1.below hb4) (H3.2.2.1.trans (hb4.mono H3.2.2.1.size))));have hgne : gx ≠ w.heap.size := by have := H3.2.2.2.1; omega
  have hgn2 : w.heap.size ≠ gx := fun e => hgne e.symm
  obtain ⟨⟨r0, r1, r2⟩, rf⟩ := cell_in H4.1;obtain ⟨⟨x0, x1, x2⟩, xf⟩ := cell_in H4.2.1;clear hb4;go_wp2_with fail
  go_region
  all_goals (
   go_wp2_with fail;refine bodyPost_ret (v := .tuple #[.agg #[zI (b.toNat : Int), zG (T.extract st q), zZ], zG (T.extract q T.size), .bool true]) (by simp [results, Tryz.results112, go_sem, r0, r1, r2]; try rfl) rfl ?_;have hb := H4.2.2.setCell (p := ⟨gx, 1, none⟩) (show w.heap.size <= gx by have := H3.2.2.2.1; omega) (Value.string (T.extract st q));refine ⟨((hb.drew.setCell (p := ⟨w.heap.size, 0, none⟩) (Nat.le_refl _) _).setCell (p := ⟨w.heap.size, 1, none⟩) (Nat.le_refl _) _).setCell (p := ⟨w.heap.size, 2, none⟩) (Nat.le_refl _) _, .inr ⟨_, _, (b.toNat : Int), T.extract st q, none, 0, 0, [], HR.out, rfl, rfl, bytes_back _, own_nil _ _ _⟩⟩)
 ·have h48i : ((b.toNat : Int) == 48) = true := by simp; omega
  have h48j : (b.toNat : Int) = 48 := by omega
  have hlen : ((r.drop c).take z).length = (T.extract st q).size := by rw [HS.2.2.1]; rfl
  have HR : Hid (∀ o, kidsL (rdG n) (T.extract st q).size (T.extract st q).data.toList = o -> rdG (n + 1) T.data.toList = match o with
    | none => none
    | some ks => some (It.mk 48 [] ks, q)) := fun o ho => by
   rw [HE.1, rdG_cons, HS.1];show (if (r.drop c).length < z then none else _) = _;rw [if_neg HS.2.1, if_neg h48, hlen, HS.2.2.1, ho, h48j, HS.2.2.2.1]
  have EK := KI.out (T.extract st q) W3 HS.2.2.2.2.2 HS.2.2.2.2.1;rw [h48j] at hW3 H3;clear hlen;go_wp2_with fail;rw [<- hW3];clear hW3;refine EK.mono ?_;clear EK hgx;rintro e w4 ⟨hb4, hcase⟩;have H4 := zH (zJ (H3.1.below hb4) (zJ (H3.2.1.below hb4) (H3.2.2.1.trans (hb4.mono H3.2.2.1.size))));have hgne : gx ≠ w.heap.size := by have := H3.2.2.2.1; omega
  have hgn2 : w.heap.size ≠ gx := fun e => hgne e.symm
  obtain ⟨⟨r0, r1, r2⟩, rf⟩ := cell_in H4.1;obtain ⟨⟨x0, x1, x2⟩, xf⟩ := cell_in H4.2.1;clear hb4
  rcases hcase with ⟨hnone, rfl⟩ | ⟨ks, ax, l, cx, fp, hsome, rfl, hown⟩
  ·have HN : Hid (rdG (n + 1) T.data.toList = none) := HR.out none hnone
   clear hnone;go_wp2_with fail
   go_region
   all_goals (
    go_wp2_with fail;refine bodyPost_ret (v := .tuple #[.agg #[zI 48, zG ⟨#[]⟩, zZ], zG (T.extract q T.size), .bool false]) (by simp [results, Tryz.results112, go_sem, r0, r1, r2]; try rfl) rfl ?_;have hb := H4.2.2.setCell (p := ⟨gx, 2, none⟩) (show w.heap.size <= gx by have := H3.2.2.2.1; omega) (Value.slice none 0 0);refine ⟨((hb.drew.setCell (p := ⟨w.heap.size, 0, none⟩) (Nat.le_refl _) _).setCell (p := ⟨w.heap.size, 1, none⟩) (Nat.le_refl _) _).setCell (p := ⟨w.heap.size, 2, none⟩) (Nat.le_refl _) _, .inl ⟨HN.out, _, _, _, _, _, _, rfl⟩⟩)
  ·have HSM : Hid (rdG (n + 1) T.data.toList = some (It.mk 48 [] ks, q)) := HR.out (some ks) hsome
   have HO : Hid (OwnK w4 W3.heap.size n (zS ax l cx) ks fp) := hown;clear hsome hown;go_wp2_with fail
   go_region
   all_goals (
    go_wp2_with fail;refine bodyPost_ret (v := .tuple #[.agg #[zI 48, zG ⟨#[]⟩, zS ax l cx], zG (T.extract q T.size), .bool true]) (by simp [results, Tryz.results112, go_sem, r0, r1, r2]; try rfl) rfl ?_;have hb := H4.2.2.setCell (p := ⟨gx, 2, none⟩) (show w.heap.size <= gx by have := H3.2.2.2.1; omega) (Value.slice ax l cx);refine ⟨((hb.drew.setCell (p := ⟨w.heap.size, 0, none⟩) (Nat.le_refl _) _).setCell (p := ⟨w.heap.size, 1, none⟩) (Nat.le_refl _) _).setCell (p := ⟨w.heap.size, 2, none⟩) (Nat.le_refl _) _, .inr ⟨_, _, 48, ⟨#[]⟩, ax, l, cx, fp, HSM.out, rfl, rfl, rfl, ?_⟩⟩;refine OwnK.base (base := W3.heap.size) (by have := H3.2.2.2; omega) (HO.same fun y hy => ?_);have h1 := (OwnK.lt HO.out y hy).1;have h2 := H3.2.2.2;show ((((w4.setCell ⟨gx, 2, none⟩ _).setCell ⟨w.heap.size, 0, none⟩ _).setCell ⟨w.heap.size, 1, none⟩ _).setCell ⟨w.heap.size, 2, none⟩ _).heap[y]? = _;rw [heap_setCell_other _ _ _ _ (by show y ≠ w.heap.size; omega), heap_setCell_other _ _ _ _ (by show y ≠ w.heap.size; omega), heap_setCell_other _ _ _ _ (by show y ≠ w.heap.size; omega)];exact heap_setCell_other _ _ _ _ (by show y ≠ gx; omega))
def strSize : Value -> Nat
 | .string s => s.size
 | _ => 0
theorem kids_step (n : Nat) (FI : Hid (FiC (n + 1))) : KiC (n + 1) := fun T w hT hTn => by
 go_enter Tryz.func151, Tryz.ntmps151;go_wp2_with fail
 go_loopw [0, 4] (fun tv kv wr => ∃ (S : ByteArray) (ao : Option Addr) (l cp : Nat), tv = zG S /\ kv = zS ao l cp /\ Hid (∃ (ks : List (It (n + 1))) (m : Nat), GrowK wr w.heap.size n (zS ao l cp) ks /\ ks.length = l /\ zW w wr /\ S.size <= m /\ S.size <= T.size /\ ks.length + m <= T.size /\ kidsL (rdG (n + 1)) T.size T.data.toList = (kidsL (rdG (n + 1)) m S.data.toList).map (ks ++ ·))) (fun tv _ _ => strSize tv)
 case atStart => exact ⟨T, none, 0, 0, rfl, rfl, [], T.size, GrowK.nil _ _ _, rfl, Below.refl _ _, Nat.le_refl _, Nat.le_refl _, by simp, (map_nil_app _).symm⟩
 case round =>
  obtain ⟨S, ao, l, cp, rfl, rfl, HR⟩ := hrel;obtain ⟨ks, m, hrG, hkl, hrB, hSm, hST, hrm, hrK⟩ := HR.out;have HK : Hid (GrowK wr w.heap.size n (zS ao l cp) ks /\ ks.length = l /\ zW w wr /\ kidsL (rdG (n + 1)) T.size T.data.toList = (kidsL (rdG (n + 1)) m S.data.toList).map (ks ++ ·)) := ⟨hrG, hkl, hrB, hrK⟩;clear HR hrG hkl hrB hrK;by_cases h0 : S.size = 0
  ·have hS0 := empty_of h0
   subst hS0;have HS : Hid (kidsL (rdG (n + 1)) T.size T.data.toList = some ks) := by
    show kidsL (rdG (n + 1)) T.size T.data.toList = some ks;rw [HK.2.2.2, show (⟨#[]⟩ : ByteArray).data.toList = [] from rfl, kidsL_end];simp
   have HO : Hid (∃ fp, OwnK wr w.heap.size (n + 1) (zS ao l cp) ks fp) := HK.1.own;go_wp2_with fail
   go_ret2
   obtain ⟨fp, hfp⟩ := HO.out;exact ⟨HK.2.2.1, .inr ⟨ks, ao, l, cp, fp, HS.out, rfl, hfp⟩⟩
  ·have hne : S.toList.isEmpty = false := not_empty (by omega)
   have hnl : S.data.toList ≠ [] := fun e => h0 (by have e2 : S.data.toList.length = S.size := rfl; rw [e] at e2; simpa using e2.symm)
   have E := FI.out S wr (by omega) (by omega);have HNL : Hid (S.data.toList ≠ []) := hnl;clear hnl;go_wp2_with fail;refine E.mono ?_;clear E;rintro e w3 ⟨hb3, hcase⟩
   rcases hcase with ⟨hnone, t3, s3, ax3, l3, cx3, s4, rfl⟩ | ⟨y, u, t3, s3, ax3, l3, cx3, fp3, hsome, rfl, hown⟩
   ·have HN : Hid (kidsL (rdG (n + 1)) T.size T.data.toList = none) := by
     show kidsL (rdG (n + 1)) T.size T.data.toList = none;rw [HK.2.2.2, kidsL_fail _ HNL.out hnone];rfl
    have HB : Hid (zW w (w3.alloc (Obj.cells #[Value.int IntKind.i64 t3, Value.string s3, Value.slice ax3 l3 cx3] 50))) := HK.2.2.1.trans ((hb3.alloc hb3.size _).mono HK.2.2.1.size);clear hnone hb3;go_wp2_with fail
    go_ret2
    exact ⟨HB.out, .inl ⟨HN.out, rfl⟩⟩
   ·obtain ⟨hu1, hu2, -⟩ := rdG_txt _ _ _ _ hsome
    have e2 : S.data.toList.length = S.size := rfl;rw [e2] at hu1;obtain ⟨ht3, hs3, ho3⟩ := hown;have hb34 : zW w3 (w3.alloc (Obj.cells #[Value.int IntKind.i64 t3, Value.string s3, Value.slice ax3 l3 cx3] 50)) := (Below.refl _ _).alloc (Nat.le_refl _) _;have H4 : Hid (zW wr (w3.alloc (Obj.cells #[Value.int IntKind.i64 t3, Value.string s3, Value.slice ax3 l3 cx3] 50)) /\ OwnK (w3.alloc (Obj.cells #[Value.int IntKind.i64 t3, Value.string s3, Value.slice ax3 l3 cx3] 50)) wr.heap.size n (zS ax3 l3 cx3) (It.kids y) fp3 /\ It.tag y = t3 /\ (⟨(It.text y).toArray⟩ : ByteArray) = s3) := ⟨hb3.alloc hb3.size _, ho3.below hb34 (fun b hm => (OwnK.lt ho3 b hm).2), ht3, hs3⟩;obtain ⟨m', rfl⟩ : ∃ m', m = m' + 1 := ⟨m - 1, by omega⟩;have HNX : Hid (kidsL (rdG (n + 1)) T.size T.data.toList = (kidsL (rdG (n + 1)) m' (S.extract u S.size).data.toList).map ((ks ++ [y]) ++ ·) /\ (S.extract u S.size).size <= m' /\ (S.extract u S.size).size < S.size) := by
     have es : (S.extract u S.size).size = S.size - u := by rw [ByteArray.size_extract]; omega
     refine ⟨?_, by omega, by omega⟩;rw [HK.2.2.2, kidsL_step _ HNL.out hsome, Option.map_map, ext_list, List.take_of_length_le (by rw [List.length_drop]; omega)]
     congr 1
     funext l
     simp
    clear hsome hb3 hb34 ho3 ht3 hs3 hu1 hu2;have HLN : Hid (ks.length <= 1000000000 /\ ks.length + 1 + m' <= T.size) := ⟨by omega, by omega⟩;go_wp2_with (at_builtin; refine wpList_append_item rfl _ _ rfl w.heap.size n (zS ao l cp) ks y t3 s3 (zS ax3 l3 cx3) fp3 H4.2.2.1 H4.2.2.2 rfl _ rfl (by simp) HK.1 H4.1 H4.2.1 HK.2.2.1.size HLN.1 ?_);intro g cap w6 hG6 hgrow6;have H6 : Hid (GrowK w6 w.heap.size n (zS (some ⟨g, 0, none⟩) (l + 1) cap) (ks ++ [y]) /\ zW w w6) := by
     have hb5 := H4.1.alloc H4.1.size (Obj.cells #[Value.int IntKind.i64 t3, Value.string s3, Value.slice ax3 l3 cx3] 50);have hkb := GrowK.lt HK.1;have hbw := HK.2.2.1.trans (hb5.mono HK.2.2.1.size);rw [HK.2.1] at hG6;exact ⟨hG6, hbw.grown hgrow6 (hbw.size) (fun q hq => (hkb q hq).1)⟩
    rw [HK.2.1];have HLK : Hid (ks.length = l) := HK.2.1;clear hG6 hgrow6 H4;go_wp2_with fail;refine ⟨⟨S.extract u S.size, some ⟨g, 0, none⟩, l + 1, cap, rfl, rfl, ks ++ [y], m', H6.1, by rw [List.length_append, List.length_singleton, HLK.out], H6.2, HNX.2.1, by have := HNX.2.2; omega, by rw [List.length_append, List.length_singleton]; exact HLN.2, HNX.1⟩, by have := HNX.2.2; show (S.extract u S.size).size < S.size; omega⟩
theorem reads_any : ∀ n, FiC n /\ KiC n
 | 0 => ⟨fun T w _ h => absurd h (Nat.not_lt_zero _), fun T w _ h => absurd h (Nat.not_lt_zero _)⟩
 | n + 1 => by
  have h := first_step n (reads_any n).2;exact ⟨h, kids_step n h⟩
theorem kidsL_sz {n : Nat} (rd : List UInt8 -> Option (It n × Nat)) (h : ∀ t x u, rd t = some (x, u) -> szI n x + 2 <= u /\ u <= t.length) : ∀ (m : Nat) (l : List UInt8) (ks : List (It n)), kidsL rd m l = some ks -> ks.length + (ks.map (szI n)).sum <= l.length
 | m, [], ks, hk => by rw [kidsL_end] at hk; injection hk with hk; subst hk; simp
 | 0, b :: l, ks, hk => by rw [kidsL_full _ (by simp)] at hk; cases hk
 | m + 1, b :: l, ks, hk => by
  cases hr : rd (b :: l) with
  | none => rw [kidsL_fail _ (by simp) hr] at hk; cases hk
  | some xu =>
   obtain ⟨x, u⟩ := xu;obtain ⟨h1, h2⟩ := h _ _ _ hr;rw [kidsL_step _ (by simp) hr] at hk
   cases hq : kidsL rd m ((b :: l).drop u) with
   | none => rw [hq] at hk; cases hk
   | some xs =>
    rw [hq] at hk;injection hk with hk
    subst hk;have h3 := kidsL_sz rd h m _ xs hq;rw [List.length_drop] at h3;rw [List.length_cons, List.map_cons, List.sum_cons];omega
theorem rdG_sz : ∀ (n : Nat) (t : List UInt8) (x : It n) (u : Nat), rdG n t = some (x, u) -> szI n x + 2 <= u /\ u <= t.length
 | 0, _, _, _, h => by simp [rdG] at h
 | n + 1, [], _, _, h => by simp [rdG] at h
 | n + 1, b :: r, x, u, h => by
  have hu := rdG_txt _ _ _ _ h;refine ⟨?_, hu.1⟩;rw [rdG_cons] at h
  split at h
  ·cases h
  ·next sz c hs =>
   have hp : 1 <= c := by have := (sizeG_some hs).2.1; have := lenB_pos sz; omega
   split at h
   ·cases h
   ·split at h
    ·simp only [Option.some.injEq, Prod.mk.injEq] at h
     obtain ⟨rfl, rfl⟩ := h;show ((r.drop c).take sz).length + ([] : List (It n)).length + (([] : List (It n)).map (szI n)).sum + 2 <= _;rw [List.length_take];simp only [List.length_nil, List.map_nil, List.sum_nil];omega
    ·split at h
     ·cases h
     ·next ks hk =>
      simp only [Option.some.injEq, Prod.mk.injEq] at h;obtain ⟨rfl, rfl⟩ := h;have h1 := kidsL_sz _ (rdG_sz n) _ _ _ hk;rw [List.length_take] at h1;show ([] : List UInt8).length + ks.length + (ks.map (szI n)).sum + 2 <= _;simp only [List.length_nil];omega
theorem rdI_sz : ∀ (n : Nat) (t : List UInt8) (x : It n) (u : Nat), rdI n t = some (x, u) -> szI n x + 2 <= u /\ u <= t.length
 | 0, _, _, _, h => by simp [rdI] at h
 | n + 1, [], _, _, h => by simp [rdI] at h
 | n + 1, b :: r, x, u, h => by
  have hu := rd_le h;refine ⟨?_, hu.1⟩;rw [rdI_cons] at h
  split at h
  ·cases h
  ·next sz c hs =>
   have hp := (sizeL_le hs).1
   split at h
   ·cases h
   ·split at h
    ·simp only [Option.some.injEq, Prod.mk.injEq] at h
     obtain ⟨rfl, rfl⟩ := h;show ((r.drop c).take sz).length + ([] : List (It n)).length + (([] : List (It n)).map (szI n)).sum + 2 <= _;rw [List.length_take];simp only [List.length_nil, List.map_nil, List.sum_nil];omega
    ·split at h
     ·cases h
     ·next ks hk =>
      simp only [Option.some.injEq, Prod.mk.injEq] at h;obtain ⟨rfl, rfl⟩ := h;have h1 := kidsL_sz _ (rdI_sz n) _ _ _ hk;rw [List.length_take] at h1;show ([] : List UInt8).length + ks.length + (ks.map (szI n)).sum + 2 <= _;simp only [List.length_nil];omega
theorem readG_no {n : Nat} {t : List UInt8} (hl : ¬ 4000 < t.length) (h : rdG n t = none) : readG n t = none := by unfold readG; rw [if_neg hl, h]
theorem readG_at {n : Nat} {t : List UInt8} {x : It n} {u : Nat} (hl : ¬ 4000 < t.length) (h : rdG n t = some (x, u)) : readG n t = if u = t.length /\ rightI n x 0 = true then some x else none := by unfold readG; rw [if_neg hl, h]
theorem readI_no {t : List UInt8} (hl : ¬ 4000 < t.length) (h : rdI 7 t = none) : Der.readI t = none := by unfold Der.readI; rw [if_neg hl, h]
theorem readI_at {t : List UInt8} {x : It 7} {u : Nat} (hl : ¬ 4000 < t.length) (h : rdI 7 t = some (x, u)) : Der.readI t = if u = t.length /\ rightI 7 x 0 = true /\ (txtI 7 x).length <= 4000 /\ txtI 7 x = t then some x else none := by unfold Der.readI; rw [if_neg hl, h]
def ReadPost (n : Nat) (o : Option (It (n + 1))) (w : World) (e : Ending) (w' : World) : Prop := zW w w' /\
 ((o = none /\ e = .returned (.tuple #[.agg #[zI 0, zG ⟨#[]⟩, zZ], .bool false])) ∨
 ∃ (x : It (n + 1)) (t : Int) (s : ByteArray) (ax : Option Addr) (l cx : Nat) (fp : List Nat), o = some x /\ e = .returned (.tuple #[.agg #[zI t, zG s, zS ax l cx], .bool true]) /\ szI (n + 1) x <= 4000 /\ It.tag x = t /\ (⟨(It.text x).toArray⟩ : ByteArray) = s /\ OwnK w' w.heap.size n (zS ax l cx) (It.kids x) fp)
theorem implRead_any (n : Nat) (hn : 4000 <= n) (T : ByteArray) (w : World) (hTT : T.size <= 1000000000000) : Calls Tryz.prog 67 #[zG T] w fun e w' => ReadPost n (readG (n + 1) T.data.toList) w e w' := by
 obtain ⟨⟨r0, r1, r2⟩, hbw⟩ := res_is w (zI 0) (zG ⟨#[]⟩) zZ 50;have HTL : Hid (T.data.toList.length = T.size) := rfl;by_cases hbig : 4000 < T.size
 ·have hbi : (4000 : Int) < (T.size : Int) := by omega
  go_enter Tryz.func67, Tryz.ntmps67;go_wp2_with fail;refine bodyPost_ret (v := .tuple #[.agg #[zI 0, zG ⟨#[]⟩, zZ], .bool false]) (by simp [results, Tryz.results67, go_sem, r0, r1, r2]; try rfl) rfl ?_;exact ⟨hbw, .inl ⟨by unfold readG; rw [if_pos (by rw [HTL.out]; exact hbig)], rfl⟩⟩
 have hbi : ¬ (4000 : Int) < (T.size : Int) := by omega
 obtain ⟨W1, hW1⟩ : ∃ W, W = w.alloc (Obj.cells #[Value.int IntKind.i64 0, Value.string { data := #[] }, Value.slice none 0 0] 50) := ⟨_, rfl⟩;have H1 : Hid (Blk3 W1 w.heap.size (zI 0) (zG ⟨#[]⟩) zZ /\ zW w W1) := by rw [hW1]; exact ⟨heap_alloc_new w _, hbw⟩
 have E := (reads_any (n + 1)).1 T W1 (by omega) (by omega);clear r0 r1 r2 hbw;go_enter Tryz.func67, Tryz.ntmps67;go_wp2_with fail;rw [<- hW1];clear hW1;refine E.mono ?_;clear E;rintro e w2 ⟨hb2, hcase⟩
 rcases hcase with ⟨hnone, t, s, ax, l, cx, s2, rfl⟩ | ⟨x, u, t, s, ax, l, cx, fp, hsome, rfl, hown⟩
 ·have HN : Hid (readG (n + 1) T.data.toList = none) := by exact readG_no (by rw [HTL.out]; exact hbig) hnone
  have hb3 := hb2.alloc hb2.size (Obj.cells #[Value.int IntKind.i64 t, Value.string s, Value.slice ax l cx] 50);have HB : Hid (zW w (w2.alloc (Obj.cells #[Value.int IntKind.i64 t, Value.string s, Value.slice ax l cx] 50))) := H1.2.trans (hb3.mono H1.2.size);obtain ⟨⟨r0, r1, r2⟩, rf⟩ := cell_in (H1.1.below hb3);clear hnone hb2 hb3;go_wp2_with fail;refine bodyPost_ret (v := .tuple #[.agg #[zI 0, zG ⟨#[]⟩, zZ], .bool false]) (by simp [results, Tryz.results67, go_sem, r0, r1, r2]; try rfl) rfl ?_;exact ⟨((HB.setCell (p := ⟨w.heap.size, 0, none⟩) (Nat.le_refl _) _).setCell (p := ⟨w.heap.size, 1, none⟩) (Nat.le_refl _) _).setCell (p := ⟨w.heap.size, 2, none⟩) (Nat.le_refl _) _, .inl ⟨HN.out, rfl⟩⟩
 obtain ⟨hz, hu⟩ := rdG_sz _ _ _ _ hsome;rw [HTL.out] at hu;obtain ⟨W3, hW3⟩ : ∃ W, W = w2.alloc (Obj.cells #[Value.int IntKind.i64 t, Value.string s, Value.slice ax l cx] 50) := ⟨_, rfl⟩;obtain ⟨gx, hgx⟩ := zE (w2.heap.size);have hb3 : zW w2 W3 := by rw [hW3]; exact (Below.refl _ _).alloc (Nat.le_refl _) _
 have hb13 : zW W1 W3 := hb2.trans (hb3.mono hb2.size);have HO := zH (zJ (by omega : szI (n + 1) x <= 4000) (zJ hown.1 (zJ hown.2.1 (hown.2.2.below hb3 (fun b hm => (OwnK.lt hown.2.2 b hm).2) : OwnK W3 W1.heap.size n (zS ax l cx) (It.kids x) fp))));have H3 : Hid (Blk3 W3 w.heap.size (zI 0) (zG ⟨#[]⟩) zZ /\ Blk3 W3 gx (zI t) (zG s) (zS ax l cx) /\ zW w W3) := by
  refine ⟨H1.1.below hb13, ?_, H1.2.trans (hb13.mono H1.2.size)⟩;rw [hW3, <- hgx];exact heap_alloc_new w2 _
 have HRS : Hid (readG (n + 1) T.data.toList = if u = T.size /\ rightI (n + 1) x 0 = true then some x else none) := by have h := readG_at (by rw [HTL.out]; exact hbig) hsome; rw [HTL.out] at h; exact h
 clear hown hsome hb2 hb3 hb13 hz;by_cases hue : u = T.size
 ·have hem : (T.extract u T.size).toList.isEmpty = true := by rw [toList_data, ext_list, hue, Nat.sub_self, List.take_zero]; rfl
  have EO := implItemOk_any (n + 1) x (.agg #[zI t, zG s, zS ax l cx]) W3 ⟨_, by rw [<- HO.2.1, <- HO.2.2.1], HO.2.2.2.at⟩ (by have := HO.1; omega);obtain ⟨bo, hbo⟩ := zE (rightI (n + 1) x 0);rw [hbo] at EO;have HBO : Hid (rightI (n + 1) x 0 = bo) := hbo;clear hbo;go_wp2_with fail;rw [<- hW3];clear hW3 hgx;refine EO.mono ?_;clear EO;rintro e w4 ⟨rfl, hb4⟩;obtain ⟨⟨r0, r1, r2⟩, rf⟩ := cell_in (H3.1.below hb4);obtain ⟨⟨x0, x1, x2⟩, xf⟩ := cell_in (H3.2.1.below hb4);have HB4 : Hid (zW w w4) := H3.2.2.trans (hb4.mono H3.2.2.size);replace HO : Hid (szI (n + 1) x <= 4000 /\ It.tag x = t /\ (⟨(It.text x).toArray⟩ : ByteArray) = s /\ OwnK w4 W1.heap.size n (zS ax l cx) (It.kids x) fp) := ⟨HO.1, HO.2.1, HO.2.2.1, HO.2.2.2.below hb4 (fun b hm => (OwnK.lt HO.2.2.2 b hm).2)⟩;clear hb4
  cases bo with
  | true =>
   go_wp2_with fail;refine bodyPost_ret (v := .tuple #[.agg #[zI t, zG s, zS ax l cx], .bool true]) (by simp [results, Tryz.results67, go_sem, r0, r1, r2]; try rfl) rfl ?_;refine ⟨((HB4.setCell (p := ⟨w.heap.size, 0, none⟩) (Nat.le_refl _) _).setCell (p := ⟨w.heap.size, 1, none⟩) (Nat.le_refl _) _).setCell (p := ⟨w.heap.size, 2, none⟩) (Nat.le_refl _) _, .inr ⟨x, t, s, ax, l, cx, fp, by rw [HRS.out, if_pos ⟨hue, HBO.out⟩], rfl, HO.1, HO.2.1, HO.2.2.1, ?_⟩⟩;refine OwnK.base (base := W1.heap.size) (by have := H1.1.lt; omega) (HO.2.2.2.same fun y hy => ?_);have h1 := (OwnK.lt HO.2.2.2 y hy).1;have h2 := H1.1.lt;rw [heap_setCell_other _ _ _ _ (by show y ≠ w.heap.size; omega), heap_setCell_other _ _ _ _ (by show y ≠ w.heap.size; omega), heap_setCell_other _ _ _ _ (by show y ≠ w.heap.size; omega)]
  | false =>
   go_wp2_with fail;refine bodyPost_ret (v := .tuple #[.agg #[zI 0, zG ⟨#[]⟩, zZ], .bool false]) (by simp [results, Tryz.results67, go_sem, r0, r1, r2]; try rfl) rfl ?_;exact ⟨((HB4.setCell (p := ⟨w.heap.size, 0, none⟩) (Nat.le_refl _) _).setCell (p := ⟨w.heap.size, 1, none⟩) (Nat.le_refl _) _).setCell (p := ⟨w.heap.size, 2, none⟩) (Nat.le_refl _) _, .inl ⟨by rw [HRS.out, if_neg (fun h => by rw [HBO.out] at h; cases h.2)], rfl⟩⟩
 ·have hem : (T.extract u T.size).toList.isEmpty = false := not_empty (by rw [ByteArray.size_extract]; omega)
  obtain ⟨⟨r0, r1, r2⟩, rf⟩ := cell_in H3.1;rw [hW3] at r0 r1 r2 rf;have HB : Hid (zW w (w2.alloc (Obj.cells #[Value.int IntKind.i64 t, Value.string s, Value.slice ax l cx] 50))) := by have := H3.2.2; rw [hW3] at this; exact this
  clear hW3 hgx;go_wp2_with fail;refine bodyPost_ret (v := .tuple #[.agg #[zI 0, zG ⟨#[]⟩, zZ], .bool false]) (by simp [results, Tryz.results67, go_sem, r0, r1, r2]; try rfl) rfl ?_;exact ⟨((HB.setCell (p := ⟨w.heap.size, 0, none⟩) (Nat.le_refl _) _).setCell (p := ⟨w.heap.size, 1, none⟩) (Nat.le_refl _) _).setCell (p := ⟨w.heap.size, 2, none⟩) (Nat.le_refl _) _, .inl ⟨by rw [HRS.out, if_neg (fun h => hue h.1)], rfl⟩⟩
theorem specRead_any (T : ByteArray) (w : World) (hTT : T.size <= 1000000000000) : Calls Tryz.prog 35 #[zG T] w fun e w' => ReadPost 6 (Der.readI T.data.toList) w e w' := by
 obtain ⟨⟨r0, r1, r2⟩, hbw⟩ := res_is w (zI 0) (zG ⟨#[]⟩) zZ 50;have HTL : Hid (T.data.toList.length = T.size) := rfl;by_cases hbig : 4000 < T.size
 ·have hbi : (4000 : Int) < (T.size : Int) := by omega
  go_enter Tryz.func35, Tryz.ntmps35;go_wp2_with fail;refine bodyPost_ret (v := .tuple #[.agg #[zI 0, zG ⟨#[]⟩, zZ], .bool false]) (by simp [results, Tryz.results35, go_sem, r0, r1, r2]; try rfl) rfl ?_;exact ⟨hbw, .inl ⟨by unfold Der.readI; rw [if_pos (by rw [HTL.out]; exact hbig)], rfl⟩⟩
 have hbi : ¬ (4000 : Int) < (T.size : Int) := by omega
 obtain ⟨W1, hW1⟩ : ∃ W, W = w.alloc (Obj.cells #[Value.int IntKind.i64 0, Value.string { data := #[] }, Value.slice none 0 0] 50) := ⟨_, rfl⟩;have H1 : Hid (Blk3 W1 w.heap.size (zI 0) (zG ⟨#[]⟩) zZ /\ zW w W1) := by rw [hW1]; exact ⟨heap_alloc_new w _, hbw⟩
 have E : Calls Tryz.prog 78 #[zG T, zI 0, zI 0] W1 fun e w' => InPost 7 T 0 W1 e w' := read_any 7 (Nat.le_refl _) T 0 W1 (by omega) (Nat.zero_le _)
 clear r0 r1 r2 hbw;go_enter Tryz.func35, Tryz.ntmps35;go_wp2_with fail;rw [<- hW1];clear hW1;refine E.mono ?_;clear E;rintro e w2 ⟨hb2, hcase⟩;rw [List.drop_zero] at hcase
 rcases hcase with ⟨hnone, rfl⟩ | ⟨x, u, t, s, ax, l, cx, fp, hsome, rfl, hown⟩
 ·have HN : Hid (Der.readI T.data.toList = none) := readI_no (by rw [HTL.out]; exact hbig) hnone
  obtain ⟨W3, hW3⟩ : ∃ W, W = w2.alloc (Obj.cells #[Value.int IntKind.i64 0, Value.string { data := #[] }, Value.slice none 0 0] 50) := ⟨_, rfl⟩;have hb3 : zW W1 W3 := by rw [hW3]; exact hb2.alloc hb2.size _
  have HB : Hid (zW w W3) := H1.2.trans (hb3.mono H1.2.size);have EW := specItemText_any 1 (It.mk 0 [] ([] : List (It 0))) (.agg #[zI 0, zG ⟨#[]⟩, zZ]) W3 ⟨_, rfl, (own_nil W3 0 0).at⟩ (by decide);have hwn : writeI 1 (It.mk 0 [] ([] : List (It 0))) = none := by decide
  rw [hwn] at EW;have H3 : Hid (Blk3 W3 w.heap.size (zI 0) (zG ⟨#[]⟩) zZ) := H1.1.below hb3;clear hnone hb2 hb3 hwn;go_wp2_with fail;rw [<- hW3];clear hW3;refine EW.mono ?_;clear EW;rintro e w4 ⟨rfl, hb4⟩;obtain ⟨⟨r0, r1, r2⟩, rf⟩ := cell_in (H3.below hb4);replace HB : Hid (zW w w4) := HB.trans (hb4.mono HB.size);clear hb4;go_wp2_with fail;refine bodyPost_ret (v := .tuple #[.agg #[zI 0, zG ⟨#[]⟩, zZ], .bool false]) (by simp [results, Tryz.results35, go_sem, r0, r1, r2]; try rfl) rfl ?_;exact ⟨((HB.setCell (p := ⟨w.heap.size, 0, none⟩) (Nat.le_refl _) _).setCell (p := ⟨w.heap.size, 1, none⟩) (Nat.le_refl _) _).setCell (p := ⟨w.heap.size, 2, none⟩) (Nat.le_refl _) _, .inl ⟨HN.out, rfl⟩⟩
 obtain ⟨hz, hu⟩ := rdI_sz _ _ _ _ hsome;rw [HTL.out] at hu;rw [Nat.zero_add];obtain ⟨W3, hW3⟩ : ∃ W, W = w2.alloc (Obj.cells #[Value.int IntKind.i64 t, Value.string s, Value.slice ax l cx] 50) := ⟨_, rfl⟩;obtain ⟨gx, hgx⟩ := zE (w2.heap.size);have hb3 : zW w2 W3 := by rw [hW3]; exact (Below.refl _ _).alloc (Nat.le_refl _) _
 have hb13 : zW W1 W3 := hb2.trans (hb3.mono hb2.size);have HO := zH (zJ (by show szI 7 x <= 4000; omega : szI (6 + 1) x <= 4000) (zJ hown.1 (zJ hown.2.1 (hown.2.2.below hb3 (fun b hm => (OwnK.lt hown.2.2 b hm).2) : OwnK W3 W1.heap.size 6 (zS ax l cx) (It.kids x) fp))));have H3 : Hid (Blk3 W3 w.heap.size (zI 0) (zG ⟨#[]⟩) zZ /\ Blk3 W3 gx (zI t) (zG s) (zS ax l cx) /\ zW w W3) := by
  refine ⟨H1.1.below hb13, ?_, H1.2.trans (hb13.mono H1.2.size)⟩;rw [hW3, <- hgx];exact heap_alloc_new w2 _
 have HRS : Hid (Der.readI T.data.toList = if u = T.size /\ rightI 7 x 0 = true /\ (txtI 7 x).length <= 4000 /\ txtI 7 x = T.data.toList then some x else none) := by have h := readI_at (by rw [HTL.out]; exact hbig) hsome; rw [HTL.out] at h; exact h
 clear hown hsome hb2 hb3 hb13 hz;have EW := specItemText_any 7 x (.agg #[zI t, zG s, zS ax l cx]) W3 ⟨_, by rw [<- HO.2.1, <- HO.2.2.1], HO.2.2.2.at⟩ (by have h : szI 7 x <= 4000 := HO.1; omega);obtain ⟨wo, hwo⟩ := zE (writeI 7 x);rw [hwo] at EW;have HWO : Hid (writeI 7 x = wo) := hwo;clear hwo;obtain ⟨A, hA⟩ : ∃ A : ByteArray, (⟨(wo.getD []).toArray⟩ : ByteArray) = A := ⟨_, rfl⟩;have HA : Hid (A.data.toList = wo.getD []) := by show A.data.toList = wo.getD []; rw [<- hA]
 obtain ⟨bo, hbo⟩ := zE (wo.isSome);have HBO : Hid (wo.isSome = bo) := hbo;rw [hA, hbo] at EW;clear hA hbo;go_wp2_with fail;rw [<- hW3];clear hW3 hgx;refine EW.mono ?_;clear EW;rintro e w4 ⟨rfl, hb4⟩;obtain ⟨⟨r0, r1, r2⟩, rf⟩ := cell_in (H3.1.below hb4);obtain ⟨⟨x0, x1, x2⟩, xf⟩ := cell_in (H3.2.1.below hb4);have HB4 : Hid (zW w w4) := H3.2.2.trans (hb4.mono H3.2.2.size);replace HO : Hid (szI (6 + 1) x <= 4000 /\ It.tag x = t /\ (⟨(It.text x).toArray⟩ : ByteArray) = s /\ OwnK w4 W1.heap.size 6 (zS ax l cx) (It.kids x) fp) := ⟨HO.1, HO.2.1, HO.2.2.1, HO.2.2.2.below hb4 (fun b hm => (OwnK.lt HO.2.2.2 b hm).2)⟩;clear hb4;by_cases hue : u = T.size
 ·have huei : (u : Int) = (T.size : Int) := by omega
  cases bo with
  | false =>
   have HN : Hid (Der.readI T.data.toList = none) := by
    show Der.readI T.data.toList = none;rw [HRS.out, if_neg];rintro ⟨_, h2, h3, _⟩;have h4 := HWO.out;unfold writeI at h4;rw [if_pos ⟨h2, h3⟩] at h4;have h5 := HBO.out;rw [<- h4] at h5
    cases h5
   go_wp2_with fail;refine bodyPost_ret (v := .tuple #[.agg #[zI 0, zG ⟨#[]⟩, zZ], .bool false]) (by simp [results, Tryz.results35, go_sem, r0, r1, r2]; try rfl) rfl ?_;exact ⟨((HB4.setCell (p := ⟨w.heap.size, 0, none⟩) (Nat.le_refl _) _).setCell (p := ⟨w.heap.size, 1, none⟩) (Nat.le_refl _) _).setCell (p := ⟨w.heap.size, 2, none⟩) (Nat.le_refl _) _, .inl ⟨HN.out, rfl⟩⟩
  | true =>
   obtain ⟨tt, htt⟩ : ∃ tt, wo = some tt := Option.isSome_iff_exists.1 HBO.out;have hw := HWO.out;rw [htt] at hw;obtain ⟨g1, g2, g3⟩ := write_some hw;have hAt := HA.out;rw [htt] at hAt;change A.data.toList = tt at hAt;by_cases hc : A.data.toList = T.data.toList
   ·have hcm : (A.toList == T.toList) = true := by rw [toList_data, toList_data, hc]; simp
    have HY : Hid (Der.readI T.data.toList = some x) := by
     show Der.readI T.data.toList = some x;rw [HRS.out, if_pos ⟨hue, g1, by rw [g3]; exact g2, by rw [g3, <- hAt]; exact hc⟩]
    clear htt hw g1 g2 g3 hAt hc;go_wp2_with fail;refine bodyPost_ret (v := .tuple #[.agg #[zI t, zG s, zS ax l cx], .bool true]) (by simp [results, Tryz.results35, go_sem, r0, r1, r2]; try rfl) rfl ?_;refine ⟨((HB4.setCell (p := ⟨w.heap.size, 0, none⟩) (Nat.le_refl _) _).setCell (p := ⟨w.heap.size, 1, none⟩) (Nat.le_refl _) _).setCell (p := ⟨w.heap.size, 2, none⟩) (Nat.le_refl _) _, .inr ⟨x, t, s, ax, l, cx, fp, HY.out, rfl, HO.1, HO.2.1, HO.2.2.1, ?_⟩⟩;refine OwnK.base (base := W1.heap.size) (by have := H1.1.lt; omega) (HO.2.2.2.same fun y hy => ?_);have h1 := (OwnK.lt HO.2.2.2 y hy).1;have h2 := H1.1.lt;rw [heap_setCell_other _ _ _ _ (by show y ≠ w.heap.size; omega), heap_setCell_other _ _ _ _ (by show y ≠ w.heap.size; omega), heap_setCell_other _ _ _ _ (by show y ≠ w.heap.size; omega)]
   ·have hcm : (A.toList == T.toList) = false := by rw [toList_data, toList_data]; exact beq_eq_false_iff_ne.2 hc
    have HN : Hid (Der.readI T.data.toList = none) := by
     show Der.readI T.data.toList = none;rw [HRS.out, if_neg];rintro ⟨_, _, _, h4⟩;exact hc (by rw [hAt, <- g3, h4])
    clear htt hw g1 g2 g3 hAt hc;go_wp2_with fail;refine bodyPost_ret (v := .tuple #[.agg #[zI 0, zG ⟨#[]⟩, zZ], .bool false]) (by simp [results, Tryz.results35, go_sem, r0, r1, r2]; try rfl) rfl ?_;exact ⟨((HB4.setCell (p := ⟨w.heap.size, 0, none⟩) (Nat.le_refl _) _).setCell (p := ⟨w.heap.size, 1, none⟩) (Nat.le_refl _) _).setCell (p := ⟨w.heap.size, 2, none⟩) (Nat.le_refl _) _, .inl ⟨HN.out, rfl⟩⟩
 ·have huei : ¬ (u : Int) = (T.size : Int) := by omega
  have HN : Hid (Der.readI T.data.toList = none) := by
   show Der.readI T.data.toList = none;rw [HRS.out, if_neg (fun h => hue h.1)]
  go_wp2_with fail;refine bodyPost_ret (v := .tuple #[.agg #[zI 0, zG ⟨#[]⟩, zZ], .bool false]) (by simp [results, Tryz.results35, go_sem, r0, r1, r2]; try rfl) rfl ?_;exact ⟨((HB4.setCell (p := ⟨w.heap.size, 0, none⟩) (Nat.le_refl _) _).setCell (p := ⟨w.heap.size, 1, none⟩) (Nat.le_refl _) _).setCell (p := ⟨w.heap.size, 2, none⟩) (Nat.le_refl _) _, .inl ⟨HN.out, rfl⟩⟩
end Go.Proofs.YtcbjlbpkoneibaaGreatDoor
