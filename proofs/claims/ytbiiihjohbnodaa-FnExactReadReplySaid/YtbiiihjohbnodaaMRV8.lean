/-
  Texts of the proof.
-/
import Derived.Deep.RegionLaw
import Derived.WalkKit
import Derived.Laws.RangeString
import Derived.Laws.RangeAny
import Derived.Test.YtbiiihjohbnodaaMRV3
import Derived.Test.YtbiiihjohbnodaaMRV7
set_option maxRecDepth 100000
namespace Go.Proofs.Ytbiiihjohbnodaa
open Go.RowKit Der
set_option linter.unusedVariables false
def Blk3 (w : World) (g : Nat) (a b c : Value) : Prop := w.heap[g]? = some (.cells #[a, b, c] 67 (0, 0))
theorem Blk3.lt {w : World} {g : Nat} {a b c : Value} (h : Blk3 w g a b c) : g < w.heap.size := by
 rcases Nat.lt_or_ge g w.heap.size with h' | h'
 ·exact h'
 ·unfold Blk3 at h; rw [Array.getElem?_eq_none h'] at h; cases h
theorem Blk3.below {w w' : World} {g : Nat} {a b c : Value} (h : Blk3 w g a b c) (hb : Below w.heap.size w w') : Blk3 w' g a b c := (hb.block g h.lt).trans h
theorem Blk3.grown {w w' : World} {g : Nat} {a b c : Value} {row : Option Nat} (h : Blk3 w g a b c) (hg : w.grownBy w' row) (hne : some g ≠ row) : Blk3 w' g a b c := (hg.block g h.lt hne).trans h
theorem Blk3.other {w : World} {g : Nat} {a b c : Value} (h : Blk3 w g a b c) {p : Addr} (hne : g ≠ p.block) (v : Value) : Blk3 (w.setCell p v) g a b c := (heap_setCell_other _ _ _ _ hne).trans h
theorem Blk3.set {w : World} {g : Nat} {a b c : Value} (h : Blk3 w g a b c) (v : Value) : Blk3 (w.setCell ⟨g, 2, none⟩ v) g a b v := by
 unfold Blk3 at h |-
 rw [heap_setCell_same w g 2 _ _ _ h]
 rfl
theorem two_blk (w : World) (p q r : Value) (x y z : Value) : ∀ W, W = (w.alloc (Obj.cells #[p, q, r] 67)).alloc (Obj.cells #[x, y, z] 67) -> Below w.heap.size w W /\ W.heap.size = w.heap.size + 2 /\ Blk3 W w.heap.size p q r /\ Blk3 W (w.heap.size + 1) x y z := by
 rintro W rfl
 have e : (w.alloc (Obj.cells #[p, q, r] 67)).heap.size = w.heap.size + 1 := Array.size_push _
 refine ⟨((Below.refl _ _).alloc (Nat.le_refl _) _).alloc (by rw [e]; omega) _, ?_, ?_, ?_⟩
 ·rw [show ((w.alloc (Obj.cells #[p, q, r] 67)).alloc (Obj.cells #[x, y, z] 67)).heap.size = (w.alloc (Obj.cells #[p, q, r] 67)).heap.size + 1 from Array.size_push _, e]
 ·show ((w.heap.push (Obj.cells #[p, q, r] 67)).push (Obj.cells #[x, y, z] 67))[w.heap.size]? = _
  rw [Array.getElem?_push, if_neg (by rw [Array.size_push]; omega), Array.getElem?_push, if_pos rfl]
 ·have h := heap_alloc_new (w.alloc (Obj.cells #[p, q, r] 67)) (Obj.cells #[x, y, z] 67)
  rw [e] at h
  exact h
theorem GrowK.out {w w' : World} {base n : Nat} {v : Value} {ks : List (It (n + 1))} (h : GrowK w base n v ks) (he : ∀ b, base <= b -> w'.heap[b]? = w.heap[b]?) : GrowK w' base n v ks := by
 obtain ⟨kvs, fps, h1, h2, ho, h3, h4, h5⟩ := h
 refine ⟨kvs, fps, h1, h2, ⟨ho.1, ?_⟩, h3, h4, fun j a b c => ?_⟩
 ·rcases ho.2 with hn | ⟨g, cap, cur, hv, hb, hg, rest⟩
  ·exact .inl hn
  ·exact .inr ⟨g, cap, cur, hv, hb, by rw [he g hb]; exact hg, rest⟩
 ·have := h5 j a b c
  exact this.same fun x hx => he x (OwnK.lt this x hx).1
def intI {n : Nat} (x : Int) : It (n + 1) := It.mk 2 (intT (numN x)) []
def bytJ {n : Nat} (s : ByteArray) : It (n + 1) := It.mk 4 s.data.toList []
def lstJ {n : Nat} (ks : List (It n)) : It (n + 1) := It.mk 48 [] ks
theorem bytes_any (s : ByteArray) (w : World) : Calls Try.prog 66 #[.string s] w fun e w' => e = .returned (.agg #[.int .i64 4, .string s, .slice none 0 0]) /\ Below w.heap.size w w' := by
 go_enter Try.func66, Try.ntmps66
 go_wp2_with fail
 refine bodyPost_ret (v := .agg #[.int .i64 4, .string s, .slice none 0 0]) (by simp [results, Try.results66, go_sem]; try rfl) rfl ⟨rfl, ?_⟩
 exact (Below.refl _ _).alloc (Nat.le_refl _) _
theorem own_none (w : World) (base : Nat) : ∀ n, OwnK w base n (.slice none 0 0) [] []
 | 0 => ⟨⟨none, 0, rfl⟩, rfl⟩
 | _ + 1 => ⟨none, 0, rfl, fun _ => rfl, fun h => absurd h (Nat.lt_irrefl _)⟩
theorem both_below {wr w3 : World} {g h o : Nat} {kv t : Value} (hc : wr.cell? ⟨g, 2, none⟩ = some kv /\ wr.cell? ⟨h, o, none⟩ = some t) (hg : g < wr.heap.size) (hh : h < wr.heap.size) (hb : Below wr.heap.size wr w3) : w3.cell? ⟨g, 2, none⟩ = some kv /\ w3.cell? ⟨h, o, none⟩ = some t :=
 ⟨(hb.cell (p := ⟨g, 2, none⟩) hg).trans hc.1, (hb.cell (p := ⟨h, o, none⟩) hh).trans hc.2⟩
theorem both_grown {w5 w6 : World} {g h o : Nat} {kv t : Value} {row : Option Nat} (hc : w5.cell? ⟨g, 2, none⟩ = some kv /\ w5.cell? ⟨h, o, none⟩ = some t) (hg : w5.grownBy w6 row) (n1 : some g ≠ row) (n2 : some h ≠ row) : w6.cell? ⟨g, 2, none⟩ = some kv /\ w6.cell? ⟨h, o, none⟩ = some t :=
 ⟨hg.cell hc.1 n1, hg.cell hc.2 n2⟩
end Go.Proofs.Ytbiiihjohbnodaa
namespace Go.Proofs.Ytbiiihjohbnodaa.Der
def sizeG : List UInt8 -> Option (Nat × Nat)
 | [] => none
 | b :: r => if b.toNat < 128 then some (b.toNat, 1) else if 2 < b.toNat - 128 ∨ r.length < b.toNat - 128 then none
   else if lenB (valB8 (r.take (b.toNat - 128))) = (b :: r).take (1 + (b.toNat - 128)) then some (valB8 (r.take (b.toNat - 128)), 1 + (b.toNat - 128)) else none
def rdG : (n : Nat) -> List UInt8 -> Option (It n × Nat)
 | 0, _ => none
 | _ + 1, [] => none
 | n + 1, b :: r => match sizeG r with
  | none => none
  | some (sz, c) => if (r.drop c).length < sz then none
   else if b.toNat ≠ 48 then some (It.mk (b.toNat : Int) ((r.drop c).take sz) [], 1 + c + sz)
   else match kidsL (rdG n) ((r.drop c).take sz).length ((r.drop c).take sz) with
    | none => none
    | some ks => some (It.mk (b.toNat : Int) [] ks, 1 + c + sz)
theorem valB8_lt256 : ∀ (k : Nat) (s : List UInt8), s.length = k -> valB8 s < 256 ^ k := by
 intro k
 induction k with
 | zero => intro s hl; obtain rfl : s = [] := List.eq_nil_of_length_eq_zero hl; simp [valB8]
 | succ k ih =>
  intro s hl
  have hne : s ≠ [] := fun e => by subst e; simp at hl
  obtain ⟨l, b, rfl⟩ : ∃ l b, s = l ++ [b] := ⟨s.dropLast, s.getLast hne, (List.dropLast_concat_getLast _).symm⟩
  rw [valB8_snoc]
  have h1 := ih l (by simpa using hl)
  have h2 := b.toNat_lt
  rw [Nat.pow_succ]
  omega
theorem sizeG_cons (b : UInt8) (r : List UInt8) : sizeG (b :: r) = if b.toNat < 128 then some (b.toNat, 1) else if 2 < b.toNat - 128 ∨ r.length < b.toNat - 128 then none
   else if lenB (valB8 (r.take (b.toNat - 128))) = (b :: r).take (1 + (b.toNat - 128)) then some (valB8 (r.take (b.toNat - 128)), 1 + (b.toNat - 128)) else none := rfl
theorem sizeG_some {l : List UInt8} {z c : Nat} (h : sizeG l = some (z, c)) : l.take c = lenB z /\ c = (lenB z).length /\ c <= l.length /\ z < 65536 := by
 cases l with
 | nil => simp [sizeG] at h
 | cons b r =>
  rw [sizeG_cons] at h
  split at h
  ·next hb =>
   simp only [Option.some.injEq, Prod.mk.injEq] at h
   obtain ⟨rfl, rfl⟩ := h
   have e : lenB b.toNat = [b] := by
    unfold lenB
    rw [if_pos hb]
    simp
   rw [e]
   exact ⟨by simp, rfl, by simp, by omega⟩
  ·split at h
   ·simp at h
   ·next hn =>
    split at h
    ·next he =>
     simp only [Option.some.injEq, Prod.mk.injEq] at h
     obtain ⟨rfl, rfl⟩ := h
     refine ⟨he.symm, ?_, by simp; omega, ?_⟩
     ·rw [he]; simp; omega
     ·have h1 := valB8_lt256 _ (r.take (b.toNat - 128)) rfl
      have h2 : (r.take (b.toNat - 128)).length <= 2 := by simp; omega
      have h3 : 256 ^ (r.take (b.toNat - 128)).length <= 256 ^ 2 := Nat.pow_le_pow_right (by decide) h2
      omega
    ·simp at h
theorem sizeG_len {n : Nat} (h : n < 65536) (r : List UInt8) : sizeG (lenB n ++ r) = some (n, (lenB n).length) := by
 have e0 : lenB n = if n < 128 then [UInt8.ofNat n] else UInt8.ofNat (128 + (beN 9 n).length) :: beN 9 n := rfl
 by_cases h1 : n < 128
 ·rw [if_pos h1] at e0
  have e : (UInt8.ofNat n).toNat = n := by rw [UInt8.toNat_ofNat']; omega
  rw [e0]
  simp [sizeG, e, h1]
 ·rw [if_neg h1] at e0
  have hl := beN_len2 (by omega) h
  obtain ⟨k, hk⟩ := zE ((beN 9 n).length)
  have e : (UInt8.ofNat (128 + k)).toNat = 128 + k := by rw [UInt8.toNat_ofNat']; omega
  rw [hk] at hl e0
  have hv : valB8 (beN 9 n) = n := beN_val 9 n (by omega)
  have ht : (beN 9 n ++ r).take k = beN 9 n := by rw [<- hk]; simp
  have hE : sizeG (UInt8.ofNat (128 + k) :: (beN 9 n ++ r)) = some (n, 1 + k) := by
   rw [sizeG_cons]
   simp only [e]
   rw [if_neg (by omega), show 128 + k - 128 = k by omega, if_neg (by rw [List.length_append, hk]; omega), ht, hv, if_pos]
   rw [e0, show 1 + k = k + 1 by omega, List.take_succ_cons, ht]
  rw [e0, List.cons_append, hE, List.length_cons, hk, Nat.add_comm]
theorem kids_flat {n : Nat} (ih : ∀ t x u, rdG n t = some (x, u) -> u <= t.length /\ 2 <= u /\ txtI n x = t.take u) : ∀ (m : Nat) (l : List UInt8) (ks : List (It n)), kidsL (rdG n) m l = some ks -> (ks.map (txtI n)).flatten = l
 | m, [], ks, h => by cases m <;> (simp only [kidsL, Option.some.injEq] at h; subst h; rfl)
 | 0, _ :: _, ks, h => by simp [kidsL] at h
 | m + 1, b :: l, ks, h => by
  unfold kidsL at h
  split at h
  ·simp at h
  ·next x u hx =>
   split at h
   ·simp at h
   ·next xs hxs =>
    simp only [Option.some.injEq] at h
    subst h
    obtain ⟨_, _, h3⟩ := ih _ _ _ hx
    rw [List.map_cons, List.flatten_cons, kids_flat ih m _ xs hxs, h3, List.take_append_drop]
theorem byte_back (b : UInt8) : UInt8.ofNat ((b.toNat : Int) % 256).toNat = b := by
 have h := b.toNat_lt
 have e : ((b.toNat : Int) % 256).toNat = b.toNat := by omega
 rw [e]
 simp
theorem txt_mk {n : Nat} (t : Int) (s : List UInt8) (ks : List (It n)) : txtI (n + 1) (It.mk t s ks) = UInt8.ofNat (t % 256).toNat :: (lenB (if t = 48 then s ++ (ks.map (txtI n)).flatten else s).length ++ (if t = 48 then s ++ (ks.map (txtI n)).flatten else s)) := rfl
theorem rdG_txt : ∀ (n : Nat) (t : List UInt8) (x : It n) (u : Nat), rdG n t = some (x, u) -> u <= t.length /\ 2 <= u /\ txtI n x = t.take u
 | 0, t, x, u, h => by simp [rdG] at h
 | n + 1, [], x, u, h => by simp [rdG] at h
 | n + 1, b :: r, x, u, h => by
  unfold rdG at h
  split at h
  ·simp at h
  ·next sz c hs =>
   obtain ⟨h1, h2, h3, h4⟩ := sizeG_some hs
   have hp := lenB_pos sz
   split at h
   ·simp at h
   ·next hn =>
    have hle : sz <= (r.drop c).length := by omega
    have hlr : (r.drop c).length = r.length - c := List.length_drop
    have hlt : ((r.drop c).take sz).length = sz := by rw [List.length_take]; omega
    have htk : (b :: r).take (1 + c + sz) = b :: (r.take c ++ (r.drop c).take sz) := by
     rw [show 1 + c + sz = (c + sz) + 1 by omega, List.take_succ_cons, List.take_add]
    split at h
    ·next hb =>
     simp only [Option.some.injEq, Prod.mk.injEq] at h
     obtain ⟨rfl, rfl⟩ := h
     refine ⟨by simp only [List.length_cons]; omega, by omega, ?_⟩
     rw [txt_mk, if_neg (show ¬ (b.toNat : Int) = 48 by omega), byte_back, hlt, htk, h1]
    ·next hb =>
     split at h
     ·simp at h
     ·next ks hk =>
      simp only [Option.some.injEq, Prod.mk.injEq] at h
      obtain ⟨rfl, rfl⟩ := h
      refine ⟨by simp only [List.length_cons]; omega, by omega, ?_⟩
      have hf := kids_flat (rdG_txt n) _ _ ks hk
      rw [txt_mk, if_pos (show (b.toNat : Int) = 48 by omega), byte_back, hf, List.nil_append, hlt, htk, h1]
theorem flat_ge {n : Nat} : ∀ (ks : List (It n)), (∀ x ∈ ks, 0 < (txtI n x).length) -> ks.length <= ((ks.map (txtI n)).flatten).length
 | [], _ => Nat.zero_le _
 | x :: ks, h => by
  have h1 := h x (by simp)
  have h2 := flat_ge ks (fun y hy => h y (by simp [hy]))
  rw [List.map_cons, List.flatten_cons, List.length_append, List.length_cons]
  omega
theorem rdG_back : ∀ (m : Nat) (y : It m) (d n : Nat), m <= n -> rightI m y d = true -> (txtI m y).length < 65536 -> ∀ r, ∃ x : It n, sameI m n y x = true /\ rdG n (txtI m y ++ r) = some (x, (txtI m y).length)
 | 0, y, _, _, _, h, _, _ => by simp [rightI] at h
 | m + 1, y, d, 0, hn, _, _, _ => by omega
 | m + 1, y, d, n + 1, hn, h, hl, r => by
  obtain ⟨t, s, ks⟩ : Int × List UInt8 × List (It m) := y
  change rightI (m + 1) (It.mk t s ks) d = true at h
  change (txtI (m + 1) (It.mk t s ks)).length < 65536 at hl
  show ∃ x : It (n + 1), sameI (m + 1) (n + 1) (It.mk t s ks) x = true /\ rdG (n + 1) (txtI (m + 1) (It.mk t s ks) ++ r) = some (x, (txtI (m + 1) (It.mk t s ks)).length)
  unfold rightI at h
  simp only [It.tag_mk, It.text_mk, It.kids_mk] at h
  unfold txtI at hl |-
  simp only [It.tag_mk, It.text_mk, It.kids_mk] at hl |-
  by_cases h48 : t = 48
  ·subst h48
   simp only [ne_eq, not_true_eq_false, if_false, if_true, Bool.and_eq_true, List.all_eq_true] at h hl |-
   obtain ⟨⟨⟨hs, hk⟩, hd6⟩, hall⟩ := h
   replace hs := of_decide_eq_true hs
   obtain rfl : s = [] := List.eq_nil_of_length_eq_zero hs
   rw [List.nil_append] at hl |-
   have hb : ((ks.map (txtI m)).flatten).length < 65536 := by
    simp only [List.length_cons, List.length_append] at hl
    omega
   have hpos : ∀ x ∈ ks, 0 < (txtI m x).length := fun x hx => by
    have hr := hall x hx
    cases m with
    | zero => simp [rightI] at hr
    | succ m => exact txtI_pos x
   obtain ⟨ys, hy1, hy2, hy3⟩ := kids_back (rdG n) (txtI m) (fun x y => sameI m n x y = true) ks ((ks.map (txtI m)).flatten).length (flat_ge ks hpos) (fun x hx => ⟨hpos x hx, fun r => by
    have hxl := flat_len (txtI m) ks x hx
    exact rdG_back m x (d + 1) n (by omega) (hall x hx) (by omega) r⟩)
   refine ⟨It.mk 48 [] ys, ?_, ?_⟩
   ·unfold sameI
    simp only [It.tag_mk, It.text_mk, It.kids_mk, hy1, decide_true, Bool.true_and]
    exact List.all_eq_true.2 hy2
   ·rw [List.cons_append, List.append_assoc]
    unfold rdG
    rw [sizeG_len hb]
    simp only
    rw [show (lenB ((ks.map (txtI m)).flatten).length ++ ((ks.map (txtI m)).flatten ++ r)).drop (lenB ((ks.map (txtI m)).flatten).length).length = (ks.map (txtI m)).flatten ++ r by simp]
    rw [if_neg (by rw [List.length_append]; omega), if_neg (by decide)]
    rw [show ((ks.map (txtI m)).flatten ++ r).take ((ks.map (txtI m)).flatten).length = (ks.map (txtI m)).flatten by simp, hy3]
    simp only [List.length_cons, List.length_append]
    congr 2
    omega
  ·simp only [h48, ne_eq, not_false_eq_true, if_true, if_false, Bool.and_eq_true] at h hl |-
   obtain ⟨hk, hp⟩ := h
   replace hk := of_decide_eq_true hk
   obtain rfl : ks = [] := List.eq_nil_of_length_eq_zero hk
   have ht := plainOk_tag hp
   have hb : s.length < 65536 := by
    simp only [List.length_cons, List.length_append] at hl
    omega
   have hbt : ((UInt8.ofNat (t % 256).toNat).toNat : Int) = t /\ (UInt8.ofNat (t % 256).toNat).toNat ≠ 48 := by
    rcases ht with rfl | rfl | rfl | rfl <;> decide
   refine ⟨It.mk t s [], ?_, ?_⟩
   ·unfold sameI
    simp [It.tag_mk, It.text_mk, It.kids_mk]
   ·rw [List.cons_append, List.append_assoc]
    unfold rdG
    rw [sizeG_len hb]
    simp only
    rw [show (lenB s.length ++ (s ++ r)).drop (lenB s.length).length = s ++ r by simp]
    rw [if_neg (by rw [List.length_append]; omega), if_pos hbt.2, hbt.1]
    rw [show (s ++ r).take s.length = s by simp]
    simp only [List.length_cons, List.length_append]
    congr 2
    omega
def readG (n : Nat) (t : List UInt8) : Option (It n) := if 4000 < t.length then none else match rdG n t with
 | none => none
 | some (x, u) => if u = t.length /\ rightI n x 0 = true then some x else none
theorem same_comm : ∀ (n m : Nat) (x : It n) (y : It m), sameI n m x y = true -> sameI m n y x = true
 | 0, _, _, _, h => by simp [sameI] at h
 | n + 1, 0, _, _, h => by simp [sameI] at h
 | n + 1, m + 1, x, y, h => by
  obtain ⟨h1, h2, h3, h4⟩ := same_parts h
  unfold sameI
  simp only [h1, h2, h3, decide_true, Bool.true_and, List.all_eq_true]
  intro p hp
  refine same_comm n m p.2 p.1 (h4 (p.2, p.1) ?_)
  obtain ⟨j, hj, e⟩ := List.getElem_of_mem hp
  rw [List.getElem_zip] at e
  rw [List.length_zip] at hj
  rw [<- e]
  exact List.mem_iff_getElem.2 ⟨j, by rw [List.length_zip]; omega, by rw [List.getElem_zip]⟩
theorem readG_some {n : Nat} {t : List UInt8} {x : It n} (h : readG n t = some x) : writeI n x = some t := by
 unfold readG at h
 split at h
 ·simp at h
 ·next hl =>
  split at h
  ·simp at h
  ·next x' u hr =>
   split at h
   ·next hc =>
    simp only [Option.some.injEq] at h
    subst h
    obtain ⟨_, _, h3⟩ := rdG_txt n t x' u hr
    rw [hc.1, List.take_length] at h3
    unfold writeI
    rw [if_pos ⟨hc.2, by rw [h3]; omega⟩, h3]
   ·simp at h
theorem readG_same {n : Nat} {t : List UInt8} {x : It n} (h : readG n t = some x) : ∃ y : It 7, sameI n 7 x y = true /\ readI t = some y := read_back (readG_some h)
theorem readG_of {n : Nat} (hn : 7 <= n) {t : List UInt8} {y : It 7} (h : readI t = some y) : ∃ x : It n, readG n t = some x /\ sameI n 7 x y = true := by
 obtain ⟨h1, _⟩ := read_some h
 obtain ⟨g1, g2, g3⟩ := write_some h1
 obtain ⟨x, hx, hr⟩ := rdG_back 7 y 0 n hn g1 (by rw [g3]; omega) []
 rw [List.append_nil, g3] at hr
 refine ⟨x, ?_, same_comm 7 n y x hx⟩
 unfold readG
 rw [if_neg (by omega), hr]
 show (if t.length = t.length /\ rightI n x 0 = true then some x else none) = some x
 rw [if_pos ⟨rfl, by rw [<- same_right 7 n y x 0 hx]; exact g1⟩]
theorem readG_none {n : Nat} (hn : 7 <= n) (t : List UInt8) : readG n t = none ↔ readI t = none := by
 constructor
 ·intro h
  cases hq : readI t with
  | none => rfl
  | some y => obtain ⟨x, hx, _⟩ := readG_of hn hq; rw [h] at hx; cases hx
 ·intro h
  cases hq : readG n t with
  | none => rfl
  | some x => obtain ⟨y, _, hy⟩ := readG_same hq; rw [h] at hy; cases hy
end Go.Proofs.Ytbiiihjohbnodaa.Der
