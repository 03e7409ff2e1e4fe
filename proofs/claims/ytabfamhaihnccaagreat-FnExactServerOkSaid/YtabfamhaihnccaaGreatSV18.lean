/-
  Texts of the proof.
-/
import Derived.Deep.RegionHeld3
import Derived.Test.YtabfamhaihnccaaGreatSV17
set_option maxRecDepth 100000
set_option maxHeartbeats 25600000
namespace Go.Proofs.YtabfamhaihnccaaGreat
open Go.RowKit Der
set_option linter.unusedVariables false
theorem leaf_post {n : Nat} {t : Int} {s : List UInt8} {ks : List (It n)} {w w' : World} {e : Ending} (h48 : t ≠ 48) (h : TxPost t (fun r => r = s) w e w') :
  ∃ r : List UInt8, e = .returned (.string ⟨r.toArray⟩) /\ GoodT r (txtI (n + 1) (It.mk t s ks)) /\ r.length <= 11 + 12 * szI (n + 1) (It.mk t s ks) /\ Below w.heap.size w w' := by
 obtain ⟨r, rfl, rfl, hb⟩ := h
 have e : txtI (n + 1) (It.mk t r ks) = UInt8.ofNat (t % 256).toNat :: (lenB r.length ++ r) := by
  show UInt8.ofNat (t % 256).toNat :: (lenB (if t = 48 then _ else r).length ++ (if t = 48 then _ else r)) = _
  rw [if_neg h48]
 have h1 := txt_le (n + 1) (It.mk t r ks)
 rw [<- e]
 exact ⟨_, rfl, GoodT.refl _, h1, hb⟩
theorem row_post {n : Nat} {ks : List (It n)} {w w' : World} {e : Ending} (h : TxPost 48 (fun r => GoodT r ((ks.map (txtI n)).flatten) /\ r.length <= 12 * szS n ks) w e w') :
  ∃ r : List UInt8, e = .returned (.string ⟨r.toArray⟩) /\ GoodT r (txtI (n + 1) (It.mk 48 [] ks)) /\ r.length <= 11 + 12 * szI (n + 1) (It.mk 48 [] ks) /\ Below w.heap.size w w' := by
 obtain ⟨r, rfl, ⟨hg, hl⟩, hb⟩ := h
 have e : txtI (n + 1) (It.mk 48 [] ks) = UInt8.ofNat ((48 : Int) % 256).toNat :: (lenB ((ks.map (txtI n)).flatten).length ++ (ks.map (txtI n)).flatten) := rfl
 refine ⟨_, rfl, ?_, ?_, hb⟩
 ·rw [e]
  exact GoodT.whole (b := []) hg
 ·have h1 := beN_short9 r.length
  have h2 : szI (n + 1) (It.mk 48 [] ks) = szS n ks := by
   show ([] : List UInt8).length + ks.length + (ks.map (szI n)).sum = ks.length + (ks.map (szI n)).sum
   simp
  rw [h2]
  simp only [List.length_cons, List.length_append]
  omega
theorem txC_of (n : Nat) (HB : Hid (BdC n)) : TxC n := fun t s ks a d w hx hz hr => by
 have hsz := szI_kid hz
 obtain ⟨ax, cx, rfl, hcx⟩ := id hx
 rw [right_mk] at hr
 by_cases h48 : t = 48
 ·subst h48
  rw [if_neg (by simp)] at hr
  simp only [Bool.and_eq_true, List.all_eq_true] at hr
  obtain ⟨⟨⟨hs, _⟩, _⟩, hall⟩ := hr
  have hs0 := of_decide_eq_true hs
  obtain rfl : s = [] := List.eq_nil_of_length_eq_zero hs0
  refine (textOf_row 48 [] ax ks.length cx w hsz.2.1 hsz.1 (formV_row _ _) (fun r => GoodT r ((ks.map (txtI n)).flatten) /\ r.length <= 12 * szS n ks) fun w3 hb => ?_).mono fun e w' h => row_post h
  refine (HB.out ks _ (d + 1) w3 (hx.mono hb fun _ _ h => ItAt.below hb h) (szS_of hz) hall).mono ?_
  rintro e w' ⟨r, rfl, hg, hl, hb'⟩
  have := szS_of hz
  exact ⟨r, rfl, ⟨hg, hl⟩, by omega, hb'⟩
 ·rw [if_pos h48, Bool.and_eq_true] at hr
  have hk0 : ks.length = 0 := of_decide_eq_true hr.1
  have hp := hr.2
  rw [hk0]
  have done : ∀ w3 : World, ∀ F : Nat, (Calls Tryz.prog F #[.string ⟨s.toArray⟩] w3 fun e w' => e = .returned (.string ⟨s.toArray⟩) /\ Below w3.heap.size w3 w') -> Calls Tryz.prog F #[.string ⟨s.toArray⟩] w3 fun e w' => ∃ r : List UInt8, e = .returned (.string ⟨r.toArray⟩) /\ r = s /\ r.length <= 400000000 /\ Below w3.heap.size w3 w' :=
   fun w3 F h => h.mono fun e w' ⟨h1, h2⟩ => ⟨s, h1, rfl, by omega, h2⟩
  rcases plainOk_tag hp with rfl | rfl | rfl | rfl
  ·exact (textOf_flag 1 s ax 0 cx w (by omega) hsz.1 (formV_one _ _) (fun r => r = s) fun w3 _ => done w3 _ (body_flag ⟨s.toArray⟩ w3)).mono fun e w' h => leaf_post (by decide) h
  ·exact (textOf_integer 2 s ax 0 cx w (by omega) hsz.1 (formV_two _ _) (fun r => r = s) fun w3 _ => done w3 _ (body_integer ⟨s.toArray⟩ w3)).mono fun e w' h => leaf_post (by decide) h
  ·exact (textOf_plain 12 s ax 0 cx w (by omega) hsz.1 (formV_twelve _ _) (fun r => r = s) fun w3 _ => done w3 _ (body_plain ⟨s.toArray⟩ w3)).mono fun e w' h => leaf_post (by decide) h
  ·exact (textOf_octets 4 s ax 0 cx w (by omega) hsz.1 (formV_four _ _) (fun r => r = s) fun w3 _ => done w3 _ (body_octets ⟨s.toArray⟩ w3)).mono fun e w' h => leaf_post (by decide) h
theorem bdC_any : ∀ (n : Nat), BdC n
 | 0 => bd_zero
 | n + 1 => fun ks v d w hx hz hr => bd_step n (txC_of n (bdC_any n)) ks v d w hx hz hr
theorem textOf_any (n : Nat) : TxC n := txC_of n (bdC_any n)
theorem implItemText_step (n : Nat) (t : Int) (s : List UInt8) (ks : List (It n)) (a : Value) (w : World) (hx : KidsAt w (ItAt w n) a ks) (hz : szI (n + 1) (It.mk t s ks) <= 20000000) :
  Calls Tryz.prog 130 #[.agg #[.int .i64 t, .string ⟨s.toArray⟩, a]] w fun e w' => e = .returned (.tuple #[.string ⟨((writeI (n + 1) (It.mk t s ks)).getD []).toArray⟩, .bool (writeI (n + 1) (It.mk t s ks)).isSome]) /\ Below w.heap.size w w' := by
 obtain ⟨ax, cx, rfl, -⟩ := id hx
 obtain ⟨W2, hW2⟩ : ∃ W, W = w.alloc (Obj.cells #[Value.int IntKind.i64 t, Value.string { data := s.toArray }, Value.slice ax ks.length cx] 178) := ⟨_, rfl⟩
 have HW := one_laid w (.int .i64 t) (.string ⟨s.toArray⟩) (.slice ax ks.length cx) 178 W2 hW2
 have E := implItemOk_any (n + 1) (It.mk t s ks) (.agg #[.int .i64 t, .string ⟨s.toArray⟩, .slice ax ks.length cx]) W2 ⟨_, rfl, hx.mono HW.1 fun _ _ h => ItAt.below HW.1 h⟩ hz
 have HN : Hid (writeI (n + 1) (It.mk t s ks) = if rightI (n + 1) (It.mk t s ks) 0 = true /\ (txtI (n + 1) (It.mk t s ks)).length <= 4000 then some (txtI (n + 1) (It.mk t s ks)) else none) := rfl
 have HX : Hid (KidsAt w (ItAt w n) (.slice ax ks.length cx) ks /\ szI (n + 1) (It.mk t s ks) <= 20000000) := ⟨hx, hz⟩
 obtain ⟨l, hl⟩ := zE (ks.length)
 have HL : Hid (ks.length = l) := hl
 have HC : Hid (Below w.heap.size w W2 /\ w.heap.size < W2.heap.size /\ Cells3 W2 w.heap.size 0 (.int .i64 t) (.string ⟨s.toArray⟩) (.slice ax ks.length cx)) := ⟨HW.1, HW.2.1, HW.2.2⟩
 rw [hl] at hW2 E HX HC |-
 clear hx hz HW hl
 cases hr : rightI (n + 1) (It.mk t s ks) 0 with
 | false =>
  rw [hr] at E
  have HR : Hid (writeI (n + 1) (It.mk t s ks) = none) := by
   show writeI (n + 1) (It.mk t s ks) = none
   rw [HN.out, hr]
   simp
  clear hr
  go_enter Tryz.func130, Tryz.ntmps130
  go_wp2_with fail
  rw [<- hW2]
  refine E.mono ?_
  rintro e w3 ⟨rfl, hb3⟩
  have H3 : Hid (Below w.heap.size w w3) := HC.out.1.trans (hb3.mono HC.out.1.size)
  clear E hb3 hW2
  go_wp2_with fail
  go_ret2
  exact ⟨by rw [HR.out]; rfl, H3.out⟩
 | true =>
  rw [hr] at E
  have HR : Hid (rightI (n + 1) (It.mk t s ks) 0 = true /\ writeI (n + 1) (It.mk t s ks) = if (txtI (n + 1) (It.mk t s ks)).length <= 4000 then some (txtI (n + 1) (It.mk t s ks)) else none) := by
   refine ⟨hr, ?_⟩
   rw [HN.out, hr]
   simp
  clear hr HN
  go_enter Tryz.func130, Tryz.ntmps130
  go_wp2_with fail
  rw [<- hW2]
  refine E.mono ?_
  rintro e w3 ⟨rfl, hb3⟩
  obtain ⟨c0, c1, c2⟩ := HC.out.2.2.below HC.out.2.1 hb3
  have hbw : Below w.heap.size w w3 := HC.out.1.trans (hb3.mono HC.out.1.size)
  have ET := textOf_any n t s ks (.slice ax l cx) 0 w3 (HX.out.1.mono hbw fun _ _ h => ItAt.below hbw h) HX.out.2 HR.out.1
  have H3 : Hid (Below w.heap.size w w3) := hbw
  clear E hb3 hW2 hbw
  rw [show (0 : Nat) + 1 = 1 from rfl] at c1
  rw [show (0 : Nat) + 2 = 2 from rfl] at c2
  go_wp2_with fail
  refine ET.mono ?_
  rintro e w4 ⟨r, rfl, hg, hrl, hb4⟩
  have hssz : (⟨r.toArray⟩ : ByteArray).size = r.length := by show r.toArray.size = _; simp
  have hr9 : r.length <= 1000000000 := by have := HX.out.2; omega
  have H4 : Hid (Below w.heap.size w w4 /\ GoodT r (txtI (n + 1) (It.mk t s ks))) := ⟨H3.out.trans (hb4.mono H3.out.size), hg⟩
  clear ET hb4 hg hrl c0 c1 c2
  by_cases hbig : 4000 < r.length
  ·have hbi : (4000 : Int) < (r.length : Int) := by omega
   have HF : Hid (writeI (n + 1) (It.mk t s ks) = none) := by
    show _ = none
    rw [HR.out.2, if_neg]
    intro hle
    have := H4.out.2.1 hle
    rw [this] at hbig
    omega
   go_wp2_with fail
   go_ret2
   exact ⟨by rw [HF.out]; rfl, H4.out.1⟩
  ·have hbi : ¬ (4000 : Int) < (r.length : Int) := by omega
   have HF : Hid (writeI (n + 1) (It.mk t s ks) = some r) := by
    show _ = some r
    have hle : (txtI (n + 1) (It.mk t s ks)).length <= 4000 := by
     refine Nat.le_of_not_lt fun hlt => ?_
     exact hbig (H4.out.2.2 hlt)
    rw [HR.out.2, if_pos hle, H4.out.2.1 hle]
   go_wp2_with fail
   go_ret2
   exact ⟨by rw [HF.out]; rfl, H4.out.1⟩
theorem implItemText_any : ∀ (n : Nat) (x : It n) (v : Value) (w : World), ItAt w n v x -> szI n x <= 20000000 -> Calls Tryz.prog 130 #[v] w fun e w' => e = .returned (.tuple #[.string ⟨((writeI n x).getD []).toArray⟩, .bool (writeI n x).isSome]) /\ Below w.heap.size w w'
 | 0, _, _, _, h, _ => h.elim
 | n + 1, x, v, w, hx, hz => by
  obtain ⟨kx, rfl, hkx⟩ := hx
  exact implItemText_step n (It.tag x) (It.text x) (It.kids x) kx w hkx hz
def KG (w W : World) (t s k : Value) : Prop := Below w.heap.size w W /\ Blk3 W w.heap.size t s k /\ ∃ x y z, Blk3 W (w.heap.size + 1) x y z
theorem KG.below {w W W' : World} {t s k : Value} (h : KG w W t s k) (hb : Below W.heap.size W W') : KG w W' t s k := by
 obtain ⟨h1, h2, x, y, z, h3⟩ := h
 exact ⟨h1.trans (hb.mono h1.size), h2.below hb, x, y, z, h3.below hb⟩
theorem KG.set {w W : World} {t s k : Value} (h : KG w W t s k) (p q r : Value) : KG w (((W.setCell ⟨w.heap.size + 1, 0, none⟩ p).setCell ⟨w.heap.size + 1, 1, none⟩ q).setCell ⟨w.heap.size + 1, 2, none⟩ r) t s k := by
 obtain ⟨h1, h2, x, y, z, h3⟩ := h
 refine ⟨((h1.setCell (p := ⟨w.heap.size + 1, 0, none⟩) (Nat.le_succ _) _).setCell (p := ⟨w.heap.size + 1, 1, none⟩) (Nat.le_succ _) _).setCell (p := ⟨w.heap.size + 1, 2, none⟩) (Nat.le_succ _) _, ?_, p, q, r, ?_⟩
 ·have ne : w.heap.size ≠ w.heap.size + 1 := by omega
  exact ((h2.other (p := ⟨w.heap.size + 1, 0, none⟩) ne _).other (p := ⟨w.heap.size + 1, 1, none⟩) ne _).other (p := ⟨w.heap.size + 1, 2, none⟩) ne _
 ·have e := (((show Blk W (w.heap.size + 1) 178 #[x, y, z] from h3).set 0 p).set 1 q).set 2 r
  exact e
theorem KG.start (w : World) (t s k x y z : Value) (W : World) (hW : W = (w.alloc (Obj.cells #[t, s, k] 178)).alloc (Obj.cells #[x, y, z] 178)) : KG w W t s k := by
 have e0 : (w.alloc (Obj.cells #[t, s, k] 178)).heap.size = w.heap.size + 1 := Array.size_push _
 have hb : Below w.heap.size w W := by rw [hW]; exact ((Below.refl _ _).alloc (Nat.le_refl _) _).alloc (by rw [e0]; omega) _
 refine ⟨hb, ?_, x, y, z, ?_⟩
 ·rw [hW]; exact (heap_alloc_old _ _ (by rw [e0]; omega)).trans (heap_alloc_new w _)
 ·rw [hW]
  have h := heap_alloc_new (w.alloc (Obj.cells #[t, s, k] 178)) (Obj.cells #[x, y, z] 178)
  rw [e0] at h
  exact h
theorem RowsK.owns {W W' : World} {b n cap : Nat} {ks : List (It (n + 1))} {kvs : List Value} {fps : List (List Nat)} (h : RowsK W b n ks kvs fps) (hb : b <= W.heap.size) (hnd : fps.flatten.Nodup) (hp : 0 < ks.length) (hc : cap = ks.length)
  (hW : W' = W.alloc (.cells (cellsK ks kvs).toArray 178)) : OwnK W' b (n + 1) (.slice (some ⟨W.heap.size, 0, none⟩) cap cap) ks (W.heap.size :: fps.flatten) := by
 subst hc
 obtain ⟨h1, h2, h3⟩ := h.each
 have hbel : Below W.heap.size W W' := by rw [hW]; exact (Below.refl _ _).alloc (Nat.le_refl _) _
 have hg : W'.heap[W.heap.size]? = some (.cells (cellsK ks kvs).toArray 178 (0, 0)) := by rw [hW]; exact heap_alloc_new W _
 refine ⟨some ⟨W.heap.size, 0, none⟩, ks.length, rfl, fun h => by omega, fun _ => ⟨W.heap.size, 0, ks.length * 3, fun j => (cellsK ks kvs).toArray.getD j (.int .i64 0), fps, rfl, hb, rowV_of hg (by rw [List.size_toArray, cellsK_len h1]), by omega, rfl, ?_, h2.symm, fun j hj hj2 => ?_⟩⟩
 ·refine List.nodup_cons.2 ⟨fun hm => ?_, hnd⟩
  obtain ⟨l, m1, m2⟩ := List.mem_flatten.1 hm
  obtain ⟨j, hj, rfl⟩ := List.getElem_of_mem m1
  have := (OwnK.lt (h3 j (by omega) (by omega) hj) _ m2).2
  omega
 ·obtain ⟨c0, c1, c2⟩ := cellsK_at h1 j hj
  have hcell : ∀ q u, (cellsK ks kvs)[q]? = some u -> (cellsK ks kvs).toArray.getD q (.int .i64 0) = u := fun q u hq => by simp [Array.getD_eq_getD_getElem?, hq]
  show (cellsK ks kvs).toArray.getD (0 + j * 3) _ = _ /\ (cellsK ks kvs).toArray.getD (0 + j * 3 + 1) _ = _ /\ OwnK W' b n ((cellsK ks kvs).toArray.getD (0 + j * 3 + 2) _) _ _
  rw [Nat.zero_add, hcell _ _ c0, hcell _ _ c1, hcell _ _ c2]
  exact ⟨rfl, rfl, (h3 j hj (by omega) hj2).below hbel (fun x hx => (OwnK.lt (h3 j hj (by omega) hj2) x hx).2)⟩
theorem signed_row {W W' : World} {b n : Nat} {x : It (n + 1)} {s : ByteArray} {k : Value} {fp : List Nat} (h : OwnK W b n k (It.kids x) fp) (hb : b <= W.heap.size)
  (hW : W' = W.alloc (.cells #[.int .i64 (It.tag x), .string ⟨(It.text x).toArray⟩, k, .int .i64 4, .string s, .slice none 0 0] 178)) : OwnK W' b (n + 1) (.slice (some ⟨W.heap.size, 0, none⟩) 2 2) [x, bytJ s] (W.heap.size :: fp) := by
 have R : RowsK W b n [x, bytJ s] [k, .slice none 0 0] [fp, []] := ⟨h, own_none W b n, trivial⟩
 have := R.owns (W' := W') (cap := 2) hb (by have := h.nodup; simpa using this) (by show 0 < 2; decide) rfl (by rw [hW]; rfl)
 simpa using this
theorem signedItem_any (n : Nat) (x : It (n + 1)) (t : Int) (S s : ByteArray) (kv : Value) (fp : List Nat) (b : Nat) (w : World) (ht : It.tag x = t) (hS : (⟨(It.text x).toArray⟩ : ByteArray) = S) (hsl : ∃ a l cx, kv = .slice a l cx) (hs : s.size <= 20000000) (ho : OwnK w b n kv (It.kids x) fp) (hb : b <= w.heap.size) :
  Calls Tryz.prog 131 #[.agg #[.int .i64 t, .string S, kv], .string s] w fun e w' => ∃ q fq, e = .returned (.agg #[.int .i64 48, .string ⟨#[]⟩, .slice (some ⟨q, 0, none⟩) 2 2]) /\ OwnK w' b (n + 1) (.slice (some ⟨q, 0, none⟩) 2 2) [x, bytJ s] fq /\ Below w.heap.size w w' := by
 obtain ⟨ka, kl, kx, rfl⟩ := hsl
 have HO : Hid (OwnK w b n (.slice ka kl kx) (It.kids x) fp /\ b <= w.heap.size /\ s.size <= 20000000 /\ It.tag x = t /\ (⟨(It.text x).toArray⟩ : ByteArray) = S) := ⟨ho, hb, hs, ht, hS⟩
 clear ho hb hs ht hS
 go_enter Tryz.func131, Tryz.ntmps131
 go_wp2_with fail
 obtain ⟨W0, hW0⟩ : ∃ W, W = (w.alloc (Obj.cells #[.int .i64 t, .string S, .slice ka kl kx] 178)).alloc (Obj.cells #[Value.int IntKind.i64 0, Value.string ⟨#[]⟩, Value.slice none 0 0] 178) := ⟨_, rfl⟩
 rw [<- hW0]
 have H0 : KG w W0 (.int .i64 t) (.string S) (.slice ka kl kx) := KG.start w _ _ _ _ _ _ W0 hW0
 clear hW0
 refine wp_region_held_drew (S := fun W => KG w W (.int .i64 t) (.string S) (.slice ka kl kx)) (by kernel_rfl) (KG.below H0 ((Below.refl _ _).drew)) (fun hHeld => ?_)
 clear H0
 generalize W0.drew = Wd0 at hHeld |-
 refine zT 0 5 ?_ rfl (by rfl) ?_ hHeld ?_
 rotate_left
 ·intro W hSw
  obtain ⟨⟨l0, l1, l2⟩, -⟩ := cell_in hSw.2.1
  go_simp
  try with_reducible rfl
 try simp only [Act.put, zA, zB, zC]
 refine zT 1 6 ?_ rfl (by rfl) ?_ hHeld ?_
 rotate_left
 ·intro W hSw
  go_simp
  try with_reducible rfl
 try simp only [Act.put, zA, zB, zC]
 refine wpAnyH_ready (rs := [2]) (by kernel_rfl) (by simp) ?_
 refine AllReadyH.cons (o := ⟨some 7, _, _, _, _, _⟩) rfl (fun K hK => ?_) AllReadyH.nil
 go_simp
 refine (bytesItem_any s _ HO.out.2.2.1).mono ?_
 rintro e v1 ⟨rfl, hv⟩
 have hH := KG.below hHeld hv
 go_wp2_with fail
 refine hK.out _ _ hH (fun hHeld => ?_)
 clear hK K hH hv
 try simp only [Act.put, zA, zB, zC]
 refine wpAnyH_ready (rs := [3]) (by kernel_rfl) (by simp) ?_
 refine AllReadyH.cons (o := ⟨some 8, _, _, _, _, _⟩) rfl (fun K hK => ?_) AllReadyH.nil
 have HF : Hid (OwnK (v1.alloc (Obj.cells #[.int .i64 t, .string S, .slice ka kl kx, .int .i64 4, .string s, .slice none 0 0] 178)) b (n + 1) (.slice (some ⟨v1.heap.size, 0, none⟩) 2 2) [x, bytJ s] (v1.heap.size :: fp)) := by
  have h := HO.out
  refine signed_row (h.1.below hHeld.1 (fun y hy => (OwnK.lt h.1 y hy).2)) (Nat.le_trans h.2.1 hHeld.1.size) ?_
  rw [h.2.2.2.1, h.2.2.2.2]
 have HS0 : Hid (w.heap.size + 2 <= v1.heap.size /\ b <= w.heap.size) := by
  obtain ⟨_, _, _, _, _, h3⟩ := hHeld
  exact ⟨by have := h3.lt; omega, HO.out.2.1⟩
 have HFP : Hid (∀ y ∈ fp, y < w.heap.size) := fun y hy => (OwnK.lt HO.out.1 y hy).2
 go_simp
 refine hK.out _ _ (KG.below hHeld ((Below.refl _ _).alloc (Nat.le_refl _) _)) (fun hHeld => ?_)
 clear hK K
 try simp only [Act.put, zA, zB, zC]
 refine zT 4 9 ?_ rfl (by rfl) ?_ hHeld ?_
 rotate_left
 ·intro W hSw
  go_simp
  try with_reducible rfl
 try simp only [Act.put, zA, zB, zC]
 refine wpAnyH_ready (rs := [5]) (by kernel_rfl) (by simp) ?_
 refine AllReadyH.cons (o := ⟨none, _, _, _, _, _⟩) rfl (fun K hK => ?_) AllReadyH.nil
 obtain ⟨W9, hW9⟩ : ∃ W, W = v1.alloc (Obj.cells #[.int .i64 t, .string S, .slice ka kl kx, .int .i64 4, .string s, .slice none 0 0] 178) := ⟨_, rfl⟩
 obtain ⟨q9, hq9⟩ := zE (v1.heap.size)
 rw [<- hW9] at HF hHeld |-
 rw [hq9] at HF HS0 |-
 clear hW9 hq9
 obtain ⟨x9, y9, z9, hB9⟩ := hHeld.2.2
 obtain ⟨⟨r0, r1, r2⟩, rf⟩ := cell_in hB9
 go_simp
 refine hK.out _ _ (KG.set hHeld _ _ _) (fun hHeld => ?_)
 clear hK K
 try simp only [Act.put, zA, zB, zC]
 refine wpAnyH_done (by kernel_rfl) ?_ _
 have HEND : Hid (Below w.heap.size w _) := hHeld.1
 clear hHeld
 go_wp2_with fail
 refine bodyPost_ret (v := .agg #[.int .i64 48, .string ⟨#[]⟩, .slice (some ⟨q9, 0, none⟩) 2 2]) (by simp [results, Tryz.results131, go_sem, r0, r1, r2]; try rfl) rfl ?_
 refine ⟨q9, _, rfl, HF.out.same fun y hy => ?_, HEND.out⟩
 have h2 := HS0.out.1
 have ne : y ≠ w.heap.size + 1 := by
  rcases List.mem_cons.1 hy with rfl | hy
  ·omega
  ·have := HFP.out y hy; omega
 rw [heap_setCell_other _ _ _ _ (by show y ≠ w.heap.size + 1; exact ne), heap_setCell_other _ _ _ _ (by show y ≠ w.heap.size + 1; exact ne), heap_setCell_other _ _ _ _ (by show y ≠ w.heap.size + 1; exact ne)]
theorem sz_lst {n : Nat} (ks : List (It n)) : szI (n + 1) (lstJ ks) = ks.length + (ks.map (szI n)).sum := by
 show 0 + ks.length + (ks.map (szI n)).sum = _
 omega
theorem sz_int {n : Nat} (x : Int) : szI (n + 1) (intI x) <= 5 := by
 have h := intT_ok (numN_le x)
 unfold plainOk at h
 rw [if_neg (by decide), if_pos rfl] at h
 simp only [Bool.and_eq_true, decide_eq_true_eq] at h
 show (intT (numN x)).length + 0 + 0 <= 5
 omega
theorem sz_txt {n : Nat} (s : ByteArray) : szI (n + 1) (txtJ s) = s.size := rfl
theorem sz_ints {n : Nat} : ∀ l : List Int, ((l.map (intI (n := n))).map (szI (n + 1))).sum <= 5 * l.length
 | [] => Nat.le_refl _
 | x :: l => by
  have h1 := sz_ints (n := n) l
  have h2 := sz_int (n := n) x
  simp only [List.map_cons, List.sum_cons, List.length_cons]
  omega
theorem sz_txts {n : Nat} : ∀ l : List ByteArray, l.length + ((l.map (txtJ (n := n))).map (szI (n + 1))).sum = totT l
 | [] => rfl
 | x :: l => by
  have h1 := sz_txts (n := n) l
  have h2 := sz_txt (n := n) x
  simp only [List.map_cons, List.sum_cons, List.length_cons, totT]
  omega
theorem sz_body {c : Ct} (h : wtC c <= 1048576) : szI 3 (bodyC c) <= 8000000 := by
 unfold wtC at h
 have a0 : szI 2 (intI c.serial) <= 5 := sz_int c.serial
 have a6 : szI 2 (intI c.pathLen) <= 5 := sz_int c.pathLen
 have a7 : szI 2 (intI c.usage) <= 5 := sz_int c.usage
 have f : szI 1 (intI c.frm) <= 5 := sz_int c.frm
 have u : szI 1 (intI c.upto) <= 5 := sz_int c.upto
 have p : ((c.pol.map intI).map (szI 1)).sum <= 5 * c.pol.length := sz_ints (n := 0) c.pol
 have e : c.per.length + ((c.per.map txtJ).map (szI 1)).sum = totT c.per := sz_txts (n := 0) c.per
 have d : c.den.length + ((c.den.map txtJ).map (szI 1)).sum = totT c.den := sz_txts (n := 0) c.den
 have t1 : szI 2 (txtJ c.issuer) = c.issuer.size := rfl
 have t3 : szI 2 (txtJ c.subject) = c.subject.size := rfl
 have t4 : szI 2 (bytJ c.key) = c.key.size := rfl
 have t5 : szI 2 (flagJ c.ca) = 1 := rfl
 unfold bodyC
 rw [sz_lst]
 simp only [List.map_cons, List.map_nil, List.sum_cons, List.sum_nil, List.length_cons, List.length_nil]
 rw [sz_lst, sz_lst, sz_lst, sz_lst]
 simp only [List.map_cons, List.map_nil, List.sum_cons, List.sum_nil, List.length_cons, List.length_nil, List.length_map]
 omega
theorem sz_cert {c : Ct} (h : wtC c <= 1048576) : szI 4 (certI c) <= 20000000 := by
 have hb := sz_body h
 have hs := (wt_parts h).2.2.2.2.2.2.1
 have t : szI 3 (bytJ c.sig) = c.sig.size := rfl
 unfold certI
 rw [sz_lst]
 simp only [List.map_cons, List.map_nil, List.sum_cons, List.sum_nil, List.length_cons, List.length_nil]
 omega
def ctxt (c : Ct) : Option (List UInt8) := if certOk c = true then writeI 4 (certI c) else none
theorem to_body {w w' : World} {c : Ct} {e : Ending} (h : ToIt w 2 (bodyC c) e w') : ∃ (a : Option Addr) (l cx : Nat) (fp : List Nat), e = .returned (.agg #[.int .i64 48, .string ⟨#[]⟩, .slice a l cx]) /\ OwnK w' w.heap.size 2 (.slice a l cx) (It.kids (bodyC c)) fp /\ Below w.heap.size w w' := by
 obtain ⟨k, fp, rfl, ho, hb⟩ := h
 obtain ⟨a, cx, rfl⟩ := ho.shape
 exact ⟨a, _, cx, fp, rfl, ho, hb⟩
theorem cert_row {W W' : World} {b : Nat} {c : Ct} {k : Value} {fp : List Nat} (h : OwnK W b 2 k (It.kids (bodyC c)) fp) (hb : b <= W.heap.size)
  (hW : W' = W.alloc (.cells #[.int .i64 48, .string ⟨#[]⟩, k, .int .i64 4, .string c.sig, .slice none 0 0] 178)) : ItAt W' 4 (.agg #[.int .i64 48, .string ⟨#[]⟩, .slice (some ⟨W.heap.size, 0, none⟩) 2 2]) (certI c) := by
 have R : RowsK W b 2 (It.kids (certI c)) [k, .slice none 0 0] [fp, []] := ⟨h, own_none W b 2, trivial⟩
 obtain ⟨fq, hq⟩ := (R.grow (W' := W') (cap := 2) hb (by have := h.nodup; simpa using this) (by show 2 <= 1000; decide) rfl (by rw [hW]; rfl)).own
 exact ⟨_, rfl, hq.at⟩
def KS (w W : World) (a : Array Value) : Prop := Below w.heap.size w W /\ Blk W w.heap.size 52 a
theorem KS.below {w W W' : World} {a : Array Value} (h : KS w W a) (hb : Below W.heap.size W W') : KS w W' a := ⟨h.1.trans (hb.mono h.1.size), h.2.below hb h.2.lt⟩
theorem KS.start {w W : World} {a : Array Value} (hW : W = w.alloc (Obj.cells a 52)) : KS w W a := by rw [hW]; exact ⟨(Below.refl _ _).alloc (Nat.le_refl _) _, Blk.new w _ _⟩
theorem specCertText_any (c : Ct) (v : Value) (w : World) (hz : wtC c <= 1048576) (hw : WdC c) (ha : CtAt w v c) : Calls Tryz.prog 74 #[v] w fun e w' => e = .returned (.tuple #[.string ⟨((ctxt c).getD []).toArray⟩, .bool (ctxt c).isSome]) /\ Below w.heap.size w w' := by
 obtain ⟨pa, pc, ea, ec, da, dc, hv⟩ := CtAt.shape ha
 subst hv
 have HC : Hid (CtAt w _ c) := ha
 clear ha
 unfold ctV at HC |-
 obtain ⟨T, hT⟩ : ∃ T : ByteArray, (⟨((ctxt c).getD []).toArray⟩ : ByteArray) = T := ⟨_, rfl⟩
 obtain ⟨okT, hok⟩ := zE ((ctxt c).isSome)
 rw [hT, hok]
 have HT : Hid ((⟨((ctxt c).getD []).toArray⟩ : ByteArray) = T /\ (ctxt c).isSome = okT) := ⟨hT, hok⟩
 have HZ : Hid (wtC c <= 1048576 /\ WdC c) := ⟨hz, hw⟩
 clear hT hz hw hok
 obtain ⟨B, hB⟩ := zE (certOk c)
 have HB : Hid (certOk c = B) := hB
 go_enter Tryz.func74, Tryz.ntmps74
 go_wp2_with fail
 obtain ⟨W1, hW1⟩ : ∃ W, W = w.alloc (Obj.cells #[.int .i64 c.serial, .string c.issuer, .string c.subject, .int .i64 c.frm, .int .i64 c.upto, .string c.key, .bool c.ca, .int .i64 c.pathLen, .int .i64 c.usage, .slice pa c.pol.length pc, .slice ea c.per.length ec, .slice da c.den.length dc, .string c.sig] 52) := ⟨_, rfl⟩
 rw [<- hW1]
 have H1 : Hid (KS w W1 #[.int .i64 c.serial, .string c.issuer, .string c.subject, .int .i64 c.frm, .int .i64 c.upto, .string c.key, .bool c.ca, .int .i64 c.pathLen, .int .i64 c.usage, .slice pa c.pol.length pc, .slice ea c.per.length ec, .slice da c.den.length dc, .string c.sig]) := KS.start hW1
 clear hW1
 have E1 := specCertOk_any c _ W1 (Nat.le_trans HZ.out.1 (by decide)) (HC.out.below H1.out.1)
 rw [hB] at E1
 clear hB
 refine E1.mono ?_
 rintro e w2 ⟨rfl, hb2⟩
 have H2 : Hid (KS w w2 #[.int .i64 c.serial, .string c.issuer, .string c.subject, .int .i64 c.frm, .int .i64 c.upto, .string c.key, .bool c.ca, .int .i64 c.pathLen, .int .i64 c.usage, .slice pa c.pol.length pc, .slice ea c.per.length ec, .slice da c.den.length dc, .string c.sig]) := H1.out.below hb2
 clear E1 H1 hb2
 cases B with
 | false =>
  have HN : Hid (T = ⟨#[]⟩ /\ okT = false) := by
   have e : ctxt c = none := by unfold ctxt; rw [HB.out]; rfl
   rw [<- HT.out.1, <- HT.out.2, e]
   exact ⟨rfl, rfl⟩
  go_wp2_with fail
  go_ret2
  exact ⟨by rw [HN.out.1, HN.out.2]; rfl, H2.out.1⟩
 | true =>
  have HE : Hid (ctxt c = writeI 4 (certI c)) := by show ctxt c = _; unfold ctxt; rw [HB.out]; rfl
  go_wp2_with fail
  refine wp_region_held_drew (S := fun W => KS w W #[.int .i64 c.serial, .string c.issuer, .string c.subject, .int .i64 c.frm, .int .i64 c.upto, .string c.key, .bool c.ca, .int .i64 c.pathLen, .int .i64 c.usage, .slice pa c.pol.length pc, .slice ea c.per.length ec, .slice da c.den.length dc, .string c.sig]) (by kernel_rfl) (KS.below H2.out ((Below.refl _ _).drew)) (fun hHeld => ?_)
  clear H2
  generalize w2.drew = Wd at hHeld |-
  refine zT 0 7 ?_ rfl (by rfl) ?_ hHeld ?_
  rotate_left
  ·intro W hSw
   obtain ⟨c0, c1, c2, c3, c4, c5, c6, c7, c8, c9, c10, c11, c12⟩ := zc13 hSw.2
   go_simp
   try with_reducible rfl
  try simp only [Act.put, zA, zB, zC]
  refine zT 2 9 ?_ rfl (by rfl) ?_ hHeld ?_
  rotate_left
  ·intro W hSw
   go_simp
   try with_reducible rfl
  try simp only [Act.put, zA, zB, zC]
  refine zT 3 10 ?_ rfl (by rfl) ?_ hHeld ?_
  rotate_left
  ·intro W hSw
   have c12 : W.cell? ⟨w.heap.size, 12, none⟩ = some (.string c.sig) := hSw.2.cell 12
   go_simp
   try with_reducible rfl
  try simp only [Act.put, zA, zB, zC]
  refine wpAnyH_ready (rs := [1]) (by kernel_rfl) (by simp) ?_
  refine AllReadyH.cons (o := ⟨some 8, _, _, _, _, _⟩) rfl (fun K hK => ?_) AllReadyH.nil
  go_simp
  refine (specBodyItem_any c _ _ (Nat.le_trans HZ.out.1 (by decide)) HZ.out.2 (HC.out.below hHeld.1)).mono ?_
  intro e v1 hto
  obtain ⟨a1, l1, x1, f1, rfl, ho1, hv⟩ := to_body hto
  clear hto
  have hH := KS.below hHeld hv
  have HO : Hid (OwnK v1 w.heap.size 2 (.slice a1 l1 x1) (It.kids (bodyC c)) f1) := OwnK.base hHeld.1.size ho1
  clear ho1
  go_wp2_with fail
  refine hK.out _ _ hH (fun hHeld => ?_)
  clear hK K hH hv
  try simp only [Act.put, zA, zB, zC]
  refine wpAnyH_ready (rs := [4]) (by kernel_rfl) (by simp) ?_
  refine AllReadyH.cons (o := ⟨some 11, _, _, _, _, _⟩) rfl (fun K hK => ?_) AllReadyH.nil
  go_simp
  refine (bytes_any c.sig _).mono ?_
  rintro e v2 ⟨rfl, hv⟩
  have hH := KS.below hHeld hv
  have HO2 : Hid (OwnK v2 w.heap.size 2 (.slice a1 l1 x1) (It.kids (bodyC c)) f1) := HO.out.below hv (fun b hm => (OwnK.lt HO.out b hm).2)
  clear HO
  go_wp2_with fail
  refine hK.out _ _ hH (fun hHeld => ?_)
  clear hK K hH hv
  try simp only [Act.put, zA, zB, zC]
  refine wpAnyH_ready (rs := [5]) (by kernel_rfl) (by simp) ?_
  refine AllReadyH.cons (o := ⟨some 12, _, _, _, _, _⟩) rfl (fun K hK => ?_) AllReadyH.nil
  obtain ⟨W3, hW3⟩ : ∃ W, W = v2.alloc (Obj.cells #[.int .i64 48, .string ⟨#[]⟩, .slice a1 l1 x1, .int .i64 4, .string c.sig, .slice none 0 0] 178) := ⟨_, rfl⟩
  have HI : Hid (ItAt W3 4 (.agg #[.int .i64 48, .string ⟨#[]⟩, .slice (some ⟨v2.heap.size, 0, none⟩) 2 2]) (certI c)) := cert_row HO2.out hHeld.1.size hW3
  have hH : KS w W3 #[.int .i64 c.serial, .string c.issuer, .string c.subject, .int .i64 c.frm, .int .i64 c.upto, .string c.key, .bool c.ca, .int .i64 c.pathLen, .int .i64 c.usage, .slice pa c.pol.length pc, .slice ea c.per.length ec, .slice da c.den.length dc, .string c.sig] := KS.below hHeld (by rw [hW3]; exact (Below.refl _ _).alloc (Nat.le_refl _) _)
  go_simp
  rw [<- hW3]
  refine hK.out _ _ hH (fun hHeld => ?_)
  clear hK K hH hW3 HO2
  try simp only [Act.put, zA, zB, zC]
  refine zT 6 13 ?_ rfl (by rfl) ?_ hHeld ?_
  rotate_left
  ·intro W hSw
   go_simp
   try with_reducible rfl
  try simp only [Act.put, zA, zB, zC]
  refine wpAnyH_ready (rs := [7]) (by kernel_rfl) (by simp) ?_
  refine AllReadyH.cons (o := ⟨some 14, _, _, _, _, _⟩) rfl (fun K hK => ?_) AllReadyH.nil
  have E7 := specItemText_any 4 (certI c) _ W3 HI.out (sz_cert HZ.out.1)
  rw [<- HE.out, HT.out.1, HT.out.2] at E7
  go_simp
  refine E7.mono ?_
  rintro e v4 ⟨rfl, hv⟩
  have hH := KS.below hHeld hv
  clear E7
  go_wp2_with fail
  refine hK.out _ _ hH (fun hHeld => ?_)
  clear hK K hH hv
  try simp only [Act.put, zA, zB, zC]
  refine zT 8 15 ?_ rfl (by rfl) ?_ hHeld ?_
  rotate_left
  ·intro W hSw
   go_simp
   try with_reducible rfl
  try simp only [Act.put, zA, zB, zC]
  refine zT 9 16 ?_ rfl (by rfl) ?_ hHeld ?_
  rotate_left
  ·intro W hSw
   go_simp
   try with_reducible rfl
  try simp only [Act.put, zA, zB, zC]
  refine zT 10 2 ?_ rfl (by rfl) ?_ hHeld ?_
  rotate_left
  ·intro W hSw
   go_simp
   try with_reducible rfl
  try simp only [Act.put, zA, zB, zC]
  refine zT 11 3 ?_ rfl (by rfl) ?_ hHeld ?_
  rotate_left
  ·intro W hSw
   go_simp
   try with_reducible rfl
  try simp only [Act.put, zA, zB, zC]
  refine wpAnyH_done (by kernel_rfl) ?_ _
  have HEND : Hid (Below w.heap.size w _) := hHeld.1
  clear hHeld
  go_wp2_with fail
  go_ret2
  exact ⟨rfl, HEND.out⟩
theorem implCertText_any (c : Ct) (v : Value) (w : World) (hz : wtC c <= 1048576) (hw : WdC c) (ha : CtAt w v c) : Calls Tryz.prog 85 #[v] w fun e w' => e = .returned (.tuple #[.string ⟨((ctxt c).getD []).toArray⟩, .bool (ctxt c).isSome]) /\ Below w.heap.size w w' := by
 obtain ⟨pa, pc, ea, ec, da, dc, hv⟩ := CtAt.shape ha
 subst hv
 have HC : Hid (CtAt w _ c) := ha
 clear ha
 unfold ctV at HC |-
 obtain ⟨T, hT⟩ : ∃ T : ByteArray, (⟨((ctxt c).getD []).toArray⟩ : ByteArray) = T := ⟨_, rfl⟩
 obtain ⟨okT, hok⟩ := zE ((ctxt c).isSome)
 rw [hT, hok]
 have HT : Hid ((⟨((ctxt c).getD []).toArray⟩ : ByteArray) = T /\ (ctxt c).isSome = okT) := ⟨hT, hok⟩
 have HZ : Hid (wtC c <= 1048576 /\ WdC c) := ⟨hz, hw⟩
 clear hT hz hw hok
 obtain ⟨B, hB⟩ := zE (certOk c)
 have HB : Hid (certOk c = B) := hB
 go_enter Tryz.func85, Tryz.ntmps85
 go_wp2_with fail
 obtain ⟨W1, hW1⟩ : ∃ W, W = w.alloc (Obj.cells #[.int .i64 c.serial, .string c.issuer, .string c.subject, .int .i64 c.frm, .int .i64 c.upto, .string c.key, .bool c.ca, .int .i64 c.pathLen, .int .i64 c.usage, .slice pa c.pol.length pc, .slice ea c.per.length ec, .slice da c.den.length dc, .string c.sig] 52) := ⟨_, rfl⟩
 rw [<- hW1]
 have H1 : Hid (KS w W1 #[.int .i64 c.serial, .string c.issuer, .string c.subject, .int .i64 c.frm, .int .i64 c.upto, .string c.key, .bool c.ca, .int .i64 c.pathLen, .int .i64 c.usage, .slice pa c.pol.length pc, .slice ea c.per.length ec, .slice da c.den.length dc, .string c.sig]) := KS.start hW1
 clear hW1
 have E1 := implCertOk_any c _ W1 (Nat.le_trans HZ.out.1 (by decide)) (HC.out.below H1.out.1)
 rw [hB] at E1
 clear hB
 refine E1.mono ?_
 rintro e w2 ⟨rfl, hb2⟩
 have H2 : Hid (KS w w2 #[.int .i64 c.serial, .string c.issuer, .string c.subject, .int .i64 c.frm, .int .i64 c.upto, .string c.key, .bool c.ca, .int .i64 c.pathLen, .int .i64 c.usage, .slice pa c.pol.length pc, .slice ea c.per.length ec, .slice da c.den.length dc, .string c.sig]) := H1.out.below hb2
 clear E1 H1 hb2
 cases B with
 | false =>
  have HN : Hid (T = ⟨#[]⟩ /\ okT = false) := by
   have e : ctxt c = none := by unfold ctxt; rw [HB.out]; rfl
   rw [<- HT.out.1, <- HT.out.2, e]
   exact ⟨rfl, rfl⟩
  go_wp2_with fail
  go_ret2
  exact ⟨by rw [HN.out.1, HN.out.2]; rfl, H2.out.1⟩
 | true =>
  have HE : Hid (ctxt c = writeI 4 (certI c)) := by show ctxt c = _; unfold ctxt; rw [HB.out]; rfl
  go_wp2_with fail
  refine wp_region_held_drew (S := fun W => KS w W #[.int .i64 c.serial, .string c.issuer, .string c.subject, .int .i64 c.frm, .int .i64 c.upto, .string c.key, .bool c.ca, .int .i64 c.pathLen, .int .i64 c.usage, .slice pa c.pol.length pc, .slice ea c.per.length ec, .slice da c.den.length dc, .string c.sig]) (by kernel_rfl) (KS.below H2.out ((Below.refl _ _).drew)) (fun hHeld => ?_)
  clear H2
  generalize w2.drew = Wd at hHeld |-
  refine zT 0 7 ?_ rfl (by rfl) ?_ hHeld ?_
  rotate_left
  ·intro W hSw
   obtain ⟨c0, c1, c2, c3, c4, c5, c6, c7, c8, c9, c10, c11, c12⟩ := zc13 hSw.2
   go_simp
   try with_reducible rfl
  try simp only [Act.put, zA, zB, zC]
  refine zT 2 9 ?_ rfl (by rfl) ?_ hHeld ?_
  rotate_left
  ·intro W hSw
   go_simp
   try with_reducible rfl
  try simp only [Act.put, zA, zB, zC]
  refine zT 3 10 ?_ rfl (by rfl) ?_ hHeld ?_
  rotate_left
  ·intro W hSw
   have c12 : W.cell? ⟨w.heap.size, 12, none⟩ = some (.string c.sig) := hSw.2.cell 12
   go_simp
   try with_reducible rfl
  try simp only [Act.put, zA, zB, zC]
  refine wpAnyH_ready (rs := [1]) (by kernel_rfl) (by simp) ?_
  refine AllReadyH.cons (o := ⟨some 8, _, _, _, _, _⟩) rfl (fun K hK => ?_) AllReadyH.nil
  go_simp
  refine (implBodyItem_any c _ _ (Nat.le_trans HZ.out.1 (by decide)) HZ.out.2 (HC.out.below hHeld.1)).mono ?_
  intro e v1 hto
  obtain ⟨a1, l1, x1, f1, rfl, ho1, hv⟩ := to_body hto
  clear hto
  have hH := KS.below hHeld hv
  have HO : Hid (OwnK v1 w.heap.size 2 (.slice a1 l1 x1) (It.kids (bodyC c)) f1) := OwnK.base hHeld.1.size ho1
  clear ho1
  go_wp2_with fail
  refine hK.out _ _ hH (fun hHeld => ?_)
  clear hK K hH hv
  try simp only [Act.put, zA, zB, zC]
  refine wpAnyH_ready (rs := [4]) (by kernel_rfl) (by simp) ?_
  refine AllReadyH.cons (o := ⟨some 11, _, _, _, _, _⟩) rfl (fun K hK => ?_) AllReadyH.nil
  go_simp
  refine (signedItem_any 2 (bodyC c) 48 ⟨#[]⟩ c.sig (.slice a1 l1 x1) f1 w.heap.size _ rfl rfl ⟨_, _, _, rfl⟩ (by have := (wt_parts HZ.out.1).2.2.2.2.2.2.1; omega) HO.out hHeld.1.size).mono ?_
  rintro e v2 ⟨q2, f2, rfl, ho2, hv⟩
  have hH := KS.below hHeld hv
  have HI : Hid (ItAt v2 4 (.agg #[.int .i64 48, .string ⟨#[]⟩, .slice (some ⟨q2, 0, none⟩) 2 2]) (certI c)) := ⟨_, rfl, ho2.at⟩
  clear HO ho2
  go_wp2_with fail
  refine hK.out _ _ hH (fun hHeld => ?_)
  clear hK K hH hv
  try simp only [Act.put, zA, zB, zC]
  refine wpAnyH_ready (rs := [5]) (by kernel_rfl) (by simp) ?_
  refine AllReadyH.cons (o := ⟨some 12, _, _, _, _, _⟩) rfl (fun K hK => ?_) AllReadyH.nil
  have E7 := implItemText_any 4 (certI c) _ v2 HI.out (Nat.le_trans (sz_cert HZ.out.1) (by decide))
  rw [<- HE.out, HT.out.1, HT.out.2] at E7
  go_simp
  refine E7.mono ?_
  rintro e v4 ⟨rfl, hv⟩
  have hH := KS.below hHeld hv
  clear E7
  go_wp2_with fail
  refine hK.out _ _ hH (fun hHeld => ?_)
  clear hK K hH hv
  try simp only [Act.put, zA, zB, zC]
  refine zT 6 13 ?_ rfl (by rfl) ?_ hHeld ?_
  rotate_left
  ·intro W hSw
   go_simp
   try with_reducible rfl
  try simp only [Act.put, zA, zB, zC]
  refine zT 7 14 ?_ rfl (by rfl) ?_ hHeld ?_
  rotate_left
  ·intro W hSw
   go_simp
   try with_reducible rfl
  try simp only [Act.put, zA, zB, zC]
  refine zT 8 2 ?_ rfl (by rfl) ?_ hHeld ?_
  rotate_left
  ·intro W hSw
   go_simp
   try with_reducible rfl
  try simp only [Act.put, zA, zB, zC]
  refine zT 9 3 ?_ rfl (by rfl) ?_ hHeld ?_
  rotate_left
  ·intro W hSw
   go_simp
   try with_reducible rfl
  try simp only [Act.put, zA, zB, zC]
  refine wpAnyH_done (by kernel_rfl) ?_ _
  have HEND : Hid (Below w.heap.size w _) := hHeld.1
  clear hHeld
  go_wp2_with fail
  go_ret2
  exact ⟨rfl, HEND.out⟩
end Go.Proofs.YtabfamhaihnccaaGreat
