/-
  Texts of the proof.
-/
import Derived.Test.YtcbjlbpkoneibaaGreatDoorSR17
import Derived.Test.YtcbjlbpkoneibaaGreatDoorSR33
set_option linter.unusedVariables false
set_option linter.unusedSimpArgs false
set_option maxRecDepth 100000
set_option maxHeartbeats 25600000
namespace Go.Proofs.YtcbjlbpkoneibaaGreatDoor
open Go.RowKit Der
theorem OwnR.off {w w' : World} {b : Nat} {v : Value} {l : List (Int × Int)} (h : OwnR w b v l) (hh : ∀ g, v.ownBlock = some g -> w'.heap[g]? = w.heap[g]?) : OwnR w' b v l := by
 obtain ⟨h1, h2⟩ := h;refine ⟨h1, ?_⟩
 rcases h2 with h2 | ⟨g, cap, cur, hv, hbg, hg, r⟩
 ·exact .inl h2
 ·exact .inr ⟨g, cap, cur, hv, hbg, (hh g (by rw [hv]; rfl)).trans hg, r⟩
def sgL (c : Cl) (i : Int) : Cl := { c with sig := sigB i (⟨((writeI 4 (bodyL c)).getD []).toArray⟩ : ByteArray) }
theorem write_small (c : Cl) : (⟨((writeI 4 (bodyL c)).getD []).toArray⟩ : ByteArray).size <= 1048576 := by
 cases h : writeI 4 (bodyL c) with
 | none => exact Nat.zero_le _
 | some t =>
  have := (write_some h).2.1;show t.length <= 1048576;omega
theorem specSignedCrl_any (c : Cl) (v : Value) (i : Int) (bs : Nat) (w : World) (hz : wtL c <= 1048576) (hw : WdL c) (hi : -9223372036854775808 <= i /\ i <= 9223372036854775807) (ha : OwnL w bs v c) :
  Calls Tryz.prog 17 #[v, zI i] w fun e w' => ∃ u, e = .returned u /\ OwnL w' w.heap.size u (sgL c i) /\ zW w w' := by
 obtain ⟨pv, rfl, h1⟩ := ha;obtain ⟨pa, pc, hpv, -, -, -⟩ := OwnR.shape h1;obtain ⟨lp, hlp⟩ := zE (c.revs.length);rw [hlp] at hpv;subst hpv;have hrl := (wtL_parts hz).2.1;have HZ : Hid (wtL c <= 1048576 /\ WdL c) := ⟨hz, hw⟩;have HA : Hid (OwnL w bs (.agg (zCl c (zS pa lp pc))) c /\ ClAt w (.agg (zCl c (zS pa lp pc))) c) := ⟨⟨_, rfl, h1⟩, ⟨_, rfl, h1.at⟩⟩;have HO : Hid (OwnR w bs (zS pa lp pc) c.revs /\ c.revs.length = lp /\ c.revs.length <= 1048576) := ⟨h1, hlp, hrl⟩;obtain ⟨T, hT⟩ := zE ((⟨((writeI 4 (bodyL c)).getD []).toArray⟩ : ByteArray));obtain ⟨SG, hSG⟩ := zE (sigB i T);have HT : Hid ((⟨((writeI 4 (bodyL c)).getD []).toArray⟩ : ByteArray) = T /\ sigB i T = SG /\ T.size <= 1048576 /\ (-9223372036854775808 <= i /\ i <= 9223372036854775807)) := ⟨hT, hSG, by rw [<- hT]; exact write_small c, hi⟩;clear h1 hlp hz hw hT hSG hi hrl;unfold clV;go_enter Tryz.func17, Tryz.ntmps17;go_wp2_with fail;obtain ⟨W2, hW2⟩ : ∃ W, W = (w.alloc (Obj.cells (zCl c (zS pa lp pc)) 26)).alloc (Obj.cells #[zG ⟨#[]⟩, zI 0, zI 0, zI 0, zI 0, zZ, zG ⟨#[]⟩] 26) := ⟨_, rfl⟩;rw [<- hW2];have G2 : Hid (Blk W2 w.heap.size 26 (zCl c (zS pa lp pc)) /\ Blk W2 (w.heap.size + 1) 26 #[zG ⟨#[]⟩, zI 0, zI 0, zI 0, zI 0, zZ, zG ⟨#[]⟩] /\ zW w W2 /\ w.heap.size + 2 <= W2.heap.size) := by
  have e0 : (w.alloc (Obj.cells (zCl c (zS pa lp pc)) 26)).heap.size = w.heap.size + 1 := Array.size_push _;have h := Blk.new (w.alloc (Obj.cells (zCl c (zS pa lp pc)) 26)) 26 #[zG ⟨#[]⟩, zI 0, zI 0, zI 0, zI 0, zZ, zG ⟨#[]⟩];rw [e0] at h;rw [hW2];exact ⟨(Blk.new w _ _).alloc _, h, ((Below.refl _ _).alloc (Nat.le_refl _) _).alloc (by rw [e0]; omega) _, by rw [size_alloc, e0]; omega⟩
 clear hW2;refine (crlCopy_any c (.agg (zCl c (zS pa lp pc))) bs W2 (by have := HO.2.2; omega) (HA.1.stays G2.2.2.1)).mono ?_;rintro e w3 ⟨u3, rfl, ⟨p3, rfl, ho3⟩, hb⟩;obtain ⟨qa, qc, hq3, -, -, -⟩ := OwnR.shape ho3;obtain ⟨ql, hql⟩ := zE (c.revs.length);rw [hql] at hq3;clear hql;subst hq3;have G3 := zH (zJ (G2.1.below hb G2.1.lt) (zJ (G2.2.1.below hb G2.2.1.lt) (zJ (G2.2.2.1.trans (hb.mono G2.2.2.1.size)) (zJ (ho3 : OwnR w3 W2.heap.size (zS qa ql qc) c.revs) (zJ (Nat.le_trans G2.2.2.2 hb.size) (zJ G2.2.2.2 hb.size))))));clear hb ho3 G2;unfold clV;have a0 := fun o j => (G3.1.alloc o).cell j
 go_wp2_with fail;clear a0;obtain ⟨W4, hW4⟩ : ∃ W, W = w3.alloc (Obj.cells (zCl c (zS qa ql qc)) 26) := ⟨_, rfl⟩;rw [<- hW4];obtain ⟨gl, hgl⟩ := zE (W2.heap.size);obtain ⟨gv, hgv⟩ := zE (w3.heap.size);have G4 : Hid (Blk W4 w.heap.size 26 (zCl c (zS pa lp pc)) /\ Blk W4 (w.heap.size + 1) 26 #[zG ⟨#[]⟩, zI 0, zI 0, zI 0, zI 0, zZ, zG ⟨#[]⟩] /\ Blk W4 gv 26 (zCl c (zS qa ql qc)) /\ zW w W4 /\ OwnR W4 gl (zS qa ql qc) c.revs) := by
  have hb : zW w3 W4 := by rw [hW4]; exact (Below.refl _ _).alloc (Nat.le_refl _) _
  exact ⟨G3.1.below hb G3.1.lt, G3.2.1.below hb G3.2.1.lt, by rw [hW4, <- hgv]; exact Blk.new w3 _ _, G3.2.2.1.trans (hb.mono G3.2.2.1.size), by rw [<- hgl]; exact G3.2.2.2.1.stays hb⟩
 have HRB : Hid (∀ g, (Value.slice qa ql qc).ownBlock = some g -> w.heap.size + 2 <= g /\ g ≠ gv) := fun g hg => by
  have h1 := World.ownsRow.lt G3.2.2.2.1 g hg;have h2 := G3.2.2.2.2;rw [<- hgv];omega
 have HGV : Hid (w.heap.size + 2 <= gv /\ w.heap.size + 2 <= gl /\ gl <= gv) := by rw [<- hgv, <- hgl]; exact ⟨G3.2.2.2.2.1, G3.2.2.2.2.2.1, G3.2.2.2.2.2.2⟩
 rw [hgv];clear hW4 hgv hgl G3;have E5 := specCrlBody_any c (.agg (zCl c (zS pa lp pc))) W4 HZ.1 HZ.2 (HA.2.below G4.2.2.2.1);rw [HT.1] at E5;refine E5.mono ?_;rintro e w5 ⟨rfl, hb⟩;have G5 := zH (zJ (G4.1.below hb G4.1.lt) (zJ (G4.2.1.below hb G4.2.1.lt) (zJ (G4.2.2.1.below hb G4.2.2.1.lt) (zJ (G4.2.2.2.1.trans (hb.mono G4.2.2.2.1.size)) (G4.2.2.2.2.stays hb)))));clear hb G4 E5;go_wp2_with fail;have E6 := specSign_any i T w5 HT.2.2.1 HT.2.2.2;rw [HT.2.1] at E6;refine E6.mono ?_;rintro e w6 ⟨rfl, hb⟩;have G6 := zH (zJ (G5.1.below hb G5.1.lt) (zJ (G5.2.1.below hb G5.2.1.lt) (zJ (G5.2.2.1.below hb G5.2.2.1.lt) (zJ (G5.2.2.2.1.trans (hb.mono G5.2.2.2.1.size)) (G5.2.2.2.2.stays hb)))));clear hb G5 E6;have b0 := fun j => G6.2.1.cell j
 have d0 := fun j => G6.2.2.1.cell j
 have fb := fun j => G6.2.1.free j
 have fd := fun j => G6.2.2.1.free j
 have wd1 : gv ≠ w.heap.size + 1 := by have := HGV.out; omega
 have wd2 : w.heap.size + 1 ≠ gv := by have := HGV.out; omega
 go_wp2_with fail;refine bodyPost_ret (v := clV (sgL c i) (zS qa ql qc)) (by rw [show sgL c i = { c with sig := SG } from by unfold sgL; rw [HT.1, HT.2.1]]; simp [results, Tryz.results17, go_sem, clV, b0]) rfl ⟨_, rfl, ⟨_, rfl, (G6.2.2.2.2.off ?far).base (by have := HGV.out; omega)⟩, ?bel⟩
 case far =>
  intro b hb;have h1 := HGV.out;have h2 := HRB.out b hb
  iterate 8 rw [heap_setCell_other _ _ _ _ (by first | (show b ≠ w.heap.size + 1; omega) | (show b ≠ gv; omega))]
 case bel =>
  have h1 := HGV.out
  iterate 8 refine Below.setCell ?_ (by first | (show w.heap.size <= w.heap.size + 1; omega) | (show w.heap.size <= gv; omega)) _
  exact G6.2.2.2.1
end Go.Proofs.YtcbjlbpkoneibaaGreatDoor
namespace Go.Proofs.YtcbjlbpkoneibaaGreatDoor.Der
def sizeG : List UInt8 -> Option (Nat × Nat)
 | [] => none
 | b :: r => if b.toNat < 128 then some (b.toNat, 1) else if 2 < b.toNat - 128 ∨ r.length < b.toNat - 128 then none
   else if lenB (valB8 (r.take (b.toNat - 128))) = (b :: r).take (1 + (b.toNat - 128)) then some (valB8 (r.take (b.toNat - 128)), 1 + (b.toNat - 128)) else none
def rdG : (n : Nat) -> List UInt8 -> Option (It n × Nat)
 | 0, _ => none
 | _ + 1, [] => none
 | n + 1, b :: r => match sizeG r with
  | none => none
  | some (sz, c) => if (r.drop c).length < sz then none
   else if b.toNat ≠ 48 then some (It.mk (b.toNat : Int) ((r.drop c).take sz) [], 1 + c + sz)
   else match kidsL (rdG n) ((r.drop c).take sz).length ((r.drop c).take sz) with
    | none => none
    | some ks => some (It.mk (b.toNat : Int) [] ks, 1 + c + sz)
theorem valB8_lt256 : ∀ (k : Nat) (s : List UInt8), s.length = k -> valB8 s < 256 ^ k := by
 intro k
 induction k with
 | zero => intro s hl; obtain rfl : s = [] := List.eq_nil_of_length_eq_zero hl; simp [valB8]
 | succ k ih =>
  intro s hl;have hne : s ≠ [] := fun e => by subst e; simp at hl
  obtain ⟨l, b, rfl⟩ : ∃ l b, s = l ++ [b] := ⟨s.dropLast, s.getLast hne, (List.dropLast_concat_getLast _).symm⟩;rw [valB8_snoc];have h1 := ih l (by simpa using hl);have h2 := b.toNat_lt;rw [Nat.pow_succ];omega
theorem sizeG_cons (b : UInt8) (r : List UInt8) : sizeG (b :: r) = if b.toNat < 128 then some (b.toNat, 1) else if 2 < b.toNat - 128 ∨ r.length < b.toNat - 128 then none
   else if lenB (valB8 (r.take (b.toNat - 128))) = (b :: r).take (1 + (b.toNat - 128)) then some (valB8 (r.take (b.toNat - 128)), 1 + (b.toNat - 128)) else none := rfl
theorem sizeG_some {l : List UInt8} {z c : Nat} (h : sizeG l = some (z, c)) : l.take c = lenB z /\ c = (lenB z).length /\ c <= l.length /\ z < 65536 := by
 cases l with
 | nil => simp [sizeG] at h
 | cons b r =>
  rw [sizeG_cons] at h
  split at h
  ·next hb =>
   simp only [Option.some.injEq, Prod.mk.injEq] at h;obtain ⟨rfl, rfl⟩ := h;have e : lenB b.toNat = [b] := by
    unfold lenB;rw [if_pos hb];simp
   rw [e];exact ⟨by simp, rfl, by simp, by omega⟩
  ·split at h
   ·simp at h
   ·next hn =>
    split at h
    ·next he =>
     simp only [Option.some.injEq, Prod.mk.injEq] at h;obtain ⟨rfl, rfl⟩ := h;refine ⟨he.symm, ?_, by simp; omega, ?_⟩
     ·rw [he]; simp; omega
     ·have h1 := valB8_lt256 _ (r.take (b.toNat - 128)) rfl
      have h2 : (r.take (b.toNat - 128)).length <= 2 := by simp; omega
      have h3 : 256 ^ (r.take (b.toNat - 128)).length <= 256 ^ 2 := Nat.pow_le_pow_right (by decide) h2;omega
    ·simp at h
theorem sizeG_len {n : Nat} (h : n < 65536) (r : List UInt8) : sizeG (lenB n ++ r) = some (n, (lenB n).length) := by
 have e0 : lenB n = if n < 128 then [UInt8.ofNat n] else UInt8.ofNat (128 + (beN 9 n).length) :: beN 9 n := rfl;by_cases h1 : n < 128
 ·rw [if_pos h1] at e0
  have e : (UInt8.ofNat n).toNat = n := by rw [UInt8.toNat_ofNat']; omega
  rw [e0];simp [sizeG, e, h1]
 ·rw [if_neg h1] at e0
  have hl := beN_len2 (by omega) h;obtain ⟨k, hk⟩ := zE ((beN 9 n).length);have e : (UInt8.ofNat (128 + k)).toNat = 128 + k := by rw [UInt8.toNat_ofNat']; omega
  rw [hk] at hl e0;have hv : valB8 (beN 9 n) = n := beN_val 9 n (by omega);have ht : (beN 9 n ++ r).take k = beN 9 n := by rw [<- hk]; simp
  have hE : sizeG (UInt8.ofNat (128 + k) :: (beN 9 n ++ r)) = some (n, 1 + k) := by
   rw [sizeG_cons];simp only [e];rw [if_neg (by omega), show 128 + k - 128 = k by omega, if_neg (by rw [List.length_append, hk]; omega), ht, hv, if_pos];rw [e0, show 1 + k = k + 1 by omega, List.take_succ_cons, ht]
  rw [e0, List.cons_append, hE, List.length_cons, hk, Nat.add_comm]
theorem kids_flat {n : Nat} (ih : ∀ t x u, rdG n t = some (x, u) -> u <= t.length /\ 2 <= u /\ txtI n x = t.take u) : ∀ (m : Nat) (l : List UInt8) (ks : List (It n)), kidsL (rdG n) m l = some ks -> (ks.map (txtI n)).flatten = l
 | m, [], ks, h => by cases m <;> (simp only [kidsL, Option.some.injEq] at h; subst h; rfl)
 | 0, _ :: _, ks, h => by simp [kidsL] at h
 | m + 1, b :: l, ks, h => by
  unfold kidsL at h
  split at h
  ·simp at h
  ·next x u hx =>
   split at h
   ·simp at h
   ·next xs hxs =>
    simp only [Option.some.injEq] at h;subst h;obtain ⟨_, _, h3⟩ := ih _ _ _ hx;rw [List.map_cons, List.flatten_cons, kids_flat ih m _ xs hxs, h3, List.take_append_drop]
theorem byte_back (b : UInt8) : UInt8.ofNat ((b.toNat : Int) % 256).toNat = b := by
 have h := b.toNat_lt;have e : ((b.toNat : Int) % 256).toNat = b.toNat := by omega
 rw [e];simp
theorem txt_mk {n : Nat} (t : Int) (s : List UInt8) (ks : List (It n)) : txtI (n + 1) (It.mk t s ks) = UInt8.ofNat (t % 256).toNat :: (lenB (if t = 48 then s ++ (ks.map (txtI n)).flatten else s).length ++ (if t = 48 then s ++ (ks.map (txtI n)).flatten else s)) := rfl
theorem rdG_txt : ∀ (n : Nat) (t : List UInt8) (x : It n) (u : Nat), rdG n t = some (x, u) -> u <= t.length /\ 2 <= u /\ txtI n x = t.take u
 | 0, t, x, u, h => by simp [rdG] at h
 | n + 1, [], x, u, h => by simp [rdG] at h
 | n + 1, b :: r, x, u, h => by
  unfold rdG at h
  split at h
  ·simp at h
  ·next sz c hs =>
   obtain ⟨h1, h2, h3, h4⟩ := sizeG_some hs;have hp := lenB_pos sz
   split at h
   ·simp at h
   ·next hn =>
    have hle : sz <= (r.drop c).length := by omega
    have hlr : (r.drop c).length = r.length - c := List.length_drop;have hlt : ((r.drop c).take sz).length = sz := by rw [List.length_take]; omega
    have htk : (b :: r).take (1 + c + sz) = b :: (r.take c ++ (r.drop c).take sz) := by
     rw [show 1 + c + sz = (c + sz) + 1 by omega, List.take_succ_cons, List.take_add]
    split at h
    ·next hb =>
     simp only [Option.some.injEq, Prod.mk.injEq] at h;obtain ⟨rfl, rfl⟩ := h;refine ⟨by simp only [List.length_cons]; omega, by omega, ?_⟩;rw [txt_mk, if_neg (show ¬ (b.toNat : Int) = 48 by omega), byte_back, hlt, htk, h1]
    ·next hb =>
     split at h
     ·simp at h
     ·next ks hk =>
      simp only [Option.some.injEq, Prod.mk.injEq] at h;obtain ⟨rfl, rfl⟩ := h;refine ⟨by simp only [List.length_cons]; omega, by omega, ?_⟩;have hf := kids_flat (rdG_txt n) _ _ ks hk;rw [txt_mk, if_pos (show (b.toNat : Int) = 48 by omega), byte_back, hf, List.nil_append, hlt, htk, h1]
theorem flat_ge {n : Nat} : ∀ (ks : List (It n)), (∀ x ∈ ks, 0 < (txtI n x).length) -> ks.length <= ((ks.map (txtI n)).flatten).length
 | [], _ => Nat.zero_le _
 | x :: ks, h => by
  have h1 := h x (by simp);have h2 := flat_ge ks (fun y hy => h y (by simp [hy]));rw [List.map_cons, List.flatten_cons, List.length_append, List.length_cons];omega
theorem rdG_back : ∀ (m : Nat) (y : It m) (d n : Nat), m <= n -> rightI m y d = true -> (txtI m y).length < 65536 -> ∀ r, ∃ x : It n, sameI m n y x = true /\ rdG n (txtI m y ++ r) = some (x, (txtI m y).length)
 | 0, y, _, _, _, h, _, _ => by simp [rightI] at h
 | m + 1, y, d, 0, hn, _, _, _ => by omega
 | m + 1, y, d, n + 1, hn, h, hl, r => by
  obtain ⟨t, s, ks⟩ : Int × List UInt8 × List (It m) := y;change rightI (m + 1) (It.mk t s ks) d = true at h;change (txtI (m + 1) (It.mk t s ks)).length < 65536 at hl;show ∃ x : It (n + 1), sameI (m + 1) (n + 1) (It.mk t s ks) x = true /\ rdG (n + 1) (txtI (m + 1) (It.mk t s ks) ++ r) = some (x, (txtI (m + 1) (It.mk t s ks)).length);unfold rightI at h;simp only [It.tag_mk, It.text_mk, It.kids_mk] at h;unfold txtI at hl |-;simp only [It.tag_mk, It.text_mk, It.kids_mk] at hl |-;by_cases h48 : t = 48
  ·subst h48
   simp only [ne_eq, not_true_eq_false, if_false, if_true, Bool.and_eq_true, List.all_eq_true] at h hl |-;obtain ⟨⟨⟨hs, hk⟩, hd6⟩, hall⟩ := h;replace hs := of_decide_eq_true hs;obtain rfl : s = [] := List.eq_nil_of_length_eq_zero hs;rw [List.nil_append] at hl |-;have hb : ((ks.map (txtI m)).flatten).length < 65536 := by
    simp only [List.length_cons, List.length_append] at hl;omega
   have hpos : ∀ x ∈ ks, 0 < (txtI m x).length := fun x hx => by
    have hr := hall x hx
    cases m with
    | zero => simp [rightI] at hr
    | succ m => exact txtI_pos x
   obtain ⟨ys, hy1, hy2, hy3⟩ := kids_back (rdG n) (txtI m) (fun x y => sameI m n x y = true) ks ((ks.map (txtI m)).flatten).length (flat_ge ks hpos) (fun x hx => ⟨hpos x hx, fun r => by
    have hxl := flat_len (txtI m) ks x hx;exact rdG_back m x (d + 1) n (by omega) (hall x hx) (by omega) r⟩)
   refine ⟨It.mk 48 [] ys, ?_, ?_⟩
   ·unfold sameI
    simp only [It.tag_mk, It.text_mk, It.kids_mk, hy1, decide_true, Bool.true_and];exact List.all_eq_true.2 hy2
   ·rw [List.cons_append, List.append_assoc]
    unfold rdG;rw [sizeG_len hb];simp only;rw [show (lenB ((ks.map (txtI m)).flatten).length ++ ((ks.map (txtI m)).flatten ++ r)).drop (lenB ((ks.map (txtI m)).flatten).length).length = (ks.map (txtI m)).flatten ++ r by simp];rw [if_neg (by rw [List.length_append]; omega), if_neg (by decide)];rw [show ((ks.map (txtI m)).flatten ++ r).take ((ks.map (txtI m)).flatten).length = (ks.map (txtI m)).flatten by simp, hy3];simp only [List.length_cons, List.length_append]
    congr 2
    omega
  ·simp only [h48, ne_eq, not_false_eq_true, if_true, if_false, Bool.and_eq_true] at h hl |-
   obtain ⟨hk, hp⟩ := h;replace hk := of_decide_eq_true hk;obtain rfl : ks = [] := List.eq_nil_of_length_eq_zero hk;have ht := plainOk_tag hp;have hb : s.length < 65536 := by
    simp only [List.length_cons, List.length_append] at hl;omega
   have hbt : ((UInt8.ofNat (t % 256).toNat).toNat : Int) = t /\ (UInt8.ofNat (t % 256).toNat).toNat ≠ 48 := by
    rcases ht with rfl | rfl | rfl | rfl <;> decide
   refine ⟨It.mk t s [], ?_, ?_⟩
   ·unfold sameI
    simp [It.tag_mk, It.text_mk, It.kids_mk]
   ·rw [List.cons_append, List.append_assoc]
    unfold rdG;rw [sizeG_len hb];simp only;rw [show (lenB s.length ++ (s ++ r)).drop (lenB s.length).length = s ++ r by simp];rw [if_neg (by rw [List.length_append]; omega), if_pos hbt.2, hbt.1];rw [show (s ++ r).take s.length = s by simp];simp only [List.length_cons, List.length_append]
    congr 2
    omega
def readG (n : Nat) (t : List UInt8) : Option (It n) := if 4000 < t.length then none else match rdG n t with
 | none => none
 | some (x, u) => if u = t.length /\ rightI n x 0 = true then some x else none
theorem same_comm : ∀ (n m : Nat) (x : It n) (y : It m), sameI n m x y = true -> sameI m n y x = true
 | 0, _, _, _, h => by simp [sameI] at h
 | n + 1, 0, _, _, h => by simp [sameI] at h
 | n + 1, m + 1, x, y, h => by
  obtain ⟨h1, h2, h3, h4⟩ := same_parts h;unfold sameI;simp only [h1, h2, h3, decide_true, Bool.true_and, List.all_eq_true];intro p hp;refine same_comm n m p.2 p.1 (h4 (p.2, p.1) ?_);obtain ⟨j, hj, e⟩ := List.getElem_of_mem hp;rw [List.getElem_zip] at e;rw [List.length_zip] at hj;rw [<- e];exact List.mem_iff_getElem.2 ⟨j, by rw [List.length_zip]; omega, by rw [List.getElem_zip]⟩
theorem readG_some {n : Nat} {t : List UInt8} {x : It n} (h : readG n t = some x) : writeI n x = some t := by
 unfold readG at h
 split at h
 ·simp at h
 ·next hl =>
  split at h
  ·simp at h
  ·next x' u hr =>
   split at h
   ·next hc =>
    simp only [Option.some.injEq] at h;subst h;obtain ⟨_, _, h3⟩ := rdG_txt n t x' u hr;rw [hc.1, List.take_length] at h3;unfold writeI;rw [if_pos ⟨hc.2, by rw [h3]; omega⟩, h3]
   ·simp at h
theorem readG_same {n : Nat} {t : List UInt8} {x : It n} (h : readG n t = some x) : ∃ y : It 7, sameI n 7 x y = true /\ readI t = some y := read_back (readG_some h)
theorem readG_of {n : Nat} (hn : 7 <= n) {t : List UInt8} {y : It 7} (h : readI t = some y) : ∃ x : It n, readG n t = some x /\ sameI n 7 x y = true := by
 obtain ⟨h1, _⟩ := read_some h;obtain ⟨g1, g2, g3⟩ := write_some h1;obtain ⟨x, hx, hr⟩ := rdG_back 7 y 0 n hn g1 (by rw [g3]; omega) [];rw [List.append_nil, g3] at hr;refine ⟨x, ?_, same_comm 7 n y x hx⟩;unfold readG;rw [if_neg (by omega), hr];show (if t.length = t.length /\ rightI n x 0 = true then some x else none) = some x;rw [if_pos ⟨rfl, by rw [<- same_right 7 n y x 0 hx]; exact g1⟩]
theorem readG_none {n : Nat} (hn : 7 <= n) (t : List UInt8) : readG n t = none ↔ readI t = none := by
 constructor
 ·intro h
  cases hq : readI t with
  | none => rfl
  | some y => obtain ⟨x, hx, _⟩ := readG_of hn hq; rw [h] at hx; cases hx
 ·intro h
  cases hq : readG n t with
  | none => rfl
  | some x => obtain ⟨y, _, hy⟩ := readG_same hq; rw [h] at hy; cases hy
end Go.Proofs.YtcbjlbpkoneibaaGreatDoor.Der
namespace Go.Proofs.YtcbjlbpkoneibaaGreatDoor
open Go.RowKit Der
theorem same_trans : ∀ (n m k : Nat) (x : It n) (y : It m) (z : It k), sameI n m x y = true -> sameI m k y z = true -> sameI n k x z = true
 | 0, _, _, _, _, _, h, _ => by simp [sameI] at h
 | _ + 1, 0, _, _, _, _, h, _ => by simp [sameI] at h
 | _ + 1, _ + 1, 0, _, _, _, _, h => by simp [sameI] at h
 | n + 1, m + 1, k + 1, x, y, z, h, h' => by
  obtain ⟨h1, h2, h3, h4⟩ := same_parts h;obtain ⟨g1, g2, g3, g4⟩ := same_parts h';show (decide (It.tag x = It.tag z) && decide (It.text x = It.text z) && decide ((It.kids x).length = (It.kids z).length) && ((It.kids x).zip (It.kids z)).all fun p => sameI n k p.1 p.2) = true;rw [h1, g1, h2, g2, h3, g3, same_all (h3.trans g3) fun j a b => ?_]
  ·simp
  ·refine same_trans n m k _ ((It.kids y)[j]'(by omega)) _ (h4 ((It.kids x)[j], (It.kids y)[j]'(by omega)) ?_) (g4 ((It.kids y)[j]'(by omega), (It.kids z)[j]) ?_)
   ·rw [List.mem_iff_getElem]
    exact ⟨j, by rw [List.length_zip]; omega, by simp⟩
   ·rw [List.mem_iff_getElem]
    exact ⟨j, by rw [List.length_zip]; omega, by simp⟩
theorem same_written {n m : Nat} {x : It n} {y : It m} {t : List UInt8} (hx : writeI n x = some t) (hy : writeI m y = some t) : sameI n m x y = true := by
 obtain ⟨a, h1, h2⟩ := read_back hx;obtain ⟨b, h3, h4⟩ := read_back hy;rw [h2] at h4;injection h4 with h4
 subst h4;exact same_trans n 7 m x a y h1 (same_comm m 7 y a h3)
end Go.Proofs.YtcbjlbpkoneibaaGreatDoor
namespace Go.Proofs.YtcbjlbpkoneibaaGreatDoor
open Go.RowKit Der
def baL (s : List UInt8) : ByteArray := ⟨s.toArray⟩
theorem baL_back (s : ByteArray) : baL s.data.toList = s := by
 obtain ⟨d⟩ := s;obtain ⟨l⟩ := d;rfl
def nextP {k : Nat} (tag : Int) : List (It (k + 1)) -> Option (It (k + 1) × List (It (k + 1)))
 | [] => none
 | y :: r => if It.tag y = tag then some (y, r) else none
def numP {k : Nat} (ks : List (It (k + 1))) : Option (Int × List (It (k + 1))) :=
 match nextP 2 ks with
 | none => none
 | some (y, r) => match inI (k + 1) y with
  | none => none
  | some v => some ((v : Int), r)
def txtP {k : Nat} (tag : Int) (ks : List (It (k + 1))) : Option (ByteArray × List (It (k + 1))) :=
 match nextP tag ks with
 | none => none
 | some (y, r) => some (baL (It.text y), r)
def lstP {k : Nat} (ks : List (It (k + 1))) : Option (List (It k) × List (It (k + 1))) :=
 match nextP 48 ks with
 | none => none
 | some (y, r) => some (It.kids y, r)
def endP {α : Type} (ks : List α) : Option Unit := if ks = [] then some () else none
def numI {k : Nat} (y : It (k + 1)) : Int := ((inI (k + 1) y).getD 0 : Nat)
theorem next_some {k : Nat} {tag : Int} {ks : List (It (k + 1))} {y : It (k + 1)} {r : List (It (k + 1))} (h : nextP tag ks = some (y, r)) : ks = y :: r /\ It.tag y = tag := by
 cases ks with
 | nil => cases h
 | cons a l =>
  change (if It.tag a = tag then some (a, l) else none) = some (y, r) at h;by_cases ht : It.tag a = tag
  ·rw [if_pos ht] at h
   injection h with h
   injection h with h1 h2
   subst h1 h2;exact ⟨rfl, ht⟩
  ·rw [if_neg ht] at h
   cases h
theorem num_some {k : Nat} {ks : List (It (k + 1))} {p : Int × List (It (k + 1))} (h : numP ks = some p) : ∃ y n, ks = y :: p.2 /\ It.tag y = 2 /\ inI (k + 1) y = some n /\ p.1 = (n : Int) := by
 unfold numP at h
 split at h
 ·cases h
 ·next y r hn =>
  obtain ⟨h1, h2⟩ := next_some hn
  split at h
  ·cases h
  ·next v hv =>
   simp only [Option.some.injEq] at h;subst h;exact ⟨y, v, h1, h2, hv, rfl⟩
theorem txt_some {k : Nat} {tag : Int} {ks : List (It (k + 1))} {p : ByteArray × List (It (k + 1))} (h : txtP tag ks = some p) : ∃ y, ks = y :: p.2 /\ It.tag y = tag /\ p.1 = baL (It.text y) := by
 unfold txtP at h
 split at h
 ·cases h
 ·next y r hn =>
  obtain ⟨h1, h2⟩ := next_some hn;simp only [Option.some.injEq] at h;subst h;exact ⟨y, h1, h2, rfl⟩
theorem lst_some {k : Nat} {ks : List (It (k + 1))} {p : List (It k) × List (It (k + 1))} (h : lstP ks = some p) : ∃ y, ks = y :: p.2 /\ It.tag y = 48 /\ p.1 = It.kids y := by
 unfold lstP at h
 split at h
 ·cases h
 ·next y r hn =>
  obtain ⟨h1, h2⟩ := next_some hn;simp only [Option.some.injEq] at h;subst h;exact ⟨y, h1, h2, rfl⟩
theorem end_some {α : Type} {ks : List α} {p : Unit} (h : endP ks = some p) : ks = [] := by
 unfold endP at h
 split at h
 ·assumption
 ·cases h
theorem same_of {n m : Nat} {x : It (n + 1)} {y : It (m + 1)} (h1 : It.tag x = It.tag y) (h2 : It.text x = It.text y) (h3 : (It.kids x).length = (It.kids y).length) (h4 : ∀ j (h1 : j < (It.kids x).length) (h2 : j < (It.kids y).length), sameI n m (It.kids x)[j] (It.kids y)[j] = true) : sameI (n + 1) (m + 1) x y = true := by
 unfold sameI;rw [h1, h2, h3, same_all h3 h4];simp
theorem right_leaf {n d : Nat} {y : It (n + 1)} (h : rightI (n + 1) y d = true) (ht : It.tag y ≠ 48) : It.kids y = [] /\ plainOk (It.tag y) (It.text y) = true := by
 unfold rightI at h;rw [if_pos ht, Bool.and_eq_true] at h;exact ⟨List.eq_nil_of_length_eq_zero (of_decide_eq_true h.1), h.2⟩
theorem right_list {n d : Nat} {y : It (n + 1)} (h : rightI (n + 1) y d = true) (ht : It.tag y = 48) : It.text y = [] /\ ∀ z ∈ It.kids y, rightI n z (d + 1) = true := by
 unfold rightI at h;rw [if_neg (by simp [ht])] at h;simp only [Bool.and_eq_true, List.all_eq_true] at h;exact ⟨List.eq_nil_of_length_eq_zero (of_decide_eq_true h.1.1.1), h.2⟩
theorem in_some {n : Nat} {y : It (n + 1)} {v : Nat} (h : inI (n + 1) y = some v) : It.tag y = 2 /\ It.kids y = [] /\ It.text y = intT v /\ v <= 1000000000 := by
 change (if It.tag y = 2 /\ rightI (n + 1) y 0 = true /\ valB8 (It.text y) <= 1000000000 then some (valB8 (It.text y)) else none) = some v at h;by_cases hc : It.tag y = 2 /\ rightI (n + 1) y 0 = true /\ valB8 (It.text y) <= 1000000000
 ·rw [if_pos hc] at h
  injection h with h
  obtain ⟨h1, h2⟩ := right_leaf hc.2.1 (by rw [hc.1]; decide);rw [hc.1] at h2;exact ⟨hc.1, h1, by rw [<- h]; exact (intT_back h2).symm, by rw [<- h]; exact hc.2.2⟩
 ·rw [if_neg hc] at h
  cases h
theorem numN_nat {v : Nat} (h : v <= 1000000000) : numN (v : Int) = v := by unfold numN; rw [if_pos ⟨by omega, by omega⟩]; rfl
theorem leaf_int {n m : Nat} {y : It (n + 1)} {v : Nat} (h : inI (n + 1) y = some v) : sameI (n + 1) (m + 1) y (intI (v : Int)) = true := by
 obtain ⟨h1, h2, h3, h4⟩ := in_some h;refine same_of h1 ?_ (by rw [h2]; rfl) fun j a => absurd a (by rw [h2]; exact Nat.not_lt_zero _)
 rw [h3];show intT v = intT (numN v);rw [numN_nat h4]
theorem leaf_txt {n m d : Nat} {y : It (n + 1)} (h : rightI (n + 1) y d = true) (ht : It.tag y = 12) : sameI (n + 1) (m + 1) y (txtJ (baL (It.text y))) = true := by
 obtain ⟨h1, h2⟩ := right_leaf h (by rw [ht]; decide);exact same_of ht rfl (by rw [h1]; rfl) fun j a => absurd a (by rw [h1]; exact Nat.not_lt_zero _)
theorem leaf_byt {n m d : Nat} {y : It (n + 1)} (h : rightI (n + 1) y d = true) (ht : It.tag y = 4) : sameI (n + 1) (m + 1) y (bytJ (baL (It.text y))) = true := by
 obtain ⟨h1, h2⟩ := right_leaf h (by rw [ht]; decide);exact same_of ht rfl (by rw [h1]; rfl) fun j a => absurd a (by rw [h1]; exact Nat.not_lt_zero _)
theorem same_lst {n m : Nat} {x : It (n + 1)} {ks : List (It n)} {ls : List (It m)} (ht : It.tag x = 48) (hs : It.text x = []) (hk : It.kids x = ks) (h : ks.length = ls.length /\ ((ks.zip ls).all fun p => sameI n m p.1 p.2) = true) : sameI (n + 1) (m + 1) x (lstJ ls) = true := by
 unfold sameI;have e1 : It.tag (lstJ ls) = 48 := rfl;have e2 : It.text (lstJ ls) = [] := rfl;have e3 : It.kids (lstJ ls) = ls := rfl;rw [ht, hs, hk, e1, e2, e3, h.1, h.2];simp
theorem in_same {n m : Nat} {y : It (n + 1)} {v : Int} (h : sameI (n + 1) (m + 1) y (intI v) = true) (h0 : 0 <= v) (h1 : v <= 1000000000) : It.tag y = 2 /\ inI (n + 1) y = some v.toNat /\ numI y = v := by
 obtain ⟨e1, e2, e3, _⟩ := same_parts h;have e1' : It.tag y = 2 := e1;have e2' : It.text y = intT (numN v) := e2;have hv : numN v = v.toNat := by unfold numN; rw [if_pos ⟨h0, h1⟩]
 have hr : rightI (n + 1) y 0 = true := by
  unfold rightI;rw [if_pos (by rw [e1']; decide), e1', e2', intT_ok (numN_le v)];have : (It.kids y).length = 0 := e3;simp [this]
 have hi : inI (n + 1) y = some v.toNat := by
  show (if It.tag y = 2 /\ rightI (n + 1) y 0 = true /\ valB8 (It.text y) <= 1000000000 then some (valB8 (It.text y)) else none) = some v.toNat;rw [e2', intT_val (numN_le v), if_pos ⟨e1', hr, numN_le v⟩, hv]
 refine ⟨e1', hi, ?_⟩;unfold numI;rw [hi];show ((v.toNat : Nat) : Int) = v;omega
theorem txt_same {n m : Nat} {y : It (n + 1)} {s : ByteArray} (h : sameI (n + 1) (m + 1) y (txtJ s) = true) : It.tag y = 12 /\ baL (It.text y) = s := by
 obtain ⟨e1, e2, _, _⟩ := same_parts h;exact ⟨e1, by rw [e2]; exact baL_back s⟩
theorem byt_same {n m : Nat} {y : It (n + 1)} {s : ByteArray} (h : sameI (n + 1) (m + 1) y (bytJ s) = true) : It.tag y = 4 /\ baL (It.text y) = s := by
 obtain ⟨e1, e2, _, _⟩ := same_parts h;exact ⟨e1, by rw [e2]; exact baL_back s⟩
theorem list_two {α : Type} {l : List α} (h : l.length = 2) : ∃ a b, l = [a, b] := by
 match l, h with
 | [a, b], _ => exact ⟨a, b, rfl⟩
theorem inB_of {n lo hi : Int} (h : inB n lo hi = true) : lo <= n /\ n <= hi := of_decide_eq_true h
theorem write_same {n m : Nat} {x : It n} {y : It m} (h : sameI n m x y = true) : writeI n x = writeI m y := by
 unfold writeI;rw [same_right n m x y 0 h, same_txt n m x y h]
end Go.Proofs.YtcbjlbpkoneibaaGreatDoor
