/-
  Texts of the proof.
-/
import Derived.Test.YtplblechcnbieaaGreatRows
import Derived.Deep.RegionHeld3
import Derived.ProofKit
import Derived.OpenShut
import Derived.ShutString
import Derived.Test.YtplblechcnbieaaGreatSB39
set_option maxRecDepth 100000
set_option maxHeartbeats 25600000
namespace Go.Proofs.YtplblechcnbieaaGreat
open Go.ChangeShapes Go.WideShapes Go.ChangeAt Go.RowKit
open Go.ChangeMaps (open_string shut_string)
set_option linter.unusedVariables false
set_option linter.unusedSimpArgs false
theorem walk_FnExactAddCrl (a b : Array Value) (w : World) (h1 : ∃ s, ArgO w.heap.size w (.agg a) s /\ WdO s) (h2 : ∃ c, ArgL w.heap.size w (.agg b) c /\ WdL c) : Calls Tryz.prog 5 #[.agg a, .agg b] w fun e w' => e = .returned (.bool true) /\ Below w.heap.size w w' := by
 obtain ⟨s, hx, wd⟩ := h1
 obtain ⟨c, hy, wc⟩ := h2
 obtain ⟨a1, c1, a2, c2, a3, c3, hva, -⟩ := id hx
 injection hva with hva
 subst hva
 obtain ⟨pa, pc, hvb⟩ := hy.shape
 injection hvb with hvb
 subst hvb
 obtain ⟨n1, e1⟩ := zE (s.certs.length)
 obtain ⟨n2, e2⟩ := zE (s.crls.length)
 obtain ⟨n3, e3⟩ := zE (s.ancs.length)
 rw [e1, e2, e3] at hx |-
 have Z1 : Hid (∀ W, Below w.heap.size w W -> Calls Tryz.prog 7 #[.agg #[.slice a1 n1 c1, .slice a2 n2 c2, .slice a3 n3 c3], .int .i64 1048576] W fun e w' => e = .returned (.int .i64 (szO s 1048576)) /\ Below W.heap.size W w') := fun W hb => szStore_any s _ 1048576 W wd (by decide) (by decide) (hx.below hb hb.size)
 unfold szO at Z1
 by_cases hz : wtO s <= 1048576
 rotate_left
 ·rw [if_neg (by omega)] at Z1
  clear hz hx wd hy wc e1 e2 e3
  go_enter Tryz.func5, Tryz.ntmps5
  go_wp2_with fail
  obtain ⟨W0, hW0⟩ : ∃ W, W = (w.alloc (Obj.cells #[.slice a1 n1 c1, .slice a2 n2 c2, .slice a3 n3 c3] 26)).alloc (Obj.cells #[.string c.issuer, .int .i64 c.num, .int .i64 c.ths, .int .i64 c.nxt, .int .i64 c.bas, .slice pa c.revs.length pc, .string c.sig] 52) := ⟨_, rfl⟩
  rw [<- hW0]
  have e0 : (w.alloc (Obj.cells #[.slice a1 n1 c1, .slice a2 n2 c2, .slice a3 n3 c3] 26)).heap.size = w.heap.size + 1 := Array.size_push _
  have HB : Hid (Below w.heap.size w W0) := by rw [hW0]; exact ((Below.refl _ _).alloc (Nat.le_refl _) _).alloc (by rw [e0]; omega) _
  have HA : Hid (Blk W0 w.heap.size 26 #[.slice a1 n1 c1, .slice a2 n2 c2, .slice a3 n3 c3]) := by rw [hW0]; exact (Blk.new w _ _).alloc _
  have HC : Hid (Blk W0 (w.heap.size + 1) 52 #[.string c.issuer, .int .i64 c.num, .int .i64 c.ths, .int .i64 c.nxt, .int .i64 c.bas, .slice pa c.revs.length pc, .string c.sig]) := by
   have h := Blk.new (w.alloc (Obj.cells #[.slice a1 n1 c1, .slice a2 n2 c2, .slice a3 n3 c3] 26)) 52 #[.string c.issuer, .int .i64 c.num, .int .i64 c.ths, .int .i64 c.nxt, .int .i64 c.bas, .slice pa c.revs.length pc, .string c.sig]
   rw [e0] at h
   rw [hW0]
   exact h
  have O0 : Hid (w.heap.size + 1 + 1 <= W0.heap.size) := by show _ <= _; rw [hW0, size_alloc, e0]; omega
  clear hW0 e0
  refine (Z1.out W0 HB.out).mono ?_
  rintro e w1 ⟨rfl, hb⟩
  replace HB := zH (Below.on HB.out hb HB.out.size)
  replace HA := zH (HA.out.below hb HA.out.lt)
  replace HC := zH (HC.out.below hb HC.out.lt)
  have O1 : Hid (W0.heap.size <= w1.heap.size) := hb.size
  clear hb Z1
  go_wp2_with fail
  go_ret
  exact ⟨rfl, HB.out⟩
 rw [if_pos (by omega)] at Z1
 obtain ⟨z, hze⟩ : ∃ z : Int, z = 1048576 - (wtO s : Int) := ⟨_, rfl⟩
 have hz0 : ¬ z < 0 := by omega
 rw [<- hze] at Z1
 have Z2 : Hid (∀ W, Below w.heap.size w W -> Calls Tryz.prog 20 #[.agg #[.string c.issuer, .int .i64 c.num, .int .i64 c.ths, .int .i64 c.nxt, .int .i64 c.bas, .slice pa c.revs.length pc, .string c.sig], .int .i64 z] W fun e w' => e = .returned (.int .i64 (szL c z)) /\ Below W.heap.size W w') := fun W hb => szCrl_any c _ z W wc (by omega) (by omega) ((hy.below hb).mono hb.size)
 unfold szL at Z2
 by_cases hq : (wtL c : Int) <= z
 rotate_left
 ·rw [if_neg hq] at Z2
  clear hz hx wd hy wc e1 e2 e3 hq hze
  go_enter Tryz.func5, Tryz.ntmps5
  go_wp2_with fail
  obtain ⟨W0, hW0⟩ : ∃ W, W = (w.alloc (Obj.cells #[.slice a1 n1 c1, .slice a2 n2 c2, .slice a3 n3 c3] 26)).alloc (Obj.cells #[.string c.issuer, .int .i64 c.num, .int .i64 c.ths, .int .i64 c.nxt, .int .i64 c.bas, .slice pa c.revs.length pc, .string c.sig] 52) := ⟨_, rfl⟩
  rw [<- hW0]
  have e0 : (w.alloc (Obj.cells #[.slice a1 n1 c1, .slice a2 n2 c2, .slice a3 n3 c3] 26)).heap.size = w.heap.size + 1 := Array.size_push _
  have HB : Hid (Below w.heap.size w W0) := by rw [hW0]; exact ((Below.refl _ _).alloc (Nat.le_refl _) _).alloc (by rw [e0]; omega) _
  have HA : Hid (Blk W0 w.heap.size 26 #[.slice a1 n1 c1, .slice a2 n2 c2, .slice a3 n3 c3]) := by rw [hW0]; exact (Blk.new w _ _).alloc _
  have HC : Hid (Blk W0 (w.heap.size + 1) 52 #[.string c.issuer, .int .i64 c.num, .int .i64 c.ths, .int .i64 c.nxt, .int .i64 c.bas, .slice pa c.revs.length pc, .string c.sig]) := by
   have h := Blk.new (w.alloc (Obj.cells #[.slice a1 n1 c1, .slice a2 n2 c2, .slice a3 n3 c3] 26)) 52 #[.string c.issuer, .int .i64 c.num, .int .i64 c.ths, .int .i64 c.nxt, .int .i64 c.bas, .slice pa c.revs.length pc, .string c.sig]
   rw [e0] at h
   rw [hW0]
   exact h
  have O0 : Hid (w.heap.size + 1 + 1 <= W0.heap.size) := by show _ <= _; rw [hW0, size_alloc, e0]; omega
  clear hW0 e0
  refine (Z1.out W0 HB.out).mono ?_
  rintro e w1 ⟨rfl, hb⟩
  replace HB := zH (Below.on HB.out hb HB.out.size)
  replace HA := zH (HA.out.below hb HA.out.lt)
  replace HC := zH (HC.out.below hb HC.out.lt)
  have O1 : Hid (W0.heap.size <= w1.heap.size) := hb.size
  clear hb Z1
  obtain ⟨c0, c1, c2, c3, c4, c5, c6⟩ := zc7 HC.out
  go_wp2_with fail
  clear c0 c1 c2 c3 c4 c5 c6
  refine (Z2.out w1 HB.out).mono ?_
  rintro e w2 ⟨rfl, hb⟩
  replace HB := zH (Below.on HB.out hb HB.out.size)
  replace HA := zH (HA.out.below hb HA.out.lt)
  replace HC := zH (HC.out.below hb HC.out.lt)
  have O2 : Hid (w1.heap.size <= w2.heap.size) := hb.size
  clear hb Z2
  go_wp2_with fail
  go_ret
  exact ⟨rfl, HB.out⟩
 rw [if_pos hq] at Z2
 obtain ⟨z2, hze2⟩ : ∃ q : Int, q = z - (wtL c : Int) := ⟨_, rfl⟩
 have hz2 : ¬ z2 < 0 := by omega
 rw [<- hze2] at Z2
 have hc : wtL c <= 1048576 := by omega
 have hsum : wtO s + wtL c <= 1048576 := by omega
 have hok := okO_of hz wd
 have hlen : s.certs.length <= 1048576 /\ s.crls.length <= 1048576 := by unfold wtO wtM wtS at hz; omega
 have hom := okO_crl hok hlen.2 hc wc
 have hlim := lim_crl hsum rfl
 obtain ⟨R, hR⟩ := zE (ltS s (addCrl s c))
 obtain ⟨OK, hOK⟩ := zE (stoOk (addCrl s c))
 obtain ⟨r1, g1⟩ := zE (R.certs.length)
 obtain ⟨r2, g2⟩ := zE (R.crls.length)
 obtain ⟨r3, g3⟩ := zE (R.ancs.length)
 rw [hR] at hlim
 have TO : Hid (∀ W : World, Below w.heap.size w W -> Calls Tryz.prog 9 #[.agg #[.slice a1 n1 c1, .slice a2 n2 c2, .slice a3 n3 c3]] W fun e w' => ∃ x1Q y1Q x2Q y2Q x3Q y3Q fpQ, e = .returned (.agg #[.slice x1Q n1 y1Q, .slice x2Q n2 y2Q, .slice x3Q n3 y3Q]) /\ OwnO w' W.heap.size (.agg #[.slice x1Q n1 y1Q, .slice x2Q n2 y2Q, .slice x3Q n3 y3Q]) s fpQ /\ Below W.heap.size W w') := fun W hb => (toStore_any s _ w.heap.size W hz hb.size (hx.below hb (Nat.le_refl _))).mono fun e w' h => by
  obtain ⟨u, fp, rfl, ho, hb⟩ := h
  obtain ⟨x1, y1, x2, y2, x3, y3, hu⟩ := ho.at.shape
  rw [e1, e2, e3] at hu
  subst hu
  exact ⟨x1, y1, x2, y2, x3, y3, fp, rfl, ho, hb⟩
 have TC : Hid (∀ W : World, Below w.heap.size w W -> Calls Tryz.prog 22 #[.agg #[.string c.issuer, .int .i64 c.num, .int .i64 c.ths, .int .i64 c.nxt, .int .i64 c.bas, .slice pa c.revs.length pc, .string c.sig]] W fun e w' => ∃ pY qY, e = .returned (.agg #[.string c.issuer, .int .i64 c.num, .int .i64 c.ths, .int .i64 c.nxt, .int .i64 c.bas, .slice pY c.revs.length qY, .string c.sig]) /\ OwnL w' W.heap.size (.agg #[.string c.issuer, .int .i64 c.num, .int .i64 c.ths, .int .i64 c.nxt, .int .i64 c.bas, .slice pY c.revs.length qY, .string c.sig]) c /\ Below W.heap.size W w') := fun W hb => (toCrl_any c _ w.heap.size W (wtL_parts hc).2.1 hb.size (hy.below hb)).mono fun e w' h => by
  obtain ⟨u, rfl, ho, hb⟩ := h
  obtain ⟨pY, qY, hu⟩ := ClAt.shape ho.at
  subst hu
  exact ⟨pY, qY, rfl, ho, hb⟩
 have LP : ∀ (W : World) (e : Ending) (w' : World), LtPost W s (addCrl s c) e w' -> ∃ x1Q y1Q x2Q y2Q x3Q y3Q fpQ, e = .returned (.tuple #[.agg #[.slice x1Q r1 y1Q, .slice x2Q r2 y2Q, .slice x3Q r3 y3Q], .bool OK]) /\ OwnO w' W.heap.size (.agg #[.slice x1Q r1 y1Q, .slice x2Q r2 y2Q, .slice x3Q r3 y3Q]) R fpQ /\ Below W.heap.size W w' := fun W e w' h => by
  obtain ⟨x1, y1, x2, y2, x3, y3, fp, h1, h2, h3⟩ := h
  rw [hR, hOK, g1, g2, g3] at h1
  rw [hR, g1, g2, g3] at h2
  exact ⟨x1, y1, x2, y2, x3, y3, fp, h1, h2, h3⟩
 have SP : Hid (∀ (W : World) (bs bc : Nat) (v u : Value) (fp : List Nat), OwnO W bs v s fp -> OwnL W bc u c -> Calls Tryz.prog 21 #[v, u] W fun e w' => ∃ x1Q y1Q x2Q y2Q x3Q y3Q fpQ, e = .returned (.tuple #[.agg #[.slice x1Q r1 y1Q, .slice x2Q r2 y2Q, .slice x3Q r3 y3Q], .bool OK]) /\ OwnO w' W.heap.size (.agg #[.slice x1Q r1 y1Q, .slice x2Q r2 y2Q, .slice x3Q r3 y3Q]) R fpQ /\ Below W.heap.size W w') := fun W bs bc v u fp h1 h2 => (specAddCrl_any s c v u W hok hom hc h1.sh (crlKd.base h2 (Nat.zero_le _))).mono fun e w' h => LP W e w' h
 have IM : Hid (∀ (W : World) (bs bc : Nat) (v u : Value) (fp : List Nat), OwnO W bs v s fp -> OwnL W bc u c -> Calls Tryz.prog 23 #[v, u] W fun e w' => ∃ x1Q y1Q x2Q y2Q x3Q y3Q fpQ, e = .returned (.tuple #[.agg #[.slice x1Q r1 y1Q, .slice x2Q r2 y2Q, .slice x3Q r3 y3Q], .bool OK]) /\ OwnO w' W.heap.size (.agg #[.slice x1Q r1 y1Q, .slice x2Q r2 y2Q, .slice x3Q r3 y3Q]) R fpQ /\ Below W.heap.size W w') := fun W bs bc v u fp h1 h2 => (implAddCrl_any s c v u W hok hom h1.sh (crlKd.base h2 (Nat.zero_le _))).mono fun e w' h => LP W e w' h
 have EQ : Hid (∀ (W : World) (u v : Value), SoAt W u R -> SoAt W v R -> Calls Tryz.prog 11 #[u, v] W fun e w' => e = .returned (.bool true) /\ Below W.heap.size W w') := fun W u v h1 h2 => eqStore_same R u v W (by omega) h1 h2
 have EQS : Hid (∀ (W : World) (u v : Value), SoAt W u s -> SoAt W v s -> Calls Tryz.prog 11 #[u, v] W fun e w' => e = .returned (.bool true) /\ Below W.heap.size W w') := fun W u v h1 h2 => eqStore_same s u v W (by omega) h1 h2
 have EQC : Hid (∀ (W : World) (u v : Value), ClAt W u c -> ClAt W v c -> Calls Tryz.prog 24 #[u, v] W fun e w' => e = .returned (.bool true) /\ Below W.heap.size W w') := fun W u v h1 h2 => eqCrl_same c u v W (by have := (wtL_parts hc).2.1; omega) h1 h2
 have hls : Lim s := by unfold wtO at hz; unfold Lim; omega
 have hp1 := po_le (k := 1) hls (Nat.le_refl _)
 have hp2 := po_le (k := 1) hlim.1 (Nat.le_refl _)
 obtain ⟨KS, hKS⟩ : ∃ K : Nat, po3 1 s = K := ⟨_, rfl⟩
 obtain ⟨KG, hKG⟩ : ∃ K : Nat, po3 1 R = K := ⟨_, rfl⟩
 have HMS : Hid (∀ (W : World) (la : Nat) (v : Value) (fp : List Nat), OwnO W la v s fp -> Calls Tryz.prog 17 #[v, .int .i64 1] W fun e w' => e = .returned (.int .i64 (KS : Int)) /\ OwnO w' la v (mkO 1 s) fp /\ Out fp W w') := fun W la v fp h => by rw [<- hKS]; exact markStore_out s v 1 la fp W hls (Nat.le_refl _) (by decide) h
 have HMG : Hid (∀ (W : World) (la : Nat) (v : Value) (fp : List Nat), OwnO W la v R fp -> Calls Tryz.prog 17 #[v, .int .i64 1] W fun e w' => e = .returned (.int .i64 (KG : Int)) /\ OwnO w' la v (mkO 1 R) fp /\ Out fp W w') := fun W la v fp h => by rw [<- hKG]; exact markStore_out R v 1 la fp W hlim.1 (Nat.le_refl _) (by decide) h
 have HHG : Hid (∀ (W : World) (v : Value), SoAt W v (mkO 1 R) -> Calls Tryz.prog 19 #[v, .int .i64 1] W fun e w' => e = .returned (.int .i64 (KG : Int)) /\ Below W.heap.size W w') := fun W v h => by rw [<- hKG]; exact heldStore_same R v 1 W hlim.1 (Nat.le_refl _) (by decide) h
 rw [hKS] at hp1
 rw [hKG] at hp2
 obtain ⟨KC, hKC⟩ : ∃ K : Nat, (KS + 2 * c.revs.length : Nat) = K := ⟨_, rfl⟩
 have HMC : Hid (∀ (W : World) (base : Nat) (v : Value), base <= W.heap.size -> OwnL W base v c -> Calls Tryz.prog 25 #[v, .int .i64 (KS : Int)] W fun e w' => e = .returned (.int .i64 (KC : Int)) /\ OwnL w' base v (mkL KS c) /\ Out (fpL v) W w') := fun W base v hbs h => by rw [<- hKC]; exact markCrl_out c v KS base W (by have := wtL_parts hc; omega) (by omega) h
 have k1 : ¬ (KC : Int) < 0 := by omega
 have k2 : ¬ (KG : Int) < 0 := by omega
 clear hz hx wd hy wc hq hze hze2 hc hsum hok hom hlim hls hp1 hp2 hKS hKG hKC hR hOK g1 g2 g3 e1 e2 e3 LP hlen
 go_enter Tryz.func5, Tryz.ntmps5
 go_wp2_with fail
 obtain ⟨W0, hW0⟩ : ∃ W, W = (w.alloc (Obj.cells #[.slice a1 n1 c1, .slice a2 n2 c2, .slice a3 n3 c3] 26)).alloc (Obj.cells #[.string c.issuer, .int .i64 c.num, .int .i64 c.ths, .int .i64 c.nxt, .int .i64 c.bas, .slice pa c.revs.length pc, .string c.sig] 52) := ⟨_, rfl⟩
 rw [<- hW0]
 have e0 : (w.alloc (Obj.cells #[.slice a1 n1 c1, .slice a2 n2 c2, .slice a3 n3 c3] 26)).heap.size = w.heap.size + 1 := Array.size_push _
 have HB : Hid (Below w.heap.size w W0) := by rw [hW0]; exact ((Below.refl _ _).alloc (Nat.le_refl _) _).alloc (by rw [e0]; omega) _
 have HA : Hid (Blk W0 w.heap.size 26 #[.slice a1 n1 c1, .slice a2 n2 c2, .slice a3 n3 c3]) := by rw [hW0]; exact (Blk.new w _ _).alloc _
 have HC : Hid (Blk W0 (w.heap.size + 1) 52 #[.string c.issuer, .int .i64 c.num, .int .i64 c.ths, .int .i64 c.nxt, .int .i64 c.bas, .slice pa c.revs.length pc, .string c.sig]) := by
  have h := Blk.new (w.alloc (Obj.cells #[.slice a1 n1 c1, .slice a2 n2 c2, .slice a3 n3 c3] 26)) 52 #[.string c.issuer, .int .i64 c.num, .int .i64 c.ths, .int .i64 c.nxt, .int .i64 c.bas, .slice pa c.revs.length pc, .string c.sig]
  rw [e0] at h
  rw [hW0]
  exact h
 have O0 : Hid (w.heap.size + 1 + 1 <= W0.heap.size) := by show _ <= _; rw [hW0, size_alloc, e0]; omega
 clear hW0 e0
 refine (Z1.out W0 HB.out).mono ?_
 rintro e w1 ⟨rfl, hb⟩
 replace HB := zH (Below.on HB.out hb HB.out.size)
 replace HA := zH (HA.out.below hb HA.out.lt)
 replace HC := zH (HC.out.below hb HC.out.lt)
 have O1 : Hid (W0.heap.size <= w1.heap.size) := hb.size
 clear hb Z1
 obtain ⟨c0, c1, c2, c3, c4, c5, c6⟩ := zc7 HC.out
 go_wp2_with fail
 clear c0 c1 c2 c3 c4 c5 c6
 refine (Z2.out w1 HB.out).mono ?_
 rintro e w2 ⟨rfl, hb⟩
 replace HB := zH (Below.on HB.out hb HB.out.size)
 replace HA := zH (HA.out.below hb HA.out.lt)
 replace HC := zH (HC.out.below hb HC.out.lt)
 have O2 : Hid (w1.heap.size <= w2.heap.size) := hb.size
 clear hb Z2
 go_upto_region 8 with fail
 go_cut [6, 7] from 17 (fun s6 s7 wx => ∃ (gW : Nat) (x1W : Option Addr) (y1W : Nat) (x2W : Option Addr) (y2W : Nat) (x3W : Option Addr) (y3W : Nat) (fpW : List Nat), s6 = .pointer (some ⟨gW, 0, none⟩) /\ s7 = .bool OK /\ Hid (Below w2.heap.size w2 wx /\ Blk wx gW 33 #[.slice x1W r1 y1W, .slice x2W r2 y2W, .slice x3W r3 y3W] /\ OwnO wx w2.heap.size (.agg #[.slice x1W r1 y1W, .slice x2W r2 y2W, .slice x3W r3 y3W]) R fpW /\ (∀ b ∈ fpW, w2.heap.size <= b /\ b < wx.heap.size) /\ (w2.heap.size <= gW /\ gW < wx.heap.size)))
 case first =>
  have HD : Below w2.heap.size w2 w2.drew := (Below.refl _ _).drew
  refine wp_region_held_drew (S := fun W => Below w2.heap.size w2 W) (by kernel_rfl) HD (fun hHeld => ?_)
  clear HD
  generalize w2.drew = wd at hHeld |-
  refine zT 0 28 ?_ rfl (by rfl) ?_ hHeld ?_
  rotate_left
  ·intro W hSw
   have l0 : W.cell? ⟨w.heap.size, 0, none⟩ = some (.slice a1 n1 c1) := (hSw.cell (p := ⟨w.heap.size, 0, none⟩) HA.out.lt).trans (HA.out.cell 0)
   have l1 : W.cell? ⟨w.heap.size, 1, none⟩ = some (.slice a2 n2 c2) := (hSw.cell (p := ⟨w.heap.size, 1, none⟩) HA.out.lt).trans (HA.out.cell 1)
   have l2 : W.cell? ⟨w.heap.size, 2, none⟩ = some (.slice a3 n3 c3) := (hSw.cell (p := ⟨w.heap.size, 2, none⟩) HA.out.lt).trans (HA.out.cell 2)
   go_simp
   try with_reducible rfl
  try simp only [Act.put, zA, zB, zC]
  refine zT 2 30 ?_ rfl (by rfl) ?_ hHeld ?_
  rotate_left
  ·intro W hSw
   have l0 : W.cell? ⟨w.heap.size + 1, 0, none⟩ = some (.string c.issuer) := (hSw.cell (p := ⟨w.heap.size + 1, 0, none⟩) HC.out.lt).trans (HC.out.cell 0)
   have l1 : W.cell? ⟨w.heap.size + 1, 1, none⟩ = some (.int .i64 c.num) := (hSw.cell (p := ⟨w.heap.size + 1, 1, none⟩) HC.out.lt).trans (HC.out.cell 1)
   have l2 : W.cell? ⟨w.heap.size + 1, 2, none⟩ = some (.int .i64 c.ths) := (hSw.cell (p := ⟨w.heap.size + 1, 2, none⟩) HC.out.lt).trans (HC.out.cell 2)
   have l3 : W.cell? ⟨w.heap.size + 1, 3, none⟩ = some (.int .i64 c.nxt) := (hSw.cell (p := ⟨w.heap.size + 1, 3, none⟩) HC.out.lt).trans (HC.out.cell 3)
   have l4 : W.cell? ⟨w.heap.size + 1, 4, none⟩ = some (.int .i64 c.bas) := (hSw.cell (p := ⟨w.heap.size + 1, 4, none⟩) HC.out.lt).trans (HC.out.cell 4)
   have l5 : W.cell? ⟨w.heap.size + 1, 5, none⟩ = some (.slice pa c.revs.length pc) := (hSw.cell (p := ⟨w.heap.size + 1, 5, none⟩) HC.out.lt).trans (HC.out.cell 5)
   have l6 : W.cell? ⟨w.heap.size + 1, 6, none⟩ = some (.string c.sig) := (hSw.cell (p := ⟨w.heap.size + 1, 6, none⟩) HC.out.lt).trans (HC.out.cell 6)
   go_simp
   try with_reducible rfl
  try simp only [Act.put, zA, zB, zC]
  refine wpAnyH_ready (rs := [1, 8]) (by kernel_rfl) (by simp) ?_
  refine AllReadyH.cons (o := ⟨some 29, _, _, _, _, _⟩) rfl (fun K hK => ?_) ?_
  rotate_left
  ·refine AllReadyH.cons (o := ⟨some 6, _, _, _, _, _⟩) rfl (fun K hK => ?_) AllReadyH.nil
   obtain ⟨y1, hy1⟩ : ∃ V, V = wd.alloc (Obj.cells #[.slice none 0 0, .slice none 0 0, .slice none 0 0] 33) := ⟨_, rfl⟩
   have hb : Below wd.heap.size wd y1 := by rw [hy1]; exact (Below.refl _ _).alloc (Nat.le_refl _) _
   have HG : Hid ((Blk y1 wd.heap.size 33 #[.slice none 0 0, .slice none 0 0, .slice none 0 0]) /\ w2.heap.size <= wd.heap.size) := ⟨by rw [hy1]; exact Blk.new _ _ _, hHeld.size⟩
   have hH : Below w2.heap.size w2 y1 := Below.on hHeld hb hHeld.size
   go_simp
   rw [<- hy1]
   refine hK.out _ _ hH (fun hHeld => ?_)
   clear hK K hH hy1 hb
   try simp only [Act.put, zA, zB, zC]
   refine wpAnyH_ready (rs := [1]) (by kernel_rfl) (by simp) ?_
   refine AllReadyH.cons (o := ⟨some 29, _, _, _, _, _⟩) rfl (fun K hK => ?_) AllReadyH.nil
   go_simp
   refine (TO.out y1 (Below.on HB.out hHeld HB.out.size)).mono ?_
   rintro e y2 ⟨x1T, y1T, x2T, y2T, x3T, y3T, fpT, rfl, ho, hb⟩
   have HGn : Hid ((Blk y2 wd.heap.size 33 #[.slice none 0 0, .slice none 0 0, .slice none 0 0]) /\ w2.heap.size <= wd.heap.size) := ⟨HG.out.1.below hb HG.out.1.lt, HG.out.2⟩
   clear HG
   have HG := HGn
   clear HGn
   have HT : Hid (OwnO y2 y1.heap.size (.agg #[.slice x1T n1 y1T, .slice x2T n2 y2T, .slice x3T n3 y3T]) s fpT) := ho
   have hH : Below w2.heap.size w2 y2 := Below.on hHeld hb hHeld.size
   clear ho hb
   go_wp2_with fail
   refine hK.out _ _ hH (fun hHeld => ?_)
   clear hK K hH
   try simp only [Act.put, zA, zB, zC]
   refine wpAnyH_ready (rs := [3]) (by kernel_rfl) (by simp) ?_
   refine AllReadyH.cons (o := ⟨some 31, _, _, _, _, _⟩) rfl (fun K hK => ?_) AllReadyH.nil
   go_simp
   refine (TC.out y2 (Below.on HB.out hHeld HB.out.size)).mono ?_
   rintro e y3 ⟨pY, qY, rfl, ho, hb⟩
   have HGn : Hid ((Blk y3 wd.heap.size 33 #[.slice none 0 0, .slice none 0 0, .slice none 0 0]) /\ w2.heap.size <= wd.heap.size) := ⟨HG.out.1.below hb HG.out.1.lt, HG.out.2⟩
   clear HG
   have HG := HGn
   clear HGn
   replace HT := zH (HT.out.stays hb)
   have HV : Hid (OwnL y3 y2.heap.size (.agg #[.string c.issuer, .int .i64 c.num, .int .i64 c.ths, .int .i64 c.nxt, .int .i64 c.bas, .slice pY c.revs.length qY, .string c.sig]) c) := ho
   have hH : Below w2.heap.size w2 y3 := Below.on hHeld hb hHeld.size
   clear ho hb
   go_wp2_with fail
   refine hK.out _ _ hH (fun hHeld => ?_)
   clear hK K hH
   try simp only [Act.put, zA, zB, zC]
   refine wpAnyH_ready (rs := [4]) (by kernel_rfl) (by simp) ?_
   refine AllReadyH.cons (o := ⟨some 32, _, _, _, _, _⟩) rfl (fun K hK => ?_) AllReadyH.nil
   go_simp
   refine (SP.out y3 _ _ _ _ _ HT.out HV.out).mono ?_
   rintro e y4 ⟨x1W, y1W, x2W, y2W, x3W, y3W, fpW, rfl, ho, hb⟩
   have HAL : Hid (wd.heap.size < y3.heap.size) := HG.out.1.lt
   have HGn : Hid ((Blk y4 wd.heap.size 33 #[.slice none 0 0, .slice none 0 0, .slice none 0 0]) /\ w2.heap.size <= wd.heap.size) := ⟨HG.out.1.below hb HG.out.1.lt, HG.out.2⟩
   clear HG
   have HG := HGn
   clear HGn
   replace HT := zH (HT.out.stays hb)
   replace HV := zH (HV.out.stays hb)
   have HR : Hid (OwnO y4 y3.heap.size (.agg #[.slice x1W r1 y1W, .slice x2W r2 y2W, .slice x3W r3 y3W]) R fpW /\ w2.heap.size <= y3.heap.size /\ (∀ b ∈ fpW, y3.heap.size <= b /\ b < y4.heap.size) /\ y4.heap.size <= y4.heap.size) := ⟨ho, hHeld.size, ho.lt, Nat.le_refl _⟩
   have hH : Below w2.heap.size w2 y4 := Below.on hHeld hb hHeld.size
   clear ho hb
   go_wp2_with fail
   refine hK.out _ _ hH (fun hHeld => ?_)
   clear hK K hH
   try simp only [Act.put, zA, zB, zC]
   refine zT 5 27 ?_ rfl (by rfl) ?_ hHeld ?_
   rotate_left
   ·intro W hSw
    go_simp
    try with_reducible rfl
   try simp only [Act.put, zA, zB, zC]
   refine zT 6 33 ?_ rfl (by rfl) ?_ hHeld ?_
   rotate_left
   ·intro W hSw
    go_simp
    try with_reducible rfl
   try simp only [Act.put, zA, zB, zC]
   refine zT 7 34 ?_ rfl (by rfl) ?_ hHeld ?_
   rotate_left
   ·intro W hSw
    go_simp
    try with_reducible rfl
   try simp only [Act.put, zA, zB, zC]
   refine wpAnyH_ready (rs := [9]) (by kernel_rfl) (by simp) ?_
   refine AllReadyH.cons (o := ⟨none, _, _, _, _, _⟩) rfl (fun K hK => ?_) AllReadyH.nil
   have e0 : y4.cell? ⟨wd.heap.size, 0, none⟩ = some (.slice none 0 0) := HG.out.1.cell 0
   have e1 : y4.cell? ⟨wd.heap.size, 1, none⟩ = some (.slice none 0 0) := HG.out.1.cell 1
   have e2 : y4.cell? ⟨wd.heap.size, 2, none⟩ = some (.slice none 0 0) := HG.out.1.cell 2
   have ef := fun i => HG.out.1.free i
   have HAP : Hid (∀ b ∈ fpW, b ≠ wd.heap.size) := fun b hb => by have h1 := HR.out.2.2.1 b hb; have h2 := HAL.out; omega
   go_simp
   generalize hV : World.setCell _ { block := wd.heap.size, off := 2 } (.slice x3W r3 y3W) = V
   have FIN : Out [wd.heap.size] y4 V /\ Blk V wd.heap.size 33 #[.slice x1W r1 y1W, .slice x2W r2 y2W, .slice x3W r3 y3W] := by
    rw [<- hV]
    refine ⟨?_, ?_⟩
    ·iterate 3 refine Out.setCell ?_ _ _ (by simp)
     exact Out.refl _ _
    ·exact ((HG.out.1.set 0 _).set 1 _).set 2 _
   clear hV ef e0 e1 e2
   have hH : Below w2.heap.size w2 V := Below.out hHeld FIN.1 (fun b hb => by rw [List.mem_singleton.1 hb]; exact HG.out.2) hHeld.size
   have FR : Hid (Below w2.heap.size w2 V /\ Blk V wd.heap.size 33 #[.slice x1W r1 y1W, .slice x2W r2 y2W, .slice x3W r3 y3W] /\ OwnO V w2.heap.size (.agg #[.slice x1W r1 y1W, .slice x2W r2 y2W, .slice x3W r3 y3W]) R fpW /\ (∀ b ∈ fpW, w2.heap.size <= b /\ b < V.heap.size) /\ (w2.heap.size <= wd.heap.size /\ wd.heap.size < V.heap.size)) := ⟨hH, FIN.2, (OwnO.out HR.out.1 FIN.1 (fun b hb hm => HAP.out b hb (List.mem_singleton.1 hm))).base HR.out.2.1, fun b hb => ⟨by have h1 := HR.out.2.2.1 b hb; have h2 := HR.out.2.1; omega, by have h1 := HR.out.2.2.1 b hb; have h3 := HR.out.2.2.2; have h4 := FIN.1.2.2.2.1; omega⟩, HG.out.2, FIN.2.lt⟩
   refine hK.out _ _ hH (fun hHeld => ?_)
   clear hK K hH FIN HAP
   try simp only [Act.put, zA, zB, zC]
   refine zT 10 7 ?_ rfl (by rfl) ?_ hHeld ?_
   rotate_left
   ·intro W hSw
    go_simp
    try with_reducible rfl
   try simp only [Act.put, zA, zB, zC]
   refine wpAnyH_done (by kernel_rfl) ?_ _
   go_wp2_with fail
   go_meet
   exact ⟨wd.heap.size, x1W, y1W, x2W, y2W, x3W, y3W, fpW, rfl, rfl, FR.out⟩
  go_simp
  refine (TO.out wd (Below.on HB.out hHeld HB.out.size)).mono ?_
  rintro e y5 ⟨x1T, y1T, x2T, y2T, x3T, y3T, fpT, rfl, ho, hb⟩
  have HT : Hid (OwnO y5 wd.heap.size (.agg #[.slice x1T n1 y1T, .slice x2T n2 y2T, .slice x3T n3 y3T]) s fpT) := ho
  have hH : Below w2.heap.size w2 y5 := Below.on hHeld hb hHeld.size
  clear ho hb
  go_wp2_with fail
  refine hK.out _ _ hH (fun hHeld => ?_)
  clear hK K hH
  try simp only [Act.put, zA, zB, zC]
  refine wpAnyH_ready (rs := [3, 8]) (by kernel_rfl) (by simp) ?_
  refine AllReadyH.cons (o := ⟨some 31, _, _, _, _, _⟩) rfl (fun K hK => ?_) ?_
  rotate_left
  ·refine AllReadyH.cons (o := ⟨some 6, _, _, _, _, _⟩) rfl (fun K hK => ?_) AllReadyH.nil
   obtain ⟨y6, hy6⟩ : ∃ V, V = y5.alloc (Obj.cells #[.slice none 0 0, .slice none 0 0, .slice none 0 0] 33) := ⟨_, rfl⟩
   have hb : Below y5.heap.size y5 y6 := by rw [hy6]; exact (Below.refl _ _).alloc (Nat.le_refl _) _
   have HG : Hid ((Blk y6 y5.heap.size 33 #[.slice none 0 0, .slice none 0 0, .slice none 0 0]) /\ w2.heap.size <= y5.heap.size) := ⟨by rw [hy6]; exact Blk.new _ _ _, hHeld.size⟩
   replace HT := zH (HT.out.stays hb)
   have hH : Below w2.heap.size w2 y6 := Below.on hHeld hb hHeld.size
   go_simp
   rw [<- hy6]
   refine hK.out _ _ hH (fun hHeld => ?_)
   clear hK K hH hy6 hb
   try simp only [Act.put, zA, zB, zC]
   refine wpAnyH_ready (rs := [3]) (by kernel_rfl) (by simp) ?_
   refine AllReadyH.cons (o := ⟨some 31, _, _, _, _, _⟩) rfl (fun K hK => ?_) AllReadyH.nil
   go_simp
   refine (TC.out y6 (Below.on HB.out hHeld HB.out.size)).mono ?_
   rintro e y7 ⟨pY, qY, rfl, ho, hb⟩
   replace HT := zH (HT.out.stays hb)
   have HGn : Hid ((Blk y7 y5.heap.size 33 #[.slice none 0 0, .slice none 0 0, .slice none 0 0]) /\ w2.heap.size <= y5.heap.size) := ⟨HG.out.1.below hb HG.out.1.lt, HG.out.2⟩
   clear HG
   have HG := HGn
   clear HGn
   have HV : Hid (OwnL y7 y6.heap.size (.agg #[.string c.issuer, .int .i64 c.num, .int .i64 c.ths, .int .i64 c.nxt, .int .i64 c.bas, .slice pY c.revs.length qY, .string c.sig]) c) := ho
   have hH : Below w2.heap.size w2 y7 := Below.on hHeld hb hHeld.size
   clear ho hb
   go_wp2_with fail
   refine hK.out _ _ hH (fun hHeld => ?_)
   clear hK K hH
   try simp only [Act.put, zA, zB, zC]
   refine wpAnyH_ready (rs := [4]) (by kernel_rfl) (by simp) ?_
   refine AllReadyH.cons (o := ⟨some 32, _, _, _, _, _⟩) rfl (fun K hK => ?_) AllReadyH.nil
   go_simp
   refine (SP.out y7 _ _ _ _ _ HT.out HV.out).mono ?_
   rintro e y8 ⟨x1W, y1W, x2W, y2W, x3W, y3W, fpW, rfl, ho, hb⟩
   have HAL : Hid (y5.heap.size < y7.heap.size) := HG.out.1.lt
   replace HT := zH (HT.out.stays hb)
   have HGn : Hid ((Blk y8 y5.heap.size 33 #[.slice none 0 0, .slice none 0 0, .slice none 0 0]) /\ w2.heap.size <= y5.heap.size) := ⟨HG.out.1.below hb HG.out.1.lt, HG.out.2⟩
   clear HG
   have HG := HGn
   clear HGn
   replace HV := zH (HV.out.stays hb)
   have HR : Hid (OwnO y8 y7.heap.size (.agg #[.slice x1W r1 y1W, .slice x2W r2 y2W, .slice x3W r3 y3W]) R fpW /\ w2.heap.size <= y7.heap.size /\ (∀ b ∈ fpW, y7.heap.size <= b /\ b < y8.heap.size) /\ y8.heap.size <= y8.heap.size) := ⟨ho, hHeld.size, ho.lt, Nat.le_refl _⟩
   have hH : Below w2.heap.size w2 y8 := Below.on hHeld hb hHeld.size
   clear ho hb
   go_wp2_with fail
   refine hK.out _ _ hH (fun hHeld => ?_)
   clear hK K hH
   try simp only [Act.put, zA, zB, zC]
   refine zT 5 27 ?_ rfl (by rfl) ?_ hHeld ?_
   rotate_left
   ·intro W hSw
    go_simp
    try with_reducible rfl
   try simp only [Act.put, zA, zB, zC]
   refine zT 6 33 ?_ rfl (by rfl) ?_ hHeld ?_
   rotate_left
   ·intro W hSw
    go_simp
    try with_reducible rfl
   try simp only [Act.put, zA, zB, zC]
   refine zT 7 34 ?_ rfl (by rfl) ?_ hHeld ?_
   rotate_left
   ·intro W hSw
    go_simp
    try with_reducible rfl
   try simp only [Act.put, zA, zB, zC]
   refine wpAnyH_ready (rs := [9]) (by kernel_rfl) (by simp) ?_
   refine AllReadyH.cons (o := ⟨none, _, _, _, _, _⟩) rfl (fun K hK => ?_) AllReadyH.nil
   have e0 : y8.cell? ⟨y5.heap.size, 0, none⟩ = some (.slice none 0 0) := HG.out.1.cell 0
   have e1 : y8.cell? ⟨y5.heap.size, 1, none⟩ = some (.slice none 0 0) := HG.out.1.cell 1
   have e2 : y8.cell? ⟨y5.heap.size, 2, none⟩ = some (.slice none 0 0) := HG.out.1.cell 2
   have ef := fun i => HG.out.1.free i
   have HAP : Hid (∀ b ∈ fpW, b ≠ y5.heap.size) := fun b hb => by have h1 := HR.out.2.2.1 b hb; have h2 := HAL.out; omega
   go_simp
   generalize hV : World.setCell _ { block := y5.heap.size, off := 2 } (.slice x3W r3 y3W) = V
   have FIN : Out [y5.heap.size] y8 V /\ Blk V y5.heap.size 33 #[.slice x1W r1 y1W, .slice x2W r2 y2W, .slice x3W r3 y3W] := by
    rw [<- hV]
    refine ⟨?_, ?_⟩
    ·iterate 3 refine Out.setCell ?_ _ _ (by simp)
     exact Out.refl _ _
    ·exact ((HG.out.1.set 0 _).set 1 _).set 2 _
   clear hV ef e0 e1 e2
   have hH : Below w2.heap.size w2 V := Below.out hHeld FIN.1 (fun b hb => by rw [List.mem_singleton.1 hb]; exact HG.out.2) hHeld.size
   have FR : Hid (Below w2.heap.size w2 V /\ Blk V y5.heap.size 33 #[.slice x1W r1 y1W, .slice x2W r2 y2W, .slice x3W r3 y3W] /\ OwnO V w2.heap.size (.agg #[.slice x1W r1 y1W, .slice x2W r2 y2W, .slice x3W r3 y3W]) R fpW /\ (∀ b ∈ fpW, w2.heap.size <= b /\ b < V.heap.size) /\ (w2.heap.size <= y5.heap.size /\ y5.heap.size < V.heap.size)) := ⟨hH, FIN.2, (OwnO.out HR.out.1 FIN.1 (fun b hb hm => HAP.out b hb (List.mem_singleton.1 hm))).base HR.out.2.1, fun b hb => ⟨by have h1 := HR.out.2.2.1 b hb; have h2 := HR.out.2.1; omega, by have h1 := HR.out.2.2.1 b hb; have h3 := HR.out.2.2.2; have h4 := FIN.1.2.2.2.1; omega⟩, HG.out.2, FIN.2.lt⟩
   refine hK.out _ _ hH (fun hHeld => ?_)
   clear hK K hH FIN HAP
   try simp only [Act.put, zA, zB, zC]
   refine zT 10 7 ?_ rfl (by rfl) ?_ hHeld ?_
   rotate_left
   ·intro W hSw
    go_simp
    try with_reducible rfl
   try simp only [Act.put, zA, zB, zC]
   refine wpAnyH_done (by kernel_rfl) ?_ _
   go_wp2_with fail
   go_meet
   exact ⟨y5.heap.size, x1W, y1W, x2W, y2W, x3W, y3W, fpW, rfl, rfl, FR.out⟩
  go_simp
  refine (TC.out y5 (Below.on HB.out hHeld HB.out.size)).mono ?_
  rintro e y9 ⟨pY, qY, rfl, ho, hb⟩
  replace HT := zH (HT.out.stays hb)
  have HV : Hid (OwnL y9 y5.heap.size (.agg #[.string c.issuer, .int .i64 c.num, .int .i64 c.ths, .int .i64 c.nxt, .int .i64 c.bas, .slice pY c.revs.length qY, .string c.sig]) c) := ho
  have hH : Below w2.heap.size w2 y9 := Below.on hHeld hb hHeld.size
  clear ho hb
  go_wp2_with fail
  refine hK.out _ _ hH (fun hHeld => ?_)
  clear hK K hH
  try simp only [Act.put, zA, zB, zC]
  refine wpAnyH_ready (rs := [4, 8]) (by kernel_rfl) (by simp) ?_
  refine AllReadyH.cons (o := ⟨some 32, _, _, _, _, _⟩) rfl (fun K hK => ?_) ?_
  rotate_left
  ·refine AllReadyH.cons (o := ⟨some 6, _, _, _, _, _⟩) rfl (fun K hK => ?_) AllReadyH.nil
   obtain ⟨y10, hy10⟩ : ∃ V, V = y9.alloc (Obj.cells #[.slice none 0 0, .slice none 0 0, .slice none 0 0] 33) := ⟨_, rfl⟩
   have hb : Below y9.heap.size y9 y10 := by rw [hy10]; exact (Below.refl _ _).alloc (Nat.le_refl _) _
   have HG : Hid ((Blk y10 y9.heap.size 33 #[.slice none 0 0, .slice none 0 0, .slice none 0 0]) /\ w2.heap.size <= y9.heap.size) := ⟨by rw [hy10]; exact Blk.new _ _ _, hHeld.size⟩
   replace HT := zH (HT.out.stays hb)
   replace HV := zH (HV.out.stays hb)
   have hH : Below w2.heap.size w2 y10 := Below.on hHeld hb hHeld.size
   go_simp
   rw [<- hy10]
   refine hK.out _ _ hH (fun hHeld => ?_)
   clear hK K hH hy10 hb
   try simp only [Act.put, zA, zB, zC]
   refine wpAnyH_ready (rs := [4]) (by kernel_rfl) (by simp) ?_
   refine AllReadyH.cons (o := ⟨some 32, _, _, _, _, _⟩) rfl (fun K hK => ?_) AllReadyH.nil
   go_simp
   refine (SP.out y10 _ _ _ _ _ HT.out HV.out).mono ?_
   rintro e y11 ⟨x1W, y1W, x2W, y2W, x3W, y3W, fpW, rfl, ho, hb⟩
   have HAL : Hid (y9.heap.size < y10.heap.size) := HG.out.1.lt
   replace HT := zH (HT.out.stays hb)
   replace HV := zH (HV.out.stays hb)
   have HGn : Hid ((Blk y11 y9.heap.size 33 #[.slice none 0 0, .slice none 0 0, .slice none 0 0]) /\ w2.heap.size <= y9.heap.size) := ⟨HG.out.1.below hb HG.out.1.lt, HG.out.2⟩
   clear HG
   have HG := HGn
   clear HGn
   have HR : Hid (OwnO y11 y10.heap.size (.agg #[.slice x1W r1 y1W, .slice x2W r2 y2W, .slice x3W r3 y3W]) R fpW /\ w2.heap.size <= y10.heap.size /\ (∀ b ∈ fpW, y10.heap.size <= b /\ b < y11.heap.size) /\ y11.heap.size <= y11.heap.size) := ⟨ho, hHeld.size, ho.lt, Nat.le_refl _⟩
   have hH : Below w2.heap.size w2 y11 := Below.on hHeld hb hHeld.size
   clear ho hb
   go_wp2_with fail
   refine hK.out _ _ hH (fun hHeld => ?_)
   clear hK K hH
   try simp only [Act.put, zA, zB, zC]
   refine zT 5 27 ?_ rfl (by rfl) ?_ hHeld ?_
   rotate_left
   ·intro W hSw
    go_simp
    try with_reducible rfl
   try simp only [Act.put, zA, zB, zC]
   refine zT 6 33 ?_ rfl (by rfl) ?_ hHeld ?_
   rotate_left
   ·intro W hSw
    go_simp
    try with_reducible rfl
   try simp only [Act.put, zA, zB, zC]
   refine zT 7 34 ?_ rfl (by rfl) ?_ hHeld ?_
   rotate_left
   ·intro W hSw
    go_simp
    try with_reducible rfl
   try simp only [Act.put, zA, zB, zC]
   refine wpAnyH_ready (rs := [9]) (by kernel_rfl) (by simp) ?_
   refine AllReadyH.cons (o := ⟨none, _, _, _, _, _⟩) rfl (fun K hK => ?_) AllReadyH.nil
   have e0 : y11.cell? ⟨y9.heap.size, 0, none⟩ = some (.slice none 0 0) := HG.out.1.cell 0
   have e1 : y11.cell? ⟨y9.heap.size, 1, none⟩ = some (.slice none 0 0) := HG.out.1.cell 1
   have e2 : y11.cell? ⟨y9.heap.size, 2, none⟩ = some (.slice none 0 0) := HG.out.1.cell 2
   have ef := fun i => HG.out.1.free i
   have HAP : Hid (∀ b ∈ fpW, b ≠ y9.heap.size) := fun b hb => by have h1 := HR.out.2.2.1 b hb; have h2 := HAL.out; omega
   go_simp
   generalize hV : World.setCell _ { block := y9.heap.size, off := 2 } (.slice x3W r3 y3W) = V
   have FIN : Out [y9.heap.size] y11 V /\ Blk V y9.heap.size 33 #[.slice x1W r1 y1W, .slice x2W r2 y2W, .slice x3W r3 y3W] := by
    rw [<- hV]
    refine ⟨?_, ?_⟩
    ·iterate 3 refine Out.setCell ?_ _ _ (by simp)
     exact Out.refl _ _
    ·exact ((HG.out.1.set 0 _).set 1 _).set 2 _
   clear hV ef e0 e1 e2
   have hH : Below w2.heap.size w2 V := Below.out hHeld FIN.1 (fun b hb => by rw [List.mem_singleton.1 hb]; exact HG.out.2) hHeld.size
   have FR : Hid (Below w2.heap.size w2 V /\ Blk V y9.heap.size 33 #[.slice x1W r1 y1W, .slice x2W r2 y2W, .slice x3W r3 y3W] /\ OwnO V w2.heap.size (.agg #[.slice x1W r1 y1W, .slice x2W r2 y2W, .slice x3W r3 y3W]) R fpW /\ (∀ b ∈ fpW, w2.heap.size <= b /\ b < V.heap.size) /\ (w2.heap.size <= y9.heap.size /\ y9.heap.size < V.heap.size)) := ⟨hH, FIN.2, (OwnO.out HR.out.1 FIN.1 (fun b hb hm => HAP.out b hb (List.mem_singleton.1 hm))).base HR.out.2.1, fun b hb => ⟨by have h1 := HR.out.2.2.1 b hb; have h2 := HR.out.2.1; omega, by have h1 := HR.out.2.2.1 b hb; have h3 := HR.out.2.2.2; have h4 := FIN.1.2.2.2.1; omega⟩, HG.out.2, FIN.2.lt⟩
   refine hK.out _ _ hH (fun hHeld => ?_)
   clear hK K hH FIN HAP
   try simp only [Act.put, zA, zB, zC]
   refine zT 10 7 ?_ rfl (by rfl) ?_ hHeld ?_
   rotate_left
   ·intro W hSw
    go_simp
    try with_reducible rfl
   try simp only [Act.put, zA, zB, zC]
   refine wpAnyH_done (by kernel_rfl) ?_ _
   go_wp2_with fail
   go_meet
   exact ⟨y9.heap.size, x1W, y1W, x2W, y2W, x3W, y3W, fpW, rfl, rfl, FR.out⟩
  go_simp
  refine (SP.out y9 _ _ _ _ _ HT.out HV.out).mono ?_
  rintro e y12 ⟨x1W, y1W, x2W, y2W, x3W, y3W, fpW, rfl, ho, hb⟩
  replace HT := zH (HT.out.stays hb)
  replace HV := zH (HV.out.stays hb)
  have HR : Hid (OwnO y12 y9.heap.size (.agg #[.slice x1W r1 y1W, .slice x2W r2 y2W, .slice x3W r3 y3W]) R fpW /\ w2.heap.size <= y9.heap.size /\ (∀ b ∈ fpW, y9.heap.size <= b /\ b < y12.heap.size) /\ y12.heap.size <= y12.heap.size) := ⟨ho, hHeld.size, ho.lt, Nat.le_refl _⟩
  have hH : Below w2.heap.size w2 y12 := Below.on hHeld hb hHeld.size
  clear ho hb
  go_wp2_with fail
  refine hK.out _ _ hH (fun hHeld => ?_)
  clear hK K hH
  try simp only [Act.put, zA, zB, zC]
  refine zT 5 27 ?_ rfl (by rfl) ?_ hHeld ?_
  rotate_left
  ·intro W hSw
   go_simp
   try with_reducible rfl
  try simp only [Act.put, zA, zB, zC]
  refine zT 6 33 ?_ rfl (by rfl) ?_ hHeld ?_
  rotate_left
  ·intro W hSw
   go_simp
   try with_reducible rfl
  try simp only [Act.put, zA, zB, zC]
  refine zT 7 34 ?_ rfl (by rfl) ?_ hHeld ?_
  rotate_left
  ·intro W hSw
   go_simp
   try with_reducible rfl
  try simp only [Act.put, zA, zB, zC]
  refine wpAnyH_ready (rs := [8]) (by kernel_rfl) (by simp) ?_
  refine AllReadyH.cons (o := ⟨some 6, _, _, _, _, _⟩) rfl (fun K hK => ?_) AllReadyH.nil
  obtain ⟨y13, hy13⟩ : ∃ V, V = y12.alloc (Obj.cells #[.slice none 0 0, .slice none 0 0, .slice none 0 0] 33) := ⟨_, rfl⟩
  have hb : Below y12.heap.size y12 y13 := by rw [hy13]; exact (Below.refl _ _).alloc (Nat.le_refl _) _
  have HG : Hid ((Blk y13 y12.heap.size 33 #[.slice none 0 0, .slice none 0 0, .slice none 0 0]) /\ w2.heap.size <= y12.heap.size) := ⟨by rw [hy13]; exact Blk.new _ _ _, hHeld.size⟩
  have HOLD : Hid (∀ b ∈ fpW, b < y12.heap.size) := fun b hb => (HR.out.1.lt b hb).2
  replace HT := zH (HT.out.stays hb)
  replace HV := zH (HV.out.stays hb)
  have HRn : Hid (OwnO y13 y9.heap.size (.agg #[.slice x1W r1 y1W, .slice x2W r2 y2W, .slice x3W r3 y3W]) R fpW /\ w2.heap.size <= y9.heap.size /\ (∀ b ∈ fpW, y9.heap.size <= b /\ b < y12.heap.size) /\ y12.heap.size <= y13.heap.size) := ⟨HR.out.1.stays hb, HR.out.2.1, HR.out.2.2.1, Nat.le_trans HR.out.2.2.2 hb.size⟩
  clear HR
  have HR := HRn
  clear HRn
  have hH : Below w2.heap.size w2 y13 := Below.on hHeld hb hHeld.size
  go_simp
  rw [<- hy13]
  refine hK.out _ _ hH (fun hHeld => ?_)
  clear hK K hH hy13 hb
  try simp only [Act.put, zA, zB, zC]
  refine wpAnyH_ready (rs := [9]) (by kernel_rfl) (by simp) ?_
  refine AllReadyH.cons (o := ⟨none, _, _, _, _, _⟩) rfl (fun K hK => ?_) AllReadyH.nil
  have e0 : y13.cell? ⟨y12.heap.size, 0, none⟩ = some (.slice none 0 0) := HG.out.1.cell 0
  have e1 : y13.cell? ⟨y12.heap.size, 1, none⟩ = some (.slice none 0 0) := HG.out.1.cell 1
  have e2 : y13.cell? ⟨y12.heap.size, 2, none⟩ = some (.slice none 0 0) := HG.out.1.cell 2
  have ef := fun i => HG.out.1.free i
  have HAP : Hid (∀ b ∈ fpW, b ≠ y12.heap.size) := fun b hb => by have h1 := HR.out.2.2.1 b hb; have h3 := HOLD.out b hb; omega
  go_simp
  generalize hV : World.setCell _ { block := y12.heap.size, off := 2 } (.slice x3W r3 y3W) = V
  have FIN : Out [y12.heap.size] y13 V /\ Blk V y12.heap.size 33 #[.slice x1W r1 y1W, .slice x2W r2 y2W, .slice x3W r3 y3W] := by
   rw [<- hV]
   refine ⟨?_, ?_⟩
   ·iterate 3 refine Out.setCell ?_ _ _ (by simp)
    exact Out.refl _ _
   ·exact ((HG.out.1.set 0 _).set 1 _).set 2 _
  clear hV ef e0 e1 e2
  have hH : Below w2.heap.size w2 V := Below.out hHeld FIN.1 (fun b hb => by rw [List.mem_singleton.1 hb]; exact HG.out.2) hHeld.size
  have FR : Hid (Below w2.heap.size w2 V /\ Blk V y12.heap.size 33 #[.slice x1W r1 y1W, .slice x2W r2 y2W, .slice x3W r3 y3W] /\ OwnO V w2.heap.size (.agg #[.slice x1W r1 y1W, .slice x2W r2 y2W, .slice x3W r3 y3W]) R fpW /\ (∀ b ∈ fpW, w2.heap.size <= b /\ b < V.heap.size) /\ (w2.heap.size <= y12.heap.size /\ y12.heap.size < V.heap.size)) := ⟨hH, FIN.2, (OwnO.out HR.out.1 FIN.1 (fun b hb hm => HAP.out b hb (List.mem_singleton.1 hm))).base HR.out.2.1, fun b hb => ⟨by have h1 := HR.out.2.2.1 b hb; have h2 := HR.out.2.1; omega, by have h1 := HR.out.2.2.1 b hb; have h3 := HR.out.2.2.2; have h4 := FIN.1.2.2.2.1; omega⟩, HG.out.2, FIN.2.lt⟩
  refine hK.out _ _ hH (fun hHeld => ?_)
  clear hK K hH FIN HAP
  try simp only [Act.put, zA, zB, zC]
  refine zT 10 7 ?_ rfl (by rfl) ?_ hHeld ?_
  rotate_left
  ·intro W hSw
   go_simp
   try with_reducible rfl
  try simp only [Act.put, zA, zB, zC]
  refine wpAnyH_done (by kernel_rfl) ?_ _
  go_wp2_with fail
  go_meet
  exact ⟨y12.heap.size, x1W, y1W, x2W, y2W, x3W, y3W, fpW, rfl, rfl, FR.out⟩
 case rest =>
 obtain ⟨gW, x1W, y1W, x2W, y2W, x3W, y3W, fpW, rfl, rfl, HCUT⟩ := hcut
 rename World => WXW
 have hb : Below w2.heap.size w2 WXW := HCUT.out.1
 replace HB := zH (Below.on HB.out hb HB.out.size)
 replace HA := zH (HA.out.below hb HA.out.lt)
 replace HC := zH (HC.out.below hb HC.out.lt)
 have O3 : Hid (w2.heap.size <= WXW.heap.size) := hb.size
 clear hb
 have LW : Hid (∀ b ∈ fpW, w2.heap.size <= b /\ b < WXW.heap.size) := HCUT.out.2.2.2.1
 have HW : Hid (OwnO WXW w2.heap.size (.agg #[.slice x1W r1 y1W, .slice x2W r2 y2W, .slice x3W r3 y3W]) R fpW) := HCUT.out.2.2.1
 have VW : Hid (Blk WXW gW 33 #[.slice x1W r1 y1W, .slice x2W r2 y2W, .slice x3W r3 y3W]) := HCUT.out.2.1
 have O4 : Hid (w2.heap.size <= gW /\ gW < WXW.heap.size) := HCUT.out.2.2.2.2
 clear HCUT
 have c0 : WXW.cell? ⟨w.heap.size, 0, none⟩ = some (.slice a1 n1 c1) := HA.out.cell 0
 have c1 : WXW.cell? ⟨w.heap.size, 1, none⟩ = some (.slice a2 n2 c2) := HA.out.cell 1
 have c2 : WXW.cell? ⟨w.heap.size, 2, none⟩ = some (.slice a3 n3 c3) := HA.out.cell 2
 go_wp2_with fail
 clear c0 c1 c2
 refine (TO.out WXW HB.out).mono ?_
 rintro e w3 ⟨x1X, y1X, x2X, y2X, x3X, y3X, fpX, rfl, ho, hb⟩
 replace HB := zH (Below.on HB.out hb HB.out.size)
 replace HA := zH (HA.out.below hb HA.out.lt)
 replace HC := zH (HC.out.below hb HC.out.lt)
 replace HW := zH (HW.out.stays hb)
 replace VW := zH (VW.out.below hb VW.out.lt)
 have O5 : Hid (WXW.heap.size <= w3.heap.size) := hb.size
 have LX : Hid (∀ b ∈ fpX, WXW.heap.size <= b /\ b < w3.heap.size) := ho.lt
 have HX : Hid (OwnO w3 WXW.heap.size (.agg #[.slice x1X n1 y1X, .slice x2X n2 y2X, .slice x3X n3 y3X]) s fpX) := ho
 clear ho hb
 have c0 := fun o => (show (w3.alloc o).cell? ⟨w.heap.size + 1, 0, none⟩ = some (.string c.issuer) from (HC.out.alloc o).cell 0)
 have c1 := fun o => (show (w3.alloc o).cell? ⟨w.heap.size + 1, 1, none⟩ = some (.int .i64 c.num) from (HC.out.alloc o).cell 1)
 have c2 := fun o => (show (w3.alloc o).cell? ⟨w.heap.size + 1, 2, none⟩ = some (.int .i64 c.ths) from (HC.out.alloc o).cell 2)
 have c3 := fun o => (show (w3.alloc o).cell? ⟨w.heap.size + 1, 3, none⟩ = some (.int .i64 c.nxt) from (HC.out.alloc o).cell 3)
 have c4 := fun o => (show (w3.alloc o).cell? ⟨w.heap.size + 1, 4, none⟩ = some (.int .i64 c.bas) from (HC.out.alloc o).cell 4)
 have c5 := fun o => (show (w3.alloc o).cell? ⟨w.heap.size + 1, 5, none⟩ = some (.slice pa c.revs.length pc) from (HC.out.alloc o).cell 5)
 have c6 := fun o => (show (w3.alloc o).cell? ⟨w.heap.size + 1, 6, none⟩ = some (.string c.sig) from (HC.out.alloc o).cell 6)
 go_wp2_with fail
 clear c0 c1 c2 c3 c4 c5 c6
 obtain ⟨W4, hW4⟩ : ∃ W, W = w3.alloc (Obj.cells #[.slice x1X n1 y1X, .slice x2X n2 y2X, .slice x3X n3 y3X] 33) := ⟨_, rfl⟩
 rw [<- hW4]
 have hbW4 : Below w3.heap.size w3 W4 := by rw [hW4]; exact (Below.refl _ _).alloc (Nat.le_refl _) _
 replace HB := zH (Below.on HB.out hbW4 HB.out.size)
 replace HA := zH (HA.out.below hbW4 HA.out.lt)
 replace HC := zH (HC.out.below hbW4 HC.out.lt)
 replace HW := zH (HW.out.stays hbW4)
 replace VW := zH (VW.out.below hbW4 VW.out.lt)
 replace HX := zH (HX.out.stays hbW4)
 have O6 : Hid (w3.heap.size <= W4.heap.size) := hbW4.size
 have VX : Hid (Blk W4 w3.heap.size 33 #[.slice x1X n1 y1X, .slice x2X n2 y2X, .slice x3X n3 y3X]) := by rw [hW4]; exact Blk.new w3 _ _
 have O7 : Hid (W4.heap.size = w3.heap.size + 1) := by rw [hW4]; exact size_alloc _ _
 clear hW4 hbW4
 refine (TC.out W4 HB.out).mono ?_
 rintro e w5 ⟨pY, qY, rfl, ho, hb⟩
 replace HB := zH (Below.on HB.out hb HB.out.size)
 replace HA := zH (HA.out.below hb HA.out.lt)
 replace HC := zH (HC.out.below hb HC.out.lt)
 replace HW := zH (HW.out.stays hb)
 replace VW := zH (VW.out.below hb VW.out.lt)
 replace HX := zH (HX.out.stays hb)
 replace VX := zH (VX.out.below hb VX.out.lt)
 have O8 : Hid (W4.heap.size <= w5.heap.size) := hb.size
 have LY : Hid (∀ b ∈ fpL (.agg #[.string c.issuer, .int .i64 c.num, .int .i64 c.ths, .int .i64 c.nxt, .int .i64 c.bas, .slice pY c.revs.length qY, .string c.sig]), W4.heap.size <= b /\ b < w5.heap.size) := fpL_lt ho
 have HY : Hid (OwnL w5 W4.heap.size (.agg #[.string c.issuer, .int .i64 c.num, .int .i64 c.ths, .int .i64 c.nxt, .int .i64 c.bas, .slice pY c.revs.length qY, .string c.sig]) c) := ho
 clear ho hb
 have d0 := fun o => (show (w5.alloc o).cell? ⟨w3.heap.size, 0, none⟩ = some (.slice x1X n1 y1X) from (VX.out.alloc o).cell 0)
 have d1 := fun o => (show (w5.alloc o).cell? ⟨w3.heap.size, 1, none⟩ = some (.slice x2X n2 y2X) from (VX.out.alloc o).cell 1)
 have d2 := fun o => (show (w5.alloc o).cell? ⟨w3.heap.size, 2, none⟩ = some (.slice x3X n3 y3X) from (VX.out.alloc o).cell 2)
 go_wp2_with fail
 clear d0 d1 d2
 obtain ⟨W6, hW6⟩ : ∃ W, W = w5.alloc (Obj.cells #[.string c.issuer, .int .i64 c.num, .int .i64 c.ths, .int .i64 c.nxt, .int .i64 c.bas, .slice pY c.revs.length qY, .string c.sig] 57) := ⟨_, rfl⟩
 rw [<- hW6]
 have hbW6 : Below w5.heap.size w5 W6 := by rw [hW6]; exact (Below.refl _ _).alloc (Nat.le_refl _) _
 replace HB := zH (Below.on HB.out hbW6 HB.out.size)
 replace HA := zH (HA.out.below hbW6 HA.out.lt)
 replace HC := zH (HC.out.below hbW6 HC.out.lt)
 replace HW := zH (HW.out.stays hbW6)
 replace VW := zH (VW.out.below hbW6 VW.out.lt)
 replace HX := zH (HX.out.stays hbW6)
 replace VX := zH (VX.out.below hbW6 VX.out.lt)
 replace HY := zH (HY.out.stays hbW6)
 have O9 : Hid (w5.heap.size <= W6.heap.size) := hbW6.size
 have VY : Hid (Blk W6 w5.heap.size 57 #[.string c.issuer, .int .i64 c.num, .int .i64 c.ths, .int .i64 c.nxt, .int .i64 c.bas, .slice pY c.revs.length qY, .string c.sig]) := by rw [hW6]; exact Blk.new w5 _ _
 have O10 : Hid (W6.heap.size = w5.heap.size + 1) := by rw [hW6]; exact size_alloc _ _
 clear hW6 hbW6
 refine (IM.out W6 _ _ _ _ _ HX.out HY.out).mono ?_
 rintro e w7 ⟨x1G, y1G, x2G, y2G, x3G, y3G, fpG, rfl, ho, hb⟩
 replace HB := zH (Below.on HB.out hb HB.out.size)
 replace HA := zH (HA.out.below hb HA.out.lt)
 replace HC := zH (HC.out.below hb HC.out.lt)
 replace HW := zH (HW.out.stays hb)
 replace VW := zH (VW.out.below hb VW.out.lt)
 replace HX := zH (HX.out.stays hb)
 replace VX := zH (VX.out.below hb VX.out.lt)
 replace HY := zH (HY.out.stays hb)
 replace VY := zH (VY.out.below hb VY.out.lt)
 have O11 : Hid (W6.heap.size <= w7.heap.size) := hb.size
 have LG : Hid (∀ b ∈ fpG, W6.heap.size <= b /\ b < w7.heap.size) := ho.lt
 have HG : Hid (OwnO w7 W6.heap.size (.agg #[.slice x1G r1 y1G, .slice x2G r2 y2G, .slice x3G r3 y3G]) R fpG) := ho
 clear ho hb
 have d0 := fun o => (show (w7.alloc o).cell? ⟨gW, 0, none⟩ = some (.slice x1W r1 y1W) from (VW.out.alloc o).cell 0)
 have d1 := fun o => (show (w7.alloc o).cell? ⟨gW, 1, none⟩ = some (.slice x2W r2 y2W) from (VW.out.alloc o).cell 1)
 have d2 := fun o => (show (w7.alloc o).cell? ⟨gW, 2, none⟩ = some (.slice x3W r3 y3W) from (VW.out.alloc o).cell 2)
 go_wp2_with fail
 clear d0 d1 d2
 obtain ⟨W8, hW8⟩ : ∃ W, W = w7.alloc (Obj.cells #[.slice x1G r1 y1G, .slice x2G r2 y2G, .slice x3G r3 y3G] 33) := ⟨_, rfl⟩
 rw [<- hW8]
 have hbW8 : Below w7.heap.size w7 W8 := by rw [hW8]; exact (Below.refl _ _).alloc (Nat.le_refl _) _
 replace HB := zH (Below.on HB.out hbW8 HB.out.size)
 replace HA := zH (HA.out.below hbW8 HA.out.lt)
 replace HC := zH (HC.out.below hbW8 HC.out.lt)
 replace HW := zH (HW.out.stays hbW8)
 replace VW := zH (VW.out.below hbW8 VW.out.lt)
 replace HX := zH (HX.out.stays hbW8)
 replace VX := zH (VX.out.below hbW8 VX.out.lt)
 replace HY := zH (HY.out.stays hbW8)
 replace VY := zH (VY.out.below hbW8 VY.out.lt)
 replace HG := zH (HG.out.stays hbW8)
 have O12 : Hid (w7.heap.size <= W8.heap.size) := hbW8.size
 have VG : Hid (Blk W8 w7.heap.size 33 #[.slice x1G r1 y1G, .slice x2G r2 y2G, .slice x3G r3 y3G]) := by rw [hW8]; exact Blk.new w7 _ _
 have O13 : Hid (W8.heap.size = w7.heap.size + 1) := by rw [hW8]; exact size_alloc _ _
 clear hW8 hbW8
 refine (EQ.out W8 _ _ HG.out.at HW.out.at).mono ?_
 rintro e w9 ⟨rfl, hb⟩
 replace HB := zH (Below.on HB.out hb HB.out.size)
 replace HA := zH (HA.out.below hb HA.out.lt)
 replace HC := zH (HC.out.below hb HC.out.lt)
 replace HW := zH (HW.out.stays hb)
 replace VW := zH (VW.out.below hb VW.out.lt)
 replace HX := zH (HX.out.stays hb)
 replace VX := zH (VX.out.below hb VX.out.lt)
 replace HY := zH (HY.out.stays hb)
 replace VY := zH (VY.out.below hb VY.out.lt)
 replace HG := zH (HG.out.stays hb)
 replace VG := zH (VG.out.below hb VG.out.lt)
 have O14 : Hid (W8.heap.size <= w9.heap.size) := hb.size
 clear hb
 go_upto_region 14 with fail
 have HD : Below w9.heap.size w9 w9.drew := (Below.refl _ _).drew
 refine wp_region_held_drew (S := fun W => Below w9.heap.size w9 W) (by kernel_rfl) HD (fun hHeld => ?_)
 clear HD
 generalize w9.drew = wd at hHeld |-
 refine zT 0 54 ?_ rfl (by rfl) ?_ hHeld ?_
 rotate_left
 ·intro W hSw
  have l0 : W.cell? ⟨w3.heap.size, 0, none⟩ = some (.slice x1X n1 y1X) := (hSw.cell (p := ⟨w3.heap.size, 0, none⟩) VX.out.lt).trans (VX.out.cell 0)
  have l1 : W.cell? ⟨w3.heap.size, 1, none⟩ = some (.slice x2X n2 y2X) := (hSw.cell (p := ⟨w3.heap.size, 1, none⟩) VX.out.lt).trans (VX.out.cell 1)
  have l2 : W.cell? ⟨w3.heap.size, 2, none⟩ = some (.slice x3X n3 y3X) := (hSw.cell (p := ⟨w3.heap.size, 2, none⟩) VX.out.lt).trans (VX.out.cell 2)
  go_simp
  try with_reducible rfl
 try simp only [Act.put, zA, zB, zC]
 refine zT 1 55 ?_ rfl (by rfl) ?_ hHeld ?_
 rotate_left
 ·intro W hSw
  have m0 : W.cell? ⟨w.heap.size, 0, none⟩ = some (.slice a1 n1 c1) := (hSw.cell (p := ⟨w.heap.size, 0, none⟩) HA.out.lt).trans (HA.out.cell 0)
  have m1 : W.cell? ⟨w.heap.size, 1, none⟩ = some (.slice a2 n2 c2) := (hSw.cell (p := ⟨w.heap.size, 1, none⟩) HA.out.lt).trans (HA.out.cell 1)
  have m2 : W.cell? ⟨w.heap.size, 2, none⟩ = some (.slice a3 n3 c3) := (hSw.cell (p := ⟨w.heap.size, 2, none⟩) HA.out.lt).trans (HA.out.cell 2)
  go_simp
  try with_reducible rfl
 try simp only [Act.put, zA, zB, zC]
 refine wpAnyH_ready (rs := [2]) (by kernel_rfl) (by simp) ?_
 refine AllReadyH.cons (o := ⟨some 56, _, _, _, _, _⟩) rfl (fun K hK => ?_) AllReadyH.nil
 go_simp
 refine (TO.out wd (Below.on HB.out hHeld HB.out.size)).mono ?_
 rintro e z10 ⟨x1E, y1E, x2E, y2E, x3E, y3E, fpE, rfl, ho, hb⟩
 have hH : Below w9.heap.size w9 z10 := Below.on hHeld hb hHeld.size
 have EE := EQS.out z10 _ _ (HX.out.stays hH).at ho.at
 clear ho hb hHeld
 refine hK.out _ _ hH (fun hHeld => ?_)
 clear hK K hH
 try simp only [Act.put, zA, zB, zC]
 refine wpAnyH_ready (rs := [3]) (by kernel_rfl) (by simp) ?_
 refine AllReadyH.cons (o := ⟨some 57, _, _, _, _, _⟩) rfl (fun K hK => ?_) AllReadyH.nil
 go_simp
 refine EE.mono ?_
 rintro e zz10 ⟨rfl, hb⟩
 have hH : Below w9.heap.size w9 zz10 := Below.on hHeld hb hHeld.size
 clear hb hHeld EE
 refine hK.out _ _ hH (fun hHeld => ?_)
 clear hK K hH
 try simp only [Act.put, zA, zB, zC]
 refine zT 4 58 ?_ rfl (by rfl) ?_ hHeld ?_
 rotate_left
 ·intro W hSw
  go_simp
  try with_reducible rfl
 try simp only [Act.put, zA, zB, zC]
 refine wpAnyH_done (by kernel_rfl) ?_ _
 replace HB := zH (Below.on HB.out hHeld HB.out.size)
 replace HA := zH (HA.out.below hHeld HA.out.lt)
 replace HC := zH (HC.out.below hHeld HC.out.lt)
 replace HW := zH (HW.out.stays hHeld)
 replace VW := zH (VW.out.below hHeld VW.out.lt)
 replace HX := zH (HX.out.stays hHeld)
 replace VX := zH (VX.out.below hHeld VX.out.lt)
 replace HY := zH (HY.out.stays hHeld)
 replace VY := zH (VY.out.below hHeld VY.out.lt)
 replace HG := zH (HG.out.stays hHeld)
 replace VG := zH (VG.out.below hHeld VG.out.lt)
 have O15 : Hid (w9.heap.size <= zz10.heap.size) := hHeld.size
 clear hHeld
 go_upto_region 16 with fail
 have HD : Below zz10.heap.size zz10 zz10.drew := (Below.refl _ _).drew
 refine wp_region_held_drew (S := fun W => Below zz10.heap.size zz10 W) (by kernel_rfl) HD (fun hHeld => ?_)
 clear HD
 generalize zz10.drew = wd at hHeld |-
 refine zT 0 59 ?_ rfl (by rfl) ?_ hHeld ?_
 rotate_left
 ·intro W hSw
  have l0 : W.cell? ⟨w5.heap.size, 0, none⟩ = some (.string c.issuer) := (hSw.cell (p := ⟨w5.heap.size, 0, none⟩) VY.out.lt).trans (VY.out.cell 0)
  have l1 : W.cell? ⟨w5.heap.size, 1, none⟩ = some (.int .i64 c.num) := (hSw.cell (p := ⟨w5.heap.size, 1, none⟩) VY.out.lt).trans (VY.out.cell 1)
  have l2 : W.cell? ⟨w5.heap.size, 2, none⟩ = some (.int .i64 c.ths) := (hSw.cell (p := ⟨w5.heap.size, 2, none⟩) VY.out.lt).trans (VY.out.cell 2)
  have l3 : W.cell? ⟨w5.heap.size, 3, none⟩ = some (.int .i64 c.nxt) := (hSw.cell (p := ⟨w5.heap.size, 3, none⟩) VY.out.lt).trans (VY.out.cell 3)
  have l4 : W.cell? ⟨w5.heap.size, 4, none⟩ = some (.int .i64 c.bas) := (hSw.cell (p := ⟨w5.heap.size, 4, none⟩) VY.out.lt).trans (VY.out.cell 4)
  have l5 : W.cell? ⟨w5.heap.size, 5, none⟩ = some (.slice pY c.revs.length qY) := (hSw.cell (p := ⟨w5.heap.size, 5, none⟩) VY.out.lt).trans (VY.out.cell 5)
  have l6 : W.cell? ⟨w5.heap.size, 6, none⟩ = some (.string c.sig) := (hSw.cell (p := ⟨w5.heap.size, 6, none⟩) VY.out.lt).trans (VY.out.cell 6)
  go_simp
  try with_reducible rfl
 try simp only [Act.put, zA, zB, zC]
 refine zT 1 60 ?_ rfl (by rfl) ?_ hHeld ?_
 rotate_left
 ·intro W hSw
  have m0 : W.cell? ⟨w.heap.size + 1, 0, none⟩ = some (.string c.issuer) := (hSw.cell (p := ⟨w.heap.size + 1, 0, none⟩) HC.out.lt).trans (HC.out.cell 0)
  have m1 : W.cell? ⟨w.heap.size + 1, 1, none⟩ = some (.int .i64 c.num) := (hSw.cell (p := ⟨w.heap.size + 1, 1, none⟩) HC.out.lt).trans (HC.out.cell 1)
  have m2 : W.cell? ⟨w.heap.size + 1, 2, none⟩ = some (.int .i64 c.ths) := (hSw.cell (p := ⟨w.heap.size + 1, 2, none⟩) HC.out.lt).trans (HC.out.cell 2)
  have m3 : W.cell? ⟨w.heap.size + 1, 3, none⟩ = some (.int .i64 c.nxt) := (hSw.cell (p := ⟨w.heap.size + 1, 3, none⟩) HC.out.lt).trans (HC.out.cell 3)
  have m4 : W.cell? ⟨w.heap.size + 1, 4, none⟩ = some (.int .i64 c.bas) := (hSw.cell (p := ⟨w.heap.size + 1, 4, none⟩) HC.out.lt).trans (HC.out.cell 4)
  have m5 : W.cell? ⟨w.heap.size + 1, 5, none⟩ = some (.slice pa c.revs.length pc) := (hSw.cell (p := ⟨w.heap.size + 1, 5, none⟩) HC.out.lt).trans (HC.out.cell 5)
  have m6 : W.cell? ⟨w.heap.size + 1, 6, none⟩ = some (.string c.sig) := (hSw.cell (p := ⟨w.heap.size + 1, 6, none⟩) HC.out.lt).trans (HC.out.cell 6)
  go_simp
  try with_reducible rfl
 try simp only [Act.put, zA, zB, zC]
 refine wpAnyH_ready (rs := [2]) (by kernel_rfl) (by simp) ?_
 refine AllReadyH.cons (o := ⟨some 61, _, _, _, _, _⟩) rfl (fun K hK => ?_) AllReadyH.nil
 go_simp
 refine (TC.out wd (Below.on HB.out hHeld HB.out.size)).mono ?_
 rintro e z11 ⟨pE, qE, rfl, ho, hb⟩
 have hH : Below zz10.heap.size zz10 z11 := Below.on hHeld hb hHeld.size
 have EE := EQC.out z11 _ _ (HY.out.stays hH).at ho.at
 clear ho hb hHeld
 refine hK.out _ _ hH (fun hHeld => ?_)
 clear hK K hH
 try simp only [Act.put, zA, zB, zC]
 refine wpAnyH_ready (rs := [3]) (by kernel_rfl) (by simp) ?_
 refine AllReadyH.cons (o := ⟨some 62, _, _, _, _, _⟩) rfl (fun K hK => ?_) AllReadyH.nil
 go_simp
 refine EE.mono ?_
 rintro e zz11 ⟨rfl, hb⟩
 have hH : Below zz10.heap.size zz10 zz11 := Below.on hHeld hb hHeld.size
 clear hb hHeld EE
 refine hK.out _ _ hH (fun hHeld => ?_)
 clear hK K hH
 try simp only [Act.put, zA, zB, zC]
 refine zT 4 63 ?_ rfl (by rfl) ?_ hHeld ?_
 rotate_left
 ·intro W hSw
  go_simp
  try with_reducible rfl
 try simp only [Act.put, zA, zB, zC]
 refine wpAnyH_done (by kernel_rfl) ?_ _
 replace HB := zH (Below.on HB.out hHeld HB.out.size)
 replace HA := zH (HA.out.below hHeld HA.out.lt)
 replace HC := zH (HC.out.below hHeld HC.out.lt)
 replace HW := zH (HW.out.stays hHeld)
 replace VW := zH (VW.out.below hHeld VW.out.lt)
 replace HX := zH (HX.out.stays hHeld)
 replace VX := zH (VX.out.below hHeld VX.out.lt)
 replace HY := zH (HY.out.stays hHeld)
 replace VY := zH (VY.out.below hHeld VY.out.lt)
 replace HG := zH (HG.out.stays hHeld)
 replace VG := zH (VG.out.below hHeld VG.out.lt)
 have O16 : Hid (zz10.heap.size <= zz11.heap.size) := hHeld.size
 clear hHeld
 have c0 : zz11.cell? ⟨w3.heap.size, 0, none⟩ = some (.slice x1X n1 y1X) := VX.out.cell 0
 have c1 : zz11.cell? ⟨w3.heap.size, 1, none⟩ = some (.slice x2X n2 y2X) := VX.out.cell 1
 have c2 : zz11.cell? ⟨w3.heap.size, 2, none⟩ = some (.slice x3X n3 y3X) := VX.out.cell 2
 go_wp2_with fail
 clear c0 c1 c2
 refine (HMS.out zz11 _ _ _ HX.out).mono ?_
 rintro e w12 ⟨rfl, hoX, hout⟩
 replace HB := zH (Below.out HB.out hout (fun b hm => by have := LX.out b hm; have := O0.out; have := O1.out; have := O2.out; have := O3.out; have := O4.out; have := O5.out; have := O6.out; have := O7.out; have := O8.out; have := O9.out; have := O10.out; have := O11.out; have := O12.out; have := O13.out; have := O14.out; have := O15.out; have := O16.out; omega) HB.out.size)
 have HAn : Hid (Blk w12 w.heap.size 26 #[.slice a1 n1 c1, .slice a2 n2 c2, .slice a3 n3 c3]) := HA.out.out hout (fun hm => by have := LX.out _ hm; have := O0.out; have := O1.out; have := O2.out; have := O3.out; have := O4.out; have := O5.out; have := O6.out; have := O7.out; have := O8.out; have := O9.out; have := O10.out; have := O11.out; have := O12.out; have := O13.out; have := O14.out; have := O15.out; have := O16.out; omega)
 clear HA
 have HA := HAn
 clear HAn
 have HCn : Hid (Blk w12 (w.heap.size + 1) 52 #[.string c.issuer, .int .i64 c.num, .int .i64 c.ths, .int .i64 c.nxt, .int .i64 c.bas, .slice pa c.revs.length pc, .string c.sig]) := HC.out.out hout (fun hm => by have := LX.out _ hm; have := O0.out; have := O1.out; have := O2.out; have := O3.out; have := O4.out; have := O5.out; have := O6.out; have := O7.out; have := O8.out; have := O9.out; have := O10.out; have := O11.out; have := O12.out; have := O13.out; have := O14.out; have := O15.out; have := O16.out; omega)
 clear HC
 have HC := HCn
 clear HCn
 replace HW := zH (HW.out.out hout (fun b hb hm => by have := LX.out b hm; have := LW.out b hb; have := O0.out; have := O1.out; have := O2.out; have := O3.out; have := O4.out; have := O5.out; have := O6.out; have := O7.out; have := O8.out; have := O9.out; have := O10.out; have := O11.out; have := O12.out; have := O13.out; have := O14.out; have := O15.out; have := O16.out; omega))
 have VWn : Hid (Blk w12 gW 33 #[.slice x1W r1 y1W, .slice x2W r2 y2W, .slice x3W r3 y3W]) := VW.out.out hout (fun hm => by have := LX.out _ hm; have := O0.out; have := O1.out; have := O2.out; have := O3.out; have := O4.out; have := O5.out; have := O6.out; have := O7.out; have := O8.out; have := O9.out; have := O10.out; have := O11.out; have := O12.out; have := O13.out; have := O14.out; have := O15.out; have := O16.out; omega)
 clear VW
 have VW := VWn
 clear VWn
 have VXn : Hid (Blk w12 w3.heap.size 33 #[.slice x1X n1 y1X, .slice x2X n2 y2X, .slice x3X n3 y3X]) := VX.out.out hout (fun hm => by have := LX.out _ hm; have := O0.out; have := O1.out; have := O2.out; have := O3.out; have := O4.out; have := O5.out; have := O6.out; have := O7.out; have := O8.out; have := O9.out; have := O10.out; have := O11.out; have := O12.out; have := O13.out; have := O14.out; have := O15.out; have := O16.out; omega)
 clear VX
 have VX := VXn
 clear VXn
 replace HY := zH (HY.out.out hout (fun b hb hm => by have := LX.out b hm; have := LY.out b hb; have := O0.out; have := O1.out; have := O2.out; have := O3.out; have := O4.out; have := O5.out; have := O6.out; have := O7.out; have := O8.out; have := O9.out; have := O10.out; have := O11.out; have := O12.out; have := O13.out; have := O14.out; have := O15.out; have := O16.out; omega))
 have VYn : Hid (Blk w12 w5.heap.size 57 #[.string c.issuer, .int .i64 c.num, .int .i64 c.ths, .int .i64 c.nxt, .int .i64 c.bas, .slice pY c.revs.length qY, .string c.sig]) := VY.out.out hout (fun hm => by have := LX.out _ hm; have := O0.out; have := O1.out; have := O2.out; have := O3.out; have := O4.out; have := O5.out; have := O6.out; have := O7.out; have := O8.out; have := O9.out; have := O10.out; have := O11.out; have := O12.out; have := O13.out; have := O14.out; have := O15.out; have := O16.out; omega)
 clear VY
 have VY := VYn
 clear VYn
 replace HG := zH (HG.out.out hout (fun b hb hm => by have := LX.out b hm; have := LG.out b hb; have := O0.out; have := O1.out; have := O2.out; have := O3.out; have := O4.out; have := O5.out; have := O6.out; have := O7.out; have := O8.out; have := O9.out; have := O10.out; have := O11.out; have := O12.out; have := O13.out; have := O14.out; have := O15.out; have := O16.out; omega))
 have VGn : Hid (Blk w12 w7.heap.size 33 #[.slice x1G r1 y1G, .slice x2G r2 y2G, .slice x3G r3 y3G]) := VG.out.out hout (fun hm => by have := LX.out _ hm; have := O0.out; have := O1.out; have := O2.out; have := O3.out; have := O4.out; have := O5.out; have := O6.out; have := O7.out; have := O8.out; have := O9.out; have := O10.out; have := O11.out; have := O12.out; have := O13.out; have := O14.out; have := O15.out; have := O16.out; omega)
 clear VG
 have VG := VGn
 clear VGn
 have O17 : Hid (zz11.heap.size <= w12.heap.size) := hout.2.2.2.1
 clear HX hoX hout
 obtain ⟨c0, c1, c2, c3, c4, c5, c6⟩ := zc7 VY.out
 go_wp2_with fail
 clear c0 c1 c2 c3 c4 c5 c6
 refine (HMC.out w12 _ _ (by have := O0.out; have := O1.out; have := O2.out; have := O3.out; have := O4.out; have := O5.out; have := O6.out; have := O7.out; have := O8.out; have := O9.out; have := O10.out; have := O11.out; have := O12.out; have := O13.out; have := O14.out; have := O15.out; have := O16.out; have := O17.out; omega) HY.out).mono ?_
 rintro e w13 ⟨rfl, hoX, hout⟩
 replace HB := zH (Below.out HB.out hout (fun b hm => by have := LY.out b hm; have := O0.out; have := O1.out; have := O2.out; have := O3.out; have := O4.out; have := O5.out; have := O6.out; have := O7.out; have := O8.out; have := O9.out; have := O10.out; have := O11.out; have := O12.out; have := O13.out; have := O14.out; have := O15.out; have := O16.out; have := O17.out; omega) HB.out.size)
 have HAn : Hid (Blk w13 w.heap.size 26 #[.slice a1 n1 c1, .slice a2 n2 c2, .slice a3 n3 c3]) := HA.out.out hout (fun hm => by have := LY.out _ hm; have := O0.out; have := O1.out; have := O2.out; have := O3.out; have := O4.out; have := O5.out; have := O6.out; have := O7.out; have := O8.out; have := O9.out; have := O10.out; have := O11.out; have := O12.out; have := O13.out; have := O14.out; have := O15.out; have := O16.out; have := O17.out; omega)
 clear HA
 have HA := HAn
 clear HAn
 have HCn : Hid (Blk w13 (w.heap.size + 1) 52 #[.string c.issuer, .int .i64 c.num, .int .i64 c.ths, .int .i64 c.nxt, .int .i64 c.bas, .slice pa c.revs.length pc, .string c.sig]) := HC.out.out hout (fun hm => by have := LY.out _ hm; have := O0.out; have := O1.out; have := O2.out; have := O3.out; have := O4.out; have := O5.out; have := O6.out; have := O7.out; have := O8.out; have := O9.out; have := O10.out; have := O11.out; have := O12.out; have := O13.out; have := O14.out; have := O15.out; have := O16.out; have := O17.out; omega)
 clear HC
 have HC := HCn
 clear HCn
 replace HW := zH (HW.out.out hout (fun b hb hm => by have := LY.out b hm; have := LW.out b hb; have := O0.out; have := O1.out; have := O2.out; have := O3.out; have := O4.out; have := O5.out; have := O6.out; have := O7.out; have := O8.out; have := O9.out; have := O10.out; have := O11.out; have := O12.out; have := O13.out; have := O14.out; have := O15.out; have := O16.out; have := O17.out; omega))
 have VWn : Hid (Blk w13 gW 33 #[.slice x1W r1 y1W, .slice x2W r2 y2W, .slice x3W r3 y3W]) := VW.out.out hout (fun hm => by have := LY.out _ hm; have := O0.out; have := O1.out; have := O2.out; have := O3.out; have := O4.out; have := O5.out; have := O6.out; have := O7.out; have := O8.out; have := O9.out; have := O10.out; have := O11.out; have := O12.out; have := O13.out; have := O14.out; have := O15.out; have := O16.out; have := O17.out; omega)
 clear VW
 have VW := VWn
 clear VWn
 have VXn : Hid (Blk w13 w3.heap.size 33 #[.slice x1X n1 y1X, .slice x2X n2 y2X, .slice x3X n3 y3X]) := VX.out.out hout (fun hm => by have := LY.out _ hm; have := O0.out; have := O1.out; have := O2.out; have := O3.out; have := O4.out; have := O5.out; have := O6.out; have := O7.out; have := O8.out; have := O9.out; have := O10.out; have := O11.out; have := O12.out; have := O13.out; have := O14.out; have := O15.out; have := O16.out; have := O17.out; omega)
 clear VX
 have VX := VXn
 clear VXn
 have VYn : Hid (Blk w13 w5.heap.size 57 #[.string c.issuer, .int .i64 c.num, .int .i64 c.ths, .int .i64 c.nxt, .int .i64 c.bas, .slice pY c.revs.length qY, .string c.sig]) := VY.out.out hout (fun hm => by have := LY.out _ hm; have := O0.out; have := O1.out; have := O2.out; have := O3.out; have := O4.out; have := O5.out; have := O6.out; have := O7.out; have := O8.out; have := O9.out; have := O10.out; have := O11.out; have := O12.out; have := O13.out; have := O14.out; have := O15.out; have := O16.out; have := O17.out; omega)
 clear VY
 have VY := VYn
 clear VYn
 replace HG := zH (HG.out.out hout (fun b hb hm => by have := LY.out b hm; have := LG.out b hb; have := O0.out; have := O1.out; have := O2.out; have := O3.out; have := O4.out; have := O5.out; have := O6.out; have := O7.out; have := O8.out; have := O9.out; have := O10.out; have := O11.out; have := O12.out; have := O13.out; have := O14.out; have := O15.out; have := O16.out; have := O17.out; omega))
 have VGn : Hid (Blk w13 w7.heap.size 33 #[.slice x1G r1 y1G, .slice x2G r2 y2G, .slice x3G r3 y3G]) := VG.out.out hout (fun hm => by have := LY.out _ hm; have := O0.out; have := O1.out; have := O2.out; have := O3.out; have := O4.out; have := O5.out; have := O6.out; have := O7.out; have := O8.out; have := O9.out; have := O10.out; have := O11.out; have := O12.out; have := O13.out; have := O14.out; have := O15.out; have := O16.out; have := O17.out; omega)
 clear VG
 have VG := VGn
 clear VGn
 have O18 : Hid (w12.heap.size <= w13.heap.size) := hout.2.2.2.1
 clear HY hoX hout
 clear VX VY
 have c0 : w13.cell? ⟨w7.heap.size, 0, none⟩ = some (.slice x1G r1 y1G) := VG.out.cell 0
 have c1 : w13.cell? ⟨w7.heap.size, 1, none⟩ = some (.slice x2G r2 y2G) := VG.out.cell 1
 have c2 : w13.cell? ⟨w7.heap.size, 2, none⟩ = some (.slice x3G r3 y3G) := VG.out.cell 2
 have d0 : w13.cell? ⟨gW, 0, none⟩ = some (.slice x1W r1 y1W) := VW.out.cell 0
 have d1 : w13.cell? ⟨gW, 1, none⟩ = some (.slice x2W r2 y2W) := VW.out.cell 1
 have d2 : w13.cell? ⟨gW, 2, none⟩ = some (.slice x3W r3 y3W) := VW.out.cell 2
 go_wp2_with fail
 clear c0 c1 c2 d0 d1 d2
 refine (EQ.out w13 _ _ HG.out.at HW.out.at).mono ?_
 rintro e w14 ⟨rfl, hb⟩
 replace HB := zH (Below.on HB.out hb HB.out.size)
 replace HA := zH (HA.out.below hb HA.out.lt)
 replace HC := zH (HC.out.below hb HC.out.lt)
 replace HW := zH (HW.out.stays hb)
 replace VW := zH (VW.out.below hb VW.out.lt)
 replace HG := zH (HG.out.stays hb)
 replace VG := zH (VG.out.below hb VG.out.lt)
 have O19 : Hid (w13.heap.size <= w14.heap.size) := hb.size
 clear hb
 have c0 : w14.cell? ⟨w7.heap.size, 0, none⟩ = some (.slice x1G r1 y1G) := VG.out.cell 0
 have c1 : w14.cell? ⟨w7.heap.size, 1, none⟩ = some (.slice x2G r2 y2G) := VG.out.cell 1
 have c2 : w14.cell? ⟨w7.heap.size, 2, none⟩ = some (.slice x3G r3 y3G) := VG.out.cell 2
 go_wp2_with fail
 clear c0 c1 c2
 refine (HMG.out w14 _ _ _ HG.out).mono ?_
 rintro e w15 ⟨rfl, hoX, hout⟩
 replace HB := zH (Below.out HB.out hout (fun b hm => by have := LG.out b hm; have := O0.out; have := O1.out; have := O2.out; have := O3.out; have := O4.out; have := O5.out; have := O6.out; have := O7.out; have := O8.out; have := O9.out; have := O10.out; have := O11.out; have := O12.out; have := O13.out; have := O14.out; have := O15.out; have := O16.out; have := O17.out; have := O18.out; have := O19.out; omega) HB.out.size)
 have HAn : Hid (Blk w15 w.heap.size 26 #[.slice a1 n1 c1, .slice a2 n2 c2, .slice a3 n3 c3]) := HA.out.out hout (fun hm => by have := LG.out _ hm; have := O0.out; have := O1.out; have := O2.out; have := O3.out; have := O4.out; have := O5.out; have := O6.out; have := O7.out; have := O8.out; have := O9.out; have := O10.out; have := O11.out; have := O12.out; have := O13.out; have := O14.out; have := O15.out; have := O16.out; have := O17.out; have := O18.out; have := O19.out; omega)
 clear HA
 have HA := HAn
 clear HAn
 have HCn : Hid (Blk w15 (w.heap.size + 1) 52 #[.string c.issuer, .int .i64 c.num, .int .i64 c.ths, .int .i64 c.nxt, .int .i64 c.bas, .slice pa c.revs.length pc, .string c.sig]) := HC.out.out hout (fun hm => by have := LG.out _ hm; have := O0.out; have := O1.out; have := O2.out; have := O3.out; have := O4.out; have := O5.out; have := O6.out; have := O7.out; have := O8.out; have := O9.out; have := O10.out; have := O11.out; have := O12.out; have := O13.out; have := O14.out; have := O15.out; have := O16.out; have := O17.out; have := O18.out; have := O19.out; omega)
 clear HC
 have HC := HCn
 clear HCn
 replace HW := zH (HW.out.out hout (fun b hb hm => by have := LG.out b hm; have := LW.out b hb; have := O0.out; have := O1.out; have := O2.out; have := O3.out; have := O4.out; have := O5.out; have := O6.out; have := O7.out; have := O8.out; have := O9.out; have := O10.out; have := O11.out; have := O12.out; have := O13.out; have := O14.out; have := O15.out; have := O16.out; have := O17.out; have := O18.out; have := O19.out; omega))
 have VWn : Hid (Blk w15 gW 33 #[.slice x1W r1 y1W, .slice x2W r2 y2W, .slice x3W r3 y3W]) := VW.out.out hout (fun hm => by have := LG.out _ hm; have := O0.out; have := O1.out; have := O2.out; have := O3.out; have := O4.out; have := O5.out; have := O6.out; have := O7.out; have := O8.out; have := O9.out; have := O10.out; have := O11.out; have := O12.out; have := O13.out; have := O14.out; have := O15.out; have := O16.out; have := O17.out; have := O18.out; have := O19.out; omega)
 clear VW
 have VW := VWn
 clear VWn
 have VGn : Hid (Blk w15 w7.heap.size 33 #[.slice x1G r1 y1G, .slice x2G r2 y2G, .slice x3G r3 y3G]) := VG.out.out hout (fun hm => by have := LG.out _ hm; have := O0.out; have := O1.out; have := O2.out; have := O3.out; have := O4.out; have := O5.out; have := O6.out; have := O7.out; have := O8.out; have := O9.out; have := O10.out; have := O11.out; have := O12.out; have := O13.out; have := O14.out; have := O15.out; have := O16.out; have := O17.out; have := O18.out; have := O19.out; omega)
 clear VG
 have VG := VGn
 clear VGn
 have O20 : Hid (w14.heap.size <= w15.heap.size) := hout.2.2.2.1
 clear HG
 have HG : Hid (OwnO w15 W6.heap.size (.agg #[.slice x1G r1 y1G, .slice x2G r2 y2G, .slice x3G r3 y3G]) (mkO 1 R) fpG) := hoX
 clear hoX hout
 have c0 : w15.cell? ⟨w7.heap.size, 0, none⟩ = some (.slice x1G r1 y1G) := VG.out.cell 0
 have c1 : w15.cell? ⟨w7.heap.size, 1, none⟩ = some (.slice x2G r2 y2G) := VG.out.cell 1
 have c2 : w15.cell? ⟨w7.heap.size, 2, none⟩ = some (.slice x3G r3 y3G) := VG.out.cell 2
 go_wp2_with fail
 clear c0 c1 c2
 refine (HHG.out w15 _ HG.out.at).mono ?_
 rintro e w16 ⟨rfl, hb⟩
 replace HB := zH (Below.on HB.out hb HB.out.size)
 replace HA := zH (HA.out.below hb HA.out.lt)
 replace HC := zH (HC.out.below hb HC.out.lt)
 replace HW := zH (HW.out.stays hb)
 replace VW := zH (VW.out.below hb VW.out.lt)
 replace VG := zH (VG.out.below hb VG.out.lt)
 replace HG := zH (HG.out.stays hb)
 have O21 : Hid (w15.heap.size <= w16.heap.size) := hb.size
 clear hb
 go_upto_region 31 with fail
 go_cut [15, 16] from 17 (fun s15 s16 wx => ∃ (gH : Nat) (x1H : Option Addr) (y1H : Nat) (x2H : Option Addr) (y2H : Nat) (x3H : Option Addr) (y3H : Nat) (fpH : List Nat), s15 = .pointer (some ⟨gH, 0, none⟩) /\ s16 = .bool OK /\ Hid (Below w16.heap.size w16 wx /\ Blk wx gH 33 #[.slice x1H r1 y1H, .slice x2H r2 y2H, .slice x3H r3 y3H] /\ OwnO wx w16.heap.size (.agg #[.slice x1H r1 y1H, .slice x2H r2 y2H, .slice x3H r3 y3H]) R fpH /\ (∀ b ∈ fpH, w16.heap.size <= b /\ b < wx.heap.size) /\ (w16.heap.size <= gH /\ gH < wx.heap.size)))
 case first =>
  have HD : Below w16.heap.size w16 w16.drew := (Below.refl _ _).drew
  refine wp_region_held_drew (S := fun W => Below w16.heap.size w16 W) (by kernel_rfl) HD (fun hHeld => ?_)
  clear HD
  generalize w16.drew = wd at hHeld |-
  refine zT 0 95 ?_ rfl (by rfl) ?_ hHeld ?_
  rotate_left
  ·intro W hSw
   have l0 : W.cell? ⟨w.heap.size, 0, none⟩ = some (.slice a1 n1 c1) := (hSw.cell (p := ⟨w.heap.size, 0, none⟩) HA.out.lt).trans (HA.out.cell 0)
   have l1 : W.cell? ⟨w.heap.size, 1, none⟩ = some (.slice a2 n2 c2) := (hSw.cell (p := ⟨w.heap.size, 1, none⟩) HA.out.lt).trans (HA.out.cell 1)
   have l2 : W.cell? ⟨w.heap.size, 2, none⟩ = some (.slice a3 n3 c3) := (hSw.cell (p := ⟨w.heap.size, 2, none⟩) HA.out.lt).trans (HA.out.cell 2)
   go_simp
   try with_reducible rfl
  try simp only [Act.put, zA, zB, zC]
  refine zT 2 97 ?_ rfl (by rfl) ?_ hHeld ?_
  rotate_left
  ·intro W hSw
   have l0 : W.cell? ⟨w.heap.size + 1, 0, none⟩ = some (.string c.issuer) := (hSw.cell (p := ⟨w.heap.size + 1, 0, none⟩) HC.out.lt).trans (HC.out.cell 0)
   have l1 : W.cell? ⟨w.heap.size + 1, 1, none⟩ = some (.int .i64 c.num) := (hSw.cell (p := ⟨w.heap.size + 1, 1, none⟩) HC.out.lt).trans (HC.out.cell 1)
   have l2 : W.cell? ⟨w.heap.size + 1, 2, none⟩ = some (.int .i64 c.ths) := (hSw.cell (p := ⟨w.heap.size + 1, 2, none⟩) HC.out.lt).trans (HC.out.cell 2)
   have l3 : W.cell? ⟨w.heap.size + 1, 3, none⟩ = some (.int .i64 c.nxt) := (hSw.cell (p := ⟨w.heap.size + 1, 3, none⟩) HC.out.lt).trans (HC.out.cell 3)
   have l4 : W.cell? ⟨w.heap.size + 1, 4, none⟩ = some (.int .i64 c.bas) := (hSw.cell (p := ⟨w.heap.size + 1, 4, none⟩) HC.out.lt).trans (HC.out.cell 4)
   have l5 : W.cell? ⟨w.heap.size + 1, 5, none⟩ = some (.slice pa c.revs.length pc) := (hSw.cell (p := ⟨w.heap.size + 1, 5, none⟩) HC.out.lt).trans (HC.out.cell 5)
   have l6 : W.cell? ⟨w.heap.size + 1, 6, none⟩ = some (.string c.sig) := (hSw.cell (p := ⟨w.heap.size + 1, 6, none⟩) HC.out.lt).trans (HC.out.cell 6)
   go_simp
   try with_reducible rfl
  try simp only [Act.put, zA, zB, zC]
  refine wpAnyH_ready (rs := [1, 8]) (by kernel_rfl) (by simp) ?_
  refine AllReadyH.cons (o := ⟨some 96, _, _, _, _, _⟩) rfl (fun K hK => ?_) ?_
  rotate_left
  ·refine AllReadyH.cons (o := ⟨some 15, _, _, _, _, _⟩) rfl (fun K hK => ?_) AllReadyH.nil
   obtain ⟨y1, hy1⟩ : ∃ V, V = wd.alloc (Obj.cells #[.slice none 0 0, .slice none 0 0, .slice none 0 0] 33) := ⟨_, rfl⟩
   have hb : Below wd.heap.size wd y1 := by rw [hy1]; exact (Below.refl _ _).alloc (Nat.le_refl _) _
   have HG : Hid ((Blk y1 wd.heap.size 33 #[.slice none 0 0, .slice none 0 0, .slice none 0 0]) /\ w16.heap.size <= wd.heap.size) := ⟨by rw [hy1]; exact Blk.new _ _ _, hHeld.size⟩
   have hH : Below w16.heap.size w16 y1 := Below.on hHeld hb hHeld.size
   go_simp
   rw [<- hy1]
   refine hK.out _ _ hH (fun hHeld => ?_)
   clear hK K hH hy1 hb
   try simp only [Act.put, zA, zB, zC]
   refine wpAnyH_ready (rs := [1]) (by kernel_rfl) (by simp) ?_
   refine AllReadyH.cons (o := ⟨some 96, _, _, _, _, _⟩) rfl (fun K hK => ?_) AllReadyH.nil
   go_simp
   refine (TO.out y1 (Below.on HB.out hHeld HB.out.size)).mono ?_
   rintro e y2 ⟨x1T, y1T, x2T, y2T, x3T, y3T, fpT, rfl, ho, hb⟩
   have HGn : Hid ((Blk y2 wd.heap.size 33 #[.slice none 0 0, .slice none 0 0, .slice none 0 0]) /\ w16.heap.size <= wd.heap.size) := ⟨HG.out.1.below hb HG.out.1.lt, HG.out.2⟩
   clear HG
   have HG := HGn
   clear HGn
   have HT : Hid (OwnO y2 y1.heap.size (.agg #[.slice x1T n1 y1T, .slice x2T n2 y2T, .slice x3T n3 y3T]) s fpT) := ho
   have hH : Below w16.heap.size w16 y2 := Below.on hHeld hb hHeld.size
   clear ho hb
   go_wp2_with fail
   refine hK.out _ _ hH (fun hHeld => ?_)
   clear hK K hH
   try simp only [Act.put, zA, zB, zC]
   refine wpAnyH_ready (rs := [3]) (by kernel_rfl) (by simp) ?_
   refine AllReadyH.cons (o := ⟨some 98, _, _, _, _, _⟩) rfl (fun K hK => ?_) AllReadyH.nil
   go_simp
   refine (TC.out y2 (Below.on HB.out hHeld HB.out.size)).mono ?_
   rintro e y3 ⟨pY, qY, rfl, ho, hb⟩
   have HGn : Hid ((Blk y3 wd.heap.size 33 #[.slice none 0 0, .slice none 0 0, .slice none 0 0]) /\ w16.heap.size <= wd.heap.size) := ⟨HG.out.1.below hb HG.out.1.lt, HG.out.2⟩
   clear HG
   have HG := HGn
   clear HGn
   replace HT := zH (HT.out.stays hb)
   have HV : Hid (OwnL y3 y2.heap.size (.agg #[.string c.issuer, .int .i64 c.num, .int .i64 c.ths, .int .i64 c.nxt, .int .i64 c.bas, .slice pY c.revs.length qY, .string c.sig]) c) := ho
   have hH : Below w16.heap.size w16 y3 := Below.on hHeld hb hHeld.size
   clear ho hb
   go_wp2_with fail
   refine hK.out _ _ hH (fun hHeld => ?_)
   clear hK K hH
   try simp only [Act.put, zA, zB, zC]
   refine wpAnyH_ready (rs := [4]) (by kernel_rfl) (by simp) ?_
   refine AllReadyH.cons (o := ⟨some 99, _, _, _, _, _⟩) rfl (fun K hK => ?_) AllReadyH.nil
   go_simp
   refine (IM.out y3 _ _ _ _ _ HT.out HV.out).mono ?_
   rintro e y4 ⟨x1H, y1H, x2H, y2H, x3H, y3H, fpH, rfl, ho, hb⟩
   have HAL : Hid (wd.heap.size < y3.heap.size) := HG.out.1.lt
   have HGn : Hid ((Blk y4 wd.heap.size 33 #[.slice none 0 0, .slice none 0 0, .slice none 0 0]) /\ w16.heap.size <= wd.heap.size) := ⟨HG.out.1.below hb HG.out.1.lt, HG.out.2⟩
   clear HG
   have HG := HGn
   clear HGn
   replace HT := zH (HT.out.stays hb)
   replace HV := zH (HV.out.stays hb)
   have HR : Hid (OwnO y4 y3.heap.size (.agg #[.slice x1H r1 y1H, .slice x2H r2 y2H, .slice x3H r3 y3H]) R fpH /\ w16.heap.size <= y3.heap.size /\ (∀ b ∈ fpH, y3.heap.size <= b /\ b < y4.heap.size) /\ y4.heap.size <= y4.heap.size) := ⟨ho, hHeld.size, ho.lt, Nat.le_refl _⟩
   have hH : Below w16.heap.size w16 y4 := Below.on hHeld hb hHeld.size
   clear ho hb
   go_wp2_with fail
   refine hK.out _ _ hH (fun hHeld => ?_)
   clear hK K hH
   try simp only [Act.put, zA, zB, zC]
   refine zT 5 94 ?_ rfl (by rfl) ?_ hHeld ?_
   rotate_left
   ·intro W hSw
    go_simp
    try with_reducible rfl
   try simp only [Act.put, zA, zB, zC]
   refine zT 6 100 ?_ rfl (by rfl) ?_ hHeld ?_
   rotate_left
   ·intro W hSw
    go_simp
    try with_reducible rfl
   try simp only [Act.put, zA, zB, zC]
   refine zT 7 101 ?_ rfl (by rfl) ?_ hHeld ?_
   rotate_left
   ·intro W hSw
    go_simp
    try with_reducible rfl
   try simp only [Act.put, zA, zB, zC]
   refine wpAnyH_ready (rs := [9]) (by kernel_rfl) (by simp) ?_
   refine AllReadyH.cons (o := ⟨none, _, _, _, _, _⟩) rfl (fun K hK => ?_) AllReadyH.nil
   have e0 : y4.cell? ⟨wd.heap.size, 0, none⟩ = some (.slice none 0 0) := HG.out.1.cell 0
   have e1 : y4.cell? ⟨wd.heap.size, 1, none⟩ = some (.slice none 0 0) := HG.out.1.cell 1
   have e2 : y4.cell? ⟨wd.heap.size, 2, none⟩ = some (.slice none 0 0) := HG.out.1.cell 2
   have ef := fun i => HG.out.1.free i
   have HAP : Hid (∀ b ∈ fpH, b ≠ wd.heap.size) := fun b hb => by have h1 := HR.out.2.2.1 b hb; have h2 := HAL.out; omega
   go_simp
   generalize hV : World.setCell _ { block := wd.heap.size, off := 2 } (.slice x3H r3 y3H) = V
   have FIN : Out [wd.heap.size] y4 V /\ Blk V wd.heap.size 33 #[.slice x1H r1 y1H, .slice x2H r2 y2H, .slice x3H r3 y3H] := by
    rw [<- hV]
    refine ⟨?_, ?_⟩
    ·iterate 3 refine Out.setCell ?_ _ _ (by simp)
     exact Out.refl _ _
    ·exact ((HG.out.1.set 0 _).set 1 _).set 2 _
   clear hV ef e0 e1 e2
   have hH : Below w16.heap.size w16 V := Below.out hHeld FIN.1 (fun b hb => by rw [List.mem_singleton.1 hb]; exact HG.out.2) hHeld.size
   have FR : Hid (Below w16.heap.size w16 V /\ Blk V wd.heap.size 33 #[.slice x1H r1 y1H, .slice x2H r2 y2H, .slice x3H r3 y3H] /\ OwnO V w16.heap.size (.agg #[.slice x1H r1 y1H, .slice x2H r2 y2H, .slice x3H r3 y3H]) R fpH /\ (∀ b ∈ fpH, w16.heap.size <= b /\ b < V.heap.size) /\ (w16.heap.size <= wd.heap.size /\ wd.heap.size < V.heap.size)) := ⟨hH, FIN.2, (OwnO.out HR.out.1 FIN.1 (fun b hb hm => HAP.out b hb (List.mem_singleton.1 hm))).base HR.out.2.1, fun b hb => ⟨by have h1 := HR.out.2.2.1 b hb; have h2 := HR.out.2.1; omega, by have h1 := HR.out.2.2.1 b hb; have h3 := HR.out.2.2.2; have h4 := FIN.1.2.2.2.1; omega⟩, HG.out.2, FIN.2.lt⟩
   refine hK.out _ _ hH (fun hHeld => ?_)
   clear hK K hH FIN HAP
   try simp only [Act.put, zA, zB, zC]
   refine zT 10 16 ?_ rfl (by rfl) ?_ hHeld ?_
   rotate_left
   ·intro W hSw
    go_simp
    try with_reducible rfl
   try simp only [Act.put, zA, zB, zC]
   refine wpAnyH_done (by kernel_rfl) ?_ _
   go_wp2_with fail
   go_meet
   exact ⟨wd.heap.size, x1H, y1H, x2H, y2H, x3H, y3H, fpH, rfl, rfl, FR.out⟩
  go_simp
  refine (TO.out wd (Below.on HB.out hHeld HB.out.size)).mono ?_
  rintro e y5 ⟨x1T, y1T, x2T, y2T, x3T, y3T, fpT, rfl, ho, hb⟩
  have HT : Hid (OwnO y5 wd.heap.size (.agg #[.slice x1T n1 y1T, .slice x2T n2 y2T, .slice x3T n3 y3T]) s fpT) := ho
  have hH : Below w16.heap.size w16 y5 := Below.on hHeld hb hHeld.size
  clear ho hb
  go_wp2_with fail
  refine hK.out _ _ hH (fun hHeld => ?_)
  clear hK K hH
  try simp only [Act.put, zA, zB, zC]
  refine wpAnyH_ready (rs := [3, 8]) (by kernel_rfl) (by simp) ?_
  refine AllReadyH.cons (o := ⟨some 98, _, _, _, _, _⟩) rfl (fun K hK => ?_) ?_
  rotate_left
  ·refine AllReadyH.cons (o := ⟨some 15, _, _, _, _, _⟩) rfl (fun K hK => ?_) AllReadyH.nil
   obtain ⟨y6, hy6⟩ : ∃ V, V = y5.alloc (Obj.cells #[.slice none 0 0, .slice none 0 0, .slice none 0 0] 33) := ⟨_, rfl⟩
   have hb : Below y5.heap.size y5 y6 := by rw [hy6]; exact (Below.refl _ _).alloc (Nat.le_refl _) _
   have HG : Hid ((Blk y6 y5.heap.size 33 #[.slice none 0 0, .slice none 0 0, .slice none 0 0]) /\ w16.heap.size <= y5.heap.size) := ⟨by rw [hy6]; exact Blk.new _ _ _, hHeld.size⟩
   replace HT := zH (HT.out.stays hb)
   have hH : Below w16.heap.size w16 y6 := Below.on hHeld hb hHeld.size
   go_simp
   rw [<- hy6]
   refine hK.out _ _ hH (fun hHeld => ?_)
   clear hK K hH hy6 hb
   try simp only [Act.put, zA, zB, zC]
   refine wpAnyH_ready (rs := [3]) (by kernel_rfl) (by simp) ?_
   refine AllReadyH.cons (o := ⟨some 98, _, _, _, _, _⟩) rfl (fun K hK => ?_) AllReadyH.nil
   go_simp
   refine (TC.out y6 (Below.on HB.out hHeld HB.out.size)).mono ?_
   rintro e y7 ⟨pY, qY, rfl, ho, hb⟩
   replace HT := zH (HT.out.stays hb)
   have HGn : Hid ((Blk y7 y5.heap.size 33 #[.slice none 0 0, .slice none 0 0, .slice none 0 0]) /\ w16.heap.size <= y5.heap.size) := ⟨HG.out.1.below hb HG.out.1.lt, HG.out.2⟩
   clear HG
   have HG := HGn
   clear HGn
   have HV : Hid (OwnL y7 y6.heap.size (.agg #[.string c.issuer, .int .i64 c.num, .int .i64 c.ths, .int .i64 c.nxt, .int .i64 c.bas, .slice pY c.revs.length qY, .string c.sig]) c) := ho
   have hH : Below w16.heap.size w16 y7 := Below.on hHeld hb hHeld.size
   clear ho hb
   go_wp2_with fail
   refine hK.out _ _ hH (fun hHeld => ?_)
   clear hK K hH
   try simp only [Act.put, zA, zB, zC]
   refine wpAnyH_ready (rs := [4]) (by kernel_rfl) (by simp) ?_
   refine AllReadyH.cons (o := ⟨some 99, _, _, _, _, _⟩) rfl (fun K hK => ?_) AllReadyH.nil
   go_simp
   refine (IM.out y7 _ _ _ _ _ HT.out HV.out).mono ?_
   rintro e y8 ⟨x1H, y1H, x2H, y2H, x3H, y3H, fpH, rfl, ho, hb⟩
   have HAL : Hid (y5.heap.size < y7.heap.size) := HG.out.1.lt
   replace HT := zH (HT.out.stays hb)
   have HGn : Hid ((Blk y8 y5.heap.size 33 #[.slice none 0 0, .slice none 0 0, .slice none 0 0]) /\ w16.heap.size <= y5.heap.size) := ⟨HG.out.1.below hb HG.out.1.lt, HG.out.2⟩
   clear HG
   have HG := HGn
   clear HGn
   replace HV := zH (HV.out.stays hb)
   have HR : Hid (OwnO y8 y7.heap.size (.agg #[.slice x1H r1 y1H, .slice x2H r2 y2H, .slice x3H r3 y3H]) R fpH /\ w16.heap.size <= y7.heap.size /\ (∀ b ∈ fpH, y7.heap.size <= b /\ b < y8.heap.size) /\ y8.heap.size <= y8.heap.size) := ⟨ho, hHeld.size, ho.lt, Nat.le_refl _⟩
   have hH : Below w16.heap.size w16 y8 := Below.on hHeld hb hHeld.size
   clear ho hb
   go_wp2_with fail
   refine hK.out _ _ hH (fun hHeld => ?_)
   clear hK K hH
   try simp only [Act.put, zA, zB, zC]
   refine zT 5 94 ?_ rfl (by rfl) ?_ hHeld ?_
   rotate_left
   ·intro W hSw
    go_simp
    try with_reducible rfl
   try simp only [Act.put, zA, zB, zC]
   refine zT 6 100 ?_ rfl (by rfl) ?_ hHeld ?_
   rotate_left
   ·intro W hSw
    go_simp
    try with_reducible rfl
   try simp only [Act.put, zA, zB, zC]
   refine zT 7 101 ?_ rfl (by rfl) ?_ hHeld ?_
   rotate_left
   ·intro W hSw
    go_simp
    try with_reducible rfl
   try simp only [Act.put, zA, zB, zC]
   refine wpAnyH_ready (rs := [9]) (by kernel_rfl) (by simp) ?_
   refine AllReadyH.cons (o := ⟨none, _, _, _, _, _⟩) rfl (fun K hK => ?_) AllReadyH.nil
   have e0 : y8.cell? ⟨y5.heap.size, 0, none⟩ = some (.slice none 0 0) := HG.out.1.cell 0
   have e1 : y8.cell? ⟨y5.heap.size, 1, none⟩ = some (.slice none 0 0) := HG.out.1.cell 1
   have e2 : y8.cell? ⟨y5.heap.size, 2, none⟩ = some (.slice none 0 0) := HG.out.1.cell 2
   have ef := fun i => HG.out.1.free i
   have HAP : Hid (∀ b ∈ fpH, b ≠ y5.heap.size) := fun b hb => by have h1 := HR.out.2.2.1 b hb; have h2 := HAL.out; omega
   go_simp
   generalize hV : World.setCell _ { block := y5.heap.size, off := 2 } (.slice x3H r3 y3H) = V
   have FIN : Out [y5.heap.size] y8 V /\ Blk V y5.heap.size 33 #[.slice x1H r1 y1H, .slice x2H r2 y2H, .slice x3H r3 y3H] := by
    rw [<- hV]
    refine ⟨?_, ?_⟩
    ·iterate 3 refine Out.setCell ?_ _ _ (by simp)
     exact Out.refl _ _
    ·exact ((HG.out.1.set 0 _).set 1 _).set 2 _
   clear hV ef e0 e1 e2
   have hH : Below w16.heap.size w16 V := Below.out hHeld FIN.1 (fun b hb => by rw [List.mem_singleton.1 hb]; exact HG.out.2) hHeld.size
   have FR : Hid (Below w16.heap.size w16 V /\ Blk V y5.heap.size 33 #[.slice x1H r1 y1H, .slice x2H r2 y2H, .slice x3H r3 y3H] /\ OwnO V w16.heap.size (.agg #[.slice x1H r1 y1H, .slice x2H r2 y2H, .slice x3H r3 y3H]) R fpH /\ (∀ b ∈ fpH, w16.heap.size <= b /\ b < V.heap.size) /\ (w16.heap.size <= y5.heap.size /\ y5.heap.size < V.heap.size)) := ⟨hH, FIN.2, (OwnO.out HR.out.1 FIN.1 (fun b hb hm => HAP.out b hb (List.mem_singleton.1 hm))).base HR.out.2.1, fun b hb => ⟨by have h1 := HR.out.2.2.1 b hb; have h2 := HR.out.2.1; omega, by have h1 := HR.out.2.2.1 b hb; have h3 := HR.out.2.2.2; have h4 := FIN.1.2.2.2.1; omega⟩, HG.out.2, FIN.2.lt⟩
   refine hK.out _ _ hH (fun hHeld => ?_)
   clear hK K hH FIN HAP
   try simp only [Act.put, zA, zB, zC]
   refine zT 10 16 ?_ rfl (by rfl) ?_ hHeld ?_
   rotate_left
   ·intro W hSw
    go_simp
    try with_reducible rfl
   try simp only [Act.put, zA, zB, zC]
   refine wpAnyH_done (by kernel_rfl) ?_ _
   go_wp2_with fail
   go_meet
   exact ⟨y5.heap.size, x1H, y1H, x2H, y2H, x3H, y3H, fpH, rfl, rfl, FR.out⟩
  go_simp
  refine (TC.out y5 (Below.on HB.out hHeld HB.out.size)).mono ?_
  rintro e y9 ⟨pY, qY, rfl, ho, hb⟩
  replace HT := zH (HT.out.stays hb)
  have HV : Hid (OwnL y9 y5.heap.size (.agg #[.string c.issuer, .int .i64 c.num, .int .i64 c.ths, .int .i64 c.nxt, .int .i64 c.bas, .slice pY c.revs.length qY, .string c.sig]) c) := ho
  have hH : Below w16.heap.size w16 y9 := Below.on hHeld hb hHeld.size
  clear ho hb
  go_wp2_with fail
  refine hK.out _ _ hH (fun hHeld => ?_)
  clear hK K hH
  try simp only [Act.put, zA, zB, zC]
  refine wpAnyH_ready (rs := [4, 8]) (by kernel_rfl) (by simp) ?_
  refine AllReadyH.cons (o := ⟨some 99, _, _, _, _, _⟩) rfl (fun K hK => ?_) ?_
  rotate_left
  ·refine AllReadyH.cons (o := ⟨some 15, _, _, _, _, _⟩) rfl (fun K hK => ?_) AllReadyH.nil
   obtain ⟨y10, hy10⟩ : ∃ V, V = y9.alloc (Obj.cells #[.slice none 0 0, .slice none 0 0, .slice none 0 0] 33) := ⟨_, rfl⟩
   have hb : Below y9.heap.size y9 y10 := by rw [hy10]; exact (Below.refl _ _).alloc (Nat.le_refl _) _
   have HG : Hid ((Blk y10 y9.heap.size 33 #[.slice none 0 0, .slice none 0 0, .slice none 0 0]) /\ w16.heap.size <= y9.heap.size) := ⟨by rw [hy10]; exact Blk.new _ _ _, hHeld.size⟩
   replace HT := zH (HT.out.stays hb)
   replace HV := zH (HV.out.stays hb)
   have hH : Below w16.heap.size w16 y10 := Below.on hHeld hb hHeld.size
   go_simp
   rw [<- hy10]
   refine hK.out _ _ hH (fun hHeld => ?_)
   clear hK K hH hy10 hb
   try simp only [Act.put, zA, zB, zC]
   refine wpAnyH_ready (rs := [4]) (by kernel_rfl) (by simp) ?_
   refine AllReadyH.cons (o := ⟨some 99, _, _, _, _, _⟩) rfl (fun K hK => ?_) AllReadyH.nil
   go_simp
   refine (IM.out y10 _ _ _ _ _ HT.out HV.out).mono ?_
   rintro e y11 ⟨x1H, y1H, x2H, y2H, x3H, y3H, fpH, rfl, ho, hb⟩
   have HAL : Hid (y9.heap.size < y10.heap.size) := HG.out.1.lt
   replace HT := zH (HT.out.stays hb)
   replace HV := zH (HV.out.stays hb)
   have HGn : Hid ((Blk y11 y9.heap.size 33 #[.slice none 0 0, .slice none 0 0, .slice none 0 0]) /\ w16.heap.size <= y9.heap.size) := ⟨HG.out.1.below hb HG.out.1.lt, HG.out.2⟩
   clear HG
   have HG := HGn
   clear HGn
   have HR : Hid (OwnO y11 y10.heap.size (.agg #[.slice x1H r1 y1H, .slice x2H r2 y2H, .slice x3H r3 y3H]) R fpH /\ w16.heap.size <= y10.heap.size /\ (∀ b ∈ fpH, y10.heap.size <= b /\ b < y11.heap.size) /\ y11.heap.size <= y11.heap.size) := ⟨ho, hHeld.size, ho.lt, Nat.le_refl _⟩
   have hH : Below w16.heap.size w16 y11 := Below.on hHeld hb hHeld.size
   clear ho hb
   go_wp2_with fail
   refine hK.out _ _ hH (fun hHeld => ?_)
   clear hK K hH
   try simp only [Act.put, zA, zB, zC]
   refine zT 5 94 ?_ rfl (by rfl) ?_ hHeld ?_
   rotate_left
   ·intro W hSw
    go_simp
    try with_reducible rfl
   try simp only [Act.put, zA, zB, zC]
   refine zT 6 100 ?_ rfl (by rfl) ?_ hHeld ?_
   rotate_left
   ·intro W hSw
    go_simp
    try with_reducible rfl
   try simp only [Act.put, zA, zB, zC]
   refine zT 7 101 ?_ rfl (by rfl) ?_ hHeld ?_
   rotate_left
   ·intro W hSw
    go_simp
    try with_reducible rfl
   try simp only [Act.put, zA, zB, zC]
   refine wpAnyH_ready (rs := [9]) (by kernel_rfl) (by simp) ?_
   refine AllReadyH.cons (o := ⟨none, _, _, _, _, _⟩) rfl (fun K hK => ?_) AllReadyH.nil
   have e0 : y11.cell? ⟨y9.heap.size, 0, none⟩ = some (.slice none 0 0) := HG.out.1.cell 0
   have e1 : y11.cell? ⟨y9.heap.size, 1, none⟩ = some (.slice none 0 0) := HG.out.1.cell 1
   have e2 : y11.cell? ⟨y9.heap.size, 2, none⟩ = some (.slice none 0 0) := HG.out.1.cell 2
   have ef := fun i => HG.out.1.free i
   have HAP : Hid (∀ b ∈ fpH, b ≠ y9.heap.size) := fun b hb => by have h1 := HR.out.2.2.1 b hb; have h2 := HAL.out; omega
   go_simp
   generalize hV : World.setCell _ { block := y9.heap.size, off := 2 } (.slice x3H r3 y3H) = V
   have FIN : Out [y9.heap.size] y11 V /\ Blk V y9.heap.size 33 #[.slice x1H r1 y1H, .slice x2H r2 y2H, .slice x3H r3 y3H] := by
    rw [<- hV]
    refine ⟨?_, ?_⟩
    ·iterate 3 refine Out.setCell ?_ _ _ (by simp)
     exact Out.refl _ _
    ·exact ((HG.out.1.set 0 _).set 1 _).set 2 _
   clear hV ef e0 e1 e2
   have hH : Below w16.heap.size w16 V := Below.out hHeld FIN.1 (fun b hb => by rw [List.mem_singleton.1 hb]; exact HG.out.2) hHeld.size
   have FR : Hid (Below w16.heap.size w16 V /\ Blk V y9.heap.size 33 #[.slice x1H r1 y1H, .slice x2H r2 y2H, .slice x3H r3 y3H] /\ OwnO V w16.heap.size (.agg #[.slice x1H r1 y1H, .slice x2H r2 y2H, .slice x3H r3 y3H]) R fpH /\ (∀ b ∈ fpH, w16.heap.size <= b /\ b < V.heap.size) /\ (w16.heap.size <= y9.heap.size /\ y9.heap.size < V.heap.size)) := ⟨hH, FIN.2, (OwnO.out HR.out.1 FIN.1 (fun b hb hm => HAP.out b hb (List.mem_singleton.1 hm))).base HR.out.2.1, fun b hb => ⟨by have h1 := HR.out.2.2.1 b hb; have h2 := HR.out.2.1; omega, by have h1 := HR.out.2.2.1 b hb; have h3 := HR.out.2.2.2; have h4 := FIN.1.2.2.2.1; omega⟩, HG.out.2, FIN.2.lt⟩
   refine hK.out _ _ hH (fun hHeld => ?_)
   clear hK K hH FIN HAP
   try simp only [Act.put, zA, zB, zC]
   refine zT 10 16 ?_ rfl (by rfl) ?_ hHeld ?_
   rotate_left
   ·intro W hSw
    go_simp
    try with_reducible rfl
   try simp only [Act.put, zA, zB, zC]
   refine wpAnyH_done (by kernel_rfl) ?_ _
   go_wp2_with fail
   go_meet
   exact ⟨y9.heap.size, x1H, y1H, x2H, y2H, x3H, y3H, fpH, rfl, rfl, FR.out⟩
  go_simp
  refine (IM.out y9 _ _ _ _ _ HT.out HV.out).mono ?_
  rintro e y12 ⟨x1H, y1H, x2H, y2H, x3H, y3H, fpH, rfl, ho, hb⟩
  replace HT := zH (HT.out.stays hb)
  replace HV := zH (HV.out.stays hb)
  have HR : Hid (OwnO y12 y9.heap.size (.agg #[.slice x1H r1 y1H, .slice x2H r2 y2H, .slice x3H r3 y3H]) R fpH /\ w16.heap.size <= y9.heap.size /\ (∀ b ∈ fpH, y9.heap.size <= b /\ b < y12.heap.size) /\ y12.heap.size <= y12.heap.size) := ⟨ho, hHeld.size, ho.lt, Nat.le_refl _⟩
  have hH : Below w16.heap.size w16 y12 := Below.on hHeld hb hHeld.size
  clear ho hb
  go_wp2_with fail
  refine hK.out _ _ hH (fun hHeld => ?_)
  clear hK K hH
  try simp only [Act.put, zA, zB, zC]
  refine zT 5 94 ?_ rfl (by rfl) ?_ hHeld ?_
  rotate_left
  ·intro W hSw
   go_simp
   try with_reducible rfl
  try simp only [Act.put, zA, zB, zC]
  refine zT 6 100 ?_ rfl (by rfl) ?_ hHeld ?_
  rotate_left
  ·intro W hSw
   go_simp
   try with_reducible rfl
  try simp only [Act.put, zA, zB, zC]
  refine zT 7 101 ?_ rfl (by rfl) ?_ hHeld ?_
  rotate_left
  ·intro W hSw
   go_simp
   try with_reducible rfl
  try simp only [Act.put, zA, zB, zC]
  refine wpAnyH_ready (rs := [8]) (by kernel_rfl) (by simp) ?_
  refine AllReadyH.cons (o := ⟨some 15, _, _, _, _, _⟩) rfl (fun K hK => ?_) AllReadyH.nil
  obtain ⟨y13, hy13⟩ : ∃ V, V = y12.alloc (Obj.cells #[.slice none 0 0, .slice none 0 0, .slice none 0 0] 33) := ⟨_, rfl⟩
  have hb : Below y12.heap.size y12 y13 := by rw [hy13]; exact (Below.refl _ _).alloc (Nat.le_refl _) _
  have HG : Hid ((Blk y13 y12.heap.size 33 #[.slice none 0 0, .slice none 0 0, .slice none 0 0]) /\ w16.heap.size <= y12.heap.size) := ⟨by rw [hy13]; exact Blk.new _ _ _, hHeld.size⟩
  have HOLD : Hid (∀ b ∈ fpH, b < y12.heap.size) := fun b hb => (HR.out.1.lt b hb).2
  replace HT := zH (HT.out.stays hb)
  replace HV := zH (HV.out.stays hb)
  have HRn : Hid (OwnO y13 y9.heap.size (.agg #[.slice x1H r1 y1H, .slice x2H r2 y2H, .slice x3H r3 y3H]) R fpH /\ w16.heap.size <= y9.heap.size /\ (∀ b ∈ fpH, y9.heap.size <= b /\ b < y12.heap.size) /\ y12.heap.size <= y13.heap.size) := ⟨HR.out.1.stays hb, HR.out.2.1, HR.out.2.2.1, Nat.le_trans HR.out.2.2.2 hb.size⟩
  clear HR
  have HR := HRn
  clear HRn
  have hH : Below w16.heap.size w16 y13 := Below.on hHeld hb hHeld.size
  go_simp
  rw [<- hy13]
  refine hK.out _ _ hH (fun hHeld => ?_)
  clear hK K hH hy13 hb
  try simp only [Act.put, zA, zB, zC]
  refine wpAnyH_ready (rs := [9]) (by kernel_rfl) (by simp) ?_
  refine AllReadyH.cons (o := ⟨none, _, _, _, _, _⟩) rfl (fun K hK => ?_) AllReadyH.nil
  have e0 : y13.cell? ⟨y12.heap.size, 0, none⟩ = some (.slice none 0 0) := HG.out.1.cell 0
  have e1 : y13.cell? ⟨y12.heap.size, 1, none⟩ = some (.slice none 0 0) := HG.out.1.cell 1
  have e2 : y13.cell? ⟨y12.heap.size, 2, none⟩ = some (.slice none 0 0) := HG.out.1.cell 2
  have ef := fun i => HG.out.1.free i
  have HAP : Hid (∀ b ∈ fpH, b ≠ y12.heap.size) := fun b hb => by have h1 := HR.out.2.2.1 b hb; have h3 := HOLD.out b hb; omega
  go_simp
  generalize hV : World.setCell _ { block := y12.heap.size, off := 2 } (.slice x3H r3 y3H) = V
  have FIN : Out [y12.heap.size] y13 V /\ Blk V y12.heap.size 33 #[.slice x1H r1 y1H, .slice x2H r2 y2H, .slice x3H r3 y3H] := by
   rw [<- hV]
   refine ⟨?_, ?_⟩
   ·iterate 3 refine Out.setCell ?_ _ _ (by simp)
    exact Out.refl _ _
   ·exact ((HG.out.1.set 0 _).set 1 _).set 2 _
  clear hV ef e0 e1 e2
  have hH : Below w16.heap.size w16 V := Below.out hHeld FIN.1 (fun b hb => by rw [List.mem_singleton.1 hb]; exact HG.out.2) hHeld.size
  have FR : Hid (Below w16.heap.size w16 V /\ Blk V y12.heap.size 33 #[.slice x1H r1 y1H, .slice x2H r2 y2H, .slice x3H r3 y3H] /\ OwnO V w16.heap.size (.agg #[.slice x1H r1 y1H, .slice x2H r2 y2H, .slice x3H r3 y3H]) R fpH /\ (∀ b ∈ fpH, w16.heap.size <= b /\ b < V.heap.size) /\ (w16.heap.size <= y12.heap.size /\ y12.heap.size < V.heap.size)) := ⟨hH, FIN.2, (OwnO.out HR.out.1 FIN.1 (fun b hb hm => HAP.out b hb (List.mem_singleton.1 hm))).base HR.out.2.1, fun b hb => ⟨by have h1 := HR.out.2.2.1 b hb; have h2 := HR.out.2.1; omega, by have h1 := HR.out.2.2.1 b hb; have h3 := HR.out.2.2.2; have h4 := FIN.1.2.2.2.1; omega⟩, HG.out.2, FIN.2.lt⟩
  refine hK.out _ _ hH (fun hHeld => ?_)
  clear hK K hH FIN HAP
  try simp only [Act.put, zA, zB, zC]
  refine zT 10 16 ?_ rfl (by rfl) ?_ hHeld ?_
  rotate_left
  ·intro W hSw
   go_simp
   try with_reducible rfl
  try simp only [Act.put, zA, zB, zC]
  refine wpAnyH_done (by kernel_rfl) ?_ _
  go_wp2_with fail
  go_meet
  exact ⟨y12.heap.size, x1H, y1H, x2H, y2H, x3H, y3H, fpH, rfl, rfl, FR.out⟩
 case rest =>
 obtain ⟨gH, x1H, y1H, x2H, y2H, x3H, y3H, fpH, rfl, rfl, HCUT⟩ := hcut
 rename World => WXH
 have hb : Below w16.heap.size w16 WXH := HCUT.out.1
 replace HB := zH (Below.on HB.out hb HB.out.size)
 replace HA := zH (HA.out.below hb HA.out.lt)
 replace HC := zH (HC.out.below hb HC.out.lt)
 replace HW := zH (HW.out.stays hb)
 replace VW := zH (VW.out.below hb VW.out.lt)
 replace VG := zH (VG.out.below hb VG.out.lt)
 replace HG := zH (HG.out.stays hb)
 have O22 : Hid (w16.heap.size <= WXH.heap.size) := hb.size
 clear hb
 have LH : Hid (∀ b ∈ fpH, w16.heap.size <= b /\ b < WXH.heap.size) := HCUT.out.2.2.2.1
 have HH : Hid (OwnO WXH w16.heap.size (.agg #[.slice x1H r1 y1H, .slice x2H r2 y2H, .slice x3H r3 y3H]) R fpH) := HCUT.out.2.2.1
 have VH : Hid (Blk WXH gH 33 #[.slice x1H r1 y1H, .slice x2H r2 y2H, .slice x3H r3 y3H]) := HCUT.out.2.1
 have O23 : Hid (w16.heap.size <= gH /\ gH < WXH.heap.size) := HCUT.out.2.2.2.2
 clear HCUT
 have c0 : WXH.cell? ⟨gH, 0, none⟩ = some (.slice x1H r1 y1H) := VH.out.cell 0
 have c1 : WXH.cell? ⟨gH, 1, none⟩ = some (.slice x2H r2 y2H) := VH.out.cell 1
 have c2 : WXH.cell? ⟨gH, 2, none⟩ = some (.slice x3H r3 y3H) := VH.out.cell 2
 have d0 : WXH.cell? ⟨gW, 0, none⟩ = some (.slice x1W r1 y1W) := VW.out.cell 0
 have d1 : WXH.cell? ⟨gW, 1, none⟩ = some (.slice x2W r2 y2W) := VW.out.cell 1
 have d2 : WXH.cell? ⟨gW, 2, none⟩ = some (.slice x3W r3 y3W) := VW.out.cell 2
 go_wp2_with fail
 clear c0 c1 c2 d0 d1 d2
 refine (EQ.out WXH _ _ HH.out.at HW.out.at).mono ?_
 rintro e w17 ⟨rfl, hb⟩
 replace HB := zH (Below.on HB.out hb HB.out.size)
 replace HA := zH (HA.out.below hb HA.out.lt)
 replace HC := zH (HC.out.below hb HC.out.lt)
 replace HW := zH (HW.out.stays hb)
 replace VW := zH (VW.out.below hb VW.out.lt)
 replace VG := zH (VG.out.below hb VG.out.lt)
 replace HG := zH (HG.out.stays hb)
 replace HH := zH (HH.out.stays hb)
 replace VH := zH (VH.out.below hb VH.out.lt)
 have O24 : Hid (WXH.heap.size <= w17.heap.size) := hb.size
 clear hb
 have c0 : w17.cell? ⟨w7.heap.size, 0, none⟩ = some (.slice x1G r1 y1G) := VG.out.cell 0
 have c1 : w17.cell? ⟨w7.heap.size, 1, none⟩ = some (.slice x2G r2 y2G) := VG.out.cell 1
 have c2 : w17.cell? ⟨w7.heap.size, 2, none⟩ = some (.slice x3G r3 y3G) := VG.out.cell 2
 go_wp2_with fail
 clear c0 c1 c2
 refine (HHG.out w17 _ HG.out.at).mono ?_
 rintro e w18 ⟨rfl, hb⟩
 replace HB := zH (Below.on HB.out hb HB.out.size)
 replace HA := zH (HA.out.below hb HA.out.lt)
 replace HC := zH (HC.out.below hb HC.out.lt)
 replace HW := zH (HW.out.stays hb)
 replace VW := zH (VW.out.below hb VW.out.lt)
 replace VG := zH (VG.out.below hb VG.out.lt)
 replace HG := zH (HG.out.stays hb)
 replace HH := zH (HH.out.stays hb)
 replace VH := zH (VH.out.below hb VH.out.lt)
 have O25 : Hid (w17.heap.size <= w18.heap.size) := hb.size
 clear hb
 go_wp2_with fail
 go_ret
 exact ⟨rfl, HB.out⟩
theorem laidOut_FnExactAddCrl : laidOutB Tryz.prog = true := by kernel_rfl
theorem own_FnExactAddCrl : ownKnob Tryz.prog.godebug = none := by kernel_rfl
theorem lifted_FnExactAddCrl (os : Os) (started : os.Started) (H : Type) (enc : TypeId × Value -> H) :
  ReturnsInHanded {} Tryz.checked os 5 .any (Rows.fnExactAddCrlSpec.pre6 enc Tryz.prog Tryz.f5 Rows.fnExactAddCrlRow.domain false) (Rows.fnExactAddCrlSpec.post enc Tryz.prog Tryz.f5 false true false false) := by
 refine returnsInHanded_of_change (C := Tryz.checked) own_FnExactAddCrl started (by kernel_rfl) Tryz.func5
  (ChangeSpec.witness6 (enc := enc) (C := Tryz.checked) false ⟨#[], #[.agg #[.slice none 0 0, .slice none 0 0, .slice none 0 0], .agg #[.string ⟨#[]⟩, .int .i64 0, .int .i64 0, .int .i64 0, .int .i64 0, .slice none 0 0, .string ⟨#[]⟩]], []⟩ 8 (by kernel_rfl) (by kernel_rfl) (by kernel_rfl) (by kernel_rfl)) ?_
 intro W base args ds gs before hval0 hW hcnd _
 have hval : ∀ (j : Nat) t v, Tryz.f5.params[j]? = some t -> args[j]? = some v -> Value.okWide Tryz.prog W .any base t v := hval0
 have hW' := hW
 obtain ⟨p, q, hA0, hV, rfl, hfz, hnd⟩ := hW
 have hA : DataW.TrodAll enc Tryz.prog W 0 (fun _ => true) true Tryz.f5.params.toList args.toList ds p := hA0
 rw [Tryz.params5] at hA hval
 obtain ⟨v0, vs0, d0, ds0, p0, q0, hargs, rfl, rfl, h0, r0⟩ := trodAll_cons hA
 obtain ⟨v1, vs1, d1, ds1, p1, q1, rfl, rfl, rfl, h1, r1⟩ := trodAll_cons r0
 obtain ⟨rfl, rfl, rfl⟩ := trodAll_nil r1
 obtain rfl : args = #[v0, v1] := by cases args; simp_all
 obtain ⟨rfl, rfl⟩ := trodVars_none hV
 obtain ⟨a0, rfl, ca0⟩ := okWide_struct Tryz.underlying26 (hval 0 26 v0 rfl rfl)
 have k0 := h0
 have lt0 : ∀ x ∈ p0, x.block < W.heap.size := by obtain ⟨m, hm⟩ := k0; exact DataW.trod_lt m _ _ _ hm
 have w0 : ∃ c : So, ArgO W.heap.size W (.agg a0) c /\ WdO c := by
  obtain ⟨fuel, hf⟩ := h0
  exact store_of_trod hf
 obtain ⟨a1, rfl, ca1⟩ := okWide_struct Tryz.underlying52 (hval 1 52 v1 rfl rfl)
 have k1 := h1
 have lt1 : ∀ x ∈ p1, x.block < W.heap.size := by obtain ⟨m, hm⟩ := k1; exact DataW.trod_lt m _ _ _ hm
 have w1 : ∃ c : Cl, ArgL W.heap.size W (.agg a1) c /\ WdL c := by
  obtain ⟨fuel, hf⟩ := h1
  obtain ⟨c, p, hv, hat, hwd⟩ := crl_of_trod hf
  have e2 : Value.agg a1 = clV c p := hv
  exact ⟨c, by rw [e2]; exact hat, hwd⟩
 clear hA0 hval0
 simp only [List.append_nil] at hW'
 refine (walk_FnExactAddCrl a0 a1 W w0 w1).mono fun e W' ⟨he, bel⟩ => ?_
 subst he
 exact ⟨_, rfl, _, _, _, [], _, [], hW', trodAll_mk1 (shut_bool Tryz.underlying4 _), (trodAll_cons_mk (Below.trod laidOut_FnExactAddCrl (by kernel_rfl) (of_decide_eq_true (by kernel_rfl)) k0 bel lt0) (trodAll_cons_mk (Below.trod laidOut_FnExactAddCrl (by kernel_rfl) (of_decide_eq_true (by kernel_rfl)) k1 bel lt1) trodAll_mk0)), rfl, bel.frame _, fun h => by cases h⟩
theorem over_FnExactAddCrl : Rows.fnExactAddCrlRow.holds Tryz.pinned (OpenSpec.ofChange Rows.fnExactAddCrlSpec) :=
 OpenClaim.holds_of_wide 5 Tryz.f5 rfl rfl rfl rfl rfl rfl rfl ⟨rfl, rfl, rfl, rfl, rfl⟩ rfl rfl rfl rfl rfl (by kernel_rfl) Tryz.func5 (by kernel_rfl)
  (of_decide_eq_true (by kernel_rfl)) (by unfold Func.isWrapper; first | (rw [if_pos (by decide +kernel)]; kernel_rfl) | (rw [if_neg (by decide +kernel)]; exact ⟨rfl, rfl⟩))
  (fun os started H enc _ => lifted_FnExactAddCrl os started H enc)
theorem proved_FnExactAddCrl : Rows.FnExactAddCrlSaid := over_FnExactAddCrl
#print axioms proved_FnExactAddCrl
end Go.Proofs.YtplblechcnbieaaGreat
