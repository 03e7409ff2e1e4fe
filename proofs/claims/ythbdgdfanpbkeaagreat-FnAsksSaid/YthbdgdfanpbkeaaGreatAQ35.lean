/-
  Texts of the proof.
-/
import Derived.Deep.CutBlock
import Derived.Deep.RegionLaw
import Derived.Deep.AppendLies
import Derived.Deep.RegionHeld3
import Derived.OwnWalk
import Derived.Test.YthbdgdfanpbkeaaGreatAQ34
set_option maxRecDepth 100000
set_option maxHeartbeats 25600000
namespace Go.Proofs.YthbdgdfanpbkeaaGreat
open Go.RowKit Der
set_option linter.unusedVariables false
set_option linter.unusedSimpArgs false
theorem new_text (w : World) (t : ByteArray) : ∀ (j : Nat) (u : Value), [Value.string t][j]? = some u -> (w.alloc (Obj.cells #[.string t] 9)).cell? ((⟨w.heap.size, 0, none⟩ : Addr).add j) = some u := fun j u hu => by
 match j, hu with
 | 0, hu =>
  have h := (rone_text w t).cell (j := 0) (by simp)
  rw [Addr.add_lit]
  have e : u = .string t := by simpa using hu.symm
  rw [e]
  exact h
 | j + 1, hu => simp at hu
theorem askCopy_any (c : Ak) (v : Value) (bs : Nat) (w : World) (hl : c.tg.length <= 20000000) (ha : OwnAk w bs v c) :
  Calls Tryz.prog 35 #[v] w fun e w' => ∃ u, e = .returned u /\ OwnAk w' w.heap.size u c /\ Below w.heap.size w w' := by
 obtain ⟨i9, hi9, hz09, hz19, hz29⟩ := info_parts info9
 obtain ⟨p, rfl, h1⟩ := ha
 obtain ⟨pa, pc, hp⟩ : ∃ ao cap, p = .slice ao c.tg.length cap := by obtain ⟨ao, cap, h, _⟩ := h1.at; exact ⟨ao, cap, h⟩
 obtain ⟨lp, hlp⟩ := zE (c.tg.length)
 rw [hlp] at hp
 subst hp
 have HA : Hid (OwnT w bs (.slice pa lp pc) c.tg /\ c.tg.length <= 20000000) := ⟨h1, hl⟩
 clear h1 hl hlp
 unfold akV
 go_enter Tryz.func35, Tryz.ntmps35
 obtain ⟨V0, hV0⟩ : ∃ W, W = (((w.alloc (Obj.cells #[.slice pa lp pc, .int .i64 c.plan, .int .i64 c.want, .int .i64 c.nonce, .int .i64 c.time, .bool c.cac] 26)).alloc (Obj.cells #[.slice none 0 0, .int .i64 0, .int .i64 0, .int .i64 0, .int .i64 0, .bool false] 26)).alloc (Obj.cells #[.slice pa lp pc, .int .i64 c.plan, .int .i64 c.want, .int .i64 c.nonce, .int .i64 c.time, .bool c.cac] 26)) := ⟨_, rfl⟩
 have e0 : (w.alloc (Obj.cells #[.slice pa lp pc, .int .i64 c.plan, .int .i64 c.want, .int .i64 c.nonce, .int .i64 c.time, .bool c.cac] 26)).heap.size = w.heap.size + 1 := Array.size_push _
 have e1 : ((w.alloc (Obj.cells #[.slice pa lp pc, .int .i64 c.plan, .int .i64 c.want, .int .i64 c.nonce, .int .i64 c.time, .bool c.cac] 26)).alloc (Obj.cells #[.slice none 0 0, .int .i64 0, .int .i64 0, .int .i64 0, .int .i64 0, .bool false] 26)).heap.size = w.heap.size + 1 + 1 := by rw [size_alloc, e0]
 have z0 : V0.heap.size = w.heap.size + 1 + 1 + 1 := by rw [hV0, size_alloc, e1]
 have G0 : Hid (Blk V0 w.heap.size 26 #[.slice pa lp pc, .int .i64 c.plan, .int .i64 c.want, .int .i64 c.nonce, .int .i64 c.time, .bool c.cac] /\ Blk V0 (w.heap.size + 1) 26 #[.slice none 0 0, .int .i64 0, .int .i64 0, .int .i64 0, .int .i64 0, .bool false] /\ Blk V0 (w.heap.size + 1 + 1) 26 #[.slice pa lp pc, .int .i64 c.plan, .int .i64 c.want, .int .i64 c.nonce, .int .i64 c.time, .bool c.cac] /\ Below w.heap.size w V0) := by
  rw [hV0]
  refine ⟨((Blk.new w _ _).alloc _).alloc _, ?_, ?_, (((Below.refl _ _).alloc (Nat.le_refl _) _).alloc (by rw [e0]; omega) _).alloc (by rw [e1]; omega) _⟩
  ·have h := (Blk.new (w.alloc (Obj.cells #[.slice pa lp pc, .int .i64 c.plan, .int .i64 c.want, .int .i64 c.nonce, .int .i64 c.time, .bool c.cac] 26)) 26 #[.slice none 0 0, .int .i64 0, .int .i64 0, .int .i64 0, .int .i64 0, .bool false]).alloc (Obj.cells #[.slice pa lp pc, .int .i64 c.plan, .int .i64 c.want, .int .i64 c.nonce, .int .i64 c.time, .bool c.cac] 26)
   rw [e0] at h
   exact h
  ·have h := Blk.new ((w.alloc (Obj.cells #[.slice pa lp pc, .int .i64 c.plan, .int .i64 c.want, .int .i64 c.nonce, .int .i64 c.time, .bool c.cac] 26)).alloc (Obj.cells #[.slice none 0 0, .int .i64 0, .int .i64 0, .int .i64 0, .int .i64 0, .bool false] 26)) 26 #[.slice pa lp pc, .int .i64 c.plan, .int .i64 c.want, .int .i64 c.nonce, .int .i64 c.time, .bool c.cac]
   rw [e1] at h
   exact h
 clear e0 e1
 have HM0 : Hid ((V0.alloc (Obj.cells #[] 9)).ownsRow V0.heap.size 9 1 (.slice (some ⟨w.heap.size + 1 + 1 + 1, 0, none⟩) 0 0) 0 [] /\ OwnT (V0.alloc (Obj.cells #[] 9)) bs (.slice pa lp pc) c.tg) := by
  refine ⟨?_, HA.out.1.stays (G0.out.2.2.2.alloc G0.out.2.2.2.size _)⟩
  have h := World.ownsRow_made V0 (base := V0.heap.size) (e := 9) (size := 1) #[] 0 (Nat.le_refl _) (Nat.zero_le _) rfl
  rw [z0] at h |-
  exact h
 have hle0 : 0 + c.tg.length <= 100000000 := by have := HA.out.2; omega
 have hss0 : V0.heap.size <= (V0.alloc (Obj.cells #[] 9)).heap.size := by simp
 go_wp2_with (at_builtin; rw [<- hV0]; refine wpList_append_texts2 rfl _ _ 24 rfl V0.heap.size i9 Tryz.underlying24 hi9 hz09 hz19 hz29 _ 0 [] rfl HM0.out.1 (.slice pa lp pc) c.tg bs HM0.out.2 rfl hle0 hss0 ?_)
 intro vp u0 ho hg
 try rw [<- hV0] at hg
 have F0 : Hid ((Blk u0 w.heap.size 26 #[.slice pa lp pc, .int .i64 c.plan, .int .i64 c.want, .int .i64 c.nonce, .int .i64 c.time, .bool c.cac] /\ Blk u0 (w.heap.size + 1) 26 #[.slice none 0 0, .int .i64 0, .int .i64 0, .int .i64 0, .int .i64 0, .bool false] /\ Blk u0 (w.heap.size + 1 + 1) 26 #[.slice pa lp pc, .int .i64 c.plan, .int .i64 c.want, .int .i64 c.nonce, .int .i64 c.time, .bool c.cac] /\ Below w.heap.size w u0) /\ w.heap.size + 1 + 1 + 1 <= u0.heap.size /\ OwnT u0 (w.heap.size + 1 + 1 + 1) vp c.tg) := by
  have hb : Below V0.heap.size V0 u0 := ((Below.refl _ _).alloc (Nat.le_refl _) _).grown hg hss0 (fun q hq => by simp [Value.ownBlock] at hq; omega)
  have on : OwnT u0 V0.heap.size vp c.tg := by rw [z0]; simpa [OwnT] using ho
  exact ⟨⟨G0.out.1.below hb (by omega), G0.out.2.1.below hb (by omega), G0.out.2.2.1.below hb (by omega), G0.out.2.2.2.trans (hb.mono G0.out.2.2.2.size)⟩, by have := hb.size; omega, on.base (by omega)⟩
 clear ho hg G0 HM0 hle0 hss0 z0 hV0
 have fr := fun j => F0.out.1.2.2.1.free j
 obtain ⟨qv, mv, hsv⟩ : ∃ ao cap, vp = .slice ao c.tg.length cap := by obtain ⟨ao, cap, h, _⟩ := (F0.out.2.2).at; exact ⟨ao, cap, h⟩
 obtain ⟨lv, hlv⟩ := zE (c.tg.length)
 rw [hlv] at hsv
 clear hlv
 subst hsv
 have wd2 : w.heap.size + 1 ≠ w.heap.size + 1 + 1 := by omega
 have f1 := fun j => F0.out.1.2.1.free j
 have c10 : u0.cell? ⟨w.heap.size + 1, 0, none⟩ = some (.slice none 0 0) := F0.out.1.2.1.cell 0
 have c20 : u0.cell? ⟨w.heap.size + 1 + 1, 0, none⟩ = some (.slice pa lp pc) := F0.out.1.2.2.1.cell 0
 have c11 : u0.cell? ⟨w.heap.size + 1, 1, none⟩ = some (.int .i64 0) := F0.out.1.2.1.cell 1
 have c21 : u0.cell? ⟨w.heap.size + 1 + 1, 1, none⟩ = some (.int .i64 c.plan) := F0.out.1.2.2.1.cell 1
 have c12 : u0.cell? ⟨w.heap.size + 1, 2, none⟩ = some (.int .i64 0) := F0.out.1.2.1.cell 2
 have c22 : u0.cell? ⟨w.heap.size + 1 + 1, 2, none⟩ = some (.int .i64 c.want) := F0.out.1.2.2.1.cell 2
 have c13 : u0.cell? ⟨w.heap.size + 1, 3, none⟩ = some (.int .i64 0) := F0.out.1.2.1.cell 3
 have c23 : u0.cell? ⟨w.heap.size + 1 + 1, 3, none⟩ = some (.int .i64 c.nonce) := F0.out.1.2.2.1.cell 3
 have c14 : u0.cell? ⟨w.heap.size + 1, 4, none⟩ = some (.int .i64 0) := F0.out.1.2.1.cell 4
 have c24 : u0.cell? ⟨w.heap.size + 1 + 1, 4, none⟩ = some (.int .i64 c.time) := F0.out.1.2.2.1.cell 4
 have c15 : u0.cell? ⟨w.heap.size + 1, 5, none⟩ = some (.bool false) := F0.out.1.2.1.cell 5
 have c25 : u0.cell? ⟨w.heap.size + 1 + 1, 5, none⟩ = some (.bool c.cac) := F0.out.1.2.2.1.cell 5
 go_wp2_with fail
 refine bodyPost_ret (v := akV c (.slice qv lv mv)) (by simp [results, Tryz.results35, go_sem, akV, c10, c11, c12, c13, c14, c15]) rfl ⟨_, rfl, ⟨_, rfl, (F0.out.2.2.block ?far).base (by omega)⟩, ?bel⟩
 case far =>
  intro b hb
  iterate 7 rw [heap_setCell_other _ _ _ _ (by first | (show b ≠ w.heap.size + 1; omega) | (show b ≠ w.heap.size + 1 + 1; omega))]
 case bel =>
  iterate 7 refine Below.setCell ?_ (by first | (show w.heap.size <= w.heap.size + 1; omega) | (show w.heap.size <= w.heap.size + 1 + 1; omega)) _
  exact F0.out.1.2.2.2
theorem l14Any_any (B : Nat) (w : World) (c : Nat) (a0 : Option Addr) (len cap : Nat) (hC : Cur B w c a0 len cap) :
  Calls Tryz.prog 14 #[.pointer (some ⟨c, 0, none⟩)] w fun e w' => AqPost B w c a0 len cap 3 e w' := by
 obtain ⟨i0, hi, hz0, hz1, hz2⟩ := info_parts info9
 have HC : Hid (Cur B w c a0 len cap) := hC
 clear hC
 obtain ⟨W0, hW0⟩ : ∃ V, V = w.alloc (Obj.cells #[.slice none 0 0, .int .i64 0, .int .i64 0, .int .i64 0, .int .i64 0, .bool false] 26) := ⟨_, rfl⟩
 have H0 : Hid ((w.grownBy W0 (some c) /\ Cur B W0 c a0 len cap) /\ Blk W0 w.heap.size 26 #[.slice none 0 0, .int .i64 0, .int .i64 0, .int .i64 0, .int .i64 0, .bool false] /\ c < w.heap.size) := by
  have hb : Below w.heap.size w W0 := by rw [hW0]; exact (Below.refl _ _).alloc (Nat.le_refl _) _
  exact ⟨⟨grownBy_below' hb, HC.out.kept hb⟩, by rw [hW0]; exact Blk.new _ _ _, HC.out.lt⟩
 have HDR : Hid (∀ W W', ((w.grownBy W (some c) /\ Cur B W c a0 len cap) /\ Blk W w.heap.size 26 #[.slice none 0 0, .int .i64 0, .int .i64 0, .int .i64 0, .int .i64 0, .bool false] /\ c < w.heap.size) -> Cur B W' c a0 len cap -> W.grownBy W' (some c) -> ((w.grownBy W' (some c) /\ Cur B W' c a0 len cap) /\ Blk W' w.heap.size 26 #[.slice none 0 0, .int .i64 0, .int .i64 0, .int .i64 0, .int .i64 0, .bool false] /\ c < w.heap.size)) := fun W W' h hc hg => ⟨⟨grownBy_trans h.1.1 hg, hc⟩, h.2.1.grown hg (fun e => by have := Option.some.inj e; have := h.2.2; omega), h.2.2⟩
 have HDB : Hid (∀ W W', ((w.grownBy W (some c) /\ Cur B W c a0 len cap) /\ Blk W w.heap.size 26 #[.slice none 0 0, .int .i64 0, .int .i64 0, .int .i64 0, .int .i64 0, .bool false] /\ c < w.heap.size) -> Below W.heap.size W W' -> ((w.grownBy W' (some c) /\ Cur B W' c a0 len cap) /\ Blk W' w.heap.size 26 #[.slice none 0 0, .int .i64 0, .int .i64 0, .int .i64 0, .int .i64 0, .bool false] /\ c < w.heap.size)) := fun W W' h hb => HDR.out _ _ h (h.1.2.kept hb) (grownBy_below' hb)
 go_enter Tryz.func14, Tryz.ntmps14
 go_upto_region 1 with fail
 rw [<- hW0]
 clear hW0
 go_wp2_with fail
 refine (l01Below_any 12 B W0 c a0 len cap (by decide) H0.out.1.2).mono ?_
 rintro e w1 ⟨K, hK0, hK1, -, rfl, hc, hg⟩
 have S1 : Hid ((w.grownBy w1 (some c) /\ Cur B w1 c a0 len cap) /\ Blk w1 w.heap.size 26 #[.slice none 0 0, .int .i64 0, .int .i64 0, .int .i64 0, .int .i64 0, .bool false] /\ c < w.heap.size) := HDR.out _ _ H0.out hc hg
 clear hK1
 clear hc hg H0
 go_wp2_with fail
 refine (l01Below_any 60 B w1 c a0 len cap (by decide) S1.out.1.2).mono ?_
 rintro e w2 ⟨Y, hY0, hY1, -, rfl, hc, hg⟩
 have S2 : Hid ((w.grownBy w2 (some c) /\ Cur B w2 c a0 len cap) /\ Blk w2 w.heap.size 26 #[.slice none 0 0, .int .i64 0, .int .i64 0, .int .i64 0, .int .i64 0, .bool false] /\ c < w.heap.size) := HDR.out _ _ S1.out hc hg
 have hY2 : Y < 60 := hY1 (by decide)
 clear hY1
 clear hc hg S1
 go_wp2_with fail
 refine (l14Ask_any B w2 c a0 len cap S2.out.1.2).mono ?_
 rintro e w3 ⟨u3, x, rfl, hu3, hbx, hl2, hc, hg⟩
 have S3 : Hid ((w.grownBy w3 (some c) /\ Cur B w3 c a0 len cap) /\ Blk w3 w.heap.size 26 #[.slice none 0 0, .int .i64 0, .int .i64 0, .int .i64 0, .int .i64 0, .bool false] /\ c < w.heap.size) := HDR.out _ _ S2.out hc hg
 have HBX : Hid (BqA x /\ x.tg.length <= 2) := ⟨hbx, hl2⟩
 have EC := askCopy_any x u3 w2.heap.size w3 (by have := hbx.1; omega) hu3
 obtain ⟨pY, qY, huY⟩ := AkAt.shape hu3.at
 subst huY
 unfold akV at EC |-
 clear hc hg S2 hbx hl2 hu3
 go_wp2_with fail
 refine EC.mono ?_
 rintro e w4 ⟨u4, rfl, hu4, hb4⟩
 obtain ⟨pa, pc, huA⟩ := AkAt.shape hu4.at
 obtain ⟨pl, hpl⟩ := zE (x.tg.length)
 rw [hpl] at huA
 subst huA
 unfold akV at hu4 |-
 obtain ⟨V, hV⟩ : ∃ V, V = w4.alloc (Obj.cells #[.slice pa pl pc, .int .i64 x.plan, .int .i64 x.want, .int .i64 x.nonce, .int .i64 x.time, .bool x.cac] 26) := ⟨_, rfl⟩
 obtain ⟨g, hgg⟩ := zE (w4.heap.size)
 have H4 : Hid (AqS B w V c a0 len cap g x (.slice pa pl pc) /\ BqA x /\ x.tg.length <= 2) := by
  have hb : Below w4.heap.size w4 V := by rw [hV]; exact (Below.refl _ _).alloc (Nat.le_refl _) _
  have h4 := HDB.out _ _ S3.out hb4
  have h := HDB.out _ _ h4 hb
  have hB : Blk V g 26 #[.slice pa pl pc, .int .i64 x.plan, .int .i64 x.want, .int .i64 x.nonce, .int .i64 x.time, .bool x.cac] := by rw [hV, <- hgg]; exact Blk.new _ _ _
  obtain ⟨pp, hpp, ho⟩ := hu4
  have hpe : pp = .slice pa pl pc := by unfold akV at hpp; injection hpp with hpp; have := congrArg (·[0]?) hpp; simpa using this.symm
  rw [hpe] at ho
  exact ⟨⟨⟨h.1, h.2.1, hB, h.2.2, by have := h4.2.1.lt; omega⟩, (OwnT.stays ho hb).base (by have := S3.out.2.1.lt; omega)⟩, HBX.out⟩
 have HPL : Hid (x.tg.length = pl) := hpl
 clear S3 hb4 hu4 EC hpl HBX HDR HDB
 go_upto_region 4 with fail
 rw [<- hV]
 try rw [hgg]
 clear hV hgg
 go_upto_block 0 with fail
 go_cut [] from 6 (fun wx => Hid (∃ (x' : Ak) (p' : Value), AqS B w wx c a0 len cap g x' p' /\ BqA x' /\ x'.tg.length <= 3))
 case first =>
  by_cases k0 : K = 0
  ·subst k0
   obtain ⟨V8, hV8⟩ : ∃ W, W = V.alloc (Obj.cells #[] 9) := ⟨_, rfl⟩
   have h8 := H4.out.1.on (show Below V.heap.size V V8 by rw [hV8]; exact (Below.refl _ _).alloc (Nat.le_refl _) _)
   have HN : Hid (AqS B w (V8.setCell ⟨g, 0, none⟩ (.slice (some ⟨V.heap.size, 0, none⟩) 0 0)) c a0 len cap g ({ x with tg := [] } : Ak) (.slice (some ⟨V.heap.size, 0, none⟩) 0 0) /\ BqA ({ x with tg := [] } : Ak)) := by
    refine ⟨AqS.put (x := x) h8.1 ?_ rfl, Nat.zero_le _, fun s hs => by simp at hs, H4.out.2.1.2.2⟩
    rw [hV8]
    exact World.ownsRow_made V (base := w.heap.size + 1) (e := 9) (size := 1) #[] 0 (by have := H4.out.1.1.2.1.lt; omega) (Nat.zero_le _) rfl
   have ec : V8.cell? ⟨g, 0, none⟩ = some (.slice pa pl pc) := h8.1.2.2.1.cell 0
   have ef := fun i => h8.1.2.2.1.free i
   rw [hV8] at ec ef HN
   clear h8
   go_wp2_with fail
   go_meet
   exact ⟨_, _, HN.out.1, HN.out.2, by show 0 <= 3; decide⟩
  by_cases k1 : K = 1
  ·subst k1
   have hr0 : 0 <= Y.tmod 2 := Int.tmod_nonneg 2 hY0
   have hr1 : Y.tmod 2 < 2 := Int.tmod_lt_of_pos Y (by decide)
   have wr2 : IntKind.i64.wrap (400 + Y.tmod 2) = 400 + Y.tmod 2 := by rw [IntKind.wrap_i64]; omega
   obtain ⟨yn, hyn⟩ : ∃ n : Int, 400 + Y.tmod 2 = n := ⟨_, rfl⟩
   rw [hyn] at wr2
   have E3 : Calls Tryz.prog 37 #[.int .i64 yn, .int .u8 97] V.drew fun e w' => ∃ t : ByteArray, e = .returned (.string t) /\ t.size <= 5000 /\ Below V.heap.size V w' := by
    refine (l01Long_int yn 97 V.drew (by omega) (by omega) (by decide) (by decide)).mono ?_
    rintro e w' ⟨t, rfl, ht, hb⟩
    exact ⟨t, rfl, by omega, (Below.refl V.heap.size V).drew.trans hb⟩
   have y2 : V.cell? ⟨g, 0, none⟩ = some (.slice pa pl pc) := H4.out.1.1.2.2.1.cell 0
   clear hr0 hr1
   go_upto_region 8 with fail
   go_region_law (first
    | (refine step_call rfl 37 _ _ rfl #[.int .i64 yn, .int .u8 97] rfl (by kernel_rfl) ?_; refine E3.mono ?_; rintro e w3 ⟨tl, rfl, htl, hb3⟩; have hA3 := H4.out.1.on hb3; have hy3 : w3.cell? ⟨g, 0, none⟩ = some (.slice pa pl pc) := hA3.1.2.2.1.cell 0; have hA4 := hA3.on ((Below.refl w3.heap.size w3).alloc (Nat.le_refl _) (Obj.cells #[.string tl] 9)); have hy4 : (w3.alloc (Obj.cells #[.string tl] 9)).cell? ⟨g, 0, none⟩ = some (.slice pa pl pc) := hA4.1.2.2.1.cell 0; dsimp only)
    | (refine step_append_lies _ rfl _ _ 24 rfl (w.heap.size + 1) 9 i0 (.string ByteArray.empty) 1 16 Tryz.underlying24 hi hz0 hz1 hz2 rfl (by decide) (.slice pa pl pc) x.tg.length (cellsT x.tg) rfl hA4.2 ⟨w3.heap.size, 0, none⟩ 1 1 [.string tl] rfl rfl (new_text w3 tl) (by simp [Value.oneCell']) (by decide) (by unfold maxLen; have := HPL.out; have := H4.out.2.2; omega) (by have := H4.out.2.2; omega) (by have := hA4.1.2.1.lt; omega) _ rfl ?_; intro g9 cap9 w9 ho9 hg9 hor9 hlt9; have hy9 : w9.cell? ⟨g, 0, none⟩ = some (.slice pa pl pc) := (hA4.grown hg9).2.2.1.cell 0; have fz9 := (hA4.grown hg9).2.2.1.free 0))
   all_goals (
    have ho9' : OwnT w9 (w.heap.size + 1) (.slice (some ⟨g9, 0, none⟩) (x.tg.length + 1) cap9) (x.tg ++ [tl]) := by simpa [OwnT, cellsT, cellsT_append] using ho9
    have HN : Hid (AqS B w (w9.setCell ⟨g, 0, none⟩ (.slice (some ⟨g9, 0, none⟩) (x.tg.length + 1) cap9)) c a0 len cap g ({ x with tg := x.tg ++ [tl] } : Ak) (.slice (some ⟨g9, 0, none⟩) (x.tg.length + 1) cap9) /\ BqA ({ x with tg := x.tg ++ [tl] } : Ak) /\ (x.tg ++ [tl]).length <= 3) := by
     have hl := H4.out.2.2
     refine ⟨AqS.put (x := x) (hA4.grown hg9) ho9' rfl, ⟨by show (x.tg ++ [tl]).length <= 4; rw [List.length_append]; show _ + 1 <= 4; omega, fun s hs => ?_, H4.out.2.1.2.2⟩, by rw [List.length_append]; show _ + 1 <= 3; omega⟩
     rcases List.mem_append.1 hs with h | h
     ·exact H4.out.2.1.2.1 s h
     ·rw [List.mem_singleton.1 h]; exact htl
    clear ho9 ho9' hg9 hor9 hlt9 hA3 hA4 hb3 E3 y2 hy3 hy4
    go_wp2_with fail
    go_meet
    exact ⟨_, _, HN.out.1, HN.out.2.1, HN.out.2.2⟩)
  by_cases k2 : K = 2
  ·subst k2
   obtain ⟨V8, hV8⟩ : ∃ W, W = V.alloc (Obj.cells #[.int .i64 (-1), .int .i64 99, .int .i64 100] 3) := ⟨_, rfl⟩
   obtain ⟨z, hz, hzb⟩ : ∃ z : Int, V8.cell? ⟨V.heap.size, (Y % 3).toNat, none⟩ = some (.int .i64 z) /\ -9223372036854775808 <= z /\ z <= 9223372036854775807 := by
    rw [hV8]
    exact pickI V [(-1), 99, 100] (by decide) _ (by show _ < 3; omega)
   have h8 := H4.out.1.on (show Below V.heap.size V V8 by rw [hV8]; exact (Below.refl _ _).alloc (Nat.le_refl _) _)
   have HN : Hid (AqS B w (V8.setCell ⟨g, 1, none⟩ (.int .i64 z)) c a0 len cap g ({ x with plan := z } : Ak) (.slice pa pl pc) /\ BqA ({ x with plan := z } : Ak)) := by
    refine ⟨h8.set 1 _ rfl rfl, H4.out.2.1.1, H4.out.2.1.2.1, fun q hq => ?_⟩
    have hw := H4.out.2.1.2.2
    simp only [List.mem_cons, List.not_mem_nil, or_false] at hq
    rcases hq with rfl | rfl | rfl | rfl
    all_goals first | exact hzb | exact hw _ (by simp)
   have ec : V8.cell? ⟨g, 1, none⟩ = some (.int .i64 x.plan) := h8.1.2.2.1.cell 1
   have ef := fun i => h8.1.2.2.1.free i
   have hr0 : 0 <= Y % 3 := by omega
   have hr1 : Y % 3 < 3 := by omega
   have hL3 : Hid (x.tg.length <= 3) := by have := H4.out.2.2; show _ <= 3; omega
   rw [hV8] at ec ef HN hz
   clear h8 hV8 hzb H4
   go_wp2_with fail
   go_meet
   exact ⟨_, _, HN.out.1, HN.out.2, hL3.out⟩
  by_cases k3 : K = 3
  ·subst k3
   have hr0 : 0 <= Y % 6 := by omega
   have hr1 : Y % 6 < 6 := by omega
   have HN : Hid (AqS B w (V.setCell ⟨g, 2, none⟩ (.int .i64 (Y % 6))) c a0 len cap g ({ x with want := Y % 6 } : Ak) (.slice pa pl pc) /\ BqA ({ x with want := Y % 6 } : Ak)) := by
    refine ⟨H4.out.1.set 2 _ rfl rfl, H4.out.2.1.1, H4.out.2.1.2.1, fun q hq => ?_⟩
    have hw := H4.out.2.1.2.2
    simp only [List.mem_cons, List.not_mem_nil, or_false] at hq
    rcases hq with rfl | rfl | rfl | rfl
    all_goals first | (constructor <;> omega) | exact hw _ (by simp)
   have ec : V.cell? ⟨g, 2, none⟩ = some (.int .i64 x.want) := H4.out.1.1.2.2.1.cell 2
   have ef := fun i => H4.out.1.1.2.2.1.free i
   have hL3 : Hid (x.tg.length <= 3) := by have := H4.out.2.2; show _ <= 3; omega
   clear H4
   go_wp2_with fail
   go_meet
   exact ⟨_, _, HN.out.1, HN.out.2, hL3.out⟩
  by_cases k4 : K = 4
  ·subst k4
   obtain ⟨V8, hV8⟩ : ∃ W, W = V.alloc (Obj.cells #[.int .i64 (-1), .int .i64 1000000000, .int .i64 1000000001] 3) := ⟨_, rfl⟩
   obtain ⟨z, hz, hzb⟩ : ∃ z : Int, V8.cell? ⟨V.heap.size, (Y % 3).toNat, none⟩ = some (.int .i64 z) /\ -9223372036854775808 <= z /\ z <= 9223372036854775807 := by
    rw [hV8]
    exact pickI V [(-1), 1000000000, 1000000001] (by decide) _ (by show _ < 3; omega)
   have h8 := H4.out.1.on (show Below V.heap.size V V8 by rw [hV8]; exact (Below.refl _ _).alloc (Nat.le_refl _) _)
   have HN : Hid (AqS B w (V8.setCell ⟨g, 3, none⟩ (.int .i64 z)) c a0 len cap g ({ x with nonce := z } : Ak) (.slice pa pl pc) /\ BqA ({ x with nonce := z } : Ak)) := by
    refine ⟨h8.set 3 _ rfl rfl, H4.out.2.1.1, H4.out.2.1.2.1, fun q hq => ?_⟩
    have hw := H4.out.2.1.2.2
    simp only [List.mem_cons, List.not_mem_nil, or_false] at hq
    rcases hq with rfl | rfl | rfl | rfl
    all_goals first | exact hzb | exact hw _ (by simp)
   have ec : V8.cell? ⟨g, 3, none⟩ = some (.int .i64 x.nonce) := h8.1.2.2.1.cell 3
   have ef := fun i => h8.1.2.2.1.free i
   have hr0 : 0 <= Y % 3 := by omega
   have hr1 : Y % 3 < 3 := by omega
   have hL3 : Hid (x.tg.length <= 3) := by have := H4.out.2.2; show _ <= 3; omega
   rw [hV8] at ec ef HN hz
   clear h8 hV8 hzb H4
   go_wp2_with fail
   go_meet
   exact ⟨_, _, HN.out.1, HN.out.2, hL3.out⟩
  have hL3 : Hid (x.tg.length <= 3) := by have := H4.out.2.2; show _ <= 3; omega
  have H5 : Hid (AqS B w V c a0 len cap g x (.slice pa pl pc) /\ BqA x) := ⟨H4.out.1, H4.out.2.1⟩
  clear H4
  go_wp2_with fail
  go_meet
  exact ⟨x, _, H5.out.1, H5.out.2, hL3.out⟩
 case rest =>
 clear H4 HPL
 clear x
 obtain ⟨x, p, hM, hBx, hL3⟩ := hcut.out
 rename World => wq
 obtain ⟨pq, cq, hpq⟩ : ∃ ao cap, p = .slice ao x.tg.length cap := by obtain ⟨ao, cap, h, _⟩ := hM.2.at; exact ⟨ao, cap, h⟩
 obtain ⟨lq, hlq⟩ := zE (x.tg.length)
 rw [hlq] at hpq
 subst hpq
 have HB : Hid (AqS B w wq c a0 len cap g x (.slice pq lq cq) /\ BqA x /\ x.tg.length <= 3) := ⟨hM, hBx, hL3⟩
 clear hcut hM hBx hL3 hlq
 have d0 : wq.cell? ⟨g, 0, none⟩ = some (.slice pq lq cq) := HB.out.1.1.2.2.1.cell 0
 have e0 : wq.cell? ⟨w.heap.size, 0, none⟩ = some (.slice none 0 0) := HB.out.1.1.2.1.cell 0
 have d1 : wq.cell? ⟨g, 1, none⟩ = some (.int .i64 x.plan) := HB.out.1.1.2.2.1.cell 1
 have e1 : wq.cell? ⟨w.heap.size, 1, none⟩ = some (.int .i64 0) := HB.out.1.1.2.1.cell 1
 have d2 : wq.cell? ⟨g, 2, none⟩ = some (.int .i64 x.want) := HB.out.1.1.2.2.1.cell 2
 have e2 : wq.cell? ⟨w.heap.size, 2, none⟩ = some (.int .i64 0) := HB.out.1.1.2.1.cell 2
 have d3 : wq.cell? ⟨g, 3, none⟩ = some (.int .i64 x.nonce) := HB.out.1.1.2.2.1.cell 3
 have e3 : wq.cell? ⟨w.heap.size, 3, none⟩ = some (.int .i64 0) := HB.out.1.1.2.1.cell 3
 have d4 : wq.cell? ⟨g, 4, none⟩ = some (.int .i64 x.time) := HB.out.1.1.2.2.1.cell 4
 have e4 : wq.cell? ⟨w.heap.size, 4, none⟩ = some (.int .i64 0) := HB.out.1.1.2.1.cell 4
 have d5 : wq.cell? ⟨g, 5, none⟩ = some (.bool x.cac) := HB.out.1.1.2.2.1.cell 5
 have e5 : wq.cell? ⟨w.heap.size, 5, none⟩ = some (.bool false) := HB.out.1.1.2.1.cell 5
 have ef := fun j => HB.out.1.1.2.1.free j
 go_wp2_with fail
 refine bodyPost_ret (v := .agg #[.slice pq lq cq, .int .i64 x.plan, .int .i64 x.want, .int .i64 x.nonce, .int .i64 x.time, .bool x.cac]) (by simp [results, Tryz.results14, go_sem, e0, e1, e2, e3, e4, e5]; try rfl) rfl ?_
 generalize hV : World.setCell _ { block := w.heap.size, off := 5 } (Value.bool x.cac) = V
 have ho : Out [w.heap.size] wq V := by
  rw [<- hV]
  iterate 6 refine Out.setCell ?_ _ _ (by simp)
  exact Out.refl _ _
 have hb : Below w.heap.size wq V := ho.below (fun b hb => by rw [List.mem_singleton.1 hb]; exact Nat.le_refl _) HB.out.1.1.1.1.size
 refine ⟨_, x, rfl, ⟨_, rfl, ?_⟩, HB.out.2.1, HB.out.2.2, HB.out.1.1.1.2.keptB hb HB.out.1.1.2.2.2.1, grow_below HB.out.1.1.1.1 hb⟩
 exact OwnT.base (ho.row (fun b hb => by have := (World.ownsRow.lt HB.out.1.2 b hb).1; simp; omega) HB.out.1.2) (by omega)
end Go.Proofs.YthbdgdfanpbkeaaGreat
namespace Go.Proofs.YthbdgdfanpbkeaaGreat
open Go.RowKit
set_option linter.unusedVariables false
theorem l02Spoilt_any (s : ByteArray) (B : Nat) (w : World) (c : Nat) (a0 : Option Addr) (len cap : Nat) (hs : s.size <= 100000) (hC : Cur B w c a0 len cap) : Calls Tryz.prog 25 #[.pointer (some ⟨c, 0, none⟩), .string s] w fun e w' =>
  ∃ t : ByteArray, e = .returned (.string t) /\ t.size <= s.size + 5000 /\ Cur B w' c a0 len cap /\ w.grownBy w' (some c) := by
 have HC : Hid (Cur B w c a0 len cap) := hC
 clear hC
 go_enter Tryz.func25, Tryz.ntmps25
 go_wp2_with fail
 refine (l01Below_any 12 B w c a0 len cap (by omega) HC.out).mono ?_
 rintro e w1 ⟨x, hx0, hx1, hx2, rfl, hC1, hg1⟩
 have H1 : Hid (Cur B w1 c a0 len cap /\ w.grownBy w1 (some c)) := ⟨hC1, hg1⟩
 clear hC1 hg1 HC hx1 hx2
 by_cases h0 : x = 0
 ·subst h0
  go_wp2_with fail
  refine (l01Text_any 1 B w1 c a0 len cap H1.out.1).mono ?_
  rintro e w2 ⟨t, rfl, ht, hC2, hg2⟩
  have H2 : Hid (Cur B w2 c a0 len cap /\ w.grownBy w2 (some c)) := ⟨hC2, grownBy_trans H1.out.2 hg2⟩
  clear hC2 hg2 H1
  go_wp2_with fail
  go_ret
  exact ⟨_, rfl, by rw [ByteArray.size_append]; omega, H2.out⟩
 by_cases h1 : x = 1
 ·subst h1
  have hwr : IntKind.i64.wrap ((s.size : Int) + 1) = (s.size : Int) + 1 := by rw [IntKind.wrap_i64]; omega
  go_wp2_with fail
  refine (l01Below_any ((s.size : Int) + 1) B w1 c a0 len cap (by omega) H1.out.1).mono ?_
  rintro e w2 ⟨y, hy0, hy1, hy2, rfl, hC2, hg2⟩
  have H2 : Hid (Cur B w2 c a0 len cap /\ w.grownBy w2 (some c)) := ⟨hC2, grownBy_trans H1.out.2 hg2⟩
  obtain ⟨m, rfl⟩ : ∃ m : Nat, y = (m : Int) := ⟨y.toNat, by omega⟩
  have hm : (m : Int) <= (s.size : Int) := by have := hy1 (by omega); omega
  clear hC2 hg2 H1 hy1 hy2
  go_wp2_with fail
  go_ret
  exact ⟨_, rfl, by rw [ByteArray.size_extract]; omega, H2.out⟩
 by_cases h23 : x = 2 ∨ x = 3
 ·by_cases hz : 0 < s.size
  ·have hzi : (0 : Int) < (s.size : Int) := by omega
   rcases h23 with rfl | rfl
   all_goals (
    go_wp2_with fail
    refine (l01Below_any (s.size : Int) B w1 c a0 len cap (by omega) H1.out.1).mono ?_
    rintro e w2 ⟨y, hy0, hy1, hy2, rfl, hC2, hg2⟩
    have H2 : Hid (Cur B w2 c a0 len cap /\ w.grownBy w2 (some c)) := ⟨hC2, grownBy_trans H1.out.2 hg2⟩
    obtain ⟨m, rfl⟩ : ∃ m : Nat, y = (m : Int) := ⟨y.toNat, by omega⟩
    have hm : (m : Int) < (s.size : Int) := hy1 hzi
    have hm0 : (0 : Int) <= (m : Int) := by omega
    have hm1 : (m : Int) <= (s.size : Int) := by omega
    obtain ⟨q, hq⟩ : ∃ q : Nat, q = m + 1 := ⟨_, rfl⟩
    have hwr : IntKind.i64.wrap ((m : Int) + 1) = (q : Int) := by rw [IntKind.wrap_i64]; omega
    have hq0 : (0 : Int) <= (q : Int) := by omega
    have hq1 : (q : Int) <= (s.size : Int) := by omega
    have hq2 : q <= s.size := by omega
    have hm2 : m <= s.size := by omega
    have hd : Below w2.heap.size w2 w2.drew := (Below.refl _ _).drew
    have HD : Hid (Cur B w2.drew c a0 len cap /\ w.grownBy w2.drew (some c)) := ⟨H2.out.1.kept hd, grownBy_trans H2.out.2 (grownBy_below' hd)⟩
    have HQ : Hid (q = m + 1) := hq
    clear hC2 hg2 H1 hy1 hy2 hd H2 hq
    go_wp2_with fail
    go_region_held3 (fun _ => True) (exact trivial) ((go_at_call 58; refine (l01Text_any 1 B _ c a0 len cap HD.out.1).mono ?_; rintro e w3 ⟨t, rfl, ht, hC3, hg3⟩; have H3 : Hid (Cur B w3 c a0 len cap /\ w.grownBy w3 (some c)) := ⟨hC3, grownBy_trans HD.out.2 hg3⟩; have RA := fun W => run_string_add_sum (P := Tryz.prog) W (s.extract 0 m) t (by rw [ByteArray.size_extract]; omega); have RB := fun W => run_string_add_sum (P := Tryz.prog) W (s.extract 0 m ++ t) (s.extract q s.size) (by simp only [ByteArray.size_append, ByteArray.size_extract]; omega)))
    all_goals (
     go_wp2_with fail
     go_ret
     exact ⟨_, rfl, by have := HQ.out; simp only [ByteArray.size_append, ByteArray.size_extract]; omega, H3.out⟩))
  ·have hzi : ¬ (0 : Int) < (s.size : Int) := by omega
   rcases h23 with rfl | rfl
   all_goals (
    go_wp2_with fail
    go_ret
    exact ⟨_, rfl, by omega, H1.out⟩)
 ·have h2 : ¬ x = 2 := fun h => h23 (.inl h)
  have h3 : ¬ x = 3 := fun h => h23 (.inr h)
  go_wp2_with fail
  go_ret
  exact ⟨_, rfl, by omega, H1.out⟩
end Go.Proofs.YthbdgdfanpbkeaaGreat
namespace Go.Proofs.YthbdgdfanpbkeaaGreat
open Go.RowKit Der
set_option linter.unusedVariables false
set_option linter.unusedSimpArgs false
def AtPost (w : World) (e : Ending) (w' : World) : Prop := ∃ u x, e = .returned u /\ OwnAk w' w.heap.size u x /\ BqA x /\ Below w.heap.size w w'
def RaPost (w : World) (e : Ending) (w' : World) : Prop := ∃ t : ByteArray, e = .returned (.string t) /\ t.size <= 100000 /\ Below w.heap.size w w'
theorem drawAskText_any (B : Nat) (w : World) (a0 : Option Addr) (len cap : Nat) (hl : len <= 1048576) (hB : B <= w.heap.size) (hcode : CodeAt B w a0 len) :
  Calls Tryz.prog 5 #[.slice a0 len cap] w fun e w' => AtPost w e w' := by
 obtain ⟨W0, hW0⟩ : ∃ V, V = w.alloc (Obj.cells #[.slice none 0 0, .int .i64 0, .int .i64 0, .int .i64 0, .int .i64 0, .bool false] 26) := ⟨_, rfl⟩
 have H0 : Hid (Below w.heap.size w W0 /\ Blk W0 w.heap.size 26 #[.slice none 0 0, .int .i64 0, .int .i64 0, .int .i64 0, .int .i64 0, .bool false]) := by rw [hW0]; exact ⟨(Below.refl _ _).alloc (Nat.le_refl _) _, Blk.new _ _ _⟩
 have HN := l01New_any B W0 a0 len cap hl (Nat.le_trans hB H0.out.1.size) (hcode.below (H0.out.1.mono hB))
 clear hl hB hcode
 go_enter Tryz.func5, Tryz.ntmps5
 go_upto_region 1 with fail
 rw [<- hW0]
 clear hW0
 go_wp2_with fail
 refine HN.mono ?_
 rintro e w1 ⟨c, rfl, hC, hbw, hcw⟩
 have H1 : Hid (Cs B w w1 w1 c a0 len cap /\ Blk w1 w.heap.size 26 #[.slice none 0 0, .int .i64 0, .int .i64 0, .int .i64 0, .int .i64 0, .bool false] /\ w.heap.size < c) := ⟨⟨⟨H0.out.1.trans (hbw.mono H0.out.1.size), Nat.le_trans H0.out.1.size hcw⟩, grownBy_refl _ _, hC⟩, H0.out.2.below hbw H0.out.2.lt, Nat.lt_of_lt_of_le H0.out.2.lt hcw⟩
 clear hC hbw hcw HN H0
 go_wp2_with fail
 refine (l14Any_any B w1 c a0 len cap H1.out.1.2.2).mono ?_
 rintro e wx ⟨u2, x, rfl, hu2, hbx, -, hc, hg⟩
 obtain ⟨pX, qX, huX⟩ := AkAt.shape hu2.at
 subst huX
 have HM : Hid (BqA x) := hbx
 have HX : Hid ((Below w.heap.size w wx /\ Blk wx w.heap.size 26 #[.slice none 0 0, .int .i64 0, .int .i64 0, .int .i64 0, .int .i64 0, .bool false]) /\ OwnAk wx w1.heap.size (akV x (.slice pX x.tg.length qX)) x /\ w.heap.size < w1.heap.size) := ⟨⟨(H1.out.1.draw hc hg).all, H1.out.2.1.grown hg (fun e => by have := Option.some.inj e; have := H1.out.2.2; omega)⟩, hu2, H1.out.2.1.lt⟩
 clear hu2 hbx hc hg H1
 unfold akV at HX |-
 have r0 : wx.cell? ⟨w.heap.size, 0, none⟩ = some (.slice none 0 0) := HX.out.1.2.cell 0
 have r1 : wx.cell? ⟨w.heap.size, 1, none⟩ = some (.int .i64 0) := HX.out.1.2.cell 1
 have r2 : wx.cell? ⟨w.heap.size, 2, none⟩ = some (.int .i64 0) := HX.out.1.2.cell 2
 have r3 : wx.cell? ⟨w.heap.size, 3, none⟩ = some (.int .i64 0) := HX.out.1.2.cell 3
 have r4 : wx.cell? ⟨w.heap.size, 4, none⟩ = some (.int .i64 0) := HX.out.1.2.cell 4
 have r5 : wx.cell? ⟨w.heap.size, 5, none⟩ = some (.bool false) := HX.out.1.2.cell 5
 have rf := fun j => HX.out.1.2.free j
 go_wp2_with fail
 refine bodyPost_ret (v := .agg #[.slice pX x.tg.length qX, .int .i64 x.plan, .int .i64 x.want, .int .i64 x.nonce, .int .i64 x.time, .bool x.cac]) (by simp [results, Tryz.results5, go_sem, r0, r1, r2, r3, r4, r5]; try rfl) rfl ?_
 generalize hV : World.setCell _ { block := w.heap.size, off := 5 } (Value.bool x.cac) = V
 have ho : Out [w.heap.size] wx V := by
  rw [<- hV]
  iterate 6 refine Out.setCell ?_ _ _ (by simp)
  exact Out.refl _ _
 refine ⟨_, x, rfl, (OwnAk.out HX.out.2.1 ho (fun b hb hm => ?_)).base (Nat.le_of_lt HX.out.2.2), HM.out, HX.out.1.1.trans (ho.below (fun b hb => by rw [List.mem_singleton.1 hb]; exact Nat.le_refl _) HX.out.1.1.size)⟩
 have h1 := (fpAk_lt HX.out.2.1 b hb).1
 have h2 := List.mem_singleton.1 hm
 have h3 := HX.out.2.2
 omega
theorem drawReadAsk_any (B : Nat) (w : World) (a0 : Option Addr) (len cap : Nat) (hl : len <= 1048576) (hB : B <= w.heap.size) (hcode : CodeAt B w a0 len) :
  Calls Tryz.prog 9 #[.slice a0 len cap] w fun e w' => RaPost w e w' := by
 have HN := l01New_any B w a0 len cap hl hB hcode
 clear hl hB hcode
 go_enter Tryz.func9, Tryz.ntmps9
 go_wp2_with fail
 refine HN.mono ?_
 rintro e w1 ⟨c, rfl, hC, hbw, hcw⟩
 have H1 : Hid (Cs B w w1 w1 c a0 len cap) := ⟨⟨hbw, hcw⟩, grownBy_refl _ _, hC⟩
 clear hC hbw hcw HN
 go_wp2_with fail
 refine (l01Below_any 4 B w1 c a0 len cap (by decide) H1.out.2.2).mono ?_
 rintro e w2 ⟨xk, hk0, hk1, -, rfl, hc, hg⟩
 have H2 : Hid (Cs B w w1 w2 c a0 len cap) := H1.out.draw hc hg
 clear hc hg H1 hk1
 go_wp2_with fail
 refine (l14Any_any B w2 c a0 len cap H2.out.2.2).mono ?_
 rintro e w3 ⟨u2, x, rfl, hu2, hbx, -, hc, hg⟩
 have H3 : Hid (Cs B w w1 w3 c a0 len cap) := H2.out.draw hc hg
 have ET := specAskText_any x u2 w3 (Nat.le_trans hbx.wt (by decide)) hbx.wd hu2.at
 obtain ⟨pX, qX, huX⟩ := AkAt.shape hu2.at
 subst huX
 unfold akV at ET |-
 obtain ⟨T, hT⟩ : ∃ q : ByteArray, (⟨((atxt x).getD []).toArray⟩ : ByteArray) = q := ⟨_, rfl⟩
 obtain ⟨BT, hBT⟩ := zE ((atxt x).isSome)
 have HTS : Hid (T.size <= 4000) := by show _ <= _; rw [<- hT]; exact atxt_len x
 rw [hT, hBT] at ET
 clear hu2 hbx hc hg H2 hT hBT
 go_wp2_with fail
 refine ET.mono ?_
 rintro e w4 ⟨rfl, hb4⟩
 have H4 : Hid (Cs B w w1 w4 c a0 len cap) := H3.out.on hb4
 clear hb4 H3 ET
 by_cases hk : xk = 0
 ·subst hk
  go_wp2_with fail
  refine (l02Spoilt_any T B w4 c a0 len cap (Nat.le_trans HTS.out (by decide)) H4.out.2.2).mono ?_
  rintro e w5 ⟨t, rfl, hts, hc, hg⟩
  have H5 : Hid (Below w.heap.size w w5 /\ t.size <= 100000) := ⟨(H4.out.draw hc hg).all, by have := HTS.out; omega⟩
  clear hc hg hts H4
  go_wp2_with fail
  go_ret
  exact ⟨t, rfl, H5.out.2, H5.out.1⟩
 ·go_wp2_with fail
  go_ret
  exact ⟨T, rfl, Nat.le_trans HTS.out (by decide), H4.out.all⟩
theorem l09Kids_any (t : Int) (s : ByteArray) (a : Option Addr) (l c : Nat) (n : Int) (w : World) : Calls Tryz.prog 27 #[.agg #[.int .i64 t, .string s, .slice a l c], .int .i64 n] w fun e w' => e = .returned (.tuple #[.slice a l c, .bool (decide (t = 48 /\ (l : Int) = n))]) /\ Below w.heap.size w w' := by
 obtain ⟨B, hB⟩ := zE (decide (t = 48 /\ (l : Int) = n))
 rw [hB]
 have HB : Hid (decide (t = 48 /\ (l : Int) = n) = B) := hB
 clear hB
 obtain ⟨W1, hW1⟩ : ∃ V, V = w.alloc (Obj.cells #[.int .i64 t, .string s, .slice a l c] 41) := ⟨_, rfl⟩
 have hB1 : Blk W1 w.heap.size 41 #[.int .i64 t, .string s, .slice a l c] := by rw [hW1]; exact Blk.new _ _ _
 have HB1 : Hid (Below w.heap.size w W1) := by rw [hW1]; exact (Below.refl _ _).alloc (Nat.le_refl _) _
 have c0 : W1.cell? ⟨w.heap.size, 0, none⟩ = some (.int .i64 t) := hB1.cell 0
 have c2 : W1.cell? ⟨w.heap.size, 2, none⟩ = some (.slice a l c) := hB1.cell 2
 clear hB1
 by_cases ht : t = 48
 ·subst ht
  have HB2 : Hid (((l : Int) == n) = B) := by
   have h := HB.out
   rw [<- h]
   show ((l : Int) == n) = decide _
   rw [Bool.eq_iff_iff]
   simp
  go_enter Tryz.func27, Tryz.ntmps27
  go_wp2_with fail
  rw [<- hW1]
  clear hW1
  go_quiet (fail)
  go_wp2_with fail
  go_ret2
  exact ⟨by rw [<- HB2.out]; rfl, ⟨HB1.out.os, HB1.out.tape, HB1.out.output, HB1.out.size, HB1.out.block⟩⟩
 ·have hbq : (t == 48) = false := beq_eq_false_iff_ne.2 ht
  have HB2 : Hid (B = false) := by
   have h := HB.out
   rw [<- h]
   exact decide_eq_false (fun q => ht q.1)
  clear ht
  go_enter Tryz.func27, Tryz.ntmps27
  go_wp2_with fail
  rw [<- hW1]
  clear hW1
  go_quiet (fail)
  go_wp2_with fail
  go_ret2
  exact ⟨by rw [HB2.out]; rfl, ⟨HB1.out.os, HB1.out.tape, HB1.out.output, HB1.out.size, HB1.out.block⟩⟩
theorem textsIn_any (n : Nat) (t : Int) (s : ByteArray) (ks : List (It (n + 1))) (a : Option Addr) (l c : Nat) (w : World) (hk : KcAt w (n + 1) (.slice a l c) ks) (hl : ks.length <= 1000000) (hz : ∀ y ∈ ks, szI (n + 1) y <= 1000000) : Calls Tryz.prog 28 #[.agg #[.int .i64 t, .string s, .slice a l c]] w fun e w' => ∃ u, e = .returned u /\ OwnT w' w.heap.size u (ks.map (fun y => baL (It.text y))) /\ Below w.heap.size w w' := by
 obtain ⟨i0, hi, hz0, hz1, hz2⟩ := info_parts info9
 obtain ⟨ao, cap, hv, _, hcell⟩ := hk
 injection hv with hv1 hv2 hv3
 subst hv1 hv3
 have HX : Hid ((0 < ks.length -> ∃ g o, a = some ⟨g, o, none⟩ /\ g < w.heap.size /\ ∀ j (hj : j < ks.length), ∃ k, w.cell? ⟨g, o + j * 3, none⟩ = some (.int .i64 (It.tag ks[j])) /\ w.cell? ⟨g, o + j * 3 + 1, none⟩ = some (.string ⟨(It.text ks[j]).toArray⟩) /\ w.cell? ⟨g, o + j * 3 + 2, none⟩ = some k /\ KcAt w n k (It.kids ks[j])) /\ l = ks.length /\ (∀ y ∈ ks, szI (n + 1) y <= 1000000)) := ⟨hcell, hv2, hz⟩
 have hlb : l <= 1000000 := by omega
 clear hcell hv2 hl hz
 go_enter Tryz.func28, Tryz.ntmps28
 go_wp2_with fail
 obtain ⟨W3, hW3⟩ : ∃ V, V = (w.alloc (Obj.cells #[.int .i64 t, .string s, .slice a l c] 41)).alloc (Obj.cells #[] 9) := ⟨_, rfl⟩
 rw [<- hW3]
 have e0 : (w.alloc (Obj.cells #[.int .i64 t, .string s, .slice a l c] 41)).heap.size = w.heap.size + 1 := Array.size_push _
 have H3 : Hid (Below w.heap.size w W3 /\ W3.heap.size = w.heap.size + 2 /\ Blk W3 w.heap.size 41 #[.int .i64 t, .string s, .slice a l c] /\ OwnT W3 (w.heap.size + 1) (.slice (some ⟨w.heap.size + 1, 0, none⟩) 0 0) []) := by
  rw [hW3]
  refine ⟨((Below.refl _ _).alloc (Nat.le_refl _) _).alloc (by rw [e0]; omega) _, by rw [size_alloc, e0], (Blk.new w _ _).alloc _, ?_⟩
  have h := World.ownsRow_made (base := w.heap.size + 1) (e := 9) (size := 1) (w.alloc (Obj.cells #[.int .i64 t, .string s, .slice a l c] 41)) #[] 0 (by rw [e0]; exact Nat.le_refl _) (Nat.zero_le _) rfl
  rw [e0] at h
  exact h
 clear hW3 e0
 go_loopw [3, 4] (fun lv iv wr => ∃ k : Nat, k <= l /\ iv = .int .i64 k /\ Hid (OwnT wr (w.heap.size + 1) lv ((ks.take k).map (fun y => baL (It.text y))) /\ Blk wr w.heap.size 41 #[.int .i64 t, .string s, .slice a l c] /\ Below w.heap.size w wr /\ w.heap.size + 1 <= wr.heap.size)) (fun _ iv _ => l - (intOf iv).toNat)
 case atStart => exact ⟨0, Nat.zero_le _, rfl, H3.out.2.2.2, H3.out.2.2.1, H3.out.1, by rw [H3.out.2.1]; omega⟩
 case round =>
  obtain ⟨k, hk, rfl, HK⟩ := hrel
  clear H3
  obtain ⟨la, lc, hlv⟩ : ∃ ao cap, u3 = .slice ao ((ks.take k).map (fun y => baL (It.text y))).length cap := by obtain ⟨ao, cap, h, _⟩ := HK.out.1.at; exact ⟨ao, cap, h⟩
  have hlen : ((ks.take k).map (fun y => baL (It.text y))).length = k := by rw [List.length_map, List.length_take]; have := HX.out.2.1; omega
  rw [hlen] at hlv
  subst hlv
  have HLEN : Hid (((ks.take k).map (fun y => baL (It.text y))).length = k) := hlen
  clear hlen
  have cB : wr.cell? ⟨w.heap.size, 2, none⟩ = some (.slice a l c) := HK.out.2.1.cell 2
  by_cases hlt : k < l
  ·have hlti : (k : Int) < (l : Int) := by omega
   have hk0 : (0 : Int) <= (k : Int) := by omega
   have hj : k < ks.length := by have := HX.out.2.1; omega
   obtain ⟨g1, o1, ha, hg1, hcs⟩ := HX.out.1 (by omega)
   obtain ⟨kk, d0, d1, d2, hkk⟩ := hcs k hj
   have c0 : wr.cell? ⟨g1, o1 + k * 3, none⟩ = some (.int .i64 (It.tag ks[k])) := (HK.out.2.2.1.cell (p := ⟨g1, o1 + k * 3, none⟩) hg1).trans d0
   have c1 : wr.cell? ⟨g1, o1 + k * 3 + 1, none⟩ = some (.string ⟨(It.text ks[k]).toArray⟩) := (HK.out.2.2.1.cell (p := ⟨g1, o1 + k * 3 + 1, none⟩) hg1).trans d1
   have c2 : wr.cell? ⟨g1, o1 + k * 3 + 2, none⟩ = some kk := (HK.out.2.2.1.cell (p := ⟨g1, o1 + k * 3 + 2, none⟩) hg1).trans d2
   obtain ⟨ak, ck, hks⟩ := hkk.shape
   have HN : Hid ((ks.take (k + 1)).map (fun y => baL (It.text y)) = (ks.take k).map (fun y => baL (It.text y)) ++ [(fun y => baL (It.text y)) ks[k]]) := by
    show (ks.take (k + 1)).map (fun y => baL (It.text y)) = _
    rw [<- List.take_append_getElem hj, List.map_append]
    rfl
   obtain ⟨x, hx⟩ : ∃ x : ByteArray, (⟨(It.text ks[k]).toArray⟩ : ByteArray) = x := ⟨_, rfl⟩
   have HXK : Hid (baL (It.text ks[k]) = x) := hx
   rw [hx] at c1
   subst ha
   clear d0 d1 d2 hkk hcs hg1 hx hks c0 c2
   obtain ⟨W4, hW4⟩ : ∃ V, V = wr.alloc (Obj.cells #[.string x] 9) := ⟨_, rfl⟩
   have hb34 : Below wr.heap.size wr W4 := by rw [hW4]; exact (Below.refl _ _).alloc (Nat.le_refl _) _
   have H4 : Hid (OwnT W4 (w.heap.size + 1) (.slice la k lc) ((ks.take k).map fun y => baL (It.text y)) /\ OwnT W4 wr.heap.size (.slice (some ⟨wr.heap.size, 0, none⟩) 1 1) [x] /\ Blk W4 w.heap.size 41 #[.int .i64 t, .string s, .slice (some ⟨g1, o1, none⟩) l c] /\ Below w.heap.size w W4 /\ w.heap.size + 1 <= W4.heap.size) := ⟨HK.out.1.stays hb34, by rw [hW4]; exact rone_text wr x, HK.out.2.1.on hb34, HK.out.2.2.1.trans (hb34.mono HK.out.2.2.1.size), Nat.le_trans HK.out.2.2.2 hb34.size⟩
   clear hb34 HK
   go_wp2_with (at_builtin; rw [<- hW4]; refine wpList_append_texts2 rfl _ _ 24 rfl (w.heap.size + 1) i0 Tryz.underlying24 hi hz0 hz1 hz2 (.slice la k lc) ((ks.take k).map fun y => baL (It.text y)).length (cellsT ((ks.take k).map fun y => baL (It.text y))) rfl H4.out.1 _ [x] wr.heap.size H4.out.2.1 rfl (by have := HLEN.out; simp only [List.length_singleton]; omega) H4.out.2.2.2.2 ?_)
   clear c1 cB
   intro v9 w9 ho9 hg9
   rw [<- hW4] at hg9
   have H9 : Hid (OwnT w9 (w.heap.size + 1) v9 ((ks.take (k + 1)).map fun y => baL (It.text y)) /\ Blk w9 w.heap.size 41 #[.int .i64 t, .string s, .slice (some ⟨g1, o1, none⟩) l c] /\ Below w.heap.size w w9 /\ w.heap.size + 1 <= w9.heap.size) := by
    have hrl := fun b hb => (World.ownsRow.lt H4.out.1 b hb).1
    refine ⟨?_, H4.out.2.2.1.grown hg9 (fun e => by have := hrl _ e.symm; omega), H4.out.2.2.2.1.grown hg9 H4.out.2.2.2.1.size (fun b hb => by have := hrl b hb; omega), Nat.le_trans H4.out.2.2.2.2 hg9.size⟩
    rw [HN.out, HXK.out]
    simpa [OwnT, cellsT_append] using ho9
   clear ho9 hg9 H4 hW4
   go_wp2_with fail
   exact ⟨⟨k + 1, by omega, by go_num, H9⟩, by simp [intOf]; omega⟩
  ·have hlti : ¬ (k : Int) < (l : Int) := by omega
   have HE : Hid (OwnT wr (w.heap.size + 1) (.slice la k lc) (ks.map fun y => baL (It.text y)) /\ Below w.heap.size w wr) := by
    have h := HK.out.1
    rw [List.take_of_length_le (by have := HX.out.2.1; omega)] at h
    exact ⟨h, HK.out.2.2.1⟩
   go_wp2_with fail
   go_ret
   exact ⟨_, rfl, HE.out.1.base (by omega), HE.out.2⟩
end Go.Proofs.YthbdgdfanpbkeaaGreat
