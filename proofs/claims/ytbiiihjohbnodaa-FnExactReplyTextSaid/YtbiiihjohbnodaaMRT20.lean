/-
  Texts of the proof.
-/
import Derived.Deep.Cut
import Derived.Deep.RegionHeld3
import Derived.Test.YtbiiihjohbnodaaMRT19
set_option maxRecDepth 100000
set_option maxHeartbeats 25600000
namespace Go.Proofs.Ytbiiihjohbnodaa
open Go.RowKit
set_option linter.unusedVariables false
set_option linter.unusedSimpArgs false
theorem eqAnswerS_same (l : List Aw) (a b : Value) (w : World) (hl : wtAS l <= 1000000000) (ha : AtS awKd w a l) (hb : AtS awKd w b l) :
  Calls Try.prog 39 #[a, b] w fun e w' => e = .returned (.bool true) /\ Below w.heap.size w w' := by
 obtain ⟨ax, cx, hv⟩ := ha.shape
 obtain ⟨ay, cy, hu⟩ := hb.shape
 obtain ⟨len, hlen⟩ := zE (l.length)
 rw [hlen] at hv hu
 subst hv hu
 have hl20 : len <= 1000000000 := by unfold wtAS at hl; omega
 have HX : Hid (AtS awKd w (.slice ax len cx) l /\ AtS awKd w (.slice ay len cy) l /\ l.length = len /\ wtAS l <= 1000000000) := ⟨ha, hb, hlen, hl⟩
 clear ha hb hlen hl
 go_enter Try.func39, Try.ntmps39
 go_wp2_with fail
 go_loopw [5] (fun iv wr => ∃ k : Nat, k <= len /\ iv = .int .i64 k /\ Hid (Below w.heap.size w wr)) (fun iv _ => len - (intOf iv).toNat)
 case atStart => exact ⟨0, Nat.zero_le _, rfl, Below.refl _ _⟩
 case round =>
  obtain ⟨k, hk, rfl, HB⟩ := hrel
  by_cases hkn : k < len
  ·have hkl : k < l.length := by rw [HX.out.2.2.1]; exact hkn
   obtain ⟨g1, o1, u1, hax, hg1, hP1, hs1, hc1⟩ := HX.out.1.get hkl
   obtain ⟨g2, o2, u2, hay, hg2, hP2, hs2, hc2⟩ := HX.out.2.1.get hkl
   subst hax hay
   obtain ⟨c, hc⟩ := zE (l[k])
   have hBd : Below w.heap.size w wr.drew := HB.out.drew
   have hrl : c.path.length <= 1000000000 /\ c.lst.length <= 1000000000 := by
    have h1 := wtAS_mem (List.getElem_mem hkl)
    rw [hc] at h1
    exact wtAw_lens (Nat.le_trans h1 HX.out.2.2.2)
   have HR := eqAnswer_same c u1 u2 wr.drew hrl (by rw [<- hc]; exact AwAt.below hP1 hBd) (by rw [<- hc]; exact AwAt.below hP2 hBd)
   obtain ⟨p1, q1, e1, r1, hu1⟩ := AwAt.shape hP1
   obtain ⟨p2, q2, e2, r2, hu2⟩ := AwAt.shape hP2
   rw [hc] at hu1 hu2
   subst hu1 hu2
   have hf1 : ∀ (W : World) (i : Nat) (x : Value), Below w.heap.size w W -> (awV c (.slice p1 c.path.length q1) (.slice e1 c.lst.length r1)).cells[i]? = some x -> W.cell? ⟨g1, o1 + k * 4 + i, none⟩ = some x := fun W i x hW hx => (hW.cell (p := ⟨g1, o1 + k * 4 + i, none⟩) hg1).trans (hc1 i x hx)
   have hf2 : ∀ (W : World) (i : Nat) (x : Value), Below w.heap.size w W -> (awV c (.slice p2 c.path.length q2) (.slice e2 c.lst.length r2)).cells[i]? = some x -> W.cell? ⟨g2, o2 + k * 4 + i, none⟩ = some x := fun W i x hW hx => (hW.cell (p := ⟨g2, o2 + k * 4 + i, none⟩) hg2).trans (hc2 i x hx)
   have HS : Hid (∀ W, Below w.heap.size w W -> (W.cell? ⟨g1, o1 + k * 4, none⟩ = some (.int .i64 c.status) /\ W.cell? ⟨g1, o1 + k * 4 + 1, none⟩ = some (.int .i64 c.why) /\ W.cell? ⟨g1, o1 + k * 4 + 2, none⟩ = some (.slice p1 c.path.length q1) /\ W.cell? ⟨g1, o1 + k * 4 + 3, none⟩ = some (.slice e1 c.lst.length r1)) /\ (W.cell? ⟨g2, o2 + k * 4, none⟩ = some (.int .i64 c.status) /\ W.cell? ⟨g2, o2 + k * 4 + 1, none⟩ = some (.int .i64 c.why) /\ W.cell? ⟨g2, o2 + k * 4 + 2, none⟩ = some (.slice p2 c.path.length q2) /\ W.cell? ⟨g2, o2 + k * 4 + 3, none⟩ = some (.slice e2 c.lst.length r2))) := fun W hW =>
    ⟨⟨hf1 W 0 _ hW rfl, hf1 W 1 _ hW rfl, hf1 W 2 _ hW rfl, hf1 W 3 _ hW rfl⟩, hf2 W 0 _ hW rfl, hf2 W 1 _ hW rfl, hf2 W 2 _ hW rfl, hf2 W 3 _ hW rfl⟩
   have hki : (k : Int) < (len : Int) := by omega
   have hk0 : (0 : Int) <= (k : Int) := by omega
   unfold awV at HR
   clear hf1 hf2 hc1 hc2 hP1 hP2 hs1 hs2 hg1 hg2 hc hkl
   go_upto_region 6 with fail
   refine wp_region_held_drew (S := fun W => Below w.heap.size w W) (by kernel_rfl) hBd (fun hHeld => ?_)
   clear hBd
   have HBW : Hid (Below w.heap.size w wr.drew) := hHeld
   refine zT 0 17 ?_ rfl (by rfl) ?_ hHeld ?_
   rotate_left
   ·intro W hSw
    go_simp
    try with_reducible rfl
   try simp only [Act.put, zA, zB, zC]
   refine zT 1 18 ?_ rfl (by rfl) ?_ hHeld ?_
   rotate_left
   ·intro W hSw
    go_simp
    try with_reducible rfl
   try simp only [Act.put, zA, zB, zC]
   refine zT 2 19 ?_ rfl (by rfl) ?_ hHeld ?_
   rotate_left
   ·intro W hSw
    go_simp
    try with_reducible rfl
   try simp only [Act.put, zA, zB, zC]
   refine zT 3 20 ?_ rfl (by rfl) ?_ hHeld ?_
   rotate_left
   ·intro W hSw
    obtain ⟨⟨e0, e1, e2, e3⟩, -⟩ := HS.out W hSw
    go_simp
    try with_reducible rfl
   try simp only [Act.put, zA, zB, zC]
   refine zT 4 21 ?_ rfl (by rfl) ?_ hHeld ?_
   rotate_left
   ·intro W hSw
    go_simp
    try with_reducible rfl
   try simp only [Act.put, zA, zB, zC]
   refine zT 5 22 ?_ rfl (by rfl) ?_ hHeld ?_
   rotate_left
   ·intro W hSw
    go_simp
    try with_reducible rfl
   try simp only [Act.put, zA, zB, zC]
   refine zT 6 23 ?_ rfl (by rfl) ?_ hHeld ?_
   rotate_left
   ·intro W hSw
    go_simp
    try with_reducible rfl
   try simp only [Act.put, zA, zB, zC]
   refine zT 7 24 ?_ rfl (by rfl) ?_ hHeld ?_
   rotate_left
   ·intro W hSw
    obtain ⟨-, e0, e1, e2, e3⟩ := HS.out W hSw
    go_simp
    try with_reducible rfl
   try simp only [Act.put, zA, zB, zC]
   refine wpAnyH_ready (rs := [8]) (by kernel_rfl) (by simp) ?_
   refine AllReadyH.cons (o := ⟨some 25, _, _, _, _, _⟩) rfl (fun K hK => ?_) AllReadyH.nil
   go_simp
   refine HR.mono ?_
   rintro e w3 ⟨rfl, hb3⟩
   have HB3 : Hid (Below w.heap.size w w3) := HBW.out.trans (hb3.mono HBW.out.size)
   clear hb3 HR HBW
   refine hK.out _ _ HB3.out (fun hHeld => ?_)
   clear hK K
   try simp only [Act.put, zA, zB, zC]
   refine zT 9 26 ?_ rfl (by rfl) ?_ hHeld ?_
   rotate_left
   ·intro W hSw
    go_simp
    try with_reducible rfl
   try simp only [Act.put, zA, zB, zC]
   refine wpAnyH_done (by kernel_rfl) ?_ _
   clear HS
   go_wp2_with fail
   go_roundw
   case rel => exact ⟨k + 1, by omega, by go_num, HB3.out⟩
   case measure => simp [intOf]; omega
  ·have hkl : k = len := by omega
   subst hkl
   go_wp2
   go_ret
   exact ⟨rfl, HB.out⟩
theorem toReply_any (c : Rp) (v : Value) (B : Nat) (w : World) (hl : wtAS c.ans <= 1048576) (hB : B <= w.heap.size) (ha : ArgRp B w v c) :
  Calls Try.prog 24 #[v] w fun e w' => ∃ u fp, e = .returned u /\ OwnRp w' w.heap.size u c fp /\ Below w.heap.size w w' := by
 obtain ⟨pa, pc, rfl, h1⟩ := ha
 have HA : Hid (ArgAS B w (.slice pa c.ans.length pc) c.ans /\ wtAS c.ans <= 1048576) := ⟨h1, hl⟩
 clear h1 hl
 unfold rpV
 go_enter Try.func24, Try.ntmps24
 go_upto_region 2 with fail
 obtain ⟨X0, hW3⟩ : ∃ W, W = ((w.alloc (Obj.cells #[.string c.hash, .int .i64 c.nonce, .int .i64 c.time, .int .i64 c.next, .int .i64 c.plan, .int .i64 c.err, .slice pa c.ans.length pc, .string c.sig] 39)).alloc (Obj.cells #[.string ⟨#[]⟩, .int .i64 0, .int .i64 0, .int .i64 0, .int .i64 0, .int .i64 0, .slice none 0 0, .string ⟨#[]⟩] 44)).alloc (Obj.cells #[.string ⟨#[]⟩, .int .i64 0, .int .i64 0, .int .i64 0, .int .i64 0, .int .i64 0, .slice none 0 0, .string ⟨#[]⟩] 44) := ⟨_, rfl⟩
 change Code.wp _ _ _ _ (((w.alloc (Obj.cells #[.string c.hash, .int .i64 c.nonce, .int .i64 c.time, .int .i64 c.next, .int .i64 c.plan, .int .i64 c.err, .slice pa c.ans.length pc, .string c.sig] 39)).alloc (Obj.cells #[.string ⟨#[]⟩, .int .i64 0, .int .i64 0, .int .i64 0, .int .i64 0, .int .i64 0, .slice none 0 0, .string ⟨#[]⟩] 44)).alloc (Obj.cells #[.string ⟨#[]⟩, .int .i64 0, .int .i64 0, .int .i64 0, .int .i64 0, .int .i64 0, .slice none 0 0, .string ⟨#[]⟩] 44))
 rw [<- hW3]
 have e0 : (w.alloc (Obj.cells #[.string c.hash, .int .i64 c.nonce, .int .i64 c.time, .int .i64 c.next, .int .i64 c.plan, .int .i64 c.err, .slice pa c.ans.length pc, .string c.sig] 39)).heap.size = w.heap.size + 1 := Array.size_push _
 have e1 : ((w.alloc (Obj.cells #[.string c.hash, .int .i64 c.nonce, .int .i64 c.time, .int .i64 c.next, .int .i64 c.plan, .int .i64 c.err, .slice pa c.ans.length pc, .string c.sig] 39)).alloc (Obj.cells #[.string ⟨#[]⟩, .int .i64 0, .int .i64 0, .int .i64 0, .int .i64 0, .int .i64 0, .slice none 0 0, .string ⟨#[]⟩] 44)).heap.size = w.heap.size + 1 + 1 := by rw [size_alloc, e0]
 have Y0 : Hid ((Blk X0 w.heap.size 39 #[.string c.hash, .int .i64 c.nonce, .int .i64 c.time, .int .i64 c.next, .int .i64 c.plan, .int .i64 c.err, .slice pa c.ans.length pc, .string c.sig] /\ Blk X0 (w.heap.size + 1) 44 #[.string ⟨#[]⟩, .int .i64 0, .int .i64 0, .int .i64 0, .int .i64 0, .int .i64 0, .slice none 0 0, .string ⟨#[]⟩] /\ Blk X0 (w.heap.size + 1 + 1) 44 #[.string ⟨#[]⟩, .int .i64 0, .int .i64 0, .int .i64 0, .int .i64 0, .int .i64 0, .slice none 0 0, .string ⟨#[]⟩] /\ Below w.heap.size w X0) /\ w.heap.size + 1 + 1 + 1 <= X0.heap.size) := by
  rw [hW3]
  refine ⟨⟨((Blk.new w _ _).alloc _).alloc _, ?_, ?_, (((Below.refl _ _).alloc (Nat.le_refl _) _).alloc (by rw [e0]; omega) _).alloc (by rw [e1]; omega) _⟩, by rw [size_alloc, e1]; omega⟩
  ·have h := (Blk.new (w.alloc (Obj.cells #[.string c.hash, .int .i64 c.nonce, .int .i64 c.time, .int .i64 c.next, .int .i64 c.plan, .int .i64 c.err, .slice pa c.ans.length pc, .string c.sig] 39)) 44 #[.string ⟨#[]⟩, .int .i64 0, .int .i64 0, .int .i64 0, .int .i64 0, .int .i64 0, .slice none 0 0, .string ⟨#[]⟩]).alloc (Obj.cells #[.string ⟨#[]⟩, .int .i64 0, .int .i64 0, .int .i64 0, .int .i64 0, .int .i64 0, .slice none 0 0, .string ⟨#[]⟩] 44)
   rw [e0] at h
   exact h
  ·have h := Blk.new ((w.alloc (Obj.cells #[.string c.hash, .int .i64 c.nonce, .int .i64 c.time, .int .i64 c.next, .int .i64 c.plan, .int .i64 c.err, .slice pa c.ans.length pc, .string c.sig] 39)).alloc (Obj.cells #[.string ⟨#[]⟩, .int .i64 0, .int .i64 0, .int .i64 0, .int .i64 0, .int .i64 0, .slice none 0 0, .string ⟨#[]⟩] 44)) 44 #[.string ⟨#[]⟩, .int .i64 0, .int .i64 0, .int .i64 0, .int .i64 0, .int .i64 0, .slice none 0 0, .string ⟨#[]⟩]
   rw [e1] at h
   exact h
 clear hW3 e0 e1
 have wd1 : w.heap.size ≠ w.heap.size + 1 + 1 := by omega
 have wd2 : w.heap.size + 1 ≠ w.heap.size + 1 + 1 := by omega
 have fr := fun j => Y0.out.1.2.2.1.free j
 have ca0 : X0.cell? ⟨w.heap.size, 0, none⟩ = some (.string c.hash) := Y0.out.1.1.cell 0
 have c20 : X0.cell? ⟨w.heap.size + 1 + 1, 0, none⟩ = some (.string ⟨#[]⟩) := Y0.out.1.2.2.1.cell 0
 have ca1 : X0.cell? ⟨w.heap.size, 1, none⟩ = some (.int .i64 c.nonce) := Y0.out.1.1.cell 1
 have c21 : X0.cell? ⟨w.heap.size + 1 + 1, 1, none⟩ = some (.int .i64 0) := Y0.out.1.2.2.1.cell 1
 go_upto_region 4 with fail
 obtain ⟨X1, hV⟩ : ∃ V, V = ((X0.setCell ⟨w.heap.size + 1 + 1, 0, none⟩ (.string c.hash)).setCell ⟨w.heap.size + 1 + 1, 1, none⟩ (.int .i64 c.nonce)) := ⟨_, rfl⟩
 rw [<- hV]
 have Y1 : Hid ((Blk X1 w.heap.size 39 #[.string c.hash, .int .i64 c.nonce, .int .i64 c.time, .int .i64 c.next, .int .i64 c.plan, .int .i64 c.err, .slice pa c.ans.length pc, .string c.sig] /\ Blk X1 (w.heap.size + 1) 44 #[.string ⟨#[]⟩, .int .i64 0, .int .i64 0, .int .i64 0, .int .i64 0, .int .i64 0, .slice none 0 0, .string ⟨#[]⟩] /\ Blk X1 (w.heap.size + 1 + 1) 44 #[.string c.hash, .int .i64 c.nonce, .int .i64 0, .int .i64 0, .int .i64 0, .int .i64 0, .slice none 0 0, .string ⟨#[]⟩] /\ Below w.heap.size w X1) /\ w.heap.size + 1 + 1 + 1 <= X1.heap.size) := by
  have hbs : Below (w.heap.size + 1 + 1) X0 X1 := by rw [hV]; exact (((Below.refl _ _).setCell (p := ⟨w.heap.size + 1 + 1, 0, none⟩) (Nat.le_refl _) _).setCell (p := ⟨w.heap.size + 1 + 1, 1, none⟩) (Nat.le_refl _) _)
  exact ⟨⟨Y0.out.1.1.below hbs (by omega), Y0.out.1.2.1.below hbs (by omega), by rw [hV]; exact ((Y0.out.1.2.2.1.set 0 _).set 1 _), Y0.out.1.2.2.2.trans (hbs.mono (by omega))⟩, Nat.le_trans Y0.out.2 hbs.size⟩
 clear hV Y0 fr ca0 c20 ca1 c21
 have fr := fun j => Y1.out.1.2.2.1.free j
 have ca2 : X1.cell? ⟨w.heap.size, 2, none⟩ = some (.int .i64 c.time) := Y1.out.1.1.cell 2
 have c22 : X1.cell? ⟨w.heap.size + 1 + 1, 2, none⟩ = some (.int .i64 0) := Y1.out.1.2.2.1.cell 2
 have ca3 : X1.cell? ⟨w.heap.size, 3, none⟩ = some (.int .i64 c.next) := Y1.out.1.1.cell 3
 have c23 : X1.cell? ⟨w.heap.size + 1 + 1, 3, none⟩ = some (.int .i64 0) := Y1.out.1.2.2.1.cell 3
 go_upto_region 6 with fail
 obtain ⟨X2, hV⟩ : ∃ V, V = ((X1.setCell ⟨w.heap.size + 1 + 1, 2, none⟩ (.int .i64 c.time)).setCell ⟨w.heap.size + 1 + 1, 3, none⟩ (.int .i64 c.next)) := ⟨_, rfl⟩
 rw [<- hV]
 have Y2 : Hid ((Blk X2 w.heap.size 39 #[.string c.hash, .int .i64 c.nonce, .int .i64 c.time, .int .i64 c.next, .int .i64 c.plan, .int .i64 c.err, .slice pa c.ans.length pc, .string c.sig] /\ Blk X2 (w.heap.size + 1) 44 #[.string ⟨#[]⟩, .int .i64 0, .int .i64 0, .int .i64 0, .int .i64 0, .int .i64 0, .slice none 0 0, .string ⟨#[]⟩] /\ Blk X2 (w.heap.size + 1 + 1) 44 #[.string c.hash, .int .i64 c.nonce, .int .i64 c.time, .int .i64 c.next, .int .i64 0, .int .i64 0, .slice none 0 0, .string ⟨#[]⟩] /\ Below w.heap.size w X2) /\ w.heap.size + 1 + 1 + 1 <= X2.heap.size) := by
  have hbs : Below (w.heap.size + 1 + 1) X1 X2 := by rw [hV]; exact (((Below.refl _ _).setCell (p := ⟨w.heap.size + 1 + 1, 2, none⟩) (Nat.le_refl _) _).setCell (p := ⟨w.heap.size + 1 + 1, 3, none⟩) (Nat.le_refl _) _)
  exact ⟨⟨Y1.out.1.1.below hbs (by omega), Y1.out.1.2.1.below hbs (by omega), by rw [hV]; exact ((Y1.out.1.2.2.1.set 2 _).set 3 _), Y1.out.1.2.2.2.trans (hbs.mono (by omega))⟩, Nat.le_trans Y1.out.2 hbs.size⟩
 clear hV Y1 fr ca2 c22 ca3 c23
 have fr := fun j => Y2.out.1.2.2.1.free j
 have ca4 : X2.cell? ⟨w.heap.size, 4, none⟩ = some (.int .i64 c.plan) := Y2.out.1.1.cell 4
 have c24 : X2.cell? ⟨w.heap.size + 1 + 1, 4, none⟩ = some (.int .i64 0) := Y2.out.1.2.2.1.cell 4
 have ca5 : X2.cell? ⟨w.heap.size, 5, none⟩ = some (.int .i64 c.err) := Y2.out.1.1.cell 5
 have c25 : X2.cell? ⟨w.heap.size + 1 + 1, 5, none⟩ = some (.int .i64 0) := Y2.out.1.2.2.1.cell 5
 go_upto_region 8 with fail
 obtain ⟨W3, hV⟩ : ∃ V, V = ((X2.setCell ⟨w.heap.size + 1 + 1, 4, none⟩ (.int .i64 c.plan)).setCell ⟨w.heap.size + 1 + 1, 5, none⟩ (.int .i64 c.err)) := ⟨_, rfl⟩
 rw [<- hV]
 have G0 : Hid ((Blk W3 w.heap.size 39 #[.string c.hash, .int .i64 c.nonce, .int .i64 c.time, .int .i64 c.next, .int .i64 c.plan, .int .i64 c.err, .slice pa c.ans.length pc, .string c.sig] /\ Blk W3 (w.heap.size + 1) 44 #[.string ⟨#[]⟩, .int .i64 0, .int .i64 0, .int .i64 0, .int .i64 0, .int .i64 0, .slice none 0 0, .string ⟨#[]⟩] /\ Blk W3 (w.heap.size + 1 + 1) 44 #[.string c.hash, .int .i64 c.nonce, .int .i64 c.time, .int .i64 c.next, .int .i64 c.plan, .int .i64 c.err, .slice none 0 0, .string ⟨#[]⟩] /\ Below w.heap.size w W3) /\ w.heap.size + 1 + 1 + 1 <= W3.heap.size) := by
  have hbs : Below (w.heap.size + 1 + 1) X2 W3 := by rw [hV]; exact (((Below.refl _ _).setCell (p := ⟨w.heap.size + 1 + 1, 4, none⟩) (Nat.le_refl _) _).setCell (p := ⟨w.heap.size + 1 + 1, 5, none⟩) (Nat.le_refl _) _)
  exact ⟨⟨Y2.out.1.1.below hbs (by omega), Y2.out.1.2.1.below hbs (by omega), by rw [hV]; exact ((Y2.out.1.2.2.1.set 4 _).set 5 _), Y2.out.1.2.2.2.trans (hbs.mono (by omega))⟩, Nat.le_trans Y2.out.2 hbs.size⟩
 clear hV Y2 fr ca4 c24 ca5 c25
 have ca : W3.cell? ⟨w.heap.size, 6, none⟩ = some (.slice pa c.ans.length pc) := G0.out.1.1.cell 6
 go_wp2_with fail
 clear ca
 refine (toAnswerS_any (.slice pa c.ans.length pc) c.ans B W3 HA.out.2 (Nat.le_trans hB G0.out.1.2.2.2.size) (HA.out.1.below (G0.out.1.2.2.2.mono hB) (Nat.le_refl _))).mono ?_
 rintro r u1 ⟨p, fp, rfl, op, hb⟩
 have F1 : Hid ((Blk u1 w.heap.size 39 #[.string c.hash, .int .i64 c.nonce, .int .i64 c.time, .int .i64 c.next, .int .i64 c.plan, .int .i64 c.err, .slice pa c.ans.length pc, .string c.sig] /\ Blk u1 (w.heap.size + 1) 44 #[.string ⟨#[]⟩, .int .i64 0, .int .i64 0, .int .i64 0, .int .i64 0, .int .i64 0, .slice none 0 0, .string ⟨#[]⟩] /\ Blk u1 (w.heap.size + 1 + 1) 44 #[.string c.hash, .int .i64 c.nonce, .int .i64 c.time, .int .i64 c.next, .int .i64 c.plan, .int .i64 c.err, .slice none 0 0, .string ⟨#[]⟩] /\ Below w.heap.size w u1) /\ w.heap.size + 1 + 1 + 1 <= u1.heap.size /\ OwnS awKd u1 (w.heap.size + 1 + 1 + 1) p c.ans fp) := by
  have hz := G0.out.2
  exact ⟨⟨G0.out.1.1.below hb (by omega), G0.out.1.2.1.below hb (by omega), G0.out.1.2.2.1.below hb (by omega), G0.out.1.2.2.2.trans (hb.mono G0.out.1.2.2.2.size)⟩, Nat.le_trans hz hb.size, op.base hz⟩
 clear op hb G0
 have fr := fun j => F1.out.1.2.2.1.free j
 obtain ⟨qp, mp, hsp⟩ : ∃ ao cap, p = .slice ao c.ans.length cap := F1.out.2.2.at.shape
 obtain ⟨lp, hlp⟩ := zE (c.ans.length)
 rw [hlp] at hsp
 clear hlp
 subst hsp
 have ca : u1.cell? ⟨w.heap.size, 7, none⟩ = some (.string c.sig) := F1.out.1.1.cell 7
 have c26 : u1.cell? ⟨w.heap.size + 1 + 1, 6, none⟩ = some (.slice none 0 0) := F1.out.1.2.2.1.cell 6
 have c27 : u1.cell? ⟨w.heap.size + 1 + 1, 7, none⟩ = some (.string ⟨#[]⟩) := F1.out.1.2.2.1.cell 7
 go_upto_region 10 with fail
 obtain ⟨V1, hV⟩ : ∃ V, V = (u1.setCell ⟨w.heap.size + 1 + 1, 6, none⟩ (.slice qp lp mp)).setCell ⟨w.heap.size + 1 + 1, 7, none⟩ (.string c.sig) := ⟨_, rfl⟩
 rw [<- hV]
 have G1 : Hid ((Blk V1 w.heap.size 39 #[.string c.hash, .int .i64 c.nonce, .int .i64 c.time, .int .i64 c.next, .int .i64 c.plan, .int .i64 c.err, .slice pa c.ans.length pc, .string c.sig] /\ Blk V1 (w.heap.size + 1) 44 #[.string ⟨#[]⟩, .int .i64 0, .int .i64 0, .int .i64 0, .int .i64 0, .int .i64 0, .slice none 0 0, .string ⟨#[]⟩] /\ Blk V1 (w.heap.size + 1 + 1) 44 #[.string c.hash, .int .i64 c.nonce, .int .i64 c.time, .int .i64 c.next, .int .i64 c.plan, .int .i64 c.err, .slice qp lp mp, .string c.sig] /\ Below w.heap.size w V1) /\ OwnS awKd V1 (w.heap.size + 1 + 1 + 1) (.slice qp lp mp) c.ans fp) := by
  have hbs : Below (w.heap.size + 1 + 1) u1 V1 := by rw [hV]; exact ((Below.refl _ _).setCell (p := ⟨w.heap.size + 1 + 1, 6, none⟩) (Nat.le_refl _) _).setCell (p := ⟨w.heap.size + 1 + 1, 7, none⟩) (Nat.le_refl _) _
  exact ⟨⟨F1.out.1.1.below hbs (by omega), F1.out.1.2.1.below hbs (by omega), by rw [hV]; exact (F1.out.1.2.2.1.set 6 _).set 7 _, F1.out.1.2.2.2.trans (hbs.mono (by omega))⟩, F1.out.2.2.same fun b hb => by rw [hV, heap_setCell_other _ _ _ _ (by have := (F1.out.2.2.lt b hb).1; show b ≠ w.heap.size + 1 + 1; omega), heap_setCell_other _ _ _ _ (by have := (F1.out.2.2.lt b hb).1; show b ≠ w.heap.size + 1 + 1; omega)]⟩
 clear hV F1 fr ca c26 c27
 have f1 := fun j => G1.out.1.2.1.free j
 have c10 : V1.cell? ⟨w.heap.size + 1, 0, none⟩ = some (.string ⟨#[]⟩) := G1.out.1.2.1.cell 0
 have c20 : V1.cell? ⟨w.heap.size + 1 + 1, 0, none⟩ = some (.string c.hash) := G1.out.1.2.2.1.cell 0
 have c11 : V1.cell? ⟨w.heap.size + 1, 1, none⟩ = some (.int .i64 0) := G1.out.1.2.1.cell 1
 have c21 : V1.cell? ⟨w.heap.size + 1 + 1, 1, none⟩ = some (.int .i64 c.nonce) := G1.out.1.2.2.1.cell 1
 have c12 : V1.cell? ⟨w.heap.size + 1, 2, none⟩ = some (.int .i64 0) := G1.out.1.2.1.cell 2
 have c22 : V1.cell? ⟨w.heap.size + 1 + 1, 2, none⟩ = some (.int .i64 c.time) := G1.out.1.2.2.1.cell 2
 have c13 : V1.cell? ⟨w.heap.size + 1, 3, none⟩ = some (.int .i64 0) := G1.out.1.2.1.cell 3
 have c23 : V1.cell? ⟨w.heap.size + 1 + 1, 3, none⟩ = some (.int .i64 c.next) := G1.out.1.2.2.1.cell 3
 have c14 : V1.cell? ⟨w.heap.size + 1, 4, none⟩ = some (.int .i64 0) := G1.out.1.2.1.cell 4
 have c24 : V1.cell? ⟨w.heap.size + 1 + 1, 4, none⟩ = some (.int .i64 c.plan) := G1.out.1.2.2.1.cell 4
 have c15 : V1.cell? ⟨w.heap.size + 1, 5, none⟩ = some (.int .i64 0) := G1.out.1.2.1.cell 5
 have c25 : V1.cell? ⟨w.heap.size + 1 + 1, 5, none⟩ = some (.int .i64 c.err) := G1.out.1.2.2.1.cell 5
 have c16 : V1.cell? ⟨w.heap.size + 1, 6, none⟩ = some (.slice none 0 0) := G1.out.1.2.1.cell 6
 have c26 : V1.cell? ⟨w.heap.size + 1 + 1, 6, none⟩ = some (.slice qp lp mp) := G1.out.1.2.2.1.cell 6
 have c17 : V1.cell? ⟨w.heap.size + 1, 7, none⟩ = some (.string ⟨#[]⟩) := G1.out.1.2.1.cell 7
 have c27 : V1.cell? ⟨w.heap.size + 1 + 1, 7, none⟩ = some (.string c.sig) := G1.out.1.2.2.1.cell 7
 go_wp2_with fail
 refine bodyPost_ret (v := rpV c (.slice qp lp mp)) (by simp [results, Try.results24, go_sem, rpV, c10, c11, c12, c13, c14, c15, c16, c17]) rfl ⟨_, fp, rfl, ⟨_, rfl, (G1.out.2.same ?far).base (by omega)⟩, ?bel⟩
 case far =>
  intro b hb
  have := (G1.out.2.lt b hb).1
  iterate 8 rw [heap_setCell_other _ _ _ _ (by show b ≠ w.heap.size + 1; omega)]
 case bel =>
  iterate 8 refine Below.setCell ?_ (by show w.heap.size <= w.heap.size + 1; omega) _
  exact G1.out.1.2.2.2
theorem szReply_any (c : Rp) (v : Value) (left : Int) (w : World) (hwd : WdRp c) (h0 : 0 <= left) (hl : left <= 1048576) (ha : ArgRp w.heap.size w v c) :
  Calls Try.prog 22 #[v, .int .i64 left] w fun e w' => e = .returned (.int .i64 (szRp c left)) /\ Below w.heap.size w w' := by
 obtain ⟨pa, pc, rfl, h1⟩ := ha
 obtain ⟨_, hwt, hwa, hln⟩ := hwd
 have hs1 := hwt c.hash (by simp)
 have hs2 := hwt c.sig (by simp)
 unfold rpV
 have w1 : IntKind.i64.wrap (left - (c.hash.size : Int)) = left - (c.hash.size : Int) := by rw [IntKind.wrap_i64]; omega
 by_cases g0 : left < (c.hash.size : Int)
 ·have HF : Hid (szRp c left = -1) := by show szRp c left = -1; unfold szRp wtR; rw [if_neg (by omega)]
  have n1 : left - (c.hash.size : Int) < 0 := by omega
  clear h1 hwa hwt hln
  go_enter Try.func22, Try.ntmps22
  go_wp2_with fail
  go_ret
  exact ⟨by rw [HF.out]; rfl, (Below.refl _ _).alloc (Nat.le_refl _) _⟩
 have n1 : ¬ left - (c.hash.size : Int) < 0 := by omega
 obtain ⟨r1, hr1⟩ : ∃ r : Int, left - (c.hash.size : Int) = r := ⟨_, rfl⟩
 rw [hr1] at w1 n1
 obtain ⟨r2, hr2⟩ : ∃ r : Int, r = if (wtAS c.ans : Int) <= r1 then r1 - (wtAS c.ans : Int) else -1 := ⟨_, rfl⟩
 have Z2 : Hid (∀ W, Below w.heap.size w W -> Calls Try.prog 35 #[.slice pa c.ans.length pc, .int .i64 r1] W fun e w' => e = .returned (.int .i64 r2) /\ Below W.heap.size W w') := fun W hb => by rw [hr2]; exact szAnswerS_any (.slice pa c.ans.length pc) c.ans r1 W hln hwa (by omega) (by omega) ((h1.below hb hb.size))
 by_cases g1 : r2 < 0
 ·have HF : Hid (szRp c left = -1) := by show szRp c left = -1; unfold szRp wtR; rw [if_neg (by split at hr2 <;> omega)]
  have e2 : r2 = -1 := by split at hr2 <;> omega
  clear hr2 h1 hwa hwt hln g1
  subst e2
  go_enter Try.func22, Try.ntmps22
  go_wp2_with fail
  obtain ⟨V, hV⟩ : ∃ V, V = w.alloc (Obj.cells #[.string c.hash, .int .i64 c.nonce, .int .i64 c.time, .int .i64 c.next, .int .i64 c.plan, .int .i64 c.err, .slice pa c.ans.length pc, .string c.sig] 39) := ⟨_, rfl⟩
  rw [<- hV]
  have G : Hid (Below w.heap.size w V /\ Blk V w.heap.size 39 #[.string c.hash, .int .i64 c.nonce, .int .i64 c.time, .int .i64 c.next, .int .i64 c.plan, .int .i64 c.err, .slice pa c.ans.length pc, .string c.sig]) := by rw [hV]; exact ⟨(Below.refl _ _).alloc (Nat.le_refl _) _, Blk.new w _ _⟩
  clear hV
  refine (Z2.out V G.out.1).mono ?_
  rintro e V2 ⟨rfl, hb⟩
  have G2 : Hid (Below w.heap.size w V2 /\ Blk V2 w.heap.size 39 #[.string c.hash, .int .i64 c.nonce, .int .i64 c.time, .int .i64 c.next, .int .i64 c.plan, .int .i64 c.err, .slice pa c.ans.length pc, .string c.sig]) := ⟨G.out.1.trans (hb.mono G.out.1.size), G.out.2.below hb G.out.2.lt⟩
  clear hb G
  have c7 : V2.cell? ⟨w.heap.size, 7, none⟩ = some (.string c.sig) := G2.out.2.cell 7
  go_wp2_with fail
  go_ret
  exact ⟨by rw [HF.out]; rfl, G2.out.1⟩
 have e2 : r2 = r1 - (wtAS c.ans : Int) /\ (wtAS c.ans : Int) <= r1 := by split at hr2 <;> omega
 have w3 : IntKind.i64.wrap (r2 - (c.sig.size : Int)) = r2 - (c.sig.size : Int) := by rw [IntKind.wrap_i64]; omega
 by_cases g2 : r2 < (c.sig.size : Int)
 ·have HF : Hid (szRp c left = -1) := by show szRp c left = -1; unfold szRp wtR; rw [if_neg (by omega)]
  have n3 : r2 - (c.sig.size : Int) < 0 := by omega
  clear hr2 h1 hwa hwt hln e2
  go_enter Try.func22, Try.ntmps22
  go_wp2_with fail
  obtain ⟨V, hV⟩ : ∃ V, V = w.alloc (Obj.cells #[.string c.hash, .int .i64 c.nonce, .int .i64 c.time, .int .i64 c.next, .int .i64 c.plan, .int .i64 c.err, .slice pa c.ans.length pc, .string c.sig] 39) := ⟨_, rfl⟩
  rw [<- hV]
  have G : Hid (Below w.heap.size w V /\ Blk V w.heap.size 39 #[.string c.hash, .int .i64 c.nonce, .int .i64 c.time, .int .i64 c.next, .int .i64 c.plan, .int .i64 c.err, .slice pa c.ans.length pc, .string c.sig]) := by rw [hV]; exact ⟨(Below.refl _ _).alloc (Nat.le_refl _) _, Blk.new w _ _⟩
  clear hV
  refine (Z2.out V G.out.1).mono ?_
  rintro e V2 ⟨rfl, hb⟩
  have G2 : Hid (Below w.heap.size w V2 /\ Blk V2 w.heap.size 39 #[.string c.hash, .int .i64 c.nonce, .int .i64 c.time, .int .i64 c.next, .int .i64 c.plan, .int .i64 c.err, .slice pa c.ans.length pc, .string c.sig]) := ⟨G.out.1.trans (hb.mono G.out.1.size), G.out.2.below hb G.out.2.lt⟩
  clear hb G
  have c7 : V2.cell? ⟨w.heap.size, 7, none⟩ = some (.string c.sig) := G2.out.2.cell 7
  go_wp2_with fail
  go_ret
  exact ⟨by rw [HF.out]; rfl, G2.out.1⟩
 ·have HF : Hid (szRp c left = r2 - (c.sig.size : Int)) := by show szRp c left = _; unfold szRp wtR; rw [if_pos (by omega)]; omega
  have n3 : ¬ r2 - (c.sig.size : Int) < 0 := by omega
  clear hr2 h1 hwa hwt hln e2
  go_enter Try.func22, Try.ntmps22
  go_wp2_with fail
  obtain ⟨V, hV⟩ : ∃ V, V = w.alloc (Obj.cells #[.string c.hash, .int .i64 c.nonce, .int .i64 c.time, .int .i64 c.next, .int .i64 c.plan, .int .i64 c.err, .slice pa c.ans.length pc, .string c.sig] 39) := ⟨_, rfl⟩
  rw [<- hV]
  have G : Hid (Below w.heap.size w V /\ Blk V w.heap.size 39 #[.string c.hash, .int .i64 c.nonce, .int .i64 c.time, .int .i64 c.next, .int .i64 c.plan, .int .i64 c.err, .slice pa c.ans.length pc, .string c.sig]) := by rw [hV]; exact ⟨(Below.refl _ _).alloc (Nat.le_refl _) _, Blk.new w _ _⟩
  clear hV
  refine (Z2.out V G.out.1).mono ?_
  rintro e V2 ⟨rfl, hb⟩
  have G2 : Hid (Below w.heap.size w V2 /\ Blk V2 w.heap.size 39 #[.string c.hash, .int .i64 c.nonce, .int .i64 c.time, .int .i64 c.next, .int .i64 c.plan, .int .i64 c.err, .slice pa c.ans.length pc, .string c.sig]) := ⟨G.out.1.trans (hb.mono G.out.1.size), G.out.2.below hb G.out.2.lt⟩
  clear hb G
  have c7 : V2.cell? ⟨w.heap.size, 7, none⟩ = some (.string c.sig) := G2.out.2.cell 7
  go_wp2_with fail
  go_ret
  exact ⟨by rw [HF.out]; rfl, G2.out.1⟩
theorem eqReply_same (c : Rp) (a b : Value) (w : World) (hl : wtAS c.ans <= 1000000000) (ha : RpAt w a c) (hb : RpAt w b c) :
  Calls Try.prog 26 #[a, b] w fun e w' => e = .returned (.bool true) /\ Below w.heap.size w w' := by
 obtain ⟨pv, rfl, h1⟩ := ha
 obtain ⟨pu, rfl, k1⟩ := hb
 have HQ : Hid (∀ W, Below w.heap.size w W -> Calls Try.prog 39 #[pv, pu] W (fun e w' => e = .returned (.bool true) /\ Below W.heap.size W w')) := fun W hb => eqAnswerS_same c.ans pv pu W hl (h1.below hb) (k1.below hb)
 obtain ⟨lp, hlp⟩ := zE (c.ans.length)
 obtain ⟨pa, pc, hpa⟩ := h1.shape
 obtain ⟨pb, qc, hpb⟩ := k1.shape
 rw [hlp] at hpa hpb
 subst hpa hpb
 clear hlp hl h1 k1
 unfold rpV
 go_enter Try.func26, Try.ntmps26
 go_upto_region 1 with fail
 obtain ⟨V1, hV⟩ : ∃ V, V = (w.alloc (Obj.cells #[.string c.hash, .int .i64 c.nonce, .int .i64 c.time, .int .i64 c.next, .int .i64 c.plan, .int .i64 c.err, .slice pa lp pc, .string c.sig] 44)).alloc (Obj.cells #[.string c.hash, .int .i64 c.nonce, .int .i64 c.time, .int .i64 c.next, .int .i64 c.plan, .int .i64 c.err, .slice pb lp qc, .string c.sig] 44) := ⟨_, rfl⟩
 rw [<- hV]
 have G1 : Hid (Blk V1 w.heap.size 44 #[.string c.hash, .int .i64 c.nonce, .int .i64 c.time, .int .i64 c.next, .int .i64 c.plan, .int .i64 c.err, .slice pa lp pc, .string c.sig] /\ Blk V1 (w.heap.size + 1) 44 #[.string c.hash, .int .i64 c.nonce, .int .i64 c.time, .int .i64 c.next, .int .i64 c.plan, .int .i64 c.err, .slice pb lp qc, .string c.sig] /\ Below w.heap.size w V1 /\ w.heap.size + 1 < V1.heap.size) := by
  have e0 : (w.alloc (Obj.cells #[.string c.hash, .int .i64 c.nonce, .int .i64 c.time, .int .i64 c.next, .int .i64 c.plan, .int .i64 c.err, .slice pa lp pc, .string c.sig] 44)).heap.size = w.heap.size + 1 := Array.size_push _
  have h := Blk.new (w.alloc (Obj.cells #[.string c.hash, .int .i64 c.nonce, .int .i64 c.time, .int .i64 c.next, .int .i64 c.plan, .int .i64 c.err, .slice pa lp pc, .string c.sig] 44)) 44 #[.string c.hash, .int .i64 c.nonce, .int .i64 c.time, .int .i64 c.next, .int .i64 c.plan, .int .i64 c.err, .slice pb lp qc, .string c.sig]
  rw [e0] at h
  rw [hV]
  exact ⟨(Blk.new w _ _).alloc _, h, ((Below.refl _ _).alloc (Nat.le_refl _) _).alloc (by rw [e0]; omega) _, by rw [size_alloc, e0]; omega⟩
 clear hV
 have a0 : V1.cell? ⟨w.heap.size, 0, none⟩ = some (.string c.hash) := G1.out.1.cell 0
 have b0 : V1.cell? ⟨w.heap.size + 1, 0, none⟩ = some (.string c.hash) := G1.out.2.1.cell 0
 have a1 : V1.cell? ⟨w.heap.size, 1, none⟩ = some (.int .i64 c.nonce) := G1.out.1.cell 1
 have b1 : V1.cell? ⟨w.heap.size + 1, 1, none⟩ = some (.int .i64 c.nonce) := G1.out.2.1.cell 1
 have a2 : V1.cell? ⟨w.heap.size, 2, none⟩ = some (.int .i64 c.time) := G1.out.1.cell 2
 have b2 : V1.cell? ⟨w.heap.size + 1, 2, none⟩ = some (.int .i64 c.time) := G1.out.2.1.cell 2
 have a3 : V1.cell? ⟨w.heap.size, 3, none⟩ = some (.int .i64 c.next) := G1.out.1.cell 3
 have b3 : V1.cell? ⟨w.heap.size + 1, 3, none⟩ = some (.int .i64 c.next) := G1.out.2.1.cell 3
 have a4 : V1.cell? ⟨w.heap.size, 4, none⟩ = some (.int .i64 c.plan) := G1.out.1.cell 4
 have b4 : V1.cell? ⟨w.heap.size + 1, 4, none⟩ = some (.int .i64 c.plan) := G1.out.2.1.cell 4
 have a5 : V1.cell? ⟨w.heap.size, 5, none⟩ = some (.int .i64 c.err) := G1.out.1.cell 5
 have b5 : V1.cell? ⟨w.heap.size + 1, 5, none⟩ = some (.int .i64 c.err) := G1.out.2.1.cell 5
 have a6 : V1.cell? ⟨w.heap.size, 6, none⟩ = some (.slice pa lp pc) := G1.out.1.cell 6
 have b6 : V1.cell? ⟨w.heap.size + 1, 6, none⟩ = some (.slice pb lp qc) := G1.out.2.1.cell 6
 go_wp2_with fail
 clear a0 b0 a1 b1 a2 b2 a3 b3 a4 b4 a5 b5 a6 b6
 refine (HQ.out V1 G1.out.2.2.1).mono ?_
 rintro e V2 ⟨rfl, hb⟩
 have G2 : Hid (Blk V2 w.heap.size 44 #[.string c.hash, .int .i64 c.nonce, .int .i64 c.time, .int .i64 c.next, .int .i64 c.plan, .int .i64 c.err, .slice pa lp pc, .string c.sig] /\ Blk V2 (w.heap.size + 1) 44 #[.string c.hash, .int .i64 c.nonce, .int .i64 c.time, .int .i64 c.next, .int .i64 c.plan, .int .i64 c.err, .slice pb lp qc, .string c.sig] /\ Below w.heap.size w V2 /\ w.heap.size + 1 < V2.heap.size) := ⟨G1.out.1.below hb (by have := G1.out.2.2.2; omega), G1.out.2.1.below hb G1.out.2.2.2, G1.out.2.2.1.trans (hb.mono G1.out.2.2.1.size), Nat.lt_of_lt_of_le G1.out.2.2.2 hb.size⟩
 clear hb G1
 have ca : V2.cell? ⟨w.heap.size, 7, none⟩ = some (.string c.sig) := G2.out.1.cell 7
 have cb : V2.cell? ⟨w.heap.size + 1, 7, none⟩ = some (.string c.sig) := G2.out.2.1.cell 7
 go_wp2_with fail
 go_ret
 exact ⟨rfl, G2.out.2.2.1⟩
end Go.Proofs.Ytbiiihjohbnodaa
namespace Go.Proofs.Ytbiiihjohbnodaa
open Go.RowKit
set_option linter.unusedVariables false
theorem walkRT (RB : Rp -> ByteArray) (RO : Rp -> Bool) (SP0 : ∀ (c : Rp) (v : Value) (w : World), wtR c <= 1048576 -> WdRp c -> RpAt w v c -> Calls Try.prog 29 #[v] w fun e w' => e = .returned (.tuple #[.string (RB c), .bool (RO c)]) /\ Below w.heap.size w w') (IM0 : ∀ (c : Rp) (v : Value) (w : World), wtR c <= 1048576 -> WdRp c -> RpAt w v c -> Calls Try.prog 30 #[v] w fun e w' => e = .returned (.tuple #[.string (RB c), .bool (RO c)]) /\ Below w.heap.size w w') (a : Array Value) (w : World) (h : ∃ c, ArgRp w.heap.size w (.agg a) c /\ WdRp c) : Calls Try.prog 8 #[.agg a] w fun e w' => e = .returned (.bool true) /\ Below w.heap.size w w' := by
 obtain ⟨c, hx, hw⟩ := h
 obtain ⟨pa, pc, hv, -⟩ := id hx
 injection hv with hv
 subst hv
 obtain ⟨W1, hW1⟩ : ∃ W, W = w.alloc (Obj.cells #[.string c.hash, .int .i64 c.nonce, .int .i64 c.time, .int .i64 c.next, .int .i64 c.plan, .int .i64 c.err, .slice pa c.ans.length pc, .string c.sig] 39) := ⟨_, rfl⟩
 have hB1 : Below w.heap.size w W1 /\ Blk W1 w.heap.size 39 #[.string c.hash, .int .i64 c.nonce, .int .i64 c.time, .int .i64 c.next, .int .i64 c.plan, .int .i64 c.err, .slice pa c.ans.length pc, .string c.sig] := by rw [hW1]; exact ⟨(Below.refl _ _).alloc (Nat.le_refl _) _, Blk.new w _ _⟩
 have HX : Hid (ArgRp w.heap.size w (.agg #[.string c.hash, .int .i64 c.nonce, .int .i64 c.time, .int .i64 c.next, .int .i64 c.plan, .int .i64 c.err, .slice pa c.ans.length pc, .string c.sig]) c) := hx
 have HWd : Hid (WdRp c) := hw
 have E := szReply_any c _ 1048576 W1 hw (by decide) (by decide) ((hx.below hB1.1).mono hB1.1.size)
 have HA : Hid (Below w.heap.size w W1 /\ Blk W1 w.heap.size 39 #[.string c.hash, .int .i64 c.nonce, .int .i64 c.time, .int .i64 c.next, .int .i64 c.plan, .int .i64 c.err, .slice pa c.ans.length pc, .string c.sig]) := hB1
 clear hx hw hB1
 by_cases hz : wtR c <= 1048576
 rotate_left
 ·rw [szRp_no hz] at E
  clear hz
  go_enter Try.func8, Try.ntmps8
  go_wp2_with fail
  rw [<- hW1]
  clear hW1
  refine E.mono ?_
  rintro e w2 ⟨rfl, hb2⟩
  have HA2 : Hid (Below w.heap.size w w2) := HA.out.1.trans (hb2.mono HA.out.1.size)
  clear E HA hb2
  go_wp2_with fail
  go_ret
  exact ⟨rfl, HA2.out⟩
 ·rw [szRp_yes hz] at E
  have HZ : Hid (wtR c <= 1048576) := hz
  obtain ⟨z, hze⟩ : ∃ z : Int, z = 1048576 - (wtR c : Int) := ⟨_, rfl⟩
  have hz0 : ¬ z < 0 := by omega
  rw [<- hze] at E
  clear hze hz
  go_enter Try.func8, Try.ntmps8
  go_wp2_with fail
  rw [<- hW1]
  clear hW1
  refine E.mono ?_
  rintro e w2 ⟨rfl, hb2⟩
  have HA2 : Hid (Below w.heap.size w w2 /\ Blk w2 w.heap.size 39 #[.string c.hash, .int .i64 c.nonce, .int .i64 c.time, .int .i64 c.next, .int .i64 c.plan, .int .i64 c.err, .slice pa c.ans.length pc, .string c.sig]) := ⟨HA.out.1.trans (hb2.mono HA.out.1.size), HA.out.2.below hb2 HA.out.2.lt⟩
  have E2 := toReply_any c _ w.heap.size w2 (wtR_ans HZ.out) HA2.out.1.size (HX.out.below HA2.out.1)
  clear E HA hb2
  have c0 : w2.cell? ⟨w.heap.size, 0, none⟩ = some (.string c.hash) := HA2.out.2.cell 0
  have c1 : w2.cell? ⟨w.heap.size, 1, none⟩ = some (.int .i64 c.nonce) := HA2.out.2.cell 1
  have c2 : w2.cell? ⟨w.heap.size, 2, none⟩ = some (.int .i64 c.time) := HA2.out.2.cell 2
  have c3 : w2.cell? ⟨w.heap.size, 3, none⟩ = some (.int .i64 c.next) := HA2.out.2.cell 3
  have c4 : w2.cell? ⟨w.heap.size, 4, none⟩ = some (.int .i64 c.plan) := HA2.out.2.cell 4
  have c5 : w2.cell? ⟨w.heap.size, 5, none⟩ = some (.int .i64 c.err) := HA2.out.2.cell 5
  have c6 : w2.cell? ⟨w.heap.size, 6, none⟩ = some (.slice pa c.ans.length pc) := HA2.out.2.cell 6
  have c7 : w2.cell? ⟨w.heap.size, 7, none⟩ = some (.string c.sig) := HA2.out.2.cell 7
  go_wp2_with fail
  clear c0 c1 c2 c3 c4 c5 c6 c7
  refine E2.mono ?_
  rintro e w3 ⟨u3, fp_u3, rfl, ho3, hb3⟩
  have HA3 : Hid (Below w.heap.size w w3 /\ Blk w3 w.heap.size 39 #[.string c.hash, .int .i64 c.nonce, .int .i64 c.time, .int .i64 c.next, .int .i64 c.plan, .int .i64 c.err, .slice pa c.ans.length pc, .string c.sig]) := ⟨HA2.out.1.trans (hb3.mono HA2.out.1.size), HA2.out.2.below hb3 HA2.out.2.lt⟩
  have E3 := SP0 c u3 w3 HZ.out HWd.out ho3.at
  obtain ⟨P0, hP0⟩ := zE (RB c)
  obtain ⟨P1, hP1⟩ := zE (RO c)
  have HP : Hid (RB c = P0 /\ RO c = P1) := ⟨hP0, hP1⟩
  rw [hP0, hP1] at E3
  clear HA2 E2 ho3 hb3 hP0 hP1
  go_wp2_with fail
  refine E3.mono ?_
  rintro e w4 ⟨rfl, hb4⟩
  have HA4 : Hid (Below w.heap.size w w4 /\ Blk w4 w.heap.size 39 #[.string c.hash, .int .i64 c.nonce, .int .i64 c.time, .int .i64 c.next, .int .i64 c.plan, .int .i64 c.err, .slice pa c.ans.length pc, .string c.sig]) := ⟨HA3.out.1.trans (hb4.mono HA3.out.1.size), HA3.out.2.below hb4 HA3.out.2.lt⟩
  have E4 := toReply_any c _ w.heap.size w4 (wtR_ans HZ.out) HA4.out.1.size (HX.out.below HA4.out.1)
  clear HA3 E3 hb4
  have c0 : w4.cell? ⟨w.heap.size, 0, none⟩ = some (.string c.hash) := HA4.out.2.cell 0
  have c1 : w4.cell? ⟨w.heap.size, 1, none⟩ = some (.int .i64 c.nonce) := HA4.out.2.cell 1
  have c2 : w4.cell? ⟨w.heap.size, 2, none⟩ = some (.int .i64 c.time) := HA4.out.2.cell 2
  have c3 : w4.cell? ⟨w.heap.size, 3, none⟩ = some (.int .i64 c.next) := HA4.out.2.cell 3
  have c4 : w4.cell? ⟨w.heap.size, 4, none⟩ = some (.int .i64 c.plan) := HA4.out.2.cell 4
  have c5 : w4.cell? ⟨w.heap.size, 5, none⟩ = some (.int .i64 c.err) := HA4.out.2.cell 5
  have c6 : w4.cell? ⟨w.heap.size, 6, none⟩ = some (.slice pa c.ans.length pc) := HA4.out.2.cell 6
  have c7 : w4.cell? ⟨w.heap.size, 7, none⟩ = some (.string c.sig) := HA4.out.2.cell 7
  go_wp2_with fail
  clear c0 c1 c2 c3 c4 c5 c6 c7
  refine E4.mono ?_
  rintro e w5 ⟨u5, fp_u5, rfl, ho5, hb5⟩
  have HA5 : Hid (Below w.heap.size w w5 /\ Blk w5 w.heap.size 39 #[.string c.hash, .int .i64 c.nonce, .int .i64 c.time, .int .i64 c.next, .int .i64 c.plan, .int .i64 c.err, .slice pa c.ans.length pc, .string c.sig]) := ⟨HA4.out.1.trans (hb5.mono HA4.out.1.size), HA4.out.2.below hb5 HA4.out.2.lt⟩
  obtain ⟨p5, q5, hu5⟩ := RpAt.shape ho5.at
  have HO5 : Hid (RpAt w5 u5 c) := ho5.at
  clear HA4 E4 ho5 hb5
  subst hu5
  unfold rpV at HO5 |-
  go_wp2_with fail
  obtain ⟨W6, hW6⟩ : ∃ W, W = w5.alloc (Obj.cells #[.string c.hash, .int .i64 c.nonce, .int .i64 c.time, .int .i64 c.next, .int .i64 c.plan, .int .i64 c.err, .slice p5 c.ans.length q5, .string c.sig] 44) := ⟨_, rfl⟩
  rw [<- hW6]
  have hb6 : Below w5.heap.size w5 W6 /\ Blk W6 w5.heap.size 44 #[.string c.hash, .int .i64 c.nonce, .int .i64 c.time, .int .i64 c.next, .int .i64 c.plan, .int .i64 c.err, .slice p5 c.ans.length q5, .string c.sig] := by rw [hW6]; exact ⟨(Below.refl _ _).alloc (Nat.le_refl _) _, Blk.new w5 _ _⟩
  have HK6 : Hid (KRp w W6 w.heap.size w5.heap.size 39 44 #[.string c.hash, .int .i64 c.nonce, .int .i64 c.time, .int .i64 c.next, .int .i64 c.plan, .int .i64 c.err, .slice pa c.ans.length pc, .string c.sig] #[.string c.hash, .int .i64 c.nonce, .int .i64 c.time, .int .i64 c.next, .int .i64 c.plan, .int .i64 c.err, .slice p5 c.ans.length q5, .string c.sig] c) := ⟨HA5.out.1.trans (hb6.1.mono HA5.out.1.size), HA5.out.2.below hb6.1 HA5.out.2.lt, hb6.2, HO5.out.below hb6.1⟩
  have E6 := IM0 c _ W6 HZ.out HWd.out HK6.out.2.2.2
  rw [HP.out.1, HP.out.2] at E6
  clear hb6 hW6 HA5 HO5
  refine E6.mono ?_
  rintro e w7 ⟨rfl, hb7⟩
  have HK7 : Hid (KRp w w7 w.heap.size w5.heap.size 39 44 #[.string c.hash, .int .i64 c.nonce, .int .i64 c.time, .int .i64 c.next, .int .i64 c.plan, .int .i64 c.err, .slice pa c.ans.length pc, .string c.sig] #[.string c.hash, .int .i64 c.nonce, .int .i64 c.time, .int .i64 c.next, .int .i64 c.plan, .int .i64 c.err, .slice p5 c.ans.length q5, .string c.sig] c) := HK6.out.below hb7
  clear HK6 E6 hb7
  go_wp2_with fail
  refine wp_region_held_drew (S := fun W => KRp w W w.heap.size w5.heap.size 39 44 #[.string c.hash, .int .i64 c.nonce, .int .i64 c.time, .int .i64 c.next, .int .i64 c.plan, .int .i64 c.err, .slice pa c.ans.length pc, .string c.sig] #[.string c.hash, .int .i64 c.nonce, .int .i64 c.time, .int .i64 c.next, .int .i64 c.plan, .int .i64 c.err, .slice p5 c.ans.length q5, .string c.sig] c) (by kernel_rfl) (HK7.out.below ((Below.refl _ _).drew)) (fun hHeld => ?_)
  refine zT 0 35 ?_ rfl (by rfl) ?_ hHeld ?_
  rotate_left
  ·intro W hSw
   have l0 : W.cell? ⟨w5.heap.size, 0, none⟩ = some (.string c.hash) := hSw.2.2.1.cell 0
   have l1 : W.cell? ⟨w5.heap.size, 1, none⟩ = some (.int .i64 c.nonce) := hSw.2.2.1.cell 1
   have l2 : W.cell? ⟨w5.heap.size, 2, none⟩ = some (.int .i64 c.time) := hSw.2.2.1.cell 2
   have l3 : W.cell? ⟨w5.heap.size, 3, none⟩ = some (.int .i64 c.next) := hSw.2.2.1.cell 3
   have l4 : W.cell? ⟨w5.heap.size, 4, none⟩ = some (.int .i64 c.plan) := hSw.2.2.1.cell 4
   have l5 : W.cell? ⟨w5.heap.size, 5, none⟩ = some (.int .i64 c.err) := hSw.2.2.1.cell 5
   have l6 : W.cell? ⟨w5.heap.size, 6, none⟩ = some (.slice p5 c.ans.length q5) := hSw.2.2.1.cell 6
   have l7 : W.cell? ⟨w5.heap.size, 7, none⟩ = some (.string c.sig) := hSw.2.2.1.cell 7
   go_simp
   try with_reducible rfl
  try simp only [Act.put, zA, zB, zC]
  refine zT 1 36 ?_ rfl (by rfl) ?_ hHeld ?_
  rotate_left
  ·intro W hSw
   have l0 : W.cell? ⟨w.heap.size, 0, none⟩ = some (.string c.hash) := hSw.2.1.cell 0
   have l1 : W.cell? ⟨w.heap.size, 1, none⟩ = some (.int .i64 c.nonce) := hSw.2.1.cell 1
   have l2 : W.cell? ⟨w.heap.size, 2, none⟩ = some (.int .i64 c.time) := hSw.2.1.cell 2
   have l3 : W.cell? ⟨w.heap.size, 3, none⟩ = some (.int .i64 c.next) := hSw.2.1.cell 3
   have l4 : W.cell? ⟨w.heap.size, 4, none⟩ = some (.int .i64 c.plan) := hSw.2.1.cell 4
   have l5 : W.cell? ⟨w.heap.size, 5, none⟩ = some (.int .i64 c.err) := hSw.2.1.cell 5
   have l6 : W.cell? ⟨w.heap.size, 6, none⟩ = some (.slice pa c.ans.length pc) := hSw.2.1.cell 6
   have l7 : W.cell? ⟨w.heap.size, 7, none⟩ = some (.string c.sig) := hSw.2.1.cell 7
   go_simp
   try with_reducible rfl
  try simp only [Act.put, zA, zB, zC]
  refine wpAnyH_ready (rs := [2]) (by kernel_rfl) (by simp) ?_
  refine AllReadyH.cons (o := ⟨some 37, _, _, _, _, _⟩) rfl (fun K hK => ?_) AllReadyH.nil
  go_simp
  refine (toReply_any c _ w.heap.size _ (wtR_ans HZ.out) hHeld.1.size (HX.out.below hHeld.1)).mono ?_
  rintro e v1 ⟨u8, fp_u8, rfl, ho8, hv1⟩
  have hH1 := KRp.below hHeld hv1
  have HO8 : Hid (RpAt v1 u8 c) := ho8.at
  clear ho8
  go_wp2_with fail
  refine hK.out _ _ hH1 (fun hHeld => ?_)
  clear hK K hH1 hv1
  try simp only [Act.put, zA, zB, zC]
  refine wpAnyH_ready (rs := [3]) (by kernel_rfl) (by simp) ?_
  refine AllReadyH.cons (o := ⟨some 38, _, _, _, _, _⟩) rfl (fun K hK => ?_) AllReadyH.nil
  go_simp
  refine (eqReply_same c _ _ _ (by have := wtR_ans HZ.out; omega) hHeld.2.2.2 HO8.out).mono ?_
  rintro e v2 ⟨rfl, hv2⟩
  have hH2 := KRp.below hHeld hv2
  go_wp2_with fail
  refine hK.out _ _ hH2 (fun hHeld => ?_)
  clear hK K hH2 hv2
  try simp only [Act.put, zA, zB, zC]
  refine zT 4 39 ?_ rfl (by rfl) ?_ hHeld ?_
  rotate_left
  ·intro W hSw
   go_simp
   try with_reducible rfl
  try simp only [Act.put, zA, zB, zC]
  refine wpAnyH_done (by kernel_rfl) ?_ _
  have HEND : Hid (Below w.heap.size w _) := hHeld.1
  clear hHeld
  go_wp2_with fail
  go_ret
  exact ⟨rfl, HEND.out⟩
end Go.Proofs.Ytbiiihjohbnodaa
