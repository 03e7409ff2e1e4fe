/-
  Texts of the proof.
-/
import Derived.Test.YtagmnlmfoanelaaGreatSK36
set_option maxRecDepth 100000
set_option maxHeartbeats 25600000
namespace Go.Proofs.YtagmnlmfoanelaaGreat
open Go.RowKit
set_option linter.unusedVariables false
set_option linter.unusedSimpArgs false
theorem step_nilI {w : World} {ops : Array Oper} {o : Oper} {a : Act} {K : Act -> World -> Prop} {Q : Exit -> Act -> World -> Prop} {E : Prop} (hgd : o.guard = none) (p q : Operand) (ho : o.op = .call { callee := .builtin .append, args := #[p, q], argTypes := #[24, 24] })
  (hp : a.eval p = .slice none 0 0) (u : Value) (lu : List Int) (bu : Nat) (hu : OwnI w bu u lu) (hq : a.eval q = u) (hl : lu.length <= 100000000)
  (h : ∀ v' w', OwnI w' w.heap.size v' lu -> w.grownBy w' none -> K (a.put o.dst v') w') :
  if Region.wanted o (yielded ops a.tmps) = true then Oper.wp Tryz.prog o a w K Q else E := by
 obtain ⟨i0, hi, hz0, hz1, hz2⟩ := info_parts info3
 have hw : Region.wanted o (yielded ops a.tmps) = true := by simp [Region.wanted, hgd]
 rw [if_pos hw]
 have hown : w.ownsRow w.heap.size 3 1 (.slice none 0 0) 0 [] := World.ownsRow_nil _ _ _ _
 rcases hu.2 with ⟨rfl, h0⟩ | ⟨g, cap, cur, rfl, hbg, hg, hn, hm, hsz, htk⟩
 ·have hle : lu = [] := List.eq_nil_of_length_eq_zero h0
  subst hle
  have hrun := run_append_owned_none (P := Tryz.prog) (w := w) w.heap.size 24 o.type 3 i0 1 Tryz.underlying24 hi (.slice none 0 0) 0 [] hown
  unfold Oper.wp execOp
  simp only [ho, resolve, invoke, builtin, Sem.run_bind, Sem.run_pure, Result.andThen_ok, List.map_toArray, List.map_cons, List.map_nil, hp, hq, hrun]
  exact h _ w (OwnI.nil _ _) (World.grownBy.refl _ _)
 ·refine wp_append_own (w := w) p q 24 ho w.heap.size 3 i0 (.int .i64 0) 1 8 Tryz.underlying24 hi hz0 hz1 hz2 rfl (by decide) (.slice none 0 0) 0 [] hp hown ⟨g, 0, none⟩ lu.length cap (cellsI lu) hq (by simp [cellsI]) (fun j q hq => ?_) (fun q hq => ?_) (by unfold maxLen; omega) (by omega) (Nat.le_refl _) (fun v' w' h1 h2 _ => h v' w' (by simpa [OwnI] using h1) h2)
  ·have hj : j < lu.length := by
    refine Nat.lt_of_not_le fun h => ?_
    rw [List.getElem?_eq_none (by rw [cellsI_len]; exact h)] at hq
    cases hq
   rw [Addr.add_lit, Nat.zero_add, hu.cell hj, <- hq, cellsI_getD hj]
  ·obtain ⟨y, _, rfl⟩ := List.mem_map.1 hq
   rfl
theorem KP.grown2x {w W0 W W' W2 : World} {P Z : Array Value} {lo gO : Nat} {O O' : Array Value} {bb : Bool} {v1 v2 v3 v2' : Value} {l1 : List Wa} {f1 : List Nat} {l2 l2' : List Gt} {f2 f2' : List Nat} {l3 : List Int} {f3 : List Nat} {row : Option Nat}
  (h00 : KP w W0 P Z lo gO O' bb v1 l1 f1 v2 l2 f2 v3 l3 f3) (h0 : KP w W P Z lo gO O bb v1 l1 f1 v2 l2 f2 v3 l3 f3) (hb : Below W.heap.size W W2) (hs : W0.heap.size <= W.heap.size) (hO : OwnX (gtB bb) W' lo v2' l2' f2') (hg : W2.grownBy W' row) (hr : ∀ q, row = some q -> q ∈ f2 ∨ W.heap.size <= q) (hf : ∀ b ∈ f2', b ∈ f2 ∨ W0.heap.size <= b) : KP w W' P Z lo gO O bb v1 l1 f1 v2' l2' f2' v3 l3 f3 := by
 have hd := h0.1.2.2.2.2
 have hl0 := h00.1.lts
 have own2 : ∀ b ∈ f2, lo <= b := fun b hb => (h0.1.2.2.1.lt b hb).1
 have hl := h0.1.lts
 have ne : ∀ b, (b = gO ∨ b ∈ f1 ∨ b ∈ f3) -> row ≠ some b := fun b hb e => by
  have hb1 : b < W.heap.size := by
   rcases hb with rfl | hb | hb
   ·exact hl.1
   ·exact hl.2.1 b hb
   ·exact hl.2.2.2 b hb
  rcases hr b e with hq | hq
  ·rcases hb with rfl | hb | hb
   ·exact hd.1.2.1 hq
   ·exact hd.2.1 b hb hq
   ·exact hd.2.2.2 b hq hb
  ·omega
 have h := h0.1.below hb
 have keep : ∀ b, b < W2.heap.size -> (b = gO ∨ b ∈ f1 ∨ b ∈ f3) -> W'.heap[b]? = W2.heap[b]? := fun b h1 h2 => hg.block b h1 (fun e => ne b h2 e.symm)
 have new : ∀ b, b < W0.heap.size -> b ∈ f2' -> b ∈ f2 := fun b h1 h2 => by
  rcases hf b h2 with hq | hq
  ·exact hq
  ·omega
 refine ⟨⟨⟨h.1.1.grown hg h.1.1.size (fun q e => ?_), (keep _ h.1.2.1.lt (.inl rfl)).trans h.1.2.1, h0.1.1.2.2⟩, h.2.1.same fun b hb => keep b (h.2.1.lt b hb).2 (.inr (.inl hb)), hO, h.2.2.2.1.same fun b hb => keep b (h.2.2.2.1.lt b hb).2 (.inr (.inr hb)), ⟨hd.1.1, fun hm => hd.1.2.1 (new _ hl0.1 hm), hd.1.2.2⟩, fun b h1 h2 => hd.2.1 b h1 (new b (hl0.2.1 b h1) h2), hd.2.2.1, fun b h1 h2 => hd.2.2.2 b (new b (hl0.2.2.2 b h2) h1) h2⟩, h0.lows hb own2 hg hr⟩
 have hgw := h0.1.1.2.2
 have hw := h0.1.1.1.size
 rcases hr q e with hq | hq
 ·have := own2 q hq; omega
 ·omega
def RpFew (c : Rp) : Prop := c.ans.length <= 1048576 /\ (∀ x ∈ c.ans, x.path.length + x.lst.length <= 1048576 /\ ∀ s ∈ x.path ++ x.lst, s.size <= 1000000000000) /\ c.hash.size <= 1000000000000 /\ c.sig.size <= 1000000000000
def OkCn (c : Cn) : Prop := c.key.size <= 1000000000000 /\ (c.waits.length <= 2000000 /\ ∀ x ∈ c.waits, x.text.size <= 1000000000000) /\ (c.gots.length <= 2000000 /\ ∀ x ∈ c.gots, RpFew x.rp) /\ c.late.length <= 2000000
def CnSh (w : World) (v : Value) (c : Cn) : Prop := ∃ v1 v2 v3, v = .agg #[.string c.key, .int .i64 c.now, v1, v2, v3] /\ AtS waKd w v1 c.waits /\ AtX gtW w v2 c.gots /\ OwnI w 0 v3 c.late
theorem ownClient_any (c : Cn) (v : Value) (w : World) (hc : OkCn c) (ha : CnSh w v c) :
  Calls Tryz.prog 29 #[v] w fun e w' => ∃ u fp, e = .returned u /\ OwnCn true w' w.heap.size u c fp /\ Below w.heap.size w w' := by
 obtain ⟨iG, hiG, hzG0, hzG1, hzG2⟩ := info_parts infoGot
 obtain ⟨iW, hiW, hzW0, hzW1, hzW2⟩ := info_parts infoWa
 obtain ⟨v1, v2, v3, rfl, h1, h2, h3⟩ := ha
 obtain ⟨a1, c1, rfl⟩ := h1.shape
 obtain ⟨a2, c2, rfl⟩ := h2.shape
 obtain ⟨a3, c3, hs3, -⟩ := h3.shape
 subst hs3
 obtain ⟨n1, e1⟩ := zE (c.waits.length)
 obtain ⟨n2, e2⟩ := zE (c.gots.length)
 obtain ⟨n3, e3⟩ := zE (c.late.length)
 rw [e1, e2, e3]
 rw [e1] at h1
 rw [e2] at h2
 rw [e3] at h3
 have hn1 : n1 <= 2000000 := by rw [<- e1]; exact hc.2.1.1
 have hn2 : n2 <= 2000000 := by rw [<- e2]; exact hc.2.2.1.1
 have hn3 : n3 <= 2000000 := by rw [<- e3]; exact hc.2.2.2
 have HX0 : Hid (c.key.size <= 1000000000000) := hc.1
 have HX1 := zH (zJ (h1 : AtS waKd w (.slice a1 n1 c1) c.waits) (zJ (e1 : c.waits.length = n1) hc.2.1.2))
 have HX2 := zH (zJ (h2 : AtX gtW w (.slice a2 n2 c2) c.gots) (zJ (e2 : c.gots.length = n2) hc.2.2.1.2))
 have HX3 : Hid (OwnI w 0 (.slice a3 n3 c3) c.late /\ c.late.length = n3 /\ n3 <= 2000000) := ⟨h3, e3, hn3⟩
 clear h1 h2 h3 e1 e2 e3 hc
 go_enter Tryz.func29, Tryz.ntmps29
 go_upto_region 1 with fail
 obtain ⟨W0, hW0⟩ : ∃ V, V = (w.alloc (Obj.cells #[.string c.key, .int .i64 c.now, .slice a1 n1 c1, .slice a2 n2 c2, .slice a3 n3 c3] 35)).alloc (Obj.cells #[.string ⟨#[]⟩, .int .i64 0, .slice none 0 0, .slice none 0 0, .slice none 0 0] 35) := ⟨_, rfl⟩
 rw [<- hW0]
 have H0 : Hid (Below w.heap.size w W0 /\ Blk W0 w.heap.size 35 #[.string c.key, .int .i64 c.now, .slice a1 n1 c1, .slice a2 n2 c2, .slice a3 n3 c3] /\ Blk W0 (w.heap.size + 1) 35 #[.string ⟨#[]⟩, .int .i64 0, .slice none 0 0, .slice none 0 0, .slice none 0 0] /\ w.heap.size + 2 <= W0.heap.size) := by
  have e0 : (w.alloc (Obj.cells #[.string c.key, .int .i64 c.now, .slice a1 n1 c1, .slice a2 n2 c2, .slice a3 n3 c3] 35)).heap.size = w.heap.size + 1 := Array.size_push _
  have h := Blk.new (w.alloc (Obj.cells #[.string c.key, .int .i64 c.now, .slice a1 n1 c1, .slice a2 n2 c2, .slice a3 n3 c3] 35)) 35 #[.string ⟨#[]⟩, .int .i64 0, .slice none 0 0, .slice none 0 0, .slice none 0 0]
  rw [e0] at h
  rw [hW0]
  exact ⟨((Below.refl _ _).alloc (Nat.le_refl _) _).alloc (by rw [e0]; omega) _, (Blk.new w _ _).alloc _, h, by rw [size_alloc, e0]; omega⟩
 clear hW0
 go_cut [3] from 8 (fun s3 wx => ∃ (gO : Nat) (g3 : Option Addr) (q3 : Nat) (f3 : List Nat), s3 = .pointer (some ⟨gO, 0, none⟩) /\ Hid (KP w wx #[.string c.key, .int .i64 c.now, .slice a1 n1 c1, .slice a2 n2 c2, .slice a3 n3 c3] #[.string ⟨#[]⟩, .int .i64 0, .slice none 0 0, .slice none 0 0, .slice none 0 0] (w.heap.size + 2) gO #[.string c.key, .int .i64 c.now, .slice none 0 0, .slice none 0 0, .slice g3 n3 q3] true (.slice none 0 0) [] [] (.slice none 0 0) [] [] (.slice g3 n3 q3) c.late f3))
 case first =>
  have HD : Below w.heap.size w W0.drew /\ Blk W0.drew w.heap.size 35 #[.string c.key, .int .i64 c.now, .slice a1 n1 c1, .slice a2 n2 c2, .slice a3 n3 c3] /\ Blk W0.drew (w.heap.size + 1) 35 #[.string ⟨#[]⟩, .int .i64 0, .slice none 0 0, .slice none 0 0, .slice none 0 0] /\ w.heap.size + 2 <= W0.drew.heap.size := ⟨H0.out.1.drew, H0.out.2.1.below (Below.refl _ _).drew H0.out.2.1.lt, H0.out.2.2.1.below (Below.refl _ _).drew H0.out.2.2.1.lt, H0.out.2.2.2⟩
  refine wp_region_held_drew (S := fun W => Below w.heap.size w W /\ Blk W w.heap.size 35 #[.string c.key, .int .i64 c.now, .slice a1 n1 c1, .slice a2 n2 c2, .slice a3 n3 c3] /\ Blk W (w.heap.size + 1) 35 #[.string ⟨#[]⟩, .int .i64 0, .slice none 0 0, .slice none 0 0, .slice none 0 0] /\ w.heap.size + 2 <= W.heap.size) (by kernel_rfl) HD (fun hHeld => ?_)
  clear HD H0
  generalize W0.drew = wd at hHeld |-
  have HS : Hid (Below w.heap.size w wd /\ Blk wd w.heap.size 35 #[.string c.key, .int .i64 c.now, .slice a1 n1 c1, .slice a2 n2 c2, .slice a3 n3 c3] /\ Blk wd (w.heap.size + 1) 35 #[.string ⟨#[]⟩, .int .i64 0, .slice none 0 0, .slice none 0 0, .slice none 0 0] /\ w.heap.size + 2 <= wd.heap.size) := hHeld
  refine zT 0 8 ?_ rfl (by rfl) ?_ hHeld ?_
  rotate_left
  ·intro W hSw
   go_simp
   try with_reducible rfl
  try simp only [Act.put, zA, zB, zC]
  refine zT 1 9 ?_ rfl (by rfl) ?_ hHeld ?_
  rotate_left
  ·intro W hSw
   have l0 := fun j => hSw.2.1.cell j
   go_simp
   try with_reducible rfl
  try simp only [Act.put, zA, zB, zC]
  refine zT 3 11 ?_ rfl (by rfl) ?_ hHeld ?_
  rotate_left
  ·intro W hSw
   go_simp
   try with_reducible rfl
  try simp only [Act.put, zA, zB, zC]
  refine zT 4 12 ?_ rfl (by rfl) ?_ hHeld ?_
  rotate_left
  ·intro W hSw
   have l1 := fun j => hSw.2.1.cell j
   go_simp
   try with_reducible rfl
  try simp only [Act.put, zA, zB, zC]
  refine zT 5 13 ?_ rfl (by rfl) ?_ hHeld ?_
  rotate_left
  ·intro W hSw
   go_simp
   try with_reducible rfl
  try simp only [Act.put, zA, zB, zC]
  refine zT 6 14 ?_ rfl (by rfl) ?_ hHeld ?_
  rotate_left
  ·intro W hSw
   have l4 := fun j => hSw.2.1.cell j
   go_simp
   try with_reducible rfl
  try simp only [Act.put, zA, zB, zC]
  refine wpAnyH_ready (rs := [2, 9]) (by kernel_rfl) (by simp) ?_
  refine AllReadyH.cons (o := ⟨some 10, _, _, _, _, _⟩) rfl (fun K hK => ?_) (AllReadyH.cons (o := ⟨some 3, _, _, _, _, _⟩) rfl (fun K hK => ?_) AllReadyH.nil)
  ·skip
   go_simp
   refine (cloneB_any c.key wd HX0.out).mono ?_
   rintro e y1 ⟨rfl, hb⟩
   replace HS := zH (zJ (Below.on HS.out.1 hb HS.out.1.size) (zJ (HS.out.2.1.below hb HS.out.2.1.lt) (zJ (HS.out.2.2.1.below hb HS.out.2.2.1.lt) (Nat.le_trans HS.out.2.2.2 hb.size))))
   clear hb hHeld
   refine hK.out _ _ HS.out (fun hHeld => ?_)
   clear hK K
   try simp only [Act.put, zA, zB, zC]
   refine wpAnyH_ready (rs := [7, 9]) (by kernel_rfl) (by simp) ?_
   refine AllReadyH.cons (o := ⟨some 15, _, _, _, _, _⟩) rfl (fun K hK => ?_) (AllReadyH.cons (o := ⟨some 3, _, _, _, _, _⟩) rfl (fun K hK => ?_) AllReadyH.nil)
   ·skip
    refine step_nilI (o := ⟨some 15, _, _, _, _, _⟩) rfl _ _ rfl rfl (.slice a3 n3 c3) c.late 0 (HX3.out.1.stays HS.out.1) rfl (by have := HX3.out.2; omega) ?_
    intro v9 y2 ho9 hg9
    obtain ⟨g3, q3, hs9⟩ : ∃ ao cap, v9 = .slice ao n3 cap := by obtain ⟨ao, cap, h, _⟩ := ho9.shape; exact ⟨ao, cap, by rw [<- HX3.out.2.1]; exact h⟩
    subst hs9
    have hb : Below y1.heap.size y1 y2 := (Below.refl _ _).grown hg9 (Nat.le_refl _) (fun q e => by cases e)
    have HI0 : OwnIF y2 (w.heap.size + 2) (.slice g3 n3 q3) c.late (Value.slice g3 n3 q3).ownBlock.toList := ⟨ho9.base HS.out.2.2.2, rfl⟩
    replace HS := zH (zJ (Below.on HS.out.1 hb HS.out.1.size) (zJ (HS.out.2.1.below hb HS.out.2.1.lt) (zJ (HS.out.2.2.1.below hb HS.out.2.2.1.lt) (Nat.le_trans HS.out.2.2.2 hb.size))))
    have HI : Hid (OwnIF y2 (w.heap.size + 2) (.slice g3 n3 q3) c.late (Value.slice g3 n3 q3).ownBlock.toList) := HI0
    clear HI0 ho9 hg9 hb hHeld
    refine hK.out _ _ HS.out (fun hHeld => ?_)
    clear hK K
    try simp only [Act.put, zA, zB, zC]
    refine zT 8 16 ?_ rfl (by rfl) ?_ hHeld ?_
    rotate_left
    ·intro W hSw
     go_simp
     try with_reducible rfl
    try simp only [Act.put, zA, zB, zC]
    refine wpAnyH_ready (rs := [9]) (by kernel_rfl) (by simp) ?_
    refine AllReadyH.cons (o := ⟨some 3, _, _, _, _, _⟩) rfl (fun K hK => ?_) AllReadyH.nil
    go_simp
    obtain ⟨y3, hY⟩ : ∃ Y, Y = y2.alloc (Obj.cells #[.string ⟨#[]⟩, .int .i64 0, .slice none 0 0, .slice none 0 0, .slice none 0 0] 35) := ⟨_, rfl⟩
    rw [<- hY]
    have hb : Below y2.heap.size y2 y3 := by rw [hY]; exact (Below.refl _ _).alloc (Nat.le_refl _) _
    have HG0 : Blk y3 y2.heap.size 35 #[.string ⟨#[]⟩, .int .i64 0, .slice none 0 0, .slice none 0 0, .slice none 0 0] /\ w.heap.size + 2 <= y2.heap.size := by rw [hY]; exact ⟨Blk.new _ _ _, HS.out.2.2.2⟩
    clear hY
    obtain ⟨gA, hgA⟩ := zE (y2.heap.size)
    have HA0 : gA ∉ (Value.slice g3 n3 q3).ownBlock.toList := fun hm => by have := (HI.out.lt _ hm).2; omega
    rw [hgA] at HG0 |-
    clear hgA
    replace HS := zH (zJ (Below.on HS.out.1 hb HS.out.1.size) (zJ (HS.out.2.1.below hb HS.out.2.1.lt) (zJ (HS.out.2.2.1.below hb HS.out.2.2.1.lt) (Nat.le_trans HS.out.2.2.2 hb.size))))
    replace HI := zH (HI.out.stays hb)
    have HG : Hid (Blk y3 gA 35 #[.string ⟨#[]⟩, .int .i64 0, .slice none 0 0, .slice none 0 0, .slice none 0 0] /\ w.heap.size + 2 <= gA) := HG0
    have HAP : Hid (gA ∉ (Value.slice g3 n3 q3).ownBlock.toList) := HA0
    clear HA0
    clear HG0 hb hHeld
    refine hK.out _ _ HS.out (fun hHeld => ?_)
    clear hK K
    try simp only [Act.put, zA, zB, zC]
    refine wpAnyH_ready (rs := [10]) (by kernel_rfl) (by simp) ?_
    refine AllReadyH.cons (o := ⟨none, _, _, _, _, _⟩) rfl (fun K hK => ?_) AllReadyH.nil
    have z0 := fun j => HG.out.1.cell j
    have zf := fun i => HG.out.1.free i
    go_simp
    obtain ⟨Y9, hY⟩ : ∃ Y, Y = (((((y3.setCell ⟨gA, 0, none⟩ (.string c.key)).setCell ⟨gA, 1, none⟩ (.int .i64 c.now)).setCell ⟨gA, 2, none⟩ (.slice none 0 0)).setCell ⟨gA, 3, none⟩ (.slice none 0 0)).setCell ⟨gA, 4, none⟩ (.slice g3 n3 q3)) := ⟨_, rfl⟩
    have HY : Hid (KP w Y9 #[.string c.key, .int .i64 c.now, .slice a1 n1 c1, .slice a2 n2 c2, .slice a3 n3 c3] #[.string ⟨#[]⟩, .int .i64 0, .slice none 0 0, .slice none 0 0, .slice none 0 0] (w.heap.size + 2) gA #[.string c.key, .int .i64 c.now, .slice none 0 0, .slice none 0 0, .slice g3 n3 q3] true (.slice none 0 0) [] [] (.slice none 0 0) [] [] (.slice g3 n3 q3) c.late (Value.slice g3 n3 q3).ownBlock.toList) := by
     have K0 : KP w y3 #[.string c.key, .int .i64 c.now, .slice a1 n1 c1, .slice a2 n2 c2, .slice a3 n3 c3] #[.string ⟨#[]⟩, .int .i64 0, .slice none 0 0, .slice none 0 0, .slice none 0 0] (w.heap.size + 2) gA #[.string ⟨#[]⟩, .int .i64 0, .slice none 0 0, .slice none 0 0, .slice none 0 0] true (.slice none 0 0) [] [] (.slice none 0 0) [] [] (.slice g3 n3 q3) c.late (Value.slice g3 n3 q3).ownBlock.toList :=
      ⟨⟨⟨HS.out.1, HG.out.1, HG.out.2, by omega⟩, OwnS.nil _ _ _, OwnX.nil _ _ _, HI.out, ⟨by simp, by simp, HAP.out⟩, by simp, by simp, by simp⟩, HS.out.2.1, HS.out.2.2.1, Nat.le_refl _⟩
     rw [hY]
     exact ((((K0.setO 0 _).setO 1 _).setO 2 _).setO 3 _).setO 4 _
    rw [<- hY]
    clear hY z0 zf HG HI HAP HS hHeld
    refine hK.out _ _ ⟨HY.out.1.1.1, HY.out.2.1, HY.out.2.2.1, by have h1 := HY.out.1.1.2.1.lt; have h2 := HY.out.1.1.2.2.1; omega⟩ (fun hHeld => ?_)
    clear hK K hHeld
    refine wpAnyH_done (by kernel_rfl) ?_ _
    go_wp2_with fail
    go_meet
    exact ⟨gA, g3, q3, _, rfl, HY⟩
   ·skip
    go_simp
    obtain ⟨y4, hY⟩ : ∃ Y, Y = y1.alloc (Obj.cells #[.string ⟨#[]⟩, .int .i64 0, .slice none 0 0, .slice none 0 0, .slice none 0 0] 35) := ⟨_, rfl⟩
    rw [<- hY]
    have hb : Below y1.heap.size y1 y4 := by rw [hY]; exact (Below.refl _ _).alloc (Nat.le_refl _) _
    have HG0 : Blk y4 y1.heap.size 35 #[.string ⟨#[]⟩, .int .i64 0, .slice none 0 0, .slice none 0 0, .slice none 0 0] /\ w.heap.size + 2 <= y1.heap.size := by rw [hY]; exact ⟨Blk.new _ _ _, HS.out.2.2.2⟩
    clear hY
    obtain ⟨gA, hgA⟩ := zE (y1.heap.size)
    rw [hgA] at HG0 |-
    clear hgA
    replace HS := zH (zJ (Below.on HS.out.1 hb HS.out.1.size) (zJ (HS.out.2.1.below hb HS.out.2.1.lt) (zJ (HS.out.2.2.1.below hb HS.out.2.2.1.lt) (Nat.le_trans HS.out.2.2.2 hb.size))))
    have HG : Hid (Blk y4 gA 35 #[.string ⟨#[]⟩, .int .i64 0, .slice none 0 0, .slice none 0 0, .slice none 0 0] /\ w.heap.size + 2 <= gA) := HG0
    clear HG0 hb hHeld
    refine hK.out _ _ HS.out (fun hHeld => ?_)
    clear hK K
    try simp only [Act.put, zA, zB, zC]
    refine wpAnyH_ready (rs := [7]) (by kernel_rfl) (by simp) ?_
    refine AllReadyH.cons (o := ⟨some 15, _, _, _, _, _⟩) rfl (fun K hK => ?_) AllReadyH.nil
    refine step_nilI (o := ⟨some 15, _, _, _, _, _⟩) rfl _ _ rfl rfl (.slice a3 n3 c3) c.late 0 (HX3.out.1.stays HS.out.1) rfl (by have := HX3.out.2; omega) ?_
    intro v9 y5 ho9 hg9
    obtain ⟨g3, q3, hs9⟩ : ∃ ao cap, v9 = .slice ao n3 cap := by obtain ⟨ao, cap, h, _⟩ := ho9.shape; exact ⟨ao, cap, by rw [<- HX3.out.2.1]; exact h⟩
    subst hs9
    have hb : Below y4.heap.size y4 y5 := (Below.refl _ _).grown hg9 (Nat.le_refl _) (fun q e => by cases e)
    have HI0 : OwnIF y5 (w.heap.size + 2) (.slice g3 n3 q3) c.late (Value.slice g3 n3 q3).ownBlock.toList := ⟨ho9.base HS.out.2.2.2, rfl⟩
    have HA0 : gA ∉ (Value.slice g3 n3 q3).ownBlock.toList := fun hm => by have h1 := (World.ownsRow.lt ho9 _ (Option.mem_toList.1 hm)).1; have h2 := HG.out.1.lt; omega
    replace HS := zH (zJ (Below.on HS.out.1 hb HS.out.1.size) (zJ (HS.out.2.1.below hb HS.out.2.1.lt) (zJ (HS.out.2.2.1.below hb HS.out.2.2.1.lt) (Nat.le_trans HS.out.2.2.2 hb.size))))
    replace HG := zH (zJ (HG.out.1.below hb HG.out.1.lt) HG.out.2)
    have HI : Hid (OwnIF y5 (w.heap.size + 2) (.slice g3 n3 q3) c.late (Value.slice g3 n3 q3).ownBlock.toList) := HI0
    have HAP : Hid (gA ∉ (Value.slice g3 n3 q3).ownBlock.toList) := HA0
    clear HA0
    clear HI0 ho9 hg9 hb hHeld
    refine hK.out _ _ HS.out (fun hHeld => ?_)
    clear hK K
    try simp only [Act.put, zA, zB, zC]
    refine zT 8 16 ?_ rfl (by rfl) ?_ hHeld ?_
    rotate_left
    ·intro W hSw
     go_simp
     try with_reducible rfl
    try simp only [Act.put, zA, zB, zC]
    refine wpAnyH_ready (rs := [10]) (by kernel_rfl) (by simp) ?_
    refine AllReadyH.cons (o := ⟨none, _, _, _, _, _⟩) rfl (fun K hK => ?_) AllReadyH.nil
    have z0 := fun j => HG.out.1.cell j
    have zf := fun i => HG.out.1.free i
    go_simp
    obtain ⟨Y9, hY⟩ : ∃ Y, Y = (((((y5.setCell ⟨gA, 0, none⟩ (.string c.key)).setCell ⟨gA, 1, none⟩ (.int .i64 c.now)).setCell ⟨gA, 2, none⟩ (.slice none 0 0)).setCell ⟨gA, 3, none⟩ (.slice none 0 0)).setCell ⟨gA, 4, none⟩ (.slice g3 n3 q3)) := ⟨_, rfl⟩
    have HY : Hid (KP w Y9 #[.string c.key, .int .i64 c.now, .slice a1 n1 c1, .slice a2 n2 c2, .slice a3 n3 c3] #[.string ⟨#[]⟩, .int .i64 0, .slice none 0 0, .slice none 0 0, .slice none 0 0] (w.heap.size + 2) gA #[.string c.key, .int .i64 c.now, .slice none 0 0, .slice none 0 0, .slice g3 n3 q3] true (.slice none 0 0) [] [] (.slice none 0 0) [] [] (.slice g3 n3 q3) c.late (Value.slice g3 n3 q3).ownBlock.toList) := by
     have K0 : KP w y5 #[.string c.key, .int .i64 c.now, .slice a1 n1 c1, .slice a2 n2 c2, .slice a3 n3 c3] #[.string ⟨#[]⟩, .int .i64 0, .slice none 0 0, .slice none 0 0, .slice none 0 0] (w.heap.size + 2) gA #[.string ⟨#[]⟩, .int .i64 0, .slice none 0 0, .slice none 0 0, .slice none 0 0] true (.slice none 0 0) [] [] (.slice none 0 0) [] [] (.slice g3 n3 q3) c.late (Value.slice g3 n3 q3).ownBlock.toList :=
      ⟨⟨⟨HS.out.1, HG.out.1, HG.out.2, by omega⟩, OwnS.nil _ _ _, OwnX.nil _ _ _, HI.out, ⟨by simp, by simp, HAP.out⟩, by simp, by simp, by simp⟩, HS.out.2.1, HS.out.2.2.1, Nat.le_refl _⟩
     rw [hY]
     exact ((((K0.setO 0 _).setO 1 _).setO 2 _).setO 3 _).setO 4 _
    rw [<- hY]
    clear hY z0 zf HG HI HAP HS hHeld
    refine hK.out _ _ ⟨HY.out.1.1.1, HY.out.2.1, HY.out.2.2.1, by have h1 := HY.out.1.1.2.1.lt; have h2 := HY.out.1.1.2.2.1; omega⟩ (fun hHeld => ?_)
    clear hK K hHeld
    refine wpAnyH_done (by kernel_rfl) ?_ _
    go_wp2_with fail
    go_meet
    exact ⟨gA, g3, q3, _, rfl, HY⟩
  ·skip
   go_simp
   obtain ⟨y6, hY⟩ : ∃ Y, Y = wd.alloc (Obj.cells #[.string ⟨#[]⟩, .int .i64 0, .slice none 0 0, .slice none 0 0, .slice none 0 0] 35) := ⟨_, rfl⟩
   rw [<- hY]
   have hb : Below wd.heap.size wd y6 := by rw [hY]; exact (Below.refl _ _).alloc (Nat.le_refl _) _
   have HG0 : Blk y6 wd.heap.size 35 #[.string ⟨#[]⟩, .int .i64 0, .slice none 0 0, .slice none 0 0, .slice none 0 0] /\ w.heap.size + 2 <= wd.heap.size := by rw [hY]; exact ⟨Blk.new _ _ _, HS.out.2.2.2⟩
   clear hY
   obtain ⟨gA, hgA⟩ := zE (wd.heap.size)
   rw [hgA] at HG0 |-
   clear hgA
   replace HS := zH (zJ (Below.on HS.out.1 hb HS.out.1.size) (zJ (HS.out.2.1.below hb HS.out.2.1.lt) (zJ (HS.out.2.2.1.below hb HS.out.2.2.1.lt) (Nat.le_trans HS.out.2.2.2 hb.size))))
   have HG : Hid (Blk y6 gA 35 #[.string ⟨#[]⟩, .int .i64 0, .slice none 0 0, .slice none 0 0, .slice none 0 0] /\ w.heap.size + 2 <= gA) := HG0
   clear HG0 hb hHeld
   refine hK.out _ _ HS.out (fun hHeld => ?_)
   clear hK K
   try simp only [Act.put, zA, zB, zC]
   refine wpAnyH_ready (rs := [2]) (by kernel_rfl) (by simp) ?_
   refine AllReadyH.cons (o := ⟨some 10, _, _, _, _, _⟩) rfl (fun K hK => ?_) AllReadyH.nil
   go_simp
   refine (cloneB_any c.key y6 HX0.out).mono ?_
   rintro e y7 ⟨rfl, hb⟩
   replace HS := zH (zJ (Below.on HS.out.1 hb HS.out.1.size) (zJ (HS.out.2.1.below hb HS.out.2.1.lt) (zJ (HS.out.2.2.1.below hb HS.out.2.2.1.lt) (Nat.le_trans HS.out.2.2.2 hb.size))))
   replace HG := zH (zJ (HG.out.1.below hb HG.out.1.lt) HG.out.2)
   clear hb hHeld
   refine hK.out _ _ HS.out (fun hHeld => ?_)
   clear hK K
   try simp only [Act.put, zA, zB, zC]
   refine wpAnyH_ready (rs := [7]) (by kernel_rfl) (by simp) ?_
   refine AllReadyH.cons (o := ⟨some 15, _, _, _, _, _⟩) rfl (fun K hK => ?_) AllReadyH.nil
   refine step_nilI (o := ⟨some 15, _, _, _, _, _⟩) rfl _ _ rfl rfl (.slice a3 n3 c3) c.late 0 (HX3.out.1.stays HS.out.1) rfl (by have := HX3.out.2; omega) ?_
   intro v9 y8 ho9 hg9
   obtain ⟨g3, q3, hs9⟩ : ∃ ao cap, v9 = .slice ao n3 cap := by obtain ⟨ao, cap, h, _⟩ := ho9.shape; exact ⟨ao, cap, by rw [<- HX3.out.2.1]; exact h⟩
   subst hs9
   have hb : Below y7.heap.size y7 y8 := (Below.refl _ _).grown hg9 (Nat.le_refl _) (fun q e => by cases e)
   have HI0 : OwnIF y8 (w.heap.size + 2) (.slice g3 n3 q3) c.late (Value.slice g3 n3 q3).ownBlock.toList := ⟨ho9.base HS.out.2.2.2, rfl⟩
   have HA0 : gA ∉ (Value.slice g3 n3 q3).ownBlock.toList := fun hm => by have h1 := (World.ownsRow.lt ho9 _ (Option.mem_toList.1 hm)).1; have h2 := HG.out.1.lt; omega
   replace HS := zH (zJ (Below.on HS.out.1 hb HS.out.1.size) (zJ (HS.out.2.1.below hb HS.out.2.1.lt) (zJ (HS.out.2.2.1.below hb HS.out.2.2.1.lt) (Nat.le_trans HS.out.2.2.2 hb.size))))
   replace HG := zH (zJ (HG.out.1.below hb HG.out.1.lt) HG.out.2)
   have HI : Hid (OwnIF y8 (w.heap.size + 2) (.slice g3 n3 q3) c.late (Value.slice g3 n3 q3).ownBlock.toList) := HI0
   have HAP : Hid (gA ∉ (Value.slice g3 n3 q3).ownBlock.toList) := HA0
   clear HA0
   clear HI0 ho9 hg9 hb hHeld
   refine hK.out _ _ HS.out (fun hHeld => ?_)
   clear hK K
   try simp only [Act.put, zA, zB, zC]
   refine zT 8 16 ?_ rfl (by rfl) ?_ hHeld ?_
   rotate_left
   ·intro W hSw
    go_simp
    try with_reducible rfl
   try simp only [Act.put, zA, zB, zC]
   refine wpAnyH_ready (rs := [10]) (by kernel_rfl) (by simp) ?_
   refine AllReadyH.cons (o := ⟨none, _, _, _, _, _⟩) rfl (fun K hK => ?_) AllReadyH.nil
   have z0 := fun j => HG.out.1.cell j
   have zf := fun i => HG.out.1.free i
   go_simp
   obtain ⟨Y9, hY⟩ : ∃ Y, Y = (((((y8.setCell ⟨gA, 0, none⟩ (.string c.key)).setCell ⟨gA, 1, none⟩ (.int .i64 c.now)).setCell ⟨gA, 2, none⟩ (.slice none 0 0)).setCell ⟨gA, 3, none⟩ (.slice none 0 0)).setCell ⟨gA, 4, none⟩ (.slice g3 n3 q3)) := ⟨_, rfl⟩
   have HY : Hid (KP w Y9 #[.string c.key, .int .i64 c.now, .slice a1 n1 c1, .slice a2 n2 c2, .slice a3 n3 c3] #[.string ⟨#[]⟩, .int .i64 0, .slice none 0 0, .slice none 0 0, .slice none 0 0] (w.heap.size + 2) gA #[.string c.key, .int .i64 c.now, .slice none 0 0, .slice none 0 0, .slice g3 n3 q3] true (.slice none 0 0) [] [] (.slice none 0 0) [] [] (.slice g3 n3 q3) c.late (Value.slice g3 n3 q3).ownBlock.toList) := by
    have K0 : KP w y8 #[.string c.key, .int .i64 c.now, .slice a1 n1 c1, .slice a2 n2 c2, .slice a3 n3 c3] #[.string ⟨#[]⟩, .int .i64 0, .slice none 0 0, .slice none 0 0, .slice none 0 0] (w.heap.size + 2) gA #[.string ⟨#[]⟩, .int .i64 0, .slice none 0 0, .slice none 0 0, .slice none 0 0] true (.slice none 0 0) [] [] (.slice none 0 0) [] [] (.slice g3 n3 q3) c.late (Value.slice g3 n3 q3).ownBlock.toList :=
     ⟨⟨⟨HS.out.1, HG.out.1, HG.out.2, by omega⟩, OwnS.nil _ _ _, OwnX.nil _ _ _, HI.out, ⟨by simp, by simp, HAP.out⟩, by simp, by simp, by simp⟩, HS.out.2.1, HS.out.2.2.1, Nat.le_refl _⟩
    rw [hY]
    exact ((((K0.setO 0 _).setO 1 _).setO 2 _).setO 3 _).setO 4 _
   rw [<- hY]
   clear hY z0 zf HG HI HAP HS hHeld
   refine hK.out _ _ ⟨HY.out.1.1.1, HY.out.2.1, HY.out.2.2.1, by have h1 := HY.out.1.1.2.1.lt; have h2 := HY.out.1.1.2.2.1; omega⟩ (fun hHeld => ?_)
   clear hK K hHeld
   refine wpAnyH_done (by kernel_rfl) ?_ _
   go_wp2_with fail
   go_meet
   exact ⟨gA, g3, q3, _, rfl, HY⟩
 case rest =>
 obtain ⟨gO, g3, q3, f3, rfl, HKX⟩ := hcut
 rename World => W1
 have HK0 := HKX
 clear HKX
 have y2 : W1.cell? ⟨w.heap.size, 2, none⟩ = some (.slice a1 n1 c1) := HK0.out.2.1.cell 2
 go_wp2_with fail
 clear y2
 go_loopw [20] (fun iv wr => ∃ k : Nat, k <= n1 /\ iv = .int .i64 k /\ ∃ va q f1, Hid (KP w wr #[.string c.key, .int .i64 c.now, .slice a1 n1 c1, .slice a2 n2 c2, .slice a3 n3 c3] #[.string ⟨#[]⟩, .int .i64 0, .slice none 0 0, .slice none 0 0, .slice none 0 0] (w.heap.size + 2) gO #[.string c.key, .int .i64 c.now, .slice va k q, .slice none 0 0, .slice g3 n3 q3] true (.slice va k q) (c.waits.take k) f1 (.slice none 0 0) [] [] (.slice g3 n3 q3) c.late f3)) (fun iv _ => n1 - (intOf iv).toNat)
 case atStart => exact ⟨0, Nat.zero_le _, rfl, none, 0, [], HK0⟩
 case round =>
  clear HK0
  obtain ⟨k, hk, rfl, va, q, f1, H⟩ := hrel
  by_cases hkn : k < n1
  ·have hkl : k < c.waits.length := by rw [HX1.out.2.1]; exact hkn
   obtain ⟨b, off, u, hao, hbB, hP, hus, hcell⟩ := HX1.out.1.get hkl
   have hxs := HX1.out.2.2 _ (List.getElem_mem hkl)
   obtain ⟨x, hx⟩ := zE (c.waits[k])
   have HN : Hid (c.waits.take (k + 1) = c.waits.take k ++ [x] /\ (c.waits.take k).length = k) := ⟨by rw [<- hx]; exact List.take_succ_eq_append_getElem hkl, by rw [List.length_take]; omega⟩
   rw [hx] at hP hxs
   have hu : u = waV x := hP
   subst hao hu
   have hrg : wr.rangeAt b (off + k * 4) #[.int .i64 x.id, .int .i64 x.sent, .string x.text, .int .i64 x.due].toList := fun j z hz => (H.out.1.1.1.cell (p := ⟨b, off + k * 4 + j, none⟩) (by show b < w.heap.size; exact hbB)).trans (hcell j z (by rw [<- Array.getElem?_toList]; exact hz))
   have HT : Hid (x.text.size <= 1000000000000) := hxs
   have hki : (k : Int) < (n1 : Int) := by omega
   have hk0 : (0 : Int) <= (k : Int) := by omega
   obtain ⟨V, hV⟩ : ∃ V, V = (wr.alloc (Obj.cells #[.int .i64 0, .int .i64 0, .string ⟨#[]⟩, .int .i64 0] 57)).setCells wr.heap.size 0 #[.int .i64 x.id, .int .i64 x.sent, .string x.text, .int .i64 x.due].toList := ⟨_, rfl⟩
   have hBV : Below wr.heap.size wr V /\ Blk V wr.heap.size 57 #[.int .i64 x.id, .int .i64 x.sent, .string x.text, .int .i64 x.due] := fresh_store hV rfl
   have hth := (Blk.new wr 57 #[.int .i64 0, .int .i64 0, .string ⟨#[]⟩, .int .i64 0]).there (n := 4) rfl
   have HV : Hid (KP w V #[.string c.key, .int .i64 c.now, .slice (some ⟨b, off, none⟩) n1 c1, .slice a2 n2 c2, .slice a3 n3 c3] #[.string ⟨#[]⟩, .int .i64 0, .slice none 0 0, .slice none 0 0, .slice none 0 0] (w.heap.size + 2) gO #[.string c.key, .int .i64 c.now, .slice va k q, .slice none 0 0, .slice g3 n3 q3] true (.slice va k q) (c.waits.take k) f1 (.slice none 0 0) [] [] (.slice g3 n3 q3) c.late f3) := H.out.below hBV.1
   have HC := zH (zJ hBV.2 (zJ (⟨fun e => by have := H.out.1.1.2.1.lt; omega, fun hm => by have := (H.out.1.2.1.lt _ hm).2; omega, fun hm => by have := (H.out.1.2.2.2.1.lt _ hm).2; omega⟩ : (wr.heap.size ≠ gO /\ wr.heap.size ∉ f1 /\ wr.heap.size ∉ f3)) (by have h1 := H.out.1.1.2.1.lt; have h2 := H.out.1.1.2.2.1; omega : w.heap.size + 2 <= wr.heap.size)))
   clear hcell hus hbB hx hP hxs hkl H hBV
   go_upto_region 5 with (first | refine wpList_load_mid rfl 57 _ rfl b (off + k * 4) rfl _ _ hrg Tryz.underlying57 rfl (by kernel_rfl) ?_ | (refine step_storeV rfl 57 _ _ rfl wr.heap.size 0 #[.int .i64 x.id, .int .i64 x.sent, .string x.text, .int .i64 x.due] rfl rfl hth (by kernel_rfl) (by simp [Value.oneCell']) hV ?_; clear hV hth))
   obtain ⟨gC, hgC⟩ := zE (wr.heap.size)
   rw [hgC] at HC |-
   clear hgC hrg
   have m2 : V.cell? ⟨gC, 2, none⟩ = some (.string x.text) := HC.out.1.cell 2
   go_wp2_with fail
   clear m2
   refine (cloneB_any x.text V HT.out).mono ?_
   rintro e w3 ⟨rfl, hb⟩
   have m2 : w3.cell? ⟨gC, 2, none⟩ = some (.string x.text) := (HC.out.1.below hb HC.out.1.lt).cell 2
   have mf : w3.frozen? ⟨gC, 2, none⟩ = false := (HC.out.1.below hb HC.out.1.lt).free 2
   go_upto_region 6 with fail
   obtain ⟨V3, hV3⟩ : ∃ W, W = w3.setCell ⟨gC, 2, none⟩ (.string x.text) := ⟨_, rfl⟩
   rw [<- hV3]
   have H3 : Hid ((KP w V3 #[.string c.key, .int .i64 c.now, .slice (some ⟨b, off, none⟩) n1 c1, .slice a2 n2 c2, .slice a3 n3 c3] #[.string ⟨#[]⟩, .int .i64 0, .slice none 0 0, .slice none 0 0, .slice none 0 0] (w.heap.size + 2) gO #[.string c.key, .int .i64 c.now, .slice va k q, .slice none 0 0, .slice g3 n3 q3] true (.slice va k q) (c.waits.take k) f1 (.slice none 0 0) [] [] (.slice g3 n3 q3) c.late f3) /\ Blk V3 gC 57 #[.int .i64 x.id, .int .i64 x.sent, .string x.text, .int .i64 x.due]) := by
    have h := HV.out.below hb
    rw [hV3]
    refine ⟨⟨h.1.other (g := gC) (by have h1 := HC.out.2.2; omega) HC.out.2.1.1 HC.out.2.1.2.1 (by simp) HC.out.2.1.2.2 2 [.string x.text], ?_, ?_, h.2.2.2⟩, (HC.out.1.below hb HC.out.1.lt).set 2 _⟩
    ·exact (heap_setCell_other _ _ _ _ (by have h1 := HC.out.2.2; show w.heap.size ≠ gC; omega)).trans h.2.1
    ·exact (heap_setCell_other _ _ _ _ (by have h1 := HC.out.2.2; show w.heap.size + 1 ≠ gC; omega)).trans h.2.2.1
   clear hV3 m2 mf hb HV HC HT
   have o2 := fun j => H3.out.1.1.1.2.1.cell j
   have m0 : V3.cell? ⟨gC, 0, none⟩ = some (.int .i64 x.id) := H3.out.2.cell 0
   have m1 : V3.cell? ⟨gC, 1, none⟩ = some (.int .i64 x.sent) := H3.out.2.cell 1
   have m2 : V3.cell? ⟨gC, 2, none⟩ = some (.string x.text) := H3.out.2.cell 2
   have m3 : V3.cell? ⟨gC, 3, none⟩ = some (.int .i64 x.due) := H3.out.2.cell 3
   obtain ⟨V4, hV4⟩ : ∃ W, W = V3.alloc (Obj.cells #[.int .i64 x.id, .int .i64 x.sent, .string x.text, .int .i64 x.due] 57) := ⟨_, rfl⟩
   have H4 : Hid (Below V3.heap.size V3 V4 /\ V4.rangeAt V3.heap.size 0 #[.int .i64 x.id, .int .i64 x.sent, .string x.text, .int .i64 x.due].toList /\ OwnS waKd V4 (w.heap.size + 2) (.slice va k q) (c.waits.take k) f1 /\ w.heap.size + 2 <= V4.heap.size) := by
    have hb : Below V3.heap.size V3 V4 := by rw [hV4]; exact (Below.refl _ _).alloc (Nat.le_refl _) _
    refine ⟨hb, by rw [hV4]; exact (Blk.new V3 57 #[.int .i64 x.id, .int .i64 x.sent, .string x.text, .int .i64 x.due]).range, H3.out.1.1.2.1.stays hb, ?_⟩
    have h1 := H3.out.1.1.1.2.1.lt
    have h2 := H3.out.1.1.1.2.2.1
    have h3 := hb.size
    omega
   have hd4 : ∀ b ∈ waKd.fp (.agg #[.int .i64 x.id, .int .i64 x.sent, .string x.text, .int .i64 x.due]), b ∉ f1 := fun b hb => by cases hb
   go_wp2_with (at_builtin; rw [<- hV4]; refine wpList_app waKd rfl _ _ 32 rfl iW (.agg #[.int .i64 0, .int .i64 0, .string ⟨#[]⟩, .int .i64 0]) 40 Tryz.underlying32 hiW hzW0 hzW1 hzW2 rfl (by decide) (w.heap.size + 2) (.slice va k q) (c.waits.take k) f1 x (.agg #[.int .i64 x.id, .int .i64 x.sent, .string x.text, .int .i64 x.due]) rfl V3.heap.size rfl H4.out.2.1 H4.out.2.2.1 rfl hd4 H4.out.2.2.2 k HN.out.2 (by omega) ?_)
   intro g6 q6 w6 f6 hO6 hg6 hf6
   try rw [<- hV4] at hg6
   rw [<- HN.out.1] at hO6
   have K6 : Hid (KP w w6 #[.string c.key, .int .i64 c.now, .slice (some ⟨b, off, none⟩) n1 c1, .slice a2 n2 c2, .slice a3 n3 c3] #[.string ⟨#[]⟩, .int .i64 0, .slice none 0 0, .slice none 0 0, .slice none 0 0] (w.heap.size + 2) gO #[.string c.key, .int .i64 c.now, .slice va k q, .slice none 0 0, .slice g3 n3 q3] true (.slice (some ⟨g6, 0, none⟩) (k + 1) q6) (c.waits.take (k + 1)) f6 (.slice none 0 0) [] [] (.slice g3 n3 q3) c.late f3) := by
    refine KP.grown1 H3.out.1 H4.out.1 hO6 hg6 (fun q e => .inl ?_) fun b hb => ?_
    ·obtain ⟨_, _, _, _, hf9, _⟩ := H4.out.2.2.1
     rw [hf9]
     exact List.mem_append_left _ (Option.mem_toList.2 e)
    ·rcases hf6 b hb with h | h | h
     ·exact .inl h
     ·cases h
     ·exact .inr (by have := H4.out.1.size; omega)
   clear hO6 hg6 hf6 H4 H3 hV4 hd4 o2 m0 m1 m2 m3
   have o2 := fun j => K6.out.1.1.2.1.cell j
   have of : w6.frozen? ⟨gO, 2, none⟩ = false := K6.out.1.1.2.1.free 2
   go_wp2_with fail
   go_roundw
   case rel => exact ⟨k + 1, by omega, by go_num, _, q6, f6, K6.out.setO 2 _⟩
   case measure => simp [intOf]; omega
  ·have hkl : n1 = k := by omega
   subst hkl
   have HE : Hid (KP w wr #[.string c.key, .int .i64 c.now, .slice a1 n1 c1, .slice a2 n2 c2, .slice a3 n3 c3] #[.string ⟨#[]⟩, .int .i64 0, .slice none 0 0, .slice none 0 0, .slice none 0 0] (w.heap.size + 2) gO #[.string c.key, .int .i64 c.now, .slice va n1 q, .slice none 0 0, .slice g3 n3 q3] true (.slice va n1 q) c.waits f1 (.slice none 0 0) [] [] (.slice g3 n3 q3) c.late f3) := by
    have h := H.out
    rw [List.take_of_length_le (by rw [HX1.out.2.1]; exact Nat.le_refl _)] at h
    exact h
   clear H HX1
   obtain ⟨gw, qw, HE2⟩ : ∃ gw qw, Hid (KP w wr #[.string c.key, .int .i64 c.now, .slice a1 n1 c1, .slice a2 n2 c2, .slice a3 n3 c3] #[.string ⟨#[]⟩, .int .i64 0, .slice none 0 0, .slice none 0 0, .slice none 0 0] (w.heap.size + 2) gO #[.string c.key, .int .i64 c.now, .slice gw n1 qw, .slice none 0 0, .slice g3 n3 q3] true (.slice gw n1 qw) c.waits f1 (.slice none 0 0) [] [] (.slice g3 n3 q3) c.late f3) := ⟨va, q, HE⟩
   clear HE
   have hnk : ¬ ((n1 : Int) < (n1 : Int)) := by omega
   have y3 : wr.cell? ⟨w.heap.size, 3, none⟩ = some (.slice a2 n2 c2) := HE2.out.2.1.cell 3
   go_wp2_with fail
   clear y3
   go_loopw [38] (fun iv wr => ∃ k : Nat, k <= n2 /\ iv = .int .i64 k /\ ∃ va q f2, Hid (KP w wr #[.string c.key, .int .i64 c.now, .slice a1 n1 c1, .slice a2 n2 c2, .slice a3 n3 c3] #[.string ⟨#[]⟩, .int .i64 0, .slice none 0 0, .slice none 0 0, .slice none 0 0] (w.heap.size + 2) gO #[.string c.key, .int .i64 c.now, .slice gw n1 qw, .slice va k q, .slice g3 n3 q3] true (.slice gw n1 qw) c.waits f1 (.slice va k q) (c.gots.take k) f2 (.slice g3 n3 q3) c.late f3)) (fun iv _ => n2 - (intOf iv).toNat)
   case atStart => exact ⟨0, Nat.zero_le _, rfl, none, 0, [], HE2⟩
   case round =>
    clear HE2 hnk
    obtain ⟨k, hk, rfl, va, q, f2, H⟩ := hrel
    by_cases hkn : k < n2
    ·have hkl : k < c.gots.length := by rw [HX2.out.2.1]; exact hkn
     obtain ⟨b, off, u, hao, hbB, hP, hus, hcell⟩ := HX2.out.1.get hkl
     have hxs := HX2.out.2.2 _ (List.getElem_mem hkl)
     obtain ⟨x, hx⟩ := zE (c.gots[k])
     have HN : Hid (c.gots.take (k + 1) = c.gots.take k ++ [x] /\ (c.gots.take k).length = k) := ⟨by rw [<- hx]; exact List.take_succ_eq_append_getElem hkl, by rw [List.length_take]; omega⟩
     rw [hx] at hP hxs
     obtain ⟨p, hu, hp⟩ := hP
     obtain ⟨pa, pc, hpv⟩ := hp.shape
     obtain ⟨lp, hlp⟩ := zE (x.rp.ans.length)
     rw [hlp] at hpv
     subst hao hpv hu
     have hrg : wr.rangeAt b (off + k * 9) #[.int .i64 x.id, .string x.rp.hash, .int .i64 x.rp.nonce, .int .i64 x.rp.time, .int .i64 x.rp.next, .int .i64 x.rp.plan, .int .i64 x.rp.err, .slice pa lp pc, .string x.rp.sig].toList := fun j z hz => (H.out.1.1.1.cell (p := ⟨b, off + k * 9 + j, none⟩) (by show b < w.heap.size; exact hbB)).trans (hcell j z (by rw [<- Array.getElem?_toList]; exact hz))
     have HT : Hid (RpFew x.rp /\ ∀ W, Below w.heap.size w W -> RpO W (.agg #[.string x.rp.hash, .int .i64 x.rp.nonce, .int .i64 x.rp.time, .int .i64 x.rp.next, .int .i64 x.rp.plan, .int .i64 x.rp.err, .slice pa lp pc, .string x.rp.sig]) x.rp) := ⟨hxs, fun W hb => ⟨_, by unfold rpV; rfl, AtS.below hp hb⟩⟩
     have hki : (k : Int) < (n2 : Int) := by omega
     have hk0 : (0 : Int) <= (k : Int) := by omega
     obtain ⟨V, hV⟩ : ∃ V, V = (wr.alloc (Obj.cells #[.int .i64 0, .string ⟨#[]⟩, .int .i64 0, .int .i64 0, .int .i64 0, .int .i64 0, .int .i64 0, .slice none 0 0, .string ⟨#[]⟩] 81)).setCells wr.heap.size 0 #[.int .i64 x.id, .string x.rp.hash, .int .i64 x.rp.nonce, .int .i64 x.rp.time, .int .i64 x.rp.next, .int .i64 x.rp.plan, .int .i64 x.rp.err, .slice pa lp pc, .string x.rp.sig].toList := ⟨_, rfl⟩
     have hBV : Below wr.heap.size wr V /\ Blk V wr.heap.size 81 #[.int .i64 x.id, .string x.rp.hash, .int .i64 x.rp.nonce, .int .i64 x.rp.time, .int .i64 x.rp.next, .int .i64 x.rp.plan, .int .i64 x.rp.err, .slice pa lp pc, .string x.rp.sig] := fresh_store hV rfl
     have hth := (Blk.new wr 81 #[.int .i64 0, .string ⟨#[]⟩, .int .i64 0, .int .i64 0, .int .i64 0, .int .i64 0, .int .i64 0, .slice none 0 0, .string ⟨#[]⟩]).there (n := 9) rfl
     have HV : Hid (KP w V #[.string c.key, .int .i64 c.now, .slice a1 n1 c1, .slice (some ⟨b, off, none⟩) n2 c2, .slice a3 n3 c3] #[.string ⟨#[]⟩, .int .i64 0, .slice none 0 0, .slice none 0 0, .slice none 0 0] (w.heap.size + 2) gO #[.string c.key, .int .i64 c.now, .slice gw n1 qw, .slice va k q, .slice g3 n3 q3] true (.slice gw n1 qw) c.waits f1 (.slice va k q) (c.gots.take k) f2 (.slice g3 n3 q3) c.late f3) := H.out.below hBV.1
     have HC := zH (zJ hBV.2 (zJ (⟨fun e => by have := H.out.1.1.2.1.lt; omega, fun hm => by have := (H.out.1.2.1.lt _ hm).2; omega, fun hm => by have := (H.out.1.2.2.1.lt _ hm).2; omega, fun hm => by have := (H.out.1.2.2.2.1.lt _ hm).2; omega⟩ : (wr.heap.size ≠ gO /\ wr.heap.size ∉ f1 /\ wr.heap.size ∉ f2 /\ wr.heap.size ∉ f3)) (by have h1 := H.out.1.1.2.1.lt; have h2 := H.out.1.1.2.2.1; omega : w.heap.size + 2 <= wr.heap.size)))
     clear hcell hus hbB hx hp hlp hxs hkl H hBV
     go_upto_region 11 with (first | refine wpList_load_mid rfl 81 _ rfl b (off + k * 9) rfl _ _ hrg Tryz.underlying81 rfl (by kernel_rfl) ?_ | (refine step_storeV rfl 81 _ _ rfl wr.heap.size 0 #[.int .i64 x.id, .string x.rp.hash, .int .i64 x.rp.nonce, .int .i64 x.rp.time, .int .i64 x.rp.next, .int .i64 x.rp.plan, .int .i64 x.rp.err, .slice pa lp pc, .string x.rp.sig] rfl rfl hth (by kernel_rfl) (by simp [Value.oneCell']) hV ?_; clear hV hth))
     obtain ⟨gC, hgC⟩ := zE (wr.heap.size)
     rw [hgC] at HC |-
     clear hgC hrg
     have hr8 : V.rangeAt gC 1 #[.string x.rp.hash, .int .i64 x.rp.nonce, .int .i64 x.rp.time, .int .i64 x.rp.next, .int .i64 x.rp.plan, .int .i64 x.rp.err, .slice pa lp pc, .string x.rp.sig].toList := fun j z hz => by
      have h := HC.out.1.range (1 + j) z (by rw [Nat.add_comm]; exact hz)
      rw [Nat.zero_add] at h
      exact h
     go_wp2_with (refine wpList_load_mid rfl 79 _ rfl gC 1 rfl _ _ hr8 Tryz.underlying79 rfl (by kernel_rfl) ?_)
     clear hr8
     refine (ownReply_any x.rp _ V HT.out.1.1 HT.out.1.2.1 HT.out.1.2.2.1 HT.out.1.2.2.2 (HT.out.2 V HV.out.1.1.1)).mono ?_
     rintro e w3 ⟨u3, rfl, ⟨fr, p3, rfl, ho3⟩, hb⟩
     obtain ⟨qa, qc, hq⟩ := ho3.at.shape
     obtain ⟨lq, hlq⟩ := zE (x.rp.ans.length)
     rw [hlq] at hq
     subst hq
     clear hlq
     unfold rpV
     have hth : w3.there gC 1 8 := fun j hj => by
      have h := (HC.out.1.below hb HC.out.1.lt).there (n := 9) rfl (1 + j) (by omega)
      rw [Nat.zero_add] at h
      exact h
     obtain ⟨V3, hV3⟩ : ∃ W, W = w3.setCells gC 1 #[.string x.rp.hash, .int .i64 x.rp.nonce, .int .i64 x.rp.time, .int .i64 x.rp.next, .int .i64 x.rp.plan, .int .i64 x.rp.err, .slice qa lq qc, .string x.rp.sig].toList := ⟨_, rfl⟩
     have H3 : Hid ((KP w V3 #[.string c.key, .int .i64 c.now, .slice a1 n1 c1, .slice (some ⟨b, off, none⟩) n2 c2, .slice a3 n3 c3] #[.string ⟨#[]⟩, .int .i64 0, .slice none 0 0, .slice none 0 0, .slice none 0 0] (w.heap.size + 2) gO #[.string c.key, .int .i64 c.now, .slice gw n1 qw, .slice va k q, .slice g3 n3 q3] true (.slice gw n1 qw) c.waits f1 (.slice va k q) (c.gots.take k) f2 (.slice g3 n3 q3) c.late f3) /\ Blk V3 gC 81 #[.int .i64 x.id, .string x.rp.hash, .int .i64 x.rp.nonce, .int .i64 x.rp.time, .int .i64 x.rp.next, .int .i64 x.rp.plan, .int .i64 x.rp.err, .slice qa lq qc, .string x.rp.sig] /\ OwnS awWd V3 (w.heap.size + 2) (.slice qa lq qc) x.rp.ans fr /\ ∀ b ∈ fr, b ∉ f2 /\ b ≠ gC) := by
      have h := HV.out.below hb
      have ho := setCells_out #[.string x.rp.hash, .int .i64 x.rp.nonce, .int .i64 x.rp.time, .int .i64 x.rp.next, .int .i64 x.rp.plan, .int .i64 x.rp.err, .slice qa lq qc, .string x.rp.sig].toList w3 gC 1
      have hsz := HV.out.1.1.2.1.lt
      have hlo := HV.out.1.1.2.2.1
      have hcv := HC.out.1.lt
      have hcl := HC.out.2.2
      have hblk : Blk (w3.setCells gC 1 #[.string x.rp.hash, .int .i64 x.rp.nonce, .int .i64 x.rp.time, .int .i64 x.rp.next, .int .i64 x.rp.plan, .int .i64 x.rp.err, .slice qa lq qc, .string x.rp.sig].toList) gC 81 #[.int .i64 x.id, .string x.rp.hash, .int .i64 x.rp.nonce, .int .i64 x.rp.time, .int .i64 x.rp.next, .int .i64 x.rp.plan, .int .i64 x.rp.err, .slice qa lq qc, .string x.rp.sig] := Blk.setMany _ (vs := #[.int .i64 x.id, .string x.rp.hash, .int .i64 x.rp.nonce, .int .i64 x.rp.time, .int .i64 x.rp.next, .int .i64 x.rp.plan, .int .i64 x.rp.err, .slice pa lp pc, .string x.rp.sig].toList) 1 (HC.out.1.below hb HC.out.1.lt)
      have hown : OwnS awWd (w3.setCells gC 1 #[.string x.rp.hash, .int .i64 x.rp.nonce, .int .i64 x.rp.time, .int .i64 x.rp.next, .int .i64 x.rp.plan, .int .i64 x.rp.err, .slice qa lq qc, .string x.rp.sig].toList) (w.heap.size + 2) (.slice qa lq qc) x.rp.ans fr := (ho3.out ho fun b hb hm => by have h1 := (ho3.lt b hb).1; have h2 := List.mem_singleton.1 hm; omega).base (by omega)
      have hsep : ∀ b ∈ fr, b ∉ f2 /\ b ≠ gC := fun b hb => ⟨fun hm => by have h1 := (ho3.lt b hb).1; have h2 := (HV.out.1.2.2.1.lt b hm).2; omega, by have h1 := (ho3.lt b hb).1; omega⟩
      have hp0 := (ho.2.2.2.2 _ h.2.1.lt (fun hm => by have h2 := List.mem_singleton.1 hm; omega)).trans h.2.1
      have hp1 := (ho.2.2.2.2 _ h.2.2.1.lt (fun hm => by have h2 := List.mem_singleton.1 hm; omega)).trans h.2.2.1
      have hkn := h.1.other (g := gC) (by omega) HC.out.2.1.1 HC.out.2.1.2.1 HC.out.2.1.2.2.1 HC.out.2.1.2.2.2 1 #[.string x.rp.hash, .int .i64 x.rp.nonce, .int .i64 x.rp.time, .int .i64 x.rp.next, .int .i64 x.rp.plan, .int .i64 x.rp.err, .slice qa lq qc, .string x.rp.sig].toList
      rw [hV3]
      exact ⟨⟨hkn, hp0, hp1, h.2.2.2⟩, hblk, hown, hsep⟩
     have ho9 := setCells_out #[.string x.rp.hash, .int .i64 x.rp.nonce, .int .i64 x.rp.time, .int .i64 x.rp.next, .int .i64 x.rp.plan, .int .i64 x.rp.err, .slice qa lq qc, .string x.rp.sig].toList w3 gC 1
     rw [<- hV3] at ho9
     have hz9 : V.heap.size <= V3.heap.size := Nat.le_trans hb.size ho9.2.2.2.1
     have HZ : Hid (V.heap.size <= V3.heap.size /\ ∀ b ∈ fr, V.heap.size <= b) := ⟨hz9, fun b hb => (ho3.lt b hb).1⟩
     have HV3 : Hid (Below V.heap.size V w3) := hb
     clear ho3 hb HC HT ho9 hz9
     go_upto_region 12 with (refine step_storeV rfl 79 _ _ rfl gC 1 #[.string x.rp.hash, .int .i64 x.rp.nonce, .int .i64 x.rp.time, .int .i64 x.rp.next, .int .i64 x.rp.plan, .int .i64 x.rp.err, .slice qa lq qc, .string x.rp.sig] rfl rfl hth (by kernel_rfl) (by simp [Value.oneCell']) hV3 ?_; clear hV3 hth)
     have o3 := fun j => H3.out.1.1.1.2.1.cell j
     have hr9 : V3.rangeAt gC 0 #[.int .i64 x.id, .string x.rp.hash, .int .i64 x.rp.nonce, .int .i64 x.rp.time, .int .i64 x.rp.next, .int .i64 x.rp.plan, .int .i64 x.rp.err, .slice qa lq qc, .string x.rp.sig].toList := H3.out.2.1.range
     obtain ⟨V4, hV4⟩ : ∃ W, W = V3.alloc (Obj.cells #[.int .i64 x.id, .string x.rp.hash, .int .i64 x.rp.nonce, .int .i64 x.rp.time, .int .i64 x.rp.next, .int .i64 x.rp.plan, .int .i64 x.rp.err, .slice qa lq qc, .string x.rp.sig] 81) := ⟨_, rfl⟩
     have H4 : Hid (Below V3.heap.size V3 V4 /\ V4.rangeAt V3.heap.size 0 #[.int .i64 x.id, .string x.rp.hash, .int .i64 x.rp.nonce, .int .i64 x.rp.time, .int .i64 x.rp.next, .int .i64 x.rp.plan, .int .i64 x.rp.err, .slice qa lq qc, .string x.rp.sig].toList /\ OwnX gtW V4 (w.heap.size + 2) (.slice va k q) (c.gots.take k) f2 /\ w.heap.size + 2 <= V4.heap.size /\ OwnS awWd V4 (w.heap.size + 2) (.slice qa lq qc) x.rp.ans fr) := by
      have hb : Below V3.heap.size V3 V4 := by rw [hV4]; exact (Below.refl _ _).alloc (Nat.le_refl _) _
      refine ⟨hb, by rw [hV4]; exact (Blk.new V3 81 #[.int .i64 x.id, .string x.rp.hash, .int .i64 x.rp.nonce, .int .i64 x.rp.time, .int .i64 x.rp.next, .int .i64 x.rp.plan, .int .i64 x.rp.err, .slice qa lq qc, .string x.rp.sig]).range, H3.out.1.1.2.2.1.stays hb, ?_, H3.out.2.2.1.stays hb⟩
      have h1 := H3.out.1.1.1.2.1.lt
      have h2 := H3.out.1.1.1.2.2.1
      have h3 := hb.size
      omega
     go_wp2_with (first | refine wpList_load_mid rfl 81 _ rfl gC 0 rfl _ _ hr9 Tryz.underlying81 rfl (by kernel_rfl) ?_ | (at_builtin; rw [<- hV4]; refine wpList_appX gtW rfl _ _ 33 rfl iG (.agg #[.int .i64 0, .string ⟨#[]⟩, .int .i64 0, .int .i64 0, .int .i64 0, .int .i64 0, .int .i64 0, .slice none 0 0, .string ⟨#[]⟩]) 104 Tryz.underlying33 hiG hzG0 hzG1 hzG2 rfl (by decide) (w.heap.size + 2) (.slice va k q) (c.gots.take k) f2 x (gtV x (.slice qa lq qc)) fr rfl V3.heap.size rfl H4.out.2.1 H4.out.2.2.1 ⟨_, rfl, H4.out.2.2.2.2⟩ (fun b hb => (H3.out.2.2.2 b hb).1) H4.out.2.2.2.1 k HN.out.2 (by omega) ?_))
     intro g6 q6 w6 f6 hO6 hg6 hin6 hf6
     try rw [<- hV4] at hg6
     rw [<- HN.out.1] at hO6
     have K6 : Hid (KP w w6 #[.string c.key, .int .i64 c.now, .slice a1 n1 c1, .slice (some ⟨b, off, none⟩) n2 c2, .slice a3 n3 c3] #[.string ⟨#[]⟩, .int .i64 0, .slice none 0 0, .slice none 0 0, .slice none 0 0] (w.heap.size + 2) gO #[.string c.key, .int .i64 c.now, .slice gw n1 qw, .slice va k q, .slice g3 n3 q3] true (.slice gw n1 qw) c.waits f1 (.slice (some ⟨g6, 0, none⟩) (k + 1) q6) (c.gots.take (k + 1)) f6 (.slice g3 n3 q3) c.late f3) := by
      have hq : ∀ q', (Value.slice va k q).ownBlock = some q' -> q' ∈ f2 := hin6
      have hzz := HZ.out.1
      have h34 := H4.out.1.size
      refine KP.grown2x HV.out H3.out.1 H4.out.1 HZ.out.1 hO6 hg6 (fun q' e => .inl (hin6 q' e)) fun b hb => ?_
      rcases hf6 b hb with h | h | h
      ·exact .inl h
      ·exact .inr (HZ.out.2 b h)
      ·exact .inr (by omega)
     clear hO6 hg6 hin6 hf6 H4 H3 hV4 o3 HZ HV3 HV
     have o3 := fun j => K6.out.1.1.2.1.cell j
     have of : w6.frozen? ⟨gO, 3, none⟩ = false := K6.out.1.1.2.1.free 3
     try clear hr9
     go_wp2_with fail
     go_roundw
     case rel => exact ⟨k + 1, by omega, by go_num, _, q6, f6, K6.out.setO 3 _⟩
     case measure => simp [intOf]; omega
    ·have hkl : n2 = k := by omega
     subst hkl
     have KU : Hid (KP w wr #[.string c.key, .int .i64 c.now, .slice a1 n1 c1, .slice a2 n2 c2, .slice a3 n3 c3] #[.string ⟨#[]⟩, .int .i64 0, .slice none 0 0, .slice none 0 0, .slice none 0 0] (w.heap.size + 2) gO #[.string c.key, .int .i64 c.now, .slice gw n1 qw, .slice va n2 q, .slice g3 n3 q3] true (.slice gw n1 qw) c.waits f1 (.slice va n2 q) c.gots f2 (.slice g3 n3 q3) c.late f3) := by
      have h := H.out
      rw [List.take_of_length_le (by rw [HX2.out.2.1]; exact Nat.le_refl _)] at h
      exact h
     clear H HX2
     have hnk : ¬ ((n2 : Int) < (n2 : Int)) := by omega
     have hrg : wr.rangeAt gO 0 #[.string c.key, .int .i64 c.now, .slice gw n1 qw, .slice va n2 q, .slice g3 n3 q3].toList := KU.out.1.1.2.1.range
     have hth : wr.there (w.heap.size + 1) 0 5 := KU.out.2.2.1.there rfl
     obtain ⟨U2, hU2⟩ : ∃ W, W = wr.setCells (w.heap.size + 1) 0 #[.string c.key, .int .i64 c.now, .slice gw n1 qw, .slice va n2 q, .slice g3 n3 q3].toList := ⟨_, rfl⟩
     have HF : Hid (OwnCn true U2 w.heap.size (.agg #[.string c.key, .int .i64 c.now, .slice gw n1 qw, .slice va n2 q, .slice g3 n3 q3]) c (f1 ++ (f2 ++ f3)) /\ Below w.heap.size w U2 /\ Blk U2 (w.heap.size + 1) 35 #[.string c.key, .int .i64 c.now, .slice gw n1 qw, .slice va n2 q, .slice g3 n3 q3]) := by
      have ho := setCells_out #[.string c.key, .int .i64 c.now, .slice gw n1 qw, .slice va n2 q, .slice g3 n3 q3].toList wr (w.heap.size + 1) 0
      have hw : OwnCn true wr (w.heap.size + 2) (.agg #[.string c.key, .int .i64 c.now, .slice gw n1 qw, .slice va n2 q, .slice g3 n3 q3]) c (f1 ++ (f2 ++ f3)) := KU.out.1.own
      rw [hU2]
      refine ⟨(hw.out ho fun b hb hm => ?_).base (by omega), Below.out KU.out.1.1.1 ho (fun b hb => by rw [List.mem_singleton.1 hb]; omega) KU.out.1.1.1.size, Blk.setAll KU.out.2.2.1 rfl⟩
      have h1 := (hw.lt b hb).1
      rw [List.mem_singleton.1 hm] at h1
      omega
     go_wp2_with (first | refine wpList_load_mid rfl 35 _ rfl gO 0 rfl _ _ hrg Tryz.underlying35 rfl (by kernel_rfl) ?_ | (refine step_storeV rfl 35 _ _ rfl (w.heap.size + 1) 0 #[.string c.key, .int .i64 c.now, .slice gw n1 qw, .slice va n2 q, .slice g3 n3 q3] rfl rfl hth (by kernel_rfl) (by simp [Value.oneCell']) hU2 ?_; clear hU2 hth))
     have r0 := fun j => HF.out.2.2.cell j
     try clear hrg
     refine bodyPost_ret (v := .agg #[.string c.key, .int .i64 c.now, .slice gw n1 qw, .slice va n2 q, .slice g3 n3 q3]) (by simp [results, Tryz.results29, go_sem, r0]) rfl (by first | exact ⟨_, _, rfl, HF.out.1, HF.out.2.1⟩ | exact ⟨_, rfl, ⟨_, HF.out.1⟩, HF.out.2.1⟩)
theorem ask_any (c : Cn) (a : Ak) (v1 v2 v3 u : Value) (g : Nat) (id span : Int) (w : World) (hz : wtCn c <= 1048576) (hza : wtAk a <= 1048576) (hwd : WdAk a) (hid : -9223372036854775808 <= id /\ id <= 9223372036854775807) (hk : Blk w g 35 #[.string c.key, .int .i64 c.now, v1, v2, v3]) (h1 : ShS waKd w v1 c.waits) (h2 : AtX gtW w v2 c.gots) (hu : AkAt w u a) :
  Calls Tryz.prog 28 #[.pointer (some ⟨g, 0, none⟩), u, .int .i64 id, .int .i64 span] w fun e w' => ∃ v', e = .returned (.tuple #[.string (askC c a id span).2.1, .bool (askC c a id span).2.2]) /\ Out [g] w w' /\ Blk w' g 35 #[.string c.key, .int .i64 c.now, v', v2, v3] /\ AtS waKd w' v' (askC c a id span).1.waits := by
 have hat : AtS waKd w v1 c.waits := h1.1
 have hlw : c.waits.length <= 1048576 := by have h1 : c.waits.length <= wtWaS c.waits := Nat.le_add_right _ _; unfold wtCn at hz; omega
 have hlg : c.gots.length <= 1048576 := by have h1 : c.gots.length <= wtGtS c.gots := Nat.le_add_right _ _; unfold wtCn at hz; omega
 have hwa : WdAk (askA a id) := by
  obtain ⟨h1, h2, h3⟩ := hwd
  refine ⟨fun y hy => ?_, h2, h3⟩
  have hy2 : y = a.plan ∨ y = a.want ∨ y = sentN a id ∨ y = a.time := by simpa [askA] using hy
  rcases hy2 with rfl | rfl | rfl | rfl
  ·exact h1 _ (by simp)
  ·exact h1 _ (by simp)
  ·unfold sentN; split <;> omega
  ·exact h1 _ (by simp)
 obtain ⟨N, hN⟩ := zE (sentN a id)
 obtain ⟨TX, hTX⟩ := zE (txA a id)
 obtain ⟨B1, hB1⟩ := zE ((atxt (askA a id)).isSome)
 obtain ⟨BF, hBF⟩ := zE ((inB id 1 1000000000 && !knB c id))
 obtain ⟨BM, hBM⟩ := zE ((decide (c.waits.length < 4) && (inB span 1 999 && inB c.now 0 99999)))
 have HM : Hid ((decide (c.waits.length < 4) && (inB span 1 999 && inB c.now 0 99999)) = BM) := hBM
 have HR : Hid (askC c a id span = if (B1 && (BF && BM)) = true then (⟨c.key, c.now, c.waits ++ [⟨id, N, TX, c.now + span⟩], c.gots, c.late⟩, TX, true) else (c, ⟨#[]⟩, false)) := by
  show _ = _
  unfold askC
  rw [hTX, hN, hB1, <- hBF, <- hBM, Bool.and_assoc]
 have HT0 : Hid (B1 = false -> TX = ⟨#[]⟩) := by
  intro h
  rw [<- hTX]
  rw [<- hB1] at h
  unfold txA
  cases hx : atxt (askA a id) with
  | none => rfl
  | some t => rw [hx] at h; cases h
 obtain ⟨pv, rfl, hpt⟩ := hu
 have EF : Hid (∀ W : World, Below w.heap.size w W -> Calls Tryz.prog 51 #[.pointer (some ⟨g, 0, none⟩), .int .i64 id] W fun e w' => e = .returned (.bool BF) /\ Below W.heap.size W w') := fun W h => by rw [<- hBF]; exact isFree_any c v1 v2 v3 g id W (by omega) (by omega) (hk.below h hk.lt) (hat.below h) (AtX.below h2 h)
 have EM : Hid (∀ W : World, Below w.heap.size w W -> Calls Tryz.prog 52 #[.pointer (some ⟨g, 0, none⟩), .int .i64 span] W fun e w' => e = .returned (.bool BM) /\ Below W.heap.size W w') := fun W h => by rw [<- hBM]; exact mayWait_any c v1 v2 v3 g span W (hk.below h hk.lt) (hat.below h)
 have ES : Hid (∀ W : World, Below w.heap.size w W -> Calls Tryz.prog 53 #[.agg #[pv, .int .i64 a.plan, .int .i64 a.want, .int .i64 a.nonce, .int .i64 a.time, .bool a.cac], .int .i64 id] W fun e w' => e = .returned (.int .i64 N) /\ Below W.heap.size W w') := fun W h => by rw [<- hN]; exact sentWith_any a _ id W ⟨pv, rfl, hpt.below h⟩
 have ET : Hid (∀ W : World, Below w.heap.size w W -> Calls Tryz.prog 54 #[.agg #[pv, .int .i64 a.plan, .int .i64 a.want, .int .i64 N, .int .i64 a.time, .bool a.cac]] W fun e w' => e = .returned (.tuple #[.string TX, .bool B1]) /\ Below W.heap.size W w') := fun W h => by rw [<- hTX, <- hB1]; exact implAskText_any (askA a id) _ W hza hwa ⟨pv, by show _ = Value.agg #[_, _, _, .int .i64 (sentN a id), _, _]; rw [hN]; rfl, hpt.below h⟩
 have EX : Hid (∀ W : World, Below w.heap.size w W -> Calls Tryz.prog 55 #[v1, .agg #[.int .i64 id, .int .i64 N, .string TX, .int .i64 (c.now + span)]] W fun e w' => ∃ ao n' cap f', e = .returned (.slice ao n' cap) /\ OwnS waKd w' W.heap.size (.slice ao n' cap) (c.waits ++ [⟨id, N, TX, c.now + span⟩]) f' /\ Below W.heap.size W w') := fun W h => (withWait_any c.waits v1 ⟨id, N, TX, c.now + span⟩ W (by omega) (h1.below h)).mono fun e w' hh => by
  obtain ⟨g', cap, fp, q1, q2, q3⟩ := hh
  exact ⟨_, _, _, fp, q1, q2, q3⟩
 have HK : Hid (Blk w g 35 #[.string c.key, .int .i64 c.now, v1, v2, v3] /\ AtS waKd w v1 c.waits) := ⟨hk, hat⟩
 have HP2 : Hid (∀ W : World, True) := fun _ => trivial
 unfold akV
 clear hk hat h1 h2 hpt hwa hlw hlg hN hTX hB1 hBF hBM hz hza hwd hid HP2
 go_enter Tryz.func28, Tryz.ntmps28
 go_upto_region 1 with fail
 obtain ⟨W0, hW0⟩ : ∃ V, V = w.alloc (Obj.cells #[pv, .int .i64 a.plan, .int .i64 a.want, .int .i64 a.nonce, .int .i64 a.time, .bool a.cac] 39) := ⟨_, rfl⟩
 rw [<- hW0]
 have HS : Hid (Below w.heap.size w W0 /\ Blk W0 w.heap.size 39 #[pv, .int .i64 a.plan, .int .i64 a.want, .int .i64 a.nonce, .int .i64 a.time, .bool a.cac]) := by rw [hW0]; exact ⟨(Below.refl _ _).alloc (Nat.le_refl _) _, Blk.new _ _ _⟩
 clear hW0
 go_wp2_with fail
 refine (EF.out W0 HS.out.1).mono ?_
 rintro e w1 ⟨rfl, hb⟩
 have HSn := zH (zJ (HS.out.1.trans (hb.mono HS.out.1.size)) (HS.out.2.below hb HS.out.2.lt))
 clear HS hb
 have HS := HSn
 clear HSn
 clear EF
 cases BF with
 | false =>
  have HF : Hid (askC c a id span = (c, ⟨#[]⟩, false)) := by
   show _ = _
   rw [HR.out]
   simp
  go_wp2_with fail
  refine bodyPost_ret (v := .tuple #[.string ⟨#[]⟩, .bool false]) (by simp [results, Tryz.results28, go_sem]) rfl ?_
  rw [HF.out]
  exact ⟨v1, rfl, Out.of_below HS.out.1, HK.out.1.below HS.out.1 HK.out.1.lt, HK.out.2.below HS.out.1⟩
 | true =>
  go_wp2_with fail
  refine (EM.out w1 HS.out.1).mono ?_
  rintro e w2 ⟨rfl, hb⟩
  have HSn := zH (zJ (HS.out.1.trans (hb.mono HS.out.1.size)) (HS.out.2.below hb HS.out.2.lt))
  clear HS hb
  have HS := HSn
  clear HSn
  clear EM
  cases BM with
  | false =>
   have HF : Hid (askC c a id span = (c, ⟨#[]⟩, false)) := by
    show _ = _
    rw [HR.out]
    simp
   go_wp2_with fail
   refine bodyPost_ret (v := .tuple #[.string ⟨#[]⟩, .bool false]) (by simp [results, Tryz.results28, go_sem]) rfl ?_
   rw [HF.out]
   exact ⟨v1, rfl, Out.of_below HS.out.1, HK.out.1.below HS.out.1 HK.out.1.lt, HK.out.2.below HS.out.1⟩
  | true =>
   have b0 : w2.cell? ⟨w.heap.size, 0, none⟩ = some (pv) := HS.out.2.cell 0
   have b1 : w2.cell? ⟨w.heap.size, 1, none⟩ = some (.int .i64 a.plan) := HS.out.2.cell 1
   have b2 : w2.cell? ⟨w.heap.size, 2, none⟩ = some (.int .i64 a.want) := HS.out.2.cell 2
   have b3 : w2.cell? ⟨w.heap.size, 3, none⟩ = some (.int .i64 a.nonce) := HS.out.2.cell 3
   have b4 : w2.cell? ⟨w.heap.size, 4, none⟩ = some (.int .i64 a.time) := HS.out.2.cell 4
   have b5 : w2.cell? ⟨w.heap.size, 5, none⟩ = some (.bool a.cac) := HS.out.2.cell 5
   go_wp2_with fail
   clear b0 b1 b2 b3 b4 b5
   refine (ES.out w2 HS.out.1).mono ?_
   rintro e w3 ⟨rfl, hb⟩
   have HSn := zH (zJ (HS.out.1.trans (hb.mono HS.out.1.size)) (HS.out.2.below hb HS.out.2.lt))
   clear HS hb
   have HS := HSn
   clear HSn
   clear ES
   have b3 : w3.cell? ⟨w.heap.size, 3, none⟩ = some (.int .i64 a.nonce) := HS.out.2.cell 3
   have bf := fun i => HS.out.2.free i
   go_upto_region 4 with fail
   clear b3 bf
   obtain ⟨W4, hW4⟩ : ∃ W, W = w3.setCell ⟨w.heap.size, 3, none⟩ (.int .i64 N) := ⟨_, rfl⟩
   rw [<- hW4]
   have HSn : Hid (Below w.heap.size w W4 /\ Blk W4 w.heap.size 39 #[pv, .int .i64 a.plan, .int .i64 a.want, .int .i64 N, .int .i64 a.time, .bool a.cac]) := by
    rw [hW4]
    exact ⟨Below.setCell HS.out.1 (by show w.heap.size <= w.heap.size; exact Nat.le_refl _) _, HS.out.2.set 3 _⟩
   clear HS hW4
   have HS := HSn
   clear HSn
   have b0 : W4.cell? ⟨w.heap.size, 0, none⟩ = some (pv) := HS.out.2.cell 0
   have b1 : W4.cell? ⟨w.heap.size, 1, none⟩ = some (.int .i64 a.plan) := HS.out.2.cell 1
   have b2 : W4.cell? ⟨w.heap.size, 2, none⟩ = some (.int .i64 a.want) := HS.out.2.cell 2
   have b3 : W4.cell? ⟨w.heap.size, 3, none⟩ = some (.int .i64 N) := HS.out.2.cell 3
   have b4 : W4.cell? ⟨w.heap.size, 4, none⟩ = some (.int .i64 a.time) := HS.out.2.cell 4
   have b5 : W4.cell? ⟨w.heap.size, 5, none⟩ = some (.bool a.cac) := HS.out.2.cell 5
   go_wp2_with fail
   clear b0 b1 b2 b3 b4 b5
   refine (ET.out W4 HS.out.1).mono ?_
   rintro e w5 ⟨rfl, hb⟩
   have HSn := zH (zJ (HS.out.1.trans (hb.mono HS.out.1.size)) (HS.out.2.below hb HS.out.2.lt))
   clear HS hb
   have HS := HSn
   clear HSn
   clear ET
   cases B1 with
   | false =>
    have HTX : Hid (TX = ⟨#[]⟩) := HT0.out rfl
    have hTXe := HTX.out
    subst hTXe
    have HF : Hid (askC c a id span = (c, ⟨#[]⟩, false)) := by
     show _ = _
     rw [HR.out]
     simp
    go_wp2_with fail
    refine bodyPost_ret (v := .tuple #[.string ⟨#[]⟩, .bool false]) (by simp [results, Tryz.results28, go_sem]) rfl ?_
    rw [HF.out]
    exact ⟨v1, rfl, Out.of_below HS.out.1, HK.out.1.below HS.out.1 HK.out.1.lt, HK.out.2.below HS.out.1⟩
   | true =>
    have HF : Hid (askC c a id span = (⟨c.key, c.now, c.waits ++ [⟨id, N, TX, c.now + span⟩], c.gots, c.late⟩, TX, true)) := by
     show _ = _
     rw [HR.out]
     rfl
    have hwr : IntKind.i64.wrap (c.now + span) = c.now + span := by
     have h := HM.out
     simp only [Bool.and_eq_true] at h
     have h1 := of_decide_eq_true h.2.1
     have h2 := of_decide_eq_true h.2.2
     rw [IntKind.wrap_i64]
     omega
    clear HM HR HT0
    go_upto_region 6 with fail
    have HD : (Out [g] w w5.drew /\ (∃ p, Blk w5.drew g 35 #[.string c.key, .int .i64 c.now, p, v2, v3]) /\ Blk w5.drew w.heap.size 39 #[pv, .int .i64 a.plan, .int .i64 a.want, .int .i64 N, .int .i64 a.time, .bool a.cac]) := ⟨Out.of_below HS.out.1.drew, ⟨v1, (HK.out.1.below HS.out.1 HK.out.1.lt).below (Below.refl _ _).drew (HK.out.1.below HS.out.1 HK.out.1.lt).lt⟩, HS.out.2.below (Below.refl _ _).drew HS.out.2.lt⟩
    have HS5 := zH (zJ HS.out.1.drew HD.2.2)
    refine wp_region_held_drew (S := fun W => Out [g] w W /\ (∃ p, Blk W g 35 #[.string c.key, .int .i64 c.now, p, v2, v3]) /\ Blk W w.heap.size 39 #[pv, .int .i64 a.plan, .int .i64 a.want, .int .i64 N, .int .i64 a.time, .bool a.cac]) (by kernel_rfl) HD (fun hHeld => ?_)
    clear HS HD
    generalize w5.drew = wd at hHeld HS5 |-
    refine zT 0 32 ?_ rfl (by rfl) ?_ hHeld ?_
    rotate_left
    ·intro W hSw
     go_simp
     try with_reducible rfl
    try simp only [Act.put, zA, zB, zC]
    refine zT 1 33 ?_ rfl (by rfl) ?_ hHeld ?_
    rotate_left
    ·intro W hSw
     go_simp
     try with_reducible rfl
    try simp only [Act.put, zA, zB, zC]
    refine zT 2 34 ?_ rfl (by rfl) ?_ hHeld ?_
    rotate_left
    ·intro W hSw
     go_simp
     try with_reducible rfl
    try simp only [Act.put, zA, zB, zC]
    refine zT 3 35 ?_ rfl (by rfl) ?_ hHeld ?_
    rotate_left
    ·intro W hSw
     go_simp
     try with_reducible rfl
    try simp only [Act.put, zA, zB, zC]
    refine zT 5 37 ?_ rfl (by rfl) ?_ hHeld ?_
    rotate_left
    ·intro W hSw
     go_simp
     try with_reducible rfl
    try simp only [Act.put, zA, zB, zC]
    refine zT 6 38 ?_ rfl (by rfl) ?_ hHeld ?_
    rotate_left
    ·intro W hSw
     go_simp
     try with_reducible rfl
    try simp only [Act.put, zA, zB, zC]
    refine zT 7 39 ?_ rfl (by rfl) ?_ hHeld ?_
    rotate_left
    ·intro W hSw
     have l3 := fun j => hSw.2.2.cell j
     go_simp
     try with_reducible rfl
    try simp only [Act.put, zA, zB, zC]
    refine zT 8 40 ?_ rfl (by rfl) ?_ hHeld ?_
    rotate_left
    ·intro W hSw
     go_simp
     try with_reducible rfl
    try simp only [Act.put, zA, zB, zC]
    refine zT 9 41 ?_ rfl (by rfl) ?_ hHeld ?_
    rotate_left
    ·intro W hSw
     go_simp
     try with_reducible rfl
    try simp only [Act.put, zA, zB, zC]
    refine zT 10 42 ?_ rfl (by rfl) ?_ hHeld ?_
    rotate_left
    ·intro W hSw
     go_simp
     try with_reducible rfl
    try simp only [Act.put, zA, zB, zC]
    refine zT 11 43 ?_ rfl (by rfl) ?_ hHeld ?_
    rotate_left
    ·intro W hSw
     go_simp
     try with_reducible rfl
    try simp only [Act.put, zA, zB, zC]
    refine zT 12 44 ?_ rfl (by rfl) ?_ hHeld ?_
    rotate_left
    ·intro W hSw
     have l1 : W.cell? ⟨g, 1, none⟩ = some (.int .i64 c.now) := by obtain ⟨p, hp⟩ := hSw.2.1; exact hp.cell 1
     go_simp
     try with_reducible rfl
    try simp only [Act.put, zA, zB, zC]
    refine zT 13 45 ?_ rfl (by rfl) ?_ hHeld ?_
    rotate_left
    ·intro W hSw
     go_simp
     try with_reducible rfl
    try simp only [Act.put, zA, zB, zC]
    refine zT 14 46 ?_ rfl (by rfl) ?_ hHeld ?_
    rotate_left
    ·intro W hSw
     go_simp
     try with_reducible rfl
    try simp only [Act.put, zA, zB, zC]
    refine zT 15 47 ?_ rfl (by rfl) ?_ hHeld ?_
    rotate_left
    ·intro W hSw
     go_simp
     try with_reducible rfl
    try simp only [Act.put, zA, zB, zC]
    refine wpAnyH_ready (rs := [4]) (by kernel_rfl) (by simp) ?_
    refine AllReadyH.cons (o := ⟨some 36, _, _, _, _, _⟩) rfl (fun K hK => ?_) AllReadyH.nil
    have l2 := fun j => (HK.out.1.below HS5.out.1 HK.out.1.lt).cell j
    go_simp
    refine hK.out _ _ ⟨Out.of_below HS5.out.1, ⟨v1, HK.out.1.below HS5.out.1 HK.out.1.lt⟩, HS5.out.2⟩ (fun hHeld => ?_)
    clear hK K l2
    try simp only [Act.put, zA, zB, zC]
    refine wpAnyH_ready (rs := [16]) (by kernel_rfl) (by simp) ?_
    refine AllReadyH.cons (o := ⟨some 48, _, _, _, _, _⟩) rfl (fun K hK => ?_) AllReadyH.nil
    go_simp
    refine (EX.out wd HS5.out.1).mono ?_
    rintro e y1 ⟨ao, n', cap, f', rfl, hO, hb⟩
    have HZ := zH (zJ (⟨HS5.out.1.trans (hb.mono HS5.out.1.size), HS5.out.2.below hb HS5.out.2.lt⟩ : (Below w.heap.size w y1 /\ Blk y1 w.heap.size 39 #[pv, .int .i64 a.plan, .int .i64 a.want, .int .i64 N, .int .i64 a.time, .bool a.cac])) (zJ (hO : OwnS waKd y1 wd.heap.size (.slice ao n' cap) (c.waits ++ [⟨id, N, TX, c.now + span⟩]) f') HS5.out.1.size))
    clear hO hb HS5 EX
    refine hK.out _ _ ⟨Out.of_below HZ.out.1.1, ⟨v1, HK.out.1.below HZ.out.1.1 HK.out.1.lt⟩, HZ.out.1.2⟩ (fun hHeld => ?_)
    clear hK K
    try simp only [Act.put, zA, zB, zC]
    refine zT 17 49 ?_ rfl (by rfl) ?_ hHeld ?_
    rotate_left
    ·intro W hSw
     go_simp
     try with_reducible rfl
    try simp only [Act.put, zA, zB, zC]
    refine zT 18 50 ?_ rfl (by rfl) ?_ hHeld ?_
    rotate_left
    ·intro W hSw
     go_simp
     try with_reducible rfl
    try simp only [Act.put, zA, zB, zC]
    refine wpAnyH_ready (rs := [19]) (by kernel_rfl) (by simp) ?_
    refine AllReadyH.cons (o := ⟨none, _, _, _, _, _⟩) rfl (fun K hK => ?_) AllReadyH.nil
    have z2 := fun j => (HK.out.1.below HZ.out.1.1 HK.out.1.lt).cell j
    have zf : y1.frozen? ⟨g, 2, none⟩ = false := (HK.out.1.below HZ.out.1.1 HK.out.1.lt).free 2
    go_simp
    obtain ⟨Y, hY⟩ : ∃ Y, Y = y1.setCell ⟨g, 2, none⟩ (.slice ao n' cap) := ⟨_, rfl⟩
    have HY : Hid (Out [g] w Y /\ Blk Y g 35 #[.string c.key, .int .i64 c.now, .slice ao n' cap, v2, v3] /\ Blk Y w.heap.size 39 #[pv, .int .i64 a.plan, .int .i64 a.want, .int .i64 N, .int .i64 a.time, .bool a.cac] /\ AtS waKd Y (.slice ao n' cap) (c.waits ++ [⟨id, N, TX, c.now + span⟩])) := by
     rw [hY]
     have hgl := HK.out.1.lt
     refine ⟨(Out.of_below HZ.out.1.1).setCell _ _ (by simp), (HK.out.1.below HZ.out.1.1 HK.out.1.lt).set 2 _, (heap_setCell_other _ _ _ _ (by show w.heap.size ≠ g; omega)).trans HZ.out.1.2, (HZ.out.2.1.same (fun b hb => heap_setCell_other _ _ _ _ (by have h1 := (HZ.out.2.1.lt b hb).1; have h2 := HZ.out.2.2; show b ≠ g; omega))).at⟩
    rw [<- hY]
    clear hY z2 zf HZ
    refine hK.out _ _ ⟨HY.out.1, ⟨_, HY.out.2.1⟩, HY.out.2.2.1⟩ (fun hHeld => ?_)
    clear hK K hHeld
    try simp only [Act.put, zA, zB, zC]
    refine wpAnyH_done (by kernel_rfl) ?_ _
    go_wp2_with fail
    refine bodyPost_ret (v := .tuple #[.string TX, .bool true]) (by simp [results, Tryz.results28, go_sem]) rfl ?_
    rw [HF.out]
    exact ⟨_, rfl, HY.out.1, HY.out.2.1, HY.out.2.2.2⟩
theorem rpFew_of {c : Rp} (h : wtR c <= 1048576) : RpFew c := by
 have h1 := wtR_ans h
 unfold wtR at h
 refine ⟨Nat.le_trans (wtAS_len _) h1, fun x hx => ?_, by omega, by omega⟩
 have h2 := Nat.le_trans (wtAS_mem hx) h1
 unfold wtAw at h2
 have h3 := tot_len x.path
 have h4 := tot_len x.lst
 refine ⟨by omega, fun s hs => ?_⟩
 rcases List.mem_append.1 hs with hs | hs
 ·have := tot_mem _ _ hs; omega
 ·have := tot_mem _ _ hs; omega
theorem okCn_of {c : Cn} (h : wtCn c <= 1048576) : OkCn c := by
 have h1 := wtWaS_len c.waits
 have h2 : c.gots.length <= wtGtS c.gots := Nat.le_add_right _ _
 unfold wtCn at h
 refine ⟨by omega, ⟨by omega, fun x hx => ?_⟩, ⟨by omega, fun x hx => rpFew_of ?_⟩, by omega⟩
 ·have h3 := wtWaS_mem hx
  unfold wtWa at h3
  omega
 ·have h3 := wtGtS_mem hx
  unfold wtGt at h3
  omega
theorem askC_two (c : Cn) (a : Ak) (id span : Int) : askC c a id span = (c, ⟨#[]⟩, false) ∨ askC c a id span = (⟨c.key, c.now, c.waits ++ [⟨id, sentN a id, txA a id, c.now + span⟩], c.gots, c.late⟩, txA a id, true) := by
 unfold askC
 split
 ·exact .inr rfl
 ·exact .inl rfl
theorem askC_ok {c : Cn} (a : Ak) (id span : Int) (h : wtCn c <= 1048576) : OkCn (askC c a id span).1 := by
 have h0 := okCn_of h
 have h1 := wtWaS_len c.waits
 have h2 : c.waits.length <= 1048576 := by unfold wtCn at h; omega
 rcases askC_two c a id span with e | e
 ·rw [e]; exact h0
 ·rw [e]
  refine ⟨h0.1, ⟨by show (c.waits ++ _).length <= _; simp; omega, fun x hx => ?_⟩, h0.2.2⟩
  rcases List.mem_append.1 hx with hx | hx
  ·exact h0.2.1.2 x hx
  ·rw [List.mem_singleton.1 hx]
   have := atxt_len (askA a id)
   show (((atxt (askA a id)).getD []).toArray).size <= _
   rw [List.size_toArray]
   omega
theorem askC_lm {c : Cn} (a : Ak) (id span : Int) (h : wtCn c <= 1048576) : LmCn (askC c a id span).1 := by
 have h1 := wtWaS_len c.waits
 unfold wtCn at h
 rcases askC_two c a id span with e | e
 ·rw [e]; exact ⟨by show c.waits.length <= _; omega, by show wtGtS c.gots <= _; omega, by show c.late.length <= _; omega⟩
 ·rw [e]; exact ⟨by show (c.waits ++ _).length <= _; simp; omega, by show wtGtS c.gots <= _; omega, by show c.late.length <= _; omega⟩
theorem askC_same (c : Cn) (a : Ak) (id span : Int) : c.key = (askC c a id span).1.key /\ c.now = (askC c a id span).1.now /\ c.gots = (askC c a id span).1.gots /\ c.late = (askC c a id span).1.late := by
 rcases askC_two c a id span with e | e <;> rw [e] <;> exact ⟨rfl, rfl, rfl, rfl⟩
theorem implAskNow_any (c : Cn) (a : Ak) (id span : Int) (v u : Value) (b1 : Nat) (f : List Nat) (b2 : Nat) (w : World) (hz : wtCn c <= 1048576) (hza : wtAk a <= 1048576) (hwd : WdAk a) (hid : -9223372036854775808 <= id /\ id <= 9223372036854775807) (ho : OwnCn false w b1 v c f) (hu : OwnAk w b2 u a) :
  Calls Tryz.prog 9 #[v, u, .int .i64 id, .int .i64 span] w fun e w' => ∃ x fp, e = .returned (.tuple #[x, .string (askC c a id span).2.1, .bool (askC c a id span).2.2]) /\ OwnCn true w' w.heap.size x (askC c a id span).1 fp /\ Below w.heap.size w w' := by
 obtain ⟨v1, v2, v3, f1, f2, f3, rfl, hO1, hO2, hO3, -, -⟩ := ho
 have h1 : ShS waKd w v1 c.waits := hO1.sh
 have h2 : AtX gtW w v2 c.gots := gtB_at hO2.at
 have h3 : OwnI w 0 v3 c.late := hO3.1.base (Nat.zero_le _)
 obtain ⟨pv, rfl, hpt⟩ := hu.at
 have hok := askC_ok a id span hz
 obtain ⟨k1, k2, k3, k4⟩ := askC_same c a id span
 have EA : Hid (∀ W : World, Below w.heap.size w W -> Blk W w.heap.size 35 #[.string c.key, .int .i64 c.now, v1, v2, v3] -> Calls Tryz.prog 28 #[.pointer (some ⟨w.heap.size, 0, none⟩), .agg #[pv, .int .i64 a.plan, .int .i64 a.want, .int .i64 a.nonce, .int .i64 a.time, .bool a.cac], .int .i64 id, .int .i64 span] W fun e w' => ∃ v', e = .returned (.tuple #[.string (askC c a id span).2.1, .bool (askC c a id span).2.2]) /\ Out [w.heap.size] W w' /\ Blk w' w.heap.size 35 #[.string c.key, .int .i64 c.now, v', v2, v3] /\ AtS waKd w' v' (askC c a id span).1.waits) := fun W h hk => ask_any c a v1 v2 v3 _ w.heap.size id span W hz hza hwd hid hk (h1.below h) (AtX.below h2 h) ⟨pv, rfl, hpt.below h⟩
 obtain ⟨C, hC⟩ := zE ((askC c a id span).1)
 obtain ⟨TX, hTX⟩ := zE ((askC c a id span).2.1)
 obtain ⟨OK, hOK⟩ := zE ((askC c a id span).2.2)
 rw [hC] at k1 k2 k3 k4 hok
 rw [hC, hTX, hOK] at EA |-
 rw [k1, k2] at EA
 rw [k1, k2]
 have HN : Hid (AtX gtW w v2 C.gots /\ OwnI w 0 v3 C.late) := ⟨by rw [<- k3]; exact h2, by rw [<- k4]; exact h3⟩
 have EO : Hid (∀ (W : World) (v : Value), CnSh W v C -> Calls Tryz.prog 29 #[v] W fun e w' => ∃ u fp, e = .returned u /\ OwnCn true w' W.heap.size u C fp /\ Below W.heap.size W w') := fun W v h => ownClient_any C v W hok h
 unfold akV
 clear hC hTX hOK hO1 hO2 hO3 h1 h2 h3 hpt hok k1 k2 k3 k4 hz hza hwd hid hu
 go_enter Tryz.func9, Tryz.ntmps9
 go_upto_region 1 with fail
 obtain ⟨W0, hW0⟩ : ∃ V, V = (((w.alloc (Obj.cells #[.string C.key, .int .i64 C.now, v1, v2, v3] 35)).alloc (Obj.cells #[pv, .int .i64 a.plan, .int .i64 a.want, .int .i64 a.nonce, .int .i64 a.time, .bool a.cac] 39)).alloc (Obj.cells #[.string ⟨#[]⟩, .int .i64 0, .slice none 0 0, .slice none 0 0, .slice none 0 0] 35)) := ⟨_, rfl⟩
 rw [<- hW0]
 have H0 : Hid (Below w.heap.size w W0 /\ Blk W0 w.heap.size 35 #[.string C.key, .int .i64 C.now, v1, v2, v3] /\ Blk W0 (w.heap.size + 1) 39 #[pv, .int .i64 a.plan, .int .i64 a.want, .int .i64 a.nonce, .int .i64 a.time, .bool a.cac] /\ Blk W0 (w.heap.size + 1 + 1) 35 #[.string ⟨#[]⟩, .int .i64 0, .slice none 0 0, .slice none 0 0, .slice none 0 0]) := by
  have e0 : (w.alloc (Obj.cells #[.string C.key, .int .i64 C.now, v1, v2, v3] 35)).heap.size = w.heap.size + 1 := Array.size_push _
  have e1 : ((w.alloc (Obj.cells #[.string C.key, .int .i64 C.now, v1, v2, v3] 35)).alloc (Obj.cells #[pv, .int .i64 a.plan, .int .i64 a.want, .int .i64 a.nonce, .int .i64 a.time, .bool a.cac] 39)).heap.size = w.heap.size + 1 + 1 := by rw [size_alloc, e0]
  rw [hW0]
  refine ⟨(((Below.refl _ _).alloc (Nat.le_refl _) _).alloc (by rw [e0]; omega) _).alloc (by rw [e1]; omega) _, ((Blk.new w _ _).alloc _).alloc _, ?_, ?_⟩
  ·have h := (Blk.new (w.alloc (Obj.cells #[.string C.key, .int .i64 C.now, v1, v2, v3] 35)) 39 #[pv, .int .i64 a.plan, .int .i64 a.want, .int .i64 a.nonce, .int .i64 a.time, .bool a.cac]).alloc (Obj.cells #[.string ⟨#[]⟩, .int .i64 0, .slice none 0 0, .slice none 0 0, .slice none 0 0] 35)
   rw [e0] at h
   exact h
  ·have h := Blk.new ((w.alloc (Obj.cells #[.string C.key, .int .i64 C.now, v1, v2, v3] 35)).alloc (Obj.cells #[pv, .int .i64 a.plan, .int .i64 a.want, .int .i64 a.nonce, .int .i64 a.time, .bool a.cac] 39)) 35 #[.string ⟨#[]⟩, .int .i64 0, .slice none 0 0, .slice none 0 0, .slice none 0 0]
   rw [e1] at h
   exact h
 clear hW0
 have b0 : W0.cell? ⟨w.heap.size + 1, 0, none⟩ = some (pv) := H0.out.2.2.1.cell 0
 have b1 : W0.cell? ⟨w.heap.size + 1, 1, none⟩ = some (.int .i64 a.plan) := H0.out.2.2.1.cell 1
 have b2 : W0.cell? ⟨w.heap.size + 1, 2, none⟩ = some (.int .i64 a.want) := H0.out.2.2.1.cell 2
 have b3 : W0.cell? ⟨w.heap.size + 1, 3, none⟩ = some (.int .i64 a.nonce) := H0.out.2.2.1.cell 3
 have b4 : W0.cell? ⟨w.heap.size + 1, 4, none⟩ = some (.int .i64 a.time) := H0.out.2.2.1.cell 4
 have b5 : W0.cell? ⟨w.heap.size + 1, 5, none⟩ = some (.bool a.cac) := H0.out.2.2.1.cell 5
 go_wp2_with fail
 clear b0 b1 b2 b3 b4 b5
 refine (EA.out W0 H0.out.1 H0.out.2.1).mono ?_
 rintro e w1 ⟨v', rfl, hout, hblk, hat⟩
 have H1 : Hid (Below w.heap.size w w1 /\ Blk w1 w.heap.size 35 #[.string C.key, .int .i64 C.now, v', v2, v3] /\ Blk w1 (w.heap.size + 1 + 1) 35 #[.string ⟨#[]⟩, .int .i64 0, .slice none 0 0, .slice none 0 0, .slice none 0 0] /\ AtS waKd w1 v' C.waits) := ⟨Below.out H0.out.1 hout (fun b hb => by rw [List.mem_singleton.1 hb]; exact Nat.le_refl _) H0.out.1.size, hblk, (hout.2.2.2.2 _ H0.out.2.2.2.lt (by simp; omega)).trans H0.out.2.2.2, hat⟩
 clear hout hblk hat H0 EA
 have p0 := fun j => H1.out.2.1.cell j
 have HS : Hid (CnSh w1 (.agg #[.string C.key, .int .i64 C.now, v', v2, v3]) C) := ⟨v', v2, v3, rfl, H1.out.2.2.2, AtX.below HN.out.1 H1.out.1, HN.out.2.stays H1.out.1⟩
 go_wp2_with fail
 clear p0
 refine (EO.out w1 _ HS.out).mono ?_
 rintro e w2 ⟨x, fp, rfl, hO, hb⟩
 obtain ⟨x1, y1, x2, y2, x3, y3, hx⟩ := hO.at.shape
 subst hx
 have H2 := zH (zJ (H1.out.1.trans (hb.mono H1.out.1.size)) (zJ (H1.out.2.2.1.below hb H1.out.2.2.1.lt) (zJ (hO : OwnCn true w2 w1.heap.size (.agg #[.string C.key, .int .i64 C.now, .slice x1 C.waits.length y1, .slice x2 C.gots.length y2, .slice x3 C.late.length y3]) C fp) (by have := H1.out.2.2.1.lt; omega : w.heap.size + 3 <= w1.heap.size))))
 clear hO hb HS H1 EO HN
 have hth : w2.there (w.heap.size + 1 + 1) 0 5 := H2.out.2.1.there rfl
 obtain ⟨U, hU⟩ : ∃ W, W = w2.setCells (w.heap.size + 1 + 1) 0 #[.string C.key, .int .i64 C.now, .slice x1 C.waits.length y1, .slice x2 C.gots.length y2, .slice x3 C.late.length y3].toList := ⟨_, rfl⟩
 have HU : Hid (OwnCn true U w.heap.size (.agg #[.string C.key, .int .i64 C.now, .slice x1 C.waits.length y1, .slice x2 C.gots.length y2, .slice x3 C.late.length y3]) C fp /\ Below w.heap.size w U /\ Blk U (w.heap.size + 1 + 1) 35 #[.string C.key, .int .i64 C.now, .slice x1 C.waits.length y1, .slice x2 C.gots.length y2, .slice x3 C.late.length y3]) := by
  have ho := setCells_out #[.string C.key, .int .i64 C.now, .slice x1 C.waits.length y1, .slice x2 C.gots.length y2, .slice x3 C.late.length y3].toList w2 (w.heap.size + 1 + 1) 0
  have hw := H2.out.2.2.1
  have hsz := H2.out.2.2.2
  rw [hU]
  refine ⟨(hw.out ho fun b hb hm => ?_).base (by omega), Below.out H2.out.1 ho (fun b hb => by rw [List.mem_singleton.1 hb]; omega) H2.out.1.size, Blk.setAll H2.out.2.1 rfl⟩
  have h1 := (hw.lt b hb).1
  rw [List.mem_singleton.1 hm] at h1
  omega
 clear H2
 go_wp2_with (refine step_storeV rfl 35 _ _ rfl (w.heap.size + 1 + 1) 0 #[.string C.key, .int .i64 C.now, .slice x1 C.waits.length y1, .slice x2 C.gots.length y2, .slice x3 C.late.length y3] rfl rfl hth (by kernel_rfl) (by simp [Value.oneCell']) hU ?_; clear hU hth)
 have r0 := fun j => HU.out.2.2.cell j
 refine bodyPost_ret (v := .tuple #[.agg #[.string C.key, .int .i64 C.now, .slice x1 C.waits.length y1, .slice x2 C.gots.length y2, .slice x3 C.late.length y3], .string TX, .bool OK]) (by simp [results, Tryz.results9, go_sem, r0]) rfl ?_
 exact ⟨_, _, rfl, HU.out.1, HU.out.2.1⟩
end Go.Proofs.YtagmnlmfoanelaaGreat
