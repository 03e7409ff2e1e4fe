/-
  Texts of the proof.
-/
import Derived.Deep.RegionHeld3
import Derived.Deep.Cut
import Derived.Test.YtplblechcnbieaaGreatSA33
set_option maxRecDepth 100000
set_option maxHeartbeats 25600000
namespace Go.Proofs.YtplblechcnbieaaGreat
open Go.RowKit
set_option linter.unusedVariables false
set_option linter.unusedSimpArgs false
def KSo (w W : World) (P : Array Value) : Prop := Below w.heap.size w W /\ Blk W w.heap.size 33 P /\ Blk W (w.heap.size + 1) 33 #[.slice none 0 0, .slice none 0 0, .slice none 0 0] /\ w.heap.size + 1 + 1 <= W.heap.size
theorem KSo.below {w W W' : World} {P : Array Value} (h : KSo w W P) (hb : Below W.heap.size W W') : KSo w W' P := ⟨h.1.trans (hb.mono h.1.size), h.2.1.below hb h.2.1.lt, h.2.2.1.below hb h.2.2.1.lt, Nat.le_trans h.2.2.2 hb.size⟩
theorem KSo.grown {w W W' : World} {P : Array Value} {row : Option Nat} (h : KSo w W P) (hg : W.grownBy W' row) (hr : ∀ q, row = some q -> w.heap.size + 1 + 1 <= q) : KSo w W' P :=
 ⟨h.1.grown hg h.1.size (fun q e => by have := hr q e; omega), (hg.block _ h.2.1.lt (fun e => by have := hr _ e.symm; omega)).trans h.2.1, (hg.block _ h.2.2.1.lt (fun e => by have := hr _ e.symm; omega)).trans h.2.2.1, Nat.le_trans h.2.2.2 hg.size⟩
theorem KSo.set {w W : World} {P : Array Value} (h : KSo w W P) {g i : Nat} {v : Value} (hg : w.heap.size + 1 + 1 <= g) : KSo w (W.setCell ⟨g, i, none⟩ v) P :=
 ⟨Below.setCell h.1 (by show w.heap.size <= g; omega) _, h.2.1.other _ (by show w.heap.size ≠ g; omega), h.2.2.1.other _ (by show w.heap.size + 1 ≠ g; omega), Nat.le_trans h.2.2.2 (sizeSet _ _ _)⟩
def KCo (w W : World) (P : Array Value) (gA : Nat) (cv av : Value) (s : So) (f1 : List Nat) (gP : Nat) : Prop := KSo w W P /\ Blk W gA 33 #[cv, .slice none 0 0, av] /\ w.heap.size + 1 + 1 <= gA /\ OwnS certKd W (w.heap.size + 1 + 1) cv s.certs f1 /\ OwnS anKd W (w.heap.size + 1 + 1) av s.ancs [gP] /\ gA ∉ f1 /\ gA ≠ gP /\ gP ∉ f1
theorem KCo.mk {w X : World} {P : Array Value} {gA gP : Nat} {cv av : Value} {s : So} {f1 : List Nat} (hK : KSo w X P) (hA : Blk X gA 33 #[.slice none 0 0, .slice none 0 0, .slice none 0 0]) (hg : w.heap.size + 1 + 1 <= gA) (h1 : OwnS certKd X (w.heap.size + 1 + 1) cv s.certs f1) (h3 : OwnS anKd X (w.heap.size + 1 + 1) av s.ancs [gP]) (d1 : gA ∉ f1) (d2 : gA ≠ gP) (d3 : gP ∉ f1) :
  KCo w (((X.setCell ⟨gA, 0, none⟩ cv).setCell ⟨gA, 1, none⟩ (.slice none 0 0)).setCell ⟨gA, 2, none⟩ av) P gA cv av s f1 gP := by
 have far : ∀ b, b ≠ gA -> (((X.setCell ⟨gA, 0, none⟩ cv).setCell ⟨gA, 1, none⟩ (.slice none 0 0)).setCell ⟨gA, 2, none⟩ av).heap[b]? = X.heap[b]? := fun b hb => by
  rw [heap_setCell_other _ _ _ _ (by exact hb), heap_setCell_other _ _ _ _ (by exact hb), heap_setCell_other _ _ _ _ (by exact hb)]
 exact ⟨((hK.set hg).set hg).set hg, ((hA.set 0 cv).set 1 _).set 2 av, hg, h1.same (fun b hb => far b (fun e => d1 (e ▸ hb))), h3.same (fun b hb => far b (fun e => d2 (e.symm.trans (List.mem_singleton.1 hb)))), d1, d2, d3⟩
theorem l13Copy_any (s : So) (v : Value) (w : World) (hok : OkO s) (h : SoSh w v s) : Calls Tryz.prog 52 #[v] w fun e w' => ∃ x1 y1 x2 y2 x3 y3 fp, e = .returned (.agg #[.slice x1 s.certs.length y1, .slice x2 s.crls.length y2, .slice x3 s.ancs.length y3]) /\ OwnO w' w.heap.size (.agg #[.slice x1 s.certs.length y1, .slice x2 s.crls.length y2, .slice x3 s.ancs.length y3]) s fp /\ Below w.heap.size w w' := by
 obtain ⟨i2, hi2, hz02, hz12, hz22⟩ := info_parts infoCrl
 obtain ⟨a1, c1, a2, c2, a3, c3, rfl, h1, h2, h3⟩ := h
 have EC : Hid (∀ W, Below w.heap.size w W -> Calls Tryz.prog 98 #[.slice a1 s.certs.length c1] W fun e w' => ∃ g m f, e = .returned (.slice (some ⟨g, 0, none⟩) s.certs.length m) /\ OwnS certKd w' W.heap.size (.slice (some ⟨g, 0, none⟩) s.certs.length m) s.certs f /\ Below W.heap.size W w') := fun W hb => l13Certs_any s.certs _ W hok.1.1 (fun c hc => (hok.2.1 c hc).1) (h1.below hb)
 obtain ⟨n1, e1⟩ := zE (s.certs.length)
 obtain ⟨n2, e2⟩ := zE (s.crls.length)
 obtain ⟨n3, e3⟩ := zE (s.ancs.length)
 have l2 : n2 <= 2000000 := by rw [<- e2]; exact hok.1.2.1
 have l3 : n3 <= 2000000 := by rw [<- e3]; exact hok.1.2.2
 rw [e1] at EC
 rw [e2] at h2
 rw [e3] at h3
 rw [e1, e2, e3]
 have HX2 : Hid (ShS crlKd w (.slice a2 n2 c2) s.crls /\ s.crls.length = n2 /\ (∀ c ∈ s.crls, wtL c <= 1048576)) := ⟨h2, e2, fun c hc => (hok.2.2.1 c hc).1⟩
 have HX3 : Hid (ShS anKd w (.slice a3 n3 c3) s.ancs /\ s.ancs.length = n3) := ⟨h3, e3⟩
 clear h1 h2 h3 e1 e2 e3 hok
 go_enter Tryz.func52, Tryz.ntmps52
 go_upto_region 1 with fail
 go_cut [3] from 5 (fun s3 wx => ∃ (gA gC mC : Nat) (f1 : List Nat) (gP mP : Nat), s3 = .pointer (some ⟨gA, 0, none⟩) /\ Hid (KCo w wx #[.slice a1 n1 c1, .slice a2 n2 c2, .slice a3 n3 c3] gA (.slice (some ⟨gC, 0, none⟩) n1 mC) (.slice (some ⟨gP, 0, none⟩) n3 mP) s f1 gP))
 case first =>
  have HD : KSo w ((w.alloc (Obj.cells #[.slice a1 n1 c1, .slice a2 n2 c2, .slice a3 n3 c3] 33)).alloc (Obj.cells #[.slice none 0 0, .slice none 0 0, .slice none 0 0] 33)).drew #[.slice a1 n1 c1, .slice a2 n2 c2, .slice a3 n3 c3] := by
   have e0 : (w.alloc (Obj.cells #[.slice a1 n1 c1, .slice a2 n2 c2, .slice a3 n3 c3] 33)).heap.size = w.heap.size + 1 := Array.size_push _
   have hb := Blk.new (w.alloc (Obj.cells #[.slice a1 n1 c1, .slice a2 n2 c2, .slice a3 n3 c3] 33)) 33 #[.slice none 0 0, .slice none 0 0, .slice none 0 0]
   rw [e0] at hb
   exact KSo.below (W := (w.alloc (Obj.cells #[.slice a1 n1 c1, .slice a2 n2 c2, .slice a3 n3 c3] 33)).alloc (Obj.cells #[.slice none 0 0, .slice none 0 0, .slice none 0 0] 33)) ⟨((Below.refl _ _).alloc (Nat.le_refl _) _).alloc (by rw [e0]; omega) _, (Blk.new w _ _).alloc _, hb, by rw [size_alloc, e0]; omega⟩ (Below.refl _ _).drew
  refine wp_region_held_drew (S := fun W => KSo w W #[.slice a1 n1 c1, .slice a2 n2 c2, .slice a3 n3 c3]) (by kernel_rfl) HD (fun hHeld => ?_)
  generalize ((w.alloc (Obj.cells #[.slice a1 n1 c1, .slice a2 n2 c2, .slice a3 n3 c3] 33)).alloc (Obj.cells #[.slice none 0 0, .slice none 0 0, .slice none 0 0] 33)).drew = wd at HD hHeld |-
  have H0 : Hid (KSo w wd #[.slice a1 n1 c1, .slice a2 n2 c2, .slice a3 n3 c3]) := HD
  clear HD
  refine zT 0 5 ?_ rfl (by rfl) ?_ hHeld ?_
  rotate_left
  ·intro W hSw
   go_simp
   try with_reducible rfl
  try simp only [Act.put, zA, zB, zC]
  refine zT 1 6 ?_ rfl (by rfl) ?_ hHeld ?_
  rotate_left
  ·intro W hSw
   have l0 : W.cell? ⟨w.heap.size, 0, none⟩ = some (.slice a1 n1 c1) := hSw.2.1.cell 0
   have l2 : W.cell? ⟨w.heap.size, 2, none⟩ = some (.slice a3 n3 c3) := hSw.2.1.cell 2
   go_simp
   try with_reducible rfl
  try simp only [Act.put, zA, zB, zC]
  refine zT 4 9 ?_ rfl (by rfl) ?_ hHeld ?_
  rotate_left
  ·intro W hSw
   go_simp
   try with_reducible rfl
  try simp only [Act.put, zA, zB, zC]
  refine zT 5 10 ?_ rfl (by rfl) ?_ hHeld ?_
  rotate_left
  ·intro W hSw
   have l0 : W.cell? ⟨w.heap.size, 0, none⟩ = some (.slice a1 n1 c1) := hSw.2.1.cell 0
   have l2 : W.cell? ⟨w.heap.size, 2, none⟩ = some (.slice a3 n3 c3) := hSw.2.1.cell 2
   go_simp
   try with_reducible rfl
  try simp only [Act.put, zA, zB, zC]
  refine wpAnyH_ready (rs := [2, 3, 8]) (by kernel_rfl) (by simp) ?_
  refine AllReadyH.cons (o := ⟨some 7, _, _, _, _, _⟩) rfl (fun K hK => ?_) (AllReadyH.cons (o := ⟨some 8, _, _, _, _, _⟩) rfl (fun K hK => ?_) (AllReadyH.cons (o := ⟨some 3, _, _, _, _, _⟩) rfl (fun K hK => ?_) AllReadyH.nil))
  ·go_simp
   refine (EC.out _ hHeld.1).mono ?_
   rintro e y1 ⟨gC, mC, f1, rfl, ho, hb⟩
   have H1 : Hid (KSo w y1 #[.slice a1 n1 c1, .slice a2 n2 c2, .slice a3 n3 c3] /\ OwnS certKd y1 (w.heap.size + 1 + 1) (.slice (some ⟨gC, 0, none⟩) n1 mC) s.certs f1) := ⟨H0.out.below hb, ho.base H0.out.2.2.2⟩
   clear ho hb hHeld H0
   refine hK.out _ _ H1.out.1 (fun hHeld => ?_)
   clear hK K
   try simp only [Act.put, zA, zB, zC]
   refine wpAnyH_ready (rs := [3, 8]) (by kernel_rfl) (by simp) ?_
   refine AllReadyH.cons (o := ⟨some 8, _, _, _, _, _⟩) rfl (fun K hK => ?_) (AllReadyH.cons (o := ⟨some 3, _, _, _, _, _⟩) rfl (fun K hK => ?_) AllReadyH.nil)
   ·go_simp
    obtain ⟨y2, hY⟩ : ∃ Y, Y = y1.alloc (Obj.cells #[] 75) := ⟨_, rfl⟩
    rw [<- hY]
    have hb : Below y1.heap.size y1 y2 := by rw [hY]; exact (Below.refl _ _).alloc (Nat.le_refl _) _
    have H2a : Hid (KSo w y2 #[.slice a1 n1 c1, .slice a2 n2 c2, .slice a3 n3 c3] /\ OwnS certKd y2 (w.heap.size + 1 + 1) (.slice (some ⟨gC, 0, none⟩) n1 mC) s.certs f1 /\ (y2.ownsRow (w.heap.size + 1 + 1) 75 2 (.slice (some ⟨y1.heap.size, 0, none⟩) 0 0) 0 [] /\ y1.heap.size < y2.heap.size) /\ y1.heap.size ∉ f1) := ⟨H1.out.1.below hb, H1.out.2.stays hb, ⟨by rw [hY]; exact World.ownsRow_made y1 #[] 0 H1.out.1.2.2.2 (Nat.zero_le _) (by simp), by rw [hY, size_alloc]; omega⟩, (fun hm => by have g1 := (H1.out.2.lt _ hm).2; omega)⟩
    obtain ⟨gB, hg⟩ := zE (y1.heap.size)
    rw [hg] at H2a |-
    have H2 : Hid (KSo w y2 #[.slice a1 n1 c1, .slice a2 n2 c2, .slice a3 n3 c3] /\ OwnS certKd y2 (w.heap.size + 1 + 1) (.slice (some ⟨gC, 0, none⟩) n1 mC) s.certs f1 /\ (y2.ownsRow (w.heap.size + 1 + 1) 75 2 (.slice (some ⟨gB, 0, none⟩) 0 0) 0 [] /\ gB < y2.heap.size) /\ gB ∉ f1) := H2a.out
    clear hY hb hg hHeld H1 H2a
    refine hK.out _ _ H2.out.1 (fun hHeld => ?_)
    clear hK K
    try simp only [Act.put, zA, zB, zC]
    refine wpAnyH_ready (rs := [6, 8]) (by kernel_rfl) (by simp) ?_
    refine AllReadyH.cons (o := ⟨some 11, _, _, _, _, _⟩) rfl (fun K hK => ?_) (AllReadyH.cons (o := ⟨some 3, _, _, _, _, _⟩) rfl (fun K hK => ?_) AllReadyH.nil)
    ·refine step_app_an (o := ⟨some 11, _, _, _, _, _⟩) rfl (.tmp 8) (.tmp 10) rfl (w.heap.size + 1 + 1) gB (by rfl) H2.out.2.2.1.1 (.slice a3 n3 c3) s.ancs (by rfl) (HX3.out.1.below (H2.out.1.1)) n3 HX3.out.2 (by omega) H2.out.1.2.2.2 ?_
     intro gP mP y3 hop hgp hgrow
     have H3 : Hid (KSo w y3 #[.slice a1 n1 c1, .slice a2 n2 c2, .slice a3 n3 c3] /\ OwnS certKd y3 (w.heap.size + 1 + 1) (.slice (some ⟨gC, 0, none⟩) n1 mC) s.certs f1 /\ (OwnS anKd y3 (w.heap.size + 1 + 1) (.slice (some ⟨gP, 0, none⟩) n3 mP) s.ancs [gP] /\ gP < y3.heap.size) /\ gP ∉ f1) := ⟨H2.out.1.grown hgrow (fun q e => by have e2 := Option.some.inj e; have := (H2.out.2.2.1.1.lt gB rfl).1; omega), H2.out.2.1.same (fun b hb => hgrow.block b (H2.out.2.1.lt b hb).2 (fun e => by have e2 := (Option.some.inj e); subst e2; exact H2.out.2.2.2 hb)), ⟨hop, hop.lt gP (by simp) |>.2⟩, (fun hm => by rcases hgp with hgp | hgp; exact H2.out.2.2.2 (hgp ▸ hm); have := (H2.out.2.1.lt _ hm).2; omega)⟩
     clear hop hgp hgrow hHeld H2
     refine hK.out _ _ H3.out.1 (fun hHeld => ?_)
     clear hK K
     try simp only [Act.put, zA, zB, zC]
     refine zT 7 12 ?_ rfl (by rfl) ?_ hHeld ?_
     rotate_left
     ·intro W hSw
      go_simp
      try with_reducible rfl
     try simp only [Act.put, zA, zB, zC]
     refine wpAnyH_ready (rs := [8]) (by kernel_rfl) (by simp) ?_
     refine AllReadyH.cons (o := ⟨some 3, _, _, _, _, _⟩) rfl (fun K hK => ?_) AllReadyH.nil
     go_simp
     obtain ⟨y4, hY⟩ : ∃ Y, Y = y3.alloc (Obj.cells #[.slice none 0 0, .slice none 0 0, .slice none 0 0] 33) := ⟨_, rfl⟩
     rw [<- hY]
     have hb : Below y3.heap.size y3 y4 := by rw [hY]; exact (Below.refl _ _).alloc (Nat.le_refl _) _
     have H4a : Hid (KSo w y4 #[.slice a1 n1 c1, .slice a2 n2 c2, .slice a3 n3 c3] /\ OwnS certKd y4 (w.heap.size + 1 + 1) (.slice (some ⟨gC, 0, none⟩) n1 mC) s.certs f1 /\ (Blk y4 y3.heap.size 33 #[.slice none 0 0, .slice none 0 0, .slice none 0 0] /\ w.heap.size + 1 + 1 <= y3.heap.size) /\ (OwnS anKd y4 (w.heap.size + 1 + 1) (.slice (some ⟨gP, 0, none⟩) n3 mP) s.ancs [gP] /\ gP < y4.heap.size) /\ y3.heap.size ∉ f1 /\ gP ∉ f1 /\ y3.heap.size ≠ gP) := ⟨H3.out.1.below hb, H3.out.2.1.stays hb, ⟨by rw [hY]; exact Blk.new y3 _ _, H3.out.1.2.2.2⟩, ⟨H3.out.2.2.1.1.stays hb, Nat.lt_of_lt_of_le H3.out.2.2.1.2 hb.size⟩, (fun hm => by have g1 := (H3.out.2.1.lt _ hm).2; omega), H3.out.2.2.2, (fun e => by have g1 := H3.out.2.2.1.2; omega)⟩
     obtain ⟨gA, hg⟩ := zE (y3.heap.size)
     rw [hg] at H4a |-
     have H4 : Hid (KSo w y4 #[.slice a1 n1 c1, .slice a2 n2 c2, .slice a3 n3 c3] /\ OwnS certKd y4 (w.heap.size + 1 + 1) (.slice (some ⟨gC, 0, none⟩) n1 mC) s.certs f1 /\ (Blk y4 gA 33 #[.slice none 0 0, .slice none 0 0, .slice none 0 0] /\ w.heap.size + 1 + 1 <= gA) /\ (OwnS anKd y4 (w.heap.size + 1 + 1) (.slice (some ⟨gP, 0, none⟩) n3 mP) s.ancs [gP] /\ gP < y4.heap.size) /\ gA ∉ f1 /\ gP ∉ f1 /\ gA ≠ gP) := H4a.out
     clear hY hb hg hHeld H3 H4a
     refine hK.out _ _ H4.out.1 (fun hHeld => ?_)
     clear hK K
     try simp only [Act.put, zA, zB, zC]
     refine wpAnyH_ready (rs := [9]) (by kernel_rfl) (by simp) ?_
     refine AllReadyH.cons (o := ⟨none, _, _, _, _, _⟩) rfl (fun K hK => ?_) AllReadyH.nil
     have z0 : y4.cell? ⟨gA, 0, none⟩ = some (.slice none 0 0) := H4.out.2.2.1.1.cell 0
     have z1 : y4.cell? ⟨gA, 1, none⟩ = some (.slice none 0 0) := H4.out.2.2.1.1.cell 1
     have z2 : y4.cell? ⟨gA, 2, none⟩ = some (.slice none 0 0) := H4.out.2.2.1.1.cell 2
     have zf := fun i => H4.out.2.2.1.1.free i
     go_simp
     obtain ⟨Y, hY⟩ : ∃ Y, Y = ((y4.setCell ⟨gA, 0, none⟩ (.slice (some ⟨gC, 0, none⟩) n1 mC)).setCell ⟨gA, 1, none⟩ (.slice none 0 0)).setCell ⟨gA, 2, none⟩ (.slice (some ⟨gP, 0, none⟩) n3 mP) := ⟨_, rfl⟩
     have HY : Hid (KCo w Y #[.slice a1 n1 c1, .slice a2 n2 c2, .slice a3 n3 c3] gA (.slice (some ⟨gC, 0, none⟩) n1 mC) (.slice (some ⟨gP, 0, none⟩) n3 mP) s f1 gP) := by
      rw [hY]
      exact KCo.mk H4.out.1 H4.out.2.2.1.1 H4.out.2.2.1.2 H4.out.2.1 H4.out.2.2.2.1.1 H4.out.2.2.2.2.1 H4.out.2.2.2.2.2.2 H4.out.2.2.2.2.2.1
     rw [<- hY]
     clear hY z0 z1 z2 zf H4
     refine hK.out _ _ HY.out.1 (fun hHeld => ?_)
     clear hK K hHeld
     refine wpAnyH_done (by kernel_rfl) ?_ _
     go_wp2_with fail
     go_meet
     exact ⟨gA, gC, mC, f1, gP, mP, rfl, HY⟩
    ·go_simp
     obtain ⟨y5, hY⟩ : ∃ Y, Y = y2.alloc (Obj.cells #[.slice none 0 0, .slice none 0 0, .slice none 0 0] 33) := ⟨_, rfl⟩
     rw [<- hY]
     have hb : Below y2.heap.size y2 y5 := by rw [hY]; exact (Below.refl _ _).alloc (Nat.le_refl _) _
     have H5a : Hid (KSo w y5 #[.slice a1 n1 c1, .slice a2 n2 c2, .slice a3 n3 c3] /\ OwnS certKd y5 (w.heap.size + 1 + 1) (.slice (some ⟨gC, 0, none⟩) n1 mC) s.certs f1 /\ (Blk y5 y2.heap.size 33 #[.slice none 0 0, .slice none 0 0, .slice none 0 0] /\ w.heap.size + 1 + 1 <= y2.heap.size) /\ (y5.ownsRow (w.heap.size + 1 + 1) 75 2 (.slice (some ⟨gB, 0, none⟩) 0 0) 0 [] /\ gB < y5.heap.size) /\ y2.heap.size ∉ f1 /\ gB ∉ f1 /\ y2.heap.size ≠ gB) := ⟨H2.out.1.below hb, H2.out.2.1.stays hb, ⟨by rw [hY]; exact Blk.new y2 _ _, H2.out.1.2.2.2⟩, ⟨own_kept H2.out.2.2.1.1 hb, Nat.lt_of_lt_of_le H2.out.2.2.1.2 hb.size⟩, (fun hm => by have g1 := (H2.out.2.1.lt _ hm).2; omega), H2.out.2.2.2, (fun e => by have g1 := H2.out.2.2.1.2; omega)⟩
     obtain ⟨gA, hg⟩ := zE (y2.heap.size)
     rw [hg] at H5a |-
     have H5 : Hid (KSo w y5 #[.slice a1 n1 c1, .slice a2 n2 c2, .slice a3 n3 c3] /\ OwnS certKd y5 (w.heap.size + 1 + 1) (.slice (some ⟨gC, 0, none⟩) n1 mC) s.certs f1 /\ (Blk y5 gA 33 #[.slice none 0 0, .slice none 0 0, .slice none 0 0] /\ w.heap.size + 1 + 1 <= gA) /\ (y5.ownsRow (w.heap.size + 1 + 1) 75 2 (.slice (some ⟨gB, 0, none⟩) 0 0) 0 [] /\ gB < y5.heap.size) /\ gA ∉ f1 /\ gB ∉ f1 /\ gA ≠ gB) := H5a.out
     clear hY hb hg hHeld H2 H5a
     refine hK.out _ _ H5.out.1 (fun hHeld => ?_)
     clear hK K
     try simp only [Act.put, zA, zB, zC]
     refine wpAnyH_ready (rs := [6]) (by kernel_rfl) (by simp) ?_
     refine AllReadyH.cons (o := ⟨some 11, _, _, _, _, _⟩) rfl (fun K hK => ?_) AllReadyH.nil
     refine step_app_an (o := ⟨some 11, _, _, _, _, _⟩) rfl (.tmp 8) (.tmp 10) rfl (w.heap.size + 1 + 1) gB (by rfl) H5.out.2.2.2.1.1 (.slice a3 n3 c3) s.ancs (by rfl) (HX3.out.1.below (H5.out.1.1)) n3 HX3.out.2 (by omega) H5.out.1.2.2.2 ?_
     intro gP mP y6 hop hgp hgrow
     have H6 : Hid (KSo w y6 #[.slice a1 n1 c1, .slice a2 n2 c2, .slice a3 n3 c3] /\ OwnS certKd y6 (w.heap.size + 1 + 1) (.slice (some ⟨gC, 0, none⟩) n1 mC) s.certs f1 /\ (Blk y6 gA 33 #[.slice none 0 0, .slice none 0 0, .slice none 0 0] /\ w.heap.size + 1 + 1 <= gA) /\ (OwnS anKd y6 (w.heap.size + 1 + 1) (.slice (some ⟨gP, 0, none⟩) n3 mP) s.ancs [gP] /\ gP < y6.heap.size) /\ gA ∉ f1 /\ gP ∉ f1 /\ gA ≠ gP) := ⟨H5.out.1.grown hgrow (fun q e => by have e2 := Option.some.inj e; have := (H5.out.2.2.2.1.1.lt gB rfl).1; omega), H5.out.2.1.same (fun b hb => hgrow.block b (H5.out.2.1.lt b hb).2 (fun e => by have e2 := (Option.some.inj e); subst e2; exact H5.out.2.2.2.2.2.1 hb)), ⟨(hgrow.block _ H5.out.2.2.1.1.lt (fun e => H5.out.2.2.2.2.2.2 (Option.some.inj e))).trans H5.out.2.2.1.1, H5.out.2.2.1.2⟩, ⟨hop, hop.lt gP (by simp) |>.2⟩, H5.out.2.2.2.2.1, (fun hm => by rcases hgp with hgp | hgp; exact H5.out.2.2.2.2.2.1 (hgp ▸ hm); have := (H5.out.2.1.lt _ hm).2; omega), (fun e => by rcases hgp with hgp | hgp; exact H5.out.2.2.2.2.2.2 (e.trans hgp); have := H5.out.2.2.1.1.lt; omega)⟩
     clear hop hgp hgrow hHeld H5
     refine hK.out _ _ H6.out.1 (fun hHeld => ?_)
     clear hK K
     try simp only [Act.put, zA, zB, zC]
     refine zT 7 12 ?_ rfl (by rfl) ?_ hHeld ?_
     rotate_left
     ·intro W hSw
      go_simp
      try with_reducible rfl
     try simp only [Act.put, zA, zB, zC]
     refine wpAnyH_ready (rs := [9]) (by kernel_rfl) (by simp) ?_
     refine AllReadyH.cons (o := ⟨none, _, _, _, _, _⟩) rfl (fun K hK => ?_) AllReadyH.nil
     have z0 : y6.cell? ⟨gA, 0, none⟩ = some (.slice none 0 0) := H6.out.2.2.1.1.cell 0
     have z1 : y6.cell? ⟨gA, 1, none⟩ = some (.slice none 0 0) := H6.out.2.2.1.1.cell 1
     have z2 : y6.cell? ⟨gA, 2, none⟩ = some (.slice none 0 0) := H6.out.2.2.1.1.cell 2
     have zf := fun i => H6.out.2.2.1.1.free i
     go_simp
     obtain ⟨Y, hY⟩ : ∃ Y, Y = ((y6.setCell ⟨gA, 0, none⟩ (.slice (some ⟨gC, 0, none⟩) n1 mC)).setCell ⟨gA, 1, none⟩ (.slice none 0 0)).setCell ⟨gA, 2, none⟩ (.slice (some ⟨gP, 0, none⟩) n3 mP) := ⟨_, rfl⟩
     have HY : Hid (KCo w Y #[.slice a1 n1 c1, .slice a2 n2 c2, .slice a3 n3 c3] gA (.slice (some ⟨gC, 0, none⟩) n1 mC) (.slice (some ⟨gP, 0, none⟩) n3 mP) s f1 gP) := by
      rw [hY]
      exact KCo.mk H6.out.1 H6.out.2.2.1.1 H6.out.2.2.1.2 H6.out.2.1 H6.out.2.2.2.1.1 H6.out.2.2.2.2.1 H6.out.2.2.2.2.2.2 H6.out.2.2.2.2.2.1
     rw [<- hY]
     clear hY z0 z1 z2 zf H6
     refine hK.out _ _ HY.out.1 (fun hHeld => ?_)
     clear hK K hHeld
     refine wpAnyH_done (by kernel_rfl) ?_ _
     go_wp2_with fail
     go_meet
     exact ⟨gA, gC, mC, f1, gP, mP, rfl, HY⟩
   ·go_simp
    obtain ⟨y7, hY⟩ : ∃ Y, Y = y1.alloc (Obj.cells #[.slice none 0 0, .slice none 0 0, .slice none 0 0] 33) := ⟨_, rfl⟩
    rw [<- hY]
    have hb : Below y1.heap.size y1 y7 := by rw [hY]; exact (Below.refl _ _).alloc (Nat.le_refl _) _
    have H7a : Hid (KSo w y7 #[.slice a1 n1 c1, .slice a2 n2 c2, .slice a3 n3 c3] /\ OwnS certKd y7 (w.heap.size + 1 + 1) (.slice (some ⟨gC, 0, none⟩) n1 mC) s.certs f1 /\ (Blk y7 y1.heap.size 33 #[.slice none 0 0, .slice none 0 0, .slice none 0 0] /\ w.heap.size + 1 + 1 <= y1.heap.size) /\ y1.heap.size ∉ f1) := ⟨H1.out.1.below hb, H1.out.2.stays hb, ⟨by rw [hY]; exact Blk.new y1 _ _, H1.out.1.2.2.2⟩, (fun hm => by have g1 := (H1.out.2.lt _ hm).2; omega)⟩
    obtain ⟨gA, hg⟩ := zE (y1.heap.size)
    rw [hg] at H7a |-
    have H7 : Hid (KSo w y7 #[.slice a1 n1 c1, .slice a2 n2 c2, .slice a3 n3 c3] /\ OwnS certKd y7 (w.heap.size + 1 + 1) (.slice (some ⟨gC, 0, none⟩) n1 mC) s.certs f1 /\ (Blk y7 gA 33 #[.slice none 0 0, .slice none 0 0, .slice none 0 0] /\ w.heap.size + 1 + 1 <= gA) /\ gA ∉ f1) := H7a.out
    clear hY hb hg hHeld H1 H7a
    refine hK.out _ _ H7.out.1 (fun hHeld => ?_)
    clear hK K
    try simp only [Act.put, zA, zB, zC]
    refine wpAnyH_ready (rs := [3]) (by kernel_rfl) (by simp) ?_
    refine AllReadyH.cons (o := ⟨some 8, _, _, _, _, _⟩) rfl (fun K hK => ?_) AllReadyH.nil
    go_simp
    obtain ⟨y8, hY⟩ : ∃ Y, Y = y7.alloc (Obj.cells #[] 75) := ⟨_, rfl⟩
    rw [<- hY]
    have hb : Below y7.heap.size y7 y8 := by rw [hY]; exact (Below.refl _ _).alloc (Nat.le_refl _) _
    have H8a : Hid (KSo w y8 #[.slice a1 n1 c1, .slice a2 n2 c2, .slice a3 n3 c3] /\ OwnS certKd y8 (w.heap.size + 1 + 1) (.slice (some ⟨gC, 0, none⟩) n1 mC) s.certs f1 /\ (Blk y8 gA 33 #[.slice none 0 0, .slice none 0 0, .slice none 0 0] /\ w.heap.size + 1 + 1 <= gA) /\ (y8.ownsRow (w.heap.size + 1 + 1) 75 2 (.slice (some ⟨y7.heap.size, 0, none⟩) 0 0) 0 [] /\ y7.heap.size < y8.heap.size) /\ gA ∉ f1 /\ y7.heap.size ∉ f1 /\ gA ≠ y7.heap.size) := ⟨H7.out.1.below hb, H7.out.2.1.stays hb, ⟨H7.out.2.2.1.1.below hb H7.out.2.2.1.1.lt, H7.out.2.2.1.2⟩, ⟨by rw [hY]; exact World.ownsRow_made y7 #[] 0 H7.out.1.2.2.2 (Nat.zero_le _) (by simp), by rw [hY, size_alloc]; omega⟩, H7.out.2.2.2, (fun hm => by have g1 := (H7.out.2.1.lt _ hm).2; omega), (fun e => by have g1 := H7.out.2.2.1.1.lt; omega)⟩
    obtain ⟨gB, hg⟩ := zE (y7.heap.size)
    rw [hg] at H8a |-
    have H8 : Hid (KSo w y8 #[.slice a1 n1 c1, .slice a2 n2 c2, .slice a3 n3 c3] /\ OwnS certKd y8 (w.heap.size + 1 + 1) (.slice (some ⟨gC, 0, none⟩) n1 mC) s.certs f1 /\ (Blk y8 gA 33 #[.slice none 0 0, .slice none 0 0, .slice none 0 0] /\ w.heap.size + 1 + 1 <= gA) /\ (y8.ownsRow (w.heap.size + 1 + 1) 75 2 (.slice (some ⟨gB, 0, none⟩) 0 0) 0 [] /\ gB < y8.heap.size) /\ gA ∉ f1 /\ gB ∉ f1 /\ gA ≠ gB) := H8a.out
    clear hY hb hg hHeld H7 H8a
    refine hK.out _ _ H8.out.1 (fun hHeld => ?_)
    clear hK K
    try simp only [Act.put, zA, zB, zC]
    refine wpAnyH_ready (rs := [6]) (by kernel_rfl) (by simp) ?_
    refine AllReadyH.cons (o := ⟨some 11, _, _, _, _, _⟩) rfl (fun K hK => ?_) AllReadyH.nil
    refine step_app_an (o := ⟨some 11, _, _, _, _, _⟩) rfl (.tmp 8) (.tmp 10) rfl (w.heap.size + 1 + 1) gB (by rfl) H8.out.2.2.2.1.1 (.slice a3 n3 c3) s.ancs (by rfl) (HX3.out.1.below (H8.out.1.1)) n3 HX3.out.2 (by omega) H8.out.1.2.2.2 ?_
    intro gP mP y9 hop hgp hgrow
    have H9 : Hid (KSo w y9 #[.slice a1 n1 c1, .slice a2 n2 c2, .slice a3 n3 c3] /\ OwnS certKd y9 (w.heap.size + 1 + 1) (.slice (some ⟨gC, 0, none⟩) n1 mC) s.certs f1 /\ (Blk y9 gA 33 #[.slice none 0 0, .slice none 0 0, .slice none 0 0] /\ w.heap.size + 1 + 1 <= gA) /\ (OwnS anKd y9 (w.heap.size + 1 + 1) (.slice (some ⟨gP, 0, none⟩) n3 mP) s.ancs [gP] /\ gP < y9.heap.size) /\ gA ∉ f1 /\ gP ∉ f1 /\ gA ≠ gP) := ⟨H8.out.1.grown hgrow (fun q e => by have e2 := Option.some.inj e; have := (H8.out.2.2.2.1.1.lt gB rfl).1; omega), H8.out.2.1.same (fun b hb => hgrow.block b (H8.out.2.1.lt b hb).2 (fun e => by have e2 := (Option.some.inj e); subst e2; exact H8.out.2.2.2.2.2.1 hb)), ⟨(hgrow.block _ H8.out.2.2.1.1.lt (fun e => H8.out.2.2.2.2.2.2 (Option.some.inj e))).trans H8.out.2.2.1.1, H8.out.2.2.1.2⟩, ⟨hop, hop.lt gP (by simp) |>.2⟩, H8.out.2.2.2.2.1, (fun hm => by rcases hgp with hgp | hgp; exact H8.out.2.2.2.2.2.1 (hgp ▸ hm); have := (H8.out.2.1.lt _ hm).2; omega), (fun e => by rcases hgp with hgp | hgp; exact H8.out.2.2.2.2.2.2 (e.trans hgp); have := H8.out.2.2.1.1.lt; omega)⟩
    clear hop hgp hgrow hHeld H8
    refine hK.out _ _ H9.out.1 (fun hHeld => ?_)
    clear hK K
    try simp only [Act.put, zA, zB, zC]
    refine zT 7 12 ?_ rfl (by rfl) ?_ hHeld ?_
    rotate_left
    ·intro W hSw
     go_simp
     try with_reducible rfl
    try simp only [Act.put, zA, zB, zC]
    refine wpAnyH_ready (rs := [9]) (by kernel_rfl) (by simp) ?_
    refine AllReadyH.cons (o := ⟨none, _, _, _, _, _⟩) rfl (fun K hK => ?_) AllReadyH.nil
    have z0 : y9.cell? ⟨gA, 0, none⟩ = some (.slice none 0 0) := H9.out.2.2.1.1.cell 0
    have z1 : y9.cell? ⟨gA, 1, none⟩ = some (.slice none 0 0) := H9.out.2.2.1.1.cell 1
    have z2 : y9.cell? ⟨gA, 2, none⟩ = some (.slice none 0 0) := H9.out.2.2.1.1.cell 2
    have zf := fun i => H9.out.2.2.1.1.free i
    go_simp
    obtain ⟨Y, hY⟩ : ∃ Y, Y = ((y9.setCell ⟨gA, 0, none⟩ (.slice (some ⟨gC, 0, none⟩) n1 mC)).setCell ⟨gA, 1, none⟩ (.slice none 0 0)).setCell ⟨gA, 2, none⟩ (.slice (some ⟨gP, 0, none⟩) n3 mP) := ⟨_, rfl⟩
    have HY : Hid (KCo w Y #[.slice a1 n1 c1, .slice a2 n2 c2, .slice a3 n3 c3] gA (.slice (some ⟨gC, 0, none⟩) n1 mC) (.slice (some ⟨gP, 0, none⟩) n3 mP) s f1 gP) := by
     rw [hY]
     exact KCo.mk H9.out.1 H9.out.2.2.1.1 H9.out.2.2.1.2 H9.out.2.1 H9.out.2.2.2.1.1 H9.out.2.2.2.2.1 H9.out.2.2.2.2.2.2 H9.out.2.2.2.2.2.1
    rw [<- hY]
    clear hY z0 z1 z2 zf H9
    refine hK.out _ _ HY.out.1 (fun hHeld => ?_)
    clear hK K hHeld
    refine wpAnyH_done (by kernel_rfl) ?_ _
    go_wp2_with fail
    go_meet
    exact ⟨gA, gC, mC, f1, gP, mP, rfl, HY⟩
  ·go_simp
   obtain ⟨y10, hY⟩ : ∃ Y, Y = wd.alloc (Obj.cells #[] 75) := ⟨_, rfl⟩
   rw [<- hY]
   have hb : Below wd.heap.size wd y10 := by rw [hY]; exact (Below.refl _ _).alloc (Nat.le_refl _) _
   have H10a : Hid (KSo w y10 #[.slice a1 n1 c1, .slice a2 n2 c2, .slice a3 n3 c3] /\ (y10.ownsRow (w.heap.size + 1 + 1) 75 2 (.slice (some ⟨wd.heap.size, 0, none⟩) 0 0) 0 [] /\ wd.heap.size < y10.heap.size)) := ⟨H0.out.below hb, ⟨by rw [hY]; exact World.ownsRow_made wd #[] 0 H0.out.2.2.2 (Nat.zero_le _) (by simp), by rw [hY, size_alloc]; omega⟩⟩
   obtain ⟨gB, hg⟩ := zE (wd.heap.size)
   rw [hg] at H10a |-
   have H10 : Hid (KSo w y10 #[.slice a1 n1 c1, .slice a2 n2 c2, .slice a3 n3 c3] /\ (y10.ownsRow (w.heap.size + 1 + 1) 75 2 (.slice (some ⟨gB, 0, none⟩) 0 0) 0 [] /\ gB < y10.heap.size)) := H10a.out
   clear hY hb hg hHeld H0 H10a
   refine hK.out _ _ H10.out.1 (fun hHeld => ?_)
   clear hK K
   try simp only [Act.put, zA, zB, zC]
   refine wpAnyH_ready (rs := [2, 8]) (by kernel_rfl) (by simp) ?_
   refine AllReadyH.cons (o := ⟨some 7, _, _, _, _, _⟩) rfl (fun K hK => ?_) (AllReadyH.cons (o := ⟨some 3, _, _, _, _, _⟩) rfl (fun K hK => ?_) AllReadyH.nil)
   ·go_simp
    refine (EC.out _ hHeld.1).mono ?_
    rintro e y11 ⟨gC, mC, f1, rfl, ho, hb⟩
    have H11 : Hid (KSo w y11 #[.slice a1 n1 c1, .slice a2 n2 c2, .slice a3 n3 c3] /\ OwnS certKd y11 (w.heap.size + 1 + 1) (.slice (some ⟨gC, 0, none⟩) n1 mC) s.certs f1 /\ (y11.ownsRow (w.heap.size + 1 + 1) 75 2 (.slice (some ⟨gB, 0, none⟩) 0 0) 0 [] /\ gB < y11.heap.size) /\ gB ∉ f1) := ⟨H10.out.1.below hb, ho.base H10.out.1.2.2.2, ⟨own_kept H10.out.2.1 hb, Nat.lt_of_lt_of_le H10.out.2.2 hb.size⟩, (fun hm => by have g1 := (ho.lt _ hm).1; have g2 := H10.out.2.2; omega)⟩
    clear ho hb hHeld H10
    refine hK.out _ _ H11.out.1 (fun hHeld => ?_)
    clear hK K
    try simp only [Act.put, zA, zB, zC]
    refine wpAnyH_ready (rs := [6, 8]) (by kernel_rfl) (by simp) ?_
    refine AllReadyH.cons (o := ⟨some 11, _, _, _, _, _⟩) rfl (fun K hK => ?_) (AllReadyH.cons (o := ⟨some 3, _, _, _, _, _⟩) rfl (fun K hK => ?_) AllReadyH.nil)
    ·refine step_app_an (o := ⟨some 11, _, _, _, _, _⟩) rfl (.tmp 8) (.tmp 10) rfl (w.heap.size + 1 + 1) gB (by rfl) H11.out.2.2.1.1 (.slice a3 n3 c3) s.ancs (by rfl) (HX3.out.1.below (H11.out.1.1)) n3 HX3.out.2 (by omega) H11.out.1.2.2.2 ?_
     intro gP mP y12 hop hgp hgrow
     have H12 : Hid (KSo w y12 #[.slice a1 n1 c1, .slice a2 n2 c2, .slice a3 n3 c3] /\ OwnS certKd y12 (w.heap.size + 1 + 1) (.slice (some ⟨gC, 0, none⟩) n1 mC) s.certs f1 /\ (OwnS anKd y12 (w.heap.size + 1 + 1) (.slice (some ⟨gP, 0, none⟩) n3 mP) s.ancs [gP] /\ gP < y12.heap.size) /\ gP ∉ f1) := ⟨H11.out.1.grown hgrow (fun q e => by have e2 := Option.some.inj e; have := (H11.out.2.2.1.1.lt gB rfl).1; omega), H11.out.2.1.same (fun b hb => hgrow.block b (H11.out.2.1.lt b hb).2 (fun e => by have e2 := (Option.some.inj e); subst e2; exact H11.out.2.2.2 hb)), ⟨hop, hop.lt gP (by simp) |>.2⟩, (fun hm => by rcases hgp with hgp | hgp; exact H11.out.2.2.2 (hgp ▸ hm); have := (H11.out.2.1.lt _ hm).2; omega)⟩
     clear hop hgp hgrow hHeld H11
     refine hK.out _ _ H12.out.1 (fun hHeld => ?_)
     clear hK K
     try simp only [Act.put, zA, zB, zC]
     refine zT 7 12 ?_ rfl (by rfl) ?_ hHeld ?_
     rotate_left
     ·intro W hSw
      go_simp
      try with_reducible rfl
     try simp only [Act.put, zA, zB, zC]
     refine wpAnyH_ready (rs := [8]) (by kernel_rfl) (by simp) ?_
     refine AllReadyH.cons (o := ⟨some 3, _, _, _, _, _⟩) rfl (fun K hK => ?_) AllReadyH.nil
     go_simp
     obtain ⟨y13, hY⟩ : ∃ Y, Y = y12.alloc (Obj.cells #[.slice none 0 0, .slice none 0 0, .slice none 0 0] 33) := ⟨_, rfl⟩
     rw [<- hY]
     have hb : Below y12.heap.size y12 y13 := by rw [hY]; exact (Below.refl _ _).alloc (Nat.le_refl _) _
     have H13a : Hid (KSo w y13 #[.slice a1 n1 c1, .slice a2 n2 c2, .slice a3 n3 c3] /\ OwnS certKd y13 (w.heap.size + 1 + 1) (.slice (some ⟨gC, 0, none⟩) n1 mC) s.certs f1 /\ (Blk y13 y12.heap.size 33 #[.slice none 0 0, .slice none 0 0, .slice none 0 0] /\ w.heap.size + 1 + 1 <= y12.heap.size) /\ (OwnS anKd y13 (w.heap.size + 1 + 1) (.slice (some ⟨gP, 0, none⟩) n3 mP) s.ancs [gP] /\ gP < y13.heap.size) /\ y12.heap.size ∉ f1 /\ gP ∉ f1 /\ y12.heap.size ≠ gP) := ⟨H12.out.1.below hb, H12.out.2.1.stays hb, ⟨by rw [hY]; exact Blk.new y12 _ _, H12.out.1.2.2.2⟩, ⟨H12.out.2.2.1.1.stays hb, Nat.lt_of_lt_of_le H12.out.2.2.1.2 hb.size⟩, (fun hm => by have g1 := (H12.out.2.1.lt _ hm).2; omega), H12.out.2.2.2, (fun e => by have g1 := H12.out.2.2.1.2; omega)⟩
     obtain ⟨gA, hg⟩ := zE (y12.heap.size)
     rw [hg] at H13a |-
     have H13 : Hid (KSo w y13 #[.slice a1 n1 c1, .slice a2 n2 c2, .slice a3 n3 c3] /\ OwnS certKd y13 (w.heap.size + 1 + 1) (.slice (some ⟨gC, 0, none⟩) n1 mC) s.certs f1 /\ (Blk y13 gA 33 #[.slice none 0 0, .slice none 0 0, .slice none 0 0] /\ w.heap.size + 1 + 1 <= gA) /\ (OwnS anKd y13 (w.heap.size + 1 + 1) (.slice (some ⟨gP, 0, none⟩) n3 mP) s.ancs [gP] /\ gP < y13.heap.size) /\ gA ∉ f1 /\ gP ∉ f1 /\ gA ≠ gP) := H13a.out
     clear hY hb hg hHeld H12 H13a
     refine hK.out _ _ H13.out.1 (fun hHeld => ?_)
     clear hK K
     try simp only [Act.put, zA, zB, zC]
     refine wpAnyH_ready (rs := [9]) (by kernel_rfl) (by simp) ?_
     refine AllReadyH.cons (o := ⟨none, _, _, _, _, _⟩) rfl (fun K hK => ?_) AllReadyH.nil
     have z0 : y13.cell? ⟨gA, 0, none⟩ = some (.slice none 0 0) := H13.out.2.2.1.1.cell 0
     have z1 : y13.cell? ⟨gA, 1, none⟩ = some (.slice none 0 0) := H13.out.2.2.1.1.cell 1
     have z2 : y13.cell? ⟨gA, 2, none⟩ = some (.slice none 0 0) := H13.out.2.2.1.1.cell 2
     have zf := fun i => H13.out.2.2.1.1.free i
     go_simp
     obtain ⟨Y, hY⟩ : ∃ Y, Y = ((y13.setCell ⟨gA, 0, none⟩ (.slice (some ⟨gC, 0, none⟩) n1 mC)).setCell ⟨gA, 1, none⟩ (.slice none 0 0)).setCell ⟨gA, 2, none⟩ (.slice (some ⟨gP, 0, none⟩) n3 mP) := ⟨_, rfl⟩
     have HY : Hid (KCo w Y #[.slice a1 n1 c1, .slice a2 n2 c2, .slice a3 n3 c3] gA (.slice (some ⟨gC, 0, none⟩) n1 mC) (.slice (some ⟨gP, 0, none⟩) n3 mP) s f1 gP) := by
      rw [hY]
      exact KCo.mk H13.out.1 H13.out.2.2.1.1 H13.out.2.2.1.2 H13.out.2.1 H13.out.2.2.2.1.1 H13.out.2.2.2.2.1 H13.out.2.2.2.2.2.2 H13.out.2.2.2.2.2.1
     rw [<- hY]
     clear hY z0 z1 z2 zf H13
     refine hK.out _ _ HY.out.1 (fun hHeld => ?_)
     clear hK K hHeld
     refine wpAnyH_done (by kernel_rfl) ?_ _
     go_wp2_with fail
     go_meet
     exact ⟨gA, gC, mC, f1, gP, mP, rfl, HY⟩
    ·go_simp
     obtain ⟨y14, hY⟩ : ∃ Y, Y = y11.alloc (Obj.cells #[.slice none 0 0, .slice none 0 0, .slice none 0 0] 33) := ⟨_, rfl⟩
     rw [<- hY]
     have hb : Below y11.heap.size y11 y14 := by rw [hY]; exact (Below.refl _ _).alloc (Nat.le_refl _) _
     have H14a : Hid (KSo w y14 #[.slice a1 n1 c1, .slice a2 n2 c2, .slice a3 n3 c3] /\ OwnS certKd y14 (w.heap.size + 1 + 1) (.slice (some ⟨gC, 0, none⟩) n1 mC) s.certs f1 /\ (Blk y14 y11.heap.size 33 #[.slice none 0 0, .slice none 0 0, .slice none 0 0] /\ w.heap.size + 1 + 1 <= y11.heap.size) /\ (y14.ownsRow (w.heap.size + 1 + 1) 75 2 (.slice (some ⟨gB, 0, none⟩) 0 0) 0 [] /\ gB < y14.heap.size) /\ y11.heap.size ∉ f1 /\ gB ∉ f1 /\ y11.heap.size ≠ gB) := ⟨H11.out.1.below hb, H11.out.2.1.stays hb, ⟨by rw [hY]; exact Blk.new y11 _ _, H11.out.1.2.2.2⟩, ⟨own_kept H11.out.2.2.1.1 hb, Nat.lt_of_lt_of_le H11.out.2.2.1.2 hb.size⟩, (fun hm => by have g1 := (H11.out.2.1.lt _ hm).2; omega), H11.out.2.2.2, (fun e => by have g1 := H11.out.2.2.1.2; omega)⟩
     obtain ⟨gA, hg⟩ := zE (y11.heap.size)
     rw [hg] at H14a |-
     have H14 : Hid (KSo w y14 #[.slice a1 n1 c1, .slice a2 n2 c2, .slice a3 n3 c3] /\ OwnS certKd y14 (w.heap.size + 1 + 1) (.slice (some ⟨gC, 0, none⟩) n1 mC) s.certs f1 /\ (Blk y14 gA 33 #[.slice none 0 0, .slice none 0 0, .slice none 0 0] /\ w.heap.size + 1 + 1 <= gA) /\ (y14.ownsRow (w.heap.size + 1 + 1) 75 2 (.slice (some ⟨gB, 0, none⟩) 0 0) 0 [] /\ gB < y14.heap.size) /\ gA ∉ f1 /\ gB ∉ f1 /\ gA ≠ gB) := H14a.out
     clear hY hb hg hHeld H11 H14a
     refine hK.out _ _ H14.out.1 (fun hHeld => ?_)
     clear hK K
     try simp only [Act.put, zA, zB, zC]
     refine wpAnyH_ready (rs := [6]) (by kernel_rfl) (by simp) ?_
     refine AllReadyH.cons (o := ⟨some 11, _, _, _, _, _⟩) rfl (fun K hK => ?_) AllReadyH.nil
     refine step_app_an (o := ⟨some 11, _, _, _, _, _⟩) rfl (.tmp 8) (.tmp 10) rfl (w.heap.size + 1 + 1) gB (by rfl) H14.out.2.2.2.1.1 (.slice a3 n3 c3) s.ancs (by rfl) (HX3.out.1.below (H14.out.1.1)) n3 HX3.out.2 (by omega) H14.out.1.2.2.2 ?_
     intro gP mP y15 hop hgp hgrow
     have H15 : Hid (KSo w y15 #[.slice a1 n1 c1, .slice a2 n2 c2, .slice a3 n3 c3] /\ OwnS certKd y15 (w.heap.size + 1 + 1) (.slice (some ⟨gC, 0, none⟩) n1 mC) s.certs f1 /\ (Blk y15 gA 33 #[.slice none 0 0, .slice none 0 0, .slice none 0 0] /\ w.heap.size + 1 + 1 <= gA) /\ (OwnS anKd y15 (w.heap.size + 1 + 1) (.slice (some ⟨gP, 0, none⟩) n3 mP) s.ancs [gP] /\ gP < y15.heap.size) /\ gA ∉ f1 /\ gP ∉ f1 /\ gA ≠ gP) := ⟨H14.out.1.grown hgrow (fun q e => by have e2 := Option.some.inj e; have := (H14.out.2.2.2.1.1.lt gB rfl).1; omega), H14.out.2.1.same (fun b hb => hgrow.block b (H14.out.2.1.lt b hb).2 (fun e => by have e2 := (Option.some.inj e); subst e2; exact H14.out.2.2.2.2.2.1 hb)), ⟨(hgrow.block _ H14.out.2.2.1.1.lt (fun e => H14.out.2.2.2.2.2.2 (Option.some.inj e))).trans H14.out.2.2.1.1, H14.out.2.2.1.2⟩, ⟨hop, hop.lt gP (by simp) |>.2⟩, H14.out.2.2.2.2.1, (fun hm => by rcases hgp with hgp | hgp; exact H14.out.2.2.2.2.2.1 (hgp ▸ hm); have := (H14.out.2.1.lt _ hm).2; omega), (fun e => by rcases hgp with hgp | hgp; exact H14.out.2.2.2.2.2.2 (e.trans hgp); have := H14.out.2.2.1.1.lt; omega)⟩
     clear hop hgp hgrow hHeld H14
     refine hK.out _ _ H15.out.1 (fun hHeld => ?_)
     clear hK K
     try simp only [Act.put, zA, zB, zC]
     refine zT 7 12 ?_ rfl (by rfl) ?_ hHeld ?_
     rotate_left
     ·intro W hSw
      go_simp
      try with_reducible rfl
     try simp only [Act.put, zA, zB, zC]
     refine wpAnyH_ready (rs := [9]) (by kernel_rfl) (by simp) ?_
     refine AllReadyH.cons (o := ⟨none, _, _, _, _, _⟩) rfl (fun K hK => ?_) AllReadyH.nil
     have z0 : y15.cell? ⟨gA, 0, none⟩ = some (.slice none 0 0) := H15.out.2.2.1.1.cell 0
     have z1 : y15.cell? ⟨gA, 1, none⟩ = some (.slice none 0 0) := H15.out.2.2.1.1.cell 1
     have z2 : y15.cell? ⟨gA, 2, none⟩ = some (.slice none 0 0) := H15.out.2.2.1.1.cell 2
     have zf := fun i => H15.out.2.2.1.1.free i
     go_simp
     obtain ⟨Y, hY⟩ : ∃ Y, Y = ((y15.setCell ⟨gA, 0, none⟩ (.slice (some ⟨gC, 0, none⟩) n1 mC)).setCell ⟨gA, 1, none⟩ (.slice none 0 0)).setCell ⟨gA, 2, none⟩ (.slice (some ⟨gP, 0, none⟩) n3 mP) := ⟨_, rfl⟩
     have HY : Hid (KCo w Y #[.slice a1 n1 c1, .slice a2 n2 c2, .slice a3 n3 c3] gA (.slice (some ⟨gC, 0, none⟩) n1 mC) (.slice (some ⟨gP, 0, none⟩) n3 mP) s f1 gP) := by
      rw [hY]
      exact KCo.mk H15.out.1 H15.out.2.2.1.1 H15.out.2.2.1.2 H15.out.2.1 H15.out.2.2.2.1.1 H15.out.2.2.2.2.1 H15.out.2.2.2.2.2.2 H15.out.2.2.2.2.2.1
     rw [<- hY]
     clear hY z0 z1 z2 zf H15
     refine hK.out _ _ HY.out.1 (fun hHeld => ?_)
     clear hK K hHeld
     refine wpAnyH_done (by kernel_rfl) ?_ _
     go_wp2_with fail
     go_meet
     exact ⟨gA, gC, mC, f1, gP, mP, rfl, HY⟩
   ·go_simp
    obtain ⟨y16, hY⟩ : ∃ Y, Y = y10.alloc (Obj.cells #[.slice none 0 0, .slice none 0 0, .slice none 0 0] 33) := ⟨_, rfl⟩
    rw [<- hY]
    have hb : Below y10.heap.size y10 y16 := by rw [hY]; exact (Below.refl _ _).alloc (Nat.le_refl _) _
    have H16a : Hid (KSo w y16 #[.slice a1 n1 c1, .slice a2 n2 c2, .slice a3 n3 c3] /\ (Blk y16 y10.heap.size 33 #[.slice none 0 0, .slice none 0 0, .slice none 0 0] /\ w.heap.size + 1 + 1 <= y10.heap.size) /\ (y16.ownsRow (w.heap.size + 1 + 1) 75 2 (.slice (some ⟨gB, 0, none⟩) 0 0) 0 [] /\ gB < y16.heap.size) /\ y10.heap.size ≠ gB) := ⟨H10.out.1.below hb, ⟨by rw [hY]; exact Blk.new y10 _ _, H10.out.1.2.2.2⟩, ⟨own_kept H10.out.2.1 hb, Nat.lt_of_lt_of_le H10.out.2.2 hb.size⟩, (fun e => by have g1 := H10.out.2.2; omega)⟩
    obtain ⟨gA, hg⟩ := zE (y10.heap.size)
    rw [hg] at H16a |-
    have H16 : Hid (KSo w y16 #[.slice a1 n1 c1, .slice a2 n2 c2, .slice a3 n3 c3] /\ (Blk y16 gA 33 #[.slice none 0 0, .slice none 0 0, .slice none 0 0] /\ w.heap.size + 1 + 1 <= gA) /\ (y16.ownsRow (w.heap.size + 1 + 1) 75 2 (.slice (some ⟨gB, 0, none⟩) 0 0) 0 [] /\ gB < y16.heap.size) /\ gA ≠ gB) := H16a.out
    clear hY hb hg hHeld H10 H16a
    refine hK.out _ _ H16.out.1 (fun hHeld => ?_)
    clear hK K
    try simp only [Act.put, zA, zB, zC]
    refine wpAnyH_ready (rs := [2]) (by kernel_rfl) (by simp) ?_
    refine AllReadyH.cons (o := ⟨some 7, _, _, _, _, _⟩) rfl (fun K hK => ?_) AllReadyH.nil
    go_simp
    refine (EC.out _ hHeld.1).mono ?_
    rintro e y17 ⟨gC, mC, f1, rfl, ho, hb⟩
    have H17 : Hid (KSo w y17 #[.slice a1 n1 c1, .slice a2 n2 c2, .slice a3 n3 c3] /\ OwnS certKd y17 (w.heap.size + 1 + 1) (.slice (some ⟨gC, 0, none⟩) n1 mC) s.certs f1 /\ (Blk y17 gA 33 #[.slice none 0 0, .slice none 0 0, .slice none 0 0] /\ w.heap.size + 1 + 1 <= gA) /\ (y17.ownsRow (w.heap.size + 1 + 1) 75 2 (.slice (some ⟨gB, 0, none⟩) 0 0) 0 [] /\ gB < y17.heap.size) /\ gA ∉ f1 /\ gB ∉ f1 /\ gA ≠ gB) := ⟨H16.out.1.below hb, ho.base H16.out.1.2.2.2, ⟨H16.out.2.1.1.below hb H16.out.2.1.1.lt, H16.out.2.1.2⟩, ⟨own_kept H16.out.2.2.1.1 hb, Nat.lt_of_lt_of_le H16.out.2.2.1.2 hb.size⟩, (fun hm => by have g1 := (ho.lt _ hm).1; have g2 := H16.out.2.1.1.lt; omega), (fun hm => by have g1 := (ho.lt _ hm).1; have g2 := H16.out.2.2.1.2; omega), H16.out.2.2.2⟩
    clear ho hb hHeld H16
    refine hK.out _ _ H17.out.1 (fun hHeld => ?_)
    clear hK K
    try simp only [Act.put, zA, zB, zC]
    refine wpAnyH_ready (rs := [6]) (by kernel_rfl) (by simp) ?_
    refine AllReadyH.cons (o := ⟨some 11, _, _, _, _, _⟩) rfl (fun K hK => ?_) AllReadyH.nil
    refine step_app_an (o := ⟨some 11, _, _, _, _, _⟩) rfl (.tmp 8) (.tmp 10) rfl (w.heap.size + 1 + 1) gB (by rfl) H17.out.2.2.2.1.1 (.slice a3 n3 c3) s.ancs (by rfl) (HX3.out.1.below (H17.out.1.1)) n3 HX3.out.2 (by omega) H17.out.1.2.2.2 ?_
    intro gP mP y18 hop hgp hgrow
    have H18 : Hid (KSo w y18 #[.slice a1 n1 c1, .slice a2 n2 c2, .slice a3 n3 c3] /\ OwnS certKd y18 (w.heap.size + 1 + 1) (.slice (some ⟨gC, 0, none⟩) n1 mC) s.certs f1 /\ (Blk y18 gA 33 #[.slice none 0 0, .slice none 0 0, .slice none 0 0] /\ w.heap.size + 1 + 1 <= gA) /\ (OwnS anKd y18 (w.heap.size + 1 + 1) (.slice (some ⟨gP, 0, none⟩) n3 mP) s.ancs [gP] /\ gP < y18.heap.size) /\ gA ∉ f1 /\ gP ∉ f1 /\ gA ≠ gP) := ⟨H17.out.1.grown hgrow (fun q e => by have e2 := Option.some.inj e; have := (H17.out.2.2.2.1.1.lt gB rfl).1; omega), H17.out.2.1.same (fun b hb => hgrow.block b (H17.out.2.1.lt b hb).2 (fun e => by have e2 := (Option.some.inj e); subst e2; exact H17.out.2.2.2.2.2.1 hb)), ⟨(hgrow.block _ H17.out.2.2.1.1.lt (fun e => H17.out.2.2.2.2.2.2 (Option.some.inj e))).trans H17.out.2.2.1.1, H17.out.2.2.1.2⟩, ⟨hop, hop.lt gP (by simp) |>.2⟩, H17.out.2.2.2.2.1, (fun hm => by rcases hgp with hgp | hgp; exact H17.out.2.2.2.2.2.1 (hgp ▸ hm); have := (H17.out.2.1.lt _ hm).2; omega), (fun e => by rcases hgp with hgp | hgp; exact H17.out.2.2.2.2.2.2 (e.trans hgp); have := H17.out.2.2.1.1.lt; omega)⟩
    clear hop hgp hgrow hHeld H17
    refine hK.out _ _ H18.out.1 (fun hHeld => ?_)
    clear hK K
    try simp only [Act.put, zA, zB, zC]
    refine zT 7 12 ?_ rfl (by rfl) ?_ hHeld ?_
    rotate_left
    ·intro W hSw
     go_simp
     try with_reducible rfl
    try simp only [Act.put, zA, zB, zC]
    refine wpAnyH_ready (rs := [9]) (by kernel_rfl) (by simp) ?_
    refine AllReadyH.cons (o := ⟨none, _, _, _, _, _⟩) rfl (fun K hK => ?_) AllReadyH.nil
    have z0 : y18.cell? ⟨gA, 0, none⟩ = some (.slice none 0 0) := H18.out.2.2.1.1.cell 0
    have z1 : y18.cell? ⟨gA, 1, none⟩ = some (.slice none 0 0) := H18.out.2.2.1.1.cell 1
    have z2 : y18.cell? ⟨gA, 2, none⟩ = some (.slice none 0 0) := H18.out.2.2.1.1.cell 2
    have zf := fun i => H18.out.2.2.1.1.free i
    go_simp
    obtain ⟨Y, hY⟩ : ∃ Y, Y = ((y18.setCell ⟨gA, 0, none⟩ (.slice (some ⟨gC, 0, none⟩) n1 mC)).setCell ⟨gA, 1, none⟩ (.slice none 0 0)).setCell ⟨gA, 2, none⟩ (.slice (some ⟨gP, 0, none⟩) n3 mP) := ⟨_, rfl⟩
    have HY : Hid (KCo w Y #[.slice a1 n1 c1, .slice a2 n2 c2, .slice a3 n3 c3] gA (.slice (some ⟨gC, 0, none⟩) n1 mC) (.slice (some ⟨gP, 0, none⟩) n3 mP) s f1 gP) := by
     rw [hY]
     exact KCo.mk H18.out.1 H18.out.2.2.1.1 H18.out.2.2.1.2 H18.out.2.1 H18.out.2.2.2.1.1 H18.out.2.2.2.2.1 H18.out.2.2.2.2.2.2 H18.out.2.2.2.2.2.1
    rw [<- hY]
    clear hY z0 z1 z2 zf H18
    refine hK.out _ _ HY.out.1 (fun hHeld => ?_)
    clear hK K hHeld
    refine wpAnyH_done (by kernel_rfl) ?_ _
    go_wp2_with fail
    go_meet
    exact ⟨gA, gC, mC, f1, gP, mP, rfl, HY⟩
  ·go_simp
   obtain ⟨y19, hY⟩ : ∃ Y, Y = wd.alloc (Obj.cells #[.slice none 0 0, .slice none 0 0, .slice none 0 0] 33) := ⟨_, rfl⟩
   rw [<- hY]
   have hb : Below wd.heap.size wd y19 := by rw [hY]; exact (Below.refl _ _).alloc (Nat.le_refl _) _
   have H19a : Hid (KSo w y19 #[.slice a1 n1 c1, .slice a2 n2 c2, .slice a3 n3 c3] /\ (Blk y19 wd.heap.size 33 #[.slice none 0 0, .slice none 0 0, .slice none 0 0] /\ w.heap.size + 1 + 1 <= wd.heap.size)) := ⟨H0.out.below hb, ⟨by rw [hY]; exact Blk.new wd _ _, H0.out.2.2.2⟩⟩
   obtain ⟨gA, hg⟩ := zE (wd.heap.size)
   rw [hg] at H19a |-
   have H19 : Hid (KSo w y19 #[.slice a1 n1 c1, .slice a2 n2 c2, .slice a3 n3 c3] /\ (Blk y19 gA 33 #[.slice none 0 0, .slice none 0 0, .slice none 0 0] /\ w.heap.size + 1 + 1 <= gA)) := H19a.out
   clear hY hb hg hHeld H0 H19a
   refine hK.out _ _ H19.out.1 (fun hHeld => ?_)
   clear hK K
   try simp only [Act.put, zA, zB, zC]
   refine wpAnyH_ready (rs := [2, 3]) (by kernel_rfl) (by simp) ?_
   refine AllReadyH.cons (o := ⟨some 7, _, _, _, _, _⟩) rfl (fun K hK => ?_) (AllReadyH.cons (o := ⟨some 8, _, _, _, _, _⟩) rfl (fun K hK => ?_) AllReadyH.nil)
   ·go_simp
    refine (EC.out _ hHeld.1).mono ?_
    rintro e y20 ⟨gC, mC, f1, rfl, ho, hb⟩
    have H20 : Hid (KSo w y20 #[.slice a1 n1 c1, .slice a2 n2 c2, .slice a3 n3 c3] /\ OwnS certKd y20 (w.heap.size + 1 + 1) (.slice (some ⟨gC, 0, none⟩) n1 mC) s.certs f1 /\ (Blk y20 gA 33 #[.slice none 0 0, .slice none 0 0, .slice none 0 0] /\ w.heap.size + 1 + 1 <= gA) /\ gA ∉ f1) := ⟨H19.out.1.below hb, ho.base H19.out.1.2.2.2, ⟨H19.out.2.1.below hb H19.out.2.1.lt, H19.out.2.2⟩, (fun hm => by have g1 := (ho.lt _ hm).1; have g2 := H19.out.2.1.lt; omega)⟩
    clear ho hb hHeld H19
    refine hK.out _ _ H20.out.1 (fun hHeld => ?_)
    clear hK K
    try simp only [Act.put, zA, zB, zC]
    refine wpAnyH_ready (rs := [3]) (by kernel_rfl) (by simp) ?_
    refine AllReadyH.cons (o := ⟨some 8, _, _, _, _, _⟩) rfl (fun K hK => ?_) AllReadyH.nil
    go_simp
    obtain ⟨y21, hY⟩ : ∃ Y, Y = y20.alloc (Obj.cells #[] 75) := ⟨_, rfl⟩
    rw [<- hY]
    have hb : Below y20.heap.size y20 y21 := by rw [hY]; exact (Below.refl _ _).alloc (Nat.le_refl _) _
    have H21a : Hid (KSo w y21 #[.slice a1 n1 c1, .slice a2 n2 c2, .slice a3 n3 c3] /\ OwnS certKd y21 (w.heap.size + 1 + 1) (.slice (some ⟨gC, 0, none⟩) n1 mC) s.certs f1 /\ (Blk y21 gA 33 #[.slice none 0 0, .slice none 0 0, .slice none 0 0] /\ w.heap.size + 1 + 1 <= gA) /\ (y21.ownsRow (w.heap.size + 1 + 1) 75 2 (.slice (some ⟨y20.heap.size, 0, none⟩) 0 0) 0 [] /\ y20.heap.size < y21.heap.size) /\ gA ∉ f1 /\ y20.heap.size ∉ f1 /\ gA ≠ y20.heap.size) := ⟨H20.out.1.below hb, H20.out.2.1.stays hb, ⟨H20.out.2.2.1.1.below hb H20.out.2.2.1.1.lt, H20.out.2.2.1.2⟩, ⟨by rw [hY]; exact World.ownsRow_made y20 #[] 0 H20.out.1.2.2.2 (Nat.zero_le _) (by simp), by rw [hY, size_alloc]; omega⟩, H20.out.2.2.2, (fun hm => by have g1 := (H20.out.2.1.lt _ hm).2; omega), (fun e => by have g1 := H20.out.2.2.1.1.lt; omega)⟩
    obtain ⟨gB, hg⟩ := zE (y20.heap.size)
    rw [hg] at H21a |-
    have H21 : Hid (KSo w y21 #[.slice a1 n1 c1, .slice a2 n2 c2, .slice a3 n3 c3] /\ OwnS certKd y21 (w.heap.size + 1 + 1) (.slice (some ⟨gC, 0, none⟩) n1 mC) s.certs f1 /\ (Blk y21 gA 33 #[.slice none 0 0, .slice none 0 0, .slice none 0 0] /\ w.heap.size + 1 + 1 <= gA) /\ (y21.ownsRow (w.heap.size + 1 + 1) 75 2 (.slice (some ⟨gB, 0, none⟩) 0 0) 0 [] /\ gB < y21.heap.size) /\ gA ∉ f1 /\ gB ∉ f1 /\ gA ≠ gB) := H21a.out
    clear hY hb hg hHeld H20 H21a
    refine hK.out _ _ H21.out.1 (fun hHeld => ?_)
    clear hK K
    try simp only [Act.put, zA, zB, zC]
    refine wpAnyH_ready (rs := [6]) (by kernel_rfl) (by simp) ?_
    refine AllReadyH.cons (o := ⟨some 11, _, _, _, _, _⟩) rfl (fun K hK => ?_) AllReadyH.nil
    refine step_app_an (o := ⟨some 11, _, _, _, _, _⟩) rfl (.tmp 8) (.tmp 10) rfl (w.heap.size + 1 + 1) gB (by rfl) H21.out.2.2.2.1.1 (.slice a3 n3 c3) s.ancs (by rfl) (HX3.out.1.below (H21.out.1.1)) n3 HX3.out.2 (by omega) H21.out.1.2.2.2 ?_
    intro gP mP y22 hop hgp hgrow
    have H22 : Hid (KSo w y22 #[.slice a1 n1 c1, .slice a2 n2 c2, .slice a3 n3 c3] /\ OwnS certKd y22 (w.heap.size + 1 + 1) (.slice (some ⟨gC, 0, none⟩) n1 mC) s.certs f1 /\ (Blk y22 gA 33 #[.slice none 0 0, .slice none 0 0, .slice none 0 0] /\ w.heap.size + 1 + 1 <= gA) /\ (OwnS anKd y22 (w.heap.size + 1 + 1) (.slice (some ⟨gP, 0, none⟩) n3 mP) s.ancs [gP] /\ gP < y22.heap.size) /\ gA ∉ f1 /\ gP ∉ f1 /\ gA ≠ gP) := ⟨H21.out.1.grown hgrow (fun q e => by have e2 := Option.some.inj e; have := (H21.out.2.2.2.1.1.lt gB rfl).1; omega), H21.out.2.1.same (fun b hb => hgrow.block b (H21.out.2.1.lt b hb).2 (fun e => by have e2 := (Option.some.inj e); subst e2; exact H21.out.2.2.2.2.2.1 hb)), ⟨(hgrow.block _ H21.out.2.2.1.1.lt (fun e => H21.out.2.2.2.2.2.2 (Option.some.inj e))).trans H21.out.2.2.1.1, H21.out.2.2.1.2⟩, ⟨hop, hop.lt gP (by simp) |>.2⟩, H21.out.2.2.2.2.1, (fun hm => by rcases hgp with hgp | hgp; exact H21.out.2.2.2.2.2.1 (hgp ▸ hm); have := (H21.out.2.1.lt _ hm).2; omega), (fun e => by rcases hgp with hgp | hgp; exact H21.out.2.2.2.2.2.2 (e.trans hgp); have := H21.out.2.2.1.1.lt; omega)⟩
    clear hop hgp hgrow hHeld H21
    refine hK.out _ _ H22.out.1 (fun hHeld => ?_)
    clear hK K
    try simp only [Act.put, zA, zB, zC]
    refine zT 7 12 ?_ rfl (by rfl) ?_ hHeld ?_
    rotate_left
    ·intro W hSw
     go_simp
     try with_reducible rfl
    try simp only [Act.put, zA, zB, zC]
    refine wpAnyH_ready (rs := [9]) (by kernel_rfl) (by simp) ?_
    refine AllReadyH.cons (o := ⟨none, _, _, _, _, _⟩) rfl (fun K hK => ?_) AllReadyH.nil
    have z0 : y22.cell? ⟨gA, 0, none⟩ = some (.slice none 0 0) := H22.out.2.2.1.1.cell 0
    have z1 : y22.cell? ⟨gA, 1, none⟩ = some (.slice none 0 0) := H22.out.2.2.1.1.cell 1
    have z2 : y22.cell? ⟨gA, 2, none⟩ = some (.slice none 0 0) := H22.out.2.2.1.1.cell 2
    have zf := fun i => H22.out.2.2.1.1.free i
    go_simp
    obtain ⟨Y, hY⟩ : ∃ Y, Y = ((y22.setCell ⟨gA, 0, none⟩ (.slice (some ⟨gC, 0, none⟩) n1 mC)).setCell ⟨gA, 1, none⟩ (.slice none 0 0)).setCell ⟨gA, 2, none⟩ (.slice (some ⟨gP, 0, none⟩) n3 mP) := ⟨_, rfl⟩
    have HY : Hid (KCo w Y #[.slice a1 n1 c1, .slice a2 n2 c2, .slice a3 n3 c3] gA (.slice (some ⟨gC, 0, none⟩) n1 mC) (.slice (some ⟨gP, 0, none⟩) n3 mP) s f1 gP) := by
     rw [hY]
     exact KCo.mk H22.out.1 H22.out.2.2.1.1 H22.out.2.2.1.2 H22.out.2.1 H22.out.2.2.2.1.1 H22.out.2.2.2.2.1 H22.out.2.2.2.2.2.2 H22.out.2.2.2.2.2.1
    rw [<- hY]
    clear hY z0 z1 z2 zf H22
    refine hK.out _ _ HY.out.1 (fun hHeld => ?_)
    clear hK K hHeld
    refine wpAnyH_done (by kernel_rfl) ?_ _
    go_wp2_with fail
    go_meet
    exact ⟨gA, gC, mC, f1, gP, mP, rfl, HY⟩
   ·go_simp
    obtain ⟨y23, hY⟩ : ∃ Y, Y = y19.alloc (Obj.cells #[] 75) := ⟨_, rfl⟩
    rw [<- hY]
    have hb : Below y19.heap.size y19 y23 := by rw [hY]; exact (Below.refl _ _).alloc (Nat.le_refl _) _
    have H23a : Hid (KSo w y23 #[.slice a1 n1 c1, .slice a2 n2 c2, .slice a3 n3 c3] /\ (Blk y23 gA 33 #[.slice none 0 0, .slice none 0 0, .slice none 0 0] /\ w.heap.size + 1 + 1 <= gA) /\ (y23.ownsRow (w.heap.size + 1 + 1) 75 2 (.slice (some ⟨y19.heap.size, 0, none⟩) 0 0) 0 [] /\ y19.heap.size < y23.heap.size) /\ gA ≠ y19.heap.size) := ⟨H19.out.1.below hb, ⟨H19.out.2.1.below hb H19.out.2.1.lt, H19.out.2.2⟩, ⟨by rw [hY]; exact World.ownsRow_made y19 #[] 0 H19.out.1.2.2.2 (Nat.zero_le _) (by simp), by rw [hY, size_alloc]; omega⟩, (fun e => by have g1 := H19.out.2.1.lt; omega)⟩
    obtain ⟨gB, hg⟩ := zE (y19.heap.size)
    rw [hg] at H23a |-
    have H23 : Hid (KSo w y23 #[.slice a1 n1 c1, .slice a2 n2 c2, .slice a3 n3 c3] /\ (Blk y23 gA 33 #[.slice none 0 0, .slice none 0 0, .slice none 0 0] /\ w.heap.size + 1 + 1 <= gA) /\ (y23.ownsRow (w.heap.size + 1 + 1) 75 2 (.slice (some ⟨gB, 0, none⟩) 0 0) 0 [] /\ gB < y23.heap.size) /\ gA ≠ gB) := H23a.out
    clear hY hb hg hHeld H19 H23a
    refine hK.out _ _ H23.out.1 (fun hHeld => ?_)
    clear hK K
    try simp only [Act.put, zA, zB, zC]
    refine wpAnyH_ready (rs := [2]) (by kernel_rfl) (by simp) ?_
    refine AllReadyH.cons (o := ⟨some 7, _, _, _, _, _⟩) rfl (fun K hK => ?_) AllReadyH.nil
    go_simp
    refine (EC.out _ hHeld.1).mono ?_
    rintro e y24 ⟨gC, mC, f1, rfl, ho, hb⟩
    have H24 : Hid (KSo w y24 #[.slice a1 n1 c1, .slice a2 n2 c2, .slice a3 n3 c3] /\ OwnS certKd y24 (w.heap.size + 1 + 1) (.slice (some ⟨gC, 0, none⟩) n1 mC) s.certs f1 /\ (Blk y24 gA 33 #[.slice none 0 0, .slice none 0 0, .slice none 0 0] /\ w.heap.size + 1 + 1 <= gA) /\ (y24.ownsRow (w.heap.size + 1 + 1) 75 2 (.slice (some ⟨gB, 0, none⟩) 0 0) 0 [] /\ gB < y24.heap.size) /\ gA ∉ f1 /\ gB ∉ f1 /\ gA ≠ gB) := ⟨H23.out.1.below hb, ho.base H23.out.1.2.2.2, ⟨H23.out.2.1.1.below hb H23.out.2.1.1.lt, H23.out.2.1.2⟩, ⟨own_kept H23.out.2.2.1.1 hb, Nat.lt_of_lt_of_le H23.out.2.2.1.2 hb.size⟩, (fun hm => by have g1 := (ho.lt _ hm).1; have g2 := H23.out.2.1.1.lt; omega), (fun hm => by have g1 := (ho.lt _ hm).1; have g2 := H23.out.2.2.1.2; omega), H23.out.2.2.2⟩
    clear ho hb hHeld H23
    refine hK.out _ _ H24.out.1 (fun hHeld => ?_)
    clear hK K
    try simp only [Act.put, zA, zB, zC]
    refine wpAnyH_ready (rs := [6]) (by kernel_rfl) (by simp) ?_
    refine AllReadyH.cons (o := ⟨some 11, _, _, _, _, _⟩) rfl (fun K hK => ?_) AllReadyH.nil
    refine step_app_an (o := ⟨some 11, _, _, _, _, _⟩) rfl (.tmp 8) (.tmp 10) rfl (w.heap.size + 1 + 1) gB (by rfl) H24.out.2.2.2.1.1 (.slice a3 n3 c3) s.ancs (by rfl) (HX3.out.1.below (H24.out.1.1)) n3 HX3.out.2 (by omega) H24.out.1.2.2.2 ?_
    intro gP mP y25 hop hgp hgrow
    have H25 : Hid (KSo w y25 #[.slice a1 n1 c1, .slice a2 n2 c2, .slice a3 n3 c3] /\ OwnS certKd y25 (w.heap.size + 1 + 1) (.slice (some ⟨gC, 0, none⟩) n1 mC) s.certs f1 /\ (Blk y25 gA 33 #[.slice none 0 0, .slice none 0 0, .slice none 0 0] /\ w.heap.size + 1 + 1 <= gA) /\ (OwnS anKd y25 (w.heap.size + 1 + 1) (.slice (some ⟨gP, 0, none⟩) n3 mP) s.ancs [gP] /\ gP < y25.heap.size) /\ gA ∉ f1 /\ gP ∉ f1 /\ gA ≠ gP) := ⟨H24.out.1.grown hgrow (fun q e => by have e2 := Option.some.inj e; have := (H24.out.2.2.2.1.1.lt gB rfl).1; omega), H24.out.2.1.same (fun b hb => hgrow.block b (H24.out.2.1.lt b hb).2 (fun e => by have e2 := (Option.some.inj e); subst e2; exact H24.out.2.2.2.2.2.1 hb)), ⟨(hgrow.block _ H24.out.2.2.1.1.lt (fun e => H24.out.2.2.2.2.2.2 (Option.some.inj e))).trans H24.out.2.2.1.1, H24.out.2.2.1.2⟩, ⟨hop, hop.lt gP (by simp) |>.2⟩, H24.out.2.2.2.2.1, (fun hm => by rcases hgp with hgp | hgp; exact H24.out.2.2.2.2.2.1 (hgp ▸ hm); have := (H24.out.2.1.lt _ hm).2; omega), (fun e => by rcases hgp with hgp | hgp; exact H24.out.2.2.2.2.2.2 (e.trans hgp); have := H24.out.2.2.1.1.lt; omega)⟩
    clear hop hgp hgrow hHeld H24
    refine hK.out _ _ H25.out.1 (fun hHeld => ?_)
    clear hK K
    try simp only [Act.put, zA, zB, zC]
    refine zT 7 12 ?_ rfl (by rfl) ?_ hHeld ?_
    rotate_left
    ·intro W hSw
     go_simp
     try with_reducible rfl
    try simp only [Act.put, zA, zB, zC]
    refine wpAnyH_ready (rs := [9]) (by kernel_rfl) (by simp) ?_
    refine AllReadyH.cons (o := ⟨none, _, _, _, _, _⟩) rfl (fun K hK => ?_) AllReadyH.nil
    have z0 : y25.cell? ⟨gA, 0, none⟩ = some (.slice none 0 0) := H25.out.2.2.1.1.cell 0
    have z1 : y25.cell? ⟨gA, 1, none⟩ = some (.slice none 0 0) := H25.out.2.2.1.1.cell 1
    have z2 : y25.cell? ⟨gA, 2, none⟩ = some (.slice none 0 0) := H25.out.2.2.1.1.cell 2
    have zf := fun i => H25.out.2.2.1.1.free i
    go_simp
    obtain ⟨Y, hY⟩ : ∃ Y, Y = ((y25.setCell ⟨gA, 0, none⟩ (.slice (some ⟨gC, 0, none⟩) n1 mC)).setCell ⟨gA, 1, none⟩ (.slice none 0 0)).setCell ⟨gA, 2, none⟩ (.slice (some ⟨gP, 0, none⟩) n3 mP) := ⟨_, rfl⟩
    have HY : Hid (KCo w Y #[.slice a1 n1 c1, .slice a2 n2 c2, .slice a3 n3 c3] gA (.slice (some ⟨gC, 0, none⟩) n1 mC) (.slice (some ⟨gP, 0, none⟩) n3 mP) s f1 gP) := by
     rw [hY]
     exact KCo.mk H25.out.1 H25.out.2.2.1.1 H25.out.2.2.1.2 H25.out.2.1 H25.out.2.2.2.1.1 H25.out.2.2.2.2.1 H25.out.2.2.2.2.2.2 H25.out.2.2.2.2.2.1
    rw [<- hY]
    clear hY z0 z1 z2 zf H25
    refine hK.out _ _ HY.out.1 (fun hHeld => ?_)
    clear hK K hHeld
    refine wpAnyH_done (by kernel_rfl) ?_ _
    go_wp2_with fail
    go_meet
    exact ⟨gA, gC, mC, f1, gP, mP, rfl, HY⟩
 case rest =>
  obtain ⟨gA, gC, mC, f1, gP, mP, rfl, HC⟩ := hcut
  rename World => WX
  go_wp2_with fail
  go_loopw [4] (fun iv wr => ∃ k : Nat, k <= n2 /\ iv = .int .i64 k /\ ∃ qv f2, Hid (KSo w wr #[.slice a1 n1 c1, .slice a2 n2 c2, .slice a3 n3 c3] /\ Blk wr gA 33 #[.slice (some ⟨gC, 0, none⟩) n1 mC, qv, .slice (some ⟨gP, 0, none⟩) n3 mP] /\ OwnS certKd wr (w.heap.size + 1 + 1) (.slice (some ⟨gC, 0, none⟩) n1 mC) s.certs f1 /\ OwnS anKd wr (w.heap.size + 1 + 1) (.slice (some ⟨gP, 0, none⟩) n3 mP) s.ancs [gP] /\ OwnS crlKd wr (w.heap.size + 1 + 1) (qv) (s.crls.take k) f2 /\ gA ∉ f2 /\ (∀ b ∈ f1, b ∉ f2) /\ gP ∉ f2)) (fun iv _ => n2 - (intOf iv).toNat)
  case atStart => exact ⟨0, Nat.zero_le _, rfl, .slice none 0 0, [], HC.out.1, HC.out.2.1, HC.out.2.2.2.1, HC.out.2.2.2.2.1, OwnS.nil crlKd _ _, (fun h => by cases h), (fun b _ h => by cases h), (fun h => by cases h)⟩
  case round =>
   obtain ⟨k, hk, rfl, qv, f2, H⟩ := hrel
   have HG : Hid (w.heap.size + 1 + 1 <= gA /\ gA ∉ f1 /\ gA ≠ gP /\ gP ∉ f1) := ⟨HC.out.2.2.1, HC.out.2.2.2.2.2⟩
   clear HC
   have hs1 : wr.cell? ⟨w.heap.size, 1, none⟩ = some (.slice a2 n2 c2) := H.out.1.2.1.cell 1
   by_cases hkn : k < n2
   ·have hkl : k < s.crls.length := by rw [HX2.out.2.1]; exact hkn
    obtain ⟨g, o, u, hax, hg, hP, hs, hc⟩ := HX2.out.1.get hkl
    obtain ⟨p1, q1, hu⟩ := ClAt.shape (OwnL.at hP)
    subst hax
    have hki : (k : Int) < (n2 : Int) := by omega
    have hk0 : (0 : Int) <= (k : Int) := by omega
    have hd0 : Below wr.heap.size wr wr.drew := (Below.refl _ _).drew
    have hPw := crlKd.same hP (fun y hy => (H.out.1.1.trans (hd0.mono H.out.1.1.size)).block y (crlKd.lt hP y hy).2)
    obtain ⟨c, hce⟩ := zE (s.crls[k])
    have hwc := HX2.out.2.2 _ (List.getElem_mem hkl)
    have hrg0 := fun i x hx => ((H.out.1.1.trans (hd0.mono H.out.1.1.size)).cell (p := ⟨g, o + k * 7 + i, none⟩) hg).trans (hc i x hx)
    rw [hce] at hu hPw hwc
    subst hu
    have HN : Hid (s.crls.take (k + 1) = s.crls.take k ++ [c] /\ (s.crls.take k).length = k) := ⟨by rw [<- hce]; exact List.take_succ_eq_append_getElem hkl, by rw [List.length_take]; omega⟩
    have E3 : Calls Tryz.prog 69 #[.agg #[.string c.issuer, .int .i64 c.num, .int .i64 c.ths, .int .i64 c.nxt, .int .i64 c.bas, .slice p1 c.revs.length q1, .string c.sig]] wr.drew fun e w' => ∃ r1 t1, e = .returned (.agg #[.string c.issuer, .int .i64 c.num, .int .i64 c.ths, .int .i64 c.nxt, .int .i64 c.bas, .slice r1 c.revs.length t1, .string c.sig]) /\ OwnL w' wr.heap.size (.agg #[.string c.issuer, .int .i64 c.num, .int .i64 c.ths, .int .i64 c.nxt, .int .i64 c.bas, .slice r1 c.revs.length t1, .string c.sig]) c /\ Below wr.heap.size wr w' := by
     refine (crlCopy_any c _ 0 wr.drew (by have := wtL_parts hwc; omega) hPw).mono ?_
     rintro e w' ⟨u, rfl, ho, hb⟩
     obtain ⟨r1, t1, hu3⟩ := ClAt.shape (OwnL.at ho)
     subst hu3
     exact ⟨r1, t1, rfl, ho, hd0.trans hb⟩
    have HF : Hid (∀ W, Below wr.heap.size wr W -> W.cell? ⟨gA, 1, none⟩ = some qv /\ W.frozen? ⟨gA, 1, none⟩ = false) := fun W hb => ⟨(H.out.2.1.below hb H.out.2.1.lt).cell 1, (H.out.2.1.below hb H.out.2.1.lt).free 1⟩
    have y0 := (HF.out wr.drew hd0).1
    have hs2 : wr.drew.cell? ⟨w.heap.size, 1, none⟩ = some (.slice (some ⟨g, o, none⟩) n2 c2) := hs1
    have m0 : wr.drew.cell? ⟨g, o + k * 7, none⟩ = some (.string c.issuer) := hrg0 0 _ rfl
    have m1 : wr.drew.cell? ⟨g, o + k * 7 + 1, none⟩ = some (.int .i64 c.num) := hrg0 1 _ rfl
    have m2 : wr.drew.cell? ⟨g, o + k * 7 + 2, none⟩ = some (.int .i64 c.ths) := hrg0 2 _ rfl
    have m3 : wr.drew.cell? ⟨g, o + k * 7 + 3, none⟩ = some (.int .i64 c.nxt) := hrg0 3 _ rfl
    have m4 : wr.drew.cell? ⟨g, o + k * 7 + 4, none⟩ = some (.int .i64 c.bas) := hrg0 4 _ rfl
    have m5 : wr.drew.cell? ⟨g, o + k * 7 + 5, none⟩ = some (.slice p1 c.revs.length q1) := hrg0 5 _ rfl
    have m6 : wr.drew.cell? ⟨g, o + k * 7 + 6, none⟩ = some (.string c.sig) := hrg0 6 _ rfl
    clear hP hPw hrg0 hs hc hce hg hwc
    go_wp2_with fail
    clear hs1
    go_region_law (first
     | (refine step_call rfl 69 _ _ rfl #[.agg #[.string c.issuer, .int .i64 c.num, .int .i64 c.ths, .int .i64 c.nxt, .int .i64 c.bas, .slice p1 c.revs.length q1, .string c.sig]] rfl (by kernel_rfl) ?_; refine E3.mono ?_; rintro e w3 ⟨r1, t1, rfl, ho3, hb3⟩; have y3 := (HF.out w3 hb3).1; have y4 := fun ob => (HF.out (w3.alloc ob) (hb3.alloc hb3.size ob)).1; dsimp only)
     | (refine step_app crlKd rfl _ _ 30 rfl i2 (.agg #[.string ⟨#[]⟩, .int .i64 0, .int .i64 0, .int .i64 0, .int .i64 0, .slice none 0 0, .string ⟨#[]⟩]) 88 Tryz.underlying30 hi2 hz02 hz12 hz22 rfl (by decide) (w.heap.size + 1 + 1) qv (s.crls.take k) f2 c (.agg #[.string c.issuer, .int .i64 c.num, .int .i64 c.ths, .int .i64 c.nxt, .int .i64 c.bas, .slice r1 c.revs.length t1, .string c.sig]) rfl w3.heap.size rfl (Blk.new w3 57 #[.string c.issuer, .int .i64 c.num, .int .i64 c.ths, .int .i64 c.nxt, .int .i64 c.bas, .slice r1 c.revs.length t1, .string c.sig]).range (H.out.2.2.2.2.1.stays (hb3.alloc hb3.size _)) (crlKd.base (crlKd.same ho3 (fun y hy => ((Below.refl w3.heap.size w3).alloc (Nat.le_refl _) _).block y (crlKd.lt ho3 y hy).2)) (Nat.le_trans H.out.1.2.2.2 (Nat.le_refl _))) (fun y h1 h2 => by have g1 := (crlKd.lt ho3 y h1).1; have g2 := (H.out.2.2.2.2.1.lt y h2).2; omega) (Nat.le_trans H.out.1.2.2.2 (hb3.alloc hb3.size _).size) k HN.out.2 (by omega) ?_; intro g6 cap6 w6 fp6 hG6 hgrow6 hf6; have hb5 := hb3.alloc hb3.size (Obj.cells #[.string c.issuer, .int .i64 c.num, .int .i64 c.ths, .int .i64 c.nxt, .int .i64 c.bas, .slice r1 c.revs.length t1, .string c.sig] 57); have hne6 : ∀ q, qv.ownBlock = some q -> q ∈ f2 /\ w.heap.size + 1 + 1 <= q := (fun q e => by obtain ⟨_, _, hr9, _, hf9, _⟩ := H.out.2.2.2.2.1; exact ⟨by rw [hf9]; exact List.mem_append_left _ (Option.mem_toList.2 e), (hr9.lt q e).1⟩); have hB6 : Blk w6 gA 33 #[.slice (some ⟨gC, 0, none⟩) n1 mC, qv, .slice (some ⟨gP, 0, none⟩) n3 mP] := (hgrow6.block _ (H.out.2.1.below hb5 H.out.2.1.lt).lt (fun e => H.out.2.2.2.2.2.1 (hne6 _ e.symm).1)).trans (H.out.2.1.below hb5 H.out.2.1.lt); have y6 : w6.cell? ⟨gA, 1, none⟩ = some qv := hB6.cell 1; have fz6 := fun i => hB6.free i))
    all_goals (
     have H6 : Hid (KSo w w6 #[.slice a1 n1 c1, .slice (some ⟨g, o, none⟩) n2 c2, .slice a3 n3 c3] /\ Blk w6 gA 33 #[.slice (some ⟨gC, 0, none⟩) n1 mC, qv, .slice (some ⟨gP, 0, none⟩) n3 mP] /\ OwnS certKd w6 (w.heap.size + 1 + 1) (.slice (some ⟨gC, 0, none⟩) n1 mC) s.certs f1 /\ OwnS anKd w6 (w.heap.size + 1 + 1) (.slice (some ⟨gP, 0, none⟩) n3 mP) s.ancs [gP] /\ OwnS crlKd w6 (w.heap.size + 1 + 1) (.slice (some ⟨g6, 0, none⟩) (k + 1) cap6) (s.crls.take (k + 1)) fp6 /\ gA ∉ fp6 /\ (∀ b ∈ f1, b ∉ fp6) /\ gP ∉ fp6) := by
      rw [<- HN.out.1] at hG6
      have hnw : ∀ b ∈ fp6, b ∈ f2 ∨ wr.heap.size <= b := fun b hb => by
       rcases hf6 b hb with h | h | h
       ·exact .inl h
       ·exact .inr (crlKd.lt ho3 b h).1
       ·exact .inr (by rw [h]; exact hb5.size)
      refine ⟨(H.out.1.below hb5).grown hgrow6 (fun q e => (hne6 q e).2), hB6, ?_, ?_, hG6, fun h => ?_, fun b h1 h2 => ?_, fun h => ?_⟩
      ·exact (H.out.2.2.1.stays hb5).same (fun b hb => hgrow6.block b ((H.out.2.2.1.stays hb5).lt b hb).2 (fun e => H.out.2.2.2.2.2.2.1 b hb (hne6 b e.symm).1))
      ·exact (H.out.2.2.2.1.stays hb5).same (fun b hb => hgrow6.block b ((H.out.2.2.2.1.stays hb5).lt b hb).2 (fun e => H.out.2.2.2.2.2.2.2 (List.mem_singleton.1 hb ▸ (hne6 b e.symm).1)))
      ·rcases hnw _ h with h | h
       ·exact H.out.2.2.2.2.2.1 h
       ·have := H.out.2.1.lt; omega
      ·rcases hnw _ h2 with h | h
       ·exact H.out.2.2.2.2.2.2.1 b h1 h
       ·have := (H.out.2.2.1.lt b h1).2; omega
      ·rcases hnw _ h with h | h
       ·exact H.out.2.2.2.2.2.2.2 h
       ·have := (H.out.2.2.2.1.lt gP (by simp)).2; omega
     clear hG6 hgrow6 y6 fz6 y3 y4 ho3 hb3 y0 E3 hf6 hb5 hne6 hB6 hs2 H m0 m1 m2 m3 m4 m5 m6
     go_wp2_with fail
     refine ⟨⟨k + 1, by omega, by go_num, .slice (some ⟨g6, 0, none⟩) (k + 1) cap6, fp6, ?_⟩, by simp [intOf]; omega⟩
     have hne : ∀ b, b ∉ [gA] -> b ≠ gA := fun b hb e => hb (by rw [e]; simp)
     exact ⟨H6.out.1.set HG.out.1, H6.out.2.1.set 1 _, H6.out.2.2.1.same (fun b hb => heap_setCell_other _ _ _ _ (fun (e : b = gA) => HG.out.2.1 (e ▸ hb))), H6.out.2.2.2.1.same (fun b hb => heap_setCell_other _ _ _ _ (fun e => HG.out.2.2.1 (e.symm.trans (List.mem_singleton.1 hb)))), H6.out.2.2.2.2.1.same (fun b hb => heap_setCell_other _ _ _ _ (fun (e : b = gA) => H6.out.2.2.2.2.2.1 (e ▸ hb))), H6.out.2.2.2.2.2⟩)
   ·have hkl : n2 = k := by omega
    subst hkl
    have HE : Hid (KSo w wr #[.slice a1 n1 c1, .slice a2 n2 c2, .slice a3 n3 c3] /\ Blk wr gA 33 #[.slice (some ⟨gC, 0, none⟩) n1 mC, qv, .slice (some ⟨gP, 0, none⟩) n3 mP] /\ OwnS certKd wr (w.heap.size + 1 + 1) (.slice (some ⟨gC, 0, none⟩) n1 mC) s.certs f1 /\ OwnS anKd wr (w.heap.size + 1 + 1) (.slice (some ⟨gP, 0, none⟩) n3 mP) s.ancs [gP] /\ OwnS crlKd wr (w.heap.size + 1 + 1) (qv) (s.crls) f2 /\ gA ∉ f2 /\ (∀ b ∈ f1, b ∉ f2) /\ gP ∉ f2) := by
     have h := H.out
     rw [List.take_of_length_le (by rw [HX2.out.2.1]; exact Nat.le_refl _)] at h
     exact h
    clear H
    obtain ⟨x2, y2, hs2⟩ := HE.out.2.2.2.2.1.at.shape
    rw [HX2.out.2.1] at hs2
    subst hs2
    have q0 : wr.cell? ⟨gA, 0, none⟩ = some (.slice (some ⟨gC, 0, none⟩) n1 mC) := HE.out.2.1.cell 0
    have q1 : wr.cell? ⟨gA, 1, none⟩ = some (.slice x2 n2 y2) := HE.out.2.1.cell 1
    have q2 : wr.cell? ⟨gA, 2, none⟩ = some (.slice (some ⟨gP, 0, none⟩) n3 mP) := HE.out.2.1.cell 2
    have r0 : wr.cell? ⟨w.heap.size + 1, 0, none⟩ = some (.slice none 0 0) := HE.out.1.2.2.1.cell 0
    have r1 : wr.cell? ⟨w.heap.size + 1, 1, none⟩ = some (.slice none 0 0) := HE.out.1.2.2.1.cell 1
    have r2 : wr.cell? ⟨w.heap.size + 1, 2, none⟩ = some (.slice none 0 0) := HE.out.1.2.2.1.cell 2
    have rf := fun i => HE.out.1.2.2.1.free i
    go_wp2_with fail
    refine bodyPost_ret (v := .agg #[.slice (some ⟨gC, 0, none⟩) n1 mC, .slice x2 n2 y2, .slice (some ⟨gP, 0, none⟩) n3 mP]) (by simp [results, Tryz.results52, go_sem, r0, r1, r2]) rfl ⟨_, _, _, _, _, _, f1 ++ (f2 ++ [gP]), rfl, OwnO.base (OwnO.same (w := wr) (base := (w.heap.size + 1 + 1)) ⟨_, _, _, f1, f2, [gP], rfl, HE.out.2.2.1, HE.out.2.2.2.2.1, HE.out.2.2.2.1, rfl, ?nd⟩ ?far) (by omega), ?bel⟩
    case nd =>
     exact nodup_app HE.out.2.2.1.nodup (nodup_app HE.out.2.2.2.2.1.nodup (by simp) fun y h1 h2 => HE.out.2.2.2.2.2.2.2 (List.mem_singleton.1 h2 ▸ h1)) fun y h1 h2 => by
      rcases List.mem_append.1 h2 with h2 | h2
      ·exact HE.out.2.2.2.2.2.2.1 y h1 h2
      ·exact HG.out.2.2.2 (List.mem_singleton.1 h2 ▸ h1)
    case far =>
     intro b hb
     have hlt : w.heap.size + 1 + 1 <= b := by
      rcases List.mem_append.1 hb with hb | hb
      ·exact (HE.out.2.2.1.lt b hb).1
      ·rcases List.mem_append.1 hb with hb | hb
       ·exact (HE.out.2.2.2.2.1.lt b hb).1
       ·exact (HE.out.2.2.2.1.lt b hb).1
     iterate 3 rw [heap_setCell_other _ _ _ _ (by show b ≠ w.heap.size + 1; omega)]
    case bel =>
     iterate 3 refine Below.setCell ?_ (by show w.heap.size <= w.heap.size + 1; omega) _
     exact HE.out.1.1
end Go.Proofs.YtplblechcnbieaaGreat
