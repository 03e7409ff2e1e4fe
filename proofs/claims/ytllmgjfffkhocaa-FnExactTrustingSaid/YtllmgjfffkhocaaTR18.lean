/-
  Texts of the proof.
-/
import Derived.Deep.RegionHeld3
import Derived.Deep.Cut
import Derived.Test.YtllmgjfffkhocaaTR17
set_option maxRecDepth 100000
set_option maxHeartbeats 25600000
namespace Go.Proofs.Ytllmgjfffkhocaa
open Go.RowKit
set_option linter.unusedVariables false
set_option linter.unusedSimpArgs false
def KSo (w W : World) (P : Array Value) : Prop := Below w.heap.size w W /\ Blk W w.heap.size 37 P /\ Blk W (w.heap.size + 1) 37 #[.slice none 0 0, .slice none 0 0, .slice none 0 0] /\ w.heap.size + 1 + 1 <= W.heap.size
theorem KSo.below {w W W' : World} {P : Array Value} (h : KSo w W P) (hb : Below W.heap.size W W') : KSo w W' P := ⟨h.1.trans (hb.mono h.1.size), h.2.1.below hb h.2.1.lt, h.2.2.1.below hb h.2.2.1.lt, Nat.le_trans h.2.2.2 hb.size⟩
theorem KSo.grown {w W W' : World} {P : Array Value} {row : Option Nat} (h : KSo w W P) (hg : W.grownBy W' row) (hr : ∀ q, row = some q -> w.heap.size + 1 + 1 <= q) : KSo w W' P :=
 ⟨h.1.grown hg h.1.size (fun q e => by have := hr q e; omega), (hg.block _ h.2.1.lt (fun e => by have := hr _ e.symm; omega)).trans h.2.1, (hg.block _ h.2.2.1.lt (fun e => by have := hr _ e.symm; omega)).trans h.2.2.1, Nat.le_trans h.2.2.2 hg.size⟩
theorem KSo.set {w W : World} {P : Array Value} (h : KSo w W P) {g i : Nat} {v : Value} (hg : w.heap.size + 1 + 1 <= g) : KSo w (W.setCell ⟨g, i, none⟩ v) P :=
 ⟨Below.setCell h.1 (by show w.heap.size <= g; omega) _, h.2.1.other _ (by show w.heap.size ≠ g; omega), h.2.2.1.other _ (by show w.heap.size + 1 ≠ g; omega), Nat.le_trans h.2.2.2 (sizeSet _ _ _)⟩
def KCo (w W : World) (P : Array Value) (gA : Nat) (cv av : Value) (s : So) (f1 : List Nat) (gP : Nat) : Prop := KSo w W P /\ Blk W gA 37 #[cv, .slice none 0 0, av] /\ w.heap.size + 1 + 1 <= gA /\ OwnS certKd W (w.heap.size + 1 + 1) cv s.certs f1 /\ OwnS anKd W (w.heap.size + 1 + 1) av s.ancs [gP] /\ gA ∉ f1 /\ gA ≠ gP /\ gP ∉ f1
theorem KCo.mk {w X : World} {P : Array Value} {gA gP : Nat} {cv av : Value} {s : So} {f1 : List Nat} (hK : KSo w X P) (hA : Blk X gA 37 #[.slice none 0 0, .slice none 0 0, .slice none 0 0]) (hg : w.heap.size + 1 + 1 <= gA) (h1 : OwnS certKd X (w.heap.size + 1 + 1) cv s.certs f1) (h3 : OwnS anKd X (w.heap.size + 1 + 1) av s.ancs [gP]) (d1 : gA ∉ f1) (d2 : gA ≠ gP) (d3 : gP ∉ f1) :
  KCo w (((X.setCell ⟨gA, 0, none⟩ cv).setCell ⟨gA, 1, none⟩ (.slice none 0 0)).setCell ⟨gA, 2, none⟩ av) P gA cv av s f1 gP := by
 have far : ∀ b, b ≠ gA -> (((X.setCell ⟨gA, 0, none⟩ cv).setCell ⟨gA, 1, none⟩ (.slice none 0 0)).setCell ⟨gA, 2, none⟩ av).heap[b]? = X.heap[b]? := fun b hb => by
  rw [heap_setCell_other _ _ _ _ (by exact hb), heap_setCell_other _ _ _ _ (by exact hb), heap_setCell_other _ _ _ _ (by exact hb)]
 exact ⟨((hK.set hg).set hg).set hg, ((hA.set 0 cv).set 1 _).set 2 av, hg, h1.same (fun b hb => far b (fun e => d1 (e ▸ hb))), h3.same (fun b hb => far b (fun e => d2 (e.symm.trans (List.mem_singleton.1 hb)))), d1, d2, d3⟩
theorem l13Copy_any (s : So) (v : Value) (w : World) (hok : OkO s) (h : SoSh w v s) : Calls Try.prog 60 #[v] w fun e w' => ∃ x1 y1 x2 y2 x3 y3 fp, e = .returned (.agg #[.slice x1 s.certs.length y1, .slice x2 s.crls.length y2, .slice x3 s.ancs.length y3]) /\ OwnO w' w.heap.size (.agg #[.slice x1 s.certs.length y1, .slice x2 s.crls.length y2, .slice x3 s.ancs.length y3]) s fp /\ Below w.heap.size w w' := by
 obtain ⟨i2, hi2, hz02, hz12, hz22⟩ := info_parts infoCrl
 obtain ⟨a1, c1, a2, c2, a3, c3, rfl, h1, h2, h3⟩ := h
 have EC : Hid (∀ W, Below w.heap.size w W -> Calls Try.prog 86 #[.slice a1 s.certs.length c1] W fun e w' => ∃ g m f, e = .returned (.slice (some ⟨g, 0, none⟩) s.certs.length m) /\ OwnS certKd w' W.heap.size (.slice (some ⟨g, 0, none⟩) s.certs.length m) s.certs f /\ Below W.heap.size W w') := fun W hb => l13Certs_any s.certs _ W hok.1.1 (fun c hc => (hok.2.1 c hc).1) (h1.below hb)
 obtain ⟨n1, e1⟩ := zE (s.certs.length)
 obtain ⟨n2, e2⟩ := zE (s.crls.length)
 obtain ⟨n3, e3⟩ := zE (s.ancs.length)
 have l2 : n2 <= 2000000 := by rw [<- e2]; exact hok.1.2.1
 have l3 : n3 <= 2000000 := by rw [<- e3]; exact hok.1.2.2
 rw [e1] at EC
 rw [e2] at h2
 rw [e3] at h3
 rw [e1, e2, e3]
 have HX2 : Hid (ShS crlKd w (.slice a2 n2 c2) s.crls /\ s.crls.length = n2 /\ (∀ c ∈ s.crls, wtL c <= 1048576)) := ⟨h2, e2, fun c hc => (hok.2.2.1 c hc).1⟩
 have HX3 : Hid (ShS anKd w (.slice a3 n3 c3) s.ancs /\ s.ancs.length = n3) := ⟨h3, e3⟩
 clear h1 h2 h3 e1 e2 e3 hok
 go_enter Try.func60, Try.ntmps60
 go_upto_region 1 with fail
 go_cut [3] from 5 (fun s3 wx => ∃ (gA gC mC : Nat) (f1 : List Nat) (gP mP : Nat), s3 = .pointer (some ⟨gA, 0, none⟩) /\ Hid (KCo w wx #[.slice a1 n1 c1, .slice a2 n2 c2, .slice a3 n3 c3] gA (.slice (some ⟨gC, 0, none⟩) n1 mC) (.slice (some ⟨gP, 0, none⟩) n3 mP) s f1 gP))
 case first =>
  have HD : KSo w ((w.alloc (Obj.cells #[.slice a1 n1 c1, .slice a2 n2 c2, .slice a3 n3 c3] 37)).alloc (Obj.cells #[.slice none 0 0, .slice none 0 0, .slice none 0 0] 37)).drew #[.slice a1 n1 c1, .slice a2 n2 c2, .slice a3 n3 c3] := by
   have e0 : (w.alloc (Obj.cells #[.slice a1 n1 c1, .slice a2 n2 c2, .slice a3 n3 c3] 37)).heap.size = w.heap.size + 1 := Array.size_push _
   have hb := Blk.new (w.alloc (Obj.cells #[.slice a1 n1 c1, .slice a2 n2 c2, .slice a3 n3 c3] 37)) 37 #[.slice none 0 0, .slice none 0 0, .slice none 0 0]
   rw [e0] at hb
   exact KSo.below (W := (w.alloc (Obj.cells #[.slice a1 n1 c1, .slice a2 n2 c2, .slice a3 n3 c3] 37)).alloc (Obj.cells #[.slice none 0 0, .slice none 0 0, .slice none 0 0] 37)) ⟨((Below.refl _ _).alloc (Nat.le_refl _) _).alloc (by rw [e0]; omega) _, (Blk.new w _ _).alloc _, hb, by rw [size_alloc, e0]; omega⟩ (Below.refl _ _).drew
  refine wp_region_held_drew (S := fun W => KSo w W #[.slice a1 n1 c1, .slice a2 n2 c2, .slice a3 n3 c3]) (by kernel_rfl) HD (fun hHeld => ?_)
  generalize ((w.alloc (Obj.cells #[.slice a1 n1 c1, .slice a2 n2 c2, .slice a3 n3 c3] 37)).alloc (Obj.cells #[.slice none 0 0, .slice none 0 0, .slice none 0 0] 37)).drew = wd at HD hHeld |-
  have H0 : Hid (KSo w wd #[.slice a1 n1 c1, .slice a2 n2 c2, .slice a3 n3 c3]) := HD
  clear HD
  refine zT 0 5 ?_ rfl (by rfl) ?_ hHeld ?_
  rotate_left
  ·intro W hSw
   go_simp
   try with_reducible rfl
  try simp only [Act.put, zA, zB, zC]
  refine zT 1 6 ?_ rfl (by rfl) ?_ hHeld ?_
  rotate_left
  ·intro W hSw
   have l0 : W.cell? ⟨w.heap.size, 0, none⟩ = some (.slice a1 n1 c1) := hSw.2.1.cell 0
   have l2 : W.cell? ⟨w.heap.size, 2, none⟩ = some (.slice a3 n3 c3) := hSw.2.1.cell 2
   go_simp
   try with_reducible rfl
  try simp only [Act.put, zA, zB, zC]
  refine zT 4 9 ?_ rfl (by rfl) ?_ hHeld ?_
  rotate_left
  ·intro W hSw
   go_simp
   try with_reducible rfl
  try simp only [Act.put, zA, zB, zC]
  refine zT 5 10 ?_ rfl (by rfl) ?_ hHeld ?_
  rotate_left
  ·intro W hSw
   have l0 : W.cell? ⟨w.heap.size, 0, none⟩ = some (.slice a1 n1 c1) := hSw.2.1.cell 0
   have l2 : W.cell? ⟨w.heap.size, 2, none⟩ = some (.slice a3 n3 c3) := hSw.2.1.cell 2
   go_simp
   try with_reducible rfl
  try simp only [Act.put, zA, zB, zC]
  refine wpAnyH_ready (rs := [2, 3, 8]) (by kernel_rfl) (by simp) ?_
  refine AllReadyH.cons (o := ⟨some 7, _, _, _, _, _⟩) rfl (fun K hK => ?_) (AllReadyH.cons (o := ⟨some 8, _, _, _, _, _⟩) rfl (fun K hK => ?_) (AllReadyH.cons (o := ⟨some 3, _, _, _, _, _⟩) rfl (fun K hK => ?_) AllReadyH.nil))
  ·go_simp
   refine (EC.out _ hHeld.1).mono ?_
   rintro e y1 ⟨gC, mC, f1, rfl, ho, hb⟩
   have H1 : Hid (KSo w y1 #[.slice a1 n1 c1, .slice a2 n2 c2, .slice a3 n3 c3] /\ OwnS certKd y1 (w.heap.size + 1 + 1) (.slice (some ⟨gC, 0, none⟩) n1 mC) s.certs f1) := ⟨H0.out.below hb, ho.base H0.out.2.2.2⟩
   clear ho hb hHeld H0
   refine hK.out _ _ H1.out.1 (fun hHeld => ?_)
   clear hK K
   try simp only [Act.put, zA, zB, zC]
   refine wpAnyH_ready (rs := [3, 8]) (by kernel_rfl) (by simp) ?_
   refine AllReadyH.cons (o := ⟨some 8, _, _, _, _, _⟩) rfl (fun K hK => ?_) (AllReadyH.cons (o := ⟨some 3, _, _, _, _, _⟩) rfl (fun K hK => ?_) AllReadyH.nil)
   ·go_simp
    obtain ⟨y2, hY⟩ : ∃ Y, Y = y1.alloc (Obj.cells #[] 97) := ⟨_, rfl⟩
    rw [<- hY]
    have hb : Below y1.heap.size y1 y2 := by rw [hY]; exact (Below.refl _ _).alloc (Nat.le_refl _) _
    have H2a : Hid (KSo w y2 #[.slice a1 n1 c1, .slice a2 n2 c2, .slice a3 n3 c3] /\ OwnS certKd y2 (w.heap.size + 1 + 1) (.slice (some ⟨gC, 0, none⟩) n1 mC) s.certs f1 /\ (y2.ownsRow (w.heap.size + 1 + 1) 97 2 (.slice (some ⟨y1.heap.size, 0, none⟩) 0 0) 0 [] /\ y1.heap.size < y2.heap.size) /\ y1.heap.size ∉ f1) := ⟨H1.out.1.below hb, H1.out.2.stays hb, ⟨by rw [hY]; exact World.ownsRow_made y1 #[] 0 H1.out.1.2.2.2 (Nat.zero_le _) (by simp), by rw [hY, size_alloc]; omega⟩, (fun hm => by have g1 := (H1.out.2.lt _ hm).2; omega)⟩
    obtain ⟨gB, hg⟩ := zE (y1.heap.size)
    rw [hg] at H2a |-
    have H2 : Hid (KSo w y2 #[.slice a1 n1 c1, .slice a2 n2 c2, .slice a3 n3 c3] /\ OwnS certKd y2 (w.heap.size + 1 + 1) (.slice (some ⟨gC, 0, none⟩) n1 mC) s.certs f1 /\ (y2.ownsRow (w.heap.size + 1 + 1) 97 2 (.slice (some ⟨gB, 0, none⟩) 0 0) 0 [] /\ gB < y2.heap.size) /\ gB ∉ f1) := H2a.out
    clear hY hb hg hHeld H1 H2a
    refine hK.out _ _ H2.out.1 (fun hHeld => ?_)
    clear hK K
    try simp only [Act.put, zA, zB, zC]
    refine wpAnyH_ready (rs := [6, 8]) (by kernel_rfl) (by simp) ?_
    refine AllReadyH.cons (o := ⟨some 11, _, _, _, _, _⟩) rfl (fun K hK => ?_) (AllReadyH.cons (o := ⟨some 3, _, _, _, _, _⟩) rfl (fun K hK => ?_) AllReadyH.nil)
    ·refine step_app_an (o := ⟨some 11, _, _, _, _, _⟩) rfl (.tmp 8) (.tmp 10) rfl (w.heap.size + 1 + 1) gB (by rfl) H2.out.2.2.1.1 (.slice a3 n3 c3) s.ancs (by rfl) (HX3.out.1.below (H2.out.1.1)) n3 HX3.out.2 (by omega) H2.out.1.2.2.2 ?_
     intro gP mP y3 hop hgp hgrow
     have H3 : Hid (KSo w y3 #[.slice a1 n1 c1, .slice a2 n2 c2, .slice a3 n3 c3] /\ OwnS certKd y3 (w.heap.size + 1 + 1) (.slice (some ⟨gC, 0, none⟩) n1 mC) s.certs f1 /\ (OwnS anKd y3 (w.heap.size + 1 + 1) (.slice (some ⟨gP, 0, none⟩) n3 mP) s.ancs [gP] /\ gP < y3.heap.size) /\ gP ∉ f1) := ⟨H2.out.1.grown hgrow (fun q e => by have e2 := Option.some.inj e; have := (H2.out.2.2.1.1.lt gB rfl).1; omega), H2.out.2.1.same (fun b hb => hgrow.block b (H2.out.2.1.lt b hb).2 (fun e => by have e2 := (Option.some.inj e); subst e2; exact H2.out.2.2.2 hb)), ⟨hop, hop.lt gP (by simp) |>.2⟩, (fun hm => by rcases hgp with hgp | hgp; exact H2.out.2.2.2 (hgp ▸ hm); have := (H2.out.2.1.lt _ hm).2; omega)⟩
     clear hop hgp hgrow hHeld H2
     refine hK.out _ _ H3.out.1 (fun hHeld => ?_)
     clear hK K
     try simp only [Act.put, zA, zB, zC]
     refine zT 7 12 ?_ rfl (by rfl) ?_ hHeld ?_
     rotate_left
     ·intro W hSw
      go_simp
      try with_reducible rfl
     try simp only [Act.put, zA, zB, zC]
     refine wpAnyH_ready (rs := [8]) (by kernel_rfl) (by simp) ?_
     refine AllReadyH.cons (o := ⟨some 3, _, _, _, _, _⟩) rfl (fun K hK => ?_) AllReadyH.nil
     go_simp
     obtain ⟨y4, hY⟩ : ∃ Y, Y = y3.alloc (Obj.cells #[.slice none 0 0, .slice none 0 0, .slice none 0 0] 37) := ⟨_, rfl⟩
     rw [<- hY]
     have hb : Below y3.heap.size y3 y4 := by rw [hY]; exact (Below.refl _ _).alloc (Nat.le_refl _) _
     have H4a : Hid (KSo w y4 #[.slice a1 n1 c1, .slice a2 n2 c2, .slice a3 n3 c3] /\ OwnS certKd y4 (w.heap.size + 1 + 1) (.slice (some ⟨gC, 0, none⟩) n1 mC) s.certs f1 /\ (Blk y4 y3.heap.size 37 #[.slice none 0 0, .slice none 0 0, .slice none 0 0] /\ w.heap.size + 1 + 1 <= y3.heap.size) /\ (OwnS anKd y4 (w.heap.size + 1 + 1) (.slice (some ⟨gP, 0, none⟩) n3 mP) s.ancs [gP] /\ gP < y4.heap.size) /\ y3.heap.size ∉ f1 /\ gP ∉ f1 /\ y3.heap.size ≠ gP) := ⟨H3.out.1.below hb, H3.out.2.1.stays hb, ⟨by rw [hY]; exact Blk.new y3 _ _, H3.out.1.2.2.2⟩, ⟨H3.out.2.2.1.1.stays hb, Nat.lt_of_lt_of_le H3.out.2.2.1.2 hb.size⟩, (fun hm => by have g1 := (H3.out.2.1.lt _ hm).2; omega), H3.out.2.2.2, (fun e => by have g1 := H3.out.2.2.1.2; omega)⟩
     obtain ⟨gA, hg⟩ := zE (y3.heap.size)
     rw [hg] at H4a |-
     have H4 : Hid (KSo w y4 #[.slice a1 n1 c1, .slice a2 n2 c2, .slice a3 n3 c3] /\ OwnS certKd y4 (w.heap.size + 1 + 1) (.slice (some ⟨gC, 0, none⟩) n1 mC) s.certs f1 /\ (Blk y4 gA 37 #[.slice none 0 0, .slice none 0 0, .slice none 0 0] /\ w.heap.size + 1 + 1 <= gA) /\ (OwnS anKd y4 (w.heap.size + 1 + 1) (.slice (some ⟨gP, 0, none⟩) n3 mP) s.ancs [gP] /\ gP < y4.heap.size) /\ gA ∉ f1 /\ gP ∉ f1 /\ gA ≠ gP) := H4a.out
     clear hY hb hg hHeld H3 H4a
     refine hK.out _ _ H4.out.1 (fun hHeld => ?_)
     clear hK K
     try simp only [Act.put, zA, zB, zC]
     refine wpAnyH_ready (rs := [9]) (by kernel_rfl) (by simp) ?_
     refine AllReadyH.cons (o := ⟨none, _, _, _, _, _⟩) rfl (fun K hK => ?_) AllReadyH.nil
     have z0 : y4.cell? ⟨gA, 0, none⟩ = some (.slice none 0 0) := H4.out.2.2.1.1.cell 0
     have z1 : y4.cell? ⟨gA, 1, none⟩ = some (.slice none 0 0) := H4.out.2.2.1.1.cell 1
     have z2 : y4.cell? ⟨gA, 2, none⟩ = some (.slice none 0 0) := H4.out.2.2.1.1.cell 2
     have zf := fun i => H4.out.2.2.1.1.free i
     go_simp
     obtain ⟨Y, hY⟩ : ∃ Y, Y = ((y4.setCell ⟨gA, 0, none⟩ (.slice (some ⟨gC, 0, none⟩) n1 mC)).setCell ⟨gA, 1, none⟩ (.slice none 0 0)).setCell ⟨gA, 2, none⟩ (.slice (some ⟨gP, 0, none⟩) n3 mP) := ⟨_, rfl⟩
     have HY : Hid (KCo w Y #[.slice a1 n1 c1, .slice a2 n2 c2, .slice a3 n3 c3] gA (.slice (some ⟨gC, 0, none⟩) n1 mC) (.slice (some ⟨gP, 0, none⟩) n3 mP) s f1 gP) := by
      rw [hY]
      exact KCo.mk H4.out.1 H4.out.2.2.1.1 H4.out.2.2.1.2 H4.out.2.1 H4.out.2.2.2.1.1 H4.out.2.2.2.2.1 H4.out.2.2.2.2.2.2 H4.out.2.2.2.2.2.1
     rw [<- hY]
     clear hY z0 z1 z2 zf H4
     refine hK.out _ _ HY.out.1 (fun hHeld => ?_)
     clear hK K hHeld
     refine wpAnyH_done (by kernel_rfl) ?_ _
     go_wp2_with fail
     go_meet
     exact ⟨gA, gC, mC, f1, gP, mP, rfl, HY⟩
    ·go_simp
     obtain ⟨y5, hY⟩ : ∃ Y, Y = y2.alloc (Obj.cells #[.slice none 0 0, .slice none 0 0, .slice none 0 0] 37) := ⟨_, rfl⟩
     rw [<- hY]
     have hb : Below y2.heap.size y2 y5 := by rw [hY]; exact (Below.refl _ _).alloc (Nat.le_refl _) _
     have H5a : Hid (KSo w y5 #[.slice a1 n1 c1, .slice a2 n2 c2, .slice a3 n3 c3] /\ OwnS certKd y5 (w.heap.size + 1 + 1) (.slice (some ⟨gC, 0, none⟩) n1 mC) s.certs f1 /\ (Blk y5 y2.heap.size 37 #[.slice none 0 0, .slice none 0 0, .slice none 0 0] /\ w.heap.size + 1 + 1 <= y2.heap.size) /\ (y5.ownsRow (w.heap.size + 1 + 1) 97 2 (.slice (some ⟨gB, 0, none⟩) 0 0) 0 [] /\ gB < y5.heap.size) /\ y2.heap.size ∉ f1 /\ gB ∉ f1 /\ y2.heap.size ≠ gB) := ⟨H2.out.1.below hb, H2.out.2.1.stays hb, ⟨by rw [hY]; exact Blk.new y2 _ _, H2.out.1.2.2.2⟩, ⟨own_kept H2.out.2.2.1.1 hb, Nat.lt_of_lt_of_le H2.out.2.2.1.2 hb.size⟩, (fun hm => by have g1 := (H2.out.2.1.lt _ hm).2; omega), H2.out.2.2.2, (fun e => by have g1 := H2.out.2.2.1.2; omega)⟩
     obtain ⟨gA, hg⟩ := zE (y2.heap.size)
     rw [hg] at H5a |-
     have H5 : Hid (KSo w y5 #[.slice a1 n1 c1, .slice a2 n2 c2, .slice a3 n3 c3] /\ OwnS certKd y5 (w.heap.size + 1 + 1) (.slice (some ⟨gC, 0, none⟩) n1 mC) s.certs f1 /\ (Blk y5 gA 37 #[.slice none 0 0, .slice none 0 0, .slice none 0 0] /\ w.heap.size + 1 + 1 <= gA) /\ (y5.ownsRow (w.heap.size + 1 + 1) 97 2 (.slice (some ⟨gB, 0, none⟩) 0 0) 0 [] /\ gB < y5.heap.size) /\ gA ∉ f1 /\ gB ∉ f1 /\ gA ≠ gB) := H5a.out
     clear hY hb hg hHeld H2 H5a
     refine hK.out _ _ H5.out.1 (fun hHeld => ?_)
     clear hK K
     try simp only [Act.put, zA, zB, zC]
     refine wpAnyH_ready (rs := [6]) (by kernel_rfl) (by simp) ?_
     refine AllReadyH.cons (o := ⟨some 11, _, _, _, _, _⟩) rfl (fun K hK => ?_) AllReadyH.nil
     refine step_app_an (o := ⟨some 11, _, _, _, _, _⟩) rfl (.tmp 8) (.tmp 10) rfl (w.heap.size + 1 + 1) gB (by rfl) H5.out.2.2.2.1.1 (.slice a3 n3 c3) s.ancs (by rfl) (HX3.out.1.below (H5.out.1.1)) n3 HX3.out.2 (by omega) H5.out.1.2.2.2 ?_
     intro gP mP y6 hop hgp hgrow
     have H6 : Hid (KSo w y6 #[.slice a1 n1 c1, .slice a2 n2 c2, .slice a3 n3 c3] /\ OwnS certKd y6 (w.heap.size + 1 + 1) (.slice (some ⟨gC, 0, none⟩) n1 mC) s.certs f1 /\ (Blk y6 gA 37 #[.slice none 0 0, .slice none 0 0, .slice none 0 0] /\ w.heap.size + 1 + 1 <= gA) /\ (OwnS anKd y6 (w.heap.size + 1 + 1) (.slice (some ⟨gP, 0, none⟩) n3 mP) s.ancs [gP] /\ gP < y6.heap.size) /\ gA ∉ f1 /\ gP ∉ f1 /\ gA ≠ gP) := ⟨H5.out.1.grown hgrow (fun q e => by have e2 := Option.some.inj e; have := (H5.out.2.2.2.1.1.lt gB rfl).1; omega), H5.out.2.1.same (fun b hb => hgrow.block b (H5.out.2.1.lt b hb).2 (fun e => by have e2 := (Option.some.inj e); subst e2; exact H5.out.2.2.2.2.2.1 hb)), ⟨(hgrow.block _ H5.out.2.2.1.1.lt (fun e => H5.out.2.2.2.2.2.2 (Option.some.inj e))).trans H5.out.2.2.1.1, H5.out.2.2.1.2⟩, ⟨hop, hop.lt gP (by simp) |>.2⟩, H5.out.2.2.2.2.1, (fun hm => by rcases hgp with hgp | hgp; exact H5.out.2.2.2.2.2.1 (hgp ▸ hm); have := (H5.out.2.1.lt _ hm).2; omega), (fun e => by rcases hgp with hgp | hgp; exact H5.out.2.2.2.2.2.2 (e.trans hgp); have := H5.out.2.2.1.1.lt; omega)⟩
     clear hop hgp hgrow hHeld H5
     refine hK.out _ _ H6.out.1 (fun hHeld => ?_)
     clear hK K
     try simp only [Act.put, zA, zB, zC]
     refine zT 7 12 ?_ rfl (by rfl) ?_ hHeld ?_
     rotate_left
     ·intro W hSw
      go_simp
      try with_reducible rfl
     try simp only [Act.put, zA, zB, zC]
     refine wpAnyH_ready (rs := [9]) (by kernel_rfl) (by simp) ?_
     refine AllReadyH.cons (o := ⟨none, _, _, _, _, _⟩) rfl (fun K hK => ?_) AllReadyH.nil
     have z0 : y6.cell? ⟨gA, 0, none⟩ = some (.slice none 0 0) := H6.out.2.2.1.1.cell 0
     have z1 : y6.cell? ⟨gA, 1, none⟩ = some (.slice none 0 0) := H6.out.2.2.1.1.cell 1
     have z2 : y6.cell? ⟨gA, 2, none⟩ = some (.slice none 0 0) := H6.out.2.2.1.1.cell 2
     have zf := fun i => H6.out.2.2.1.1.free i
     go_simp
     obtain ⟨Y, hY⟩ : ∃ Y, Y = ((y6.setCell ⟨gA, 0, none⟩ (.slice (some ⟨gC, 0, none⟩) n1 mC)).setCell ⟨gA, 1, none⟩ (.slice none 0 0)).setCell ⟨gA, 2, none⟩ (.slice (some ⟨gP, 0, none⟩) n3 mP) := ⟨_, rfl⟩
     have HY : Hid (KCo w Y #[.slice a1 n1 c1, .slice a2 n2 c2, .slice a3 n3 c3] gA (.slice (some ⟨gC, 0, none⟩) n1 mC) (.slice (some ⟨gP, 0, none⟩) n3 mP) s f1 gP) := by
      rw [hY]
      exact KCo.mk H6.out.1 H6.out.2.2.1.1 H6.out.2.2.1.2 H6.out.2.1 H6.out.2.2.2.1.1 H6.out.2.2.2.2.1 H6.out.2.2.2.2.2.2 H6.out.2.2.2.2.2.1
     rw [<- hY]
     clear hY z0 z1 z2 zf H6
     refine hK.out _ _ HY.out.1 (fun hHeld => ?_)
     clear hK K hHeld
     refine wpAnyH_done (by kernel_rfl) ?_ _
     go_wp2_with fail
     go_meet
     exact ⟨gA, gC, mC, f1, gP, mP, rfl, HY⟩
   ·go_simp
    obtain ⟨y7, hY⟩ : ∃ Y, Y = y1.alloc (Obj.cells #[.slice none 0 0, .slice none 0 0, .slice none 0 0] 37) := ⟨_, rfl⟩
    rw [<- hY]
    have hb : Below y1.heap.size y1 y7 := by rw [hY]; exact (Below.refl _ _).alloc (Nat.le_refl _) _
    have H7a : Hid (KSo w y7 #[.slice a1 n1 c1, .slice a2 n2 c2, .slice a3 n3 c3] /\ OwnS certKd y7 (w.heap.size + 1 + 1) (.slice (some ⟨gC, 0, none⟩) n1 mC) s.certs f1 /\ (Blk y7 y1.heap.size 37 #[.slice none 0 0, .slice none 0 0, .slice none 0 0] /\ w.heap.size + 1 + 1 <= y1.heap.size) /\ y1.heap.size ∉ f1) := ⟨H1.out.1.below hb, H1.out.2.stays hb, ⟨by rw [hY]; exact Blk.new y1 _ _, H1.out.1.2.2.2⟩, (fun hm => by have g1 := (H1.out.2.lt _ hm).2; omega)⟩
    obtain ⟨gA, hg⟩ := zE (y1.heap.size)
    rw [hg] at H7a |-
    have H7 : Hid (KSo w y7 #[.slice a1 n1 c1, .slice a2 n2 c2, .slice a3 n3 c3] /\ OwnS certKd y7 (w.heap.size + 1 + 1) (.slice (some ⟨gC, 0, none⟩) n1 mC) s.certs f1 /\ (Blk y7 gA 37 #[.slice none 0 0, .slice none 0 0, .slice none 0 0] /\ w.heap.size + 1 + 1 <= gA) /\ gA ∉ f1) := H7a.out
    clear hY hb hg hHeld H1 H7a
    refine hK.out _ _ H7.out.1 (fun hHeld => ?_)
    clear hK K
    try simp only [Act.put, zA, zB, zC]
    refine wpAnyH_ready (rs := [3]) (by kernel_rfl) (by simp) ?_
    refine AllReadyH.cons (o := ⟨some 8, _, _, _, _, _⟩) rfl (fun K hK => ?_) AllReadyH.nil
    go_simp
    obtain ⟨y8, hY⟩ : ∃ Y, Y = y7.alloc (Obj.cells #[] 97) := ⟨_, rfl⟩
    rw [<- hY]
    have hb : Below y7.heap.size y7 y8 := by rw [hY]; exact (Below.refl _ _).alloc (Nat.le_refl _) _
    have H8a : Hid (KSo w y8 #[.slice a1 n1 c1, .slice a2 n2 c2, .slice a3 n3 c3] /\ OwnS certKd y8 (w.heap.size + 1 + 1) (.slice (some ⟨gC, 0, none⟩) n1 mC) s.certs f1 /\ (Blk y8 gA 37 #[.slice none 0 0, .slice none 0 0, .slice none 0 0] /\ w.heap.size + 1 + 1 <= gA) /\ (y8.ownsRow (w.heap.size + 1 + 1) 97 2 (.slice (some ⟨y7.heap.size, 0, none⟩) 0 0) 0 [] /\ y7.heap.size < y8.heap.size) /\ gA ∉ f1 /\ y7.heap.size ∉ f1 /\ gA ≠ y7.heap.size) := ⟨H7.out.1.below hb, H7.out.2.1.stays hb, ⟨H7.out.2.2.1.1.below hb H7.out.2.2.1.1.lt, H7.out.2.2.1.2⟩, ⟨by rw [hY]; exact World.ownsRow_made y7 #[] 0 H7.out.1.2.2.2 (Nat.zero_le _) (by simp), by rw [hY, size_alloc]; omega⟩, H7.out.2.2.2, (fun hm => by have g1 := (H7.out.2.1.lt _ hm).2; omega), (fun e => by have g1 := H7.out.2.2.1.1.lt; omega)⟩
    obtain ⟨gB, hg⟩ := zE (y7.heap.size)
    rw [hg] at H8a |-
    have H8 : Hid (KSo w y8 #[.slice a1 n1 c1, .slice a2 n2 c2, .slice a3 n3 c3] /\ OwnS certKd y8 (w.heap.size + 1 + 1) (.slice (some ⟨gC, 0, none⟩) n1 mC) s.certs f1 /\ (Blk y8 gA 37 #[.slice none 0 0, .slice none 0 0, .slice none 0 0] /\ w.heap.size + 1 + 1 <= gA) /\ (y8.ownsRow (w.heap.size + 1 + 1) 97 2 (.slice (some ⟨gB, 0, none⟩) 0 0) 0 [] /\ gB < y8.heap.size) /\ gA ∉ f1 /\ gB ∉ f1 /\ gA ≠ gB) := H8a.out
    clear hY hb hg hHeld H7 H8a
    refine hK.out _ _ H8.out.1 (fun hHeld => ?_)
    clear hK K
    try simp only [Act.put, zA, zB, zC]
    refine wpAnyH_ready (rs := [6]) (by kernel_rfl) (by simp) ?_
    refine AllReadyH.cons (o := ⟨some 11, _, _, _, _, _⟩) rfl (fun K hK => ?_) AllReadyH.nil
    refine step_app_an (o := ⟨some 11, _, _, _, _, _⟩) rfl (.tmp 8) (.tmp 10) rfl (w.heap.size + 1 + 1) gB (by rfl) H8.out.2.2.2.1.1 (.slice a3 n3 c3) s.ancs (by rfl) (HX3.out.1.below (H8.out.1.1)) n3 HX3.out.2 (by omega) H8.out.1.2.2.2 ?_
    intro gP mP y9 hop hgp hgrow
    have H9 : Hid (KSo w y9 #[.slice a1 n1 c1, .slice a2 n2 c2, .slice a3 n3 c3] /\ OwnS certKd y9 (w.heap.size + 1 + 1) (.slice (some ⟨gC, 0, none⟩) n1 mC) s.certs f1 /\ (Blk y9 gA 37 #[.slice none 0 0, .slice none 0 0, .slice none 0 0] /\ w.heap.size + 1 + 1 <= gA) /\ (OwnS anKd y9 (w.heap.size + 1 + 1) (.slice (some ⟨gP, 0, none⟩) n3 mP) s.ancs [gP] /\ gP < y9.heap.size) /\ gA ∉ f1 /\ gP ∉ f1 /\ gA ≠ gP) := ⟨H8.out.1.grown hgrow (fun q e => by have e2 := Option.some.inj e; have := (H8.out.2.2.2.1.1.lt gB rfl).1; omega), H8.out.2.1.same (fun b hb => hgrow.block b (H8.out.2.1.lt b hb).2 (fun e => by have e2 := (Option.some.inj e); subst e2; exact H8.out.2.2.2.2.2.1 hb)), ⟨(hgrow.block _ H8.out.2.2.1.1.lt (fun e => H8.out.2.2.2.2.2.2 (Option.some.inj e))).trans H8.out.2.2.1.1, H8.out.2.2.1.2⟩, ⟨hop, hop.lt gP (by simp) |>.2⟩, H8.out.2.2.2.2.1, (fun hm => by rcases hgp with hgp | hgp; exact H8.out.2.2.2.2.2.1 (hgp ▸ hm); have := (H8.out.2.1.lt _ hm).2; omega), (fun e => by rcases hgp with hgp | hgp; exact H8.out.2.2.2.2.2.2 (e.trans hgp); have := H8.out.2.2.1.1.lt; omega)⟩
    clear hop hgp hgrow hHeld H8
    refine hK.out _ _ H9.out.1 (fun hHeld => ?_)
    clear hK K
    try simp only [Act.put, zA, zB, zC]
    refine zT 7 12 ?_ rfl (by rfl) ?_ hHeld ?_
    rotate_left
    ·intro W hSw
     go_simp
     try with_reducible rfl
    try simp only [Act.put, zA, zB, zC]
    refine wpAnyH_ready (rs := [9]) (by kernel_rfl) (by simp) ?_
    refine AllReadyH.cons (o := ⟨none, _, _, _, _, _⟩) rfl (fun K hK => ?_) AllReadyH.nil
    have z0 : y9.cell? ⟨gA, 0, none⟩ = some (.slice none 0 0) := H9.out.2.2.1.1.cell 0
    have z1 : y9.cell? ⟨gA, 1, none⟩ = some (.slice none 0 0) := H9.out.2.2.1.1.cell 1
    have z2 : y9.cell? ⟨gA, 2, none⟩ = some (.slice none 0 0) := H9.out.2.2.1.1.cell 2
    have zf := fun i => H9.out.2.2.1.1.free i
    go_simp
    obtain ⟨Y, hY⟩ : ∃ Y, Y = ((y9.setCell ⟨gA, 0, none⟩ (.slice (some ⟨gC, 0, none⟩) n1 mC)).setCell ⟨gA, 1, none⟩ (.slice none 0 0)).setCell ⟨gA, 2, none⟩ (.slice (some ⟨gP, 0, none⟩) n3 mP) := ⟨_, rfl⟩
    have HY : Hid (KCo w Y #[.slice a1 n1 c1, .slice a2 n2 c2, .slice a3 n3 c3] gA (.slice (some ⟨gC, 0, none⟩) n1 mC) (.slice (some ⟨gP, 0, none⟩) n3 mP) s f1 gP) := by
     rw [hY]
     exact KCo.mk H9.out.1 H9.out.2.2.1.1 H9.out.2.2.1.2 H9.out.2.1 H9.out.2.2.2.1.1 H9.out.2.2.2.2.1 H9.out.2.2.2.2.2.2 H9.out.2.2.2.2.2.1
    rw [<- hY]
    clear hY z0 z1 z2 zf H9
    refine hK.out _ _ HY.out.1 (fun hHeld => ?_)
    clear hK K hHeld
    refine wpAnyH_done (by kernel_rfl) ?_ _
    go_wp2_with fail
    go_meet
    exact ⟨gA, gC, mC, f1, gP, mP, rfl, HY⟩
  ·go_simp
   obtain ⟨y10, hY⟩ : ∃ Y, Y = wd.alloc (Obj.cells #[] 97) := ⟨_, rfl⟩
   rw [<- hY]
   have hb : Below wd.heap.size wd y10 := by rw [hY]; exact (Below.refl _ _).alloc (Nat.le_refl _) _
   have H10a : Hid (KSo w y10 #[.slice a1 n1 c1, .slice a2 n2 c2, .slice a3 n3 c3] /\ (y10.ownsRow (w.heap.size + 1 + 1) 97 2 (.slice (some ⟨wd.heap.size, 0, none⟩) 0 0) 0 [] /\ wd.heap.size < y10.heap.size)) := ⟨H0.out.below hb, ⟨by rw [hY]; exact World.ownsRow_made wd #[] 0 H0.out.2.2.2 (Nat.zero_le _) (by simp), by rw [hY, size_alloc]; omega⟩⟩
   obtain ⟨gB, hg⟩ := zE (wd.heap.size)
   rw [hg] at H10a |-
   have H10 : Hid (KSo w y10 #[.slice a1 n1 c1, .slice a2 n2 c2, .slice a3 n3 c3] /\ (y10.ownsRow (w.heap.size + 1 + 1) 97 2 (.slice (some ⟨gB, 0, none⟩) 0 0) 0 [] /\ gB < y10.heap.size)) := H10a.out
   clear hY hb hg hHeld H0 H10a
   refine hK.out _ _ H10.out.1 (fun hHeld => ?_)
   clear hK K
   try simp only [Act.put, zA, zB, zC]
   refine wpAnyH_ready (rs := [2, 8]) (by kernel_rfl) (by simp) ?_
   refine AllReadyH.cons (o := ⟨some 7, _, _, _, _, _⟩) rfl (fun K hK => ?_) (AllReadyH.cons (o := ⟨some 3, _, _, _, _, _⟩) rfl (fun K hK => ?_) AllReadyH.nil)
   ·go_simp
    refine (EC.out _ hHeld.1).mono ?_
    rintro e y11 ⟨gC, mC, f1, rfl, ho, hb⟩
    have H11 : Hid (KSo w y11 #[.slice a1 n1 c1, .slice a2 n2 c2, .slice a3 n3 c3] /\ OwnS certKd y11 (w.heap.size + 1 + 1) (.slice (some ⟨gC, 0, none⟩) n1 mC) s.certs f1 /\ (y11.ownsRow (w.heap.size + 1 + 1) 97 2 (.slice (some ⟨gB, 0, none⟩) 0 0) 0 [] /\ gB < y11.heap.size) /\ gB ∉ f1) := ⟨H10.out.1.below hb, ho.base H10.out.1.2.2.2, ⟨own_kept H10.out.2.1 hb, Nat.lt_of_lt_of_le H10.out.2.2 hb.size⟩, (fun hm => by have g1 := (ho.lt _ hm).1; have g2 := H10.out.2.2; omega)⟩
    clear ho hb hHeld H10
    refine hK.out _ _ H11.out.1 (fun hHeld => ?_)
    clear hK K
    try simp only [Act.put, zA, zB, zC]
    refine wpAnyH_ready (rs := [6, 8]) (by kernel_rfl) (by simp) ?_
    refine AllReadyH.cons (o := ⟨some 11, _, _, _, _, _⟩) rfl (fun K hK => ?_) (AllReadyH.cons (o := ⟨some 3, _, _, _, _, _⟩) rfl (fun K hK => ?_) AllReadyH.nil)
    ·refine step_app_an (o := ⟨some 11, _, _, _, _, _⟩) rfl (.tmp 8) (.tmp 10) rfl (w.heap.size + 1 + 1) gB (by rfl) H11.out.2.2.1.1 (.slice a3 n3 c3) s.ancs (by rfl) (HX3.out.1.below (H11.out.1.1)) n3 HX3.out.2 (by omega) H11.out.1.2.2.2 ?_
     intro gP mP y12 hop hgp hgrow
     have H12 : Hid (KSo w y12 #[.slice a1 n1 c1, .slice a2 n2 c2, .slice a3 n3 c3] /\ OwnS certKd y12 (w.heap.size + 1 + 1) (.slice (some ⟨gC, 0, none⟩) n1 mC) s.certs f1 /\ (OwnS anKd y12 (w.heap.size + 1 + 1) (.slice (some ⟨gP, 0, none⟩) n3 mP) s.ancs [gP] /\ gP < y12.heap.size) /\ gP ∉ f1) := ⟨H11.out.1.grown hgrow (fun q e => by have e2 := Option.some.inj e; have := (H11.out.2.2.1.1.lt gB rfl).1; omega), H11.out.2.1.same (fun b hb => hgrow.block b (H11.out.2.1.lt b hb).2 (fun e => by have e2 := (Option.some.inj e); subst e2; exact H11.out.2.2.2 hb)), ⟨hop, hop.lt gP (by simp) |>.2⟩, (fun hm => by rcases hgp with hgp | hgp; exact H11.out.2.2.2 (hgp ▸ hm); have := (H11.out.2.1.lt _ hm).2; omega)⟩
     clear hop hgp hgrow hHeld H11
     refine hK.out _ _ H12.out.1 (fun hHeld => ?_)
     clear hK K
     try simp only [Act.put, zA, zB, zC]
     refine zT 7 12 ?_ rfl (by rfl) ?_ hHeld ?_
     rotate_left
     ·intro W hSw
      go_simp
      try with_reducible rfl
     try simp only [Act.put, zA, zB, zC]
     refine wpAnyH_ready (rs := [8]) (by kernel_rfl) (by simp) ?_
     refine AllReadyH.cons (o := ⟨some 3, _, _, _, _, _⟩) rfl (fun K hK => ?_) AllReadyH.nil
     go_simp
     obtain ⟨y13, hY⟩ : ∃ Y, Y = y12.alloc (Obj.cells #[.slice none 0 0, .slice none 0 0, .slice none 0 0] 37) := ⟨_, rfl⟩
     rw [<- hY]
     have hb : Below y12.heap.size y12 y13 := by rw [hY]; exact (Below.refl _ _).alloc (Nat.le_refl _) _
     have H13a : Hid (KSo w y13 #[.slice a1 n1 c1, .slice a2 n2 c2, .slice a3 n3 c3] /\ OwnS certKd y13 (w.heap.size + 1 + 1) (.slice (some ⟨gC, 0, none⟩) n1 mC) s.certs f1 /\ (Blk y13 y12.heap.size 37 #[.slice none 0 0, .slice none 0 0, .slice none 0 0] /\ w.heap.size + 1 + 1 <= y12.heap.size) /\ (OwnS anKd y13 (w.heap.size + 1 + 1) (.slice (some ⟨gP, 0, none⟩) n3 mP) s.ancs [gP] /\ gP < y13.heap.size) /\ y12.heap.size ∉ f1 /\ gP ∉ f1 /\ y12.heap.size ≠ gP) := ⟨H12.out.1.below hb, H12.out.2.1.stays hb, ⟨by rw [hY]; exact Blk.new y12 _ _, H12.out.1.2.2.2⟩, ⟨H12.out.2.2.1.1.stays hb, Nat.lt_of_lt_of_le H12.out.2.2.1.2 hb.size⟩, (fun hm => by have g1 := (H12.out.2.1.lt _ hm).2; omega), H12.out.2.2.2, (fun e => by have g1 := H12.out.2.2.1.2; omega)⟩
     obtain ⟨gA, hg⟩ := zE (y12.heap.size)
     rw [hg] at H13a |-
     have H13 : Hid (KSo w y13 #[.slice a1 n1 c1, .slice a2 n2 c2, .slice a3 n3 c3] /\ OwnS certKd y13 (w.heap.size + 1 + 1) (.slice (some ⟨gC, 0, none⟩) n1 mC) s.certs f1 /\ (Blk y13 gA 37 #[.slice none 0 0, .slice none 0 0, .slice none 0 0] /\ w.heap.size + 1 + 1 <= gA) /\ (OwnS anKd y13 (w.heap.size + 1 + 1) (.slice (some ⟨gP, 0, none⟩) n3 mP) s.ancs [gP] /\ gP < y13.heap.size) /\ gA ∉ f1 /\ gP ∉ f1 /\ gA ≠ gP) := H13a.out
     clear hY hb hg hHeld H12 H13a
     refine hK.out _ _ H13.out.1 (fun hHeld => ?_)
     clear hK K
     try simp only [Act.put, zA, zB, zC]
     refine wpAnyH_ready (rs := [9]) (by kernel_rfl) (by simp) ?_
     refine AllReadyH.cons (o := ⟨none, _, _, _, _, _⟩) rfl (fun K hK => ?_) AllReadyH.nil
     have z0 : y13.cell? ⟨gA, 0, none⟩ = some (.slice none 0 0) := H13.out.2.2.1.1.cell 0
     have z1 : y13.cell? ⟨gA, 1, none⟩ = some (.slice none 0 0) := H13.out.2.2.1.1.cell 1
     have z2 : y13.cell? ⟨gA, 2, none⟩ = some (.slice none 0 0) := H13.out.2.2.1.1.cell 2
     have zf := fun i => H13.out.2.2.1.1.free i
     go_simp
     obtain ⟨Y, hY⟩ : ∃ Y, Y = ((y13.setCell ⟨gA, 0, none⟩ (.slice (some ⟨gC, 0, none⟩) n1 mC)).setCell ⟨gA, 1, none⟩ (.slice none 0 0)).setCell ⟨gA, 2, none⟩ (.slice (some ⟨gP, 0, none⟩) n3 mP) := ⟨_, rfl⟩
     have HY : Hid (KCo w Y #[.slice a1 n1 c1, .slice a2 n2 c2, .slice a3 n3 c3] gA (.slice (some ⟨gC, 0, none⟩) n1 mC) (.slice (some ⟨gP, 0, none⟩) n3 mP) s f1 gP) := by
      rw [hY]
      exact KCo.mk H13.out.1 H13.out.2.2.1.1 H13.out.2.2.1.2 H13.out.2.1 H13.out.2.2.2.1.1 H13.out.2.2.2.2.1 H13.out.2.2.2.2.2.2 H13.out.2.2.2.2.2.1
     rw [<- hY]
     clear hY z0 z1 z2 zf H13
     refine hK.out _ _ HY.out.1 (fun hHeld => ?_)
     clear hK K hHeld
     refine wpAnyH_done (by kernel_rfl) ?_ _
     go_wp2_with fail
     go_meet
     exact ⟨gA, gC, mC, f1, gP, mP, rfl, HY⟩
    ·go_simp
     obtain ⟨y14, hY⟩ : ∃ Y, Y = y11.alloc (Obj.cells #[.slice none 0 0, .slice none 0 0, .slice none 0 0] 37) := ⟨_, rfl⟩
     rw [<- hY]
     have hb : Below y11.heap.size y11 y14 := by rw [hY]; exact (Below.refl _ _).alloc (Nat.le_refl _) _
     have H14a : Hid (KSo w y14 #[.slice a1 n1 c1, .slice a2 n2 c2, .slice a3 n3 c3] /\ OwnS certKd y14 (w.heap.size + 1 + 1) (.slice (some ⟨gC, 0, none⟩) n1 mC) s.certs f1 /\ (Blk y14 y11.heap.size 37 #[.slice none 0 0, .slice none 0 0, .slice none 0 0] /\ w.heap.size + 1 + 1 <= y11.heap.size) /\ (y14.ownsRow (w.heap.size + 1 + 1) 97 2 (.slice (some ⟨gB, 0, none⟩) 0 0) 0 [] /\ gB < y14.heap.size) /\ y11.heap.size ∉ f1 /\ gB ∉ f1 /\ y11.heap.size ≠ gB) := ⟨H11.out.1.below hb, H11.out.2.1.stays hb, ⟨by rw [hY]; exact Blk.new y11 _ _, H11.out.1.2.2.2⟩, ⟨own_kept H11.out.2.2.1.1 hb, Nat.lt_of_lt_of_le H11.out.2.2.1.2 hb.size⟩, (fun hm => by have g1 := (H11.out.2.1.lt _ hm).2; omega), H11.out.2.2.2, (fun e => by have g1 := H11.out.2.2.1.2; omega)⟩
     obtain ⟨gA, hg⟩ := zE (y11.heap.size)
     rw [hg] at H14a |-
     have H14 : Hid (KSo w y14 #[.slice a1 n1 c1, .slice a2 n2 c2, .slice a3 n3 c3] /\ OwnS certKd y14 (w.heap.size + 1 + 1) (.slice (some ⟨gC, 0, none⟩) n1 mC) s.certs f1 /\ (Blk y14 gA 37 #[.slice none 0 0, .slice none 0 0, .slice none 0 0] /\ w.heap.size + 1 + 1 <= gA) /\ (y14.ownsRow (w.heap.size + 1 + 1) 97 2 (.slice (some ⟨gB, 0, none⟩) 0 0) 0 [] /\ gB < y14.heap.size) /\ gA ∉ f1 /\ gB ∉ f1 /\ gA ≠ gB) := H14a.out
     clear hY hb hg hHeld H11 H14a
     refine hK.out _ _ H14.out.1 (fun hHeld => ?_)
     clear hK K
     try simp only [Act.put, zA, zB, zC]
     refine wpAnyH_ready (rs := [6]) (by kernel_rfl) (by simp) ?_
     refine AllReadyH.cons (o := ⟨some 11, _, _, _, _, _⟩) rfl (fun K hK => ?_) AllReadyH.nil
     refine step_app_an (o := ⟨some 11, _, _, _, _, _⟩) rfl (.tmp 8) (.tmp 10) rfl (w.heap.size + 1 + 1) gB (by rfl) H14.out.2.2.2.1.1 (.slice a3 n3 c3) s.ancs (by rfl) (HX3.out.1.below (H14.out.1.1)) n3 HX3.out.2 (by omega) H14.out.1.2.2.2 ?_
     intro gP mP y15 hop hgp hgrow
     have H15 : Hid (KSo w y15 #[.slice a1 n1 c1, .slice a2 n2 c2, .slice a3 n3 c3] /\ OwnS certKd y15 (w.heap.size + 1 + 1) (.slice (some ⟨gC, 0, none⟩) n1 mC) s.certs f1 /\ (Blk y15 gA 37 #[.slice none 0 0, .slice none 0 0, .slice none 0 0] /\ w.heap.size + 1 + 1 <= gA) /\ (OwnS anKd y15 (w.heap.size + 1 + 1) (.slice (some ⟨gP, 0, none⟩) n3 mP) s.ancs [gP] /\ gP < y15.heap.size) /\ gA ∉ f1 /\ gP ∉ f1 /\ gA ≠ gP) := ⟨H14.out.1.grown hgrow (fun q e => by have e2 := Option.some.inj e; have := (H14.out.2.2.2.1.1.lt gB rfl).1; omega), H14.out.2.1.same (fun b hb => hgrow.block b (H14.out.2.1.lt b hb).2 (fun e => by have e2 := (Option.some.inj e); subst e2; exact H14.out.2.2.2.2.2.1 hb)), ⟨(hgrow.block _ H14.out.2.2.1.1.lt (fun e => H14.out.2.2.2.2.2.2 (Option.some.inj e))).trans H14.out.2.2.1.1, H14.out.2.2.1.2⟩, ⟨hop, hop.lt gP (by simp) |>.2⟩, H14.out.2.2.2.2.1, (fun hm => by rcases hgp with hgp | hgp; exact H14.out.2.2.2.2.2.1 (hgp ▸ hm); have := (H14.out.2.1.lt _ hm).2; omega), (fun e => by rcases hgp with hgp | hgp; exact H14.out.2.2.2.2.2.2 (e.trans hgp); have := H14.out.2.2.1.1.lt; omega)⟩
     clear hop hgp hgrow hHeld H14
     refine hK.out _ _ H15.out.1 (fun hHeld => ?_)
     clear hK K
     try simp only [Act.put, zA, zB, zC]
     refine zT 7 12 ?_ rfl (by rfl) ?_ hHeld ?_
     rotate_left
     ·intro W hSw
      go_simp
      try with_reducible rfl
     try simp only [Act.put, zA, zB, zC]
     refine wpAnyH_ready (rs := [9]) (by kernel_rfl) (by simp) ?_
     refine AllReadyH.cons (o := ⟨none, _, _, _, _, _⟩) rfl (fun K hK => ?_) AllReadyH.nil
     have z0 : y15.cell? ⟨gA, 0, none⟩ = some (.slice none 0 0) := H15.out.2.2.1.1.cell 0
     have z1 : y15.cell? ⟨gA, 1, none⟩ = some (.slice none 0 0) := H15.out.2.2.1.1.cell 1
     have z2 : y15.cell? ⟨gA, 2, none⟩ = some (.slice none 0 0) := H15.out.2.2.1.1.cell 2
     have zf := fun i => H15.out.2.2.1.1.free i
     go_simp
     obtain ⟨Y, hY⟩ : ∃ Y, Y = ((y15.setCell ⟨gA, 0, none⟩ (.slice (some ⟨gC, 0, none⟩) n1 mC)).setCell ⟨gA, 1, none⟩ (.slice none 0 0)).setCell ⟨gA, 2, none⟩ (.slice (some ⟨gP, 0, none⟩) n3 mP) := ⟨_, rfl⟩
     have HY : Hid (KCo w Y #[.slice a1 n1 c1, .slice a2 n2 c2, .slice a3 n3 c3] gA (.slice (some ⟨gC, 0, none⟩) n1 mC) (.slice (some ⟨gP, 0, none⟩) n3 mP) s f1 gP) := by
      rw [hY]
      exact KCo.mk H15.out.1 H15.out.2.2.1.1 H15.out.2.2.1.2 H15.out.2.1 H15.out.2.2.2.1.1 H15.out.2.2.2.2.1 H15.out.2.2.2.2.2.2 H15.out.2.2.2.2.2.1
     rw [<- hY]
     clear hY z0 z1 z2 zf H15
     refine hK.out _ _ HY.out.1 (fun hHeld => ?_)
     clear hK K hHeld
     refine wpAnyH_done (by kernel_rfl) ?_ _
     go_wp2_with fail
     go_meet
     exact ⟨gA, gC, mC, f1, gP, mP, rfl, HY⟩
   ·go_simp
    obtain ⟨y16, hY⟩ : ∃ Y, Y = y10.alloc (Obj.cells #[.slice none 0 0, .slice none 0 0, .slice none 0 0] 37) := ⟨_, rfl⟩
    rw [<- hY]
    have hb : Below y10.heap.size y10 y16 := by rw [hY]; exact (Below.refl _ _).alloc (Nat.le_refl _) _
    have H16a : Hid (KSo w y16 #[.slice a1 n1 c1, .slice a2 n2 c2, .slice a3 n3 c3] /\ (Blk y16 y10.heap.size 37 #[.slice none 0 0, .slice none 0 0, .slice none 0 0] /\ w.heap.size + 1 + 1 <= y10.heap.size) /\ (y16.ownsRow (w.heap.size + 1 + 1) 97 2 (.slice (some ⟨gB, 0, none⟩) 0 0) 0 [] /\ gB < y16.heap.size) /\ y10.heap.size ≠ gB) := ⟨H10.out.1.below hb, ⟨by rw [hY]; exact Blk.new y10 _ _, H10.out.1.2.2.2⟩, ⟨own_kept H10.out.2.1 hb, Nat.lt_of_lt_of_le H10.out.2.2 hb.size⟩, (fun e => by have g1 := H10.out.2.2; omega)⟩
    obtain ⟨gA, hg⟩ := zE (y10.heap.size)
    rw [hg] at H16a |-
    have H16 : Hid (KSo w y16 #[.slice a1 n1 c1, .slice a2 n2 c2, .slice a3 n3 c3] /\ (Blk y16 gA 37 #[.slice none 0 0, .slice none 0 0, .slice none 0 0] /\ w.heap.size + 1 + 1 <= gA) /\ (y16.ownsRow (w.heap.size + 1 + 1) 97 2 (.slice (some ⟨gB, 0, none⟩) 0 0) 0 [] /\ gB < y16.heap.size) /\ gA ≠ gB) := H16a.out
    clear hY hb hg hHeld H10 H16a
    refine hK.out _ _ H16.out.1 (fun hHeld => ?_)
    clear hK K
    try simp only [Act.put, zA, zB, zC]
    refine wpAnyH_ready (rs := [2]) (by kernel_rfl) (by simp) ?_
    refine AllReadyH.cons (o := ⟨some 7, _, _, _, _, _⟩) rfl (fun K hK => ?_) AllReadyH.nil
    go_simp
    refine (EC.out _ hHeld.1).mono ?_
    rintro e y17 ⟨gC, mC, f1, rfl, ho, hb⟩
    have H17 : Hid (KSo w y17 #[.slice a1 n1 c1, .slice a2 n2 c2, .slice a3 n3 c3] /\ OwnS certKd y17 (w.heap.size + 1 + 1) (.slice (some ⟨gC, 0, none⟩) n1 mC) s.certs f1 /\ (Blk y17 gA 37 #[.slice none 0 0, .slice none 0 0, .slice none 0 0] /\ w.heap.size + 1 + 1 <= gA) /\ (y17.ownsRow (w.heap.size + 1 + 1) 97 2 (.slice (some ⟨gB, 0, none⟩) 0 0) 0 [] /\ gB < y17.heap.size) /\ gA ∉ f1 /\ gB ∉ f1 /\ gA ≠ gB) := ⟨H16.out.1.below hb, ho.base H16.out.1.2.2.2, ⟨H16.out.2.1.1.below hb H16.out.2.1.1.lt, H16.out.2.1.2⟩, ⟨own_kept H16.out.2.2.1.1 hb, Nat.lt_of_lt_of_le H16.out.2.2.1.2 hb.size⟩, (fun hm => by have g1 := (ho.lt _ hm).1; have g2 := H16.out.2.1.1.lt; omega), (fun hm => by have g1 := (ho.lt _ hm).1; have g2 := H16.out.2.2.1.2; omega), H16.out.2.2.2⟩
    clear ho hb hHeld H16
    refine hK.out _ _ H17.out.1 (fun hHeld => ?_)
    clear hK K
    try simp only [Act.put, zA, zB, zC]
    refine wpAnyH_ready (rs := [6]) (by kernel_rfl) (by simp) ?_
    refine AllReadyH.cons (o := ⟨some 11, _, _, _, _, _⟩) rfl (fun K hK => ?_) AllReadyH.nil
    refine step_app_an (o := ⟨some 11, _, _, _, _, _⟩) rfl (.tmp 8) (.tmp 10) rfl (w.heap.size + 1 + 1) gB (by rfl) H17.out.2.2.2.1.1 (.slice a3 n3 c3) s.ancs (by rfl) (HX3.out.1.below (H17.out.1.1)) n3 HX3.out.2 (by omega) H17.out.1.2.2.2 ?_
    intro gP mP y18 hop hgp hgrow
    have H18 : Hid (KSo w y18 #[.slice a1 n1 c1, .slice a2 n2 c2, .slice a3 n3 c3] /\ OwnS certKd y18 (w.heap.size + 1 + 1) (.slice (some ⟨gC, 0, none⟩) n1 mC) s.certs f1 /\ (Blk y18 gA 37 #[.slice none 0 0, .slice none 0 0, .slice none 0 0] /\ w.heap.size + 1 + 1 <= gA) /\ (OwnS anKd y18 (w.heap.size + 1 + 1) (.slice (some ⟨gP, 0, none⟩) n3 mP) s.ancs [gP] /\ gP < y18.heap.size) /\ gA ∉ f1 /\ gP ∉ f1 /\ gA ≠ gP) := ⟨H17.out.1.grown hgrow (fun q e => by have e2 := Option.some.inj e; have := (H17.out.2.2.2.1.1.lt gB rfl).1; omega), H17.out.2.1.same (fun b hb => hgrow.block b (H17.out.2.1.lt b hb).2 (fun e => by have e2 := (Option.some.inj e); subst e2; exact H17.out.2.2.2.2.2.1 hb)), ⟨(hgrow.block _ H17.out.2.2.1.1.lt (fun e => H17.out.2.2.2.2.2.2 (Option.some.inj e))).trans H17.out.2.2.1.1, H17.out.2.2.1.2⟩, ⟨hop, hop.lt gP (by simp) |>.2⟩, H17.out.2.2.2.2.1, (fun hm => by rcases hgp with hgp | hgp; exact H17.out.2.2.2.2.2.1 (hgp ▸ hm); have := (H17.out.2.1.lt _ hm).2; omega), (fun e => by rcases hgp with hgp | hgp; exact H17.out.2.2.2.2.2.2 (e.trans hgp); have := H17.out.2.2.1.1.lt; omega)⟩
    clear hop hgp hgrow hHeld H17
    refine hK.out _ _ H18.out.1 (fun hHeld => ?_)
    clear hK K
    try simp only [Act.put, zA, zB, zC]
    refine zT 7 12 ?_ rfl (by rfl) ?_ hHeld ?_
    rotate_left
    ·intro W hSw
     go_simp
     try with_reducible rfl
    try simp only [Act.put, zA, zB, zC]
    refine wpAnyH_ready (rs := [9]) (by kernel_rfl) (by simp) ?_
    refine AllReadyH.cons (o := ⟨none, _, _, _, _, _⟩) rfl (fun K hK => ?_) AllReadyH.nil
    have z0 : y18.cell? ⟨gA, 0, none⟩ = some (.slice none 0 0) := H18.out.2.2.1.1.cell 0
    have z1 : y18.cell? ⟨gA, 1, none⟩ = some (.slice none 0 0) := H18.out.2.2.1.1.cell 1
    have z2 : y18.cell? ⟨gA, 2, none⟩ = some (.slice none 0 0) := H18.out.2.2.1.1.cell 2
    have zf := fun i => H18.out.2.2.1.1.free i
    go_simp
    obtain ⟨Y, hY⟩ : ∃ Y, Y = ((y18.setCell ⟨gA, 0, none⟩ (.slice (some ⟨gC, 0, none⟩) n1 mC)).setCell ⟨gA, 1, none⟩ (.slice none 0 0)).setCell ⟨gA, 2, none⟩ (.slice (some ⟨gP, 0, none⟩) n3 mP) := ⟨_, rfl⟩
    have HY : Hid (KCo w Y #[.slice a1 n1 c1, .slice a2 n2 c2, .slice a3 n3 c3] gA (.slice (some ⟨gC, 0, none⟩) n1 mC) (.slice (some ⟨gP, 0, none⟩) n3 mP) s f1 gP) := by
     rw [hY]
     exact KCo.mk H18.out.1 H18.out.2.2.1.1 H18.out.2.2.1.2 H18.out.2.1 H18.out.2.2.2.1.1 H18.out.2.2.2.2.1 H18.out.2.2.2.2.2.2 H18.out.2.2.2.2.2.1
    rw [<- hY]
    clear hY z0 z1 z2 zf H18
    refine hK.out _ _ HY.out.1 (fun hHeld => ?_)
    clear hK K hHeld
    refine wpAnyH_done (by kernel_rfl) ?_ _
    go_wp2_with fail
    go_meet
    exact ⟨gA, gC, mC, f1, gP, mP, rfl, HY⟩
  ·go_simp
   obtain ⟨y19, hY⟩ : ∃ Y, Y = wd.alloc (Obj.cells #[.slice none 0 0, .slice none 0 0, .slice none 0 0] 37) := ⟨_, rfl⟩
   rw [<- hY]
   have hb : Below wd.heap.size wd y19 := by rw [hY]; exact (Below.refl _ _).alloc (Nat.le_refl _) _
   have H19a : Hid (KSo w y19 #[.slice a1 n1 c1, .slice a2 n2 c2, .slice a3 n3 c3] /\ (Blk y19 wd.heap.size 37 #[.slice none 0 0, .slice none 0 0, .slice none 0 0] /\ w.heap.size + 1 + 1 <= wd.heap.size)) := ⟨H0.out.below hb, ⟨by rw [hY]; exact Blk.new wd _ _, H0.out.2.2.2⟩⟩
   obtain ⟨gA, hg⟩ := zE (wd.heap.size)
   rw [hg] at H19a |-
   have H19 : Hid (KSo w y19 #[.slice a1 n1 c1, .slice a2 n2 c2, .slice a3 n3 c3] /\ (Blk y19 gA 37 #[.slice none 0 0, .slice none 0 0, .slice none 0 0] /\ w.heap.size + 1 + 1 <= gA)) := H19a.out
   clear hY hb hg hHeld H0 H19a
   refine hK.out _ _ H19.out.1 (fun hHeld => ?_)
   clear hK K
   try simp only [Act.put, zA, zB, zC]
   refine wpAnyH_ready (rs := [2, 3]) (by kernel_rfl) (by simp) ?_
   refine AllReadyH.cons (o := ⟨some 7, _, _, _, _, _⟩) rfl (fun K hK => ?_) (AllReadyH.cons (o := ⟨some 8, _, _, _, _, _⟩) rfl (fun K hK => ?_) AllReadyH.nil)
   ·go_simp
    refine (EC.out _ hHeld.1).mono ?_
    rintro e y20 ⟨gC, mC, f1, rfl, ho, hb⟩
    have H20 : Hid (KSo w y20 #[.slice a1 n1 c1, .slice a2 n2 c2, .slice a3 n3 c3] /\ OwnS certKd y20 (w.heap.size + 1 + 1) (.slice (some ⟨gC, 0, none⟩) n1 mC) s.certs f1 /\ (Blk y20 gA 37 #[.slice none 0 0, .slice none 0 0, .slice none 0 0] /\ w.heap.size + 1 + 1 <= gA) /\ gA ∉ f1) := ⟨H19.out.1.below hb, ho.base H19.out.1.2.2.2, ⟨H19.out.2.1.below hb H19.out.2.1.lt, H19.out.2.2⟩, (fun hm => by have g1 := (ho.lt _ hm).1; have g2 := H19.out.2.1.lt; omega)⟩
    clear ho hb hHeld H19
    refine hK.out _ _ H20.out.1 (fun hHeld => ?_)
    clear hK K
    try simp only [Act.put, zA, zB, zC]
    refine wpAnyH_ready (rs := [3]) (by kernel_rfl) (by simp) ?_
    refine AllReadyH.cons (o := ⟨some 8, _, _, _, _, _⟩) rfl (fun K hK => ?_) AllReadyH.nil
    go_simp
    obtain ⟨y21, hY⟩ : ∃ Y, Y = y20.alloc (Obj.cells #[] 97) := ⟨_, rfl⟩
    rw [<- hY]
    have hb : Below y20.heap.size y20 y21 := by rw [hY]; exact (Below.refl _ _).alloc (Nat.le_refl _) _
    have H21a : Hid (KSo w y21 #[.slice a1 n1 c1, .slice a2 n2 c2, .slice a3 n3 c3] /\ OwnS certKd y21 (w.heap.size + 1 + 1) (.slice (some ⟨gC, 0, none⟩) n1 mC) s.certs f1 /\ (Blk y21 gA 37 #[.slice none 0 0, .slice none 0 0, .slice none 0 0] /\ w.heap.size + 1 + 1 <= gA) /\ (y21.ownsRow (w.heap.size + 1 + 1) 97 2 (.slice (some ⟨y20.heap.size, 0, none⟩) 0 0) 0 [] /\ y20.heap.size < y21.heap.size) /\ gA ∉ f1 /\ y20.heap.size ∉ f1 /\ gA ≠ y20.heap.size) := ⟨H20.out.1.below hb, H20.out.2.1.stays hb, ⟨H20.out.2.2.1.1.below hb H20.out.2.2.1.1.lt, H20.out.2.2.1.2⟩, ⟨by rw [hY]; exact World.ownsRow_made y20 #[] 0 H20.out.1.2.2.2 (Nat.zero_le _) (by simp), by rw [hY, size_alloc]; omega⟩, H20.out.2.2.2, (fun hm => by have g1 := (H20.out.2.1.lt _ hm).2; omega), (fun e => by have g1 := H20.out.2.2.1.1.lt; omega)⟩
    obtain ⟨gB, hg⟩ := zE (y20.heap.size)
    rw [hg] at H21a |-
    have H21 : Hid (KSo w y21 #[.slice a1 n1 c1, .slice a2 n2 c2, .slice a3 n3 c3] /\ OwnS certKd y21 (w.heap.size + 1 + 1) (.slice (some ⟨gC, 0, none⟩) n1 mC) s.certs f1 /\ (Blk y21 gA 37 #[.slice none 0 0, .slice none 0 0, .slice none 0 0] /\ w.heap.size + 1 + 1 <= gA) /\ (y21.ownsRow (w.heap.size + 1 + 1) 97 2 (.slice (some ⟨gB, 0, none⟩) 0 0) 0 [] /\ gB < y21.heap.size) /\ gA ∉ f1 /\ gB ∉ f1 /\ gA ≠ gB) := H21a.out
    clear hY hb hg hHeld H20 H21a
    refine hK.out _ _ H21.out.1 (fun hHeld => ?_)
    clear hK K
    try simp only [Act.put, zA, zB, zC]
    refine wpAnyH_ready (rs := [6]) (by kernel_rfl) (by simp) ?_
    refine AllReadyH.cons (o := ⟨some 11, _, _, _, _, _⟩) rfl (fun K hK => ?_) AllReadyH.nil
    refine step_app_an (o := ⟨some 11, _, _, _, _, _⟩) rfl (.tmp 8) (.tmp 10) rfl (w.heap.size + 1 + 1) gB (by rfl) H21.out.2.2.2.1.1 (.slice a3 n3 c3) s.ancs (by rfl) (HX3.out.1.below (H21.out.1.1)) n3 HX3.out.2 (by omega) H21.out.1.2.2.2 ?_
    intro gP mP y22 hop hgp hgrow
    have H22 : Hid (KSo w y22 #[.slice a1 n1 c1, .slice a2 n2 c2, .slice a3 n3 c3] /\ OwnS certKd y22 (w.heap.size + 1 + 1) (.slice (some ⟨gC, 0, none⟩) n1 mC) s.certs f1 /\ (Blk y22 gA 37 #[.slice none 0 0, .slice none 0 0, .slice none 0 0] /\ w.heap.size + 1 + 1 <= gA) /\ (OwnS anKd y22 (w.heap.size + 1 + 1) (.slice (some ⟨gP, 0, none⟩) n3 mP) s.ancs [gP] /\ gP < y22.heap.size) /\ gA ∉ f1 /\ gP ∉ f1 /\ gA ≠ gP) := ⟨H21.out.1.grown hgrow (fun q e => by have e2 := Option.some.inj e; have := (H21.out.2.2.2.1.1.lt gB rfl).1; omega), H21.out.2.1.same (fun b hb => hgrow.block b (H21.out.2.1.lt b hb).2 (fun e => by have e2 := (Option.some.inj e); subst e2; exact H21.out.2.2.2.2.2.1 hb)), ⟨(hgrow.block _ H21.out.2.2.1.1.lt (fun e => H21.out.2.2.2.2.2.2 (Option.some.inj e))).trans H21.out.2.2.1.1, H21.out.2.2.1.2⟩, ⟨hop, hop.lt gP (by simp) |>.2⟩, H21.out.2.2.2.2.1, (fun hm => by rcases hgp with hgp | hgp; exact H21.out.2.2.2.2.2.1 (hgp ▸ hm); have := (H21.out.2.1.lt _ hm).2; omega), (fun e => by rcases hgp with hgp | hgp; exact H21.out.2.2.2.2.2.2 (e.trans hgp); have := H21.out.2.2.1.1.lt; omega)⟩
    clear hop hgp hgrow hHeld H21
    refine hK.out _ _ H22.out.1 (fun hHeld => ?_)
    clear hK K
    try simp only [Act.put, zA, zB, zC]
    refine zT 7 12 ?_ rfl (by rfl) ?_ hHeld ?_
    rotate_left
    ·intro W hSw
     go_simp
     try with_reducible rfl
    try simp only [Act.put, zA, zB, zC]
    refine wpAnyH_ready (rs := [9]) (by kernel_rfl) (by simp) ?_
    refine AllReadyH.cons (o := ⟨none, _, _, _, _, _⟩) rfl (fun K hK => ?_) AllReadyH.nil
    have z0 : y22.cell? ⟨gA, 0, none⟩ = some (.slice none 0 0) := H22.out.2.2.1.1.cell 0
    have z1 : y22.cell? ⟨gA, 1, none⟩ = some (.slice none 0 0) := H22.out.2.2.1.1.cell 1
    have z2 : y22.cell? ⟨gA, 2, none⟩ = some (.slice none 0 0) := H22.out.2.2.1.1.cell 2
    have zf := fun i => H22.out.2.2.1.1.free i
    go_simp
    obtain ⟨Y, hY⟩ : ∃ Y, Y = ((y22.setCell ⟨gA, 0, none⟩ (.slice (some ⟨gC, 0, none⟩) n1 mC)).setCell ⟨gA, 1, none⟩ (.slice none 0 0)).setCell ⟨gA, 2, none⟩ (.slice (some ⟨gP, 0, none⟩) n3 mP) := ⟨_, rfl⟩
    have HY : Hid (KCo w Y #[.slice a1 n1 c1, .slice a2 n2 c2, .slice a3 n3 c3] gA (.slice (some ⟨gC, 0, none⟩) n1 mC) (.slice (some ⟨gP, 0, none⟩) n3 mP) s f1 gP) := by
     rw [hY]
     exact KCo.mk H22.out.1 H22.out.2.2.1.1 H22.out.2.2.1.2 H22.out.2.1 H22.out.2.2.2.1.1 H22.out.2.2.2.2.1 H22.out.2.2.2.2.2.2 H22.out.2.2.2.2.2.1
    rw [<- hY]
    clear hY z0 z1 z2 zf H22
    refine hK.out _ _ HY.out.1 (fun hHeld => ?_)
    clear hK K hHeld
    refine wpAnyH_done (by kernel_rfl) ?_ _
    go_wp2_with fail
    go_meet
    exact ⟨gA, gC, mC, f1, gP, mP, rfl, HY⟩
   ·go_simp
    obtain ⟨y23, hY⟩ : ∃ Y, Y = y19.alloc (Obj.cells #[] 97) := ⟨_, rfl⟩
    rw [<- hY]
    have hb : Below y19.heap.size y19 y23 := by rw [hY]; exact (Below.refl _ _).alloc (Nat.le_refl _) _
    have H23a : Hid (KSo w y23 #[.slice a1 n1 c1, .slice a2 n2 c2, .slice a3 n3 c3] /\ (Blk y23 gA 37 #[.slice none 0 0, .slice none 0 0, .slice none 0 0] /\ w.heap.size + 1 + 1 <= gA) /\ (y23.ownsRow (w.heap.size + 1 + 1) 97 2 (.slice (some ⟨y19.heap.size, 0, none⟩) 0 0) 0 [] /\ y19.heap.size < y23.heap.size) /\ gA ≠ y19.heap.size) := ⟨H19.out.1.below hb, ⟨H19.out.2.1.below hb H19.out.2.1.lt, H19.out.2.2⟩, ⟨by rw [hY]; exact World.ownsRow_made y19 #[] 0 H19.out.1.2.2.2 (Nat.zero_le _) (by simp), by rw [hY, size_alloc]; omega⟩, (fun e => by have g1 := H19.out.2.1.lt; omega)⟩
    obtain ⟨gB, hg⟩ := zE (y19.heap.size)
    rw [hg] at H23a |-
    have H23 : Hid (KSo w y23 #[.slice a1 n1 c1, .slice a2 n2 c2, .slice a3 n3 c3] /\ (Blk y23 gA 37 #[.slice none 0 0, .slice none 0 0, .slice none 0 0] /\ w.heap.size + 1 + 1 <= gA) /\ (y23.ownsRow (w.heap.size + 1 + 1) 97 2 (.slice (some ⟨gB, 0, none⟩) 0 0) 0 [] /\ gB < y23.heap.size) /\ gA ≠ gB) := H23a.out
    clear hY hb hg hHeld H19 H23a
    refine hK.out _ _ H23.out.1 (fun hHeld => ?_)
    clear hK K
    try simp only [Act.put, zA, zB, zC]
    refine wpAnyH_ready (rs := [2]) (by kernel_rfl) (by simp) ?_
    refine AllReadyH.cons (o := ⟨some 7, _, _, _, _, _⟩) rfl (fun K hK => ?_) AllReadyH.nil
    go_simp
    refine (EC.out _ hHeld.1).mono ?_
    rintro e y24 ⟨gC, mC, f1, rfl, ho, hb⟩
    have H24 : Hid (KSo w y24 #[.slice a1 n1 c1, .slice a2 n2 c2, .slice a3 n3 c3] /\ OwnS certKd y24 (w.heap.size + 1 + 1) (.slice (some ⟨gC, 0, none⟩) n1 mC) s.certs f1 /\ (Blk y24 gA 37 #[.slice none 0 0, .slice none 0 0, .slice none 0 0] /\ w.heap.size + 1 + 1 <= gA) /\ (y24.ownsRow (w.heap.size + 1 + 1) 97 2 (.slice (some ⟨gB, 0, none⟩) 0 0) 0 [] /\ gB < y24.heap.size) /\ gA ∉ f1 /\ gB ∉ f1 /\ gA ≠ gB) := ⟨H23.out.1.below hb, ho.base H23.out.1.2.2.2, ⟨H23.out.2.1.1.below hb H23.out.2.1.1.lt, H23.out.2.1.2⟩, ⟨own_kept H23.out.2.2.1.1 hb, Nat.lt_of_lt_of_le H23.out.2.2.1.2 hb.size⟩, (fun hm => by have g1 := (ho.lt _ hm).1; have g2 := H23.out.2.1.1.lt; omega), (fun hm => by have g1 := (ho.lt _ hm).1; have g2 := H23.out.2.2.1.2; omega), H23.out.2.2.2⟩
    clear ho hb hHeld H23
    refine hK.out _ _ H24.out.1 (fun hHeld => ?_)
    clear hK K
    try simp only [Act.put, zA, zB, zC]
    refine wpAnyH_ready (rs := [6]) (by kernel_rfl) (by simp) ?_
    refine AllReadyH.cons (o := ⟨some 11, _, _, _, _, _⟩) rfl (fun K hK => ?_) AllReadyH.nil
    refine step_app_an (o := ⟨some 11, _, _, _, _, _⟩) rfl (.tmp 8) (.tmp 10) rfl (w.heap.size + 1 + 1) gB (by rfl) H24.out.2.2.2.1.1 (.slice a3 n3 c3) s.ancs (by rfl) (HX3.out.1.below (H24.out.1.1)) n3 HX3.out.2 (by omega) H24.out.1.2.2.2 ?_
    intro gP mP y25 hop hgp hgrow
    have H25 : Hid (KSo w y25 #[.slice a1 n1 c1, .slice a2 n2 c2, .slice a3 n3 c3] /\ OwnS certKd y25 (w.heap.size + 1 + 1) (.slice (some ⟨gC, 0, none⟩) n1 mC) s.certs f1 /\ (Blk y25 gA 37 #[.slice none 0 0, .slice none 0 0, .slice none 0 0] /\ w.heap.size + 1 + 1 <= gA) /\ (OwnS anKd y25 (w.heap.size + 1 + 1) (.slice (some ⟨gP, 0, none⟩) n3 mP) s.ancs [gP] /\ gP < y25.heap.size) /\ gA ∉ f1 /\ gP ∉ f1 /\ gA ≠ gP) := ⟨H24.out.1.grown hgrow (fun q e => by have e2 := Option.some.inj e; have := (H24.out.2.2.2.1.1.lt gB rfl).1; omega), H24.out.2.1.same (fun b hb => hgrow.block b (H24.out.2.1.lt b hb).2 (fun e => by have e2 := (Option.some.inj e); subst e2; exact H24.out.2.2.2.2.2.1 hb)), ⟨(hgrow.block _ H24.out.2.2.1.1.lt (fun e => H24.out.2.2.2.2.2.2 (Option.some.inj e))).trans H24.out.2.2.1.1, H24.out.2.2.1.2⟩, ⟨hop, hop.lt gP (by simp) |>.2⟩, H24.out.2.2.2.2.1, (fun hm => by rcases hgp with hgp | hgp; exact H24.out.2.2.2.2.2.1 (hgp ▸ hm); have := (H24.out.2.1.lt _ hm).2; omega), (fun e => by rcases hgp with hgp | hgp; exact H24.out.2.2.2.2.2.2 (e.trans hgp); have := H24.out.2.2.1.1.lt; omega)⟩
    clear hop hgp hgrow hHeld H24
    refine hK.out _ _ H25.out.1 (fun hHeld => ?_)
    clear hK K
    try simp only [Act.put, zA, zB, zC]
    refine zT 7 12 ?_ rfl (by rfl) ?_ hHeld ?_
    rotate_left
    ·intro W hSw
     go_simp
     try with_reducible rfl
    try simp only [Act.put, zA, zB, zC]
    refine wpAnyH_ready (rs := [9]) (by kernel_rfl) (by simp) ?_
    refine AllReadyH.cons (o := ⟨none, _, _, _, _, _⟩) rfl (fun K hK => ?_) AllReadyH.nil
    have z0 : y25.cell? ⟨gA, 0, none⟩ = some (.slice none 0 0) := H25.out.2.2.1.1.cell 0
    have z1 : y25.cell? ⟨gA, 1, none⟩ = some (.slice none 0 0) := H25.out.2.2.1.1.cell 1
    have z2 : y25.cell? ⟨gA, 2, none⟩ = some (.slice none 0 0) := H25.out.2.2.1.1.cell 2
    have zf := fun i => H25.out.2.2.1.1.free i
    go_simp
    obtain ⟨Y, hY⟩ : ∃ Y, Y = ((y25.setCell ⟨gA, 0, none⟩ (.slice (some ⟨gC, 0, none⟩) n1 mC)).setCell ⟨gA, 1, none⟩ (.slice none 0 0)).setCell ⟨gA, 2, none⟩ (.slice (some ⟨gP, 0, none⟩) n3 mP) := ⟨_, rfl⟩
    have HY : Hid (KCo w Y #[.slice a1 n1 c1, .slice a2 n2 c2, .slice a3 n3 c3] gA (.slice (some ⟨gC, 0, none⟩) n1 mC) (.slice (some ⟨gP, 0, none⟩) n3 mP) s f1 gP) := by
     rw [hY]
     exact KCo.mk H25.out.1 H25.out.2.2.1.1 H25.out.2.2.1.2 H25.out.2.1 H25.out.2.2.2.1.1 H25.out.2.2.2.2.1 H25.out.2.2.2.2.2.2 H25.out.2.2.2.2.2.1
    rw [<- hY]
    clear hY z0 z1 z2 zf H25
    refine hK.out _ _ HY.out.1 (fun hHeld => ?_)
    clear hK K hHeld
    refine wpAnyH_done (by kernel_rfl) ?_ _
    go_wp2_with fail
    go_meet
    exact ⟨gA, gC, mC, f1, gP, mP, rfl, HY⟩
 case rest =>
  obtain ⟨gA, gC, mC, f1, gP, mP, rfl, HC⟩ := hcut
  rename World => WX
  go_wp2_with fail
  go_loopw [4] (fun iv wr => ∃ k : Nat, k <= n2 /\ iv = .int .i64 k /\ ∃ qv f2, Hid (KSo w wr #[.slice a1 n1 c1, .slice a2 n2 c2, .slice a3 n3 c3] /\ Blk wr gA 37 #[.slice (some ⟨gC, 0, none⟩) n1 mC, qv, .slice (some ⟨gP, 0, none⟩) n3 mP] /\ OwnS certKd wr (w.heap.size + 1 + 1) (.slice (some ⟨gC, 0, none⟩) n1 mC) s.certs f1 /\ OwnS anKd wr (w.heap.size + 1 + 1) (.slice (some ⟨gP, 0, none⟩) n3 mP) s.ancs [gP] /\ OwnS crlKd wr (w.heap.size + 1 + 1) (qv) (s.crls.take k) f2 /\ gA ∉ f2 /\ (∀ b ∈ f1, b ∉ f2) /\ gP ∉ f2)) (fun iv _ => n2 - (intOf iv).toNat)
  case atStart => exact ⟨0, Nat.zero_le _, rfl, .slice none 0 0, [], HC.out.1, HC.out.2.1, HC.out.2.2.2.1, HC.out.2.2.2.2.1, OwnS.nil crlKd _ _, (fun h => by cases h), (fun b _ h => by cases h), (fun h => by cases h)⟩
  case round =>
   obtain ⟨k, hk, rfl, qv, f2, H⟩ := hrel
   have HG : Hid (w.heap.size + 1 + 1 <= gA /\ gA ∉ f1 /\ gA ≠ gP /\ gP ∉ f1) := ⟨HC.out.2.2.1, HC.out.2.2.2.2.2⟩
   clear HC
   have hs1 : wr.cell? ⟨w.heap.size, 1, none⟩ = some (.slice a2 n2 c2) := H.out.1.2.1.cell 1
   by_cases hkn : k < n2
   ·have hkl : k < s.crls.length := by rw [HX2.out.2.1]; exact hkn
    obtain ⟨g, o, u, hax, hg, hP, hs, hc⟩ := HX2.out.1.get hkl
    obtain ⟨p1, q1, hu⟩ := ClAt.shape (OwnL.at hP)
    subst hax
    have hki : (k : Int) < (n2 : Int) := by omega
    have hk0 : (0 : Int) <= (k : Int) := by omega
    have hd0 : Below wr.heap.size wr wr.drew := (Below.refl _ _).drew
    have hPw := crlKd.same hP (fun y hy => (H.out.1.1.trans (hd0.mono H.out.1.1.size)).block y (crlKd.lt hP y hy).2)
    obtain ⟨c, hce⟩ := zE (s.crls[k])
    have hwc := HX2.out.2.2 _ (List.getElem_mem hkl)
    have hrg0 := fun i x hx => ((H.out.1.1.trans (hd0.mono H.out.1.1.size)).cell (p := ⟨g, o + k * 7 + i, none⟩) hg).trans (hc i x hx)
    rw [hce] at hu hPw hwc
    subst hu
    have HN : Hid (s.crls.take (k + 1) = s.crls.take k ++ [c] /\ (s.crls.take k).length = k) := ⟨by rw [<- hce]; exact List.take_succ_eq_append_getElem hkl, by rw [List.length_take]; omega⟩
    have E3 : Calls Try.prog 87 #[.agg #[.string c.issuer, .int .i64 c.num, .int .i64 c.ths, .int .i64 c.nxt, .int .i64 c.bas, .slice p1 c.revs.length q1, .string c.sig]] wr.drew fun e w' => ∃ r1 t1, e = .returned (.agg #[.string c.issuer, .int .i64 c.num, .int .i64 c.ths, .int .i64 c.nxt, .int .i64 c.bas, .slice r1 c.revs.length t1, .string c.sig]) /\ OwnL w' wr.heap.size (.agg #[.string c.issuer, .int .i64 c.num, .int .i64 c.ths, .int .i64 c.nxt, .int .i64 c.bas, .slice r1 c.revs.length t1, .string c.sig]) c /\ Below wr.heap.size wr w' := by
     refine (crlCopy_any c _ 0 wr.drew (by have := wtL_parts hwc; omega) hPw).mono ?_
     rintro e w' ⟨u, rfl, ho, hb⟩
     obtain ⟨r1, t1, hu3⟩ := ClAt.shape (OwnL.at ho)
     subst hu3
     exact ⟨r1, t1, rfl, ho, hd0.trans hb⟩
    have HF : Hid (∀ W, Below wr.heap.size wr W -> W.cell? ⟨gA, 1, none⟩ = some qv /\ W.frozen? ⟨gA, 1, none⟩ = false) := fun W hb => ⟨(H.out.2.1.below hb H.out.2.1.lt).cell 1, (H.out.2.1.below hb H.out.2.1.lt).free 1⟩
    have y0 := (HF.out wr.drew hd0).1
    have hs2 : wr.drew.cell? ⟨w.heap.size, 1, none⟩ = some (.slice (some ⟨g, o, none⟩) n2 c2) := hs1
    have m0 : wr.drew.cell? ⟨g, o + k * 7, none⟩ = some (.string c.issuer) := hrg0 0 _ rfl
    have m1 : wr.drew.cell? ⟨g, o + k * 7 + 1, none⟩ = some (.int .i64 c.num) := hrg0 1 _ rfl
    have m2 : wr.drew.cell? ⟨g, o + k * 7 + 2, none⟩ = some (.int .i64 c.ths) := hrg0 2 _ rfl
    have m3 : wr.drew.cell? ⟨g, o + k * 7 + 3, none⟩ = some (.int .i64 c.nxt) := hrg0 3 _ rfl
    have m4 : wr.drew.cell? ⟨g, o + k * 7 + 4, none⟩ = some (.int .i64 c.bas) := hrg0 4 _ rfl
    have m5 : wr.drew.cell? ⟨g, o + k * 7 + 5, none⟩ = some (.slice p1 c.revs.length q1) := hrg0 5 _ rfl
    have m6 : wr.drew.cell? ⟨g, o + k * 7 + 6, none⟩ = some (.string c.sig) := hrg0 6 _ rfl
    clear hP hPw hrg0 hs hc hce hg hwc
    go_wp2_with fail
    clear hs1
    go_region_law (first
     | (refine step_call rfl 87 _ _ rfl #[.agg #[.string c.issuer, .int .i64 c.num, .int .i64 c.ths, .int .i64 c.nxt, .int .i64 c.bas, .slice p1 c.revs.length q1, .string c.sig]] rfl (by kernel_rfl) ?_; refine E3.mono ?_; rintro e w3 ⟨r1, t1, rfl, ho3, hb3⟩; have y3 := (HF.out w3 hb3).1; have y4 := fun ob => (HF.out (w3.alloc ob) (hb3.alloc hb3.size ob)).1; dsimp only)
     | (refine step_app crlKd rfl _ _ 34 rfl i2 (.agg #[.string ⟨#[]⟩, .int .i64 0, .int .i64 0, .int .i64 0, .int .i64 0, .slice none 0 0, .string ⟨#[]⟩]) 88 Try.underlying34 hi2 hz02 hz12 hz22 rfl (by decide) (w.heap.size + 1 + 1) qv (s.crls.take k) f2 c (.agg #[.string c.issuer, .int .i64 c.num, .int .i64 c.ths, .int .i64 c.nxt, .int .i64 c.bas, .slice r1 c.revs.length t1, .string c.sig]) rfl w3.heap.size rfl (Blk.new w3 116 #[.string c.issuer, .int .i64 c.num, .int .i64 c.ths, .int .i64 c.nxt, .int .i64 c.bas, .slice r1 c.revs.length t1, .string c.sig]).range (H.out.2.2.2.2.1.stays (hb3.alloc hb3.size _)) (crlKd.base (crlKd.same ho3 (fun y hy => ((Below.refl w3.heap.size w3).alloc (Nat.le_refl _) _).block y (crlKd.lt ho3 y hy).2)) (Nat.le_trans H.out.1.2.2.2 (Nat.le_refl _))) (fun y h1 h2 => by have g1 := (crlKd.lt ho3 y h1).1; have g2 := (H.out.2.2.2.2.1.lt y h2).2; omega) (Nat.le_trans H.out.1.2.2.2 (hb3.alloc hb3.size _).size) k HN.out.2 (by omega) ?_; intro g6 cap6 w6 fp6 hG6 hgrow6 hf6; have hb5 := hb3.alloc hb3.size (Obj.cells #[.string c.issuer, .int .i64 c.num, .int .i64 c.ths, .int .i64 c.nxt, .int .i64 c.bas, .slice r1 c.revs.length t1, .string c.sig] 116); have hne6 : ∀ q, qv.ownBlock = some q -> q ∈ f2 /\ w.heap.size + 1 + 1 <= q := (fun q e => by obtain ⟨_, _, hr9, _, hf9, _⟩ := H.out.2.2.2.2.1; exact ⟨by rw [hf9]; exact List.mem_append_left _ (Option.mem_toList.2 e), (hr9.lt q e).1⟩); have hB6 : Blk w6 gA 37 #[.slice (some ⟨gC, 0, none⟩) n1 mC, qv, .slice (some ⟨gP, 0, none⟩) n3 mP] := (hgrow6.block _ (H.out.2.1.below hb5 H.out.2.1.lt).lt (fun e => H.out.2.2.2.2.2.1 (hne6 _ e.symm).1)).trans (H.out.2.1.below hb5 H.out.2.1.lt); have y6 : w6.cell? ⟨gA, 1, none⟩ = some qv := hB6.cell 1; have fz6 := fun i => hB6.free i))
    all_goals (
     have H6 : Hid (KSo w w6 #[.slice a1 n1 c1, .slice (some ⟨g, o, none⟩) n2 c2, .slice a3 n3 c3] /\ Blk w6 gA 37 #[.slice (some ⟨gC, 0, none⟩) n1 mC, qv, .slice (some ⟨gP, 0, none⟩) n3 mP] /\ OwnS certKd w6 (w.heap.size + 1 + 1) (.slice (some ⟨gC, 0, none⟩) n1 mC) s.certs f1 /\ OwnS anKd w6 (w.heap.size + 1 + 1) (.slice (some ⟨gP, 0, none⟩) n3 mP) s.ancs [gP] /\ OwnS crlKd w6 (w.heap.size + 1 + 1) (.slice (some ⟨g6, 0, none⟩) (k + 1) cap6) (s.crls.take (k + 1)) fp6 /\ gA ∉ fp6 /\ (∀ b ∈ f1, b ∉ fp6) /\ gP ∉ fp6) := by
      rw [<- HN.out.1] at hG6
      have hnw : ∀ b ∈ fp6, b ∈ f2 ∨ wr.heap.size <= b := fun b hb => by
       rcases hf6 b hb with h | h | h
       ·exact .inl h
       ·exact .inr (crlKd.lt ho3 b h).1
       ·exact .inr (by rw [h]; exact hb5.size)
      refine ⟨(H.out.1.below hb5).grown hgrow6 (fun q e => (hne6 q e).2), hB6, ?_, ?_, hG6, fun h => ?_, fun b h1 h2 => ?_, fun h => ?_⟩
      ·exact (H.out.2.2.1.stays hb5).same (fun b hb => hgrow6.block b ((H.out.2.2.1.stays hb5).lt b hb).2 (fun e => H.out.2.2.2.2.2.2.1 b hb (hne6 b e.symm).1))
      ·exact (H.out.2.2.2.1.stays hb5).same (fun b hb => hgrow6.block b ((H.out.2.2.2.1.stays hb5).lt b hb).2 (fun e => H.out.2.2.2.2.2.2.2 (List.mem_singleton.1 hb ▸ (hne6 b e.symm).1)))
      ·rcases hnw _ h with h | h
       ·exact H.out.2.2.2.2.2.1 h
       ·have := H.out.2.1.lt; omega
      ·rcases hnw _ h2 with h | h
       ·exact H.out.2.2.2.2.2.2.1 b h1 h
       ·have := (H.out.2.2.1.lt b h1).2; omega
      ·rcases hnw _ h with h | h
       ·exact H.out.2.2.2.2.2.2.2 h
       ·have := (H.out.2.2.2.1.lt gP (by simp)).2; omega
     clear hG6 hgrow6 y6 fz6 y3 y4 ho3 hb3 y0 E3 hf6 hb5 hne6 hB6 hs2 H m0 m1 m2 m3 m4 m5 m6
     go_wp2_with fail
     refine ⟨⟨k + 1, by omega, by go_num, .slice (some ⟨g6, 0, none⟩) (k + 1) cap6, fp6, ?_⟩, by simp [intOf]; omega⟩
     have hne : ∀ b, b ∉ [gA] -> b ≠ gA := fun b hb e => hb (by rw [e]; simp)
     exact ⟨H6.out.1.set HG.out.1, H6.out.2.1.set 1 _, H6.out.2.2.1.same (fun b hb => heap_setCell_other _ _ _ _ (fun (e : b = gA) => HG.out.2.1 (e ▸ hb))), H6.out.2.2.2.1.same (fun b hb => heap_setCell_other _ _ _ _ (fun e => HG.out.2.2.1 (e.symm.trans (List.mem_singleton.1 hb)))), H6.out.2.2.2.2.1.same (fun b hb => heap_setCell_other _ _ _ _ (fun (e : b = gA) => H6.out.2.2.2.2.2.1 (e ▸ hb))), H6.out.2.2.2.2.2⟩)
   ·have hkl : n2 = k := by omega
    subst hkl
    have HE : Hid (KSo w wr #[.slice a1 n1 c1, .slice a2 n2 c2, .slice a3 n3 c3] /\ Blk wr gA 37 #[.slice (some ⟨gC, 0, none⟩) n1 mC, qv, .slice (some ⟨gP, 0, none⟩) n3 mP] /\ OwnS certKd wr (w.heap.size + 1 + 1) (.slice (some ⟨gC, 0, none⟩) n1 mC) s.certs f1 /\ OwnS anKd wr (w.heap.size + 1 + 1) (.slice (some ⟨gP, 0, none⟩) n3 mP) s.ancs [gP] /\ OwnS crlKd wr (w.heap.size + 1 + 1) (qv) (s.crls) f2 /\ gA ∉ f2 /\ (∀ b ∈ f1, b ∉ f2) /\ gP ∉ f2) := by
     have h := H.out
     rw [List.take_of_length_le (by rw [HX2.out.2.1]; exact Nat.le_refl _)] at h
     exact h
    clear H
    obtain ⟨x2, y2, hs2⟩ := HE.out.2.2.2.2.1.at.shape
    rw [HX2.out.2.1] at hs2
    subst hs2
    have q0 : wr.cell? ⟨gA, 0, none⟩ = some (.slice (some ⟨gC, 0, none⟩) n1 mC) := HE.out.2.1.cell 0
    have q1 : wr.cell? ⟨gA, 1, none⟩ = some (.slice x2 n2 y2) := HE.out.2.1.cell 1
    have q2 : wr.cell? ⟨gA, 2, none⟩ = some (.slice (some ⟨gP, 0, none⟩) n3 mP) := HE.out.2.1.cell 2
    have r0 : wr.cell? ⟨w.heap.size + 1, 0, none⟩ = some (.slice none 0 0) := HE.out.1.2.2.1.cell 0
    have r1 : wr.cell? ⟨w.heap.size + 1, 1, none⟩ = some (.slice none 0 0) := HE.out.1.2.2.1.cell 1
    have r2 : wr.cell? ⟨w.heap.size + 1, 2, none⟩ = some (.slice none 0 0) := HE.out.1.2.2.1.cell 2
    have rf := fun i => HE.out.1.2.2.1.free i
    go_wp2_with fail
    refine bodyPost_ret (v := .agg #[.slice (some ⟨gC, 0, none⟩) n1 mC, .slice x2 n2 y2, .slice (some ⟨gP, 0, none⟩) n3 mP]) (by simp [results, Try.results60, go_sem, r0, r1, r2]) rfl ⟨_, _, _, _, _, _, f1 ++ (f2 ++ [gP]), rfl, OwnO.base (OwnO.same (w := wr) (base := (w.heap.size + 1 + 1)) ⟨_, _, _, f1, f2, [gP], rfl, HE.out.2.2.1, HE.out.2.2.2.2.1, HE.out.2.2.2.1, rfl, ?nd⟩ ?far) (by omega), ?bel⟩
    case nd =>
     exact nodup_app HE.out.2.2.1.nodup (nodup_app HE.out.2.2.2.2.1.nodup (by simp) fun y h1 h2 => HE.out.2.2.2.2.2.2.2 (List.mem_singleton.1 h2 ▸ h1)) fun y h1 h2 => by
      rcases List.mem_append.1 h2 with h2 | h2
      ·exact HE.out.2.2.2.2.2.2.1 y h1 h2
      ·exact HG.out.2.2.2 (List.mem_singleton.1 h2 ▸ h1)
    case far =>
     intro b hb
     have hlt : w.heap.size + 1 + 1 <= b := by
      rcases List.mem_append.1 hb with hb | hb
      ·exact (HE.out.2.2.1.lt b hb).1
      ·rcases List.mem_append.1 hb with hb | hb
       ·exact (HE.out.2.2.2.2.1.lt b hb).1
       ·exact (HE.out.2.2.2.1.lt b hb).1
     iterate 3 rw [heap_setCell_other _ _ _ _ (by show b ≠ w.heap.size + 1; omega)]
    case bel =>
     iterate 3 refine Below.setCell ?_ (by show w.heap.size <= w.heap.size + 1; omega) _
     exact HE.out.1.1
end Go.Proofs.Ytllmgjfffkhocaa
namespace Go.Proofs.Ytllmgjfffkhocaa
open Go.RowKit
set_option linter.unusedVariables false
section
variable {α : Type} (mk : Nat -> α -> α) (sz : α -> Nat)
def mkG : Nat -> List α -> List α
 | _, [] => []
 | k, c :: l => mk k c :: mkG (k + sz c) l
def posG (k : Nat) (l : List α) (j : Nat) : Nat := k + ((l.map sz).take j).sum
theorem mkG_len : ∀ (k : Nat) (l : List α), (mkG mk sz k l).length = l.length
 | _, [] => rfl
 | k, c :: l => by simp [mkG, mkG_len]
theorem mkG_get : ∀ (l : List α) (k j : Nat) (h : j < l.length) (h' : j < (mkG mk sz k l).length), (mkG mk sz k l)[j] = mk (posG sz k l j) l[j]
 | c :: l, k, 0, h, h' => by simp [mkG, posG]
 | c :: l, k, j + 1, h, h' => by
  have := mkG_get l (k + sz c) j (by simpa using h) (by rw [mkG_len]; simpa using h)
  simp only [mkG, List.getElem_cons_succ, this]
  congr 1
  simp [posG]
  omega
theorem posG_next {k : Nat} {l : List α} {j : Nat} (h : j < l.length) : posG sz k l (j + 1) = posG sz k l j + sz l[j] := by
 unfold posG
 rw [sum_take (by rw [List.length_map]; exact h), List.getElem_map]
 omega
theorem posG_le (k : Nat) (l : List α) (j : Nat) : posG sz k l j <= k + (l.map sz).sum := by
 have h1 := sum_take_le (l.map sz) j
 unfold posG
 omega
theorem markG_set {k : Nat} {l : List α} {j : Nat} (h : j < l.length) : ((mkG mk sz k l).take j ++ l.drop j).set j (mk (posG sz k l j) l[j]) = (mkG mk sz k l).take (j + 1) ++ l.drop (j + 1) := by
 have hm : j < (mkG mk sz k l).length := by rw [mkG_len]; exact h
 have e : ((mkG mk sz k l).take j).length = j := by rw [List.length_take]; omega
 rw [List.set_append_right _ _ (by omega), e, Nat.sub_self, List.drop_eq_getElem_cons h, List.set_cons_zero, List.take_succ_eq_append_getElem hm, mkG_get mk sz l k j h hm, List.append_assoc]
 rfl
theorem markG_len {k : Nat} {l : List α} {j : Nat} (h : j <= l.length) : ((mkG mk sz k l).take j ++ l.drop j).length = l.length := by
 rw [List.length_append, List.length_take, List.length_drop, mkG_len]
 omega
theorem markG_get {k : Nat} {l : List α} {j : Nat} (h : j < l.length) (h' : j < ((mkG mk sz k l).take j ++ l.drop j).length) : ((mkG mk sz k l).take j ++ l.drop j)[j] = l[j] := by
 have e : ((mkG mk sz k l).take j).length = j := by rw [List.length_take, mkG_len]; omega
 rw [List.getElem_append_right (by omega)]
 simp [e]
theorem markG_all {k : Nat} {l : List α} {j : Nat} (h : l.length <= j) : (mkG mk sz k l).take j ++ l.drop j = mkG mk sz k l := by
 rw [List.drop_eq_nil_of_le h, List.append_nil, List.take_of_length_le (by rw [mkG_len]; exact h)]
end
theorem set_selfG {l : List Value} {i : Nat} {a : Value} (h : l[i]? = some a) : l.set i a = l := by
 apply List.ext_getElem?
 intro j
 rw [List.getElem?_set]
 split
 ·next e =>
  subst e
  rw [h]
  split
  ·rfl
  ·next hn => rw [List.getElem?_eq_none (by omega)] at h; cases h
 ·rfl
theorem OwnS.turnK {α : Type} (k : Kd α) {w W : World} {base g n cap : Nat} {l : List α} {vs : List Value} {c' : α} {j : Nat} (hj : j < l.length) (hl : vs.length = l.length) (he : ∀ i (h1 : i < vs.length) (h2 : i < l.length), k.Own w base vs[i] l[i]) (hn : ((Value.slice (some ⟨g, 0, none⟩) n cap).ownBlock.toList ++ vs.flatMap k.fp).Nodup) {u : Value} (hfp : k.fp u = k.fp (vs[j]'(by omega)))
  (hr : W.ownsRow base k.T k.K (.slice (some ⟨g, 0, none⟩) n cap) l.length (cellsV (vs.set j u))) (hu : k.Own W base u c') (ho : Out (g :: k.fp (vs[j]'(by omega))) w W) : OwnS k W base (.slice (some ⟨g, 0, none⟩) n cap) (l.set j c') ((Value.slice (some ⟨g, 0, none⟩) n cap).ownBlock.toList ++ vs.flatMap k.fp) := by
 have hjv : j < vs.length := by omega
 have e1 : vs = vs.take j ++ vs[j] :: vs.drop (j + 1) := by rw [List.getElem_cons_drop, List.take_append_drop]
 have e2 : vs.set j u = vs.take j ++ u :: vs.drop (j + 1) := List.set_eq_take_append_cons_drop.trans (by rw [if_pos hjv])
 have e3 : (vs.set j u).flatMap k.fp = vs.flatMap k.fp := by
  rw [e2, List.flatMap_append, List.flatMap_cons, hfp, <- List.flatMap_cons, <- List.flatMap_append, <- e1]
 refine ⟨vs.set j u, by simp [hl], by rw [List.length_set]; exact hr, fun i h1 h2 => ?_, ?_, hn⟩
 ·rw [List.getElem_set, List.getElem_set]
  by_cases e : j = i
  ·rw [if_pos e, if_pos e]
   exact hu
  ·rw [if_neg e, if_neg e]
   have h3 : i < vs.length := by simpa using h1
   refine k.same (he i h3 (by omega)) fun b hb => ho.2.2.2.2 b (k.lt (he i h3 (by omega)) b hb).2 fun hm => ?_
   have hq := List.nodup_append.1 hn
   rcases List.mem_cons.1 hm with rfl | hm
   ·exact hq.2.2 b (by simp [Value.ownBlock]) b (mem_flat h3 hb) rfl
   ·have hA : (vs.take j).flatMap k.fp ++ (k.fp vs[j] ++ (vs.drop (j + 1)).flatMap k.fp) = vs.flatMap k.fp := by
     rw [<- List.flatMap_cons, <- List.flatMap_append, <- e1]
    have hnf := hq.2.1
    rw [<- hA] at hnf
    have q1 := List.nodup_append.1 hnf
    have q2 := List.nodup_append.1 q1.2.1
    rcases Nat.lt_or_ge i j with hij | hij
    ·refine q1.2.2 b (List.mem_flatMap.2 ⟨vs[i], ?_, hb⟩) b (List.mem_append_left _ hm) rfl
     rw [List.mem_take_iff_getElem]
     exact ⟨i, by omega, rfl⟩
    ·refine q2.2.2 b hm b (List.mem_flatMap.2 ⟨vs[i], ?_, hb⟩) rfl
     rw [List.mem_drop_iff_getElem]
     exact ⟨i - (j + 1), by omega, by congr 1; omega⟩
 ·show _ = _ ++ (vs.set j u).flatMap k.fp
  rw [e3]
end Go.Proofs.Ytllmgjfffkhocaa
namespace Go.Proofs.Ytllmgjfffkhocaa
open Go.RowKit
set_option linter.unusedVariables false
set_option linter.unusedSimpArgs false
def mkM (k : Nat) (c : Ct) : Ct := ⟨(k : Int), ⟨(mt (k + 1)).toArray⟩, ⟨(mt (k + 2)).toArray⟩, (k : Int) + 1 + 1 + 1, (k : Int) + 1 + 1 + 1 + 1, ⟨(mt (k + 5)).toArray⟩, decide ((k + 6) % 3 = 0), (k : Int) + 1 + 1 + 1 + 1 + 1 + 1 + 1, (k : Int) + 1 + 1 + 1 + 1 + 1 + 1 + 1 + 1, marksI (k + 9) c.pol.length, marksT (k + 9 + c.pol.length) c.per.length, marksT (k + 9 + c.pol.length + c.per.length) c.den.length, ⟨(mt (k + 9 + c.pol.length + c.per.length + c.den.length)).toArray⟩⟩
def szM (c : Ct) : Nat := 10 + c.pol.length + c.per.length + c.den.length
theorem szM_wt (c : Ct) : szM c <= 10 + wtC c := by
 have h1 := tot_len c.per
 have h2 := tot_len c.den
 unfold szM wtC
 omega
theorem sum_szM : ∀ l : List Ct, (l.map szM).sum <= 10 * wtM l
 | [] => by simp
 | c :: l => by
  have := sum_szM l
  have h2 := szM_wt c
  unfold wtM at this |-
  simp only [List.map_cons, List.sum_cons, List.length_cons]
  omega
def MkM (w0 W : World) (base g n cap : Nat) (fq : List Nat) (X : List Value) (p e d : Value) (P : List Int) (E D : List ByteArray) : Prop :=
 W.ownsRow base 112 13 (.slice (some ⟨g, 0, none⟩) n cap) n X /\ (OwnI W base p P /\ OwnT W base e E /\ OwnT W base d D) /\ Out fq w0 W /\ g ∈ fq /\ (∀ b, p.ownBlock = some b ∨ e.ownBlock = some b ∨ d.ownBlock = some b -> b ≠ g /\ b ∈ fq) /\ ((Ap p e /\ Ap e p) /\ (Ap p d /\ Ap d p) /\ Ap e d /\ Ap d e)
section
variable {w0 W W' : World} {base g n cap : Nat} {fq : List Nat} {X : List Value} {p e d : Value} {P P' : List Int} {E D E' D' : List ByteArray}
theorem MkM.below (h : MkM w0 W base g n cap fq X p e d P E D) (hb : Below W.heap.size W W') : MkM w0 W' base g n cap fq X p e d P E D :=
 ⟨own_kept h.1 hb, ⟨h.2.1.1.stays hb, h.2.1.2.1.stays hb, h.2.1.2.2.stays hb⟩, h.2.2.1.trans (Out.of_below hb), h.2.2.2⟩
theorem MkM.put (h : MkM w0 W base g n cap fq X p e d P E D) (i : Nat) (x : Value) : MkM w0 (W.setCell ⟨g, i, none⟩ x) base g n cap fq (X.set i x) p e d P E D :=
 ⟨(h.1.stored i x).1, ⟨row_same h.2.1.1 (fun b hb => heap_setCell_other _ _ _ _ (h.2.2.2.2.1 b (.inl hb)).1), row_same h.2.1.2.1 (fun b hb => heap_setCell_other _ _ _ _ (h.2.2.2.2.1 b (.inr (.inl hb))).1), row_same h.2.1.2.2 (fun b hb => heap_setCell_other _ _ _ _ (h.2.2.2.2.1 b (.inr (.inr hb))).1)⟩, h.2.2.1.setCell _ _ h.2.2.2.1, h.2.2.2⟩
theorem MkM.markP (h : MkM w0 W base g n cap fq X p e d P E D) (ho : OwnI W' base p P') (hg : W.grownBy W' p.ownBlock) : MkM w0 W' base g n cap fq X p e d P' E D :=
 ⟨h.1.kept hg (.inr fun e => (h.2.2.2.2.1 g (.inl e.symm)).1 rfl), ⟨ho, World.ownsRow.kept h.2.1.2.1 hg h.2.2.2.2.2.1.2, World.ownsRow.kept h.2.1.2.2 hg h.2.2.2.2.2.2.1.2⟩, h.2.2.1.grown hg (fun q hq => (h.2.2.2.2.1 q (.inl hq)).2), h.2.2.2⟩
theorem MkM.markE (h : MkM w0 W base g n cap fq X p e d P E D) (ho : OwnT W' base e E') (hg : W.grownBy W' e.ownBlock) : MkM w0 W' base g n cap fq X p e d P E' D :=
 ⟨h.1.kept hg (.inr fun e => (h.2.2.2.2.1 g (.inr (.inl e.symm))).1 rfl), ⟨World.ownsRow.kept h.2.1.1 hg h.2.2.2.2.2.1.1, ho, World.ownsRow.kept h.2.1.2.2 hg h.2.2.2.2.2.2.2.2⟩, h.2.2.1.grown hg (fun q hq => (h.2.2.2.2.1 q (.inr (.inl hq))).2), h.2.2.2⟩
theorem MkM.markD (h : MkM w0 W base g n cap fq X p e d P E D) (ho : OwnT W' base d D') (hg : W.grownBy W' d.ownBlock) : MkM w0 W' base g n cap fq X p e d P E D' :=
 ⟨h.1.kept hg (.inr fun e => (h.2.2.2.2.1 g (.inr (.inr e.symm))).1 rfl), ⟨World.ownsRow.kept h.2.1.1 hg h.2.2.2.2.2.2.1.1, World.ownsRow.kept h.2.1.2.1 hg h.2.2.2.2.2.2.2.1, ho⟩, h.2.2.1.grown hg (fun q hq => (h.2.2.2.2.1 q (.inr (.inr hq))).2), h.2.2.2⟩
theorem MkM.cell (h : MkM w0 W base g n cap fq X p e d P E D) {i : Nat} (hi : i < n * 13) : ∃ x, W.cell? ⟨g, i, none⟩ = some x := by
 rw [World.ownsRow.cellAt h.1 i hi]
 exact ⟨X[i]'(by rw [h.1.1]; exact hi), List.getElem?_eq_getElem _⟩
theorem MkM.at (h : MkM w0 W base g n cap fq X p e d P E D) {i : Nat} (hi : i < n * 13) : W.cell? ⟨g, i, none⟩ = X[i]? := World.ownsRow.cellAt h.1 i hi
theorem MkM.free (h : MkM w0 W base g n cap fq X p e d P E D) (i : Nat) : W.frozen? ⟨g, i, none⟩ = false := World.ownsRow.frozenAt h.1 i
end
theorem markCertS_out (l : List Ct) (v : Value) (k base : Nat) (fp : List Nat) (w : World) (hl : wtM l <= 1048577) (hk1 : 1 <= k) (hk : k <= 100000000) (ha : OwnS certKd w base v l fp) :
  Calls Try.prog 63 #[v, .int .i64 k] w fun e w' => e = .returned (.int .i64 ((posG szM k l l.length : Nat) : Int)) /\ OwnS certKd w' base v (mkG mkM szM k l) fp /\ Out fp w w' := by
 obtain ⟨ao, cap, hv, hg, -, -⟩ := ha.shape
 obtain ⟨n, hn⟩ := zE (l.length)
 rw [hn] at hv hg
 subst hv
 obtain ⟨KK, hKK⟩ : ∃ q : Nat, posG szM k l l.length = q := ⟨_, rfl⟩
 rw [hKK]
 have HA : Hid (OwnS certKd w base (.slice ao n cap) l fp /\ l.length = n /\ wtM l <= 1048577 /\ (0 < n -> ∃ g, ao = some ⟨g, 0, none⟩) /\ posG szM k l l.length = KK) := ⟨ha, hn, hl, hg, hKK⟩
 have hn20 : n <= 1048577 := by unfold wtM at hl; omega
 clear ha hn hl hg hKK
 go_enter Try.func63, Try.ntmps63
 go_wp2_with fail
 go_loopw [1, 5] (fun kv iv wr => ∃ j q : Nat, j <= n /\ iv = .int .i64 j /\ kv = .int .i64 q /\ (1 <= q /\ q <= 200000000) /\ Hid (q = posG szM k l j /\ OwnS certKd wr base (.slice ao n cap) ((mkG mkM szM k l).take j ++ l.drop j) fp /\ Out fp w wr)) (fun _ iv _ => n - (intOf iv).toNat)
 case atStart => exact ⟨0, k, Nat.zero_le _, rfl, rfl, ⟨hk1, by omega⟩, by simp [posG], by simpa using HA.out.1, Out.refl _ _⟩
 case round =>
  obtain ⟨j, q, hj, rfl, rfl, ⟨hq1, hq2⟩, H⟩ := hrel
  by_cases hjn : j < n
  ·have hjl : j < l.length := by rw [HA.out.2.1]; exact hjn
   obtain ⟨g, hg⟩ := HA.out.2.2.2.1 (by omega)
   subst hg
   obtain ⟨vs, hvl, hr, he, hfp, hnd⟩ := H.out.2.1
   have hml := markG_len mkM szM (k := k) (Nat.le_of_lt hjl)
   have hjv : j < vs.length := by rw [hvl, hml]; exact hjl
   have hej : OwnC wr base vs[j] ((mkG mkM szM k l).take j ++ l.drop j)[j] := he j hjv (by omega)
   rw [markG_get mkM szM hjl] at hej
   obtain ⟨c, hc⟩ := zE (l[j])
   rw [hc] at hej
   obtain ⟨p, e, d, hup, hop, hoe, hod, hap⟩ := hej
   obtain ⟨lp, hlp⟩ := zE (c.pol.length)
   obtain ⟨le, hle⟩ := zE (c.per.length)
   obtain ⟨ld, hld⟩ := zE (c.den.length)
   obtain ⟨pa, pc, hpv⟩ : ∃ ao cap, p = .slice ao c.pol.length cap := by obtain ⟨ao, cap, h, _⟩ := hop.at; exact ⟨ao, cap, h⟩
   obtain ⟨ea, ec, hev⟩ : ∃ ao cap, e = .slice ao c.per.length cap := by obtain ⟨ao, cap, h, _⟩ := hoe.at; exact ⟨ao, cap, h⟩
   obtain ⟨da, dc, hdv⟩ : ∃ ao cap, d = .slice ao c.den.length cap := by obtain ⟨ao, cap, h, _⟩ := hod.at; exact ⟨ao, cap, h⟩
   rw [hlp] at hpv
   rw [hle] at hev
   rw [hld] at hdv
   subst hpv hev hdv
   obtain ⟨X, hX⟩ := zE (cellsV vs)
   have HM : Hid (MkM wr wr base g n cap (g :: fpC vs[j]) X (.slice pa lp pc) (.slice ea le ec) (.slice da ld dc) c.pol c.per c.den) := by
    refine ⟨by rw [<- hX]; rw [hml, HA.out.2.1] at hr; exact hr, ⟨hop, hoe, hod⟩, Out.refl _ _, List.mem_cons_self .., fun b hb => ⟨fun e => ?_, List.mem_cons_of_mem _ (by rw [hup]; exact fpC_mem.2 hb)⟩, hap⟩
    subst e
    refine (List.nodup_append.1 (hfp ▸ hnd)).2.2 b (by simp [Value.ownBlock]) b (mem_flat (k := fpC) hjv (by rw [hup]; exact fpC_mem.2 hb)) rfl
   have HX5 : Hid (∀ i, i < 13 -> X[j * 13 + i]? = (ctV c (.slice pa lp pc) (.slice ea le ec) (.slice da ld dc)).cells[i]?) := fun i hi => by
    rw [<- hX, <- hup]
    exact cellsV_at (OwnS.sizes (k := certKd) hvl he) j hjv i hi
   have HE : Hid (∀ (W : World) (x1 x2 x5 x12 : ByteArray) (x0 x3 x4 x7 x8 : Int) (x6 : Bool) (c' : Ct), c' = ⟨x0, x1, x2, x3, x4, x5, x6, x7, x8, c'.pol, c'.per, c'.den, x12⟩ -> MkM wr W base g n cap (g :: fpC vs[j]) ((((((((((X.set (j * 13) (.int .i64 x0)).set (j * 13 + 1) (.string x1)).set (j * 13 + 2) (.string x2)).set (j * 13 + 3) (.int .i64 x3)).set (j * 13 + 4) (.int .i64 x4)).set (j * 13 + 5) (.string x5)).set (j * 13 + 6) (.bool x6)).set (j * 13 + 7) (.int .i64 x7)).set (j * 13 + 8) (.int .i64 x8)).set (j * 13 + 12) (.string x12)) (.slice pa lp pc) (.slice ea le ec) (.slice da ld dc) c'.pol c'.per c'.den -> c' = mkM q c -> (q = posG szM k l j -> OwnS certKd W base (.slice (some ⟨g, 0, none⟩) n cap) ((mkG mkM szM k l).take (j + 1) ++ l.drop (j + 1)) fp /\ Out fp w W)) := fun W x1 x2 x5 x12 x0 x3 x4 x7 x8 x6 c' hc' hM hmk hq => by
    have hset : cellsV (vs.set j (.agg #[.int .i64 x0, .string x1, .string x2, .int .i64 x3, .int .i64 x4, .string x5, .bool x6, .int .i64 x7, .int .i64 x8, .slice pa lp pc, .slice ea le ec, .slice da ld dc, .string x12])) = ((((((((((X.set (j * 13) (.int .i64 x0)).set (j * 13 + 1) (.string x1)).set (j * 13 + 2) (.string x2)).set (j * 13 + 3) (.int .i64 x3)).set (j * 13 + 4) (.int .i64 x4)).set (j * 13 + 5) (.string x5)).set (j * 13 + 6) (.bool x6)).set (j * 13 + 7) (.int .i64 x7)).set (j * 13 + 8) (.int .i64 x8)).set (j * 13 + 12) (.string x12)) := by
     rw [<- setMany_cells (K := 13) (OwnS.sizes (k := certKd) hvl he) j _ hjv rfl, hX]
     show ((((((((((((X.set (j * 13) (.int .i64 x0)).set (j * 13 + 1) (.string x1)).set (j * 13 + 2) (.string x2)).set (j * 13 + 3) (.int .i64 x3)).set (j * 13 + 4) (.int .i64 x4)).set (j * 13 + 5) (.string x5)).set (j * 13 + 6) (.bool x6)).set (j * 13 + 7) (.int .i64 x7)).set (j * 13 + 8) (.int .i64 x8)).set (j * 13 + 9) (.slice pa lp pc)).set (j * 13 + 10) (.slice ea le ec)).set (j * 13 + 11) (.slice da ld dc)).set (j * 13 + 12) _ = _
     congr 1
     have h9 : X[j * 13 + 9]? = some (.slice pa lp pc) := HX5.out 9 (by decide)
     have h10 : X[j * 13 + 10]? = some (.slice ea le ec) := HX5.out 10 (by decide)
     have h11 : X[j * 13 + 11]? = some (.slice da ld dc) := HX5.out 11 (by decide)
     have s9 := set_selfG (l := (((((((((X.set (j * 13) (.int .i64 x0)).set (j * 13 + 1) (.string x1)).set (j * 13 + 2) (.string x2)).set (j * 13 + 3) (.int .i64 x3)).set (j * 13 + 4) (.int .i64 x4)).set (j * 13 + 5) (.string x5)).set (j * 13 + 6) (.bool x6)).set (j * 13 + 7) (.int .i64 x7)).set (j * 13 + 8) (.int .i64 x8))) (i := j * 13 + 9) (a := .slice pa lp pc) (by (iterate 9 rw [List.getElem?_set_ne (by omega)]); exact h9)
     have s10 := set_selfG (l := (((((((((X.set (j * 13) (.int .i64 x0)).set (j * 13 + 1) (.string x1)).set (j * 13 + 2) (.string x2)).set (j * 13 + 3) (.int .i64 x3)).set (j * 13 + 4) (.int .i64 x4)).set (j * 13 + 5) (.string x5)).set (j * 13 + 6) (.bool x6)).set (j * 13 + 7) (.int .i64 x7)).set (j * 13 + 8) (.int .i64 x8))) (i := j * 13 + 10) (a := .slice ea le ec) (by (iterate 9 rw [List.getElem?_set_ne (by omega)]); exact h10)
     have s11 := set_selfG (l := (((((((((X.set (j * 13) (.int .i64 x0)).set (j * 13 + 1) (.string x1)).set (j * 13 + 2) (.string x2)).set (j * 13 + 3) (.int .i64 x3)).set (j * 13 + 4) (.int .i64 x4)).set (j * 13 + 5) (.string x5)).set (j * 13 + 6) (.bool x6)).set (j * 13 + 7) (.int .i64 x7)).set (j * 13 + 8) (.int .i64 x8))) (i := j * 13 + 11) (a := .slice da ld dc) (by (iterate 9 rw [List.getElem?_set_ne (by omega)]); exact h11)
     rw [s9, s10, s11]
    have hT := OwnS.turnK certKd (c' := mkM q c) (cap := cap) (n := n) (j := j) (l := (mkG mkM szM k l).take j ++ l.drop j) (by omega) hvl he (hfp ▸ hnd) (u := .agg #[.int .i64 x0, .string x1, .string x2, .int .i64 x3, .int .i64 x4, .string x5, .bool x6, .int .i64 x7, .int .i64 x8, .slice pa lp pc, .slice ea le ec, .slice da ld dc, .string x12]) (by rw [hup]; rfl) (by rw [hset, hml, HA.out.2.1]; exact hM.1) ⟨.slice pa lp pc, .slice ea le ec, .slice da ld dc, by rw [<- hmk, hc']; rfl, by rw [<- hmk]; exact hM.2.1.1, by rw [<- hmk]; exact hM.2.1.2.1, by rw [<- hmk]; exact hM.2.1.2.2, hM.2.2.2.2.2⟩ hM.2.2.1
    refine ⟨?_, ?_⟩
    ·rw [hfp, <- markG_set mkM szM hjl, <- hq, hc]
     exact hT
    ·refine H.out.2.2.trans (hM.2.2.1.mono fun b hb => ?_)
     rw [hfp]
     rcases List.mem_cons.1 hb with rfl | hb
     ·exact List.mem_append_left _ (by simp [Value.ownBlock])
     ·exact List.mem_append_right _ (mem_flat (k := fpC) hjv hb)
   have HL : Hid (c.pol.length = lp /\ c.per.length = le /\ c.den.length = ld) := ⟨hlp, hle, hld⟩
   have HQ : Hid (q = posG szM k l j /\ posG szM k l (j + 1) = q + (10 + lp + le + ld)) := ⟨H.out.1, by rw [posG_next szM hjl, hc, <- H.out.1]; unfold szM; rw [hlp, hle, hld]⟩
   have hqb : q + (10 + lp + le + ld) <= 120000000 := by
    have h1 := posG_le szM k l (j + 1)
    have h2 := sum_szM l
    have h3 := HQ.out.2
    have h4 := HA.out.2.2.1
    omega
   clear H hr he hfp hnd hvl hop hoe hod hap hX hml
   have hki : (j : Int) < (n : Int) := by omega
   have hk0 : (0 : Int) <= (j : Int) := by omega
   generalize g :: fpC vs[j] = fq at HM HE
   clear hup hjv hc hlp hle hld
   obtain ⟨CA, hCA⟩ := zE (decide ((q + 6) % 3 = 0))
   have hCA2 : (((q : Int) + 1 + 1 + 1 + 1 + 1 + 1) % 3 == 0) = CA := by rw [<- hCA, Bool.eq_iff_iff, beq_iff_eq, decide_eq_true_eq]; omega
   have HCA : Hid (decide ((q + 6) % 3 = 0) = CA) := hCA
   clear hCA
   have HM0 : Hid (MkM wr wr base g n cap fq X (.slice pa lp pc) (.slice ea le ec) (.slice da ld dc) c.pol c.per c.den) := HM.out
   clear HM
   obtain ⟨y0, c0⟩ := HM0.out.cell (i := j * 13) (by omega)
   have fz := fun i => HM0.out.free i
   go_wp2_with fail
   clear c0 fz
   obtain ⟨V1, hV1⟩ : ∃ V, V = (wr.setCell ⟨g, j * 13, none⟩ (.int .i64 (q : Int))) := ⟨_, rfl⟩
   rw [<- hV1]
   have HM1 : Hid (MkM wr V1 base g n cap fq (X.set (j * 13) (.int .i64 (q : Int))) (.slice pa lp pc) (.slice ea le ec) (.slice da ld dc) c.pol c.per c.den) := by rw [hV1]; exact (HM0.out.put _ _)
   clear hV1 HM0
   have E1 := markText_str (q + 1) V1 (by omega) (by omega)
   rw [show (((q + 1 : Nat)) : Int) = (q : Int) + 1 from by omega] at E1
   refine E1.mono ?_
   rintro e w2 ⟨rfl, hb1⟩
   have HM2 : Hid (MkM wr w2 base g n cap fq (X.set (j * 13) (.int .i64 (q : Int))) (.slice pa lp pc) (.slice ea le ec) (.slice da ld dc) c.pol c.per c.den) := HM1.out.below hb1
   clear E1 hb1 HM1
   obtain ⟨y1, c1⟩ := HM2.out.cell (i := j * 13 + 1) (by omega)
   have fz := fun i => HM2.out.free i
   go_wp2_with fail
   clear c1 fz
   obtain ⟨V3, hV3⟩ : ∃ V, V = (w2.setCell ⟨g, j * 13 + 1, none⟩ (.string ⟨(mt (q + 1)).toArray⟩)) := ⟨_, rfl⟩
   rw [<- hV3]
   have HM3 : Hid (MkM wr V3 base g n cap fq ((X.set (j * 13) (.int .i64 (q : Int))).set (j * 13 + 1) (.string ⟨(mt (q + 1)).toArray⟩)) (.slice pa lp pc) (.slice ea le ec) (.slice da ld dc) c.pol c.per c.den) := by rw [hV3]; exact (HM2.out.put _ _)
   clear hV3 HM2
   have E1 := markText_str (q + 2) V3 (by omega) (by omega)
   rw [show (((q + 2 : Nat)) : Int) = (q : Int) + 1 + 1 from by omega] at E1
   refine E1.mono ?_
   rintro e w4 ⟨rfl, hb1⟩
   have HM4 : Hid (MkM wr w4 base g n cap fq ((X.set (j * 13) (.int .i64 (q : Int))).set (j * 13 + 1) (.string ⟨(mt (q + 1)).toArray⟩)) (.slice pa lp pc) (.slice ea le ec) (.slice da ld dc) c.pol c.per c.den) := HM3.out.below hb1
   clear E1 hb1 HM3
   obtain ⟨y2, c2⟩ := HM4.out.cell (i := j * 13 + 2) (by omega)
   obtain ⟨y3, c3⟩ := HM4.out.cell (i := j * 13 + 3) (by omega)
   obtain ⟨y4, c4⟩ := HM4.out.cell (i := j * 13 + 4) (by omega)
   have fz := fun i => HM4.out.free i
   go_wp2_with fail
   clear c2 c3 c4 fz
   obtain ⟨V5, hV5⟩ : ∃ V, V = (((w4.setCell ⟨g, j * 13 + 2, none⟩ (.string ⟨(mt (q + 2)).toArray⟩)).setCell ⟨g, j * 13 + 3, none⟩ (.int .i64 ((q : Int) + 1 + 1 + 1))).setCell ⟨g, j * 13 + 4, none⟩ (.int .i64 ((q : Int) + 1 + 1 + 1 + 1))) := ⟨_, rfl⟩
   rw [<- hV5]
   have HM5 : Hid (MkM wr V5 base g n cap fq (((((X.set (j * 13) (.int .i64 (q : Int))).set (j * 13 + 1) (.string ⟨(mt (q + 1)).toArray⟩)).set (j * 13 + 2) (.string ⟨(mt (q + 2)).toArray⟩)).set (j * 13 + 3) (.int .i64 ((q : Int) + 1 + 1 + 1))).set (j * 13 + 4) (.int .i64 ((q : Int) + 1 + 1 + 1 + 1))) (.slice pa lp pc) (.slice ea le ec) (.slice da ld dc) c.pol c.per c.den) := by rw [hV5]; exact (((HM4.out.put _ _).put _ _).put _ _)
   clear hV5 HM4
   have E1 := markText_str (q + 5) V5 (by omega) (by omega)
   rw [show (((q + 5 : Nat)) : Int) = (q : Int) + 1 + 1 + 1 + 1 + 1 from by omega] at E1
   refine E1.mono ?_
   rintro e w6 ⟨rfl, hb1⟩
   have HM6 : Hid (MkM wr w6 base g n cap fq (((((X.set (j * 13) (.int .i64 (q : Int))).set (j * 13 + 1) (.string ⟨(mt (q + 1)).toArray⟩)).set (j * 13 + 2) (.string ⟨(mt (q + 2)).toArray⟩)).set (j * 13 + 3) (.int .i64 ((q : Int) + 1 + 1 + 1))).set (j * 13 + 4) (.int .i64 ((q : Int) + 1 + 1 + 1 + 1))) (.slice pa lp pc) (.slice ea le ec) (.slice da ld dc) c.pol c.per c.den) := HM5.out.below hb1
   clear E1 hb1 HM5
   obtain ⟨y5, c5⟩ := HM6.out.cell (i := j * 13 + 5) (by omega)
   obtain ⟨y6, c6⟩ := HM6.out.cell (i := j * 13 + 6) (by omega)
   obtain ⟨y7, c7⟩ := HM6.out.cell (i := j * 13 + 7) (by omega)
   obtain ⟨y8, c8⟩ := HM6.out.cell (i := j * 13 + 8) (by omega)
   have fz := fun i => HM6.out.free i
   have c9 : w6.cell? ⟨g, j * 13 + 9, none⟩ = some (.slice pa lp pc) := by
    rw [HM6.out.at (by omega)]
    iterate 5 rw [List.getElem?_set_ne (by omega)]
    exact HX5.out 9 (by decide)
   go_wp2_with fail
   clear c5 c6 c7 c8 c9 fz
   obtain ⟨V7, hV7⟩ : ∃ V, V = ((((w6.setCell ⟨g, j * 13 + 5, none⟩ (.string ⟨(mt (q + 5)).toArray⟩)).setCell ⟨g, j * 13 + 6, none⟩ (.bool CA)).setCell ⟨g, j * 13 + 7, none⟩ (.int .i64 ((q : Int) + 1 + 1 + 1 + 1 + 1 + 1 + 1))).setCell ⟨g, j * 13 + 8, none⟩ (.int .i64 ((q : Int) + 1 + 1 + 1 + 1 + 1 + 1 + 1 + 1))) := ⟨_, rfl⟩
   rw [<- hV7]
   have HM7 : Hid (MkM wr V7 base g n cap fq (((((((((X.set (j * 13) (.int .i64 (q : Int))).set (j * 13 + 1) (.string ⟨(mt (q + 1)).toArray⟩)).set (j * 13 + 2) (.string ⟨(mt (q + 2)).toArray⟩)).set (j * 13 + 3) (.int .i64 ((q : Int) + 1 + 1 + 1))).set (j * 13 + 4) (.int .i64 ((q : Int) + 1 + 1 + 1 + 1))).set (j * 13 + 5) (.string ⟨(mt (q + 5)).toArray⟩)).set (j * 13 + 6) (.bool CA)).set (j * 13 + 7) (.int .i64 ((q : Int) + 1 + 1 + 1 + 1 + 1 + 1 + 1))).set (j * 13 + 8) (.int .i64 ((q : Int) + 1 + 1 + 1 + 1 + 1 + 1 + 1 + 1))) (.slice pa lp pc) (.slice ea le ec) (.slice da ld dc) c.pol c.per c.den) := by rw [hV7]; exact ((((HM6.out.put _ _).put _ _).put _ _).put _ _)
   clear hV7 HM6
   have E5 := mark_any (.slice pa lp pc) c.pol (q + 9) base V7 (by rw [HL.out.1]; omega) (by omega) HM7.out.2.1.1
   rw [HL.out.1, show (((q + 9 : Nat)) : Int) = (q : Int) + 1 + 1 + 1 + 1 + 1 + 1 + 1 + 1 + 1 from by omega] at E5
   refine E5.mono ?_
   rintro e w8 ⟨rfl, ho5, hg5⟩
   have HM8 : Hid (MkM wr w8 base g n cap fq (((((((((X.set (j * 13) (.int .i64 (q : Int))).set (j * 13 + 1) (.string ⟨(mt (q + 1)).toArray⟩)).set (j * 13 + 2) (.string ⟨(mt (q + 2)).toArray⟩)).set (j * 13 + 3) (.int .i64 ((q : Int) + 1 + 1 + 1))).set (j * 13 + 4) (.int .i64 ((q : Int) + 1 + 1 + 1 + 1))).set (j * 13 + 5) (.string ⟨(mt (q + 5)).toArray⟩)).set (j * 13 + 6) (.bool CA)).set (j * 13 + 7) (.int .i64 ((q : Int) + 1 + 1 + 1 + 1 + 1 + 1 + 1))).set (j * 13 + 8) (.int .i64 ((q : Int) + 1 + 1 + 1 + 1 + 1 + 1 + 1 + 1))) (.slice pa lp pc) (.slice ea le ec) (.slice da ld dc) (marksI (q + 9) lp) c.per c.den) := HM7.out.markP ho5 hg5
   clear HM7 E5 ho5 hg5
   have fz := fun i => HM8.out.free i
   have c10 : w8.cell? ⟨g, j * 13 + 10, none⟩ = some (.slice ea le ec) := by
    rw [HM8.out.at (by omega)]
    iterate 9 rw [List.getElem?_set_ne (by omega)]
    exact HX5.out 10 (by decide)
   go_wp2_with fail
   clear c10 fz
   have E5 := markT_any (.slice ea le ec) c.per (q + 9 + lp) base w8 (by rw [HL.out.2.1]; omega) (by omega) (by omega) HM8.out.2.1.2.1
   rw [HL.out.2.1, show (((q + 9 + lp : Nat)) : Int) = (q : Int) + 1 + 1 + 1 + 1 + 1 + 1 + 1 + 1 + 1 + (lp : Int) from by omega] at E5
   refine E5.mono ?_
   rintro e w9 ⟨rfl, ho5, hg5⟩
   have HM9 : Hid (MkM wr w9 base g n cap fq (((((((((X.set (j * 13) (.int .i64 (q : Int))).set (j * 13 + 1) (.string ⟨(mt (q + 1)).toArray⟩)).set (j * 13 + 2) (.string ⟨(mt (q + 2)).toArray⟩)).set (j * 13 + 3) (.int .i64 ((q : Int) + 1 + 1 + 1))).set (j * 13 + 4) (.int .i64 ((q : Int) + 1 + 1 + 1 + 1))).set (j * 13 + 5) (.string ⟨(mt (q + 5)).toArray⟩)).set (j * 13 + 6) (.bool CA)).set (j * 13 + 7) (.int .i64 ((q : Int) + 1 + 1 + 1 + 1 + 1 + 1 + 1))).set (j * 13 + 8) (.int .i64 ((q : Int) + 1 + 1 + 1 + 1 + 1 + 1 + 1 + 1))) (.slice pa lp pc) (.slice ea le ec) (.slice da ld dc) (marksI (q + 9) lp) (marksT (q + 9 + lp) le) c.den) := HM8.out.markE ho5 hg5
   clear HM8 E5 ho5 hg5
   have fz := fun i => HM9.out.free i
   have c11 : w9.cell? ⟨g, j * 13 + 11, none⟩ = some (.slice da ld dc) := by
    rw [HM9.out.at (by omega)]
    iterate 9 rw [List.getElem?_set_ne (by omega)]
    exact HX5.out 11 (by decide)
   go_wp2_with fail
   clear c11 fz
   have E5 := markT_any (.slice da ld dc) c.den (q + 9 + lp + le) base w9 (by rw [HL.out.2.2]; omega) (by omega) (by omega) HM9.out.2.1.2.2
   rw [HL.out.2.2, show (((q + 9 + lp + le : Nat)) : Int) = (q : Int) + 1 + 1 + 1 + 1 + 1 + 1 + 1 + 1 + 1 + (lp : Int) + (le : Int) from by omega] at E5
   refine E5.mono ?_
   rintro e w10 ⟨rfl, ho5, hg5⟩
   have HM10 : Hid (MkM wr w10 base g n cap fq (((((((((X.set (j * 13) (.int .i64 (q : Int))).set (j * 13 + 1) (.string ⟨(mt (q + 1)).toArray⟩)).set (j * 13 + 2) (.string ⟨(mt (q + 2)).toArray⟩)).set (j * 13 + 3) (.int .i64 ((q : Int) + 1 + 1 + 1))).set (j * 13 + 4) (.int .i64 ((q : Int) + 1 + 1 + 1 + 1))).set (j * 13 + 5) (.string ⟨(mt (q + 5)).toArray⟩)).set (j * 13 + 6) (.bool CA)).set (j * 13 + 7) (.int .i64 ((q : Int) + 1 + 1 + 1 + 1 + 1 + 1 + 1))).set (j * 13 + 8) (.int .i64 ((q : Int) + 1 + 1 + 1 + 1 + 1 + 1 + 1 + 1))) (.slice pa lp pc) (.slice ea le ec) (.slice da ld dc) (marksI (q + 9) lp) (marksT (q + 9 + lp) le) (marksT (q + 9 + lp + le) ld)) := HM9.out.markD ho5 hg5
   clear HM9 E5 ho5 hg5
   go_wp2_with fail
   have E1 := markText_str (q + 9 + lp + le + ld) w10 (by omega) (by omega)
   rw [show (((q + 9 + lp + le + ld : Nat)) : Int) = (q : Int) + 1 + 1 + 1 + 1 + 1 + 1 + 1 + 1 + 1 + (lp : Int) + (le : Int) + (ld : Int) from by omega] at E1
   refine E1.mono ?_
   rintro e w11 ⟨rfl, hb1⟩
   have HM11 : Hid (MkM wr w11 base g n cap fq (((((((((X.set (j * 13) (.int .i64 (q : Int))).set (j * 13 + 1) (.string ⟨(mt (q + 1)).toArray⟩)).set (j * 13 + 2) (.string ⟨(mt (q + 2)).toArray⟩)).set (j * 13 + 3) (.int .i64 ((q : Int) + 1 + 1 + 1))).set (j * 13 + 4) (.int .i64 ((q : Int) + 1 + 1 + 1 + 1))).set (j * 13 + 5) (.string ⟨(mt (q + 5)).toArray⟩)).set (j * 13 + 6) (.bool CA)).set (j * 13 + 7) (.int .i64 ((q : Int) + 1 + 1 + 1 + 1 + 1 + 1 + 1))).set (j * 13 + 8) (.int .i64 ((q : Int) + 1 + 1 + 1 + 1 + 1 + 1 + 1 + 1))) (.slice pa lp pc) (.slice ea le ec) (.slice da ld dc) (marksI (q + 9) lp) (marksT (q + 9 + lp) le) (marksT (q + 9 + lp + le) ld)) := HM10.out.below hb1
   clear E1 hb1 HM10
   obtain ⟨y12, c12⟩ := HM11.out.cell (i := j * 13 + 12) (by omega)
   have fz := fun i => HM11.out.free i
   go_wp2_with fail
   go_roundw
   case rel =>
    refine ⟨j + 1, q + (10 + lp + le + ld), by omega, by go_num, by go_num, ⟨by omega, by omega⟩, HQ.out.2.symm, ?_⟩
    exact HE.out _ _ _ _ _ _ _ _ _ _ _ (mkM q c) (by unfold mkM; rw [HL.out.1, HL.out.2.1, HL.out.2.2, HCA.out]) (by unfold mkM; rw [HL.out.1, HL.out.2.1, HL.out.2.2]; exact HM11.out.put _ _) rfl HQ.out.1
   case measure => simp [intOf]; omega
  ·have hjl : n = j := by omega
   subst hjl
   have HE : Hid (q = KK /\ (mkG mkM szM k l).take n ++ l.drop n = mkG mkM szM k l) := by
    have h1 := HA.out.2.1
    refine ⟨?_, markG_all mkM szM (by omega)⟩
    rw [<- HA.out.2.2.2.2, h1]; exact H.out.1
   go_wp2
   go_ret
   refine ⟨by rw [HE.out.1]; rfl, ?_, H.out.2.2⟩
   have h := H.out.2.1
   rw [HE.out.2] at h
   exact h
end Go.Proofs.Ytllmgjfffkhocaa
