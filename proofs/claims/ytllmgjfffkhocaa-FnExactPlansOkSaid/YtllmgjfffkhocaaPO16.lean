/-
  Texts of the proof.
-/
import Derived.Laws.AppendOwnNone
import Derived.Test.YtllmgjfffkhocaaPO14
import Derived.Test.YtllmgjfffkhocaaPO15
set_option maxRecDepth 100000
set_option maxHeartbeats 25600000
namespace Go.Proofs.Ytllmgjfffkhocaa
open Go.RowKit Go.ChangeShapes
set_option linter.unusedVariables false
theorem sizeSet (w : World) (p : Addr) (v : Value) : w.heap.size <= (w.setCell p v).heap.size := ((Below.refl 0 w).setCell (p := p) (Nat.zero_le _) v).size
structure So where
 certs : List Ct
 crls : List Cl
 ancs : List An
def SoAt (w : World) (v : Value) (s : So) : Prop := ∃ p q r, v = .agg #[p, q, r] /\ AtS certKd w p s.certs /\ AtS crlKd w q s.crls /\ AtS anKd w r s.ancs
theorem SoAt.shape {w : World} {v : Value} {s : So} (h : SoAt w v s) : ∃ a1 c1 a2 c2 a3 c3, v = .agg #[.slice a1 s.certs.length c1, .slice a2 s.crls.length c2, .slice a3 s.ancs.length c3] := by
 obtain ⟨p, q, r, hv, h1, h2, h3⟩ := h
 obtain ⟨a1, c1, hp⟩ := h1.shape
 obtain ⟨a2, c2, hq⟩ := h2.shape
 obtain ⟨a3, c3, hr⟩ := h3.shape
 exact ⟨a1, c1, a2, c2, a3, c3, by rw [hv, hp, hq, hr]⟩
theorem SoAt.rows {w : World} {p q r : Value} {s : So} (h : SoAt w (.agg #[p, q, r]) s) : AtS certKd w p s.certs /\ AtS crlKd w q s.crls /\ AtS anKd w r s.ancs := by
 obtain ⟨p', q', r', hv, h1⟩ := h
 injection hv with hv
 injection hv with hv
 injection hv with e1 hv
 injection hv with e2 hv
 injection hv with e3 hv
 rw [e1, e2, e3]
 exact h1
def OwnO (w : World) (base : Nat) (v : Value) (s : So) (fp : List Nat) : Prop := ∃ p q r f1 f2 f3, v = .agg #[p, q, r] /\ OwnS certKd w base p s.certs f1 /\ OwnS crlKd w base q s.crls f2 /\ OwnS anKd w base r s.ancs f3 /\ fp = f1 ++ (f2 ++ f3) /\ fp.Nodup
theorem OwnO.at {w : World} {base : Nat} {v : Value} {s : So} {fp : List Nat} (h : OwnO w base v s fp) : SoAt w v s := by
 obtain ⟨p, q, r, f1, f2, f3, hv, h1, h2, h3, _, _⟩ := h
 exact ⟨p, q, r, hv, h1.at, h2.at, h3.at⟩
theorem OwnO.same {w w' : World} {base : Nat} {v : Value} {s : So} {fp : List Nat} (h : OwnO w base v s fp) (hs : ∀ b ∈ fp, w'.heap[b]? = w.heap[b]?) : OwnO w' base v s fp := by
 obtain ⟨p, q, r, f1, f2, f3, hv, h1, h2, h3, rfl, hn⟩ := h
 exact ⟨p, q, r, f1, f2, f3, hv, h1.same fun b hb => hs b (List.mem_append_left _ hb), h2.same fun b hb => hs b (List.mem_append_right _ (List.mem_append_left _ hb)), h3.same fun b hb => hs b (List.mem_append_right _ (List.mem_append_right _ hb)), rfl, hn⟩
theorem OwnO.lt {w : World} {base : Nat} {v : Value} {s : So} {fp : List Nat} (h : OwnO w base v s fp) : ∀ b ∈ fp, base <= b /\ b < w.heap.size := by
 obtain ⟨p, q, r, f1, f2, f3, hv, h1, h2, h3, rfl, hn⟩ := h
 intro b hb
 rcases List.mem_append.1 hb with hb | hb
 ·exact h1.lt b hb
 ·rcases List.mem_append.1 hb with hb | hb
  ·exact h2.lt b hb
  ·exact h3.lt b hb
theorem OwnO.stays {w w' : World} {base : Nat} {v : Value} {s : So} {fp : List Nat} (h : OwnO w base v s fp) (hb : Below w.heap.size w w') : OwnO w' base v s fp := h.same fun b hm => hb.block b (h.lt b hm).2
def ArgO (B : Nat) (w : World) (v : Value) (s : So) : Prop := ∃ a1 c1 a2 c2 a3 c3, v = .agg #[.slice a1 s.certs.length c1, .slice a2 s.crls.length c2, .slice a3 s.ancs.length c3] /\ ArgM B w (.slice a1 s.certs.length c1) s.certs /\ ArgS B w (.slice a2 s.crls.length c2) s.crls /\ ArgN B w (.slice a3 s.ancs.length c3) s.ancs
theorem ArgO.below {B : Nat} {w w' : World} {v : Value} {s : So} (h : ArgO B w v s) (hb : Below B w w') {B' : Nat} (hB : B <= B') : ArgO B' w' v s := by
 obtain ⟨a1, c1, a2, c2, a3, c3, hv, h1, h2, h3⟩ := h
 exact ⟨a1, c1, a2, c2, a3, c3, hv, h1.below hb hB, h2.below hb hB, h3.below hb hB⟩
def wtO (s : So) : Nat := wtM s.certs + wtS s.crls + wtN s.ancs
def WdO (s : So) : Prop := ((∀ c ∈ s.certs, WdC c) /\ s.certs.length <= 9223372036854775807) /\ ((∀ c ∈ s.crls, WdL c) /\ s.crls.length <= 9223372036854775807) /\ (∀ c ∈ s.ancs, WdA c) /\ s.ancs.length <= 9223372036854775807
def szO (s : So) (left : Int) : Int := if (wtO s : Int) <= left then left - (wtO s : Int) else -1
theorem cellsStore : Try.prog.cellsOf 27 = 3 := by kernel_rfl
theorem cellsRow1 : Try.prog.cellsOf 23 = 1 := by kernel_rfl
theorem cellsRow2 : Try.prog.cellsOf 24 = 1 := by kernel_rfl
theorem cellsRow3 : Try.prog.cellsOf 25 = 1 := by kernel_rfl
theorem store_of_trod {H : Type} {enc : TypeId × Value -> H} {W : World} {fuel : Nat} {cs : List Value} {x : DataW H × List MemPlace} (h : DataW.trod enc Try.prog W 0 (fun _ => true) true fuel 27 cs = some x) :
  ∃ s : So, ArgO W.heap.size W (.agg cs.toArray) s /\ WdO s := by
 obtain ⟨xs, m, rfl, hx, hl, hxl, hall⟩ := DataW.trod_struct Try.underlying27 h
 rw [cellsStore] at hl
 obtain ⟨x0, x1, x2, rfl⟩ : ∃ x0 x1 x2, xs = [x0, x1, x2] := by
  match xs, hxl with
  | [x0, x1, x2], _ => exact ⟨x0, x1, x2, rfl⟩
 have f0 := hall 0 _ rfl
 change DataW.trod _ _ _ _ _ _ _ 23 ((cs.drop 0).take (Try.prog.cellsOf 23)) = some x0 at f0
 rw [cellsRow1] at f0
 obtain ⟨a0, c0, l0, h0, m0, w0, r0⟩ := certs_in f0
 have g0 := take_one h0
 have f1 := hall 1 _ rfl
 change DataW.trod _ _ _ _ _ _ _ 24 ((cs.drop 1).take (Try.prog.cellsOf 24)) = some x1 at f1
 rw [cellsRow2] at f1
 obtain ⟨a1, c1, l1, h1, m1, w1, r1⟩ := crls_in f1
 have g1 := take_one h1
 have f2 := hall 2 _ rfl
 change DataW.trod _ _ _ _ _ _ _ 25 ((cs.drop 2).take (Try.prog.cellsOf 25)) = some x2 at f2
 rw [cellsRow3] at f2
 obtain ⟨a2, c2, l2, h2, m2, w2, r2⟩ := anchors_in f2
 have g2 := take_one h2
 have hcs : cs = [.slice a0 l0.length c0, .slice a1 l1.length c1, .slice a2 l2.length c2] := by
  match cs, hl with
  | [y0, y1, y2], _ =>
   simp at g0 g1 g2
   rw [g0, g1, g2]
 unfold maxLen at m0 m1 m2
 exact ⟨⟨l0, l1, l2⟩, ⟨a0, c0, a1, c1, a2, c2, by rw [hcs], r0, r1, r2⟩, ⟨w0, m0⟩, ⟨w1, m1⟩, w2, m2⟩
end Go.Proofs.Ytllmgjfffkhocaa
namespace Go.Proofs.Ytllmgjfffkhocaa
open Go.RowKit
set_option linter.unusedVariables false
theorem toStore_any (s : So) (v : Value) (B : Nat) (w : World) (hl : wtO s <= 1048576) (hB : B <= w.heap.size) (ha : ArgO B w v s) :
  Calls Try.prog 11 #[v] w fun e w' => ∃ u fp, e = .returned u /\ OwnO w' w.heap.size u s fp /\ Below w.heap.size w w' := by
 obtain ⟨a1, c1, a2, c2, a3, c3, rfl, h1, h2, h3⟩ := ha
 obtain ⟨n1, e1⟩ := zE (s.certs.length)
 obtain ⟨n2, e2⟩ := zE (s.crls.length)
 obtain ⟨n3, e3⟩ := zE (s.ancs.length)
 unfold wtO at hl
 rw [e1] at h1 |-
 rw [e2] at h2 |-
 rw [e3] at h3 |-
 have T1 : Hid (∀ W, Below w.heap.size w W -> Calls Try.prog 39 #[.slice a1 n1 c1] W fun e w' => ∃ q m fp, e = .returned (.slice q n1 m) /\ OwnS certKd w' W.heap.size (.slice q n1 m) s.certs fp /\ Below W.heap.size W w') := fun W hb => (toCertS_any _ s.certs B W (by omega) (Nat.le_trans hB hb.size) (h1.below (hb.mono hB) (Nat.le_refl _))).mono fun e w' h => by
  obtain ⟨u, fp, rfl, ho, hb⟩ := h
  obtain ⟨q, m, hs⟩ := ho.at.shape
  rw [e1] at hs
  subst hs
  exact ⟨q, m, fp, rfl, ho, hb⟩
 have T2 : Hid (∀ W, Below w.heap.size w W -> Calls Try.prog 40 #[.slice a2 n2 c2] W fun e w' => ∃ q m fp, e = .returned (.slice q n2 m) /\ OwnS crlKd w' W.heap.size (.slice q n2 m) s.crls fp /\ Below W.heap.size W w') := fun W hb => (toCrlS_any _ s.crls B W (by omega) (Nat.le_trans hB hb.size) (h2.below (hb.mono hB) (Nat.le_refl _))).mono fun e w' h => by
  obtain ⟨u, fp, rfl, ho, hb⟩ := h
  obtain ⟨q, m, hs⟩ := ho.at.shape
  rw [e2] at hs
  subst hs
  exact ⟨q, m, fp, rfl, ho, hb⟩
 have T3 : Hid (∀ W, Below w.heap.size w W -> Calls Try.prog 41 #[.slice a3 n3 c3] W fun e w' => ∃ q m fp, e = .returned (.slice q n3 m) /\ OwnS anKd w' W.heap.size (.slice q n3 m) s.ancs fp /\ Below W.heap.size W w') := fun W hb => (toAnchorS_any _ s.ancs B W (by omega) (Nat.le_trans hB hb.size) (h3.below (hb.mono hB) (Nat.le_refl _))).mono fun e w' h => by
  obtain ⟨u, fp, rfl, ho, hb⟩ := h
  obtain ⟨q, m, hs⟩ := ho.at.shape
  rw [e3] at hs
  subst hs
  exact ⟨q, m, fp, rfl, ho, hb⟩
 clear h1 h2 h3 hl e1 e2 e3
 go_enter Try.func11, Try.ntmps11
 go_wp2_with fail
 obtain ⟨W3, hW3⟩ : ∃ W, W = (((w.alloc (Obj.cells #[.slice a1 n1 c1, .slice a2 n2 c2, .slice a3 n3 c3] 27)).alloc (Obj.cells #[.slice none 0 0, .slice none 0 0, .slice none 0 0] 37)).alloc (Obj.cells #[.slice none 0 0, .slice none 0 0, .slice none 0 0] 37)) := ⟨_, rfl⟩
 change Calls _ _ _ (((w.alloc (Obj.cells #[.slice a1 n1 c1, .slice a2 n2 c2, .slice a3 n3 c3] 27)).alloc (Obj.cells #[.slice none 0 0, .slice none 0 0, .slice none 0 0] 37)).alloc (Obj.cells #[.slice none 0 0, .slice none 0 0, .slice none 0 0] 37)) _
 rw [<- hW3]
 have e0 : (w.alloc (Obj.cells #[.slice a1 n1 c1, .slice a2 n2 c2, .slice a3 n3 c3] 27)).heap.size = w.heap.size + 1 := Array.size_push _
 have e1 : ((w.alloc (Obj.cells #[.slice a1 n1 c1, .slice a2 n2 c2, .slice a3 n3 c3] 27)).alloc (Obj.cells #[.slice none 0 0, .slice none 0 0, .slice none 0 0] 37)).heap.size = w.heap.size + 1 + 1 := by rw [size_alloc, e0]
 have G0 : Hid (Blk W3 w.heap.size 27 #[.slice a1 n1 c1, .slice a2 n2 c2, .slice a3 n3 c3] /\ Blk W3 (w.heap.size + 1) 37 #[.slice none 0 0, .slice none 0 0, .slice none 0 0] /\ Blk W3 (w.heap.size + 1 + 1) 37 #[.slice none 0 0, .slice none 0 0, .slice none 0 0] /\ Below w.heap.size w W3 /\ w.heap.size + 1 + 1 + 1 <= W3.heap.size) := by
  rw [hW3]
  refine ⟨((Blk.new w _ _).alloc _).alloc _, ?_, ?_, (((Below.refl _ _).alloc (Nat.le_refl _) _).alloc (by rw [e0]; omega) _).alloc (by rw [e1]; omega) _, by rw [size_alloc, e1]; omega⟩
  ·have h := (Blk.new (w.alloc (Obj.cells #[.slice a1 n1 c1, .slice a2 n2 c2, .slice a3 n3 c3] 27)) 37 #[.slice none 0 0, .slice none 0 0, .slice none 0 0]).alloc (Obj.cells #[.slice none 0 0, .slice none 0 0, .slice none 0 0] 37)
   rw [e0] at h
   exact h
  ·have h := Blk.new ((w.alloc (Obj.cells #[.slice a1 n1 c1, .slice a2 n2 c2, .slice a3 n3 c3] 27)).alloc (Obj.cells #[.slice none 0 0, .slice none 0 0, .slice none 0 0] 37)) 37 #[.slice none 0 0, .slice none 0 0, .slice none 0 0]
   rw [e1] at h
   exact h
 clear hW3 e0 e1
 have wd1 : w.heap.size ≠ w.heap.size + 1 + 1 := by omega
 have wd2 : w.heap.size + 1 ≠ w.heap.size + 1 + 1 := by omega
 refine (T1.out W3 G0.out.2.2.2.1).mono ?_
 rintro r u1 ⟨q1, m1, f1, rfl, o1, hb⟩
 have G1 : Hid (Blk u1 w.heap.size 27 #[.slice a1 n1 c1, .slice a2 n2 c2, .slice a3 n3 c3] /\ Blk u1 (w.heap.size + 1) 37 #[.slice none 0 0, .slice none 0 0, .slice none 0 0] /\ Blk u1 (w.heap.size + 1 + 1) 37 #[.slice none 0 0, .slice none 0 0, .slice none 0 0] /\ Below w.heap.size w u1 /\ w.heap.size + 1 + 1 + 1 <= u1.heap.size) := by
  have hz := G0.out.2.2.2.2
  exact ⟨G0.out.1.below hb (by omega), G0.out.2.1.below hb (by omega), G0.out.2.2.1.below hb (by omega), G0.out.2.2.2.1.trans (hb.mono G0.out.2.2.2.1.size), Nat.le_trans hz hb.size⟩
 have O1 : Hid (OwnS certKd u1 (w.heap.size + 1 + 1 + 1) (.slice q1 n1 m1) s.certs f1) := o1.base G0.out.2.2.2.2
 clear o1 hb G0 T1
 have fr := fun j => G1.out.2.2.1.free j
 have x1 : u1.cell? ⟨w.heap.size, 1, none⟩ = some (.slice a2 n2 c2) := G1.out.1.cell 1
 have x2 : u1.cell? ⟨w.heap.size + 1 + 1, 0, none⟩ = some (.slice none 0 0) := G1.out.2.2.1.cell 0
 go_wp2_with fail
 clear x1 x2 fr
 obtain ⟨V1, hV1⟩ : ∃ W, W = u1.setCell ⟨w.heap.size + 1 + 1, 0, none⟩ (.slice q1 n1 m1) := ⟨_, rfl⟩
 rw [<- hV1]
 have K1 : Hid (Blk V1 w.heap.size 27 #[.slice a1 n1 c1, .slice a2 n2 c2, .slice a3 n3 c3] /\ Blk V1 (w.heap.size + 1) 37 #[.slice none 0 0, .slice none 0 0, .slice none 0 0] /\ Blk V1 (w.heap.size + 1 + 1) 37 #[.slice q1 n1 m1, .slice none 0 0, .slice none 0 0] /\ Below w.heap.size w V1 /\ w.heap.size + 1 + 1 + 1 <= V1.heap.size) := by
  rw [hV1]
  have hz := G1.out.2.2.2.2
  exact ⟨G1.out.1.other _ wd1, G1.out.2.1.other _ wd2, G1.out.2.2.1.set 0 _, Below.setCell G1.out.2.2.2.1 (by show w.heap.size <= w.heap.size + 1 + 1; omega) _, Nat.le_trans hz (sizeSet _ _ _)⟩
 have P1 : Hid (OwnS certKd V1 (w.heap.size + 1 + 1 + 1) (.slice q1 n1 m1) s.certs f1) := by rw [hV1]; exact O1.out.same fun b hb => by have h := O1.out.lt b hb; rw [heap_setCell_other _ _ _ _ (by show b ≠ w.heap.size + 1 + 1; omega)]
 clear hV1 G1 O1
 refine (T2.out V1 K1.out.2.2.2.1).mono ?_
 rintro r u2 ⟨q2, m2, f2, rfl, o2, hb⟩
 have G2 : Hid (Blk u2 w.heap.size 27 #[.slice a1 n1 c1, .slice a2 n2 c2, .slice a3 n3 c3] /\ Blk u2 (w.heap.size + 1) 37 #[.slice none 0 0, .slice none 0 0, .slice none 0 0] /\ Blk u2 (w.heap.size + 1 + 1) 37 #[.slice q1 n1 m1, .slice none 0 0, .slice none 0 0] /\ Below w.heap.size w u2 /\ w.heap.size + 1 + 1 + 1 <= u2.heap.size) := by
  have hz := K1.out.2.2.2.2
  exact ⟨K1.out.1.below hb (by omega), K1.out.2.1.below hb (by omega), K1.out.2.2.1.below hb (by omega), K1.out.2.2.2.1.trans (hb.mono K1.out.2.2.2.1.size), Nat.le_trans hz hb.size⟩
 have O2 : Hid (OwnS crlKd u2 (w.heap.size + 1 + 1 + 1) (.slice q2 n2 m2) s.crls f2) := o2.base K1.out.2.2.2.2
 have O1 : Hid (OwnS certKd u2 (w.heap.size + 1 + 1 + 1) (.slice q1 n1 m1) s.certs f1) := P1.out.stays hb
 have D12 : Hid (∀ b ∈ f1, b ∉ f2) := fun b h1 h2 => by have g1 := P1.out.lt b h1; have g2 := o2.lt b h2; omega
 clear o2 hb K1 T2 P1
 have fr := fun j => G2.out.2.2.1.free j
 have x1 : u2.cell? ⟨w.heap.size, 2, none⟩ = some (.slice a3 n3 c3) := G2.out.1.cell 2
 have x2 : u2.cell? ⟨w.heap.size + 1 + 1, 1, none⟩ = some (.slice none 0 0) := G2.out.2.2.1.cell 1
 go_wp2_with fail
 clear x1 x2 fr
 obtain ⟨V2, hV2⟩ : ∃ W, W = u2.setCell ⟨w.heap.size + 1 + 1, 1, none⟩ (.slice q2 n2 m2) := ⟨_, rfl⟩
 rw [<- hV2]
 have K2 : Hid (Blk V2 w.heap.size 27 #[.slice a1 n1 c1, .slice a2 n2 c2, .slice a3 n3 c3] /\ Blk V2 (w.heap.size + 1) 37 #[.slice none 0 0, .slice none 0 0, .slice none 0 0] /\ Blk V2 (w.heap.size + 1 + 1) 37 #[.slice q1 n1 m1, .slice q2 n2 m2, .slice none 0 0] /\ Below w.heap.size w V2 /\ w.heap.size + 1 + 1 + 1 <= V2.heap.size) := by
  rw [hV2]
  have hz := G2.out.2.2.2.2
  exact ⟨G2.out.1.other _ wd1, G2.out.2.1.other _ wd2, G2.out.2.2.1.set 1 _, Below.setCell G2.out.2.2.2.1 (by show w.heap.size <= w.heap.size + 1 + 1; omega) _, Nat.le_trans hz (sizeSet _ _ _)⟩
 have P1 : Hid (OwnS certKd V2 (w.heap.size + 1 + 1 + 1) (.slice q1 n1 m1) s.certs f1) := by rw [hV2]; exact O1.out.same fun b hb => by have h := O1.out.lt b hb; rw [heap_setCell_other _ _ _ _ (by show b ≠ w.heap.size + 1 + 1; omega)]
 have P2 : Hid (OwnS crlKd V2 (w.heap.size + 1 + 1 + 1) (.slice q2 n2 m2) s.crls f2) := by rw [hV2]; exact O2.out.same fun b hb => by have h := O2.out.lt b hb; rw [heap_setCell_other _ _ _ _ (by show b ≠ w.heap.size + 1 + 1; omega)]
 clear hV2 G2 O1 O2
 refine (T3.out V2 K2.out.2.2.2.1).mono ?_
 rintro r u3 ⟨q3, m3, f3, rfl, o3, hb⟩
 have G3 : Hid (Blk u3 w.heap.size 27 #[.slice a1 n1 c1, .slice a2 n2 c2, .slice a3 n3 c3] /\ Blk u3 (w.heap.size + 1) 37 #[.slice none 0 0, .slice none 0 0, .slice none 0 0] /\ Blk u3 (w.heap.size + 1 + 1) 37 #[.slice q1 n1 m1, .slice q2 n2 m2, .slice none 0 0] /\ Below w.heap.size w u3 /\ w.heap.size + 1 + 1 + 1 <= u3.heap.size) := by
  have hz := K2.out.2.2.2.2
  exact ⟨K2.out.1.below hb (by omega), K2.out.2.1.below hb (by omega), K2.out.2.2.1.below hb (by omega), K2.out.2.2.2.1.trans (hb.mono K2.out.2.2.2.1.size), Nat.le_trans hz hb.size⟩
 have O3 : Hid (OwnS anKd u3 (w.heap.size + 1 + 1 + 1) (.slice q3 n3 m3) s.ancs f3) := o3.base K2.out.2.2.2.2
 have O1 : Hid (OwnS certKd u3 (w.heap.size + 1 + 1 + 1) (.slice q1 n1 m1) s.certs f1) := P1.out.stays hb
 have D13 : Hid (∀ b ∈ f1, b ∉ f3) := fun b h1 h2 => by have g1 := P1.out.lt b h1; have g2 := o3.lt b h2; omega
 have O2 : Hid (OwnS crlKd u3 (w.heap.size + 1 + 1 + 1) (.slice q2 n2 m2) s.crls f2) := P2.out.stays hb
 have D23 : Hid (∀ b ∈ f2, b ∉ f3) := fun b h1 h2 => by have g1 := P2.out.lt b h1; have g2 := o3.lt b h2; omega
 clear o3 hb K2 T3 P1 P2
 have fr := fun j => G3.out.2.2.1.free j
 have f0 := fun j => G3.out.2.1.free j
 have c10 : u3.cell? ⟨w.heap.size + 1, 0, none⟩ = some (.slice none 0 0) := G3.out.2.1.cell 0
 have c20 : u3.cell? ⟨w.heap.size + 1 + 1, 0, none⟩ = some (.slice q1 n1 m1) := G3.out.2.2.1.cell 0
 have c11 : u3.cell? ⟨w.heap.size + 1, 1, none⟩ = some (.slice none 0 0) := G3.out.2.1.cell 1
 have c21 : u3.cell? ⟨w.heap.size + 1 + 1, 1, none⟩ = some (.slice q2 n2 m2) := G3.out.2.2.1.cell 1
 have c12 : u3.cell? ⟨w.heap.size + 1, 2, none⟩ = some (.slice none 0 0) := G3.out.2.1.cell 2
 have c22 : u3.cell? ⟨w.heap.size + 1 + 1, 2, none⟩ = some (.slice none 0 0) := G3.out.2.2.1.cell 2
 go_wp2_with fail
 refine bodyPost_ret (v := .agg #[.slice q1 n1 m1, .slice q2 n2 m2, .slice q3 n3 m3]) (by simp [results, Try.results11, go_sem, c10, c11, c12]) rfl ⟨_, f1 ++ (f2 ++ f3), rfl, OwnO.same (w := u3) ⟨_, _, _, f1, f2, f3, rfl, O1.out.base (by omega), O2.out.base (by omega), O3.out.base (by omega), rfl, ?nd⟩ ?far, ?bel⟩
 case nd =>
  exact nodup_app O1.out.nodup (nodup_app O2.out.nodup O3.out.nodup fun y h1 h2 => D23.out y h1 h2) fun y h1 h2 => by
   rcases List.mem_append.1 h2 with h2 | h2
   ·exact D12.out y h1 h2
   ·exact D13.out y h1 h2
 case far =>
  intro b hb
  have hlt : w.heap.size + 1 + 1 + 1 <= b := by
   rcases List.mem_append.1 hb with hb | hb
   ·exact (O1.out.lt b hb).1
   ·rcases List.mem_append.1 hb with hb | hb
    ·exact (O2.out.lt b hb).1
    ·exact (O3.out.lt b hb).1
  iterate 4 rw [heap_setCell_other _ _ _ _ (by first | (show b ≠ w.heap.size + 1; omega) | (show b ≠ w.heap.size + 1 + 1; omega))]
 case bel =>
  iterate 4 refine Below.setCell ?_ (by first | (show w.heap.size <= w.heap.size + 1; omega) | (show w.heap.size <= w.heap.size + 1 + 1; omega)) _
  exact G3.out.2.2.2.1
theorem szStore_any (s : So) (v : Value) (left : Int) (w : World) (hwd : WdO s) (h0 : 0 <= left) (hl : left <= 1048576) (ha : ArgO w.heap.size w v s) :
  Calls Try.prog 8 #[v, .int .i64 left] w fun e w' => e = .returned (.int .i64 (szO s left)) /\ Below w.heap.size w w' := by
 obtain ⟨a1, c1, a2, c2, a3, c3, rfl, h1, h2, h3⟩ := ha
 obtain ⟨⟨wd1, l1⟩, ⟨wd2, l2⟩, wd3, l3⟩ := hwd
 obtain ⟨n1, e1⟩ := zE (s.certs.length)
 obtain ⟨n2, e2⟩ := zE (s.crls.length)
 obtain ⟨n3, e3⟩ := zE (s.ancs.length)
 rw [e1] at h1 |-
 rw [e2] at h2 |-
 rw [e3] at h3 |-
 obtain ⟨r1, hr1⟩ : ∃ r : Int, r = if (wtM s.certs : Int) <= left then left - (wtM s.certs : Int) else -1 := ⟨_, rfl⟩
 have Z1 : Hid (∀ W, Below w.heap.size w W -> Calls Try.prog 34 #[.slice a1 n1 c1, .int .i64 left] W fun e w' => e = .returned (.int .i64 r1) /\ Below W.heap.size W w') := fun W hb => by rw [hr1]; exact szCertS_any _ s.certs left W l1 wd1 h0 hl (h1.below hb hb.size)
 obtain ⟨r2, hr2⟩ : ∃ r : Int, r = if (wtS s.crls : Int) <= r1 then r1 - (wtS s.crls : Int) else -1 := ⟨_, rfl⟩
 have Z2 : Hid (0 <= r1 -> ∀ W, Below w.heap.size w W -> Calls Try.prog 35 #[.slice a2 n2 c2, .int .i64 r1] W fun e w' => e = .returned (.int .i64 r2) /\ Below W.heap.size W w') := fun hr W hb => by rw [hr2]; exact szCrlS_any _ s.crls r1 W l2 wd2 hr (by split at hr1 <;> omega) (h2.below hb hb.size)
 obtain ⟨r3, hr3⟩ : ∃ r : Int, r = if (wtN s.ancs : Int) <= r2 then r2 - (wtN s.ancs : Int) else -1 := ⟨_, rfl⟩
 have Z3 : Hid (0 <= r1 -> 0 <= r2 -> ∀ W, Below w.heap.size w W -> Calls Try.prog 36 #[.slice a3 n3 c3, .int .i64 r2] W fun e w' => e = .returned (.int .i64 r3) /\ Below W.heap.size W w') := fun hr hr' W hb => by rw [hr3]; exact szAnchorS_any _ s.ancs r2 W l3 wd3 hr' (by split at hr1 <;> split at hr2 <;> omega) (h3.below hb hb.size)
 have HF0 : Hid ((r1 < 0 -> szO s left = -1 /\ r1 = -1) /\ (0 <= r1 -> r2 < 0 -> szO s left = -1 /\ r2 = -1) /\ (0 <= r1 -> 0 <= r2 -> szO s left = r3 /\ (r3 < 0 -> r3 = -1))) := by
  unfold szO wtO
  refine ⟨fun g => ?_, fun g g' => ?_, fun g g' => ?_⟩
  ·split at hr1
   ·omega
   ·refine ⟨if_neg (by omega), hr1⟩
  ·split at hr1
   ·split at hr2
    ·omega
    ·exact ⟨if_neg (by omega), hr2⟩
   ·omega
  ·split at hr1
   ·split at hr2
    ·split at hr3
     ·exact ⟨by rw [if_pos (by omega)]; omega, by omega⟩
     ·exact ⟨by rw [if_neg (by omega)]; omega, by omega⟩
    ·omega
   ·omega
 clear h1 h2 h3 wd1 wd2 wd3 l1 l2 l3 hr1 hr2 hr3 e1 e2 e3
 obtain ⟨R, hR⟩ := zE (szO s left)
 rw [hR] at HF0 |-
 clear hR
 by_cases g1 : r1 < 0
 ·have HF : Hid (R = -1) := (HF0.out.1 g1).1
  have e1 := (HF0.out.1 g1).2
  clear HF0 Z2 Z3 g1
  subst e1
  go_enter Try.func8, Try.ntmps8
  go_wp2_with fail
  obtain ⟨V, hV⟩ : ∃ V, V = (w.alloc (Obj.cells #[.slice a1 n1 c1, .slice a2 n2 c2, .slice a3 n3 c3] 27)) := ⟨_, rfl⟩
  rw [<- hV]
  have G0 : Hid (Below w.heap.size w V /\ Blk V w.heap.size 27 #[.slice a1 n1 c1, .slice a2 n2 c2, .slice a3 n3 c3]) := by rw [hV]; exact ⟨(Below.refl _ _).alloc (Nat.le_refl _) _, Blk.new w _ _⟩
  clear hV
  refine (Z1.out V G0.out.1).mono ?_
  rintro e V1 ⟨rfl, hb⟩
  have G1 : Hid (Below w.heap.size w V1 /\ Blk V1 w.heap.size 27 #[.slice a1 n1 c1, .slice a2 n2 c2, .slice a3 n3 c3]) := ⟨G0.out.1.trans (hb.mono G0.out.1.size), G0.out.2.below hb G0.out.2.lt⟩
  clear hb G0
  have d0 : V1.cell? ⟨w.heap.size, 1, none⟩ = some (.slice a2 n2 c2) := G1.out.2.cell 1
  go_wp2_with fail
  go_ret
  exact ⟨HF.out ▸ rfl, G1.out.1⟩
 ·have p1 : 0 <= r1 := by omega
  have Z2b : Hid _ := Z2.out p1
  clear Z2
  by_cases g2 : r2 < 0
  ·have HF : Hid (R = -1) := (HF0.out.2.1 p1 g2).1
   have e1 := (HF0.out.2.1 p1 g2).2
   clear HF0 Z3 g2
   subst e1
   go_enter Try.func8, Try.ntmps8
   go_wp2_with fail
   obtain ⟨V, hV⟩ : ∃ V, V = (w.alloc (Obj.cells #[.slice a1 n1 c1, .slice a2 n2 c2, .slice a3 n3 c3] 27)) := ⟨_, rfl⟩
   rw [<- hV]
   have G0 : Hid (Below w.heap.size w V /\ Blk V w.heap.size 27 #[.slice a1 n1 c1, .slice a2 n2 c2, .slice a3 n3 c3]) := by rw [hV]; exact ⟨(Below.refl _ _).alloc (Nat.le_refl _) _, Blk.new w _ _⟩
   clear hV
   refine (Z1.out V G0.out.1).mono ?_
   rintro e V1 ⟨rfl, hb⟩
   have G1 : Hid (Below w.heap.size w V1 /\ Blk V1 w.heap.size 27 #[.slice a1 n1 c1, .slice a2 n2 c2, .slice a3 n3 c3]) := ⟨G0.out.1.trans (hb.mono G0.out.1.size), G0.out.2.below hb G0.out.2.lt⟩
   clear hb G0
   have d0 : V1.cell? ⟨w.heap.size, 1, none⟩ = some (.slice a2 n2 c2) := G1.out.2.cell 1
   go_wp2_with fail
   clear d0
   refine (Z2b.out V1 G1.out.1).mono ?_
   rintro e V2 ⟨rfl, hb⟩
   have G2 : Hid (Below w.heap.size w V2 /\ Blk V2 w.heap.size 27 #[.slice a1 n1 c1, .slice a2 n2 c2, .slice a3 n3 c3]) := ⟨G1.out.1.trans (hb.mono G1.out.1.size), G1.out.2.below hb G1.out.2.lt⟩
   clear hb G1
   have d0 : V2.cell? ⟨w.heap.size, 2, none⟩ = some (.slice a3 n3 c3) := G2.out.2.cell 2
   go_wp2_with fail
   go_ret
   exact ⟨HF.out ▸ rfl, G2.out.1⟩
  ·have p2 : 0 <= r2 := by omega
   have Z3b : Hid _ := Z3.out p1 p2
   have HF : Hid (R = r3) := (HF0.out.2.2 p1 p2).1
   have HF2 := (HF0.out.2.2 p1 p2).2
   clear HF0 Z3
   by_cases g3 : r3 < 0
   ·have e3 := HF2 g3
    clear HF2 g3
    subst e3
    go_enter Try.func8, Try.ntmps8
    go_wp2_with fail
    obtain ⟨V, hV⟩ : ∃ V, V = (w.alloc (Obj.cells #[.slice a1 n1 c1, .slice a2 n2 c2, .slice a3 n3 c3] 27)) := ⟨_, rfl⟩
    rw [<- hV]
    have G0 : Hid (Below w.heap.size w V /\ Blk V w.heap.size 27 #[.slice a1 n1 c1, .slice a2 n2 c2, .slice a3 n3 c3]) := by rw [hV]; exact ⟨(Below.refl _ _).alloc (Nat.le_refl _) _, Blk.new w _ _⟩
    clear hV
    refine (Z1.out V G0.out.1).mono ?_
    rintro e V1 ⟨rfl, hb⟩
    have G1 : Hid (Below w.heap.size w V1 /\ Blk V1 w.heap.size 27 #[.slice a1 n1 c1, .slice a2 n2 c2, .slice a3 n3 c3]) := ⟨G0.out.1.trans (hb.mono G0.out.1.size), G0.out.2.below hb G0.out.2.lt⟩
    clear hb G0
    have d0 : V1.cell? ⟨w.heap.size, 1, none⟩ = some (.slice a2 n2 c2) := G1.out.2.cell 1
    go_wp2_with fail
    clear d0
    refine (Z2b.out V1 G1.out.1).mono ?_
    rintro e V2 ⟨rfl, hb⟩
    have G2 : Hid (Below w.heap.size w V2 /\ Blk V2 w.heap.size 27 #[.slice a1 n1 c1, .slice a2 n2 c2, .slice a3 n3 c3]) := ⟨G1.out.1.trans (hb.mono G1.out.1.size), G1.out.2.below hb G1.out.2.lt⟩
    clear hb G1
    have d0 : V2.cell? ⟨w.heap.size, 2, none⟩ = some (.slice a3 n3 c3) := G2.out.2.cell 2
    go_wp2_with fail
    clear d0
    refine (Z3b.out V2 G2.out.1).mono ?_
    rintro e V3 ⟨rfl, hb⟩
    have G3 : Hid (Below w.heap.size w V3 /\ Blk V3 w.heap.size 27 #[.slice a1 n1 c1, .slice a2 n2 c2, .slice a3 n3 c3]) := ⟨G2.out.1.trans (hb.mono G2.out.1.size), G2.out.2.below hb G2.out.2.lt⟩
    clear hb G2
    go_wp2_with fail
    go_ret
    exact ⟨HF.out ▸ rfl, G3.out.1⟩
   ·clear HF2
    go_enter Try.func8, Try.ntmps8
    go_wp2_with fail
    obtain ⟨V, hV⟩ : ∃ V, V = (w.alloc (Obj.cells #[.slice a1 n1 c1, .slice a2 n2 c2, .slice a3 n3 c3] 27)) := ⟨_, rfl⟩
    rw [<- hV]
    have G0 : Hid (Below w.heap.size w V /\ Blk V w.heap.size 27 #[.slice a1 n1 c1, .slice a2 n2 c2, .slice a3 n3 c3]) := by rw [hV]; exact ⟨(Below.refl _ _).alloc (Nat.le_refl _) _, Blk.new w _ _⟩
    clear hV
    refine (Z1.out V G0.out.1).mono ?_
    rintro e V1 ⟨rfl, hb⟩
    have G1 : Hid (Below w.heap.size w V1 /\ Blk V1 w.heap.size 27 #[.slice a1 n1 c1, .slice a2 n2 c2, .slice a3 n3 c3]) := ⟨G0.out.1.trans (hb.mono G0.out.1.size), G0.out.2.below hb G0.out.2.lt⟩
    clear hb G0
    have d0 : V1.cell? ⟨w.heap.size, 1, none⟩ = some (.slice a2 n2 c2) := G1.out.2.cell 1
    go_wp2_with fail
    clear d0
    refine (Z2b.out V1 G1.out.1).mono ?_
    rintro e V2 ⟨rfl, hb⟩
    have G2 : Hid (Below w.heap.size w V2 /\ Blk V2 w.heap.size 27 #[.slice a1 n1 c1, .slice a2 n2 c2, .slice a3 n3 c3]) := ⟨G1.out.1.trans (hb.mono G1.out.1.size), G1.out.2.below hb G1.out.2.lt⟩
    clear hb G1
    have d0 : V2.cell? ⟨w.heap.size, 2, none⟩ = some (.slice a3 n3 c3) := G2.out.2.cell 2
    go_wp2_with fail
    clear d0
    refine (Z3b.out V2 G2.out.1).mono ?_
    rintro e V3 ⟨rfl, hb⟩
    have G3 : Hid (Below w.heap.size w V3 /\ Blk V3 w.heap.size 27 #[.slice a1 n1 c1, .slice a2 n2 c2, .slice a3 n3 c3]) := ⟨G2.out.1.trans (hb.mono G2.out.1.size), G2.out.2.below hb G2.out.2.lt⟩
    clear hb G2
    go_wp2_with fail
    go_ret
    exact ⟨HF.out ▸ rfl, G3.out.1⟩
theorem eqStore_wide (s : So) (a b : Value) (w : World) (hl : wtM s.certs <= 1000000000 /\ wtS s.crls <= 1000000000 /\ s.ancs.length <= 1000000000) (ha : SoAt w a s) (hb : SoAt w b s) :
  Calls Try.prog 14 #[a, b] w fun e w' => e = .returned (.bool true) /\ Below w.heap.size w w' := by
 obtain ⟨a1, c1, a2, c2, a3, c3, rfl⟩ := ha.shape
 obtain ⟨b1, d1, b2, d2, b3, d3, rfl⟩ := hb.shape
 obtain ⟨k1, k2, k3⟩ := ha.rows
 obtain ⟨j1, j2, j3⟩ := hb.rows
 have Q1 : Hid (∀ W, Below w.heap.size w W -> Calls Try.prog 44 #[.slice a1 s.certs.length c1, .slice b1 s.certs.length d1] W (fun e w' => e = .returned (.bool true) /\ Below W.heap.size W w')) := fun W h => eqCertS_same s.certs _ _ W hl.1 (k1.below h) (j1.below h)
 have Q2 : Hid (∀ W, Below w.heap.size w W -> Calls Try.prog 45 #[.slice a2 s.crls.length c2, .slice b2 s.crls.length d2] W (fun e w' => e = .returned (.bool true) /\ Below W.heap.size W w')) := fun W h => eqCrlS_same s.crls _ _ W hl.2.1 (k2.below h) (j2.below h)
 have Q3 : Hid (∀ W, Below w.heap.size w W -> Calls Try.prog 46 #[.slice a3 s.ancs.length c3, .slice b3 s.ancs.length d3] W (fun e w' => e = .returned (.bool true) /\ Below W.heap.size W w')) := fun W h => eqAnchorS_same s.ancs _ _ W hl.2.2 (k3.below h) (j3.below h)
 clear ha hb k1 k2 k3 j1 j2 j3 hl
 obtain ⟨n1, e1⟩ := zE (s.certs.length)
 obtain ⟨n2, e2⟩ := zE (s.crls.length)
 obtain ⟨n3, e3⟩ := zE (s.ancs.length)
 rw [e1] at Q1 |-
 rw [e2] at Q2 |-
 rw [e3] at Q3 |-
 clear e1 e2 e3
 go_enter Try.func14, Try.ntmps14
 go_wp2_with fail
 obtain ⟨V, hV⟩ : ∃ V, V = ((w.alloc (Obj.cells #[.slice a1 n1 c1, .slice a2 n2 c2, .slice a3 n3 c3] 37)).alloc (Obj.cells #[.slice b1 n1 d1, .slice b2 n2 d2, .slice b3 n3 d3] 37)) := ⟨_, rfl⟩
 rw [<- hV]
 have G0 : Hid (Blk V w.heap.size 37 #[.slice a1 n1 c1, .slice a2 n2 c2, .slice a3 n3 c3] /\ Blk V (w.heap.size + 1) 37 #[.slice b1 n1 d1, .slice b2 n2 d2, .slice b3 n3 d3] /\ Below w.heap.size w V /\ w.heap.size + 1 < V.heap.size) := by
  have e0 : (w.alloc (Obj.cells #[.slice a1 n1 c1, .slice a2 n2 c2, .slice a3 n3 c3] 37)).heap.size = w.heap.size + 1 := Array.size_push _
  have h := Blk.new (w.alloc (Obj.cells #[.slice a1 n1 c1, .slice a2 n2 c2, .slice a3 n3 c3] 37)) 37 #[.slice b1 n1 d1, .slice b2 n2 d2, .slice b3 n3 d3]
  rw [e0] at h
  rw [hV]
  exact ⟨(Blk.new w _ _).alloc _, h, ((Below.refl _ _).alloc (Nat.le_refl _) _).alloc (by rw [e0]; omega) _, by rw [size_alloc, e0]; omega⟩
 clear hV
 refine (Q1.out V G0.out.2.2.1).mono ?_
 rintro e V1 ⟨rfl, hb⟩
 have G1 : Hid (Blk V1 w.heap.size 37 #[.slice a1 n1 c1, .slice a2 n2 c2, .slice a3 n3 c3] /\ Blk V1 (w.heap.size + 1) 37 #[.slice b1 n1 d1, .slice b2 n2 d2, .slice b3 n3 d3] /\ Below w.heap.size w V1 /\ w.heap.size + 1 < V1.heap.size) := ⟨G0.out.1.below hb (by have := G0.out.2.2.2; omega), G0.out.2.1.below hb G0.out.2.2.2, G0.out.2.2.1.trans (hb.mono G0.out.2.2.1.size), Nat.lt_of_lt_of_le G0.out.2.2.2 hb.size⟩
 clear hb G0
 have x1 : V1.cell? ⟨w.heap.size, 1, none⟩ = some (.slice a2 n2 c2) := G1.out.1.cell 1
 have x2 : V1.cell? ⟨w.heap.size + 1, 1, none⟩ = some (.slice b2 n2 d2) := G1.out.2.1.cell 1
 go_wp2_with fail
 clear x1 x2
 refine (Q2.out V1 G1.out.2.2.1).mono ?_
 rintro e V2 ⟨rfl, hb⟩
 have G2 : Hid (Blk V2 w.heap.size 37 #[.slice a1 n1 c1, .slice a2 n2 c2, .slice a3 n3 c3] /\ Blk V2 (w.heap.size + 1) 37 #[.slice b1 n1 d1, .slice b2 n2 d2, .slice b3 n3 d3] /\ Below w.heap.size w V2 /\ w.heap.size + 1 < V2.heap.size) := ⟨G1.out.1.below hb (by have := G1.out.2.2.2; omega), G1.out.2.1.below hb G1.out.2.2.2, G1.out.2.2.1.trans (hb.mono G1.out.2.2.1.size), Nat.lt_of_lt_of_le G1.out.2.2.2 hb.size⟩
 clear hb G1
 have x1 : V2.cell? ⟨w.heap.size, 2, none⟩ = some (.slice a3 n3 c3) := G2.out.1.cell 2
 have x2 : V2.cell? ⟨w.heap.size + 1, 2, none⟩ = some (.slice b3 n3 d3) := G2.out.2.1.cell 2
 go_wp2_with fail
 clear x1 x2
 refine (Q3.out V2 G2.out.2.2.1).mono ?_
 rintro e V3 ⟨rfl, hb⟩
 have G3 : Hid (Blk V3 w.heap.size 37 #[.slice a1 n1 c1, .slice a2 n2 c2, .slice a3 n3 c3] /\ Blk V3 (w.heap.size + 1) 37 #[.slice b1 n1 d1, .slice b2 n2 d2, .slice b3 n3 d3] /\ Below w.heap.size w V3 /\ w.heap.size + 1 < V3.heap.size) := ⟨G2.out.1.below hb (by have := G2.out.2.2.2; omega), G2.out.2.1.below hb G2.out.2.2.2, G2.out.2.2.1.trans (hb.mono G2.out.2.2.1.size), Nat.lt_of_lt_of_le G2.out.2.2.2 hb.size⟩
 clear hb G2
 go_wp2_with fail
 go_ret
 exact ⟨rfl, G3.out.2.2.1⟩
theorem eqStore_same (s : So) (a b : Value) (w : World) (hl : wtO s <= 1000000000) (ha : SoAt w a s) (hb : SoAt w b s) :
  Calls Try.prog 14 #[a, b] w fun e w' => e = .returned (.bool true) /\ Below w.heap.size w w' := eqStore_wide s a b w (have hn : s.ancs.length <= wtN s.ancs := Nat.le_add_right _ _; by unfold wtO at hl; exact ⟨by omega, by omega, by omega⟩) ha hb
theorem wpList_append_ints2 {w : World} {ops : Array Oper} {rest : List Oper} {o : Oper} {a : Act} {Q : Exit -> Act -> World -> Prop} (hgd : o.guard = none) (s x : Operand) (t : TypeId)
  (ho : o.op = .call { callee := .builtin .append, args := #[s, x], argTypes := #[t, t] }) (base : Nat) (i0 : TypeInfo) (ht : Try.prog.underlying t = some (.slice 3)) (hi : Try.prog.info? 3 = some i0) (hz0 : i0.zero = some (.int .i64 0)) (hz1 : i0.size = 1) (hz2 : i0.bytes = 8)
  (v : Value) (n : Nat) (xs : List Value) (hs : a.eval s = v) (hown : w.ownsRow base 3 1 v n xs) (u : Value) (lu : List Int) (bu : Nat) (hu : OwnI w bu u lu) (hx : a.eval x = u) (hlen : n + lu.length <= 100000000) (hbase : base <= w.heap.size)
  (h : ∀ v' w', w'.ownsRow base 3 1 v' (n + lu.length) (xs ++ cellsI lu) -> w.grownBy w' v.ownBlock -> wpList Try.prog ops Q rest (a.put o.dst v') w') : wpList Try.prog ops Q (o :: rest) a w := by
 rcases hu.2 with ⟨rfl, h0⟩ | ⟨g, cap, cur, rfl, hbg, hg, hn, hm, hsz, htk⟩
 ·have hl : lu = [] := List.eq_nil_of_length_eq_zero h0
  subst hl
  refine wpList_append_own_none hgd s x t ho base 3 i0 1 ht hi v n xs hs hown hx (h v w (by simpa [cellsI] using hown) (World.grownBy.refl _ _))
 ·refine wpList_append_own w hgd s x t ho base 3 i0 (.int .i64 0) 1 8 ht hi hz0 hz1 hz2 rfl (by decide) v n xs hs hown ⟨g, 0, none⟩ lu.length cap (cellsI lu) hx (by simp [cellsI]) (fun j q hq => ?_) (fun q hq => ?_) (by unfold maxLen; omega) (by omega) hbase (fun v' w' h1 h2 _ => h v' w' h1 h2)
  ·have hj : j < lu.length := by
    refine Nat.lt_of_not_le fun h => ?_
    rw [List.getElem?_eq_none (by rw [cellsI_len]; exact h)] at hq
    cases hq
   rw [Addr.add_lit, Nat.zero_add, hu.cell hj, <- hq, cellsI_getD hj]
  ·obtain ⟨y, _, rfl⟩ := List.mem_map.1 hq
   rfl
end Go.Proofs.Ytllmgjfffkhocaa
