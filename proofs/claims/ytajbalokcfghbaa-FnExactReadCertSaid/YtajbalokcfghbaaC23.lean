/-
  Texts of the proof, one behind the other: CrZ.
-/
import Derived.Test.YtajbalokcfghbaaC21

/-
  The program's letterBody: what a reader tells of a letter.
-/
namespace Go.Proofs.Ytajbalokcfghbaa
open Go.RowKit Der
set_option linter.unusedVariables false
set_option linter.unusedSimpArgs false

/-- Items that are not too many, nor too great. -/
def SzL {n : Nat} (ks : List (It n)) : Prop := ks.length ≤ 1000000 ∧ ∀ y ∈ ks, szI n y ≤ 1000000
theorem SzL.tail {n : Nat} {y : It n} {r : List (It n)} (h : SzL (y :: r)) : SzL r := ⟨by have := h.1; rw [List.length_cons] at this; omega, fun z hz => h.2 z (by simp [hz])⟩
theorem SzL.kids {n : Nat} {y : It (n + 1)} {r : List (It (n + 1))} (h : SzL (y :: r)) : SzL (It.kids y) := by
  have h5 := szI_kid (t := It.tag y) (s := It.text y) (ks := It.kids y) (h.2 y (by simp))
  exact ⟨h5.2.1, h5.2.2⟩
theorem SzL.num {k : Nat} {ks r : List (It (k + 1))} {x : Int} (h : SzL ks) (hn : numP ks = some (x, r)) : SzL r := by
  obtain ⟨y, _, h1, _⟩ := num_some hn
  rw [h1] at h
  exact h.tail
theorem SzL.txt {k : Nat} {t : Int} {ks r : List (It (k + 1))} {x : ByteArray} (h : SzL ks) (hn : txtP t ks = some (x, r)) : SzL r := by
  obtain ⟨y, h1, _⟩ := txt_some hn
  rw [h1] at h
  exact h.tail
theorem SzL.flg {k : Nat} {ks r : List (It (k + 1))} {x : Bool} (h : SzL ks) (hn : flgP ks = some (x, r)) : SzL r := by
  obtain ⟨y, h1, _⟩ := flg_some hn
  rw [h1] at h
  exact h.tail
theorem SzL.lst {k : Nat} {ks r : List (It (k + 1))} {i : List (It k)} (h : SzL ks) (hn : lstP ks = some (i, r)) : SzL i ∧ SzL r := by
  obtain ⟨y, h1, _, h3⟩ := lst_some hn
  rw [h1] at h
  change i = It.kids y at h3
  rw [h3]
  exact ⟨h.kids, h.tail⟩
theorem SzL.nums {k : Nat} {ks r : List (It (k + 2))} {l : List Int} (h : SzL ks) (hn : numsL ks = some (l, r)) : SzL r := by
  obtain ⟨y, h1, _⟩ := numsL_some hn
  rw [h1] at h
  exact h.tail
theorem SzL.txts {k : Nat} {ks r : List (It (k + 2))} {l : List ByteArray} (h : SzL ks) (hn : txtsL ks = some (l, r)) : SzL r := by
  obtain ⟨y, h1, _⟩ := txtsL_some hn
  rw [h1] at h
  exact h.tail
/-- What letterBody leaves. -/
def BodyPost (w0 w : World) (g : Nat) (ob : Option Ct) (e : Ending) (W' : World) : Prop := Out [g] w W' ∧
  ((ob = none ∧ e = misfit) ∨ ∃ (c : Ct) (u v' : Value), ob = some c ∧ e = .returned u ∧ OwnC W' w.heap.size u c ∧ Blk W' g 139 #[v'])
theorem out_set {w : World} (b j : Nat) (v : Value) : Out [b] w (w.setCell ⟨b, j, none⟩ v) := (Out.refl _ _).setCell _ _ (by simp)
set_option maxHeartbeats 12800000 in
set_option maxRecDepth 100000 in
theorem letterBody_any (w0 w : World) (g m : Nat) (v : Value) (ks : List (It (m + 2))) (hw : Below w0.heap.size w0 w) (hk : KcAt w0 (m + 2) v ks) (hr : Blk w g 139 #[v]) (hg : w0.heap.size ≤ g) (hz : SzL ks) :
    Calls Try.prog 100 #[.pointer (some ⟨g, 0, none⟩)] w fun e W' => BodyPost w0 w g (bodyP ks) e W' := by
  obtain ⟨oB, hoB⟩ : ∃ b, bodyP ks = b := ⟨_, rfl⟩
  have HP : Hid (bodyP ks = oB) := hoB
  rw [hoB]
  clear hoB
  have GW : Hid (w0.heap.size ≤ g ∧ g < w.heap.size ∧ w0.heap.size ≤ w.heap.size) := ⟨hg, hr.lt, hw.size⟩
  go_enter Try.func100, Try.ntmps100
  go_wp2_with fail
  obtain ⟨W1, hW1⟩ : ∃ V, V = (w.alloc (Obj.cells #[.int .i64 0, .string ⟨#[]⟩, .string ⟨#[]⟩, .int .i64 0, .int .i64 0, .string ⟨#[]⟩, .bool false, .int .i64 0, .int .i64 0, .slice none 0 0, .slice none 0 0, .slice none 0 0, .string ⟨#[]⟩] 29)).alloc (Obj.cells #[.int .i64 0, .string ⟨#[]⟩, .string ⟨#[]⟩, .int .i64 0, .int .i64 0, .string ⟨#[]⟩, .bool false, .int .i64 0, .int .i64 0, .slice none 0 0, .slice none 0 0, .slice none 0 0, .string ⟨#[]⟩] 29) := ⟨_, rfl⟩
  rw [← hW1]
  have e0 : (w.alloc (Obj.cells #[.int .i64 0, .string ⟨#[]⟩, .string ⟨#[]⟩, .int .i64 0, .int .i64 0, .string ⟨#[]⟩, .bool false, .int .i64 0, .int .i64 0, .slice none 0 0, .slice none 0 0, .slice none 0 0, .string ⟨#[]⟩] 29)).heap.size = w.heap.size + 1 := Array.size_push _
  have hb1 : Below w.heap.size w W1 := by rw [hW1]; exact ((Below.refl _ _).alloc (Nat.le_refl _) _).alloc (by rw [e0]; omega) _
  have hv1 : Blk W1 w.heap.size 29 #[.int .i64 0, .string ⟨#[]⟩, .string ⟨#[]⟩, .int .i64 0, .int .i64 0, .string ⟨#[]⟩, .bool false, .int .i64 0, .int .i64 0, .slice none 0 0, .slice none 0 0, .slice none 0 0, .string ⟨#[]⟩] := by rw [hW1]; exact (Blk.new w _ _).alloc _
  have hv2 : Blk W1 (w.heap.size + 1) 29 #[.int .i64 0, .string ⟨#[]⟩, .string ⟨#[]⟩, .int .i64 0, .int .i64 0, .string ⟨#[]⟩, .bool false, .int .i64 0, .int .i64 0, .slice none 0 0, .slice none 0 0, .slice none 0 0, .string ⟨#[]⟩] := by
    rw [hW1]
    have h := Blk.new (w.alloc (Obj.cells #[.int .i64 0, .string ⟨#[]⟩, .string ⟨#[]⟩, .int .i64 0, .int .i64 0, .string ⟨#[]⟩, .bool false, .int .i64 0, .int .i64 0, .slice none 0 0, .slice none 0 0, .slice none 0 0, .string ⟨#[]⟩] 29)) 29 #[.int .i64 0, .string ⟨#[]⟩, .string ⟨#[]⟩, .int .i64 0, .int .i64 0, .string ⟨#[]⟩, .bool false, .int .i64 0, .int .i64 0, .slice none 0 0, .slice none 0 0, .slice none 0 0, .string ⟨#[]⟩]
    rw [e0] at h
    exact h
  have hs1 : W1.heap.size = w.heap.size + 2 := by rw [hW1, size_alloc, e0]
  have HB0 : Hid (Below w0.heap.size w0 W1) := hw.trans (hb1.mono hw.size)
  have HO : Hid (Out [g] w W1) := Out.of_below hb1
  have VR : Hid (Blk W1 w.heap.size 29 #[.int .i64 0, .string ⟨#[]⟩, .string ⟨#[]⟩, .int .i64 0, .int .i64 0, .string ⟨#[]⟩, .bool false, .int .i64 0, .int .i64 0, .slice none 0 0, .slice none 0 0, .slice none 0 0, .string ⟨#[]⟩]) := hv1
  have VC : Hid (Blk W1 (w.heap.size + 1) 29 #[.int .i64 0, .string ⟨#[]⟩, .string ⟨#[]⟩, .int .i64 0, .int .i64 0, .string ⟨#[]⟩, .bool false, .int .i64 0, .int .i64 0, .slice none 0 0, .slice none 0 0, .slice none 0 0, .string ⟨#[]⟩]) := hv2
  have RG : Hid (Blk W1 g 139 #[v]) := hr.on hb1
  have O1 : Hid (W1.heap.size = w.heap.size + 2) := hs1
  have KG : Hid (KcAt w0 (m + 2) v ks ∧ SzL ks) := ⟨hk, hz⟩
  clear hw hk hr hg hz hW1 e0 hb1 hv1 hv2 hs1
  refine (number_any w0 W1 g (m + 1) v ks HB0.out KG.out.1 RG.out (by have := GW.out; have := O1.out; omega) KG.out.2.1 (fun y hy => Nat.le_trans (KG.out.2.2 y hy) (by decide))).mono ?_
  rintro e w1 ⟨ho, ⟨hn, rfl⟩ | ⟨x1, r1, v1, hn, rfl, hkr, hB⟩⟩
  · have HF : Hid (Out [g] w w1 ∧ oB = none) := by
      refine ⟨HO.out.trans ho, ?_⟩
      rw [← HP.out]
      have N1 : Hid (numP ks = none) := hn
      simp only [bodyP, N1.out, Option.bind_some, Option.bind_none]
    clear hn ho
    unfold misfit
    go_wp2_with fail
    exact ⟨rfl, HF.out.1, .inl ⟨HF.out.2, rfl⟩⟩
  have N1 : Hid (numP ks = some (x1, r1)) := hn
  have HB0n : Hid (Below w0.heap.size w0 w1) := below_out HB0.out ho (by have := GW.out; have := O1.out; omega)
  clear HB0
  have HB0 := HB0n
  clear HB0n
  have HOn : Hid (Out [g] w w1) := HO.out.trans ho
  clear HO
  have HO := HOn
  clear HOn
  have VRn : Hid (Blk w1 w.heap.size 29 #[.int .i64 0, .string ⟨#[]⟩, .string ⟨#[]⟩, .int .i64 0, .int .i64 0, .string ⟨#[]⟩, .bool false, .int .i64 0, .int .i64 0, .slice none 0 0, .slice none 0 0, .slice none 0 0, .string ⟨#[]⟩]) := VR.out.outX ho (by have := GW.out; have := O1.out; simp <;> omega)
  clear VR
  have VR := VRn
  clear VRn
  have VCn : Hid (Blk w1 (w.heap.size + 1) 29 #[.int .i64 0, .string ⟨#[]⟩, .string ⟨#[]⟩, .int .i64 0, .int .i64 0, .string ⟨#[]⟩, .bool false, .int .i64 0, .int .i64 0, .slice none 0 0, .slice none 0 0, .slice none 0 0, .string ⟨#[]⟩]) := VC.out.outX ho (by have := GW.out; have := O1.out; simp <;> omega)
  clear VC
  have VC := VCn
  clear VCn
  clear RG
  have O2 : Hid (W1.heap.size ≤ w1.heap.size) := ho.size
  have RG : Hid (Blk w1 g 139 #[v1]) := hB
  have KGn : Hid (KcAt w0 (m + 2) v1 r1 ∧ SzL r1) := ⟨hkr, KG.out.2.num hn⟩
  clear KG
  have KG := KGn
  clear KGn hn ho hkr hB
  have cc : w1.cell? ⟨w.heap.size + 1, 0, none⟩ = some (.int .i64 0) := VC.out.cell 0
  have cf := VC.out.free 0
  go_wp2_with fail
  clear cc cf
  obtain ⟨V1, hV1⟩ : ∃ V, V = w1.setCell ⟨w.heap.size + 1, 0, none⟩ (.int .i64 x1) := ⟨_, rfl⟩
  rw [← hV1]
  have hset : Out [w.heap.size + 1] w1 V1 := by rw [hV1]; exact out_set _ _ _
  have hVC : Blk V1 (w.heap.size + 1) 29 #[.int .i64 x1, .string ⟨#[]⟩, .string ⟨#[]⟩, .int .i64 0, .int .i64 0, .string ⟨#[]⟩, .bool false, .int .i64 0, .int .i64 0, .slice none 0 0, .slice none 0 0, .slice none 0 0, .string ⟨#[]⟩] := by rw [hV1]; exact VC.out.set 0 _
  have HB0n : Hid (Below w0.heap.size w0 V1) := below_out HB0.out hset (by have := GW.out; have := O1.out; have := O2.out; omega)
  clear HB0
  have HB0 := HB0n
  clear HB0n
  have HOn : Hid (Out [g] w V1) := HO.out.aside hset (by have := GW.out; have := O1.out; have := O2.out; omega)
  clear HO
  have HO := HOn
  clear HOn
  have VRn : Hid (Blk V1 w.heap.size 29 #[.int .i64 0, .string ⟨#[]⟩, .string ⟨#[]⟩, .int .i64 0, .int .i64 0, .string ⟨#[]⟩, .bool false, .int .i64 0, .int .i64 0, .slice none 0 0, .slice none 0 0, .slice none 0 0, .string ⟨#[]⟩]) := VR.out.outX hset (by have := GW.out; have := O1.out; have := O2.out; simp <;> omega)
  clear VR
  have VR := VRn
  clear VRn
  have RGn : Hid (Blk V1 g 139 #[v1]) := RG.out.outX hset (by have := GW.out; have := O1.out; have := O2.out; simp <;> omega)
  clear RG
  have RG := RGn
  clear RGn
  clear VC
  have O3 : Hid (w1.heap.size ≤ V1.heap.size) := hset.size
  have VC : Hid (Blk V1 (w.heap.size + 1) 29 #[.int .i64 x1, .string ⟨#[]⟩, .string ⟨#[]⟩, .int .i64 0, .int .i64 0, .string ⟨#[]⟩, .bool false, .int .i64 0, .int .i64 0, .slice none 0 0, .slice none 0 0, .slice none 0 0, .string ⟨#[]⟩]) := hVC
  clear hVC hset hV1
  refine (rtext_any w0 V1 g (m + 1) v1 r1 HB0.out KG.out.1 RG.out (by have := GW.out; have := O1.out; have := O2.out; have := O3.out; omega) KG.out.2.1).mono ?_
  rintro e w2 ⟨ho, ⟨hn, rfl⟩ | ⟨x2, r2, v2, hn, rfl, hkr, hB⟩⟩
  · have HF : Hid (Out [g] w w2 ∧ oB = none) := by
      refine ⟨HO.out.trans ho, ?_⟩
      rw [← HP.out]
      have N2 : Hid (txtP 12 r1 = none) := hn
      simp only [bodyP, N1.out, N2.out, Option.bind_some, Option.bind_none]
    clear hn ho
    unfold misfit
    go_wp2_with fail
    exact ⟨rfl, HF.out.1, .inl ⟨HF.out.2, rfl⟩⟩
  have N2 : Hid (txtP 12 r1 = some (x2, r2)) := hn
  have HB0n : Hid (Below w0.heap.size w0 w2) := below_out HB0.out ho (by have := GW.out; have := O1.out; have := O2.out; have := O3.out; omega)
  clear HB0
  have HB0 := HB0n
  clear HB0n
  have HOn : Hid (Out [g] w w2) := HO.out.trans ho
  clear HO
  have HO := HOn
  clear HOn
  have VRn : Hid (Blk w2 w.heap.size 29 #[.int .i64 0, .string ⟨#[]⟩, .string ⟨#[]⟩, .int .i64 0, .int .i64 0, .string ⟨#[]⟩, .bool false, .int .i64 0, .int .i64 0, .slice none 0 0, .slice none 0 0, .slice none 0 0, .string ⟨#[]⟩]) := VR.out.outX ho (by have := GW.out; have := O1.out; have := O2.out; have := O3.out; simp <;> omega)
  clear VR
  have VR := VRn
  clear VRn
  have VCn : Hid (Blk w2 (w.heap.size + 1) 29 #[.int .i64 x1, .string ⟨#[]⟩, .string ⟨#[]⟩, .int .i64 0, .int .i64 0, .string ⟨#[]⟩, .bool false, .int .i64 0, .int .i64 0, .slice none 0 0, .slice none 0 0, .slice none 0 0, .string ⟨#[]⟩]) := VC.out.outX ho (by have := GW.out; have := O1.out; have := O2.out; have := O3.out; simp <;> omega)
  clear VC
  have VC := VCn
  clear VCn
  clear RG
  have O4 : Hid (V1.heap.size ≤ w2.heap.size) := ho.size
  have RG : Hid (Blk w2 g 139 #[v2]) := hB
  have KGn : Hid (KcAt w0 (m + 2) v2 r2 ∧ SzL r2) := ⟨hkr, KG.out.2.txt hn⟩
  clear KG
  have KG := KGn
  clear KGn hn ho hkr hB
  have cc : w2.cell? ⟨w.heap.size + 1, 1, none⟩ = some (.string ⟨#[]⟩) := VC.out.cell 1
  have cf := VC.out.free 1
  go_wp2_with fail
  clear cc cf
  obtain ⟨V2, hV2⟩ : ∃ V, V = w2.setCell ⟨w.heap.size + 1, 1, none⟩ (.string x2) := ⟨_, rfl⟩
  rw [← hV2]
  have hset : Out [w.heap.size + 1] w2 V2 := by rw [hV2]; exact out_set _ _ _
  have hVC : Blk V2 (w.heap.size + 1) 29 #[.int .i64 x1, .string x2, .string ⟨#[]⟩, .int .i64 0, .int .i64 0, .string ⟨#[]⟩, .bool false, .int .i64 0, .int .i64 0, .slice none 0 0, .slice none 0 0, .slice none 0 0, .string ⟨#[]⟩] := by rw [hV2]; exact VC.out.set 1 _
  have HB0n : Hid (Below w0.heap.size w0 V2) := below_out HB0.out hset (by have := GW.out; have := O1.out; have := O2.out; have := O3.out; have := O4.out; omega)
  clear HB0
  have HB0 := HB0n
  clear HB0n
  have HOn : Hid (Out [g] w V2) := HO.out.aside hset (by have := GW.out; have := O1.out; have := O2.out; have := O3.out; have := O4.out; omega)
  clear HO
  have HO := HOn
  clear HOn
  have VRn : Hid (Blk V2 w.heap.size 29 #[.int .i64 0, .string ⟨#[]⟩, .string ⟨#[]⟩, .int .i64 0, .int .i64 0, .string ⟨#[]⟩, .bool false, .int .i64 0, .int .i64 0, .slice none 0 0, .slice none 0 0, .slice none 0 0, .string ⟨#[]⟩]) := VR.out.outX hset (by have := GW.out; have := O1.out; have := O2.out; have := O3.out; have := O4.out; simp <;> omega)
  clear VR
  have VR := VRn
  clear VRn
  have RGn : Hid (Blk V2 g 139 #[v2]) := RG.out.outX hset (by have := GW.out; have := O1.out; have := O2.out; have := O3.out; have := O4.out; simp <;> omega)
  clear RG
  have RG := RGn
  clear RGn
  clear VC
  have O5 : Hid (w2.heap.size ≤ V2.heap.size) := hset.size
  have VC : Hid (Blk V2 (w.heap.size + 1) 29 #[.int .i64 x1, .string x2, .string ⟨#[]⟩, .int .i64 0, .int .i64 0, .string ⟨#[]⟩, .bool false, .int .i64 0, .int .i64 0, .slice none 0 0, .slice none 0 0, .slice none 0 0, .string ⟨#[]⟩]) := hVC
  clear hVC hset hV2
  refine (list_any w0 V2 g (m + 1) v2 r2 HB0.out KG.out.1 RG.out (by have := GW.out; have := O1.out; have := O2.out; have := O3.out; have := O4.out; have := O5.out; omega) KG.out.2.1).mono ?_
  rintro e w3 ⟨ho, ⟨hn, rfl⟩ | ⟨i3, r3, v3, vi3, gi, hn, rfl, hgi, hki, hkr, hB, hBi⟩⟩
  · have HF : Hid (Out [g] w w3 ∧ oB = none) := by
      refine ⟨HO.out.trans ho, ?_⟩
      rw [← HP.out]
      have N3 : Hid (lstP r2 = none) := hn
      simp only [bodyP, N1.out, N2.out, N3.out, Option.bind_some, Option.bind_none]
    clear hn ho
    unfold misfit
    go_wp2_with fail
    exact ⟨rfl, HF.out.1, .inl ⟨HF.out.2, rfl⟩⟩
  have N3 : Hid (lstP r2 = some (i3, r3)) := hn
  have HB0n : Hid (Below w0.heap.size w0 w3) := below_out HB0.out ho (by have := GW.out; have := O1.out; have := O2.out; have := O3.out; have := O4.out; have := O5.out; omega)
  clear HB0
  have HB0 := HB0n
  clear HB0n
  have HOn : Hid (Out [g] w w3) := HO.out.trans ho
  clear HO
  have HO := HOn
  clear HOn
  have VRn : Hid (Blk w3 w.heap.size 29 #[.int .i64 0, .string ⟨#[]⟩, .string ⟨#[]⟩, .int .i64 0, .int .i64 0, .string ⟨#[]⟩, .bool false, .int .i64 0, .int .i64 0, .slice none 0 0, .slice none 0 0, .slice none 0 0, .string ⟨#[]⟩]) := VR.out.outX ho (by have := GW.out; have := O1.out; have := O2.out; have := O3.out; have := O4.out; have := O5.out; simp <;> omega)
  clear VR
  have VR := VRn
  clear VRn
  have VCn : Hid (Blk w3 (w.heap.size + 1) 29 #[.int .i64 x1, .string x2, .string ⟨#[]⟩, .int .i64 0, .int .i64 0, .string ⟨#[]⟩, .bool false, .int .i64 0, .int .i64 0, .slice none 0 0, .slice none 0 0, .slice none 0 0, .string ⟨#[]⟩]) := VC.out.outX ho (by have := GW.out; have := O1.out; have := O2.out; have := O3.out; have := O4.out; have := O5.out; simp <;> omega)
  clear VC
  have VC := VCn
  clear VCn
  clear RG
  have O6 : Hid (V2.heap.size ≤ w3.heap.size) := ho.size
  have RG : Hid (Blk w3 g 139 #[v3]) := hB
  have KGn : Hid (KcAt w0 (m + 2) v3 r3 ∧ SzL r3) := ⟨hkr, (KG.out.2.lst hn).2⟩
  have KI : Hid (KcAt w0 (m + 1) vi3 i3 ∧ SzL i3) := ⟨hki, (KG.out.2.lst hn).1⟩
  have RS : Hid (Blk w3 gi 139 #[vi3]) := hBi
  have O7 : Hid (V2.heap.size ≤ gi ∧ gi < w3.heap.size) := ⟨hgi, hBi.lt⟩
  clear hgi hki hBi
  clear KG
  have KG := KGn
  clear KGn hn ho hkr hB
  go_wp2_with fail
  refine (number_any w0 w3 gi m vi3 i3 HB0.out KI.out.1 RS.out (by have := GW.out; have := O1.out; have := O2.out; have := O3.out; have := O4.out; have := O5.out; have := O6.out; have := O7.out; omega) KI.out.2.1 (fun y hy => Nat.le_trans (KI.out.2.2 y hy) (by decide))).mono ?_
  rintro e w4 ⟨ho, ⟨hn, rfl⟩ | ⟨x4, r4, v4, hn, rfl, hkr, hB⟩⟩
  · have HF : Hid (Out [g] w w4 ∧ oB = none) := by
      refine ⟨HO.out.aside ho (by have := GW.out; have := O1.out; have := O2.out; have := O3.out; have := O4.out; have := O5.out; have := O6.out; have := O7.out; omega), ?_⟩
      rw [← HP.out]
      have N4 : Hid (numP i3 = none) := hn
      simp only [bodyP, N1.out, N2.out, N3.out, N4.out, Option.bind_some, Option.bind_none]
    clear hn ho
    unfold misfit
    go_wp2_with fail
    exact ⟨rfl, HF.out.1, .inl ⟨HF.out.2, rfl⟩⟩
  have N4 : Hid (numP i3 = some (x4, r4)) := hn
  have HB0n : Hid (Below w0.heap.size w0 w4) := below_out HB0.out ho (by have := GW.out; have := O1.out; have := O2.out; have := O3.out; have := O4.out; have := O5.out; have := O6.out; have := O7.out; omega)
  clear HB0
  have HB0 := HB0n
  clear HB0n
  have HOn : Hid (Out [g] w w4) := HO.out.aside ho (by have := GW.out; have := O1.out; have := O2.out; have := O3.out; have := O4.out; have := O5.out; have := O6.out; have := O7.out; omega)
  clear HO
  have HO := HOn
  clear HOn
  have VRn : Hid (Blk w4 w.heap.size 29 #[.int .i64 0, .string ⟨#[]⟩, .string ⟨#[]⟩, .int .i64 0, .int .i64 0, .string ⟨#[]⟩, .bool false, .int .i64 0, .int .i64 0, .slice none 0 0, .slice none 0 0, .slice none 0 0, .string ⟨#[]⟩]) := VR.out.outX ho (by have := GW.out; have := O1.out; have := O2.out; have := O3.out; have := O4.out; have := O5.out; have := O6.out; have := O7.out; simp <;> omega)
  clear VR
  have VR := VRn
  clear VRn
  have VCn : Hid (Blk w4 (w.heap.size + 1) 29 #[.int .i64 x1, .string x2, .string ⟨#[]⟩, .int .i64 0, .int .i64 0, .string ⟨#[]⟩, .bool false, .int .i64 0, .int .i64 0, .slice none 0 0, .slice none 0 0, .slice none 0 0, .string ⟨#[]⟩]) := VC.out.outX ho (by have := GW.out; have := O1.out; have := O2.out; have := O3.out; have := O4.out; have := O5.out; have := O6.out; have := O7.out; simp <;> omega)
  clear VC
  have VC := VCn
  clear VCn
  have RGn : Hid (Blk w4 g 139 #[v3]) := RG.out.outX ho (by have := GW.out; have := O1.out; have := O2.out; have := O3.out; have := O4.out; have := O5.out; have := O6.out; have := O7.out; simp <;> omega)
  clear RG
  have RG := RGn
  clear RGn
  clear RS
  have O8 : Hid (w3.heap.size ≤ w4.heap.size) := ho.size
  have RS : Hid (Blk w4 gi 139 #[v4]) := hB
  have KIn : Hid (KcAt w0 (m + 1) v4 r4 ∧ SzL r4) := ⟨hkr, KI.out.2.num hn⟩
  clear KI
  have KI := KIn
  clear KIn hn ho hkr hB
  have cc : w4.cell? ⟨w.heap.size + 1, 3, none⟩ = some (.int .i64 0) := VC.out.cell 3
  have cf := VC.out.free 3
  go_wp2_with fail
  clear cc cf
  obtain ⟨V4, hV4⟩ : ∃ V, V = w4.setCell ⟨w.heap.size + 1, 3, none⟩ (.int .i64 x4) := ⟨_, rfl⟩
  rw [← hV4]
  have hset : Out [w.heap.size + 1] w4 V4 := by rw [hV4]; exact out_set _ _ _
  have hVC : Blk V4 (w.heap.size + 1) 29 #[.int .i64 x1, .string x2, .string ⟨#[]⟩, .int .i64 x4, .int .i64 0, .string ⟨#[]⟩, .bool false, .int .i64 0, .int .i64 0, .slice none 0 0, .slice none 0 0, .slice none 0 0, .string ⟨#[]⟩] := by rw [hV4]; exact VC.out.set 3 _
  have HB0n : Hid (Below w0.heap.size w0 V4) := below_out HB0.out hset (by have := GW.out; have := O1.out; have := O2.out; have := O3.out; have := O4.out; have := O5.out; have := O6.out; have := O7.out; have := O8.out; omega)
  clear HB0
  have HB0 := HB0n
  clear HB0n
  have HOn : Hid (Out [g] w V4) := HO.out.aside hset (by have := GW.out; have := O1.out; have := O2.out; have := O3.out; have := O4.out; have := O5.out; have := O6.out; have := O7.out; have := O8.out; omega)
  clear HO
  have HO := HOn
  clear HOn
  have VRn : Hid (Blk V4 w.heap.size 29 #[.int .i64 0, .string ⟨#[]⟩, .string ⟨#[]⟩, .int .i64 0, .int .i64 0, .string ⟨#[]⟩, .bool false, .int .i64 0, .int .i64 0, .slice none 0 0, .slice none 0 0, .slice none 0 0, .string ⟨#[]⟩]) := VR.out.outX hset (by have := GW.out; have := O1.out; have := O2.out; have := O3.out; have := O4.out; have := O5.out; have := O6.out; have := O7.out; have := O8.out; simp <;> omega)
  clear VR
  have VR := VRn
  clear VRn
  have RGn : Hid (Blk V4 g 139 #[v3]) := RG.out.outX hset (by have := GW.out; have := O1.out; have := O2.out; have := O3.out; have := O4.out; have := O5.out; have := O6.out; have := O7.out; have := O8.out; simp <;> omega)
  clear RG
  have RG := RGn
  clear RGn
  have RSn : Hid (Blk V4 gi 139 #[v4]) := RS.out.outX hset (by have := GW.out; have := O1.out; have := O2.out; have := O3.out; have := O4.out; have := O5.out; have := O6.out; have := O7.out; have := O8.out; simp <;> omega)
  clear RS
  have RS := RSn
  clear RSn
  clear VC
  have O9 : Hid (w4.heap.size ≤ V4.heap.size) := hset.size
  have VC : Hid (Blk V4 (w.heap.size + 1) 29 #[.int .i64 x1, .string x2, .string ⟨#[]⟩, .int .i64 x4, .int .i64 0, .string ⟨#[]⟩, .bool false, .int .i64 0, .int .i64 0, .slice none 0 0, .slice none 0 0, .slice none 0 0, .string ⟨#[]⟩]) := hVC
  clear hVC hset hV4
  refine (number_any w0 V4 gi m v4 r4 HB0.out KI.out.1 RS.out (by have := GW.out; have := O1.out; have := O2.out; have := O3.out; have := O4.out; have := O5.out; have := O6.out; have := O7.out; have := O8.out; have := O9.out; omega) KI.out.2.1 (fun y hy => Nat.le_trans (KI.out.2.2 y hy) (by decide))).mono ?_
  rintro e w5 ⟨ho, ⟨hn, rfl⟩ | ⟨x5, r5, v5, hn, rfl, hkr, hB⟩⟩
  · have HF : Hid (Out [g] w w5 ∧ oB = none) := by
      refine ⟨HO.out.aside ho (by have := GW.out; have := O1.out; have := O2.out; have := O3.out; have := O4.out; have := O5.out; have := O6.out; have := O7.out; have := O8.out; have := O9.out; omega), ?_⟩
      rw [← HP.out]
      have N5 : Hid (numP r4 = none) := hn
      simp only [bodyP, N1.out, N2.out, N3.out, N4.out, N5.out, Option.bind_some, Option.bind_none]
    clear hn ho
    unfold misfit
    go_wp2_with fail
    exact ⟨rfl, HF.out.1, .inl ⟨HF.out.2, rfl⟩⟩
  have N5 : Hid (numP r4 = some (x5, r5)) := hn
  have HB0n : Hid (Below w0.heap.size w0 w5) := below_out HB0.out ho (by have := GW.out; have := O1.out; have := O2.out; have := O3.out; have := O4.out; have := O5.out; have := O6.out; have := O7.out; have := O8.out; have := O9.out; omega)
  clear HB0
  have HB0 := HB0n
  clear HB0n
  have HOn : Hid (Out [g] w w5) := HO.out.aside ho (by have := GW.out; have := O1.out; have := O2.out; have := O3.out; have := O4.out; have := O5.out; have := O6.out; have := O7.out; have := O8.out; have := O9.out; omega)
  clear HO
  have HO := HOn
  clear HOn
  have VRn : Hid (Blk w5 w.heap.size 29 #[.int .i64 0, .string ⟨#[]⟩, .string ⟨#[]⟩, .int .i64 0, .int .i64 0, .string ⟨#[]⟩, .bool false, .int .i64 0, .int .i64 0, .slice none 0 0, .slice none 0 0, .slice none 0 0, .string ⟨#[]⟩]) := VR.out.outX ho (by have := GW.out; have := O1.out; have := O2.out; have := O3.out; have := O4.out; have := O5.out; have := O6.out; have := O7.out; have := O8.out; have := O9.out; simp <;> omega)
  clear VR
  have VR := VRn
  clear VRn
  have RGn : Hid (Blk w5 g 139 #[v3]) := RG.out.outX ho (by have := GW.out; have := O1.out; have := O2.out; have := O3.out; have := O4.out; have := O5.out; have := O6.out; have := O7.out; have := O8.out; have := O9.out; simp <;> omega)
  clear RG
  have RG := RGn
  clear RGn
  have VCn : Hid (Blk w5 (w.heap.size + 1) 29 #[.int .i64 x1, .string x2, .string ⟨#[]⟩, .int .i64 x4, .int .i64 0, .string ⟨#[]⟩, .bool false, .int .i64 0, .int .i64 0, .slice none 0 0, .slice none 0 0, .slice none 0 0, .string ⟨#[]⟩]) := VC.out.outX ho (by have := GW.out; have := O1.out; have := O2.out; have := O3.out; have := O4.out; have := O5.out; have := O6.out; have := O7.out; have := O8.out; have := O9.out; simp <;> omega)
  clear VC
  have VC := VCn
  clear VCn
  clear RS
  have O10 : Hid (V4.heap.size ≤ w5.heap.size) := ho.size
  have RS : Hid (Blk w5 gi 139 #[v5]) := hB
  have KIn : Hid (KcAt w0 (m + 1) v5 r5 ∧ SzL r5) := ⟨hkr, KI.out.2.num hn⟩
  clear KI
  have KI := KIn
  clear KIn hn ho hkr hB
  have cc : w5.cell? ⟨w.heap.size + 1, 4, none⟩ = some (.int .i64 0) := VC.out.cell 4
  have cf := VC.out.free 4
  go_wp2_with fail
  clear cc cf
  obtain ⟨V5, hV5⟩ : ∃ V, V = w5.setCell ⟨w.heap.size + 1, 4, none⟩ (.int .i64 x5) := ⟨_, rfl⟩
  rw [← hV5]
  have hset : Out [w.heap.size + 1] w5 V5 := by rw [hV5]; exact out_set _ _ _
  have hVC : Blk V5 (w.heap.size + 1) 29 #[.int .i64 x1, .string x2, .string ⟨#[]⟩, .int .i64 x4, .int .i64 x5, .string ⟨#[]⟩, .bool false, .int .i64 0, .int .i64 0, .slice none 0 0, .slice none 0 0, .slice none 0 0, .string ⟨#[]⟩] := by rw [hV5]; exact VC.out.set 4 _
  have HB0n : Hid (Below w0.heap.size w0 V5) := below_out HB0.out hset (by have := GW.out; have := O1.out; have := O2.out; have := O3.out; have := O4.out; have := O5.out; have := O6.out; have := O7.out; have := O8.out; have := O9.out; have := O10.out; omega)
  clear HB0
  have HB0 := HB0n
  clear HB0n
  have HOn : Hid (Out [g] w V5) := HO.out.aside hset (by have := GW.out; have := O1.out; have := O2.out; have := O3.out; have := O4.out; have := O5.out; have := O6.out; have := O7.out; have := O8.out; have := O9.out; have := O10.out; omega)
  clear HO
  have HO := HOn
  clear HOn
  have VRn : Hid (Blk V5 w.heap.size 29 #[.int .i64 0, .string ⟨#[]⟩, .string ⟨#[]⟩, .int .i64 0, .int .i64 0, .string ⟨#[]⟩, .bool false, .int .i64 0, .int .i64 0, .slice none 0 0, .slice none 0 0, .slice none 0 0, .string ⟨#[]⟩]) := VR.out.outX hset (by have := GW.out; have := O1.out; have := O2.out; have := O3.out; have := O4.out; have := O5.out; have := O6.out; have := O7.out; have := O8.out; have := O9.out; have := O10.out; simp <;> omega)
  clear VR
  have VR := VRn
  clear VRn
  have RGn : Hid (Blk V5 g 139 #[v3]) := RG.out.outX hset (by have := GW.out; have := O1.out; have := O2.out; have := O3.out; have := O4.out; have := O5.out; have := O6.out; have := O7.out; have := O8.out; have := O9.out; have := O10.out; simp <;> omega)
  clear RG
  have RG := RGn
  clear RGn
  have RSn : Hid (Blk V5 gi 139 #[v5]) := RS.out.outX hset (by have := GW.out; have := O1.out; have := O2.out; have := O3.out; have := O4.out; have := O5.out; have := O6.out; have := O7.out; have := O8.out; have := O9.out; have := O10.out; simp <;> omega)
  clear RS
  have RS := RSn
  clear RSn
  clear VC
  have O11 : Hid (w5.heap.size ≤ V5.heap.size) := hset.size
  have VC : Hid (Blk V5 (w.heap.size + 1) 29 #[.int .i64 x1, .string x2, .string ⟨#[]⟩, .int .i64 x4, .int .i64 x5, .string ⟨#[]⟩, .bool false, .int .i64 0, .int .i64 0, .slice none 0 0, .slice none 0 0, .slice none 0 0, .string ⟨#[]⟩]) := hVC
  clear hVC hset hV5
  obtain ⟨ea6, ec6, he6⟩ := KI.out.1.shape
  have hRE : Blk V5 gi 139 #[.slice ea6 r5.length ec6] := by rw [← he6]; exact RS.out
  refine (end_any V5 gi r5.length ec6 ea6 r5 rfl hRE).mono ?_
  rintro e w6 ⟨hb, ⟨hn, rfl⟩ | ⟨hnil, hn, rfl⟩⟩
  · have HF : Hid (Out [g] w w6 ∧ oB = none) := by
      refine ⟨HO.out.trans (Out.of_below hb), ?_⟩
      rw [← HP.out]
      have N6 : Hid (endP r5 = none) := hn
      simp only [bodyP, N1.out, N2.out, N3.out, N4.out, N5.out, N6.out, Option.bind_some, Option.bind_none]
    clear hn hb
    unfold misfit
    go_wp2_with fail
    exact ⟨rfl, HF.out.1, .inl ⟨HF.out.2, rfl⟩⟩
  have N6 : Hid (endP r5 = some ()) := hn
  have HB0n : Hid (Below w0.heap.size w0 w6) := HB0.out.trans (hb.mono HB0.out.size)
  clear HB0
  have HB0 := HB0n
  clear HB0n
  have HOn : Hid (Out [g] w w6) := HO.out.trans (Out.of_below hb)
  clear HO
  have HO := HOn
  clear HOn
  have VRn : Hid (Blk w6 w.heap.size 29 #[.int .i64 0, .string ⟨#[]⟩, .string ⟨#[]⟩, .int .i64 0, .int .i64 0, .string ⟨#[]⟩, .bool false, .int .i64 0, .int .i64 0, .slice none 0 0, .slice none 0 0, .slice none 0 0, .string ⟨#[]⟩]) := VR.out.on hb
  clear VR
  have VR := VRn
  clear VRn
  have RGn : Hid (Blk w6 g 139 #[v3]) := RG.out.on hb
  clear RG
  have RG := RGn
  clear RGn
  have RSn : Hid (Blk w6 gi 139 #[v5]) := RS.out.on hb
  clear RS
  have RS := RSn
  clear RSn
  have VCn : Hid (Blk w6 (w.heap.size + 1) 29 #[.int .i64 x1, .string x2, .string ⟨#[]⟩, .int .i64 x4, .int .i64 x5, .string ⟨#[]⟩, .bool false, .int .i64 0, .int .i64 0, .slice none 0 0, .slice none 0 0, .slice none 0 0, .string ⟨#[]⟩]) := VC.out.on hb
  clear VC
  have VC := VCn
  clear VCn
  have O12 : Hid (V5.heap.size ≤ w6.heap.size) := hb.size
  clear hn hb hnil hRE he6
  go_wp2_with fail
  clear RS KI
  refine (rtext_any w0 w6 g (m + 1) v3 r3 HB0.out KG.out.1 RG.out (by have := GW.out; have := O1.out; have := O2.out; have := O3.out; have := O4.out; have := O5.out; have := O6.out; have := O7.out; have := O8.out; have := O9.out; have := O10.out; have := O11.out; have := O12.out; omega) KG.out.2.1).mono ?_
  rintro e w7 ⟨ho, ⟨hn, rfl⟩ | ⟨x7, r7, v7, hn, rfl, hkr, hB⟩⟩
  · have HF : Hid (Out [g] w w7 ∧ oB = none) := by
      refine ⟨HO.out.trans ho, ?_⟩
      rw [← HP.out]
      have N7 : Hid (txtP 12 r3 = none) := hn
      simp only [bodyP, N1.out, N2.out, N3.out, N4.out, N5.out, N6.out, N7.out, Option.bind_some, Option.bind_none]
    clear hn ho
    unfold misfit
    go_wp2_with fail
    exact ⟨rfl, HF.out.1, .inl ⟨HF.out.2, rfl⟩⟩
  have N7 : Hid (txtP 12 r3 = some (x7, r7)) := hn
  have HB0n : Hid (Below w0.heap.size w0 w7) := below_out HB0.out ho (by have := GW.out; have := O1.out; have := O2.out; have := O3.out; have := O4.out; have := O5.out; have := O6.out; have := O7.out; have := O8.out; have := O9.out; have := O10.out; have := O11.out; have := O12.out; omega)
  clear HB0
  have HB0 := HB0n
  clear HB0n
  have HOn : Hid (Out [g] w w7) := HO.out.trans ho
  clear HO
  have HO := HOn
  clear HOn
  have VRn : Hid (Blk w7 w.heap.size 29 #[.int .i64 0, .string ⟨#[]⟩, .string ⟨#[]⟩, .int .i64 0, .int .i64 0, .string ⟨#[]⟩, .bool false, .int .i64 0, .int .i64 0, .slice none 0 0, .slice none 0 0, .slice none 0 0, .string ⟨#[]⟩]) := VR.out.outX ho (by have := GW.out; have := O1.out; have := O2.out; have := O3.out; have := O4.out; have := O5.out; have := O6.out; have := O7.out; have := O8.out; have := O9.out; have := O10.out; have := O11.out; have := O12.out; simp <;> omega)
  clear VR
  have VR := VRn
  clear VRn
  have VCn : Hid (Blk w7 (w.heap.size + 1) 29 #[.int .i64 x1, .string x2, .string ⟨#[]⟩, .int .i64 x4, .int .i64 x5, .string ⟨#[]⟩, .bool false, .int .i64 0, .int .i64 0, .slice none 0 0, .slice none 0 0, .slice none 0 0, .string ⟨#[]⟩]) := VC.out.outX ho (by have := GW.out; have := O1.out; have := O2.out; have := O3.out; have := O4.out; have := O5.out; have := O6.out; have := O7.out; have := O8.out; have := O9.out; have := O10.out; have := O11.out; have := O12.out; simp <;> omega)
  clear VC
  have VC := VCn
  clear VCn
  clear RG
  have O13 : Hid (w6.heap.size ≤ w7.heap.size) := ho.size
  have RG : Hid (Blk w7 g 139 #[v7]) := hB
  have KGn : Hid (KcAt w0 (m + 2) v7 r7 ∧ SzL r7) := ⟨hkr, KG.out.2.txt hn⟩
  clear KG
  have KG := KGn
  clear KGn hn ho hkr hB
  have cc : w7.cell? ⟨w.heap.size + 1, 2, none⟩ = some (.string ⟨#[]⟩) := VC.out.cell 2
  have cf := VC.out.free 2
  go_wp2_with fail
  clear cc cf
  obtain ⟨V7, hV7⟩ : ∃ V, V = w7.setCell ⟨w.heap.size + 1, 2, none⟩ (.string x7) := ⟨_, rfl⟩
  rw [← hV7]
  have hset : Out [w.heap.size + 1] w7 V7 := by rw [hV7]; exact out_set _ _ _
  have hVC : Blk V7 (w.heap.size + 1) 29 #[.int .i64 x1, .string x2, .string x7, .int .i64 x4, .int .i64 x5, .string ⟨#[]⟩, .bool false, .int .i64 0, .int .i64 0, .slice none 0 0, .slice none 0 0, .slice none 0 0, .string ⟨#[]⟩] := by rw [hV7]; exact VC.out.set 2 _
  have HB0n : Hid (Below w0.heap.size w0 V7) := below_out HB0.out hset (by have := GW.out; have := O1.out; have := O2.out; have := O3.out; have := O4.out; have := O5.out; have := O6.out; have := O7.out; have := O8.out; have := O9.out; have := O10.out; have := O11.out; have := O12.out; have := O13.out; omega)
  clear HB0
  have HB0 := HB0n
  clear HB0n
  have HOn : Hid (Out [g] w V7) := HO.out.aside hset (by have := GW.out; have := O1.out; have := O2.out; have := O3.out; have := O4.out; have := O5.out; have := O6.out; have := O7.out; have := O8.out; have := O9.out; have := O10.out; have := O11.out; have := O12.out; have := O13.out; omega)
  clear HO
  have HO := HOn
  clear HOn
  have VRn : Hid (Blk V7 w.heap.size 29 #[.int .i64 0, .string ⟨#[]⟩, .string ⟨#[]⟩, .int .i64 0, .int .i64 0, .string ⟨#[]⟩, .bool false, .int .i64 0, .int .i64 0, .slice none 0 0, .slice none 0 0, .slice none 0 0, .string ⟨#[]⟩]) := VR.out.outX hset (by have := GW.out; have := O1.out; have := O2.out; have := O3.out; have := O4.out; have := O5.out; have := O6.out; have := O7.out; have := O8.out; have := O9.out; have := O10.out; have := O11.out; have := O12.out; have := O13.out; simp <;> omega)
  clear VR
  have VR := VRn
  clear VRn
  have RGn : Hid (Blk V7 g 139 #[v7]) := RG.out.outX hset (by have := GW.out; have := O1.out; have := O2.out; have := O3.out; have := O4.out; have := O5.out; have := O6.out; have := O7.out; have := O8.out; have := O9.out; have := O10.out; have := O11.out; have := O12.out; have := O13.out; simp <;> omega)
  clear RG
  have RG := RGn
  clear RGn
  clear VC
  have O14 : Hid (w7.heap.size ≤ V7.heap.size) := hset.size
  have VC : Hid (Blk V7 (w.heap.size + 1) 29 #[.int .i64 x1, .string x2, .string x7, .int .i64 x4, .int .i64 x5, .string ⟨#[]⟩, .bool false, .int .i64 0, .int .i64 0, .slice none 0 0, .slice none 0 0, .slice none 0 0, .string ⟨#[]⟩]) := hVC
  clear hVC hset hV7
  refine (rbytes_any w0 V7 g (m + 1) v7 r7 HB0.out KG.out.1 RG.out (by have := GW.out; have := O1.out; have := O2.out; have := O3.out; have := O4.out; have := O5.out; have := O6.out; have := O7.out; have := O8.out; have := O9.out; have := O10.out; have := O11.out; have := O12.out; have := O13.out; have := O14.out; omega) KG.out.2.1).mono ?_
  rintro e w8 ⟨ho, ⟨hn, rfl⟩ | ⟨x8, r8, v8, hn, rfl, hkr, hB⟩⟩
  · have HF : Hid (Out [g] w w8 ∧ oB = none) := by
      refine ⟨HO.out.trans ho, ?_⟩
      rw [← HP.out]
      have N8 : Hid (txtP 4 r7 = none) := hn
      simp only [bodyP, N1.out, N2.out, N3.out, N4.out, N5.out, N6.out, N7.out, N8.out, Option.bind_some, Option.bind_none]
    clear hn ho
    unfold misfit
    go_wp2_with fail
    exact ⟨rfl, HF.out.1, .inl ⟨HF.out.2, rfl⟩⟩
  have N8 : Hid (txtP 4 r7 = some (x8, r8)) := hn
  have HB0n : Hid (Below w0.heap.size w0 w8) := below_out HB0.out ho (by have := GW.out; have := O1.out; have := O2.out; have := O3.out; have := O4.out; have := O5.out; have := O6.out; have := O7.out; have := O8.out; have := O9.out; have := O10.out; have := O11.out; have := O12.out; have := O13.out; have := O14.out; omega)
  clear HB0
  have HB0 := HB0n
  clear HB0n
  have HOn : Hid (Out [g] w w8) := HO.out.trans ho
  clear HO
  have HO := HOn
  clear HOn
  have VRn : Hid (Blk w8 w.heap.size 29 #[.int .i64 0, .string ⟨#[]⟩, .string ⟨#[]⟩, .int .i64 0, .int .i64 0, .string ⟨#[]⟩, .bool false, .int .i64 0, .int .i64 0, .slice none 0 0, .slice none 0 0, .slice none 0 0, .string ⟨#[]⟩]) := VR.out.outX ho (by have := GW.out; have := O1.out; have := O2.out; have := O3.out; have := O4.out; have := O5.out; have := O6.out; have := O7.out; have := O8.out; have := O9.out; have := O10.out; have := O11.out; have := O12.out; have := O13.out; have := O14.out; simp <;> omega)
  clear VR
  have VR := VRn
  clear VRn
  have VCn : Hid (Blk w8 (w.heap.size + 1) 29 #[.int .i64 x1, .string x2, .string x7, .int .i64 x4, .int .i64 x5, .string ⟨#[]⟩, .bool false, .int .i64 0, .int .i64 0, .slice none 0 0, .slice none 0 0, .slice none 0 0, .string ⟨#[]⟩]) := VC.out.outX ho (by have := GW.out; have := O1.out; have := O2.out; have := O3.out; have := O4.out; have := O5.out; have := O6.out; have := O7.out; have := O8.out; have := O9.out; have := O10.out; have := O11.out; have := O12.out; have := O13.out; have := O14.out; simp <;> omega)
  clear VC
  have VC := VCn
  clear VCn
  clear RG
  have O15 : Hid (V7.heap.size ≤ w8.heap.size) := ho.size
  have RG : Hid (Blk w8 g 139 #[v8]) := hB
  have KGn : Hid (KcAt w0 (m + 2) v8 r8 ∧ SzL r8) := ⟨hkr, KG.out.2.txt hn⟩
  clear KG
  have KG := KGn
  clear KGn hn ho hkr hB
  have cc : w8.cell? ⟨w.heap.size + 1, 5, none⟩ = some (.string ⟨#[]⟩) := VC.out.cell 5
  have cf := VC.out.free 5
  go_wp2_with fail
  clear cc cf
  obtain ⟨V8, hV8⟩ : ∃ V, V = w8.setCell ⟨w.heap.size + 1, 5, none⟩ (.string x8) := ⟨_, rfl⟩
  rw [← hV8]
  have hset : Out [w.heap.size + 1] w8 V8 := by rw [hV8]; exact out_set _ _ _
  have hVC : Blk V8 (w.heap.size + 1) 29 #[.int .i64 x1, .string x2, .string x7, .int .i64 x4, .int .i64 x5, .string x8, .bool false, .int .i64 0, .int .i64 0, .slice none 0 0, .slice none 0 0, .slice none 0 0, .string ⟨#[]⟩] := by rw [hV8]; exact VC.out.set 5 _
  have HB0n : Hid (Below w0.heap.size w0 V8) := below_out HB0.out hset (by have := GW.out; have := O1.out; have := O2.out; have := O3.out; have := O4.out; have := O5.out; have := O6.out; have := O7.out; have := O8.out; have := O9.out; have := O10.out; have := O11.out; have := O12.out; have := O13.out; have := O14.out; have := O15.out; omega)
  clear HB0
  have HB0 := HB0n
  clear HB0n
  have HOn : Hid (Out [g] w V8) := HO.out.aside hset (by have := GW.out; have := O1.out; have := O2.out; have := O3.out; have := O4.out; have := O5.out; have := O6.out; have := O7.out; have := O8.out; have := O9.out; have := O10.out; have := O11.out; have := O12.out; have := O13.out; have := O14.out; have := O15.out; omega)
  clear HO
  have HO := HOn
  clear HOn
  have VRn : Hid (Blk V8 w.heap.size 29 #[.int .i64 0, .string ⟨#[]⟩, .string ⟨#[]⟩, .int .i64 0, .int .i64 0, .string ⟨#[]⟩, .bool false, .int .i64 0, .int .i64 0, .slice none 0 0, .slice none 0 0, .slice none 0 0, .string ⟨#[]⟩]) := VR.out.outX hset (by have := GW.out; have := O1.out; have := O2.out; have := O3.out; have := O4.out; have := O5.out; have := O6.out; have := O7.out; have := O8.out; have := O9.out; have := O10.out; have := O11.out; have := O12.out; have := O13.out; have := O14.out; have := O15.out; simp <;> omega)
  clear VR
  have VR := VRn
  clear VRn
  have RGn : Hid (Blk V8 g 139 #[v8]) := RG.out.outX hset (by have := GW.out; have := O1.out; have := O2.out; have := O3.out; have := O4.out; have := O5.out; have := O6.out; have := O7.out; have := O8.out; have := O9.out; have := O10.out; have := O11.out; have := O12.out; have := O13.out; have := O14.out; have := O15.out; simp <;> omega)
  clear RG
  have RG := RGn
  clear RGn
  clear VC
  have O16 : Hid (w8.heap.size ≤ V8.heap.size) := hset.size
  have VC : Hid (Blk V8 (w.heap.size + 1) 29 #[.int .i64 x1, .string x2, .string x7, .int .i64 x4, .int .i64 x5, .string x8, .bool false, .int .i64 0, .int .i64 0, .slice none 0 0, .slice none 0 0, .slice none 0 0, .string ⟨#[]⟩]) := hVC
  clear hVC hset hV8
  refine (rflag_any w0 V8 g (m + 1) v8 r8 HB0.out KG.out.1 RG.out (by have := GW.out; have := O1.out; have := O2.out; have := O3.out; have := O4.out; have := O5.out; have := O6.out; have := O7.out; have := O8.out; have := O9.out; have := O10.out; have := O11.out; have := O12.out; have := O13.out; have := O14.out; have := O15.out; have := O16.out; omega) KG.out.2.1).mono ?_
  rintro e w9 ⟨ho, ⟨hn, rfl⟩ | ⟨x9, r9, v9, hn, rfl, hkr, hB⟩⟩
  · have HF : Hid (Out [g] w w9 ∧ oB = none) := by
      refine ⟨HO.out.trans ho, ?_⟩
      rw [← HP.out]
      have N9 : Hid (flgP r8 = none) := hn
      simp only [bodyP, N1.out, N2.out, N3.out, N4.out, N5.out, N6.out, N7.out, N8.out, N9.out, Option.bind_some, Option.bind_none]
    clear hn ho
    unfold misfit
    go_wp2_with fail
    exact ⟨rfl, HF.out.1, .inl ⟨HF.out.2, rfl⟩⟩
  have N9 : Hid (flgP r8 = some (x9, r9)) := hn
  have HB0n : Hid (Below w0.heap.size w0 w9) := below_out HB0.out ho (by have := GW.out; have := O1.out; have := O2.out; have := O3.out; have := O4.out; have := O5.out; have := O6.out; have := O7.out; have := O8.out; have := O9.out; have := O10.out; have := O11.out; have := O12.out; have := O13.out; have := O14.out; have := O15.out; have := O16.out; omega)
  clear HB0
  have HB0 := HB0n
  clear HB0n
  have HOn : Hid (Out [g] w w9) := HO.out.trans ho
  clear HO
  have HO := HOn
  clear HOn
  have VRn : Hid (Blk w9 w.heap.size 29 #[.int .i64 0, .string ⟨#[]⟩, .string ⟨#[]⟩, .int .i64 0, .int .i64 0, .string ⟨#[]⟩, .bool false, .int .i64 0, .int .i64 0, .slice none 0 0, .slice none 0 0, .slice none 0 0, .string ⟨#[]⟩]) := VR.out.outX ho (by have := GW.out; have := O1.out; have := O2.out; have := O3.out; have := O4.out; have := O5.out; have := O6.out; have := O7.out; have := O8.out; have := O9.out; have := O10.out; have := O11.out; have := O12.out; have := O13.out; have := O14.out; have := O15.out; have := O16.out; simp <;> omega)
  clear VR
  have VR := VRn
  clear VRn
  have VCn : Hid (Blk w9 (w.heap.size + 1) 29 #[.int .i64 x1, .string x2, .string x7, .int .i64 x4, .int .i64 x5, .string x8, .bool false, .int .i64 0, .int .i64 0, .slice none 0 0, .slice none 0 0, .slice none 0 0, .string ⟨#[]⟩]) := VC.out.outX ho (by have := GW.out; have := O1.out; have := O2.out; have := O3.out; have := O4.out; have := O5.out; have := O6.out; have := O7.out; have := O8.out; have := O9.out; have := O10.out; have := O11.out; have := O12.out; have := O13.out; have := O14.out; have := O15.out; have := O16.out; simp <;> omega)
  clear VC
  have VC := VCn
  clear VCn
  clear RG
  have O17 : Hid (V8.heap.size ≤ w9.heap.size) := ho.size
  have RG : Hid (Blk w9 g 139 #[v9]) := hB
  have KGn : Hid (KcAt w0 (m + 2) v9 r9 ∧ SzL r9) := ⟨hkr, KG.out.2.flg hn⟩
  clear KG
  have KG := KGn
  clear KGn hn ho hkr hB
  have cc : w9.cell? ⟨w.heap.size + 1, 6, none⟩ = some (.bool false) := VC.out.cell 6
  have cf := VC.out.free 6
  go_wp2_with fail
  clear cc cf
  obtain ⟨V9, hV9⟩ : ∃ V, V = w9.setCell ⟨w.heap.size + 1, 6, none⟩ (.bool x9) := ⟨_, rfl⟩
  rw [← hV9]
  have hset : Out [w.heap.size + 1] w9 V9 := by rw [hV9]; exact out_set _ _ _
  have hVC : Blk V9 (w.heap.size + 1) 29 #[.int .i64 x1, .string x2, .string x7, .int .i64 x4, .int .i64 x5, .string x8, .bool x9, .int .i64 0, .int .i64 0, .slice none 0 0, .slice none 0 0, .slice none 0 0, .string ⟨#[]⟩] := by rw [hV9]; exact VC.out.set 6 _
  have HB0n : Hid (Below w0.heap.size w0 V9) := below_out HB0.out hset (by have := GW.out; have := O1.out; have := O2.out; have := O3.out; have := O4.out; have := O5.out; have := O6.out; have := O7.out; have := O8.out; have := O9.out; have := O10.out; have := O11.out; have := O12.out; have := O13.out; have := O14.out; have := O15.out; have := O16.out; have := O17.out; omega)
  clear HB0
  have HB0 := HB0n
  clear HB0n
  have HOn : Hid (Out [g] w V9) := HO.out.aside hset (by have := GW.out; have := O1.out; have := O2.out; have := O3.out; have := O4.out; have := O5.out; have := O6.out; have := O7.out; have := O8.out; have := O9.out; have := O10.out; have := O11.out; have := O12.out; have := O13.out; have := O14.out; have := O15.out; have := O16.out; have := O17.out; omega)
  clear HO
  have HO := HOn
  clear HOn
  have VRn : Hid (Blk V9 w.heap.size 29 #[.int .i64 0, .string ⟨#[]⟩, .string ⟨#[]⟩, .int .i64 0, .int .i64 0, .string ⟨#[]⟩, .bool false, .int .i64 0, .int .i64 0, .slice none 0 0, .slice none 0 0, .slice none 0 0, .string ⟨#[]⟩]) := VR.out.outX hset (by have := GW.out; have := O1.out; have := O2.out; have := O3.out; have := O4.out; have := O5.out; have := O6.out; have := O7.out; have := O8.out; have := O9.out; have := O10.out; have := O11.out; have := O12.out; have := O13.out; have := O14.out; have := O15.out; have := O16.out; have := O17.out; simp <;> omega)
  clear VR
  have VR := VRn
  clear VRn
  have RGn : Hid (Blk V9 g 139 #[v9]) := RG.out.outX hset (by have := GW.out; have := O1.out; have := O2.out; have := O3.out; have := O4.out; have := O5.out; have := O6.out; have := O7.out; have := O8.out; have := O9.out; have := O10.out; have := O11.out; have := O12.out; have := O13.out; have := O14.out; have := O15.out; have := O16.out; have := O17.out; simp <;> omega)
  clear RG
  have RG := RGn
  clear RGn
  clear VC
  have O18 : Hid (w9.heap.size ≤ V9.heap.size) := hset.size
  have VC : Hid (Blk V9 (w.heap.size + 1) 29 #[.int .i64 x1, .string x2, .string x7, .int .i64 x4, .int .i64 x5, .string x8, .bool x9, .int .i64 0, .int .i64 0, .slice none 0 0, .slice none 0 0, .slice none 0 0, .string ⟨#[]⟩]) := hVC
  clear hVC hset hV9
  refine (number_any w0 V9 g (m + 1) v9 r9 HB0.out KG.out.1 RG.out (by have := GW.out; have := O1.out; have := O2.out; have := O3.out; have := O4.out; have := O5.out; have := O6.out; have := O7.out; have := O8.out; have := O9.out; have := O10.out; have := O11.out; have := O12.out; have := O13.out; have := O14.out; have := O15.out; have := O16.out; have := O17.out; have := O18.out; omega) KG.out.2.1 (fun y hy => Nat.le_trans (KG.out.2.2 y hy) (by decide))).mono ?_
  rintro e w10 ⟨ho, ⟨hn, rfl⟩ | ⟨x10, r10, v10, hn, rfl, hkr, hB⟩⟩
  · have HF : Hid (Out [g] w w10 ∧ oB = none) := by
      refine ⟨HO.out.trans ho, ?_⟩
      rw [← HP.out]
      have N10 : Hid (numP r9 = none) := hn
      simp only [bodyP, N1.out, N2.out, N3.out, N4.out, N5.out, N6.out, N7.out, N8.out, N9.out, N10.out, Option.bind_some, Option.bind_none]
    clear hn ho
    unfold misfit
    go_wp2_with fail
    exact ⟨rfl, HF.out.1, .inl ⟨HF.out.2, rfl⟩⟩
  have N10 : Hid (numP r9 = some (x10, r10)) := hn
  have HB0n : Hid (Below w0.heap.size w0 w10) := below_out HB0.out ho (by have := GW.out; have := O1.out; have := O2.out; have := O3.out; have := O4.out; have := O5.out; have := O6.out; have := O7.out; have := O8.out; have := O9.out; have := O10.out; have := O11.out; have := O12.out; have := O13.out; have := O14.out; have := O15.out; have := O16.out; have := O17.out; have := O18.out; omega)
  clear HB0
  have HB0 := HB0n
  clear HB0n
  have HOn : Hid (Out [g] w w10) := HO.out.trans ho
  clear HO
  have HO := HOn
  clear HOn
  have VRn : Hid (Blk w10 w.heap.size 29 #[.int .i64 0, .string ⟨#[]⟩, .string ⟨#[]⟩, .int .i64 0, .int .i64 0, .string ⟨#[]⟩, .bool false, .int .i64 0, .int .i64 0, .slice none 0 0, .slice none 0 0, .slice none 0 0, .string ⟨#[]⟩]) := VR.out.outX ho (by have := GW.out; have := O1.out; have := O2.out; have := O3.out; have := O4.out; have := O5.out; have := O6.out; have := O7.out; have := O8.out; have := O9.out; have := O10.out; have := O11.out; have := O12.out; have := O13.out; have := O14.out; have := O15.out; have := O16.out; have := O17.out; have := O18.out; simp <;> omega)
  clear VR
  have VR := VRn
  clear VRn
  have VCn : Hid (Blk w10 (w.heap.size + 1) 29 #[.int .i64 x1, .string x2, .string x7, .int .i64 x4, .int .i64 x5, .string x8, .bool x9, .int .i64 0, .int .i64 0, .slice none 0 0, .slice none 0 0, .slice none 0 0, .string ⟨#[]⟩]) := VC.out.outX ho (by have := GW.out; have := O1.out; have := O2.out; have := O3.out; have := O4.out; have := O5.out; have := O6.out; have := O7.out; have := O8.out; have := O9.out; have := O10.out; have := O11.out; have := O12.out; have := O13.out; have := O14.out; have := O15.out; have := O16.out; have := O17.out; have := O18.out; simp <;> omega)
  clear VC
  have VC := VCn
  clear VCn
  clear RG
  have O19 : Hid (V9.heap.size ≤ w10.heap.size) := ho.size
  have RG : Hid (Blk w10 g 139 #[v10]) := hB
  have KGn : Hid (KcAt w0 (m + 2) v10 r10 ∧ SzL r10) := ⟨hkr, KG.out.2.num hn⟩
  clear KG
  have KG := KGn
  clear KGn hn ho hkr hB
  have cc : w10.cell? ⟨w.heap.size + 1, 7, none⟩ = some (.int .i64 0) := VC.out.cell 7
  have cf := VC.out.free 7
  go_wp2_with fail
  clear cc cf
  obtain ⟨V10, hV10⟩ : ∃ V, V = w10.setCell ⟨w.heap.size + 1, 7, none⟩ (.int .i64 x10) := ⟨_, rfl⟩
  rw [← hV10]
  have hset : Out [w.heap.size + 1] w10 V10 := by rw [hV10]; exact out_set _ _ _
  have hVC : Blk V10 (w.heap.size + 1) 29 #[.int .i64 x1, .string x2, .string x7, .int .i64 x4, .int .i64 x5, .string x8, .bool x9, .int .i64 x10, .int .i64 0, .slice none 0 0, .slice none 0 0, .slice none 0 0, .string ⟨#[]⟩] := by rw [hV10]; exact VC.out.set 7 _
  have HB0n : Hid (Below w0.heap.size w0 V10) := below_out HB0.out hset (by have := GW.out; have := O1.out; have := O2.out; have := O3.out; have := O4.out; have := O5.out; have := O6.out; have := O7.out; have := O8.out; have := O9.out; have := O10.out; have := O11.out; have := O12.out; have := O13.out; have := O14.out; have := O15.out; have := O16.out; have := O17.out; have := O18.out; have := O19.out; omega)
  clear HB0
  have HB0 := HB0n
  clear HB0n
  have HOn : Hid (Out [g] w V10) := HO.out.aside hset (by have := GW.out; have := O1.out; have := O2.out; have := O3.out; have := O4.out; have := O5.out; have := O6.out; have := O7.out; have := O8.out; have := O9.out; have := O10.out; have := O11.out; have := O12.out; have := O13.out; have := O14.out; have := O15.out; have := O16.out; have := O17.out; have := O18.out; have := O19.out; omega)
  clear HO
  have HO := HOn
  clear HOn
  have VRn : Hid (Blk V10 w.heap.size 29 #[.int .i64 0, .string ⟨#[]⟩, .string ⟨#[]⟩, .int .i64 0, .int .i64 0, .string ⟨#[]⟩, .bool false, .int .i64 0, .int .i64 0, .slice none 0 0, .slice none 0 0, .slice none 0 0, .string ⟨#[]⟩]) := VR.out.outX hset (by have := GW.out; have := O1.out; have := O2.out; have := O3.out; have := O4.out; have := O5.out; have := O6.out; have := O7.out; have := O8.out; have := O9.out; have := O10.out; have := O11.out; have := O12.out; have := O13.out; have := O14.out; have := O15.out; have := O16.out; have := O17.out; have := O18.out; have := O19.out; simp <;> omega)
  clear VR
  have VR := VRn
  clear VRn
  have RGn : Hid (Blk V10 g 139 #[v10]) := RG.out.outX hset (by have := GW.out; have := O1.out; have := O2.out; have := O3.out; have := O4.out; have := O5.out; have := O6.out; have := O7.out; have := O8.out; have := O9.out; have := O10.out; have := O11.out; have := O12.out; have := O13.out; have := O14.out; have := O15.out; have := O16.out; have := O17.out; have := O18.out; have := O19.out; simp <;> omega)
  clear RG
  have RG := RGn
  clear RGn
  clear VC
  have O20 : Hid (w10.heap.size ≤ V10.heap.size) := hset.size
  have VC : Hid (Blk V10 (w.heap.size + 1) 29 #[.int .i64 x1, .string x2, .string x7, .int .i64 x4, .int .i64 x5, .string x8, .bool x9, .int .i64 x10, .int .i64 0, .slice none 0 0, .slice none 0 0, .slice none 0 0, .string ⟨#[]⟩]) := hVC
  clear hVC hset hV10
  refine (number_any w0 V10 g (m + 1) v10 r10 HB0.out KG.out.1 RG.out (by have := GW.out; have := O1.out; have := O2.out; have := O3.out; have := O4.out; have := O5.out; have := O6.out; have := O7.out; have := O8.out; have := O9.out; have := O10.out; have := O11.out; have := O12.out; have := O13.out; have := O14.out; have := O15.out; have := O16.out; have := O17.out; have := O18.out; have := O19.out; have := O20.out; omega) KG.out.2.1 (fun y hy => Nat.le_trans (KG.out.2.2 y hy) (by decide))).mono ?_
  rintro e w11 ⟨ho, ⟨hn, rfl⟩ | ⟨x11, r11, v11, hn, rfl, hkr, hB⟩⟩
  · have HF : Hid (Out [g] w w11 ∧ oB = none) := by
      refine ⟨HO.out.trans ho, ?_⟩
      rw [← HP.out]
      have N11 : Hid (numP r10 = none) := hn
      simp only [bodyP, N1.out, N2.out, N3.out, N4.out, N5.out, N6.out, N7.out, N8.out, N9.out, N10.out, N11.out, Option.bind_some, Option.bind_none]
    clear hn ho
    unfold misfit
    go_wp2_with fail
    exact ⟨rfl, HF.out.1, .inl ⟨HF.out.2, rfl⟩⟩
  have N11 : Hid (numP r10 = some (x11, r11)) := hn
  have HB0n : Hid (Below w0.heap.size w0 w11) := below_out HB0.out ho (by have := GW.out; have := O1.out; have := O2.out; have := O3.out; have := O4.out; have := O5.out; have := O6.out; have := O7.out; have := O8.out; have := O9.out; have := O10.out; have := O11.out; have := O12.out; have := O13.out; have := O14.out; have := O15.out; have := O16.out; have := O17.out; have := O18.out; have := O19.out; have := O20.out; omega)
  clear HB0
  have HB0 := HB0n
  clear HB0n
  have HOn : Hid (Out [g] w w11) := HO.out.trans ho
  clear HO
  have HO := HOn
  clear HOn
  have VRn : Hid (Blk w11 w.heap.size 29 #[.int .i64 0, .string ⟨#[]⟩, .string ⟨#[]⟩, .int .i64 0, .int .i64 0, .string ⟨#[]⟩, .bool false, .int .i64 0, .int .i64 0, .slice none 0 0, .slice none 0 0, .slice none 0 0, .string ⟨#[]⟩]) := VR.out.outX ho (by have := GW.out; have := O1.out; have := O2.out; have := O3.out; have := O4.out; have := O5.out; have := O6.out; have := O7.out; have := O8.out; have := O9.out; have := O10.out; have := O11.out; have := O12.out; have := O13.out; have := O14.out; have := O15.out; have := O16.out; have := O17.out; have := O18.out; have := O19.out; have := O20.out; simp <;> omega)
  clear VR
  have VR := VRn
  clear VRn
  have VCn : Hid (Blk w11 (w.heap.size + 1) 29 #[.int .i64 x1, .string x2, .string x7, .int .i64 x4, .int .i64 x5, .string x8, .bool x9, .int .i64 x10, .int .i64 0, .slice none 0 0, .slice none 0 0, .slice none 0 0, .string ⟨#[]⟩]) := VC.out.outX ho (by have := GW.out; have := O1.out; have := O2.out; have := O3.out; have := O4.out; have := O5.out; have := O6.out; have := O7.out; have := O8.out; have := O9.out; have := O10.out; have := O11.out; have := O12.out; have := O13.out; have := O14.out; have := O15.out; have := O16.out; have := O17.out; have := O18.out; have := O19.out; have := O20.out; simp <;> omega)
  clear VC
  have VC := VCn
  clear VCn
  clear RG
  have O21 : Hid (V10.heap.size ≤ w11.heap.size) := ho.size
  have RG : Hid (Blk w11 g 139 #[v11]) := hB
  have KGn : Hid (KcAt w0 (m + 2) v11 r11 ∧ SzL r11) := ⟨hkr, KG.out.2.num hn⟩
  clear KG
  have KG := KGn
  clear KGn hn ho hkr hB
  have cc : w11.cell? ⟨w.heap.size + 1, 8, none⟩ = some (.int .i64 0) := VC.out.cell 8
  have cf := VC.out.free 8
  go_wp2_with fail
  clear cc cf
  obtain ⟨V11, hV11⟩ : ∃ V, V = w11.setCell ⟨w.heap.size + 1, 8, none⟩ (.int .i64 x11) := ⟨_, rfl⟩
  rw [← hV11]
  have hset : Out [w.heap.size + 1] w11 V11 := by rw [hV11]; exact out_set _ _ _
  have hVC : Blk V11 (w.heap.size + 1) 29 #[.int .i64 x1, .string x2, .string x7, .int .i64 x4, .int .i64 x5, .string x8, .bool x9, .int .i64 x10, .int .i64 x11, .slice none 0 0, .slice none 0 0, .slice none 0 0, .string ⟨#[]⟩] := by rw [hV11]; exact VC.out.set 8 _
  have HB0n : Hid (Below w0.heap.size w0 V11) := below_out HB0.out hset (by have := GW.out; have := O1.out; have := O2.out; have := O3.out; have := O4.out; have := O5.out; have := O6.out; have := O7.out; have := O8.out; have := O9.out; have := O10.out; have := O11.out; have := O12.out; have := O13.out; have := O14.out; have := O15.out; have := O16.out; have := O17.out; have := O18.out; have := O19.out; have := O20.out; have := O21.out; omega)
  clear HB0
  have HB0 := HB0n
  clear HB0n
  have HOn : Hid (Out [g] w V11) := HO.out.aside hset (by have := GW.out; have := O1.out; have := O2.out; have := O3.out; have := O4.out; have := O5.out; have := O6.out; have := O7.out; have := O8.out; have := O9.out; have := O10.out; have := O11.out; have := O12.out; have := O13.out; have := O14.out; have := O15.out; have := O16.out; have := O17.out; have := O18.out; have := O19.out; have := O20.out; have := O21.out; omega)
  clear HO
  have HO := HOn
  clear HOn
  have VRn : Hid (Blk V11 w.heap.size 29 #[.int .i64 0, .string ⟨#[]⟩, .string ⟨#[]⟩, .int .i64 0, .int .i64 0, .string ⟨#[]⟩, .bool false, .int .i64 0, .int .i64 0, .slice none 0 0, .slice none 0 0, .slice none 0 0, .string ⟨#[]⟩]) := VR.out.outX hset (by have := GW.out; have := O1.out; have := O2.out; have := O3.out; have := O4.out; have := O5.out; have := O6.out; have := O7.out; have := O8.out; have := O9.out; have := O10.out; have := O11.out; have := O12.out; have := O13.out; have := O14.out; have := O15.out; have := O16.out; have := O17.out; have := O18.out; have := O19.out; have := O20.out; have := O21.out; simp <;> omega)
  clear VR
  have VR := VRn
  clear VRn
  have RGn : Hid (Blk V11 g 139 #[v11]) := RG.out.outX hset (by have := GW.out; have := O1.out; have := O2.out; have := O3.out; have := O4.out; have := O5.out; have := O6.out; have := O7.out; have := O8.out; have := O9.out; have := O10.out; have := O11.out; have := O12.out; have := O13.out; have := O14.out; have := O15.out; have := O16.out; have := O17.out; have := O18.out; have := O19.out; have := O20.out; have := O21.out; simp <;> omega)
  clear RG
  have RG := RGn
  clear RGn
  clear VC
  have O22 : Hid (w11.heap.size ≤ V11.heap.size) := hset.size
  have VC : Hid (Blk V11 (w.heap.size + 1) 29 #[.int .i64 x1, .string x2, .string x7, .int .i64 x4, .int .i64 x5, .string x8, .bool x9, .int .i64 x10, .int .i64 x11, .slice none 0 0, .slice none 0 0, .slice none 0 0, .string ⟨#[]⟩]) := hVC
  clear hVC hset hV11
  refine (numbers_any w0 V11 g m v11 r11 HB0.out KG.out.1 RG.out (by have := GW.out; have := O1.out; have := O2.out; have := O3.out; have := O4.out; have := O5.out; have := O6.out; have := O7.out; have := O8.out; have := O9.out; have := O10.out; have := O11.out; have := O12.out; have := O13.out; have := O14.out; have := O15.out; have := O16.out; have := O17.out; have := O18.out; have := O19.out; have := O20.out; have := O21.out; have := O22.out; omega) KG.out.2.1 KG.out.2.2).mono ?_
  rintro e w12 ⟨ho, ⟨hn, rfl⟩ | ⟨x12, r12, v12, u12, hn, rfl, hown, hkr, hB⟩⟩
  · have HF : Hid (Out [g] w w12 ∧ oB = none) := by
      refine ⟨HO.out.trans ho, ?_⟩
      rw [← HP.out]
      have N12 : Hid (numsL r11 = none) := hn
      simp only [bodyP, N1.out, N2.out, N3.out, N4.out, N5.out, N6.out, N7.out, N8.out, N9.out, N10.out, N11.out, N12.out, Option.bind_some, Option.bind_none]
    clear hn ho
    unfold misfit
    go_wp2_with fail
    exact ⟨rfl, HF.out.1, .inl ⟨HF.out.2, rfl⟩⟩
  have N12 : Hid (numsL r11 = some (x12, r12)) := hn
  have HB0n : Hid (Below w0.heap.size w0 w12) := below_out HB0.out ho (by have := GW.out; have := O1.out; have := O2.out; have := O3.out; have := O4.out; have := O5.out; have := O6.out; have := O7.out; have := O8.out; have := O9.out; have := O10.out; have := O11.out; have := O12.out; have := O13.out; have := O14.out; have := O15.out; have := O16.out; have := O17.out; have := O18.out; have := O19.out; have := O20.out; have := O21.out; have := O22.out; omega)
  clear HB0
  have HB0 := HB0n
  clear HB0n
  have HOn : Hid (Out [g] w w12) := HO.out.trans ho
  clear HO
  have HO := HOn
  clear HOn
  have VRn : Hid (Blk w12 w.heap.size 29 #[.int .i64 0, .string ⟨#[]⟩, .string ⟨#[]⟩, .int .i64 0, .int .i64 0, .string ⟨#[]⟩, .bool false, .int .i64 0, .int .i64 0, .slice none 0 0, .slice none 0 0, .slice none 0 0, .string ⟨#[]⟩]) := VR.out.outX ho (by have := GW.out; have := O1.out; have := O2.out; have := O3.out; have := O4.out; have := O5.out; have := O6.out; have := O7.out; have := O8.out; have := O9.out; have := O10.out; have := O11.out; have := O12.out; have := O13.out; have := O14.out; have := O15.out; have := O16.out; have := O17.out; have := O18.out; have := O19.out; have := O20.out; have := O21.out; have := O22.out; simp <;> omega)
  clear VR
  have VR := VRn
  clear VRn
  have VCn : Hid (Blk w12 (w.heap.size + 1) 29 #[.int .i64 x1, .string x2, .string x7, .int .i64 x4, .int .i64 x5, .string x8, .bool x9, .int .i64 x10, .int .i64 x11, .slice none 0 0, .slice none 0 0, .slice none 0 0, .string ⟨#[]⟩]) := VC.out.outX ho (by have := GW.out; have := O1.out; have := O2.out; have := O3.out; have := O4.out; have := O5.out; have := O6.out; have := O7.out; have := O8.out; have := O9.out; have := O10.out; have := O11.out; have := O12.out; have := O13.out; have := O14.out; have := O15.out; have := O16.out; have := O17.out; have := O18.out; have := O19.out; have := O20.out; have := O21.out; have := O22.out; simp <;> omega)
  clear VC
  have VC := VCn
  clear VCn
  clear RG
  have O23 : Hid (V11.heap.size ≤ w12.heap.size) := ho.size
  have RG : Hid (Blk w12 g 139 #[v12]) := hB
  have KGn : Hid (KcAt w0 (m + 2) v12 r12 ∧ SzL r12) := ⟨hkr, KG.out.2.nums hn⟩
  clear KG
  have KG := KGn
  clear KGn hn ho hkr hB
  obtain ⟨pa12, pc12, hu12⟩ : ∃ ao cap, u12 = .slice ao x12.length cap := by obtain ⟨ao, cap, h, _⟩ := hown.at; exact ⟨ao, cap, h⟩
  subst hu12
  have BLP : Hid (∀ b, (Value.slice pa12 x12.length pc12).ownBlock = some b → V11.heap.size ≤ b ∧ b < w12.heap.size) := fun b hb => World.ownsRow.lt hown b hb
  have LP : Hid (OwnI w12 V11.heap.size (.slice pa12 x12.length pc12) x12) := hown
  clear hown
  have cc : w12.cell? ⟨w.heap.size + 1, 9, none⟩ = some (.slice none 0 0) := VC.out.cell 9
  have cf := VC.out.free 9
  go_wp2_with fail
  clear cc cf
  obtain ⟨V12, hV12⟩ : ∃ V, V = w12.setCell ⟨w.heap.size + 1, 9, none⟩ (.slice pa12 x12.length pc12) := ⟨_, rfl⟩
  rw [← hV12]
  have hset : Out [w.heap.size + 1] w12 V12 := by rw [hV12]; exact out_set _ _ _
  have hVC : Blk V12 (w.heap.size + 1) 29 #[.int .i64 x1, .string x2, .string x7, .int .i64 x4, .int .i64 x5, .string x8, .bool x9, .int .i64 x10, .int .i64 x11, .slice pa12 x12.length pc12, .slice none 0 0, .slice none 0 0, .string ⟨#[]⟩] := by rw [hV12]; exact VC.out.set 9 _
  have HB0n : Hid (Below w0.heap.size w0 V12) := below_out HB0.out hset (by have := GW.out; have := O1.out; have := O2.out; have := O3.out; have := O4.out; have := O5.out; have := O6.out; have := O7.out; have := O8.out; have := O9.out; have := O10.out; have := O11.out; have := O12.out; have := O13.out; have := O14.out; have := O15.out; have := O16.out; have := O17.out; have := O18.out; have := O19.out; have := O20.out; have := O21.out; have := O22.out; have := O23.out; omega)
  clear HB0
  have HB0 := HB0n
  clear HB0n
  have HOn : Hid (Out [g] w V12) := HO.out.aside hset (by have := GW.out; have := O1.out; have := O2.out; have := O3.out; have := O4.out; have := O5.out; have := O6.out; have := O7.out; have := O8.out; have := O9.out; have := O10.out; have := O11.out; have := O12.out; have := O13.out; have := O14.out; have := O15.out; have := O16.out; have := O17.out; have := O18.out; have := O19.out; have := O20.out; have := O21.out; have := O22.out; have := O23.out; omega)
  clear HO
  have HO := HOn
  clear HOn
  have VRn : Hid (Blk V12 w.heap.size 29 #[.int .i64 0, .string ⟨#[]⟩, .string ⟨#[]⟩, .int .i64 0, .int .i64 0, .string ⟨#[]⟩, .bool false, .int .i64 0, .int .i64 0, .slice none 0 0, .slice none 0 0, .slice none 0 0, .string ⟨#[]⟩]) := VR.out.outX hset (by have := GW.out; have := O1.out; have := O2.out; have := O3.out; have := O4.out; have := O5.out; have := O6.out; have := O7.out; have := O8.out; have := O9.out; have := O10.out; have := O11.out; have := O12.out; have := O13.out; have := O14.out; have := O15.out; have := O16.out; have := O17.out; have := O18.out; have := O19.out; have := O20.out; have := O21.out; have := O22.out; have := O23.out; simp <;> omega)
  clear VR
  have VR := VRn
  clear VRn
  have RGn : Hid (Blk V12 g 139 #[v12]) := RG.out.outX hset (by have := GW.out; have := O1.out; have := O2.out; have := O3.out; have := O4.out; have := O5.out; have := O6.out; have := O7.out; have := O8.out; have := O9.out; have := O10.out; have := O11.out; have := O12.out; have := O13.out; have := O14.out; have := O15.out; have := O16.out; have := O17.out; have := O18.out; have := O19.out; have := O20.out; have := O21.out; have := O22.out; have := O23.out; simp <;> omega)
  clear RG
  have RG := RGn
  clear RGn
  have LPn : Hid (OwnI V12 V11.heap.size (.slice pa12 x12.length pc12) x12) := Out.row hset (fun b hb => by have := BLP.out b hb; have := GW.out; have := O1.out; have := O2.out; have := O3.out; have := O4.out; have := O5.out; have := O6.out; have := O7.out; have := O8.out; have := O9.out; have := O10.out; have := O11.out; have := O12.out; have := O13.out; have := O14.out; have := O15.out; have := O16.out; have := O17.out; have := O18.out; have := O19.out; have := O20.out; have := O21.out; have := O22.out; have := O23.out; simp <;> omega) LP.out
  clear LP
  have LP := LPn
  clear LPn
  clear VC
  have O24 : Hid (w12.heap.size ≤ V12.heap.size) := hset.size
  have VC : Hid (Blk V12 (w.heap.size + 1) 29 #[.int .i64 x1, .string x2, .string x7, .int .i64 x4, .int .i64 x5, .string x8, .bool x9, .int .i64 x10, .int .i64 x11, .slice pa12 x12.length pc12, .slice none 0 0, .slice none 0 0, .string ⟨#[]⟩]) := hVC
  clear hVC hset hV12
  refine (rtexts_any w0 V12 g m v12 r12 HB0.out KG.out.1 RG.out (by have := GW.out; have := O1.out; have := O2.out; have := O3.out; have := O4.out; have := O5.out; have := O6.out; have := O7.out; have := O8.out; have := O9.out; have := O10.out; have := O11.out; have := O12.out; have := O13.out; have := O14.out; have := O15.out; have := O16.out; have := O17.out; have := O18.out; have := O19.out; have := O20.out; have := O21.out; have := O22.out; have := O23.out; have := O24.out; omega) KG.out.2.1 KG.out.2.2).mono ?_
  rintro e w13 ⟨ho, ⟨hn, rfl⟩ | ⟨x13, r13, v13, u13, hn, rfl, hown, hkr, hB⟩⟩
  · have HF : Hid (Out [g] w w13 ∧ oB = none) := by
      refine ⟨HO.out.trans ho, ?_⟩
      rw [← HP.out]
      have N13 : Hid (txtsL r12 = none) := hn
      simp only [bodyP, N1.out, N2.out, N3.out, N4.out, N5.out, N6.out, N7.out, N8.out, N9.out, N10.out, N11.out, N12.out, N13.out, Option.bind_some, Option.bind_none]
    clear hn ho
    unfold misfit
    go_wp2_with fail
    exact ⟨rfl, HF.out.1, .inl ⟨HF.out.2, rfl⟩⟩
  have N13 : Hid (txtsL r12 = some (x13, r13)) := hn
  have HB0n : Hid (Below w0.heap.size w0 w13) := below_out HB0.out ho (by have := GW.out; have := O1.out; have := O2.out; have := O3.out; have := O4.out; have := O5.out; have := O6.out; have := O7.out; have := O8.out; have := O9.out; have := O10.out; have := O11.out; have := O12.out; have := O13.out; have := O14.out; have := O15.out; have := O16.out; have := O17.out; have := O18.out; have := O19.out; have := O20.out; have := O21.out; have := O22.out; have := O23.out; have := O24.out; omega)
  clear HB0
  have HB0 := HB0n
  clear HB0n
  have HOn : Hid (Out [g] w w13) := HO.out.trans ho
  clear HO
  have HO := HOn
  clear HOn
  have VRn : Hid (Blk w13 w.heap.size 29 #[.int .i64 0, .string ⟨#[]⟩, .string ⟨#[]⟩, .int .i64 0, .int .i64 0, .string ⟨#[]⟩, .bool false, .int .i64 0, .int .i64 0, .slice none 0 0, .slice none 0 0, .slice none 0 0, .string ⟨#[]⟩]) := VR.out.outX ho (by have := GW.out; have := O1.out; have := O2.out; have := O3.out; have := O4.out; have := O5.out; have := O6.out; have := O7.out; have := O8.out; have := O9.out; have := O10.out; have := O11.out; have := O12.out; have := O13.out; have := O14.out; have := O15.out; have := O16.out; have := O17.out; have := O18.out; have := O19.out; have := O20.out; have := O21.out; have := O22.out; have := O23.out; have := O24.out; simp <;> omega)
  clear VR
  have VR := VRn
  clear VRn
  have LPn : Hid (OwnI w13 V11.heap.size (.slice pa12 x12.length pc12) x12) := Out.row ho (fun b hb => by have := BLP.out b hb; have := GW.out; have := O1.out; have := O2.out; have := O3.out; have := O4.out; have := O5.out; have := O6.out; have := O7.out; have := O8.out; have := O9.out; have := O10.out; have := O11.out; have := O12.out; have := O13.out; have := O14.out; have := O15.out; have := O16.out; have := O17.out; have := O18.out; have := O19.out; have := O20.out; have := O21.out; have := O22.out; have := O23.out; have := O24.out; simp <;> omega) LP.out
  clear LP
  have LP := LPn
  clear LPn
  have VCn : Hid (Blk w13 (w.heap.size + 1) 29 #[.int .i64 x1, .string x2, .string x7, .int .i64 x4, .int .i64 x5, .string x8, .bool x9, .int .i64 x10, .int .i64 x11, .slice pa12 x12.length pc12, .slice none 0 0, .slice none 0 0, .string ⟨#[]⟩]) := VC.out.outX ho (by have := GW.out; have := O1.out; have := O2.out; have := O3.out; have := O4.out; have := O5.out; have := O6.out; have := O7.out; have := O8.out; have := O9.out; have := O10.out; have := O11.out; have := O12.out; have := O13.out; have := O14.out; have := O15.out; have := O16.out; have := O17.out; have := O18.out; have := O19.out; have := O20.out; have := O21.out; have := O22.out; have := O23.out; have := O24.out; simp <;> omega)
  clear VC
  have VC := VCn
  clear VCn
  clear RG
  have O25 : Hid (V12.heap.size ≤ w13.heap.size) := ho.size
  have RG : Hid (Blk w13 g 139 #[v13]) := hB
  have KGn : Hid (KcAt w0 (m + 2) v13 r13 ∧ SzL r13) := ⟨hkr, KG.out.2.txts hn⟩
  clear KG
  have KG := KGn
  clear KGn hn ho hkr hB
  obtain ⟨pa13, pc13, hu13⟩ : ∃ ao cap, u13 = .slice ao x13.length cap := by obtain ⟨ao, cap, h, _⟩ := hown.at; exact ⟨ao, cap, h⟩
  subst hu13
  have BLE : Hid (∀ b, (Value.slice pa13 x13.length pc13).ownBlock = some b → V12.heap.size ≤ b ∧ b < w13.heap.size) := fun b hb => World.ownsRow.lt hown b hb
  have LE : Hid (OwnT w13 V12.heap.size (.slice pa13 x13.length pc13) x13) := hown
  clear hown
  have cc : w13.cell? ⟨w.heap.size + 1, 10, none⟩ = some (.slice none 0 0) := VC.out.cell 10
  have cf := VC.out.free 10
  go_wp2_with fail
  clear cc cf
  obtain ⟨V13, hV13⟩ : ∃ V, V = w13.setCell ⟨w.heap.size + 1, 10, none⟩ (.slice pa13 x13.length pc13) := ⟨_, rfl⟩
  rw [← hV13]
  have hset : Out [w.heap.size + 1] w13 V13 := by rw [hV13]; exact out_set _ _ _
  have hVC : Blk V13 (w.heap.size + 1) 29 #[.int .i64 x1, .string x2, .string x7, .int .i64 x4, .int .i64 x5, .string x8, .bool x9, .int .i64 x10, .int .i64 x11, .slice pa12 x12.length pc12, .slice pa13 x13.length pc13, .slice none 0 0, .string ⟨#[]⟩] := by rw [hV13]; exact VC.out.set 10 _
  have HB0n : Hid (Below w0.heap.size w0 V13) := below_out HB0.out hset (by have := GW.out; have := O1.out; have := O2.out; have := O3.out; have := O4.out; have := O5.out; have := O6.out; have := O7.out; have := O8.out; have := O9.out; have := O10.out; have := O11.out; have := O12.out; have := O13.out; have := O14.out; have := O15.out; have := O16.out; have := O17.out; have := O18.out; have := O19.out; have := O20.out; have := O21.out; have := O22.out; have := O23.out; have := O24.out; have := O25.out; omega)
  clear HB0
  have HB0 := HB0n
  clear HB0n
  have HOn : Hid (Out [g] w V13) := HO.out.aside hset (by have := GW.out; have := O1.out; have := O2.out; have := O3.out; have := O4.out; have := O5.out; have := O6.out; have := O7.out; have := O8.out; have := O9.out; have := O10.out; have := O11.out; have := O12.out; have := O13.out; have := O14.out; have := O15.out; have := O16.out; have := O17.out; have := O18.out; have := O19.out; have := O20.out; have := O21.out; have := O22.out; have := O23.out; have := O24.out; have := O25.out; omega)
  clear HO
  have HO := HOn
  clear HOn
  have VRn : Hid (Blk V13 w.heap.size 29 #[.int .i64 0, .string ⟨#[]⟩, .string ⟨#[]⟩, .int .i64 0, .int .i64 0, .string ⟨#[]⟩, .bool false, .int .i64 0, .int .i64 0, .slice none 0 0, .slice none 0 0, .slice none 0 0, .string ⟨#[]⟩]) := VR.out.outX hset (by have := GW.out; have := O1.out; have := O2.out; have := O3.out; have := O4.out; have := O5.out; have := O6.out; have := O7.out; have := O8.out; have := O9.out; have := O10.out; have := O11.out; have := O12.out; have := O13.out; have := O14.out; have := O15.out; have := O16.out; have := O17.out; have := O18.out; have := O19.out; have := O20.out; have := O21.out; have := O22.out; have := O23.out; have := O24.out; have := O25.out; simp <;> omega)
  clear VR
  have VR := VRn
  clear VRn
  have LPn : Hid (OwnI V13 V11.heap.size (.slice pa12 x12.length pc12) x12) := Out.row hset (fun b hb => by have := BLP.out b hb; have := GW.out; have := O1.out; have := O2.out; have := O3.out; have := O4.out; have := O5.out; have := O6.out; have := O7.out; have := O8.out; have := O9.out; have := O10.out; have := O11.out; have := O12.out; have := O13.out; have := O14.out; have := O15.out; have := O16.out; have := O17.out; have := O18.out; have := O19.out; have := O20.out; have := O21.out; have := O22.out; have := O23.out; have := O24.out; have := O25.out; simp <;> omega) LP.out
  clear LP
  have LP := LPn
  clear LPn
  have RGn : Hid (Blk V13 g 139 #[v13]) := RG.out.outX hset (by have := GW.out; have := O1.out; have := O2.out; have := O3.out; have := O4.out; have := O5.out; have := O6.out; have := O7.out; have := O8.out; have := O9.out; have := O10.out; have := O11.out; have := O12.out; have := O13.out; have := O14.out; have := O15.out; have := O16.out; have := O17.out; have := O18.out; have := O19.out; have := O20.out; have := O21.out; have := O22.out; have := O23.out; have := O24.out; have := O25.out; simp <;> omega)
  clear RG
  have RG := RGn
  clear RGn
  have LEn : Hid (OwnT V13 V12.heap.size (.slice pa13 x13.length pc13) x13) := Out.row hset (fun b hb => by have := BLE.out b hb; have := GW.out; have := O1.out; have := O2.out; have := O3.out; have := O4.out; have := O5.out; have := O6.out; have := O7.out; have := O8.out; have := O9.out; have := O10.out; have := O11.out; have := O12.out; have := O13.out; have := O14.out; have := O15.out; have := O16.out; have := O17.out; have := O18.out; have := O19.out; have := O20.out; have := O21.out; have := O22.out; have := O23.out; have := O24.out; have := O25.out; simp <;> omega) LE.out
  clear LE
  have LE := LEn
  clear LEn
  clear VC
  have O26 : Hid (w13.heap.size ≤ V13.heap.size) := hset.size
  have VC : Hid (Blk V13 (w.heap.size + 1) 29 #[.int .i64 x1, .string x2, .string x7, .int .i64 x4, .int .i64 x5, .string x8, .bool x9, .int .i64 x10, .int .i64 x11, .slice pa12 x12.length pc12, .slice pa13 x13.length pc13, .slice none 0 0, .string ⟨#[]⟩]) := hVC
  clear hVC hset hV13
  refine (rtexts_any w0 V13 g m v13 r13 HB0.out KG.out.1 RG.out (by have := GW.out; have := O1.out; have := O2.out; have := O3.out; have := O4.out; have := O5.out; have := O6.out; have := O7.out; have := O8.out; have := O9.out; have := O10.out; have := O11.out; have := O12.out; have := O13.out; have := O14.out; have := O15.out; have := O16.out; have := O17.out; have := O18.out; have := O19.out; have := O20.out; have := O21.out; have := O22.out; have := O23.out; have := O24.out; have := O25.out; have := O26.out; omega) KG.out.2.1 KG.out.2.2).mono ?_
  rintro e w14 ⟨ho, ⟨hn, rfl⟩ | ⟨x14, r14, v14, u14, hn, rfl, hown, hkr, hB⟩⟩
  · have HF : Hid (Out [g] w w14 ∧ oB = none) := by
      refine ⟨HO.out.trans ho, ?_⟩
      rw [← HP.out]
      have N14 : Hid (txtsL r13 = none) := hn
      simp only [bodyP, N1.out, N2.out, N3.out, N4.out, N5.out, N6.out, N7.out, N8.out, N9.out, N10.out, N11.out, N12.out, N13.out, N14.out, Option.bind_some, Option.bind_none]
    clear hn ho
    unfold misfit
    go_wp2_with fail
    exact ⟨rfl, HF.out.1, .inl ⟨HF.out.2, rfl⟩⟩
  have N14 : Hid (txtsL r13 = some (x14, r14)) := hn
  have HB0n : Hid (Below w0.heap.size w0 w14) := below_out HB0.out ho (by have := GW.out; have := O1.out; have := O2.out; have := O3.out; have := O4.out; have := O5.out; have := O6.out; have := O7.out; have := O8.out; have := O9.out; have := O10.out; have := O11.out; have := O12.out; have := O13.out; have := O14.out; have := O15.out; have := O16.out; have := O17.out; have := O18.out; have := O19.out; have := O20.out; have := O21.out; have := O22.out; have := O23.out; have := O24.out; have := O25.out; have := O26.out; omega)
  clear HB0
  have HB0 := HB0n
  clear HB0n
  have HOn : Hid (Out [g] w w14) := HO.out.trans ho
  clear HO
  have HO := HOn
  clear HOn
  have VRn : Hid (Blk w14 w.heap.size 29 #[.int .i64 0, .string ⟨#[]⟩, .string ⟨#[]⟩, .int .i64 0, .int .i64 0, .string ⟨#[]⟩, .bool false, .int .i64 0, .int .i64 0, .slice none 0 0, .slice none 0 0, .slice none 0 0, .string ⟨#[]⟩]) := VR.out.outX ho (by have := GW.out; have := O1.out; have := O2.out; have := O3.out; have := O4.out; have := O5.out; have := O6.out; have := O7.out; have := O8.out; have := O9.out; have := O10.out; have := O11.out; have := O12.out; have := O13.out; have := O14.out; have := O15.out; have := O16.out; have := O17.out; have := O18.out; have := O19.out; have := O20.out; have := O21.out; have := O22.out; have := O23.out; have := O24.out; have := O25.out; have := O26.out; simp <;> omega)
  clear VR
  have VR := VRn
  clear VRn
  have LPn : Hid (OwnI w14 V11.heap.size (.slice pa12 x12.length pc12) x12) := Out.row ho (fun b hb => by have := BLP.out b hb; have := GW.out; have := O1.out; have := O2.out; have := O3.out; have := O4.out; have := O5.out; have := O6.out; have := O7.out; have := O8.out; have := O9.out; have := O10.out; have := O11.out; have := O12.out; have := O13.out; have := O14.out; have := O15.out; have := O16.out; have := O17.out; have := O18.out; have := O19.out; have := O20.out; have := O21.out; have := O22.out; have := O23.out; have := O24.out; have := O25.out; have := O26.out; simp <;> omega) LP.out
  clear LP
  have LP := LPn
  clear LPn
  have LEn : Hid (OwnT w14 V12.heap.size (.slice pa13 x13.length pc13) x13) := Out.row ho (fun b hb => by have := BLE.out b hb; have := GW.out; have := O1.out; have := O2.out; have := O3.out; have := O4.out; have := O5.out; have := O6.out; have := O7.out; have := O8.out; have := O9.out; have := O10.out; have := O11.out; have := O12.out; have := O13.out; have := O14.out; have := O15.out; have := O16.out; have := O17.out; have := O18.out; have := O19.out; have := O20.out; have := O21.out; have := O22.out; have := O23.out; have := O24.out; have := O25.out; have := O26.out; simp <;> omega) LE.out
  clear LE
  have LE := LEn
  clear LEn
  have VCn : Hid (Blk w14 (w.heap.size + 1) 29 #[.int .i64 x1, .string x2, .string x7, .int .i64 x4, .int .i64 x5, .string x8, .bool x9, .int .i64 x10, .int .i64 x11, .slice pa12 x12.length pc12, .slice pa13 x13.length pc13, .slice none 0 0, .string ⟨#[]⟩]) := VC.out.outX ho (by have := GW.out; have := O1.out; have := O2.out; have := O3.out; have := O4.out; have := O5.out; have := O6.out; have := O7.out; have := O8.out; have := O9.out; have := O10.out; have := O11.out; have := O12.out; have := O13.out; have := O14.out; have := O15.out; have := O16.out; have := O17.out; have := O18.out; have := O19.out; have := O20.out; have := O21.out; have := O22.out; have := O23.out; have := O24.out; have := O25.out; have := O26.out; simp <;> omega)
  clear VC
  have VC := VCn
  clear VCn
  clear RG
  have O27 : Hid (V13.heap.size ≤ w14.heap.size) := ho.size
  have RG : Hid (Blk w14 g 139 #[v14]) := hB
  have KGn : Hid (KcAt w0 (m + 2) v14 r14 ∧ SzL r14) := ⟨hkr, KG.out.2.txts hn⟩
  clear KG
  have KG := KGn
  clear KGn hn ho hkr hB
  obtain ⟨pa14, pc14, hu14⟩ : ∃ ao cap, u14 = .slice ao x14.length cap := by obtain ⟨ao, cap, h, _⟩ := hown.at; exact ⟨ao, cap, h⟩
  subst hu14
  have BLD : Hid (∀ b, (Value.slice pa14 x14.length pc14).ownBlock = some b → V13.heap.size ≤ b ∧ b < w14.heap.size) := fun b hb => World.ownsRow.lt hown b hb
  have LD : Hid (OwnT w14 V13.heap.size (.slice pa14 x14.length pc14) x14) := hown
  clear hown
  have cc : w14.cell? ⟨w.heap.size + 1, 11, none⟩ = some (.slice none 0 0) := VC.out.cell 11
  have cf := VC.out.free 11
  go_wp2_with fail
  clear cc cf
  obtain ⟨V14, hV14⟩ : ∃ V, V = w14.setCell ⟨w.heap.size + 1, 11, none⟩ (.slice pa14 x14.length pc14) := ⟨_, rfl⟩
  rw [← hV14]
  have hset : Out [w.heap.size + 1] w14 V14 := by rw [hV14]; exact out_set _ _ _
  have hVC : Blk V14 (w.heap.size + 1) 29 #[.int .i64 x1, .string x2, .string x7, .int .i64 x4, .int .i64 x5, .string x8, .bool x9, .int .i64 x10, .int .i64 x11, .slice pa12 x12.length pc12, .slice pa13 x13.length pc13, .slice pa14 x14.length pc14, .string ⟨#[]⟩] := by rw [hV14]; exact VC.out.set 11 _
  have HB0n : Hid (Below w0.heap.size w0 V14) := below_out HB0.out hset (by have := GW.out; have := O1.out; have := O2.out; have := O3.out; have := O4.out; have := O5.out; have := O6.out; have := O7.out; have := O8.out; have := O9.out; have := O10.out; have := O11.out; have := O12.out; have := O13.out; have := O14.out; have := O15.out; have := O16.out; have := O17.out; have := O18.out; have := O19.out; have := O20.out; have := O21.out; have := O22.out; have := O23.out; have := O24.out; have := O25.out; have := O26.out; have := O27.out; omega)
  clear HB0
  have HB0 := HB0n
  clear HB0n
  have HOn : Hid (Out [g] w V14) := HO.out.aside hset (by have := GW.out; have := O1.out; have := O2.out; have := O3.out; have := O4.out; have := O5.out; have := O6.out; have := O7.out; have := O8.out; have := O9.out; have := O10.out; have := O11.out; have := O12.out; have := O13.out; have := O14.out; have := O15.out; have := O16.out; have := O17.out; have := O18.out; have := O19.out; have := O20.out; have := O21.out; have := O22.out; have := O23.out; have := O24.out; have := O25.out; have := O26.out; have := O27.out; omega)
  clear HO
  have HO := HOn
  clear HOn
  have VRn : Hid (Blk V14 w.heap.size 29 #[.int .i64 0, .string ⟨#[]⟩, .string ⟨#[]⟩, .int .i64 0, .int .i64 0, .string ⟨#[]⟩, .bool false, .int .i64 0, .int .i64 0, .slice none 0 0, .slice none 0 0, .slice none 0 0, .string ⟨#[]⟩]) := VR.out.outX hset (by have := GW.out; have := O1.out; have := O2.out; have := O3.out; have := O4.out; have := O5.out; have := O6.out; have := O7.out; have := O8.out; have := O9.out; have := O10.out; have := O11.out; have := O12.out; have := O13.out; have := O14.out; have := O15.out; have := O16.out; have := O17.out; have := O18.out; have := O19.out; have := O20.out; have := O21.out; have := O22.out; have := O23.out; have := O24.out; have := O25.out; have := O26.out; have := O27.out; simp <;> omega)
  clear VR
  have VR := VRn
  clear VRn
  have LPn : Hid (OwnI V14 V11.heap.size (.slice pa12 x12.length pc12) x12) := Out.row hset (fun b hb => by have := BLP.out b hb; have := GW.out; have := O1.out; have := O2.out; have := O3.out; have := O4.out; have := O5.out; have := O6.out; have := O7.out; have := O8.out; have := O9.out; have := O10.out; have := O11.out; have := O12.out; have := O13.out; have := O14.out; have := O15.out; have := O16.out; have := O17.out; have := O18.out; have := O19.out; have := O20.out; have := O21.out; have := O22.out; have := O23.out; have := O24.out; have := O25.out; have := O26.out; have := O27.out; simp <;> omega) LP.out
  clear LP
  have LP := LPn
  clear LPn
  have LEn : Hid (OwnT V14 V12.heap.size (.slice pa13 x13.length pc13) x13) := Out.row hset (fun b hb => by have := BLE.out b hb; have := GW.out; have := O1.out; have := O2.out; have := O3.out; have := O4.out; have := O5.out; have := O6.out; have := O7.out; have := O8.out; have := O9.out; have := O10.out; have := O11.out; have := O12.out; have := O13.out; have := O14.out; have := O15.out; have := O16.out; have := O17.out; have := O18.out; have := O19.out; have := O20.out; have := O21.out; have := O22.out; have := O23.out; have := O24.out; have := O25.out; have := O26.out; have := O27.out; simp <;> omega) LE.out
  clear LE
  have LE := LEn
  clear LEn
  have RGn : Hid (Blk V14 g 139 #[v14]) := RG.out.outX hset (by have := GW.out; have := O1.out; have := O2.out; have := O3.out; have := O4.out; have := O5.out; have := O6.out; have := O7.out; have := O8.out; have := O9.out; have := O10.out; have := O11.out; have := O12.out; have := O13.out; have := O14.out; have := O15.out; have := O16.out; have := O17.out; have := O18.out; have := O19.out; have := O20.out; have := O21.out; have := O22.out; have := O23.out; have := O24.out; have := O25.out; have := O26.out; have := O27.out; simp <;> omega)
  clear RG
  have RG := RGn
  clear RGn
  have LDn : Hid (OwnT V14 V13.heap.size (.slice pa14 x14.length pc14) x14) := Out.row hset (fun b hb => by have := BLD.out b hb; have := GW.out; have := O1.out; have := O2.out; have := O3.out; have := O4.out; have := O5.out; have := O6.out; have := O7.out; have := O8.out; have := O9.out; have := O10.out; have := O11.out; have := O12.out; have := O13.out; have := O14.out; have := O15.out; have := O16.out; have := O17.out; have := O18.out; have := O19.out; have := O20.out; have := O21.out; have := O22.out; have := O23.out; have := O24.out; have := O25.out; have := O26.out; have := O27.out; simp <;> omega) LD.out
  clear LD
  have LD := LDn
  clear LDn
  clear VC
  have O28 : Hid (w14.heap.size ≤ V14.heap.size) := hset.size
  have VC : Hid (Blk V14 (w.heap.size + 1) 29 #[.int .i64 x1, .string x2, .string x7, .int .i64 x4, .int .i64 x5, .string x8, .bool x9, .int .i64 x10, .int .i64 x11, .slice pa12 x12.length pc12, .slice pa13 x13.length pc13, .slice pa14 x14.length pc14, .string ⟨#[]⟩]) := hVC
  clear hVC hset hV14
  obtain ⟨ea15, ec15, he15⟩ := KG.out.1.shape
  have hRE : Blk V14 g 139 #[.slice ea15 r14.length ec15] := by rw [← he15]; exact RG.out
  refine (end_any V14 g r14.length ec15 ea15 r14 rfl hRE).mono ?_
  rintro e w15 ⟨hb, ⟨hn, rfl⟩ | ⟨hnil, hn, rfl⟩⟩
  · have HF : Hid (Out [g] w w15 ∧ oB = none) := by
      refine ⟨HO.out.trans (Out.of_below hb), ?_⟩
      rw [← HP.out]
      have N15 : Hid (endP r14 = none) := hn
      simp only [bodyP, N1.out, N2.out, N3.out, N4.out, N5.out, N6.out, N7.out, N8.out, N9.out, N10.out, N11.out, N12.out, N13.out, N14.out, N15.out, Option.bind_some, Option.bind_none]
    clear hn hb
    unfold misfit
    go_wp2_with fail
    exact ⟨rfl, HF.out.1, .inl ⟨HF.out.2, rfl⟩⟩
  have N15 : Hid (endP r14 = some ()) := hn
  have HB0n : Hid (Below w0.heap.size w0 w15) := HB0.out.trans (hb.mono HB0.out.size)
  clear HB0
  have HB0 := HB0n
  clear HB0n
  have HOn : Hid (Out [g] w w15) := HO.out.trans (Out.of_below hb)
  clear HO
  have HO := HOn
  clear HOn
  have VRn : Hid (Blk w15 w.heap.size 29 #[.int .i64 0, .string ⟨#[]⟩, .string ⟨#[]⟩, .int .i64 0, .int .i64 0, .string ⟨#[]⟩, .bool false, .int .i64 0, .int .i64 0, .slice none 0 0, .slice none 0 0, .slice none 0 0, .string ⟨#[]⟩]) := VR.out.on hb
  clear VR
  have VR := VRn
  clear VRn
  have LPn : Hid (OwnI w15 V11.heap.size (.slice pa12 x12.length pc12) x12) := OwnI.stays LP.out hb
  clear LP
  have LP := LPn
  clear LPn
  have LEn : Hid (OwnT w15 V12.heap.size (.slice pa13 x13.length pc13) x13) := OwnT.stays LE.out hb
  clear LE
  have LE := LEn
  clear LEn
  have RGn : Hid (Blk w15 g 139 #[v14]) := RG.out.on hb
  clear RG
  have RG := RGn
  clear RGn
  have LDn : Hid (OwnT w15 V13.heap.size (.slice pa14 x14.length pc14) x14) := OwnT.stays LD.out hb
  clear LD
  have LD := LDn
  clear LDn
  have VCn : Hid (Blk w15 (w.heap.size + 1) 29 #[.int .i64 x1, .string x2, .string x7, .int .i64 x4, .int .i64 x5, .string x8, .bool x9, .int .i64 x10, .int .i64 x11, .slice pa12 x12.length pc12, .slice pa13 x13.length pc13, .slice pa14 x14.length pc14, .string ⟨#[]⟩]) := VC.out.on hb
  clear VC
  have VC := VCn
  clear VCn
  have O29 : Hid (V14.heap.size ≤ w15.heap.size) := hb.size
  clear hn hb hnil hRE he15
  have HF : Hid (oB = some ⟨x1, x2, x7, x4, x5, x8, x9, x10, x11, x12, x13, x14, ⟨#[]⟩⟩) := by
    show oB = _
    rw [← HP.out]
    simp only [bodyP, N1.out, N2.out, N3.out, N4.out, N5.out, N6.out, N7.out, N8.out, N9.out, N10.out, N11.out, N12.out, N13.out, N14.out, N15.out, Option.bind_some, Option.bind_none]
  have c10 : w15.cell? ⟨w.heap.size, 0, none⟩ = some (.int .i64 0) := VR.out.cell 0
  have c20 : w15.cell? ⟨w.heap.size + 1, 0, none⟩ = some (.int .i64 x1) := VC.out.cell 0
  have c11 : w15.cell? ⟨w.heap.size, 1, none⟩ = some (.string ⟨#[]⟩) := VR.out.cell 1
  have c21 : w15.cell? ⟨w.heap.size + 1, 1, none⟩ = some (.string x2) := VC.out.cell 1
  have c12 : w15.cell? ⟨w.heap.size, 2, none⟩ = some (.string ⟨#[]⟩) := VR.out.cell 2
  have c22 : w15.cell? ⟨w.heap.size + 1, 2, none⟩ = some (.string x7) := VC.out.cell 2
  have c13 : w15.cell? ⟨w.heap.size, 3, none⟩ = some (.int .i64 0) := VR.out.cell 3
  have c23 : w15.cell? ⟨w.heap.size + 1, 3, none⟩ = some (.int .i64 x4) := VC.out.cell 3
  have c14 : w15.cell? ⟨w.heap.size, 4, none⟩ = some (.int .i64 0) := VR.out.cell 4
  have c24 : w15.cell? ⟨w.heap.size + 1, 4, none⟩ = some (.int .i64 x5) := VC.out.cell 4
  have c15 : w15.cell? ⟨w.heap.size, 5, none⟩ = some (.string ⟨#[]⟩) := VR.out.cell 5
  have c25 : w15.cell? ⟨w.heap.size + 1, 5, none⟩ = some (.string x8) := VC.out.cell 5
  have c16 : w15.cell? ⟨w.heap.size, 6, none⟩ = some (.bool false) := VR.out.cell 6
  have c26 : w15.cell? ⟨w.heap.size + 1, 6, none⟩ = some (.bool x9) := VC.out.cell 6
  have c17 : w15.cell? ⟨w.heap.size, 7, none⟩ = some (.int .i64 0) := VR.out.cell 7
  have c27 : w15.cell? ⟨w.heap.size + 1, 7, none⟩ = some (.int .i64 x10) := VC.out.cell 7
  have c18 : w15.cell? ⟨w.heap.size, 8, none⟩ = some (.int .i64 0) := VR.out.cell 8
  have c28 : w15.cell? ⟨w.heap.size + 1, 8, none⟩ = some (.int .i64 x11) := VC.out.cell 8
  have c19 : w15.cell? ⟨w.heap.size, 9, none⟩ = some (.slice none 0 0) := VR.out.cell 9
  have c29 : w15.cell? ⟨w.heap.size + 1, 9, none⟩ = some (.slice pa12 x12.length pc12) := VC.out.cell 9
  have c110 : w15.cell? ⟨w.heap.size, 10, none⟩ = some (.slice none 0 0) := VR.out.cell 10
  have c210 : w15.cell? ⟨w.heap.size + 1, 10, none⟩ = some (.slice pa13 x13.length pc13) := VC.out.cell 10
  have c111 : w15.cell? ⟨w.heap.size, 11, none⟩ = some (.slice none 0 0) := VR.out.cell 11
  have c211 : w15.cell? ⟨w.heap.size + 1, 11, none⟩ = some (.slice pa14 x14.length pc14) := VC.out.cell 11
  have c112 : w15.cell? ⟨w.heap.size, 12, none⟩ = some (.string ⟨#[]⟩) := VR.out.cell 12
  have c212 : w15.cell? ⟨w.heap.size + 1, 12, none⟩ = some (.string ⟨#[]⟩) := VC.out.cell 12
  have f1 := fun j => VR.out.free j
  go_wp2_with fail
  refine bodyPost_ret (v := .agg #[.int .i64 x1, .string x2, .string x7, .int .i64 x4, .int .i64 x5, .string x8, .bool x9, .int .i64 x10, .int .i64 x11, .slice pa12 x12.length pc12, .slice pa13 x13.length pc13, .slice pa14 x14.length pc14, .string ⟨#[]⟩]) (by simp [results, Try.results100, go_sem, c10, c11, c12, c13, c14, c15, c16, c17, c18, c19, c110, c111, c112]; try rfl) rfl ?_
  have AP : Hid ((Ap (.slice pa12 x12.length pc12) (.slice pa13 x13.length pc13) ∧ Ap (.slice pa13 x13.length pc13) (.slice pa12 x12.length pc12)) ∧ (Ap (.slice pa12 x12.length pc12) (.slice pa14 x14.length pc14) ∧ Ap (.slice pa14 x14.length pc14) (.slice pa12 x12.length pc12)) ∧ (Ap (.slice pa13 x13.length pc13) (.slice pa14 x14.length pc14) ∧ Ap (.slice pa14 x14.length pc14) (.slice pa13 x13.length pc13))) := by
    have q := fun (u v : Value) (h : ∀ b, u.ownBlock = some b → v.ownBlock = some b → False) => (show Ap u v from (by
      unfold Ap
      cases hu : u.ownBlock with
      | none => exact .inl rfl
      | some b => exact .inr (fun e => h b hu e.symm)))
    refine ⟨⟨q _ _ ?_, q _ _ ?_⟩, ⟨q _ _ ?_, q _ _ ?_⟩, ⟨q _ _ ?_, q _ _ ?_⟩⟩
    · intro b h1 h2; have := BLP.out b h1; have := BLE.out b h2; have := GW.out; have := O1.out; have := O2.out; have := O3.out; have := O4.out; have := O5.out; have := O6.out; have := O7.out; have := O8.out; have := O9.out; have := O10.out; have := O11.out; have := O12.out; have := O13.out; have := O14.out; have := O15.out; have := O16.out; have := O17.out; have := O18.out; have := O19.out; have := O20.out; have := O21.out; have := O22.out; have := O23.out; have := O24.out; have := O25.out; have := O26.out; have := O27.out; have := O28.out; have := O29.out; omega
    · intro b h1 h2; have := BLE.out b h1; have := BLP.out b h2; have := GW.out; have := O1.out; have := O2.out; have := O3.out; have := O4.out; have := O5.out; have := O6.out; have := O7.out; have := O8.out; have := O9.out; have := O10.out; have := O11.out; have := O12.out; have := O13.out; have := O14.out; have := O15.out; have := O16.out; have := O17.out; have := O18.out; have := O19.out; have := O20.out; have := O21.out; have := O22.out; have := O23.out; have := O24.out; have := O25.out; have := O26.out; have := O27.out; have := O28.out; have := O29.out; omega
    · intro b h1 h2; have := BLP.out b h1; have := BLD.out b h2; have := GW.out; have := O1.out; have := O2.out; have := O3.out; have := O4.out; have := O5.out; have := O6.out; have := O7.out; have := O8.out; have := O9.out; have := O10.out; have := O11.out; have := O12.out; have := O13.out; have := O14.out; have := O15.out; have := O16.out; have := O17.out; have := O18.out; have := O19.out; have := O20.out; have := O21.out; have := O22.out; have := O23.out; have := O24.out; have := O25.out; have := O26.out; have := O27.out; have := O28.out; have := O29.out; omega
    · intro b h1 h2; have := BLD.out b h1; have := BLP.out b h2; have := GW.out; have := O1.out; have := O2.out; have := O3.out; have := O4.out; have := O5.out; have := O6.out; have := O7.out; have := O8.out; have := O9.out; have := O10.out; have := O11.out; have := O12.out; have := O13.out; have := O14.out; have := O15.out; have := O16.out; have := O17.out; have := O18.out; have := O19.out; have := O20.out; have := O21.out; have := O22.out; have := O23.out; have := O24.out; have := O25.out; have := O26.out; have := O27.out; have := O28.out; have := O29.out; omega
    · intro b h1 h2; have := BLE.out b h1; have := BLD.out b h2; have := GW.out; have := O1.out; have := O2.out; have := O3.out; have := O4.out; have := O5.out; have := O6.out; have := O7.out; have := O8.out; have := O9.out; have := O10.out; have := O11.out; have := O12.out; have := O13.out; have := O14.out; have := O15.out; have := O16.out; have := O17.out; have := O18.out; have := O19.out; have := O20.out; have := O21.out; have := O22.out; have := O23.out; have := O24.out; have := O25.out; have := O26.out; have := O27.out; have := O28.out; have := O29.out; omega
    · intro b h1 h2; have := BLD.out b h1; have := BLE.out b h2; have := GW.out; have := O1.out; have := O2.out; have := O3.out; have := O4.out; have := O5.out; have := O6.out; have := O7.out; have := O8.out; have := O9.out; have := O10.out; have := O11.out; have := O12.out; have := O13.out; have := O14.out; have := O15.out; have := O16.out; have := O17.out; have := O18.out; have := O19.out; have := O20.out; have := O21.out; have := O22.out; have := O23.out; have := O24.out; have := O25.out; have := O26.out; have := O27.out; have := O28.out; have := O29.out; omega
  have FIN : ∀ V : World, Out [w.heap.size] w15 V → BodyPost w0 w g oB (.returned (.agg #[.int .i64 x1, .string x2, .string x7, .int .i64 x4, .int .i64 x5, .string x8, .bool x9, .int .i64 x10, .int .i64 x11, .slice pa12 x12.length pc12, .slice pa13 x13.length pc13, .slice pa14 x14.length pc14, .string ⟨#[]⟩])) V := fun V hV => by
    refine ⟨HO.out.aside hV (Nat.le_refl _), .inr ⟨⟨x1, x2, x7, x4, x5, x8, x9, x10, x11, x12, x13, x14, ⟨#[]⟩⟩, _, v14, HF.out, rfl, ?_, RG.out.outX hV (by have := GW.out; have := O1.out; have := O2.out; have := O3.out; have := O4.out; have := O5.out; have := O6.out; have := O7.out; have := O8.out; have := O9.out; have := O10.out; have := O11.out; have := O12.out; have := O13.out; have := O14.out; have := O15.out; have := O16.out; have := O17.out; have := O18.out; have := O19.out; have := O20.out; have := O21.out; have := O22.out; have := O23.out; have := O24.out; have := O25.out; have := O26.out; have := O27.out; have := O28.out; have := O29.out; simp <;> omega)⟩⟩
    refine ⟨_, _, _, rfl, ?_, ?_, ?_, AP.out.1, AP.out.2.1, AP.out.2.2⟩
    · exact OwnI.base (Out.row hV (fun b hb => by have := BLP.out b hb; have := GW.out; have := O1.out; have := O2.out; have := O3.out; have := O4.out; have := O5.out; have := O6.out; have := O7.out; have := O8.out; have := O9.out; have := O10.out; have := O11.out; have := O12.out; have := O13.out; have := O14.out; have := O15.out; have := O16.out; have := O17.out; have := O18.out; have := O19.out; have := O20.out; have := O21.out; have := O22.out; have := O23.out; have := O24.out; have := O25.out; have := O26.out; have := O27.out; have := O28.out; have := O29.out; simp <;> omega) LP.out) (by have := GW.out; have := O1.out; have := O2.out; have := O3.out; have := O4.out; have := O5.out; have := O6.out; have := O7.out; have := O8.out; have := O9.out; have := O10.out; have := O11.out; have := O12.out; have := O13.out; have := O14.out; have := O15.out; have := O16.out; have := O17.out; have := O18.out; have := O19.out; have := O20.out; have := O21.out; have := O22.out; have := O23.out; have := O24.out; have := O25.out; have := O26.out; have := O27.out; have := O28.out; have := O29.out; omega)
    · exact OwnT.base (Out.row hV (fun b hb => by have := BLE.out b hb; have := GW.out; have := O1.out; have := O2.out; have := O3.out; have := O4.out; have := O5.out; have := O6.out; have := O7.out; have := O8.out; have := O9.out; have := O10.out; have := O11.out; have := O12.out; have := O13.out; have := O14.out; have := O15.out; have := O16.out; have := O17.out; have := O18.out; have := O19.out; have := O20.out; have := O21.out; have := O22.out; have := O23.out; have := O24.out; have := O25.out; have := O26.out; have := O27.out; have := O28.out; have := O29.out; simp <;> omega) LE.out) (by have := GW.out; have := O1.out; have := O2.out; have := O3.out; have := O4.out; have := O5.out; have := O6.out; have := O7.out; have := O8.out; have := O9.out; have := O10.out; have := O11.out; have := O12.out; have := O13.out; have := O14.out; have := O15.out; have := O16.out; have := O17.out; have := O18.out; have := O19.out; have := O20.out; have := O21.out; have := O22.out; have := O23.out; have := O24.out; have := O25.out; have := O26.out; have := O27.out; have := O28.out; have := O29.out; omega)
    · exact OwnT.base (Out.row hV (fun b hb => by have := BLD.out b hb; have := GW.out; have := O1.out; have := O2.out; have := O3.out; have := O4.out; have := O5.out; have := O6.out; have := O7.out; have := O8.out; have := O9.out; have := O10.out; have := O11.out; have := O12.out; have := O13.out; have := O14.out; have := O15.out; have := O16.out; have := O17.out; have := O18.out; have := O19.out; have := O20.out; have := O21.out; have := O22.out; have := O23.out; have := O24.out; have := O25.out; have := O26.out; have := O27.out; have := O28.out; have := O29.out; simp <;> omega) LD.out) (by have := GW.out; have := O1.out; have := O2.out; have := O3.out; have := O4.out; have := O5.out; have := O6.out; have := O7.out; have := O8.out; have := O9.out; have := O10.out; have := O11.out; have := O12.out; have := O13.out; have := O14.out; have := O15.out; have := O16.out; have := O17.out; have := O18.out; have := O19.out; have := O20.out; have := O21.out; have := O22.out; have := O23.out; have := O24.out; have := O25.out; have := O26.out; have := O27.out; have := O28.out; have := O29.out; omega)
  apply FIN
  iterate 13 refine Out.setCell ?_ _ _ (by simp)
  exact Out.refl _ _
end Go.Proofs.Ytajbalokcfghbaa
