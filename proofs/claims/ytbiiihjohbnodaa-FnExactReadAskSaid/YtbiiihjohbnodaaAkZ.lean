/-
  The program's question: what a reader tells of a question.
-/
import Derived.Test.YtbiiihjohbnodaaAkY
import Derived.Test.YtbiiihjohbnodaaAkM
namespace Go.Proofs.Ytbiiihjohbnodaa
open Go.RowKit Der
set_option linter.unusedVariables false
set_option linter.unusedSimpArgs false

/-- What question leaves. -/
def QuPost (w0 w : World) (g : Nat) (ob : Option Ak) (e : Ending) (W' : World) : Prop := Out [g] w W' ∧
  ((ob = none ∧ e = misfit) ∨ ∃ (c : Ak) (u v' : Value), ob = some c ∧ e = .returned u ∧ OwnAk W' w.heap.size u c ∧ Blk W' g 134 #[v'])
set_option maxHeartbeats 12800000 in
set_option maxRecDepth 100000 in
theorem question_any (w0 w : World) (g m : Nat) (v : Value) (ks : List (It (m + 3))) (hw : Below w0.heap.size w0 w) (hk : KcAt w0 (m + 3) v ks) (hr : Blk w g 134 #[v]) (hg : w0.heap.size ≤ g) (hz : SzL ks) :
    Calls Try.prog 58 #[.pointer (some ⟨g, 0, none⟩)] w fun e W' => QuPost w0 w g (kidsP ks) e W' := by
  obtain ⟨oB, hoB⟩ : ∃ b, kidsP ks = b := ⟨_, rfl⟩
  have HP : Hid (kidsP ks = oB) := hoB
  rw [hoB]
  clear hoB
  have GW : Hid (w0.heap.size ≤ g ∧ g < w.heap.size ∧ w0.heap.size ≤ w.heap.size) := ⟨hg, hr.lt, hw.size⟩
  go_enter Try.func58, Try.ntmps58
  go_wp2_with fail
  obtain ⟨W1, hW1⟩ : ∃ V, V = (w.alloc (Obj.cells #[.slice none 0 0, .int .i64 0, .int .i64 0, .int .i64 0, .int .i64 0, .bool false] 27)).alloc (Obj.cells #[.slice none 0 0, .int .i64 0, .int .i64 0, .int .i64 0, .int .i64 0, .bool false] 27) := ⟨_, rfl⟩
  rw [← hW1]
  have e0 : (w.alloc (Obj.cells #[.slice none 0 0, .int .i64 0, .int .i64 0, .int .i64 0, .int .i64 0, .bool false] 27)).heap.size = w.heap.size + 1 := Array.size_push _
  have hb1 : Below w.heap.size w W1 := by rw [hW1]; exact ((Below.refl _ _).alloc (Nat.le_refl _) _).alloc (by rw [e0]; omega) _
  have hv1 : Blk W1 w.heap.size 27 #[.slice none 0 0, .int .i64 0, .int .i64 0, .int .i64 0, .int .i64 0, .bool false] := by rw [hW1]; exact (Blk.new w _ _).alloc _
  have hv2 : Blk W1 (w.heap.size + 1) 27 #[.slice none 0 0, .int .i64 0, .int .i64 0, .int .i64 0, .int .i64 0, .bool false] := by
    rw [hW1]
    have h := Blk.new (w.alloc (Obj.cells #[.slice none 0 0, .int .i64 0, .int .i64 0, .int .i64 0, .int .i64 0, .bool false] 27)) 27 #[.slice none 0 0, .int .i64 0, .int .i64 0, .int .i64 0, .int .i64 0, .bool false]
    rw [e0] at h
    exact h
  have hs1 : W1.heap.size = w.heap.size + 2 := by rw [hW1, size_alloc, e0]
  have HB0 : Hid (Below w0.heap.size w0 W1) := hw.trans (hb1.mono hw.size)
  have HO : Hid (Out [g] w W1) := Out.of_below hb1
  have VR : Hid (Blk W1 w.heap.size 27 #[.slice none 0 0, .int .i64 0, .int .i64 0, .int .i64 0, .int .i64 0, .bool false]) := hv1
  have VC : Hid (Blk W1 (w.heap.size + 1) 27 #[.slice none 0 0, .int .i64 0, .int .i64 0, .int .i64 0, .int .i64 0, .bool false]) := hv2
  have RG : Hid (Blk W1 g 134 #[v]) := hr.on hb1
  have O1 : Hid (W1.heap.size = w.heap.size + 2) := hs1
  have KG : Hid (KcAt w0 (m + 3) v ks ∧ SzL ks) := ⟨hk, hz⟩
  clear hw hk hr hg hz hW1 e0 hb1 hv1 hv2 hs1
  refine (rbyts_any w0 W1 g (m + 1) v ks HB0.out KG.out.1 RG.out (by have := GW.out; have := O1.out; omega) KG.out.2.1 KG.out.2.2).mono ?_
  rintro e w1 ⟨ho, ⟨hn, rfl⟩ | ⟨x1, r1, v1, u1, hn, rfl, hown, hkr, hB⟩⟩
  · have HF : Hid (Out [g] w w1 ∧ oB = none) := by
      refine ⟨HO.out.trans ho, ?_⟩
      rw [← HP.out]
      have N1 : Hid (bytsL ks = none) := hn
      simp only [kidsP, N1.out, Option.bind_some, Option.bind_none]
    clear hn ho
    unfold misfit
    go_wp2_with fail
    exact ⟨rfl, HF.out.1, .inl ⟨HF.out.2, rfl⟩⟩
  have N1 : Hid (bytsL ks = some (x1, r1)) := hn
  have HB0n : Hid (Below w0.heap.size w0 w1) := below_out HB0.out ho (by have := GW.out; have := O1.out; omega)
  clear HB0
  have HB0 := HB0n
  clear HB0n
  have HOn : Hid (Out [g] w w1) := HO.out.trans ho
  clear HO
  have HO := HOn
  clear HOn
  have VRn : Hid (Blk w1 w.heap.size 27 #[.slice none 0 0, .int .i64 0, .int .i64 0, .int .i64 0, .int .i64 0, .bool false]) := VR.out.outX ho (by have := GW.out; have := O1.out; simp <;> omega)
  clear VR
  have VR := VRn
  clear VRn
  have VCn : Hid (Blk w1 (w.heap.size + 1) 27 #[.slice none 0 0, .int .i64 0, .int .i64 0, .int .i64 0, .int .i64 0, .bool false]) := VC.out.outX ho (by have := GW.out; have := O1.out; simp <;> omega)
  clear VC
  have VC := VCn
  clear VCn
  clear RG
  have O2 : Hid (W1.heap.size ≤ w1.heap.size) := ho.size
  have RG : Hid (Blk w1 g 134 #[v1]) := hB
  have KGn : Hid (KcAt w0 (m + 3) v1 r1 ∧ SzL r1) := ⟨hkr, KG.out.2.byts hn⟩
  clear KG
  have KG := KGn
  clear KGn hn ho hkr hB
  obtain ⟨pa1, pc1, hu1⟩ : ∃ ao cap, u1 = .slice ao x1.length cap := by obtain ⟨ao, cap, h, _⟩ := hown.at; exact ⟨ao, cap, h⟩
  subst hu1
  have BLT : Hid (∀ b, (Value.slice pa1 x1.length pc1).ownBlock = some b → W1.heap.size ≤ b ∧ b < w1.heap.size) := fun b hb => World.ownsRow.lt hown b hb
  have LT : Hid (OwnT w1 W1.heap.size (.slice pa1 x1.length pc1) x1) := hown
  clear hown
  have cc : w1.cell? ⟨w.heap.size + 1, 0, none⟩ = some (.slice none 0 0) := VC.out.cell 0
  have cf := VC.out.free 0
  go_wp2_with fail
  clear cc cf
  obtain ⟨V1, hV1⟩ : ∃ V, V = w1.setCell ⟨w.heap.size + 1, 0, none⟩ (.slice pa1 x1.length pc1) := ⟨_, rfl⟩
  rw [← hV1]
  have hset : Out [w.heap.size + 1] w1 V1 := by rw [hV1]; exact out_set _ _ _
  have hVC : Blk V1 (w.heap.size + 1) 27 #[.slice pa1 x1.length pc1, .int .i64 0, .int .i64 0, .int .i64 0, .int .i64 0, .bool false] := by rw [hV1]; exact VC.out.set 0 _
  have HB0n : Hid (Below w0.heap.size w0 V1) := below_out HB0.out hset (by have := GW.out; have := O1.out; have := O2.out; omega)
  clear HB0
  have HB0 := HB0n
  clear HB0n
  have HOn : Hid (Out [g] w V1) := HO.out.aside hset (by have := GW.out; have := O1.out; have := O2.out; omega)
  clear HO
  have HO := HOn
  clear HOn
  have VRn : Hid (Blk V1 w.heap.size 27 #[.slice none 0 0, .int .i64 0, .int .i64 0, .int .i64 0, .int .i64 0, .bool false]) := VR.out.outX hset (by have := GW.out; have := O1.out; have := O2.out; simp <;> omega)
  clear VR
  have VR := VRn
  clear VRn
  have RGn : Hid (Blk V1 g 134 #[v1]) := RG.out.outX hset (by have := GW.out; have := O1.out; have := O2.out; simp <;> omega)
  clear RG
  have RG := RGn
  clear RGn
  have LTn : Hid (OwnT V1 W1.heap.size (.slice pa1 x1.length pc1) x1) := Out.row hset (fun b hb => by have := BLT.out b hb; have := GW.out; have := O1.out; have := O2.out; simp <;> omega) LT.out
  clear LT
  have LT := LTn
  clear LTn
  clear VC
  have O3 : Hid (w1.heap.size ≤ V1.heap.size) := hset.size
  have VC : Hid (Blk V1 (w.heap.size + 1) 27 #[.slice pa1 x1.length pc1, .int .i64 0, .int .i64 0, .int .i64 0, .int .i64 0, .bool false]) := hVC
  clear hVC hset hV1
  refine (number_any w0 V1 g (m + 2) v1 r1 HB0.out KG.out.1 RG.out (by have := GW.out; have := O1.out; have := O2.out; have := O3.out; omega) KG.out.2.1 (fun y hy => Nat.le_trans (KG.out.2.2 y hy) (by decide))).mono ?_
  rintro e w2 ⟨ho, ⟨hn, rfl⟩ | ⟨x2, r2, v2, hn, rfl, hkr, hB⟩⟩
  · have HF : Hid (Out [g] w w2 ∧ oB = none) := by
      refine ⟨HO.out.trans ho, ?_⟩
      rw [← HP.out]
      have N2 : Hid (numP r1 = none) := hn
      simp only [kidsP, N1.out, N2.out, Option.bind_some, Option.bind_none]
    clear hn ho
    unfold misfit
    go_wp2_with fail
    exact ⟨rfl, HF.out.1, .inl ⟨HF.out.2, rfl⟩⟩
  have N2 : Hid (numP r1 = some (x2, r2)) := hn
  have HB0n : Hid (Below w0.heap.size w0 w2) := below_out HB0.out ho (by have := GW.out; have := O1.out; have := O2.out; have := O3.out; omega)
  clear HB0
  have HB0 := HB0n
  clear HB0n
  have HOn : Hid (Out [g] w w2) := HO.out.trans ho
  clear HO
  have HO := HOn
  clear HOn
  have VRn : Hid (Blk w2 w.heap.size 27 #[.slice none 0 0, .int .i64 0, .int .i64 0, .int .i64 0, .int .i64 0, .bool false]) := VR.out.outX ho (by have := GW.out; have := O1.out; have := O2.out; have := O3.out; simp <;> omega)
  clear VR
  have VR := VRn
  clear VRn
  have LTn : Hid (OwnT w2 W1.heap.size (.slice pa1 x1.length pc1) x1) := Out.row ho (fun b hb => by have := BLT.out b hb; have := GW.out; have := O1.out; have := O2.out; have := O3.out; simp <;> omega) LT.out
  clear LT
  have LT := LTn
  clear LTn
  have VCn : Hid (Blk w2 (w.heap.size + 1) 27 #[.slice pa1 x1.length pc1, .int .i64 0, .int .i64 0, .int .i64 0, .int .i64 0, .bool false]) := VC.out.outX ho (by have := GW.out; have := O1.out; have := O2.out; have := O3.out; simp <;> omega)
  clear VC
  have VC := VCn
  clear VCn
  clear RG
  have O4 : Hid (V1.heap.size ≤ w2.heap.size) := ho.size
  have RG : Hid (Blk w2 g 134 #[v2]) := hB
  have KGn : Hid (KcAt w0 (m + 3) v2 r2 ∧ SzL r2) := ⟨hkr, KG.out.2.num hn⟩
  clear KG
  have KG := KGn
  clear KGn hn ho hkr hB
  have cc : w2.cell? ⟨w.heap.size + 1, 1, none⟩ = some (.int .i64 0) := VC.out.cell 1
  have cf := VC.out.free 1
  go_wp2_with fail
  clear cc cf
  obtain ⟨V2, hV2⟩ : ∃ V, V = w2.setCell ⟨w.heap.size + 1, 1, none⟩ (.int .i64 x2) := ⟨_, rfl⟩
  rw [← hV2]
  have hset : Out [w.heap.size + 1] w2 V2 := by rw [hV2]; exact out_set _ _ _
  have hVC : Blk V2 (w.heap.size + 1) 27 #[.slice pa1 x1.length pc1, .int .i64 x2, .int .i64 0, .int .i64 0, .int .i64 0, .bool false] := by rw [hV2]; exact VC.out.set 1 _
  have HB0n : Hid (Below w0.heap.size w0 V2) := below_out HB0.out hset (by have := GW.out; have := O1.out; have := O2.out; have := O3.out; have := O4.out; omega)
  clear HB0
  have HB0 := HB0n
  clear HB0n
  have HOn : Hid (Out [g] w V2) := HO.out.aside hset (by have := GW.out; have := O1.out; have := O2.out; have := O3.out; have := O4.out; omega)
  clear HO
  have HO := HOn
  clear HOn
  have VRn : Hid (Blk V2 w.heap.size 27 #[.slice none 0 0, .int .i64 0, .int .i64 0, .int .i64 0, .int .i64 0, .bool false]) := VR.out.outX hset (by have := GW.out; have := O1.out; have := O2.out; have := O3.out; have := O4.out; simp <;> omega)
  clear VR
  have VR := VRn
  clear VRn
  have LTn : Hid (OwnT V2 W1.heap.size (.slice pa1 x1.length pc1) x1) := Out.row hset (fun b hb => by have := BLT.out b hb; have := GW.out; have := O1.out; have := O2.out; have := O3.out; have := O4.out; simp <;> omega) LT.out
  clear LT
  have LT := LTn
  clear LTn
  have RGn : Hid (Blk V2 g 134 #[v2]) := RG.out.outX hset (by have := GW.out; have := O1.out; have := O2.out; have := O3.out; have := O4.out; simp <;> omega)
  clear RG
  have RG := RGn
  clear RGn
  clear VC
  have O5 : Hid (w2.heap.size ≤ V2.heap.size) := hset.size
  have VC : Hid (Blk V2 (w.heap.size + 1) 27 #[.slice pa1 x1.length pc1, .int .i64 x2, .int .i64 0, .int .i64 0, .int .i64 0, .bool false]) := hVC
  clear hVC hset hV2
  refine (number_any w0 V2 g (m + 2) v2 r2 HB0.out KG.out.1 RG.out (by have := GW.out; have := O1.out; have := O2.out; have := O3.out; have := O4.out; have := O5.out; omega) KG.out.2.1 (fun y hy => Nat.le_trans (KG.out.2.2 y hy) (by decide))).mono ?_
  rintro e w3 ⟨ho, ⟨hn, rfl⟩ | ⟨x3, r3, v3, hn, rfl, hkr, hB⟩⟩
  · have HF : Hid (Out [g] w w3 ∧ oB = none) := by
      refine ⟨HO.out.trans ho, ?_⟩
      rw [← HP.out]
      have N3 : Hid (numP r2 = none) := hn
      simp only [kidsP, N1.out, N2.out, N3.out, Option.bind_some, Option.bind_none]
    clear hn ho
    unfold misfit
    go_wp2_with fail
    exact ⟨rfl, HF.out.1, .inl ⟨HF.out.2, rfl⟩⟩
  have N3 : Hid (numP r2 = some (x3, r3)) := hn
  have HB0n : Hid (Below w0.heap.size w0 w3) := below_out HB0.out ho (by have := GW.out; have := O1.out; have := O2.out; have := O3.out; have := O4.out; have := O5.out; omega)
  clear HB0
  have HB0 := HB0n
  clear HB0n
  have HOn : Hid (Out [g] w w3) := HO.out.trans ho
  clear HO
  have HO := HOn
  clear HOn
  have VRn : Hid (Blk w3 w.heap.size 27 #[.slice none 0 0, .int .i64 0, .int .i64 0, .int .i64 0, .int .i64 0, .bool false]) := VR.out.outX ho (by have := GW.out; have := O1.out; have := O2.out; have := O3.out; have := O4.out; have := O5.out; simp <;> omega)
  clear VR
  have VR := VRn
  clear VRn
  have LTn : Hid (OwnT w3 W1.heap.size (.slice pa1 x1.length pc1) x1) := Out.row ho (fun b hb => by have := BLT.out b hb; have := GW.out; have := O1.out; have := O2.out; have := O3.out; have := O4.out; have := O5.out; simp <;> omega) LT.out
  clear LT
  have LT := LTn
  clear LTn
  have VCn : Hid (Blk w3 (w.heap.size + 1) 27 #[.slice pa1 x1.length pc1, .int .i64 x2, .int .i64 0, .int .i64 0, .int .i64 0, .bool false]) := VC.out.outX ho (by have := GW.out; have := O1.out; have := O2.out; have := O3.out; have := O4.out; have := O5.out; simp <;> omega)
  clear VC
  have VC := VCn
  clear VCn
  clear RG
  have O6 : Hid (V2.heap.size ≤ w3.heap.size) := ho.size
  have RG : Hid (Blk w3 g 134 #[v3]) := hB
  have KGn : Hid (KcAt w0 (m + 3) v3 r3 ∧ SzL r3) := ⟨hkr, KG.out.2.num hn⟩
  clear KG
  have KG := KGn
  clear KGn hn ho hkr hB
  have cc : w3.cell? ⟨w.heap.size + 1, 2, none⟩ = some (.int .i64 0) := VC.out.cell 2
  have cf := VC.out.free 2
  go_wp2_with fail
  clear cc cf
  obtain ⟨V3, hV3⟩ : ∃ V, V = w3.setCell ⟨w.heap.size + 1, 2, none⟩ (.int .i64 x3) := ⟨_, rfl⟩
  rw [← hV3]
  have hset : Out [w.heap.size + 1] w3 V3 := by rw [hV3]; exact out_set _ _ _
  have hVC : Blk V3 (w.heap.size + 1) 27 #[.slice pa1 x1.length pc1, .int .i64 x2, .int .i64 x3, .int .i64 0, .int .i64 0, .bool false] := by rw [hV3]; exact VC.out.set 2 _
  have HB0n : Hid (Below w0.heap.size w0 V3) := below_out HB0.out hset (by have := GW.out; have := O1.out; have := O2.out; have := O3.out; have := O4.out; have := O5.out; have := O6.out; omega)
  clear HB0
  have HB0 := HB0n
  clear HB0n
  have HOn : Hid (Out [g] w V3) := HO.out.aside hset (by have := GW.out; have := O1.out; have := O2.out; have := O3.out; have := O4.out; have := O5.out; have := O6.out; omega)
  clear HO
  have HO := HOn
  clear HOn
  have VRn : Hid (Blk V3 w.heap.size 27 #[.slice none 0 0, .int .i64 0, .int .i64 0, .int .i64 0, .int .i64 0, .bool false]) := VR.out.outX hset (by have := GW.out; have := O1.out; have := O2.out; have := O3.out; have := O4.out; have := O5.out; have := O6.out; simp <;> omega)
  clear VR
  have VR := VRn
  clear VRn
  have LTn : Hid (OwnT V3 W1.heap.size (.slice pa1 x1.length pc1) x1) := Out.row hset (fun b hb => by have := BLT.out b hb; have := GW.out; have := O1.out; have := O2.out; have := O3.out; have := O4.out; have := O5.out; have := O6.out; simp <;> omega) LT.out
  clear LT
  have LT := LTn
  clear LTn
  have RGn : Hid (Blk V3 g 134 #[v3]) := RG.out.outX hset (by have := GW.out; have := O1.out; have := O2.out; have := O3.out; have := O4.out; have := O5.out; have := O6.out; simp <;> omega)
  clear RG
  have RG := RGn
  clear RGn
  clear VC
  have O7 : Hid (w3.heap.size ≤ V3.heap.size) := hset.size
  have VC : Hid (Blk V3 (w.heap.size + 1) 27 #[.slice pa1 x1.length pc1, .int .i64 x2, .int .i64 x3, .int .i64 0, .int .i64 0, .bool false]) := hVC
  clear hVC hset hV3
  refine (number_any w0 V3 g (m + 2) v3 r3 HB0.out KG.out.1 RG.out (by have := GW.out; have := O1.out; have := O2.out; have := O3.out; have := O4.out; have := O5.out; have := O6.out; have := O7.out; omega) KG.out.2.1 (fun y hy => Nat.le_trans (KG.out.2.2 y hy) (by decide))).mono ?_
  rintro e w4 ⟨ho, ⟨hn, rfl⟩ | ⟨x4, r4, v4, hn, rfl, hkr, hB⟩⟩
  · have HF : Hid (Out [g] w w4 ∧ oB = none) := by
      refine ⟨HO.out.trans ho, ?_⟩
      rw [← HP.out]
      have N4 : Hid (numP r3 = none) := hn
      simp only [kidsP, N1.out, N2.out, N3.out, N4.out, Option.bind_some, Option.bind_none]
    clear hn ho
    unfold misfit
    go_wp2_with fail
    exact ⟨rfl, HF.out.1, .inl ⟨HF.out.2, rfl⟩⟩
  have N4 : Hid (numP r3 = some (x4, r4)) := hn
  have HB0n : Hid (Below w0.heap.size w0 w4) := below_out HB0.out ho (by have := GW.out; have := O1.out; have := O2.out; have := O3.out; have := O4.out; have := O5.out; have := O6.out; have := O7.out; omega)
  clear HB0
  have HB0 := HB0n
  clear HB0n
  have HOn : Hid (Out [g] w w4) := HO.out.trans ho
  clear HO
  have HO := HOn
  clear HOn
  have VRn : Hid (Blk w4 w.heap.size 27 #[.slice none 0 0, .int .i64 0, .int .i64 0, .int .i64 0, .int .i64 0, .bool false]) := VR.out.outX ho (by have := GW.out; have := O1.out; have := O2.out; have := O3.out; have := O4.out; have := O5.out; have := O6.out; have := O7.out; simp <;> omega)
  clear VR
  have VR := VRn
  clear VRn
  have LTn : Hid (OwnT w4 W1.heap.size (.slice pa1 x1.length pc1) x1) := Out.row ho (fun b hb => by have := BLT.out b hb; have := GW.out; have := O1.out; have := O2.out; have := O3.out; have := O4.out; have := O5.out; have := O6.out; have := O7.out; simp <;> omega) LT.out
  clear LT
  have LT := LTn
  clear LTn
  have VCn : Hid (Blk w4 (w.heap.size + 1) 27 #[.slice pa1 x1.length pc1, .int .i64 x2, .int .i64 x3, .int .i64 0, .int .i64 0, .bool false]) := VC.out.outX ho (by have := GW.out; have := O1.out; have := O2.out; have := O3.out; have := O4.out; have := O5.out; have := O6.out; have := O7.out; simp <;> omega)
  clear VC
  have VC := VCn
  clear VCn
  clear RG
  have O8 : Hid (V3.heap.size ≤ w4.heap.size) := ho.size
  have RG : Hid (Blk w4 g 134 #[v4]) := hB
  have KGn : Hid (KcAt w0 (m + 3) v4 r4 ∧ SzL r4) := ⟨hkr, KG.out.2.num hn⟩
  clear KG
  have KG := KGn
  clear KGn hn ho hkr hB
  have cc : w4.cell? ⟨w.heap.size + 1, 3, none⟩ = some (.int .i64 0) := VC.out.cell 3
  have cf := VC.out.free 3
  go_wp2_with fail
  clear cc cf
  obtain ⟨V4, hV4⟩ : ∃ V, V = w4.setCell ⟨w.heap.size + 1, 3, none⟩ (.int .i64 x4) := ⟨_, rfl⟩
  rw [← hV4]
  have hset : Out [w.heap.size + 1] w4 V4 := by rw [hV4]; exact out_set _ _ _
  have hVC : Blk V4 (w.heap.size + 1) 27 #[.slice pa1 x1.length pc1, .int .i64 x2, .int .i64 x3, .int .i64 x4, .int .i64 0, .bool false] := by rw [hV4]; exact VC.out.set 3 _
  have HB0n : Hid (Below w0.heap.size w0 V4) := below_out HB0.out hset (by have := GW.out; have := O1.out; have := O2.out; have := O3.out; have := O4.out; have := O5.out; have := O6.out; have := O7.out; have := O8.out; omega)
  clear HB0
  have HB0 := HB0n
  clear HB0n
  have HOn : Hid (Out [g] w V4) := HO.out.aside hset (by have := GW.out; have := O1.out; have := O2.out; have := O3.out; have := O4.out; have := O5.out; have := O6.out; have := O7.out; have := O8.out; omega)
  clear HO
  have HO := HOn
  clear HOn
  have VRn : Hid (Blk V4 w.heap.size 27 #[.slice none 0 0, .int .i64 0, .int .i64 0, .int .i64 0, .int .i64 0, .bool false]) := VR.out.outX hset (by have := GW.out; have := O1.out; have := O2.out; have := O3.out; have := O4.out; have := O5.out; have := O6.out; have := O7.out; have := O8.out; simp <;> omega)
  clear VR
  have VR := VRn
  clear VRn
  have LTn : Hid (OwnT V4 W1.heap.size (.slice pa1 x1.length pc1) x1) := Out.row hset (fun b hb => by have := BLT.out b hb; have := GW.out; have := O1.out; have := O2.out; have := O3.out; have := O4.out; have := O5.out; have := O6.out; have := O7.out; have := O8.out; simp <;> omega) LT.out
  clear LT
  have LT := LTn
  clear LTn
  have RGn : Hid (Blk V4 g 134 #[v4]) := RG.out.outX hset (by have := GW.out; have := O1.out; have := O2.out; have := O3.out; have := O4.out; have := O5.out; have := O6.out; have := O7.out; have := O8.out; simp <;> omega)
  clear RG
  have RG := RGn
  clear RGn
  clear VC
  have O9 : Hid (w4.heap.size ≤ V4.heap.size) := hset.size
  have VC : Hid (Blk V4 (w.heap.size + 1) 27 #[.slice pa1 x1.length pc1, .int .i64 x2, .int .i64 x3, .int .i64 x4, .int .i64 0, .bool false]) := hVC
  clear hVC hset hV4
  refine (number_any w0 V4 g (m + 2) v4 r4 HB0.out KG.out.1 RG.out (by have := GW.out; have := O1.out; have := O2.out; have := O3.out; have := O4.out; have := O5.out; have := O6.out; have := O7.out; have := O8.out; have := O9.out; omega) KG.out.2.1 (fun y hy => Nat.le_trans (KG.out.2.2 y hy) (by decide))).mono ?_
  rintro e w5 ⟨ho, ⟨hn, rfl⟩ | ⟨x5, r5, v5, hn, rfl, hkr, hB⟩⟩
  · have HF : Hid (Out [g] w w5 ∧ oB = none) := by
      refine ⟨HO.out.trans ho, ?_⟩
      rw [← HP.out]
      have N5 : Hid (numP r4 = none) := hn
      simp only [kidsP, N1.out, N2.out, N3.out, N4.out, N5.out, Option.bind_some, Option.bind_none]
    clear hn ho
    unfold misfit
    go_wp2_with fail
    exact ⟨rfl, HF.out.1, .inl ⟨HF.out.2, rfl⟩⟩
  have N5 : Hid (numP r4 = some (x5, r5)) := hn
  have HB0n : Hid (Below w0.heap.size w0 w5) := below_out HB0.out ho (by have := GW.out; have := O1.out; have := O2.out; have := O3.out; have := O4.out; have := O5.out; have := O6.out; have := O7.out; have := O8.out; have := O9.out; omega)
  clear HB0
  have HB0 := HB0n
  clear HB0n
  have HOn : Hid (Out [g] w w5) := HO.out.trans ho
  clear HO
  have HO := HOn
  clear HOn
  have VRn : Hid (Blk w5 w.heap.size 27 #[.slice none 0 0, .int .i64 0, .int .i64 0, .int .i64 0, .int .i64 0, .bool false]) := VR.out.outX ho (by have := GW.out; have := O1.out; have := O2.out; have := O3.out; have := O4.out; have := O5.out; have := O6.out; have := O7.out; have := O8.out; have := O9.out; simp <;> omega)
  clear VR
  have VR := VRn
  clear VRn
  have LTn : Hid (OwnT w5 W1.heap.size (.slice pa1 x1.length pc1) x1) := Out.row ho (fun b hb => by have := BLT.out b hb; have := GW.out; have := O1.out; have := O2.out; have := O3.out; have := O4.out; have := O5.out; have := O6.out; have := O7.out; have := O8.out; have := O9.out; simp <;> omega) LT.out
  clear LT
  have LT := LTn
  clear LTn
  have VCn : Hid (Blk w5 (w.heap.size + 1) 27 #[.slice pa1 x1.length pc1, .int .i64 x2, .int .i64 x3, .int .i64 x4, .int .i64 0, .bool false]) := VC.out.outX ho (by have := GW.out; have := O1.out; have := O2.out; have := O3.out; have := O4.out; have := O5.out; have := O6.out; have := O7.out; have := O8.out; have := O9.out; simp <;> omega)
  clear VC
  have VC := VCn
  clear VCn
  clear RG
  have O10 : Hid (V4.heap.size ≤ w5.heap.size) := ho.size
  have RG : Hid (Blk w5 g 134 #[v5]) := hB
  have KGn : Hid (KcAt w0 (m + 3) v5 r5 ∧ SzL r5) := ⟨hkr, KG.out.2.num hn⟩
  clear KG
  have KG := KGn
  clear KGn hn ho hkr hB
  have cc : w5.cell? ⟨w.heap.size + 1, 4, none⟩ = some (.int .i64 0) := VC.out.cell 4
  have cf := VC.out.free 4
  go_wp2_with fail
  clear cc cf
  obtain ⟨V5, hV5⟩ : ∃ V, V = w5.setCell ⟨w.heap.size + 1, 4, none⟩ (.int .i64 x5) := ⟨_, rfl⟩
  rw [← hV5]
  have hset : Out [w.heap.size + 1] w5 V5 := by rw [hV5]; exact out_set _ _ _
  have hVC : Blk V5 (w.heap.size + 1) 27 #[.slice pa1 x1.length pc1, .int .i64 x2, .int .i64 x3, .int .i64 x4, .int .i64 x5, .bool false] := by rw [hV5]; exact VC.out.set 4 _
  have HB0n : Hid (Below w0.heap.size w0 V5) := below_out HB0.out hset (by have := GW.out; have := O1.out; have := O2.out; have := O3.out; have := O4.out; have := O5.out; have := O6.out; have := O7.out; have := O8.out; have := O9.out; have := O10.out; omega)
  clear HB0
  have HB0 := HB0n
  clear HB0n
  have HOn : Hid (Out [g] w V5) := HO.out.aside hset (by have := GW.out; have := O1.out; have := O2.out; have := O3.out; have := O4.out; have := O5.out; have := O6.out; have := O7.out; have := O8.out; have := O9.out; have := O10.out; omega)
  clear HO
  have HO := HOn
  clear HOn
  have VRn : Hid (Blk V5 w.heap.size 27 #[.slice none 0 0, .int .i64 0, .int .i64 0, .int .i64 0, .int .i64 0, .bool false]) := VR.out.outX hset (by have := GW.out; have := O1.out; have := O2.out; have := O3.out; have := O4.out; have := O5.out; have := O6.out; have := O7.out; have := O8.out; have := O9.out; have := O10.out; simp <;> omega)
  clear VR
  have VR := VRn
  clear VRn
  have LTn : Hid (OwnT V5 W1.heap.size (.slice pa1 x1.length pc1) x1) := Out.row hset (fun b hb => by have := BLT.out b hb; have := GW.out; have := O1.out; have := O2.out; have := O3.out; have := O4.out; have := O5.out; have := O6.out; have := O7.out; have := O8.out; have := O9.out; have := O10.out; simp <;> omega) LT.out
  clear LT
  have LT := LTn
  clear LTn
  have RGn : Hid (Blk V5 g 134 #[v5]) := RG.out.outX hset (by have := GW.out; have := O1.out; have := O2.out; have := O3.out; have := O4.out; have := O5.out; have := O6.out; have := O7.out; have := O8.out; have := O9.out; have := O10.out; simp <;> omega)
  clear RG
  have RG := RGn
  clear RGn
  clear VC
  have O11 : Hid (w5.heap.size ≤ V5.heap.size) := hset.size
  have VC : Hid (Blk V5 (w.heap.size + 1) 27 #[.slice pa1 x1.length pc1, .int .i64 x2, .int .i64 x3, .int .i64 x4, .int .i64 x5, .bool false]) := hVC
  clear hVC hset hV5
  refine (rflag_any w0 V5 g (m + 2) v5 r5 HB0.out KG.out.1 RG.out (by have := GW.out; have := O1.out; have := O2.out; have := O3.out; have := O4.out; have := O5.out; have := O6.out; have := O7.out; have := O8.out; have := O9.out; have := O10.out; have := O11.out; omega) KG.out.2.1).mono ?_
  rintro e w6 ⟨ho, ⟨hn, rfl⟩ | ⟨x6, r6, v6, hn, rfl, hkr, hB⟩⟩
  · have HF : Hid (Out [g] w w6 ∧ oB = none) := by
      refine ⟨HO.out.trans ho, ?_⟩
      rw [← HP.out]
      have N6 : Hid (flgP r5 = none) := hn
      simp only [kidsP, N1.out, N2.out, N3.out, N4.out, N5.out, N6.out, Option.bind_some, Option.bind_none]
    clear hn ho
    unfold misfit
    go_wp2_with fail
    exact ⟨rfl, HF.out.1, .inl ⟨HF.out.2, rfl⟩⟩
  have N6 : Hid (flgP r5 = some (x6, r6)) := hn
  have HB0n : Hid (Below w0.heap.size w0 w6) := below_out HB0.out ho (by have := GW.out; have := O1.out; have := O2.out; have := O3.out; have := O4.out; have := O5.out; have := O6.out; have := O7.out; have := O8.out; have := O9.out; have := O10.out; have := O11.out; omega)
  clear HB0
  have HB0 := HB0n
  clear HB0n
  have HOn : Hid (Out [g] w w6) := HO.out.trans ho
  clear HO
  have HO := HOn
  clear HOn
  have VRn : Hid (Blk w6 w.heap.size 27 #[.slice none 0 0, .int .i64 0, .int .i64 0, .int .i64 0, .int .i64 0, .bool false]) := VR.out.outX ho (by have := GW.out; have := O1.out; have := O2.out; have := O3.out; have := O4.out; have := O5.out; have := O6.out; have := O7.out; have := O8.out; have := O9.out; have := O10.out; have := O11.out; simp <;> omega)
  clear VR
  have VR := VRn
  clear VRn
  have LTn : Hid (OwnT w6 W1.heap.size (.slice pa1 x1.length pc1) x1) := Out.row ho (fun b hb => by have := BLT.out b hb; have := GW.out; have := O1.out; have := O2.out; have := O3.out; have := O4.out; have := O5.out; have := O6.out; have := O7.out; have := O8.out; have := O9.out; have := O10.out; have := O11.out; simp <;> omega) LT.out
  clear LT
  have LT := LTn
  clear LTn
  have VCn : Hid (Blk w6 (w.heap.size + 1) 27 #[.slice pa1 x1.length pc1, .int .i64 x2, .int .i64 x3, .int .i64 x4, .int .i64 x5, .bool false]) := VC.out.outX ho (by have := GW.out; have := O1.out; have := O2.out; have := O3.out; have := O4.out; have := O5.out; have := O6.out; have := O7.out; have := O8.out; have := O9.out; have := O10.out; have := O11.out; simp <;> omega)
  clear VC
  have VC := VCn
  clear VCn
  clear RG
  have O12 : Hid (V5.heap.size ≤ w6.heap.size) := ho.size
  have RG : Hid (Blk w6 g 134 #[v6]) := hB
  have KGn : Hid (KcAt w0 (m + 3) v6 r6 ∧ SzL r6) := ⟨hkr, KG.out.2.flg hn⟩
  clear KG
  have KG := KGn
  clear KGn hn ho hkr hB
  have cc : w6.cell? ⟨w.heap.size + 1, 5, none⟩ = some (.bool false) := VC.out.cell 5
  have cf := VC.out.free 5
  go_wp2_with fail
  clear cc cf
  obtain ⟨V6, hV6⟩ : ∃ V, V = w6.setCell ⟨w.heap.size + 1, 5, none⟩ (.bool x6) := ⟨_, rfl⟩
  rw [← hV6]
  have hset : Out [w.heap.size + 1] w6 V6 := by rw [hV6]; exact out_set _ _ _
  have hVC : Blk V6 (w.heap.size + 1) 27 #[.slice pa1 x1.length pc1, .int .i64 x2, .int .i64 x3, .int .i64 x4, .int .i64 x5, .bool x6] := by rw [hV6]; exact VC.out.set 5 _
  have HB0n : Hid (Below w0.heap.size w0 V6) := below_out HB0.out hset (by have := GW.out; have := O1.out; have := O2.out; have := O3.out; have := O4.out; have := O5.out; have := O6.out; have := O7.out; have := O8.out; have := O9.out; have := O10.out; have := O11.out; have := O12.out; omega)
  clear HB0
  have HB0 := HB0n
  clear HB0n
  have HOn : Hid (Out [g] w V6) := HO.out.aside hset (by have := GW.out; have := O1.out; have := O2.out; have := O3.out; have := O4.out; have := O5.out; have := O6.out; have := O7.out; have := O8.out; have := O9.out; have := O10.out; have := O11.out; have := O12.out; omega)
  clear HO
  have HO := HOn
  clear HOn
  have VRn : Hid (Blk V6 w.heap.size 27 #[.slice none 0 0, .int .i64 0, .int .i64 0, .int .i64 0, .int .i64 0, .bool false]) := VR.out.outX hset (by have := GW.out; have := O1.out; have := O2.out; have := O3.out; have := O4.out; have := O5.out; have := O6.out; have := O7.out; have := O8.out; have := O9.out; have := O10.out; have := O11.out; have := O12.out; simp <;> omega)
  clear VR
  have VR := VRn
  clear VRn
  have LTn : Hid (OwnT V6 W1.heap.size (.slice pa1 x1.length pc1) x1) := Out.row hset (fun b hb => by have := BLT.out b hb; have := GW.out; have := O1.out; have := O2.out; have := O3.out; have := O4.out; have := O5.out; have := O6.out; have := O7.out; have := O8.out; have := O9.out; have := O10.out; have := O11.out; have := O12.out; simp <;> omega) LT.out
  clear LT
  have LT := LTn
  clear LTn
  have RGn : Hid (Blk V6 g 134 #[v6]) := RG.out.outX hset (by have := GW.out; have := O1.out; have := O2.out; have := O3.out; have := O4.out; have := O5.out; have := O6.out; have := O7.out; have := O8.out; have := O9.out; have := O10.out; have := O11.out; have := O12.out; simp <;> omega)
  clear RG
  have RG := RGn
  clear RGn
  clear VC
  have O13 : Hid (w6.heap.size ≤ V6.heap.size) := hset.size
  have VC : Hid (Blk V6 (w.heap.size + 1) 27 #[.slice pa1 x1.length pc1, .int .i64 x2, .int .i64 x3, .int .i64 x4, .int .i64 x5, .bool x6]) := hVC
  clear hVC hset hV6
  obtain ⟨ea7, ec7, he7⟩ := KG.out.1.shape
  have hRE : Blk V6 g 134 #[.slice ea7 r6.length ec7] := by rw [← he7]; exact RG.out
  refine (end_any V6 g r6.length ec7 ea7 r6 rfl hRE).mono ?_
  rintro e w7 ⟨hb, ⟨hn, rfl⟩ | ⟨hnil, hn, rfl⟩⟩
  · have HF : Hid (Out [g] w w7 ∧ oB = none) := by
      refine ⟨HO.out.trans (Out.of_below hb), ?_⟩
      rw [← HP.out]
      have N7 : Hid (endP r6 = none) := hn
      simp only [kidsP, N1.out, N2.out, N3.out, N4.out, N5.out, N6.out, N7.out, Option.bind_some, Option.bind_none]
    clear hn hb
    unfold misfit
    go_wp2_with fail
    exact ⟨rfl, HF.out.1, .inl ⟨HF.out.2, rfl⟩⟩
  have N7 : Hid (endP r6 = some ()) := hn
  have HB0n : Hid (Below w0.heap.size w0 w7) := HB0.out.trans (hb.mono HB0.out.size)
  clear HB0
  have HB0 := HB0n
  clear HB0n
  have HOn : Hid (Out [g] w w7) := HO.out.trans (Out.of_below hb)
  clear HO
  have HO := HOn
  clear HOn
  have VRn : Hid (Blk w7 w.heap.size 27 #[.slice none 0 0, .int .i64 0, .int .i64 0, .int .i64 0, .int .i64 0, .bool false]) := VR.out.on hb
  clear VR
  have VR := VRn
  clear VRn
  have LTn : Hid (OwnT w7 W1.heap.size (.slice pa1 x1.length pc1) x1) := OwnT.stays LT.out hb
  clear LT
  have LT := LTn
  clear LTn
  have RGn : Hid (Blk w7 g 134 #[v6]) := RG.out.on hb
  clear RG
  have RG := RGn
  clear RGn
  have VCn : Hid (Blk w7 (w.heap.size + 1) 27 #[.slice pa1 x1.length pc1, .int .i64 x2, .int .i64 x3, .int .i64 x4, .int .i64 x5, .bool x6]) := VC.out.on hb
  clear VC
  have VC := VCn
  clear VCn
  have O14 : Hid (V6.heap.size ≤ w7.heap.size) := hb.size
  clear hn hb hnil hRE he7
  have HF : Hid (oB = some ⟨x1, x2, x3, x4, x5, x6⟩) := by
    show oB = _
    rw [← HP.out]
    simp only [kidsP, N1.out, N2.out, N3.out, N4.out, N5.out, N6.out, N7.out, Option.bind_some, Option.bind_none]
  have c10 : w7.cell? ⟨w.heap.size, 0, none⟩ = some (.slice none 0 0) := VR.out.cell 0
  have c20 : w7.cell? ⟨w.heap.size + 1, 0, none⟩ = some (.slice pa1 x1.length pc1) := VC.out.cell 0
  have c11 : w7.cell? ⟨w.heap.size, 1, none⟩ = some (.int .i64 0) := VR.out.cell 1
  have c21 : w7.cell? ⟨w.heap.size + 1, 1, none⟩ = some (.int .i64 x2) := VC.out.cell 1
  have c12 : w7.cell? ⟨w.heap.size, 2, none⟩ = some (.int .i64 0) := VR.out.cell 2
  have c22 : w7.cell? ⟨w.heap.size + 1, 2, none⟩ = some (.int .i64 x3) := VC.out.cell 2
  have c13 : w7.cell? ⟨w.heap.size, 3, none⟩ = some (.int .i64 0) := VR.out.cell 3
  have c23 : w7.cell? ⟨w.heap.size + 1, 3, none⟩ = some (.int .i64 x4) := VC.out.cell 3
  have c14 : w7.cell? ⟨w.heap.size, 4, none⟩ = some (.int .i64 0) := VR.out.cell 4
  have c24 : w7.cell? ⟨w.heap.size + 1, 4, none⟩ = some (.int .i64 x5) := VC.out.cell 4
  have c15 : w7.cell? ⟨w.heap.size, 5, none⟩ = some (.bool false) := VR.out.cell 5
  have c25 : w7.cell? ⟨w.heap.size + 1, 5, none⟩ = some (.bool x6) := VC.out.cell 5
  have f1 := fun j => VR.out.free j
  go_wp2_with fail
  refine bodyPost_ret (v := .agg #[.slice pa1 x1.length pc1, .int .i64 x2, .int .i64 x3, .int .i64 x4, .int .i64 x5, .bool x6]) (by simp [results, Try.results58, go_sem, c10, c11, c12, c13, c14, c15]; try rfl) rfl ?_
  have FIN : ∀ V : World, Out [w.heap.size] w7 V → QuPost w0 w g oB (.returned (.agg #[.slice pa1 x1.length pc1, .int .i64 x2, .int .i64 x3, .int .i64 x4, .int .i64 x5, .bool x6])) V := fun V hV => by
    refine ⟨HO.out.aside hV (Nat.le_refl _), .inr ⟨⟨x1, x2, x3, x4, x5, x6⟩, _, v6, HF.out, rfl, ?_, RG.out.outX hV (by have := GW.out; have := O1.out; have := O2.out; have := O3.out; have := O4.out; have := O5.out; have := O6.out; have := O7.out; have := O8.out; have := O9.out; have := O10.out; have := O11.out; have := O12.out; have := O13.out; have := O14.out; simp <;> omega)⟩⟩
    exact ⟨_, rfl, OwnT.base (Out.row hV (fun b hb => by have := BLT.out b hb; have := GW.out; have := O1.out; have := O2.out; have := O3.out; have := O4.out; have := O5.out; have := O6.out; have := O7.out; have := O8.out; have := O9.out; have := O10.out; have := O11.out; have := O12.out; have := O13.out; have := O14.out; simp <;> omega) LT.out) (by have := GW.out; have := O1.out; have := O2.out; have := O3.out; have := O4.out; have := O5.out; have := O6.out; have := O7.out; have := O8.out; have := O9.out; have := O10.out; have := O11.out; have := O12.out; have := O13.out; have := O14.out; omega)⟩
  apply FIN
  iterate 6 refine Out.setCell ?_ _ _ (by simp)
  exact Out.refl _ _
end Go.Proofs.Ytbiiihjohbnodaa
