/-
  Texts of the proof, one behind the other: CtA, ItN.
-/
import Derived.Test.YtajbalokcfghbaaC13
import Derived.Test.YtajbalokcfghbaaC23
import Derived.Test.YtajbalokcfghbaaC24

/-
  The program's letter: a whole letter, read by a reader.
-/
namespace Go.Proofs.Ytajbalokcfghbaa
open Go.RowKit Der
set_option linter.unusedVariables false
set_option linter.unusedSimpArgs false

/-- A letter read of a list's kids. -/
def wholeP {m : Nat} (ks : List (It (m + 3))) : Option Ct := (lstP ks).bind fun b => (bodyP b.1).bind fun c => (txtP 4 b.2).bind fun s => (endP s.2).bind fun _ => some { c with sig := s.1 }
theorem letP_whole {m : Nat} (x : It (m + 4)) : letP x = if It.tag x = 48 then wholeP (It.kids x) else none := rfl
theorem set13 {V0 : World} {p : Nat} {ta : TypeId} {a0 a1 a2 a3 a4 a5 a6 a7 a8 a9 a10 a11 a12 z0 z1 z2 z3 z4 z5 z6 z7 z8 z9 z10 z11 z12 : Value} (h : Blk V0 p ta #[a0, a1, a2, a3, a4, a5, a6, a7, a8, a9, a10, a11, a12]) : Blk (((((((((((((V0.setCell ⟨p, 0, none⟩ z0).setCell ⟨p, 1, none⟩ z1).setCell ⟨p, 2, none⟩ z2).setCell ⟨p, 3, none⟩ z3).setCell ⟨p, 4, none⟩ z4).setCell ⟨p, 5, none⟩ z5).setCell ⟨p, 6, none⟩ z6).setCell ⟨p, 7, none⟩ z7).setCell ⟨p, 8, none⟩ z8).setCell ⟨p, 9, none⟩ z9).setCell ⟨p, 10, none⟩ z10).setCell ⟨p, 11, none⟩ z11).setCell ⟨p, 12, none⟩ z12) p ta #[z0, z1, z2, z3, z4, z5, z6, z7, z8, z9, z10, z11, z12] := by
  have g0 : Blk _ p ta #[z0, a1, a2, a3, a4, a5, a6, a7, a8, a9, a10, a11, a12] := h.set 0 z0
  have g1 : Blk _ p ta #[z0, z1, a2, a3, a4, a5, a6, a7, a8, a9, a10, a11, a12] := g0.set 1 z1
  have g2 : Blk _ p ta #[z0, z1, z2, a3, a4, a5, a6, a7, a8, a9, a10, a11, a12] := g1.set 2 z2
  have g3 : Blk _ p ta #[z0, z1, z2, z3, a4, a5, a6, a7, a8, a9, a10, a11, a12] := g2.set 3 z3
  have g4 : Blk _ p ta #[z0, z1, z2, z3, z4, a5, a6, a7, a8, a9, a10, a11, a12] := g3.set 4 z4
  have g5 : Blk _ p ta #[z0, z1, z2, z3, z4, z5, a6, a7, a8, a9, a10, a11, a12] := g4.set 5 z5
  have g6 : Blk _ p ta #[z0, z1, z2, z3, z4, z5, z6, a7, a8, a9, a10, a11, a12] := g5.set 6 z6
  have g7 : Blk _ p ta #[z0, z1, z2, z3, z4, z5, z6, z7, a8, a9, a10, a11, a12] := g6.set 7 z7
  have g8 : Blk _ p ta #[z0, z1, z2, z3, z4, z5, z6, z7, z8, a9, a10, a11, a12] := g7.set 8 z8
  have g9 : Blk _ p ta #[z0, z1, z2, z3, z4, z5, z6, z7, z8, z9, a10, a11, a12] := g8.set 9 z9
  have g10 : Blk _ p ta #[z0, z1, z2, z3, z4, z5, z6, z7, z8, z9, z10, a11, a12] := g9.set 10 z10
  have g11 : Blk _ p ta #[z0, z1, z2, z3, z4, z5, z6, z7, z8, z9, z10, z11, a12] := g10.set 11 z11
  have g12 : Blk _ p ta #[z0, z1, z2, z3, z4, z5, z6, z7, z8, z9, z10, z11, z12] := g11.set 12 z12
  exact g12
set_option maxHeartbeats 12800000 in
set_option maxRecDepth 100000 in
theorem letter_any (w0 w : World) (g m : Nat) (v : Value) (ks : List (It (m + 3))) (hw : Below w0.heap.size w0 w) (hk : KcAt w0 (m + 3) v ks) (hr : Blk w g 139 #[v]) (hg : w0.heap.size ≤ g) (hz : SzL ks) :
    Calls Try.prog 54 #[.pointer (some ⟨g, 0, none⟩)] w fun e W' => BodyPost w0 w g (wholeP ks) e W' := by
  obtain ⟨oB, hoB⟩ : ∃ b, wholeP ks = b := ⟨_, rfl⟩
  have HP : Hid (wholeP ks = oB) := hoB
  rw [hoB]
  clear hoB
  have KW : Hid (KcAt w0 (m + 3) v ks ∧ SzL ks) := ⟨hk, hz⟩
  have O0 : Hid (w0.heap.size ≤ g ∧ g < w.heap.size ∧ w0.heap.size ≤ w.heap.size) := ⟨hg, hr.lt, hw.size⟩
  clear hk hz hg
  go_enter Try.func54, Try.ntmps54
  go_wp2_with fail
  obtain ⟨W1, hW1⟩ : ∃ V, V = w.alloc (Obj.cells #[.int .i64 0, .string ⟨#[]⟩, .string ⟨#[]⟩, .int .i64 0, .int .i64 0, .string ⟨#[]⟩, .bool false, .int .i64 0, .int .i64 0, .slice none 0 0, .slice none 0 0, .slice none 0 0, .string ⟨#[]⟩] 29) := ⟨_, rfl⟩
  rw [← hW1]
  have hb1 : Below w.heap.size w W1 := by rw [hW1]; exact (Below.refl _ _).alloc (Nat.le_refl _) _
  have hv1 : Blk W1 w.heap.size 29 #[.int .i64 0, .string ⟨#[]⟩, .string ⟨#[]⟩, .int .i64 0, .int .i64 0, .string ⟨#[]⟩, .bool false, .int .i64 0, .int .i64 0, .slice none 0 0, .slice none 0 0, .slice none 0 0, .string ⟨#[]⟩] := by rw [hW1]; exact Blk.new w _ _
  have hs1 : W1.heap.size = w.heap.size + 1 := by rw [hW1]; exact size_alloc _ _
  have HB : Hid (Below w0.heap.size w0 W1) := hw.trans (hb1.mono hw.size)
  have HO : Hid (Out [g] w W1) := Out.of_below hb1
  have VC : Hid (Blk W1 w.heap.size 29 #[.int .i64 0, .string ⟨#[]⟩, .string ⟨#[]⟩, .int .i64 0, .int .i64 0, .string ⟨#[]⟩, .bool false, .int .i64 0, .int .i64 0, .slice none 0 0, .slice none 0 0, .slice none 0 0, .string ⟨#[]⟩]) := hv1
  have RW : Hid (Blk W1 g 139 #[v]) := hr.below hb1 hr.lt
  have O1 : Hid (W1.heap.size = w.heap.size + 1) := hs1
  clear hW1 hb1 hv1 hs1 hr hw
  refine (list_any w0 W1 g (m + 2) v ks HB.out KW.out.1 RW.out (by have := O0.out; have := O1.out; omega) KW.out.2.1).mono ?_
  rintro e w2 ⟨ho, ⟨hn, rfl⟩ | ⟨i2, r2, v2, vi2, gi, hn, rfl, hgi, hki, hkr, hB, hBi⟩⟩
  · have HF : Hid (Out [g] w w2 ∧ oB = none) := by
      refine ⟨HO.out.trans ho, ?_⟩
      rw [← HP.out]
      unfold wholeP; simp only [hn, Option.bind_some, Option.bind_none]
    clear hn ho
    unfold misfit
    go_wp2_with fail
    exact ⟨rfl, HF.out.1, .inl ⟨HF.out.2, rfl⟩⟩
  have N2 : Hid (lstP ks = some (i2, r2)) := hn
  have HBn : Hid (Below w0.heap.size w0 w2) := below_out HB.out ho (by have := O0.out; have := O1.out; omega)
  clear HB
  have HB := HBn
  clear HBn
  have HOn : Hid (Out [g] w w2) := HO.out.trans ho
  clear HO
  have HO := HOn
  clear HOn
  have VCn : Hid (Blk w2 w.heap.size 29 #[.int .i64 0, .string ⟨#[]⟩, .string ⟨#[]⟩, .int .i64 0, .int .i64 0, .string ⟨#[]⟩, .bool false, .int .i64 0, .int .i64 0, .slice none 0 0, .slice none 0 0, .slice none 0 0, .string ⟨#[]⟩]) := VC.out.outX ho (by have := O0.out; have := O1.out; simp <;> omega)
  clear VC
  have VC := VCn
  clear VCn
  clear RW
  have O2 : Hid (W1.heap.size ≤ w2.heap.size) := ho.size
  have RW : Hid (Blk w2 g 139 #[v2]) := hB
  have RI : Hid (Blk w2 gi 139 #[vi2]) := hBi
  have O3 : Hid (W1.heap.size ≤ gi ∧ gi < w2.heap.size) := ⟨hgi, hBi.lt⟩
  have KI : Hid (KcAt w0 (m + 2) vi2 i2 ∧ SzL i2) := ⟨hki, (KW.out.2.lst hn).1⟩
  have KR : Hid (KcAt w0 (m + 3) v2 r2 ∧ SzL r2) := ⟨hkr, (KW.out.2.lst hn).2⟩
  clear hn ho hgi hki hkr hB hBi
  go_wp2_with fail
  refine (letterBody_any w0 w2 gi m vi2 i2 HB.out KI.out.1 RI.out (by have := O0.out; have := O1.out; have := O2.out; have := O3.out; omega) KI.out.2).mono ?_
  rintro e w3 ⟨ho, ⟨hn, rfl⟩ | ⟨c, u3, v3, hn, rfl, hown, hB⟩⟩
  · have HF : Hid (Out [g] w w3 ∧ oB = none) := by
      refine ⟨HO.out.aside ho (by have := O0.out; have := O1.out; have := O2.out; have := O3.out; omega), ?_⟩
      rw [← HP.out]
      unfold wholeP; simp only [N2.out, hn, Option.bind_some, Option.bind_none]
    clear hn ho
    unfold misfit
    go_wp2_with fail
    exact ⟨rfl, HF.out.1, .inl ⟨HF.out.2, rfl⟩⟩
  have N3 : Hid (bodyP i2 = some c) := hn
  have HBn : Hid (Below w0.heap.size w0 w3) := below_out HB.out ho (by have := O0.out; have := O1.out; have := O2.out; have := O3.out; omega)
  clear HB
  have HB := HBn
  clear HBn
  have HOn : Hid (Out [g] w w3) := HO.out.aside ho (by have := O0.out; have := O1.out; have := O2.out; have := O3.out; omega)
  clear HO
  have HO := HOn
  clear HOn
  have VCn : Hid (Blk w3 w.heap.size 29 #[.int .i64 0, .string ⟨#[]⟩, .string ⟨#[]⟩, .int .i64 0, .int .i64 0, .string ⟨#[]⟩, .bool false, .int .i64 0, .int .i64 0, .slice none 0 0, .slice none 0 0, .slice none 0 0, .string ⟨#[]⟩]) := VC.out.outX ho (by have := O0.out; have := O1.out; have := O2.out; have := O3.out; simp <;> omega)
  clear VC
  have VC := VCn
  clear VCn
  have RWn : Hid (Blk w3 g 139 #[v2]) := RW.out.outX ho (by have := O0.out; have := O1.out; have := O2.out; have := O3.out; simp <;> omega)
  clear RW
  have RW := RWn
  clear RWn
  clear RI
  have O4 : Hid (w2.heap.size ≤ w3.heap.size) := ho.size
  obtain ⟨pX, qX, eX, rX, dX, sX, hu⟩ := CtAt.shape hown.at
  subst hu
  unfold ctV at hown ⊢
  have LX : Hid (∀ b ∈ fpC (.agg #[.int .i64 c.serial, .string c.issuer, .string c.subject, .int .i64 c.frm, .int .i64 c.upto, .string c.key, .bool c.ca, .int .i64 c.pathLen, .int .i64 c.usage, .slice pX c.pol.length qX, .slice eX c.per.length rX, .slice dX c.den.length sX, .string c.sig]), w2.heap.size ≤ b ∧ b < w3.heap.size) := fpC_lt hown
  have HX : Hid (OwnC w3 w2.heap.size (.agg #[.int .i64 c.serial, .string c.issuer, .string c.subject, .int .i64 c.frm, .int .i64 c.upto, .string c.key, .bool c.ca, .int .i64 c.pathLen, .int .i64 c.usage, .slice pX c.pol.length qX, .slice eX c.per.length rX, .slice dX c.den.length sX, .string c.sig]) c) := hown
  clear hn ho hown hB KI
  go_wp2_with fail
  obtain ⟨V4, hV4⟩ : ∃ V, V = w3.alloc (Obj.cells #[.int .i64 c.serial, .string c.issuer, .string c.subject, .int .i64 c.frm, .int .i64 c.upto, .string c.key, .bool c.ca, .int .i64 c.pathLen, .int .i64 c.usage, .slice pX c.pol.length qX, .slice eX c.per.length rX, .slice dX c.den.length sX, .string c.sig] 29) := ⟨_, rfl⟩
  rw [← hV4]
  have hb4 : Below w3.heap.size w3 V4 := by rw [hV4]; exact (Below.refl _ _).alloc (Nat.le_refl _) _
  have hv4 : Blk V4 w3.heap.size 29 #[.int .i64 c.serial, .string c.issuer, .string c.subject, .int .i64 c.frm, .int .i64 c.upto, .string c.key, .bool c.ca, .int .i64 c.pathLen, .int .i64 c.usage, .slice pX c.pol.length qX, .slice eX c.per.length rX, .slice dX c.den.length sX, .string c.sig] := by rw [hV4]; exact Blk.new w3 _ _
  have hs4 : V4.heap.size = w3.heap.size + 1 := by rw [hV4]; exact size_alloc _ _
  have HBn : Hid (Below w0.heap.size w0 V4) := HB.out.trans (hb4.mono HB.out.size)
  clear HB
  have HB := HBn
  clear HBn
  have HOn : Hid (Out [g] w V4) := HO.out.trans (Out.of_below hb4)
  clear HO
  have HO := HOn
  clear HOn
  have VCn : Hid (Blk V4 w.heap.size 29 #[.int .i64 0, .string ⟨#[]⟩, .string ⟨#[]⟩, .int .i64 0, .int .i64 0, .string ⟨#[]⟩, .bool false, .int .i64 0, .int .i64 0, .slice none 0 0, .slice none 0 0, .slice none 0 0, .string ⟨#[]⟩]) := VC.out.on hb4
  clear VC
  have VC := VCn
  clear VCn
  have RWn : Hid (Blk V4 g 139 #[v2]) := RW.out.on hb4
  clear RW
  have RW := RWn
  clear RWn
  have HXn : Hid (OwnC V4 w2.heap.size (.agg #[.int .i64 c.serial, .string c.issuer, .string c.subject, .int .i64 c.frm, .int .i64 c.upto, .string c.key, .bool c.ca, .int .i64 c.pathLen, .int .i64 c.usage, .slice pX c.pol.length qX, .slice eX c.per.length rX, .slice dX c.den.length sX, .string c.sig]) c) := HX.out.stays hb4
  clear HX
  have HX := HXn
  clear HXn
  have O5 : Hid (w3.heap.size ≤ V4.heap.size) := hb4.size
  have VA : Hid (Blk V4 w3.heap.size 29 #[.int .i64 c.serial, .string c.issuer, .string c.subject, .int .i64 c.frm, .int .i64 c.upto, .string c.key, .bool c.ca, .int .i64 c.pathLen, .int .i64 c.usage, .slice pX c.pol.length qX, .slice eX c.per.length rX, .slice dX c.den.length sX, .string c.sig]) := hv4
  have O6 : Hid (V4.heap.size = w3.heap.size + 1) := hs4
  clear hV4 hb4 hv4 hs4
  refine (rbytes_any w0 V4 g (m + 2) v2 r2 HB.out KR.out.1 RW.out (by have := O0.out; have := O1.out; have := O2.out; have := O3.out; have := O4.out; have := O5.out; have := O6.out; omega) KR.out.2.1).mono ?_
  rintro e w5 ⟨ho, ⟨hn, rfl⟩ | ⟨xs, r5, v5, hn, rfl, hkr, hB⟩⟩
  · have HF : Hid (Out [g] w w5 ∧ oB = none) := by
      refine ⟨HO.out.trans ho, ?_⟩
      rw [← HP.out]
      unfold wholeP; simp only [N2.out, N3.out, hn, Option.bind_some, Option.bind_none]
    clear hn ho
    unfold misfit
    go_wp2_with fail
    exact ⟨rfl, HF.out.1, .inl ⟨HF.out.2, rfl⟩⟩
  have N5 : Hid (txtP 4 r2 = some (xs, r5)) := hn
  have HBn : Hid (Below w0.heap.size w0 w5) := below_out HB.out ho (by have := O0.out; have := O1.out; have := O2.out; have := O3.out; have := O4.out; have := O5.out; have := O6.out; omega)
  clear HB
  have HB := HBn
  clear HBn
  have HOn : Hid (Out [g] w w5) := HO.out.trans ho
  clear HO
  have HO := HOn
  clear HOn
  have VCn : Hid (Blk w5 w.heap.size 29 #[.int .i64 0, .string ⟨#[]⟩, .string ⟨#[]⟩, .int .i64 0, .int .i64 0, .string ⟨#[]⟩, .bool false, .int .i64 0, .int .i64 0, .slice none 0 0, .slice none 0 0, .slice none 0 0, .string ⟨#[]⟩]) := VC.out.outX ho (by have := O0.out; have := O1.out; have := O2.out; have := O3.out; have := O4.out; have := O5.out; have := O6.out; simp <;> omega)
  clear VC
  have VC := VCn
  clear VCn
  have HXn : Hid (OwnC w5 w2.heap.size (.agg #[.int .i64 c.serial, .string c.issuer, .string c.subject, .int .i64 c.frm, .int .i64 c.upto, .string c.key, .bool c.ca, .int .i64 c.pathLen, .int .i64 c.usage, .slice pX c.pol.length qX, .slice eX c.per.length rX, .slice dX c.den.length sX, .string c.sig]) c) := HX.out.out ho (fun b hb => by have := LX.out b hb; have := O0.out; have := O1.out; have := O2.out; have := O3.out; have := O4.out; have := O5.out; have := O6.out; simp <;> omega)
  clear HX
  have HX := HXn
  clear HXn
  have VAn : Hid (Blk w5 w3.heap.size 29 #[.int .i64 c.serial, .string c.issuer, .string c.subject, .int .i64 c.frm, .int .i64 c.upto, .string c.key, .bool c.ca, .int .i64 c.pathLen, .int .i64 c.usage, .slice pX c.pol.length qX, .slice eX c.per.length rX, .slice dX c.den.length sX, .string c.sig]) := VA.out.outX ho (by have := O0.out; have := O1.out; have := O2.out; have := O3.out; have := O4.out; have := O5.out; have := O6.out; simp <;> omega)
  clear VA
  have VA := VAn
  clear VAn
  clear RW
  have O7 : Hid (V4.heap.size ≤ w5.heap.size) := ho.size
  have RW : Hid (Blk w5 g 139 #[v5]) := hB
  have KRn : Hid (KcAt w0 (m + 3) v5 r5 ∧ SzL r5) := ⟨hkr, KR.out.2.txt hn⟩
  clear KR
  have KR := KRn
  clear KRn hn ho hkr hB
  have cc : w5.cell? ⟨w3.heap.size, 12, none⟩ = some (.string c.sig) := VA.out.cell 12
  have cf := VA.out.free 12
  go_wp2_with fail
  clear cc cf
  obtain ⟨V6, hV6⟩ : ∃ V, V = w5.setCell ⟨w3.heap.size, 12, none⟩ (.string xs) := ⟨_, rfl⟩
  rw [← hV6]
  have hset : Out [w3.heap.size] w5 V6 := by rw [hV6]; exact out_set _ _ _
  have hVA : Blk V6 w3.heap.size 29 #[.int .i64 c.serial, .string c.issuer, .string c.subject, .int .i64 c.frm, .int .i64 c.upto, .string c.key, .bool c.ca, .int .i64 c.pathLen, .int .i64 c.usage, .slice pX c.pol.length qX, .slice eX c.per.length rX, .slice dX c.den.length sX, .string xs] := by rw [hV6]; exact VA.out.set 12 _
  have HBn : Hid (Below w0.heap.size w0 V6) := below_out HB.out hset (by have := O0.out; have := O1.out; have := O2.out; have := O3.out; have := O4.out; have := O5.out; have := O6.out; have := O7.out; omega)
  clear HB
  have HB := HBn
  clear HBn
  have HOn : Hid (Out [g] w V6) := HO.out.aside hset (by have := O0.out; have := O1.out; have := O2.out; have := O3.out; have := O4.out; have := O5.out; have := O6.out; have := O7.out; omega)
  clear HO
  have HO := HOn
  clear HOn
  have VCn : Hid (Blk V6 w.heap.size 29 #[.int .i64 0, .string ⟨#[]⟩, .string ⟨#[]⟩, .int .i64 0, .int .i64 0, .string ⟨#[]⟩, .bool false, .int .i64 0, .int .i64 0, .slice none 0 0, .slice none 0 0, .slice none 0 0, .string ⟨#[]⟩]) := VC.out.outX hset (by have := O0.out; have := O1.out; have := O2.out; have := O3.out; have := O4.out; have := O5.out; have := O6.out; have := O7.out; simp <;> omega)
  clear VC
  have VC := VCn
  clear VCn
  have HXn : Hid (OwnC V6 w2.heap.size (.agg #[.int .i64 c.serial, .string c.issuer, .string c.subject, .int .i64 c.frm, .int .i64 c.upto, .string c.key, .bool c.ca, .int .i64 c.pathLen, .int .i64 c.usage, .slice pX c.pol.length qX, .slice eX c.per.length rX, .slice dX c.den.length sX, .string c.sig]) c) := HX.out.out hset (fun b hb => by have := LX.out b hb; have := O0.out; have := O1.out; have := O2.out; have := O3.out; have := O4.out; have := O5.out; have := O6.out; have := O7.out; simp <;> omega)
  clear HX
  have HX := HXn
  clear HXn
  have RWn : Hid (Blk V6 g 139 #[v5]) := RW.out.outX hset (by have := O0.out; have := O1.out; have := O2.out; have := O3.out; have := O4.out; have := O5.out; have := O6.out; have := O7.out; simp <;> omega)
  clear RW
  have RW := RWn
  clear RWn
  clear VA
  have O8 : Hid (w5.heap.size ≤ V6.heap.size) := hset.size
  have VA : Hid (Blk V6 w3.heap.size 29 #[.int .i64 c.serial, .string c.issuer, .string c.subject, .int .i64 c.frm, .int .i64 c.upto, .string c.key, .bool c.ca, .int .i64 c.pathLen, .int .i64 c.usage, .slice pX c.pol.length qX, .slice eX c.per.length rX, .slice dX c.den.length sX, .string xs]) := hVA
  clear hset hVA hV6
  obtain ⟨ea, ec, he⟩ := KR.out.1.shape
  have hRE : Blk V6 g 139 #[.slice ea r5.length ec] := by rw [← he]; exact RW.out
  refine (end_any V6 g r5.length ec ea r5 rfl hRE).mono ?_
  rintro e w7 ⟨hb, ⟨hn, rfl⟩ | ⟨hnil, hn, rfl⟩⟩
  · have HF : Hid (Out [g] w w7 ∧ oB = none) := by
      refine ⟨HO.out.trans (Out.of_below hb), ?_⟩
      rw [← HP.out]
      unfold wholeP; simp only [N2.out, N3.out, N5.out, hn, Option.bind_some, Option.bind_none]
    clear hn hb
    unfold misfit
    go_wp2_with fail
    exact ⟨rfl, HF.out.1, .inl ⟨HF.out.2, rfl⟩⟩
  have N7 : Hid (endP r5 = some ()) := hn
  have HBn : Hid (Below w0.heap.size w0 w7) := HB.out.trans (hb.mono HB.out.size)
  clear HB
  have HB := HBn
  clear HBn
  have HOn : Hid (Out [g] w w7) := HO.out.trans (Out.of_below hb)
  clear HO
  have HO := HOn
  clear HOn
  have VCn : Hid (Blk w7 w.heap.size 29 #[.int .i64 0, .string ⟨#[]⟩, .string ⟨#[]⟩, .int .i64 0, .int .i64 0, .string ⟨#[]⟩, .bool false, .int .i64 0, .int .i64 0, .slice none 0 0, .slice none 0 0, .slice none 0 0, .string ⟨#[]⟩]) := VC.out.on hb
  clear VC
  have VC := VCn
  clear VCn
  have HXn : Hid (OwnC w7 w2.heap.size (.agg #[.int .i64 c.serial, .string c.issuer, .string c.subject, .int .i64 c.frm, .int .i64 c.upto, .string c.key, .bool c.ca, .int .i64 c.pathLen, .int .i64 c.usage, .slice pX c.pol.length qX, .slice eX c.per.length rX, .slice dX c.den.length sX, .string c.sig]) c) := HX.out.stays hb
  clear HX
  have HX := HXn
  clear HXn
  have RWn : Hid (Blk w7 g 139 #[v5]) := RW.out.on hb
  clear RW
  have RW := RWn
  clear RWn
  have VAn : Hid (Blk w7 w3.heap.size 29 #[.int .i64 c.serial, .string c.issuer, .string c.subject, .int .i64 c.frm, .int .i64 c.upto, .string c.key, .bool c.ca, .int .i64 c.pathLen, .int .i64 c.usage, .slice pX c.pol.length qX, .slice eX c.per.length rX, .slice dX c.den.length sX, .string xs]) := VA.out.on hb
  clear VA
  have VA := VAn
  clear VAn
  have O9 : Hid (V6.heap.size ≤ w7.heap.size) := hb.size
  clear hn hb hnil hRE he
  have HF : Hid (oB = some { c with sig := xs }) := by
    show oB = _
    rw [← HP.out]
    unfold wholeP; simp only [N2.out, N3.out, N5.out, N7.out, Option.bind_some, Option.bind_none]
  have a0 : w7.cell? ⟨w3.heap.size, 0, none⟩ = some (.int .i64 c.serial) := VA.out.cell 0
  have b0 : w7.cell? ⟨w.heap.size, 0, none⟩ = some (.int .i64 0) := VC.out.cell 0
  have a1 : w7.cell? ⟨w3.heap.size, 1, none⟩ = some (.string c.issuer) := VA.out.cell 1
  have b1 : w7.cell? ⟨w.heap.size, 1, none⟩ = some (.string ⟨#[]⟩) := VC.out.cell 1
  have a2 : w7.cell? ⟨w3.heap.size, 2, none⟩ = some (.string c.subject) := VA.out.cell 2
  have b2 : w7.cell? ⟨w.heap.size, 2, none⟩ = some (.string ⟨#[]⟩) := VC.out.cell 2
  have a3 : w7.cell? ⟨w3.heap.size, 3, none⟩ = some (.int .i64 c.frm) := VA.out.cell 3
  have b3 : w7.cell? ⟨w.heap.size, 3, none⟩ = some (.int .i64 0) := VC.out.cell 3
  have a4 : w7.cell? ⟨w3.heap.size, 4, none⟩ = some (.int .i64 c.upto) := VA.out.cell 4
  have b4 : w7.cell? ⟨w.heap.size, 4, none⟩ = some (.int .i64 0) := VC.out.cell 4
  have a5 : w7.cell? ⟨w3.heap.size, 5, none⟩ = some (.string c.key) := VA.out.cell 5
  have b5 : w7.cell? ⟨w.heap.size, 5, none⟩ = some (.string ⟨#[]⟩) := VC.out.cell 5
  have a6 : w7.cell? ⟨w3.heap.size, 6, none⟩ = some (.bool c.ca) := VA.out.cell 6
  have b6 : w7.cell? ⟨w.heap.size, 6, none⟩ = some (.bool false) := VC.out.cell 6
  have a7 : w7.cell? ⟨w3.heap.size, 7, none⟩ = some (.int .i64 c.pathLen) := VA.out.cell 7
  have b7 : w7.cell? ⟨w.heap.size, 7, none⟩ = some (.int .i64 0) := VC.out.cell 7
  have a8 : w7.cell? ⟨w3.heap.size, 8, none⟩ = some (.int .i64 c.usage) := VA.out.cell 8
  have b8 : w7.cell? ⟨w.heap.size, 8, none⟩ = some (.int .i64 0) := VC.out.cell 8
  have a9 : w7.cell? ⟨w3.heap.size, 9, none⟩ = some (.slice pX c.pol.length qX) := VA.out.cell 9
  have b9 : w7.cell? ⟨w.heap.size, 9, none⟩ = some (.slice none 0 0) := VC.out.cell 9
  have a10 : w7.cell? ⟨w3.heap.size, 10, none⟩ = some (.slice eX c.per.length rX) := VA.out.cell 10
  have b10 : w7.cell? ⟨w.heap.size, 10, none⟩ = some (.slice none 0 0) := VC.out.cell 10
  have a11 : w7.cell? ⟨w3.heap.size, 11, none⟩ = some (.slice dX c.den.length sX) := VA.out.cell 11
  have b11 : w7.cell? ⟨w.heap.size, 11, none⟩ = some (.slice none 0 0) := VC.out.cell 11
  have a12 : w7.cell? ⟨w3.heap.size, 12, none⟩ = some (.string xs) := VA.out.cell 12
  have b12 : w7.cell? ⟨w.heap.size, 12, none⟩ = some (.string ⟨#[]⟩) := VC.out.cell 12
  have fb := fun j => VC.out.free j
  go_wp2_with fail
  generalize hV8 : World.setCell _ { block := w.heap.size, off := 12 } _ = V8
  have FIN : Out [w.heap.size] w7 V8 ∧ Blk V8 w.heap.size 29 #[.int .i64 c.serial, .string c.issuer, .string c.subject, .int .i64 c.frm, .int .i64 c.upto, .string c.key, .bool c.ca, .int .i64 c.pathLen, .int .i64 c.usage, .slice pX c.pol.length qX, .slice eX c.per.length rX, .slice dX c.den.length sX, .string xs] := by
    rw [← hV8]
    refine ⟨?_, ?_⟩
    · iterate 13 refine Out.setCell ?_ _ _ (by simp)
      exact Out.refl _ _
    · exact set13 VC.out
  clear hV8 fb a0 b0 a1 b1 a2 b2 a3 b3 a4 b4 a5 b5 a6 b6 a7 b7 a8 b8 a9 b9 a10 b10 a11 b11 a12 b12
  have HE8 : BodyPost w0 w g oB (.returned (.agg #[.int .i64 c.serial, .string c.issuer, .string c.subject, .int .i64 c.frm, .int .i64 c.upto, .string c.key, .bool c.ca, .int .i64 c.pathLen, .int .i64 c.usage, .slice pX c.pol.length qX, .slice eX c.per.length rX, .slice dX c.den.length sX, .string xs])) V8 := by
    refine ⟨HO.out.aside FIN.1 (by have := O0.out; have := O1.out; have := O2.out; have := O3.out; have := O4.out; have := O5.out; have := O6.out; have := O7.out; have := O8.out; have := O9.out; omega), .inr ⟨{ c with sig := xs }, .agg #[.int .i64 c.serial, .string c.issuer, .string c.subject, .int .i64 c.frm, .int .i64 c.upto, .string c.key, .bool c.ca, .int .i64 c.pathLen, .int .i64 c.usage, .slice pX c.pol.length qX, .slice eX c.per.length rX, .slice dX c.den.length sX, .string xs], v5, HF.out, rfl, ?_, RW.out.outX FIN.1 (by have := O0.out; have := O1.out; have := O2.out; have := O3.out; have := O4.out; have := O5.out; have := O6.out; have := O7.out; have := O8.out; have := O9.out; simp <;> omega)⟩⟩
    have hx := HX.out.out FIN.1 (fun b hb => by have := LX.out b hb; have := O0.out; have := O1.out; have := O2.out; have := O3.out; have := O4.out; have := O5.out; have := O6.out; have := O7.out; have := O8.out; have := O9.out; simp <;> omega)
    obtain ⟨p9, e9, d9, hv9, h1, h2, h3, h4⟩ := hx
    have hv9' : (#[.int .i64 c.serial, .string c.issuer, .string c.subject, .int .i64 c.frm, .int .i64 c.upto, .string c.key, .bool c.ca, .int .i64 c.pathLen, .int .i64 c.usage, .slice pX c.pol.length qX, .slice eX c.per.length rX, .slice dX c.den.length sX, .string c.sig] : Array Value) = #[.int .i64 c.serial, .string c.issuer, .string c.subject, .int .i64 c.frm, .int .i64 c.upto, .string c.key, .bool c.ca, .int .i64 c.pathLen, .int .i64 c.usage, p9, e9, d9, .string c.sig] := by injection hv9
    simp only [Array.mk.injEq, List.cons.injEq, and_true, true_and] at hv9'
    obtain ⟨rfl, rfl, rfl⟩ := hv9'
    exact ⟨_, _, _, rfl, h1.base (by have := O0.out; have := O1.out; have := O2.out; have := O3.out; have := O4.out; have := O5.out; have := O6.out; have := O7.out; have := O8.out; have := O9.out; omega), h2.base (by have := O0.out; have := O1.out; have := O2.out; have := O3.out; have := O4.out; have := O5.out; have := O6.out; have := O7.out; have := O8.out; have := O9.out; omega), h3.base (by have := O0.out; have := O1.out; have := O2.out; have := O3.out; have := O4.out; have := O5.out; have := O6.out; have := O7.out; have := O8.out; have := O9.out; omega), h4⟩
  have q0 : V8.cell? ⟨w.heap.size, 0, none⟩ = some (.int .i64 c.serial) := FIN.2.cell 0
  have q1 : V8.cell? ⟨w.heap.size, 1, none⟩ = some (.string c.issuer) := FIN.2.cell 1
  have q2 : V8.cell? ⟨w.heap.size, 2, none⟩ = some (.string c.subject) := FIN.2.cell 2
  have q3 : V8.cell? ⟨w.heap.size, 3, none⟩ = some (.int .i64 c.frm) := FIN.2.cell 3
  have q4 : V8.cell? ⟨w.heap.size, 4, none⟩ = some (.int .i64 c.upto) := FIN.2.cell 4
  have q5 : V8.cell? ⟨w.heap.size, 5, none⟩ = some (.string c.key) := FIN.2.cell 5
  have q6 : V8.cell? ⟨w.heap.size, 6, none⟩ = some (.bool c.ca) := FIN.2.cell 6
  have q7 : V8.cell? ⟨w.heap.size, 7, none⟩ = some (.int .i64 c.pathLen) := FIN.2.cell 7
  have q8 : V8.cell? ⟨w.heap.size, 8, none⟩ = some (.int .i64 c.usage) := FIN.2.cell 8
  have q9 : V8.cell? ⟨w.heap.size, 9, none⟩ = some (.slice pX c.pol.length qX) := FIN.2.cell 9
  have q10 : V8.cell? ⟨w.heap.size, 10, none⟩ = some (.slice eX c.per.length rX) := FIN.2.cell 10
  have q11 : V8.cell? ⟨w.heap.size, 11, none⟩ = some (.slice dX c.den.length sX) := FIN.2.cell 11
  have q12 : V8.cell? ⟨w.heap.size, 12, none⟩ = some (.string xs) := FIN.2.cell 12
  refine bodyPost_ret (v := .agg #[.int .i64 c.serial, .string c.issuer, .string c.subject, .int .i64 c.frm, .int .i64 c.upto, .string c.key, .bool c.ca, .int .i64 c.pathLen, .int .i64 c.usage, .slice pX c.pol.length qX, .slice eX c.per.length rX, .slice dX c.den.length sX, .string xs]) (by simp [results, Try.results54, go_sem, q0, q1, q2, q3, q4, q5, q6, q7, q8, q9, q10, q11, q12]) rfl HE8
end Go.Proofs.Ytajbalokcfghbaa

/-
  The specification's l07Size.
-/
namespace Go.Proofs.Ytajbalokcfghbaa
open Go.RowKit Der
set_option linter.unusedVariables false

/-- What l07Size answers at a place. -/
def szAt (t : List UInt8) (p : Nat) : Option (Nat × Nat) := sizeL (t.drop p)
def szV (t : List UInt8) (p : Nat) : Value := match szAt t p with
  | none => .tuple #[.int .i64 0, .int .i64 0, .bool false]
  | some (z, c) => .tuple #[.int .i64 (z : Int), .int .i64 ((p + c : Nat) : Int), .bool true]
theorem szV_none {t : List UInt8} {p : Nat} (h : szAt t p = none) : szV t p = .tuple #[.int .i64 0, .int .i64 0, .bool false] := by unfold szV; rw [h]
theorem szV_some {t : List UInt8} {p z c : Nat} (h : szAt t p = some (z, c)) : szV t p = .tuple #[.int .i64 (z : Int), .int .i64 ((p + c : Nat) : Int), .bool true] := by unfold szV; rw [h]
set_option maxHeartbeats 1600000 in
set_option maxRecDepth 100000 in
theorem size_any (t : List UInt8) (p : Nat) (w : World) (ht : t.length ≤ 20000000) (hp : p ≤ 20000001) : Calls Try.prog 123 #[.string ⟨t.toArray⟩, .int .i64 (p : Int)] w fun e w' => e = .returned (szV t p) ∧ w' = w := by
  have hssz : (⟨t.toArray⟩ : ByteArray).size = t.length := by show t.toArray.size = _; simp
  by_cases hlt : p < t.length
  · have hlti : ¬ (t.length : Int) ≤ (p : Int) := by omega
    have hlti2 : (p : Int) < (t.length : Int) := by omega
    have hp0 : (0 : Int) ≤ (p : Int) := by omega
    obtain ⟨b, hbk⟩ : ∃ b, t[p] = b := ⟨_, rfl⟩
    have hgk : ∀ h, (⟨t.toArray⟩ : ByteArray)[p]'h = b := fun h => by rw [← hbk]; rfl
    have hdr : t.drop p = b :: t.drop (p + 1) := by rw [← hbk]; exact List.drop_eq_getElem_cons hlt
    have hbl := b.toNat_lt
    have w3' : IntKind.i64.wrap (b.toNat : Int) = (b.toNat : Int) := by rw [IntKind.wrap_i64]; omega
    by_cases h128 : b.toNat < 128
    · have h128i : (b.toNat : Int) < 128 := by omega
      have w4 : IntKind.i64.wrap ((p : Int) + 1) = ((p + 1 : Nat) : Int) := by rw [IntKind.wrap_i64]; omega
      have HR : Hid (szV t p = .tuple #[.int .i64 (b.toNat : Int), .int .i64 ((p + 1 : Nat) : Int), .bool true]) := szV_some (by unfold szAt; rw [hdr]; simp [sizeL, h128])
      go_enter Try.func123, Try.ntmps123
      go_wp2_with fail
      go_ret3
      exact ⟨by rw [HR.out]; rfl, rfl⟩
    · have h128i : ¬ (b.toNat : Int) < 128 := by omega
      obtain ⟨k, hk⟩ : ∃ k : Nat, b.toNat - 128 = k := ⟨_, rfl⟩
      have w5 : IntKind.i64.wrap ((b.toNat : Int) - 128) = (k : Int) := by rw [IntKind.wrap_i64]; omega
      have hki : (b.toNat : Int) - 128 = (k : Int) := by omega
      have hrl : (t.drop (p + 1)).length = t.length - p - 1 := by rw [List.length_drop]; omega
      by_cases hk12 : 1 ≤ k ∧ k ≤ 2
      · have w6 : IntKind.i64.wrap ((t.length : Int) - (p : Int)) = (t.length : Int) - (p : Int) := by rw [IntKind.wrap_i64]; omega
        have w7 : IntKind.i64.wrap ((t.length : Int) - (p : Int) - 1) = (t.length : Int) - (p : Int) - 1 := by rw [IntKind.wrap_i64]; omega
        by_cases hfit : k ≤ t.length - p - 1
        · have hfi : ¬ (t.length : Int) - (p : Int) - 1 < (k : Int) := by omega
          have HR0 : Hid (szAt t p = some (((t.drop (p + 1)).take k).foldl (fun a c => 256 * a + c.toNat) 0, 1 + k)) := by
            show szAt t p = _
            unfold szAt
            rw [hdr]
            unfold sizeL
            simp only
            rw [if_neg h128, hk, if_pos ⟨hk12.1, hk12.2, by rw [hrl]; exact hfit⟩]
          go_enter Try.func123, Try.ntmps123
          go_wp2_with fail
          refine (in_yes (k : Int) 1 2 _ (by omega) (by omega)).mono ?_
          rintro e w' ⟨rfl, rfl⟩
          go_wp2_with fail
          go_loopw [9, 10] (fun sv iv wr => ∃ (i q : Nat), i ≤ k ∧ sv = .int .i64 (q : Int) ∧ iv = .int .i64 (i : Int) ∧ q < 65536 ∧ wr = w ∧ Hid (q = valB8 ((t.drop (p + 1)).take i))) (fun _ iv _ => k - (intOf iv).toNat)
          case atStart => exact ⟨0, 0, Nat.zero_le _, rfl, rfl, by omega, rfl, rfl⟩
          case round =>
            obtain ⟨i, q, hi, rfl, rfl, hq, rfl, HQ⟩ := hrel
            by_cases hik : i < k
            · have hiki : (i : Int) < (k : Int) := by omega
              have hd1 : i < (t.drop (p + 1)).length := by rw [hrl]; omega
              obtain ⟨z, hz⟩ : ∃ z, z = p + 1 + i := ⟨_, rfl⟩
              have hzl : z < t.length := by omega
              obtain ⟨c, hc⟩ : ∃ c, t[z] = c := ⟨_, rfl⟩
              have hgc : ∀ h, (⟨t.toArray⟩ : ByteArray)[z]'h = c := fun h => by rw [← hc]; rfl
              have hdc : (t.drop (p + 1))[i] = c := by rw [List.getElem_drop, ← hc]; congr 1; exact hz.symm
              have hcl := c.toNat_lt
              have hvt := valB8_take hd1
              rw [hdc, ← HQ.out] at hvt
              have hv := valB8_lt (i + 1) ((t.drop (p + 1)).take (i + 1)) (by rw [List.length_take]; omega)
              have hpw : (256 : Nat) ^ (i + 1) ≤ 256 ^ 2 := Nat.pow_le_pow_right (by decide) (by omega)
              rw [hvt] at hv
              have hq2 : 256 * q + c.toNat < 65536 := by
                have : (256 : Nat) ^ 2 = 65536 := by decide
                omega
              have HV : Hid (256 * q + c.toNat = valB8 ((t.drop (p + 1)).take (i + 1))) := hvt.symm
              have v1 : IntKind.i64.wrap ((p : Int) + 1) = (p : Int) + 1 := by rw [IntKind.wrap_i64]; omega
              have v2 : IntKind.i64.wrap ((p : Int) + 1 + (i : Int)) = (z : Int) := by rw [IntKind.wrap_i64]; omega
              have v3 : IntKind.i64.wrap (c.toNat : Int) = (c.toNat : Int) := by rw [IntKind.wrap_i64]; omega
              have v4 : (z : Int) < (t.length : Int) := by omega
              have v5 : (0 : Int) ≤ (z : Int) := by omega
              have v6 : (p : Int) + 1 + (i : Int) = (z : Int) := by omega
              clear hc hdc hvt hv hpw HQ hz
              go_wp2_with fail
              go_roundw
              case rel => exact ⟨i + 1, 256 * q + c.toNat, by omega, by go_num, by go_num, hq2, by trivial, HV.out⟩
              case measure => simp [intOf]; omega
            · have hiki : ¬ (i : Int) < (k : Int) := by omega
              have hie : i = k := by omega
              subst hie
              have HR : Hid (szV t p = .tuple #[.int .i64 (q : Int), .int .i64 ((p + (1 + i) : Nat) : Int), .bool true]) := szV_some (by rw [HR0.out, HQ.out]; rfl)
              have v1 : IntKind.i64.wrap ((p : Int) + 1) = (p : Int) + 1 := by rw [IntKind.wrap_i64]; omega
              have v2 : IntKind.i64.wrap ((p : Int) + 1 + (i : Int)) = ((p + (1 + i) : Nat) : Int) := by rw [IntKind.wrap_i64]; omega
              obtain ⟨z, hz⟩ : ∃ z : Nat, p + (1 + i) = z := ⟨_, rfl⟩
              rw [hz] at HR v2
              have v6 : (p : Int) + 1 + (i : Int) = (z : Int) := by omega
              clear hz
              go_wp2_with fail
              go_ret3
              exact ⟨by rw [HR.out]; rfl, rfl⟩
        · have hfi : (t.length : Int) - (p : Int) - 1 < (k : Int) := by omega
          have HR : Hid (szV t p = .tuple #[.int .i64 0, .int .i64 0, .bool false]) := szV_none (by
            unfold szAt
            rw [hdr]
            unfold sizeL
            simp only
            rw [if_neg h128, hk, if_neg (fun h => hfit (by rw [hrl] at h; exact h.2.2))])
          go_enter Try.func123, Try.ntmps123
          go_wp2_with fail
          refine (in_yes (k : Int) 1 2 _ (by omega) (by omega)).mono ?_
          rintro e w' ⟨rfl, rfl⟩
          go_wp2_with fail
          go_ret3
          exact ⟨by rw [HR.out]; rfl, rfl⟩
      · have HR : Hid (szV t p = .tuple #[.int .i64 0, .int .i64 0, .bool false]) := szV_none (by
          unfold szAt
          rw [hdr]
          unfold sizeL
          simp only
          rw [if_neg h128, hk, if_neg (fun h => hk12 ⟨h.1, h.2.1⟩)])
        go_enter Try.func123, Try.ntmps123
        go_wp2_with fail
        refine (in_no (k : Int) 1 2 _ (by omega)).mono ?_
        rintro e w' ⟨rfl, rfl⟩
        go_wp2_with fail
        go_ret3
        exact ⟨by rw [HR.out]; rfl, rfl⟩
  · have hlti : (t.length : Int) ≤ (p : Int) := by omega
    have HR : Hid (szV t p = .tuple #[.int .i64 0, .int .i64 0, .bool false]) := szV_none (by unfold szAt; rw [List.drop_of_length_le (by omega)]; rfl)
    go_enter Try.func123, Try.ntmps123
    go_wp2_with fail
    go_ret3
    exact ⟨by rw [HR.out]; rfl, rfl⟩
end Go.Proofs.Ytajbalokcfghbaa
