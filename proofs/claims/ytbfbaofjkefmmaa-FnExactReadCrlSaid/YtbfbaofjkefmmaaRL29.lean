/-
  Texts of the proof, one behind the other: DrC, DrD.
-/
import Derived.Deep.RegionHeld3
import Derived.Test.YtbfbaofjkefmmaaRL28

/-
  The program's tidings: what is signed of a list; withSig.
-/
namespace Go.Proofs.Ytbfbaofjkefmmaa
open Go.RowKit Der
set_option linter.unusedVariables false
set_option linter.unusedSimpArgs false

/-- What tidings leaves. -/
def TdPost (w0 w : World) (g : Nat) (ob : Option Cl) (e : Ending) (W' : World) : Prop := Out [g] w W' ∧
  ((ob = none ∧ e = misfit) ∨ ∃ (c : Cl) (pa : Option Addr) (pc : Nat) (v' : Value), ob = some c ∧ e = .returned (tdV c (.slice pa c.revs.length pc)) ∧ OwnR W' w.heap.size (.slice pa c.revs.length pc) c.revs ∧ Blk W' g 107 #[v'])
theorem SzL.head {m : Nat} {ks r : List (It (m + 3))} {c : Cl} (h : SzL ks) (hn : headP ks = some (c, r)) : SzL r := by
  unfold headP at hn
  obtain ⟨a0, h0, hn⟩ := Option.bind_eq_some_iff.1 hn
  obtain ⟨a1, h1, hn⟩ := Option.bind_eq_some_iff.1 hn
  obtain ⟨a2, h2, hn⟩ := Option.bind_eq_some_iff.1 hn
  obtain ⟨a3, h3, hn⟩ := Option.bind_eq_some_iff.1 hn
  obtain ⟨a4, h4, hn⟩ := Option.bind_eq_some_iff.1 hn
  simp only [Option.some.injEq, Prod.mk.injEq] at hn
  rw [← hn.2]
  exact ((((h.txt h0).num h1).num h2).num h3).num h4
set_option maxHeartbeats 1600000 in
set_option maxRecDepth 100000 in
theorem withSig_any (c : Cl) (pa : Option Addr) (lp pc : Nat) (s : ByteArray) (w : World) : Calls Try.prog 51 #[tdV c (.slice pa lp pc), .string s] w fun e w' => e = .returned (clV { c with sig := s } (.slice pa lp pc)) ∧ Below w.heap.size w w' := by
  unfold tdV
  have e0 := size_alloc w (Obj.cells #[.string c.issuer, .int .i64 c.num, .int .i64 c.ths, .int .i64 c.nxt, .int .i64 c.bas, .slice pa lp pc] 85)
  go_enter Try.func51, Try.ntmps51
  go_wp2_with fail
  refine bodyPost_ret (v := clV { c with sig := s } (.slice pa lp pc)) (by simp [results, Try.results51, go_sem, clV]) rfl ⟨rfl, ?_⟩
  exact ((Below.refl _ _).alloc (Nat.le_refl _) _).alloc (by omega) _
set_option maxHeartbeats 12800000 in
set_option maxRecDepth 100000 in
theorem tidings_any (w0 w : World) (g n : Nat) (v : Value) (ks : List (It (n + 3))) (hw : Below w0.heap.size w0 w) (hk : KcAt w0 (n + 3) v ks) (hr : Blk w g 107 #[v]) (hg : w0.heap.size ≤ g) (hz : SzL ks) :
    Calls Try.prog 50 #[.pointer (some ⟨g, 0, none⟩)] w fun e W' => TdPost w0 w g (tidP ks) e W' := by
  obtain ⟨oB, hoB⟩ : ∃ b, tidP ks = b := ⟨_, rfl⟩
  have HP : Hid (tidP ks = oB) := hoB
  rw [hoB]
  clear hoB
  have KW : Hid (KcAt w0 (n + 3) v ks ∧ SzL ks) := ⟨hk, hz⟩
  have O0 : Hid (w0.heap.size ≤ g ∧ g < w.heap.size ∧ w0.heap.size ≤ w.heap.size) := ⟨hg, hr.lt, hw.size⟩
  clear hk hz hg
  go_enter Try.func50, Try.ntmps50
  go_wp2_with fail
  obtain ⟨W1, hW1⟩ : ∃ V, V = (w.alloc (Obj.cells #[.string ⟨#[]⟩, .int .i64 0, .int .i64 0, .int .i64 0, .int .i64 0, .slice none 0 0] 85)).alloc (Obj.cells #[.string ⟨#[]⟩, .int .i64 0, .int .i64 0, .int .i64 0, .int .i64 0, .slice none 0 0] 85) := ⟨_, rfl⟩
  rw [← hW1]
  have e0 : (w.alloc (Obj.cells #[.string ⟨#[]⟩, .int .i64 0, .int .i64 0, .int .i64 0, .int .i64 0, .slice none 0 0] 85)).heap.size = w.heap.size + 1 := Array.size_push _
  have hb1 : Below w.heap.size w W1 := by rw [hW1]; exact ((Below.refl _ _).alloc (Nat.le_refl _) _).alloc (by rw [e0]; omega) _
  have hv1 : Blk W1 w.heap.size 85 #[.string ⟨#[]⟩, .int .i64 0, .int .i64 0, .int .i64 0, .int .i64 0, .slice none 0 0] := by rw [hW1]; exact (Blk.new w _ _).alloc _
  have hv2 : Blk W1 (w.heap.size + 1) 85 #[.string ⟨#[]⟩, .int .i64 0, .int .i64 0, .int .i64 0, .int .i64 0, .slice none 0 0] := by
    rw [hW1]
    have h := Blk.new (w.alloc (Obj.cells #[.string ⟨#[]⟩, .int .i64 0, .int .i64 0, .int .i64 0, .int .i64 0, .slice none 0 0] 85)) 85 #[.string ⟨#[]⟩, .int .i64 0, .int .i64 0, .int .i64 0, .int .i64 0, .slice none 0 0]
    rw [e0] at h
    exact h
  have hs1 : W1.heap.size = w.heap.size + 2 := by rw [hW1, size_alloc, e0]
  have HB : Hid (Below w0.heap.size w0 W1) := hw.trans (hb1.mono hw.size)
  have HO : Hid (Out [g] w W1) := Out.of_below hb1
  have VC : Hid (Blk W1 w.heap.size 85 #[.string ⟨#[]⟩, .int .i64 0, .int .i64 0, .int .i64 0, .int .i64 0, .slice none 0 0]) := hv1
  have VA : Hid (Blk W1 (w.heap.size + 1) 85 #[.string ⟨#[]⟩, .int .i64 0, .int .i64 0, .int .i64 0, .int .i64 0, .slice none 0 0]) := hv2
  have RW : Hid (Blk W1 g 107 #[v]) := hr.below hb1 hr.lt
  have O1 : Hid (W1.heap.size = w.heap.size + 2) := hs1
  clear hW1 e0 hb1 hv1 hv2 hs1 hr hw
  refine (rhead_any w0 W1 g n v ks HB.out KW.out.1 RW.out (by have := O0.out; have := O1.out; omega) KW.out.2).mono ?_
  rintro e w2 ⟨ho, ⟨hn, rfl⟩ | ⟨c0, r2, v2, hn, rfl, hkr, hB⟩⟩
  · have HF : Hid (Out [g] w w2 ∧ oB = none) := by
      refine ⟨HO.out.trans ho, ?_⟩
      rw [← HP.out]
      unfold tidP; simp only [hn, Option.bind_some, Option.bind_none]
    clear hn ho
    unfold misfit
    go_wp2_with fail
    exact ⟨rfl, HF.out.1, .inl ⟨HF.out.2, rfl⟩⟩
  have N2 : Hid (headP ks = some (c0, r2)) := hn
  have HBn : Hid (Below w0.heap.size w0 w2) := below_out HB.out ho (by have := O0.out; have := O1.out; omega)
  clear HB
  have HB := HBn
  clear HBn
  have HOn : Hid (Out [g] w w2) := HO.out.trans ho
  clear HO
  have HO := HOn
  clear HOn
  have VCn : Hid (Blk w2 w.heap.size 85 #[.string ⟨#[]⟩, .int .i64 0, .int .i64 0, .int .i64 0, .int .i64 0, .slice none 0 0]) := VC.out.outX ho (by have := O0.out; have := O1.out; simp <;> omega)
  clear VC
  have VC := VCn
  clear VCn
  have VAn : Hid (Blk w2 (w.heap.size + 1) 85 #[.string ⟨#[]⟩, .int .i64 0, .int .i64 0, .int .i64 0, .int .i64 0, .slice none 0 0]) := VA.out.outX ho (by have := O0.out; have := O1.out; simp <;> omega)
  clear VA
  have VA := VAn
  clear VAn
  clear RW
  have O2 : Hid (W1.heap.size ≤ w2.heap.size) := ho.size
  have RW : Hid (Blk w2 g 107 #[v2]) := hB
  have KI : Hid (KcAt w0 (n + 3) v2 r2 ∧ SzL r2) := ⟨hkr, KW.out.2.head hn⟩
  clear hn ho hkr hB
  unfold hdV
  have y0 : w2.cell? ⟨w.heap.size + 1, 0, none⟩ = some (.string ⟨#[]⟩) := VA.out.cell 0
  have y1 : w2.cell? ⟨w.heap.size + 1, 1, none⟩ = some (.int .i64 0) := VA.out.cell 1
  have y2 : w2.cell? ⟨w.heap.size + 1, 2, none⟩ = some (.int .i64 0) := VA.out.cell 2
  have y3 : w2.cell? ⟨w.heap.size + 1, 3, none⟩ = some (.int .i64 0) := VA.out.cell 3
  have y4 : w2.cell? ⟨w.heap.size + 1, 4, none⟩ = some (.int .i64 0) := VA.out.cell 4
  have cf := fun j => VA.out.free j
  go_wp2_with fail
  obtain ⟨V3, hV⟩ : ∃ V, V = (((((w2.setCell ⟨w.heap.size + 1, 0, none⟩ (.string c0.issuer)).setCell ⟨w.heap.size + 1, 1, none⟩ (.int .i64 c0.num)).setCell ⟨w.heap.size + 1, 2, none⟩ (.int .i64 c0.ths)).setCell ⟨w.heap.size + 1, 3, none⟩ (.int .i64 c0.nxt)).setCell ⟨w.heap.size + 1, 4, none⟩ (.int .i64 c0.bas)) := ⟨_, rfl⟩
  rw [← hV]
  have hset : Out [w.heap.size + 1] w2 V3 := by
    rw [hV]
    iterate 5 refine Out.setCell ?_ _ _ (by simp)
    exact Out.refl _ _
  have hVA : Blk V3 (w.heap.size + 1) 85 #[.string c0.issuer, .int .i64 c0.num, .int .i64 c0.ths, .int .i64 c0.nxt, .int .i64 c0.bas, .slice none 0 0] := by
    rw [hV]
    have h0 := VA.out
    have h1 : Blk _ (w.heap.size + 1) 85 #[.string c0.issuer, .int .i64 0, .int .i64 0, .int .i64 0, .int .i64 0, .slice none 0 0] := h0.set 0 (.string c0.issuer)
    have h2 : Blk _ (w.heap.size + 1) 85 #[.string c0.issuer, .int .i64 c0.num, .int .i64 0, .int .i64 0, .int .i64 0, .slice none 0 0] := h1.set 1 (.int .i64 c0.num)
    have h3 : Blk _ (w.heap.size + 1) 85 #[.string c0.issuer, .int .i64 c0.num, .int .i64 c0.ths, .int .i64 0, .int .i64 0, .slice none 0 0] := h2.set 2 (.int .i64 c0.ths)
    have h4 : Blk _ (w.heap.size + 1) 85 #[.string c0.issuer, .int .i64 c0.num, .int .i64 c0.ths, .int .i64 c0.nxt, .int .i64 0, .slice none 0 0] := h3.set 3 (.int .i64 c0.nxt)
    have h5 : Blk _ (w.heap.size + 1) 85 #[.string c0.issuer, .int .i64 c0.num, .int .i64 c0.ths, .int .i64 c0.nxt, .int .i64 c0.bas, .slice none 0 0] := h4.set 4 (.int .i64 c0.bas)
    exact h5
  clear cf hV
  have HBn : Hid (Below w0.heap.size w0 V3) := below_out HB.out hset (by have := O0.out; have := O1.out; have := O2.out; omega)
  clear HB
  have HB := HBn
  clear HBn
  have HOn : Hid (Out [g] w V3) := HO.out.aside hset (by have := O0.out; have := O1.out; have := O2.out; omega)
  clear HO
  have HO := HOn
  clear HOn
  have VCn : Hid (Blk V3 w.heap.size 85 #[.string ⟨#[]⟩, .int .i64 0, .int .i64 0, .int .i64 0, .int .i64 0, .slice none 0 0]) := VC.out.outX hset (by have := O0.out; have := O1.out; have := O2.out; simp <;> omega)
  clear VC
  have VC := VCn
  clear VCn
  have RWn : Hid (Blk V3 g 107 #[v2]) := RW.out.outX hset (by have := O0.out; have := O1.out; have := O2.out; simp <;> omega)
  clear RW
  have RW := RWn
  clear RWn
  clear VA
  have O3 : Hid (w2.heap.size ≤ V3.heap.size) := hset.size
  have VA : Hid (Blk V3 (w.heap.size + 1) 85 #[.string c0.issuer, .int .i64 c0.num, .int .i64 c0.ths, .int .i64 c0.nxt, .int .i64 c0.bas, .slice none 0 0]) := hVA
  clear hset hVA
  refine (rrevs_any w0 V3 g n v2 r2 HB.out KI.out.1 RW.out (by have := O0.out; have := O1.out; have := O2.out; have := O3.out; omega) KI.out.2.1 KI.out.2.2).mono ?_
  rintro e w4 ⟨ho, ⟨hn, rfl⟩ | ⟨l4, r4, v4, u4, hn, rfl, hown, hkr, hB⟩⟩
  · have HF : Hid (Out [g] w w4 ∧ oB = none) := by
      refine ⟨HO.out.trans ho, ?_⟩
      rw [← HP.out]
      unfold tidP; simp only [N2.out, hn, Option.bind_some, Option.bind_none]
    clear hn ho
    unfold misfit
    go_wp2_with fail
    exact ⟨rfl, HF.out.1, .inl ⟨HF.out.2, rfl⟩⟩
  have N4 : Hid (revsL r2 = some (l4, r4)) := hn
  have HBn : Hid (Below w0.heap.size w0 w4) := below_out HB.out ho (by have := O0.out; have := O1.out; have := O2.out; have := O3.out; omega)
  clear HB
  have HB := HBn
  clear HBn
  have HOn : Hid (Out [g] w w4) := HO.out.trans ho
  clear HO
  have HO := HOn
  clear HOn
  have VCn : Hid (Blk w4 w.heap.size 85 #[.string ⟨#[]⟩, .int .i64 0, .int .i64 0, .int .i64 0, .int .i64 0, .slice none 0 0]) := VC.out.outX ho (by have := O0.out; have := O1.out; have := O2.out; have := O3.out; simp <;> omega)
  clear VC
  have VC := VCn
  clear VCn
  have VAn : Hid (Blk w4 (w.heap.size + 1) 85 #[.string c0.issuer, .int .i64 c0.num, .int .i64 c0.ths, .int .i64 c0.nxt, .int .i64 c0.bas, .slice none 0 0]) := VA.out.outX ho (by have := O0.out; have := O1.out; have := O2.out; have := O3.out; simp <;> omega)
  clear VA
  have VA := VAn
  clear VAn
  clear RW
  have O4 : Hid (V3.heap.size ≤ w4.heap.size) := ho.size
  have RW : Hid (Blk w4 g 107 #[v4]) := hB
  obtain ⟨qa, qc, hq, -, -, -⟩ := OwnR.shape hown
  subst hq
  have LX : Hid (∀ b, (Value.slice qa l4.length qc).ownBlock = some b → V3.heap.size ≤ b ∧ b < w4.heap.size) := fun b hb => World.ownsRow.lt hown b hb
  have HX : Hid (OwnR w4 V3.heap.size (.slice qa l4.length qc) l4) := hown
  have KIn : Hid (KcAt w0 (n + 3) v4 r4) := hkr
  clear KI
  have KI := KIn
  clear KIn hn ho hkr hB hown
  have cc : w4.cell? ⟨w.heap.size + 1, 5, none⟩ = some (.slice none 0 0) := VA.out.cell 5
  have cf := VA.out.free 5
  go_wp2_with fail
  clear cc cf
  obtain ⟨V5, hV⟩ : ∃ V, V = w4.setCell ⟨w.heap.size + 1, 5, none⟩ (.slice qa l4.length qc) := ⟨_, rfl⟩
  rw [← hV]
  have hset : Out [w.heap.size + 1] w4 V5 := by rw [hV]; exact out_set _ _ _
  have hVA : Blk V5 (w.heap.size + 1) 85 #[.string c0.issuer, .int .i64 c0.num, .int .i64 c0.ths, .int .i64 c0.nxt, .int .i64 c0.bas, .slice qa l4.length qc] := by rw [hV]; exact VA.out.set 5 _
  have HBn : Hid (Below w0.heap.size w0 V5) := below_out HB.out hset (by have := O0.out; have := O1.out; have := O2.out; have := O3.out; have := O4.out; omega)
  clear HB
  have HB := HBn
  clear HBn
  have HOn : Hid (Out [g] w V5) := HO.out.aside hset (by have := O0.out; have := O1.out; have := O2.out; have := O3.out; have := O4.out; omega)
  clear HO
  have HO := HOn
  clear HOn
  have VCn : Hid (Blk V5 w.heap.size 85 #[.string ⟨#[]⟩, .int .i64 0, .int .i64 0, .int .i64 0, .int .i64 0, .slice none 0 0]) := VC.out.outX hset (by have := O0.out; have := O1.out; have := O2.out; have := O3.out; have := O4.out; simp <;> omega)
  clear VC
  have VC := VCn
  clear VCn
  have RWn : Hid (Blk V5 g 107 #[v4]) := RW.out.outX hset (by have := O0.out; have := O1.out; have := O2.out; have := O3.out; have := O4.out; simp <;> omega)
  clear RW
  have RW := RWn
  clear RWn
  have HXn : Hid (OwnR V5 V3.heap.size (.slice qa l4.length qc) l4) := hset.row (fun b hb => by have := LX.out b hb; have := O0.out; have := O1.out; have := O2.out; have := O3.out; have := O4.out; simp <;> omega) HX.out
  clear HX
  have HX := HXn
  clear HXn
  clear VA
  have O5 : Hid (w4.heap.size ≤ V5.heap.size) := hset.size
  have VA : Hid (Blk V5 (w.heap.size + 1) 85 #[.string c0.issuer, .int .i64 c0.num, .int .i64 c0.ths, .int .i64 c0.nxt, .int .i64 c0.bas, .slice qa l4.length qc]) := hVA
  clear hset hVA hV
  obtain ⟨ea, ec, he⟩ := KI.out.shape
  have hRE : Blk V5 g 107 #[.slice ea r4.length ec] := by rw [← he]; exact RW.out
  refine (end_any V5 g r4.length ec ea r4 rfl hRE).mono ?_
  rintro e w7 ⟨hb, ⟨hn, rfl⟩ | ⟨hnil, hn, rfl⟩⟩
  · have HF : Hid (Out [g] w w7 ∧ oB = none) := by
      refine ⟨HO.out.trans (Out.of_below hb), ?_⟩
      rw [← HP.out]
      unfold tidP; simp only [N2.out, N4.out, hn, Option.bind_some, Option.bind_none]
    clear hn hb
    unfold misfit
    go_wp2_with fail
    exact ⟨rfl, HF.out.1, .inl ⟨HF.out.2, rfl⟩⟩
  have N7 : Hid (endP r4 = some ()) := hn
  have HBn : Hid (Below w0.heap.size w0 w7) := HB.out.trans (hb.mono HB.out.size)
  clear HB
  have HB := HBn
  clear HBn
  have HOn : Hid (Out [g] w w7) := HO.out.trans (Out.of_below hb)
  clear HO
  have HO := HOn
  clear HOn
  have VCn : Hid (Blk w7 w.heap.size 85 #[.string ⟨#[]⟩, .int .i64 0, .int .i64 0, .int .i64 0, .int .i64 0, .slice none 0 0]) := VC.out.on hb
  clear VC
  have VC := VCn
  clear VCn
  have RWn : Hid (Blk w7 g 107 #[v4]) := RW.out.on hb
  clear RW
  have RW := RWn
  clear RWn
  have HXn : Hid (OwnR w7 V3.heap.size (.slice qa l4.length qc) l4) := HX.out.stays hb
  clear HX
  have HX := HXn
  clear HXn
  have VAn : Hid (Blk w7 (w.heap.size + 1) 85 #[.string c0.issuer, .int .i64 c0.num, .int .i64 c0.ths, .int .i64 c0.nxt, .int .i64 c0.bas, .slice qa l4.length qc]) := VA.out.on hb
  clear VA
  have VA := VAn
  clear VAn
  have O6 : Hid (V5.heap.size ≤ w7.heap.size) := hb.size
  clear hn hb hnil hRE he
  have HF : Hid (oB = some { c0 with revs := l4 }) := by
    show oB = _
    rw [← HP.out]
    unfold tidP; simp only [N2.out, N4.out, N7.out, Option.bind_some, Option.bind_none]
  have a0 : w7.cell? ⟨w.heap.size + 1, 0, none⟩ = some (.string c0.issuer) := VA.out.cell 0
  have b0 : w7.cell? ⟨w.heap.size, 0, none⟩ = some (.string ⟨#[]⟩) := VC.out.cell 0
  have a1 : w7.cell? ⟨w.heap.size + 1, 1, none⟩ = some (.int .i64 c0.num) := VA.out.cell 1
  have b1 : w7.cell? ⟨w.heap.size, 1, none⟩ = some (.int .i64 0) := VC.out.cell 1
  have a2 : w7.cell? ⟨w.heap.size + 1, 2, none⟩ = some (.int .i64 c0.ths) := VA.out.cell 2
  have b2 : w7.cell? ⟨w.heap.size, 2, none⟩ = some (.int .i64 0) := VC.out.cell 2
  have a3 : w7.cell? ⟨w.heap.size + 1, 3, none⟩ = some (.int .i64 c0.nxt) := VA.out.cell 3
  have b3 : w7.cell? ⟨w.heap.size, 3, none⟩ = some (.int .i64 0) := VC.out.cell 3
  have a4 : w7.cell? ⟨w.heap.size + 1, 4, none⟩ = some (.int .i64 c0.bas) := VA.out.cell 4
  have b4 : w7.cell? ⟨w.heap.size, 4, none⟩ = some (.int .i64 0) := VC.out.cell 4
  have a5 : w7.cell? ⟨w.heap.size + 1, 5, none⟩ = some (.slice qa l4.length qc) := VA.out.cell 5
  have b5 : w7.cell? ⟨w.heap.size, 5, none⟩ = some (.slice none 0 0) := VC.out.cell 5
  have fb := fun j => VC.out.free j
  go_wp2_with fail
  generalize hV8 : World.setCell _ { block := w.heap.size, off := 5 } _ = V8
  have FIN : Out [w.heap.size] w7 V8 ∧ Blk V8 w.heap.size 85 #[.string c0.issuer, .int .i64 c0.num, .int .i64 c0.ths, .int .i64 c0.nxt, .int .i64 c0.bas, .slice qa l4.length qc] := by
    rw [← hV8]
    refine ⟨?_, ?_⟩
    · iterate 6 refine Out.setCell ?_ _ _ (by simp)
      exact Out.refl _ _
    · have h0 := VC.out
      have h1 : Blk _ w.heap.size 85 #[.string c0.issuer, .int .i64 0, .int .i64 0, .int .i64 0, .int .i64 0, .slice none 0 0] := h0.set 0 (.string c0.issuer)
      have h2 : Blk _ w.heap.size 85 #[.string c0.issuer, .int .i64 c0.num, .int .i64 0, .int .i64 0, .int .i64 0, .slice none 0 0] := h1.set 1 (.int .i64 c0.num)
      have h3 : Blk _ w.heap.size 85 #[.string c0.issuer, .int .i64 c0.num, .int .i64 c0.ths, .int .i64 0, .int .i64 0, .slice none 0 0] := h2.set 2 (.int .i64 c0.ths)
      have h4 : Blk _ w.heap.size 85 #[.string c0.issuer, .int .i64 c0.num, .int .i64 c0.ths, .int .i64 c0.nxt, .int .i64 0, .slice none 0 0] := h3.set 3 (.int .i64 c0.nxt)
      have h5 : Blk _ w.heap.size 85 #[.string c0.issuer, .int .i64 c0.num, .int .i64 c0.ths, .int .i64 c0.nxt, .int .i64 c0.bas, .slice none 0 0] := h4.set 4 (.int .i64 c0.bas)
      have h6 : Blk _ w.heap.size 85 #[.string c0.issuer, .int .i64 c0.num, .int .i64 c0.ths, .int .i64 c0.nxt, .int .i64 c0.bas, .slice qa l4.length qc] := h5.set 5 (.slice qa l4.length qc)
      exact h6
  clear hV8 fb a0 b0 a1 b1 a2 b2 a3 b3 a4 b4 a5 b5
  have HE8 : TdPost w0 w g oB (.returned (.agg #[.string c0.issuer, .int .i64 c0.num, .int .i64 c0.ths, .int .i64 c0.nxt, .int .i64 c0.bas, .slice qa l4.length qc])) V8 := by
    refine ⟨HO.out.aside FIN.1 (by have := O0.out; have := O1.out; have := O2.out; have := O3.out; have := O4.out; have := O5.out; have := O6.out; omega), .inr ⟨{ c0 with revs := l4 }, qa, qc, v4, HF.out, rfl, ?_, RW.out.outX FIN.1 (by have := O0.out; have := O1.out; have := O2.out; have := O3.out; have := O4.out; have := O5.out; have := O6.out; simp <;> omega)⟩⟩
    exact OwnR.base (FIN.1.row (fun b hb => by have := LX.out b hb; have := O0.out; have := O1.out; have := O2.out; have := O3.out; have := O4.out; have := O5.out; have := O6.out; simp <;> omega) HX.out) (by have := O0.out; have := O1.out; have := O2.out; have := O3.out; have := O4.out; have := O5.out; have := O6.out; omega)
  have q0 : V8.cell? ⟨w.heap.size, 0, none⟩ = some (.string c0.issuer) := FIN.2.cell 0
  have q1 : V8.cell? ⟨w.heap.size, 1, none⟩ = some (.int .i64 c0.num) := FIN.2.cell 1
  have q2 : V8.cell? ⟨w.heap.size, 2, none⟩ = some (.int .i64 c0.ths) := FIN.2.cell 2
  have q3 : V8.cell? ⟨w.heap.size, 3, none⟩ = some (.int .i64 c0.nxt) := FIN.2.cell 3
  have q4 : V8.cell? ⟨w.heap.size, 4, none⟩ = some (.int .i64 c0.bas) := FIN.2.cell 4
  have q5 : V8.cell? ⟨w.heap.size, 5, none⟩ = some (.slice qa l4.length qc) := FIN.2.cell 5
  refine bodyPost_ret (v := .agg #[.string c0.issuer, .int .i64 c0.num, .int .i64 c0.ths, .int .i64 c0.nxt, .int .i64 c0.bas, .slice qa l4.length qc]) (by simp [results, Try.results50, go_sem, q0, q1, q2, q3, q4, q5]) rfl HE8
end Go.Proofs.Ytbfbaofjkefmmaa

/-
  The program's calledBack: a whole list, read by a reader.
-/
namespace Go.Proofs.Ytbfbaofjkefmmaa
open Go.RowKit Der
set_option linter.unusedVariables false
set_option linter.unusedSimpArgs false

/-- What calledBack leaves. -/
def CbPost (w0 w : World) (g : Nat) (ob : Option Cl) (e : Ending) (W' : World) : Prop := Out [g] w W' ∧
  ((ob = none ∧ e = misfit) ∨ ∃ (c : Cl) (u v' : Value), ob = some c ∧ e = .returned u ∧ OwnL W' w.heap.size u c ∧ Blk W' g 107 #[v'])
set_option maxHeartbeats 12800000 in
set_option maxRecDepth 100000 in
theorem calledBack_any (w0 w : World) (g n : Nat) (v : Value) (ks : List (It (n + 4))) (hw : Below w0.heap.size w0 w) (hk : KcAt w0 (n + 4) v ks) (hr : Blk w g 107 #[v]) (hg : w0.heap.size ≤ g) (hz : SzL ks) :
    Calls Try.prog 27 #[.pointer (some ⟨g, 0, none⟩)] w fun e W' => CbPost w0 w g (cbP ks) e W' := by
  obtain ⟨oB, hoB⟩ : ∃ b, cbP ks = b := ⟨_, rfl⟩
  have HP : Hid (cbP ks = oB) := hoB
  rw [hoB]
  clear hoB
  have KW : Hid (KcAt w0 (n + 4) v ks ∧ SzL ks) := ⟨hk, hz⟩
  have O0 : Hid (w0.heap.size ≤ g ∧ g < w.heap.size ∧ w0.heap.size ≤ w.heap.size) := ⟨hg, hr.lt, hw.size⟩
  clear hk hz hg
  go_enter Try.func27, Try.ntmps27
  go_wp2_with fail
  obtain ⟨W1, hW1⟩ : ∃ V, V = w.alloc (Obj.cells #[.string ⟨#[]⟩, .int .i64 0, .int .i64 0, .int .i64 0, .int .i64 0, .slice none 0 0, .string ⟨#[]⟩] 24) := ⟨_, rfl⟩
  rw [← hW1]
  have hb1 : Below w.heap.size w W1 := by rw [hW1]; exact (Below.refl _ _).alloc (Nat.le_refl _) _
  have hv1 : Blk W1 w.heap.size 24 #[.string ⟨#[]⟩, .int .i64 0, .int .i64 0, .int .i64 0, .int .i64 0, .slice none 0 0, .string ⟨#[]⟩] := by rw [hW1]; exact Blk.new w _ _
  have hs1 : W1.heap.size = w.heap.size + 1 := by rw [hW1]; exact size_alloc _ _
  have HB : Hid (Below w0.heap.size w0 W1) := hw.trans (hb1.mono hw.size)
  have HO : Hid (Out [g] w W1) := Out.of_below hb1
  have VC : Hid (Blk W1 w.heap.size 24 #[.string ⟨#[]⟩, .int .i64 0, .int .i64 0, .int .i64 0, .int .i64 0, .slice none 0 0, .string ⟨#[]⟩]) := hv1
  have RW : Hid (Blk W1 g 107 #[v]) := hr.below hb1 hr.lt
  have O1 : Hid (W1.heap.size = w.heap.size + 1) := hs1
  clear hW1 hb1 hv1 hs1 hr hw
  refine (list_any w0 W1 g (n + 3) v ks HB.out KW.out.1 RW.out (by have := O0.out; have := O1.out; omega) KW.out.2.1).mono ?_
  rintro e w2 ⟨ho, ⟨hn, rfl⟩ | ⟨i2, r2, v2, vi2, gi, hn, rfl, hgi, hki, hkr, hB, hBi⟩⟩
  · have HF : Hid (Out [g] w w2 ∧ oB = none) := by
      refine ⟨HO.out.trans ho, ?_⟩
      rw [← HP.out]
      unfold cbP; simp only [hn, Option.bind_some, Option.bind_none]
    clear hn ho
    unfold misfit
    go_wp2_with fail
    exact ⟨rfl, HF.out.1, .inl ⟨HF.out.2, rfl⟩⟩
  have N2 : Hid (lstP ks = some (i2, r2)) := hn
  have HBn : Hid (Below w0.heap.size w0 w2) := below_out HB.out ho (by have := O0.out; have := O1.out; omega)
  clear HB
  have HB := HBn
  clear HBn
  have HOn : Hid (Out [g] w w2) := HO.out.trans ho
  clear HO
  have HO := HOn
  clear HOn
  have VCn : Hid (Blk w2 w.heap.size 24 #[.string ⟨#[]⟩, .int .i64 0, .int .i64 0, .int .i64 0, .int .i64 0, .slice none 0 0, .string ⟨#[]⟩]) := VC.out.outX ho (by have := O0.out; have := O1.out; simp <;> omega)
  clear VC
  have VC := VCn
  clear VCn
  clear RW
  have O2 : Hid (W1.heap.size ≤ w2.heap.size) := ho.size
  have RW : Hid (Blk w2 g 107 #[v2]) := hB
  have RI : Hid (Blk w2 gi 107 #[vi2]) := hBi
  have O3 : Hid (W1.heap.size ≤ gi ∧ gi < w2.heap.size) := ⟨hgi, hBi.lt⟩
  have KI : Hid (KcAt w0 (n + 3) vi2 i2 ∧ SzL i2) := ⟨hki, (KW.out.2.lst hn).1⟩
  have KR : Hid (KcAt w0 (n + 4) v2 r2 ∧ SzL r2) := ⟨hkr, (KW.out.2.lst hn).2⟩
  clear hn ho hgi hki hkr hB hBi
  go_wp2_with fail
  refine (tidings_any w0 w2 gi n vi2 i2 HB.out KI.out.1 RI.out (by have := O0.out; have := O1.out; have := O2.out; have := O3.out; omega) KI.out.2).mono ?_
  rintro e w3 ⟨ho, ⟨hn, rfl⟩ | ⟨c, pa, pc, v3, hn, rfl, hown, hB⟩⟩
  · have HF : Hid (Out [g] w w3 ∧ oB = none) := by
      refine ⟨HO.out.aside ho (by have := O0.out; have := O1.out; have := O2.out; have := O3.out; omega), ?_⟩
      rw [← HP.out]
      unfold cbP; simp only [N2.out, hn, Option.bind_some, Option.bind_none]
    clear hn ho
    unfold misfit
    go_wp2_with fail
    exact ⟨rfl, HF.out.1, .inl ⟨HF.out.2, rfl⟩⟩
  have N3 : Hid (tidP i2 = some c) := hn
  have HBn : Hid (Below w0.heap.size w0 w3) := below_out HB.out ho (by have := O0.out; have := O1.out; have := O2.out; have := O3.out; omega)
  clear HB
  have HB := HBn
  clear HBn
  have HOn : Hid (Out [g] w w3) := HO.out.aside ho (by have := O0.out; have := O1.out; have := O2.out; have := O3.out; omega)
  clear HO
  have HO := HOn
  clear HOn
  have VCn : Hid (Blk w3 w.heap.size 24 #[.string ⟨#[]⟩, .int .i64 0, .int .i64 0, .int .i64 0, .int .i64 0, .slice none 0 0, .string ⟨#[]⟩]) := VC.out.outX ho (by have := O0.out; have := O1.out; have := O2.out; have := O3.out; simp <;> omega)
  clear VC
  have VC := VCn
  clear VCn
  have RWn : Hid (Blk w3 g 107 #[v2]) := RW.out.outX ho (by have := O0.out; have := O1.out; have := O2.out; have := O3.out; simp <;> omega)
  clear RW
  have RW := RWn
  clear RWn
  clear RI
  have O4 : Hid (w2.heap.size ≤ w3.heap.size) := ho.size
  have LX : Hid (∀ b, (Value.slice pa c.revs.length pc).ownBlock = some b → w2.heap.size ≤ b ∧ b < w3.heap.size) := fun b hb => World.ownsRow.lt hown b hb
  have HX : Hid (OwnR w3 w2.heap.size (.slice pa c.revs.length pc) c.revs) := hown
  clear hn ho hown hB KI
  unfold tdV
  go_wp2_with fail
  obtain ⟨V4, hV4⟩ : ∃ V, V = w3.alloc (Obj.cells #[.string c.issuer, .int .i64 c.num, .int .i64 c.ths, .int .i64 c.nxt, .int .i64 c.bas, .slice pa c.revs.length pc] 85) := ⟨_, rfl⟩
  rw [← hV4]
  have hb4 : Below w3.heap.size w3 V4 := by rw [hV4]; exact (Below.refl _ _).alloc (Nat.le_refl _) _
  have hv4 : Blk V4 w3.heap.size 85 #[.string c.issuer, .int .i64 c.num, .int .i64 c.ths, .int .i64 c.nxt, .int .i64 c.bas, .slice pa c.revs.length pc] := by rw [hV4]; exact Blk.new w3 _ _
  have hs4 : V4.heap.size = w3.heap.size + 1 := by rw [hV4]; exact size_alloc _ _
  have HBn : Hid (Below w0.heap.size w0 V4) := HB.out.trans (hb4.mono HB.out.size)
  clear HB
  have HB := HBn
  clear HBn
  have HOn : Hid (Out [g] w V4) := HO.out.trans (Out.of_below hb4)
  clear HO
  have HO := HOn
  clear HOn
  have VCn : Hid (Blk V4 w.heap.size 24 #[.string ⟨#[]⟩, .int .i64 0, .int .i64 0, .int .i64 0, .int .i64 0, .slice none 0 0, .string ⟨#[]⟩]) := VC.out.on hb4
  clear VC
  have VC := VCn
  clear VCn
  have RWn : Hid (Blk V4 g 107 #[v2]) := RW.out.on hb4
  clear RW
  have RW := RWn
  clear RWn
  have HXn : Hid (OwnR V4 w2.heap.size (.slice pa c.revs.length pc) c.revs) := HX.out.stays hb4
  clear HX
  have HX := HXn
  clear HXn
  have O5 : Hid (w3.heap.size ≤ V4.heap.size) := hb4.size
  have O6 : Hid (V4.heap.size = w3.heap.size + 1) := hs4
  clear hV4 hb4 hs4
  have HD : Below V4.heap.size V4 V4.drew := (Below.refl _ _).drew
  refine wp_region_held_drew (S := fun W => Blk W w3.heap.size 85 #[.string c.issuer, .int .i64 c.num, .int .i64 c.ths, .int .i64 c.nxt, .int .i64 c.bas, .slice pa c.revs.length pc]) (by kernel_rfl) (hv4.on HD) (fun hHeld => ?_)
  have HBn : Hid (Below w0.heap.size w0 V4.drew) := HB.out.trans (HD.mono HB.out.size)
  clear HB
  have HB := HBn
  clear HBn
  have HOn : Hid (Out [g] w V4.drew) := HO.out.trans (Out.of_below HD)
  clear HO
  have HO := HOn
  clear HOn
  have VCn : Hid (Blk V4.drew w.heap.size 24 #[.string ⟨#[]⟩, .int .i64 0, .int .i64 0, .int .i64 0, .int .i64 0, .slice none 0 0, .string ⟨#[]⟩]) := VC.out.on HD
  clear VC
  have VC := VCn
  clear VCn
  have RWn : Hid (Blk V4.drew g 107 #[v2]) := RW.out.on HD
  clear RW
  have RW := RWn
  clear RWn
  have HXn : Hid (OwnR V4.drew w2.heap.size (.slice pa c.revs.length pc) c.revs) := HX.out.stays HD
  clear HX
  have HX := HXn
  clear HXn
  have O7 : Hid (V4.heap.size ≤ V4.drew.heap.size) := HD.size
  clear HD hv4
  generalize V4.drew = wd at *
  refine wpAnyH_take (i := 0) (oi := ⟨some 8, _, _, _, _, _⟩) (v := ?_) rfl (by kernel_rfl) (by kernel_rfl) (by kernel_rfl) (fun _ _ _ h => h) (Or.inl ⟨by rfl, ?_⟩) hHeld ?_
  rotate_left
  · intro W hSw
    have l0 : W.cell? ⟨w3.heap.size, 0, none⟩ = some (.string c.issuer) := hSw.cell 0
    have l1 : W.cell? ⟨w3.heap.size, 1, none⟩ = some (.int .i64 c.num) := hSw.cell 1
    have l2 : W.cell? ⟨w3.heap.size, 2, none⟩ = some (.int .i64 c.ths) := hSw.cell 2
    have l3 : W.cell? ⟨w3.heap.size, 3, none⟩ = some (.int .i64 c.nxt) := hSw.cell 3
    have l4 : W.cell? ⟨w3.heap.size, 4, none⟩ = some (.int .i64 c.bas) := hSw.cell 4
    have l5 : W.cell? ⟨w3.heap.size, 5, none⟩ = some (.slice pa c.revs.length pc) := hSw.cell 5
    go_simp
    try with_reducible rfl
  try simp only [Act.put, List.setIfInBounds_toArray, List.set_cons_zero, List.set_cons_succ]
  refine wpAnyH_take (i := 1) (oi := ⟨some 9, _, _, _, _, _⟩) (v := ?_) rfl (by kernel_rfl) (by kernel_rfl) (by kernel_rfl) (fun _ _ _ h => h) (Or.inl ⟨by rfl, ?_⟩) hHeld ?_
  rotate_left
  · intro W hSw
    go_simp
    try with_reducible rfl
  try simp only [Act.put, List.setIfInBounds_toArray, List.set_cons_zero, List.set_cons_succ]
  refine wpAnyH_ready (rs := [2, 4]) (by kernel_rfl) (by simp) ?_
  refine AllReadyH.cons (o := ⟨some 10, _, _, _, _, _⟩) rfl (fun K hK => ?_) ?_
  rotate_left
  · refine AllReadyH.cons (o := ⟨some 4, _, _, _, _, _⟩) rfl (fun K hK => ?_) AllReadyH.nil
    obtain ⟨W11, hWn⟩ : ∃ V, V = wd.alloc (Obj.cells #[.string ⟨#[]⟩, .int .i64 0, .int .i64 0, .int .i64 0, .int .i64 0, .slice none 0 0, .string ⟨#[]⟩] 24) := ⟨_, rfl⟩
    have hb : Below wd.heap.size wd W11 := by rw [hWn]; exact (Below.refl _ _).alloc (Nat.le_refl _) _
    have hvn : Blk W11 wd.heap.size 24 #[.string ⟨#[]⟩, .int .i64 0, .int .i64 0, .int .i64 0, .int .i64 0, .slice none 0 0, .string ⟨#[]⟩] := by rw [hWn]; exact Blk.new _ _ _
    have hH : Blk W11 w3.heap.size 85 #[.string c.issuer, .int .i64 c.num, .int .i64 c.ths, .int .i64 c.nxt, .int .i64 c.bas, .slice pa c.revs.length pc] := hHeld.on hb
    have HBn : Hid (Below w0.heap.size w0 W11) := HB.out.trans (hb.mono HB.out.size)
    clear HB
    have HB := HBn
    clear HBn
    have HOn : Hid (Out [g] w W11) := HO.out.trans (Out.of_below hb)
    clear HO
    have HO := HOn
    clear HOn
    have VCn : Hid (Blk W11 w.heap.size 24 #[.string ⟨#[]⟩, .int .i64 0, .int .i64 0, .int .i64 0, .int .i64 0, .slice none 0 0, .string ⟨#[]⟩]) := VC.out.on hb
    clear VC
    have VC := VCn
    clear VCn
    have RWn : Hid (Blk W11 g 107 #[v2]) := RW.out.on hb
    clear RW
    have RW := RWn
    clear RWn
    have HXn : Hid (OwnR W11 w2.heap.size (.slice pa c.revs.length pc) c.revs) := HX.out.stays hb
    clear HX
    have HX := HXn
    clear HXn
    have O8 : Hid (wd.heap.size ≤ W11.heap.size) := hb.size
    go_simp
    rw [← hWn]
    refine hK.out _ _ hH (fun hHeld => ?_)
    clear hK K hH hb hWn
    try simp only [Act.put, List.setIfInBounds_toArray, List.set_cons_zero, List.set_cons_succ]
    obtain ⟨gx, hgx⟩ : ∃ q, wd.heap.size = q := ⟨_, rfl⟩
    rw [hgx] at hvn ⊢
    have O9 : Hid (wd.heap.size = gx ∧ gx < W11.heap.size) := ⟨hgx, hvn.lt⟩
    have VX : Hid (Blk W11 gx 24 #[.string ⟨#[]⟩, .int .i64 0, .int .i64 0, .int .i64 0, .int .i64 0, .slice none 0 0, .string ⟨#[]⟩]) := hvn
    clear hvn hgx
    refine wpAnyH_ready (rs := [2]) (by kernel_rfl) (by simp) ?_
    refine AllReadyH.cons (o := ⟨some 10, _, _, _, _, _⟩) rfl (fun K hK => ?_) AllReadyH.nil
    go_simp
    refine (rbytes_any w0 W11 g (n + 3) v2 r2 HB.out KR.out.1 RW.out (by have := O0.out; have := O1.out; have := O2.out; have := O3.out; have := O4.out; have := O5.out; have := O6.out; have := O7.out; have := O8.out; have := O9.out; omega) KR.out.2.1).mono ?_
    rintro e w12 ⟨ho, ⟨hn, rfl⟩ | ⟨xs, r5, v5, hn, rfl, hkr, hB⟩⟩
    · have HF : Hid (Out [g] w w12 ∧ oB = none) := by
        refine ⟨HO.out.trans ho, ?_⟩
        rw [← HP.out]
        unfold cbP; simp only [N2.out, N3.out, hn, Option.bind_some, Option.bind_none]
      clear hn ho
      unfold misfit
      go_wp2_with fail
      exact ⟨rfl, HF.out.1, .inl ⟨HF.out.2, rfl⟩⟩
    have N5 : Hid (txtP 4 r2 = some (xs, r5)) := hn
    have hH : Blk w12 w3.heap.size 85 #[.string c.issuer, .int .i64 c.num, .int .i64 c.ths, .int .i64 c.nxt, .int .i64 c.bas, .slice pa c.revs.length pc] := hHeld.outX ho (by have := O0.out; have := O1.out; have := O2.out; have := O3.out; have := O4.out; have := O5.out; have := O6.out; have := O7.out; have := O8.out; have := O9.out; simp <;> omega)
    have HBn : Hid (Below w0.heap.size w0 w12) := below_out HB.out ho (by have := O0.out; have := O1.out; have := O2.out; have := O3.out; have := O4.out; have := O5.out; have := O6.out; have := O7.out; have := O8.out; have := O9.out; omega)
    clear HB
    have HB := HBn
    clear HBn
    have HOn : Hid (Out [g] w w12) := HO.out.trans ho
    clear HO
    have HO := HOn
    clear HOn
    have VCn : Hid (Blk w12 w.heap.size 24 #[.string ⟨#[]⟩, .int .i64 0, .int .i64 0, .int .i64 0, .int .i64 0, .slice none 0 0, .string ⟨#[]⟩]) := VC.out.outX ho (by have := O0.out; have := O1.out; have := O2.out; have := O3.out; have := O4.out; have := O5.out; have := O6.out; have := O7.out; have := O8.out; have := O9.out; simp <;> omega)
    clear VC
    have VC := VCn
    clear VCn
    have HXn : Hid (OwnR w12 w2.heap.size (.slice pa c.revs.length pc) c.revs) := ho.row (fun b hb => by have := LX.out b hb; have := O0.out; have := O1.out; have := O2.out; have := O3.out; have := O4.out; have := O5.out; have := O6.out; have := O7.out; have := O8.out; have := O9.out; simp <;> omega) HX.out
    clear HX
    have HX := HXn
    clear HXn
    have VXn : Hid (Blk w12 gx 24 #[.string ⟨#[]⟩, .int .i64 0, .int .i64 0, .int .i64 0, .int .i64 0, .slice none 0 0, .string ⟨#[]⟩]) := VX.out.outX ho (by have := O0.out; have := O1.out; have := O2.out; have := O3.out; have := O4.out; have := O5.out; have := O6.out; have := O7.out; have := O8.out; have := O9.out; simp <;> omega)
    clear VX
    have VX := VXn
    clear VXn
    clear RW
    have O10 : Hid (W11.heap.size ≤ w12.heap.size) := ho.size
    have RW : Hid (Blk w12 g 107 #[v5]) := hB
    have KR5 : Hid (KcAt w0 (n + 4) v5 r5) := hkr
    clear hn ho hkr hB KR
    go_wp2_with fail
    refine hK.out _ _ hH (fun hHeld => ?_)
    clear hK K hH
    try simp only [Act.put, List.setIfInBounds_toArray, List.set_cons_zero, List.set_cons_succ]
    refine wpAnyH_ready (rs := [3]) (by kernel_rfl) (by simp) ?_
    refine AllReadyH.cons (o := ⟨some 11, _, _, _, _, _⟩) rfl (fun K hK => ?_) AllReadyH.nil
    go_simp
    refine (withSig_any c pa c.revs.length pc xs w12).mono ?_
    rintro e w13 ⟨rfl, hb⟩
    have hH : Blk w13 w3.heap.size 85 #[.string c.issuer, .int .i64 c.num, .int .i64 c.ths, .int .i64 c.nxt, .int .i64 c.bas, .slice pa c.revs.length pc] := hHeld.on hb
    have HBn : Hid (Below w0.heap.size w0 w13) := HB.out.trans (hb.mono HB.out.size)
    clear HB
    have HB := HBn
    clear HBn
    have HOn : Hid (Out [g] w w13) := HO.out.trans (Out.of_below hb)
    clear HO
    have HO := HOn
    clear HOn
    have VCn : Hid (Blk w13 w.heap.size 24 #[.string ⟨#[]⟩, .int .i64 0, .int .i64 0, .int .i64 0, .int .i64 0, .slice none 0 0, .string ⟨#[]⟩]) := VC.out.on hb
    clear VC
    have VC := VCn
    clear VCn
    have HXn : Hid (OwnR w13 w2.heap.size (.slice pa c.revs.length pc) c.revs) := HX.out.stays hb
    clear HX
    have HX := HXn
    clear HXn
    have VXn : Hid (Blk w13 gx 24 #[.string ⟨#[]⟩, .int .i64 0, .int .i64 0, .int .i64 0, .int .i64 0, .slice none 0 0, .string ⟨#[]⟩]) := VX.out.on hb
    clear VX
    have VX := VXn
    clear VXn
    have RWn : Hid (Blk w13 g 107 #[v5]) := RW.out.on hb
    clear RW
    have RW := RWn
    clear RWn
    have O11 : Hid (w12.heap.size ≤ w13.heap.size) := hb.size
    clear hb
    unfold clV
    go_wp2_with fail
    refine hK.out _ _ hH (fun hHeld => ?_)
    clear hK K hH
    try simp only [Act.put, List.setIfInBounds_toArray, List.set_cons_zero, List.set_cons_succ]
    refine wpAnyH_ready (rs := [5]) (by kernel_rfl) (by simp) ?_
    refine AllReadyH.cons (o := ⟨none, _, _, _, _, _⟩) rfl (fun K hK => ?_) AllReadyH.nil
    have z0 : w13.cell? ⟨gx, 0, none⟩ = some (.string ⟨#[]⟩) := VX.out.cell 0
    have z1 : w13.cell? ⟨gx, 1, none⟩ = some (.int .i64 0) := VX.out.cell 1
    have z2 : w13.cell? ⟨gx, 2, none⟩ = some (.int .i64 0) := VX.out.cell 2
    have z3 : w13.cell? ⟨gx, 3, none⟩ = some (.int .i64 0) := VX.out.cell 3
    have z4 : w13.cell? ⟨gx, 4, none⟩ = some (.int .i64 0) := VX.out.cell 4
    have z5 : w13.cell? ⟨gx, 5, none⟩ = some (.slice none 0 0) := VX.out.cell 5
    have z6 : w13.cell? ⟨gx, 6, none⟩ = some (.string ⟨#[]⟩) := VX.out.cell 6
    have zf := fun j => VX.out.free j
    obtain ⟨V7, hV7⟩ : ∃ V, V = (((((((w13.setCell ⟨gx, 0, none⟩ (.string c.issuer)).setCell ⟨gx, 1, none⟩ (.int .i64 c.num)).setCell ⟨gx, 2, none⟩ (.int .i64 c.ths)).setCell ⟨gx, 3, none⟩ (.int .i64 c.nxt)).setCell ⟨gx, 4, none⟩ (.int .i64 c.bas)).setCell ⟨gx, 5, none⟩ (.slice pa c.revs.length pc)).setCell ⟨gx, 6, none⟩ (.string xs)) := ⟨_, rfl⟩
    have hset : Out [gx] w13 V7 := by
      rw [hV7]
      iterate 7 refine Out.setCell ?_ _ _ (by simp)
      exact Out.refl _ _
    have hVX : Blk V7 gx 24 #[.string c.issuer, .int .i64 c.num, .int .i64 c.ths, .int .i64 c.nxt, .int .i64 c.bas, .slice pa c.revs.length pc, .string xs] := by
      rw [hV7]
      have h0 := VX.out
      have h1 : Blk _ gx 24 #[.string c.issuer, .int .i64 0, .int .i64 0, .int .i64 0, .int .i64 0, .slice none 0 0, .string ⟨#[]⟩] := h0.set 0 (.string c.issuer)
      have h2 : Blk _ gx 24 #[.string c.issuer, .int .i64 c.num, .int .i64 0, .int .i64 0, .int .i64 0, .slice none 0 0, .string ⟨#[]⟩] := h1.set 1 (.int .i64 c.num)
      have h3 : Blk _ gx 24 #[.string c.issuer, .int .i64 c.num, .int .i64 c.ths, .int .i64 0, .int .i64 0, .slice none 0 0, .string ⟨#[]⟩] := h2.set 2 (.int .i64 c.ths)
      have h4 : Blk _ gx 24 #[.string c.issuer, .int .i64 c.num, .int .i64 c.ths, .int .i64 c.nxt, .int .i64 0, .slice none 0 0, .string ⟨#[]⟩] := h3.set 3 (.int .i64 c.nxt)
      have h5 : Blk _ gx 24 #[.string c.issuer, .int .i64 c.num, .int .i64 c.ths, .int .i64 c.nxt, .int .i64 c.bas, .slice none 0 0, .string ⟨#[]⟩] := h4.set 4 (.int .i64 c.bas)
      have h6 : Blk _ gx 24 #[.string c.issuer, .int .i64 c.num, .int .i64 c.ths, .int .i64 c.nxt, .int .i64 c.bas, .slice pa c.revs.length pc, .string ⟨#[]⟩] := h5.set 5 (.slice pa c.revs.length pc)
      have h7 : Blk _ gx 24 #[.string c.issuer, .int .i64 c.num, .int .i64 c.ths, .int .i64 c.nxt, .int .i64 c.bas, .slice pa c.revs.length pc, .string xs] := h6.set 6 (.string xs)
      exact h7
    have hH : Blk V7 w3.heap.size 85 #[.string c.issuer, .int .i64 c.num, .int .i64 c.ths, .int .i64 c.nxt, .int .i64 c.bas, .slice pa c.revs.length pc] := hHeld.outX hset (by have := O0.out; have := O1.out; have := O2.out; have := O3.out; have := O4.out; have := O5.out; have := O6.out; have := O7.out; have := O8.out; have := O9.out; have := O10.out; have := O11.out; simp <;> omega)
    go_simp
    rw [← hV7]
    refine hK.out _ _ hH (fun hHeld => ?_)
    clear hK K hH zf hV7 z0 z1 z2 z3 z4 z5 z6
    try simp only [Act.put, List.setIfInBounds_toArray, List.set_cons_zero, List.set_cons_succ]
    have HBn : Hid (Below w0.heap.size w0 V7) := below_out HB.out hset (by have := O0.out; have := O1.out; have := O2.out; have := O3.out; have := O4.out; have := O5.out; have := O6.out; have := O7.out; have := O8.out; have := O9.out; have := O10.out; have := O11.out; omega)
    clear HB
    have HB := HBn
    clear HBn
    have HOn : Hid (Out [g] w V7) := HO.out.aside hset (by have := O0.out; have := O1.out; have := O2.out; have := O3.out; have := O4.out; have := O5.out; have := O6.out; have := O7.out; have := O8.out; have := O9.out; have := O10.out; have := O11.out; omega)
    clear HO
    have HO := HOn
    clear HOn
    have VCn : Hid (Blk V7 w.heap.size 24 #[.string ⟨#[]⟩, .int .i64 0, .int .i64 0, .int .i64 0, .int .i64 0, .slice none 0 0, .string ⟨#[]⟩]) := VC.out.outX hset (by have := O0.out; have := O1.out; have := O2.out; have := O3.out; have := O4.out; have := O5.out; have := O6.out; have := O7.out; have := O8.out; have := O9.out; have := O10.out; have := O11.out; simp <;> omega)
    clear VC
    have VC := VCn
    clear VCn
    have HXn : Hid (OwnR V7 w2.heap.size (.slice pa c.revs.length pc) c.revs) := hset.row (fun b hb => by have := LX.out b hb; have := O0.out; have := O1.out; have := O2.out; have := O3.out; have := O4.out; have := O5.out; have := O6.out; have := O7.out; have := O8.out; have := O9.out; have := O10.out; have := O11.out; simp <;> omega) HX.out
    clear HX
    have HX := HXn
    clear HXn
    have RWn : Hid (Blk V7 g 107 #[v5]) := RW.out.outX hset (by have := O0.out; have := O1.out; have := O2.out; have := O3.out; have := O4.out; have := O5.out; have := O6.out; have := O7.out; have := O8.out; have := O9.out; have := O10.out; have := O11.out; simp <;> omega)
    clear RW
    have RW := RWn
    clear RWn
    clear VX
    have O12 : Hid (w13.heap.size ≤ V7.heap.size) := hset.size
    have VX : Hid (Blk V7 gx 24 #[.string c.issuer, .int .i64 c.num, .int .i64 c.ths, .int .i64 c.nxt, .int .i64 c.bas, .slice pa c.revs.length pc, .string xs]) := hVX
    clear hset hVX
    refine wpAnyH_done (by kernel_rfl) ?_ _
    clear hHeld
    go_wp2_with fail
    obtain ⟨ea, ec, he⟩ := KR5.out.shape
    have hRE : Blk V7 g 107 #[.slice ea r5.length ec] := by rw [← he]; exact RW.out
    refine (end_any V7 g r5.length ec ea r5 rfl hRE).mono ?_
    rintro e w9 ⟨hb, ⟨hn, rfl⟩ | ⟨hnil, hn, rfl⟩⟩
    · have HF : Hid (Out [g] w w9 ∧ oB = none) := by
        refine ⟨HO.out.trans (Out.of_below hb), ?_⟩
        rw [← HP.out]
        unfold cbP; simp only [N2.out, N3.out, N5.out, hn, Option.bind_some, Option.bind_none]
      clear hn hb
      unfold misfit
      go_wp2_with fail
      exact ⟨rfl, HF.out.1, .inl ⟨HF.out.2, rfl⟩⟩
    have N7 : Hid (endP r5 = some ()) := hn
    have HBn : Hid (Below w0.heap.size w0 w9) := HB.out.trans (hb.mono HB.out.size)
    clear HB
    have HB := HBn
    clear HBn
    have HOn : Hid (Out [g] w w9) := HO.out.trans (Out.of_below hb)
    clear HO
    have HO := HOn
    clear HOn
    have VCn : Hid (Blk w9 w.heap.size 24 #[.string ⟨#[]⟩, .int .i64 0, .int .i64 0, .int .i64 0, .int .i64 0, .slice none 0 0, .string ⟨#[]⟩]) := VC.out.on hb
    clear VC
    have VC := VCn
    clear VCn
    have HXn : Hid (OwnR w9 w2.heap.size (.slice pa c.revs.length pc) c.revs) := HX.out.stays hb
    clear HX
    have HX := HXn
    clear HXn
    have RWn : Hid (Blk w9 g 107 #[v5]) := RW.out.on hb
    clear RW
    have RW := RWn
    clear RWn
    have VXn : Hid (Blk w9 gx 24 #[.string c.issuer, .int .i64 c.num, .int .i64 c.ths, .int .i64 c.nxt, .int .i64 c.bas, .slice pa c.revs.length pc, .string xs]) := VX.out.on hb
    clear VX
    have VX := VXn
    clear VXn
    have O13 : Hid (V7.heap.size ≤ w9.heap.size) := hb.size
    clear hn hb hnil hRE he
    have HF : Hid (oB = some { c with sig := xs }) := by
      show oB = _
      rw [← HP.out]
      unfold cbP; simp only [N2.out, N3.out, N5.out, N7.out, Option.bind_some, Option.bind_none]
    have a0 : w9.cell? ⟨gx, 0, none⟩ = some (.string c.issuer) := VX.out.cell 0
    have b0 : w9.cell? ⟨w.heap.size, 0, none⟩ = some (.string ⟨#[]⟩) := VC.out.cell 0
    have a1 : w9.cell? ⟨gx, 1, none⟩ = some (.int .i64 c.num) := VX.out.cell 1
    have b1 : w9.cell? ⟨w.heap.size, 1, none⟩ = some (.int .i64 0) := VC.out.cell 1
    have a2 : w9.cell? ⟨gx, 2, none⟩ = some (.int .i64 c.ths) := VX.out.cell 2
    have b2 : w9.cell? ⟨w.heap.size, 2, none⟩ = some (.int .i64 0) := VC.out.cell 2
    have a3 : w9.cell? ⟨gx, 3, none⟩ = some (.int .i64 c.nxt) := VX.out.cell 3
    have b3 : w9.cell? ⟨w.heap.size, 3, none⟩ = some (.int .i64 0) := VC.out.cell 3
    have a4 : w9.cell? ⟨gx, 4, none⟩ = some (.int .i64 c.bas) := VX.out.cell 4
    have b4 : w9.cell? ⟨w.heap.size, 4, none⟩ = some (.int .i64 0) := VC.out.cell 4
    have a5 : w9.cell? ⟨gx, 5, none⟩ = some (.slice pa c.revs.length pc) := VX.out.cell 5
    have b5 : w9.cell? ⟨w.heap.size, 5, none⟩ = some (.slice none 0 0) := VC.out.cell 5
    have a6 : w9.cell? ⟨gx, 6, none⟩ = some (.string xs) := VX.out.cell 6
    have b6 : w9.cell? ⟨w.heap.size, 6, none⟩ = some (.string ⟨#[]⟩) := VC.out.cell 6
    have fb := fun j => VC.out.free j
    have nx : ¬ gx = w.heap.size := by have := O0.out; have := O1.out; have := O2.out; have := O3.out; have := O4.out; have := O5.out; have := O6.out; have := O7.out; have := O8.out; have := O9.out; have := O10.out; have := O11.out; have := O12.out; have := O13.out; omega
    have ny : ¬ w.heap.size = gx := by have := O0.out; have := O1.out; have := O2.out; have := O3.out; have := O4.out; have := O5.out; have := O6.out; have := O7.out; have := O8.out; have := O9.out; have := O10.out; have := O11.out; have := O12.out; have := O13.out; omega
    go_wp2_with fail
    generalize hV8 : World.setCell _ { block := w.heap.size, off := 6 } _ = V8
    have FIN : Out [w.heap.size] w9 V8 ∧ Blk V8 w.heap.size 24 #[.string c.issuer, .int .i64 c.num, .int .i64 c.ths, .int .i64 c.nxt, .int .i64 c.bas, .slice pa c.revs.length pc, .string xs] := by
      rw [← hV8]
      refine ⟨?_, ?_⟩
      · iterate 7 refine Out.setCell ?_ _ _ (by simp)
        exact Out.refl _ _
      · have h0 := VC.out
        have h1 : Blk _ w.heap.size 24 #[.string c.issuer, .int .i64 0, .int .i64 0, .int .i64 0, .int .i64 0, .slice none 0 0, .string ⟨#[]⟩] := h0.set 0 (.string c.issuer)
        have h2 : Blk _ w.heap.size 24 #[.string c.issuer, .int .i64 c.num, .int .i64 0, .int .i64 0, .int .i64 0, .slice none 0 0, .string ⟨#[]⟩] := h1.set 1 (.int .i64 c.num)
        have h3 : Blk _ w.heap.size 24 #[.string c.issuer, .int .i64 c.num, .int .i64 c.ths, .int .i64 0, .int .i64 0, .slice none 0 0, .string ⟨#[]⟩] := h2.set 2 (.int .i64 c.ths)
        have h4 : Blk _ w.heap.size 24 #[.string c.issuer, .int .i64 c.num, .int .i64 c.ths, .int .i64 c.nxt, .int .i64 0, .slice none 0 0, .string ⟨#[]⟩] := h3.set 3 (.int .i64 c.nxt)
        have h5 : Blk _ w.heap.size 24 #[.string c.issuer, .int .i64 c.num, .int .i64 c.ths, .int .i64 c.nxt, .int .i64 c.bas, .slice none 0 0, .string ⟨#[]⟩] := h4.set 4 (.int .i64 c.bas)
        have h6 : Blk _ w.heap.size 24 #[.string c.issuer, .int .i64 c.num, .int .i64 c.ths, .int .i64 c.nxt, .int .i64 c.bas, .slice pa c.revs.length pc, .string ⟨#[]⟩] := h5.set 5 (.slice pa c.revs.length pc)
        have h7 : Blk _ w.heap.size 24 #[.string c.issuer, .int .i64 c.num, .int .i64 c.ths, .int .i64 c.nxt, .int .i64 c.bas, .slice pa c.revs.length pc, .string xs] := h6.set 6 (.string xs)
        exact h7
    clear hV8 fb nx ny a0 b0 a1 b1 a2 b2 a3 b3 a4 b4 a5 b5 a6 b6
    have HE8 : CbPost w0 w g oB (.returned (.agg #[.string c.issuer, .int .i64 c.num, .int .i64 c.ths, .int .i64 c.nxt, .int .i64 c.bas, .slice pa c.revs.length pc, .string xs])) V8 := by
      refine ⟨HO.out.aside FIN.1 (by have := O0.out; have := O1.out; have := O2.out; have := O3.out; have := O4.out; have := O5.out; have := O6.out; have := O7.out; have := O8.out; have := O9.out; have := O10.out; have := O11.out; have := O12.out; have := O13.out; omega), .inr ⟨{ c with sig := xs }, .agg #[.string c.issuer, .int .i64 c.num, .int .i64 c.ths, .int .i64 c.nxt, .int .i64 c.bas, .slice pa c.revs.length pc, .string xs], v5, HF.out, rfl, ?_, RW.out.outX FIN.1 (by have := O0.out; have := O1.out; have := O2.out; have := O3.out; have := O4.out; have := O5.out; have := O6.out; have := O7.out; have := O8.out; have := O9.out; have := O10.out; have := O11.out; have := O12.out; have := O13.out; simp <;> omega)⟩⟩
      exact ⟨_, rfl, OwnR.base (FIN.1.row (fun b hb => by have := LX.out b hb; have := O0.out; have := O1.out; have := O2.out; have := O3.out; have := O4.out; have := O5.out; have := O6.out; have := O7.out; have := O8.out; have := O9.out; have := O10.out; have := O11.out; have := O12.out; have := O13.out; simp <;> omega) HX.out) (by have := O0.out; have := O1.out; have := O2.out; have := O3.out; have := O4.out; have := O5.out; have := O6.out; have := O7.out; have := O8.out; have := O9.out; have := O10.out; have := O11.out; have := O12.out; have := O13.out; omega)⟩
    have q0 : V8.cell? ⟨w.heap.size, 0, none⟩ = some (.string c.issuer) := FIN.2.cell 0
    have q1 : V8.cell? ⟨w.heap.size, 1, none⟩ = some (.int .i64 c.num) := FIN.2.cell 1
    have q2 : V8.cell? ⟨w.heap.size, 2, none⟩ = some (.int .i64 c.ths) := FIN.2.cell 2
    have q3 : V8.cell? ⟨w.heap.size, 3, none⟩ = some (.int .i64 c.nxt) := FIN.2.cell 3
    have q4 : V8.cell? ⟨w.heap.size, 4, none⟩ = some (.int .i64 c.bas) := FIN.2.cell 4
    have q5 : V8.cell? ⟨w.heap.size, 5, none⟩ = some (.slice pa c.revs.length pc) := FIN.2.cell 5
    have q6 : V8.cell? ⟨w.heap.size, 6, none⟩ = some (.string xs) := FIN.2.cell 6
    refine bodyPost_ret (v := .agg #[.string c.issuer, .int .i64 c.num, .int .i64 c.ths, .int .i64 c.nxt, .int .i64 c.bas, .slice pa c.revs.length pc, .string xs]) (by simp [results, Try.results27, go_sem, q0, q1, q2, q3, q4, q5, q6]) rfl HE8
  go_simp
  refine (rbytes_any w0 wd g (n + 3) v2 r2 HB.out KR.out.1 RW.out (by have := O0.out; have := O1.out; have := O2.out; have := O3.out; have := O4.out; have := O5.out; have := O6.out; have := O7.out; omega) KR.out.2.1).mono ?_
  rintro e w14 ⟨ho, ⟨hn, rfl⟩ | ⟨xs, r5, v5, hn, rfl, hkr, hB⟩⟩
  · have HF : Hid (Out [g] w w14 ∧ oB = none) := by
      refine ⟨HO.out.trans ho, ?_⟩
      rw [← HP.out]
      unfold cbP; simp only [N2.out, N3.out, hn, Option.bind_some, Option.bind_none]
    clear hn ho
    unfold misfit
    go_wp2_with fail
    exact ⟨rfl, HF.out.1, .inl ⟨HF.out.2, rfl⟩⟩
  have N5 : Hid (txtP 4 r2 = some (xs, r5)) := hn
  have hH : Blk w14 w3.heap.size 85 #[.string c.issuer, .int .i64 c.num, .int .i64 c.ths, .int .i64 c.nxt, .int .i64 c.bas, .slice pa c.revs.length pc] := hHeld.outX ho (by have := O0.out; have := O1.out; have := O2.out; have := O3.out; have := O4.out; have := O5.out; have := O6.out; have := O7.out; simp <;> omega)
  have HBn : Hid (Below w0.heap.size w0 w14) := below_out HB.out ho (by have := O0.out; have := O1.out; have := O2.out; have := O3.out; have := O4.out; have := O5.out; have := O6.out; have := O7.out; omega)
  clear HB
  have HB := HBn
  clear HBn
  have HOn : Hid (Out [g] w w14) := HO.out.trans ho
  clear HO
  have HO := HOn
  clear HOn
  have VCn : Hid (Blk w14 w.heap.size 24 #[.string ⟨#[]⟩, .int .i64 0, .int .i64 0, .int .i64 0, .int .i64 0, .slice none 0 0, .string ⟨#[]⟩]) := VC.out.outX ho (by have := O0.out; have := O1.out; have := O2.out; have := O3.out; have := O4.out; have := O5.out; have := O6.out; have := O7.out; simp <;> omega)
  clear VC
  have VC := VCn
  clear VCn
  have HXn : Hid (OwnR w14 w2.heap.size (.slice pa c.revs.length pc) c.revs) := ho.row (fun b hb => by have := LX.out b hb; have := O0.out; have := O1.out; have := O2.out; have := O3.out; have := O4.out; have := O5.out; have := O6.out; have := O7.out; simp <;> omega) HX.out
  clear HX
  have HX := HXn
  clear HXn
  clear RW
  have O8 : Hid (wd.heap.size ≤ w14.heap.size) := ho.size
  have RW : Hid (Blk w14 g 107 #[v5]) := hB
  have KR5 : Hid (KcAt w0 (n + 4) v5 r5) := hkr
  clear hn ho hkr hB KR
  go_wp2_with fail
  refine hK.out _ _ hH (fun hHeld => ?_)
  clear hK K hH
  try simp only [Act.put, List.setIfInBounds_toArray, List.set_cons_zero, List.set_cons_succ]
  refine wpAnyH_ready (rs := [3, 4]) (by kernel_rfl) (by simp) ?_
  refine AllReadyH.cons (o := ⟨some 11, _, _, _, _, _⟩) rfl (fun K hK => ?_) ?_
  rotate_left
  · refine AllReadyH.cons (o := ⟨some 4, _, _, _, _, _⟩) rfl (fun K hK => ?_) AllReadyH.nil
    obtain ⟨W15, hWn⟩ : ∃ V, V = w14.alloc (Obj.cells #[.string ⟨#[]⟩, .int .i64 0, .int .i64 0, .int .i64 0, .int .i64 0, .slice none 0 0, .string ⟨#[]⟩] 24) := ⟨_, rfl⟩
    have hb : Below w14.heap.size w14 W15 := by rw [hWn]; exact (Below.refl _ _).alloc (Nat.le_refl _) _
    have hvn : Blk W15 w14.heap.size 24 #[.string ⟨#[]⟩, .int .i64 0, .int .i64 0, .int .i64 0, .int .i64 0, .slice none 0 0, .string ⟨#[]⟩] := by rw [hWn]; exact Blk.new _ _ _
    have hH : Blk W15 w3.heap.size 85 #[.string c.issuer, .int .i64 c.num, .int .i64 c.ths, .int .i64 c.nxt, .int .i64 c.bas, .slice pa c.revs.length pc] := hHeld.on hb
    have HBn : Hid (Below w0.heap.size w0 W15) := HB.out.trans (hb.mono HB.out.size)
    clear HB
    have HB := HBn
    clear HBn
    have HOn : Hid (Out [g] w W15) := HO.out.trans (Out.of_below hb)
    clear HO
    have HO := HOn
    clear HOn
    have VCn : Hid (Blk W15 w.heap.size 24 #[.string ⟨#[]⟩, .int .i64 0, .int .i64 0, .int .i64 0, .int .i64 0, .slice none 0 0, .string ⟨#[]⟩]) := VC.out.on hb
    clear VC
    have VC := VCn
    clear VCn
    have HXn : Hid (OwnR W15 w2.heap.size (.slice pa c.revs.length pc) c.revs) := HX.out.stays hb
    clear HX
    have HX := HXn
    clear HXn
    have RWn : Hid (Blk W15 g 107 #[v5]) := RW.out.on hb
    clear RW
    have RW := RWn
    clear RWn
    have O9 : Hid (w14.heap.size ≤ W15.heap.size) := hb.size
    go_simp
    rw [← hWn]
    refine hK.out _ _ hH (fun hHeld => ?_)
    clear hK K hH hb hWn
    try simp only [Act.put, List.setIfInBounds_toArray, List.set_cons_zero, List.set_cons_succ]
    obtain ⟨gx, hgx⟩ : ∃ q, w14.heap.size = q := ⟨_, rfl⟩
    rw [hgx] at hvn ⊢
    have O10 : Hid (w14.heap.size = gx ∧ gx < W15.heap.size) := ⟨hgx, hvn.lt⟩
    have VX : Hid (Blk W15 gx 24 #[.string ⟨#[]⟩, .int .i64 0, .int .i64 0, .int .i64 0, .int .i64 0, .slice none 0 0, .string ⟨#[]⟩]) := hvn
    clear hvn hgx
    refine wpAnyH_ready (rs := [3]) (by kernel_rfl) (by simp) ?_
    refine AllReadyH.cons (o := ⟨some 11, _, _, _, _, _⟩) rfl (fun K hK => ?_) AllReadyH.nil
    go_simp
    refine (withSig_any c pa c.revs.length pc xs W15).mono ?_
    rintro e w16 ⟨rfl, hb⟩
    have hH : Blk w16 w3.heap.size 85 #[.string c.issuer, .int .i64 c.num, .int .i64 c.ths, .int .i64 c.nxt, .int .i64 c.bas, .slice pa c.revs.length pc] := hHeld.on hb
    have HBn : Hid (Below w0.heap.size w0 w16) := HB.out.trans (hb.mono HB.out.size)
    clear HB
    have HB := HBn
    clear HBn
    have HOn : Hid (Out [g] w w16) := HO.out.trans (Out.of_below hb)
    clear HO
    have HO := HOn
    clear HOn
    have VCn : Hid (Blk w16 w.heap.size 24 #[.string ⟨#[]⟩, .int .i64 0, .int .i64 0, .int .i64 0, .int .i64 0, .slice none 0 0, .string ⟨#[]⟩]) := VC.out.on hb
    clear VC
    have VC := VCn
    clear VCn
    have HXn : Hid (OwnR w16 w2.heap.size (.slice pa c.revs.length pc) c.revs) := HX.out.stays hb
    clear HX
    have HX := HXn
    clear HXn
    have RWn : Hid (Blk w16 g 107 #[v5]) := RW.out.on hb
    clear RW
    have RW := RWn
    clear RWn
    have VXn : Hid (Blk w16 gx 24 #[.string ⟨#[]⟩, .int .i64 0, .int .i64 0, .int .i64 0, .int .i64 0, .slice none 0 0, .string ⟨#[]⟩]) := VX.out.on hb
    clear VX
    have VX := VXn
    clear VXn
    have O11 : Hid (W15.heap.size ≤ w16.heap.size) := hb.size
    clear hb
    unfold clV
    go_wp2_with fail
    refine hK.out _ _ hH (fun hHeld => ?_)
    clear hK K hH
    try simp only [Act.put, List.setIfInBounds_toArray, List.set_cons_zero, List.set_cons_succ]
    refine wpAnyH_ready (rs := [5]) (by kernel_rfl) (by simp) ?_
    refine AllReadyH.cons (o := ⟨none, _, _, _, _, _⟩) rfl (fun K hK => ?_) AllReadyH.nil
    have z0 : w16.cell? ⟨gx, 0, none⟩ = some (.string ⟨#[]⟩) := VX.out.cell 0
    have z1 : w16.cell? ⟨gx, 1, none⟩ = some (.int .i64 0) := VX.out.cell 1
    have z2 : w16.cell? ⟨gx, 2, none⟩ = some (.int .i64 0) := VX.out.cell 2
    have z3 : w16.cell? ⟨gx, 3, none⟩ = some (.int .i64 0) := VX.out.cell 3
    have z4 : w16.cell? ⟨gx, 4, none⟩ = some (.int .i64 0) := VX.out.cell 4
    have z5 : w16.cell? ⟨gx, 5, none⟩ = some (.slice none 0 0) := VX.out.cell 5
    have z6 : w16.cell? ⟨gx, 6, none⟩ = some (.string ⟨#[]⟩) := VX.out.cell 6
    have zf := fun j => VX.out.free j
    obtain ⟨V7, hV7⟩ : ∃ V, V = (((((((w16.setCell ⟨gx, 0, none⟩ (.string c.issuer)).setCell ⟨gx, 1, none⟩ (.int .i64 c.num)).setCell ⟨gx, 2, none⟩ (.int .i64 c.ths)).setCell ⟨gx, 3, none⟩ (.int .i64 c.nxt)).setCell ⟨gx, 4, none⟩ (.int .i64 c.bas)).setCell ⟨gx, 5, none⟩ (.slice pa c.revs.length pc)).setCell ⟨gx, 6, none⟩ (.string xs)) := ⟨_, rfl⟩
    have hset : Out [gx] w16 V7 := by
      rw [hV7]
      iterate 7 refine Out.setCell ?_ _ _ (by simp)
      exact Out.refl _ _
    have hVX : Blk V7 gx 24 #[.string c.issuer, .int .i64 c.num, .int .i64 c.ths, .int .i64 c.nxt, .int .i64 c.bas, .slice pa c.revs.length pc, .string xs] := by
      rw [hV7]
      have h0 := VX.out
      have h1 : Blk _ gx 24 #[.string c.issuer, .int .i64 0, .int .i64 0, .int .i64 0, .int .i64 0, .slice none 0 0, .string ⟨#[]⟩] := h0.set 0 (.string c.issuer)
      have h2 : Blk _ gx 24 #[.string c.issuer, .int .i64 c.num, .int .i64 0, .int .i64 0, .int .i64 0, .slice none 0 0, .string ⟨#[]⟩] := h1.set 1 (.int .i64 c.num)
      have h3 : Blk _ gx 24 #[.string c.issuer, .int .i64 c.num, .int .i64 c.ths, .int .i64 0, .int .i64 0, .slice none 0 0, .string ⟨#[]⟩] := h2.set 2 (.int .i64 c.ths)
      have h4 : Blk _ gx 24 #[.string c.issuer, .int .i64 c.num, .int .i64 c.ths, .int .i64 c.nxt, .int .i64 0, .slice none 0 0, .string ⟨#[]⟩] := h3.set 3 (.int .i64 c.nxt)
      have h5 : Blk _ gx 24 #[.string c.issuer, .int .i64 c.num, .int .i64 c.ths, .int .i64 c.nxt, .int .i64 c.bas, .slice none 0 0, .string ⟨#[]⟩] := h4.set 4 (.int .i64 c.bas)
      have h6 : Blk _ gx 24 #[.string c.issuer, .int .i64 c.num, .int .i64 c.ths, .int .i64 c.nxt, .int .i64 c.bas, .slice pa c.revs.length pc, .string ⟨#[]⟩] := h5.set 5 (.slice pa c.revs.length pc)
      have h7 : Blk _ gx 24 #[.string c.issuer, .int .i64 c.num, .int .i64 c.ths, .int .i64 c.nxt, .int .i64 c.bas, .slice pa c.revs.length pc, .string xs] := h6.set 6 (.string xs)
      exact h7
    have hH : Blk V7 w3.heap.size 85 #[.string c.issuer, .int .i64 c.num, .int .i64 c.ths, .int .i64 c.nxt, .int .i64 c.bas, .slice pa c.revs.length pc] := hHeld.outX hset (by have := O0.out; have := O1.out; have := O2.out; have := O3.out; have := O4.out; have := O5.out; have := O6.out; have := O7.out; have := O8.out; have := O9.out; have := O10.out; have := O11.out; simp <;> omega)
    go_simp
    rw [← hV7]
    refine hK.out _ _ hH (fun hHeld => ?_)
    clear hK K hH zf hV7 z0 z1 z2 z3 z4 z5 z6
    try simp only [Act.put, List.setIfInBounds_toArray, List.set_cons_zero, List.set_cons_succ]
    have HBn : Hid (Below w0.heap.size w0 V7) := below_out HB.out hset (by have := O0.out; have := O1.out; have := O2.out; have := O3.out; have := O4.out; have := O5.out; have := O6.out; have := O7.out; have := O8.out; have := O9.out; have := O10.out; have := O11.out; omega)
    clear HB
    have HB := HBn
    clear HBn
    have HOn : Hid (Out [g] w V7) := HO.out.aside hset (by have := O0.out; have := O1.out; have := O2.out; have := O3.out; have := O4.out; have := O5.out; have := O6.out; have := O7.out; have := O8.out; have := O9.out; have := O10.out; have := O11.out; omega)
    clear HO
    have HO := HOn
    clear HOn
    have VCn : Hid (Blk V7 w.heap.size 24 #[.string ⟨#[]⟩, .int .i64 0, .int .i64 0, .int .i64 0, .int .i64 0, .slice none 0 0, .string ⟨#[]⟩]) := VC.out.outX hset (by have := O0.out; have := O1.out; have := O2.out; have := O3.out; have := O4.out; have := O5.out; have := O6.out; have := O7.out; have := O8.out; have := O9.out; have := O10.out; have := O11.out; simp <;> omega)
    clear VC
    have VC := VCn
    clear VCn
    have HXn : Hid (OwnR V7 w2.heap.size (.slice pa c.revs.length pc) c.revs) := hset.row (fun b hb => by have := LX.out b hb; have := O0.out; have := O1.out; have := O2.out; have := O3.out; have := O4.out; have := O5.out; have := O6.out; have := O7.out; have := O8.out; have := O9.out; have := O10.out; have := O11.out; simp <;> omega) HX.out
    clear HX
    have HX := HXn
    clear HXn
    have RWn : Hid (Blk V7 g 107 #[v5]) := RW.out.outX hset (by have := O0.out; have := O1.out; have := O2.out; have := O3.out; have := O4.out; have := O5.out; have := O6.out; have := O7.out; have := O8.out; have := O9.out; have := O10.out; have := O11.out; simp <;> omega)
    clear RW
    have RW := RWn
    clear RWn
    clear VX
    have O12 : Hid (w16.heap.size ≤ V7.heap.size) := hset.size
    have VX : Hid (Blk V7 gx 24 #[.string c.issuer, .int .i64 c.num, .int .i64 c.ths, .int .i64 c.nxt, .int .i64 c.bas, .slice pa c.revs.length pc, .string xs]) := hVX
    clear hset hVX
    refine wpAnyH_done (by kernel_rfl) ?_ _
    clear hHeld
    go_wp2_with fail
    obtain ⟨ea, ec, he⟩ := KR5.out.shape
    have hRE : Blk V7 g 107 #[.slice ea r5.length ec] := by rw [← he]; exact RW.out
    refine (end_any V7 g r5.length ec ea r5 rfl hRE).mono ?_
    rintro e w9 ⟨hb, ⟨hn, rfl⟩ | ⟨hnil, hn, rfl⟩⟩
    · have HF : Hid (Out [g] w w9 ∧ oB = none) := by
        refine ⟨HO.out.trans (Out.of_below hb), ?_⟩
        rw [← HP.out]
        unfold cbP; simp only [N2.out, N3.out, N5.out, hn, Option.bind_some, Option.bind_none]
      clear hn hb
      unfold misfit
      go_wp2_with fail
      exact ⟨rfl, HF.out.1, .inl ⟨HF.out.2, rfl⟩⟩
    have N7 : Hid (endP r5 = some ()) := hn
    have HBn : Hid (Below w0.heap.size w0 w9) := HB.out.trans (hb.mono HB.out.size)
    clear HB
    have HB := HBn
    clear HBn
    have HOn : Hid (Out [g] w w9) := HO.out.trans (Out.of_below hb)
    clear HO
    have HO := HOn
    clear HOn
    have VCn : Hid (Blk w9 w.heap.size 24 #[.string ⟨#[]⟩, .int .i64 0, .int .i64 0, .int .i64 0, .int .i64 0, .slice none 0 0, .string ⟨#[]⟩]) := VC.out.on hb
    clear VC
    have VC := VCn
    clear VCn
    have HXn : Hid (OwnR w9 w2.heap.size (.slice pa c.revs.length pc) c.revs) := HX.out.stays hb
    clear HX
    have HX := HXn
    clear HXn
    have RWn : Hid (Blk w9 g 107 #[v5]) := RW.out.on hb
    clear RW
    have RW := RWn
    clear RWn
    have VXn : Hid (Blk w9 gx 24 #[.string c.issuer, .int .i64 c.num, .int .i64 c.ths, .int .i64 c.nxt, .int .i64 c.bas, .slice pa c.revs.length pc, .string xs]) := VX.out.on hb
    clear VX
    have VX := VXn
    clear VXn
    have O13 : Hid (V7.heap.size ≤ w9.heap.size) := hb.size
    clear hn hb hnil hRE he
    have HF : Hid (oB = some { c with sig := xs }) := by
      show oB = _
      rw [← HP.out]
      unfold cbP; simp only [N2.out, N3.out, N5.out, N7.out, Option.bind_some, Option.bind_none]
    have a0 : w9.cell? ⟨gx, 0, none⟩ = some (.string c.issuer) := VX.out.cell 0
    have b0 : w9.cell? ⟨w.heap.size, 0, none⟩ = some (.string ⟨#[]⟩) := VC.out.cell 0
    have a1 : w9.cell? ⟨gx, 1, none⟩ = some (.int .i64 c.num) := VX.out.cell 1
    have b1 : w9.cell? ⟨w.heap.size, 1, none⟩ = some (.int .i64 0) := VC.out.cell 1
    have a2 : w9.cell? ⟨gx, 2, none⟩ = some (.int .i64 c.ths) := VX.out.cell 2
    have b2 : w9.cell? ⟨w.heap.size, 2, none⟩ = some (.int .i64 0) := VC.out.cell 2
    have a3 : w9.cell? ⟨gx, 3, none⟩ = some (.int .i64 c.nxt) := VX.out.cell 3
    have b3 : w9.cell? ⟨w.heap.size, 3, none⟩ = some (.int .i64 0) := VC.out.cell 3
    have a4 : w9.cell? ⟨gx, 4, none⟩ = some (.int .i64 c.bas) := VX.out.cell 4
    have b4 : w9.cell? ⟨w.heap.size, 4, none⟩ = some (.int .i64 0) := VC.out.cell 4
    have a5 : w9.cell? ⟨gx, 5, none⟩ = some (.slice pa c.revs.length pc) := VX.out.cell 5
    have b5 : w9.cell? ⟨w.heap.size, 5, none⟩ = some (.slice none 0 0) := VC.out.cell 5
    have a6 : w9.cell? ⟨gx, 6, none⟩ = some (.string xs) := VX.out.cell 6
    have b6 : w9.cell? ⟨w.heap.size, 6, none⟩ = some (.string ⟨#[]⟩) := VC.out.cell 6
    have fb := fun j => VC.out.free j
    have nx : ¬ gx = w.heap.size := by have := O0.out; have := O1.out; have := O2.out; have := O3.out; have := O4.out; have := O5.out; have := O6.out; have := O7.out; have := O8.out; have := O9.out; have := O10.out; have := O11.out; have := O12.out; have := O13.out; omega
    have ny : ¬ w.heap.size = gx := by have := O0.out; have := O1.out; have := O2.out; have := O3.out; have := O4.out; have := O5.out; have := O6.out; have := O7.out; have := O8.out; have := O9.out; have := O10.out; have := O11.out; have := O12.out; have := O13.out; omega
    go_wp2_with fail
    generalize hV8 : World.setCell _ { block := w.heap.size, off := 6 } _ = V8
    have FIN : Out [w.heap.size] w9 V8 ∧ Blk V8 w.heap.size 24 #[.string c.issuer, .int .i64 c.num, .int .i64 c.ths, .int .i64 c.nxt, .int .i64 c.bas, .slice pa c.revs.length pc, .string xs] := by
      rw [← hV8]
      refine ⟨?_, ?_⟩
      · iterate 7 refine Out.setCell ?_ _ _ (by simp)
        exact Out.refl _ _
      · have h0 := VC.out
        have h1 : Blk _ w.heap.size 24 #[.string c.issuer, .int .i64 0, .int .i64 0, .int .i64 0, .int .i64 0, .slice none 0 0, .string ⟨#[]⟩] := h0.set 0 (.string c.issuer)
        have h2 : Blk _ w.heap.size 24 #[.string c.issuer, .int .i64 c.num, .int .i64 0, .int .i64 0, .int .i64 0, .slice none 0 0, .string ⟨#[]⟩] := h1.set 1 (.int .i64 c.num)
        have h3 : Blk _ w.heap.size 24 #[.string c.issuer, .int .i64 c.num, .int .i64 c.ths, .int .i64 0, .int .i64 0, .slice none 0 0, .string ⟨#[]⟩] := h2.set 2 (.int .i64 c.ths)
        have h4 : Blk _ w.heap.size 24 #[.string c.issuer, .int .i64 c.num, .int .i64 c.ths, .int .i64 c.nxt, .int .i64 0, .slice none 0 0, .string ⟨#[]⟩] := h3.set 3 (.int .i64 c.nxt)
        have h5 : Blk _ w.heap.size 24 #[.string c.issuer, .int .i64 c.num, .int .i64 c.ths, .int .i64 c.nxt, .int .i64 c.bas, .slice none 0 0, .string ⟨#[]⟩] := h4.set 4 (.int .i64 c.bas)
        have h6 : Blk _ w.heap.size 24 #[.string c.issuer, .int .i64 c.num, .int .i64 c.ths, .int .i64 c.nxt, .int .i64 c.bas, .slice pa c.revs.length pc, .string ⟨#[]⟩] := h5.set 5 (.slice pa c.revs.length pc)
        have h7 : Blk _ w.heap.size 24 #[.string c.issuer, .int .i64 c.num, .int .i64 c.ths, .int .i64 c.nxt, .int .i64 c.bas, .slice pa c.revs.length pc, .string xs] := h6.set 6 (.string xs)
        exact h7
    clear hV8 fb nx ny a0 b0 a1 b1 a2 b2 a3 b3 a4 b4 a5 b5 a6 b6
    have HE8 : CbPost w0 w g oB (.returned (.agg #[.string c.issuer, .int .i64 c.num, .int .i64 c.ths, .int .i64 c.nxt, .int .i64 c.bas, .slice pa c.revs.length pc, .string xs])) V8 := by
      refine ⟨HO.out.aside FIN.1 (by have := O0.out; have := O1.out; have := O2.out; have := O3.out; have := O4.out; have := O5.out; have := O6.out; have := O7.out; have := O8.out; have := O9.out; have := O10.out; have := O11.out; have := O12.out; have := O13.out; omega), .inr ⟨{ c with sig := xs }, .agg #[.string c.issuer, .int .i64 c.num, .int .i64 c.ths, .int .i64 c.nxt, .int .i64 c.bas, .slice pa c.revs.length pc, .string xs], v5, HF.out, rfl, ?_, RW.out.outX FIN.1 (by have := O0.out; have := O1.out; have := O2.out; have := O3.out; have := O4.out; have := O5.out; have := O6.out; have := O7.out; have := O8.out; have := O9.out; have := O10.out; have := O11.out; have := O12.out; have := O13.out; simp <;> omega)⟩⟩
      exact ⟨_, rfl, OwnR.base (FIN.1.row (fun b hb => by have := LX.out b hb; have := O0.out; have := O1.out; have := O2.out; have := O3.out; have := O4.out; have := O5.out; have := O6.out; have := O7.out; have := O8.out; have := O9.out; have := O10.out; have := O11.out; have := O12.out; have := O13.out; simp <;> omega) HX.out) (by have := O0.out; have := O1.out; have := O2.out; have := O3.out; have := O4.out; have := O5.out; have := O6.out; have := O7.out; have := O8.out; have := O9.out; have := O10.out; have := O11.out; have := O12.out; have := O13.out; omega)⟩
    have q0 : V8.cell? ⟨w.heap.size, 0, none⟩ = some (.string c.issuer) := FIN.2.cell 0
    have q1 : V8.cell? ⟨w.heap.size, 1, none⟩ = some (.int .i64 c.num) := FIN.2.cell 1
    have q2 : V8.cell? ⟨w.heap.size, 2, none⟩ = some (.int .i64 c.ths) := FIN.2.cell 2
    have q3 : V8.cell? ⟨w.heap.size, 3, none⟩ = some (.int .i64 c.nxt) := FIN.2.cell 3
    have q4 : V8.cell? ⟨w.heap.size, 4, none⟩ = some (.int .i64 c.bas) := FIN.2.cell 4
    have q5 : V8.cell? ⟨w.heap.size, 5, none⟩ = some (.slice pa c.revs.length pc) := FIN.2.cell 5
    have q6 : V8.cell? ⟨w.heap.size, 6, none⟩ = some (.string xs) := FIN.2.cell 6
    refine bodyPost_ret (v := .agg #[.string c.issuer, .int .i64 c.num, .int .i64 c.ths, .int .i64 c.nxt, .int .i64 c.bas, .slice pa c.revs.length pc, .string xs]) (by simp [results, Try.results27, go_sem, q0, q1, q2, q3, q4, q5, q6]) rfl HE8
  go_simp
  refine (withSig_any c pa c.revs.length pc xs w14).mono ?_
  rintro e w17 ⟨rfl, hb⟩
  have hH : Blk w17 w3.heap.size 85 #[.string c.issuer, .int .i64 c.num, .int .i64 c.ths, .int .i64 c.nxt, .int .i64 c.bas, .slice pa c.revs.length pc] := hHeld.on hb
  have HBn : Hid (Below w0.heap.size w0 w17) := HB.out.trans (hb.mono HB.out.size)
  clear HB
  have HB := HBn
  clear HBn
  have HOn : Hid (Out [g] w w17) := HO.out.trans (Out.of_below hb)
  clear HO
  have HO := HOn
  clear HOn
  have VCn : Hid (Blk w17 w.heap.size 24 #[.string ⟨#[]⟩, .int .i64 0, .int .i64 0, .int .i64 0, .int .i64 0, .slice none 0 0, .string ⟨#[]⟩]) := VC.out.on hb
  clear VC
  have VC := VCn
  clear VCn
  have HXn : Hid (OwnR w17 w2.heap.size (.slice pa c.revs.length pc) c.revs) := HX.out.stays hb
  clear HX
  have HX := HXn
  clear HXn
  have RWn : Hid (Blk w17 g 107 #[v5]) := RW.out.on hb
  clear RW
  have RW := RWn
  clear RWn
  have O9 : Hid (w14.heap.size ≤ w17.heap.size) := hb.size
  clear hb
  unfold clV
  go_wp2_with fail
  refine hK.out _ _ hH (fun hHeld => ?_)
  clear hK K hH
  try simp only [Act.put, List.setIfInBounds_toArray, List.set_cons_zero, List.set_cons_succ]
  refine wpAnyH_ready (rs := [4]) (by kernel_rfl) (by simp) ?_
  refine AllReadyH.cons (o := ⟨some 4, _, _, _, _, _⟩) rfl (fun K hK => ?_) AllReadyH.nil
  obtain ⟨W18, hWn⟩ : ∃ V, V = w17.alloc (Obj.cells #[.string ⟨#[]⟩, .int .i64 0, .int .i64 0, .int .i64 0, .int .i64 0, .slice none 0 0, .string ⟨#[]⟩] 24) := ⟨_, rfl⟩
  have hb : Below w17.heap.size w17 W18 := by rw [hWn]; exact (Below.refl _ _).alloc (Nat.le_refl _) _
  have hvn : Blk W18 w17.heap.size 24 #[.string ⟨#[]⟩, .int .i64 0, .int .i64 0, .int .i64 0, .int .i64 0, .slice none 0 0, .string ⟨#[]⟩] := by rw [hWn]; exact Blk.new _ _ _
  have hH : Blk W18 w3.heap.size 85 #[.string c.issuer, .int .i64 c.num, .int .i64 c.ths, .int .i64 c.nxt, .int .i64 c.bas, .slice pa c.revs.length pc] := hHeld.on hb
  have HBn : Hid (Below w0.heap.size w0 W18) := HB.out.trans (hb.mono HB.out.size)
  clear HB
  have HB := HBn
  clear HBn
  have HOn : Hid (Out [g] w W18) := HO.out.trans (Out.of_below hb)
  clear HO
  have HO := HOn
  clear HOn
  have VCn : Hid (Blk W18 w.heap.size 24 #[.string ⟨#[]⟩, .int .i64 0, .int .i64 0, .int .i64 0, .int .i64 0, .slice none 0 0, .string ⟨#[]⟩]) := VC.out.on hb
  clear VC
  have VC := VCn
  clear VCn
  have HXn : Hid (OwnR W18 w2.heap.size (.slice pa c.revs.length pc) c.revs) := HX.out.stays hb
  clear HX
  have HX := HXn
  clear HXn
  have RWn : Hid (Blk W18 g 107 #[v5]) := RW.out.on hb
  clear RW
  have RW := RWn
  clear RWn
  have O10 : Hid (w17.heap.size ≤ W18.heap.size) := hb.size
  go_simp
  rw [← hWn]
  refine hK.out _ _ hH (fun hHeld => ?_)
  clear hK K hH hb hWn
  try simp only [Act.put, List.setIfInBounds_toArray, List.set_cons_zero, List.set_cons_succ]
  obtain ⟨gx, hgx⟩ : ∃ q, w17.heap.size = q := ⟨_, rfl⟩
  rw [hgx] at hvn ⊢
  have O11 : Hid (w17.heap.size = gx ∧ gx < W18.heap.size) := ⟨hgx, hvn.lt⟩
  have VX : Hid (Blk W18 gx 24 #[.string ⟨#[]⟩, .int .i64 0, .int .i64 0, .int .i64 0, .int .i64 0, .slice none 0 0, .string ⟨#[]⟩]) := hvn
  clear hvn hgx
  refine wpAnyH_ready (rs := [5]) (by kernel_rfl) (by simp) ?_
  refine AllReadyH.cons (o := ⟨none, _, _, _, _, _⟩) rfl (fun K hK => ?_) AllReadyH.nil
  have z0 : W18.cell? ⟨gx, 0, none⟩ = some (.string ⟨#[]⟩) := VX.out.cell 0
  have z1 : W18.cell? ⟨gx, 1, none⟩ = some (.int .i64 0) := VX.out.cell 1
  have z2 : W18.cell? ⟨gx, 2, none⟩ = some (.int .i64 0) := VX.out.cell 2
  have z3 : W18.cell? ⟨gx, 3, none⟩ = some (.int .i64 0) := VX.out.cell 3
  have z4 : W18.cell? ⟨gx, 4, none⟩ = some (.int .i64 0) := VX.out.cell 4
  have z5 : W18.cell? ⟨gx, 5, none⟩ = some (.slice none 0 0) := VX.out.cell 5
  have z6 : W18.cell? ⟨gx, 6, none⟩ = some (.string ⟨#[]⟩) := VX.out.cell 6
  have zf := fun j => VX.out.free j
  obtain ⟨V7, hV7⟩ : ∃ V, V = (((((((W18.setCell ⟨gx, 0, none⟩ (.string c.issuer)).setCell ⟨gx, 1, none⟩ (.int .i64 c.num)).setCell ⟨gx, 2, none⟩ (.int .i64 c.ths)).setCell ⟨gx, 3, none⟩ (.int .i64 c.nxt)).setCell ⟨gx, 4, none⟩ (.int .i64 c.bas)).setCell ⟨gx, 5, none⟩ (.slice pa c.revs.length pc)).setCell ⟨gx, 6, none⟩ (.string xs)) := ⟨_, rfl⟩
  have hset : Out [gx] W18 V7 := by
    rw [hV7]
    iterate 7 refine Out.setCell ?_ _ _ (by simp)
    exact Out.refl _ _
  have hVX : Blk V7 gx 24 #[.string c.issuer, .int .i64 c.num, .int .i64 c.ths, .int .i64 c.nxt, .int .i64 c.bas, .slice pa c.revs.length pc, .string xs] := by
    rw [hV7]
    have h0 := VX.out
    have h1 : Blk _ gx 24 #[.string c.issuer, .int .i64 0, .int .i64 0, .int .i64 0, .int .i64 0, .slice none 0 0, .string ⟨#[]⟩] := h0.set 0 (.string c.issuer)
    have h2 : Blk _ gx 24 #[.string c.issuer, .int .i64 c.num, .int .i64 0, .int .i64 0, .int .i64 0, .slice none 0 0, .string ⟨#[]⟩] := h1.set 1 (.int .i64 c.num)
    have h3 : Blk _ gx 24 #[.string c.issuer, .int .i64 c.num, .int .i64 c.ths, .int .i64 0, .int .i64 0, .slice none 0 0, .string ⟨#[]⟩] := h2.set 2 (.int .i64 c.ths)
    have h4 : Blk _ gx 24 #[.string c.issuer, .int .i64 c.num, .int .i64 c.ths, .int .i64 c.nxt, .int .i64 0, .slice none 0 0, .string ⟨#[]⟩] := h3.set 3 (.int .i64 c.nxt)
    have h5 : Blk _ gx 24 #[.string c.issuer, .int .i64 c.num, .int .i64 c.ths, .int .i64 c.nxt, .int .i64 c.bas, .slice none 0 0, .string ⟨#[]⟩] := h4.set 4 (.int .i64 c.bas)
    have h6 : Blk _ gx 24 #[.string c.issuer, .int .i64 c.num, .int .i64 c.ths, .int .i64 c.nxt, .int .i64 c.bas, .slice pa c.revs.length pc, .string ⟨#[]⟩] := h5.set 5 (.slice pa c.revs.length pc)
    have h7 : Blk _ gx 24 #[.string c.issuer, .int .i64 c.num, .int .i64 c.ths, .int .i64 c.nxt, .int .i64 c.bas, .slice pa c.revs.length pc, .string xs] := h6.set 6 (.string xs)
    exact h7
  have hH : Blk V7 w3.heap.size 85 #[.string c.issuer, .int .i64 c.num, .int .i64 c.ths, .int .i64 c.nxt, .int .i64 c.bas, .slice pa c.revs.length pc] := hHeld.outX hset (by have := O0.out; have := O1.out; have := O2.out; have := O3.out; have := O4.out; have := O5.out; have := O6.out; have := O7.out; have := O8.out; have := O9.out; have := O10.out; have := O11.out; simp <;> omega)
  go_simp
  rw [← hV7]
  refine hK.out _ _ hH (fun hHeld => ?_)
  clear hK K hH zf hV7 z0 z1 z2 z3 z4 z5 z6
  try simp only [Act.put, List.setIfInBounds_toArray, List.set_cons_zero, List.set_cons_succ]
  have HBn : Hid (Below w0.heap.size w0 V7) := below_out HB.out hset (by have := O0.out; have := O1.out; have := O2.out; have := O3.out; have := O4.out; have := O5.out; have := O6.out; have := O7.out; have := O8.out; have := O9.out; have := O10.out; have := O11.out; omega)
  clear HB
  have HB := HBn
  clear HBn
  have HOn : Hid (Out [g] w V7) := HO.out.aside hset (by have := O0.out; have := O1.out; have := O2.out; have := O3.out; have := O4.out; have := O5.out; have := O6.out; have := O7.out; have := O8.out; have := O9.out; have := O10.out; have := O11.out; omega)
  clear HO
  have HO := HOn
  clear HOn
  have VCn : Hid (Blk V7 w.heap.size 24 #[.string ⟨#[]⟩, .int .i64 0, .int .i64 0, .int .i64 0, .int .i64 0, .slice none 0 0, .string ⟨#[]⟩]) := VC.out.outX hset (by have := O0.out; have := O1.out; have := O2.out; have := O3.out; have := O4.out; have := O5.out; have := O6.out; have := O7.out; have := O8.out; have := O9.out; have := O10.out; have := O11.out; simp <;> omega)
  clear VC
  have VC := VCn
  clear VCn
  have HXn : Hid (OwnR V7 w2.heap.size (.slice pa c.revs.length pc) c.revs) := hset.row (fun b hb => by have := LX.out b hb; have := O0.out; have := O1.out; have := O2.out; have := O3.out; have := O4.out; have := O5.out; have := O6.out; have := O7.out; have := O8.out; have := O9.out; have := O10.out; have := O11.out; simp <;> omega) HX.out
  clear HX
  have HX := HXn
  clear HXn
  have RWn : Hid (Blk V7 g 107 #[v5]) := RW.out.outX hset (by have := O0.out; have := O1.out; have := O2.out; have := O3.out; have := O4.out; have := O5.out; have := O6.out; have := O7.out; have := O8.out; have := O9.out; have := O10.out; have := O11.out; simp <;> omega)
  clear RW
  have RW := RWn
  clear RWn
  clear VX
  have O12 : Hid (W18.heap.size ≤ V7.heap.size) := hset.size
  have VX : Hid (Blk V7 gx 24 #[.string c.issuer, .int .i64 c.num, .int .i64 c.ths, .int .i64 c.nxt, .int .i64 c.bas, .slice pa c.revs.length pc, .string xs]) := hVX
  clear hset hVX
  refine wpAnyH_done (by kernel_rfl) ?_ _
  clear hHeld
  go_wp2_with fail
  obtain ⟨ea, ec, he⟩ := KR5.out.shape
  have hRE : Blk V7 g 107 #[.slice ea r5.length ec] := by rw [← he]; exact RW.out
  refine (end_any V7 g r5.length ec ea r5 rfl hRE).mono ?_
  rintro e w9 ⟨hb, ⟨hn, rfl⟩ | ⟨hnil, hn, rfl⟩⟩
  · have HF : Hid (Out [g] w w9 ∧ oB = none) := by
      refine ⟨HO.out.trans (Out.of_below hb), ?_⟩
      rw [← HP.out]
      unfold cbP; simp only [N2.out, N3.out, N5.out, hn, Option.bind_some, Option.bind_none]
    clear hn hb
    unfold misfit
    go_wp2_with fail
    exact ⟨rfl, HF.out.1, .inl ⟨HF.out.2, rfl⟩⟩
  have N7 : Hid (endP r5 = some ()) := hn
  have HBn : Hid (Below w0.heap.size w0 w9) := HB.out.trans (hb.mono HB.out.size)
  clear HB
  have HB := HBn
  clear HBn
  have HOn : Hid (Out [g] w w9) := HO.out.trans (Out.of_below hb)
  clear HO
  have HO := HOn
  clear HOn
  have VCn : Hid (Blk w9 w.heap.size 24 #[.string ⟨#[]⟩, .int .i64 0, .int .i64 0, .int .i64 0, .int .i64 0, .slice none 0 0, .string ⟨#[]⟩]) := VC.out.on hb
  clear VC
  have VC := VCn
  clear VCn
  have HXn : Hid (OwnR w9 w2.heap.size (.slice pa c.revs.length pc) c.revs) := HX.out.stays hb
  clear HX
  have HX := HXn
  clear HXn
  have RWn : Hid (Blk w9 g 107 #[v5]) := RW.out.on hb
  clear RW
  have RW := RWn
  clear RWn
  have VXn : Hid (Blk w9 gx 24 #[.string c.issuer, .int .i64 c.num, .int .i64 c.ths, .int .i64 c.nxt, .int .i64 c.bas, .slice pa c.revs.length pc, .string xs]) := VX.out.on hb
  clear VX
  have VX := VXn
  clear VXn
  have O13 : Hid (V7.heap.size ≤ w9.heap.size) := hb.size
  clear hn hb hnil hRE he
  have HF : Hid (oB = some { c with sig := xs }) := by
    show oB = _
    rw [← HP.out]
    unfold cbP; simp only [N2.out, N3.out, N5.out, N7.out, Option.bind_some, Option.bind_none]
  have a0 : w9.cell? ⟨gx, 0, none⟩ = some (.string c.issuer) := VX.out.cell 0
  have b0 : w9.cell? ⟨w.heap.size, 0, none⟩ = some (.string ⟨#[]⟩) := VC.out.cell 0
  have a1 : w9.cell? ⟨gx, 1, none⟩ = some (.int .i64 c.num) := VX.out.cell 1
  have b1 : w9.cell? ⟨w.heap.size, 1, none⟩ = some (.int .i64 0) := VC.out.cell 1
  have a2 : w9.cell? ⟨gx, 2, none⟩ = some (.int .i64 c.ths) := VX.out.cell 2
  have b2 : w9.cell? ⟨w.heap.size, 2, none⟩ = some (.int .i64 0) := VC.out.cell 2
  have a3 : w9.cell? ⟨gx, 3, none⟩ = some (.int .i64 c.nxt) := VX.out.cell 3
  have b3 : w9.cell? ⟨w.heap.size, 3, none⟩ = some (.int .i64 0) := VC.out.cell 3
  have a4 : w9.cell? ⟨gx, 4, none⟩ = some (.int .i64 c.bas) := VX.out.cell 4
  have b4 : w9.cell? ⟨w.heap.size, 4, none⟩ = some (.int .i64 0) := VC.out.cell 4
  have a5 : w9.cell? ⟨gx, 5, none⟩ = some (.slice pa c.revs.length pc) := VX.out.cell 5
  have b5 : w9.cell? ⟨w.heap.size, 5, none⟩ = some (.slice none 0 0) := VC.out.cell 5
  have a6 : w9.cell? ⟨gx, 6, none⟩ = some (.string xs) := VX.out.cell 6
  have b6 : w9.cell? ⟨w.heap.size, 6, none⟩ = some (.string ⟨#[]⟩) := VC.out.cell 6
  have fb := fun j => VC.out.free j
  have nx : ¬ gx = w.heap.size := by have := O0.out; have := O1.out; have := O2.out; have := O3.out; have := O4.out; have := O5.out; have := O6.out; have := O7.out; have := O8.out; have := O9.out; have := O10.out; have := O11.out; have := O12.out; have := O13.out; omega
  have ny : ¬ w.heap.size = gx := by have := O0.out; have := O1.out; have := O2.out; have := O3.out; have := O4.out; have := O5.out; have := O6.out; have := O7.out; have := O8.out; have := O9.out; have := O10.out; have := O11.out; have := O12.out; have := O13.out; omega
  go_wp2_with fail
  generalize hV8 : World.setCell _ { block := w.heap.size, off := 6 } _ = V8
  have FIN : Out [w.heap.size] w9 V8 ∧ Blk V8 w.heap.size 24 #[.string c.issuer, .int .i64 c.num, .int .i64 c.ths, .int .i64 c.nxt, .int .i64 c.bas, .slice pa c.revs.length pc, .string xs] := by
    rw [← hV8]
    refine ⟨?_, ?_⟩
    · iterate 7 refine Out.setCell ?_ _ _ (by simp)
      exact Out.refl _ _
    · have h0 := VC.out
      have h1 : Blk _ w.heap.size 24 #[.string c.issuer, .int .i64 0, .int .i64 0, .int .i64 0, .int .i64 0, .slice none 0 0, .string ⟨#[]⟩] := h0.set 0 (.string c.issuer)
      have h2 : Blk _ w.heap.size 24 #[.string c.issuer, .int .i64 c.num, .int .i64 0, .int .i64 0, .int .i64 0, .slice none 0 0, .string ⟨#[]⟩] := h1.set 1 (.int .i64 c.num)
      have h3 : Blk _ w.heap.size 24 #[.string c.issuer, .int .i64 c.num, .int .i64 c.ths, .int .i64 0, .int .i64 0, .slice none 0 0, .string ⟨#[]⟩] := h2.set 2 (.int .i64 c.ths)
      have h4 : Blk _ w.heap.size 24 #[.string c.issuer, .int .i64 c.num, .int .i64 c.ths, .int .i64 c.nxt, .int .i64 0, .slice none 0 0, .string ⟨#[]⟩] := h3.set 3 (.int .i64 c.nxt)
      have h5 : Blk _ w.heap.size 24 #[.string c.issuer, .int .i64 c.num, .int .i64 c.ths, .int .i64 c.nxt, .int .i64 c.bas, .slice none 0 0, .string ⟨#[]⟩] := h4.set 4 (.int .i64 c.bas)
      have h6 : Blk _ w.heap.size 24 #[.string c.issuer, .int .i64 c.num, .int .i64 c.ths, .int .i64 c.nxt, .int .i64 c.bas, .slice pa c.revs.length pc, .string ⟨#[]⟩] := h5.set 5 (.slice pa c.revs.length pc)
      have h7 : Blk _ w.heap.size 24 #[.string c.issuer, .int .i64 c.num, .int .i64 c.ths, .int .i64 c.nxt, .int .i64 c.bas, .slice pa c.revs.length pc, .string xs] := h6.set 6 (.string xs)
      exact h7
  clear hV8 fb nx ny a0 b0 a1 b1 a2 b2 a3 b3 a4 b4 a5 b5 a6 b6
  have HE8 : CbPost w0 w g oB (.returned (.agg #[.string c.issuer, .int .i64 c.num, .int .i64 c.ths, .int .i64 c.nxt, .int .i64 c.bas, .slice pa c.revs.length pc, .string xs])) V8 := by
    refine ⟨HO.out.aside FIN.1 (by have := O0.out; have := O1.out; have := O2.out; have := O3.out; have := O4.out; have := O5.out; have := O6.out; have := O7.out; have := O8.out; have := O9.out; have := O10.out; have := O11.out; have := O12.out; have := O13.out; omega), .inr ⟨{ c with sig := xs }, .agg #[.string c.issuer, .int .i64 c.num, .int .i64 c.ths, .int .i64 c.nxt, .int .i64 c.bas, .slice pa c.revs.length pc, .string xs], v5, HF.out, rfl, ?_, RW.out.outX FIN.1 (by have := O0.out; have := O1.out; have := O2.out; have := O3.out; have := O4.out; have := O5.out; have := O6.out; have := O7.out; have := O8.out; have := O9.out; have := O10.out; have := O11.out; have := O12.out; have := O13.out; simp <;> omega)⟩⟩
    exact ⟨_, rfl, OwnR.base (FIN.1.row (fun b hb => by have := LX.out b hb; have := O0.out; have := O1.out; have := O2.out; have := O3.out; have := O4.out; have := O5.out; have := O6.out; have := O7.out; have := O8.out; have := O9.out; have := O10.out; have := O11.out; have := O12.out; have := O13.out; simp <;> omega) HX.out) (by have := O0.out; have := O1.out; have := O2.out; have := O3.out; have := O4.out; have := O5.out; have := O6.out; have := O7.out; have := O8.out; have := O9.out; have := O10.out; have := O11.out; have := O12.out; have := O13.out; omega)⟩
  have q0 : V8.cell? ⟨w.heap.size, 0, none⟩ = some (.string c.issuer) := FIN.2.cell 0
  have q1 : V8.cell? ⟨w.heap.size, 1, none⟩ = some (.int .i64 c.num) := FIN.2.cell 1
  have q2 : V8.cell? ⟨w.heap.size, 2, none⟩ = some (.int .i64 c.ths) := FIN.2.cell 2
  have q3 : V8.cell? ⟨w.heap.size, 3, none⟩ = some (.int .i64 c.nxt) := FIN.2.cell 3
  have q4 : V8.cell? ⟨w.heap.size, 4, none⟩ = some (.int .i64 c.bas) := FIN.2.cell 4
  have q5 : V8.cell? ⟨w.heap.size, 5, none⟩ = some (.slice pa c.revs.length pc) := FIN.2.cell 5
  have q6 : V8.cell? ⟨w.heap.size, 6, none⟩ = some (.string xs) := FIN.2.cell 6
  refine bodyPost_ret (v := .agg #[.string c.issuer, .int .i64 c.num, .int .i64 c.ths, .int .i64 c.nxt, .int .i64 c.bas, .slice pa c.revs.length pc, .string xs]) (by simp [results, Try.results27, go_sem, q0, q1, q2, q3, q4, q5, q6]) rfl HE8
end Go.Proofs.Ytbfbaofjkefmmaa
