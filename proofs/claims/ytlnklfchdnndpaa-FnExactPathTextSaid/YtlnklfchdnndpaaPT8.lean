/-
  Texts of the proof, one behind the other: CrC, CrD, NmP.
-/
import Derived.WalkKit
import Derived.Test.YtlnklfchdnndpaaPT6

/-
  The laws' szCert: what is left of a bound when a letter is weighed.
-/
namespace Go.Proofs.Ytlnklfchdnndpaa
open Go.RowKit
set_option linter.unusedVariables false

set_option maxHeartbeats 6400000 in
set_option maxRecDepth 100000 in
theorem szCert_any (c : Ct) (v : Value) (left : Int) (w : World) (hwd : WdC c) (h0 : 0 ≤ left) (hl : left ≤ 1048576) (ha : ArgC w.heap.size w v c) :
    Calls Try.prog 23 #[v, .int .i64 left] w fun e w' => e = .returned (.int .i64 (szC c left)) ∧ Below w.heap.size w w' := by
  obtain ⟨pa, pc, ea, ec, da, dc, rfl, h1, h2, h3⟩ := ha
  obtain ⟨_, _, hs, hpe, hde, hpl, hel, hdl⟩ := hwd
  have s1 : c.issuer.size ≤ 9223372036854775807 := hs _ (by simp)
  have s2 : c.subject.size ≤ 9223372036854775807 := hs _ (by simp)
  have s3 : c.key.size ≤ 9223372036854775807 := hs _ (by simp)
  have s7 : c.sig.size ≤ 9223372036854775807 := hs _ (by simp)
  have HA : Hid (ArgAt w.heap.size w pa c.pol ∧ ArgT w.heap.size w ea c.per ∧ ArgT w.heap.size w da c.den ∧ WdT c.per ∧ WdT c.den) := ⟨h1, h2, h3, hpe, hde⟩
  clear h1 h2 h3 hs hpe hde
  have HW : Hid ((wtC c : Int) = c.issuer.size + c.subject.size + c.key.size + c.pol.length + totT c.per + totT c.den + c.sig.size) := by show (wtC c : Int) = _; unfold wtC; omega
  unfold ctV
  obtain ⟨r1, hr1⟩ : ∃ r : Int, r = left - (c.issuer.size : Int) := ⟨_, rfl⟩
  have wr1 : IntKind.i64.wrap (left - (c.issuer.size : Int)) = r1 := by rw [IntKind.wrap_i64]; omega
  by_cases g1 : r1 < 0
  · have HF : Hid (szC c left = -1) := by show szC c left = _; have hw := HW.out; unfold szC; rw [if_neg (by omega)]
    clear HW hr1
    go_enter Try.func23, Try.ntmps23
    go_wp2_with fail
    go_ret
    exact ⟨by rw [HF.out]; rfl, (Below.refl _ _).alloc (Nat.le_refl _) _⟩
  obtain ⟨r2, hr2⟩ : ∃ r : Int, r = r1 - (c.subject.size : Int) := ⟨_, rfl⟩
  have wr2 : IntKind.i64.wrap (r1 - (c.subject.size : Int)) = r2 := by rw [IntKind.wrap_i64]; omega
  by_cases g2 : r2 < 0
  · have HF : Hid (szC c left = -1) := by show szC c left = _; have hw := HW.out; unfold szC; rw [if_neg (by omega)]
    clear HW hr1 hr2
    go_enter Try.func23, Try.ntmps23
    go_wp2_with fail
    go_ret
    exact ⟨by rw [HF.out]; rfl, (Below.refl _ _).alloc (Nat.le_refl _) _⟩
  obtain ⟨r3, hr3⟩ : ∃ r : Int, r = r2 - (c.key.size : Int) := ⟨_, rfl⟩
  have wr3 : IntKind.i64.wrap (r2 - (c.key.size : Int)) = r3 := by rw [IntKind.wrap_i64]; omega
  by_cases g3 : r3 < 0
  · have HF : Hid (szC c left = -1) := by show szC c left = _; have hw := HW.out; unfold szC; rw [if_neg (by omega)]
    clear HW hr1 hr2 hr3
    go_enter Try.func23, Try.ntmps23
    go_wp2_with fail
    go_ret
    exact ⟨by rw [HF.out]; rfl, (Below.refl _ _).alloc (Nat.le_refl _) _⟩
  obtain ⟨r4, hr4⟩ : ∃ r : Int, r = if (c.pol.length : Int) ≤ r3 then r3 - (c.pol.length : Int) else -1 := ⟨_, rfl⟩
  have Z4 : Hid (∀ W, Below w.heap.size w W → Calls Try.prog 15 #[.slice pa c.pol.length pc, .int .i64 r3] W fun e w' => e = .returned (.int .i64 r4) ∧ Below W.heap.size W w') := fun W hb => by rw [hr4]; exact szIntS_any pa c.pol.length pc r3 W hpl (by omega) (by omega)
  by_cases g4 : r4 < 0
  · have HF : Hid (szC c left = -1) := by show szC c left = _; have hw := HW.out; unfold szC; rw [if_neg (by split at hr4 <;> omega)]
    clear HW hr1 hr2 hr3 hr4
    go_enter Try.func23, Try.ntmps23
    go_wp2_with fail
    obtain ⟨V, hV⟩ : ∃ V, V = w.alloc (Obj.cells #[.int .i64 c.serial, .string c.issuer, .string c.subject, .int .i64 c.frm, .int .i64 c.upto, .string c.key, .bool c.ca, .int .i64 c.pathLen, .int .i64 c.usage, .slice pa c.pol.length pc, .slice ea c.per.length ec, .slice da c.den.length dc, .string c.sig] 48) := ⟨_, rfl⟩
    rw [← hV]
    have G : Hid (Blk V w.heap.size 48 #[.int .i64 c.serial, .string c.issuer, .string c.subject, .int .i64 c.frm, .int .i64 c.upto, .string c.key, .bool c.ca, .int .i64 c.pathLen, .int .i64 c.usage, .slice pa c.pol.length pc, .slice ea c.per.length ec, .slice da c.den.length dc, .string c.sig] ∧ Below w.heap.size w V) := by rw [hV]; exact ⟨Blk.new w _ _, (Below.refl _ _).alloc (Nat.le_refl _) _⟩
    have hsz : w.heap.size < V.heap.size := G.out.1.lt
    clear hV
    refine (Z4.out V G.out.2).mono ?_
    rintro e V4 ⟨rfl, hb⟩
    have G4 : Hid (Blk V4 w.heap.size 48 #[.int .i64 c.serial, .string c.issuer, .string c.subject, .int .i64 c.frm, .int .i64 c.upto, .string c.key, .bool c.ca, .int .i64 c.pathLen, .int .i64 c.usage, .slice pa c.pol.length pc, .slice ea c.per.length ec, .slice da c.den.length dc, .string c.sig] ∧ Below w.heap.size w V4) := ⟨G.out.1.below hb hsz, G.out.2.trans (hb.mono G.out.2.size)⟩
    have hsz4 : w.heap.size < V4.heap.size := Nat.lt_of_lt_of_le hsz hb.size
    clear hb G hsz
    go_wp2_with fail
    go_ret
    exact ⟨by rw [HF.out]; rfl, G4.out.2⟩
  have hq4 : r4 = r3 - (c.pol.length : Int) := by split at hr4 <;> omega
  clear hr4
  have hr4 := hq4
  clear hq4
  obtain ⟨r5, hr5⟩ : ∃ r : Int, r = szT c.per r4 := ⟨_, rfl⟩
  have Z5 : Hid (∀ W, Below w.heap.size w W → Calls Try.prog 31 #[.slice ea c.per.length ec, .int .i64 r4] W fun e w' => e = .returned (.int .i64 r5) ∧ Below W.heap.size W w') := fun W hb => by rw [hr5]; exact szStringS_any ea c.per c.per.length ec w.heap.size r4 W rfl hel HA.out.2.2.2.1 (by omega) (by omega) hb.size (HA.out.2.1.below hb)
  unfold szT at hr5
  by_cases g5 : r5 < 0
  · have HF : Hid (szC c left = -1) := by show szC c left = _; have hw := HW.out; unfold szC; rw [if_neg (by split at hr5 <;> omega)]
    clear HW hr1 hr2 hr3 hr4 hr5
    go_enter Try.func23, Try.ntmps23
    go_wp2_with fail
    obtain ⟨V, hV⟩ : ∃ V, V = w.alloc (Obj.cells #[.int .i64 c.serial, .string c.issuer, .string c.subject, .int .i64 c.frm, .int .i64 c.upto, .string c.key, .bool c.ca, .int .i64 c.pathLen, .int .i64 c.usage, .slice pa c.pol.length pc, .slice ea c.per.length ec, .slice da c.den.length dc, .string c.sig] 48) := ⟨_, rfl⟩
    rw [← hV]
    have G : Hid (Blk V w.heap.size 48 #[.int .i64 c.serial, .string c.issuer, .string c.subject, .int .i64 c.frm, .int .i64 c.upto, .string c.key, .bool c.ca, .int .i64 c.pathLen, .int .i64 c.usage, .slice pa c.pol.length pc, .slice ea c.per.length ec, .slice da c.den.length dc, .string c.sig] ∧ Below w.heap.size w V) := by rw [hV]; exact ⟨Blk.new w _ _, (Below.refl _ _).alloc (Nat.le_refl _) _⟩
    have hsz : w.heap.size < V.heap.size := G.out.1.lt
    clear hV
    refine (Z4.out V G.out.2).mono ?_
    rintro e V4 ⟨rfl, hb⟩
    have G4 : Hid (Blk V4 w.heap.size 48 #[.int .i64 c.serial, .string c.issuer, .string c.subject, .int .i64 c.frm, .int .i64 c.upto, .string c.key, .bool c.ca, .int .i64 c.pathLen, .int .i64 c.usage, .slice pa c.pol.length pc, .slice ea c.per.length ec, .slice da c.den.length dc, .string c.sig] ∧ Below w.heap.size w V4) := ⟨G.out.1.below hb hsz, G.out.2.trans (hb.mono G.out.2.size)⟩
    have hsz4 : w.heap.size < V4.heap.size := Nat.lt_of_lt_of_le hsz hb.size
    clear hb G hsz
    have ca : V4.cell? ⟨w.heap.size, 10, none⟩ = some (.slice ea c.per.length ec) := G4.out.1.cell 10
    go_wp2_with fail
    clear ca
    refine (Z5.out V4 G4.out.2).mono ?_
    rintro e V5 ⟨rfl, hb⟩
    have G5 : Hid (Blk V5 w.heap.size 48 #[.int .i64 c.serial, .string c.issuer, .string c.subject, .int .i64 c.frm, .int .i64 c.upto, .string c.key, .bool c.ca, .int .i64 c.pathLen, .int .i64 c.usage, .slice pa c.pol.length pc, .slice ea c.per.length ec, .slice da c.den.length dc, .string c.sig] ∧ Below w.heap.size w V5) := ⟨G4.out.1.below hb hsz4, G4.out.2.trans (hb.mono G4.out.2.size)⟩
    have hsz5 : w.heap.size < V5.heap.size := Nat.lt_of_lt_of_le hsz4 hb.size
    clear hb G4 hsz4
    go_wp2_with fail
    go_ret
    exact ⟨by rw [HF.out]; rfl, G5.out.2⟩
  have hq5 : r5 = r4 - (totT c.per : Int) := by split at hr5 <;> omega
  clear hr5
  have hr5 := hq5
  clear hq5
  obtain ⟨r6, hr6⟩ : ∃ r : Int, r = szT c.den r5 := ⟨_, rfl⟩
  have Z6 : Hid (∀ W, Below w.heap.size w W → Calls Try.prog 31 #[.slice da c.den.length dc, .int .i64 r5] W fun e w' => e = .returned (.int .i64 r6) ∧ Below W.heap.size W w') := fun W hb => by rw [hr6]; exact szStringS_any da c.den c.den.length dc w.heap.size r5 W rfl hdl HA.out.2.2.2.2 (by omega) (by omega) hb.size (HA.out.2.2.1.below hb)
  unfold szT at hr6
  by_cases g6 : r6 < 0
  · have HF : Hid (szC c left = -1) := by show szC c left = _; have hw := HW.out; unfold szC; rw [if_neg (by split at hr6 <;> omega)]
    clear HW hr1 hr2 hr3 hr4 hr5 hr6
    go_enter Try.func23, Try.ntmps23
    go_wp2_with fail
    obtain ⟨V, hV⟩ : ∃ V, V = w.alloc (Obj.cells #[.int .i64 c.serial, .string c.issuer, .string c.subject, .int .i64 c.frm, .int .i64 c.upto, .string c.key, .bool c.ca, .int .i64 c.pathLen, .int .i64 c.usage, .slice pa c.pol.length pc, .slice ea c.per.length ec, .slice da c.den.length dc, .string c.sig] 48) := ⟨_, rfl⟩
    rw [← hV]
    have G : Hid (Blk V w.heap.size 48 #[.int .i64 c.serial, .string c.issuer, .string c.subject, .int .i64 c.frm, .int .i64 c.upto, .string c.key, .bool c.ca, .int .i64 c.pathLen, .int .i64 c.usage, .slice pa c.pol.length pc, .slice ea c.per.length ec, .slice da c.den.length dc, .string c.sig] ∧ Below w.heap.size w V) := by rw [hV]; exact ⟨Blk.new w _ _, (Below.refl _ _).alloc (Nat.le_refl _) _⟩
    have hsz : w.heap.size < V.heap.size := G.out.1.lt
    clear hV
    refine (Z4.out V G.out.2).mono ?_
    rintro e V4 ⟨rfl, hb⟩
    have G4 : Hid (Blk V4 w.heap.size 48 #[.int .i64 c.serial, .string c.issuer, .string c.subject, .int .i64 c.frm, .int .i64 c.upto, .string c.key, .bool c.ca, .int .i64 c.pathLen, .int .i64 c.usage, .slice pa c.pol.length pc, .slice ea c.per.length ec, .slice da c.den.length dc, .string c.sig] ∧ Below w.heap.size w V4) := ⟨G.out.1.below hb hsz, G.out.2.trans (hb.mono G.out.2.size)⟩
    have hsz4 : w.heap.size < V4.heap.size := Nat.lt_of_lt_of_le hsz hb.size
    clear hb G hsz
    have ca : V4.cell? ⟨w.heap.size, 10, none⟩ = some (.slice ea c.per.length ec) := G4.out.1.cell 10
    go_wp2_with fail
    clear ca
    refine (Z5.out V4 G4.out.2).mono ?_
    rintro e V5 ⟨rfl, hb⟩
    have G5 : Hid (Blk V5 w.heap.size 48 #[.int .i64 c.serial, .string c.issuer, .string c.subject, .int .i64 c.frm, .int .i64 c.upto, .string c.key, .bool c.ca, .int .i64 c.pathLen, .int .i64 c.usage, .slice pa c.pol.length pc, .slice ea c.per.length ec, .slice da c.den.length dc, .string c.sig] ∧ Below w.heap.size w V5) := ⟨G4.out.1.below hb hsz4, G4.out.2.trans (hb.mono G4.out.2.size)⟩
    have hsz5 : w.heap.size < V5.heap.size := Nat.lt_of_lt_of_le hsz4 hb.size
    clear hb G4 hsz4
    have ca : V5.cell? ⟨w.heap.size, 11, none⟩ = some (.slice da c.den.length dc) := G5.out.1.cell 11
    go_wp2_with fail
    clear ca
    refine (Z6.out V5 G5.out.2).mono ?_
    rintro e V6 ⟨rfl, hb⟩
    have G6 : Hid (Blk V6 w.heap.size 48 #[.int .i64 c.serial, .string c.issuer, .string c.subject, .int .i64 c.frm, .int .i64 c.upto, .string c.key, .bool c.ca, .int .i64 c.pathLen, .int .i64 c.usage, .slice pa c.pol.length pc, .slice ea c.per.length ec, .slice da c.den.length dc, .string c.sig] ∧ Below w.heap.size w V6) := ⟨G5.out.1.below hb hsz5, G5.out.2.trans (hb.mono G5.out.2.size)⟩
    have hsz6 : w.heap.size < V6.heap.size := Nat.lt_of_lt_of_le hsz5 hb.size
    clear hb G5 hsz5
    go_wp2_with fail
    go_ret
    exact ⟨by rw [HF.out]; rfl, G6.out.2⟩
  have hq6 : r6 = r5 - (totT c.den : Int) := by split at hr6 <;> omega
  clear hr6
  have hr6 := hq6
  clear hq6
  obtain ⟨r7, hr7⟩ : ∃ r : Int, r = r6 - (c.sig.size : Int) := ⟨_, rfl⟩
  have wr7 : IntKind.i64.wrap (r6 - (c.sig.size : Int)) = r7 := by rw [IntKind.wrap_i64]; omega
  by_cases g7 : r7 < 0
  · have HF : Hid (szC c left = -1) := by show szC c left = _; have hw := HW.out; unfold szC; rw [if_neg (by omega)]
    clear HW hr1 hr2 hr3 hr4 hr5 hr6 hr7
    go_enter Try.func23, Try.ntmps23
    go_wp2_with fail
    obtain ⟨V, hV⟩ : ∃ V, V = w.alloc (Obj.cells #[.int .i64 c.serial, .string c.issuer, .string c.subject, .int .i64 c.frm, .int .i64 c.upto, .string c.key, .bool c.ca, .int .i64 c.pathLen, .int .i64 c.usage, .slice pa c.pol.length pc, .slice ea c.per.length ec, .slice da c.den.length dc, .string c.sig] 48) := ⟨_, rfl⟩
    rw [← hV]
    have G : Hid (Blk V w.heap.size 48 #[.int .i64 c.serial, .string c.issuer, .string c.subject, .int .i64 c.frm, .int .i64 c.upto, .string c.key, .bool c.ca, .int .i64 c.pathLen, .int .i64 c.usage, .slice pa c.pol.length pc, .slice ea c.per.length ec, .slice da c.den.length dc, .string c.sig] ∧ Below w.heap.size w V) := by rw [hV]; exact ⟨Blk.new w _ _, (Below.refl _ _).alloc (Nat.le_refl _) _⟩
    have hsz : w.heap.size < V.heap.size := G.out.1.lt
    clear hV
    refine (Z4.out V G.out.2).mono ?_
    rintro e V4 ⟨rfl, hb⟩
    have G4 : Hid (Blk V4 w.heap.size 48 #[.int .i64 c.serial, .string c.issuer, .string c.subject, .int .i64 c.frm, .int .i64 c.upto, .string c.key, .bool c.ca, .int .i64 c.pathLen, .int .i64 c.usage, .slice pa c.pol.length pc, .slice ea c.per.length ec, .slice da c.den.length dc, .string c.sig] ∧ Below w.heap.size w V4) := ⟨G.out.1.below hb hsz, G.out.2.trans (hb.mono G.out.2.size)⟩
    have hsz4 : w.heap.size < V4.heap.size := Nat.lt_of_lt_of_le hsz hb.size
    clear hb G hsz
    have ca : V4.cell? ⟨w.heap.size, 10, none⟩ = some (.slice ea c.per.length ec) := G4.out.1.cell 10
    go_wp2_with fail
    clear ca
    refine (Z5.out V4 G4.out.2).mono ?_
    rintro e V5 ⟨rfl, hb⟩
    have G5 : Hid (Blk V5 w.heap.size 48 #[.int .i64 c.serial, .string c.issuer, .string c.subject, .int .i64 c.frm, .int .i64 c.upto, .string c.key, .bool c.ca, .int .i64 c.pathLen, .int .i64 c.usage, .slice pa c.pol.length pc, .slice ea c.per.length ec, .slice da c.den.length dc, .string c.sig] ∧ Below w.heap.size w V5) := ⟨G4.out.1.below hb hsz4, G4.out.2.trans (hb.mono G4.out.2.size)⟩
    have hsz5 : w.heap.size < V5.heap.size := Nat.lt_of_lt_of_le hsz4 hb.size
    clear hb G4 hsz4
    have ca : V5.cell? ⟨w.heap.size, 11, none⟩ = some (.slice da c.den.length dc) := G5.out.1.cell 11
    go_wp2_with fail
    clear ca
    refine (Z6.out V5 G5.out.2).mono ?_
    rintro e V6 ⟨rfl, hb⟩
    have G6 : Hid (Blk V6 w.heap.size 48 #[.int .i64 c.serial, .string c.issuer, .string c.subject, .int .i64 c.frm, .int .i64 c.upto, .string c.key, .bool c.ca, .int .i64 c.pathLen, .int .i64 c.usage, .slice pa c.pol.length pc, .slice ea c.per.length ec, .slice da c.den.length dc, .string c.sig] ∧ Below w.heap.size w V6) := ⟨G5.out.1.below hb hsz5, G5.out.2.trans (hb.mono G5.out.2.size)⟩
    have hsz6 : w.heap.size < V6.heap.size := Nat.lt_of_lt_of_le hsz5 hb.size
    clear hb G5 hsz5
    have ca : V6.cell? ⟨w.heap.size, 12, none⟩ = some (.string c.sig) := G6.out.1.cell 12
    go_wp2_with fail
    skip
    go_ret
    exact ⟨by rw [HF.out]; rfl, G6.out.2⟩
  have HF : Hid (szC c left = r7) := by show szC c left = _; have hw := HW.out; unfold szC; rw [if_pos (by omega)]; omega
  clear HW hr1 hr2 hr3 hr4 hr5 hr6 hr7
  go_enter Try.func23, Try.ntmps23
  go_wp2_with fail
  obtain ⟨V, hV⟩ : ∃ V, V = w.alloc (Obj.cells #[.int .i64 c.serial, .string c.issuer, .string c.subject, .int .i64 c.frm, .int .i64 c.upto, .string c.key, .bool c.ca, .int .i64 c.pathLen, .int .i64 c.usage, .slice pa c.pol.length pc, .slice ea c.per.length ec, .slice da c.den.length dc, .string c.sig] 48) := ⟨_, rfl⟩
  rw [← hV]
  have G : Hid (Blk V w.heap.size 48 #[.int .i64 c.serial, .string c.issuer, .string c.subject, .int .i64 c.frm, .int .i64 c.upto, .string c.key, .bool c.ca, .int .i64 c.pathLen, .int .i64 c.usage, .slice pa c.pol.length pc, .slice ea c.per.length ec, .slice da c.den.length dc, .string c.sig] ∧ Below w.heap.size w V) := by rw [hV]; exact ⟨Blk.new w _ _, (Below.refl _ _).alloc (Nat.le_refl _) _⟩
  have hsz : w.heap.size < V.heap.size := G.out.1.lt
  clear hV
  refine (Z4.out V G.out.2).mono ?_
  rintro e V4 ⟨rfl, hb⟩
  have G4 : Hid (Blk V4 w.heap.size 48 #[.int .i64 c.serial, .string c.issuer, .string c.subject, .int .i64 c.frm, .int .i64 c.upto, .string c.key, .bool c.ca, .int .i64 c.pathLen, .int .i64 c.usage, .slice pa c.pol.length pc, .slice ea c.per.length ec, .slice da c.den.length dc, .string c.sig] ∧ Below w.heap.size w V4) := ⟨G.out.1.below hb hsz, G.out.2.trans (hb.mono G.out.2.size)⟩
  have hsz4 : w.heap.size < V4.heap.size := Nat.lt_of_lt_of_le hsz hb.size
  clear hb G hsz
  have ca : V4.cell? ⟨w.heap.size, 10, none⟩ = some (.slice ea c.per.length ec) := G4.out.1.cell 10
  go_wp2_with fail
  clear ca
  refine (Z5.out V4 G4.out.2).mono ?_
  rintro e V5 ⟨rfl, hb⟩
  have G5 : Hid (Blk V5 w.heap.size 48 #[.int .i64 c.serial, .string c.issuer, .string c.subject, .int .i64 c.frm, .int .i64 c.upto, .string c.key, .bool c.ca, .int .i64 c.pathLen, .int .i64 c.usage, .slice pa c.pol.length pc, .slice ea c.per.length ec, .slice da c.den.length dc, .string c.sig] ∧ Below w.heap.size w V5) := ⟨G4.out.1.below hb hsz4, G4.out.2.trans (hb.mono G4.out.2.size)⟩
  have hsz5 : w.heap.size < V5.heap.size := Nat.lt_of_lt_of_le hsz4 hb.size
  clear hb G4 hsz4
  have ca : V5.cell? ⟨w.heap.size, 11, none⟩ = some (.slice da c.den.length dc) := G5.out.1.cell 11
  go_wp2_with fail
  clear ca
  refine (Z6.out V5 G5.out.2).mono ?_
  rintro e V6 ⟨rfl, hb⟩
  have G6 : Hid (Blk V6 w.heap.size 48 #[.int .i64 c.serial, .string c.issuer, .string c.subject, .int .i64 c.frm, .int .i64 c.upto, .string c.key, .bool c.ca, .int .i64 c.pathLen, .int .i64 c.usage, .slice pa c.pol.length pc, .slice ea c.per.length ec, .slice da c.den.length dc, .string c.sig] ∧ Below w.heap.size w V6) := ⟨G5.out.1.below hb hsz5, G5.out.2.trans (hb.mono G5.out.2.size)⟩
  have hsz6 : w.heap.size < V6.heap.size := Nat.lt_of_lt_of_le hsz5 hb.size
  clear hb G5 hsz5
  have ca : V6.cell? ⟨w.heap.size, 12, none⟩ = some (.string c.sig) := G6.out.1.cell 12
  go_wp2_with fail
  skip
  go_ret
  exact ⟨by rw [HF.out]; rfl, G6.out.2⟩
end Go.Proofs.Ytlnklfchdnndpaa

/-
  The laws' eqCert, of letters that are the same.
-/
namespace Go.Proofs.Ytlnklfchdnndpaa
open Go.RowKit
set_option linter.unusedVariables false

set_option maxHeartbeats 6400000 in
set_option maxRecDepth 100000 in
theorem eqCert_same (c : Ct) (a b : Value) (w : World) (hl : c.pol.length ≤ 1000000000 ∧ c.per.length ≤ 1000000000 ∧ c.den.length ≤ 1000000000) (ha : CtAt w a c) (hb : CtAt w b c) :
    Calls Try.prog 29 #[a, b] w fun e w' => e = .returned (.bool true) ∧ Below w.heap.size w w' := by
  obtain ⟨pv, ev, dv, rfl, h1, h2, h3⟩ := ha
  obtain ⟨pu, eu, du, rfl, k1, k2, k3⟩ := hb
  have HQ : Hid (∀ W, Below w.heap.size w W → Calls Try.prog 22 #[pv, pu] W (fun e w' => e = .returned (.bool true) ∧ Below W.heap.size W w') ∧ Calls Try.prog 42 #[ev, eu] W (fun e w' => e = .returned (.bool true) ∧ Below W.heap.size W w') ∧ Calls Try.prog 42 #[dv, du] W (fun e w' => e = .returned (.bool true) ∧ Below W.heap.size W w')) :=
    fun W hb => ⟨eqIntS_same pv pu c.pol W hl.1 (h1.below hb) (k1.below hb), eqT_same ev eu c.per W hl.2.1 (h2.below hb) (k2.below hb), eqT_same dv du c.den W hl.2.2 (h3.below hb) (k3.below hb)⟩
  obtain ⟨lp, hlp⟩ : ∃ l, c.pol.length = l := ⟨_, rfl⟩
  obtain ⟨le, hle⟩ : ∃ l, c.per.length = l := ⟨_, rfl⟩
  obtain ⟨ld, hld⟩ : ∃ l, c.den.length = l := ⟨_, rfl⟩
  obtain ⟨pa, pc, hpa, _⟩ := h1
  obtain ⟨ea, ec, hea, _⟩ := h2
  obtain ⟨da, dc, hda, _⟩ := h3
  obtain ⟨pb, qc, hpb, _⟩ := k1
  obtain ⟨eb, fc, heb, _⟩ := k2
  obtain ⟨db, gc, hdb, _⟩ := k3
  rw [hlp] at hpa hpb
  rw [hle] at hea heb
  rw [hld] at hda hdb
  subst hpa hea hda hpb heb hdb
  clear hlp hle hld hl
  unfold ctV
  go_enter Try.func29, Try.ntmps29
  go_wp2_with fail
  obtain ⟨V, hV⟩ : ∃ V, V = (w.alloc (Obj.cells #[.int .i64 c.serial, .string c.issuer, .string c.subject, .int .i64 c.frm, .int .i64 c.upto, .string c.key, .bool c.ca, .int .i64 c.pathLen, .int .i64 c.usage, .slice pa lp pc, .slice ea le ec, .slice da ld dc, .string c.sig] 51)).alloc (Obj.cells #[.int .i64 c.serial, .string c.issuer, .string c.subject, .int .i64 c.frm, .int .i64 c.upto, .string c.key, .bool c.ca, .int .i64 c.pathLen, .int .i64 c.usage, .slice pb lp qc, .slice eb le fc, .slice db ld gc, .string c.sig] 51) := ⟨_, rfl⟩
  rw [← hV]
  have G : Hid (Blk V w.heap.size 51 #[.int .i64 c.serial, .string c.issuer, .string c.subject, .int .i64 c.frm, .int .i64 c.upto, .string c.key, .bool c.ca, .int .i64 c.pathLen, .int .i64 c.usage, .slice pa lp pc, .slice ea le ec, .slice da ld dc, .string c.sig] ∧ Blk V (w.heap.size + 1) 51 #[.int .i64 c.serial, .string c.issuer, .string c.subject, .int .i64 c.frm, .int .i64 c.upto, .string c.key, .bool c.ca, .int .i64 c.pathLen, .int .i64 c.usage, .slice pb lp qc, .slice eb le fc, .slice db ld gc, .string c.sig] ∧ Below w.heap.size w V ∧ w.heap.size + 1 < V.heap.size) := by
    have e0 : (w.alloc (Obj.cells #[.int .i64 c.serial, .string c.issuer, .string c.subject, .int .i64 c.frm, .int .i64 c.upto, .string c.key, .bool c.ca, .int .i64 c.pathLen, .int .i64 c.usage, .slice pa lp pc, .slice ea le ec, .slice da ld dc, .string c.sig] 51)).heap.size = w.heap.size + 1 := Array.size_push _
    have h := Blk.new (w.alloc (Obj.cells #[.int .i64 c.serial, .string c.issuer, .string c.subject, .int .i64 c.frm, .int .i64 c.upto, .string c.key, .bool c.ca, .int .i64 c.pathLen, .int .i64 c.usage, .slice pa lp pc, .slice ea le ec, .slice da ld dc, .string c.sig] 51)) 51 #[.int .i64 c.serial, .string c.issuer, .string c.subject, .int .i64 c.frm, .int .i64 c.upto, .string c.key, .bool c.ca, .int .i64 c.pathLen, .int .i64 c.usage, .slice pb lp qc, .slice eb le fc, .slice db ld gc, .string c.sig]
    rw [e0] at h
    rw [hV]
    exact ⟨(Blk.new w _ _).alloc _, h, ((Below.refl _ _).alloc (Nat.le_refl _) _).alloc (by rw [e0]; omega) _, by rw [size_alloc, e0]; omega⟩
  clear hV
  refine ((HQ.out V G.out.2.2.1).1).mono ?_
  rintro e V0 ⟨rfl, hb⟩
  have G0 : Hid (Blk V0 w.heap.size 51 #[.int .i64 c.serial, .string c.issuer, .string c.subject, .int .i64 c.frm, .int .i64 c.upto, .string c.key, .bool c.ca, .int .i64 c.pathLen, .int .i64 c.usage, .slice pa lp pc, .slice ea le ec, .slice da ld dc, .string c.sig] ∧ Blk V0 (w.heap.size + 1) 51 #[.int .i64 c.serial, .string c.issuer, .string c.subject, .int .i64 c.frm, .int .i64 c.upto, .string c.key, .bool c.ca, .int .i64 c.pathLen, .int .i64 c.usage, .slice pb lp qc, .slice eb le fc, .slice db ld gc, .string c.sig] ∧ Below w.heap.size w V0 ∧ w.heap.size + 1 < V0.heap.size) := ⟨G.out.1.below hb (by have := G.out.2.2.2; omega), G.out.2.1.below hb G.out.2.2.2, G.out.2.2.1.trans (hb.mono G.out.2.2.1.size), Nat.lt_of_lt_of_le G.out.2.2.2 hb.size⟩
  clear hb G
  have ca : V0.cell? ⟨w.heap.size, 10, none⟩ = some (.slice ea le ec) := G0.out.1.cell 10
  have cb : V0.cell? ⟨w.heap.size + 1, 10, none⟩ = some (.slice eb le fc) := G0.out.2.1.cell 10
  go_wp2_with fail
  clear ca cb
  refine ((HQ.out V0 G0.out.2.2.1).2.1).mono ?_
  rintro e V1 ⟨rfl, hb⟩
  have G1 : Hid (Blk V1 w.heap.size 51 #[.int .i64 c.serial, .string c.issuer, .string c.subject, .int .i64 c.frm, .int .i64 c.upto, .string c.key, .bool c.ca, .int .i64 c.pathLen, .int .i64 c.usage, .slice pa lp pc, .slice ea le ec, .slice da ld dc, .string c.sig] ∧ Blk V1 (w.heap.size + 1) 51 #[.int .i64 c.serial, .string c.issuer, .string c.subject, .int .i64 c.frm, .int .i64 c.upto, .string c.key, .bool c.ca, .int .i64 c.pathLen, .int .i64 c.usage, .slice pb lp qc, .slice eb le fc, .slice db ld gc, .string c.sig] ∧ Below w.heap.size w V1 ∧ w.heap.size + 1 < V1.heap.size) := ⟨G0.out.1.below hb (by have := G0.out.2.2.2; omega), G0.out.2.1.below hb G0.out.2.2.2, G0.out.2.2.1.trans (hb.mono G0.out.2.2.1.size), Nat.lt_of_lt_of_le G0.out.2.2.2 hb.size⟩
  clear hb G0
  have ca : V1.cell? ⟨w.heap.size, 11, none⟩ = some (.slice da ld dc) := G1.out.1.cell 11
  have cb : V1.cell? ⟨w.heap.size + 1, 11, none⟩ = some (.slice db ld gc) := G1.out.2.1.cell 11
  go_wp2_with fail
  clear ca cb
  refine ((HQ.out V1 G1.out.2.2.1).2.2).mono ?_
  rintro e V2 ⟨rfl, hb⟩
  have G2 : Hid (Blk V2 w.heap.size 51 #[.int .i64 c.serial, .string c.issuer, .string c.subject, .int .i64 c.frm, .int .i64 c.upto, .string c.key, .bool c.ca, .int .i64 c.pathLen, .int .i64 c.usage, .slice pa lp pc, .slice ea le ec, .slice da ld dc, .string c.sig] ∧ Blk V2 (w.heap.size + 1) 51 #[.int .i64 c.serial, .string c.issuer, .string c.subject, .int .i64 c.frm, .int .i64 c.upto, .string c.key, .bool c.ca, .int .i64 c.pathLen, .int .i64 c.usage, .slice pb lp qc, .slice eb le fc, .slice db ld gc, .string c.sig] ∧ Below w.heap.size w V2 ∧ w.heap.size + 1 < V2.heap.size) := ⟨G1.out.1.below hb (by have := G1.out.2.2.2; omega), G1.out.2.1.below hb G1.out.2.2.2, G1.out.2.2.1.trans (hb.mono G1.out.2.2.1.size), Nat.lt_of_lt_of_le G1.out.2.2.2 hb.size⟩
  clear hb G1
  have ca : V2.cell? ⟨w.heap.size, 12, none⟩ = some (.string c.sig) := G2.out.1.cell 12
  have cb : V2.cell? ⟨w.heap.size + 1, 12, none⟩ = some (.string c.sig) := G2.out.2.1.cell 12
  go_wp2_with fail
  go_ret
  exact ⟨rfl, G2.out.2.2.1⟩
end Go.Proofs.Ytlnklfchdnndpaa

/-
  Plain facts alone: names, who is under whom, lists of names and of rules.
-/
namespace Go.Proofs.Ytlnklfchdnndpaa

/-- A name read on: whether a part has begun. -/
def nmL : List UInt8 → Bool → Bool
  | [], p => p
  | b :: r, p => if 97 ≤ b.toNat ∧ b.toNat ≤ 122 then nmL r true else if b.toNat = 46 ∧ p = true then nmL r false else false
def nameOk (s : ByteArray) : Bool := decide (s.size ≤ 20) && nmL s.data.toList false
theorem nm_letter {b : UInt8} (r : List UInt8) (p : Bool) (h1 : 97 ≤ b.toNat) (h2 : b.toNat ≤ 122) : nmL (b :: r) p = nmL r true := by
  show (if _ then _ else _) = _
  rw [if_pos ⟨h1, h2⟩]
theorem nm_dot {b : UInt8} (r : List UInt8) (h : b.toNat = 46) : nmL (b :: r) true = nmL r false := by
  show (if _ then _ else _) = _
  rw [if_neg (by omega), if_pos ⟨h, rfl⟩]
theorem nm_dots {b : UInt8} (r : List UInt8) (h : b.toNat = 46) : nmL (b :: r) false = false := by
  show (if _ then _ else _) = _
  rw [if_neg (by omega), if_neg (by simp)]
theorem nm_other {b : UInt8} (r : List UInt8) (p : Bool) (h : ¬ (97 ≤ b.toNat ∧ b.toNat ≤ 122)) (h2 : b.toNat ≠ 46) : nmL (b :: r) p = false := by
  show (if _ then _ else _) = _
  rw [if_neg h, if_neg (fun q => h2 q.1)]
theorem drop_at (s : ByteArray) (k : Nat) (h : k < s.size) : s.data.toList.drop k = s[k] :: s.data.toList.drop (k + 1) := by
  rw [List.drop_eq_getElem_cons (by simpa using h)]
  rfl
theorem drop_end (s : ByteArray) (k : Nat) (h : ¬ k < s.size) : s.data.toList.drop k = [] := List.drop_eq_nil_of_le (by have e : s.data.toList.length = s.size := rfl; omega)

/-- Each is less than the next. -/
def ascG {α : Type} (lt : α → α → Bool) (d : α) (l : List α) : Bool := (List.range (l.length - 1)).all fun i => lt (l.getD i d) (l.getD (i + 1) d)
theorem asc_yes {α : Type} {lt : α → α → Bool} {d : α} {l : List α} (h : ∀ i, 0 < i → i < l.length → lt (l.getD (i - 1) d) (l.getD i d) = true) : ascG lt d l = true := by
  unfold ascG
  rw [List.all_eq_true]
  intro i hi
  rw [List.mem_range] at hi
  exact h (i + 1) (by omega) (by omega)
theorem asc_no {α : Type} {lt : α → α → Bool} {d : α} {l : List α} (i : Nat) (h0 : 0 < i) (hi : i < l.length) (h : lt (l.getD (i - 1) d) (l.getD i d) = false) : ascG lt d l = false := by
  unfold ascG
  rw [List.all_eq_false]
  refine ⟨i - 1, by rw [List.mem_range]; omega, ?_⟩
  rw [show i - 1 + 1 = i by omega, h]
  simp
theorem all_yes {α : Type} {f : α → Bool} {d : α} {l : List α} (h : ∀ i, i < l.length → f (l.getD i d) = true) : l.all f = true := by
  rw [List.all_eq_true]
  intro x hx
  obtain ⟨i, hi, rfl⟩ := List.getElem_of_mem hx
  have := h i hi
  rwa [List.getD_eq_getElem?_getD, List.getElem?_eq_getElem hi] at this
theorem all_no {α : Type} {f : α → Bool} {d : α} {l : List α} (i : Nat) (hi : i < l.length) (h : f (l.getD i d) = false) : l.all f = false := by
  rw [List.all_eq_false]
  refine ⟨l[i], List.getElem_mem hi, ?_⟩
  rw [List.getD_eq_getElem?_getD, List.getElem?_eq_getElem hi] at h
  simpa using h
/-- One text is less than another. -/
def lsB (a b : ByteArray) : Bool := Op.bytesLess a.toList b.toList
def lsI (a b : Int) : Bool := decide (a < b)
/-- A right list, of whatever. -/
def listOk {α : Type} (f : α → Bool) (lt : α → α → Bool) (d : α) (l : List α) : Bool := decide (l.length ≤ 4) && l.all f && ascG lt d l
theorem ok_bad {α : Type} {f : α → Bool} {lt : α → α → Bool} {d : α} {l : List α} (i : Nat) (hi : i < l.length) (h : f (l.getD i d) = false) : listOk f lt d l = false := by
  unfold listOk; rw [all_no i hi h]; simp
theorem ok_down {α : Type} {f : α → Bool} {lt : α → α → Bool} {d : α} {l : List α} (i : Nat) (h0 : 0 < i) (hi : i < l.length) (h : lt (l.getD (i - 1) d) (l.getD i d) = false) : listOk f lt d l = false := by
  unfold listOk; rw [asc_no i h0 hi h]; simp
theorem ok_end {α : Type} {f : α → Bool} {lt : α → α → Bool} {d : α} {l : List α} (h1 : ∀ i, i < l.length → f (l.getD i d) = true) (h2 : ∀ i, 0 < i → i < l.length → lt (l.getD (i - 1) d) (l.getD i d) = true) : listOk f lt d l = decide (l.length ≤ 4) := by
  unfold listOk; rw [all_yes h1, asc_yes h2]; simp
theorem ok_long {α : Type} {f : α → Bool} {lt : α → α → Bool} {d : α} {l : List α} (h : 4 < l.length) : listOk f lt d l = false := by
  unfold listOk; rw [decide_eq_false (by omega)]; simp
theorem ok_asc {α : Type} {f : α → Bool} {lt : α → α → Bool} {d : α} {l : List α} (h1 : ∀ i, i < l.length → f (l.getD i d) = true) (h : l.length ≤ 4) : listOk f lt d l = ascG lt d l := by
  unfold listOk; rw [all_yes h1, decide_eq_true h]; simp
def namesOk (l : List ByteArray) : Bool := listOk nameOk lsB ByteArray.empty l
def polIn (x : Int) : Bool := decide (0 ≤ x ∧ x ≤ 99)
def polOk (l : List Int) : Bool := listOk polIn lsI 0 l
end Go.Proofs.Ytlnklfchdnndpaa
