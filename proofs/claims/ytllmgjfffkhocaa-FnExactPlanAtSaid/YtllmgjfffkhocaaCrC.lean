/-
  The laws' szCert: what is left of a bound when a letter is weighed.
-/
import Derived.Test.YtllmgjfffkhocaaCrB
namespace Go.Proofs.Ytllmgjfffkhocaa
open Go.RowKit
set_option linter.unusedVariables false

set_option maxHeartbeats 6400000 in
set_option maxRecDepth 100000 in
theorem szCert_any (c : Ct) (v : Value) (left : Int) (w : World) (hwd : WdC c) (h0 : 0 ≤ left) (hl : left ≤ 1048576) (ha : ArgC w.heap.size w v c) :
    Calls Try.prog 69 #[v, .int .i64 left] w fun e w' => e = .returned (.int .i64 (szC c left)) ∧ Below w.heap.size w w' := by
  obtain ⟨pa, pc, ea, ec, da, dc, rfl, h1, h2, h3⟩ := ha
  obtain ⟨_, _, hs, hpe, hde, hpl, hel, hdl⟩ := hwd
  have s1 : c.issuer.size ≤ 9223372036854775807 := hs _ (by simp)
  have s2 : c.subject.size ≤ 9223372036854775807 := hs _ (by simp)
  have s3 : c.key.size ≤ 9223372036854775807 := hs _ (by simp)
  have s7 : c.sig.size ≤ 9223372036854775807 := hs _ (by simp)
  have HA : Hid (ArgAt w.heap.size w pa c.pol ∧ ArgT w.heap.size w ea c.per ∧ ArgT w.heap.size w da c.den ∧ WdT c.per ∧ WdT c.den) := ⟨h1, h2, h3, hpe, hde⟩
  clear h1 h2 h3 hs hpe hde
  have HW : Hid ((wtC c : Int) = c.issuer.size + c.subject.size + c.key.size + c.pol.length + totT c.per + totT c.den + c.sig.size) := by show (wtC c : Int) = _; unfold wtC; omega
  unfold ctV
  obtain ⟨r1, hr1⟩ : ∃ r : Int, r = left - (c.issuer.size : Int) := ⟨_, rfl⟩
  have wr1 : IntKind.i64.wrap (left - (c.issuer.size : Int)) = r1 := by rw [IntKind.wrap_i64]; omega
  by_cases g1 : r1 < 0
  · have HF : Hid (szC c left = -1) := by show szC c left = _; have hw := HW.out; unfold szC; rw [if_neg (by omega)]
    clear HW hr1
    go_enter Try.func69, Try.ntmps69
    go_wp2_with fail
    go_ret
    exact ⟨by rw [HF.out]; rfl, (Below.refl _ _).alloc (Nat.le_refl _) _⟩
  obtain ⟨r2, hr2⟩ : ∃ r : Int, r = r1 - (c.subject.size : Int) := ⟨_, rfl⟩
  have wr2 : IntKind.i64.wrap (r1 - (c.subject.size : Int)) = r2 := by rw [IntKind.wrap_i64]; omega
  by_cases g2 : r2 < 0
  · have HF : Hid (szC c left = -1) := by show szC c left = _; have hw := HW.out; unfold szC; rw [if_neg (by omega)]
    clear HW hr1 hr2
    go_enter Try.func69, Try.ntmps69
    go_wp2_with fail
    go_ret
    exact ⟨by rw [HF.out]; rfl, (Below.refl _ _).alloc (Nat.le_refl _) _⟩
  obtain ⟨r3, hr3⟩ : ∃ r : Int, r = r2 - (c.key.size : Int) := ⟨_, rfl⟩
  have wr3 : IntKind.i64.wrap (r2 - (c.key.size : Int)) = r3 := by rw [IntKind.wrap_i64]; omega
  by_cases g3 : r3 < 0
  · have HF : Hid (szC c left = -1) := by show szC c left = _; have hw := HW.out; unfold szC; rw [if_neg (by omega)]
    clear HW hr1 hr2 hr3
    go_enter Try.func69, Try.ntmps69
    go_wp2_with fail
    go_ret
    exact ⟨by rw [HF.out]; rfl, (Below.refl _ _).alloc (Nat.le_refl _) _⟩
  obtain ⟨r4, hr4⟩ : ∃ r : Int, r = if (c.pol.length : Int) ≤ r3 then r3 - (c.pol.length : Int) else -1 := ⟨_, rfl⟩
  have Z4 : Hid (∀ W, Below w.heap.size w W → Calls Try.prog 49 #[.slice pa c.pol.length pc, .int .i64 r3] W fun e w' => e = .returned (.int .i64 r4) ∧ Below W.heap.size W w') := fun W hb => by rw [hr4]; exact szIntS_any pa c.pol.length pc r3 W hpl (by omega) (by omega)
  by_cases g4 : r4 < 0
  · have HF : Hid (szC c left = -1) := by show szC c left = _; have hw := HW.out; unfold szC; rw [if_neg (by split at hr4 <;> omega)]
    clear HW hr1 hr2 hr3 hr4
    go_enter Try.func69, Try.ntmps69
    go_wp2_with fail
    obtain ⟨V, hV⟩ : ∃ V, V = w.alloc (Obj.cells #[.int .i64 c.serial, .string c.issuer, .string c.subject, .int .i64 c.frm, .int .i64 c.upto, .string c.key, .bool c.ca, .int .i64 c.pathLen, .int .i64 c.usage, .slice pa c.pol.length pc, .slice ea c.per.length ec, .slice da c.den.length dc, .string c.sig] 104) := ⟨_, rfl⟩
    rw [← hV]
    have G : Hid (Blk V w.heap.size 104 #[.int .i64 c.serial, .string c.issuer, .string c.subject, .int .i64 c.frm, .int .i64 c.upto, .string c.key, .bool c.ca, .int .i64 c.pathLen, .int .i64 c.usage, .slice pa c.pol.length pc, .slice ea c.per.length ec, .slice da c.den.length dc, .string c.sig] ∧ Below w.heap.size w V) := by rw [hV]; exact ⟨Blk.new w _ _, (Below.refl _ _).alloc (Nat.le_refl _) _⟩
    have hsz : w.heap.size < V.heap.size := G.out.1.lt
    clear hV
    refine (Z4.out V G.out.2).mono ?_
    rintro e V4 ⟨rfl, hb⟩
    have G4 : Hid (Blk V4 w.heap.size 104 #[.int .i64 c.serial, .string c.issuer, .string c.subject, .int .i64 c.frm, .int .i64 c.upto, .string c.key, .bool c.ca, .int .i64 c.pathLen, .int .i64 c.usage, .slice pa c.pol.length pc, .slice ea c.per.length ec, .slice da c.den.length dc, .string c.sig] ∧ Below w.heap.size w V4) := ⟨G.out.1.below hb hsz, G.out.2.trans (hb.mono G.out.2.size)⟩
    have hsz4 : w.heap.size < V4.heap.size := Nat.lt_of_lt_of_le hsz hb.size
    clear hb G hsz
    go_wp2_with fail
    go_ret
    exact ⟨by rw [HF.out]; rfl, G4.out.2⟩
  have hq4 : r4 = r3 - (c.pol.length : Int) := by split at hr4 <;> omega
  clear hr4
  have hr4 := hq4
  clear hq4
  obtain ⟨r5, hr5⟩ : ∃ r : Int, r = szT c.per r4 := ⟨_, rfl⟩
  have Z5 : Hid (∀ W, Below w.heap.size w W → Calls Try.prog 51 #[.slice ea c.per.length ec, .int .i64 r4] W fun e w' => e = .returned (.int .i64 r5) ∧ Below W.heap.size W w') := fun W hb => by rw [hr5]; exact szStringS_any ea c.per c.per.length ec w.heap.size r4 W rfl hel HA.out.2.2.2.1 (by omega) (by omega) hb.size (HA.out.2.1.below hb)
  unfold szT at hr5
  by_cases g5 : r5 < 0
  · have HF : Hid (szC c left = -1) := by show szC c left = _; have hw := HW.out; unfold szC; rw [if_neg (by split at hr5 <;> omega)]
    clear HW hr1 hr2 hr3 hr4 hr5
    go_enter Try.func69, Try.ntmps69
    go_wp2_with fail
    obtain ⟨V, hV⟩ : ∃ V, V = w.alloc (Obj.cells #[.int .i64 c.serial, .string c.issuer, .string c.subject, .int .i64 c.frm, .int .i64 c.upto, .string c.key, .bool c.ca, .int .i64 c.pathLen, .int .i64 c.usage, .slice pa c.pol.length pc, .slice ea c.per.length ec, .slice da c.den.length dc, .string c.sig] 104) := ⟨_, rfl⟩
    rw [← hV]
    have G : Hid (Blk V w.heap.size 104 #[.int .i64 c.serial, .string c.issuer, .string c.subject, .int .i64 c.frm, .int .i64 c.upto, .string c.key, .bool c.ca, .int .i64 c.pathLen, .int .i64 c.usage, .slice pa c.pol.length pc, .slice ea c.per.length ec, .slice da c.den.length dc, .string c.sig] ∧ Below w.heap.size w V) := by rw [hV]; exact ⟨Blk.new w _ _, (Below.refl _ _).alloc (Nat.le_refl _) _⟩
    have hsz : w.heap.size < V.heap.size := G.out.1.lt
    clear hV
    refine (Z4.out V G.out.2).mono ?_
    rintro e V4 ⟨rfl, hb⟩
    have G4 : Hid (Blk V4 w.heap.size 104 #[.int .i64 c.serial, .string c.issuer, .string c.subject, .int .i64 c.frm, .int .i64 c.upto, .string c.key, .bool c.ca, .int .i64 c.pathLen, .int .i64 c.usage, .slice pa c.pol.length pc, .slice ea c.per.length ec, .slice da c.den.length dc, .string c.sig] ∧ Below w.heap.size w V4) := ⟨G.out.1.below hb hsz, G.out.2.trans (hb.mono G.out.2.size)⟩
    have hsz4 : w.heap.size < V4.heap.size := Nat.lt_of_lt_of_le hsz hb.size
    clear hb G hsz
    have ca : V4.cell? ⟨w.heap.size, 10, none⟩ = some (.slice ea c.per.length ec) := G4.out.1.cell 10
    go_wp2_with fail
    clear ca
    refine (Z5.out V4 G4.out.2).mono ?_
    rintro e V5 ⟨rfl, hb⟩
    have G5 : Hid (Blk V5 w.heap.size 104 #[.int .i64 c.serial, .string c.issuer, .string c.subject, .int .i64 c.frm, .int .i64 c.upto, .string c.key, .bool c.ca, .int .i64 c.pathLen, .int .i64 c.usage, .slice pa c.pol.length pc, .slice ea c.per.length ec, .slice da c.den.length dc, .string c.sig] ∧ Below w.heap.size w V5) := ⟨G4.out.1.below hb hsz4, G4.out.2.trans (hb.mono G4.out.2.size)⟩
    have hsz5 : w.heap.size < V5.heap.size := Nat.lt_of_lt_of_le hsz4 hb.size
    clear hb G4 hsz4
    go_wp2_with fail
    go_ret
    exact ⟨by rw [HF.out]; rfl, G5.out.2⟩
  have hq5 : r5 = r4 - (totT c.per : Int) := by split at hr5 <;> omega
  clear hr5
  have hr5 := hq5
  clear hq5
  obtain ⟨r6, hr6⟩ : ∃ r : Int, r = szT c.den r5 := ⟨_, rfl⟩
  have Z6 : Hid (∀ W, Below w.heap.size w W → Calls Try.prog 51 #[.slice da c.den.length dc, .int .i64 r5] W fun e w' => e = .returned (.int .i64 r6) ∧ Below W.heap.size W w') := fun W hb => by rw [hr6]; exact szStringS_any da c.den c.den.length dc w.heap.size r5 W rfl hdl HA.out.2.2.2.2 (by omega) (by omega) hb.size (HA.out.2.2.1.below hb)
  unfold szT at hr6
  by_cases g6 : r6 < 0
  · have HF : Hid (szC c left = -1) := by show szC c left = _; have hw := HW.out; unfold szC; rw [if_neg (by split at hr6 <;> omega)]
    clear HW hr1 hr2 hr3 hr4 hr5 hr6
    go_enter Try.func69, Try.ntmps69
    go_wp2_with fail
    obtain ⟨V, hV⟩ : ∃ V, V = w.alloc (Obj.cells #[.int .i64 c.serial, .string c.issuer, .string c.subject, .int .i64 c.frm, .int .i64 c.upto, .string c.key, .bool c.ca, .int .i64 c.pathLen, .int .i64 c.usage, .slice pa c.pol.length pc, .slice ea c.per.length ec, .slice da c.den.length dc, .string c.sig] 104) := ⟨_, rfl⟩
    rw [← hV]
    have G : Hid (Blk V w.heap.size 104 #[.int .i64 c.serial, .string c.issuer, .string c.subject, .int .i64 c.frm, .int .i64 c.upto, .string c.key, .bool c.ca, .int .i64 c.pathLen, .int .i64 c.usage, .slice pa c.pol.length pc, .slice ea c.per.length ec, .slice da c.den.length dc, .string c.sig] ∧ Below w.heap.size w V) := by rw [hV]; exact ⟨Blk.new w _ _, (Below.refl _ _).alloc (Nat.le_refl _) _⟩
    have hsz : w.heap.size < V.heap.size := G.out.1.lt
    clear hV
    refine (Z4.out V G.out.2).mono ?_
    rintro e V4 ⟨rfl, hb⟩
    have G4 : Hid (Blk V4 w.heap.size 104 #[.int .i64 c.serial, .string c.issuer, .string c.subject, .int .i64 c.frm, .int .i64 c.upto, .string c.key, .bool c.ca, .int .i64 c.pathLen, .int .i64 c.usage, .slice pa c.pol.length pc, .slice ea c.per.length ec, .slice da c.den.length dc, .string c.sig] ∧ Below w.heap.size w V4) := ⟨G.out.1.below hb hsz, G.out.2.trans (hb.mono G.out.2.size)⟩
    have hsz4 : w.heap.size < V4.heap.size := Nat.lt_of_lt_of_le hsz hb.size
    clear hb G hsz
    have ca : V4.cell? ⟨w.heap.size, 10, none⟩ = some (.slice ea c.per.length ec) := G4.out.1.cell 10
    go_wp2_with fail
    clear ca
    refine (Z5.out V4 G4.out.2).mono ?_
    rintro e V5 ⟨rfl, hb⟩
    have G5 : Hid (Blk V5 w.heap.size 104 #[.int .i64 c.serial, .string c.issuer, .string c.subject, .int .i64 c.frm, .int .i64 c.upto, .string c.key, .bool c.ca, .int .i64 c.pathLen, .int .i64 c.usage, .slice pa c.pol.length pc, .slice ea c.per.length ec, .slice da c.den.length dc, .string c.sig] ∧ Below w.heap.size w V5) := ⟨G4.out.1.below hb hsz4, G4.out.2.trans (hb.mono G4.out.2.size)⟩
    have hsz5 : w.heap.size < V5.heap.size := Nat.lt_of_lt_of_le hsz4 hb.size
    clear hb G4 hsz4
    have ca : V5.cell? ⟨w.heap.size, 11, none⟩ = some (.slice da c.den.length dc) := G5.out.1.cell 11
    go_wp2_with fail
    clear ca
    refine (Z6.out V5 G5.out.2).mono ?_
    rintro e V6 ⟨rfl, hb⟩
    have G6 : Hid (Blk V6 w.heap.size 104 #[.int .i64 c.serial, .string c.issuer, .string c.subject, .int .i64 c.frm, .int .i64 c.upto, .string c.key, .bool c.ca, .int .i64 c.pathLen, .int .i64 c.usage, .slice pa c.pol.length pc, .slice ea c.per.length ec, .slice da c.den.length dc, .string c.sig] ∧ Below w.heap.size w V6) := ⟨G5.out.1.below hb hsz5, G5.out.2.trans (hb.mono G5.out.2.size)⟩
    have hsz6 : w.heap.size < V6.heap.size := Nat.lt_of_lt_of_le hsz5 hb.size
    clear hb G5 hsz5
    go_wp2_with fail
    go_ret
    exact ⟨by rw [HF.out]; rfl, G6.out.2⟩
  have hq6 : r6 = r5 - (totT c.den : Int) := by split at hr6 <;> omega
  clear hr6
  have hr6 := hq6
  clear hq6
  obtain ⟨r7, hr7⟩ : ∃ r : Int, r = r6 - (c.sig.size : Int) := ⟨_, rfl⟩
  have wr7 : IntKind.i64.wrap (r6 - (c.sig.size : Int)) = r7 := by rw [IntKind.wrap_i64]; omega
  by_cases g7 : r7 < 0
  · have HF : Hid (szC c left = -1) := by show szC c left = _; have hw := HW.out; unfold szC; rw [if_neg (by omega)]
    clear HW hr1 hr2 hr3 hr4 hr5 hr6 hr7
    go_enter Try.func69, Try.ntmps69
    go_wp2_with fail
    obtain ⟨V, hV⟩ : ∃ V, V = w.alloc (Obj.cells #[.int .i64 c.serial, .string c.issuer, .string c.subject, .int .i64 c.frm, .int .i64 c.upto, .string c.key, .bool c.ca, .int .i64 c.pathLen, .int .i64 c.usage, .slice pa c.pol.length pc, .slice ea c.per.length ec, .slice da c.den.length dc, .string c.sig] 104) := ⟨_, rfl⟩
    rw [← hV]
    have G : Hid (Blk V w.heap.size 104 #[.int .i64 c.serial, .string c.issuer, .string c.subject, .int .i64 c.frm, .int .i64 c.upto, .string c.key, .bool c.ca, .int .i64 c.pathLen, .int .i64 c.usage, .slice pa c.pol.length pc, .slice ea c.per.length ec, .slice da c.den.length dc, .string c.sig] ∧ Below w.heap.size w V) := by rw [hV]; exact ⟨Blk.new w _ _, (Below.refl _ _).alloc (Nat.le_refl _) _⟩
    have hsz : w.heap.size < V.heap.size := G.out.1.lt
    clear hV
    refine (Z4.out V G.out.2).mono ?_
    rintro e V4 ⟨rfl, hb⟩
    have G4 : Hid (Blk V4 w.heap.size 104 #[.int .i64 c.serial, .string c.issuer, .string c.subject, .int .i64 c.frm, .int .i64 c.upto, .string c.key, .bool c.ca, .int .i64 c.pathLen, .int .i64 c.usage, .slice pa c.pol.length pc, .slice ea c.per.length ec, .slice da c.den.length dc, .string c.sig] ∧ Below w.heap.size w V4) := ⟨G.out.1.below hb hsz, G.out.2.trans (hb.mono G.out.2.size)⟩
    have hsz4 : w.heap.size < V4.heap.size := Nat.lt_of_lt_of_le hsz hb.size
    clear hb G hsz
    have ca : V4.cell? ⟨w.heap.size, 10, none⟩ = some (.slice ea c.per.length ec) := G4.out.1.cell 10
    go_wp2_with fail
    clear ca
    refine (Z5.out V4 G4.out.2).mono ?_
    rintro e V5 ⟨rfl, hb⟩
    have G5 : Hid (Blk V5 w.heap.size 104 #[.int .i64 c.serial, .string c.issuer, .string c.subject, .int .i64 c.frm, .int .i64 c.upto, .string c.key, .bool c.ca, .int .i64 c.pathLen, .int .i64 c.usage, .slice pa c.pol.length pc, .slice ea c.per.length ec, .slice da c.den.length dc, .string c.sig] ∧ Below w.heap.size w V5) := ⟨G4.out.1.below hb hsz4, G4.out.2.trans (hb.mono G4.out.2.size)⟩
    have hsz5 : w.heap.size < V5.heap.size := Nat.lt_of_lt_of_le hsz4 hb.size
    clear hb G4 hsz4
    have ca : V5.cell? ⟨w.heap.size, 11, none⟩ = some (.slice da c.den.length dc) := G5.out.1.cell 11
    go_wp2_with fail
    clear ca
    refine (Z6.out V5 G5.out.2).mono ?_
    rintro e V6 ⟨rfl, hb⟩
    have G6 : Hid (Blk V6 w.heap.size 104 #[.int .i64 c.serial, .string c.issuer, .string c.subject, .int .i64 c.frm, .int .i64 c.upto, .string c.key, .bool c.ca, .int .i64 c.pathLen, .int .i64 c.usage, .slice pa c.pol.length pc, .slice ea c.per.length ec, .slice da c.den.length dc, .string c.sig] ∧ Below w.heap.size w V6) := ⟨G5.out.1.below hb hsz5, G5.out.2.trans (hb.mono G5.out.2.size)⟩
    have hsz6 : w.heap.size < V6.heap.size := Nat.lt_of_lt_of_le hsz5 hb.size
    clear hb G5 hsz5
    have ca : V6.cell? ⟨w.heap.size, 12, none⟩ = some (.string c.sig) := G6.out.1.cell 12
    go_wp2_with fail
    skip
    go_ret
    exact ⟨by rw [HF.out]; rfl, G6.out.2⟩
  have HF : Hid (szC c left = r7) := by show szC c left = _; have hw := HW.out; unfold szC; rw [if_pos (by omega)]; omega
  clear HW hr1 hr2 hr3 hr4 hr5 hr6 hr7
  go_enter Try.func69, Try.ntmps69
  go_wp2_with fail
  obtain ⟨V, hV⟩ : ∃ V, V = w.alloc (Obj.cells #[.int .i64 c.serial, .string c.issuer, .string c.subject, .int .i64 c.frm, .int .i64 c.upto, .string c.key, .bool c.ca, .int .i64 c.pathLen, .int .i64 c.usage, .slice pa c.pol.length pc, .slice ea c.per.length ec, .slice da c.den.length dc, .string c.sig] 104) := ⟨_, rfl⟩
  rw [← hV]
  have G : Hid (Blk V w.heap.size 104 #[.int .i64 c.serial, .string c.issuer, .string c.subject, .int .i64 c.frm, .int .i64 c.upto, .string c.key, .bool c.ca, .int .i64 c.pathLen, .int .i64 c.usage, .slice pa c.pol.length pc, .slice ea c.per.length ec, .slice da c.den.length dc, .string c.sig] ∧ Below w.heap.size w V) := by rw [hV]; exact ⟨Blk.new w _ _, (Below.refl _ _).alloc (Nat.le_refl _) _⟩
  have hsz : w.heap.size < V.heap.size := G.out.1.lt
  clear hV
  refine (Z4.out V G.out.2).mono ?_
  rintro e V4 ⟨rfl, hb⟩
  have G4 : Hid (Blk V4 w.heap.size 104 #[.int .i64 c.serial, .string c.issuer, .string c.subject, .int .i64 c.frm, .int .i64 c.upto, .string c.key, .bool c.ca, .int .i64 c.pathLen, .int .i64 c.usage, .slice pa c.pol.length pc, .slice ea c.per.length ec, .slice da c.den.length dc, .string c.sig] ∧ Below w.heap.size w V4) := ⟨G.out.1.below hb hsz, G.out.2.trans (hb.mono G.out.2.size)⟩
  have hsz4 : w.heap.size < V4.heap.size := Nat.lt_of_lt_of_le hsz hb.size
  clear hb G hsz
  have ca : V4.cell? ⟨w.heap.size, 10, none⟩ = some (.slice ea c.per.length ec) := G4.out.1.cell 10
  go_wp2_with fail
  clear ca
  refine (Z5.out V4 G4.out.2).mono ?_
  rintro e V5 ⟨rfl, hb⟩
  have G5 : Hid (Blk V5 w.heap.size 104 #[.int .i64 c.serial, .string c.issuer, .string c.subject, .int .i64 c.frm, .int .i64 c.upto, .string c.key, .bool c.ca, .int .i64 c.pathLen, .int .i64 c.usage, .slice pa c.pol.length pc, .slice ea c.per.length ec, .slice da c.den.length dc, .string c.sig] ∧ Below w.heap.size w V5) := ⟨G4.out.1.below hb hsz4, G4.out.2.trans (hb.mono G4.out.2.size)⟩
  have hsz5 : w.heap.size < V5.heap.size := Nat.lt_of_lt_of_le hsz4 hb.size
  clear hb G4 hsz4
  have ca : V5.cell? ⟨w.heap.size, 11, none⟩ = some (.slice da c.den.length dc) := G5.out.1.cell 11
  go_wp2_with fail
  clear ca
  refine (Z6.out V5 G5.out.2).mono ?_
  rintro e V6 ⟨rfl, hb⟩
  have G6 : Hid (Blk V6 w.heap.size 104 #[.int .i64 c.serial, .string c.issuer, .string c.subject, .int .i64 c.frm, .int .i64 c.upto, .string c.key, .bool c.ca, .int .i64 c.pathLen, .int .i64 c.usage, .slice pa c.pol.length pc, .slice ea c.per.length ec, .slice da c.den.length dc, .string c.sig] ∧ Below w.heap.size w V6) := ⟨G5.out.1.below hb hsz5, G5.out.2.trans (hb.mono G5.out.2.size)⟩
  have hsz6 : w.heap.size < V6.heap.size := Nat.lt_of_lt_of_le hsz5 hb.size
  clear hb G5 hsz5
  have ca : V6.cell? ⟨w.heap.size, 12, none⟩ = some (.string c.sig) := G6.out.1.cell 12
  go_wp2_with fail
  skip
  go_ret
  exact ⟨by rw [HF.out]; rfl, G6.out.2⟩
end Go.Proofs.Ytllmgjfffkhocaa
