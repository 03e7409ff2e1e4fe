/-
  Texts of the proof.
-/
import Derived.Deep.RegionHeld3
import Derived.Test.YtplblechcnbieaaGreatSB10
set_option maxRecDepth 100000
set_option maxHeartbeats 25600000
namespace Go.Proofs.YtplblechcnbieaaGreat
open Go.RowKit
set_option linter.unusedVariables false
theorem szCert_any (c : Ct) (v : Value) (left : Int) (w : World) (hwd : WdC c) (h0 : 0 <= left) (hl : left <= 1048576) (ha : ArgC w.heap.size w v c) :
  Calls Tryz.prog 12 #[v, .int .i64 left] w fun e w' => e = .returned (.int .i64 (szC c left)) /\ Below w.heap.size w w' := by
 obtain ⟨pa, pc, ea, ec, da, dc, rfl, h1, h2, h3⟩ := ha
 obtain ⟨_, _, hs, hpe, hde, hpl, hel, hdl⟩ := hwd
 have s1 : c.issuer.size <= 9223372036854775807 := hs _ (by simp)
 have s2 : c.subject.size <= 9223372036854775807 := hs _ (by simp)
 have s3 : c.key.size <= 9223372036854775807 := hs _ (by simp)
 have s7 : c.sig.size <= 9223372036854775807 := hs _ (by simp)
 have HA : Hid (ArgAt w.heap.size w pa c.pol /\ ArgT w.heap.size w ea c.per /\ ArgT w.heap.size w da c.den /\ WdT c.per /\ WdT c.den) := ⟨h1, h2, h3, hpe, hde⟩
 clear h1 h2 h3 hs hpe hde
 have HW : Hid ((wtC c : Int) = c.issuer.size + c.subject.size + c.key.size + c.pol.length + totT c.per + totT c.den + c.sig.size) := by show (wtC c : Int) = _; unfold wtC; omega
 unfold ctV
 obtain ⟨r1, hr1⟩ : ∃ r : Int, r = left - (c.issuer.size : Int) := ⟨_, rfl⟩
 have wr1 : IntKind.i64.wrap (left - (c.issuer.size : Int)) = r1 := by rw [IntKind.wrap_i64]; omega
 by_cases g1 : r1 < 0
 ·have HF : Hid (szC c left = -1) := by show szC c left = _; have hw := HW.out; unfold szC; rw [if_neg (by omega)]
  clear HW hr1
  go_enter Tryz.func12, Tryz.ntmps12
  go_wp2_with fail
  go_ret
  exact ⟨by rw [HF.out]; rfl, (Below.refl _ _).alloc (Nat.le_refl _) _⟩
 obtain ⟨r2, hr2⟩ : ∃ r : Int, r = r1 - (c.subject.size : Int) := ⟨_, rfl⟩
 have wr2 : IntKind.i64.wrap (r1 - (c.subject.size : Int)) = r2 := by rw [IntKind.wrap_i64]; omega
 by_cases g2 : r2 < 0
 ·have HF : Hid (szC c left = -1) := by show szC c left = _; have hw := HW.out; unfold szC; rw [if_neg (by omega)]
  clear HW hr1 hr2
  go_enter Tryz.func12, Tryz.ntmps12
  go_wp2_with fail
  go_ret
  exact ⟨by rw [HF.out]; rfl, (Below.refl _ _).alloc (Nat.le_refl _) _⟩
 obtain ⟨r3, hr3⟩ : ∃ r : Int, r = r2 - (c.key.size : Int) := ⟨_, rfl⟩
 have wr3 : IntKind.i64.wrap (r2 - (c.key.size : Int)) = r3 := by rw [IntKind.wrap_i64]; omega
 by_cases g3 : r3 < 0
 ·have HF : Hid (szC c left = -1) := by show szC c left = _; have hw := HW.out; unfold szC; rw [if_neg (by omega)]
  clear HW hr1 hr2 hr3
  go_enter Tryz.func12, Tryz.ntmps12
  go_wp2_with fail
  go_ret
  exact ⟨by rw [HF.out]; rfl, (Below.refl _ _).alloc (Nat.le_refl _) _⟩
 obtain ⟨r4, hr4⟩ : ∃ r : Int, r = if (c.pol.length : Int) <= r3 then r3 - (c.pol.length : Int) else -1 := ⟨_, rfl⟩
 have Z4 : Hid (∀ W, Below w.heap.size w W -> Calls Tryz.prog 50 #[.slice pa c.pol.length pc, .int .i64 r3] W fun e w' => e = .returned (.int .i64 r4) /\ Below W.heap.size W w') := fun W hb => by rw [hr4]; exact szIntS_any pa c.pol.length pc r3 W hpl (by omega) (by omega)
 by_cases g4 : r4 < 0
 ·have HF : Hid (szC c left = -1) := by show szC c left = _; have hw := HW.out; unfold szC; rw [if_neg (by split at hr4 <;> omega)]
  clear HW hr1 hr2 hr3 hr4
  go_enter Tryz.func12, Tryz.ntmps12
  go_wp2_with fail
  obtain ⟨V, hV⟩ : ∃ V, V = w.alloc (Obj.cells #[.int .i64 c.serial, .string c.issuer, .string c.subject, .int .i64 c.frm, .int .i64 c.upto, .string c.key, .bool c.ca, .int .i64 c.pathLen, .int .i64 c.usage, .slice pa c.pol.length pc, .slice ea c.per.length ec, .slice da c.den.length dc, .string c.sig] 40) := ⟨_, rfl⟩
  rw [<- hV]
  have G : Hid (Blk V w.heap.size 40 #[.int .i64 c.serial, .string c.issuer, .string c.subject, .int .i64 c.frm, .int .i64 c.upto, .string c.key, .bool c.ca, .int .i64 c.pathLen, .int .i64 c.usage, .slice pa c.pol.length pc, .slice ea c.per.length ec, .slice da c.den.length dc, .string c.sig] /\ Below w.heap.size w V) := by rw [hV]; exact ⟨Blk.new w _ _, (Below.refl _ _).alloc (Nat.le_refl _) _⟩
  have hsz : w.heap.size < V.heap.size := G.out.1.lt
  clear hV
  refine (Z4.out V G.out.2).mono ?_
  rintro e V4 ⟨rfl, hb⟩
  have G4 : Hid (Blk V4 w.heap.size 40 #[.int .i64 c.serial, .string c.issuer, .string c.subject, .int .i64 c.frm, .int .i64 c.upto, .string c.key, .bool c.ca, .int .i64 c.pathLen, .int .i64 c.usage, .slice pa c.pol.length pc, .slice ea c.per.length ec, .slice da c.den.length dc, .string c.sig] /\ Below w.heap.size w V4) := ⟨G.out.1.below hb hsz, G.out.2.trans (hb.mono G.out.2.size)⟩
  have hsz4 : w.heap.size < V4.heap.size := Nat.lt_of_lt_of_le hsz hb.size
  clear hb G hsz
  go_wp2_with fail
  go_ret
  exact ⟨by rw [HF.out]; rfl, G4.out.2⟩
 have hq4 : r4 = r3 - (c.pol.length : Int) := by split at hr4 <;> omega
 clear hr4
 have hr4 := hq4
 clear hq4
 obtain ⟨r5, hr5⟩ : ∃ r : Int, r = szT c.per r4 := ⟨_, rfl⟩
 have Z5 : Hid (∀ W, Below w.heap.size w W -> Calls Tryz.prog 51 #[.slice ea c.per.length ec, .int .i64 r4] W fun e w' => e = .returned (.int .i64 r5) /\ Below W.heap.size W w') := fun W hb => by rw [hr5]; exact szStringS_any ea c.per c.per.length ec w.heap.size r4 W rfl hel HA.out.2.2.2.1 (by omega) (by omega) hb.size (HA.out.2.1.below hb)
 unfold szT at hr5
 by_cases g5 : r5 < 0
 ·have HF : Hid (szC c left = -1) := by show szC c left = _; have hw := HW.out; unfold szC; rw [if_neg (by split at hr5 <;> omega)]
  clear HW hr1 hr2 hr3 hr4 hr5
  go_enter Tryz.func12, Tryz.ntmps12
  go_wp2_with fail
  obtain ⟨V, hV⟩ : ∃ V, V = w.alloc (Obj.cells #[.int .i64 c.serial, .string c.issuer, .string c.subject, .int .i64 c.frm, .int .i64 c.upto, .string c.key, .bool c.ca, .int .i64 c.pathLen, .int .i64 c.usage, .slice pa c.pol.length pc, .slice ea c.per.length ec, .slice da c.den.length dc, .string c.sig] 40) := ⟨_, rfl⟩
  rw [<- hV]
  have G : Hid (Blk V w.heap.size 40 #[.int .i64 c.serial, .string c.issuer, .string c.subject, .int .i64 c.frm, .int .i64 c.upto, .string c.key, .bool c.ca, .int .i64 c.pathLen, .int .i64 c.usage, .slice pa c.pol.length pc, .slice ea c.per.length ec, .slice da c.den.length dc, .string c.sig] /\ Below w.heap.size w V) := by rw [hV]; exact ⟨Blk.new w _ _, (Below.refl _ _).alloc (Nat.le_refl _) _⟩
  have hsz : w.heap.size < V.heap.size := G.out.1.lt
  clear hV
  refine (Z4.out V G.out.2).mono ?_
  rintro e V4 ⟨rfl, hb⟩
  have G4 : Hid (Blk V4 w.heap.size 40 #[.int .i64 c.serial, .string c.issuer, .string c.subject, .int .i64 c.frm, .int .i64 c.upto, .string c.key, .bool c.ca, .int .i64 c.pathLen, .int .i64 c.usage, .slice pa c.pol.length pc, .slice ea c.per.length ec, .slice da c.den.length dc, .string c.sig] /\ Below w.heap.size w V4) := ⟨G.out.1.below hb hsz, G.out.2.trans (hb.mono G.out.2.size)⟩
  have hsz4 : w.heap.size < V4.heap.size := Nat.lt_of_lt_of_le hsz hb.size
  clear hb G hsz
  have ca : V4.cell? ⟨w.heap.size, 10, none⟩ = some (.slice ea c.per.length ec) := G4.out.1.cell 10
  go_wp2_with fail
  clear ca
  refine (Z5.out V4 G4.out.2).mono ?_
  rintro e V5 ⟨rfl, hb⟩
  have G5 : Hid (Blk V5 w.heap.size 40 #[.int .i64 c.serial, .string c.issuer, .string c.subject, .int .i64 c.frm, .int .i64 c.upto, .string c.key, .bool c.ca, .int .i64 c.pathLen, .int .i64 c.usage, .slice pa c.pol.length pc, .slice ea c.per.length ec, .slice da c.den.length dc, .string c.sig] /\ Below w.heap.size w V5) := ⟨G4.out.1.below hb hsz4, G4.out.2.trans (hb.mono G4.out.2.size)⟩
  have hsz5 : w.heap.size < V5.heap.size := Nat.lt_of_lt_of_le hsz4 hb.size
  clear hb G4 hsz4
  go_wp2_with fail
  go_ret
  exact ⟨by rw [HF.out]; rfl, G5.out.2⟩
 have hq5 : r5 = r4 - (totT c.per : Int) := by split at hr5 <;> omega
 clear hr5
 have hr5 := hq5
 clear hq5
 obtain ⟨r6, hr6⟩ : ∃ r : Int, r = szT c.den r5 := ⟨_, rfl⟩
 have Z6 : Hid (∀ W, Below w.heap.size w W -> Calls Tryz.prog 51 #[.slice da c.den.length dc, .int .i64 r5] W fun e w' => e = .returned (.int .i64 r6) /\ Below W.heap.size W w') := fun W hb => by rw [hr6]; exact szStringS_any da c.den c.den.length dc w.heap.size r5 W rfl hdl HA.out.2.2.2.2 (by omega) (by omega) hb.size (HA.out.2.2.1.below hb)
 unfold szT at hr6
 by_cases g6 : r6 < 0
 ·have HF : Hid (szC c left = -1) := by show szC c left = _; have hw := HW.out; unfold szC; rw [if_neg (by split at hr6 <;> omega)]
  clear HW hr1 hr2 hr3 hr4 hr5 hr6
  go_enter Tryz.func12, Tryz.ntmps12
  go_wp2_with fail
  obtain ⟨V, hV⟩ : ∃ V, V = w.alloc (Obj.cells #[.int .i64 c.serial, .string c.issuer, .string c.subject, .int .i64 c.frm, .int .i64 c.upto, .string c.key, .bool c.ca, .int .i64 c.pathLen, .int .i64 c.usage, .slice pa c.pol.length pc, .slice ea c.per.length ec, .slice da c.den.length dc, .string c.sig] 40) := ⟨_, rfl⟩
  rw [<- hV]
  have G : Hid (Blk V w.heap.size 40 #[.int .i64 c.serial, .string c.issuer, .string c.subject, .int .i64 c.frm, .int .i64 c.upto, .string c.key, .bool c.ca, .int .i64 c.pathLen, .int .i64 c.usage, .slice pa c.pol.length pc, .slice ea c.per.length ec, .slice da c.den.length dc, .string c.sig] /\ Below w.heap.size w V) := by rw [hV]; exact ⟨Blk.new w _ _, (Below.refl _ _).alloc (Nat.le_refl _) _⟩
  have hsz : w.heap.size < V.heap.size := G.out.1.lt
  clear hV
  refine (Z4.out V G.out.2).mono ?_
  rintro e V4 ⟨rfl, hb⟩
  have G4 : Hid (Blk V4 w.heap.size 40 #[.int .i64 c.serial, .string c.issuer, .string c.subject, .int .i64 c.frm, .int .i64 c.upto, .string c.key, .bool c.ca, .int .i64 c.pathLen, .int .i64 c.usage, .slice pa c.pol.length pc, .slice ea c.per.length ec, .slice da c.den.length dc, .string c.sig] /\ Below w.heap.size w V4) := ⟨G.out.1.below hb hsz, G.out.2.trans (hb.mono G.out.2.size)⟩
  have hsz4 : w.heap.size < V4.heap.size := Nat.lt_of_lt_of_le hsz hb.size
  clear hb G hsz
  have ca : V4.cell? ⟨w.heap.size, 10, none⟩ = some (.slice ea c.per.length ec) := G4.out.1.cell 10
  go_wp2_with fail
  clear ca
  refine (Z5.out V4 G4.out.2).mono ?_
  rintro e V5 ⟨rfl, hb⟩
  have G5 : Hid (Blk V5 w.heap.size 40 #[.int .i64 c.serial, .string c.issuer, .string c.subject, .int .i64 c.frm, .int .i64 c.upto, .string c.key, .bool c.ca, .int .i64 c.pathLen, .int .i64 c.usage, .slice pa c.pol.length pc, .slice ea c.per.length ec, .slice da c.den.length dc, .string c.sig] /\ Below w.heap.size w V5) := ⟨G4.out.1.below hb hsz4, G4.out.2.trans (hb.mono G4.out.2.size)⟩
  have hsz5 : w.heap.size < V5.heap.size := Nat.lt_of_lt_of_le hsz4 hb.size
  clear hb G4 hsz4
  have ca : V5.cell? ⟨w.heap.size, 11, none⟩ = some (.slice da c.den.length dc) := G5.out.1.cell 11
  go_wp2_with fail
  clear ca
  refine (Z6.out V5 G5.out.2).mono ?_
  rintro e V6 ⟨rfl, hb⟩
  have G6 : Hid (Blk V6 w.heap.size 40 #[.int .i64 c.serial, .string c.issuer, .string c.subject, .int .i64 c.frm, .int .i64 c.upto, .string c.key, .bool c.ca, .int .i64 c.pathLen, .int .i64 c.usage, .slice pa c.pol.length pc, .slice ea c.per.length ec, .slice da c.den.length dc, .string c.sig] /\ Below w.heap.size w V6) := ⟨G5.out.1.below hb hsz5, G5.out.2.trans (hb.mono G5.out.2.size)⟩
  have hsz6 : w.heap.size < V6.heap.size := Nat.lt_of_lt_of_le hsz5 hb.size
  clear hb G5 hsz5
  go_wp2_with fail
  go_ret
  exact ⟨by rw [HF.out]; rfl, G6.out.2⟩
 have hq6 : r6 = r5 - (totT c.den : Int) := by split at hr6 <;> omega
 clear hr6
 have hr6 := hq6
 clear hq6
 obtain ⟨r7, hr7⟩ : ∃ r : Int, r = r6 - (c.sig.size : Int) := ⟨_, rfl⟩
 have wr7 : IntKind.i64.wrap (r6 - (c.sig.size : Int)) = r7 := by rw [IntKind.wrap_i64]; omega
 by_cases g7 : r7 < 0
 ·have HF : Hid (szC c left = -1) := by show szC c left = _; have hw := HW.out; unfold szC; rw [if_neg (by omega)]
  clear HW hr1 hr2 hr3 hr4 hr5 hr6 hr7
  go_enter Tryz.func12, Tryz.ntmps12
  go_wp2_with fail
  obtain ⟨V, hV⟩ : ∃ V, V = w.alloc (Obj.cells #[.int .i64 c.serial, .string c.issuer, .string c.subject, .int .i64 c.frm, .int .i64 c.upto, .string c.key, .bool c.ca, .int .i64 c.pathLen, .int .i64 c.usage, .slice pa c.pol.length pc, .slice ea c.per.length ec, .slice da c.den.length dc, .string c.sig] 40) := ⟨_, rfl⟩
  rw [<- hV]
  have G : Hid (Blk V w.heap.size 40 #[.int .i64 c.serial, .string c.issuer, .string c.subject, .int .i64 c.frm, .int .i64 c.upto, .string c.key, .bool c.ca, .int .i64 c.pathLen, .int .i64 c.usage, .slice pa c.pol.length pc, .slice ea c.per.length ec, .slice da c.den.length dc, .string c.sig] /\ Below w.heap.size w V) := by rw [hV]; exact ⟨Blk.new w _ _, (Below.refl _ _).alloc (Nat.le_refl _) _⟩
  have hsz : w.heap.size < V.heap.size := G.out.1.lt
  clear hV
  refine (Z4.out V G.out.2).mono ?_
  rintro e V4 ⟨rfl, hb⟩
  have G4 : Hid (Blk V4 w.heap.size 40 #[.int .i64 c.serial, .string c.issuer, .string c.subject, .int .i64 c.frm, .int .i64 c.upto, .string c.key, .bool c.ca, .int .i64 c.pathLen, .int .i64 c.usage, .slice pa c.pol.length pc, .slice ea c.per.length ec, .slice da c.den.length dc, .string c.sig] /\ Below w.heap.size w V4) := ⟨G.out.1.below hb hsz, G.out.2.trans (hb.mono G.out.2.size)⟩
  have hsz4 : w.heap.size < V4.heap.size := Nat.lt_of_lt_of_le hsz hb.size
  clear hb G hsz
  have ca : V4.cell? ⟨w.heap.size, 10, none⟩ = some (.slice ea c.per.length ec) := G4.out.1.cell 10
  go_wp2_with fail
  clear ca
  refine (Z5.out V4 G4.out.2).mono ?_
  rintro e V5 ⟨rfl, hb⟩
  have G5 : Hid (Blk V5 w.heap.size 40 #[.int .i64 c.serial, .string c.issuer, .string c.subject, .int .i64 c.frm, .int .i64 c.upto, .string c.key, .bool c.ca, .int .i64 c.pathLen, .int .i64 c.usage, .slice pa c.pol.length pc, .slice ea c.per.length ec, .slice da c.den.length dc, .string c.sig] /\ Below w.heap.size w V5) := ⟨G4.out.1.below hb hsz4, G4.out.2.trans (hb.mono G4.out.2.size)⟩
  have hsz5 : w.heap.size < V5.heap.size := Nat.lt_of_lt_of_le hsz4 hb.size
  clear hb G4 hsz4
  have ca : V5.cell? ⟨w.heap.size, 11, none⟩ = some (.slice da c.den.length dc) := G5.out.1.cell 11
  go_wp2_with fail
  clear ca
  refine (Z6.out V5 G5.out.2).mono ?_
  rintro e V6 ⟨rfl, hb⟩
  have G6 : Hid (Blk V6 w.heap.size 40 #[.int .i64 c.serial, .string c.issuer, .string c.subject, .int .i64 c.frm, .int .i64 c.upto, .string c.key, .bool c.ca, .int .i64 c.pathLen, .int .i64 c.usage, .slice pa c.pol.length pc, .slice ea c.per.length ec, .slice da c.den.length dc, .string c.sig] /\ Below w.heap.size w V6) := ⟨G5.out.1.below hb hsz5, G5.out.2.trans (hb.mono G5.out.2.size)⟩
  have hsz6 : w.heap.size < V6.heap.size := Nat.lt_of_lt_of_le hsz5 hb.size
  clear hb G5 hsz5
  have ca : V6.cell? ⟨w.heap.size, 12, none⟩ = some (.string c.sig) := G6.out.1.cell 12
  go_wp2_with fail
  skip
  go_ret
  exact ⟨by rw [HF.out]; rfl, G6.out.2⟩
 have HF : Hid (szC c left = r7) := by show szC c left = _; have hw := HW.out; unfold szC; rw [if_pos (by omega)]; omega
 clear HW hr1 hr2 hr3 hr4 hr5 hr6 hr7
 go_enter Tryz.func12, Tryz.ntmps12
 go_wp2_with fail
 obtain ⟨V, hV⟩ : ∃ V, V = w.alloc (Obj.cells #[.int .i64 c.serial, .string c.issuer, .string c.subject, .int .i64 c.frm, .int .i64 c.upto, .string c.key, .bool c.ca, .int .i64 c.pathLen, .int .i64 c.usage, .slice pa c.pol.length pc, .slice ea c.per.length ec, .slice da c.den.length dc, .string c.sig] 40) := ⟨_, rfl⟩
 rw [<- hV]
 have G : Hid (Blk V w.heap.size 40 #[.int .i64 c.serial, .string c.issuer, .string c.subject, .int .i64 c.frm, .int .i64 c.upto, .string c.key, .bool c.ca, .int .i64 c.pathLen, .int .i64 c.usage, .slice pa c.pol.length pc, .slice ea c.per.length ec, .slice da c.den.length dc, .string c.sig] /\ Below w.heap.size w V) := by rw [hV]; exact ⟨Blk.new w _ _, (Below.refl _ _).alloc (Nat.le_refl _) _⟩
 have hsz : w.heap.size < V.heap.size := G.out.1.lt
 clear hV
 refine (Z4.out V G.out.2).mono ?_
 rintro e V4 ⟨rfl, hb⟩
 have G4 : Hid (Blk V4 w.heap.size 40 #[.int .i64 c.serial, .string c.issuer, .string c.subject, .int .i64 c.frm, .int .i64 c.upto, .string c.key, .bool c.ca, .int .i64 c.pathLen, .int .i64 c.usage, .slice pa c.pol.length pc, .slice ea c.per.length ec, .slice da c.den.length dc, .string c.sig] /\ Below w.heap.size w V4) := ⟨G.out.1.below hb hsz, G.out.2.trans (hb.mono G.out.2.size)⟩
 have hsz4 : w.heap.size < V4.heap.size := Nat.lt_of_lt_of_le hsz hb.size
 clear hb G hsz
 have ca : V4.cell? ⟨w.heap.size, 10, none⟩ = some (.slice ea c.per.length ec) := G4.out.1.cell 10
 go_wp2_with fail
 clear ca
 refine (Z5.out V4 G4.out.2).mono ?_
 rintro e V5 ⟨rfl, hb⟩
 have G5 : Hid (Blk V5 w.heap.size 40 #[.int .i64 c.serial, .string c.issuer, .string c.subject, .int .i64 c.frm, .int .i64 c.upto, .string c.key, .bool c.ca, .int .i64 c.pathLen, .int .i64 c.usage, .slice pa c.pol.length pc, .slice ea c.per.length ec, .slice da c.den.length dc, .string c.sig] /\ Below w.heap.size w V5) := ⟨G4.out.1.below hb hsz4, G4.out.2.trans (hb.mono G4.out.2.size)⟩
 have hsz5 : w.heap.size < V5.heap.size := Nat.lt_of_lt_of_le hsz4 hb.size
 clear hb G4 hsz4
 have ca : V5.cell? ⟨w.heap.size, 11, none⟩ = some (.slice da c.den.length dc) := G5.out.1.cell 11
 go_wp2_with fail
 clear ca
 refine (Z6.out V5 G5.out.2).mono ?_
 rintro e V6 ⟨rfl, hb⟩
 have G6 : Hid (Blk V6 w.heap.size 40 #[.int .i64 c.serial, .string c.issuer, .string c.subject, .int .i64 c.frm, .int .i64 c.upto, .string c.key, .bool c.ca, .int .i64 c.pathLen, .int .i64 c.usage, .slice pa c.pol.length pc, .slice ea c.per.length ec, .slice da c.den.length dc, .string c.sig] /\ Below w.heap.size w V6) := ⟨G5.out.1.below hb hsz5, G5.out.2.trans (hb.mono G5.out.2.size)⟩
 have hsz6 : w.heap.size < V6.heap.size := Nat.lt_of_lt_of_le hsz5 hb.size
 clear hb G5 hsz5
 have ca : V6.cell? ⟨w.heap.size, 12, none⟩ = some (.string c.sig) := G6.out.1.cell 12
 go_wp2_with fail
 skip
 go_ret
 exact ⟨by rw [HF.out]; rfl, G6.out.2⟩
theorem eqCert_same (c : Ct) (a b : Value) (w : World) (hl : c.pol.length <= 1000000000 /\ c.per.length <= 1000000000 /\ c.den.length <= 1000000000) (ha : CtAt w a c) (hb : CtAt w b c) :
  Calls Tryz.prog 16 #[a, b] w fun e w' => e = .returned (.bool true) /\ Below w.heap.size w w' := by
 obtain ⟨pv, ev, dv, rfl, h1, h2, h3⟩ := ha
 obtain ⟨pu, eu, du, rfl, k1, k2, k3⟩ := hb
 have HQ : Hid (∀ W, Below w.heap.size w W -> Calls Tryz.prog 58 #[pv, pu] W (fun e w' => e = .returned (.bool true) /\ Below W.heap.size W w') /\ Calls Tryz.prog 59 #[ev, eu] W (fun e w' => e = .returned (.bool true) /\ Below W.heap.size W w') /\ Calls Tryz.prog 59 #[dv, du] W (fun e w' => e = .returned (.bool true) /\ Below W.heap.size W w')) :=
  fun W hb => ⟨eqIntS_same pv pu c.pol W hl.1 (h1.below hb) (k1.below hb), eqT_same ev eu c.per W hl.2.1 (h2.below hb) (k2.below hb), eqT_same dv du c.den W hl.2.2 (h3.below hb) (k3.below hb)⟩
 obtain ⟨lp, hlp⟩ := zE (c.pol.length)
 obtain ⟨le, hle⟩ := zE (c.per.length)
 obtain ⟨ld, hld⟩ := zE (c.den.length)
 obtain ⟨pa, pc, hpa, _⟩ := h1
 obtain ⟨ea, ec, hea, _⟩ := h2
 obtain ⟨da, dc, hda, _⟩ := h3
 obtain ⟨pb, qc, hpb, _⟩ := k1
 obtain ⟨eb, fc, heb, _⟩ := k2
 obtain ⟨db, gc, hdb, _⟩ := k3
 rw [hlp] at hpa hpb
 rw [hle] at hea heb
 rw [hld] at hda hdb
 subst hpa hea hda hpb heb hdb
 clear hlp hle hld hl
 unfold ctV
 go_enter Tryz.func16, Tryz.ntmps16
 go_wp2_with fail
 obtain ⟨V, hV⟩ : ∃ V, V = (w.alloc (Obj.cells #[.int .i64 c.serial, .string c.issuer, .string c.subject, .int .i64 c.frm, .int .i64 c.upto, .string c.key, .bool c.ca, .int .i64 c.pathLen, .int .i64 c.usage, .slice pa lp pc, .slice ea le ec, .slice da ld dc, .string c.sig] 44)).alloc (Obj.cells #[.int .i64 c.serial, .string c.issuer, .string c.subject, .int .i64 c.frm, .int .i64 c.upto, .string c.key, .bool c.ca, .int .i64 c.pathLen, .int .i64 c.usage, .slice pb lp qc, .slice eb le fc, .slice db ld gc, .string c.sig] 44) := ⟨_, rfl⟩
 rw [<- hV]
 have G : Hid (Blk V w.heap.size 44 #[.int .i64 c.serial, .string c.issuer, .string c.subject, .int .i64 c.frm, .int .i64 c.upto, .string c.key, .bool c.ca, .int .i64 c.pathLen, .int .i64 c.usage, .slice pa lp pc, .slice ea le ec, .slice da ld dc, .string c.sig] /\ Blk V (w.heap.size + 1) 44 #[.int .i64 c.serial, .string c.issuer, .string c.subject, .int .i64 c.frm, .int .i64 c.upto, .string c.key, .bool c.ca, .int .i64 c.pathLen, .int .i64 c.usage, .slice pb lp qc, .slice eb le fc, .slice db ld gc, .string c.sig] /\ Below w.heap.size w V /\ w.heap.size + 1 < V.heap.size) := by
  have e0 : (w.alloc (Obj.cells #[.int .i64 c.serial, .string c.issuer, .string c.subject, .int .i64 c.frm, .int .i64 c.upto, .string c.key, .bool c.ca, .int .i64 c.pathLen, .int .i64 c.usage, .slice pa lp pc, .slice ea le ec, .slice da ld dc, .string c.sig] 44)).heap.size = w.heap.size + 1 := Array.size_push _
  have h := Blk.new (w.alloc (Obj.cells #[.int .i64 c.serial, .string c.issuer, .string c.subject, .int .i64 c.frm, .int .i64 c.upto, .string c.key, .bool c.ca, .int .i64 c.pathLen, .int .i64 c.usage, .slice pa lp pc, .slice ea le ec, .slice da ld dc, .string c.sig] 44)) 44 #[.int .i64 c.serial, .string c.issuer, .string c.subject, .int .i64 c.frm, .int .i64 c.upto, .string c.key, .bool c.ca, .int .i64 c.pathLen, .int .i64 c.usage, .slice pb lp qc, .slice eb le fc, .slice db ld gc, .string c.sig]
  rw [e0] at h
  rw [hV]
  exact ⟨(Blk.new w _ _).alloc _, h, ((Below.refl _ _).alloc (Nat.le_refl _) _).alloc (by rw [e0]; omega) _, by rw [size_alloc, e0]; omega⟩
 clear hV
 refine ((HQ.out V G.out.2.2.1).1).mono ?_
 rintro e V0 ⟨rfl, hb⟩
 have G0 : Hid (Blk V0 w.heap.size 44 #[.int .i64 c.serial, .string c.issuer, .string c.subject, .int .i64 c.frm, .int .i64 c.upto, .string c.key, .bool c.ca, .int .i64 c.pathLen, .int .i64 c.usage, .slice pa lp pc, .slice ea le ec, .slice da ld dc, .string c.sig] /\ Blk V0 (w.heap.size + 1) 44 #[.int .i64 c.serial, .string c.issuer, .string c.subject, .int .i64 c.frm, .int .i64 c.upto, .string c.key, .bool c.ca, .int .i64 c.pathLen, .int .i64 c.usage, .slice pb lp qc, .slice eb le fc, .slice db ld gc, .string c.sig] /\ Below w.heap.size w V0 /\ w.heap.size + 1 < V0.heap.size) := ⟨G.out.1.below hb (by have := G.out.2.2.2; omega), G.out.2.1.below hb G.out.2.2.2, G.out.2.2.1.trans (hb.mono G.out.2.2.1.size), Nat.lt_of_lt_of_le G.out.2.2.2 hb.size⟩
 clear hb G
 have ca : V0.cell? ⟨w.heap.size, 10, none⟩ = some (.slice ea le ec) := G0.out.1.cell 10
 have cb : V0.cell? ⟨w.heap.size + 1, 10, none⟩ = some (.slice eb le fc) := G0.out.2.1.cell 10
 go_wp2_with fail
 clear ca cb
 refine ((HQ.out V0 G0.out.2.2.1).2.1).mono ?_
 rintro e V1 ⟨rfl, hb⟩
 have G1 : Hid (Blk V1 w.heap.size 44 #[.int .i64 c.serial, .string c.issuer, .string c.subject, .int .i64 c.frm, .int .i64 c.upto, .string c.key, .bool c.ca, .int .i64 c.pathLen, .int .i64 c.usage, .slice pa lp pc, .slice ea le ec, .slice da ld dc, .string c.sig] /\ Blk V1 (w.heap.size + 1) 44 #[.int .i64 c.serial, .string c.issuer, .string c.subject, .int .i64 c.frm, .int .i64 c.upto, .string c.key, .bool c.ca, .int .i64 c.pathLen, .int .i64 c.usage, .slice pb lp qc, .slice eb le fc, .slice db ld gc, .string c.sig] /\ Below w.heap.size w V1 /\ w.heap.size + 1 < V1.heap.size) := ⟨G0.out.1.below hb (by have := G0.out.2.2.2; omega), G0.out.2.1.below hb G0.out.2.2.2, G0.out.2.2.1.trans (hb.mono G0.out.2.2.1.size), Nat.lt_of_lt_of_le G0.out.2.2.2 hb.size⟩
 clear hb G0
 have ca : V1.cell? ⟨w.heap.size, 11, none⟩ = some (.slice da ld dc) := G1.out.1.cell 11
 have cb : V1.cell? ⟨w.heap.size + 1, 11, none⟩ = some (.slice db ld gc) := G1.out.2.1.cell 11
 go_wp2_with fail
 clear ca cb
 refine ((HQ.out V1 G1.out.2.2.1).2.2).mono ?_
 rintro e V2 ⟨rfl, hb⟩
 have G2 : Hid (Blk V2 w.heap.size 44 #[.int .i64 c.serial, .string c.issuer, .string c.subject, .int .i64 c.frm, .int .i64 c.upto, .string c.key, .bool c.ca, .int .i64 c.pathLen, .int .i64 c.usage, .slice pa lp pc, .slice ea le ec, .slice da ld dc, .string c.sig] /\ Blk V2 (w.heap.size + 1) 44 #[.int .i64 c.serial, .string c.issuer, .string c.subject, .int .i64 c.frm, .int .i64 c.upto, .string c.key, .bool c.ca, .int .i64 c.pathLen, .int .i64 c.usage, .slice pb lp qc, .slice eb le fc, .slice db ld gc, .string c.sig] /\ Below w.heap.size w V2 /\ w.heap.size + 1 < V2.heap.size) := ⟨G1.out.1.below hb (by have := G1.out.2.2.2; omega), G1.out.2.1.below hb G1.out.2.2.2, G1.out.2.2.1.trans (hb.mono G1.out.2.2.1.size), Nat.lt_of_lt_of_le G1.out.2.2.2 hb.size⟩
 clear hb G1
 have ca : V2.cell? ⟨w.heap.size, 12, none⟩ = some (.string c.sig) := G2.out.1.cell 12
 have cb : V2.cell? ⟨w.heap.size + 1, 12, none⟩ = some (.string c.sig) := G2.out.2.1.cell 12
 go_wp2_with fail
 go_ret
 exact ⟨rfl, G2.out.2.2.1⟩
theorem ArgC.mono {B B' : Nat} {w : World} {v : Value} {c : Ct} (h : ArgC B w v c) (hB : B <= B') : ArgC B' w v c := by
 obtain ⟨pa, pc, ea, ec, da, dc, hv, h1, h2, h3⟩ := h
 refine ⟨pa, pc, ea, ec, da, dc, hv, fun j hj => ?_, fun j hj => ?_, fun j hj => ?_⟩
 ·obtain ⟨b, off, e, hb, hc⟩ := h1 j hj; exact ⟨b, off, e, by omega, hc⟩
 ·obtain ⟨b, off, e, hb, hc⟩ := h2 j hj; exact ⟨b, off, e, by omega, hc⟩
 ·obtain ⟨b, off, e, hb, hc⟩ := h3 j hj; exact ⟨b, off, e, by omega, hc⟩
theorem wt_lens {c : Ct} (h : wtC c <= 1048576) : c.pol.length <= 1048576 /\ c.per.length <= 1048576 /\ c.den.length <= 1048576 := by
 obtain ⟨_, _, _, h4, h5, h6, _⟩ := wt_parts h
 exact ⟨h4, h5, h6⟩
def KC (w W : World) (g1 g2 : Nat) (t1 t2 : TypeId) (a b : Array Value) (c : Ct) : Prop := Below w.heap.size w W /\ Blk W g1 t1 a /\ Blk W g2 t2 b /\ CtAt W (.agg b) c
theorem CtAt.shape {w : World} {v : Value} {c : Ct} (h : CtAt w v c) : ∃ p q e r d s, v = ctV c (.slice p c.pol.length q) (.slice e c.per.length r) (.slice d c.den.length s) := by
 obtain ⟨pv, ev, dv, hv, ⟨p, q, h1, _⟩, ⟨e, r, h2, _⟩, ⟨d, s, h3, _⟩⟩ := h
 exact ⟨p, q, e, r, d, s, by rw [hv, h1, h2, h3]⟩
end Go.Proofs.YtplblechcnbieaaGreat
