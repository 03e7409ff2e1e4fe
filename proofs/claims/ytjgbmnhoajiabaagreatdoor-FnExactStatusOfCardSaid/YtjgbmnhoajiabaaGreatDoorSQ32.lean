/-
  Texts of the proof.
-/
import Derived.Lib.LaidTab
import Derived.Deep.QuietTactic
import Derived.Lib.AppendIntMem
import Derived.Test.YtjgbmnhoajiabaaGreatDoorSQ31
set_option maxRecDepth 100000
namespace Go.Proofs.YtjgbmnhoajiabaaGreatDoor
open Go.RowKit
def stf (s : St) : Nat -> Nat
 | 0 => s.a
 | 1 => s.b
 | 2 => s.c
 | 3 => s.d
 | 4 => s.e
 | 5 => s.f
 | 6 => s.g
 | _ => s.h
theorem info8 : (Tryz.prog.info? 310).map (·.size) = some 8 := by kernel_rfl
theorem gKeys : Tryz.prog.globalNamed "loop.example/g00394/impl.roundNumbers" = some 2 := by kernel_rfl
abbrev KeysOk (w : World) : Prop := Lib.TabIs Tryz.prog w "loop.example/g00394/impl.roundNumbers" .u32 (keysN.map fun n => ((n : Nat) : Int))
theorem keys_at (k : Nat) : (keysN.map fun n => ((n : Nat) : Int)).getD k 0 = ((keysN.getD k 0 : Nat) : Int) := by
 rw [List.getD_eq_getElem?_getD, List.getD_eq_getElem?_getD, List.getElem?_map]
 cases keysN[k]? <;> rfl
theorem keysBelow {w : World} (h : KeysOk w) : ∀ w', Below w.heap.size w w' -> KeysOk w' := Lib.tabBelow_of_tabIs h
set_option maxHeartbeats 800000 in
theorem after_any (s : St) (b : ByteArray) (w : World) (hok : s.ok) (hs : b.size = 64) (hT : KeysOk w) : Calls Tryz.prog 324 #[.agg (arrN 8 (stf s)), .string b] w fun e w' => e = .returned (.agg (arrN 8 (stf (blockN s b.data.toList)))) /\ Below w.heap.size w w' := by
 have HT : Hid (KeysOk w) := hT
 clear hT
 go_enter Tryz.func324, Tryz.ntmps324
 go_wp2_with (first | (go_at_call 345; refine (roundWords_any b _ hs).mono ?_; rintro e w1 ⟨rfl, hb1⟩) | (refine step_storeRow 288 w1.heap.size 64 (wd b.data.toList) (Row.new w1 288 64 fun _ => 0) rfl rfl rfl rfl rfl info64 ?_; intro W2 HW2))
 have HF : Hid (Row W2 w.heap.size 310 8 (stf s) /\ Row W2 (w.heap.size + 1) 310 8 (fun _ => 0) /\ Row W2 w1.heap.size 288 64 (wd b.data.toList) /\ Below w.heap.size w W2 /\ w.heap.size + 2 <= w1.heap.size /\ w1.heap.size < W2.heap.size) := by
  have hW2 := HW2.out
  subst hW2
  have h0 := size_alloc2 w (.cells (arrN 8 (stf s)) 310) (.cells (arrN 8 fun _ => 0) 310)
  have hsz := hb1.size
  have h0' : w.heap.size + 2 <= w1.heap.size := Nat.le_trans (Nat.le_of_eq h0.symm) hsz
  refine ⟨?_, ?_, ?_, ?_, h0', ?_⟩
  ·refine Row.setRow_other (Row.alloc (Row.below ((Row.new w 310 8 (stf s)).alloc _) hb1 ?_) _) _ _ (by omega)
   exact Nat.lt_of_lt_of_le (show w.heap.size < w.heap.size + 1 + 1 by omega) (Nat.le_of_eq h0.symm)
  ·refine Row.setRow_other (Row.alloc (Row.below (Row.new1 w _ 310 8 fun _ => 0) hb1 ?_) _) _ _ (by omega)
   exact Nat.lt_of_lt_of_le (show w.heap.size + 1 < w.heap.size + 1 + 1 by omega) (Nat.le_of_eq h0.symm)
  ·exact Row.setRow (Row.new w1 288 64 fun _ => 0)
  ·exact below_setRow (((below2 w _ _).trans (hb1.mono (Nat.le_trans (Nat.le_add_right _ 2) (Nat.le_of_eq h0.symm)))).alloc (by omega) _) (by omega) _
  ·rw [size_setRow, sizeA]; omega
 clear HW2 hb1
 obtain ⟨c, hc⟩ : ∃ c, w1.heap.size = c := ⟨_, rfl⟩
 rw [hc] at HF
 rw [hc]
 clear hc
 have hcs := fun j hj => HF.out.1.cell j hj
 have c0 := hcs 0 (by decide)
 have c1 := hcs 1 (by decide)
 have c2 := hcs 2 (by decide)
 have c3 := hcs 3 (by decide)
 have c4 := hcs 4 (by decide)
 have c5 := hcs 5 (by decide)
 have c6 := hcs 6 (by decide)
 have c7 := hcs 7 (by decide)
 clear hcs
 simp only [stf] at c0 c1 c2 c3 c4 c5 c6 c7
 go_quiet (fail)
 go_wp2_with fail
 have HB0 : Hid (Below w.heap.size w (W2.drewN nq)) := HF.out.2.2.2.1.trans ⟨rfl, rfl, rfl, Nat.le_refl _, fun _ _ => rfl⟩
 clear c0 c1 c2 c3 c4 c5 c6 c7
 go_loopw [6, 7, 8, 9, 10, 11, 12, 13, 37] (fun va vb vc vd ve vf vg vh iv wr => ∃ (k : Nat) (x : St), k <= 64 /\ iv = .int .i64 k /\ va = .int .u32 x.a /\ vb = .int .u32 x.b /\ vc = .int .u32 x.c /\ vd = .int .u32 x.d /\ ve = .int .u32 x.e /\ vf = .int .u32 x.f /\ vg = .int .u32 x.g /\ vh = .int .u32 x.h /\ Hid (x = rounds b.data.toList k s /\ Row wr w.heap.size 310 8 (stf s) /\ Row wr (w.heap.size + 1) 310 8 (fun _ => 0) /\ Row wr c 288 64 (wd b.data.toList) /\ Below w.heap.size w wr)) (fun _ _ _ _ _ _ _ _ iv _ => 64 - (intOf iv).toNat)
 case atStart => exact ⟨0, s, by omega, rfl, rfl, rfl, rfl, rfl, rfl, rfl, rfl, rfl, ⟨rfl, HF.out.1, HF.out.2.1, HF.out.2.2.1, HB0.out⟩⟩
 case round =>
  clear HF HB0
  obtain ⟨k, x, hk, rfl, rfl, rfl, rfl, rfl, rfl, rfl, rfl, rfl, H⟩ := hrel
  have hx : x.ok := by rw [H.out.1]; exact rounds_ok _ _ hok
  obtain ⟨xa, xb, xc, xd, xe, xf, xg, xh⟩ := x
  obtain ⟨la, lb, lc, ld, le, lf, lg, lh⟩ := hx
  dsimp only at la lb lc ld le lf lg lh
  by_cases hlt : k < 64
  ·have hk1 : (k : Int) < 64 := by omega
   have hk0 : (0 : Int) <= (k : Int) := by omega
   obtain ⟨wk, hwk⟩ : ∃ y, wd b.data.toList k = y := ⟨_, rfl⟩
   obtain ⟨kk, hkk⟩ : ∃ y, keysN.getD k 0 = y := ⟨_, rfl⟩
   have hcw := H.out.2.2.2.1.cell k hlt
   rw [hwk] at hcw
   have hT1 := keysBelow HT.out _ H.out.2.2.2.2
   have hck := Lib.TabIs.cell hT1 gKeys k (by rw [List.length_map, keysN_len]; exact hlt)
   rw [keys_at k, hkk] at hck
   clear hT1
   have hkl : kk < 4294967296 := by rw [<- hkk]; exact keysN_lt k
   have hwl : wk < 4294967296 := by rw [<- hwk]; exact wd_lt _ _
   obtain ⟨x1, q1⟩ : ∃ y, rotr 6 xe ^^^ rotr 11 xe = y := ⟨_, rfl⟩
   obtain ⟨E, qE⟩ : ∃ y, bigS1 xe = y := ⟨_, rfl⟩
   have e1 : bits .xor .u32 ((rotr 6 xe : Nat) : Int) ((rotr 11 xe : Nat) : Int) = (x1 : Int) := by rw [<- q1]; exact u32_xor_nat _ _ (rotr_lt _ le) (rotr_lt _ le)
   have e2 : bits .xor .u32 (x1 : Int) ((rotr 25 xe : Nat) : Int) = (E : Int) := by rw [<- qE, bigS1, q1]; exact u32_xor_nat _ _ (by rw [<- q1]; exact xor_lt32 (rotr_lt _ le) (rotr_lt _ le)) (rotr_lt _ le)
   have hEl : E < 4294967296 := by rw [<- qE]; exact bigS1_lt le
   obtain ⟨x2, q2⟩ : ∃ y, rotr 2 xa ^^^ rotr 13 xa = y := ⟨_, rfl⟩
   obtain ⟨A, qA⟩ : ∃ y, bigS0 xa = y := ⟨_, rfl⟩
   have e3 : bits .xor .u32 ((rotr 2 xa : Nat) : Int) ((rotr 13 xa : Nat) : Int) = (x2 : Int) := by rw [<- q2]; exact u32_xor_nat _ _ (rotr_lt _ la) (rotr_lt _ la)
   have e4 : bits .xor .u32 (x2 : Int) ((rotr 22 xa : Nat) : Int) = (A : Int) := by rw [<- qA, bigS0, q2]; exact u32_xor_nat _ _ (by rw [<- q2]; exact xor_lt32 (rotr_lt _ la) (rotr_lt _ la)) (rotr_lt _ la)
   have hAl : A < 4294967296 := by rw [<- qA]; exact bigS0_lt la
   obtain ⟨i1, p1⟩ : ∃ y, xe &&& xf = y := ⟨_, rfl⟩
   obtain ⟨ne, pn⟩ : ∃ y, xe ^^^ 4294967295 = y := ⟨_, rfl⟩
   obtain ⟨i2, p2⟩ : ∃ y, ne &&& xg = y := ⟨_, rfl⟩
   obtain ⟨C, qC⟩ : ∃ y, chN xe xf xg = y := ⟨_, rfl⟩
   have hnl : ne < 4294967296 := by rw [<- pn]; exact xor_lt32 le (by decide)
   have e5 : bits .and .u32 (xe : Int) (xf : Int) = (i1 : Int) := by rw [<- p1]; exact u32_and_nat _ _ le lf
   have e6 : bits .xor .u32 IntKind.u32.max (xe : Int) = (ne : Int) := by rw [<- pn, Nat.xor_comm]; exact u32_xor_nat 4294967295 xe (by decide) le
   have e7 : bits .and .u32 (ne : Int) (xg : Int) = (i2 : Int) := by rw [<- p2]; exact u32_and_nat _ _ hnl lg
   have e8 : bits .xor .u32 (i1 : Int) (i2 : Int) = (C : Int) := by rw [<- qC, chN, p1, pn, p2]; exact u32_xor_nat _ _ (by rw [<- p1]; exact and_lt32 le) (by rw [<- p2]; exact and_lt32 hnl)
   have hCl : C < 4294967296 := by rw [<- qC]; exact chN_lt le
   obtain ⟨j1, p3⟩ : ∃ y, xa &&& xb = y := ⟨_, rfl⟩
   obtain ⟨j2, p4⟩ : ∃ y, xa &&& xc = y := ⟨_, rfl⟩
   obtain ⟨j3, p5⟩ : ∃ y, xb &&& xc = y := ⟨_, rfl⟩
   obtain ⟨j4, p6⟩ : ∃ y, j1 ^^^ j2 = y := ⟨_, rfl⟩
   obtain ⟨M, qM⟩ : ∃ y, majN xa xb xc = y := ⟨_, rfl⟩
   have hj1 : j1 < 4294967296 := by rw [<- p3]; exact and_lt32 la
   have hj2 : j2 < 4294967296 := by rw [<- p4]; exact and_lt32 la
   have hj3 : j3 < 4294967296 := by rw [<- p5]; exact and_lt32 lb
   have e9 : bits .and .u32 (xa : Int) (xb : Int) = (j1 : Int) := by rw [<- p3]; exact u32_and_nat _ _ la lb
   have e10 : bits .and .u32 (xa : Int) (xc : Int) = (j2 : Int) := by rw [<- p4]; exact u32_and_nat _ _ la lc
   have e11 : bits .and .u32 (xb : Int) (xc : Int) = (j3 : Int) := by rw [<- p5]; exact u32_and_nat _ _ lb lc
   have e12 : bits .xor .u32 (j1 : Int) (j2 : Int) = (j4 : Int) := by rw [<- p6]; exact u32_xor_nat _ _ hj1 hj2
   have e13 : bits .xor .u32 (j4 : Int) (j3 : Int) = (M : Int) := by rw [<- qM, majN, p3, p4, p5, p6]; exact u32_xor_nat _ _ (by rw [<- p6]; exact xor_lt32 hj1 hj2) hj3
   have hMl : M < 4294967296 := by rw [<- qM]; exact majN_lt la lb
   obtain ⟨s1, h1⟩ : ∃ y, (xh + E) % 4294967296 = y := ⟨_, rfl⟩
   obtain ⟨s2, h2⟩ : ∃ y, (s1 + C) % 4294967296 = y := ⟨_, rfl⟩
   obtain ⟨s3, h3⟩ : ∃ y, (s2 + kk) % 4294967296 = y := ⟨_, rfl⟩
   obtain ⟨T, hT⟩ : ∃ y, (s3 + wk) % 4294967296 = y := ⟨_, rfl⟩
   obtain ⟨s4, h4⟩ : ∃ y, (T + A) % 4294967296 = y := ⟨_, rfl⟩
   obtain ⟨na, h5⟩ : ∃ y, (s4 + M) % 4294967296 = y := ⟨_, rfl⟩
   obtain ⟨nee, h6⟩ : ∃ y, (xd + T) % 4294967296 = y := ⟨_, rfl⟩
   have v1 : IntKind.u32.wrap ((xh : Int) + (E : Int)) = (s1 : Int) := by rw [IntKind.wrap_u32]; omega
   have v2 : IntKind.u32.wrap ((s1 : Int) + (C : Int)) = (s2 : Int) := by rw [IntKind.wrap_u32]; omega
   have v3 : IntKind.u32.wrap ((s2 : Int) + (kk : Int)) = (s3 : Int) := by rw [IntKind.wrap_u32]; omega
   have v4 : IntKind.u32.wrap ((s3 : Int) + (wk : Int)) = (T : Int) := by rw [IntKind.wrap_u32]; omega
   have v5 : IntKind.u32.wrap ((T : Int) + (A : Int)) = (s4 : Int) := by rw [IntKind.wrap_u32]; omega
   have v6 : IntKind.u32.wrap ((s4 : Int) + (M : Int)) = (na : Int) := by rw [IntKind.wrap_u32]; omega
   have v7 : IntKind.u32.wrap ((xd : Int) + (T : Int)) = (nee : Int) := by rw [IntKind.wrap_u32]; omega
   have HN : Hid ((⟨na, xa, xb, xc, nee, xe, xf, xg⟩ : St) = rounds b.data.toList (k + 1) s) := by
    show _ = rnd _ _ (rounds b.data.toList k s)
    rw [<- H.out.1, hkk, hwk]
    have o1 : oneN kk wk ⟨xa, xb, xc, xd, xe, xf, xg, xh⟩ = T := by unfold oneN; dsimp only; rw [qE, qC]; omega
    have o2 : twoN ⟨xa, xb, xc, xd, xe, xf, xg, xh⟩ = (A + M) % 4294967296 := by unfold twoN; dsimp only; rw [qA, qM]
    unfold rnd
    rw [o1, o2]
    dsimp only
    congr 1 <;> omega
   have H1 := H.out.2
   have HR : Hid (Row wr w.heap.size 310 8 (stf s) /\ Row wr (w.heap.size + 1) 310 8 (fun _ => 0) /\ Row wr c 288 64 (wd b.data.toList) /\ Below w.heap.size w wr) := H1
   clear H H1 h1 h2 h3 h4 h5 h6 hT p1 pn p2 p3 p4 p5 p6 q1 qE q2 qA qC qM hwk hkk
   go_wp2_with fail
   refine (turned_any xe 6 _ le (by decide) (by decide)).mono ?_
   rintro e w1 ⟨rfl, rfl⟩
   go_wp2_with fail
   refine (turned_any xe 11 _ le (by decide) (by decide)).mono ?_
   rintro e w1 ⟨rfl, rfl⟩
   go_wp2_with fail
   refine (turned_any xe 25 _ le (by decide) (by decide)).mono ?_
   rintro e w1 ⟨rfl, rfl⟩
   go_wp2_with fail
   go_region
   go_wp2_with fail
   refine (turned_any xa 2 _ la (by decide) (by decide)).mono ?_
   rintro e w1 ⟨rfl, rfl⟩
   go_wp2_with fail
   refine (turned_any xa 13 _ la (by decide) (by decide)).mono ?_
   rintro e w1 ⟨rfl, rfl⟩
   go_wp2_with fail
   refine (turned_any xa 22 _ la (by decide) (by decide)).mono ?_
   rintro e w1 ⟨rfl, rfl⟩
   go_wp2_with fail
   go_roundw
   case rel => exact ⟨k + 1, ⟨na, xa, xb, xc, nee, xe, xf, xg⟩, by omega, by go_num, rfl, rfl, rfl, rfl, rfl, rfl, rfl, rfl, ⟨HN.out, HR.out.1, HR.out.2.1, HR.out.2.2.1, HR.out.2.2.2.drew⟩⟩
   case measure => simp [intOf]; omega
  ·have hcs := fun j hj => H.out.2.1.cell j hj
   have c0 := hcs 0 (by decide)
   have c1 := hcs 1 (by decide)
   have c2 := hcs 2 (by decide)
   have c3 := hcs 3 (by decide)
   have c4 := hcs 4 (by decide)
   have c5 := hcs 5 (by decide)
   have c6 := hcs 6 (by decide)
   have c7 := hcs 7 (by decide)
   clear hcs
   simp only [stf] at c0 c1 c2 c3 c4 c5 c6 c7
   obtain ⟨ma, mb, mc, md, me, mf, mg, mh⟩ := hok
   obtain ⟨ta, ya⟩ : ∃ y, (s.a + xa) % 4294967296 = y := ⟨_, rfl⟩
   obtain ⟨tb, yb⟩ : ∃ y, (s.b + xb) % 4294967296 = y := ⟨_, rfl⟩
   obtain ⟨tc, yc⟩ : ∃ y, (s.c + xc) % 4294967296 = y := ⟨_, rfl⟩
   obtain ⟨td, yd⟩ : ∃ y, (s.d + xd) % 4294967296 = y := ⟨_, rfl⟩
   obtain ⟨te, ye⟩ : ∃ y, (s.e + xe) % 4294967296 = y := ⟨_, rfl⟩
   obtain ⟨tf, yf⟩ : ∃ y, (s.f + xf) % 4294967296 = y := ⟨_, rfl⟩
   obtain ⟨tg, yg⟩ : ∃ y, (s.g + xg) % 4294967296 = y := ⟨_, rfl⟩
   obtain ⟨th, yh⟩ : ∃ y, (s.h + xh) % 4294967296 = y := ⟨_, rfl⟩
   have va : IntKind.u32.wrap ((s.a : Int) + (xa : Int)) = (ta : Int) := by rw [IntKind.wrap_u32]; omega
   have vb : IntKind.u32.wrap ((s.b : Int) + (xb : Int)) = (tb : Int) := by rw [IntKind.wrap_u32]; omega
   have vc : IntKind.u32.wrap ((s.c : Int) + (xc : Int)) = (tc : Int) := by rw [IntKind.wrap_u32]; omega
   have vd : IntKind.u32.wrap ((s.d : Int) + (xd : Int)) = (td : Int) := by rw [IntKind.wrap_u32]; omega
   have ve : IntKind.u32.wrap ((s.e : Int) + (xe : Int)) = (te : Int) := by rw [IntKind.wrap_u32]; omega
   have vf : IntKind.u32.wrap ((s.f : Int) + (xf : Int)) = (tf : Int) := by rw [IntKind.wrap_u32]; omega
   have vg : IntKind.u32.wrap ((s.g : Int) + (xg : Int)) = (tg : Int) := by rw [IntKind.wrap_u32]; omega
   have vh : IntKind.u32.wrap ((s.h : Int) + (xh : Int)) = (th : Int) := by rw [IntKind.wrap_u32]; omega
   have hk64 : k = 64 := by omega
   have HS : Hid ((⟨ta, tb, tc, td, te, tf, tg, th⟩ : St) = blockN s b.data.toList) := by
    show _ = addSt s (rounds b.data.toList 64 s)
    rw [<- hk64, <- H.out.1]
    unfold addSt
    dsimp only
    rw [ya, yb, yc, yd, ye, yf, yg, yh]
   have HR : Hid (Row wr (w.heap.size + 1) 310 8 (fun _ => 0) /\ Below w.heap.size w wr) := ⟨H.out.2.2.1, H.out.2.2.2.2⟩
   clear ya yb yc yd ye yf yg yh H hk64
   go_wp2_with (refine step_storeRow 310 (w.heap.size + 1) 8 (stf ⟨ta, tb, tc, td, te, tf, tg, th⟩) HR.out.1 rfl rfl rfl rfl rfl info8 ?_; intro W3 HW3)
   have hW3 := HW3.out
   subst hW3
   have hrow := HR.out.1.setRow (g := stf ⟨ta, tb, tc, td, te, tf, tg, th⟩)
   rw [<- HS.out]
   refine bodyPost_ret (v := .agg (arrN 8 (stf ⟨ta, tb, tc, td, te, tf, tg, th⟩))) ?_ rfl ⟨rfl, ?_⟩
   ·exact results_cell_row rfl _ _ (w.heap.size + 1) _ (arrN 8 (stf ⟨ta, tb, tc, td, te, tf, tg, th⟩)) (0, 0) _ rfl hrow Tryz.underlying310 rfl (by rw [arrN_size]; exact info8)
   ·exact below_setRow HR.out.2 (by omega) _
end Go.Proofs.YtjgbmnhoajiabaaGreatDoor
