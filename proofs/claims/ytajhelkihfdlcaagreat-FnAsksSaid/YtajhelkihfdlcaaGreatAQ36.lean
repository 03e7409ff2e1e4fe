/-
  Texts of the proof.
-/
import Derived.Deep.RegionHeld3
import Derived.OwnWalk
import Derived.Test.YtajhelkihfdlcaaGreatAQ35
set_option maxRecDepth 100000
set_option maxHeartbeats 25600000
namespace Go.Proofs.YtajhelkihfdlcaaGreat
open Go.RowKit
set_option linter.unusedVariables false
theorem l02Spoilt_any (s : ByteArray) (B : Nat) (w : World) (c : Nat) (a0 : Option Addr) (len cap : Nat) (hs : s.size <= 100000) (hC : Cur B w c a0 len cap) : Calls Tryz.prog 25 #[.pointer (some ⟨c, 0, none⟩), .string s] w fun e w' =>
  ∃ t : ByteArray, e = .returned (.string t) /\ t.size <= s.size + 5000 /\ Cur B w' c a0 len cap /\ w.grownBy w' (some c) := by
 have HC : Hid (Cur B w c a0 len cap) := hC
 clear hC
 go_enter Tryz.func25, Tryz.ntmps25
 go_wp2_with fail
 refine (l01Below_any 12 B w c a0 len cap (by omega) HC.out).mono ?_
 rintro e w1 ⟨x, hx0, hx1, hx2, rfl, hC1, hg1⟩
 have H1 : Hid (Cur B w1 c a0 len cap /\ w.grownBy w1 (some c)) := ⟨hC1, hg1⟩
 clear hC1 hg1 HC hx1 hx2
 by_cases h0 : x = 0
 ·subst h0
  go_wp2_with fail
  refine (l01Text_any 1 B w1 c a0 len cap H1.out.1).mono ?_
  rintro e w2 ⟨t, rfl, ht, hC2, hg2⟩
  have H2 : Hid (Cur B w2 c a0 len cap /\ w.grownBy w2 (some c)) := ⟨hC2, grownBy_trans H1.out.2 hg2⟩
  clear hC2 hg2 H1
  go_wp2_with fail
  go_ret
  exact ⟨_, rfl, by rw [ByteArray.size_append]; omega, H2.out⟩
 by_cases h1 : x = 1
 ·subst h1
  have hwr : IntKind.i64.wrap ((s.size : Int) + 1) = (s.size : Int) + 1 := by rw [IntKind.wrap_i64]; omega
  go_wp2_with fail
  refine (l01Below_any ((s.size : Int) + 1) B w1 c a0 len cap (by omega) H1.out.1).mono ?_
  rintro e w2 ⟨y, hy0, hy1, hy2, rfl, hC2, hg2⟩
  have H2 : Hid (Cur B w2 c a0 len cap /\ w.grownBy w2 (some c)) := ⟨hC2, grownBy_trans H1.out.2 hg2⟩
  obtain ⟨m, rfl⟩ : ∃ m : Nat, y = (m : Int) := ⟨y.toNat, by omega⟩
  have hm : (m : Int) <= (s.size : Int) := by have := hy1 (by omega); omega
  clear hC2 hg2 H1 hy1 hy2
  go_wp2_with fail
  go_ret
  exact ⟨_, rfl, by rw [ByteArray.size_extract]; omega, H2.out⟩
 by_cases h23 : x = 2 ∨ x = 3
 ·by_cases hz : 0 < s.size
  ·have hzi : (0 : Int) < (s.size : Int) := by omega
   rcases h23 with rfl | rfl
   all_goals (
    go_wp2_with fail
    refine (l01Below_any (s.size : Int) B w1 c a0 len cap (by omega) H1.out.1).mono ?_
    rintro e w2 ⟨y, hy0, hy1, hy2, rfl, hC2, hg2⟩
    have H2 : Hid (Cur B w2 c a0 len cap /\ w.grownBy w2 (some c)) := ⟨hC2, grownBy_trans H1.out.2 hg2⟩
    obtain ⟨m, rfl⟩ : ∃ m : Nat, y = (m : Int) := ⟨y.toNat, by omega⟩
    have hm : (m : Int) < (s.size : Int) := hy1 hzi
    have hm0 : (0 : Int) <= (m : Int) := by omega
    have hm1 : (m : Int) <= (s.size : Int) := by omega
    obtain ⟨q, hq⟩ : ∃ q : Nat, q = m + 1 := ⟨_, rfl⟩
    have hwr : IntKind.i64.wrap ((m : Int) + 1) = (q : Int) := by rw [IntKind.wrap_i64]; omega
    have hq0 : (0 : Int) <= (q : Int) := by omega
    have hq1 : (q : Int) <= (s.size : Int) := by omega
    have hq2 : q <= s.size := by omega
    have hm2 : m <= s.size := by omega
    have hd : Below w2.heap.size w2 w2.drew := (Below.refl _ _).drew
    have HD : Hid (Cur B w2.drew c a0 len cap /\ w.grownBy w2.drew (some c)) := ⟨H2.out.1.kept hd, grownBy_trans H2.out.2 (grownBy_below' hd)⟩
    have HQ : Hid (q = m + 1) := hq
    clear hC2 hg2 H1 hy1 hy2 hd H2 hq
    go_wp2_with fail
    go_region_held3 (fun _ => True) (exact trivial) ((go_at_call 58; refine (l01Text_any 1 B _ c a0 len cap HD.out.1).mono ?_; rintro e w3 ⟨t, rfl, ht, hC3, hg3⟩; have H3 : Hid (Cur B w3 c a0 len cap /\ w.grownBy w3 (some c)) := ⟨hC3, grownBy_trans HD.out.2 hg3⟩; have RA := fun W => run_string_add_sum (P := Tryz.prog) W (s.extract 0 m) t (by rw [ByteArray.size_extract]; omega); have RB := fun W => run_string_add_sum (P := Tryz.prog) W (s.extract 0 m ++ t) (s.extract q s.size) (by simp only [ByteArray.size_append, ByteArray.size_extract]; omega)))
    all_goals (
     go_wp2_with fail
     go_ret
     exact ⟨_, rfl, by have := HQ.out; simp only [ByteArray.size_append, ByteArray.size_extract]; omega, H3.out⟩))
  ·have hzi : ¬ (0 : Int) < (s.size : Int) := by omega
   rcases h23 with rfl | rfl
   all_goals (
    go_wp2_with fail
    go_ret
    exact ⟨_, rfl, by omega, H1.out⟩)
 ·have h2 : ¬ x = 2 := fun h => h23 (.inl h)
  have h3 : ¬ x = 3 := fun h => h23 (.inr h)
  go_wp2_with fail
  go_ret
  exact ⟨_, rfl, by omega, H1.out⟩
end Go.Proofs.YtajhelkihfdlcaaGreat
namespace Go.Proofs.YtajhelkihfdlcaaGreat
open Go.RowKit Der
set_option linter.unusedVariables false
set_option linter.unusedSimpArgs false
def AtPost (w : World) (e : Ending) (w' : World) : Prop := ∃ u x, e = .returned u /\ OwnAk w' w.heap.size u x /\ BqA x /\ Below w.heap.size w w'
def RaPost (w : World) (e : Ending) (w' : World) : Prop := ∃ t : ByteArray, e = .returned (.string t) /\ t.size <= 100000 /\ Below w.heap.size w w'
theorem drawAskText_any (B : Nat) (w : World) (a0 : Option Addr) (len cap : Nat) (hl : len <= 1048576) (hB : B <= w.heap.size) (hcode : CodeAt B w a0 len) :
  Calls Tryz.prog 5 #[.slice a0 len cap] w fun e w' => AtPost w e w' := by
 obtain ⟨W0, hW0⟩ : ∃ V, V = w.alloc (Obj.cells #[.slice none 0 0, .int .i64 0, .int .i64 0, .int .i64 0, .int .i64 0, .bool false] 26) := ⟨_, rfl⟩
 have H0 : Hid (Below w.heap.size w W0 /\ Blk W0 w.heap.size 26 #[.slice none 0 0, .int .i64 0, .int .i64 0, .int .i64 0, .int .i64 0, .bool false]) := by rw [hW0]; exact ⟨(Below.refl _ _).alloc (Nat.le_refl _) _, Blk.new _ _ _⟩
 have HN := l01New_any B W0 a0 len cap hl (Nat.le_trans hB H0.out.1.size) (hcode.below (H0.out.1.mono hB))
 clear hl hB hcode
 go_enter Tryz.func5, Tryz.ntmps5
 go_upto_region 1 with fail
 rw [<- hW0]
 clear hW0
 go_wp2_with fail
 refine HN.mono ?_
 rintro e w1 ⟨c, rfl, hC, hbw, hcw⟩
 have H1 : Hid (Cs B w w1 w1 c a0 len cap /\ Blk w1 w.heap.size 26 #[.slice none 0 0, .int .i64 0, .int .i64 0, .int .i64 0, .int .i64 0, .bool false] /\ w.heap.size < c) := ⟨⟨⟨H0.out.1.trans (hbw.mono H0.out.1.size), Nat.le_trans H0.out.1.size hcw⟩, grownBy_refl _ _, hC⟩, H0.out.2.below hbw H0.out.2.lt, Nat.lt_of_lt_of_le H0.out.2.lt hcw⟩
 clear hC hbw hcw HN H0
 go_wp2_with fail
 refine (l14Any_any B w1 c a0 len cap H1.out.1.2.2).mono ?_
 rintro e wx ⟨u2, x, rfl, hu2, hbx, -, hc, hg⟩
 obtain ⟨pX, qX, huX⟩ := AkAt.shape hu2.at
 subst huX
 have HM : Hid (BqA x) := hbx
 have HX : Hid ((Below w.heap.size w wx /\ Blk wx w.heap.size 26 #[.slice none 0 0, .int .i64 0, .int .i64 0, .int .i64 0, .int .i64 0, .bool false]) /\ OwnAk wx w1.heap.size (akV x (.slice pX x.tg.length qX)) x /\ w.heap.size < w1.heap.size) := ⟨⟨(H1.out.1.draw hc hg).all, H1.out.2.1.grown hg (fun e => by have := Option.some.inj e; have := H1.out.2.2; omega)⟩, hu2, H1.out.2.1.lt⟩
 clear hu2 hbx hc hg H1
 unfold akV at HX |-
 have r0 : wx.cell? ⟨w.heap.size, 0, none⟩ = some (.slice none 0 0) := HX.out.1.2.cell 0
 have r1 : wx.cell? ⟨w.heap.size, 1, none⟩ = some (.int .i64 0) := HX.out.1.2.cell 1
 have r2 : wx.cell? ⟨w.heap.size, 2, none⟩ = some (.int .i64 0) := HX.out.1.2.cell 2
 have r3 : wx.cell? ⟨w.heap.size, 3, none⟩ = some (.int .i64 0) := HX.out.1.2.cell 3
 have r4 : wx.cell? ⟨w.heap.size, 4, none⟩ = some (.int .i64 0) := HX.out.1.2.cell 4
 have r5 : wx.cell? ⟨w.heap.size, 5, none⟩ = some (.bool false) := HX.out.1.2.cell 5
 have rf := fun j => HX.out.1.2.free j
 go_wp2_with fail
 refine bodyPost_ret (v := .agg #[.slice pX x.tg.length qX, .int .i64 x.plan, .int .i64 x.want, .int .i64 x.nonce, .int .i64 x.time, .bool x.cac]) (by simp [results, Tryz.results5, go_sem, r0, r1, r2, r3, r4, r5]; try rfl) rfl ?_
 generalize hV : World.setCell _ { block := w.heap.size, off := 5 } (Value.bool x.cac) = V
 have ho : Out [w.heap.size] wx V := by
  rw [<- hV]
  iterate 6 refine Out.setCell ?_ _ _ (by simp)
  exact Out.refl _ _
 refine ⟨_, x, rfl, (OwnAk.out HX.out.2.1 ho (fun b hb hm => ?_)).base (Nat.le_of_lt HX.out.2.2), HM.out, HX.out.1.1.trans (ho.below (fun b hb => by rw [List.mem_singleton.1 hb]; exact Nat.le_refl _) HX.out.1.1.size)⟩
 have h1 := (fpAk_lt HX.out.2.1 b hb).1
 have h2 := List.mem_singleton.1 hm
 have h3 := HX.out.2.2
 omega
theorem drawReadAsk_any (B : Nat) (w : World) (a0 : Option Addr) (len cap : Nat) (hl : len <= 1048576) (hB : B <= w.heap.size) (hcode : CodeAt B w a0 len) :
  Calls Tryz.prog 9 #[.slice a0 len cap] w fun e w' => RaPost w e w' := by
 have HN := l01New_any B w a0 len cap hl hB hcode
 clear hl hB hcode
 go_enter Tryz.func9, Tryz.ntmps9
 go_wp2_with fail
 refine HN.mono ?_
 rintro e w1 ⟨c, rfl, hC, hbw, hcw⟩
 have H1 : Hid (Cs B w w1 w1 c a0 len cap) := ⟨⟨hbw, hcw⟩, grownBy_refl _ _, hC⟩
 clear hC hbw hcw HN
 go_wp2_with fail
 refine (l01Below_any 4 B w1 c a0 len cap (by decide) H1.out.2.2).mono ?_
 rintro e w2 ⟨xk, hk0, hk1, -, rfl, hc, hg⟩
 have H2 : Hid (Cs B w w1 w2 c a0 len cap) := H1.out.draw hc hg
 clear hc hg H1 hk1
 go_wp2_with fail
 refine (l14Any_any B w2 c a0 len cap H2.out.2.2).mono ?_
 rintro e w3 ⟨u2, x, rfl, hu2, hbx, -, hc, hg⟩
 have H3 : Hid (Cs B w w1 w3 c a0 len cap) := H2.out.draw hc hg
 have ET := specAskText_any x u2 w3 (Nat.le_trans hbx.wt (by decide)) hbx.wd hu2.at
 obtain ⟨pX, qX, huX⟩ := AkAt.shape hu2.at
 subst huX
 unfold akV at ET |-
 obtain ⟨T, hT⟩ : ∃ q : ByteArray, (⟨((atxt x).getD []).toArray⟩ : ByteArray) = q := ⟨_, rfl⟩
 obtain ⟨BT, hBT⟩ := zE ((atxt x).isSome)
 have HTS : Hid (T.size <= 4000) := by show _ <= _; rw [<- hT]; exact atxt_len x
 rw [hT, hBT] at ET
 clear hu2 hbx hc hg H2 hT hBT
 go_wp2_with fail
 refine ET.mono ?_
 rintro e w4 ⟨rfl, hb4⟩
 have H4 : Hid (Cs B w w1 w4 c a0 len cap) := H3.out.on hb4
 clear hb4 H3 ET
 by_cases hk : xk = 0
 ·subst hk
  go_wp2_with fail
  refine (l02Spoilt_any T B w4 c a0 len cap (Nat.le_trans HTS.out (by decide)) H4.out.2.2).mono ?_
  rintro e w5 ⟨t, rfl, hts, hc, hg⟩
  have H5 : Hid (Below w.heap.size w w5 /\ t.size <= 100000) := ⟨(H4.out.draw hc hg).all, by have := HTS.out; omega⟩
  clear hc hg hts H4
  go_wp2_with fail
  go_ret
  exact ⟨t, rfl, H5.out.2, H5.out.1⟩
 ·go_wp2_with fail
  go_ret
  exact ⟨T, rfl, Nat.le_trans HTS.out (by decide), H4.out.all⟩
theorem l09Kids_any (t : Int) (s : ByteArray) (a : Option Addr) (l c : Nat) (n : Int) (w : World) : Calls Tryz.prog 27 #[.agg #[.int .i64 t, .string s, .slice a l c], .int .i64 n] w fun e w' => e = .returned (.tuple #[.slice a l c, .bool (decide (t = 48 /\ (l : Int) = n))]) /\ Below w.heap.size w w' := by
 obtain ⟨B, hB⟩ := zE (decide (t = 48 /\ (l : Int) = n))
 rw [hB]
 have HB : Hid (decide (t = 48 /\ (l : Int) = n) = B) := hB
 clear hB
 obtain ⟨W1, hW1⟩ : ∃ V, V = w.alloc (Obj.cells #[.int .i64 t, .string s, .slice a l c] 41) := ⟨_, rfl⟩
 have hB1 : Blk W1 w.heap.size 41 #[.int .i64 t, .string s, .slice a l c] := by rw [hW1]; exact Blk.new _ _ _
 have HB1 : Hid (Below w.heap.size w W1) := by rw [hW1]; exact (Below.refl _ _).alloc (Nat.le_refl _) _
 have c0 : W1.cell? ⟨w.heap.size, 0, none⟩ = some (.int .i64 t) := hB1.cell 0
 have c2 : W1.cell? ⟨w.heap.size, 2, none⟩ = some (.slice a l c) := hB1.cell 2
 clear hB1
 by_cases ht : t = 48
 ·subst ht
  have HB2 : Hid (((l : Int) == n) = B) := by
   have h := HB.out
   rw [<- h]
   show ((l : Int) == n) = decide _
   rw [Bool.eq_iff_iff]
   simp
  go_enter Tryz.func27, Tryz.ntmps27
  go_wp2_with fail
  rw [<- hW1]
  clear hW1
  go_quiet (fail)
  go_wp2_with fail
  go_ret2
  exact ⟨by rw [<- HB2.out]; rfl, ⟨HB1.out.os, HB1.out.tape, HB1.out.output, HB1.out.size, HB1.out.block⟩⟩
 ·have hbq : (t == 48) = false := beq_eq_false_iff_ne.2 ht
  have HB2 : Hid (B = false) := by
   have h := HB.out
   rw [<- h]
   exact decide_eq_false (fun q => ht q.1)
  clear ht
  go_enter Tryz.func27, Tryz.ntmps27
  go_wp2_with fail
  rw [<- hW1]
  clear hW1
  go_quiet (fail)
  go_wp2_with fail
  go_ret2
  exact ⟨by rw [HB2.out]; rfl, ⟨HB1.out.os, HB1.out.tape, HB1.out.output, HB1.out.size, HB1.out.block⟩⟩
theorem textsIn_any (n : Nat) (t : Int) (s : ByteArray) (ks : List (It (n + 1))) (a : Option Addr) (l c : Nat) (w : World) (hk : KcAt w (n + 1) (.slice a l c) ks) (hl : ks.length <= 1000000) (hz : ∀ y ∈ ks, szI (n + 1) y <= 1000000) : Calls Tryz.prog 28 #[.agg #[.int .i64 t, .string s, .slice a l c]] w fun e w' => ∃ u, e = .returned u /\ OwnT w' w.heap.size u (ks.map (fun y => baL (It.text y))) /\ Below w.heap.size w w' := by
 obtain ⟨i0, hi, hz0, hz1, hz2⟩ := info_parts info9
 obtain ⟨ao, cap, hv, _, hcell⟩ := hk
 injection hv with hv1 hv2 hv3
 subst hv1 hv3
 have HX : Hid ((0 < ks.length -> ∃ g o, a = some ⟨g, o, none⟩ /\ g < w.heap.size /\ ∀ j (hj : j < ks.length), ∃ k, w.cell? ⟨g, o + j * 3, none⟩ = some (.int .i64 (It.tag ks[j])) /\ w.cell? ⟨g, o + j * 3 + 1, none⟩ = some (.string ⟨(It.text ks[j]).toArray⟩) /\ w.cell? ⟨g, o + j * 3 + 2, none⟩ = some k /\ KcAt w n k (It.kids ks[j])) /\ l = ks.length /\ (∀ y ∈ ks, szI (n + 1) y <= 1000000)) := ⟨hcell, hv2, hz⟩
 have hlb : l <= 1000000 := by omega
 clear hcell hv2 hl hz
 go_enter Tryz.func28, Tryz.ntmps28
 go_wp2_with fail
 obtain ⟨W3, hW3⟩ : ∃ V, V = (w.alloc (Obj.cells #[.int .i64 t, .string s, .slice a l c] 41)).alloc (Obj.cells #[] 9) := ⟨_, rfl⟩
 rw [<- hW3]
 have e0 : (w.alloc (Obj.cells #[.int .i64 t, .string s, .slice a l c] 41)).heap.size = w.heap.size + 1 := Array.size_push _
 have H3 : Hid (Below w.heap.size w W3 /\ W3.heap.size = w.heap.size + 2 /\ Blk W3 w.heap.size 41 #[.int .i64 t, .string s, .slice a l c] /\ OwnT W3 (w.heap.size + 1) (.slice (some ⟨w.heap.size + 1, 0, none⟩) 0 0) []) := by
  rw [hW3]
  refine ⟨((Below.refl _ _).alloc (Nat.le_refl _) _).alloc (by rw [e0]; omega) _, by rw [size_alloc, e0], (Blk.new w _ _).alloc _, ?_⟩
  have h := World.ownsRow_made (base := w.heap.size + 1) (e := 9) (size := 1) (w.alloc (Obj.cells #[.int .i64 t, .string s, .slice a l c] 41)) #[] 0 (by rw [e0]; exact Nat.le_refl _) (Nat.zero_le _) rfl
  rw [e0] at h
  exact h
 clear hW3 e0
 go_loopw [3, 4] (fun lv iv wr => ∃ k : Nat, k <= l /\ iv = .int .i64 k /\ Hid (OwnT wr (w.heap.size + 1) lv ((ks.take k).map (fun y => baL (It.text y))) /\ Blk wr w.heap.size 41 #[.int .i64 t, .string s, .slice a l c] /\ Below w.heap.size w wr /\ w.heap.size + 1 <= wr.heap.size)) (fun _ iv _ => l - (intOf iv).toNat)
 case atStart => exact ⟨0, Nat.zero_le _, rfl, H3.out.2.2.2, H3.out.2.2.1, H3.out.1, by rw [H3.out.2.1]; omega⟩
 case round =>
  obtain ⟨k, hk, rfl, HK⟩ := hrel
  clear H3
  obtain ⟨la, lc, hlv⟩ : ∃ ao cap, u3 = .slice ao ((ks.take k).map (fun y => baL (It.text y))).length cap := by obtain ⟨ao, cap, h, _⟩ := HK.out.1.at; exact ⟨ao, cap, h⟩
  have hlen : ((ks.take k).map (fun y => baL (It.text y))).length = k := by rw [List.length_map, List.length_take]; have := HX.out.2.1; omega
  rw [hlen] at hlv
  subst hlv
  have HLEN : Hid (((ks.take k).map (fun y => baL (It.text y))).length = k) := hlen
  clear hlen
  have cB : wr.cell? ⟨w.heap.size, 2, none⟩ = some (.slice a l c) := HK.out.2.1.cell 2
  by_cases hlt : k < l
  ·have hlti : (k : Int) < (l : Int) := by omega
   have hk0 : (0 : Int) <= (k : Int) := by omega
   have hj : k < ks.length := by have := HX.out.2.1; omega
   obtain ⟨g1, o1, ha, hg1, hcs⟩ := HX.out.1 (by omega)
   obtain ⟨kk, d0, d1, d2, hkk⟩ := hcs k hj
   have c0 : wr.cell? ⟨g1, o1 + k * 3, none⟩ = some (.int .i64 (It.tag ks[k])) := (HK.out.2.2.1.cell (p := ⟨g1, o1 + k * 3, none⟩) hg1).trans d0
   have c1 : wr.cell? ⟨g1, o1 + k * 3 + 1, none⟩ = some (.string ⟨(It.text ks[k]).toArray⟩) := (HK.out.2.2.1.cell (p := ⟨g1, o1 + k * 3 + 1, none⟩) hg1).trans d1
   have c2 : wr.cell? ⟨g1, o1 + k * 3 + 2, none⟩ = some kk := (HK.out.2.2.1.cell (p := ⟨g1, o1 + k * 3 + 2, none⟩) hg1).trans d2
   obtain ⟨ak, ck, hks⟩ := hkk.shape
   have HN : Hid ((ks.take (k + 1)).map (fun y => baL (It.text y)) = (ks.take k).map (fun y => baL (It.text y)) ++ [(fun y => baL (It.text y)) ks[k]]) := by
    show (ks.take (k + 1)).map (fun y => baL (It.text y)) = _
    rw [<- List.take_append_getElem hj, List.map_append]
    rfl
   obtain ⟨x, hx⟩ : ∃ x : ByteArray, (⟨(It.text ks[k]).toArray⟩ : ByteArray) = x := ⟨_, rfl⟩
   have HXK : Hid (baL (It.text ks[k]) = x) := hx
   rw [hx] at c1
   subst ha
   clear d0 d1 d2 hkk hcs hg1 hx hks c0 c2
   obtain ⟨W4, hW4⟩ : ∃ V, V = wr.alloc (Obj.cells #[.string x] 9) := ⟨_, rfl⟩
   have hb34 : Below wr.heap.size wr W4 := by rw [hW4]; exact (Below.refl _ _).alloc (Nat.le_refl _) _
   have H4 : Hid (OwnT W4 (w.heap.size + 1) (.slice la k lc) ((ks.take k).map fun y => baL (It.text y)) /\ OwnT W4 wr.heap.size (.slice (some ⟨wr.heap.size, 0, none⟩) 1 1) [x] /\ Blk W4 w.heap.size 41 #[.int .i64 t, .string s, .slice (some ⟨g1, o1, none⟩) l c] /\ Below w.heap.size w W4 /\ w.heap.size + 1 <= W4.heap.size) := ⟨HK.out.1.stays hb34, by rw [hW4]; exact rone_text wr x, HK.out.2.1.on hb34, HK.out.2.2.1.trans (hb34.mono HK.out.2.2.1.size), Nat.le_trans HK.out.2.2.2 hb34.size⟩
   clear hb34 HK
   go_wp2_with (at_builtin; rw [<- hW4]; refine wpList_append_texts2 rfl _ _ 24 rfl (w.heap.size + 1) i0 Tryz.underlying24 hi hz0 hz1 hz2 (.slice la k lc) ((ks.take k).map fun y => baL (It.text y)).length (cellsT ((ks.take k).map fun y => baL (It.text y))) rfl H4.out.1 _ [x] wr.heap.size H4.out.2.1 rfl (by have := HLEN.out; simp only [List.length_singleton]; omega) H4.out.2.2.2.2 ?_)
   clear c1 cB
   intro v9 w9 ho9 hg9
   rw [<- hW4] at hg9
   have H9 : Hid (OwnT w9 (w.heap.size + 1) v9 ((ks.take (k + 1)).map fun y => baL (It.text y)) /\ Blk w9 w.heap.size 41 #[.int .i64 t, .string s, .slice (some ⟨g1, o1, none⟩) l c] /\ Below w.heap.size w w9 /\ w.heap.size + 1 <= w9.heap.size) := by
    have hrl := fun b hb => (World.ownsRow.lt H4.out.1 b hb).1
    refine ⟨?_, H4.out.2.2.1.grown hg9 (fun e => by have := hrl _ e.symm; omega), H4.out.2.2.2.1.grown hg9 H4.out.2.2.2.1.size (fun b hb => by have := hrl b hb; omega), Nat.le_trans H4.out.2.2.2.2 hg9.size⟩
    rw [HN.out, HXK.out]
    simpa [OwnT, cellsT_append] using ho9
   clear ho9 hg9 H4 hW4
   go_wp2_with fail
   exact ⟨⟨k + 1, by omega, by go_num, H9⟩, by simp [intOf]; omega⟩
  ·have hlti : ¬ (k : Int) < (l : Int) := by omega
   have HE : Hid (OwnT wr (w.heap.size + 1) (.slice la k lc) (ks.map fun y => baL (It.text y)) /\ Below w.heap.size w wr) := by
    have h := HK.out.1
    rw [List.take_of_length_le (by have := HX.out.2.1; omega)] at h
    exact ⟨h, HK.out.2.2.1⟩
   go_wp2_with fail
   go_ret
   exact ⟨_, rfl, HE.out.1.base (by omega), HE.out.2⟩
end Go.Proofs.YtajhelkihfdlcaaGreat
