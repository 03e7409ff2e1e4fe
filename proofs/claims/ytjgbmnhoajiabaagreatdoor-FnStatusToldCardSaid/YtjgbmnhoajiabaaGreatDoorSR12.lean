/-
  Texts of the proof.
-/
import Derived.Deep.AppendLies
import Derived.Test.YtjgbmnhoajiabaaGreatDoorSR11
set_option maxRecDepth 100000
namespace Go.Proofs.YtjgbmnhoajiabaaGreatDoor
open Go.RowKit
set_option linter.unusedVariables false
def tdV (c : Cl) (p : Value) : Value := .agg #[.string c.issuer, .int .i64 c.num, .int .i64 c.ths, .int .i64 c.nxt, .int .i64 c.bas, p]
def hdV (c : Cl) : Value := .agg #[.string c.issuer, .int .i64 c.num, .int .i64 c.ths, .int .i64 c.nxt, .int .i64 c.bas]
set_option maxHeartbeats 1600000 in
theorem tidingsOf_any (c : Cl) (p : Value) (w : World) (hp : ∃ pa lp pc, p = .slice pa lp pc) : Calls Tryz.prog 133 #[clV c p] w fun e w' => e = .returned (tdV c p) /\ Below w.heap.size w w' := by
 obtain ⟨pa, lp, pc, rfl⟩ := hp
 unfold clV
 have e0 := size_alloc w (Obj.cells #[.string c.issuer, .int .i64 c.num, .int .i64 c.ths, .int .i64 c.nxt, .int .i64 c.bas, .slice pa lp pc, .string c.sig] 49)
 go_enter Tryz.func133, Tryz.ntmps133
 go_wp2_with fail
 refine bodyPost_ret (v := tdV c (.slice pa lp pc)) (by simp [results, Tryz.results133, go_sem, tdV]) rfl ⟨rfl, ?_⟩
 exact ((Below.refl _ _).alloc (Nat.le_refl _) _).alloc (by omega) _
set_option maxHeartbeats 1600000 in
theorem allows_any (c : Cl) (r : Int) (w : World) : Calls Tryz.prog 278 #[hdV c, .int .i64 r] w fun e w' => e = .returned (.bool (inB r 1 10 && !(decide (r = 8) && decide (c.bas = 0)))) /\ Below w.heap.size w w' := by
 obtain ⟨Q, hQ⟩ : ∃ b, (inB r 1 10 && !(decide (r = 8) && decide (c.bas = 0))) = b := ⟨_, rfl⟩
 rw [hQ]
 unfold hdV
 by_cases h8 : r = 8
 ·subst h8
  by_cases hb : c.bas = 0
  ·have HF : Hid (Q = false) := by show Q = _; rw [<- hQ, decide_eq_true hb]; rfl
   clear hQ
   go_enter Tryz.func278, Tryz.ntmps278
   go_wp2_with fail
   go_ret
   exact ⟨by rw [HF.out]; simp [hb], (Below.refl _ _).alloc (Nat.le_refl _) _⟩
  ·have HF : Hid (Q = true) := by show Q = _; rw [<- hQ, decide_eq_false hb]; rfl
   clear hQ
   go_enter Tryz.func278, Tryz.ntmps278
   go_wp2_with fail
   go_ret
   exact ⟨by rw [HF.out]; simp [hb], (Below.refl _ _).alloc (Nat.le_refl _) _⟩
 ·have hq : (r == 8) = false := beq_eq_false_iff_ne.2 h8
  by_cases h1 : 1 <= r
  ·by_cases h2 : r <= 10
   ·have HF : Hid (Q = true) := by show Q = _; rw [<- hQ, decide_eq_false h8]; simp [inB, h1, h2]
    clear hQ
    go_enter Tryz.func278, Tryz.ntmps278
    go_wp2_with fail
    go_ret
    exact ⟨by rw [HF.out]; simp [*], (Below.refl _ _).alloc (Nat.le_refl _) _⟩
   ·have HF : Hid (Q = false) := by show Q = _; rw [<- hQ, show inB r 1 10 = false from decide_eq_false (fun q => h2 q.2)]; rfl
    clear hQ
    go_enter Tryz.func278, Tryz.ntmps278
    go_wp2_with fail
    go_ret
    exact ⟨by rw [HF.out]; simp [*], (Below.refl _ _).alloc (Nat.le_refl _) _⟩
  ·have HF : Hid (Q = false) := by show Q = _; rw [<- hQ, show inB r 1 10 = false from decide_eq_false (fun q => h1 q.1)]; rfl
   clear hQ
   go_enter Tryz.func278, Tryz.ntmps278
   go_wp2_with fail
   go_ret
   exact ⟨by rw [HF.out]; simp [*], (Below.refl _ _).alloc (Nat.le_refl _) _⟩
set_option maxHeartbeats 3200000 in
theorem headRight_any (c : Cl) (w : World) (hz : c.issuer.size <= 1000000000) : Calls Tryz.prog 221 #[hdV c] w fun e w' => e = .returned (.bool (headOk c)) /\ Below w.heap.size w w' := by
 obtain ⟨NM, hNM⟩ : ∃ n, c.num - 1 = n := ⟨_, rfl⟩
 obtain ⟨B1, hB1⟩ : ∃ b, nameOk c.issuer = b := ⟨_, rfl⟩
 have E1 : Hid (∀ W, Calls Tryz.prog 105 #[.string c.issuer] W fun e w' => e = .returned (.bool B1) /\ Below W.heap.size W w') := fun W => by rw [<- hB1]; exact implName_any c.issuer W (by omega)
 obtain ⟨B2, hB2⟩ : ∃ b, inB c.bas 0 NM = b := ⟨_, rfl⟩
 have E2 : Hid (∀ W, Calls Tryz.prog 104 #[.int .i64 NM, .int .i64 c.bas] W fun e w' => e = .returned (.bool B2) /\ Below W.heap.size W w') := fun W => by rw [<- hB2]; exact upTo_any _ _ W
 obtain ⟨B3, hB3⟩ : ∃ b, inB c.ths 0 9999 = b := ⟨_, rfl⟩
 have E3 : Hid (∀ W, Calls Tryz.prog 104 #[.int .i64 9999, .int .i64 c.ths] W fun e w' => e = .returned (.bool B3) /\ Below W.heap.size W w') := fun W => by rw [<- hB3]; exact upTo_any _ _ W
 obtain ⟨B4, hB4⟩ : ∃ b, inB c.nxt 0 9999 = b := ⟨_, rfl⟩
 have E4 : Hid (∀ W, Calls Tryz.prog 104 #[.int .i64 9999, .int .i64 c.nxt] W fun e w' => e = .returned (.bool B4) /\ Below W.heap.size W w') := fun W => by rw [<- hB4]; exact upTo_any _ _ W
 have HC : Hid (headOk c = (B1 && (inB c.num 1 9999 && (B2 && (B3 && B4))))) := by show headOk c = _; unfold headOk; rw [hNM, hB1, hB2, hB3, hB4]
 have HWN : Hid (1 <= c.num -> c.num <= 9999 -> IntKind.i64.wrap (c.num - 1) = NM) := fun h1 h2 => by rw [IntKind.wrap_i64]; omega
 clear hB1 hB2 hB3 hB4 hNM
 unfold hdV
 go_enter Tryz.func221, Tryz.ntmps221
 go_wp2_with fail
 obtain ⟨V, hV⟩ : ∃ V, V = w.alloc (Obj.cells #[.string c.issuer, .int .i64 c.num, .int .i64 c.ths, .int .i64 c.nxt, .int .i64 c.bas] 152) := ⟨_, rfl⟩
 rw [<- hV]
 have G : Hid (Below w.heap.size w V /\ Blk V w.heap.size 152 #[.string c.issuer, .int .i64 c.num, .int .i64 c.ths, .int .i64 c.nxt, .int .i64 c.bas]) := by rw [hV]; exact ⟨(Below.refl _ _).alloc (Nat.le_refl _) _, Blk.new w _ _⟩
 clear hV
 refine (E1.out V).mono ?_
 rintro e V1 ⟨rfl, hb⟩
 have G1 : Hid (Below w.heap.size w V1 /\ Blk V1 w.heap.size 152 #[.string c.issuer, .int .i64 c.num, .int .i64 c.ths, .int .i64 c.nxt, .int .i64 c.bas]) := ⟨G.out.1.trans (hb.mono G.out.1.size), G.out.2.below hb G.out.2.lt⟩
 clear hb G
 have c0 : V1.cell? ⟨w.heap.size, 0, none⟩ = some (.string c.issuer) := G1.out.2.cell 0
 have c1 : V1.cell? ⟨w.heap.size, 1, none⟩ = some (.int .i64 c.num) := G1.out.2.cell 1
 have c2 : V1.cell? ⟨w.heap.size, 2, none⟩ = some (.int .i64 c.ths) := G1.out.2.cell 2
 have c3 : V1.cell? ⟨w.heap.size, 3, none⟩ = some (.int .i64 c.nxt) := G1.out.2.cell 3
 have c4 : V1.cell? ⟨w.heap.size, 4, none⟩ = some (.int .i64 c.bas) := G1.out.2.cell 4
 cases B1 with
 | false =>
  go_wp2_with fail
  go_ret
  exact ⟨by rw [HC.out]; simp, G1.out.1⟩
 | true =>
  by_cases n1 : 1 <= c.num
  rotate_left
  ·have HN : Hid (inB c.num 1 9999 = false) := decide_eq_false (fun q => n1 q.1)
   go_wp2_with fail
   go_ret
   exact ⟨by rw [HC.out, HN.out]; simp, G1.out.1⟩
  by_cases n2 : c.num <= 9999
  rotate_left
  ·have HN : Hid (inB c.num 1 9999 = false) := decide_eq_false (fun q => n2 q.2)
   go_wp2_with fail
   go_ret
   exact ⟨by rw [HC.out, HN.out]; simp, G1.out.1⟩
  have HNY : Hid (inB c.num 1 9999 = true) := decide_eq_true ⟨n1, n2⟩
  have wn := HWN.out n1 n2
  go_wp2_with fail
  clear c0 c1 c2 c3 c4
  refine (E2.out V1).mono ?_
  rintro e V2 ⟨rfl, hb⟩
  have G2 : Hid (Below w.heap.size w V2 /\ Blk V2 w.heap.size 152 #[.string c.issuer, .int .i64 c.num, .int .i64 c.ths, .int .i64 c.nxt, .int .i64 c.bas]) := ⟨G1.out.1.trans (hb.mono G1.out.1.size), G1.out.2.below hb G1.out.2.lt⟩
  clear hb G1
  have c0 : V2.cell? ⟨w.heap.size, 0, none⟩ = some (.string c.issuer) := G2.out.2.cell 0
  have c1 : V2.cell? ⟨w.heap.size, 1, none⟩ = some (.int .i64 c.num) := G2.out.2.cell 1
  have c2 : V2.cell? ⟨w.heap.size, 2, none⟩ = some (.int .i64 c.ths) := G2.out.2.cell 2
  have c3 : V2.cell? ⟨w.heap.size, 3, none⟩ = some (.int .i64 c.nxt) := G2.out.2.cell 3
  have c4 : V2.cell? ⟨w.heap.size, 4, none⟩ = some (.int .i64 c.bas) := G2.out.2.cell 4
  cases B2 with
  | false =>
   go_wp2_with fail
   go_ret
   exact ⟨by rw [HC.out]; simp, G2.out.1⟩
  | true =>
   go_wp2_with fail
   clear c0 c1 c2 c3 c4
   refine (E3.out V2).mono ?_
   rintro e V3 ⟨rfl, hb⟩
   have G3 : Hid (Below w.heap.size w V3 /\ Blk V3 w.heap.size 152 #[.string c.issuer, .int .i64 c.num, .int .i64 c.ths, .int .i64 c.nxt, .int .i64 c.bas]) := ⟨G2.out.1.trans (hb.mono G2.out.1.size), G2.out.2.below hb G2.out.2.lt⟩
   clear hb G2
   have c0 : V3.cell? ⟨w.heap.size, 0, none⟩ = some (.string c.issuer) := G3.out.2.cell 0
   have c1 : V3.cell? ⟨w.heap.size, 1, none⟩ = some (.int .i64 c.num) := G3.out.2.cell 1
   have c2 : V3.cell? ⟨w.heap.size, 2, none⟩ = some (.int .i64 c.ths) := G3.out.2.cell 2
   have c3 : V3.cell? ⟨w.heap.size, 3, none⟩ = some (.int .i64 c.nxt) := G3.out.2.cell 3
   have c4 : V3.cell? ⟨w.heap.size, 4, none⟩ = some (.int .i64 c.bas) := G3.out.2.cell 4
   cases B3 with
   | false =>
    go_wp2_with fail
    go_ret
    exact ⟨by rw [HC.out]; simp, G3.out.1⟩
   | true =>
    go_wp2_with fail
    clear c0 c1 c2 c3 c4
    refine (E4.out V3).mono ?_
    rintro e V4 ⟨rfl, hb⟩
    have G4 : Hid (Below w.heap.size w V4 /\ Blk V4 w.heap.size 152 #[.string c.issuer, .int .i64 c.num, .int .i64 c.ths, .int .i64 c.nxt, .int .i64 c.bas]) := ⟨G3.out.1.trans (hb.mono G3.out.1.size), G3.out.2.below hb G3.out.2.lt⟩
    clear hb G3
    have c0 : V4.cell? ⟨w.heap.size, 0, none⟩ = some (.string c.issuer) := G4.out.2.cell 0
    have c1 : V4.cell? ⟨w.heap.size, 1, none⟩ = some (.int .i64 c.num) := G4.out.2.cell 1
    have c2 : V4.cell? ⟨w.heap.size, 2, none⟩ = some (.int .i64 c.ths) := G4.out.2.cell 2
    have c3 : V4.cell? ⟨w.heap.size, 3, none⟩ = some (.int .i64 c.nxt) := G4.out.2.cell 3
    have c4 : V4.cell? ⟨w.heap.size, 4, none⟩ = some (.int .i64 c.bas) := G4.out.2.cell 4
    cases B4 with
    | false =>
     go_wp2_with fail
     go_ret
     exact ⟨by rw [HC.out]; simp, G4.out.1⟩
    | true =>
     go_wp2_with fail
     go_ret
     exact ⟨by rw [HC.out, HNY.out]; rfl, G4.out.1⟩
theorem serials_take {l : List (Int × Int)} {k : Nat} (h : k < l.length) : serials (l.take (k + 1)) = serials (l.take k) ++ [(l.getD k (0, 0)).1] := by
 unfold serials
 rw [<- List.take_append_getElem h, List.map_append]
 simp [List.getD, h]
set_option maxHeartbeats 6400000 in
theorem revsRight_any (c : Cl) (pa : Option Addr) (pc : Nat) (w : World) (ha : RevAt w (.slice pa c.revs.length pc) c.revs) (hz : c.revs.length <= 1000000000) : Calls Tryz.prog 222 #[tdV c (.slice pa c.revs.length pc)] w fun e w' => e = .returned (.bool (revsOk c.bas c.revs)) /\ Below w.heap.size w w' := by
 obtain ⟨pa', pc', hpa, hrev⟩ := ha
 obtain ⟨lp, hlp⟩ : ∃ l, c.revs.length = l := ⟨_, rfl⟩
 rw [hlp] at hpa hz |-
 simp only [Value.slice.injEq, true_and] at hpa
 obtain ⟨rfl, rfl⟩ := hpa
 have HRV : Hid (c.revs.length = lp /\ ∀ j, j < c.revs.length -> ∃ g, pa = some ⟨g, 0, none⟩ /\ g < w.heap.size /\ w.cell? ⟨g, j * 2, none⟩ = some (.int .i64 (c.revs.getD j (0, 0)).1) /\ w.cell? ⟨g, j * 2 + 1, none⟩ = some (.int .i64 (c.revs.getD j (0, 0)).2)) := ⟨hlp, hrev⟩
 clear hrev hlp
 obtain ⟨i0, hi, hz0, hz1, hz2⟩ := info_parts info3
 unfold tdV
 by_cases h8 : lp <= 8
 rotate_left
 ·have h8i : (8 : Int) < (lp : Int) := by omega
  have HF : Hid (revsOk c.bas c.revs = false) := revs_long (by rw [HRV.out.1]; exact h8)
  go_enter Tryz.func222, Tryz.ntmps222
  go_wp2_with fail
  go_ret
  exact ⟨by rw [HF.out]; rfl, (Below.refl _ _).alloc (Nat.le_refl _) _⟩
 have h8i : ¬ (8 : Int) < (lp : Int) := by omega
 go_enter Tryz.func222, Tryz.ntmps222
 go_wp2_with fail
 obtain ⟨V, hV⟩ : ∃ V, V = w.alloc (Obj.cells #[.string c.issuer, .int .i64 c.num, .int .i64 c.ths, .int .i64 c.nxt, .int .i64 c.bas, .slice pa lp pc] 154) := ⟨_, rfl⟩
 rw [<- hV]
 have G : Hid (Below w.heap.size w V /\ Blk V w.heap.size 154 #[.string c.issuer, .int .i64 c.num, .int .i64 c.ths, .int .i64 c.nxt, .int .i64 c.bas, .slice pa lp pc]) := by rw [hV]; exact ⟨(Below.refl _ _).alloc (Nat.le_refl _) _, Blk.new w _ _⟩
 clear hV
 go_loopw [3, 13] (fun sv iv wr => ∃ k : Nat, k <= lp /\ iv = .int .i64 k /\ Hid ((∀ j, j < k -> revIn c.bas (c.revs.getD j (0, 0)) = true) /\ Below w.heap.size w wr /\ Blk wr w.heap.size 154 #[.string c.issuer, .int .i64 c.num, .int .i64 c.ths, .int .i64 c.nxt, .int .i64 c.bas, .slice pa lp pc] /\ OwnI wr (w.heap.size + 1) sv (serials (c.revs.take k)))) (fun _ iv _ => lp - (intOf iv).toNat)
 case atStart => exact ⟨0, Nat.zero_le _, rfl, fun j hj => absurd hj (Nat.not_lt_zero _), G.out.1, G.out.2, OwnI.nil _ _⟩
 case round =>
  obtain ⟨k, hk, rfl, HI⟩ := hrel
  clear G
  by_cases hlt : k < lp
  rotate_left
  ·have hki : ¬ (k : Int) < (lp : Int) := by omega
   obtain ⟨ao, cap, hsv⟩ : ∃ ao cap, u3 = .slice ao (serials (c.revs.take k)).length cap := by obtain ⟨ao, cap, h, _⟩ := HI.out.2.2.2.at; exact ⟨ao, cap, h⟩
   obtain ⟨q, hq⟩ : ∃ q, (serials (c.revs.take k)).length = q := ⟨_, rfl⟩
   rw [hq] at hsv
   clear hq
   subst hsv
   have EA := ascI_any (.slice ao q cap) (serials (c.revs.take k)) wr (by rw [serials_len, List.length_take]; omega) HI.out.2.2.2.at
   have HT : Hid (ascG lsI 0 (serials (c.revs.take k)) = revsOk c.bas c.revs) := by
    have e := HRV.out.1
    have ht : c.revs.take k = c.revs := List.take_of_length_le (by omega)
    show _ = revsOk c.bas c.revs
    rw [ht]
    unfold revsOk
    rw [decide_eq_true (show c.revs.length <= 8 by omega), all_yes (d := (0, 0)) (fun i hi => HI.out.1 i (by omega))]
    rfl
   rw [HT.out] at EA
   have HB : Hid (Below w.heap.size w wr) := HI.out.2.1
   go_wp2_with fail
   refine EA.mono ?_
   rintro e w2 ⟨rfl, hb⟩
   have HB2 : Hid (Below w.heap.size w w2) := HB.out.trans (hb.mono HB.out.size)
   clear hb EA
   go_wp2_with fail
   go_ret
   exact ⟨rfl, HB2.out⟩
  obtain ⟨g, hao, hg, hc1, hc2⟩ := HRV.out.2 k (by rw [HRV.out.1]; exact hlt)
  have d1 : wr.cell? ⟨g, k * 2, none⟩ = some (.int .i64 (c.revs.getD k (0, 0)).1) := (HI.out.2.1.cell (p := ⟨g, k * 2, none⟩) hg).trans hc1
  have d2 : wr.cell? ⟨g, k * 2 + 1, none⟩ = some (.int .i64 (c.revs.getD k (0, 0)).2) := (HI.out.2.1.cell (p := ⟨g, k * 2 + 1, none⟩) hg).trans hc2
  have HX1 : Hid (revIn c.bas (c.revs.getD k (0, 0)) = false -> revsOk c.bas c.revs = false) := fun q => revs_bad (by rw [HRV.out.1]; exact hlt) q
  have HREV : Hid (revIn c.bas (c.revs.getD k (0, 0)) = (inB (c.revs.getD k (0, 0)).1 0 9999 && (inB (c.revs.getD k (0, 0)).2 1 10 && !(decide ((c.revs.getD k (0, 0)).2 = 8) && decide (c.bas = 0))))) := rfl
  have HS : Hid (serials (c.revs.take (k + 1)) = serials (c.revs.take k) ++ [(c.revs.getD k (0, 0)).1]) := serials_take (by rw [HRV.out.1]; exact hlt)
  have HX3 : Hid (revIn c.bas (c.revs.getD k (0, 0)) = true -> ∀ j, j < k + 1 -> revIn c.bas (c.revs.getD j (0, 0)) = true) := fun q j hj => by
   by_cases e : j = k
   ·rw [e]; exact q
   ·exact HI.out.1 j (by omega)
  generalize revIn c.bas (c.revs.getD k (0, 0)) = R at *
  generalize (c.revs.getD k (0, 0)).1 = s at *
  generalize (c.revs.getD k (0, 0)).2 = r at *
  subst hao
  clear hc1 hc2 hg
  have hki : (k : Int) < (lp : Int) := by omega
  have hk0 : (0 : Int) <= (k : Int) := by omega
  obtain ⟨S, hS⟩ : ∃ b, inB s 0 9999 = b := ⟨_, rfl⟩
  obtain ⟨Q, hQ⟩ : ∃ b, (inB r 1 10 && !(decide (r = 8) && decide (c.bas = 0))) = b := ⟨_, rfl⟩
  have EA : Hid (∀ W, Calls Tryz.prog 104 #[.int .i64 9999, .int .i64 s] W fun e w' => e = .returned (.bool S) /\ Below W.heap.size W w') := fun W => by rw [<- hS]; exact upTo_any _ _ W
  have EB : Hid (∀ W, Calls Tryz.prog 278 #[.agg #[.string c.issuer, .int .i64 c.num, .int .i64 c.ths, .int .i64 c.nxt, .int .i64 c.bas], .int .i64 r] W fun e w' => e = .returned (.bool Q) /\ Below W.heap.size W w') := fun W => by rw [<- hQ]; exact allows_any c r W
  rw [hS, hQ] at HREV
  clear hS hQ
  go_wp2_with fail
  obtain ⟨W1, hW1⟩ : ∃ W, W = wr.alloc (Obj.cells #[.int .i64 s, .int .i64 r] 161) := ⟨_, rfl⟩
  rw [<- hW1]
  have hbW : Below wr.heap.size wr W1 := by rw [hW1]; exact (Below.refl _ _).alloc (Nat.le_refl _) _
  have HG1 : Hid (Below w.heap.size w W1 /\ Blk W1 w.heap.size 154 #[.string c.issuer, .int .i64 c.num, .int .i64 c.ths, .int .i64 c.nxt, .int .i64 c.bas, .slice (some ⟨g, 0, none⟩) lp pc] /\ OwnI W1 (w.heap.size + 1) u3 (serials (c.revs.take k)) /\ Blk W1 wr.heap.size 161 #[.int .i64 s, .int .i64 r]) := ⟨HI.out.2.1.trans (hbW.mono HI.out.2.1.size), HI.out.2.2.1.below hbW HI.out.2.2.1.lt, HI.out.2.2.2.stays hbW, by rw [hW1]; exact Blk.new wr _ _⟩
  have HWS : Hid (w.heap.size + 1 <= wr.heap.size) := by show w.heap.size + 1 <= wr.heap.size; have := HI.out.2.2.1.lt; omega
  clear hW1 hbW HI d1 d2
  refine (EA.out W1).mono ?_
  rintro e W2 ⟨rfl, hb⟩
  have HG2 : Hid (Below w.heap.size w W2 /\ Blk W2 w.heap.size 154 #[.string c.issuer, .int .i64 c.num, .int .i64 c.ths, .int .i64 c.nxt, .int .i64 c.bas, .slice (some ⟨g, 0, none⟩) lp pc] /\ OwnI W2 (w.heap.size + 1) u3 (serials (c.revs.take k)) /\ Blk W2 wr.heap.size 161 #[.int .i64 s, .int .i64 r]) := ⟨HG1.out.1.trans (hb.mono HG1.out.1.size), HG1.out.2.1.below hb HG1.out.2.1.lt, HG1.out.2.2.1.stays hb, HG1.out.2.2.2.below hb HG1.out.2.2.2.lt⟩
  clear hb HG1
  have d1 : W2.cell? ⟨wr.heap.size, 1, none⟩ = some (.int .i64 r) := HG2.out.2.2.2.cell 1
  have c0 : W2.cell? ⟨w.heap.size, 0, none⟩ = some (.string c.issuer) := HG2.out.2.1.cell 0
  have c1 : W2.cell? ⟨w.heap.size, 1, none⟩ = some (.int .i64 c.num) := HG2.out.2.1.cell 1
  have c2 : W2.cell? ⟨w.heap.size, 2, none⟩ = some (.int .i64 c.ths) := HG2.out.2.1.cell 2
  have c3 : W2.cell? ⟨w.heap.size, 3, none⟩ = some (.int .i64 c.nxt) := HG2.out.2.1.cell 3
  have c4 : W2.cell? ⟨w.heap.size, 4, none⟩ = some (.int .i64 c.bas) := HG2.out.2.1.cell 4
  cases S with
  | false =>
   have HF : Hid (revsOk c.bas c.revs = false) := HX1.out (by rw [HREV.out]; rfl)
   clear HX1 HX3
   go_wp2_with fail
   go_ret
   exact ⟨by rw [HF.out]; rfl, HG2.out.1⟩
  | true =>
   go_wp2_with fail
   refine (EB.out W2).mono ?_
   rintro e W3 ⟨rfl, hb⟩
   have HG3 : Hid (Below w.heap.size w W3 /\ Blk W3 w.heap.size 154 #[.string c.issuer, .int .i64 c.num, .int .i64 c.ths, .int .i64 c.nxt, .int .i64 c.bas, .slice (some ⟨g, 0, none⟩) lp pc] /\ OwnI W3 (w.heap.size + 1) u3 (serials (c.revs.take k)) /\ Blk W3 wr.heap.size 161 #[.int .i64 s, .int .i64 r]) := ⟨HG2.out.1.trans (hb.mono HG2.out.1.size), HG2.out.2.1.below hb HG2.out.2.1.lt, HG2.out.2.2.1.stays hb, HG2.out.2.2.2.below hb HG2.out.2.2.2.lt⟩
   clear hb HG2 d1 c0 c1 c2 c3 c4
   cases Q with
   | false =>
    have HF : Hid (revsOk c.bas c.revs = false) := HX1.out (by rw [HREV.out]; rfl)
    clear HX1 HX3
    go_wp2_with fail
    go_ret
    exact ⟨by rw [HF.out]; rfl, HG3.out.1⟩
   | true =>
    have HN : Hid (∀ j, j < k + 1 -> revIn c.bas (c.revs.getD j (0, 0)) = true) := HX3.out (by rw [HREV.out]; rfl)
    clear HX1 HX3
    have d0 : W3.cell? ⟨wr.heap.size, 0, none⟩ = some (.int .i64 s) := HG3.out.2.2.2.cell 0
    obtain ⟨ao, cap, hsv, hpos, hcap, hcm⟩ := OwnI.shape HG3.out.2.2.1
    have hlk : (serials (c.revs.take k)).length = k := by rw [serials_len, List.length_take, HRV.out.1]; omega
    rw [hlk] at hsv
    subst hsv
    have hO3 : W3.ownsRow (w.heap.size + 1) 3 1 (.slice ao k cap) k (cellsI (serials (c.revs.take k))) := by have h := HG3.out.2.2.1; unfold OwnI at h; rwa [hlk] at h
    clear hpos hcap hcm
    obtain ⟨W4, hW4⟩ : ∃ V, V = W3.alloc (Obj.cells #[.int .i64 s] 3) := ⟨_, rfl⟩
    have hb4 : Below W3.heap.size W3 W4 := by rw [hW4]; exact (Below.refl _ _).alloc (Nat.le_refl _) _
    have H4 : Hid (W4.ownsRow (w.heap.size + 1) 3 1 (.slice ao k cap) k (cellsI (serials (c.revs.take k))) /\ OwnI W4 W3.heap.size (.slice (some ⟨W3.heap.size, 0, none⟩) 1 1) [s] /\ Blk W4 w.heap.size 154 #[.string c.issuer, .int .i64 c.num, .int .i64 c.ths, .int .i64 c.nxt, .int .i64 c.bas, .slice (some ⟨g, 0, none⟩) lp pc] /\ Below w.heap.size w W4 /\ w.heap.size + 1 <= W4.heap.size) := ⟨by rw [hW4]; exact hO3.alloc _, by rw [hW4]; exact World.ownsRow_lit W3 #[.int .i64 s] 1 (Nat.le_refl _) (by decide) rfl, HG3.out.2.1.below hb4 HG3.out.2.1.lt, HG3.out.1.trans (hb4.mono HG3.out.1.size), by have h1 := HWS.out; have h2 := hb4.size; have h3 := HG3.out.2.2.2.lt; omega⟩
    clear hb4 HG3 hO3
    go_wp2_with (at_builtin; rw [<- hW4]; refine wpList_append_list rfl _ _ 24 rfl (w.heap.size + 1) i0 Tryz.underlying24 hi hz0 hz1 hz2 (.slice ao k cap) k (cellsI (serials (c.revs.take k))) rfl H4.out.1 _ [s] W3.heap.size H4.out.2.1 rfl (by simp only [List.length_singleton]; omega) H4.out.2.2.2.2 ?_)
    intro v9 w9 ho9 hg9
    rw [<- hW4] at hg9
    have H9 : Hid ((∀ j, j < k + 1 -> revIn c.bas (c.revs.getD j (0, 0)) = true) /\ Below w.heap.size w w9 /\ Blk w9 w.heap.size 154 #[.string c.issuer, .int .i64 c.num, .int .i64 c.ths, .int .i64 c.nxt, .int .i64 c.bas, .slice (some ⟨g, 0, none⟩) lp pc] /\ OwnI w9 (w.heap.size + 1) v9 (serials (c.revs.take (k + 1)))) := by
     have hrl := fun b hb => (World.ownsRow.lt H4.out.1 b hb).1
     refine ⟨HN.out, H4.out.2.2.2.1.grown hg9 H4.out.2.2.2.1.size (fun b hb => by have := hrl b hb; omega), (hg9.block _ H4.out.2.2.1.lt (fun e => by have := hrl _ e.symm; omega)).trans H4.out.2.2.1, ?_⟩
     rw [HS.out]
     unfold OwnI
     rw [cellsI_append, List.length_append, hlk]
     exact ho9
    clear ho9 hg9 H4 hW4 d0
    go_wp2_with fail
    exact ⟨⟨k + 1, by omega, by go_num, H9⟩, by simp [intOf]; omega⟩
set_option maxHeartbeats 3200000 in
theorem tidRight_any (c : Cl) (pa : Option Addr) (pc : Nat) (w : World) (ha : RevAt w (.slice pa c.revs.length pc) c.revs) (hz : wtL c <= 1000000000) : Calls Tryz.prog 140 #[tdV c (.slice pa c.revs.length pc)] w fun e w' => e = .returned (.bool (headOk c && revsOk c.bas c.revs)) /\ Below w.heap.size w w' := by
 obtain ⟨z1, z2, z3⟩ := wtL_parts hz
 obtain ⟨A, hA⟩ : ∃ b, headOk c = b := ⟨_, rfl⟩
 obtain ⟨B, hB⟩ : ∃ b, revsOk c.bas c.revs = b := ⟨_, rfl⟩
 obtain ⟨lp, hlp⟩ : ∃ l, c.revs.length = l := ⟨_, rfl⟩
 have E1 : Hid (∀ W, Calls Tryz.prog 221 #[.agg #[.string c.issuer, .int .i64 c.num, .int .i64 c.ths, .int .i64 c.nxt, .int .i64 c.bas]] W fun e w' => e = .returned (.bool A) /\ Below W.heap.size W w') := fun W => by rw [<- hA]; exact headRight_any c W z1
 have E2 : Hid (∀ W, Below w.heap.size w W -> Calls Tryz.prog 222 #[.agg #[.string c.issuer, .int .i64 c.num, .int .i64 c.ths, .int .i64 c.nxt, .int .i64 c.bas, .slice pa lp pc]] W fun e w' => e = .returned (.bool B) /\ Below W.heap.size W w') := fun W hb => by rw [<- hB, <- hlp]; exact revsRight_any c pa pc W (ha.below hb) z2
 rw [hlp, hA, hB]
 clear hA hB hlp ha
 unfold tdV
 go_enter Tryz.func140, Tryz.ntmps140
 go_wp2_with fail
 obtain ⟨V, hV⟩ : ∃ V, V = w.alloc (Obj.cells #[.string c.issuer, .int .i64 c.num, .int .i64 c.ths, .int .i64 c.nxt, .int .i64 c.bas, .slice pa lp pc] 154) := ⟨_, rfl⟩
 rw [<- hV]
 have G : Hid (Below w.heap.size w V /\ Blk V w.heap.size 154 #[.string c.issuer, .int .i64 c.num, .int .i64 c.ths, .int .i64 c.nxt, .int .i64 c.bas, .slice pa lp pc]) := by rw [hV]; exact ⟨(Below.refl _ _).alloc (Nat.le_refl _) _, Blk.new w _ _⟩
 clear hV
 refine (E1.out V).mono ?_
 rintro e V1 ⟨rfl, hb⟩
 have G1 : Hid (Below w.heap.size w V1 /\ Blk V1 w.heap.size 154 #[.string c.issuer, .int .i64 c.num, .int .i64 c.ths, .int .i64 c.nxt, .int .i64 c.bas, .slice pa lp pc]) := ⟨G.out.1.trans (hb.mono G.out.1.size), G.out.2.below hb G.out.2.lt⟩
 clear hb G
 cases A with
 | false =>
  go_wp2_with fail
  go_ret
  exact ⟨rfl, G1.out.1⟩
 | true =>
  have c0 : V1.cell? ⟨w.heap.size, 0, none⟩ = some (.string c.issuer) := G1.out.2.cell 0
  have c1 : V1.cell? ⟨w.heap.size, 1, none⟩ = some (.int .i64 c.num) := G1.out.2.cell 1
  have c2 : V1.cell? ⟨w.heap.size, 2, none⟩ = some (.int .i64 c.ths) := G1.out.2.cell 2
  have c3 : V1.cell? ⟨w.heap.size, 3, none⟩ = some (.int .i64 c.nxt) := G1.out.2.cell 3
  have c4 : V1.cell? ⟨w.heap.size, 4, none⟩ = some (.int .i64 c.bas) := G1.out.2.cell 4
  have c5 : V1.cell? ⟨w.heap.size, 5, none⟩ = some (.slice pa lp pc) := G1.out.2.cell 5
  go_wp2_with fail
  refine (E2.out V1 G1.out.1).mono ?_
  rintro e V2 ⟨rfl, hb⟩
  have G2 : Hid (Below w.heap.size w V2) := G1.out.1.trans (hb.mono G1.out.1.size)
  clear hb G1 c0 c1 c2 c3 c4 c5
  go_wp2_with fail
  go_ret
  exact ⟨by simp, G2.out⟩
set_option maxHeartbeats 3200000 in
theorem implCrlOk_any (c : Cl) (v : Value) (w : World) (hz : wtL c <= 1000000000) (ha : ClAt w v c) :
  Calls Tryz.prog 40 #[v] w fun e w' => e = .returned (.bool (crlOk c)) /\ Below w.heap.size w w' := by
 obtain ⟨pv, rfl, h1⟩ := ha
 obtain ⟨pa, pc, hpa⟩ : ∃ pa pc, pv = .slice pa c.revs.length pc := by obtain ⟨a, b, h, _⟩ := h1; exact ⟨a, b, h⟩
 subst hpa
 obtain ⟨A, hA⟩ : ∃ b, (headOk c && revsOk c.bas c.revs) = b := ⟨_, rfl⟩
 have HC : Hid (crlOk c = (A && decide (c.sig.size = 15))) := by show crlOk c = _; unfold crlOk; rw [<- hA, Bool.and_assoc]
 obtain ⟨lp, hlp⟩ : ∃ l, c.revs.length = l := ⟨_, rfl⟩
 have E1 : Hid (∀ W, Calls Tryz.prog 133 #[.agg #[.string c.issuer, .int .i64 c.num, .int .i64 c.ths, .int .i64 c.nxt, .int .i64 c.bas, .slice pa lp pc, .string c.sig]] W fun e w' => e = .returned (.agg #[.string c.issuer, .int .i64 c.num, .int .i64 c.ths, .int .i64 c.nxt, .int .i64 c.bas, .slice pa lp pc]) /\ Below W.heap.size W w') := fun W => tidingsOf_any c (.slice pa lp pc) W ⟨_, _, _, rfl⟩
 have E2 : Hid (∀ W, Below w.heap.size w W -> Calls Tryz.prog 140 #[.agg #[.string c.issuer, .int .i64 c.num, .int .i64 c.ths, .int .i64 c.nxt, .int .i64 c.bas, .slice pa lp pc]] W fun e w' => e = .returned (.bool A) /\ Below W.heap.size W w') := fun W hb => by rw [<- hA, <- hlp]; exact tidRight_any c pa pc W (h1.below hb) hz
 rw [hlp]
 clear hA hlp h1
 unfold clV
 go_enter Tryz.func40, Tryz.ntmps40
 go_wp2_with fail
 obtain ⟨V, hV⟩ : ∃ V, V = w.alloc (Obj.cells #[.string c.issuer, .int .i64 c.num, .int .i64 c.ths, .int .i64 c.nxt, .int .i64 c.bas, .slice pa lp pc, .string c.sig] 49) := ⟨_, rfl⟩
 rw [<- hV]
 have G : Hid (Below w.heap.size w V /\ Blk V w.heap.size 49 #[.string c.issuer, .int .i64 c.num, .int .i64 c.ths, .int .i64 c.nxt, .int .i64 c.bas, .slice pa lp pc, .string c.sig]) := by rw [hV]; exact ⟨(Below.refl _ _).alloc (Nat.le_refl _) _, Blk.new w _ _⟩
 clear hV
 refine (E1.out V).mono ?_
 rintro e V1 ⟨rfl, hb⟩
 have G1 : Hid (Below w.heap.size w V1 /\ Blk V1 w.heap.size 49 #[.string c.issuer, .int .i64 c.num, .int .i64 c.ths, .int .i64 c.nxt, .int .i64 c.bas, .slice pa lp pc, .string c.sig]) := ⟨G.out.1.trans (hb.mono G.out.1.size), G.out.2.below hb G.out.2.lt⟩
 clear hb G
 go_wp2_with fail
 refine (E2.out V1 G1.out.1).mono ?_
 rintro e V2 ⟨rfl, hb⟩
 have G2 : Hid (Below w.heap.size w V2 /\ Blk V2 w.heap.size 49 #[.string c.issuer, .int .i64 c.num, .int .i64 c.ths, .int .i64 c.nxt, .int .i64 c.bas, .slice pa lp pc, .string c.sig]) := ⟨G1.out.1.trans (hb.mono G1.out.1.size), G1.out.2.below hb G1.out.2.lt⟩
 clear hb G1
 have c6 : V2.cell? ⟨w.heap.size, 6, none⟩ = some (.string c.sig) := G2.out.2.cell 6
 cases A with
 | false =>
  go_wp2_with fail
  go_ret
  exact ⟨by rw [HC.out]; rfl, G2.out.1⟩
 | true =>
  by_cases s15 : c.sig.size = 15
  ·have si : (c.sig.size : Int) = 15 := by omega
   have HN : Hid (decide (c.sig.size = 15) = true) := decide_eq_true s15
   go_wp2_with fail
   go_ret
   exact ⟨by rw [HC.out, HN.out]; simp, G2.out.1⟩
  ·have si : ¬ (c.sig.size : Int) = 15 := by omega
   have HN : Hid (decide (c.sig.size = 15) = false) := decide_eq_false s15
   go_wp2_with fail
   go_ret
   exact ⟨by rw [HC.out, HN.out]; simp [si], G2.out.1⟩
end Go.Proofs.YtjgbmnhoajiabaaGreatDoor
namespace Go.Proofs.YtjgbmnhoajiabaaGreatDoor
open Go.RowKit Der
set_option linter.unusedVariables false
set_option maxHeartbeats 1600000 in
theorem plain_any (t : Int) (s : List UInt8) (kv : Value) (w : World) (hs : s.length <= 20000000) :
  Calls Tryz.prog 313 #[.agg #[.int .i64 t, .string ⟨s.toArray⟩, kv]] w fun e w' => e = .returned (.bool (plainOk t s)) /\ Below w.heap.size w w' := by
 have HL := one_laid w (.int .i64 t) (.string ⟨s.toArray⟩) kv 45
 by_cases h1 : t = 1
 ·subst h1
  have HN : Hid (plainOk 1 s = (s == [0] || s == [255])) := rfl
  by_cases e0 : s = [0]
  ·subst e0
   go_enter Tryz.func313, Tryz.ntmps313
   go_wp2_with fail
   go_ret
   exact ⟨by rw [HN.out]; rfl, (HL _ rfl).1⟩
  ·by_cases e1 : s = [255]
   ·subst e1
    go_enter Tryz.func313, Tryz.ntmps313
    go_wp2_with fail
    go_ret
    exact ⟨by rw [HN.out]; rfl, (HL _ rfl).1⟩
   ·have f0 : (s == [0]) = false := by simpa using e0
    have f1 : (s == [255]) = false := by simpa using e1
    have HR : Hid (plainOk 1 s = false) := by show plainOk 1 s = false; rw [HN.out, f0, f1]; rfl
    go_enter Tryz.func313, Tryz.ntmps313
    go_wp2_with fail
    go_ret
    exact ⟨by rw [HR.out]; rfl, (HL _ rfl).1⟩
 by_cases h2 : t = 2
 ·subst h2
  have hsz : (⟨s.toArray⟩ : ByteArray).size = s.length := by show s.toArray.size = _; simp
  by_cases hl : 1 <= s.length /\ s.length <= 5
  ·obtain ⟨b, r, rfl⟩ : ∃ b r, s = b :: r := by
    cases s with
    | nil => simp at hl
    | cons b r => exact ⟨b, r, rfl⟩
   have hg0 : ∀ h, (⟨(b :: r).toArray⟩ : ByteArray)[0]'h = b := fun h => rfl
   by_cases hb : 128 <= b.toNat
   ·have HR : Hid (plainOk 2 (b :: r) = false) := by
     show plainOk 2 (b :: r) = false
     unfold plainOk
     rw [if_neg (by decide), if_pos rfl]
     have : ¬ b < 128 := by rw [UInt8.lt_iff_toNat_lt]; simpa using hb
     simp [this]
    have hbi : (128 : Int) <= (b.toNat : Int) := by omega
    go_enter Tryz.func313, Tryz.ntmps313
    go_wp2_with fail
    refine (in_yes _ 1 5 _ (by simp at hl |-; omega) (by simp at hl |-; omega)).mono ?_
    rintro e w' ⟨rfl, rfl⟩
    go_wp2_with fail
    go_ret
    exact ⟨by rw [HR.out]; rfl, (HL _ rfl).1⟩
   ·have hbi : ¬ (128 : Int) <= (b.toNat : Int) := by omega
    have hblt : b < 128 := by rw [UInt8.lt_iff_toNat_lt]; simpa using hb
    by_cases hb0 : b.toNat = 0
    ·have hb00 : b = 0 := UInt8.toNat_inj.1 (by simpa using hb0)
     subst hb00
     cases r with
     | nil =>
      have HR : Hid (plainOk 2 [0] = true) := by show plainOk 2 [0] = true; decide
      go_enter Tryz.func313, Tryz.ntmps313
      go_wp2_with fail
      refine (in_yes _ 1 5 _ (by simp) (by simp)).mono ?_
      rintro e w' ⟨rfl, rfl⟩
      go_wp2_with fail
      go_ret
      exact ⟨by rw [HR.out]; rfl, (HL _ rfl).1⟩
     | cons c r =>
      have hg1 : ∀ h, (⟨(0 :: c :: r).toArray⟩ : ByteArray)[1]'h = c := fun h => rfl
      have hrl : ¬ ((r.length : Int) + 1 + 1 = 1) := by omega
      have HR : Hid (plainOk 2 (0 :: c :: r) = decide ((128 : Int) <= (c.toNat : Int))) := by
       show plainOk 2 (0 :: c :: r) = _
       unfold plainOk
       rw [if_neg (by decide), if_pos rfl]
       have h5 : r.length + 1 + 1 <= 5 := by simpa using hl.2
       have e : ((128 : UInt8) <= c) = ((128 : Int) <= (c.toNat : Int)) := by
        rw [UInt8.le_iff_toNat_le]
        show (128 <= c.toNat) = _
        exact propext ⟨fun h => by omega, fun h => by omega⟩
       simp [h5, e]
      go_enter Tryz.func313, Tryz.ntmps313
      go_wp2_with fail
      refine (in_yes _ 1 5 _ (by simp at hl |-; omega) (by simp at hl |-; omega)).mono ?_
      rintro e w' ⟨rfl, rfl⟩
      go_wp2_with fail
      go_ret
      exact ⟨by rw [HR.out]; rfl, (HL _ rfl).1⟩
    ·have hbz : ¬ (b.toNat : Int) = 0 := by omega
     have HR : Hid (plainOk 2 (b :: r) = true) := by
      show plainOk 2 (b :: r) = true
      unfold plainOk
      rw [if_neg (by decide), if_pos rfl]
      have h5 : r.length + 1 <= 5 := by simpa using hl.2
      have hne : b ≠ 0 := fun e => hb0 (by rw [e]; rfl)
      simp [hblt, h5, hne]
     go_enter Tryz.func313, Tryz.ntmps313
     go_wp2_with fail
     refine (in_yes _ 1 5 _ (by simp at hl |-; omega) (by simp at hl |-; omega)).mono ?_
     rintro e w' ⟨rfl, rfl⟩
     go_wp2_with fail
     go_ret
     exact ⟨by rw [HR.out]; rfl, (HL _ rfl).1⟩
  ·have HR : Hid (plainOk 2 s = false) := by
    show plainOk 2 s = false
    unfold plainOk
    rw [if_neg (by decide), if_pos rfl]
    by_cases h1 : 1 <= s.length
    ·have h5 : ¬ s.length <= 5 := fun h => hl ⟨h1, h⟩
     simp [h5]
    ·simp [h1]
   go_enter Tryz.func313, Tryz.ntmps313
   go_wp2_with fail
   refine (in_no _ 1 5 _ (by omega)).mono ?_
   rintro e w' ⟨rfl, rfl⟩
   go_wp2_with fail
   go_ret
   exact ⟨by rw [HR.out]; rfl, (HL _ rfl).1⟩
 by_cases h12 : t = 12
 ·subst h12
  obtain ⟨W2, hW2⟩ : ∃ W, W = w.alloc (Obj.cells #[Value.int IntKind.i64 12, Value.string { data := s.toArray }, kv] 45) := ⟨_, rfl⟩
  have HW := HL W2 hW2
  have c1 := HW.2.2.2.1
  have hb := HW.1
  have hsz : (⟨s.toArray⟩ : ByteArray).size = s.length := by show s.toArray.size = _; simp
  go_enter Tryz.func313, Tryz.ntmps313
  go_wp2_with fail
  rw [<- hW2]
  clear HL hW2 HW
  go_loopw [3] (fun iv wr => ∃ k : Nat, k <= s.length /\ iv = .int .i64 (k : Int) /\ wr = W2 /\ Hid (∀ j (hj : j < s.length), j < k -> 32 <= s[j].toNat /\ s[j].toNat <= 126)) (fun iv _ => s.length - (intOf iv).toNat)
  case atStart => exact ⟨0, Nat.zero_le _, rfl, rfl, fun j _ h => absurd h (Nat.not_lt_zero _)⟩
  case round =>
   obtain ⟨k, hk, rfl, rfl, HP⟩ := hrel
   by_cases hlt : k < s.length
   ·have hlti : (k : Int) < (s.length : Int) := by omega
    have hk0 : (0 : Int) <= (k : Int) := by omega
    obtain ⟨b, hbk⟩ : ∃ b, s[k] = b := ⟨_, rfl⟩
    have hgk : ∀ h, (⟨s.toArray⟩ : ByteArray)[k]'h = b := fun h => by rw [<- hbk]; rfl
    by_cases hok : 32 <= b.toNat /\ b.toNat <= 126
    ·have HN : Hid (∀ j (hj : j < s.length), j < k + 1 -> 32 <= s[j].toNat /\ s[j].toNat <= 126) := fun j hj hjk => by
      by_cases e : j = k
      ·subst e; rw [hbk]; exact hok
      ·exact HP.out j hj (by omega)
     have h1 : ¬ (b.toNat : Int) < 32 := by omega
     have h2 : ¬ (126 : Int) < (b.toNat : Int) := by omega
     clear hbk HP hok
     go_wp2_with fail
     go_roundw
     case rel => exact ⟨k + 1, by omega, by go_num, by trivial, HN.out⟩
     case measure => simp [intOf]; omega
    ·have HR : Hid (plainOk 12 s = false) := by
      show plainOk 12 s = false
      unfold plainOk
      rw [if_neg (by decide), if_neg (by decide), if_pos rfl, List.all_eq_false]
      refine ⟨s[k], List.getElem_mem hlt, ?_⟩
      rw [hbk]
      simp only [Bool.and_eq_true, decide_eq_true_eq, UInt8.le_iff_toNat_le]
      exact fun h => hok ⟨h.1, h.2⟩
     clear HP
     by_cases h1 : (b.toNat : Int) < 32
     ·go_wp2_with fail
      go_ret
      exact ⟨by rw [HR.out]; rfl, hb⟩
     ·have h2 : (126 : Int) < (b.toNat : Int) := by omega
      go_wp2_with fail
      go_ret
      exact ⟨by rw [HR.out]; rfl, hb⟩
   ·have hlti : ¬ (k : Int) < (s.length : Int) := by omega
    have HR : Hid (plainOk 12 s = true) := by
     show plainOk 12 s = true
     unfold plainOk
     rw [if_neg (by decide), if_neg (by decide), if_pos rfl, List.all_eq_true]
     intro b hbm
     obtain ⟨j, hj, rfl⟩ := List.getElem_of_mem hbm
     have := HP.out j hj (by omega)
     simp only [Bool.and_eq_true, decide_eq_true_eq, UInt8.le_iff_toNat_le]
     exact this
    go_wp2_with fail
    go_ret
    exact ⟨by rw [HR.out]; rfl, hb⟩
 ·have HN : Hid (plainOk t s = decide (t = 4)) := by
   show plainOk t s = decide (t = 4)
   unfold plainOk
   rw [if_neg h1, if_neg h2, if_neg h12]
  go_enter Tryz.func313, Tryz.ntmps313
  go_wp2_with fail
  go_ret
  exact ⟨by rw [HN.out]; rfl, (HL _ rfl).1⟩
def RightC (n : Nat) : Prop := ∀ (x : It n) (v : Value) (d : Nat) (w : World), ItAt w n v x -> szI n x <= 20000000 -> d <= 6 -> Calls Tryz.prog 255 #[v, .int .i64 (d : Int)] w fun e w' => e = .returned (.bool (rightI n x d)) /\ Below w.heap.size w w'
set_option maxHeartbeats 3200000 in
theorem right_step (n : Nat) (IH : Hid (RightC n)) (t : Int) (s : List UInt8) (ks : List (It n)) (a : Value) (d : Nat) (w : World) (hx : KidsAt w (ItAt w n) a ks) (hz : szI (n + 1) (It.mk t s ks) <= 20000000) (hd : d <= 6) :
  Calls Tryz.prog 255 #[.agg #[.int .i64 t, .string ⟨s.toArray⟩, a], .int .i64 (d : Int)] w fun e w' => e = .returned (.bool (rightI (n + 1) (It.mk t s ks) d)) /\ Below w.heap.size w w' := by
 have hx0 := hx
 obtain ⟨ax, cx, rfl, _⟩ := hx0
 have hsz := szI_kid hz
 obtain ⟨l, hle⟩ : ∃ l, ks.length = l := ⟨_, rfl⟩
 have HE : Hid (ks.length = l /\ szI (n + 1) (It.mk t s ks) <= 20000000) := ⟨hle, hz⟩
 have hlb : l <= 20000000 := by rw [<- hle]; exact hsz.2.1
 rw [hle] at hx |-
 have HX : Hid (KidsAt w (ItAt w n) (.slice ax l cx) ks) := hx
 have HL := one_laid w (.int .i64 t) (.string ⟨s.toArray⟩) (.slice ax l cx) 45
 have HN : Hid (rightI (n + 1) (It.mk t s ks) d = (if t ≠ 48 then decide (ks.length = 0) && plainOk t s else decide (s.length = 0) && decide (ks.length <= 40) && decide (d < 6) && ks.all fun y => rightI n y (d + 1))) := rfl
 obtain ⟨W2, hW2⟩ : ∃ W, W = w.alloc (Obj.cells #[Value.int IntKind.i64 t, Value.string { data := s.toArray }, Value.slice ax l cx] 45) := ⟨_, rfl⟩
 have HW := HL W2 hW2
 have HW2 : Hid (Below w.heap.size w W2 /\ w.heap.size < W2.heap.size /\ W2.cell? ⟨w.heap.size, 2, none⟩ = some (.slice ax l cx)) := ⟨HW.1, HW.2.1, HW.2.2.2.2⟩
 clear hx hz hle
 by_cases h48 : t = 48
 ·subst h48
  have hssz : (⟨s.toArray⟩ : ByteArray).size = s.length := by show s.toArray.size = _; simp
  by_cases hs0 : s = []
  ·subst hs0
   by_cases hl40 : l <= 40
   ·by_cases hd6 : d < 6
    ·have hl40i : ¬ (40 : Int) < (l : Int) := by omega
     have hd6i : ¬ (6 : Int) <= (d : Int) := by omega
     have hdw : IntKind.i64.wrap ((d : Int) + 1) = ((d + 1 : Nat) : Int) := by rw [IntKind.wrap_i64]; omega
     have HR0 : Hid (rightI (n + 1) (It.mk 48 [] ks) d = ks.all fun y => rightI n y (d + 1)) := by
      show rightI (n + 1) (It.mk 48 [] ks) d = _
      rw [HN.out, HE.out.1]
      simp [hl40, hd6]
     clear HL HW hsz
     go_enter Tryz.func255, Tryz.ntmps255
     go_wp2_with fail
     rw [<- hW2]
     clear hW2
     go_loopw [5] (fun iv wr => ∃ k : Nat, k <= l /\ iv = .int .i64 (k : Int) /\ Hid (Below W2.heap.size W2 wr /\ ∀ j (hj : j < ks.length), j < k -> rightI n ks[j] (d + 1) = true)) (fun iv _ => l - (intOf iv).toNat)
     case atStart => exact ⟨0, Nat.zero_le _, rfl, Below.refl _ _, fun j _ h => absurd h (Nat.not_lt_zero _)⟩
     case round =>
      obtain ⟨k, hk, rfl, HB⟩ := hrel
      have p1 : wr.cell? ⟨w.heap.size, 2, none⟩ = some (.slice ax l cx) := (HB.out.1.cell (p := ⟨w.heap.size, 2, none⟩) HW2.out.2.1).trans HW2.out.2.2
      have HWR : Hid (Below w.heap.size w wr) := HW2.out.1.trans (HB.out.1.mono HW2.out.1.size)
      by_cases hlt : k < l
      ·have hlti : (k : Int) < (l : Int) := by omega
       have hk0 : (0 : Int) <= (k : Int) := by omega
       have hj1 : k < ks.length := by rw [HE.out.1]; exact hlt
       obtain ⟨g1, o1, t1, s1, k1, hax, hg1, hc1, hi1⟩ := HX.out.get hj1
       obtain ⟨c10, c11, c12⟩ := Cells3.below (w' := wr) (t := t1) (s := s1) (k := k1) hc1 hg1 HWR.out
       have HR := IH.out ks[k] (.agg #[t1, s1, k1]) (d + 1) wr (ItAt.below HWR.out hi1) ((szI_kid HE.out.2).2.2 _ (List.getElem_mem hj1)) (by omega)
       rw [show ((d + 1 : Nat) : Int) = (d : Int) + 1 by omega] at HR
       subst hax
       clear hc1 hi1 hg1
       cases hb : rightI n ks[k] (d + 1) with
       | true =>
        rw [hb] at HR
        have HT : Hid (∀ j (hj : j < ks.length), j < k + 1 -> rightI n ks[j] (d + 1) = true) := fun j hj hjk => by
         by_cases e : j = k
         ·subst e; exact hb
         ·exact HB.out.2 j hj (by omega)
        clear hb
        go_wp2_with fail
        refine HR.mono ?_
        rintro e w3 ⟨rfl, hb3⟩
        have H3 : Hid (Below W2.heap.size W2 w3) := HB.out.1.trans (hb3.mono HB.out.1.size)
        clear HR hb3 c10 c11 c12 p1
        go_wp2_with fail
        exact ⟨⟨k + 1, by omega, by go_num, H3.out, HT.out⟩, by simp [intOf]; omega⟩
       | false =>
        rw [hb] at HR
        have HF : Hid (rightI (n + 1) (It.mk 48 [] ks) d = false) := by
         show rightI (n + 1) (It.mk 48 [] ks) d = false
         rw [HR0.out, List.all_eq_false]
         exact ⟨ks[k], List.getElem_mem hj1, by rw [hb]; simp⟩
        clear hb
        go_wp2_with fail
        refine HR.mono ?_
        rintro e w3 ⟨rfl, hb3⟩
        have H3 : Hid (Below w.heap.size w w3) := HWR.out.trans (hb3.mono HWR.out.size)
        clear HR hb3 c10 c11 c12 p1
        go_wp2_with fail
        go_ret
        exact ⟨by rw [HF.out]; rfl, H3.out⟩
      ·have hlti : ¬ (k : Int) < (l : Int) := by omega
       have HF : Hid (rightI (n + 1) (It.mk 48 [] ks) d = true) := by
        show rightI (n + 1) (It.mk 48 [] ks) d = true
        rw [HR0.out, List.all_eq_true]
        intro y hy
        obtain ⟨j, hj, rfl⟩ := List.getElem_of_mem hy
        exact HB.out.2 j hj (by have := HE.out.1; omega)
       go_wp2_with fail
       go_ret
       exact ⟨by rw [HF.out]; rfl, HWR.out⟩
    ·have hl40i : ¬ (40 : Int) < (l : Int) := by omega
     have hd6i : (6 : Int) <= (d : Int) := by omega
     have HF : Hid (rightI (n + 1) (It.mk 48 [] ks) d = false) := by
      show rightI (n + 1) (It.mk 48 [] ks) d = false
      rw [HN.out]
      simp [hd6]
     go_enter Tryz.func255, Tryz.ntmps255
     go_wp2_with fail
     go_ret
     exact ⟨by rw [HF.out]; rfl, (HL _ rfl).1⟩
   ·have hl40i : (40 : Int) < (l : Int) := by omega
    have HF : Hid (rightI (n + 1) (It.mk 48 [] ks) d = false) := by
     show rightI (n + 1) (It.mk 48 [] ks) d = false
     rw [HN.out, HE.out.1]
     simp [hl40]
    go_enter Tryz.func255, Tryz.ntmps255
    go_wp2_with fail
    go_ret
    exact ⟨by rw [HF.out]; rfl, (HL _ rfl).1⟩
  ·have hsn : (s == []) = false := by simpa using hs0
   have hsl : ¬ s.length = 0 := fun h => hs0 (List.eq_nil_of_length_eq_zero h)
   have HF : Hid (rightI (n + 1) (It.mk 48 s ks) d = false) := by
    show rightI (n + 1) (It.mk 48 s ks) d = false
    rw [HN.out]
    simp [hsl]
   go_enter Tryz.func255, Tryz.ntmps255
   go_wp2_with fail
   go_ret
   exact ⟨by rw [HF.out]; rfl, (HL _ rfl).1⟩
 ·have h48b : (t != 48) = true := by simpa using h48
  by_cases hl0 : l = 0
  ·subst hl0
   have HF : Hid (rightI (n + 1) (It.mk t s ks) d = plainOk t s) := by
    show rightI (n + 1) (It.mk t s ks) d = plainOk t s
    rw [HN.out, HE.out.1, if_pos h48]
    simp
   have EP := plain_any t s (.slice ax 0 cx) W2 hsz.1
   obtain ⟨P, hP⟩ : ∃ P, plainOk t s = P := ⟨_, rfl⟩
   rw [hP] at EP HF
   clear hP HL
   go_enter Tryz.func255, Tryz.ntmps255
   go_wp2_with fail
   rw [<- hW2]
   refine EP.mono ?_
   rintro e w3 ⟨rfl, hb3⟩
   have H3 : Hid (Below w.heap.size w w3) := HW2.out.1.trans (hb3.mono HW2.out.1.size)
   clear hb3 EP HW hW2
   go_wp2_with fail
   go_ret
   exact ⟨by rw [HF.out]; rfl, H3.out⟩
  ·have hl0i : ¬ (l : Int) = 0 := by omega
   have HF : Hid (rightI (n + 1) (It.mk t s ks) d = false) := by
    show rightI (n + 1) (It.mk t s ks) d = false
    rw [HN.out, HE.out.1, if_pos h48]
    simp [hl0]
   go_enter Tryz.func255, Tryz.ntmps255
   go_wp2_with fail
   go_ret
   exact ⟨by rw [HF.out]; rfl, (HL _ rfl).1⟩
theorem itRight_any : ∀ (n : Nat), RightC n
 | 0 => fun _ _ _ _ h _ _ => h.elim
 | n + 1 => fun x v d w hx hz hd => by
  obtain ⟨kx, rfl, hkx⟩ := hx
  exact right_step n (itRight_any n) (It.tag x) (It.text x) (It.kids x) kx d w hkx hz hd
theorem ItAt.parts {w : World} : ∀ {n : Nat} {v : Value} {x : It n}, ItAt w n v x -> ∃ (t : Int) (s : ByteArray) (ao : Option Addr) (l cap : Nat), v = .agg #[.int .i64 t, .string s, .slice ao l cap]
 | 0, _, _, h => h.elim
 | _ + 1, _, x, ⟨k, hv, hk⟩ => by
  obtain ⟨ao, cap, rfl, _⟩ := hk
  exact ⟨_, _, _, _, _, hv⟩
set_option maxHeartbeats 800000 in
theorem specItemOk_any (n : Nat) (x : It n) (v : Value) (w : World) (hx : ItAt w n v x) (hz : szI n x <= 20000000) : Calls Tryz.prog 190 #[v] w fun e w' => e = .returned (.bool (rightI n x 0)) /\ Below w.heap.size w w' := by
 obtain ⟨t, s, ao, l, cap, rfl⟩ := hx.parts
 obtain ⟨W2, hW2⟩ : ∃ W, W = w.alloc (Obj.cells #[Value.int IntKind.i64 t, Value.string s, Value.slice ao l cap] 45) := ⟨_, rfl⟩
 have HW := one_laid w (.int .i64 t) (.string s) (.slice ao l cap) 45 W2 hW2
 have E := itRight_any n x _ 0 W2 (ItAt.below HW.1 hx) hz (by omega)
 obtain ⟨P, hP⟩ : ∃ P, rightI n x 0 = P := ⟨_, rfl⟩
 rw [hP] at E |-
 clear hP hx hz
 go_enter Tryz.func190, Tryz.ntmps190
 go_wp2_with fail
 rw [<- hW2]
 refine E.mono ?_
 rintro e w3 ⟨rfl, hb3⟩
 have H3 : Hid (Below w.heap.size w w3) := HW.1.trans (hb3.mono HW.1.size)
 clear hb3 E HW hW2
 go_wp2_with fail
 go_ret
 exact ⟨rfl, H3.out⟩
end Go.Proofs.YtjgbmnhoajiabaaGreatDoor
