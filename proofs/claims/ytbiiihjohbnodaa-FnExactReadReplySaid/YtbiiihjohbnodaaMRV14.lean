/-
  Texts of the proof.
-/
import Derived.Test.YtbiiihjohbnodaaMRV12
set_option maxRecDepth 100000
set_option maxHeartbeats 25600000
namespace Go.Proofs.Ytbiiihjohbnodaa
open Go.RowKit
set_option linter.unusedVariables false
def tgOk (l : List ByteArray) : Bool := decide (∀ j, j < l.length -> (l.getD j ByteArray.empty).size <= 400)
theorem tg_no {l : List ByteArray} {k : Nat} (h : k < l.length) (h2 : ¬ (l.getD k ByteArray.empty).size <= 400) : tgOk l = false := decide_eq_false fun q => h2 (q k h)
theorem tg_yes {l : List ByteArray} (h : ∀ j, j < l.length -> (l.getD j ByteArray.empty).size <= 400) : tgOk l = true := decide_eq_true h
def txOk (l : List ByteArray) (m : Nat) : Bool := tgOk l && decide (l.length <= m)
def IxP (b : Bool) (w : World) (e : Ending) (w' : World) : Prop := ∃ n : Int, e = .returned (.int .i64 n) /\ decide (0 <= n) = b /\ Below w.heap.size w w'
theorem tooLong_any (x : ByteArray) (w : World) (hx : x.size <= 1000000000) :
  Calls Try.prog 106 #[.string x] w fun e w' => e = .returned (.bool (decide (400 < x.size))) /\ Below w.heap.size w w' := by
 by_cases h : 400 < x.size
 ·have hi : (400 : Int) < (x.size : Int) := by omega
  have HF : Hid (decide (400 < x.size) = true) := decide_eq_true h
  clear h
  go_enter Try.func106, Try.ntmps106
  go_wp2_with fail
  go_ret
  exact ⟨by rw [HF.out]; rfl, Below.refl _ _⟩
 ·have hi : ¬ (400 : Int) < (x.size : Int) := by omega
  have HF : Hid (decide (400 < x.size) = false) := decide_eq_false h
  clear h
  go_enter Try.func106, Try.ntmps106
  go_wp2_with fail
  go_ret
  exact ⟨by rw [HF.out]; rfl, Below.refl _ _⟩
theorem indexLong_any (l : List ByteArray) (v : Value) (w : World) (hz : totT l <= 1000000000) (h1 : TxtAt w v l) :
  Calls Try.prog 121 #[v, .func (.func 106) #[] #[]] w fun e w' => IxP (!tgOk l) w e w' := by
 obtain ⟨pa, pc, rfl, hcell⟩ := h1
 have hll := Nat.le_trans (tot_len l) hz
 obtain ⟨lp, hlp⟩ := zE (l.length)
 have HT : Hid ((∀ j, j < l.length -> ∃ g, pa = some ⟨g, 0, none⟩ /\ g < w.heap.size /\ w.cell? ⟨g, j, none⟩ = some (.string (l.getD j ByteArray.empty))) /\ l.length = lp /\ totT l <= 1000000000) := ⟨hcell, hlp, hz⟩
 rw [hlp] at hll |-
 clear hcell hlp hz
 go_enter Try.func121, Try.ntmps121
 go_wp2_with fail
 go_loopw [8] (fun iv wr => ∃ k : Nat, k <= lp /\ iv = .int .i64 k /\ Hid (∀ j, j < k -> (l.getD j ByteArray.empty).size <= 400) /\ Hid (Below w.heap.size w wr)) (fun iv _ => lp - (intOf iv).toNat)
 case atStart => exact ⟨0, Nat.zero_le _, rfl, fun j hj => absurd hj (Nat.not_lt_zero _), Below.refl _ _⟩
 case round =>
  obtain ⟨k, hk, rfl, HL, G1⟩ := hrel
  by_cases hlt : k < lp
  ·obtain ⟨g, hpg, hgw, hcs⟩ := HT.out.1 k (by rw [HT.out.2.1]; exact hlt)
   have hc1 : wr.cell? ⟨g, k, none⟩ = some (.string (l.getD k ByteArray.empty)) := (G1.out.cell (p := ⟨g, k, none⟩) hgw).trans hcs
   have hsx : (l.getD k ByteArray.empty).size <= 1000000000 := by
    have hm : l.getD k ByteArray.empty ∈ l := by rw [List.getD_eq_getElem?_getD, List.getElem?_eq_getElem (by rw [HT.out.2.1]; exact hlt)]; exact List.getElem_mem _
    exact Nat.le_trans (tot_mem l _ hm) HT.out.2.2
   have hki : (k : Int) < (lp : Int) := by omega
   have hk0 : (0 : Int) <= (k : Int) := by omega
   obtain ⟨x, hx⟩ := zE (l.getD k ByteArray.empty)
   rw [hx] at hc1 hsx
   have HX : Hid (l.getD k ByteArray.empty = x) := hx
   subst hpg
   clear hcs hx hgw
   have E := tooLong_any x wr hsx
   by_cases h4 : 400 < x.size
   ·rw [decide_eq_true h4] at E
    have HF : Hid (tgOk l = false) := tg_no (k := k) (by rw [HT.out.2.1]; exact hlt) (by rw [HX.out]; omega)
    clear h4 hsx
    go_wp2_with fail
    refine E.mono ?_
    rintro e w2 ⟨rfl, hb⟩
    have G2 : Hid (Below w.heap.size w w2) := G1.out.trans (hb.mono G1.out.size)
    clear E hb G1
    go_wp2_with fail
    go_ret
    exact ⟨_, rfl, by rw [HF.out]; exact decide_eq_true hk0, G2.out⟩
   ·rw [decide_eq_false h4] at E
    have HN : Hid (∀ j, j < k + 1 -> (l.getD j ByteArray.empty).size <= 400) := fun j hj => by
     rcases Nat.lt_or_ge j k with h | h
     ·exact HL.out j h
     ·have : j = k := by omega
      subst this
      rw [HX.out]; omega
    clear HL h4 hsx
    go_wp2_with fail
    refine E.mono ?_
    rintro e w2 ⟨rfl, hb⟩
    have G2 : Hid (Below w.heap.size w w2) := G1.out.trans (hb.mono G1.out.size)
    clear E hb G1
    go_wp2_with fail
    go_roundw
    case rel => exact ⟨k + 1, by omega, by go_num, HN, G2⟩
    case measure => simp [intOf]; omega
  ·have hkl : lp = k := by omega
   subst hkl
   have HF : Hid (tgOk l = true) := tg_yes (fun j hj => HL.out j (by rw [<- HT.out.2.1]; exact hj))
   go_wp2_with fail
   go_ret
   exact ⟨_, rfl, by rw [HF.out]; rfl, G1.out⟩
theorem containsLong_any (l : List ByteArray) (v : Value) (w : World) (hz : totT l <= 1000000000) (h1 : TxtAt w v l) :
  Calls Try.prog 107 #[v, .func (.func 106) #[] #[]] w fun e w' => e = .returned (.bool (!tgOk l)) /\ Below w.heap.size w w' := by
 have E := indexLong_any l v w hz h1
 obtain ⟨pa, pc, rfl, -⟩ := h1
 obtain ⟨B, hB⟩ := zE ((!tgOk l))
 rw [hB] at E |-
 clear hB hz
 go_enter Try.func107, Try.ntmps107
 go_wp2_with fail
 refine E.mono ?_
 rintro e w2 ⟨n, rfl, hn, hb⟩
 have G2 : Hid (Below w.heap.size w w2) := hb
 clear E hb
 have HN : Hid (decide (0 <= n) = B) := hn
 clear hn
 go_wp2_with fail
 go_ret
 exact ⟨by show Ending.returned (.bool (decide (0 <= n))) = _; rw [HN.out], G2.out⟩
theorem textsFit_any (l : List ByteArray) (v : Value) (m : Nat) (w : World) (hz : totT l <= 1000000000) (h1 : TxtAt w v l) :
  Calls Try.prog 78 #[.int .i64 (m : Int), v] w fun e w' => e = .returned (.bool (txOk l m)) /\ Below w.heap.size w w' := by
 have E := containsLong_any l v w hz h1
 have hll := Nat.le_trans (tot_len l) hz
 obtain ⟨pa, pc, rfl, -⟩ := h1
 obtain ⟨lp, hlp⟩ := zE (l.length)
 obtain ⟨B, hB⟩ := zE (tgOk l)
 have HT : Hid (txOk l m = (B && decide (lp <= m))) := by show txOk l m = _; unfold txOk; rw [hB, hlp]
 rw [hlp] at E hll |-
 rw [hB] at E
 clear hB hz hlp
 by_cases hm : lp <= m
 ·have hmi : (lp : Int) <= (m : Int) := by omega
  have HF : Hid (txOk l m = B) := by show txOk l m = B; rw [HT.out, decide_eq_true hm]; simp
  go_enter Try.func78, Try.ntmps78
  go_wp2_with fail
  refine E.mono ?_
  rintro e w2 ⟨rfl, hb⟩
  have G2 : Hid (Below w.heap.size w w2) := hb
  clear E hb HT
  cases B with
  | false =>
   go_wp2_with fail
   go_ret
   exact ⟨by rw [HF.out]; rfl, G2.out⟩
  | true =>
   go_wp2_with fail
   go_ret
   exact ⟨by rw [HF.out]; rfl, G2.out⟩
 ·have hmi : ¬ (lp : Int) <= (m : Int) := by omega
  have HF : Hid (txOk l m = false) := by show txOk l m = false; rw [HT.out, decide_eq_false hm]; simp
  go_enter Try.func78, Try.ntmps78
  go_wp2_with fail
  go_ret
  exact ⟨by rw [HF.out]; rfl, Below.refl _ _⟩
theorem upTo_any (hi n : Int) (w : World) : Calls Try.prog 45 #[.int .i64 hi, .int .i64 n] w fun e w' => e = .returned (.bool (inB n 0 hi)) /\ Below w.heap.size w w' := by
 by_cases h : 0 <= n
 ·by_cases h2 : n <= hi
  ·have HB : Hid (inB n 0 hi = true) := decide_eq_true ⟨h, h2⟩
   go_enter Try.func45, Try.ntmps45
   go_wp2_with fail
   go_ret
   exact ⟨by rw [HB.out]; simp [*], Below.refl _ _⟩
  ·have HB : Hid (inB n 0 hi = false) := decide_eq_false (fun q => h2 q.2)
   go_enter Try.func45, Try.ntmps45
   go_wp2_with fail
   go_ret
   exact ⟨by rw [HB.out]; simp [*], Below.refl _ _⟩
 ·have HB : Hid (inB n 0 hi = false) := decide_eq_false (fun q => h q.1)
  go_enter Try.func45, Try.ntmps45
  go_wp2_with fail
  go_ret
  exact ⟨by rw [HB.out]; simp [*], Below.refl _ _⟩
end Go.Proofs.Ytbiiihjohbnodaa
namespace Go.Proofs.Ytbiiihjohbnodaa
open Go.RowKit Der
set_option linter.unusedVariables false
theorem bytsI_any (n : Nat) (ls : List ByteArray) (v : Value) (w : World) (hz : ls.length <= 20000000) (hwd : WdT ls) (hx : TxtAt w v ls) :
  Calls Try.prog 48 #[v] w fun e w' => ToIt w (n + 1) (lstJ (ls.map bytJ)) e w' := by
 obtain ⟨ax, cx, rfl, hcell⟩ := id hx
 obtain ⟨l, hle⟩ := zE (ls.length)
 have HX : Hid ((∀ j, j < ls.length -> ∃ g, ax = some ⟨g, 0, none⟩ /\ g < w.heap.size /\ w.cell? ⟨g, j, none⟩ = some (.string (ls.getD j ByteArray.empty))) /\ ls.length = l /\ WdT ls) := ⟨hcell, hle, hwd⟩
 have hlb : l <= 20000000 := by rw [<- hle]; exact hz
 rw [hle]
 clear hx hz hle hcell hwd
 obtain ⟨ks, hks⟩ : ∃ ks : List (It (n + 1)), ls.map bytJ = ks := ⟨_, rfl⟩
 rw [hks]
 have HK0 : Hid (ls.map bytJ = ks /\ ks.length = l) := ⟨hks, by rw [<- hks, List.length_map]; exact HX.out.2.1⟩
 clear hks
 go_enter Try.func48, Try.ntmps48
 go_wp2_with fail
 obtain ⟨W3, hW3⟩ : ∃ W, W = (w.alloc (Obj.cells #[Value.int IntKind.i64 0, Value.string { data := #[] }, Value.slice none 0 0] 67)).alloc (Obj.cells #[Value.int IntKind.i64 48, Value.string { data := #[] }, Value.slice none 0 0] 67) := ⟨_, rfl⟩
 rw [<- hW3]
 have H3 : Hid (Below w.heap.size w W3 /\ W3.heap.size = w.heap.size + 2 /\ Blk3 W3 w.heap.size (.int .i64 0) (.string ⟨#[]⟩) (.slice none 0 0) /\ Blk3 W3 (w.heap.size + 1) (.int .i64 48) (.string ⟨#[]⟩) (.slice none 0 0)) := two_blk w _ _ _ _ _ _ W3 hW3
 clear hW3
 go_loopw [4] (fun iv wr => ∃ k : Nat, k <= l /\ iv = .int .i64 k /\ Hid (∃ kv : Value, Blk3 wr w.heap.size (.int .i64 0) (.string ⟨#[]⟩) (.slice none 0 0) /\ Blk3 wr (w.heap.size + 1) (.int .i64 48) (.string ⟨#[]⟩) kv /\ GrowK wr (w.heap.size + 2) n kv (ks.take k) /\ Below w.heap.size w wr /\ w.heap.size + 2 <= wr.heap.size)) (fun iv _ => l - (intOf iv).toNat)
 case atStart => exact ⟨0, Nat.zero_le _, rfl, _, H3.out.2.2.1, H3.out.2.2.2, GrowK.nil _ _ _, H3.out.1, by rw [H3.out.2.1]; exact Nat.le_refl _⟩
 case round =>
  obtain ⟨k, hk, rfl, HR⟩ := hrel
  obtain ⟨kv, hr1, hr2, hrG, hrB, hrs⟩ := HR.out
  have HK : Hid (Blk3 wr w.heap.size (.int .i64 0) (.string ⟨#[]⟩) (.slice none 0 0) /\ Blk3 wr (w.heap.size + 1) (.int .i64 48) (.string ⟨#[]⟩) kv /\ GrowK wr (w.heap.size + 2) n kv (ks.take k) /\ Below w.heap.size w wr /\ w.heap.size + 2 <= wr.heap.size) := ⟨hr1, hr2, hrG, hrB, hrs⟩
  clear HR hr1 hr2 hrG hrB hrs H3
  by_cases hlt : k < l
  ·have hlti : (k : Int) < (l : Int) := by omega
   have hk0 : (0 : Int) <= (k : Int) := by omega
   have hj0 : k < ls.length := by rw [HX.out.2.1]; exact hlt
   have hj1 : k < ks.length := by rw [HK0.out.2]; exact hlt
   obtain ⟨g1, hax, hg1, hc1⟩ := HX.out.1 k hj0
   have c10 : wr.cell? ⟨g1, k, none⟩ = some (.string (ls.getD k ByteArray.empty)) := (HK.out.2.2.2.1.cell (p := ⟨g1, k, none⟩) hg1).trans hc1
   have hm : (ls.getD k ByteArray.empty) ∈ ls := by rw [List.getD_eq_getElem?_getD, List.getElem?_eq_getElem hj0]; exact List.getElem_mem _
   obtain ⟨x, hxe⟩ := zE ((ls.getD k ByteArray.empty))
   rw [hxe] at c10 hm
   have hkx : ks[k] = bytJ x := by
    rw [<- hxe]
    have h := HK0.out.1
    subst h
    simp [List.getD, hj0]
   have E := bytes_any x wr.drew
   obtain ⟨s3, hs3⟩ : ∃ s3 : ByteArray, x = s3 := ⟨_, rfl⟩
   have HT : Hid (It.tag ks[k] = 4 /\ (⟨(It.text ks[k]).toArray⟩ : ByteArray) = s3 /\ It.kids ks[k] = []) := by
    rw [hkx]
    exact ⟨rfl, by rw [<- hs3]; show (⟨x.data.toList.toArray⟩ : ByteArray) = x; simp, rfl⟩
   have E3 : Calls Try.prog 66 #[.string x] wr.drew fun e w' => e = .returned (.agg #[.int .i64 4, .string s3, .slice none 0 0]) /\ Below wr.heap.size wr w' := by
    refine E.mono ?_
    rintro e w' ⟨rfl, hb⟩
    exact ⟨by rw [<- hs3], (Below.refl wr.heap.size wr).drew.trans hb⟩
   obtain ⟨⟨_, _, y2⟩, fy⟩ := cell_in HK.out.2.1
   have htl : (ks.take k).length = k := by rw [List.length_take]; omega
   have HG1 : Hid (g1 < w.heap.size) := hg1
   have HNE : Hid (∀ q, q < w.heap.size + 2 -> some q ≠ kv.ownBlock) := fun q hq e => by have := (HK.out.2.2.1.lt q e.symm).1; omega
   subst hax
   clear hc1 hg1 hxe hkx hm E hs3
   go_wp2_with fail
   have hcs : wr.cell? ⟨w.heap.size + 1, 2, none⟩ = some kv /\ wr.cell? ⟨g1, k, none⟩ = some (.string x) := ⟨y2, c10⟩
   go_region_law (first
    | (refine step_call rfl 66 _ _ rfl #[.string x] rfl (by kernel_rfl) ?_; refine E3.mono ?_; rintro e w3 ⟨rfl, hb3⟩; have ho3 : OwnK w3 wr.heap.size n (.slice none 0 0) (It.kids ks[k]) [] := (by rw [HT.out.2.2]; exact own_none _ _ _); have hc3 := both_below hcs (by have := HK.out.2.2.2.2; omega) (by have := HG1.out; have := HK.out.2.2.2.1.size; omega) hb3; have hy3 := hc3.1; have hc4 := fun o => both_below hcs (by have := HK.out.2.2.2.2; omega) (by have := HG1.out; have := HK.out.2.2.2.1.size; omega) (hb3.alloc hb3.size o); have hy4 := fun o => (hc4 o).1; clear hc3; dsimp only)
    | (refine step_append_item0 rfl _ _ rfl (w.heap.size + 2) n kv (ks.take k) ks[k] 4 s3 (.slice none 0 0) [] HT.out.1 HT.out.2.1 rfl _ rfl rfl HK.out.2.2.1 hb3 ho3 HK.out.2.2.2.2 (by omega) ?_; intro g cap w6 hG6 hgrow6; have hy6 := (both_grown (hc4 _) hgrow6 (HNE.out _ (by omega)) (HNE.out _ (by have := HG1.out; omega))).1; have fz6 := (cell_in ((HK.out.2.1.below (hb3.alloc hb3.size _)).grown hgrow6 (HNE.out _ (by omega)))).2))
   all_goals (
    have H6 : Hid (Blk3 w6 w.heap.size (.int .i64 0) (.string ⟨#[]⟩) (.slice none 0 0) /\ Blk3 w6 (w.heap.size + 1) (.int .i64 48) (.string ⟨#[]⟩) kv /\ GrowK w6 (w.heap.size + 2) n (.slice (some ⟨g, 0, none⟩) (k + 1) cap) (ks.take (k + 1)) /\ Below w.heap.size w w6 /\ w.heap.size + 2 <= w6.heap.size) := by
     have hb5 := hb3.alloc hb3.size (Obj.cells #[Value.int IntKind.i64 4, Value.string s3, Value.slice none 0 0] 67)
     have hbw := HK.out.2.2.2.1.trans (hb5.mono HK.out.2.2.2.1.size)
     have e := List.take_append_getElem hj1
     rw [htl, e] at hG6
     exact ⟨(HK.out.1.below hb5).grown hgrow6 (HNE.out _ (by omega)), (HK.out.2.1.below hb5).grown hgrow6 (HNE.out _ (by omega)), hG6, hbw.grown hgrow6 hbw.size (fun q hq => by have := (HK.out.2.2.1.lt q hq).1; omega), Nat.le_trans HK.out.2.2.2.2 (Nat.le_trans hb5.size hgrow6.size)⟩
    clear hG6 hgrow6 hy6 fz6 hy3 hc4 hy4 ho3 hb3 hcs y2 c10 E3
    go_wp2_with fail
    refine ⟨⟨k + 1, by omega, by go_num, .slice (some ⟨g, 0, none⟩) (k + 1) cap, ?_, ?_, ?_, ?_, ?_⟩, by simp [intOf]; omega⟩
    ·exact H6.out.1.other (by show w.heap.size ≠ w.heap.size + 1; omega) _
    ·exact H6.out.2.1.set _
    ·exact H6.out.2.2.1.out fun b hb => heap_setCell_other _ _ _ _ (by show b ≠ w.heap.size + 1; omega)
    ·exact H6.out.2.2.2.1.setCell (p := ⟨w.heap.size + 1, 2, none⟩) (by show w.heap.size <= w.heap.size + 1; omega) _
    ·exact Nat.le_trans H6.out.2.2.2.2 (((Below.refl 0 w6).setCell (p := ⟨w.heap.size + 1, 2, none⟩) (Nat.zero_le _) _).size))
  ·have hlti : ¬ (k : Int) < (l : Int) := by omega
   obtain ⟨⟨q0, q1, q2⟩, _⟩ := cell_in HK.out.2.1
   obtain ⟨⟨r0, r1, r2⟩, rf⟩ := cell_in HK.out.1
   have HE : Hid (∃ fp, OwnK wr (w.heap.size + 2) (n + 1) kv ks fp) := by
    have h := HK.out.2.2.1
    rw [List.take_of_length_le (by have := HK0.out.2; omega)] at h
    exact h.own
   obtain ⟨axe, cape, hkv⟩ := HK.out.2.2.1.shape
   obtain ⟨le, hle⟩ := zE ((ks.take k).length)
   rw [hle] at hkv
   subst hkv
   clear hle
   go_wp2_with fail
   refine bodyPost_ret (v := .agg #[.int .i64 48, .string ⟨#[]⟩, .slice axe le cape]) (by simp [results, Try.results48, go_sem, r0, r1, r2]; try rfl) rfl ?_
   obtain ⟨fp, hfp⟩ := HE.out
   refine ⟨.slice axe le cape, fp, rfl, ?_, ?_⟩
   ·refine OwnK.base (base := w.heap.size + 2) (by omega) (hfp.same fun b hb => ?_)
    have h1 := (OwnK.lt hfp b hb).1
    rw [heap_setCell_other _ _ _ _ (by show b ≠ w.heap.size; omega), heap_setCell_other _ _ _ _ (by show b ≠ w.heap.size; omega), heap_setCell_other _ _ _ _ (by show b ≠ w.heap.size; omega)]
   ·exact ((HK.out.2.2.2.1.setCell (p := ⟨w.heap.size, 0, none⟩) (Nat.le_refl _) _).setCell (p := ⟨w.heap.size, 1, none⟩) (Nat.le_refl _) _).setCell (p := ⟨w.heap.size, 2, none⟩) (Nat.le_refl _) _
end Go.Proofs.Ytbiiihjohbnodaa
