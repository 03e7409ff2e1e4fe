/-
  Texts of the proof.
-/
import Derived.Deep.RegionHeld3
import Derived.Test.YtplblechcnbieaaGreatSB29
set_option maxRecDepth 100000
set_option maxHeartbeats 25600000
namespace Go.Proofs.YtplblechcnbieaaGreat
open Go.RowKit Der
set_option linter.unusedVariables false
def revI (p : Int × Int) : It 2 := lstJ [intI p.1, intI p.2]
def headL (c : Cl) : List (It 3) := [txtJ c.issuer, intI c.num, intI c.ths, intI c.nxt, intI c.bas]
def bodyL (c : Cl) : It 4 := lstJ (headL c ++ [lstJ (c.revs.map revI)])
def crlI (c : Cl) : It 5 := lstJ [bodyL c, bytJ c.sig]
theorem to_any {w w' : World} {n : Nat} {ks : List (It (n + 1))} {e : Ending} (h : ToIt w (n + 1) (lstJ ks) e w') : ∃ (a : Option Addr) (l cx : Nat) (fp : List Nat), e = .returned (.agg #[.int .i64 48, .string ⟨#[]⟩, .slice a l cx]) /\ OwnK w' w.heap.size (n + 1) (.slice a l cx) ks fp /\ Below w.heap.size w w' := by
 obtain ⟨k, fp, rfl, ho, hb⟩ := h
 obtain ⟨a, cx, rfl⟩ := ho.shape
 exact ⟨a, _, cx, fp, rfl, ho, hb⟩
theorem ints_own {W W' : World} {a b : Int} (hW : W' = W.alloc (Obj.cells #[.int .i64 a, .int .i64 b] 3)) : IntAt W' (.slice (some ⟨W.heap.size, 0, none⟩) 2 2) [a, b] := ints_at hW
theorem revItem_any (s r : Int) (w : World) (hw : Wd [s, r]) : Calls Tryz.prog 135 #[.agg #[.int .i64 s, .int .i64 r]] w fun e w' => ToIt w 1 (revI (s, r)) e w' := by
 have HW : Hid (Wd [s, r]) := hw
 clear hw
 go_enter Tryz.func135, Tryz.ntmps135
 go_wp2_with fail
 obtain ⟨W3, hW3⟩ : ∃ W, W = ((w.alloc (Obj.cells #[.int .i64 s, .int .i64 r] 140)).alloc (Obj.cells #[Value.int IntKind.i64 0, Value.string ⟨#[]⟩, Value.slice none 0 0] 122)).alloc (Obj.cells #[.int .i64 s, .int .i64 r] 3) := ⟨_, rfl⟩
 rw [<- hW3]
 have e0 : (w.alloc (Obj.cells #[.int .i64 s, .int .i64 r] 140)).heap.size = w.heap.size + 1 := Array.size_push _
 have e1 : ((w.alloc (Obj.cells #[.int .i64 s, .int .i64 r] 140)).alloc (Obj.cells #[Value.int IntKind.i64 0, Value.string ⟨#[]⟩, Value.slice none 0 0] 122)).heap.size = w.heap.size + 1 + 1 := by rw [size_alloc, e0]
 have H3 : Hid (Below w.heap.size w W3 /\ Blk3 W3 (w.heap.size + 1) (.int .i64 0) (.string ⟨#[]⟩) (.slice none 0 0) /\ IntAt W3 (.slice (some ⟨w.heap.size + 1 + 1, 0, none⟩) 2 2) [s, r] /\ W3.heap.size = w.heap.size + 3) := by
  refine ⟨by rw [hW3]; exact (((Below.refl _ _).alloc (Nat.le_refl _) _).alloc (by rw [e0]; omega) _).alloc (by rw [e1]; omega) _, ?_, ?_, by rw [hW3, size_alloc, e1]⟩
  ·have h := heap_alloc_new (w.alloc (Obj.cells #[.int .i64 s, .int .i64 r] 140)) (Obj.cells #[Value.int IntKind.i64 0, Value.string ⟨#[]⟩, Value.slice none 0 0] 122)
   rw [e0] at h
   rw [hW3]
   exact (heap_alloc_old _ _ (by rw [e1]; omega)).trans h
  ·have h := ints_own hW3
   rw [e1] at h
   exact h
 clear hW3 e0 e1
 refine (rowInt_any 0 [s, r] _ W3 (by show 2 <= 20000000; decide) HW.out H3.out.2.2.1).mono ?_
 intro e w4 hto
 obtain ⟨a, l, cx, fp, rfl, ho, hb⟩ := to_any hto
 clear hto
 have H4 : Hid (Below w.heap.size w w4 /\ Blk3 w4 (w.heap.size + 1) (.int .i64 0) (.string ⟨#[]⟩) (.slice none 0 0) /\ OwnK w4 (w.heap.size + 3) 1 (.slice a l cx) [intI s, intI r] fp) := ⟨H3.out.1.trans (hb.mono H3.out.1.size), H3.out.2.1.below hb, by have h := H3.out.2.2.2; rw [<- h]; exact ho⟩
 obtain ⟨⟨r0, r1, r2⟩, rf⟩ := cell_in H4.out.2.1
 clear H3 ho hb
 go_wp2_with fail
 refine bodyPost_ret (v := .agg #[.int .i64 48, .string ⟨#[]⟩, .slice a l cx]) (by simp [results, Tryz.results135, go_sem, r0, r1, r2]; try rfl) rfl ?_
 refine ⟨.slice a l cx, fp, rfl, ?_, ?_⟩
 ·refine OwnK.base (base := w.heap.size + 3) (by omega) (H4.out.2.2.same fun b hb => ?_)
  have h1 := (OwnK.lt H4.out.2.2 b hb).1
  rw [heap_setCell_other _ _ _ _ (by show b ≠ w.heap.size + 1; omega), heap_setCell_other _ _ _ _ (by show b ≠ w.heap.size + 1; omega), heap_setCell_other _ _ _ _ (by show b ≠ w.heap.size + 1; omega)]
 ·exact ((H4.out.1.setCell (p := ⟨w.heap.size + 1, 0, none⟩) (by show w.heap.size <= w.heap.size + 1; omega) _).setCell (p := ⟨w.heap.size + 1, 1, none⟩) (by show w.heap.size <= w.heap.size + 1; omega) _).setCell (p := ⟨w.heap.size + 1, 2, none⟩) (by show w.heap.size <= w.heap.size + 1; omega) _
theorem rowRev_any (ls : List (Int × Int)) (v : Value) (w : World) (hz : ls.length <= 20000000) (hwd : WdR ls) (hx : RevAt w v ls) :
  Calls Tryz.prog 134 #[v, .func (.func 135) #[] #[]] w fun e w' => ToIt w 2 (lstJ (ls.map revI)) e w' := by
 obtain ⟨ax, cx, rfl, hcell⟩ := hx
 obtain ⟨l, hle⟩ := zE (ls.length)
 have HX : Hid ((∀ j, j < ls.length -> ∃ g, ax = some ⟨g, 0, none⟩ /\ g < w.heap.size /\ w.cell? ⟨g, j * 2, none⟩ = some (.int .i64 (ls.getD j (0, 0)).1) /\ w.cell? ⟨g, j * 2 + 1, none⟩ = some (.int .i64 (ls.getD j (0, 0)).2)) /\ ls.length = l /\ WdR ls) := ⟨hcell, hle, hwd⟩
 have hlb : l <= 20000000 := by rw [<- hle]; exact hz
 rw [hle]
 clear hz hle hcell hwd
 obtain ⟨ks, hks⟩ : ∃ ks : List (It 2), ls.map revI = ks := ⟨_, rfl⟩
 rw [hks]
 have HK0 : Hid (ls.map revI = ks /\ ks.length = l) := ⟨hks, by rw [<- hks, List.length_map]; exact HX.out.2.1⟩
 clear hks
 go_enter Tryz.func134, Tryz.ntmps134
 go_wp2_with fail
 obtain ⟨W3, hW3⟩ : ∃ W, W = w.alloc (Obj.cells #[Value.int IntKind.i64 0, Value.string ⟨#[]⟩, Value.slice none 0 0] 122) := ⟨_, rfl⟩
 rw [<- hW3]
 have H3 : Hid (Below w.heap.size w W3 /\ W3.heap.size = w.heap.size + 1 /\ Blk3 W3 w.heap.size (.int .i64 0) (.string ⟨#[]⟩) (.slice none 0 0)) := by rw [hW3]; exact ⟨(Below.refl _ _).alloc (Nat.le_refl _) _, Array.size_push _, heap_alloc_new w _⟩
 clear hW3
 go_loopw [5, 10] (fun kv iv wr => ∃ k : Nat, k <= l /\ iv = .int .i64 k /\ Hid (Blk3 wr w.heap.size (.int .i64 0) (.string ⟨#[]⟩) (.slice none 0 0) /\ GrowK wr (w.heap.size + 1) 1 kv (ks.take k) /\ Below w.heap.size w wr /\ w.heap.size + 1 <= wr.heap.size)) (fun _ iv _ => l - (intOf iv).toNat)
 case atStart => exact ⟨0, Nat.zero_le _, rfl, H3.out.2.2, GrowK.nil _ _ _, H3.out.1, by rw [H3.out.2.1]; exact Nat.le_refl _⟩
 case round =>
  obtain ⟨k, hk, rfl, HK⟩ := hrel
  clear H3
  obtain ⟨axe, cape, hkv⟩ := HK.out.2.1.shape
  obtain ⟨le, hle⟩ := zE ((ks.take k).length)
  have hlek : le = k := by rw [<- hle, List.length_take]; have := HK0.out.2; omega
  rw [hle, hlek] at hkv
  subst hkv
  clear hle hlek
  by_cases hlt : k < l
  ·have hlti : (k : Int) < (l : Int) := by omega
   have hk0 : (0 : Int) <= (k : Int) := by omega
   have hj0 : k < ls.length := by rw [HX.out.2.1]; exact hlt
   have hj1 : k < ks.length := by rw [HK0.out.2]; exact hlt
   obtain ⟨g1, hax, hg1, hc1, hc2⟩ := HX.out.1 k hj0
   have c10 : wr.cell? ⟨g1, k * 2, none⟩ = some (.int .i64 (ls.getD k (0, 0)).1) := (HK.out.2.2.1.cell (p := ⟨g1, k * 2, none⟩) hg1).trans hc1
   have c11 : wr.cell? ⟨g1, k * 2 + 1, none⟩ = some (.int .i64 (ls.getD k (0, 0)).2) := (HK.out.2.2.1.cell (p := ⟨g1, k * 2 + 1, none⟩) hg1).trans hc2
   have hm := HX.out.2.2 _ (getR_mem hj0)
   have hkx : ks[k] = revI ((ls.getD k (0, 0)).1, (ls.getD k (0, 0)).2) := by
    have h := HK0.out.1
    subst h
    simp [List.getD, hj0]
   generalize (ls.getD k (0, 0)).1 = s at *
   generalize (ls.getD k (0, 0)).2 = r at *
   have HT : Hid (It.tag ks[k] = 48 /\ (⟨(It.text ks[k]).toArray⟩ : ByteArray) = ⟨#[]⟩ /\ It.kids ks[k] = [intI s, intI r]) := by
    rw [hkx]
    exact ⟨rfl, rfl, rfl⟩
   have HWD : Hid (Wd [s, r]) := fun x hx => by
    simp only [List.mem_cons, List.not_mem_nil, or_false] at hx
    rcases hx with rfl | rfl
    ·exact hm.1
    ·exact hm.2
   have htl : (ks.take k).length = k := by rw [List.length_take]; omega
   subst hax
   clear hc1 hc2 hg1 hkx hm
   go_wp2_with fail
   obtain ⟨W1, hW1⟩ : ∃ W, W = wr.alloc (Obj.cells #[.int .i64 s, .int .i64 r] 140) := ⟨_, rfl⟩
   rw [<- hW1]
   have HB1 : Hid (Below wr.heap.size wr W1) := by rw [hW1]; exact (Below.refl _ _).alloc (Nat.le_refl _) _
   clear hW1 c10 c11
   refine (revItem_any s r W1 HWD.out).mono ?_
   intro e w3 hto
   obtain ⟨a3, l3, x3, f3, rfl, ho3, hb3⟩ := to_any hto
   clear hto
   have H4 : Hid (Below wr.heap.size wr w3 /\ OwnK w3 wr.heap.size 1 (.slice a3 l3 x3) (It.kids ks[k]) f3) := ⟨HB1.out.trans (hb3.mono HB1.out.size), by rw [HT.out.2.2]; exact OwnK.base HB1.out.size ho3⟩
   clear ho3 hb3 HB1
   go_wp2_with (at_builtin; refine wpList_append_item rfl _ _ rfl (w.heap.size + 1) 1 (.slice axe k cape) (ks.take k) ks[k] 48 ⟨#[]⟩ (.slice a3 l3 x3) f3 HT.out.1 HT.out.2.1 rfl _ rfl (by simp) HK.out.2.1 H4.out.1 H4.out.2 HK.out.2.2.2 (by omega) ?_)
   intro g cap w6 hG6 hgrow6
   have H6 : Hid (Blk3 w6 w.heap.size (.int .i64 0) (.string ⟨#[]⟩) (.slice none 0 0) /\ GrowK w6 (w.heap.size + 1) 1 (.slice (some ⟨g, 0, none⟩) (k + 1) cap) (ks.take (k + 1)) /\ Below w.heap.size w w6 /\ w.heap.size + 1 <= w6.heap.size) := by
    have hb5 := H4.out.1.alloc H4.out.1.size (Obj.cells #[Value.int IntKind.i64 48, Value.string ⟨#[]⟩, Value.slice a3 l3 x3] 122)
    have hbw := HK.out.2.2.1.trans (hb5.mono HK.out.2.2.1.size)
    have e := List.take_append_getElem hj1
    have hkb := HK.out.2.1.lt
    try rw [htl] at hG6
    try rw [e] at hG6
    exact ⟨(HK.out.1.below hb5).grown hgrow6 (fun q => by have := (hkb _ q.symm).1; omega), hG6, hbw.grown hgrow6 hbw.size (fun q hq => by have := (hkb q hq).1; omega), Nat.le_trans HK.out.2.2.2 (Nat.le_trans hb5.size hgrow6.size)⟩
   try rw [htl]
   clear hG6 hgrow6 H4 HK
   go_wp2_with fail
   exact ⟨⟨k + 1, by omega, by go_num, H6⟩, by simp [intOf]; omega⟩
  ·have hlti : ¬ (k : Int) < (l : Int) := by omega
   obtain ⟨⟨r0, r1, r2⟩, rf⟩ := cell_in HK.out.1
   have HE : Hid (∃ fp, OwnK wr (w.heap.size + 1) 2 (.slice axe k cape) ks fp) := by
    have h := HK.out.2.1
    rw [List.take_of_length_le (by have := HK0.out.2; omega)] at h
    exact h.own
   go_wp2_with fail
   refine bodyPost_ret (v := .agg #[.int .i64 48, .string ⟨#[]⟩, .slice axe k cape]) (by simp [results, Tryz.results134, go_sem, r0, r1, r2]; try rfl) rfl ?_
   obtain ⟨fp, hfp⟩ := HE.out
   refine ⟨.slice axe k cape, fp, rfl, ?_, ?_⟩
   ·refine OwnK.base (base := w.heap.size + 1) (by omega) (hfp.same fun b hb => ?_)
    have h1 := (OwnK.lt hfp b hb).1
    rw [heap_setCell_other _ _ _ _ (by show b ≠ w.heap.size; omega), heap_setCell_other _ _ _ _ (by show b ≠ w.heap.size; omega), heap_setCell_other _ _ _ _ (by show b ≠ w.heap.size; omega)]
   ·exact ((HK.out.2.2.1.setCell (p := ⟨w.heap.size, 0, none⟩) (Nat.le_refl _) _).setCell (p := ⟨w.heap.size, 1, none⟩) (Nat.le_refl _) _).setCell (p := ⟨w.heap.size, 2, none⟩) (Nat.le_refl _) _
def KH (w W : World) (a : Array Value) : Prop := Below w.heap.size w W /\ Blk W w.heap.size 131 a
theorem KH.below {w W W' : World} {a : Array Value} (h : KH w W a) (hb : Below W.heap.size W W') : KH w W' a := ⟨h.1.trans (hb.mono h.1.size), h.2.below hb h.2.lt⟩
theorem head_row {W W' : World} {b : Nat} {c : Cl} (hb : b <= W.heap.size) (hW : W' = W.alloc (.cells (.int .i64 12 :: .string c.issuer :: .slice none 0 0 :: .int .i64 2 :: .string ⟨(intT (numN c.num)).toArray⟩ :: .slice none 0 0 :: .int .i64 2 :: .string ⟨(intT (numN c.ths)).toArray⟩ :: .slice none 0 0 :: .int .i64 2 :: .string ⟨(intT (numN c.nxt)).toArray⟩ :: .slice none 0 0 :: .int .i64 2 :: .string ⟨(intT (numN c.bas)).toArray⟩ :: .slice none 0 0 :: []).toArray 122)) : GrowK W' b 2 (.slice (some ⟨W.heap.size, 0, none⟩) 5 5) (headL c) := by
 have nn := own_none W b 2
 have R : RowsK W b 2 (headL c) [.slice none 0 0, .slice none 0 0, .slice none 0 0, .slice none 0 0, .slice none 0 0] [[], [], [], [], []] := ⟨nn, nn, nn, nn, nn, trivial⟩
 exact R.grow (W' := W') (cap := 5) hb (by simp) (by show 5 <= 1000; decide) rfl (by rw [hW]; rfl)
theorem headItems_any (c : Cl) (w : World) (hz : c.issuer.size <= 20000000) (hw : Wd [c.num, c.ths, c.nxt, c.bas]) : Calls Tryz.prog 133 #[hdV c] w fun e w' => ∃ q, e = .returned (.slice (some ⟨q, 0, none⟩) 5 5) /\ GrowK w' w.heap.size 2 (.slice (some ⟨q, 0, none⟩) 5 5) (headL c) /\ Below w.heap.size w w' := by
 have w1 := hw c.num (by simp)
 have w2 := hw c.ths (by simp)
 have w3 := hw c.nxt (by simp)
 have w4 := hw c.bas (by simp)
 have HW : Hid (c.issuer.size <= 20000000 /\ (-9223372036854775808 <= c.num /\ c.num <= 9223372036854775807) /\ (-9223372036854775808 <= c.ths /\ c.ths <= 9223372036854775807) /\ (-9223372036854775808 <= c.nxt /\ c.nxt <= 9223372036854775807) /\ (-9223372036854775808 <= c.bas /\ c.bas <= 9223372036854775807)) := ⟨hz, w1, w2, w3, w4⟩
 clear hz hw w1 w2 w3 w4
 unfold hdV
 go_enter Tryz.func133, Tryz.ntmps133
 go_wp2_with fail
 obtain ⟨W0, hW0⟩ : ∃ W, W = w.alloc (Obj.cells #[.string c.issuer, .int .i64 c.num, .int .i64 c.ths, .int .i64 c.nxt, .int .i64 c.bas] 131) := ⟨_, rfl⟩
 rw [<- hW0]
 have H0 : KH w W0 #[.string c.issuer, .int .i64 c.num, .int .i64 c.ths, .int .i64 c.nxt, .int .i64 c.bas] := by rw [hW0]; exact ⟨(Below.refl _ _).alloc (Nat.le_refl _) _, Blk.new w _ _⟩
 clear hW0
 refine wp_region_held_drew (S := fun W => KH w W #[.string c.issuer, .int .i64 c.num, .int .i64 c.ths, .int .i64 c.nxt, .int .i64 c.bas]) (by kernel_rfl) (KH.below H0 ((Below.refl _ _).drew)) (fun hHeld => ?_)
 clear H0
 refine zT 0 3 ?_ rfl (by rfl) ?_ hHeld ?_
 rotate_left
 ·intro W hSw
  go_simp
  try with_reducible rfl
 try simp only [Act.put, zA, zB, zC]
 refine zT 1 4 ?_ rfl (by rfl) ?_ hHeld ?_
 rotate_left
 ·intro W hSw
  have l0 : W.cell? ⟨w.heap.size, 0, none⟩ = some (.string c.issuer) := hSw.2.cell 0
  go_simp
  try with_reducible rfl
 try simp only [Act.put, zA, zB, zC]
 refine zT 3 6 ?_ rfl (by rfl) ?_ hHeld ?_
 rotate_left
 ·intro W hSw
  go_simp
  try with_reducible rfl
 try simp only [Act.put, zA, zB, zC]
 refine zT 4 7 ?_ rfl (by rfl) ?_ hHeld ?_
 rotate_left
 ·intro W hSw
  have l0 : W.cell? ⟨w.heap.size, 1, none⟩ = some (.int .i64 c.num) := hSw.2.cell 1
  go_simp
  try with_reducible rfl
 try simp only [Act.put, zA, zB, zC]
 refine zT 6 9 ?_ rfl (by rfl) ?_ hHeld ?_
 rotate_left
 ·intro W hSw
  go_simp
  try with_reducible rfl
 try simp only [Act.put, zA, zB, zC]
 refine zT 7 10 ?_ rfl (by rfl) ?_ hHeld ?_
 rotate_left
 ·intro W hSw
  have l0 : W.cell? ⟨w.heap.size, 2, none⟩ = some (.int .i64 c.ths) := hSw.2.cell 2
  go_simp
  try with_reducible rfl
 try simp only [Act.put, zA, zB, zC]
 refine zT 9 12 ?_ rfl (by rfl) ?_ hHeld ?_
 rotate_left
 ·intro W hSw
  go_simp
  try with_reducible rfl
 try simp only [Act.put, zA, zB, zC]
 refine zT 10 13 ?_ rfl (by rfl) ?_ hHeld ?_
 rotate_left
 ·intro W hSw
  have l0 : W.cell? ⟨w.heap.size, 3, none⟩ = some (.int .i64 c.nxt) := hSw.2.cell 3
  go_simp
  try with_reducible rfl
 try simp only [Act.put, zA, zB, zC]
 refine zT 12 15 ?_ rfl (by rfl) ?_ hHeld ?_
 rotate_left
 ·intro W hSw
  go_simp
  try with_reducible rfl
 try simp only [Act.put, zA, zB, zC]
 refine zT 13 16 ?_ rfl (by rfl) ?_ hHeld ?_
 rotate_left
 ·intro W hSw
  have l0 : W.cell? ⟨w.heap.size, 4, none⟩ = some (.int .i64 c.bas) := hSw.2.cell 4
  go_simp
  try with_reducible rfl
 try simp only [Act.put, zA, zB, zC]
 refine wpAnyH_ready (rs := [2]) (by kernel_rfl) (by simp) ?_
 refine AllReadyH.cons (o := ⟨some 5, _, _, _, _, _⟩) rfl (fun K hK => ?_) AllReadyH.nil
 go_simp
 refine (implTextItem_any c.issuer _ HW.out.1).mono ?_
 rintro e v1 ⟨rfl, hv⟩
 have hH := KH.below hHeld hv
 go_wp2_with fail
 refine hK.out _ _ hH (fun hHeld => ?_)
 clear hK K hH hv
 try simp only [Act.put, zA, zB, zC]
 refine wpAnyH_ready (rs := [5]) (by kernel_rfl) (by simp) ?_
 refine AllReadyH.cons (o := ⟨some 8, _, _, _, _, _⟩) rfl (fun K hK => ?_) AllReadyH.nil
 go_simp
 refine (implIntItem_any c.num _ HW.out.2.1).mono ?_
 rintro e v2 ⟨rfl, hv⟩
 have hH := KH.below hHeld hv
 go_wp2_with fail
 refine hK.out _ _ hH (fun hHeld => ?_)
 clear hK K hH hv
 try simp only [Act.put, zA, zB, zC]
 refine wpAnyH_ready (rs := [8]) (by kernel_rfl) (by simp) ?_
 refine AllReadyH.cons (o := ⟨some 11, _, _, _, _, _⟩) rfl (fun K hK => ?_) AllReadyH.nil
 go_simp
 refine (implIntItem_any c.ths _ HW.out.2.2.1).mono ?_
 rintro e v3 ⟨rfl, hv⟩
 have hH := KH.below hHeld hv
 go_wp2_with fail
 refine hK.out _ _ hH (fun hHeld => ?_)
 clear hK K hH hv
 try simp only [Act.put, zA, zB, zC]
 refine wpAnyH_ready (rs := [11]) (by kernel_rfl) (by simp) ?_
 refine AllReadyH.cons (o := ⟨some 14, _, _, _, _, _⟩) rfl (fun K hK => ?_) AllReadyH.nil
 go_simp
 refine (implIntItem_any c.nxt _ HW.out.2.2.2.1).mono ?_
 rintro e v4 ⟨rfl, hv⟩
 have hH := KH.below hHeld hv
 go_wp2_with fail
 refine hK.out _ _ hH (fun hHeld => ?_)
 clear hK K hH hv
 try simp only [Act.put, zA, zB, zC]
 refine wpAnyH_ready (rs := [14]) (by kernel_rfl) (by simp) ?_
 refine AllReadyH.cons (o := ⟨some 17, _, _, _, _, _⟩) rfl (fun K hK => ?_) AllReadyH.nil
 go_simp
 refine (implIntItem_any c.bas _ HW.out.2.2.2.2).mono ?_
 rintro e v5 ⟨rfl, hv⟩
 have hH := KH.below hHeld hv
 go_wp2_with fail
 refine hK.out _ _ hH (fun hHeld => ?_)
 clear hK K hH hv
 try simp only [Act.put, zA, zB, zC]
 refine wpAnyH_ready (rs := [15]) (by kernel_rfl) (by simp) ?_
 refine AllReadyH.cons (o := ⟨some 18, _, _, _, _, _⟩) rfl (fun K hK => ?_) AllReadyH.nil
 have HF : Hid (GrowK (v5.alloc (Obj.cells (.int .i64 12 :: .string c.issuer :: .slice none 0 0 :: .int .i64 2 :: .string ⟨(intT (numN c.num)).toArray⟩ :: .slice none 0 0 :: .int .i64 2 :: .string ⟨(intT (numN c.ths)).toArray⟩ :: .slice none 0 0 :: .int .i64 2 :: .string ⟨(intT (numN c.nxt)).toArray⟩ :: .slice none 0 0 :: .int .i64 2 :: .string ⟨(intT (numN c.bas)).toArray⟩ :: .slice none 0 0 :: []).toArray 122)) w.heap.size 2 (.slice (some ⟨v5.heap.size, 0, none⟩) 5 5) (headL c)) := head_row hHeld.1.size rfl
 go_simp
 refine hK.out _ _ (KH.below hHeld ((Below.refl _ _).alloc (Nat.le_refl _) _)) (fun hHeld => ?_)
 clear hK K
 try simp only [Act.put, zA, zB, zC]
 obtain ⟨W9, hW9⟩ : ∃ W, W = v5.alloc (Obj.cells (.int .i64 12 :: .string c.issuer :: .slice none 0 0 :: .int .i64 2 :: .string ⟨(intT (numN c.num)).toArray⟩ :: .slice none 0 0 :: .int .i64 2 :: .string ⟨(intT (numN c.ths)).toArray⟩ :: .slice none 0 0 :: .int .i64 2 :: .string ⟨(intT (numN c.nxt)).toArray⟩ :: .slice none 0 0 :: .int .i64 2 :: .string ⟨(intT (numN c.bas)).toArray⟩ :: .slice none 0 0 :: []).toArray 122) := ⟨_, rfl⟩
 obtain ⟨q9, hq9⟩ := zE (v5.heap.size)
 rw [<- hW9] at HF hHeld |-
 rw [hq9] at HF |-
 clear hW9 hq9
 refine zT 16 2 ?_ rfl (by rfl) ?_ hHeld ?_
 rotate_left
 ·intro W hSw
  go_simp
  try with_reducible rfl
 try simp only [Act.put, zA, zB, zC]
 refine wpAnyH_done (by kernel_rfl) ?_ _
 have HEND : Hid (Below w.heap.size w _) := hHeld.1
 clear hHeld
 go_wp2_with fail
 go_ret
 exact ⟨q9, rfl, HF.out, HEND.out⟩
def KJ (w W : World) (a : Array Value) : Prop := Below w.heap.size w W /\ Blk W w.heap.size 133 a /\ ∃ x y z, Blk3 W (w.heap.size + 1) x y z
theorem KJ.below {w W W' : World} {a : Array Value} (h : KJ w W a) (hb : Below W.heap.size W W') : KJ w W' a := by
 obtain ⟨h1, h2, x, y, z, h3⟩ := h
 exact ⟨h1.trans (hb.mono h1.size), h2.below hb h2.lt, x, y, z, h3.below hb⟩
theorem KJ.grown {w W W' : World} {a : Array Value} {row : Option Nat} (h : KJ w W a) (hg : W.grownBy W' row) (hr : ∀ q, row = some q -> w.heap.size + 2 <= q) : KJ w W' a := by
 obtain ⟨h1, h2, x, y, z, h3⟩ := h
 exact ⟨h1.grown hg h1.size (fun q hq => by have := hr q hq; omega), (hg.block _ h2.lt (fun e => by have := hr _ e.symm; omega)).trans h2, x, y, z, h3.grown hg (fun e => by have := hr _ e.symm; omega)⟩
theorem KJ.size {w W : World} {a : Array Value} (h : KJ w W a) : w.heap.size + 2 <= W.heap.size := by
 obtain ⟨_, _, x, y, z, h3⟩ := h
 have := h3.lt
 omega
theorem KJ.set {w W : World} {a : Array Value} (h : KJ w W a) (p q r : Value) : KJ w (((W.setCell ⟨w.heap.size + 1, 0, none⟩ p).setCell ⟨w.heap.size + 1, 1, none⟩ q).setCell ⟨w.heap.size + 1, 2, none⟩ r) a := by
 obtain ⟨h1, h2, x, y, z, h3⟩ := h
 refine ⟨((h1.setCell (p := ⟨w.heap.size + 1, 0, none⟩) (Nat.le_succ _) _).setCell (p := ⟨w.heap.size + 1, 1, none⟩) (Nat.le_succ _) _).setCell (p := ⟨w.heap.size + 1, 2, none⟩) (Nat.le_succ _) _, ?_, p, q, r, ?_⟩
 ·have ne : w.heap.size ≠ w.heap.size + 1 := by omega
  exact ((h2.other _ ne).other _ ne).other _ ne
 ·have e := (((show Blk W (w.heap.size + 1) 122 #[x, y, z] from h3).set 0 p).set 1 q).set 2 r
  exact e
theorem KJ.start (w : World) (a : Array Value) (x y z : Value) (W : World) (hW : W = (w.alloc (Obj.cells a 133)).alloc (Obj.cells #[x, y, z] 122)) : KJ w W a := by
 have e0 : (w.alloc (Obj.cells a 133)).heap.size = w.heap.size + 1 := Array.size_push _
 have hb : Below w.heap.size w W := by rw [hW]; exact ((Below.refl _ _).alloc (Nat.le_refl _) _).alloc (by rw [e0]; omega) _
 refine ⟨hb, ?_, x, y, z, ?_⟩
 ·rw [hW]; exact (Blk.new w _ _).alloc _
 ·rw [hW]
  have h := heap_alloc_new (w.alloc (Obj.cells a 133)) (Obj.cells #[x, y, z] 122)
  rw [e0] at h
  exact h
theorem tidItem_any (c : Cl) (pa : Option Addr) (lp pc : Nat) (w : World) (hz : wtL c <= 20000000) (hw : WdL c) (ha : RevAt w (.slice pa lp pc) c.revs) : Calls Tryz.prog 95 #[tdV c (.slice pa lp pc)] w fun e w' => ToIt w 3 (bodyL c) e w' := by
 obtain ⟨z1, z2, z3⟩ := wtL_parts hz
 have HW : Hid (c.issuer.size <= 20000000 /\ Wd [c.num, c.ths, c.nxt, c.bas] /\ c.revs.length <= 20000000 /\ WdR c.revs) := ⟨z1, hw.1, z2, hw.2.1⟩
 have HL : Hid (RevAt w (.slice pa lp pc) c.revs) := ha
 clear hz hw ha z1 z2 z3
 unfold tdV
 go_enter Tryz.func95, Tryz.ntmps95
 go_wp2_with fail
 obtain ⟨W0, hW0⟩ : ∃ W, W = (w.alloc (Obj.cells #[.string c.issuer, .int .i64 c.num, .int .i64 c.ths, .int .i64 c.nxt, .int .i64 c.bas, .slice pa lp pc] 133)).alloc (Obj.cells #[Value.int IntKind.i64 0, Value.string ⟨#[]⟩, Value.slice none 0 0] 122) := ⟨_, rfl⟩
 rw [<- hW0]
 have H0 : KJ w W0 #[.string c.issuer, .int .i64 c.num, .int .i64 c.ths, .int .i64 c.nxt, .int .i64 c.bas, .slice pa lp pc] := KJ.start w _ _ _ _ W0 hW0
 clear hW0
 refine wp_region_held_drew (S := fun W => KJ w W #[.string c.issuer, .int .i64 c.num, .int .i64 c.ths, .int .i64 c.nxt, .int .i64 c.bas, .slice pa lp pc]) (by kernel_rfl) (KJ.below H0 ((Below.refl _ _).drew)) (fun hHeld => ?_)
 clear H0
 generalize W0.drew = Wd0 at hHeld |-
 refine zT 0 3 ?_ rfl (by rfl) ?_ hHeld ?_
 rotate_left
 ·intro W hSw
  go_simp
  try with_reducible rfl
 try simp only [Act.put, zA, zB, zC]
 refine zT 1 4 ?_ rfl (by rfl) ?_ hHeld ?_
 rotate_left
 ·intro W hSw
  have l0 : W.cell? ⟨w.heap.size, 0, none⟩ = some (.string c.issuer) := hSw.2.1.cell 0
  have l1 : W.cell? ⟨w.heap.size, 1, none⟩ = some (.int .i64 c.num) := hSw.2.1.cell 1
  have l2 : W.cell? ⟨w.heap.size, 2, none⟩ = some (.int .i64 c.ths) := hSw.2.1.cell 2
  have l3 : W.cell? ⟨w.heap.size, 3, none⟩ = some (.int .i64 c.nxt) := hSw.2.1.cell 3
  have l4 : W.cell? ⟨w.heap.size, 4, none⟩ = some (.int .i64 c.bas) := hSw.2.1.cell 4
  go_simp
  try with_reducible rfl
 try simp only [Act.put, zA, zB, zC]
 refine zT 3 6 ?_ rfl (by rfl) ?_ hHeld ?_
 rotate_left
 ·intro W hSw
  go_simp
  try with_reducible rfl
 try simp only [Act.put, zA, zB, zC]
 refine zT 4 7 ?_ rfl (by rfl) ?_ hHeld ?_
 rotate_left
 ·intro W hSw
  have l0 : W.cell? ⟨w.heap.size, 5, none⟩ = some (.slice pa lp pc) := hSw.2.1.cell 5
  go_simp
  try with_reducible rfl
 try simp only [Act.put, zA, zB, zC]
 refine wpAnyH_ready (rs := [2]) (by kernel_rfl) (by simp) ?_
 refine AllReadyH.cons (o := ⟨some 5, _, _, _, _, _⟩) rfl (fun K hK => ?_) AllReadyH.nil
 have HS0 : Hid (w.heap.size + 2 <= Wd0.heap.size) := KJ.size hHeld
 go_simp
 refine (headItems_any c _ HW.out.1 HW.out.2.1).mono ?_
 rintro e v1 ⟨q1, rfl, hG1, hv⟩
 have hH := KJ.below hHeld hv
 have HG1 : Hid (GrowK v1 Wd0.heap.size 2 (.slice (some ⟨q1, 0, none⟩) 5 5) (headL c) /\ Wd0.heap.size <= v1.heap.size) := ⟨hG1, hv.size⟩
 go_wp2_with fail
 refine hK.out _ _ hH (fun hHeld => ?_)
 clear hK K hH hv hG1
 try simp only [Act.put, zA, zB, zC]
 refine wpAnyH_ready (rs := [5]) (by kernel_rfl) (by simp) ?_
 refine AllReadyH.cons (o := ⟨some 8, _, _, _, _, _⟩) rfl (fun K hK => ?_) AllReadyH.nil
 go_simp
 refine (rowRev_any c.revs _ _ HW.out.2.2.1 HW.out.2.2.2 (HL.out.below hHeld.1)).mono ?_
 intro e v2 hto
 obtain ⟨a2, l2, x2, f2, rfl, ho2, hv⟩ := to_any hto
 clear hto
 have hH := KJ.below hHeld hv
 have H2 : Hid (OwnK v2 v1.heap.size 2 (.slice a2 l2 x2) (c.revs.map revI) f2 /\ Below v1.heap.size v1 v2) := ⟨ho2, hv⟩
 go_wp2_with fail
 refine hK.out _ _ hH (fun hHeld => ?_)
 clear hK K hH hv ho2
 try simp only [Act.put, zA, zB, zC]
 refine wpAnyH_ready (rs := [6]) (by kernel_rfl) (by simp) ?_
 refine AllReadyH.cons (o := ⟨some 9, _, _, _, _, _⟩) rfl (fun K hK => ?_) AllReadyH.nil
 go_simp
 refine hK.out _ _ (KJ.below hHeld ((Below.refl _ _).alloc (Nat.le_refl _) _)) (fun hHeld => ?_)
 clear hK K
 try simp only [Act.put, zA, zB, zC]
 refine wpAnyH_ready (rs := [7]) (by kernel_rfl) (by simp) ?_
 refine AllReadyH.cons (o := ⟨some 10, _, _, _, _, _⟩) rfl (fun K hK => ?_) AllReadyH.nil
 refine step_append_item0 (o := ⟨some 10, _, _, _, _, _⟩) rfl (.tmp 5) (.tmp 9) rfl Wd0.heap.size 2 (.slice (some ⟨q1, 0, none⟩) 5 5) (headL c) (lstJ (c.revs.map revI)) 48 ⟨#[]⟩ (.slice a2 l2 x2) f2 rfl rfl (by rfl) v2.heap.size (by rfl) rfl HG1.out.1 H2.out.2 H2.out.1 HG1.out.2 (by show 5 <= 1000000000; decide) ?_
 intro g6 cap6 w6 hG6 hgrow6
 have hrl := fun q hq => (HG1.out.1.lt q hq).1
 have hH : KJ w w6 #[.string c.issuer, .int .i64 c.num, .int .i64 c.ths, .int .i64 c.nxt, .int .i64 c.bas, .slice pa lp pc] := KJ.grown hHeld hgrow6 (fun q hq => Nat.le_trans HS0.out (hrl q hq))
 have HF : Hid (∃ fp, OwnK w6 Wd0.heap.size 3 (.slice (some ⟨g6, 0, none⟩) 6 cap6) (It.kids (bodyL c)) fp) := hG6.own
 clear hG6 hgrow6 hrl HG1 H2
 refine hK.out _ _ hH (fun hHeld => ?_)
 clear hK K hH
 try simp only [Act.put, zA, zB, zC]
 refine zT 8 11 ?_ rfl (by rfl) ?_ hHeld ?_
 rotate_left
 ·intro W hSw
  go_simp
  try with_reducible rfl
 try simp only [Act.put, zA, zB, zC]
 refine wpAnyH_ready (rs := [9]) (by kernel_rfl) (by simp) ?_
 refine AllReadyH.cons (o := ⟨none, _, _, _, _, _⟩) rfl (fun K hK => ?_) AllReadyH.nil
 obtain ⟨x9, y9, z9, hB9⟩ := hHeld.2.2
 obtain ⟨⟨r0, r1, r2⟩, rf⟩ := cell_in hB9
 go_simp
 refine hK.out _ _ (KJ.set hHeld _ _ _) (fun hHeld => ?_)
 clear hK K
 try simp only [Act.put, zA, zB, zC]
 refine wpAnyH_done (by kernel_rfl) ?_ _
 have HEND : Hid (Below w.heap.size w _) := hHeld.1
 clear hHeld
 go_wp2_with fail
 refine bodyPost_ret (v := .agg #[.int .i64 48, .string ⟨#[]⟩, .slice (some ⟨g6, 0, none⟩) 6 cap6]) (by simp [results, Tryz.results95, go_sem, r0, r1, r2]; try rfl) rfl ?_
 obtain ⟨fp, hfp⟩ := HF.out
 refine ⟨.slice (some ⟨g6, 0, none⟩) 6 cap6, fp, rfl, ?_, HEND.out⟩
 refine OwnK.base (base := Wd0.heap.size) (by have := HS0.out; omega) (hfp.same fun b hb => ?_)
 have h1 := (OwnK.lt hfp b hb).1
 have h2 := HS0.out
 rw [heap_setCell_other _ _ _ _ (by show b ≠ w.heap.size + 1; omega), heap_setCell_other _ _ _ _ (by show b ≠ w.heap.size + 1; omega), heap_setCell_other _ _ _ _ (by show b ≠ w.heap.size + 1; omega)]
end Go.Proofs.YtplblechcnbieaaGreat
