/-
  Texts of the proof.
-/
import Derived.Deep.RegionHeld3
import Derived.Test.YtjgbmnhoajiabaaGreatDoorSQ12
import Derived.Test.YtjgbmnhoajiabaaGreatDoorSQ16
set_option maxRecDepth 100000
namespace Go.Proofs.YtjgbmnhoajiabaaGreatDoor
open Go.RowKit Der
set_option linter.unusedVariables false
set_option maxHeartbeats 3200000 in
theorem rowInt_any (n : Nat) (ls : List Int) (v : Value) (w : World) (hz : ls.length <= 20000000) (hwd : Wd ls) (hx : IntAt w v ls) :
  Calls Tryz.prog 122 #[v, .func (.func 120) #[] #[]] w fun e w' => ToIt w (n + 1) (lstJ (ls.map intI)) e w' := by
 obtain ⟨ax, cx, rfl, hcell⟩ := hx.each
 obtain ⟨l, hle⟩ : ∃ l, ls.length = l := ⟨_, rfl⟩
 have HX : Hid ((∀ j, j < ls.length -> ∃ g, ax = some ⟨g, 0, none⟩ /\ g < w.heap.size /\ w.cell? ⟨g, j, none⟩ = some (.int .i64 (ls.getD j 0))) /\ ls.length = l /\ (Wd ls)) := ⟨hcell, hle, hwd⟩
 have hlb : l <= 20000000 := by rw [<- hle]; exact hz
 rw [hle]
 clear hx hz hle hcell hwd
 obtain ⟨ks, hks⟩ : ∃ ks : List (It (n + 1)), ls.map intI = ks := ⟨_, rfl⟩
 rw [hks]
 have HK0 : Hid (ls.map intI = ks /\ ks.length = l) := ⟨hks, by rw [<- hks, List.length_map]; exact HX.out.2.1⟩
 clear hks
 go_enter Tryz.func122, Tryz.ntmps122
 go_wp2_with fail
 obtain ⟨W3, hW3⟩ : ∃ W, W = w.alloc (Obj.cells #[Value.int IntKind.i64 0, Value.string ⟨#[]⟩, Value.slice none 0 0] 45) := ⟨_, rfl⟩
 rw [<- hW3]
 have H3 : Hid (Below w.heap.size w W3 /\ W3.heap.size = w.heap.size + 1 /\ Blk3 W3 w.heap.size (.int .i64 0) (.string ⟨#[]⟩) (.slice none 0 0)) := by rw [hW3]; exact ⟨(Below.refl _ _).alloc (Nat.le_refl _) _, Array.size_push _, heap_alloc_new w _⟩
 clear hW3
 go_loopw [5, 10] (fun kv iv wr => ∃ k : Nat, k <= l /\ iv = .int .i64 k /\ Hid (Blk3 wr w.heap.size (.int .i64 0) (.string ⟨#[]⟩) (.slice none 0 0) /\ GrowK wr (w.heap.size + 1) n kv (ks.take k) /\ Below w.heap.size w wr /\ w.heap.size + 1 <= wr.heap.size)) (fun _ iv _ => l - (intOf iv).toNat)
 case atStart => exact ⟨0, Nat.zero_le _, rfl, H3.out.2.2, GrowK.nil _ _ _, H3.out.1, by rw [H3.out.2.1]; exact Nat.le_refl _⟩
 case round =>
  obtain ⟨k, hk, rfl, HK⟩ := hrel
  clear H3
  obtain ⟨axe, cape, hkv⟩ := HK.out.2.1.shape
  obtain ⟨le, hle⟩ : ∃ le, (ks.take k).length = le := ⟨_, rfl⟩
  have hlek : le = k := by rw [<- hle, List.length_take]; have := HK0.out.2; omega
  rw [hle, hlek] at hkv
  subst hkv
  clear hle hlek
  by_cases hlt : k < l
  ·have hlti : (k : Int) < (l : Int) := by omega
   have hk0 : (0 : Int) <= (k : Int) := by omega
   have hj0 : k < ls.length := by rw [HX.out.2.1]; exact hlt
   have hj1 : k < ks.length := by rw [HK0.out.2]; exact hlt
   obtain ⟨g1, hax, hg1, hc1⟩ := HX.out.1 k hj0
   have c10 : wr.cell? ⟨g1, k, none⟩ = some (.int .i64 (ls.getD k 0)) := (HK.out.2.2.1.cell (p := ⟨g1, k, none⟩) hg1).trans hc1
   have hm : (ls.getD k 0) ∈ ls := by rw [List.getD_eq_getElem?_getD, List.getElem?_eq_getElem hj0]; exact List.getElem_mem _
   obtain ⟨x, hxe⟩ : ∃ x, (ls.getD k 0) = x := ⟨_, rfl⟩
   rw [hxe] at c10 hm
   have hkx : ks[k] = intI x := by
    rw [<- hxe]
    have h := HK0.out.1
    subst h
    simp [List.getD, hj0]
   have E := implIntItem_any x wr (HX.out.2.2 x hm)
   obtain ⟨s3, hs3⟩ : ∃ s3 : ByteArray, (⟨(intT (numN x)).toArray⟩ : ByteArray) = s3 := ⟨_, rfl⟩
   have HT : Hid (It.tag ks[k] = 2 /\ (⟨(It.text ks[k]).toArray⟩ : ByteArray) = s3 /\ It.kids ks[k] = []) := by
    rw [hkx]
    exact ⟨rfl, by rw [<- hs3]; rfl, rfl⟩
   have E3 : Calls Tryz.prog 120 #[.int .i64 x] wr fun e w' => e = .returned (.agg #[.int .i64 2, .string s3, .slice none 0 0]) /\ Below wr.heap.size wr w' := by
    refine E.mono ?_
    rintro e w' ⟨rfl, hb⟩
    exact ⟨by rw [<- hs3], hb⟩
   clear E
   have htl : (ks.take k).length = k := by rw [List.length_take]; omega
   subst hax
   clear hc1 hg1 hxe hkx hm hs3
   go_wp2_with fail
   refine E3.mono ?_
   rintro e w3 ⟨rfl, hb3⟩
   have H4 : Hid (Below wr.heap.size wr w3 /\ OwnK w3 wr.heap.size n (.slice none 0 0) (It.kids ks[k]) []) := ⟨hb3, by rw [HT.out.2.2]; exact own_none _ _ _⟩
   clear E3 hb3 c10
   go_wp2_with (at_builtin; refine wpList_append_item rfl _ _ rfl (w.heap.size + 1) n (.slice axe k cape) (ks.take k) ks[k] 2 s3 (.slice none 0 0) [] HT.out.1 HT.out.2.1 rfl _ rfl (by simp) HK.out.2.1 H4.out.1 H4.out.2 HK.out.2.2.2 (by omega) ?_)
   intro g cap w6 hG6 hgrow6
   have H6 : Hid (Blk3 w6 w.heap.size (.int .i64 0) (.string ⟨#[]⟩) (.slice none 0 0) /\ GrowK w6 (w.heap.size + 1) n (.slice (some ⟨g, 0, none⟩) (k + 1) cap) (ks.take (k + 1)) /\ Below w.heap.size w w6 /\ w.heap.size + 1 <= w6.heap.size) := by
    have hb5 := H4.out.1.alloc H4.out.1.size (Obj.cells #[Value.int IntKind.i64 2, Value.string s3, Value.slice none 0 0] 45)
    have hbw := HK.out.2.2.1.trans (hb5.mono HK.out.2.2.1.size)
    have e := List.take_append_getElem hj1
    have hkb := HK.out.2.1.lt
    try rw [htl] at hG6
    try rw [e] at hG6
    exact ⟨(HK.out.1.below hb5).grown hgrow6 (fun q => by have := (hkb _ q.symm).1; omega), hG6, hbw.grown hgrow6 hbw.size (fun q hq => by have := (hkb q hq).1; omega), Nat.le_trans HK.out.2.2.2 (Nat.le_trans hb5.size hgrow6.size)⟩
   try rw [htl]
   clear hG6 hgrow6 H4 HK
   go_wp2_with fail
   exact ⟨⟨k + 1, by omega, by go_num, H6⟩, by simp [intOf]; omega⟩
  ·have hlti : ¬ (k : Int) < (l : Int) := by omega
   obtain ⟨⟨r0, r1, r2⟩, rf⟩ := cell_in HK.out.1
   have HE : Hid (∃ fp, OwnK wr (w.heap.size + 1) (n + 1) (.slice axe k cape) ks fp) := by
    have h := HK.out.2.1
    rw [List.take_of_length_le (by have := HK0.out.2; omega)] at h
    exact h.own
   go_wp2_with fail
   refine bodyPost_ret (v := .agg #[.int .i64 48, .string ⟨#[]⟩, .slice axe k cape]) (by simp [results, Tryz.results122, go_sem, r0, r1, r2]; try rfl) rfl ?_
   obtain ⟨fp, hfp⟩ := HE.out
   refine ⟨.slice axe k cape, fp, rfl, ?_, ?_⟩
   ·refine OwnK.base (base := w.heap.size + 1) (by omega) (hfp.same fun b hb => ?_)
    have h1 := (OwnK.lt hfp b hb).1
    rw [heap_setCell_other _ _ _ _ (by show b ≠ w.heap.size; omega), heap_setCell_other _ _ _ _ (by show b ≠ w.heap.size; omega), heap_setCell_other _ _ _ _ (by show b ≠ w.heap.size; omega)]
   ·exact ((HK.out.2.2.1.setCell (p := ⟨w.heap.size, 0, none⟩) (Nat.le_refl _) _).setCell (p := ⟨w.heap.size, 1, none⟩) (Nat.le_refl _) _).setCell (p := ⟨w.heap.size, 2, none⟩) (Nat.le_refl _) _
def revI (p : Int × Int) : It 2 := lstJ [intI p.1, intI p.2]
def headL (c : Cl) : List (It 3) := [txtJ c.issuer, intI c.num, intI c.ths, intI c.nxt, intI c.bas]
def bodyL (c : Cl) : It 4 := lstJ (headL c ++ [lstJ (c.revs.map revI)])
theorem to_any {w w' : World} {n : Nat} {ks : List (It (n + 1))} {e : Ending} (h : ToIt w (n + 1) (lstJ ks) e w') : ∃ (a : Option Addr) (l cx : Nat) (fp : List Nat), e = .returned (.agg #[.int .i64 48, .string ⟨#[]⟩, .slice a l cx]) /\ OwnK w' w.heap.size (n + 1) (.slice a l cx) ks fp /\ Below w.heap.size w w' := by
 obtain ⟨k, fp, rfl, ho, hb⟩ := h
 obtain ⟨a, cx, rfl⟩ := ho.shape
 exact ⟨a, _, cx, fp, rfl, ho, hb⟩
theorem ints_own {W W' : World} {a b : Int} (hW : W' = W.alloc (Obj.cells #[.int .i64 a, .int .i64 b] 3)) : IntAt W' (.slice (some ⟨W.heap.size, 0, none⟩) 2 2) [a, b] := ints_at hW
set_option maxHeartbeats 3200000 in
theorem revItem_any (s r : Int) (w : World) (hw : Wd [s, r]) : Calls Tryz.prog 217 #[.agg #[.int .i64 s, .int .i64 r]] w fun e w' => ToIt w 1 (revI (s, r)) e w' := by
 have HW : Hid (Wd [s, r]) := hw
 clear hw
 go_enter Tryz.func217, Tryz.ntmps217
 go_wp2_with fail
 obtain ⟨W3, hW3⟩ : ∃ W, W = ((w.alloc (Obj.cells #[.int .i64 s, .int .i64 r] 161)).alloc (Obj.cells #[Value.int IntKind.i64 0, Value.string ⟨#[]⟩, Value.slice none 0 0] 45)).alloc (Obj.cells #[.int .i64 s, .int .i64 r] 3) := ⟨_, rfl⟩
 rw [<- hW3]
 have e0 : (w.alloc (Obj.cells #[.int .i64 s, .int .i64 r] 161)).heap.size = w.heap.size + 1 := Array.size_push _
 have e1 : ((w.alloc (Obj.cells #[.int .i64 s, .int .i64 r] 161)).alloc (Obj.cells #[Value.int IntKind.i64 0, Value.string ⟨#[]⟩, Value.slice none 0 0] 45)).heap.size = w.heap.size + 1 + 1 := by rw [size_alloc, e0]
 have H3 : Hid (Below w.heap.size w W3 /\ Blk3 W3 (w.heap.size + 1) (.int .i64 0) (.string ⟨#[]⟩) (.slice none 0 0) /\ IntAt W3 (.slice (some ⟨w.heap.size + 1 + 1, 0, none⟩) 2 2) [s, r] /\ W3.heap.size = w.heap.size + 3) := by
  refine ⟨by rw [hW3]; exact (((Below.refl _ _).alloc (Nat.le_refl _) _).alloc (by rw [e0]; omega) _).alloc (by rw [e1]; omega) _, ?_, ?_, by rw [hW3, size_alloc, e1]⟩
  ·have h := heap_alloc_new (w.alloc (Obj.cells #[.int .i64 s, .int .i64 r] 161)) (Obj.cells #[Value.int IntKind.i64 0, Value.string ⟨#[]⟩, Value.slice none 0 0] 45)
   rw [e0] at h
   rw [hW3]
   exact (heap_alloc_old _ _ (by rw [e1]; omega)).trans h
  ·have h := ints_own hW3
   rw [e1] at h
   exact h
 clear hW3 e0 e1
 refine (rowInt_any 0 [s, r] _ W3 (by show 2 <= 20000000; decide) HW.out H3.out.2.2.1).mono ?_
 intro e w4 hto
 obtain ⟨a, l, cx, fp, rfl, ho, hb⟩ := to_any hto
 clear hto
 have H4 : Hid (Below w.heap.size w w4 /\ Blk3 w4 (w.heap.size + 1) (.int .i64 0) (.string ⟨#[]⟩) (.slice none 0 0) /\ OwnK w4 (w.heap.size + 3) 1 (.slice a l cx) [intI s, intI r] fp) := ⟨H3.out.1.trans (hb.mono H3.out.1.size), H3.out.2.1.below hb, by have h := H3.out.2.2.2; rw [<- h]; exact ho⟩
 obtain ⟨⟨r0, r1, r2⟩, rf⟩ := cell_in H4.out.2.1
 clear H3 ho hb
 go_wp2_with fail
 refine bodyPost_ret (v := .agg #[.int .i64 48, .string ⟨#[]⟩, .slice a l cx]) (by simp [results, Tryz.results217, go_sem, r0, r1, r2]; try rfl) rfl ?_
 refine ⟨.slice a l cx, fp, rfl, ?_, ?_⟩
 ·refine OwnK.base (base := w.heap.size + 3) (by omega) (H4.out.2.2.same fun b hb => ?_)
  have h1 := (OwnK.lt H4.out.2.2 b hb).1
  rw [heap_setCell_other _ _ _ _ (by show b ≠ w.heap.size + 1; omega), heap_setCell_other _ _ _ _ (by show b ≠ w.heap.size + 1; omega), heap_setCell_other _ _ _ _ (by show b ≠ w.heap.size + 1; omega)]
 ·exact ((H4.out.1.setCell (p := ⟨w.heap.size + 1, 0, none⟩) (by show w.heap.size <= w.heap.size + 1; omega) _).setCell (p := ⟨w.heap.size + 1, 1, none⟩) (by show w.heap.size <= w.heap.size + 1; omega) _).setCell (p := ⟨w.heap.size + 1, 2, none⟩) (by show w.heap.size <= w.heap.size + 1; omega) _
set_option maxHeartbeats 3200000 in
theorem rowRev_any (ls : List (Int × Int)) (v : Value) (w : World) (hz : ls.length <= 20000000) (hwd : WdR ls) (hx : RevAt w v ls) :
  Calls Tryz.prog 216 #[v, .func (.func 217) #[] #[]] w fun e w' => ToIt w 2 (lstJ (ls.map revI)) e w' := by
 obtain ⟨ax, cx, rfl, hcell⟩ := hx
 obtain ⟨l, hle⟩ : ∃ l, ls.length = l := ⟨_, rfl⟩
 have HX : Hid ((∀ j, j < ls.length -> ∃ g, ax = some ⟨g, 0, none⟩ /\ g < w.heap.size /\ w.cell? ⟨g, j * 2, none⟩ = some (.int .i64 (ls.getD j (0, 0)).1) /\ w.cell? ⟨g, j * 2 + 1, none⟩ = some (.int .i64 (ls.getD j (0, 0)).2)) /\ ls.length = l /\ WdR ls) := ⟨hcell, hle, hwd⟩
 have hlb : l <= 20000000 := by rw [<- hle]; exact hz
 rw [hle]
 clear hz hle hcell hwd
 obtain ⟨ks, hks⟩ : ∃ ks : List (It 2), ls.map revI = ks := ⟨_, rfl⟩
 rw [hks]
 have HK0 : Hid (ls.map revI = ks /\ ks.length = l) := ⟨hks, by rw [<- hks, List.length_map]; exact HX.out.2.1⟩
 clear hks
 go_enter Tryz.func216, Tryz.ntmps216
 go_wp2_with fail
 obtain ⟨W3, hW3⟩ : ∃ W, W = w.alloc (Obj.cells #[Value.int IntKind.i64 0, Value.string ⟨#[]⟩, Value.slice none 0 0] 45) := ⟨_, rfl⟩
 rw [<- hW3]
 have H3 : Hid (Below w.heap.size w W3 /\ W3.heap.size = w.heap.size + 1 /\ Blk3 W3 w.heap.size (.int .i64 0) (.string ⟨#[]⟩) (.slice none 0 0)) := by rw [hW3]; exact ⟨(Below.refl _ _).alloc (Nat.le_refl _) _, Array.size_push _, heap_alloc_new w _⟩
 clear hW3
 go_loopw [5, 10] (fun kv iv wr => ∃ k : Nat, k <= l /\ iv = .int .i64 k /\ Hid (Blk3 wr w.heap.size (.int .i64 0) (.string ⟨#[]⟩) (.slice none 0 0) /\ GrowK wr (w.heap.size + 1) 1 kv (ks.take k) /\ Below w.heap.size w wr /\ w.heap.size + 1 <= wr.heap.size)) (fun _ iv _ => l - (intOf iv).toNat)
 case atStart => exact ⟨0, Nat.zero_le _, rfl, H3.out.2.2, GrowK.nil _ _ _, H3.out.1, by rw [H3.out.2.1]; exact Nat.le_refl _⟩
 case round =>
  obtain ⟨k, hk, rfl, HK⟩ := hrel
  clear H3
  obtain ⟨axe, cape, hkv⟩ := HK.out.2.1.shape
  obtain ⟨le, hle⟩ : ∃ le, (ks.take k).length = le := ⟨_, rfl⟩
  have hlek : le = k := by rw [<- hle, List.length_take]; have := HK0.out.2; omega
  rw [hle, hlek] at hkv
  subst hkv
  clear hle hlek
  by_cases hlt : k < l
  ·have hlti : (k : Int) < (l : Int) := by omega
   have hk0 : (0 : Int) <= (k : Int) := by omega
   have hj0 : k < ls.length := by rw [HX.out.2.1]; exact hlt
   have hj1 : k < ks.length := by rw [HK0.out.2]; exact hlt
   obtain ⟨g1, hax, hg1, hc1, hc2⟩ := HX.out.1 k hj0
   have c10 : wr.cell? ⟨g1, k * 2, none⟩ = some (.int .i64 (ls.getD k (0, 0)).1) := (HK.out.2.2.1.cell (p := ⟨g1, k * 2, none⟩) hg1).trans hc1
   have c11 : wr.cell? ⟨g1, k * 2 + 1, none⟩ = some (.int .i64 (ls.getD k (0, 0)).2) := (HK.out.2.2.1.cell (p := ⟨g1, k * 2 + 1, none⟩) hg1).trans hc2
   have hm := HX.out.2.2 _ (getR_mem hj0)
   have hkx : ks[k] = revI ((ls.getD k (0, 0)).1, (ls.getD k (0, 0)).2) := by
    have h := HK0.out.1
    subst h
    simp [List.getD, hj0]
   generalize (ls.getD k (0, 0)).1 = s at *
   generalize (ls.getD k (0, 0)).2 = r at *
   have HT : Hid (It.tag ks[k] = 48 /\ (⟨(It.text ks[k]).toArray⟩ : ByteArray) = ⟨#[]⟩ /\ It.kids ks[k] = [intI s, intI r]) := by
    rw [hkx]
    exact ⟨rfl, rfl, rfl⟩
   have HWD : Hid (Wd [s, r]) := fun x hx => by
    simp only [List.mem_cons, List.not_mem_nil, or_false] at hx
    rcases hx with rfl | rfl
    ·exact hm.1
    ·exact hm.2
   have htl : (ks.take k).length = k := by rw [List.length_take]; omega
   subst hax
   clear hc1 hc2 hg1 hkx hm
   go_wp2_with fail
   obtain ⟨W1, hW1⟩ : ∃ W, W = wr.alloc (Obj.cells #[.int .i64 s, .int .i64 r] 161) := ⟨_, rfl⟩
   rw [<- hW1]
   have HB1 : Hid (Below wr.heap.size wr W1) := by rw [hW1]; exact (Below.refl _ _).alloc (Nat.le_refl _) _
   clear hW1 c10 c11
   refine (revItem_any s r W1 HWD.out).mono ?_
   intro e w3 hto
   obtain ⟨a3, l3, x3, f3, rfl, ho3, hb3⟩ := to_any hto
   clear hto
   have H4 : Hid (Below wr.heap.size wr w3 /\ OwnK w3 wr.heap.size 1 (.slice a3 l3 x3) (It.kids ks[k]) f3) := ⟨HB1.out.trans (hb3.mono HB1.out.size), by rw [HT.out.2.2]; exact OwnK.base HB1.out.size ho3⟩
   clear ho3 hb3 HB1
   go_wp2_with (at_builtin; refine wpList_append_item rfl _ _ rfl (w.heap.size + 1) 1 (.slice axe k cape) (ks.take k) ks[k] 48 ⟨#[]⟩ (.slice a3 l3 x3) f3 HT.out.1 HT.out.2.1 rfl _ rfl (by simp) HK.out.2.1 H4.out.1 H4.out.2 HK.out.2.2.2 (by omega) ?_)
   intro g cap w6 hG6 hgrow6
   have H6 : Hid (Blk3 w6 w.heap.size (.int .i64 0) (.string ⟨#[]⟩) (.slice none 0 0) /\ GrowK w6 (w.heap.size + 1) 1 (.slice (some ⟨g, 0, none⟩) (k + 1) cap) (ks.take (k + 1)) /\ Below w.heap.size w w6 /\ w.heap.size + 1 <= w6.heap.size) := by
    have hb5 := H4.out.1.alloc H4.out.1.size (Obj.cells #[Value.int IntKind.i64 48, Value.string ⟨#[]⟩, Value.slice a3 l3 x3] 45)
    have hbw := HK.out.2.2.1.trans (hb5.mono HK.out.2.2.1.size)
    have e := List.take_append_getElem hj1
    have hkb := HK.out.2.1.lt
    try rw [htl] at hG6
    try rw [e] at hG6
    exact ⟨(HK.out.1.below hb5).grown hgrow6 (fun q => by have := (hkb _ q.symm).1; omega), hG6, hbw.grown hgrow6 hbw.size (fun q hq => by have := (hkb q hq).1; omega), Nat.le_trans HK.out.2.2.2 (Nat.le_trans hb5.size hgrow6.size)⟩
   try rw [htl]
   clear hG6 hgrow6 H4 HK
   go_wp2_with fail
   exact ⟨⟨k + 1, by omega, by go_num, H6⟩, by simp [intOf]; omega⟩
  ·have hlti : ¬ (k : Int) < (l : Int) := by omega
   obtain ⟨⟨r0, r1, r2⟩, rf⟩ := cell_in HK.out.1
   have HE : Hid (∃ fp, OwnK wr (w.heap.size + 1) 2 (.slice axe k cape) ks fp) := by
    have h := HK.out.2.1
    rw [List.take_of_length_le (by have := HK0.out.2; omega)] at h
    exact h.own
   go_wp2_with fail
   refine bodyPost_ret (v := .agg #[.int .i64 48, .string ⟨#[]⟩, .slice axe k cape]) (by simp [results, Tryz.results216, go_sem, r0, r1, r2]; try rfl) rfl ?_
   obtain ⟨fp, hfp⟩ := HE.out
   refine ⟨.slice axe k cape, fp, rfl, ?_, ?_⟩
   ·refine OwnK.base (base := w.heap.size + 1) (by omega) (hfp.same fun b hb => ?_)
    have h1 := (OwnK.lt hfp b hb).1
    rw [heap_setCell_other _ _ _ _ (by show b ≠ w.heap.size; omega), heap_setCell_other _ _ _ _ (by show b ≠ w.heap.size; omega), heap_setCell_other _ _ _ _ (by show b ≠ w.heap.size; omega)]
   ·exact ((HK.out.2.2.1.setCell (p := ⟨w.heap.size, 0, none⟩) (Nat.le_refl _) _).setCell (p := ⟨w.heap.size, 1, none⟩) (Nat.le_refl _) _).setCell (p := ⟨w.heap.size, 2, none⟩) (Nat.le_refl _) _
end Go.Proofs.YtjgbmnhoajiabaaGreatDoor
