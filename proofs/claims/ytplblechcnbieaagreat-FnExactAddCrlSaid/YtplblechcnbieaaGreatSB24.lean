/-
  Texts of the proof.
-/
import Derived.Test.YtplblechcnbieaaGreatSB23
set_option maxRecDepth 100000
set_option maxHeartbeats 25600000
namespace Go.Proofs.YtplblechcnbieaaGreat
open Go.RowKit Der
set_option linter.unusedVariables false
theorem bytesItem_any (s : ByteArray) (w : World) (hs : s.size <= 20000000) : Calls Tryz.prog 126 #[.string s] w fun e w' => e = .returned (.agg #[.int .i64 4, .string s, .slice none 0 0]) /\ Below w.heap.size w w' := by
 go_enter Tryz.func126, Tryz.ntmps126
 go_wp2_with fail
 obtain ⟨W, hW⟩ : ∃ W, W = w.alloc (Obj.cells #[Value.int IntKind.i64 0, Value.string ⟨#[]⟩, Value.slice none 0 0] 122) := ⟨_, rfl⟩
 rw [<- hW]
 have H3 : Hid (Below w.heap.size w W /\ Blk3 W w.heap.size (.int .i64 0) (.string ⟨#[]⟩) (.slice none 0 0)) := by rw [hW]; exact ⟨(Below.refl _ _).alloc (Nat.le_refl _) _, heap_alloc_new w _⟩
 clear hW
 refine (cloneB_any s W (by omega)).mono ?_
 rintro e w2 ⟨rfl, hb2⟩
 have H4 : Hid (Below w.heap.size w w2 /\ Blk3 w2 w.heap.size (.int .i64 0) (.string ⟨#[]⟩) (.slice none 0 0)) := ⟨H3.out.1.trans (hb2.mono H3.out.1.size), H3.out.2.below hb2⟩
 obtain ⟨⟨r0, r1, r2⟩, rf⟩ := cell_in H4.out.2
 clear H3 hb2
 go_wp2_with fail
 refine bodyPost_ret (v := .agg #[.int .i64 4, .string s, .slice none 0 0]) (by simp [results, Tryz.results126, go_sem, r0, r1, r2]; try rfl) rfl ⟨rfl, ?_⟩
 exact ((H4.out.1.setCell (p := ⟨w.heap.size, 0, none⟩) (Nat.le_refl _) _).setCell (p := ⟨w.heap.size, 1, none⟩) (Nat.le_refl _) _).setCell (p := ⟨w.heap.size, 2, none⟩) (Nat.le_refl _) _
theorem boolItem_any (b : Bool) (w : World) : Calls Tryz.prog 130 #[.bool b] w fun e w' => e = .returned (.agg #[.int .i64 1, .string ⟨[if b then 255 else 0].toArray⟩, .slice none 0 0]) /\ Below w.heap.size w w' := by
 cases b with
 | true =>
  go_enter Tryz.func130, Tryz.ntmps130
  go_wp2_with fail
  refine bodyPost_ret (v := .agg #[.int .i64 1, .string ⟨#[255]⟩, .slice none 0 0]) (by simp [results, Tryz.results130, go_sem]; try rfl) rfl ⟨rfl, ?_⟩
  exact (Below.refl _ _).alloc (Nat.le_refl _) _
 | false =>
  go_enter Tryz.func130, Tryz.ntmps130
  go_wp2_with fail
  refine bodyPost_ret (v := .agg #[.int .i64 1, .string ⟨#[0]⟩, .slice none 0 0]) (by simp [results, Tryz.results130, go_sem]; try rfl) rfl ⟨rfl, ?_⟩
  exact (Below.refl _ _).alloc (Nat.le_refl _) _
theorem rowInt_any (n : Nat) (ls : List Int) (v : Value) (w : World) (hz : ls.length <= 20000000) (hwd : Wd ls) (hx : IntAt w v ls) :
  Calls Tryz.prog 129 #[v, .func (.func 127) #[] #[]] w fun e w' => ToIt w (n + 1) (lstJ (ls.map intI)) e w' := by
 obtain ⟨ax, cx, rfl, hcell⟩ := hx.each
 obtain ⟨l, hle⟩ := zE (ls.length)
 have HX : Hid ((∀ j, j < ls.length -> ∃ g, ax = some ⟨g, 0, none⟩ /\ g < w.heap.size /\ w.cell? ⟨g, j, none⟩ = some (.int .i64 (ls.getD j 0))) /\ ls.length = l /\ (Wd ls)) := ⟨hcell, hle, hwd⟩
 have hlb : l <= 20000000 := by rw [<- hle]; exact hz
 rw [hle]
 clear hx hz hle hcell hwd
 obtain ⟨ks, hks⟩ : ∃ ks : List (It (n + 1)), ls.map intI = ks := ⟨_, rfl⟩
 rw [hks]
 have HK0 : Hid (ls.map intI = ks /\ ks.length = l) := ⟨hks, by rw [<- hks, List.length_map]; exact HX.out.2.1⟩
 clear hks
 go_enter Tryz.func129, Tryz.ntmps129
 go_wp2_with fail
 obtain ⟨W3, hW3⟩ : ∃ W, W = w.alloc (Obj.cells #[Value.int IntKind.i64 0, Value.string ⟨#[]⟩, Value.slice none 0 0] 122) := ⟨_, rfl⟩
 rw [<- hW3]
 have H3 : Hid (Below w.heap.size w W3 /\ W3.heap.size = w.heap.size + 1 /\ Blk3 W3 w.heap.size (.int .i64 0) (.string ⟨#[]⟩) (.slice none 0 0)) := by rw [hW3]; exact ⟨(Below.refl _ _).alloc (Nat.le_refl _) _, Array.size_push _, heap_alloc_new w _⟩
 clear hW3
 go_loopw [5, 10] (fun kv iv wr => ∃ k : Nat, k <= l /\ iv = .int .i64 k /\ Hid (Blk3 wr w.heap.size (.int .i64 0) (.string ⟨#[]⟩) (.slice none 0 0) /\ GrowK wr (w.heap.size + 1) n kv (ks.take k) /\ Below w.heap.size w wr /\ w.heap.size + 1 <= wr.heap.size)) (fun _ iv _ => l - (intOf iv).toNat)
 case atStart => exact ⟨0, Nat.zero_le _, rfl, H3.out.2.2, GrowK.nil _ _ _, H3.out.1, by rw [H3.out.2.1]; exact Nat.le_refl _⟩
 case round =>
  obtain ⟨k, hk, rfl, HK⟩ := hrel
  clear H3
  obtain ⟨axe, cape, hkv⟩ := HK.out.2.1.shape
  obtain ⟨le, hle⟩ := zE ((ks.take k).length)
  have hlek : le = k := by rw [<- hle, List.length_take]; have := HK0.out.2; omega
  rw [hle, hlek] at hkv
  subst hkv
  clear hle hlek
  by_cases hlt : k < l
  ·have hlti : (k : Int) < (l : Int) := by omega
   have hk0 : (0 : Int) <= (k : Int) := by omega
   have hj0 : k < ls.length := by rw [HX.out.2.1]; exact hlt
   have hj1 : k < ks.length := by rw [HK0.out.2]; exact hlt
   obtain ⟨g1, hax, hg1, hc1⟩ := HX.out.1 k hj0
   have c10 : wr.cell? ⟨g1, k, none⟩ = some (.int .i64 (ls.getD k 0)) := (HK.out.2.2.1.cell (p := ⟨g1, k, none⟩) hg1).trans hc1
   have hm : (ls.getD k 0) ∈ ls := by rw [List.getD_eq_getElem?_getD, List.getElem?_eq_getElem hj0]; exact List.getElem_mem _
   obtain ⟨x, hxe⟩ := zE ((ls.getD k 0))
   rw [hxe] at c10 hm
   have hkx : ks[k] = intI x := by
    rw [<- hxe]
    have h := HK0.out.1
    subst h
    simp [List.getD, hj0]
   have E := implIntItem_any x wr (HX.out.2.2 x hm)
   obtain ⟨s3, hs3⟩ : ∃ s3 : ByteArray, (⟨(intT (numN x)).toArray⟩ : ByteArray) = s3 := ⟨_, rfl⟩
   have HT : Hid (It.tag ks[k] = 2 /\ (⟨(It.text ks[k]).toArray⟩ : ByteArray) = s3 /\ It.kids ks[k] = []) := by
    rw [hkx]
    exact ⟨rfl, by rw [<- hs3]; rfl, rfl⟩
   have E3 : Calls Tryz.prog 127 #[.int .i64 x] wr fun e w' => e = .returned (.agg #[.int .i64 2, .string s3, .slice none 0 0]) /\ Below wr.heap.size wr w' := by
    refine E.mono ?_
    rintro e w' ⟨rfl, hb⟩
    exact ⟨by rw [<- hs3], hb⟩
   clear E
   have htl : (ks.take k).length = k := by rw [List.length_take]; omega
   subst hax
   clear hc1 hg1 hxe hkx hm hs3
   go_wp2_with fail
   refine E3.mono ?_
   rintro e w3 ⟨rfl, hb3⟩
   have H4 : Hid (Below wr.heap.size wr w3 /\ OwnK w3 wr.heap.size n (.slice none 0 0) (It.kids ks[k]) []) := ⟨hb3, by rw [HT.out.2.2]; exact own_none _ _ _⟩
   clear E3 hb3 c10
   go_wp2_with (at_builtin; refine wpList_append_item rfl _ _ rfl (w.heap.size + 1) n (.slice axe k cape) (ks.take k) ks[k] 2 s3 (.slice none 0 0) [] HT.out.1 HT.out.2.1 rfl _ rfl (by simp) HK.out.2.1 H4.out.1 H4.out.2 HK.out.2.2.2 (by omega) ?_)
   intro g cap w6 hG6 hgrow6
   have H6 : Hid (Blk3 w6 w.heap.size (.int .i64 0) (.string ⟨#[]⟩) (.slice none 0 0) /\ GrowK w6 (w.heap.size + 1) n (.slice (some ⟨g, 0, none⟩) (k + 1) cap) (ks.take (k + 1)) /\ Below w.heap.size w w6 /\ w.heap.size + 1 <= w6.heap.size) := by
    have hb5 := H4.out.1.alloc H4.out.1.size (Obj.cells #[Value.int IntKind.i64 2, Value.string s3, Value.slice none 0 0] 122)
    have hbw := HK.out.2.2.1.trans (hb5.mono HK.out.2.2.1.size)
    have e := List.take_append_getElem hj1
    have hkb := HK.out.2.1.lt
    try rw [htl] at hG6
    try rw [e] at hG6
    exact ⟨(HK.out.1.below hb5).grown hgrow6 (fun q => by have := (hkb _ q.symm).1; omega), hG6, hbw.grown hgrow6 hbw.size (fun q hq => by have := (hkb q hq).1; omega), Nat.le_trans HK.out.2.2.2 (Nat.le_trans hb5.size hgrow6.size)⟩
   try rw [htl]
   clear hG6 hgrow6 H4 HK
   go_wp2_with fail
   exact ⟨⟨k + 1, by omega, by go_num, H6⟩, by simp [intOf]; omega⟩
  ·have hlti : ¬ (k : Int) < (l : Int) := by omega
   obtain ⟨⟨r0, r1, r2⟩, rf⟩ := cell_in HK.out.1
   have HE : Hid (∃ fp, OwnK wr (w.heap.size + 1) (n + 1) (.slice axe k cape) ks fp) := by
    have h := HK.out.2.1
    rw [List.take_of_length_le (by have := HK0.out.2; omega)] at h
    exact h.own
   go_wp2_with fail
   refine bodyPost_ret (v := .agg #[.int .i64 48, .string ⟨#[]⟩, .slice axe k cape]) (by simp [results, Tryz.results129, go_sem, r0, r1, r2]; try rfl) rfl ?_
   obtain ⟨fp, hfp⟩ := HE.out
   refine ⟨.slice axe k cape, fp, rfl, ?_, ?_⟩
   ·refine OwnK.base (base := w.heap.size + 1) (by omega) (hfp.same fun b hb => ?_)
    have h1 := (OwnK.lt hfp b hb).1
    rw [heap_setCell_other _ _ _ _ (by show b ≠ w.heap.size; omega), heap_setCell_other _ _ _ _ (by show b ≠ w.heap.size; omega), heap_setCell_other _ _ _ _ (by show b ≠ w.heap.size; omega)]
   ·exact ((HK.out.2.2.1.setCell (p := ⟨w.heap.size, 0, none⟩) (Nat.le_refl _) _).setCell (p := ⟨w.heap.size, 1, none⟩) (Nat.le_refl _) _).setCell (p := ⟨w.heap.size, 2, none⟩) (Nat.le_refl _) _
theorem rowTxt_any (n : Nat) (ls : List ByteArray) (v : Value) (w : World) (hz : ls.length <= 20000000) (hwd : ∀ s ∈ ls, s.size <= 20000000) (hx : TxtAt w v ls) :
  Calls Tryz.prog 131 #[v, .func (.func 128) #[] #[]] w fun e w' => ToIt w (n + 1) (lstJ (ls.map txtJ)) e w' := by
 obtain ⟨ax, cx, rfl, hcell⟩ := id hx
 obtain ⟨l, hle⟩ := zE (ls.length)
 have HX : Hid ((∀ j, j < ls.length -> ∃ g, ax = some ⟨g, 0, none⟩ /\ g < w.heap.size /\ w.cell? ⟨g, j, none⟩ = some (.string (ls.getD j ByteArray.empty))) /\ ls.length = l /\ (∀ s ∈ ls, s.size <= 20000000)) := ⟨hcell, hle, hwd⟩
 have hlb : l <= 20000000 := by rw [<- hle]; exact hz
 rw [hle]
 clear hx hz hle hcell hwd
 obtain ⟨ks, hks⟩ : ∃ ks : List (It (n + 1)), ls.map txtJ = ks := ⟨_, rfl⟩
 rw [hks]
 have HK0 : Hid (ls.map txtJ = ks /\ ks.length = l) := ⟨hks, by rw [<- hks, List.length_map]; exact HX.out.2.1⟩
 clear hks
 go_enter Tryz.func131, Tryz.ntmps131
 go_wp2_with fail
 obtain ⟨W3, hW3⟩ : ∃ W, W = w.alloc (Obj.cells #[Value.int IntKind.i64 0, Value.string ⟨#[]⟩, Value.slice none 0 0] 122) := ⟨_, rfl⟩
 rw [<- hW3]
 have H3 : Hid (Below w.heap.size w W3 /\ W3.heap.size = w.heap.size + 1 /\ Blk3 W3 w.heap.size (.int .i64 0) (.string ⟨#[]⟩) (.slice none 0 0)) := by rw [hW3]; exact ⟨(Below.refl _ _).alloc (Nat.le_refl _) _, Array.size_push _, heap_alloc_new w _⟩
 clear hW3
 go_loopw [5, 10] (fun kv iv wr => ∃ k : Nat, k <= l /\ iv = .int .i64 k /\ Hid (Blk3 wr w.heap.size (.int .i64 0) (.string ⟨#[]⟩) (.slice none 0 0) /\ GrowK wr (w.heap.size + 1) n kv (ks.take k) /\ Below w.heap.size w wr /\ w.heap.size + 1 <= wr.heap.size)) (fun _ iv _ => l - (intOf iv).toNat)
 case atStart => exact ⟨0, Nat.zero_le _, rfl, H3.out.2.2, GrowK.nil _ _ _, H3.out.1, by rw [H3.out.2.1]; exact Nat.le_refl _⟩
 case round =>
  obtain ⟨k, hk, rfl, HK⟩ := hrel
  clear H3
  obtain ⟨axe, cape, hkv⟩ := HK.out.2.1.shape
  obtain ⟨le, hle⟩ := zE ((ks.take k).length)
  have hlek : le = k := by rw [<- hle, List.length_take]; have := HK0.out.2; omega
  rw [hle, hlek] at hkv
  subst hkv
  clear hle hlek
  by_cases hlt : k < l
  ·have hlti : (k : Int) < (l : Int) := by omega
   have hk0 : (0 : Int) <= (k : Int) := by omega
   have hj0 : k < ls.length := by rw [HX.out.2.1]; exact hlt
   have hj1 : k < ks.length := by rw [HK0.out.2]; exact hlt
   obtain ⟨g1, hax, hg1, hc1⟩ := HX.out.1 k hj0
   have c10 : wr.cell? ⟨g1, k, none⟩ = some (.string (ls.getD k ByteArray.empty)) := (HK.out.2.2.1.cell (p := ⟨g1, k, none⟩) hg1).trans hc1
   have hm : (ls.getD k ByteArray.empty) ∈ ls := by rw [List.getD_eq_getElem?_getD, List.getElem?_eq_getElem hj0]; exact List.getElem_mem _
   obtain ⟨x, hxe⟩ := zE ((ls.getD k ByteArray.empty))
   rw [hxe] at c10 hm
   have hkx : ks[k] = txtJ x := by
    rw [<- hxe]
    have h := HK0.out.1
    subst h
    simp [List.getD, hj0]
   have E := implTextItem_any x wr (HX.out.2.2 x hm)
   obtain ⟨s3, hs3⟩ : ∃ s3 : ByteArray, x = s3 := ⟨_, rfl⟩
   have HT : Hid (It.tag ks[k] = 12 /\ (⟨(It.text ks[k]).toArray⟩ : ByteArray) = s3 /\ It.kids ks[k] = []) := by
    rw [hkx]
    exact ⟨rfl, by rw [<- hs3]; show (⟨x.data.toList.toArray⟩ : ByteArray) = x; simp, rfl⟩
   have E3 : Calls Tryz.prog 128 #[.string x] wr fun e w' => e = .returned (.agg #[.int .i64 12, .string s3, .slice none 0 0]) /\ Below wr.heap.size wr w' := by
    refine E.mono ?_
    rintro e w' ⟨rfl, hb⟩
    exact ⟨by rw [<- hs3], hb⟩
   clear E
   have htl : (ks.take k).length = k := by rw [List.length_take]; omega
   subst hax
   clear hc1 hg1 hxe hkx hm hs3
   go_wp2_with fail
   refine E3.mono ?_
   rintro e w3 ⟨rfl, hb3⟩
   have H4 : Hid (Below wr.heap.size wr w3 /\ OwnK w3 wr.heap.size n (.slice none 0 0) (It.kids ks[k]) []) := ⟨hb3, by rw [HT.out.2.2]; exact own_none _ _ _⟩
   clear E3 hb3 c10
   go_wp2_with (at_builtin; refine wpList_append_item rfl _ _ rfl (w.heap.size + 1) n (.slice axe k cape) (ks.take k) ks[k] 12 s3 (.slice none 0 0) [] HT.out.1 HT.out.2.1 rfl _ rfl (by simp) HK.out.2.1 H4.out.1 H4.out.2 HK.out.2.2.2 (by omega) ?_)
   intro g cap w6 hG6 hgrow6
   have H6 : Hid (Blk3 w6 w.heap.size (.int .i64 0) (.string ⟨#[]⟩) (.slice none 0 0) /\ GrowK w6 (w.heap.size + 1) n (.slice (some ⟨g, 0, none⟩) (k + 1) cap) (ks.take (k + 1)) /\ Below w.heap.size w w6 /\ w.heap.size + 1 <= w6.heap.size) := by
    have hb5 := H4.out.1.alloc H4.out.1.size (Obj.cells #[Value.int IntKind.i64 12, Value.string s3, Value.slice none 0 0] 122)
    have hbw := HK.out.2.2.1.trans (hb5.mono HK.out.2.2.1.size)
    have e := List.take_append_getElem hj1
    have hkb := HK.out.2.1.lt
    try rw [htl] at hG6
    try rw [e] at hG6
    exact ⟨(HK.out.1.below hb5).grown hgrow6 (fun q => by have := (hkb _ q.symm).1; omega), hG6, hbw.grown hgrow6 hbw.size (fun q hq => by have := (hkb q hq).1; omega), Nat.le_trans HK.out.2.2.2 (Nat.le_trans hb5.size hgrow6.size)⟩
   try rw [htl]
   clear hG6 hgrow6 H4 HK
   go_wp2_with fail
   exact ⟨⟨k + 1, by omega, by go_num, H6⟩, by simp [intOf]; omega⟩
  ·have hlti : ¬ (k : Int) < (l : Int) := by omega
   obtain ⟨⟨r0, r1, r2⟩, rf⟩ := cell_in HK.out.1
   have HE : Hid (∃ fp, OwnK wr (w.heap.size + 1) (n + 1) (.slice axe k cape) ks fp) := by
    have h := HK.out.2.1
    rw [List.take_of_length_le (by have := HK0.out.2; omega)] at h
    exact h.own
   go_wp2_with fail
   refine bodyPost_ret (v := .agg #[.int .i64 48, .string ⟨#[]⟩, .slice axe k cape]) (by simp [results, Tryz.results131, go_sem, r0, r1, r2]; try rfl) rfl ?_
   obtain ⟨fp, hfp⟩ := HE.out
   refine ⟨.slice axe k cape, fp, rfl, ?_, ?_⟩
   ·refine OwnK.base (base := w.heap.size + 1) (by omega) (hfp.same fun b hb => ?_)
    have h1 := (OwnK.lt hfp b hb).1
    rw [heap_setCell_other _ _ _ _ (by show b ≠ w.heap.size; omega), heap_setCell_other _ _ _ _ (by show b ≠ w.heap.size; omega), heap_setCell_other _ _ _ _ (by show b ≠ w.heap.size; omega)]
   ·exact ((HK.out.2.2.1.setCell (p := ⟨w.heap.size, 0, none⟩) (Nat.le_refl _) _).setCell (p := ⟨w.heap.size, 1, none⟩) (Nat.le_refl _) _).setCell (p := ⟨w.heap.size, 2, none⟩) (Nat.le_refl _) _
end Go.Proofs.YtplblechcnbieaaGreat
