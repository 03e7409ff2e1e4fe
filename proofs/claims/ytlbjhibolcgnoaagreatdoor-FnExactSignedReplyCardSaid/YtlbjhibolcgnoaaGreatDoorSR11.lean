/-
  Texts of the proof.
-/
import Derived.Test.YtlbjhibolcgnoaaGreatDoorSR10
set_option maxRecDepth 100000
set_option maxHeartbeats 25600000
namespace Go.Proofs.YtlbjhibolcgnoaaGreatDoor
open Go.RowKit Der
set_option linter.unusedVariables false
theorem bytesItem_any (s : ByteArray) (w : World) (hs : s.size <= 20000000) : Calls Tryz.prog 74 #[.string s] w fun e w' => e = .returned (.agg #[.int .i64 4, .string s, .slice none 0 0]) /\ Below w.heap.size w w' := by
 go_enter Tryz.func74, Tryz.ntmps74
 go_wp2_with fail
 obtain ⟨W, hW⟩ : ∃ W, W = w.alloc (Obj.cells #[Value.int IntKind.i64 0, Value.string ⟨#[]⟩, Value.slice none 0 0] 57) := ⟨_, rfl⟩
 rw [<- hW]
 have H3 : Hid (Below w.heap.size w W /\ Blk3 W w.heap.size (.int .i64 0) (.string ⟨#[]⟩) (.slice none 0 0)) := by rw [hW]; exact ⟨(Below.refl _ _).alloc (Nat.le_refl _) _, heap_alloc_new w _⟩
 clear hW
 refine (cloneB_any s W (by omega)).mono ?_
 rintro e w2 ⟨rfl, hb2⟩
 have H4 : Hid (Below w.heap.size w w2 /\ Blk3 w2 w.heap.size (.int .i64 0) (.string ⟨#[]⟩) (.slice none 0 0)) := ⟨H3.out.1.trans (hb2.mono H3.out.1.size), H3.out.2.below hb2⟩
 obtain ⟨⟨r0, r1, r2⟩, rf⟩ := cell_in H4.out.2
 clear H3 hb2
 go_wp2_with fail
 refine bodyPost_ret (v := .agg #[.int .i64 4, .string s, .slice none 0 0]) (by simp [results, Tryz.results74, go_sem, r0, r1, r2]; try rfl) rfl ⟨rfl, ?_⟩
 exact ((H4.out.1.setCell (p := ⟨w.heap.size, 0, none⟩) (Nat.le_refl _) _).setCell (p := ⟨w.heap.size, 1, none⟩) (Nat.le_refl _) _).setCell (p := ⟨w.heap.size, 2, none⟩) (Nat.le_refl _) _
theorem rowByt_any (n : Nat) (ls : List ByteArray) (v : Value) (w : World) (hz : ls.length <= 20000000) (hwd : ∀ s ∈ ls, s.size <= 20000000) (hx : TxtAt w v ls) :
  Calls Tryz.prog 111 #[v, .func (.func 74) #[] #[]] w fun e w' => ToIt w (n + 1) (lstJ (ls.map bytJ)) e w' := by
 obtain ⟨ax, cx, rfl, hcell⟩ := id hx
 obtain ⟨l, hle⟩ := zE (ls.length)
 have HX : Hid ((∀ j, j < ls.length -> ∃ g, ax = some ⟨g, 0, none⟩ /\ g < w.heap.size /\ w.cell? ⟨g, j, none⟩ = some (.string (ls.getD j ByteArray.empty))) /\ ls.length = l /\ (∀ s ∈ ls, s.size <= 20000000)) := ⟨hcell, hle, hwd⟩
 have hlb : l <= 20000000 := by rw [<- hle]; exact hz
 rw [hle]
 clear hx hz hle hcell hwd
 obtain ⟨ks, hks⟩ : ∃ ks : List (It (n + 1)), ls.map bytJ = ks := ⟨_, rfl⟩
 rw [hks]
 have HK0 : Hid (ls.map bytJ = ks /\ ks.length = l) := ⟨hks, by rw [<- hks, List.length_map]; exact HX.out.2.1⟩
 clear hks
 go_enter Tryz.func111, Tryz.ntmps111
 go_wp2_with fail
 obtain ⟨W3, hW3⟩ : ∃ W, W = w.alloc (Obj.cells #[Value.int IntKind.i64 0, Value.string ⟨#[]⟩, Value.slice none 0 0] 57) := ⟨_, rfl⟩
 rw [<- hW3]
 have H3 : Hid (Below w.heap.size w W3 /\ W3.heap.size = w.heap.size + 1 /\ Blk3 W3 w.heap.size (.int .i64 0) (.string ⟨#[]⟩) (.slice none 0 0)) := by rw [hW3]; exact ⟨(Below.refl _ _).alloc (Nat.le_refl _) _, Array.size_push _, heap_alloc_new w _⟩
 clear hW3
 go_loopw [5, 10] (fun kv iv wr => ∃ k : Nat, k <= l /\ iv = .int .i64 k /\ Hid (Blk3 wr w.heap.size (.int .i64 0) (.string ⟨#[]⟩) (.slice none 0 0) /\ GrowK wr (w.heap.size + 1) n kv (ks.take k) /\ Below w.heap.size w wr /\ w.heap.size + 1 <= wr.heap.size)) (fun _ iv _ => l - (intOf iv).toNat)
 case atStart => exact ⟨0, Nat.zero_le _, rfl, H3.out.2.2, GrowK.nil _ _ _, H3.out.1, by rw [H3.out.2.1]; exact Nat.le_refl _⟩
 case round =>
  obtain ⟨k, hk, rfl, HK⟩ := hrel
  clear H3
  obtain ⟨axe, cape, hkv⟩ := HK.out.2.1.shape
  obtain ⟨le, hle⟩ := zE ((ks.take k).length)
  have hlek : le = k := by rw [<- hle, List.length_take]; have := HK0.out.2; omega
  rw [hle, hlek] at hkv
  subst hkv
  clear hle hlek
  by_cases hlt : k < l
  ·have hlti : (k : Int) < (l : Int) := by omega
   have hk0 : (0 : Int) <= (k : Int) := by omega
   have hj0 : k < ls.length := by rw [HX.out.2.1]; exact hlt
   have hj1 : k < ks.length := by rw [HK0.out.2]; exact hlt
   obtain ⟨g1, hax, hg1, hc1⟩ := HX.out.1 k hj0
   have c10 : wr.cell? ⟨g1, k, none⟩ = some (.string (ls.getD k ByteArray.empty)) := (HK.out.2.2.1.cell (p := ⟨g1, k, none⟩) hg1).trans hc1
   have hm : (ls.getD k ByteArray.empty) ∈ ls := by rw [List.getD_eq_getElem?_getD, List.getElem?_eq_getElem hj0]; exact List.getElem_mem _
   obtain ⟨x, hxe⟩ := zE ((ls.getD k ByteArray.empty))
   rw [hxe] at c10 hm
   have hkx : ks[k] = bytJ x := by
    rw [<- hxe]
    have h := HK0.out.1
    subst h
    simp [List.getD, hj0]
   have E := bytesItem_any x wr (HX.out.2.2 x hm)
   obtain ⟨s3, hs3⟩ : ∃ s3 : ByteArray, x = s3 := ⟨_, rfl⟩
   have HT : Hid (It.tag ks[k] = 4 /\ (⟨(It.text ks[k]).toArray⟩ : ByteArray) = s3 /\ It.kids ks[k] = []) := by
    rw [hkx]
    exact ⟨rfl, by rw [<- hs3]; show (⟨x.data.toList.toArray⟩ : ByteArray) = x; simp, rfl⟩
   have E3 : Calls Tryz.prog 74 #[.string x] wr fun e w' => e = .returned (.agg #[.int .i64 4, .string s3, .slice none 0 0]) /\ Below wr.heap.size wr w' := by
    refine E.mono ?_
    rintro e w' ⟨rfl, hb⟩
    exact ⟨by rw [<- hs3], hb⟩
   clear E
   have htl : (ks.take k).length = k := by rw [List.length_take]; omega
   subst hax
   clear hc1 hg1 hxe hkx hm hs3
   go_wp2_with fail
   refine E3.mono ?_
   rintro e w3 ⟨rfl, hb3⟩
   have H4 : Hid (Below wr.heap.size wr w3 /\ OwnK w3 wr.heap.size n (.slice none 0 0) (It.kids ks[k]) []) := ⟨hb3, by rw [HT.out.2.2]; exact own_none _ _ _⟩
   clear E3 hb3 c10
   go_wp2_with (at_builtin; refine wpList_append_item rfl _ _ rfl (w.heap.size + 1) n (.slice axe k cape) (ks.take k) ks[k] 4 s3 (.slice none 0 0) [] HT.out.1 HT.out.2.1 rfl _ rfl (by simp) HK.out.2.1 H4.out.1 H4.out.2 HK.out.2.2.2 (by omega) ?_)
   intro g cap w6 hG6 hgrow6
   have H6 : Hid (Blk3 w6 w.heap.size (.int .i64 0) (.string ⟨#[]⟩) (.slice none 0 0) /\ GrowK w6 (w.heap.size + 1) n (.slice (some ⟨g, 0, none⟩) (k + 1) cap) (ks.take (k + 1)) /\ Below w.heap.size w w6 /\ w.heap.size + 1 <= w6.heap.size) := by
    have hb5 := H4.out.1.alloc H4.out.1.size (Obj.cells #[Value.int IntKind.i64 4, Value.string s3, Value.slice none 0 0] 57)
    have hbw := HK.out.2.2.1.trans (hb5.mono HK.out.2.2.1.size)
    have e := List.take_append_getElem hj1
    have hkb := HK.out.2.1.lt
    try rw [htl] at hG6
    try rw [e] at hG6
    exact ⟨(HK.out.1.below hb5).grown hgrow6 (fun q => by have := (hkb _ q.symm).1; omega), hG6, hbw.grown hgrow6 hbw.size (fun q hq => by have := (hkb q hq).1; omega), Nat.le_trans HK.out.2.2.2 (Nat.le_trans hb5.size hgrow6.size)⟩
   try rw [htl]
   clear hG6 hgrow6 H4 HK
   go_wp2_with fail
   exact ⟨⟨k + 1, by omega, by go_num, H6⟩, by simp [intOf]; omega⟩
  ·have hlti : ¬ (k : Int) < (l : Int) := by omega
   obtain ⟨⟨r0, r1, r2⟩, rf⟩ := cell_in HK.out.1
   have HE : Hid (∃ fp, OwnK wr (w.heap.size + 1) (n + 1) (.slice axe k cape) ks fp) := by
    have h := HK.out.2.1
    rw [List.take_of_length_le (by have := HK0.out.2; omega)] at h
    exact h.own
   go_wp2_with fail
   refine bodyPost_ret (v := .agg #[.int .i64 48, .string ⟨#[]⟩, .slice axe k cape]) (by simp [results, Tryz.results111, go_sem, r0, r1, r2]; try rfl) rfl ?_
   obtain ⟨fp, hfp⟩ := HE.out
   refine ⟨.slice axe k cape, fp, rfl, ?_, ?_⟩
   ·refine OwnK.base (base := w.heap.size + 1) (by omega) (hfp.same fun b hb => ?_)
    have h1 := (OwnK.lt hfp b hb).1
    rw [heap_setCell_other _ _ _ _ (by show b ≠ w.heap.size; omega), heap_setCell_other _ _ _ _ (by show b ≠ w.heap.size; omega), heap_setCell_other _ _ _ _ (by show b ≠ w.heap.size; omega)]
   ·exact ((HK.out.2.2.1.setCell (p := ⟨w.heap.size, 0, none⟩) (Nat.le_refl _) _).setCell (p := ⟨w.heap.size, 1, none⟩) (Nat.le_refl _) _).setCell (p := ⟨w.heap.size, 2, none⟩) (Nat.le_refl _) _
theorem bytsI_any (n : Nat) (ls : List ByteArray) (v : Value) (w : World) (hz : ls.length <= 20000000) (hwd : WdT ls) (hx : TxtAt w v ls) :
  Calls Tryz.prog 59 #[v] w fun e w' => ToIt w (n + 1) (lstJ (ls.map bytJ)) e w' := by
 obtain ⟨ax, cx, rfl, hcell⟩ := id hx
 obtain ⟨l, hle⟩ := zE (ls.length)
 have HX : Hid ((∀ j, j < ls.length -> ∃ g, ax = some ⟨g, 0, none⟩ /\ g < w.heap.size /\ w.cell? ⟨g, j, none⟩ = some (.string (ls.getD j ByteArray.empty))) /\ ls.length = l /\ WdT ls) := ⟨hcell, hle, hwd⟩
 have hlb : l <= 20000000 := by rw [<- hle]; exact hz
 rw [hle]
 clear hx hz hle hcell hwd
 obtain ⟨ks, hks⟩ : ∃ ks : List (It (n + 1)), ls.map bytJ = ks := ⟨_, rfl⟩
 rw [hks]
 have HK0 : Hid (ls.map bytJ = ks /\ ks.length = l) := ⟨hks, by rw [<- hks, List.length_map]; exact HX.out.2.1⟩
 clear hks
 go_enter Tryz.func59, Tryz.ntmps59
 go_wp2_with fail
 obtain ⟨W3, hW3⟩ : ∃ W, W = (w.alloc (Obj.cells #[Value.int IntKind.i64 0, Value.string { data := #[] }, Value.slice none 0 0] 57)).alloc (Obj.cells #[Value.int IntKind.i64 48, Value.string { data := #[] }, Value.slice none 0 0] 57) := ⟨_, rfl⟩
 rw [<- hW3]
 have H3 : Hid (Below w.heap.size w W3 /\ W3.heap.size = w.heap.size + 2 /\ Blk3 W3 w.heap.size (.int .i64 0) (.string ⟨#[]⟩) (.slice none 0 0) /\ Blk3 W3 (w.heap.size + 1) (.int .i64 48) (.string ⟨#[]⟩) (.slice none 0 0)) := two_blk w _ _ _ _ _ _ W3 hW3
 clear hW3
 go_loopw [4] (fun iv wr => ∃ k : Nat, k <= l /\ iv = .int .i64 k /\ Hid (∃ kv : Value, Blk3 wr w.heap.size (.int .i64 0) (.string ⟨#[]⟩) (.slice none 0 0) /\ Blk3 wr (w.heap.size + 1) (.int .i64 48) (.string ⟨#[]⟩) kv /\ GrowK wr (w.heap.size + 2) n kv (ks.take k) /\ Below w.heap.size w wr /\ w.heap.size + 2 <= wr.heap.size)) (fun iv _ => l - (intOf iv).toNat)
 case atStart => exact ⟨0, Nat.zero_le _, rfl, _, H3.out.2.2.1, H3.out.2.2.2, GrowK.nil _ _ _, H3.out.1, by rw [H3.out.2.1]; exact Nat.le_refl _⟩
 case round =>
  obtain ⟨k, hk, rfl, HR⟩ := hrel
  obtain ⟨kv, hr1, hr2, hrG, hrB, hrs⟩ := HR.out
  have HK : Hid (Blk3 wr w.heap.size (.int .i64 0) (.string ⟨#[]⟩) (.slice none 0 0) /\ Blk3 wr (w.heap.size + 1) (.int .i64 48) (.string ⟨#[]⟩) kv /\ GrowK wr (w.heap.size + 2) n kv (ks.take k) /\ Below w.heap.size w wr /\ w.heap.size + 2 <= wr.heap.size) := ⟨hr1, hr2, hrG, hrB, hrs⟩
  clear HR hr1 hr2 hrG hrB hrs H3
  by_cases hlt : k < l
  ·have hlti : (k : Int) < (l : Int) := by omega
   have hk0 : (0 : Int) <= (k : Int) := by omega
   have hj0 : k < ls.length := by rw [HX.out.2.1]; exact hlt
   have hj1 : k < ks.length := by rw [HK0.out.2]; exact hlt
   obtain ⟨g1, hax, hg1, hc1⟩ := HX.out.1 k hj0
   have c10 : wr.cell? ⟨g1, k, none⟩ = some (.string (ls.getD k ByteArray.empty)) := (HK.out.2.2.2.1.cell (p := ⟨g1, k, none⟩) hg1).trans hc1
   have hm : (ls.getD k ByteArray.empty) ∈ ls := by rw [List.getD_eq_getElem?_getD, List.getElem?_eq_getElem hj0]; exact List.getElem_mem _
   obtain ⟨x, hxe⟩ := zE ((ls.getD k ByteArray.empty))
   rw [hxe] at c10 hm
   have hkx : ks[k] = bytJ x := by
    rw [<- hxe]
    have h := HK0.out.1
    subst h
    simp [List.getD, hj0]
   have E := bytes_any x wr.drew
   obtain ⟨s3, hs3⟩ : ∃ s3 : ByteArray, x = s3 := ⟨_, rfl⟩
   have HT : Hid (It.tag ks[k] = 4 /\ (⟨(It.text ks[k]).toArray⟩ : ByteArray) = s3 /\ It.kids ks[k] = []) := by
    rw [hkx]
    exact ⟨rfl, by rw [<- hs3]; show (⟨x.data.toList.toArray⟩ : ByteArray) = x; simp, rfl⟩
   have E3 : Calls Tryz.prog 60 #[.string x] wr.drew fun e w' => e = .returned (.agg #[.int .i64 4, .string s3, .slice none 0 0]) /\ Below wr.heap.size wr w' := by
    refine E.mono ?_
    rintro e w' ⟨rfl, hb⟩
    exact ⟨by rw [<- hs3], (Below.refl wr.heap.size wr).drew.trans hb⟩
   obtain ⟨⟨_, _, y2⟩, fy⟩ := cell_in HK.out.2.1
   have htl : (ks.take k).length = k := by rw [List.length_take]; omega
   have HG1 : Hid (g1 < w.heap.size) := hg1
   have HNE : Hid (∀ q, q < w.heap.size + 2 -> some q ≠ kv.ownBlock) := fun q hq e => by have := (HK.out.2.2.1.lt q e.symm).1; omega
   subst hax
   clear hc1 hg1 hxe hkx hm E hs3
   go_wp2_with fail
   have hcs : wr.cell? ⟨w.heap.size + 1, 2, none⟩ = some kv /\ wr.cell? ⟨g1, k, none⟩ = some (.string x) := ⟨y2, c10⟩
   go_region_law (first
    | (refine step_call rfl 60 _ _ rfl #[.string x] rfl (by kernel_rfl) ?_; refine E3.mono ?_; rintro e w3 ⟨rfl, hb3⟩; have ho3 : OwnK w3 wr.heap.size n (.slice none 0 0) (It.kids ks[k]) [] := (by rw [HT.out.2.2]; exact own_none _ _ _); have hc3 := both_below hcs (by have := HK.out.2.2.2.2; omega) (by have := HG1.out; have := HK.out.2.2.2.1.size; omega) hb3; have hy3 := hc3.1; have hc4 := fun o => both_below hcs (by have := HK.out.2.2.2.2; omega) (by have := HG1.out; have := HK.out.2.2.2.1.size; omega) (hb3.alloc hb3.size o); have hy4 := fun o => (hc4 o).1; clear hc3; dsimp only)
    | (refine step_append_item0 rfl _ _ rfl (w.heap.size + 2) n kv (ks.take k) ks[k] 4 s3 (.slice none 0 0) [] HT.out.1 HT.out.2.1 rfl _ rfl rfl HK.out.2.2.1 hb3 ho3 HK.out.2.2.2.2 (by omega) ?_; intro g cap w6 hG6 hgrow6; have hy6 := (both_grown (hc4 _) hgrow6 (HNE.out _ (by omega)) (HNE.out _ (by have := HG1.out; omega))).1; have fz6 := (cell_in ((HK.out.2.1.below (hb3.alloc hb3.size _)).grown hgrow6 (HNE.out _ (by omega)))).2))
   all_goals (
    have H6 : Hid (Blk3 w6 w.heap.size (.int .i64 0) (.string ⟨#[]⟩) (.slice none 0 0) /\ Blk3 w6 (w.heap.size + 1) (.int .i64 48) (.string ⟨#[]⟩) kv /\ GrowK w6 (w.heap.size + 2) n (.slice (some ⟨g, 0, none⟩) (k + 1) cap) (ks.take (k + 1)) /\ Below w.heap.size w w6 /\ w.heap.size + 2 <= w6.heap.size) := by
     have hb5 := hb3.alloc hb3.size (Obj.cells #[Value.int IntKind.i64 4, Value.string s3, Value.slice none 0 0] 57)
     have hbw := HK.out.2.2.2.1.trans (hb5.mono HK.out.2.2.2.1.size)
     have e := List.take_append_getElem hj1
     rw [htl, e] at hG6
     exact ⟨(HK.out.1.below hb5).grown hgrow6 (HNE.out _ (by omega)), (HK.out.2.1.below hb5).grown hgrow6 (HNE.out _ (by omega)), hG6, hbw.grown hgrow6 hbw.size (fun q hq => by have := (HK.out.2.2.1.lt q hq).1; omega), Nat.le_trans HK.out.2.2.2.2 (Nat.le_trans hb5.size hgrow6.size)⟩
    clear hG6 hgrow6 hy6 fz6 hy3 hc4 hy4 ho3 hb3 hcs y2 c10 E3
    go_wp2_with fail
    refine ⟨⟨k + 1, by omega, by go_num, .slice (some ⟨g, 0, none⟩) (k + 1) cap, ?_, ?_, ?_, ?_, ?_⟩, by simp [intOf]; omega⟩
    ·exact H6.out.1.other (by show w.heap.size ≠ w.heap.size + 1; omega) _
    ·exact H6.out.2.1.set _
    ·exact H6.out.2.2.1.out fun b hb => heap_setCell_other _ _ _ _ (by show b ≠ w.heap.size + 1; omega)
    ·exact H6.out.2.2.2.1.setCell (p := ⟨w.heap.size + 1, 2, none⟩) (by show w.heap.size <= w.heap.size + 1; omega) _
    ·exact Nat.le_trans H6.out.2.2.2.2 (((Below.refl 0 w6).setCell (p := ⟨w.heap.size + 1, 2, none⟩) (Nat.zero_le _) _).size))
  ·have hlti : ¬ (k : Int) < (l : Int) := by omega
   obtain ⟨⟨q0, q1, q2⟩, _⟩ := cell_in HK.out.2.1
   obtain ⟨⟨r0, r1, r2⟩, rf⟩ := cell_in HK.out.1
   have HE : Hid (∃ fp, OwnK wr (w.heap.size + 2) (n + 1) kv ks fp) := by
    have h := HK.out.2.2.1
    rw [List.take_of_length_le (by have := HK0.out.2; omega)] at h
    exact h.own
   obtain ⟨axe, cape, hkv⟩ := HK.out.2.2.1.shape
   obtain ⟨le, hle⟩ := zE ((ks.take k).length)
   rw [hle] at hkv
   subst hkv
   clear hle
   go_wp2_with fail
   refine bodyPost_ret (v := .agg #[.int .i64 48, .string ⟨#[]⟩, .slice axe le cape]) (by simp [results, Tryz.results59, go_sem, r0, r1, r2]; try rfl) rfl ?_
   obtain ⟨fp, hfp⟩ := HE.out
   refine ⟨.slice axe le cape, fp, rfl, ?_, ?_⟩
   ·refine OwnK.base (base := w.heap.size + 2) (by omega) (hfp.same fun b hb => ?_)
    have h1 := (OwnK.lt hfp b hb).1
    rw [heap_setCell_other _ _ _ _ (by show b ≠ w.heap.size; omega), heap_setCell_other _ _ _ _ (by show b ≠ w.heap.size; omega), heap_setCell_other _ _ _ _ (by show b ≠ w.heap.size; omega)]
   ·exact ((HK.out.2.2.2.1.setCell (p := ⟨w.heap.size, 0, none⟩) (Nat.le_refl _) _).setCell (p := ⟨w.heap.size, 1, none⟩) (Nat.le_refl _) _).setCell (p := ⟨w.heap.size, 2, none⟩) (Nat.le_refl _) _
theorem listOf_any (a : Option Addr) (l cx : Nat) (w : World) : Calls Tryz.prog 73 #[.slice a l cx] w fun e w' => e = .returned (.agg #[.int .i64 48, .string ⟨#[]⟩, .slice a l cx]) /\ Below w.heap.size w w' := by
 go_enter Tryz.func73, Tryz.ntmps73
 go_wp2_with fail
 refine bodyPost_ret (v := .agg #[.int .i64 48, .string ⟨#[]⟩, .slice a l cx]) (by simp [results, Tryz.results73, go_sem]; try rfl) rfl ⟨rfl, ?_⟩
 exact (Below.refl _ _).alloc (Nat.le_refl _) _
def RowsK (W : World) (b n : Nat) : List (It (n + 1)) -> List Value -> List (List Nat) -> Prop
 | [], [], [] => True
 | x :: ks, v :: kvs, fp :: fps => OwnK W b n v (It.kids x) fp /\ RowsK W b n ks kvs fps
 | _, _, _ => False
theorem RowsK.each {W : World} {b n : Nat} : ∀ {ks : List (It (n + 1))} {kvs : List Value} {fps : List (List Nat)}, RowsK W b n ks kvs fps -> ks.length = kvs.length /\ ks.length = fps.length /\ ∀ j (h1 : j < ks.length) (h2 : j < kvs.length) (h3 : j < fps.length), OwnK W b n kvs[j] (It.kids ks[j]) fps[j]
 | [], [], [], _ => ⟨rfl, rfl, fun j h => absurd h (Nat.not_lt_zero _)⟩
 | [], _ :: _, _, h => h.elim
 | [], [], _ :: _, h => h.elim
 | _ :: _, [], _, h => h.elim
 | _ :: _, _ :: _, [], h => h.elim
 | x :: ks, v :: kvs, fp :: fps, ⟨h, r⟩ => by
  obtain ⟨h1, h2, h3⟩ := RowsK.each r
  refine ⟨by simp [h1], by simp [h2], fun j a b c => ?_⟩
  cases j with
  | zero => exact h
  | succ j => exact h3 j (by simpa using a) (by simpa using b) (by simpa using c)
theorem RowsK.grow {W W' : World} {b n cap : Nat} {ks : List (It (n + 1))} {kvs : List Value} {fps : List (List Nat)} (h : RowsK W b n ks kvs fps) (hb : b <= W.heap.size) (hnd : fps.flatten.Nodup) (hl : ks.length <= 1000) (hc : cap = ks.length)
  (hW : W' = W.alloc (.cells (cellsK ks kvs).toArray 57)) : GrowK W' b n (.slice (some ⟨W.heap.size, 0, none⟩) cap cap) ks := by
 subst hc
 obtain ⟨h1, h2, h3⟩ := h.each
 have hbel : Below W.heap.size W W' := by rw [hW]; exact (Below.refl _ _).alloc (Nat.le_refl _) _
 refine ⟨kvs, fps, h1, h2, ?_, hnd, ?_, fun j a c d => ?_⟩
 ·rw [hW]
  exact ⟨by rw [cellsK_len h1], .inr ⟨W.heap.size, ks.length, (cellsK ks kvs).toArray, rfl, hb, heap_alloc_new W _, Nat.le_refl _, by unfold maxLen; omega, by rw [List.size_toArray, cellsK_len h1], List.take_of_length_le (by rw [cellsK_len h1]; exact Nat.le_refl _)⟩⟩
 ·intro g hg hm
  simp only [Value.ownBlock, Option.some.injEq] at hg
  obtain ⟨l, m1, m2⟩ := List.mem_flatten.1 hm
  obtain ⟨j, hj, rfl⟩ := List.getElem_of_mem m1
  have := (OwnK.lt (h3 j (by omega) (by omega) hj) g m2).2
  omega
 ·exact (h3 j a c d).below hbel (fun x hx => (OwnK.lt (h3 j a c d) x hx).2)
theorem to_lst {w w' : World} {ks : List (It 1)} {e : Ending} (h : ToIt w 1 (lstJ ks) e w') : ∃ (a : Option Addr) (l cx : Nat) (fp : List Nat), e = .returned (.agg #[.int .i64 48, .string ⟨#[]⟩, .slice a l cx]) /\ OwnK w' w.heap.size 1 (.slice a l cx) (It.kids (lstJ ks)) fp /\ Below w.heap.size w w' := by
 obtain ⟨k, fp, rfl, ho, hb⟩ := h
 obtain ⟨a, cx, rfl⟩ := ho.shape
 exact ⟨a, _, cx, fp, rfl, ho, hb⟩
theorem sz_lst {n : Nat} (ks : List (It n)) : szI (n + 1) (lstJ ks) = ks.length + (ks.map (szI n)).sum := by
 show 0 + ks.length + (ks.map (szI n)).sum = _
 omega
theorem sz_int {n : Nat} (x : Int) : szI (n + 1) (intI x) <= 5 := by
 have h := intT_ok (numN_le x)
 unfold plainOk at h
 rw [if_neg (by decide), if_pos rfl] at h
 simp only [Bool.and_eq_true, decide_eq_true_eq] at h
 show (intT (numN x)).length + 0 + 0 <= 5
 omega
theorem sz_byt {n : Nat} (s : ByteArray) : szI (n + 1) (bytJ s) = s.size := rfl
end Go.Proofs.YtlbjhibolcgnoaaGreatDoor
