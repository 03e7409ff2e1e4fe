/-
  Texts of the proof.
-/
import Derived.Test.YthbdgdfanpbkeaaGreatShelf
import Derived.Laws.IdiomStrings
import Derived.Test.YthbdgdfanpbkeaaGreatAQ8
set_option maxRecDepth 100000
set_option maxHeartbeats 25600000
namespace Go.Proofs.YthbdgdfanpbkeaaGreat
open Go.RowKit Der
set_option linter.unusedVariables false
def intI {n : Nat} (x : Int) : It (n + 1) := It.mk 2 (intT (numN x)) []
def txtJ {n : Nat} (s : ByteArray) : It (n + 1) := It.mk 12 s.data.toList []
def bytJ {n : Nat} (s : ByteArray) : It (n + 1) := It.mk 4 s.data.toList []
def flagJ {n : Nat} (b : Bool) : It (n + 1) := It.mk 1 [if b then 255 else 0] []
def lstJ {n : Nat} (ks : List (It n)) : It (n + 1) := It.mk 48 [] ks
def bodyC (c : Ct) : It 3 := lstJ [intI c.serial, txtJ c.issuer, lstJ [intI c.frm, intI c.upto], txtJ c.subject, bytJ c.key, flagJ c.ca, intI c.pathLen, intI c.usage, lstJ (c.pol.map intI), lstJ (c.per.map txtJ), lstJ (c.den.map txtJ)]
def certI (c : Ct) : It 4 := lstJ [bodyC c, bytJ c.sig]
theorem bytes_any (s : ByteArray) (w : World) : Calls Tryz.prog 47 #[.string s] w fun e w' => e = .returned (.agg #[.int .i64 4, .string s, .slice none 0 0]) /\ Below w.heap.size w w' := by
 go_enter Tryz.func47, Tryz.ntmps47
 go_wp2_with fail
 refine bodyPost_ret (v := .agg #[.int .i64 4, .string s, .slice none 0 0]) (by simp [results, Tryz.results47, go_sem]; try rfl) rfl ⟨rfl, ?_⟩
 exact (Below.refl _ _).alloc (Nat.le_refl _) _
theorem flag_any (b : Bool) (w : World) : Calls Tryz.prog 21 #[.bool b] w fun e w' => e = .returned (.agg #[.int .i64 1, .string ⟨[if b then 255 else 0].toArray⟩, .slice none 0 0]) /\ Below w.heap.size w w' := by
 cases b with
 | true =>
  go_enter Tryz.func21, Tryz.ntmps21
  go_wp2_with fail
  refine bodyPost_ret (v := .agg #[.int .i64 1, .string ⟨#[255]⟩, .slice none 0 0]) (by simp [results, Tryz.results21, go_sem]; try rfl) rfl ⟨rfl, ?_⟩
  exact (Below.refl _ _).alloc (Nat.le_refl _) _
 | false =>
  go_enter Tryz.func21, Tryz.ntmps21
  go_wp2_with fail
  refine bodyPost_ret (v := .agg #[.int .i64 1, .string ⟨#[0]⟩, .slice none 0 0]) (by simp [results, Tryz.results21, go_sem]; try rfl) rfl ⟨rfl, ?_⟩
  exact (Below.refl _ _).alloc (Nat.le_refl _) _
theorem own_none (w : World) (base : Nat) : ∀ n, OwnK w base n (.slice none 0 0) [] []
 | 0 => ⟨⟨none, 0, rfl⟩, rfl⟩
 | _ + 1 => ⟨none, 0, rfl, fun _ => rfl, fun h => absurd h (Nat.lt_irrefl _)⟩
theorem both_below {wr w3 : World} {g h o : Nat} {kv t : Value} (hc : wr.cell? ⟨g, 2, none⟩ = some kv /\ wr.cell? ⟨h, o, none⟩ = some t) (hg : g < wr.heap.size) (hh : h < wr.heap.size) (hb : Below wr.heap.size wr w3) : w3.cell? ⟨g, 2, none⟩ = some kv /\ w3.cell? ⟨h, o, none⟩ = some t :=
 ⟨(hb.cell (p := ⟨g, 2, none⟩) hg).trans hc.1, (hb.cell (p := ⟨h, o, none⟩) hh).trans hc.2⟩
theorem both_grown {w5 w6 : World} {g h o : Nat} {kv t : Value} {row : Option Nat} (hc : w5.cell? ⟨g, 2, none⟩ = some kv /\ w5.cell? ⟨h, o, none⟩ = some t) (hg : w5.grownBy w6 row) (n1 : some g ≠ row) (n2 : some h ≠ row) : w6.cell? ⟨g, 2, none⟩ = some kv /\ w6.cell? ⟨h, o, none⟩ = some t :=
 ⟨hg.cell hc.1 n1, hg.cell hc.2 n2⟩
theorem ints_any (n : Nat) (ls : List Int) (v : Value) (w : World) (hz : ls.length <= 20000000) (hwd : Wd ls) (hx : IntAt w v ls) :
  Calls Tryz.prog 96 #[v] w fun e w' => ToIt w (n + 1) (lstJ (ls.map intI)) e w' := by
 obtain ⟨ax, cx, rfl, hcell⟩ := hx.each
 obtain ⟨l, hle⟩ := zE (ls.length)
 have HX : Hid ((∀ j, j < ls.length -> ∃ g, ax = some ⟨g, 0, none⟩ /\ g < w.heap.size /\ w.cell? ⟨g, j, none⟩ = some (.int .i64 (ls.getD j 0))) /\ ls.length = l /\ Wd ls) := ⟨hcell, hle, hwd⟩
 have hlb : l <= 20000000 := by rw [<- hle]; exact hz
 rw [hle]
 clear hx hz hle hcell hwd
 obtain ⟨ks, hks⟩ : ∃ ks : List (It (n + 1)), ls.map intI = ks := ⟨_, rfl⟩
 rw [hks]
 have HK0 : Hid (ls.map intI = ks /\ ks.length = l) := ⟨hks, by rw [<- hks, List.length_map]; exact HX.out.2.1⟩
 clear hks
 go_enter Tryz.func96, Tryz.ntmps96
 go_wp2_with fail
 obtain ⟨W3, hW3⟩ : ∃ W, W = (w.alloc (Obj.cells #[Value.int IntKind.i64 0, Value.string { data := #[] }, Value.slice none 0 0] 41)).alloc (Obj.cells #[Value.int IntKind.i64 48, Value.string { data := #[] }, Value.slice none 0 0] 41) := ⟨_, rfl⟩
 rw [<- hW3]
 have H3 : Hid (Below w.heap.size w W3 /\ W3.heap.size = w.heap.size + 2 /\ Blk3 W3 w.heap.size (.int .i64 0) (.string ⟨#[]⟩) (.slice none 0 0) /\ Blk3 W3 (w.heap.size + 1) (.int .i64 48) (.string ⟨#[]⟩) (.slice none 0 0)) := two_blk w _ _ _ _ _ _ W3 hW3
 clear hW3
 go_loopw [4] (fun iv wr => ∃ k : Nat, k <= l /\ iv = .int .i64 k /\ Hid (∃ kv : Value, Blk3 wr w.heap.size (.int .i64 0) (.string ⟨#[]⟩) (.slice none 0 0) /\ Blk3 wr (w.heap.size + 1) (.int .i64 48) (.string ⟨#[]⟩) kv /\ GrowK wr (w.heap.size + 2) n kv (ks.take k) /\ Below w.heap.size w wr /\ w.heap.size + 2 <= wr.heap.size)) (fun iv _ => l - (intOf iv).toNat)
 case atStart => exact ⟨0, Nat.zero_le _, rfl, _, H3.out.2.2.1, H3.out.2.2.2, GrowK.nil _ _ _, H3.out.1, by rw [H3.out.2.1]; exact Nat.le_refl _⟩
 case round =>
  obtain ⟨k, hk, rfl, HR⟩ := hrel
  obtain ⟨kv, hr1, hr2, hrG, hrB, hrs⟩ := HR.out
  have HK : Hid (Blk3 wr w.heap.size (.int .i64 0) (.string ⟨#[]⟩) (.slice none 0 0) /\ Blk3 wr (w.heap.size + 1) (.int .i64 48) (.string ⟨#[]⟩) kv /\ GrowK wr (w.heap.size + 2) n kv (ks.take k) /\ Below w.heap.size w wr /\ w.heap.size + 2 <= wr.heap.size) := ⟨hr1, hr2, hrG, hrB, hrs⟩
  clear HR hr1 hr2 hrG hrB hrs H3
  by_cases hlt : k < l
  ·have hlti : (k : Int) < (l : Int) := by omega
   have hk0 : (0 : Int) <= (k : Int) := by omega
   have hj0 : k < ls.length := by rw [HX.out.2.1]; exact hlt
   have hj1 : k < ks.length := by rw [HK0.out.2]; exact hlt
   obtain ⟨g1, hax, hg1, hc1⟩ := HX.out.1 k hj0
   have c10 : wr.cell? ⟨g1, k, none⟩ = some (.int .i64 (ls.getD k 0)) := (HK.out.2.2.2.1.cell (p := ⟨g1, k, none⟩) hg1).trans hc1
   have hm : (ls.getD k 0) ∈ ls := by rw [List.getD_eq_getElem?_getD, List.getElem?_eq_getElem hj0]; exact List.getElem_mem _
   obtain ⟨x, hxe⟩ := zE ((ls.getD k 0))
   rw [hxe] at c10 hm
   have hkx : ks[k] = intI x := by
    rw [<- hxe]
    have h := HK0.out.1
    subst h
    simp [List.getD, hj0]
   have E := specIntItem_any x wr.drew (HX.out.2.2 x hm)
   obtain ⟨s3, hs3⟩ : ∃ s3 : ByteArray, (⟨(intT (numN x)).toArray⟩ : ByteArray) = s3 := ⟨_, rfl⟩
   have HT : Hid (It.tag ks[k] = 2 /\ (⟨(It.text ks[k]).toArray⟩ : ByteArray) = s3 /\ It.kids ks[k] = []) := by
    rw [hkx]
    exact ⟨rfl, hs3, rfl⟩
   have E3 : Calls Tryz.prog 20 #[.int .i64 x] wr.drew fun e w' => e = .returned (.agg #[.int .i64 2, .string s3, .slice none 0 0]) /\ Below wr.heap.size wr w' := by
    refine E.mono ?_
    rintro e w' ⟨rfl, hb⟩
    exact ⟨by rw [<- hs3], (Below.refl wr.heap.size wr).drew.trans hb⟩
   obtain ⟨⟨_, _, y2⟩, fy⟩ := cell_in HK.out.2.1
   have htl : (ks.take k).length = k := by rw [List.length_take]; omega
   have HG1 : Hid (g1 < w.heap.size) := hg1
   have HNE : Hid (∀ q, q < w.heap.size + 2 -> some q ≠ kv.ownBlock) := fun q hq e => by have := (HK.out.2.2.1.lt q e.symm).1; omega
   subst hax
   clear hc1 hg1 hxe hkx hm E hs3
   go_wp2_with fail
   have hcs : wr.cell? ⟨w.heap.size + 1, 2, none⟩ = some kv /\ wr.cell? ⟨g1, k, none⟩ = some (.int .i64 x) := ⟨y2, c10⟩
   go_region_law (first
    | (refine step_call rfl 20 _ _ rfl #[.int .i64 x] rfl (by kernel_rfl) ?_; refine E3.mono ?_; rintro e w3 ⟨rfl, hb3⟩; have ho3 : OwnK w3 wr.heap.size n (.slice none 0 0) (It.kids ks[k]) [] := (by rw [HT.out.2.2]; exact own_none _ _ _); have hc3 := both_below hcs (by have := HK.out.2.2.2.2; omega) (by have := HG1.out; have := HK.out.2.2.2.1.size; omega) hb3; have hy3 := hc3.1; have hc4 := fun o => both_below hcs (by have := HK.out.2.2.2.2; omega) (by have := HG1.out; have := HK.out.2.2.2.1.size; omega) (hb3.alloc hb3.size o); have hy4 := fun o => (hc4 o).1; clear hc3; dsimp only)
    | (refine step_append_item0 rfl _ _ rfl (w.heap.size + 2) n kv (ks.take k) ks[k] 2 s3 (.slice none 0 0) [] HT.out.1 HT.out.2.1 rfl _ rfl rfl HK.out.2.2.1 hb3 ho3 HK.out.2.2.2.2 (by omega) ?_; intro g cap w6 hG6 hgrow6; have hy6 := (both_grown (hc4 _) hgrow6 (HNE.out _ (by omega)) (HNE.out _ (by have := HG1.out; omega))).1; have fz6 := (cell_in ((HK.out.2.1.below (hb3.alloc hb3.size _)).grown hgrow6 (HNE.out _ (by omega)))).2))
   all_goals (
    have H6 : Hid (Blk3 w6 w.heap.size (.int .i64 0) (.string ⟨#[]⟩) (.slice none 0 0) /\ Blk3 w6 (w.heap.size + 1) (.int .i64 48) (.string ⟨#[]⟩) kv /\ GrowK w6 (w.heap.size + 2) n (.slice (some ⟨g, 0, none⟩) (k + 1) cap) (ks.take (k + 1)) /\ Below w.heap.size w w6 /\ w.heap.size + 2 <= w6.heap.size) := by
     have hb5 := hb3.alloc hb3.size (Obj.cells #[Value.int IntKind.i64 2, Value.string s3, Value.slice none 0 0] 41)
     have hbw := HK.out.2.2.2.1.trans (hb5.mono HK.out.2.2.2.1.size)
     have e := List.take_append_getElem hj1
     rw [htl, e] at hG6
     exact ⟨(HK.out.1.below hb5).grown hgrow6 (HNE.out _ (by omega)), (HK.out.2.1.below hb5).grown hgrow6 (HNE.out _ (by omega)), hG6, hbw.grown hgrow6 hbw.size (fun q hq => by have := (HK.out.2.2.1.lt q hq).1; omega), Nat.le_trans HK.out.2.2.2.2 (Nat.le_trans hb5.size hgrow6.size)⟩
    clear hG6 hgrow6 hy6 fz6 hy3 hc4 hy4 ho3 hb3 hcs y2 c10 E3
    go_wp2_with fail
    refine ⟨⟨k + 1, by omega, by go_num, .slice (some ⟨g, 0, none⟩) (k + 1) cap, ?_, ?_, ?_, ?_, ?_⟩, by simp [intOf]; omega⟩
    ·exact H6.out.1.other (by show w.heap.size ≠ w.heap.size + 1; omega) _
    ·exact H6.out.2.1.set _
    ·exact H6.out.2.2.1.out fun b hb => heap_setCell_other _ _ _ _ (by show b ≠ w.heap.size + 1; omega)
    ·exact H6.out.2.2.2.1.setCell (p := ⟨w.heap.size + 1, 2, none⟩) (by show w.heap.size <= w.heap.size + 1; omega) _
    ·exact Nat.le_trans H6.out.2.2.2.2 (((Below.refl 0 w6).setCell (p := ⟨w.heap.size + 1, 2, none⟩) (Nat.zero_le _) _).size))
  ·have hlti : ¬ (k : Int) < (l : Int) := by omega
   obtain ⟨⟨q0, q1, q2⟩, _⟩ := cell_in HK.out.2.1
   obtain ⟨⟨r0, r1, r2⟩, rf⟩ := cell_in HK.out.1
   have HE : Hid (∃ fp, OwnK wr (w.heap.size + 2) (n + 1) kv ks fp) := by
    have h := HK.out.2.2.1
    rw [List.take_of_length_le (by have := HK0.out.2; omega)] at h
    exact h.own
   obtain ⟨axe, cape, hkv⟩ := HK.out.2.2.1.shape
   obtain ⟨le, hle⟩ := zE ((ks.take k).length)
   rw [hle] at hkv
   subst hkv
   clear hle
   go_wp2_with fail
   refine bodyPost_ret (v := .agg #[.int .i64 48, .string ⟨#[]⟩, .slice axe le cape]) (by simp [results, Tryz.results96, go_sem, r0, r1, r2]; try rfl) rfl ?_
   obtain ⟨fp, hfp⟩ := HE.out
   refine ⟨.slice axe le cape, fp, rfl, ?_, ?_⟩
   ·refine OwnK.base (base := w.heap.size + 2) (by omega) (hfp.same fun b hb => ?_)
    have h1 := (OwnK.lt hfp b hb).1
    rw [heap_setCell_other _ _ _ _ (by show b ≠ w.heap.size; omega), heap_setCell_other _ _ _ _ (by show b ≠ w.heap.size; omega), heap_setCell_other _ _ _ _ (by show b ≠ w.heap.size; omega)]
   ·exact ((HK.out.2.2.2.1.setCell (p := ⟨w.heap.size, 0, none⟩) (Nat.le_refl _) _).setCell (p := ⟨w.heap.size, 1, none⟩) (Nat.le_refl _) _).setCell (p := ⟨w.heap.size, 2, none⟩) (Nat.le_refl _) _
theorem texts_any (n : Nat) (ls : List ByteArray) (v : Value) (w : World) (hz : ls.length <= 20000000) (hwd : WdT ls) (hx : TxtAt w v ls) :
  Calls Tryz.prog 97 #[v] w fun e w' => ToIt w (n + 1) (lstJ (ls.map txtJ)) e w' := by
 obtain ⟨ax, cx, rfl, hcell⟩ := id hx
 obtain ⟨l, hle⟩ := zE (ls.length)
 have HX : Hid ((∀ j, j < ls.length -> ∃ g, ax = some ⟨g, 0, none⟩ /\ g < w.heap.size /\ w.cell? ⟨g, j, none⟩ = some (.string (ls.getD j ByteArray.empty))) /\ ls.length = l /\ WdT ls) := ⟨hcell, hle, hwd⟩
 have hlb : l <= 20000000 := by rw [<- hle]; exact hz
 rw [hle]
 clear hx hz hle hcell hwd
 obtain ⟨ks, hks⟩ : ∃ ks : List (It (n + 1)), ls.map txtJ = ks := ⟨_, rfl⟩
 rw [hks]
 have HK0 : Hid (ls.map txtJ = ks /\ ks.length = l) := ⟨hks, by rw [<- hks, List.length_map]; exact HX.out.2.1⟩
 clear hks
 go_enter Tryz.func97, Tryz.ntmps97
 go_wp2_with fail
 obtain ⟨W3, hW3⟩ : ∃ W, W = (w.alloc (Obj.cells #[Value.int IntKind.i64 0, Value.string { data := #[] }, Value.slice none 0 0] 41)).alloc (Obj.cells #[Value.int IntKind.i64 48, Value.string { data := #[] }, Value.slice none 0 0] 41) := ⟨_, rfl⟩
 rw [<- hW3]
 have H3 : Hid (Below w.heap.size w W3 /\ W3.heap.size = w.heap.size + 2 /\ Blk3 W3 w.heap.size (.int .i64 0) (.string ⟨#[]⟩) (.slice none 0 0) /\ Blk3 W3 (w.heap.size + 1) (.int .i64 48) (.string ⟨#[]⟩) (.slice none 0 0)) := two_blk w _ _ _ _ _ _ W3 hW3
 clear hW3
 go_loopw [4] (fun iv wr => ∃ k : Nat, k <= l /\ iv = .int .i64 k /\ Hid (∃ kv : Value, Blk3 wr w.heap.size (.int .i64 0) (.string ⟨#[]⟩) (.slice none 0 0) /\ Blk3 wr (w.heap.size + 1) (.int .i64 48) (.string ⟨#[]⟩) kv /\ GrowK wr (w.heap.size + 2) n kv (ks.take k) /\ Below w.heap.size w wr /\ w.heap.size + 2 <= wr.heap.size)) (fun iv _ => l - (intOf iv).toNat)
 case atStart => exact ⟨0, Nat.zero_le _, rfl, _, H3.out.2.2.1, H3.out.2.2.2, GrowK.nil _ _ _, H3.out.1, by rw [H3.out.2.1]; exact Nat.le_refl _⟩
 case round =>
  obtain ⟨k, hk, rfl, HR⟩ := hrel
  obtain ⟨kv, hr1, hr2, hrG, hrB, hrs⟩ := HR.out
  have HK : Hid (Blk3 wr w.heap.size (.int .i64 0) (.string ⟨#[]⟩) (.slice none 0 0) /\ Blk3 wr (w.heap.size + 1) (.int .i64 48) (.string ⟨#[]⟩) kv /\ GrowK wr (w.heap.size + 2) n kv (ks.take k) /\ Below w.heap.size w wr /\ w.heap.size + 2 <= wr.heap.size) := ⟨hr1, hr2, hrG, hrB, hrs⟩
  clear HR hr1 hr2 hrG hrB hrs H3
  by_cases hlt : k < l
  ·have hlti : (k : Int) < (l : Int) := by omega
   have hk0 : (0 : Int) <= (k : Int) := by omega
   have hj0 : k < ls.length := by rw [HX.out.2.1]; exact hlt
   have hj1 : k < ks.length := by rw [HK0.out.2]; exact hlt
   obtain ⟨g1, hax, hg1, hc1⟩ := HX.out.1 k hj0
   have c10 : wr.cell? ⟨g1, k, none⟩ = some (.string (ls.getD k ByteArray.empty)) := (HK.out.2.2.2.1.cell (p := ⟨g1, k, none⟩) hg1).trans hc1
   have hm : (ls.getD k ByteArray.empty) ∈ ls := by rw [List.getD_eq_getElem?_getD, List.getElem?_eq_getElem hj0]; exact List.getElem_mem _
   obtain ⟨x, hxe⟩ := zE ((ls.getD k ByteArray.empty))
   rw [hxe] at c10 hm
   have hkx : ks[k] = txtJ x := by
    rw [<- hxe]
    have h := HK0.out.1
    subst h
    simp [List.getD, hj0]
   have E := specTextItem_any x wr.drew
   obtain ⟨s3, hs3⟩ : ∃ s3 : ByteArray, x = s3 := ⟨_, rfl⟩
   have HT : Hid (It.tag ks[k] = 12 /\ (⟨(It.text ks[k]).toArray⟩ : ByteArray) = s3 /\ It.kids ks[k] = []) := by
    rw [hkx]
    exact ⟨rfl, by rw [<- hs3]; show (⟨x.data.toList.toArray⟩ : ByteArray) = x; simp, rfl⟩
   have E3 : Calls Tryz.prog 95 #[.string x] wr.drew fun e w' => e = .returned (.agg #[.int .i64 12, .string s3, .slice none 0 0]) /\ Below wr.heap.size wr w' := by
    refine E.mono ?_
    rintro e w' ⟨rfl, hb⟩
    exact ⟨by rw [<- hs3], (Below.refl wr.heap.size wr).drew.trans hb⟩
   obtain ⟨⟨_, _, y2⟩, fy⟩ := cell_in HK.out.2.1
   have htl : (ks.take k).length = k := by rw [List.length_take]; omega
   have HG1 : Hid (g1 < w.heap.size) := hg1
   have HNE : Hid (∀ q, q < w.heap.size + 2 -> some q ≠ kv.ownBlock) := fun q hq e => by have := (HK.out.2.2.1.lt q e.symm).1; omega
   subst hax
   clear hc1 hg1 hxe hkx hm E hs3
   go_wp2_with fail
   have hcs : wr.cell? ⟨w.heap.size + 1, 2, none⟩ = some kv /\ wr.cell? ⟨g1, k, none⟩ = some (.string x) := ⟨y2, c10⟩
   go_region_law (first
    | (refine step_call rfl 95 _ _ rfl #[.string x] rfl (by kernel_rfl) ?_; refine E3.mono ?_; rintro e w3 ⟨rfl, hb3⟩; have ho3 : OwnK w3 wr.heap.size n (.slice none 0 0) (It.kids ks[k]) [] := (by rw [HT.out.2.2]; exact own_none _ _ _); have hc3 := both_below hcs (by have := HK.out.2.2.2.2; omega) (by have := HG1.out; have := HK.out.2.2.2.1.size; omega) hb3; have hy3 := hc3.1; have hc4 := fun o => both_below hcs (by have := HK.out.2.2.2.2; omega) (by have := HG1.out; have := HK.out.2.2.2.1.size; omega) (hb3.alloc hb3.size o); have hy4 := fun o => (hc4 o).1; clear hc3; dsimp only)
    | (refine step_append_item0 rfl _ _ rfl (w.heap.size + 2) n kv (ks.take k) ks[k] 12 s3 (.slice none 0 0) [] HT.out.1 HT.out.2.1 rfl _ rfl rfl HK.out.2.2.1 hb3 ho3 HK.out.2.2.2.2 (by omega) ?_; intro g cap w6 hG6 hgrow6; have hy6 := (both_grown (hc4 _) hgrow6 (HNE.out _ (by omega)) (HNE.out _ (by have := HG1.out; omega))).1; have fz6 := (cell_in ((HK.out.2.1.below (hb3.alloc hb3.size _)).grown hgrow6 (HNE.out _ (by omega)))).2))
   all_goals (
    have H6 : Hid (Blk3 w6 w.heap.size (.int .i64 0) (.string ⟨#[]⟩) (.slice none 0 0) /\ Blk3 w6 (w.heap.size + 1) (.int .i64 48) (.string ⟨#[]⟩) kv /\ GrowK w6 (w.heap.size + 2) n (.slice (some ⟨g, 0, none⟩) (k + 1) cap) (ks.take (k + 1)) /\ Below w.heap.size w w6 /\ w.heap.size + 2 <= w6.heap.size) := by
     have hb5 := hb3.alloc hb3.size (Obj.cells #[Value.int IntKind.i64 12, Value.string s3, Value.slice none 0 0] 41)
     have hbw := HK.out.2.2.2.1.trans (hb5.mono HK.out.2.2.2.1.size)
     have e := List.take_append_getElem hj1
     rw [htl, e] at hG6
     exact ⟨(HK.out.1.below hb5).grown hgrow6 (HNE.out _ (by omega)), (HK.out.2.1.below hb5).grown hgrow6 (HNE.out _ (by omega)), hG6, hbw.grown hgrow6 hbw.size (fun q hq => by have := (HK.out.2.2.1.lt q hq).1; omega), Nat.le_trans HK.out.2.2.2.2 (Nat.le_trans hb5.size hgrow6.size)⟩
    clear hG6 hgrow6 hy6 fz6 hy3 hc4 hy4 ho3 hb3 hcs y2 c10 E3
    go_wp2_with fail
    refine ⟨⟨k + 1, by omega, by go_num, .slice (some ⟨g, 0, none⟩) (k + 1) cap, ?_, ?_, ?_, ?_, ?_⟩, by simp [intOf]; omega⟩
    ·exact H6.out.1.other (by show w.heap.size ≠ w.heap.size + 1; omega) _
    ·exact H6.out.2.1.set _
    ·exact H6.out.2.2.1.out fun b hb => heap_setCell_other _ _ _ _ (by show b ≠ w.heap.size + 1; omega)
    ·exact H6.out.2.2.2.1.setCell (p := ⟨w.heap.size + 1, 2, none⟩) (by show w.heap.size <= w.heap.size + 1; omega) _
    ·exact Nat.le_trans H6.out.2.2.2.2 (((Below.refl 0 w6).setCell (p := ⟨w.heap.size + 1, 2, none⟩) (Nat.zero_le _) _).size))
  ·have hlti : ¬ (k : Int) < (l : Int) := by omega
   obtain ⟨⟨q0, q1, q2⟩, _⟩ := cell_in HK.out.2.1
   obtain ⟨⟨r0, r1, r2⟩, rf⟩ := cell_in HK.out.1
   have HE : Hid (∃ fp, OwnK wr (w.heap.size + 2) (n + 1) kv ks fp) := by
    have h := HK.out.2.2.1
    rw [List.take_of_length_le (by have := HK0.out.2; omega)] at h
    exact h.own
   obtain ⟨axe, cape, hkv⟩ := HK.out.2.2.1.shape
   obtain ⟨le, hle⟩ := zE ((ks.take k).length)
   rw [hle] at hkv
   subst hkv
   clear hle
   go_wp2_with fail
   refine bodyPost_ret (v := .agg #[.int .i64 48, .string ⟨#[]⟩, .slice axe le cape]) (by simp [results, Tryz.results97, go_sem, r0, r1, r2]; try rfl) rfl ?_
   obtain ⟨fp, hfp⟩ := HE.out
   refine ⟨.slice axe le cape, fp, rfl, ?_, ?_⟩
   ·refine OwnK.base (base := w.heap.size + 2) (by omega) (hfp.same fun b hb => ?_)
    have h1 := (OwnK.lt hfp b hb).1
    rw [heap_setCell_other _ _ _ _ (by show b ≠ w.heap.size; omega), heap_setCell_other _ _ _ _ (by show b ≠ w.heap.size; omega), heap_setCell_other _ _ _ _ (by show b ≠ w.heap.size; omega)]
   ·exact ((HK.out.2.2.2.1.setCell (p := ⟨w.heap.size, 0, none⟩) (Nat.le_refl _) _).setCell (p := ⟨w.heap.size, 1, none⟩) (Nat.le_refl _) _).setCell (p := ⟨w.heap.size, 2, none⟩) (Nat.le_refl _) _
def RowsK (W : World) (b n : Nat) : List (It (n + 1)) -> List Value -> List (List Nat) -> Prop
 | [], [], [] => True
 | x :: ks, v :: kvs, fp :: fps => OwnK W b n v (It.kids x) fp /\ RowsK W b n ks kvs fps
 | _, _, _ => False
theorem RowsK.each {W : World} {b n : Nat} : ∀ {ks : List (It (n + 1))} {kvs : List Value} {fps : List (List Nat)}, RowsK W b n ks kvs fps -> ks.length = kvs.length /\ ks.length = fps.length /\ ∀ j (h1 : j < ks.length) (h2 : j < kvs.length) (h3 : j < fps.length), OwnK W b n kvs[j] (It.kids ks[j]) fps[j]
 | [], [], [], _ => ⟨rfl, rfl, fun j h => absurd h (Nat.not_lt_zero _)⟩
 | [], _ :: _, _, h => h.elim
 | [], [], _ :: _, h => h.elim
 | _ :: _, [], _, h => h.elim
 | _ :: _, _ :: _, [], h => h.elim
 | x :: ks, v :: kvs, fp :: fps, ⟨h, r⟩ => by
  obtain ⟨h1, h2, h3⟩ := RowsK.each r
  refine ⟨by simp [h1], by simp [h2], fun j a b c => ?_⟩
  cases j with
  | zero => exact h
  | succ j => exact h3 j (by simpa using a) (by simpa using b) (by simpa using c)
theorem RowsK.grow {W W' : World} {b n cap : Nat} {ks : List (It (n + 1))} {kvs : List Value} {fps : List (List Nat)} (h : RowsK W b n ks kvs fps) (hb : b <= W.heap.size) (hnd : fps.flatten.Nodup) (hl : ks.length <= 1000) (hc : cap = ks.length)
  (hW : W' = W.alloc (.cells (cellsK ks kvs).toArray 41)) : GrowK W' b n (.slice (some ⟨W.heap.size, 0, none⟩) cap cap) ks := by
 subst hc
 obtain ⟨h1, h2, h3⟩ := h.each
 have hbel : Below W.heap.size W W' := by rw [hW]; exact (Below.refl _ _).alloc (Nat.le_refl _) _
 refine ⟨kvs, fps, h1, h2, ?_, hnd, ?_, fun j a c d => ?_⟩
 ·rw [hW]
  exact ⟨by rw [cellsK_len h1], .inr ⟨W.heap.size, ks.length, (cellsK ks kvs).toArray, rfl, hb, heap_alloc_new W _, Nat.le_refl _, by unfold maxLen; omega, by rw [List.size_toArray, cellsK_len h1], List.take_of_length_le (by rw [cellsK_len h1]; exact Nat.le_refl _)⟩⟩
 ·intro g hg hm
  simp only [Value.ownBlock, Option.some.injEq] at hg
  obtain ⟨l, m1, m2⟩ := List.mem_flatten.1 hm
  obtain ⟨j, hj, rfl⟩ := List.getElem_of_mem m1
  have := (OwnK.lt (h3 j (by omega) (by omega) hj) g m2).2
  omega
 ·exact (h3 j a c d).below hbel (fun x hx => (OwnK.lt (h3 j a c d) x hx).2)
def KB (w W : World) (a : Array Value) : Prop := Below w.heap.size w W /\ Blk W w.heap.size 92 a /\ ∃ x y z, Blk3 W (w.heap.size + 1) x y z
theorem KB.below {w W W' : World} {a : Array Value} (h : KB w W a) (hb : Below W.heap.size W W') : KB w W' a := by
 obtain ⟨h1, h2, x, y, z, h3⟩ := h
 exact ⟨h1.trans (hb.mono h1.size), h2.below hb h2.lt, x, y, z, h3.below hb⟩
theorem KB.size {w W : World} {a : Array Value} (h : KB w W a) : w.heap.size + 2 <= W.heap.size := by
 obtain ⟨_, _, x, y, z, h3⟩ := h
 have := h3.lt
 omega
theorem KB.set {w W : World} {a : Array Value} (h : KB w W a) (p q r : Value) : KB w (((W.setCell ⟨w.heap.size + 1, 0, none⟩ p).setCell ⟨w.heap.size + 1, 1, none⟩ q).setCell ⟨w.heap.size + 1, 2, none⟩ r) a := by
 obtain ⟨h1, h2, x, y, z, h3⟩ := h
 refine ⟨((h1.setCell (p := ⟨w.heap.size + 1, 0, none⟩) (Nat.le_succ _) _).setCell (p := ⟨w.heap.size + 1, 1, none⟩) (Nat.le_succ _) _).setCell (p := ⟨w.heap.size + 1, 2, none⟩) (Nat.le_succ _) _, ?_, p, q, r, ?_⟩
 ·have ne : w.heap.size ≠ w.heap.size + 1 := by omega
  exact ((h2.other _ ne).other _ ne).other _ ne
 ·have e := (((show Blk W (w.heap.size + 1) 41 #[x, y, z] from h3).set 0 p).set 1 q).set 2 r
  exact e
theorem KB.start (w : World) (a : Array Value) (x y z : Value) (W : World) (hW : W = (w.alloc (Obj.cells a 92)).alloc (Obj.cells #[x, y, z] 41)) : KB w W a := by
 have e0 : (w.alloc (Obj.cells a 92)).heap.size = w.heap.size + 1 := Array.size_push _
 have hb : Below w.heap.size w W := by rw [hW]; exact ((Below.refl _ _).alloc (Nat.le_refl _) _).alloc (by rw [e0]; omega) _
 refine ⟨hb, ?_, x, y, z, ?_⟩
 ·rw [hW]; exact (Blk.new w _ _).alloc _
 ·rw [hW]
  have h := heap_alloc_new (w.alloc (Obj.cells a 92)) (Obj.cells #[x, y, z] 41)
  rw [e0] at h
  exact h
def LK (W : World) (lo : Nat) (kv : Value) (x : It 2) (fp : List Nat) (hi : Nat) : Prop := OwnK W lo 1 kv (It.kids x) fp /\ (∀ b ∈ fp, b < hi) /\ hi <= W.heap.size
theorem LK.below {W W' : World} {lo hi : Nat} {kv : Value} {x : It 2} {fp : List Nat} (h : LK W lo kv x fp hi) (hb : Below W.heap.size W W') : LK W' lo kv x fp hi :=
 ⟨h.1.below hb (fun b hm => Nat.lt_of_lt_of_le (h.2.1 b hm) h.2.2), h.2.1, Nat.le_trans h.2.2 hb.size⟩
theorem LK.made {W W' : World} {kv : Value} {x : It 2} {fp : List Nat} (h : OwnK W' W.heap.size 1 kv (It.kids x) fp) : LK W' W.heap.size kv x fp W'.heap.size :=
 ⟨h, fun b hm => (OwnK.lt h b hm).2, Nat.le_refl _⟩
theorem LK.lo {W : World} {lo hi : Nat} {kv : Value} {x : It 2} {fp : List Nat} (h : LK W lo kv x fp hi) : ∀ b ∈ fp, lo <= b := fun b hm => (OwnK.lt h.1 b hm).1
theorem four_nodup {a b c d : List Nat} {p q r : Nat} (ha : a.Nodup) (hb : b.Nodup) (hc : c.Nodup) (hd : d.Nodup) (a1 : ∀ x ∈ a, x < p) (b0 : ∀ x ∈ b, p <= x) (b1 : ∀ x ∈ b, x < q) (c0 : ∀ x ∈ c, q <= x) (c1 : ∀ x ∈ c, x < r) (d0 : ∀ x ∈ d, r <= x) (hpq : p <= q) (hqr : q <= r) : (a ++ (b ++ (c ++ d))).Nodup := by
 refine nodup_app ha (nodup_app hb (nodup_app hc hd fun x h1 h2 => ?_) fun x h1 h2 => ?_) fun x h1 h2 => ?_
 ·have := c1 x h1; have := d0 x h2; omega
 ·have := b1 x h1
  rcases List.mem_append.1 h2 with h2 | h2
  ·have := c0 x h2; omega
  ·have := d0 x h2; omega
 ·have := a1 x h1
  rcases List.mem_append.1 h2 with h2 | h2
  ·have := b0 x h2; omega
  ·rcases List.mem_append.1 h2 with h2 | h2
   ·have := c0 x h2; omega
   ·have := d0 x h2; omega
theorem body_row {W W' : World} {b : Nat} {c : Ct} {kT kP kE kD : Value} {fT fP fE fD : List Nat} {l0 h0 l1 h1 l2 h2 l3 h3 : Nat} {FL : ByteArray} (hFL : FL = ⟨[if c.ca then 255 else 0].toArray⟩) (hT : LK W l0 kT (lstJ [intI c.frm, intI c.upto]) fT h0) (hP : LK W l1 kP (lstJ (c.pol.map intI)) fP h1) (hE : LK W l2 kE (lstJ (c.per.map txtJ)) fE h2) (hD : LK W l3 kD (lstJ (c.den.map txtJ)) fD h3)
  (b0 : b <= l0) (b1 : b <= l1) (b2 : b <= l2) (b3 : b <= l3) (o1 : h0 <= l1) (o2 : h1 <= l2) (o3 : h2 <= l3) (lh1 : l1 <= l2) (lh2 : l2 <= l3) (hb : b <= W.heap.size)
  (hW : W' = W.alloc (.cells (.int .i64 2 :: .string ⟨(intT (numN c.serial)).toArray⟩ :: .slice none 0 0 :: .int .i64 12 :: .string c.issuer :: .slice none 0 0 :: .int .i64 48 :: .string ⟨#[]⟩ :: kT :: .int .i64 12 :: .string c.subject :: .slice none 0 0 :: .int .i64 4 :: .string c.key :: .slice none 0 0 :: .int .i64 1 :: .string FL :: .slice none 0 0 :: .int .i64 2 :: .string ⟨(intT (numN c.pathLen)).toArray⟩ :: .slice none 0 0 :: .int .i64 2 :: .string ⟨(intT (numN c.usage)).toArray⟩ :: .slice none 0 0 :: .int .i64 48 :: .string ⟨#[]⟩ :: kP :: .int .i64 48 :: .string ⟨#[]⟩ :: kE :: .int .i64 48 :: .string ⟨#[]⟩ :: kD :: []).toArray 41)) :
  ∃ fp, OwnK W' b 2 (.slice (some ⟨W.heap.size, 0, none⟩) 11 11) (It.kids (bodyC c)) fp := by
 subst hFL
 have nn := fun v => own_none W v 1
 have R : RowsK W b 1 (It.kids (bodyC c)) [.slice none 0 0, .slice none 0 0, kT, .slice none 0 0, .slice none 0 0, .slice none 0 0, .slice none 0 0, .slice none 0 0, kP, kE, kD] [[], [], fT, [], [], [], [], [], fP, fE, fD] :=
  ⟨nn b, nn b, OwnK.base b0 hT.1, nn b, nn b, nn b, nn b, nn b, OwnK.base b1 hP.1, OwnK.base b2 hE.1, OwnK.base b3 hD.1, trivial⟩
 refine (R.grow (cap := 11) hb ?_ (by show 11 <= 1000; decide) rfl ?_).own
 ·have := four_nodup hT.1.nodup hP.1.nodup hE.1.nodup hD.1.nodup (p := l1) (q := l2) (r := l3) (fun x hx => Nat.lt_of_lt_of_le (hT.2.1 x hx) o1) hP.lo (fun x hx => Nat.lt_of_lt_of_le (hP.2.1 x hx) o2) hE.lo (fun x hx => Nat.lt_of_lt_of_le (hE.2.1 x hx) o3) hD.lo lh1 lh2
  simpa using this
 ·rw [hW]
  congr 2
theorem to_lst {w w' : World} {ks : List (It 1)} {e : Ending} (h : ToIt w 1 (lstJ ks) e w') : ∃ (a : Option Addr) (l cx : Nat) (fp : List Nat), e = .returned (.agg #[.int .i64 48, .string ⟨#[]⟩, .slice a l cx]) /\ OwnK w' w.heap.size 1 (.slice a l cx) (It.kids (lstJ ks)) fp /\ Below w.heap.size w w' := by
 obtain ⟨k, fp, rfl, ho, hb⟩ := h
 obtain ⟨a, cx, rfl⟩ := ho.shape
 exact ⟨a, _, cx, fp, rfl, ho, hb⟩
theorem flagFL {P : Program} {f : Nat} {a : Array Value} {w : World} {c : Ct} {FL : ByteArray} (E : Calls P f a w fun e w' => e = .returned (.agg #[.int .i64 1, .string ⟨[if c.ca then 255 else 0].toArray⟩, .slice none 0 0]) /\ Below w.heap.size w w') (h : FL = ⟨[if c.ca then 255 else 0].toArray⟩) :
  Calls P f a w fun e w' => e = .returned (.agg #[.int .i64 1, .string FL, .slice none 0 0]) /\ Below w.heap.size w w' := by
 rw [h]; exact E
theorem times_row {W W' : World} {c : Ct} (hW : W' = W.alloc (.cells #[.int .i64 2, .string ⟨(intT (numN c.frm)).toArray⟩, .slice none 0 0, .int .i64 2, .string ⟨(intT (numN c.upto)).toArray⟩, .slice none 0 0] 41)) :
  ∃ fp, LK W' W.heap.size (.slice (some ⟨W.heap.size, 0, none⟩) 2 2) (lstJ [intI c.frm, intI c.upto]) fp W'.heap.size := by
 have R : RowsK W W.heap.size 0 [intI c.frm, intI c.upto] [.slice none 0 0, .slice none 0 0] [[], []] := ⟨own_none W _ 0, own_none W _ 0, trivial⟩
 obtain ⟨fp, h⟩ := (R.grow (W' := W') (cap := 2) (Nat.le_refl _) (by simp) (by show 2 <= 1000; decide) rfl (by rw [hW]; rfl)).own
 exact ⟨fp, h, fun x hx => (OwnK.lt h x hx).2, Nat.le_refl _⟩
def KT (w W : World) (a : Array Value) (g : Nat) (k : Value) : Prop := KB w W a /\ w.heap.size + 2 <= g /\ Blk3 W g (.int .i64 48) (.string ⟨#[]⟩) k
theorem KT.below {w W W' : World} {a : Array Value} {g : Nat} {k : Value} (h : KT w W a g k) (hb : Below W.heap.size W W') : KT w W' a g k := ⟨h.1.below hb, h.2.1, h.2.2.below hb⟩
theorem KT.set {w W : World} {a : Array Value} {g : Nat} {k : Value} (h : KT w W a g k) (p q r : Value) : KT w (((W.setCell ⟨w.heap.size + 1, 0, none⟩ p).setCell ⟨w.heap.size + 1, 1, none⟩ q).setCell ⟨w.heap.size + 1, 2, none⟩ r) a g k :=
 have ne : g ≠ w.heap.size + 1 := by have := h.2.1; omega
 ⟨h.1.set p q r, h.2.1, ((h.2.2.other (p := ⟨w.heap.size + 1, 0, none⟩) ne _).other (p := ⟨w.heap.size + 1, 1, none⟩) ne _).other (p := ⟨w.heap.size + 1, 2, none⟩) ne _⟩
theorem KT.laid {w W : World} {a : Array Value} {g : Nat} {k x y z : Value} (h : KB w W a) (hg : w.heap.size + 2 <= g) (hB : Blk3 W g x y z) : KT w (((W.setCell ⟨g, 0, none⟩ (.int .i64 48)).setCell ⟨g, 1, none⟩ (.string ⟨#[]⟩)).setCell ⟨g, 2, none⟩ k) a g k := by
 obtain ⟨h1, h2, p, q, r, h3⟩ := h
 refine ⟨⟨((h1.setCell (p := ⟨g, 0, none⟩) (by show w.heap.size <= g; omega) _).setCell (p := ⟨g, 1, none⟩) (by show w.heap.size <= g; omega) _).setCell (p := ⟨g, 2, none⟩) (by show w.heap.size <= g; omega) _, ?_, p, q, r, ?_⟩, hg, ?_⟩
 ·have ne : w.heap.size ≠ g := by omega
  exact ((h2.other (p := ⟨g, 0, none⟩) _ ne).other (p := ⟨g, 1, none⟩) _ ne).other (p := ⟨g, 2, none⟩) _ ne
 ·have ne : w.heap.size + 1 ≠ g := by omega
  exact ((h3.other (p := ⟨g, 0, none⟩) ne _).other (p := ⟨g, 1, none⟩) ne _).other (p := ⟨g, 2, none⟩) ne _
 ·have e := (((show Blk W g 41 #[x, y, z] from hB).set 0 (.int .i64 48)).set 1 (.string ⟨#[]⟩)).set 2 k
  exact e
theorem LK.laid {W : World} {lo hi g : Nat} {kv : Value} {x : It 2} {fp : List Nat} (h : LK W lo kv x fp hi) (hg : ∀ b ∈ fp, b ≠ g) (p q r : Value) : LK (((W.setCell ⟨g, 0, none⟩ p).setCell ⟨g, 1, none⟩ q).setCell ⟨g, 2, none⟩ r) lo kv x fp hi := by
 refine ⟨h.1.same fun b hb => ?_, h.2.1, ?_⟩
 ·rw [heap_setCell_other _ _ _ _ (hg b hb), heap_setCell_other _ _ _ _ (hg b hb), heap_setCell_other _ _ _ _ (hg b hb)]
 ·refine Nat.le_trans h.2.2 ?_
  exact ((((Below.refl 0 W).setCell (p := ⟨g, 0, none⟩) (Nat.zero_le _) p).setCell (p := ⟨g, 1, none⟩) (Nat.zero_le _) q).setCell (p := ⟨g, 2, none⟩) (Nat.zero_le _) r).size
end Go.Proofs.YthbdgdfanpbkeaaGreat
namespace Go.Proofs.YthbdgdfanpbkeaaGreat
open Go.RowKit Der
theorem cloneB_any (s : ByteArray) (w : World) (hs : s.size <= 1000000000000) : Calls Tryz.prog 68 #[.string s] w fun e w' => e = .returned (.string s) /\ Below w.heap.size w w' := by
 go_enter Tryz.func68, Tryz.ntmps68
 go_wp2_with (go_at_call 85; refine (Tryz.stringslite_Clone s _ (by omega)).mono ?_; rintro e w1 ⟨rfl, hb1⟩)
 go_ret
 exact ⟨rfl, hb1⟩
def lineB (l : List UInt8) : Bool := l.all fun b => decide (32 <= b) && decide (b <= 126)
theorem lineB_bad {s : ByteArray} {k : Nat} (hk : k < s.size) (h : s[k].toNat < 32 ∨ 126 < s[k].toNat) : lineB s.data.toList = false := by
 unfold lineB
 rw [List.all_eq_false]
 refine ⟨s[k], ?_, ?_⟩
 ·rw [List.mem_iff_getElem]
  exact ⟨k, by simpa using hk, rfl⟩
 ·simp only [Bool.and_eq_true, decide_eq_true_eq, UInt8.le_iff_toNat_le]
  intro h2
  have h3 : (32 : UInt8).toNat = 32 := rfl
  have h4 : (126 : UInt8).toNat = 126 := rfl
  omega
theorem lineB_ok {s : ByteArray} (h : ∀ k (hk : k < s.size), 32 <= s[k].toNat /\ s[k].toNat <= 126) : lineB s.data.toList = true := by
 unfold lineB
 rw [List.all_eq_true]
 intro b hb
 obtain ⟨k, hk, rfl⟩ := List.getElem_of_mem hb
 have := h k (by simpa using hk)
 simp only [Bool.and_eq_true, decide_eq_true_eq, UInt8.le_iff_toNat_le]
 exact this
theorem plainLineB_any (s : ByteArray) (w : World) (hs : s.size <= 1000000000000) : Calls Tryz.prog 83 #[.string s] w fun e w' => e = .returned (.bool (lineB s.data.toList)) /\ Below w.heap.size w w' := by
 have hcv := fun w => run_bytes_of_string (P := Tryz.prog) w 9 22 5 s Tryz.underlying9 Tryz.underlying22 Tryz.underlying5
 go_enter Tryz.func83, Tryz.ntmps83
 go_wp2
 generalize hC : grownCap w s.size 0 5 = C
 have HCell : Hid (∀ j (hj : j < s.size), ((w.alloc (.cells (bytesRow s C) 5 ((bytesRow s C).size, (bytesRow s C).size + 1))).drew).cell? ⟨w.heap.size, j, none⟩ = some (.int .u8 ((s[j]'hj).toNat : Int))) := fun j hj => by
  show (w.alloc (.cells (bytesRow s C) 5 ((bytesRow s C).size, (bytesRow s C).size + 1))).cell? ⟨w.heap.size, j, none⟩ = _
  rw [World.cell?_alloc_mark, bytesRow_at s C j hj]; rfl
 clear hC hcv
 go_loopw [8] (fun iv wr => ∃ k : Nat, k <= s.size /\ iv = .int .i64 k /\ Hid (∀ j (hj : j < s.size), j < k -> 32 <= s[j].toNat /\ s[j].toNat <= 126) /\ (w.alloc (.cells (bytesRow s C) 5 ((bytesRow s C).size, (bytesRow s C).size + 1))).drew = wr) (fun iv _ => s.size - (intOf iv).toNat)
 case atStart => exact ⟨0, Nat.zero_le _, rfl, fun j _ h => absurd h (Nat.not_lt_zero _), rfl⟩
 case round =>
  obtain ⟨k, hk, rfl, HP, rfl⟩ := hrel
  by_cases hlt : k < s.size
  ·have hc := s[k].toNat_lt
   have hck : (w.alloc (.cells (bytesRow s C) 5 ((bytesRow s C).size, (bytesRow s C).size + 1))).cell? ⟨w.heap.size, k, none⟩ = some (.int .u8 (s[k].toNat : Int)) := HCell.out k hlt
   by_cases h1 : s[k].toNat < 32
   ·have HF : Hid (lineB s.data.toList = false) := lineB_bad hlt (.inl h1)
    go_wp2
    go_ret
    exact ⟨by rw [HF.out]; rfl, ((Below.refl _ _).alloc (Nat.le_refl _) _).drew⟩
   ·by_cases h2 : 126 < s[k].toNat
    ·have HF : Hid (lineB s.data.toList = false) := lineB_bad hlt (.inr h2)
     go_wp2
     go_ret
     exact ⟨by rw [HF.out]; rfl, ((Below.refl _ _).alloc (Nat.le_refl _) _).drew⟩
    ·have HN : Hid (∀ j (hj : j < s.size), j < k + 1 -> 32 <= s[j].toNat /\ s[j].toNat <= 126) := fun j hj hjk => by
      by_cases e : j = k
      ·subst e; omega
      ·exact HP.out j hj (by omega)
     go_wp2
     go_roundw
     case rel => exact ⟨k + 1, by omega, by go_num, HN, by first | rfl | trivial⟩
     case measure => simp [intOf]; omega
  ·have HF : Hid (lineB s.data.toList = true) := lineB_ok fun j hj => HP.out j hj (by omega)
   go_wp2
   go_ret
   exact ⟨by rw [HF.out]; rfl, ((Below.refl _ _).alloc (Nat.le_refl _) _).drew⟩
end Go.Proofs.YthbdgdfanpbkeaaGreat
namespace Go.Proofs.YthbdgdfanpbkeaaGreat
open Go.RowKit Der
set_option linter.unusedVariables false
def formV (t : Int) (s : List UInt8) (k : Value) (l : Nat) : Value :=
 if t = 48 /\ s = [] then .iface 118 k else if 0 < l then .nilIface else if t = 1 then .iface 114 (.string ⟨s.toArray⟩) else if t = 2 then .iface 115 (.string ⟨s.toArray⟩)
 else if t = 4 then .iface 116 (.string ⟨s.toArray⟩) else if t = 12 then .iface 117 (.string ⟨s.toArray⟩) else .nilIface
theorem formV_row (k : Value) (l : Nat) : formV 48 [] k l = .iface 118 k := by unfold formV; rw [if_pos ⟨rfl, rfl⟩]
theorem formV_nil {t : Int} {s : List UInt8} (k : Value) {l : Nat} (h : ¬ (t = 48 /\ s = [])) (hl : 0 < l) : formV t s k l = .nilIface := by unfold formV; rw [if_neg h, if_pos hl]
theorem formV_one (s : List UInt8) (k : Value) : formV 1 s k 0 = .iface 114 (.string ⟨s.toArray⟩) := rfl
theorem formV_two (s : List UInt8) (k : Value) : formV 2 s k 0 = .iface 115 (.string ⟨s.toArray⟩) := rfl
theorem formV_four (s : List UInt8) (k : Value) : formV 4 s k 0 = .iface 116 (.string ⟨s.toArray⟩) := rfl
theorem formV_twelve (s : List UInt8) (k : Value) : formV 12 s k 0 = .iface 117 (.string ⟨s.toArray⟩) := rfl
theorem formV_none {t : Int} {s : List UInt8} (k : Value) (h : ¬ (t = 48 /\ s = [])) (h1 : t ≠ 1) (h2 : t ≠ 2) (h4 : t ≠ 4) (h12 : t ≠ 12) : formV t s k 0 = .nilIface := by
 unfold formV
 rw [if_neg h, if_neg (Nat.lt_irrefl 0), if_neg h1, if_neg h2, if_neg h4, if_neg h12]
theorem formOf_any (t : Int) (s : List UInt8) (ax : Option Addr) (l cx : Nat) (w : World) (hl : l <= 20000000) (hs : s.length <= 20000000) :
  Calls Tryz.prog 66 #[.agg #[.int .i64 t, .string ⟨s.toArray⟩, .slice ax l cx]] w fun e w' => e = .returned (formV t s (.slice ax l cx) l) /\ Below w.heap.size w w' := by
 have HL := one_laid w (.int .i64 t) (.string ⟨s.toArray⟩) (.slice ax l cx) 41
 by_cases h48 : t = 48 /\ s = []
 ·obtain ⟨rfl, rfl⟩ := h48
  rw [formV_row]
  go_enter Tryz.func66, Tryz.ntmps66
  go_wp2_with fail
  go_ret
  exact ⟨rfl, (HL _ rfl).1⟩
 have hlb : (l : Int) <= 20000000 := by omega
 by_cases hl0 : 0 < l
 ·rw [formV_nil _ h48 hl0]
  have hl0i : (0 : Int) < (l : Int) := by omega
  by_cases ht : t = 48
  ·subst ht
   have hs0 : ¬ s = [] := fun e => h48 ⟨rfl, e⟩
   have hsn : (s == []) = false := by simpa using hs0
   go_enter Tryz.func66, Tryz.ntmps66
   go_wp2_with fail
   go_ret
   exact ⟨rfl, (HL _ rfl).1⟩
  ·have htb : (t == 48) = false := by simpa using ht
   go_enter Tryz.func66, Tryz.ntmps66
   go_wp2_with fail
   go_ret
   exact ⟨rfl, (HL _ rfl).1⟩
 obtain rfl : l = 0 := by omega
 by_cases h1 : t = 1
 ·subst h1
  rw [formV_one]
  go_enter Tryz.func66, Tryz.ntmps66
  go_wp2_with fail
  go_ret
  exact ⟨rfl, (HL _ rfl).1⟩
 by_cases h2 : t = 2
 ·subst h2
  rw [formV_two]
  go_enter Tryz.func66, Tryz.ntmps66
  go_wp2_with fail
  go_ret
  exact ⟨rfl, (HL _ rfl).1⟩
 by_cases h4 : t = 4
 ·subst h4
  rw [formV_four]
  go_enter Tryz.func66, Tryz.ntmps66
  go_wp2_with fail
  go_ret
  exact ⟨rfl, (HL _ rfl).1⟩
 by_cases h12 : t = 12
 ·subst h12
  rw [formV_twelve]
  go_enter Tryz.func66, Tryz.ntmps66
  go_wp2_with fail
  go_ret
  exact ⟨rfl, (HL _ rfl).1⟩
 rw [formV_none _ h48 h1 h2 h4 h12]
 have b1 : (t == 1) = false := by simpa using h1
 have b2 : (t == 2) = false := by simpa using h2
 have b4 : (t == 4) = false := by simpa using h4
 have b12 : (t == 12) = false := by simpa using h12
 by_cases ht : t = 48
 ·subst ht
  have hs0 : ¬ s = [] := fun e => h48 ⟨rfl, e⟩
  have hsn : (s == []) = false := by simpa using hs0
  go_enter Tryz.func66, Tryz.ntmps66
  go_wp2_with fail
  go_ret
  exact ⟨rfl, (HL _ rfl).1⟩
 ·have htb : (t == 48) = false := by simpa using ht
  go_enter Tryz.func66, Tryz.ntmps66
  go_wp2_with fail
  go_ret
  exact ⟨rfl, (HL _ rfl).1⟩
theorem intRight_any (s : List UInt8) (w : World) (hs : s.length <= 20000000) :
  Calls Tryz.prog 82 #[.string ⟨s.toArray⟩] w fun e w' => e = .returned (.bool (plainOk 2 s)) /\ w' = w := by
 have hsz : (⟨s.toArray⟩ : ByteArray).size = s.length := by show s.toArray.size = _; simp
 by_cases hl : 1 <= s.length /\ s.length <= 5
 ·obtain ⟨b, r, rfl⟩ : ∃ b r, s = b :: r := by
   cases s with
   | nil => simp at hl
   | cons b r => exact ⟨b, r, rfl⟩
  have hg0 : ∀ h, (⟨(b :: r).toArray⟩ : ByteArray)[0]'h = b := fun h => rfl
  have hrl : (r.length : Int) + 1 <= 5 := by have := hl.2; simp at this; omega
  have hrl5 : ¬ (5 : Int) < (r.length : Int) + 1 := by omega
  have hrl0 : ¬ (r.length : Int) + 1 = 0 := by omega
  by_cases hb : 128 <= b.toNat
  ·have HR : Hid (plainOk 2 (b :: r) = false) := by
    show plainOk 2 (b :: r) = false
    unfold plainOk
    rw [if_neg (by decide), if_pos rfl]
    have : ¬ b < 128 := by rw [UInt8.lt_iff_toNat_lt]; simpa using hb
    simp [this]
   have hbi : (127 : Int) < (b.toNat : Int) := by omega
   go_enter Tryz.func82, Tryz.ntmps82
   go_wp2_with fail
   go_ret
   exact ⟨by rw [HR.out]; rfl, rfl⟩
  ·have hbi : ¬ (127 : Int) < (b.toNat : Int) := by omega
   have hblt : b < 128 := by rw [UInt8.lt_iff_toNat_lt]; simpa using hb
   by_cases hb0 : b.toNat = 0
   ·have hb00 : b = 0 := UInt8.toNat_inj.1 (by simpa using hb0)
    subst hb00
    cases r with
    | nil =>
     have HR : Hid (plainOk 2 [0] = true) := by show plainOk 2 [0] = true; decide
     go_enter Tryz.func82, Tryz.ntmps82
     go_wp2_with fail
     go_ret
     exact ⟨by rw [HR.out]; rfl, rfl⟩
    | cons c r =>
     have hg1 : ∀ h, (⟨(0 :: c :: r).toArray⟩ : ByteArray)[1]'h = c := fun h => rfl
     have hr2 : (r.length : Int) + 1 + 1 <= 5 := by have := hl.2; simp at this; omega
     have hr25 : ¬ (5 : Int) < (r.length : Int) + 1 + 1 := by omega
     have hr21 : ¬ ((r.length : Int) + 1 + 1 = 1) := by omega
     have hr20 : ¬ ((r.length : Int) + 1 + 1 = 0) := by omega
     have HR : Hid (plainOk 2 (0 :: c :: r) = decide ((127 : Int) < (c.toNat : Int))) := by
      show plainOk 2 (0 :: c :: r) = _
      unfold plainOk
      rw [if_neg (by decide), if_pos rfl]
      have h5 : r.length + 1 + 1 <= 5 := by simpa using hl.2
      have e : ((128 : UInt8) <= c) = ((127 : Int) < (c.toNat : Int)) := by
       rw [UInt8.le_iff_toNat_le]
       show (128 <= c.toNat) = _
       exact propext ⟨fun h => by omega, fun h => by omega⟩
      simp [h5, e]
     go_enter Tryz.func82, Tryz.ntmps82
     go_wp2_with fail
     go_ret
     exact ⟨by rw [HR.out]; rfl, rfl⟩
   ·have hbz : ¬ (b.toNat : Int) = 0 := by omega
    have HR : Hid (plainOk 2 (b :: r) = true) := by
     show plainOk 2 (b :: r) = true
     unfold plainOk
     rw [if_neg (by decide), if_pos rfl]
     have h5 : r.length + 1 <= 5 := by simpa using hl.2
     have hne : b ≠ 0 := fun e => hb0 (by rw [e]; rfl)
     simp [hblt, h5, hne]
    go_enter Tryz.func82, Tryz.ntmps82
    go_wp2_with fail
    go_ret
    exact ⟨by rw [HR.out]; rfl, rfl⟩
 ·have HR : Hid (plainOk 2 s = false) := by
   show plainOk 2 s = false
   unfold plainOk
   rw [if_neg (by decide), if_pos rfl]
   by_cases h1 : 1 <= s.length
   ·have h5 : ¬ s.length <= 5 := fun h => hl ⟨h1, h⟩
    simp [h5]
   ·simp [h1]
  by_cases h0 : s.length = 0
  ·obtain rfl : s = [] := List.eq_nil_of_length_eq_zero h0
   go_enter Tryz.func82, Tryz.ntmps82
   go_wp2_with fail
   go_ret
   exact ⟨by rw [HR.out]; rfl, rfl⟩
  ·have h5 : (5 : Int) < (s.length : Int) := by omega
   have h00 : ¬ (s.length : Int) = 0 := by omega
   go_enter Tryz.func82, Tryz.ntmps82
   go_wp2_with fail
   go_ret
   exact ⟨by rw [HR.out]; rfl, rfl⟩
theorem ta_flag_flag (s : ByteArray) (w : World) : (Instr.typeAssert (.iface 114 (.string s)) 96 114 true).run Tryz.prog w = .ok (.tuple #[.string s, .bool true]) w := by kernel_rfl
theorem ta_integer_flag (s : ByteArray) (w : World) : (Instr.typeAssert (.iface 115 (.string s)) 96 114 true).run Tryz.prog w = .ok (.tuple #[.string ⟨#[]⟩, .bool false]) w := by kernel_rfl
theorem ta_integer_integer (s : ByteArray) (w : World) : (Instr.typeAssert (.iface 115 (.string s)) 96 115 true).run Tryz.prog w = .ok (.tuple #[.string s, .bool true]) w := by kernel_rfl
theorem ta_octets_flag (s : ByteArray) (w : World) : (Instr.typeAssert (.iface 116 (.string s)) 96 114 true).run Tryz.prog w = .ok (.tuple #[.string ⟨#[]⟩, .bool false]) w := by kernel_rfl
theorem ta_octets_integer (s : ByteArray) (w : World) : (Instr.typeAssert (.iface 116 (.string s)) 96 115 true).run Tryz.prog w = .ok (.tuple #[.string ⟨#[]⟩, .bool false]) w := by kernel_rfl
theorem ta_octets_octets (s : ByteArray) (w : World) : (Instr.typeAssert (.iface 116 (.string s)) 96 116 true).run Tryz.prog w = .ok (.tuple #[.string s, .bool true]) w := by kernel_rfl
theorem ta_plain_flag (s : ByteArray) (w : World) : (Instr.typeAssert (.iface 117 (.string s)) 96 114 true).run Tryz.prog w = .ok (.tuple #[.string ⟨#[]⟩, .bool false]) w := by kernel_rfl
theorem ta_plain_integer (s : ByteArray) (w : World) : (Instr.typeAssert (.iface 117 (.string s)) 96 115 true).run Tryz.prog w = .ok (.tuple #[.string ⟨#[]⟩, .bool false]) w := by kernel_rfl
theorem ta_plain_octets (s : ByteArray) (w : World) : (Instr.typeAssert (.iface 117 (.string s)) 96 116 true).run Tryz.prog w = .ok (.tuple #[.string ⟨#[]⟩, .bool false]) w := by kernel_rfl
theorem ta_plain_plain (s : ByteArray) (w : World) : (Instr.typeAssert (.iface 117 (.string s)) 96 117 true).run Tryz.prog w = .ok (.tuple #[.string s, .bool true]) w := by kernel_rfl
theorem ta_row_flag (a : Option Addr) (l c : Nat) (w : World) : (Instr.typeAssert (.iface 118 (.slice a l c)) 96 114 true).run Tryz.prog w = .ok (.tuple #[.string ⟨#[]⟩, .bool false]) w := by kernel_rfl
theorem ta_row_integer (a : Option Addr) (l c : Nat) (w : World) : (Instr.typeAssert (.iface 118 (.slice a l c)) 96 115 true).run Tryz.prog w = .ok (.tuple #[.string ⟨#[]⟩, .bool false]) w := by kernel_rfl
theorem ta_row_octets (a : Option Addr) (l c : Nat) (w : World) : (Instr.typeAssert (.iface 118 (.slice a l c)) 96 116 true).run Tryz.prog w = .ok (.tuple #[.string ⟨#[]⟩, .bool false]) w := by kernel_rfl
theorem ta_row_plain (a : Option Addr) (l c : Nat) (w : World) : (Instr.typeAssert (.iface 118 (.slice a l c)) 96 117 true).run Tryz.prog w = .ok (.tuple #[.string ⟨#[]⟩, .bool false]) w := by kernel_rfl
theorem ta_row_row (a : Option Addr) (l c : Nat) (w : World) : (Instr.typeAssert (.iface 118 (.slice a l c)) 96 118 true).run Tryz.prog w = .ok (.tuple #[.slice a l c, .bool true]) w := by kernel_rfl
theorem ta_nil_flag (w : World) : (Instr.typeAssert .nilIface 96 114 true).run Tryz.prog w = .ok (.tuple #[.string ⟨#[]⟩, .bool false]) w := by kernel_rfl
theorem ta_nil_integer (w : World) : (Instr.typeAssert .nilIface 96 115 true).run Tryz.prog w = .ok (.tuple #[.string ⟨#[]⟩, .bool false]) w := by kernel_rfl
theorem ta_nil_octets (w : World) : (Instr.typeAssert .nilIface 96 116 true).run Tryz.prog w = .ok (.tuple #[.string ⟨#[]⟩, .bool false]) w := by kernel_rfl
theorem ta_nil_plain (w : World) : (Instr.typeAssert .nilIface 96 117 true).run Tryz.prog w = .ok (.tuple #[.string ⟨#[]⟩, .bool false]) w := by kernel_rfl
theorem ta_nil_row (w : World) : (Instr.typeAssert .nilIface 96 118 true).run Tryz.prog w = .ok (.tuple #[.slice none 0 0, .bool false]) w := by kernel_rfl
theorem rw_flag (s : List UInt8) (d : Int) (w : World) : Calls Tryz.prog 65 #[.iface 114 (.string ⟨s.toArray⟩), .int .i64 d] w fun e w' => e = .returned (.bool (plainOk 1 s)) /\ Below w.heap.size w w' := by
 have t_flag := ta_flag_flag
 have HN : Hid (plainOk 1 s = (s == [0] || s == [255])) := rfl
 by_cases e0 : s = [0]
 ·subst e0
  go_enter Tryz.func65, Tryz.ntmps65
  go_wp2_with fail
  go_ret
  exact ⟨by rw [HN.out]; rfl, Below.refl _ _⟩
 ·by_cases e1 : s = [255]
  ·subst e1
   go_enter Tryz.func65, Tryz.ntmps65
   go_wp2_with fail
   go_ret
   exact ⟨by rw [HN.out]; rfl, Below.refl _ _⟩
  ·have f0 : (s == [0]) = false := by simpa using e0
   have f1 : (s == [255]) = false := by simpa using e1
   have HR : Hid (plainOk 1 s = false) := by show plainOk 1 s = false; rw [HN.out, f0, f1]; rfl
   go_enter Tryz.func65, Tryz.ntmps65
   go_wp2_with fail
   go_ret
   exact ⟨by rw [HR.out]; rfl, Below.refl _ _⟩
theorem rw_int (s : List UInt8) (d : Int) (w : World) (hs : s.length <= 20000000) : Calls Tryz.prog 65 #[.iface 115 (.string ⟨s.toArray⟩), .int .i64 d] w fun e w' => e = .returned (.bool (plainOk 2 s)) /\ Below w.heap.size w w' := by
 have t_flag := ta_integer_flag
 have t_integer := ta_integer_integer
 go_enter Tryz.func65, Tryz.ntmps65
 go_wp2_with fail
 refine (intRight_any s _ hs).mono ?_
 rintro e w' ⟨rfl, rfl⟩
 go_wp2_with fail
 go_ret
 exact ⟨rfl, Below.refl _ _⟩
theorem rw_octets (s : List UInt8) (d : Int) (w : World) : Calls Tryz.prog 65 #[.iface 116 (.string ⟨s.toArray⟩), .int .i64 d] w fun e w' => e = .returned (.bool true) /\ Below w.heap.size w w' := by
 have t_flag := ta_octets_flag
 have t_integer := ta_octets_integer
 have t_octets := ta_octets_octets
 go_enter Tryz.func65, Tryz.ntmps65
 go_wp2_with fail
 go_ret
 exact ⟨rfl, Below.refl _ _⟩
theorem rw_plain (s : List UInt8) (d : Int) (w : World) (hs : s.length <= 20000000) : Calls Tryz.prog 65 #[.iface 117 (.string ⟨s.toArray⟩), .int .i64 d] w fun e w' => e = .returned (.bool (plainOk 12 s)) /\ Below w.heap.size w w' := by
 have t_flag := ta_plain_flag
 have t_integer := ta_plain_integer
 have t_octets := ta_plain_octets
 have t_plain := ta_plain_plain
 have hsz : (⟨s.toArray⟩ : ByteArray).size = s.length := by show s.toArray.size = _; simp
 have HN : Hid (plainOk 12 s = lineB s) := rfl
 have E := plainLineB_any ⟨s.toArray⟩ w (by omega)
 have E2 : Calls Tryz.prog 83 #[.string ⟨s.toArray⟩] w fun e w' => e = .returned (.bool (lineB s)) /\ Below w.heap.size w w' := E
 obtain ⟨P, hP⟩ := zE (lineB s)
 rw [HN.out]
 rw [hP] at E2 |-
 clear hP E HN
 go_enter Tryz.func65, Tryz.ntmps65
 go_wp2_with fail
 refine E2.mono ?_
 rintro e w' ⟨rfl, hb⟩
 go_wp2_with fail
 go_ret
 exact ⟨rfl, hb⟩
theorem rw_nil (d : Int) (w : World) : Calls Tryz.prog 65 #[.nilIface, .int .i64 d] w fun e w' => e = .returned (.bool false) /\ Below w.heap.size w w' := by
 have t_flag := ta_nil_flag
 have t_integer := ta_nil_integer
 have t_octets := ta_nil_octets
 have t_plain := ta_nil_plain
 have t_row := ta_nil_row
 go_enter Tryz.func65, Tryz.ntmps65
 go_wp2_with fail
 go_ret
 exact ⟨rfl, Below.refl _ _⟩
end Go.Proofs.YthbdgdfanpbkeaaGreat
