/-
  Texts of the proof.
-/
import Derived.Deep.RegionLaw
import Derived.Test.YtabfamhaihnccaaGreatLC20
set_option linter.unusedVariables false
set_option linter.unusedSimpArgs false
set_option maxRecDepth 100000
set_option maxHeartbeats 25600000
namespace Go.Proofs.YtabfamhaihnccaaGreat
open Go.RowKit Der
def Blk3 (w : World) (g : Nat) (a b c : Value) : Prop := w.heap[g]? = some (.cells #[a, b, c] 178 (0, 0))
theorem Blk3.lt {w : World} {g : Nat} {a b c : Value} (h : Blk3 w g a b c) : g < w.heap.size := by
 rcases Nat.lt_or_ge g w.heap.size with h' | h'
 ·exact h'
 ·unfold Blk3 at h; rw [Array.getElem?_eq_none h'] at h; cases h
theorem Blk3.below {w w' : World} {g : Nat} {a b c : Value} (h : Blk3 w g a b c) (hb : zW w w') : Blk3 w' g a b c := (hb.block g h.lt).trans h
theorem Blk3.grown {w w' : World} {g : Nat} {a b c : Value} {row : Option Nat} (h : Blk3 w g a b c) (hg : w.grownBy w' row) (hne : some g ≠ row) : Blk3 w' g a b c := (hg.block g h.lt hne).trans h
theorem Blk3.other {w : World} {g : Nat} {a b c : Value} (h : Blk3 w g a b c) {p : Addr} (hne : g ≠ p.block) (v : Value) : Blk3 (w.setCell p v) g a b c := (heap_setCell_other _ _ _ _ hne).trans h
theorem Blk3.set {w : World} {g : Nat} {a b c : Value} (h : Blk3 w g a b c) (v : Value) : Blk3 (w.setCell ⟨g, 2, none⟩ v) g a b v := by
 unfold Blk3 at h |-;rw [heap_setCell_same w g 2 _ _ _ h];rfl
theorem two_blk (w : World) (p q r : Value) (x y z : Value) : ∀ W, W = (w.alloc (Obj.cells #[p, q, r] 178)).alloc (Obj.cells #[x, y, z] 178) -> zW w W /\ W.heap.size = w.heap.size + 2 /\ Blk3 W w.heap.size p q r /\ Blk3 W (w.heap.size + 1) x y z := by
 rintro W rfl;have e : (w.alloc (Obj.cells #[p, q, r] 178)).heap.size = w.heap.size + 1 := Array.size_push _;refine ⟨((Below.refl _ _).alloc (Nat.le_refl _) _).alloc (by rw [e]; omega) _, ?_, ?_, ?_⟩
 ·rw [show ((w.alloc (Obj.cells #[p, q, r] 178)).alloc (Obj.cells #[x, y, z] 178)).heap.size = (w.alloc (Obj.cells #[p, q, r] 178)).heap.size + 1 from Array.size_push _, e]
 ·show ((w.heap.push (Obj.cells #[p, q, r] 178)).push (Obj.cells #[x, y, z] 178))[w.heap.size]? = _
  rw [Array.getElem?_push, if_neg (by rw [Array.size_push]; omega), Array.getElem?_push, if_pos rfl]
 ·have h := heap_alloc_new (w.alloc (Obj.cells #[p, q, r] 178)) (Obj.cells #[x, y, z] 178)
  rw [e] at h;exact h
theorem GrowK.out {w w' : World} {base n : Nat} {v : Value} {ks : List (It (n + 1))} (h : GrowK w base n v ks) (he : ∀ b, base <= b -> w'.heap[b]? = w.heap[b]?) : GrowK w' base n v ks := by
 obtain ⟨kvs, fps, h1, h2, ho, h3, h4, h5⟩ := h;refine ⟨kvs, fps, h1, h2, ⟨ho.1, ?_⟩, h3, h4, fun j a b c => ?_⟩
 ·rcases ho.2 with hn | ⟨g, cap, cur, hv, hb, hg, rest⟩
  ·exact .inl hn
  ·exact .inr ⟨g, cap, cur, hv, hb, by rw [he g hb]; exact hg, rest⟩
 ·have := h5 j a b c
  exact this.same fun x hx => he x (OwnK.lt this x hx).1
end Go.Proofs.YtabfamhaihnccaaGreat
namespace Go.Proofs.YtabfamhaihnccaaGreat
open Go.RowKit Der
def intI {n : Nat} (x : Int) : It (n + 1) := It.mk 2 (intT (numN x)) []
def txtJ {n : Nat} (s : ByteArray) : It (n + 1) := It.mk 12 s.data.toList []
def bytJ {n : Nat} (s : ByteArray) : It (n + 1) := It.mk 4 s.data.toList []
def flagJ {n : Nat} (b : Bool) : It (n + 1) := It.mk 1 [if b then 255 else 0] []
def lstJ {n : Nat} (ks : List (It n)) : It (n + 1) := It.mk 48 [] ks
def bodyC (c : Ct) : It 3 := lstJ [intI c.serial, txtJ c.issuer, lstJ [intI c.frm, intI c.upto], txtJ c.subject, bytJ c.key, flagJ c.ca, intI c.pathLen, intI c.usage, lstJ (c.pol.map intI), lstJ (c.per.map txtJ), lstJ (c.den.map txtJ)]
def certI (c : Ct) : It 4 := lstJ [bodyC c, bytJ c.sig]
theorem bytes_any (s : ByteArray) (w : World) : Calls Tryz.prog 121 #[zG s] w fun e w' => e = .returned (.agg #[zI 4, zG s, zZ]) /\ zW w w' := by
 go_enter Tryz.func121, Tryz.ntmps121;go_wp2_with fail;refine bodyPost_ret (v := .agg #[zI 4, zG s, zZ]) (by simp [results, Tryz.results121, go_sem]; try rfl) rfl ⟨rfl, ?_⟩;exact (Below.refl _ _).alloc (Nat.le_refl _) _
theorem flag_any (b : Bool) (w : World) : Calls Tryz.prog 156 #[.bool b] w fun e w' => e = .returned (.agg #[zI 1, zG ⟨[if b then 255 else 0].toArray⟩, zZ]) /\ zW w w' := by
 cases b with
 | true =>
  go_enter Tryz.func156, Tryz.ntmps156;go_wp2_with fail;refine bodyPost_ret (v := .agg #[zI 1, zG ⟨#[255]⟩, zZ]) (by simp [results, Tryz.results156, go_sem]; try rfl) rfl ⟨rfl, ?_⟩;exact (Below.refl _ _).alloc (Nat.le_refl _) _
 | false =>
  go_enter Tryz.func156, Tryz.ntmps156;go_wp2_with fail;refine bodyPost_ret (v := .agg #[zI 1, zG ⟨#[0]⟩, zZ]) (by simp [results, Tryz.results156, go_sem]; try rfl) rfl ⟨rfl, ?_⟩;exact (Below.refl _ _).alloc (Nat.le_refl _) _
theorem own_none (w : World) (base : Nat) : ∀ n, OwnK w base n zZ [] []
 | 0 => ⟨⟨none, 0, rfl⟩, rfl⟩
 | _ + 1 => ⟨none, 0, rfl, fun _ => rfl, fun h => absurd h (Nat.lt_irrefl _)⟩
theorem both_below {wr w3 : World} {g h o : Nat} {kv t : Value} (hc : wr.cell? ⟨g, 2, none⟩ = some kv /\ wr.cell? ⟨h, o, none⟩ = some t) (hg : g < wr.heap.size) (hh : h < wr.heap.size) (hb : zW wr w3) : w3.cell? ⟨g, 2, none⟩ = some kv /\ w3.cell? ⟨h, o, none⟩ = some t :=
 ⟨(hb.cell (p := ⟨g, 2, none⟩) hg).trans hc.1, (hb.cell (p := ⟨h, o, none⟩) hh).trans hc.2⟩
theorem both_grown {w5 w6 : World} {g h o : Nat} {kv t : Value} {row : Option Nat} (hc : w5.cell? ⟨g, 2, none⟩ = some kv /\ w5.cell? ⟨h, o, none⟩ = some t) (hg : w5.grownBy w6 row) (n1 : some g ≠ row) (n2 : some h ≠ row) : w6.cell? ⟨g, 2, none⟩ = some kv /\ w6.cell? ⟨h, o, none⟩ = some t :=
 ⟨hg.cell hc.1 n1, hg.cell hc.2 n2⟩
theorem ints_any (n : Nat) (ls : List Int) (v : Value) (w : World) (hz : ls.length <= 20000000) (hwd : Wd ls) (hx : IntAt w v ls) :
  Calls Tryz.prog 157 #[v] w fun e w' => ToIt w (n + 1) (lstJ (ls.map intI)) e w' := by
 obtain ⟨ax, cx, rfl, hcell⟩ := hx.each;obtain ⟨l, hle⟩ := zE (ls.length);have HX : Hid ((∀ j, j < ls.length -> ∃ g, ax = some ⟨g, 0, none⟩ /\ g < w.heap.size /\ w.cell? ⟨g, j, none⟩ = some (zI (ls.getD j 0))) /\ ls.length = l /\ Wd ls) := ⟨hcell, hle, hwd⟩;have hlb : l <= 20000000 := by rw [<- hle]; exact hz
 rw [hle];clear hx hz hle hcell hwd;obtain ⟨ks, hks⟩ : ∃ ks : List (It (n + 1)), ls.map intI = ks := ⟨_, rfl⟩;rw [hks];have HK0 : Hid (ls.map intI = ks /\ ks.length = l) := ⟨hks, by rw [<- hks, List.length_map]; exact HX.2.1⟩;clear hks;go_enter Tryz.func157, Tryz.ntmps157;go_wp2_with fail;obtain ⟨W3, hW3⟩ : ∃ W, W = (w.alloc (Obj.cells #[Value.int IntKind.i64 0, Value.string { data := #[] }, Value.slice none 0 0] 178)).alloc (Obj.cells #[Value.int IntKind.i64 48, Value.string { data := #[] }, Value.slice none 0 0] 178) := ⟨_, rfl⟩;rw [<- hW3];have H3 : Hid (zW w W3 /\ W3.heap.size = w.heap.size + 2 /\ Blk3 W3 w.heap.size (zI 0) (zG ⟨#[]⟩) zZ /\ Blk3 W3 (w.heap.size + 1) (zI 48) (zG ⟨#[]⟩) zZ) := two_blk w _ _ _ _ _ _ W3 hW3;clear hW3
 go_loopw [4] (fun iv wr => ∃ k : Nat, k <= l /\ iv = zI k /\ Hid (∃ kv : Value, Blk3 wr w.heap.size (zI 0) (zG ⟨#[]⟩) zZ /\ Blk3 wr (w.heap.size + 1) (zI 48) (zG ⟨#[]⟩) kv /\ GrowK wr (w.heap.size + 2) n kv (ks.take k) /\ zW w wr /\ w.heap.size + 2 <= wr.heap.size)) (fun iv _ => l - (intOf iv).toNat)
 case atStart => exact ⟨0, Nat.zero_le _, rfl, _, H3.2.2.1, H3.2.2.2, GrowK.nil _ _ _, H3.1, by rw [H3.2.1]; exact Nat.le_refl _⟩
 case round =>
  obtain ⟨k, hk, rfl, HR⟩ := hrel;obtain ⟨kv, hr1, hr2, hrG, hrB, hrs⟩ := HR.out;have HK : Hid (Blk3 wr w.heap.size (zI 0) (zG ⟨#[]⟩) zZ /\ Blk3 wr (w.heap.size + 1) (zI 48) (zG ⟨#[]⟩) kv /\ GrowK wr (w.heap.size + 2) n kv (ks.take k) /\ zW w wr /\ w.heap.size + 2 <= wr.heap.size) := ⟨hr1, hr2, hrG, hrB, hrs⟩;clear HR hr1 hr2 hrG hrB hrs H3;by_cases hlt : k < l
  ·have hlti : (k : Int) < (l : Int) := by omega
   have hk0 : (0 : Int) <= (k : Int) := by omega
   have hj0 : k < ls.length := by rw [HX.2.1]; exact hlt
   have hj1 : k < ks.length := by rw [HK0.2]; exact hlt
   obtain ⟨g1, hax, hg1, hc1⟩ := HX.1 k hj0;have c10 : wr.cell? ⟨g1, k, none⟩ = some (zI (ls.getD k 0)) := (HK.2.2.2.1.cell (p := ⟨g1, k, none⟩) hg1).trans hc1;have hm : (ls.getD k 0) ∈ ls := by rw [List.getD_eq_getElem?_getD, List.getElem?_eq_getElem hj0]; exact List.getElem_mem _
   obtain ⟨x, hxe⟩ := zE ((ls.getD k 0));rw [hxe] at c10 hm;have hkx : ks[k] = intI x := by
    rw [<- hxe];have h := HK0.1;subst h;simp [List.getD, hj0]
   have E := specIntItem_any x wr.drew (HX.2.2 x hm);obtain ⟨s3, hs3⟩ : ∃ s3 : ByteArray, (⟨(intT (numN x)).toArray⟩ : ByteArray) = s3 := ⟨_, rfl⟩;have HT : Hid (It.tag ks[k] = 2 /\ (⟨(It.text ks[k]).toArray⟩ : ByteArray) = s3 /\ It.kids ks[k] = []) := by
    rw [hkx];exact ⟨rfl, hs3, rfl⟩
   have E3 : Calls Tryz.prog 154 #[zI x] wr.drew fun e w' => e = .returned (.agg #[zI 2, zG s3, zZ]) /\ zW wr w' := by
    refine E.mono ?_;rintro e w' ⟨rfl, hb⟩;exact ⟨by rw [<- hs3], (Below.refl wr.heap.size wr).drew.trans hb⟩
   obtain ⟨⟨_, _, y2⟩, fy⟩ := cell_in HK.2.1;have htl : (ks.take k).length = k := by rw [List.length_take]; omega
   have HG1 : Hid (g1 < w.heap.size) := hg1;have HNE : Hid (∀ q, q < w.heap.size + 2 -> some q ≠ kv.ownBlock) := fun q hq e => by have := (HK.2.2.1.lt q e.symm).1; omega
   subst hax;clear hc1 hg1 hxe hkx hm E hs3;go_wp2_with fail;have hcs : wr.cell? ⟨w.heap.size + 1, 2, none⟩ = some kv /\ wr.cell? ⟨g1, k, none⟩ = some (zI x) := ⟨y2, c10⟩
   go_region_law (first
    | (refine step_call rfl 154 _ _ rfl #[.int .i64 x] rfl (by kernel_rfl) ?_; refine E3.mono ?_; rintro e w3 ⟨rfl, hb3⟩; have ho3 : OwnK w3 wr.heap.size n (.slice none 0 0) (It.kids ks[k]) [] := (by rw [HT.2.2]; exact own_none _ _ _); have hc3 := both_below hcs (by have := HK.2.2.2.2; omega) (by have := HG1.out; have := HK.2.2.2.1.size; omega) hb3; have hy3 := hc3.1; have hc4 := fun o => both_below hcs (by have := HK.2.2.2.2; omega) (by have := HG1.out; have := HK.2.2.2.1.size; omega) (hb3.alloc hb3.size o); have hy4 := fun o => (hc4 o).1; clear hc3; dsimp only)
    | (refine step_append_item0 rfl _ _ rfl (w.heap.size + 2) n kv (ks.take k) ks[k] 2 s3 (.slice none 0 0) [] HT.1 HT.2.1 rfl _ rfl rfl HK.2.2.1 hb3 ho3 HK.2.2.2.2 (by omega) ?_; intro g cap w6 hG6 hgrow6; have hy6 := (both_grown (hc4 _) hgrow6 (HNE.out _ (by omega)) (HNE.out _ (by have := HG1.out; omega))).1; have fz6 := (cell_in ((HK.2.1.below (hb3.alloc hb3.size _)).grown hgrow6 (HNE.out _ (by omega)))).2))
   all_goals (
    have H6 : Hid (Blk3 w6 w.heap.size (zI 0) (zG ⟨#[]⟩) zZ /\ Blk3 w6 (w.heap.size + 1) (zI 48) (zG ⟨#[]⟩) kv /\ GrowK w6 (w.heap.size + 2) n (zS (some ⟨g, 0, none⟩) (k + 1) cap) (ks.take (k + 1)) /\ zW w w6 /\ w.heap.size + 2 <= w6.heap.size) := by
     have hb5 := hb3.alloc hb3.size (Obj.cells #[Value.int IntKind.i64 2, Value.string s3, Value.slice none 0 0] 178);have hbw := HK.2.2.2.1.trans (hb5.mono HK.2.2.2.1.size);have e := List.take_append_getElem hj1;rw [htl, e] at hG6;exact ⟨(HK.1.below hb5).grown hgrow6 (HNE.out _ (by omega)), (HK.2.1.below hb5).grown hgrow6 (HNE.out _ (by omega)), hG6, hbw.grown hgrow6 hbw.size (fun q hq => by have := (HK.2.2.1.lt q hq).1; omega), Nat.le_trans HK.2.2.2.2 (Nat.le_trans hb5.size hgrow6.size)⟩
    clear hG6 hgrow6 hy6 fz6 hy3 hc4 hy4 ho3 hb3 hcs y2 c10 E3;go_wp2_with fail;refine ⟨⟨k + 1, by omega, by go_num, zS (some ⟨g, 0, none⟩) (k + 1) cap, ?_, ?_, ?_, ?_, ?_⟩, by simp [intOf]; omega⟩
    ·exact H6.1.other (by show w.heap.size ≠ w.heap.size + 1; omega) _
    ·exact H6.2.1.set _
    ·exact H6.2.2.1.out fun b hb => heap_setCell_other _ _ _ _ (by show b ≠ w.heap.size + 1; omega)
    ·exact H6.2.2.2.1.setCell (p := ⟨w.heap.size + 1, 2, none⟩) (by show w.heap.size <= w.heap.size + 1; omega) _
    ·exact Nat.le_trans H6.2.2.2.2 (((Below.refl 0 w6).setCell (p := ⟨w.heap.size + 1, 2, none⟩) (Nat.zero_le _) _).size))
  ·have hlti : ¬ (k : Int) < (l : Int) := by omega
   obtain ⟨⟨q0, q1, q2⟩, _⟩ := cell_in HK.2.1;obtain ⟨⟨r0, r1, r2⟩, rf⟩ := cell_in HK.1;have HE : Hid (∃ fp, OwnK wr (w.heap.size + 2) (n + 1) kv ks fp) := by
    have h := HK.2.2.1;rw [List.take_of_length_le (by have := HK0.2; omega)] at h;exact h.own
   obtain ⟨axe, cape, hkv⟩ := HK.2.2.1.shape;obtain ⟨le, hle⟩ := zE ((ks.take k).length);rw [hle] at hkv;subst hkv;clear hle;go_wp2_with fail;refine bodyPost_ret (v := .agg #[zI 48, zG ⟨#[]⟩, zS axe le cape]) (by simp [results, Tryz.results157, go_sem, r0, r1, r2]; try rfl) rfl ?_;obtain ⟨fp, hfp⟩ := HE.out;refine ⟨zS axe le cape, fp, rfl, ?_, ?_⟩
   ·refine OwnK.base (base := w.heap.size + 2) (by omega) (hfp.same fun b hb => ?_)
    have h1 := (OwnK.lt hfp b hb).1;rw [heap_setCell_other _ _ _ _ (by show b ≠ w.heap.size; omega), heap_setCell_other _ _ _ _ (by show b ≠ w.heap.size; omega), heap_setCell_other _ _ _ _ (by show b ≠ w.heap.size; omega)]
   ·exact ((HK.2.2.2.1.setCell (p := ⟨w.heap.size, 0, none⟩) (Nat.le_refl _) _).setCell (p := ⟨w.heap.size, 1, none⟩) (Nat.le_refl _) _).setCell (p := ⟨w.heap.size, 2, none⟩) (Nat.le_refl _) _
theorem texts_any (n : Nat) (ls : List ByteArray) (v : Value) (w : World) (hz : ls.length <= 20000000) (hwd : WdT ls) (hx : TxtAt w v ls) :
  Calls Tryz.prog 158 #[v] w fun e w' => ToIt w (n + 1) (lstJ (ls.map txtJ)) e w' := by
 obtain ⟨ax, cx, rfl, hcell⟩ := id hx;obtain ⟨l, hle⟩ := zE (ls.length);have HX : Hid ((∀ j, j < ls.length -> ∃ g, ax = some ⟨g, 0, none⟩ /\ g < w.heap.size /\ w.cell? ⟨g, j, none⟩ = some (zG (ls.getD j ByteArray.empty))) /\ ls.length = l /\ WdT ls) := ⟨hcell, hle, hwd⟩;have hlb : l <= 20000000 := by rw [<- hle]; exact hz
 rw [hle];clear hx hz hle hcell hwd;obtain ⟨ks, hks⟩ : ∃ ks : List (It (n + 1)), ls.map txtJ = ks := ⟨_, rfl⟩;rw [hks];have HK0 : Hid (ls.map txtJ = ks /\ ks.length = l) := ⟨hks, by rw [<- hks, List.length_map]; exact HX.2.1⟩;clear hks;go_enter Tryz.func158, Tryz.ntmps158;go_wp2_with fail;obtain ⟨W3, hW3⟩ : ∃ W, W = (w.alloc (Obj.cells #[Value.int IntKind.i64 0, Value.string { data := #[] }, Value.slice none 0 0] 178)).alloc (Obj.cells #[Value.int IntKind.i64 48, Value.string { data := #[] }, Value.slice none 0 0] 178) := ⟨_, rfl⟩;rw [<- hW3];have H3 : Hid (zW w W3 /\ W3.heap.size = w.heap.size + 2 /\ Blk3 W3 w.heap.size (zI 0) (zG ⟨#[]⟩) zZ /\ Blk3 W3 (w.heap.size + 1) (zI 48) (zG ⟨#[]⟩) zZ) := two_blk w _ _ _ _ _ _ W3 hW3;clear hW3
 go_loopw [4] (fun iv wr => ∃ k : Nat, k <= l /\ iv = zI k /\ Hid (∃ kv : Value, Blk3 wr w.heap.size (zI 0) (zG ⟨#[]⟩) zZ /\ Blk3 wr (w.heap.size + 1) (zI 48) (zG ⟨#[]⟩) kv /\ GrowK wr (w.heap.size + 2) n kv (ks.take k) /\ zW w wr /\ w.heap.size + 2 <= wr.heap.size)) (fun iv _ => l - (intOf iv).toNat)
 case atStart => exact ⟨0, Nat.zero_le _, rfl, _, H3.2.2.1, H3.2.2.2, GrowK.nil _ _ _, H3.1, by rw [H3.2.1]; exact Nat.le_refl _⟩
 case round =>
  obtain ⟨k, hk, rfl, HR⟩ := hrel;obtain ⟨kv, hr1, hr2, hrG, hrB, hrs⟩ := HR.out;have HK : Hid (Blk3 wr w.heap.size (zI 0) (zG ⟨#[]⟩) zZ /\ Blk3 wr (w.heap.size + 1) (zI 48) (zG ⟨#[]⟩) kv /\ GrowK wr (w.heap.size + 2) n kv (ks.take k) /\ zW w wr /\ w.heap.size + 2 <= wr.heap.size) := ⟨hr1, hr2, hrG, hrB, hrs⟩;clear HR hr1 hr2 hrG hrB hrs H3;by_cases hlt : k < l
  ·have hlti : (k : Int) < (l : Int) := by omega
   have hk0 : (0 : Int) <= (k : Int) := by omega
   have hj0 : k < ls.length := by rw [HX.2.1]; exact hlt
   have hj1 : k < ks.length := by rw [HK0.2]; exact hlt
   obtain ⟨g1, hax, hg1, hc1⟩ := HX.1 k hj0;have c10 : wr.cell? ⟨g1, k, none⟩ = some (zG (ls.getD k ByteArray.empty)) := (HK.2.2.2.1.cell (p := ⟨g1, k, none⟩) hg1).trans hc1;have hm : (ls.getD k ByteArray.empty) ∈ ls := by rw [List.getD_eq_getElem?_getD, List.getElem?_eq_getElem hj0]; exact List.getElem_mem _
   obtain ⟨x, hxe⟩ := zE ((ls.getD k ByteArray.empty));rw [hxe] at c10 hm;have hkx : ks[k] = txtJ x := by
    rw [<- hxe];have h := HK0.1;subst h;simp [List.getD, hj0]
   have E := specTextItem_any x wr.drew;obtain ⟨s3, hs3⟩ : ∃ s3 : ByteArray, x = s3 := ⟨_, rfl⟩;have HT : Hid (It.tag ks[k] = 12 /\ (⟨(It.text ks[k]).toArray⟩ : ByteArray) = s3 /\ It.kids ks[k] = []) := by
    rw [hkx];exact ⟨rfl, by rw [<- hs3]; show (⟨x.data.toList.toArray⟩ : ByteArray) = x; simp, rfl⟩
   have E3 : Calls Tryz.prog 155 #[zG x] wr.drew fun e w' => e = .returned (.agg #[zI 12, zG s3, zZ]) /\ zW wr w' := by
    refine E.mono ?_;rintro e w' ⟨rfl, hb⟩;exact ⟨by rw [<- hs3], (Below.refl wr.heap.size wr).drew.trans hb⟩
   obtain ⟨⟨_, _, y2⟩, fy⟩ := cell_in HK.2.1;have htl : (ks.take k).length = k := by rw [List.length_take]; omega
   have HG1 : Hid (g1 < w.heap.size) := hg1;have HNE : Hid (∀ q, q < w.heap.size + 2 -> some q ≠ kv.ownBlock) := fun q hq e => by have := (HK.2.2.1.lt q e.symm).1; omega
   subst hax;clear hc1 hg1 hxe hkx hm E hs3;go_wp2_with fail;have hcs : wr.cell? ⟨w.heap.size + 1, 2, none⟩ = some kv /\ wr.cell? ⟨g1, k, none⟩ = some (zG x) := ⟨y2, c10⟩
   go_region_law (first
    | (refine step_call rfl 155 _ _ rfl #[.string x] rfl (by kernel_rfl) ?_; refine E3.mono ?_; rintro e w3 ⟨rfl, hb3⟩; have ho3 : OwnK w3 wr.heap.size n (.slice none 0 0) (It.kids ks[k]) [] := (by rw [HT.2.2]; exact own_none _ _ _); have hc3 := both_below hcs (by have := HK.2.2.2.2; omega) (by have := HG1.out; have := HK.2.2.2.1.size; omega) hb3; have hy3 := hc3.1; have hc4 := fun o => both_below hcs (by have := HK.2.2.2.2; omega) (by have := HG1.out; have := HK.2.2.2.1.size; omega) (hb3.alloc hb3.size o); have hy4 := fun o => (hc4 o).1; clear hc3; dsimp only)
    | (refine step_append_item0 rfl _ _ rfl (w.heap.size + 2) n kv (ks.take k) ks[k] 12 s3 (.slice none 0 0) [] HT.1 HT.2.1 rfl _ rfl rfl HK.2.2.1 hb3 ho3 HK.2.2.2.2 (by omega) ?_; intro g cap w6 hG6 hgrow6; have hy6 := (both_grown (hc4 _) hgrow6 (HNE.out _ (by omega)) (HNE.out _ (by have := HG1.out; omega))).1; have fz6 := (cell_in ((HK.2.1.below (hb3.alloc hb3.size _)).grown hgrow6 (HNE.out _ (by omega)))).2))
   all_goals (
    have H6 : Hid (Blk3 w6 w.heap.size (zI 0) (zG ⟨#[]⟩) zZ /\ Blk3 w6 (w.heap.size + 1) (zI 48) (zG ⟨#[]⟩) kv /\ GrowK w6 (w.heap.size + 2) n (zS (some ⟨g, 0, none⟩) (k + 1) cap) (ks.take (k + 1)) /\ zW w w6 /\ w.heap.size + 2 <= w6.heap.size) := by
     have hb5 := hb3.alloc hb3.size (Obj.cells #[Value.int IntKind.i64 12, Value.string s3, Value.slice none 0 0] 178);have hbw := HK.2.2.2.1.trans (hb5.mono HK.2.2.2.1.size);have e := List.take_append_getElem hj1;rw [htl, e] at hG6;exact ⟨(HK.1.below hb5).grown hgrow6 (HNE.out _ (by omega)), (HK.2.1.below hb5).grown hgrow6 (HNE.out _ (by omega)), hG6, hbw.grown hgrow6 hbw.size (fun q hq => by have := (HK.2.2.1.lt q hq).1; omega), Nat.le_trans HK.2.2.2.2 (Nat.le_trans hb5.size hgrow6.size)⟩
    clear hG6 hgrow6 hy6 fz6 hy3 hc4 hy4 ho3 hb3 hcs y2 c10 E3;go_wp2_with fail;refine ⟨⟨k + 1, by omega, by go_num, zS (some ⟨g, 0, none⟩) (k + 1) cap, ?_, ?_, ?_, ?_, ?_⟩, by simp [intOf]; omega⟩
    ·exact H6.1.other (by show w.heap.size ≠ w.heap.size + 1; omega) _
    ·exact H6.2.1.set _
    ·exact H6.2.2.1.out fun b hb => heap_setCell_other _ _ _ _ (by show b ≠ w.heap.size + 1; omega)
    ·exact H6.2.2.2.1.setCell (p := ⟨w.heap.size + 1, 2, none⟩) (by show w.heap.size <= w.heap.size + 1; omega) _
    ·exact Nat.le_trans H6.2.2.2.2 (((Below.refl 0 w6).setCell (p := ⟨w.heap.size + 1, 2, none⟩) (Nat.zero_le _) _).size))
  ·have hlti : ¬ (k : Int) < (l : Int) := by omega
   obtain ⟨⟨q0, q1, q2⟩, _⟩ := cell_in HK.2.1;obtain ⟨⟨r0, r1, r2⟩, rf⟩ := cell_in HK.1;have HE : Hid (∃ fp, OwnK wr (w.heap.size + 2) (n + 1) kv ks fp) := by
    have h := HK.2.2.1;rw [List.take_of_length_le (by have := HK0.2; omega)] at h;exact h.own
   obtain ⟨axe, cape, hkv⟩ := HK.2.2.1.shape;obtain ⟨le, hle⟩ := zE ((ks.take k).length);rw [hle] at hkv;subst hkv;clear hle;go_wp2_with fail;refine bodyPost_ret (v := .agg #[zI 48, zG ⟨#[]⟩, zS axe le cape]) (by simp [results, Tryz.results158, go_sem, r0, r1, r2]; try rfl) rfl ?_;obtain ⟨fp, hfp⟩ := HE.out;refine ⟨zS axe le cape, fp, rfl, ?_, ?_⟩
   ·refine OwnK.base (base := w.heap.size + 2) (by omega) (hfp.same fun b hb => ?_)
    have h1 := (OwnK.lt hfp b hb).1;rw [heap_setCell_other _ _ _ _ (by show b ≠ w.heap.size; omega), heap_setCell_other _ _ _ _ (by show b ≠ w.heap.size; omega), heap_setCell_other _ _ _ _ (by show b ≠ w.heap.size; omega)]
   ·exact ((HK.2.2.2.1.setCell (p := ⟨w.heap.size, 0, none⟩) (Nat.le_refl _) _).setCell (p := ⟨w.heap.size, 1, none⟩) (Nat.le_refl _) _).setCell (p := ⟨w.heap.size, 2, none⟩) (Nat.le_refl _) _
def RowsK (W : World) (b n : Nat) : List (It (n + 1)) -> List Value -> List (List Nat) -> Prop
 | [], [], [] => True
 | x :: ks, v :: kvs, fp :: fps => OwnK W b n v (It.kids x) fp /\ RowsK W b n ks kvs fps
 | _, _, _ => False
theorem RowsK.each {W : World} {b n : Nat} : ∀ {ks : List (It (n + 1))} {kvs : List Value} {fps : List (List Nat)}, RowsK W b n ks kvs fps -> ks.length = kvs.length /\ ks.length = fps.length /\ ∀ j (h1 : j < ks.length) (h2 : j < kvs.length) (h3 : j < fps.length), OwnK W b n kvs[j] (It.kids ks[j]) fps[j]
 | [], [], [], _ => ⟨rfl, rfl, fun j h => absurd h (Nat.not_lt_zero _)⟩
 | [], _ :: _, _, h => h.elim
 | [], [], _ :: _, h => h.elim
 | _ :: _, [], _, h => h.elim
 | _ :: _, _ :: _, [], h => h.elim
 | x :: ks, v :: kvs, fp :: fps, ⟨h, r⟩ => by
  obtain ⟨h1, h2, h3⟩ := RowsK.each r;refine ⟨by simp [h1], by simp [h2], fun j a b c => ?_⟩
  cases j with
  | zero => exact h
  | succ j => exact h3 j (by simpa using a) (by simpa using b) (by simpa using c)
theorem RowsK.grow {W W' : World} {b n cap : Nat} {ks : List (It (n + 1))} {kvs : List Value} {fps : List (List Nat)} (h : RowsK W b n ks kvs fps) (hb : b <= W.heap.size) (hnd : fps.flatten.Nodup) (hl : ks.length <= 1000) (hc : cap = ks.length)
  (hW : W' = W.alloc (.cells (cellsK ks kvs).toArray 178)) : GrowK W' b n (zS (some ⟨W.heap.size, 0, none⟩) cap cap) ks := by
 subst hc;obtain ⟨h1, h2, h3⟩ := h.each;have hbel : zW W W' := by rw [hW]; exact (Below.refl _ _).alloc (Nat.le_refl _) _
 refine ⟨kvs, fps, h1, h2, ?_, hnd, ?_, fun j a c d => ?_⟩
 ·rw [hW]
  exact ⟨by rw [cellsK_len h1], .inr ⟨W.heap.size, ks.length, (cellsK ks kvs).toArray, rfl, hb, heap_alloc_new W _, Nat.le_refl _, by unfold maxLen; omega, by rw [List.size_toArray, cellsK_len h1], List.take_of_length_le (by rw [cellsK_len h1]; exact Nat.le_refl _)⟩⟩
 ·intro g hg hm
  simp only [Value.ownBlock, Option.some.injEq] at hg;obtain ⟨l, m1, m2⟩ := List.mem_flatten.1 hm;obtain ⟨j, hj, rfl⟩ := List.getElem_of_mem m1;have := (OwnK.lt (h3 j (by omega) (by omega) hj) g m2).2;omega
 ·exact (h3 j a c d).below hbel (fun x hx => (OwnK.lt (h3 j a c d) x hx).2)
def KB (w W : World) (a : Array Value) : Prop := zW w W /\ Blk W w.heap.size 52 a /\ ∃ x y z, Blk3 W (w.heap.size + 1) x y z
theorem KB.below {w W W' : World} {a : Array Value} (h : KB w W a) (hb : zW W W') : KB w W' a := by
 obtain ⟨h1, h2, x, y, z, h3⟩ := h;exact ⟨h1.trans (hb.mono h1.size), h2.below hb h2.lt, x, y, z, h3.below hb⟩
theorem KB.size {w W : World} {a : Array Value} (h : KB w W a) : w.heap.size + 2 <= W.heap.size := by
 obtain ⟨_, _, x, y, z, h3⟩ := h;have := h3.lt;omega
theorem KB.set {w W : World} {a : Array Value} (h : KB w W a) (p q r : Value) : KB w (((W.setCell ⟨w.heap.size + 1, 0, none⟩ p).setCell ⟨w.heap.size + 1, 1, none⟩ q).setCell ⟨w.heap.size + 1, 2, none⟩ r) a := by
 obtain ⟨h1, h2, x, y, z, h3⟩ := h;refine ⟨((h1.setCell (p := ⟨w.heap.size + 1, 0, none⟩) (Nat.le_succ _) _).setCell (p := ⟨w.heap.size + 1, 1, none⟩) (Nat.le_succ _) _).setCell (p := ⟨w.heap.size + 1, 2, none⟩) (Nat.le_succ _) _, ?_, p, q, r, ?_⟩
 ·have ne : w.heap.size ≠ w.heap.size + 1 := by omega
  exact ((h2.other _ ne).other _ ne).other _ ne
 ·have e := (((show Blk W (w.heap.size + 1) 178 #[x, y, z] from h3).set 0 p).set 1 q).set 2 r
  exact e
theorem KB.start (w : World) (a : Array Value) (x y z : Value) (W : World) (hW : W = (w.alloc (Obj.cells a 52)).alloc (Obj.cells #[x, y, z] 178)) : KB w W a := by
 have e0 : (w.alloc (Obj.cells a 52)).heap.size = w.heap.size + 1 := Array.size_push _;have hb : zW w W := by rw [hW]; exact ((Below.refl _ _).alloc (Nat.le_refl _) _).alloc (by rw [e0]; omega) _
 refine ⟨hb, ?_, x, y, z, ?_⟩
 ·rw [hW]; exact (Blk.new w _ _).alloc _
 ·rw [hW]
  have h := heap_alloc_new (w.alloc (Obj.cells a 52)) (Obj.cells #[x, y, z] 178);rw [e0] at h;exact h
theorem ints_at {W W' : World} {a b : Int} {t : TypeId} (hW : W' = W.alloc (Obj.cells #[zI a, zI b] t)) : IntAt W' (zS (some ⟨W.heap.size, 0, none⟩) 2 2) [a, b] := by
 refine ⟨some ⟨W.heap.size, 0, none⟩, 2, rfl, fun _ => ⟨W.heap.size, rfl, by rw [hW, size_alloc]; omega, fun j hj => ?_⟩⟩;rw [hW]
 match j, hj with
 | 0, _ => simp
 | 1, _ => simp
def LK (W : World) (lo : Nat) (kv : Value) (x : It 2) (fp : List Nat) (hi : Nat) : Prop := OwnK W lo 1 kv (It.kids x) fp /\ (∀ b ∈ fp, b < hi) /\ hi <= W.heap.size
theorem LK.below {W W' : World} {lo hi : Nat} {kv : Value} {x : It 2} {fp : List Nat} (h : LK W lo kv x fp hi) (hb : zW W W') : LK W' lo kv x fp hi :=
 ⟨h.1.below hb (fun b hm => Nat.lt_of_lt_of_le (h.2.1 b hm) h.2.2), h.2.1, Nat.le_trans h.2.2 hb.size⟩
theorem LK.made {W W' : World} {kv : Value} {x : It 2} {fp : List Nat} (h : OwnK W' W.heap.size 1 kv (It.kids x) fp) : LK W' W.heap.size kv x fp W'.heap.size :=
 ⟨h, fun b hm => (OwnK.lt h b hm).2, Nat.le_refl _⟩
theorem LK.lo {W : World} {lo hi : Nat} {kv : Value} {x : It 2} {fp : List Nat} (h : LK W lo kv x fp hi) : ∀ b ∈ fp, lo <= b := fun b hm => (OwnK.lt h.1 b hm).1
theorem four_nodup {a b c d : List Nat} {p q r : Nat} (ha : a.Nodup) (hb : b.Nodup) (hc : c.Nodup) (hd : d.Nodup) (a1 : ∀ x ∈ a, x < p) (b0 : ∀ x ∈ b, p <= x) (b1 : ∀ x ∈ b, x < q) (c0 : ∀ x ∈ c, q <= x) (c1 : ∀ x ∈ c, x < r) (d0 : ∀ x ∈ d, r <= x) (hpq : p <= q) (hqr : q <= r) : (a ++ (b ++ (c ++ d))).Nodup := by
 refine nodup_app ha (nodup_app hb (nodup_app hc hd fun x h1 h2 => ?_) fun x h1 h2 => ?_) fun x h1 h2 => ?_
 ·have := c1 x h1; have := d0 x h2; omega
 ·have := b1 x h1
  rcases List.mem_append.1 h2 with h2 | h2
  ·have := c0 x h2; omega
  ·have := d0 x h2; omega
 ·have := a1 x h1
  rcases List.mem_append.1 h2 with h2 | h2
  ·have := b0 x h2; omega
  ·rcases List.mem_append.1 h2 with h2 | h2
   ·have := c0 x h2; omega
   ·have := d0 x h2; omega
theorem body_row {W W' : World} {b : Nat} {c : Ct} {kT kP kE kD : Value} {fT fP fE fD : List Nat} {l0 h0 l1 h1 l2 h2 l3 h3 : Nat} {FL : ByteArray} (hFL : FL = ⟨[if c.ca then 255 else 0].toArray⟩) (hT : LK W l0 kT (lstJ [intI c.frm, intI c.upto]) fT h0) (hP : LK W l1 kP (lstJ (c.pol.map intI)) fP h1) (hE : LK W l2 kE (lstJ (c.per.map txtJ)) fE h2) (hD : LK W l3 kD (lstJ (c.den.map txtJ)) fD h3)
  (b0 : b <= l0) (b1 : b <= l1) (b2 : b <= l2) (b3 : b <= l3) (o1 : h0 <= l1) (o2 : h1 <= l2) (o3 : h2 <= l3) (lh1 : l1 <= l2) (lh2 : l2 <= l3) (hb : b <= W.heap.size)
  (hW : W' = W.alloc (.cells (zI 2 :: zG ⟨(intT (numN c.serial)).toArray⟩ :: zZ :: zI 12 :: zG c.issuer :: zZ :: zI 48 :: zG ⟨#[]⟩ :: kT :: zI 12 :: zG c.subject :: zZ :: zI 4 :: zG c.key :: zZ :: zI 1 :: zG FL :: zZ :: zI 2 :: zG ⟨(intT (numN c.pathLen)).toArray⟩ :: zZ :: zI 2 :: zG ⟨(intT (numN c.usage)).toArray⟩ :: zZ :: zI 48 :: zG ⟨#[]⟩ :: kP :: zI 48 :: zG ⟨#[]⟩ :: kE :: zI 48 :: zG ⟨#[]⟩ :: kD :: []).toArray 178)) :
  ∃ fp, OwnK W' b 2 (zS (some ⟨W.heap.size, 0, none⟩) 11 11) (It.kids (bodyC c)) fp := by
 subst hFL;have nn := fun v => own_none W v 1
 have R : RowsK W b 1 (It.kids (bodyC c)) [zZ, zZ, kT, zZ, zZ, zZ, zZ, zZ, kP, kE, kD] [[], [], fT, [], [], [], [], [], fP, fE, fD] :=
  ⟨nn b, nn b, OwnK.base b0 hT.1, nn b, nn b, nn b, nn b, nn b, OwnK.base b1 hP.1, OwnK.base b2 hE.1, OwnK.base b3 hD.1, trivial⟩
 refine (R.grow (cap := 11) hb ?_ (by show 11 <= 1000; decide) rfl ?_).own
 ·have := four_nodup hT.1.nodup hP.1.nodup hE.1.nodup hD.1.nodup (p := l1) (q := l2) (r := l3) (fun x hx => Nat.lt_of_lt_of_le (hT.2.1 x hx) o1) hP.lo (fun x hx => Nat.lt_of_lt_of_le (hP.2.1 x hx) o2) hE.lo (fun x hx => Nat.lt_of_lt_of_le (hE.2.1 x hx) o3) hD.lo lh1 lh2
  simpa using this
 ·rw [hW]
  congr 2
theorem to_lst {w w' : World} {ks : List (It 1)} {e : Ending} (h : ToIt w 1 (lstJ ks) e w') : ∃ (a : Option Addr) (l cx : Nat) (fp : List Nat), e = .returned (.agg #[zI 48, zG ⟨#[]⟩, zS a l cx]) /\ OwnK w' w.heap.size 1 (zS a l cx) (It.kids (lstJ ks)) fp /\ zW w w' := by
 obtain ⟨k, fp, rfl, ho, hb⟩ := h;obtain ⟨a, cx, rfl⟩ := ho.shape;exact ⟨a, _, cx, fp, rfl, ho, hb⟩
theorem flagFL {P : Program} {f : Nat} {a : Array Value} {w : World} {c : Ct} {FL : ByteArray} (E : Calls P f a w fun e w' => e = .returned (.agg #[zI 1, zG ⟨[if c.ca then 255 else 0].toArray⟩, zZ]) /\ zW w w') (h : FL = ⟨[if c.ca then 255 else 0].toArray⟩) :
  Calls P f a w fun e w' => e = .returned (.agg #[zI 1, zG FL, zZ]) /\ zW w w' := by
 rw [h]; exact E
theorem times_row {W W' : World} {c : Ct} (hW : W' = W.alloc (.cells #[zI 2, zG ⟨(intT (numN c.frm)).toArray⟩, zZ, zI 2, zG ⟨(intT (numN c.upto)).toArray⟩, zZ] 178)) :
  ∃ fp, LK W' W.heap.size (zS (some ⟨W.heap.size, 0, none⟩) 2 2) (lstJ [intI c.frm, intI c.upto]) fp W'.heap.size := by
 have R : RowsK W W.heap.size 0 [intI c.frm, intI c.upto] [zZ, zZ] [[], []] := ⟨own_none W _ 0, own_none W _ 0, trivial⟩;obtain ⟨fp, h⟩ := (R.grow (W' := W') (cap := 2) (Nat.le_refl _) (by simp) (by show 2 <= 1000; decide) rfl (by rw [hW]; rfl)).own;exact ⟨fp, h, fun x hx => (OwnK.lt h x hx).2, Nat.le_refl _⟩
def KT (w W : World) (a : Array Value) (g : Nat) (k : Value) : Prop := KB w W a /\ w.heap.size + 2 <= g /\ Blk3 W g (zI 48) (zG ⟨#[]⟩) k
theorem KT.below {w W W' : World} {a : Array Value} {g : Nat} {k : Value} (h : KT w W a g k) (hb : zW W W') : KT w W' a g k := ⟨h.1.below hb, h.2.1, h.2.2.below hb⟩
theorem KT.set {w W : World} {a : Array Value} {g : Nat} {k : Value} (h : KT w W a g k) (p q r : Value) : KT w (((W.setCell ⟨w.heap.size + 1, 0, none⟩ p).setCell ⟨w.heap.size + 1, 1, none⟩ q).setCell ⟨w.heap.size + 1, 2, none⟩ r) a g k :=
 have ne : g ≠ w.heap.size + 1 := by have := h.2.1; omega
 ⟨h.1.set p q r, h.2.1, ((h.2.2.other (p := ⟨w.heap.size + 1, 0, none⟩) ne _).other (p := ⟨w.heap.size + 1, 1, none⟩) ne _).other (p := ⟨w.heap.size + 1, 2, none⟩) ne _⟩
theorem KT.laid {w W : World} {a : Array Value} {g : Nat} {k x y z : Value} (h : KB w W a) (hg : w.heap.size + 2 <= g) (hB : Blk3 W g x y z) : KT w (((W.setCell ⟨g, 0, none⟩ (zI 48)).setCell ⟨g, 1, none⟩ (zG ⟨#[]⟩)).setCell ⟨g, 2, none⟩ k) a g k := by
 obtain ⟨h1, h2, p, q, r, h3⟩ := h;refine ⟨⟨((h1.setCell (p := ⟨g, 0, none⟩) (by show w.heap.size <= g; omega) _).setCell (p := ⟨g, 1, none⟩) (by show w.heap.size <= g; omega) _).setCell (p := ⟨g, 2, none⟩) (by show w.heap.size <= g; omega) _, ?_, p, q, r, ?_⟩, hg, ?_⟩
 ·have ne : w.heap.size ≠ g := by omega
  exact ((h2.other (p := ⟨g, 0, none⟩) _ ne).other (p := ⟨g, 1, none⟩) _ ne).other (p := ⟨g, 2, none⟩) _ ne
 ·have ne : w.heap.size + 1 ≠ g := by omega
  exact ((h3.other (p := ⟨g, 0, none⟩) ne _).other (p := ⟨g, 1, none⟩) ne _).other (p := ⟨g, 2, none⟩) ne _
 ·have e := (((show Blk W g 178 #[x, y, z] from hB).set 0 (zI 48)).set 1 (zG ⟨#[]⟩)).set 2 k
  exact e
theorem LK.laid {W : World} {lo hi g : Nat} {kv : Value} {x : It 2} {fp : List Nat} (h : LK W lo kv x fp hi) (hg : ∀ b ∈ fp, b ≠ g) (p q r : Value) : LK (((W.setCell ⟨g, 0, none⟩ p).setCell ⟨g, 1, none⟩ q).setCell ⟨g, 2, none⟩ r) lo kv x fp hi := by
 refine ⟨h.1.same fun b hb => ?_, h.2.1, ?_⟩
 ·rw [heap_setCell_other _ _ _ _ (hg b hb), heap_setCell_other _ _ _ _ (hg b hb), heap_setCell_other _ _ _ _ (hg b hb)]
 ·refine Nat.le_trans h.2.2 ?_
  exact ((((Below.refl 0 W).setCell (p := ⟨g, 0, none⟩) (Nat.zero_le _) p).setCell (p := ⟨g, 1, none⟩) (Nat.zero_le _) q).setCell (p := ⟨g, 2, none⟩) (Nat.zero_le _) r).size
end Go.Proofs.YtabfamhaihnccaaGreat
