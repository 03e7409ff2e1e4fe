/-
  Texts of the proof, one behind the other: JtA, CrF.
-/
import Derived.Deep.RegionLaw
import Derived.Test.YtplblechcnbieaaGreatSK5
import Derived.Test.YtplblechcnbieaaGreatSK8
import Derived.Test.YtplblechcnbieaaGreatSK14
import Derived.Test.YtplblechcnbieaaGreatSK26

/-
  The specification's l07Copy and ListItem.
-/
namespace Go.Proofs.YtplblechcnbieaaGreat
open Go.RowKit Der
set_option linter.unusedVariables false

/-- A block of three cells that nobody has frozen. -/
def Blk3 (w : World) (g : Nat) (a b c : Value) : Prop := w.heap[g]? = some (.cells #[a, b, c] 122 (0, 0))
theorem Blk3.lt {w : World} {g : Nat} {a b c : Value} (h : Blk3 w g a b c) : g < w.heap.size := by
  rcases Nat.lt_or_ge g w.heap.size with h' | h'
  · exact h'
  · unfold Blk3 at h; rw [Array.getElem?_eq_none h'] at h; cases h
theorem Blk3.below {w w' : World} {g : Nat} {a b c : Value} (h : Blk3 w g a b c) (hb : Below w.heap.size w w') : Blk3 w' g a b c := (hb.block g h.lt).trans h
theorem Blk3.grown {w w' : World} {g : Nat} {a b c : Value} {row : Option Nat} (h : Blk3 w g a b c) (hg : w.grownBy w' row) (hne : some g ≠ row) : Blk3 w' g a b c := (hg.block g h.lt hne).trans h
theorem Blk3.other {w : World} {g : Nat} {a b c : Value} (h : Blk3 w g a b c) {p : Addr} (hne : g ≠ p.block) (v : Value) : Blk3 (w.setCell p v) g a b c := (heap_setCell_other _ _ _ _ hne).trans h
theorem Blk3.set {w : World} {g : Nat} {a b c : Value} (h : Blk3 w g a b c) (v : Value) : Blk3 (w.setCell ⟨g, 2, none⟩ v) g a b v := by
  unfold Blk3 at h ⊢
  rw [heap_setCell_same w g 2 _ _ _ h]
  rfl
theorem two_blk (w : World) (p q r : Value) (x y z : Value) : ∀ W, W = (w.alloc (Obj.cells #[p, q, r] 122)).alloc (Obj.cells #[x, y, z] 122) → Below w.heap.size w W ∧ W.heap.size = w.heap.size + 2 ∧ Blk3 W w.heap.size p q r ∧ Blk3 W (w.heap.size + 1) x y z := by
  rintro W rfl
  have e : (w.alloc (Obj.cells #[p, q, r] 122)).heap.size = w.heap.size + 1 := Array.size_push _
  refine ⟨((Below.refl _ _).alloc (Nat.le_refl _) _).alloc (by rw [e]; omega) _, ?_, ?_, ?_⟩
  · rw [show ((w.alloc (Obj.cells #[p, q, r] 122)).alloc (Obj.cells #[x, y, z] 122)).heap.size = (w.alloc (Obj.cells #[p, q, r] 122)).heap.size + 1 from Array.size_push _, e]
  · show ((w.heap.push (Obj.cells #[p, q, r] 122)).push (Obj.cells #[x, y, z] 122))[w.heap.size]? = _
    rw [Array.getElem?_push, if_neg (by rw [Array.size_push]; omega), Array.getElem?_push, if_pos rfl]
  · have h := heap_alloc_new (w.alloc (Obj.cells #[p, q, r] 122)) (Obj.cells #[x, y, z] 122)
    rw [e] at h
    exact h
theorem GrowK.out {w w' : World} {base n : Nat} {v : Value} {ks : List (It (n + 1))} (h : GrowK w base n v ks) (he : ∀ b, base ≤ b → w'.heap[b]? = w.heap[b]?) : GrowK w' base n v ks := by
  obtain ⟨kvs, fps, h1, h2, ho, h3, h4, h5⟩ := h
  refine ⟨kvs, fps, h1, h2, ⟨ho.1, ?_⟩, h3, h4, fun j a b c => ?_⟩
  · rcases ho.2 with hn | ⟨g, cap, cur, hv, hb, hg, rest⟩
    · exact .inl hn
    · exact .inr ⟨g, cap, cur, hv, hb, by rw [he g hb]; exact hg, rest⟩
  · have := h5 j a b c
    exact this.same fun x hx => he x (OwnK.lt this x hx).1

end Go.Proofs.YtplblechcnbieaaGreat

/-
  Letters as items; the specification's l09Bytes, l09Bool, l09Ints, l09Texts.
-/
namespace Go.Proofs.YtplblechcnbieaaGreat
open Go.RowKit Der
set_option linter.unusedVariables false

/-- Items without kids. -/
def intI {n : Nat} (x : Int) : It (n + 1) := It.mk 2 (intT (numN x)) []
def txtJ {n : Nat} (s : ByteArray) : It (n + 1) := It.mk 12 s.data.toList []
def bytJ {n : Nat} (s : ByteArray) : It (n + 1) := It.mk 4 s.data.toList []
def flagJ {n : Nat} (b : Bool) : It (n + 1) := It.mk 1 [if b then 255 else 0] []
/-- A list of items. -/
def lstJ {n : Nat} (ks : List (It n)) : It (n + 1) := It.mk 48 [] ks
/-- What of a letter is signed. -/
def bodyC (c : Ct) : It 3 := lstJ [intI c.serial, txtJ c.issuer, lstJ [intI c.frm, intI c.upto], txtJ c.subject, bytJ c.key, flagJ c.ca, intI c.pathLen, intI c.usage, lstJ (c.pol.map intI), lstJ (c.per.map txtJ), lstJ (c.den.map txtJ)]
/-- A letter. -/
def certI (c : Ct) : It 4 := lstJ [bodyC c, bytJ c.sig]
set_option maxRecDepth 100000 in
theorem bytes_any (s : ByteArray) (w : World) : Calls Tryz.prog 84 #[.string s] w fun e w' => e = .returned (.agg #[.int .i64 4, .string s, .slice none 0 0]) ∧ Below w.heap.size w w' := by
  go_enter Tryz.func84, Tryz.ntmps84
  go_wp2_with fail
  refine bodyPost_ret (v := .agg #[.int .i64 4, .string s, .slice none 0 0]) (by simp [results, Tryz.results84, go_sem]; try rfl) rfl ⟨rfl, ?_⟩
  exact (Below.refl _ _).alloc (Nat.le_refl _) _
set_option maxRecDepth 100000 in
theorem flag_any (b : Bool) (w : World) : Calls Tryz.prog 120 #[.bool b] w fun e w' => e = .returned (.agg #[.int .i64 1, .string ⟨[if b then 255 else 0].toArray⟩, .slice none 0 0]) ∧ Below w.heap.size w w' := by
  cases b with
  | true =>
    go_enter Tryz.func120, Tryz.ntmps120
    go_wp2_with fail
    refine bodyPost_ret (v := .agg #[.int .i64 1, .string ⟨#[255]⟩, .slice none 0 0]) (by simp [results, Tryz.results120, go_sem]; try rfl) rfl ⟨rfl, ?_⟩
    exact (Below.refl _ _).alloc (Nat.le_refl _) _
  | false =>
    go_enter Tryz.func120, Tryz.ntmps120
    go_wp2_with fail
    refine bodyPost_ret (v := .agg #[.int .i64 1, .string ⟨#[0]⟩, .slice none 0 0]) (by simp [results, Tryz.results120, go_sem]; try rfl) rfl ⟨rfl, ?_⟩
    exact (Below.refl _ _).alloc (Nat.le_refl _) _
theorem own_none (w : World) (base : Nat) : ∀ n, OwnK w base n (.slice none 0 0) [] []
  | 0 => ⟨⟨none, 0, rfl⟩, rfl⟩
  | _ + 1 => ⟨none, 0, rfl, fun _ => rfl, fun h => absurd h (Nat.lt_irrefl _)⟩

theorem both_below {wr w3 : World} {g h o : Nat} {kv t : Value} (hc : wr.cell? ⟨g, 2, none⟩ = some kv ∧ wr.cell? ⟨h, o, none⟩ = some t) (hg : g < wr.heap.size) (hh : h < wr.heap.size) (hb : Below wr.heap.size wr w3) : w3.cell? ⟨g, 2, none⟩ = some kv ∧ w3.cell? ⟨h, o, none⟩ = some t :=
  ⟨(hb.cell (p := ⟨g, 2, none⟩) hg).trans hc.1, (hb.cell (p := ⟨h, o, none⟩) hh).trans hc.2⟩
theorem both_grown {w5 w6 : World} {g h o : Nat} {kv t : Value} {row : Option Nat} (hc : w5.cell? ⟨g, 2, none⟩ = some kv ∧ w5.cell? ⟨h, o, none⟩ = some t) (hg : w5.grownBy w6 row) (n1 : some g ≠ row) (n2 : some h ≠ row) : w6.cell? ⟨g, 2, none⟩ = some kv ∧ w6.cell? ⟨h, o, none⟩ = some t :=
  ⟨hg.cell hc.1 n1, hg.cell hc.2 n2⟩

set_option maxHeartbeats 1600000 in
set_option maxRecDepth 100000 in
theorem ints_any (n : Nat) (ls : List Int) (v : Value) (w : World) (hz : ls.length ≤ 20000000) (hwd : Wd ls) (hx : IntAt w v ls) :
    Calls Tryz.prog 121 #[v] w fun e w' => ToIt w (n + 1) (lstJ (ls.map intI)) e w' := by
  obtain ⟨ax, cx, rfl, hcell⟩ := hx.each
  obtain ⟨l, hle⟩ : ∃ l, ls.length = l := ⟨_, rfl⟩
  have HX : Hid ((∀ j, j < ls.length → ∃ g, ax = some ⟨g, 0, none⟩ ∧ g < w.heap.size ∧ w.cell? ⟨g, j, none⟩ = some (.int .i64 (ls.getD j 0))) ∧ ls.length = l ∧ Wd ls) := ⟨hcell, hle, hwd⟩
  have hlb : l ≤ 20000000 := by rw [← hle]; exact hz
  rw [hle]
  clear hx hz hle hcell hwd
  obtain ⟨ks, hks⟩ : ∃ ks : List (It (n + 1)), ls.map intI = ks := ⟨_, rfl⟩
  rw [hks]
  have HK0 : Hid (ls.map intI = ks ∧ ks.length = l) := ⟨hks, by rw [← hks, List.length_map]; exact HX.out.2.1⟩
  clear hks
  go_enter Tryz.func121, Tryz.ntmps121
  go_wp2_with fail
  obtain ⟨W3, hW3⟩ : ∃ W, W = (w.alloc (Obj.cells #[Value.int IntKind.i64 0, Value.string { data := #[] }, Value.slice none 0 0] 122)).alloc (Obj.cells #[Value.int IntKind.i64 48, Value.string { data := #[] }, Value.slice none 0 0] 122) := ⟨_, rfl⟩
  rw [← hW3]
  have H3 : Hid (Below w.heap.size w W3 ∧ W3.heap.size = w.heap.size + 2 ∧ Blk3 W3 w.heap.size (.int .i64 0) (.string ⟨#[]⟩) (.slice none 0 0) ∧ Blk3 W3 (w.heap.size + 1) (.int .i64 48) (.string ⟨#[]⟩) (.slice none 0 0)) := two_blk w _ _ _ _ _ _ W3 hW3
  clear hW3
  go_loopw [4] (fun iv wr => ∃ k : Nat, k ≤ l ∧ iv = .int .i64 k ∧ Hid (∃ kv : Value, Blk3 wr w.heap.size (.int .i64 0) (.string ⟨#[]⟩) (.slice none 0 0) ∧ Blk3 wr (w.heap.size + 1) (.int .i64 48) (.string ⟨#[]⟩) kv ∧ GrowK wr (w.heap.size + 2) n kv (ks.take k) ∧ Below w.heap.size w wr ∧ w.heap.size + 2 ≤ wr.heap.size)) (fun iv _ => l - (intOf iv).toNat)
  case atStart => exact ⟨0, Nat.zero_le _, rfl, _, H3.out.2.2.1, H3.out.2.2.2, GrowK.nil _ _ _, H3.out.1, by rw [H3.out.2.1]; exact Nat.le_refl _⟩
  case round =>
    obtain ⟨k, hk, rfl, HR⟩ := hrel
    obtain ⟨kv, hr1, hr2, hrG, hrB, hrs⟩ := HR.out
    have HK : Hid (Blk3 wr w.heap.size (.int .i64 0) (.string ⟨#[]⟩) (.slice none 0 0) ∧ Blk3 wr (w.heap.size + 1) (.int .i64 48) (.string ⟨#[]⟩) kv ∧ GrowK wr (w.heap.size + 2) n kv (ks.take k) ∧ Below w.heap.size w wr ∧ w.heap.size + 2 ≤ wr.heap.size) := ⟨hr1, hr2, hrG, hrB, hrs⟩
    clear HR hr1 hr2 hrG hrB hrs H3
    by_cases hlt : k < l
    · have hlti : (k : Int) < (l : Int) := by omega
      have hk0 : (0 : Int) ≤ (k : Int) := by omega
      have hj0 : k < ls.length := by rw [HX.out.2.1]; exact hlt
      have hj1 : k < ks.length := by rw [HK0.out.2]; exact hlt
      obtain ⟨g1, hax, hg1, hc1⟩ := HX.out.1 k hj0
      have c10 : wr.cell? ⟨g1, k, none⟩ = some (.int .i64 (ls.getD k 0)) := (HK.out.2.2.2.1.cell (p := ⟨g1, k, none⟩) hg1).trans hc1
      have hm : (ls.getD k 0) ∈ ls := by rw [List.getD_eq_getElem?_getD, List.getElem?_eq_getElem hj0]; exact List.getElem_mem _
      obtain ⟨x, hxe⟩ : ∃ x, (ls.getD k 0) = x := ⟨_, rfl⟩
      rw [hxe] at c10 hm
      have hkx : ks[k] = intI x := by
        rw [← hxe]
        have h := HK0.out.1
        subst h
        simp [List.getD, hj0]
      have E := specIntItem_any x wr.drew (HX.out.2.2 x hm)
      obtain ⟨s3, hs3⟩ : ∃ s3 : ByteArray, (⟨(intT (numN x)).toArray⟩ : ByteArray) = s3 := ⟨_, rfl⟩
      have HT : Hid (It.tag ks[k] = 2 ∧ (⟨(It.text ks[k]).toArray⟩ : ByteArray) = s3 ∧ It.kids ks[k] = []) := by
        rw [hkx]
        exact ⟨rfl, hs3, rfl⟩
      have E3 : Calls Tryz.prog 118 #[.int .i64 x] wr.drew fun e w' => e = .returned (.agg #[.int .i64 2, .string s3, .slice none 0 0]) ∧ Below wr.heap.size wr w' := by
        refine E.mono ?_
        rintro e w' ⟨rfl, hb⟩
        exact ⟨by rw [← hs3], (Below.refl wr.heap.size wr).drew.trans hb⟩
      obtain ⟨⟨_, _, y2⟩, fy⟩ := cell_in HK.out.2.1
      have htl : (ks.take k).length = k := by rw [List.length_take]; omega
      have HG1 : Hid (g1 < w.heap.size) := hg1
      have HNE : Hid (∀ q, q < w.heap.size + 2 → some q ≠ kv.ownBlock) := fun q hq e => by have := (HK.out.2.2.1.lt q e.symm).1; omega
      subst hax
      clear hc1 hg1 hxe hkx hm E hs3
      go_wp2_with fail
      have hcs : wr.cell? ⟨w.heap.size + 1, 2, none⟩ = some kv ∧ wr.cell? ⟨g1, k, none⟩ = some (.int .i64 x) := ⟨y2, c10⟩
      go_region_law (first
        | (refine step_call rfl 118 _ _ rfl #[.int .i64 x] rfl (by kernel_rfl) ?_; refine E3.mono ?_; rintro e w3 ⟨rfl, hb3⟩; have ho3 : OwnK w3 wr.heap.size n (.slice none 0 0) (It.kids ks[k]) [] := (by rw [HT.out.2.2]; exact own_none _ _ _); have hc3 := both_below hcs (by have := HK.out.2.2.2.2; omega) (by have := HG1.out; have := HK.out.2.2.2.1.size; omega) hb3; have hy3 := hc3.1; have hc4 := fun o => both_below hcs (by have := HK.out.2.2.2.2; omega) (by have := HG1.out; have := HK.out.2.2.2.1.size; omega) (hb3.alloc hb3.size o); have hy4 := fun o => (hc4 o).1; clear hc3; dsimp only)
        | (refine step_append_item0 rfl _ _ rfl (w.heap.size + 2) n kv (ks.take k) ks[k] 2 s3 (.slice none 0 0) [] HT.out.1 HT.out.2.1 rfl _ rfl rfl HK.out.2.2.1 hb3 ho3 HK.out.2.2.2.2 (by omega) ?_; intro g cap w6 hG6 hgrow6; have hy6 := (both_grown (hc4 _) hgrow6 (HNE.out _ (by omega)) (HNE.out _ (by have := HG1.out; omega))).1; have fz6 := (cell_in ((HK.out.2.1.below (hb3.alloc hb3.size _)).grown hgrow6 (HNE.out _ (by omega)))).2))
      all_goals (
        have H6 : Hid (Blk3 w6 w.heap.size (.int .i64 0) (.string ⟨#[]⟩) (.slice none 0 0) ∧ Blk3 w6 (w.heap.size + 1) (.int .i64 48) (.string ⟨#[]⟩) kv ∧ GrowK w6 (w.heap.size + 2) n (.slice (some ⟨g, 0, none⟩) (k + 1) cap) (ks.take (k + 1)) ∧ Below w.heap.size w w6 ∧ w.heap.size + 2 ≤ w6.heap.size) := by
          have hb5 := hb3.alloc hb3.size (Obj.cells #[Value.int IntKind.i64 2, Value.string s3, Value.slice none 0 0] 122)
          have hbw := HK.out.2.2.2.1.trans (hb5.mono HK.out.2.2.2.1.size)
          have e := List.take_append_getElem hj1
          rw [htl, e] at hG6
          exact ⟨(HK.out.1.below hb5).grown hgrow6 (HNE.out _ (by omega)), (HK.out.2.1.below hb5).grown hgrow6 (HNE.out _ (by omega)), hG6, hbw.grown hgrow6 hbw.size (fun q hq => by have := (HK.out.2.2.1.lt q hq).1; omega), Nat.le_trans HK.out.2.2.2.2 (Nat.le_trans hb5.size hgrow6.size)⟩
        clear hG6 hgrow6 hy6 fz6 hy3 hc4 hy4 ho3 hb3 hcs y2 c10 E3
        go_wp2_with fail
        refine ⟨⟨k + 1, by omega, by go_num, .slice (some ⟨g, 0, none⟩) (k + 1) cap, ?_, ?_, ?_, ?_, ?_⟩, by simp [intOf]; omega⟩
        · exact H6.out.1.other (by show w.heap.size ≠ w.heap.size + 1; omega) _
        · exact H6.out.2.1.set _
        · exact H6.out.2.2.1.out fun b hb => heap_setCell_other _ _ _ _ (by show b ≠ w.heap.size + 1; omega)
        · exact H6.out.2.2.2.1.setCell (p := ⟨w.heap.size + 1, 2, none⟩) (by show w.heap.size ≤ w.heap.size + 1; omega) _
        · exact Nat.le_trans H6.out.2.2.2.2 (((Below.refl 0 w6).setCell (p := ⟨w.heap.size + 1, 2, none⟩) (Nat.zero_le _) _).size))
    · have hlti : ¬ (k : Int) < (l : Int) := by omega
      obtain ⟨⟨q0, q1, q2⟩, _⟩ := cell_in HK.out.2.1
      obtain ⟨⟨r0, r1, r2⟩, rf⟩ := cell_in HK.out.1
      have HE : Hid (∃ fp, OwnK wr (w.heap.size + 2) (n + 1) kv ks fp) := by
        have h := HK.out.2.2.1
        rw [List.take_of_length_le (by have := HK0.out.2; omega)] at h
        exact h.own
      obtain ⟨axe, cape, hkv⟩ := HK.out.2.2.1.shape
      obtain ⟨le, hle⟩ : ∃ le, (ks.take k).length = le := ⟨_, rfl⟩
      rw [hle] at hkv
      subst hkv
      clear hle
      go_wp2_with fail
      refine bodyPost_ret (v := .agg #[.int .i64 48, .string ⟨#[]⟩, .slice axe le cape]) (by simp [results, Tryz.results121, go_sem, r0, r1, r2]; try rfl) rfl ?_
      obtain ⟨fp, hfp⟩ := HE.out
      refine ⟨.slice axe le cape, fp, rfl, ?_, ?_⟩
      · refine OwnK.base (base := w.heap.size + 2) (by omega) (hfp.same fun b hb => ?_)
        have h1 := (OwnK.lt hfp b hb).1
        rw [heap_setCell_other _ _ _ _ (by show b ≠ w.heap.size; omega), heap_setCell_other _ _ _ _ (by show b ≠ w.heap.size; omega), heap_setCell_other _ _ _ _ (by show b ≠ w.heap.size; omega)]
      · exact ((HK.out.2.2.2.1.setCell (p := ⟨w.heap.size, 0, none⟩) (Nat.le_refl _) _).setCell (p := ⟨w.heap.size, 1, none⟩) (Nat.le_refl _) _).setCell (p := ⟨w.heap.size, 2, none⟩) (Nat.le_refl _) _

set_option maxHeartbeats 1600000 in
set_option maxRecDepth 100000 in
theorem texts_any (n : Nat) (ls : List ByteArray) (v : Value) (w : World) (hz : ls.length ≤ 20000000) (hwd : WdT ls) (hx : TxtAt w v ls) :
    Calls Tryz.prog 122 #[v] w fun e w' => ToIt w (n + 1) (lstJ (ls.map txtJ)) e w' := by
  obtain ⟨ax, cx, rfl, hcell⟩ := id hx
  obtain ⟨l, hle⟩ : ∃ l, ls.length = l := ⟨_, rfl⟩
  have HX : Hid ((∀ j, j < ls.length → ∃ g, ax = some ⟨g, 0, none⟩ ∧ g < w.heap.size ∧ w.cell? ⟨g, j, none⟩ = some (.string (ls.getD j ByteArray.empty))) ∧ ls.length = l ∧ WdT ls) := ⟨hcell, hle, hwd⟩
  have hlb : l ≤ 20000000 := by rw [← hle]; exact hz
  rw [hle]
  clear hx hz hle hcell hwd
  obtain ⟨ks, hks⟩ : ∃ ks : List (It (n + 1)), ls.map txtJ = ks := ⟨_, rfl⟩
  rw [hks]
  have HK0 : Hid (ls.map txtJ = ks ∧ ks.length = l) := ⟨hks, by rw [← hks, List.length_map]; exact HX.out.2.1⟩
  clear hks
  go_enter Tryz.func122, Tryz.ntmps122
  go_wp2_with fail
  obtain ⟨W3, hW3⟩ : ∃ W, W = (w.alloc (Obj.cells #[Value.int IntKind.i64 0, Value.string { data := #[] }, Value.slice none 0 0] 122)).alloc (Obj.cells #[Value.int IntKind.i64 48, Value.string { data := #[] }, Value.slice none 0 0] 122) := ⟨_, rfl⟩
  rw [← hW3]
  have H3 : Hid (Below w.heap.size w W3 ∧ W3.heap.size = w.heap.size + 2 ∧ Blk3 W3 w.heap.size (.int .i64 0) (.string ⟨#[]⟩) (.slice none 0 0) ∧ Blk3 W3 (w.heap.size + 1) (.int .i64 48) (.string ⟨#[]⟩) (.slice none 0 0)) := two_blk w _ _ _ _ _ _ W3 hW3
  clear hW3
  go_loopw [4] (fun iv wr => ∃ k : Nat, k ≤ l ∧ iv = .int .i64 k ∧ Hid (∃ kv : Value, Blk3 wr w.heap.size (.int .i64 0) (.string ⟨#[]⟩) (.slice none 0 0) ∧ Blk3 wr (w.heap.size + 1) (.int .i64 48) (.string ⟨#[]⟩) kv ∧ GrowK wr (w.heap.size + 2) n kv (ks.take k) ∧ Below w.heap.size w wr ∧ w.heap.size + 2 ≤ wr.heap.size)) (fun iv _ => l - (intOf iv).toNat)
  case atStart => exact ⟨0, Nat.zero_le _, rfl, _, H3.out.2.2.1, H3.out.2.2.2, GrowK.nil _ _ _, H3.out.1, by rw [H3.out.2.1]; exact Nat.le_refl _⟩
  case round =>
    obtain ⟨k, hk, rfl, HR⟩ := hrel
    obtain ⟨kv, hr1, hr2, hrG, hrB, hrs⟩ := HR.out
    have HK : Hid (Blk3 wr w.heap.size (.int .i64 0) (.string ⟨#[]⟩) (.slice none 0 0) ∧ Blk3 wr (w.heap.size + 1) (.int .i64 48) (.string ⟨#[]⟩) kv ∧ GrowK wr (w.heap.size + 2) n kv (ks.take k) ∧ Below w.heap.size w wr ∧ w.heap.size + 2 ≤ wr.heap.size) := ⟨hr1, hr2, hrG, hrB, hrs⟩
    clear HR hr1 hr2 hrG hrB hrs H3
    by_cases hlt : k < l
    · have hlti : (k : Int) < (l : Int) := by omega
      have hk0 : (0 : Int) ≤ (k : Int) := by omega
      have hj0 : k < ls.length := by rw [HX.out.2.1]; exact hlt
      have hj1 : k < ks.length := by rw [HK0.out.2]; exact hlt
      obtain ⟨g1, hax, hg1, hc1⟩ := HX.out.1 k hj0
      have c10 : wr.cell? ⟨g1, k, none⟩ = some (.string (ls.getD k ByteArray.empty)) := (HK.out.2.2.2.1.cell (p := ⟨g1, k, none⟩) hg1).trans hc1
      have hm : (ls.getD k ByteArray.empty) ∈ ls := by rw [List.getD_eq_getElem?_getD, List.getElem?_eq_getElem hj0]; exact List.getElem_mem _
      obtain ⟨x, hxe⟩ : ∃ x, (ls.getD k ByteArray.empty) = x := ⟨_, rfl⟩
      rw [hxe] at c10 hm
      have hkx : ks[k] = txtJ x := by
        rw [← hxe]
        have h := HK0.out.1
        subst h
        simp [List.getD, hj0]
      have E := specTextItem_any x wr.drew
      obtain ⟨s3, hs3⟩ : ∃ s3 : ByteArray, x = s3 := ⟨_, rfl⟩
      have HT : Hid (It.tag ks[k] = 12 ∧ (⟨(It.text ks[k]).toArray⟩ : ByteArray) = s3 ∧ It.kids ks[k] = []) := by
        rw [hkx]
        exact ⟨rfl, by rw [← hs3]; show (⟨x.data.toList.toArray⟩ : ByteArray) = x; simp, rfl⟩
      have E3 : Calls Tryz.prog 119 #[.string x] wr.drew fun e w' => e = .returned (.agg #[.int .i64 12, .string s3, .slice none 0 0]) ∧ Below wr.heap.size wr w' := by
        refine E.mono ?_
        rintro e w' ⟨rfl, hb⟩
        exact ⟨by rw [← hs3], (Below.refl wr.heap.size wr).drew.trans hb⟩
      obtain ⟨⟨_, _, y2⟩, fy⟩ := cell_in HK.out.2.1
      have htl : (ks.take k).length = k := by rw [List.length_take]; omega
      have HG1 : Hid (g1 < w.heap.size) := hg1
      have HNE : Hid (∀ q, q < w.heap.size + 2 → some q ≠ kv.ownBlock) := fun q hq e => by have := (HK.out.2.2.1.lt q e.symm).1; omega
      subst hax
      clear hc1 hg1 hxe hkx hm E hs3
      go_wp2_with fail
      have hcs : wr.cell? ⟨w.heap.size + 1, 2, none⟩ = some kv ∧ wr.cell? ⟨g1, k, none⟩ = some (.string x) := ⟨y2, c10⟩
      go_region_law (first
        | (refine step_call rfl 119 _ _ rfl #[.string x] rfl (by kernel_rfl) ?_; refine E3.mono ?_; rintro e w3 ⟨rfl, hb3⟩; have ho3 : OwnK w3 wr.heap.size n (.slice none 0 0) (It.kids ks[k]) [] := (by rw [HT.out.2.2]; exact own_none _ _ _); have hc3 := both_below hcs (by have := HK.out.2.2.2.2; omega) (by have := HG1.out; have := HK.out.2.2.2.1.size; omega) hb3; have hy3 := hc3.1; have hc4 := fun o => both_below hcs (by have := HK.out.2.2.2.2; omega) (by have := HG1.out; have := HK.out.2.2.2.1.size; omega) (hb3.alloc hb3.size o); have hy4 := fun o => (hc4 o).1; clear hc3; dsimp only)
        | (refine step_append_item0 rfl _ _ rfl (w.heap.size + 2) n kv (ks.take k) ks[k] 12 s3 (.slice none 0 0) [] HT.out.1 HT.out.2.1 rfl _ rfl rfl HK.out.2.2.1 hb3 ho3 HK.out.2.2.2.2 (by omega) ?_; intro g cap w6 hG6 hgrow6; have hy6 := (both_grown (hc4 _) hgrow6 (HNE.out _ (by omega)) (HNE.out _ (by have := HG1.out; omega))).1; have fz6 := (cell_in ((HK.out.2.1.below (hb3.alloc hb3.size _)).grown hgrow6 (HNE.out _ (by omega)))).2))
      all_goals (
        have H6 : Hid (Blk3 w6 w.heap.size (.int .i64 0) (.string ⟨#[]⟩) (.slice none 0 0) ∧ Blk3 w6 (w.heap.size + 1) (.int .i64 48) (.string ⟨#[]⟩) kv ∧ GrowK w6 (w.heap.size + 2) n (.slice (some ⟨g, 0, none⟩) (k + 1) cap) (ks.take (k + 1)) ∧ Below w.heap.size w w6 ∧ w.heap.size + 2 ≤ w6.heap.size) := by
          have hb5 := hb3.alloc hb3.size (Obj.cells #[Value.int IntKind.i64 12, Value.string s3, Value.slice none 0 0] 122)
          have hbw := HK.out.2.2.2.1.trans (hb5.mono HK.out.2.2.2.1.size)
          have e := List.take_append_getElem hj1
          rw [htl, e] at hG6
          exact ⟨(HK.out.1.below hb5).grown hgrow6 (HNE.out _ (by omega)), (HK.out.2.1.below hb5).grown hgrow6 (HNE.out _ (by omega)), hG6, hbw.grown hgrow6 hbw.size (fun q hq => by have := (HK.out.2.2.1.lt q hq).1; omega), Nat.le_trans HK.out.2.2.2.2 (Nat.le_trans hb5.size hgrow6.size)⟩
        clear hG6 hgrow6 hy6 fz6 hy3 hc4 hy4 ho3 hb3 hcs y2 c10 E3
        go_wp2_with fail
        refine ⟨⟨k + 1, by omega, by go_num, .slice (some ⟨g, 0, none⟩) (k + 1) cap, ?_, ?_, ?_, ?_, ?_⟩, by simp [intOf]; omega⟩
        · exact H6.out.1.other (by show w.heap.size ≠ w.heap.size + 1; omega) _
        · exact H6.out.2.1.set _
        · exact H6.out.2.2.1.out fun b hb => heap_setCell_other _ _ _ _ (by show b ≠ w.heap.size + 1; omega)
        · exact H6.out.2.2.2.1.setCell (p := ⟨w.heap.size + 1, 2, none⟩) (by show w.heap.size ≤ w.heap.size + 1; omega) _
        · exact Nat.le_trans H6.out.2.2.2.2 (((Below.refl 0 w6).setCell (p := ⟨w.heap.size + 1, 2, none⟩) (Nat.zero_le _) _).size))
    · have hlti : ¬ (k : Int) < (l : Int) := by omega
      obtain ⟨⟨q0, q1, q2⟩, _⟩ := cell_in HK.out.2.1
      obtain ⟨⟨r0, r1, r2⟩, rf⟩ := cell_in HK.out.1
      have HE : Hid (∃ fp, OwnK wr (w.heap.size + 2) (n + 1) kv ks fp) := by
        have h := HK.out.2.2.1
        rw [List.take_of_length_le (by have := HK0.out.2; omega)] at h
        exact h.own
      obtain ⟨axe, cape, hkv⟩ := HK.out.2.2.1.shape
      obtain ⟨le, hle⟩ : ∃ le, (ks.take k).length = le := ⟨_, rfl⟩
      rw [hle] at hkv
      subst hkv
      clear hle
      go_wp2_with fail
      refine bodyPost_ret (v := .agg #[.int .i64 48, .string ⟨#[]⟩, .slice axe le cape]) (by simp [results, Tryz.results122, go_sem, r0, r1, r2]; try rfl) rfl ?_
      obtain ⟨fp, hfp⟩ := HE.out
      refine ⟨.slice axe le cape, fp, rfl, ?_, ?_⟩
      · refine OwnK.base (base := w.heap.size + 2) (by omega) (hfp.same fun b hb => ?_)
        have h1 := (OwnK.lt hfp b hb).1
        rw [heap_setCell_other _ _ _ _ (by show b ≠ w.heap.size; omega), heap_setCell_other _ _ _ _ (by show b ≠ w.heap.size; omega), heap_setCell_other _ _ _ _ (by show b ≠ w.heap.size; omega)]
      · exact ((HK.out.2.2.2.1.setCell (p := ⟨w.heap.size, 0, none⟩) (Nat.le_refl _) _).setCell (p := ⟨w.heap.size, 1, none⟩) (Nat.le_refl _) _).setCell (p := ⟨w.heap.size, 2, none⟩) (Nat.le_refl _) _

end Go.Proofs.YtplblechcnbieaaGreat
