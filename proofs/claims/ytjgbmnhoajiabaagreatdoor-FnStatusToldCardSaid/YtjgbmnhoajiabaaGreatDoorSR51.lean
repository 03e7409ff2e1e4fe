/-
  Texts of the proof.
-/
import Derived.Test.YtjgbmnhoajiabaaGreatDoorSR50
set_option maxRecDepth 100000
namespace Go.Proofs.YtjgbmnhoajiabaaGreatDoor
open Go.RowKit Der
set_option linter.unusedVariables false
set_option linter.unusedSimpArgs false
def AnyPost (B : Nat) (w : World) (c : Nat) (a0 : Option Addr) (len cap : Nat) (e : Ending) (w' : World) : Prop := ∃ u x, e = .returned u /\ OwnL w' w.heap.size u x /\ MdL x /\ Cur B w' c a0 len cap /\ w.grownBy w' (some c)
theorem tmod_in {y : Int} (h0 : 0 <= y) (n : Int) (hn : 0 < n) (h2 : n <= 100) : 0 <= y.tmod n /\ y.tmod n < n := by
 rw [Int.tmod_eq_emod_of_nonneg h0]
 exact ⟨Int.emod_nonneg _ (by omega), Int.emod_lt_of_pos _ hn⟩
theorem MdS.grownX {B : Nat} {w W W' : World} {c : Nat} {a0 : Option Addr} {len cap g : Nat} {cells : Array Value} {r : Option Nat} (h : MdS B w W c a0 len cap g cells) (hg : W.grownBy W' r) (hr : ∀ k, r = some k -> w.heap.size < k /\ k ≠ g) : MdS B w W' c a0 len cap g cells :=
 ⟨⟨grow_step h.1.1 hg (fun k hk => by have := hr k hk; omega), h.1.2.grown hg (fun k hk => by have := hr k hk; have := h.2.2.2; omega)⟩, h.2.1.grown hg (fun e => by have := hr _ e.symm; omega), h.2.2.1.grown hg (fun e => by have := hr _ e.symm; omega), h.2.2.2⟩
set_option maxHeartbeats 12800000 in
theorem l10Any_any (B : Nat) (w : World) (c : Nat) (a0 : Option Addr) (len cap : Nat) (hC : Cur B w c a0 len cap) :
  Calls Tryz.prog 132 #[.pointer (some ⟨c, 0, none⟩)] w fun e w' => AnyPost B w c a0 len cap e w' := by
 have HC : Hid (Cur B w c a0 len cap) := hC
 clear hC
 obtain ⟨W0, hW0⟩ : ∃ V, V = w.alloc (Obj.cells #[.string ⟨#[]⟩, .int .i64 0, .int .i64 0, .int .i64 0, .int .i64 0, .slice none 0 0, .string ⟨#[]⟩] 49) := ⟨_, rfl⟩
 have H0 : Hid ((w.grownBy W0 (some c) /\ Cur B W0 c a0 len cap) /\ Blk W0 w.heap.size 49 #[.string ⟨#[]⟩, .int .i64 0, .int .i64 0, .int .i64 0, .int .i64 0, .slice none 0 0, .string ⟨#[]⟩] /\ c < w.heap.size) := by
  have hb : Below w.heap.size w W0 := by rw [hW0]; exact (Below.refl _ _).alloc (Nat.le_refl _) _
  exact ⟨⟨grownBy_below' hb, HC.out.kept hb⟩, by rw [hW0]; exact Blk.new _ _ _, HC.out.lt⟩
 have HDR : Hid (∀ W W', ((w.grownBy W (some c) /\ Cur B W c a0 len cap) /\ Blk W w.heap.size 49 #[.string ⟨#[]⟩, .int .i64 0, .int .i64 0, .int .i64 0, .int .i64 0, .slice none 0 0, .string ⟨#[]⟩] /\ c < w.heap.size) -> Cur B W' c a0 len cap -> W.grownBy W' (some c) -> ((w.grownBy W' (some c) /\ Cur B W' c a0 len cap) /\ Blk W' w.heap.size 49 #[.string ⟨#[]⟩, .int .i64 0, .int .i64 0, .int .i64 0, .int .i64 0, .slice none 0 0, .string ⟨#[]⟩] /\ c < w.heap.size)) := fun W W' h hc hg => ⟨⟨grownBy_trans h.1.1 hg, hc⟩, h.2.1.grown hg (fun e => by have := Option.some.inj e; have := h.2.2; omega), h.2.2⟩
 go_enter Tryz.func132, Tryz.ntmps132
 go_upto_region 1 with fail
 rw [<- hW0]
 clear hW0
 go_wp2_with fail
 refine (l01Below_any 12 B W0 c a0 len cap (by decide) H0.out.1.2).mono ?_
 rintro e w1 ⟨K, hK0, hK1, -, rfl, hc, hg⟩
 have hK2 : K < 12 := hK1 (by decide)
 have HH1 : Hid ((w.grownBy w1 (some c) /\ Cur B w1 c a0 len cap) /\ Blk w1 w.heap.size 49 #[.string ⟨#[]⟩, .int .i64 0, .int .i64 0, .int .i64 0, .int .i64 0, .slice none 0 0, .string ⟨#[]⟩] /\ c < w.heap.size) := HDR.out _ _ H0.out hc hg
 clear hc hg hK1 H0
 go_wp2_with fail
 refine (l01Below_any 60 B w1 c a0 len cap (by decide) HH1.out.1.2).mono ?_
 rintro e w2 ⟨Y, hY0, hY1, -, rfl, hc, hg⟩
 have hY2 : Y < 60 := hY1 (by decide)
 have HH2 : Hid ((w.grownBy w2 (some c) /\ Cur B w2 c a0 len cap) /\ Blk w2 w.heap.size 49 #[.string ⟨#[]⟩, .int .i64 0, .int .i64 0, .int .i64 0, .int .i64 0, .slice none 0 0, .string ⟨#[]⟩] /\ c < w.heap.size) := HDR.out _ _ HH1.out hc hg
 clear hc hg hY1 HH1
 go_wp2_with fail
 refine (l01Below_any 6 B w2 c a0 len cap (by decide) HH2.out.1.2).mono ?_
 rintro e w3 ⟨BY, hBY0, hBY1, -, rfl, hc, hg⟩
 have hBY2 : BY < 6 := hBY1 (by decide)
 have HH3 : Hid ((w.grownBy w3 (some c) /\ Cur B w3 c a0 len cap) /\ Blk w3 w.heap.size 49 #[.string ⟨#[]⟩, .int .i64 0, .int .i64 0, .int .i64 0, .int .i64 0, .slice none 0 0, .string ⟨#[]⟩] /\ c < w.heap.size) := HDR.out _ _ HH2.out hc hg
 clear hc hg hBY1 HH2
 go_wp2_with fail
 refine (l08Name_any B w3 c a0 len cap HH3.out.1.2).mono ?_
 rintro e w4 ⟨iss, hiss, rfl, hc, hg⟩
 have HH4 : Hid ((w.grownBy w4 (some c) /\ Cur B w4 c a0 len cap) /\ Blk w4 w.heap.size 49 #[.string ⟨#[]⟩, .int .i64 0, .int .i64 0, .int .i64 0, .int .i64 0, .slice none 0 0, .string ⟨#[]⟩] /\ c < w.heap.size) := HDR.out _ _ HH3.out hc hg
 clear hc hg HH3
 obtain ⟨byn, hbyn⟩ : ∃ n : Nat, BY = (n : Int) := ⟨BY.toNat, by omega⟩
 subst hbyn
 go_wp2_with fail
 refine (l10Made_any iss hiss byn (by omega) B w4 c a0 len cap HH4.out.1.2).mono ?_
 rintro e w5 ⟨u5, x, rfl, hu5, hmd, ⟨hsg, hrl5⟩, hc, hg⟩
 have HH5 : Hid (((w.grownBy w5 (some c) /\ Cur B w5 c a0 len cap) /\ Blk w5 w.heap.size 49 #[.string ⟨#[]⟩, .int .i64 0, .int .i64 0, .int .i64 0, .int .i64 0, .slice none 0 0, .string ⟨#[]⟩] /\ c < w.heap.size) /\ OwnL w5 w4.heap.size u5 x) := ⟨HDR.out _ _ HH4.out hc hg, hu5⟩
 have HMD : Hid (MdL x /\ x.sig.size = 15) := ⟨hmd, hsg⟩
 have HMR : Hid (x.revs.length <= 5) := hrl5
 clear hc hg hmd hsg HH4 hu5 hrl5
 have EC := crlCopy_any x u5 w4.heap.size w5 (by have := HMD.out.1.1; omega) HH5.out.2
 go_wp2_with fail
 refine EC.mono ?_
 rintro e w6 ⟨u6, rfl, hu6, hb6⟩
 obtain ⟨pX, qX, huX⟩ := hu6.at.shape
 obtain ⟨mX, hmX⟩ : ∃ m, x.revs.length = m := ⟨_, rfl⟩
 rw [hmX] at huX
 subst huX
 have HMX : Hid (x.revs.length = mX) := hmX
 clear hmX
 have H6 : Hid (((w.grownBy w6 (some c) /\ Cur B w6 c a0 len cap) /\ Blk w6 w.heap.size 49 #[.string ⟨#[]⟩, .int .i64 0, .int .i64 0, .int .i64 0, .int .i64 0, .slice none 0 0, .string ⟨#[]⟩] /\ c < w.heap.size) /\ OwnL w6 w5.heap.size (clV x (.slice pX mX qX)) x /\ w.heap.size < w5.heap.size) := ⟨⟨⟨grownBy_trans HH5.out.1.1.1 (grownBy_below' hb6), HH5.out.1.1.2.kept hb6⟩, HH5.out.1.2.1.below hb6 HH5.out.1.2.1.lt, HH5.out.1.2.2⟩, hu6, HH5.out.1.2.1.lt⟩
 have HW56 : Hid (w5.heap.size <= w6.heap.size) := hb6.size
 clear hb6 hu6 EC HH5
 unfold clV
 obtain ⟨V, hV⟩ : ∃ V, V = w6.alloc (Obj.cells #[.string x.issuer, .int .i64 x.num, .int .i64 x.ths, .int .i64 x.nxt, .int .i64 x.bas, .slice pX mX qX, .string x.sig] 49) := ⟨_, rfl⟩
 obtain ⟨g, hgg⟩ : ∃ q, w6.heap.size = q := ⟨_, rfl⟩
 have HV : Hid (MdS B w V c a0 len cap g #[.string x.issuer, .int .i64 x.num, .int .i64 x.ths, .int .i64 x.nxt, .int .i64 x.bas, .slice pX mX qX, .string x.sig] /\ OwnR V w5.heap.size (.slice pX mX qX) x.revs /\ (w.heap.size < w5.heap.size /\ (∀ b, (Value.slice pX mX qX).ownBlock = some b -> b ≠ g)) /\ g < V.heap.size) := by
  have hb : Below w6.heap.size w6 V := by rw [hV]; exact (Below.refl _ _).alloc (Nat.le_refl _) _
  obtain ⟨p, hp, hrow⟩ := H6.out.2.1
  have hpp : p = .slice pX mX qX := by
   unfold clV at hp
   injection hp with hp
   have := congrArg (fun a : Array Value => a[5]?) hp
   simpa using this.symm
  subst hpp
  have hw5 := hrow
  refine ⟨⟨⟨grownBy_trans H6.out.1.1.1 (grownBy_below' hb), H6.out.1.1.2.kept hb⟩, H6.out.1.2.1.below hb H6.out.1.2.1.lt, by rw [hV, <- hgg]; exact Blk.new _ _ _, H6.out.1.2.2, by rw [<- hgg]; exact H6.out.1.2.1.lt⟩, hrow.stays hb, ⟨H6.out.2.2, fun b hbb e => ?_⟩, by rw [hV, <- hgg, size_alloc]; omega⟩
  have := (World.ownsRow.lt hrow b hbb).2
  omega
 have HW5 : Hid (w5.heap.size <= V.heap.size) := by show _ <= _; rw [hV, size_alloc]; have := HW56.out; omega
 go_upto_region 5 with fail
 rw [<- hV]
 try rw [hgg]
 clear hV hgg H6 HW56
 have HX : Hid ((MdS B w V c a0 len cap g #[.string x.issuer, .int .i64 x.num, .int .i64 x.ths, .int .i64 x.nxt, .int .i64 x.bas, .slice pX mX qX, .string x.sig] /\ OwnR V w5.heap.size (.slice pX mX qX) x.revs) /\ (w.heap.size < w5.heap.size /\ (∀ b, ((.slice pX mX qX : Value)).ownBlock = some b -> b ≠ g))) := ⟨⟨HV.out.1, HV.out.2.1⟩, HV.out.2.2.1⟩
 have HVS : Hid (g < V.heap.size) := HV.out.2.2.2
 have HWX : Hid (w.heap.size < w5.heap.size) := HV.out.2.2.1.1
 have HR5 : Hid (x.revs.length <= 5) := HMR.out
 clear HV HDR
 by_cases hKn0 : K = 0
 ·skip
  have hk0 : (K == 0) = true := by rw [hKn0]; rfl
  have hY3 : Y.tmod 3 = 0 ∨ Y.tmod 3 = 1 ∨ Y.tmod 3 = 2 := by have := tmod_in hY0 3 (by decide) (by decide); omega
  have hmk : MdL x := HMD.out.1
  obtain ⟨VL, hVL⟩ : ∃ W, W = V.alloc (Obj.cells #[.int .i64 0, .int .i64 9999, .int .i64 10000] 3) := ⟨_, rfl⟩
  have HVL : Hid ((MdS B w VL c a0 len cap g #[.string x.issuer, .int .i64 x.num, .int .i64 x.ths, .int .i64 x.nxt, .int .i64 x.bas, .slice pX mX qX, .string x.sig] /\ OwnR VL w5.heap.size (.slice pX mX qX) x.revs) /\ (w.heap.size < w5.heap.size /\ (∀ b, ((.slice pX mX qX : Value)).ownBlock = some b -> b ≠ g))) := by
   have hb : Below V.heap.size V VL := by rw [hVL]; exact (Below.refl _ _).alloc (Nat.le_refl _) _
   exact ⟨⟨HX.out.1.1.out (grownBy_below' hb (row := none)) (fun k hk => by cases hk), HX.out.1.2.stays hb⟩, HX.out.2⟩
  rcases hY3 with hY3 | hY3
  ·skip
   have e1 := fun o => (show (V.alloc o).cell? ⟨g, 1, none⟩ = some (.int .i64 x.num) from (HX.out.1.1.2.2.1.alloc o).cell 1)
   have ef := fun o i => (show (V.alloc o).frozen? ⟨g, i, none⟩ = false from (HX.out.1.1.2.2.1.alloc o).free i)
   go_upto_region 16 with fail
   rw [<- hVL]
   obtain ⟨V7, hV7⟩ : ∃ W, W = VL.setCell ⟨g, 1, none⟩ (.int .i64 0) := ⟨_, rfl⟩
   try rw [<- hV7]
   have HF : Hid ((MdS B w V7 c a0 len cap g #[.string x.issuer, .int .i64 0, .int .i64 x.ths, .int .i64 x.nxt, .int .i64 x.bas, .slice pX mX qX, .string x.sig] /\ OwnR V7 w5.heap.size (.slice pX mX qX) x.revs) /\ (w.heap.size < w5.heap.size /\ (∀ b, ((.slice pX mX qX : Value)).ownBlock = some b -> b ≠ g))) := by
    rw [hV7]
    exact ⟨⟨HVL.out.1.1.set 1 _ rfl, row_same HVL.out.1.2 (fun b hb => heap_setCell_other _ _ _ _ (HVL.out.2.2 b hb))⟩, HVL.out.2⟩
   clear hV7 hVL HVL HX e1 ef hY3
   have HMF : Hid (MdL { x with num := 0 }) := ⟨hmk.1, ⟨by show bd 0; unfold bd; decide, hmk.2.1.2⟩, hmk.2.2⟩
   clear hmk
   have c0 : V7.cell? ⟨g, 0, none⟩ = some (.string x.issuer) := HF.out.1.1.2.2.1.cell 0
   have c1 : V7.cell? ⟨g, 1, none⟩ = some (.int .i64 0) := HF.out.1.1.2.2.1.cell 1
   have c2 : V7.cell? ⟨g, 2, none⟩ = some (.int .i64 x.ths) := HF.out.1.1.2.2.1.cell 2
   have c3 : V7.cell? ⟨g, 3, none⟩ = some (.int .i64 x.nxt) := HF.out.1.1.2.2.1.cell 3
   have c4 : V7.cell? ⟨g, 4, none⟩ = some (.int .i64 x.bas) := HF.out.1.1.2.2.1.cell 4
   have c5 : V7.cell? ⟨g, 5, none⟩ = some (.slice pX mX qX) := HF.out.1.1.2.2.1.cell 5
   have c6 : V7.cell? ⟨g, 6, none⟩ = some (.string x.sig) := HF.out.1.1.2.2.1.cell 6
   have r0 : V7.cell? ⟨w.heap.size, 0, none⟩ = some (.string ⟨#[]⟩) := HF.out.1.1.2.1.cell 0
   have r1 : V7.cell? ⟨w.heap.size, 1, none⟩ = some (.int .i64 0) := HF.out.1.1.2.1.cell 1
   have r2 : V7.cell? ⟨w.heap.size, 2, none⟩ = some (.int .i64 0) := HF.out.1.1.2.1.cell 2
   have r3 : V7.cell? ⟨w.heap.size, 3, none⟩ = some (.int .i64 0) := HF.out.1.1.2.1.cell 3
   have r4 : V7.cell? ⟨w.heap.size, 4, none⟩ = some (.int .i64 0) := HF.out.1.1.2.1.cell 4
   have r5 : V7.cell? ⟨w.heap.size, 5, none⟩ = some (.slice none 0 0) := HF.out.1.1.2.1.cell 5
   have r6 : V7.cell? ⟨w.heap.size, 6, none⟩ = some (.string ⟨#[]⟩) := HF.out.1.1.2.1.cell 6
   have rf := fun i => HF.out.1.1.2.1.free i
   have hgw : g ≠ w.heap.size := by have := HF.out.1.1.2.2.2; omega
   go_wp2_with fail
   refine bodyPost_ret (v := .agg #[.string x.issuer, .int .i64 0, .int .i64 x.ths, .int .i64 x.nxt, .int .i64 x.bas, .slice pX mX qX, .string x.sig]) (by simp [results, Tryz.results132, go_sem, r0, r1, r2, r3, r4, r5, r6]; try rfl) rfl ?_
   generalize hV9 : World.setCell _ { block := w.heap.size, off := 6 } _ = V9
   have hgV : V7.grownBy V9 (some w.heap.size) := by
    rw [<- hV9]
    iterate 6 refine grownBy_trans ?_ (grownBy_setCell _ _ _ _)
    exact grownBy_setCell _ _ _ _
   have hcw := HF.out.1.1.2.2.2
   refine ⟨_, { x with num := 0 }, rfl, ⟨.slice pX mX qX, rfl, OwnR.base (World.ownsRow.kept HF.out.1.2 hgV (.inr fun e => ?_)) (by have := HF.out.2.1; omega)⟩, HMF.out, HF.out.1.1.1.2.grown hgV (fun k hk => by have := Option.some.inj hk; omega), grow_step HF.out.1.1.1.1 hgV (fun k hk => by have := Option.some.inj hk; omega)⟩
   have := (World.ownsRow.lt HF.out.1.2 _ e).1
   have := HF.out.2.1
   omega
  rcases hY3 with hY3 | hY3
  ·skip
   have e1 := fun o => (show (V.alloc o).cell? ⟨g, 1, none⟩ = some (.int .i64 x.num) from (HX.out.1.1.2.2.1.alloc o).cell 1)
   have ef := fun o i => (show (V.alloc o).frozen? ⟨g, i, none⟩ = false from (HX.out.1.1.2.2.1.alloc o).free i)
   go_upto_region 16 with fail
   rw [<- hVL]
   obtain ⟨V7, hV7⟩ : ∃ W, W = VL.setCell ⟨g, 1, none⟩ (.int .i64 9999) := ⟨_, rfl⟩
   try rw [<- hV7]
   have HF : Hid ((MdS B w V7 c a0 len cap g #[.string x.issuer, .int .i64 9999, .int .i64 x.ths, .int .i64 x.nxt, .int .i64 x.bas, .slice pX mX qX, .string x.sig] /\ OwnR V7 w5.heap.size (.slice pX mX qX) x.revs) /\ (w.heap.size < w5.heap.size /\ (∀ b, ((.slice pX mX qX : Value)).ownBlock = some b -> b ≠ g))) := by
    rw [hV7]
    exact ⟨⟨HVL.out.1.1.set 1 _ rfl, row_same HVL.out.1.2 (fun b hb => heap_setCell_other _ _ _ _ (HVL.out.2.2 b hb))⟩, HVL.out.2⟩
   clear hV7 hVL HVL HX e1 ef hY3
   have HMF : Hid (MdL { x with num := 9999 }) := ⟨hmk.1, ⟨by show bd 9999; unfold bd; decide, hmk.2.1.2⟩, hmk.2.2⟩
   clear hmk
   have c0 : V7.cell? ⟨g, 0, none⟩ = some (.string x.issuer) := HF.out.1.1.2.2.1.cell 0
   have c1 : V7.cell? ⟨g, 1, none⟩ = some (.int .i64 9999) := HF.out.1.1.2.2.1.cell 1
   have c2 : V7.cell? ⟨g, 2, none⟩ = some (.int .i64 x.ths) := HF.out.1.1.2.2.1.cell 2
   have c3 : V7.cell? ⟨g, 3, none⟩ = some (.int .i64 x.nxt) := HF.out.1.1.2.2.1.cell 3
   have c4 : V7.cell? ⟨g, 4, none⟩ = some (.int .i64 x.bas) := HF.out.1.1.2.2.1.cell 4
   have c5 : V7.cell? ⟨g, 5, none⟩ = some (.slice pX mX qX) := HF.out.1.1.2.2.1.cell 5
   have c6 : V7.cell? ⟨g, 6, none⟩ = some (.string x.sig) := HF.out.1.1.2.2.1.cell 6
   have r0 : V7.cell? ⟨w.heap.size, 0, none⟩ = some (.string ⟨#[]⟩) := HF.out.1.1.2.1.cell 0
   have r1 : V7.cell? ⟨w.heap.size, 1, none⟩ = some (.int .i64 0) := HF.out.1.1.2.1.cell 1
   have r2 : V7.cell? ⟨w.heap.size, 2, none⟩ = some (.int .i64 0) := HF.out.1.1.2.1.cell 2
   have r3 : V7.cell? ⟨w.heap.size, 3, none⟩ = some (.int .i64 0) := HF.out.1.1.2.1.cell 3
   have r4 : V7.cell? ⟨w.heap.size, 4, none⟩ = some (.int .i64 0) := HF.out.1.1.2.1.cell 4
   have r5 : V7.cell? ⟨w.heap.size, 5, none⟩ = some (.slice none 0 0) := HF.out.1.1.2.1.cell 5
   have r6 : V7.cell? ⟨w.heap.size, 6, none⟩ = some (.string ⟨#[]⟩) := HF.out.1.1.2.1.cell 6
   have rf := fun i => HF.out.1.1.2.1.free i
   have hgw : g ≠ w.heap.size := by have := HF.out.1.1.2.2.2; omega
   go_wp2_with fail
   refine bodyPost_ret (v := .agg #[.string x.issuer, .int .i64 9999, .int .i64 x.ths, .int .i64 x.nxt, .int .i64 x.bas, .slice pX mX qX, .string x.sig]) (by simp [results, Tryz.results132, go_sem, r0, r1, r2, r3, r4, r5, r6]; try rfl) rfl ?_
   generalize hV9 : World.setCell _ { block := w.heap.size, off := 6 } _ = V9
   have hgV : V7.grownBy V9 (some w.heap.size) := by
    rw [<- hV9]
    iterate 6 refine grownBy_trans ?_ (grownBy_setCell _ _ _ _)
    exact grownBy_setCell _ _ _ _
   have hcw := HF.out.1.1.2.2.2
   refine ⟨_, { x with num := 9999 }, rfl, ⟨.slice pX mX qX, rfl, OwnR.base (World.ownsRow.kept HF.out.1.2 hgV (.inr fun e => ?_)) (by have := HF.out.2.1; omega)⟩, HMF.out, HF.out.1.1.1.2.grown hgV (fun k hk => by have := Option.some.inj hk; omega), grow_step HF.out.1.1.1.1 hgV (fun k hk => by have := Option.some.inj hk; omega)⟩
   have := (World.ownsRow.lt HF.out.1.2 _ e).1
   have := HF.out.2.1
   omega
  skip
  ·skip
   have e1 := fun o => (show (V.alloc o).cell? ⟨g, 1, none⟩ = some (.int .i64 x.num) from (HX.out.1.1.2.2.1.alloc o).cell 1)
   have ef := fun o i => (show (V.alloc o).frozen? ⟨g, i, none⟩ = false from (HX.out.1.1.2.2.1.alloc o).free i)
   go_upto_region 16 with fail
   rw [<- hVL]
   obtain ⟨V7, hV7⟩ : ∃ W, W = VL.setCell ⟨g, 1, none⟩ (.int .i64 10000) := ⟨_, rfl⟩
   try rw [<- hV7]
   have HF : Hid ((MdS B w V7 c a0 len cap g #[.string x.issuer, .int .i64 10000, .int .i64 x.ths, .int .i64 x.nxt, .int .i64 x.bas, .slice pX mX qX, .string x.sig] /\ OwnR V7 w5.heap.size (.slice pX mX qX) x.revs) /\ (w.heap.size < w5.heap.size /\ (∀ b, ((.slice pX mX qX : Value)).ownBlock = some b -> b ≠ g))) := by
    rw [hV7]
    exact ⟨⟨HVL.out.1.1.set 1 _ rfl, row_same HVL.out.1.2 (fun b hb => heap_setCell_other _ _ _ _ (HVL.out.2.2 b hb))⟩, HVL.out.2⟩
   clear hV7 hVL HVL HX e1 ef hY3
   have HMF : Hid (MdL { x with num := 10000 }) := ⟨hmk.1, ⟨by show bd 10000; unfold bd; decide, hmk.2.1.2⟩, hmk.2.2⟩
   clear hmk
   have c0 : V7.cell? ⟨g, 0, none⟩ = some (.string x.issuer) := HF.out.1.1.2.2.1.cell 0
   have c1 : V7.cell? ⟨g, 1, none⟩ = some (.int .i64 10000) := HF.out.1.1.2.2.1.cell 1
   have c2 : V7.cell? ⟨g, 2, none⟩ = some (.int .i64 x.ths) := HF.out.1.1.2.2.1.cell 2
   have c3 : V7.cell? ⟨g, 3, none⟩ = some (.int .i64 x.nxt) := HF.out.1.1.2.2.1.cell 3
   have c4 : V7.cell? ⟨g, 4, none⟩ = some (.int .i64 x.bas) := HF.out.1.1.2.2.1.cell 4
   have c5 : V7.cell? ⟨g, 5, none⟩ = some (.slice pX mX qX) := HF.out.1.1.2.2.1.cell 5
   have c6 : V7.cell? ⟨g, 6, none⟩ = some (.string x.sig) := HF.out.1.1.2.2.1.cell 6
   have r0 : V7.cell? ⟨w.heap.size, 0, none⟩ = some (.string ⟨#[]⟩) := HF.out.1.1.2.1.cell 0
   have r1 : V7.cell? ⟨w.heap.size, 1, none⟩ = some (.int .i64 0) := HF.out.1.1.2.1.cell 1
   have r2 : V7.cell? ⟨w.heap.size, 2, none⟩ = some (.int .i64 0) := HF.out.1.1.2.1.cell 2
   have r3 : V7.cell? ⟨w.heap.size, 3, none⟩ = some (.int .i64 0) := HF.out.1.1.2.1.cell 3
   have r4 : V7.cell? ⟨w.heap.size, 4, none⟩ = some (.int .i64 0) := HF.out.1.1.2.1.cell 4
   have r5 : V7.cell? ⟨w.heap.size, 5, none⟩ = some (.slice none 0 0) := HF.out.1.1.2.1.cell 5
   have r6 : V7.cell? ⟨w.heap.size, 6, none⟩ = some (.string ⟨#[]⟩) := HF.out.1.1.2.1.cell 6
   have rf := fun i => HF.out.1.1.2.1.free i
   have hgw : g ≠ w.heap.size := by have := HF.out.1.1.2.2.2; omega
   go_wp2_with fail
   refine bodyPost_ret (v := .agg #[.string x.issuer, .int .i64 10000, .int .i64 x.ths, .int .i64 x.nxt, .int .i64 x.bas, .slice pX mX qX, .string x.sig]) (by simp [results, Tryz.results132, go_sem, r0, r1, r2, r3, r4, r5, r6]; try rfl) rfl ?_
   generalize hV9 : World.setCell _ { block := w.heap.size, off := 6 } _ = V9
   have hgV : V7.grownBy V9 (some w.heap.size) := by
    rw [<- hV9]
    iterate 6 refine grownBy_trans ?_ (grownBy_setCell _ _ _ _)
    exact grownBy_setCell _ _ _ _
   have hcw := HF.out.1.1.2.2.2
   refine ⟨_, { x with num := 10000 }, rfl, ⟨.slice pX mX qX, rfl, OwnR.base (World.ownsRow.kept HF.out.1.2 hgV (.inr fun e => ?_)) (by have := HF.out.2.1; omega)⟩, HMF.out, HF.out.1.1.1.2.grown hgV (fun k hk => by have := Option.some.inj hk; omega), grow_step HF.out.1.1.1.1 hgV (fun k hk => by have := Option.some.inj hk; omega)⟩
   have := (World.ownsRow.lt HF.out.1.2 _ e).1
   have := HF.out.2.1
   omega
 by_cases hKn1 : K = 1
 ·skip
  have hk0 : (K == 0) = false := beq_eq_false_iff_ne.2 (by omega)
  have hk1 : (K == 1) = true := by rw [hKn1]; rfl
  have hY6 := tmod_in hY0 6 (by decide) (by decide)
  obtain ⟨A6, hA6⟩ : ∃ q, Y.tmod 6 = q := ⟨_, rfl⟩
  rw [hA6] at hY6
  have hmk : MdL x := HMD.out.1
  have e1 : V.cell? ⟨g, 4, none⟩ = some (.int .i64 x.bas) := HX.out.1.1.2.2.1.cell 4
  have ef := fun i => HX.out.1.1.2.2.1.free i
  go_upto_region 16 with fail
  obtain ⟨V7, hV7⟩ : ∃ W, W = V.setCell ⟨g, 4, none⟩ (.int .i64 A6) := ⟨_, rfl⟩
  try rw [<- hV7]
  have HF : Hid ((MdS B w V7 c a0 len cap g #[.string x.issuer, .int .i64 x.num, .int .i64 x.ths, .int .i64 x.nxt, .int .i64 A6, .slice pX mX qX, .string x.sig] /\ OwnR V7 w5.heap.size (.slice pX mX qX) x.revs) /\ (w.heap.size < w5.heap.size /\ (∀ b, ((.slice pX mX qX : Value)).ownBlock = some b -> b ≠ g))) := by
   rw [hV7]
   exact ⟨⟨HX.out.1.1.set 4 _ rfl, row_same HX.out.1.2 (fun b hb => heap_setCell_other _ _ _ _ (HX.out.2.2 b hb))⟩, HX.out.2⟩
  clear hV7 HX e1 ef
  have HMF : Hid (MdL { x with bas := A6 }) := ⟨hmk.1, ⟨hmk.2.1.1, hmk.2.1.2.1, hmk.2.1.2.2.1, by show bd A6; unfold bd; omega⟩, hmk.2.2⟩
  clear hmk
  have c0 : V7.cell? ⟨g, 0, none⟩ = some (.string x.issuer) := HF.out.1.1.2.2.1.cell 0
  have c1 : V7.cell? ⟨g, 1, none⟩ = some (.int .i64 x.num) := HF.out.1.1.2.2.1.cell 1
  have c2 : V7.cell? ⟨g, 2, none⟩ = some (.int .i64 x.ths) := HF.out.1.1.2.2.1.cell 2
  have c3 : V7.cell? ⟨g, 3, none⟩ = some (.int .i64 x.nxt) := HF.out.1.1.2.2.1.cell 3
  have c4 : V7.cell? ⟨g, 4, none⟩ = some (.int .i64 A6) := HF.out.1.1.2.2.1.cell 4
  have c5 : V7.cell? ⟨g, 5, none⟩ = some (.slice pX mX qX) := HF.out.1.1.2.2.1.cell 5
  have c6 : V7.cell? ⟨g, 6, none⟩ = some (.string x.sig) := HF.out.1.1.2.2.1.cell 6
  have r0 : V7.cell? ⟨w.heap.size, 0, none⟩ = some (.string ⟨#[]⟩) := HF.out.1.1.2.1.cell 0
  have r1 : V7.cell? ⟨w.heap.size, 1, none⟩ = some (.int .i64 0) := HF.out.1.1.2.1.cell 1
  have r2 : V7.cell? ⟨w.heap.size, 2, none⟩ = some (.int .i64 0) := HF.out.1.1.2.1.cell 2
  have r3 : V7.cell? ⟨w.heap.size, 3, none⟩ = some (.int .i64 0) := HF.out.1.1.2.1.cell 3
  have r4 : V7.cell? ⟨w.heap.size, 4, none⟩ = some (.int .i64 0) := HF.out.1.1.2.1.cell 4
  have r5 : V7.cell? ⟨w.heap.size, 5, none⟩ = some (.slice none 0 0) := HF.out.1.1.2.1.cell 5
  have r6 : V7.cell? ⟨w.heap.size, 6, none⟩ = some (.string ⟨#[]⟩) := HF.out.1.1.2.1.cell 6
  have rf := fun i => HF.out.1.1.2.1.free i
  have hgw : g ≠ w.heap.size := by have := HF.out.1.1.2.2.2; omega
  go_wp2_with fail
  refine bodyPost_ret (v := .agg #[.string x.issuer, .int .i64 x.num, .int .i64 x.ths, .int .i64 x.nxt, .int .i64 A6, .slice pX mX qX, .string x.sig]) (by simp [results, Tryz.results132, go_sem, r0, r1, r2, r3, r4, r5, r6]; try rfl) rfl ?_
  generalize hV9 : World.setCell _ { block := w.heap.size, off := 6 } _ = V9
  have hgV : V7.grownBy V9 (some w.heap.size) := by
   rw [<- hV9]
   iterate 6 refine grownBy_trans ?_ (grownBy_setCell _ _ _ _)
   exact grownBy_setCell _ _ _ _
  have hcw := HF.out.1.1.2.2.2
  refine ⟨_, { x with bas := A6 }, rfl, ⟨.slice pX mX qX, rfl, OwnR.base (World.ownsRow.kept HF.out.1.2 hgV (.inr fun e => ?_)) (by have := HF.out.2.1; omega)⟩, HMF.out, HF.out.1.1.1.2.grown hgV (fun k hk => by have := Option.some.inj hk; omega), grow_step HF.out.1.1.1.1 hgV (fun k hk => by have := Option.some.inj hk; omega)⟩
  have := (World.ownsRow.lt HF.out.1.2 _ e).1
  have := HF.out.2.1
  omega
 by_cases hKn2 : K = 2
 ·skip
  have hk0 : (K == 0) = false := beq_eq_false_iff_ne.2 (by omega)
  have hk1 : (K == 1) = false := beq_eq_false_iff_ne.2 (by omega)
  have hk2 : (K == 2) = true := by rw [hKn2]; rfl
  have hY5 := tmod_in hY0 5 (by decide) (by decide)
  have hY12 := tmod_in hY0 12 (by decide) (by decide)
  have hmk : MdL x := HMD.out.1
  obtain ⟨A5, hA5⟩ : ∃ q, Y.tmod 5 = q := ⟨_, rfl⟩
  obtain ⟨A12, hA12⟩ : ∃ q, Y.tmod 12 = q := ⟨_, rfl⟩
  rw [hA5] at hY5
  rw [hA12] at hY12
  have b5 : V.cell? ⟨g, 5, none⟩ = some (.slice pX mX qX) := HX.out.1.1.2.2.1.cell 5
  obtain ⟨V5, hV5⟩ : ∃ W, W = V.alloc (Obj.cells #[.int .i64 A5, .int .i64 A12] 161) := ⟨_, rfl⟩
  have H5 : Hid (((MdS B w V5 c a0 len cap g #[.string x.issuer, .int .i64 x.num, .int .i64 x.ths, .int .i64 x.nxt, .int .i64 x.bas, .slice pX mX qX, .string x.sig] /\ OwnR V5 w5.heap.size (.slice pX mX qX) x.revs) /\ (w.heap.size < w5.heap.size /\ (∀ b, ((.slice pX mX qX : Value)).ownBlock = some b -> b ≠ g))) /\ OwnR V5 V.heap.size (.slice (some ⟨V.heap.size, 0, none⟩) 1 1) [(A5, A12)] /\ w5.heap.size <= V5.heap.size) := by
   have hb : Below V.heap.size V V5 := by rw [hV5]; exact (Below.refl _ _).alloc (Nat.le_refl _) _
   refine ⟨⟨⟨HX.out.1.1.out (grownBy_below' hb (row := none)) (fun k hk => by cases hk), HX.out.1.2.stays hb⟩, HX.out.2⟩, by rw [hV5]; exact rone_rev V (A5, A12), ?_⟩
   have h2 := hb.size
   have h3 := HW5.out
   omega
  go_wp2_with (at_builtin; rw [<- hV5]; refine wpList_append_revs rfl _ _ rfl w5.heap.size (.slice pX mX qX) mX (cellsR x.revs) rfl (by have h := H5.out.1.1.2; unfold OwnR at h; rw [HMX.out] at h; exact h) _ [(A5, A12)] _ H5.out.2.1 rfl (by show mX + 1 <= _; have := HMX.out; have := hmk.1.2.1; omega) H5.out.2.2 ?_)
  intro v9 w9 ho9 hg9
  try rw [<- hV5] at hg9
  have ho9' : OwnR w9 w5.heap.size v9 (x.revs ++ [(A5, A12)]) := by
   unfold OwnR
   rw [List.length_append, HMX.out, cellsR_append]
   exact ho9
  obtain ⟨qa, qc, hq9, -, -, -⟩ := OwnR.shape ho9'
  rw [List.length_append, HMX.out] at hq9
  change v9 = .slice qa (mX + 1) qc at hq9
  subst hq9
  have H9 : Hid (MdS B w w9 c a0 len cap g #[.string x.issuer, .int .i64 x.num, .int .i64 x.ths, .int .i64 x.nxt, .int .i64 x.bas, .slice pX mX qX, .string x.sig] /\ OwnR w9 w5.heap.size (.slice qa (mX + 1) qc) (x.revs ++ [(A5, A12)]) /\ (∀ b, (Value.slice qa (mX + 1) qc).ownBlock = some b -> b ≠ g)) := by
   refine ⟨MdS.grownX H5.out.1.1.1 hg9 (fun b hb => ⟨by have := (World.ownsRow.lt H5.out.1.1.2 b hb).1; have := H5.out.1.2.1; omega, H5.out.1.2.2 b hb⟩), ho9', fun b hb e => ?_⟩
   have hbk := H5.out.1.1.1.2.2.1.grown hg9 (fun e => H5.out.1.2.2 g e.symm rfl)
   have hrow := ho9'
   subst e
   rcases hrow.2 with ⟨h, -⟩ | ⟨g', cap', cur, h, -, hblk, -⟩
   ·rw [h] at hb; cases hb
   ·rw [h] at hb
    have hgb : g' = b := by simpa [Value.ownBlock] using hb
    subst hgb
    unfold Blk at hbk
    rw [hbk] at hblk
    injection hblk with hblk
    injection hblk with h1 h2
    exact absurd h2 (by decide)
  clear ho9 ho9' hg9 hV5 b5 H5 HX
  have b5 : w9.cell? ⟨g, 5, none⟩ = some (.slice pX mX qX) := H9.out.1.2.2.1.cell 5
  have ef := fun i => H9.out.1.2.2.1.free i
  go_upto_region 16 with fail
  obtain ⟨V7, hV7⟩ : ∃ W, W = w9.setCell ⟨g, 5, none⟩ (.slice qa (mX + 1) qc) := ⟨_, rfl⟩
  try rw [<- hV7]
  have HF : Hid ((MdS B w V7 c a0 len cap g #[.string x.issuer, .int .i64 x.num, .int .i64 x.ths, .int .i64 x.nxt, .int .i64 x.bas, .slice qa (mX + 1) qc, .string x.sig] /\ OwnR V7 w5.heap.size (.slice qa (mX + 1) qc) (x.revs ++ [(A5, A12)])) /\ (w.heap.size < w5.heap.size /\ (∀ b, ((.slice qa (mX + 1) qc : Value)).ownBlock = some b -> b ≠ g))) := by
   rw [hV7]
   exact ⟨⟨H9.out.1.set 5 _ rfl, row_same H9.out.2.1 (fun b hb => heap_setCell_other _ _ _ _ (H9.out.2.2 b hb))⟩, HWX.out, H9.out.2.2⟩
  clear hV7 H9 b5 ef
  have HMF : Hid (MdL { x with revs := x.revs ++ [(A5, A12)] }) := by
   refine ⟨⟨hmk.1.1, by show (x.revs ++ [(A5, A12)]).length <= 6; rw [List.length_append]; have := HR5.out; show _ + 1 <= 6; omega, hmk.1.2.2⟩, hmk.2.1, fun p hp => ?_⟩
   rcases List.mem_append.1 hp with hp | hp
   ·exact hmk.2.2 p hp
   ·rw [List.mem_singleton.1 hp]
    unfold bd
    omega
  clear hmk hA5 hA12
  have c0 : V7.cell? ⟨g, 0, none⟩ = some (.string x.issuer) := HF.out.1.1.2.2.1.cell 0
  have c1 : V7.cell? ⟨g, 1, none⟩ = some (.int .i64 x.num) := HF.out.1.1.2.2.1.cell 1
  have c2 : V7.cell? ⟨g, 2, none⟩ = some (.int .i64 x.ths) := HF.out.1.1.2.2.1.cell 2
  have c3 : V7.cell? ⟨g, 3, none⟩ = some (.int .i64 x.nxt) := HF.out.1.1.2.2.1.cell 3
  have c4 : V7.cell? ⟨g, 4, none⟩ = some (.int .i64 x.bas) := HF.out.1.1.2.2.1.cell 4
  have c5 : V7.cell? ⟨g, 5, none⟩ = some (.slice qa (mX + 1) qc) := HF.out.1.1.2.2.1.cell 5
  have c6 : V7.cell? ⟨g, 6, none⟩ = some (.string x.sig) := HF.out.1.1.2.2.1.cell 6
  have r0 : V7.cell? ⟨w.heap.size, 0, none⟩ = some (.string ⟨#[]⟩) := HF.out.1.1.2.1.cell 0
  have r1 : V7.cell? ⟨w.heap.size, 1, none⟩ = some (.int .i64 0) := HF.out.1.1.2.1.cell 1
  have r2 : V7.cell? ⟨w.heap.size, 2, none⟩ = some (.int .i64 0) := HF.out.1.1.2.1.cell 2
  have r3 : V7.cell? ⟨w.heap.size, 3, none⟩ = some (.int .i64 0) := HF.out.1.1.2.1.cell 3
  have r4 : V7.cell? ⟨w.heap.size, 4, none⟩ = some (.int .i64 0) := HF.out.1.1.2.1.cell 4
  have r5 : V7.cell? ⟨w.heap.size, 5, none⟩ = some (.slice none 0 0) := HF.out.1.1.2.1.cell 5
  have r6 : V7.cell? ⟨w.heap.size, 6, none⟩ = some (.string ⟨#[]⟩) := HF.out.1.1.2.1.cell 6
  have rf := fun i => HF.out.1.1.2.1.free i
  have hgw : g ≠ w.heap.size := by have := HF.out.1.1.2.2.2; omega
  go_wp2_with fail
  refine bodyPost_ret (v := .agg #[.string x.issuer, .int .i64 x.num, .int .i64 x.ths, .int .i64 x.nxt, .int .i64 x.bas, .slice qa (mX + 1) qc, .string x.sig]) (by simp [results, Tryz.results132, go_sem, r0, r1, r2, r3, r4, r5, r6]; try rfl) rfl ?_
  generalize hV9 : World.setCell _ { block := w.heap.size, off := 6 } _ = V9
  have hgV : V7.grownBy V9 (some w.heap.size) := by
   rw [<- hV9]
   iterate 6 refine grownBy_trans ?_ (grownBy_setCell _ _ _ _)
   exact grownBy_setCell _ _ _ _
  have hcw := HF.out.1.1.2.2.2
  refine ⟨_, { x with revs := x.revs ++ [(A5, A12)] }, rfl, ⟨.slice qa (mX + 1) qc, rfl, OwnR.base (World.ownsRow.kept HF.out.1.2 hgV (.inr fun e => ?_)) (by have := HF.out.2.1; omega)⟩, HMF.out, HF.out.1.1.1.2.grown hgV (fun k hk => by have := Option.some.inj hk; omega), grow_step HF.out.1.1.1.1 hgV (fun k hk => by have := Option.some.inj hk; omega)⟩
  have := (World.ownsRow.lt HF.out.1.2 _ e).1
  have := HF.out.2.1
  omega
 by_cases hKn3 : K = 3
 ·skip
  have hk0 : (K == 0) = false := beq_eq_false_iff_ne.2 (by omega)
  have hk1 : (K == 1) = false := beq_eq_false_iff_ne.2 (by omega)
  have hk2 : (K == 2) = false := beq_eq_false_iff_ne.2 (by omega)
  have hk3 : (K == 3) = true := by rw [hKn3]; rfl
  have hmk : MdL x := HMD.out.1
  have e1 : V.cell? ⟨g, 0, none⟩ = some (.string x.issuer) := HX.out.1.1.2.2.1.cell 0
  have ef := fun i => HX.out.1.1.2.2.1.free i
  go_upto_region 16 with fail
  obtain ⟨V7, hV7⟩ : ∃ W, W = V.setCell ⟨g, 0, none⟩ (.string ⟨#[65]⟩) := ⟨_, rfl⟩
  try rw [<- hV7]
  have HF : Hid ((MdS B w V7 c a0 len cap g #[.string ⟨#[65]⟩, .int .i64 x.num, .int .i64 x.ths, .int .i64 x.nxt, .int .i64 x.bas, .slice pX mX qX, .string x.sig] /\ OwnR V7 w5.heap.size (.slice pX mX qX) x.revs) /\ (w.heap.size < w5.heap.size /\ (∀ b, ((.slice pX mX qX : Value)).ownBlock = some b -> b ≠ g))) := by
   rw [hV7]
   exact ⟨⟨HX.out.1.1.set 0 _ rfl, row_same HX.out.1.2 (fun b hb => heap_setCell_other _ _ _ _ (HX.out.2.2 b hb))⟩, HX.out.2⟩
  clear hV7 HX e1 ef
  have HMF : Hid (MdL { x with issuer := ⟨#[65]⟩ }) := ⟨⟨by show (1 : Nat) <= 100; decide, hmk.1.2⟩, hmk.2⟩
  clear hmk
  have c0 : V7.cell? ⟨g, 0, none⟩ = some (.string ⟨#[65]⟩) := HF.out.1.1.2.2.1.cell 0
  have c1 : V7.cell? ⟨g, 1, none⟩ = some (.int .i64 x.num) := HF.out.1.1.2.2.1.cell 1
  have c2 : V7.cell? ⟨g, 2, none⟩ = some (.int .i64 x.ths) := HF.out.1.1.2.2.1.cell 2
  have c3 : V7.cell? ⟨g, 3, none⟩ = some (.int .i64 x.nxt) := HF.out.1.1.2.2.1.cell 3
  have c4 : V7.cell? ⟨g, 4, none⟩ = some (.int .i64 x.bas) := HF.out.1.1.2.2.1.cell 4
  have c5 : V7.cell? ⟨g, 5, none⟩ = some (.slice pX mX qX) := HF.out.1.1.2.2.1.cell 5
  have c6 : V7.cell? ⟨g, 6, none⟩ = some (.string x.sig) := HF.out.1.1.2.2.1.cell 6
  have r0 : V7.cell? ⟨w.heap.size, 0, none⟩ = some (.string ⟨#[]⟩) := HF.out.1.1.2.1.cell 0
  have r1 : V7.cell? ⟨w.heap.size, 1, none⟩ = some (.int .i64 0) := HF.out.1.1.2.1.cell 1
  have r2 : V7.cell? ⟨w.heap.size, 2, none⟩ = some (.int .i64 0) := HF.out.1.1.2.1.cell 2
  have r3 : V7.cell? ⟨w.heap.size, 3, none⟩ = some (.int .i64 0) := HF.out.1.1.2.1.cell 3
  have r4 : V7.cell? ⟨w.heap.size, 4, none⟩ = some (.int .i64 0) := HF.out.1.1.2.1.cell 4
  have r5 : V7.cell? ⟨w.heap.size, 5, none⟩ = some (.slice none 0 0) := HF.out.1.1.2.1.cell 5
  have r6 : V7.cell? ⟨w.heap.size, 6, none⟩ = some (.string ⟨#[]⟩) := HF.out.1.1.2.1.cell 6
  have rf := fun i => HF.out.1.1.2.1.free i
  have hgw : g ≠ w.heap.size := by have := HF.out.1.1.2.2.2; omega
  go_wp2_with fail
  refine bodyPost_ret (v := .agg #[.string ⟨#[65]⟩, .int .i64 x.num, .int .i64 x.ths, .int .i64 x.nxt, .int .i64 x.bas, .slice pX mX qX, .string x.sig]) (by simp [results, Tryz.results132, go_sem, r0, r1, r2, r3, r4, r5, r6]; try rfl) rfl ?_
  generalize hV9 : World.setCell _ { block := w.heap.size, off := 6 } _ = V9
  have hgV : V7.grownBy V9 (some w.heap.size) := by
   rw [<- hV9]
   iterate 6 refine grownBy_trans ?_ (grownBy_setCell _ _ _ _)
   exact grownBy_setCell _ _ _ _
  have hcw := HF.out.1.1.2.2.2
  refine ⟨_, { x with issuer := ⟨#[65]⟩ }, rfl, ⟨.slice pX mX qX, rfl, OwnR.base (World.ownsRow.kept HF.out.1.2 hgV (.inr fun e => ?_)) (by have := HF.out.2.1; omega)⟩, HMF.out, HF.out.1.1.1.2.grown hgV (fun k hk => by have := Option.some.inj hk; omega), grow_step HF.out.1.1.1.1 hgV (fun k hk => by have := Option.some.inj hk; omega)⟩
  have := (World.ownsRow.lt HF.out.1.2 _ e).1
  have := HF.out.2.1
  omega
 by_cases hKn4 : K = 4
 ·skip
  have hk0 : (K == 0) = false := beq_eq_false_iff_ne.2 (by omega)
  have hk1 : (K == 1) = false := beq_eq_false_iff_ne.2 (by omega)
  have hk2 : (K == 2) = false := beq_eq_false_iff_ne.2 (by omega)
  have hk3 : (K == 3) = false := beq_eq_false_iff_ne.2 (by omega)
  have hk4 : (K == 4) = true := by rw [hKn4]; rfl
  have hsz1 : 1 <= x.sig.size := by rw [HMD.out.2]; decide
  have hsz2 : x.sig.size <= 15 := by rw [HMD.out.2]; decide
  have hsz3 : (1 : Int) <= (x.sig.size : Int) := by omega
  have hmk : MdL x := HMD.out.1
  have e1 : V.cell? ⟨g, 6, none⟩ = some (.string x.sig) := HX.out.1.1.2.2.1.cell 6
  have ef := fun i => HX.out.1.1.2.2.1.free i
  go_upto_region 16 with fail
  obtain ⟨V7, hV7⟩ : ∃ W, W = V.setCell ⟨g, 6, none⟩ (.string (x.sig.extract 1 x.sig.size)) := ⟨_, rfl⟩
  try rw [<- hV7]
  have HF : Hid ((MdS B w V7 c a0 len cap g #[.string x.issuer, .int .i64 x.num, .int .i64 x.ths, .int .i64 x.nxt, .int .i64 x.bas, .slice pX mX qX, .string (x.sig.extract 1 x.sig.size)] /\ OwnR V7 w5.heap.size (.slice pX mX qX) x.revs) /\ (w.heap.size < w5.heap.size /\ (∀ b, ((.slice pX mX qX : Value)).ownBlock = some b -> b ≠ g))) := by
   rw [hV7]
   exact ⟨⟨HX.out.1.1.set 6 _ rfl, row_same HX.out.1.2 (fun b hb => heap_setCell_other _ _ _ _ (HX.out.2.2 b hb))⟩, HX.out.2⟩
  clear hV7 HX e1 ef
  have HMF : Hid (MdL { x with sig := x.sig.extract 1 x.sig.size }) := ⟨⟨hmk.1.1, hmk.1.2.1, by show (x.sig.extract 1 x.sig.size).size <= 15; have := hmk.1.2.2; rw [ByteArray.size_extract]; omega⟩, hmk.2⟩
  clear hmk
  have c0 : V7.cell? ⟨g, 0, none⟩ = some (.string x.issuer) := HF.out.1.1.2.2.1.cell 0
  have c1 : V7.cell? ⟨g, 1, none⟩ = some (.int .i64 x.num) := HF.out.1.1.2.2.1.cell 1
  have c2 : V7.cell? ⟨g, 2, none⟩ = some (.int .i64 x.ths) := HF.out.1.1.2.2.1.cell 2
  have c3 : V7.cell? ⟨g, 3, none⟩ = some (.int .i64 x.nxt) := HF.out.1.1.2.2.1.cell 3
  have c4 : V7.cell? ⟨g, 4, none⟩ = some (.int .i64 x.bas) := HF.out.1.1.2.2.1.cell 4
  have c5 : V7.cell? ⟨g, 5, none⟩ = some (.slice pX mX qX) := HF.out.1.1.2.2.1.cell 5
  have c6 : V7.cell? ⟨g, 6, none⟩ = some (.string (x.sig.extract 1 x.sig.size)) := HF.out.1.1.2.2.1.cell 6
  have r0 : V7.cell? ⟨w.heap.size, 0, none⟩ = some (.string ⟨#[]⟩) := HF.out.1.1.2.1.cell 0
  have r1 : V7.cell? ⟨w.heap.size, 1, none⟩ = some (.int .i64 0) := HF.out.1.1.2.1.cell 1
  have r2 : V7.cell? ⟨w.heap.size, 2, none⟩ = some (.int .i64 0) := HF.out.1.1.2.1.cell 2
  have r3 : V7.cell? ⟨w.heap.size, 3, none⟩ = some (.int .i64 0) := HF.out.1.1.2.1.cell 3
  have r4 : V7.cell? ⟨w.heap.size, 4, none⟩ = some (.int .i64 0) := HF.out.1.1.2.1.cell 4
  have r5 : V7.cell? ⟨w.heap.size, 5, none⟩ = some (.slice none 0 0) := HF.out.1.1.2.1.cell 5
  have r6 : V7.cell? ⟨w.heap.size, 6, none⟩ = some (.string ⟨#[]⟩) := HF.out.1.1.2.1.cell 6
  have rf := fun i => HF.out.1.1.2.1.free i
  have hgw : g ≠ w.heap.size := by have := HF.out.1.1.2.2.2; omega
  go_wp2_with fail
  refine bodyPost_ret (v := .agg #[.string x.issuer, .int .i64 x.num, .int .i64 x.ths, .int .i64 x.nxt, .int .i64 x.bas, .slice pX mX qX, .string (x.sig.extract 1 x.sig.size)]) (by simp [results, Tryz.results132, go_sem, r0, r1, r2, r3, r4, r5, r6]; try rfl) rfl ?_
  generalize hV9 : World.setCell _ { block := w.heap.size, off := 6 } _ = V9
  have hgV : V7.grownBy V9 (some w.heap.size) := by
   rw [<- hV9]
   iterate 6 refine grownBy_trans ?_ (grownBy_setCell _ _ _ _)
   exact grownBy_setCell _ _ _ _
  have hcw := HF.out.1.1.2.2.2
  refine ⟨_, { x with sig := x.sig.extract 1 x.sig.size }, rfl, ⟨.slice pX mX qX, rfl, OwnR.base (World.ownsRow.kept HF.out.1.2 hgV (.inr fun e => ?_)) (by have := HF.out.2.1; omega)⟩, HMF.out, HF.out.1.1.1.2.grown hgV (fun k hk => by have := Option.some.inj hk; omega), grow_step HF.out.1.1.1.1 hgV (fun k hk => by have := Option.some.inj hk; omega)⟩
  have := (World.ownsRow.lt HF.out.1.2 _ e).1
  have := HF.out.2.1
  omega
 have hk0 : (K == 0) = false := beq_eq_false_iff_ne.2 (by omega)
 have hk1 : (K == 1) = false := beq_eq_false_iff_ne.2 (by omega)
 have hk2 : (K == 2) = false := beq_eq_false_iff_ne.2 (by omega)
 have hk3 : (K == 3) = false := beq_eq_false_iff_ne.2 (by omega)
 have hk4 : (K == 4) = false := beq_eq_false_iff_ne.2 (by omega)
 have HF : Hid ((MdS B w V c a0 len cap g #[.string x.issuer, .int .i64 x.num, .int .i64 x.ths, .int .i64 x.nxt, .int .i64 x.bas, .slice pX mX qX, .string x.sig] /\ OwnR V w5.heap.size (.slice pX mX qX) x.revs) /\ (w.heap.size < w5.heap.size /\ (∀ b, ((.slice pX mX qX : Value)).ownBlock = some b -> b ≠ g))) := HX.out
 have HMF : Hid (MdL x) := HMD.out.1
 clear HX
 go_upto_region 16 with fail
 have c0 : V.cell? ⟨g, 0, none⟩ = some (.string x.issuer) := HF.out.1.1.2.2.1.cell 0
 have c1 : V.cell? ⟨g, 1, none⟩ = some (.int .i64 x.num) := HF.out.1.1.2.2.1.cell 1
 have c2 : V.cell? ⟨g, 2, none⟩ = some (.int .i64 x.ths) := HF.out.1.1.2.2.1.cell 2
 have c3 : V.cell? ⟨g, 3, none⟩ = some (.int .i64 x.nxt) := HF.out.1.1.2.2.1.cell 3
 have c4 : V.cell? ⟨g, 4, none⟩ = some (.int .i64 x.bas) := HF.out.1.1.2.2.1.cell 4
 have c5 : V.cell? ⟨g, 5, none⟩ = some (.slice pX mX qX) := HF.out.1.1.2.2.1.cell 5
 have c6 : V.cell? ⟨g, 6, none⟩ = some (.string x.sig) := HF.out.1.1.2.2.1.cell 6
 have r0 : V.cell? ⟨w.heap.size, 0, none⟩ = some (.string ⟨#[]⟩) := HF.out.1.1.2.1.cell 0
 have r1 : V.cell? ⟨w.heap.size, 1, none⟩ = some (.int .i64 0) := HF.out.1.1.2.1.cell 1
 have r2 : V.cell? ⟨w.heap.size, 2, none⟩ = some (.int .i64 0) := HF.out.1.1.2.1.cell 2
 have r3 : V.cell? ⟨w.heap.size, 3, none⟩ = some (.int .i64 0) := HF.out.1.1.2.1.cell 3
 have r4 : V.cell? ⟨w.heap.size, 4, none⟩ = some (.int .i64 0) := HF.out.1.1.2.1.cell 4
 have r5 : V.cell? ⟨w.heap.size, 5, none⟩ = some (.slice none 0 0) := HF.out.1.1.2.1.cell 5
 have r6 : V.cell? ⟨w.heap.size, 6, none⟩ = some (.string ⟨#[]⟩) := HF.out.1.1.2.1.cell 6
 have rf := fun i => HF.out.1.1.2.1.free i
 have hgw : g ≠ w.heap.size := by have := HF.out.1.1.2.2.2; omega
 go_wp2_with fail
 refine bodyPost_ret (v := .agg #[.string x.issuer, .int .i64 x.num, .int .i64 x.ths, .int .i64 x.nxt, .int .i64 x.bas, .slice pX mX qX, .string x.sig]) (by simp [results, Tryz.results132, go_sem, r0, r1, r2, r3, r4, r5, r6]; try rfl) rfl ?_
 generalize hV9 : World.setCell _ { block := w.heap.size, off := 6 } _ = V9
 have hgV : V.grownBy V9 (some w.heap.size) := by
  rw [<- hV9]
  iterate 6 refine grownBy_trans ?_ (grownBy_setCell _ _ _ _)
  exact grownBy_setCell _ _ _ _
 have hcw := HF.out.1.1.2.2.2
 refine ⟨_, x, rfl, ⟨.slice pX mX qX, rfl, OwnR.base (World.ownsRow.kept HF.out.1.2 hgV (.inr fun e => ?_)) (by have := HF.out.2.1; omega)⟩, HMF.out, HF.out.1.1.1.2.grown hgV (fun k hk => by have := Option.some.inj hk; omega), grow_step HF.out.1.1.1.1 hgV (fun k hk => by have := Option.some.inj hk; omega)⟩
 have := (World.ownsRow.lt HF.out.1.2 _ e).1
 have := HF.out.2.1
 omega
theorem Cur.keptB {B : Nat} {w w' : World} {c : Nat} {a0 : Option Addr} {len cap K : Nat} (h : Cur B w c a0 len cap) (hb : Below K w w') (hK : c < K) : Cur B w' c a0 len cap := by
 refine ⟨h.low, h.len_le, ?_, fun j hj => ?_⟩
 ·obtain ⟨i, k, hr, h1, h2⟩ := h.row
  exact ⟨i, k, by rw [hb.block c hK]; exact hr, h1, h2⟩
 ·obtain ⟨b, off, x, e, hbB, hc, h1, h2⟩ := h.code j hj
  have hbw : b < K := by have := h.low; omega
  exact ⟨b, off, x, e, hbB, (hb.cell (p := ⟨b, off + j, none⟩) hbw).trans hc, h1, h2⟩
theorem grow_below {w W W' : World} {c : Nat} (h : w.grownBy W (some c)) (hb : Below w.heap.size W W') : w.grownBy W' (some c) :=
 ⟨hb.os.trans h.os, hb.tape.trans h.tape, hb.output.trans h.output, Nat.le_trans h.size hb.size, fun k hk hn => (hb.block k hk).trans (h.block k hk hn)⟩
theorem OwnS.grownC {w w' : World} {b c : Nat} {v : Value} {l : List Cl} {fp : List Nat} (h : OwnS crlKd w b v l fp) (hg : w.grownBy w' (some c)) (hc : c < b) : OwnS crlKd w' b v l fp :=
 h.same fun y hy => hg.block y (h.lt y hy).2 (fun e => by have := Option.some.inj e; have := (h.lt y hy).1; omega)
theorem wt_made : ∀ {l : List Cl}, (∀ x ∈ l, MdL x) -> wtS l <= 201 * l.length
 | [], _ => Nat.le_refl _
 | x :: l, h => by
  have ih := wt_made fun y hy => h y (List.mem_cons_of_mem _ hy)
  have hx := (h x (List.mem_cons_self ..)).wt
  unfold wtS at ih |-
  simp only [List.map_cons, List.sum_cons, List.length_cons]
  omega
theorem md_snoc {l : List Cl} {x : Cl} (h : ∀ y ∈ l, MdL y) (hx : MdL x) : ∀ y ∈ l ++ [x], MdL y := fun y hy => by
 rcases List.mem_append.1 hy with hy | hy
 ·exact h y hy
 ·rw [List.mem_singleton.1 hy]; exact hx
def RowPost (B : Nat) (w : World) (c : Nat) (a0 : Option Addr) (len cap : Nat) (e : Ending) (w' : World) : Prop := ∃ u l fp, e = .returned u /\ OwnS crlKd w' w.heap.size u l fp /\ l.length <= 5 /\ (∀ x ∈ l, MdL x) /\ Cur B w' c a0 len cap /\ w.grownBy w' (some c)
set_option maxHeartbeats 12800000 in
theorem l11Crls_any (B : Nat) (w : World) (c : Nat) (a0 : Option Addr) (len cap : Nat) (hC : Cur B w c a0 len cap) :
  Calls Tryz.prog 144 #[.pointer (some ⟨c, 0, none⟩)] w fun e w' => RowPost B w c a0 len cap e w' := by
 have HC : Hid (Cur B w c a0 len cap) := hC
 have HCW : Hid (c < w.heap.size) := hC.lt
 clear hC
 obtain ⟨W1, hW1⟩ : ∃ V, V = w.alloc (Obj.cells #[] 49) := ⟨_, rfl⟩
 have H1 : Hid ((w.grownBy W1 (some c) /\ Cur B W1 c a0 len cap) /\ OwnS crlKd W1 w.heap.size (.slice (some ⟨w.heap.size, 0, none⟩) 0 0) ([] : List Cl) [w.heap.size] /\ (∀ x ∈ ([] : List Cl), MdL x)) := by
  have hb : Below w.heap.size w W1 := by rw [hW1]; exact (Below.refl _ _).alloc (Nat.le_refl _) _
  exact ⟨⟨grownBy_below' hb, HC.out.kept hb⟩, by rw [hW1]; exact OwnS.made crlKd w _ (Nat.le_refl _), fun x hx => by cases hx⟩
 go_enter Tryz.func144, Tryz.ntmps144
 go_wp2_with fail
 rw [<- hW1]
 clear hW1
 go_loopw [3, 4] (fun ov iv wr => ∃ k : Nat, k <= 4 /\ iv = .int .i64 k /\ Hid (∃ (l : List Cl) (fpo : List Nat), ((w.grownBy wr (some c) /\ Cur B wr c a0 len cap) /\ OwnS crlKd wr w.heap.size ov l fpo /\ (∀ x ∈ l, MdL x)) /\ l.length = k)) (fun _ iv _ => 5 - (intOf iv).toNat)
 case atStart => exact ⟨0, by decide, rfl, [], _, H1.out, rfl⟩
 case round =>
  clear H1
  obtain ⟨k, hk, rfl, H0⟩ := hrel
  obtain ⟨LF, fpo, hM, hlk⟩ := H0.out
  have H : Hid ((w.grownBy wr (some c) /\ Cur B wr c a0 len cap) /\ OwnS crlKd wr w.heap.size u3 LF fpo /\ (∀ x ∈ LF, MdL x)) := hM
  have HLN : Hid (LF.length = k) := hlk
  obtain ⟨va, vc, hvo, -⟩ := hM.2.1.shape
  obtain ⟨ln, hln⟩ : ∃ q, LF.length = q := ⟨_, rfl⟩
  rw [hln] at hvo
  subst hvo
  clear H0 hM hlk
  have HDR : Hid (∀ W W', ((w.grownBy W (some c) /\ Cur B W c a0 len cap) /\ OwnS crlKd W w.heap.size (.slice va ln vc) LF fpo /\ (∀ x ∈ LF, MdL x)) -> Cur B W' c a0 len cap -> W.grownBy W' (some c) -> ((w.grownBy W' (some c) /\ Cur B W' c a0 len cap) /\ OwnS crlKd W' w.heap.size (.slice va ln vc) LF fpo /\ (∀ x ∈ LF, MdL x))) := fun W W' h hc hg => ⟨⟨grownBy_trans h.1.1 hg, hc⟩, h.2.1.grownC hg HCW.out, h.2.2⟩
  go_wp2_with fail
  refine (l01Below_any 5 B wr c a0 len cap (by decide) H.out.1.2).mono ?_
  rintro e v1 ⟨m1, hm0, hm1, -, rfl, hc1, hg1⟩
  have hm4 : m1 < 5 := hm1 (by decide)
  have H1 : Hid ((w.grownBy v1 (some c) /\ Cur B v1 c a0 len cap) /\ OwnS crlKd v1 w.heap.size (.slice va ln vc) LF fpo /\ (∀ x ∈ LF, MdL x)) := HDR.out _ _ H.out hc1 hg1
  clear H hc1 hg1 hm1
  by_cases hkm : (k : Int) < m1
  ·go_wp2_with fail
   refine (l01Once_any 6 B v1 c a0 len cap (by decide) H1.out.1.2).mono ?_
   rintro e v2 ⟨b2, rfl, hc2, hg2⟩
   have H2 : Hid ((w.grownBy v2 (some c) /\ Cur B v2 c a0 len cap) /\ OwnS crlKd v2 w.heap.size (.slice va ln vc) LF fpo /\ (∀ x ∈ LF, MdL x)) := HDR.out _ _ H1.out hc2 hg2
   clear H1 hc2 hg2
   have HLE : Hid (w.heap.size <= v2.heap.size) := H2.out.1.1.size
   have HLO : Hid (∀ b ∈ fpo, b < v2.heap.size) := fun b hb => (H2.out.2.1.lt b hb).2
   cases b2 with
   | true =>
    go_wp2_with fail
    refine (l10Any_any B v2 c a0 len cap H2.out.1.2).mono ?_
    rintro e v3 ⟨u3, y, rfl, hu, hmy, hc3, hg3⟩
    have HX : Hid ((w.grownBy v3 (some c) /\ Cur B v3 c a0 len cap) /\ OwnS crlKd v3 w.heap.size (.slice va ln vc) LF fpo /\ (∀ x ∈ LF, MdL x)) := HDR.out _ _ H2.out hc3 hg3
    have HMY : Hid (MdL y) := hmy
    clear H2 hc3 hg3 hmy
    obtain ⟨pY, qY, huY⟩ := hu.at.shape
    subst huY
    have H5 : Hid (((w.grownBy v3 (some c) /\ Cur B v3 c a0 len cap) /\ OwnS crlKd v3 w.heap.size (.slice va ln vc) LF fpo /\ (∀ x ∈ LF, MdL x)) /\ OwnL v3 w.heap.size (clV y (.slice pY y.revs.length qY)) y /\ (∀ b ∈ fpL (clV y (.slice pY y.revs.length qY)), b ∉ fpo) /\ w.heap.size <= v3.heap.size) := ⟨HX.out, hu.base HLE.out, fun b hb hm => by have h1 := (HLO.out b hm); have h2 := (fpL_lt hu b hb).1; omega, by have := HX.out.1.1.size; omega⟩
    clear HX hu
    unfold clV
    go_wp2_with (at_builtin; refine wpList_append_crl rfl _ _ rfl w.heap.size (.slice va ln vc) LF fpo y (.slice pY y.revs.length qY) rfl _ rfl rfl H5.out.1.2.1 H5.out.2.1 H5.out.2.2.1 H5.out.2.2.2 (by have := HLN.out; omega) ?_)
    intro g9 cap9 w9 fp9 hO9 hb9
    have HD : Hid (∃ (l : List Cl) (fpo : List Nat), (((w.grownBy w9 (some c) /\ Cur B w9 c a0 len cap) /\ OwnS crlKd w9 w.heap.size (.slice (some ⟨g9, 0, none⟩) (ln + 1) cap9) l fpo /\ (∀ x ∈ l, MdL x))) /\ l.length = k + 1) := by
     refine ⟨LF ++ [y], fp9, ⟨⟨grow_below H5.out.1.1.1 hb9, H5.out.1.1.2.keptB hb9 HCW.out⟩, by first | exact hO9 | (have h := hO9; rw [List.length_append, hln] at h; exact h), md_snoc H5.out.1.2.2 HMY.out⟩, by rw [List.length_append]; have := HLN.out; show LF.length + 1 = k + 1; omega⟩
    clear hO9 hb9 H5
    go_wp2_with fail
    go_roundw
    case rel => exact ⟨k + 1, by omega, by go_num, HD.out⟩
    case measure => simp [intOf]; omega
   | false =>
    go_wp2_with fail
    refine (l10Made_any ⟨#[99, 97, 46, 111, 114, 103]⟩ (by decide) 1 (by decide) B v2 c a0 len cap H2.out.1.2).mono ?_
    rintro e v3 ⟨u3, y, rfl, hu, hmy, -, hc3, hg3⟩
    have HX : Hid ((w.grownBy v3 (some c) /\ Cur B v3 c a0 len cap) /\ OwnS crlKd v3 w.heap.size (.slice va ln vc) LF fpo /\ (∀ x ∈ LF, MdL x)) := HDR.out _ _ H2.out hc3 hg3
    have HMY : Hid (MdL y) := hmy
    clear H2 hc3 hg3 hmy
    obtain ⟨pY, qY, huY⟩ := hu.at.shape
    subst huY
    have H5 : Hid (((w.grownBy v3 (some c) /\ Cur B v3 c a0 len cap) /\ OwnS crlKd v3 w.heap.size (.slice va ln vc) LF fpo /\ (∀ x ∈ LF, MdL x)) /\ OwnL v3 w.heap.size (clV y (.slice pY y.revs.length qY)) y /\ (∀ b ∈ fpL (clV y (.slice pY y.revs.length qY)), b ∉ fpo) /\ w.heap.size <= v3.heap.size) := ⟨HX.out, hu.base HLE.out, fun b hb hm => by have h1 := (HLO.out b hm); have h2 := (fpL_lt hu b hb).1; omega, by have := HX.out.1.1.size; omega⟩
    clear HX hu
    unfold clV
    go_wp2_with (at_builtin; refine wpList_append_crl rfl _ _ rfl w.heap.size (.slice va ln vc) LF fpo y (.slice pY y.revs.length qY) rfl _ rfl rfl H5.out.1.2.1 H5.out.2.1 H5.out.2.2.1 H5.out.2.2.2 (by have := HLN.out; omega) ?_)
    intro g9 cap9 w9 fp9 hO9 hb9
    have HD : Hid (∃ (l : List Cl) (fpo : List Nat), (((w.grownBy w9 (some c) /\ Cur B w9 c a0 len cap) /\ OwnS crlKd w9 w.heap.size (.slice (some ⟨g9, 0, none⟩) (ln + 1) cap9) l fpo /\ (∀ x ∈ l, MdL x))) /\ l.length = k + 1) := by
     refine ⟨LF ++ [y], fp9, ⟨⟨grow_below H5.out.1.1.1 hb9, H5.out.1.1.2.keptB hb9 HCW.out⟩, by first | exact hO9 | (have h := hO9; rw [List.length_append, hln] at h; exact h), md_snoc H5.out.1.2.2 HMY.out⟩, by rw [List.length_append]; have := HLN.out; show LF.length + 1 = k + 1; omega⟩
    clear hO9 hb9 H5
    go_wp2_with fail
    go_roundw
    case rel => exact ⟨k + 1, by omega, by go_num, HD.out⟩
    case measure => simp [intOf]; omega
  ·go_wp2_with fail
   go_ret
   exact ⟨_, LF, fpo, rfl, H1.out.2.1, by have := HLN.out; omega, H1.out.2.2, H1.out.1.2, H1.out.1.1⟩
theorem pub_small (i : Int) : (pubB i).size <= 15 := by
 by_cases h : 0 <= i /\ i < 6
 ·obtain ⟨n, rfl⟩ : ∃ n : Nat, i = (n : Int) := ⟨i.toNat, by omega⟩
  rw [pubB_size (by omega)]
  exact Nat.le_refl _
 ·unfold pubB
  rw [pubT_no h]
  have h0 : figL ByteArray.empty = digs 0 := rfl
  rw [h0, digs_zero]
  first | decide | decide +kernel
def OfPost (w : World) (e : Ending) (w' : World) : Prop := ∃ u l fp iss key time, e = .returned (.tuple #[u, .string iss, .string key, .int .i64 time]) /\ OwnS crlKd w' w.heap.size u l fp /\ (iss.size <= 100 /\ key.size <= 15) /\ l.length <= 5 /\ (∀ x ∈ l, MdL x) /\ Below w.heap.size w w'
def DlPost (w : World) (e : Ending) (w' : World) : Prop := ∃ u l fp v x, e = .returned (.tuple #[u, v]) /\ OwnS crlKd w' w.heap.size u l fp /\ OwnL w' w.heap.size v x /\ l.length <= 5 /\ (∀ x ∈ l, MdL x) /\ Below w.heap.size w w'
def SoPost (w : World) (e : Ending) (w' : World) : Prop := ∃ u l fp S time, e = .returned (.tuple #[u, .agg #[.int .i64 S, .string ⟨#[99, 97, 46, 111, 114, 103]⟩, .string ⟨#[]⟩, .int .i64 0, .int .i64 0, .string ⟨#[]⟩, .bool false, .int .i64 0, .int .i64 0, .slice none 0 0, .slice none 0 0, .slice none 0 0, .string ⟨#[]⟩], .string (pubB 1), .int .i64 time]) /\ OwnS crlKd w' w.heap.size u l fp /\ (0 <= S /\ S < 7) /\ l.length <= 5 /\ (∀ x ∈ l, MdL x) /\ Below w.heap.size w w'
def Cs (B : Nat) (w w1 W : World) (c : Nat) (a0 : Option Addr) (len cap : Nat) : Prop := (Below w.heap.size w w1 /\ w.heap.size <= c) /\ w1.grownBy W (some c) /\ Cur B W c a0 len cap
theorem Cs.draw {B : Nat} {w w1 W W' : World} {c : Nat} {a0 : Option Addr} {len cap : Nat} (h : Cs B w w1 W c a0 len cap) (hc : Cur B W' c a0 len cap) (hg : W.grownBy W' (some c)) : Cs B w w1 W' c a0 len cap := ⟨h.1, grownBy_trans h.2.1 hg, hc⟩
theorem Cs.on {B : Nat} {w w1 W W' : World} {c : Nat} {a0 : Option Addr} {len cap : Nat} (h : Cs B w w1 W c a0 len cap) (hb : Below W.heap.size W W') : Cs B w w1 W' c a0 len cap := ⟨h.1, grownBy_trans h.2.1 (grownBy_below' hb), h.2.2.kept hb⟩
theorem Cs.all {B : Nat} {w w1 W : World} {c : Nat} {a0 : Option Addr} {len cap : Nat} (h : Cs B w w1 W c a0 len cap) : Below w.heap.size w W := h.1.1.trans (grownBy_below h.2.1 h.1.2 h.1.1.size)
set_option maxHeartbeats 12800000 in
theorem drawCrlsOf_any (B : Nat) (w : World) (a0 : Option Addr) (len cap : Nat) (hl : len <= 1048576) (hB : B <= w.heap.size) (hcode : CodeAt B w a0 len) :
  Calls Tryz.prog 47 #[.slice a0 len cap] w fun e w' => OfPost w e w' := by
 have HN := l01New_any B w a0 len cap hl hB hcode
 clear hl hB hcode
 go_enter Tryz.func47, Tryz.ntmps47
 go_wp2_with fail
 refine HN.mono ?_
 rintro e w1 ⟨c, rfl, hC, hbw, hcw⟩
 have H1 : Hid (Cs B w w1 w1 c a0 len cap) := ⟨⟨hbw, hcw⟩, grownBy_refl _ _, hC⟩
 clear hC hbw hcw HN
 obtain ⟨VP, hVP⟩ : ∃ V, V = w1.alloc (Obj.cells #[.int .i64 1, .int .i64 1, .int .i64 1, .int .i64 2] 3) := ⟨_, rfl⟩
 have HP : Hid (Cs B w w1 VP c a0 len cap /\ w1.heap.size ≠ c) := ⟨H1.out.on (by rw [hVP]; exact (Below.refl _ _).alloc (Nat.le_refl _) _), by have := H1.out.2.2.lt; omega⟩
 have EP := l01PickInt_any w1.heap.size 4 4 B VP c a0 len cap (by decide) (by decide) HP.out.2 (by rw [hVP]; exact pickI w1 [1, 1, 1, 2] (by decide)) HP.out.1.2.2
 go_wp2_with fail
 rw [<- hVP]
 clear hVP
 refine EP.mono ?_
 rintro e w2 ⟨xk, hxk0, hxk1, rfl, hc, hg⟩
 have Hw2 : Hid (Cs B w w1 w2 c a0 len cap) := HP.out.1.draw hc hg
 clear hc hg EP HP H1
 go_wp2_with fail
 refine (specPublic_any xk w2 (by omega)).mono ?_
 rintro e w3 ⟨rfl, hb⟩
 have H3 : Hid (Cs B w w1 w3 c a0 len cap) := Hw2.out.on hb
 clear hb Hw2
 obtain ⟨key, hkey⟩ : ∃ q, pubB xk = q := ⟨_, rfl⟩
 have HKY : Hid (key.size <= 15) := by show _ <= _; rw [<- hkey]; exact pub_small xk
 rw [hkey]
 clear hkey
 obtain ⟨VP, hVP⟩ : ∃ V, V = w3.alloc (Obj.cells #[.int .i64 20, .int .i64 50, .int .i64 5, .int .i64 95] 3) := ⟨_, rfl⟩
 have HP : Hid (Cs B w w1 VP c a0 len cap /\ w3.heap.size ≠ c) := ⟨H3.out.on (by rw [hVP]; exact (Below.refl _ _).alloc (Nat.le_refl _) _), by have := H3.out.2.2.lt; omega⟩
 have EP := l01PickInt_any w3.heap.size 4 4 B VP c a0 len cap (by decide) (by decide) HP.out.2 (by rw [hVP]; exact pickI w3 [20, 50, 5, 95] (by decide)) HP.out.1.2.2
 go_wp2_with fail
 rw [<- hVP]
 clear hVP
 refine EP.mono ?_
 rintro e w4 ⟨xt, hxt0, hxt1, rfl, hc, hg⟩
 have Hw4 : Hid (Cs B w w1 w4 c a0 len cap) := HP.out.1.draw hc hg
 clear hc hg EP HP H3
 go_wp2_with fail
 refine (l11Crls_any B w4 c a0 len cap Hw4.out.2.2).mono ?_
 rintro e w5 ⟨u, l, fp, rfl, hO, hl5, hmd, hc, hg⟩
 have H5 : Hid (Cs B w w1 w5 c a0 len cap /\ OwnS crlKd w5 w4.heap.size u l fp /\ c < w4.heap.size) := ⟨Hw4.out.draw hc hg, hO, Hw4.out.2.2.lt⟩
 have HM : Hid (l.length <= 5 /\ ∀ x ∈ l, MdL x) := ⟨hl5, hmd⟩
 have HLE : Hid (w.heap.size <= w4.heap.size) := Hw4.out.all.size
 clear hO hl5 hmd hc hg Hw4
 obtain ⟨VT, hVT⟩ : ∃ V, V = w5.alloc (Obj.cells #[.string ⟨#[99, 97, 46, 111, 114, 103]⟩, .string ⟨#[99, 97, 46, 111, 114, 103]⟩, .string ⟨#[114, 111, 111, 116]⟩] 9) := ⟨_, rfl⟩
 have HP : Hid ((Cs B w w1 VT c a0 len cap /\ OwnS crlKd VT w4.heap.size u l fp) /\ w5.heap.size ≠ c) := by
  have hb : Below w5.heap.size w5 VT := by rw [hVT]; exact (Below.refl _ _).alloc (Nat.le_refl _) _
  exact ⟨⟨H5.out.1.on hb, H5.out.2.1.stays hb⟩, by have := H5.out.1.2.2.lt; omega⟩
 have EP := l01Pick_any w5.heap.size 3 3 B VT c a0 len cap (by decide) (by decide) HP.out.2 (by rw [hVT]; exact pickT w5 [⟨#[99, 97, 46, 111, 114, 103]⟩, ⟨#[99, 97, 46, 111, 114, 103]⟩, ⟨#[114, 111, 111, 116]⟩] (by decide)) HP.out.1.1.2.2
 go_wp2_with fail
 rw [<- hVT]
 clear hVT
 refine EP.mono ?_
 rintro e w6 ⟨iss, his, rfl, hc, hg⟩
 have H6 : Hid (Cs B w w1 w6 c a0 len cap /\ OwnS crlKd w6 w4.heap.size u l fp) := ⟨HP.out.1.1.draw hc hg, HP.out.1.2.grownC hg H5.out.2.2⟩
 clear hc hg EP HP H5
 go_wp2_with fail
 refine bodyPost_ret (v := .tuple #[u, .string iss, .string key, .int .i64 xt]) (by simp [results, Tryz.results47, go_sem]; try rfl) rfl ?_
 exact ⟨u, l, fp, iss, key, xt, rfl, H6.out.2.base HLE.out, ⟨his, HKY.out⟩, HM.out.1, HM.out.2, H6.out.1.all⟩
set_option maxHeartbeats 12800000 in
theorem drawDeltaOf_any (B : Nat) (w : World) (a0 : Option Addr) (len cap : Nat) (hl : len <= 1048576) (hB : B <= w.heap.size) (hcode : CodeAt B w a0 len) :
  Calls Tryz.prog 53 #[.slice a0 len cap] w fun e w' => DlPost w e w' := by
 obtain ⟨W0, hW0⟩ : ∃ V, V = w.alloc (Obj.cells #[.string ⟨#[]⟩, .int .i64 0, .int .i64 0, .int .i64 0, .int .i64 0, .slice none 0 0, .string ⟨#[]⟩] 49) := ⟨_, rfl⟩
 have H0 : Hid (Below w.heap.size w W0 /\ Blk W0 w.heap.size 49 #[.string ⟨#[]⟩, .int .i64 0, .int .i64 0, .int .i64 0, .int .i64 0, .slice none 0 0, .string ⟨#[]⟩]) := by rw [hW0]; exact ⟨(Below.refl _ _).alloc (Nat.le_refl _) _, Blk.new _ _ _⟩
 have HN := l01New_any B W0 a0 len cap hl (Nat.le_trans hB H0.out.1.size) (hcode.below (H0.out.1.mono hB))
 clear hl hB hcode
 go_enter Tryz.func53, Tryz.ntmps53
 go_upto_region 1 with fail
 rw [<- hW0]
 clear hW0
 go_wp2_with fail
 refine HN.mono ?_
 rintro e w1 ⟨c, rfl, hC, hbw, hcw⟩
 have H1 : Hid (Cs B w w1 w1 c a0 len cap /\ Blk w1 w.heap.size 49 #[.string ⟨#[]⟩, .int .i64 0, .int .i64 0, .int .i64 0, .int .i64 0, .slice none 0 0, .string ⟨#[]⟩] /\ w.heap.size < c) := ⟨⟨⟨H0.out.1.trans (hbw.mono H0.out.1.size), Nat.le_trans H0.out.1.size hcw⟩, grownBy_refl _ _, hC⟩, H0.out.2.below hbw H0.out.2.lt, Nat.lt_of_lt_of_le H0.out.2.lt hcw⟩
 clear hC hbw hcw HN H0
 go_wp2_with fail
 refine (l10Made_any ⟨#[99, 97, 46, 111, 114, 103]⟩ (by decide) 1 (by decide) B w1 c a0 len cap H1.out.1.2.2).mono ?_
 rintro e w2 ⟨u2, x, rfl, hu2, hmx, -, hc, hg⟩
 obtain ⟨pX, qX, huX⟩ := hu2.at.shape
 subst huX
 have H2 : Hid ((Cs B w w1 w2 c a0 len cap /\ Blk w2 w.heap.size 49 #[.string ⟨#[]⟩, .int .i64 0, .int .i64 0, .int .i64 0, .int .i64 0, .slice none 0 0, .string ⟨#[]⟩] /\ w.heap.size < c) /\ OwnL w2 w1.heap.size (clV x (.slice pX x.revs.length qX)) x /\ c < w1.heap.size) := ⟨⟨H1.out.1.draw hc hg, H1.out.2.1.grown hg (fun e => by have := Option.some.inj e; have := H1.out.2.2; omega), H1.out.2.2⟩, hu2, H1.out.1.2.2.lt⟩
 clear hu2 hmx hc hg H1
 unfold clV
 obtain ⟨V3, hV3⟩ : ∃ V, V = w2.alloc (Obj.cells #[.string x.issuer, .int .i64 x.num, .int .i64 x.ths, .int .i64 x.nxt, .int .i64 x.bas, .slice pX x.revs.length qX, .string x.sig] 49) := ⟨_, rfl⟩
 obtain ⟨gx, hgx⟩ : ∃ q, w2.heap.size = q := ⟨_, rfl⟩
 have H3 : Hid (((Cs B w w1 V3 c a0 len cap /\ Blk V3 w.heap.size 49 #[.string ⟨#[]⟩, .int .i64 0, .int .i64 0, .int .i64 0, .int .i64 0, .slice none 0 0, .string ⟨#[]⟩] /\ w.heap.size < c) /\ OwnL V3 w1.heap.size (clV x (.slice pX x.revs.length qX)) x /\ c < w1.heap.size) /\ Blk V3 gx 49 #[.string x.issuer, .int .i64 x.num, .int .i64 x.ths, .int .i64 x.nxt, .int .i64 x.bas, .slice pX x.revs.length qX, .string x.sig] /\ c < gx) := by
  have hb : Below w2.heap.size w2 V3 := by rw [hV3]; exact (Below.refl _ _).alloc (Nat.le_refl _) _
  exact ⟨⟨⟨H2.out.1.1.on hb, H2.out.1.2.1.below hb H2.out.1.2.1.lt, H2.out.1.2.2⟩, H2.out.2.1.stays hb, H2.out.2.2⟩, by rw [hV3, <- hgx]; exact Blk.new _ _ _, by rw [<- hgx]; exact H2.out.1.1.2.2.lt⟩
 go_upto_region 3 with fail
 try unfold clV at hV3
 rw [<- hV3]
 try rw [hgx]
 clear hV3 hgx H2
 have hDr : Below V3.heap.size V3 V3.drew := (Below.refl _ _).drew
 refine wp_region_held_drew (S := fun W => Blk W gx 49 #[.string x.issuer, .int .i64 x.num, .int .i64 x.ths, .int .i64 x.nxt, .int .i64 x.bas, .slice pX x.revs.length qX, .string x.sig]) (by kernel_rfl) (H3.out.2.1.below hDr H3.out.2.1.lt) (fun hHeld => ?_)
 have H4 : Hid (((Cs B w w1 V3.drew c a0 len cap /\ Blk V3.drew w.heap.size 49 #[.string ⟨#[]⟩, .int .i64 0, .int .i64 0, .int .i64 0, .int .i64 0, .slice none 0 0, .string ⟨#[]⟩] /\ w.heap.size < c) /\ OwnL V3.drew w1.heap.size (clV x (.slice pX x.revs.length qX)) x /\ c < w1.heap.size) /\ c < gx) := ⟨⟨⟨H3.out.1.1.1.on hDr, H3.out.1.1.2.1.below hDr H3.out.1.1.2.1.lt, H3.out.1.1.2.2⟩, H3.out.1.2.1.stays hDr, H3.out.1.2.2⟩, H3.out.2.2⟩
 have HGX : Hid (w.heap.size < gx) := by show _ < _; have := H3.out.1.1.2.2; have := H3.out.2.2; omega
 have HWD : Hid (w.heap.size < V3.drew.heap.size) := by show _ < _; have := H4.out.1.1.2.1.lt; omega
 clear H3 hDr
 generalize V3.drew = wd at *
 refine zT 0 10 ?_ rfl (by kernel_rfl) (by kernel_rfl) (by kernel_rfl) (fun _ _ _ h => h) (by rfl) ?_ hHeld ?_
 rotate_left
 ·intro W hSw
  go_simp
  try with_reducible rfl
 try simp only [Act.put, zA, zB, zC]
 refine zT 2 12 ?_ rfl (by kernel_rfl) (by kernel_rfl) (by kernel_rfl) (fun _ _ _ h => h) (by rfl) ?_ hHeld ?_
 rotate_left
 ·intro W hSw
  have e0 : W.cell? ⟨gx, 0, none⟩ = some (.string x.issuer) := hSw.cell 0
  have e1 : W.cell? ⟨gx, 1, none⟩ = some (.int .i64 x.num) := hSw.cell 1
  have e2 : W.cell? ⟨gx, 2, none⟩ = some (.int .i64 x.ths) := hSw.cell 2
  have e3 : W.cell? ⟨gx, 3, none⟩ = some (.int .i64 x.nxt) := hSw.cell 3
  have e4 : W.cell? ⟨gx, 4, none⟩ = some (.int .i64 x.bas) := hSw.cell 4
  have e5 : W.cell? ⟨gx, 5, none⟩ = some (.slice pX x.revs.length qX) := hSw.cell 5
  have e6 : W.cell? ⟨gx, 6, none⟩ = some (.string x.sig) := hSw.cell 6
  go_simp
  try with_reducible rfl
 try simp only [Act.put, zA, zB, zC]
 refine wpAnyH_ready (rs := [1]) (by kernel_rfl) (by simp) ?_
 refine AllReadyH.cons (o := ⟨some 11, _, _, _, _, _⟩) rfl (fun K hK => ?_) AllReadyH.nil
 go_simp
 refine (l11Crls_any B wd c a0 len cap H4.out.1.1.1.2.2).mono ?_
 rintro e w5 ⟨u, l, fp, rfl, hO, hl5, hmd, hc, hg⟩
 have hS5 : Blk w5 gx 49 #[.string x.issuer, .int .i64 x.num, .int .i64 x.ths, .int .i64 x.nxt, .int .i64 x.bas, .slice pX x.revs.length qX, .string x.sig] := hHeld.grown hg (fun e => by have := Option.some.inj e; have := H4.out.2; omega)
 have H5 : Hid ((Cs B w w1 w5 c a0 len cap /\ Blk w5 w.heap.size 49 #[.string ⟨#[]⟩, .int .i64 0, .int .i64 0, .int .i64 0, .int .i64 0, .slice none 0 0, .string ⟨#[]⟩]) /\ OwnL w5 w1.heap.size (clV x (.slice pX x.revs.length qX)) x /\ OwnS crlKd w5 wd.heap.size u l fp) := by
  refine ⟨⟨H4.out.1.1.1.draw hc hg, H4.out.1.1.2.1.grown hg (fun e => by have := Option.some.inj e; have := H4.out.1.1.2.2; omega)⟩, ?_, hO⟩
  refine OwnL.same H4.out.1.2.1 fun b hb => hg.block b (fpL_lt H4.out.1.2.1 b hb).2 (fun e => ?_)
  have := Option.some.inj e
  have := (fpL_lt H4.out.1.2.1 b hb).1
  have := H4.out.1.2.2
  omega
 have HM : Hid ((l.length <= 5 /\ ∀ x ∈ l, MdL x) /\ w.heap.size <= wd.heap.size /\ w.heap.size < w1.heap.size) := ⟨⟨hl5, hmd⟩, H4.out.1.1.1.all.size, by have := H4.out.1.1.2.2; have := H4.out.1.2.2; omega⟩
 clear hO hl5 hmd hc hg H4
 refine hK.out _ _ hS5 (fun hHeld => ?_)
 clear hK K hS5
 try simp only [Act.put, zA, zB, zC]
 refine zT 3 2 ?_ rfl (by kernel_rfl) (by kernel_rfl) (by kernel_rfl) (fun _ _ _ h => h) (by rfl) ?_ hHeld ?_
 rotate_left
 ·intro W hSw
  go_simp
  try with_reducible rfl
 try simp only [Act.put, zA, zB, zC]
 refine wpAnyH_ready (rs := [4]) (by kernel_rfl) (by simp) ?_
 refine AllReadyH.cons (o := ⟨none, _, _, _, _, _⟩) rfl (fun K hK => ?_) AllReadyH.nil
 have r0 : w5.cell? ⟨w.heap.size, 0, none⟩ = some (.string ⟨#[]⟩) := H5.out.1.2.cell 0
 have r1 : w5.cell? ⟨w.heap.size, 1, none⟩ = some (.int .i64 0) := H5.out.1.2.cell 1
 have r2 : w5.cell? ⟨w.heap.size, 2, none⟩ = some (.int .i64 0) := H5.out.1.2.cell 2
 have r3 : w5.cell? ⟨w.heap.size, 3, none⟩ = some (.int .i64 0) := H5.out.1.2.cell 3
 have r4 : w5.cell? ⟨w.heap.size, 4, none⟩ = some (.int .i64 0) := H5.out.1.2.cell 4
 have r5 : w5.cell? ⟨w.heap.size, 5, none⟩ = some (.slice none 0 0) := H5.out.1.2.cell 5
 have r6 : w5.cell? ⟨w.heap.size, 6, none⟩ = some (.string ⟨#[]⟩) := H5.out.1.2.cell 6
 have rf := fun i => H5.out.1.2.free i
 go_simp
 generalize hV : World.setCell _ { block := w.heap.size, off := 6 } (Value.string x.sig) = V
 have FIN : Out [w.heap.size] w5 V /\ Blk V w.heap.size 49 #[.string x.issuer, .int .i64 x.num, .int .i64 x.ths, .int .i64 x.nxt, .int .i64 x.bas, .slice pX x.revs.length qX, .string x.sig] := by
  rw [<- hV]
  refine ⟨?_, ?_⟩
  ·iterate 7 refine Out.setCell ?_ _ _ (by simp)
   exact Out.refl _ _
  ·exact set7 H5.out.1.2
 clear hV rf r0 r1 r2 r3 r4 r5 r6
 have hgne : gx ≠ w.heap.size := by have := HGX.out; omega
 refine hK.out _ _ (hHeld.outX FIN.1 (by simp [hgne])) (fun hHeld => ?_)
 clear hK K
 try simp only [Act.put, zA, zB, zC]
 refine wpAnyH_done (by kernel_rfl) ?_ _
 have HF : Hid ((Below w.heap.size w V /\ Blk V w.heap.size 49 #[.string x.issuer, .int .i64 x.num, .int .i64 x.ths, .int .i64 x.nxt, .int .i64 x.bas, .slice pX x.revs.length qX, .string x.sig]) /\ OwnL V w.heap.size (clV x (.slice pX x.revs.length qX)) x /\ OwnS crlKd V w.heap.size u l fp) := by
  refine ⟨⟨H5.out.1.1.all.trans (FIN.1.below (fun b hb => by rw [List.mem_singleton.1 hb]; exact Nat.le_refl _) H5.out.1.1.all.size), FIN.2⟩, (OwnL.out H5.out.2.1 FIN.1 (fun b hb hm => ?_)).base (by have := HM.out.2.2; omega), (OwnS.out H5.out.2.2 FIN.1 (fun b hb hm => ?_)).base HM.out.2.1⟩
  ·have h1 := (fpL_lt H5.out.2.1 b hb).1
   have h2 := List.mem_singleton.1 hm
   have h3 := HM.out.2.2
   omega
  ·have h1 := (H5.out.2.2.lt b hb).1
   have h2 := List.mem_singleton.1 hm
   have h3 := HWD.out
   omega
 clear FIN H5 hHeld hgne
 have r0 : V.cell? ⟨w.heap.size, 0, none⟩ = some (.string x.issuer) := HF.out.1.2.cell 0
 have r1 : V.cell? ⟨w.heap.size, 1, none⟩ = some (.int .i64 x.num) := HF.out.1.2.cell 1
 have r2 : V.cell? ⟨w.heap.size, 2, none⟩ = some (.int .i64 x.ths) := HF.out.1.2.cell 2
 have r3 : V.cell? ⟨w.heap.size, 3, none⟩ = some (.int .i64 x.nxt) := HF.out.1.2.cell 3
 have r4 : V.cell? ⟨w.heap.size, 4, none⟩ = some (.int .i64 x.bas) := HF.out.1.2.cell 4
 have r5 : V.cell? ⟨w.heap.size, 5, none⟩ = some (.slice pX x.revs.length qX) := HF.out.1.2.cell 5
 have r6 : V.cell? ⟨w.heap.size, 6, none⟩ = some (.string x.sig) := HF.out.1.2.cell 6
 go_wp2_with fail
 refine bodyPost_ret (v := .tuple #[u, .agg #[.string x.issuer, .int .i64 x.num, .int .i64 x.ths, .int .i64 x.nxt, .int .i64 x.bas, .slice pX x.revs.length qX, .string x.sig]]) (by simp [results, Tryz.results53, go_sem, r0, r1, r2, r3, r4, r5, r6]; try rfl) rfl ?_
 exact ⟨u, l, fp, _, x, rfl, HF.out.2.2, HF.out.2.1, HM.out.1.1, HM.out.1.2, HF.out.1.1⟩
end Go.Proofs.YtjgbmnhoajiabaaGreatDoor
