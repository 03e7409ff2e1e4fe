/-
  Texts of the proof.
-/
import Derived.Laws.StructEq
import Derived.Test.YtjgbmnhoajiabaaGreatDoorSR46
import Derived.Test.YtjgbmnhoajiabaaGreatDoorSR51
set_option maxRecDepth 100000
namespace Go.Proofs.YtjgbmnhoajiabaaGreatDoor
open Go.RowKit Der
set_option linter.unusedVariables false
set_option linter.unusedSimpArgs false
set_option maxHeartbeats 12800000 in
theorem drawStatusOf_any (B : Nat) (w : World) (a0 : Option Addr) (len cap : Nat) (hl : len <= 1048576) (hB : B <= w.heap.size) (hcode : CodeAt B w a0 len) :
  Calls Tryz.prog 50 #[.slice a0 len cap] w fun e w' => SoPost w e w' := by
 obtain ⟨W0, hW0⟩ : ∃ V, V = w.alloc (Obj.cells #[.int .i64 0, .string ⟨#[]⟩, .string ⟨#[]⟩, .int .i64 0, .int .i64 0, .string ⟨#[]⟩, .bool false, .int .i64 0, .int .i64 0, .slice none 0 0, .slice none 0 0, .slice none 0 0, .string ⟨#[]⟩] 27) := ⟨_, rfl⟩
 have H0 : Hid (Below w.heap.size w W0 /\ Blk W0 w.heap.size 27 #[.int .i64 0, .string ⟨#[]⟩, .string ⟨#[]⟩, .int .i64 0, .int .i64 0, .string ⟨#[]⟩, .bool false, .int .i64 0, .int .i64 0, .slice none 0 0, .slice none 0 0, .slice none 0 0, .string ⟨#[]⟩]) := by rw [hW0]; exact ⟨(Below.refl _ _).alloc (Nat.le_refl _) _, Blk.new _ _ _⟩
 have HN := l01New_any B W0 a0 len cap hl (Nat.le_trans hB H0.out.1.size) (hcode.below (H0.out.1.mono hB))
 clear hl hB hcode
 go_enter Tryz.func50, Tryz.ntmps50
 go_upto_region 1 with fail
 rw [<- hW0]
 clear hW0
 go_wp2_with fail
 refine HN.mono ?_
 rintro e w1 ⟨c, rfl, hC, hbw, hcw⟩
 have HR1 : Hid (Blk w1 w.heap.size 27 #[.int .i64 0, .string ⟨#[]⟩, .string ⟨#[]⟩, .int .i64 0, .int .i64 0, .string ⟨#[]⟩, .bool false, .int .i64 0, .int .i64 0, .slice none 0 0, .slice none 0 0, .slice none 0 0, .string ⟨#[]⟩] /\ w.heap.size < c) := ⟨H0.out.2.below hbw H0.out.2.lt, Nat.lt_of_lt_of_le H0.out.2.lt hcw⟩
 have H1 : Hid (Cs B w w1 w1 c a0 len cap) := ⟨⟨H0.out.1.trans (hbw.mono H0.out.1.size), Nat.le_trans H0.out.1.size hcw⟩, grownBy_refl _ _, hC⟩
 have HRX : Hid (∀ W, w1.grownBy W (some c) -> Blk W w.heap.size 27 #[.int .i64 0, .string ⟨#[]⟩, .string ⟨#[]⟩, .int .i64 0, .int .i64 0, .string ⟨#[]⟩, .bool false, .int .i64 0, .int .i64 0, .slice none 0 0, .slice none 0 0, .slice none 0 0, .string ⟨#[]⟩]) := fun W hg => HR1.out.1.grown hg (fun e => by have := Option.some.inj e; have := HR1.out.2; omega)
 have HCL : Hid (c < w1.heap.size) := hC.lt
 clear hC hbw hcw HN H0
 obtain ⟨VP, hVP⟩ : ∃ V, V = w1.alloc (Obj.cells #[.int .i64 20, .int .i64 20, .int .i64 50, .int .i64 5] 3) := ⟨_, rfl⟩
 have HP : Hid (Cs B w w1 VP c a0 len cap /\ w1.heap.size ≠ c) := ⟨H1.out.on (by rw [hVP]; exact (Below.refl _ _).alloc (Nat.le_refl _) _), by have := H1.out.2.2.lt; omega⟩
 have EP := l01PickInt_any w1.heap.size 4 4 B VP c a0 len cap (by decide) (by decide) HP.out.2 (by rw [hVP]; exact pickI w1 [20, 20, 50, 5] (by decide)) HP.out.1.2.2
 go_wp2_with fail
 rw [<- hVP]
 clear hVP
 refine EP.mono ?_
 rintro e w2 ⟨xt, hxt0, hxt1, rfl, hc, hg⟩
 have Hw2 : Hid (Cs B w w1 w2 c a0 len cap) := HP.out.1.draw hc hg
 clear hc hg EP HP H1
 go_wp2_with fail
 refine (l01Below_any 7 B w2 c a0 len cap (by decide) Hw2.out.2.2).mono ?_
 rintro e w3 ⟨S, hS0, hS1, -, rfl, hc, hg⟩
 have hS7 : S < 7 := hS1 (by decide)
 have H3 : Hid (Cs B w w1 w3 c a0 len cap) := Hw2.out.draw hc hg
 clear hc hg Hw2 hS1
 obtain ⟨V3, hV3⟩ : ∃ V, V = w3.alloc (Obj.cells #[.int .i64 S, .string ⟨#[99, 97, 46, 111, 114, 103]⟩, .string ⟨#[]⟩, .int .i64 0, .int .i64 0, .string ⟨#[]⟩, .bool false, .int .i64 0, .int .i64 0, .slice none 0 0, .slice none 0 0, .slice none 0 0, .string ⟨#[]⟩] 27) := ⟨_, rfl⟩
 obtain ⟨gx, hgx⟩ : ∃ q, w3.heap.size = q := ⟨_, rfl⟩
 have H4 : Hid (Cs B w w1 V3 c a0 len cap /\ Blk V3 gx 27 #[.int .i64 S, .string ⟨#[99, 97, 46, 111, 114, 103]⟩, .string ⟨#[]⟩, .int .i64 0, .int .i64 0, .string ⟨#[]⟩, .bool false, .int .i64 0, .int .i64 0, .slice none 0 0, .slice none 0 0, .slice none 0 0, .string ⟨#[]⟩] /\ c < gx /\ w.heap.size < gx) := by
  have hb : Below w3.heap.size w3 V3 := by rw [hV3]; exact (Below.refl _ _).alloc (Nat.le_refl _) _
  have h1 := H3.out.2.2.lt
  have h2 := HR1.out.2
  exact ⟨H3.out.on hb, by rw [hV3, <- hgx]; exact Blk.new _ _ _, by omega, by omega⟩
 go_upto_region 4 with fail
 rw [<- hV3]
 try rw [hgx]
 clear hV3 hgx H3
 have hDr : Below V3.heap.size V3 V3.drew := (Below.refl _ _).drew
 refine wp_region_held_drew (S := fun W => Blk W gx 27 #[.int .i64 S, .string ⟨#[99, 97, 46, 111, 114, 103]⟩, .string ⟨#[]⟩, .int .i64 0, .int .i64 0, .string ⟨#[]⟩, .bool false, .int .i64 0, .int .i64 0, .slice none 0 0, .slice none 0 0, .slice none 0 0, .string ⟨#[]⟩]) (by kernel_rfl) (H4.out.2.1.below hDr H4.out.2.1.lt) (fun hHeld => ?_)
 have H5 : Hid (Cs B w w1 V3.drew c a0 len cap /\ c < gx /\ w.heap.size < gx) := ⟨H4.out.1.on hDr, H4.out.2.2⟩
 clear H4 hDr
 generalize V3.drew = wd at *
 refine zT 0 17 ?_ rfl (by kernel_rfl) (by kernel_rfl) (by kernel_rfl) (fun _ _ _ h => h) (by rfl) ?_ hHeld ?_
 rotate_left
 ·intro W hSw
  go_simp
  try with_reducible rfl
 try simp only [Act.put, zA, zB, zC]
 refine zT 2 19 ?_ rfl (by kernel_rfl) (by kernel_rfl) (by kernel_rfl) (fun _ _ _ h => h) (by rfl) ?_ hHeld ?_
 rotate_left
 ·intro W hSw
  have e0 : W.cell? ⟨gx, 0, none⟩ = some (.int .i64 S) := hSw.cell 0
  have e1 : W.cell? ⟨gx, 1, none⟩ = some (.string ⟨#[99, 97, 46, 111, 114, 103]⟩) := hSw.cell 1
  have e2 : W.cell? ⟨gx, 2, none⟩ = some (.string ⟨#[]⟩) := hSw.cell 2
  have e3 : W.cell? ⟨gx, 3, none⟩ = some (.int .i64 0) := hSw.cell 3
  have e4 : W.cell? ⟨gx, 4, none⟩ = some (.int .i64 0) := hSw.cell 4
  have e5 : W.cell? ⟨gx, 5, none⟩ = some (.string ⟨#[]⟩) := hSw.cell 5
  have e6 : W.cell? ⟨gx, 6, none⟩ = some (.bool false) := hSw.cell 6
  have e7 : W.cell? ⟨gx, 7, none⟩ = some (.int .i64 0) := hSw.cell 7
  have e8 : W.cell? ⟨gx, 8, none⟩ = some (.int .i64 0) := hSw.cell 8
  have e9 : W.cell? ⟨gx, 9, none⟩ = some (.slice none 0 0) := hSw.cell 9
  have e10 : W.cell? ⟨gx, 10, none⟩ = some (.slice none 0 0) := hSw.cell 10
  have e11 : W.cell? ⟨gx, 11, none⟩ = some (.slice none 0 0) := hSw.cell 11
  have e12 : W.cell? ⟨gx, 12, none⟩ = some (.string ⟨#[]⟩) := hSw.cell 12
  go_simp
  try with_reducible rfl
 try simp only [Act.put, zA, zB, zC]
 refine zT 4 21 ?_ rfl (by kernel_rfl) (by kernel_rfl) (by kernel_rfl) (fun _ _ _ h => h) (by rfl) ?_ hHeld ?_
 rotate_left
 ·intro W hSw
  go_simp
  try with_reducible rfl
 try simp only [Act.put, zA, zB, zC]
 refine wpAnyH_ready (rs := [1]) (by kernel_rfl) (by simp) ?_
 refine AllReadyH.cons (o := ⟨some 18, _, _, _, _, _⟩) rfl (fun K hK => ?_) AllReadyH.nil
 go_simp
 refine (l11Crls_any B wd c a0 len cap H5.out.1.2.2).mono ?_
 rintro e w5 ⟨u, l, fp, rfl, hO, hl5, hmd, hc, hg⟩
 have hS5 : Blk w5 gx 27 #[.int .i64 S, .string ⟨#[99, 97, 46, 111, 114, 103]⟩, .string ⟨#[]⟩, .int .i64 0, .int .i64 0, .string ⟨#[]⟩, .bool false, .int .i64 0, .int .i64 0, .slice none 0 0, .slice none 0 0, .slice none 0 0, .string ⟨#[]⟩] := hHeld.grown hg (fun e => by have := Option.some.inj e; have := H5.out.2; omega)
 have H6 : Hid (Cs B w w1 w5 c a0 len cap /\ OwnS crlKd w5 wd.heap.size u l fp) := ⟨H5.out.1.draw hc hg, hO⟩
 have HM : Hid ((l.length <= 5 /\ ∀ x ∈ l, MdL x) /\ w.heap.size < wd.heap.size /\ w.heap.size < gx) := ⟨⟨hl5, hmd⟩, by have := H5.out.1.2.2.lt; have := HR1.out.2; omega, H5.out.2.2⟩
 clear hO hl5 hmd hc hg H5
 refine hK.out _ _ hS5 (fun hHeld => ?_)
 clear hK K hS5
 try simp only [Act.put, zA, zB, zC]
 refine wpAnyH_ready (rs := [3]) (by kernel_rfl) (by simp) ?_
 refine AllReadyH.cons (o := ⟨some 20, _, _, _, _, _⟩) rfl (fun K hK => ?_) AllReadyH.nil
 go_simp
 refine (specPublic_any 1 w5 (by decide)).mono ?_
 rintro e w6 ⟨rfl, hb⟩
 have hS6 : Blk w6 gx 27 #[.int .i64 S, .string ⟨#[99, 97, 46, 111, 114, 103]⟩, .string ⟨#[]⟩, .int .i64 0, .int .i64 0, .string ⟨#[]⟩, .bool false, .int .i64 0, .int .i64 0, .slice none 0 0, .slice none 0 0, .slice none 0 0, .string ⟨#[]⟩] := hHeld.below hb hHeld.lt
 have H7 : Hid ((Cs B w w1 w6 c a0 len cap /\ OwnS crlKd w6 wd.heap.size u l fp) /\ Blk w6 w.heap.size 27 #[.int .i64 0, .string ⟨#[]⟩, .string ⟨#[]⟩, .int .i64 0, .int .i64 0, .string ⟨#[]⟩, .bool false, .int .i64 0, .int .i64 0, .slice none 0 0, .slice none 0 0, .slice none 0 0, .string ⟨#[]⟩]) := ⟨⟨H6.out.1.on hb, H6.out.2.stays hb⟩, HRX.out _ (H6.out.1.on hb).2.1⟩
 clear hb H6
 refine hK.out _ _ hS6 (fun hHeld => ?_)
 clear hK K hS6
 try simp only [Act.put, zA, zB, zC]
 obtain ⟨key, hkey⟩ : ∃ q, pubB 1 = q := ⟨_, rfl⟩
 have HKY : Hid (pubB 1 = key) := hkey
 rw [hkey]
 clear hkey
 refine zT 5 2 ?_ rfl (by kernel_rfl) (by kernel_rfl) (by kernel_rfl) (fun _ _ _ h => h) (by rfl) ?_ hHeld ?_
 rotate_left
 ·intro W hSw
  go_simp
  try with_reducible rfl
 try simp only [Act.put, zA, zB, zC]
 refine wpAnyH_ready (rs := [6]) (by kernel_rfl) (by simp) ?_
 refine AllReadyH.cons (o := ⟨none, _, _, _, _, _⟩) rfl (fun K hK => ?_) AllReadyH.nil
 have r0 : w6.cell? ⟨w.heap.size, 0, none⟩ = some (.int .i64 0) := H7.out.2.cell 0
 have r1 : w6.cell? ⟨w.heap.size, 1, none⟩ = some (.string ⟨#[]⟩) := H7.out.2.cell 1
 have r2 : w6.cell? ⟨w.heap.size, 2, none⟩ = some (.string ⟨#[]⟩) := H7.out.2.cell 2
 have r3 : w6.cell? ⟨w.heap.size, 3, none⟩ = some (.int .i64 0) := H7.out.2.cell 3
 have r4 : w6.cell? ⟨w.heap.size, 4, none⟩ = some (.int .i64 0) := H7.out.2.cell 4
 have r5 : w6.cell? ⟨w.heap.size, 5, none⟩ = some (.string ⟨#[]⟩) := H7.out.2.cell 5
 have r6 : w6.cell? ⟨w.heap.size, 6, none⟩ = some (.bool false) := H7.out.2.cell 6
 have r7 : w6.cell? ⟨w.heap.size, 7, none⟩ = some (.int .i64 0) := H7.out.2.cell 7
 have r8 : w6.cell? ⟨w.heap.size, 8, none⟩ = some (.int .i64 0) := H7.out.2.cell 8
 have r9 : w6.cell? ⟨w.heap.size, 9, none⟩ = some (.slice none 0 0) := H7.out.2.cell 9
 have r10 : w6.cell? ⟨w.heap.size, 10, none⟩ = some (.slice none 0 0) := H7.out.2.cell 10
 have r11 : w6.cell? ⟨w.heap.size, 11, none⟩ = some (.slice none 0 0) := H7.out.2.cell 11
 have r12 : w6.cell? ⟨w.heap.size, 12, none⟩ = some (.string ⟨#[]⟩) := H7.out.2.cell 12
 have rf := fun i => H7.out.2.free i
 go_simp
 generalize hV : World.setCell _ { block := w.heap.size, off := 12 } (Value.string ⟨#[]⟩) = V
 have FIN : Out [w.heap.size] w6 V /\ Blk V w.heap.size 27 #[.int .i64 S, .string ⟨#[99, 97, 46, 111, 114, 103]⟩, .string ⟨#[]⟩, .int .i64 0, .int .i64 0, .string ⟨#[]⟩, .bool false, .int .i64 0, .int .i64 0, .slice none 0 0, .slice none 0 0, .slice none 0 0, .string ⟨#[]⟩] := by
  rw [<- hV]
  refine ⟨?_, ?_⟩
  ·iterate 13 refine Out.setCell ?_ _ _ (by simp)
   exact Out.refl _ _
  ·exact set13 H7.out.2
 clear hV rf r0 r1 r2 r3 r4 r5 r6 r7 r8 r9 r10 r11 r12
 have hgne : gx ≠ w.heap.size := by have := HM.out.2.2; omega
 refine hK.out _ _ (hHeld.outX FIN.1 (by simp [hgne])) (fun hHeld => ?_)
 clear hK K
 try simp only [Act.put, zA, zB, zC]
 refine zT 7 4 ?_ rfl (by kernel_rfl) (by kernel_rfl) (by kernel_rfl) (fun _ _ _ h => h) (by rfl) ?_ hHeld ?_
 rotate_left
 ·intro W hSw
  go_simp
  try with_reducible rfl
 try simp only [Act.put, zA, zB, zC]
 refine zT 8 5 ?_ rfl (by kernel_rfl) (by kernel_rfl) (by kernel_rfl) (fun _ _ _ h => h) (by rfl) ?_ hHeld ?_
 rotate_left
 ·intro W hSw
  go_simp
  try with_reducible rfl
 try simp only [Act.put, zA, zB, zC]
 refine wpAnyH_done (by kernel_rfl) ?_ _
 have HF : Hid ((Below w.heap.size w V /\ Blk V w.heap.size 27 #[.int .i64 S, .string ⟨#[99, 97, 46, 111, 114, 103]⟩, .string ⟨#[]⟩, .int .i64 0, .int .i64 0, .string ⟨#[]⟩, .bool false, .int .i64 0, .int .i64 0, .slice none 0 0, .slice none 0 0, .slice none 0 0, .string ⟨#[]⟩]) /\ OwnS crlKd V w.heap.size u l fp) := by
  refine ⟨⟨H7.out.1.1.all.trans (FIN.1.below (fun b hb => by rw [List.mem_singleton.1 hb]; exact Nat.le_refl _) H7.out.1.1.all.size), FIN.2⟩, (OwnS.out H7.out.1.2 FIN.1 (fun b hb hm => ?_)).base (by have := HM.out.2.1; omega)⟩
  have h1 := (H7.out.1.2.lt b hb).1
  have h2 := List.mem_singleton.1 hm
  have h3 := HM.out.2.1
  omega
 clear FIN H7 hHeld hgne
 have r0 : V.cell? ⟨w.heap.size, 0, none⟩ = some (.int .i64 S) := HF.out.1.2.cell 0
 have r1 : V.cell? ⟨w.heap.size, 1, none⟩ = some (.string ⟨#[99, 97, 46, 111, 114, 103]⟩) := HF.out.1.2.cell 1
 have r2 : V.cell? ⟨w.heap.size, 2, none⟩ = some (.string ⟨#[]⟩) := HF.out.1.2.cell 2
 have r3 : V.cell? ⟨w.heap.size, 3, none⟩ = some (.int .i64 0) := HF.out.1.2.cell 3
 have r4 : V.cell? ⟨w.heap.size, 4, none⟩ = some (.int .i64 0) := HF.out.1.2.cell 4
 have r5 : V.cell? ⟨w.heap.size, 5, none⟩ = some (.string ⟨#[]⟩) := HF.out.1.2.cell 5
 have r6 : V.cell? ⟨w.heap.size, 6, none⟩ = some (.bool false) := HF.out.1.2.cell 6
 have r7 : V.cell? ⟨w.heap.size, 7, none⟩ = some (.int .i64 0) := HF.out.1.2.cell 7
 have r8 : V.cell? ⟨w.heap.size, 8, none⟩ = some (.int .i64 0) := HF.out.1.2.cell 8
 have r9 : V.cell? ⟨w.heap.size, 9, none⟩ = some (.slice none 0 0) := HF.out.1.2.cell 9
 have r10 : V.cell? ⟨w.heap.size, 10, none⟩ = some (.slice none 0 0) := HF.out.1.2.cell 10
 have r11 : V.cell? ⟨w.heap.size, 11, none⟩ = some (.slice none 0 0) := HF.out.1.2.cell 11
 have r12 : V.cell? ⟨w.heap.size, 12, none⟩ = some (.string ⟨#[]⟩) := HF.out.1.2.cell 12
 go_wp2_with fail
 refine bodyPost_ret (v := .tuple #[u, .agg #[.int .i64 S, .string ⟨#[99, 97, 46, 111, 114, 103]⟩, .string ⟨#[]⟩, .int .i64 0, .int .i64 0, .string ⟨#[]⟩, .bool false, .int .i64 0, .int .i64 0, .slice none 0 0, .slice none 0 0, .slice none 0 0, .string ⟨#[]⟩], .string key, .int .i64 xt]) (by simp [results, Tryz.results50, go_sem, r0, r1, r2, r3, r4, r5, r6, r7, r8, r9, r10, r11, r12]; try rfl) rfl ?_
 exact ⟨u, l, fp, S, xt, by rw [HKY.out], HF.out.2, ⟨hS0, hS7⟩, HM.out.1.1, HM.out.1.2, HF.out.1.1⟩
end Go.Proofs.YtjgbmnhoajiabaaGreatDoor
namespace Go.Proofs.YtjgbmnhoajiabaaGreatDoor
open Go.RowKit
set_option linter.unusedVariables false
set_option linter.unusedSimpArgs false
theorem revFields : Tryz.prog.underlying 161 = some (.struct (Tryz.prog.fieldsOf 161)) := by kernel_rfl
theorem revStood : Tryz.prog.stoodInHeld 161 = false := by kernel_rfl
theorem revGuard : Tryz.prog.eqGuardType Tryz.prog.depth 161 = false := by kernel_rfl
theorem run_guardRev (x y : Operand) (xs ys : Array Value) (w : World) : Sem.run Tryz.prog (eqGuard .neq 161 x y (.agg xs) (.agg ys)) w = .ok () w := run_eqGuard_agg w .neq 161 x y xs ys revGuard
theorem neqRev (s r : Int) (w : World) : Sem.run Tryz.prog (binOp .neq 161 (.agg #[.int .i64 s, .int .i64 r]) (.agg #[.int .i64 s, .int .i64 r])) w = .ok (.bool false) w := by
 have hf : (Tryz.prog.fieldsOf 161).toList = [⟨"Serial", 3, 0, false, "", "", 0⟩, ⟨"Reason", 3, 1, false, "", "", 8⟩] := by kernel_rfl
 rw [run_neq_struct, run_equalIn_agg w 9999 161 _ _ revFields revStood, hf]
 simp [Op.eqFields, go_sem]
set_option maxHeartbeats 12800000 in
theorem sameCrl_same (c : Cl) (a b : Value) (w : World) (hl : c.revs.length <= 1000000) (ha : ClAt w a c) (hb : ClAt w b c) :
  Calls Tryz.prog 41 #[a, b] w fun e w' => e = .returned (.bool true) /\ Below w.heap.size w w' := by
 obtain ⟨m, hm⟩ : ∃ m, c.revs.length = m := ⟨_, rfl⟩
 obtain ⟨p1, q1, h1⟩ := ha.shape
 obtain ⟨p2, q2, h2⟩ := hb.shape
 rw [hm] at h1 h2 hl
 subst h1 h2
 have HR : Hid ((RevAt w (.slice p1 m q1) c.revs /\ RevAt w (.slice p2 m q2) c.revs) /\ c.revs.length = m) := by
  obtain ⟨x1, e1, r1⟩ := ha
  obtain ⟨x2, e2, r2⟩ := hb
  have hx1 : x1 = .slice p1 m q1 := by
   unfold clV at e1
   injection e1 with e1
   have := congrArg (fun a : Array Value => a[5]?) e1
   simpa using this.symm
  have hx2 : x2 = .slice p2 m q2 := by
   unfold clV at e2
   injection e2 with e2
   have := congrArg (fun a : Array Value => a[5]?) e2
   simpa using this.symm
  rw [hx1] at r1
  rw [hx2] at r2
  exact ⟨⟨r1, r2⟩, hm⟩
 clear ha hb hm
 unfold clV
 obtain ⟨W0, hW0⟩ : ∃ V, V = w.alloc (Obj.cells #[.string c.issuer, .int .i64 c.num, .int .i64 c.ths, .int .i64 c.nxt, .int .i64 c.bas, .slice p1 m q1, .string c.sig] 49) := ⟨_, rfl⟩
 obtain ⟨W1, hW1⟩ : ∃ V, V = W0.alloc (Obj.cells #[.string c.issuer, .int .i64 c.num, .int .i64 c.ths, .int .i64 c.nxt, .int .i64 c.bas, .slice p2 m q2, .string c.sig] 49) := ⟨_, rfl⟩
 have hs0 : W0.heap.size = w.heap.size + 1 := by rw [hW0]; exact size_alloc _ _
 have H1 : Hid (Below w.heap.size w W1 /\ Blk W1 w.heap.size 49 #[.string c.issuer, .int .i64 c.num, .int .i64 c.ths, .int .i64 c.nxt, .int .i64 c.bas, .slice p1 m q1, .string c.sig] /\ Blk W1 (w.heap.size + 1) 49 #[.string c.issuer, .int .i64 c.num, .int .i64 c.ths, .int .i64 c.nxt, .int .i64 c.bas, .slice p2 m q2, .string c.sig]) := by
  have h1 := Blk.new W0 49 #[.string c.issuer, .int .i64 c.num, .int .i64 c.ths, .int .i64 c.nxt, .int .i64 c.bas, .slice p2 m q2, .string c.sig]
  rw [hs0] at h1
  rw [hW1]
  refine ⟨?_, ?_, h1⟩
  ·rw [hW0]
   exact ((Below.refl _ _).alloc (Nat.le_refl _) _).alloc (by rw [size_alloc]; omega) _
  ·rw [hW0]
   exact (Blk.new _ _ _).alloc _
 go_enter Tryz.func41, Tryz.ntmps41
 go_upto_region 1 with fail
 rw [<- hW0, <- hW1]
 try rw [hs0]
 clear hW0 hW1 hs0
 have a0 : W1.cell? ⟨w.heap.size, 0, none⟩ = some (.string c.issuer) := H1.out.2.1.cell 0
 have a1 : W1.cell? ⟨w.heap.size, 1, none⟩ = some (.int .i64 c.num) := H1.out.2.1.cell 1
 have a2 : W1.cell? ⟨w.heap.size, 2, none⟩ = some (.int .i64 c.ths) := H1.out.2.1.cell 2
 have a3 : W1.cell? ⟨w.heap.size, 3, none⟩ = some (.int .i64 c.nxt) := H1.out.2.1.cell 3
 have a4 : W1.cell? ⟨w.heap.size, 4, none⟩ = some (.int .i64 c.bas) := H1.out.2.1.cell 4
 have a5 : W1.cell? ⟨w.heap.size, 5, none⟩ = some (.slice p1 m q1) := H1.out.2.1.cell 5
 have a6 : W1.cell? ⟨w.heap.size, 6, none⟩ = some (.string c.sig) := H1.out.2.1.cell 6
 have b0 : W1.cell? ⟨w.heap.size + 1, 0, none⟩ = some (.string c.issuer) := H1.out.2.2.cell 0
 have b1 : W1.cell? ⟨w.heap.size + 1, 1, none⟩ = some (.int .i64 c.num) := H1.out.2.2.cell 1
 have b2 : W1.cell? ⟨w.heap.size + 1, 2, none⟩ = some (.int .i64 c.ths) := H1.out.2.2.cell 2
 have b3 : W1.cell? ⟨w.heap.size + 1, 3, none⟩ = some (.int .i64 c.nxt) := H1.out.2.2.cell 3
 have b4 : W1.cell? ⟨w.heap.size + 1, 4, none⟩ = some (.int .i64 c.bas) := H1.out.2.2.cell 4
 have b5 : W1.cell? ⟨w.heap.size + 1, 5, none⟩ = some (.slice p2 m q2) := H1.out.2.2.cell 5
 have b6 : W1.cell? ⟨w.heap.size + 1, 6, none⟩ = some (.string c.sig) := H1.out.2.2.cell 6
 go_wp2_with fail
 clear a0 b0 a1 b1 a2 b2 a3 b3 a4 b4 a5 b5 a6 b6
 go_loopw [5] (fun iv wr => ∃ k : Nat, k <= m /\ iv = .int .i64 k /\ Hid (Below w.heap.size w wr /\ Blk wr w.heap.size 49 #[.string c.issuer, .int .i64 c.num, .int .i64 c.ths, .int .i64 c.nxt, .int .i64 c.bas, .slice p1 m q1, .string c.sig] /\ Blk wr (w.heap.size + 1) 49 #[.string c.issuer, .int .i64 c.num, .int .i64 c.ths, .int .i64 c.nxt, .int .i64 c.bas, .slice p2 m q2, .string c.sig])) (fun iv _ => m - (intOf iv).toNat)
 case atStart => exact ⟨0, Nat.zero_le _, rfl, H1.out⟩
 case round =>
  clear H1
  obtain ⟨k, hk, rfl, H⟩ := hrel
  have a5 : wr.cell? ⟨w.heap.size, 5, none⟩ = some (.slice p1 m q1) := H.out.2.1.cell 5
  have b5 : wr.cell? ⟨w.heap.size + 1, 5, none⟩ = some (.slice p2 m q2) := H.out.2.2.cell 5
  by_cases hkm : k < m
  ·have hkl : k < c.revs.length := by rw [HR.out.2]; exact hkm
   obtain ⟨ao1, cp1, hv1, hc1⟩ := HR.out.1.1
   obtain ⟨ao2, cp2, hv2, hc2⟩ := HR.out.1.2
   injection hv1 with hv1
   injection hv2 with hv2
   obtain ⟨g1, hg1, hl1, c10, c11⟩ := hc1 k hkl
   obtain ⟨g2, hg2, hl2, c20, c21⟩ := hc2 k hkl
   obtain ⟨s, hs⟩ : ∃ s, (c.revs.getD k (0, 0)).1 = s := ⟨_, rfl⟩
   obtain ⟨r, hr⟩ : ∃ r, (c.revs.getD k (0, 0)).2 = r := ⟨_, rfl⟩
   rw [hs] at c10 c20
   rw [hr] at c11 c21
   have hp1 : p1 = some ⟨g1, 0, none⟩ := hv1.trans hg1
   have hp2 : p2 = some ⟨g2, 0, none⟩ := hv2.trans hg2
   subst hp1 hp2
   have x0 : wr.cell? ⟨g1, k * 2, none⟩ = some (.int .i64 s) := (H.out.1.cell (p := ⟨g1, k * 2, none⟩) hl1).trans c10
   have x1 : wr.cell? ⟨g1, k * 2 + 1, none⟩ = some (.int .i64 r) := (H.out.1.cell (p := ⟨g1, k * 2 + 1, none⟩) hl1).trans c11
   have y0 : wr.cell? ⟨g2, k * 2, none⟩ = some (.int .i64 s) := (H.out.1.cell (p := ⟨g2, k * 2, none⟩) hl2).trans c20
   have y1 : wr.cell? ⟨g2, k * 2 + 1, none⟩ = some (.int .i64 r) := (H.out.1.cell (p := ⟨g2, k * 2 + 1, none⟩) hl2).trans c21
   have hki : (k : Int) < (m : Int) := by omega
   have hk0 : (0 : Int) <= (k : Int) := by omega
   clear hc1 hc2 hv1 hv2 hg1 hg2 hl1 hl2 c10 c11 c20 c21 hs hr hkl
   have RG := run_guardRev
   have RE := neqRev s r
   go_upto_region 6 with fail
   go_quiet (fail)
   have HD : Hid (Below w.heap.size w (wr.drewN nq) /\ Blk (wr.drewN nq) w.heap.size 49 #[.string c.issuer, .int .i64 c.num, .int .i64 c.ths, .int .i64 c.nxt, .int .i64 c.bas, .slice (some ⟨g1, 0, none⟩) m q1, .string c.sig] /\ Blk (wr.drewN nq) (w.heap.size + 1) 49 #[.string c.issuer, .int .i64 c.num, .int .i64 c.ths, .int .i64 c.nxt, .int .i64 c.bas, .slice (some ⟨g2, 0, none⟩) m q2, .string c.sig]) := ⟨⟨H.out.1.os, H.out.1.tape, H.out.1.output, H.out.1.size, H.out.1.block⟩, H.out.2⟩
   generalize wr.drewN nq = wz at HD |-
   clear H a5 b5 x0 x1 y0 y1 RG RE
   go_wp2_with fail
   go_roundw
   case rel => exact ⟨k + 1, by omega, by go_num, HD.out⟩
   case measure => simp [intOf]; omega
  ·have hki : ¬ (k : Int) < (m : Int) := by omega
   go_wp2_with fail
   go_ret
   exact ⟨rfl, H.out.1⟩
end Go.Proofs.YtjgbmnhoajiabaaGreatDoor
