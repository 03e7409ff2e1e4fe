/-
  Texts of the proof.
-/
import Derived.Laws.OwnMore
import Derived.Deep.RegionHeld3
import Derived.WalkKit
import Derived.Laws.RangeString
import Derived.Laws.RangeAny
import Derived.Test.YtlbjhibolcgnoaaGreatDoorSR30
import Derived.Test.YtlbjhibolcgnoaaGreatDoorSR31
set_option maxRecDepth 100000
set_option maxHeartbeats 25600000
namespace Go.Proofs.YtlbjhibolcgnoaaGreatDoor
open Go.RowKit Der
set_option linter.unusedVariables false
theorem specSignedReply_any (c : Rp) (v : Value) (i : Int) (w : World) (hz : wtR c <= 1048576) (hw : WdRp c) (hi : -9223372036854775808 <= i /\ i <= 9223372036854775807) (bs : Nat) (fq : List Nat) (ho : OwnRp w bs v c fq) (ha : RpAt w v c) :
  Calls Tryz.prog 5 #[v, .int .i64 i] w fun e w' => ∃ u, e = .returned u /\ (∃ fp, OwnRp w' w.heap.size u (sgR c i) fp) /\ Below w.heap.size w w' := by
 have HB : Hid (OwnRp w bs v c fq) := ho
 clear ho
 obtain ⟨pa, pc, hv⟩ := RpAt.shape ha
 obtain ⟨lp, hlp⟩ := zE (c.ans.length)
 rw [hlp] at hv
 unfold rpV at hv
 subst hv
 have HZ : Hid (wtR c <= 1048576 /\ WdRp c) := ⟨hz, hw⟩
 have HA : Hid (RpAt w (.agg #[.string c.hash, .int .i64 c.nonce, .int .i64 c.time, .int .i64 c.next, .int .i64 c.plan, .int .i64 c.err, .slice pa lp pc, .string c.sig]) c) := ha
 obtain ⟨T, hT⟩ := zE (rbdy c)
 obtain ⟨SG, hSG⟩ := zE (sigB i T)
 have HT : Hid (rbdy c = T /\ sigB i T = SG /\ T.size <= 1048576 /\ (-9223372036854775808 <= i /\ i <= 9223372036854775807)) := ⟨hT, hSG, by rw [<- hT]; exact rbdy_small c, hi⟩
 clear ha hlp hz hw hT hSG hi
 go_enter Tryz.func5, Tryz.ntmps5
 go_wp2_with fail
 obtain ⟨W2, hW2⟩ : ∃ W, W = (w.alloc (Obj.cells #[.string c.hash, .int .i64 c.nonce, .int .i64 c.time, .int .i64 c.next, .int .i64 c.plan, .int .i64 c.err, .slice pa lp pc, .string c.sig] 28)).alloc (Obj.cells #[.string ⟨#[]⟩, .int .i64 0, .int .i64 0, .int .i64 0, .int .i64 0, .int .i64 0, .slice none 0 0, .string ⟨#[]⟩] 28) := ⟨_, rfl⟩
 rw [<- hW2]
 have G2 : Hid (Blk W2 w.heap.size 28 #[.string c.hash, .int .i64 c.nonce, .int .i64 c.time, .int .i64 c.next, .int .i64 c.plan, .int .i64 c.err, .slice pa lp pc, .string c.sig] /\ Blk W2 (w.heap.size + 1) 28 #[.string ⟨#[]⟩, .int .i64 0, .int .i64 0, .int .i64 0, .int .i64 0, .int .i64 0, .slice none 0 0, .string ⟨#[]⟩] /\ Below w.heap.size w W2 /\ w.heap.size + 2 <= W2.heap.size) := by
  have e0 : (w.alloc (Obj.cells #[.string c.hash, .int .i64 c.nonce, .int .i64 c.time, .int .i64 c.next, .int .i64 c.plan, .int .i64 c.err, .slice pa lp pc, .string c.sig] 28)).heap.size = w.heap.size + 1 := Array.size_push _
  have h := Blk.new (w.alloc (Obj.cells #[.string c.hash, .int .i64 c.nonce, .int .i64 c.time, .int .i64 c.next, .int .i64 c.plan, .int .i64 c.err, .slice pa lp pc, .string c.sig] 28)) 28 #[.string ⟨#[]⟩, .int .i64 0, .int .i64 0, .int .i64 0, .int .i64 0, .int .i64 0, .slice none 0 0, .string ⟨#[]⟩]
  rw [e0] at h
  rw [hW2]
  exact ⟨(Blk.new w _ _).alloc _, h, ((Below.refl _ _).alloc (Nat.le_refl _) _).alloc (by rw [e0]; omega) _, by rw [size_alloc, e0]; omega⟩
 clear hW2
 have E2 : Calls Tryz.prog 12 #[.agg #[.string c.hash, .int .i64 c.nonce, .int .i64 c.time, .int .i64 c.next, .int .i64 c.plan, .int .i64 c.err, .slice pa lp pc, .string c.sig]] W2 fun e w' => ∃ u, e = .returned u /\ (∃ fp, OwnRp w' W2.heap.size u c fp) /\ Below W2.heap.size W2 w' := l15Copy_any c _ bs fq W2 HZ.out.1 (HB.out.stays G2.out.2.2.1)
 refine E2.mono ?_
 rintro e w3 ⟨u3, rfl, ⟨fp, p3, rfl, ho3⟩, hb⟩
 clear E2
 obtain ⟨qa, qc, hq3, -⟩ := ho3.shape
 obtain ⟨ql, hql⟩ := zE (c.ans.length)
 rw [hql] at hq3
 clear hql
 subst hq3
 have G3 : Hid (Blk w3 w.heap.size 28 #[.string c.hash, .int .i64 c.nonce, .int .i64 c.time, .int .i64 c.next, .int .i64 c.plan, .int .i64 c.err, .slice pa lp pc, .string c.sig] /\ Blk w3 (w.heap.size + 1) 28 #[.string ⟨#[]⟩, .int .i64 0, .int .i64 0, .int .i64 0, .int .i64 0, .int .i64 0, .slice none 0 0, .string ⟨#[]⟩] /\ Below w.heap.size w w3 /\ OwnS awKd w3 W2.heap.size (.slice qa ql qc) c.ans fp /\ w.heap.size + 2 <= w3.heap.size /\ w.heap.size + 2 <= W2.heap.size /\ W2.heap.size <= w3.heap.size) := ⟨G2.out.1.below hb G2.out.1.lt, G2.out.2.1.below hb G2.out.2.1.lt, G2.out.2.2.1.trans (hb.mono G2.out.2.2.1.size), ho3, Nat.le_trans G2.out.2.2.2 hb.size, G2.out.2.2.2, hb.size⟩
 clear hb ho3 G2
 unfold rpV
 have a0 := fun o => (show (w3.alloc o).cell? ⟨w.heap.size, 0, none⟩ = some (.string c.hash) from (G3.out.1.alloc o).cell 0)
 have a1 := fun o => (show (w3.alloc o).cell? ⟨w.heap.size, 1, none⟩ = some (.int .i64 c.nonce) from (G3.out.1.alloc o).cell 1)
 have a2 := fun o => (show (w3.alloc o).cell? ⟨w.heap.size, 2, none⟩ = some (.int .i64 c.time) from (G3.out.1.alloc o).cell 2)
 have a3 := fun o => (show (w3.alloc o).cell? ⟨w.heap.size, 3, none⟩ = some (.int .i64 c.next) from (G3.out.1.alloc o).cell 3)
 have a4 := fun o => (show (w3.alloc o).cell? ⟨w.heap.size, 4, none⟩ = some (.int .i64 c.plan) from (G3.out.1.alloc o).cell 4)
 have a5 := fun o => (show (w3.alloc o).cell? ⟨w.heap.size, 5, none⟩ = some (.int .i64 c.err) from (G3.out.1.alloc o).cell 5)
 have a6 := fun o => (show (w3.alloc o).cell? ⟨w.heap.size, 6, none⟩ = some (.slice pa lp pc) from (G3.out.1.alloc o).cell 6)
 have a7 := fun o => (show (w3.alloc o).cell? ⟨w.heap.size, 7, none⟩ = some (.string c.sig) from (G3.out.1.alloc o).cell 7)
 go_wp2_with fail
 clear a0 a1 a2 a3 a4 a5 a6 a7
 obtain ⟨W4, hW4⟩ : ∃ W, W = w3.alloc (Obj.cells #[.string c.hash, .int .i64 c.nonce, .int .i64 c.time, .int .i64 c.next, .int .i64 c.plan, .int .i64 c.err, .slice qa ql qc, .string c.sig] 28) := ⟨_, rfl⟩
 rw [<- hW4]
 obtain ⟨gl, hgl⟩ := zE (W2.heap.size)
 obtain ⟨gv, hgv⟩ := zE (w3.heap.size)
 have G4 : Hid (Blk W4 w.heap.size 28 #[.string c.hash, .int .i64 c.nonce, .int .i64 c.time, .int .i64 c.next, .int .i64 c.plan, .int .i64 c.err, .slice pa lp pc, .string c.sig] /\ Blk W4 (w.heap.size + 1) 28 #[.string ⟨#[]⟩, .int .i64 0, .int .i64 0, .int .i64 0, .int .i64 0, .int .i64 0, .slice none 0 0, .string ⟨#[]⟩] /\ Blk W4 gv 28 #[.string c.hash, .int .i64 c.nonce, .int .i64 c.time, .int .i64 c.next, .int .i64 c.plan, .int .i64 c.err, .slice qa ql qc, .string c.sig] /\ Below w.heap.size w W4 /\ OwnS awKd W4 gl (.slice qa ql qc) c.ans fp) := by
  have hb : Below w3.heap.size w3 W4 := by rw [hW4]; exact (Below.refl _ _).alloc (Nat.le_refl _) _
  exact ⟨G3.out.1.below hb G3.out.1.lt, G3.out.2.1.below hb G3.out.2.1.lt, by rw [hW4, <- hgv]; exact Blk.new w3 _ _, G3.out.2.2.1.trans (hb.mono G3.out.2.2.1.size), by rw [<- hgl]; exact G3.out.2.2.2.1.stays hb⟩
 have HRB : Hid (∀ g ∈ fp, w.heap.size + 2 <= g /\ g ≠ gv) := fun g hg => by
  have h1 := G3.out.2.2.2.1.lt g hg
  have h2 := G3.out.2.2.2.2
  rw [<- hgv]
  omega
 have HGV : Hid (w.heap.size + 2 <= gv /\ w.heap.size + 2 <= gl /\ gl <= gv) := by rw [<- hgv, <- hgl]; exact ⟨G3.out.2.2.2.2.1, G3.out.2.2.2.2.2.1, G3.out.2.2.2.2.2.2⟩
 rw [hgv]
 clear hW4 hgv hgl G3
 have E5 : Calls Tryz.prog 14 #[.agg #[.string c.hash, .int .i64 c.nonce, .int .i64 c.time, .int .i64 c.next, .int .i64 c.plan, .int .i64 c.err, .slice pa lp pc, .string c.sig]] W4 fun e w' => e = .returned (.string (rbdy c)) /\ Below W4.heap.size W4 w' := specReplyBody_of l15Item_any c _ W4 HZ.out.1 HZ.out.2 (HA.out.below G4.out.2.2.2.1)
 rw [HT.out.1] at E5
 refine E5.mono ?_
 rintro e w5 ⟨rfl, hb⟩
 have G5 : Hid (Blk w5 w.heap.size 28 #[.string c.hash, .int .i64 c.nonce, .int .i64 c.time, .int .i64 c.next, .int .i64 c.plan, .int .i64 c.err, .slice pa lp pc, .string c.sig] /\ Blk w5 (w.heap.size + 1) 28 #[.string ⟨#[]⟩, .int .i64 0, .int .i64 0, .int .i64 0, .int .i64 0, .int .i64 0, .slice none 0 0, .string ⟨#[]⟩] /\ Blk w5 gv 28 #[.string c.hash, .int .i64 c.nonce, .int .i64 c.time, .int .i64 c.next, .int .i64 c.plan, .int .i64 c.err, .slice qa ql qc, .string c.sig] /\ Below w.heap.size w w5 /\ OwnS awKd w5 gl (.slice qa ql qc) c.ans fp) := ⟨G4.out.1.below hb G4.out.1.lt, G4.out.2.1.below hb G4.out.2.1.lt, G4.out.2.2.1.below hb G4.out.2.2.1.lt, G4.out.2.2.2.1.trans (hb.mono G4.out.2.2.2.1.size), G4.out.2.2.2.2.stays hb⟩
 clear hb G4 E5
 go_wp2_with fail
 have E6 := specSign_any i T w5 HT.out.2.2.1 HT.out.2.2.2
 rw [HT.out.2.1] at E6
 refine E6.mono ?_
 rintro e w6 ⟨rfl, hb⟩
 have G6 : Hid (Blk w6 w.heap.size 28 #[.string c.hash, .int .i64 c.nonce, .int .i64 c.time, .int .i64 c.next, .int .i64 c.plan, .int .i64 c.err, .slice pa lp pc, .string c.sig] /\ Blk w6 (w.heap.size + 1) 28 #[.string ⟨#[]⟩, .int .i64 0, .int .i64 0, .int .i64 0, .int .i64 0, .int .i64 0, .slice none 0 0, .string ⟨#[]⟩] /\ Blk w6 gv 28 #[.string c.hash, .int .i64 c.nonce, .int .i64 c.time, .int .i64 c.next, .int .i64 c.plan, .int .i64 c.err, .slice qa ql qc, .string c.sig] /\ Below w.heap.size w w6 /\ OwnS awKd w6 gl (.slice qa ql qc) c.ans fp) := ⟨G5.out.1.below hb G5.out.1.lt, G5.out.2.1.below hb G5.out.2.1.lt, G5.out.2.2.1.below hb G5.out.2.2.1.lt, G5.out.2.2.2.1.trans (hb.mono G5.out.2.2.2.1.size), G5.out.2.2.2.2.stays hb⟩
 clear hb G5 E6
 have b0 : w6.cell? ⟨w.heap.size + 1, 0, none⟩ = some (.string ⟨#[]⟩) := G6.out.2.1.cell 0
 have b1 : w6.cell? ⟨w.heap.size + 1, 1, none⟩ = some (.int .i64 0) := G6.out.2.1.cell 1
 have b2 : w6.cell? ⟨w.heap.size + 1, 2, none⟩ = some (.int .i64 0) := G6.out.2.1.cell 2
 have b3 : w6.cell? ⟨w.heap.size + 1, 3, none⟩ = some (.int .i64 0) := G6.out.2.1.cell 3
 have b4 : w6.cell? ⟨w.heap.size + 1, 4, none⟩ = some (.int .i64 0) := G6.out.2.1.cell 4
 have b5 : w6.cell? ⟨w.heap.size + 1, 5, none⟩ = some (.int .i64 0) := G6.out.2.1.cell 5
 have b6 : w6.cell? ⟨w.heap.size + 1, 6, none⟩ = some (.slice none 0 0) := G6.out.2.1.cell 6
 have b7 : w6.cell? ⟨w.heap.size + 1, 7, none⟩ = some (.string ⟨#[]⟩) := G6.out.2.1.cell 7
 have d0 : w6.cell? ⟨gv, 0, none⟩ = some (.string c.hash) := G6.out.2.2.1.cell 0
 have d1 : w6.cell? ⟨gv, 1, none⟩ = some (.int .i64 c.nonce) := G6.out.2.2.1.cell 1
 have d2 : w6.cell? ⟨gv, 2, none⟩ = some (.int .i64 c.time) := G6.out.2.2.1.cell 2
 have d3 : w6.cell? ⟨gv, 3, none⟩ = some (.int .i64 c.next) := G6.out.2.2.1.cell 3
 have d4 : w6.cell? ⟨gv, 4, none⟩ = some (.int .i64 c.plan) := G6.out.2.2.1.cell 4
 have d5 : w6.cell? ⟨gv, 5, none⟩ = some (.int .i64 c.err) := G6.out.2.2.1.cell 5
 have d6 : w6.cell? ⟨gv, 6, none⟩ = some (.slice qa ql qc) := G6.out.2.2.1.cell 6
 have d7 : w6.cell? ⟨gv, 7, none⟩ = some (.string c.sig) := G6.out.2.2.1.cell 7
 have fb := fun j => G6.out.2.1.free j
 have fd := fun j => G6.out.2.2.1.free j
 have wd1 : gv ≠ w.heap.size + 1 := by have := HGV.out; omega
 have wd2 : w.heap.size + 1 ≠ gv := by have := HGV.out; omega
 have HO : Hid (∀ W', (∀ b ∈ fp, W'.heap[b]? = w6.heap[b]?) -> ∃ fp, OwnRp W' w.heap.size (.agg #[.string c.hash, .int .i64 c.nonce, .int .i64 c.time, .int .i64 c.next, .int .i64 c.plan, .int .i64 c.err, .slice qa ql qc, .string SG]) (sgR c i) fp) := fun W' h => by
  refine ⟨fp, .slice qa ql qc, ?_, ((show OwnS awKd w6 gl (.slice qa ql qc) (sgR c i).ans fp from G6.out.2.2.2.2).same h).base (by have := HGV.out; omega)⟩
  unfold sgR rpV
  rw [HT.out.1, HT.out.2.1]
 go_wp2_with fail
 refine bodyPost_ret (v := .agg #[.string c.hash, .int .i64 c.nonce, .int .i64 c.time, .int .i64 c.next, .int .i64 c.plan, .int .i64 c.err, .slice qa ql qc, .string SG]) (by simp [results, Tryz.results5, go_sem, b0, b1, b2, b3, b4, b5, b6, b7]) rfl ⟨_, rfl, HO.out _ ?far, ?bel⟩
 case far =>
  intro b hb
  have h1 := HGV.out
  have h2 := HRB.out b hb
  iterate 9 rw [heap_setCell_other _ _ _ _ (by first | (show b ≠ w.heap.size + 1; omega) | (show b ≠ gv; omega))]
 case bel =>
  have h1 := HGV.out
  iterate 9 refine Below.setCell ?_ (by first | (show w.heap.size <= w.heap.size + 1; omega) | (show w.heap.size <= gv; omega)) _
  exact G6.out.2.2.2.1
end Go.Proofs.YtlbjhibolcgnoaaGreatDoor
namespace Go.Proofs.YtlbjhibolcgnoaaGreatDoor
open Go.RowKit
set_option linter.unusedVariables false
set_option linter.unusedSimpArgs false
theorem sum_take {l : List Nat} {k : Nat} (h : k < l.length) : (l.take (k + 1)).sum = (l.take k).sum + l[k] := by
 rw [List.take_add_one, List.sum_append, List.getElem?_eq_getElem h]
 simp
theorem sum_take_le (l : List Nat) (k : Nat) : (l.take k).sum <= l.sum := by
 have h : (l.take k ++ l.drop k).sum = (l.take k).sum + (l.drop k).sum := List.sum_append
 rw [List.take_append_drop] at h
 omega
end Go.Proofs.YtlbjhibolcgnoaaGreatDoor
namespace Go.Proofs.YtlbjhibolcgnoaaGreatDoor
open Go.RowKit
set_option linter.unusedVariables false
section
variable {α : Type} (mk : Nat -> α -> α) (sz : α -> Nat)
def mkG : Nat -> List α -> List α
 | _, [] => []
 | k, c :: l => mk k c :: mkG (k + sz c) l
def posG (k : Nat) (l : List α) (j : Nat) : Nat := k + ((l.map sz).take j).sum
theorem mkG_len : ∀ (k : Nat) (l : List α), (mkG mk sz k l).length = l.length
 | _, [] => rfl
 | k, c :: l => by simp [mkG, mkG_len]
theorem mkG_get : ∀ (l : List α) (k j : Nat) (h : j < l.length) (h' : j < (mkG mk sz k l).length), (mkG mk sz k l)[j] = mk (posG sz k l j) l[j]
 | c :: l, k, 0, h, h' => by simp [mkG, posG]
 | c :: l, k, j + 1, h, h' => by
  have := mkG_get l (k + sz c) j (by simpa using h) (by rw [mkG_len]; simpa using h)
  simp only [mkG, List.getElem_cons_succ, this]
  congr 1
  simp [posG]
  omega
theorem posG_next {k : Nat} {l : List α} {j : Nat} (h : j < l.length) : posG sz k l (j + 1) = posG sz k l j + sz l[j] := by
 unfold posG
 rw [sum_take (by rw [List.length_map]; exact h), List.getElem_map]
 omega
theorem posG_le (k : Nat) (l : List α) (j : Nat) : posG sz k l j <= k + (l.map sz).sum := by
 have h1 := sum_take_le (l.map sz) j
 unfold posG
 omega
theorem markG_set {k : Nat} {l : List α} {j : Nat} (h : j < l.length) : ((mkG mk sz k l).take j ++ l.drop j).set j (mk (posG sz k l j) l[j]) = (mkG mk sz k l).take (j + 1) ++ l.drop (j + 1) := by
 have hm : j < (mkG mk sz k l).length := by rw [mkG_len]; exact h
 have e : ((mkG mk sz k l).take j).length = j := by rw [List.length_take]; omega
 rw [List.set_append_right _ _ (by omega), e, Nat.sub_self, List.drop_eq_getElem_cons h, List.set_cons_zero, List.take_succ_eq_append_getElem hm, mkG_get mk sz l k j h hm, List.append_assoc]
 rfl
theorem markG_len {k : Nat} {l : List α} {j : Nat} (h : j <= l.length) : ((mkG mk sz k l).take j ++ l.drop j).length = l.length := by
 rw [List.length_append, List.length_take, List.length_drop, mkG_len]
 omega
theorem markG_get {k : Nat} {l : List α} {j : Nat} (h : j < l.length) (h' : j < ((mkG mk sz k l).take j ++ l.drop j).length) : ((mkG mk sz k l).take j ++ l.drop j)[j] = l[j] := by
 have e : ((mkG mk sz k l).take j).length = j := by rw [List.length_take, mkG_len]; omega
 rw [List.getElem_append_right (by omega)]
 simp [e]
theorem markG_all {k : Nat} {l : List α} {j : Nat} (h : l.length <= j) : (mkG mk sz k l).take j ++ l.drop j = mkG mk sz k l := by
 rw [List.drop_eq_nil_of_le h, List.append_nil, List.take_of_length_le (by rw [mkG_len]; exact h)]
end
theorem set_selfG {l : List Value} {i : Nat} {a : Value} (h : l[i]? = some a) : l.set i a = l := by
 apply List.ext_getElem?
 intro j
 rw [List.getElem?_set]
 split
 ·next e =>
  subst e
  rw [h]
  split
  ·rfl
  ·next hn => rw [List.getElem?_eq_none (by omega)] at h; cases h
 ·rfl
theorem OwnS.turnK {α : Type} (k : Kd α) {w W : World} {base g n cap : Nat} {l : List α} {vs : List Value} {c' : α} {j : Nat} (hj : j < l.length) (hl : vs.length = l.length) (he : ∀ i (h1 : i < vs.length) (h2 : i < l.length), k.Own w base vs[i] l[i]) (hn : ((Value.slice (some ⟨g, 0, none⟩) n cap).ownBlock.toList ++ vs.flatMap k.fp).Nodup) {u : Value} (hfp : k.fp u = k.fp (vs[j]'(by omega)))
  (hr : W.ownsRow base k.T k.K (.slice (some ⟨g, 0, none⟩) n cap) l.length (cellsV (vs.set j u))) (hu : k.Own W base u c') (ho : Out (g :: k.fp (vs[j]'(by omega))) w W) : OwnS k W base (.slice (some ⟨g, 0, none⟩) n cap) (l.set j c') ((Value.slice (some ⟨g, 0, none⟩) n cap).ownBlock.toList ++ vs.flatMap k.fp) := by
 have hjv : j < vs.length := by omega
 have e1 : vs = vs.take j ++ vs[j] :: vs.drop (j + 1) := by rw [List.getElem_cons_drop, List.take_append_drop]
 have e2 : vs.set j u = vs.take j ++ u :: vs.drop (j + 1) := List.set_eq_take_append_cons_drop.trans (by rw [if_pos hjv])
 have e3 : (vs.set j u).flatMap k.fp = vs.flatMap k.fp := by
  rw [e2, List.flatMap_append, List.flatMap_cons, hfp, <- List.flatMap_cons, <- List.flatMap_append, <- e1]
 refine ⟨vs.set j u, by simp [hl], by rw [List.length_set]; exact hr, fun i h1 h2 => ?_, ?_, hn⟩
 ·rw [List.getElem_set, List.getElem_set]
  by_cases e : j = i
  ·rw [if_pos e, if_pos e]
   exact hu
  ·rw [if_neg e, if_neg e]
   have h3 : i < vs.length := by simpa using h1
   refine k.same (he i h3 (by omega)) fun b hb => ho.2.2.2.2 b (k.lt (he i h3 (by omega)) b hb).2 fun hm => ?_
   have hq := List.nodup_append.1 hn
   rcases List.mem_cons.1 hm with rfl | hm
   ·exact hq.2.2 b (by simp [Value.ownBlock]) b (mem_flat h3 hb) rfl
   ·have hA : (vs.take j).flatMap k.fp ++ (k.fp vs[j] ++ (vs.drop (j + 1)).flatMap k.fp) = vs.flatMap k.fp := by
     rw [<- List.flatMap_cons, <- List.flatMap_append, <- e1]
    have hnf := hq.2.1
    rw [<- hA] at hnf
    have q1 := List.nodup_append.1 hnf
    have q2 := List.nodup_append.1 q1.2.1
    rcases Nat.lt_or_ge i j with hij | hij
    ·refine q1.2.2 b (List.mem_flatMap.2 ⟨vs[i], ?_, hb⟩) b (List.mem_append_left _ hm) rfl
     rw [List.mem_take_iff_getElem]
     exact ⟨i, by omega, rfl⟩
    ·refine q2.2.2 b hm b (List.mem_flatMap.2 ⟨vs[i], ?_, hb⟩) rfl
     rw [List.mem_drop_iff_getElem]
     exact ⟨i - (j + 1), by omega, by congr 1; omega⟩
 ·show _ = _ ++ (vs.set j u).flatMap k.fp
  rw [e3]
end Go.Proofs.YtlbjhibolcgnoaaGreatDoor
namespace Go.Proofs.YtlbjhibolcgnoaaGreatDoor
open Go.RowKit
set_option linter.unusedVariables false
set_option linter.unusedSimpArgs false
theorem toAnswer_any (c : Aw) (v : Value) (B : Nat) (w : World) (hl : c.path.length <= 1048576 /\ c.lst.length <= 1048576) (hB : B <= w.heap.size) (ha : ArgAw B w v c) :
  Calls Tryz.prog 32 #[v] w fun e w' => ∃ u, e = .returned u /\ OwnAw w' w.heap.size u c /\ Below w.heap.size w w' := by
 obtain ⟨pa, pc, ea, ec, rfl, h1, h2⟩ := ha
 have HA : Hid (ArgT B w pa c.path /\ ArgT B w ea c.lst /\ c.path.length <= 1048576 /\ c.lst.length <= 1048576) := ⟨h1, h2, hl⟩
 clear h1 h2 hl
 unfold awV
 go_enter Tryz.func32, Tryz.ntmps32
 go_wp2_with fail
 obtain ⟨W3, hW3⟩ : ∃ W, W = ((w.alloc (Obj.cells #[.int .i64 c.status, .int .i64 c.why, .slice pa c.path.length pc, .slice ea c.lst.length ec] 44)).alloc (Obj.cells #[.int .i64 0, .int .i64 0, .slice none 0 0, .slice none 0 0] 45)).alloc (Obj.cells #[.int .i64 c.status, .int .i64 c.why, .slice none 0 0, .slice none 0 0] 45) := ⟨_, rfl⟩
 change Calls _ _ _ (((w.alloc (Obj.cells #[.int .i64 c.status, .int .i64 c.why, .slice pa c.path.length pc, .slice ea c.lst.length ec] 44)).alloc (Obj.cells #[.int .i64 0, .int .i64 0, .slice none 0 0, .slice none 0 0] 45)).alloc (Obj.cells #[.int .i64 c.status, .int .i64 c.why, .slice none 0 0, .slice none 0 0] 45)) _
 rw [<- hW3]
 have e0 : (w.alloc (Obj.cells #[.int .i64 c.status, .int .i64 c.why, .slice pa c.path.length pc, .slice ea c.lst.length ec] 44)).heap.size = w.heap.size + 1 := Array.size_push _
 have e1 : ((w.alloc (Obj.cells #[.int .i64 c.status, .int .i64 c.why, .slice pa c.path.length pc, .slice ea c.lst.length ec] 44)).alloc (Obj.cells #[.int .i64 0, .int .i64 0, .slice none 0 0, .slice none 0 0] 45)).heap.size = w.heap.size + 1 + 1 := by rw [size_alloc, e0]
 have G0 : Hid ((Blk W3 w.heap.size 44 #[.int .i64 c.status, .int .i64 c.why, .slice pa c.path.length pc, .slice ea c.lst.length ec] /\ Blk W3 (w.heap.size + 1) 45 #[.int .i64 0, .int .i64 0, .slice none 0 0, .slice none 0 0] /\ Blk W3 (w.heap.size + 1 + 1) 45 #[.int .i64 c.status, .int .i64 c.why, .slice none 0 0, .slice none 0 0] /\ Below w.heap.size w W3) /\ w.heap.size + 1 + 1 + 1 <= W3.heap.size) := by
  rw [hW3]
  refine ⟨⟨((Blk.new w _ _).alloc _).alloc _, ?_, ?_, (((Below.refl _ _).alloc (Nat.le_refl _) _).alloc (by rw [e0]; omega) _).alloc (by rw [e1]; omega) _⟩, by rw [size_alloc, e1]; omega⟩
  ·have h := (Blk.new (w.alloc (Obj.cells #[.int .i64 c.status, .int .i64 c.why, .slice pa c.path.length pc, .slice ea c.lst.length ec] 44)) 45 #[.int .i64 0, .int .i64 0, .slice none 0 0, .slice none 0 0]).alloc (Obj.cells #[.int .i64 c.status, .int .i64 c.why, .slice none 0 0, .slice none 0 0] 45)
   rw [e0] at h
   exact h
  ·have h := Blk.new ((w.alloc (Obj.cells #[.int .i64 c.status, .int .i64 c.why, .slice pa c.path.length pc, .slice ea c.lst.length ec] 44)).alloc (Obj.cells #[.int .i64 0, .int .i64 0, .slice none 0 0, .slice none 0 0] 45)) 45 #[.int .i64 c.status, .int .i64 c.why, .slice none 0 0, .slice none 0 0]
   rw [e1] at h
   exact h
 clear hW3 e0 e1
 have wd1 : w.heap.size ≠ w.heap.size + 1 + 1 := by omega
 have wd2 : w.heap.size + 1 ≠ w.heap.size + 1 + 1 := by omega
 refine (toStringS_any pa c.path c.path.length pc B W3 rfl HA.out.2.2.1 (Nat.le_trans hB G0.out.1.2.2.2.size) (HA.out.1.below (G0.out.1.2.2.2.mono hB))).mono ?_
 rintro r u1 ⟨p, rfl, op, hb⟩
 have F1 : Hid ((Blk u1 w.heap.size 44 #[.int .i64 c.status, .int .i64 c.why, .slice pa c.path.length pc, .slice ea c.lst.length ec] /\ Blk u1 (w.heap.size + 1) 45 #[.int .i64 0, .int .i64 0, .slice none 0 0, .slice none 0 0] /\ Blk u1 (w.heap.size + 1 + 1) 45 #[.int .i64 c.status, .int .i64 c.why, .slice none 0 0, .slice none 0 0] /\ Below w.heap.size w u1) /\ w.heap.size + 1 + 1 + 1 <= u1.heap.size /\ OwnT u1 (w.heap.size + 1 + 1 + 1) p c.path) := by
  have hz := G0.out.2
  exact ⟨⟨G0.out.1.1.below hb (by omega), G0.out.1.2.1.below hb (by omega), G0.out.1.2.2.1.below hb (by omega), G0.out.1.2.2.2.trans (hb.mono G0.out.1.2.2.2.size)⟩, Nat.le_trans hz hb.size, op.base hz⟩
 clear op hb G0
 have fr := fun j => F1.out.1.2.2.1.free j
 obtain ⟨qp, mp, hsp⟩ : ∃ ao cap, p = .slice ao c.path.length cap := by obtain ⟨ao, cap, h, _⟩ := F1.out.2.2.at; exact ⟨ao, cap, h⟩
 obtain ⟨lp, hlp⟩ := zE (c.path.length)
 rw [hlp] at hsp
 clear hlp
 subst hsp
 have ca : u1.cell? ⟨w.heap.size, 3, none⟩ = some (.slice ea c.lst.length ec) := F1.out.1.1.cell 3
 have cg : u1.cell? ⟨w.heap.size + 1 + 1, 2, none⟩ = some (.slice none 0 0) := F1.out.1.2.2.1.cell 2
 go_wp2_with fail
 obtain ⟨V1, hV⟩ : ∃ V, V = u1.setCell ⟨w.heap.size + 1 + 1, 2, none⟩ (.slice qp lp mp) := ⟨_, rfl⟩
 rw [<- hV]
 have G1 : Hid ((Blk V1 w.heap.size 44 #[.int .i64 c.status, .int .i64 c.why, .slice pa c.path.length pc, .slice ea c.lst.length ec] /\ Blk V1 (w.heap.size + 1) 45 #[.int .i64 0, .int .i64 0, .slice none 0 0, .slice none 0 0] /\ Blk V1 (w.heap.size + 1 + 1) 45 #[.int .i64 c.status, .int .i64 c.why, .slice qp lp mp, .slice none 0 0] /\ Below w.heap.size w V1) /\ w.heap.size + 1 + 1 + 1 <= V1.heap.size /\ OwnT V1 (w.heap.size + 1 + 1 + 1) (.slice qp lp mp) c.path) := by
  have hbs : Below (w.heap.size + 1 + 1) u1 V1 := by rw [hV]; exact (Below.refl _ _).setCell (p := ⟨w.heap.size + 1 + 1, 2, none⟩) (Nat.le_refl _) _
  have hot : ∀ b, w.heap.size + 1 + 1 + 1 <= b -> V1.heap[b]? = u1.heap[b]? := fun b hb => by rw [hV]; exact heap_setCell_other _ _ _ _ (by show b ≠ w.heap.size + 1 + 1; omega)
  exact ⟨⟨F1.out.1.1.below hbs (by omega), F1.out.1.2.1.below hbs (by omega), by rw [hV]; exact F1.out.1.2.2.1.set 2 _, F1.out.1.2.2.2.trans (hbs.mono (by omega))⟩, Nat.le_trans F1.out.2.1 hbs.size, F1.out.2.2.block hot⟩
 clear hV F1 fr ca cg
 refine (toStringS_any ea c.lst c.lst.length ec B V1 rfl HA.out.2.2.2 (Nat.le_trans hB G1.out.1.2.2.2.size) (HA.out.2.1.below (G1.out.1.2.2.2.mono hB))).mono ?_
 rintro r u2 ⟨e, rfl, oe, hb⟩
 have F2 : Hid ((Blk u2 w.heap.size 44 #[.int .i64 c.status, .int .i64 c.why, .slice pa c.path.length pc, .slice ea c.lst.length ec] /\ Blk u2 (w.heap.size + 1) 45 #[.int .i64 0, .int .i64 0, .slice none 0 0, .slice none 0 0] /\ Blk u2 (w.heap.size + 1 + 1) 45 #[.int .i64 c.status, .int .i64 c.why, .slice qp lp mp, .slice none 0 0] /\ Below w.heap.size w u2) /\ w.heap.size + 1 + 1 + 1 <= u2.heap.size /\ OwnT u2 (w.heap.size + 1 + 1 + 1) (.slice qp lp mp) c.path /\ OwnT u2 (w.heap.size + 1 + 1 + 1) e c.lst /\ (Ap (.slice qp lp mp) e /\ Ap e (.slice qp lp mp))) := by
  have hz := G1.out.2.1
  exact ⟨⟨G1.out.1.1.below hb (by omega), G1.out.1.2.1.below hb (by omega), G1.out.1.2.2.1.below hb (by omega), G1.out.1.2.2.2.trans (hb.mono G1.out.1.2.2.2.size)⟩, Nat.le_trans hz hb.size, G1.out.2.2.stays hb, oe.base hz, rows_apart G1.out.2.2 oe (Nat.le_refl _)⟩
 clear oe hb G1
 have fr := fun j => F2.out.1.2.2.1.free j
 have f1 := fun j => F2.out.1.2.1.free j
 obtain ⟨qe, me, hse⟩ : ∃ ao cap, e = .slice ao c.lst.length cap := by obtain ⟨ao, cap, h, _⟩ := F2.out.2.2.2.1.at; exact ⟨ao, cap, h⟩
 obtain ⟨le, hle⟩ := zE (c.lst.length)
 rw [hle] at hse
 clear hle
 subst hse
 have c10 : u2.cell? ⟨w.heap.size + 1, 0, none⟩ = some (.int .i64 0) := F2.out.1.2.1.cell 0
 have c20 : u2.cell? ⟨w.heap.size + 1 + 1, 0, none⟩ = some (.int .i64 c.status) := F2.out.1.2.2.1.cell 0
 have c11 : u2.cell? ⟨w.heap.size + 1, 1, none⟩ = some (.int .i64 0) := F2.out.1.2.1.cell 1
 have c21 : u2.cell? ⟨w.heap.size + 1 + 1, 1, none⟩ = some (.int .i64 c.why) := F2.out.1.2.2.1.cell 1
 have c12 : u2.cell? ⟨w.heap.size + 1, 2, none⟩ = some (.slice none 0 0) := F2.out.1.2.1.cell 2
 have c22 : u2.cell? ⟨w.heap.size + 1 + 1, 2, none⟩ = some (.slice qp lp mp) := F2.out.1.2.2.1.cell 2
 have c13 : u2.cell? ⟨w.heap.size + 1, 3, none⟩ = some (.slice none 0 0) := F2.out.1.2.1.cell 3
 have c23 : u2.cell? ⟨w.heap.size + 1 + 1, 3, none⟩ = some (.slice none 0 0) := F2.out.1.2.2.1.cell 3
 go_wp2_with fail
 refine bodyPost_ret (v := awV c (.slice qp lp mp) (.slice qe le me)) (by simp [results, Tryz.results32, go_sem, awV, c10, c11, c12, c13]) rfl ⟨_, rfl, ⟨_, _, rfl, (F2.out.2.2.1.block ?far).base (by omega), (F2.out.2.2.2.1.block ?far).base (by omega), F2.out.2.2.2.2⟩, ?bel⟩
 case far =>
  intro b hb
  iterate 5 rw [heap_setCell_other _ _ _ _ (by first | (show b ≠ w.heap.size + 1; omega) | (show b ≠ w.heap.size + 1 + 1; omega))]
 case bel =>
  iterate 5 refine Below.setCell ?_ (by first | (show w.heap.size <= w.heap.size + 1; omega) | (show w.heap.size <= w.heap.size + 1 + 1; omega)) _
  exact F2.out.1.2.2.2
theorem szAnswer_any (c : Aw) (v : Value) (left : Int) (w : World) (hwd : WdAw c) (h0 : 0 <= left) (hl : left <= 1048576) (ha : ArgAw w.heap.size w v c) :
  Calls Tryz.prog 22 #[v, .int .i64 left] w fun e w' => e = .returned (.int .i64 (szAw c left)) /\ Below w.heap.size w w' := by
 obtain ⟨pa, pc, ea, ec, rfl, h1, h2⟩ := ha
 obtain ⟨_, hw1, hw2, hp1, hp2⟩ := hwd
 unfold awV
 obtain ⟨r1, hr1⟩ : ∃ r : Int, r = szT c.path left := ⟨_, rfl⟩
 have Z1 : Hid (∀ W, Below w.heap.size w W -> Calls Tryz.prog 46 #[.slice pa c.path.length pc, .int .i64 left] W fun e w' => e = .returned (.int .i64 r1) /\ Below W.heap.size W w') := fun W hb => by rw [hr1]; exact szStringS_any pa c.path c.path.length pc w.heap.size left W rfl hp1 hw1 (by omega) (by omega) hb.size (h1.below hb)
 by_cases g1 : r1 < 0
 ·have e1 : r1 = -1 := by unfold szT at hr1; split at hr1 <;> omega
  have HF : Hid (szAw c left = -1) := by
   show szAw c left = -1
   unfold szAw wtAw
   rw [if_neg (by unfold szT at hr1; split at hr1 <;> omega)]
  clear hr1 g1 h1 h2 hw1 hw2 hp1 hp2
  subst e1
  go_enter Tryz.func22, Tryz.ntmps22
  go_wp2_with fail
  obtain ⟨V, hV⟩ : ∃ V, V = w.alloc (Obj.cells #[.int .i64 c.status, .int .i64 c.why, .slice pa c.path.length pc, .slice ea c.lst.length ec] 44) := ⟨_, rfl⟩
  rw [<- hV]
  have G : Hid (Below w.heap.size w V) := by rw [hV]; exact (Below.refl _ _).alloc (Nat.le_refl _) _
  clear hV
  refine (Z1.out V G.out).mono ?_
  rintro e V2 ⟨rfl, hb⟩
  have G2 : Hid (Below w.heap.size w V2) := G.out.trans (hb.mono G.out.size)
  clear hb G
  go_wp2_with fail
  go_ret
  exact ⟨by rw [HF.out]; rfl, G2.out⟩
 ·have e1 : r1 = left - (totT c.path : Int) /\ (totT c.path : Int) <= left := by unfold szT at hr1; split at hr1 <;> omega
  obtain ⟨r2, hr2⟩ : ∃ r : Int, r = szT c.lst r1 := ⟨_, rfl⟩
  have Z2 : Hid (∀ W, Below w.heap.size w W -> Calls Tryz.prog 46 #[.slice ea c.lst.length ec, .int .i64 r1] W fun e w' => e = .returned (.int .i64 r2) /\ Below W.heap.size W w') := fun W hb => by rw [hr2]; exact szStringS_any ea c.lst c.lst.length ec w.heap.size r1 W rfl hp2 hw2 (by omega) (by omega) hb.size (h2.below hb)
  have HF : Hid (szAw c left = r2) := by
   show szAw c left = r2
   rw [hr2]
   unfold szAw wtAw szT
   by_cases q : ((totT c.path + totT c.lst : Nat) : Int) <= left
   ·rw [if_pos q, if_pos (by omega)]; omega
   ·rw [if_neg q, if_neg (by omega)]
  have g2 : r2 < 0 -> r2 = -1 := by unfold szT at hr2; split at hr2 <;> omega
  clear hr1 hr2 h1 h2 hw1 hw2 hp1 hp2 e1
  go_enter Tryz.func22, Tryz.ntmps22
  go_wp2_with fail
  obtain ⟨V, hV⟩ : ∃ V, V = w.alloc (Obj.cells #[.int .i64 c.status, .int .i64 c.why, .slice pa c.path.length pc, .slice ea c.lst.length ec] 44) := ⟨_, rfl⟩
  rw [<- hV]
  have G : Hid (Below w.heap.size w V /\ Blk V w.heap.size 44 #[.int .i64 c.status, .int .i64 c.why, .slice pa c.path.length pc, .slice ea c.lst.length ec]) := by rw [hV]; exact ⟨(Below.refl _ _).alloc (Nat.le_refl _) _, Blk.new w _ _⟩
  clear hV
  refine (Z1.out V G.out.1).mono ?_
  rintro e V2 ⟨rfl, hb⟩
  have G2 : Hid (Below w.heap.size w V2 /\ Blk V2 w.heap.size 44 #[.int .i64 c.status, .int .i64 c.why, .slice pa c.path.length pc, .slice ea c.lst.length ec]) := ⟨G.out.1.trans (hb.mono G.out.1.size), G.out.2.below hb G.out.2.lt⟩
  clear hb G
  have c3 : V2.cell? ⟨w.heap.size, 3, none⟩ = some (.slice ea c.lst.length ec) := G2.out.2.cell 3
  go_wp2_with fail
  refine (Z2.out V2 G2.out.1).mono ?_
  rintro e V3 ⟨rfl, hb⟩
  have G3 : Hid (Below w.heap.size w V3) := G2.out.1.trans (hb.mono G2.out.1.size)
  clear hb G2 c3
  by_cases q2 : r2 < 0
  ·obtain rfl := g2 q2
   go_wp2_with fail
   go_ret
   exact ⟨by rw [HF.out]; rfl, G3.out⟩
  ·go_wp2_with fail
   go_ret
   exact ⟨by rw [HF.out]; rfl, G3.out⟩
theorem eqAnswer_same (c : Aw) (a b : Value) (w : World) (hl : c.path.length <= 1000000000 /\ c.lst.length <= 1000000000) (ha : AwAt w a c) (hb : AwAt w b c) :
  Calls Tryz.prog 43 #[a, b] w fun e w' => e = .returned (.bool true) /\ Below w.heap.size w w' := by
 obtain ⟨pv, ev, rfl, h1, h2⟩ := ha
 obtain ⟨pu, eu, rfl, k1, k2⟩ := hb
 have HQ : Hid (∀ W, Below w.heap.size w W -> Calls Tryz.prog 78 #[pv, pu] W (fun e w' => e = .returned (.bool true) /\ Below W.heap.size W w')) := fun W hb => eqT_same pv pu c.path W hl.1 (h1.below hb) (k1.below hb)
 have HQ2 : Hid (∀ W, Below w.heap.size w W -> Calls Tryz.prog 78 #[ev, eu] W (fun e w' => e = .returned (.bool true) /\ Below W.heap.size W w')) := fun W hb => eqT_same ev eu c.lst W hl.2 (h2.below hb) (k2.below hb)
 obtain ⟨lp, hlp⟩ := zE (c.path.length)
 obtain ⟨le, hle⟩ := zE (c.lst.length)
 obtain ⟨pa, pc, hpa, _⟩ := h1
 obtain ⟨pb, qc, hpb, _⟩ := k1
 obtain ⟨ea, ec, hea, _⟩ := h2
 obtain ⟨eb, fc, heb, _⟩ := k2
 rw [hlp] at hpa hpb
 rw [hle] at hea heb
 subst hpa hpb hea heb
 clear hlp hle hl
 unfold awV
 go_enter Tryz.func43, Tryz.ntmps43
 go_wp2_with fail
 obtain ⟨V1, hV⟩ : ∃ V, V = (w.alloc (Obj.cells #[.int .i64 c.status, .int .i64 c.why, .slice pa lp pc, .slice ea le ec] 45)).alloc (Obj.cells #[.int .i64 c.status, .int .i64 c.why, .slice pb lp qc, .slice eb le fc] 45) := ⟨_, rfl⟩
 rw [<- hV]
 have G1 : Hid (Blk V1 w.heap.size 45 #[.int .i64 c.status, .int .i64 c.why, .slice pa lp pc, .slice ea le ec] /\ Blk V1 (w.heap.size + 1) 45 #[.int .i64 c.status, .int .i64 c.why, .slice pb lp qc, .slice eb le fc] /\ Below w.heap.size w V1 /\ w.heap.size + 1 < V1.heap.size) := by
  have e0 : (w.alloc (Obj.cells #[.int .i64 c.status, .int .i64 c.why, .slice pa lp pc, .slice ea le ec] 45)).heap.size = w.heap.size + 1 := Array.size_push _
  have h := Blk.new (w.alloc (Obj.cells #[.int .i64 c.status, .int .i64 c.why, .slice pa lp pc, .slice ea le ec] 45)) 45 #[.int .i64 c.status, .int .i64 c.why, .slice pb lp qc, .slice eb le fc]
  rw [e0] at h
  rw [hV]
  exact ⟨(Blk.new w _ _).alloc _, h, ((Below.refl _ _).alloc (Nat.le_refl _) _).alloc (by rw [e0]; omega) _, by rw [size_alloc, e0]; omega⟩
 clear hV
 refine (HQ.out V1 G1.out.2.2.1).mono ?_
 rintro e V2 ⟨rfl, hb⟩
 have G2 : Hid (Blk V2 w.heap.size 45 #[.int .i64 c.status, .int .i64 c.why, .slice pa lp pc, .slice ea le ec] /\ Blk V2 (w.heap.size + 1) 45 #[.int .i64 c.status, .int .i64 c.why, .slice pb lp qc, .slice eb le fc] /\ Below w.heap.size w V2 /\ w.heap.size + 1 < V2.heap.size) := ⟨G1.out.1.below hb (by have := G1.out.2.2.2; omega), G1.out.2.1.below hb G1.out.2.2.2, G1.out.2.2.1.trans (hb.mono G1.out.2.2.1.size), Nat.lt_of_lt_of_le G1.out.2.2.2 hb.size⟩
 clear hb G1
 have ca3 : V2.cell? ⟨w.heap.size, 3, none⟩ = some (.slice ea le ec) := G2.out.1.cell 3
 have cb3 : V2.cell? ⟨w.heap.size + 1, 3, none⟩ = some (.slice eb le fc) := G2.out.2.1.cell 3
 go_wp2_with fail
 clear ca3 cb3
 refine (HQ2.out V2 G2.out.2.2.1).mono ?_
 rintro e V3 ⟨rfl, hb⟩
 have G3 : Hid (Below w.heap.size w V3) := G2.out.2.2.1.trans (hb.mono G2.out.2.2.1.size)
 clear hb G2
 go_wp2_with fail
 go_ret
 exact ⟨rfl, G3.out⟩
end Go.Proofs.YtlbjhibolcgnoaaGreatDoor
