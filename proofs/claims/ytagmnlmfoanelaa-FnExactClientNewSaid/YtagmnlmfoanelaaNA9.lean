/-
  Texts of the proof.
-/
import Derived.ChangeArms
import Derived.ChangeSlices
import Derived.ChangeOld
import Derived.DataElems
import Derived.OpenShut
import Derived.WalkKit
import Derived.Laws.RangeString
import Derived.Laws.RangeAny
import Derived.Deep.RegionHeld3
import Derived.Test.YtagmnlmfoanelaaNA8
set_option maxRecDepth 100000
set_option maxHeartbeats 25600000
namespace Go.Proofs.Ytagmnlmfoanelaa
open Go.RowKit Go.ChangeShapes
set_option linter.unusedVariables false
set_option linter.unusedSimpArgs false
def AtI (w : World) (v : Value) (l : List Int) : Prop := IntAt w v l
theorem AtI.below {w w' : World} {v : Value} {l : List Int} (h : AtI w v l) (hb : Below w.heap.size w w') : AtI w' v l := IntAt.below h hb
theorem AtI.shape {w : World} {v : Value} {l : List Int} (h : AtI w v l) : ∃ ao cap, v = .slice ao l.length cap := by
 obtain ⟨ao, cap, hv, _⟩ := h
 exact ⟨ao, cap, hv⟩
def OwnIF (w : World) (base : Nat) (v : Value) (l : List Int) (fp : List Nat) : Prop := OwnI w base v l /\ fp = v.ownBlock.toList
theorem OwnIF.at {w : World} {base : Nat} {v : Value} {l : List Int} {fp : List Nat} (h : OwnIF w base v l fp) : AtI w v l := h.1.at
theorem OwnIF.same {w w' : World} {base : Nat} {v : Value} {l : List Int} {fp : List Nat} (h : OwnIF w base v l fp) (hs : ∀ b ∈ fp, w'.heap[b]? = w.heap[b]?) : OwnIF w' base v l fp :=
 ⟨row_same h.1 fun b hb => hs b (by rw [h.2]; exact Option.mem_toList.2 hb), h.2⟩
theorem OwnIF.lt {w : World} {base : Nat} {v : Value} {l : List Int} {fp : List Nat} (h : OwnIF w base v l fp) : ∀ b ∈ fp, base <= b /\ b < w.heap.size := fun b hb => by
 rw [h.2] at hb
 exact World.ownsRow.lt h.1 b (Option.mem_toList.1 hb)
theorem OwnIF.stays {w w' : World} {base : Nat} {v : Value} {l : List Int} {fp : List Nat} (h : OwnIF w base v l fp) (hb : Below w.heap.size w w') : OwnIF w' base v l fp := h.same fun b hm => hb.block b (h.lt b hm).2
theorem OwnIF.out {w w' : World} {base : Nat} {v : Value} {l : List Int} {fp fq : List Nat} (h : OwnIF w base v l fp) (ho : Out fq w w') (hn : ∀ b ∈ fp, b ∉ fq) : OwnIF w' base v l fp := h.same fun b hm => ho.2.2.2.2 b (h.lt b hm).2 (hn b hm)
def gtB : Bool -> Kx Gt
 | false => gtK
 | true => gtW
theorem gtB_at {bb : Bool} {w : World} {v : Value} {l : List Gt} (h : AtX (gtB bb) w v l) : AtX gtW w v l := by
 cases bb <;> exact h
structure Wa where
 id : Int
 sent : Int
 text : ByteArray
 due : Int
def waV (a : Wa) : Value := .agg #[.int .i64 a.id, .int .i64 a.sent, .string a.text, .int .i64 a.due]
def waKd : Kd Wa where
 T := 64
 K := 4
 Own := fun _ _ v a => v = waV a
 At := fun _ v a => v = waV a
 fp := fun _ => []
 pos := by decide
 size := fun h => by
  subst h
  refine ⟨rfl, fun x hx => ?_⟩
  change x ∈ [_, _, _, _] at hx
  simp only [List.mem_cons, List.not_mem_nil, or_false] at hx
  rcases hx with rfl | rfl | rfl | rfl
  all_goals rfl
 same := fun h _ => h
 lt := fun _ g hg => by cases hg
 base := fun h _ => h
 nodup := fun _ => List.nodup_nil
 own_at := fun h => h
 below := fun h _ => h
theorem eqWait_same (a : Wa) (w : World) : Calls Try.prog 40 #[.agg #[.int .i64 a.id, .int .i64 a.sent, .string a.text, .int .i64 a.due], .agg #[.int .i64 a.id, .int .i64 a.sent, .string a.text, .int .i64 a.due]] w fun e w' => e = .returned (.bool true) /\ Below w.heap.size w w' := by
 go_enter Try.func40, Try.ntmps40
 go_wp2
 go_ret
 exact ⟨rfl, ((Below.refl _ _).alloc (Nat.le_refl _) _).alloc (by rw [size_alloc]; omega) _⟩
theorem eqWaitS_same (l : List Wa) (a b : Value) (w : World) (hl : l.length <= 1000000000) (ha : AtS waKd w a l) (hb : AtS waKd w b l) :
  Calls Try.prog 18 #[a, b] w fun e w' => e = .returned (.bool true) /\ Below w.heap.size w w' := by
 obtain ⟨ax, cx, hv⟩ := ha.shape
 obtain ⟨ay, cy, hu⟩ := hb.shape
 obtain ⟨len, hlen⟩ := zE (l.length)
 rw [hlen] at hv hu
 subst hv hu
 have hl20 : len <= 1000000000 := by omega
 have HX : Hid (AtS waKd w (.slice ax len cx) l /\ AtS waKd w (.slice ay len cy) l /\ l.length = len /\ l.length <= 1000000000) := ⟨ha, hb, hlen, hl⟩
 clear ha hb hlen hl
 go_enter Try.func18, Try.ntmps18
 go_wp2_with fail
 go_loopw [5] (fun iv wr => ∃ k : Nat, k <= len /\ iv = .int .i64 k /\ Hid (Below w.heap.size w wr)) (fun iv _ => len - (intOf iv).toNat)
 case atStart => exact ⟨0, Nat.zero_le _, rfl, Below.refl _ _⟩
 case round =>
  obtain ⟨k, hk, rfl, HB⟩ := hrel
  by_cases hkn : k < len
  ·have hkl : k < l.length := by rw [HX.out.2.2.1]; exact hkn
   obtain ⟨g1, o1, u1, hax, hg1, hP1, hs1, hc1⟩ := HX.out.1.get hkl
   obtain ⟨g2, o2, u2, hay, hg2, hP2, hs2, hc2⟩ := HX.out.2.1.get hkl
   subst hax hay
   obtain ⟨c, hc⟩ := zE (l[k])
   have hBd : Below w.heap.size w wr.drew := HB.out.drew
   have HR := eqWait_same c wr.drew
   rw [hc] at hP1 hP2
   have hu1 : u1 = waV c := hP1
   have hu2 : u2 = waV c := hP2
   subst hu1 hu2
   have HS : Hid (∀ W, Below w.heap.size w W -> (W.cell? ⟨g1, o1 + k * 4, none⟩ = some (.int .i64 c.id) /\ W.cell? ⟨g1, o1 + k * 4 + 1, none⟩ = some (.int .i64 c.sent) /\ W.cell? ⟨g1, o1 + k * 4 + 2, none⟩ = some (.string c.text) /\ W.cell? ⟨g1, o1 + k * 4 + 3, none⟩ = some (.int .i64 c.due)) /\ (W.cell? ⟨g2, o2 + k * 4, none⟩ = some (.int .i64 c.id) /\ W.cell? ⟨g2, o2 + k * 4 + 1, none⟩ = some (.int .i64 c.sent) /\ W.cell? ⟨g2, o2 + k * 4 + 2, none⟩ = some (.string c.text) /\ W.cell? ⟨g2, o2 + k * 4 + 3, none⟩ = some (.int .i64 c.due))) := fun W hW =>
    ⟨⟨(hW.cell (p := ⟨g1, o1 + k * 4 + 0, none⟩) hg1).trans (hc1 0 _ rfl), (hW.cell (p := ⟨g1, o1 + k * 4 + 1, none⟩) hg1).trans (hc1 1 _ rfl), (hW.cell (p := ⟨g1, o1 + k * 4 + 2, none⟩) hg1).trans (hc1 2 _ rfl), (hW.cell (p := ⟨g1, o1 + k * 4 + 3, none⟩) hg1).trans (hc1 3 _ rfl)⟩, ⟨(hW.cell (p := ⟨g2, o2 + k * 4 + 0, none⟩) hg2).trans (hc2 0 _ rfl), (hW.cell (p := ⟨g2, o2 + k * 4 + 1, none⟩) hg2).trans (hc2 1 _ rfl), (hW.cell (p := ⟨g2, o2 + k * 4 + 2, none⟩) hg2).trans (hc2 2 _ rfl), (hW.cell (p := ⟨g2, o2 + k * 4 + 3, none⟩) hg2).trans (hc2 3 _ rfl)⟩⟩
   have hki : (k : Int) < (len : Int) := by omega
   have hk0 : (0 : Int) <= (k : Int) := by omega
   clear hc1 hc2 hP1 hP2 hs1 hs2 hg1 hg2 hc hkl
   go_upto_region 6 with fail
   refine wp_region_held_drew (S := fun W => Below w.heap.size w W) (by kernel_rfl) hBd (fun hHeld => ?_)
   clear hBd
   have HBW : Hid (Below w.heap.size w wr.drew) := hHeld
   refine zT 0 17 ?_ rfl (by rfl) ?_ hHeld ?_
   rotate_left
   ·intro W hSw
    go_simp
    try with_reducible rfl
   try simp only [Act.put, zA, zB, zC]
   refine zT 1 18 ?_ rfl (by rfl) ?_ hHeld ?_
   rotate_left
   ·intro W hSw
    go_simp
    try with_reducible rfl
   try simp only [Act.put, zA, zB, zC]
   refine zT 2 19 ?_ rfl (by rfl) ?_ hHeld ?_
   rotate_left
   ·intro W hSw
    go_simp
    try with_reducible rfl
   try simp only [Act.put, zA, zB, zC]
   refine zT 3 20 ?_ rfl (by rfl) ?_ hHeld ?_
   rotate_left
   ·intro W hSw
    obtain ⟨⟨e0, e1, e2, e3⟩, -⟩ := HS.out W hSw
    go_simp
    try with_reducible rfl
   try simp only [Act.put, zA, zB, zC]
   refine zT 4 21 ?_ rfl (by rfl) ?_ hHeld ?_
   rotate_left
   ·intro W hSw
    go_simp
    try with_reducible rfl
   try simp only [Act.put, zA, zB, zC]
   refine zT 5 22 ?_ rfl (by rfl) ?_ hHeld ?_
   rotate_left
   ·intro W hSw
    go_simp
    try with_reducible rfl
   try simp only [Act.put, zA, zB, zC]
   refine zT 6 23 ?_ rfl (by rfl) ?_ hHeld ?_
   rotate_left
   ·intro W hSw
    go_simp
    try with_reducible rfl
   try simp only [Act.put, zA, zB, zC]
   refine zT 7 24 ?_ rfl (by rfl) ?_ hHeld ?_
   rotate_left
   ·intro W hSw
    obtain ⟨-, e0, e1, e2, e3⟩ := HS.out W hSw
    go_simp
    try with_reducible rfl
   try simp only [Act.put, zA, zB, zC]
   refine wpAnyH_ready (rs := [8]) (by kernel_rfl) (by simp) ?_
   refine AllReadyH.cons (o := ⟨some 25, _, _, _, _, _⟩) rfl (fun K hK => ?_) AllReadyH.nil
   go_simp
   refine HR.mono ?_
   rintro e w3 ⟨rfl, hb3⟩
   have HB3 : Hid (Below w.heap.size w w3) := HBW.out.trans (hb3.mono HBW.out.size)
   clear hb3 HR HBW
   refine hK.out _ _ HB3.out (fun hHeld => ?_)
   clear hK K
   try simp only [Act.put, zA, zB, zC]
   refine zT 9 26 ?_ rfl (by rfl) ?_ hHeld ?_
   rotate_left
   ·intro W hSw
    go_simp
    try with_reducible rfl
   try simp only [Act.put, zA, zB, zC]
   refine wpAnyH_done (by kernel_rfl) ?_ _
   clear HS
   go_wp2_with fail
   go_roundw
   case rel => exact ⟨k + 1, by omega, by go_num, HB3.out⟩
   case measure => simp [intOf]; omega
  ·have hkl : k = len := by omega
   subst hkl
   go_wp2
   go_ret
   exact ⟨rfl, HB.out⟩
structure Cn where
 key : ByteArray
 now : Int
 waits : List Wa
 gots : List Gt
 late : List Int
def CnAt (w : World) (v : Value) (s : Cn) : Prop := ∃ v1 v2 v3, v = .agg #[.string s.key, .int .i64 s.now, v1, v2, v3] /\ AtS waKd w (v1) s.waits /\ AtX gtW w (v2) s.gots /\ AtI w (v3) s.late
theorem CnAt.shape {w : World} {v : Value} {s : Cn} (h : CnAt w v s) : ∃ a1 c1 a2 c2 a3 c3, v = .agg #[.string s.key, .int .i64 s.now, .slice a1 s.waits.length c1, .slice a2 s.gots.length c2, .slice a3 s.late.length c3] := by
 obtain ⟨v1, v2, v3, hv, h1, h2, h3⟩ := h
 obtain ⟨a1, c1, rfl⟩ := h1.shape
 obtain ⟨a2, c2, rfl⟩ := h2.shape
 obtain ⟨a3, c3, rfl⟩ := h3.shape
 exact ⟨a1, c1, a2, c2, a3, c3, hv⟩
theorem CnAt.rows {w : World} {v1 v2 v3 : Value} {s : Cn} (h : CnAt w (.agg #[.string s.key, .int .i64 s.now, v1, v2, v3]) s) : AtS waKd w (v1) s.waits /\ AtX gtW w (v2) s.gots /\ AtI w (v3) s.late := by
 obtain ⟨u1, u2, u3, hv, h1⟩ := h
 simp only [Value.agg.injEq, Array.mk.injEq, List.cons.injEq, and_true, true_and] at hv
 obtain ⟨rfl, rfl, rfl⟩ := hv
 exact h1
def OwnCn (bb : Bool) (w : World) (base : Nat) (v : Value) (s : Cn) (fp : List Nat) : Prop := ∃ v1 v2 v3 f1 f2 f3, v = .agg #[.string s.key, .int .i64 s.now, v1, v2, v3] /\ OwnS waKd w base (v1) s.waits f1 /\ OwnX (gtB bb) w base (v2) s.gots f2 /\ OwnIF w base (v3) s.late f3 /\ fp = f1 ++ (f2 ++ (f3)) /\ fp.Nodup
theorem OwnCn.at {bb : Bool} {w : World} {base : Nat} {v : Value} {s : Cn} {fp : List Nat} (h : OwnCn bb w base v s fp) : CnAt w v s := by
 obtain ⟨v1, v2, v3, f1, f2, f3, hv, h1, h2, h3, _, _⟩ := h
 exact ⟨v1, v2, v3, hv, h1.at, gtB_at h2.at, h3.at⟩
theorem OwnCn.same {bb : Bool} {w w' : World} {base : Nat} {v : Value} {s : Cn} {fp : List Nat} (h : OwnCn bb w base v s fp) (hs : ∀ b ∈ fp, w'.heap[b]? = w.heap[b]?) : OwnCn bb w' base v s fp := by
 obtain ⟨v1, v2, v3, f1, f2, f3, hv, h1, h2, h3, rfl, hn⟩ := h
 exact ⟨v1, v2, v3, f1, f2, f3, hv, h1.same (fun b hb => hs b (List.mem_append_left _ hb)), h2.same (fun b hb => hs b (List.mem_append_right _ (List.mem_append_left _ hb))), h3.same (fun b hb => hs b (List.mem_append_right _ (List.mem_append_right _ hb))), rfl, hn⟩
theorem OwnCn.lt {bb : Bool} {w : World} {base : Nat} {v : Value} {s : Cn} {fp : List Nat} (h : OwnCn bb w base v s fp) : ∀ b ∈ fp, base <= b /\ b < w.heap.size := by
 obtain ⟨v1, v2, v3, f1, f2, f3, hv, h1, h2, h3, rfl, hn⟩ := h
 intro b hb
 rcases List.mem_append.1 hb with hb | hb
 ·exact h1.lt b hb
 rcases List.mem_append.1 hb with hb | hb
 ·exact h2.lt b hb
 exact h3.lt b hb
theorem OwnCn.stays {bb : Bool} {w w' : World} {base : Nat} {v : Value} {s : Cn} {fp : List Nat} (h : OwnCn bb w base v s fp) (hb : Below w.heap.size w w') : OwnCn bb w' base v s fp := h.same fun b hm => hb.block b (h.lt b hm).2
end Go.Proofs.Ytagmnlmfoanelaa
