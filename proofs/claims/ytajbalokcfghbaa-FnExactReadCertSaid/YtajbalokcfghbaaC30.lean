/-
  Texts of the proof, one behind the other: CtB.
-/
import Derived.Recover
import Derived.Test.YtajbalokcfghbaaC25
import Derived.Test.YtajbalokcfghbaaC29

/-
  The program's readWhole of letters: what a reader finds in bytes, a reader's panic being caught.
-/
namespace Go.Proofs.Ytajbalokcfghbaa
open Go.RowKit Der
set_option linter.unusedVariables false
set_option linter.unusedSimpArgs false

theorem ta_misfit (w : World) : (Instr.typeAssert (.iface 113 (.agg #[])) 20 113 true).run Try.prog w = .ok (.tuple #[.agg #[], .bool true]) w := by kernel_rfl
set_option maxRecDepth 100000 in
theorem catch_idle (p q : Addr) (w : World) :
    CallsD Try.prog 95 #[.pointer (some p), .pointer (some q)] .returning w fun e u' w' => e = .returned (.tuple #[]) ∧ u' = .returning ∧ w' = w := by
  refine callsD_of_wpS Try.func95 rfl fun c₀ cs hu => ?_
  apply wpS_seq
  apply wpS_region
  simp [wpOpsS, go_sem, recoverD, hu, Try.ntmps95, Exit.thenS]
  change Code.wpS _ _ _ { tmps := #[.pointer (some p), .pointer (some q), undef, undef, undef, undef, .nilIface, undef, undef, undef, undef, undef, undef], defers := [] } _ _
  refine wpS_of_wp ?_
  go_wp2_with fail
  cases c₀
  simp_all [bodyPostS, results, Try.results95]
set_option maxHeartbeats 3200000 in
set_option maxRecDepth 100000 in
theorem catch_misfit (p q : Nat) (a0 a1 a2 a3 a4 a5 a6 a7 a8 a9 a10 a11 a12 : Value) (b : Value) (ta tb : TypeId) (older : List PanicEntry) (w : World) (hp : Blk w p ta #[a0, a1, a2, a3, a4, a5, a6, a7, a8, a9, a10, a11, a12]) (hq : Blk w q tb #[b]) (hne : p ≠ q) :
    CallsD Try.prog 95 #[.pointer (some ⟨p, 0, none⟩), .pointer (some ⟨q, 0, none⟩)] (.panicking ({ v := .iface 113 (.agg #[]), recovered := false } :: older)) w fun e u' w' =>
      e = .returned (.tuple #[]) ∧ u' = .panicking ({ v := .iface 113 (.agg #[]), recovered := true } :: older) ∧ Out [p, q] w w' ∧ Blk w' p ta #[.int .i64 0, .string ⟨#[]⟩, .string ⟨#[]⟩, .int .i64 0, .int .i64 0, .string ⟨#[]⟩, .bool false, .int .i64 0, .int .i64 0, .slice none 0 0, .slice none 0 0, .slice none 0 0, .string ⟨#[]⟩] ∧ Blk w' q tb #[.bool false] := by
  refine callsD_of_wpS Try.func95 rfl fun c₀ cs hu => ?_
  apply wpS_seq
  apply wpS_region
  simp [wpOpsS, go_sem, recoverD, hu, Try.ntmps95, Exit.thenS]
  change Code.wpS _ _ _ { tmps := #[.pointer (some ⟨p, 0, none⟩), .pointer (some ⟨q, 0, none⟩), undef, undef, undef, undef, .iface 113 (.agg #[]), undef, undef, undef, undef, undef, undef], defers := [] } _ _
  refine wpS_of_wp ?_
  have HPQ : Hid (Blk w p ta #[a0, a1, a2, a3, a4, a5, a6, a7, a8, a9, a10, a11, a12] ∧ Blk w q tb #[b] ∧ p ≠ q) := ⟨hp, hq, hne⟩
  clear hp hq hne
  have d0 : ∀ o o2, ((w.alloc o).alloc o2).cell? ⟨p, 0, none⟩ = some a0 := fun o o2 => ((HPQ.out.1.alloc o).alloc o2).cell 0
  have d1 : ∀ o o2, ((w.alloc o).alloc o2).cell? ⟨p, 1, none⟩ = some a1 := fun o o2 => ((HPQ.out.1.alloc o).alloc o2).cell 1
  have d2 : ∀ o o2, ((w.alloc o).alloc o2).cell? ⟨p, 2, none⟩ = some a2 := fun o o2 => ((HPQ.out.1.alloc o).alloc o2).cell 2
  have d3 : ∀ o o2, ((w.alloc o).alloc o2).cell? ⟨p, 3, none⟩ = some a3 := fun o o2 => ((HPQ.out.1.alloc o).alloc o2).cell 3
  have d4 : ∀ o o2, ((w.alloc o).alloc o2).cell? ⟨p, 4, none⟩ = some a4 := fun o o2 => ((HPQ.out.1.alloc o).alloc o2).cell 4
  have d5 : ∀ o o2, ((w.alloc o).alloc o2).cell? ⟨p, 5, none⟩ = some a5 := fun o o2 => ((HPQ.out.1.alloc o).alloc o2).cell 5
  have d6 : ∀ o o2, ((w.alloc o).alloc o2).cell? ⟨p, 6, none⟩ = some a6 := fun o o2 => ((HPQ.out.1.alloc o).alloc o2).cell 6
  have d7 : ∀ o o2, ((w.alloc o).alloc o2).cell? ⟨p, 7, none⟩ = some a7 := fun o o2 => ((HPQ.out.1.alloc o).alloc o2).cell 7
  have d8 : ∀ o o2, ((w.alloc o).alloc o2).cell? ⟨p, 8, none⟩ = some a8 := fun o o2 => ((HPQ.out.1.alloc o).alloc o2).cell 8
  have d9 : ∀ o o2, ((w.alloc o).alloc o2).cell? ⟨p, 9, none⟩ = some a9 := fun o o2 => ((HPQ.out.1.alloc o).alloc o2).cell 9
  have d10 : ∀ o o2, ((w.alloc o).alloc o2).cell? ⟨p, 10, none⟩ = some a10 := fun o o2 => ((HPQ.out.1.alloc o).alloc o2).cell 10
  have d11 : ∀ o o2, ((w.alloc o).alloc o2).cell? ⟨p, 11, none⟩ = some a11 := fun o o2 => ((HPQ.out.1.alloc o).alloc o2).cell 11
  have d12 : ∀ o o2, ((w.alloc o).alloc o2).cell? ⟨p, 12, none⟩ = some a12 := fun o o2 => ((HPQ.out.1.alloc o).alloc o2).cell 12
  have dz : ∀ o o2 j, ((w.alloc o).alloc o2).frozen? ⟨p, j, none⟩ = false := fun o o2 j => ((HPQ.out.1.alloc o).alloc o2).free j
  have e0 : ∀ o o2, ((w.alloc o).alloc o2).cell? ⟨q, 0, none⟩ = some b := fun o o2 => ((HPQ.out.2.1.alloc o).alloc o2).cell 0
  have ez : ∀ o o2, ((w.alloc o).alloc o2).frozen? ⟨q, 0, none⟩ = false := fun o o2 => ((HPQ.out.2.1.alloc o).alloc o2).free 0
  have n1 : ¬ p = q := HPQ.out.2.2
  have n2 : ¬ q = p := fun e => HPQ.out.2.2 e.symm
  have TA := ta_misfit
  go_wp2_with fail
  generalize hV : World.setCell _ { block := q, off := 0 } (Value.bool false) = V
  have FIN : Out [p, q] w V ∧ Blk V p ta #[.int .i64 0, .string ⟨#[]⟩, .string ⟨#[]⟩, .int .i64 0, .int .i64 0, .string ⟨#[]⟩, .bool false, .int .i64 0, .int .i64 0, .slice none 0 0, .slice none 0 0, .slice none 0 0, .string ⟨#[]⟩] ∧ Blk V q tb #[.bool false] := by
    rw [← hV]
    refine ⟨?_, ?_, ?_⟩
    · iterate 14 refine Out.setCell ?_ _ _ (by simp)
      exact ((Out.refl _ _).alloc _).alloc _
    · refine Blk.other ?_ _ n1
      exact set13 ((HPQ.out.1.alloc _).alloc _)
    · refine Blk.set (vs := #[b]) ?_ 0 _
      iterate 13 refine Blk.other ?_ _ n2
      exact (HPQ.out.2.1.alloc _).alloc _
  clear hV
  cases c₀
  simp_all [bodyPostS, results, Try.results95]
/-- What readWhole of letters leaves. -/
def RwPost (w : World) (m : Nat) (T : ByteArray) (e : Ending) (W' : World) : Prop := Below w.heap.size w W' ∧
  (((readG (m + 3 + 1) T.data.toList).bind (letP (m := m)) = none ∧ e = .returned (.tuple #[.agg #[.int .i64 0, .string ⟨#[]⟩, .string ⟨#[]⟩, .int .i64 0, .int .i64 0, .string ⟨#[]⟩, .bool false, .int .i64 0, .int .i64 0, .slice none 0 0, .slice none 0 0, .slice none 0 0, .string ⟨#[]⟩], .bool false])) ∨ ∃ (x : It (m + 4)) (c : Ct) (u : Value), readG (m + 3 + 1) T.data.toList = some x ∧ szI (m + 4) x ≤ 4000 ∧ letP x = some c ∧ e = .returned (.tuple #[u, .bool true]) ∧ OwnC W' w.heap.size u c)
set_option maxHeartbeats 12800000 in
set_option maxRecDepth 100000 in
theorem readWhole_any (m : Nat) (hm : 4000 ≤ m + 3) (T : ByteArray) (w : World) (hT : T.size ≤ 1000000000000) :
    Calls Try.prog 53 #[.string T, .func (.func 54) #[] #[]] w fun e W' => RwPost w m T e W' := by
  have hmf : ∀ (fn : Fn) (first cap : Array Value) (w : World), (Instr.makeFunc fn first cap).run Try.prog w = .ok (.func fn first cap) w := fun _ _ _ _ => rfl
  obtain ⟨W1, hW1⟩ : ∃ V, V = (w.alloc (Obj.cells #[.int .i64 0, .string ⟨#[]⟩, .string ⟨#[]⟩, .int .i64 0, .int .i64 0, .string ⟨#[]⟩, .bool false, .int .i64 0, .int .i64 0, .slice none 0 0, .slice none 0 0, .slice none 0 0, .string ⟨#[]⟩] 29)).alloc (Obj.cells #[.bool false] 4) := ⟨_, rfl⟩
  have E1 := implRead_any (m + 3) hm T W1 hT
  go_enter_defers Try.func53, Try.ntmps53
  go_wp2_with fail
  rw [← hW1]
  have e0 : (w.alloc (Obj.cells #[.int .i64 0, .string ⟨#[]⟩, .string ⟨#[]⟩, .int .i64 0, .int .i64 0, .string ⟨#[]⟩, .bool false, .int .i64 0, .int .i64 0, .slice none 0 0, .slice none 0 0, .slice none 0 0, .string ⟨#[]⟩] 29)).heap.size = w.heap.size + 1 := Array.size_push _
  have hb1 : Below w.heap.size w W1 := by rw [hW1]; exact ((Below.refl _ _).alloc (Nat.le_refl _) _).alloc (by rw [e0]; omega) _
  have hv1 : Blk W1 w.heap.size 29 #[.int .i64 0, .string ⟨#[]⟩, .string ⟨#[]⟩, .int .i64 0, .int .i64 0, .string ⟨#[]⟩, .bool false, .int .i64 0, .int .i64 0, .slice none 0 0, .slice none 0 0, .slice none 0 0, .string ⟨#[]⟩] := by rw [hW1]; exact (Blk.new w _ _).alloc _
  have hv2 : Blk W1 (w.heap.size + 1) 4 #[.bool false] := by
    rw [hW1]
    have h := Blk.new (w.alloc (Obj.cells #[.int .i64 0, .string ⟨#[]⟩, .string ⟨#[]⟩, .int .i64 0, .int .i64 0, .string ⟨#[]⟩, .bool false, .int .i64 0, .int .i64 0, .slice none 0 0, .slice none 0 0, .slice none 0 0, .string ⟨#[]⟩] 29)) 4 #[.bool false]
    rw [e0] at h
    exact h
  have hs1 : W1.heap.size = w.heap.size + 2 := by rw [hW1, size_alloc, e0]
  have HB : Hid (Below w.heap.size w W1) := hb1
  have VC : Hid (Blk W1 w.heap.size 29 #[.int .i64 0, .string ⟨#[]⟩, .string ⟨#[]⟩, .int .i64 0, .int .i64 0, .string ⟨#[]⟩, .bool false, .int .i64 0, .int .i64 0, .slice none 0 0, .slice none 0 0, .slice none 0 0, .string ⟨#[]⟩]) := hv1
  have VK : Hid (Blk W1 (w.heap.size + 1) 4 #[.bool false]) := hv2
  have O0 : Hid (W1.heap.size = w.heap.size + 2) := hs1
  clear hW1 e0 hb1 hv1 hv2 hs1
  refine E1.mono ?_
  rintro e w2 ⟨hb2, ⟨hn, rfl⟩ | ⟨x, t, s, ax, l, cx, fp, hx, rfl, hsz, ht, hs, hown⟩⟩
  clear E1
  · have HNN : Hid (readG (m + 3 + 1) T.data.toList = none) := hn
    clear hn
    have HBn : Hid (Below w.heap.size w w2) := HB.out.trans (hb2.mono HB.out.size)
    clear HB
    have HB := HBn
    clear HBn
    have VCn : Hid (Blk w2 w.heap.size 29 #[.int .i64 0, .string ⟨#[]⟩, .string ⟨#[]⟩, .int .i64 0, .int .i64 0, .string ⟨#[]⟩, .bool false, .int .i64 0, .int .i64 0, .slice none 0 0, .slice none 0 0, .slice none 0 0, .string ⟨#[]⟩]) := VC.out.on hb2
    clear VC
    have VC := VCn
    clear VCn
    have VKn : Hid (Blk w2 (w.heap.size + 1) 4 #[.bool false]) := VK.out.on hb2
    clear VK
    have VK := VKn
    clear VKn
    have O1 : Hid (W1.heap.size ≤ w2.heap.size) := hb2.size
    clear hb2
    go_wp2_with fail
    obtain ⟨W3, hW3⟩ : ∃ V, V = w2.alloc (Obj.cells #[.int .i64 0, .string ⟨#[]⟩, .slice none 0 0] 60) := ⟨_, rfl⟩
    rw [← hW3]
    have hb3 : Below w2.heap.size w2 W3 := by rw [hW3]; exact (Below.refl _ _).alloc (Nat.le_refl _) _
    have HBn : Hid (Below w.heap.size w W3) := HB.out.trans (hb3.mono HB.out.size)
    clear HB
    have HB := HBn
    clear HBn
    have VCn : Hid (Blk W3 w.heap.size 29 #[.int .i64 0, .string ⟨#[]⟩, .string ⟨#[]⟩, .int .i64 0, .int .i64 0, .string ⟨#[]⟩, .bool false, .int .i64 0, .int .i64 0, .slice none 0 0, .slice none 0 0, .slice none 0 0, .string ⟨#[]⟩]) := VC.out.on hb3
    clear VC
    have VC := VCn
    clear VCn
    have VKn : Hid (Blk W3 (w.heap.size + 1) 4 #[.bool false]) := VK.out.on hb3
    clear VK
    have VK := VKn
    clear VKn
    have O2 : Hid (w2.heap.size ≤ W3.heap.size) := hb3.size
    clear hW3 hb3
    refine (mustFit_no W3).mono ?_
    rintro e w4 ⟨rfl, hw4⟩
    subst hw4
    have VCn : Blk W3 w.heap.size 29 #[.int .i64 0, .string ⟨#[]⟩, .string ⟨#[]⟩, .int .i64 0, .int .i64 0, .string ⟨#[]⟩, .bool false, .int .i64 0, .int .i64 0, .slice none 0 0, .slice none 0 0, .slice none 0 0, .string ⟨#[]⟩] := VC.out
    have VKn : Blk W3 (w.heap.size + 1) 4 #[.bool false] := VK.out
    have HBn : Below w.heap.size w W3 := HB.out
    have HF : Hid ((readG (m + 3 + 1) T.data.toList).bind (letP (m := m)) = none) := by
      show _ = none
      rw [HNN.out]; rfl
    have EC := catch_misfit w.heap.size (w.heap.size + 1) (.int .i64 0) (.string ⟨#[]⟩) (.string ⟨#[]⟩) (.int .i64 0) (.int .i64 0) (.string ⟨#[]⟩) (.bool false) (.int .i64 0) (.int .i64 0) (.slice none 0 0) (.slice none 0 0) (.slice none 0 0) (.string ⟨#[]⟩) (.bool false) 29 4 [] W3 VCn VKn (by omega)
    have HE : Hid (Below w.heap.size w W3 ∧ w.heap.size ≤ W3.heap.size) := ⟨HBn, HBn.size⟩
    clear VCn VKn HBn VC VK HB
    unfold misfit
    go_wp2_with fail
    refine leaves_cons (f := 95) (args := #[.pointer (some ⟨w.heap.size, 0, none⟩), .pointer (some ⟨w.heap.size + 1, 0, none⟩)]) (by simp) (by simp [go_sem]) ?_
    refine EC.mono ?_
    rintro e u' W9 ⟨rfl, rfl, ho9, hC9, hK9⟩
    have HE9 : Hid (RwPost w m T (.returned (.tuple #[.agg #[.int .i64 0, .string ⟨#[]⟩, .string ⟨#[]⟩, .int .i64 0, .int .i64 0, .string ⟨#[]⟩, .bool false, .int .i64 0, .int .i64 0, .slice none 0 0, .slice none 0 0, .slice none 0 0, .string ⟨#[]⟩], .bool false])) W9) := ⟨HE.out.1.trans (ho9.below (fun b hb => by simp at hb; rcases hb with rfl | rfl <;> omega) HE.out.2), .inl ⟨HF.out, rfl⟩⟩
    have q0 : W9.cell? ⟨w.heap.size, 0, none⟩ = some (.int .i64 0) := hC9.cell 0
    have q1 : W9.cell? ⟨w.heap.size, 1, none⟩ = some (.string ⟨#[]⟩) := hC9.cell 1
    have q2 : W9.cell? ⟨w.heap.size, 2, none⟩ = some (.string ⟨#[]⟩) := hC9.cell 2
    have q3 : W9.cell? ⟨w.heap.size, 3, none⟩ = some (.int .i64 0) := hC9.cell 3
    have q4 : W9.cell? ⟨w.heap.size, 4, none⟩ = some (.int .i64 0) := hC9.cell 4
    have q5 : W9.cell? ⟨w.heap.size, 5, none⟩ = some (.string ⟨#[]⟩) := hC9.cell 5
    have q6 : W9.cell? ⟨w.heap.size, 6, none⟩ = some (.bool false) := hC9.cell 6
    have q7 : W9.cell? ⟨w.heap.size, 7, none⟩ = some (.int .i64 0) := hC9.cell 7
    have q8 : W9.cell? ⟨w.heap.size, 8, none⟩ = some (.int .i64 0) := hC9.cell 8
    have q9 : W9.cell? ⟨w.heap.size, 9, none⟩ = some (.slice none 0 0) := hC9.cell 9
    have q10 : W9.cell? ⟨w.heap.size, 10, none⟩ = some (.slice none 0 0) := hC9.cell 10
    have q11 : W9.cell? ⟨w.heap.size, 11, none⟩ = some (.slice none 0 0) := hC9.cell 11
    have q12 : W9.cell? ⟨w.heap.size, 12, none⟩ = some (.string ⟨#[]⟩) := hC9.cell 12
    have q13 : W9.cell? ⟨w.heap.size + 1, 0, none⟩ = some (.bool false) := hK9.cell 0
    clear EC ho9 hC9 hK9 HE
    have HE8 := HE9.out
    clear HE9
    generalize hL : RwPost w m T = LP at HE8 ⊢
    simp [Leaves, settle, results, Try.results53, go_sem, q0, q1, q2, q3, q4, q5, q6, q7, q8, q9, q10, q11, q12, q13]
    exact HE8
  · have HX : Hid (readG (m + 3 + 1) T.data.toList = some x ∧ szI (m + 4) x ≤ 4000 ∧ It.tag x = t) := ⟨hx, hsz, ht⟩
    have hkc : KcAt w2 (m + 3) (.slice ax l cx) (It.kids x) := KcAt.of hown
    clear hx ht hs hown
    have HBn : Hid (Below w.heap.size w w2) := HB.out.trans (hb2.mono HB.out.size)
    clear HB
    have HB := HBn
    clear HBn
    have VCn : Hid (Blk w2 w.heap.size 29 #[.int .i64 0, .string ⟨#[]⟩, .string ⟨#[]⟩, .int .i64 0, .int .i64 0, .string ⟨#[]⟩, .bool false, .int .i64 0, .int .i64 0, .slice none 0 0, .slice none 0 0, .slice none 0 0, .string ⟨#[]⟩]) := VC.out.on hb2
    clear VC
    have VC := VCn
    clear VCn
    have VKn : Hid (Blk w2 (w.heap.size + 1) 4 #[.bool false]) := VK.out.on hb2
    clear VK
    have VK := VKn
    clear VKn
    have O1 : Hid (W1.heap.size ≤ w2.heap.size) := hb2.size
    clear hb2
    go_wp2_with fail
    obtain ⟨W3, hW3⟩ : ∃ V, V = w2.alloc (Obj.cells #[.int .i64 t, .string s, .slice ax l cx] 60) := ⟨_, rfl⟩
    rw [← hW3]
    have hb3 : Below w2.heap.size w2 W3 := by rw [hW3]; exact (Below.refl _ _).alloc (Nat.le_refl _) _
    have hv3 : Blk W3 w2.heap.size 60 #[.int .i64 t, .string s, .slice ax l cx] := by rw [hW3]; exact Blk.new _ _ _
    have KW : Hid (KcAt W3 (m + 3) (.slice ax l cx) (It.kids x) ∧ SzL (It.kids x)) := ⟨hkc.below hb3, SzL.kids (show SzL [x] from ⟨by simp, fun y hy => by rw [List.mem_singleton.1 hy]; exact Nat.le_trans hsz (by decide)⟩)⟩
    have HBn : Hid (Below w.heap.size w W3) := HB.out.trans (hb3.mono HB.out.size)
    clear HB
    have HB := HBn
    clear HBn
    have VCn : Hid (Blk W3 w.heap.size 29 #[.int .i64 0, .string ⟨#[]⟩, .string ⟨#[]⟩, .int .i64 0, .int .i64 0, .string ⟨#[]⟩, .bool false, .int .i64 0, .int .i64 0, .slice none 0 0, .slice none 0 0, .slice none 0 0, .string ⟨#[]⟩]) := VC.out.on hb3
    clear VC
    have VC := VCn
    clear VCn
    have VKn : Hid (Blk W3 (w.heap.size + 1) 4 #[.bool false]) := VK.out.on hb3
    clear VK
    have VK := VKn
    clear VKn
    have O2 : Hid (w2.heap.size ≤ W3.heap.size) := hb3.size
    have O3 : Hid (w2.heap.size < W3.heap.size) := hv3.lt
    clear hW3 hb3 hkc hsz
    refine (mustFit_yes W3).mono ?_
    rintro e w4 ⟨rfl, hw4⟩
    subst hw4
    have i0 : W3.cell? ⟨w2.heap.size, 0, none⟩ = some (.int .i64 t) := hv3.cell 0
    have i1 : W3.cell? ⟨w2.heap.size, 1, none⟩ = some (.string s) := hv3.cell 1
    have i2 : W3.cell? ⟨w2.heap.size, 2, none⟩ = some (.slice ax l cx) := hv3.cell 2
    go_wp2_with fail
    clear i0 i1 i2 hv3
    refine (readerOf_any t s ax l cx W3).mono ?_
    rintro e w5 ⟨hb, ⟨hn, rfl⟩ | ⟨hn, gw, hgw, rfl, hBw⟩⟩
    · skip
      have VCn : Blk w5 w.heap.size 29 #[.int .i64 0, .string ⟨#[]⟩, .string ⟨#[]⟩, .int .i64 0, .int .i64 0, .string ⟨#[]⟩, .bool false, .int .i64 0, .int .i64 0, .slice none 0 0, .slice none 0 0, .slice none 0 0, .string ⟨#[]⟩] := VC.out.on hb
      have VKn : Blk w5 (w.heap.size + 1) 4 #[.bool false] := VK.out.on hb
      have HBn : Below w.heap.size w w5 := HB.out.trans (hb.mono HB.out.size)
      have HF : Hid ((readG (m + 3 + 1) T.data.toList).bind (letP (m := m)) = none) := by
        show _ = none
        rw [HX.out.1]; show letP x = none; rw [letP_whole, if_neg (by rw [HX.out.2.2]; exact hn)]
      have EC := catch_misfit w.heap.size (w.heap.size + 1) (.int .i64 0) (.string ⟨#[]⟩) (.string ⟨#[]⟩) (.int .i64 0) (.int .i64 0) (.string ⟨#[]⟩) (.bool false) (.int .i64 0) (.int .i64 0) (.slice none 0 0) (.slice none 0 0) (.slice none 0 0) (.string ⟨#[]⟩) (.bool false) 29 4 [] w5 VCn VKn (by omega)
      have HE : Hid (Below w.heap.size w w5 ∧ w.heap.size ≤ w5.heap.size) := ⟨HBn, HBn.size⟩
      clear VCn VKn HBn hn hb
      unfold misfit
      go_wp2_with fail
      refine leaves_cons (f := 95) (args := #[.pointer (some ⟨w.heap.size, 0, none⟩), .pointer (some ⟨w.heap.size + 1, 0, none⟩)]) (by simp) (by simp [go_sem]) ?_
      refine EC.mono ?_
      rintro e u' W9 ⟨rfl, rfl, ho9, hC9, hK9⟩
      have HE9 : Hid (RwPost w m T (.returned (.tuple #[.agg #[.int .i64 0, .string ⟨#[]⟩, .string ⟨#[]⟩, .int .i64 0, .int .i64 0, .string ⟨#[]⟩, .bool false, .int .i64 0, .int .i64 0, .slice none 0 0, .slice none 0 0, .slice none 0 0, .string ⟨#[]⟩], .bool false])) W9) := ⟨HE.out.1.trans (ho9.below (fun b hb => by simp at hb; rcases hb with rfl | rfl <;> omega) HE.out.2), .inl ⟨HF.out, rfl⟩⟩
      have q0 : W9.cell? ⟨w.heap.size, 0, none⟩ = some (.int .i64 0) := hC9.cell 0
      have q1 : W9.cell? ⟨w.heap.size, 1, none⟩ = some (.string ⟨#[]⟩) := hC9.cell 1
      have q2 : W9.cell? ⟨w.heap.size, 2, none⟩ = some (.string ⟨#[]⟩) := hC9.cell 2
      have q3 : W9.cell? ⟨w.heap.size, 3, none⟩ = some (.int .i64 0) := hC9.cell 3
      have q4 : W9.cell? ⟨w.heap.size, 4, none⟩ = some (.int .i64 0) := hC9.cell 4
      have q5 : W9.cell? ⟨w.heap.size, 5, none⟩ = some (.string ⟨#[]⟩) := hC9.cell 5
      have q6 : W9.cell? ⟨w.heap.size, 6, none⟩ = some (.bool false) := hC9.cell 6
      have q7 : W9.cell? ⟨w.heap.size, 7, none⟩ = some (.int .i64 0) := hC9.cell 7
      have q8 : W9.cell? ⟨w.heap.size, 8, none⟩ = some (.int .i64 0) := hC9.cell 8
      have q9 : W9.cell? ⟨w.heap.size, 9, none⟩ = some (.slice none 0 0) := hC9.cell 9
      have q10 : W9.cell? ⟨w.heap.size, 10, none⟩ = some (.slice none 0 0) := hC9.cell 10
      have q11 : W9.cell? ⟨w.heap.size, 11, none⟩ = some (.slice none 0 0) := hC9.cell 11
      have q12 : W9.cell? ⟨w.heap.size, 12, none⟩ = some (.string ⟨#[]⟩) := hC9.cell 12
      have q13 : W9.cell? ⟨w.heap.size + 1, 0, none⟩ = some (.bool false) := hK9.cell 0
      clear EC ho9 hC9 hK9 HE
      have HE8 := HE9.out
      clear HE9
      generalize hL : RwPost w m T = LP at HE8 ⊢
      simp [Leaves, settle, results, Try.results53, go_sem, q0, q1, q2, q3, q4, q5, q6, q7, q8, q9, q10, q11, q12, q13]
      exact HE8
    have NT : Hid (It.tag x = 48) := by show It.tag x = 48; rw [HX.out.2.2]; exact hn
    have HB3 : Hid (Below W3.heap.size W3 w5) := hb
    have HBn : Hid (Below w.heap.size w w5) := HB.out.trans (hb.mono HB.out.size)
    clear HB
    have HB := HBn
    clear HBn
    have VCn : Hid (Blk w5 w.heap.size 29 #[.int .i64 0, .string ⟨#[]⟩, .string ⟨#[]⟩, .int .i64 0, .int .i64 0, .string ⟨#[]⟩, .bool false, .int .i64 0, .int .i64 0, .slice none 0 0, .slice none 0 0, .slice none 0 0, .string ⟨#[]⟩]) := VC.out.on hb
    clear VC
    have VC := VCn
    clear VCn
    have VKn : Hid (Blk w5 (w.heap.size + 1) 4 #[.bool false]) := VK.out.on hb
    clear VK
    have VK := VKn
    clear VKn
    have O4 : Hid (W3.heap.size ≤ w5.heap.size) := hb.size
    have O5 : Hid (W3.heap.size ≤ gw ∧ gw < w5.heap.size) := ⟨hgw, hBw.lt⟩
    have RW : Hid (Blk w5 gw 139 #[.slice ax l cx]) := hBw
    clear hn hb hgw hBw
    go_wp2_with fail
    refine (letter_any W3 w5 gw m (.slice ax l cx) (It.kids x) HB3.out KW.out.1 RW.out (by have := O0.out; have := O1.out; have := O2.out; have := O3.out; have := O4.out; have := O5.out; omega) KW.out.2).mono ?_
    rintro e w6 ⟨ho, ⟨hn, rfl⟩ | ⟨c, u6, v6, hn, rfl, hown, hB⟩⟩
    · skip
      have VCn : Blk w6 w.heap.size 29 #[.int .i64 0, .string ⟨#[]⟩, .string ⟨#[]⟩, .int .i64 0, .int .i64 0, .string ⟨#[]⟩, .bool false, .int .i64 0, .int .i64 0, .slice none 0 0, .slice none 0 0, .slice none 0 0, .string ⟨#[]⟩] := VC.out.outX ho (by have := O0.out; have := O1.out; have := O2.out; have := O3.out; have := O4.out; have := O5.out; simp <;> omega)
      have VKn : Blk w6 (w.heap.size + 1) 4 #[.bool false] := VK.out.outX ho (by have := O0.out; have := O1.out; have := O2.out; have := O3.out; have := O4.out; have := O5.out; simp <;> omega)
      have HBn : Below w.heap.size w w6 := below_out HB.out ho (by have := O0.out; have := O1.out; have := O2.out; have := O3.out; have := O4.out; have := O5.out; omega)
      have HF : Hid ((readG (m + 3 + 1) T.data.toList).bind (letP (m := m)) = none) := by
        show _ = none
        rw [HX.out.1]; show letP x = none; rw [letP_whole, if_pos NT.out]; exact hn
      have EC := catch_misfit w.heap.size (w.heap.size + 1) (.int .i64 0) (.string ⟨#[]⟩) (.string ⟨#[]⟩) (.int .i64 0) (.int .i64 0) (.string ⟨#[]⟩) (.bool false) (.int .i64 0) (.int .i64 0) (.slice none 0 0) (.slice none 0 0) (.slice none 0 0) (.string ⟨#[]⟩) (.bool false) 29 4 [] w6 VCn VKn (by omega)
      have HE : Hid (Below w.heap.size w w6 ∧ w.heap.size ≤ w6.heap.size) := ⟨HBn, HBn.size⟩
      clear VCn VKn HBn hn ho
      unfold misfit
      go_wp2_with fail
      refine leaves_cons (f := 95) (args := #[.pointer (some ⟨w.heap.size, 0, none⟩), .pointer (some ⟨w.heap.size + 1, 0, none⟩)]) (by simp) (by simp [go_sem]) ?_
      refine EC.mono ?_
      rintro e u' W9 ⟨rfl, rfl, ho9, hC9, hK9⟩
      have HE9 : Hid (RwPost w m T (.returned (.tuple #[.agg #[.int .i64 0, .string ⟨#[]⟩, .string ⟨#[]⟩, .int .i64 0, .int .i64 0, .string ⟨#[]⟩, .bool false, .int .i64 0, .int .i64 0, .slice none 0 0, .slice none 0 0, .slice none 0 0, .string ⟨#[]⟩], .bool false])) W9) := ⟨HE.out.1.trans (ho9.below (fun b hb => by simp at hb; rcases hb with rfl | rfl <;> omega) HE.out.2), .inl ⟨HF.out, rfl⟩⟩
      have q0 : W9.cell? ⟨w.heap.size, 0, none⟩ = some (.int .i64 0) := hC9.cell 0
      have q1 : W9.cell? ⟨w.heap.size, 1, none⟩ = some (.string ⟨#[]⟩) := hC9.cell 1
      have q2 : W9.cell? ⟨w.heap.size, 2, none⟩ = some (.string ⟨#[]⟩) := hC9.cell 2
      have q3 : W9.cell? ⟨w.heap.size, 3, none⟩ = some (.int .i64 0) := hC9.cell 3
      have q4 : W9.cell? ⟨w.heap.size, 4, none⟩ = some (.int .i64 0) := hC9.cell 4
      have q5 : W9.cell? ⟨w.heap.size, 5, none⟩ = some (.string ⟨#[]⟩) := hC9.cell 5
      have q6 : W9.cell? ⟨w.heap.size, 6, none⟩ = some (.bool false) := hC9.cell 6
      have q7 : W9.cell? ⟨w.heap.size, 7, none⟩ = some (.int .i64 0) := hC9.cell 7
      have q8 : W9.cell? ⟨w.heap.size, 8, none⟩ = some (.int .i64 0) := hC9.cell 8
      have q9 : W9.cell? ⟨w.heap.size, 9, none⟩ = some (.slice none 0 0) := hC9.cell 9
      have q10 : W9.cell? ⟨w.heap.size, 10, none⟩ = some (.slice none 0 0) := hC9.cell 10
      have q11 : W9.cell? ⟨w.heap.size, 11, none⟩ = some (.slice none 0 0) := hC9.cell 11
      have q12 : W9.cell? ⟨w.heap.size, 12, none⟩ = some (.string ⟨#[]⟩) := hC9.cell 12
      have q13 : W9.cell? ⟨w.heap.size + 1, 0, none⟩ = some (.bool false) := hK9.cell 0
      clear EC ho9 hC9 hK9 HE
      have HE8 := HE9.out
      clear HE9
      generalize hL : RwPost w m T = LP at HE8 ⊢
      simp [Leaves, settle, results, Try.results53, go_sem, q0, q1, q2, q3, q4, q5, q6, q7, q8, q9, q10, q11, q12, q13]
      exact HE8
    have HL : Hid (letP x = some c) := by show letP x = _; rw [letP_whole, if_pos NT.out]; exact hn
    have HBn : Hid (Below w.heap.size w w6) := below_out HB.out ho (by have := O0.out; have := O1.out; have := O2.out; have := O3.out; have := O4.out; have := O5.out; omega)
    clear HB
    have HB := HBn
    clear HBn
    have VCn : Hid (Blk w6 w.heap.size 29 #[.int .i64 0, .string ⟨#[]⟩, .string ⟨#[]⟩, .int .i64 0, .int .i64 0, .string ⟨#[]⟩, .bool false, .int .i64 0, .int .i64 0, .slice none 0 0, .slice none 0 0, .slice none 0 0, .string ⟨#[]⟩]) := VC.out.outX ho (by have := O0.out; have := O1.out; have := O2.out; have := O3.out; have := O4.out; have := O5.out; simp <;> omega)
    clear VC
    have VC := VCn
    clear VCn
    have VKn : Hid (Blk w6 (w.heap.size + 1) 4 #[.bool false]) := VK.out.outX ho (by have := O0.out; have := O1.out; have := O2.out; have := O3.out; have := O4.out; have := O5.out; simp <;> omega)
    clear VK
    have VK := VKn
    clear VKn
    have O6 : Hid (w5.heap.size ≤ w6.heap.size) := ho.size
    obtain ⟨pX, qX, eX, rX, dX, sX, hu⟩ := CtAt.shape hown.at
    subst hu
    unfold ctV at hown ⊢
    have LX : Hid (∀ b ∈ fpC (.agg #[.int .i64 c.serial, .string c.issuer, .string c.subject, .int .i64 c.frm, .int .i64 c.upto, .string c.key, .bool c.ca, .int .i64 c.pathLen, .int .i64 c.usage, .slice pX c.pol.length qX, .slice eX c.per.length rX, .slice dX c.den.length sX, .string c.sig]), w5.heap.size ≤ b ∧ b < w6.heap.size) := fpC_lt hown
    have HX6 : Hid (OwnC w6 w5.heap.size (.agg #[.int .i64 c.serial, .string c.issuer, .string c.subject, .int .i64 c.frm, .int .i64 c.upto, .string c.key, .bool c.ca, .int .i64 c.pathLen, .int .i64 c.usage, .slice pX c.pol.length qX, .slice eX c.per.length rX, .slice dX c.den.length sX, .string c.sig]) c) := hown
    clear hn ho hown hB RW KW HB3
    have c10 : w6.cell? ⟨w.heap.size, 0, none⟩ = some (.int .i64 0) := VC.out.cell 0
    have c11 : w6.cell? ⟨w.heap.size, 1, none⟩ = some (.string ⟨#[]⟩) := VC.out.cell 1
    have c12 : w6.cell? ⟨w.heap.size, 2, none⟩ = some (.string ⟨#[]⟩) := VC.out.cell 2
    have c13 : w6.cell? ⟨w.heap.size, 3, none⟩ = some (.int .i64 0) := VC.out.cell 3
    have c14 : w6.cell? ⟨w.heap.size, 4, none⟩ = some (.int .i64 0) := VC.out.cell 4
    have c15 : w6.cell? ⟨w.heap.size, 5, none⟩ = some (.string ⟨#[]⟩) := VC.out.cell 5
    have c16 : w6.cell? ⟨w.heap.size, 6, none⟩ = some (.bool false) := VC.out.cell 6
    have c17 : w6.cell? ⟨w.heap.size, 7, none⟩ = some (.int .i64 0) := VC.out.cell 7
    have c18 : w6.cell? ⟨w.heap.size, 8, none⟩ = some (.int .i64 0) := VC.out.cell 8
    have c19 : w6.cell? ⟨w.heap.size, 9, none⟩ = some (.slice none 0 0) := VC.out.cell 9
    have c110 : w6.cell? ⟨w.heap.size, 10, none⟩ = some (.slice none 0 0) := VC.out.cell 10
    have c111 : w6.cell? ⟨w.heap.size, 11, none⟩ = some (.slice none 0 0) := VC.out.cell 11
    have c112 : w6.cell? ⟨w.heap.size, 12, none⟩ = some (.string ⟨#[]⟩) := VC.out.cell 12
    have f1 := fun j => VC.out.free j
    have k1 : w6.cell? ⟨w.heap.size + 1, 0, none⟩ = some (.bool false) := VK.out.cell 0
    have k2 := fun j => VK.out.free j
    have n1 : ¬ w.heap.size = w.heap.size + 1 := by omega
    have n2 : ¬ w.heap.size + 1 = w.heap.size := by omega
    go_wp2_with fail
    clear f1 k1 k2 n1 n2 c10 c11 c12 c13 c14 c15 c16 c17 c18 c19 c110 c111 c112
    generalize hV8 : World.setCell _ { block := w.heap.size + 1, off := 0 } (Value.bool true) = V8
    have FIN : Out [w.heap.size, w.heap.size + 1] w6 V8 ∧ Blk V8 w.heap.size 29 #[.int .i64 c.serial, .string c.issuer, .string c.subject, .int .i64 c.frm, .int .i64 c.upto, .string c.key, .bool c.ca, .int .i64 c.pathLen, .int .i64 c.usage, .slice pX c.pol.length qX, .slice eX c.per.length rX, .slice dX c.den.length sX, .string c.sig] ∧ Blk V8 (w.heap.size + 1) 4 #[.bool true] := by
      rw [← hV8]
      refine ⟨?_, ?_, ?_⟩
      · iterate 14 refine Out.setCell ?_ _ _ (by simp)
        exact Out.refl _ _
      · refine Blk.other ?_ _ (by show w.heap.size ≠ w.heap.size + 1; omega)
        exact set13 VC.out
      · refine Blk.set (vs := #[.bool false]) ?_ 0 _
        iterate 13 refine Blk.other ?_ _ (by show w.heap.size + 1 ≠ w.heap.size; omega)
        exact VK.out
    clear hV8
    have HE8 : RwPost w m T (.returned (.tuple #[.agg #[.int .i64 c.serial, .string c.issuer, .string c.subject, .int .i64 c.frm, .int .i64 c.upto, .string c.key, .bool c.ca, .int .i64 c.pathLen, .int .i64 c.usage, .slice pX c.pol.length qX, .slice eX c.per.length rX, .slice dX c.den.length sX, .string c.sig], .bool true])) V8 := by
      refine ⟨HB.out.trans (FIN.1.below (fun b hb => by simp at hb; rcases hb with rfl | rfl <;> omega) HB.out.size), .inr ⟨x, c, .agg #[.int .i64 c.serial, .string c.issuer, .string c.subject, .int .i64 c.frm, .int .i64 c.upto, .string c.key, .bool c.ca, .int .i64 c.pathLen, .int .i64 c.usage, .slice pX c.pol.length qX, .slice eX c.per.length rX, .slice dX c.den.length sX, .string c.sig], HX.out.1, HX.out.2.1, HL.out, rfl, ?_⟩⟩
      exact (HX6.out.out FIN.1 (fun b hb => by have := LX.out b hb; have := O0.out; have := O1.out; have := O2.out; have := O3.out; have := O4.out; have := O5.out; have := O6.out; simp <;> omega)).base (by have := O0.out; have := O1.out; have := O2.out; have := O3.out; have := O4.out; have := O5.out; have := O6.out; omega)
    have q0 : V8.cell? ⟨w.heap.size, 0, none⟩ = some (.int .i64 c.serial) := FIN.2.1.cell 0
    have q1 : V8.cell? ⟨w.heap.size, 1, none⟩ = some (.string c.issuer) := FIN.2.1.cell 1
    have q2 : V8.cell? ⟨w.heap.size, 2, none⟩ = some (.string c.subject) := FIN.2.1.cell 2
    have q3 : V8.cell? ⟨w.heap.size, 3, none⟩ = some (.int .i64 c.frm) := FIN.2.1.cell 3
    have q4 : V8.cell? ⟨w.heap.size, 4, none⟩ = some (.int .i64 c.upto) := FIN.2.1.cell 4
    have q5 : V8.cell? ⟨w.heap.size, 5, none⟩ = some (.string c.key) := FIN.2.1.cell 5
    have q6 : V8.cell? ⟨w.heap.size, 6, none⟩ = some (.bool c.ca) := FIN.2.1.cell 6
    have q7 : V8.cell? ⟨w.heap.size, 7, none⟩ = some (.int .i64 c.pathLen) := FIN.2.1.cell 7
    have q8 : V8.cell? ⟨w.heap.size, 8, none⟩ = some (.int .i64 c.usage) := FIN.2.1.cell 8
    have q9 : V8.cell? ⟨w.heap.size, 9, none⟩ = some (.slice pX c.pol.length qX) := FIN.2.1.cell 9
    have q10 : V8.cell? ⟨w.heap.size, 10, none⟩ = some (.slice eX c.per.length rX) := FIN.2.1.cell 10
    have q11 : V8.cell? ⟨w.heap.size, 11, none⟩ = some (.slice dX c.den.length sX) := FIN.2.1.cell 11
    have q12 : V8.cell? ⟨w.heap.size, 12, none⟩ = some (.string c.sig) := FIN.2.1.cell 12
    have q13 : V8.cell? ⟨w.heap.size + 1, 0, none⟩ = some (.bool true) := FIN.2.2.cell 0
    clear FIN HX6 LX
    refine leaves_cons (f := 95) (args := #[.pointer (some ⟨w.heap.size, 0, none⟩), .pointer (some ⟨w.heap.size + 1, 0, none⟩)]) (by simp) (by simp [go_sem]) ?_
    refine (catch_idle ⟨w.heap.size, 0, none⟩ ⟨w.heap.size + 1, 0, none⟩ _).mono ?_
    rintro e u' W9 ⟨rfl, rfl, rfl⟩
    generalize hL : RwPost w m T = LP at HE8 ⊢
    simp [Leaves, settle, results, Try.results53, go_sem, q0, q1, q2, q3, q4, q5, q6, q7, q8, q9, q10, q11, q12, q13]
    exact HE8
end Go.Proofs.Ytajbalokcfghbaa
