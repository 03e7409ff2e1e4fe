/-
  Texts of the proof.
-/
import Derived.Laws.AppendOwnNone
import Derived.Test.YtabfamhaihnccaaGreatSV22
set_option maxRecDepth 100000
set_option maxHeartbeats 25600000
namespace Go.Proofs.YtabfamhaihnccaaGreat
open Go.RowKit Go.ChangeShapes
set_option linter.unusedVariables false
set_option linter.unusedSimpArgs false
theorem OwnO.nodup {w : World} {b : Nat} {v : Value} {s : So} {fp : List Nat} (h : OwnO w b v s fp) : fp.Nodup := by
 obtain ⟨_, _, _, _, _, _, _, _, _, _, _, hn⟩ := h
 exact hn
structure Se where
 store : So
 pl : List Pn
 house : Int
 now : Int
 fresh : Int
 kept : List Kt
def SeAt (w : World) (v : Value) (s : Se) : Prop := ∃ v1 v2 v3 v4 v5, v = .agg #[v1, v2, v3, v4, .int .i64 s.house, .int .i64 s.now, .int .i64 s.fresh, v5] /\ SoAt w (.agg #[v1, v2, v3]) s.store /\ AtS pnKd w (v4) s.pl /\ AtS ktKd w (v5) s.kept
theorem SeAt.shape {w : World} {v : Value} {s : Se} (h : SeAt w v s) : ∃ a1 c1 a2 c2 a3 c3 a4 c4 a5 c5, v = .agg #[.slice a1 s.store.certs.length c1, .slice a2 s.store.crls.length c2, .slice a3 s.store.ancs.length c3, .slice a4 s.pl.length c4, .int .i64 s.house, .int .i64 s.now, .int .i64 s.fresh, .slice a5 s.kept.length c5] := by
 obtain ⟨v1, v2, v3, v4, v5, hv, h1, h2, h3⟩ := h
 obtain ⟨a1, c1, a2, c2, a3, c3, he⟩ := h1.shape
 simp only [Value.agg.injEq, Array.mk.injEq, List.cons.injEq, and_true] at he
 obtain ⟨rfl, rfl, rfl⟩ := he
 obtain ⟨a4, c4, rfl⟩ := h2.shape
 obtain ⟨a5, c5, rfl⟩ := h3.shape
 exact ⟨a1, c1, a2, c2, a3, c3, a4, c4, a5, c5, hv⟩
theorem SeAt.rows {w : World} {v1 v2 v3 v4 v5 : Value} {s : Se} (h : SeAt w (.agg #[v1, v2, v3, v4, .int .i64 s.house, .int .i64 s.now, .int .i64 s.fresh, v5]) s) : SoAt w (.agg #[v1, v2, v3]) s.store /\ AtS pnKd w (v4) s.pl /\ AtS ktKd w (v5) s.kept := by
 obtain ⟨u1, u2, u3, u4, u5, hv, h1⟩ := h
 simp only [Value.agg.injEq, Array.mk.injEq, List.cons.injEq, and_true, true_and] at hv
 obtain ⟨rfl, rfl, rfl, rfl, rfl⟩ := hv
 exact h1
def OwnSe (w : World) (base : Nat) (v : Value) (s : Se) (fp : List Nat) : Prop := ∃ v1 v2 v3 v4 v5 f1 f2 f3, v = .agg #[v1, v2, v3, v4, .int .i64 s.house, .int .i64 s.now, .int .i64 s.fresh, v5] /\ OwnO w base (.agg #[v1, v2, v3]) s.store f1 /\ OwnS pnKd w base (v4) s.pl f2 /\ OwnS ktKd w base (v5) s.kept f3 /\ fp = f1 ++ (f2 ++ (f3)) /\ fp.Nodup
theorem OwnSe.at {w : World} {base : Nat} {v : Value} {s : Se} {fp : List Nat} (h : OwnSe w base v s fp) : SeAt w v s := by
 obtain ⟨v1, v2, v3, v4, v5, f1, f2, f3, hv, h1, h2, h3, _, _⟩ := h
 exact ⟨v1, v2, v3, v4, v5, hv, h1.at, h2.at, h3.at⟩
theorem OwnSe.same {w w' : World} {base : Nat} {v : Value} {s : Se} {fp : List Nat} (h : OwnSe w base v s fp) (hs : ∀ b ∈ fp, w'.heap[b]? = w.heap[b]?) : OwnSe w' base v s fp := by
 obtain ⟨v1, v2, v3, v4, v5, f1, f2, f3, hv, h1, h2, h3, rfl, hn⟩ := h
 exact ⟨v1, v2, v3, v4, v5, f1, f2, f3, hv, h1.same (fun b hb => hs b (List.mem_append_left _ hb)), h2.same (fun b hb => hs b (List.mem_append_right _ (List.mem_append_left _ hb))), h3.same (fun b hb => hs b (List.mem_append_right _ (List.mem_append_right _ hb))), rfl, hn⟩
theorem OwnSe.lt {w : World} {base : Nat} {v : Value} {s : Se} {fp : List Nat} (h : OwnSe w base v s fp) : ∀ b ∈ fp, base <= b /\ b < w.heap.size := by
 obtain ⟨v1, v2, v3, v4, v5, f1, f2, f3, hv, h1, h2, h3, rfl, hn⟩ := h
 intro b hb
 rcases List.mem_append.1 hb with hb | hb
 ·exact h1.lt b hb
 rcases List.mem_append.1 hb with hb | hb
 ·exact h2.lt b hb
 exact h3.lt b hb
theorem OwnSe.stays {w w' : World} {base : Nat} {v : Value} {s : Se} {fp : List Nat} (h : OwnSe w base v s fp) (hb : Below w.heap.size w w') : OwnSe w' base v s fp := h.same fun b hm => hb.block b (h.lt b hm).2
def ArgSe (B : Nat) (w : World) (v : Value) (s : Se) : Prop := ∃ a1 c1 a2 c2 a3 c3 a4 c4 a5 c5, v = .agg #[.slice a1 s.store.certs.length c1, .slice a2 s.store.crls.length c2, .slice a3 s.store.ancs.length c3, .slice a4 s.pl.length c4, .int .i64 s.house, .int .i64 s.now, .int .i64 s.fresh, .slice a5 s.kept.length c5] /\ ArgO B w (.agg #[.slice a1 s.store.certs.length c1, .slice a2 s.store.crls.length c2, .slice a3 s.store.ancs.length c3]) s.store /\ ArgPS B w (.slice a4 s.pl.length c4) s.pl /\ ArgKtS B w (.slice a5 s.kept.length c5) s.kept
theorem ArgSe.below {B : Nat} {w w' : World} {v : Value} {s : Se} (h : ArgSe B w v s) (hb : Below B w w') {B' : Nat} (hB : B <= B') : ArgSe B' w' v s := by
 obtain ⟨a1, c1, a2, c2, a3, c3, a4, c4, a5, c5, hv, h1, h2, h3⟩ := h
 exact ⟨a1, c1, a2, c2, a3, c3, a4, c4, a5, c5, hv, h1.below hb hB, h2.below hb hB, h3.below hb hB⟩
theorem ArgSe.shape {B : Nat} {w : World} {v : Value} {s : Se} (h : ArgSe B w v s) : ∃ a1 c1 a2 c2 a3 c3 a4 c4 a5 c5, v = .agg #[.slice a1 s.store.certs.length c1, .slice a2 s.store.crls.length c2, .slice a3 s.store.ancs.length c3, .slice a4 s.pl.length c4, .int .i64 s.house, .int .i64 s.now, .int .i64 s.fresh, .slice a5 s.kept.length c5] := by
 obtain ⟨a1, c1, a2, c2, a3, c3, a4, c4, a5, c5, hv, _⟩ := h
 exact ⟨a1, c1, a2, c2, a3, c3, a4, c4, a5, c5, hv⟩
def wtSe (s : Se) : Nat := wtO s.store + wtPS s.pl + wtKtS s.kept
def WdSe (s : Se) : Prop := Wd [s.house, s.now, s.fresh] /\ (WdO s.store) /\ ((∀ c ∈ s.pl, WdPn c) /\ s.pl.length <= 9223372036854775807) /\ ((∀ c ∈ s.kept, WdKt c) /\ s.kept.length <= 9223372036854775807)
def szSe (s : Se) (left : Int) : Int := if (wtSe s : Int) <= left then left - (wtSe s : Int) else -1
theorem cellsServer : Tryz.prog.cellsOf 30 = 8 := by kernel_rfl
theorem cellsServer1 : Tryz.prog.cellsOf 26 = 3 := by kernel_rfl
theorem cellsServer2 : Tryz.prog.cellsOf 27 = 1 := by kernel_rfl
theorem cellsServer3 : Tryz.prog.cellsOf 28 = 1 := by kernel_rfl
theorem server_of_trod {H : Type} {enc : TypeId × Value -> H} {W : World} {fuel : Nat} {cs : List Value} {x : DataW H × List MemPlace} (h : DataW.trod enc Tryz.prog W 0 (fun _ => true) true fuel 30 cs = some x) :
  ∃ s : Se, ArgSe W.heap.size W (.agg cs.toArray) s /\ WdSe s := by
 obtain ⟨xs, m, rfl, hx, hl, hxl, hall⟩ := DataW.trod_struct Tryz.underlying30 h
 rw [cellsServer] at hl
 obtain ⟨x0, x1, x2, x3, x4, x5, rfl⟩ : ∃ x0 x1 x2 x3 x4 x5, xs = [x0, x1, x2, x3, x4, x5] := by
  match xs, hxl with
  | [x0, x1, x2, x3, x4, x5], _ => exact ⟨x0, x1, x2, x3, x4, x5, rfl⟩
 have f0 := hall 0 _ rfl
 change DataW.trod _ _ _ _ _ _ _ 26 ((cs.drop 0).take (Tryz.prog.cellsOf 26)) = some x0 at f0
 rw [cellsServer1] at f0
 obtain ⟨l0, r0, w0⟩ := store_of_trod f0
 have f1 := hall 1 _ rfl
 change DataW.trod _ _ _ _ _ _ _ 27 ((cs.drop 3).take (Tryz.prog.cellsOf 27)) = some x1 at f1
 rw [cellsServer2] at f1
 obtain ⟨a4, c4, l1, k1, m1, w1, r1⟩ := plans_in f1
 have g1 := take_one k1
 have f2 := hall 2 _ rfl
 change DataW.trod _ _ _ _ _ _ _ 3 ((cs.drop 4).take (Tryz.prog.cellsOf 3)) = some x2 at f2
 rw [cI] at f2
 obtain ⟨v2, k2, _, w2⟩ := DataW.trod_int Tryz.underlying3 f2
 have g2 := take_one k2
 have f3 := hall 3 _ rfl
 change DataW.trod _ _ _ _ _ _ _ 3 ((cs.drop 5).take (Tryz.prog.cellsOf 3)) = some x3 at f3
 rw [cI] at f3
 obtain ⟨v3, k3, _, w3⟩ := DataW.trod_int Tryz.underlying3 f3
 have g3 := take_one k3
 have f4 := hall 4 _ rfl
 change DataW.trod _ _ _ _ _ _ _ 3 ((cs.drop 6).take (Tryz.prog.cellsOf 3)) = some x4 at f4
 rw [cI] at f4
 obtain ⟨v4, k4, _, w4⟩ := DataW.trod_int Tryz.underlying3 f4
 have g4 := take_one k4
 have f5 := hall 5 _ rfl
 change DataW.trod _ _ _ _ _ _ _ 28 ((cs.drop 7).take (Tryz.prog.cellsOf 28)) = some x5 at f5
 rw [cellsServer3] at f5
 obtain ⟨a5, c5, l5, k5, m5, w5, r5⟩ := kts_in f5
 have g5 := take_one k5
 obtain ⟨a1, c1, a2, c2, a3, c3, e0, q0⟩ := id r0
 have hcs : cs = [.slice a1 l0.certs.length c1, .slice a2 l0.crls.length c2, .slice a3 l0.ancs.length c3, .slice a4 l1.length c4, .int .i64 v2, .int .i64 v3, .int .i64 v4, .slice a5 l5.length c5] := by
  match cs, hl with
  | [y0, y1, y2, y3, y4, y5, y6, y7], _ =>
   simp at e0
   simp at g1 g2 g3 g4 g5
   simp [e0, g1, g2, g3, g4, g5]
 rw [e0] at r0
 unfold maxLen at m1 m5
 refine ⟨⟨l0, l1, v2, v3, v4, l5⟩, ⟨a1, c1, a2, c2, a3, c3, a4, c4, a5, c5, by rw [hcs], r0, r1, r5⟩, fun y hy => ?_, w0, ⟨w1, m1⟩, ⟨w5, m5⟩⟩
 simp only [List.mem_cons, List.not_mem_nil, or_false] at hy
 simp [Lit.wf, IntKind.min, IntKind.max, IntKind.signed, IntKind.bits] at w2 w3 w4
 rcases hy with rfl | rfl | rfl <;> omega
end Go.Proofs.YtabfamhaihnccaaGreat
namespace Go.Proofs.YtabfamhaihnccaaGreat
open Go.RowKit
set_option linter.unusedVariables false
theorem toRules_any (c : Ru) (v : Value) (B : Nat) (w : World) (hl : c.pol.length <= 1048576) (hB : B <= w.heap.size) (ha : ArgU B w v c) :
  Calls Tryz.prog 127 #[v] w fun e w' => ∃ u, e = .returned u /\ OwnU w' w.heap.size u c /\ Below w.heap.size w w' := by
 obtain ⟨pa, pc, rfl, h1⟩ := ha
 have HA : Hid (ArgAt B w pa c.pol /\ c.pol.length <= 1048576) := ⟨h1, hl⟩
 clear h1 hl
 unfold ruV
 go_enter Tryz.func127, Tryz.ntmps127
 go_wp2_with fail
 obtain ⟨W3, hW3⟩ : ∃ W, W = ((w.alloc (Obj.cells #[.int .i64 c.time, .slice pa c.pol.length pc, .bool c.expl, .bool c.chk, .int .i64 c.usage] 112)).alloc (Obj.cells #[.int .i64 0, .slice none 0 0, .bool false, .bool false, .int .i64 0] 125)).alloc (Obj.cells #[.int .i64 c.time, .slice none 0 0, .bool false, .bool false, .int .i64 0] 125) := ⟨_, rfl⟩
 change Calls _ _ _ (((w.alloc (Obj.cells #[.int .i64 c.time, .slice pa c.pol.length pc, .bool c.expl, .bool c.chk, .int .i64 c.usage] 112)).alloc (Obj.cells #[.int .i64 0, .slice none 0 0, .bool false, .bool false, .int .i64 0] 125)).alloc (Obj.cells #[.int .i64 c.time, .slice none 0 0, .bool false, .bool false, .int .i64 0] 125)) _
 rw [<- hW3]
 have e0 : (w.alloc (Obj.cells #[.int .i64 c.time, .slice pa c.pol.length pc, .bool c.expl, .bool c.chk, .int .i64 c.usage] 112)).heap.size = w.heap.size + 1 := Array.size_push _
 have e1 : ((w.alloc (Obj.cells #[.int .i64 c.time, .slice pa c.pol.length pc, .bool c.expl, .bool c.chk, .int .i64 c.usage] 112)).alloc (Obj.cells #[.int .i64 0, .slice none 0 0, .bool false, .bool false, .int .i64 0] 125)).heap.size = w.heap.size + 1 + 1 := by rw [size_alloc, e0]
 have G0 : Hid ((Blk W3 w.heap.size 112 #[.int .i64 c.time, .slice pa c.pol.length pc, .bool c.expl, .bool c.chk, .int .i64 c.usage] /\ Blk W3 (w.heap.size + 1) 125 #[.int .i64 0, .slice none 0 0, .bool false, .bool false, .int .i64 0] /\ Blk W3 (w.heap.size + 1 + 1) 125 #[.int .i64 c.time, .slice none 0 0, .bool false, .bool false, .int .i64 0] /\ Below w.heap.size w W3) /\ w.heap.size + 1 + 1 + 1 <= W3.heap.size) := by
  rw [hW3]
  refine ⟨⟨((Blk.new w _ _).alloc _).alloc _, ?_, ?_, (((Below.refl _ _).alloc (Nat.le_refl _) _).alloc (by rw [e0]; omega) _).alloc (by rw [e1]; omega) _⟩, by rw [size_alloc, e1]; omega⟩
  ·have h := (Blk.new (w.alloc (Obj.cells #[.int .i64 c.time, .slice pa c.pol.length pc, .bool c.expl, .bool c.chk, .int .i64 c.usage] 112)) 125 #[.int .i64 0, .slice none 0 0, .bool false, .bool false, .int .i64 0]).alloc (Obj.cells #[.int .i64 c.time, .slice none 0 0, .bool false, .bool false, .int .i64 0] 125)
   rw [e0] at h
   exact h
  ·have h := Blk.new ((w.alloc (Obj.cells #[.int .i64 c.time, .slice pa c.pol.length pc, .bool c.expl, .bool c.chk, .int .i64 c.usage] 112)).alloc (Obj.cells #[.int .i64 0, .slice none 0 0, .bool false, .bool false, .int .i64 0] 125)) 125 #[.int .i64 c.time, .slice none 0 0, .bool false, .bool false, .int .i64 0]
   rw [e1] at h
   exact h
 clear hW3 e0 e1
 have wd1 : w.heap.size ≠ w.heap.size + 1 + 1 := by omega
 have wd2 : w.heap.size + 1 ≠ w.heap.size + 1 + 1 := by omega
 refine (toIntS_any pa c.pol c.pol.length pc B W3 rfl HA.out.2 (Nat.le_trans hB G0.out.1.2.2.2.size) (HA.out.1.below (G0.out.1.2.2.2.mono hB))).mono ?_
 rintro r u2 ⟨p, rfl, op, hb⟩
 have F2 : Hid ((Blk u2 w.heap.size 112 #[.int .i64 c.time, .slice pa c.pol.length pc, .bool c.expl, .bool c.chk, .int .i64 c.usage] /\ Blk u2 (w.heap.size + 1) 125 #[.int .i64 0, .slice none 0 0, .bool false, .bool false, .int .i64 0] /\ Blk u2 (w.heap.size + 1 + 1) 125 #[.int .i64 c.time, .slice none 0 0, .bool false, .bool false, .int .i64 0] /\ Below w.heap.size w u2) /\ w.heap.size + 1 + 1 + 1 <= u2.heap.size /\ OwnI u2 (w.heap.size + 1 + 1 + 1) p c.pol) := by
  have hz := G0.out.2
  exact ⟨⟨G0.out.1.1.below hb (by omega), G0.out.1.2.1.below hb (by omega), G0.out.1.2.2.1.below hb (by omega), G0.out.1.2.2.2.trans (hb.mono G0.out.1.2.2.2.size)⟩, Nat.le_trans hz hb.size, op.base hz⟩
 clear op hb G0
 have fr := fun j => F2.out.1.2.2.1.free j
 have f1 := fun j => F2.out.1.2.1.free j
 obtain ⟨qp, mp, hsp⟩ : ∃ ao cap, p = .slice ao c.pol.length cap := by obtain ⟨ao, cap, h, _⟩ := F2.out.2.2.at; exact ⟨ao, cap, h⟩
 obtain ⟨lp, hlp⟩ := zE (c.pol.length)
 rw [hlp] at hsp
 clear hlp
 subst hsp
 have ca2 : u2.cell? ⟨w.heap.size, 2, none⟩ = some (.bool c.expl) := F2.out.1.1.cell 2
 have ca3 : u2.cell? ⟨w.heap.size, 3, none⟩ = some (.bool c.chk) := F2.out.1.1.cell 3
 have ca4 : u2.cell? ⟨w.heap.size, 4, none⟩ = some (.int .i64 c.usage) := F2.out.1.1.cell 4
 have c10 : u2.cell? ⟨w.heap.size + 1, 0, none⟩ = some (.int .i64 0) := F2.out.1.2.1.cell 0
 have c20 : u2.cell? ⟨w.heap.size + 1 + 1, 0, none⟩ = some (.int .i64 c.time) := F2.out.1.2.2.1.cell 0
 have c11 : u2.cell? ⟨w.heap.size + 1, 1, none⟩ = some (.slice none 0 0) := F2.out.1.2.1.cell 1
 have c21 : u2.cell? ⟨w.heap.size + 1 + 1, 1, none⟩ = some (.slice none 0 0) := F2.out.1.2.2.1.cell 1
 have c12 : u2.cell? ⟨w.heap.size + 1, 2, none⟩ = some (.bool false) := F2.out.1.2.1.cell 2
 have c22 : u2.cell? ⟨w.heap.size + 1 + 1, 2, none⟩ = some (.bool false) := F2.out.1.2.2.1.cell 2
 have c13 : u2.cell? ⟨w.heap.size + 1, 3, none⟩ = some (.bool false) := F2.out.1.2.1.cell 3
 have c23 : u2.cell? ⟨w.heap.size + 1 + 1, 3, none⟩ = some (.bool false) := F2.out.1.2.2.1.cell 3
 have c14 : u2.cell? ⟨w.heap.size + 1, 4, none⟩ = some (.int .i64 0) := F2.out.1.2.1.cell 4
 have c24 : u2.cell? ⟨w.heap.size + 1 + 1, 4, none⟩ = some (.int .i64 0) := F2.out.1.2.2.1.cell 4
 go_wp2_with fail
 refine bodyPost_ret (v := ruV c (.slice qp lp mp)) (by simp [results, Tryz.results127, go_sem, ruV, c10, c11, c12, c13, c14]) rfl ⟨_, rfl, ⟨_, rfl, (F2.out.2.2.block ?far).base (by omega)⟩, ?bel⟩
 case far =>
  intro b hb
  iterate 9 rw [heap_setCell_other _ _ _ _ (by first | (show b ≠ w.heap.size + 1; omega) | (show b ≠ w.heap.size + 1 + 1; omega))]
 case bel =>
  iterate 9 refine Below.setCell ?_ (by first | (show w.heap.size <= w.heap.size + 1; omega) | (show w.heap.size <= w.heap.size + 1 + 1; omega)) _
  exact F2.out.1.2.2.2
theorem szRules_any (c : Ru) (v : Value) (left : Int) (w : World) (hwd : WdU c) (h0 : 0 <= left) (hl : left <= 1048576) (ha : ArgU w.heap.size w v c) :
  Calls Tryz.prog 117 #[v, .int .i64 left] w fun e w' => e = .returned (.int .i64 (szU c left)) /\ Below w.heap.size w w' := by
 obtain ⟨pa, pc, rfl, h1⟩ := ha
 obtain ⟨_, _, hpl⟩ := hwd
 clear h1
 unfold ruV
 obtain ⟨r2, hr2⟩ : ∃ r : Int, r = if (c.pol.length : Int) <= left then left - (c.pol.length : Int) else -1 := ⟨_, rfl⟩
 have Z2 : Hid (∀ W, Below w.heap.size w W -> Calls Tryz.prog 41 #[.slice pa c.pol.length pc, .int .i64 left] W fun e w' => e = .returned (.int .i64 r2) /\ Below W.heap.size W w') := fun W hb => by rw [hr2]; exact szIntS_any pa c.pol.length pc left W hpl (by omega) (by omega)
 have HF : Hid (szU c left = r2) := by rw [hr2]; rfl
 by_cases g2 : r2 < 0
 ·have h1 : r2 = -1 := by split at hr2 <;> omega
  clear hr2 g2
  subst h1
  go_enter Tryz.func117, Tryz.ntmps117
  go_wp2_with fail
  obtain ⟨V, hV⟩ : ∃ V, V = w.alloc (Obj.cells #[.int .i64 c.time, .slice pa c.pol.length pc, .bool c.expl, .bool c.chk, .int .i64 c.usage] 112) := ⟨_, rfl⟩
  rw [<- hV]
  have G : Hid (Below w.heap.size w V) := by rw [hV]; exact (Below.refl _ _).alloc (Nat.le_refl _) _
  clear hV
  refine (Z2.out V G.out).mono ?_
  rintro e V2 ⟨rfl, hb⟩
  have G2 : Hid (Below w.heap.size w V2) := G.out.trans (hb.mono G.out.size)
  clear hb G
  go_wp2_with fail
  go_ret
  exact ⟨by rw [HF.out]; rfl, G2.out⟩
 ·clear hr2
  go_enter Tryz.func117, Tryz.ntmps117
  go_wp2_with fail
  obtain ⟨V, hV⟩ : ∃ V, V = w.alloc (Obj.cells #[.int .i64 c.time, .slice pa c.pol.length pc, .bool c.expl, .bool c.chk, .int .i64 c.usage] 112) := ⟨_, rfl⟩
  rw [<- hV]
  have G : Hid (Below w.heap.size w V) := by rw [hV]; exact (Below.refl _ _).alloc (Nat.le_refl _) _
  clear hV
  refine (Z2.out V G.out).mono ?_
  rintro e V2 ⟨rfl, hb⟩
  have G2 : Hid (Below w.heap.size w V2) := G.out.trans (hb.mono G.out.size)
  clear hb G
  go_wp2_with fail
  go_ret
  exact ⟨by rw [HF.out]; rfl, G2.out⟩
theorem eqRules_same (c : Ru) (a b : Value) (w : World) (hl : c.pol.length <= 1000000000) (ha : RuAt w a c) (hb : RuAt w b c) :
  Calls Tryz.prog 143 #[a, b] w fun e w' => e = .returned (.bool true) /\ Below w.heap.size w w' := by
 obtain ⟨pv, rfl, h1⟩ := ha
 obtain ⟨pu, rfl, k1⟩ := hb
 have HQ : Hid (∀ W, Below w.heap.size w W -> Calls Tryz.prog 52 #[pv, pu] W (fun e w' => e = .returned (.bool true) /\ Below W.heap.size W w')) := fun W hb => eqIntS_same pv pu c.pol W hl (h1.below hb) (k1.below hb)
 obtain ⟨lp, hlp⟩ := zE (c.pol.length)
 obtain ⟨pa, pc, hpa, _⟩ := h1
 obtain ⟨pb, qc, hpb, _⟩ := k1
 rw [hlp] at hpa hpb
 subst hpa hpb
 clear hlp hl
 unfold ruV
 go_enter Tryz.func143, Tryz.ntmps143
 go_wp2_with fail
 obtain ⟨V, hV⟩ : ∃ V, V = (w.alloc (Obj.cells #[.int .i64 c.time, .slice pa lp pc, .bool c.expl, .bool c.chk, .int .i64 c.usage] 125)).alloc (Obj.cells #[.int .i64 c.time, .slice pb lp qc, .bool c.expl, .bool c.chk, .int .i64 c.usage] 125) := ⟨_, rfl⟩
 rw [<- hV]
 have G : Hid (Blk V w.heap.size 125 #[.int .i64 c.time, .slice pa lp pc, .bool c.expl, .bool c.chk, .int .i64 c.usage] /\ Blk V (w.heap.size + 1) 125 #[.int .i64 c.time, .slice pb lp qc, .bool c.expl, .bool c.chk, .int .i64 c.usage] /\ Below w.heap.size w V /\ w.heap.size + 1 < V.heap.size) := by
  have e0 : (w.alloc (Obj.cells #[.int .i64 c.time, .slice pa lp pc, .bool c.expl, .bool c.chk, .int .i64 c.usage] 125)).heap.size = w.heap.size + 1 := Array.size_push _
  have h := Blk.new (w.alloc (Obj.cells #[.int .i64 c.time, .slice pa lp pc, .bool c.expl, .bool c.chk, .int .i64 c.usage] 125)) 125 #[.int .i64 c.time, .slice pb lp qc, .bool c.expl, .bool c.chk, .int .i64 c.usage]
  rw [e0] at h
  rw [hV]
  exact ⟨(Blk.new w _ _).alloc _, h, ((Below.refl _ _).alloc (Nat.le_refl _) _).alloc (by rw [e0]; omega) _, by rw [size_alloc, e0]; omega⟩
 clear hV
 refine (HQ.out V G.out.2.2.1).mono ?_
 rintro e V2 ⟨rfl, hb⟩
 have G2 : Hid (Blk V2 w.heap.size 125 #[.int .i64 c.time, .slice pa lp pc, .bool c.expl, .bool c.chk, .int .i64 c.usage] /\ Blk V2 (w.heap.size + 1) 125 #[.int .i64 c.time, .slice pb lp qc, .bool c.expl, .bool c.chk, .int .i64 c.usage] /\ Below w.heap.size w V2 /\ w.heap.size + 1 < V2.heap.size) := ⟨G.out.1.below hb (by have := G.out.2.2.2; omega), G.out.2.1.below hb G.out.2.2.2, G.out.2.2.1.trans (hb.mono G.out.2.2.1.size), Nat.lt_of_lt_of_le G.out.2.2.2 hb.size⟩
 clear hb G
 have ca2 : V2.cell? ⟨w.heap.size, 2, none⟩ = some (.bool c.expl) := G2.out.1.cell 2
 have cb2 : V2.cell? ⟨w.heap.size + 1, 2, none⟩ = some (.bool c.expl) := G2.out.2.1.cell 2
 have ca3 : V2.cell? ⟨w.heap.size, 3, none⟩ = some (.bool c.chk) := G2.out.1.cell 3
 have cb3 : V2.cell? ⟨w.heap.size + 1, 3, none⟩ = some (.bool c.chk) := G2.out.2.1.cell 3
 have ca4 : V2.cell? ⟨w.heap.size, 4, none⟩ = some (.int .i64 c.usage) := G2.out.1.cell 4
 have cb4 : V2.cell? ⟨w.heap.size + 1, 4, none⟩ = some (.int .i64 c.usage) := G2.out.2.1.cell 4
 go_wp2_with fail
 go_ret
 exact ⟨rfl, G2.out.2.2.1⟩
end Go.Proofs.YtabfamhaihnccaaGreat
namespace Go.Proofs.YtabfamhaihnccaaGreat
open Go.RowKit
set_option linter.unusedVariables false
set_option linter.unusedSimpArgs false
theorem toPlan_any (c : Pn) (v : Value) (B : Nat) (w : World) (hl : c.anc.length <= 1048576 /\ c.ru.pol.length <= 1048576) (hB : B <= w.heap.size) (ha : ArgPn B w v c) :
  Calls Tryz.prog 82 #[v] w fun e w' => ∃ u, e = .returned u /\ OwnPn w' w.heap.size u c /\ Below w.heap.size w w' := by
 obtain ⟨pa, pc, ea, ec, rfl, h1, h2⟩ := ha
 have HA : Hid (ArgAt B w pa c.anc /\ ArgAt B w ea c.ru.pol /\ c.anc.length <= 1048576 /\ c.ru.pol.length <= 1048576) := ⟨h1, h2, hl⟩
 clear h1 h2 hl
 unfold pnV
 go_enter Tryz.func82, Tryz.ntmps82
 go_wp2_with fail
 obtain ⟨W3, hW3⟩ : ∃ W, W = ((w.alloc (Obj.cells #[.int .i64 c.id, .slice pa c.anc.length pc, .int .i64 c.ru.time, .slice ea c.ru.pol.length ec, .bool c.ru.expl, .bool c.ru.chk, .int .i64 c.ru.usage] 114)).alloc (Obj.cells #[.int .i64 0, .slice none 0 0, .int .i64 0, .slice none 0 0, .bool false, .bool false, .int .i64 0] 127)).alloc (Obj.cells #[.int .i64 c.id, .slice none 0 0, .int .i64 0, .slice none 0 0, .bool false, .bool false, .int .i64 0] 127) := ⟨_, rfl⟩
 change Calls _ _ _ (((w.alloc (Obj.cells #[.int .i64 c.id, .slice pa c.anc.length pc, .int .i64 c.ru.time, .slice ea c.ru.pol.length ec, .bool c.ru.expl, .bool c.ru.chk, .int .i64 c.ru.usage] 114)).alloc (Obj.cells #[.int .i64 0, .slice none 0 0, .int .i64 0, .slice none 0 0, .bool false, .bool false, .int .i64 0] 127)).alloc (Obj.cells #[.int .i64 c.id, .slice none 0 0, .int .i64 0, .slice none 0 0, .bool false, .bool false, .int .i64 0] 127)) _
 rw [<- hW3]
 have e0 : (w.alloc (Obj.cells #[.int .i64 c.id, .slice pa c.anc.length pc, .int .i64 c.ru.time, .slice ea c.ru.pol.length ec, .bool c.ru.expl, .bool c.ru.chk, .int .i64 c.ru.usage] 114)).heap.size = w.heap.size + 1 := Array.size_push _
 have e1 : ((w.alloc (Obj.cells #[.int .i64 c.id, .slice pa c.anc.length pc, .int .i64 c.ru.time, .slice ea c.ru.pol.length ec, .bool c.ru.expl, .bool c.ru.chk, .int .i64 c.ru.usage] 114)).alloc (Obj.cells #[.int .i64 0, .slice none 0 0, .int .i64 0, .slice none 0 0, .bool false, .bool false, .int .i64 0] 127)).heap.size = w.heap.size + 1 + 1 := by rw [size_alloc, e0]
 have G0 : Hid ((Blk W3 w.heap.size 114 #[.int .i64 c.id, .slice pa c.anc.length pc, .int .i64 c.ru.time, .slice ea c.ru.pol.length ec, .bool c.ru.expl, .bool c.ru.chk, .int .i64 c.ru.usage] /\ Blk W3 (w.heap.size + 1) 127 #[.int .i64 0, .slice none 0 0, .int .i64 0, .slice none 0 0, .bool false, .bool false, .int .i64 0] /\ Blk W3 (w.heap.size + 1 + 1) 127 #[.int .i64 c.id, .slice none 0 0, .int .i64 0, .slice none 0 0, .bool false, .bool false, .int .i64 0] /\ Below w.heap.size w W3) /\ w.heap.size + 1 + 1 + 1 <= W3.heap.size) := by
  rw [hW3]
  refine ⟨⟨((Blk.new w _ _).alloc _).alloc _, ?_, ?_, (((Below.refl _ _).alloc (Nat.le_refl _) _).alloc (by rw [e0]; omega) _).alloc (by rw [e1]; omega) _⟩, by rw [size_alloc, e1]; omega⟩
  ·have h := (Blk.new (w.alloc (Obj.cells #[.int .i64 c.id, .slice pa c.anc.length pc, .int .i64 c.ru.time, .slice ea c.ru.pol.length ec, .bool c.ru.expl, .bool c.ru.chk, .int .i64 c.ru.usage] 114)) 127 #[.int .i64 0, .slice none 0 0, .int .i64 0, .slice none 0 0, .bool false, .bool false, .int .i64 0]).alloc (Obj.cells #[.int .i64 c.id, .slice none 0 0, .int .i64 0, .slice none 0 0, .bool false, .bool false, .int .i64 0] 127)
   rw [e0] at h
   exact h
  ·have h := Blk.new ((w.alloc (Obj.cells #[.int .i64 c.id, .slice pa c.anc.length pc, .int .i64 c.ru.time, .slice ea c.ru.pol.length ec, .bool c.ru.expl, .bool c.ru.chk, .int .i64 c.ru.usage] 114)).alloc (Obj.cells #[.int .i64 0, .slice none 0 0, .int .i64 0, .slice none 0 0, .bool false, .bool false, .int .i64 0] 127)) 127 #[.int .i64 c.id, .slice none 0 0, .int .i64 0, .slice none 0 0, .bool false, .bool false, .int .i64 0]
   rw [e1] at h
   exact h
 clear hW3 e0 e1
 have wd1 : w.heap.size ≠ w.heap.size + 1 + 1 := by omega
 have wd2 : w.heap.size + 1 ≠ w.heap.size + 1 + 1 := by omega
 refine (toIntS_any pa c.anc c.anc.length pc B W3 rfl HA.out.2.2.1 (Nat.le_trans hB G0.out.1.2.2.2.size) (HA.out.1.below (G0.out.1.2.2.2.mono hB))).mono ?_
 rintro r u1 ⟨p, rfl, op, hb⟩
 have F1 : Hid ((Blk u1 w.heap.size 114 #[.int .i64 c.id, .slice pa c.anc.length pc, .int .i64 c.ru.time, .slice ea c.ru.pol.length ec, .bool c.ru.expl, .bool c.ru.chk, .int .i64 c.ru.usage] /\ Blk u1 (w.heap.size + 1) 127 #[.int .i64 0, .slice none 0 0, .int .i64 0, .slice none 0 0, .bool false, .bool false, .int .i64 0] /\ Blk u1 (w.heap.size + 1 + 1) 127 #[.int .i64 c.id, .slice none 0 0, .int .i64 0, .slice none 0 0, .bool false, .bool false, .int .i64 0] /\ Below w.heap.size w u1) /\ w.heap.size + 1 + 1 + 1 <= u1.heap.size /\ OwnI u1 (w.heap.size + 1 + 1 + 1) p c.anc) := by
  have hz := G0.out.2
  exact ⟨⟨G0.out.1.1.below hb (by omega), G0.out.1.2.1.below hb (by omega), G0.out.1.2.2.1.below hb (by omega), G0.out.1.2.2.2.trans (hb.mono G0.out.1.2.2.2.size)⟩, Nat.le_trans hz hb.size, op.base hz⟩
 clear op hb G0
 have fr := fun j => F1.out.1.2.2.1.free j
 obtain ⟨qp, mp, hsp⟩ : ∃ ao cap, p = .slice ao c.anc.length cap := by obtain ⟨ao, cap, h, _⟩ := F1.out.2.2.at; exact ⟨ao, cap, h⟩
 obtain ⟨lp, hlp⟩ := zE (c.anc.length)
 rw [hlp] at hsp
 clear hlp
 subst hsp
 have ca2 : u1.cell? ⟨w.heap.size, 2, none⟩ = some (.int .i64 c.ru.time) := F1.out.1.1.cell 2
 have ca3 : u1.cell? ⟨w.heap.size, 3, none⟩ = some (.slice ea c.ru.pol.length ec) := F1.out.1.1.cell 3
 have ca4 : u1.cell? ⟨w.heap.size, 4, none⟩ = some (.bool c.ru.expl) := F1.out.1.1.cell 4
 have ca5 : u1.cell? ⟨w.heap.size, 5, none⟩ = some (.bool c.ru.chk) := F1.out.1.1.cell 5
 have ca6 : u1.cell? ⟨w.heap.size, 6, none⟩ = some (.int .i64 c.ru.usage) := F1.out.1.1.cell 6
 have cg : u1.cell? ⟨w.heap.size + 1 + 1, 1, none⟩ = some (.slice none 0 0) := F1.out.1.2.2.1.cell 1
 go_wp2_with fail
 obtain ⟨V1, hV⟩ : ∃ V, V = u1.setCell ⟨w.heap.size + 1 + 1, 1, none⟩ (.slice qp lp mp) := ⟨_, rfl⟩
 rw [<- hV]
 have G1 : Hid ((Blk V1 w.heap.size 114 #[.int .i64 c.id, .slice pa c.anc.length pc, .int .i64 c.ru.time, .slice ea c.ru.pol.length ec, .bool c.ru.expl, .bool c.ru.chk, .int .i64 c.ru.usage] /\ Blk V1 (w.heap.size + 1) 127 #[.int .i64 0, .slice none 0 0, .int .i64 0, .slice none 0 0, .bool false, .bool false, .int .i64 0] /\ Blk V1 (w.heap.size + 1 + 1) 127 #[.int .i64 c.id, .slice qp lp mp, .int .i64 0, .slice none 0 0, .bool false, .bool false, .int .i64 0] /\ Below w.heap.size w V1) /\ w.heap.size + 1 + 1 + 1 <= V1.heap.size /\ OwnI V1 (w.heap.size + 1 + 1 + 1) (.slice qp lp mp) c.anc) := by
  have hbs : Below (w.heap.size + 1 + 1) u1 V1 := by rw [hV]; exact (Below.refl _ _).setCell (p := ⟨w.heap.size + 1 + 1, 1, none⟩) (Nat.le_refl _) _
  have hot : ∀ b, w.heap.size + 1 + 1 + 1 <= b -> V1.heap[b]? = u1.heap[b]? := fun b hb => by rw [hV]; exact heap_setCell_other _ _ _ _ (by show b ≠ w.heap.size + 1 + 1; omega)
  exact ⟨⟨F1.out.1.1.below hbs (by omega), F1.out.1.2.1.below hbs (by omega), by rw [hV]; exact F1.out.1.2.2.1.set 1 _, F1.out.1.2.2.2.trans (hbs.mono (by omega))⟩, Nat.le_trans F1.out.2.1 hbs.size, F1.out.2.2.block hot⟩
 clear hV F1 fr ca2 ca3 ca4 ca5 ca6 cg
 refine (toRules_any c.ru (.agg #[.int .i64 c.ru.time, .slice ea c.ru.pol.length ec, .bool c.ru.expl, .bool c.ru.chk, .int .i64 c.ru.usage]) B V1 HA.out.2.2.2 (Nat.le_trans hB G1.out.1.2.2.2.size) ⟨ea, ec, rfl, HA.out.2.1.below (G1.out.1.2.2.2.mono hB)⟩).mono ?_
 rintro r u2 ⟨_, rfl, ⟨e, rfl, oe⟩, hb⟩
 have F2 : Hid ((Blk u2 w.heap.size 114 #[.int .i64 c.id, .slice pa c.anc.length pc, .int .i64 c.ru.time, .slice ea c.ru.pol.length ec, .bool c.ru.expl, .bool c.ru.chk, .int .i64 c.ru.usage] /\ Blk u2 (w.heap.size + 1) 127 #[.int .i64 0, .slice none 0 0, .int .i64 0, .slice none 0 0, .bool false, .bool false, .int .i64 0] /\ Blk u2 (w.heap.size + 1 + 1) 127 #[.int .i64 c.id, .slice qp lp mp, .int .i64 0, .slice none 0 0, .bool false, .bool false, .int .i64 0] /\ Below w.heap.size w u2) /\ w.heap.size + 1 + 1 + 1 <= u2.heap.size /\ OwnI u2 (w.heap.size + 1 + 1 + 1) (.slice qp lp mp) c.anc /\ OwnI u2 (w.heap.size + 1 + 1 + 1) e c.ru.pol /\ (Ap (.slice qp lp mp) e /\ Ap e (.slice qp lp mp))) := by
  have hz := G1.out.2.1
  exact ⟨⟨G1.out.1.1.below hb (by omega), G1.out.1.2.1.below hb (by omega), G1.out.1.2.2.1.below hb (by omega), G1.out.1.2.2.2.trans (hb.mono G1.out.1.2.2.2.size)⟩, Nat.le_trans hz hb.size, G1.out.2.2.stays hb, oe.base hz, rows_apart G1.out.2.2 oe (Nat.le_refl _)⟩
 clear oe hb G1
 have fr := fun j => F2.out.1.2.2.1.free j
 have f1 := fun j => F2.out.1.2.1.free j
 obtain ⟨qe, me, hse⟩ : ∃ ao cap, e = .slice ao c.ru.pol.length cap := by obtain ⟨ao, cap, h, _⟩ := F2.out.2.2.2.1.at; exact ⟨ao, cap, h⟩
 obtain ⟨le, hle⟩ := zE (c.ru.pol.length)
 rw [hle] at hse
 clear hle
 subst hse
 unfold ruV
 have c10 : u2.cell? ⟨w.heap.size + 1, 0, none⟩ = some (.int .i64 0) := F2.out.1.2.1.cell 0
 have c20 : u2.cell? ⟨w.heap.size + 1 + 1, 0, none⟩ = some (.int .i64 c.id) := F2.out.1.2.2.1.cell 0
 have c11 : u2.cell? ⟨w.heap.size + 1, 1, none⟩ = some (.slice none 0 0) := F2.out.1.2.1.cell 1
 have c21 : u2.cell? ⟨w.heap.size + 1 + 1, 1, none⟩ = some (.slice qp lp mp) := F2.out.1.2.2.1.cell 1
 have c12 : u2.cell? ⟨w.heap.size + 1, 2, none⟩ = some (.int .i64 0) := F2.out.1.2.1.cell 2
 have c22 : u2.cell? ⟨w.heap.size + 1 + 1, 2, none⟩ = some (.int .i64 0) := F2.out.1.2.2.1.cell 2
 have c13 : u2.cell? ⟨w.heap.size + 1, 3, none⟩ = some (.slice none 0 0) := F2.out.1.2.1.cell 3
 have c23 : u2.cell? ⟨w.heap.size + 1 + 1, 3, none⟩ = some (.slice none 0 0) := F2.out.1.2.2.1.cell 3
 have c14 : u2.cell? ⟨w.heap.size + 1, 4, none⟩ = some (.bool false) := F2.out.1.2.1.cell 4
 have c24 : u2.cell? ⟨w.heap.size + 1 + 1, 4, none⟩ = some (.bool false) := F2.out.1.2.2.1.cell 4
 have c15 : u2.cell? ⟨w.heap.size + 1, 5, none⟩ = some (.bool false) := F2.out.1.2.1.cell 5
 have c25 : u2.cell? ⟨w.heap.size + 1 + 1, 5, none⟩ = some (.bool false) := F2.out.1.2.2.1.cell 5
 have c16 : u2.cell? ⟨w.heap.size + 1, 6, none⟩ = some (.int .i64 0) := F2.out.1.2.1.cell 6
 have c26 : u2.cell? ⟨w.heap.size + 1 + 1, 6, none⟩ = some (.int .i64 0) := F2.out.1.2.2.1.cell 6
 go_wp2_with fail
 refine bodyPost_ret (v := pnV c (.slice qp lp mp) (.slice qe le me)) (by simp [results, Tryz.results82, go_sem, pnV, c10, c11, c12, c13, c14, c15, c16]) rfl ⟨_, rfl, ⟨_, _, rfl, (F2.out.2.2.1.block ?far).base (by omega), (F2.out.2.2.2.1.block ?far).base (by omega), F2.out.2.2.2.2⟩, ?bel⟩
 case far =>
  intro b hb
  iterate 12 rw [heap_setCell_other _ _ _ _ (by first | (show b ≠ w.heap.size + 1; omega) | (show b ≠ w.heap.size + 1 + 1; omega))]
 case bel =>
  iterate 12 refine Below.setCell ?_ (by first | (show w.heap.size <= w.heap.size + 1; omega) | (show w.heap.size <= w.heap.size + 1 + 1; omega)) _
  exact F2.out.1.2.2.2
theorem szPlan_any (c : Pn) (v : Value) (left : Int) (w : World) (hwd : WdPn c) (h0 : 0 <= left) (hl : left <= 1048576) (ha : ArgPn w.heap.size w v c) :
  Calls Tryz.prog 72 #[v, .int .i64 left] w fun e w' => e = .returned (.int .i64 (szPn c left)) /\ Below w.heap.size w w' := by
 obtain ⟨pa, pc, ea, ec, rfl, h1, h2⟩ := ha
 obtain ⟨hw0, hw1, hw2, hp1, hp2⟩ := hwd
 have hwu : WdU c.ru := ⟨fun y hy => hw0 y (by simp only [List.mem_cons, List.not_mem_nil, or_false] at hy |-; exact .inr hy), hw2, hp2⟩
 unfold pnV
 obtain ⟨r1, hr1⟩ : ∃ r : Int, r = if (c.anc.length : Int) <= left then left - (c.anc.length : Int) else -1 := ⟨_, rfl⟩
 have Z1 : Hid (∀ W, Below w.heap.size w W -> Calls Tryz.prog 41 #[.slice pa c.anc.length pc, .int .i64 left] W fun e w' => e = .returned (.int .i64 r1) /\ Below W.heap.size W w') := fun W hb => by rw [hr1]; exact szIntS_any pa c.anc.length pc left W hp1 (by omega) (by omega)
 by_cases g1 : r1 < 0
 ·have e1 : r1 = -1 := by split at hr1 <;> omega
  have HF : Hid (szPn c left = -1) := by
   show szPn c left = -1
   unfold szPn wtPn
   rw [if_neg (by split at hr1 <;> omega)]
  clear hr1 g1 h1 h2 hw0 hw1 hw2 hp1 hp2 hwu
  subst e1
  go_enter Tryz.func72, Tryz.ntmps72
  go_wp2_with fail
  obtain ⟨V, hV⟩ : ∃ V, V = w.alloc (Obj.cells #[.int .i64 c.id, .slice pa c.anc.length pc, .int .i64 c.ru.time, .slice ea c.ru.pol.length ec, .bool c.ru.expl, .bool c.ru.chk, .int .i64 c.ru.usage] 114) := ⟨_, rfl⟩
  rw [<- hV]
  have G : Hid (Below w.heap.size w V) := by rw [hV]; exact (Below.refl _ _).alloc (Nat.le_refl _) _
  clear hV
  refine (Z1.out V G.out).mono ?_
  rintro e V2 ⟨rfl, hb⟩
  have G2 : Hid (Below w.heap.size w V2) := G.out.trans (hb.mono G.out.size)
  clear hb G
  go_wp2_with fail
  go_ret
  exact ⟨by rw [HF.out]; rfl, G2.out⟩
 ·have e1 : r1 = left - (c.anc.length : Int) /\ (c.anc.length : Int) <= left := by split at hr1 <;> omega
  obtain ⟨r2, hr2⟩ : ∃ r : Int, r = szU c.ru r1 := ⟨_, rfl⟩
  have Z2 : Hid (∀ W, Below w.heap.size w W -> Calls Tryz.prog 117 #[.agg #[.int .i64 c.ru.time, .slice ea c.ru.pol.length ec, .bool c.ru.expl, .bool c.ru.chk, .int .i64 c.ru.usage], .int .i64 r1] W fun e w' => e = .returned (.int .i64 r2) /\ Below W.heap.size W w') := fun W hb => by rw [hr2]; exact szRules_any c.ru (.agg #[.int .i64 c.ru.time, .slice ea c.ru.pol.length ec, .bool c.ru.expl, .bool c.ru.chk, .int .i64 c.ru.usage]) r1 W hwu (by omega) (by omega) (ArgU.mono ⟨ea, ec, rfl, h2.below hb⟩ hb.size)
  have HF : Hid (szPn c left = r2) := by
   show szPn c left = r2
   rw [hr2]
   unfold szPn wtPn szU wtU
   by_cases q : ((c.anc.length + c.ru.pol.length : Nat) : Int) <= left
   ·rw [if_pos q, if_pos (by omega)]; omega
   ·rw [if_neg q, if_neg (by omega)]
  have g2 : r2 < 0 -> r2 = -1 := by unfold szU at hr2; split at hr2 <;> omega
  clear hr1 hr2 h1 h2 hw0 hw1 hw2 hp1 hp2 e1 hwu
  go_enter Tryz.func72, Tryz.ntmps72
  go_wp2_with fail
  obtain ⟨V, hV⟩ : ∃ V, V = w.alloc (Obj.cells #[.int .i64 c.id, .slice pa c.anc.length pc, .int .i64 c.ru.time, .slice ea c.ru.pol.length ec, .bool c.ru.expl, .bool c.ru.chk, .int .i64 c.ru.usage] 114) := ⟨_, rfl⟩
  rw [<- hV]
  have G : Hid (Below w.heap.size w V /\ Blk V w.heap.size 114 #[.int .i64 c.id, .slice pa c.anc.length pc, .int .i64 c.ru.time, .slice ea c.ru.pol.length ec, .bool c.ru.expl, .bool c.ru.chk, .int .i64 c.ru.usage]) := by rw [hV]; exact ⟨(Below.refl _ _).alloc (Nat.le_refl _) _, Blk.new w _ _⟩
  clear hV
  refine (Z1.out V G.out.1).mono ?_
  rintro e V2 ⟨rfl, hb⟩
  have G2 : Hid (Below w.heap.size w V2 /\ Blk V2 w.heap.size 114 #[.int .i64 c.id, .slice pa c.anc.length pc, .int .i64 c.ru.time, .slice ea c.ru.pol.length ec, .bool c.ru.expl, .bool c.ru.chk, .int .i64 c.ru.usage]) := ⟨G.out.1.trans (hb.mono G.out.1.size), G.out.2.below hb G.out.2.lt⟩
  clear hb G
  have c2 : V2.cell? ⟨w.heap.size, 2, none⟩ = some (.int .i64 c.ru.time) := G2.out.2.cell 2
  have c3 : V2.cell? ⟨w.heap.size, 3, none⟩ = some (.slice ea c.ru.pol.length ec) := G2.out.2.cell 3
  have c4 : V2.cell? ⟨w.heap.size, 4, none⟩ = some (.bool c.ru.expl) := G2.out.2.cell 4
  have c5 : V2.cell? ⟨w.heap.size, 5, none⟩ = some (.bool c.ru.chk) := G2.out.2.cell 5
  have c6 : V2.cell? ⟨w.heap.size, 6, none⟩ = some (.int .i64 c.ru.usage) := G2.out.2.cell 6
  go_wp2_with fail
  refine (Z2.out V2 G2.out.1).mono ?_
  rintro e V3 ⟨rfl, hb⟩
  have G3 : Hid (Below w.heap.size w V3) := G2.out.1.trans (hb.mono G2.out.1.size)
  clear hb G2 c2 c3 c4 c5 c6
  by_cases q2 : r2 < 0
  ·obtain rfl := g2 q2
   go_wp2_with fail
   go_ret
   exact ⟨by rw [HF.out]; rfl, G3.out⟩
  ·go_wp2_with fail
   go_ret
   exact ⟨by rw [HF.out]; rfl, G3.out⟩
theorem eqPlan_same (c : Pn) (a b : Value) (w : World) (hl : c.anc.length <= 1000000000 /\ c.ru.pol.length <= 1000000000) (ha : PnAt w a c) (hb : PnAt w b c) :
  Calls Tryz.prog 95 #[a, b] w fun e w' => e = .returned (.bool true) /\ Below w.heap.size w w' := by
 obtain ⟨pv, ev, rfl, h1, h2⟩ := ha
 obtain ⟨pu, eu, rfl, k1, k2⟩ := hb
 have HQ : Hid (∀ W, Below w.heap.size w W -> Calls Tryz.prog 52 #[pv, pu] W (fun e w' => e = .returned (.bool true) /\ Below W.heap.size W w')) := fun W hb => eqIntS_same pv pu c.anc W hl.1 (h1.below hb) (k1.below hb)
 have HQ2 : Hid (∀ W, Below w.heap.size w W -> Calls Tryz.prog 143 #[ruV c.ru ev, ruV c.ru eu] W (fun e w' => e = .returned (.bool true) /\ Below W.heap.size W w')) := fun W hb => eqRules_same c.ru _ _ W hl.2 ⟨_, rfl, h2.below hb⟩ ⟨_, rfl, k2.below hb⟩
 obtain ⟨lp, hlp⟩ := zE (c.anc.length)
 obtain ⟨le, hle⟩ := zE (c.ru.pol.length)
 obtain ⟨pa, pc, hpa, _⟩ := h1
 obtain ⟨pb, qc, hpb, _⟩ := k1
 obtain ⟨ea, ec, hea, _⟩ := h2
 obtain ⟨eb, fc, heb, _⟩ := k2
 rw [hlp] at hpa hpb
 rw [hle] at hea heb
 subst hpa hpb hea heb
 clear hlp hle hl
 unfold ruV at HQ2
 unfold pnV
 go_enter Tryz.func95, Tryz.ntmps95
 go_wp2_with fail
 obtain ⟨V1, hV⟩ : ∃ V, V = (w.alloc (Obj.cells #[.int .i64 c.id, .slice pa lp pc, .int .i64 c.ru.time, .slice ea le ec, .bool c.ru.expl, .bool c.ru.chk, .int .i64 c.ru.usage] 127)).alloc (Obj.cells #[.int .i64 c.id, .slice pb lp qc, .int .i64 c.ru.time, .slice eb le fc, .bool c.ru.expl, .bool c.ru.chk, .int .i64 c.ru.usage] 127) := ⟨_, rfl⟩
 rw [<- hV]
 have G1 : Hid (Blk V1 w.heap.size 127 #[.int .i64 c.id, .slice pa lp pc, .int .i64 c.ru.time, .slice ea le ec, .bool c.ru.expl, .bool c.ru.chk, .int .i64 c.ru.usage] /\ Blk V1 (w.heap.size + 1) 127 #[.int .i64 c.id, .slice pb lp qc, .int .i64 c.ru.time, .slice eb le fc, .bool c.ru.expl, .bool c.ru.chk, .int .i64 c.ru.usage] /\ Below w.heap.size w V1 /\ w.heap.size + 1 < V1.heap.size) := by
  have e0 : (w.alloc (Obj.cells #[.int .i64 c.id, .slice pa lp pc, .int .i64 c.ru.time, .slice ea le ec, .bool c.ru.expl, .bool c.ru.chk, .int .i64 c.ru.usage] 127)).heap.size = w.heap.size + 1 := Array.size_push _
  have h := Blk.new (w.alloc (Obj.cells #[.int .i64 c.id, .slice pa lp pc, .int .i64 c.ru.time, .slice ea le ec, .bool c.ru.expl, .bool c.ru.chk, .int .i64 c.ru.usage] 127)) 127 #[.int .i64 c.id, .slice pb lp qc, .int .i64 c.ru.time, .slice eb le fc, .bool c.ru.expl, .bool c.ru.chk, .int .i64 c.ru.usage]
  rw [e0] at h
  rw [hV]
  exact ⟨(Blk.new w _ _).alloc _, h, ((Below.refl _ _).alloc (Nat.le_refl _) _).alloc (by rw [e0]; omega) _, by rw [size_alloc, e0]; omega⟩
 clear hV
 refine (HQ.out V1 G1.out.2.2.1).mono ?_
 rintro e V2 ⟨rfl, hb⟩
 have G2 : Hid (Blk V2 w.heap.size 127 #[.int .i64 c.id, .slice pa lp pc, .int .i64 c.ru.time, .slice ea le ec, .bool c.ru.expl, .bool c.ru.chk, .int .i64 c.ru.usage] /\ Blk V2 (w.heap.size + 1) 127 #[.int .i64 c.id, .slice pb lp qc, .int .i64 c.ru.time, .slice eb le fc, .bool c.ru.expl, .bool c.ru.chk, .int .i64 c.ru.usage] /\ Below w.heap.size w V2 /\ w.heap.size + 1 < V2.heap.size) := ⟨G1.out.1.below hb (by have := G1.out.2.2.2; omega), G1.out.2.1.below hb G1.out.2.2.2, G1.out.2.2.1.trans (hb.mono G1.out.2.2.1.size), Nat.lt_of_lt_of_le G1.out.2.2.2 hb.size⟩
 clear hb G1
 have ca2 : V2.cell? ⟨w.heap.size, 2, none⟩ = some (.int .i64 c.ru.time) := G2.out.1.cell 2
 have cb2 : V2.cell? ⟨w.heap.size + 1, 2, none⟩ = some (.int .i64 c.ru.time) := G2.out.2.1.cell 2
 have ca3 : V2.cell? ⟨w.heap.size, 3, none⟩ = some (.slice ea le ec) := G2.out.1.cell 3
 have cb3 : V2.cell? ⟨w.heap.size + 1, 3, none⟩ = some (.slice eb le fc) := G2.out.2.1.cell 3
 have ca4 : V2.cell? ⟨w.heap.size, 4, none⟩ = some (.bool c.ru.expl) := G2.out.1.cell 4
 have cb4 : V2.cell? ⟨w.heap.size + 1, 4, none⟩ = some (.bool c.ru.expl) := G2.out.2.1.cell 4
 have ca5 : V2.cell? ⟨w.heap.size, 5, none⟩ = some (.bool c.ru.chk) := G2.out.1.cell 5
 have cb5 : V2.cell? ⟨w.heap.size + 1, 5, none⟩ = some (.bool c.ru.chk) := G2.out.2.1.cell 5
 have ca6 : V2.cell? ⟨w.heap.size, 6, none⟩ = some (.int .i64 c.ru.usage) := G2.out.1.cell 6
 have cb6 : V2.cell? ⟨w.heap.size + 1, 6, none⟩ = some (.int .i64 c.ru.usage) := G2.out.2.1.cell 6
 go_wp2_with fail
 clear ca2 cb2 ca3 cb3 ca4 cb4 ca5 cb5 ca6 cb6
 refine (HQ2.out V2 G2.out.2.2.1).mono ?_
 rintro e V3 ⟨rfl, hb⟩
 have G3 : Hid (Below w.heap.size w V3) := G2.out.2.2.1.trans (hb.mono G2.out.2.2.1.size)
 clear hb G2
 go_wp2_with fail
 go_ret
 exact ⟨rfl, G3.out⟩
theorem toPlanS_any (v : Value) (l : List Pn) (B : Nat) (w : World) (hl : wtPS l <= 1048576) (hB : B <= w.heap.size) (ha : ArgPS B w v l) :
  Calls Tryz.prog 33 #[v] w fun e w' => ∃ u fp, e = .returned u /\ OwnS pnKd w' w.heap.size u l fp /\ Below w.heap.size w w' := by
 obtain ⟨i0, hi, hz0, hz1, hz2⟩ := info_parts infoPlan
 obtain ⟨a0, cap, hv⟩ := ha.shape
 obtain ⟨len, hlen⟩ := zE (l.length)
 rw [hlen] at hv
 subst hv
 have hl20 : len <= 1048576 := by unfold wtPS at hl; omega
 have HA : Hid (ArgPS B w (.slice a0 len cap) l /\ l.length = len /\ wtPS l <= 1048576) := ⟨ha, hlen, hl⟩
 clear ha hlen hl
 go_enter Tryz.func33, Tryz.ntmps33
 go_wp2_with (at_make; refine wpList_make_full _ rfl _ _ 38 rfl w.heap.size 127 i0 (.agg #[.int .i64 0, .slice none 0 0, .int .i64 0, .slice none 0 0, .bool false, .bool false, .int .i64 0]) 7 Tryz.underlying38 hi hz0 hz1 .i64 .i64 _ _ len rfl rfl ?m0 ?m1 ?m2 ?m3 ?m4 ?_)
 case m0 => simp
 case m1 => simp
 case m2 => rw [hz2]; omega
 case m3 => unfold maxLen; omega
 case m4 => exact Nat.le_refl _
 intro w1 hown hgrow
 have HO : Hid (∃ fp, OwnS pnKd w1 w.heap.size (.slice (some ⟨w.heap.size, 0, none⟩) len len) (l.take 0 ++ List.replicate (l.length - 0) zePn) fp /\ Below w.heap.size w w1) := by
  refine ⟨[w.heap.size], ?_, (Below.refl _ _).grown hgrow (Nat.le_refl _) (fun j hj => by cases hj)⟩
  rw [List.take_zero, List.nil_append, Nat.sub_zero, HA.out.2.1]
  exact OwnS.zeros pnKd (own_zePn _ _) rfl (by have h2 : (madeCells zePnV.cells (len * 7)).toList = cellsV (List.replicate len zePnV) := made_cellsV zePnV len (by decide); rw [<- h2]; exact hown)
 clear hown hgrow
 go_wp2_with fail
 go_loopw [4] (fun iv wr => ∃ k : Nat, k <= len /\ iv = .int .i64 k /\ Hid (∃ fp, OwnS pnKd wr w.heap.size (.slice (some ⟨w.heap.size, 0, none⟩) len len) (l.take k ++ List.replicate (l.length - k) zePn) fp /\ Below w.heap.size w wr)) (fun iv _ => len - (intOf iv).toNat)
 case atStart => exact ⟨0, Nat.zero_le _, rfl, HO.out⟩
 case round =>
  obtain ⟨k, hk, rfl, H⟩ := hrel
  clear HO
  by_cases hkn : k < len
  ·have hkl : k < l.length := by rw [HA.out.2.1]; exact hkn
   obtain ⟨b, off, u, hao, hbB, hPu, hus, hcell⟩ := HA.out.1.get hkl
   obtain ⟨ap, aq, ep, eq, hu⟩ := hPu.shape
   subst hao
   obtain ⟨fp, hO, hBl⟩ := H.out
   have HP : Hid (ArgPn w.heap.size wr u l[k]) := (hPu.mono hB).below hBl
   have hcb := fun i x (hx : u.cells[i]? = some x) => (hBl.cell (p := ⟨b, off + k * 7 + i, none⟩) (by show b < w.heap.size; omega)).trans (hcell i x hx)
   obtain ⟨c, hc⟩ := zE (l[k])
   rw [hc] at HP hu
   have HR := toPlan_any c u w.heap.size wr (by have h1 := wtPS_mem (List.getElem_mem hkl); rw [hc] at h1; exact wtPn_lens (Nat.le_trans h1 HA.out.2.2)) hBl.size HP.out
   subst hu
   have u0 : wr.cell? ⟨b, off + k * 7, none⟩ = some (.int .i64 c.id) := hcb 0 _ rfl
   have u1 : wr.cell? ⟨b, off + k * 7 + 1, none⟩ = some (.slice ap c.anc.length aq) := hcb 1 _ rfl
   have u2 : wr.cell? ⟨b, off + k * 7 + 2, none⟩ = some (.int .i64 c.ru.time) := hcb 2 _ rfl
   have u3 : wr.cell? ⟨b, off + k * 7 + 3, none⟩ = some (.slice ep c.ru.pol.length eq) := hcb 3 _ rfl
   have u4 : wr.cell? ⟨b, off + k * 7 + 4, none⟩ = some (.bool c.ru.expl) := hcb 4 _ rfl
   have u5 : wr.cell? ⟨b, off + k * 7 + 5, none⟩ = some (.bool c.ru.chk) := hcb 5 _ rfl
   have u6 : wr.cell? ⟨b, off + k * 7 + 6, none⟩ = some (.int .i64 c.ru.usage) := hcb 6 _ rfl
   have HN : Hid (∀ (w3 : World) (p e : Value), Below wr.heap.size wr w3 -> OwnPn w3 wr.heap.size (pnV c p e) c -> ∃ fp, OwnS pnKd (w3.setCells w.heap.size (k * 7) [.int .i64 c.id, p, .int .i64 c.ru.time, e, .bool c.ru.expl, .bool c.ru.chk, .int .i64 c.ru.usage]) w.heap.size (.slice (some ⟨w.heap.size, 0, none⟩) len len) (l.take (k + 1) ++ List.replicate (l.length - (k + 1)) zePn) fp /\ Below w.heap.size w (w3.setCells w.heap.size (k * 7) [.int .i64 c.id, p, .int .i64 c.ru.time, e, .bool c.ru.expl, .bool c.ru.chk, .int .i64 c.ru.usage])) := fun w3 p e hb hop => by
    have h2 := (hO.stays hb).put (j := k) (by rw [fillPn_len (Nat.le_of_lt hkl)]; exact HA.out.2.1.symm) (by rw [fillPn_len (Nat.le_of_lt hkl)]; exact hkl) (hop.base hBl.size) (fun y hy hm => by have h3 := fpPn_lt hop y hy; have h4 := hO.lt y hm; omega)
    obtain ⟨fp', h2, _⟩ := h2
    rw [<- hc, fillPn_set hkl] at h2
    rw [<- hc]
    have e1 : w3.setCells w.heap.size (k * 7) [.int .i64 l[k].id, p, .int .i64 l[k].ru.time, e, .bool l[k].ru.expl, .bool l[k].ru.chk, .int .i64 l[k].ru.usage] = putCells w3 w.heap.size (k * 7) (pnV l[k] p e).cells.toList := (putCells_set _ _ _ _).symm
    rw [e1]
    refine ⟨fp', h2, ?_⟩
    exact (hBl.trans (hb.mono hBl.size)).trans ((putCells_out _ _ _ _).below (fun b hb => by rw [List.mem_singleton.1 hb]; exact Nat.le_refl _) (hBl.trans (hb.mono hBl.size)).size)
   have HC : Hid (∀ w3, Below wr.heap.size wr w3 -> w3.there w.heap.size (k * 7) 7) := fun w3 hb => by
    obtain ⟨⟨u, hu, _, hcs⟩, hfz⟩ := (hO.stays hb).cellsPn (j := k) (by rw [fillPn_len (Nat.le_of_lt hkl)]; exact HA.out.2.1.symm) (by rw [fillPn_len (Nat.le_of_lt hkl)]; exact hkl)
    obtain ⟨p, e, rfl, _⟩ := hu
    intro j hj
    refine ⟨?_, hfz _⟩
    have h7 : j < (pnV ((l.take k ++ List.replicate (l.length - k) zePn)[k]'(by rw [fillPn_len (Nat.le_of_lt hkl)]; exact hkl)) p e).cells.size := hj
    rw [hcs j _ (Array.getElem?_eq_getElem h7)]
    rfl
   clear H hO hBl HP hcb hcell hPu hus hbB hc hkl
   have hki : (k : Int) < (len : Int) := by omega
   have hk0 : (0 : Int) <= (k : Int) := by omega
   unfold pnV at HR HN
   go_wp2_with fail
   refine HR.mono ?_
   rintro e w3 ⟨v3, rfl, ⟨p3, e3, rfl, ho3, ho4, hap⟩, hb3⟩
   have hth := HC.out w3 hb3
   have HN3 := HN.out w3 p3 e3 hb3 ⟨p3, e3, rfl, ho3, ho4, hap⟩
   obtain ⟨qa, qc, hq3, -⟩ := ho3.at
   obtain ⟨qe, qf, hq4, -⟩ := ho4.at
   subst hq3 hq4
   clear HN HC hb3 u0 u1 u2 u3 u4 u5 u6 HR ho3 ho4 hap
   have HN : Hid _ := HN3
   clear HN3
   unfold pnV
   obtain ⟨VV, hVV⟩ : ∃ V, V = w3.setCells w.heap.size (k * 7) #[.int .i64 c.id, .slice qa c.anc.length qc, .int .i64 c.ru.time, .slice qe c.ru.pol.length qf, .bool c.ru.expl, .bool c.ru.chk, .int .i64 c.ru.usage].toList := ⟨_, rfl⟩
   have HNV : Hid (∃ fp, OwnS pnKd VV w.heap.size (.slice (some ⟨w.heap.size, 0, none⟩) len len) (l.take (k + 1) ++ List.replicate (l.length - (k + 1)) zePn) fp /\ Below w.heap.size w VV) := by rw [hVV]; exact HN.out
   clear HN
   go_wp2_with (refine step_storeV rfl 127 _ _ rfl w.heap.size (k * 7) #[.int .i64 c.id, .slice qa c.anc.length qc, .int .i64 c.ru.time, .slice qe c.ru.pol.length qf, .bool c.ru.expl, .bool c.ru.chk, .int .i64 c.ru.usage] rfl rfl hth (by kernel_rfl) (by simp [Value.oneCell']) hVV ?_; clear hVV hth)
   go_roundw
   case rel => exact ⟨k + 1, by omega, by go_num, HNV.out⟩
   case measure => simp [intOf]; omega
  ·have hkl : k = len := by omega
   subst hkl
   go_wp2
   go_ret
   obtain ⟨fp, hO, hBl⟩ := H.out
   refine ⟨_, fp, rfl, ?_, hBl⟩
   rw [<- HA.out.2.1, List.take_length, Nat.sub_self, List.replicate_zero, List.append_nil] at hO
   rw [<- HA.out.2.1]
   exact hO
end Go.Proofs.YtabfamhaihnccaaGreat
