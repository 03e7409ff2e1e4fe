/-
  Texts of the proof.
-/
import Derived.Deep.RegionHeld3
import Derived.ChangeArms
import Derived.ChangeSlices
import Derived.ChangeOld
import Derived.DataElems
import Derived.OpenShut
import Derived.Test.YtllmgjfffkhocaaPO5
import Derived.Test.YtllmgjfffkhocaaPO6
set_option maxRecDepth 100000
namespace Go.Proofs.Ytllmgjfffkhocaa
open Go.RowKit
set_option linter.unusedVariables false
def inB (n lo hi : Int) : Bool := decide (lo <= n /\ n <= hi)
theorem wt_parts {c : Ct} {b : Nat} (h : wtC c <= b) : c.issuer.size <= b /\ c.subject.size <= b /\ c.key.size <= b /\ c.pol.length <= b /\ c.per.length <= b /\ c.den.length <= b /\ c.sig.size <= b /\ (∀ s ∈ c.per, s.size <= b) /\ ∀ s ∈ c.den, s.size <= b := by
 unfold wtC at h
 have h1 := tot_len c.per
 have h2 := tot_len c.den
 exact ⟨by omega, by omega, by omega, by omega, by omega, by omega, by omega, fun s hs => by have := tot_mem c.per s hs; omega, fun s hs => by have := tot_mem c.den s hs; omega⟩
theorem in_any (n lo hi : Int) (w : World) : Calls Try.prog 37 #[.int .i64 n, .int .i64 lo, .int .i64 hi] w fun e w' => e = .returned (.bool (inB n lo hi)) /\ Below w.heap.size w w' := by
 by_cases h : lo <= n /\ n <= hi
 ·refine (in_yes _ _ _ _ h.1 h.2).mono ?_
  rintro e w' ⟨rfl, rfl⟩
  exact ⟨by simp [inB, h], Below.refl _ _⟩
 ·refine (in_no _ _ _ _ (by omega)).mono ?_
  rintro e w' ⟨rfl, rfl⟩
  exact ⟨by unfold inB; rw [decide_eq_false h], Below.refl _ _⟩
theorem num_any (n : Int) (w : World) : Calls Try.prog 72 #[.int .i64 n] w fun e w' => e = .returned (.bool (inB n 0 9999)) /\ Below w.heap.size w w' := by
 have E := in_any n 0 9999 w
 generalize inB n 0 9999 = b at *
 go_enter Try.func72, Try.ntmps72
 go_wp2_with fail
 refine E.mono ?_
 rintro e w' ⟨rfl, hb⟩
 go_wp2_with fail
 go_ret
 exact ⟨rfl, hb⟩
theorem ArgC.mono {B B' : Nat} {w : World} {v : Value} {c : Ct} (h : ArgC B w v c) (hB : B <= B') : ArgC B' w v c := by
 obtain ⟨pa, pc, ea, ec, da, dc, hv, h1, h2, h3⟩ := h
 refine ⟨pa, pc, ea, ec, da, dc, hv, fun j hj => ?_, fun j hj => ?_, fun j hj => ?_⟩
 ·obtain ⟨b, off, e, hb, hc⟩ := h1 j hj; exact ⟨b, off, e, by omega, hc⟩
 ·obtain ⟨b, off, e, hb, hc⟩ := h2 j hj; exact ⟨b, off, e, by omega, hc⟩
 ·obtain ⟨b, off, e, hb, hc⟩ := h3 j hj; exact ⟨b, off, e, by omega, hc⟩
theorem wt_lens {c : Ct} (h : wtC c <= 1048576) : c.pol.length <= 1048576 /\ c.per.length <= 1048576 /\ c.den.length <= 1048576 := by
 obtain ⟨_, _, _, h4, h5, h6, _⟩ := wt_parts h
 exact ⟨h4, h5, h6⟩
theorem CtAt.shape {w : World} {v : Value} {c : Ct} (h : CtAt w v c) : ∃ p q e r d s, v = ctV c (.slice p c.pol.length q) (.slice e c.per.length r) (.slice d c.den.length s) := by
 obtain ⟨pv, ev, dv, hv, ⟨p, q, h1, _⟩, ⟨e, r, h2, _⟩, ⟨d, s, h3, _⟩⟩ := h
 exact ⟨p, q, e, r, d, s, by rw [hv, h1, h2, h3]⟩
end Go.Proofs.Ytllmgjfffkhocaa
namespace Go.Proofs.Ytllmgjfffkhocaa
open Go.RowKit Go.ChangeShapes
set_option linter.unusedVariables false
theorem cellsCert : Try.prog.cellsOf 104 = 13 := by kernel_rfl
theorem cI : Try.prog.cellsOf 3 = 1 := by kernel_rfl
theorem cS : Try.prog.cellsOf 9 = 1 := by kernel_rfl
theorem cB : Try.prog.cellsOf 4 = 1 := by kernel_rfl
theorem cL : Try.prog.cellsOf 44 = 1 := by kernel_rfl
theorem cT : Try.prog.cellsOf 49 = 1 := by kernel_rfl
theorem take_one {cs : List Value} {k : Nat} {v : Value} (h : (cs.drop k).take 1 = [v]) : cs[k]? = some v := by
 have := congrArg (·[0]?) h
 simpa [List.getElem?_take, List.getElem?_drop] using this
theorem ints_in {H : Type} {enc : TypeId × Value -> H} {W : World} {fuel : Nat} {cs : List Value} {x : DataW H × List MemPlace} (h : DataW.trod enc Try.prog W 0 (fun _ => true) true fuel 44 cs = some x) :
  ∃ ao cap, ∃ l : List Int, cs = [.slice ao l.length cap] /\ l.length <= maxLen /\ Wd l /\ ArgAt W.heap.size W ao l := by
 rcases open_ints Try.underlying44 Try.underlying3 (by kernel_rfl) h with ⟨hcs, _⟩ | ⟨x, l, c, zs, hcs, _, hl, hm, hz, _, hcell, hwz⟩
 ·exact ⟨none, 0, [], hcs, Nat.zero_le _, fun x hx => by simp at hx, fun j hj => by simp at hj⟩
 ·obtain ⟨h1, h2, h3⟩ := argAt_of hl (by simpa using hz) hcell hwz
  exact ⟨some x, c, zs.take l, by rw [h1]; exact hcs, by rw [h1]; exact Nat.le_trans hl hm, h2, h3⟩
theorem texts_in {H : Type} {enc : TypeId × Value -> H} {W : World} {fuel : Nat} {cs : List Value} {x : DataW H × List MemPlace} (h : DataW.trod enc Try.prog W 0 (fun _ => true) true fuel 49 cs = some x) :
  ∃ ao cap, ∃ l : List ByteArray, cs = [.slice ao l.length cap] /\ l.length <= maxLen /\ WdT l /\ ArgT W.heap.size W ao l := by
 rcases open_strings Try.underlying49 Try.underlying9 (by kernel_rfl) h with ⟨hcs, _⟩ | ⟨x, l, c, zs, hcs, _, hl, hm, hz, _, hcell, hwz⟩
 ·exact ⟨none, 0, [], hcs, Nat.zero_le _, fun x hx => by simp at hx, fun j hj => by simp at hj⟩
 ·obtain ⟨h1, h2, h3⟩ := argT_of hl (by simpa using hz) hcell hwz
  exact ⟨some x, c, zs.take l, by rw [h1]; exact hcs, by rw [h1]; exact Nat.le_trans hl hm, h2, h3⟩
theorem cert_of_trod {H : Type} {enc : TypeId × Value -> H} {W : World} {fuel : Nat} {cs : List Value} {x : DataW H × List MemPlace} (h : DataW.trod enc Try.prog W 0 (fun _ => true) true fuel 104 cs = some x) :
  ∃ (c : Ct) (p e d : Value), Value.agg cs.toArray = ctV c p e d /\ ArgC W.heap.size W (ctV c p e d) c /\ WdC c := by
 obtain ⟨xs, m, rfl, hx, hl, hxl, hall⟩ := DataW.trod_struct Try.underlying104 h
 rw [cellsCert] at hl
 obtain ⟨x0, x1, x2, x3, x4, x5, x6, x7, x8, x9, x10, x11, x12, rfl⟩ : ∃ x0 x1 x2 x3 x4 x5 x6 x7 x8 x9 x10 x11 x12, xs = [x0, x1, x2, x3, x4, x5, x6, x7, x8, x9, x10, x11, x12] := by
  match xs, hxl with
  | [x0, x1, x2, x3, x4, x5, x6, x7, x8, x9, x10, x11, x12], _ => exact ⟨x0, x1, x2, x3, x4, x5, x6, x7, x8, x9, x10, x11, x12, rfl⟩
 have f0 := hall 0 _ rfl
 change DataW.trod _ _ _ _ _ _ _ 3 ((cs.drop 0).take (Try.prog.cellsOf 3)) = some x0 at f0
 rw [cI] at f0
 obtain ⟨v0, h0, _, w0⟩ := DataW.trod_int Try.underlying3 f0
 have g0 := take_one h0
 clear f0 h0
 have f1 := hall 1 _ rfl
 change DataW.trod _ _ _ _ _ _ _ 9 ((cs.drop 1).take (Try.prog.cellsOf 9)) = some x1 at f1
 rw [cS] at f1
 obtain ⟨v1, h1, _, w1⟩ := DataW.trod_string Try.underlying9 f1
 have g1 := take_one h1
 clear f1 h1
 have f2 := hall 2 _ rfl
 change DataW.trod _ _ _ _ _ _ _ 9 ((cs.drop 2).take (Try.prog.cellsOf 9)) = some x2 at f2
 rw [cS] at f2
 obtain ⟨v2, h2, _, w2⟩ := DataW.trod_string Try.underlying9 f2
 have g2 := take_one h2
 clear f2 h2
 have f3 := hall 3 _ rfl
 change DataW.trod _ _ _ _ _ _ _ 3 ((cs.drop 3).take (Try.prog.cellsOf 3)) = some x3 at f3
 rw [cI] at f3
 obtain ⟨v3, h3, _, w3⟩ := DataW.trod_int Try.underlying3 f3
 have g3 := take_one h3
 clear f3 h3
 have f4 := hall 4 _ rfl
 change DataW.trod _ _ _ _ _ _ _ 3 ((cs.drop 4).take (Try.prog.cellsOf 3)) = some x4 at f4
 rw [cI] at f4
 obtain ⟨v4, h4, _, w4⟩ := DataW.trod_int Try.underlying3 f4
 have g4 := take_one h4
 clear f4 h4
 have f5 := hall 5 _ rfl
 change DataW.trod _ _ _ _ _ _ _ 9 ((cs.drop 5).take (Try.prog.cellsOf 9)) = some x5 at f5
 rw [cS] at f5
 obtain ⟨v5, h5, _, w5⟩ := DataW.trod_string Try.underlying9 f5
 have g5 := take_one h5
 clear f5 h5
 have f6 := hall 6 _ rfl
 change DataW.trod _ _ _ _ _ _ _ 4 ((cs.drop 6).take (Try.prog.cellsOf 4)) = some x6 at f6
 rw [cB] at f6
 obtain ⟨v6, h6, _⟩ := DataW.trod_bool Try.underlying4 f6
 have g6 := take_one h6
 clear f6 h6
 have f7 := hall 7 _ rfl
 change DataW.trod _ _ _ _ _ _ _ 3 ((cs.drop 7).take (Try.prog.cellsOf 3)) = some x7 at f7
 rw [cI] at f7
 obtain ⟨v7, h7, _, w7⟩ := DataW.trod_int Try.underlying3 f7
 have g7 := take_one h7
 clear f7 h7
 have f8 := hall 8 _ rfl
 change DataW.trod _ _ _ _ _ _ _ 3 ((cs.drop 8).take (Try.prog.cellsOf 3)) = some x8 at f8
 rw [cI] at f8
 obtain ⟨v8, h8, _, w8⟩ := DataW.trod_int Try.underlying3 f8
 have g8 := take_one h8
 clear f8 h8
 have f9 := hall 9 _ rfl
 change DataW.trod _ _ _ _ _ _ _ 44 ((cs.drop 9).take (Try.prog.cellsOf 44)) = some x9 at f9
 rw [cL] at f9
 obtain ⟨a9, p9, v9, h9, m9, w9, r9⟩ := ints_in f9
 have g9 := take_one h9
 clear f9 h9
 have f10 := hall 10 _ rfl
 change DataW.trod _ _ _ _ _ _ _ 49 ((cs.drop 10).take (Try.prog.cellsOf 49)) = some x10 at f10
 rw [cT] at f10
 obtain ⟨a10, p10, v10, h10, m10, w10, r10⟩ := texts_in f10
 have g10 := take_one h10
 clear f10 h10
 have f11 := hall 11 _ rfl
 change DataW.trod _ _ _ _ _ _ _ 49 ((cs.drop 11).take (Try.prog.cellsOf 49)) = some x11 at f11
 rw [cT] at f11
 obtain ⟨a11, p11, v11, h11, m11, w11, r11⟩ := texts_in f11
 have g11 := take_one h11
 clear f11 h11
 have f12 := hall 12 _ rfl
 change DataW.trod _ _ _ _ _ _ _ 9 ((cs.drop 12).take (Try.prog.cellsOf 9)) = some x12 at f12
 rw [cS] at f12
 obtain ⟨v12, h12, _, w12⟩ := DataW.trod_string Try.underlying9 f12
 have g12 := take_one h12
 clear f12 h12
 have hcs : cs = [.int .i64 v0, .string v1, .string v2, .int .i64 v3, .int .i64 v4, .string v5, .bool v6, .int .i64 v7, .int .i64 v8, .slice a9 v9.length p9, .slice a10 v10.length p10, .slice a11 v11.length p11, .string v12] := by
  match cs, hl with
  | [y0, y1, y2, y3, y4, y5, y6, y7, y8, y9, y10, y11, y12], _ =>
   simp at g0 g1 g2 g3 g4 g5 g6 g7 g8 g9 g10 g11 g12
   rw [g0, g1, g2, g3, g4, g5, g6, g7, g8, g9, g10, g11, g12]
 refine ⟨⟨v0, v1, v2, v3, v4, v5, v6, v7, v8, v9, v10, v11, v12⟩, .slice a9 v9.length p9, .slice a10 v10.length p10, .slice a11 v11.length p11, by rw [hcs]; rfl, ⟨a9, p9, a10, p10, a11, p11, rfl, r9, r10, r11⟩, ?_⟩
 unfold maxLen at m9 m10 m11 w1 w2 w5 w12
 refine ⟨fun y hy => ?_, w9, fun s hs => ?_, w10, w11, m9, m10, m11⟩
 ·simp only [List.mem_cons, List.not_mem_nil, or_false] at hy
  simp [Lit.wf, IntKind.min, IntKind.max, IntKind.signed, IntKind.bits] at w0 w3 w4 w7 w8
  rcases hy with rfl | rfl | rfl | rfl | rfl <;> omega
 ·simp only [List.mem_cons, List.not_mem_nil, or_false] at hs
  rcases hs with rfl | rfl | rfl | rfl <;> assumption
end Go.Proofs.Ytllmgjfffkhocaa
