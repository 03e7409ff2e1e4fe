/-
  Texts of the proof.
-/
import Derived.Deep.CutBlock
import Derived.Test.YthbdgdfanpbkeaaGreatAQ29
import Derived.Test.YthbdgdfanpbkeaaGreatAQ30
set_option maxRecDepth 100000
set_option maxHeartbeats 25600000
namespace Go.Proofs.YthbdgdfanpbkeaaGreat
open Go.RowKit Der
set_option linter.unusedVariables false
set_option linter.unusedSimpArgs false
def Cs (B : Nat) (w w1 W : World) (c : Nat) (a0 : Option Addr) (len cap : Nat) : Prop := (Below w.heap.size w w1 /\ w.heap.size <= c) /\ w1.grownBy W (some c) /\ Cur B W c a0 len cap
theorem Cs.draw {B : Nat} {w w1 W W' : World} {c : Nat} {a0 : Option Addr} {len cap : Nat} (h : Cs B w w1 W c a0 len cap) (hc : Cur B W' c a0 len cap) (hg : W.grownBy W' (some c)) : Cs B w w1 W' c a0 len cap := ⟨h.1, grownBy_trans h.2.1 hg, hc⟩
theorem Cs.on {B : Nat} {w w1 W W' : World} {c : Nat} {a0 : Option Addr} {len cap : Nat} (h : Cs B w w1 W c a0 len cap) (hb : Below W.heap.size W W') : Cs B w w1 W' c a0 len cap := ⟨h.1, grownBy_trans h.2.1 (grownBy_below' hb), h.2.2.kept hb⟩
theorem Cs.all {B : Nat} {w w1 W : World} {c : Nat} {a0 : Option Addr} {len cap : Nat} (h : Cs B w w1 W c a0 len cap) : Below w.heap.size w W := h.1.1.trans (grownBy_below h.2.1 h.1.2 h.1.1.size)
end Go.Proofs.YthbdgdfanpbkeaaGreat
namespace Go.Proofs.YthbdgdfanpbkeaaGreat
open Go.RowKit
set_option linter.unusedVariables false
set_option linter.unusedSimpArgs false
theorem OwnC.same {w w' : World} {base : Nat} {v : Value} {c : Ct} (h : OwnC w base v c) (hs : ∀ g ∈ fpC v, w'.heap[g]? = w.heap[g]?) : OwnC w' base v c := by
 obtain ⟨p, e, d, rfl, h1, h2, h3, h4⟩ := h
 exact ⟨p, e, d, rfl, row_same h1 fun g hg => hs g (fpC_mem.2 (.inl hg)), row_same h2 fun g hg => hs g (fpC_mem.2 (.inr (.inl hg))), row_same h3 fun g hg => hs g (fpC_mem.2 (.inr (.inr hg))), h4⟩
end Go.Proofs.YthbdgdfanpbkeaaGreat
namespace Go.Proofs.YthbdgdfanpbkeaaGreat
open Go.RowKit Der
set_option linter.unusedVariables false
set_option linter.unusedSimpArgs false
def BwC (x : Ct) : Prop := (x.issuer.size <= 100 /\ x.subject.size <= 100 /\ x.key.size <= 15 /\ x.sig.size <= 15) /\ (bd x.serial /\ bd x.frm /\ bd x.upto /\ bd x.pathLen /\ bd x.usage) /\ (x.pol.length <= 6 /\ ∀ p ∈ x.pol, bd p) /\ (x.per.length <= 6 /\ ∀ s ∈ x.per, s.size <= 100) /\ (x.den.length <= 6 /\ ∀ s ∈ x.den, s.size <= 100)
theorem tot_le : ∀ {l : List ByteArray}, (∀ s ∈ l, s.size <= 100) -> totT l <= 101 * l.length
 | [], _ => Nat.le_refl _
 | s :: l, h => by
  have h1 := tot_le fun y hy => h y (List.mem_cons_of_mem _ hy)
  have h2 := h s (List.mem_cons_self ..)
  simp only [totT, List.map_cons, List.sum_cons, List.length_cons] at *
  omega
theorem BwC.wt {x : Ct} (h : BwC x) : wtC x <= 2000 := by
 obtain ⟨⟨h1, h2, h3, h4⟩, -, ⟨h5, -⟩, ⟨h6, h7⟩, h8, h9⟩ := h
 have := tot_le h7
 have := tot_le h9
 unfold wtC
 omega
theorem BwC.wd {x : Ct} (h : BwC x) : WdC x := by
 obtain ⟨⟨h1, h2, h3, h4⟩, ⟨b1, b2, b3, b4, b5⟩, ⟨h5, p5⟩, ⟨h6, h7⟩, h8, h9⟩ := h
 unfold bd at b1 b2 b3 b4 b5 p5
 refine ⟨fun y hy => ?_, fun y hy => ?_, fun s hs => ?_, fun s hs => ?_, fun s hs => ?_, by omega, by omega, by omega⟩
 ·simp only [List.mem_cons, List.not_mem_nil, or_false] at hy
  rcases hy with rfl | rfl | rfl | rfl | rfl <;> omega
 ·have := p5 y hy
  omega
 ·simp only [List.mem_cons, List.not_mem_nil, or_false] at hs
  rcases hs with rfl | rfl | rfl | rfl <;> omega
 ·have := h7 s hs
  omega
 ·have := h9 s hs
  omega
theorem OwnC.putPol {W : World} {b : Nat} {x : Ct} {p e d p' : Value} {l : List Int} (h : OwnC W b (ctV x p e d) x) (hp : OwnI W b p' l) (h1 : Ap p' e /\ Ap e p') (h2 : Ap p' d /\ Ap d p') : OwnC W b (ctV { x with pol := l } p' e d) { x with pol := l } := by
 obtain ⟨p0, e0, d0, hv, g1, g2, g3, g4, g5, g6⟩ := h
 simp only [ctV, Value.agg.injEq, Array.mk.injEq, List.cons.injEq, true_and, and_true] at hv
 obtain ⟨rfl, rfl, rfl⟩ := hv
 exact ⟨p', e, d, rfl, hp, g2, g3, h1, h2, g6⟩
theorem OwnC.parts {W : World} {b : Nat} {x : Ct} {p e d : Value} (h : OwnC W b (ctV x p e d) x) : OwnI W b p x.pol /\ OwnT W b e x.per /\ OwnT W b d x.den := by
 obtain ⟨p0, e0, d0, hv, g1, g2, g3, g4⟩ := h
 simp only [ctV, Value.agg.injEq, Array.mk.injEq, List.cons.injEq, true_and, and_true] at hv
 obtain ⟨rfl, rfl, rfl⟩ := hv
 exact ⟨g1, g2, g3⟩
def MeS (B : Nat) (w W : World) (c : Nat) (a0 : Option Addr) (len cap : Nat) (g : Nat) (x : Ct) (p e d : Value) : Prop := ((w.grownBy W (some c) /\ Cur B W c a0 len cap) /\ Blk W w.heap.size 92 #[.int .i64 0, .string ⟨#[]⟩, .string ⟨#[]⟩, .int .i64 0, .int .i64 0, .string ⟨#[]⟩, .bool false, .int .i64 0, .int .i64 0, .slice none 0 0, .slice none 0 0, .slice none 0 0, .string ⟨#[]⟩] /\ Blk W g 92 #[.int .i64 x.serial, .string x.issuer, .string x.subject, .int .i64 x.frm, .int .i64 x.upto, .string x.key, .bool x.ca, .int .i64 x.pathLen, .int .i64 x.usage, p, e, d, .string x.sig] /\ (c < w.heap.size /\ w.heap.size < g)) /\ OwnC W (g + 1) (ctV x p e d) x
theorem MeS.draw {B : Nat} {w W W' : World} {c : Nat} {a0 : Option Addr} {len cap g : Nat} {x : Ct} {p e d : Value} (h : MeS B w W c a0 len cap g x p e d) (hc : Cur B W' c a0 len cap) (hg : W.grownBy W' (some c)) : MeS B w W' c a0 len cap g x p e d := by
 obtain ⟨⟨⟨h1, h2⟩, h3, h4, h5, h6⟩, h7⟩ := h
 refine ⟨⟨⟨grownBy_trans h1 hg, hc⟩, h3.grown hg (fun e => by have := Option.some.inj e; omega), h4.grown hg (fun e => by have := Option.some.inj e; omega), h5, h6⟩, OwnC.same h7 fun b hb => hg.block b (fpC_lt h7 b hb).2 (fun e => ?_)⟩
 have := Option.some.inj e
 have := (fpC_lt h7 b hb).1
 omega
theorem OwnC.setG {W : World} {g : Nat} {v : Value} {x : Ct} (h : OwnC W (g + 1) v x) (j : Nat) (y : Value) : OwnC (W.setCell ⟨g, j, none⟩ y) (g + 1) v x := OwnC.same h fun b hb => heap_setCell_other _ _ _ _ (by have := (fpC_lt h b hb).1; show b ≠ g; omega)
theorem grown_setG {w W : World} {c g : Nat} (h : w.grownBy W (some c)) (hg : w.heap.size < g) (j : Nat) (y : Value) : w.grownBy (W.setCell ⟨g, j, none⟩ y) (some c) := grow_below h ((Below.refl _ _).setCell (p := ⟨g, j, none⟩) (Nat.le_of_lt hg) _)
theorem polL_small {l : List Int} (h : l ∈ polLists) : l.length <= 6 /\ ∀ p ∈ l, bd p := by
 simp only [polLists, List.mem_cons, List.not_mem_nil, or_false] at h
 unfold bd
 rcases h with rfl | rfl | rfl | rfl | rfl <;> decide
theorem sigB_small (i : Int) (s : ByteArray) : (sigB i s).size <= 15 := by
 by_cases h : 0 <= i /\ i < 6
 ·obtain ⟨n, rfl⟩ : ∃ n : Nat, i = (n : Int) := ⟨i.toNat, by omega⟩
  rw [sigB_size s (by omega)]
  exact Nat.le_refl _
 ·unfold sigB
  rw [if_neg h]
  exact Nat.zero_le _
theorem BwC.sg {x : Ct} (h : BwC x) (i : Int) : BwC (sgC x i) := by
 obtain ⟨⟨z1, z2, z3, z4⟩, h2, h3, h4, h5⟩ := h
 have hs : (sgC x i).sig.size <= 15 := by unfold sgC; exact sigB_small _ _
 have e : sgC x i = { x with sig := (sgC x i).sig } := by unfold sgC; rfl
 generalize (sgC x i).sig = q at hs e
 rw [e]
 exact ⟨⟨z1, z2, z3, hs⟩, h2, h3, h4, h5⟩
def BqC (x : Ct) : Prop := BwC x /\ 1 <= x.key.size
theorem BqC.sg {x : Ct} (h : BqC x) (i : Int) : BqC (sgC x i) := ⟨h.1.sg i, by unfold sgC; exact h.2⟩
theorem ap_nil (u : Value) : Ap u (.slice none 0 0) /\ Ap (.slice none 0 0) u := by
 refine ⟨?_, .inl rfl⟩
 unfold Ap
 cases h : u.ownBlock with
 | none => exact .inl rfl
 | some g => exact .inr (by simp [Value.ownBlock])
theorem MeS.set {B : Nat} {w W : World} {c : Nat} {a0 : Option Addr} {len cap g : Nat} {x x' : Ct} {p e d p' e' d' : Value} (h : MeS B w W c a0 len cap g x p e d) (j : Nat) (v : Value) (hcells : (#[.int .i64 x.serial, .string x.issuer, .string x.subject, .int .i64 x.frm, .int .i64 x.upto, .string x.key, .bool x.ca, .int .i64 x.pathLen, .int .i64 x.usage, p, e, d, .string x.sig] : Array Value).setIfInBounds j v = #[.int .i64 x'.serial, .string x'.issuer, .string x'.subject, .int .i64 x'.frm, .int .i64 x'.upto, .string x'.key, .bool x'.ca, .int .i64 x'.pathLen, .int .i64 x'.usage, p', e', d', .string x'.sig]) (ho : OwnC W (g + 1) (ctV x' p' e' d') x') : MeS B w (W.setCell ⟨g, j, none⟩ v) c a0 len cap g x' p' e' d' := by
 obtain ⟨⟨⟨h1, h2⟩, h3, h4, h5, h6⟩, h7⟩ := h
 have hb : Below g W (W.setCell ⟨g, j, none⟩ v) := (Below.refl _ _).setCell (p := ⟨g, j, none⟩) (Nat.le_refl _) _
 refine ⟨⟨⟨grown_setG h1 h6 j v, h2.keptB hb (by omega)⟩, h3.below hb (by omega), ?_, h5, h6⟩, ho.setG j v⟩
 have h8 := h4.set j v
 rw [hcells] at h8
 exact h8
theorem MeS.row {B : Nat} {w W W' : World} {c : Nat} {a0 : Option Addr} {len cap g : Nat} {x : Ct} {p e d : Value} (h : MeS B w W c a0 len cap g x p e d) (hb : Below W.heap.size W W') : MeS B w W' c a0 len cap g x p e d := h.draw (h.1.1.2.kept hb) (grownBy_below' hb)
def CmPost (B : Nat) (w : World) (c : Nat) (a0 : Option Addr) (len cap : Nat) (e : Ending) (w' : World) : Prop := ∃ u x, e = .returned u /\ OwnC w' w.heap.size u x /\ BqC x /\ Cur B w' c a0 len cap /\ w.grownBy w' (some c)
theorem l09Made_any (serial : Int) (hse : bd serial) (iss sub : ByteArray) (hi : iss.size <= 100) (hs : sub.size <= 100) (by_ house : Int) (hby : -9223372036854775808 <= by_ /\ by_ <= 9223372036854775807) (hh : 0 <= house /\ house < 6) (ca : Bool) (B : Nat) (w : World) (c : Nat) (a0 : Option Addr) (len cap : Nat) (hC : Cur B w c a0 len cap) :
  Calls Tryz.prog 81 #[.pointer (some ⟨c, 0, none⟩), .int .i64 serial, .string iss, .int .i64 by_, .string sub, .int .i64 house, .bool ca] w fun e w' => CmPost B w c a0 len cap e w' := by
 have HC : Hid (Cur B w c a0 len cap /\ (bd serial /\ iss.size <= 100 /\ sub.size <= 100) /\ (-9223372036854775808 <= by_ /\ by_ <= 9223372036854775807) /\ 0 <= house /\ house < 6) := ⟨hC, ⟨hse, hi, hs⟩, hby, hh⟩
 clear hC hse hi hs hby hh
 obtain ⟨W0, hW0⟩ : ∃ V, V = w.alloc (Obj.cells #[.int .i64 0, .string ⟨#[]⟩, .string ⟨#[]⟩, .int .i64 0, .int .i64 0, .string ⟨#[]⟩, .bool false, .int .i64 0, .int .i64 0, .slice none 0 0, .slice none 0 0, .slice none 0 0, .string ⟨#[]⟩] 92) := ⟨_, rfl⟩
 have H0 : Hid ((Below w.heap.size w W0 /\ Cur B W0 c a0 len cap) /\ Blk W0 w.heap.size 92 #[.int .i64 0, .string ⟨#[]⟩, .string ⟨#[]⟩, .int .i64 0, .int .i64 0, .string ⟨#[]⟩, .bool false, .int .i64 0, .int .i64 0, .slice none 0 0, .slice none 0 0, .slice none 0 0, .string ⟨#[]⟩]) := by
  have hb : Below w.heap.size w W0 := by rw [hW0]; exact (Below.refl _ _).alloc (Nat.le_refl _) _
  exact ⟨⟨hb, HC.out.1.kept hb⟩, by rw [hW0]; exact Blk.new _ _ _⟩
 go_enter Tryz.func81, Tryz.ntmps81
 go_upto_region 1 with fail
 rw [<- hW0]
 clear hW0
 go_wp2_with fail
 refine (specPublic_any house W0 (by have := HC.out.2.2.2; omega)).mono ?_
 rintro e w1 ⟨rfl, hb1⟩
 obtain ⟨key, hkey⟩ := zE (pubB house)
 have HKY : Hid (1 <= key.size /\ key.size <= 15) := by
  have hh := HC.out.2.2.2
  obtain ⟨n, hn⟩ : ∃ n : Nat, house = (n : Int) := ⟨house.toNat, by omega⟩
  have h15 : key.size = 15 := by rw [<- hkey, hn]; exact pubB_size (by omega)
  exact ⟨by omega, by omega⟩
 rw [hkey]
 clear hkey
 have H1 : Hid ((Below w.heap.size w w1 /\ Cur B w1 c a0 len cap) /\ Blk w1 w.heap.size 92 #[.int .i64 0, .string ⟨#[]⟩, .string ⟨#[]⟩, .int .i64 0, .int .i64 0, .string ⟨#[]⟩, .bool false, .int .i64 0, .int .i64 0, .slice none 0 0, .slice none 0 0, .slice none 0 0, .string ⟨#[]⟩]) := ⟨⟨H0.out.1.1.trans (hb1.mono H0.out.1.1.size), H0.out.1.2.kept hb1⟩, H0.out.2.below hb1 H0.out.2.lt⟩
 clear hb1 H0
 go_upto_region 2 with fail
 obtain ⟨V1, hV1⟩ : ∃ V, V = w1.alloc (Obj.cells #[.int .i64 serial, .string iss, .string sub, .int .i64 10, .int .i64 90, .string key, .bool ca, .int .i64 99, .int .i64 7, .slice none 0 0, .slice none 0 0, .slice none 0 0, .string ⟨#[]⟩] 92) := ⟨_, rfl⟩
 obtain ⟨g, hgg⟩ := zE (w1.heap.size)
 have H2 : Hid (MeS B w V1 c a0 len cap g (⟨serial, iss, sub, 10, 90, key, ca, 99, 7, [], [], [], ⟨#[]⟩⟩ : Ct) (.slice none 0 0) (.slice none 0 0) (.slice none 0 0) /\ BqC (⟨serial, iss, sub, 10, 90, key, ca, 99, 7, [], [], [], ⟨#[]⟩⟩ : Ct)) := by
  have hb : Below w1.heap.size w1 V1 := by rw [hV1]; exact (Below.refl _ _).alloc (Nat.le_refl _) _
  refine ⟨⟨⟨⟨grownBy_below' (H1.out.1.1.trans (hb.mono H1.out.1.1.size)), H1.out.1.2.kept hb⟩, H1.out.2.below hb H1.out.2.lt, by rw [hV1, <- hgg]; exact Blk.new _ _ _, HC.out.1.lt, by rw [<- hgg]; exact H1.out.2.lt⟩, ⟨.slice none 0 0, .slice none 0 0, .slice none 0 0, rfl, World.ownsRow_nil _ _ _ _, World.ownsRow_nil _ _ _ _, World.ownsRow_nil _ _ _ _, ⟨.inl rfl, .inl rfl⟩, ⟨.inl rfl, .inl rfl⟩, .inl rfl, .inl rfl⟩⟩, ?_⟩
  have h3 := HC.out.2.1
  exact ⟨⟨⟨h3.2.1, h3.2.2, HKY.out.2, Nat.zero_le _⟩, ⟨h3.1, by show -1000000 <= (10 : Int) /\ (10 : Int) <= 1000000; decide, by show -1000000 <= (90 : Int) /\ (90 : Int) <= 1000000; decide, by show -1000000 <= (99 : Int) /\ (99 : Int) <= 1000000; decide, by show -1000000 <= (7 : Int) /\ (7 : Int) <= 1000000; decide⟩, ⟨Nat.zero_le _, fun p hp => absurd hp List.not_mem_nil⟩, ⟨Nat.zero_le _, fun p hp => absurd hp List.not_mem_nil⟩, Nat.zero_le _, fun p hp => absurd hp List.not_mem_nil⟩, HKY.out.1⟩
 rw [<- hV1]
 try rw [hgg]
 clear hV1 hgg H1 HKY
 go_wp2_with fail
 refine (l01Once_any 4 B V1 c a0 len cap (by decide) H2.out.1.1.1.2).mono ?_
 rintro e w2 ⟨b1, rfl, hc, hg⟩
 have H3 : Hid (MeS B w w2 c a0 len cap g (⟨serial, iss, sub, 10, 90, key, ca, 99, 7, [], [], [], ⟨#[]⟩⟩ : Ct) (.slice none 0 0) (.slice none 0 0) (.slice none 0 0) /\ BqC (⟨serial, iss, sub, 10, 90, key, ca, 99, 7, [], [], [], ⟨#[]⟩⟩ : Ct)) := ⟨H2.out.1.draw hc hg, H2.out.2⟩
 clear H2 hc hg
 go_upto_if 24 with fail
 go_cut [] from 16 (fun wx => Hid (∃ (x : Ct) (p : Value), MeS B w wx c a0 len cap g x p (.slice none 0 0) (.slice none 0 0) /\ BqC x))
 case first =>
  cases b1 with
  | false =>
   obtain ⟨V3, hV3⟩ : ∃ V, V = w2.alloc (Obj.cells #[.int .i64 1, .int .i64 2] 3) := ⟨_, rfl⟩
   have hb3 : Below w2.heap.size w2 V3 := by rw [hV3]; exact (Below.refl _ _).alloc (Nat.le_refl _) _
   have HR : Hid (OwnI V3 w2.heap.size (.slice (some ⟨w2.heap.size, 0, none⟩) 2 2) [1, 2]) := by rw [hV3]; exact World.ownsRow_lit w2 #[.int .i64 1, .int .i64 2] 2 (Nat.le_refl _) (by unfold maxLen; omega) rfl
   have H4 : Hid (MeS B w V3 c a0 len cap g (⟨serial, iss, sub, 10, 90, key, ca, 99, 7, [], [], [], ⟨#[]⟩⟩ : Ct) (.slice none 0 0) (.slice none 0 0) (.slice none 0 0) /\ g < w2.heap.size) := ⟨H3.out.1.row hb3, H3.out.1.1.2.2.1.lt⟩
   have e9 : (w2.alloc (Obj.cells #[.int .i64 1, .int .i64 2] 3)).cell? ⟨g, 9, none⟩ = some (.slice none 0 0) := by rw [<- hV3]; exact H4.out.1.1.2.2.1.cell 9
   have ef : ∀ i, (w2.alloc (Obj.cells #[.int .i64 1, .int .i64 2] 3)).frozen? ⟨g, i, none⟩ = false := fun i => by rw [<- hV3]; exact H4.out.1.1.2.2.1.free i
   have hb : BqC { (⟨serial, iss, sub, 10, 90, key, ca, 99, 7, [], [], [], ⟨#[]⟩⟩ : Ct) with pol := [1, 2] } := by
    obtain ⟨h1, h2, -, h4⟩ := H3.out.2.1
    exact ⟨⟨h1, h2, polL_small (l := [1, 2]) (by decide), h4⟩, H3.out.2.2⟩
   have HN : Hid (∃ (x : Ct) (p : Value), MeS B w ((w2.alloc (Obj.cells #[.int .i64 1, .int .i64 2] 3)).setCell ⟨g, 9, none⟩ (.slice (some ⟨w2.heap.size, 0, none⟩) 2 2)) c a0 len cap g x p (.slice none 0 0) (.slice none 0 0) /\ BqC x) := by
    rw [<- hV3]
    exact ⟨{ (⟨serial, iss, sub, 10, 90, key, ca, 99, 7, [], [], [], ⟨#[]⟩⟩ : Ct) with pol := [1, 2] }, _, H4.out.1.set 9 _ rfl (OwnC.putPol H4.out.1.2 (HR.out.base H4.out.2) (ap_nil _) (ap_nil _)), hb⟩
   clear hb3 hb hV3 HR H4
   go_wp2_with fail
   go_meet
   exact HN.out
  | true =>
   go_wp2_with fail
   refine (l08Policies_any B w2 c a0 len cap H3.out.1.1.1.2).mono ?_
   rintro e w3 ⟨l, p, rfl, hp, hl, hc, hg⟩
   have H4 : Hid (MeS B w w3 c a0 len cap g (⟨serial, iss, sub, 10, 90, key, ca, 99, 7, [], [], [], ⟨#[]⟩⟩ : Ct) (.slice none 0 0) (.slice none 0 0) (.slice none 0 0) /\ g < w2.heap.size /\ OwnI w3 w2.heap.size p l /\ l ∈ polLists) := ⟨H3.out.1.draw hc hg, H3.out.1.1.2.2.1.lt, hp, hl⟩
   obtain ⟨pa, pc, hpv, -⟩ := hp.at
   obtain ⟨pl, hpl⟩ := zE (l.length)
   rw [hpl] at hpv
   subst hpv
   clear hp hl hc hg hpl
   have e9 : w3.cell? ⟨g, 9, none⟩ = some (.slice none 0 0) := H4.out.1.1.2.2.1.cell 9
   have ef := fun i => H4.out.1.1.2.2.1.free i
   go_wp2_with fail
   go_meet
   have hb : BqC { (⟨serial, iss, sub, 10, 90, key, ca, 99, 7, [], [], [], ⟨#[]⟩⟩ : Ct) with pol := l } := by
    obtain ⟨h1, h2, -, h4⟩ := H3.out.2.1
    exact ⟨⟨h1, h2, polL_small H4.out.2.2.2, h4⟩, H3.out.2.2⟩
   exact ⟨{ (⟨serial, iss, sub, 10, 90, key, ca, 99, 7, [], [], [], ⟨#[]⟩⟩ : Ct) with pol := l }, _, H4.out.1.set 9 _ rfl (OwnC.putPol H4.out.1.2 (H4.out.2.2.1.base H4.out.2.1) (ap_nil _) (ap_nil _)), hb⟩
 case rest =>
 clear H3
 obtain ⟨x, p, hM, hBx⟩ := hcut.out
 rename World => w3
 have H3 : Hid (MeS B w w3 c a0 len cap g x p (.slice none 0 0) (.slice none 0 0) /\ BqC x) := ⟨hM, hBx⟩
 clear hcut hM hBx
 go_wp2_with fail
 refine (l01Below_any 12 B w3 c a0 len cap (by decide) H3.out.1.1.1.2).mono ?_
 rintro e w4 ⟨xk, hk0, hk1, -, rfl, hc, hg⟩
 have H4 : Hid (MeS B w w4 c a0 len cap g x p (.slice none 0 0) (.slice none 0 0) /\ BqC x) := ⟨H3.out.1.draw hc hg, H3.out.2⟩
 clear hc hg H3 hk1
 go_upto_block 0 with fail
 go_cut [] from 16 (fun wx => Hid (∃ (x' : Ct) (p' e' d' : Value), MeS B w wx c a0 len cap g x' p' e' d' /\ BqC x'))
 case first =>
  by_cases k0 : xk = 0
  ·subst k0
   have ec : w4.cell? ⟨g, 4, none⟩ = some (.int .i64 x.upto) := H4.out.1.1.2.2.1.cell 4
   have ef := fun i => H4.out.1.1.2.2.1.free i
   have H5 : Hid (MeS B w (w4.setCell ⟨g, 4, none⟩ (.int .i64 40)) c a0 len cap g (({ x with upto := 40 } : Ct)) p (.slice none 0 0) (.slice none 0 0) /\ BqC (({ x with upto := 40 } : Ct))) := by
    obtain ⟨⟨z1, z2, z3, z4⟩, ⟨b1, b2, b3, b4, b5⟩, h3, h4, h5⟩ := H4.out.2.1
    exact ⟨H4.out.1.set 4 _ rfl (by obtain ⟨q1, q2, q3⟩ := H4.out.1.2.parts; exact ⟨p, _, _, rfl, q1, q2, q3, ap_nil _, ap_nil _, ap_nil _⟩), ⟨⟨z1, z2, z3, z4⟩, ⟨b1, b2, by show -1000000 <= (40 : Int) /\ (40 : Int) <= 1000000; decide, b4, b5⟩, h3, h4, h5⟩, H4.out.2.2⟩
   clear H4
   go_wp2_with fail
   go_meet
   exact ⟨({ x with upto := 40 } : Ct), p, .slice none 0 0, .slice none 0 0, H5.out⟩
  by_cases k1 : xk = 1
  ·subst k1
   go_wp2_with fail
   refine (l01Below_any 2 B w4 c a0 len cap (by decide) H4.out.1.1.1.2).mono ?_
   rintro e w5 ⟨n5, hn0, hn1, -, rfl, hc, hg⟩
   have hn2 : n5 < 2 := hn1 (by decide)
   have H6 : Hid (MeS B w w5 c a0 len cap g x p (.slice none 0 0) (.slice none 0 0) /\ BqC x) := ⟨H4.out.1.draw hc hg, H4.out.2⟩
   clear hc hg hn1
   have ec : w5.cell? ⟨g, 7, none⟩ = some (.int .i64 x.pathLen) := H6.out.1.1.2.2.1.cell 7
   have ef := fun i => H6.out.1.1.2.2.1.free i
   have H5 : Hid (MeS B w (w5.setCell ⟨g, 7, none⟩ (.int .i64 n5)) c a0 len cap g (({ x with pathLen := n5 } : Ct)) p (.slice none 0 0) (.slice none 0 0) /\ BqC (({ x with pathLen := n5 } : Ct))) := by
    obtain ⟨⟨z1, z2, z3, z4⟩, ⟨b1, b2, b3, b4, b5⟩, h3, h4, h5⟩ := H6.out.2.1
    exact ⟨H6.out.1.set 7 _ rfl (by obtain ⟨q1, q2, q3⟩ := H6.out.1.2.parts; exact ⟨p, _, _, rfl, q1, q2, q3, ap_nil _, ap_nil _, ap_nil _⟩), ⟨⟨z1, z2, z3, z4⟩, ⟨b1, b2, b3, by show -1000000 <= n5 /\ n5 <= 1000000; omega, b5⟩, h3, h4, h5⟩, H6.out.2.2⟩
   clear H4 H6
   go_wp2_with fail
   go_meet
   exact ⟨({ x with pathLen := n5 } : Ct), p, .slice none 0 0, .slice none 0 0, H5.out⟩
  by_cases k2 : xk = 2
  ·subst k2
   go_wp2_with fail
   refine (l01Below_any 8 B w4 c a0 len cap (by decide) H4.out.1.1.1.2).mono ?_
   rintro e w5 ⟨n5, hn0, hn1, -, rfl, hc, hg⟩
   have hn2 : n5 < 8 := hn1 (by decide)
   have H6 : Hid (MeS B w w5 c a0 len cap g x p (.slice none 0 0) (.slice none 0 0) /\ BqC x) := ⟨H4.out.1.draw hc hg, H4.out.2⟩
   clear hc hg hn1
   have ec : w5.cell? ⟨g, 8, none⟩ = some (.int .i64 x.usage) := H6.out.1.1.2.2.1.cell 8
   have ef := fun i => H6.out.1.1.2.2.1.free i
   have H5 : Hid (MeS B w (w5.setCell ⟨g, 8, none⟩ (.int .i64 n5)) c a0 len cap g (({ x with usage := n5 } : Ct)) p (.slice none 0 0) (.slice none 0 0) /\ BqC (({ x with usage := n5 } : Ct))) := by
    obtain ⟨⟨z1, z2, z3, z4⟩, ⟨b1, b2, b3, b4, b5⟩, h3, h4, h5⟩ := H6.out.2.1
    exact ⟨H6.out.1.set 8 _ rfl (by obtain ⟨q1, q2, q3⟩ := H6.out.1.2.parts; exact ⟨p, _, _, rfl, q1, q2, q3, ap_nil _, ap_nil _, ap_nil _⟩), ⟨⟨z1, z2, z3, z4⟩, ⟨b1, b2, b3, b4, by show -1000000 <= n5 /\ n5 <= 1000000; omega⟩, h3, h4, h5⟩, H6.out.2.2⟩
   clear H4 H6
   go_wp2_with fail
   go_meet
   exact ⟨({ x with usage := n5 } : Ct), p, .slice none 0 0, .slice none 0 0, H5.out⟩
  by_cases k3 : xk = 3
  ·subst k3
   go_wp2_with fail
   refine (l08Names_any B w4 c a0 len cap H4.out.1.1.1.2).mono ?_
   rintro e w5 ⟨ns, vn, rfl, hn, hn2, hns, hc, hg⟩
   have H6 : Hid (MeS B w w5 c a0 len cap g x p (.slice none 0 0) (.slice none 0 0) /\ BqC x) := ⟨H4.out.1.draw hc hg, H4.out.2⟩
   have HNM : Hid (OwnT w5 (g + 1) vn ns /\ (ns.length <= 6 /\ ∀ s ∈ ns, s.size <= 100) /\ Ap p vn /\ Ap vn p) := ⟨OwnT.base hn (by have := H4.out.1.1.2.2.1.lt; omega), ⟨by omega, hns⟩, rows_apart H4.out.1.2.parts.1 hn (Nat.le_refl _)⟩
   obtain ⟨na, nc, hnv, -⟩ := hn.at
   obtain ⟨nl, hnl⟩ := zE (ns.length)
   rw [hnl] at hnv
   subst hnv
   clear hc hg hn hn2 hns hnl
   have ec : w5.cell? ⟨g, 10, none⟩ = some (.slice none 0 0) := H6.out.1.1.2.2.1.cell 10
   have ef := fun i => H6.out.1.1.2.2.1.free i
   have H5 : Hid (MeS B w (w5.setCell ⟨g, 10, none⟩ (.slice na nl nc)) c a0 len cap g (({ x with per := ns } : Ct)) p (.slice na nl nc) (.slice none 0 0) /\ BqC (({ x with per := ns } : Ct))) := by
    obtain ⟨⟨z1, z2, z3, z4⟩, ⟨b1, b2, b3, b4, b5⟩, h3, h4, h5⟩ := H6.out.2.1
    exact ⟨H6.out.1.set 10 _ rfl (by obtain ⟨q1, q2, q3⟩ := H6.out.1.2.parts; exact ⟨p, _, _, rfl, q1, HNM.out.1, q3, HNM.out.2.2, ap_nil _, ap_nil _⟩), ⟨⟨z1, z2, z3, z4⟩, ⟨b1, b2, b3, b4, b5⟩, h3, HNM.out.2.1, h5⟩, H6.out.2.2⟩
   clear H4 H6
   go_wp2_with fail
   go_meet
   exact ⟨({ x with per := ns } : Ct), p, .slice na nl nc, .slice none 0 0, H5.out⟩
  by_cases k4 : xk = 4
  ·subst k4
   go_wp2_with fail
   refine (l08Names_any B w4 c a0 len cap H4.out.1.1.1.2).mono ?_
   rintro e w5 ⟨ns, vn, rfl, hn, hn2, hns, hc, hg⟩
   have H6 : Hid (MeS B w w5 c a0 len cap g x p (.slice none 0 0) (.slice none 0 0) /\ BqC x) := ⟨H4.out.1.draw hc hg, H4.out.2⟩
   have HNM : Hid (OwnT w5 (g + 1) vn ns /\ (ns.length <= 6 /\ ∀ s ∈ ns, s.size <= 100) /\ Ap p vn /\ Ap vn p) := ⟨OwnT.base hn (by have := H4.out.1.1.2.2.1.lt; omega), ⟨by omega, hns⟩, rows_apart H4.out.1.2.parts.1 hn (Nat.le_refl _)⟩
   obtain ⟨na, nc, hnv, -⟩ := hn.at
   obtain ⟨nl, hnl⟩ := zE (ns.length)
   rw [hnl] at hnv
   subst hnv
   clear hc hg hn hn2 hns hnl
   have ec : w5.cell? ⟨g, 11, none⟩ = some (.slice none 0 0) := H6.out.1.1.2.2.1.cell 11
   have ef := fun i => H6.out.1.1.2.2.1.free i
   have H5 : Hid (MeS B w (w5.setCell ⟨g, 11, none⟩ (.slice na nl nc)) c a0 len cap g (({ x with den := ns } : Ct)) p (.slice none 0 0) (.slice na nl nc) /\ BqC (({ x with den := ns } : Ct))) := by
    obtain ⟨⟨z1, z2, z3, z4⟩, ⟨b1, b2, b3, b4, b5⟩, h3, h4, h5⟩ := H6.out.2.1
    exact ⟨H6.out.1.set 11 _ rfl (by obtain ⟨q1, q2, q3⟩ := H6.out.1.2.parts; exact ⟨p, _, _, rfl, q1, q2, HNM.out.1, ap_nil _, HNM.out.2.2, (ap_nil _).symm⟩), ⟨⟨z1, z2, z3, z4⟩, ⟨b1, b2, b3, b4, b5⟩, h3, h4, HNM.out.2.1⟩, H6.out.2.2⟩
   clear H4 H6
   go_wp2_with fail
   go_meet
   exact ⟨({ x with den := ns } : Ct), p, .slice none 0 0, .slice na nl nc, H5.out⟩
  by_cases k5 : xk = 5
  ·subst k5
   have ec : w4.cell? ⟨g, 6, none⟩ = some (.bool x.ca) := H4.out.1.1.2.2.1.cell 6
   have ef := fun i => H4.out.1.1.2.2.1.free i
   have H5 : Hid (MeS B w (w4.setCell ⟨g, 6, none⟩ (.bool (!ca))) c a0 len cap g (({ x with ca := !ca } : Ct)) p (.slice none 0 0) (.slice none 0 0) /\ BqC (({ x with ca := !ca } : Ct))) := by
    obtain ⟨⟨z1, z2, z3, z4⟩, ⟨b1, b2, b3, b4, b5⟩, h3, h4, h5⟩ := H4.out.2.1
    exact ⟨H4.out.1.set 6 _ rfl (by obtain ⟨q1, q2, q3⟩ := H4.out.1.2.parts; exact ⟨p, _, _, rfl, q1, q2, q3, ap_nil _, ap_nil _, ap_nil _⟩), ⟨⟨z1, z2, z3, z4⟩, ⟨b1, b2, b3, b4, b5⟩, h3, h4, h5⟩, H4.out.2.2⟩
   clear H4
   go_wp2_with fail
   go_meet
   exact ⟨({ x with ca := !ca } : Ct), p, .slice none 0 0, .slice none 0 0, H5.out⟩
  have H5 := H4
  clear H4
  go_wp2_with fail
  go_meet
  exact ⟨x, p, .slice none 0 0, .slice none 0 0, H5.out⟩
 case rest =>
 clear H4
 clear x p
 obtain ⟨x, p, e, d, hM, hBx⟩ := hcut.out
 rename World => wq
 have H5 : Hid (MeS B w wq c a0 len cap g x p e d /\ BqC x) := ⟨hM, hBx⟩
 clear hcut hM hBx
 obtain ⟨y, hy⟩ : ∃ q, q = x := ⟨_, rfl⟩
 have HY : Hid (MeS B w wq c a0 len cap g x p (e) (d) /\ BqC x) := H5.out
 have hrg : wq.rangeAt g 0 [.int .i64 (x).serial, .string (x).issuer, .string (x).subject, .int .i64 (x).frm, .int .i64 (x).upto, .string (x).key, .bool (x).ca, .int .i64 (x).pathLen, .int .i64 (x).usage, p, e, d, .string (x).sig] := HY.out.1.1.2.2.1.range
 have ES := specSigned_any x (.agg #[.int .i64 (x).serial, .string (x).issuer, .string (x).subject, .int .i64 (x).frm, .int .i64 (x).upto, .string (x).key, .bool (x).ca, .int .i64 (x).pathLen, .int .i64 (x).usage, p, e, d, .string (x).sig]) by_ (g + 1) wq (Nat.le_trans HY.out.2.1.wt (by decide)) HY.out.2.1.wd HC.out.2.2.1 HY.out.1.2
 have HSG : Hid (BqC (sgC x by_)) := HY.out.2.sg by_
 obtain ⟨z, hz⟩ := zE (sgC x by_)
 rw [hz] at ES HSG
 clear hz hy H5
 go_wp2_with (refine wpList_load_mid rfl 92 _ rfl g 0 rfl _ _ hrg Tryz.underlying92 rfl (by kernel_rfl) ?_)
 refine ES.mono ?_
 rintro e' w9 ⟨u, rfl, ho, hb⟩
 obtain ⟨p9, q9, e9, r9, d9, s9, hu⟩ := CtAt.shape ho.at
 subst hu
 have H9 : Hid ((w.grownBy w9 (some c) /\ Cur B w9 c a0 len cap) /\ Blk w9 w.heap.size 92 #[.int .i64 0, .string ⟨#[]⟩, .string ⟨#[]⟩, .int .i64 0, .int .i64 0, .string ⟨#[]⟩, .bool false, .int .i64 0, .int .i64 0, .slice none 0 0, .slice none 0 0, .slice none 0 0, .string ⟨#[]⟩] /\ OwnC w9 wq.heap.size (ctV z (.slice p9 z.pol.length q9) (.slice e9 z.per.length r9) (.slice d9 z.den.length s9)) z /\ w.heap.size < wq.heap.size /\ c < w.heap.size) := by
  have h := (HY.out.1.row hb).1
  exact ⟨h.1, h.2.1, ho, HY.out.1.1.2.1.lt, h.2.2.2.1⟩
 clear ho hb HY hrg ES
 obtain ⟨V9, hV9⟩ : ∃ V, V = w9.setCells w.heap.size 0 #[.int .i64 z.serial, .string z.issuer, .string z.subject, .int .i64 z.frm, .int .i64 z.upto, .string z.key, .bool z.ca, .int .i64 z.pathLen, .int .i64 z.usage, .slice p9 z.pol.length q9, .slice e9 z.per.length r9, .slice d9 z.den.length s9, .string z.sig].toList := ⟨_, rfl⟩
 have HF : Hid ((w.grownBy V9 (some c) /\ Cur B V9 c a0 len cap) /\ Blk V9 w.heap.size 92 #[.int .i64 z.serial, .string z.issuer, .string z.subject, .int .i64 z.frm, .int .i64 z.upto, .string z.key, .bool z.ca, .int .i64 z.pathLen, .int .i64 z.usage, .slice p9 z.pol.length q9, .slice e9 z.per.length r9, .slice d9 z.den.length s9, .string z.sig] /\ OwnC V9 w.heap.size (ctV z (.slice p9 z.pol.length q9) (.slice e9 z.per.length r9) (.slice d9 z.den.length s9)) z) := by
  have ho : Out [w.heap.size] w9 V9 := by rw [hV9]; exact setCells_out _ _ _ _
  have hb : Below w.heap.size w9 V9 := ho.below (fun b hb => by rw [List.mem_singleton.1 hb]; exact Nat.le_refl _) (by have := H9.out.2.1.lt; omega)
  refine ⟨⟨grow_below H9.out.1.1 hb, H9.out.1.2.keptB hb H9.out.2.2.2.2⟩, by rw [hV9]; exact H9.out.2.1.setAll rfl, (OwnC.out H9.out.2.2.1 ho (fun b hb hm => ?_)).base (Nat.le_of_lt H9.out.2.2.2.1)⟩
  have h1 := (fpC_lt H9.out.2.2.1 b hb).1
  have h2 := List.mem_singleton.1 hm
  have h3 := H9.out.2.2.2.1
  omega
 have hth := H9.out.2.1.there (n := 13) rfl
 clear H9
 unfold ctV
 go_wp2_with (refine step_storeV rfl 92 _ _ rfl w.heap.size 0 #[.int .i64 z.serial, .string z.issuer, .string z.subject, .int .i64 z.frm, .int .i64 z.upto, .string z.key, .bool z.ca, .int .i64 z.pathLen, .int .i64 z.usage, .slice p9 z.pol.length q9, .slice e9 z.per.length r9, .slice d9 z.den.length s9, .string z.sig] rfl rfl hth (by kernel_rfl) (by simp [Value.oneCell']) hV9 ?_; clear hV9 hth)
 obtain ⟨rc0, rc1, rc2, rc3, rc4, rc5, rc6, rc7, rc8, rc9, rc10, rc11, rc12⟩ := zc13 HF.out.2.1
 go_wp2_with fail
 refine bodyPost_ret (v := .agg #[.int .i64 z.serial, .string z.issuer, .string z.subject, .int .i64 z.frm, .int .i64 z.upto, .string z.key, .bool z.ca, .int .i64 z.pathLen, .int .i64 z.usage, .slice p9 z.pol.length q9, .slice e9 z.per.length r9, .slice d9 z.den.length s9, .string z.sig]) (by simp [results, Tryz.results81, go_sem, rc0, rc1, rc2, rc3, rc4, rc5, rc6, rc7, rc8, rc9, rc10, rc11, rc12]; try rfl) rfl ?_
 exact ⟨_, z, rfl, HF.out.2.2, HSG.out, HF.out.1.2, HF.out.1.1⟩
end Go.Proofs.YthbdgdfanpbkeaaGreat
namespace Go.Proofs.YthbdgdfanpbkeaaGreat
open Go.RowKit
set_option linter.unusedVariables false
structure Ak where
 tg : List ByteArray
 plan : Int
 want : Int
 nonce : Int
 time : Int
 cac : Bool
def akV (c : Ak) (p : Value) : Value := .agg #[p, .int .i64 c.plan, .int .i64 c.want, .int .i64 c.nonce, .int .i64 c.time, .bool c.cac]
def AkAt (w : World) (v : Value) (c : Ak) : Prop := ∃ p, v = akV c p /\ TxtAt w p c.tg
theorem AkAt.below {w w' : World} {v : Value} {c : Ak} (h : AkAt w v c) (hb : Below w.heap.size w w') : AkAt w' v c := by
 obtain ⟨p, hv, h1⟩ := h
 exact ⟨p, hv, h1.below hb⟩
theorem AkAt.shape {w : World} {v : Value} {c : Ak} (h : AkAt w v c) : ∃ p q, v = akV c (.slice p c.tg.length q) := by
 obtain ⟨pv, hv, ⟨p, q, h1, _⟩⟩ := h
 exact ⟨p, q, by rw [hv, h1]⟩
def OwnAk (w : World) (base : Nat) (v : Value) (c : Ak) : Prop := ∃ p, v = akV c p /\ OwnT w base p c.tg
theorem OwnAk.at {w : World} {base : Nat} {v : Value} {c : Ak} (h : OwnAk w base v c) : AkAt w v c := by
 obtain ⟨p, hv, h1⟩ := h
 exact ⟨p, hv, h1.at⟩
theorem OwnAk.stays {w w' : World} {base : Nat} {v : Value} {c : Ak} (h : OwnAk w base v c) (hb : Below w.heap.size w w') : OwnAk w' base v c := by
 obtain ⟨p, hv, h1⟩ := h
 exact ⟨p, hv, h1.stays hb⟩
theorem OwnAk.base {w : World} {b b' : Nat} {v : Value} {c : Ak} (h : OwnAk w b v c) (hb : b' <= b) : OwnAk w b' v c := by
 obtain ⟨p, hv, h1⟩ := h
 exact ⟨p, hv, h1.base hb⟩
def wtAk (c : Ak) : Nat := totT c.tg
def WdAk (c : Ak) : Prop := Wd [c.plan, c.want, c.nonce, c.time] /\ WdT c.tg /\ c.tg.length <= 9223372036854775807
end Go.Proofs.YthbdgdfanpbkeaaGreat
