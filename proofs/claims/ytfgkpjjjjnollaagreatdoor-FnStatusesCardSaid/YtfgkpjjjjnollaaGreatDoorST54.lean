/-
  Texts of the proof, one behind the other: DqA, DqB, DqC.
-/
import Derived.Deep.Cut
import Derived.Deep.CutRange
import Derived.Test.YtfgkpjjjjnollaaGreatDoorST42
import Derived.Test.YtfgkpjjjjnollaaGreatDoorST45
import Derived.Test.YtfgkpjjjjnollaaGreatDoorST48
import Derived.Test.YtfgkpjjjjnollaaGreatDoorST53

/-
  Drawn lists of what was called back: the specification's l10Made.
-/
namespace Go.Proofs.YtfgkpjjjjnollaaGreatDoor
open Go.RowKit Der
set_option linter.unusedVariables false
set_option linter.unusedSimpArgs false

def bd (x : Int) : Prop := -1000000 ≤ x ∧ x ≤ 1000000
/-- What is told of a list that was drawn. -/
def MdL (x : Cl) : Prop := (x.issuer.size ≤ 100 ∧ x.revs.length ≤ 6 ∧ x.sig.size ≤ 15) ∧ (bd x.num ∧ bd x.ths ∧ (0 ≤ x.nxt ∧ x.nxt ≤ 90) ∧ bd x.bas) ∧ ∀ p ∈ x.revs, bd p.1 ∧ bd p.2
theorem MdL.wt {x : Cl} (h : MdL x) : wtL x ≤ 200 := by obtain ⟨⟨h1, h2, h3⟩, -⟩ := h; unfold wtL; omega
theorem MdL.wd {x : Cl} (h : MdL x) : WdL x := by
  obtain ⟨⟨h1, h2, h3⟩, ⟨k1, k2, k3, k4⟩, hr⟩ := h
  unfold bd at *
  refine ⟨fun y hy => ?_, fun p hp => ?_, fun s hs => ?_, by omega⟩
  · simp only [List.mem_cons, List.not_mem_nil, or_false] at hy
    rcases hy with rfl | rfl | rfl | rfl <;> omega
  · have := hr p hp
    omega
  · simp only [List.mem_cons, List.not_mem_nil, or_false] at hs
    rcases hs with rfl | rfl
    · omega
    · omega
/-- Where a drawn list stands: its result, its variable, the cursor. -/
def MdS (B : Nat) (w W : World) (c : Nat) (a0 : Option Addr) (len cap : Nat) (g : Nat) (cells : Array Value) : Prop := (w.grownBy W (some c) ∧ Cur B W c a0 len cap) ∧ Blk W w.heap.size 49 #[.string ⟨#[]⟩, .int .i64 0, .int .i64 0, .int .i64 0, .int .i64 0, .slice none 0 0, .string ⟨#[]⟩] ∧ Blk W g 49 cells ∧ (c < w.heap.size ∧ w.heap.size < g)
theorem MdS.draw {B : Nat} {w W W' : World} {c : Nat} {a0 : Option Addr} {len cap g : Nat} {cells : Array Value} (h : MdS B w W c a0 len cap g cells) (hc : Cur B W' c a0 len cap) (hg : W.grownBy W' (some c)) : MdS B w W' c a0 len cap g cells :=
  ⟨⟨grownBy_trans h.1.1 hg, hc⟩, h.2.1.grown hg (fun e => by have := Option.some.inj e; have := h.2.2.2; omega), h.2.2.1.grown hg (fun e => by have := Option.some.inj e; have := h.2.2.2; omega), h.2.2.2⟩
theorem MdS.out {B : Nat} {w W W' : World} {c : Nat} {a0 : Option Addr} {len cap g : Nat} {cells : Array Value} {r : Option Nat} (h : MdS B w W c a0 len cap g cells) (hg : W.grownBy W' r) (hr : ∀ k, r = some k → g < k) : MdS B w W' c a0 len cap g cells :=
  ⟨⟨grow_step h.1.1 hg (fun k hk => by have := hr k hk; have := h.2.2.2; omega), h.1.2.grown hg (fun k hk => by have := hr k hk; have := h.2.2.2; omega)⟩, h.2.1.grown hg (fun e => by have := hr _ e.symm; have := h.2.2.2; omega), h.2.2.1.grown hg (fun e => by have := hr _ e.symm; omega), h.2.2.2⟩
theorem MdS.set {B : Nat} {w W : World} {c : Nat} {a0 : Option Addr} {len cap g : Nat} {cells cells' : Array Value} (h : MdS B w W c a0 len cap g cells) (j : Nat) (v : Value) (hc : cells.setIfInBounds j v = cells') : MdS B w (W.setCell ⟨g, j, none⟩ v) c a0 len cap g cells' := by
  have hg := grownBy_setCell W g j v
  obtain ⟨h1, h2, h3, h4⟩ := h
  exact ⟨⟨grow_step h1.1 hg (fun k hk => by have := Option.some.inj hk; omega), h1.2.grown hg (fun k hk => by have := Option.some.inj hk; omega)⟩, h2.grown hg (fun e => by have := Option.some.inj e; omega), by rw [← hc]; exact h3.set j v, h4⟩
theorem OwnR.grownC {w w' : World} {b c : Nat} {v : Value} {l : List (Int × Int)} (h : OwnR w b v l) (hg : w.grownBy w' (some c)) (hc : c < b) : OwnR w' b v l :=
  World.ownsRow.kept h hg (.inr fun e => by have := (World.ownsRow.lt h c e).1; omega)
def MdPost (B : Nat) (w : World) (c : Nat) (a0 : Option Addr) (len cap : Nat) (e : Ending) (w' : World) : Prop := ∃ u x, e = .returned u ∧ OwnL w' w.heap.size u x ∧ MdL x ∧ (x.sig.size = 15 ∧ x.revs.length ≤ 5) ∧ Cur B w' c a0 len cap ∧ w.grownBy w' (some c)
set_option maxHeartbeats 12800000 in
set_option maxRecDepth 100000 in
theorem l10Made_any (iss : ByteArray) (hi : iss.size ≤ 100) (by_ : Nat) (hby : by_ < 6) (B : Nat) (w : World) (c : Nat) (a0 : Option Addr) (len cap : Nat) (hC : Cur B w c a0 len cap) :
    Calls Tryz.prog 130 #[.pointer (some ⟨c, 0, none⟩), .string iss, .int .i64 by_] w fun e w' => MdPost B w c a0 len cap e w' := by
  have HC : Hid (Cur B w c a0 len cap ∧ iss.size ≤ 100 ∧ by_ < 6) := ⟨hC, hi, hby⟩
  clear hC hi hby
  obtain ⟨W0, hW0⟩ : ∃ V, V = w.alloc (Obj.cells #[.string ⟨#[]⟩, .int .i64 0, .int .i64 0, .int .i64 0, .int .i64 0, .slice none 0 0, .string ⟨#[]⟩] 49) := ⟨_, rfl⟩
  have H0 : Hid ((Below w.heap.size w W0 ∧ Cur B W0 c a0 len cap) ∧ Blk W0 w.heap.size 49 #[.string ⟨#[]⟩, .int .i64 0, .int .i64 0, .int .i64 0, .int .i64 0, .slice none 0 0, .string ⟨#[]⟩] ∧ W0.heap.size = w.heap.size + 1) := by
    have hb : Below w.heap.size w W0 := by rw [hW0]; exact (Below.refl _ _).alloc (Nat.le_refl _) _
    exact ⟨⟨hb, HC.out.1.kept hb⟩, by rw [hW0]; exact Blk.new _ _ _, by rw [hW0]; exact size_alloc _ _⟩
  go_enter Tryz.func130, Tryz.ntmps130
  go_upto_region 1 with fail
  rw [← hW0]
  clear hW0
  go_wp2_with fail
  refine (l01Below_any 3 B W0 c a0 len cap (by decide) H0.out.1.2).mono ?_
  rintro e w1 ⟨n1, hn0, hn1, -, rfl, hc1, hg1⟩
  have hn3 : n1 < 3 := hn1 (by decide)
  obtain ⟨NUM, hNUM⟩ : ∃ q, 1 + n1 = q := ⟨_, rfl⟩
  have hwn : IntKind.i64.wrap (1 + n1) = 1 + n1 := by rw [IntKind.wrap_i64]; omega
  obtain ⟨V1, hV1⟩ : ∃ V, V = w1.alloc (Obj.cells #[.string iss, .int .i64 NUM, .int .i64 10, .int .i64 90, .int .i64 0, .slice none 0 0, .string ⟨#[]⟩] 49) := ⟨_, rfl⟩
  obtain ⟨g, hgg⟩ : ∃ q, w1.heap.size = q := ⟨_, rfl⟩
  have HB : Hid (bd NUM) := by show bd NUM; unfold bd; omega
  have H1 : Hid (MdS B w V1 c a0 len cap g #[.string iss, .int .i64 NUM, .int .i64 10, .int .i64 90, .int .i64 0, .slice none 0 0, .string ⟨#[]⟩]) := by
    have h0 := H0.out
    have hcw := HC.out.1.lt
    have hb : Below w1.heap.size w1 V1 := by rw [hV1]; exact (Below.refl _ _).alloc (Nat.le_refl _) _
    have hg' : w1.grownBy V1 (some c) := grownBy_below' hb
    have hgr : w.grownBy V1 (some c) := grownBy_trans (grownBy_trans (grownBy_below' h0.1.1) hg1) hg'
    refine ⟨⟨hgr, hc1.kept hb⟩, ?_, by rw [hV1, ← hgg]; exact Blk.new _ _ _, hcw, ?_⟩
    · exact (h0.2.1.grown hg1 (fun e => by have := Option.some.inj e; omega)).below hb (by have := hg1.size; omega)
    · have := hg1.size
      omega
  go_upto_region 2 with fail
  rw [← hV1]
  try rw [hgg]
  clear hV1 hgg hNUM hwn hn0 hn1 hn3 hc1 hg1 H0
  go_wp2_with fail
  refine (l01Once_any 3 B V1 c a0 len cap (by decide) H1.out.1.2).mono ?_
  rintro e w2 ⟨b1, rfl, hc2, hg2⟩
  have H2 : Hid (MdS B w w2 c a0 len cap g #[.string iss, .int .i64 NUM, .int .i64 10, .int .i64 90, .int .i64 0, .slice none 0 0, .string ⟨#[]⟩]) := H1.out.draw hc2 hg2
  clear H1 hc2 hg2
  go_upto_if 17 with fail
  go_cut [] from 11 (fun wx => Hid (∃ num bas : Int, MdS B w wx c a0 len cap g #[.string iss, .int .i64 num, .int .i64 10, .int .i64 90, .int .i64 bas, .slice none 0 0, .string ⟨#[]⟩] ∧ bd num ∧ (0 ≤ bas ∧ bas ≤ 100)))
  case first =>
    cases b1 with
    | false =>
      go_wp2_with fail
      go_meet
      exact ⟨NUM, 0, H2.out, HB.out, by decide⟩
    | true =>
      have e1 : w2.cell? ⟨g, 1, none⟩ = some (.int .i64 NUM) := H2.out.2.2.1.cell 1
      have ef := fun i => H2.out.2.2.1.free i
      obtain ⟨V3, hV3⟩ : ∃ V, V = w2.setCell ⟨g, 1, none⟩ (.int .i64 4) := ⟨_, rfl⟩
      have H3 : Hid (MdS B w V3 c a0 len cap g #[.string iss, .int .i64 4, .int .i64 10, .int .i64 90, .int .i64 0, .slice none 0 0, .string ⟨#[]⟩]) := by rw [hV3]; exact H2.out.set 1 _ rfl
      go_wp2_with fail
      rw [← hV3]
      clear hV3 e1 ef H2
      refine (l01Below_any 2 B V3 c a0 len cap (by decide) H3.out.1.2).mono ?_
      rintro e w4 ⟨n2, hm0, hm1, -, rfl, hc4, hg4⟩
      have hm2 : n2 < 2 := hm1 (by decide)
      have hwm : IntKind.i64.wrap (1 + n2) = 1 + n2 := by rw [IntKind.wrap_i64]; omega
      have H4 : Hid (MdS B w w4 c a0 len cap g #[.string iss, .int .i64 4, .int .i64 10, .int .i64 90, .int .i64 0, .slice none 0 0, .string ⟨#[]⟩]) := H3.out.draw hc4 hg4
      clear H3 hc4 hg4 hm1
      have e4 : w4.cell? ⟨g, 4, none⟩ = some (.int .i64 0) := H4.out.2.2.1.cell 4
      have ef := fun i => H4.out.2.2.1.free i
      go_wp2_with fail
      go_meet
      exact ⟨4, 1 + n2, H4.out.set 4 _ rfl, by unfold bd; omega, by omega⟩
  case rest =>
  clear H2 HB
  obtain ⟨num, bas, hM, hnum, hbas⟩ := hcut.out
  rename World => w3
  have H3 : Hid (MdS B w w3 c a0 len cap g #[.string iss, .int .i64 num, .int .i64 10, .int .i64 90, .int .i64 bas, .slice none 0 0, .string ⟨#[]⟩]) := hM
  have HNB : Hid (bd num ∧ 0 ≤ bas ∧ bas ≤ 100) := ⟨hnum, hbas⟩
  clear hcut hM hnum hbas
  go_wp2_with fail
  refine (l01Once_any 6 B w3 c a0 len cap (by decide) H3.out.1.2).mono ?_
  rintro e w5 ⟨b2, rfl, hc5, hg5⟩
  have H5 : Hid (MdS B w w5 c a0 len cap g #[.string iss, .int .i64 num, .int .i64 10, .int .i64 90, .int .i64 bas, .slice none 0 0, .string ⟨#[]⟩]) := H3.out.draw hc5 hg5
  clear H3 hc5 hg5
  go_upto_if 24 with fail
  go_cut [] from 11 (fun wx => Hid (∃ nxt : Int, MdS B w wx c a0 len cap g #[.string iss, .int .i64 num, .int .i64 10, .int .i64 nxt, .int .i64 bas, .slice none 0 0, .string ⟨#[]⟩] ∧ 0 ≤ nxt ∧ nxt ≤ 90))
  case first =>
    cases b2 with
    | false =>
      go_wp2_with fail
      go_meet
      exact ⟨90, H5.out, by decide⟩
    | true =>
      have e3 : w5.cell? ⟨g, 3, none⟩ = some (.int .i64 90) := H5.out.2.2.1.cell 3
      have ef := fun i => H5.out.2.2.1.free i
      go_wp2_with fail
      go_meet
      exact ⟨40, H5.out.set 3 _ rfl, by decide⟩
  case rest =>
  clear H5
  obtain ⟨nxt, hM, hnxt⟩ := hcut.out
  rename World => w6
  have H6 : Hid (MdS B w w6 c a0 len cap g #[.string iss, .int .i64 num, .int .i64 10, .int .i64 nxt, .int .i64 bas, .slice none 0 0, .string ⟨#[]⟩]) := hM
  have HNX : Hid (0 ≤ nxt ∧ nxt ≤ 90) := hnxt
  clear hcut hM hnxt
  have hbp : 0 ≤ bas := HNB.out.2.1
  go_wp2_with fail
  go_loopw [8, 9] (fun av iv wr => ∃ (k : Nat) (at_ : Int), k ≤ 3 ∧ iv = .int .i64 k ∧ av = .int .i64 at_ ∧ (0 ≤ at_ ∧ at_ ≤ 10 * k) ∧ Hid (∃ (ps : List (Int × Int)) (pa : Option Addr) (pc : Nat), MdS B w wr c a0 len cap g #[.string iss, .int .i64 num, .int .i64 10, .int .i64 nxt, .int .i64 bas, .slice pa k pc, .string ⟨#[]⟩] ∧ OwnR wr (g + 1) (.slice pa k pc) ps ∧ ps.length = k ∧ (∀ p ∈ ps, bd p.1 ∧ bd p.2) ∧ g + 1 ≤ wr.heap.size)) (fun _ iv _ => 4 - (intOf iv).toNat)
  case atStart => exact ⟨0, 0, by decide, rfl, rfl, by omega, [], none, 0, H6.out, World.ownsRow_nil _ _ _ _, rfl, (fun p hp => by cases hp), H6.out.2.2.1.lt⟩
  case round =>
    clear H6
    obtain ⟨k, at_, hk, rfl, rfl, hat, H0⟩ := hrel
    obtain ⟨ps, pa, pc, hM⟩ := H0.out
    have H : Hid (MdS B w wr c a0 len cap g #[.string iss, .int .i64 num, .int .i64 10, .int .i64 nxt, .int .i64 bas, .slice pa k pc, .string ⟨#[]⟩] ∧ OwnR wr (g + 1) (.slice pa k pc) ps ∧ ps.length = k ∧ (∀ p ∈ ps, bd p.1 ∧ bd p.2) ∧ g + 1 ≤ wr.heap.size) := hM
    clear H0 hM
    have HDR : Hid (∀ W W', (MdS B w W c a0 len cap g #[.string iss, .int .i64 num, .int .i64 10, .int .i64 nxt, .int .i64 bas, .slice pa k pc, .string ⟨#[]⟩] ∧ OwnR W (g + 1) (.slice pa k pc) ps ∧ ps.length = k ∧ (∀ p ∈ ps, bd p.1 ∧ bd p.2) ∧ g + 1 ≤ W.heap.size) → Cur B W' c a0 len cap → W.grownBy W' (some c) → (MdS B w W' c a0 len cap g #[.string iss, .int .i64 num, .int .i64 10, .int .i64 nxt, .int .i64 bas, .slice pa k pc, .string ⟨#[]⟩] ∧ OwnR W' (g + 1) (.slice pa k pc) ps ∧ ps.length = k ∧ (∀ p ∈ ps, bd p.1 ∧ bd p.2) ∧ g + 1 ≤ W'.heap.size)) := fun W W' h hc hg => ⟨h.1.draw hc hg, h.2.1.grownC hg (by have := h.1.2.2.2; omega), h.2.2.1, h.2.2.2.1, Nat.le_trans h.2.2.2.2 hg.size⟩
    go_wp2_with fail
    refine (l01Below_any 4 B wr c a0 len cap (by decide) H.out.1.1.2).mono ?_
    rintro e v1 ⟨m1, hm0, hm1, -, rfl, hc1, hg1⟩
    have hm4 : m1 < 4 := hm1 (by decide)
    have H1 : Hid (MdS B w v1 c a0 len cap g #[.string iss, .int .i64 num, .int .i64 10, .int .i64 nxt, .int .i64 bas, .slice pa k pc, .string ⟨#[]⟩] ∧ OwnR v1 (g + 1) (.slice pa k pc) ps ∧ ps.length = k ∧ (∀ p ∈ ps, bd p.1 ∧ bd p.2) ∧ g + 1 ≤ v1.heap.size) := HDR.out _ _ H.out hc1 hg1
    clear H hc1 hg1 hm1
    by_cases hkm : (k : Int) < m1
    · have hk3 : k < 3 := by omega
      go_wp2_with fail
      refine (l01Below_any 3 B v1 c a0 len cap (by decide) H1.out.1.1.2).mono ?_
      rintro e v2 ⟨m2, hq0, hq1, -, rfl, hc2, hg2⟩
      have hq3 : m2 < 3 := hq1 (by decide)
      have H2 : Hid (MdS B w v2 c a0 len cap g #[.string iss, .int .i64 num, .int .i64 10, .int .i64 nxt, .int .i64 bas, .slice pa k pc, .string ⟨#[]⟩] ∧ OwnR v2 (g + 1) (.slice pa k pc) ps ∧ ps.length = k ∧ (∀ p ∈ ps, bd p.1 ∧ bd p.2) ∧ g + 1 ≤ v2.heap.size) := HDR.out _ _ H1.out hc2 hg2
      clear H1 hc2 hg2 hq1
      obtain ⟨at2, hat2⟩ : ∃ q, at_ + 1 + m2 = q := ⟨_, rfl⟩
      have hwa : IntKind.i64.wrap (at_ + 1 + m2) = at_ + 1 + m2 := by rw [IntKind.wrap_i64]; omega
      go_wp2_with fail
      refine (l01Below_any 3 B v2 c a0 len cap (by decide) H2.out.1.1.2).mono ?_
      rintro e v3 ⟨m3, hr0, hr1, -, rfl, hc3, hg3⟩
      have hr3 : m3 < 3 := hr1 (by decide)
      have H3 : Hid (MdS B w v3 c a0 len cap g #[.string iss, .int .i64 num, .int .i64 10, .int .i64 nxt, .int .i64 bas, .slice pa k pc, .string ⟨#[]⟩] ∧ OwnR v3 (g + 1) (.slice pa k pc) ps ∧ ps.length = k ∧ (∀ p ∈ ps, bd p.1 ∧ bd p.2) ∧ g + 1 ≤ v3.heap.size) := HDR.out _ _ H2.out hc3 hg3
      clear H2 hc3 hg3 hr1
      have hwr : IntKind.i64.wrap (1 + m3) = 1 + m3 := by rw [IntKind.wrap_i64]; omega
      have HAT : Hid (0 ≤ at2 ∧ at2 ≤ 10 * ((k + 1 : Nat) : Int)) := by show _ ∧ _; omega
      have b4 : v3.cell? ⟨g, 4, none⟩ = some (.int .i64 bas) := H3.out.1.2.2.1.cell 4
      by_cases hb0 : 0 < bas
      · go_wp2_with fail
        refine (l01Once_any 2 B v3 c a0 len cap (by decide) H3.out.1.1.2).mono ?_
        rintro e v4 ⟨b4b, rfl, hc4, hg4⟩
        have H4 : Hid (MdS B w v4 c a0 len cap g #[.string iss, .int .i64 num, .int .i64 10, .int .i64 nxt, .int .i64 bas, .slice pa k pc, .string ⟨#[]⟩] ∧ OwnR v4 (g + 1) (.slice pa k pc) ps ∧ ps.length = k ∧ (∀ p ∈ ps, bd p.1 ∧ bd p.2) ∧ g + 1 ≤ v4.heap.size) := HDR.out _ _ H3.out hc4 hg4
        clear H3 hc4 hg4 b4
        have b4 : v4.cell? ⟨g, 4, none⟩ = some (.int .i64 bas) := H4.out.1.2.2.1.cell 4
        cases b4b with
        | true =>
          have b5 : v4.cell? ⟨g, 5, none⟩ = some (.slice pa k pc) := H4.out.1.2.2.1.cell 5
          have HRB : Hid (bd (8)) := by show bd _; unfold bd; omega
          have HAB : Hid (bd at2) := by show bd _; have := HAT.out; unfold bd; omega
          obtain ⟨V5, hV5⟩ : ∃ V, V = v4.alloc (Obj.cells #[.int .i64 at2, .int .i64 (8)] 145) := ⟨_, rfl⟩
          have H5 : Hid ((MdS B w V5 c a0 len cap g #[.string iss, .int .i64 num, .int .i64 10, .int .i64 nxt, .int .i64 bas, .slice pa k pc, .string ⟨#[]⟩] ∧ OwnR V5 (g + 1) (.slice pa k pc) ps ∧ g + 1 ≤ V5.heap.size) ∧ OwnR V5 v4.heap.size (.slice (some ⟨v4.heap.size, 0, none⟩) 1 1) [(at2, 8)]) := by
            have hb : Below v4.heap.size v4 V5 := by rw [hV5]; exact (Below.refl _ _).alloc (Nat.le_refl _) _
            exact ⟨⟨H4.out.1.out (grownBy_below' hb (row := none)) (fun k hk => by cases hk), H4.out.2.1.stays hb, Nat.le_trans H4.out.2.2.2.2 hb.size⟩, by rw [hV5]; exact rone_rev v4 (at2, 8)⟩
          go_wp2_with (at_builtin; rw [← hV5]; refine wpList_append_revs rfl _ _ rfl (g + 1) (.slice pa k pc) k (cellsR ps) rfl (by have h := H5.out.1.2.1; unfold OwnR at h; rw [H4.out.2.2.1] at h; exact h) _ [(at2, 8)] _ H5.out.2 rfl (by show k + 1 ≤ _; omega) H5.out.1.2.2 ?_)
          intro v9 w9 ho9 hg9
          try rw [← hV5] at hg9
          have ho9' : OwnR w9 (g + 1) v9 (ps ++ [(at2, 8)]) := by
            unfold OwnR
            rw [List.length_append, H4.out.2.2.1, cellsR_append]
            exact ho9
          obtain ⟨qa, qc, hq9, -, -, -⟩ := OwnR.shape ho9'
          rw [List.length_append, H4.out.2.2.1] at hq9
          change v9 = .slice qa (k + 1) qc at hq9
          subst hq9
          have H9 : Hid (MdS B w w9 c a0 len cap g #[.string iss, .int .i64 num, .int .i64 10, .int .i64 nxt, .int .i64 bas, .slice pa k pc, .string ⟨#[]⟩] ∧ OwnR w9 (g + 1) (.slice qa (k + 1) qc) (ps ++ [(at2, 8)]) ∧ (∀ p ∈ ps ++ [(at2, 8)], bd p.1 ∧ bd p.2) ∧ g + 1 ≤ w9.heap.size) := by
            refine ⟨H5.out.1.1.out hg9 (fun b hb => by have := (World.ownsRow.lt H5.out.1.2.1 b hb).1; omega), ho9', fun p hp => ?_, Nat.le_trans H5.out.1.2.2 hg9.size⟩
            rcases List.mem_append.1 hp with hp | hp
            · exact H4.out.2.2.2.1 p hp
            · rw [List.mem_singleton.1 hp]
              exact ⟨HAB.out, HRB.out⟩
          clear ho9 ho9' hg9 hV5 b5 b4 H5
          have b5 : w9.cell? ⟨g, 5, none⟩ = some (.slice pa k pc) := H9.out.1.2.2.1.cell 5
          have ef := fun i => H9.out.1.2.2.1.free i
          have HD : Hid (∃ (ps : List (Int × Int)) (pa : Option Addr) (pc : Nat), MdS B w (w9.setCell ⟨g, 5, none⟩ (.slice qa (k + 1) qc)) c a0 len cap g #[.string iss, .int .i64 num, .int .i64 10, .int .i64 nxt, .int .i64 bas, .slice pa (k + 1) pc, .string ⟨#[]⟩] ∧ OwnR (w9.setCell ⟨g, 5, none⟩ (.slice qa (k + 1) qc)) (g + 1) (.slice pa (k + 1) pc) ps ∧ ps.length = k + 1 ∧ (∀ p ∈ ps, bd p.1 ∧ bd p.2) ∧ g + 1 ≤ (w9.setCell ⟨g, 5, none⟩ (.slice qa (k + 1) qc)).heap.size) := ⟨_, qa, qc, H9.out.1.set 5 _ rfl, H9.out.2.1.grownC (grownBy_setCell w9 g 5 _) (by omega), by rw [List.length_append, H4.out.2.2.1]; rfl, H9.out.2.2.1, Nat.le_trans H9.out.2.2.2 (grownBy_setCell w9 g 5 _).size⟩
          clear H9 H4
          go_wp2_with fail
          go_roundw
          case rel => exact ⟨k + 1, at2, by omega, by go_num, rfl, HAT.out, HD.out⟩
          case measure => simp [intOf]; omega
        | false =>
          have b5 : v4.cell? ⟨g, 5, none⟩ = some (.slice pa k pc) := H4.out.1.2.2.1.cell 5
          have HRB : Hid (bd (1 + m3)) := by show bd _; unfold bd; omega
          have HAB : Hid (bd at2) := by show bd _; have := HAT.out; unfold bd; omega
          obtain ⟨V5, hV5⟩ : ∃ V, V = v4.alloc (Obj.cells #[.int .i64 at2, .int .i64 (1 + m3)] 145) := ⟨_, rfl⟩
          have H5 : Hid ((MdS B w V5 c a0 len cap g #[.string iss, .int .i64 num, .int .i64 10, .int .i64 nxt, .int .i64 bas, .slice pa k pc, .string ⟨#[]⟩] ∧ OwnR V5 (g + 1) (.slice pa k pc) ps ∧ g + 1 ≤ V5.heap.size) ∧ OwnR V5 v4.heap.size (.slice (some ⟨v4.heap.size, 0, none⟩) 1 1) [(at2, 1 + m3)]) := by
            have hb : Below v4.heap.size v4 V5 := by rw [hV5]; exact (Below.refl _ _).alloc (Nat.le_refl _) _
            exact ⟨⟨H4.out.1.out (grownBy_below' hb (row := none)) (fun k hk => by cases hk), H4.out.2.1.stays hb, Nat.le_trans H4.out.2.2.2.2 hb.size⟩, by rw [hV5]; exact rone_rev v4 (at2, 1 + m3)⟩
          go_wp2_with (at_builtin; rw [← hV5]; refine wpList_append_revs rfl _ _ rfl (g + 1) (.slice pa k pc) k (cellsR ps) rfl (by have h := H5.out.1.2.1; unfold OwnR at h; rw [H4.out.2.2.1] at h; exact h) _ [(at2, 1 + m3)] _ H5.out.2 rfl (by show k + 1 ≤ _; omega) H5.out.1.2.2 ?_)
          intro v9 w9 ho9 hg9
          try rw [← hV5] at hg9
          have ho9' : OwnR w9 (g + 1) v9 (ps ++ [(at2, 1 + m3)]) := by
            unfold OwnR
            rw [List.length_append, H4.out.2.2.1, cellsR_append]
            exact ho9
          obtain ⟨qa, qc, hq9, -, -, -⟩ := OwnR.shape ho9'
          rw [List.length_append, H4.out.2.2.1] at hq9
          change v9 = .slice qa (k + 1) qc at hq9
          subst hq9
          have H9 : Hid (MdS B w w9 c a0 len cap g #[.string iss, .int .i64 num, .int .i64 10, .int .i64 nxt, .int .i64 bas, .slice pa k pc, .string ⟨#[]⟩] ∧ OwnR w9 (g + 1) (.slice qa (k + 1) qc) (ps ++ [(at2, 1 + m3)]) ∧ (∀ p ∈ ps ++ [(at2, 1 + m3)], bd p.1 ∧ bd p.2) ∧ g + 1 ≤ w9.heap.size) := by
            refine ⟨H5.out.1.1.out hg9 (fun b hb => by have := (World.ownsRow.lt H5.out.1.2.1 b hb).1; omega), ho9', fun p hp => ?_, Nat.le_trans H5.out.1.2.2 hg9.size⟩
            rcases List.mem_append.1 hp with hp | hp
            · exact H4.out.2.2.2.1 p hp
            · rw [List.mem_singleton.1 hp]
              exact ⟨HAB.out, HRB.out⟩
          clear ho9 ho9' hg9 hV5 b5 b4 H5
          have b5 : w9.cell? ⟨g, 5, none⟩ = some (.slice pa k pc) := H9.out.1.2.2.1.cell 5
          have ef := fun i => H9.out.1.2.2.1.free i
          have HD : Hid (∃ (ps : List (Int × Int)) (pa : Option Addr) (pc : Nat), MdS B w (w9.setCell ⟨g, 5, none⟩ (.slice qa (k + 1) qc)) c a0 len cap g #[.string iss, .int .i64 num, .int .i64 10, .int .i64 nxt, .int .i64 bas, .slice pa (k + 1) pc, .string ⟨#[]⟩] ∧ OwnR (w9.setCell ⟨g, 5, none⟩ (.slice qa (k + 1) qc)) (g + 1) (.slice pa (k + 1) pc) ps ∧ ps.length = k + 1 ∧ (∀ p ∈ ps, bd p.1 ∧ bd p.2) ∧ g + 1 ≤ (w9.setCell ⟨g, 5, none⟩ (.slice qa (k + 1) qc)).heap.size) := ⟨_, qa, qc, H9.out.1.set 5 _ rfl, H9.out.2.1.grownC (grownBy_setCell w9 g 5 _) (by omega), by rw [List.length_append, H4.out.2.2.1]; rfl, H9.out.2.2.1, Nat.le_trans H9.out.2.2.2 (grownBy_setCell w9 g 5 _).size⟩
          clear H9 H4
          go_wp2_with fail
          go_roundw
          case rel => exact ⟨k + 1, at2, by omega, by go_num, rfl, HAT.out, HD.out⟩
          case measure => simp [intOf]; omega
      · skip
        have b5 : v3.cell? ⟨g, 5, none⟩ = some (.slice pa k pc) := H3.out.1.2.2.1.cell 5
        have HRB : Hid (bd (1 + m3)) := by show bd _; unfold bd; omega
        have HAB : Hid (bd at2) := by show bd _; have := HAT.out; unfold bd; omega
        obtain ⟨V5, hV5⟩ : ∃ V, V = v3.alloc (Obj.cells #[.int .i64 at2, .int .i64 (1 + m3)] 145) := ⟨_, rfl⟩
        have H5 : Hid ((MdS B w V5 c a0 len cap g #[.string iss, .int .i64 num, .int .i64 10, .int .i64 nxt, .int .i64 bas, .slice pa k pc, .string ⟨#[]⟩] ∧ OwnR V5 (g + 1) (.slice pa k pc) ps ∧ g + 1 ≤ V5.heap.size) ∧ OwnR V5 v3.heap.size (.slice (some ⟨v3.heap.size, 0, none⟩) 1 1) [(at2, 1 + m3)]) := by
          have hb : Below v3.heap.size v3 V5 := by rw [hV5]; exact (Below.refl _ _).alloc (Nat.le_refl _) _
          exact ⟨⟨H3.out.1.out (grownBy_below' hb (row := none)) (fun k hk => by cases hk), H3.out.2.1.stays hb, Nat.le_trans H3.out.2.2.2.2 hb.size⟩, by rw [hV5]; exact rone_rev v3 (at2, 1 + m3)⟩
        go_wp2_with (at_builtin; rw [← hV5]; refine wpList_append_revs rfl _ _ rfl (g + 1) (.slice pa k pc) k (cellsR ps) rfl (by have h := H5.out.1.2.1; unfold OwnR at h; rw [H3.out.2.2.1] at h; exact h) _ [(at2, 1 + m3)] _ H5.out.2 rfl (by show k + 1 ≤ _; omega) H5.out.1.2.2 ?_)
        intro v9 w9 ho9 hg9
        try rw [← hV5] at hg9
        have ho9' : OwnR w9 (g + 1) v9 (ps ++ [(at2, 1 + m3)]) := by
          unfold OwnR
          rw [List.length_append, H3.out.2.2.1, cellsR_append]
          exact ho9
        obtain ⟨qa, qc, hq9, -, -, -⟩ := OwnR.shape ho9'
        rw [List.length_append, H3.out.2.2.1] at hq9
        change v9 = .slice qa (k + 1) qc at hq9
        subst hq9
        have H9 : Hid (MdS B w w9 c a0 len cap g #[.string iss, .int .i64 num, .int .i64 10, .int .i64 nxt, .int .i64 bas, .slice pa k pc, .string ⟨#[]⟩] ∧ OwnR w9 (g + 1) (.slice qa (k + 1) qc) (ps ++ [(at2, 1 + m3)]) ∧ (∀ p ∈ ps ++ [(at2, 1 + m3)], bd p.1 ∧ bd p.2) ∧ g + 1 ≤ w9.heap.size) := by
          refine ⟨H5.out.1.1.out hg9 (fun b hb => by have := (World.ownsRow.lt H5.out.1.2.1 b hb).1; omega), ho9', fun p hp => ?_, Nat.le_trans H5.out.1.2.2 hg9.size⟩
          rcases List.mem_append.1 hp with hp | hp
          · exact H3.out.2.2.2.1 p hp
          · rw [List.mem_singleton.1 hp]
            exact ⟨HAB.out, HRB.out⟩
        clear ho9 ho9' hg9 hV5 b5 b4 H5
        have b5 : w9.cell? ⟨g, 5, none⟩ = some (.slice pa k pc) := H9.out.1.2.2.1.cell 5
        have ef := fun i => H9.out.1.2.2.1.free i
        have HD : Hid (∃ (ps : List (Int × Int)) (pa : Option Addr) (pc : Nat), MdS B w (w9.setCell ⟨g, 5, none⟩ (.slice qa (k + 1) qc)) c a0 len cap g #[.string iss, .int .i64 num, .int .i64 10, .int .i64 nxt, .int .i64 bas, .slice pa (k + 1) pc, .string ⟨#[]⟩] ∧ OwnR (w9.setCell ⟨g, 5, none⟩ (.slice qa (k + 1) qc)) (g + 1) (.slice pa (k + 1) pc) ps ∧ ps.length = k + 1 ∧ (∀ p ∈ ps, bd p.1 ∧ bd p.2) ∧ g + 1 ≤ (w9.setCell ⟨g, 5, none⟩ (.slice qa (k + 1) qc)).heap.size) := ⟨_, qa, qc, H9.out.1.set 5 _ rfl, H9.out.2.1.grownC (grownBy_setCell w9 g 5 _) (by omega), by rw [List.length_append, H3.out.2.2.1]; rfl, H9.out.2.2.1, Nat.le_trans H9.out.2.2.2 (grownBy_setCell w9 g 5 _).size⟩
        clear H9 H3
        go_wp2_with fail
        go_roundw
        case rel => exact ⟨k + 1, at2, by omega, by go_num, rfl, HAT.out, HD.out⟩
        case measure => simp [intOf]; omega
    · have HX : Hid (OwnL v1 (g + 1) (.agg #[.string iss, .int .i64 num, .int .i64 10, .int .i64 nxt, .int .i64 bas, .slice pa k pc, .string ⟨#[]⟩]) ⟨iss, num, 10, nxt, bas, ps, ⟨#[]⟩⟩) := ⟨_, rfl, H1.out.2.1⟩
      obtain ⟨x, hx⟩ : ∃ x : Cl, x = ⟨iss, num, 10, nxt, bas, ps, ⟨#[]⟩⟩ := ⟨_, rfl⟩
      have HMX : Hid (MdL x) := by
        rw [hx]
        refine ⟨⟨HC.out.2.1, by show ps.length ≤ 6; have := H1.out.2.2.1; omega, Nat.zero_le _⟩, ⟨HNB.out.1, by show bd 10; unfold bd; decide, HNX.out, by show bd bas; have := HNB.out; unfold bd; omega⟩, H1.out.2.2.2.1⟩
      have HRX : Hid (x.revs.length ≤ 5) := by show _ ≤ _; rw [hx]; show ps.length ≤ 5; have := H1.out.2.2.1; omega
      rw [← hx] at HX
      have ES := specSignedCrl_any x (.agg #[.string iss, .int .i64 num, .int .i64 10, .int .i64 nxt, .int .i64 bas, .slice pa k pc, .string ⟨#[]⟩]) by_ (g + 1) v1 (Nat.le_trans HMX.out.wt (by decide)) HMX.out.wd (by have := HC.out.2.2; omega) HX.out
      have c0 : v1.cell? ⟨g, 0, none⟩ = some (.string iss) := H1.out.1.2.2.1.cell 0
      have c1 : v1.cell? ⟨g, 1, none⟩ = some (.int .i64 num) := H1.out.1.2.2.1.cell 1
      have c2 : v1.cell? ⟨g, 2, none⟩ = some (.int .i64 10) := H1.out.1.2.2.1.cell 2
      have c3 : v1.cell? ⟨g, 3, none⟩ = some (.int .i64 nxt) := H1.out.1.2.2.1.cell 3
      have c4 : v1.cell? ⟨g, 4, none⟩ = some (.int .i64 bas) := H1.out.1.2.2.1.cell 4
      have c5 : v1.cell? ⟨g, 5, none⟩ = some (.slice pa k pc) := H1.out.1.2.2.1.cell 5
      have c6 : v1.cell? ⟨g, 6, none⟩ = some (.string ⟨#[]⟩) := H1.out.1.2.2.1.cell 6
      go_wp2_with fail
      refine ES.mono ?_
      rintro e w8 ⟨u8, rfl, hu8, hb8⟩
      obtain ⟨y, hy⟩ : ∃ y, sgL x by_ = y := ⟨_, rfl⟩
      have HY : Hid (MdL y ∧ y.sig.size = 15 ∧ y.revs.length ≤ 5) := by
        have hs : y.sig.size = 15 := by rw [← hy]; exact sigB_size _ HC.out.2.2
        obtain ⟨⟨h1, h2, h3⟩, h4, h5⟩ := HMX.out
        refine ⟨⟨⟨?_, ?_, by omega⟩, ?_, ?_⟩, hs, by rw [← hy]; exact HRX.out⟩
        · rw [← hy]; exact h1
        · rw [← hy]; exact h2
        · rw [← hy]; exact h4
        · rw [← hy]; exact h5
      rw [hy] at hu8
      obtain ⟨pY, qY, huY⟩ := hu8.at.shape
      subst huY
      have H8 : Hid ((w.grownBy w8 (some c) ∧ Cur B w8 c a0 len cap) ∧ Blk w8 w.heap.size 49 #[.string ⟨#[]⟩, .int .i64 0, .int .i64 0, .int .i64 0, .int .i64 0, .slice none 0 0, .string ⟨#[]⟩] ∧ OwnL w8 v1.heap.size (clV y (.slice pY y.revs.length qY)) y ∧ (c < w.heap.size ∧ w.heap.size < v1.heap.size)) := ⟨⟨grownBy_trans H1.out.1.1.1 (grownBy_below' hb8), H1.out.1.1.2.kept hb8⟩, H1.out.1.2.1.below hb8 H1.out.1.2.1.lt, hu8, H1.out.1.2.2.2.1, H1.out.1.2.1.lt⟩
      clear hb8 hu8 H1 ES HX hx hy c0 c1 c2 c3 c4 c5 c6
      have r0 : w8.cell? ⟨w.heap.size, 0, none⟩ = some (.string ⟨#[]⟩) := H8.out.2.1.cell 0
      have r1 : w8.cell? ⟨w.heap.size, 1, none⟩ = some (.int .i64 0) := H8.out.2.1.cell 1
      have r2 : w8.cell? ⟨w.heap.size, 2, none⟩ = some (.int .i64 0) := H8.out.2.1.cell 2
      have r3 : w8.cell? ⟨w.heap.size, 3, none⟩ = some (.int .i64 0) := H8.out.2.1.cell 3
      have r4 : w8.cell? ⟨w.heap.size, 4, none⟩ = some (.int .i64 0) := H8.out.2.1.cell 4
      have r5 : w8.cell? ⟨w.heap.size, 5, none⟩ = some (.slice none 0 0) := H8.out.2.1.cell 5
      have r6 : w8.cell? ⟨w.heap.size, 6, none⟩ = some (.string ⟨#[]⟩) := H8.out.2.1.cell 6
      have rf := fun i => H8.out.2.1.free i
      unfold clV
      go_wp2_with fail
      refine bodyPost_ret (v := clV y (.slice pY y.revs.length qY)) (by simp [results, Tryz.results130, go_sem, clV, r0, r1, r2, r3, r4, r5, r6]; try rfl) rfl ?_
      generalize hV : World.setCell _ { block := w.heap.size, off := 6 } (Value.string y.sig) = V
      have hgV : w8.grownBy V (some w.heap.size) := by
        rw [← hV]
        iterate 6 refine grownBy_trans ?_ (grownBy_setCell _ _ _ _)
        exact grownBy_setCell _ _ _ _
      refine ⟨_, y, rfl, ?_, HY.out.1, HY.out.2, ?_, ?_⟩
      · obtain ⟨p, hp, hrow⟩ := H8.out.2.2.1
        refine ⟨p, hp, OwnR.base (World.ownsRow.kept hrow hgV (.inr fun e => ?_)) (by have := H8.out.2.2.2; omega)⟩
        have := (World.ownsRow.lt hrow _ e).1
        have := H8.out.2.2.2
        omega
      · exact H8.out.1.2.grown hgV (fun k hk => by have := Option.some.inj hk; have := H8.out.2.2.2; omega)
      · exact grow_step H8.out.1.1 hgV (fun k hk => by have := Option.some.inj hk; omega)
end Go.Proofs.YtfgkpjjjjnollaaGreatDoor

/-
  Drawn lists, right or not: the specification's l10Any.
-/
namespace Go.Proofs.YtfgkpjjjjnollaaGreatDoor
open Go.RowKit Der
set_option linter.unusedVariables false
set_option linter.unusedSimpArgs false

theorem tmod_in {y : Int} (h0 : 0 ≤ y) (n : Int) (hn : 0 < n) (h2 : n ≤ 100) : 0 ≤ y.tmod n ∧ y.tmod n < n := by
  rw [Int.tmod_eq_emod_of_nonneg h0]
  exact ⟨Int.emod_nonneg _ (by omega), Int.emod_lt_of_pos _ hn⟩
end Go.Proofs.YtfgkpjjjjnollaaGreatDoor

/-
  Drawn rows of lists: the specification's l11Crls, DrawCrls.
-/
namespace Go.Proofs.YtfgkpjjjjnollaaGreatDoor
open Go.RowKit Der
set_option linter.unusedVariables false
set_option linter.unusedSimpArgs false

theorem Cur.keptB {B : Nat} {w w' : World} {c : Nat} {a0 : Option Addr} {len cap K : Nat} (h : Cur B w c a0 len cap) (hb : Below K w w') (hK : c < K) : Cur B w' c a0 len cap := by
  refine ⟨h.low, h.len_le, ?_, fun j hj => ?_⟩
  · obtain ⟨i, k, hr, h1, h2⟩ := h.row
    exact ⟨i, k, by rw [hb.block c hK]; exact hr, h1, h2⟩
  · obtain ⟨b, off, x, e, hbB, hc, h1, h2⟩ := h.code j hj
    have hbw : b < K := by have := h.low; omega
    exact ⟨b, off, x, e, hbB, (hb.cell (p := ⟨b, off + j, none⟩) hbw).trans hc, h1, h2⟩
theorem grow_below {w W W' : World} {c : Nat} (h : w.grownBy W (some c)) (hb : Below w.heap.size W W') : w.grownBy W' (some c) :=
  ⟨hb.os.trans h.os, hb.tape.trans h.tape, hb.output.trans h.output, Nat.le_trans h.size hb.size, fun k hk hn => (hb.block k hk).trans (h.block k hk hn)⟩
theorem OwnS.grownC {w w' : World} {b c : Nat} {v : Value} {l : List Cl} {fp : List Nat} (h : OwnS crlKd w b v l fp) (hg : w.grownBy w' (some c)) (hc : c < b) : OwnS crlKd w' b v l fp :=
  h.same fun y hy => hg.block y (h.lt y hy).2 (fun e => by have := Option.some.inj e; have := (h.lt y hy).1; omega)
theorem wt_made : ∀ {l : List Cl}, (∀ x ∈ l, MdL x) → wtS l ≤ 201 * l.length
  | [], _ => Nat.le_refl _
  | x :: l, h => by
    have ih := wt_made fun y hy => h y (List.mem_cons_of_mem _ hy)
    have hx := (h x (List.mem_cons_self ..)).wt
    unfold wtS at ih ⊢
    simp only [List.map_cons, List.sum_cons, List.length_cons]
    omega
theorem md_snoc {l : List Cl} {x : Cl} (h : ∀ y ∈ l, MdL y) (hx : MdL x) : ∀ y ∈ l ++ [x], MdL y := fun y hy => by
  rcases List.mem_append.1 hy with hy | hy
  · exact h y hy
  · rw [List.mem_singleton.1 hy]; exact hx
def CrlsPost (w : World) (e : Ending) (w' : World) : Prop := ∃ u l fp, e = .returned u ∧ OwnS crlKd w' w.heap.size u l fp ∧ (1 ≤ l.length ∧ l.length ≤ 5) ∧ (∀ x ∈ l, MdL x) ∧ Below w.heap.size w w'

set_option maxHeartbeats 12800000 in
set_option maxRecDepth 100000 in
theorem drawCrls_any (B : Nat) (w0 : World) (a0 : Option Addr) (len cap : Nat) (hl : len ≤ 1048576) (hB : B ≤ w0.heap.size) (hcode : CodeAt B w0 a0 len) :
    Calls Tryz.prog 36 #[.slice a0 len cap] w0 fun e w' => CrlsPost w0 e w' := by
  have HN := l01New_any B w0 a0 len cap hl hB hcode
  clear hl hB hcode
  go_enter Tryz.func36, Tryz.ntmps36
  go_wp2_with fail
  refine HN.mono ?_
  rintro e w ⟨c, rfl, hC, hbw, hcw⟩
  have HW0 : Hid (Below w0.heap.size w0 w ∧ w0.heap.size ≤ c) := ⟨hbw, hcw⟩
  have HC : Hid (Cur B w c a0 len cap) := hC
  have HCW : Hid (c < w.heap.size) := hC.lt
  clear hC hbw hcw HN
  obtain ⟨W1, hW1⟩ : ∃ V, V = w.alloc (Obj.cells #[] 49) := ⟨_, rfl⟩
  have H1 : Hid ((w.grownBy W1 (some c) ∧ Cur B W1 c a0 len cap) ∧ OwnS crlKd W1 w.heap.size (.slice (some ⟨w.heap.size, 0, none⟩) 0 0) ([] : List Cl) [w.heap.size] ∧ (∀ x ∈ ([] : List Cl), MdL x)) := by
    have hb : Below w.heap.size w W1 := by rw [hW1]; exact (Below.refl _ _).alloc (Nat.le_refl _) _
    exact ⟨⟨grownBy_below' hb, HC.out.kept hb⟩, by rw [hW1]; exact OwnS.made crlKd w _ (Nat.le_refl _), fun x hx => by cases hx⟩
  go_wp2_with fail
  rw [← hW1]
  clear hW1
  go_loopw [4, 5] (fun ov iv wr => ∃ k : Nat, k ≤ 4 ∧ iv = .int .i64 k ∧ Hid (∃ (l : List Cl) (fpo : List Nat), ((w.grownBy wr (some c) ∧ Cur B wr c a0 len cap) ∧ OwnS crlKd wr w.heap.size ov l fpo ∧ (∀ x ∈ l, MdL x)) ∧ l.length = k)) (fun _ iv _ => 5 - (intOf iv).toNat)
  case atStart => exact ⟨0, by decide, rfl, [], _, H1.out, rfl⟩
  case round =>
    clear H1
    obtain ⟨k, hk, rfl, H0⟩ := hrel
    obtain ⟨LF, fpo, hM, hlk⟩ := H0.out
    have H : Hid ((w.grownBy wr (some c) ∧ Cur B wr c a0 len cap) ∧ OwnS crlKd wr w.heap.size u4 LF fpo ∧ (∀ x ∈ LF, MdL x)) := hM
    have HLN : Hid (LF.length = k) := hlk
    obtain ⟨va, vc, hvo, -⟩ := hM.2.1.shape
    obtain ⟨ln, hln⟩ : ∃ q, LF.length = q := ⟨_, rfl⟩
    rw [hln] at hvo
    subst hvo
    clear H0 hM hlk
    have HDR : Hid (∀ W W', ((w.grownBy W (some c) ∧ Cur B W c a0 len cap) ∧ OwnS crlKd W w.heap.size (.slice va ln vc) LF fpo ∧ (∀ x ∈ LF, MdL x)) → Cur B W' c a0 len cap → W.grownBy W' (some c) → ((w.grownBy W' (some c) ∧ Cur B W' c a0 len cap) ∧ OwnS crlKd W' w.heap.size (.slice va ln vc) LF fpo ∧ (∀ x ∈ LF, MdL x))) := fun W W' h hc hg => ⟨⟨grownBy_trans h.1.1 hg, hc⟩, h.2.1.grownC hg HCW.out, h.2.2⟩
    go_wp2_with fail
    refine (l01Below_any 4 B wr c a0 len cap (by decide) H.out.1.2).mono ?_
    rintro e v2 ⟨m1, hm0, hm1, -, rfl, hc1, hg1⟩
    have hm4 : m1 < 4 := hm1 (by decide)
    have hwm : IntKind.i64.wrap (1 + m1) = 1 + m1 := by rw [IntKind.wrap_i64]; omega
    have H2 : Hid ((w.grownBy v2 (some c) ∧ Cur B v2 c a0 len cap) ∧ OwnS crlKd v2 w.heap.size (.slice va ln vc) LF fpo ∧ (∀ x ∈ LF, MdL x)) := HDR.out _ _ H.out hc1 hg1
    clear H hc1 hg1 hm1
    by_cases hkm : (k : Int) < 1 + m1
    · have HLE : Hid (w.heap.size ≤ v2.heap.size) := H2.out.1.1.size
      have HLO : Hid (∀ b ∈ fpo, b < v2.heap.size) := fun b hb => (H2.out.2.1.lt b hb).2
      go_wp2_with fail
      refine (l10Made_any ⟨#[99, 97, 46, 111, 114, 103]⟩ (by decide) 1 (by decide) B v2 c a0 len cap H2.out.1.2).mono ?_
      rintro e v3 ⟨u3, y, rfl, hu, hmy, -, hc3, hg3⟩
      have HX : Hid ((w.grownBy v3 (some c) ∧ Cur B v3 c a0 len cap) ∧ OwnS crlKd v3 w.heap.size (.slice va ln vc) LF fpo ∧ (∀ x ∈ LF, MdL x)) := HDR.out _ _ H2.out hc3 hg3
      have HMY : Hid (MdL y) := hmy
      clear H2 hc3 hg3 hmy
      obtain ⟨pY, qY, huY⟩ := hu.at.shape
      subst huY
      have H5 : Hid (((w.grownBy v3 (some c) ∧ Cur B v3 c a0 len cap) ∧ OwnS crlKd v3 w.heap.size (.slice va ln vc) LF fpo ∧ (∀ x ∈ LF, MdL x)) ∧ OwnL v3 w.heap.size (clV y (.slice pY y.revs.length qY)) y ∧ (∀ b ∈ fpL (clV y (.slice pY y.revs.length qY)), b ∉ fpo) ∧ w.heap.size ≤ v3.heap.size) := ⟨HX.out, hu.base HLE.out, fun b hb hm => by have h1 := (HLO.out b hm); have h2 := (fpL_lt hu b hb).1; omega, by have := HX.out.1.1.size; omega⟩
      clear HX hu
      unfold clV
      go_wp2_with (at_builtin; refine wpList_append_crl rfl _ _ rfl w.heap.size (.slice va ln vc) LF fpo y (.slice pY y.revs.length qY) rfl _ rfl rfl H5.out.1.2.1 H5.out.2.1 H5.out.2.2.1 H5.out.2.2.2 (by have := HLN.out; omega) ?_)
      intro g9 cap9 w9 fp9 hO9 hb9
      have HD : Hid (∃ (l : List Cl) (fpo : List Nat), (((w.grownBy w9 (some c) ∧ Cur B w9 c a0 len cap) ∧ OwnS crlKd w9 w.heap.size (.slice (some ⟨g9, 0, none⟩) (ln + 1) cap9) l fpo ∧ (∀ x ∈ l, MdL x))) ∧ l.length = k + 1) := by
        refine ⟨LF ++ [y], fp9, ⟨⟨grow_below H5.out.1.1.1 hb9, H5.out.1.1.2.keptB hb9 HCW.out⟩, by first | exact hO9 | (have h := hO9; rw [List.length_append, hln] at h; exact h), md_snoc H5.out.1.2.2 HMY.out⟩, by rw [List.length_append]; have := HLN.out; show LF.length + 1 = k + 1; omega⟩
      clear hO9 hb9 H5
      go_wp2_with fail
      go_roundw
      case rel => exact ⟨k + 1, by omega, by go_num, HD.out⟩
      case measure => simp [intOf]; omega
    · have HK1 : Hid (1 ≤ LF.length) := by show _ ≤ _; have := HLN.out; omega
      go_wp2_with fail
      go_ret
      refine ⟨_, LF, fpo, rfl, H2.out.2.1.base HW0.out.1.size, ⟨HK1.out, by have := HLN.out; omega⟩, H2.out.2.2, ?_⟩
      exact HW0.out.1.trans (grownBy_below H2.out.1.1 HW0.out.2 HW0.out.1.size)
end Go.Proofs.YtfgkpjjjjnollaaGreatDoor
