/-
  Texts of the proof.
-/
import Derived.LaidEqlPtr
import Derived.Laws.StructEq
import Derived.ChangeKeysEq
import Derived.Test.YtbiiihjohbnodaaMRV19
set_option maxRecDepth 100000
set_option maxHeartbeats 25600000
namespace Go.Proofs.Ytbiiihjohbnodaa
open Go.RowKit Der
set_option linter.unusedVariables false
set_option linter.unusedSimpArgs false
def OwnQ (w : World) (base : Nat) (v : Value) (c : Rp) : Prop := ∃ p, v = rpV c p /\ OwnAS w base p c.ans
theorem OwnAS.at {w : World} {base : Nat} {v : Value} {l : List Aw} (h : OwnAS w base v l) : AtS awKd w v l := by
 obtain ⟨fp, h⟩ := h
 exact h.at
theorem OwnQ.at {w : World} {base : Nat} {v : Value} {c : Rp} (h : OwnQ w base v c) : RpAt w v c := by
 obtain ⟨p, hv, h⟩ := h
 exact ⟨p, hv, h.at⟩
theorem OwnQ.stays {w w' : World} {base : Nat} {v : Value} {c : Rp} (h : OwnQ w base v c) (hb : Below w.heap.size w w') : OwnQ w' base v c := by
 obtain ⟨p, hv, h⟩ := h
 exact ⟨p, hv, h.stays hb⟩
theorem OwnQ.base {w : World} {b b' : Nat} {v : Value} {c : Rp} (h : OwnQ w b v c) (hb : b' <= b) : OwnQ w b' v c := by
 obtain ⟨p, hv, h⟩ := h
 exact ⟨p, hv, h.base hb⟩
theorem OwnQ.outB {w w' : World} {base : Nat} {v : Value} {c : Rp} {fq : List Nat} (h : OwnQ w base v c) (ho : Out fq w w') (hn : ∀ x ∈ fq, x < base ∨ w.heap.size <= x) : OwnQ w' base v c := by
 obtain ⟨p, hv, h⟩ := h
 exact ⟨p, hv, h.outX ho hn⟩
def OwnQT (w : World) (base top : Nat) (v : Value) (c : Rp) : Prop := ∃ p fp, v = rpV c p /\ OwnS awKd w base p c.ans fp /\ ∀ b ∈ fp, b < top
theorem OwnQ.top {w : World} {base : Nat} {v : Value} {c : Rp} (h : OwnQ w base v c) : OwnQT w base w.heap.size v c := by
 obtain ⟨p, hv, fp, h⟩ := h
 exact ⟨p, fp, hv, h, fun b hb => (h.lt b hb).2⟩
theorem OwnQT.stays {w w' : World} {base top : Nat} {v : Value} {c : Rp} (h : OwnQT w base top v c) (hb : Below w.heap.size w w') : OwnQT w' base top v c := by
 obtain ⟨p, fp, hv, h, h2⟩ := h
 exact ⟨p, fp, hv, h.stays hb, h2⟩
theorem OwnQT.outB {w w' : World} {base top : Nat} {v : Value} {c : Rp} {fq : List Nat} (h : OwnQT w base top v c) (ho : Out fq w w') (hn : ∀ x ∈ fq, x < base ∨ top <= x) : OwnQT w' base top v c := by
 obtain ⟨p, fp, hv, h, h2⟩ := h
 exact ⟨p, fp, hv, h.out ho fun x hx hq => by have := h.lt x hx; have := h2 x hx; rcases hn x hq with h1 | h1 <;> omega, h2⟩
def RbPost (w0 w : World) (g : Nat) (ob : Option Rp) (e : Ending) (W' : World) : Prop := Out [g] w W' /\
 ((ob = none /\ e = misfit) ∨ ∃ (c : Rp) (u v' : Value), ob = some c /\ e = .returned u /\ OwnQ W' w.heap.size u c /\ Blk W' g 134 #[v'])
theorem replyBody_any (w0 w : World) (g n : Nat) (v : Value) (ks : List (It (n + 4))) (hw : Below w0.heap.size w0 w) (hk : KcAt w0 (n + 4) v ks) (hr : Blk w g 134 #[v]) (hg : w0.heap.size <= g) (hz : SzL ks) :
  Calls Try.prog 104 #[.pointer (some ⟨g, 0, none⟩)] w fun e W' => RbPost w0 w g (rbodyP ks) e W' := by
 obtain ⟨oB, hoB⟩ := zE (rbodyP ks)
 have HP : Hid (rbodyP ks = oB) := hoB
 rw [hoB]
 clear hoB
 have KW : Hid (KcAt w0 (n + 4) v ks /\ SzL ks) := ⟨hk, hz⟩
 have O0 : Hid (w0.heap.size <= g /\ g < w.heap.size /\ w0.heap.size <= w.heap.size) := ⟨hg, hr.lt, hw.size⟩
 clear hk hz hg
 go_enter Try.func104, Try.ntmps104
 go_wp2_with fail
 obtain ⟨W1, hW1⟩ : ∃ V, V = (w.alloc (Obj.cells #[.string ⟨#[]⟩, .int .i64 0, .int .i64 0, .int .i64 0, .int .i64 0, .int .i64 0, .slice none 0 0, .string ⟨#[]⟩] 44)).alloc (Obj.cells #[.string ⟨#[]⟩, .int .i64 0, .int .i64 0, .int .i64 0, .int .i64 0, .int .i64 0, .slice none 0 0, .string ⟨#[]⟩] 44) := ⟨_, rfl⟩
 rw [<- hW1]
 have e0 : (w.alloc (Obj.cells #[.string ⟨#[]⟩, .int .i64 0, .int .i64 0, .int .i64 0, .int .i64 0, .int .i64 0, .slice none 0 0, .string ⟨#[]⟩] 44)).heap.size = w.heap.size + 1 := Array.size_push _
 have hb1 : Below w.heap.size w W1 := by rw [hW1]; exact ((Below.refl _ _).alloc (Nat.le_refl _) _).alloc (by rw [e0]; omega) _
 have hv1 : Blk W1 w.heap.size 44 #[.string ⟨#[]⟩, .int .i64 0, .int .i64 0, .int .i64 0, .int .i64 0, .int .i64 0, .slice none 0 0, .string ⟨#[]⟩] := by rw [hW1]; exact (Blk.new w _ _).alloc _
 have hv2 : Blk W1 (w.heap.size + 1) 44 #[.string ⟨#[]⟩, .int .i64 0, .int .i64 0, .int .i64 0, .int .i64 0, .int .i64 0, .slice none 0 0, .string ⟨#[]⟩] := by
  rw [hW1]
  have h := Blk.new (w.alloc (Obj.cells #[.string ⟨#[]⟩, .int .i64 0, .int .i64 0, .int .i64 0, .int .i64 0, .int .i64 0, .slice none 0 0, .string ⟨#[]⟩] 44)) 44 #[.string ⟨#[]⟩, .int .i64 0, .int .i64 0, .int .i64 0, .int .i64 0, .int .i64 0, .slice none 0 0, .string ⟨#[]⟩]
  rw [e0] at h
  exact h
 have hs1 : W1.heap.size = w.heap.size + 2 := by rw [hW1, size_alloc, e0]
 have HB : Hid (Below w0.heap.size w0 W1) := hw.trans (hb1.mono hw.size)
 have HO : Hid (Out [g] w W1) := Out.of_below hb1
 have VC : Hid (Blk W1 w.heap.size 44 #[.string ⟨#[]⟩, .int .i64 0, .int .i64 0, .int .i64 0, .int .i64 0, .int .i64 0, .slice none 0 0, .string ⟨#[]⟩]) := hv1
 have VA : Hid (Blk W1 (w.heap.size + 1) 44 #[.string ⟨#[]⟩, .int .i64 0, .int .i64 0, .int .i64 0, .int .i64 0, .int .i64 0, .slice none 0 0, .string ⟨#[]⟩]) := hv2
 have RW : Hid (Blk W1 g 134 #[v]) := hr.below hb1 hr.lt
 have O1 : Hid (W1.heap.size = w.heap.size + 2) := hs1
 clear hW1 e0 hb1 hv1 hv2 hs1 hr hw
 have KI : Hid (KcAt w0 (n + 4) v ks /\ SzL ks) := KW.out
 refine (rbytes_any w0 W1 g (n + 3) v ks HB.out KI.out.1 RW.out (by have := O0.out; have := O1.out; omega) KI.out.2.1).mono ?_
 rintro e w2 ⟨ho, ⟨hn, rfl⟩ | ⟨x2, r2, v2, hn, rfl, hkq, hB⟩⟩
 ·have HF : Hid (Out [g] w w2 /\ oB = none) := by
   refine ⟨HO.out.trans ho, ?_⟩
   rw [<- HP.out]
   unfold rbodyP; simp only [hn, Option.bind_some, Option.bind_none]
  clear hn ho
  unfold misfit
  go_wp2_with fail
  exact ⟨rfl, HF.out.1, .inl ⟨HF.out.2, rfl⟩⟩
 have N2 : Hid (txtP 4 ks = some (x2, r2)) := hn
 replace HB := zH (below_out HB.out ho (by have := O0.out; have := O1.out; omega))
 replace HO := zH (HO.out.trans ho)
 replace VC := zH (VC.out.outX ho (by have := O0.out; have := O1.out; simp <;> omega))
 replace VA := zH (VA.out.outX ho (by have := O0.out; have := O1.out; simp <;> omega))
 clear RW
 have O2 : Hid (W1.heap.size <= w2.heap.size) := ho.size
 have RW : Hid (Blk w2 g 134 #[v2]) := hB
 have KIn : Hid (KcAt w0 (n + 4) v2 r2 /\ SzL r2) := ⟨hkq, KI.out.2.txt hn⟩
 clear KI
 have KI := KIn
 clear KIn hn ho hkq hB
 have cc : w2.cell? ⟨w.heap.size + 1, 0, none⟩ = some (.string ⟨#[]⟩) := VA.out.cell 0
 have cf := VA.out.free 0
 go_wp2_with fail
 clear cc cf
 obtain ⟨V2, hV⟩ : ∃ V, V = w2.setCell ⟨w.heap.size + 1, 0, none⟩ (.string x2) := ⟨_, rfl⟩
 rw [<- hV]
 have hset : Out [w.heap.size + 1] w2 V2 := by rw [hV]; exact out_set _ _ _
 have hVA : Blk V2 (w.heap.size + 1) 44 #[.string x2, .int .i64 0, .int .i64 0, .int .i64 0, .int .i64 0, .int .i64 0, .slice none 0 0, .string ⟨#[]⟩] := by rw [hV]; exact VA.out.set 0 _
 replace HB := zH (below_out HB.out hset (by have := O0.out; have := O1.out; have := O2.out; omega))
 replace HO := zH (HO.out.aside hset (by have := O0.out; have := O1.out; have := O2.out; omega))
 replace VC := zH (VC.out.outX hset (by have := O0.out; have := O1.out; have := O2.out; simp <;> omega))
 replace RW := zH (RW.out.outX hset (by have := O0.out; have := O1.out; have := O2.out; simp <;> omega))
 clear VA
 have O3 : Hid (w2.heap.size <= V2.heap.size) := hset.size
 have VA : Hid (Blk V2 (w.heap.size + 1) 44 #[.string x2, .int .i64 0, .int .i64 0, .int .i64 0, .int .i64 0, .int .i64 0, .slice none 0 0, .string ⟨#[]⟩]) := hVA
 clear hset hVA hV
 refine (number_any w0 V2 g (n + 3) v2 r2 HB.out KI.out.1 RW.out (by have := O0.out; have := O1.out; have := O2.out; have := O3.out; omega) KI.out.2.1 (fun y hy => Nat.le_trans (KI.out.2.2 y hy) (by decide))).mono ?_
 rintro e w3 ⟨ho, ⟨hn, rfl⟩ | ⟨x3, r3, v3, hn, rfl, hkq, hB⟩⟩
 ·have HF : Hid (Out [g] w w3 /\ oB = none) := by
   refine ⟨HO.out.trans ho, ?_⟩
   rw [<- HP.out]
   unfold rbodyP; simp only [N2.out, hn, Option.bind_some, Option.bind_none]
  clear hn ho
  unfold misfit
  go_wp2_with fail
  exact ⟨rfl, HF.out.1, .inl ⟨HF.out.2, rfl⟩⟩
 have N3 : Hid (numP r2 = some (x3, r3)) := hn
 replace HB := zH (below_out HB.out ho (by have := O0.out; have := O1.out; have := O2.out; have := O3.out; omega))
 replace HO := zH (HO.out.trans ho)
 replace VC := zH (VC.out.outX ho (by have := O0.out; have := O1.out; have := O2.out; have := O3.out; simp <;> omega))
 replace VA := zH (VA.out.outX ho (by have := O0.out; have := O1.out; have := O2.out; have := O3.out; simp <;> omega))
 clear RW
 have O4 : Hid (V2.heap.size <= w3.heap.size) := ho.size
 have RW : Hid (Blk w3 g 134 #[v3]) := hB
 have KIn : Hid (KcAt w0 (n + 4) v3 r3 /\ SzL r3) := ⟨hkq, KI.out.2.num hn⟩
 clear KI
 have KI := KIn
 clear KIn hn ho hkq hB
 have cc : w3.cell? ⟨w.heap.size + 1, 1, none⟩ = some (.int .i64 0) := VA.out.cell 1
 have cf := VA.out.free 1
 go_wp2_with fail
 clear cc cf
 obtain ⟨V3, hV⟩ : ∃ V, V = w3.setCell ⟨w.heap.size + 1, 1, none⟩ (.int .i64 x3) := ⟨_, rfl⟩
 rw [<- hV]
 have hset : Out [w.heap.size + 1] w3 V3 := by rw [hV]; exact out_set _ _ _
 have hVA : Blk V3 (w.heap.size + 1) 44 #[.string x2, .int .i64 x3, .int .i64 0, .int .i64 0, .int .i64 0, .int .i64 0, .slice none 0 0, .string ⟨#[]⟩] := by rw [hV]; exact VA.out.set 1 _
 replace HB := zH (below_out HB.out hset (by have := O0.out; have := O1.out; have := O2.out; have := O3.out; have := O4.out; omega))
 replace HO := zH (HO.out.aside hset (by have := O0.out; have := O1.out; have := O2.out; have := O3.out; have := O4.out; omega))
 replace VC := zH (VC.out.outX hset (by have := O0.out; have := O1.out; have := O2.out; have := O3.out; have := O4.out; simp <;> omega))
 replace RW := zH (RW.out.outX hset (by have := O0.out; have := O1.out; have := O2.out; have := O3.out; have := O4.out; simp <;> omega))
 clear VA
 have O5 : Hid (w3.heap.size <= V3.heap.size) := hset.size
 have VA : Hid (Blk V3 (w.heap.size + 1) 44 #[.string x2, .int .i64 x3, .int .i64 0, .int .i64 0, .int .i64 0, .int .i64 0, .slice none 0 0, .string ⟨#[]⟩]) := hVA
 clear hset hVA hV
 refine (number_any w0 V3 g (n + 3) v3 r3 HB.out KI.out.1 RW.out (by have := O0.out; have := O1.out; have := O2.out; have := O3.out; have := O4.out; have := O5.out; omega) KI.out.2.1 (fun y hy => Nat.le_trans (KI.out.2.2 y hy) (by decide))).mono ?_
 rintro e w4 ⟨ho, ⟨hn, rfl⟩ | ⟨x4, r4, v4, hn, rfl, hkq, hB⟩⟩
 ·have HF : Hid (Out [g] w w4 /\ oB = none) := by
   refine ⟨HO.out.trans ho, ?_⟩
   rw [<- HP.out]
   unfold rbodyP; simp only [N2.out, N3.out, hn, Option.bind_some, Option.bind_none]
  clear hn ho
  unfold misfit
  go_wp2_with fail
  exact ⟨rfl, HF.out.1, .inl ⟨HF.out.2, rfl⟩⟩
 have N4 : Hid (numP r3 = some (x4, r4)) := hn
 replace HB := zH (below_out HB.out ho (by have := O0.out; have := O1.out; have := O2.out; have := O3.out; have := O4.out; have := O5.out; omega))
 replace HO := zH (HO.out.trans ho)
 replace VC := zH (VC.out.outX ho (by have := O0.out; have := O1.out; have := O2.out; have := O3.out; have := O4.out; have := O5.out; simp <;> omega))
 replace VA := zH (VA.out.outX ho (by have := O0.out; have := O1.out; have := O2.out; have := O3.out; have := O4.out; have := O5.out; simp <;> omega))
 clear RW
 have O6 : Hid (V3.heap.size <= w4.heap.size) := ho.size
 have RW : Hid (Blk w4 g 134 #[v4]) := hB
 have KIn : Hid (KcAt w0 (n + 4) v4 r4 /\ SzL r4) := ⟨hkq, KI.out.2.num hn⟩
 clear KI
 have KI := KIn
 clear KIn hn ho hkq hB
 have cc : w4.cell? ⟨w.heap.size + 1, 2, none⟩ = some (.int .i64 0) := VA.out.cell 2
 have cf := VA.out.free 2
 go_wp2_with fail
 clear cc cf
 obtain ⟨V4, hV⟩ : ∃ V, V = w4.setCell ⟨w.heap.size + 1, 2, none⟩ (.int .i64 x4) := ⟨_, rfl⟩
 rw [<- hV]
 have hset : Out [w.heap.size + 1] w4 V4 := by rw [hV]; exact out_set _ _ _
 have hVA : Blk V4 (w.heap.size + 1) 44 #[.string x2, .int .i64 x3, .int .i64 x4, .int .i64 0, .int .i64 0, .int .i64 0, .slice none 0 0, .string ⟨#[]⟩] := by rw [hV]; exact VA.out.set 2 _
 replace HB := zH (below_out HB.out hset (by have := O0.out; have := O1.out; have := O2.out; have := O3.out; have := O4.out; have := O5.out; have := O6.out; omega))
 replace HO := zH (HO.out.aside hset (by have := O0.out; have := O1.out; have := O2.out; have := O3.out; have := O4.out; have := O5.out; have := O6.out; omega))
 replace VC := zH (VC.out.outX hset (by have := O0.out; have := O1.out; have := O2.out; have := O3.out; have := O4.out; have := O5.out; have := O6.out; simp <;> omega))
 replace RW := zH (RW.out.outX hset (by have := O0.out; have := O1.out; have := O2.out; have := O3.out; have := O4.out; have := O5.out; have := O6.out; simp <;> omega))
 clear VA
 have O7 : Hid (w4.heap.size <= V4.heap.size) := hset.size
 have VA : Hid (Blk V4 (w.heap.size + 1) 44 #[.string x2, .int .i64 x3, .int .i64 x4, .int .i64 0, .int .i64 0, .int .i64 0, .slice none 0 0, .string ⟨#[]⟩]) := hVA
 clear hset hVA hV
 refine (number_any w0 V4 g (n + 3) v4 r4 HB.out KI.out.1 RW.out (by have := O0.out; have := O1.out; have := O2.out; have := O3.out; have := O4.out; have := O5.out; have := O6.out; have := O7.out; omega) KI.out.2.1 (fun y hy => Nat.le_trans (KI.out.2.2 y hy) (by decide))).mono ?_
 rintro e w5 ⟨ho, ⟨hn, rfl⟩ | ⟨x5, r5, v5, hn, rfl, hkq, hB⟩⟩
 ·have HF : Hid (Out [g] w w5 /\ oB = none) := by
   refine ⟨HO.out.trans ho, ?_⟩
   rw [<- HP.out]
   unfold rbodyP; simp only [N2.out, N3.out, N4.out, hn, Option.bind_some, Option.bind_none]
  clear hn ho
  unfold misfit
  go_wp2_with fail
  exact ⟨rfl, HF.out.1, .inl ⟨HF.out.2, rfl⟩⟩
 have N5 : Hid (numP r4 = some (x5, r5)) := hn
 replace HB := zH (below_out HB.out ho (by have := O0.out; have := O1.out; have := O2.out; have := O3.out; have := O4.out; have := O5.out; have := O6.out; have := O7.out; omega))
 replace HO := zH (HO.out.trans ho)
 replace VC := zH (VC.out.outX ho (by have := O0.out; have := O1.out; have := O2.out; have := O3.out; have := O4.out; have := O5.out; have := O6.out; have := O7.out; simp <;> omega))
 replace VA := zH (VA.out.outX ho (by have := O0.out; have := O1.out; have := O2.out; have := O3.out; have := O4.out; have := O5.out; have := O6.out; have := O7.out; simp <;> omega))
 clear RW
 have O8 : Hid (V4.heap.size <= w5.heap.size) := ho.size
 have RW : Hid (Blk w5 g 134 #[v5]) := hB
 have KIn : Hid (KcAt w0 (n + 4) v5 r5 /\ SzL r5) := ⟨hkq, KI.out.2.num hn⟩
 clear KI
 have KI := KIn
 clear KIn hn ho hkq hB
 have cc : w5.cell? ⟨w.heap.size + 1, 3, none⟩ = some (.int .i64 0) := VA.out.cell 3
 have cf := VA.out.free 3
 go_wp2_with fail
 clear cc cf
 obtain ⟨V5, hV⟩ : ∃ V, V = w5.setCell ⟨w.heap.size + 1, 3, none⟩ (.int .i64 x5) := ⟨_, rfl⟩
 rw [<- hV]
 have hset : Out [w.heap.size + 1] w5 V5 := by rw [hV]; exact out_set _ _ _
 have hVA : Blk V5 (w.heap.size + 1) 44 #[.string x2, .int .i64 x3, .int .i64 x4, .int .i64 x5, .int .i64 0, .int .i64 0, .slice none 0 0, .string ⟨#[]⟩] := by rw [hV]; exact VA.out.set 3 _
 replace HB := zH (below_out HB.out hset (by have := O0.out; have := O1.out; have := O2.out; have := O3.out; have := O4.out; have := O5.out; have := O6.out; have := O7.out; have := O8.out; omega))
 replace HO := zH (HO.out.aside hset (by have := O0.out; have := O1.out; have := O2.out; have := O3.out; have := O4.out; have := O5.out; have := O6.out; have := O7.out; have := O8.out; omega))
 replace VC := zH (VC.out.outX hset (by have := O0.out; have := O1.out; have := O2.out; have := O3.out; have := O4.out; have := O5.out; have := O6.out; have := O7.out; have := O8.out; simp <;> omega))
 replace RW := zH (RW.out.outX hset (by have := O0.out; have := O1.out; have := O2.out; have := O3.out; have := O4.out; have := O5.out; have := O6.out; have := O7.out; have := O8.out; simp <;> omega))
 clear VA
 have O9 : Hid (w5.heap.size <= V5.heap.size) := hset.size
 have VA : Hid (Blk V5 (w.heap.size + 1) 44 #[.string x2, .int .i64 x3, .int .i64 x4, .int .i64 x5, .int .i64 0, .int .i64 0, .slice none 0 0, .string ⟨#[]⟩]) := hVA
 clear hset hVA hV
 refine (number_any w0 V5 g (n + 3) v5 r5 HB.out KI.out.1 RW.out (by have := O0.out; have := O1.out; have := O2.out; have := O3.out; have := O4.out; have := O5.out; have := O6.out; have := O7.out; have := O8.out; have := O9.out; omega) KI.out.2.1 (fun y hy => Nat.le_trans (KI.out.2.2 y hy) (by decide))).mono ?_
 rintro e w6 ⟨ho, ⟨hn, rfl⟩ | ⟨x6, r6, v6, hn, rfl, hkq, hB⟩⟩
 ·have HF : Hid (Out [g] w w6 /\ oB = none) := by
   refine ⟨HO.out.trans ho, ?_⟩
   rw [<- HP.out]
   unfold rbodyP; simp only [N2.out, N3.out, N4.out, N5.out, hn, Option.bind_some, Option.bind_none]
  clear hn ho
  unfold misfit
  go_wp2_with fail
  exact ⟨rfl, HF.out.1, .inl ⟨HF.out.2, rfl⟩⟩
 have N6 : Hid (numP r5 = some (x6, r6)) := hn
 replace HB := zH (below_out HB.out ho (by have := O0.out; have := O1.out; have := O2.out; have := O3.out; have := O4.out; have := O5.out; have := O6.out; have := O7.out; have := O8.out; have := O9.out; omega))
 replace HO := zH (HO.out.trans ho)
 replace VC := zH (VC.out.outX ho (by have := O0.out; have := O1.out; have := O2.out; have := O3.out; have := O4.out; have := O5.out; have := O6.out; have := O7.out; have := O8.out; have := O9.out; simp <;> omega))
 replace VA := zH (VA.out.outX ho (by have := O0.out; have := O1.out; have := O2.out; have := O3.out; have := O4.out; have := O5.out; have := O6.out; have := O7.out; have := O8.out; have := O9.out; simp <;> omega))
 clear RW
 have O10 : Hid (V5.heap.size <= w6.heap.size) := ho.size
 have RW : Hid (Blk w6 g 134 #[v6]) := hB
 have KIn : Hid (KcAt w0 (n + 4) v6 r6 /\ SzL r6) := ⟨hkq, KI.out.2.num hn⟩
 clear KI
 have KI := KIn
 clear KIn hn ho hkq hB
 have cc : w6.cell? ⟨w.heap.size + 1, 4, none⟩ = some (.int .i64 0) := VA.out.cell 4
 have cf := VA.out.free 4
 go_wp2_with fail
 clear cc cf
 obtain ⟨V6, hV⟩ : ∃ V, V = w6.setCell ⟨w.heap.size + 1, 4, none⟩ (.int .i64 x6) := ⟨_, rfl⟩
 rw [<- hV]
 have hset : Out [w.heap.size + 1] w6 V6 := by rw [hV]; exact out_set _ _ _
 have hVA : Blk V6 (w.heap.size + 1) 44 #[.string x2, .int .i64 x3, .int .i64 x4, .int .i64 x5, .int .i64 x6, .int .i64 0, .slice none 0 0, .string ⟨#[]⟩] := by rw [hV]; exact VA.out.set 4 _
 replace HB := zH (below_out HB.out hset (by have := O0.out; have := O1.out; have := O2.out; have := O3.out; have := O4.out; have := O5.out; have := O6.out; have := O7.out; have := O8.out; have := O9.out; have := O10.out; omega))
 replace HO := zH (HO.out.aside hset (by have := O0.out; have := O1.out; have := O2.out; have := O3.out; have := O4.out; have := O5.out; have := O6.out; have := O7.out; have := O8.out; have := O9.out; have := O10.out; omega))
 replace VC := zH (VC.out.outX hset (by have := O0.out; have := O1.out; have := O2.out; have := O3.out; have := O4.out; have := O5.out; have := O6.out; have := O7.out; have := O8.out; have := O9.out; have := O10.out; simp <;> omega))
 replace RW := zH (RW.out.outX hset (by have := O0.out; have := O1.out; have := O2.out; have := O3.out; have := O4.out; have := O5.out; have := O6.out; have := O7.out; have := O8.out; have := O9.out; have := O10.out; simp <;> omega))
 clear VA
 have O11 : Hid (w6.heap.size <= V6.heap.size) := hset.size
 have VA : Hid (Blk V6 (w.heap.size + 1) 44 #[.string x2, .int .i64 x3, .int .i64 x4, .int .i64 x5, .int .i64 x6, .int .i64 0, .slice none 0 0, .string ⟨#[]⟩]) := hVA
 clear hset hVA hV
 refine (number_any w0 V6 g (n + 3) v6 r6 HB.out KI.out.1 RW.out (by have := O0.out; have := O1.out; have := O2.out; have := O3.out; have := O4.out; have := O5.out; have := O6.out; have := O7.out; have := O8.out; have := O9.out; have := O10.out; have := O11.out; omega) KI.out.2.1 (fun y hy => Nat.le_trans (KI.out.2.2 y hy) (by decide))).mono ?_
 rintro e w7 ⟨ho, ⟨hn, rfl⟩ | ⟨x7, r7, v7, hn, rfl, hkq, hB⟩⟩
 ·have HF : Hid (Out [g] w w7 /\ oB = none) := by
   refine ⟨HO.out.trans ho, ?_⟩
   rw [<- HP.out]
   unfold rbodyP; simp only [N2.out, N3.out, N4.out, N5.out, N6.out, hn, Option.bind_some, Option.bind_none]
  clear hn ho
  unfold misfit
  go_wp2_with fail
  exact ⟨rfl, HF.out.1, .inl ⟨HF.out.2, rfl⟩⟩
 have N7 : Hid (numP r6 = some (x7, r7)) := hn
 replace HB := zH (below_out HB.out ho (by have := O0.out; have := O1.out; have := O2.out; have := O3.out; have := O4.out; have := O5.out; have := O6.out; have := O7.out; have := O8.out; have := O9.out; have := O10.out; have := O11.out; omega))
 replace HO := zH (HO.out.trans ho)
 replace VC := zH (VC.out.outX ho (by have := O0.out; have := O1.out; have := O2.out; have := O3.out; have := O4.out; have := O5.out; have := O6.out; have := O7.out; have := O8.out; have := O9.out; have := O10.out; have := O11.out; simp <;> omega))
 replace VA := zH (VA.out.outX ho (by have := O0.out; have := O1.out; have := O2.out; have := O3.out; have := O4.out; have := O5.out; have := O6.out; have := O7.out; have := O8.out; have := O9.out; have := O10.out; have := O11.out; simp <;> omega))
 clear RW
 have O12 : Hid (V6.heap.size <= w7.heap.size) := ho.size
 have RW : Hid (Blk w7 g 134 #[v7]) := hB
 have KIn : Hid (KcAt w0 (n + 4) v7 r7 /\ SzL r7) := ⟨hkq, KI.out.2.num hn⟩
 clear KI
 have KI := KIn
 clear KIn hn ho hkq hB
 have cc : w7.cell? ⟨w.heap.size + 1, 5, none⟩ = some (.int .i64 0) := VA.out.cell 5
 have cf := VA.out.free 5
 go_wp2_with fail
 clear cc cf
 obtain ⟨V7, hV⟩ : ∃ V, V = w7.setCell ⟨w.heap.size + 1, 5, none⟩ (.int .i64 x7) := ⟨_, rfl⟩
 rw [<- hV]
 have hset : Out [w.heap.size + 1] w7 V7 := by rw [hV]; exact out_set _ _ _
 have hVA : Blk V7 (w.heap.size + 1) 44 #[.string x2, .int .i64 x3, .int .i64 x4, .int .i64 x5, .int .i64 x6, .int .i64 x7, .slice none 0 0, .string ⟨#[]⟩] := by rw [hV]; exact VA.out.set 5 _
 replace HB := zH (below_out HB.out hset (by have := O0.out; have := O1.out; have := O2.out; have := O3.out; have := O4.out; have := O5.out; have := O6.out; have := O7.out; have := O8.out; have := O9.out; have := O10.out; have := O11.out; have := O12.out; omega))
 replace HO := zH (HO.out.aside hset (by have := O0.out; have := O1.out; have := O2.out; have := O3.out; have := O4.out; have := O5.out; have := O6.out; have := O7.out; have := O8.out; have := O9.out; have := O10.out; have := O11.out; have := O12.out; omega))
 replace VC := zH (VC.out.outX hset (by have := O0.out; have := O1.out; have := O2.out; have := O3.out; have := O4.out; have := O5.out; have := O6.out; have := O7.out; have := O8.out; have := O9.out; have := O10.out; have := O11.out; have := O12.out; simp <;> omega))
 replace RW := zH (RW.out.outX hset (by have := O0.out; have := O1.out; have := O2.out; have := O3.out; have := O4.out; have := O5.out; have := O6.out; have := O7.out; have := O8.out; have := O9.out; have := O10.out; have := O11.out; have := O12.out; simp <;> omega))
 clear VA
 have O13 : Hid (w7.heap.size <= V7.heap.size) := hset.size
 have VA : Hid (Blk V7 (w.heap.size + 1) 44 #[.string x2, .int .i64 x3, .int .i64 x4, .int .i64 x5, .int .i64 x6, .int .i64 x7, .slice none 0 0, .string ⟨#[]⟩]) := hVA
 clear hset hVA hV
 refine (ranss_any w0 V7 g n v7 r7 HB.out KI.out.1 RW.out (by have := O0.out; have := O1.out; have := O2.out; have := O3.out; have := O4.out; have := O5.out; have := O6.out; have := O7.out; have := O8.out; have := O9.out; have := O10.out; have := O11.out; have := O12.out; have := O13.out; omega) KI.out.2).mono ?_
 rintro e w8 ⟨ho, ⟨hn, rfl⟩ | ⟨x8, r8, v8, u8, hn, rfl, hown, hkq, hB⟩⟩
 ·have HF : Hid (Out [g] w w8 /\ oB = none) := by
   refine ⟨HO.out.trans ho, ?_⟩
   rw [<- HP.out]
   unfold rbodyP; simp only [N2.out, N3.out, N4.out, N5.out, N6.out, N7.out, hn, Option.bind_some, Option.bind_none]
  clear hn ho
  unfold misfit
  go_wp2_with fail
  exact ⟨rfl, HF.out.1, .inl ⟨HF.out.2, rfl⟩⟩
 have N8 : Hid (anssL r7 = some (x8, r8)) := hn
 replace HB := zH (below_out HB.out ho (by have := O0.out; have := O1.out; have := O2.out; have := O3.out; have := O4.out; have := O5.out; have := O6.out; have := O7.out; have := O8.out; have := O9.out; have := O10.out; have := O11.out; have := O12.out; have := O13.out; omega))
 replace HO := zH (HO.out.trans ho)
 replace VC := zH (VC.out.outX ho (by have := O0.out; have := O1.out; have := O2.out; have := O3.out; have := O4.out; have := O5.out; have := O6.out; have := O7.out; have := O8.out; have := O9.out; have := O10.out; have := O11.out; have := O12.out; have := O13.out; simp <;> omega))
 replace VA := zH (VA.out.outX ho (by have := O0.out; have := O1.out; have := O2.out; have := O3.out; have := O4.out; have := O5.out; have := O6.out; have := O7.out; have := O8.out; have := O9.out; have := O10.out; have := O11.out; have := O12.out; have := O13.out; simp <;> omega))
 clear RW
 have O14 : Hid (V7.heap.size <= w8.heap.size) := ho.size
 have RW : Hid (Blk w8 g 134 #[v8]) := hB
 have KIn : Hid (KcAt w0 (n + 4) v8 r8 /\ SzL r8) := ⟨hkq, KI.out.2.anss hn⟩
 clear KI
 have KI := KIn
 clear KIn hn ho hkq hB
 obtain ⟨pa8, pc8, hu8⟩ := hown.shape
 subst hu8
 have LA : Hid (OwnAS w8 V7.heap.size (.slice pa8 x8.length pc8) x8) := hown
 clear hown
 have cc : w8.cell? ⟨w.heap.size + 1, 6, none⟩ = some (.slice none 0 0) := VA.out.cell 6
 have cf := VA.out.free 6
 go_wp2_with fail
 clear cc cf
 obtain ⟨V8, hV⟩ : ∃ V, V = w8.setCell ⟨w.heap.size + 1, 6, none⟩ (.slice pa8 x8.length pc8) := ⟨_, rfl⟩
 rw [<- hV]
 have hset : Out [w.heap.size + 1] w8 V8 := by rw [hV]; exact out_set _ _ _
 have hVA : Blk V8 (w.heap.size + 1) 44 #[.string x2, .int .i64 x3, .int .i64 x4, .int .i64 x5, .int .i64 x6, .int .i64 x7, .slice pa8 x8.length pc8, .string ⟨#[]⟩] := by rw [hV]; exact VA.out.set 6 _
 replace HB := zH (below_out HB.out hset (by have := O0.out; have := O1.out; have := O2.out; have := O3.out; have := O4.out; have := O5.out; have := O6.out; have := O7.out; have := O8.out; have := O9.out; have := O10.out; have := O11.out; have := O12.out; have := O13.out; have := O14.out; omega))
 replace HO := zH (HO.out.aside hset (by have := O0.out; have := O1.out; have := O2.out; have := O3.out; have := O4.out; have := O5.out; have := O6.out; have := O7.out; have := O8.out; have := O9.out; have := O10.out; have := O11.out; have := O12.out; have := O13.out; have := O14.out; omega))
 replace VC := zH (VC.out.outX hset (by have := O0.out; have := O1.out; have := O2.out; have := O3.out; have := O4.out; have := O5.out; have := O6.out; have := O7.out; have := O8.out; have := O9.out; have := O10.out; have := O11.out; have := O12.out; have := O13.out; have := O14.out; simp <;> omega))
 replace RW := zH (RW.out.outX hset (by have := O0.out; have := O1.out; have := O2.out; have := O3.out; have := O4.out; have := O5.out; have := O6.out; have := O7.out; have := O8.out; have := O9.out; have := O10.out; have := O11.out; have := O12.out; have := O13.out; have := O14.out; simp <;> omega))
 replace LA := zH (LA.out.outX hset (fun z hz => by rw [List.mem_singleton.1 hz]; have := O0.out; have := O1.out; have := O2.out; have := O3.out; have := O4.out; have := O5.out; have := O6.out; have := O7.out; have := O8.out; have := O9.out; have := O10.out; have := O11.out; have := O12.out; have := O13.out; have := O14.out; omega))
 clear VA
 have O15 : Hid (w8.heap.size <= V8.heap.size) := hset.size
 have VA : Hid (Blk V8 (w.heap.size + 1) 44 #[.string x2, .int .i64 x3, .int .i64 x4, .int .i64 x5, .int .i64 x6, .int .i64 x7, .slice pa8 x8.length pc8, .string ⟨#[]⟩]) := hVA
 clear hset hVA hV
 obtain ⟨ea, ec, he⟩ := KI.out.1.shape
 have hRE : Blk V8 g 134 #[.slice ea r8.length ec] := by rw [<- he]; exact RW.out
 refine (end_any V8 g r8.length ec ea r8 rfl hRE).mono ?_
 rintro e w9 ⟨hb, ⟨hn, rfl⟩ | ⟨hnil, hn, rfl⟩⟩
 ·have HF : Hid (Out [g] w w9 /\ oB = none) := by
   refine ⟨HO.out.trans (Out.of_below hb), ?_⟩
   rw [<- HP.out]
   unfold rbodyP; simp only [N2.out, N3.out, N4.out, N5.out, N6.out, N7.out, N8.out, hn, Option.bind_some, Option.bind_none]
  clear hn hb
  unfold misfit
  go_wp2_with fail
  exact ⟨rfl, HF.out.1, .inl ⟨HF.out.2, rfl⟩⟩
 have N9 : Hid (endP r8 = some ()) := hn
 replace HB := zH (HB.out.trans (hb.mono HB.out.size))
 replace HO := zH (HO.out.trans (Out.of_below hb))
 replace VC := zH (VC.out.on hb)
 replace RW := zH (RW.out.on hb)
 replace LA := zH (LA.out.stays hb)
 replace VA := zH (VA.out.on hb)
 have O16 : Hid (V8.heap.size <= w9.heap.size) := hb.size
 clear hn hb hnil hRE he
 have HF : Hid (oB = some ⟨x2, x3, x4, x5, x6, x7, x8, ⟨#[]⟩⟩) := by
  show oB = _
  rw [<- HP.out]
  unfold rbodyP; simp only [N2.out, N3.out, N4.out, N5.out, N6.out, N7.out, N8.out, N9.out, Option.bind_some, Option.bind_none]
 have a0 : w9.cell? ⟨w.heap.size + 1, 0, none⟩ = some (.string x2) := VA.out.cell 0
 have b0 : w9.cell? ⟨w.heap.size, 0, none⟩ = some (.string ⟨#[]⟩) := VC.out.cell 0
 have a1 : w9.cell? ⟨w.heap.size + 1, 1, none⟩ = some (.int .i64 x3) := VA.out.cell 1
 have b1 : w9.cell? ⟨w.heap.size, 1, none⟩ = some (.int .i64 0) := VC.out.cell 1
 have a2 : w9.cell? ⟨w.heap.size + 1, 2, none⟩ = some (.int .i64 x4) := VA.out.cell 2
 have b2 : w9.cell? ⟨w.heap.size, 2, none⟩ = some (.int .i64 0) := VC.out.cell 2
 have a3 : w9.cell? ⟨w.heap.size + 1, 3, none⟩ = some (.int .i64 x5) := VA.out.cell 3
 have b3 : w9.cell? ⟨w.heap.size, 3, none⟩ = some (.int .i64 0) := VC.out.cell 3
 have a4 : w9.cell? ⟨w.heap.size + 1, 4, none⟩ = some (.int .i64 x6) := VA.out.cell 4
 have b4 : w9.cell? ⟨w.heap.size, 4, none⟩ = some (.int .i64 0) := VC.out.cell 4
 have a5 : w9.cell? ⟨w.heap.size + 1, 5, none⟩ = some (.int .i64 x7) := VA.out.cell 5
 have b5 : w9.cell? ⟨w.heap.size, 5, none⟩ = some (.int .i64 0) := VC.out.cell 5
 have a6 : w9.cell? ⟨w.heap.size + 1, 6, none⟩ = some (.slice pa8 x8.length pc8) := VA.out.cell 6
 have b6 : w9.cell? ⟨w.heap.size, 6, none⟩ = some (.slice none 0 0) := VC.out.cell 6
 have a7 : w9.cell? ⟨w.heap.size + 1, 7, none⟩ = some (.string ⟨#[]⟩) := VA.out.cell 7
 have b7 : w9.cell? ⟨w.heap.size, 7, none⟩ = some (.string ⟨#[]⟩) := VC.out.cell 7
 have fb := fun j => VC.out.free j
 go_wp2_with fail
 generalize hV8 : World.setCell _ { block := w.heap.size, off := 7 } _ = V8
 have FIN : Out [w.heap.size] w9 V8 /\ Blk V8 w.heap.size 44 #[.string x2, .int .i64 x3, .int .i64 x4, .int .i64 x5, .int .i64 x6, .int .i64 x7, .slice pa8 x8.length pc8, .string ⟨#[]⟩] := by
  rw [<- hV8]
  refine ⟨?_, ?_⟩
  ·iterate 8 refine Out.setCell ?_ _ _ (by simp)
   exact Out.refl _ _
  ·have h0 := VC.out
   have h1 : Blk _ w.heap.size 44 #[.string x2, .int .i64 0, .int .i64 0, .int .i64 0, .int .i64 0, .int .i64 0, .slice none 0 0, .string ⟨#[]⟩] := h0.set 0 (.string x2)
   have h2 : Blk _ w.heap.size 44 #[.string x2, .int .i64 x3, .int .i64 0, .int .i64 0, .int .i64 0, .int .i64 0, .slice none 0 0, .string ⟨#[]⟩] := h1.set 1 (.int .i64 x3)
   have h3 : Blk _ w.heap.size 44 #[.string x2, .int .i64 x3, .int .i64 x4, .int .i64 0, .int .i64 0, .int .i64 0, .slice none 0 0, .string ⟨#[]⟩] := h2.set 2 (.int .i64 x4)
   have h4 : Blk _ w.heap.size 44 #[.string x2, .int .i64 x3, .int .i64 x4, .int .i64 x5, .int .i64 0, .int .i64 0, .slice none 0 0, .string ⟨#[]⟩] := h3.set 3 (.int .i64 x5)
   have h5 : Blk _ w.heap.size 44 #[.string x2, .int .i64 x3, .int .i64 x4, .int .i64 x5, .int .i64 x6, .int .i64 0, .slice none 0 0, .string ⟨#[]⟩] := h4.set 4 (.int .i64 x6)
   have h6 : Blk _ w.heap.size 44 #[.string x2, .int .i64 x3, .int .i64 x4, .int .i64 x5, .int .i64 x6, .int .i64 x7, .slice none 0 0, .string ⟨#[]⟩] := h5.set 5 (.int .i64 x7)
   have h7 : Blk _ w.heap.size 44 #[.string x2, .int .i64 x3, .int .i64 x4, .int .i64 x5, .int .i64 x6, .int .i64 x7, .slice pa8 x8.length pc8, .string ⟨#[]⟩] := h6.set 6 (.slice pa8 x8.length pc8)
   have h8 : Blk _ w.heap.size 44 #[.string x2, .int .i64 x3, .int .i64 x4, .int .i64 x5, .int .i64 x6, .int .i64 x7, .slice pa8 x8.length pc8, .string ⟨#[]⟩] := h7.set 7 (.string ⟨#[]⟩)
   exact h8
 clear hV8 fb a0 b0 a1 b1 a2 b2 a3 b3 a4 b4 a5 b5 a6 b6 a7 b7
 have HE8 : RbPost w0 w g oB (.returned (.agg #[.string x2, .int .i64 x3, .int .i64 x4, .int .i64 x5, .int .i64 x6, .int .i64 x7, .slice pa8 x8.length pc8, .string ⟨#[]⟩])) V8 := by
  refine ⟨HO.out.aside FIN.1 (by have := O0.out; have := O1.out; have := O2.out; have := O3.out; have := O4.out; have := O5.out; have := O6.out; have := O7.out; have := O8.out; have := O9.out; have := O10.out; have := O11.out; have := O12.out; have := O13.out; have := O14.out; have := O15.out; have := O16.out; omega), .inr ⟨⟨x2, x3, x4, x5, x6, x7, x8, ⟨#[]⟩⟩, .agg #[.string x2, .int .i64 x3, .int .i64 x4, .int .i64 x5, .int .i64 x6, .int .i64 x7, .slice pa8 x8.length pc8, .string ⟨#[]⟩], v8, HF.out, rfl, ?_, RW.out.outX FIN.1 (by have := O0.out; have := O1.out; have := O2.out; have := O3.out; have := O4.out; have := O5.out; have := O6.out; have := O7.out; have := O8.out; have := O9.out; have := O10.out; have := O11.out; have := O12.out; have := O13.out; have := O14.out; have := O15.out; have := O16.out; simp <;> omega)⟩⟩
  exact ⟨_, rfl, (LA.out.outX FIN.1 (fun z hz => by rw [List.mem_singleton.1 hz]; have := O0.out; have := O1.out; have := O2.out; have := O3.out; have := O4.out; have := O5.out; have := O6.out; have := O7.out; have := O8.out; have := O9.out; have := O10.out; have := O11.out; have := O12.out; have := O13.out; have := O14.out; have := O15.out; have := O16.out; omega)).base (by have := O0.out; have := O1.out; have := O2.out; have := O3.out; have := O4.out; have := O5.out; have := O6.out; have := O7.out; have := O8.out; have := O9.out; have := O10.out; have := O11.out; have := O12.out; have := O13.out; have := O14.out; have := O15.out; have := O16.out; omega)⟩
 have q0 : V8.cell? ⟨w.heap.size, 0, none⟩ = some (.string x2) := FIN.2.cell 0
 have q1 : V8.cell? ⟨w.heap.size, 1, none⟩ = some (.int .i64 x3) := FIN.2.cell 1
 have q2 : V8.cell? ⟨w.heap.size, 2, none⟩ = some (.int .i64 x4) := FIN.2.cell 2
 have q3 : V8.cell? ⟨w.heap.size, 3, none⟩ = some (.int .i64 x5) := FIN.2.cell 3
 have q4 : V8.cell? ⟨w.heap.size, 4, none⟩ = some (.int .i64 x6) := FIN.2.cell 4
 have q5 : V8.cell? ⟨w.heap.size, 5, none⟩ = some (.int .i64 x7) := FIN.2.cell 5
 have q6 : V8.cell? ⟨w.heap.size, 6, none⟩ = some (.slice pa8 x8.length pc8) := FIN.2.cell 6
 have q7 : V8.cell? ⟨w.heap.size, 7, none⟩ = some (.string ⟨#[]⟩) := FIN.2.cell 7
 refine bodyPost_ret (v := .agg #[.string x2, .int .i64 x3, .int .i64 x4, .int .i64 x5, .int .i64 x6, .int .i64 x7, .slice pa8 x8.length pc8, .string ⟨#[]⟩]) (by simp [results, Try.results104, go_sem, q0, q1, q2, q3, q4, q5, q6, q7]) rfl HE8
theorem set8 {V0 : World} {p : Nat} {ta : TypeId} {a0 a1 a2 a3 a4 a5 a6 a7 z0 z1 z2 z3 z4 z5 z6 z7 : Value} (h : Blk V0 p ta #[a0, a1, a2, a3, a4, a5, a6, a7]) : Blk ((((((((V0.setCell ⟨p, 0, none⟩ z0).setCell ⟨p, 1, none⟩ z1).setCell ⟨p, 2, none⟩ z2).setCell ⟨p, 3, none⟩ z3).setCell ⟨p, 4, none⟩ z4).setCell ⟨p, 5, none⟩ z5).setCell ⟨p, 6, none⟩ z6).setCell ⟨p, 7, none⟩ z7) p ta #[z0, z1, z2, z3, z4, z5, z6, z7] := by
 have g0 : Blk _ p ta #[z0, a1, a2, a3, a4, a5, a6, a7] := h.set 0 z0
 have g1 : Blk _ p ta #[z0, z1, a2, a3, a4, a5, a6, a7] := g0.set 1 z1
 have g2 : Blk _ p ta #[z0, z1, z2, a3, a4, a5, a6, a7] := g1.set 2 z2
 have g3 : Blk _ p ta #[z0, z1, z2, z3, a4, a5, a6, a7] := g2.set 3 z3
 have g4 : Blk _ p ta #[z0, z1, z2, z3, z4, a5, a6, a7] := g3.set 4 z4
 have g5 : Blk _ p ta #[z0, z1, z2, z3, z4, z5, a6, a7] := g4.set 5 z5
 have g6 : Blk _ p ta #[z0, z1, z2, z3, z4, z5, z6, a7] := g5.set 6 z6
 have g7 : Blk _ p ta #[z0, z1, z2, z3, z4, z5, z6, z7] := g6.set 7 z7
 exact g7
theorem reply_any (w0 w : World) (g m : Nat) (v : Value) (ks : List (It (m + 5))) (hw : Below w0.heap.size w0 w) (hk : KcAt w0 (m + 5) v ks) (hr : Blk w g 134 #[v]) (hg : w0.heap.size <= g) (hz : SzL ks) :
  Calls Try.prog 69 #[.pointer (some ⟨g, 0, none⟩)] w fun e W' => RbPost w0 w g (repK ks) e W' := by
 obtain ⟨oB, hoB⟩ := zE (repK ks)
 have HP : Hid (repK ks = oB) := hoB
 rw [hoB]
 clear hoB
 have KW : Hid (KcAt w0 (m + 5) v ks /\ SzL ks) := ⟨hk, hz⟩
 have O0 : Hid (w0.heap.size <= g /\ g < w.heap.size /\ w0.heap.size <= w.heap.size) := ⟨hg, hr.lt, hw.size⟩
 clear hk hz hg
 go_enter Try.func69, Try.ntmps69
 go_wp2_with fail
 obtain ⟨W1, hW1⟩ : ∃ V, V = w.alloc (Obj.cells #[.string ⟨#[]⟩, .int .i64 0, .int .i64 0, .int .i64 0, .int .i64 0, .int .i64 0, .slice none 0 0, .string ⟨#[]⟩] 44) := ⟨_, rfl⟩
 rw [<- hW1]
 have hb1 : Below w.heap.size w W1 := by rw [hW1]; exact (Below.refl _ _).alloc (Nat.le_refl _) _
 have hv1 : Blk W1 w.heap.size 44 #[.string ⟨#[]⟩, .int .i64 0, .int .i64 0, .int .i64 0, .int .i64 0, .int .i64 0, .slice none 0 0, .string ⟨#[]⟩] := by rw [hW1]; exact Blk.new w _ _
 have hs1 : W1.heap.size = w.heap.size + 1 := by rw [hW1]; exact size_alloc _ _
 have HB : Hid (Below w0.heap.size w0 W1) := hw.trans (hb1.mono hw.size)
 have HO : Hid (Out [g] w W1) := Out.of_below hb1
 have VC : Hid (Blk W1 w.heap.size 44 #[.string ⟨#[]⟩, .int .i64 0, .int .i64 0, .int .i64 0, .int .i64 0, .int .i64 0, .slice none 0 0, .string ⟨#[]⟩]) := hv1
 have RW : Hid (Blk W1 g 134 #[v]) := hr.below hb1 hr.lt
 have O1 : Hid (W1.heap.size = w.heap.size + 1) := hs1
 clear hW1 hb1 hv1 hs1 hr hw
 refine (list_any w0 W1 g (m + 4) v ks HB.out KW.out.1 RW.out (by have := O0.out; have := O1.out; omega) KW.out.2.1).mono ?_
 rintro e w2 ⟨ho, ⟨hn, rfl⟩ | ⟨i2, r2, v2, vi2, gi, hn, rfl, hgi, hki, hkr, hB, hBi⟩⟩
 ·have HF : Hid (Out [g] w w2 /\ oB = none) := by
   refine ⟨HO.out.trans ho, ?_⟩
   rw [<- HP.out]
   unfold repK; simp only [hn, Option.bind_some, Option.bind_none]
  clear hn ho
  unfold misfit
  go_wp2_with fail
  exact ⟨rfl, HF.out.1, .inl ⟨HF.out.2, rfl⟩⟩
 have N2 : Hid (lstP ks = some (i2, r2)) := hn
 replace HB := zH (below_out HB.out ho (by have := O0.out; have := O1.out; omega))
 replace HO := zH (HO.out.trans ho)
 replace VC := zH (VC.out.outX ho (by have := O0.out; have := O1.out; simp <;> omega))
 clear RW
 have O2 : Hid (W1.heap.size <= w2.heap.size) := ho.size
 have RW : Hid (Blk w2 g 134 #[v2]) := hB
 have RI : Hid (Blk w2 gi 134 #[vi2]) := hBi
 have O3 : Hid (W1.heap.size <= gi /\ gi < w2.heap.size) := ⟨hgi, hBi.lt⟩
 have KI : Hid (KcAt w0 (m + 4) vi2 i2 /\ SzL i2) := ⟨hki, (KW.out.2.lst hn).1⟩
 have KR : Hid (KcAt w0 (m + 5) v2 r2 /\ SzL r2) := ⟨hkr, (KW.out.2.lst hn).2⟩
 clear hn ho hgi hki hkr hB hBi
 go_wp2_with fail
 refine (replyBody_any w0 w2 gi m vi2 i2 HB.out KI.out.1 RI.out (by have := O0.out; have := O1.out; have := O2.out; have := O3.out; omega) KI.out.2).mono ?_
 rintro e w3 ⟨ho, ⟨hn, rfl⟩ | ⟨c, u3, v3, hn, rfl, hown, hB⟩⟩
 ·have HF : Hid (Out [g] w w3 /\ oB = none) := by
   refine ⟨HO.out.aside ho (by have := O0.out; have := O1.out; have := O2.out; have := O3.out; omega), ?_⟩
   rw [<- HP.out]
   unfold repK; simp only [N2.out, hn, Option.bind_some, Option.bind_none]
  clear hn ho
  unfold misfit
  go_wp2_with fail
  exact ⟨rfl, HF.out.1, .inl ⟨HF.out.2, rfl⟩⟩
 have N3 : Hid (rbodyP i2 = some c) := hn
 replace HB := zH (below_out HB.out ho (by have := O0.out; have := O1.out; have := O2.out; have := O3.out; omega))
 replace HO := zH (HO.out.aside ho (by have := O0.out; have := O1.out; have := O2.out; have := O3.out; omega))
 replace VC := zH (VC.out.outX ho (by have := O0.out; have := O1.out; have := O2.out; have := O3.out; simp <;> omega))
 replace RW := zH (RW.out.outX ho (by have := O0.out; have := O1.out; have := O2.out; have := O3.out; simp <;> omega))
 clear RI
 have O4 : Hid (w2.heap.size <= w3.heap.size) := ho.size
 obtain ⟨pX, qX, hu⟩ := RpAt.shape hown.at
 subst hu
 unfold rpV at hown |-
 have HX : Hid (OwnQT w3 w2.heap.size w3.heap.size (.agg #[.string c.hash, .int .i64 c.nonce, .int .i64 c.time, .int .i64 c.next, .int .i64 c.plan, .int .i64 c.err, .slice pX c.ans.length qX, .string c.sig]) c) := hown.top
 clear hn ho hown hB KI
 go_wp2_with fail
 obtain ⟨V4, hV4⟩ : ∃ V, V = w3.alloc (Obj.cells #[.string c.hash, .int .i64 c.nonce, .int .i64 c.time, .int .i64 c.next, .int .i64 c.plan, .int .i64 c.err, .slice pX c.ans.length qX, .string c.sig] 44) := ⟨_, rfl⟩
 rw [<- hV4]
 have hb4 : Below w3.heap.size w3 V4 := by rw [hV4]; exact (Below.refl _ _).alloc (Nat.le_refl _) _
 have hv4 : Blk V4 w3.heap.size 44 #[.string c.hash, .int .i64 c.nonce, .int .i64 c.time, .int .i64 c.next, .int .i64 c.plan, .int .i64 c.err, .slice pX c.ans.length qX, .string c.sig] := by rw [hV4]; exact Blk.new w3 _ _
 have hs4 : V4.heap.size = w3.heap.size + 1 := by rw [hV4]; exact size_alloc _ _
 replace HB := zH (HB.out.trans (hb4.mono HB.out.size))
 replace HO := zH (HO.out.trans (Out.of_below hb4))
 replace VC := zH (VC.out.on hb4)
 replace RW := zH (RW.out.on hb4)
 replace HX := zH (HX.out.stays hb4)
 have O5 : Hid (w3.heap.size <= V4.heap.size) := hb4.size
 have VA : Hid (Blk V4 w3.heap.size 44 #[.string c.hash, .int .i64 c.nonce, .int .i64 c.time, .int .i64 c.next, .int .i64 c.plan, .int .i64 c.err, .slice pX c.ans.length qX, .string c.sig]) := hv4
 have O6 : Hid (V4.heap.size = w3.heap.size + 1) := hs4
 clear hV4 hb4 hv4 hs4
 refine (rbytes_any w0 V4 g (m + 4) v2 r2 HB.out KR.out.1 RW.out (by have := O0.out; have := O1.out; have := O2.out; have := O3.out; have := O4.out; have := O5.out; have := O6.out; omega) KR.out.2.1).mono ?_
 rintro e w5 ⟨ho, ⟨hn, rfl⟩ | ⟨xs, r5, v5, hn, rfl, hkr, hB⟩⟩
 ·have HF : Hid (Out [g] w w5 /\ oB = none) := by
   refine ⟨HO.out.trans ho, ?_⟩
   rw [<- HP.out]
   unfold repK; simp only [N2.out, N3.out, hn, Option.bind_some, Option.bind_none]
  clear hn ho
  unfold misfit
  go_wp2_with fail
  exact ⟨rfl, HF.out.1, .inl ⟨HF.out.2, rfl⟩⟩
 have N5 : Hid (txtP 4 r2 = some (xs, r5)) := hn
 replace HB := zH (below_out HB.out ho (by have := O0.out; have := O1.out; have := O2.out; have := O3.out; have := O4.out; have := O5.out; have := O6.out; omega))
 replace HO := zH (HO.out.trans ho)
 replace VC := zH (VC.out.outX ho (by have := O0.out; have := O1.out; have := O2.out; have := O3.out; have := O4.out; have := O5.out; have := O6.out; simp <;> omega))
 replace HX := zH (HX.out.outB ho (fun z hz => by rw [List.mem_singleton.1 hz]; have := O0.out; have := O1.out; have := O2.out; have := O3.out; have := O4.out; have := O5.out; have := O6.out; omega))
 replace VA := zH (VA.out.outX ho (by have := O0.out; have := O1.out; have := O2.out; have := O3.out; have := O4.out; have := O5.out; have := O6.out; simp <;> omega))
 clear RW
 have O7 : Hid (V4.heap.size <= w5.heap.size) := ho.size
 have RW : Hid (Blk w5 g 134 #[v5]) := hB
 have KRn : Hid (KcAt w0 (m + 5) v5 r5 /\ SzL r5) := ⟨hkr, KR.out.2.txt hn⟩
 clear KR
 have KR := KRn
 clear KRn hn ho hkr hB
 have cc : w5.cell? ⟨w3.heap.size, 7, none⟩ = some (.string c.sig) := VA.out.cell 7
 have cf := VA.out.free 7
 go_wp2_with fail
 clear cc cf
 obtain ⟨V6, hV6⟩ : ∃ V, V = w5.setCell ⟨w3.heap.size, 7, none⟩ (.string xs) := ⟨_, rfl⟩
 rw [<- hV6]
 have hset : Out [w3.heap.size] w5 V6 := by rw [hV6]; exact out_set _ _ _
 have hVA : Blk V6 w3.heap.size 44 #[.string c.hash, .int .i64 c.nonce, .int .i64 c.time, .int .i64 c.next, .int .i64 c.plan, .int .i64 c.err, .slice pX c.ans.length qX, .string xs] := by rw [hV6]; exact VA.out.set 7 _
 replace HB := zH (below_out HB.out hset (by have := O0.out; have := O1.out; have := O2.out; have := O3.out; have := O4.out; have := O5.out; have := O6.out; have := O7.out; omega))
 replace HO := zH (HO.out.aside hset (by have := O0.out; have := O1.out; have := O2.out; have := O3.out; have := O4.out; have := O5.out; have := O6.out; have := O7.out; omega))
 replace VC := zH (VC.out.outX hset (by have := O0.out; have := O1.out; have := O2.out; have := O3.out; have := O4.out; have := O5.out; have := O6.out; have := O7.out; simp <;> omega))
 replace HX := zH (HX.out.outB hset (fun z hz => by rw [List.mem_singleton.1 hz]; have := O0.out; have := O1.out; have := O2.out; have := O3.out; have := O4.out; have := O5.out; have := O6.out; have := O7.out; omega))
 replace RW := zH (RW.out.outX hset (by have := O0.out; have := O1.out; have := O2.out; have := O3.out; have := O4.out; have := O5.out; have := O6.out; have := O7.out; simp <;> omega))
 clear VA
 have O8 : Hid (w5.heap.size <= V6.heap.size) := hset.size
 have VA : Hid (Blk V6 w3.heap.size 44 #[.string c.hash, .int .i64 c.nonce, .int .i64 c.time, .int .i64 c.next, .int .i64 c.plan, .int .i64 c.err, .slice pX c.ans.length qX, .string xs]) := hVA
 clear hset hVA hV6
 obtain ⟨ea, ec, he⟩ := KR.out.1.shape
 have hRE : Blk V6 g 134 #[.slice ea r5.length ec] := by rw [<- he]; exact RW.out
 refine (end_any V6 g r5.length ec ea r5 rfl hRE).mono ?_
 rintro e w7 ⟨hb, ⟨hn, rfl⟩ | ⟨hnil, hn, rfl⟩⟩
 ·have HF : Hid (Out [g] w w7 /\ oB = none) := by
   refine ⟨HO.out.trans (Out.of_below hb), ?_⟩
   rw [<- HP.out]
   unfold repK; simp only [N2.out, N3.out, N5.out, hn, Option.bind_some, Option.bind_none]
  clear hn hb
  unfold misfit
  go_wp2_with fail
  exact ⟨rfl, HF.out.1, .inl ⟨HF.out.2, rfl⟩⟩
 have N7 : Hid (endP r5 = some ()) := hn
 replace HB := zH (HB.out.trans (hb.mono HB.out.size))
 replace HO := zH (HO.out.trans (Out.of_below hb))
 replace VC := zH (VC.out.on hb)
 replace HX := zH (HX.out.stays hb)
 replace RW := zH (RW.out.on hb)
 replace VA := zH (VA.out.on hb)
 have O9 : Hid (V6.heap.size <= w7.heap.size) := hb.size
 clear hn hb hnil hRE he
 have HF : Hid (oB = some { c with sig := xs }) := by
  show oB = _
  rw [<- HP.out]
  unfold repK; simp only [N2.out, N3.out, N5.out, N7.out, Option.bind_some, Option.bind_none]
 have a0 : w7.cell? ⟨w3.heap.size, 0, none⟩ = some (.string c.hash) := VA.out.cell 0
 have b0 : w7.cell? ⟨w.heap.size, 0, none⟩ = some (.string ⟨#[]⟩) := VC.out.cell 0
 have a1 : w7.cell? ⟨w3.heap.size, 1, none⟩ = some (.int .i64 c.nonce) := VA.out.cell 1
 have b1 : w7.cell? ⟨w.heap.size, 1, none⟩ = some (.int .i64 0) := VC.out.cell 1
 have a2 : w7.cell? ⟨w3.heap.size, 2, none⟩ = some (.int .i64 c.time) := VA.out.cell 2
 have b2 : w7.cell? ⟨w.heap.size, 2, none⟩ = some (.int .i64 0) := VC.out.cell 2
 have a3 : w7.cell? ⟨w3.heap.size, 3, none⟩ = some (.int .i64 c.next) := VA.out.cell 3
 have b3 : w7.cell? ⟨w.heap.size, 3, none⟩ = some (.int .i64 0) := VC.out.cell 3
 have a4 : w7.cell? ⟨w3.heap.size, 4, none⟩ = some (.int .i64 c.plan) := VA.out.cell 4
 have b4 : w7.cell? ⟨w.heap.size, 4, none⟩ = some (.int .i64 0) := VC.out.cell 4
 have a5 : w7.cell? ⟨w3.heap.size, 5, none⟩ = some (.int .i64 c.err) := VA.out.cell 5
 have b5 : w7.cell? ⟨w.heap.size, 5, none⟩ = some (.int .i64 0) := VC.out.cell 5
 have a6 : w7.cell? ⟨w3.heap.size, 6, none⟩ = some (.slice pX c.ans.length qX) := VA.out.cell 6
 have b6 : w7.cell? ⟨w.heap.size, 6, none⟩ = some (.slice none 0 0) := VC.out.cell 6
 have a7 : w7.cell? ⟨w3.heap.size, 7, none⟩ = some (.string xs) := VA.out.cell 7
 have b7 : w7.cell? ⟨w.heap.size, 7, none⟩ = some (.string ⟨#[]⟩) := VC.out.cell 7
 have fb := fun j => VC.out.free j
 go_wp2_with fail
 generalize hV8 : World.setCell _ { block := w.heap.size, off := 7 } _ = V8
 have FIN : Out [w.heap.size] w7 V8 /\ Blk V8 w.heap.size 44 #[.string c.hash, .int .i64 c.nonce, .int .i64 c.time, .int .i64 c.next, .int .i64 c.plan, .int .i64 c.err, .slice pX c.ans.length qX, .string xs] := by
  rw [<- hV8]
  refine ⟨?_, ?_⟩
  ·iterate 8 refine Out.setCell ?_ _ _ (by simp)
   exact Out.refl _ _
  ·exact set8 VC.out
 clear hV8 fb a0 b0 a1 b1 a2 b2 a3 b3 a4 b4 a5 b5 a6 b6 a7 b7
 have HE8 : RbPost w0 w g oB (.returned (.agg #[.string c.hash, .int .i64 c.nonce, .int .i64 c.time, .int .i64 c.next, .int .i64 c.plan, .int .i64 c.err, .slice pX c.ans.length qX, .string xs])) V8 := by
  refine ⟨HO.out.aside FIN.1 (by have := O0.out; have := O1.out; have := O2.out; have := O3.out; have := O4.out; have := O5.out; have := O6.out; have := O7.out; have := O8.out; have := O9.out; omega), .inr ⟨{ c with sig := xs }, .agg #[.string c.hash, .int .i64 c.nonce, .int .i64 c.time, .int .i64 c.next, .int .i64 c.plan, .int .i64 c.err, .slice pX c.ans.length qX, .string xs], v5, HF.out, rfl, ?_, RW.out.outX FIN.1 (by have := O0.out; have := O1.out; have := O2.out; have := O3.out; have := O4.out; have := O5.out; have := O6.out; have := O7.out; have := O8.out; have := O9.out; simp <;> omega)⟩⟩
  have hx := HX.out.outB FIN.1 (fun z hz => by rw [List.mem_singleton.1 hz]; have := O0.out; have := O1.out; have := O2.out; have := O3.out; have := O4.out; have := O5.out; have := O6.out; have := O7.out; have := O8.out; have := O9.out; omega)
  obtain ⟨p9, f9, hv9, h1, -⟩ := hx
  have hv9' : (#[.string c.hash, .int .i64 c.nonce, .int .i64 c.time, .int .i64 c.next, .int .i64 c.plan, .int .i64 c.err, .slice pX c.ans.length qX, .string c.sig] : Array Value) = #[.string c.hash, .int .i64 c.nonce, .int .i64 c.time, .int .i64 c.next, .int .i64 c.plan, .int .i64 c.err, p9, .string c.sig] := by injection hv9
  simp only [Array.mk.injEq, List.cons.injEq, and_true, true_and] at hv9'
  obtain rfl := hv9'
  exact ⟨_, rfl, f9, h1.base (by have := O0.out; have := O1.out; have := O2.out; have := O3.out; have := O4.out; have := O5.out; have := O6.out; have := O7.out; have := O8.out; have := O9.out; omega)⟩
 have q0 : V8.cell? ⟨w.heap.size, 0, none⟩ = some (.string c.hash) := FIN.2.cell 0
 have q1 : V8.cell? ⟨w.heap.size, 1, none⟩ = some (.int .i64 c.nonce) := FIN.2.cell 1
 have q2 : V8.cell? ⟨w.heap.size, 2, none⟩ = some (.int .i64 c.time) := FIN.2.cell 2
 have q3 : V8.cell? ⟨w.heap.size, 3, none⟩ = some (.int .i64 c.next) := FIN.2.cell 3
 have q4 : V8.cell? ⟨w.heap.size, 4, none⟩ = some (.int .i64 c.plan) := FIN.2.cell 4
 have q5 : V8.cell? ⟨w.heap.size, 5, none⟩ = some (.int .i64 c.err) := FIN.2.cell 5
 have q6 : V8.cell? ⟨w.heap.size, 6, none⟩ = some (.slice pX c.ans.length qX) := FIN.2.cell 6
 have q7 : V8.cell? ⟨w.heap.size, 7, none⟩ = some (.string xs) := FIN.2.cell 7
 refine bodyPost_ret (v := .agg #[.string c.hash, .int .i64 c.nonce, .int .i64 c.time, .int .i64 c.next, .int .i64 c.plan, .int .i64 c.err, .slice pX c.ans.length qX, .string xs]) (by simp [results, Try.results69, go_sem, q0, q1, q2, q3, q4, q5, q6, q7]) rfl HE8
end Go.Proofs.Ytbiiihjohbnodaa
namespace Go.Proofs.Ytbiiihjohbnodaa
open Go.RowKit Der
set_option linter.unusedVariables false
def szAt (t : List UInt8) (p : Nat) : Option (Nat × Nat) := sizeL (t.drop p)
def szV (t : List UInt8) (p : Nat) : Value := match szAt t p with
 | none => .tuple #[.int .i64 0, .int .i64 0, .bool false]
 | some (z, c) => .tuple #[.int .i64 (z : Int), .int .i64 ((p + c : Nat) : Int), .bool true]
theorem szV_none {t : List UInt8} {p : Nat} (h : szAt t p = none) : szV t p = .tuple #[.int .i64 0, .int .i64 0, .bool false] := by unfold szV; rw [h]
theorem szV_some {t : List UInt8} {p z c : Nat} (h : szAt t p = some (z, c)) : szV t p = .tuple #[.int .i64 (z : Int), .int .i64 ((p + c : Nat) : Int), .bool true] := by unfold szV; rw [h]
theorem size_any (t : List UInt8) (p : Nat) (w : World) (ht : t.length <= 20000000) (hp : p <= 20000001) : Calls Try.prog 115 #[.string ⟨t.toArray⟩, .int .i64 (p : Int)] w fun e w' => e = .returned (szV t p) /\ w' = w := by
 have hssz : (⟨t.toArray⟩ : ByteArray).size = t.length := by show t.toArray.size = _; simp
 by_cases hlt : p < t.length
 ·have hlti : ¬ (t.length : Int) <= (p : Int) := by omega
  have hlti2 : (p : Int) < (t.length : Int) := by omega
  have hp0 : (0 : Int) <= (p : Int) := by omega
  obtain ⟨b, hbk⟩ := zE (t[p])
  have hgk : ∀ h, (⟨t.toArray⟩ : ByteArray)[p]'h = b := fun h => by rw [<- hbk]; rfl
  have hdr : t.drop p = b :: t.drop (p + 1) := by rw [<- hbk]; exact List.drop_eq_getElem_cons hlt
  have hbl := b.toNat_lt
  have w3' : IntKind.i64.wrap (b.toNat : Int) = (b.toNat : Int) := by rw [IntKind.wrap_i64]; omega
  by_cases h128 : b.toNat < 128
  ·have h128i : (b.toNat : Int) < 128 := by omega
   have w4 : IntKind.i64.wrap ((p : Int) + 1) = ((p + 1 : Nat) : Int) := by rw [IntKind.wrap_i64]; omega
   have HR : Hid (szV t p = .tuple #[.int .i64 (b.toNat : Int), .int .i64 ((p + 1 : Nat) : Int), .bool true]) := szV_some (by unfold szAt; rw [hdr]; simp [sizeL, h128])
   go_enter Try.func115, Try.ntmps115
   go_wp2_with fail
   go_ret3
   exact ⟨by rw [HR.out]; rfl, rfl⟩
  ·have h128i : ¬ (b.toNat : Int) < 128 := by omega
   obtain ⟨k, hk⟩ : ∃ k : Nat, b.toNat - 128 = k := ⟨_, rfl⟩
   have w5 : IntKind.i64.wrap ((b.toNat : Int) - 128) = (k : Int) := by rw [IntKind.wrap_i64]; omega
   have hki : (b.toNat : Int) - 128 = (k : Int) := by omega
   have hrl : (t.drop (p + 1)).length = t.length - p - 1 := by rw [List.length_drop]; omega
   by_cases hk12 : 1 <= k /\ k <= 2
   ·have w6 : IntKind.i64.wrap ((t.length : Int) - (p : Int)) = (t.length : Int) - (p : Int) := by rw [IntKind.wrap_i64]; omega
    have w7 : IntKind.i64.wrap ((t.length : Int) - (p : Int) - 1) = (t.length : Int) - (p : Int) - 1 := by rw [IntKind.wrap_i64]; omega
    by_cases hfit : k <= t.length - p - 1
    ·have hfi : ¬ (t.length : Int) - (p : Int) - 1 < (k : Int) := by omega
     have HR0 : Hid (szAt t p = some (((t.drop (p + 1)).take k).foldl (fun a c => 256 * a + c.toNat) 0, 1 + k)) := by
      show szAt t p = _
      unfold szAt
      rw [hdr]
      unfold sizeL
      simp only
      rw [if_neg h128, hk, if_pos ⟨hk12.1, hk12.2, by rw [hrl]; exact hfit⟩]
     go_enter Try.func115, Try.ntmps115
     go_wp2_with fail
     refine (in_yes (k : Int) 1 2 _ (by omega) (by omega)).mono ?_
     rintro e w' ⟨rfl, rfl⟩
     go_wp2_with fail
     go_loopw [9, 10] (fun sv iv wr => ∃ (i q : Nat), i <= k /\ sv = .int .i64 (q : Int) /\ iv = .int .i64 (i : Int) /\ q < 65536 /\ wr = w /\ Hid (q = valB8 ((t.drop (p + 1)).take i))) (fun _ iv _ => k - (intOf iv).toNat)
     case atStart => exact ⟨0, 0, Nat.zero_le _, rfl, rfl, by omega, rfl, rfl⟩
     case round =>
      obtain ⟨i, q, hi, rfl, rfl, hq, rfl, HQ⟩ := hrel
      by_cases hik : i < k
      ·have hiki : (i : Int) < (k : Int) := by omega
       have hd1 : i < (t.drop (p + 1)).length := by rw [hrl]; omega
       obtain ⟨z, hz⟩ : ∃ z, z = p + 1 + i := ⟨_, rfl⟩
       have hzl : z < t.length := by omega
       obtain ⟨c, hc⟩ := zE (t[z])
       have hgc : ∀ h, (⟨t.toArray⟩ : ByteArray)[z]'h = c := fun h => by rw [<- hc]; rfl
       have hdc : (t.drop (p + 1))[i] = c := by rw [List.getElem_drop, <- hc]; congr 1; exact hz.symm
       have hcl := c.toNat_lt
       have hvt := valB8_take hd1
       rw [hdc, <- HQ.out] at hvt
       have hv := valB8_lt (i + 1) ((t.drop (p + 1)).take (i + 1)) (by rw [List.length_take]; omega)
       have hpw : (256 : Nat) ^ (i + 1) <= 256 ^ 2 := Nat.pow_le_pow_right (by decide) (by omega)
       rw [hvt] at hv
       have hq2 : 256 * q + c.toNat < 65536 := by
        have : (256 : Nat) ^ 2 = 65536 := by decide
        omega
       have HV : Hid (256 * q + c.toNat = valB8 ((t.drop (p + 1)).take (i + 1))) := hvt.symm
       have v1 : IntKind.i64.wrap ((p : Int) + 1) = (p : Int) + 1 := by rw [IntKind.wrap_i64]; omega
       have v2 : IntKind.i64.wrap ((p : Int) + 1 + (i : Int)) = (z : Int) := by rw [IntKind.wrap_i64]; omega
       have v3 : IntKind.i64.wrap (c.toNat : Int) = (c.toNat : Int) := by rw [IntKind.wrap_i64]; omega
       have v4 : (z : Int) < (t.length : Int) := by omega
       have v5 : (0 : Int) <= (z : Int) := by omega
       have v6 : (p : Int) + 1 + (i : Int) = (z : Int) := by omega
       clear hc hdc hvt hv hpw HQ hz
       go_wp2_with fail
       go_roundw
       case rel => exact ⟨i + 1, 256 * q + c.toNat, by omega, by go_num, by go_num, hq2, by trivial, HV.out⟩
       case measure => simp [intOf]; omega
      ·have hiki : ¬ (i : Int) < (k : Int) := by omega
       have hie : i = k := by omega
       subst hie
       have HR : Hid (szV t p = .tuple #[.int .i64 (q : Int), .int .i64 ((p + (1 + i) : Nat) : Int), .bool true]) := szV_some (by rw [HR0.out, HQ.out]; rfl)
       have v1 : IntKind.i64.wrap ((p : Int) + 1) = (p : Int) + 1 := by rw [IntKind.wrap_i64]; omega
       have v2 : IntKind.i64.wrap ((p : Int) + 1 + (i : Int)) = ((p + (1 + i) : Nat) : Int) := by rw [IntKind.wrap_i64]; omega
       obtain ⟨z, hz⟩ : ∃ z : Nat, p + (1 + i) = z := ⟨_, rfl⟩
       rw [hz] at HR v2
       have v6 : (p : Int) + 1 + (i : Int) = (z : Int) := by omega
       clear hz
       go_wp2_with fail
       go_ret3
       exact ⟨by rw [HR.out]; rfl, rfl⟩
    ·have hfi : (t.length : Int) - (p : Int) - 1 < (k : Int) := by omega
     have HR : Hid (szV t p = .tuple #[.int .i64 0, .int .i64 0, .bool false]) := szV_none (by
      unfold szAt
      rw [hdr]
      unfold sizeL
      simp only
      rw [if_neg h128, hk, if_neg (fun h => hfit (by rw [hrl] at h; exact h.2.2))])
     go_enter Try.func115, Try.ntmps115
     go_wp2_with fail
     refine (in_yes (k : Int) 1 2 _ (by omega) (by omega)).mono ?_
     rintro e w' ⟨rfl, rfl⟩
     go_wp2_with fail
     go_ret3
     exact ⟨by rw [HR.out]; rfl, rfl⟩
   ·have HR : Hid (szV t p = .tuple #[.int .i64 0, .int .i64 0, .bool false]) := szV_none (by
     unfold szAt
     rw [hdr]
     unfold sizeL
     simp only
     rw [if_neg h128, hk, if_neg (fun h => hk12 ⟨h.1, h.2.1⟩)])
    go_enter Try.func115, Try.ntmps115
    go_wp2_with fail
    refine (in_no (k : Int) 1 2 _ (by omega)).mono ?_
    rintro e w' ⟨rfl, rfl⟩
    go_wp2_with fail
    go_ret3
    exact ⟨by rw [HR.out]; rfl, rfl⟩
 ·have hlti : (t.length : Int) <= (p : Int) := by omega
  have HR : Hid (szV t p = .tuple #[.int .i64 0, .int .i64 0, .bool false]) := szV_none (by unfold szAt; rw [List.drop_of_length_le (by omega)]; rfl)
  go_enter Try.func115, Try.ntmps115
  go_wp2_with fail
  go_ret3
  exact ⟨by rw [HR.out]; rfl, rfl⟩
theorem own_nil (w : World) (base : Nat) : ∀ n, OwnK w base n (.slice none 0 0) [] []
 | 0 => ⟨⟨none, 0, rfl⟩, rfl⟩
 | _ + 1 => ⟨none, 0, rfl, fun _ => rfl, fun h => absurd h (Nat.lt_irrefl _)⟩
end Go.Proofs.Ytbiiihjohbnodaa
