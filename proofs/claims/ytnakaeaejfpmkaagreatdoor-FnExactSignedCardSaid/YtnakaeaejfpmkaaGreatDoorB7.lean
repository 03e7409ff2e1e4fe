/-
  Texts of the proof, one behind the other: SnA, ItD, ItE.
-/
import Derived.Laws.AppendOwnNone
import Derived.OwnWalk
import Derived.Laws.OwnMore
import Derived.Deep.RegionHeld3
import Derived.Test.YtnakaeaejfpmkaaGreatDoorB4
import Derived.Test.YtnakaeaejfpmkaaGreatDoorB5
import Derived.Test.YtnakaeaejfpmkaaGreatDoorB6

/-
  The program's ownTexts and ownCert.
-/
namespace Go.Proofs.YtnakaeaejfpmkaaGreatDoor
open Go.RowKit Der
set_option linter.unusedVariables false

set_option maxHeartbeats 3200000 in
set_option maxRecDepth 100000 in
theorem ownTexts_any (v : Value) (l : List ByteArray) (w : World) (hl : l.length ≤ 20000000) (hsz : ∀ s ∈ l, s.size ≤ 1000000000) (h : TxtAt w v l) :
    Calls Tryz.prog 151 #[v] w fun e w' => ∃ u, e = .returned u ∧ OwnT w' w.heap.size u l ∧ Below w.heap.size w w' := by
  obtain ⟨i0, hi, hz0, hz1, hz2⟩ := info_parts info9
  obtain ⟨ao, cap, rfl, hc⟩ := h
  obtain ⟨n, hn⟩ : ∃ n, l.length = n := ⟨_, rfl⟩
  have HC : Hid ((∀ j, j < l.length → ∃ g, ao = some ⟨g, 0, none⟩ ∧ g < w.heap.size ∧ w.cell? ⟨g, j, none⟩ = some (.string (l.getD j ByteArray.empty))) ∧ l.length = n ∧ ∀ s ∈ l, s.size ≤ 1000000000) := ⟨hc, hn, hsz⟩
  rw [hn] at hl ⊢
  clear hc hn hsz
  go_enter Tryz.func151, Tryz.ntmps151
  go_wp2_with fail
  go_loopw [3, 8] (fun lv iv wr => ∃ k : Nat, k ≤ n ∧ iv = .int .i64 k ∧ Hid (OwnT wr w.heap.size lv (l.take k) ∧ Below w.heap.size w wr)) (fun _ iv _ => n - (intOf iv).toNat)
  case atStart => exact ⟨0, Nat.zero_le _, rfl, World.ownsRow_nil _ _ _ _, Below.refl _ _⟩
  case round =>
    obtain ⟨k, hk, rfl, HK⟩ := hrel
    have hlk : (l.take k).length = k := by rw [List.length_take, HC.out.2.1]; omega
    obtain ⟨la, lc, hlv⟩ : ∃ ao cap, u3 = .slice ao (l.take k).length cap := by obtain ⟨ao, cap, h, _⟩ := HK.out.1.at; exact ⟨ao, cap, h⟩
    rw [hlk] at hlv
    subst hlv
    have HLEN : Hid ((l.take k).length = k) := hlk
    clear hlk
    by_cases hlt : k < n
    · have hki : (k : Int) < (n : Int) := by omega
      have hk0 : (0 : Int) ≤ (k : Int) := by omega
      have hj : k < l.length := by rw [HC.out.2.1]; exact hlt
      obtain ⟨g, hao, hg, hcx⟩ := HC.out.1 k hj
      have c1 : wr.cell? ⟨g, k, none⟩ = some (.string (l.getD k ByteArray.empty)) := (HK.out.2.cell (p := ⟨g, k, none⟩) hg).trans hcx
      have hmem : l.getD k ByteArray.empty ∈ l := by rw [List.getD_eq_getElem?_getD, List.getElem?_eq_getElem hj]; exact List.getElem_mem _
      have hxs := HC.out.2.2 _ hmem
      have HN : Hid (l.take (k + 1) = l.take k ++ [l.getD k ByteArray.empty]) := by
        show l.take (k + 1) = _
        rw [← List.take_append_getElem hj]
        simp [List.getD, hj]
      generalize l.getD k ByteArray.empty = x at *
      subst hao
      clear hcx hg hmem
      go_wp2_with fail
      refine (cloneB_any x wr (by omega)).mono ?_
      rintro e w3 ⟨rfl, hb3⟩
      obtain ⟨W4, hW4⟩ : ∃ V, V = w3.alloc (Obj.cells #[.string x] 9) := ⟨_, rfl⟩
      have hb34 : Below wr.heap.size wr W4 := by
        rw [hW4]
        exact hb3.alloc hb3.size _
      have H4 : Hid (OwnT W4 w.heap.size (.slice la k lc) (l.take k) ∧ OwnT W4 w3.heap.size (.slice (some ⟨w3.heap.size, 0, none⟩) 1 1) [x] ∧ Below w.heap.size w W4) := ⟨HK.out.1.stays hb34, by rw [hW4]; exact World.ownsRow_lit w3 #[.string x] 1 (Nat.le_refl _) (by decide) rfl, HK.out.2.trans (hb34.mono HK.out.2.size)⟩
      clear hb3 hb34 HK c1
      go_wp2_with (at_builtin; rw [← hW4]; refine wpList_append_texts2 rfl _ _ 25 rfl w.heap.size i0 Tryz.underlying25 hi hz0 hz1 hz2 (.slice la k lc) (l.take k).length (cellsT (l.take k)) rfl H4.out.1 _ [x] w3.heap.size H4.out.2.1 rfl (by have := HLEN.out; simp only [List.length_singleton]; omega) H4.out.2.2.size ?_)
      intro v9 w9 ho9 hg9
      rw [← hW4] at hg9
      have H9 : Hid (OwnT w9 w.heap.size v9 (l.take (k + 1)) ∧ Below w.heap.size w w9) := by
        have hrl := fun b hb => (World.ownsRow.lt H4.out.1 b hb).1
        refine ⟨?_, H4.out.2.2.grown hg9 H4.out.2.2.size hrl⟩
        rw [HN.out]
        simpa [OwnT, cellsT_append] using ho9
      clear ho9 hg9 H4 hW4
      go_wp2_with fail
      exact ⟨⟨k + 1, by omega, by go_num, H9⟩, by simp [intOf]; omega⟩
    · have hki : ¬ (k : Int) < (n : Int) := by omega
      have HE : Hid (OwnT wr w.heap.size (.slice la k lc) l ∧ Below w.heap.size w wr) := by
        have h := HK.out.1
        rw [List.take_of_length_le (by have := HC.out.2.1; omega)] at h
        exact ⟨h, HK.out.2⟩
      go_wp2_with fail
      go_ret
      exact ⟨_, rfl, HE.out.1, HE.out.2⟩
set_option maxHeartbeats 12800000 in
set_option maxRecDepth 100000 in
theorem ownCert_any (c : Ct) (v : Value) (bs : Nat) (w : World) (hl : wtC c ≤ 1048576) (ha : OwnC w bs v c) :
    Calls Tryz.prog 71 #[v] w fun e w' => ∃ u, e = .returned u ∧ OwnC w' w.heap.size u c ∧ Below w.heap.size w w' := by
  obtain ⟨z1, z2, z3, z4, z5, z6, z7, z8, z9⟩ := wt_parts hl
  obtain ⟨i0, hi, hz0, hz1, hz2⟩ := info_parts info3
  obtain ⟨p, e, d, rfl, h1, h2, h3, h4⟩ := ha
  obtain ⟨pa, pc, hp⟩ : ∃ ao cap, p = .slice ao c.pol.length cap := by obtain ⟨ao, cap, h, _⟩ := h1.at; exact ⟨ao, cap, h⟩
  obtain ⟨ea, ec, he⟩ : ∃ ao cap, e = .slice ao c.per.length cap := by obtain ⟨ao, cap, h, _⟩ := h2.at; exact ⟨ao, cap, h⟩
  obtain ⟨da, dc, hd⟩ : ∃ ao cap, d = .slice ao c.den.length cap := by obtain ⟨ao, cap, h, _⟩ := h3.at; exact ⟨ao, cap, h⟩
  obtain ⟨lp, hlp⟩ : ∃ l, c.pol.length = l := ⟨_, rfl⟩
  obtain ⟨le, hle⟩ : ∃ l, c.per.length = l := ⟨_, rfl⟩
  obtain ⟨ld, hld⟩ : ∃ l, c.den.length = l := ⟨_, rfl⟩
  rw [hlp] at hp
  rw [hle] at he
  rw [hld] at hd
  subst hp he hd
  have HL : Hid ((OwnI w bs (.slice pa lp pc) c.pol ∧ TxtAt w (.slice ea le ec) c.per ∧ TxtAt w (.slice da ld dc) c.den) ∧ (c.pol.length = lp ∧ c.per.length = le ∧ c.den.length = ld) ∧ (c.pol.length ≤ 1048576 ∧ c.per.length ≤ 1048576 ∧ c.den.length ≤ 1048576) ∧ (∀ s ∈ c.per, s.size ≤ 1000000000) ∧ (∀ s ∈ c.den, s.size ≤ 1000000000) ∧ (c.issuer.size ≤ 1048576 ∧ c.subject.size ≤ 1048576 ∧ c.key.size ≤ 1048576 ∧ c.sig.size ≤ 1048576)) := ⟨⟨h1, h2.at, h3.at⟩, ⟨hlp, hle, hld⟩, ⟨z4, z5, z6⟩, fun s hs => Nat.le_trans (z8 s hs) (by decide), fun s hs => Nat.le_trans (z9 s hs) (by decide), z1, z2, z3, z7⟩
  clear h1 h2 h3 h4 hl z1 z2 z3 z4 z5 z6 z7 z8 z9 hlp hle hld
  unfold ctV
  go_enter Tryz.func71, Tryz.ntmps71
  go_wp2_with fail
  obtain ⟨W0, hW0⟩ : ∃ W, W = (w.alloc (Obj.cells #[.int .i64 c.serial, .string c.issuer, .string c.subject, .int .i64 c.frm, .int .i64 c.upto, .string c.key, .bool c.ca, .int .i64 c.pathLen, .int .i64 c.usage, .slice pa lp pc, .slice ea le ec, .slice da ld dc, .string c.sig] 27)).alloc (Obj.cells #[.int .i64 0, .string ⟨#[]⟩, .string ⟨#[]⟩, .int .i64 0, .int .i64 0, .string ⟨#[]⟩, .bool false, .int .i64 0, .int .i64 0, .slice none 0 0, .slice none 0 0, .slice none 0 0, .string ⟨#[]⟩] 27) := ⟨_, rfl⟩
  rw [← hW0]
  have G0 : Hid (Blk W0 w.heap.size 27 #[.int .i64 c.serial, .string c.issuer, .string c.subject, .int .i64 c.frm, .int .i64 c.upto, .string c.key, .bool c.ca, .int .i64 c.pathLen, .int .i64 c.usage, .slice pa lp pc, .slice ea le ec, .slice da ld dc, .string c.sig] ∧ Blk W0 (w.heap.size + 1) 27 #[.int .i64 0, .string ⟨#[]⟩, .string ⟨#[]⟩, .int .i64 0, .int .i64 0, .string ⟨#[]⟩, .bool false, .int .i64 0, .int .i64 0, .slice none 0 0, .slice none 0 0, .slice none 0 0, .string ⟨#[]⟩] ∧ Below w.heap.size w W0 ∧ w.heap.size + 2 ≤ W0.heap.size ∧ (True)) := by
    have e0 : (w.alloc (Obj.cells #[.int .i64 c.serial, .string c.issuer, .string c.subject, .int .i64 c.frm, .int .i64 c.upto, .string c.key, .bool c.ca, .int .i64 c.pathLen, .int .i64 c.usage, .slice pa lp pc, .slice ea le ec, .slice da ld dc, .string c.sig] 27)).heap.size = w.heap.size + 1 := Array.size_push _
    have h := Blk.new (w.alloc (Obj.cells #[.int .i64 c.serial, .string c.issuer, .string c.subject, .int .i64 c.frm, .int .i64 c.upto, .string c.key, .bool c.ca, .int .i64 c.pathLen, .int .i64 c.usage, .slice pa lp pc, .slice ea le ec, .slice da ld dc, .string c.sig] 27)) 27 #[.int .i64 0, .string ⟨#[]⟩, .string ⟨#[]⟩, .int .i64 0, .int .i64 0, .string ⟨#[]⟩, .bool false, .int .i64 0, .int .i64 0, .slice none 0 0, .slice none 0 0, .slice none 0 0, .string ⟨#[]⟩]
    rw [e0] at h
    rw [hW0]
    exact ⟨(Blk.new w _ _).alloc _, h, ((Below.refl _ _).alloc (Nat.le_refl _) _).alloc (by rw [e0]; omega) _, by rw [size_alloc, e0]; omega, trivial⟩
  clear hW0
  have wd1 : w.heap.size ≠ w.heap.size + 1 := by omega
  refine (cloneB_any c.issuer W0 (by have := HL.out.2.2.2.2.2.1; omega)).mono ?_
  rintro r u1 ⟨rfl, hb⟩
  have F1 : Hid (Blk u1 w.heap.size 27 #[.int .i64 c.serial, .string c.issuer, .string c.subject, .int .i64 c.frm, .int .i64 c.upto, .string c.key, .bool c.ca, .int .i64 c.pathLen, .int .i64 c.usage, .slice pa lp pc, .slice ea le ec, .slice da ld dc, .string c.sig] ∧ Blk u1 (w.heap.size + 1) 27 #[.int .i64 0, .string ⟨#[]⟩, .string ⟨#[]⟩, .int .i64 0, .int .i64 0, .string ⟨#[]⟩, .bool false, .int .i64 0, .int .i64 0, .slice none 0 0, .slice none 0 0, .slice none 0 0, .string ⟨#[]⟩] ∧ Below w.heap.size w u1 ∧ w.heap.size + 2 ≤ u1.heap.size ∧ (True)) := ⟨G0.out.1.below hb G0.out.1.lt, G0.out.2.1.below hb G0.out.2.1.lt, G0.out.2.2.1.trans (hb.mono G0.out.2.2.1.size), Nat.le_trans G0.out.2.2.2.1 hb.size, trivial⟩
  clear hb G0
  have dj : u1.cell? ⟨w.heap.size, 1, none⟩ = some (.string c.issuer) := F1.out.1.cell 1
  have fj := fun j => F1.out.1.free j
  have nj : u1.cell? ⟨w.heap.size, 2, none⟩ = some (.string c.subject) := F1.out.1.cell 2
  go_wp2_with fail
  obtain ⟨V2, hV⟩ : ∃ V, V = u1.setCell ⟨w.heap.size, 1, none⟩ (.string c.issuer) := ⟨_, rfl⟩
  rw [← hV]
  have G2 : Hid (Blk V2 w.heap.size 27 #[.int .i64 c.serial, .string c.issuer, .string c.subject, .int .i64 c.frm, .int .i64 c.upto, .string c.key, .bool c.ca, .int .i64 c.pathLen, .int .i64 c.usage, .slice pa lp pc, .slice ea le ec, .slice da ld dc, .string c.sig] ∧ Blk V2 (w.heap.size + 1) 27 #[.int .i64 0, .string ⟨#[]⟩, .string ⟨#[]⟩, .int .i64 0, .int .i64 0, .string ⟨#[]⟩, .bool false, .int .i64 0, .int .i64 0, .slice none 0 0, .slice none 0 0, .slice none 0 0, .string ⟨#[]⟩] ∧ Below w.heap.size w V2 ∧ w.heap.size + 2 ≤ V2.heap.size ∧ (True)) := by
    have hbs : Below w.heap.size u1 V2 := by rw [hV]; exact (Below.refl _ _).setCell (p := ⟨w.heap.size, 1, none⟩) (Nat.le_refl _) _
    have hot : ∀ b, w.heap.size + 1 ≤ b → V2.heap[b]? = u1.heap[b]? := fun b hb => by rw [hV]; exact heap_setCell_other _ _ _ _ (by show b ≠ w.heap.size; omega)
    exact ⟨by rw [hV]; exact F1.out.1.set 1 _, (hot _ (Nat.le_refl _)).trans F1.out.2.1, F1.out.2.2.1.trans hbs, Nat.le_trans F1.out.2.2.2.1 hbs.size, trivial⟩
  clear hV F1 dj fj nj
  refine (cloneB_any c.subject V2 (by have := HL.out.2.2.2.2.2.2.1; omega)).mono ?_
  rintro r u3 ⟨rfl, hb⟩
  have F3 : Hid (Blk u3 w.heap.size 27 #[.int .i64 c.serial, .string c.issuer, .string c.subject, .int .i64 c.frm, .int .i64 c.upto, .string c.key, .bool c.ca, .int .i64 c.pathLen, .int .i64 c.usage, .slice pa lp pc, .slice ea le ec, .slice da ld dc, .string c.sig] ∧ Blk u3 (w.heap.size + 1) 27 #[.int .i64 0, .string ⟨#[]⟩, .string ⟨#[]⟩, .int .i64 0, .int .i64 0, .string ⟨#[]⟩, .bool false, .int .i64 0, .int .i64 0, .slice none 0 0, .slice none 0 0, .slice none 0 0, .string ⟨#[]⟩] ∧ Below w.heap.size w u3 ∧ w.heap.size + 2 ≤ u3.heap.size ∧ (True)) := ⟨G2.out.1.below hb G2.out.1.lt, G2.out.2.1.below hb G2.out.2.1.lt, G2.out.2.2.1.trans (hb.mono G2.out.2.2.1.size), Nat.le_trans G2.out.2.2.2.1 hb.size, trivial⟩
  clear hb G2
  have dj : u3.cell? ⟨w.heap.size, 2, none⟩ = some (.string c.subject) := F3.out.1.cell 2
  have fj := fun j => F3.out.1.free j
  have nj : u3.cell? ⟨w.heap.size, 5, none⟩ = some (.string c.key) := F3.out.1.cell 5
  go_wp2_with fail
  obtain ⟨V4, hV⟩ : ∃ V, V = u3.setCell ⟨w.heap.size, 2, none⟩ (.string c.subject) := ⟨_, rfl⟩
  rw [← hV]
  have G4 : Hid (Blk V4 w.heap.size 27 #[.int .i64 c.serial, .string c.issuer, .string c.subject, .int .i64 c.frm, .int .i64 c.upto, .string c.key, .bool c.ca, .int .i64 c.pathLen, .int .i64 c.usage, .slice pa lp pc, .slice ea le ec, .slice da ld dc, .string c.sig] ∧ Blk V4 (w.heap.size + 1) 27 #[.int .i64 0, .string ⟨#[]⟩, .string ⟨#[]⟩, .int .i64 0, .int .i64 0, .string ⟨#[]⟩, .bool false, .int .i64 0, .int .i64 0, .slice none 0 0, .slice none 0 0, .slice none 0 0, .string ⟨#[]⟩] ∧ Below w.heap.size w V4 ∧ w.heap.size + 2 ≤ V4.heap.size ∧ (True)) := by
    have hbs : Below w.heap.size u3 V4 := by rw [hV]; exact (Below.refl _ _).setCell (p := ⟨w.heap.size, 2, none⟩) (Nat.le_refl _) _
    have hot : ∀ b, w.heap.size + 1 ≤ b → V4.heap[b]? = u3.heap[b]? := fun b hb => by rw [hV]; exact heap_setCell_other _ _ _ _ (by show b ≠ w.heap.size; omega)
    exact ⟨by rw [hV]; exact F3.out.1.set 2 _, (hot _ (Nat.le_refl _)).trans F3.out.2.1, F3.out.2.2.1.trans hbs, Nat.le_trans F3.out.2.2.2.1 hbs.size, trivial⟩
  clear hV F3 dj fj nj
  refine (cloneB_any c.key V4 (by have := HL.out.2.2.2.2.2.2.2.1; omega)).mono ?_
  rintro r u5 ⟨rfl, hb⟩
  have F5 : Hid (Blk u5 w.heap.size 27 #[.int .i64 c.serial, .string c.issuer, .string c.subject, .int .i64 c.frm, .int .i64 c.upto, .string c.key, .bool c.ca, .int .i64 c.pathLen, .int .i64 c.usage, .slice pa lp pc, .slice ea le ec, .slice da ld dc, .string c.sig] ∧ Blk u5 (w.heap.size + 1) 27 #[.int .i64 0, .string ⟨#[]⟩, .string ⟨#[]⟩, .int .i64 0, .int .i64 0, .string ⟨#[]⟩, .bool false, .int .i64 0, .int .i64 0, .slice none 0 0, .slice none 0 0, .slice none 0 0, .string ⟨#[]⟩] ∧ Below w.heap.size w u5 ∧ w.heap.size + 2 ≤ u5.heap.size ∧ (True)) := ⟨G4.out.1.below hb G4.out.1.lt, G4.out.2.1.below hb G4.out.2.1.lt, G4.out.2.2.1.trans (hb.mono G4.out.2.2.1.size), Nat.le_trans G4.out.2.2.2.1 hb.size, trivial⟩
  clear hb G4
  have dj : u5.cell? ⟨w.heap.size, 5, none⟩ = some (.string c.key) := F5.out.1.cell 5
  have fj := fun j => F5.out.1.free j
  have nj : u5.cell? ⟨w.heap.size, 9, none⟩ = some (.slice pa lp pc) := F5.out.1.cell 9
  obtain ⟨V6, hV⟩ : ∃ V, V = u5.setCell ⟨w.heap.size, 5, none⟩ (.string c.key) := ⟨_, rfl⟩
  have GA : Hid (Blk V6 w.heap.size 27 #[.int .i64 c.serial, .string c.issuer, .string c.subject, .int .i64 c.frm, .int .i64 c.upto, .string c.key, .bool c.ca, .int .i64 c.pathLen, .int .i64 c.usage, .slice pa lp pc, .slice ea le ec, .slice da ld dc, .string c.sig] ∧ Blk V6 (w.heap.size + 1) 27 #[.int .i64 0, .string ⟨#[]⟩, .string ⟨#[]⟩, .int .i64 0, .int .i64 0, .string ⟨#[]⟩, .bool false, .int .i64 0, .int .i64 0, .slice none 0 0, .slice none 0 0, .slice none 0 0, .string ⟨#[]⟩] ∧ Below w.heap.size w V6 ∧ w.heap.size + 2 ≤ V6.heap.size ∧ (True)) := by
    have hbs : Below w.heap.size u5 V6 := by rw [hV]; exact (Below.refl _ _).setCell (p := ⟨w.heap.size, 5, none⟩) (Nat.le_refl _) _
    have hot : ∀ b, w.heap.size + 1 ≤ b → V6.heap[b]? = u5.heap[b]? := fun b hb => by rw [hV]; exact heap_setCell_other _ _ _ _ (by show b ≠ w.heap.size; omega)
    exact ⟨by rw [hV]; exact F5.out.1.set 5 _, (hot _ (Nat.le_refl _)).trans F5.out.2.1, F5.out.2.2.1.trans hbs, Nat.le_trans F5.out.2.2.2.1 hbs.size, trivial⟩
  have HSRC : Hid (OwnI V6 bs (.slice pa lp pc) c.pol) := HL.out.1.1.stays GA.out.2.2.1
  go_wp2_with (at_builtin; rw [← hV]; refine wpList_append_ints2 rfl _ _ 24 rfl (w.heap.size + 2) i0 Tryz.underlying24 hi hz0 hz1 hz2 (.slice none 0 0) 0 [] rfl (World.ownsRow_nil _ _ _ _) _ c.pol bs HSRC.out rfl (by have := HL.out.2.2.1.1; omega) GA.out.2.2.2.1 ?_)
  intro v9 w9 ho9 hg9
  try rw [← hV] at hg9
  clear dj fj nj hV F5 HSRC
  have HV9 : Hid ((Blk w9 w.heap.size 27 #[.int .i64 c.serial, .string c.issuer, .string c.subject, .int .i64 c.frm, .int .i64 c.upto, .string c.key, .bool c.ca, .int .i64 c.pathLen, .int .i64 c.usage, .slice pa lp pc, .slice ea le ec, .slice da ld dc, .string c.sig] ∧ Blk w9 (w.heap.size + 1) 27 #[.int .i64 0, .string ⟨#[]⟩, .string ⟨#[]⟩, .int .i64 0, .int .i64 0, .string ⟨#[]⟩, .bool false, .int .i64 0, .int .i64 0, .slice none 0 0, .slice none 0 0, .slice none 0 0, .string ⟨#[]⟩] ∧ Below w.heap.size w w9 ∧ w.heap.size + 2 ≤ w9.heap.size ∧ (True)) ∧ OwnI w9 (w.heap.size + 2) v9 c.pol) := by
    refine ⟨⟨(hg9.block _ GA.out.1.lt (fun e => by cases e)).trans GA.out.1, (hg9.block _ GA.out.2.1.lt (fun e => by cases e)).trans GA.out.2.1, GA.out.2.2.1.grown hg9 GA.out.2.2.1.size (fun b hb => by cases hb), Nat.le_trans GA.out.2.2.2.1 hg9.size, trivial⟩, ?_⟩
    simpa [OwnI] using ho9
  clear ho9 hg9 GA
  obtain ⟨qp, mp, hq9⟩ : ∃ ao cap, v9 = .slice ao c.pol.length cap := by obtain ⟨ao, cap, h, _⟩ := HV9.out.2.at; exact ⟨ao, cap, h⟩
  rw [HL.out.2.1.1] at hq9
  subst hq9
  have F9 : Hid (Blk w9 w.heap.size 27 #[.int .i64 c.serial, .string c.issuer, .string c.subject, .int .i64 c.frm, .int .i64 c.upto, .string c.key, .bool c.ca, .int .i64 c.pathLen, .int .i64 c.usage, .slice pa lp pc, .slice ea le ec, .slice da ld dc, .string c.sig] ∧ Blk w9 (w.heap.size + 1) 27 #[.int .i64 0, .string ⟨#[]⟩, .string ⟨#[]⟩, .int .i64 0, .int .i64 0, .string ⟨#[]⟩, .bool false, .int .i64 0, .int .i64 0, .slice none 0 0, .slice none 0 0, .slice none 0 0, .string ⟨#[]⟩] ∧ Below w.heap.size w w9 ∧ w.heap.size + 2 ≤ w9.heap.size ∧ (OwnI w9 (w.heap.size + 2) (.slice qp lp mp) c.pol)) := ⟨HV9.out.1.1, HV9.out.1.2.1, HV9.out.1.2.2.1, HV9.out.1.2.2.2.1, HV9.out.2⟩
  clear HV9
  have dj : w9.cell? ⟨w.heap.size, 9, none⟩ = some (.slice pa lp pc) := F9.out.1.cell 9
  have fj := fun j => F9.out.1.free j
  have nj : w9.cell? ⟨w.heap.size, 10, none⟩ = some (.slice ea le ec) := F9.out.1.cell 10
  go_wp2_with fail
  obtain ⟨V7, hV⟩ : ∃ V, V = w9.setCell ⟨w.heap.size, 9, none⟩ (.slice qp lp mp) := ⟨_, rfl⟩
  rw [← hV]
  have G7 : Hid (Blk V7 w.heap.size 27 #[.int .i64 c.serial, .string c.issuer, .string c.subject, .int .i64 c.frm, .int .i64 c.upto, .string c.key, .bool c.ca, .int .i64 c.pathLen, .int .i64 c.usage, .slice qp lp mp, .slice ea le ec, .slice da ld dc, .string c.sig] ∧ Blk V7 (w.heap.size + 1) 27 #[.int .i64 0, .string ⟨#[]⟩, .string ⟨#[]⟩, .int .i64 0, .int .i64 0, .string ⟨#[]⟩, .bool false, .int .i64 0, .int .i64 0, .slice none 0 0, .slice none 0 0, .slice none 0 0, .string ⟨#[]⟩] ∧ Below w.heap.size w V7 ∧ w.heap.size + 2 ≤ V7.heap.size ∧ (OwnI V7 (w.heap.size + 2) (.slice qp lp mp) c.pol)) := by
    have hbs : Below w.heap.size w9 V7 := by rw [hV]; exact (Below.refl _ _).setCell (p := ⟨w.heap.size, 9, none⟩) (Nat.le_refl _) _
    have hot : ∀ b, w.heap.size + 1 ≤ b → V7.heap[b]? = w9.heap[b]? := fun b hb => by rw [hV]; exact heap_setCell_other _ _ _ _ (by show b ≠ w.heap.size; omega)
    exact ⟨by rw [hV]; exact F9.out.1.set 9 _, (hot _ (Nat.le_refl _)).trans F9.out.2.1, F9.out.2.2.1.trans hbs, Nat.le_trans F9.out.2.2.2.1 hbs.size, F9.out.2.2.2.2.block (fun b hb => hot b (by omega))⟩
  clear hV F9 dj fj nj
  refine (ownTexts_any (.slice ea le ec) c.per V7 (by have := HL.out.2.2.1; omega) HL.out.2.2.2.1 (HL.out.1.2.1.below G7.out.2.2.1)).mono ?_
  rintro r u8 ⟨ve, rfl, ho, hb⟩
  obtain ⟨qe, me, hqe⟩ : ∃ ao cap, ve = .slice ao c.per.length cap := by obtain ⟨ao, cap, h, _⟩ := ho.at; exact ⟨ao, cap, h⟩
  rw [HL.out.2.1.2.1] at hqe
  subst hqe
  have F8 : Hid (Blk u8 w.heap.size 27 #[.int .i64 c.serial, .string c.issuer, .string c.subject, .int .i64 c.frm, .int .i64 c.upto, .string c.key, .bool c.ca, .int .i64 c.pathLen, .int .i64 c.usage, .slice qp lp mp, .slice ea le ec, .slice da ld dc, .string c.sig] ∧ Blk u8 (w.heap.size + 1) 27 #[.int .i64 0, .string ⟨#[]⟩, .string ⟨#[]⟩, .int .i64 0, .int .i64 0, .string ⟨#[]⟩, .bool false, .int .i64 0, .int .i64 0, .slice none 0 0, .slice none 0 0, .slice none 0 0, .string ⟨#[]⟩] ∧ Below w.heap.size w u8 ∧ w.heap.size + 2 ≤ u8.heap.size ∧ (OwnI u8 (w.heap.size + 2) (.slice qp lp mp) c.pol ∧ OwnT u8 (w.heap.size + 2) (.slice qe le me) c.per ∧ (Ap (.slice qp lp mp) (.slice qe le me) ∧ Ap (.slice qe le me) (.slice qp lp mp)))) := ⟨G7.out.1.below hb G7.out.1.lt, G7.out.2.1.below hb G7.out.2.1.lt, G7.out.2.2.1.trans (hb.mono G7.out.2.2.1.size), Nat.le_trans G7.out.2.2.2.1 hb.size, ⟨G7.out.2.2.2.2.stays hb, ho.base G7.out.2.2.2.1, rows_apart G7.out.2.2.2.2 ho (Nat.le_refl _)⟩⟩
  clear hb ho G7
  have dj : u8.cell? ⟨w.heap.size, 10, none⟩ = some (.slice ea le ec) := F8.out.1.cell 10
  have fj := fun j => F8.out.1.free j
  have nj : u8.cell? ⟨w.heap.size, 11, none⟩ = some (.slice da ld dc) := F8.out.1.cell 11
  go_wp2_with fail
  obtain ⟨V9, hV⟩ : ∃ V, V = u8.setCell ⟨w.heap.size, 10, none⟩ (.slice qe le me) := ⟨_, rfl⟩
  rw [← hV]
  have G9 : Hid (Blk V9 w.heap.size 27 #[.int .i64 c.serial, .string c.issuer, .string c.subject, .int .i64 c.frm, .int .i64 c.upto, .string c.key, .bool c.ca, .int .i64 c.pathLen, .int .i64 c.usage, .slice qp lp mp, .slice qe le me, .slice da ld dc, .string c.sig] ∧ Blk V9 (w.heap.size + 1) 27 #[.int .i64 0, .string ⟨#[]⟩, .string ⟨#[]⟩, .int .i64 0, .int .i64 0, .string ⟨#[]⟩, .bool false, .int .i64 0, .int .i64 0, .slice none 0 0, .slice none 0 0, .slice none 0 0, .string ⟨#[]⟩] ∧ Below w.heap.size w V9 ∧ w.heap.size + 2 ≤ V9.heap.size ∧ (OwnI V9 (w.heap.size + 2) (.slice qp lp mp) c.pol ∧ OwnT V9 (w.heap.size + 2) (.slice qe le me) c.per ∧ (Ap (.slice qp lp mp) (.slice qe le me) ∧ Ap (.slice qe le me) (.slice qp lp mp)))) := by
    have hbs : Below w.heap.size u8 V9 := by rw [hV]; exact (Below.refl _ _).setCell (p := ⟨w.heap.size, 10, none⟩) (Nat.le_refl _) _
    have hot : ∀ b, w.heap.size + 1 ≤ b → V9.heap[b]? = u8.heap[b]? := fun b hb => by rw [hV]; exact heap_setCell_other _ _ _ _ (by show b ≠ w.heap.size; omega)
    exact ⟨by rw [hV]; exact F8.out.1.set 10 _, (hot _ (Nat.le_refl _)).trans F8.out.2.1, F8.out.2.2.1.trans hbs, Nat.le_trans F8.out.2.2.2.1 hbs.size, ⟨F8.out.2.2.2.2.1.block (fun b hb => hot b (by omega)), F8.out.2.2.2.2.2.1.block (fun b hb => hot b (by omega)), F8.out.2.2.2.2.2.2⟩⟩
  clear hV F8 dj fj nj
  refine (ownTexts_any (.slice da ld dc) c.den V9 (by have := HL.out.2.2.1; omega) HL.out.2.2.2.2.1 (HL.out.1.2.2.below G9.out.2.2.1)).mono ?_
  rintro r u10 ⟨vd, rfl, ho, hb⟩
  obtain ⟨qd, md, hqd⟩ : ∃ ao cap, vd = .slice ao c.den.length cap := by obtain ⟨ao, cap, h, _⟩ := ho.at; exact ⟨ao, cap, h⟩
  rw [HL.out.2.1.2.2] at hqd
  subst hqd
  have F10 : Hid (Blk u10 w.heap.size 27 #[.int .i64 c.serial, .string c.issuer, .string c.subject, .int .i64 c.frm, .int .i64 c.upto, .string c.key, .bool c.ca, .int .i64 c.pathLen, .int .i64 c.usage, .slice qp lp mp, .slice qe le me, .slice da ld dc, .string c.sig] ∧ Blk u10 (w.heap.size + 1) 27 #[.int .i64 0, .string ⟨#[]⟩, .string ⟨#[]⟩, .int .i64 0, .int .i64 0, .string ⟨#[]⟩, .bool false, .int .i64 0, .int .i64 0, .slice none 0 0, .slice none 0 0, .slice none 0 0, .string ⟨#[]⟩] ∧ Below w.heap.size w u10 ∧ w.heap.size + 2 ≤ u10.heap.size ∧ (OwnI u10 (w.heap.size + 2) (.slice qp lp mp) c.pol ∧ OwnT u10 (w.heap.size + 2) (.slice qe le me) c.per ∧ OwnT u10 (w.heap.size + 2) (.slice qd ld md) c.den ∧ (Ap (.slice qp lp mp) (.slice qe le me) ∧ Ap (.slice qe le me) (.slice qp lp mp)) ∧ (Ap (.slice qp lp mp) (.slice qd ld md) ∧ Ap (.slice qd ld md) (.slice qp lp mp)) ∧ (Ap (.slice qe le me) (.slice qd ld md) ∧ Ap (.slice qd ld md) (.slice qe le me)))) := ⟨G9.out.1.below hb G9.out.1.lt, G9.out.2.1.below hb G9.out.2.1.lt, G9.out.2.2.1.trans (hb.mono G9.out.2.2.1.size), Nat.le_trans G9.out.2.2.2.1 hb.size, ⟨G9.out.2.2.2.2.1.stays hb, G9.out.2.2.2.2.2.1.stays hb, ho.base G9.out.2.2.2.1, G9.out.2.2.2.2.2.2, rows_apart G9.out.2.2.2.2.1 ho (Nat.le_refl _), rows_apart G9.out.2.2.2.2.2.1 ho (Nat.le_refl _)⟩⟩
  clear hb ho G9
  have dj : u10.cell? ⟨w.heap.size, 11, none⟩ = some (.slice da ld dc) := F10.out.1.cell 11
  have fj := fun j => F10.out.1.free j
  have nj : u10.cell? ⟨w.heap.size, 12, none⟩ = some (.string c.sig) := F10.out.1.cell 12
  go_wp2_with fail
  obtain ⟨V11, hV⟩ : ∃ V, V = u10.setCell ⟨w.heap.size, 11, none⟩ (.slice qd ld md) := ⟨_, rfl⟩
  rw [← hV]
  have G11 : Hid (Blk V11 w.heap.size 27 #[.int .i64 c.serial, .string c.issuer, .string c.subject, .int .i64 c.frm, .int .i64 c.upto, .string c.key, .bool c.ca, .int .i64 c.pathLen, .int .i64 c.usage, .slice qp lp mp, .slice qe le me, .slice qd ld md, .string c.sig] ∧ Blk V11 (w.heap.size + 1) 27 #[.int .i64 0, .string ⟨#[]⟩, .string ⟨#[]⟩, .int .i64 0, .int .i64 0, .string ⟨#[]⟩, .bool false, .int .i64 0, .int .i64 0, .slice none 0 0, .slice none 0 0, .slice none 0 0, .string ⟨#[]⟩] ∧ Below w.heap.size w V11 ∧ w.heap.size + 2 ≤ V11.heap.size ∧ (OwnI V11 (w.heap.size + 2) (.slice qp lp mp) c.pol ∧ OwnT V11 (w.heap.size + 2) (.slice qe le me) c.per ∧ OwnT V11 (w.heap.size + 2) (.slice qd ld md) c.den ∧ (Ap (.slice qp lp mp) (.slice qe le me) ∧ Ap (.slice qe le me) (.slice qp lp mp)) ∧ (Ap (.slice qp lp mp) (.slice qd ld md) ∧ Ap (.slice qd ld md) (.slice qp lp mp)) ∧ (Ap (.slice qe le me) (.slice qd ld md) ∧ Ap (.slice qd ld md) (.slice qe le me)))) := by
    have hbs : Below w.heap.size u10 V11 := by rw [hV]; exact (Below.refl _ _).setCell (p := ⟨w.heap.size, 11, none⟩) (Nat.le_refl _) _
    have hot : ∀ b, w.heap.size + 1 ≤ b → V11.heap[b]? = u10.heap[b]? := fun b hb => by rw [hV]; exact heap_setCell_other _ _ _ _ (by show b ≠ w.heap.size; omega)
    exact ⟨by rw [hV]; exact F10.out.1.set 11 _, (hot _ (Nat.le_refl _)).trans F10.out.2.1, F10.out.2.2.1.trans hbs, Nat.le_trans F10.out.2.2.2.1 hbs.size, ⟨F10.out.2.2.2.2.1.block (fun b hb => hot b (by omega)), F10.out.2.2.2.2.2.1.block (fun b hb => hot b (by omega)), F10.out.2.2.2.2.2.2.1.block (fun b hb => hot b (by omega)), F10.out.2.2.2.2.2.2.2⟩⟩
  clear hV F10 dj fj nj
  refine (cloneB_any c.sig V11 (by have := HL.out.2.2.2.2.2.2.2.2; omega)).mono ?_
  rintro r u12 ⟨rfl, hb⟩
  have F12 : Hid (Blk u12 w.heap.size 27 #[.int .i64 c.serial, .string c.issuer, .string c.subject, .int .i64 c.frm, .int .i64 c.upto, .string c.key, .bool c.ca, .int .i64 c.pathLen, .int .i64 c.usage, .slice qp lp mp, .slice qe le me, .slice qd ld md, .string c.sig] ∧ Blk u12 (w.heap.size + 1) 27 #[.int .i64 0, .string ⟨#[]⟩, .string ⟨#[]⟩, .int .i64 0, .int .i64 0, .string ⟨#[]⟩, .bool false, .int .i64 0, .int .i64 0, .slice none 0 0, .slice none 0 0, .slice none 0 0, .string ⟨#[]⟩] ∧ Below w.heap.size w u12 ∧ w.heap.size + 2 ≤ u12.heap.size ∧ (OwnI u12 (w.heap.size + 2) (.slice qp lp mp) c.pol ∧ OwnT u12 (w.heap.size + 2) (.slice qe le me) c.per ∧ OwnT u12 (w.heap.size + 2) (.slice qd ld md) c.den ∧ (Ap (.slice qp lp mp) (.slice qe le me) ∧ Ap (.slice qe le me) (.slice qp lp mp)) ∧ (Ap (.slice qp lp mp) (.slice qd ld md) ∧ Ap (.slice qd ld md) (.slice qp lp mp)) ∧ (Ap (.slice qe le me) (.slice qd ld md) ∧ Ap (.slice qd ld md) (.slice qe le me)))) := ⟨G11.out.1.below hb G11.out.1.lt, G11.out.2.1.below hb G11.out.2.1.lt, G11.out.2.2.1.trans (hb.mono G11.out.2.2.1.size), Nat.le_trans G11.out.2.2.2.1 hb.size, ⟨G11.out.2.2.2.2.1.stays hb, G11.out.2.2.2.2.2.1.stays hb, G11.out.2.2.2.2.2.2.1.stays hb, G11.out.2.2.2.2.2.2.2⟩⟩
  clear hb G11
  have a0 : u12.cell? ⟨w.heap.size, 0, none⟩ = some (.int .i64 c.serial) := F12.out.1.cell 0
  have b0 : u12.cell? ⟨w.heap.size + 1, 0, none⟩ = some (.int .i64 0) := F12.out.2.1.cell 0
  have a1 : u12.cell? ⟨w.heap.size, 1, none⟩ = some (.string c.issuer) := F12.out.1.cell 1
  have b1 : u12.cell? ⟨w.heap.size + 1, 1, none⟩ = some (.string ⟨#[]⟩) := F12.out.2.1.cell 1
  have a2 : u12.cell? ⟨w.heap.size, 2, none⟩ = some (.string c.subject) := F12.out.1.cell 2
  have b2 : u12.cell? ⟨w.heap.size + 1, 2, none⟩ = some (.string ⟨#[]⟩) := F12.out.2.1.cell 2
  have a3 : u12.cell? ⟨w.heap.size, 3, none⟩ = some (.int .i64 c.frm) := F12.out.1.cell 3
  have b3 : u12.cell? ⟨w.heap.size + 1, 3, none⟩ = some (.int .i64 0) := F12.out.2.1.cell 3
  have a4 : u12.cell? ⟨w.heap.size, 4, none⟩ = some (.int .i64 c.upto) := F12.out.1.cell 4
  have b4 : u12.cell? ⟨w.heap.size + 1, 4, none⟩ = some (.int .i64 0) := F12.out.2.1.cell 4
  have a5 : u12.cell? ⟨w.heap.size, 5, none⟩ = some (.string c.key) := F12.out.1.cell 5
  have b5 : u12.cell? ⟨w.heap.size + 1, 5, none⟩ = some (.string ⟨#[]⟩) := F12.out.2.1.cell 5
  have a6 : u12.cell? ⟨w.heap.size, 6, none⟩ = some (.bool c.ca) := F12.out.1.cell 6
  have b6 : u12.cell? ⟨w.heap.size + 1, 6, none⟩ = some (.bool false) := F12.out.2.1.cell 6
  have a7 : u12.cell? ⟨w.heap.size, 7, none⟩ = some (.int .i64 c.pathLen) := F12.out.1.cell 7
  have b7 : u12.cell? ⟨w.heap.size + 1, 7, none⟩ = some (.int .i64 0) := F12.out.2.1.cell 7
  have a8 : u12.cell? ⟨w.heap.size, 8, none⟩ = some (.int .i64 c.usage) := F12.out.1.cell 8
  have b8 : u12.cell? ⟨w.heap.size + 1, 8, none⟩ = some (.int .i64 0) := F12.out.2.1.cell 8
  have a9 : u12.cell? ⟨w.heap.size, 9, none⟩ = some (.slice qp lp mp) := F12.out.1.cell 9
  have b9 : u12.cell? ⟨w.heap.size + 1, 9, none⟩ = some (.slice none 0 0) := F12.out.2.1.cell 9
  have a10 : u12.cell? ⟨w.heap.size, 10, none⟩ = some (.slice qe le me) := F12.out.1.cell 10
  have b10 : u12.cell? ⟨w.heap.size + 1, 10, none⟩ = some (.slice none 0 0) := F12.out.2.1.cell 10
  have a11 : u12.cell? ⟨w.heap.size, 11, none⟩ = some (.slice qd ld md) := F12.out.1.cell 11
  have b11 : u12.cell? ⟨w.heap.size + 1, 11, none⟩ = some (.slice none 0 0) := F12.out.2.1.cell 11
  have a12 : u12.cell? ⟨w.heap.size, 12, none⟩ = some (.string c.sig) := F12.out.1.cell 12
  have b12 : u12.cell? ⟨w.heap.size + 1, 12, none⟩ = some (.string ⟨#[]⟩) := F12.out.2.1.cell 12
  have fa := fun j => F12.out.1.free j
  have fb := fun j => F12.out.2.1.free j
  go_wp2_with fail
  refine bodyPost_ret (v := ctV c (.slice qp lp mp) (.slice qe le me) (.slice qd ld md)) (by simp [results, Tryz.results71, go_sem, ctV, b0, b1, b2, b3, b4, b5, b6, b7, b8, b9, b10, b11, b12]) rfl ⟨_, rfl, ⟨_, _, _, rfl, (F12.out.2.2.2.2.1.block ?far).base (by omega), (F12.out.2.2.2.2.2.1.block ?far).base (by omega), (F12.out.2.2.2.2.2.2.1.block ?far).base (by omega), F12.out.2.2.2.2.2.2.2.1, F12.out.2.2.2.2.2.2.2.2.1, F12.out.2.2.2.2.2.2.2.2.2⟩, ?bel⟩
  case far =>
    intro b hb
    iterate 14 rw [heap_setCell_other _ _ _ _ (by first | (show b ≠ w.heap.size; omega) | (show b ≠ w.heap.size + 1; omega))]
  case bel =>
    iterate 14 refine Below.setCell ?_ (by first | (show w.heap.size ≤ w.heap.size; omega) | (show w.heap.size ≤ w.heap.size + 1; omega)) _
    exact F12.out.2.2.1
end Go.Proofs.YtnakaeaejfpmkaaGreatDoor

/-
  Items that a call owns: each row of kids in a block of its own; the laws' toItem, toItemS.
-/
namespace Go.Proofs.YtnakaeaejfpmkaaGreatDoor
open Go.RowKit Der
set_option linter.unusedVariables false

/-- A block of cells, told by a function. -/
def RowV (w : World) (b n : Nat) (f : Nat → Value) : Prop := ∃ t, w.heap[b]? = some (.cells ((List.range n).map f).toArray t (0, 0))
def updV (f : Nat → Value) (k : Nat) (v : Value) : Nat → Value := fun j => if j = k then v else f j
theorem RowV.lt {w : World} {b n : Nat} {f : Nat → Value} (h : RowV w b n f) : b < w.heap.size := by
  obtain ⟨t, h⟩ := h
  rcases Nat.lt_or_ge b w.heap.size with h' | h'
  · exact h'
  · rw [Array.getElem?_eq_none h'] at h; cases h
theorem RowV.cell {w : World} {b n : Nat} {f : Nat → Value} (h : RowV w b n f) {j : Nat} (hj : j < n) : w.cell? ⟨b, j, none⟩ = some (f j) := by
  obtain ⟨t, h⟩ := h
  rw [cell_of_row w b j _ t _ h]
  simp [hj]
theorem RowV.free {w : World} {b n : Nat} {f : Nat → Value} (h : RowV w b n f) (j : Nat) : w.frozen? ⟨b, j, none⟩ = false := by
  obtain ⟨t, h⟩ := h
  simp [World.frozen?, h]
theorem RowV.same {w w' : World} {b n : Nat} {f : Nat → Value} (h : RowV w b n f) (e : w'.heap[b]? = w.heap[b]?) : RowV w' b n f := by
  obtain ⟨t, h⟩ := h
  exact ⟨t, e.trans h⟩
theorem map_updV (n : Nat) (f : Nat → Value) (k : Nat) (v : Value) : ((List.range n).map f).toArray.setIfInBounds k v = ((List.range n).map (updV f k v)).toArray := by
  apply Array.ext'
  simp only [Array.toList_setIfInBounds]
  apply List.ext_getElem?
  intro i
  rw [List.getElem?_set]
  simp only [List.length_map, List.length_range, List.getElem?_map]
  by_cases hi : i < n
  · rw [List.getElem?_range hi]
    by_cases hk : k = i
    · subst hk; simp [hi, updV]
    · have : i ≠ k := fun e => hk e.symm
      simp [hk, this, updV]
  · have e : (List.range n)[i]? = none := by simp; omega
    rw [e]
    by_cases hk : k = i
    · subst hk; simp [hi]
    · simp [hk]
theorem RowV.set {w : World} {b n : Nat} {f : Nat → Value} (h : RowV w b n f) (k : Nat) (v : Value) : RowV (w.setCell ⟨b, k, none⟩ v) b n (updV f k v) := by
  obtain ⟨t, h⟩ := h
  exact ⟨t, by rw [heap_setCell_same w b k _ t _ h, map_updV]⟩
/-- A row of kids that a call owns, and the blocks that it takes. -/
def OwnK (w : World) (base : Nat) : (n : Nat) → Value → List (It n) → List Nat → Prop
  | 0, v, _, fp => (∃ ao cap, v = .slice ao 0 cap) ∧ fp = []
  | n + 1, v, ks, fp => ∃ ao cap, v = .slice ao ks.length cap ∧ (ks.length = 0 → fp = []) ∧ (0 < ks.length → ∃ (g o c : Nat) (f : Nat → Value) (fps : List (List Nat)), ao = some ⟨g, o, none⟩ ∧ base ≤ g ∧ RowV w g c f ∧ (o + 3 * ks.length ≤ c ∧ ks.length ≤ cap) ∧ fp = g :: fps.flatten ∧ fp.Nodup ∧ fps.length = ks.length ∧
      ∀ j (hj : j < ks.length) (hj2 : j < fps.length), f (o + j * 3) = .int .i64 (It.tag ks[j]) ∧ f (o + j * 3 + 1) = .string ⟨(It.text ks[j]).toArray⟩ ∧ OwnK w base n (f (o + j * 3 + 2)) (It.kids ks[j]) fps[j])
theorem OwnK.same {w w' : World} {base : Nat} : ∀ {n : Nat} {v : Value} {ks : List (It n)} {fp : List Nat}, OwnK w base n v ks fp → (∀ b ∈ fp, w'.heap[b]? = w.heap[b]?) → OwnK w' base n v ks fp
  | 0, _, _, _, h, _ => h
  | n + 1, v, ks, fp, ⟨ao, cap, hv, h0, h⟩, he => ⟨ao, cap, hv, h0, fun hp => by
      obtain ⟨g, o, c, f, fps, hao, hg, hr, hoc, hfp, hnd, hl, hk⟩ := h hp
      refine ⟨g, o, c, f, fps, hao, hg, hr.same (he g (by rw [hfp]; simp)), hoc, hfp, hnd, hl, fun j hj hj2 => ?_⟩
      obtain ⟨h1, h2, h3⟩ := hk j hj hj2
      exact ⟨h1, h2, OwnK.same h3 fun b hb => he b (by rw [hfp]; exact List.mem_cons_of_mem _ (List.mem_flatten.2 ⟨fps[j], List.getElem_mem hj2, hb⟩))⟩⟩
theorem OwnK.lt {w : World} {base : Nat} : ∀ {n : Nat} {v : Value} {ks : List (It n)} {fp : List Nat}, OwnK w base n v ks fp → ∀ b ∈ fp, base ≤ b ∧ b < w.heap.size
  | 0, _, _, _, ⟨_, h⟩, b, hb => by rw [h] at hb; cases hb
  | n + 1, v, ks, fp, ⟨ao, cap, hv, h0, h⟩, b, hb => by
      by_cases hp : 0 < ks.length
      · obtain ⟨g, o, c, f, fps, hao, hg, hr, hoc, hfp, hnd, hl, hk⟩ := h hp
        rw [hfp] at hb
        rcases List.mem_cons.1 hb with rfl | hb
        · exact ⟨hg, hr.lt⟩
        · obtain ⟨l, hl1, hl2⟩ := List.mem_flatten.1 hb
          obtain ⟨j, hj, rfl⟩ := List.getElem_of_mem hl1
          exact OwnK.lt (hk j (by omega) hj).2.2 b hl2
      · rw [h0 (by omega)] at hb; cases hb
theorem OwnK.below {w w' : World} {base B : Nat} {n : Nat} {v : Value} {ks : List (It n)} {fp : List Nat} (h : OwnK w base n v ks fp) (hb : Below B w w') (hB : ∀ b ∈ fp, b < B) : OwnK w' base n v ks fp :=
  h.same fun b hm => hb.block b (hB b hm)
theorem OwnK.at {w : World} {base : Nat} : ∀ {n : Nat} {v : Value} {ks : List (It n)} {fp : List Nat}, OwnK w base n v ks fp → KidsAt w (ItAt w n) v ks
  | 0, v, ks, fp, ⟨⟨ao, cap, hv⟩, _⟩ => by
      have hk : ks = [] := by
        cases ks with
        | nil => rfl
        | cons x _ => exact (x : Empty).elim
      subst hk
      exact ⟨ao, cap, hv, fun h => absurd h (Nat.lt_irrefl _)⟩
  | n + 1, v, ks, fp, ⟨ao, cap, hv, h0, h⟩ => ⟨ao, cap, hv, fun hp => by
      obtain ⟨g, o, c, f, fps, hao, hg, hr, hoc, hfp, hnd, hl, hk⟩ := h hp
      refine ⟨g, o, hao, hr.lt, fun j hj => ?_⟩
      obtain ⟨h1, h2, h3⟩ := hk j hj (by omega)
      exact ⟨_, _, _, hr.cell (by omega), hr.cell (by omega), hr.cell (by omega), f (o + j * 3 + 2), by rw [h1, h2], OwnK.at h3⟩⟩
end Go.Proofs.YtnakaeaejfpmkaaGreatDoor

/-
  The laws' toItem and toItemS: an item of one's own, like one that came in.
-/
namespace Go.Proofs.YtnakaeaejfpmkaaGreatDoor
open Go.RowKit Der
set_option linter.unusedVariables false

def ToIt (w : World) (n : Nat) (x : It (n + 1)) (e : Ending) (w' : World) : Prop := ∃ k fp, e = .returned (.agg #[.int .i64 (It.tag x), .string ⟨(It.text x).toArray⟩, k]) ∧ OwnK w' w.heap.size n k (It.kids x) fp ∧ Below w.heap.size w w'

theorem OwnK.base {w : World} {B base : Nat} (hB : B ≤ base) : ∀ {n : Nat} {v : Value} {ks : List (It n)} {fp : List Nat}, OwnK w base n v ks fp → OwnK w B n v ks fp
  | 0, _, _, _, h => h
  | n + 1, v, ks, fp, ⟨ao, cap, hv, h0, h⟩ => ⟨ao, cap, hv, h0, fun hp => by
      obtain ⟨g, o, c, f, fps, hao, hg, hr, hoc, hfp, hnd, hl, hk⟩ := h hp
      refine ⟨g, o, c, f, fps, hao, Nat.le_trans hB hg, hr, hoc, hfp, hnd, hl, fun j hj hj2 => ?_⟩
      obtain ⟨h1, h2, h3⟩ := hk j hj hj2
      exact ⟨h1, h2, OwnK.base hB h3⟩⟩
theorem OwnK.shape {w : World} {base n : Nat} {v : Value} {ks : List (It n)} {fp : List Nat} (h : OwnK w base n v ks fp) : ∃ ao cap, v = .slice ao ks.length cap := by
  obtain ⟨ao, cap, hv, _⟩ := h.at
  exact ⟨ao, cap, hv⟩
theorem cell_in {w : World} {b : Nat} {x y z : Value} {t : TypeId} (h : w.heap[b]? = some (.cells #[x, y, z] t (0, 0))) : (w.cell? ⟨b, 0, none⟩ = some x ∧ w.cell? ⟨b, 1, none⟩ = some y ∧ w.cell? ⟨b, 2, none⟩ = some z) ∧ ∀ j, w.frozen? ⟨b, j, none⟩ = false := by
  refine ⟨?_, fun j => by simp [World.frozen?, h]⟩
  simp only [World.cell?, h]
  exact ⟨rfl, rfl, rfl⟩

end Go.Proofs.YtnakaeaejfpmkaaGreatDoor
