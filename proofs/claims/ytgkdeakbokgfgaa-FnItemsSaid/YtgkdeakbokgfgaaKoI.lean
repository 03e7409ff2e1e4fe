/-
  The program's SameItem.
-/
import Derived.Test.YtgkdeakbokgfgaaKoQ
namespace Go.Proofs.Ytgkdeakbokgfgaa
open Go.RowKit Der
set_option linter.unusedVariables false

set_option maxHeartbeats 12800000 in
set_option maxRecDepth 100000 in
theorem implSame_any (n m : Nat) (x : It (n + 1)) (y : It (m + 1)) (t s k t' s' k' : Value) (w : World) (h : Pr w ⟨t, s, k, t', s', k'⟩ ⟨n, m, x, y⟩) (hz : szI (n + 1) x ≤ 2000000) : Calls Try.prog 40 #[.agg #[t, s, k], .agg #[t', s', k']] w fun e w' => e = .returned (.bool (sameI (n + 1) (m + 1) x y)) ∧ Below w.heap.size w w' := by
  obtain ⟨e1, e2, ⟨ao, cap, e3, hk⟩, e4, e5, ⟨bo, bap, e6, hk'⟩⟩ := h.parts
  simp only at e1 e2 e3 e4 e5 e6
  obtain ⟨t1, ht1⟩ : ∃ t1, It.tag x = t1 := ⟨_, rfl⟩
  obtain ⟨s1, hs1⟩ : ∃ s1 : ByteArray, (⟨(It.text x).toArray⟩ : ByteArray) = s1 := ⟨_, rfl⟩
  obtain ⟨l1, hl1⟩ : ∃ l1, (It.kids x).length = l1 := ⟨_, rfl⟩
  obtain ⟨t2, ht2⟩ : ∃ t2, It.tag y = t2 := ⟨_, rfl⟩
  obtain ⟨s2, hs2⟩ : ∃ s2 : ByteArray, (⟨(It.text y).toArray⟩ : ByteArray) = s2 := ⟨_, rfl⟩
  obtain ⟨l2, hl2⟩ : ∃ l2, (It.kids y).length = l2 := ⟨_, rfl⟩
  rw [ht1] at e1
  rw [hs1] at e2
  rw [hl1] at e3
  rw [ht2] at e4
  rw [hs2] at e5
  rw [hl2] at e6
  subst e1 e2 e3 e4 e5 e6
  obtain ⟨c0, hc0⟩ : ∃ c0 : Six, c0 = ⟨.int .i64 t1, .string s1, .slice ao l1 cap, .int .i64 t2, .string s2, .slice bo l2 bap⟩ := ⟨_, rfl⟩
  obtain ⟨q0, hq0⟩ : ∃ q0 : Two, q0 = ⟨n, m, x, y⟩ := ⟨_, rfl⟩
  have HP : Hid (Pr w c0 q0 ∧ q0.sz ≤ 2000000 ∧ q0.same = sameI (n + 1) (m + 1) x y) := by
    subst hc0 hq0
    exact ⟨h, hz, rfl⟩
  have hmm := fun (t : TypeId) (w : World) => run_makeMap (P := Try.prog) t w
  obtain ⟨W, hW⟩ : ∃ W, W = (((w.alloc (Obj.cells #[Value.int IntKind.i64 t1, Value.string s1, Value.slice ao l1 cap] 54)).alloc (Obj.cells #[Value.int IntKind.i64 t2, Value.string s2, Value.slice bo l2 bap] 54)).alloc (Obj.cells #[Value.int IntKind.i64 t1, Value.string s1, Value.slice ao l1 cap, Value.int IntKind.i64 t2, Value.string s2, Value.slice bo l2 bap] 82)).alloc (Obj.map #[] 0) := ⟨_, rfl⟩
  have HS : Hid (St w W (.slice (some ⟨w.heap.size + 1 + 1, 0, none⟩) 1 1) (w.heap.size + 1 + 1 + 1) [(c0, q0)] []) := St.start hc0 hW
  clear h hk hk' hz ht1 hs1 hl1 ht2 hs2 hl2 hq0
  go_enter Try.func40, Try.ntmps40
  go_wp2_with fail
  rw [← hW]
  clear hW hc0 hmm
  obtain ⟨mb, hmb⟩ : ∃ mb, w.heap.size + 1 + 1 + 1 = mb := ⟨_, rfl⟩
  rw [hmb] at HS ⊢
  clear hmb
  go_loopg [5] (totL [(c0, q0)]) (fun gk lv wr => ∃ (l c : Nat) (ax : Option Addr), lv = .slice ax l c ∧ Hid (∃ (L : List (Six × Two)) (S : List Six), St w wr (.slice ax l c) mb L S ∧ Inv w c0 q0 L S ∧ totL L ≤ gk ∧ L.length = l ∧ gk ≤ 2000001))
  case atStart => exact ⟨_, _, _, rfl, [(c0, q0)], [], HS.out, Inv.start HP.out.1, Nat.le_refl _, rfl, by show 1 + q0.sz + 0 ≤ 2000001; have := HP.out.2.1; omega⟩
  case round =>
    obtain ⟨l, c, ax, rfl, HR⟩ := hrel
    clear HS
    by_cases hl0 : l = 0
    · subst hl0
      have HE : Hid (sameI (n + 1) (m + 1) x y = true ∧ Below w.heap.size w wr) := by
        obtain ⟨L, S, h1, h2, h3, h4, h5⟩ := HR.out
        have hL : L = [] := List.eq_nil_of_length_eq_zero h4
        subst hL
        exact ⟨by rw [← HP.out.2.2]; exact Inv.done HP.out.1 h2, h1.below⟩
      clear HR
      go_wp2_with fail
      go_ret
      exact ⟨by rw [HE.out.1]; rfl, HE.out.2⟩
    obtain ⟨L, S, p, h1, h2, h3, h4, h5⟩ : ∃ (L : List (Six × Two)) (S : List Six) (p : Six × Two), St w wr (.slice ax l c) mb (L ++ [p]) S ∧ Inv w c0 q0 (L ++ [p]) S ∧ totL (L ++ [p]) ≤ gk ∧ L.length + 1 = l ∧ gk ≤ 2000001 := by
      obtain ⟨L, S, h1, h2, h3, h4, h5⟩ := HR.out
      have hne : L ≠ [] := fun e => by rw [e] at h4; exact hl0 h4.symm
      refine ⟨L.dropLast, S, L.getLast hne, ?_, ?_, ?_, ?_, h5⟩
      · rw [List.dropLast_concat_getLast]; exact h1
      · rw [List.dropLast_concat_getLast]; exact h2
      · rw [List.dropLast_concat_getLast]; exact h3
      · rw [List.length_dropLast]; omega
    clear HR
    obtain ⟨g, cp, hv, hcp, hgl, hgr, k0, k1, k2, k3, k4, k5⟩ := h1.last
    rw [h4] at hv hcp
    injection hv with e1 e2 e3
    subst e1 e3
    obtain ⟨p1, p2, ⟨ax1, cx1, p3, -⟩, p4, p5, ⟨ay1, cy1, p6, -⟩⟩ := (h2.pr p (by simp)).parts
    rw [p1] at k0
    rw [p2] at k1
    rw [p3] at k2
    rw [p4] at k3
    rw [p5] at k4
    rw [p6] at k5
    obtain ⟨N, hN⟩ : ∃ N, L.length = N := ⟨_, rfl⟩
    rw [hN] at k0 k1 k2 k3 k4 k5
    have HK : Hid (St w wr (.slice (some ⟨g, 0, none⟩) l c) mb (L ++ [p]) S ∧ Inv w c0 q0 (L ++ [p]) S ∧ totL (L ++ [p]) ≤ gk ∧ L.length = N ∧ gk ≤ 2000001 ∧ p.1 = ⟨.int .i64 (It.tag p.2.x), .string ⟨(It.text p.2.x).toArray⟩, .slice ax1 (It.kids p.2.x).length cx1, .int .i64 (It.tag p.2.y), .string ⟨(It.text p.2.y).toArray⟩, .slice ay1 (It.kids p.2.y).length cy1⟩) := ⟨h1, h2, h3, hN, h5, by rw [← p1, ← p2, ← p3, ← p4, ← p5, ← p6]⟩
    have hMb : (It.kids p.2.x).length ≤ 2000001 := by
      have e1 : totL (L ++ [p]) = totL L + (1 + p.2.sz) := by unfold totL; simp
      have e2 : p.2.sz = (It.text p.2.x).length + (It.kids p.2.x).length + ((It.kids p.2.x).map (szI p.2.n)).sum := rfl
      omega
    have HM : Hid ((It.kids p.2.x).length ≤ 2000001) := hMb
    clear hMb
    generalize It.tag p.2.x = T1 at *
    generalize It.tag p.2.y = T2 at *
    generalize (⟨(It.text p.2.x).toArray⟩ : ByteArray) = S1 at *
    generalize (⟨(It.text p.2.y).toArray⟩ : ByteArray) = S2 at *
    generalize (It.kids p.2.x).length = M1 at *
    generalize (It.kids p.2.y).length = M2 at *
    have hlN : N + 1 = l := by omega
    have hlb : l ≤ 2000001 := by have := totL_len (L ++ [p]); rw [List.length_append, List.length_singleton] at this; omega
    have hl0i : (0 : Int) < (l : Int) := by omega
    have wl : IntKind.i64.wrap ((l : Int) - 1) = (N : Int) := by rw [IntKind.wrap_i64]; omega
    have hNl : (N : Int) < (l : Int) := by omega
    have hN0 : (0 : Int) ≤ (N : Int) := by omega
    clear h1 h2 h3 h4 h5 p1 p2 p3 p4 p5 p6 hl0 e2
    go_upto_region 4 with fail
    go_cut [7, 8] from 18 to 98 (fun s7 s8 wx => ∃ ga gb : Nat, s7 = .pointer (some ⟨ga, 0, none⟩) ∧ s8 = .pointer (some ⟨gb, 0, none⟩) ∧ Hid (Laid2 wr wx ga gb (.int .i64 T1) (.string S1) (.slice ax1 M1 cx1) (.int .i64 T2) (.string S2) (.slice ay1 M2 cy1)))
    case first =>
      go_region
      · go_wp2_with fail
        go_meet
        exact ⟨_, _, rfl, rfl, two_pos rfl⟩
      · go_wp2_with fail
        go_meet
        exact ⟨_, _, rfl, rfl, two_neg rfl⟩
    case rest =>
      obtain ⟨ga, gb, rfl, rfl, HF⟩ := hcut
      rename World => W4
      clear k0 k1 k2 k3 k4 k5
      obtain ⟨-, ⟨-, -, hga, hgb⟩, ⟨a0, a1, a2⟩, ⟨b0, b1, b2⟩⟩ := HF.out
      have hNc : N ≤ c := by omega
      have hNci : (N : Int) ≤ (c : Int) := by omega
      have HB4 : Hid (Below w.heap.size w W4) := HK.out.1.below.trans (HF.out.1.mono HK.out.1.below.size)
      have HNO : Hid (¬ p.1.head → sameI (n + 1) (m + 1) x y = false) := fun hn => by rw [← HP.out.2.2]; exact HK.out.2.1.stop hn
      by_cases hT : T1 = T2
      rotate_left
      · have HE : Hid (sameI (n + 1) (m + 1) x y = false) := HNO.out fun hh => hT (by rw [HK.out.2.2.2.2.2] at hh; have := hh.1; injection this)
        have q1 : (T1 != T2) = true := by simp [hT]
        have q2 : (T1 == T2) = false := by simp [hT]
        go_wp2_with fail
        go_ret
        exact ⟨by rw [HE.out]; rfl, HB4.out⟩
      by_cases hS : S1 = S2
      rotate_left
      · have HE : Hid (sameI (n + 1) (m + 1) x y = false) := HNO.out fun hh => hS (by rw [HK.out.2.2.2.2.2] at hh; have := hh.2.1; injection this)
        have sS := str_other hS
        subst hT
        go_wp2_with fail
        go_ret
        exact ⟨by rw [HE.out]; rfl, HB4.out⟩
      by_cases hM : M1 = M2
      rotate_left
      · have HE : Hid (sameI (n + 1) (m + 1) x y = false) := HNO.out fun hh => hM (by rw [HK.out.2.2.2.2.2] at hh; exact hh.2.2)
        subst hT hS
        have sS := str_same (rfl : S1 = S1)
        have q1 : ((M1 : Int) != (M2 : Int)) = true := by simp; omega
        have q2 : ((M1 : Int) == (M2 : Int)) = false := by simp; omega
        go_wp2_with fail
        go_ret
        exact ⟨by rw [HE.out]; rfl, HB4.out⟩
      subst hT hS hM
      have HH : Hid (p.1.head) := (by rw [HK.out.2.2.2.2.2]; exact ⟨rfl, rfl, rfl⟩ : p.1.head)
      have sS := str_same (rfl : S1 = S1)
      have E1 : Hid (∀ W, Calls Try.prog 70 #[.slice ax1 M1 cx1] W fun e w' => e = .returned (spotV (spotA (.slice ax1 M1 cx1)) M1) ∧ Below W.heap.size W w') := fun W => spot_call ax1 M1 cx1 W (fun h0 => by
        have h := (HK.out.2.1.pr p (by simp)).adr.1
        rw [HK.out.2.2.2.2.2] at h
        exact h h0) (by have := HM.out; omega)
      have E2 : Hid (∀ W, Calls Try.prog 70 #[.slice ay1 M1 cy1] W fun e w' => e = .returned (spotV (spotA (.slice ay1 M1 cy1)) M1) ∧ Below W.heap.size W w') := fun W => spot_call ay1 M1 cy1 W (fun h0 => by
        have h := (HK.out.2.1.pr p (by simp)).adr.2
        rw [HK.out.2.2.2.2.2] at h
        exact h h0) (by have := HM.out; omega)
      obtain ⟨P1, hP1⟩ : ∃ P1, spotA (.slice ax1 M1 cx1) = P1 := ⟨_, rfl⟩
      obtain ⟨P2, hP2⟩ : ∃ P2, spotA (.slice ay1 M1 cy1) = P2 := ⟨_, rfl⟩
      have HPP : Hid (spotA (.slice ax1 M1 cx1) = P1 ∧ spotA (.slice ay1 M1 cy1) = P2) := ⟨hP1, hP2⟩
      rw [hP1] at E1
      rw [hP2] at E2
      unfold spotV at E1 E2
      clear hP1 hP2
      go_upto_region 8 with fail
      go_cut [9] from 18 to 98 (fun s9 wx => ∃ gc : Nat, s9 = .pointer (some ⟨gc, 0, none⟩) ∧ Hid (Sp4 W4 wx gc P1 P2 M1))
      case first =>
        have a2a : ∀ o, (W4.alloc o).cell? ⟨ga, 2, none⟩ = some (.slice ax1 M1 cx1) := fun o => (((Below.refl W4.heap.size W4).alloc (Nat.le_refl _) o).cell (p := ⟨ga, 2, none⟩) hga).trans a2
        have b2a : ∀ o, (W4.alloc o).cell? ⟨gb, 2, none⟩ = some (.slice ay1 M1 cy1) := fun o => (((Below.refl W4.heap.size W4).alloc (Nat.le_refl _) o).cell (p := ⟨gb, 2, none⟩) hgb).trans b2
        clear HK HP HF HB4 HNO HH HPP a0 a1 b0 b1 sS
        go_region_law (first
          | (have _q := hb6; refine step_call rfl 70 _ _ rfl #[.slice ay1 M1 cy1] rfl (by kernel_rfl) ?_; refine (E2.out _).mono ?_; rintro e w7 ⟨rfl, hb7⟩; (first | (have z7 := four_new hb7; obtain ⟨y0, y1, y2, y3, yf⟩ := z7.cells) | (have z7 := z6.below hb7; obtain ⟨y0, y1, y2, y3, yf⟩ := z7.cells) | skip); dsimp only)
          | (refine step_call rfl 70 _ _ rfl #[.slice ax1 M1 cx1] rfl (by kernel_rfl) ?_; refine (E1.out _).mono ?_; rintro e w6 ⟨rfl, hb6⟩; have hb46 : Below W4.heap.size W4 w6 := (by first | exact below_by (Below.refl _ _).drew hb6 | exact below_by ((Below.refl _ _).drew.alloc (Nat.le_refl _) _) hb6 | exact below_by ((Below.refl _ _).alloc (Nat.le_refl _) _).drew hb6 | exact below_by ((Below.refl _ _).alloc (Nat.le_refl _) _) hb6 | exact hb6); have b26 : w6.cell? ⟨gb, 2, none⟩ = some (.slice ay1 M1 cy1) := (hb46.cell (p := ⟨gb, 2, none⟩) hgb).trans b2; have b26a : ∀ o, (w6.alloc o).cell? ⟨gb, 2, none⟩ = some (.slice ay1 M1 cy1) := fun o => ((hb46.alloc hb46.size o).cell (p := ⟨gb, 2, none⟩) hgb).trans b2; (first | (have z6 : Z4 w6 W4.heap.size := four_drew hb6) | (have z6 : Z4 w6 W4.heap.size := four_new hb6) | skip); dsimp only))
        all_goals (
          go_wp2_with fail
          go_meet
          first
          | exact ⟨_, rfl, sp_last (below_by hb46 hb7)⟩
          | exact ⟨_, rfl, sp_set (below_by hb46 (below_by ((Below.refl _ _).alloc (Nat.le_refl _) _) hb7)) z7 hb46.size⟩
          | exact ⟨_, rfl, sp_set (below_by hb46 hb7) z7 (Nat.le_refl _)⟩)
      case rest =>
        obtain ⟨gc, rfl, HG⟩ := hcut
        rename World => W5
        obtain ⟨hb5, hgc0, hgc1, g0, g1, g2, g3⟩ := HG.out
        have HB5 : Hid (Below wr.heap.size wr W5) := below_by HF.out.1 hb5
        have a25 : W5.cell? ⟨ga, 2, none⟩ = some (.slice ax1 M1 cx1) := (hb5.cell (p := ⟨ga, 2, none⟩) hga).trans a2
        have b25 : W5.cell? ⟨gb, 2, none⟩ = some (.slice ay1 M1 cy1) := (hb5.cell (p := ⟨gb, 2, none⟩) hgb).trans b2
        have HL : Hid (wr.heap.size ≤ ga ∧ wr.heap.size ≤ gb ∧ ga < W5.heap.size ∧ gb < W5.heap.size) := ⟨HF.out.2.1.1, HF.out.2.1.2.1, Nat.lt_of_lt_of_le hga hb5.size, Nat.lt_of_lt_of_le hgb hb5.size⟩
        have hkey : p.1.key = .agg #[.pointer P1, .int .i64 (M1 : Int), .pointer P2, .int .i64 (M1 : Int)] := by
          rw [HK.out.2.2.2.2.2, ← HPP.out.1, ← HPP.out.2]
          rfl
        have hST : St w W5 (.slice (some ⟨g, 0, none⟩) N c) mb L S := by
          have h := (HK.out.1.pop).goes HB5.out
          rw [HK.out.2.2.2.1] at h
          exact h
        obtain ⟨es, clock, hmap, hes, hSe⟩ := hST.keys
        have hok : ∀ e ∈ es.toList, OkS2 W5 e.key := fun e he => by
          obtain ⟨⟨d, hd, hk⟩, _⟩ := hes e he
          rw [hk]
          exact (HK.out.2.1.ok d hd).below hST.below
        have hokp : OkS2 W5 p.1.key := ((HK.out.2.1.pr p (by simp)).ok).below hST.below
        have HT : Hid (totL (L ++ [p]) = totL L + (1 + p.2.sz)) := by show totL (L ++ [p]) = _; unfold totL; simp
        clear hb5 a0 a1 a2 b0 b1 b2 hgc0 HG E1 E2 HNO
        by_cases hseen : ∃ d ∈ S, p.1.key = d.key
        · obtain ⟨d, hd, hdk⟩ := hseen
          obtain ⟨e, he, hek⟩ := hSe d hd
          obtain ⟨l1, e1, l2, hsp, he1, hl1⟩ := first_key (k := p.1.key) es.toList ⟨e, he, hek.trans hdk.symm⟩
          have hlk := look_hit keyed_spots (t := 84) Try.underlying84 hmap hokp he1 hsp (fun z hz => ⟨hok z (by rw [hsp]; exact List.mem_append_left _ hz), hl1 z hz⟩)
          rw [(hes e1 (by rw [hsp]; simp)).2, hkey] at hlk
          have HI : Hid (Inv w c0 q0 L S ∧ St w W5 (.slice (some ⟨g, 0, none⟩) N c) mb L S) := ⟨HK.out.2.1.skip HH.out ⟨d, hd, hdk⟩, hST⟩
          clear hST hmap hes hSe hok hokp hsp he1 hl1 hek hdk
          go_wp2_with fail
          go_roundg (totL L)
          case measure => have := HT.out; have := HK.out.2.2.1; omega
          case rel => exact ⟨N, c, some ⟨g, 0, none⟩, rfl, L, S, HI.out.2.goes ((Below.refl _ _).alloc (Nat.le_refl _) _), HI.out.1, Nat.le_refl _, HK.out.2.2.2.1, by have := HT.out; have := HK.out.2.2.1; have := HK.out.2.2.2.2.1; omega⟩
        · have hlk := look_not keyed_spots (t := 84) Try.underlying84 hmap hokp (fun z hz => ⟨hok z hz, fun hq => hseen (by
            obtain ⟨⟨d, hd, hk⟩, _⟩ := hes z hz
            exact ⟨d, hd, hq.symm.trans hk⟩)⟩) (z := .agg #[]) (by kernel_rfl)
          rw [hkey] at hlk
          obtain ⟨K, hK1, hK2, hK3⟩ := HK.out.2.1.more HH.out
          obtain ⟨W7, hW7⟩ : ∃ W7 : World, W7 = { (W5.alloc (Obj.cells #[] 90)) with heap := (W5.alloc (Obj.cells #[] 90)).heap.setIfInBounds mb (.map (es.push ⟨p.1.key, .agg #[], clock⟩) (clock + 1)) } := ⟨_, rfl⟩
          have hb6 : Below W5.heap.size W5 (W5.alloc (Obj.cells #[] 90)) := (Below.refl _ _).alloc (Nat.le_refl _) _
          have hm6 : IsMap (W5.alloc (Obj.cells #[] 90)) mb es clock := (hb6.block mb (isMap_lt hmap)).trans hmap
          have hput : (Instr.mapUpdate 84 (.map (some mb)) (.agg #[.pointer P1, .int .i64 (M1 : Int), .pointer P2, .int .i64 (M1 : Int)]) (.agg #[])).run Try.prog (W5.alloc (Obj.cells #[] 90)) = .ok () W7 := by
            rw [hW7, ← hkey]
            exact put_new keyed_spots (t := 84) Try.underlying84 hm6 (hokp.below hb6) (fun z hz => ⟨(hok z hz).below hb6, fun hq => hseen (by
              obtain ⟨⟨d, hd, hk⟩, _⟩ := hes z hz
              exact ⟨d, hd, hq.symm.trans hk⟩)⟩) _
          obtain ⟨hS7, hg7⟩ := (hST.goes hb6).seen hm6 hes hSe hW7
          have hs67 := hg7.size
          have hs56 := hb6.size
          have hmne : mb < wr.heap.size := by obtain ⟨es', cl', hm', _⟩ := HK.out.1.keys; exact isMap_lt hm'
          have cellk : ∀ (q j : Nat) (u : Value), q ≠ mb → q < W5.heap.size → W5.cell? ⟨q, j, none⟩ = some u → W7.cell? ⟨q, j, none⟩ = some u := fun q j u hq hl hu => by
            rw [World.cell?_of_block (a := ⟨q, j, none⟩) (hg7.block q (by omega) (fun e => hq (Option.some.inj e))), hb6.cell (p := ⟨q, j, none⟩) hl]
            exact hu
          have a27 := cellk ga 2 _ (by have := HL.out.1; omega) HL.out.2.2.1 a25
          have b27 := cellk gb 2 _ (by have := HL.out.2.1; omega) HL.out.2.2.2 b25
          have g06 : (W5.alloc (Obj.cells #[] 90)).cell? ⟨gc, 0, none⟩ = some (.pointer P1) := (hb6.cell (p := ⟨gc, 0, none⟩) hgc1).trans g0
          have g16 : (W5.alloc (Obj.cells #[] 90)).cell? ⟨gc, 1, none⟩ = some (.int .i64 (M1 : Int)) := (hb6.cell (p := ⟨gc, 1, none⟩) hgc1).trans g1
          have g26 : (W5.alloc (Obj.cells #[] 90)).cell? ⟨gc, 2, none⟩ = some (.pointer P2) := (hb6.cell (p := ⟨gc, 2, none⟩) hgc1).trans g2
          have g36 : (W5.alloc (Obj.cells #[] 90)).cell? ⟨gc, 3, none⟩ = some (.int .i64 (M1 : Int)) := (hb6.cell (p := ⟨gc, 3, none⟩) hgc1).trans g3
          have H7 : Hid (St w W7 (.slice (some ⟨g, 0, none⟩) N c) mb L (S ++ [p.1]) ∧ wr.heap.size ≤ W7.heap.size ∧ ga < W7.heap.size ∧ gb < W7.heap.size ∧ g < wr.heap.size) := ⟨hS7, by have := HB5.out.size; omega, by have := HL.out.2.2.1; omega, by have := HL.out.2.2.2; omega, (World.ownsRow.lt HK.out.1.row g rfl).2⟩
          have HKK : Hid (K.map (·.1) = (List.range M1).map (p.1.kid w) ∧ totL K ≤ p.2.sz ∧ Inv w c0 q0 (L ++ K) (S ++ [p.1]) ∧ Pr w p.1 p.2) := ⟨by have h := hK1; rw [show vlen p.1.k = M1 by rw [HK.out.2.2.2.2.2]; rfl] at h; exact h, hK2, hK3, HK.out.2.1.pr p (by simp)⟩
          clear hST hmap hes hSe hok hokp hseen hK1 hK2 hK3 hS7 hg7 cellk hm6 hb6 a25 b25 hW7 hkey
          have hMi : M1 ≤ 2000001 := HM.out
          go_wp2_with fail
          go_loopw [5, 12, 81] (fun lv iv jv wy => ∃ (i cc : Nat) (ax : Option Addr), i ≤ M1 ∧ jv = .int .i64 (i : Int) ∧ lv = .slice ax (N + i) cc ∧ Hid (St w wy (.slice ax (N + i) cc) mb (L ++ K.take i) (S ++ [p.1]) ∧ (∀ q, (Value.slice ax (N + i) cc).ownBlock = some q → q < wr.heap.size ∨ W7.heap.size ≤ q) ∧ W7.heap.size ≤ wy.heap.size ∧ wy.cell? ⟨ga, 2, none⟩ = some (.slice ax1 M1 cx1) ∧ wy.cell? ⟨gb, 2, none⟩ = some (.slice ay1 M1 cy1))) (fun _ _ jv _ => M1 - (intOf jv).toNat)
          case atStart => exact ⟨0, c, some ⟨g, 0, none⟩, Nat.zero_le _, rfl, rfl, by simpa using H7.out.1, (fun q hq => .inl (by injection hq with hq; subst hq; exact H7.out.2.2.2.2)), Nat.le_refl _, a27, b27⟩
          case round =>
            rename World => wy
            obtain ⟨i, cc, ax, hi, rfl, rfl, HI⟩ := hrel
            by_cases hiM : i < M1
            · obtain ⟨e, heK, hek, hemem⟩ := K_at HKK.out.1 hiM
              obtain ⟨gx, ox, gy, oy, va, vb, hgx, hgy, ⟨x0, x1, x2⟩, y0, y1, y2⟩ := kid_cells HKK.out.2.2.2 HH.out (i := i) (by rw [HK.out.2.2.2.2.2]; exact hiM)
              obtain ⟨p1, p2, ⟨a3, c3, p3, -⟩, p4, p5, ⟨a4, c4, p6, -⟩⟩ := (HKK.out.2.2.1.pr e (List.mem_append_right _ hemem)).parts
              have hE6 : e.1.cells = [.int .i64 (It.tag e.2.x), .string ⟨(It.text e.2.x).toArray⟩, .slice a3 (It.kids e.2.x).length c3, .int .i64 (It.tag e.2.y), .string ⟨(It.text e.2.y).toArray⟩, .slice a4 (It.kids e.2.y).length c4] := by
                unfold Six.cells
                rw [p1, p2, p3, p4, p5, p6]
              rw [hek] at p1 p2 p3 p4 p5 p6
              rw [p1] at x0
              rw [p2] at x1
              rw [p3] at x2
              rw [p4] at y0
              rw [p5] at y1
              rw [p6] at y2
              have hax : ax1 = some ⟨gx, ox, none⟩ := by rw [HK.out.2.2.2.2.2] at va; exact va
              have hay : ay1 = some ⟨gy, oy, none⟩ := by rw [HK.out.2.2.2.2.2] at vb; exact vb
              have hbw := HI.out.1.below
              have x0' := (hbw.cell (p := ⟨gx, ox + i * 3, none⟩) hgx).trans x0
              have x1' := (hbw.cell (p := ⟨gx, ox + i * 3 + 1, none⟩) hgx).trans x1
              have x2' := (hbw.cell (p := ⟨gx, ox + i * 3 + 2, none⟩) hgx).trans x2
              have y0' := (hbw.cell (p := ⟨gy, oy + i * 3, none⟩) hgy).trans y0
              have y1' := (hbw.cell (p := ⟨gy, oy + i * 3 + 1, none⟩) hgy).trans y1
              have y2' := (hbw.cell (p := ⟨gy, oy + i * 3 + 2, none⟩) hgy).trans y2
              have aw := HI.out.2.2.2.1
              have bw := HI.out.2.2.2.2
              clear x0 x1 x2 y0 y1 y2 p1 p2 p3 p4 p5 p6 va vb
              generalize It.tag e.2.x = T3 at *
              generalize It.tag e.2.y = T4 at *
              generalize (⟨(It.text e.2.x).toArray⟩ : ByteArray) = S3 at *
              generalize (⟨(It.text e.2.y).toArray⟩ : ByteArray) = S4 at *
              generalize (It.kids e.2.x).length = m3 at *
              generalize (It.kids e.2.y).length = m4 at *
              have HE : Hid (e.1.cells = [.int .i64 T3, .string S3, .slice a3 m3 c3, .int .i64 T4, .string S4, .slice a4 m4 c4] ∧ K[i]? = some e) := ⟨hE6, heK⟩
              have hlen : (L ++ K.take i).length = N + i := by
                have hl : K.length = M1 := by have := congrArg List.length HKK.out.1; simpa using this
                rw [List.length_append, HK.out.2.2.2.1, List.length_take, hl]; omega
              have HLN : Hid ((L ++ K.take i).length = N + i) := hlen
              have HXB : Hid (Below wy.heap.size wy ((wy.alloc (Obj.cells #[Value.int .i64 T3, Value.string S3, Value.slice a3 m3 c3, Value.int .i64 T4, Value.string S4, Value.slice a4 m4 c4] 82)).drew)) := ((Below.refl _ _).alloc (Nat.le_refl _) _).drew
              have HRO : Hid (((wy.alloc (Obj.cells #[Value.int .i64 T3, Value.string S3, Value.slice a3 m3 c3, Value.int .i64 T4, Value.string S4, Value.slice a4 m4 c4] 82)).drew).ownsRow w.heap.size 82 6 (.slice ax (N + i) cc) (N + i) (rowP (L ++ K.take i))) := by
                have h := own_kept HI.out.1.row HXB.out
                rw [hlen] at h
                exact h
              have HSB : Hid (w.heap.size ≤ ((wy.alloc (Obj.cells #[Value.int .i64 T3, Value.string S3, Value.slice a3 m3 c3, Value.int .i64 T4, Value.string S4, Value.slice a4 m4 c4] 82)).drew).heap.size) := Nat.le_trans hbw.size HXB.out.size
              obtain ⟨i6, hi6, z60, z61, z62⟩ := info_parts infoPair
              have hii : (i : Int) < (M1 : Int) := by omega
              have hi0 : (0 : Int) ≤ (i : Int) := by omega
              have hN2 : N ≤ 2000001 := by omega
              subst hax hay
              clear hE6 heK hek hemem hlen hbw hgx hgy a27 b27 g0 g1 g2 g3 g06 g16 g26 g36 hlk hput
              go_wp2_with fail
              go_region_law (refine step_append_lies _ rfl _ _ 83 rfl w.heap.size 82 i6 (.agg #[.int .i64 0, .string ⟨#[]⟩, .slice none 0 0, .int .i64 0, .string ⟨#[]⟩, .slice none 0 0]) 6 96 Try.underlying83 hi6 z60 z61 z62 rfl (by decide) (.slice ax (N + i) cc) (N + i) (rowP (L ++ K.take i)) rfl HRO.out ⟨wy.heap.size, 0, none⟩ 1 1 [.int .i64 T3, .string S3, .slice a3 m3 c3, .int .i64 T4, .string S4, .slice a4 m4 c4] rfl rfl (news_six wy _ _ _ _ _ _ _) (one6 _ _ _ _ _ _ _ _ _ _) (by decide) (by unfold maxLen; omega) (by omega) HSB.out _ rfl ?_; intro g9 cap9 w9 ho9 hg9 hloc hlt9)
              all_goals
                have H9 : Hid (St w w9 (.slice (some ⟨g9, 0, none⟩) (N + (i + 1)) cap9) mb (L ++ K.take (i + 1)) (S ++ [p.1]) ∧ (∀ q, (Value.slice (some ⟨g9, 0, none⟩) (N + (i + 1)) cap9).ownBlock = some q → q < wr.heap.size ∨ W7.heap.size ≤ q) ∧ W7.heap.size ≤ w9.heap.size ∧ w9.cell? ⟨ga, 2, none⟩ = some (.slice (some ⟨gx, ox, none⟩) M1 cx1) ∧ w9.cell? ⟨gb, 2, none⟩ = some (.slice (some ⟨gy, oy, none⟩) M1 cy1)) := by
                  have hsx := HXB.out.size
                  have h7 := HI.out.2.2.1
                  have hgne : ∀ q, q < W7.heap.size → wr.heap.size ≤ q → some q ≠ (Value.slice ax (N + i) cc).ownBlock := fun q h1 h2 e => by
                    have := HI.out.2.1 q e.symm
                    omega
                  have ca : ∀ (q : Nat) (u : Value), q < W7.heap.size → wr.heap.size ≤ q → wy.cell? ⟨q, 2, none⟩ = some u → w9.cell? ⟨q, 2, none⟩ = some u := fun q u h1 h2 hu => by
                    rw [World.cell?_of_block (a := ⟨q, 2, none⟩) (hg9.block q (by omega) (hgne q h1 h2)), HXB.out.cell (p := ⟨q, 2, none⟩) (by show q < wy.heap.size; omega)]
                    exact hu
                  refine ⟨?_, ?_, by have := hg9.size; omega, ca ga _ H7.out.2.2.1 HL.out.1 HI.out.2.2.2.1, ca gb _ H7.out.2.2.2.1 HL.out.2.1 HI.out.2.2.2.2⟩
                  · rw [take_next HE.out.2, ← List.append_assoc]
                    refine HI.out.1.push HXB.out ?_ hg9
                    rw [HE.out.1, HLN.out]
                    exact ho9
                  · intro q hq
                    injection hq with hq
                    change g9 = q at hq
                    subst hq
                    rcases hloc with h | h
                    · exact HI.out.2.1 g9 h
                    · refine .inr ?_
                      have h2 : wy.heap.size ≤ g9 := by rw [h]; exact hsx
                      omega
                clear ho9 hg9 hloc hlt9
                go_wp2_with fail
                go_roundw
                case rel => exact ⟨i + 1, cap9, some ⟨g9, 0, none⟩, by omega, by go_num, rfl, H9.out⟩
                case measure => simp [intOf]; omega
            · have hii : ¬ (i : Int) < (M1 : Int) := by omega
              have hl : K.length = M1 := by have := congrArg List.length HKK.out.1; simpa using this
              have HQ : Hid (St w wy (.slice ax (N + i) cc) mb (L ++ K) (S ++ [p.1]) ∧ totL (L ++ K) = totL L + totL K ∧ (L ++ K).length = N + i) := by
                refine ⟨?_, by unfold totL; simp, by rw [List.length_append, HK.out.2.2.2.1, hl]; omega⟩
                have h := HI.out.1
                rw [List.take_of_length_le (by omega)] at h
                exact h
              clear HI hl a27 b27 g0 g1 g2 g3 g06 g16 g26 g36 hlk hput
              go_wp2_with fail
              go_roundg (totL (L ++ K))
              case measure => have := HT.out; have := HK.out.2.2.1; have := HQ.out.2.1; have := HKK.out.2.1; omega
              case rel => exact ⟨N + i, cc, ax, rfl, L ++ K, S ++ [p.1], HQ.out.1, HKK.out.2.2.1, Nat.le_refl _, HQ.out.2.2, by have := HT.out; have := HK.out.2.2.1; have := HQ.out.2.1; have := HKK.out.2.1; have := HK.out.2.2.2.2.1; omega⟩
end Go.Proofs.Ytgkdeakbokgfgaa
