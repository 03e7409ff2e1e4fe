/-
  The specification's PadText answers the text filled to whole blocks ('padL').
-/
import Derived.Test.YtoildgknpfehoaaDoorOwnB
import Derived.Deep.Cut
import Derived.Deep.DeepMust
namespace Go.Proofs.YtoildgknpfehoaaDoor
open Go.RowKit

/-- The lowest byte, behind a word. -/
def low8 (x : Nat) : UInt8 := UInt8.ofNat x
/-- The bytes of the length, the highest first. -/
def lenB (n : Nat) : List UInt8 := [UInt8.ofNat (8 * n / 72057594037927936), UInt8.ofNat (8 * n / 281474976710656), UInt8.ofNat (8 * n / 1099511627776), UInt8.ofNat (8 * n / 4294967296), UInt8.ofNat (8 * n / 16777216), UInt8.ofNat (8 * n / 65536), UInt8.ofNat (8 * n / 256), low8 (8 * n)]

set_option maxHeartbeats 800000 in
set_option maxRecDepth 100000 in
theorem specPad_any (s : ByteArray) (w : World) (hs : s.size ≤ 1000000000) : Calls Tryd.prog 52 #[.string s] w fun e w' => e = .returned (.string (padB s)) ∧ Below w.heap.size w w' := by
  have hcv := fun w => run_bytes_of_string (P := Tryd.prog) w 9 46 5 s Tryd.underlying9 Tryd.underlying46 Tryd.underlying5
  have HN := OwnB.new w s hs
  have HB : Below w.heap.size w (w.drew.alloc (.cells (bytesRow s (grownCap w s.size 0 5)) 5 ((bytesRow s (grownCap w s.size 0 5)).size, (bytesRow s (grownCap w s.size 0 5)).size + 1))) := (Below.refl _ _).drew.alloc (Nat.le_refl _) _
  have hlen : s.data.toList.length = s.size := rfl
  have HN' : Hid (OwnB (w.drew.alloc (.cells (bytesRow s (grownCap w s.size 0 5)) 5 ((bytesRow s (grownCap w s.size 0 5)).size, (bytesRow s (grownCap w s.size 0 5)).size + 1))) w.heap.size (.slice (some ⟨w.heap.size, 0, none⟩) s.size (grownCap w s.size 0 5)) s.data.toList ∧ Below w.heap.size w (w.drew.alloc (.cells (bytesRow s (grownCap w s.size 0 5)) 5 ((bytesRow s (grownCap w s.size 0 5)).size, (bytesRow s (grownCap w s.size 0 5)).size + 1)))) := ⟨HN, HB⟩
  clear HN HB hlen
  go_enter Tryd.func52, Tryd.ntmps52
  go_upto_region 2 with fail
  clear hcv
  have HN : Hid (OwnB ((w.alloc (.cells (bytesRow s (grownCap w s.size 0 5)) 5 ((bytesRow s (grownCap w s.size 0 5)).size, (bytesRow s (grownCap w s.size 0 5)).size + 1))).drew) w.heap.size (.slice (some ⟨w.heap.size, 0, none⟩) s.size (grownCap w s.size 0 5)) s.data.toList ∧ Below w.heap.size w ((w.alloc (.cells (bytesRow s (grownCap w s.size 0 5)) 5 ((bytesRow s (grownCap w s.size 0 5)).size, (bytesRow s (grownCap w s.size 0 5)).size + 1))).drew)) := HN'
  clear HN'
  generalize grownCap w s.size 0 5 = C at *
  generalize ((w.alloc (.cells (bytesRow s C) 5 ((bytesRow s C).size, (bytesRow s C).size + 1))).drew) = W1 at *
  obtain ⟨n, hn⟩ : ∃ n, s.size = n := ⟨_, rfl⟩
  have HL : Hid (s.data.toList.length = n) := hn
  rw [hn] at HN
  rw [hn]
  go_wp2_with (at_builtin; go_must (refine step_appC n 128 128 (by decide) HN.out.1 HL.out HN.out.2 (Nat.le_refl _) rfl _ _ rfl rfl rfl (by omega) ?_; intro g1 cap1 w1 H1))
  clear HN
  go_loopw [3] (fun v wr => ∃ (z g cap m : Nat), v = .slice (some ⟨g, 0, none⟩) m cap ∧ Hid (m = n + 1 + z) ∧ z ≤ (64 - (n + 9) % 64) % 64 ∧ Hid (OwnB wr w.heap.size (.slice (some ⟨g, 0, none⟩) m cap) (s.data.toList ++ (128 :: List.replicate z 0)) ∧ Below w.heap.size w wr)) (fun v _ => match v with | .slice _ m _ => n + 100 - m | _ => 0)
  case atStart => exact ⟨0, g1, cap1, n + 1, rfl, rfl, by omega, ⟨H1.out.1, H1.out.2⟩⟩
  case round =>
    clear H1
    obtain ⟨z, g, cap, m, rfl, HM, hz, H⟩ := hrel
    have hm := HM.out
    by_cases hlt : z < (64 - (n + 9) % 64) % 64
    · have hmod : (m : Int) % 64 ≠ 56 := by omega
      have HL2 : Hid ((s.data.toList ++ (128 :: List.replicate z (0 : UInt8))).length = m) := by
        show _ = _
        rw [List.length_append, HL.out, List.length_cons, List.length_replicate]
        omega
      have hml : m ≤ 1000000100 := by omega
      clear hm
      go_wp2_with (at_builtin; go_must (refine step_appC m 0 0 (by decide) H.out.1 HL2.out H.out.2 (Nat.le_refl _) rfl _ _ rfl rfl rfl (by omega) ?_; intro g2 cap2 w2 H2))
      have H3 : Hid (OwnB w2 w.heap.size (.slice (some ⟨g2, 0, none⟩) (m + 1) cap2) (s.data.toList ++ (128 :: List.replicate (z + 1) 0)) ∧ Below w.heap.size w w2) := by
        refine ⟨?_, H2.out.2⟩
        have e : s.data.toList ++ (128 :: List.replicate (z + 1) (0 : UInt8)) = s.data.toList ++ (128 :: List.replicate z 0) ++ [0] := by
          rw [List.append_assoc, List.cons_append, List.replicate_succ']
        rw [e]
        exact H2.out.1
      go_roundw
      case rel => exact ⟨z + 1, g2, cap2, m + 1, rfl, by have := HM.out; show _ = _; omega, by omega, H3⟩
      case measure => have := HM.out; simp; omega
    · have hze : z = (64 - (n + 9) % 64) % 64 := by omega
      have hmod : (m : Int) % 64 = 56 := by omega
      have hml : m ≤ 1000000100 := by omega
      have H0 : Hid (OwnB wr w.heap.size (.slice (some ⟨g, 0, none⟩) m cap) (s.data.toList ++ (128 :: List.replicate ((64 - (n + 9) % 64) % 64) 0) ++ (lenB n).take 0) ∧ Below w.heap.size w wr) := by
        refine ⟨?_, H.out.2⟩
        rw [List.take_zero, List.append_nil, ← hze]
        exact H.out.1
      have HL0 : Hid ((s.data.toList ++ (128 :: List.replicate ((64 - (n + 9) % 64) % 64) (0 : UInt8))).length = m) := by
        show _ = _
        rw [List.length_append, HL.out, List.length_cons, List.length_replicate]
        omega
      clear H hm hze hz hlt HM
      obtain ⟨l0, hl0⟩ : ∃ l, s.data.toList ++ (128 :: List.replicate ((64 - (n + 9) % 64) % 64) (0 : UInt8)) = l := ⟨_, rfl⟩
      rw [hl0] at H0 HL0
      have HL1 : Hid (s.data.toList ++ (128 :: List.replicate ((64 - (n + 9) % 64) % 64) (0 : UInt8)) = l0) := hl0
      clear hl0
      go_wp2_with fail
      go_loopw [3, 5] (fun v iv wr => ∃ (j g cap q : Nat), j ≤ 8 ∧ iv = .int .i64 (7 - (j : Int)) ∧ v = .slice (some ⟨g, 0, none⟩) q cap ∧ Hid (q = m + j) ∧ Hid (OwnB wr w.heap.size (.slice (some ⟨g, 0, none⟩) q cap) (l0 ++ (lenB n).take j) ∧ Below w.heap.size w wr)) (fun _ iv _ => (intOf iv + 1).toNat)
      case atStart => exact ⟨0, g, cap, m, by omega, rfl, rfl, rfl, H0⟩
      case round =>
        clear H0 hmod
        obtain ⟨j, g, cap, q, hj, rfl, rfl, HQ, H⟩ := hrel
        have hql : q ≤ 1000000200 := by have := HQ.out; omega
        have HL2 : Hid ((l0 ++ (lenB n).take j).length = q) := by
          show _ = _
          rw [List.length_append, HL0.out, HQ.out, List.length_take]
          show m + min j 8 = m + j
          omega
        by_cases hlt : j < 8
        · have hc : j = 0 ∨ j = 1 ∨ j = 2 ∨ j = 3 ∨ j = 4 ∨ j = 5 ∨ j = 6 ∨ j = 7 := by omega
          rcases hc with rfl | rfl | rfl | rfl | rfl | rfl | rfl | rfl
          · go_wp2_with (at_builtin; refine step_appC q (UInt8.ofNat (8 * n / 72057594037927936)) _ ?_ H.out.1 HL2.out H.out.2 (Nat.le_refl _) rfl _ _ rfl rfl rfl (by omega) ?_; (rw [UInt8.toNat_ofNat']; omega))
            intro g2 cap2 w2 H2
            go_wp2_with fail
            go_roundw
            case rel => first | exact ⟨1, g2, cap2, q + 1, by omega, by first | go_num | rfl | decide, rfl, by have := HQ.out; show _ = _; omega, H2⟩ | ((repeat apply Exists.intro); exact ⟨⟨1, g2, cap2, q + 1, by omega, by first | go_num | rfl | decide, rfl, by have := HQ.out; show _ = _; omega, H2⟩, rfl⟩)
            case measure => simp [intOf]
          · go_wp2_with (at_builtin; refine step_appC q (UInt8.ofNat (8 * n / 281474976710656)) _ ?_ H.out.1 HL2.out H.out.2 (Nat.le_refl _) rfl _ _ rfl rfl rfl (by omega) ?_; (rw [UInt8.toNat_ofNat']; omega))
            intro g2 cap2 w2 H2
            go_wp2_with fail
            go_roundw
            case rel => first | exact ⟨2, g2, cap2, q + 1, by omega, by first | go_num | rfl | decide, rfl, by have := HQ.out; show _ = _; omega, H2⟩ | ((repeat apply Exists.intro); exact ⟨⟨2, g2, cap2, q + 1, by omega, by first | go_num | rfl | decide, rfl, by have := HQ.out; show _ = _; omega, H2⟩, rfl⟩)
            case measure => simp [intOf]
          · go_wp2_with (at_builtin; refine step_appC q (UInt8.ofNat (8 * n / 1099511627776)) _ ?_ H.out.1 HL2.out H.out.2 (Nat.le_refl _) rfl _ _ rfl rfl rfl (by omega) ?_; (rw [UInt8.toNat_ofNat']; omega))
            intro g2 cap2 w2 H2
            go_wp2_with fail
            go_roundw
            case rel => first | exact ⟨3, g2, cap2, q + 1, by omega, by first | go_num | rfl | decide, rfl, by have := HQ.out; show _ = _; omega, H2⟩ | ((repeat apply Exists.intro); exact ⟨⟨3, g2, cap2, q + 1, by omega, by first | go_num | rfl | decide, rfl, by have := HQ.out; show _ = _; omega, H2⟩, rfl⟩)
            case measure => simp [intOf]
          · go_wp2_with (at_builtin; refine step_appC q (UInt8.ofNat (8 * n / 4294967296)) _ ?_ H.out.1 HL2.out H.out.2 (Nat.le_refl _) rfl _ _ rfl rfl rfl (by omega) ?_; (rw [UInt8.toNat_ofNat']; omega))
            intro g2 cap2 w2 H2
            go_wp2_with fail
            go_roundw
            case rel => first | exact ⟨4, g2, cap2, q + 1, by omega, by first | go_num | rfl | decide, rfl, by have := HQ.out; show _ = _; omega, H2⟩ | ((repeat apply Exists.intro); exact ⟨⟨4, g2, cap2, q + 1, by omega, by first | go_num | rfl | decide, rfl, by have := HQ.out; show _ = _; omega, H2⟩, rfl⟩)
            case measure => simp [intOf]
          · go_wp2_with (at_builtin; refine step_appC q (UInt8.ofNat (8 * n / 16777216)) _ ?_ H.out.1 HL2.out H.out.2 (Nat.le_refl _) rfl _ _ rfl rfl rfl (by omega) ?_; (rw [UInt8.toNat_ofNat']; omega))
            intro g2 cap2 w2 H2
            go_wp2_with fail
            go_roundw
            case rel => first | exact ⟨5, g2, cap2, q + 1, by omega, by first | go_num | rfl | decide, rfl, by have := HQ.out; show _ = _; omega, H2⟩ | ((repeat apply Exists.intro); exact ⟨⟨5, g2, cap2, q + 1, by omega, by first | go_num | rfl | decide, rfl, by have := HQ.out; show _ = _; omega, H2⟩, rfl⟩)
            case measure => simp [intOf]
          · go_wp2_with (at_builtin; refine step_appC q (UInt8.ofNat (8 * n / 65536)) _ ?_ H.out.1 HL2.out H.out.2 (Nat.le_refl _) rfl _ _ rfl rfl rfl (by omega) ?_; (rw [UInt8.toNat_ofNat']; omega))
            intro g2 cap2 w2 H2
            go_wp2_with fail
            go_roundw
            case rel => first | exact ⟨6, g2, cap2, q + 1, by omega, by first | go_num | rfl | decide, rfl, by have := HQ.out; show _ = _; omega, H2⟩ | ((repeat apply Exists.intro); exact ⟨⟨6, g2, cap2, q + 1, by omega, by first | go_num | rfl | decide, rfl, by have := HQ.out; show _ = _; omega, H2⟩, rfl⟩)
            case measure => simp [intOf]
          · go_wp2_with (at_builtin; refine step_appC q (UInt8.ofNat (8 * n / 256)) _ ?_ H.out.1 HL2.out H.out.2 (Nat.le_refl _) rfl _ _ rfl rfl rfl (by omega) ?_; (rw [UInt8.toNat_ofNat']; omega))
            intro g2 cap2 w2 H2
            go_wp2_with fail
            go_roundw
            case rel => first | exact ⟨7, g2, cap2, q + 1, by omega, by first | go_num | rfl | decide, rfl, by have := HQ.out; show _ = _; omega, H2⟩ | ((repeat apply Exists.intro); exact ⟨⟨7, g2, cap2, q + 1, by omega, by first | go_num | rfl | decide, rfl, by have := HQ.out; show _ = _; omega, H2⟩, rfl⟩)
            case measure => simp [intOf]
          · go_wp2_with (at_builtin; refine step_appC q (low8 (8 * n)) _ ?_ H.out.1 HL2.out H.out.2 (Nat.le_refl _) rfl _ _ rfl rfl rfl (by omega) ?_; (rw [low8, UInt8.toNat_ofNat']; omega))
            intro g2 cap2 w2 H2
            go_wp2_with fail
            go_roundw
            case rel => first | exact ⟨8, g2, cap2, q + 1, by omega, by first | go_num | rfl | decide, rfl, by have := HQ.out; show _ = _; omega, H2⟩ | ((repeat apply Exists.intro); exact ⟨⟨8, g2, cap2, q + 1, by omega, by first | go_num | rfl | decide, rfl, by have := HQ.out; show _ = _; omega, H2⟩, rfl⟩)
            case measure => simp [intOf]
        · have hj8 : j = 8 := by omega
          subst hj8
          obtain ⟨g3, cap3, hv3, _, _, hcell⟩ := H.out.1.cell
          have hv4 : g = g3 ∧ q = (l0 ++ (lenB n).take 8).length ∧ cap = cap3 := by simpa using hv3
          obtain ⟨rfl, hq, rfl⟩ := hv4
          have hcv := run_convert_bytes_back (P := Tryd.prog) wr 46 9 5 ⟨g, 0, none⟩ cap (l0 ++ (lenB n).take 8) Tryd.underlying46 Tryd.underlying5 Tryd.underlying9 (fun i hi => by rw [show (⟨g, 0, none⟩ : Addr).add i = ⟨g, i, none⟩ by unfold Addr.add; split <;> simp_all]; exact hcell i hi)
          rw [← hq] at hcv
          have HP : Hid ((⟨(l0 ++ (lenB n).take 8).toArray⟩ : ByteArray) = padB s) := by
            show _ = (⟨(padL s.data.toList).toArray⟩ : ByteArray)
            rw [← HL1.out]
            unfold padL padTail lenB low8
            rw [HL.out]
            simp
          clear hcell hv3 hq
          go_wp2_with fail
          go_ret
          exact ⟨by rw [← HP.out]; rfl, H.out.2⟩
end Go.Proofs.YtoildgknpfehoaaDoor
