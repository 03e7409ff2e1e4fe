/-
  Texts of the proof.
-/
import Derived.Deep.Cut
import Derived.Deep.DeepMust
import Derived.Test.YtjgbmnhoajiabaaGreatDoorSH1
import Derived.Deep.WholeRow
import Derived.StillTailTactics
import Derived.Test.YtjgbmnhoajiabaaGreatDoorSQ34
set_option maxRecDepth 100000
namespace Go.Proofs.YtjgbmnhoajiabaaGreatDoor
open Go.RowKit
def low8 (x : Nat) : UInt8 := UInt8.ofNat x
def lenB (n : Nat) : List UInt8 := [UInt8.ofNat (8 * n / 72057594037927936), UInt8.ofNat (8 * n / 281474976710656), UInt8.ofNat (8 * n / 1099511627776), UInt8.ofNat (8 * n / 4294967296), UInt8.ofNat (8 * n / 16777216), UInt8.ofNat (8 * n / 65536), UInt8.ofNat (8 * n / 256), low8 (8 * n)]
set_option maxHeartbeats 800000 in
theorem specPad_any (s : ByteArray) (w : World) (hs : s.size <= 1000000000) : Calls Tryz.prog 297 #[.string s] w fun e w' => e = .returned (.string (padB s)) /\ Below w.heap.size w w' := by
 have hcv := fun w => run_bytes_of_string (P := Tryz.prog) w 9 22 5 s Tryz.underlying9 Tryz.underlying22 Tryz.underlying5
 have HN := OwnB.new w s hs
 have HB : Below w.heap.size w (w.drew.alloc (.cells (bytesRow s (grownCap w s.size 0 5)) 5 ((bytesRow s (grownCap w s.size 0 5)).size, (bytesRow s (grownCap w s.size 0 5)).size + 1))) := (Below.refl _ _).drew.alloc (Nat.le_refl _) _
 have hlen : s.data.toList.length = s.size := rfl
 have HN' : Hid (OwnB (w.drew.alloc (.cells (bytesRow s (grownCap w s.size 0 5)) 5 ((bytesRow s (grownCap w s.size 0 5)).size, (bytesRow s (grownCap w s.size 0 5)).size + 1))) w.heap.size (.slice (some ⟨w.heap.size, 0, none⟩) s.size (grownCap w s.size 0 5)) s.data.toList /\ Below w.heap.size w (w.drew.alloc (.cells (bytesRow s (grownCap w s.size 0 5)) 5 ((bytesRow s (grownCap w s.size 0 5)).size, (bytesRow s (grownCap w s.size 0 5)).size + 1)))) := ⟨HN, HB⟩
 clear HN HB hlen
 go_enter Tryz.func297, Tryz.ntmps297
 go_upto_region 2 with fail
 clear hcv
 have HN : Hid (OwnB ((w.alloc (.cells (bytesRow s (grownCap w s.size 0 5)) 5 ((bytesRow s (grownCap w s.size 0 5)).size, (bytesRow s (grownCap w s.size 0 5)).size + 1))).drew) w.heap.size (.slice (some ⟨w.heap.size, 0, none⟩) s.size (grownCap w s.size 0 5)) s.data.toList /\ Below w.heap.size w ((w.alloc (.cells (bytesRow s (grownCap w s.size 0 5)) 5 ((bytesRow s (grownCap w s.size 0 5)).size, (bytesRow s (grownCap w s.size 0 5)).size + 1))).drew)) := HN'
 clear HN'
 generalize grownCap w s.size 0 5 = C at *
 generalize ((w.alloc (.cells (bytesRow s C) 5 ((bytesRow s C).size, (bytesRow s C).size + 1))).drew) = W1 at *
 obtain ⟨n, hn⟩ : ∃ n, s.size = n := ⟨_, rfl⟩
 have HL : Hid (s.data.toList.length = n) := hn
 rw [hn] at HN
 rw [hn]
 go_wp2_with (at_builtin; go_must (refine step_appC n 128 128 (by decide) HN.out.1 HL.out HN.out.2 (Nat.le_refl _) rfl _ _ rfl rfl rfl (by omega) ?_; intro g1 cap1 w1 H1))
 clear HN
 go_loopw [3] (fun v wr => ∃ (z g cap m : Nat), v = .slice (some ⟨g, 0, none⟩) m cap /\ Hid (m = n + 1 + z) /\ z <= (64 - (n + 9) % 64) % 64 /\ Hid (OwnB wr w.heap.size (.slice (some ⟨g, 0, none⟩) m cap) (s.data.toList ++ (128 :: List.replicate z 0)) /\ Below w.heap.size w wr)) (fun v _ => match v with | .slice _ m _ => n + 100 - m | _ => 0)
 case atStart => exact ⟨0, g1, cap1, n + 1, rfl, rfl, by omega, ⟨H1.out.1, H1.out.2⟩⟩
 case round =>
  clear H1
  obtain ⟨z, g, cap, m, rfl, HM, hz, H⟩ := hrel
  have hm := HM.out
  by_cases hlt : z < (64 - (n + 9) % 64) % 64
  ·have hmod : (m : Int) % 64 ≠ 56 := by omega
   have HL2 : Hid ((s.data.toList ++ (128 :: List.replicate z (0 : UInt8))).length = m) := by
    show _ = _
    rw [List.length_append, HL.out, List.length_cons, List.length_replicate]
    omega
   have hml : m <= 1000000100 := by omega
   clear hm
   go_wp2_with (at_builtin; go_must (refine step_appC m 0 0 (by decide) H.out.1 HL2.out H.out.2 (Nat.le_refl _) rfl _ _ rfl rfl rfl (by omega) ?_; intro g2 cap2 w2 H2))
   have H3 : Hid (OwnB w2 w.heap.size (.slice (some ⟨g2, 0, none⟩) (m + 1) cap2) (s.data.toList ++ (128 :: List.replicate (z + 1) 0)) /\ Below w.heap.size w w2) := by
    refine ⟨?_, H2.out.2⟩
    have e : s.data.toList ++ (128 :: List.replicate (z + 1) (0 : UInt8)) = s.data.toList ++ (128 :: List.replicate z 0) ++ [0] := by
     rw [List.append_assoc, List.cons_append, List.replicate_succ']
    rw [e]
    exact H2.out.1
   go_roundw
   case rel => exact ⟨z + 1, g2, cap2, m + 1, rfl, by have := HM.out; show _ = _; omega, by omega, H3⟩
   case measure => have := HM.out; simp; omega
  ·have hze : z = (64 - (n + 9) % 64) % 64 := by omega
   have hmod : (m : Int) % 64 = 56 := by omega
   have hml : m <= 1000000100 := by omega
   have H0 : Hid (OwnB wr w.heap.size (.slice (some ⟨g, 0, none⟩) m cap) (s.data.toList ++ (128 :: List.replicate ((64 - (n + 9) % 64) % 64) 0) ++ (lenB n).take 0) /\ Below w.heap.size w wr) := by
    refine ⟨?_, H.out.2⟩
    rw [List.take_zero, List.append_nil, <- hze]
    exact H.out.1
   have HL0 : Hid ((s.data.toList ++ (128 :: List.replicate ((64 - (n + 9) % 64) % 64) (0 : UInt8))).length = m) := by
    show _ = _
    rw [List.length_append, HL.out, List.length_cons, List.length_replicate]
    omega
   clear H hm hze hz hlt HM
   obtain ⟨l0, hl0⟩ : ∃ l, s.data.toList ++ (128 :: List.replicate ((64 - (n + 9) % 64) % 64) (0 : UInt8)) = l := ⟨_, rfl⟩
   rw [hl0] at H0 HL0
   have HL1 : Hid (s.data.toList ++ (128 :: List.replicate ((64 - (n + 9) % 64) % 64) (0 : UInt8)) = l0) := hl0
   clear hl0
   go_wp2_with fail
   go_loopw [3, 5] (fun v iv wr => ∃ (j g cap q : Nat), j <= 8 /\ iv = .int .i64 (7 - (j : Int)) /\ v = .slice (some ⟨g, 0, none⟩) q cap /\ Hid (q = m + j) /\ Hid (OwnB wr w.heap.size (.slice (some ⟨g, 0, none⟩) q cap) (l0 ++ (lenB n).take j) /\ Below w.heap.size w wr)) (fun _ iv _ => (intOf iv + 1).toNat)
   case atStart => exact ⟨0, g, cap, m, by omega, rfl, rfl, rfl, H0⟩
   case round =>
    clear H0 hmod
    obtain ⟨j, g, cap, q, hj, rfl, rfl, HQ, H⟩ := hrel
    have hql : q <= 1000000200 := by have := HQ.out; omega
    have HL2 : Hid ((l0 ++ (lenB n).take j).length = q) := by
     show _ = _
     rw [List.length_append, HL0.out, HQ.out, List.length_take]
     show m + min j 8 = m + j
     omega
    by_cases hlt : j < 8
    ·have hc : j = 0 ∨ j = 1 ∨ j = 2 ∨ j = 3 ∨ j = 4 ∨ j = 5 ∨ j = 6 ∨ j = 7 := by omega
     rcases hc with rfl | rfl | rfl | rfl | rfl | rfl | rfl | rfl
     ·go_wp2_with (at_builtin; refine step_appC q (UInt8.ofNat (8 * n / 72057594037927936)) _ ?_ H.out.1 HL2.out H.out.2 (Nat.le_refl _) rfl _ _ rfl rfl rfl (by omega) ?_; (rw [UInt8.toNat_ofNat']; omega))
      intro g2 cap2 w2 H2
      go_wp2_with fail
      go_roundw
      case rel => first | exact ⟨1, g2, cap2, q + 1, by omega, by first | go_num | rfl | decide, rfl, by have := HQ.out; show _ = _; omega, H2⟩ | ((repeat apply Exists.intro); exact ⟨⟨1, g2, cap2, q + 1, by omega, by first | go_num | rfl | decide, rfl, by have := HQ.out; show _ = _; omega, H2⟩, rfl⟩)
      case measure => simp [intOf]
     ·go_wp2_with (at_builtin; refine step_appC q (UInt8.ofNat (8 * n / 281474976710656)) _ ?_ H.out.1 HL2.out H.out.2 (Nat.le_refl _) rfl _ _ rfl rfl rfl (by omega) ?_; (rw [UInt8.toNat_ofNat']; omega))
      intro g2 cap2 w2 H2
      go_wp2_with fail
      go_roundw
      case rel => first | exact ⟨2, g2, cap2, q + 1, by omega, by first | go_num | rfl | decide, rfl, by have := HQ.out; show _ = _; omega, H2⟩ | ((repeat apply Exists.intro); exact ⟨⟨2, g2, cap2, q + 1, by omega, by first | go_num | rfl | decide, rfl, by have := HQ.out; show _ = _; omega, H2⟩, rfl⟩)
      case measure => simp [intOf]
     ·go_wp2_with (at_builtin; refine step_appC q (UInt8.ofNat (8 * n / 1099511627776)) _ ?_ H.out.1 HL2.out H.out.2 (Nat.le_refl _) rfl _ _ rfl rfl rfl (by omega) ?_; (rw [UInt8.toNat_ofNat']; omega))
      intro g2 cap2 w2 H2
      go_wp2_with fail
      go_roundw
      case rel => first | exact ⟨3, g2, cap2, q + 1, by omega, by first | go_num | rfl | decide, rfl, by have := HQ.out; show _ = _; omega, H2⟩ | ((repeat apply Exists.intro); exact ⟨⟨3, g2, cap2, q + 1, by omega, by first | go_num | rfl | decide, rfl, by have := HQ.out; show _ = _; omega, H2⟩, rfl⟩)
      case measure => simp [intOf]
     ·go_wp2_with (at_builtin; refine step_appC q (UInt8.ofNat (8 * n / 4294967296)) _ ?_ H.out.1 HL2.out H.out.2 (Nat.le_refl _) rfl _ _ rfl rfl rfl (by omega) ?_; (rw [UInt8.toNat_ofNat']; omega))
      intro g2 cap2 w2 H2
      go_wp2_with fail
      go_roundw
      case rel => first | exact ⟨4, g2, cap2, q + 1, by omega, by first | go_num | rfl | decide, rfl, by have := HQ.out; show _ = _; omega, H2⟩ | ((repeat apply Exists.intro); exact ⟨⟨4, g2, cap2, q + 1, by omega, by first | go_num | rfl | decide, rfl, by have := HQ.out; show _ = _; omega, H2⟩, rfl⟩)
      case measure => simp [intOf]
     ·go_wp2_with (at_builtin; refine step_appC q (UInt8.ofNat (8 * n / 16777216)) _ ?_ H.out.1 HL2.out H.out.2 (Nat.le_refl _) rfl _ _ rfl rfl rfl (by omega) ?_; (rw [UInt8.toNat_ofNat']; omega))
      intro g2 cap2 w2 H2
      go_wp2_with fail
      go_roundw
      case rel => first | exact ⟨5, g2, cap2, q + 1, by omega, by first | go_num | rfl | decide, rfl, by have := HQ.out; show _ = _; omega, H2⟩ | ((repeat apply Exists.intro); exact ⟨⟨5, g2, cap2, q + 1, by omega, by first | go_num | rfl | decide, rfl, by have := HQ.out; show _ = _; omega, H2⟩, rfl⟩)
      case measure => simp [intOf]
     ·go_wp2_with (at_builtin; refine step_appC q (UInt8.ofNat (8 * n / 65536)) _ ?_ H.out.1 HL2.out H.out.2 (Nat.le_refl _) rfl _ _ rfl rfl rfl (by omega) ?_; (rw [UInt8.toNat_ofNat']; omega))
      intro g2 cap2 w2 H2
      go_wp2_with fail
      go_roundw
      case rel => first | exact ⟨6, g2, cap2, q + 1, by omega, by first | go_num | rfl | decide, rfl, by have := HQ.out; show _ = _; omega, H2⟩ | ((repeat apply Exists.intro); exact ⟨⟨6, g2, cap2, q + 1, by omega, by first | go_num | rfl | decide, rfl, by have := HQ.out; show _ = _; omega, H2⟩, rfl⟩)
      case measure => simp [intOf]
     ·go_wp2_with (at_builtin; refine step_appC q (UInt8.ofNat (8 * n / 256)) _ ?_ H.out.1 HL2.out H.out.2 (Nat.le_refl _) rfl _ _ rfl rfl rfl (by omega) ?_; (rw [UInt8.toNat_ofNat']; omega))
      intro g2 cap2 w2 H2
      go_wp2_with fail
      go_roundw
      case rel => first | exact ⟨7, g2, cap2, q + 1, by omega, by first | go_num | rfl | decide, rfl, by have := HQ.out; show _ = _; omega, H2⟩ | ((repeat apply Exists.intro); exact ⟨⟨7, g2, cap2, q + 1, by omega, by first | go_num | rfl | decide, rfl, by have := HQ.out; show _ = _; omega, H2⟩, rfl⟩)
      case measure => simp [intOf]
     ·go_wp2_with (at_builtin; refine step_appC q (low8 (8 * n)) _ ?_ H.out.1 HL2.out H.out.2 (Nat.le_refl _) rfl _ _ rfl rfl rfl (by omega) ?_; (rw [low8, UInt8.toNat_ofNat']; omega))
      intro g2 cap2 w2 H2
      go_wp2_with fail
      go_roundw
      case rel => first | exact ⟨8, g2, cap2, q + 1, by omega, by first | go_num | rfl | decide, rfl, by have := HQ.out; show _ = _; omega, H2⟩ | ((repeat apply Exists.intro); exact ⟨⟨8, g2, cap2, q + 1, by omega, by first | go_num | rfl | decide, rfl, by have := HQ.out; show _ = _; omega, H2⟩, rfl⟩)
      case measure => simp [intOf]
    ·have hj8 : j = 8 := by omega
     subst hj8
     obtain ⟨g3, cap3, hv3, _, _, hcell⟩ := H.out.1.cell
     have hv4 : g = g3 /\ q = (l0 ++ (lenB n).take 8).length /\ cap = cap3 := by simpa using hv3
     obtain ⟨rfl, hq, rfl⟩ := hv4
     have hcv := run_convert_bytes_back (P := Tryz.prog) wr 22 9 5 ⟨g, 0, none⟩ cap (l0 ++ (lenB n).take 8) Tryz.underlying22 Tryz.underlying5 Tryz.underlying9 (fun i hi => by rw [show (⟨g, 0, none⟩ : Addr).add i = ⟨g, i, none⟩ by unfold Addr.add; split <;> simp_all]; exact hcell i hi)
     rw [<- hq] at hcv
     have HP : Hid ((⟨(l0 ++ (lenB n).take 8).toArray⟩ : ByteArray) = padB s) := by
      show _ = (⟨(padL s.data.toList).toArray⟩ : ByteArray)
      rw [<- HL1.out]
      unfold padL padTail lenB low8
      rw [HL.out]
      simp
     clear hcell hv3 hq
     go_wp2_with fail
     go_ret
     exact ⟨by rw [<- HP.out]; rfl, H.out.2⟩
end Go.Proofs.YtjgbmnhoajiabaaGreatDoor
namespace Go.Proofs.YtjgbmnhoajiabaaGreatDoor
open Go.RowKit
set_option linter.unusedVariables false
theorem writeS (B b : Nat) (bs : List Value) (s : ByteArray) (w : World) (h : Lib.IsBuilder 187 5 B b bs w) (hlen : bs.length + s.size <= 140737488355328) (hBw : B <= w.heap.size) :
  Calls Tryz.prog 167 #[.pointer (some ⟨b, 0, none⟩), .string s] w fun e w' => e = .returned (.tuple #[.int .i64 s.size, .nilIface]) /\ (Lib.BuilderAt 187 5 B b (.pointer (some ⟨b, 0, none⟩)) (bs ++ Lib.strCells s) w' /\ Below B w w') :=
 Any.Builder_WriteString { Tryz.lays105 with } Tryz.Builder_Extra_105 B b bs s w h hlen hBw
theorem ownsRow_stays {w w' : World} {base : Nat} {e : TypeId} {size : Nat} {v : Value} {n : Nat} {xs : List Value} (h : w.ownsRow base e size v n xs) (hb : Below w.heap.size w w') : w'.ownsRow base e size v n xs := by
 obtain ⟨h1, h2⟩ := h
 refine ⟨h1, ?_⟩
 rcases h2 with h2 | ⟨g, cap, cur, hv, hbg, hg, r⟩
 ·exact .inl h2
 ·have hlt : g < w.heap.size := by
   rcases Nat.lt_or_ge g w.heap.size with h | h
   ·exact h
   ·rw [Array.getElem?_eq_none h] at hg; cases hg
  exact .inr ⟨g, cap, cur, hv, hbg, by rw [hb.block g hlt]; exact hg, r⟩
theorem builderAt_stays {w w' : World} {T e : TypeId} {B b : Nat} {p : Value} {bs : List Value} (h : Lib.BuilderAt T e B b p bs w) (hb : Below w.heap.size w w') : Lib.BuilderAt T e B b p bs w' := by
 have hlt := h.lt
 obtain ⟨h1, v, h2, h3, h4⟩ := h
 exact ⟨h1, v, by rw [hb.block b hlt]; exact h2, ownsRow_stays h3 hb, h4⟩
theorem builder_stays {w w' : World} {T e : TypeId} {B b : Nat} {bs : List Value} (h : Lib.IsBuilder T e B b bs w) (hb : Below w.heap.size w w') : Lib.IsBuilder T e B b bs w' := by
 rcases h with h | h
 ·exact .inl (builderAt_stays h hb)
 ·exact .inr (builderAt_stays h hb)
theorem builder_new (w : World) (o : Obj) : Lib.IsBuilder 187 5 w.heap.size (w.heap.size + 1) [] ((w.alloc o).alloc (.cells #[.pointer none, .slice none 0 0] 187)) := by
 refine .inl ⟨by omega, .slice none 0 0, ?_, ⟨rfl, .inl ⟨rfl, rfl⟩⟩, ?_⟩
 ·rw [show w.heap.size + 1 = (w.alloc o).heap.size from (Array.size_push _).symm]
  exact heap_alloc_last _ _
 ·simp [Value.ownBlock]
end Go.Proofs.YtjgbmnhoajiabaaGreatDoor
namespace Go.Proofs.YtjgbmnhoajiabaaGreatDoor
open Go.RowKit
theorem idx8 (s : St) (k : Nat) (hk : k < 8) (w : World) : (Instr.index 310 (.agg (arrN 8 (stf s))) (.int .i64 k)).run Tryz.prog w = .ok (.int .u32 ((stf s k : Nat) : Int)) w := by
 match k, hk with
 | 0, _ => rfl
 | 1, _ => rfl
 | 2, _ => rfl
 | 3, _ => rfl
 | 4, _ => rfl
 | 5, _ => rfl
 | 6, _ => rfl
 | 7, _ => rfl
theorem stf_lt (s : St) (h : s.ok) (k : Nat) : stf s k < 4294967296 := by
 obtain ⟨h1, h2, h3, h4, h5, h6, h7, h8⟩ := h
 unfold stf
 split <;> assumption
def bytesTo (s : St) : Nat -> List UInt8
 | 0 => []
 | k + 1 => bytesTo s k ++ four8 (stf s k)
theorem bytesTo_len (s : St) (k : Nat) : (bytesTo s k).length = 4 * k := by
 induction k with
 | zero => rfl
 | succ k ih => rw [bytesTo, List.length_append, ih]; show _ + 4 = _; omega
theorem bytesTo_all (s : St) : bytesTo s 8 = bytesOfSt s := rfl
set_option maxHeartbeats 800000 in
theorem inBytes_any (s : St) (w : World) (hok : s.ok) : Calls Tryz.prog 325 #[.agg (arrN 8 (stf s))] w fun e w' => e = .returned (.string ⟨(bytesOfSt s).toArray⟩) /\ Below w.heap.size w w' := by
 go_enter Tryz.func325, Tryz.ntmps325
 go_wp2_with (refine step_loadRow 310 285 w.heap.size 8 ((Row.new w 310 8 (stf s)).alloc _) rfl rfl rfl Tryz.underlying310 info8 ?_)
 go_loopw [7] (fun iv wr => ∃ k : Nat, k <= 8 /\ iv = .int .i64 k /\ Hid (Lib.IsBuilder 187 5 w.heap.size (w.heap.size + 1) (Lib.byteCells (bytesTo s k)) wr /\ Below w.heap.size w wr)) (fun iv _ => 8 - (intOf iv).toNat)
 case atStart => exact ⟨0, by omega, rfl, ⟨builder_new w _, below2 w _ _⟩⟩
 case round =>
  obtain ⟨k, hk, rfl, H⟩ := hrel
  by_cases hlt : k < 8
  ·have hidx := idx8 s k hlt
   have hkk : (k : Int) < 8 := by omega
   have hlt2 := stf_lt s hok k
   obtain ⟨y, hy⟩ : ∃ y, stf s k = y := ⟨_, rfl⟩
   rw [hy] at hlt2
   simp only [hy] at hidx
   have HY : Hid (stf s k = y) := hy
   clear hy
   go_wp2_with fail
   refine (fourBytes_any y _ hlt2).mono ?_
   rintro e w1 ⟨rfl, hb1⟩
   have HB1 : Hid (Below wr.heap.size wr w1) := hb1
   clear hb1
   go_wp2_with fail
   have HB2 : Hid (Below w.heap.size w w1) := H.out.2.trans (HB1.out.mono H.out.2.size)
   refine (writeS w.heap.size (w.heap.size + 1) _ (fourB y) _ (builder_stays H.out.1 HB1.out) (by simp only [Lib.byteCells, List.length_map, bytesTo_len, fourB_size]; omega) HB2.out.size).mono ?_
   rintro e w2 ⟨rfl, hw2, hb2⟩
   have H2 : Hid (Lib.IsBuilder 187 5 w.heap.size (w.heap.size + 1) (Lib.byteCells (bytesTo s (k + 1))) w2 /\ Below w.heap.size w w2) := by
    refine ⟨.inr ?_, HB2.out.trans hb2⟩
    have e : Lib.byteCells (bytesTo s (k + 1)) = Lib.byteCells (bytesTo s k) ++ Lib.strCells (fourB y) := by
     rw [bytesTo, HY.out]
     unfold Lib.byteCells
     rw [List.map_append]
     rfl
    rw [e]
    exact hw2
   clear H HB1 HB2 hw2 hb2
   go_wp2_with fail
   go_roundw
   case rel => exact ⟨k + 1, by omega, by go_num, H2⟩
   case measure => simp [intOf]; omega
  ·have hk8 : k = 8 := by omega
   subst hk8
   go_wp2_with (go_at_call 168; refine (Tryz.Builder_String_any w.heap.size (w.heap.size + 1) _ _ H.out.1 H.out.2.size).mono ?_; rintro e w2 ⟨rfl, hb2⟩)
   go_ret
   exact ⟨by rw [<- bytesTo_all]; rfl, H.out.2.trans hb2⟩
def digB (s : ByteArray) : ByteArray := ⟨(digL s.data.toList).toArray⟩
theorem digB_size (s : ByteArray) : (digB s).size = 32 := rfl
theorem padL_len (t : List UInt8) : (padL t).length = t.length + 9 + (64 - (t.length + 9) % 64) % 64 := by
 unfold padL
 rw [List.length_append, padTail_len]
 omega
theorem padB_size (s : ByteArray) : (padB s).size = s.size + 9 + (64 - (s.size + 9) % 64) % 64 := by
 have : (padB s).size = (padL s.data.toList).length := rfl
 rw [this, padL_len]
 rfl
theorem gStart : Tryz.prog.globalNamed "loop.example/g00394/impl.startNumbers" = some 1 := by kernel_rfl
def firstI : List Int := [1779033703, 3144134277, 1013904242, 2773480762, 1359893119, 2600822924, 528734635, 1541459225]
abbrev StartOk (w : World) : Prop := Lib.TabIs Tryz.prog w "loop.example/g00394/impl.startNumbers" .u32 firstI
theorem startBelow {w : World} (h : StartOk w) : ∀ w', Below w.heap.size w w' -> StartOk w' := Lib.tabBelow_of_tabIs h
theorem first_at (j : Nat) (hj : j < 8) : firstI.getD j 0 = ((stf firstN j : Nat) : Int) := by
 match j, hj with
 | 0, _ => rfl
 | 1, _ => rfl
 | 2, _ => rfl
 | 3, _ => rfl
 | 4, _ => rfl
 | 5, _ => rfl
 | 6, _ => rfl
 | 7, _ => rfl
theorem start_cell {w : World} (h : StartOk w) (j : Nat) (hj : j < 8) : w.cell? ⟨1, j, none⟩ = some (.int .u32 ((stf firstN j : Nat) : Int)) := by
 rw [Lib.TabIs.cell h gStart j hj, first_at j hj]
theorem step_loadCells {P : Program} {ops : Array Oper} {rest : List Oper} {op : Oper} {a : Act} {w : World} {Q : Exit -> Act -> World -> Prop} {x : Operand} (ty e : TypeId) (b n : Nat) (f : Nat -> Nat) (h : ∀ j, j < n -> w.cell? ⟨b, j, none⟩ = some (.int .u32 ((f j : Nat) : Int))) (hgd : op.guard = none) (ho : op.op = .load ty x) (hx : a.eval x = .pointer (some ⟨b, 0, none⟩))
  (hu : P.underlying ty = some (.array n e)) (hi : (P.info? ty).map (·.size) = some n) (hk : wpList P ops Q rest (a.put op.dst (.agg (arrN n f))) w) : wpList P ops Q (op :: rest) a w :=
 wpList_load_mid hgd ty x ho b 0 hx ((List.range n).map fun j => Value.int .u32 ((f j : Nat) : Int)) _ (fun j v hv => by
  rw [Nat.zero_add]
  by_cases hj : j < n
  ·rw [h j hj]
   simpa [hj] using hv
  ·simp [hj] at hv) hu rfl (by simpa using hi) hk
theorem info8s : (Tryz.prog.info? 286).map (·.size) = some 8 := by kernel_rfl
theorem arrN8 (s : St) : arrN 8 (stf s) = #[.int .u32 ((stf s 0 : Nat) : Int), .int .u32 ((stf s 1 : Nat) : Int), .int .u32 ((stf s 2 : Nat) : Int), .int .u32 ((stf s 3 : Nat) : Int), .int .u32 ((stf s 4 : Nat) : Int), .int .u32 ((stf s 5 : Nat) : Int), .int .u32 ((stf s 6 : Nat) : Int), .int .u32 ((stf s 7 : Nat) : Int)] := rfl
theorem after_lit (s : St) (b : ByteArray) (w : World) (hok : s.ok) (hs : b.size = 64) (hT : KeysOk w) : Calls Tryz.prog 324 #[.agg #[.int .u32 ((stf s 0 : Nat) : Int), .int .u32 ((stf s 1 : Nat) : Int), .int .u32 ((stf s 2 : Nat) : Int), .int .u32 ((stf s 3 : Nat) : Int), .int .u32 ((stf s 4 : Nat) : Int), .int .u32 ((stf s 5 : Nat) : Int), .int .u32 ((stf s 6 : Nat) : Int), .int .u32 ((stf s 7 : Nat) : Int)], .string b] w fun e w' => e = .returned (.agg (arrN 8 (stf (blockN s b.data.toList)))) /\ Below w.heap.size w w' := by
 have h := after_any s b w hok hs hT
 rw [arrN8 s] at h
 exact h
theorem extract_toList (b : ByteArray) (p q : Nat) : (b.extract p q).data.toList = (b.data.toList.drop p).take (q - p) := by
 rw [ByteArray.data_extract]
 simp [Array.toList_extract, List.extract]
set_option maxHeartbeats 800000 in
theorem implDigest_any (s : ByteArray) (w : World) (hs : s.size <= 1000000000) (hT : KeysOk w) (hS : StartOk w) : Calls Tryz.prog 269 #[.string s] w fun e w' => e = .returned (.string (digB s)) /\ Below w.heap.size w w' := by
 have HK : Hid (KeysOk w) := hT
 have HS : Hid (StartOk w) := hS
 clear hT hS
 go_enter Tryz.func269, Tryz.ntmps269
 go_wp2_with fail
 refine (implPad_any s _ (by omega)).mono ?_
 rintro e w1 ⟨rfl, hb1⟩
 obtain ⟨P0, hP⟩ : ∃ P0, padB s = P0 := ⟨_, rfl⟩
 obtain ⟨N, hN⟩ : ∃ N, (padB s).size = 64 * N := ⟨(padB s).size / 64, by rw [padB_size]; omega⟩
 have hNl : N <= 100000000 := by have := padB_size s; omega
 rw [hP] at hN
 rw [hP]
 have HP : Hid (padB s = P0 /\ P0.size = 64 * N) := ⟨hP, hN⟩
 have hNi : (P0.size : Int) / 64 = (N : Int) := by omega
 have hPl : P0.size <= 6400000000 := by omega
 clear hP hN
 have hs1 := startBelow HS.out _ hb1
 have HS1 : Hid (StartOk w1 /\ Below w.heap.size w w1) := ⟨hs1, hb1⟩
 clear hs1 hb1
 go_wp2_with (first | (refine step_loadCells 286 285 1 8 (stf firstN) (fun j hj => start_cell HS1.out.1 j hj) rfl rfl rfl Tryz.underlying286 info8s ?_) | (refine step_storeRow 310 w1.heap.size 8 (stf firstN) (Row.new w1 310 8 fun _ => 0) rfl rfl rfl rfl rfl info8 ?_; intro W2 HW2))
 have HF : Hid (Row W2 w1.heap.size 310 8 (stf firstN) /\ Below w.heap.size w W2 /\ w.heap.size <= w1.heap.size) := by
  have hW2 := HW2.out
  subst hW2
  have hsz := HS1.out.2.size
  exact ⟨Row.setRow (Row.new w1 310 8 fun _ => 0), below_setRow (HS1.out.2.alloc hsz _) hsz _, hsz⟩
 clear HW2 HS1
 obtain ⟨c, hc⟩ : ∃ c, w1.heap.size = c := ⟨_, rfl⟩
 rw [hc] at HF
 try rw [hc]
 clear hc
 go_loopw [12] (fun iv wr => ∃ k : Nat, k <= N /\ iv = .int .i64 k /\ Hid (Row wr c 310 8 (stf (blocksN firstN P0.data.toList k)) /\ Below w.heap.size w wr)) (fun iv _ => N - (intOf iv).toNat)
 case atStart => exact ⟨0, by omega, rfl, ⟨HF.out.1, HF.out.2.1⟩⟩
 case round =>
  have HC : Hid (w.heap.size <= c) := HF.out.2.2
  clear HF
  obtain ⟨k, hk, rfl, H⟩ := hrel
  by_cases hlt : k < N
  ·obtain ⟨x, hx⟩ : ∃ x, blocksN firstN P0.data.toList k = x := ⟨_, rfl⟩
   have hok : x.ok := by rw [<- hx]; exact blocksN_ok _ _ firstN_ok
   have hcs := fun j hj => H.out.1.cell j hj
   simp only [hx] at hcs
   have c0 := hcs 0 (by decide)
   have c1 := hcs 1 (by decide)
   have c2 := hcs 2 (by decide)
   have c3 := hcs 3 (by decide)
   have c4 := hcs 4 (by decide)
   have c5 := hcs 5 (by decide)
   have c6 := hcs 6 (by decide)
   have c7 := hcs 7 (by decide)
   clear hcs
   obtain ⟨p, hp⟩ : ∃ p, k * 64 = p := ⟨_, rfl⟩
   obtain ⟨q, hq⟩ : ∃ q, (k + 1) * 64 = q := ⟨_, rfl⟩
   have hpi : IntKind.i64.wrap ((k : Int) * 64) = (p : Int) := by rw [IntWalk.i64_in _ (by omega)]; omega
   have hqi : IntKind.i64.wrap (((k : Int) + 1) * 64) = (q : Int) := by rw [IntWalk.i64_in _ (by omega)]; omega
   have hki : IntKind.i64.wrap ((k : Int) + 1) = (k : Int) + 1 := IntWalk.i64_in _ (by omega)
   have hN2 := HP.out.2
   have b1 : (p : Int) <= (q : Int) := by omega
   have b2 : (q : Int) <= (P0.size : Int) := by omega
   have b3 : (0 : Int) <= (p : Int) := by omega
   have b4 : (0 : Int) <= (q : Int) := by omega
   clear hN2
   go_wp2_with fail
   go_still_tail 8, (by kernel_rfl)
   clear c0 c1 c2 c3 c4 c5 c6 c7
   change wpList _ _ _ _ _ wr.drew
   have hsz : (P0.extract p q).size = 64 := by rw [ByteArray.size_extract]; omega
   have hkk := keysBelow HK.out _ H.out.2.drew
   have HA := after_lit x (P0.extract p q) wr.drew hok hsz hkk
   have HE : Hid (blockN x (P0.extract p q).data.toList = blocksN firstN P0.data.toList (k + 1)) := by
    show _ = _
    rw [blocksN, hx, extract_toList, <- hp, <- hq, Nat.mul_comm k 64, show (k + 1) * 64 - 64 * k = 64 by omega]
   have HL : Hid (c < wr.heap.size) := (Array.getElem?_eq_some_iff.1 H.out.1).1
   have HR : Hid (Row wr.drew c 310 8 (stf (blocksN firstN P0.data.toList k)) /\ Below w.heap.size w wr.drew) := ⟨H.out.1, H.out.2.drew⟩
   clear H hkk hx
   obtain ⟨y, hy⟩ : ∃ y, blockN x (P0.extract p q).data.toList = y := ⟨_, rfl⟩
   rw [hy] at HA HE
   clear hy
   go_wp2_with (first | (go_at_call 324; refine HA.mono ?_; rintro e w2 ⟨rfl, hb2⟩) | (refine step_storeRow 310 c 8 (stf y) (Row.below HR.out.1 hb2 HL.out) rfl rfl rfl rfl rfl info8 ?_; intro W3 HW3))
   have H2 : Hid (Row W3 c 310 8 (stf (blocksN firstN P0.data.toList (k + 1))) /\ Below w.heap.size w W3) := by
    have hW3 := HW3.out
    subst hW3
    rw [<- HE.out]
    exact ⟨Row.setRow (Row.below HR.out.1 hb2 HL.out), below_setRow (HR.out.2.trans (hb2.mono HR.out.2.size)) HC.out _⟩
   clear HA HW3 hb2 HR HE HL
   go_wp2_with fail
   go_roundw
   case rel => exact ⟨k + 1, by omega, by go_num, H2⟩
   case measure => simp [intOf]; omega
  ·have hkN : k = N := by omega
   subst hkN
   have hN2 := HP.out.2
   have HD : Hid (bytesOfSt (blocksN firstN P0.data.toList k) = digL s.data.toList) := by
    show _ = bytesOfSt (blocksN firstN (padL s.data.toList) ((padL s.data.toList).length / 64))
    have e1 : P0.data.toList = padL s.data.toList := by rw [<- HP.out.1]; rfl
    have e2 : (padL s.data.toList).length = 64 * k := by rw [<- e1]; exact hN2
    rw [e1, e2, Nat.mul_div_cancel_left k (by decide)]
   have hok : (blocksN firstN P0.data.toList k).ok := blocksN_ok _ _ firstN_ok
   obtain ⟨y, hy⟩ : ∃ y, blocksN firstN P0.data.toList k = y := ⟨_, rfl⟩
   rw [hy] at H HD hok
   clear hy hN2
   go_wp2_with (first | (refine step_loadRow 310 285 c 8 H.out.1 rfl rfl rfl Tryz.underlying310 info8 ?_) | (go_at_call 325; refine (inBytes_any y _ hok).mono ?_; rintro e w2 ⟨rfl, hb2⟩))
   go_ret
   exact ⟨by rw [HD.out]; rfl, H.out.2.trans (hb2.mono H.out.2.size)⟩
end Go.Proofs.YtjgbmnhoajiabaaGreatDoor
