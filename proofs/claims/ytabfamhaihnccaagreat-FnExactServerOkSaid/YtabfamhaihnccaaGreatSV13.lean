/-
  Texts of the proof.
-/
import Derived.Test.YtabfamhaihnccaaGreatShelf
import Derived.Laws.IdiomStrings
import Derived.Test.YtabfamhaihnccaaGreatSV12
set_option maxRecDepth 100000
set_option maxHeartbeats 25600000
namespace Go.Proofs.YtabfamhaihnccaaGreat
open Go.RowKit Der
theorem cloneB_any (s : ByteArray) (w : World) (hs : s.size <= 1000000000000) : Calls Tryz.prog 148 #[.string s] w fun e w' => e = .returned (.string s) /\ Below w.heap.size w w' := by
 go_enter Tryz.func148, Tryz.ntmps148
 go_wp2_with (go_at_call 186; refine (Tryz.stringslite_Clone s _ (by omega)).mono ?_; rintro e w1 ⟨rfl, hb1⟩)
 go_ret
 exact ⟨rfl, hb1⟩
def lineB (l : List UInt8) : Bool := l.all fun b => decide (32 <= b) && decide (b <= 126)
theorem lineB_bad {s : ByteArray} {k : Nat} (hk : k < s.size) (h : s[k].toNat < 32 ∨ 126 < s[k].toNat) : lineB s.data.toList = false := by
 unfold lineB
 rw [List.all_eq_false]
 refine ⟨s[k], ?_, ?_⟩
 ·rw [List.mem_iff_getElem]
  exact ⟨k, by simpa using hk, rfl⟩
 ·simp only [Bool.and_eq_true, decide_eq_true_eq, UInt8.le_iff_toNat_le]
  intro h2
  have h3 : (32 : UInt8).toNat = 32 := rfl
  have h4 : (126 : UInt8).toNat = 126 := rfl
  omega
theorem lineB_ok {s : ByteArray} (h : ∀ k (hk : k < s.size), 32 <= s[k].toNat /\ s[k].toNat <= 126) : lineB s.data.toList = true := by
 unfold lineB
 rw [List.all_eq_true]
 intro b hb
 obtain ⟨k, hk, rfl⟩ := List.getElem_of_mem hb
 have := h k (by simpa using hk)
 simp only [Bool.and_eq_true, decide_eq_true_eq, UInt8.le_iff_toNat_le]
 exact this
theorem plainLineB_any (s : ByteArray) (w : World) (hs : s.size <= 1000000000000) : Calls Tryz.prog 206 #[.string s] w fun e w' => e = .returned (.bool (lineB s.data.toList)) /\ Below w.heap.size w w' := by
 have hcv := fun w => run_bytes_of_string (P := Tryz.prog) w 9 201 5 s Tryz.underlying9 Tryz.underlying201 Tryz.underlying5
 go_enter Tryz.func206, Tryz.ntmps206
 go_wp2
 generalize hC : grownCap w s.size 0 5 = C
 have HCell : Hid (∀ j (hj : j < s.size), ((w.alloc (.cells (bytesRow s C) 5 ((bytesRow s C).size, (bytesRow s C).size + 1))).drew).cell? ⟨w.heap.size, j, none⟩ = some (.int .u8 ((s[j]'hj).toNat : Int))) := fun j hj => by
  show (w.alloc (.cells (bytesRow s C) 5 ((bytesRow s C).size, (bytesRow s C).size + 1))).cell? ⟨w.heap.size, j, none⟩ = _
  rw [World.cell?_alloc_mark, bytesRow_at s C j hj]; rfl
 clear hC hcv
 go_loopw [8] (fun iv wr => ∃ k : Nat, k <= s.size /\ iv = .int .i64 k /\ Hid (∀ j (hj : j < s.size), j < k -> 32 <= s[j].toNat /\ s[j].toNat <= 126) /\ (w.alloc (.cells (bytesRow s C) 5 ((bytesRow s C).size, (bytesRow s C).size + 1))).drew = wr) (fun iv _ => s.size - (intOf iv).toNat)
 case atStart => exact ⟨0, Nat.zero_le _, rfl, fun j _ h => absurd h (Nat.not_lt_zero _), rfl⟩
 case round =>
  obtain ⟨k, hk, rfl, HP, rfl⟩ := hrel
  by_cases hlt : k < s.size
  ·have hc := s[k].toNat_lt
   have hck : (w.alloc (.cells (bytesRow s C) 5 ((bytesRow s C).size, (bytesRow s C).size + 1))).cell? ⟨w.heap.size, k, none⟩ = some (.int .u8 (s[k].toNat : Int)) := HCell.out k hlt
   by_cases h1 : s[k].toNat < 32
   ·have HF : Hid (lineB s.data.toList = false) := lineB_bad hlt (.inl h1)
    go_wp2
    go_ret
    exact ⟨by rw [HF.out]; rfl, ((Below.refl _ _).alloc (Nat.le_refl _) _).drew⟩
   ·by_cases h2 : 126 < s[k].toNat
    ·have HF : Hid (lineB s.data.toList = false) := lineB_bad hlt (.inr h2)
     go_wp2
     go_ret
     exact ⟨by rw [HF.out]; rfl, ((Below.refl _ _).alloc (Nat.le_refl _) _).drew⟩
    ·have HN : Hid (∀ j (hj : j < s.size), j < k + 1 -> 32 <= s[j].toNat /\ s[j].toNat <= 126) := fun j hj hjk => by
      by_cases e : j = k
      ·subst e; omega
      ·exact HP.out j hj (by omega)
     go_wp2
     go_roundw
     case rel => exact ⟨k + 1, by omega, by go_num, HN, by first | rfl | trivial⟩
     case measure => simp [intOf]; omega
  ·have HF : Hid (lineB s.data.toList = true) := lineB_ok fun j hj => HP.out j hj (by omega)
   go_wp2
   go_ret
   exact ⟨by rw [HF.out]; rfl, ((Below.refl _ _).alloc (Nat.le_refl _) _).drew⟩
end Go.Proofs.YtabfamhaihnccaaGreat
namespace Go.Proofs.YtabfamhaihnccaaGreat
open Go.RowKit
set_option linter.unusedVariables false
set_option linter.unusedSimpArgs false
theorem toStore_any (s : So) (v : Value) (B : Nat) (w : World) (hl : wtO s <= 1048576) (hB : B <= w.heap.size) (ha : ArgO B w v s) :
  Calls Tryz.prog 32 #[v] w fun e w' => ∃ u fp, e = .returned u /\ OwnO w' w.heap.size u s fp /\ Below w.heap.size w w' := by
 obtain ⟨a1, c1, a2, c2, a3, c3, rfl, h1, h2, h3⟩ := ha
 obtain ⟨n1, e1⟩ := zE (s.certs.length)
 obtain ⟨n2, e2⟩ := zE (s.crls.length)
 obtain ⟨n3, e3⟩ := zE (s.ancs.length)
 unfold wtO at hl
 rw [e1] at h1 |-
 rw [e2] at h2 |-
 rw [e3] at h3 |-
 have T1 : Hid (∀ W, Below w.heap.size w W -> Calls Tryz.prog 79 #[.slice a1 n1 c1] W fun e w' => ∃ q m fp, e = .returned (.slice q n1 m) /\ OwnS certKd w' W.heap.size (.slice q n1 m) s.certs fp /\ Below W.heap.size W w') := fun W hb => (toCertS_any _ s.certs B W (by omega) (Nat.le_trans hB hb.size) (h1.below (hb.mono hB) (Nat.le_refl _))).mono fun e w' h => by
  obtain ⟨u, fp, rfl, ho, hb⟩ := h
  obtain ⟨q, m, hs⟩ := ho.at.shape
  rw [e1] at hs
  subst hs
  exact ⟨q, m, fp, rfl, ho, hb⟩
 have T2 : Hid (∀ W, Below w.heap.size w W -> Calls Tryz.prog 80 #[.slice a2 n2 c2] W fun e w' => ∃ q m fp, e = .returned (.slice q n2 m) /\ OwnS crlKd w' W.heap.size (.slice q n2 m) s.crls fp /\ Below W.heap.size W w') := fun W hb => (toCrlS_any _ s.crls B W (by omega) (Nat.le_trans hB hb.size) (h2.below (hb.mono hB) (Nat.le_refl _))).mono fun e w' h => by
  obtain ⟨u, fp, rfl, ho, hb⟩ := h
  obtain ⟨q, m, hs⟩ := ho.at.shape
  rw [e2] at hs
  subst hs
  exact ⟨q, m, fp, rfl, ho, hb⟩
 have T3 : Hid (∀ W, Below w.heap.size w W -> Calls Tryz.prog 81 #[.slice a3 n3 c3] W fun e w' => ∃ q m fp, e = .returned (.slice q n3 m) /\ OwnS anKd w' W.heap.size (.slice q n3 m) s.ancs fp /\ Below W.heap.size W w') := fun W hb => (toAnchorS_any _ s.ancs B W (by omega) (Nat.le_trans hB hb.size) (h3.below (hb.mono hB) (Nat.le_refl _))).mono fun e w' h => by
  obtain ⟨u, fp, rfl, ho, hb⟩ := h
  obtain ⟨q, m, hs⟩ := ho.at.shape
  rw [e3] at hs
  subst hs
  exact ⟨q, m, fp, rfl, ho, hb⟩
 clear h1 h2 h3 hl e1 e2 e3
 go_enter Tryz.func32, Tryz.ntmps32
 go_wp2_with fail
 obtain ⟨W3, hW3⟩ : ∃ W, W = (((w.alloc (Obj.cells #[.slice a1 n1 c1, .slice a2 n2 c2, .slice a3 n3 c3] 26)).alloc (Obj.cells #[.slice none 0 0, .slice none 0 0, .slice none 0 0] 37)).alloc (Obj.cells #[.slice none 0 0, .slice none 0 0, .slice none 0 0] 37)) := ⟨_, rfl⟩
 change Calls _ _ _ (((w.alloc (Obj.cells #[.slice a1 n1 c1, .slice a2 n2 c2, .slice a3 n3 c3] 26)).alloc (Obj.cells #[.slice none 0 0, .slice none 0 0, .slice none 0 0] 37)).alloc (Obj.cells #[.slice none 0 0, .slice none 0 0, .slice none 0 0] 37)) _
 rw [<- hW3]
 have e0 : (w.alloc (Obj.cells #[.slice a1 n1 c1, .slice a2 n2 c2, .slice a3 n3 c3] 26)).heap.size = w.heap.size + 1 := Array.size_push _
 have e1 : ((w.alloc (Obj.cells #[.slice a1 n1 c1, .slice a2 n2 c2, .slice a3 n3 c3] 26)).alloc (Obj.cells #[.slice none 0 0, .slice none 0 0, .slice none 0 0] 37)).heap.size = w.heap.size + 1 + 1 := by rw [size_alloc, e0]
 have G0 : Hid (Blk W3 w.heap.size 26 #[.slice a1 n1 c1, .slice a2 n2 c2, .slice a3 n3 c3] /\ Blk W3 (w.heap.size + 1) 37 #[.slice none 0 0, .slice none 0 0, .slice none 0 0] /\ Blk W3 (w.heap.size + 1 + 1) 37 #[.slice none 0 0, .slice none 0 0, .slice none 0 0] /\ Below w.heap.size w W3 /\ w.heap.size + 1 + 1 + 1 <= W3.heap.size) := by
  rw [hW3]
  refine ⟨((Blk.new w _ _).alloc _).alloc _, ?_, ?_, (((Below.refl _ _).alloc (Nat.le_refl _) _).alloc (by rw [e0]; omega) _).alloc (by rw [e1]; omega) _, by rw [size_alloc, e1]; omega⟩
  ·have h := (Blk.new (w.alloc (Obj.cells #[.slice a1 n1 c1, .slice a2 n2 c2, .slice a3 n3 c3] 26)) 37 #[.slice none 0 0, .slice none 0 0, .slice none 0 0]).alloc (Obj.cells #[.slice none 0 0, .slice none 0 0, .slice none 0 0] 37)
   rw [e0] at h
   exact h
  ·have h := Blk.new ((w.alloc (Obj.cells #[.slice a1 n1 c1, .slice a2 n2 c2, .slice a3 n3 c3] 26)).alloc (Obj.cells #[.slice none 0 0, .slice none 0 0, .slice none 0 0] 37)) 37 #[.slice none 0 0, .slice none 0 0, .slice none 0 0]
   rw [e1] at h
   exact h
 clear hW3 e0 e1
 have wd1 : w.heap.size ≠ w.heap.size + 1 + 1 := by omega
 have wd2 : w.heap.size + 1 ≠ w.heap.size + 1 + 1 := by omega
 refine (T1.out W3 G0.out.2.2.2.1).mono ?_
 rintro r u1 ⟨q1, m1, f1, rfl, o1, hb⟩
 have G1 : Hid (Blk u1 w.heap.size 26 #[.slice a1 n1 c1, .slice a2 n2 c2, .slice a3 n3 c3] /\ Blk u1 (w.heap.size + 1) 37 #[.slice none 0 0, .slice none 0 0, .slice none 0 0] /\ Blk u1 (w.heap.size + 1 + 1) 37 #[.slice none 0 0, .slice none 0 0, .slice none 0 0] /\ Below w.heap.size w u1 /\ w.heap.size + 1 + 1 + 1 <= u1.heap.size) := by
  have hz := G0.out.2.2.2.2
  exact ⟨G0.out.1.below hb (by omega), G0.out.2.1.below hb (by omega), G0.out.2.2.1.below hb (by omega), G0.out.2.2.2.1.trans (hb.mono G0.out.2.2.2.1.size), Nat.le_trans hz hb.size⟩
 have O1 : Hid (OwnS certKd u1 (w.heap.size + 1 + 1 + 1) (.slice q1 n1 m1) s.certs f1) := o1.base G0.out.2.2.2.2
 clear o1 hb G0 T1
 have fr := fun j => G1.out.2.2.1.free j
 have x1 := fun j => G1.out.1.cell j
 have x2 := fun j => G1.out.2.2.1.cell j
 go_wp2_with fail
 clear x1 x2 fr
 obtain ⟨V1, hV1⟩ : ∃ W, W = u1.setCell ⟨w.heap.size + 1 + 1, 0, none⟩ (.slice q1 n1 m1) := ⟨_, rfl⟩
 rw [<- hV1]
 have K1 : Hid (Blk V1 w.heap.size 26 #[.slice a1 n1 c1, .slice a2 n2 c2, .slice a3 n3 c3] /\ Blk V1 (w.heap.size + 1) 37 #[.slice none 0 0, .slice none 0 0, .slice none 0 0] /\ Blk V1 (w.heap.size + 1 + 1) 37 #[.slice q1 n1 m1, .slice none 0 0, .slice none 0 0] /\ Below w.heap.size w V1 /\ w.heap.size + 1 + 1 + 1 <= V1.heap.size) := by
  rw [hV1]
  have hz := G1.out.2.2.2.2
  exact ⟨G1.out.1.other _ wd1, G1.out.2.1.other _ wd2, G1.out.2.2.1.set 0 _, Below.setCell G1.out.2.2.2.1 (by show w.heap.size <= w.heap.size + 1 + 1; omega) _, Nat.le_trans hz (sizeSet _ _ _)⟩
 have P1 : Hid (OwnS certKd V1 (w.heap.size + 1 + 1 + 1) (.slice q1 n1 m1) s.certs f1) := by rw [hV1]; exact O1.out.same fun b hb => by have h := O1.out.lt b hb; rw [heap_setCell_other _ _ _ _ (by show b ≠ w.heap.size + 1 + 1; omega)]
 clear hV1 G1 O1
 refine (T2.out V1 K1.out.2.2.2.1).mono ?_
 rintro r u2 ⟨q2, m2, f2, rfl, o2, hb⟩
 have G2 : Hid (Blk u2 w.heap.size 26 #[.slice a1 n1 c1, .slice a2 n2 c2, .slice a3 n3 c3] /\ Blk u2 (w.heap.size + 1) 37 #[.slice none 0 0, .slice none 0 0, .slice none 0 0] /\ Blk u2 (w.heap.size + 1 + 1) 37 #[.slice q1 n1 m1, .slice none 0 0, .slice none 0 0] /\ Below w.heap.size w u2 /\ w.heap.size + 1 + 1 + 1 <= u2.heap.size) := by
  have hz := K1.out.2.2.2.2
  exact ⟨K1.out.1.below hb (by omega), K1.out.2.1.below hb (by omega), K1.out.2.2.1.below hb (by omega), K1.out.2.2.2.1.trans (hb.mono K1.out.2.2.2.1.size), Nat.le_trans hz hb.size⟩
 have O2 : Hid (OwnS crlKd u2 (w.heap.size + 1 + 1 + 1) (.slice q2 n2 m2) s.crls f2) := o2.base K1.out.2.2.2.2
 have O1 : Hid (OwnS certKd u2 (w.heap.size + 1 + 1 + 1) (.slice q1 n1 m1) s.certs f1) := P1.out.stays hb
 have D12 : Hid (∀ b ∈ f1, b ∉ f2) := fun b h1 h2 => by have g1 := P1.out.lt b h1; have g2 := o2.lt b h2; omega
 clear o2 hb K1 T2 P1
 have fr := fun j => G2.out.2.2.1.free j
 have x1 := fun j => G2.out.1.cell j
 have x2 := fun j => G2.out.2.2.1.cell j
 go_wp2_with fail
 clear x1 x2 fr
 obtain ⟨V2, hV2⟩ : ∃ W, W = u2.setCell ⟨w.heap.size + 1 + 1, 1, none⟩ (.slice q2 n2 m2) := ⟨_, rfl⟩
 rw [<- hV2]
 have K2 : Hid (Blk V2 w.heap.size 26 #[.slice a1 n1 c1, .slice a2 n2 c2, .slice a3 n3 c3] /\ Blk V2 (w.heap.size + 1) 37 #[.slice none 0 0, .slice none 0 0, .slice none 0 0] /\ Blk V2 (w.heap.size + 1 + 1) 37 #[.slice q1 n1 m1, .slice q2 n2 m2, .slice none 0 0] /\ Below w.heap.size w V2 /\ w.heap.size + 1 + 1 + 1 <= V2.heap.size) := by
  rw [hV2]
  have hz := G2.out.2.2.2.2
  exact ⟨G2.out.1.other _ wd1, G2.out.2.1.other _ wd2, G2.out.2.2.1.set 1 _, Below.setCell G2.out.2.2.2.1 (by show w.heap.size <= w.heap.size + 1 + 1; omega) _, Nat.le_trans hz (sizeSet _ _ _)⟩
 have P1 : Hid (OwnS certKd V2 (w.heap.size + 1 + 1 + 1) (.slice q1 n1 m1) s.certs f1) := by rw [hV2]; exact O1.out.same fun b hb => by have h := O1.out.lt b hb; rw [heap_setCell_other _ _ _ _ (by show b ≠ w.heap.size + 1 + 1; omega)]
 have P2 : Hid (OwnS crlKd V2 (w.heap.size + 1 + 1 + 1) (.slice q2 n2 m2) s.crls f2) := by rw [hV2]; exact O2.out.same fun b hb => by have h := O2.out.lt b hb; rw [heap_setCell_other _ _ _ _ (by show b ≠ w.heap.size + 1 + 1; omega)]
 clear hV2 G2 O1 O2
 refine (T3.out V2 K2.out.2.2.2.1).mono ?_
 rintro r u3 ⟨q3, m3, f3, rfl, o3, hb⟩
 have G3 : Hid (Blk u3 w.heap.size 26 #[.slice a1 n1 c1, .slice a2 n2 c2, .slice a3 n3 c3] /\ Blk u3 (w.heap.size + 1) 37 #[.slice none 0 0, .slice none 0 0, .slice none 0 0] /\ Blk u3 (w.heap.size + 1 + 1) 37 #[.slice q1 n1 m1, .slice q2 n2 m2, .slice none 0 0] /\ Below w.heap.size w u3 /\ w.heap.size + 1 + 1 + 1 <= u3.heap.size) := by
  have hz := K2.out.2.2.2.2
  exact ⟨K2.out.1.below hb (by omega), K2.out.2.1.below hb (by omega), K2.out.2.2.1.below hb (by omega), K2.out.2.2.2.1.trans (hb.mono K2.out.2.2.2.1.size), Nat.le_trans hz hb.size⟩
 have O3 : Hid (OwnS anKd u3 (w.heap.size + 1 + 1 + 1) (.slice q3 n3 m3) s.ancs f3) := o3.base K2.out.2.2.2.2
 have O1 : Hid (OwnS certKd u3 (w.heap.size + 1 + 1 + 1) (.slice q1 n1 m1) s.certs f1) := P1.out.stays hb
 have D13 : Hid (∀ b ∈ f1, b ∉ f3) := fun b h1 h2 => by have g1 := P1.out.lt b h1; have g2 := o3.lt b h2; omega
 have O2 : Hid (OwnS crlKd u3 (w.heap.size + 1 + 1 + 1) (.slice q2 n2 m2) s.crls f2) := P2.out.stays hb
 have D23 : Hid (∀ b ∈ f2, b ∉ f3) := fun b h1 h2 => by have g1 := P2.out.lt b h1; have g2 := o3.lt b h2; omega
 clear o3 hb K2 T3 P1 P2
 have fr := fun j => G3.out.2.2.1.free j
 have f0 := fun j => G3.out.2.1.free j
 have c10 := fun j => G3.out.2.1.cell j
 have c20 := fun j => G3.out.2.2.1.cell j
 have c11 := fun j => G3.out.2.1.cell j
 have c21 := fun j => G3.out.2.2.1.cell j
 have c12 := fun j => G3.out.2.1.cell j
 have c22 := fun j => G3.out.2.2.1.cell j
 go_wp2_with fail
 refine bodyPost_ret (v := .agg #[.slice q1 n1 m1, .slice q2 n2 m2, .slice q3 n3 m3]) (by simp [results, Tryz.results32, go_sem, c10, c11, c12]) rfl ⟨_, f1 ++ (f2 ++ f3), rfl, OwnO.same (w := u3) ⟨_, _, _, f1, f2, f3, rfl, O1.out.base (by omega), O2.out.base (by omega), O3.out.base (by omega), rfl, ?nd⟩ ?far, ?bel⟩
 case nd =>
  exact nodup_app O1.out.nodup (nodup_app O2.out.nodup O3.out.nodup fun y h1 h2 => D23.out y h1 h2) fun y h1 h2 => by
   rcases List.mem_append.1 h2 with h2 | h2
   ·exact D12.out y h1 h2
   ·exact D13.out y h1 h2
 case far =>
  intro b hb
  have hlt : w.heap.size + 1 + 1 + 1 <= b := by
   rcases List.mem_append.1 hb with hb | hb
   ·exact (O1.out.lt b hb).1
   ·rcases List.mem_append.1 hb with hb | hb
    ·exact (O2.out.lt b hb).1
    ·exact (O3.out.lt b hb).1
  iterate 4 rw [heap_setCell_other _ _ _ _ (by first | (show b ≠ w.heap.size + 1; omega) | (show b ≠ w.heap.size + 1 + 1; omega))]
 case bel =>
  iterate 4 refine Below.setCell ?_ (by first | (show w.heap.size <= w.heap.size + 1; omega) | (show w.heap.size <= w.heap.size + 1 + 1; omega)) _
  exact G3.out.2.2.2.1
theorem szStore_any (s : So) (v : Value) (left : Int) (w : World) (hwd : WdO s) (h0 : 0 <= left) (hl : left <= 1048576) (ha : ArgO w.heap.size w v s) :
  Calls Tryz.prog 25 #[v, .int .i64 left] w fun e w' => e = .returned (.int .i64 (szO s left)) /\ Below w.heap.size w w' := by
 obtain ⟨a1, c1, a2, c2, a3, c3, rfl, h1, h2, h3⟩ := ha
 obtain ⟨⟨wd1, l1⟩, ⟨wd2, l2⟩, wd3, l3⟩ := hwd
 obtain ⟨n1, e1⟩ := zE (s.certs.length)
 obtain ⟨n2, e2⟩ := zE (s.crls.length)
 obtain ⟨n3, e3⟩ := zE (s.ancs.length)
 rw [e1] at h1 |-
 rw [e2] at h2 |-
 rw [e3] at h3 |-
 obtain ⟨r1, hr1⟩ : ∃ r : Int, r = if (wtM s.certs : Int) <= left then left - (wtM s.certs : Int) else -1 := ⟨_, rfl⟩
 have Z1 : Hid (∀ W, Below w.heap.size w W -> Calls Tryz.prog 69 #[.slice a1 n1 c1, .int .i64 left] W fun e w' => e = .returned (.int .i64 r1) /\ Below W.heap.size W w') := fun W hb => by rw [hr1]; exact szCertS_any _ s.certs left W l1 wd1 h0 hl (h1.below hb hb.size)
 obtain ⟨r2, hr2⟩ : ∃ r : Int, r = if (wtS s.crls : Int) <= r1 then r1 - (wtS s.crls : Int) else -1 := ⟨_, rfl⟩
 have Z2 : Hid (0 <= r1 -> ∀ W, Below w.heap.size w W -> Calls Tryz.prog 70 #[.slice a2 n2 c2, .int .i64 r1] W fun e w' => e = .returned (.int .i64 r2) /\ Below W.heap.size W w') := fun hr W hb => by rw [hr2]; exact szCrlS_any _ s.crls r1 W l2 wd2 hr (by split at hr1 <;> omega) (h2.below hb hb.size)
 obtain ⟨r3, hr3⟩ : ∃ r : Int, r = if (wtN s.ancs : Int) <= r2 then r2 - (wtN s.ancs : Int) else -1 := ⟨_, rfl⟩
 have Z3 : Hid (0 <= r1 -> 0 <= r2 -> ∀ W, Below w.heap.size w W -> Calls Tryz.prog 71 #[.slice a3 n3 c3, .int .i64 r2] W fun e w' => e = .returned (.int .i64 r3) /\ Below W.heap.size W w') := fun hr hr' W hb => by rw [hr3]; exact szAnchorS_any _ s.ancs r2 W l3 wd3 hr' (by split at hr1 <;> split at hr2 <;> omega) (h3.below hb hb.size)
 have HF0 : Hid ((r1 < 0 -> szO s left = -1 /\ r1 = -1) /\ (0 <= r1 -> r2 < 0 -> szO s left = -1 /\ r2 = -1) /\ (0 <= r1 -> 0 <= r2 -> szO s left = r3 /\ (r3 < 0 -> r3 = -1))) := by
  unfold szO wtO
  refine ⟨fun g => ?_, fun g g' => ?_, fun g g' => ?_⟩
  ·split at hr1
   ·omega
   ·refine ⟨if_neg (by omega), hr1⟩
  ·split at hr1
   ·split at hr2
    ·omega
    ·exact ⟨if_neg (by omega), hr2⟩
   ·omega
  ·split at hr1
   ·split at hr2
    ·split at hr3
     ·exact ⟨by rw [if_pos (by omega)]; omega, by omega⟩
     ·exact ⟨by rw [if_neg (by omega)]; omega, by omega⟩
    ·omega
   ·omega
 clear h1 h2 h3 wd1 wd2 wd3 l1 l2 l3 hr1 hr2 hr3 e1 e2 e3
 obtain ⟨R, hR⟩ := zE (szO s left)
 rw [hR] at HF0 |-
 clear hR
 by_cases g1 : r1 < 0
 ·have HF : Hid (R = -1) := (HF0.out.1 g1).1
  have e1 := (HF0.out.1 g1).2
  clear HF0 Z2 Z3 g1
  subst e1
  go_enter Tryz.func25, Tryz.ntmps25
  go_wp2_with fail
  obtain ⟨V, hV⟩ : ∃ V, V = (w.alloc (Obj.cells #[.slice a1 n1 c1, .slice a2 n2 c2, .slice a3 n3 c3] 26)) := ⟨_, rfl⟩
  rw [<- hV]
  have G0 : Hid (Below w.heap.size w V /\ Blk V w.heap.size 26 #[.slice a1 n1 c1, .slice a2 n2 c2, .slice a3 n3 c3]) := by rw [hV]; exact ⟨(Below.refl _ _).alloc (Nat.le_refl _) _, Blk.new w _ _⟩
  clear hV
  refine (Z1.out V G0.out.1).mono ?_
  rintro e V1 ⟨rfl, hb⟩
  have G1 := zH (zJ (G0.out.1.trans (hb.mono G0.out.1.size)) (G0.out.2.below hb G0.out.2.lt))
  clear hb G0
  have d0 := fun j => G1.out.2.cell j
  go_wp2_with fail
  go_ret
  exact ⟨HF.out ▸ rfl, G1.out.1⟩
 ·have p1 : 0 <= r1 := by omega
  have Z2b : Hid _ := Z2.out p1
  clear Z2
  by_cases g2 : r2 < 0
  ·have HF : Hid (R = -1) := (HF0.out.2.1 p1 g2).1
   have e1 := (HF0.out.2.1 p1 g2).2
   clear HF0 Z3 g2
   subst e1
   go_enter Tryz.func25, Tryz.ntmps25
   go_wp2_with fail
   obtain ⟨V, hV⟩ : ∃ V, V = (w.alloc (Obj.cells #[.slice a1 n1 c1, .slice a2 n2 c2, .slice a3 n3 c3] 26)) := ⟨_, rfl⟩
   rw [<- hV]
   have G0 : Hid (Below w.heap.size w V /\ Blk V w.heap.size 26 #[.slice a1 n1 c1, .slice a2 n2 c2, .slice a3 n3 c3]) := by rw [hV]; exact ⟨(Below.refl _ _).alloc (Nat.le_refl _) _, Blk.new w _ _⟩
   clear hV
   refine (Z1.out V G0.out.1).mono ?_
   rintro e V1 ⟨rfl, hb⟩
   have G1 := zH (zJ (G0.out.1.trans (hb.mono G0.out.1.size)) (G0.out.2.below hb G0.out.2.lt))
   clear hb G0
   have d0 := fun j => G1.out.2.cell j
   go_wp2_with fail
   clear d0
   refine (Z2b.out V1 G1.out.1).mono ?_
   rintro e V2 ⟨rfl, hb⟩
   have G2 := zH (zJ (G1.out.1.trans (hb.mono G1.out.1.size)) (G1.out.2.below hb G1.out.2.lt))
   clear hb G1
   have d0 := fun j => G2.out.2.cell j
   go_wp2_with fail
   go_ret
   exact ⟨HF.out ▸ rfl, G2.out.1⟩
  ·have p2 : 0 <= r2 := by omega
   have Z3b : Hid _ := Z3.out p1 p2
   have HF : Hid (R = r3) := (HF0.out.2.2 p1 p2).1
   have HF2 := (HF0.out.2.2 p1 p2).2
   clear HF0 Z3
   by_cases g3 : r3 < 0
   ·have e3 := HF2 g3
    clear HF2 g3
    subst e3
    go_enter Tryz.func25, Tryz.ntmps25
    go_wp2_with fail
    obtain ⟨V, hV⟩ : ∃ V, V = (w.alloc (Obj.cells #[.slice a1 n1 c1, .slice a2 n2 c2, .slice a3 n3 c3] 26)) := ⟨_, rfl⟩
    rw [<- hV]
    have G0 : Hid (Below w.heap.size w V /\ Blk V w.heap.size 26 #[.slice a1 n1 c1, .slice a2 n2 c2, .slice a3 n3 c3]) := by rw [hV]; exact ⟨(Below.refl _ _).alloc (Nat.le_refl _) _, Blk.new w _ _⟩
    clear hV
    refine (Z1.out V G0.out.1).mono ?_
    rintro e V1 ⟨rfl, hb⟩
    have G1 := zH (zJ (G0.out.1.trans (hb.mono G0.out.1.size)) (G0.out.2.below hb G0.out.2.lt))
    clear hb G0
    have d0 := fun j => G1.out.2.cell j
    go_wp2_with fail
    clear d0
    refine (Z2b.out V1 G1.out.1).mono ?_
    rintro e V2 ⟨rfl, hb⟩
    have G2 := zH (zJ (G1.out.1.trans (hb.mono G1.out.1.size)) (G1.out.2.below hb G1.out.2.lt))
    clear hb G1
    have d0 := fun j => G2.out.2.cell j
    go_wp2_with fail
    clear d0
    refine (Z3b.out V2 G2.out.1).mono ?_
    rintro e V3 ⟨rfl, hb⟩
    have G3 := zH (zJ (G2.out.1.trans (hb.mono G2.out.1.size)) (G2.out.2.below hb G2.out.2.lt))
    clear hb G2
    go_wp2_with fail
    go_ret
    exact ⟨HF.out ▸ rfl, G3.out.1⟩
   ·clear HF2
    go_enter Tryz.func25, Tryz.ntmps25
    go_wp2_with fail
    obtain ⟨V, hV⟩ : ∃ V, V = (w.alloc (Obj.cells #[.slice a1 n1 c1, .slice a2 n2 c2, .slice a3 n3 c3] 26)) := ⟨_, rfl⟩
    rw [<- hV]
    have G0 : Hid (Below w.heap.size w V /\ Blk V w.heap.size 26 #[.slice a1 n1 c1, .slice a2 n2 c2, .slice a3 n3 c3]) := by rw [hV]; exact ⟨(Below.refl _ _).alloc (Nat.le_refl _) _, Blk.new w _ _⟩
    clear hV
    refine (Z1.out V G0.out.1).mono ?_
    rintro e V1 ⟨rfl, hb⟩
    have G1 := zH (zJ (G0.out.1.trans (hb.mono G0.out.1.size)) (G0.out.2.below hb G0.out.2.lt))
    clear hb G0
    have d0 := fun j => G1.out.2.cell j
    go_wp2_with fail
    clear d0
    refine (Z2b.out V1 G1.out.1).mono ?_
    rintro e V2 ⟨rfl, hb⟩
    have G2 := zH (zJ (G1.out.1.trans (hb.mono G1.out.1.size)) (G1.out.2.below hb G1.out.2.lt))
    clear hb G1
    have d0 := fun j => G2.out.2.cell j
    go_wp2_with fail
    clear d0
    refine (Z3b.out V2 G2.out.1).mono ?_
    rintro e V3 ⟨rfl, hb⟩
    have G3 := zH (zJ (G2.out.1.trans (hb.mono G2.out.1.size)) (G2.out.2.below hb G2.out.2.lt))
    clear hb G2
    go_wp2_with fail
    go_ret
    exact ⟨HF.out ▸ rfl, G3.out.1⟩
theorem eqStore_wide (s : So) (a b : Value) (w : World) (hl : wtM s.certs <= 1000000000 /\ wtS s.crls <= 1000000000 /\ s.ancs.length <= 1000000000) (ha : SoAt w a s) (hb : SoAt w b s) :
  Calls Tryz.prog 38 #[a, b] w fun e w' => e = .returned (.bool true) /\ Below w.heap.size w w' := by
 obtain ⟨a1, c1, a2, c2, a3, c3, rfl⟩ := ha.shape
 obtain ⟨b1, d1, b2, d2, b3, d3, rfl⟩ := hb.shape
 obtain ⟨k1, k2, k3⟩ := ha.rows
 obtain ⟨j1, j2, j3⟩ := hb.rows
 have Q1 : Hid (∀ W, Below w.heap.size w W -> Calls Tryz.prog 92 #[.slice a1 s.certs.length c1, .slice b1 s.certs.length d1] W (fun e w' => e = .returned (.bool true) /\ Below W.heap.size W w')) := fun W h => eqCertS_same s.certs _ _ W hl.1 (k1.below h) (j1.below h)
 have Q2 : Hid (∀ W, Below w.heap.size w W -> Calls Tryz.prog 93 #[.slice a2 s.crls.length c2, .slice b2 s.crls.length d2] W (fun e w' => e = .returned (.bool true) /\ Below W.heap.size W w')) := fun W h => eqCrlS_same s.crls _ _ W hl.2.1 (k2.below h) (j2.below h)
 have Q3 : Hid (∀ W, Below w.heap.size w W -> Calls Tryz.prog 94 #[.slice a3 s.ancs.length c3, .slice b3 s.ancs.length d3] W (fun e w' => e = .returned (.bool true) /\ Below W.heap.size W w')) := fun W h => eqAnchorS_same s.ancs _ _ W hl.2.2 (k3.below h) (j3.below h)
 clear ha hb k1 k2 k3 j1 j2 j3 hl
 obtain ⟨n1, e1⟩ := zE (s.certs.length)
 obtain ⟨n2, e2⟩ := zE (s.crls.length)
 obtain ⟨n3, e3⟩ := zE (s.ancs.length)
 rw [e1] at Q1 |-
 rw [e2] at Q2 |-
 rw [e3] at Q3 |-
 clear e1 e2 e3
 go_enter Tryz.func38, Tryz.ntmps38
 go_wp2_with fail
 obtain ⟨V, hV⟩ : ∃ V, V = ((w.alloc (Obj.cells #[.slice a1 n1 c1, .slice a2 n2 c2, .slice a3 n3 c3] 37)).alloc (Obj.cells #[.slice b1 n1 d1, .slice b2 n2 d2, .slice b3 n3 d3] 37)) := ⟨_, rfl⟩
 rw [<- hV]
 have G0 : Hid (Blk V w.heap.size 37 #[.slice a1 n1 c1, .slice a2 n2 c2, .slice a3 n3 c3] /\ Blk V (w.heap.size + 1) 37 #[.slice b1 n1 d1, .slice b2 n2 d2, .slice b3 n3 d3] /\ Below w.heap.size w V /\ w.heap.size + 1 < V.heap.size) := by
  have e0 : (w.alloc (Obj.cells #[.slice a1 n1 c1, .slice a2 n2 c2, .slice a3 n3 c3] 37)).heap.size = w.heap.size + 1 := Array.size_push _
  have h := Blk.new (w.alloc (Obj.cells #[.slice a1 n1 c1, .slice a2 n2 c2, .slice a3 n3 c3] 37)) 37 #[.slice b1 n1 d1, .slice b2 n2 d2, .slice b3 n3 d3]
  rw [e0] at h
  rw [hV]
  exact ⟨(Blk.new w _ _).alloc _, h, ((Below.refl _ _).alloc (Nat.le_refl _) _).alloc (by rw [e0]; omega) _, by rw [size_alloc, e0]; omega⟩
 clear hV
 refine (Q1.out V G0.out.2.2.1).mono ?_
 rintro e V1 ⟨rfl, hb⟩
 have G1 := zH (zJ (G0.out.1.below hb (by have := G0.out.2.2.2; omega) : Blk V1 w.heap.size 37 #[.slice a1 n1 c1, .slice a2 n2 c2, .slice a3 n3 c3]) (zJ (G0.out.2.1.below hb G0.out.2.2.2) (zJ (G0.out.2.2.1.trans (hb.mono G0.out.2.2.1.size)) (Nat.lt_of_lt_of_le G0.out.2.2.2 hb.size))))
 clear hb G0
 have x1 := fun j => G1.out.1.cell j
 have x2 := fun j => G1.out.2.1.cell j
 go_wp2_with fail
 clear x1 x2
 refine (Q2.out V1 G1.out.2.2.1).mono ?_
 rintro e V2 ⟨rfl, hb⟩
 have G2 := zH (zJ (G1.out.1.below hb (by have := G1.out.2.2.2; omega) : Blk V2 w.heap.size 37 #[.slice a1 n1 c1, .slice a2 n2 c2, .slice a3 n3 c3]) (zJ (G1.out.2.1.below hb G1.out.2.2.2) (zJ (G1.out.2.2.1.trans (hb.mono G1.out.2.2.1.size)) (Nat.lt_of_lt_of_le G1.out.2.2.2 hb.size))))
 clear hb G1
 have x1 := fun j => G2.out.1.cell j
 have x2 := fun j => G2.out.2.1.cell j
 go_wp2_with fail
 clear x1 x2
 refine (Q3.out V2 G2.out.2.2.1).mono ?_
 rintro e V3 ⟨rfl, hb⟩
 have G3 := zH (zJ (G2.out.1.below hb (by have := G2.out.2.2.2; omega) : Blk V3 w.heap.size 37 #[.slice a1 n1 c1, .slice a2 n2 c2, .slice a3 n3 c3]) (zJ (G2.out.2.1.below hb G2.out.2.2.2) (zJ (G2.out.2.2.1.trans (hb.mono G2.out.2.2.1.size)) (Nat.lt_of_lt_of_le G2.out.2.2.2 hb.size))))
 clear hb G2
 go_wp2_with fail
 go_ret
 exact ⟨rfl, G3.out.2.2.1⟩
end Go.Proofs.YtabfamhaihnccaaGreat
namespace Go.Proofs.YtabfamhaihnccaaGreat
open Go.RowKit
set_option linter.unusedVariables false
theorem upTo_any (hi n : Int) (w : World) : Calls Tryz.prog 37 #[.int .i64 hi, .int .i64 n] w fun e w' => e = .returned (.bool (inB n 0 hi)) /\ Below w.heap.size w w' := by
 by_cases h : 0 <= n
 ·by_cases h2 : n <= hi
  ·have HB : Hid (inB n 0 hi = true) := decide_eq_true ⟨h, h2⟩
   go_enter Tryz.func37, Tryz.ntmps37
   go_wp2_with fail
   go_ret
   exact ⟨by rw [HB.out]; simp [*], Below.refl _ _⟩
  ·have HB : Hid (inB n 0 hi = false) := decide_eq_false (fun q => h2 q.2)
   go_enter Tryz.func37, Tryz.ntmps37
   go_wp2_with fail
   go_ret
   exact ⟨by rw [HB.out]; simp [*], Below.refl _ _⟩
 ·have HB : Hid (inB n 0 hi = false) := decide_eq_false (fun q => h q.1)
  go_enter Tryz.func37, Tryz.ntmps37
  go_wp2_with fail
  go_ret
  exact ⟨by rw [HB.out]; simp [*], Below.refl _ _⟩
theorem implCertOk_any (c : Ct) (v : Value) (w : World) (hz : wtC c <= 1000000000) (ha : CtAt w v c) :
  Calls Tryz.prog 129 #[v] w fun e w' => e = .returned (.bool (certOk c)) /\ Below w.heap.size w w' := by
 obtain ⟨pv, ev, dv, rfl, h1, h2, h3⟩ := ha
 obtain ⟨z1, z2, z3, z4, z5, z6, z7, z8, z9⟩ := wt_parts hz
 clear hz
 obtain ⟨pa, pc, hpa⟩ : ∃ ao cap, pv = .slice ao c.pol.length cap := by obtain ⟨ao, cap, h, _⟩ := h1; exact ⟨ao, cap, h⟩
 obtain ⟨ea, ec, hea⟩ : ∃ ao cap, ev = .slice ao c.per.length cap := by obtain ⟨ao, cap, h, _⟩ := h2; exact ⟨ao, cap, h⟩
 obtain ⟨da, dc, hda⟩ : ∃ ao cap, dv = .slice ao c.den.length cap := by obtain ⟨ao, cap, h, _⟩ := h3; exact ⟨ao, cap, h⟩
 obtain ⟨lp, hlp⟩ := zE (c.pol.length)
 obtain ⟨le, hle⟩ := zE (c.per.length)
 obtain ⟨ld, hld⟩ := zE (c.den.length)
 rw [hlp] at hpa
 rw [hle] at hea
 rw [hld] at hda
 subst hpa hea hda
 obtain ⟨B1, hB1⟩ := zE (inB c.serial 0 9999)
 have E1 : Hid (∀ W, Below w.heap.size w W -> Calls Tryz.prog 37 #[.int .i64 9999, .int .i64 c.serial] W fun e w' => e = .returned (.bool B1) /\ Below W.heap.size W w') := fun W hb => by rw [<- hB1]; exact upTo_any _ _ W
 obtain ⟨B2, hB2⟩ := zE (inB c.frm 0 9999)
 have E2 : Hid (∀ W, Below w.heap.size w W -> Calls Tryz.prog 37 #[.int .i64 9999, .int .i64 c.frm] W fun e w' => e = .returned (.bool B2) /\ Below W.heap.size W w') := fun W hb => by rw [<- hB2]; exact upTo_any _ _ W
 obtain ⟨B3, hB3⟩ := zE (inB c.upto 0 9999)
 have E3 : Hid (∀ W, Below w.heap.size w W -> Calls Tryz.prog 37 #[.int .i64 9999, .int .i64 c.upto] W fun e w' => e = .returned (.bool B3) /\ Below W.heap.size W w') := fun W hb => by rw [<- hB3]; exact upTo_any _ _ W
 obtain ⟨B4, hB4⟩ := zE (nameOk c.issuer)
 have E4 : Hid (∀ W, Below w.heap.size w W -> Calls Tryz.prog 136 #[.string c.issuer] W fun e w' => e = .returned (.bool B4) /\ Below W.heap.size W w') := fun W hb => by rw [<- hB4]; exact implName_any c.issuer W (by omega)
 obtain ⟨B5, hB5⟩ := zE (nameOk c.subject)
 have E5 : Hid (∀ W, Below w.heap.size w W -> Calls Tryz.prog 136 #[.string c.subject] W fun e w' => e = .returned (.bool B5) /\ Below W.heap.size W w') := fun W hb => by rw [<- hB5]; exact implName_any c.subject W (by omega)
 obtain ⟨B7, hB7⟩ := zE (inB c.pathLen 0 99)
 have E7 : Hid (∀ W, Below w.heap.size w W -> Calls Tryz.prog 37 #[.int .i64 99, .int .i64 c.pathLen] W fun e w' => e = .returned (.bool B7) /\ Below W.heap.size W w') := fun W hb => by rw [<- hB7]; exact upTo_any _ _ W
 obtain ⟨B8, hB8⟩ := zE (inB c.usage 0 7)
 have E8 : Hid (∀ W, Below w.heap.size w W -> Calls Tryz.prog 37 #[.int .i64 7, .int .i64 c.usage] W fun e w' => e = .returned (.bool B8) /\ Below W.heap.size W w') := fun W hb => by rw [<- hB8]; exact upTo_any _ _ W
 obtain ⟨B9, hB9⟩ := zE (polOk c.pol)
 have E9 : Hid (∀ W, Below w.heap.size w W -> Calls Tryz.prog 160 #[.slice pa lp pc] W fun e w' => e = .returned (.bool B9) /\ Below W.heap.size W w') := fun W hb => by rw [<- hB9]; exact implIok_any _ c.pol W (by omega) (h1.below hb)
 obtain ⟨B10, hB10⟩ := zE (namesOk c.per)
 have E10 : Hid (∀ W, Below w.heap.size w W -> Calls Tryz.prog 161 #[.slice ea le ec] W fun e w' => e = .returned (.bool B10) /\ Below W.heap.size W w') := fun W hb => by rw [<- hB10]; exact implTok_any _ c.per W (by omega) (fun s hs => by have := z8 s hs; omega) (h2.below hb)
 obtain ⟨B11, hB11⟩ := zE (namesOk c.den)
 have E11 : Hid (∀ W, Below w.heap.size w W -> Calls Tryz.prog 161 #[.slice da ld dc] W fun e w' => e = .returned (.bool B11) /\ Below W.heap.size W w') := fun W hb => by rw [<- hB11]; exact implTok_any _ c.den W (by omega) (fun s hs => by have := z9 s hs; omega) (h3.below hb)
 have HC : Hid (certOk c = (B1 && (B2 && (B3 && (B4 && (B5 && (decide (c.key.size = 15) && (B7 && (B8 && (B9 && (B10 && (B11 && decide (c.sig.size = 15))))))))))))) := by show certOk c = _; unfold certOk; rw [hB1, hB2, hB3, hB4, hB5, hB7, hB8, hB9, hB10, hB11]
 clear hB1 hB2 hB3 hB4 hB5 hB7 hB8 hB9 hB10 hB11 h1 h2 h3 hlp hle hld z8 z9
 unfold ctV
 go_enter Tryz.func129, Tryz.ntmps129
 go_wp2_with fail
 obtain ⟨V, hV⟩ : ∃ V, V = w.alloc (Obj.cells #[.int .i64 c.serial, .string c.issuer, .string c.subject, .int .i64 c.frm, .int .i64 c.upto, .string c.key, .bool c.ca, .int .i64 c.pathLen, .int .i64 c.usage, .slice pa lp pc, .slice ea le ec, .slice da ld dc, .string c.sig] 52) := ⟨_, rfl⟩
 rw [<- hV]
 have G : Hid (Blk V w.heap.size 52 #[.int .i64 c.serial, .string c.issuer, .string c.subject, .int .i64 c.frm, .int .i64 c.upto, .string c.key, .bool c.ca, .int .i64 c.pathLen, .int .i64 c.usage, .slice pa lp pc, .slice ea le ec, .slice da ld dc, .string c.sig] /\ Below w.heap.size w V /\ w.heap.size < V.heap.size) := by rw [hV]; exact ⟨Blk.new w _ _, (Below.refl _ _).alloc (Nat.le_refl _) _, (Blk.new w _ _).lt⟩
 clear hV
 refine (E1.out V G.out.2.1).mono ?_
 rintro e V1 ⟨rfl, hb⟩
 have G1 := zH (zJ (G.out.1.below hb G.out.2.2) (zJ (G.out.2.1.trans (hb.mono G.out.2.1.size)) (Nat.lt_of_lt_of_le G.out.2.2 hb.size)))
 clear hb G E1
 have c_frm := fun j => G1.out.1.cell j
 cases B1 with
 | false =>
  go_wp2_with fail
  go_ret
  exact ⟨by rw [HC.out]; simp, G1.out.2.1⟩
 | true =>
  go_wp2_with fail
  clear c_frm
  refine (E2.out V1 G1.out.2.1).mono ?_
  rintro e V2 ⟨rfl, hb⟩
  have G2 := zH (zJ (G1.out.1.below hb G1.out.2.2) (zJ (G1.out.2.1.trans (hb.mono G1.out.2.1.size)) (Nat.lt_of_lt_of_le G1.out.2.2 hb.size)))
  clear hb G1 E2
  have c_upto := fun j => G2.out.1.cell j
  cases B2 with
  | false =>
   go_wp2_with fail
   go_ret
   exact ⟨by rw [HC.out]; simp, G2.out.2.1⟩
  | true =>
   go_wp2_with fail
   clear c_upto
   refine (E3.out V2 G2.out.2.1).mono ?_
   rintro e V3 ⟨rfl, hb⟩
   have G3 := zH (zJ (G2.out.1.below hb G2.out.2.2) (zJ (G2.out.2.1.trans (hb.mono G2.out.2.1.size)) (Nat.lt_of_lt_of_le G2.out.2.2 hb.size)))
   clear hb G2 E3
   have c_issuer := fun j => G3.out.1.cell j
   cases B3 with
   | false =>
    go_wp2_with fail
    go_ret
    exact ⟨by rw [HC.out]; simp, G3.out.2.1⟩
   | true =>
    go_wp2_with fail
    clear c_issuer
    refine (E4.out V3 G3.out.2.1).mono ?_
    rintro e V4 ⟨rfl, hb⟩
    have G4 := zH (zJ (G3.out.1.below hb G3.out.2.2) (zJ (G3.out.2.1.trans (hb.mono G3.out.2.1.size)) (Nat.lt_of_lt_of_le G3.out.2.2 hb.size)))
    clear hb G3 E4
    have c_subject := fun j => G4.out.1.cell j
    cases B4 with
    | false =>
     go_wp2_with fail
     go_ret
     exact ⟨by rw [HC.out]; simp, G4.out.2.1⟩
    | true =>
     go_wp2_with fail
     clear c_subject
     refine (E5.out V4 G4.out.2.1).mono ?_
     rintro e V5 ⟨rfl, hb⟩
     have G5 := zH (zJ (G4.out.1.below hb G4.out.2.2) (zJ (G4.out.2.1.trans (hb.mono G4.out.2.1.size)) (Nat.lt_of_lt_of_le G4.out.2.2 hb.size)))
     clear hb G4 E5
     have c_key := fun j => G5.out.1.cell j
     cases B5 with
     | false =>
      go_wp2_with fail
      go_ret
      exact ⟨by rw [HC.out]; simp, G5.out.2.1⟩
     | true =>
      by_cases s6 : c.key.size = 15
      rotate_left
      ·have si : ¬ (c.key.size : Int) = 15 := by omega
       have HN : Hid (decide (c.key.size = 15) = false) := decide_eq_false s6
       clear s6
       go_wp2_with fail
       go_ret
       exact ⟨by rw [HC.out, HN.out]; simp, G5.out.2.1⟩
      have si6 : (c.key.size : Int) = 15 := by omega
      go_wp2_with fail
      skip
      refine (E7.out V5 G5.out.2.1).mono ?_
      rintro e V7 ⟨rfl, hb⟩
      have G7 := zH (zJ (G5.out.1.below hb G5.out.2.2) (zJ (G5.out.2.1.trans (hb.mono G5.out.2.1.size)) (Nat.lt_of_lt_of_le G5.out.2.2 hb.size)))
      clear hb G5 E7
      have c_usage := fun j => G7.out.1.cell j
      cases B7 with
      | false =>
       go_wp2_with fail
       go_ret
       exact ⟨by rw [HC.out]; simp, G7.out.2.1⟩
      | true =>
       go_wp2_with fail
       clear c_usage
       refine (E8.out V7 G7.out.2.1).mono ?_
       rintro e V8 ⟨rfl, hb⟩
       have G8 := zH (zJ (G7.out.1.below hb G7.out.2.2) (zJ (G7.out.2.1.trans (hb.mono G7.out.2.1.size)) (Nat.lt_of_lt_of_le G7.out.2.2 hb.size)))
       clear hb G7 E8
       have c_pol := fun j => G8.out.1.cell j
       cases B8 with
       | false =>
        go_wp2_with fail
        go_ret
        exact ⟨by rw [HC.out]; simp, G8.out.2.1⟩
       | true =>
        go_wp2_with fail
        clear c_pol
        refine (E9.out V8 G8.out.2.1).mono ?_
        rintro e V9 ⟨rfl, hb⟩
        have G9 := zH (zJ (G8.out.1.below hb G8.out.2.2) (zJ (G8.out.2.1.trans (hb.mono G8.out.2.1.size)) (Nat.lt_of_lt_of_le G8.out.2.2 hb.size)))
        clear hb G8 E9
        have c_per := fun j => G9.out.1.cell j
        cases B9 with
        | false =>
         go_wp2_with fail
         go_ret
         exact ⟨by rw [HC.out]; simp, G9.out.2.1⟩
        | true =>
         go_wp2_with fail
         clear c_per
         refine (E10.out V9 G9.out.2.1).mono ?_
         rintro e V10 ⟨rfl, hb⟩
         have G10 := zH (zJ (G9.out.1.below hb G9.out.2.2) (zJ (G9.out.2.1.trans (hb.mono G9.out.2.1.size)) (Nat.lt_of_lt_of_le G9.out.2.2 hb.size)))
         clear hb G9 E10
         have c_den := fun j => G10.out.1.cell j
         cases B10 with
         | false =>
          go_wp2_with fail
          go_ret
          exact ⟨by rw [HC.out]; simp, G10.out.2.1⟩
         | true =>
          go_wp2_with fail
          clear c_den
          refine (E11.out V10 G10.out.2.1).mono ?_
          rintro e V11 ⟨rfl, hb⟩
          have G11 := zH (zJ (G10.out.1.below hb G10.out.2.2) (zJ (G10.out.2.1.trans (hb.mono G10.out.2.1.size)) (Nat.lt_of_lt_of_le G10.out.2.2 hb.size)))
          clear hb G10 E11
          have c_sig := fun j => G11.out.1.cell j
          cases B11 with
          | false =>
           go_wp2_with fail
           go_ret
           exact ⟨by rw [HC.out]; simp, G11.out.2.1⟩
          | true =>
           by_cases s12 : c.sig.size = 15
           rotate_left
           ·have si : ¬ (c.sig.size : Int) = 15 := by omega
            have HN : Hid (decide (c.sig.size = 15) = false) := decide_eq_false s12
            clear s12
            go_wp2_with fail
            go_ret
            exact ⟨by rw [HC.out, HN.out]; simp [si], G11.out.2.1⟩
           have si12 : (c.sig.size : Int) = 15 := by omega
           go_wp2_with fail
           go_ret
           exact ⟨by rw [HC.out, decide_eq_true s6, decide_eq_true s12]; rfl, G11.out.2.1⟩
end Go.Proofs.YtabfamhaihnccaaGreat
namespace Go.Proofs.YtabfamhaihnccaaGreat
open Go.RowKit Der
set_option linter.unusedVariables false
theorem conv_byte (x : Int) (b : UInt8) (hx : x = (b.toNat : Int)) (W : World) : (convert 201 9 (.slice (some ⟨W.heap.size, 0, none⟩) 1 1)).run Tryz.prog (W.alloc (.cells #[.int .u8 x] 5)) = .ok (.string ⟨#[b]⟩) (W.alloc (.cells #[.int .u8 x] 5)) := by
 have ho := World.ownsRow_lit (base := W.heap.size) (e := 5) (size := 1) W #[.int .u8 x] 1 (Nat.le_refl _) (by decide) rfl
 have e : (#[Value.int .u8 x]).toList = [b].map cellB := by
  subst hx
  rfl
 rw [e] at ho
 exact conv_own ho
theorem conv_at (x : Int) (b : UInt8) (hx : x = (b.toNat : Int)) (W : World) (g : Nat) (h : W.cell? ⟨g, 0, none⟩ = some (.int .u8 x)) : (convert 201 9 (.slice (some ⟨g, 0, none⟩) 1 1)).run Tryz.prog W = .ok (.string ⟨#[b]⟩) W := by
 exact run_convert_bytes_back _ 201 9 5 ⟨g, 0, none⟩ 1 [b] Tryz.underlying201 Tryz.underlying5 Tryz.underlying9 (by
  subst hx
  intro j hj
  have e : j = 0 := by simpa using hj
  subst e
  exact h)
theorem below_via {a X c : World} (hb : Below X.heap.size X c) (h : Below a.heap.size a X) : Below a.heap.size a c := h.trans (hb.mono h.size)
theorem beN_step {f m : Nat} {ds r : List UInt8} (h : beN f m ++ ds = r) (hm : m ≠ 0) (hf : m < 256 ^ f) : ∃ g, m / 256 < 256 ^ g /\ beN g (m / 256) ++ (UInt8.ofNat (m % 256) :: ds) = r := by
 cases f with
 | zero => simp at hf; omega
 | succ f =>
  refine ⟨f, by rw [Nat.pow_succ] at hf; omega, ?_⟩
  rw [<- h]
  conv => rhs; unfold beN
  rw [if_neg hm]
  simp
theorem beN_nil (f : Nat) : beN f 0 = [] := by cases f <;> simp [beN]
theorem length_any (n : Nat) (w : World) (hn : n <= 1000000000) : Calls Tryz.prog 188 #[.int .i64 (n : Int)] w fun e w' => e = .returned (.string ⟨(lenB n).toArray⟩) /\ Below w.heap.size w w' := by
 by_cases h128 : n < 128
 ·have h128i : (n : Int) < 128 := by omega
  have HN : Hid (lenB n = [UInt8.ofNat n]) := if_pos h128
  have hcv := conv_byte (n : Int) (UInt8.ofNat n) (by rw [UInt8.toNat_ofNat']; omega)
  go_enter Tryz.func188, Tryz.ntmps188
  go_wp2_with fail
  go_ret
  exact ⟨by rw [HN.out]; rfl, (Below.refl _ _).alloc (Nat.le_refl _) _⟩
 ·have h128i : ¬ (n : Int) < 128 := by omega
  have HN : Hid (lenB n = UInt8.ofNat (128 + (beN 9 n).length) :: beN 9 n) := if_neg h128
  have hbl := beN_len 9 n
  go_enter Tryz.func188, Tryz.ntmps188
  go_wp2_with fail
  go_loopw [3, 0] (fun sv kv wr => ∃ (m : Nat) (ds : List UInt8), m <= n /\ kv = .int .i64 (m : Int) /\ sv = .string ⟨ds.toArray⟩ /\ Hid (∃ f, m < 256 ^ f /\ beN f m ++ ds = beN 9 n) /\ Below w.heap.size w wr) (fun _ kv _ => (intOf kv).toNat)
  case atStart => exact ⟨n, [], Nat.le_refl _, rfl, rfl, ⟨9, by omega, by simp⟩, Below.refl _ _⟩
  case round =>
   obtain ⟨m, ds, hm, rfl, rfl, HD, hbel⟩ := hrel
   have hdl : ds.length <= 9 := by
    obtain ⟨f, _, hf⟩ := HD.out
    have := congrArg List.length hf
    rw [List.length_append] at this
    omega
   by_cases hm0 : m = 0
   ·subst hm0
    have HF : Hid (ds = beN 9 n) := by
     obtain ⟨f, _, hf⟩ := HD.out
     rw [beN_nil, List.nil_append] at hf
     exact hf
    have hsz : (⟨ds.toArray⟩ : ByteArray).size = ds.length := by show ds.toArray.size = _; simp
    obtain ⟨b, hb⟩ := zE (UInt8.ofNat (128 + ds.length))
    have hcv := conv_byte (128 + (ds.length : Int)) b (by rw [<- hb, UInt8.toNat_ofNat']; omega)
    have HR : Hid ((⟨(lenB n).toArray⟩ : ByteArray) = ⟨#[b]⟩ ++ ⟨ds.toArray⟩) := by
     show (⟨(lenB n).toArray⟩ : ByteArray) = ⟨#[b]⟩ ++ ⟨ds.toArray⟩
     rw [HN.out, <- HF.out, hb, cat_oneM]
    clear hb
    go_wp2_with fail
    go_ret
    exact ⟨by rw [HR.out]; rfl, hbel.alloc hbel.size _⟩
   ·have hmp : (0 : Int) < (m : Int) := by omega
    have hcv := conv_byte ((m : Int) % 256) (UInt8.ofNat (m % 256)) (by rw [UInt8.toNat_ofNat']; omega)
    have HS : Hid (∃ g, m / 256 < 256 ^ g /\ beN g (m / 256) ++ (UInt8.ofNat (m % 256) :: ds) = beN 9 n) := by
     obtain ⟨f, h1, h2⟩ := HD.out
     exact beN_step h2 hm0 h1
    go_wp2_with fail
    go_roundw
    case rel => exact ⟨m / 256, UInt8.ofNat (m % 256) :: ds, by omega, by go_num, by rw [cat_oneM], HS.out, hbel.alloc hbel.size _⟩
    case measure => simp [intOf]; omega
def bodyI (n : Nat) (x : It (n + 1)) : List UInt8 := if It.tag x = 48 then It.text x ++ ((It.kids x).map (txtI n)).flatten else It.text x
theorem txtI_body {n : Nat} (x : It (n + 1)) : txtI (n + 1) x = UInt8.ofNat ((It.tag x) % 256).toNat :: (lenB (bodyI n x).length ++ bodyI n x) := rfl
theorem beN_short9 (n : Nat) : (lenB n).length <= 10 := by
 unfold lenB
 have := beN_len 9 n
 split
 ·simp
 ·simp; omega
theorem txt_le : ∀ (n : Nat) (x : It n), (txtI n x).length <= 11 + 12 * szI n x
 | 0, x => (x : Empty).elim
 | n + 1, x => by
  have hk : ∀ ks : List (It n), ((ks.map (txtI n)).flatten).length <= 11 * ks.length + 12 * (ks.map (szI n)).sum := by
   intro ks
   induction ks with
   | nil => simp
   | cons y r ih =>
    have := txt_le n y
    simp only [List.map_cons, List.flatten_cons, List.length_append, List.length_cons, List.sum_cons]
    omega
  have h1 := hk (It.kids x)
  have h2 := beN_short9 (bodyI n x).length
  have h3 : (bodyI n x).length <= (It.text x).length + 11 * (It.kids x).length + 12 * ((It.kids x).map (szI n)).sum := by
   unfold bodyI
   split
   ·rw [List.length_append]; omega
   ·omega
  rw [txtI_body]
  simp only [List.length_cons, List.length_append]
  show _ <= 11 + 12 * ((It.text x).length + (It.kids x).length + ((It.kids x).map (szI n)).sum)
  omega
def TextC (n : Nat) : Prop := ∀ (x : It n) (v : Value) (w : World), ItAt w n v x -> szI n x <= 20000000 -> Calls Tryz.prog 153 #[v] w fun e w' => e = .returned (.string ⟨(txtI n x).toArray⟩) /\ Below w.heap.size w w'
theorem text_step (n : Nat) (IH : Hid (TextC n)) (t : Int) (s : List UInt8) (ks : List (It n)) (a : Value) (w : World) (hx : KidsAt w (ItAt w n) a ks) (hz : szI (n + 1) (It.mk t s ks) <= 20000000) :
  Calls Tryz.prog 153 #[.agg #[.int .i64 t, .string ⟨s.toArray⟩, a]] w fun e w' => e = .returned (.string ⟨(txtI (n + 1) (It.mk t s ks)).toArray⟩) /\ Below w.heap.size w w' := by
 have hx0 := hx
 obtain ⟨ax, cx, rfl, _⟩ := hx0
 have hsz := szI_kid hz
 have htl := txt_le (n + 1) (It.mk t s ks)
 obtain ⟨l, hle⟩ := zE (ks.length)
 have HE : Hid (ks.length = l /\ szI (n + 1) (It.mk t s ks) <= 20000000) := ⟨hle, hz⟩
 have hlb : l <= 20000000 := by rw [<- hle]; exact hsz.2.1
 rw [hle] at hx |-
 have HX : Hid (KidsAt w (ItAt w n) (.slice ax l cx) ks) := hx
 obtain ⟨W2, hW2⟩ : ∃ W, W = w.alloc (Obj.cells #[Value.int IntKind.i64 t, Value.string { data := s.toArray }, Value.slice ax l cx] 178) := ⟨_, rfl⟩
 have HW := one_laid w (.int .i64 t) (.string ⟨s.toArray⟩) (.slice ax l cx) 178 W2 hW2
 have HW2 := zH (zJ HW.1 (zJ HW.2.1 (zJ HW.2.2.1 HW.2.2.2.2)))
 have HT : Hid (txtI (n + 1) (It.mk t s ks) = UInt8.ofNat (t % 256).toNat :: (lenB (bodyI n (It.mk t s ks)).length ++ bodyI n (It.mk t s ks)) /\ (txtI (n + 1) (It.mk t s ks)).length <= 400000000) := ⟨txtI_body _, by omega⟩
 clear hx hz hle hsz htl HW
 by_cases h48 : t = 48
 ·subst h48
  have HBD : Hid (bodyI n (It.mk 48 s ks) = s ++ (ks.map (txtI n)).flatten) := if_pos rfl
  have HLN : Hid ((s ++ (ks.map (txtI n)).flatten).length <= 400000000) := by
   have h1 := HT.out.1
   have h2 := HT.out.2
   rw [h1, HBD.out] at h2
   simp only [List.length_cons, List.length_append] at h2 |-
   show s.length + _ <= _
   omega
  go_enter Tryz.func153, Tryz.ntmps153
  go_wp2_with fail
  rw [<- hW2]
  clear hW2
  go_loopw [3, 4] (fun sv iv wr => ∃ (k : Nat) (B : List UInt8), k <= l /\ sv = .string ⟨B.toArray⟩ /\ iv = .int .i64 (k : Int) /\ Hid (B = s ++ ((ks.take k).map (txtI n)).flatten /\ Below W2.heap.size W2 wr)) (fun _ iv _ => l - (intOf iv).toNat)
  case atStart => exact ⟨0, s, Nat.zero_le _, rfl, rfl, by simp, Below.refl _ _⟩
  case round =>
   obtain ⟨k, B, hk, rfl, rfl, HB⟩ := hrel
   have p1 : wr.cell? ⟨w.heap.size, 2, none⟩ = some (.slice ax l cx) := (HB.out.2.cell (p := ⟨w.heap.size, 2, none⟩) HW2.out.2.1).trans HW2.out.2.2.2
   have cT : wr.cell? ⟨w.heap.size, 0, none⟩ = some (.int .i64 48) := (HB.out.2.cell (p := ⟨w.heap.size, 0, none⟩) HW2.out.2.1).trans HW2.out.2.2.1
   have HWR : Hid (Below w.heap.size w wr) := HW2.out.1.trans (HB.out.2.mono HW2.out.1.size)
   by_cases hlt : k < l
   ·have hlti : (k : Int) < (l : Int) := by omega
    have hk0 : (0 : Int) <= (k : Int) := by omega
    have hj1 : k < ks.length := by rw [HE.out.1]; exact hlt
    obtain ⟨g1, o1, t1, s1, k1, hax, hg1, hc1, hi1⟩ := HX.out.get hj1
    obtain ⟨c10, c11, c12⟩ := Cells3.below (w' := wr) (t := t1) (s := s1) (k := k1) hc1 hg1 HWR.out
    have HR := IH.out ks[k] (.agg #[t1, s1, k1]) wr (ItAt.below HWR.out hi1) ((szI_kid HE.out.2).2.2 _ (List.getElem_mem hj1))
    have hne : B ++ txtI n ks[k] = s ++ ((ks.take (k + 1)).map (txtI n)).flatten := by
     rw [HB.out.1, List.take_add_one, List.map_append, List.flatten_append, List.append_assoc]
     simp [hj1]
    have hle2 : (B ++ txtI n ks[k]).length <= 400000000 := by
     have h1 := HLN.out
     rw [hne]
     have h2 := congrArg (fun q => (q.map (txtI n)).flatten.length) (List.take_append_drop (k + 1) ks)
     simp only [List.map_append, List.flatten_append, List.length_append] at h1 h2 |-
     omega
    obtain ⟨T, hT⟩ : ∃ T : List UInt8, txtI n ks[k] = T := ⟨_, rfl⟩
    rw [hT] at HR hne hle2
    have ra := fun W => run_string_add_sum (P := Tryz.prog) W ⟨B.toArray⟩ ⟨T.toArray⟩ (by show B.toArray.size + T.toArray.size <= _; simp at hle2 |-; omega)
    have hcat : (⟨B.toArray⟩ : ByteArray) ++ ⟨T.toArray⟩ = ⟨(B ++ T).toArray⟩ := by
     apply ByteArray.ext
     simp
    have HNE : Hid (B ++ T = s ++ ((ks.take (k + 1)).map (txtI n)).flatten) := hne
    subst hax
    clear hc1 hi1 hg1 hne hle2 hT
    go_wp2_with fail
    refine HR.mono ?_
    rintro e w3 ⟨rfl, hb3⟩
    have H3 : Hid (Below W2.heap.size W2 w3) := HB.out.2.trans (hb3.mono HB.out.2.size)
    clear HR hb3 c10 c11 c12 p1 cT
    go_wp2_with fail
    exact ⟨⟨k + 1, B ++ T, by omega, by rw [<- hcat], by go_num, HNE.out, H3.out⟩, by simp [intOf]; omega⟩
   ·have hlti : ¬ (k : Int) < (l : Int) := by omega
    have HBE : Hid (B = s ++ (ks.map (txtI n)).flatten) := by
     have h1 := HB.out.1
     rw [List.take_of_length_le (by have := HE.out.1; omega)] at h1
     exact h1
    have hBl : B.length <= 400000000 := by have := HLN.out; rw [<- HBE.out] at this; exact this
    obtain ⟨x, hx⟩ : ∃ x : Int, (48 : Int) = x := ⟨_, rfl⟩
    obtain ⟨b, hb⟩ : ∃ b : UInt8, (48 : UInt8) = b := ⟨_, rfl⟩
    have hwt : IntKind.u8.wrap 48 = x := by rw [<- hx]; rfl
    have hcv := conv_at x b (by rw [<- hx, <- hb]; rfl)
    have hssz : (⟨B.toArray⟩ : ByteArray).size = B.length := by show B.toArray.size = _; simp
    have EL := fun W => length_any B.length W (by omega)
    obtain ⟨L, hL⟩ : ∃ L : ByteArray, (⟨(lenB B.length).toArray⟩ : ByteArray) = L := ⟨_, rfl⟩
    rw [hL] at EL
    have HR : Hid ((⟨(txtI (n + 1) (It.mk 48 s ks)).toArray⟩ : ByteArray) = ⟨#[b]⟩ ++ L ++ ⟨B.toArray⟩ /\ L.size <= 10) := by
     have h1 := HT.out.1
     rw [HBD.out, <- HBE.out] at h1
     refine ⟨?_, ?_⟩
     ·rw [h1, <- hL, <- hb]
      apply ByteArray.ext
      simp
     ·rw [<- hL]; show ((lenB B.length).toArray).size <= 10; have := beN_short9 B.length; simpa using this
    have ra := fun W => run_string_add_sum (P := Tryz.prog) W ⟨#[b]⟩ L (by show 1 + L.size <= _; have := HR.out.2; omega)
    have rb := fun W => run_string_add_sum (P := Tryz.prog) W (⟨#[b]⟩ ++ L) ⟨B.toArray⟩ (by rw [ByteArray.size_append, hssz]; show 1 + L.size + B.length <= _; have := HR.out.2; omega)
    have hlt2 : w.heap.size < wr.heap.size := Nat.lt_of_lt_of_le HW2.out.2.1 HB.out.2.size
    have hne2 := Nat.ne_of_lt hlt2
    clear hL hx hb
    go_wp2_with fail
    clear p1
    go_region_with (go_at_call 188; refine (EL _).mono ?_; rintro e w3 ⟨rfl, hb3⟩; have cT3 : w3.cell? ⟨w.heap.size, 0, none⟩ = some (.int .i64 48) := (hb3.cell (p := ⟨w.heap.size, 0, none⟩) (by first | exact hlt2 | (simp; omega))).trans (by first | exact cT | go_keep); have hcar := fun (p : Addr) (h : p.block < _) => hb3.cell (p := p) h; have hB3 := below_via hb3 (by first | exact HWR.out.drew | exact (HWR.out.drew.alloc HWR.out.drew.size _).drew | exact HWR.out.drew.alloc HWR.out.drew.size _ | exact HWR.out); clear hb3)
    all_goals (
     go_wp2_with fail
     go_ret
     exact ⟨by rw [HR.out.1]; rfl, by first | exact hB3 | exact hB3.drew | exact hB3.alloc hB3.size _ | exact hB3.drew.alloc hB3.size _ | exact (hB3.alloc hB3.size _).drew | exact (hB3.drew.alloc hB3.size _).drew⟩)
 ·have h48b : (t == 48) = false := by simpa using h48
  have HBD : Hid (bodyI n (It.mk t s ks) = s) := if_neg h48
  have hwt : IntKind.u8.wrap t = t % 256 := by rw [IntKind.wrap_u8]
  obtain ⟨x, hx⟩ : ∃ x : Int, t % 256 = x := ⟨_, rfl⟩
  obtain ⟨b, hb⟩ := zE (UInt8.ofNat (t % 256).toNat)
  have hxb : x = (b.toNat : Int) := by rw [<- hb, UInt8.toNat_ofNat', <- hx]; omega
  rw [hx] at hwt
  have hcv := conv_at x b hxb
  have hssz : (⟨s.toArray⟩ : ByteArray).size = s.length := by show s.toArray.size = _; simp
  have EL := fun W => length_any s.length W (by have := HT.out.2; have h1 := HT.out.1; rw [h1, HBD.out] at this; simp at this; omega)
  obtain ⟨L, hL⟩ : ∃ L : ByteArray, (⟨(lenB s.length).toArray⟩ : ByteArray) = L := ⟨_, rfl⟩
  rw [hL] at EL
  have HR : Hid ((⟨(txtI (n + 1) (It.mk t s ks)).toArray⟩ : ByteArray) = ⟨#[b]⟩ ++ L ++ ⟨s.toArray⟩ /\ L.size <= 10 /\ s.length <= 400000000) := by
   have h1 := HT.out.1
   have h2 := HT.out.2
   rw [HBD.out] at h1
   rw [h1] at h2
   refine ⟨?_, ?_, ?_⟩
   ·rw [h1, hb, <- hL]
    apply ByteArray.ext
    simp
   ·rw [<- hL]; show ((lenB s.length).toArray).size <= 10; have := beN_short9 s.length; simpa using this
   ·simp at h2; omega
  have ra := fun W => run_string_add_sum (P := Tryz.prog) W ⟨#[b]⟩ L (by show 1 + L.size <= _; have := HR.out.2.1; omega)
  have rb := fun W => run_string_add_sum (P := Tryz.prog) W (⟨#[b]⟩ ++ L) ⟨s.toArray⟩ (by rw [ByteArray.size_append, hssz]; show 1 + L.size + s.length <= _; have := HR.out.2; omega)
  have cT := HW2.out.2.2.1
  go_enter Tryz.func153, Tryz.ntmps153
  go_wp2_with fail
  rw [<- hW2]
  clear hW2 hL hb hx hxb
  have hlt2 := HW2.out.2.1
  have hne2 := Nat.ne_of_lt hlt2
  go_region_with (go_at_call 188; refine (EL _).mono ?_; rintro e w3 ⟨rfl, hb3⟩; have cT3 : w3.cell? ⟨w.heap.size, 0, none⟩ = some (.int .i64 t) := (hb3.cell (p := ⟨w.heap.size, 0, none⟩) (by first | exact hlt2 | (simp; omega))).trans (by first | exact cT | go_keep); have hcar := fun (p : Addr) (h : p.block < _) => hb3.cell (p := p) h; have hB3 := below_via hb3 (by first | exact HW2.out.1.drew | exact (HW2.out.1.drew.alloc HW2.out.1.drew.size _).drew | exact HW2.out.1.drew.alloc HW2.out.1.drew.size _ | exact HW2.out.1); clear hb3)
  all_goals (
   go_wp2_with fail
   go_ret
   exact ⟨by rw [HR.out.1]; rfl, by first | exact hB3 | exact hB3.drew | exact hB3.alloc hB3.size _ | exact hB3.drew.alloc hB3.size _ | exact (hB3.alloc hB3.size _).drew | exact (hB3.drew.alloc hB3.size _).drew⟩)
theorem text_any : ∀ (n : Nat), TextC n
 | 0 => fun _ _ _ h _ => h.elim
 | n + 1 => fun x v w hx hz => by
  obtain ⟨kx, rfl, hkx⟩ := hx
  exact text_step n (text_any n) (It.tag x) (It.text x) (It.kids x) kx w hkx hz
end Go.Proofs.YtabfamhaihnccaaGreat
