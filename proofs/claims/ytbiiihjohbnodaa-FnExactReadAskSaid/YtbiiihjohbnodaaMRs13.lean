/-
  Texts of the proof.
-/
import Derived.Test.YtbiiihjohbnodaaMRs12
set_option maxRecDepth 100000
set_option maxHeartbeats 25600000
namespace Go.Proofs.Ytbiiihjohbnodaa
open Go.RowKit Der
set_option linter.unusedVariables false
def lenV : Value -> Nat
 | .slice _ n _ => n
 | _ => 0
theorem Out.aside {g gi : Nat} {a b c : World} (h : Out [g] a b) (h2 : Out [gi] b c) (hg : a.heap.size <= gi) : Out [g] a c :=
 ⟨h2.1.trans h.1, h2.2.1.trans h.2.1, h2.2.2.1.trans h.2.2.1, Nat.le_trans h.2.2.2.1 h2.2.2.2.1, fun b hb hn => (h2.2.2.2.2 b (Nat.lt_of_lt_of_le hb h.2.2.2.1) (by simp; omega)).trans (h.2.2.2.2 b hb hn)⟩
theorem Out.grow {g : Nat} {a b c : World} {row : Option Nat} (h : Out [g] a b) (hg : b.grownBy c row) (hr : ∀ q, row = some q -> a.heap.size <= q) : Out [g] a c :=
 ⟨hg.os.trans h.1, hg.tape.trans h.2.1, hg.output.trans h.2.2.1, Nat.le_trans h.2.2.2.1 hg.size, fun b hb hn => (hg.block b (Nat.lt_of_lt_of_le hb h.2.2.2.1) (fun e => by have := hr b e.symm; omega)).trans (h.2.2.2.2 b hb hn)⟩
theorem Blk.grown {w w' : World} {b : Nat} {t : TypeId} {vs : Array Value} {row : Option Nat} (h : Blk w b t vs) (hg : w.grownBy w' row) (hn : some b ≠ row) : Blk w' b t vs := (hg.block b h.lt hn).trans h
theorem rone_text (w : World) (x : ByteArray) : OwnT (w.alloc (Obj.cells #[.string x] 9)) w.heap.size (.slice (some ⟨w.heap.size, 0, none⟩) 1 1) [x] :=
 ⟨rfl, .inr ⟨w.heap.size, 1, #[.string x], rfl, Nat.le_refl _, heap_alloc_new w _, Nat.le_refl _, by decide, rfl, rfl⟩⟩
theorem below_out {w0 a b : World} {g : Nat} (h : Below w0.heap.size w0 a) (ho : Out [g] a b) (hg : w0.heap.size <= g) : Below w0.heap.size w0 b := h.trans (ho.below (fun x hx => by rw [List.mem_singleton.1 hx]; exact hg) h.size)
theorem belowGrown {w0 a b : World} {row : Option Nat} (h : Below w0.heap.size w0 a) (hg : a.grownBy b row) (hr : ∀ q, row = some q -> w0.heap.size <= q) : Below w0.heap.size w0 b := h.grown hg h.size hr
def TxtsPost (w0 W : World) (g n : Nat) (o : Option (List ByteArray × List (It (n + 2)))) (e : Ending) (W' : World) : Prop := Out [g] W W' /\
 ((o = none /\ e = misfit) ∨ ∃ (l : List ByteArray) (r : List (It (n + 2))) (v' u : Value), o = some (l, r) /\ e = .returned u /\ OwnT W' W.heap.size u l /\ KcAt w0 (n + 2) v' r /\ Blk W' g 134 #[v'])
end Go.Proofs.Ytbiiihjohbnodaa
namespace Go.Proofs.Ytbiiihjohbnodaa
open Go.RowKit Der
set_option linter.unusedVariables false
set_option linter.unusedSimpArgs false
theorem l09Kids_any (t : Int) (s : ByteArray) (a : Option Addr) (l c : Nat) (n : Int) (w : World) : Calls Try.prog 54 #[.agg #[.int .i64 t, .string s, .slice a l c], .int .i64 n] w fun e w' => e = .returned (.tuple #[.slice a l c, .bool (decide (t = 48 /\ (l : Int) = n))]) /\ Below w.heap.size w w' := by
 obtain ⟨B, hB⟩ := zE (decide (t = 48 /\ (l : Int) = n))
 rw [hB]
 have HB : Hid (decide (t = 48 /\ (l : Int) = n) = B) := hB
 clear hB
 obtain ⟨W1, hW1⟩ : ∃ V, V = w.alloc (Obj.cells #[.int .i64 t, .string s, .slice a l c] 67) := ⟨_, rfl⟩
 have hB1 : Blk W1 w.heap.size 67 #[.int .i64 t, .string s, .slice a l c] := by rw [hW1]; exact Blk.new _ _ _
 have HB1 : Hid (Below w.heap.size w W1) := by rw [hW1]; exact (Below.refl _ _).alloc (Nat.le_refl _) _
 have c0 : W1.cell? ⟨w.heap.size, 0, none⟩ = some (.int .i64 t) := hB1.cell 0
 have c2 : W1.cell? ⟨w.heap.size, 2, none⟩ = some (.slice a l c) := hB1.cell 2
 clear hB1
 by_cases ht : t = 48
 ·subst ht
  have HB2 : Hid (((l : Int) == n) = B) := by
   have h := HB.out
   rw [<- h]
   show ((l : Int) == n) = decide _
   rw [Bool.eq_iff_iff]
   simp
  go_enter Try.func54, Try.ntmps54
  go_wp2_with fail
  rw [<- hW1]
  clear hW1
  go_quiet (fail)
  go_wp2_with fail
  go_ret2
  exact ⟨by rw [<- HB2.out]; rfl, ⟨HB1.out.os, HB1.out.tape, HB1.out.output, HB1.out.size, HB1.out.block⟩⟩
 ·have hbq : (t == 48) = false := beq_eq_false_iff_ne.2 ht
  have HB2 : Hid (B = false) := by
   have h := HB.out
   rw [<- h]
   exact decide_eq_false (fun q => ht q.1)
  clear ht
  go_enter Try.func54, Try.ntmps54
  go_wp2_with fail
  rw [<- hW1]
  clear hW1
  go_quiet (fail)
  go_wp2_with fail
  go_ret2
  exact ⟨by rw [HB2.out]; rfl, ⟨HB1.out.os, HB1.out.tape, HB1.out.output, HB1.out.size, HB1.out.block⟩⟩
theorem textsIn_any (n : Nat) (t : Int) (s : ByteArray) (ks : List (It (n + 1))) (a : Option Addr) (l c : Nat) (w : World) (hk : KcAt w (n + 1) (.slice a l c) ks) (hl : ks.length <= 1000000) (hz : ∀ y ∈ ks, szI (n + 1) y <= 1000000) : Calls Try.prog 55 #[.agg #[.int .i64 t, .string s, .slice a l c]] w fun e w' => ∃ u, e = .returned u /\ OwnT w' w.heap.size u (ks.map (fun y => baL (It.text y))) /\ Below w.heap.size w w' := by
 obtain ⟨i0, hi, hz0, hz1, hz2⟩ := info_parts info9
 obtain ⟨ao, cap, hv, _, hcell⟩ := hk
 injection hv with hv1 hv2 hv3
 subst hv1 hv3
 have HX : Hid ((0 < ks.length -> ∃ g o, a = some ⟨g, o, none⟩ /\ g < w.heap.size /\ ∀ j (hj : j < ks.length), ∃ k, w.cell? ⟨g, o + j * 3, none⟩ = some (.int .i64 (It.tag ks[j])) /\ w.cell? ⟨g, o + j * 3 + 1, none⟩ = some (.string ⟨(It.text ks[j]).toArray⟩) /\ w.cell? ⟨g, o + j * 3 + 2, none⟩ = some k /\ KcAt w n k (It.kids ks[j])) /\ l = ks.length /\ (∀ y ∈ ks, szI (n + 1) y <= 1000000)) := ⟨hcell, hv2, hz⟩
 have hlb : l <= 1000000 := by omega
 clear hcell hv2 hl hz
 go_enter Try.func55, Try.ntmps55
 go_wp2_with fail
 obtain ⟨W3, hW3⟩ : ∃ V, V = (w.alloc (Obj.cells #[.int .i64 t, .string s, .slice a l c] 67)).alloc (Obj.cells #[] 9) := ⟨_, rfl⟩
 rw [<- hW3]
 have e0 : (w.alloc (Obj.cells #[.int .i64 t, .string s, .slice a l c] 67)).heap.size = w.heap.size + 1 := Array.size_push _
 have H3 : Hid (Below w.heap.size w W3 /\ W3.heap.size = w.heap.size + 2 /\ Blk W3 w.heap.size 67 #[.int .i64 t, .string s, .slice a l c] /\ OwnT W3 (w.heap.size + 1) (.slice (some ⟨w.heap.size + 1, 0, none⟩) 0 0) []) := by
  rw [hW3]
  refine ⟨((Below.refl _ _).alloc (Nat.le_refl _) _).alloc (by rw [e0]; omega) _, by rw [size_alloc, e0], (Blk.new w _ _).alloc _, ?_⟩
  have h := World.ownsRow_made (base := w.heap.size + 1) (e := 9) (size := 1) (w.alloc (Obj.cells #[.int .i64 t, .string s, .slice a l c] 67)) #[] 0 (by rw [e0]; exact Nat.le_refl _) (Nat.zero_le _) rfl
  rw [e0] at h
  exact h
 clear hW3 e0
 go_loopw [3, 4] (fun lv iv wr => ∃ k : Nat, k <= l /\ iv = .int .i64 k /\ Hid (OwnT wr (w.heap.size + 1) lv ((ks.take k).map (fun y => baL (It.text y))) /\ Blk wr w.heap.size 67 #[.int .i64 t, .string s, .slice a l c] /\ Below w.heap.size w wr /\ w.heap.size + 1 <= wr.heap.size)) (fun _ iv _ => l - (intOf iv).toNat)
 case atStart => exact ⟨0, Nat.zero_le _, rfl, H3.out.2.2.2, H3.out.2.2.1, H3.out.1, by rw [H3.out.2.1]; omega⟩
 case round =>
  obtain ⟨k, hk, rfl, HK⟩ := hrel
  clear H3
  obtain ⟨la, lc, hlv⟩ : ∃ ao cap, u3 = .slice ao ((ks.take k).map (fun y => baL (It.text y))).length cap := by obtain ⟨ao, cap, h, _⟩ := HK.out.1.at; exact ⟨ao, cap, h⟩
  have hlen : ((ks.take k).map (fun y => baL (It.text y))).length = k := by rw [List.length_map, List.length_take]; have := HX.out.2.1; omega
  rw [hlen] at hlv
  subst hlv
  have HLEN : Hid (((ks.take k).map (fun y => baL (It.text y))).length = k) := hlen
  clear hlen
  have cB : wr.cell? ⟨w.heap.size, 2, none⟩ = some (.slice a l c) := HK.out.2.1.cell 2
  by_cases hlt : k < l
  ·have hlti : (k : Int) < (l : Int) := by omega
   have hk0 : (0 : Int) <= (k : Int) := by omega
   have hj : k < ks.length := by have := HX.out.2.1; omega
   obtain ⟨g1, o1, ha, hg1, hcs⟩ := HX.out.1 (by omega)
   obtain ⟨kk, d0, d1, d2, hkk⟩ := hcs k hj
   have c0 : wr.cell? ⟨g1, o1 + k * 3, none⟩ = some (.int .i64 (It.tag ks[k])) := (HK.out.2.2.1.cell (p := ⟨g1, o1 + k * 3, none⟩) hg1).trans d0
   have c1 : wr.cell? ⟨g1, o1 + k * 3 + 1, none⟩ = some (.string ⟨(It.text ks[k]).toArray⟩) := (HK.out.2.2.1.cell (p := ⟨g1, o1 + k * 3 + 1, none⟩) hg1).trans d1
   have c2 : wr.cell? ⟨g1, o1 + k * 3 + 2, none⟩ = some kk := (HK.out.2.2.1.cell (p := ⟨g1, o1 + k * 3 + 2, none⟩) hg1).trans d2
   obtain ⟨ak, ck, hks⟩ := hkk.shape
   have HN : Hid ((ks.take (k + 1)).map (fun y => baL (It.text y)) = (ks.take k).map (fun y => baL (It.text y)) ++ [(fun y => baL (It.text y)) ks[k]]) := by
    show (ks.take (k + 1)).map (fun y => baL (It.text y)) = _
    rw [<- List.take_append_getElem hj, List.map_append]
    rfl
   obtain ⟨x, hx⟩ : ∃ x : ByteArray, (⟨(It.text ks[k]).toArray⟩ : ByteArray) = x := ⟨_, rfl⟩
   have HXK : Hid (baL (It.text ks[k]) = x) := hx
   rw [hx] at c1
   subst ha
   clear d0 d1 d2 hkk hcs hg1 hx hks c0 c2
   obtain ⟨W4, hW4⟩ : ∃ V, V = wr.alloc (Obj.cells #[.string x] 9) := ⟨_, rfl⟩
   have hb34 : Below wr.heap.size wr W4 := by rw [hW4]; exact (Below.refl _ _).alloc (Nat.le_refl _) _
   have H4 : Hid (OwnT W4 (w.heap.size + 1) (.slice la k lc) ((ks.take k).map fun y => baL (It.text y)) /\ OwnT W4 wr.heap.size (.slice (some ⟨wr.heap.size, 0, none⟩) 1 1) [x] /\ Blk W4 w.heap.size 67 #[.int .i64 t, .string s, .slice (some ⟨g1, o1, none⟩) l c] /\ Below w.heap.size w W4 /\ w.heap.size + 1 <= W4.heap.size) := ⟨HK.out.1.stays hb34, by rw [hW4]; exact rone_text wr x, HK.out.2.1.on hb34, HK.out.2.2.1.trans (hb34.mono HK.out.2.2.1.size), Nat.le_trans HK.out.2.2.2 hb34.size⟩
   clear hb34 HK
   go_wp2_with (at_builtin; rw [<- hW4]; refine wpList_append_texts2 rfl _ _ 22 rfl (w.heap.size + 1) i0 Try.underlying22 hi hz0 hz1 hz2 (.slice la k lc) ((ks.take k).map fun y => baL (It.text y)).length (cellsT ((ks.take k).map fun y => baL (It.text y))) rfl H4.out.1 _ [x] wr.heap.size H4.out.2.1 rfl (by have := HLEN.out; simp only [List.length_singleton]; omega) H4.out.2.2.2.2 ?_)
   clear c1 cB
   intro v9 w9 ho9 hg9
   rw [<- hW4] at hg9
   have H9 : Hid (OwnT w9 (w.heap.size + 1) v9 ((ks.take (k + 1)).map fun y => baL (It.text y)) /\ Blk w9 w.heap.size 67 #[.int .i64 t, .string s, .slice (some ⟨g1, o1, none⟩) l c] /\ Below w.heap.size w w9 /\ w.heap.size + 1 <= w9.heap.size) := by
    have hrl := fun b hb => (World.ownsRow.lt H4.out.1 b hb).1
    refine ⟨?_, H4.out.2.2.1.grown hg9 (fun e => by have := hrl _ e.symm; omega), H4.out.2.2.2.1.grown hg9 H4.out.2.2.2.1.size (fun b hb => by have := hrl b hb; omega), Nat.le_trans H4.out.2.2.2.2 hg9.size⟩
    rw [HN.out, HXK.out]
    simpa [OwnT, cellsT_append] using ho9
   clear ho9 hg9 H4 hW4
   go_wp2_with fail
   exact ⟨⟨k + 1, by omega, by go_num, H9⟩, by simp [intOf]; omega⟩
  ·have hlti : ¬ (k : Int) < (l : Int) := by omega
   have HE : Hid (OwnT wr (w.heap.size + 1) (.slice la k lc) (ks.map fun y => baL (It.text y)) /\ Below w.heap.size w wr) := by
    have h := HK.out.1
    rw [List.take_of_length_le (by have := HX.out.2.1; omega)] at h
    exact ⟨h, HK.out.2.2.1⟩
   go_wp2_with fail
   go_ret
   exact ⟨_, rfl, HE.out.1.base (by omega), HE.out.2⟩
def SzL {n : Nat} (ks : List (It n)) : Prop := ks.length <= 1000000 /\ ∀ y ∈ ks, szI n y <= 1000000
theorem SzL.tail {n : Nat} {y : It n} {r : List (It n)} (h : SzL (y :: r)) : SzL r := ⟨by have := h.1; rw [List.length_cons] at this; omega, fun z hz => h.2 z (by simp [hz])⟩
theorem SzL.kids {n : Nat} {y : It (n + 1)} {r : List (It (n + 1))} (h : SzL (y :: r)) : SzL (It.kids y) := by
 have h5 := szI_kid (t := It.tag y) (s := It.text y) (ks := It.kids y) (h.2 y (by simp))
 exact ⟨h5.2.1, h5.2.2⟩
theorem SzL.num {k : Nat} {ks r : List (It (k + 1))} {x : Int} (h : SzL ks) (hn : numP ks = some (x, r)) : SzL r := by
 obtain ⟨y, _, h1, _⟩ := num_some hn
 rw [h1] at h
 exact h.tail
theorem SzL.flg {k : Nat} {ks r : List (It (k + 1))} {x : Bool} (h : SzL ks) (hn : flgP ks = some (x, r)) : SzL r := by
 obtain ⟨y, h1, _⟩ := flg_some hn
 rw [h1] at h
 exact h.tail
theorem out_set {w : World} (b j : Nat) (v : Value) : Out [b] w (w.setCell ⟨b, j, none⟩ v) := (Out.refl _ _).setCell _ _ (by simp)
end Go.Proofs.Ytbiiihjohbnodaa
