/-
  Texts of the proof.
-/
import Derived.Test.YtbiiihjohbnodaaMRV12
set_option maxRecDepth 100000
set_option maxHeartbeats 25600000
namespace Go.Proofs.Ytbiiihjohbnodaa
open Go.RowKit Der
set_option linter.unusedVariables false
theorem run_field_item (t : Int) (s : ByteArray) (a : Option Addr) (l c : Nat) (w : World) : Sem.run Try.prog (Instr.field 67 (.agg #[.int .i64 t, .string s, .slice a l c]) 1) w = .ok (.string s) w := by
 first | kernel_rfl | rfl | simp [Instr.field, go_sem]
def RdOf (t : Int) (a : Option Addr) (l c : Nat) (W : World) (e : Ending) (W' : World) : Prop := Below W.heap.size W W' /\ ((¬ t = 48 /\ e = misfit) ∨ (t = 48 /\ ∃ g, W.heap.size <= g /\ e = .returned (.pointer (some ⟨g, 0, none⟩)) /\ Blk W' g 134 #[.slice a l c]))
theorem readerOf_any (t : Int) (s : ByteArray) (a : Option Addr) (l c : Nat) (W : World) : Calls Try.prog 92 #[.agg #[.int .i64 t, .string s, .slice a l c]] W fun e W' => RdOf t a l c W e W' := by
 obtain ⟨W1, hW1⟩ : ∃ V, V = W.alloc (Obj.cells #[.int .i64 t, .string s, .slice a l c] 67) := ⟨_, rfl⟩
 have hB : Blk W1 W.heap.size 67 #[.int .i64 t, .string s, .slice a l c] := by rw [hW1]; exact Blk.new _ _ _
 have hb1 : Below W.heap.size W W1 := by rw [hW1]; exact (Below.refl _ _).alloc (Nat.le_refl _) _
 have H1 : Hid (Blk W1 W.heap.size 67 #[.int .i64 t, .string s, .slice a l c] /\ Below W.heap.size W W1) := ⟨hB, hb1⟩
 clear hB hb1
 by_cases ht : t = 48
 ·subst ht
  go_enter Try.func92, Try.ntmps92
  go_wp2_with fail
  rw [<- hW1]
  clear hW1
  refine (mustFit_yes W1).mono ?_
  rintro e w2 ⟨rfl, rfl⟩
  have c2 : W1.cell? ⟨W.heap.size, 2, none⟩ = some (.slice a l c) := H1.out.1.cell 2
  go_wp2_with fail
  go_ret
  exact ⟨H1.out.2.alloc H1.out.2.size _, .inr ⟨rfl, W1.heap.size, H1.out.2.size, rfl, Blk.new _ _ _⟩⟩
 ·have hbq : (t == 48) = false := beq_eq_false_iff_ne.2 ht
  have HT : Hid (¬ t = 48) := ht
  clear ht
  go_enter Try.func92, Try.ntmps92
  go_wp2_with fail
  rw [<- hW1]
  clear hW1
  refine (mustFit_no W1).mono ?_
  rintro e w2 ⟨rfl, rfl⟩
  unfold misfit
  go_wp2_with fail
  exact ⟨rfl, H1.out.2, .inl ⟨HT.out, rfl⟩⟩
def ListPost (w0 W : World) (g n : Nat) (o : Option (List (It n) × List (It (n + 1)))) (e : Ending) (W' : World) : Prop := Out [g] W W' /\
 ((o = none /\ e = misfit) ∨ ∃ (i : List (It n)) (r : List (It (n + 1))) (v' vi : Value) (gi : Nat), o = some (i, r) /\ e = .returned (.pointer (some ⟨gi, 0, none⟩)) /\ W.heap.size <= gi /\ KcAt w0 n vi i /\ KcAt w0 (n + 1) v' r /\ Blk W' g 134 #[v'] /\ Blk W' gi 134 #[vi])
theorem lstP_next {k : Nat} (ks : List (It (k + 1))) : lstP ks = (nextP 48 ks).map fun p => (It.kids p.1, p.2) := by
 unfold lstP
 cases nextP 48 ks with
 | none => rfl
 | some p => rfl
theorem Out.size {fp : List Nat} {a b : World} (h : Out fp a b) : a.heap.size <= b.heap.size := h.2.2.2.1
theorem Blk.on {w w' : World} {b : Nat} {t : TypeId} {vs : Array Value} (h : Blk w b t vs) (hb : Below w.heap.size w w') : Blk w' b t vs := h.below hb h.lt
theorem Blk.outX {w w' : World} {b : Nat} {t : TypeId} {vs : Array Value} {fp : List Nat} (h : Blk w b t vs) (ho : Out fp w w') (hn : b ∉ fp) : Blk w' b t vs := (ho.2.2.2.2 b h.lt hn).trans h
theorem list_any (w0 W : World) (g n : Nat) (v : Value) (ks : List (It (n + 1))) (hw : Below w0.heap.size w0 W) (hk : KcAt w0 (n + 1) v ks) (hr : Blk W g 134 #[v]) (hg : w0.heap.size <= g) (hl : ks.length <= 1000000) :
  Calls Try.prog 103 #[.pointer (some ⟨g, 0, none⟩)] W fun e W' => ListPost w0 W g n (lstP ks) e W' := by
 have E := next_any w0 W g n v ks 48 hw hk hr hg hl
 have HP : Hid (lstP ks = (nextP 48 ks).map fun p => (It.kids p.1, p.2)) := lstP_next ks
 generalize lstP ks = oL at HP |-
 clear hw hk hr hg hl
 go_enter Try.func103, Try.ntmps103
 go_wp2_with fail
 refine E.mono ?_
 rintro e w2 ⟨ho, ⟨hn, rfl⟩ | ⟨y, r, v', k, hn, rfl, hkk, hkr, hB⟩⟩
 ·have HE : Hid (Out [g] W w2 /\ oL = none) := ⟨ho, by rw [HP.out, hn]; rfl⟩
  clear ho hn E
  unfold misfit
  go_wp2_with fail
  exact ⟨rfl, HE.out.1, .inl ⟨HE.out.2, rfl⟩⟩
 ·have HT : Hid (It.tag y = 48) := by
   cases ks with
   | nil => cases hn
   | cons a q => exact (next_some hn).2
  obtain ⟨ak, ck, hks⟩ := hkk.shape
  obtain ⟨lk, hlk⟩ := zE ((It.kids y).length)
  rw [hlk] at hks
  subst hks
  have E2 := readerOf_any (It.tag y) ⟨(It.text y).toArray⟩ ak lk ck w2
  obtain ⟨t, ht⟩ := zE (It.tag y)
  obtain ⟨s, hs⟩ : ∃ s : ByteArray, (⟨(It.text y).toArray⟩ : ByteArray) = s := ⟨_, rfl⟩
  rw [ht, hs] at E2 |-
  have HE : Hid (Out [g] W w2 /\ oL = some (It.kids y, r) /\ KcAt w0 n (.slice ak lk ck) (It.kids y) /\ KcAt w0 (n + 1) v' r /\ Blk w2 g 134 #[v'] /\ t = 48) := ⟨ho, by rw [HP.out, hn]; rfl, hkk, hkr, hB, by rw [<- ht]; exact HT.out⟩
  clear ho hn hkk hkr hB E HT ht hs hlk
  go_wp2_with fail
  refine E2.mono ?_
  rintro e w3 ⟨hb3, ⟨hn3, rfl⟩ | ⟨_, gi, hgi, rfl, hBi⟩⟩
  ·exact absurd HE.out.2.2.2.2.2 hn3
  ·have HF : Hid (ListPost w0 W g n oL (.returned (.pointer (some ⟨gi, 0, none⟩))) w3) := ⟨HE.out.1.trans (Out.of_below hb3), .inr ⟨_, _, _, _, gi, HE.out.2.1, rfl, Nat.le_trans HE.out.1.size hgi, HE.out.2.2.1, HE.out.2.2.2.1, HE.out.2.2.2.2.1.on hb3, hBi⟩⟩
   clear hb3 hgi hBi E2
   go_wp2_with fail
   go_ret
   exact HF.out
def EndPost {α : Type} (ks : List α) (W : World) (e : Ending) (W' : World) : Prop := Below W.heap.size W W' /\ ((endP ks = none /\ e = misfit) ∨ (ks = [] /\ endP ks = some () /\ e = .returned (.tuple #[])))
theorem end_any {α : Type} (W : World) (g l c : Nat) (a : Option Addr) (ks : List α) (hl : ks.length = l) (hr : Blk W g 134 #[.slice a l c]) :
  Calls Try.prog 97 #[.pointer (some ⟨g, 0, none⟩)] W fun e W' => EndPost ks W e W' := by
 have cr : W.cell? ⟨g, 0, none⟩ = some (.slice a l c) := hr.cell 0
 clear hr
 cases ks with
 | nil =>
  subst hl
  go_enter Try.func97, Try.ntmps97
  go_wp2_with fail
  refine (mustFit_yes W).mono ?_
  rintro e w2 ⟨rfl, rfl⟩
  go_wp2_with fail
  first | go_end0 | skip
  exact ⟨Below.refl _ _, .inr ⟨rfl, rfl, rfl⟩⟩
 | cons x q =>
  subst hl
  rw [List.length_cons] at cr
  obtain ⟨m, hm⟩ := zE (q.length)
  rw [hm] at cr
  clear hm
  have hm0 : ((m : Int) + 1 == 0) = false := beq_eq_false_iff_ne.2 (by omega)
  go_enter Try.func97, Try.ntmps97
  go_wp2_with fail
  refine (mustFit_no W).mono ?_
  rintro e w2 ⟨rfl, rfl⟩
  unfold misfit
  go_wp2_with fail
  exact ⟨rfl, Below.refl _ _, .inl ⟨rfl, rfl⟩⟩
def OnePost {α : Type} (V : α -> Value) (w0 W : World) (g n : Nat) (o : Option (α × List (It (n + 1)))) (e : Ending) (W' : World) : Prop := Out [g] W W' /\
 ((o = none /\ e = misfit) ∨ ∃ (x : α) (r : List (It (n + 1))) (v' : Value), o = some (x, r) /\ e = .returned (V x) /\ KcAt w0 (n + 1) v' r /\ Blk W' g 134 #[v'])
theorem number_any (w0 W : World) (g n : Nat) (v : Value) (ks : List (It (n + 1))) (hw : Below w0.heap.size w0 W) (hk : KcAt w0 (n + 1) v ks) (hr : Blk W g 134 #[v]) (hg : w0.heap.size <= g) (hl : ks.length <= 1000000) (hz : ∀ y ∈ ks, szI (n + 1) y <= 20000000) :
  Calls Try.prog 95 #[.pointer (some ⟨g, 0, none⟩)] W fun e W' => OnePost (fun x : Int => .int .i64 x) w0 W g n (numP ks) e W' := by
 have E := next_any w0 W g n v ks 2 hw hk hr hg hl
 have HP : Hid (numP ks = match nextP 2 ks with
  | none => none
  | some (y, r) => match inI (n + 1) y with
   | none => none
   | some v => some ((v : Int), r)) := rfl
 generalize numP ks = oL at HP |-
 have HW : Hid (Below w0.heap.size w0 W /\ w0.heap.size <= g /\ ∀ y ∈ ks, szI (n + 1) y <= 20000000) := ⟨hw, hg, hz⟩
 clear hw hk hr hg hl hz
 go_enter Try.func95, Try.ntmps95
 go_wp2_with fail
 refine E.mono ?_
 rintro e w2 ⟨ho, ⟨hn, rfl⟩ | ⟨y, r, v', k, hn, rfl, hkk, hkr, hB⟩⟩
 ·have HE : Hid (Out [g] W w2 /\ oL = none) := ⟨ho, by rw [HP.out, hn]⟩
  clear ho hn E
  unfold misfit
  go_wp2_with fail
  exact ⟨rfl, HE.out.1, .inl ⟨HE.out.2, rfl⟩⟩
 ·have hy : y ∈ ks := by
   have h := (next_some hn).1
   rw [h]; simp
  have hb2 : Below w0.heap.size w0 w2 := HW.out.1.trans (ho.below (fun x hx => by rw [List.mem_singleton.1 hx]; exact HW.out.2.1) HW.out.1.size)
  have E2 := implIntIn_any (n + 1) y (.agg #[.int .i64 (It.tag y), .string ⟨(It.text y).toArray⟩, k]) w2 (ItAt.below hb2 ⟨k, rfl, hkk.at⟩) (HW.out.2.2 y hy)
  have HE : Hid (Out [g] W w2 /\ KcAt w0 (n + 1) v' r /\ Blk w2 g 134 #[v'] /\ (oL = match inI (n + 1) y with
   | none => none
   | some v => some ((v : Int), r))) := ⟨ho, hkr, hB, by rw [HP.out, hn]⟩
  clear ho hn hkk hkr hB E hy hb2
  cases hin : inI (n + 1) y with
  | none =>
   rw [hin] at E2 HE
   go_wp2_with fail
   refine E2.mono ?_
   rintro e w3 ⟨rfl, hb3⟩
   have HF : Hid (Out [g] W w3 /\ oL = none) := ⟨HE.out.1.trans (Out.of_below hb3), HE.out.2.2.2⟩
   clear hb3 E2 HE
   go_wp2_with fail
   refine (mustFit_no w3).mono ?_
   rintro e w4 ⟨rfl, rfl⟩
   unfold misfit
   go_wp2_with fail
   exact ⟨rfl, HF.out.1, .inl ⟨HF.out.2, rfl⟩⟩
  | some x =>
   rw [hin] at E2 HE
   change Calls _ _ _ _ (fun e w' => e = .returned (.tuple #[.int .i64 (x : Int), .bool true]) /\ Below w2.heap.size w2 w') at E2
   go_wp2_with fail
   refine E2.mono ?_
   rintro e w3 ⟨rfl, hb3⟩
   have HF : Hid (OnePost (fun x : Int => .int .i64 x) w0 W g n oL (.returned (.int .i64 (x : Int))) w3) := ⟨HE.out.1.trans (Out.of_below hb3), .inr ⟨(x : Int), r, v', HE.out.2.2.2, rfl, HE.out.2.1, HE.out.2.2.1.on hb3⟩⟩
   clear hb3 E2 HE
   go_wp2_with fail
   refine (mustFit_yes w3).mono ?_
   rintro e w4 ⟨rfl, rfl⟩
   go_wp2_with fail
   go_ret
   exact HF.out
theorem rbytes_any (w0 W : World) (g n : Nat) (v : Value) (ks : List (It (n + 1))) (hw : Below w0.heap.size w0 W) (hk : KcAt w0 (n + 1) v ks) (hr : Blk W g 134 #[v]) (hg : w0.heap.size <= g) (hl : ks.length <= 1000000) :
  Calls Try.prog 94 #[.pointer (some ⟨g, 0, none⟩)] W fun e W' => OnePost (fun x : ByteArray => .string x) w0 W g n (txtP 4 ks) e W' := by
 have E := next_any w0 W g n v ks 4 hw hk hr hg hl
 have HP : Hid (txtP 4 ks = match nextP 4 ks with
  | none => none
  | some (y, r) => some (baL (It.text y), r)) := rfl
 generalize txtP 4 ks = oL at HP |-
 clear hw hk hr hg hl
 go_enter Try.func94, Try.ntmps94
 go_wp2_with fail
 refine E.mono ?_
 rintro e w2 ⟨ho, ⟨hn, rfl⟩ | ⟨y, r, v', k, hn, rfl, hkk, hkr, hB⟩⟩
 ·have HE : Hid (Out [g] W w2 /\ oL = none) := ⟨ho, by rw [HP.out, hn]⟩
  clear ho hn E
  unfold misfit
  go_wp2_with fail
  exact ⟨rfl, HE.out.1, .inl ⟨HE.out.2, rfl⟩⟩
 ·obtain ⟨ak, ck, hks⟩ := hkk.shape
  subst hks
  have HE : Hid (OnePost (fun x : ByteArray => .string x) w0 W g n oL (.returned (.string (baL (It.text y)))) w2) := ⟨ho, .inr ⟨_, r, v', by rw [HP.out, hn], rfl, hkr, hB⟩⟩
  clear ho hn hkk hkr hB E
  change Hid (OnePost (fun x : ByteArray => .string x) w0 W g n oL (.returned (.string (baL (It.text y)))) w2) at HE
  have RF := run_field_item (It.tag y) ⟨(It.text y).toArray⟩ ak (It.kids y).length ck
  go_wp2_with fail
  go_ret
  exact HE.out
def lenV : Value -> Nat
 | .slice _ n _ => n
 | _ => 0
theorem Out.aside {g gi : Nat} {a b c : World} (h : Out [g] a b) (h2 : Out [gi] b c) (hg : a.heap.size <= gi) : Out [g] a c :=
 ⟨h2.1.trans h.1, h2.2.1.trans h.2.1, h2.2.2.1.trans h.2.2.1, Nat.le_trans h.2.2.2.1 h2.2.2.2.1, fun b hb hn => (h2.2.2.2.2 b (Nat.lt_of_lt_of_le hb h.2.2.2.1) (by simp; omega)).trans (h.2.2.2.2 b hb hn)⟩
theorem Out.grow {g : Nat} {a b c : World} {row : Option Nat} (h : Out [g] a b) (hg : b.grownBy c row) (hr : ∀ q, row = some q -> a.heap.size <= q) : Out [g] a c :=
 ⟨hg.os.trans h.1, hg.tape.trans h.2.1, hg.output.trans h.2.2.1, Nat.le_trans h.2.2.2.1 hg.size, fun b hb hn => (hg.block b (Nat.lt_of_lt_of_le hb h.2.2.2.1) (fun e => by have := hr b e.symm; omega)).trans (h.2.2.2.2 b hb hn)⟩
theorem Blk.grown {w w' : World} {b : Nat} {t : TypeId} {vs : Array Value} {row : Option Nat} (h : Blk w b t vs) (hg : w.grownBy w' row) (hn : some b ≠ row) : Blk w' b t vs := (hg.block b h.lt hn).trans h
theorem rone_text (w : World) (x : ByteArray) : OwnT (w.alloc (Obj.cells #[.string x] 9)) w.heap.size (.slice (some ⟨w.heap.size, 0, none⟩) 1 1) [x] :=
 ⟨rfl, .inr ⟨w.heap.size, 1, #[.string x], rfl, Nat.le_refl _, heap_alloc_new w _, Nat.le_refl _, by decide, rfl, rfl⟩⟩
theorem below_out {w0 a b : World} {g : Nat} (h : Below w0.heap.size w0 a) (ho : Out [g] a b) (hg : w0.heap.size <= g) : Below w0.heap.size w0 b := h.trans (ho.below (fun x hx => by rw [List.mem_singleton.1 hx]; exact hg) h.size)
theorem belowGrown {w0 a b : World} {row : Option Nat} (h : Below w0.heap.size w0 a) (hg : a.grownBy b row) (hr : ∀ q, row = some q -> w0.heap.size <= q) : Below w0.heap.size w0 b := h.grown hg h.size hr
def TxtsPost (w0 W : World) (g n : Nat) (o : Option (List ByteArray × List (It (n + 2)))) (e : Ending) (W' : World) : Prop := Out [g] W W' /\
 ((o = none /\ e = misfit) ∨ ∃ (l : List ByteArray) (r : List (It (n + 2))) (v' u : Value), o = some (l, r) /\ e = .returned u /\ OwnT W' W.heap.size u l /\ KcAt w0 (n + 2) v' r /\ Blk W' g 134 #[v'])
end Go.Proofs.Ytbiiihjohbnodaa
namespace Go.Proofs.Ytbiiihjohbnodaa
open Go.RowKit Der
set_option linter.unusedVariables false
set_option linter.unusedSimpArgs false
theorem l09Kids_any (t : Int) (s : ByteArray) (a : Option Addr) (l c : Nat) (n : Int) (w : World) : Calls Try.prog 54 #[.agg #[.int .i64 t, .string s, .slice a l c], .int .i64 n] w fun e w' => e = .returned (.tuple #[.slice a l c, .bool (decide (t = 48 /\ (l : Int) = n))]) /\ Below w.heap.size w w' := by
 obtain ⟨B, hB⟩ := zE (decide (t = 48 /\ (l : Int) = n))
 rw [hB]
 have HB : Hid (decide (t = 48 /\ (l : Int) = n) = B) := hB
 clear hB
 obtain ⟨W1, hW1⟩ : ∃ V, V = w.alloc (Obj.cells #[.int .i64 t, .string s, .slice a l c] 67) := ⟨_, rfl⟩
 have hB1 : Blk W1 w.heap.size 67 #[.int .i64 t, .string s, .slice a l c] := by rw [hW1]; exact Blk.new _ _ _
 have HB1 : Hid (Below w.heap.size w W1) := by rw [hW1]; exact (Below.refl _ _).alloc (Nat.le_refl _) _
 have c0 : W1.cell? ⟨w.heap.size, 0, none⟩ = some (.int .i64 t) := hB1.cell 0
 have c2 : W1.cell? ⟨w.heap.size, 2, none⟩ = some (.slice a l c) := hB1.cell 2
 clear hB1
 by_cases ht : t = 48
 ·subst ht
  have HB2 : Hid (((l : Int) == n) = B) := by
   have h := HB.out
   rw [<- h]
   show ((l : Int) == n) = decide _
   rw [Bool.eq_iff_iff]
   simp
  go_enter Try.func54, Try.ntmps54
  go_wp2_with fail
  rw [<- hW1]
  clear hW1
  go_quiet (fail)
  go_wp2_with fail
  go_ret2
  exact ⟨by rw [<- HB2.out]; rfl, ⟨HB1.out.os, HB1.out.tape, HB1.out.output, HB1.out.size, HB1.out.block⟩⟩
 ·have hbq : (t == 48) = false := beq_eq_false_iff_ne.2 ht
  have HB2 : Hid (B = false) := by
   have h := HB.out
   rw [<- h]
   exact decide_eq_false (fun q => ht q.1)
  clear ht
  go_enter Try.func54, Try.ntmps54
  go_wp2_with fail
  rw [<- hW1]
  clear hW1
  go_quiet (fail)
  go_wp2_with fail
  go_ret2
  exact ⟨by rw [HB2.out]; rfl, ⟨HB1.out.os, HB1.out.tape, HB1.out.output, HB1.out.size, HB1.out.block⟩⟩
theorem textsIn_any (n : Nat) (t : Int) (s : ByteArray) (ks : List (It (n + 1))) (a : Option Addr) (l c : Nat) (w : World) (hk : KcAt w (n + 1) (.slice a l c) ks) (hl : ks.length <= 1000000) (hz : ∀ y ∈ ks, szI (n + 1) y <= 1000000) : Calls Try.prog 55 #[.agg #[.int .i64 t, .string s, .slice a l c]] w fun e w' => ∃ u, e = .returned u /\ OwnT w' w.heap.size u (ks.map (fun y => baL (It.text y))) /\ Below w.heap.size w w' := by
 obtain ⟨i0, hi, hz0, hz1, hz2⟩ := info_parts info9
 obtain ⟨ao, cap, hv, _, hcell⟩ := hk
 injection hv with hv1 hv2 hv3
 subst hv1 hv3
 have HX : Hid ((0 < ks.length -> ∃ g o, a = some ⟨g, o, none⟩ /\ g < w.heap.size /\ ∀ j (hj : j < ks.length), ∃ k, w.cell? ⟨g, o + j * 3, none⟩ = some (.int .i64 (It.tag ks[j])) /\ w.cell? ⟨g, o + j * 3 + 1, none⟩ = some (.string ⟨(It.text ks[j]).toArray⟩) /\ w.cell? ⟨g, o + j * 3 + 2, none⟩ = some k /\ KcAt w n k (It.kids ks[j])) /\ l = ks.length /\ (∀ y ∈ ks, szI (n + 1) y <= 1000000)) := ⟨hcell, hv2, hz⟩
 have hlb : l <= 1000000 := by omega
 clear hcell hv2 hl hz
 go_enter Try.func55, Try.ntmps55
 go_wp2_with fail
 obtain ⟨W3, hW3⟩ : ∃ V, V = (w.alloc (Obj.cells #[.int .i64 t, .string s, .slice a l c] 67)).alloc (Obj.cells #[] 9) := ⟨_, rfl⟩
 rw [<- hW3]
 have e0 : (w.alloc (Obj.cells #[.int .i64 t, .string s, .slice a l c] 67)).heap.size = w.heap.size + 1 := Array.size_push _
 have H3 : Hid (Below w.heap.size w W3 /\ W3.heap.size = w.heap.size + 2 /\ Blk W3 w.heap.size 67 #[.int .i64 t, .string s, .slice a l c] /\ OwnT W3 (w.heap.size + 1) (.slice (some ⟨w.heap.size + 1, 0, none⟩) 0 0) []) := by
  rw [hW3]
  refine ⟨((Below.refl _ _).alloc (Nat.le_refl _) _).alloc (by rw [e0]; omega) _, by rw [size_alloc, e0], (Blk.new w _ _).alloc _, ?_⟩
  have h := World.ownsRow_made (base := w.heap.size + 1) (e := 9) (size := 1) (w.alloc (Obj.cells #[.int .i64 t, .string s, .slice a l c] 67)) #[] 0 (by rw [e0]; exact Nat.le_refl _) (Nat.zero_le _) rfl
  rw [e0] at h
  exact h
 clear hW3 e0
 go_loopw [3, 4] (fun lv iv wr => ∃ k : Nat, k <= l /\ iv = .int .i64 k /\ Hid (OwnT wr (w.heap.size + 1) lv ((ks.take k).map (fun y => baL (It.text y))) /\ Blk wr w.heap.size 67 #[.int .i64 t, .string s, .slice a l c] /\ Below w.heap.size w wr /\ w.heap.size + 1 <= wr.heap.size)) (fun _ iv _ => l - (intOf iv).toNat)
 case atStart => exact ⟨0, Nat.zero_le _, rfl, H3.out.2.2.2, H3.out.2.2.1, H3.out.1, by rw [H3.out.2.1]; omega⟩
 case round =>
  obtain ⟨k, hk, rfl, HK⟩ := hrel
  clear H3
  obtain ⟨la, lc, hlv⟩ : ∃ ao cap, u3 = .slice ao ((ks.take k).map (fun y => baL (It.text y))).length cap := by obtain ⟨ao, cap, h, _⟩ := HK.out.1.at; exact ⟨ao, cap, h⟩
  have hlen : ((ks.take k).map (fun y => baL (It.text y))).length = k := by rw [List.length_map, List.length_take]; have := HX.out.2.1; omega
  rw [hlen] at hlv
  subst hlv
  have HLEN : Hid (((ks.take k).map (fun y => baL (It.text y))).length = k) := hlen
  clear hlen
  have cB : wr.cell? ⟨w.heap.size, 2, none⟩ = some (.slice a l c) := HK.out.2.1.cell 2
  by_cases hlt : k < l
  ·have hlti : (k : Int) < (l : Int) := by omega
   have hk0 : (0 : Int) <= (k : Int) := by omega
   have hj : k < ks.length := by have := HX.out.2.1; omega
   obtain ⟨g1, o1, ha, hg1, hcs⟩ := HX.out.1 (by omega)
   obtain ⟨kk, d0, d1, d2, hkk⟩ := hcs k hj
   have c0 : wr.cell? ⟨g1, o1 + k * 3, none⟩ = some (.int .i64 (It.tag ks[k])) := (HK.out.2.2.1.cell (p := ⟨g1, o1 + k * 3, none⟩) hg1).trans d0
   have c1 : wr.cell? ⟨g1, o1 + k * 3 + 1, none⟩ = some (.string ⟨(It.text ks[k]).toArray⟩) := (HK.out.2.2.1.cell (p := ⟨g1, o1 + k * 3 + 1, none⟩) hg1).trans d1
   have c2 : wr.cell? ⟨g1, o1 + k * 3 + 2, none⟩ = some kk := (HK.out.2.2.1.cell (p := ⟨g1, o1 + k * 3 + 2, none⟩) hg1).trans d2
   obtain ⟨ak, ck, hks⟩ := hkk.shape
   have HN : Hid ((ks.take (k + 1)).map (fun y => baL (It.text y)) = (ks.take k).map (fun y => baL (It.text y)) ++ [(fun y => baL (It.text y)) ks[k]]) := by
    show (ks.take (k + 1)).map (fun y => baL (It.text y)) = _
    rw [<- List.take_append_getElem hj, List.map_append]
    rfl
   obtain ⟨x, hx⟩ : ∃ x : ByteArray, (⟨(It.text ks[k]).toArray⟩ : ByteArray) = x := ⟨_, rfl⟩
   have HXK : Hid (baL (It.text ks[k]) = x) := hx
   rw [hx] at c1
   subst ha
   clear d0 d1 d2 hkk hcs hg1 hx hks c0 c2
   obtain ⟨W4, hW4⟩ : ∃ V, V = wr.alloc (Obj.cells #[.string x] 9) := ⟨_, rfl⟩
   have hb34 : Below wr.heap.size wr W4 := by rw [hW4]; exact (Below.refl _ _).alloc (Nat.le_refl _) _
   have H4 : Hid (OwnT W4 (w.heap.size + 1) (.slice la k lc) ((ks.take k).map fun y => baL (It.text y)) /\ OwnT W4 wr.heap.size (.slice (some ⟨wr.heap.size, 0, none⟩) 1 1) [x] /\ Blk W4 w.heap.size 67 #[.int .i64 t, .string s, .slice (some ⟨g1, o1, none⟩) l c] /\ Below w.heap.size w W4 /\ w.heap.size + 1 <= W4.heap.size) := ⟨HK.out.1.stays hb34, by rw [hW4]; exact rone_text wr x, HK.out.2.1.on hb34, HK.out.2.2.1.trans (hb34.mono HK.out.2.2.1.size), Nat.le_trans HK.out.2.2.2 hb34.size⟩
   clear hb34 HK
   go_wp2_with (at_builtin; rw [<- hW4]; refine wpList_append_texts2 rfl _ _ 22 rfl (w.heap.size + 1) i0 Try.underlying22 hi hz0 hz1 hz2 (.slice la k lc) ((ks.take k).map fun y => baL (It.text y)).length (cellsT ((ks.take k).map fun y => baL (It.text y))) rfl H4.out.1 _ [x] wr.heap.size H4.out.2.1 rfl (by have := HLEN.out; simp only [List.length_singleton]; omega) H4.out.2.2.2.2 ?_)
   clear c1 cB
   intro v9 w9 ho9 hg9
   rw [<- hW4] at hg9
   have H9 : Hid (OwnT w9 (w.heap.size + 1) v9 ((ks.take (k + 1)).map fun y => baL (It.text y)) /\ Blk w9 w.heap.size 67 #[.int .i64 t, .string s, .slice (some ⟨g1, o1, none⟩) l c] /\ Below w.heap.size w w9 /\ w.heap.size + 1 <= w9.heap.size) := by
    have hrl := fun b hb => (World.ownsRow.lt H4.out.1 b hb).1
    refine ⟨?_, H4.out.2.2.1.grown hg9 (fun e => by have := hrl _ e.symm; omega), H4.out.2.2.2.1.grown hg9 H4.out.2.2.2.1.size (fun b hb => by have := hrl b hb; omega), Nat.le_trans H4.out.2.2.2.2 hg9.size⟩
    rw [HN.out, HXK.out]
    simpa [OwnT, cellsT_append] using ho9
   clear ho9 hg9 H4 hW4
   go_wp2_with fail
   exact ⟨⟨k + 1, by omega, by go_num, H9⟩, by simp [intOf]; omega⟩
  ·have hlti : ¬ (k : Int) < (l : Int) := by omega
   have HE : Hid (OwnT wr (w.heap.size + 1) (.slice la k lc) (ks.map fun y => baL (It.text y)) /\ Below w.heap.size w wr) := by
    have h := HK.out.1
    rw [List.take_of_length_le (by have := HX.out.2.1; omega)] at h
    exact ⟨h, HK.out.2.2.1⟩
   go_wp2_with fail
   go_ret
   exact ⟨_, rfl, HE.out.1.base (by omega), HE.out.2⟩
end Go.Proofs.Ytbiiihjohbnodaa
