/-
  Texts of the proof.
-/
import Derived.Deep.RegionHeld3
import Derived.Test.YthbdgdfanpbkeaaGreatAQ12
import Derived.Test.YthbdgdfanpbkeaaGreatAQ25
set_option maxRecDepth 100000
set_option maxHeartbeats 25600000
namespace Go.Proofs.YthbdgdfanpbkeaaGreat
open Go.RowKit Der
set_option linter.unusedVariables false
theorem run_field_item (t : Int) (s : ByteArray) (a : Option Addr) (l c : Nat) (w : World) : Sem.run Tryz.prog (Instr.field 41 (.agg #[.int .i64 t, .string s, .slice a l c]) 1) w = .ok (.string s) w := by
 first | kernel_rfl | rfl | simp [Instr.field, go_sem]
def RdOf (t : Int) (a : Option Addr) (l c : Nat) (W : World) (e : Ending) (W' : World) : Prop := Below W.heap.size W W' /\ ((¬ t = 48 /\ e = misfit) ∨ (t = 48 /\ ∃ g, W.heap.size <= g /\ e = .returned (.pointer (some ⟨g, 0, none⟩)) /\ Blk W' g 104 #[.slice a l c]))
theorem readerOf_any (t : Int) (s : ByteArray) (a : Option Addr) (l c : Nat) (W : World) : Calls Tryz.prog 51 #[.agg #[.int .i64 t, .string s, .slice a l c]] W fun e W' => RdOf t a l c W e W' := by
 obtain ⟨W1, hW1⟩ : ∃ V, V = W.alloc (Obj.cells #[.int .i64 t, .string s, .slice a l c] 41) := ⟨_, rfl⟩
 have hB : Blk W1 W.heap.size 41 #[.int .i64 t, .string s, .slice a l c] := by rw [hW1]; exact Blk.new _ _ _
 have hb1 : Below W.heap.size W W1 := by rw [hW1]; exact (Below.refl _ _).alloc (Nat.le_refl _) _
 have H1 : Hid (Blk W1 W.heap.size 41 #[.int .i64 t, .string s, .slice a l c] /\ Below W.heap.size W W1) := ⟨hB, hb1⟩
 clear hB hb1
 by_cases ht : t = 48
 ·subst ht
  go_enter Tryz.func51, Tryz.ntmps51
  go_wp2_with fail
  rw [<- hW1]
  clear hW1
  refine (mustFit_yes W1).mono ?_
  rintro e w2 ⟨rfl, rfl⟩
  have c2 : W1.cell? ⟨W.heap.size, 2, none⟩ = some (.slice a l c) := H1.out.1.cell 2
  go_wp2_with fail
  go_ret
  exact ⟨H1.out.2.alloc H1.out.2.size _, .inr ⟨rfl, W1.heap.size, H1.out.2.size, rfl, Blk.new _ _ _⟩⟩
 ·have hbq : (t == 48) = false := beq_eq_false_iff_ne.2 ht
  have HT : Hid (¬ t = 48) := ht
  clear ht
  go_enter Tryz.func51, Tryz.ntmps51
  go_wp2_with fail
  rw [<- hW1]
  clear hW1
  refine (mustFit_no W1).mono ?_
  rintro e w2 ⟨rfl, rfl⟩
  unfold misfit
  go_wp2_with fail
  exact ⟨rfl, H1.out.2, .inl ⟨HT.out, rfl⟩⟩
def ListPost (w0 W : World) (g n : Nat) (o : Option (List (It n) × List (It (n + 1)))) (e : Ending) (W' : World) : Prop := Out [g] W W' /\
 ((o = none /\ e = misfit) ∨ ∃ (i : List (It n)) (r : List (It (n + 1))) (v' vi : Value) (gi : Nat), o = some (i, r) /\ e = .returned (.pointer (some ⟨gi, 0, none⟩)) /\ W.heap.size <= gi /\ KcAt w0 n vi i /\ KcAt w0 (n + 1) v' r /\ Blk W' g 104 #[v'] /\ Blk W' gi 104 #[vi])
theorem lstP_next {k : Nat} (ks : List (It (k + 1))) : lstP ks = (nextP 48 ks).map fun p => (It.kids p.1, p.2) := by
 unfold lstP
 cases nextP 48 ks with
 | none => rfl
 | some p => rfl
theorem Out.size {fp : List Nat} {a b : World} (h : Out fp a b) : a.heap.size <= b.heap.size := h.2.2.2.1
theorem Blk.on {w w' : World} {b : Nat} {t : TypeId} {vs : Array Value} (h : Blk w b t vs) (hb : Below w.heap.size w w') : Blk w' b t vs := h.below hb h.lt
theorem Blk.outX {w w' : World} {b : Nat} {t : TypeId} {vs : Array Value} {fp : List Nat} (h : Blk w b t vs) (ho : Out fp w w') (hn : b ∉ fp) : Blk w' b t vs := (ho.2.2.2.2 b h.lt hn).trans h
theorem list_any (w0 W : World) (g n : Nat) (v : Value) (ks : List (It (n + 1))) (hw : Below w0.heap.size w0 W) (hk : KcAt w0 (n + 1) v ks) (hr : Blk W g 104 #[v]) (hg : w0.heap.size <= g) (hl : ks.length <= 1000000) :
  Calls Tryz.prog 73 #[.pointer (some ⟨g, 0, none⟩)] W fun e W' => ListPost w0 W g n (lstP ks) e W' := by
 have E := next_any w0 W g n v ks 48 hw hk hr hg hl
 have HP : Hid (lstP ks = (nextP 48 ks).map fun p => (It.kids p.1, p.2)) := lstP_next ks
 generalize lstP ks = oL at HP |-
 clear hw hk hr hg hl
 go_enter Tryz.func73, Tryz.ntmps73
 go_wp2_with fail
 refine E.mono ?_
 rintro e w2 ⟨ho, ⟨hn, rfl⟩ | ⟨y, r, v', k, hn, rfl, hkk, hkr, hB⟩⟩
 ·have HE : Hid (Out [g] W w2 /\ oL = none) := ⟨ho, by rw [HP.out, hn]; rfl⟩
  clear ho hn E
  unfold misfit
  go_wp2_with fail
  exact ⟨rfl, HE.out.1, .inl ⟨HE.out.2, rfl⟩⟩
 ·have HT : Hid (It.tag y = 48) := by
   cases ks with
   | nil => cases hn
   | cons a q => exact (next_some hn).2
  obtain ⟨ak, ck, hks⟩ := hkk.shape
  obtain ⟨lk, hlk⟩ := zE ((It.kids y).length)
  rw [hlk] at hks
  subst hks
  have E2 := readerOf_any (It.tag y) ⟨(It.text y).toArray⟩ ak lk ck w2
  obtain ⟨t, ht⟩ := zE (It.tag y)
  obtain ⟨s, hs⟩ : ∃ s : ByteArray, (⟨(It.text y).toArray⟩ : ByteArray) = s := ⟨_, rfl⟩
  rw [ht, hs] at E2 |-
  have HE : Hid (Out [g] W w2 /\ oL = some (It.kids y, r) /\ KcAt w0 n (.slice ak lk ck) (It.kids y) /\ KcAt w0 (n + 1) v' r /\ Blk w2 g 104 #[v'] /\ t = 48) := ⟨ho, by rw [HP.out, hn]; rfl, hkk, hkr, hB, by rw [<- ht]; exact HT.out⟩
  clear ho hn hkk hkr hB E HT ht hs hlk
  go_wp2_with fail
  refine E2.mono ?_
  rintro e w3 ⟨hb3, ⟨hn3, rfl⟩ | ⟨_, gi, hgi, rfl, hBi⟩⟩
  ·exact absurd HE.out.2.2.2.2.2 hn3
  ·have HF : Hid (ListPost w0 W g n oL (.returned (.pointer (some ⟨gi, 0, none⟩))) w3) := ⟨HE.out.1.trans (Out.of_below hb3), .inr ⟨_, _, _, _, gi, HE.out.2.1, rfl, Nat.le_trans HE.out.1.size hgi, HE.out.2.2.1, HE.out.2.2.2.1, HE.out.2.2.2.2.1.on hb3, hBi⟩⟩
   clear hb3 hgi hBi E2
   go_wp2_with fail
   go_ret
   exact HF.out
def EndPost {α : Type} (ks : List α) (W : World) (e : Ending) (W' : World) : Prop := Below W.heap.size W W' /\ ((endP ks = none /\ e = misfit) ∨ (ks = [] /\ endP ks = some () /\ e = .returned (.tuple #[])))
theorem end_any {α : Type} (W : World) (g l c : Nat) (a : Option Addr) (ks : List α) (hl : ks.length = l) (hr : Blk W g 104 #[.slice a l c]) :
  Calls Tryz.prog 56 #[.pointer (some ⟨g, 0, none⟩)] W fun e W' => EndPost ks W e W' := by
 have cr : W.cell? ⟨g, 0, none⟩ = some (.slice a l c) := hr.cell 0
 clear hr
 cases ks with
 | nil =>
  subst hl
  go_enter Tryz.func56, Tryz.ntmps56
  go_wp2_with fail
  refine (mustFit_yes W).mono ?_
  rintro e w2 ⟨rfl, rfl⟩
  go_wp2_with fail
  first | go_end0 | skip
  exact ⟨Below.refl _ _, .inr ⟨rfl, rfl, rfl⟩⟩
 | cons x q =>
  subst hl
  rw [List.length_cons] at cr
  obtain ⟨m, hm⟩ := zE (q.length)
  rw [hm] at cr
  clear hm
  have hm0 : ((m : Int) + 1 == 0) = false := beq_eq_false_iff_ne.2 (by omega)
  go_enter Tryz.func56, Tryz.ntmps56
  go_wp2_with fail
  refine (mustFit_no W).mono ?_
  rintro e w2 ⟨rfl, rfl⟩
  unfold misfit
  go_wp2_with fail
  exact ⟨rfl, Below.refl _ _, .inl ⟨rfl, rfl⟩⟩
def OnePost {α : Type} (V : α -> Value) (w0 W : World) (g n : Nat) (o : Option (α × List (It (n + 1)))) (e : Ending) (W' : World) : Prop := Out [g] W W' /\
 ((o = none /\ e = misfit) ∨ ∃ (x : α) (r : List (It (n + 1))) (v' : Value), o = some (x, r) /\ e = .returned (V x) /\ KcAt w0 (n + 1) v' r /\ Blk W' g 104 #[v'])
theorem number_any (w0 W : World) (g n : Nat) (v : Value) (ks : List (It (n + 1))) (hw : Below w0.heap.size w0 W) (hk : KcAt w0 (n + 1) v ks) (hr : Blk W g 104 #[v]) (hg : w0.heap.size <= g) (hl : ks.length <= 1000000) (hz : ∀ y ∈ ks, szI (n + 1) y <= 20000000) :
  Calls Tryz.prog 54 #[.pointer (some ⟨g, 0, none⟩)] W fun e W' => OnePost (fun x : Int => .int .i64 x) w0 W g n (numP ks) e W' := by
 have E := next_any w0 W g n v ks 2 hw hk hr hg hl
 have HP : Hid (numP ks = match nextP 2 ks with
  | none => none
  | some (y, r) => match inI (n + 1) y with
   | none => none
   | some v => some ((v : Int), r)) := rfl
 generalize numP ks = oL at HP |-
 have HW : Hid (Below w0.heap.size w0 W /\ w0.heap.size <= g /\ ∀ y ∈ ks, szI (n + 1) y <= 20000000) := ⟨hw, hg, hz⟩
 clear hw hk hr hg hl hz
 go_enter Tryz.func54, Tryz.ntmps54
 go_wp2_with fail
 refine E.mono ?_
 rintro e w2 ⟨ho, ⟨hn, rfl⟩ | ⟨y, r, v', k, hn, rfl, hkk, hkr, hB⟩⟩
 ·have HE : Hid (Out [g] W w2 /\ oL = none) := ⟨ho, by rw [HP.out, hn]⟩
  clear ho hn E
  unfold misfit
  go_wp2_with fail
  exact ⟨rfl, HE.out.1, .inl ⟨HE.out.2, rfl⟩⟩
 ·have hy : y ∈ ks := by
   have h := (next_some hn).1
   rw [h]; simp
  have hb2 : Below w0.heap.size w0 w2 := HW.out.1.trans (ho.below (fun x hx => by rw [List.mem_singleton.1 hx]; exact HW.out.2.1) HW.out.1.size)
  have E2 := implIntIn_any (n + 1) y (.agg #[.int .i64 (It.tag y), .string ⟨(It.text y).toArray⟩, k]) w2 (ItAt.below hb2 ⟨k, rfl, hkk.at⟩) (HW.out.2.2 y hy)
  have HE : Hid (Out [g] W w2 /\ KcAt w0 (n + 1) v' r /\ Blk w2 g 104 #[v'] /\ (oL = match inI (n + 1) y with
   | none => none
   | some v => some ((v : Int), r))) := ⟨ho, hkr, hB, by rw [HP.out, hn]⟩
  clear ho hn hkk hkr hB E hy hb2
  cases hin : inI (n + 1) y with
  | none =>
   rw [hin] at E2 HE
   go_wp2_with fail
   refine E2.mono ?_
   rintro e w3 ⟨rfl, hb3⟩
   have HF : Hid (Out [g] W w3 /\ oL = none) := ⟨HE.out.1.trans (Out.of_below hb3), HE.out.2.2.2⟩
   clear hb3 E2 HE
   go_wp2_with fail
   refine (mustFit_no w3).mono ?_
   rintro e w4 ⟨rfl, rfl⟩
   unfold misfit
   go_wp2_with fail
   exact ⟨rfl, HF.out.1, .inl ⟨HF.out.2, rfl⟩⟩
  | some x =>
   rw [hin] at E2 HE
   change Calls _ _ _ _ (fun e w' => e = .returned (.tuple #[.int .i64 (x : Int), .bool true]) /\ Below w2.heap.size w2 w') at E2
   go_wp2_with fail
   refine E2.mono ?_
   rintro e w3 ⟨rfl, hb3⟩
   have HF : Hid (OnePost (fun x : Int => .int .i64 x) w0 W g n oL (.returned (.int .i64 (x : Int))) w3) := ⟨HE.out.1.trans (Out.of_below hb3), .inr ⟨(x : Int), r, v', HE.out.2.2.2, rfl, HE.out.2.1, HE.out.2.2.1.on hb3⟩⟩
   clear hb3 E2 HE
   go_wp2_with fail
   refine (mustFit_yes w3).mono ?_
   rintro e w4 ⟨rfl, rfl⟩
   go_wp2_with fail
   go_ret
   exact HF.out
theorem rbytes_any (w0 W : World) (g n : Nat) (v : Value) (ks : List (It (n + 1))) (hw : Below w0.heap.size w0 W) (hk : KcAt w0 (n + 1) v ks) (hr : Blk W g 104 #[v]) (hg : w0.heap.size <= g) (hl : ks.length <= 1000000) :
  Calls Tryz.prog 53 #[.pointer (some ⟨g, 0, none⟩)] W fun e W' => OnePost (fun x : ByteArray => .string x) w0 W g n (txtP 4 ks) e W' := by
 have E := next_any w0 W g n v ks 4 hw hk hr hg hl
 have HP : Hid (txtP 4 ks = match nextP 4 ks with
  | none => none
  | some (y, r) => some (baL (It.text y), r)) := rfl
 generalize txtP 4 ks = oL at HP |-
 clear hw hk hr hg hl
 go_enter Tryz.func53, Tryz.ntmps53
 go_wp2_with fail
 refine E.mono ?_
 rintro e w2 ⟨ho, ⟨hn, rfl⟩ | ⟨y, r, v', k, hn, rfl, hkk, hkr, hB⟩⟩
 ·have HE : Hid (Out [g] W w2 /\ oL = none) := ⟨ho, by rw [HP.out, hn]⟩
  clear ho hn E
  unfold misfit
  go_wp2_with fail
  exact ⟨rfl, HE.out.1, .inl ⟨HE.out.2, rfl⟩⟩
 ·obtain ⟨ak, ck, hks⟩ := hkk.shape
  subst hks
  have HE : Hid (OnePost (fun x : ByteArray => .string x) w0 W g n oL (.returned (.string (baL (It.text y)))) w2) := ⟨ho, .inr ⟨_, r, v', by rw [HP.out, hn], rfl, hkr, hB⟩⟩
  clear ho hn hkk hkr hB E
  change Hid (OnePost (fun x : ByteArray => .string x) w0 W g n oL (.returned (.string (baL (It.text y)))) w2) at HE
  have RF := run_field_item (It.tag y) ⟨(It.text y).toArray⟩ ak (It.kids y).length ck
  go_wp2_with fail
  go_ret
  exact HE.out
theorem rflag_any (w0 W : World) (g n : Nat) (v : Value) (ks : List (It (n + 1))) (hw : Below w0.heap.size w0 W) (hk : KcAt w0 (n + 1) v ks) (hr : Blk W g 104 #[v]) (hg : w0.heap.size <= g) (hl : ks.length <= 1000000) :
  Calls Tryz.prog 55 #[.pointer (some ⟨g, 0, none⟩)] W fun e W' => OnePost (fun x : Bool => .bool x) w0 W g n (flgP ks) e W' := by
 have E := next_any w0 W g n v ks 1 hw hk hr hg hl
 have HP : Hid (flgP ks = match nextP 1 ks with
  | none => none
  | some (y, r) => some (decide (It.text y = [255]), r)) := rfl
 generalize flgP ks = oL at HP |-
 clear hw hk hr hg hl
 go_enter Tryz.func55, Tryz.ntmps55
 go_wp2_with fail
 refine E.mono ?_
 rintro e w2 ⟨ho, ⟨hn, rfl⟩ | ⟨y, r, v', k, hn, rfl, hkk, hkr, hB⟩⟩
 ·have HE : Hid (Out [g] W w2 /\ oL = none) := ⟨ho, by rw [HP.out, hn]⟩
  clear ho hn E
  unfold misfit
  go_wp2_with fail
  exact ⟨rfl, HE.out.1, .inl ⟨HE.out.2, rfl⟩⟩
 ·obtain ⟨ak, ck, hks⟩ := hkk.shape
  subst hks
  have HE : Hid (OnePost (fun x : Bool => .bool x) w0 W g n oL (.returned (.bool (decide (It.text y = [255])))) w2) := ⟨ho, .inr ⟨_, r, v', by rw [HP.out, hn], rfl, hkr, hB⟩⟩
  clear ho hn hkk hkr hB E
  change Hid (OnePost (fun x : Bool => .bool x) w0 W g n oL (.returned (.bool (decide (It.text y = [255])))) w2) at HE
  have RF := run_field_item (It.tag y) ⟨(It.text y).toArray⟩ ak (It.kids y).length ck
  obtain ⟨B, hB⟩ := zE (decide (It.text y = [255]))
  have hq : (ByteArray.toList ⟨(It.text y).toArray⟩ == [255]) = B := by
   rw [<- hB]
   have e : ∀ l : List UInt8, ByteArray.toList ⟨l.toArray⟩ = l := fun l => by simp
   rw [e]
   rw [Bool.eq_iff_iff]
   simp
  rw [hB] at HE
  clear hB
  generalize (⟨(It.text y).toArray⟩ : ByteArray) = S at *
  go_wp2_with fail
  go_ret
  exact HE.out
def lenV : Value -> Nat
 | .slice _ n _ => n
 | _ => 0
theorem Out.aside {g gi : Nat} {a b c : World} (h : Out [g] a b) (h2 : Out [gi] b c) (hg : a.heap.size <= gi) : Out [g] a c :=
 ⟨h2.1.trans h.1, h2.2.1.trans h.2.1, h2.2.2.1.trans h.2.2.1, Nat.le_trans h.2.2.2.1 h2.2.2.2.1, fun b hb hn => (h2.2.2.2.2 b (Nat.lt_of_lt_of_le hb h.2.2.2.1) (by simp; omega)).trans (h.2.2.2.2 b hb hn)⟩
theorem Out.grow {g : Nat} {a b c : World} {row : Option Nat} (h : Out [g] a b) (hg : b.grownBy c row) (hr : ∀ q, row = some q -> a.heap.size <= q) : Out [g] a c :=
 ⟨hg.os.trans h.1, hg.tape.trans h.2.1, hg.output.trans h.2.2.1, Nat.le_trans h.2.2.2.1 hg.size, fun b hb hn => (hg.block b (Nat.lt_of_lt_of_le hb h.2.2.2.1) (fun e => by have := hr b e.symm; omega)).trans (h.2.2.2.2 b hb hn)⟩
theorem Blk.grown {w w' : World} {b : Nat} {t : TypeId} {vs : Array Value} {row : Option Nat} (h : Blk w b t vs) (hg : w.grownBy w' row) (hn : some b ≠ row) : Blk w' b t vs := (hg.block b h.lt hn).trans h
theorem rone_text (w : World) (x : ByteArray) : OwnT (w.alloc (Obj.cells #[.string x] 9)) w.heap.size (.slice (some ⟨w.heap.size, 0, none⟩) 1 1) [x] :=
 ⟨rfl, .inr ⟨w.heap.size, 1, #[.string x], rfl, Nat.le_refl _, heap_alloc_new w _, Nat.le_refl _, by decide, rfl, rfl⟩⟩
theorem below_out {w0 a b : World} {g : Nat} (h : Below w0.heap.size w0 a) (ho : Out [g] a b) (hg : w0.heap.size <= g) : Below w0.heap.size w0 b := h.trans (ho.below (fun x hx => by rw [List.mem_singleton.1 hx]; exact hg) h.size)
theorem belowGrown {w0 a b : World} {row : Option Nat} (h : Below w0.heap.size w0 a) (hg : a.grownBy b row) (hr : ∀ q, row = some q -> w0.heap.size <= q) : Below w0.heap.size w0 b := h.grown hg h.size hr
def TxtsPost (w0 W : World) (g n : Nat) (o : Option (List ByteArray × List (It (n + 2)))) (e : Ending) (W' : World) : Prop := Out [g] W W' /\
 ((o = none /\ e = misfit) ∨ ∃ (l : List ByteArray) (r : List (It (n + 2))) (v' u : Value), o = some (l, r) /\ e = .returned u /\ OwnT W' W.heap.size u l /\ KcAt w0 (n + 2) v' r /\ Blk W' g 104 #[v'])
end Go.Proofs.YthbdgdfanpbkeaaGreat
namespace Go.Proofs.YthbdgdfanpbkeaaGreat
open Go.RowKit Der
set_option linter.unusedVariables false
set_option linter.unusedSimpArgs false
def SzL {n : Nat} (ks : List (It n)) : Prop := ks.length <= 1000000 /\ ∀ y ∈ ks, szI n y <= 1000000
theorem SzL.tail {n : Nat} {y : It n} {r : List (It n)} (h : SzL (y :: r)) : SzL r := ⟨by have := h.1; rw [List.length_cons] at this; omega, fun z hz => h.2 z (by simp [hz])⟩
theorem SzL.kids {n : Nat} {y : It (n + 1)} {r : List (It (n + 1))} (h : SzL (y :: r)) : SzL (It.kids y) := by
 have h5 := szI_kid (t := It.tag y) (s := It.text y) (ks := It.kids y) (h.2 y (by simp))
 exact ⟨h5.2.1, h5.2.2⟩
theorem SzL.num {k : Nat} {ks r : List (It (k + 1))} {x : Int} (h : SzL ks) (hn : numP ks = some (x, r)) : SzL r := by
 obtain ⟨y, _, h1, _⟩ := num_some hn
 rw [h1] at h
 exact h.tail
theorem SzL.flg {k : Nat} {ks r : List (It (k + 1))} {x : Bool} (h : SzL ks) (hn : flgP ks = some (x, r)) : SzL r := by
 obtain ⟨y, h1, _⟩ := flg_some hn
 rw [h1] at h
 exact h.tail
theorem out_set {w : World} (b j : Nat) (v : Value) : Out [b] w (w.setCell ⟨b, j, none⟩ v) := (Out.refl _ _).setCell _ _ (by simp)
end Go.Proofs.YthbdgdfanpbkeaaGreat
namespace Go.Proofs.YthbdgdfanpbkeaaGreat
open Go.RowKit
set_option linter.unusedVariables false
theorem CtAt.shape {w : World} {v : Value} {c : Ct} (h : CtAt w v c) : ∃ p q e r d s, v = ctV c (.slice p c.pol.length q) (.slice e c.per.length r) (.slice d c.den.length s) := by
 obtain ⟨pv, ev, dv, hv, ⟨p, q, h1, _⟩, ⟨e, r, h2, _⟩, ⟨d, s, h3, _⟩⟩ := h
 exact ⟨p, q, e, r, d, s, by rw [hv, h1, h2, h3]⟩
end Go.Proofs.YthbdgdfanpbkeaaGreat
