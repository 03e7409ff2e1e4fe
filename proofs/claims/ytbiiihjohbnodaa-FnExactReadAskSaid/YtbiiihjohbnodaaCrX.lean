/-
  The program's reader: readerOf, list, end, number, text, bytes, flag, numbers, texts.
-/
import Derived.Test.YtbiiihjohbnodaaCrW
import Derived.Test.YtbiiihjohbnodaaCrH
namespace Go.Proofs.Ytbiiihjohbnodaa
open Go.RowKit Der
set_option linter.unusedVariables false

theorem run_field_item (t : Int) (s : ByteArray) (a : Option Addr) (l c : Nat) (w : World) : Sem.run Try.prog (Instr.field 67 (.agg #[.int .i64 t, .string s, .slice a l c]) 1) w = .ok (.string s) w := by
  first | kernel_rfl | rfl | simp [Instr.field, go_sem]
/-- What readerOf leaves. -/
def RdOf (t : Int) (a : Option Addr) (l c : Nat) (W : World) (e : Ending) (W' : World) : Prop := Below W.heap.size W W' ∧ ((¬ t = 48 ∧ e = misfit) ∨ (t = 48 ∧ ∃ g, W.heap.size ≤ g ∧ e = .returned (.pointer (some ⟨g, 0, none⟩)) ∧ Blk W' g 134 #[.slice a l c]))
set_option maxHeartbeats 1600000 in
set_option maxRecDepth 100000 in
theorem readerOf_any (t : Int) (s : ByteArray) (a : Option Addr) (l c : Nat) (W : World) : Calls Try.prog 92 #[.agg #[.int .i64 t, .string s, .slice a l c]] W fun e W' => RdOf t a l c W e W' := by
  obtain ⟨W1, hW1⟩ : ∃ V, V = W.alloc (Obj.cells #[.int .i64 t, .string s, .slice a l c] 67) := ⟨_, rfl⟩
  have hB : Blk W1 W.heap.size 67 #[.int .i64 t, .string s, .slice a l c] := by rw [hW1]; exact Blk.new _ _ _
  have hb1 : Below W.heap.size W W1 := by rw [hW1]; exact (Below.refl _ _).alloc (Nat.le_refl _) _
  have H1 : Hid (Blk W1 W.heap.size 67 #[.int .i64 t, .string s, .slice a l c] ∧ Below W.heap.size W W1) := ⟨hB, hb1⟩
  clear hB hb1
  by_cases ht : t = 48
  · subst ht
    go_enter Try.func92, Try.ntmps92
    go_wp2_with fail
    rw [← hW1]
    clear hW1
    refine (mustFit_yes W1).mono ?_
    rintro e w2 ⟨rfl, rfl⟩
    have c2 : W1.cell? ⟨W.heap.size, 2, none⟩ = some (.slice a l c) := H1.out.1.cell 2
    go_wp2_with fail
    go_ret
    exact ⟨H1.out.2.alloc H1.out.2.size _, .inr ⟨rfl, W1.heap.size, H1.out.2.size, rfl, Blk.new _ _ _⟩⟩
  · have hbq : (t == 48) = false := beq_eq_false_iff_ne.2 ht
    have HT : Hid (¬ t = 48) := ht
    clear ht
    go_enter Try.func92, Try.ntmps92
    go_wp2_with fail
    rw [← hW1]
    clear hW1
    refine (mustFit_no W1).mono ?_
    rintro e w2 ⟨rfl, rfl⟩
    unfold misfit
    go_wp2_with fail
    exact ⟨rfl, H1.out.2, .inl ⟨HT.out, rfl⟩⟩
/-- What list leaves. -/
def ListPost (w0 W : World) (g n : Nat) (o : Option (List (It n) × List (It (n + 1)))) (e : Ending) (W' : World) : Prop := Out [g] W W' ∧
  ((o = none ∧ e = misfit) ∨ ∃ (i : List (It n)) (r : List (It (n + 1))) (v' vi : Value) (gi : Nat), o = some (i, r) ∧ e = .returned (.pointer (some ⟨gi, 0, none⟩)) ∧ W.heap.size ≤ gi ∧ KcAt w0 n vi i ∧ KcAt w0 (n + 1) v' r ∧ Blk W' g 134 #[v'] ∧ Blk W' gi 134 #[vi])
theorem lstP_next {k : Nat} (ks : List (It (k + 1))) : lstP ks = (nextP 48 ks).map fun p => (It.kids p.1, p.2) := by
  unfold lstP
  cases nextP 48 ks with
  | none => rfl
  | some p => rfl
theorem Out.size {fp : List Nat} {a b : World} (h : Out fp a b) : a.heap.size ≤ b.heap.size := h.2.2.2.1
theorem Blk.on {w w' : World} {b : Nat} {t : TypeId} {vs : Array Value} (h : Blk w b t vs) (hb : Below w.heap.size w w') : Blk w' b t vs := h.below hb h.lt
theorem Blk.outX {w w' : World} {b : Nat} {t : TypeId} {vs : Array Value} {fp : List Nat} (h : Blk w b t vs) (ho : Out fp w w') (hn : b ∉ fp) : Blk w' b t vs := (ho.2.2.2.2 b h.lt hn).trans h
set_option maxHeartbeats 1600000 in
set_option maxRecDepth 100000 in
theorem list_any (w0 W : World) (g n : Nat) (v : Value) (ks : List (It (n + 1))) (hw : Below w0.heap.size w0 W) (hk : KcAt w0 (n + 1) v ks) (hr : Blk W g 134 #[v]) (hg : w0.heap.size ≤ g) (hl : ks.length ≤ 1000000) :
    Calls Try.prog 103 #[.pointer (some ⟨g, 0, none⟩)] W fun e W' => ListPost w0 W g n (lstP ks) e W' := by
  have E := next_any w0 W g n v ks 48 hw hk hr hg hl
  have HP : Hid (lstP ks = (nextP 48 ks).map fun p => (It.kids p.1, p.2)) := lstP_next ks
  generalize lstP ks = oL at HP ⊢
  clear hw hk hr hg hl
  go_enter Try.func103, Try.ntmps103
  go_wp2_with fail
  refine E.mono ?_
  rintro e w2 ⟨ho, ⟨hn, rfl⟩ | ⟨y, r, v', k, hn, rfl, hkk, hkr, hB⟩⟩
  · have HE : Hid (Out [g] W w2 ∧ oL = none) := ⟨ho, by rw [HP.out, hn]; rfl⟩
    clear ho hn E
    unfold misfit
    go_wp2_with fail
    exact ⟨rfl, HE.out.1, .inl ⟨HE.out.2, rfl⟩⟩
  · have HT : Hid (It.tag y = 48) := by
      cases ks with
      | nil => cases hn
      | cons a q => exact (next_some hn).2
    obtain ⟨ak, ck, hks⟩ := hkk.shape
    obtain ⟨lk, hlk⟩ : ∃ l, (It.kids y).length = l := ⟨_, rfl⟩
    rw [hlk] at hks
    subst hks
    have E2 := readerOf_any (It.tag y) ⟨(It.text y).toArray⟩ ak lk ck w2
    obtain ⟨t, ht⟩ : ∃ t, It.tag y = t := ⟨_, rfl⟩
    obtain ⟨s, hs⟩ : ∃ s : ByteArray, (⟨(It.text y).toArray⟩ : ByteArray) = s := ⟨_, rfl⟩
    rw [ht, hs] at E2 ⊢
    have HE : Hid (Out [g] W w2 ∧ oL = some (It.kids y, r) ∧ KcAt w0 n (.slice ak lk ck) (It.kids y) ∧ KcAt w0 (n + 1) v' r ∧ Blk w2 g 134 #[v'] ∧ t = 48) := ⟨ho, by rw [HP.out, hn]; rfl, hkk, hkr, hB, by rw [← ht]; exact HT.out⟩
    clear ho hn hkk hkr hB E HT ht hs hlk
    go_wp2_with fail
    refine E2.mono ?_
    rintro e w3 ⟨hb3, ⟨hn3, rfl⟩ | ⟨_, gi, hgi, rfl, hBi⟩⟩
    · exact absurd HE.out.2.2.2.2.2 hn3
    · have HF : Hid (ListPost w0 W g n oL (.returned (.pointer (some ⟨gi, 0, none⟩))) w3) := ⟨HE.out.1.trans (Out.of_below hb3), .inr ⟨_, _, _, _, gi, HE.out.2.1, rfl, Nat.le_trans HE.out.1.size hgi, HE.out.2.2.1, HE.out.2.2.2.1, HE.out.2.2.2.2.1.on hb3, hBi⟩⟩
      clear hb3 hgi hBi E2
      go_wp2_with fail
      go_ret
      exact HF.out
/-- What end leaves. -/
def EndPost {α : Type} (ks : List α) (W : World) (e : Ending) (W' : World) : Prop := Below W.heap.size W W' ∧ ((endP ks = none ∧ e = misfit) ∨ (ks = [] ∧ endP ks = some () ∧ e = .returned (.tuple #[])))
set_option maxRecDepth 100000 in
theorem end_any {α : Type} (W : World) (g l c : Nat) (a : Option Addr) (ks : List α) (hl : ks.length = l) (hr : Blk W g 134 #[.slice a l c]) :
    Calls Try.prog 97 #[.pointer (some ⟨g, 0, none⟩)] W fun e W' => EndPost ks W e W' := by
  have cr : W.cell? ⟨g, 0, none⟩ = some (.slice a l c) := hr.cell 0
  clear hr
  cases ks with
  | nil =>
    subst hl
    go_enter Try.func97, Try.ntmps97
    go_wp2_with fail
    refine (mustFit_yes W).mono ?_
    rintro e w2 ⟨rfl, rfl⟩
    go_wp2_with fail
    first | go_end0 | skip
    exact ⟨Below.refl _ _, .inr ⟨rfl, rfl, rfl⟩⟩
  | cons x q =>
    subst hl
    rw [List.length_cons] at cr
    obtain ⟨m, hm⟩ : ∃ m, q.length = m := ⟨_, rfl⟩
    rw [hm] at cr
    clear hm
    have hm0 : ((m : Int) + 1 == 0) = false := beq_eq_false_iff_ne.2 (by omega)
    go_enter Try.func97, Try.ntmps97
    go_wp2_with fail
    refine (mustFit_no W).mono ?_
    rintro e w2 ⟨rfl, rfl⟩
    unfold misfit
    go_wp2_with fail
    exact ⟨rfl, Below.refl _ _, .inl ⟨rfl, rfl⟩⟩
/-- What a call leaves that reads one thing. -/
def OnePost {α : Type} (V : α → Value) (w0 W : World) (g n : Nat) (o : Option (α × List (It (n + 1)))) (e : Ending) (W' : World) : Prop := Out [g] W W' ∧
  ((o = none ∧ e = misfit) ∨ ∃ (x : α) (r : List (It (n + 1))) (v' : Value), o = some (x, r) ∧ e = .returned (V x) ∧ KcAt w0 (n + 1) v' r ∧ Blk W' g 134 #[v'])
set_option maxHeartbeats 1600000 in
set_option maxRecDepth 100000 in
theorem number_any (w0 W : World) (g n : Nat) (v : Value) (ks : List (It (n + 1))) (hw : Below w0.heap.size w0 W) (hk : KcAt w0 (n + 1) v ks) (hr : Blk W g 134 #[v]) (hg : w0.heap.size ≤ g) (hl : ks.length ≤ 1000000) (hz : ∀ y ∈ ks, szI (n + 1) y ≤ 20000000) :
    Calls Try.prog 95 #[.pointer (some ⟨g, 0, none⟩)] W fun e W' => OnePost (fun x : Int => .int .i64 x) w0 W g n (numP ks) e W' := by
  have E := next_any w0 W g n v ks 2 hw hk hr hg hl
  have HP : Hid (numP ks = match nextP 2 ks with
    | none => none
    | some (y, r) => match inI (n + 1) y with
      | none => none
      | some v => some ((v : Int), r)) := rfl
  generalize numP ks = oL at HP ⊢
  have HW : Hid (Below w0.heap.size w0 W ∧ w0.heap.size ≤ g ∧ ∀ y ∈ ks, szI (n + 1) y ≤ 20000000) := ⟨hw, hg, hz⟩
  clear hw hk hr hg hl hz
  go_enter Try.func95, Try.ntmps95
  go_wp2_with fail
  refine E.mono ?_
  rintro e w2 ⟨ho, ⟨hn, rfl⟩ | ⟨y, r, v', k, hn, rfl, hkk, hkr, hB⟩⟩
  · have HE : Hid (Out [g] W w2 ∧ oL = none) := ⟨ho, by rw [HP.out, hn]⟩
    clear ho hn E
    unfold misfit
    go_wp2_with fail
    exact ⟨rfl, HE.out.1, .inl ⟨HE.out.2, rfl⟩⟩
  · have hy : y ∈ ks := by
      have h := (next_some hn).1
      rw [h]; simp
    have hb2 : Below w0.heap.size w0 w2 := HW.out.1.trans (ho.below (fun x hx => by rw [List.mem_singleton.1 hx]; exact HW.out.2.1) HW.out.1.size)
    have E2 := implIntIn_any (n + 1) y (.agg #[.int .i64 (It.tag y), .string ⟨(It.text y).toArray⟩, k]) w2 (ItAt.below hb2 ⟨k, rfl, hkk.at⟩) (HW.out.2.2 y hy)
    have HE : Hid (Out [g] W w2 ∧ KcAt w0 (n + 1) v' r ∧ Blk w2 g 134 #[v'] ∧ (oL = match inI (n + 1) y with
      | none => none
      | some v => some ((v : Int), r))) := ⟨ho, hkr, hB, by rw [HP.out, hn]⟩
    clear ho hn hkk hkr hB E hy hb2
    cases hin : inI (n + 1) y with
    | none =>
      rw [hin] at E2 HE
      go_wp2_with fail
      refine E2.mono ?_
      rintro e w3 ⟨rfl, hb3⟩
      have HF : Hid (Out [g] W w3 ∧ oL = none) := ⟨HE.out.1.trans (Out.of_below hb3), HE.out.2.2.2⟩
      clear hb3 E2 HE
      go_wp2_with fail
      refine (mustFit_no w3).mono ?_
      rintro e w4 ⟨rfl, rfl⟩
      unfold misfit
      go_wp2_with fail
      exact ⟨rfl, HF.out.1, .inl ⟨HF.out.2, rfl⟩⟩
    | some x =>
      rw [hin] at E2 HE
      change Calls _ _ _ _ (fun e w' => e = .returned (.tuple #[.int .i64 (x : Int), .bool true]) ∧ Below w2.heap.size w2 w') at E2
      go_wp2_with fail
      refine E2.mono ?_
      rintro e w3 ⟨rfl, hb3⟩
      have HF : Hid (OnePost (fun x : Int => .int .i64 x) w0 W g n oL (.returned (.int .i64 (x : Int))) w3) := ⟨HE.out.1.trans (Out.of_below hb3), .inr ⟨(x : Int), r, v', HE.out.2.2.2, rfl, HE.out.2.1, HE.out.2.2.1.on hb3⟩⟩
      clear hb3 E2 HE
      go_wp2_with fail
      refine (mustFit_yes w3).mono ?_
      rintro e w4 ⟨rfl, rfl⟩
      go_wp2_with fail
      go_ret
      exact HF.out
set_option maxHeartbeats 1600000 in
set_option maxRecDepth 100000 in
theorem rbytes_any (w0 W : World) (g n : Nat) (v : Value) (ks : List (It (n + 1))) (hw : Below w0.heap.size w0 W) (hk : KcAt w0 (n + 1) v ks) (hr : Blk W g 134 #[v]) (hg : w0.heap.size ≤ g) (hl : ks.length ≤ 1000000) :
    Calls Try.prog 94 #[.pointer (some ⟨g, 0, none⟩)] W fun e W' => OnePost (fun x : ByteArray => .string x) w0 W g n (txtP 4 ks) e W' := by
  have E := next_any w0 W g n v ks 4 hw hk hr hg hl
  have HP : Hid (txtP 4 ks = match nextP 4 ks with
    | none => none
    | some (y, r) => some (baL (It.text y), r)) := rfl
  generalize txtP 4 ks = oL at HP ⊢
  clear hw hk hr hg hl
  go_enter Try.func94, Try.ntmps94
  go_wp2_with fail
  refine E.mono ?_
  rintro e w2 ⟨ho, ⟨hn, rfl⟩ | ⟨y, r, v', k, hn, rfl, hkk, hkr, hB⟩⟩
  · have HE : Hid (Out [g] W w2 ∧ oL = none) := ⟨ho, by rw [HP.out, hn]⟩
    clear ho hn E
    unfold misfit
    go_wp2_with fail
    exact ⟨rfl, HE.out.1, .inl ⟨HE.out.2, rfl⟩⟩
  · obtain ⟨ak, ck, hks⟩ := hkk.shape
    subst hks
    have HE : Hid (OnePost (fun x : ByteArray => .string x) w0 W g n oL (.returned (.string (baL (It.text y)))) w2) := ⟨ho, .inr ⟨_, r, v', by rw [HP.out, hn], rfl, hkr, hB⟩⟩
    clear ho hn hkk hkr hB E
    change Hid (OnePost (fun x : ByteArray => .string x) w0 W g n oL (.returned (.string (baL (It.text y)))) w2) at HE
    have RF := run_field_item (It.tag y) ⟨(It.text y).toArray⟩ ak (It.kids y).length ck
    go_wp2_with fail
    go_ret
    exact HE.out
set_option maxHeartbeats 1600000 in
set_option maxRecDepth 100000 in
theorem rflag_any (w0 W : World) (g n : Nat) (v : Value) (ks : List (It (n + 1))) (hw : Below w0.heap.size w0 W) (hk : KcAt w0 (n + 1) v ks) (hr : Blk W g 134 #[v]) (hg : w0.heap.size ≤ g) (hl : ks.length ≤ 1000000) :
    Calls Try.prog 96 #[.pointer (some ⟨g, 0, none⟩)] W fun e W' => OnePost (fun x : Bool => .bool x) w0 W g n (flgP ks) e W' := by
  have E := next_any w0 W g n v ks 1 hw hk hr hg hl
  have HP : Hid (flgP ks = match nextP 1 ks with
    | none => none
    | some (y, r) => some (decide (It.text y = [255]), r)) := rfl
  generalize flgP ks = oL at HP ⊢
  clear hw hk hr hg hl
  go_enter Try.func96, Try.ntmps96
  go_wp2_with fail
  refine E.mono ?_
  rintro e w2 ⟨ho, ⟨hn, rfl⟩ | ⟨y, r, v', k, hn, rfl, hkk, hkr, hB⟩⟩
  · have HE : Hid (Out [g] W w2 ∧ oL = none) := ⟨ho, by rw [HP.out, hn]⟩
    clear ho hn E
    unfold misfit
    go_wp2_with fail
    exact ⟨rfl, HE.out.1, .inl ⟨HE.out.2, rfl⟩⟩
  · obtain ⟨ak, ck, hks⟩ := hkk.shape
    subst hks
    have HE : Hid (OnePost (fun x : Bool => .bool x) w0 W g n oL (.returned (.bool (decide (It.text y = [255])))) w2) := ⟨ho, .inr ⟨_, r, v', by rw [HP.out, hn], rfl, hkr, hB⟩⟩
    clear ho hn hkk hkr hB E
    change Hid (OnePost (fun x : Bool => .bool x) w0 W g n oL (.returned (.bool (decide (It.text y = [255])))) w2) at HE
    have RF := run_field_item (It.tag y) ⟨(It.text y).toArray⟩ ak (It.kids y).length ck
    obtain ⟨B, hB⟩ : ∃ B, decide (It.text y = [255]) = B := ⟨_, rfl⟩
    have hq : (ByteArray.toList ⟨(It.text y).toArray⟩ == [255]) = B := by
      rw [← hB]
      have e : ∀ l : List UInt8, ByteArray.toList ⟨l.toArray⟩ = l := fun l => by simp
      rw [e]
      rw [Bool.eq_iff_iff]
      simp
    rw [hB] at HE
    clear hB
    generalize (⟨(It.text y).toArray⟩ : ByteArray) = S at *
    go_wp2_with fail
    go_ret
    exact HE.out
end Go.Proofs.Ytbiiihjohbnodaa
