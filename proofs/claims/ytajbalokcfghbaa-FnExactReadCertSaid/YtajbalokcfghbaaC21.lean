/-
  Texts of the proof, one behind the other: CrX, CrY.
-/
import Derived.Test.YtajbalokcfghbaaC20

/-
  The program's reader: readerOf, list, end, number, text, bytes, flag, numbers, texts.
-/
namespace Go.Proofs.Ytajbalokcfghbaa
open Go.RowKit Der
set_option linter.unusedVariables false

theorem run_field_item (t : Int) (s : ByteArray) (a : Option Addr) (l c : Nat) (w : World) : Sem.run Try.prog (Instr.field 60 (.agg #[.int .i64 t, .string s, .slice a l c]) 1) w = .ok (.string s) w := by
  first | kernel_rfl | rfl | simp [Instr.field, go_sem]
/-- What readerOf leaves. -/
def RdOf (t : Int) (a : Option Addr) (l c : Nat) (W : World) (e : Ending) (W' : World) : Prop := Below W.heap.size W W' ∧ ((¬ t = 48 ∧ e = misfit) ∨ (t = 48 ∧ ∃ g, W.heap.size ≤ g ∧ e = .returned (.pointer (some ⟨g, 0, none⟩)) ∧ Blk W' g 139 #[.slice a l c]))
set_option maxHeartbeats 1600000 in
set_option maxRecDepth 100000 in
theorem readerOf_any (t : Int) (s : ByteArray) (a : Option Addr) (l c : Nat) (W : World) : Calls Try.prog 98 #[.agg #[.int .i64 t, .string s, .slice a l c]] W fun e W' => RdOf t a l c W e W' := by
  obtain ⟨W1, hW1⟩ : ∃ V, V = W.alloc (Obj.cells #[.int .i64 t, .string s, .slice a l c] 60) := ⟨_, rfl⟩
  have hB : Blk W1 W.heap.size 60 #[.int .i64 t, .string s, .slice a l c] := by rw [hW1]; exact Blk.new _ _ _
  have hb1 : Below W.heap.size W W1 := by rw [hW1]; exact (Below.refl _ _).alloc (Nat.le_refl _) _
  have H1 : Hid (Blk W1 W.heap.size 60 #[.int .i64 t, .string s, .slice a l c] ∧ Below W.heap.size W W1) := ⟨hB, hb1⟩
  clear hB hb1
  by_cases ht : t = 48
  · subst ht
    go_enter Try.func98, Try.ntmps98
    go_wp2_with fail
    rw [← hW1]
    clear hW1
    refine (mustFit_yes W1).mono ?_
    rintro e w2 ⟨rfl, rfl⟩
    have c2 : W1.cell? ⟨W.heap.size, 2, none⟩ = some (.slice a l c) := H1.out.1.cell 2
    go_wp2_with fail
    go_ret
    exact ⟨H1.out.2.alloc H1.out.2.size _, .inr ⟨rfl, W1.heap.size, H1.out.2.size, rfl, Blk.new _ _ _⟩⟩
  · have hbq : (t == 48) = false := beq_eq_false_iff_ne.2 ht
    have HT : Hid (¬ t = 48) := ht
    clear ht
    go_enter Try.func98, Try.ntmps98
    go_wp2_with fail
    rw [← hW1]
    clear hW1
    refine (mustFit_no W1).mono ?_
    rintro e w2 ⟨rfl, rfl⟩
    unfold misfit
    go_wp2_with fail
    exact ⟨rfl, H1.out.2, .inl ⟨HT.out, rfl⟩⟩
/-- What list leaves. -/
def ListPost (w0 W : World) (g n : Nat) (o : Option (List (It n) × List (It (n + 1)))) (e : Ending) (W' : World) : Prop := Out [g] W W' ∧
  ((o = none ∧ e = misfit) ∨ ∃ (i : List (It n)) (r : List (It (n + 1))) (v' vi : Value) (gi : Nat), o = some (i, r) ∧ e = .returned (.pointer (some ⟨gi, 0, none⟩)) ∧ W.heap.size ≤ gi ∧ KcAt w0 n vi i ∧ KcAt w0 (n + 1) v' r ∧ Blk W' g 139 #[v'] ∧ Blk W' gi 139 #[vi])
theorem lstP_next {k : Nat} (ks : List (It (k + 1))) : lstP ks = (nextP 48 ks).map fun p => (It.kids p.1, p.2) := by
  unfold lstP
  cases nextP 48 ks with
  | none => rfl
  | some p => rfl
theorem Out.size {fp : List Nat} {a b : World} (h : Out fp a b) : a.heap.size ≤ b.heap.size := h.2.2.2.1
theorem Blk.on {w w' : World} {b : Nat} {t : TypeId} {vs : Array Value} (h : Blk w b t vs) (hb : Below w.heap.size w w') : Blk w' b t vs := h.below hb h.lt
theorem Blk.outX {w w' : World} {b : Nat} {t : TypeId} {vs : Array Value} {fp : List Nat} (h : Blk w b t vs) (ho : Out fp w w') (hn : b ∉ fp) : Blk w' b t vs := (ho.2.2.2.2 b h.lt hn).trans h
set_option maxHeartbeats 1600000 in
set_option maxRecDepth 100000 in
theorem list_any (w0 W : World) (g n : Nat) (v : Value) (ks : List (It (n + 1))) (hw : Below w0.heap.size w0 W) (hk : KcAt w0 (n + 1) v ks) (hr : Blk W g 139 #[v]) (hg : w0.heap.size ≤ g) (hl : ks.length ≤ 1000000) :
    Calls Try.prog 99 #[.pointer (some ⟨g, 0, none⟩)] W fun e W' => ListPost w0 W g n (lstP ks) e W' := by
  have E := next_any w0 W g n v ks 48 hw hk hr hg hl
  have HP : Hid (lstP ks = (nextP 48 ks).map fun p => (It.kids p.1, p.2)) := lstP_next ks
  generalize lstP ks = oL at HP ⊢
  clear hw hk hr hg hl
  go_enter Try.func99, Try.ntmps99
  go_wp2_with fail
  refine E.mono ?_
  rintro e w2 ⟨ho, ⟨hn, rfl⟩ | ⟨y, r, v', k, hn, rfl, hkk, hkr, hB⟩⟩
  · have HE : Hid (Out [g] W w2 ∧ oL = none) := ⟨ho, by rw [HP.out, hn]; rfl⟩
    clear ho hn E
    unfold misfit
    go_wp2_with fail
    exact ⟨rfl, HE.out.1, .inl ⟨HE.out.2, rfl⟩⟩
  · have HT : Hid (It.tag y = 48) := by
      cases ks with
      | nil => cases hn
      | cons a q => exact (next_some hn).2
    obtain ⟨ak, ck, hks⟩ := hkk.shape
    obtain ⟨lk, hlk⟩ : ∃ l, (It.kids y).length = l := ⟨_, rfl⟩
    rw [hlk] at hks
    subst hks
    have E2 := readerOf_any (It.tag y) ⟨(It.text y).toArray⟩ ak lk ck w2
    obtain ⟨t, ht⟩ : ∃ t, It.tag y = t := ⟨_, rfl⟩
    obtain ⟨s, hs⟩ : ∃ s : ByteArray, (⟨(It.text y).toArray⟩ : ByteArray) = s := ⟨_, rfl⟩
    rw [ht, hs] at E2 ⊢
    have HE : Hid (Out [g] W w2 ∧ oL = some (It.kids y, r) ∧ KcAt w0 n (.slice ak lk ck) (It.kids y) ∧ KcAt w0 (n + 1) v' r ∧ Blk w2 g 139 #[v'] ∧ t = 48) := ⟨ho, by rw [HP.out, hn]; rfl, hkk, hkr, hB, by rw [← ht]; exact HT.out⟩
    clear ho hn hkk hkr hB E HT ht hs hlk
    go_wp2_with fail
    refine E2.mono ?_
    rintro e w3 ⟨hb3, ⟨hn3, rfl⟩ | ⟨_, gi, hgi, rfl, hBi⟩⟩
    · exact absurd HE.out.2.2.2.2.2 hn3
    · have HF : Hid (ListPost w0 W g n oL (.returned (.pointer (some ⟨gi, 0, none⟩))) w3) := ⟨HE.out.1.trans (Out.of_below hb3), .inr ⟨_, _, _, _, gi, HE.out.2.1, rfl, Nat.le_trans HE.out.1.size hgi, HE.out.2.2.1, HE.out.2.2.2.1, HE.out.2.2.2.2.1.on hb3, hBi⟩⟩
      clear hb3 hgi hBi E2
      go_wp2_with fail
      go_ret
      exact HF.out
/-- What end leaves. -/
def EndPost {α : Type} (ks : List α) (W : World) (e : Ending) (W' : World) : Prop := Below W.heap.size W W' ∧ ((endP ks = none ∧ e = misfit) ∨ (ks = [] ∧ endP ks = some () ∧ e = .returned (.tuple #[])))
set_option maxRecDepth 100000 in
theorem end_any {α : Type} (W : World) (g l c : Nat) (a : Option Addr) (ks : List α) (hl : ks.length = l) (hr : Blk W g 139 #[.slice a l c]) :
    Calls Try.prog 102 #[.pointer (some ⟨g, 0, none⟩)] W fun e W' => EndPost ks W e W' := by
  have cr : W.cell? ⟨g, 0, none⟩ = some (.slice a l c) := hr.cell 0
  clear hr
  cases ks with
  | nil =>
    subst hl
    go_enter Try.func102, Try.ntmps102
    go_wp2_with fail
    refine (mustFit_yes W).mono ?_
    rintro e w2 ⟨rfl, rfl⟩
    go_wp2_with fail
    first | go_end0 | skip
    exact ⟨Below.refl _ _, .inr ⟨rfl, rfl, rfl⟩⟩
  | cons x q =>
    subst hl
    rw [List.length_cons] at cr
    obtain ⟨m, hm⟩ : ∃ m, q.length = m := ⟨_, rfl⟩
    rw [hm] at cr
    clear hm
    have hm0 : ((m : Int) + 1 == 0) = false := beq_eq_false_iff_ne.2 (by omega)
    go_enter Try.func102, Try.ntmps102
    go_wp2_with fail
    refine (mustFit_no W).mono ?_
    rintro e w2 ⟨rfl, rfl⟩
    unfold misfit
    go_wp2_with fail
    exact ⟨rfl, Below.refl _ _, .inl ⟨rfl, rfl⟩⟩
/-- What a call leaves that reads one thing. -/
def OnePost {α : Type} (V : α → Value) (w0 W : World) (g n : Nat) (o : Option (α × List (It (n + 1)))) (e : Ending) (W' : World) : Prop := Out [g] W W' ∧
  ((o = none ∧ e = misfit) ∨ ∃ (x : α) (r : List (It (n + 1))) (v' : Value), o = some (x, r) ∧ e = .returned (V x) ∧ KcAt w0 (n + 1) v' r ∧ Blk W' g 139 #[v'])
set_option maxHeartbeats 1600000 in
set_option maxRecDepth 100000 in
theorem number_any (w0 W : World) (g n : Nat) (v : Value) (ks : List (It (n + 1))) (hw : Below w0.heap.size w0 W) (hk : KcAt w0 (n + 1) v ks) (hr : Blk W g 139 #[v]) (hg : w0.heap.size ≤ g) (hl : ks.length ≤ 1000000) (hz : ∀ y ∈ ks, szI (n + 1) y ≤ 20000000) :
    Calls Try.prog 126 #[.pointer (some ⟨g, 0, none⟩)] W fun e W' => OnePost (fun x : Int => .int .i64 x) w0 W g n (numP ks) e W' := by
  have E := next_any w0 W g n v ks 2 hw hk hr hg hl
  have HP : Hid (numP ks = match nextP 2 ks with
    | none => none
    | some (y, r) => match inI (n + 1) y with
      | none => none
      | some v => some ((v : Int), r)) := rfl
  generalize numP ks = oL at HP ⊢
  have HW : Hid (Below w0.heap.size w0 W ∧ w0.heap.size ≤ g ∧ ∀ y ∈ ks, szI (n + 1) y ≤ 20000000) := ⟨hw, hg, hz⟩
  clear hw hk hr hg hl hz
  go_enter Try.func126, Try.ntmps126
  go_wp2_with fail
  refine E.mono ?_
  rintro e w2 ⟨ho, ⟨hn, rfl⟩ | ⟨y, r, v', k, hn, rfl, hkk, hkr, hB⟩⟩
  · have HE : Hid (Out [g] W w2 ∧ oL = none) := ⟨ho, by rw [HP.out, hn]⟩
    clear ho hn E
    unfold misfit
    go_wp2_with fail
    exact ⟨rfl, HE.out.1, .inl ⟨HE.out.2, rfl⟩⟩
  · have hy : y ∈ ks := by
      have h := (next_some hn).1
      rw [h]; simp
    have hb2 : Below w0.heap.size w0 w2 := HW.out.1.trans (ho.below (fun x hx => by rw [List.mem_singleton.1 hx]; exact HW.out.2.1) HW.out.1.size)
    have E2 := implIntIn_any (n + 1) y (.agg #[.int .i64 (It.tag y), .string ⟨(It.text y).toArray⟩, k]) w2 (ItAt.below hb2 ⟨k, rfl, hkk.at⟩) (HW.out.2.2 y hy)
    have HE : Hid (Out [g] W w2 ∧ KcAt w0 (n + 1) v' r ∧ Blk w2 g 139 #[v'] ∧ (oL = match inI (n + 1) y with
      | none => none
      | some v => some ((v : Int), r))) := ⟨ho, hkr, hB, by rw [HP.out, hn]⟩
    clear ho hn hkk hkr hB E hy hb2
    cases hin : inI (n + 1) y with
    | none =>
      rw [hin] at E2 HE
      go_wp2_with fail
      refine E2.mono ?_
      rintro e w3 ⟨rfl, hb3⟩
      have HF : Hid (Out [g] W w3 ∧ oL = none) := ⟨HE.out.1.trans (Out.of_below hb3), HE.out.2.2.2⟩
      clear hb3 E2 HE
      go_wp2_with fail
      refine (mustFit_no w3).mono ?_
      rintro e w4 ⟨rfl, rfl⟩
      unfold misfit
      go_wp2_with fail
      exact ⟨rfl, HF.out.1, .inl ⟨HF.out.2, rfl⟩⟩
    | some x =>
      rw [hin] at E2 HE
      change Calls _ _ _ _ (fun e w' => e = .returned (.tuple #[.int .i64 (x : Int), .bool true]) ∧ Below w2.heap.size w2 w') at E2
      go_wp2_with fail
      refine E2.mono ?_
      rintro e w3 ⟨rfl, hb3⟩
      have HF : Hid (OnePost (fun x : Int => .int .i64 x) w0 W g n oL (.returned (.int .i64 (x : Int))) w3) := ⟨HE.out.1.trans (Out.of_below hb3), .inr ⟨(x : Int), r, v', HE.out.2.2.2, rfl, HE.out.2.1, HE.out.2.2.1.on hb3⟩⟩
      clear hb3 E2 HE
      go_wp2_with fail
      refine (mustFit_yes w3).mono ?_
      rintro e w4 ⟨rfl, rfl⟩
      go_wp2_with fail
      go_ret
      exact HF.out
set_option maxHeartbeats 1600000 in
set_option maxRecDepth 100000 in
theorem rtext_any (w0 W : World) (g n : Nat) (v : Value) (ks : List (It (n + 1))) (hw : Below w0.heap.size w0 W) (hk : KcAt w0 (n + 1) v ks) (hr : Blk W g 139 #[v]) (hg : w0.heap.size ≤ g) (hl : ks.length ≤ 1000000) :
    Calls Try.prog 127 #[.pointer (some ⟨g, 0, none⟩)] W fun e W' => OnePost (fun x : ByteArray => .string x) w0 W g n (txtP 12 ks) e W' := by
  have E := next_any w0 W g n v ks 12 hw hk hr hg hl
  have HP : Hid (txtP 12 ks = match nextP 12 ks with
    | none => none
    | some (y, r) => some (baL (It.text y), r)) := rfl
  generalize txtP 12 ks = oL at HP ⊢
  clear hw hk hr hg hl
  go_enter Try.func127, Try.ntmps127
  go_wp2_with fail
  refine E.mono ?_
  rintro e w2 ⟨ho, ⟨hn, rfl⟩ | ⟨y, r, v', k, hn, rfl, hkk, hkr, hB⟩⟩
  · have HE : Hid (Out [g] W w2 ∧ oL = none) := ⟨ho, by rw [HP.out, hn]⟩
    clear ho hn E
    unfold misfit
    go_wp2_with fail
    exact ⟨rfl, HE.out.1, .inl ⟨HE.out.2, rfl⟩⟩
  · obtain ⟨ak, ck, hks⟩ := hkk.shape
    subst hks
    have HE : Hid (OnePost (fun x : ByteArray => .string x) w0 W g n oL (.returned (.string (baL (It.text y)))) w2) := ⟨ho, .inr ⟨_, r, v', by rw [HP.out, hn], rfl, hkr, hB⟩⟩
    clear ho hn hkk hkr hB E
    change Hid (OnePost (fun x : ByteArray => .string x) w0 W g n oL (.returned (.string (baL (It.text y)))) w2) at HE
    have RF := run_field_item (It.tag y) ⟨(It.text y).toArray⟩ ak (It.kids y).length ck
    go_wp2_with fail
    go_ret
    exact HE.out
set_option maxHeartbeats 1600000 in
set_option maxRecDepth 100000 in
theorem rbytes_any (w0 W : World) (g n : Nat) (v : Value) (ks : List (It (n + 1))) (hw : Below w0.heap.size w0 W) (hk : KcAt w0 (n + 1) v ks) (hr : Blk W g 139 #[v]) (hg : w0.heap.size ≤ g) (hl : ks.length ≤ 1000000) :
    Calls Try.prog 101 #[.pointer (some ⟨g, 0, none⟩)] W fun e W' => OnePost (fun x : ByteArray => .string x) w0 W g n (txtP 4 ks) e W' := by
  have E := next_any w0 W g n v ks 4 hw hk hr hg hl
  have HP : Hid (txtP 4 ks = match nextP 4 ks with
    | none => none
    | some (y, r) => some (baL (It.text y), r)) := rfl
  generalize txtP 4 ks = oL at HP ⊢
  clear hw hk hr hg hl
  go_enter Try.func101, Try.ntmps101
  go_wp2_with fail
  refine E.mono ?_
  rintro e w2 ⟨ho, ⟨hn, rfl⟩ | ⟨y, r, v', k, hn, rfl, hkk, hkr, hB⟩⟩
  · have HE : Hid (Out [g] W w2 ∧ oL = none) := ⟨ho, by rw [HP.out, hn]⟩
    clear ho hn E
    unfold misfit
    go_wp2_with fail
    exact ⟨rfl, HE.out.1, .inl ⟨HE.out.2, rfl⟩⟩
  · obtain ⟨ak, ck, hks⟩ := hkk.shape
    subst hks
    have HE : Hid (OnePost (fun x : ByteArray => .string x) w0 W g n oL (.returned (.string (baL (It.text y)))) w2) := ⟨ho, .inr ⟨_, r, v', by rw [HP.out, hn], rfl, hkr, hB⟩⟩
    clear ho hn hkk hkr hB E
    change Hid (OnePost (fun x : ByteArray => .string x) w0 W g n oL (.returned (.string (baL (It.text y)))) w2) at HE
    have RF := run_field_item (It.tag y) ⟨(It.text y).toArray⟩ ak (It.kids y).length ck
    go_wp2_with fail
    go_ret
    exact HE.out
set_option maxHeartbeats 1600000 in
set_option maxRecDepth 100000 in
theorem rflag_any (w0 W : World) (g n : Nat) (v : Value) (ks : List (It (n + 1))) (hw : Below w0.heap.size w0 W) (hk : KcAt w0 (n + 1) v ks) (hr : Blk W g 139 #[v]) (hg : w0.heap.size ≤ g) (hl : ks.length ≤ 1000000) :
    Calls Try.prog 128 #[.pointer (some ⟨g, 0, none⟩)] W fun e W' => OnePost (fun x : Bool => .bool x) w0 W g n (flgP ks) e W' := by
  have E := next_any w0 W g n v ks 1 hw hk hr hg hl
  have HP : Hid (flgP ks = match nextP 1 ks with
    | none => none
    | some (y, r) => some (decide (It.text y = [255]), r)) := rfl
  generalize flgP ks = oL at HP ⊢
  clear hw hk hr hg hl
  go_enter Try.func128, Try.ntmps128
  go_wp2_with fail
  refine E.mono ?_
  rintro e w2 ⟨ho, ⟨hn, rfl⟩ | ⟨y, r, v', k, hn, rfl, hkk, hkr, hB⟩⟩
  · have HE : Hid (Out [g] W w2 ∧ oL = none) := ⟨ho, by rw [HP.out, hn]⟩
    clear ho hn E
    unfold misfit
    go_wp2_with fail
    exact ⟨rfl, HE.out.1, .inl ⟨HE.out.2, rfl⟩⟩
  · obtain ⟨ak, ck, hks⟩ := hkk.shape
    subst hks
    have HE : Hid (OnePost (fun x : Bool => .bool x) w0 W g n oL (.returned (.bool (decide (It.text y = [255])))) w2) := ⟨ho, .inr ⟨_, r, v', by rw [HP.out, hn], rfl, hkr, hB⟩⟩
    clear ho hn hkk hkr hB E
    change Hid (OnePost (fun x : Bool => .bool x) w0 W g n oL (.returned (.bool (decide (It.text y = [255])))) w2) at HE
    have RF := run_field_item (It.tag y) ⟨(It.text y).toArray⟩ ak (It.kids y).length ck
    obtain ⟨B, hB⟩ : ∃ B, decide (It.text y = [255]) = B := ⟨_, rfl⟩
    have hq : (ByteArray.toList ⟨(It.text y).toArray⟩ == [255]) = B := by
      rw [← hB]
      have e : ∀ l : List UInt8, ByteArray.toList ⟨l.toArray⟩ = l := fun l => by simp
      rw [e]
      rw [Bool.eq_iff_iff]
      simp
    rw [hB] at HE
    clear hB
    generalize (⟨(It.text y).toArray⟩ : ByteArray) = S at *
    go_wp2_with fail
    go_ret
    exact HE.out
end Go.Proofs.Ytajbalokcfghbaa

/-
  The program's reader: numbers, texts.
-/
namespace Go.Proofs.Ytajbalokcfghbaa
open Go.RowKit Der
set_option linter.unusedVariables false

def lenV : Value → Nat
  | .slice _ n _ => n
  | _ => 0
theorem Out.aside {g gi : Nat} {a b c : World} (h : Out [g] a b) (h2 : Out [gi] b c) (hg : a.heap.size ≤ gi) : Out [g] a c :=
  ⟨h2.1.trans h.1, h2.2.1.trans h.2.1, h2.2.2.1.trans h.2.2.1, Nat.le_trans h.2.2.2.1 h2.2.2.2.1, fun b hb hn => (h2.2.2.2.2 b (Nat.lt_of_lt_of_le hb h.2.2.2.1) (by simp; omega)).trans (h.2.2.2.2 b hb hn)⟩
theorem Out.grow {g : Nat} {a b c : World} {row : Option Nat} (h : Out [g] a b) (hg : b.grownBy c row) (hr : ∀ q, row = some q → a.heap.size ≤ q) : Out [g] a c :=
  ⟨hg.os.trans h.1, hg.tape.trans h.2.1, hg.output.trans h.2.2.1, Nat.le_trans h.2.2.2.1 hg.size, fun b hb hn => (hg.block b (Nat.lt_of_lt_of_le hb h.2.2.2.1) (fun e => by have := hr b e.symm; omega)).trans (h.2.2.2.2 b hb hn)⟩
theorem Blk.grown {w w' : World} {b : Nat} {t : TypeId} {vs : Array Value} {row : Option Nat} (h : Blk w b t vs) (hg : w.grownBy w' row) (hn : some b ≠ row) : Blk w' b t vs := (hg.block b h.lt hn).trans h
theorem rone_int (w : World) (x : Int) : OwnI (w.alloc (Obj.cells #[.int .i64 x] 3)) w.heap.size (.slice (some ⟨w.heap.size, 0, none⟩) 1 1) [x] :=
  ⟨rfl, .inr ⟨w.heap.size, 1, #[.int .i64 x], rfl, Nat.le_refl _, heap_alloc_new w _, Nat.le_refl _, by decide, rfl, rfl⟩⟩
theorem rone_text (w : World) (x : ByteArray) : OwnT (w.alloc (Obj.cells #[.string x] 9)) w.heap.size (.slice (some ⟨w.heap.size, 0, none⟩) 1 1) [x] :=
  ⟨rfl, .inr ⟨w.heap.size, 1, #[.string x], rfl, Nat.le_refl _, heap_alloc_new w _, Nat.le_refl _, by decide, rfl, rfl⟩⟩
theorem below_out {w0 a b : World} {g : Nat} (h : Below w0.heap.size w0 a) (ho : Out [g] a b) (hg : w0.heap.size ≤ g) : Below w0.heap.size w0 b := h.trans (ho.below (fun x hx => by rw [List.mem_singleton.1 hx]; exact hg) h.size)
theorem belowGrown {w0 a b : World} {row : Option Nat} (h : Below w0.heap.size w0 a) (hg : a.grownBy b row) (hr : ∀ q, row = some q → w0.heap.size ≤ q) : Below w0.heap.size w0 b := h.grown hg h.size hr

theorem num_tail {k : Nat} {y : It (k + 1)} {q q' : List (It (k + 1))} {x : Int} (h : numP (y :: q) = some (x, q')) : ∃ y', y :: q = y' :: q' := by
  obtain ⟨y', _, h1, _⟩ := num_some h
  exact ⟨y', h1⟩
theorem txt_tail {k : Nat} {y : It (k + 1)} {q q' : List (It (k + 1))} {x : ByteArray} (h : txtP 12 (y :: q) = some (x, q')) : ∃ y', y :: q = y' :: q' := by
  obtain ⟨y', h1, _⟩ := txt_some h
  exact ⟨y', h1⟩

/-- What wIn[int] leaves. -/
def NumsPost (w0 W : World) (g n : Nat) (o : Option (List Int × List (It (n + 2)))) (e : Ending) (W' : World) : Prop := Out [g] W W' ∧
  ((o = none ∧ e = misfit) ∨ ∃ (l : List Int) (r : List (It (n + 2))) (v' u : Value), o = some (l, r) ∧ e = .returned u ∧ OwnI W' W.heap.size u l ∧ KcAt w0 (n + 2) v' r ∧ Blk W' g 139 #[v'])
theorem numsP_step {k : Nat} {y : It (k + 1)} {q : List (It (k + 1))} {x : Int} (h : numP (y :: q) = some (x, q)) : numsP (y :: q) = (numsP q).map (x :: ·) := by
  show (match numP (y :: q) with
    | none => none
    | some (v, _) => match numsP q with
      | none => none
      | some l => some (v :: l)) = _
  rw [h]
  cases numsP q <;> rfl
theorem numsP_none {k : Nat} {y : It (k + 1)} {q : List (It (k + 1))} (h : numP (y :: q) = none) : numsP (y :: q) = none := by
  show (match numP (y :: q) with
    | none => none
    | some (v, _) => match numsP q with
      | none => none
      | some l => some (v :: l)) = _
  rw [h]
set_option maxHeartbeats 6400000 in
set_option maxRecDepth 100000 in
theorem numbers_any (w0 W : World) (g n : Nat) (v : Value) (ks : List (It (n + 2))) (hw : Below w0.heap.size w0 W) (hk : KcAt w0 (n + 2) v ks) (hr : Blk W g 139 #[v]) (hg : w0.heap.size ≤ g) (hl : ks.length ≤ 1000000) (hz : ∀ y ∈ ks, szI (n + 2) y ≤ 1000000) :
    Calls Try.prog 129 #[.pointer (some ⟨g, 0, none⟩), .func (.func 126) #[] #[]] W fun e W' => NumsPost w0 W g n (numsL ks) e W' := by
  obtain ⟨i0, hi, hz0, hz1, hz2⟩ := info_parts info3
  have E := list_any w0 W g (n + 1) v ks hw hk hr hg hl
  have HP : Hid (numsL ks = match lstP ks with
    | none => none
    | some (i, r) => match numsP i with
      | none => none
      | some l => some (l, r)) := rfl
  generalize numsL ks = oL at HP ⊢
  have HW : Hid (Below w0.heap.size w0 W ∧ w0.heap.size ≤ g ∧ (∀ y ∈ ks, szI (n + 2) y ≤ 1000000) ∧ g < W.heap.size) := ⟨hw, hg, hz, hr.lt⟩
  clear hw hk hr hg hl hz
  go_enter Try.func129, Try.ntmps129
  go_wp2_with fail
  refine E.mono ?_
  rintro e w2 ⟨ho, ⟨hn, rfl⟩ | ⟨i, r, v', vi, gi, hn, rfl, hgi, hki, hkr, hB, hBi⟩⟩
  · have HE : Hid (Out [g] W w2 ∧ oL = none) := ⟨ho, by rw [HP.out, hn]⟩
    clear ho hn E
    unfold misfit
    go_wp2_with fail
    exact ⟨rfl, HE.out.1, .inl ⟨HE.out.2, rfl⟩⟩
  have hsz : i.length ≤ 1000000 ∧ ∀ y ∈ i, szI (n + 1) y ≤ 20000000 := by
    obtain ⟨y, h1, h2, h3⟩ := lst_some hn
    have h4 := HW.out.2.2.1 y (by rw [h1]; simp)
    have h5 := szI_kid (t := It.tag y) (s := It.text y) (ks := It.kids y) h4
    change i = It.kids y at h3
    rw [h3]
    exact ⟨h5.2.1, fun z hz => by have := h5.2.2 z hz; omega⟩
  have HE : Hid (oL = match numsP i with
      | none => none
      | some l => some (l, r)) := by show oL = _; rw [HP.out, hn]
  have HI : Hid (w2.heap.size ≤ w2.heap.size ∧ W.heap.size ≤ gi ∧ gi < w2.heap.size ∧ g < W.heap.size ∧ W.heap.size ≤ w2.heap.size ∧ w0.heap.size ≤ g ∧ w0.heap.size ≤ W.heap.size ∧ KcAt w0 (n + 2) v' r ∧ i.length ≤ 1000000) := ⟨Nat.le_refl _, hgi, hBi.lt, HW.out.2.2.2, ho.size, HW.out.2.1, HW.out.1.size, hkr, hsz.1⟩
  have HS : Hid (OwnI w2 w2.heap.size (.slice none 0 0) [] ∧ KcAt w0 (n + 1) vi i ∧ Blk w2 gi 139 #[vi] ∧ Blk w2 g 139 #[v'] ∧ numsP i = (numsP i).map (([] : List Int) ++ ·) ∧ Out [g] W w2 ∧ Below w0.heap.size w0 w2 ∧ w2.heap.size ≤ w2.heap.size ∧ ([] : List Int).length + i.length = i.length ∧ (∀ y ∈ i, szI (n + 1) y ≤ 20000000)) := ⟨World.ownsRow_nil _ _ _ _, hki, hBi, hB, by simp, ho, below_out HW.out.1 ho HW.out.2.1, Nat.le_refl _, by simp, hsz.2⟩
  clear ho hn hgi hki hkr hB hBi E hsz HP HW
  go_wp2_with fail
  go_loopw [5] (fun lv wr => Hid (∃ (ps : List Int) (q : List (It (n + 1))) (vr : Value), OwnI wr w2.heap.size lv ps ∧ KcAt w0 (n + 1) vr q ∧ Blk wr gi 139 #[vr] ∧ Blk wr g 139 #[v'] ∧ numsP i = (numsP q).map (ps ++ ·) ∧ Out [g] W wr ∧ Below w0.heap.size w0 wr ∧ w2.heap.size ≤ wr.heap.size ∧ ps.length + q.length = i.length ∧ (∀ y ∈ q, szI (n + 1) y ≤ 20000000))) (fun lv _ => i.length - lenV lv)
  case atStart => exact ⟨[], i, vi, HS.out⟩
  case round =>
    clear HS
    obtain ⟨ps, q, vr, h1, h2, h3, h4, h5, h6, h7, h8, h9, h10⟩ := hrel
    obtain ⟨la, lc, hlv⟩ : ∃ ao cap, u5 = .slice ao ps.length cap := by obtain ⟨ao, cap, h, _⟩ := h1.at; exact ⟨ao, cap, h⟩
    obtain ⟨qa, qc, hvr⟩ := h2.shape
    subst hvr
    cases q with
    | nil =>
      have HF : Hid (NumsPost w0 W g n oL (.returned u5) wr) := by
        have e : numsP i = some ps := by rw [h5]; show Option.map (ps ++ ·) (some []) = _; simp
        refine ⟨h6, .inr ⟨ps, r, v', u5, ?_, rfl, h1.base HI.out.2.2.2.2.1, HI.out.2.2.2.2.2.2.2.1, h4⟩⟩
        rw [HE.out, e]
      have c1 : wr.cell? ⟨gi, 0, none⟩ = some (.slice qa 0 qc) := h3.cell 0
      clear h1 h2 h3 h4 h5 h6 h7 h8 h9 h10 hlv
      go_wp2_with fail
      go_ret
      exact HF.out
    | cons y q =>
      rw [List.length_cons] at h3 h9
      have c1 : wr.cell? ⟨gi, 0, none⟩ = some (.slice qa (q.length + 1) qc) := h3.cell 0
      have hql : ps.length + (q.length + 1) ≤ 1000000 := by have := HI.out.2.2.2.2.2.2.2.2; omega
      have E3 := number_any w0 wr gi n (.slice qa (q.length + 1) qc) (y :: q) h7 h2 h3 (by have := HI.out; omega) (by rw [List.length_cons]; omega) h10
      have HK : Hid (OwnI wr w2.heap.size u5 ps ∧ Blk wr g 139 #[v'] ∧ numsP i = (numsP (y :: q)).map (ps ++ ·) ∧ Out [g] W wr ∧ Below w0.heap.size w0 wr ∧ w2.heap.size ≤ wr.heap.size ∧ ps.length + (q.length + 1) = i.length ∧ (∀ z ∈ (y :: q), szI (n + 1) z ≤ 20000000) ∧ (∀ b, u5.ownBlock = some b → w2.heap.size ≤ b)) := ⟨h1, h4, h5, h6, h7, h8, h9, h10, fun b hb => (World.ownsRow.lt h1 b hb).1⟩
      obtain ⟨m, hm⟩ : ∃ m, q.length = m := ⟨_, rfl⟩
      rw [hm] at c1
      have hm0 : (0 : Int) < (m : Int) + 1 := by omega
      have HM : Hid (q.length = m ∧ ps.length + (m + 1) ≤ 1000000) := ⟨hm, by rw [← hm]; exact hql⟩
      clear h1 h2 h3 h4 h5 h6 h7 h8 h9 h10 hql hm
      obtain ⟨pl, hpl⟩ : ∃ p, ps.length = p := ⟨_, rfl⟩
      rw [hpl] at hlv
      have HPL : Hid (ps.length = pl) := hpl
      clear hpl
      subst hlv
      go_wp2_with fail
      clear c1
      refine E3.mono ?_
      rintro e w3 ⟨ho3, ⟨hn3, rfl⟩ | ⟨x, q', vq, hn3, rfl, hkq, hBq⟩⟩
      · have HF : Hid (Out [g] W w3 ∧ oL = none) := by
          refine ⟨HK.out.2.2.2.1.aside ho3 HI.out.2.1, ?_⟩
          rw [HE.out, HK.out.2.2.1, numsP_none hn3]
          rfl
        clear ho3 hn3 E3
        unfold misfit
        go_wp2_with fail
        exact ⟨rfl, HF.out.1, .inl ⟨HF.out.2, rfl⟩⟩
      · have hq' : q' = q := by
          obtain ⟨y', hh⟩ := num_tail hn3
          exact (List.cons.inj hh).2.symm
        subst hq'
        have hx3 : numP (y :: q') = some (x, q') := hn3
        obtain ⟨W4, hW4⟩ : ∃ V, V = w3.alloc (Obj.cells #[.int .i64 x] 3) := ⟨_, rfl⟩
        have hb4 : Below w3.heap.size w3 W4 := by rw [hW4]; exact (Below.refl _ _).alloc (Nat.le_refl _) _
        have H4 : Hid (OwnI W4 w2.heap.size (.slice la pl lc) ps ∧ OwnI W4 w3.heap.size (.slice (some ⟨w3.heap.size, 0, none⟩) 1 1) [x] ∧ KcAt w0 (n + 1) vq q' ∧ Blk W4 gi 139 #[vq] ∧ Blk W4 g 139 #[v'] ∧ numsP i = (numsP q').map ((ps ++ [x]) ++ ·) ∧ Out [g] W W4 ∧ Below w0.heap.size w0 W4 ∧ w2.heap.size ≤ W4.heap.size ∧ (∀ z ∈ q', szI (n + 1) z ≤ 20000000)) := by
          have hrow := ho3.row (v := .slice la pl lc) (fun b hb => by have := HK.out.2.2.2.2.2.2.2.2 b hb; have := HI.out; simp; omega) HK.out.1
          refine ⟨OwnI.stays hrow hb4, by rw [hW4]; exact rone_int w3 x, hkq, hBq.on hb4, (HK.out.2.1.outX ho3 (by have := HI.out; simp; omega)).on hb4, ?_, (HK.out.2.2.2.1.aside ho3 HI.out.2.1).trans (Out.of_below hb4), ?_, Nat.le_trans HK.out.2.2.2.2.2.1 (Nat.le_trans ho3.size hb4.size), fun z hz => HK.out.2.2.2.2.2.2.2.1 z (by simp [hz])⟩
          · rw [HK.out.2.2.1, numsP_step hx3]
            cases numsP q' with
            | none => rfl
            | some l => simp
          · have := below_out HK.out.2.2.2.2.1 ho3 (by have := HI.out; omega)
            exact this.trans (hb4.mono this.size)
        have HLQ : Hid (ps.length + (q'.length + 1) = i.length ∧ q'.length = m ∧ ps.length + (m + 1) ≤ 1000000) := ⟨HK.out.2.2.2.2.2.2.1, HM.out.1, HM.out.2⟩
        clear ho3 hn3 hkq hBq hx3 hb4 E3 HK HM
        go_wp2_with (at_builtin; rw [← hW4]; refine wpList_append_ints2 rfl _ _ 22 rfl w2.heap.size i0 Try.underlying22 hi hz0 hz1 hz2 (.slice la pl lc) ps.length (cellsI ps) rfl H4.out.1 _ [x] w3.heap.size H4.out.2.1 rfl (by have := HLQ.out; simp only [List.length_singleton]; omega) H4.out.2.2.2.2.2.2.2.2.1 ?_)
        intro v9 w9 ho9 hg9
        rw [← hW4] at hg9
        have H9 : Hid (OwnI w9 w2.heap.size v9 (ps ++ [x]) ∧ KcAt w0 (n + 1) vq q' ∧ Blk w9 gi 139 #[vq] ∧ Blk w9 g 139 #[v'] ∧ numsP i = (numsP q').map ((ps ++ [x]) ++ ·) ∧ Out [g] W w9 ∧ Below w0.heap.size w0 w9 ∧ w2.heap.size ≤ w9.heap.size ∧ (ps ++ [x]).length + q'.length = i.length ∧ (∀ z ∈ q', szI (n + 1) z ≤ 20000000)) := by
          have hrl := fun b hb => (World.ownsRow.lt H4.out.1 b hb).1
          refine ⟨?_, H4.out.2.2.1, H4.out.2.2.2.1.grown hg9 (fun e => by have := hrl _ e.symm; have := HI.out; omega), H4.out.2.2.2.2.1.grown hg9 (fun e => by have := hrl _ e.symm; have := HI.out; omega), H4.out.2.2.2.2.2.1, H4.out.2.2.2.2.2.2.1.grow hg9 (fun b hb => by have := hrl b hb; have := HI.out; omega), belowGrown H4.out.2.2.2.2.2.2.2.1 hg9 (fun b hb => by have := hrl b hb; have := HI.out; omega), Nat.le_trans H4.out.2.2.2.2.2.2.2.2.1 hg9.size, by have := HLQ.out; simp only [List.length_append, List.length_singleton]; omega, H4.out.2.2.2.2.2.2.2.2.2⟩
          simpa [OwnI, cellsI_append] using ho9
        obtain ⟨a9, c9, hv9⟩ : ∃ ao cap, v9 = .slice ao (ps ++ [x]).length cap := by obtain ⟨ao, cap, h, _⟩ := H9.out.1.at; exact ⟨ao, cap, h⟩
        have HL9 : Hid (v9 = .slice a9 (pl + 1) c9) := by show v9 = _; rw [hv9, List.length_append, HPL.out]; rfl
        clear ho9 hg9 H4 hW4 hv9
        go_wp2_with fail
        exact ⟨⟨ps ++ [x], q', vq, H9.out⟩, by rw [HL9.out]; show i.length - (pl + 1) < i.length - pl; have := HLQ.out; have := HPL.out; omega⟩

/-- What [string] leaves. -/
def TxtsPost (w0 W : World) (g n : Nat) (o : Option (List ByteArray × List (It (n + 2)))) (e : Ending) (W' : World) : Prop := Out [g] W W' ∧
  ((o = none ∧ e = misfit) ∨ ∃ (l : List ByteArray) (r : List (It (n + 2))) (v' u : Value), o = some (l, r) ∧ e = .returned u ∧ OwnT W' W.heap.size u l ∧ KcAt w0 (n + 2) v' r ∧ Blk W' g 139 #[v'])
theorem txtsP_step {k : Nat} {y : It (k + 1)} {q : List (It (k + 1))} {x : ByteArray} (h : txtP 12 (y :: q) = some (x, q)) : txtsP (y :: q) = (txtsP q).map (x :: ·) := by
  show (match txtP 12 (y :: q) with
    | none => none
    | some (v, _) => match txtsP q with
      | none => none
      | some l => some (v :: l)) = _
  rw [h]
  cases txtsP q <;> rfl
theorem txtsP_none {k : Nat} {y : It (k + 1)} {q : List (It (k + 1))} (h : txtP 12 (y :: q) = none) : txtsP (y :: q) = none := by
  show (match txtP 12 (y :: q) with
    | none => none
    | some (v, _) => match txtsP q with
      | none => none
      | some l => some (v :: l)) = _
  rw [h]
set_option maxHeartbeats 6400000 in
set_option maxRecDepth 100000 in
theorem rtexts_any (w0 W : World) (g n : Nat) (v : Value) (ks : List (It (n + 2))) (hw : Below w0.heap.size w0 W) (hk : KcAt w0 (n + 2) v ks) (hr : Blk W g 139 #[v]) (hg : w0.heap.size ≤ g) (hl : ks.length ≤ 1000000) (hz : ∀ y ∈ ks, szI (n + 2) y ≤ 1000000) :
    Calls Try.prog 130 #[.pointer (some ⟨g, 0, none⟩), .func (.func 127) #[] #[]] W fun e W' => TxtsPost w0 W g n (txtsL ks) e W' := by
  obtain ⟨i0, hi, hz0, hz1, hz2⟩ := info_parts info9
  have E := list_any w0 W g (n + 1) v ks hw hk hr hg hl
  have HP : Hid (txtsL ks = match lstP ks with
    | none => none
    | some (i, r) => match txtsP i with
      | none => none
      | some l => some (l, r)) := rfl
  generalize txtsL ks = oL at HP ⊢
  have HW : Hid (Below w0.heap.size w0 W ∧ w0.heap.size ≤ g ∧ (∀ y ∈ ks, szI (n + 2) y ≤ 1000000) ∧ g < W.heap.size) := ⟨hw, hg, hz, hr.lt⟩
  clear hw hk hr hg hl hz
  go_enter Try.func130, Try.ntmps130
  go_wp2_with fail
  refine E.mono ?_
  rintro e w2 ⟨ho, ⟨hn, rfl⟩ | ⟨i, r, v', vi, gi, hn, rfl, hgi, hki, hkr, hB, hBi⟩⟩
  · have HE : Hid (Out [g] W w2 ∧ oL = none) := ⟨ho, by rw [HP.out, hn]⟩
    clear ho hn E
    unfold misfit
    go_wp2_with fail
    exact ⟨rfl, HE.out.1, .inl ⟨HE.out.2, rfl⟩⟩
  have hsz : i.length ≤ 1000000 ∧ ∀ y ∈ i, szI (n + 1) y ≤ 20000000 := by
    obtain ⟨y, h1, h2, h3⟩ := lst_some hn
    have h4 := HW.out.2.2.1 y (by rw [h1]; simp)
    have h5 := szI_kid (t := It.tag y) (s := It.text y) (ks := It.kids y) h4
    change i = It.kids y at h3
    rw [h3]
    exact ⟨h5.2.1, fun z hz => by have := h5.2.2 z hz; omega⟩
  have HE : Hid (oL = match txtsP i with
      | none => none
      | some l => some (l, r)) := by show oL = _; rw [HP.out, hn]
  have HI : Hid (w2.heap.size ≤ w2.heap.size ∧ W.heap.size ≤ gi ∧ gi < w2.heap.size ∧ g < W.heap.size ∧ W.heap.size ≤ w2.heap.size ∧ w0.heap.size ≤ g ∧ w0.heap.size ≤ W.heap.size ∧ KcAt w0 (n + 2) v' r ∧ i.length ≤ 1000000) := ⟨Nat.le_refl _, hgi, hBi.lt, HW.out.2.2.2, ho.size, HW.out.2.1, HW.out.1.size, hkr, hsz.1⟩
  have HS : Hid (OwnT w2 w2.heap.size (.slice none 0 0) [] ∧ KcAt w0 (n + 1) vi i ∧ Blk w2 gi 139 #[vi] ∧ Blk w2 g 139 #[v'] ∧ txtsP i = (txtsP i).map (([] : List ByteArray) ++ ·) ∧ Out [g] W w2 ∧ Below w0.heap.size w0 w2 ∧ w2.heap.size ≤ w2.heap.size ∧ ([] : List ByteArray).length + i.length = i.length ∧ (∀ y ∈ i, szI (n + 1) y ≤ 20000000)) := ⟨World.ownsRow_nil _ _ _ _, hki, hBi, hB, by simp, ho, below_out HW.out.1 ho HW.out.2.1, Nat.le_refl _, by simp, hsz.2⟩
  clear ho hn hgi hki hkr hB hBi E hsz HP HW
  go_wp2_with fail
  go_loopw [5] (fun lv wr => Hid (∃ (ps : List ByteArray) (q : List (It (n + 1))) (vr : Value), OwnT wr w2.heap.size lv ps ∧ KcAt w0 (n + 1) vr q ∧ Blk wr gi 139 #[vr] ∧ Blk wr g 139 #[v'] ∧ txtsP i = (txtsP q).map (ps ++ ·) ∧ Out [g] W wr ∧ Below w0.heap.size w0 wr ∧ w2.heap.size ≤ wr.heap.size ∧ ps.length + q.length = i.length ∧ (∀ y ∈ q, szI (n + 1) y ≤ 20000000))) (fun lv _ => i.length - lenV lv)
  case atStart => exact ⟨[], i, vi, HS.out⟩
  case round =>
    clear HS
    obtain ⟨ps, q, vr, h1, h2, h3, h4, h5, h6, h7, h8, h9, h10⟩ := hrel
    obtain ⟨la, lc, hlv⟩ : ∃ ao cap, u5 = .slice ao ps.length cap := by obtain ⟨ao, cap, h, _⟩ := h1.at; exact ⟨ao, cap, h⟩
    obtain ⟨qa, qc, hvr⟩ := h2.shape
    subst hvr
    cases q with
    | nil =>
      have HF : Hid (TxtsPost w0 W g n oL (.returned u5) wr) := by
        have e : txtsP i = some ps := by rw [h5]; show Option.map (ps ++ ·) (some []) = _; simp
        refine ⟨h6, .inr ⟨ps, r, v', u5, ?_, rfl, h1.base HI.out.2.2.2.2.1, HI.out.2.2.2.2.2.2.2.1, h4⟩⟩
        rw [HE.out, e]
      have c1 : wr.cell? ⟨gi, 0, none⟩ = some (.slice qa 0 qc) := h3.cell 0
      clear h1 h2 h3 h4 h5 h6 h7 h8 h9 h10 hlv
      go_wp2_with fail
      go_ret
      exact HF.out
    | cons y q =>
      rw [List.length_cons] at h3 h9
      have c1 : wr.cell? ⟨gi, 0, none⟩ = some (.slice qa (q.length + 1) qc) := h3.cell 0
      have hql : ps.length + (q.length + 1) ≤ 1000000 := by have := HI.out.2.2.2.2.2.2.2.2; omega
      have E3 := rtext_any w0 wr gi n (.slice qa (q.length + 1) qc) (y :: q) h7 h2 h3 (by have := HI.out; omega) (by rw [List.length_cons]; omega)
      have HK : Hid (OwnT wr w2.heap.size u5 ps ∧ Blk wr g 139 #[v'] ∧ txtsP i = (txtsP (y :: q)).map (ps ++ ·) ∧ Out [g] W wr ∧ Below w0.heap.size w0 wr ∧ w2.heap.size ≤ wr.heap.size ∧ ps.length + (q.length + 1) = i.length ∧ (∀ z ∈ (y :: q), szI (n + 1) z ≤ 20000000) ∧ (∀ b, u5.ownBlock = some b → w2.heap.size ≤ b)) := ⟨h1, h4, h5, h6, h7, h8, h9, h10, fun b hb => (World.ownsRow.lt h1 b hb).1⟩
      obtain ⟨m, hm⟩ : ∃ m, q.length = m := ⟨_, rfl⟩
      rw [hm] at c1
      have hm0 : (0 : Int) < (m : Int) + 1 := by omega
      have HM : Hid (q.length = m ∧ ps.length + (m + 1) ≤ 1000000) := ⟨hm, by rw [← hm]; exact hql⟩
      clear h1 h2 h3 h4 h5 h6 h7 h8 h9 h10 hql hm
      obtain ⟨pl, hpl⟩ : ∃ p, ps.length = p := ⟨_, rfl⟩
      rw [hpl] at hlv
      have HPL : Hid (ps.length = pl) := hpl
      clear hpl
      subst hlv
      go_wp2_with fail
      clear c1
      refine E3.mono ?_
      rintro e w3 ⟨ho3, ⟨hn3, rfl⟩ | ⟨x, q', vq, hn3, rfl, hkq, hBq⟩⟩
      · have HF : Hid (Out [g] W w3 ∧ oL = none) := by
          refine ⟨HK.out.2.2.2.1.aside ho3 HI.out.2.1, ?_⟩
          rw [HE.out, HK.out.2.2.1, txtsP_none hn3]
          rfl
        clear ho3 hn3 E3
        unfold misfit
        go_wp2_with fail
        exact ⟨rfl, HF.out.1, .inl ⟨HF.out.2, rfl⟩⟩
      · have hq' : q' = q := by
          obtain ⟨y', hh⟩ := txt_tail hn3
          exact (List.cons.inj hh).2.symm
        subst hq'
        have hx3 : txtP 12 (y :: q') = some (x, q') := hn3
        obtain ⟨W4, hW4⟩ : ∃ V, V = w3.alloc (Obj.cells #[.string x] 9) := ⟨_, rfl⟩
        have hb4 : Below w3.heap.size w3 W4 := by rw [hW4]; exact (Below.refl _ _).alloc (Nat.le_refl _) _
        have H4 : Hid (OwnT W4 w2.heap.size (.slice la pl lc) ps ∧ OwnT W4 w3.heap.size (.slice (some ⟨w3.heap.size, 0, none⟩) 1 1) [x] ∧ KcAt w0 (n + 1) vq q' ∧ Blk W4 gi 139 #[vq] ∧ Blk W4 g 139 #[v'] ∧ txtsP i = (txtsP q').map ((ps ++ [x]) ++ ·) ∧ Out [g] W W4 ∧ Below w0.heap.size w0 W4 ∧ w2.heap.size ≤ W4.heap.size ∧ (∀ z ∈ q', szI (n + 1) z ≤ 20000000)) := by
          have hrow := ho3.row (v := .slice la pl lc) (fun b hb => by have := HK.out.2.2.2.2.2.2.2.2 b hb; have := HI.out; simp; omega) HK.out.1
          refine ⟨OwnT.stays hrow hb4, by rw [hW4]; exact rone_text w3 x, hkq, hBq.on hb4, (HK.out.2.1.outX ho3 (by have := HI.out; simp; omega)).on hb4, ?_, (HK.out.2.2.2.1.aside ho3 HI.out.2.1).trans (Out.of_below hb4), ?_, Nat.le_trans HK.out.2.2.2.2.2.1 (Nat.le_trans ho3.size hb4.size), fun z hz => HK.out.2.2.2.2.2.2.2.1 z (by simp [hz])⟩
          · rw [HK.out.2.2.1, txtsP_step hx3]
            cases txtsP q' with
            | none => rfl
            | some l => simp
          · have := below_out HK.out.2.2.2.2.1 ho3 (by have := HI.out; omega)
            exact this.trans (hb4.mono this.size)
        have HLQ : Hid (ps.length + (q'.length + 1) = i.length ∧ q'.length = m ∧ ps.length + (m + 1) ≤ 1000000) := ⟨HK.out.2.2.2.2.2.2.1, HM.out.1, HM.out.2⟩
        clear ho3 hn3 hkq hBq hx3 hb4 E3 HK HM
        go_wp2_with (at_builtin; rw [← hW4]; refine wpList_append_texts2 rfl _ _ 23 rfl w2.heap.size i0 Try.underlying23 hi hz0 hz1 hz2 (.slice la pl lc) ps.length (cellsT ps) rfl H4.out.1 _ [x] w3.heap.size H4.out.2.1 rfl (by have := HLQ.out; simp only [List.length_singleton]; omega) H4.out.2.2.2.2.2.2.2.2.1 ?_)
        intro v9 w9 ho9 hg9
        rw [← hW4] at hg9
        have H9 : Hid (OwnT w9 w2.heap.size v9 (ps ++ [x]) ∧ KcAt w0 (n + 1) vq q' ∧ Blk w9 gi 139 #[vq] ∧ Blk w9 g 139 #[v'] ∧ txtsP i = (txtsP q').map ((ps ++ [x]) ++ ·) ∧ Out [g] W w9 ∧ Below w0.heap.size w0 w9 ∧ w2.heap.size ≤ w9.heap.size ∧ (ps ++ [x]).length + q'.length = i.length ∧ (∀ z ∈ q', szI (n + 1) z ≤ 20000000)) := by
          have hrl := fun b hb => (World.ownsRow.lt H4.out.1 b hb).1
          refine ⟨?_, H4.out.2.2.1, H4.out.2.2.2.1.grown hg9 (fun e => by have := hrl _ e.symm; have := HI.out; omega), H4.out.2.2.2.2.1.grown hg9 (fun e => by have := hrl _ e.symm; have := HI.out; omega), H4.out.2.2.2.2.2.1, H4.out.2.2.2.2.2.2.1.grow hg9 (fun b hb => by have := hrl b hb; have := HI.out; omega), belowGrown H4.out.2.2.2.2.2.2.2.1 hg9 (fun b hb => by have := hrl b hb; have := HI.out; omega), Nat.le_trans H4.out.2.2.2.2.2.2.2.2.1 hg9.size, by have := HLQ.out; simp only [List.length_append, List.length_singleton]; omega, H4.out.2.2.2.2.2.2.2.2.2⟩
          simpa [OwnT, cellsT_append] using ho9
        obtain ⟨a9, c9, hv9⟩ : ∃ ao cap, v9 = .slice ao (ps ++ [x]).length cap := by obtain ⟨ao, cap, h, _⟩ := H9.out.1.at; exact ⟨ao, cap, h⟩
        have HL9 : Hid (v9 = .slice a9 (pl + 1) c9) := by show v9 = _; rw [hv9, List.length_append, HPL.out]; rfl
        clear ho9 hg9 H4 hW4 hv9
        go_wp2_with fail
        exact ⟨⟨ps ++ [x], q', vq, H9.out⟩, by rw [HL9.out]; show i.length - (pl + 1) < i.length - pl; have := HLQ.out; have := HPL.out; omega⟩

end Go.Proofs.Ytajbalokcfghbaa
