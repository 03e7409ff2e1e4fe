/-
  Texts of the proof, one behind the other: CrD, NmP.
-/
import Derived.WalkKit
import Derived.Test.YtplblechcnbieaaSW8

/-
  The laws' eqCert, of letters that are the same.
-/
namespace Go.Proofs.Ytplblechcnbieaa
open Go.RowKit
set_option linter.unusedVariables false

set_option maxHeartbeats 6400000 in
set_option maxRecDepth 100000 in
theorem eqCert_same (c : Ct) (a b : Value) (w : World) (hl : c.pol.length ≤ 1000000000 ∧ c.per.length ≤ 1000000000 ∧ c.den.length ≤ 1000000000) (ha : CtAt w a c) (hb : CtAt w b c) :
    Calls Try.prog 20 #[a, b] w fun e w' => e = .returned (.bool true) ∧ Below w.heap.size w w' := by
  obtain ⟨pv, ev, dv, rfl, h1, h2, h3⟩ := ha
  obtain ⟨pu, eu, du, rfl, k1, k2, k3⟩ := hb
  have HQ : Hid (∀ W, Below w.heap.size w W → Calls Try.prog 34 #[pv, pu] W (fun e w' => e = .returned (.bool true) ∧ Below W.heap.size W w') ∧ Calls Try.prog 35 #[ev, eu] W (fun e w' => e = .returned (.bool true) ∧ Below W.heap.size W w') ∧ Calls Try.prog 35 #[dv, du] W (fun e w' => e = .returned (.bool true) ∧ Below W.heap.size W w')) :=
    fun W hb => ⟨eqIntS_same pv pu c.pol W hl.1 (h1.below hb) (k1.below hb), eqT_same ev eu c.per W hl.2.1 (h2.below hb) (k2.below hb), eqT_same dv du c.den W hl.2.2 (h3.below hb) (k3.below hb)⟩
  obtain ⟨lp, hlp⟩ : ∃ l, c.pol.length = l := ⟨_, rfl⟩
  obtain ⟨le, hle⟩ : ∃ l, c.per.length = l := ⟨_, rfl⟩
  obtain ⟨ld, hld⟩ : ∃ l, c.den.length = l := ⟨_, rfl⟩
  obtain ⟨pa, pc, hpa, _⟩ := h1
  obtain ⟨ea, ec, hea, _⟩ := h2
  obtain ⟨da, dc, hda, _⟩ := h3
  obtain ⟨pb, qc, hpb, _⟩ := k1
  obtain ⟨eb, fc, heb, _⟩ := k2
  obtain ⟨db, gc, hdb, _⟩ := k3
  rw [hlp] at hpa hpb
  rw [hle] at hea heb
  rw [hld] at hda hdb
  subst hpa hea hda hpb heb hdb
  clear hlp hle hld hl
  unfold ctV
  go_enter Try.func20, Try.ntmps20
  go_wp2_with fail
  obtain ⟨V, hV⟩ : ∃ V, V = (w.alloc (Obj.cells #[.int .i64 c.serial, .string c.issuer, .string c.subject, .int .i64 c.frm, .int .i64 c.upto, .string c.key, .bool c.ca, .int .i64 c.pathLen, .int .i64 c.usage, .slice pa lp pc, .slice ea le ec, .slice da ld dc, .string c.sig] 43)).alloc (Obj.cells #[.int .i64 c.serial, .string c.issuer, .string c.subject, .int .i64 c.frm, .int .i64 c.upto, .string c.key, .bool c.ca, .int .i64 c.pathLen, .int .i64 c.usage, .slice pb lp qc, .slice eb le fc, .slice db ld gc, .string c.sig] 43) := ⟨_, rfl⟩
  rw [← hV]
  have G : Hid (Blk V w.heap.size 43 #[.int .i64 c.serial, .string c.issuer, .string c.subject, .int .i64 c.frm, .int .i64 c.upto, .string c.key, .bool c.ca, .int .i64 c.pathLen, .int .i64 c.usage, .slice pa lp pc, .slice ea le ec, .slice da ld dc, .string c.sig] ∧ Blk V (w.heap.size + 1) 43 #[.int .i64 c.serial, .string c.issuer, .string c.subject, .int .i64 c.frm, .int .i64 c.upto, .string c.key, .bool c.ca, .int .i64 c.pathLen, .int .i64 c.usage, .slice pb lp qc, .slice eb le fc, .slice db ld gc, .string c.sig] ∧ Below w.heap.size w V ∧ w.heap.size + 1 < V.heap.size) := by
    have e0 : (w.alloc (Obj.cells #[.int .i64 c.serial, .string c.issuer, .string c.subject, .int .i64 c.frm, .int .i64 c.upto, .string c.key, .bool c.ca, .int .i64 c.pathLen, .int .i64 c.usage, .slice pa lp pc, .slice ea le ec, .slice da ld dc, .string c.sig] 43)).heap.size = w.heap.size + 1 := Array.size_push _
    have h := Blk.new (w.alloc (Obj.cells #[.int .i64 c.serial, .string c.issuer, .string c.subject, .int .i64 c.frm, .int .i64 c.upto, .string c.key, .bool c.ca, .int .i64 c.pathLen, .int .i64 c.usage, .slice pa lp pc, .slice ea le ec, .slice da ld dc, .string c.sig] 43)) 43 #[.int .i64 c.serial, .string c.issuer, .string c.subject, .int .i64 c.frm, .int .i64 c.upto, .string c.key, .bool c.ca, .int .i64 c.pathLen, .int .i64 c.usage, .slice pb lp qc, .slice eb le fc, .slice db ld gc, .string c.sig]
    rw [e0] at h
    rw [hV]
    exact ⟨(Blk.new w _ _).alloc _, h, ((Below.refl _ _).alloc (Nat.le_refl _) _).alloc (by rw [e0]; omega) _, by rw [size_alloc, e0]; omega⟩
  clear hV
  refine ((HQ.out V G.out.2.2.1).1).mono ?_
  rintro e V0 ⟨rfl, hb⟩
  have G0 : Hid (Blk V0 w.heap.size 43 #[.int .i64 c.serial, .string c.issuer, .string c.subject, .int .i64 c.frm, .int .i64 c.upto, .string c.key, .bool c.ca, .int .i64 c.pathLen, .int .i64 c.usage, .slice pa lp pc, .slice ea le ec, .slice da ld dc, .string c.sig] ∧ Blk V0 (w.heap.size + 1) 43 #[.int .i64 c.serial, .string c.issuer, .string c.subject, .int .i64 c.frm, .int .i64 c.upto, .string c.key, .bool c.ca, .int .i64 c.pathLen, .int .i64 c.usage, .slice pb lp qc, .slice eb le fc, .slice db ld gc, .string c.sig] ∧ Below w.heap.size w V0 ∧ w.heap.size + 1 < V0.heap.size) := ⟨G.out.1.below hb (by have := G.out.2.2.2; omega), G.out.2.1.below hb G.out.2.2.2, G.out.2.2.1.trans (hb.mono G.out.2.2.1.size), Nat.lt_of_lt_of_le G.out.2.2.2 hb.size⟩
  clear hb G
  have ca : V0.cell? ⟨w.heap.size, 10, none⟩ = some (.slice ea le ec) := G0.out.1.cell 10
  have cb : V0.cell? ⟨w.heap.size + 1, 10, none⟩ = some (.slice eb le fc) := G0.out.2.1.cell 10
  go_wp2_with fail
  clear ca cb
  refine ((HQ.out V0 G0.out.2.2.1).2.1).mono ?_
  rintro e V1 ⟨rfl, hb⟩
  have G1 : Hid (Blk V1 w.heap.size 43 #[.int .i64 c.serial, .string c.issuer, .string c.subject, .int .i64 c.frm, .int .i64 c.upto, .string c.key, .bool c.ca, .int .i64 c.pathLen, .int .i64 c.usage, .slice pa lp pc, .slice ea le ec, .slice da ld dc, .string c.sig] ∧ Blk V1 (w.heap.size + 1) 43 #[.int .i64 c.serial, .string c.issuer, .string c.subject, .int .i64 c.frm, .int .i64 c.upto, .string c.key, .bool c.ca, .int .i64 c.pathLen, .int .i64 c.usage, .slice pb lp qc, .slice eb le fc, .slice db ld gc, .string c.sig] ∧ Below w.heap.size w V1 ∧ w.heap.size + 1 < V1.heap.size) := ⟨G0.out.1.below hb (by have := G0.out.2.2.2; omega), G0.out.2.1.below hb G0.out.2.2.2, G0.out.2.2.1.trans (hb.mono G0.out.2.2.1.size), Nat.lt_of_lt_of_le G0.out.2.2.2 hb.size⟩
  clear hb G0
  have ca : V1.cell? ⟨w.heap.size, 11, none⟩ = some (.slice da ld dc) := G1.out.1.cell 11
  have cb : V1.cell? ⟨w.heap.size + 1, 11, none⟩ = some (.slice db ld gc) := G1.out.2.1.cell 11
  go_wp2_with fail
  clear ca cb
  refine ((HQ.out V1 G1.out.2.2.1).2.2).mono ?_
  rintro e V2 ⟨rfl, hb⟩
  have G2 : Hid (Blk V2 w.heap.size 43 #[.int .i64 c.serial, .string c.issuer, .string c.subject, .int .i64 c.frm, .int .i64 c.upto, .string c.key, .bool c.ca, .int .i64 c.pathLen, .int .i64 c.usage, .slice pa lp pc, .slice ea le ec, .slice da ld dc, .string c.sig] ∧ Blk V2 (w.heap.size + 1) 43 #[.int .i64 c.serial, .string c.issuer, .string c.subject, .int .i64 c.frm, .int .i64 c.upto, .string c.key, .bool c.ca, .int .i64 c.pathLen, .int .i64 c.usage, .slice pb lp qc, .slice eb le fc, .slice db ld gc, .string c.sig] ∧ Below w.heap.size w V2 ∧ w.heap.size + 1 < V2.heap.size) := ⟨G1.out.1.below hb (by have := G1.out.2.2.2; omega), G1.out.2.1.below hb G1.out.2.2.2, G1.out.2.2.1.trans (hb.mono G1.out.2.2.1.size), Nat.lt_of_lt_of_le G1.out.2.2.2 hb.size⟩
  clear hb G1
  have ca : V2.cell? ⟨w.heap.size, 12, none⟩ = some (.string c.sig) := G2.out.1.cell 12
  have cb : V2.cell? ⟨w.heap.size + 1, 12, none⟩ = some (.string c.sig) := G2.out.2.1.cell 12
  go_wp2_with fail
  go_ret
  exact ⟨rfl, G2.out.2.2.1⟩
end Go.Proofs.Ytplblechcnbieaa

/-
  Plain facts alone: names, who is under whom, lists of names and of rules.
-/
namespace Go.Proofs.Ytplblechcnbieaa

/-- A name read on: whether a part has begun. -/
def nmL : List UInt8 → Bool → Bool
  | [], p => p
  | b :: r, p => if 97 ≤ b.toNat ∧ b.toNat ≤ 122 then nmL r true else if b.toNat = 46 ∧ p = true then nmL r false else false
def nameOk (s : ByteArray) : Bool := decide (s.size ≤ 20) && nmL s.data.toList false
theorem nm_letter {b : UInt8} (r : List UInt8) (p : Bool) (h1 : 97 ≤ b.toNat) (h2 : b.toNat ≤ 122) : nmL (b :: r) p = nmL r true := by
  show (if _ then _ else _) = _
  rw [if_pos ⟨h1, h2⟩]
theorem nm_dot {b : UInt8} (r : List UInt8) (h : b.toNat = 46) : nmL (b :: r) true = nmL r false := by
  show (if _ then _ else _) = _
  rw [if_neg (by omega), if_pos ⟨h, rfl⟩]
theorem nm_dots {b : UInt8} (r : List UInt8) (h : b.toNat = 46) : nmL (b :: r) false = false := by
  show (if _ then _ else _) = _
  rw [if_neg (by omega), if_neg (by simp)]
theorem nm_other {b : UInt8} (r : List UInt8) (p : Bool) (h : ¬ (97 ≤ b.toNat ∧ b.toNat ≤ 122)) (h2 : b.toNat ≠ 46) : nmL (b :: r) p = false := by
  show (if _ then _ else _) = _
  rw [if_neg h, if_neg (fun q => h2 q.1)]
theorem drop_at (s : ByteArray) (k : Nat) (h : k < s.size) : s.data.toList.drop k = s[k] :: s.data.toList.drop (k + 1) := by
  rw [List.drop_eq_getElem_cons (by simpa using h)]
  rfl
theorem drop_end (s : ByteArray) (k : Nat) (h : ¬ k < s.size) : s.data.toList.drop k = [] := List.drop_eq_nil_of_le (by have e : s.data.toList.length = s.size := rfl; omega)

/-- Each is less than the next. -/
def ascG {α : Type} (lt : α → α → Bool) (d : α) (l : List α) : Bool := (List.range (l.length - 1)).all fun i => lt (l.getD i d) (l.getD (i + 1) d)
theorem asc_yes {α : Type} {lt : α → α → Bool} {d : α} {l : List α} (h : ∀ i, 0 < i → i < l.length → lt (l.getD (i - 1) d) (l.getD i d) = true) : ascG lt d l = true := by
  unfold ascG
  rw [List.all_eq_true]
  intro i hi
  rw [List.mem_range] at hi
  exact h (i + 1) (by omega) (by omega)
theorem asc_no {α : Type} {lt : α → α → Bool} {d : α} {l : List α} (i : Nat) (h0 : 0 < i) (hi : i < l.length) (h : lt (l.getD (i - 1) d) (l.getD i d) = false) : ascG lt d l = false := by
  unfold ascG
  rw [List.all_eq_false]
  refine ⟨i - 1, by rw [List.mem_range]; omega, ?_⟩
  rw [show i - 1 + 1 = i by omega, h]
  simp
theorem all_yes {α : Type} {f : α → Bool} {d : α} {l : List α} (h : ∀ i, i < l.length → f (l.getD i d) = true) : l.all f = true := by
  rw [List.all_eq_true]
  intro x hx
  obtain ⟨i, hi, rfl⟩ := List.getElem_of_mem hx
  have := h i hi
  rwa [List.getD_eq_getElem?_getD, List.getElem?_eq_getElem hi] at this
theorem all_no {α : Type} {f : α → Bool} {d : α} {l : List α} (i : Nat) (hi : i < l.length) (h : f (l.getD i d) = false) : l.all f = false := by
  rw [List.all_eq_false]
  refine ⟨l[i], List.getElem_mem hi, ?_⟩
  rw [List.getD_eq_getElem?_getD, List.getElem?_eq_getElem hi] at h
  simpa using h
/-- One text is less than another. -/
def lsB (a b : ByteArray) : Bool := Op.bytesLess a.toList b.toList
def lsI (a b : Int) : Bool := decide (a < b)
/-- A right list, of whatever. -/
def listOk {α : Type} (f : α → Bool) (lt : α → α → Bool) (d : α) (l : List α) : Bool := decide (l.length ≤ 4) && l.all f && ascG lt d l
theorem ok_bad {α : Type} {f : α → Bool} {lt : α → α → Bool} {d : α} {l : List α} (i : Nat) (hi : i < l.length) (h : f (l.getD i d) = false) : listOk f lt d l = false := by
  unfold listOk; rw [all_no i hi h]; simp
theorem ok_down {α : Type} {f : α → Bool} {lt : α → α → Bool} {d : α} {l : List α} (i : Nat) (h0 : 0 < i) (hi : i < l.length) (h : lt (l.getD (i - 1) d) (l.getD i d) = false) : listOk f lt d l = false := by
  unfold listOk; rw [asc_no i h0 hi h]; simp
theorem ok_end {α : Type} {f : α → Bool} {lt : α → α → Bool} {d : α} {l : List α} (h1 : ∀ i, i < l.length → f (l.getD i d) = true) (h2 : ∀ i, 0 < i → i < l.length → lt (l.getD (i - 1) d) (l.getD i d) = true) : listOk f lt d l = decide (l.length ≤ 4) := by
  unfold listOk; rw [all_yes h1, asc_yes h2]; simp
theorem ok_long {α : Type} {f : α → Bool} {lt : α → α → Bool} {d : α} {l : List α} (h : 4 < l.length) : listOk f lt d l = false := by
  unfold listOk; rw [decide_eq_false (by omega)]; simp
theorem ok_asc {α : Type} {f : α → Bool} {lt : α → α → Bool} {d : α} {l : List α} (h1 : ∀ i, i < l.length → f (l.getD i d) = true) (h : l.length ≤ 4) : listOk f lt d l = ascG lt d l := by
  unfold listOk; rw [all_yes h1, decide_eq_true h]; simp
def namesOk (l : List ByteArray) : Bool := listOk nameOk lsB ByteArray.empty l
def polIn (x : Int) : Bool := decide (0 ≤ x ∧ x ≤ 99)
def polOk (l : List Int) : Bool := listOk polIn lsI 0 l
end Go.Proofs.Ytplblechcnbieaa
