/-
  Spots: where a row of items lies, as a key of a map.
-/
import Derived.Test.YtbiiihjohbnodaaItF
import Derived.LaidEqlPtr
import Derived.Laws.StructEq
import Derived.ChangeKeysEq
namespace Go.Proofs.Ytbiiihjohbnodaa
open Go.RowKit Der
set_option linter.unusedVariables false

/-- A block of cells that nobody has frozen. -/
def Free (w : World) (g : Nat) : Prop := ∃ cur t, w.heap[g]? = some (.cells cur t (0, 0))
def FreeP (w : World) (p : Option Addr) : Prop := ∀ a, p = some a → Free w a.block
def spotV (p : Option Addr) (l : Nat) : Value := .agg #[.pointer p, .int .i64 (l : Int)]
theorem infoItem1 : ∃ i, Try.prog.info? 67 = some i ∧ i.size = 3 := by
  obtain ⟨i, h, _, h2, _⟩ := infoItem_parts
  exact ⟨i, h, h2⟩
/-- What a map asks of its keys: they may be held against each other, and are the same just when they are one. -/
structure KeyedBy (P : Program) (k : TypeId) (Ok : World → Value → Prop) : Prop where
  desc : ∃ d, P.underlying k = some d ∧ ∀ a b, Instr.sameNow d a b = none
  check : ∀ (w : World) (em : Bool) {v : Value}, Ok w v → (Instr.checkKey em 10000 k v).run P w = .ok () w
  eq : ∀ (w : World) {a b : Value}, Ok w a → Ok w b → ∃ r, (Op.equal k a b).run P w = .ok r w ∧ (r = true ↔ a = b)
theorem ask_not {P : Program} {k : TypeId} {Ok : World → Value → Prop} (K : KeyedBy P k Ok) {w : World} {key : Value} (hk : Ok w key) : ∀ (es : List MapEntry) (i : Nat), (∀ e ∈ es, Ok w e.key ∧ e.key ≠ key) → (Instr.findAsking k key es i).run P w = .ok none w
  | [], i, _ => by simp [Instr.findAsking]
  | e :: es, i, h => by
    obtain ⟨h1, h2⟩ := h e (by simp)
    obtain ⟨r, hr, hiff⟩ := K.eq w hk h1
    have hf : r = false := by
      cases r with
      | false => rfl
      | true => exact absurd (hiff.1 rfl).symm h2
    subst hf
    simp [Instr.findAsking, hr, ask_not K hk es (i + 1) (fun e he => h e (by simp [he]))]
theorem ask_hit {P : Program} {k : TypeId} {Ok : World → Value → Prop} (K : KeyedBy P k Ok) {w : World} {key : Value} (hk : Ok w key) {e : MapEntry} (he : e.key = key) (l2 : List MapEntry) : ∀ (l1 : List MapEntry) (i : Nat), (∀ e ∈ l1, Ok w e.key ∧ e.key ≠ key) → (Instr.findAsking k key (l1 ++ e :: l2) i).run P w = .ok (some (i + l1.length, e.val)) w
  | [], i, _ => by
    obtain ⟨r, hr, hiff⟩ := K.eq w hk hk
    have ht : r = true := hiff.2 rfl
    subst ht
    simp [Instr.findAsking, he, hr]
  | e' :: l1, i, h => by
    obtain ⟨h1, h2⟩ := h e' (by simp)
    obtain ⟨r, hr, hiff⟩ := K.eq w hk h1
    have hf : r = false := by
      cases r with
      | false => rfl
      | true => exact absurd (hiff.1 rfl).symm h2
    subst hf
    have ih := ask_hit K hk he l2 l1 (i + 1) (fun e he => h e (by simp [he]))
    simp only [List.cons_append, Instr.findAsking, Sem.run_bind, hr, Result.andThen_ok, ih, Bool.false_eq_true, if_false, List.length_cons]
    congr 3
    omega
theorem find_not {P : Program} {k : TypeId} {Ok : World → Value → Prop} (K : KeyedBy P k Ok) {w : World} {key : Value} (hk : Ok w key) (es : List MapEntry) (h : ∀ e ∈ es, Ok w e.key ∧ e.key ≠ key) : (Instr.findKey k key es).run P w = .ok none w := by
  obtain ⟨d, hd, hn⟩ := K.desc
  cases es with
  | nil => simp [Instr.findKey, run_underlying hd, Instr.findNow]
  | cons e es => simp [Instr.findKey, run_underlying hd, Instr.findNow, hn, ask_not K hk (e :: es) 0 h]
theorem find_hit {P : Program} {k : TypeId} {Ok : World → Value → Prop} (K : KeyedBy P k Ok) {w : World} {key : Value} (hk : Ok w key) {e : MapEntry} (he : e.key = key) (l1 l2 : List MapEntry) (h : ∀ e ∈ l1, Ok w e.key ∧ e.key ≠ key) : (Instr.findKey k key (l1 ++ e :: l2)).run P w = .ok (some (l1.length, e.val)) w := by
  obtain ⟨d, hd, hn⟩ := K.desc
  have := ask_hit K hk he l2 l1 0 h
  rw [Nat.zero_add] at this
  have hnow : Instr.findNow d key (l1 ++ e :: l2) 0 = none := by
    cases l1 <;> simp [Instr.findNow, hn]
  simp [Instr.findKey, run_underlying hd, hnow, this]
theorem look_not {P : Program} {k : TypeId} {Ok : World → Value → Prop} (K : KeyedBy P k Ok) {w : World} {key : Value} {t e : TypeId} (ht : P.underlying t = some (.map k e)) {b : Nat} {es : Array MapEntry} {clock : Nat} (hb : w.heap[b]? = some (.map es clock)) (hk : Ok w key) (h : ∀ x ∈ es.toList, Ok w x.key ∧ x.key ≠ key) {z : Value} (hz : (zeroValue e).run P w = .ok z w) : (Instr.lookup t (.map (some b)) key true).run P w = .ok (.tuple #[z, .bool false]) w := by
  simp [Instr.lookup, run_underlying ht, MapKept.run_getObj_map hb, K.check w _ hk, find_not K hk es.toList h, hz, Result.andThen]
theorem look_hit {P : Program} {k : TypeId} {Ok : World → Value → Prop} (K : KeyedBy P k Ok) {w : World} {key : Value} {t e : TypeId} (ht : P.underlying t = some (.map k e)) {b : Nat} {es : Array MapEntry} {clock : Nat} (hb : w.heap[b]? = some (.map es clock)) (hk : Ok w key) {x : MapEntry} (hx : x.key = key) {l1 l2 : List MapEntry} (he : es.toList = l1 ++ x :: l2) (h : ∀ x ∈ l1, Ok w x.key ∧ x.key ≠ key) : (Instr.lookup t (.map (some b)) key true).run P w = .ok (.tuple #[x.val, .bool true]) w := by
  simp [Instr.lookup, run_underlying ht, MapKept.run_getObj_map hb, K.check w _ hk, he, find_hit K hk hx l1 l2 h, Result.andThen]
theorem put_new {P : Program} {k : TypeId} {Ok : World → Value → Prop} (K : KeyedBy P k Ok) {w : World} {key : Value} {t e : TypeId} (ht : P.underlying t = some (.map k e)) {b : Nat} {es : Array MapEntry} {clock : Nat} (hb : w.heap[b]? = some (.map es clock)) (hk : Ok w key) (h : ∀ x ∈ es.toList, Ok w x.key ∧ x.key ≠ key) (val : Value) : (Instr.mapUpdate t (.map (some b)) key val).run P w = .ok () { w with heap := w.heap.setIfInBounds b (.map (es.push ⟨key, val, clock⟩) (clock + 1)) } := by
  simp [Instr.mapUpdate, run_underlying ht, MapKept.run_getObj_map hb, K.check w _ hk, find_not K hk es.toList h, MapKept.run_setObj_map _ hb, Result.andThen]
theorem drop_last {P : Program} {k : TypeId} {Ok : World → Value → Prop} (K : KeyedBy P k Ok) {w : World} {key : Value} {t e : TypeId} (ht : P.underlying t = some (.map k e)) {b : Nat} {es : Array MapEntry} {clock : Nat} {x : MapEntry} (hb : w.heap[b]? = some (.map (es.push x) clock)) (hk : Ok w key) (hx : x.key = key) (h : ∀ x ∈ es.toList, Ok w x.key ∧ x.key ≠ key) (ty : TypeId) :
    (Builtin.delete_ #[t, k] ty #[.map (some b), key]).run P w = .ok (.tuple #[]) { w with heap := w.heap.setIfInBounds b (.map es clock) } := by
  have hf := find_hit K hk hx es.toList [] h
  have e0 : (es.push x).toList = es.toList ++ [x] := Array.toList_push
  have e1 : (es.push x).eraseIdxIfInBounds es.toList.length = es := by
    apply Array.ext'
    unfold Array.eraseIdxIfInBounds
    rw [dif_pos (by simp)]
    simp [List.eraseIdx_append_of_length_le]
  simp only [Builtin.delete_, Sem.run_bind, run_underlying ht, MapKept.run_getObj_map hb, K.check w _ hk, e0, hf, MapKept.run_setObj_map _ hb, Result.andThen_ok, e1, Sem.run_pure, List.getElem?_toArray, List.getElem?_cons_zero, List.getElem?_cons_succ]
/-- A spot that may be held against others. -/
def OkS (w : World) (v : Value) : Prop := ∃ p l, v = spotV p l ∧ FreeP w p
/-- Two spots, side by side. -/
def spots2 (p : Option Addr) (l : Nat) (q : Option Addr) (m : Nat) : Value := .agg #[.pointer p, .int .i64 (l : Int), .pointer q, .int .i64 (m : Int)]
def OkS2 (w : World) (v : Value) : Prop := ∃ p l q m, v = spots2 p l q m ∧ FreeP w p ∧ FreeP w q
end Go.Proofs.Ytbiiihjohbnodaa
