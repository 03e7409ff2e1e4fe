/-
  Spots: where a row of items lies, as a key of a map.
-/
import Derived.Test.YtgkdeakbokgfgaaItF
import Derived.LaidEqlPtr
import Derived.Laws.StructEq
import Derived.ChangeKeysEq
namespace Go.Proofs.Ytgkdeakbokgfgaa
open Go.RowKit Der
set_option linter.unusedVariables false

/-- A block of cells that nobody has frozen. -/
def Free (w : World) (g : Nat) : Prop := ∃ cur t, w.heap[g]? = some (.cells cur t (0, 0))
def FreeP (w : World) (p : Option Addr) : Prop := ∀ a, p = some a → Free w a.block
def spotV (p : Option Addr) (l : Nat) : Value := .agg #[.pointer p, .int .i64 (l : Int)]
theorem stood86 : Try.prog.stoodInHeld 87 = false := by kernel_rfl
theorem infoItem1 : ∃ i, Try.prog.info? 54 = some i ∧ i.size = 3 := by
  obtain ⟨i, h, _, h2, _⟩ := infoItem_parts
  exact ⟨i, h, h2⟩
theorem ptr_equal {w : World} {p q : Option Addr} (h1 : FreeP w p) (h2 : FreeP w q) (d : Nat) : (Op.equalIn (d + 1) 85 (.pointer p) (.pointer q)).run Try.prog w = .ok (decide (p = q)) w := by
  obtain ⟨i, hi, hs⟩ := infoItem1
  cases p with
  | none => cases q <;> simp [Op.equalIn, run_underlying Try.underlying85]
  | some a =>
    cases q with
    | none => simp [Op.equalIn, run_underlying Try.underlying85]
    | some b =>
      obtain ⟨c1, t1, e1⟩ := h1 a rfl
      obtain ⟨c2, t2, e2⟩ := h2 b rfl
      by_cases h : a = b
      · subst h
        simp [Op.equalIn, run_underlying Try.underlying85, sizeOf, typeInfo, hi, run_sameAddr_same]
      · simp [Op.equalIn, run_underlying Try.underlying85, sizeOf, typeInfo, hi, hs, run_sameAddr_other w h e1 e2, h]
theorem spot_equal {w : World} {p q : Option Addr} {l1 l2 : Nat} (h1 : FreeP w p) (h2 : FreeP w q) (d : Nat) : (Op.equalIn (d + 2) 87 (spotV p l1) (spotV q l2)).run Try.prog w = .ok (decide (p = q ∧ l1 = l2)) w := by
  have hp := ptr_equal h1 h2 d
  unfold spotV
  rw [run_equalIn_struct w (d + 1) 87 _ _ (by kernel_rfl) stood86]
  have hf : (Try.prog.fieldsOf 87).toList.map (fun f => (f.name, f.type, f.offset)) = [("first", 85, 0), ("count", 3, 1)] := by kernel_rfl
  obtain ⟨f0, f1, hff⟩ : ∃ f0 f1, (Try.prog.fieldsOf 87).toList = [f0, f1] := by
    match h : (Try.prog.fieldsOf 87).toList with
    | [f0, f1] => exact ⟨f0, f1, rfl⟩
    | [] => rw [h] at hf; simp at hf
    | [_] => rw [h] at hf; simp at hf
    | _ :: _ :: _ :: _ => rw [h] at hf; simp at hf
  rw [hff] at hf ⊢
  simp only [List.map_cons, List.map_nil, List.cons.injEq, Prod.mk.injEq, and_true] at hf
  obtain ⟨⟨n0, t0, o0⟩, n1, t1, o1⟩ := hf
  have p0 : ∀ x y : Value, (part 85 #[x, y] 0).run Try.prog w = .ok x w := fun x y => by kernel_rfl
  have p1 : ∀ x y : Value, (part 3 #[x, y] 1).run Try.prog w = .ok y w := fun x y => by kernel_rfl
  simp only [Op.eqFields, n0, t0, o0, n1, t1, o1, p0, p1, hp, Sem.run_bind, Result.andThen_ok, run_equalIn_int w d 3 .i64 .i64 _ _ Try.underlying3, Sem.run_ite, Sem.run_pure]
  have n2 : ¬ (("first" : String) = "_") := by decide
  have n3 : ¬ (("count" : String) = "_") := by decide
  rw [if_pos n2, if_pos n3]
  by_cases a : p = q
  · by_cases b : l1 = l2
    · simp [a, b]
    · simp [a, b]
      omega
  · simp [a]
/-- What a map asks of its keys: they may be held against each other, and are the same just when they are one. -/
structure KeyedBy (P : Program) (k : TypeId) (Ok : World → Value → Prop) : Prop where
  desc : ∃ d, P.underlying k = some d ∧ ∀ a b, Instr.sameNow d a b = none
  check : ∀ (w : World) (em : Bool) {v : Value}, Ok w v → (Instr.checkKey em 10000 k v).run P w = .ok () w
  eq : ∀ (w : World) {a b : Value}, Ok w a → Ok w b → ∃ r, (Op.equal k a b).run P w = .ok r w ∧ (r = true ↔ a = b)
theorem ask_not {P : Program} {k : TypeId} {Ok : World → Value → Prop} (K : KeyedBy P k Ok) {w : World} {key : Value} (hk : Ok w key) : ∀ (es : List MapEntry) (i : Nat), (∀ e ∈ es, Ok w e.key ∧ e.key ≠ key) → (Instr.findAsking k key es i).run P w = .ok none w
  | [], i, _ => by simp [Instr.findAsking]
  | e :: es, i, h => by
    obtain ⟨h1, h2⟩ := h e (by simp)
    obtain ⟨r, hr, hiff⟩ := K.eq w hk h1
    have hf : r = false := by
      cases r with
      | false => rfl
      | true => exact absurd (hiff.1 rfl).symm h2
    subst hf
    simp [Instr.findAsking, hr, ask_not K hk es (i + 1) (fun e he => h e (by simp [he]))]
theorem ask_hit {P : Program} {k : TypeId} {Ok : World → Value → Prop} (K : KeyedBy P k Ok) {w : World} {key : Value} (hk : Ok w key) {e : MapEntry} (he : e.key = key) (l2 : List MapEntry) : ∀ (l1 : List MapEntry) (i : Nat), (∀ e ∈ l1, Ok w e.key ∧ e.key ≠ key) → (Instr.findAsking k key (l1 ++ e :: l2) i).run P w = .ok (some (i + l1.length, e.val)) w
  | [], i, _ => by
    obtain ⟨r, hr, hiff⟩ := K.eq w hk hk
    have ht : r = true := hiff.2 rfl
    subst ht
    simp [Instr.findAsking, he, hr]
  | e' :: l1, i, h => by
    obtain ⟨h1, h2⟩ := h e' (by simp)
    obtain ⟨r, hr, hiff⟩ := K.eq w hk h1
    have hf : r = false := by
      cases r with
      | false => rfl
      | true => exact absurd (hiff.1 rfl).symm h2
    subst hf
    have ih := ask_hit K hk he l2 l1 (i + 1) (fun e he => h e (by simp [he]))
    simp only [List.cons_append, Instr.findAsking, Sem.run_bind, hr, Result.andThen_ok, ih, Bool.false_eq_true, if_false, List.length_cons]
    congr 3
    omega
theorem find_not {P : Program} {k : TypeId} {Ok : World → Value → Prop} (K : KeyedBy P k Ok) {w : World} {key : Value} (hk : Ok w key) (es : List MapEntry) (h : ∀ e ∈ es, Ok w e.key ∧ e.key ≠ key) : (Instr.findKey k key es).run P w = .ok none w := by
  obtain ⟨d, hd, hn⟩ := K.desc
  cases es with
  | nil => simp [Instr.findKey, run_underlying hd, Instr.findNow]
  | cons e es => simp [Instr.findKey, run_underlying hd, Instr.findNow, hn, ask_not K hk (e :: es) 0 h]
theorem find_hit {P : Program} {k : TypeId} {Ok : World → Value → Prop} (K : KeyedBy P k Ok) {w : World} {key : Value} (hk : Ok w key) {e : MapEntry} (he : e.key = key) (l1 l2 : List MapEntry) (h : ∀ e ∈ l1, Ok w e.key ∧ e.key ≠ key) : (Instr.findKey k key (l1 ++ e :: l2)).run P w = .ok (some (l1.length, e.val)) w := by
  obtain ⟨d, hd, hn⟩ := K.desc
  have := ask_hit K hk he l2 l1 0 h
  rw [Nat.zero_add] at this
  have hnow : Instr.findNow d key (l1 ++ e :: l2) 0 = none := by
    cases l1 <;> simp [Instr.findNow, hn]
  simp [Instr.findKey, run_underlying hd, hnow, this]
theorem look_not {P : Program} {k : TypeId} {Ok : World → Value → Prop} (K : KeyedBy P k Ok) {w : World} {key : Value} {t e : TypeId} (ht : P.underlying t = some (.map k e)) {b : Nat} {es : Array MapEntry} {clock : Nat} (hb : w.heap[b]? = some (.map es clock)) (hk : Ok w key) (h : ∀ x ∈ es.toList, Ok w x.key ∧ x.key ≠ key) {z : Value} (hz : (zeroValue e).run P w = .ok z w) : (Instr.lookup t (.map (some b)) key true).run P w = .ok (.tuple #[z, .bool false]) w := by
  simp [Instr.lookup, run_underlying ht, MapKept.run_getObj_map hb, K.check w _ hk, find_not K hk es.toList h, hz, Result.andThen]
theorem look_hit {P : Program} {k : TypeId} {Ok : World → Value → Prop} (K : KeyedBy P k Ok) {w : World} {key : Value} {t e : TypeId} (ht : P.underlying t = some (.map k e)) {b : Nat} {es : Array MapEntry} {clock : Nat} (hb : w.heap[b]? = some (.map es clock)) (hk : Ok w key) {x : MapEntry} (hx : x.key = key) {l1 l2 : List MapEntry} (he : es.toList = l1 ++ x :: l2) (h : ∀ x ∈ l1, Ok w x.key ∧ x.key ≠ key) : (Instr.lookup t (.map (some b)) key true).run P w = .ok (.tuple #[x.val, .bool true]) w := by
  simp [Instr.lookup, run_underlying ht, MapKept.run_getObj_map hb, K.check w _ hk, he, find_hit K hk hx l1 l2 h, Result.andThen]
theorem put_new {P : Program} {k : TypeId} {Ok : World → Value → Prop} (K : KeyedBy P k Ok) {w : World} {key : Value} {t e : TypeId} (ht : P.underlying t = some (.map k e)) {b : Nat} {es : Array MapEntry} {clock : Nat} (hb : w.heap[b]? = some (.map es clock)) (hk : Ok w key) (h : ∀ x ∈ es.toList, Ok w x.key ∧ x.key ≠ key) (val : Value) : (Instr.mapUpdate t (.map (some b)) key val).run P w = .ok () { w with heap := w.heap.setIfInBounds b (.map (es.push ⟨key, val, clock⟩) (clock + 1)) } := by
  simp [Instr.mapUpdate, run_underlying ht, MapKept.run_getObj_map hb, K.check w _ hk, find_not K hk es.toList h, MapKept.run_setObj_map _ hb, Result.andThen]
theorem drop_last {P : Program} {k : TypeId} {Ok : World → Value → Prop} (K : KeyedBy P k Ok) {w : World} {key : Value} {t e : TypeId} (ht : P.underlying t = some (.map k e)) {b : Nat} {es : Array MapEntry} {clock : Nat} {x : MapEntry} (hb : w.heap[b]? = some (.map (es.push x) clock)) (hk : Ok w key) (hx : x.key = key) (h : ∀ x ∈ es.toList, Ok w x.key ∧ x.key ≠ key) (ty : TypeId) :
    (Builtin.delete_ #[t, k] ty #[.map (some b), key]).run P w = .ok (.tuple #[]) { w with heap := w.heap.setIfInBounds b (.map es clock) } := by
  have hf := find_hit K hk hx es.toList [] h
  have e0 : (es.push x).toList = es.toList ++ [x] := Array.toList_push
  have e1 : (es.push x).eraseIdxIfInBounds es.toList.length = es := by
    apply Array.ext'
    unfold Array.eraseIdxIfInBounds
    rw [dif_pos (by simp)]
    simp [List.eraseIdx_append_of_length_le]
  simp only [Builtin.delete_, Sem.run_bind, run_underlying ht, MapKept.run_getObj_map hb, K.check w _ hk, e0, hf, MapKept.run_setObj_map _ hb, Result.andThen_ok, e1, Sem.run_pure, List.getElem?_toArray, List.getElem?_cons_zero, List.getElem?_cons_succ]
/-- A spot that may be held against others. -/
def OkS (w : World) (v : Value) : Prop := ∃ p l, v = spotV p l ∧ FreeP w p
theorem keyed_spot : KeyedBy Try.prog 87 OkS where
  desc := ⟨_, Try.underlying87, fun a b => by cases a <;> cases b <;> rfl⟩
  check := fun w em v ⟨p, l, hv, _⟩ => by subst hv; kernel_rfl
  eq := fun w a b ⟨p, l, ha, hp⟩ ⟨q, m, hb, hq⟩ => by
    subst ha hb
    refine ⟨_, spot_equal (l1 := l) (l2 := m) hp hq 9998, ?_⟩
    rw [decide_eq_true_eq]
    constructor
    · rintro ⟨rfl, rfl⟩; rfl
    · intro h
      unfold spotV at h
      injection h with h
      simp only [Array.mk.injEq, List.cons.injEq, Value.pointer.injEq, Value.int.injEq, true_and, and_true] at h
      exact ⟨h.1, by omega⟩
/-- Two spots, side by side. -/
def spots2 (p : Option Addr) (l : Nat) (q : Option Addr) (m : Nat) : Value := .agg #[.pointer p, .int .i64 (l : Int), .pointer q, .int .i64 (m : Int)]
def OkS2 (w : World) (v : Value) : Prop := ∃ p l q m, v = spots2 p l q m ∧ FreeP w p ∧ FreeP w q
theorem spots_equal {w : World} {p q p' q' : Option Addr} {l m l' m' : Nat} (h1 : FreeP w p) (h2 : FreeP w q) (h3 : FreeP w p') (h4 : FreeP w q') (d : Nat) : (Op.equalIn (d + 3) 89 (spots2 p l q m) (spots2 p' l' q' m')).run Try.prog w = .ok (decide ((p = p' ∧ l = l') ∧ q = q' ∧ m = m')) w := by
  have e1 := spot_equal (l1 := l) (l2 := l') h1 h3 d
  have e2 := spot_equal (l1 := m) (l2 := m') h2 h4 d
  have a0 : ∀ a b c d : Value, (part 87 #[a, b, c, d] 0).run Try.prog w = .ok (.agg #[a, b]) w := fun a b c d => by kernel_rfl
  have a1 : ∀ a b c d : Value, (part 87 #[a, b, c, d] 2).run Try.prog w = .ok (.agg #[c, d]) w := fun a b c d => by kernel_rfl
  unfold spotV at e1 e2
  unfold spots2
  obtain ⟨i, hi⟩ : ∃ i, Try.prog.info? 87 = some i := by
    cases h : Try.prog.info? 87 with
    | none => have : (Try.prog.info? 87).isSome = true := by kernel_rfl
              rw [h] at this; cases this
    | some i => exact ⟨i, rfl⟩
  have hc : Try.prog.cellsOf 87 = 2 := by kernel_rfl
  rw [run_equalIn_array w (d + 2) _ _ Try.underlying89 hi, hc, show List.range 2 = [0, 1] from rfl]
  simp only [Op.eqItems, Sem.run_bind, Nat.zero_mul, Nat.one_mul, a0, a1, e1, e2, Result.andThen_ok, Sem.run_ite, Sem.run_pure]
  by_cases a : p = p' ∧ l = l'
  · by_cases b : q = q' ∧ m = m' <;> simp [a, b]
  · simp [a]
theorem keyed_spots : KeyedBy Try.prog 89 OkS2 where
  desc := ⟨_, Try.underlying89, fun a b => by cases a <;> cases b <;> rfl⟩
  check := fun w em v ⟨p, l, q, m, hv, _⟩ => by subst hv; kernel_rfl
  eq := fun w a b ⟨p, l, q, m, ha, hp, hq⟩ ⟨p', l', q', m', hb, hp', hq'⟩ => by
    subst ha hb
    refine ⟨_, spots_equal (l := l) (m := m) (l' := l') (m' := m') hp hq hp' hq' 9997, ?_⟩
    rw [decide_eq_true_eq]
    constructor
    · rintro ⟨⟨rfl, rfl⟩, rfl, rfl⟩; rfl
    · intro h
      unfold spots2 at h
      injection h with h
      simp only [Array.mk.injEq, List.cons.injEq, Value.pointer.injEq, Value.int.injEq, true_and, and_true] at h
      exact ⟨⟨h.1, by omega⟩, h.2.2.1, by omega⟩
end Go.Proofs.Ytgkdeakbokgfgaa
