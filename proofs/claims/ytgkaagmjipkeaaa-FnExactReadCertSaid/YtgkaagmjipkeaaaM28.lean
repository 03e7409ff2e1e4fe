/-
  Texts of the proof, one behind the other: ItN, JtB.
-/
import Derived.LaidEqlPtr
import Derived.Laws.StructEq
import Derived.ChangeKeysEq
import Derived.Test.YtgkaagmjipkeaaaM10
import Derived.Test.YtgkaagmjipkeaaaM13

/-
  The specification's l07Size.
-/
namespace Go.Proofs.Ytgkaagmjipkeaaa
open Go.RowKit Der
set_option linter.unusedVariables false

/-- What l07Size answers at a place. -/
def szAt (t : List UInt8) (p : Nat) : Option (Nat × Nat) := sizeL (t.drop p)
def szV (t : List UInt8) (p : Nat) : Value := match szAt t p with
  | none => .tuple #[.int .i64 0, .int .i64 0, .bool false]
  | some (z, c) => .tuple #[.int .i64 (z : Int), .int .i64 ((p + c : Nat) : Int), .bool true]
theorem szV_none {t : List UInt8} {p : Nat} (h : szAt t p = none) : szV t p = .tuple #[.int .i64 0, .int .i64 0, .bool false] := by unfold szV; rw [h]
theorem szV_some {t : List UInt8} {p z c : Nat} (h : szAt t p = some (z, c)) : szV t p = .tuple #[.int .i64 (z : Int), .int .i64 ((p + c : Nat) : Int), .bool true] := by unfold szV; rw [h]
set_option maxHeartbeats 1600000 in
set_option maxRecDepth 100000 in
theorem size_any (t : List UInt8) (p : Nat) (w : World) (ht : t.length ≤ 10000000) (hp : p ≤ 10000001) : Calls Try.prog 93 #[.string ⟨t.toArray⟩, .int .i64 (p : Int)] w fun e w' => e = .returned (szV t p) ∧ w' = w := by
  have hssz : (⟨t.toArray⟩ : ByteArray).size = t.length := by show t.toArray.size = _; simp
  by_cases hlt : p < t.length
  · have hlti : ¬ (t.length : Int) ≤ (p : Int) := by omega
    have hlti2 : (p : Int) < (t.length : Int) := by omega
    have hp0 : (0 : Int) ≤ (p : Int) := by omega
    obtain ⟨b, hbk⟩ : ∃ b, t[p] = b := ⟨_, rfl⟩
    have hgk : ∀ h, (⟨t.toArray⟩ : ByteArray)[p]'h = b := fun h => by rw [← hbk]; rfl
    have hdr : t.drop p = b :: t.drop (p + 1) := by rw [← hbk]; exact List.drop_eq_getElem_cons hlt
    have hbl := b.toNat_lt
    have w3' : IntKind.i64.wrap (b.toNat : Int) = (b.toNat : Int) := by rw [IntKind.wrap_i64]; omega
    by_cases h128 : b.toNat < 128
    · have h128i : (b.toNat : Int) < 128 := by omega
      have w4 : IntKind.i64.wrap ((p : Int) + 1) = ((p + 1 : Nat) : Int) := by rw [IntKind.wrap_i64]; omega
      have HR : Hid (szV t p = .tuple #[.int .i64 (b.toNat : Int), .int .i64 ((p + 1 : Nat) : Int), .bool true]) := szV_some (by unfold szAt; rw [hdr]; simp [sizeL, h128])
      go_enter Try.func93, Try.ntmps93
      go_wp2_with fail
      go_ret3
      exact ⟨by rw [HR.out]; rfl, rfl⟩
    · have h128i : ¬ (b.toNat : Int) < 128 := by omega
      obtain ⟨k, hk⟩ : ∃ k : Nat, b.toNat - 128 = k := ⟨_, rfl⟩
      have w5 : IntKind.i64.wrap ((b.toNat : Int) - 128) = (k : Int) := by rw [IntKind.wrap_i64]; omega
      have hki : (b.toNat : Int) - 128 = (k : Int) := by omega
      have hrl : (t.drop (p + 1)).length = t.length - p - 1 := by rw [List.length_drop]; omega
      by_cases hk12 : 1 ≤ k ∧ k ≤ 2
      · have w6 : IntKind.i64.wrap ((t.length : Int) - (p : Int)) = (t.length : Int) - (p : Int) := by rw [IntKind.wrap_i64]; omega
        have w7 : IntKind.i64.wrap ((t.length : Int) - (p : Int) - 1) = (t.length : Int) - (p : Int) - 1 := by rw [IntKind.wrap_i64]; omega
        by_cases hfit : k ≤ t.length - p - 1
        · have hfi : ¬ (t.length : Int) - (p : Int) - 1 < (k : Int) := by omega
          have HR0 : Hid (szAt t p = some (((t.drop (p + 1)).take k).foldl (fun a c => 256 * a + c.toNat) 0, 1 + k)) := by
            show szAt t p = _
            unfold szAt
            rw [hdr]
            unfold sizeL
            simp only
            rw [if_neg h128, hk, if_pos ⟨hk12.1, hk12.2, by rw [hrl]; exact hfit⟩]
          go_enter Try.func93, Try.ntmps93
          go_wp2_with fail
          refine (in_yes (k : Int) 1 2 _ (by omega) (by omega)).mono ?_
          rintro e w' ⟨rfl, rfl⟩
          go_wp2_with fail
          go_loopw [9, 10] (fun sv iv wr => ∃ (i q : Nat), i ≤ k ∧ sv = .int .i64 (q : Int) ∧ iv = .int .i64 (i : Int) ∧ q < 65536 ∧ wr = w ∧ Hid (q = valB8 ((t.drop (p + 1)).take i))) (fun _ iv _ => k - (intOf iv).toNat)
          case atStart => exact ⟨0, 0, Nat.zero_le _, rfl, rfl, by omega, rfl, rfl⟩
          case round =>
            obtain ⟨i, q, hi, rfl, rfl, hq, rfl, HQ⟩ := hrel
            by_cases hik : i < k
            · have hiki : (i : Int) < (k : Int) := by omega
              have hd1 : i < (t.drop (p + 1)).length := by rw [hrl]; omega
              obtain ⟨z, hz⟩ : ∃ z, z = p + 1 + i := ⟨_, rfl⟩
              have hzl : z < t.length := by omega
              obtain ⟨c, hc⟩ : ∃ c, t[z] = c := ⟨_, rfl⟩
              have hgc : ∀ h, (⟨t.toArray⟩ : ByteArray)[z]'h = c := fun h => by rw [← hc]; rfl
              have hdc : (t.drop (p + 1))[i] = c := by rw [List.getElem_drop, ← hc]; congr 1; exact hz.symm
              have hcl := c.toNat_lt
              have hvt := valB8_take hd1
              rw [hdc, ← HQ.out] at hvt
              have hv := valB8_lt (i + 1) ((t.drop (p + 1)).take (i + 1)) (by rw [List.length_take]; omega)
              have hpw : (256 : Nat) ^ (i + 1) ≤ 256 ^ 2 := Nat.pow_le_pow_right (by decide) (by omega)
              rw [hvt] at hv
              have hq2 : 256 * q + c.toNat < 65536 := by
                have : (256 : Nat) ^ 2 = 65536 := by decide
                omega
              have HV : Hid (256 * q + c.toNat = valB8 ((t.drop (p + 1)).take (i + 1))) := hvt.symm
              have v1 : IntKind.i64.wrap ((p : Int) + 1) = (p : Int) + 1 := by rw [IntKind.wrap_i64]; omega
              have v2 : IntKind.i64.wrap ((p : Int) + 1 + (i : Int)) = (z : Int) := by rw [IntKind.wrap_i64]; omega
              have v3 : IntKind.i64.wrap (c.toNat : Int) = (c.toNat : Int) := by rw [IntKind.wrap_i64]; omega
              have v4 : (z : Int) < (t.length : Int) := by omega
              have v5 : (0 : Int) ≤ (z : Int) := by omega
              have v6 : (p : Int) + 1 + (i : Int) = (z : Int) := by omega
              clear hc hdc hvt hv hpw HQ hz
              go_wp2_with fail
              go_roundw
              case rel => exact ⟨i + 1, 256 * q + c.toNat, by omega, by go_num, by go_num, hq2, by trivial, HV.out⟩
              case measure => simp [intOf]; omega
            · have hiki : ¬ (i : Int) < (k : Int) := by omega
              have hie : i = k := by omega
              subst hie
              have HR : Hid (szV t p = .tuple #[.int .i64 (q : Int), .int .i64 ((p + (1 + i) : Nat) : Int), .bool true]) := szV_some (by rw [HR0.out, HQ.out]; rfl)
              have v1 : IntKind.i64.wrap ((p : Int) + 1) = (p : Int) + 1 := by rw [IntKind.wrap_i64]; omega
              have v2 : IntKind.i64.wrap ((p : Int) + 1 + (i : Int)) = ((p + (1 + i) : Nat) : Int) := by rw [IntKind.wrap_i64]; omega
              obtain ⟨z, hz⟩ : ∃ z : Nat, p + (1 + i) = z := ⟨_, rfl⟩
              rw [hz] at HR v2
              have v6 : (p : Int) + 1 + (i : Int) = (z : Int) := by omega
              clear hz
              go_wp2_with fail
              go_ret3
              exact ⟨by rw [HR.out]; rfl, rfl⟩
        · have hfi : (t.length : Int) - (p : Int) - 1 < (k : Int) := by omega
          have HR : Hid (szV t p = .tuple #[.int .i64 0, .int .i64 0, .bool false]) := szV_none (by
            unfold szAt
            rw [hdr]
            unfold sizeL
            simp only
            rw [if_neg h128, hk, if_neg (fun h => hfit (by rw [hrl] at h; exact h.2.2))])
          go_enter Try.func93, Try.ntmps93
          go_wp2_with fail
          refine (in_yes (k : Int) 1 2 _ (by omega) (by omega)).mono ?_
          rintro e w' ⟨rfl, rfl⟩
          go_wp2_with fail
          go_ret3
          exact ⟨by rw [HR.out]; rfl, rfl⟩
      · have HR : Hid (szV t p = .tuple #[.int .i64 0, .int .i64 0, .bool false]) := szV_none (by
          unfold szAt
          rw [hdr]
          unfold sizeL
          simp only
          rw [if_neg h128, hk, if_neg (fun h => hk12 ⟨h.1, h.2.1⟩)])
        go_enter Try.func93, Try.ntmps93
        go_wp2_with fail
        refine (in_no (k : Int) 1 2 _ (by omega)).mono ?_
        rintro e w' ⟨rfl, rfl⟩
        go_wp2_with fail
        go_ret3
        exact ⟨by rw [HR.out]; rfl, rfl⟩
  · have hlti : (t.length : Int) ≤ (p : Int) := by omega
    have HR : Hid (szV t p = .tuple #[.int .i64 0, .int .i64 0, .bool false]) := szV_none (by unfold szAt; rw [List.drop_of_length_le (by omega)]; rfl)
    go_enter Try.func93, Try.ntmps93
    go_wp2_with fail
    go_ret3
    exact ⟨by rw [HR.out]; rfl, rfl⟩
end Go.Proofs.Ytgkaagmjipkeaaa

/-
  Spots: where a row of items lies, as a key of a map.
-/
namespace Go.Proofs.Ytgkaagmjipkeaaa
open Go.RowKit Der
set_option linter.unusedVariables false

/-- A block of cells that nobody has frozen. -/
def Free (w : World) (g : Nat) : Prop := ∃ cur t, w.heap[g]? = some (.cells cur t (0, 0))
def FreeP (w : World) (p : Option Addr) : Prop := ∀ a, p = some a → Free w a.block
def spotV (p : Option Addr) (l : Nat) : Value := .agg #[.pointer p, .int .i64 (l : Int)]
theorem infoItem1 : ∃ i, Try.prog.info? 34 = some i ∧ i.size = 3 := by
  obtain ⟨i, h, _, h2, _⟩ := infoItem_parts
  exact ⟨i, h, h2⟩
/-- What a map asks of its keys: they may be held against each other, and are the same just when they are one. -/
structure KeyedBy (P : Program) (k : TypeId) (Ok : World → Value → Prop) : Prop where
  desc : ∃ d, P.underlying k = some d ∧ ∀ a b, Instr.sameNow d a b = none
  check : ∀ (w : World) (em : Bool) {v : Value}, Ok w v → (Instr.checkKey em 10000 k v).run P w = .ok () w
  eq : ∀ (w : World) {a b : Value}, Ok w a → Ok w b → ∃ r, (Op.equal k a b).run P w = .ok r w ∧ (r = true ↔ a = b)
theorem ask_not {P : Program} {k : TypeId} {Ok : World → Value → Prop} (K : KeyedBy P k Ok) {w : World} {key : Value} (hk : Ok w key) : ∀ (es : List MapEntry) (i : Nat), (∀ e ∈ es, Ok w e.key ∧ e.key ≠ key) → (Instr.findAsking k key es i).run P w = .ok none w
  | [], i, _ => by simp [Instr.findAsking]
  | e :: es, i, h => by
    obtain ⟨h1, h2⟩ := h e (by simp)
    obtain ⟨r, hr, hiff⟩ := K.eq w hk h1
    have hf : r = false := by
      cases r with
      | false => rfl
      | true => exact absurd (hiff.1 rfl).symm h2
    subst hf
    simp [Instr.findAsking, hr, ask_not K hk es (i + 1) (fun e he => h e (by simp [he]))]
theorem ask_hit {P : Program} {k : TypeId} {Ok : World → Value → Prop} (K : KeyedBy P k Ok) {w : World} {key : Value} (hk : Ok w key) {e : MapEntry} (he : e.key = key) (l2 : List MapEntry) : ∀ (l1 : List MapEntry) (i : Nat), (∀ e ∈ l1, Ok w e.key ∧ e.key ≠ key) → (Instr.findAsking k key (l1 ++ e :: l2) i).run P w = .ok (some (i + l1.length, e.val)) w
  | [], i, _ => by
    obtain ⟨r, hr, hiff⟩ := K.eq w hk hk
    have ht : r = true := hiff.2 rfl
    subst ht
    simp [Instr.findAsking, he, hr]
  | e' :: l1, i, h => by
    obtain ⟨h1, h2⟩ := h e' (by simp)
    obtain ⟨r, hr, hiff⟩ := K.eq w hk h1
    have hf : r = false := by
      cases r with
      | false => rfl
      | true => exact absurd (hiff.1 rfl).symm h2
    subst hf
    have ih := ask_hit K hk he l2 l1 (i + 1) (fun e he => h e (by simp [he]))
    simp only [List.cons_append, Instr.findAsking, Sem.run_bind, hr, Result.andThen_ok, ih, Bool.false_eq_true, if_false, List.length_cons]
    congr 3
    omega
theorem find_not {P : Program} {k : TypeId} {Ok : World → Value → Prop} (K : KeyedBy P k Ok) {w : World} {key : Value} (hk : Ok w key) (es : List MapEntry) (h : ∀ e ∈ es, Ok w e.key ∧ e.key ≠ key) : (Instr.findKey k key es).run P w = .ok none w := by
  obtain ⟨d, hd, hn⟩ := K.desc
  cases es with
  | nil => simp [Instr.findKey, run_underlying hd, Instr.findNow]
  | cons e es => simp [Instr.findKey, run_underlying hd, Instr.findNow, hn, ask_not K hk (e :: es) 0 h]
theorem find_hit {P : Program} {k : TypeId} {Ok : World → Value → Prop} (K : KeyedBy P k Ok) {w : World} {key : Value} (hk : Ok w key) {e : MapEntry} (he : e.key = key) (l1 l2 : List MapEntry) (h : ∀ e ∈ l1, Ok w e.key ∧ e.key ≠ key) : (Instr.findKey k key (l1 ++ e :: l2)).run P w = .ok (some (l1.length, e.val)) w := by
  obtain ⟨d, hd, hn⟩ := K.desc
  have := ask_hit K hk he l2 l1 0 h
  rw [Nat.zero_add] at this
  have hnow : Instr.findNow d key (l1 ++ e :: l2) 0 = none := by
    cases l1 <;> simp [Instr.findNow, hn]
  simp [Instr.findKey, run_underlying hd, hnow, this]
theorem look_not {P : Program} {k : TypeId} {Ok : World → Value → Prop} (K : KeyedBy P k Ok) {w : World} {key : Value} {t e : TypeId} (ht : P.underlying t = some (.map k e)) {b : Nat} {es : Array MapEntry} {clock : Nat} (hb : w.heap[b]? = some (.map es clock)) (hk : Ok w key) (h : ∀ x ∈ es.toList, Ok w x.key ∧ x.key ≠ key) {z : Value} (hz : (zeroValue e).run P w = .ok z w) : (Instr.lookup t (.map (some b)) key true).run P w = .ok (.tuple #[z, .bool false]) w := by
  simp [Instr.lookup, run_underlying ht, MapKept.run_getObj_map hb, K.check w _ hk, find_not K hk es.toList h, hz, Result.andThen]
theorem look_hit {P : Program} {k : TypeId} {Ok : World → Value → Prop} (K : KeyedBy P k Ok) {w : World} {key : Value} {t e : TypeId} (ht : P.underlying t = some (.map k e)) {b : Nat} {es : Array MapEntry} {clock : Nat} (hb : w.heap[b]? = some (.map es clock)) (hk : Ok w key) {x : MapEntry} (hx : x.key = key) {l1 l2 : List MapEntry} (he : es.toList = l1 ++ x :: l2) (h : ∀ x ∈ l1, Ok w x.key ∧ x.key ≠ key) : (Instr.lookup t (.map (some b)) key true).run P w = .ok (.tuple #[x.val, .bool true]) w := by
  simp [Instr.lookup, run_underlying ht, MapKept.run_getObj_map hb, K.check w _ hk, he, find_hit K hk hx l1 l2 h, Result.andThen]
theorem put_new {P : Program} {k : TypeId} {Ok : World → Value → Prop} (K : KeyedBy P k Ok) {w : World} {key : Value} {t e : TypeId} (ht : P.underlying t = some (.map k e)) {b : Nat} {es : Array MapEntry} {clock : Nat} (hb : w.heap[b]? = some (.map es clock)) (hk : Ok w key) (h : ∀ x ∈ es.toList, Ok w x.key ∧ x.key ≠ key) (val : Value) : (Instr.mapUpdate t (.map (some b)) key val).run P w = .ok () { w with heap := w.heap.setIfInBounds b (.map (es.push ⟨key, val, clock⟩) (clock + 1)) } := by
  simp [Instr.mapUpdate, run_underlying ht, MapKept.run_getObj_map hb, K.check w _ hk, find_not K hk es.toList h, MapKept.run_setObj_map _ hb, Result.andThen]
theorem drop_last {P : Program} {k : TypeId} {Ok : World → Value → Prop} (K : KeyedBy P k Ok) {w : World} {key : Value} {t e : TypeId} (ht : P.underlying t = some (.map k e)) {b : Nat} {es : Array MapEntry} {clock : Nat} {x : MapEntry} (hb : w.heap[b]? = some (.map (es.push x) clock)) (hk : Ok w key) (hx : x.key = key) (h : ∀ x ∈ es.toList, Ok w x.key ∧ x.key ≠ key) (ty : TypeId) :
    (Builtin.delete_ #[t, k] ty #[.map (some b), key]).run P w = .ok (.tuple #[]) { w with heap := w.heap.setIfInBounds b (.map es clock) } := by
  have hf := find_hit K hk hx es.toList [] h
  have e0 : (es.push x).toList = es.toList ++ [x] := Array.toList_push
  have e1 : (es.push x).eraseIdxIfInBounds es.toList.length = es := by
    apply Array.ext'
    unfold Array.eraseIdxIfInBounds
    rw [dif_pos (by simp)]
    simp [List.eraseIdx_append_of_length_le]
  simp only [Builtin.delete_, Sem.run_bind, run_underlying ht, MapKept.run_getObj_map hb, K.check w _ hk, e0, hf, MapKept.run_setObj_map _ hb, Result.andThen_ok, e1, Sem.run_pure, List.getElem?_toArray, List.getElem?_cons_zero, List.getElem?_cons_succ]
/-- A spot that may be held against others. -/
def OkS (w : World) (v : Value) : Prop := ∃ p l, v = spotV p l ∧ FreeP w p
/-- Two spots, side by side. -/
def spots2 (p : Option Addr) (l : Nat) (q : Option Addr) (m : Nat) : Value := .agg #[.pointer p, .int .i64 (l : Int), .pointer q, .int .i64 (m : Int)]
def OkS2 (w : World) (v : Value) : Prop := ∃ p l q m, v = spots2 p l q m ∧ FreeP w p ∧ FreeP w q
end Go.Proofs.Ytgkaagmjipkeaaa
