/-
  ReadItem of both, said so that a chain of calls can go on; sameness goes from item to item.
-/
import Derived.Test.YtgkdeakbokgfgaaKpD
import Derived.Test.YtgkdeakbokgfgaaJtD
import Derived.Test.YtgkdeakbokgfgaaJtO
import Derived.Test.YtgkdeakbokgfgaaItY
import Derived.Test.YtgkdeakbokgfgaaItS
namespace Go.Proofs.Ytgkdeakbokgfgaa
open Go.RowKit Der
set_option linter.unusedVariables false

theorem same_trans : ∀ (n m k : Nat) (x : It n) (y : It m) (z : It k), sameI n m x y = true → sameI m k y z = true → sameI n k x z = true
  | 0, _, _, _, _, _, h, _ => by simp [sameI] at h
  | _ + 1, 0, _, _, _, _, h, _ => by simp [sameI] at h
  | _ + 1, _ + 1, 0, _, _, _, _, h => by simp [sameI] at h
  | n + 1, m + 1, k + 1, x, y, z, h, h' => by
    obtain ⟨h1, h2, h3, h4⟩ := same_parts h
    obtain ⟨g1, g2, g3, g4⟩ := same_parts h'
    show (decide (It.tag x = It.tag z) && decide (It.text x = It.text z) && decide ((It.kids x).length = (It.kids z).length) && ((It.kids x).zip (It.kids z)).all fun p => sameI n k p.1 p.2) = true
    rw [h1, g1, h2, g2, h3, g3, same_all (h3.trans g3) fun j a b => ?_]
    · simp
    · refine same_trans n m k _ ((It.kids y)[j]'(by omega)) _ (h4 ((It.kids x)[j], (It.kids y)[j]'(by omega)) ?_) (g4 ((It.kids y)[j]'(by omega), (It.kids z)[j]) ?_)
      · rw [List.mem_iff_getElem]
        exact ⟨j, by rw [List.length_zip]; omega, by simp⟩
      · rw [List.mem_iff_getElem]
        exact ⟨j, by rw [List.length_zip]; omega, by simp⟩
theorem same_written {n m : Nat} {x : It n} {y : It m} {t : List UInt8} (hx : writeI n x = some t) (hy : writeI m y = some t) : sameI n m x y = true := by
  obtain ⟨a, h1, h2⟩ := read_back hx
  obtain ⟨b, h3, h4⟩ := read_back hy
  rw [h2] at h4
  injection h4 with h4
  subst h4
  exact same_trans n 7 m x a y h1 (same_comm m 7 y a h3)
/-- An item that a call laid, with all that is below it. -/
def Own (W : World) (n : Nat) (t s k : Value) (x : It (n + 1)) : Prop := ItAt W (n + 1) (.agg #[t, s, k]) x ∧ FrK W n k (It.kids x)
theorem Own.below {W W' : World} {n : Nat} {t s k : Value} {x : It (n + 1)} (h : Own W n t s k x) (hb : Below W.heap.size W W') : Own W' n t s k x := ⟨ItAt.below hb h.1, h.2.below hb⟩
/-- What the program's ReadItem answers. -/
def Rd2 (T : ByteArray) (w : World) (e : Ending) (w' : World) : Prop := ∃ (n : Nat) (x : It (n + 1)) (t : Int) (s : ByteArray) (ax : Option Addr) (l cx : Nat), e = .returned (.tuple #[.agg #[.int .i64 t, .string s, .slice ax l cx], .bool (readI T.data.toList).isSome]) ∧ Own w' n (.int .i64 t) (.string s) (.slice ax l cx) x ∧ szI (n + 1) x ≤ 10000000 ∧ ((readI T.data.toList).isSome = true → writeI (n + 1) x = some T.data.toList) ∧ Below w.heap.size w w'
theorem zero_own (w : World) : Own w 0 (.int .i64 0) (.string ⟨#[]⟩) (.slice none 0 0) (It.mk 0 [] ([] : List (It 0))) := ⟨⟨.slice none 0 0, rfl, (own_nil w 0 0).at⟩, (own_nil w 0 0).free⟩
theorem read2_any (T : ByteArray) (w : World) (hT : T.size ≤ 1000000000000) : Calls Try.prog 44 #[.string T] w fun e w' => Rd2 T w e w' := by
  refine (implRead_any 4000 (Nat.le_refl _) T w hT).mono ?_
  rintro e w' ⟨hb, ⟨ho, rfl⟩ | ⟨x, t, s, ax, l, cx, fp, ho, rfl, hz, ht, hs, hown⟩⟩
  · have h := (readG_none (by decide) T.data.toList).1 ho
    exact ⟨0, It.mk 0 [] [], 0, ⟨#[]⟩, none, 0, 0, by rw [h]; rfl, zero_own w', by decide, (fun q => by rw [h] at q; cases q), hb⟩
  · obtain ⟨y, _, hy⟩ := readG_same ho
    refine ⟨4000, x, t, s, ax, l, cx, by rw [hy]; rfl, ⟨?_, hown.free⟩, by omega, fun _ => readG_some ho, hb⟩
    rw [← ht, ← hs]
    exact ⟨_, rfl, hown.at⟩
theorem spec2_any (T : ByteArray) (w : World) (hT : T.size ≤ 1000000000000) : Calls Try.prog 46 #[.string T] w fun e w' => (∃ (t : Int) (s : ByteArray) (ax : Option Addr) (l cx : Nat), e = .returned (.tuple #[.agg #[.int .i64 t, .string s, .slice ax l cx], .bool (readI T.data.toList).isSome])) ∧ Below w.heap.size w w' := by
  refine (specRead_any T w hT).mono ?_
  rintro e w' ⟨hb, ⟨ho, rfl⟩ | ⟨x, t, s, ax, l, cx, fp, ho, rfl, hz, ht, hs, hown⟩⟩
  · exact ⟨⟨0, ⟨#[]⟩, none, 0, 0, by rw [ho]; rfl⟩, hb⟩
  · exact ⟨⟨t, s, ax, l, cx, by rw [ho]; rfl⟩, hb⟩
theorem own_draw {w w' : World} {x : It 10} {ax : Option Addr} {l cx : Nat} {fp : List Nat} (h : OwnK w' w.heap.size 9 (.slice ax l cx) (It.kids x) fp) : Own w' 9 (.int .i64 (It.tag x)) (.string ⟨(It.text x).toArray⟩) (.slice ax l cx) x := ⟨⟨_, rfl, h.at⟩, h.free⟩
theorem txt_pos (n : Nat) (x : It (n + 1)) : 0 < (txtI (n + 1) x).length := by
  unfold txtI
  simp
end Go.Proofs.Ytgkdeakbokgfgaa
