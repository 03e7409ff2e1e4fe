/-
  Texts of the proof.
-/
import Derived.Deep.RegionHeld3
import Derived.Test.YtmmbioflmglbdaaRA20
import Derived.Test.YtmmbioflmglbdaaRA22
namespace Go.Proofs.Ytmmbioflmglbdaa
open Go.RowKit Der
set_option linter.unusedVariables false
theorem sz_lst {n : Nat} (ks : List (It n)) : szI (n + 1) (lstJ ks) = ks.length + (ks.map (szI n)).sum := by
 show 0 + ks.length + (ks.map (szI n)).sum = _
 omega
theorem sz_int {n : Nat} (x : Int) : szI (n + 1) (intI x) <= 5 := by
 have h := intT_ok (numN_le x)
 unfold plainOk at h
 rw [if_neg (by decide), if_pos rfl] at h
 simp only [Bool.and_eq_true, decide_eq_true_eq] at h
 show (intT (numN x)).length + 0 + 0 <= 5
 omega
theorem sz_byt {n : Nat} (s : ByteArray) : szI (n + 1) (bytJ s) = s.size := rfl
def askI (c : Ak) : It 3 := lstJ [lstJ (c.tg.map bytJ), intI c.plan, intI c.want, intI c.nonce, intI c.time, flagJ c.cac]
theorem sz_byts {n : Nat} : ∀ l : List ByteArray, l.length + ((l.map (bytJ (n := n))).map (szI (n + 1))).sum = totT l
 | [] => rfl
 | x :: l => by
  have h1 := sz_byts (n := n) l
  have h2 := sz_byt (n := n) x
  simp only [List.map_cons, List.sum_cons, List.length_cons, totT]
  omega
theorem sz_ask {c : Ak} (h : wtAk c <= 1048576) : szI 3 (askI c) <= 8000000 := by
 unfold wtAk at h
 have a1 : szI 2 (intI c.plan) <= 5 := sz_int c.plan
 have a2 : szI 2 (intI c.want) <= 5 := sz_int c.want
 have a3 : szI 2 (intI c.nonce) <= 5 := sz_int c.nonce
 have a4 : szI 2 (intI c.time) <= 5 := sz_int c.time
 have a5 : szI 2 (flagJ c.cac) = 1 := rfl
 have e : c.tg.length + ((c.tg.map bytJ).map (szI 1)).sum = totT c.tg := sz_byts (n := 0) c.tg
 unfold askI
 rw [sz_lst]
 simp only [List.map_cons, List.map_nil, List.sum_cons, List.sum_nil, List.length_cons, List.length_nil]
 rw [sz_lst]
 simp only [List.length_map]
 omega
theorem ask_row {W W' : World} {b : Nat} {c : Ak} {kT : Value} {fT : List Nat} {FL : ByteArray} (hFL : FL = ⟨[if c.cac then 255 else 0].toArray⟩) (hT : OwnK W b 1 kT (It.kids (n := 1) (lstJ (c.tg.map bytJ))) fT) (hb : b <= W.heap.size)
  (hW : W' = W.alloc (.cells #[.int .i64 48, .string ⟨#[]⟩, kT, .int .i64 2, .string ⟨(intT (numN c.plan)).toArray⟩, .slice none 0 0, .int .i64 2, .string ⟨(intT (numN c.want)).toArray⟩, .slice none 0 0, .int .i64 2, .string ⟨(intT (numN c.nonce)).toArray⟩, .slice none 0 0, .int .i64 2, .string ⟨(intT (numN c.time)).toArray⟩, .slice none 0 0, .int .i64 1, .string FL, .slice none 0 0] 47)) :
  ∃ fp, OwnK W' b 2 (.slice (some ⟨W.heap.size, 0, none⟩) 6 6) (It.kids (askI c)) fp := by
 subst hFL
 have nn := own_none W b 1
 have R : RowsK W b 1 (It.kids (askI c)) [kT, .slice none 0 0, .slice none 0 0, .slice none 0 0, .slice none 0 0, .slice none 0 0] [fT, [], [], [], [], []] := ⟨hT, nn, nn, nn, nn, nn, trivial⟩
 refine (R.grow (cap := 6) hb (by have := hT.nodup; simpa using this) (by show 6 <= 1000; decide) rfl ?_).own
 rw [hW]
 rfl
def KQ (w W : World) (a : Array Value) : Prop := Below w.heap.size w W /\ Blk W w.heap.size 27 a
theorem KQ.below {w W W' : World} {a : Array Value} (h : KQ w W a) (hb : Below W.heap.size W W') : KQ w W' a := ⟨h.1.trans (hb.mono h.1.size), h.2.below hb h.2.lt⟩
theorem KQ.start {w W : World} {a : Array Value} (hW : W = w.alloc (Obj.cells a 27)) : KQ w W a := by rw [hW]; exact ⟨(Below.refl _ _).alloc (Nat.le_refl _) _, Blk.new w _ _⟩
theorem flagFK {P : Program} {f : Nat} {a : Array Value} {w : World} {c : Ak} {FL : ByteArray} (E : Calls P f a w fun e w' => e = .returned (.agg #[.int .i64 1, .string ⟨[if c.cac then 255 else 0].toArray⟩, .slice none 0 0]) /\ Below w.heap.size w w') (h : FL = ⟨[if c.cac then 255 else 0].toArray⟩) :
  Calls P f a w fun e w' => e = .returned (.agg #[.int .i64 1, .string FL, .slice none 0 0]) /\ Below w.heap.size w w' := by
 rw [h]; exact E
end Go.Proofs.Ytmmbioflmglbdaa
