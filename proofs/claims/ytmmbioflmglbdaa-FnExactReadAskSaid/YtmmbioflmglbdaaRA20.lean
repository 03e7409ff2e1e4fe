/-
  Texts of the proof.
-/
import Derived.Test.YtmmbioflmglbdaaRA19
namespace Go.Proofs.Ytmmbioflmglbdaa
open Go.RowKit Der
set_option linter.unusedVariables false
set_option linter.unusedSimpArgs false
def SzL {n : Nat} (ks : List (It n)) : Prop := ks.length <= 1000000 /\ ∀ y ∈ ks, szI n y <= 1000000
theorem SzL.tail {n : Nat} {y : It n} {r : List (It n)} (h : SzL (y :: r)) : SzL r := ⟨by have := h.1; rw [List.length_cons] at this; omega, fun z hz => h.2 z (by simp [hz])⟩
theorem SzL.kids {n : Nat} {y : It (n + 1)} {r : List (It (n + 1))} (h : SzL (y :: r)) : SzL (It.kids y) := by
 have h5 := szI_kid (t := It.tag y) (s := It.text y) (ks := It.kids y) (h.2 y (by simp))
 exact ⟨h5.2.1, h5.2.2⟩
theorem SzL.num {k : Nat} {ks r : List (It (k + 1))} {x : Int} (h : SzL ks) (hn : numP ks = some (x, r)) : SzL r := by
 obtain ⟨y, _, h1, _⟩ := num_some hn
 rw [h1] at h
 exact h.tail
theorem SzL.flg {k : Nat} {ks r : List (It (k + 1))} {x : Bool} (h : SzL ks) (hn : flgP ks = some (x, r)) : SzL r := by
 obtain ⟨y, h1, _⟩ := flg_some hn
 rw [h1] at h
 exact h.tail
theorem out_set {w : World} (b j : Nat) (v : Value) : Out [b] w (w.setCell ⟨b, j, none⟩ v) := (Out.refl _ _).setCell _ _ (by simp)
end Go.Proofs.Ytmmbioflmglbdaa
namespace Go.Proofs.Ytmmbioflmglbdaa
open Go.RowKit
set_option linter.unusedVariables false
structure Ak where
 tg : List ByteArray
 plan : Int
 want : Int
 nonce : Int
 time : Int
 cac : Bool
def akV (c : Ak) (p : Value) : Value := .agg #[p, .int .i64 c.plan, .int .i64 c.want, .int .i64 c.nonce, .int .i64 c.time, .bool c.cac]
def AkAt (w : World) (v : Value) (c : Ak) : Prop := ∃ p, v = akV c p /\ TxtAt w p c.tg
theorem AkAt.below {w w' : World} {v : Value} {c : Ak} (h : AkAt w v c) (hb : Below w.heap.size w w') : AkAt w' v c := by
 obtain ⟨p, hv, h1⟩ := h
 exact ⟨p, hv, h1.below hb⟩
theorem AkAt.shape {w : World} {v : Value} {c : Ak} (h : AkAt w v c) : ∃ p q, v = akV c (.slice p c.tg.length q) := by
 obtain ⟨pv, hv, ⟨p, q, h1, _⟩⟩ := h
 exact ⟨p, q, by rw [hv, h1]⟩
def OwnAk (w : World) (base : Nat) (v : Value) (c : Ak) : Prop := ∃ p, v = akV c p /\ OwnT w base p c.tg
theorem OwnAk.at {w : World} {base : Nat} {v : Value} {c : Ak} (h : OwnAk w base v c) : AkAt w v c := by
 obtain ⟨p, hv, h1⟩ := h
 exact ⟨p, hv, h1.at⟩
theorem OwnAk.stays {w w' : World} {base : Nat} {v : Value} {c : Ak} (h : OwnAk w base v c) (hb : Below w.heap.size w w') : OwnAk w' base v c := by
 obtain ⟨p, hv, h1⟩ := h
 exact ⟨p, hv, h1.stays hb⟩
theorem OwnAk.base {w : World} {b b' : Nat} {v : Value} {c : Ak} (h : OwnAk w b v c) (hb : b' <= b) : OwnAk w b' v c := by
 obtain ⟨p, hv, h1⟩ := h
 exact ⟨p, hv, h1.base hb⟩
def wtAk (c : Ak) : Nat := totT c.tg
def WdAk (c : Ak) : Prop := Wd [c.plan, c.want, c.nonce, c.time] /\ WdT c.tg /\ c.tg.length <= 9223372036854775807
end Go.Proofs.Ytmmbioflmglbdaa
