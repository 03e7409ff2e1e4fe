/-
  BodyText and CertText of both: the bytes of what is signed, and of a letter.
-/
import Derived.Test.YtbiiihjohbnodaaCrQ
import Derived.Test.YtbiiihjohbnodaaCrS
import Derived.Test.YtbiiihjohbnodaaCrT
import Derived.Test.YtbiiihjohbnodaaCrL
import Derived.Test.YtbiiihjohbnodaaItY
import Derived.Test.YtbiiihjohbnodaaItL
import Derived.Test.YtbiiihjohbnodaaItT
import Derived.Test.YtbiiihjohbnodaaSiI
import Derived.Test.YtbiiihjohbnodaaSzP
namespace Go.Proofs.Ytbiiihjohbnodaa
open Go.RowKit Der
set_option linter.unusedVariables false

theorem sz_body {c : Ct} (h : wtC c ≤ 1048576) : szI 3 (bodyC c) ≤ 8000000 := by
  unfold wtC at h
  have a0 : szI 2 (intI c.serial) ≤ 5 := sz_int c.serial
  have a6 : szI 2 (intI c.pathLen) ≤ 5 := sz_int c.pathLen
  have a7 : szI 2 (intI c.usage) ≤ 5 := sz_int c.usage
  have f : szI 1 (intI c.frm) ≤ 5 := sz_int c.frm
  have u : szI 1 (intI c.upto) ≤ 5 := sz_int c.upto
  have p : ((c.pol.map intI).map (szI 1)).sum ≤ 5 * c.pol.length := sz_ints (n := 0) c.pol
  have e : c.per.length + ((c.per.map txtJ).map (szI 1)).sum = totT c.per := sz_txts (n := 0) c.per
  have d : c.den.length + ((c.den.map txtJ).map (szI 1)).sum = totT c.den := sz_txts (n := 0) c.den
  have t1 : szI 2 (txtJ c.issuer) = c.issuer.size := rfl
  have t3 : szI 2 (txtJ c.subject) = c.subject.size := rfl
  have t4 : szI 2 (bytJ c.key) = c.key.size := rfl
  have t5 : szI 2 (flagJ c.ca) = 1 := rfl
  unfold bodyC
  rw [sz_lst]
  simp only [List.map_cons, List.map_nil, List.sum_cons, List.sum_nil, List.length_cons, List.length_nil]
  rw [sz_lst, sz_lst, sz_lst, sz_lst]
  simp only [List.map_cons, List.map_nil, List.sum_cons, List.sum_nil, List.length_cons, List.length_nil, List.length_map]
  omega
theorem sz_cert {c : Ct} (h : wtC c ≤ 1048576) : szI 4 (certI c) ≤ 20000000 := by
  have hb := sz_body h
  have hs := (wt_parts h).2.2.2.2.2.2.1
  have t : szI 3 (bytJ c.sig) = c.sig.size := rfl
  unfold certI
  rw [sz_lst]
  simp only [List.map_cons, List.map_nil, List.sum_cons, List.sum_nil, List.length_cons, List.length_nil]
  omega
/-- The bytes of a letter, if it is right and not too great. -/
def ctxt (c : Ct) : Option (List UInt8) := if certOk c = true then writeI 4 (certI c) else none
theorem to_body {w w' : World} {c : Ct} {e : Ending} (h : ToIt w 2 (bodyC c) e w') : ∃ (a : Option Addr) (l cx : Nat) (fp : List Nat), e = .returned (.agg #[.int .i64 48, .string ⟨#[]⟩, .slice a l cx]) ∧ OwnK w' w.heap.size 2 (.slice a l cx) (It.kids (bodyC c)) fp ∧ Below w.heap.size w w' := by
  obtain ⟨k, fp, rfl, ho, hb⟩ := h
  obtain ⟨a, cx, rfl⟩ := ho.shape
  exact ⟨a, _, cx, fp, rfl, ho, hb⟩
theorem cert_row {W W' : World} {b : Nat} {c : Ct} {k : Value} {fp : List Nat} (h : OwnK W b 2 k (It.kids (bodyC c)) fp) (hb : b ≤ W.heap.size)
    (hW : W' = W.alloc (.cells #[.int .i64 48, .string ⟨#[]⟩, k, .int .i64 4, .string c.sig, .slice none 0 0] 67)) : ItAt W' 4 (.agg #[.int .i64 48, .string ⟨#[]⟩, .slice (some ⟨W.heap.size, 0, none⟩) 2 2]) (certI c) := by
  have R : RowsK W b 2 (It.kids (certI c)) [k, .slice none 0 0] [fp, []] := ⟨h, own_none W b 2, trivial⟩
  obtain ⟨fq, hq⟩ := (R.grow (W' := W') (cap := 2) hb (by have := h.nodup; simpa using this) (by show 2 ≤ 1000; decide) rfl (by rw [hW]; rfl)).own
  exact ⟨_, rfl, hq.at⟩
end Go.Proofs.Ytbiiihjohbnodaa
