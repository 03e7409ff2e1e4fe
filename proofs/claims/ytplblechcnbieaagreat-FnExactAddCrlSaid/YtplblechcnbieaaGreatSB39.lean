/-
  Texts of the proof.
-/
import Derived.Test.YtplblechcnbieaaGreatSB38
namespace Go.Proofs.YtplblechcnbieaaGreat
open Go.RowKit
set_option linter.unusedVariables false
theorem okO_of {s : So} (hz : wtO s <= 1048576) (wd : WdO s) : OkO s := by
 unfold wtO at hz
 have h1 : wtM s.certs = s.certs.length + (s.certs.map wtC).sum := rfl
 have h2 : wtS s.crls = s.crls.length + (s.crls.map wtL).sum := rfl
 have h3 : wtN s.ancs = s.ancs.length + (s.ancs.map wtA).sum := rfl
 exact ⟨⟨by omega, by omega, by omega⟩, fun c hc => ⟨by have := wtM_mem hc; omega, wd.1.1 c hc⟩, fun c hc => ⟨by have := wtS_mem hc; omega, wd.2.1.1 c hc⟩, fun c hc => by have := wtN_mem hc; omega⟩
theorem okO_crl {s : So} {c : Cl} (h : OkO s) (hl : s.crls.length <= 1048576) (hz : wtL c <= 1048576) (wd : WdL c) : OkO (addCrl s c) := by
 refine ⟨⟨h.1.1, by unfold addCrl; simp; omega, h.1.2.2⟩, h.2.1, fun x hx => ?_, h.2.2.2⟩
 rcases List.mem_append.1 (show x ∈ s.crls ++ [c] from hx) with hx | hx
 ·exact h.2.2.1 x hx
 ·rw [List.mem_singleton.1 hx]; exact ⟨hz, wd⟩
def Lim (s : So) : Prop := wtM s.certs <= 1048577 /\ wtS s.crls <= 1048576 + 1 /\ wtN s.ancs <= 1048577
theorem wtS_app (l : List Cl) (c : Cl) : wtS (l ++ [c]) = wtS l + (1 + wtL c) := by unfold wtS; simp; omega
theorem lim_crl {s : So} {c : Cl} (h : wtO s + wtL c <= 1048576) : (1 = 1) -> Lim (ltS s (addCrl s c)) /\ wtO (ltS s (addCrl s c)) <= 1048577 := by
 intro _
 have h1 := wtS_app s.crls c
 unfold ltS
 unfold wtO at h
 split
 ·refine ⟨⟨?_, ?_, ?_⟩, ?_⟩ <;> unfold addCrl <;> (try unfold wtO) <;> dsimp only <;> omega
 ·refine ⟨⟨?_, ?_, ?_⟩, ?_⟩ <;> (try unfold wtO) <;> omega
end Go.Proofs.YtplblechcnbieaaGreat
