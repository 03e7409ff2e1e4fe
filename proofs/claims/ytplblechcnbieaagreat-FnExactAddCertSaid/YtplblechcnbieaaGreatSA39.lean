/-
  Texts of the proof.
-/
import Derived.Test.YtplblechcnbieaaGreatSA38
namespace Go.Proofs.YtplblechcnbieaaGreat
open Go.RowKit
set_option linter.unusedVariables false
theorem okO_of {s : So} (hz : wtO s <= 1048576) (wd : WdO s) : OkO s := by
 unfold wtO at hz
 have h1 : wtM s.certs = s.certs.length + (s.certs.map wtC).sum := rfl
 have h2 : wtS s.crls = s.crls.length + (s.crls.map wtL).sum := rfl
 have h3 : wtN s.ancs = s.ancs.length + (s.ancs.map wtA).sum := rfl
 exact ⟨⟨by omega, by omega, by omega⟩, fun c hc => ⟨by have := wtM_mem hc; omega, wd.1.1 c hc⟩, fun c hc => ⟨by have := wtS_mem hc; omega, wd.2.1.1 c hc⟩, fun c hc => by have := wtN_mem hc; omega⟩
theorem okO_cert {s : So} {c : Ct} (h : OkO s) (hl : s.certs.length <= 1048576) (hz : wtC c <= 1048576) (wd : WdC c) : OkO (addCert s c) := by
 refine ⟨⟨by unfold addCert; simp; omega, h.1.2.1, h.1.2.2⟩, fun x hx => ?_, h.2.2.1, h.2.2.2⟩
 rcases List.mem_append.1 (show x ∈ s.certs ++ [c] from hx) with hx | hx
 ·exact h.2.1 x hx
 ·rw [List.mem_singleton.1 hx]; exact ⟨hz, wd⟩
def Lim (s : So) : Prop := wtM s.certs <= 1048577 /\ wtS s.crls <= 1048576 + 1 /\ wtN s.ancs <= 1048577
theorem wtM_app (l : List Ct) (c : Ct) : wtM (l ++ [c]) = wtM l + (1 + wtC c) := by unfold wtM; simp; omega
theorem lim_cert {s : So} {c : Ct} (h : wtO s + wtC c <= 1048576) : Lim (ltS s (addCert s c)) /\ wtO (ltS s (addCert s c)) <= 1048577 := by
 have h1 := wtM_app s.certs c
 unfold ltS
 unfold wtO at h
 split
 ·refine ⟨⟨?_, ?_, ?_⟩, ?_⟩ <;> unfold addCert <;> (try unfold wtO) <;> dsimp only <;> omega
 ·refine ⟨⟨?_, ?_, ?_⟩, ?_⟩ <;> (try unfold wtO) <;> omega
end Go.Proofs.YtplblechcnbieaaGreat
