/-
  Letters as items; the specification's l09Bytes, l09Bool, l09Ints, l09Texts.
-/
import Derived.Test.YtbiiihjohbnodaaCrB
import Derived.Test.YtbiiihjohbnodaaNmL
import Derived.Test.YtbiiihjohbnodaaJtA
import Derived.Test.YtbiiihjohbnodaaItL
namespace Go.Proofs.Ytbiiihjohbnodaa
open Go.RowKit Der
set_option linter.unusedVariables false

/-- Items without kids. -/
def intI {n : Nat} (x : Int) : It (n + 1) := It.mk 2 (intT (numN x)) []
def txtJ {n : Nat} (s : ByteArray) : It (n + 1) := It.mk 12 s.data.toList []
def bytJ {n : Nat} (s : ByteArray) : It (n + 1) := It.mk 4 s.data.toList []
def flagJ {n : Nat} (b : Bool) : It (n + 1) := It.mk 1 [if b then 255 else 0] []
/-- A list of items. -/
def lstJ {n : Nat} (ks : List (It n)) : It (n + 1) := It.mk 48 [] ks
/-- What of a letter is signed. -/
def bodyC (c : Ct) : It 3 := lstJ [intI c.serial, txtJ c.issuer, lstJ [intI c.frm, intI c.upto], txtJ c.subject, bytJ c.key, flagJ c.ca, intI c.pathLen, intI c.usage, lstJ (c.pol.map intI), lstJ (c.per.map txtJ), lstJ (c.den.map txtJ)]
/-- A letter. -/
def certI (c : Ct) : It 4 := lstJ [bodyC c, bytJ c.sig]
set_option maxRecDepth 100000 in
theorem bytes_any (s : ByteArray) (w : World) : Calls Try.prog 66 #[.string s] w fun e w' => e = .returned (.agg #[.int .i64 4, .string s, .slice none 0 0]) ∧ Below w.heap.size w w' := by
  go_enter Try.func66, Try.ntmps66
  go_wp2_with fail
  refine bodyPost_ret (v := .agg #[.int .i64 4, .string s, .slice none 0 0]) (by simp [results, Try.results66, go_sem]; try rfl) rfl ⟨rfl, ?_⟩
  exact (Below.refl _ _).alloc (Nat.le_refl _) _
set_option maxRecDepth 100000 in
theorem flag_any (b : Bool) (w : World) : Calls Try.prog 50 #[.bool b] w fun e w' => e = .returned (.agg #[.int .i64 1, .string ⟨[if b then 255 else 0].toArray⟩, .slice none 0 0]) ∧ Below w.heap.size w w' := by
  cases b with
  | true =>
    go_enter Try.func50, Try.ntmps50
    go_wp2_with fail
    refine bodyPost_ret (v := .agg #[.int .i64 1, .string ⟨#[255]⟩, .slice none 0 0]) (by simp [results, Try.results50, go_sem]; try rfl) rfl ⟨rfl, ?_⟩
    exact (Below.refl _ _).alloc (Nat.le_refl _) _
  | false =>
    go_enter Try.func50, Try.ntmps50
    go_wp2_with fail
    refine bodyPost_ret (v := .agg #[.int .i64 1, .string ⟨#[0]⟩, .slice none 0 0]) (by simp [results, Try.results50, go_sem]; try rfl) rfl ⟨rfl, ?_⟩
    exact (Below.refl _ _).alloc (Nat.le_refl _) _
theorem own_none (w : World) (base : Nat) : ∀ n, OwnK w base n (.slice none 0 0) [] []
  | 0 => ⟨⟨none, 0, rfl⟩, rfl⟩
  | _ + 1 => ⟨none, 0, rfl, fun _ => rfl, fun h => absurd h (Nat.lt_irrefl _)⟩

theorem both_below {wr w3 : World} {g h o : Nat} {kv t : Value} (hc : wr.cell? ⟨g, 2, none⟩ = some kv ∧ wr.cell? ⟨h, o, none⟩ = some t) (hg : g < wr.heap.size) (hh : h < wr.heap.size) (hb : Below wr.heap.size wr w3) : w3.cell? ⟨g, 2, none⟩ = some kv ∧ w3.cell? ⟨h, o, none⟩ = some t :=
  ⟨(hb.cell (p := ⟨g, 2, none⟩) hg).trans hc.1, (hb.cell (p := ⟨h, o, none⟩) hh).trans hc.2⟩
theorem both_grown {w5 w6 : World} {g h o : Nat} {kv t : Value} {row : Option Nat} (hc : w5.cell? ⟨g, 2, none⟩ = some kv ∧ w5.cell? ⟨h, o, none⟩ = some t) (hg : w5.grownBy w6 row) (n1 : some g ≠ row) (n2 : some h ≠ row) : w6.cell? ⟨g, 2, none⟩ = some kv ∧ w6.cell? ⟨h, o, none⟩ = some t :=
  ⟨hg.cell hc.1 n1, hg.cell hc.2 n2⟩



end Go.Proofs.Ytbiiihjohbnodaa
