/-
  The program's PublicAt and SecretAt.
-/
import Derived.Test.YtoildgknpfehoaaDoorHouI
import Derived.Test.YtoildgknpfehoaaDoorSpG
import Derived.Test.YtoildgknpfehoaaDoorSpX
namespace Go.Proofs.YtoildgknpfehoaaDoor
open Go.RowKit

theorem run_field0 (T U : ByteArray) (w : World) : Sem.run Tryd.prog (Instr.field 36 (.agg #[.string T, .string U]) 0) w = .ok (.string T) w := by
  first | kernel_rfl | rfl | simp [Instr.field, go_sem]
theorem run_field1 (T U : ByteArray) (w : World) : Sem.run Tryd.prog (Instr.field 36 (.agg #[.string T, .string U]) 1) w = .ok (.string U) w := by
  first | kernel_rfl | rfl | simp [Instr.field, go_sem]

set_option maxHeartbeats 800000 in
set_option maxRecDepth 100000 in
theorem implPublic_any (i : Int) (w : World) (hi : -9223372036854775808 ≤ i ∧ i ≤ 9223372036854775807) (hH : HousesOk w) : Calls Tryd.prog 9 #[.int .i64 i] w fun e w' => e = .returned (.string (pubB i)) ∧ Below w.heap.size w w' := by
  have E := houseAt_any i w hi hH
  have HN : Hid (pubB i = txtL (figL (pubT i)) ∧ (pubT i).size ≤ 37) := ⟨rfl, pubT_size i⟩
  clear hH
  generalize pubT i = T at *
  generalize secT i = U at *
  have RF := run_field0 T U
  go_enter Tryd.func9, Tryd.ntmps9
  go_wp2_with fail
  refine E.mono ?_
  rintro e w1 ⟨rfl, hb1⟩
  have H1 : Hid (Below w.heap.size w w1) := hb1
  clear hb1 E
  go_wp2_with fail
  refine (implFig_any T _ (by have := HN.out.2; omega)).mono ?_
  rintro e w2 ⟨v, rfl, ho2, hb2⟩
  have H2 : Hid (OwnI w2 w1.heap.size v (figL T) ∧ Below w.heap.size w w2) := ⟨ho2, below_on H1.out hb2⟩
  clear ho2 hb2 H1
  go_wp2_with fail
  refine (implText_any v (figL T) w2 (by have := figL_len T; omega) (figL_wd T) H2.out.1.at).mono ?_
  rintro e w3 ⟨rfl, hb3⟩
  have H3 : Hid (Below w.heap.size w w3) := below_on H2.out.2 hb3
  clear hb3 H2
  go_wp2_with fail
  go_ret
  exact ⟨by rw [HN.out.1]; rfl, H3.out⟩

set_option maxHeartbeats 800000 in
set_option maxRecDepth 100000 in
theorem implSecret_any (i : Int) (w : World) (hi : -9223372036854775808 ≤ i ∧ i ≤ 9223372036854775807) (hH : HousesOk w) : Calls Tryd.prog 11 #[.int .i64 i] w fun e w' => ∃ v, e = .returned v ∧ OwnI w' w.heap.size v (secL i) ∧ Below w.heap.size w w' := by
  have E := houseAt_any i w hi hH
  have HN : Hid (secL i = figL (secT i) ∧ (secT i).size ≤ 37) := ⟨rfl, secT_size i⟩
  clear hH
  generalize pubT i = T at *
  generalize secT i = U at *
  have RF := run_field1 T U
  go_enter Tryd.func11, Tryd.ntmps11
  go_wp2_with fail
  refine E.mono ?_
  rintro e w1 ⟨rfl, hb1⟩
  have H1 : Hid (Below w.heap.size w w1) := hb1
  clear hb1 E
  go_wp2_with fail
  refine (implFig_any U _ (by have := HN.out.2; omega)).mono ?_
  rintro e w2 ⟨v, rfl, ho2, hb2⟩
  have H2 : Hid (OwnI w2 w.heap.size v (figL U) ∧ Below w.heap.size w w2) := ⟨ho2.base H1.out.size, below_on H1.out hb2⟩
  clear ho2 hb2 H1
  go_wp2_with fail
  go_ret
  exact ⟨_, rfl, by rw [HN.out.1]; exact H2.out.1, H2.out.2⟩

end Go.Proofs.YtoildgknpfehoaaDoor
