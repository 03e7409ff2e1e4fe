/-
  Texts of the proof, one behind the other: SwG, BuP, CrQ.
-/
import Derived.Test.YtlnklfchdnndpaaShelf
import Derived.Deep.WholeRow
import Derived.StillTailTactics
import Derived.Test.YtlnklfchdnndpaaPT9
import Derived.Test.YtlnklfchdnndpaaPT10

/-
  A row of letters that came in, opened.
-/
namespace Go.Proofs.Ytlnklfchdnndpaa
open Go.RowKit
set_option linter.unusedVariables false

theorem pickC {n : Nat} {P : Nat → Ct → Prop} (h : ∀ j, j < n → ∃ y, P j y) : ∃ l : List Ct, ∃ hl : l.length = n, ∀ j (hj : j < l.length), P j l[j] := by
  induction n with
  | zero => exact ⟨[], rfl, fun j hj => absurd hj (Nat.not_lt_zero _)⟩
  | succ n ih =>
    obtain ⟨l, hl, hP⟩ := ih fun j hj => h j (by omega)
    obtain ⟨y, hy⟩ := h n (by omega)
    refine ⟨l ++ [y], by simp [hl], fun j hj => ?_⟩
    by_cases e : j < l.length
    · rw [List.getElem_append_left e]
      exact hP j e
    · have e2 : j = l.length := by simp at hj; omega
      subst e2
      simpa [hl] using hy
theorem certs_in {H : Type} {enc : TypeId × Value → H} {W : World} {fuel : Nat} {cs : List Value} {x : DataW H × List MemPlace} (h : DataW.trod enc Try.prog W 0 (fun _ => true) true fuel 31 cs = some x) :
    ∃ ao cap, ∃ l : List Ct, cs = [.slice ao l.length cap] ∧ l.length ≤ maxLen ∧ (∀ c ∈ l, WdC c) ∧ ArgM W.heap.size W (.slice ao l.length cap) l := by
  rcases DataW.trod_slice Try.underlying31 h with ⟨h0, _⟩ | ⟨a, len, cap, elems, rest, q, hq, hc, _, hb, hlc, hcm, hel, helem, _, _⟩
  · exact ⟨none, 0, [], h0, Nat.zero_le _, fun x hx => by simp at hx, none, 0, rfl, fun j hj => by simp at hj⟩
  · have each : ∀ j, j < len → ∃ c : Ct, ∃ u : Value, ArgC W.heap.size W u c ∧ WdC c ∧ u.cells.size = 13 ∧ ∀ i x, u.cells[i]? = some x → W.cell? (a.add (j * 13 + i)) = some x := by
      intro j hj
      have he := helem j hj
      rw [cellsCert] at he
      obtain ⟨z, hz⟩ : ∃ z, elems[j]? = some z := ⟨elems[j]'(by omega), by simp [show j < elems.length by omega]⟩
      rw [hz, Option.bind_eq_some_iff] at he
      obtain ⟨cs2, hcs2, htr⟩ := he
      obtain ⟨c, p, e, d, hv, harg, hwd⟩ := cert_of_trod htr
      have hsome := World.cells?_some hcs2
      refine ⟨c, ctV c p e d, harg, hwd, rfl, fun i x hx => ?_⟩
      have hcl : (ctV c p e d).cells = cs2.toArray := by rw [← hv]; rfl
      rw [hcl] at hx
      have hi : i < cs2.length := by have := (Array.getElem?_eq_some_iff.1 hx).1; simpa using this
      have h3 := hsome.2.2 i (by omega)
      rw [Addr.add_add] at h3
      rw [h3]
      simpa using hx
    obtain ⟨l, hl, hP⟩ := pickC each
    refine ⟨some a, cap, l, by rw [hl]; exact hc, by rw [hl]; exact Nat.le_trans hlc hcm, fun y hy => ?_, some a, cap, rfl, fun j hj => ?_⟩
    · obtain ⟨j, hj, rfl⟩ := List.getElem_of_mem hy
      obtain ⟨u, _, h2, _⟩ := hP j hj
      exact h2
    · obtain ⟨u, h1, h2, h3, h4⟩ := hP j hj
      obtain ⟨x0, hx0⟩ : ∃ x, u.cells[0]? = some x := ⟨u.cells[0]'(by omega), Array.getElem?_eq_getElem _⟩
      have c0 := h4 0 x0 hx0
      obtain ⟨u', _, _, g3, g4⟩ := hP 0 (by omega)
      obtain ⟨y0, hy0⟩ : ∃ x, u'.cells[0]? = some x := ⟨u'.cells[0]'(by omega), Array.getElem?_eq_getElem _⟩
      have d0 := g4 0 y0 hy0
      obtain ⟨b, off, spot⟩ := a
      have hspot : spot = none := by simpa [Addr.add] using World.cell?_spot d0
      subst hspot
      rw [Addr.add_lit] at c0
      refine ⟨b, off, u, rfl, lt_of_cell c0, h1, h3, fun i x hx => ?_⟩
      have := h4 i x hx
      rw [Addr.add_lit, ← Nat.add_assoc] at this
      exact this
end Go.Proofs.Ytlnklfchdnndpaa

/-
  A Builder: what is written into it, and that it stays.
-/
namespace Go.Proofs.Ytlnklfchdnndpaa
open Go.RowKit
set_option linter.unusedVariables false

def Try.lays166_ren : Go.Shelf.Ren := ⟨fun | 166 => 27 | 240 => 41 | 276 => 62 | n => n, fun | 0 => 0 | 3 => 3 | 4 => 4 | 5 => 5 | 9 => 9 | 20 => 20 | 37 => 54 | 70 => 53 | 72 => 56 | 75 => 58 | 80 => 61 | 164 => 85 | n => n, fun | n => n⟩
set_option maxRecDepth 100000 in
theorem Try.lays166 : Go.Proofs.Lays.n166 Try.prog Try.lays166_ren := {
  mixed := by kernel_rfl
  f166 := Try.func27.trans (congrArg some (by kernel_rfl))
  f240 := Try.func41.trans (congrArg some (by kernel_rfl))
  f276 := Try.func62.trans (congrArg some (by kernel_rfl))
  t0 := Try.underlying0
  a0 := Try.isAgg0
  z0 := Try.sizeOf0
  v0 := Try.zeroValue0
  t3 := Try.underlying3
  a3 := Try.isAgg3
  z3 := Try.sizeOf3
  v3 := Try.zeroValue3
  t4 := Try.underlying4
  a4 := Try.isAgg4
  z4 := Try.sizeOf4
  v4 := Try.zeroValue4
  t9 := Try.underlying9
  a9 := Try.isAgg9
  z9 := Try.sizeOf9
  v9 := Try.zeroValue9
  t20 := Try.underlying20
  a20 := Try.isAgg20
  z20 := Try.sizeOf20
  v20 := Try.zeroValue20
  t37 := Try.underlying54
  a37 := Try.isAgg54
  z37 := Try.sizeOf54
  v37 := Try.zeroValue54
  t70 := Try.underlying53
  a70 := Try.isAgg53
  z70 := Try.sizeOf53
  v70 := Try.zeroValue53
  t72 := Try.underlying56
  a72 := Try.isAgg56
  z72 := Try.sizeOf56
  v72 := Try.zeroValue56
  t75 := Try.underlying58
  a75 := Try.isAgg58
  z75 := Try.sizeOf58
  v75 := Try.zeroValue58
  t164 := Try.underlying85
  a164 := Try.isAgg85
  z164 := Try.sizeOf85
  v164 := Try.zeroValue85 }
theorem Try.Builder_Extra_166 : Builder.Extra Try.prog Try.lays166_ren := {
  sizeBuilder := by kernel_rfl
  liesBuilder := by kernel_rfl
  t5 := Try.underlying5
  a5 := Try.isAgg5
  z5 := Try.sizeOf5
  v5 := Try.zeroValue5
  infoByte := by kernel_rfl
  cellsByte := by kernel_rfl
  sizeByte := by kernel_rfl
  neB5 := by decide }
theorem writeS (B b : Nat) (bs : List Value) (s : ByteArray) (w : World) (h : Lib.IsBuilder 56 5 B b bs w) (hlen : bs.length + s.size ≤ 140737488355328) (hBw : B ≤ w.heap.size) :
    Calls Try.prog 27 #[.pointer (some ⟨b, 0, none⟩), .string s] w fun e w' => e = .returned (.tuple #[.int .i64 s.size, .nilIface]) ∧ (Lib.BuilderAt 56 5 B b (.pointer (some ⟨b, 0, none⟩)) (bs ++ Lib.strCells s) w' ∧ Below B w w') :=
  Any.Builder_WriteString Try.lays166 Try.Builder_Extra_166 B b bs s w h hlen hBw
theorem ownsRow_stays {w w' : World} {base : Nat} {e : TypeId} {size : Nat} {v : Value} {n : Nat} {xs : List Value} (h : w.ownsRow base e size v n xs) (hb : Below w.heap.size w w') : w'.ownsRow base e size v n xs := by
  obtain ⟨h1, h2⟩ := h
  refine ⟨h1, ?_⟩
  rcases h2 with h2 | ⟨g, cap, cur, hv, hbg, hg, r⟩
  · exact .inl h2
  · have hlt : g < w.heap.size := by
      rcases Nat.lt_or_ge g w.heap.size with h | h
      · exact h
      · rw [Array.getElem?_eq_none h] at hg; cases hg
    exact .inr ⟨g, cap, cur, hv, hbg, by rw [hb.block g hlt]; exact hg, r⟩
theorem builderAt_stays {w w' : World} {T e : TypeId} {B b : Nat} {p : Value} {bs : List Value} (h : Lib.BuilderAt T e B b p bs w) (hb : Below w.heap.size w w') : Lib.BuilderAt T e B b p bs w' := by
  have hlt := h.lt
  obtain ⟨h1, v, h2, h3, h4⟩ := h
  exact ⟨h1, v, by rw [hb.block b hlt]; exact h2, ownsRow_stays h3 hb, h4⟩
theorem builder_stays {w w' : World} {T e : TypeId} {B b : Nat} {bs : List Value} (h : Lib.IsBuilder T e B b bs w) (hb : Below w.heap.size w w') : Lib.IsBuilder T e B b bs w' := by
  rcases h with h | h
  · exact .inl (builderAt_stays h hb)
  · exact .inr (builderAt_stays h hb)
end Go.Proofs.Ytlnklfchdnndpaa

/-
  The program's upTo and CertOk.
-/
namespace Go.Proofs.Ytlnklfchdnndpaa
open Go.RowKit
set_option linter.unusedVariables false

set_option maxRecDepth 100000 in
theorem upTo_any (hi n : Int) (w : World) : Calls Try.prog 20 #[.int .i64 hi, .int .i64 n] w fun e w' => e = .returned (.bool (inB n 0 hi)) ∧ Below w.heap.size w w' := by
  by_cases h : 0 ≤ n
  · by_cases h2 : n ≤ hi
    · have HB : Hid (inB n 0 hi = true) := decide_eq_true ⟨h, h2⟩
      go_enter Try.func20, Try.ntmps20
      go_wp2_with fail
      go_ret
      exact ⟨by rw [HB.out]; simp [*], Below.refl _ _⟩
    · have HB : Hid (inB n 0 hi = false) := decide_eq_false (fun q => h2 q.2)
      go_enter Try.func20, Try.ntmps20
      go_wp2_with fail
      go_ret
      exact ⟨by rw [HB.out]; simp [*], Below.refl _ _⟩
  · have HB : Hid (inB n 0 hi = false) := decide_eq_false (fun q => h q.1)
    go_enter Try.func20, Try.ntmps20
    go_wp2_with fail
    go_ret
    exact ⟨by rw [HB.out]; simp [*], Below.refl _ _⟩
set_option maxHeartbeats 6400000 in
set_option maxRecDepth 100000 in
theorem implCertOk_any (c : Ct) (v : Value) (w : World) (hz : wtC c ≤ 1000000000) (ha : CtAt w v c) :
    Calls Try.prog 37 #[v] w fun e w' => e = .returned (.bool (certOk c)) ∧ Below w.heap.size w w' := by
  obtain ⟨pv, ev, dv, rfl, h1, h2, h3⟩ := ha
  obtain ⟨z1, z2, z3, z4, z5, z6, z7, z8, z9⟩ := wt_parts hz
  clear hz
  obtain ⟨pa, pc, hpa⟩ : ∃ ao cap, pv = .slice ao c.pol.length cap := by obtain ⟨ao, cap, h, _⟩ := h1; exact ⟨ao, cap, h⟩
  obtain ⟨ea, ec, hea⟩ : ∃ ao cap, ev = .slice ao c.per.length cap := by obtain ⟨ao, cap, h, _⟩ := h2; exact ⟨ao, cap, h⟩
  obtain ⟨da, dc, hda⟩ : ∃ ao cap, dv = .slice ao c.den.length cap := by obtain ⟨ao, cap, h, _⟩ := h3; exact ⟨ao, cap, h⟩
  obtain ⟨lp, hlp⟩ : ∃ l, c.pol.length = l := ⟨_, rfl⟩
  obtain ⟨le, hle⟩ : ∃ l, c.per.length = l := ⟨_, rfl⟩
  obtain ⟨ld, hld⟩ : ∃ l, c.den.length = l := ⟨_, rfl⟩
  rw [hlp] at hpa
  rw [hle] at hea
  rw [hld] at hda
  subst hpa hea hda
  obtain ⟨B1, hB1⟩ : ∃ b, inB c.serial 0 9999 = b := ⟨_, rfl⟩
  have E1 : Hid (∀ W, Below w.heap.size w W → Calls Try.prog 20 #[.int .i64 9999, .int .i64 c.serial] W fun e w' => e = .returned (.bool B1) ∧ Below W.heap.size W w') := fun W hb => by rw [← hB1]; exact upTo_any _ _ W
  obtain ⟨B2, hB2⟩ : ∃ b, inB c.frm 0 9999 = b := ⟨_, rfl⟩
  have E2 : Hid (∀ W, Below w.heap.size w W → Calls Try.prog 20 #[.int .i64 9999, .int .i64 c.frm] W fun e w' => e = .returned (.bool B2) ∧ Below W.heap.size W w') := fun W hb => by rw [← hB2]; exact upTo_any _ _ W
  obtain ⟨B3, hB3⟩ : ∃ b, inB c.upto 0 9999 = b := ⟨_, rfl⟩
  have E3 : Hid (∀ W, Below w.heap.size w W → Calls Try.prog 20 #[.int .i64 9999, .int .i64 c.upto] W fun e w' => e = .returned (.bool B3) ∧ Below W.heap.size W w') := fun W hb => by rw [← hB3]; exact upTo_any _ _ W
  obtain ⟨B4, hB4⟩ : ∃ b, nameOk c.issuer = b := ⟨_, rfl⟩
  have E4 : Hid (∀ W, Below w.heap.size w W → Calls Try.prog 52 #[.string c.issuer] W fun e w' => e = .returned (.bool B4) ∧ Below W.heap.size W w') := fun W hb => by rw [← hB4]; exact implName_any c.issuer W (by omega)
  obtain ⟨B5, hB5⟩ : ∃ b, nameOk c.subject = b := ⟨_, rfl⟩
  have E5 : Hid (∀ W, Below w.heap.size w W → Calls Try.prog 52 #[.string c.subject] W fun e w' => e = .returned (.bool B5) ∧ Below W.heap.size W w') := fun W hb => by rw [← hB5]; exact implName_any c.subject W (by omega)
  obtain ⟨B7, hB7⟩ : ∃ b, inB c.pathLen 0 99 = b := ⟨_, rfl⟩
  have E7 : Hid (∀ W, Below w.heap.size w W → Calls Try.prog 20 #[.int .i64 99, .int .i64 c.pathLen] W fun e w' => e = .returned (.bool B7) ∧ Below W.heap.size W w') := fun W hb => by rw [← hB7]; exact upTo_any _ _ W
  obtain ⟨B8, hB8⟩ : ∃ b, inB c.usage 0 7 = b := ⟨_, rfl⟩
  have E8 : Hid (∀ W, Below w.heap.size w W → Calls Try.prog 20 #[.int .i64 7, .int .i64 c.usage] W fun e w' => e = .returned (.bool B8) ∧ Below W.heap.size W w') := fun W hb => by rw [← hB8]; exact upTo_any _ _ W
  obtain ⟨B9, hB9⟩ : ∃ b, polOk c.pol = b := ⟨_, rfl⟩
  have E9 : Hid (∀ W, Below w.heap.size w W → Calls Try.prog 21 #[.slice pa lp pc] W fun e w' => e = .returned (.bool B9) ∧ Below W.heap.size W w') := fun W hb => by rw [← hB9]; exact implIok_any _ c.pol W (by omega) (h1.below hb)
  obtain ⟨B10, hB10⟩ : ∃ b, namesOk c.per = b := ⟨_, rfl⟩
  have E10 : Hid (∀ W, Below w.heap.size w W → Calls Try.prog 53 #[.slice ea le ec] W fun e w' => e = .returned (.bool B10) ∧ Below W.heap.size W w') := fun W hb => by rw [← hB10]; exact implTok_any _ c.per W (by omega) (fun s hs => by have := z8 s hs; omega) (h2.below hb)
  obtain ⟨B11, hB11⟩ : ∃ b, namesOk c.den = b := ⟨_, rfl⟩
  have E11 : Hid (∀ W, Below w.heap.size w W → Calls Try.prog 53 #[.slice da ld dc] W fun e w' => e = .returned (.bool B11) ∧ Below W.heap.size W w') := fun W hb => by rw [← hB11]; exact implTok_any _ c.den W (by omega) (fun s hs => by have := z9 s hs; omega) (h3.below hb)
  have HC : Hid (certOk c = (B1 && (B2 && (B3 && (B4 && (B5 && (decide (c.key.size = 15) && (B7 && (B8 && (B9 && (B10 && (B11 && decide (c.sig.size = 15))))))))))))) := by show certOk c = _; unfold certOk; rw [hB1, hB2, hB3, hB4, hB5, hB7, hB8, hB9, hB10, hB11]
  clear hB1 hB2 hB3 hB4 hB5 hB7 hB8 hB9 hB10 hB11 h1 h2 h3 hlp hle hld z8 z9
  unfold ctV
  go_enter Try.func37, Try.ntmps37
  go_wp2_with fail
  obtain ⟨V, hV⟩ : ∃ V, V = w.alloc (Obj.cells #[.int .i64 c.serial, .string c.issuer, .string c.subject, .int .i64 c.frm, .int .i64 c.upto, .string c.key, .bool c.ca, .int .i64 c.pathLen, .int .i64 c.usage, .slice pa lp pc, .slice ea le ec, .slice da ld dc, .string c.sig] 51) := ⟨_, rfl⟩
  rw [← hV]
  have G : Hid (Blk V w.heap.size 51 #[.int .i64 c.serial, .string c.issuer, .string c.subject, .int .i64 c.frm, .int .i64 c.upto, .string c.key, .bool c.ca, .int .i64 c.pathLen, .int .i64 c.usage, .slice pa lp pc, .slice ea le ec, .slice da ld dc, .string c.sig] ∧ Below w.heap.size w V ∧ w.heap.size < V.heap.size) := by rw [hV]; exact ⟨Blk.new w _ _, (Below.refl _ _).alloc (Nat.le_refl _) _, (Blk.new w _ _).lt⟩
  clear hV
  refine (E1.out V G.out.2.1).mono ?_
  rintro e V1 ⟨rfl, hb⟩
  have G1 : Hid (Blk V1 w.heap.size 51 #[.int .i64 c.serial, .string c.issuer, .string c.subject, .int .i64 c.frm, .int .i64 c.upto, .string c.key, .bool c.ca, .int .i64 c.pathLen, .int .i64 c.usage, .slice pa lp pc, .slice ea le ec, .slice da ld dc, .string c.sig] ∧ Below w.heap.size w V1 ∧ w.heap.size < V1.heap.size) := ⟨G.out.1.below hb G.out.2.2, G.out.2.1.trans (hb.mono G.out.2.1.size), Nat.lt_of_lt_of_le G.out.2.2 hb.size⟩
  clear hb G E1
  have c_frm : V1.cell? ⟨w.heap.size, 3, none⟩ = some (.int .i64 c.frm) := G1.out.1.cell 3
  cases B1 with
  | false =>
    go_wp2_with fail
    go_ret
    exact ⟨by rw [HC.out]; simp, G1.out.2.1⟩
  | true =>
    go_wp2_with fail
    clear c_frm
    refine (E2.out V1 G1.out.2.1).mono ?_
    rintro e V2 ⟨rfl, hb⟩
    have G2 : Hid (Blk V2 w.heap.size 51 #[.int .i64 c.serial, .string c.issuer, .string c.subject, .int .i64 c.frm, .int .i64 c.upto, .string c.key, .bool c.ca, .int .i64 c.pathLen, .int .i64 c.usage, .slice pa lp pc, .slice ea le ec, .slice da ld dc, .string c.sig] ∧ Below w.heap.size w V2 ∧ w.heap.size < V2.heap.size) := ⟨G1.out.1.below hb G1.out.2.2, G1.out.2.1.trans (hb.mono G1.out.2.1.size), Nat.lt_of_lt_of_le G1.out.2.2 hb.size⟩
    clear hb G1 E2
    have c_upto : V2.cell? ⟨w.heap.size, 4, none⟩ = some (.int .i64 c.upto) := G2.out.1.cell 4
    cases B2 with
    | false =>
      go_wp2_with fail
      go_ret
      exact ⟨by rw [HC.out]; simp, G2.out.2.1⟩
    | true =>
      go_wp2_with fail
      clear c_upto
      refine (E3.out V2 G2.out.2.1).mono ?_
      rintro e V3 ⟨rfl, hb⟩
      have G3 : Hid (Blk V3 w.heap.size 51 #[.int .i64 c.serial, .string c.issuer, .string c.subject, .int .i64 c.frm, .int .i64 c.upto, .string c.key, .bool c.ca, .int .i64 c.pathLen, .int .i64 c.usage, .slice pa lp pc, .slice ea le ec, .slice da ld dc, .string c.sig] ∧ Below w.heap.size w V3 ∧ w.heap.size < V3.heap.size) := ⟨G2.out.1.below hb G2.out.2.2, G2.out.2.1.trans (hb.mono G2.out.2.1.size), Nat.lt_of_lt_of_le G2.out.2.2 hb.size⟩
      clear hb G2 E3
      have c_issuer : V3.cell? ⟨w.heap.size, 1, none⟩ = some (.string c.issuer) := G3.out.1.cell 1
      cases B3 with
      | false =>
        go_wp2_with fail
        go_ret
        exact ⟨by rw [HC.out]; simp, G3.out.2.1⟩
      | true =>
        go_wp2_with fail
        clear c_issuer
        refine (E4.out V3 G3.out.2.1).mono ?_
        rintro e V4 ⟨rfl, hb⟩
        have G4 : Hid (Blk V4 w.heap.size 51 #[.int .i64 c.serial, .string c.issuer, .string c.subject, .int .i64 c.frm, .int .i64 c.upto, .string c.key, .bool c.ca, .int .i64 c.pathLen, .int .i64 c.usage, .slice pa lp pc, .slice ea le ec, .slice da ld dc, .string c.sig] ∧ Below w.heap.size w V4 ∧ w.heap.size < V4.heap.size) := ⟨G3.out.1.below hb G3.out.2.2, G3.out.2.1.trans (hb.mono G3.out.2.1.size), Nat.lt_of_lt_of_le G3.out.2.2 hb.size⟩
        clear hb G3 E4
        have c_subject : V4.cell? ⟨w.heap.size, 2, none⟩ = some (.string c.subject) := G4.out.1.cell 2
        cases B4 with
        | false =>
          go_wp2_with fail
          go_ret
          exact ⟨by rw [HC.out]; simp, G4.out.2.1⟩
        | true =>
          go_wp2_with fail
          clear c_subject
          refine (E5.out V4 G4.out.2.1).mono ?_
          rintro e V5 ⟨rfl, hb⟩
          have G5 : Hid (Blk V5 w.heap.size 51 #[.int .i64 c.serial, .string c.issuer, .string c.subject, .int .i64 c.frm, .int .i64 c.upto, .string c.key, .bool c.ca, .int .i64 c.pathLen, .int .i64 c.usage, .slice pa lp pc, .slice ea le ec, .slice da ld dc, .string c.sig] ∧ Below w.heap.size w V5 ∧ w.heap.size < V5.heap.size) := ⟨G4.out.1.below hb G4.out.2.2, G4.out.2.1.trans (hb.mono G4.out.2.1.size), Nat.lt_of_lt_of_le G4.out.2.2 hb.size⟩
          clear hb G4 E5
          have c_key : V5.cell? ⟨w.heap.size, 5, none⟩ = some (.string c.key) := G5.out.1.cell 5
          have c_pathLen : V5.cell? ⟨w.heap.size, 7, none⟩ = some (.int .i64 c.pathLen) := G5.out.1.cell 7
          cases B5 with
          | false =>
            go_wp2_with fail
            go_ret
            exact ⟨by rw [HC.out]; simp, G5.out.2.1⟩
          | true =>
            by_cases s6 : c.key.size = 15
            rotate_left
            · have si : ¬ (c.key.size : Int) = 15 := by omega
              have HN : Hid (decide (c.key.size = 15) = false) := decide_eq_false s6
              clear s6
              go_wp2_with fail
              go_ret
              exact ⟨by rw [HC.out, HN.out]; simp, G5.out.2.1⟩
            have si6 : (c.key.size : Int) = 15 := by omega
            go_wp2_with fail
            skip
            refine (E7.out V5 G5.out.2.1).mono ?_
            rintro e V7 ⟨rfl, hb⟩
            have G7 : Hid (Blk V7 w.heap.size 51 #[.int .i64 c.serial, .string c.issuer, .string c.subject, .int .i64 c.frm, .int .i64 c.upto, .string c.key, .bool c.ca, .int .i64 c.pathLen, .int .i64 c.usage, .slice pa lp pc, .slice ea le ec, .slice da ld dc, .string c.sig] ∧ Below w.heap.size w V7 ∧ w.heap.size < V7.heap.size) := ⟨G5.out.1.below hb G5.out.2.2, G5.out.2.1.trans (hb.mono G5.out.2.1.size), Nat.lt_of_lt_of_le G5.out.2.2 hb.size⟩
            clear hb G5 E7
            have c_usage : V7.cell? ⟨w.heap.size, 8, none⟩ = some (.int .i64 c.usage) := G7.out.1.cell 8
            cases B7 with
            | false =>
              go_wp2_with fail
              go_ret
              exact ⟨by rw [HC.out]; simp, G7.out.2.1⟩
            | true =>
              go_wp2_with fail
              clear c_usage
              refine (E8.out V7 G7.out.2.1).mono ?_
              rintro e V8 ⟨rfl, hb⟩
              have G8 : Hid (Blk V8 w.heap.size 51 #[.int .i64 c.serial, .string c.issuer, .string c.subject, .int .i64 c.frm, .int .i64 c.upto, .string c.key, .bool c.ca, .int .i64 c.pathLen, .int .i64 c.usage, .slice pa lp pc, .slice ea le ec, .slice da ld dc, .string c.sig] ∧ Below w.heap.size w V8 ∧ w.heap.size < V8.heap.size) := ⟨G7.out.1.below hb G7.out.2.2, G7.out.2.1.trans (hb.mono G7.out.2.1.size), Nat.lt_of_lt_of_le G7.out.2.2 hb.size⟩
              clear hb G7 E8
              have c_pol : V8.cell? ⟨w.heap.size, 9, none⟩ = some (.slice pa lp pc) := G8.out.1.cell 9
              cases B8 with
              | false =>
                go_wp2_with fail
                go_ret
                exact ⟨by rw [HC.out]; simp, G8.out.2.1⟩
              | true =>
                go_wp2_with fail
                clear c_pol
                refine (E9.out V8 G8.out.2.1).mono ?_
                rintro e V9 ⟨rfl, hb⟩
                have G9 : Hid (Blk V9 w.heap.size 51 #[.int .i64 c.serial, .string c.issuer, .string c.subject, .int .i64 c.frm, .int .i64 c.upto, .string c.key, .bool c.ca, .int .i64 c.pathLen, .int .i64 c.usage, .slice pa lp pc, .slice ea le ec, .slice da ld dc, .string c.sig] ∧ Below w.heap.size w V9 ∧ w.heap.size < V9.heap.size) := ⟨G8.out.1.below hb G8.out.2.2, G8.out.2.1.trans (hb.mono G8.out.2.1.size), Nat.lt_of_lt_of_le G8.out.2.2 hb.size⟩
                clear hb G8 E9
                have c_per : V9.cell? ⟨w.heap.size, 10, none⟩ = some (.slice ea le ec) := G9.out.1.cell 10
                cases B9 with
                | false =>
                  go_wp2_with fail
                  go_ret
                  exact ⟨by rw [HC.out]; simp, G9.out.2.1⟩
                | true =>
                  go_wp2_with fail
                  clear c_per
                  refine (E10.out V9 G9.out.2.1).mono ?_
                  rintro e V10 ⟨rfl, hb⟩
                  have G10 : Hid (Blk V10 w.heap.size 51 #[.int .i64 c.serial, .string c.issuer, .string c.subject, .int .i64 c.frm, .int .i64 c.upto, .string c.key, .bool c.ca, .int .i64 c.pathLen, .int .i64 c.usage, .slice pa lp pc, .slice ea le ec, .slice da ld dc, .string c.sig] ∧ Below w.heap.size w V10 ∧ w.heap.size < V10.heap.size) := ⟨G9.out.1.below hb G9.out.2.2, G9.out.2.1.trans (hb.mono G9.out.2.1.size), Nat.lt_of_lt_of_le G9.out.2.2 hb.size⟩
                  clear hb G9 E10
                  have c_den : V10.cell? ⟨w.heap.size, 11, none⟩ = some (.slice da ld dc) := G10.out.1.cell 11
                  cases B10 with
                  | false =>
                    go_wp2_with fail
                    go_ret
                    exact ⟨by rw [HC.out]; simp, G10.out.2.1⟩
                  | true =>
                    go_wp2_with fail
                    clear c_den
                    refine (E11.out V10 G10.out.2.1).mono ?_
                    rintro e V11 ⟨rfl, hb⟩
                    have G11 : Hid (Blk V11 w.heap.size 51 #[.int .i64 c.serial, .string c.issuer, .string c.subject, .int .i64 c.frm, .int .i64 c.upto, .string c.key, .bool c.ca, .int .i64 c.pathLen, .int .i64 c.usage, .slice pa lp pc, .slice ea le ec, .slice da ld dc, .string c.sig] ∧ Below w.heap.size w V11 ∧ w.heap.size < V11.heap.size) := ⟨G10.out.1.below hb G10.out.2.2, G10.out.2.1.trans (hb.mono G10.out.2.1.size), Nat.lt_of_lt_of_le G10.out.2.2 hb.size⟩
                    clear hb G10 E11
                    have c_sig : V11.cell? ⟨w.heap.size, 12, none⟩ = some (.string c.sig) := G11.out.1.cell 12
                    cases B11 with
                    | false =>
                      go_wp2_with fail
                      go_ret
                      exact ⟨by rw [HC.out]; simp, G11.out.2.1⟩
                    | true =>
                      by_cases s12 : c.sig.size = 15
                      rotate_left
                      · have si : ¬ (c.sig.size : Int) = 15 := by omega
                        have HN : Hid (decide (c.sig.size = 15) = false) := decide_eq_false s12
                        clear s12
                        go_wp2_with fail
                        go_ret
                        exact ⟨by rw [HC.out, HN.out]; simp [si], G11.out.2.1⟩
                      have si12 : (c.sig.size : Int) = 15 := by omega
                      go_wp2_with fail
                      go_ret
                      exact ⟨by rw [HC.out, decide_eq_true s6, decide_eq_true s12]; rfl, G11.out.2.1⟩
end Go.Proofs.Ytlnklfchdnndpaa
