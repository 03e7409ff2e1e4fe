/-
  Texts of the proof.
-/
import Derived.Deep.RegionHeld3
import Derived.Laws.AppendOwnNone
import Derived.Deep.AppendLies
import Derived.Test.YtcbjlbpkoneibaaGreatDoorSR7
set_option linter.unusedVariables false
set_option linter.unusedSimpArgs false
set_option maxRecDepth 100000
set_option maxHeartbeats 25600000
namespace Go.Proofs.YtcbjlbpkoneibaaGreatDoor
open Go.RowKit
theorem OwnL.same {w w' : World} {base : Nat} {v : Value} {c : Cl} (h : OwnL w base v c) (hs : ∀ g ∈ fpL v, w'.heap[g]? = w.heap[g]?) : OwnL w' base v c := by
 obtain ⟨p, rfl, h1⟩ := h;exact ⟨p, rfl, row_same h1 fun g hg => hs g (fpL_mem.2 hg)⟩
theorem own_one {w : World} {base : Nat} {p : Value} {l : List (Int × Int)} (h : OwnR w base p l) : p.oneCell' = true := by
 obtain ⟨ao, cap, rfl, _⟩ := h.shape;rfl
def crlKd : Kd Cl where
 T := 26
 K := 7
 Own := OwnL
 At := ClAt
 fp := fpL
 pos := by decide
 size := fun h => by
  obtain ⟨p, rfl, h1⟩ := h;refine ⟨rfl, fun x hx => ?_⟩;change x ∈ [_, _, _, _, _, _, _] at hx;simp only [List.mem_cons, List.not_mem_nil, or_false] at hx
  rcases hx with rfl | rfl | rfl | rfl | rfl | rfl | rfl
  all_goals first | rfl | exact own_one h1
 same := OwnL.same
 lt := fpL_lt
 base := OwnL.base
 nodup := fun h => by
  obtain ⟨p, rfl, h1⟩ := h;show (p.ownBlock.toList).Nodup
  cases p.ownBlock <;> simp
 own_at := OwnL.at
 below := ClAt.below
def zeL : Cl := ⟨⟨#[]⟩, 0, 0, 0, 0, [], ⟨#[]⟩⟩
def zeV : Value := .agg #[zG ⟨#[]⟩, zI 0, zI 0, zI 0, zI 0, zZ, zG ⟨#[]⟩]
theorem own_zeL (w : World) (base : Nat) : OwnL w base zeV zeL := ⟨zZ, rfl, World.ownsRow_nil _ _ _ _⟩
theorem infoCrl : (Tryz.prog.info? 26).map (fun i => (i.zero, i.size, i.bytes)) = some (some (.agg #[zG ⟨#[]⟩, zI 0, zI 0, zI 0, zI 0, zZ, zG ⟨#[]⟩]), 7, 88) := by kernel_rfl
theorem OwnS.cells {w : World} {base g n cap : Nat} {l : List Cl} {fp : List Nat} (h : OwnS crlKd w base (zS (some ⟨g, 0, none⟩) n cap) l fp) (hn : n = l.length) {j : Nat} (hj : j < l.length) :
  (∃ u, OwnL w base u l[j] /\ (∀ b ∈ fpL u, b ∈ fp /\ b ≠ g) /\ ∀ i x, u.cells[i]? = some x -> w.cell? ⟨g, j * 7 + i, none⟩ = some x) /\ ∀ i, w.frozen? ⟨g, i, none⟩ = false := by
 subst hn;obtain ⟨vs, hl, hr, he, rfl, hnd⟩ := h;have hsz := OwnS.sizes hl he;refine ⟨⟨vs[j]'(by omega), he j (by omega) hj, fun b hb => ⟨List.mem_append_right _ (mem_flat (by omega) hb), fun e => ?_⟩, fun i x hx => ?_⟩, fun i => World.ownsRow.frozenAt hr i⟩
 ·subst e
  exact (List.nodup_append.1 hnd).2.2 b (by simp [Value.ownBlock]) b (mem_flat (by omega) hb) rfl
 ·have hi : i < 7 := by
   have := (Array.getElem?_eq_some_iff.1 hx).1;rw [hsz _ (List.getElem_mem _)] at this;exact this
  rw [World.ownsRow.cellAt hr _ (by show j * 7 + i < l.length * 7; omega)];exact (cellsV_at hsz j (by omega) i hi).trans hx
end Go.Proofs.YtcbjlbpkoneibaaGreatDoor
namespace Go.Proofs.YtcbjlbpkoneibaaGreatDoor
open Go.RowKit
theorem upTo_any (hi n : Int) (w : World) : Calls Tryz.prog 124 #[zI hi, zI n] w fun e w' => e = .returned (.bool (inB n 0 hi)) /\ zW w w' := by
 by_cases h : 0 <= n
 ·by_cases h2 : n <= hi
  ·have HB : Hid (inB n 0 hi = true) := decide_eq_true ⟨h, h2⟩
   go_enter Tryz.func124, Tryz.ntmps124;go_wp2_with fail;go_ret;exact ⟨by rw [HB.out]; simp [*], Below.refl _ _⟩
  ·have HB : Hid (inB n 0 hi = false) := decide_eq_false (fun q => h2 q.2)
   go_enter Tryz.func124, Tryz.ntmps124;go_wp2_with fail;go_ret;exact ⟨by rw [HB.out]; simp [*], Below.refl _ _⟩
 ·have HB : Hid (inB n 0 hi = false) := decide_eq_false (fun q => h q.1)
  go_enter Tryz.func124, Tryz.ntmps124;go_wp2_with fail;go_ret;exact ⟨by rw [HB.out]; simp [*], Below.refl _ _⟩
end Go.Proofs.YtcbjlbpkoneibaaGreatDoor
namespace Go.Proofs.YtcbjlbpkoneibaaGreatDoor
open Go.RowKit
theorem wpList_append_list {w : World} {ops : Array Oper} {rest : List Oper} {o : Oper} {a : Act} {Q : Exit -> Act -> World -> Prop} (hgd : o.guard = none) (s x : Operand) (t : TypeId)
  (ho : o.op = .call { callee := .builtin .append, args := #[s, x], argTypes := #[t, t] }) (base : Nat) (i0 : TypeInfo) (ht : Tryz.prog.underlying t = some (.slice 3)) (hi : Tryz.prog.info? 3 = some i0) (hz0 : i0.zero = some (.int .i64 0)) (hz1 : i0.size = 1) (hz2 : i0.bytes = 8)
  (v : Value) (n : Nat) (xs : List Value) (hs : a.eval s = v) (hown : w.ownsRow base 3 1 v n xs) (u : Value) (lu : List Int) (bu : Nat) (hu : OwnI w bu u lu) (hx : a.eval x = u) (hlen : n + lu.length <= 1000000) (hbase : base <= w.heap.size)
  (h : ∀ v' w', w'.ownsRow base 3 1 v' (n + lu.length) (xs ++ cellsI lu) -> w.grownBy w' v.ownBlock -> wpList Tryz.prog ops Q rest (a.put o.dst v') w') : wpList Tryz.prog ops Q (o :: rest) a w := by
 rcases hu.2 with ⟨rfl, h0⟩ | ⟨g, cap, cur, rfl, hbg, hg, hn, hm, hsz, htk⟩
 ·have hl : lu = [] := List.eq_nil_of_length_eq_zero h0
  subst hl;refine wpList_append_own_none hgd s x t ho base 3 i0 1 ht hi v n xs hs hown hx (h v w (by simpa [cellsI] using hown) (World.grownBy.refl _ _))
 ·refine wpList_append_own w hgd s x t ho base 3 i0 (zI 0) 1 8 ht hi hz0 hz1 hz2 rfl (by decide) v n xs hs hown ⟨g, 0, none⟩ lu.length cap (cellsI lu) hx (by simp [cellsI]) (fun j q hq => ?_) (fun q hq => ?_) (by unfold maxLen; omega) (by omega) hbase (fun v' w' h1 h2 _ => h v' w' h1 h2)
  ·have hj : j < lu.length := by
    refine Nat.lt_of_not_le fun h => ?_
    rw [List.getElem?_eq_none (by rw [cellsI_len]; exact h)] at hq
    cases hq
   rw [Addr.add_lit, Nat.zero_add, hu.cell hj, <- hq, cellsI_getD hj]
  ·obtain ⟨y, _, rfl⟩ := List.mem_map.1 hq
   rfl
def tdV (c : Cl) (p : Value) : Value := .agg #[zG c.issuer, zI c.num, zI c.ths, zI c.nxt, zI c.bas, p]
def hdV (c : Cl) : Value := .agg #[zG c.issuer, zI c.num, zI c.ths, zI c.nxt, zI c.bas]
theorem tidingsOf_any (c : Cl) (p : Value) (w : World) (hp : ∃ pa lp pc, p = zS pa lp pc) : Calls Tryz.prog 28 #[clV c p] w fun e w' => e = .returned (tdV c p) /\ zW w w' := by
 obtain ⟨pa, lp, pc, rfl⟩ := hp;unfold clV;have e0 := size_alloc w (Obj.cells (zCl c (zS pa lp pc)) 26);go_enter Tryz.func28, Tryz.ntmps28;go_wp2_with fail;refine bodyPost_ret (v := tdV c (zS pa lp pc)) (by simp [results, Tryz.results28, go_sem, tdV]) rfl ⟨rfl, ?_⟩;exact ((Below.refl _ _).alloc (Nat.le_refl _) _).alloc (by omega) _
theorem allows_any (c : Cl) (r : Int) (w : World) : Calls Tryz.prog 125 #[hdV c, zI r] w fun e w' => e = .returned (.bool (inB r 1 10 && !(decide (r = 8) && decide (c.bas = 0)))) /\ zW w w' := by
 obtain ⟨Q, hQ⟩ := zE ((inB r 1 10 && !(decide (r = 8) && decide (c.bas = 0))));rw [hQ];unfold hdV;by_cases h8 : r = 8
 ·subst h8
  by_cases hb : c.bas = 0
  ·have HF : Hid (Q = false) := by show Q = _; rw [<- hQ, decide_eq_true hb]; rfl
   clear hQ;go_enter Tryz.func125, Tryz.ntmps125;go_wp2_with fail;go_ret;exact ⟨by rw [HF.out]; simp [hb], (Below.refl _ _).alloc (Nat.le_refl _) _⟩
  ·have HF : Hid (Q = true) := by show Q = _; rw [<- hQ, decide_eq_false hb]; rfl
   clear hQ;go_enter Tryz.func125, Tryz.ntmps125;go_wp2_with fail;go_ret;exact ⟨by rw [HF.out]; simp [hb], (Below.refl _ _).alloc (Nat.le_refl _) _⟩
 ·have hq : (r == 8) = false := beq_eq_false_iff_ne.2 h8
  by_cases h1 : 1 <= r
  ·by_cases h2 : r <= 10
   ·have HF : Hid (Q = true) := by show Q = _; rw [<- hQ, decide_eq_false h8]; simp [inB, h1, h2]
    clear hQ;go_enter Tryz.func125, Tryz.ntmps125;go_wp2_with fail;go_ret;exact ⟨by rw [HF.out]; simp [*], (Below.refl _ _).alloc (Nat.le_refl _) _⟩
   ·have HF : Hid (Q = false) := by show Q = _; rw [<- hQ, show inB r 1 10 = false from decide_eq_false (fun q => h2 q.2)]; rfl
    clear hQ;go_enter Tryz.func125, Tryz.ntmps125;go_wp2_with fail;go_ret;exact ⟨by rw [HF.out]; simp [*], (Below.refl _ _).alloc (Nat.le_refl _) _⟩
  ·have HF : Hid (Q = false) := by show Q = _; rw [<- hQ, show inB r 1 10 = false from decide_eq_false (fun q => h1 q.1)]; rfl
   clear hQ;go_enter Tryz.func125, Tryz.ntmps125;go_wp2_with fail;go_ret;exact ⟨by rw [HF.out]; simp [*], (Below.refl _ _).alloc (Nat.le_refl _) _⟩
theorem headRight_any (c : Cl) (w : World) (hz : c.issuer.size <= 1000000000) : Calls Tryz.prog 86 #[hdV c] w fun e w' => e = .returned (.bool (headOk c)) /\ zW w w' := by
 obtain ⟨NM, hNM⟩ := zE (c.num - 1);obtain ⟨B1, hB1⟩ := zE (nameOk c.issuer);have E1 : Hid (∀ W, Calls Tryz.prog 123 #[zG c.issuer] W fun e w' => e = .returned (.bool B1) /\ zW W w') := fun W => by rw [<- hB1]; exact implName_any c.issuer W (by omega)
 obtain ⟨B2, hB2⟩ := zE (inB c.bas 0 NM);have E2 : Hid (∀ W, Calls Tryz.prog 124 #[zI NM, zI c.bas] W fun e w' => e = .returned (.bool B2) /\ zW W w') := fun W => by rw [<- hB2]; exact upTo_any _ _ W
 obtain ⟨B3, hB3⟩ := zE (inB c.ths 0 9999);have E3 : Hid (∀ W, Calls Tryz.prog 124 #[zI 9999, zI c.ths] W fun e w' => e = .returned (.bool B3) /\ zW W w') := fun W => by rw [<- hB3]; exact upTo_any _ _ W
 obtain ⟨B4, hB4⟩ := zE (inB c.nxt 0 9999);have E4 : Hid (∀ W, Calls Tryz.prog 124 #[zI 9999, zI c.nxt] W fun e w' => e = .returned (.bool B4) /\ zW W w') := fun W => by rw [<- hB4]; exact upTo_any _ _ W
 have HC : Hid (headOk c = (B1 && (inB c.num 1 9999 && (B2 && (B3 && B4))))) := by show headOk c = _; unfold headOk; rw [hNM, hB1, hB2, hB3, hB4]
 have HWN : Hid (1 <= c.num -> c.num <= 9999 -> IntKind.i64.wrap (c.num - 1) = NM) := fun h1 h2 => by rw [IntKind.wrap_i64]; omega
 clear hB1 hB2 hB3 hB4 hNM;unfold hdV;go_enter Tryz.func86, Tryz.ntmps86;go_wp2_with fail;obtain ⟨V, hV⟩ : ∃ V, V = w.alloc (Obj.cells #[zG c.issuer, zI c.num, zI c.ths, zI c.nxt, zI c.bas] 53) := ⟨_, rfl⟩;rw [<- hV];have G : Hid (zW w V /\ Blk V w.heap.size 53 #[zG c.issuer, zI c.num, zI c.ths, zI c.nxt, zI c.bas]) := by rw [hV]; exact ⟨(Below.refl _ _).alloc (Nat.le_refl _) _, Blk.new w _ _⟩
 clear hV;refine (E1.out V).mono ?_;rintro e V1 ⟨rfl, hb⟩;have G1 := zH (zJ (G.1.trans (hb.mono G.1.size)) (G.2.below hb G.2.lt));clear hb G;have c0 := fun j => G1.2.cell j
 cases B1 with
 | false =>
  go_wp2_with fail;go_ret;exact ⟨by rw [HC.out]; simp, G1.1⟩
 | true =>
  by_cases n1 : 1 <= c.num;rotate_left
  ·have HN : Hid (inB c.num 1 9999 = false) := decide_eq_false (fun q => n1 q.1)
   go_wp2_with fail;go_ret;exact ⟨by rw [HC.out, HN.out]; simp, G1.1⟩
  by_cases n2 : c.num <= 9999;rotate_left
  ·have HN : Hid (inB c.num 1 9999 = false) := decide_eq_false (fun q => n2 q.2)
   go_wp2_with fail;go_ret;exact ⟨by rw [HC.out, HN.out]; simp, G1.1⟩
  have HNY : Hid (inB c.num 1 9999 = true) := decide_eq_true ⟨n1, n2⟩;have wn := HWN.out n1 n2;go_wp2_with fail;clear c0;refine (E2.out V1).mono ?_;rintro e V2 ⟨rfl, hb⟩;have G2 := zH (zJ (G1.1.trans (hb.mono G1.1.size)) (G1.2.below hb G1.2.lt));clear hb G1;have c0 := fun j => G2.2.cell j
  cases B2 with
  | false =>
   go_wp2_with fail;go_ret;exact ⟨by rw [HC.out]; simp, G2.1⟩
  | true =>
   go_wp2_with fail;clear c0;refine (E3.out V2).mono ?_;rintro e V3 ⟨rfl, hb⟩;have G3 := zH (zJ (G2.1.trans (hb.mono G2.1.size)) (G2.2.below hb G2.2.lt));clear hb G2;have c0 := fun j => G3.2.cell j
   cases B3 with
   | false =>
    go_wp2_with fail;go_ret;exact ⟨by rw [HC.out]; simp, G3.1⟩
   | true =>
    go_wp2_with fail;clear c0;refine (E4.out V3).mono ?_;rintro e V4 ⟨rfl, hb⟩;have G4 := zH (zJ (G3.1.trans (hb.mono G3.1.size)) (G3.2.below hb G3.2.lt));clear hb G3;have c0 := fun j => G4.2.cell j
    cases B4 with
    | false =>
     go_wp2_with fail;go_ret;exact ⟨by rw [HC.out]; simp, G4.1⟩
    | true =>
     go_wp2_with fail;go_ret;exact ⟨by rw [HC.out, HNY.out]; rfl, G4.1⟩
end Go.Proofs.YtcbjlbpkoneibaaGreatDoor
