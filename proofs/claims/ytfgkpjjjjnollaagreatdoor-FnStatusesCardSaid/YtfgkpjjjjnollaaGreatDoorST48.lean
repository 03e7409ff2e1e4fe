/-
  Texts of the proof, one behind the other: CoA, ClI, LwA.
-/
import Derived.Deep.AppendLies
import Derived.Test.YtfgkpjjjjnollaaGreatDoorST6
import Derived.Test.YtfgkpjjjjnollaaGreatDoorST8
import Derived.Test.YtfgkpjjjjnollaaGreatDoorST11
import Derived.Test.YtfgkpjjjjnollaaGreatDoorST22
import Derived.Test.YtfgkpjjjjnollaaGreatDoorST42
import Derived.Test.YtfgkpjjjjnollaaGreatDoorST47

/-
  Lists appended to rows of lists; which lists are believed.
-/
namespace Go.Proofs.YtfgkpjjjjnollaaGreatDoor
open Go.RowKit Der
set_option linter.unusedVariables false

theorem news_crl (w : World) (c : Cl) (p : Value) : ∀ j u, (clV c p).cells.toList[j]? = some u → (w.alloc (.cells #[.string c.issuer, .int .i64 c.num, .int .i64 c.ths, .int .i64 c.nxt, .int .i64 c.bas, p, .string c.sig] 49)).cell? ((⟨w.heap.size, 0, none⟩ : Addr).add j) = some u := by
  intro j u hj
  rw [Addr.add_lit, Nat.zero_add, World.cell?_alloc_mark w _ 49 _ j]
  simpa [clV, Value.cells] using hj
theorem wpList_append_crl {w : World} {ops : Array Oper} {rest : List Oper} {o : Oper} {a : Act} {Q : Exit → Act → World → Prop} (hgd : o.guard = none) (p q : Operand) (ho : o.op = .call { callee := .builtin .append, args := #[p, q], argTypes := #[56, 56] })
    (base : Nat) (v : Value) (l : List Cl) (fp : List Nat) (c : Cl) (pv : Value) (hp : a.eval p = v) (H : Nat) (hq : a.eval q = .slice (some ⟨H, 0, none⟩) 1 1) (hH : w.heap.size = H) (hO : OwnS crlKd w base v l fp) (hu : OwnL w base (clV c pv) c) (hd : ∀ b ∈ fpL (clV c pv), b ∉ fp) (hbase : base ≤ w.heap.size) (hl : l.length ≤ 100000000)
    (h : ∀ g cap w' fp', OwnS crlKd w' base (.slice (some ⟨g, 0, none⟩) (l ++ [c]).length cap) (l ++ [c]) fp' → Below base w w' → wpList Tryz.prog ops Q rest (a.put o.dst (.slice (some ⟨g, 0, none⟩) (l.length + 1) cap)) w') :
    wpList Tryz.prog ops Q (o :: rest) a (w.alloc (.cells #[.string c.issuer, .int .i64 c.num, .int .i64 c.ths, .int .i64 c.nxt, .int .i64 c.bas, pv, .string c.sig] 49)) := by
  subst hH
  have hlt := hO.lt
  obtain ⟨vs, hvl, hro, he, rfl, hn⟩ := hO
  obtain ⟨i0, hi, hz0, hz1, hz2⟩ := info_parts infoCrl
  have hb1 : Below w.heap.size w (w.alloc (.cells #[.string c.issuer, .int .i64 c.num, .int .i64 c.ths, .int .i64 c.nxt, .int .i64 c.bas, pv, .string c.sig] 49)) := (Below.refl _ _).alloc (Nat.le_refl _) _
  have hsz := size_alloc w (.cells #[.string c.issuer, .int .i64 c.num, .int .i64 c.ths, .int .i64 c.nxt, .int .i64 c.bas, pv, .string c.sig] 49)
  refine wpList_append_lies _ hgd p q 56 ho base 49 i0 (.agg #[.string ⟨#[]⟩, .int .i64 0, .int .i64 0, .int .i64 0, .int .i64 0, .slice none 0 0, .string ⟨#[]⟩]) 7 88 Tryz.underlying56 hi hz0 hz1 hz2 rfl (by decide) v l.length (cellsV vs) hp (own_kept hro hb1) ⟨w.heap.size, 0, none⟩ 1 1 (clV c pv).cells.toList hq rfl (news_crl w c pv) (crlKd.size (OwnL.stays hu hb1)).2 (by decide) (by unfold maxLen; omega) (by omega) (by omega) _ rfl ?_
  intro g cap w' hown hgrow hg hlt2
  obtain ⟨fp', hS, -⟩ := OwnS.snoc (k := crlKd) (fp := []) (c := c) (u := clV c pv) hvl (own_kept hro hb1) (fun j a b => crlKd.same (he j a b) fun y hy => hb1.block y (crlKd.lt (he j a b) y hy).2) hn (OwnL.stays hu hb1) hd hown hgrow hg
  refine h g cap w' fp' hS ((hb1.mono hbase).grown hgrow (by rw [hsz]; omega) (fun b hb => (hlt b (List.mem_append_left _ (Option.mem_toList.2 hb))).1))
def CoPost (w : World) (l : List Cl) (e : Ending) (w' : World) : Prop := ∃ u fp', e = .returned u ∧ OwnS crlKd w' w.heap.size u l fp' ∧ Below w.heap.size w w'
/-- Whether a list is believed: right, of this issuer, in time, signed. -/
def belB (iss key : ByteArray) (time : Int) (c : Cl) : Bool := crlOk c && (c.issuer.toList == iss.toList) && decide (c.ths ≤ time) && decide (time ≤ c.nxt) && sokB key (⟨((writeI 4 (bodyL c)).getD []).toArray⟩ : ByteArray) c.sig
theorem bel_ok {iss key : ByteArray} {time : Int} {c : Cl} (h : crlOk c = false) : belB iss key time c = false := by unfold belB; rw [h]; rfl
theorem bel_iss {iss key : ByteArray} {time : Int} {c : Cl} (h : (c.issuer.toList == iss.toList) = false) : belB iss key time c = false := by unfold belB; rw [h, Bool.and_false]; rfl
theorem bel_ths {iss key : ByteArray} {time : Int} {c : Cl} (h : ¬ c.ths ≤ time) : belB iss key time c = false := by unfold belB; rw [decide_eq_false h, Bool.and_false]; rfl
theorem bel_nxt {iss key : ByteArray} {time : Int} {c : Cl} (h : ¬ time ≤ c.nxt) : belB iss key time c = false := by unfold belB; rw [decide_eq_false h, Bool.and_false]; rfl
theorem bel_all {iss key : ByteArray} {time : Int} {c : Cl} (h1 : crlOk c = true) (h2 : (c.issuer.toList == iss.toList) = true) (h3 : c.ths ≤ time) (h4 : time ≤ c.nxt) : belB iss key time c = sokB key (⟨((writeI 4 (bodyL c)).getD []).toArray⟩ : ByteArray) c.sig := by unfold belB; rw [h1, h2, decide_eq_true h3, decide_eq_true h4]; rfl
theorem filter_next {l : List Cl} {f : Cl → Bool} {k : Nat} (hk : k < l.length) : (l.take (k + 1)).filter f = (l.take k).filter f ++ (if f (l.getD k zeL) = true then [l.getD k zeL] else []) := by
  have e : l.getD k zeL = l[k] := by rw [List.getD_eq_getElem?_getD, List.getElem?_eq_getElem hk]; rfl
  rw [List.take_succ_eq_append_getElem hk, List.filter_append, e]
  congr 1
  by_cases h : f l[k] = true
  · rw [if_pos h, List.filter_cons_of_pos h]; rfl
  · rw [if_neg h, List.filter_cons_of_neg h]; rfl
theorem wtS_getD2 {l : List Cl} {k m : Nat} (h : wtS l ≤ m) (hk : k < l.length) : wtL (l.getD k zeL) ≤ m := by
  rw [List.getD_eq_getElem?_getD, List.getElem?_eq_getElem hk]
  exact Nat.le_trans (wtS_mem (List.getElem_mem hk)) h
theorem wd_getD {l : List Cl} {k : Nat} (h : ∀ c ∈ l, WdL c) (hk : k < l.length) : WdL (l.getD k zeL) := by
  rw [List.getD_eq_getElem?_getD, List.getElem?_eq_getElem hk]
  exact h _ (List.getElem_mem hk)
end Go.Proofs.YtfgkpjjjjnollaaGreatDoor

/-
  Listed, of both: the Reason of a Serial, 0 without it.
-/
namespace Go.Proofs.YtfgkpjjjjnollaaGreatDoor
open Go.RowKit
set_option linter.unusedVariables false

/-- The Reason of a Serial; 0 without it. -/
def listedL : List (Int × Int) → Int → Int
  | [], _ => 0
  | p :: l, s => if p.1 = s then p.2 else listedL l s
theorem listed_hit {l : List (Int × Int)} {s : Int} {k : Nat} (hk : k < l.length) (h : (l.getD k (0, 0)).1 = s) : listedL (l.drop k) s = (l.getD k (0, 0)).2 := by
  rw [List.drop_eq_getElem_cons hk]
  have e : l.getD k (0, 0) = l[k] := by simp [List.getD, hk]
  rw [e] at h ⊢
  show (if _ then _ else _) = _
  rw [if_pos h]
theorem listed_miss {l : List (Int × Int)} {s : Int} {k : Nat} (hk : k < l.length) (h : ¬ (l.getD k (0, 0)).1 = s) : listedL (l.drop k) s = listedL (l.drop (k + 1)) s := by
  have e : l.getD k (0, 0) = l[k] := by simp [List.getD, hk]
  rw [e] at h
  rw [List.drop_eq_getElem_cons hk]
  show (if _ then _ else _) = _
  rw [if_neg h]
theorem listed_end {l : List (Int × Int)} {s : Int} {k : Nat} (hk : l.length ≤ k) : listedL (l.drop k) s = 0 := by
  rw [List.drop_eq_nil_of_le hk]; rfl
set_option maxHeartbeats 1600000 in
set_option maxRecDepth 100000 in
theorem implListed_any (c : Cl) (v : Value) (s : Int) (w : World) (hz : wtL c ≤ 1000000000) (ha : ClAt w v c) :
    Calls Tryz.prog 44 #[v, .int .i64 s] w fun e w' => e = .returned (.int .i64 (listedL c.revs s)) ∧ Below w.heap.size w w' := by
  obtain ⟨pv, rfl, h1⟩ := ha
  obtain ⟨z1, z2, z3⟩ := wtL_parts hz
  clear hz
  obtain ⟨pa, pc, hpa, hrev⟩ := h1
  obtain ⟨lp, hlp⟩ : ∃ l, c.revs.length = l := ⟨_, rfl⟩
  rw [hlp] at hpa z2
  subst hpa
  have HRV : Hid (c.revs.length = lp ∧ ∀ j, j < c.revs.length → ∃ g, pa = some ⟨g, 0, none⟩ ∧ g < w.heap.size ∧ w.cell? ⟨g, j * 2, none⟩ = some (.int .i64 (c.revs.getD j (0, 0)).1) ∧ w.cell? ⟨g, j * 2 + 1, none⟩ = some (.int .i64 (c.revs.getD j (0, 0)).2)) := ⟨hlp, hrev⟩
  clear hrev hlp
  unfold clV
  go_enter Tryz.func44, Tryz.ntmps44
  go_wp2_with fail
  obtain ⟨V, hV⟩ : ∃ V, V = w.alloc (Obj.cells #[.string c.issuer, .int .i64 c.num, .int .i64 c.ths, .int .i64 c.nxt, .int .i64 c.bas, .slice pa lp pc, .string c.sig] 49) := ⟨_, rfl⟩
  rw [← hV]
  have G : Hid (Below w.heap.size w V ∧ Blk V w.heap.size 49 #[.string c.issuer, .int .i64 c.num, .int .i64 c.ths, .int .i64 c.nxt, .int .i64 c.bas, .slice pa lp pc, .string c.sig]) := by rw [hV]; exact ⟨(Below.refl _ _).alloc (Nat.le_refl _) _, Blk.new w _ _⟩
  clear hV
  go_loopw [10] (fun iv wr => ∃ k : Nat, k ≤ lp ∧ iv = .int .i64 k ∧ Hid (listedL c.revs s = listedL (c.revs.drop k) s) ∧ Hid (Below w.heap.size w wr ∧ Blk wr w.heap.size 49 #[.string c.issuer, .int .i64 c.num, .int .i64 c.ths, .int .i64 c.nxt, .int .i64 c.bas, .slice pa lp pc, .string c.sig])) (fun iv _ => lp - (intOf iv).toNat)
  case atStart => exact ⟨0, Nat.zero_le _, rfl, rfl, G.out⟩
  case round =>
    obtain ⟨k, hk, rfl, HI, HG⟩ := hrel
    have c5 : wr.cell? ⟨w.heap.size, 5, none⟩ = some (.slice pa lp pc) := HG.out.2.cell 5
    by_cases hlt : k < lp
    · obtain ⟨g, hao, hg, hc1, hc2⟩ := HRV.out.2 k (by rw [HRV.out.1]; exact hlt)
      have d1 : wr.cell? ⟨g, k * 2, none⟩ = some (.int .i64 (c.revs.getD k (0, 0)).1) := (HG.out.1.cell (p := ⟨g, k * 2, none⟩) hg).trans hc1
      have d2 : wr.cell? ⟨g, k * 2 + 1, none⟩ = some (.int .i64 (c.revs.getD k (0, 0)).2) := (HG.out.1.cell (p := ⟨g, k * 2 + 1, none⟩) hg).trans hc2
      have HX1 : Hid ((c.revs.getD k (0, 0)).1 = s → listedL c.revs s = (c.revs.getD k (0, 0)).2) := fun q => by rw [HI.out]; exact listed_hit (by rw [HRV.out.1]; exact hlt) q
      have HX2 : Hid (¬ (c.revs.getD k (0, 0)).1 = s → listedL c.revs s = listedL (c.revs.drop (k + 1)) s) := fun q => by rw [HI.out]; exact listed_miss (by rw [HRV.out.1]; exact hlt) q
      generalize (c.revs.getD k (0, 0)).1 = x at *
      generalize (c.revs.getD k (0, 0)).2 = r at *
      subst hao
      have HGL : Hid (g < w.heap.size) := hg
      have HAL : Hid (∀ o, Below w.heap.size w (wr.alloc o) ∧ Blk (wr.alloc o) w.heap.size 49 #[.string c.issuer, .int .i64 c.num, .int .i64 c.ths, .int .i64 c.nxt, .int .i64 c.bas, .slice (some ⟨g, 0, none⟩) lp pc, .string c.sig]) := fun o => ⟨HG.out.1.alloc HG.out.1.size o, HG.out.2.alloc o⟩
      clear hc1 hc2 hg HI
      have hki : (k : Int) < (lp : Int) := by omega
      have hk0 : (0 : Int) ≤ (k : Int) := by omega
      by_cases he : x = s
      · have HF : Hid (listedL c.revs s = r) := HX1.out he
        subst he
        clear HX1 HX2
        go_wp2_with fail
        go_ret
        exact ⟨by rw [HF.out]; rfl, by first | exact HG.out.1 | exact (HAL.out _).1⟩
      · have HN : Hid (listedL c.revs s = listedL (c.revs.drop (k + 1)) s) := HX2.out he
        have hq : (x == s) = false := beq_eq_false_iff_ne.2 he
        clear HX1 HX2
        go_wp2_with fail
        go_roundw
        case rel => exact ⟨k + 1, by omega, by go_num, HN, by first | exact HG.out | exact HAL.out _⟩
        case measure => simp [intOf]; omega
    · have hki : ¬ (k : Int) < (lp : Int) := by omega
      have HF : Hid (listedL c.revs s = 0) := by show listedL c.revs s = 0; rw [HI.out]; exact listed_end (by rw [HRV.out.1]; omega)
      go_wp2_with fail
      go_ret
      exact ⟨by rw [HF.out]; rfl, HG.out.1⟩
end Go.Proofs.YtfgkpjjjjnollaaGreatDoor

/-
  How great the newest of lists is.
-/
namespace Go.Proofs.YtfgkpjjjjnollaaGreatDoor
open Go.RowKit
set_option linter.unusedVariables false

theorem nw_mem {P : Cl → Bool} {l : List Cl} {c : Cl} (h : nwL P l = some c) : c ∈ l := by
  unfold nwL at h
  obtain ⟨b, hb, rfl⟩ := Option.map_eq_some_iff.1 h
  have hlt := bst_lt hb
  rw [List.getD_eq_getElem?_getD, List.getElem?_eq_getElem hlt]
  exact List.getElem_mem hlt
theorem nw_wt {P : Cl → Bool} {l : List Cl} {m : Nat} (h : wtS l ≤ m) : wtL ((nwL P l).getD zeL) ≤ m := by
  cases hn : nwL P l with
  | none => exact Nat.zero_le _
  | some c => exact Nat.le_trans (wtS_mem (nw_mem hn)) h
end Go.Proofs.YtfgkpjjjjnollaaGreatDoor
