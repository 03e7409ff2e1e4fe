/-
  Texts of the proof.
-/
import Derived.Test.YtjgbmnhoajiabaaGreatDoorSQ43
set_option maxRecDepth 100000
namespace Go.Proofs.YtjgbmnhoajiabaaGreatDoor
open Go.RowKit
set_option linter.unusedVariables false
def listedL : List (Int × Int) -> Int -> Int
 | [], _ => 0
 | p :: l, s => if p.1 = s then p.2 else listedL l s
theorem listed_hit {l : List (Int × Int)} {s : Int} {k : Nat} (hk : k < l.length) (h : (l.getD k (0, 0)).1 = s) : listedL (l.drop k) s = (l.getD k (0, 0)).2 := by
 rw [List.drop_eq_getElem_cons hk]
 have e : l.getD k (0, 0) = l[k] := by simp [List.getD, hk]
 rw [e] at h |-
 show (if _ then _ else _) = _
 rw [if_pos h]
theorem listed_miss {l : List (Int × Int)} {s : Int} {k : Nat} (hk : k < l.length) (h : ¬ (l.getD k (0, 0)).1 = s) : listedL (l.drop k) s = listedL (l.drop (k + 1)) s := by
 have e : l.getD k (0, 0) = l[k] := by simp [List.getD, hk]
 rw [e] at h
 rw [List.drop_eq_getElem_cons hk]
 show (if _ then _ else _) = _
 rw [if_neg h]
theorem listed_end {l : List (Int × Int)} {s : Int} {k : Nat} (hk : l.length <= k) : listedL (l.drop k) s = 0 := by
 rw [List.drop_eq_nil_of_le hk]; rfl
set_option maxHeartbeats 1600000 in
theorem specListed_any (c : Cl) (v : Value) (s : Int) (w : World) (hz : wtL c <= 1000000000) (ha : ClAt w v c) :
  Calls Tryz.prog 45 #[v, .int .i64 s] w fun e w' => e = .returned (.int .i64 (listedL c.revs s)) /\ Below w.heap.size w w' := by
 obtain ⟨pv, rfl, h1⟩ := ha
 obtain ⟨z1, z2, z3⟩ := wtL_parts hz
 clear hz
 obtain ⟨pa, pc, hpa, hrev⟩ := h1
 obtain ⟨lp, hlp⟩ : ∃ l, c.revs.length = l := ⟨_, rfl⟩
 rw [hlp] at hpa z2
 subst hpa
 have HRV : Hid (c.revs.length = lp /\ ∀ j, j < c.revs.length -> ∃ g, pa = some ⟨g, 0, none⟩ /\ g < w.heap.size /\ w.cell? ⟨g, j * 2, none⟩ = some (.int .i64 (c.revs.getD j (0, 0)).1) /\ w.cell? ⟨g, j * 2 + 1, none⟩ = some (.int .i64 (c.revs.getD j (0, 0)).2)) := ⟨hlp, hrev⟩
 clear hrev hlp
 unfold clV
 go_enter Tryz.func45, Tryz.ntmps45
 go_wp2_with fail
 obtain ⟨V, hV⟩ : ∃ V, V = w.alloc (Obj.cells #[.string c.issuer, .int .i64 c.num, .int .i64 c.ths, .int .i64 c.nxt, .int .i64 c.bas, .slice pa lp pc, .string c.sig] 49) := ⟨_, rfl⟩
 rw [<- hV]
 have G : Hid (Below w.heap.size w V /\ Blk V w.heap.size 49 #[.string c.issuer, .int .i64 c.num, .int .i64 c.ths, .int .i64 c.nxt, .int .i64 c.bas, .slice pa lp pc, .string c.sig]) := by rw [hV]; exact ⟨(Below.refl _ _).alloc (Nat.le_refl _) _, Blk.new w _ _⟩
 clear hV
 go_loopw [5] (fun iv wr => ∃ k : Nat, k <= lp /\ iv = .int .i64 k /\ Hid (listedL c.revs s = listedL (c.revs.drop k) s) /\ Hid (Below w.heap.size w wr /\ Blk wr w.heap.size 49 #[.string c.issuer, .int .i64 c.num, .int .i64 c.ths, .int .i64 c.nxt, .int .i64 c.bas, .slice pa lp pc, .string c.sig])) (fun iv _ => lp - (intOf iv).toNat)
 case atStart => exact ⟨0, Nat.zero_le _, rfl, rfl, G.out⟩
 case round =>
  obtain ⟨k, hk, rfl, HI, HG⟩ := hrel
  have c5 : wr.cell? ⟨w.heap.size, 5, none⟩ = some (.slice pa lp pc) := HG.out.2.cell 5
  by_cases hlt : k < lp
  ·obtain ⟨g, hao, hg, hc1, hc2⟩ := HRV.out.2 k (by rw [HRV.out.1]; exact hlt)
   have d1 : wr.cell? ⟨g, k * 2, none⟩ = some (.int .i64 (c.revs.getD k (0, 0)).1) := (HG.out.1.cell (p := ⟨g, k * 2, none⟩) hg).trans hc1
   have d2 : wr.cell? ⟨g, k * 2 + 1, none⟩ = some (.int .i64 (c.revs.getD k (0, 0)).2) := (HG.out.1.cell (p := ⟨g, k * 2 + 1, none⟩) hg).trans hc2
   have HX1 : Hid ((c.revs.getD k (0, 0)).1 = s -> listedL c.revs s = (c.revs.getD k (0, 0)).2) := fun q => by rw [HI.out]; exact listed_hit (by rw [HRV.out.1]; exact hlt) q
   have HX2 : Hid (¬ (c.revs.getD k (0, 0)).1 = s -> listedL c.revs s = listedL (c.revs.drop (k + 1)) s) := fun q => by rw [HI.out]; exact listed_miss (by rw [HRV.out.1]; exact hlt) q
   generalize (c.revs.getD k (0, 0)).1 = x at *
   generalize (c.revs.getD k (0, 0)).2 = r at *
   subst hao
   have HGL : Hid (g < w.heap.size) := hg
   have HAL : Hid (∀ o, Below w.heap.size w (wr.alloc o) /\ Blk (wr.alloc o) w.heap.size 49 #[.string c.issuer, .int .i64 c.num, .int .i64 c.ths, .int .i64 c.nxt, .int .i64 c.bas, .slice (some ⟨g, 0, none⟩) lp pc, .string c.sig]) := fun o => ⟨HG.out.1.alloc HG.out.1.size o, HG.out.2.alloc o⟩
   clear hc1 hc2 hg HI
   have hki : (k : Int) < (lp : Int) := by omega
   have hk0 : (0 : Int) <= (k : Int) := by omega
   by_cases he : x = s
   ·have HF : Hid (listedL c.revs s = r) := HX1.out he
    subst he
    clear HX1 HX2
    go_wp2_with fail
    go_ret
    exact ⟨by rw [HF.out]; rfl, by first | exact HG.out.1 | exact (HAL.out _).1⟩
   ·have HN : Hid (listedL c.revs s = listedL (c.revs.drop (k + 1)) s) := HX2.out he
    have hq : (x == s) = false := beq_eq_false_iff_ne.2 he
    clear HX1 HX2
    go_wp2_with fail
    go_roundw
    case rel => exact ⟨k + 1, by omega, by go_num, HN, by first | exact HG.out | exact HAL.out _⟩
    case measure => simp [intOf]; omega
  ·have hki : ¬ (k : Int) < (lp : Int) := by omega
   have HF : Hid (listedL c.revs s = 0) := by show listedL c.revs s = 0; rw [HI.out]; exact listed_end (by rw [HRV.out.1]; omega)
   go_wp2_with fail
   go_ret
   exact ⟨by rw [HF.out]; rfl, HG.out.1⟩
theorem nw_mem {P : Cl -> Bool} {l : List Cl} {c : Cl} (h : nwL P l = some c) : c ∈ l := by
 unfold nwL at h
 obtain ⟨b, hb, rfl⟩ := Option.map_eq_some_iff.1 h
 have hlt := bst_lt hb
 rw [List.getD_eq_getElem?_getD, List.getElem?_eq_getElem hlt]
 exact List.getElem_mem hlt
theorem nw_wt {P : Cl -> Bool} {l : List Cl} {m : Nat} (h : wtS l <= m) : wtL ((nwL P l).getD zeL) <= m := by
 cases hn : nwL P l with
 | none => exact Nat.zero_le _
 | some c => exact Nat.le_trans (wtS_mem (nw_mem hn)) h
theorem wtS_filter (p : Cl -> Bool) : ∀ l : List Cl, wtS (l.filter p) <= wtS l
 | [] => Nat.le_refl _
 | c :: l => by
  have ih := wtS_filter p l
  unfold wtS at ih |-
  by_cases h : p c = true
  ·rw [List.filter_cons_of_pos h]
   simp only [List.map_cons, List.sum_cons, List.length_cons]
   omega
  ·rw [List.filter_cons_of_neg h]
   simp only [List.map_cons, List.sum_cons, List.length_cons]
   omega
end Go.Proofs.YtjgbmnhoajiabaaGreatDoor
