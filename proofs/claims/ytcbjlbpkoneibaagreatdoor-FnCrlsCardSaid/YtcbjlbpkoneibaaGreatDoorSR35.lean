/-
  Texts of the proof.
-/
import Derived.WalkLawsBesides
import Derived.Test.YtcbjlbpkoneibaaGreatDoorSR34
set_option linter.unusedVariables false
set_option linter.unusedSimpArgs false
set_option maxRecDepth 100000
set_option maxHeartbeats 25600000
namespace Go.Proofs.YtcbjlbpkoneibaaGreatDoor
open Go.RowKit Der
def misfit : Ending := .panicked [{ v := .iface 99 (.agg #[]), recovered := false }]
theorem mustFit_yes (w : World) : Calls Tryz.prog 68 #[.bool true] w fun e w' => e = .returned (.tuple #[]) /\ w = w' := by
 go_enter Tryz.func68, Tryz.ntmps68;go_wp2_with fail
 first | go_end0 | skip
 exact ⟨rfl, rfl⟩
theorem mustFit_no (w : World) : Calls Tryz.prog 68 #[.bool false] w fun e w' => e = misfit /\ w = w' := by
 go_enter Tryz.func68, Tryz.ntmps68;go_wp2_with fail;exact ⟨rfl, rfl, rfl⟩
def KcAt (w : World) : (n : Nat) -> Value -> List (It n) -> Prop
 | 0, v, _ => ∃ ao cap, v = .slice ao 0 cap
 | n + 1, v, ks => ∃ ao cap, v = .slice ao ks.length cap /\ ks.length <= cap /\ (0 < ks.length -> ∃ g o, ao = some ⟨g, o, none⟩ /\ g < w.heap.size /\ ∀ j (hj : j < ks.length), ∃ k, w.cell? ⟨g, o + j * 3, none⟩ = some (.int .i64 (It.tag ks[j])) /\ w.cell? ⟨g, o + j * 3 + 1, none⟩ = some (.string ⟨(It.text ks[j]).toArray⟩) /\ w.cell? ⟨g, o + j * 3 + 2, none⟩ = some k /\ KcAt w n k (It.kids ks[j]))
theorem KcAt.of {w : World} {base : Nat} : ∀ {n : Nat} {v : Value} {ks : List (It n)} {fp : List Nat}, OwnK w base n v ks fp -> KcAt w n v ks
 | 0, _, _, _, ⟨h, _⟩ => h
 | n + 1, v, ks, fp, ⟨ao, cap, hv, h0, h⟩ => by
   by_cases hp : 0 < ks.length
   ·obtain ⟨g, o, c, f, fps, hao, hg, hr, hoc, hfp, hnd, hl, hk⟩ := h hp
    refine ⟨ao, cap, hv, hoc.2, fun _ => ⟨g, o, hao, hr.lt, fun j hj => ?_⟩⟩;obtain ⟨h1, h2, h3⟩ := hk j hj (by omega);exact ⟨f (o + j * 3 + 2), by rw [hr.cell (by omega), h1], by rw [hr.cell (by omega), h2], hr.cell (by omega), KcAt.of h3⟩
   ·exact ⟨ao, cap, hv, by omega, fun q => absurd q hp⟩
theorem KcAt.at {w : World} : ∀ {n : Nat} {v : Value} {ks : List (It n)}, KcAt w n v ks -> KidsAt w (ItAt w n) v ks
 | 0, v, ks, ⟨ao, cap, hv⟩ => by
   have hk : ks = [] := by
    cases ks with
    | nil => rfl
    | cons x _ => exact (x : Empty).elim
   subst hk;exact ⟨ao, cap, hv, fun h => absurd h (Nat.lt_irrefl _)⟩
 | n + 1, v, ks, ⟨ao, cap, hv, _, h⟩ => ⟨ao, cap, hv, fun hp => by
   obtain ⟨g, o, hao, hg, hk⟩ := h hp;refine ⟨g, o, hao, hg, fun j hj => ?_⟩;obtain ⟨k, c0, c1, c2, h3⟩ := hk j hj;exact ⟨_, _, _, c0, c1, c2, k, rfl, KcAt.at h3⟩⟩
theorem KcAt.below {w w' : World} (hb : zW w w') : ∀ {n : Nat} {v : Value} {ks : List (It n)}, KcAt w n v ks -> KcAt w' n v ks
 | 0, _, _, h => h
 | n + 1, v, ks, ⟨ao, cap, hv, hc, h⟩ => ⟨ao, cap, hv, hc, fun hp => by
   obtain ⟨g, o, hao, hg, hk⟩ := h hp;refine ⟨g, o, hao, Nat.lt_of_lt_of_le hg hb.size, fun j hj => ?_⟩;obtain ⟨k, c0, c1, c2, h3⟩ := hk j hj;exact ⟨k, (hb.cell (p := ⟨g, o + j * 3, none⟩) hg).trans c0, (hb.cell (p := ⟨g, o + j * 3 + 1, none⟩) hg).trans c1, (hb.cell (p := ⟨g, o + j * 3 + 2, none⟩) hg).trans c2, KcAt.below hb h3⟩⟩
theorem KcAt.shape {w : World} {n : Nat} {v : Value} {ks : List (It n)} (h : KcAt w n v ks) : ∃ ao cap, v = zS ao ks.length cap := by
 obtain ⟨ao, cap, h, _⟩ := h.at
 exact ⟨ao, cap, h⟩
def NextPost (w0 W : World) (g n : Nat) (o : Option (It (n + 1) × List (It (n + 1)))) (e : Ending) (W' : World) : Prop := Out [g] W W' /\
 ((o = none /\ e = misfit) ∨ ∃ (y : It (n + 1)) (r : List (It (n + 1))) (v' k : Value), o = some (y, r) /\ e = .returned (.agg #[zI (It.tag y), zG ⟨(It.text y).toArray⟩, k]) /\ KcAt w0 n k (It.kids y) /\ KcAt w0 (n + 1) v' r /\ Blk W' g 137 #[v'])
theorem Out.alloc {fp : List Nat} {a b : World} (h : Out fp a b) (o : Obj) : Out fp a (b.alloc o) := h.trans (Out.of_below ((Below.refl _ _).alloc (Nat.le_refl _) _))
theorem next_any (w0 W : World) (g n : Nat) (v : Value) (ks : List (It (n + 1))) (tag : Int) (hw : zW w0 W) (hk : KcAt w0 (n + 1) v ks) (hr : Blk W g 137 #[v]) (hg : w0.heap.size <= g) (hl : ks.length <= 1000000) :
  Calls Tryz.prog 113 #[.pointer (some ⟨g, 0, none⟩), zI tag] W fun e W' => NextPost w0 W g n (nextP tag ks) e W' := by
 cases ks with
 | nil =>
  obtain ⟨ao, cap, rfl, _, _⟩ := hk;have HR : Hid (Blk W g 137 #[zS ao 0 cap]) := hr;have cr := fun j => hr.cell j
  have cr2 := fun j => fun o => (hr.alloc o).cell j
  clear hr;go_enter Tryz.func113, Tryz.ntmps113;go_wp2_with fail;refine (mustFit_no _).mono ?_;rintro e w2 ⟨rfl, rfl⟩;unfold misfit;go_wp2_with fail;exact ⟨rfl, (Out.refl _ _).alloc _, .inl ⟨rfl, rfl⟩⟩
 | cons y r =>
  obtain ⟨ao, cap, rfl, hcap, hc⟩ := hk;obtain ⟨g1, o1, rfl, hg1, hcells⟩ := hc (by simp);obtain ⟨k0, d0, d1, d2, hkids⟩ := hcells 0 (by simp);change w0.cell? ⟨g1, o1 + 0 * 3, none⟩ = some (zI (It.tag y)) at d0;change w0.cell? ⟨g1, o1 + 0 * 3 + 1, none⟩ = some (zG ⟨(It.text y).toArray⟩) at d1;change KcAt w0 n k0 (It.kids y) at hkids;rw [Nat.zero_mul, Nat.add_zero] at d0 d1 d2;obtain ⟨ak, ck, hk0⟩ := hkids.shape;obtain ⟨lk, hlk⟩ := zE ((It.kids y).length);rw [hlk] at hk0;subst hk0;obtain ⟨t, ht⟩ := zE (It.tag y);obtain ⟨s, hs⟩ : ∃ s : ByteArray, (⟨(It.text y).toArray⟩ : ByteArray) = s := ⟨_, rfl⟩;obtain ⟨l, hle⟩ := zE (r.length);rw [ht] at d0;rw [hs] at d1;have hll : (y :: r).length = l + 1 := by rw [List.length_cons, hle]
  rw [hll] at hr hl hcap;have HK : Hid (It.tag y = t /\ (⟨(It.text y).toArray⟩ : ByteArray) = s /\ KcAt w0 n (zS ak lk ck) (It.kids y) /\ (∀ cap', l <= cap' -> KcAt w0 (n + 1) (zS (some ⟨g1, o1 + 3, none⟩) l cap') r) /\ (l = 0 -> ∀ ao, KcAt w0 (n + 1) (zS ao l 0) r)) := by
   refine ⟨ht, hs, hkids, fun cap' hc' => ⟨some ⟨g1, o1 + 3, none⟩, cap', by rw [hle], by omega, fun _ => ⟨g1, o1 + 3, rfl, hg1, fun j hj => ?_⟩⟩, fun h0 ao => ⟨ao, 0, by rw [hle], by omega, fun q => by omega⟩⟩;obtain ⟨a3, b1, b2, b3, b4⟩ := hcells (j + 1) (by simp; omega);refine ⟨a3, ?_, ?_, ?_, b4⟩
   ·rw [show o1 + 3 + j * 3 = o1 + (j + 1) * 3 by omega]; exact b1
   ·rw [show o1 + 3 + j * 3 = o1 + (j + 1) * 3 by omega]; exact b2
   ·rw [show o1 + 3 + j * 3 = o1 + (j + 1) * 3 by omega]; exact b3
  have hne : g1 ≠ g := by omega
  have hgW : g1 < W.heap.size := Nat.lt_of_lt_of_le hg1 hw.size;have HC : Hid (W.cell? ⟨g1, o1, none⟩ = some (zI t) /\ W.cell? ⟨g1, o1 + 1, none⟩ = some (zG s) /\ W.cell? ⟨g1, o1 + 2, none⟩ = some (zS ak lk ck)) := ⟨(hw.cell (p := ⟨g1, o1, none⟩) hg1).trans d0, (hw.cell (p := ⟨g1, o1 + 1, none⟩) hg1).trans d1, (hw.cell (p := ⟨g1, o1 + 2, none⟩) hg1).trans d2⟩;have HR : Hid (Blk W g 137 #[zS (some ⟨g1, o1, none⟩) (l + 1) cap]) := hr;have c0 : ∀ o, (W.alloc o).cell? ⟨g1, o1, none⟩ = some (zI t) := fun o => (World.cell?_of_block (heap_alloc_old W o hgW)).trans HC.1
  have cr := fun j => fun o => (hr.alloc o).cell j
  have hpos : (0 : Int) < (l : Int) + 1 := by omega
  have hne2 : Hid (g1 ≠ g /\ g1 < W.heap.size) := ⟨hne, hgW⟩;have HCap : Hid (l + 1 <= cap) := hcap;clear hc hcells d0 d1 d2 hkids hlk ht hs hle hll hr hne hgW hg1 hcap;obtain ⟨cap1, hcap1⟩ : ∃ c, cap = c + 1 := ⟨cap - 1, by have := HCap.out; omega⟩;subst hcap1;by_cases hb : t = tag
  ·have HN : Hid (nextP tag (y :: r) = some (y, r)) := by show (if It.tag y = tag then some (y, r) else none) = _; rw [if_pos (HK.1.trans hb)]
   subst hb;go_enter Tryz.func113, Tryz.ntmps113;go_wp2_with fail;refine (mustFit_yes _).mono ?_;rintro e w2 ⟨rfl, rfl⟩;obtain ⟨W1, hW1⟩ : ∃ W1, W1 = W.alloc (Obj.cells #[Value.int IntKind.i64 0, Value.string ⟨#[]⟩, Value.slice none 0 0] 50) := ⟨_, rfl⟩;rw [<- hW1];have hs1 : W1.heap.size = W.heap.size + 1 := by rw [hW1]; exact size_alloc _ _
   have hb1 : zW W W1 := by rw [hW1]; exact (Below.refl _ _).alloc (Nat.le_refl _) _
   have hres : Blk W1 W.heap.size 50 #[Value.int IntKind.i64 0, Value.string ⟨#[]⟩, Value.slice none 0 0] := by rw [hW1]; exact Blk.new _ _ _
   have hgl := HR.lt;have H1 := zH (zJ (hs1 : W1.heap.size = W.heap.size + 1) (zJ (hb1 : zW W W1) (zJ (hres : Blk W1 W.heap.size 50 #[Value.int IntKind.i64 0, Value.string ⟨#[]⟩, Value.slice none 0 0]) (HR.below hb1 hgl))));have e0 : W1.cell? ⟨g1, o1, none⟩ = some (zI t) := (hb1.cell (p := ⟨g1, o1, none⟩) hne2.2).trans HC.1;have e1 : W1.cell? ⟨g1, o1 + 1, none⟩ = some (zG s) := (hb1.cell (p := ⟨g1, o1 + 1, none⟩) hne2.2).trans HC.2.1;have e2 : W1.cell? ⟨g1, o1 + 2, none⟩ = some (zS ak lk ck) := (hb1.cell (p := ⟨g1, o1 + 2, none⟩) hne2.2).trans HC.2.2;have er := fun j => H1.2.2.2.cell j
   have er2 := fun j => fun o => (H1.2.2.2.alloc o).cell j
   have ez : ∀ o, (W1.alloc o).frozen? ⟨g, 0, none⟩ = false := fun o => (H1.2.2.2.alloc o).free 0
   have n1 : ¬ W1.heap.size = g := by omega
   have n2 : ¬ g = W1.heap.size := by omega
   have n3 : ¬ W.heap.size = g := by omega
   have n4 : ¬ g = W.heap.size := by omega
   have rr : ∀ (o : Obj) (v : Value), Blk ((W1.alloc o).setCell ⟨g, 0, none⟩ v) W.heap.size 50 #[Value.int IntKind.i64 0, Value.string ⟨#[]⟩, Value.slice none 0 0] := fun o v => (H1.2.2.1.alloc o).other _ n3
   have r0 := fun j => fun o v => (rr o v).cell j
   have rz : ∀ (o : Obj) (v : Value) (j : Nat), ((W1.alloc o).setCell ⟨g, 0, none⟩ v).frozen? ⟨W.heap.size, j, none⟩ = false := fun o v j => (rr o v).free j
   have HEND : Hid (∀ v : Value, let W9 := ((((W1.alloc (Obj.cells #[zI t, zG s, zS ak lk ck] 50)).setCell ⟨g, 0, none⟩ v).setCell ⟨W.heap.size, 0, none⟩ (zI t)).setCell ⟨W.heap.size, 1, none⟩ (zG s)).setCell ⟨W.heap.size, 2, none⟩ (zS ak lk ck); Out [g] W W9 /\ Blk W9 g 137 #[v]) := by
    intro v;have q1 := ((H1.2.2.2.alloc (Obj.cells #[zI t, zG s, zS ak lk ck] 50)).set 0 v);refine ⟨?_, ((q1.other _ n4).other _ n4).other _ n4⟩;have a1 : Out [g] W (W1.alloc (Obj.cells #[zI t, zG s, zS ak lk ck] 50)) := (Out.of_below H1.2.1).alloc _;have a2 := a1.setCell ⟨g, 0, none⟩ v (by simp);have b0 := ((Below.refl W.heap.size ((W1.alloc (Obj.cells #[zI t, zG s, zS ak lk ck] 50)).setCell ⟨g, 0, none⟩ v)).setCell (p := ⟨W.heap.size, 0, none⟩) (Nat.le_refl _) (zI t)).setCell (p := ⟨W.heap.size, 1, none⟩) (Nat.le_refl _) (zG s);have b1 := b0.setCell (p := ⟨W.heap.size, 2, none⟩) (Nat.le_refl _) (zS ak lk ck);exact ⟨b1.os.trans a2.1, b1.tape.trans a2.2.1, b1.output.trans a2.2.2.1, Nat.le_trans a2.2.2.2.1 b1.size, fun b hb hn => (b1.block b hb).trans (a2.2.2.2.2 b hb hn)⟩
   clear hW1 hs1 hb1 hres c0 cr hgl rr;have hl1 : (1 : Int) <= (l : Int) + 1 := by omega
   go_wp2_with fail
   all_goals (
    refine bodyPost_ret (v := .agg #[zI t, zG s, zS ak lk ck]) (by simp [results, Tryz.results113, go_sem, r0]; try rfl) rfl ?_;refine ⟨(HEND.out _).1, .inr ⟨y, r, _, zS ak lk ck, HN.out, by rw [HK.1, HK.2.1], HK.2.2.1, ?_, (HEND.out _).2⟩⟩
    first | exact HK.2.2.2.1 _ (by have := HCap.out; omega) | exact HK.2.2.2.2 (by have := HCap.out; omega) _)
  ·have HN : Hid (nextP tag (y :: r) = none) := by show (if It.tag y = tag then some (y, r) else none) = _; rw [if_neg (fun q => hb (HK.1.symm.trans q))]
   have hbq : (t == tag) = false := beq_eq_false_iff_ne.2 hb;clear hb;go_enter Tryz.func113, Tryz.ntmps113;go_wp2_with fail;refine (mustFit_no _).mono ?_;rintro e w2 ⟨rfl, rfl⟩;unfold misfit;go_wp2_with fail;exact ⟨rfl, (Out.refl _ _).alloc _, .inl ⟨HN.out, rfl⟩⟩
theorem run_field_item (t : Int) (s : ByteArray) (a : Option Addr) (l c : Nat) (w : World) : Sem.run Tryz.prog (Instr.field 50 (.agg #[zI t, zG s, zS a l c]) 1) w = .ok (zG s) w := by
 first | kernel_rfl | rfl | simp [Instr.field, go_sem]
def RdOf (t : Int) (a : Option Addr) (l c : Nat) (W : World) (e : Ending) (W' : World) : Prop := zW W W' /\ ((¬ t = 48 /\ e = misfit) ∨ (t = 48 /\ ∃ g, W.heap.size <= g /\ e = .returned (.pointer (some ⟨g, 0, none⟩)) /\ Blk W' g 137 #[zS a l c]))
theorem readerOf_any (t : Int) (s : ByteArray) (a : Option Addr) (l c : Nat) (W : World) : Calls Tryz.prog 69 #[.agg #[zI t, zG s, zS a l c]] W fun e W' => RdOf t a l c W e W' := by
 obtain ⟨W1, hW1⟩ : ∃ V, V = W.alloc (Obj.cells #[zI t, zG s, zS a l c] 50) := ⟨_, rfl⟩;have hB : Blk W1 W.heap.size 50 #[zI t, zG s, zS a l c] := by rw [hW1]; exact Blk.new _ _ _
 have hb1 : zW W W1 := by rw [hW1]; exact (Below.refl _ _).alloc (Nat.le_refl _) _
 have H1 : Hid (Blk W1 W.heap.size 50 #[zI t, zG s, zS a l c] /\ zW W W1) := ⟨hB, hb1⟩;clear hB hb1;by_cases ht : t = 48
 ·subst ht
  go_enter Tryz.func69, Tryz.ntmps69;go_wp2_with fail;rw [<- hW1];clear hW1;refine (mustFit_yes W1).mono ?_;rintro e w2 ⟨rfl, rfl⟩;have c2 := fun j => H1.1.cell j
  go_wp2_with fail;go_ret;exact ⟨H1.2.alloc H1.2.size _, .inr ⟨rfl, W1.heap.size, H1.2.size, rfl, Blk.new _ _ _⟩⟩
 ·have hbq : (t == 48) = false := beq_eq_false_iff_ne.2 ht
  have HT : Hid (¬ t = 48) := ht;clear ht;go_enter Tryz.func69, Tryz.ntmps69;go_wp2_with fail;rw [<- hW1];clear hW1;refine (mustFit_no W1).mono ?_;rintro e w2 ⟨rfl, rfl⟩;unfold misfit;go_wp2_with fail;exact ⟨rfl, H1.2, .inl ⟨HT.out, rfl⟩⟩
def ListPost (w0 W : World) (g n : Nat) (o : Option (List (It n) × List (It (n + 1)))) (e : Ending) (W' : World) : Prop := Out [g] W W' /\
 ((o = none /\ e = misfit) ∨ ∃ (i : List (It n)) (r : List (It (n + 1))) (v' vi : Value) (gi : Nat), o = some (i, r) /\ e = .returned (.pointer (some ⟨gi, 0, none⟩)) /\ W.heap.size <= gi /\ KcAt w0 n vi i /\ KcAt w0 (n + 1) v' r /\ Blk W' g 137 #[v'] /\ Blk W' gi 137 #[vi])
theorem lstP_next {k : Nat} (ks : List (It (k + 1))) : lstP ks = (nextP 48 ks).map fun p => (It.kids p.1, p.2) := by
 unfold lstP
 cases nextP 48 ks with
 | none => rfl
 | some p => rfl
theorem Out.size {fp : List Nat} {a b : World} (h : Out fp a b) : a.heap.size <= b.heap.size := h.2.2.2.1
theorem Blk.on {w w' : World} {b : Nat} {t : TypeId} {vs : Array Value} (h : Blk w b t vs) (hb : zW w w') : Blk w' b t vs := h.below hb h.lt
theorem Blk.outX {w w' : World} {b : Nat} {t : TypeId} {vs : Array Value} {fp : List Nat} (h : Blk w b t vs) (ho : Out fp w w') (hn : b ∉ fp) : Blk w' b t vs := (ho.2.2.2.2 b h.lt hn).trans h
theorem list_any (w0 W : World) (g n : Nat) (v : Value) (ks : List (It (n + 1))) (hw : zW w0 W) (hk : KcAt w0 (n + 1) v ks) (hr : Blk W g 137 #[v]) (hg : w0.heap.size <= g) (hl : ks.length <= 1000000) :
  Calls Tryz.prog 70 #[.pointer (some ⟨g, 0, none⟩)] W fun e W' => ListPost w0 W g n (lstP ks) e W' := by
 have E := next_any w0 W g n v ks 48 hw hk hr hg hl;have HP : Hid (lstP ks = (nextP 48 ks).map fun p => (It.kids p.1, p.2)) := lstP_next ks;generalize lstP ks = oL at HP |-;clear hw hk hr hg hl;go_enter Tryz.func70, Tryz.ntmps70;go_wp2_with fail;refine E.mono ?_;rintro e w2 ⟨ho, ⟨hn, rfl⟩ | ⟨y, r, v', k, hn, rfl, hkk, hkr, hB⟩⟩
 ·have HE : Hid (Out [g] W w2 /\ oL = none) := ⟨ho, by rw [HP.out, hn]; rfl⟩
  clear ho hn E;unfold misfit;go_wp2_with fail;exact ⟨rfl, HE.1, .inl ⟨HE.2, rfl⟩⟩
 ·have HT : Hid (It.tag y = 48) := by
   cases ks with
   | nil => cases hn
   | cons a q => exact (next_some hn).2
  obtain ⟨ak, ck, hks⟩ := hkk.shape;obtain ⟨lk, hlk⟩ := zE ((It.kids y).length);rw [hlk] at hks;subst hks;have E2 := readerOf_any (It.tag y) ⟨(It.text y).toArray⟩ ak lk ck w2;obtain ⟨t, ht⟩ := zE (It.tag y);obtain ⟨s, hs⟩ : ∃ s : ByteArray, (⟨(It.text y).toArray⟩ : ByteArray) = s := ⟨_, rfl⟩;rw [ht, hs] at E2 |-;have HE : Hid (Out [g] W w2 /\ oL = some (It.kids y, r) /\ KcAt w0 n (zS ak lk ck) (It.kids y) /\ KcAt w0 (n + 1) v' r /\ Blk w2 g 137 #[v'] /\ t = 48) := ⟨ho, by rw [HP.out, hn]; rfl, hkk, hkr, hB, by rw [<- ht]; exact HT.out⟩;clear ho hn hkk hkr hB E HT ht hs hlk;go_wp2_with fail;refine E2.mono ?_;rintro e w3 ⟨hb3, ⟨hn3, rfl⟩ | ⟨_, gi, hgi, rfl, hBi⟩⟩
  ·exact absurd HE.2.2.2.2.2 hn3
  ·have HF : Hid (ListPost w0 W g n oL (.returned (.pointer (some ⟨gi, 0, none⟩))) w3) := ⟨HE.1.trans (Out.of_below hb3), .inr ⟨_, _, _, _, gi, HE.2.1, rfl, Nat.le_trans HE.1.size hgi, HE.2.2.1, HE.2.2.2.1, HE.2.2.2.2.1.on hb3, hBi⟩⟩
   clear hb3 hgi hBi E2;go_wp2_with fail;go_ret;exact HF.out
def EndPost {α : Type} (ks : List α) (W : World) (e : Ending) (W' : World) : Prop := zW W W' /\ ((endP ks = none /\ e = misfit) ∨ (ks = [] /\ endP ks = some () /\ e = .returned (.tuple #[])))
theorem end_any {α : Type} (W : World) (g l c : Nat) (a : Option Addr) (ks : List α) (hl : ks.length = l) (hr : Blk W g 137 #[zS a l c]) :
  Calls Tryz.prog 74 #[.pointer (some ⟨g, 0, none⟩)] W fun e W' => EndPost ks W e W' := by
 have cr : W.cell? ⟨g, 0, none⟩ = some (zS a l c) := hr.cell 0;clear hr
 cases ks with
 | nil =>
  subst hl;go_enter Tryz.func74, Tryz.ntmps74;go_wp2_with fail;refine (mustFit_yes W).mono ?_;rintro e w2 ⟨rfl, rfl⟩;go_wp2_with fail
  first | go_end0 | skip
  exact ⟨Below.refl _ _, .inr ⟨rfl, rfl, rfl⟩⟩
 | cons x q =>
  subst hl;rw [List.length_cons] at cr;obtain ⟨m, hm⟩ := zE (q.length);rw [hm] at cr;clear hm;have hm0 : ((m : Int) + 1 == 0) = false := beq_eq_false_iff_ne.2 (by omega);go_enter Tryz.func74, Tryz.ntmps74;go_wp2_with fail;refine (mustFit_no W).mono ?_;rintro e w2 ⟨rfl, rfl⟩;unfold misfit;go_wp2_with fail;exact ⟨rfl, Below.refl _ _, .inl ⟨rfl, rfl⟩⟩
def OnePost {α : Type} (V : α -> Value) (w0 W : World) (g n : Nat) (o : Option (α × List (It (n + 1)))) (e : Ending) (W' : World) : Prop := Out [g] W W' /\
 ((o = none /\ e = misfit) ∨ ∃ (x : α) (r : List (It (n + 1))) (v' : Value), o = some (x, r) /\ e = .returned (V x) /\ KcAt w0 (n + 1) v' r /\ Blk W' g 137 #[v'])
theorem number_any (w0 W : World) (g n : Nat) (v : Value) (ks : List (It (n + 1))) (hw : zW w0 W) (hk : KcAt w0 (n + 1) v ks) (hr : Blk W g 137 #[v]) (hg : w0.heap.size <= g) (hl : ks.length <= 1000000) (hz : ∀ y ∈ ks, szI (n + 1) y <= 20000000) :
  Calls Tryz.prog 153 #[.pointer (some ⟨g, 0, none⟩)] W fun e W' => OnePost (fun x : Int => .int .i64 x) w0 W g n (numP ks) e W' := by
 have E := next_any w0 W g n v ks 2 hw hk hr hg hl;have HP : Hid (numP ks = match nextP 2 ks with
  | none => none
  | some (y, r) => match inI (n + 1) y with
   | none => none
   | some v => some ((v : Int), r)) := rfl
 generalize numP ks = oL at HP |-;have HW : Hid (zW w0 W /\ w0.heap.size <= g /\ ∀ y ∈ ks, szI (n + 1) y <= 20000000) := ⟨hw, hg, hz⟩;clear hw hk hr hg hl hz;go_enter Tryz.func153, Tryz.ntmps153;go_wp2_with fail;refine E.mono ?_;rintro e w2 ⟨ho, ⟨hn, rfl⟩ | ⟨y, r, v', k, hn, rfl, hkk, hkr, hB⟩⟩
 ·have HE : Hid (Out [g] W w2 /\ oL = none) := ⟨ho, by rw [HP.out, hn]⟩
  clear ho hn E;unfold misfit;go_wp2_with fail;exact ⟨rfl, HE.1, .inl ⟨HE.2, rfl⟩⟩
 ·have hy : y ∈ ks := by
   have h := (next_some hn).1;rw [h]; simp
  have hb2 : zW w0 w2 := HW.1.trans (ho.below (fun x hx => by rw [List.mem_singleton.1 hx]; exact HW.2.1) HW.1.size);have E2 := implIntIn_any (n + 1) y (.agg #[zI (It.tag y), zG ⟨(It.text y).toArray⟩, k]) w2 (ItAt.below hb2 ⟨k, rfl, hkk.at⟩) (HW.2.2 y hy);have HE : Hid (Out [g] W w2 /\ KcAt w0 (n + 1) v' r /\ Blk w2 g 137 #[v'] /\ (oL = match inI (n + 1) y with
   | none => none
   | some v => some ((v : Int), r))) := ⟨ho, hkr, hB, by rw [HP.out, hn]⟩
  clear ho hn hkk hkr hB E hy hb2
  cases hin : inI (n + 1) y with
  | none =>
   rw [hin] at E2 HE;go_wp2_with fail;refine E2.mono ?_;rintro e w3 ⟨rfl, hb3⟩;have HF := zH (zJ (HE.1.trans (Out.of_below hb3)) HE.2.2.2);clear hb3 E2 HE;go_wp2_with fail;refine (mustFit_no w3).mono ?_;rintro e w4 ⟨rfl, rfl⟩;unfold misfit;go_wp2_with fail;exact ⟨rfl, HF.1, .inl ⟨HF.2, rfl⟩⟩
  | some x =>
   rw [hin] at E2 HE;change Calls _ _ _ _ (fun e w' => e = .returned (.tuple #[zI (x : Int), .bool true]) /\ zW w2 w') at E2;go_wp2_with fail;refine E2.mono ?_;rintro e w3 ⟨rfl, hb3⟩;have HF : Hid (OnePost (fun x : Int => .int .i64 x) w0 W g n oL (.returned (.int .i64 (x : Int))) w3) := ⟨HE.1.trans (Out.of_below hb3), .inr ⟨(x : Int), r, v', HE.2.2.2, rfl, HE.2.1, HE.2.2.1.on hb3⟩⟩;clear hb3 E2 HE;go_wp2_with fail;refine (mustFit_yes w3).mono ?_;rintro e w4 ⟨rfl, rfl⟩;go_wp2_with fail;go_ret;exact HF.out
theorem rtext_any (w0 W : World) (g n : Nat) (v : Value) (ks : List (It (n + 1))) (hw : zW w0 W) (hk : KcAt w0 (n + 1) v ks) (hr : Blk W g 137 #[v]) (hg : w0.heap.size <= g) (hl : ks.length <= 1000000) :
  Calls Tryz.prog 152 #[.pointer (some ⟨g, 0, none⟩)] W fun e W' => OnePost (fun x : ByteArray => .string x) w0 W g n (txtP 12 ks) e W' := by
 have E := next_any w0 W g n v ks 12 hw hk hr hg hl;have HP : Hid (txtP 12 ks = match nextP 12 ks with
  | none => none
  | some (y, r) => some (baL (It.text y), r)) := rfl
 generalize txtP 12 ks = oL at HP |-;clear hw hk hr hg hl;go_enter Tryz.func152, Tryz.ntmps152;go_wp2_with fail;refine E.mono ?_;rintro e w2 ⟨ho, ⟨hn, rfl⟩ | ⟨y, r, v', k, hn, rfl, hkk, hkr, hB⟩⟩
 ·have HE : Hid (Out [g] W w2 /\ oL = none) := ⟨ho, by rw [HP.out, hn]⟩
  clear ho hn E;unfold misfit;go_wp2_with fail;exact ⟨rfl, HE.1, .inl ⟨HE.2, rfl⟩⟩
 ·obtain ⟨ak, ck, hks⟩ := hkk.shape
  subst hks;have HE : Hid (OnePost (fun x : ByteArray => .string x) w0 W g n oL (.returned (.string (baL (It.text y)))) w2) := ⟨ho, .inr ⟨_, r, v', by rw [HP.out, hn], rfl, hkr, hB⟩⟩;clear ho hn hkk hkr hB E;change Hid (OnePost (fun x : ByteArray => .string x) w0 W g n oL (.returned (.string (baL (It.text y)))) w2) at HE;have RF := run_field_item (It.tag y) ⟨(It.text y).toArray⟩ ak (It.kids y).length ck;go_wp2_with fail;go_ret;exact HE.out
theorem rbytes_any (w0 W : World) (g n : Nat) (v : Value) (ks : List (It (n + 1))) (hw : zW w0 W) (hk : KcAt w0 (n + 1) v ks) (hr : Blk W g 137 #[v]) (hg : w0.heap.size <= g) (hl : ks.length <= 1000000) :
  Calls Tryz.prog 73 #[.pointer (some ⟨g, 0, none⟩)] W fun e W' => OnePost (fun x : ByteArray => .string x) w0 W g n (txtP 4 ks) e W' := by
 have E := next_any w0 W g n v ks 4 hw hk hr hg hl;have HP : Hid (txtP 4 ks = match nextP 4 ks with
  | none => none
  | some (y, r) => some (baL (It.text y), r)) := rfl
 generalize txtP 4 ks = oL at HP |-;clear hw hk hr hg hl;go_enter Tryz.func73, Tryz.ntmps73;go_wp2_with fail;refine E.mono ?_;rintro e w2 ⟨ho, ⟨hn, rfl⟩ | ⟨y, r, v', k, hn, rfl, hkk, hkr, hB⟩⟩
 ·have HE : Hid (Out [g] W w2 /\ oL = none) := ⟨ho, by rw [HP.out, hn]⟩
  clear ho hn E;unfold misfit;go_wp2_with fail;exact ⟨rfl, HE.1, .inl ⟨HE.2, rfl⟩⟩
 ·obtain ⟨ak, ck, hks⟩ := hkk.shape
  subst hks;have HE : Hid (OnePost (fun x : ByteArray => .string x) w0 W g n oL (.returned (.string (baL (It.text y)))) w2) := ⟨ho, .inr ⟨_, r, v', by rw [HP.out, hn], rfl, hkr, hB⟩⟩;clear ho hn hkk hkr hB E;change Hid (OnePost (fun x : ByteArray => .string x) w0 W g n oL (.returned (.string (baL (It.text y)))) w2) at HE;have RF := run_field_item (It.tag y) ⟨(It.text y).toArray⟩ ak (It.kids y).length ck;go_wp2_with fail;go_ret;exact HE.out
def lenV : Value -> Nat
 | .slice _ n _ => n
 | _ => 0
theorem Out.aside {g gi : Nat} {a b c : World} (h : Out [g] a b) (h2 : Out [gi] b c) (hg : a.heap.size <= gi) : Out [g] a c :=
 ⟨h2.1.trans h.1, h2.2.1.trans h.2.1, h2.2.2.1.trans h.2.2.1, Nat.le_trans h.2.2.2.1 h2.2.2.2.1, fun b hb hn => (h2.2.2.2.2 b (Nat.lt_of_lt_of_le hb h.2.2.2.1) (by simp; omega)).trans (h.2.2.2.2 b hb hn)⟩
theorem Out.grow {g : Nat} {a b c : World} {row : Option Nat} (h : Out [g] a b) (hg : b.grownBy c row) (hr : ∀ q, row = some q -> a.heap.size <= q) : Out [g] a c :=
 ⟨hg.os.trans h.1, hg.tape.trans h.2.1, hg.output.trans h.2.2.1, Nat.le_trans h.2.2.2.1 hg.size, fun b hb hn => (hg.block b (Nat.lt_of_lt_of_le hb h.2.2.2.1) (fun e => by have := hr b e.symm; omega)).trans (h.2.2.2.2 b hb hn)⟩
theorem Blk.grown {w w' : World} {b : Nat} {t : TypeId} {vs : Array Value} {row : Option Nat} (h : Blk w b t vs) (hg : w.grownBy w' row) (hn : some b ≠ row) : Blk w' b t vs := (hg.block b h.lt hn).trans h
theorem rone_int (w : World) (x : Int) : OwnI (w.alloc (Obj.cells #[zI x] 3)) w.heap.size (zS (some ⟨w.heap.size, 0, none⟩) 1 1) [x] :=
 ⟨rfl, .inr ⟨w.heap.size, 1, #[zI x], rfl, Nat.le_refl _, heap_alloc_new w _, Nat.le_refl _, by decide, rfl, rfl⟩⟩
theorem below_out {w0 a b : World} {g : Nat} (h : zW w0 a) (ho : Out [g] a b) (hg : w0.heap.size <= g) : zW w0 b := h.trans (ho.below (fun x hx => by rw [List.mem_singleton.1 hx]; exact hg) h.size)
theorem belowGrown {w0 a b : World} {row : Option Nat} (h : zW w0 a) (hg : a.grownBy b row) (hr : ∀ q, row = some q -> w0.heap.size <= q) : zW w0 b := h.grown hg h.size hr
def SzL {n : Nat} (ks : List (It n)) : Prop := ks.length <= 1000000 /\ ∀ y ∈ ks, szI n y <= 1000000
theorem SzL.tail {n : Nat} {y : It n} {r : List (It n)} (h : SzL (y :: r)) : SzL r := ⟨by have := h.1; rw [List.length_cons] at this; omega, fun z hz => h.2 z (by simp [hz])⟩
theorem SzL.kids {n : Nat} {y : It (n + 1)} {r : List (It (n + 1))} (h : SzL (y :: r)) : SzL (It.kids y) := by
 have h5 := szI_kid (t := It.tag y) (s := It.text y) (ks := It.kids y) (h.2 y (by simp));exact ⟨h5.2.1, h5.2.2⟩
theorem SzL.num {k : Nat} {ks r : List (It (k + 1))} {x : Int} (h : SzL ks) (hn : numP ks = some (x, r)) : SzL r := by
 obtain ⟨y, _, h1, _⟩ := num_some hn;rw [h1] at h;exact h.tail
theorem SzL.txt {k : Nat} {t : Int} {ks r : List (It (k + 1))} {x : ByteArray} (h : SzL ks) (hn : txtP t ks = some (x, r)) : SzL r := by
 obtain ⟨y, h1, _⟩ := txt_some hn;rw [h1] at h;exact h.tail
theorem SzL.lst {k : Nat} {ks r : List (It (k + 1))} {i : List (It k)} (h : SzL ks) (hn : lstP ks = some (i, r)) : SzL i /\ SzL r := by
 obtain ⟨y, h1, _, h3⟩ := lst_some hn;rw [h1] at h;change i = It.kids y at h3;rw [h3];exact ⟨h.kids, h.tail⟩
theorem out_set {w : World} (b j : Nat) (v : Value) : Out [b] w (w.setCell ⟨b, j, none⟩ v) := (Out.refl _ _).setCell _ _ (by simp)
end Go.Proofs.YtcbjlbpkoneibaaGreatDoor
