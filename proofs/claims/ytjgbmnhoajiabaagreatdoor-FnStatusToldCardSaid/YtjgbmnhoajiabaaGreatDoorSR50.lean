/-
  Texts of the proof.
-/
import Derived.Laws.AppendOwnNone
import Derived.Deep.Cut
import Derived.Deep.CutRange
import Derived.Test.YtjgbmnhoajiabaaGreatDoorSR44
import Derived.Test.YtjgbmnhoajiabaaGreatDoorSR49
set_option maxRecDepth 100000
namespace Go.Proofs.YtjgbmnhoajiabaaGreatDoor
open Go.RowKit
set_option linter.unusedVariables false
theorem pickT (w : World) (ts : List ByteArray) (h : ∀ s ∈ ts, s.size <= 100) : ∀ j, j < ts.length -> ∃ x : ByteArray, (w.alloc (.cells (cellsT ts).toArray 9)).cell? ⟨w.heap.size, j, none⟩ = some (.string x) /\ x.size <= 100 := fun j hj => by
 refine ⟨ts[j], ?_, h _ (List.getElem_mem hj)⟩
 rw [World.cell?_alloc_new]
 simp [cellsT, hj]
theorem pickI (w : World) (ts : List Int) (h : ∀ x ∈ ts, -9223372036854775808 <= x /\ x <= 9223372036854775807) : ∀ j, j < ts.length -> ∃ x : Int, (w.alloc (.cells (cellsI ts).toArray 3)).cell? ⟨w.heap.size, j, none⟩ = some (.int .i64 x) /\ -9223372036854775808 <= x /\ x <= 9223372036854775807 := fun j hj => by
 refine ⟨ts[j], ?_, h _ (List.getElem_mem hj)⟩
 rw [World.cell?_alloc_new]
 simp [cellsI, hj]
theorem alloc_grown (w : World) (o : Obj) (r : Option Nat) : w.grownBy (w.alloc o) r := grownBy_below' ((Below.refl _ _).alloc (Nat.le_refl _) _)
set_option maxHeartbeats 1600000 in
theorem l08Name_any (B : Nat) (w : World) (c : Nat) (a0 : Option Addr) (len cap : Nat) (hC : Cur B w c a0 len cap) : Calls Tryz.prog 201 #[.pointer (some ⟨c, 0, none⟩)] w fun e w' => ∃ x : ByteArray, x.size <= 100 /\ e = .returned (.string x) /\ Cur B w' c a0 len cap /\ w.grownBy w' (some c) := by
 have HC : Hid (Cur B w c a0 len cap) := hC
 clear hC
 go_enter Tryz.func201, Tryz.ntmps201
 go_wp2_with fail
 refine (l01Pick_any w.heap.size 7 7 B _ c a0 len cap (by decide) (by decide) (by have := HC.out.lt; omega) (pickT w [(⟨#[114, 111, 111, 116]⟩ : ByteArray), ⟨#[99, 97, 46, 111, 114, 103]⟩, ⟨#[115, 117, 98, 46, 99, 97, 46, 111, 114, 103]⟩, ⟨#[108, 101, 97, 102, 46, 115, 117, 98, 46, 99, 97, 46, 111, 114, 103]⟩, ⟨#[111, 114, 103]⟩, ⟨#[111, 116, 104, 101, 114, 46, 99, 111, 109]⟩, ⟨#[108, 101, 97, 102, 46, 99, 111, 109]⟩] (by intro s hs; simp only [List.mem_cons, List.not_mem_nil, or_false] at hs; rcases hs with rfl | rfl | rfl | rfl | rfl | rfl | rfl <;> decide)) (HC.out.kept ((Below.refl _ _).alloc (Nat.le_refl _) _))).mono ?_
 rintro e w3 ⟨y, hy, rfl, hC3, hg3⟩
 have H3 : Hid (Cur B w3 c a0 len cap /\ w.grownBy w3 (some c)) := ⟨hC3, grownBy_trans (alloc_grown _ _ _) hg3⟩
 clear hC3 hg3
 go_wp2_with fail
 go_ret
 exact ⟨y, hy, rfl, H3.out.1, H3.out.2⟩
end Go.Proofs.YtjgbmnhoajiabaaGreatDoor
namespace Go.Proofs.YtjgbmnhoajiabaaGreatDoor
open Go.RowKit
theorem horn_zeros (k : Nat) (l : List Int) : horn 256 (List.replicate k 0 ++ l) = horn 256 l := by
 unfold horn
 rw [List.foldl_append]
 congr 1
 induction k with
 | zero => rfl
 | succ k ih => rw [List.replicate_succ, List.foldl_cons]; exact ih
theorem horn_lt256 : ∀ (l : List Int), (∀ x ∈ l, 0 <= x /\ x < 256) -> 0 <= horn 256 l /\ horn 256 l < 256 ^ l.length := by
 suffices H : ∀ (n : Nat) (l : List Int), l.length = n -> (∀ x ∈ l, 0 <= x /\ x < 256) -> 0 <= horn 256 l /\ horn 256 l < 256 ^ l.length from fun l => H l.length l rfl
 intro n
 induction n with
 | zero => intro l hl _; rw [List.eq_nil_of_length_eq_zero hl]; decide
 | succ n ih =>
  intro l hl h
  obtain ⟨m, x, rfl⟩ : ∃ m x, l = m ++ [x] := ⟨l.dropLast, l.getLast (fun e => by rw [e] at hl; simp at hl), (List.dropLast_concat_getLast _).symm⟩
  have h1 := ih m (by simpa using hl) (fun y hy => h y (by simp [hy]))
  have h2 := h x (by simp)
  rw [horn_snoc, List.length_append, List.length_singleton, Int.pow_succ]
  omega
theorem bytesI_bd2 (s : ByteArray) : ∀ x ∈ bytesI s, 0 <= x /\ x < 256 := by
 intro x hx
 unfold bytesI at hx
 obtain ⟨b, _, rfl⟩ := List.mem_map.1 hx
 have := b.toNat_lt
 omega
def pnum (s : ByteArray) : Int := horn 256 (bytesI (pddB s))
theorem readL_pdd (s : ByteArray) : readL (pddB s) = digs (pnum s) := if_pos (by rw [pddB_size]; decide)
theorem pnum_bd (s : ByteArray) : 0 <= pnum s /\ pnum s < 256 ^ 14 := by
 have e : bytesI (pddB s) = List.replicate 1 0 ++ (bytesI (pddB s)).tail := by
  have : bytesI (pddB s) = 0 :: ((aheadB.data.toList.tail ++ ((digB s).extract 0 6).data.toList).map fun b => (b.toNat : Int)) := by
   unfold bytesI pddB
   rw [ByteArray.data_append, Array.toList_append]
   rfl
  rw [this]
  rfl
 have hl : (bytesI (pddB s)).length = 15 := by
  have := pddB_size s
  unfold bytesI
  rw [List.length_map]
  exact this
 unfold pnum
 rw [e, horn_zeros]
 have h := horn_lt256 (bytesI (pddB s)).tail (fun x hx => bytesI_bd2 _ x (List.mem_of_mem_tail hx))
 rw [List.length_tail, hl] at h
 exact h
theorem txtD {x : Int} (h : 0 <= x) (h2 : x < 256 ^ 15) : txtL (digs x) = ⟨(byI x).reverse.toArray⟩ /\ (txtL (digs x)).size <= 15 := by
 have h3 : (256 : Int) ^ 15 <= 10000 ^ 40 := by decide
 have e : txtL (digs x) = ⟨(byI x).reverse.toArray⟩ := by
  unfold txtL
  rw [if_pos (okL_digs h (by omega)), ev_digs h]
 refine ⟨e, txtL_size ?_⟩
 rw [ev_digs h]
 exact h2
theorem keyD_size {x : Int} (h : 0 <= x) (h2 : x < 256 ^ 15) : (keyB (digs x)).size = 15 := by
 have h3 := (txtD h h2).2
 unfold keyB
 rw [ByteArray.size_append, zerosB_size]
 omega
theorem p15 : (256 : Int) ^ 15 = ((256 ^ 15 : Nat) : Int) := by decide
theorem p14 : (256 : Int) ^ 14 = ((256 ^ 14 : Nat) : Int) := by decide
theorem pubZ {i : Nat} (h : i < 6) : (256 : Int) ^ 14 <= (Rsa.pubN i : Int) /\ (Rsa.pubN i : Int) < 256 ^ 15 /\ (Rsa.pubN i : Int) < 10000 ^ 40 := by
 have hb := pubN_bd h
 have h3 : (256 : Int) ^ 15 <= 10000 ^ 40 := by decide
 have h1 : ((256 ^ 14 : Nat) : Int) <= ((Rsa.pubN i : Nat) : Int) := Int.ofNat_le.2 hb.1
 have h2 : ((Rsa.pubN i : Nat) : Int) < ((256 ^ 15 : Nat) : Int) := Int.ofNat_lt.2 hb.2
 rw [<- p14] at h1
 rw [<- p15] at h2
 exact ⟨h1, h2, Int.lt_of_lt_of_le h2 h3⟩
theorem secZ {i : Nat} (h : i < 6) : (0 : Int) <= (Rsa.secN i : Int) /\ (Rsa.secN i : Int) < 10000 ^ 40 := by
 have hb := secN_bd h
 have h3 : (256 : Int) ^ 15 <= 10000 ^ 40 := by decide
 have h2 : ((Rsa.secN i : Nat) : Int) < ((256 ^ 15 : Nat) : Int) := Int.ofNat_lt.2 hb.2
 rw [<- p15] at h2
 exact ⟨by omega, Int.lt_of_lt_of_le h2 h3⟩
theorem byI_more {x : Int} : ∀ {k : Nat}, 256 ^ k <= x -> k < (byI x).length := by
 intro k
 induction k generalizing x with
 | zero => intro h; rw [byI_step (by simp at h; omega)]; simp
 | succ k ih =>
  intro h
  rw [Int.pow_succ] at h
  have hp : (0 : Int) < 256 ^ k := Int.pow_pos (by decide)
  rw [byI_step (by omega), List.length_cons]
  have := ih (x := x / 256) (by omega)
  omega
theorem pubB_is {i : Nat} (h : i < 6) : pubB (i : Int) = txtL (digs (Rsa.pubN i : Int)) := by unfold pubB; rw [fig_pub h]
theorem pubB_size {i : Nat} (h : i < 6) : (pubB (i : Int)).size = 15 := by
 have hz := pubZ h
 have h0 : (0 : Int) <= (Rsa.pubN i : Int) := by omega
 have h1 := txtD h0 hz.2.1
 rw [pubB_is h]
 have h2 : (txtL (digs (Rsa.pubN i : Int))).size = (byI (Rsa.pubN i : Int)).length := by
  rw [h1.1]
  show ((byI (Rsa.pubN i : Int)).reverse.toArray).size = _
  simp
 have h3 := byI_more hz.1
 have h4 := h1.2
 omega
def snum (i : Nat) (s : ByteArray) : Int := pnum s ^ Rsa.secN i % (Rsa.pubN i : Int)
theorem snum_bd {i : Nat} (h : i < 6) (s : ByteArray) : 0 <= snum i s /\ snum i s < (Rsa.pubN i : Int) := by
 have hz := pubZ h
 have hp : (0 : Int) < 256 ^ 14 := by decide
 exact ⟨Int.emod_nonneg _ (by omega), Int.emod_lt_of_pos _ (by omega)⟩
theorem pmD {x y z : Int} (hx : 0 <= x /\ x < 10000 ^ 40) (hy : 0 <= y /\ y < 10000 ^ 40) (hz : 0 < z /\ z < 10000 ^ 40) : pmL (digs x) (digs y) (digs z) = digs (x ^ y.toNat % z) := by
 have hm : 0 < (digs z).length := digs_ne hz.1
 unfold pmL
 rw [if_pos (by simp [okL_digs hx.1 hx.2, okL_digs hy.1 hy.2, okL_digs (Int.le_of_lt hz.1) hz.2, hm]), ev_digs hx.1, ev_digs hy.1, ev_digs (Int.le_of_lt hz.1)]
theorem pnum40 (s : ByteArray) : 0 <= pnum s /\ pnum s < 10000 ^ 40 := by
 have h := pnum_bd s
 have h3 : (256 : Int) ^ 14 <= 10000 ^ 40 := by decide
 exact ⟨h.1, Int.lt_of_lt_of_le h.2 h3⟩
theorem pubZ0 {i : Nat} (h : i < 6) : (0 : Int) < (Rsa.pubN i : Int) := Int.lt_of_lt_of_le (by decide) (pubZ h).1
theorem sigB_is {i : Nat} (h : i < 6) (s : ByteArray) : sigB (i : Int) s = keyB (digs (snum i s)) := by
 unfold sigB secL
 rw [if_pos (by omega), fig_sec h, fig_pub h, readL_pdd, pmD (pnum40 s) (secZ h) ⟨pubZ0 h, (pubZ h).2.2⟩, Int.toNat_natCast]
 rfl
theorem snum15 {i : Nat} (h : i < 6) (s : ByteArray) : 0 <= snum i s /\ snum i s < 256 ^ 15 := ⟨(snum_bd h s).1, Int.lt_trans (snum_bd h s).2 (pubZ h).2.1⟩
theorem sigB_size {i : Nat} (s : ByteArray) (h : i < 6) : (sigB (i : Int) s).size = 15 := by
 rw [sigB_is h]
 exact keyD_size (snum15 h s).1 (snum15 h s).2
end Go.Proofs.YtjgbmnhoajiabaaGreatDoor
namespace Go.Proofs.YtjgbmnhoajiabaaGreatDoor
open Go.RowKit Der
set_option linter.unusedVariables false
set_option linter.unusedSimpArgs false
def bd (x : Int) : Prop := -1000000 <= x /\ x <= 1000000
def MdL (x : Cl) : Prop := (x.issuer.size <= 100 /\ x.revs.length <= 6 /\ x.sig.size <= 15) /\ (bd x.num /\ bd x.ths /\ (0 <= x.nxt /\ x.nxt <= 90) /\ bd x.bas) /\ ∀ p ∈ x.revs, bd p.1 /\ bd p.2
theorem MdL.wt {x : Cl} (h : MdL x) : wtL x <= 200 := by obtain ⟨⟨h1, h2, h3⟩, -⟩ := h; unfold wtL; omega
theorem MdL.wd {x : Cl} (h : MdL x) : WdL x := by
 obtain ⟨⟨h1, h2, h3⟩, ⟨k1, k2, k3, k4⟩, hr⟩ := h
 unfold bd at *
 refine ⟨fun y hy => ?_, fun p hp => ?_, fun s hs => ?_, by omega⟩
 ·simp only [List.mem_cons, List.not_mem_nil, or_false] at hy
  rcases hy with rfl | rfl | rfl | rfl <;> omega
 ·have := hr p hp
  omega
 ·simp only [List.mem_cons, List.not_mem_nil, or_false] at hs
  rcases hs with rfl | rfl
  ·omega
  ·omega
def MdS (B : Nat) (w W : World) (c : Nat) (a0 : Option Addr) (len cap : Nat) (g : Nat) (cells : Array Value) : Prop := (w.grownBy W (some c) /\ Cur B W c a0 len cap) /\ Blk W w.heap.size 49 #[.string ⟨#[]⟩, .int .i64 0, .int .i64 0, .int .i64 0, .int .i64 0, .slice none 0 0, .string ⟨#[]⟩] /\ Blk W g 49 cells /\ (c < w.heap.size /\ w.heap.size < g)
theorem MdS.draw {B : Nat} {w W W' : World} {c : Nat} {a0 : Option Addr} {len cap g : Nat} {cells : Array Value} (h : MdS B w W c a0 len cap g cells) (hc : Cur B W' c a0 len cap) (hg : W.grownBy W' (some c)) : MdS B w W' c a0 len cap g cells :=
 ⟨⟨grownBy_trans h.1.1 hg, hc⟩, h.2.1.grown hg (fun e => by have := Option.some.inj e; have := h.2.2.2; omega), h.2.2.1.grown hg (fun e => by have := Option.some.inj e; have := h.2.2.2; omega), h.2.2.2⟩
theorem MdS.out {B : Nat} {w W W' : World} {c : Nat} {a0 : Option Addr} {len cap g : Nat} {cells : Array Value} {r : Option Nat} (h : MdS B w W c a0 len cap g cells) (hg : W.grownBy W' r) (hr : ∀ k, r = some k -> g < k) : MdS B w W' c a0 len cap g cells :=
 ⟨⟨grow_step h.1.1 hg (fun k hk => by have := hr k hk; have := h.2.2.2; omega), h.1.2.grown hg (fun k hk => by have := hr k hk; have := h.2.2.2; omega)⟩, h.2.1.grown hg (fun e => by have := hr _ e.symm; have := h.2.2.2; omega), h.2.2.1.grown hg (fun e => by have := hr _ e.symm; omega), h.2.2.2⟩
theorem MdS.set {B : Nat} {w W : World} {c : Nat} {a0 : Option Addr} {len cap g : Nat} {cells cells' : Array Value} (h : MdS B w W c a0 len cap g cells) (j : Nat) (v : Value) (hc : cells.setIfInBounds j v = cells') : MdS B w (W.setCell ⟨g, j, none⟩ v) c a0 len cap g cells' := by
 have hg := grownBy_setCell W g j v
 obtain ⟨h1, h2, h3, h4⟩ := h
 exact ⟨⟨grow_step h1.1 hg (fun k hk => by have := Option.some.inj hk; omega), h1.2.grown hg (fun k hk => by have := Option.some.inj hk; omega)⟩, h2.grown hg (fun e => by have := Option.some.inj e; omega), by rw [<- hc]; exact h3.set j v, h4⟩
theorem OwnR.grownC {w w' : World} {b c : Nat} {v : Value} {l : List (Int × Int)} (h : OwnR w b v l) (hg : w.grownBy w' (some c)) (hc : c < b) : OwnR w' b v l :=
 World.ownsRow.kept h hg (.inr fun e => by have := (World.ownsRow.lt h c e).1; omega)
def MdPost (B : Nat) (w : World) (c : Nat) (a0 : Option Addr) (len cap : Nat) (e : Ending) (w' : World) : Prop := ∃ u x, e = .returned u /\ OwnL w' w.heap.size u x /\ MdL x /\ (x.sig.size = 15 /\ x.revs.length <= 5) /\ Cur B w' c a0 len cap /\ w.grownBy w' (some c)
set_option maxHeartbeats 12800000 in
theorem l10Made_any (iss : ByteArray) (hi : iss.size <= 100) (by_ : Nat) (hby : by_ < 6) (B : Nat) (w : World) (c : Nat) (a0 : Option Addr) (len cap : Nat) (hC : Cur B w c a0 len cap) :
  Calls Tryz.prog 138 #[.pointer (some ⟨c, 0, none⟩), .string iss, .int .i64 by_] w fun e w' => MdPost B w c a0 len cap e w' := by
 have HC : Hid (Cur B w c a0 len cap /\ iss.size <= 100 /\ by_ < 6) := ⟨hC, hi, hby⟩
 clear hC hi hby
 obtain ⟨W0, hW0⟩ : ∃ V, V = w.alloc (Obj.cells #[.string ⟨#[]⟩, .int .i64 0, .int .i64 0, .int .i64 0, .int .i64 0, .slice none 0 0, .string ⟨#[]⟩] 49) := ⟨_, rfl⟩
 have H0 : Hid ((Below w.heap.size w W0 /\ Cur B W0 c a0 len cap) /\ Blk W0 w.heap.size 49 #[.string ⟨#[]⟩, .int .i64 0, .int .i64 0, .int .i64 0, .int .i64 0, .slice none 0 0, .string ⟨#[]⟩] /\ W0.heap.size = w.heap.size + 1) := by
  have hb : Below w.heap.size w W0 := by rw [hW0]; exact (Below.refl _ _).alloc (Nat.le_refl _) _
  exact ⟨⟨hb, HC.out.1.kept hb⟩, by rw [hW0]; exact Blk.new _ _ _, by rw [hW0]; exact size_alloc _ _⟩
 go_enter Tryz.func138, Tryz.ntmps138
 go_upto_region 1 with fail
 rw [<- hW0]
 clear hW0
 go_wp2_with fail
 refine (l01Below_any 3 B W0 c a0 len cap (by decide) H0.out.1.2).mono ?_
 rintro e w1 ⟨n1, hn0, hn1, -, rfl, hc1, hg1⟩
 have hn3 : n1 < 3 := hn1 (by decide)
 obtain ⟨NUM, hNUM⟩ : ∃ q, 1 + n1 = q := ⟨_, rfl⟩
 have hwn : IntKind.i64.wrap (1 + n1) = 1 + n1 := by rw [IntKind.wrap_i64]; omega
 obtain ⟨V1, hV1⟩ : ∃ V, V = w1.alloc (Obj.cells #[.string iss, .int .i64 NUM, .int .i64 10, .int .i64 90, .int .i64 0, .slice none 0 0, .string ⟨#[]⟩] 49) := ⟨_, rfl⟩
 obtain ⟨g, hgg⟩ : ∃ q, w1.heap.size = q := ⟨_, rfl⟩
 have HB : Hid (bd NUM) := by show bd NUM; unfold bd; omega
 have H1 : Hid (MdS B w V1 c a0 len cap g #[.string iss, .int .i64 NUM, .int .i64 10, .int .i64 90, .int .i64 0, .slice none 0 0, .string ⟨#[]⟩]) := by
  have h0 := H0.out
  have hcw := HC.out.1.lt
  have hb : Below w1.heap.size w1 V1 := by rw [hV1]; exact (Below.refl _ _).alloc (Nat.le_refl _) _
  have hg' : w1.grownBy V1 (some c) := grownBy_below' hb
  have hgr : w.grownBy V1 (some c) := grownBy_trans (grownBy_trans (grownBy_below' h0.1.1) hg1) hg'
  refine ⟨⟨hgr, hc1.kept hb⟩, ?_, by rw [hV1, <- hgg]; exact Blk.new _ _ _, hcw, ?_⟩
  ·exact (h0.2.1.grown hg1 (fun e => by have := Option.some.inj e; omega)).below hb (by have := hg1.size; omega)
  ·have := hg1.size
   omega
 go_upto_region 2 with fail
 rw [<- hV1]
 try rw [hgg]
 clear hV1 hgg hNUM hwn hn0 hn1 hn3 hc1 hg1 H0
 go_wp2_with fail
 refine (l01Once_any 3 B V1 c a0 len cap (by decide) H1.out.1.2).mono ?_
 rintro e w2 ⟨b1, rfl, hc2, hg2⟩
 have H2 : Hid (MdS B w w2 c a0 len cap g #[.string iss, .int .i64 NUM, .int .i64 10, .int .i64 90, .int .i64 0, .slice none 0 0, .string ⟨#[]⟩]) := H1.out.draw hc2 hg2
 clear H1 hc2 hg2
 go_upto_if 17 with fail
 go_cut [] from 11 (fun wx => Hid (∃ num bas : Int, MdS B w wx c a0 len cap g #[.string iss, .int .i64 num, .int .i64 10, .int .i64 90, .int .i64 bas, .slice none 0 0, .string ⟨#[]⟩] /\ bd num /\ (0 <= bas /\ bas <= 100)))
 case first =>
  cases b1 with
  | false =>
   go_wp2_with fail
   go_meet
   exact ⟨NUM, 0, H2.out, HB.out, by decide⟩
  | true =>
   have e1 : w2.cell? ⟨g, 1, none⟩ = some (.int .i64 NUM) := H2.out.2.2.1.cell 1
   have ef := fun i => H2.out.2.2.1.free i
   obtain ⟨V3, hV3⟩ : ∃ V, V = w2.setCell ⟨g, 1, none⟩ (.int .i64 4) := ⟨_, rfl⟩
   have H3 : Hid (MdS B w V3 c a0 len cap g #[.string iss, .int .i64 4, .int .i64 10, .int .i64 90, .int .i64 0, .slice none 0 0, .string ⟨#[]⟩]) := by rw [hV3]; exact H2.out.set 1 _ rfl
   go_wp2_with fail
   rw [<- hV3]
   clear hV3 e1 ef H2
   refine (l01Below_any 2 B V3 c a0 len cap (by decide) H3.out.1.2).mono ?_
   rintro e w4 ⟨n2, hm0, hm1, -, rfl, hc4, hg4⟩
   have hm2 : n2 < 2 := hm1 (by decide)
   have hwm : IntKind.i64.wrap (1 + n2) = 1 + n2 := by rw [IntKind.wrap_i64]; omega
   have H4 : Hid (MdS B w w4 c a0 len cap g #[.string iss, .int .i64 4, .int .i64 10, .int .i64 90, .int .i64 0, .slice none 0 0, .string ⟨#[]⟩]) := H3.out.draw hc4 hg4
   clear H3 hc4 hg4 hm1
   have e4 : w4.cell? ⟨g, 4, none⟩ = some (.int .i64 0) := H4.out.2.2.1.cell 4
   have ef := fun i => H4.out.2.2.1.free i
   go_wp2_with fail
   go_meet
   exact ⟨4, 1 + n2, H4.out.set 4 _ rfl, by unfold bd; omega, by omega⟩
 case rest =>
 clear H2 HB
 obtain ⟨num, bas, hM, hnum, hbas⟩ := hcut.out
 rename World => w3
 have H3 : Hid (MdS B w w3 c a0 len cap g #[.string iss, .int .i64 num, .int .i64 10, .int .i64 90, .int .i64 bas, .slice none 0 0, .string ⟨#[]⟩]) := hM
 have HNB : Hid (bd num /\ 0 <= bas /\ bas <= 100) := ⟨hnum, hbas⟩
 clear hcut hM hnum hbas
 go_wp2_with fail
 refine (l01Once_any 6 B w3 c a0 len cap (by decide) H3.out.1.2).mono ?_
 rintro e w5 ⟨b2, rfl, hc5, hg5⟩
 have H5 : Hid (MdS B w w5 c a0 len cap g #[.string iss, .int .i64 num, .int .i64 10, .int .i64 90, .int .i64 bas, .slice none 0 0, .string ⟨#[]⟩]) := H3.out.draw hc5 hg5
 clear H3 hc5 hg5
 go_upto_if 24 with fail
 go_cut [] from 11 (fun wx => Hid (∃ nxt : Int, MdS B w wx c a0 len cap g #[.string iss, .int .i64 num, .int .i64 10, .int .i64 nxt, .int .i64 bas, .slice none 0 0, .string ⟨#[]⟩] /\ 0 <= nxt /\ nxt <= 90))
 case first =>
  cases b2 with
  | false =>
   go_wp2_with fail
   go_meet
   exact ⟨90, H5.out, by decide⟩
  | true =>
   have e3 : w5.cell? ⟨g, 3, none⟩ = some (.int .i64 90) := H5.out.2.2.1.cell 3
   have ef := fun i => H5.out.2.2.1.free i
   go_wp2_with fail
   go_meet
   exact ⟨40, H5.out.set 3 _ rfl, by decide⟩
 case rest =>
 clear H5
 obtain ⟨nxt, hM, hnxt⟩ := hcut.out
 rename World => w6
 have H6 : Hid (MdS B w w6 c a0 len cap g #[.string iss, .int .i64 num, .int .i64 10, .int .i64 nxt, .int .i64 bas, .slice none 0 0, .string ⟨#[]⟩]) := hM
 have HNX : Hid (0 <= nxt /\ nxt <= 90) := hnxt
 clear hcut hM hnxt
 have hbp : 0 <= bas := HNB.out.2.1
 go_wp2_with fail
 go_loopw [8, 9] (fun av iv wr => ∃ (k : Nat) (at_ : Int), k <= 3 /\ iv = .int .i64 k /\ av = .int .i64 at_ /\ (0 <= at_ /\ at_ <= 10 * k) /\ Hid (∃ (ps : List (Int × Int)) (pa : Option Addr) (pc : Nat), MdS B w wr c a0 len cap g #[.string iss, .int .i64 num, .int .i64 10, .int .i64 nxt, .int .i64 bas, .slice pa k pc, .string ⟨#[]⟩] /\ OwnR wr (g + 1) (.slice pa k pc) ps /\ ps.length = k /\ (∀ p ∈ ps, bd p.1 /\ bd p.2) /\ g + 1 <= wr.heap.size)) (fun _ iv _ => 4 - (intOf iv).toNat)
 case atStart => exact ⟨0, 0, by decide, rfl, rfl, by omega, [], none, 0, H6.out, World.ownsRow_nil _ _ _ _, rfl, (fun p hp => by cases hp), H6.out.2.2.1.lt⟩
 case round =>
  clear H6
  obtain ⟨k, at_, hk, rfl, rfl, hat, H0⟩ := hrel
  obtain ⟨ps, pa, pc, hM⟩ := H0.out
  have H : Hid (MdS B w wr c a0 len cap g #[.string iss, .int .i64 num, .int .i64 10, .int .i64 nxt, .int .i64 bas, .slice pa k pc, .string ⟨#[]⟩] /\ OwnR wr (g + 1) (.slice pa k pc) ps /\ ps.length = k /\ (∀ p ∈ ps, bd p.1 /\ bd p.2) /\ g + 1 <= wr.heap.size) := hM
  clear H0 hM
  have HDR : Hid (∀ W W', (MdS B w W c a0 len cap g #[.string iss, .int .i64 num, .int .i64 10, .int .i64 nxt, .int .i64 bas, .slice pa k pc, .string ⟨#[]⟩] /\ OwnR W (g + 1) (.slice pa k pc) ps /\ ps.length = k /\ (∀ p ∈ ps, bd p.1 /\ bd p.2) /\ g + 1 <= W.heap.size) -> Cur B W' c a0 len cap -> W.grownBy W' (some c) -> (MdS B w W' c a0 len cap g #[.string iss, .int .i64 num, .int .i64 10, .int .i64 nxt, .int .i64 bas, .slice pa k pc, .string ⟨#[]⟩] /\ OwnR W' (g + 1) (.slice pa k pc) ps /\ ps.length = k /\ (∀ p ∈ ps, bd p.1 /\ bd p.2) /\ g + 1 <= W'.heap.size)) := fun W W' h hc hg => ⟨h.1.draw hc hg, h.2.1.grownC hg (by have := h.1.2.2.2; omega), h.2.2.1, h.2.2.2.1, Nat.le_trans h.2.2.2.2 hg.size⟩
  go_wp2_with fail
  refine (l01Below_any 4 B wr c a0 len cap (by decide) H.out.1.1.2).mono ?_
  rintro e v1 ⟨m1, hm0, hm1, -, rfl, hc1, hg1⟩
  have hm4 : m1 < 4 := hm1 (by decide)
  have H1 : Hid (MdS B w v1 c a0 len cap g #[.string iss, .int .i64 num, .int .i64 10, .int .i64 nxt, .int .i64 bas, .slice pa k pc, .string ⟨#[]⟩] /\ OwnR v1 (g + 1) (.slice pa k pc) ps /\ ps.length = k /\ (∀ p ∈ ps, bd p.1 /\ bd p.2) /\ g + 1 <= v1.heap.size) := HDR.out _ _ H.out hc1 hg1
  clear H hc1 hg1 hm1
  by_cases hkm : (k : Int) < m1
  ·have hk3 : k < 3 := by omega
   go_wp2_with fail
   refine (l01Below_any 3 B v1 c a0 len cap (by decide) H1.out.1.1.2).mono ?_
   rintro e v2 ⟨m2, hq0, hq1, -, rfl, hc2, hg2⟩
   have hq3 : m2 < 3 := hq1 (by decide)
   have H2 : Hid (MdS B w v2 c a0 len cap g #[.string iss, .int .i64 num, .int .i64 10, .int .i64 nxt, .int .i64 bas, .slice pa k pc, .string ⟨#[]⟩] /\ OwnR v2 (g + 1) (.slice pa k pc) ps /\ ps.length = k /\ (∀ p ∈ ps, bd p.1 /\ bd p.2) /\ g + 1 <= v2.heap.size) := HDR.out _ _ H1.out hc2 hg2
   clear H1 hc2 hg2 hq1
   obtain ⟨at2, hat2⟩ : ∃ q, at_ + 1 + m2 = q := ⟨_, rfl⟩
   have hwa : IntKind.i64.wrap (at_ + 1 + m2) = at_ + 1 + m2 := by rw [IntKind.wrap_i64]; omega
   go_wp2_with fail
   refine (l01Below_any 3 B v2 c a0 len cap (by decide) H2.out.1.1.2).mono ?_
   rintro e v3 ⟨m3, hr0, hr1, -, rfl, hc3, hg3⟩
   have hr3 : m3 < 3 := hr1 (by decide)
   have H3 : Hid (MdS B w v3 c a0 len cap g #[.string iss, .int .i64 num, .int .i64 10, .int .i64 nxt, .int .i64 bas, .slice pa k pc, .string ⟨#[]⟩] /\ OwnR v3 (g + 1) (.slice pa k pc) ps /\ ps.length = k /\ (∀ p ∈ ps, bd p.1 /\ bd p.2) /\ g + 1 <= v3.heap.size) := HDR.out _ _ H2.out hc3 hg3
   clear H2 hc3 hg3 hr1
   have hwr : IntKind.i64.wrap (1 + m3) = 1 + m3 := by rw [IntKind.wrap_i64]; omega
   have HAT : Hid (0 <= at2 /\ at2 <= 10 * ((k + 1 : Nat) : Int)) := by show _ /\ _; omega
   have b4 : v3.cell? ⟨g, 4, none⟩ = some (.int .i64 bas) := H3.out.1.2.2.1.cell 4
   by_cases hb0 : 0 < bas
   ·go_wp2_with fail
    refine (l01Once_any 2 B v3 c a0 len cap (by decide) H3.out.1.1.2).mono ?_
    rintro e v4 ⟨b4b, rfl, hc4, hg4⟩
    have H4 : Hid (MdS B w v4 c a0 len cap g #[.string iss, .int .i64 num, .int .i64 10, .int .i64 nxt, .int .i64 bas, .slice pa k pc, .string ⟨#[]⟩] /\ OwnR v4 (g + 1) (.slice pa k pc) ps /\ ps.length = k /\ (∀ p ∈ ps, bd p.1 /\ bd p.2) /\ g + 1 <= v4.heap.size) := HDR.out _ _ H3.out hc4 hg4
    clear H3 hc4 hg4 b4
    have b4 : v4.cell? ⟨g, 4, none⟩ = some (.int .i64 bas) := H4.out.1.2.2.1.cell 4
    cases b4b with
    | true =>
     have b5 : v4.cell? ⟨g, 5, none⟩ = some (.slice pa k pc) := H4.out.1.2.2.1.cell 5
     have HRB : Hid (bd (8)) := by show bd _; unfold bd; omega
     have HAB : Hid (bd at2) := by show bd _; have := HAT.out; unfold bd; omega
     obtain ⟨V5, hV5⟩ : ∃ V, V = v4.alloc (Obj.cells #[.int .i64 at2, .int .i64 (8)] 161) := ⟨_, rfl⟩
     have H5 : Hid ((MdS B w V5 c a0 len cap g #[.string iss, .int .i64 num, .int .i64 10, .int .i64 nxt, .int .i64 bas, .slice pa k pc, .string ⟨#[]⟩] /\ OwnR V5 (g + 1) (.slice pa k pc) ps /\ g + 1 <= V5.heap.size) /\ OwnR V5 v4.heap.size (.slice (some ⟨v4.heap.size, 0, none⟩) 1 1) [(at2, 8)]) := by
      have hb : Below v4.heap.size v4 V5 := by rw [hV5]; exact (Below.refl _ _).alloc (Nat.le_refl _) _
      exact ⟨⟨H4.out.1.out (grownBy_below' hb (row := none)) (fun k hk => by cases hk), H4.out.2.1.stays hb, Nat.le_trans H4.out.2.2.2.2 hb.size⟩, by rw [hV5]; exact rone_rev v4 (at2, 8)⟩
     go_wp2_with (at_builtin; rw [<- hV5]; refine wpList_append_revs rfl _ _ rfl (g + 1) (.slice pa k pc) k (cellsR ps) rfl (by have h := H5.out.1.2.1; unfold OwnR at h; rw [H4.out.2.2.1] at h; exact h) _ [(at2, 8)] _ H5.out.2 rfl (by show k + 1 <= _; omega) H5.out.1.2.2 ?_)
     intro v9 w9 ho9 hg9
     try rw [<- hV5] at hg9
     have ho9' : OwnR w9 (g + 1) v9 (ps ++ [(at2, 8)]) := by
      unfold OwnR
      rw [List.length_append, H4.out.2.2.1, cellsR_append]
      exact ho9
     obtain ⟨qa, qc, hq9, -, -, -⟩ := OwnR.shape ho9'
     rw [List.length_append, H4.out.2.2.1] at hq9
     change v9 = .slice qa (k + 1) qc at hq9
     subst hq9
     have H9 : Hid (MdS B w w9 c a0 len cap g #[.string iss, .int .i64 num, .int .i64 10, .int .i64 nxt, .int .i64 bas, .slice pa k pc, .string ⟨#[]⟩] /\ OwnR w9 (g + 1) (.slice qa (k + 1) qc) (ps ++ [(at2, 8)]) /\ (∀ p ∈ ps ++ [(at2, 8)], bd p.1 /\ bd p.2) /\ g + 1 <= w9.heap.size) := by
      refine ⟨H5.out.1.1.out hg9 (fun b hb => by have := (World.ownsRow.lt H5.out.1.2.1 b hb).1; omega), ho9', fun p hp => ?_, Nat.le_trans H5.out.1.2.2 hg9.size⟩
      rcases List.mem_append.1 hp with hp | hp
      ·exact H4.out.2.2.2.1 p hp
      ·rw [List.mem_singleton.1 hp]
       exact ⟨HAB.out, HRB.out⟩
     clear ho9 ho9' hg9 hV5 b5 b4 H5
     have b5 : w9.cell? ⟨g, 5, none⟩ = some (.slice pa k pc) := H9.out.1.2.2.1.cell 5
     have ef := fun i => H9.out.1.2.2.1.free i
     have HD : Hid (∃ (ps : List (Int × Int)) (pa : Option Addr) (pc : Nat), MdS B w (w9.setCell ⟨g, 5, none⟩ (.slice qa (k + 1) qc)) c a0 len cap g #[.string iss, .int .i64 num, .int .i64 10, .int .i64 nxt, .int .i64 bas, .slice pa (k + 1) pc, .string ⟨#[]⟩] /\ OwnR (w9.setCell ⟨g, 5, none⟩ (.slice qa (k + 1) qc)) (g + 1) (.slice pa (k + 1) pc) ps /\ ps.length = k + 1 /\ (∀ p ∈ ps, bd p.1 /\ bd p.2) /\ g + 1 <= (w9.setCell ⟨g, 5, none⟩ (.slice qa (k + 1) qc)).heap.size) := ⟨_, qa, qc, H9.out.1.set 5 _ rfl, H9.out.2.1.grownC (grownBy_setCell w9 g 5 _) (by omega), by rw [List.length_append, H4.out.2.2.1]; rfl, H9.out.2.2.1, Nat.le_trans H9.out.2.2.2 (grownBy_setCell w9 g 5 _).size⟩
     clear H9 H4
     go_wp2_with fail
     go_roundw
     case rel => exact ⟨k + 1, at2, by omega, by go_num, rfl, HAT.out, HD.out⟩
     case measure => simp [intOf]; omega
    | false =>
     have b5 : v4.cell? ⟨g, 5, none⟩ = some (.slice pa k pc) := H4.out.1.2.2.1.cell 5
     have HRB : Hid (bd (1 + m3)) := by show bd _; unfold bd; omega
     have HAB : Hid (bd at2) := by show bd _; have := HAT.out; unfold bd; omega
     obtain ⟨V5, hV5⟩ : ∃ V, V = v4.alloc (Obj.cells #[.int .i64 at2, .int .i64 (1 + m3)] 161) := ⟨_, rfl⟩
     have H5 : Hid ((MdS B w V5 c a0 len cap g #[.string iss, .int .i64 num, .int .i64 10, .int .i64 nxt, .int .i64 bas, .slice pa k pc, .string ⟨#[]⟩] /\ OwnR V5 (g + 1) (.slice pa k pc) ps /\ g + 1 <= V5.heap.size) /\ OwnR V5 v4.heap.size (.slice (some ⟨v4.heap.size, 0, none⟩) 1 1) [(at2, 1 + m3)]) := by
      have hb : Below v4.heap.size v4 V5 := by rw [hV5]; exact (Below.refl _ _).alloc (Nat.le_refl _) _
      exact ⟨⟨H4.out.1.out (grownBy_below' hb (row := none)) (fun k hk => by cases hk), H4.out.2.1.stays hb, Nat.le_trans H4.out.2.2.2.2 hb.size⟩, by rw [hV5]; exact rone_rev v4 (at2, 1 + m3)⟩
     go_wp2_with (at_builtin; rw [<- hV5]; refine wpList_append_revs rfl _ _ rfl (g + 1) (.slice pa k pc) k (cellsR ps) rfl (by have h := H5.out.1.2.1; unfold OwnR at h; rw [H4.out.2.2.1] at h; exact h) _ [(at2, 1 + m3)] _ H5.out.2 rfl (by show k + 1 <= _; omega) H5.out.1.2.2 ?_)
     intro v9 w9 ho9 hg9
     try rw [<- hV5] at hg9
     have ho9' : OwnR w9 (g + 1) v9 (ps ++ [(at2, 1 + m3)]) := by
      unfold OwnR
      rw [List.length_append, H4.out.2.2.1, cellsR_append]
      exact ho9
     obtain ⟨qa, qc, hq9, -, -, -⟩ := OwnR.shape ho9'
     rw [List.length_append, H4.out.2.2.1] at hq9
     change v9 = .slice qa (k + 1) qc at hq9
     subst hq9
     have H9 : Hid (MdS B w w9 c a0 len cap g #[.string iss, .int .i64 num, .int .i64 10, .int .i64 nxt, .int .i64 bas, .slice pa k pc, .string ⟨#[]⟩] /\ OwnR w9 (g + 1) (.slice qa (k + 1) qc) (ps ++ [(at2, 1 + m3)]) /\ (∀ p ∈ ps ++ [(at2, 1 + m3)], bd p.1 /\ bd p.2) /\ g + 1 <= w9.heap.size) := by
      refine ⟨H5.out.1.1.out hg9 (fun b hb => by have := (World.ownsRow.lt H5.out.1.2.1 b hb).1; omega), ho9', fun p hp => ?_, Nat.le_trans H5.out.1.2.2 hg9.size⟩
      rcases List.mem_append.1 hp with hp | hp
      ·exact H4.out.2.2.2.1 p hp
      ·rw [List.mem_singleton.1 hp]
       exact ⟨HAB.out, HRB.out⟩
     clear ho9 ho9' hg9 hV5 b5 b4 H5
     have b5 : w9.cell? ⟨g, 5, none⟩ = some (.slice pa k pc) := H9.out.1.2.2.1.cell 5
     have ef := fun i => H9.out.1.2.2.1.free i
     have HD : Hid (∃ (ps : List (Int × Int)) (pa : Option Addr) (pc : Nat), MdS B w (w9.setCell ⟨g, 5, none⟩ (.slice qa (k + 1) qc)) c a0 len cap g #[.string iss, .int .i64 num, .int .i64 10, .int .i64 nxt, .int .i64 bas, .slice pa (k + 1) pc, .string ⟨#[]⟩] /\ OwnR (w9.setCell ⟨g, 5, none⟩ (.slice qa (k + 1) qc)) (g + 1) (.slice pa (k + 1) pc) ps /\ ps.length = k + 1 /\ (∀ p ∈ ps, bd p.1 /\ bd p.2) /\ g + 1 <= (w9.setCell ⟨g, 5, none⟩ (.slice qa (k + 1) qc)).heap.size) := ⟨_, qa, qc, H9.out.1.set 5 _ rfl, H9.out.2.1.grownC (grownBy_setCell w9 g 5 _) (by omega), by rw [List.length_append, H4.out.2.2.1]; rfl, H9.out.2.2.1, Nat.le_trans H9.out.2.2.2 (grownBy_setCell w9 g 5 _).size⟩
     clear H9 H4
     go_wp2_with fail
     go_roundw
     case rel => exact ⟨k + 1, at2, by omega, by go_num, rfl, HAT.out, HD.out⟩
     case measure => simp [intOf]; omega
   ·skip
    have b5 : v3.cell? ⟨g, 5, none⟩ = some (.slice pa k pc) := H3.out.1.2.2.1.cell 5
    have HRB : Hid (bd (1 + m3)) := by show bd _; unfold bd; omega
    have HAB : Hid (bd at2) := by show bd _; have := HAT.out; unfold bd; omega
    obtain ⟨V5, hV5⟩ : ∃ V, V = v3.alloc (Obj.cells #[.int .i64 at2, .int .i64 (1 + m3)] 161) := ⟨_, rfl⟩
    have H5 : Hid ((MdS B w V5 c a0 len cap g #[.string iss, .int .i64 num, .int .i64 10, .int .i64 nxt, .int .i64 bas, .slice pa k pc, .string ⟨#[]⟩] /\ OwnR V5 (g + 1) (.slice pa k pc) ps /\ g + 1 <= V5.heap.size) /\ OwnR V5 v3.heap.size (.slice (some ⟨v3.heap.size, 0, none⟩) 1 1) [(at2, 1 + m3)]) := by
     have hb : Below v3.heap.size v3 V5 := by rw [hV5]; exact (Below.refl _ _).alloc (Nat.le_refl _) _
     exact ⟨⟨H3.out.1.out (grownBy_below' hb (row := none)) (fun k hk => by cases hk), H3.out.2.1.stays hb, Nat.le_trans H3.out.2.2.2.2 hb.size⟩, by rw [hV5]; exact rone_rev v3 (at2, 1 + m3)⟩
    go_wp2_with (at_builtin; rw [<- hV5]; refine wpList_append_revs rfl _ _ rfl (g + 1) (.slice pa k pc) k (cellsR ps) rfl (by have h := H5.out.1.2.1; unfold OwnR at h; rw [H3.out.2.2.1] at h; exact h) _ [(at2, 1 + m3)] _ H5.out.2 rfl (by show k + 1 <= _; omega) H5.out.1.2.2 ?_)
    intro v9 w9 ho9 hg9
    try rw [<- hV5] at hg9
    have ho9' : OwnR w9 (g + 1) v9 (ps ++ [(at2, 1 + m3)]) := by
     unfold OwnR
     rw [List.length_append, H3.out.2.2.1, cellsR_append]
     exact ho9
    obtain ⟨qa, qc, hq9, -, -, -⟩ := OwnR.shape ho9'
    rw [List.length_append, H3.out.2.2.1] at hq9
    change v9 = .slice qa (k + 1) qc at hq9
    subst hq9
    have H9 : Hid (MdS B w w9 c a0 len cap g #[.string iss, .int .i64 num, .int .i64 10, .int .i64 nxt, .int .i64 bas, .slice pa k pc, .string ⟨#[]⟩] /\ OwnR w9 (g + 1) (.slice qa (k + 1) qc) (ps ++ [(at2, 1 + m3)]) /\ (∀ p ∈ ps ++ [(at2, 1 + m3)], bd p.1 /\ bd p.2) /\ g + 1 <= w9.heap.size) := by
     refine ⟨H5.out.1.1.out hg9 (fun b hb => by have := (World.ownsRow.lt H5.out.1.2.1 b hb).1; omega), ho9', fun p hp => ?_, Nat.le_trans H5.out.1.2.2 hg9.size⟩
     rcases List.mem_append.1 hp with hp | hp
     ·exact H3.out.2.2.2.1 p hp
     ·rw [List.mem_singleton.1 hp]
      exact ⟨HAB.out, HRB.out⟩
    clear ho9 ho9' hg9 hV5 b5 b4 H5
    have b5 : w9.cell? ⟨g, 5, none⟩ = some (.slice pa k pc) := H9.out.1.2.2.1.cell 5
    have ef := fun i => H9.out.1.2.2.1.free i
    have HD : Hid (∃ (ps : List (Int × Int)) (pa : Option Addr) (pc : Nat), MdS B w (w9.setCell ⟨g, 5, none⟩ (.slice qa (k + 1) qc)) c a0 len cap g #[.string iss, .int .i64 num, .int .i64 10, .int .i64 nxt, .int .i64 bas, .slice pa (k + 1) pc, .string ⟨#[]⟩] /\ OwnR (w9.setCell ⟨g, 5, none⟩ (.slice qa (k + 1) qc)) (g + 1) (.slice pa (k + 1) pc) ps /\ ps.length = k + 1 /\ (∀ p ∈ ps, bd p.1 /\ bd p.2) /\ g + 1 <= (w9.setCell ⟨g, 5, none⟩ (.slice qa (k + 1) qc)).heap.size) := ⟨_, qa, qc, H9.out.1.set 5 _ rfl, H9.out.2.1.grownC (grownBy_setCell w9 g 5 _) (by omega), by rw [List.length_append, H3.out.2.2.1]; rfl, H9.out.2.2.1, Nat.le_trans H9.out.2.2.2 (grownBy_setCell w9 g 5 _).size⟩
    clear H9 H3
    go_wp2_with fail
    go_roundw
    case rel => exact ⟨k + 1, at2, by omega, by go_num, rfl, HAT.out, HD.out⟩
    case measure => simp [intOf]; omega
  ·have HX : Hid (OwnL v1 (g + 1) (.agg #[.string iss, .int .i64 num, .int .i64 10, .int .i64 nxt, .int .i64 bas, .slice pa k pc, .string ⟨#[]⟩]) ⟨iss, num, 10, nxt, bas, ps, ⟨#[]⟩⟩) := ⟨_, rfl, H1.out.2.1⟩
   obtain ⟨x, hx⟩ : ∃ x : Cl, x = ⟨iss, num, 10, nxt, bas, ps, ⟨#[]⟩⟩ := ⟨_, rfl⟩
   have HMX : Hid (MdL x) := by
    rw [hx]
    refine ⟨⟨HC.out.2.1, by show ps.length <= 6; have := H1.out.2.2.1; omega, Nat.zero_le _⟩, ⟨HNB.out.1, by show bd 10; unfold bd; decide, HNX.out, by show bd bas; have := HNB.out; unfold bd; omega⟩, H1.out.2.2.2.1⟩
   have HRX : Hid (x.revs.length <= 5) := by show _ <= _; rw [hx]; show ps.length <= 5; have := H1.out.2.2.1; omega
   rw [<- hx] at HX
   have ES := specSignedCrl_any x (.agg #[.string iss, .int .i64 num, .int .i64 10, .int .i64 nxt, .int .i64 bas, .slice pa k pc, .string ⟨#[]⟩]) by_ (g + 1) v1 (Nat.le_trans HMX.out.wt (by decide)) HMX.out.wd (by have := HC.out.2.2; omega) HX.out
   have c0 : v1.cell? ⟨g, 0, none⟩ = some (.string iss) := H1.out.1.2.2.1.cell 0
   have c1 : v1.cell? ⟨g, 1, none⟩ = some (.int .i64 num) := H1.out.1.2.2.1.cell 1
   have c2 : v1.cell? ⟨g, 2, none⟩ = some (.int .i64 10) := H1.out.1.2.2.1.cell 2
   have c3 : v1.cell? ⟨g, 3, none⟩ = some (.int .i64 nxt) := H1.out.1.2.2.1.cell 3
   have c4 : v1.cell? ⟨g, 4, none⟩ = some (.int .i64 bas) := H1.out.1.2.2.1.cell 4
   have c5 : v1.cell? ⟨g, 5, none⟩ = some (.slice pa k pc) := H1.out.1.2.2.1.cell 5
   have c6 : v1.cell? ⟨g, 6, none⟩ = some (.string ⟨#[]⟩) := H1.out.1.2.2.1.cell 6
   go_wp2_with fail
   refine ES.mono ?_
   rintro e w8 ⟨u8, rfl, hu8, hb8⟩
   obtain ⟨y, hy⟩ : ∃ y, sgL x by_ = y := ⟨_, rfl⟩
   have HY : Hid (MdL y /\ y.sig.size = 15 /\ y.revs.length <= 5) := by
    have hs : y.sig.size = 15 := by rw [<- hy]; exact sigB_size _ HC.out.2.2
    obtain ⟨⟨h1, h2, h3⟩, h4, h5⟩ := HMX.out
    refine ⟨⟨⟨?_, ?_, by omega⟩, ?_, ?_⟩, hs, by rw [<- hy]; exact HRX.out⟩
    ·rw [<- hy]; exact h1
    ·rw [<- hy]; exact h2
    ·rw [<- hy]; exact h4
    ·rw [<- hy]; exact h5
   rw [hy] at hu8
   obtain ⟨pY, qY, huY⟩ := hu8.at.shape
   subst huY
   have H8 : Hid ((w.grownBy w8 (some c) /\ Cur B w8 c a0 len cap) /\ Blk w8 w.heap.size 49 #[.string ⟨#[]⟩, .int .i64 0, .int .i64 0, .int .i64 0, .int .i64 0, .slice none 0 0, .string ⟨#[]⟩] /\ OwnL w8 v1.heap.size (clV y (.slice pY y.revs.length qY)) y /\ (c < w.heap.size /\ w.heap.size < v1.heap.size)) := ⟨⟨grownBy_trans H1.out.1.1.1 (grownBy_below' hb8), H1.out.1.1.2.kept hb8⟩, H1.out.1.2.1.below hb8 H1.out.1.2.1.lt, hu8, H1.out.1.2.2.2.1, H1.out.1.2.1.lt⟩
   clear hb8 hu8 H1 ES HX hx hy c0 c1 c2 c3 c4 c5 c6
   have r0 : w8.cell? ⟨w.heap.size, 0, none⟩ = some (.string ⟨#[]⟩) := H8.out.2.1.cell 0
   have r1 : w8.cell? ⟨w.heap.size, 1, none⟩ = some (.int .i64 0) := H8.out.2.1.cell 1
   have r2 : w8.cell? ⟨w.heap.size, 2, none⟩ = some (.int .i64 0) := H8.out.2.1.cell 2
   have r3 : w8.cell? ⟨w.heap.size, 3, none⟩ = some (.int .i64 0) := H8.out.2.1.cell 3
   have r4 : w8.cell? ⟨w.heap.size, 4, none⟩ = some (.int .i64 0) := H8.out.2.1.cell 4
   have r5 : w8.cell? ⟨w.heap.size, 5, none⟩ = some (.slice none 0 0) := H8.out.2.1.cell 5
   have r6 : w8.cell? ⟨w.heap.size, 6, none⟩ = some (.string ⟨#[]⟩) := H8.out.2.1.cell 6
   have rf := fun i => H8.out.2.1.free i
   unfold clV
   go_wp2_with fail
   refine bodyPost_ret (v := clV y (.slice pY y.revs.length qY)) (by simp [results, Tryz.results138, go_sem, clV, r0, r1, r2, r3, r4, r5, r6]; try rfl) rfl ?_
   generalize hV : World.setCell _ { block := w.heap.size, off := 6 } (Value.string y.sig) = V
   have hgV : w8.grownBy V (some w.heap.size) := by
    rw [<- hV]
    iterate 6 refine grownBy_trans ?_ (grownBy_setCell _ _ _ _)
    exact grownBy_setCell _ _ _ _
   refine ⟨_, y, rfl, ?_, HY.out.1, HY.out.2, ?_, ?_⟩
   ·obtain ⟨p, hp, hrow⟩ := H8.out.2.2.1
    refine ⟨p, hp, OwnR.base (World.ownsRow.kept hrow hgV (.inr fun e => ?_)) (by have := H8.out.2.2.2; omega)⟩
    have := (World.ownsRow.lt hrow _ e).1
    have := H8.out.2.2.2
    omega
   ·exact H8.out.1.2.grown hgV (fun k hk => by have := Option.some.inj hk; have := H8.out.2.2.2; omega)
   ·exact grow_step H8.out.1.1 hgV (fun k hk => by have := Option.some.inj hk; omega)
end Go.Proofs.YtjgbmnhoajiabaaGreatDoor
