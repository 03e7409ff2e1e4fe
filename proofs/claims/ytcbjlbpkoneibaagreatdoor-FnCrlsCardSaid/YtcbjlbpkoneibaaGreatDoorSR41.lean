/-
  Texts of the proof.
-/
import Derived.Deep.Cut
import Derived.Deep.CutRange
import Derived.Test.YtcbjlbpkoneibaaGreatDoorSR39
import Derived.Test.YtcbjlbpkoneibaaGreatDoorSR40
set_option linter.unusedVariables false
set_option linter.unusedSimpArgs false
set_option maxRecDepth 100000
set_option maxHeartbeats 25600000
namespace Go.Proofs.YtcbjlbpkoneibaaGreatDoor
open Go.RowKit
theorem hornA_byI {x : Int} (h : 0 <= x) : horn 256 ((byI x).reverse.map fun b => (b.toNat : Int)) = x := by
 obtain ⟨n, rfl⟩ : ∃ n : Nat, x = (n : Int) := ⟨x.toNat, by omega⟩;clear h
 induction n using Nat.strongRecOn with
 | _ n ih =>
  by_cases h0 : n = 0
  ·subst h0; rw [byI_zero (by simp)]; simp [horn]
  ·rw [byI_step (by omega), List.reverse_cons, List.map_append, List.map_singleton, horn_snoc]
   have h1 := ih (n / 256) (by omega);have h2 : (UInt8.ofNat ((n : Int) % 256).toNat).toNat = ((n : Int) % 256).toNat := by
    rw [UInt8.toNat_ofNat'];omega
   rw [show ((n : Int) / 256) = ((n / 256 : Nat) : Int) by omega, h1, h2];omega
theorem horn_zeros (k : Nat) (l : List Int) : horn 256 (List.replicate k 0 ++ l) = horn 256 l := by
 unfold horn;rw [List.foldl_append]
 congr 1
 induction k with
 | zero => rfl
 | succ k ih => rw [List.replicate_succ, List.foldl_cons]; exact ih
theorem horn_lt256 : ∀ (l : List Int), (∀ x ∈ l, 0 <= x /\ x < 256) -> 0 <= horn 256 l /\ horn 256 l < 256 ^ l.length := by
 suffices H : ∀ (n : Nat) (l : List Int), l.length = n -> (∀ x ∈ l, 0 <= x /\ x < 256) -> 0 <= horn 256 l /\ horn 256 l < 256 ^ l.length from fun l => H l.length l rfl
 intro n
 induction n with
 | zero => intro l hl _; rw [List.eq_nil_of_length_eq_zero hl]; decide
 | succ n ih =>
  intro l hl h;obtain ⟨m, x, rfl⟩ : ∃ m x, l = m ++ [x] := ⟨l.dropLast, l.getLast (fun e => by rw [e] at hl; simp at hl), (List.dropLast_concat_getLast _).symm⟩;have h1 := ih m (by simpa using hl) (fun y hy => h y (by simp [hy]));have h2 := h x (by simp);rw [horn_snoc, List.length_append, List.length_singleton, Int.pow_succ];omega
theorem bytesI_bd2 (s : ByteArray) : ∀ x ∈ bytesI s, 0 <= x /\ x < 256 := by
 intro x hx;unfold bytesI at hx;obtain ⟨b, _, rfl⟩ := List.mem_map.1 hx;have := b.toNat_lt;omega
def pnum (s : ByteArray) : Int := horn 256 (bytesI (pddB s))
theorem readL_pdd (s : ByteArray) : readL (pddB s) = digs (pnum s) := if_pos (by rw [pddB_size]; decide)
theorem pnum_bd (s : ByteArray) : 0 <= pnum s /\ pnum s < 256 ^ 14 := by
 have e : bytesI (pddB s) = List.replicate 1 0 ++ (bytesI (pddB s)).tail := by
  have : bytesI (pddB s) = 0 :: ((aheadB.data.toList.tail ++ ((digB s).extract 0 6).data.toList).map fun b => (b.toNat : Int)) := by
   unfold bytesI pddB;rw [ByteArray.data_append, Array.toList_append];rfl
  rw [this];rfl
 have hl : (bytesI (pddB s)).length = 15 := by
  have := pddB_size s;unfold bytesI;rw [List.length_map];exact this
 unfold pnum;rw [e, horn_zeros];have h := horn_lt256 (bytesI (pddB s)).tail (fun x hx => bytesI_bd2 _ x (List.mem_of_mem_tail hx));rw [List.length_tail, hl] at h;exact h
theorem txtD {x : Int} (h : 0 <= x) (h2 : x < 256 ^ 15) : txtL (digs x) = ⟨(byI x).reverse.toArray⟩ /\ (txtL (digs x)).size <= 15 := by
 have h3 : (256 : Int) ^ 15 <= 10000 ^ 40 := by decide
 have e : txtL (digs x) = ⟨(byI x).reverse.toArray⟩ := by
  unfold txtL;rw [if_pos (okL_digs h (by omega)), ev_digs h]
 refine ⟨e, txtL_size ?_⟩;rw [ev_digs h];exact h2
theorem bytesI_txt {x : Int} (h : 0 <= x) (h2 : x < 256 ^ 15) : horn 256 (bytesI (txtL (digs x))) = x := by
 rw [(txtD h h2).1];have e : bytesI (⟨(byI x).reverse.toArray⟩ : ByteArray) = (byI x).reverse.map fun b => (b.toNat : Int) := by simp [bytesI]
 rw [e, hornA_byI h]
theorem keyD_size {x : Int} (h : 0 <= x) (h2 : x < 256 ^ 15) : (keyB (digs x)).size = 15 := by
 have h3 := (txtD h h2).2;unfold keyB;rw [ByteArray.size_append, zerosB_size];omega
theorem readL_key {x : Int} (h : 0 <= x) (h2 : x < 256 ^ 15) : readL (keyB (digs x)) = digs x := by
 have hs := keyD_size h h2;unfold readL;rw [if_pos (by rw [hs]; decide)];have e : bytesI (keyB (digs x)) = List.replicate (15 - (txtL (digs x)).size) 0 ++ bytesI (txtL (digs x)) := by
  unfold keyB bytesI zerosB;rw [ByteArray.data_append, Array.toList_append, List.map_append];simp
 rw [e, horn_zeros, bytesI_txt h h2]
theorem p15 : (256 : Int) ^ 15 = ((256 ^ 15 : Nat) : Int) := by decide
theorem p14 : (256 : Int) ^ 14 = ((256 ^ 14 : Nat) : Int) := by decide
theorem pubZ {i : Nat} (h : i < 6) : (256 : Int) ^ 14 <= (Rsa.pubN i : Int) /\ (Rsa.pubN i : Int) < 256 ^ 15 /\ (Rsa.pubN i : Int) < 10000 ^ 40 := by
 have hb := pubN_bd h;have h3 : (256 : Int) ^ 15 <= 10000 ^ 40 := by decide
 have h1 : ((256 ^ 14 : Nat) : Int) <= ((Rsa.pubN i : Nat) : Int) := Int.ofNat_le.2 hb.1;have h2 : ((Rsa.pubN i : Nat) : Int) < ((256 ^ 15 : Nat) : Int) := Int.ofNat_lt.2 hb.2;rw [<- p14] at h1;rw [<- p15] at h2;exact ⟨h1, h2, Int.lt_of_lt_of_le h2 h3⟩
theorem secZ {i : Nat} (h : i < 6) : (0 : Int) <= (Rsa.secN i : Int) /\ (Rsa.secN i : Int) < 10000 ^ 40 := by
 have hb := secN_bd h;have h3 : (256 : Int) ^ 15 <= 10000 ^ 40 := by decide
 have h2 : ((Rsa.secN i : Nat) : Int) < ((256 ^ 15 : Nat) : Int) := Int.ofNat_lt.2 hb.2;rw [<- p15] at h2;exact ⟨by omega, Int.lt_of_lt_of_le h2 h3⟩
theorem byI_more {x : Int} : ∀ {k : Nat}, 256 ^ k <= x -> k < (byI x).length := by
 intro k
 induction k generalizing x with
 | zero => intro h; rw [byI_step (by simp at h; omega)]; simp
 | succ k ih =>
  intro h;rw [Int.pow_succ] at h;have hp : (0 : Int) < 256 ^ k := Int.pow_pos (by decide);rw [byI_step (by omega), List.length_cons];have := ih (x := x / 256) (by omega);omega
theorem pubB_is {i : Nat} (h : i < 6) : pubB (i : Int) = txtL (digs (Rsa.pubN i : Int)) := by unfold pubB; rw [fig_pub h]
theorem pubB_size {i : Nat} (h : i < 6) : (pubB (i : Int)).size = 15 := by
 have hz := pubZ h;have h0 : (0 : Int) <= (Rsa.pubN i : Int) := by omega
 have h1 := txtD h0 hz.2.1;rw [pubB_is h];have h2 : (txtL (digs (Rsa.pubN i : Int))).size = (byI (Rsa.pubN i : Int)).length := by
  rw [h1.1];show ((byI (Rsa.pubN i : Int)).reverse.toArray).size = _;simp
 have h3 := byI_more hz.1;have h4 := h1.2;omega
theorem readL_pub {i : Nat} (h : i < 6) : readL (pubB (i : Int)) = digs (Rsa.pubN i : Int) := by
 have hz := pubZ h;have h0 : (0 : Int) <= (Rsa.pubN i : Int) := by omega
 have hs := pubB_size h;unfold readL;rw [if_pos (by rw [hs]; decide), pubB_is h, bytesI_txt h0 hz.2.1]
def snum (i : Nat) (s : ByteArray) : Int := pnum s ^ Rsa.secN i % (Rsa.pubN i : Int)
theorem snum_bd {i : Nat} (h : i < 6) (s : ByteArray) : 0 <= snum i s /\ snum i s < (Rsa.pubN i : Int) := by
 have hz := pubZ h;have hp : (0 : Int) < 256 ^ 14 := by decide
 exact ⟨Int.emod_nonneg _ (by omega), Int.emod_lt_of_pos _ (by omega)⟩
theorem pmD {x y z : Int} (hx : 0 <= x /\ x < 10000 ^ 40) (hy : 0 <= y /\ y < 10000 ^ 40) (hz : 0 < z /\ z < 10000 ^ 40) : pmL (digs x) (digs y) (digs z) = digs (x ^ y.toNat % z) := by
 have hm : 0 < (digs z).length := digs_ne hz.1;unfold pmL;rw [if_pos (by simp [okL_digs hx.1 hx.2, okL_digs hy.1 hy.2, okL_digs (Int.le_of_lt hz.1) hz.2, hm]), ev_digs hx.1, ev_digs hy.1, ev_digs (Int.le_of_lt hz.1)]
theorem pnum40 (s : ByteArray) : 0 <= pnum s /\ pnum s < 10000 ^ 40 := by
 have h := pnum_bd s;have h3 : (256 : Int) ^ 14 <= 10000 ^ 40 := by decide
 exact ⟨h.1, Int.lt_of_lt_of_le h.2 h3⟩
theorem pubZ0 {i : Nat} (h : i < 6) : (0 : Int) < (Rsa.pubN i : Int) := Int.lt_of_lt_of_le (by decide) (pubZ h).1
theorem sigB_is {i : Nat} (h : i < 6) (s : ByteArray) : sigB (i : Int) s = keyB (digs (snum i s)) := by
 unfold sigB secL;rw [if_pos (by omega), fig_sec h, fig_pub h, readL_pdd, pmD (pnum40 s) (secZ h) ⟨pubZ0 h, (pubZ h).2.2⟩, Int.toNat_natCast];rfl
theorem snum15 {i : Nat} (h : i < 6) (s : ByteArray) : 0 <= snum i s /\ snum i s < 256 ^ 15 := ⟨(snum_bd h s).1, Int.lt_trans (snum_bd h s).2 (pubZ h).2.1⟩
theorem sigB_size {i : Nat} (s : ByteArray) (h : i < 6) : (sigB (i : Int) s).size = 15 := by
 rw [sigB_is h];exact keyD_size (snum15 h s).1 (snum15 h s).2
theorem readL_sig {i : Nat} (h : i < 6) (s : ByteArray) : readL (sigB (i : Int) s) = digs (snum i s) := by
 rw [sigB_is h];exact readL_key (snum15 h s).1 (snum15 h s).2
theorem sign_turns {i : Nat} (h : i < 6) (s : ByteArray) (e : Nat) (he : e = 65537) : snum i s ^ e % (Rsa.pubN i : Int) = pnum s := by
 have hb := pnum_bd s;obtain ⟨m, hm⟩ : ∃ m : Nat, pnum s = (m : Int) := ⟨(pnum s).toNat, by omega⟩;have hr := Rsa.house_turns i h m e he;unfold snum;rw [hm] at hb |-;have e1 : ((m : Int) ^ Rsa.secN i % (Rsa.pubN i : Int)) ^ e % (Rsa.pubN i : Int) = ((((m ^ Rsa.secN i) ^ e % Rsa.pubN i : Nat)) : Int) := by
  rw [Nat.pow_mod];simp only [Int.natCast_emod, Int.natCast_pow]
 rw [e1, hr];have hlt : (m : Int) < (Rsa.pubN i : Int) := Int.lt_of_lt_of_le hb.2 (pubZ h).1;rw [Nat.mod_eq_of_lt (by omega)]
theorem open_is {i : Nat} (h : i < 6) (s : ByteArray) : pmL (readL (sigB (i : Int) s)) (digs 65537) (readL (pubB (i : Int))) = readL (pddB s) := by
 have h40 : (256 : Int) ^ 15 <= 10000 ^ 40 := by decide
 rw [readL_sig h, readL_pub h, pmD ⟨(snum15 h s).1, Int.lt_of_lt_of_le (snum15 h s).2 h40⟩ (by decide) ⟨pubZ0 h, (pubZ h).2.2⟩, sign_turns h s (Int.toNat 65537) rfl, readL_pdd]
theorem sok_right {i : Nat} (h : i < 6) (s : ByteArray) : sokB (pubB (i : Int)) s (sigB (i : Int) s) = true := by
 unfold sokB;rw [if_pos ⟨pubB_size h, sigB_size s h⟩, if_pos (by rw [readL_sig h, readL_pub h, ev_digs (snum_bd h s).1, ev_digs (Int.le_of_lt (pubZ0 h))]; exact (snum_bd h s).2), open_is h];simp
open Go.RowKit Der
def bd (x : Int) : Prop := -1000000 <= x /\ x <= 1000000
def MdL (x : Cl) : Prop := (x.issuer.size <= 100 /\ x.revs.length <= 6 /\ x.sig.size <= 15) /\ (bd x.num /\ bd x.ths /\ (0 <= x.nxt /\ x.nxt <= 90) /\ bd x.bas) /\ ∀ p ∈ x.revs, bd p.1 /\ bd p.2
theorem MdL.wt {x : Cl} (h : MdL x) : wtL x <= 200 := by obtain ⟨⟨h1, h2, h3⟩, -⟩ := h; unfold wtL; omega
theorem MdL.wd {x : Cl} (h : MdL x) : WdL x := by
 obtain ⟨⟨h1, h2, h3⟩, ⟨k1, k2, k3, k4⟩, hr⟩ := h;unfold bd at *;refine ⟨fun y hy => ?_, fun p hp => ?_, fun s hs => ?_, by omega⟩
 ·simp only [List.mem_cons, List.not_mem_nil, or_false] at hy
  rcases hy with rfl | rfl | rfl | rfl <;> omega
 ·have := hr p hp
  omega
 ·simp only [List.mem_cons, List.not_mem_nil, or_false] at hs
  rcases hs with rfl | rfl
  ·omega
  ·omega
def MdS (B : Nat) (w W : World) (c : Nat) (a0 : Option Addr) (len cap : Nat) (g : Nat) (cells : Array Value) : Prop := (w.grownBy W (some c) /\ Cur B W c a0 len cap) /\ Blk W w.heap.size 26 #[zG ⟨#[]⟩, zI 0, zI 0, zI 0, zI 0, zZ, zG ⟨#[]⟩] /\ Blk W g 26 cells /\ (c < w.heap.size /\ w.heap.size < g)
theorem MdS.draw {B : Nat} {w W W' : World} {c : Nat} {a0 : Option Addr} {len cap g : Nat} {cells : Array Value} (h : MdS B w W c a0 len cap g cells) (hc : Cur B W' c a0 len cap) (hg : W.grownBy W' (some c)) : MdS B w W' c a0 len cap g cells :=
 ⟨⟨grownBy_trans h.1.1 hg, hc⟩, h.2.1.grown hg (fun e => by have := Option.some.inj e; have := h.2.2.2; omega), h.2.2.1.grown hg (fun e => by have := Option.some.inj e; have := h.2.2.2; omega), h.2.2.2⟩
theorem MdS.out {B : Nat} {w W W' : World} {c : Nat} {a0 : Option Addr} {len cap g : Nat} {cells : Array Value} {r : Option Nat} (h : MdS B w W c a0 len cap g cells) (hg : W.grownBy W' r) (hr : ∀ k, r = some k -> g < k) : MdS B w W' c a0 len cap g cells :=
 ⟨⟨grow_step h.1.1 hg (fun k hk => by have := hr k hk; have := h.2.2.2; omega), h.1.2.grown hg (fun k hk => by have := hr k hk; have := h.2.2.2; omega)⟩, h.2.1.grown hg (fun e => by have := hr _ e.symm; have := h.2.2.2; omega), h.2.2.1.grown hg (fun e => by have := hr _ e.symm; omega), h.2.2.2⟩
theorem MdS.set {B : Nat} {w W : World} {c : Nat} {a0 : Option Addr} {len cap g : Nat} {cells cells' : Array Value} (h : MdS B w W c a0 len cap g cells) (j : Nat) (v : Value) (hc : cells.setIfInBounds j v = cells') : MdS B w (W.setCell ⟨g, j, none⟩ v) c a0 len cap g cells' := by
 have hg := grownBy_setCell W g j v;obtain ⟨h1, h2, h3, h4⟩ := h;exact ⟨⟨grow_step h1.1 hg (fun k hk => by have := Option.some.inj hk; omega), h1.2.grown hg (fun k hk => by have := Option.some.inj hk; omega)⟩, h2.grown hg (fun e => by have := Option.some.inj e; omega), by rw [<- hc]; exact h3.set j v, h4⟩
theorem OwnR.grownC {w w' : World} {b c : Nat} {v : Value} {l : List (Int × Int)} (h : OwnR w b v l) (hg : w.grownBy w' (some c)) (hc : c < b) : OwnR w' b v l :=
 World.ownsRow.kept h hg (.inr fun e => by have := (World.ownsRow.lt h c e).1; omega)
def MdPost (B : Nat) (w : World) (c : Nat) (a0 : Option Addr) (len cap : Nat) (e : Ending) (w' : World) : Prop := ∃ u x, e = .returned u /\ OwnL w' w.heap.size u x /\ MdL x /\ (x.sig.size = 15 /\ x.revs.length <= 5) /\ Cur B w' c a0 len cap /\ w.grownBy w' (some c)
theorem l10Made_any (iss : ByteArray) (hi : iss.size <= 100) (by_ : Nat) (hby : by_ < 6) (B : Nat) (w : World) (c : Nat) (a0 : Option Addr) (len cap : Nat) (hC : Cur B w c a0 len cap) :
  Calls Tryz.prog 40 #[.pointer (some ⟨c, 0, none⟩), zG iss, zI by_] w fun e w' => MdPost B w c a0 len cap e w' := by
 have HC : Hid (Cur B w c a0 len cap /\ iss.size <= 100 /\ by_ < 6) := ⟨hC, hi, hby⟩;clear hC hi hby;obtain ⟨W0, hW0⟩ : ∃ V, V = w.alloc (Obj.cells #[zG ⟨#[]⟩, zI 0, zI 0, zI 0, zI 0, zZ, zG ⟨#[]⟩] 26) := ⟨_, rfl⟩;have H0 : Hid ((zW w W0 /\ Cur B W0 c a0 len cap) /\ Blk W0 w.heap.size 26 #[zG ⟨#[]⟩, zI 0, zI 0, zI 0, zI 0, zZ, zG ⟨#[]⟩] /\ W0.heap.size = w.heap.size + 1) := by
  have hb : zW w W0 := by rw [hW0]; exact (Below.refl _ _).alloc (Nat.le_refl _) _
  exact ⟨⟨hb, HC.1.kept hb⟩, by rw [hW0]; exact Blk.new _ _ _, by rw [hW0]; exact size_alloc _ _⟩
 go_enter Tryz.func40, Tryz.ntmps40;go_upto_region 1 with fail;rw [<- hW0];clear hW0;go_wp2_with fail;refine (l01Below_any 3 B W0 c a0 len cap (by decide) H0.1.2).mono ?_;rintro e w1 ⟨n1, hn0, hn1, -, rfl, hc1, hg1⟩;have hn3 : n1 < 3 := hn1 (by decide);obtain ⟨NUM, hNUM⟩ := zE (1 + n1);have hwn : IntKind.i64.wrap (1 + n1) = 1 + n1 := by rw [IntKind.wrap_i64]; omega
 obtain ⟨V1, hV1⟩ : ∃ V, V = w1.alloc (Obj.cells #[zG iss, zI NUM, zI 10, zI 90, zI 0, zZ, zG ⟨#[]⟩] 26) := ⟨_, rfl⟩;obtain ⟨g, hgg⟩ := zE (w1.heap.size);have HB : Hid (bd NUM) := by show bd NUM; unfold bd; omega
 have H1 : Hid (MdS B w V1 c a0 len cap g #[zG iss, zI NUM, zI 10, zI 90, zI 0, zZ, zG ⟨#[]⟩]) := by
  have h0 := H0.out;have hcw := HC.1.lt;have hb : zW w1 V1 := by rw [hV1]; exact (Below.refl _ _).alloc (Nat.le_refl _) _
  have hg' : w1.grownBy V1 (some c) := grownBy_below' hb;have hgr : w.grownBy V1 (some c) := grownBy_trans (grownBy_trans (grownBy_below' h0.1.1) hg1) hg';refine ⟨⟨hgr, hc1.kept hb⟩, ?_, by rw [hV1, <- hgg]; exact Blk.new _ _ _, hcw, ?_⟩
  ·exact (h0.2.1.grown hg1 (fun e => by have := Option.some.inj e; omega)).below hb (by have := hg1.size; omega)
  ·have := hg1.size
   omega
 go_upto_region 2 with fail;rw [<- hV1]
 try rw [hgg]
 clear hV1 hgg hNUM hwn hn0 hn1 hn3 hc1 hg1 H0;go_wp2_with fail;refine (l01Once_any 3 B V1 c a0 len cap (by decide) H1.1.2).mono ?_;rintro e w2 ⟨b1, rfl, hc2, hg2⟩;have H2 : Hid (MdS B w w2 c a0 len cap g #[zG iss, zI NUM, zI 10, zI 90, zI 0, zZ, zG ⟨#[]⟩]) := H1.out.draw hc2 hg2;clear H1 hc2 hg2
 go_upto_if 17 with fail
 go_cut [] from 11 (fun wx => Hid (∃ num bas : Int, MdS B w wx c a0 len cap g #[zG iss, zI num, zI 10, zI 90, zI bas, zZ, zG ⟨#[]⟩] /\ bd num /\ (0 <= bas /\ bas <= 100)))
 case first =>
  cases b1 with
  | false =>
   go_wp2_with fail;go_meet;exact ⟨NUM, 0, H2.out, HB.out, by decide⟩
  | true =>
   have e1 := fun j => H2.2.2.1.cell j
   have ef := fun i => H2.2.2.1.free i
   obtain ⟨V3, hV3⟩ : ∃ V, V = w2.setCell ⟨g, 1, none⟩ (zI 4) := ⟨_, rfl⟩;have H3 : Hid (MdS B w V3 c a0 len cap g #[zG iss, zI 4, zI 10, zI 90, zI 0, zZ, zG ⟨#[]⟩]) := by rw [hV3]; exact H2.set 1 _ rfl
   go_wp2_with fail;rw [<- hV3];clear hV3 e1 ef H2;refine (l01Below_any 2 B V3 c a0 len cap (by decide) H3.1.2).mono ?_;rintro e w4 ⟨n2, hm0, hm1, -, rfl, hc4, hg4⟩;have hm2 : n2 < 2 := hm1 (by decide);have hwm : IntKind.i64.wrap (1 + n2) = 1 + n2 := by rw [IntKind.wrap_i64]; omega
   have H4 : Hid (MdS B w w4 c a0 len cap g #[zG iss, zI 4, zI 10, zI 90, zI 0, zZ, zG ⟨#[]⟩]) := H3.out.draw hc4 hg4;clear H3 hc4 hg4 hm1;have e4 := fun j => H4.2.2.1.cell j
   have ef := fun i => H4.2.2.1.free i
   go_wp2_with fail;go_meet;exact ⟨4, 1 + n2, H4.set 4 _ rfl, by unfold bd; omega, by omega⟩
 case rest =>
 clear H2 HB;obtain ⟨num, bas, hM, hnum, hbas⟩ := hcut.out;rename World => w3
 have H3 : Hid (MdS B w w3 c a0 len cap g #[zG iss, zI num, zI 10, zI 90, zI bas, zZ, zG ⟨#[]⟩]) := hM;have HNB : Hid (bd num /\ 0 <= bas /\ bas <= 100) := ⟨hnum, hbas⟩;clear hcut hM hnum hbas;go_wp2_with fail;refine (l01Once_any 6 B w3 c a0 len cap (by decide) H3.1.2).mono ?_;rintro e w5 ⟨b2, rfl, hc5, hg5⟩;have H5 : Hid (MdS B w w5 c a0 len cap g #[zG iss, zI num, zI 10, zI 90, zI bas, zZ, zG ⟨#[]⟩]) := H3.out.draw hc5 hg5;clear H3 hc5 hg5
 go_upto_if 24 with fail
 go_cut [] from 11 (fun wx => Hid (∃ nxt : Int, MdS B w wx c a0 len cap g #[zG iss, zI num, zI 10, zI nxt, zI bas, zZ, zG ⟨#[]⟩] /\ 0 <= nxt /\ nxt <= 90))
 case first =>
  cases b2 with
  | false =>
   go_wp2_with fail;go_meet;exact ⟨90, H5.out, by decide⟩
  | true =>
   have e3 := fun j => H5.2.2.1.cell j
   have ef := fun i => H5.2.2.1.free i
   go_wp2_with fail;go_meet;exact ⟨40, H5.set 3 _ rfl, by decide⟩
 case rest =>
 clear H5;obtain ⟨nxt, hM, hnxt⟩ := hcut.out;rename World => w6
 have H6 : Hid (MdS B w w6 c a0 len cap g #[zG iss, zI num, zI 10, zI nxt, zI bas, zZ, zG ⟨#[]⟩]) := hM;have HNX : Hid (0 <= nxt /\ nxt <= 90) := hnxt;clear hcut hM hnxt;have hbp : 0 <= bas := HNB.2.1;go_wp2_with fail
 go_loopw [8, 9] (fun av iv wr => ∃ (k : Nat) (at_ : Int), k <= 3 /\ iv = zI k /\ av = zI at_ /\ (0 <= at_ /\ at_ <= 10 * k) /\ Hid (∃ (ps : List (Int × Int)) (pa : Option Addr) (pc : Nat), MdS B w wr c a0 len cap g #[zG iss, zI num, zI 10, zI nxt, zI bas, zS pa k pc, zG ⟨#[]⟩] /\ OwnR wr (g + 1) (zS pa k pc) ps /\ ps.length = k /\ (∀ p ∈ ps, bd p.1 /\ bd p.2) /\ g + 1 <= wr.heap.size)) (fun _ iv _ => 4 - (intOf iv).toNat)
 case atStart => exact ⟨0, 0, by decide, rfl, rfl, by omega, [], none, 0, H6.out, World.ownsRow_nil _ _ _ _, rfl, (fun p hp => by cases hp), H6.2.2.1.lt⟩
 case round =>
  clear H6;obtain ⟨k, at_, hk, rfl, rfl, hat, H0⟩ := hrel;obtain ⟨ps, pa, pc, hM⟩ := H0.out;have H : Hid (MdS B w wr c a0 len cap g #[zG iss, zI num, zI 10, zI nxt, zI bas, zS pa k pc, zG ⟨#[]⟩] /\ OwnR wr (g + 1) (zS pa k pc) ps /\ ps.length = k /\ (∀ p ∈ ps, bd p.1 /\ bd p.2) /\ g + 1 <= wr.heap.size) := hM;clear H0 hM;have HDR : Hid (∀ W W', (MdS B w W c a0 len cap g #[zG iss, zI num, zI 10, zI nxt, zI bas, zS pa k pc, zG ⟨#[]⟩] /\ OwnR W (g + 1) (zS pa k pc) ps /\ ps.length = k /\ (∀ p ∈ ps, bd p.1 /\ bd p.2) /\ g + 1 <= W.heap.size) -> Cur B W' c a0 len cap -> W.grownBy W' (some c) -> (MdS B w W' c a0 len cap g #[zG iss, zI num, zI 10, zI nxt, zI bas, zS pa k pc, zG ⟨#[]⟩] /\ OwnR W' (g + 1) (zS pa k pc) ps /\ ps.length = k /\ (∀ p ∈ ps, bd p.1 /\ bd p.2) /\ g + 1 <= W'.heap.size)) := fun W W' h hc hg => ⟨h.1.draw hc hg, h.2.1.grownC hg (by have := h.1.2.2.2; omega), h.2.2.1, h.2.2.2.1, Nat.le_trans h.2.2.2.2 hg.size⟩
  go_wp2_with fail;refine (l01Below_any 4 B wr c a0 len cap (by decide) H.1.1.2).mono ?_;rintro e v1 ⟨m1, hm0, hm1, -, rfl, hc1, hg1⟩;have hm4 : m1 < 4 := hm1 (by decide);have H1 : Hid (MdS B w v1 c a0 len cap g #[zG iss, zI num, zI 10, zI nxt, zI bas, zS pa k pc, zG ⟨#[]⟩] /\ OwnR v1 (g + 1) (zS pa k pc) ps /\ ps.length = k /\ (∀ p ∈ ps, bd p.1 /\ bd p.2) /\ g + 1 <= v1.heap.size) := HDR.out _ _ H.out hc1 hg1;clear H hc1 hg1 hm1;by_cases hkm : (k : Int) < m1
  ·have hk3 : k < 3 := by omega
   go_wp2_with fail;refine (l01Below_any 3 B v1 c a0 len cap (by decide) H1.1.1.2).mono ?_;rintro e v2 ⟨m2, hq0, hq1, -, rfl, hc2, hg2⟩;have hq3 : m2 < 3 := hq1 (by decide);have H2 : Hid (MdS B w v2 c a0 len cap g #[zG iss, zI num, zI 10, zI nxt, zI bas, zS pa k pc, zG ⟨#[]⟩] /\ OwnR v2 (g + 1) (zS pa k pc) ps /\ ps.length = k /\ (∀ p ∈ ps, bd p.1 /\ bd p.2) /\ g + 1 <= v2.heap.size) := HDR.out _ _ H1.out hc2 hg2;clear H1 hc2 hg2 hq1;obtain ⟨at2, hat2⟩ := zE (at_ + 1 + m2);have hwa : IntKind.i64.wrap (at_ + 1 + m2) = at_ + 1 + m2 := by rw [IntKind.wrap_i64]; omega
   go_wp2_with fail;refine (l01Below_any 3 B v2 c a0 len cap (by decide) H2.1.1.2).mono ?_;rintro e v3 ⟨m3, hr0, hr1, -, rfl, hc3, hg3⟩;have hr3 : m3 < 3 := hr1 (by decide);have H3 : Hid (MdS B w v3 c a0 len cap g #[zG iss, zI num, zI 10, zI nxt, zI bas, zS pa k pc, zG ⟨#[]⟩] /\ OwnR v3 (g + 1) (zS pa k pc) ps /\ ps.length = k /\ (∀ p ∈ ps, bd p.1 /\ bd p.2) /\ g + 1 <= v3.heap.size) := HDR.out _ _ H2.out hc3 hg3;clear H2 hc3 hg3 hr1;have hwr : IntKind.i64.wrap (1 + m3) = 1 + m3 := by rw [IntKind.wrap_i64]; omega
   have HAT : Hid (0 <= at2 /\ at2 <= 10 * ((k + 1 : Nat) : Int)) := by show _ /\ _; omega
   have b4 := fun j => H3.1.2.2.1.cell j
   by_cases hb0 : 0 < bas
   ·go_wp2_with fail
    refine (l01Once_any 2 B v3 c a0 len cap (by decide) H3.1.1.2).mono ?_;rintro e v4 ⟨b4b, rfl, hc4, hg4⟩;have H4 : Hid (MdS B w v4 c a0 len cap g #[zG iss, zI num, zI 10, zI nxt, zI bas, zS pa k pc, zG ⟨#[]⟩] /\ OwnR v4 (g + 1) (zS pa k pc) ps /\ ps.length = k /\ (∀ p ∈ ps, bd p.1 /\ bd p.2) /\ g + 1 <= v4.heap.size) := HDR.out _ _ H3.out hc4 hg4;clear H3 hc4 hg4 b4;have b4 := fun j => H4.1.2.2.1.cell j
    cases b4b with
    | true =>
     have b5 := fun j => H4.1.2.2.1.cell j
     have HRB : Hid (bd (8)) := by show bd _; unfold bd; omega
     have HAB : Hid (bd at2) := by show bd _; have := HAT.out; unfold bd; omega
     obtain ⟨V5, hV5⟩ : ∃ V, V = v4.alloc (Obj.cells #[zI at2, zI (8)] 73) := ⟨_, rfl⟩;have H5 : Hid ((MdS B w V5 c a0 len cap g #[zG iss, zI num, zI 10, zI nxt, zI bas, zS pa k pc, zG ⟨#[]⟩] /\ OwnR V5 (g + 1) (zS pa k pc) ps /\ g + 1 <= V5.heap.size) /\ OwnR V5 v4.heap.size (zS (some ⟨v4.heap.size, 0, none⟩) 1 1) [(at2, 8)]) := by
      have hb : zW v4 V5 := by rw [hV5]; exact (Below.refl _ _).alloc (Nat.le_refl _) _
      exact ⟨⟨H4.1.out (grownBy_below' hb (row := none)) (fun k hk => by cases hk), H4.2.1.stays hb, Nat.le_trans H4.2.2.2.2 hb.size⟩, by rw [hV5]; exact rone_rev v4 (at2, 8)⟩
     go_wp2_with (at_builtin; rw [<- hV5]; refine wpList_append_revs rfl _ _ rfl (g + 1) (zS pa k pc) k (cellsR ps) rfl (by have h := H5.1.2.1; unfold OwnR at h; rw [H4.2.2.1] at h; exact h) _ [(at2, 8)] _ H5.2 rfl (by show k + 1 <= _; omega) H5.1.2.2 ?_);intro v9 w9 ho9 hg9
     try rw [<- hV5] at hg9
     have ho9' : OwnR w9 (g + 1) v9 (ps ++ [(at2, 8)]) := by
      unfold OwnR;rw [List.length_append, H4.2.2.1, cellsR_append];exact ho9
     obtain ⟨qa, qc, hq9, -, -, -⟩ := OwnR.shape ho9';rw [List.length_append, H4.2.2.1] at hq9;change v9 = zS qa (k + 1) qc at hq9;subst hq9;have H9 : Hid (MdS B w w9 c a0 len cap g #[zG iss, zI num, zI 10, zI nxt, zI bas, zS pa k pc, zG ⟨#[]⟩] /\ OwnR w9 (g + 1) (zS qa (k + 1) qc) (ps ++ [(at2, 8)]) /\ (∀ p ∈ ps ++ [(at2, 8)], bd p.1 /\ bd p.2) /\ g + 1 <= w9.heap.size) := by
      refine ⟨H5.1.1.out hg9 (fun b hb => by have := (World.ownsRow.lt H5.1.2.1 b hb).1; omega), ho9', fun p hp => ?_, Nat.le_trans H5.1.2.2 hg9.size⟩
      rcases List.mem_append.1 hp with hp | hp
      ·exact H4.2.2.2.1 p hp
      ·rw [List.mem_singleton.1 hp]
       exact ⟨HAB.out, HRB.out⟩
     clear ho9 ho9' hg9 hV5 b5 b4 H5;have b5 := fun j => H9.1.2.2.1.cell j
     have ef := fun i => H9.1.2.2.1.free i
     have HD : Hid (∃ (ps : List (Int × Int)) (pa : Option Addr) (pc : Nat), MdS B w (w9.setCell ⟨g, 5, none⟩ (zS qa (k + 1) qc)) c a0 len cap g #[zG iss, zI num, zI 10, zI nxt, zI bas, zS pa (k + 1) pc, zG ⟨#[]⟩] /\ OwnR (w9.setCell ⟨g, 5, none⟩ (zS qa (k + 1) qc)) (g + 1) (zS pa (k + 1) pc) ps /\ ps.length = k + 1 /\ (∀ p ∈ ps, bd p.1 /\ bd p.2) /\ g + 1 <= (w9.setCell ⟨g, 5, none⟩ (zS qa (k + 1) qc)).heap.size) := ⟨_, qa, qc, H9.1.set 5 _ rfl, H9.2.1.grownC (grownBy_setCell w9 g 5 _) (by omega), by rw [List.length_append, H4.2.2.1]; rfl, H9.2.2.1, Nat.le_trans H9.2.2.2 (grownBy_setCell w9 g 5 _).size⟩;clear H9 H4;go_wp2_with fail
     go_roundw
     case rel => exact ⟨k + 1, at2, by omega, by go_num, rfl, HAT.out, HD.out⟩
     case measure => simp [intOf]; omega
    | false =>
     have b5 := fun j => H4.1.2.2.1.cell j
     have HRB : Hid (bd (1 + m3)) := by show bd _; unfold bd; omega
     have HAB : Hid (bd at2) := by show bd _; have := HAT.out; unfold bd; omega
     obtain ⟨V5, hV5⟩ : ∃ V, V = v4.alloc (Obj.cells #[zI at2, zI (1 + m3)] 73) := ⟨_, rfl⟩;have H5 : Hid ((MdS B w V5 c a0 len cap g #[zG iss, zI num, zI 10, zI nxt, zI bas, zS pa k pc, zG ⟨#[]⟩] /\ OwnR V5 (g + 1) (zS pa k pc) ps /\ g + 1 <= V5.heap.size) /\ OwnR V5 v4.heap.size (zS (some ⟨v4.heap.size, 0, none⟩) 1 1) [(at2, 1 + m3)]) := by
      have hb : zW v4 V5 := by rw [hV5]; exact (Below.refl _ _).alloc (Nat.le_refl _) _
      exact ⟨⟨H4.1.out (grownBy_below' hb (row := none)) (fun k hk => by cases hk), H4.2.1.stays hb, Nat.le_trans H4.2.2.2.2 hb.size⟩, by rw [hV5]; exact rone_rev v4 (at2, 1 + m3)⟩
     go_wp2_with (at_builtin; rw [<- hV5]; refine wpList_append_revs rfl _ _ rfl (g + 1) (zS pa k pc) k (cellsR ps) rfl (by have h := H5.1.2.1; unfold OwnR at h; rw [H4.2.2.1] at h; exact h) _ [(at2, 1 + m3)] _ H5.2 rfl (by show k + 1 <= _; omega) H5.1.2.2 ?_);intro v9 w9 ho9 hg9
     try rw [<- hV5] at hg9
     have ho9' : OwnR w9 (g + 1) v9 (ps ++ [(at2, 1 + m3)]) := by
      unfold OwnR;rw [List.length_append, H4.2.2.1, cellsR_append];exact ho9
     obtain ⟨qa, qc, hq9, -, -, -⟩ := OwnR.shape ho9';rw [List.length_append, H4.2.2.1] at hq9;change v9 = zS qa (k + 1) qc at hq9;subst hq9;have H9 : Hid (MdS B w w9 c a0 len cap g #[zG iss, zI num, zI 10, zI nxt, zI bas, zS pa k pc, zG ⟨#[]⟩] /\ OwnR w9 (g + 1) (zS qa (k + 1) qc) (ps ++ [(at2, 1 + m3)]) /\ (∀ p ∈ ps ++ [(at2, 1 + m3)], bd p.1 /\ bd p.2) /\ g + 1 <= w9.heap.size) := by
      refine ⟨H5.1.1.out hg9 (fun b hb => by have := (World.ownsRow.lt H5.1.2.1 b hb).1; omega), ho9', fun p hp => ?_, Nat.le_trans H5.1.2.2 hg9.size⟩
      rcases List.mem_append.1 hp with hp | hp
      ·exact H4.2.2.2.1 p hp
      ·rw [List.mem_singleton.1 hp]
       exact ⟨HAB.out, HRB.out⟩
     clear ho9 ho9' hg9 hV5 b5 b4 H5;have b5 := fun j => H9.1.2.2.1.cell j
     have ef := fun i => H9.1.2.2.1.free i
     have HD : Hid (∃ (ps : List (Int × Int)) (pa : Option Addr) (pc : Nat), MdS B w (w9.setCell ⟨g, 5, none⟩ (zS qa (k + 1) qc)) c a0 len cap g #[zG iss, zI num, zI 10, zI nxt, zI bas, zS pa (k + 1) pc, zG ⟨#[]⟩] /\ OwnR (w9.setCell ⟨g, 5, none⟩ (zS qa (k + 1) qc)) (g + 1) (zS pa (k + 1) pc) ps /\ ps.length = k + 1 /\ (∀ p ∈ ps, bd p.1 /\ bd p.2) /\ g + 1 <= (w9.setCell ⟨g, 5, none⟩ (zS qa (k + 1) qc)).heap.size) := ⟨_, qa, qc, H9.1.set 5 _ rfl, H9.2.1.grownC (grownBy_setCell w9 g 5 _) (by omega), by rw [List.length_append, H4.2.2.1]; rfl, H9.2.2.1, Nat.le_trans H9.2.2.2 (grownBy_setCell w9 g 5 _).size⟩;clear H9 H4;go_wp2_with fail
     go_roundw
     case rel => exact ⟨k + 1, at2, by omega, by go_num, rfl, HAT.out, HD.out⟩
     case measure => simp [intOf]; omega
   ·skip
    have b5 := fun j => H3.1.2.2.1.cell j
    have HRB : Hid (bd (1 + m3)) := by show bd _; unfold bd; omega
    have HAB : Hid (bd at2) := by show bd _; have := HAT.out; unfold bd; omega
    obtain ⟨V5, hV5⟩ : ∃ V, V = v3.alloc (Obj.cells #[zI at2, zI (1 + m3)] 73) := ⟨_, rfl⟩;have H5 : Hid ((MdS B w V5 c a0 len cap g #[zG iss, zI num, zI 10, zI nxt, zI bas, zS pa k pc, zG ⟨#[]⟩] /\ OwnR V5 (g + 1) (zS pa k pc) ps /\ g + 1 <= V5.heap.size) /\ OwnR V5 v3.heap.size (zS (some ⟨v3.heap.size, 0, none⟩) 1 1) [(at2, 1 + m3)]) := by
     have hb : zW v3 V5 := by rw [hV5]; exact (Below.refl _ _).alloc (Nat.le_refl _) _
     exact ⟨⟨H3.1.out (grownBy_below' hb (row := none)) (fun k hk => by cases hk), H3.2.1.stays hb, Nat.le_trans H3.2.2.2.2 hb.size⟩, by rw [hV5]; exact rone_rev v3 (at2, 1 + m3)⟩
    go_wp2_with (at_builtin; rw [<- hV5]; refine wpList_append_revs rfl _ _ rfl (g + 1) (zS pa k pc) k (cellsR ps) rfl (by have h := H5.1.2.1; unfold OwnR at h; rw [H3.2.2.1] at h; exact h) _ [(at2, 1 + m3)] _ H5.2 rfl (by show k + 1 <= _; omega) H5.1.2.2 ?_);intro v9 w9 ho9 hg9
    try rw [<- hV5] at hg9
    have ho9' : OwnR w9 (g + 1) v9 (ps ++ [(at2, 1 + m3)]) := by
     unfold OwnR;rw [List.length_append, H3.2.2.1, cellsR_append];exact ho9
    obtain ⟨qa, qc, hq9, -, -, -⟩ := OwnR.shape ho9';rw [List.length_append, H3.2.2.1] at hq9;change v9 = zS qa (k + 1) qc at hq9;subst hq9;have H9 : Hid (MdS B w w9 c a0 len cap g #[zG iss, zI num, zI 10, zI nxt, zI bas, zS pa k pc, zG ⟨#[]⟩] /\ OwnR w9 (g + 1) (zS qa (k + 1) qc) (ps ++ [(at2, 1 + m3)]) /\ (∀ p ∈ ps ++ [(at2, 1 + m3)], bd p.1 /\ bd p.2) /\ g + 1 <= w9.heap.size) := by
     refine ⟨H5.1.1.out hg9 (fun b hb => by have := (World.ownsRow.lt H5.1.2.1 b hb).1; omega), ho9', fun p hp => ?_, Nat.le_trans H5.1.2.2 hg9.size⟩
     rcases List.mem_append.1 hp with hp | hp
     ·exact H3.2.2.2.1 p hp
     ·rw [List.mem_singleton.1 hp]
      exact ⟨HAB.out, HRB.out⟩
    clear ho9 ho9' hg9 hV5 b5 b4 H5;have b5 := fun j => H9.1.2.2.1.cell j
    have ef := fun i => H9.1.2.2.1.free i
    have HD : Hid (∃ (ps : List (Int × Int)) (pa : Option Addr) (pc : Nat), MdS B w (w9.setCell ⟨g, 5, none⟩ (zS qa (k + 1) qc)) c a0 len cap g #[zG iss, zI num, zI 10, zI nxt, zI bas, zS pa (k + 1) pc, zG ⟨#[]⟩] /\ OwnR (w9.setCell ⟨g, 5, none⟩ (zS qa (k + 1) qc)) (g + 1) (zS pa (k + 1) pc) ps /\ ps.length = k + 1 /\ (∀ p ∈ ps, bd p.1 /\ bd p.2) /\ g + 1 <= (w9.setCell ⟨g, 5, none⟩ (zS qa (k + 1) qc)).heap.size) := ⟨_, qa, qc, H9.1.set 5 _ rfl, H9.2.1.grownC (grownBy_setCell w9 g 5 _) (by omega), by rw [List.length_append, H3.2.2.1]; rfl, H9.2.2.1, Nat.le_trans H9.2.2.2 (grownBy_setCell w9 g 5 _).size⟩;clear H9 H3;go_wp2_with fail
    go_roundw
    case rel => exact ⟨k + 1, at2, by omega, by go_num, rfl, HAT.out, HD.out⟩
    case measure => simp [intOf]; omega
  ·have HX : Hid (OwnL v1 (g + 1) (.agg #[zG iss, zI num, zI 10, zI nxt, zI bas, zS pa k pc, zG ⟨#[]⟩]) ⟨iss, num, 10, nxt, bas, ps, ⟨#[]⟩⟩) := ⟨_, rfl, H1.2.1⟩
   obtain ⟨x, hx⟩ : ∃ x : Cl, x = ⟨iss, num, 10, nxt, bas, ps, ⟨#[]⟩⟩ := ⟨_, rfl⟩;have HMX : Hid (MdL x) := by
    rw [hx];refine ⟨⟨HC.2.1, by show ps.length <= 6; have := H1.2.2.1; omega, Nat.zero_le _⟩, ⟨HNB.1, by show bd 10; unfold bd; decide, HNX.out, by show bd bas; have := HNB.out; unfold bd; omega⟩, H1.2.2.2.1⟩
   have HRX : Hid (x.revs.length <= 5) := by show _ <= _; rw [hx]; show ps.length <= 5; have := H1.2.2.1; omega
   rw [<- hx] at HX;have ES := specSignedCrl_any x (.agg #[zG iss, zI num, zI 10, zI nxt, zI bas, zS pa k pc, zG ⟨#[]⟩]) by_ (g + 1) v1 (Nat.le_trans HMX.out.wt (by decide)) HMX.out.wd (by have := HC.2.2; omega) HX.out;have c0 := fun j => H1.1.2.2.1.cell j
   go_wp2_with fail;refine ES.mono ?_;rintro e w8 ⟨u8, rfl, hu8, hb8⟩;obtain ⟨y, hy⟩ := zE (sgL x by_);have HY : Hid (MdL y /\ y.sig.size = 15 /\ y.revs.length <= 5) := by
    have hs : y.sig.size = 15 := by rw [<- hy]; exact sigB_size _ HC.2.2
    obtain ⟨⟨h1, h2, h3⟩, h4, h5⟩ := HMX.out;refine ⟨⟨⟨?_, ?_, by omega⟩, ?_, ?_⟩, hs, by rw [<- hy]; exact HRX.out⟩
    ·rw [<- hy]; exact h1
    ·rw [<- hy]; exact h2
    ·rw [<- hy]; exact h4
    ·rw [<- hy]; exact h5
   rw [hy] at hu8;obtain ⟨pY, qY, huY⟩ := hu8.at.shape;subst huY;have H8 : Hid ((w.grownBy w8 (some c) /\ Cur B w8 c a0 len cap) /\ Blk w8 w.heap.size 26 #[zG ⟨#[]⟩, zI 0, zI 0, zI 0, zI 0, zZ, zG ⟨#[]⟩] /\ OwnL w8 v1.heap.size (clV y (zS pY y.revs.length qY)) y /\ (c < w.heap.size /\ w.heap.size < v1.heap.size)) := ⟨⟨grownBy_trans H1.1.1.1 (grownBy_below' hb8), H1.1.1.2.kept hb8⟩, H1.1.2.1.below hb8 H1.1.2.1.lt, hu8, H1.1.2.2.2.1, H1.1.2.1.lt⟩;clear hb8 hu8 H1 ES HX hx hy c0;have r0 := fun j => H8.2.1.cell j
   have rf := fun i => H8.2.1.free i
   unfold clV;go_wp2_with fail;refine bodyPost_ret (v := clV y (zS pY y.revs.length qY)) (by simp [results, Tryz.results40, go_sem, clV, r0]; try rfl) rfl ?_;generalize hV : World.setCell _ { block := w.heap.size, off := 6 } (Value.string y.sig) = V;have hgV : w8.grownBy V (some w.heap.size) := by
    rw [<- hV]
    iterate 6 refine grownBy_trans ?_ (grownBy_setCell _ _ _ _)
    exact grownBy_setCell _ _ _ _
   refine ⟨_, y, rfl, ?_, HY.1, HY.2, ?_, ?_⟩
   ·obtain ⟨p, hp, hrow⟩ := H8.2.2.1
    refine ⟨p, hp, OwnR.base (World.ownsRow.kept hrow hgV (.inr fun e => ?_)) (by have := H8.2.2.2; omega)⟩;have := (World.ownsRow.lt hrow _ e).1;have := H8.2.2.2;omega
   ·exact H8.1.2.grown hgV (fun k hk => by have := Option.some.inj hk; have := H8.2.2.2; omega)
   ·exact grow_step H8.1.1 hgV (fun k hk => by have := Option.some.inj hk; omega)
def AnyPost (B : Nat) (w : World) (c : Nat) (a0 : Option Addr) (len cap : Nat) (e : Ending) (w' : World) : Prop := ∃ u x, e = .returned u /\ OwnL w' w.heap.size u x /\ MdL x /\ Cur B w' c a0 len cap /\ w.grownBy w' (some c)
theorem tmod_in {y : Int} (h0 : 0 <= y) (n : Int) (hn : 0 < n) (h2 : n <= 100) : 0 <= y.tmod n /\ y.tmod n < n := by
 rw [Int.tmod_eq_emod_of_nonneg h0];exact ⟨Int.emod_nonneg _ (by omega), Int.emod_lt_of_pos _ hn⟩
theorem MdS.grownX {B : Nat} {w W W' : World} {c : Nat} {a0 : Option Addr} {len cap g : Nat} {cells : Array Value} {r : Option Nat} (h : MdS B w W c a0 len cap g cells) (hg : W.grownBy W' r) (hr : ∀ k, r = some k -> w.heap.size < k /\ k ≠ g) : MdS B w W' c a0 len cap g cells :=
 ⟨⟨grow_step h.1.1 hg (fun k hk => by have := hr k hk; omega), h.1.2.grown hg (fun k hk => by have := hr k hk; have := h.2.2.2; omega)⟩, h.2.1.grown hg (fun e => by have := hr _ e.symm; omega), h.2.2.1.grown hg (fun e => by have := hr _ e.symm; omega), h.2.2.2⟩
theorem l10Any_any (B : Nat) (w : World) (c : Nat) (a0 : Option Addr) (len cap : Nat) (hC : Cur B w c a0 len cap) :
  Calls Tryz.prog 24 #[.pointer (some ⟨c, 0, none⟩)] w fun e w' => AnyPost B w c a0 len cap e w' := by
 have HC : Hid (Cur B w c a0 len cap) := hC;clear hC;obtain ⟨W0, hW0⟩ : ∃ V, V = w.alloc (Obj.cells #[zG ⟨#[]⟩, zI 0, zI 0, zI 0, zI 0, zZ, zG ⟨#[]⟩] 26) := ⟨_, rfl⟩;have H0 : Hid ((w.grownBy W0 (some c) /\ Cur B W0 c a0 len cap) /\ Blk W0 w.heap.size 26 #[zG ⟨#[]⟩, zI 0, zI 0, zI 0, zI 0, zZ, zG ⟨#[]⟩] /\ c < w.heap.size) := by
  have hb : zW w W0 := by rw [hW0]; exact (Below.refl _ _).alloc (Nat.le_refl _) _
  exact ⟨⟨grownBy_below' hb, HC.out.kept hb⟩, by rw [hW0]; exact Blk.new _ _ _, HC.lt⟩
 have HDR : Hid (∀ W W', ((w.grownBy W (some c) /\ Cur B W c a0 len cap) /\ Blk W w.heap.size 26 #[zG ⟨#[]⟩, zI 0, zI 0, zI 0, zI 0, zZ, zG ⟨#[]⟩] /\ c < w.heap.size) -> Cur B W' c a0 len cap -> W.grownBy W' (some c) -> ((w.grownBy W' (some c) /\ Cur B W' c a0 len cap) /\ Blk W' w.heap.size 26 #[zG ⟨#[]⟩, zI 0, zI 0, zI 0, zI 0, zZ, zG ⟨#[]⟩] /\ c < w.heap.size)) := fun W W' h hc hg => ⟨⟨grownBy_trans h.1.1 hg, hc⟩, h.2.1.grown hg (fun e => by have := Option.some.inj e; have := h.2.2; omega), h.2.2⟩
 go_enter Tryz.func24, Tryz.ntmps24;go_upto_region 1 with fail;rw [<- hW0];clear hW0;go_wp2_with fail;refine (l01Below_any 12 B W0 c a0 len cap (by decide) H0.1.2).mono ?_;rintro e w1 ⟨K, hK0, hK1, -, rfl, hc, hg⟩;have hK2 : K < 12 := hK1 (by decide);have HH1 : Hid ((w.grownBy w1 (some c) /\ Cur B w1 c a0 len cap) /\ Blk w1 w.heap.size 26 #[zG ⟨#[]⟩, zI 0, zI 0, zI 0, zI 0, zZ, zG ⟨#[]⟩] /\ c < w.heap.size) := HDR.out _ _ H0.out hc hg;clear hc hg hK1 H0;go_wp2_with fail;refine (l01Below_any 60 B w1 c a0 len cap (by decide) HH1.1.2).mono ?_;rintro e w2 ⟨Y, hY0, hY1, -, rfl, hc, hg⟩;have hY2 : Y < 60 := hY1 (by decide);have HH2 : Hid ((w.grownBy w2 (some c) /\ Cur B w2 c a0 len cap) /\ Blk w2 w.heap.size 26 #[zG ⟨#[]⟩, zI 0, zI 0, zI 0, zI 0, zZ, zG ⟨#[]⟩] /\ c < w.heap.size) := HDR.out _ _ HH1.out hc hg;clear hc hg hY1 HH1;go_wp2_with fail;refine (l01Below_any 6 B w2 c a0 len cap (by decide) HH2.1.2).mono ?_;rintro e w3 ⟨BY, hBY0, hBY1, -, rfl, hc, hg⟩;have hBY2 : BY < 6 := hBY1 (by decide);have HH3 : Hid ((w.grownBy w3 (some c) /\ Cur B w3 c a0 len cap) /\ Blk w3 w.heap.size 26 #[zG ⟨#[]⟩, zI 0, zI 0, zI 0, zI 0, zZ, zG ⟨#[]⟩] /\ c < w.heap.size) := HDR.out _ _ HH2.out hc hg;clear hc hg hBY1 HH2;go_wp2_with fail;refine (l08Name_any B w3 c a0 len cap HH3.1.2).mono ?_;rintro e w4 ⟨iss, hiss, rfl, hc, hg⟩;have HH4 : Hid ((w.grownBy w4 (some c) /\ Cur B w4 c a0 len cap) /\ Blk w4 w.heap.size 26 #[zG ⟨#[]⟩, zI 0, zI 0, zI 0, zI 0, zZ, zG ⟨#[]⟩] /\ c < w.heap.size) := HDR.out _ _ HH3.out hc hg
 clear hc hg HH3;obtain ⟨byn, hbyn⟩ : ∃ n : Nat, BY = (n : Int) := ⟨BY.toNat, by omega⟩;subst hbyn;go_wp2_with fail;refine (l10Made_any iss hiss byn (by omega) B w4 c a0 len cap HH4.1.2).mono ?_;rintro e w5 ⟨u5, x, rfl, hu5, hmd, ⟨hsg, hrl5⟩, hc, hg⟩;have HH5 : Hid (((w.grownBy w5 (some c) /\ Cur B w5 c a0 len cap) /\ Blk w5 w.heap.size 26 #[zG ⟨#[]⟩, zI 0, zI 0, zI 0, zI 0, zZ, zG ⟨#[]⟩] /\ c < w.heap.size) /\ OwnL w5 w4.heap.size u5 x) := ⟨HDR.out _ _ HH4.out hc hg, hu5⟩;have HMD : Hid (MdL x /\ x.sig.size = 15) := ⟨hmd, hsg⟩;have HMR : Hid (x.revs.length <= 5) := hrl5;clear hc hg hmd hsg HH4 hu5 hrl5;have EC := crlCopy_any x u5 w4.heap.size w5 (by have := HMD.1.1; omega) HH5.2;go_wp2_with fail;refine EC.mono ?_;rintro e w6 ⟨u6, rfl, hu6, hb6⟩;obtain ⟨pX, qX, huX⟩ := hu6.at.shape;obtain ⟨mX, hmX⟩ := zE (x.revs.length);rw [hmX] at huX;subst huX;have HMX : Hid (x.revs.length = mX) := hmX;clear hmX;have H6 := zH (zJ (⟨⟨grownBy_trans HH5.1.1.1 (grownBy_below' hb6), HH5.1.1.2.kept hb6⟩, HH5.1.2.1.below hb6 HH5.1.2.1.lt, HH5.1.2.2⟩ : ((w.grownBy w6 (some c) /\ Cur B w6 c a0 len cap) /\ Blk w6 w.heap.size 26 #[zG ⟨#[]⟩, zI 0, zI 0, zI 0, zI 0, zZ, zG ⟨#[]⟩] /\ c < w.heap.size)) (zJ (hu6 : OwnL w6 w5.heap.size (clV x (zS pX mX qX)) x) HH5.1.2.1.lt));have HW56 : Hid (w5.heap.size <= w6.heap.size) := hb6.size;clear hb6 hu6 EC HH5;unfold clV;obtain ⟨V, hV⟩ : ∃ V, V = w6.alloc (Obj.cells (zCl x (zS pX mX qX)) 26) := ⟨_, rfl⟩;obtain ⟨g, hgg⟩ := zE (w6.heap.size);have HV : Hid (MdS B w V c a0 len cap g (zCl x (zS pX mX qX)) /\ OwnR V w5.heap.size (zS pX mX qX) x.revs /\ (w.heap.size < w5.heap.size /\ (∀ b, (Value.slice pX mX qX).ownBlock = some b -> b ≠ g)) /\ g < V.heap.size) := by
  have hb : zW w6 V := by rw [hV]; exact (Below.refl _ _).alloc (Nat.le_refl _) _
  obtain ⟨p, hp, hrow⟩ := H6.2.1;have hpp : p = zS pX mX qX := by
   unfold clV at hp;injection hp with hp
   have := congrArg (fun a : Array Value => a[5]?) hp;simpa using this.symm
  subst hpp;have hw5 := hrow;refine ⟨⟨⟨grownBy_trans H6.1.1.1 (grownBy_below' hb), H6.1.1.2.kept hb⟩, H6.1.2.1.below hb H6.1.2.1.lt, by rw [hV, <- hgg]; exact Blk.new _ _ _, H6.1.2.2, by rw [<- hgg]; exact H6.1.2.1.lt⟩, hrow.stays hb, ⟨H6.2.2, fun b hbb e => ?_⟩, by rw [hV, <- hgg, size_alloc]; omega⟩;have := (World.ownsRow.lt hrow b hbb).2;omega
 have HW5 : Hid (w5.heap.size <= V.heap.size) := by show _ <= _; rw [hV, size_alloc]; have := HW56.out; omega
 go_upto_region 5 with fail;rw [<- hV]
 try rw [hgg]
 clear hV hgg H6 HW56;have HX := zH (zJ (⟨HV.1, HV.2.1⟩ : (MdS B w V c a0 len cap g (zCl x (zS pX mX qX)) /\ OwnR V w5.heap.size (zS pX mX qX) x.revs)) HV.2.2.1);have HVS : Hid (g < V.heap.size) := HV.2.2.2;have HWX : Hid (w.heap.size < w5.heap.size) := HV.2.2.1.1;have HR5 : Hid (x.revs.length <= 5) := HMR.out;clear HV HDR;by_cases hKn0 : K = 0
 ·skip
  have hk0 : (K == 0) = true := by rw [hKn0]; rfl
  have hY3 : Y.tmod 3 = 0 ∨ Y.tmod 3 = 1 ∨ Y.tmod 3 = 2 := by have := tmod_in hY0 3 (by decide) (by decide); omega
  have hmk : MdL x := HMD.1;obtain ⟨VL, hVL⟩ : ∃ W, W = V.alloc (Obj.cells #[zI 0, zI 9999, zI 10000] 3) := ⟨_, rfl⟩;have HVL : Hid ((MdS B w VL c a0 len cap g (zCl x (zS pX mX qX)) /\ OwnR VL w5.heap.size (zS pX mX qX) x.revs) /\ (w.heap.size < w5.heap.size /\ (∀ b, ((zS pX mX qX : Value)).ownBlock = some b -> b ≠ g))) := by
   have hb : zW V VL := by rw [hVL]; exact (Below.refl _ _).alloc (Nat.le_refl _) _
   exact ⟨⟨HX.1.1.out (grownBy_below' hb (row := none)) (fun k hk => by cases hk), HX.1.2.stays hb⟩, HX.2⟩
  rcases hY3 with hY3 | hY3
  ·skip
   have e1 := fun o j => (HX.1.1.2.2.1.alloc o).cell j
   have ef := fun o i => (show (V.alloc o).frozen? ⟨g, i, none⟩ = false from (HX.1.1.2.2.1.alloc o).free i)
   go_upto_region 16 with fail;rw [<- hVL];obtain ⟨V7, hV7⟩ : ∃ W, W = VL.setCell ⟨g, 1, none⟩ (zI 0) := ⟨_, rfl⟩
   try rw [<- hV7]
   have HF : Hid ((MdS B w V7 c a0 len cap g #[zG x.issuer, zI 0, zI x.ths, zI x.nxt, zI x.bas, zS pX mX qX, zG x.sig] /\ OwnR V7 w5.heap.size (zS pX mX qX) x.revs) /\ (w.heap.size < w5.heap.size /\ (∀ b, ((zS pX mX qX : Value)).ownBlock = some b -> b ≠ g))) := by
    rw [hV7];exact ⟨⟨HVL.1.1.set 1 _ rfl, row_same HVL.1.2 (fun b hb => heap_setCell_other _ _ _ _ (HVL.2.2 b hb))⟩, HVL.2⟩
   clear hV7 hVL HVL HX e1 ef hY3;have HMF : Hid (MdL { x with num := 0 }) := ⟨hmk.1, ⟨by show bd 0; unfold bd; decide, hmk.2.1.2⟩, hmk.2.2⟩;clear hmk;have c0 := fun j => HF.1.1.2.2.1.cell j
   have r0 := fun j => HF.1.1.2.1.cell j
   have rf := fun i => HF.1.1.2.1.free i
   have hgw : g ≠ w.heap.size := by have := HF.1.1.2.2.2; omega
   go_wp2_with fail;refine bodyPost_ret (v := .agg #[zG x.issuer, zI 0, zI x.ths, zI x.nxt, zI x.bas, zS pX mX qX, zG x.sig]) (by simp [results, Tryz.results24, go_sem, r0]; try rfl) rfl ?_;generalize hV9 : World.setCell _ { block := w.heap.size, off := 6 } _ = V9;have hgV : V7.grownBy V9 (some w.heap.size) := by
    rw [<- hV9]
    iterate 6 refine grownBy_trans ?_ (grownBy_setCell _ _ _ _)
    exact grownBy_setCell _ _ _ _
   have hcw := HF.1.1.2.2.2;refine ⟨_, { x with num := 0 }, rfl, ⟨zS pX mX qX, rfl, OwnR.base (World.ownsRow.kept HF.1.2 hgV (.inr fun e => ?_)) (by have := HF.2.1; omega)⟩, HMF.out, HF.1.1.1.2.grown hgV (fun k hk => by have := Option.some.inj hk; omega), grow_step HF.1.1.1.1 hgV (fun k hk => by have := Option.some.inj hk; omega)⟩;have := (World.ownsRow.lt HF.1.2 _ e).1;have := HF.2.1;omega
  rcases hY3 with hY3 | hY3
  ·skip
   have e1 := fun o j => (HX.1.1.2.2.1.alloc o).cell j
   have ef := fun o i => (show (V.alloc o).frozen? ⟨g, i, none⟩ = false from (HX.1.1.2.2.1.alloc o).free i)
   go_upto_region 16 with fail;rw [<- hVL];obtain ⟨V7, hV7⟩ : ∃ W, W = VL.setCell ⟨g, 1, none⟩ (zI 9999) := ⟨_, rfl⟩
   try rw [<- hV7]
   have HF : Hid ((MdS B w V7 c a0 len cap g #[zG x.issuer, zI 9999, zI x.ths, zI x.nxt, zI x.bas, zS pX mX qX, zG x.sig] /\ OwnR V7 w5.heap.size (zS pX mX qX) x.revs) /\ (w.heap.size < w5.heap.size /\ (∀ b, ((zS pX mX qX : Value)).ownBlock = some b -> b ≠ g))) := by
    rw [hV7];exact ⟨⟨HVL.1.1.set 1 _ rfl, row_same HVL.1.2 (fun b hb => heap_setCell_other _ _ _ _ (HVL.2.2 b hb))⟩, HVL.2⟩
   clear hV7 hVL HVL HX e1 ef hY3;have HMF : Hid (MdL { x with num := 9999 }) := ⟨hmk.1, ⟨by show bd 9999; unfold bd; decide, hmk.2.1.2⟩, hmk.2.2⟩;clear hmk;have c0 := fun j => HF.1.1.2.2.1.cell j
   have r0 := fun j => HF.1.1.2.1.cell j
   have rf := fun i => HF.1.1.2.1.free i
   have hgw : g ≠ w.heap.size := by have := HF.1.1.2.2.2; omega
   go_wp2_with fail;refine bodyPost_ret (v := .agg #[zG x.issuer, zI 9999, zI x.ths, zI x.nxt, zI x.bas, zS pX mX qX, zG x.sig]) (by simp [results, Tryz.results24, go_sem, r0]; try rfl) rfl ?_;generalize hV9 : World.setCell _ { block := w.heap.size, off := 6 } _ = V9;have hgV : V7.grownBy V9 (some w.heap.size) := by
    rw [<- hV9]
    iterate 6 refine grownBy_trans ?_ (grownBy_setCell _ _ _ _)
    exact grownBy_setCell _ _ _ _
   have hcw := HF.1.1.2.2.2;refine ⟨_, { x with num := 9999 }, rfl, ⟨zS pX mX qX, rfl, OwnR.base (World.ownsRow.kept HF.1.2 hgV (.inr fun e => ?_)) (by have := HF.2.1; omega)⟩, HMF.out, HF.1.1.1.2.grown hgV (fun k hk => by have := Option.some.inj hk; omega), grow_step HF.1.1.1.1 hgV (fun k hk => by have := Option.some.inj hk; omega)⟩;have := (World.ownsRow.lt HF.1.2 _ e).1;have := HF.2.1;omega
  skip
  ·skip
   have e1 := fun o j => (HX.1.1.2.2.1.alloc o).cell j
   have ef := fun o i => (show (V.alloc o).frozen? ⟨g, i, none⟩ = false from (HX.1.1.2.2.1.alloc o).free i)
   go_upto_region 16 with fail;rw [<- hVL];obtain ⟨V7, hV7⟩ : ∃ W, W = VL.setCell ⟨g, 1, none⟩ (zI 10000) := ⟨_, rfl⟩
   try rw [<- hV7]
   have HF : Hid ((MdS B w V7 c a0 len cap g #[zG x.issuer, zI 10000, zI x.ths, zI x.nxt, zI x.bas, zS pX mX qX, zG x.sig] /\ OwnR V7 w5.heap.size (zS pX mX qX) x.revs) /\ (w.heap.size < w5.heap.size /\ (∀ b, ((zS pX mX qX : Value)).ownBlock = some b -> b ≠ g))) := by
    rw [hV7];exact ⟨⟨HVL.1.1.set 1 _ rfl, row_same HVL.1.2 (fun b hb => heap_setCell_other _ _ _ _ (HVL.2.2 b hb))⟩, HVL.2⟩
   clear hV7 hVL HVL HX e1 ef hY3;have HMF : Hid (MdL { x with num := 10000 }) := ⟨hmk.1, ⟨by show bd 10000; unfold bd; decide, hmk.2.1.2⟩, hmk.2.2⟩;clear hmk;have c0 := fun j => HF.1.1.2.2.1.cell j
   have r0 := fun j => HF.1.1.2.1.cell j
   have rf := fun i => HF.1.1.2.1.free i
   have hgw : g ≠ w.heap.size := by have := HF.1.1.2.2.2; omega
   go_wp2_with fail;refine bodyPost_ret (v := .agg #[zG x.issuer, zI 10000, zI x.ths, zI x.nxt, zI x.bas, zS pX mX qX, zG x.sig]) (by simp [results, Tryz.results24, go_sem, r0]; try rfl) rfl ?_;generalize hV9 : World.setCell _ { block := w.heap.size, off := 6 } _ = V9;have hgV : V7.grownBy V9 (some w.heap.size) := by
    rw [<- hV9]
    iterate 6 refine grownBy_trans ?_ (grownBy_setCell _ _ _ _)
    exact grownBy_setCell _ _ _ _
   have hcw := HF.1.1.2.2.2;refine ⟨_, { x with num := 10000 }, rfl, ⟨zS pX mX qX, rfl, OwnR.base (World.ownsRow.kept HF.1.2 hgV (.inr fun e => ?_)) (by have := HF.2.1; omega)⟩, HMF.out, HF.1.1.1.2.grown hgV (fun k hk => by have := Option.some.inj hk; omega), grow_step HF.1.1.1.1 hgV (fun k hk => by have := Option.some.inj hk; omega)⟩;have := (World.ownsRow.lt HF.1.2 _ e).1;have := HF.2.1;omega
 by_cases hKn1 : K = 1
 ·skip
  have hk0 : (K == 0) = false := beq_eq_false_iff_ne.2 (by omega);have hk1 : (K == 1) = true := by rw [hKn1]; rfl
  have hY6 := tmod_in hY0 6 (by decide) (by decide);obtain ⟨A6, hA6⟩ := zE (Y.tmod 6);rw [hA6] at hY6;have hmk : MdL x := HMD.1;have e1 := fun j => HX.1.1.2.2.1.cell j
  have ef := fun i => HX.1.1.2.2.1.free i
  go_upto_region 16 with fail;obtain ⟨V7, hV7⟩ : ∃ W, W = V.setCell ⟨g, 4, none⟩ (zI A6) := ⟨_, rfl⟩
  try rw [<- hV7]
  have HF : Hid ((MdS B w V7 c a0 len cap g #[zG x.issuer, zI x.num, zI x.ths, zI x.nxt, zI A6, zS pX mX qX, zG x.sig] /\ OwnR V7 w5.heap.size (zS pX mX qX) x.revs) /\ (w.heap.size < w5.heap.size /\ (∀ b, ((zS pX mX qX : Value)).ownBlock = some b -> b ≠ g))) := by
   rw [hV7];exact ⟨⟨HX.1.1.set 4 _ rfl, row_same HX.1.2 (fun b hb => heap_setCell_other _ _ _ _ (HX.2.2 b hb))⟩, HX.2⟩
  clear hV7 HX e1 ef;have HMF : Hid (MdL { x with bas := A6 }) := ⟨hmk.1, ⟨hmk.2.1.1, hmk.2.1.2.1, hmk.2.1.2.2.1, by show bd A6; unfold bd; omega⟩, hmk.2.2⟩;clear hmk;have c0 := fun j => HF.1.1.2.2.1.cell j
  have r0 := fun j => HF.1.1.2.1.cell j
  have rf := fun i => HF.1.1.2.1.free i
  have hgw : g ≠ w.heap.size := by have := HF.1.1.2.2.2; omega
  go_wp2_with fail;refine bodyPost_ret (v := .agg #[zG x.issuer, zI x.num, zI x.ths, zI x.nxt, zI A6, zS pX mX qX, zG x.sig]) (by simp [results, Tryz.results24, go_sem, r0]; try rfl) rfl ?_;generalize hV9 : World.setCell _ { block := w.heap.size, off := 6 } _ = V9;have hgV : V7.grownBy V9 (some w.heap.size) := by
   rw [<- hV9]
   iterate 6 refine grownBy_trans ?_ (grownBy_setCell _ _ _ _)
   exact grownBy_setCell _ _ _ _
  have hcw := HF.1.1.2.2.2;refine ⟨_, { x with bas := A6 }, rfl, ⟨zS pX mX qX, rfl, OwnR.base (World.ownsRow.kept HF.1.2 hgV (.inr fun e => ?_)) (by have := HF.2.1; omega)⟩, HMF.out, HF.1.1.1.2.grown hgV (fun k hk => by have := Option.some.inj hk; omega), grow_step HF.1.1.1.1 hgV (fun k hk => by have := Option.some.inj hk; omega)⟩;have := (World.ownsRow.lt HF.1.2 _ e).1;have := HF.2.1;omega
 by_cases hKn2 : K = 2
 ·skip
  have hk0 : (K == 0) = false := beq_eq_false_iff_ne.2 (by omega);have hk1 : (K == 1) = false := beq_eq_false_iff_ne.2 (by omega);have hk2 : (K == 2) = true := by rw [hKn2]; rfl
  have hY5 := tmod_in hY0 5 (by decide) (by decide);have hY12 := tmod_in hY0 12 (by decide) (by decide);have hmk : MdL x := HMD.1;obtain ⟨A5, hA5⟩ := zE (Y.tmod 5);obtain ⟨A12, hA12⟩ := zE (Y.tmod 12);rw [hA5] at hY5;rw [hA12] at hY12;have b5 := fun j => HX.1.1.2.2.1.cell j
  obtain ⟨V5, hV5⟩ : ∃ W, W = V.alloc (Obj.cells #[zI A5, zI A12] 73) := ⟨_, rfl⟩;have H5 : Hid (((MdS B w V5 c a0 len cap g (zCl x (zS pX mX qX)) /\ OwnR V5 w5.heap.size (zS pX mX qX) x.revs) /\ (w.heap.size < w5.heap.size /\ (∀ b, ((zS pX mX qX : Value)).ownBlock = some b -> b ≠ g))) /\ OwnR V5 V.heap.size (zS (some ⟨V.heap.size, 0, none⟩) 1 1) [(A5, A12)] /\ w5.heap.size <= V5.heap.size) := by
   have hb : zW V V5 := by rw [hV5]; exact (Below.refl _ _).alloc (Nat.le_refl _) _
   refine ⟨⟨⟨HX.1.1.out (grownBy_below' hb (row := none)) (fun k hk => by cases hk), HX.1.2.stays hb⟩, HX.2⟩, by rw [hV5]; exact rone_rev V (A5, A12), ?_⟩;have h2 := hb.size;have h3 := HW5.out;omega
  go_wp2_with (at_builtin; rw [<- hV5]; refine wpList_append_revs rfl _ _ rfl w5.heap.size (zS pX mX qX) mX (cellsR x.revs) rfl (by have h := H5.1.1.2; unfold OwnR at h; rw [HMX.out] at h; exact h) _ [(A5, A12)] _ H5.2.1 rfl (by show mX + 1 <= _; have := HMX.out; have := hmk.1.2.1; omega) H5.2.2 ?_);intro v9 w9 ho9 hg9
  try rw [<- hV5] at hg9
  have ho9' : OwnR w9 w5.heap.size v9 (x.revs ++ [(A5, A12)]) := by
   unfold OwnR;rw [List.length_append, HMX.out, cellsR_append];exact ho9
  obtain ⟨qa, qc, hq9, -, -, -⟩ := OwnR.shape ho9';rw [List.length_append, HMX.out] at hq9;change v9 = zS qa (mX + 1) qc at hq9;subst hq9;have H9 : Hid (MdS B w w9 c a0 len cap g (zCl x (zS pX mX qX)) /\ OwnR w9 w5.heap.size (zS qa (mX + 1) qc) (x.revs ++ [(A5, A12)]) /\ (∀ b, (Value.slice qa (mX + 1) qc).ownBlock = some b -> b ≠ g)) := by
   refine ⟨MdS.grownX H5.1.1.1 hg9 (fun b hb => ⟨by have := (World.ownsRow.lt H5.1.1.2 b hb).1; have := H5.1.2.1; omega, H5.1.2.2 b hb⟩), ho9', fun b hb e => ?_⟩;have hbk := H5.1.1.1.2.2.1.grown hg9 (fun e => H5.1.2.2 g e.symm rfl);have hrow := ho9';subst e
   rcases hrow.2 with ⟨h, -⟩ | ⟨g', cap', cur, h, -, hblk, -⟩
   ·rw [show Value.slice qa (mX + 1) qc = _ from h] at hb; cases hb
   ·rw [show Value.slice qa (mX + 1) qc = _ from h] at hb
    have hgb : g' = b := by simpa [Value.ownBlock] using hb
    subst hgb;unfold Blk at hbk;rw [hbk] at hblk;injection hblk with hblk
    injection hblk with h1 h2
    exact absurd h2 (by decide)
  clear ho9 ho9' hg9 hV5 b5 H5 HX;have b5 := fun j => H9.1.2.2.1.cell j
  have ef := fun i => H9.1.2.2.1.free i
  go_upto_region 16 with fail;obtain ⟨V7, hV7⟩ : ∃ W, W = w9.setCell ⟨g, 5, none⟩ (zS qa (mX + 1) qc) := ⟨_, rfl⟩
  try rw [<- hV7]
  have HF : Hid ((MdS B w V7 c a0 len cap g (zCl x (zS qa (mX + 1) qc)) /\ OwnR V7 w5.heap.size (zS qa (mX + 1) qc) (x.revs ++ [(A5, A12)])) /\ (w.heap.size < w5.heap.size /\ (∀ b, ((zS qa (mX + 1) qc : Value)).ownBlock = some b -> b ≠ g))) := by
   rw [hV7];exact ⟨⟨H9.1.set 5 _ rfl, row_same H9.2.1 (fun b hb => heap_setCell_other _ _ _ _ (H9.2.2 b hb))⟩, HWX.out, H9.2.2⟩
  clear hV7 H9 b5 ef;have HMF : Hid (MdL { x with revs := x.revs ++ [(A5, A12)] }) := by
   refine ⟨⟨hmk.1.1, by show (x.revs ++ [(A5, A12)]).length <= 6; rw [List.length_append]; have := HR5.out; show _ + 1 <= 6; omega, hmk.1.2.2⟩, hmk.2.1, fun p hp => ?_⟩
   rcases List.mem_append.1 hp with hp | hp
   ·exact hmk.2.2 p hp
   ·rw [List.mem_singleton.1 hp]
    unfold bd;omega
  clear hmk hA5 hA12;have c0 := fun j => HF.1.1.2.2.1.cell j
  have r0 := fun j => HF.1.1.2.1.cell j
  have rf := fun i => HF.1.1.2.1.free i
  have hgw : g ≠ w.heap.size := by have := HF.1.1.2.2.2; omega
  go_wp2_with fail;refine bodyPost_ret (v := .agg (zCl x (zS qa (mX + 1) qc))) (by simp [results, Tryz.results24, go_sem, r0]; try rfl) rfl ?_;generalize hV9 : World.setCell _ { block := w.heap.size, off := 6 } _ = V9;have hgV : V7.grownBy V9 (some w.heap.size) := by
   rw [<- hV9]
   iterate 6 refine grownBy_trans ?_ (grownBy_setCell _ _ _ _)
   exact grownBy_setCell _ _ _ _
  have hcw := HF.1.1.2.2.2;refine ⟨_, { x with revs := x.revs ++ [(A5, A12)] }, rfl, ⟨zS qa (mX + 1) qc, rfl, OwnR.base (World.ownsRow.kept HF.1.2 hgV (.inr fun e => ?_)) (by have := HF.2.1; omega)⟩, HMF.out, HF.1.1.1.2.grown hgV (fun k hk => by have := Option.some.inj hk; omega), grow_step HF.1.1.1.1 hgV (fun k hk => by have := Option.some.inj hk; omega)⟩;have := (World.ownsRow.lt HF.1.2 _ e).1;have := HF.2.1;omega
 by_cases hKn3 : K = 3
 ·skip
  have hk0 : (K == 0) = false := beq_eq_false_iff_ne.2 (by omega);have hk1 : (K == 1) = false := beq_eq_false_iff_ne.2 (by omega);have hk2 : (K == 2) = false := beq_eq_false_iff_ne.2 (by omega);have hk3 : (K == 3) = true := by rw [hKn3]; rfl
  have hmk : MdL x := HMD.1;have e1 := fun j => HX.1.1.2.2.1.cell j
  have ef := fun i => HX.1.1.2.2.1.free i
  go_upto_region 16 with fail;obtain ⟨V7, hV7⟩ : ∃ W, W = V.setCell ⟨g, 0, none⟩ (zG ⟨#[65]⟩) := ⟨_, rfl⟩
  try rw [<- hV7]
  have HF : Hid ((MdS B w V7 c a0 len cap g #[zG ⟨#[65]⟩, zI x.num, zI x.ths, zI x.nxt, zI x.bas, zS pX mX qX, zG x.sig] /\ OwnR V7 w5.heap.size (zS pX mX qX) x.revs) /\ (w.heap.size < w5.heap.size /\ (∀ b, ((zS pX mX qX : Value)).ownBlock = some b -> b ≠ g))) := by
   rw [hV7];exact ⟨⟨HX.1.1.set 0 _ rfl, row_same HX.1.2 (fun b hb => heap_setCell_other _ _ _ _ (HX.2.2 b hb))⟩, HX.2⟩
  clear hV7 HX e1 ef;have HMF : Hid (MdL { x with issuer := ⟨#[65]⟩ }) := ⟨⟨by show (1 : Nat) <= 100; decide, hmk.1.2⟩, hmk.2⟩;clear hmk;have c0 := fun j => HF.1.1.2.2.1.cell j
  have r0 := fun j => HF.1.1.2.1.cell j
  have rf := fun i => HF.1.1.2.1.free i
  have hgw : g ≠ w.heap.size := by have := HF.1.1.2.2.2; omega
  go_wp2_with fail;refine bodyPost_ret (v := .agg #[zG ⟨#[65]⟩, zI x.num, zI x.ths, zI x.nxt, zI x.bas, zS pX mX qX, zG x.sig]) (by simp [results, Tryz.results24, go_sem, r0]; try rfl) rfl ?_;generalize hV9 : World.setCell _ { block := w.heap.size, off := 6 } _ = V9;have hgV : V7.grownBy V9 (some w.heap.size) := by
   rw [<- hV9]
   iterate 6 refine grownBy_trans ?_ (grownBy_setCell _ _ _ _)
   exact grownBy_setCell _ _ _ _
  have hcw := HF.1.1.2.2.2;refine ⟨_, { x with issuer := ⟨#[65]⟩ }, rfl, ⟨zS pX mX qX, rfl, OwnR.base (World.ownsRow.kept HF.1.2 hgV (.inr fun e => ?_)) (by have := HF.2.1; omega)⟩, HMF.out, HF.1.1.1.2.grown hgV (fun k hk => by have := Option.some.inj hk; omega), grow_step HF.1.1.1.1 hgV (fun k hk => by have := Option.some.inj hk; omega)⟩;have := (World.ownsRow.lt HF.1.2 _ e).1;have := HF.2.1;omega
 by_cases hKn4 : K = 4
 ·skip
  have hk0 : (K == 0) = false := beq_eq_false_iff_ne.2 (by omega);have hk1 : (K == 1) = false := beq_eq_false_iff_ne.2 (by omega);have hk2 : (K == 2) = false := beq_eq_false_iff_ne.2 (by omega);have hk3 : (K == 3) = false := beq_eq_false_iff_ne.2 (by omega);have hk4 : (K == 4) = true := by rw [hKn4]; rfl
  have hsz1 : 1 <= x.sig.size := by rw [HMD.2]; decide
  have hsz2 : x.sig.size <= 15 := by rw [HMD.2]; decide
  have hsz3 : (1 : Int) <= (x.sig.size : Int) := by omega
  have hmk : MdL x := HMD.1;have e1 := fun j => HX.1.1.2.2.1.cell j
  have ef := fun i => HX.1.1.2.2.1.free i
  go_upto_region 16 with fail;obtain ⟨V7, hV7⟩ : ∃ W, W = V.setCell ⟨g, 6, none⟩ (zG (x.sig.extract 1 x.sig.size)) := ⟨_, rfl⟩
  try rw [<- hV7]
  have HF : Hid ((MdS B w V7 c a0 len cap g #[zG x.issuer, zI x.num, zI x.ths, zI x.nxt, zI x.bas, zS pX mX qX, zG (x.sig.extract 1 x.sig.size)] /\ OwnR V7 w5.heap.size (zS pX mX qX) x.revs) /\ (w.heap.size < w5.heap.size /\ (∀ b, ((zS pX mX qX : Value)).ownBlock = some b -> b ≠ g))) := by
   rw [hV7];exact ⟨⟨HX.1.1.set 6 _ rfl, row_same HX.1.2 (fun b hb => heap_setCell_other _ _ _ _ (HX.2.2 b hb))⟩, HX.2⟩
  clear hV7 HX e1 ef;have HMF : Hid (MdL { x with sig := x.sig.extract 1 x.sig.size }) := ⟨⟨hmk.1.1, hmk.1.2.1, by show (x.sig.extract 1 x.sig.size).size <= 15; have := hmk.1.2.2; rw [ByteArray.size_extract]; omega⟩, hmk.2⟩;clear hmk;have c0 := fun j => HF.1.1.2.2.1.cell j
  have r0 := fun j => HF.1.1.2.1.cell j
  have rf := fun i => HF.1.1.2.1.free i
  have hgw : g ≠ w.heap.size := by have := HF.1.1.2.2.2; omega
  go_wp2_with fail;refine bodyPost_ret (v := .agg #[zG x.issuer, zI x.num, zI x.ths, zI x.nxt, zI x.bas, zS pX mX qX, zG (x.sig.extract 1 x.sig.size)]) (by simp [results, Tryz.results24, go_sem, r0]; try rfl) rfl ?_;generalize hV9 : World.setCell _ { block := w.heap.size, off := 6 } _ = V9;have hgV : V7.grownBy V9 (some w.heap.size) := by
   rw [<- hV9]
   iterate 6 refine grownBy_trans ?_ (grownBy_setCell _ _ _ _)
   exact grownBy_setCell _ _ _ _
  have hcw := HF.1.1.2.2.2;refine ⟨_, { x with sig := x.sig.extract 1 x.sig.size }, rfl, ⟨zS pX mX qX, rfl, OwnR.base (World.ownsRow.kept HF.1.2 hgV (.inr fun e => ?_)) (by have := HF.2.1; omega)⟩, HMF.out, HF.1.1.1.2.grown hgV (fun k hk => by have := Option.some.inj hk; omega), grow_step HF.1.1.1.1 hgV (fun k hk => by have := Option.some.inj hk; omega)⟩;have := (World.ownsRow.lt HF.1.2 _ e).1;have := HF.2.1;omega
 have hk0 : (K == 0) = false := beq_eq_false_iff_ne.2 (by omega);have hk1 : (K == 1) = false := beq_eq_false_iff_ne.2 (by omega);have hk2 : (K == 2) = false := beq_eq_false_iff_ne.2 (by omega);have hk3 : (K == 3) = false := beq_eq_false_iff_ne.2 (by omega);have hk4 : (K == 4) = false := beq_eq_false_iff_ne.2 (by omega);have HF : Hid ((MdS B w V c a0 len cap g (zCl x (zS pX mX qX)) /\ OwnR V w5.heap.size (zS pX mX qX) x.revs) /\ (w.heap.size < w5.heap.size /\ (∀ b, ((zS pX mX qX : Value)).ownBlock = some b -> b ≠ g))) := HX.out;have HMF : Hid (MdL x) := HMD.1;clear HX;go_upto_region 16 with fail;have c0 := fun j => HF.1.1.2.2.1.cell j
 have r0 := fun j => HF.1.1.2.1.cell j
 have rf := fun i => HF.1.1.2.1.free i
 have hgw : g ≠ w.heap.size := by have := HF.1.1.2.2.2; omega
 go_wp2_with fail;refine bodyPost_ret (v := .agg (zCl x (zS pX mX qX))) (by simp [results, Tryz.results24, go_sem, r0]; try rfl) rfl ?_;generalize hV9 : World.setCell _ { block := w.heap.size, off := 6 } _ = V9;have hgV : V.grownBy V9 (some w.heap.size) := by
  rw [<- hV9]
  iterate 6 refine grownBy_trans ?_ (grownBy_setCell _ _ _ _)
  exact grownBy_setCell _ _ _ _
 have hcw := HF.1.1.2.2.2;refine ⟨_, x, rfl, ⟨zS pX mX qX, rfl, OwnR.base (World.ownsRow.kept HF.1.2 hgV (.inr fun e => ?_)) (by have := HF.2.1; omega)⟩, HMF.out, HF.1.1.1.2.grown hgV (fun k hk => by have := Option.some.inj hk; omega), grow_step HF.1.1.1.1 hgV (fun k hk => by have := Option.some.inj hk; omega)⟩;have := (World.ownsRow.lt HF.1.2 _ e).1;have := HF.2.1;omega
theorem Cur.keptB {B : Nat} {w w' : World} {c : Nat} {a0 : Option Addr} {len cap K : Nat} (h : Cur B w c a0 len cap) (hb : Below K w w') (hK : c < K) : Cur B w' c a0 len cap := by
 refine ⟨h.low, h.len_le, ?_, fun j hj => ?_⟩
 ·obtain ⟨i, k, hr, h1, h2⟩ := h.row
  exact ⟨i, k, by rw [hb.block c hK]; exact hr, h1, h2⟩
 ·obtain ⟨b, off, x, e, hbB, hc, h1, h2⟩ := h.code j hj
  have hbw : b < K := by have := h.low; omega
  exact ⟨b, off, x, e, hbB, (hb.cell (p := ⟨b, off + j, none⟩) hbw).trans hc, h1, h2⟩
theorem grow_below {w W W' : World} {c : Nat} (h : w.grownBy W (some c)) (hb : Below w.heap.size W W') : w.grownBy W' (some c) :=
 ⟨hb.os.trans h.os, hb.tape.trans h.tape, hb.output.trans h.output, Nat.le_trans h.size hb.size, fun k hk hn => (hb.block k hk).trans (h.block k hk hn)⟩
theorem OwnS.grownC {w w' : World} {b c : Nat} {v : Value} {l : List Cl} {fp : List Nat} (h : OwnS crlKd w b v l fp) (hg : w.grownBy w' (some c)) (hc : c < b) : OwnS crlKd w' b v l fp :=
 h.same fun y hy => hg.block y (h.lt y hy).2 (fun e => by have := Option.some.inj e; have := (h.lt y hy).1; omega)
theorem md_snoc {l : List Cl} {x : Cl} (h : ∀ y ∈ l, MdL y) (hx : MdL x) : ∀ y ∈ l ++ [x], MdL y := fun y hy => by
 rcases List.mem_append.1 hy with hy | hy
 ·exact h y hy
 ·rw [List.mem_singleton.1 hy]; exact hx
def CrlsPost (w : World) (e : Ending) (w' : World) : Prop := ∃ u l fp, e = .returned u /\ OwnS crlKd w' w.heap.size u l fp /\ (1 <= l.length /\ l.length <= 5) /\ (∀ x ∈ l, MdL x) /\ zW w w'
theorem drawCrls_any (B : Nat) (w0 : World) (a0 : Option Addr) (len cap : Nat) (hl : len <= 1048576) (hB : B <= w0.heap.size) (hcode : CodeAt B w0 a0 len) :
  Calls Tryz.prog 11 #[zS a0 len cap] w0 fun e w' => CrlsPost w0 e w' := by
 have HN := l01New_any B w0 a0 len cap hl hB hcode;clear hl hB hcode;go_enter Tryz.func11, Tryz.ntmps11;go_wp2_with fail;refine HN.mono ?_;rintro e w ⟨c, rfl, hC, hbw, hcw⟩;have HW0 : Hid (zW w0 w /\ w0.heap.size <= c) := ⟨hbw, hcw⟩;have HC : Hid (Cur B w c a0 len cap) := hC;have HCW : Hid (c < w.heap.size) := hC.lt;clear hC hbw hcw HN;obtain ⟨W1, hW1⟩ : ∃ V, V = w.alloc (Obj.cells #[] 26) := ⟨_, rfl⟩;have H1 : Hid ((w.grownBy W1 (some c) /\ Cur B W1 c a0 len cap) /\ OwnS crlKd W1 w.heap.size (zS (some ⟨w.heap.size, 0, none⟩) 0 0) ([] : List Cl) [w.heap.size] /\ (∀ x ∈ ([] : List Cl), MdL x)) := by
  have hb : zW w W1 := by rw [hW1]; exact (Below.refl _ _).alloc (Nat.le_refl _) _
  exact ⟨⟨grownBy_below' hb, HC.out.kept hb⟩, by rw [hW1]; exact OwnS.made crlKd w _ (Nat.le_refl _), fun x hx => by cases hx⟩
 go_wp2_with fail;rw [<- hW1];clear hW1
 go_loopw [4, 5] (fun ov iv wr => ∃ k : Nat, k <= 4 /\ iv = zI k /\ Hid (∃ (l : List Cl) (fpo : List Nat), ((w.grownBy wr (some c) /\ Cur B wr c a0 len cap) /\ OwnS crlKd wr w.heap.size ov l fpo /\ (∀ x ∈ l, MdL x)) /\ l.length = k)) (fun _ iv _ => 5 - (intOf iv).toNat)
 case atStart => exact ⟨0, by decide, rfl, [], _, H1.out, rfl⟩
 case round =>
  clear H1;obtain ⟨k, hk, rfl, H0⟩ := hrel;obtain ⟨LF, fpo, hM, hlk⟩ := H0.out;have H : Hid ((w.grownBy wr (some c) /\ Cur B wr c a0 len cap) /\ OwnS crlKd wr w.heap.size u4 LF fpo /\ (∀ x ∈ LF, MdL x)) := hM;have HLN : Hid (LF.length = k) := hlk;obtain ⟨va, vc, hvo, -⟩ := hM.2.1.shape;obtain ⟨ln, hln⟩ := zE (LF.length);rw [hln] at hvo;subst hvo;clear H0 hM hlk;have HDR : Hid (∀ W W', ((w.grownBy W (some c) /\ Cur B W c a0 len cap) /\ OwnS crlKd W w.heap.size (zS va ln vc) LF fpo /\ (∀ x ∈ LF, MdL x)) -> Cur B W' c a0 len cap -> W.grownBy W' (some c) -> ((w.grownBy W' (some c) /\ Cur B W' c a0 len cap) /\ OwnS crlKd W' w.heap.size (zS va ln vc) LF fpo /\ (∀ x ∈ LF, MdL x))) := fun W W' h hc hg => ⟨⟨grownBy_trans h.1.1 hg, hc⟩, h.2.1.grownC hg HCW.out, h.2.2⟩
  go_wp2_with fail;refine (l01Below_any 4 B wr c a0 len cap (by decide) H.1.2).mono ?_;rintro e v2 ⟨m1, hm0, hm1, -, rfl, hc1, hg1⟩;have hm4 : m1 < 4 := hm1 (by decide);have hwm : IntKind.i64.wrap (1 + m1) = 1 + m1 := by rw [IntKind.wrap_i64]; omega
  have H2 : Hid ((w.grownBy v2 (some c) /\ Cur B v2 c a0 len cap) /\ OwnS crlKd v2 w.heap.size (zS va ln vc) LF fpo /\ (∀ x ∈ LF, MdL x)) := HDR.out _ _ H.out hc1 hg1;clear H hc1 hg1 hm1;by_cases hkm : (k : Int) < 1 + m1
  ·have HLE : Hid (w.heap.size <= v2.heap.size) := H2.1.1.size
   have HLO : Hid (∀ b ∈ fpo, b < v2.heap.size) := fun b hb => (H2.2.1.lt b hb).2
   go_wp2_with fail;refine (l10Made_any ⟨#[99, 97, 46, 111, 114, 103]⟩ (by decide) 1 (by decide) B v2 c a0 len cap H2.1.2).mono ?_;rintro e v3 ⟨u3, y, rfl, hu, hmy, -, hc3, hg3⟩;have HX : Hid ((w.grownBy v3 (some c) /\ Cur B v3 c a0 len cap) /\ OwnS crlKd v3 w.heap.size (zS va ln vc) LF fpo /\ (∀ x ∈ LF, MdL x)) := HDR.out _ _ H2.out hc3 hg3;have HMY : Hid (MdL y) := hmy;clear H2 hc3 hg3 hmy;obtain ⟨pY, qY, huY⟩ := hu.at.shape;subst huY;have H5 := zH (zJ HX.out (zJ (hu.base HLE.out) (zJ (fun b hb hm => by have h1 := (HLO.out b hm); have h2 := (fpL_lt hu b hb).1; omega : (∀ b ∈ fpL (clV y (zS pY y.revs.length qY)), b ∉ fpo)) (by have := HX.1.1.size; omega : w.heap.size <= v3.heap.size))));clear HX hu;unfold clV;go_wp2_with (at_builtin; refine wpList_append_crl rfl _ _ rfl w.heap.size (zS va ln vc) LF fpo y (zS pY y.revs.length qY) rfl _ rfl rfl H5.1.2.1 H5.2.1 H5.2.2.1 H5.2.2.2 (by have := HLN.out; omega) ?_);intro g9 cap9 w9 fp9 hO9 hb9;have HD : Hid (∃ (l : List Cl) (fpo : List Nat), (((w.grownBy w9 (some c) /\ Cur B w9 c a0 len cap) /\ OwnS crlKd w9 w.heap.size (zS (some ⟨g9, 0, none⟩) (ln + 1) cap9) l fpo /\ (∀ x ∈ l, MdL x))) /\ l.length = k + 1) := by
    refine ⟨LF ++ [y], fp9, ⟨⟨grow_below H5.1.1.1 hb9, H5.1.1.2.keptB hb9 HCW.out⟩, by first | exact hO9 | (have h := hO9; rw [List.length_append, hln] at h; exact h), md_snoc H5.1.2.2 HMY.out⟩, by rw [List.length_append]; have := HLN.out; show LF.length + 1 = k + 1; omega⟩
   clear hO9 hb9 H5;go_wp2_with fail
   go_roundw
   case rel => exact ⟨k + 1, by omega, by go_num, HD.out⟩
   case measure => simp [intOf]; omega
  ·have HK1 : Hid (1 <= LF.length) := by show _ <= _; have := HLN.out; omega
   go_wp2_with fail;go_ret;refine ⟨_, LF, fpo, rfl, H2.2.1.base HW0.1.size, ⟨HK1.out, by have := HLN.out; omega⟩, H2.2.2, ?_⟩;exact HW0.1.trans (grownBy_below H2.1.1 HW0.2 HW0.1.size)
end Go.Proofs.YtcbjlbpkoneibaaGreatDoor
