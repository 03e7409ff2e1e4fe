/-
  Texts of the proof.
-/
import Derived.Deep.RegionHeld3
import Derived.Laws.OwnMore
import Derived.Test.YtagmnlmfoanelaaGreatSK6
set_option maxRecDepth 100000
set_option maxHeartbeats 25600000
namespace Go.Proofs.YtagmnlmfoanelaaGreat
open Go.RowKit
def mfig (n : Nat) : UInt8 := UInt8.ofNat (48 + n % 10)
def mdg (n : Nat) : List UInt8 := if _h : n = 0 then [] else mdg (n / 10) ++ [mfig n]
theorem mdg_zero : mdg 0 = [] := by rw [mdg, dif_pos rfl]
theorem mdg_pos {n : Nat} (h : n ≠ 0) : mdg n = mdg (n / 10) ++ [mfig n] := by rw [mdg, dif_neg h]
theorem mdg_step {m n : Nat} {ds : List UInt8} (h : mdg m ++ ds = mdg n) (hm : m ≠ 0) : mdg (m / 10) ++ (mfig m :: ds) = mdg n := by
 rw [<- h, mdg_pos hm]; simp
theorem mdg_len (n : Nat) : (mdg n).length <= n := by
 induction n using Nat.strongRecOn with
 | _ n ih =>
  by_cases h : n = 0
  ·subst h; rw [mdg_zero]; exact Nat.le_refl _
  ·rw [mdg_pos h]
   have := ih (n / 10) (by omega)
   simp; omega
def mt (k : Nat) : List UInt8 := 109 :: mdg k
theorem conv_oneM (m : Nat) (W : World) : (convert 107 9 (.slice (some ⟨W.heap.size, 0, none⟩) 1 1)).run Tryz.prog (W.alloc (.cells #[.int .u8 (48 + (m : Int) % 10)] 5)) = .ok (.string ⟨#[mfig m]⟩) (W.alloc (.cells #[.int .u8 (48 + (m : Int) % 10)] 5)) := by
 have ho := World.ownsRow_lit (base := W.heap.size) (e := 5) (size := 1) W #[.int .u8 (48 + (m : Int) % 10)] 1 (Nat.le_refl _) (by decide) rfl
 have e : (#[Value.int .u8 (48 + (m : Int) % 10)]).toList = [mfig m].map cellB := by
  unfold mfig
  simp only [List.map_cons, List.map_nil, cellB_of (show 48 + m % 10 < 256 by omega)]
  simp
 rw [e] at ho
 exact conv_own ho
theorem cat_oneM (f : UInt8) (ds : List UInt8) : (⟨#[f]⟩ : ByteArray) ++ (⟨ds.toArray⟩ : ByteArray) = ⟨(f :: ds).toArray⟩ := by
 apply ByteArray.ext
 simp [ByteArray.data_append]
theorem markText_str (k : Nat) (w : World) (h1 : 1 <= k) (hk : k <= 1000000000000) : Calls Tryz.prog 60 #[.int .i64 k] w fun e w' => e = .returned (.string ⟨(mt k).toArray⟩) /\ Below w.heap.size w w' := by
 have hpos : ¬ (k : Int) <= 0 := by omega
 go_enter Tryz.func60, Tryz.ntmps60
 go_wp2
 go_loopw [3, 0] (fun sv kv wr => ∃ (m : Nat) (ds : List UInt8), m <= k /\ kv = .int .i64 m /\ sv = .string ⟨ds.toArray⟩ /\ Hid (mdg m ++ ds = mdg k) /\ Below w.heap.size w wr) (fun _ kv _ => (intOf kv).toNat)
 case atStart => exact ⟨k, [], Nat.le_refl _, rfl, rfl, by show _ = _; simp, Below.refl _ _⟩
 case round =>
  obtain ⟨m, ds, hm, rfl, rfl, HD, hbel⟩ := hrel
  have hdl : ds.length <= k := by
   have h1 := mdg_len k
   rw [<- HD.out] at h1
   simp at h1
   omega
  by_cases hm0 : m = 0
  ·subst hm0
   have HF : Hid (ds = mdg k) := by have := HD.out; rw [mdg_zero] at this; exact this
   go_wp2
   go_ret
   exact ⟨by rw [HF.out]; rfl, hbel⟩
  ·have hmp : (0 : Int) < (m : Int) := by omega
   have hcv := conv_oneM m
   go_wp2
   go_roundw
   case rel => exact ⟨m / 10, mfig m :: ds, by omega, by go_num, by rw [cat_oneM], mdg_step HD.out hm0, hbel.alloc hbel.size _⟩
   case measure => simp [intOf]; omega
theorem markText_int (x : Int) (w : World) (h1 : 1 <= x) (hk : x <= 1000000000000) : Calls Tryz.prog 60 #[.int .i64 x] w fun e w' => e = .returned (.string ⟨(mt x.toNat).toArray⟩) /\ Below w.heap.size w w' := by
 obtain ⟨k, rfl⟩ := Int.eq_ofNat_of_zero_le (show 0 <= x by omega)
 rw [Int.toNat_natCast]
 exact markText_str k w (by omega) (by omega)
end Go.Proofs.YtagmnlmfoanelaaGreat
namespace Go.Proofs.YtagmnlmfoanelaaGreat
open Go.RowKit
set_option linter.unusedVariables false
set_option linter.unusedSimpArgs false
def marksT (k n : Nat) : List ByteArray := (List.range n).map fun i : Nat => (⟨(mt (k + i)).toArray⟩ : ByteArray)
theorem marksT_len (k n : Nat) : (marksT k n).length = n := by simp [marksT]
theorem marksT_at {k n j : Nat} (h : j < n) : (marksT k n).getD j ByteArray.empty = ⟨(mt (k + j)).toArray⟩ := by simp [marksT, List.getD, h]
theorem getT_set {l : List ByteArray} {k j : Nat} (x : ByteArray) (hk : k < l.length) : (l.set k x).getD j ByteArray.empty = if j = k then x else l.getD j ByteArray.empty := by
 simp only [List.getD_eq_getElem?_getD, List.getElem?_set]
 by_cases e : k = j
 ·subst e; simp [hk]
 ·rw [if_neg e, if_neg (fun h => e h.symm)]
theorem extT_getD {a b : List ByteArray} (hl : a.length = b.length) (h : ∀ j, j < a.length -> a.getD j ByteArray.empty = b.getD j ByteArray.empty) : a = b := by
 apply List.ext_getElem hl
 intro j h1 h2
 have := h j h1
 simpa [List.getD, h1, h2] using this
theorem grown_below {a b : World} {row : Option Nat} (h : Below a.heap.size a b) : a.grownBy b row := ⟨h.os, h.tape, h.output, h.size, fun k hk _ => h.block k hk⟩
theorem markT_any (v : Value) (l : List ByteArray) (k base : Nat) (w : World) (hl : l.length <= 1000000000) (hk1 : 1 <= k) (hk : k <= 1000000000) (hv : OwnT w base v l) :
  Calls Tryz.prog 37 #[v, .int .i64 k] w fun e w' => e = .returned (.int .i64 ((k : Int) + (l.length : Int))) /\ OwnT w' base v (marksT k l.length) /\ w.grownBy w' v.ownBlock := by
 obtain ⟨n, hn⟩ := zE (l.length)
 have HN : Hid (l.length = n) := hn
 obtain ⟨ao, cap, hva, hc⟩ : ∃ ao cap, v = .slice ao l.length cap /\ (0 < l.length -> ∃ g, ao = some ⟨g, 0, none⟩) := by
  rcases hv.2 with ⟨h1, h0⟩ | ⟨g, cap, cur, hv, _⟩
  ·exact ⟨none, 0, by rw [h1, h0], fun h => by omega⟩
  ·exact ⟨some ⟨g, 0, none⟩, cap, hv, fun _ => ⟨g, rfl⟩⟩
 subst hva
 rw [hn] at hc hl
 have hv' : OwnT w base (.slice ao n cap) l := hn ▸ hv
 rw [hn]
 have HV : Hid (OwnT w base (.slice ao n cap) l) := hv'
 have HC : Hid (0 < n -> ∃ g, ao = some ⟨g, 0, none⟩) := hc
 clear hv hv' hc hn
 go_enter Tryz.func37, Tryz.ntmps37
 go_wp2
 go_loopw [1, 5] (fun kv iv wr => ∃ (j : Nat) (L : List ByteArray), j <= n /\ kv = .int .i64 ((k : Int) + (j : Int)) /\ iv = .int .i64 j /\ Hid (L.length = n /\ (∀ i, i < j -> L.getD i ByteArray.empty = ⟨(mt (k + i)).toArray⟩) /\ OwnT wr base (.slice ao n cap) L /\ w.grownBy wr (Value.slice ao n cap).ownBlock)) (fun _ iv _ => n - (intOf iv).toNat)
 case atStart => exact ⟨0, l, Nat.zero_le _, by simp, rfl, HN.out, fun i hi => by omega, HV.out, World.grownBy.refl _ _⟩
 case round =>
  obtain ⟨j, L, hj, rfl, rfl, H⟩ := hrel
  by_cases hlt : j < n
  ·obtain ⟨g, hao⟩ := HC.out (by omega)
   subst hao
   have hL := H.out.1
   have hO : OwnT wr base (.slice (some ⟨g, 0, none⟩) L.length cap) L := by rw [hL]; exact H.out.2.2.1
   have hu := hO.cell (j := j) (by omega)
   have hf := hO.frozen j
   have hgl : g < wr.heap.size := (World.ownsRow.lt hO g rfl).2
   have HX : Hid (∀ w1, Below wr.heap.size wr w1 -> (L.set j ⟨(mt (k + j)).toArray⟩).length = n /\ (∀ i, i < j + 1 -> (L.set j ⟨(mt (k + j)).toArray⟩).getD i ByteArray.empty = ⟨(mt (k + i)).toArray⟩) /\ OwnT (w1.setCell ⟨g, j, none⟩ (.string ⟨(mt (k + j)).toArray⟩)) base (.slice (some ⟨g, 0, none⟩) n cap) (L.set j ⟨(mt (k + j)).toArray⟩) /\ w.grownBy (w1.setCell ⟨g, j, none⟩ (.string ⟨(mt (k + j)).toArray⟩)) (Value.slice (some ⟨g, 0, none⟩) n cap).ownBlock) := by
    intro w1 hb1
    refine ⟨by simp [hL], fun i hi => ?_, ?_, grown_trans H.out.2.2.2 (grown_trans (grown_below hb1) (grown_set w1 g j _))⟩
    ·rw [getT_set _ (by omega)]
     by_cases e : i = j
     ·rw [if_pos e, e]
     ·rw [if_neg e]; exact H.out.2.1 i (by omega)
    ·have h := (hO.stays hb1).set j ⟨(mt (k + j)).toArray⟩
     rw [List.length_set, hL] at h
     exact h
   clear H hO hL
   generalize L.getD j ByteArray.empty = z at *
   have hji : (j : Int) < (n : Int) := by omega
   have hj0 : (0 : Int) <= (j : Int) := by omega
   have e : ((k : Int) + (j : Int)).toNat = k + j := by omega
   go_wp2_with (go_at_call 60; refine (markText_int _ _ ?_ ?_).mono ?_; omega; omega; rintro e w1 ⟨rfl, hb1⟩; have hu1 := (hb1.cell (p := ⟨g, j, none⟩) hgl).trans hu; have hf1 := (hb1.frozen (p := ⟨g, j, none⟩) hgl).trans hf)
   have HX1 := HX.out w1 hb1
   go_roundw
   case rel => exact ⟨j + 1, L.set j ⟨(mt (k + j)).toArray⟩, by omega, by go_num, by go_num, by first | exact HX1 | (rw [e]; exact HX1)⟩
   case measure => simp [intOf]; omega
  ·have hjn : j = n := by omega
   subst hjn
   have HE : Hid (L = marksT k j) := extT_getD (by rw [H.out.1, marksT_len]) (fun i hi => by
    rw [H.out.1] at hi
    rw [H.out.2.1 i hi, marksT_at hi])
   go_wp2
   go_ret
   exact ⟨rfl, by rw [<- HE.out]; exact H.out.2.2.1, H.out.2.2.2⟩
end Go.Proofs.YtagmnlmfoanelaaGreat
namespace Go.Proofs.YtagmnlmfoanelaaGreat
open Go.RowKit Der
set_option linter.unusedVariables false
def Out (fp : List Nat) (w w' : World) : Prop := w'.os = w.os /\ w'.tape = w.tape /\ w'.output = w.output /\ w.heap.size <= w'.heap.size /\ ∀ b, b < w.heap.size -> b ∉ fp -> w'.heap[b]? = w.heap[b]?
theorem Out.refl (fp : List Nat) (w : World) : Out fp w w := ⟨rfl, rfl, rfl, Nat.le_refl _, fun _ _ _ => rfl⟩
theorem Out.trans {fp : List Nat} {a b c : World} (h1 : Out fp a b) (h2 : Out fp b c) : Out fp a c :=
 ⟨h2.1.trans h1.1, h2.2.1.trans h1.2.1, h2.2.2.1.trans h1.2.2.1, Nat.le_trans h1.2.2.2.1 h2.2.2.2.1, fun k hk hn => (h2.2.2.2.2 k (Nat.lt_of_lt_of_le hk h1.2.2.2.1) hn).trans (h1.2.2.2.2 k hk hn)⟩
theorem Out.of_below {fp : List Nat} {a b : World} (h : Below a.heap.size a b) : Out fp a b := ⟨h.os, h.tape, h.output, h.size, fun k hk _ => h.block k hk⟩
theorem Out.mono {fp fq : List Nat} {a b : World} (h : Out fp a b) (hs : ∀ x ∈ fp, x ∈ fq) : Out fq a b := ⟨h.1, h.2.1, h.2.2.1, h.2.2.2.1, fun k hk hn => h.2.2.2.2 k hk fun hm => hn (hs k hm)⟩
theorem Out.setCell {fp : List Nat} {a b : World} (h : Out fp a b) (p : Addr) (v : Value) (hp : p.block ∈ fp) : Out fp a (b.setCell p v) := by
 have hb := (Below.refl 0 b).setCell (p := p) (Nat.zero_le _) v
 exact ⟨hb.os.trans h.1, hb.tape.trans h.2.1, hb.output.trans h.2.2.1, Nat.le_trans h.2.2.2.1 hb.size, fun k hk hn => by
  have hne : k ≠ p.block := fun e => hn (by rw [e]; exact hp)
  rw [heap_setCell_other b p k v hne]
  exact h.2.2.2.2 k hk hn⟩
theorem Out.below {fp : List Nat} {a b : World} {B : Nat} (h : Out fp a b) (hB : ∀ x ∈ fp, B <= x) (hs : B <= a.heap.size) : Below B a b := ⟨h.1, h.2.1, h.2.2.1, h.2.2.2.1, fun k hk => h.2.2.2.2 k (Nat.lt_of_lt_of_le hk hs) fun hm => by have := hB k hm; omega⟩
end Go.Proofs.YtagmnlmfoanelaaGreat
