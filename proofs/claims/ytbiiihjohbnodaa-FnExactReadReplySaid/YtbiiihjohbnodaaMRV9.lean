/-
  Texts of the proof.
-/
import Derived.Test.YtbiiihjohbnodaaMRV8
set_option maxRecDepth 100000
set_option maxHeartbeats 25600000
namespace Go.Proofs.Ytbiiihjohbnodaa
open Go.RowKit Der
set_option linter.unusedVariables false
theorem same_trans : ∀ (n m k : Nat) (x : It n) (y : It m) (z : It k), sameI n m x y = true -> sameI m k y z = true -> sameI n k x z = true
 | 0, _, _, _, _, _, h, _ => by simp [sameI] at h
 | _ + 1, 0, _, _, _, _, h, _ => by simp [sameI] at h
 | _ + 1, _ + 1, 0, _, _, _, _, h => by simp [sameI] at h
 | n + 1, m + 1, k + 1, x, y, z, h, h' => by
  obtain ⟨h1, h2, h3, h4⟩ := same_parts h
  obtain ⟨g1, g2, g3, g4⟩ := same_parts h'
  show (decide (It.tag x = It.tag z) && decide (It.text x = It.text z) && decide ((It.kids x).length = (It.kids z).length) && ((It.kids x).zip (It.kids z)).all fun p => sameI n k p.1 p.2) = true
  rw [h1, g1, h2, g2, h3, g3, same_all (h3.trans g3) fun j a b => ?_]
  ·simp
  ·refine same_trans n m k _ ((It.kids y)[j]'(by omega)) _ (h4 ((It.kids x)[j], (It.kids y)[j]'(by omega)) ?_) (g4 ((It.kids y)[j]'(by omega), (It.kids z)[j]) ?_)
   ·rw [List.mem_iff_getElem]
    exact ⟨j, by rw [List.length_zip]; omega, by simp⟩
   ·rw [List.mem_iff_getElem]
    exact ⟨j, by rw [List.length_zip]; omega, by simp⟩
theorem same_written {n m : Nat} {x : It n} {y : It m} {t : List UInt8} (hx : writeI n x = some t) (hy : writeI m y = some t) : sameI n m x y = true := by
 obtain ⟨a, h1, h2⟩ := read_back hx
 obtain ⟨b, h3, h4⟩ := read_back hy
 rw [h2] at h4
 injection h4 with h4
 subst h4
 exact same_trans n 7 m x a y h1 (same_comm m 7 y a h3)
def baL (s : List UInt8) : ByteArray := ⟨s.toArray⟩
theorem baL_back (s : ByteArray) : baL s.data.toList = s := by
 obtain ⟨d⟩ := s
 obtain ⟨l⟩ := d
 rfl
def nextP {k : Nat} (tag : Int) : List (It (k + 1)) -> Option (It (k + 1) × List (It (k + 1)))
 | [] => none
 | y :: r => if It.tag y = tag then some (y, r) else none
def numP {k : Nat} (ks : List (It (k + 1))) : Option (Int × List (It (k + 1))) :=
 match nextP 2 ks with
 | none => none
 | some (y, r) => match inI (k + 1) y with
  | none => none
  | some v => some ((v : Int), r)
def txtP {k : Nat} (tag : Int) (ks : List (It (k + 1))) : Option (ByteArray × List (It (k + 1))) :=
 match nextP tag ks with
 | none => none
 | some (y, r) => some (baL (It.text y), r)
def lstP {k : Nat} (ks : List (It (k + 1))) : Option (List (It k) × List (It (k + 1))) :=
 match nextP 48 ks with
 | none => none
 | some (y, r) => some (It.kids y, r)
def endP {α : Type} (ks : List α) : Option Unit := if ks = [] then some () else none
def numI {k : Nat} (y : It (k + 1)) : Int := ((inI (k + 1) y).getD 0 : Nat)
theorem next_some {k : Nat} {tag : Int} {ks : List (It (k + 1))} {y : It (k + 1)} {r : List (It (k + 1))} (h : nextP tag ks = some (y, r)) : ks = y :: r /\ It.tag y = tag := by
 cases ks with
 | nil => cases h
 | cons a l =>
  change (if It.tag a = tag then some (a, l) else none) = some (y, r) at h
  by_cases ht : It.tag a = tag
  ·rw [if_pos ht] at h
   injection h with h
   injection h with h1 h2
   subst h1 h2
   exact ⟨rfl, ht⟩
  ·rw [if_neg ht] at h
   cases h
theorem num_some {k : Nat} {ks : List (It (k + 1))} {p : Int × List (It (k + 1))} (h : numP ks = some p) : ∃ y n, ks = y :: p.2 /\ It.tag y = 2 /\ inI (k + 1) y = some n /\ p.1 = (n : Int) := by
 unfold numP at h
 split at h
 ·cases h
 ·next y r hn =>
  obtain ⟨h1, h2⟩ := next_some hn
  split at h
  ·cases h
  ·next v hv =>
   simp only [Option.some.injEq] at h
   subst h
   exact ⟨y, v, h1, h2, hv, rfl⟩
theorem txt_some {k : Nat} {tag : Int} {ks : List (It (k + 1))} {p : ByteArray × List (It (k + 1))} (h : txtP tag ks = some p) : ∃ y, ks = y :: p.2 /\ It.tag y = tag /\ p.1 = baL (It.text y) := by
 unfold txtP at h
 split at h
 ·cases h
 ·next y r hn =>
  obtain ⟨h1, h2⟩ := next_some hn
  simp only [Option.some.injEq] at h
  subst h
  exact ⟨y, h1, h2, rfl⟩
theorem lst_some {k : Nat} {ks : List (It (k + 1))} {p : List (It k) × List (It (k + 1))} (h : lstP ks = some p) : ∃ y, ks = y :: p.2 /\ It.tag y = 48 /\ p.1 = It.kids y := by
 unfold lstP at h
 split at h
 ·cases h
 ·next y r hn =>
  obtain ⟨h1, h2⟩ := next_some hn
  simp only [Option.some.injEq] at h
  subst h
  exact ⟨y, h1, h2, rfl⟩
theorem end_some {α : Type} {ks : List α} {p : Unit} (h : endP ks = some p) : ks = [] := by
 unfold endP at h
 split at h
 ·assumption
 ·cases h
theorem same_of {n m : Nat} {x : It (n + 1)} {y : It (m + 1)} (h1 : It.tag x = It.tag y) (h2 : It.text x = It.text y) (h3 : (It.kids x).length = (It.kids y).length) (h4 : ∀ j (h1 : j < (It.kids x).length) (h2 : j < (It.kids y).length), sameI n m (It.kids x)[j] (It.kids y)[j] = true) : sameI (n + 1) (m + 1) x y = true := by
 unfold sameI
 rw [h1, h2, h3, same_all h3 h4]
 simp
theorem right_leaf {n d : Nat} {y : It (n + 1)} (h : rightI (n + 1) y d = true) (ht : It.tag y ≠ 48) : It.kids y = [] /\ plainOk (It.tag y) (It.text y) = true := by
 unfold rightI at h
 rw [if_pos ht, Bool.and_eq_true] at h
 exact ⟨List.eq_nil_of_length_eq_zero (of_decide_eq_true h.1), h.2⟩
theorem right_list {n d : Nat} {y : It (n + 1)} (h : rightI (n + 1) y d = true) (ht : It.tag y = 48) : It.text y = [] /\ ∀ z ∈ It.kids y, rightI n z (d + 1) = true := by
 unfold rightI at h
 rw [if_neg (by simp [ht])] at h
 simp only [Bool.and_eq_true, List.all_eq_true] at h
 exact ⟨List.eq_nil_of_length_eq_zero (of_decide_eq_true h.1.1.1), h.2⟩
theorem in_some {n : Nat} {y : It (n + 1)} {v : Nat} (h : inI (n + 1) y = some v) : It.tag y = 2 /\ It.kids y = [] /\ It.text y = intT v /\ v <= 1000000000 := by
 change (if It.tag y = 2 /\ rightI (n + 1) y 0 = true /\ valB8 (It.text y) <= 1000000000 then some (valB8 (It.text y)) else none) = some v at h
 by_cases hc : It.tag y = 2 /\ rightI (n + 1) y 0 = true /\ valB8 (It.text y) <= 1000000000
 ·rw [if_pos hc] at h
  injection h with h
  obtain ⟨h1, h2⟩ := right_leaf hc.2.1 (by rw [hc.1]; decide)
  rw [hc.1] at h2
  exact ⟨hc.1, h1, by rw [<- h]; exact (intT_back h2).symm, by rw [<- h]; exact hc.2.2⟩
 ·rw [if_neg hc] at h
  cases h
theorem numN_nat {v : Nat} (h : v <= 1000000000) : numN (v : Int) = v := by unfold numN; rw [if_pos ⟨by omega, by omega⟩]; rfl
theorem leaf_int {n m : Nat} {y : It (n + 1)} {v : Nat} (h : inI (n + 1) y = some v) : sameI (n + 1) (m + 1) y (intI (v : Int)) = true := by
 obtain ⟨h1, h2, h3, h4⟩ := in_some h
 refine same_of h1 ?_ (by rw [h2]; rfl) fun j a => absurd a (by rw [h2]; exact Nat.not_lt_zero _)
 rw [h3]
 show intT v = intT (numN v)
 rw [numN_nat h4]
theorem leaf_byt {n m d : Nat} {y : It (n + 1)} (h : rightI (n + 1) y d = true) (ht : It.tag y = 4) : sameI (n + 1) (m + 1) y (bytJ (baL (It.text y))) = true := by
 obtain ⟨h1, h2⟩ := right_leaf h (by rw [ht]; decide)
 exact same_of ht rfl (by rw [h1]; rfl) fun j a => absurd a (by rw [h1]; exact Nat.not_lt_zero _)
theorem same_lst {n m : Nat} {x : It (n + 1)} {ks : List (It n)} {ls : List (It m)} (ht : It.tag x = 48) (hs : It.text x = []) (hk : It.kids x = ks) (h : ks.length = ls.length /\ ((ks.zip ls).all fun p => sameI n m p.1 p.2) = true) : sameI (n + 1) (m + 1) x (lstJ ls) = true := by
 unfold sameI
 have e1 : It.tag (lstJ ls) = 48 := rfl
 have e2 : It.text (lstJ ls) = [] := rfl
 have e3 : It.kids (lstJ ls) = ls := rfl
 rw [ht, hs, hk, e1, e2, e3, h.1, h.2]
 simp
theorem in_same {n m : Nat} {y : It (n + 1)} {v : Int} (h : sameI (n + 1) (m + 1) y (intI v) = true) (h0 : 0 <= v) (h1 : v <= 1000000000) : It.tag y = 2 /\ inI (n + 1) y = some v.toNat /\ numI y = v := by
 obtain ⟨e1, e2, e3, _⟩ := same_parts h
 have e1' : It.tag y = 2 := e1
 have e2' : It.text y = intT (numN v) := e2
 have hv : numN v = v.toNat := by unfold numN; rw [if_pos ⟨h0, h1⟩]
 have hr : rightI (n + 1) y 0 = true := by
  unfold rightI
  rw [if_pos (by rw [e1']; decide), e1', e2', intT_ok (numN_le v)]
  have : (It.kids y).length = 0 := e3
  simp [this]
 have hi : inI (n + 1) y = some v.toNat := by
  show (if It.tag y = 2 /\ rightI (n + 1) y 0 = true /\ valB8 (It.text y) <= 1000000000 then some (valB8 (It.text y)) else none) = some v.toNat
  rw [e2', intT_val (numN_le v), if_pos ⟨e1', hr, numN_le v⟩, hv]
 refine ⟨e1', hi, ?_⟩
 unfold numI
 rw [hi]
 show ((v.toNat : Nat) : Int) = v
 omega
theorem byt_same {n m : Nat} {y : It (n + 1)} {s : ByteArray} (h : sameI (n + 1) (m + 1) y (bytJ s) = true) : It.tag y = 4 /\ baL (It.text y) = s := by
 obtain ⟨e1, e2, _, _⟩ := same_parts h
 exact ⟨e1, by rw [e2]; exact baL_back s⟩
theorem list_two {α : Type} {l : List α} (h : l.length = 2) : ∃ a b, l = [a, b] := by
 match l, h with
 | [a, b], _ => exact ⟨a, b, rfl⟩
theorem inB_of {n lo hi : Int} (h : inB n lo hi = true) : lo <= n /\ n <= hi := of_decide_eq_true h
theorem write_same {n m : Nat} {x : It n} {y : It m} (h : sameI n m x y = true) : writeI n x = writeI m y := by
 unfold writeI
 rw [same_right n m x y 0 h, same_txt n m x y h]
end Go.Proofs.Ytbiiihjohbnodaa
namespace Go.Proofs.Ytbiiihjohbnodaa
open Go.RowKit
set_option linter.unusedVariables false
def marksT (k n : Nat) : List ByteArray := (List.range n).map fun i : Nat => (⟨(mt (k + i)).toArray⟩ : ByteArray)
theorem marksT_len (k n : Nat) : (marksT k n).length = n := by simp [marksT]
theorem marksT_at {k n j : Nat} (h : j < n) : (marksT k n).getD j ByteArray.empty = ⟨(mt (k + j)).toArray⟩ := by simp [marksT, List.getD, h]
theorem getT_set {l : List ByteArray} {k j : Nat} (x : ByteArray) (hk : k < l.length) : (l.set k x).getD j ByteArray.empty = if j = k then x else l.getD j ByteArray.empty := by
 simp only [List.getD_eq_getElem?_getD, List.getElem?_set]
 by_cases e : k = j
 ·subst e; simp [hk]
 ·rw [if_neg e, if_neg (fun h => e h.symm)]
theorem extT_getD {a b : List ByteArray} (hl : a.length = b.length) (h : ∀ j, j < a.length -> a.getD j ByteArray.empty = b.getD j ByteArray.empty) : a = b := by
 apply List.ext_getElem hl
 intro j h1 h2
 have := h j h1
 simpa [List.getD, h1, h2] using this
theorem grown_below {a b : World} {row : Option Nat} (h : Below a.heap.size a b) : a.grownBy b row := ⟨h.os, h.tape, h.output, h.size, fun k hk _ => h.block k hk⟩
theorem markT_any (v : Value) (l : List ByteArray) (k base : Nat) (w : World) (hl : l.length <= 1000000000) (hk1 : 1 <= k) (hk : k <= 1000000000) (hv : OwnT w base v l) :
  Calls Try.prog 59 #[v, .int .i64 k] w fun e w' => e = .returned (.int .i64 ((k : Int) + (l.length : Int))) /\ OwnT w' base v (marksT k l.length) /\ w.grownBy w' v.ownBlock := by
 obtain ⟨n, hn⟩ := zE (l.length)
 have HN : Hid (l.length = n) := hn
 obtain ⟨ao, cap, hva, hc⟩ : ∃ ao cap, v = .slice ao l.length cap /\ (0 < l.length -> ∃ g, ao = some ⟨g, 0, none⟩) := by
  rcases hv.2 with ⟨h1, h0⟩ | ⟨g, cap, cur, hv, _⟩
  ·exact ⟨none, 0, by rw [h1, h0], fun h => by omega⟩
  ·exact ⟨some ⟨g, 0, none⟩, cap, hv, fun _ => ⟨g, rfl⟩⟩
 subst hva
 rw [hn] at hc hl
 have hv' : OwnT w base (.slice ao n cap) l := hn ▸ hv
 rw [hn]
 have HV : Hid (OwnT w base (.slice ao n cap) l) := hv'
 have HC : Hid (0 < n -> ∃ g, ao = some ⟨g, 0, none⟩) := hc
 clear hv hv' hc hn
 go_enter Try.func59, Try.ntmps59
 go_wp2
 go_loopw [1, 5] (fun kv iv wr => ∃ (j : Nat) (L : List ByteArray), j <= n /\ kv = .int .i64 ((k : Int) + (j : Int)) /\ iv = .int .i64 j /\ Hid (L.length = n /\ (∀ i, i < j -> L.getD i ByteArray.empty = ⟨(mt (k + i)).toArray⟩) /\ OwnT wr base (.slice ao n cap) L /\ w.grownBy wr (Value.slice ao n cap).ownBlock)) (fun _ iv _ => n - (intOf iv).toNat)
 case atStart => exact ⟨0, l, Nat.zero_le _, by simp, rfl, HN.out, fun i hi => by omega, HV.out, World.grownBy.refl _ _⟩
 case round =>
  obtain ⟨j, L, hj, rfl, rfl, H⟩ := hrel
  by_cases hlt : j < n
  ·obtain ⟨g, hao⟩ := HC.out (by omega)
   subst hao
   have hL := H.out.1
   have hO : OwnT wr base (.slice (some ⟨g, 0, none⟩) L.length cap) L := by rw [hL]; exact H.out.2.2.1
   have hu := hO.cell (j := j) (by omega)
   have hf := hO.frozen j
   have hgl : g < wr.heap.size := (World.ownsRow.lt hO g rfl).2
   have HX : Hid (∀ w1, Below wr.heap.size wr w1 -> (L.set j ⟨(mt (k + j)).toArray⟩).length = n /\ (∀ i, i < j + 1 -> (L.set j ⟨(mt (k + j)).toArray⟩).getD i ByteArray.empty = ⟨(mt (k + i)).toArray⟩) /\ OwnT (w1.setCell ⟨g, j, none⟩ (.string ⟨(mt (k + j)).toArray⟩)) base (.slice (some ⟨g, 0, none⟩) n cap) (L.set j ⟨(mt (k + j)).toArray⟩) /\ w.grownBy (w1.setCell ⟨g, j, none⟩ (.string ⟨(mt (k + j)).toArray⟩)) (Value.slice (some ⟨g, 0, none⟩) n cap).ownBlock) := by
    intro w1 hb1
    refine ⟨by simp [hL], fun i hi => ?_, ?_, grown_trans H.out.2.2.2 (grown_trans (grown_below hb1) (grown_set w1 g j _))⟩
    ·rw [getT_set _ (by omega)]
     by_cases e : i = j
     ·rw [if_pos e, e]
     ·rw [if_neg e]; exact H.out.2.1 i (by omega)
    ·have h := (hO.stays hb1).set j ⟨(mt (k + j)).toArray⟩
     rw [List.length_set, hL] at h
     exact h
   clear H hO hL
   generalize L.getD j ByteArray.empty = z at *
   have hji : (j : Int) < (n : Int) := by omega
   have hj0 : (0 : Int) <= (j : Int) := by omega
   have e : ((k : Int) + (j : Int)).toNat = k + j := by omega
   go_wp2_with (go_at_call 98; refine (markText_int _ _ ?_ ?_).mono ?_; omega; omega; rintro e w1 ⟨rfl, hb1⟩; have hu1 := (hb1.cell (p := ⟨g, j, none⟩) hgl).trans hu; have hf1 := (hb1.frozen (p := ⟨g, j, none⟩) hgl).trans hf)
   have HX1 := HX.out w1 hb1
   go_roundw
   case rel => exact ⟨j + 1, L.set j ⟨(mt (k + j)).toArray⟩, by omega, by go_num, by go_num, by first | exact HX1 | (rw [e]; exact HX1)⟩
   case measure => simp [intOf]; omega
  ·have hjn : j = n := by omega
   subst hjn
   have HE : Hid (L = marksT k j) := extT_getD (by rw [H.out.1, marksT_len]) (fun i hi => by
    rw [H.out.1] at hi
    rw [H.out.2.1 i hi, marksT_at hi])
   go_wp2
   go_ret
   exact ⟨rfl, by rw [<- HE.out]; exact H.out.2.2.1, H.out.2.2.2⟩
theorem heldT_same (v : Value) (n k : Nat) (w : World) (hn : n <= 1000000000) (hk1 : 1 <= k) (hk : k <= 1000000000) (hv : TxtAt w v (marksT k n)) :
  Calls Try.prog 60 #[v, .int .i64 k] w fun e w' => e = .returned (.int .i64 ((k : Int) + (n : Int))) /\ Below w.heap.size w w' := by
 obtain ⟨ao, cap, rfl, hc⟩ := hv
 rw [marksT_len]
 have HC : Hid (∀ j, j < n -> ∃ g, ao = some ⟨g, 0, none⟩ /\ g < w.heap.size /\ w.cell? ⟨g, j, none⟩ = some (.string ⟨(mt (k + j)).toArray⟩)) := fun j h => by
  obtain ⟨g, hg, hl, hcs⟩ := hc j (by rw [marksT_len]; exact h)
  rw [marksT_at h] at hcs
  exact ⟨g, hg, hl, hcs⟩
 clear hc
 go_enter Try.func60, Try.ntmps60
 go_wp2
 go_loopw [1, 5] (fun kv iv wr => ∃ j : Nat, j <= n /\ kv = .int .i64 ((k : Int) + (j : Int)) /\ iv = .int .i64 j /\ Below w.heap.size w wr) (fun _ iv _ => n - (intOf iv).toNat)
 case atStart => exact ⟨0, Nat.zero_le _, by simp, rfl, Below.refl _ _⟩
 case round =>
  obtain ⟨j, hj, rfl, rfl, hbel⟩ := hrel
  have hsz := hbel.size
  by_cases hlt : j < n
  ·obtain ⟨g, hao, hgl, hcs⟩ := HC.out j hlt
   subst hao
   have hu : wr.cell? ⟨g, j, none⟩ = some (.string ⟨(mt (k + j)).toArray⟩) := (hbel.cell (p := ⟨g, j, none⟩) hgl).trans hcs
   have hgr : g < wr.heap.size := by omega
   have hji : (j : Int) < (n : Int) := by omega
   have hj0 : (0 : Int) <= (j : Int) := by omega
   clear hcs
   have he : ((k : Int) + (j : Int)).toNat = k + j := by omega
   go_wp2_with fail
   go_region_held3 (fun w' => w'.cell? ⟨g, j, none⟩ = some (.string ⟨(mt (k + j)).toArray⟩)) (first | go_keep | exact (hb1.cell (p := ⟨g, j, none⟩) hgr).trans hu) ((go_at_call 98; refine (markText_int _ _ ?_ ?_).mono ?_; omega; omega; rintro e w1 ⟨rfl, hb1⟩))
   all_goals
    have hb2 : Below w.heap.size w w1 := hbel.drew.trans (hb1.mono hsz)
    go_wp2
    go_roundw
    case rel => exact ⟨j + 1, by omega, by go_num, by go_num, hb2⟩
    case measure => simp [intOf]; omega
  ·have hjn : j = n := by omega
   subst hjn
   go_wp2
   go_ret
   exact ⟨rfl, hbel⟩
end Go.Proofs.Ytbiiihjohbnodaa
