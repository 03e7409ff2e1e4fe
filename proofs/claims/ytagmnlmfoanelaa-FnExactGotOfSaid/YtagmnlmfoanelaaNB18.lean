/-
  Texts of the proof.
-/
import Derived.Test.YtagmnlmfoanelaaNB17
set_option maxRecDepth 100000
set_option maxHeartbeats 25600000
namespace Go.Proofs.Ytagmnlmfoanelaa
open Go.RowKit
set_option linter.unusedVariables false
set_option linter.unusedSimpArgs false
theorem heldT_sameO (v : Value) (n k : Nat) (w : World) (hn : n <= 1000000000) (hk1 : 1 <= k) (hk : k <= 1000000000) (hv : TxtO w v (marksT k n)) :
  Calls Try.prog 52 #[v, .int .i64 k] w fun e w' => e = .returned (.int .i64 ((k : Int) + (n : Int))) /\ Below w.heap.size w w' := by
 obtain ⟨ao, cap, rfl, hc⟩ := hv
 rw [marksT_len]
 have HC : Hid (∀ j, j < n -> ∃ g o, ao = some ⟨g, o, none⟩ /\ g < w.heap.size /\ w.cell? ⟨g, o + j, none⟩ = some (.string ⟨(mt (k + j)).toArray⟩)) := fun j h => by
  obtain ⟨g, o, hg, hl, hcs⟩ := hc j (by rw [marksT_len]; exact h)
  rw [marksT_at h] at hcs
  exact ⟨g, o, hg, hl, hcs⟩
 clear hc
 go_enter Try.func52, Try.ntmps52
 go_wp2
 go_loopw [1, 5] (fun kv iv wr => ∃ j : Nat, j <= n /\ kv = .int .i64 ((k : Int) + (j : Int)) /\ iv = .int .i64 j /\ Below w.heap.size w wr) (fun _ iv _ => n - (intOf iv).toNat)
 case atStart => exact ⟨0, Nat.zero_le _, by simp, rfl, Below.refl _ _⟩
 case round =>
  obtain ⟨j, hj, rfl, rfl, hbel⟩ := hrel
  have hsz := hbel.size
  by_cases hlt : j < n
  ·obtain ⟨g, o, hao, hgl, hcs⟩ := HC.out j hlt
   subst hao
   have hu : wr.cell? ⟨g, o + j, none⟩ = some (.string ⟨(mt (k + j)).toArray⟩) := (hbel.cell (p := ⟨g, o + j, none⟩) hgl).trans hcs
   have hgr : g < wr.heap.size := by omega
   have hji : (j : Int) < (n : Int) := by omega
   have hj0 : (0 : Int) <= (j : Int) := by omega
   clear hcs
   have he : ((k : Int) + (j : Int)).toNat = k + j := by omega
   go_wp2_with fail
   go_region_held3 (fun w' => w'.cell? ⟨g, o + j, none⟩ = some (.string ⟨(mt (k + j)).toArray⟩)) (first | go_keep | exact (hb1.cell (p := ⟨g, o + j, none⟩) hgr).trans hu) ((go_at_call 42; refine (markText_int _ _ ?_ ?_).mono ?_; omega; omega; rintro e w1 ⟨rfl, hb1⟩))
   all_goals
    have hb2 : Below w.heap.size w w1 := hbel.drew.trans (hb1.mono hsz)
    go_wp2
    go_roundw
    case rel => exact ⟨j + 1, by omega, by go_num, by go_num, hb2⟩
    case measure => simp [intOf]; omega
  ·have hjn : j = n := by omega
   subst hjn
   go_wp2
   go_ret
   exact ⟨rfl, hbel⟩
theorem heldAnswerS_sameO (l : List Aw) (v : Value) (k : Nat) (w : World) (hl : wtAS l <= 1048577) (hk1 : 1 <= k) (hk : k <= 100000000) (ha : AtS awWd w v (mkG mkW szW k l)) :
  Calls Try.prog 38 #[v, .int .i64 k] w fun e w' => e = .returned (.int .i64 ((posG szW k l l.length : Nat) : Int)) /\ Below w.heap.size w w' := by
 obtain ⟨ao, cap, hv⟩ := ha.shape
 obtain ⟨n, hn⟩ := zE (l.length)
 rw [mkG_len, hn] at hv
 subst hv
 obtain ⟨KK, hKK⟩ : ∃ q : Nat, posG szW k l l.length = q := ⟨_, rfl⟩
 rw [hKK]
 have HA : Hid (AtS awWd w (.slice ao n cap) (mkG mkW szW k l) /\ l.length = n /\ wtAS l <= 1048577 /\ posG szW k l l.length = KK) := ⟨ha, hn, hl, hKK⟩
 have hn20 : n <= 1048577 := by unfold wtAS at hl; omega
 clear ha hn hl hKK
 go_enter Try.func38, Try.ntmps38
 go_wp2_with fail
 go_loopw [1, 5] (fun kv iv wr => ∃ j q : Nat, j <= n /\ iv = .int .i64 j /\ kv = .int .i64 q /\ (1 <= q /\ q <= 200000000) /\ Hid (q = posG szW k l j /\ Below w.heap.size w wr)) (fun _ iv _ => n - (intOf iv).toNat)
 case atStart => exact ⟨0, k, Nat.zero_le _, rfl, rfl, ⟨hk1, by omega⟩, by simp [posG], Below.refl _ _⟩
 case round =>
  obtain ⟨j, q, hj, rfl, rfl, ⟨hq1, hq2⟩, H⟩ := hrel
  by_cases hjn : j < n
  ·have hjl : j < l.length := by rw [HA.out.2.1]; exact hjn
   have hjm : j < (mkG mkW szW k l).length := by rw [mkG_len]; exact hjl
   obtain ⟨g, off, u, hao, hgB, hPu, hus, hcell⟩ := HA.out.1.get hjm
   rw [mkG_get mkW szW l k j hjl hjm, <- H.out.1] at hPu
   obtain ⟨c, hc⟩ := zE (l[j])
   rw [hc] at hPu
   obtain ⟨lp, hlp⟩ := zE (c.path.length)
   obtain ⟨le, hle⟩ := zE (c.lst.length)
   obtain ⟨p, e, hup, h1, h2⟩ := hPu
   change TxtO w p (marksT (q + 2) c.path.length) at h1
   change TxtO w e (marksT (q + 2 + c.path.length) c.lst.length) at h2
   rw [hlp] at h1 h2
   rw [hle] at h2
   obtain ⟨pa, pc, hp, -⟩ := id h1
   obtain ⟨ea, ec, he, -⟩ := id h2
   rw [marksT_len] at hp he
   subst hp he hao
   have HC : Hid (∀ (W : World), Below w.heap.size w W -> ∀ i x, (Value.agg #[.int .i64 (q : Int), .int .i64 ((q : Int) + 1), .slice pa lp pc, .slice ea le ec]).cells[i]? = some x -> W.cell? ⟨g, off + j * 4 + i, none⟩ = some x) := fun W hb i x hx => by
    refine (hb.cell (p := ⟨g, off + j * 4 + i, none⟩) hgB).trans (hcell i x ?_)
    rw [hup]
    unfold mkW awV
    exact hx
   have HRV : Hid (TxtO w (.slice pa lp pc) (marksT (q + 2) lp) /\ TxtO w (.slice ea le ec) (marksT (q + 2 + lp) le)) := ⟨h1, h2⟩
   have HQ : Hid (posG szW k l (j + 1) = q + (2 + lp + le)) := by show _ = _; rw [posG_next szW hjl, hc, <- H.out.1]; unfold szW; rw [hlp, hle]
   have hqb : q + (2 + lp + le) <= 120000000 := by
    have h1 := posG_le szW k l (j + 1)
    have h2 := sum_szW l
    have h3 := HQ.out
    have h4 := HA.out.2.2.1
    omega
   have HB : Hid (Below w.heap.size w wr) := H.out.2
   clear H hus hcell hup h1 h2 hc hlp hle hgB hjm
   have hki : (j : Int) < (n : Int) := by omega
   have hk0 : (0 : Int) <= (j : Int) := by omega
   have c0 : wr.cell? ⟨g, off + j * 4, none⟩ = some (.int .i64 (q : Int)) := HC.out wr HB.out 0 _ rfl
   have c1 : wr.cell? ⟨g, off + j * 4 + 1, none⟩ = some (.int .i64 ((q : Int) + 1)) := HC.out wr HB.out 1 _ rfl
   have c2 : wr.cell? ⟨g, off + j * 4 + 2, none⟩ = some (.slice pa lp pc) := HC.out wr HB.out 2 _ rfl
   have E5 := heldT_sameO (.slice pa lp pc) lp (q + 2) wr (by omega) (by omega) (by omega) (HRV.out.1.below HB.out)
   rw [show (((q + 2 : Nat)) : Int) = (q : Int) + 1 + 1 from by omega] at E5
   go_wp2_with fail
   clear c0 c1 c2
   refine E5.mono ?_
   rintro e w6 ⟨rfl, hb4⟩
   have HBn : Hid (Below w.heap.size w w6) := HB.out.trans (hb4.mono HB.out.size)
   clear HB hb4 E5
   have HB := HBn
   clear HBn
   have hneg : ¬ ((q : Int) + 1 + 1 + (lp : Int)) < 0 := by omega
   have c3 : w6.cell? ⟨g, off + j * 4 + 3, none⟩ = some (.slice ea le ec) := HC.out w6 HB.out 3 _ rfl
   have E5 := heldT_sameO (.slice ea le ec) le (q + 2 + lp) w6 (by omega) (by omega) (by omega) (HRV.out.2.below HB.out)
   rw [show (((q + 2 + lp : Nat)) : Int) = (q : Int) + 1 + 1 + (lp : Int) from by omega] at E5
   go_wp2_with fail
   clear c3 hneg
   refine E5.mono ?_
   rintro e w7 ⟨rfl, hb4⟩
   have HBn : Hid (Below w.heap.size w w7) := HB.out.trans (hb4.mono HB.out.size)
   clear HB hb4 E5
   have HB := HBn
   clear HBn
   have hneg : ¬ ((q : Int) + 1 + 1 + (lp : Int) + (le : Int)) < 0 := by omega
   go_wp2_with fail
   go_roundw
   case rel => exact ⟨j + 1, q + (2 + lp + le), by omega, by go_num, by go_num, ⟨by omega, by omega⟩, HQ.out.symm, HB.out⟩
   case measure => simp [intOf]; omega
  ·have hjl : n = j := by omega
   subst hjl
   have HE : Hid (q = KK) := by
    show q = KK
    rw [<- HA.out.2.2.2, HA.out.2.1]
    exact H.out.1
   go_wp2
   go_ret
   exact ⟨by rw [HE.out]; rfl, H.out.2⟩
end Go.Proofs.Ytagmnlmfoanelaa
namespace Go.Proofs.Ytagmnlmfoanelaa
open Go.RowKit
set_option linter.unusedVariables false
def mkRp (k : Nat) (c : Rp) : Rp := { c with ans := mkG mkW szW k c.ans }
def posR (k : Nat) (c : Rp) : Nat := posG szW k c.ans c.ans.length
theorem posR_le {k : Nat} {c : Rp} : posR k c <= k + 2 * wtAS c.ans := by
 have h1 := posG_le szW k c.ans c.ans.length
 have h2 := sum_szW c.ans
 unfold posR
 omega
theorem markReply_out (c : Rp) (v : Value) (k base : Nat) (fp : List Nat) (w : World) (hl : wtAS c.ans <= 1048577) (hk1 : 1 <= k) (hk : k <= 100000000) (ha : OwnRp w base v c fp) :
  Calls Try.prog 15 #[v, .int .i64 k] w fun e w' => e = .returned (.int .i64 ((posR k c : Nat) : Int)) /\ OwnRp w' base v (mkRp k c) fp /\ Out fp w w' := by
 obtain ⟨p, rfl, h1⟩ := ha
 obtain ⟨ap, cp, hp⟩ := h1.at.shape
 obtain ⟨lp, hlp⟩ := zE (c.ans.length)
 rw [hlp] at hp
 subst hp
 obtain ⟨KK, hKK⟩ : ∃ q : Nat, posR k c = q := ⟨_, rfl⟩
 have HA : Hid (OwnS awKd w base (.slice ap lp cp) c.ans fp /\ posG szW k c.ans c.ans.length = KK /\ wtAS c.ans <= 1048577) := ⟨h1, hKK, hl⟩
 rw [hKK]
 have hKb : KK <= 200000000 := by rw [<- hKK]; have := posR_le (k := k) (c := c); omega
 clear h1 hlp hKK hl
 unfold rpV
 go_enter Try.func15, Try.ntmps15
 go_wp2_with fail
 obtain ⟨V, hV⟩ : ∃ V, V = w.alloc (Obj.cells #[.string c.hash, .int .i64 c.nonce, .int .i64 c.time, .int .i64 c.next, .int .i64 c.plan, .int .i64 c.err, .slice ap lp cp, .string c.sig] 38) := ⟨_, rfl⟩
 rw [<- hV]
 have G : Hid (Out fp w V /\ OwnS awKd V base (.slice ap lp cp) c.ans fp) := by
  have hb : Below w.heap.size w V := by rw [hV]; exact (Below.refl _ _).alloc (Nat.le_refl _) _
  exact ⟨Out.of_below hb, HA.out.1.stays hb⟩
 clear hV
 have E0 := markAnswerS_out c.ans (.slice ap lp cp) k base fp V HA.out.2.2 hk1 hk G.out.2
 rw [HA.out.2.1] at E0
 refine E0.mono ?_
 rintro r u0 ⟨rfl, ho, hg⟩
 have G0 := zH (zJ (G.out.1.trans hg) (ho : OwnS awKd u0 base (.slice ap lp cp) (mkG mkW szW k c.ans) fp))
 clear ho hg G E0
 go_wp2_with fail
 go_ret
 exact ⟨rfl, ⟨_, rfl, G0.out.2⟩, G0.out.1⟩
end Go.Proofs.Ytagmnlmfoanelaa
namespace Go.Proofs.Ytagmnlmfoanelaa
open Go.RowKit
set_option linter.unusedVariables false
set_option linter.unusedSimpArgs false
theorem markReply_outW (c : Rp) (v : Value) (k base : Nat) (fp : List Nat) (w : World) (hl : wtAS c.ans <= 1048577) (hk1 : 1 <= k) (hk : k <= 100000000) (ha : OwnRW w base v c fp) :
  Calls Try.prog 15 #[v, .int .i64 k] w fun e w' => e = .returned (.int .i64 ((posR k c : Nat) : Int)) /\ OwnRW w' base v (mkRp k c) fp /\ Out fp w w' := by
 obtain ⟨p, rfl, h1⟩ := ha
 obtain ⟨ap, cp, hp⟩ := h1.at.shape
 obtain ⟨lp, hlp⟩ := zE (c.ans.length)
 rw [hlp] at hp
 subst hp
 obtain ⟨KK, hKK⟩ : ∃ q : Nat, posR k c = q := ⟨_, rfl⟩
 have HA : Hid (OwnS awWd w base (.slice ap lp cp) c.ans fp /\ posG szW k c.ans c.ans.length = KK /\ wtAS c.ans <= 1048577) := ⟨h1, hKK, hl⟩
 rw [hKK]
 have hKb : KK <= 200000000 := by rw [<- hKK]; have := posR_le (k := k) (c := c); omega
 clear h1 hlp hKK hl
 unfold rpV
 go_enter Try.func15, Try.ntmps15
 go_wp2_with fail
 obtain ⟨V, hV⟩ : ∃ V, V = w.alloc (Obj.cells #[.string c.hash, .int .i64 c.nonce, .int .i64 c.time, .int .i64 c.next, .int .i64 c.plan, .int .i64 c.err, .slice ap lp cp, .string c.sig] 38) := ⟨_, rfl⟩
 rw [<- hV]
 have G : Hid (Out fp w V /\ OwnS awWd V base (.slice ap lp cp) c.ans fp) := by
  have hb : Below w.heap.size w V := by rw [hV]; exact (Below.refl _ _).alloc (Nat.le_refl _) _
  exact ⟨Out.of_below hb, HA.out.1.stays hb⟩
 clear hV
 have E0 := markAnswerS_outW c.ans (.slice ap lp cp) k base fp V HA.out.2.2 hk1 hk G.out.2
 rw [HA.out.2.1] at E0
 refine E0.mono ?_
 rintro r u0 ⟨rfl, ho, hg⟩
 have G0 := zH (zJ (G.out.1.trans hg) (ho : OwnS awWd u0 base (.slice ap lp cp) (mkG mkW szW k c.ans) fp))
 clear ho hg G E0
 go_wp2_with fail
 go_ret
 exact ⟨rfl, ⟨_, rfl, G0.out.2⟩, G0.out.1⟩
theorem heldReply_sameO (c : Rp) (v : Value) (k : Nat) (w : World) (hl : wtAS c.ans <= 1048577) (hk1 : 1 <= k) (hk : k <= 100000000) (ha : RpO w v (mkRp k c)) :
  Calls Try.prog 16 #[v, .int .i64 k] w fun e w' => e = .returned (.int .i64 ((posR k c : Nat) : Int)) /\ Below w.heap.size w w' := by
 obtain ⟨p, rfl, h1⟩ := ha
 change AtS awWd w p (mkG mkW szW k c.ans) at h1
 obtain ⟨ap, cp, hp⟩ := h1.shape
 obtain ⟨lp, hlp⟩ := zE ((mkG mkW szW k c.ans).length)
 rw [hlp] at hp
 subst hp
 obtain ⟨KK, hKK⟩ : ∃ K : Int, ((posR k c : Nat) : Int) = K := ⟨_, rfl⟩
 have hK0 : ¬ KK < 0 := by omega
 have HQ : Hid (∀ W, Below w.heap.size w W -> Calls Try.prog 38 #[.slice ap lp cp, .int .i64 (k : Int)] W (fun e w' => e = .returned (.int .i64 KK) /\ Below W.heap.size W w')) := fun W hb => by rw [<- hKK]; exact heldAnswerS_sameO c.ans _ k W hl hk1 hk (h1.below hb)
 rw [hKK]
 clear h1 hlp hKK hl
 show Calls Try.prog 16 #[rpV c (.slice ap lp cp), .int .i64 k] w _
 unfold rpV
 go_enter Try.func16, Try.ntmps16
 go_wp2_with fail
 obtain ⟨V, hV⟩ : ∃ V, V = w.alloc (Obj.cells #[.string c.hash, .int .i64 c.nonce, .int .i64 c.time, .int .i64 c.next, .int .i64 c.plan, .int .i64 c.err, .slice ap lp cp, .string c.sig] 38) := ⟨_, rfl⟩
 rw [<- hV]
 have G : Hid (Below w.heap.size w V) := by rw [hV]; exact (Below.refl _ _).alloc (Nat.le_refl _) _
 clear hV
 refine (HQ.out V G.out).mono ?_
 rintro r u0 ⟨rfl, hb⟩
 have G0 : Hid (Below w.heap.size w u0) := G.out.trans (hb.mono G.out.size)
 clear hb G
 go_wp2_with fail
 go_ret
 exact ⟨rfl, G0.out⟩
end Go.Proofs.Ytagmnlmfoanelaa
