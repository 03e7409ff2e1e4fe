/-
  Texts of the proof.
-/
import Derived.WalkKit
import Derived.Laws.RangeString
import Derived.Laws.RangeAny
import Derived.Test.YtabfamhaihnccaaGreatLC7
import Derived.Test.YtabfamhaihnccaaGreatLC8
set_option linter.unusedVariables false
set_option linter.unusedSimpArgs false
set_option maxRecDepth 100000
set_option maxHeartbeats 25600000
namespace Go.Proofs.YtabfamhaihnccaaGreat
open Go.RowKit
theorem toCrl_any (c : Cl) (v : Value) (B : Nat) (w : World) (hl : c.revs.length <= 1048576) (hB : B <= w.heap.size) (ha : ArgL B w v c) :
  Calls Tryz.prog 21 #[v] w fun e w' => ∃ u, e = .returned u /\ OwnL w' w.heap.size u c /\ zW w w' := by
 obtain ⟨pa, pc, rfl, h1⟩ := ha;have HA : Hid (ArgR B w pa c.revs /\ c.revs.length <= 1048576) := ⟨h1, hl⟩;clear h1 hl;unfold clV;go_enter Tryz.func21, Tryz.ntmps21;go_wp2_with fail;obtain ⟨W3, hW3⟩ : ∃ W, W = ((w.alloc (Obj.cells (zCl c (zS pa c.revs.length pc)) 60)).alloc (Obj.cells #[zG ⟨#[]⟩, zI 0, zI 0, zI 0, zI 0, zZ, zG ⟨#[]⟩] 65)).alloc (Obj.cells #[zG c.issuer, zI c.num, zI c.ths, zI c.nxt, zI c.bas, zZ, zG ⟨#[]⟩] 65) := ⟨_, rfl⟩;change Calls _ _ _ (((w.alloc (Obj.cells (zCl c (zS pa c.revs.length pc)) 60)).alloc (Obj.cells #[zG ⟨#[]⟩, zI 0, zI 0, zI 0, zI 0, zZ, zG ⟨#[]⟩] 65)).alloc (Obj.cells #[zG c.issuer, zI c.num, zI c.ths, zI c.nxt, zI c.bas, zZ, zG ⟨#[]⟩] 65)) _;rw [<- hW3];have e0 : (w.alloc (Obj.cells (zCl c (zS pa c.revs.length pc)) 60)).heap.size = w.heap.size + 1 := Array.size_push _;have e1 : ((w.alloc (Obj.cells (zCl c (zS pa c.revs.length pc)) 60)).alloc (Obj.cells #[zG ⟨#[]⟩, zI 0, zI 0, zI 0, zI 0, zZ, zG ⟨#[]⟩] 65)).heap.size = w.heap.size + 1 + 1 := by rw [size_alloc, e0]
 have G0 : Hid ((Blk W3 w.heap.size 60 (zCl c (zS pa c.revs.length pc)) /\ Blk W3 (w.heap.size + 1) 65 #[zG ⟨#[]⟩, zI 0, zI 0, zI 0, zI 0, zZ, zG ⟨#[]⟩] /\ Blk W3 (w.heap.size + 1 + 1) 65 #[zG c.issuer, zI c.num, zI c.ths, zI c.nxt, zI c.bas, zZ, zG ⟨#[]⟩] /\ zW w W3) /\ w.heap.size + 1 + 1 + 1 <= W3.heap.size) := by
  rw [hW3];refine ⟨⟨((Blk.new w _ _).alloc _).alloc _, ?_, ?_, (((Below.refl _ _).alloc (Nat.le_refl _) _).alloc (by rw [e0]; omega) _).alloc (by rw [e1]; omega) _⟩, by rw [size_alloc, e1]; omega⟩
  ·have h := (Blk.new (w.alloc (Obj.cells (zCl c (zS pa c.revs.length pc)) 60)) 65 #[zG ⟨#[]⟩, zI 0, zI 0, zI 0, zI 0, zZ, zG ⟨#[]⟩]).alloc (Obj.cells #[zG c.issuer, zI c.num, zI c.ths, zI c.nxt, zI c.bas, zZ, zG ⟨#[]⟩] 65)
   rw [e0] at h;exact h
  ·have h := Blk.new ((w.alloc (Obj.cells (zCl c (zS pa c.revs.length pc)) 60)).alloc (Obj.cells #[zG ⟨#[]⟩, zI 0, zI 0, zI 0, zI 0, zZ, zG ⟨#[]⟩] 65)) 65 #[zG c.issuer, zI c.num, zI c.ths, zI c.nxt, zI c.bas, zZ, zG ⟨#[]⟩]
   rw [e1] at h;exact h
 clear hW3 e0 e1;have wd1 : w.heap.size ≠ w.heap.size + 1 + 1 := by omega
 have wd2 : w.heap.size + 1 ≠ w.heap.size + 1 + 1 := by omega
 refine (toRevS_any pa c.revs c.revs.length pc B W3 rfl HA.2 (Nat.le_trans hB G0.1.2.2.2.size) (HA.1.below (G0.1.2.2.2.mono hB))).mono ?_;rintro r u2 ⟨p, rfl, op, hb⟩;have F2 : Hid ((Blk u2 w.heap.size 60 (zCl c (zS pa c.revs.length pc)) /\ Blk u2 (w.heap.size + 1) 65 #[zG ⟨#[]⟩, zI 0, zI 0, zI 0, zI 0, zZ, zG ⟨#[]⟩] /\ Blk u2 (w.heap.size + 1 + 1) 65 #[zG c.issuer, zI c.num, zI c.ths, zI c.nxt, zI c.bas, zZ, zG ⟨#[]⟩] /\ zW w u2) /\ w.heap.size + 1 + 1 + 1 <= u2.heap.size /\ OwnR u2 (w.heap.size + 1 + 1 + 1) p c.revs) := by
  have hz := G0.2;exact ⟨⟨G0.1.1.below hb (by omega), G0.1.2.1.below hb (by omega), G0.1.2.2.1.below hb (by omega), G0.1.2.2.2.trans (hb.mono G0.1.2.2.2.size)⟩, Nat.le_trans hz hb.size, op.base hz⟩
 clear op hb G0;have fr := fun j => F2.1.2.2.1.free j
 have f1 := fun j => F2.1.2.1.free j
 obtain ⟨qp, mp, hsp⟩ : ∃ ao cap, p = zS ao c.revs.length cap := by obtain ⟨ao, cap, h, _⟩ := F2.2.2.at; exact ⟨ao, cap, h⟩
 obtain ⟨lp, hlp⟩ := zE (c.revs.length);rw [hlp] at hsp;clear hlp;subst hsp;have ca := fun j => F2.1.1.cell j
 have c10 := fun j => F2.1.2.1.cell j
 have c20 := fun j => F2.1.2.2.1.cell j
 have c11 := fun j => F2.1.2.1.cell j
 have c21 := fun j => F2.1.2.2.1.cell j
 have c12 := fun j => F2.1.2.1.cell j
 have c22 := fun j => F2.1.2.2.1.cell j
 have c13 := fun j => F2.1.2.1.cell j
 have c23 := fun j => F2.1.2.2.1.cell j
 have c14 := fun j => F2.1.2.1.cell j
 have c24 := fun j => F2.1.2.2.1.cell j
 have c15 := fun j => F2.1.2.1.cell j
 have c25 := fun j => F2.1.2.2.1.cell j
 have c16 := fun j => F2.1.2.1.cell j
 have c26 := fun j => F2.1.2.2.1.cell j
 go_wp2_with fail;refine bodyPost_ret (v := clV c (zS qp lp mp)) (by simp [results, Tryz.results21, go_sem, clV, c10, c11, c12, c13, c14, c15, c16]) rfl ⟨_, rfl, ⟨_, rfl, (F2.2.2.block ?far).base (by omega)⟩, ?bel⟩
 case far =>
  intro b hb
  iterate 9 rw [heap_setCell_other _ _ _ _ (by first | (show b ≠ w.heap.size + 1; omega) | (show b ≠ w.heap.size + 1 + 1; omega))]
 case bel =>
  iterate 9 refine Below.setCell ?_ (by first | (show w.heap.size <= w.heap.size + 1; omega) | (show w.heap.size <= w.heap.size + 1 + 1; omega)) _
  exact F2.1.2.2.2
theorem szCrl_any (c : Cl) (v : Value) (left : Int) (w : World) (hwd : WdL c) (h0 : 0 <= left) (hl : left <= 1048576) (ha : ArgL w.heap.size w v c) :
  Calls Tryz.prog 19 #[v, zI left] w fun e w' => e = .returned (zI (szL c left)) /\ zW w w' := by
 obtain ⟨pa, pc, rfl, h1⟩ := ha;obtain ⟨_, _, hs, hpl⟩ := hwd;have s1 : c.issuer.size <= 9223372036854775807 := hs _ (by simp);have s7 : c.sig.size <= 9223372036854775807 := hs _ (by simp);clear h1 hs;have HW : Hid ((wtL c : Int) = c.issuer.size + c.revs.length + c.sig.size) := by show (wtL c : Int) = _; unfold wtL; omega
 unfold clV;obtain ⟨r1, hr1⟩ : ∃ r : Int, r = left - (c.issuer.size : Int) := ⟨_, rfl⟩;have wr1 : IntKind.i64.wrap (left - (c.issuer.size : Int)) = r1 := by rw [IntKind.wrap_i64]; omega
 by_cases g1 : r1 < 0
 ·have HF : Hid (szL c left = -1) := by show szL c left = _; have hw := HW.out; unfold szL; rw [if_neg (by omega)]
  clear HW hr1;go_enter Tryz.func19, Tryz.ntmps19;go_wp2_with fail;go_ret;exact ⟨by rw [HF.out]; rfl, (Below.refl _ _).alloc (Nat.le_refl _) _⟩
 obtain ⟨r2, hr2⟩ : ∃ r : Int, r = if (c.revs.length : Int) <= r1 then r1 - (c.revs.length : Int) else -1 := ⟨_, rfl⟩;have Z2 : Hid (∀ W, zW w W -> Calls Tryz.prog 62 #[zS pa c.revs.length pc, zI r1] W fun e w' => e = .returned (zI r2) /\ zW W w') := fun W hb => by rw [hr2]; exact szRevS_any pa c.revs.length pc r1 W hpl (by omega) (by omega)
 by_cases g2 : r2 < 0
 ·have HF : Hid (szL c left = -1) := by show szL c left = _; have hw := HW.out; unfold szL; rw [if_neg (by split at hr2 <;> omega)]
  clear HW hr1 hr2;go_enter Tryz.func19, Tryz.ntmps19;go_wp2_with fail;obtain ⟨V, hV⟩ : ∃ V, V = w.alloc (Obj.cells (zCl c (zS pa c.revs.length pc)) 60) := ⟨_, rfl⟩;rw [<- hV];have G : Hid (Blk V w.heap.size 60 (zCl c (zS pa c.revs.length pc)) /\ zW w V) := by rw [hV]; exact ⟨Blk.new w _ _, (Below.refl _ _).alloc (Nat.le_refl _) _⟩
  have hsz : w.heap.size < V.heap.size := G.1.lt;clear hV;refine (Z2.out V G.2).mono ?_;rintro e V2 ⟨rfl, hb⟩;have G2 := zH (zJ (G.1.below hb hsz) (G.2.trans (hb.mono G.2.size)));clear hb G hsz;go_wp2_with fail;go_ret;exact ⟨by rw [HF.out]; rfl, G2.2⟩
 have hq2 : r2 = r1 - (c.revs.length : Int) := by split at hr2 <;> omega
 clear hr2;have hr2 := hq2;clear hq2;obtain ⟨r3, hr3⟩ : ∃ r : Int, r = r2 - (c.sig.size : Int) := ⟨_, rfl⟩;have wr3 : IntKind.i64.wrap (r2 - (c.sig.size : Int)) = r3 := by rw [IntKind.wrap_i64]; omega
 by_cases g3 : r3 < 0
 ·have HF : Hid (szL c left = -1) := by show szL c left = _; have hw := HW.out; unfold szL; rw [if_neg (by omega)]
  clear HW hr1 hr2 hr3;go_enter Tryz.func19, Tryz.ntmps19;go_wp2_with fail;obtain ⟨V, hV⟩ : ∃ V, V = w.alloc (Obj.cells (zCl c (zS pa c.revs.length pc)) 60) := ⟨_, rfl⟩;rw [<- hV];have G : Hid (Blk V w.heap.size 60 (zCl c (zS pa c.revs.length pc)) /\ zW w V) := by rw [hV]; exact ⟨Blk.new w _ _, (Below.refl _ _).alloc (Nat.le_refl _) _⟩
  have hsz : w.heap.size < V.heap.size := G.1.lt;clear hV;refine (Z2.out V G.2).mono ?_;rintro e V2 ⟨rfl, hb⟩;have G2 := zH (zJ (G.1.below hb hsz) (G.2.trans (hb.mono G.2.size)));clear hb G hsz;have ca := fun j => G2.1.cell j
  go_wp2_with fail;go_ret;exact ⟨by rw [HF.out]; rfl, G2.2⟩
 have HF : Hid (szL c left = r3) := by show szL c left = _; have hw := HW.out; unfold szL; rw [if_pos (by omega)]; omega
 clear HW hr1 hr2 hr3;go_enter Tryz.func19, Tryz.ntmps19;go_wp2_with fail;obtain ⟨V, hV⟩ : ∃ V, V = w.alloc (Obj.cells (zCl c (zS pa c.revs.length pc)) 60) := ⟨_, rfl⟩;rw [<- hV];have G : Hid (Blk V w.heap.size 60 (zCl c (zS pa c.revs.length pc)) /\ zW w V) := by rw [hV]; exact ⟨Blk.new w _ _, (Below.refl _ _).alloc (Nat.le_refl _) _⟩
 have hsz : w.heap.size < V.heap.size := G.1.lt;clear hV;refine (Z2.out V G.2).mono ?_;rintro e V2 ⟨rfl, hb⟩;have G2 := zH (zJ (G.1.below hb hsz) (G.2.trans (hb.mono G.2.size)));clear hb G hsz;have ca := fun j => G2.1.cell j
 go_wp2_with fail;go_ret;exact ⟨by rw [HF.out]; rfl, G2.2⟩
theorem eqCrl_same (c : Cl) (a b : Value) (w : World) (hl : c.revs.length <= 1000000000) (ha : ClAt w a c) (hb : ClAt w b c) :
  Calls Tryz.prog 23 #[a, b] w fun e w' => e = .returned (.bool true) /\ zW w w' := by
 obtain ⟨pv, rfl, h1⟩ := ha;obtain ⟨pu, rfl, k1⟩ := hb;have HQ : Hid (∀ W, zW w W -> Calls Tryz.prog 67 #[pv, pu] W (fun e w' => e = .returned (.bool true) /\ zW W w')) := fun W hb => eqRevS_same pv pu c.revs W hl (h1.below hb) (k1.below hb)
 obtain ⟨lp, hlp⟩ := zE (c.revs.length);obtain ⟨pa, pc, hpa, _⟩ := h1;obtain ⟨pb, qc, hpb, _⟩ := k1;rw [hlp] at hpa hpb;subst hpa hpb;clear hlp hl;unfold clV;go_enter Tryz.func23, Tryz.ntmps23;go_wp2_with fail;obtain ⟨V, hV⟩ : ∃ V, V = (w.alloc (Obj.cells (zCl c (zS pa lp pc)) 65)).alloc (Obj.cells (zCl c (zS pb lp qc)) 65) := ⟨_, rfl⟩;rw [<- hV];have G : Hid (Blk V w.heap.size 65 (zCl c (zS pa lp pc)) /\ Blk V (w.heap.size + 1) 65 (zCl c (zS pb lp qc)) /\ zW w V /\ w.heap.size + 1 < V.heap.size) := by
  have e0 : (w.alloc (Obj.cells (zCl c (zS pa lp pc)) 65)).heap.size = w.heap.size + 1 := Array.size_push _;have h := Blk.new (w.alloc (Obj.cells (zCl c (zS pa lp pc)) 65)) 65 (zCl c (zS pb lp qc));rw [e0] at h;rw [hV];exact ⟨(Blk.new w _ _).alloc _, h, ((Below.refl _ _).alloc (Nat.le_refl _) _).alloc (by rw [e0]; omega) _, by rw [size_alloc, e0]; omega⟩
 clear hV;refine (HQ.out V G.2.2.1).mono ?_;rintro e V2 ⟨rfl, hb⟩;have G2 := zH (zJ (G.1.below hb (by have := G.2.2.2; omega) : Blk V2 w.heap.size 65 (zCl c (zS pa lp pc))) (zJ (G.2.1.below hb G.2.2.2) (zJ (G.2.2.1.trans (hb.mono G.2.2.1.size)) (Nat.lt_of_lt_of_le G.2.2.2 hb.size))));clear hb G;have ca := fun j => G2.1.cell j
 have cb := fun j => G2.2.1.cell j
 go_wp2_with fail;go_ret;exact ⟨rfl, G2.2.2.1⟩
def mkL (k : Nat) (c : Cl) : Cl := { c with revs := marksR k c.revs.length }
def fpL (v : Value) : List Nat := match v with
 | .agg a => (a.getD 5 (.slice none 0 0)).ownBlock.toList
 | _ => []
theorem fpL_mem {c : Cl} {p : Value} {g : Nat} : g ∈ fpL (clV c p) ↔ p.ownBlock = some g := by
 show g ∈ p.ownBlock.toList ↔ _;simp [Option.mem_toList]
theorem fpL_lt {w : World} {base : Nat} {v : Value} {c : Cl} (h : OwnL w base v c) : ∀ b ∈ fpL v, base <= b /\ b < w.heap.size := by
 obtain ⟨p, rfl, h1⟩ := h;intro b hb;exact World.ownsRow.lt h1 b (fpL_mem.1 hb)
theorem OwnL.out {w w' : World} {base : Nat} {v : Value} {c : Cl} {fp : List Nat} (h : OwnL w base v c) (ho : Out fp w w') (hn : ∀ b ∈ fpL v, b ∉ fp) : OwnL w' base v c := by
 obtain ⟨p, rfl, h1⟩ := h;exact ⟨p, rfl, ho.row (fun g hg => hn g (fpL_mem.2 hg)) h1⟩
theorem markCrl_out (c : Cl) (v : Value) (k base : Nat) (w : World) (hl : c.revs.length <= 20000000) (hk : k <= 100000000) (ha : OwnL w base v c) :
  Calls Tryz.prog 24 #[v, zI k] w fun e w' => e = .returned (zI (((k + 2 * c.revs.length : Nat)) : Int)) /\ OwnL w' base v (mkL k c) /\ Out (fpL v) w w' := by
 obtain ⟨p, rfl, h1⟩ := ha;obtain ⟨ap, cp, hp⟩ : ∃ ao cap, p = zS ao c.revs.length cap := by obtain ⟨ao, cap, h, _⟩ := h1.at; exact ⟨ao, cap, h⟩
 obtain ⟨lp, hlp⟩ := zE (c.revs.length);rw [hlp] at hp;subst hp;have HB : Hid (∀ g, (Value.slice ap lp cp).ownBlock = some g -> g < w.heap.size) := fun g hg => (World.ownsRow.lt h1 g hg).2
 have HA : Hid (OwnR w base (zS ap lp cp) c.revs /\ c.revs.length = lp) := ⟨h1, hlp⟩;rw [hlp] at hl;have hm : mkL k c = { c with revs := marksR k lp } := by unfold mkL; rw [hlp]
 rw [hm, hlp];clear h1 hm hlp;unfold clV;go_enter Tryz.func24, Tryz.ntmps24;go_wp2_with fail;obtain ⟨V, hV⟩ : ∃ V, V = w.alloc (Obj.cells (zCl c (zS ap lp cp)) 65) := ⟨_, rfl⟩;rw [<- hV];have G : Hid (Out (fpL (clV c (zS ap lp cp))) w V /\ OwnR V base (zS ap lp cp) c.revs) := by
  have hb : zW w V := by rw [hV]; exact (Below.refl _ _).alloc (Nat.le_refl _) _
  exact ⟨Out.of_below hb, HA.1.stays hb⟩
 clear hV;have E0 := markR_any (zS ap lp cp) c.revs k base V (by rw [HA.2]; omega) (by omega) G.2;rw [HA.2] at E0;refine E0.mono ?_;rintro r u0 ⟨rfl, ho, hg⟩;have G0 : Hid (Out (fpL (clV c (zS ap lp cp))) w u0 /\ OwnR u0 base (zS ap lp cp) (marksR k lp)) := ⟨G.1.grown hg (fun q hq => fpL_mem.2 hq), ho⟩;clear ho hg G E0;obtain ⟨KK, hKK⟩ : ∃ K : Int, ((k + 2 * lp : Nat) : Int) = K := ⟨_, rfl⟩;rw [hKK];have HKK : Hid (((k + 2 * lp : Nat) : Int) = KK) := hKK;clear hKK;go_wp2_with fail;go_ret;exact ⟨by rw [HKK.out]; rfl, ⟨_, rfl, G0.2⟩, G0.1⟩
end Go.Proofs.YtabfamhaihnccaaGreat
namespace Go.Proofs.YtabfamhaihnccaaGreat
def nmL : List UInt8 -> Bool -> Bool
 | [], p => p
 | b :: r, p => if 97 <= b.toNat /\ b.toNat <= 122 then nmL r true else if b.toNat = 46 /\ p = true then nmL r false else false
def nameOk (s : ByteArray) : Bool := decide (s.size <= 20) && nmL s.data.toList false
theorem nm_letter {b : UInt8} (r : List UInt8) (p : Bool) (h1 : 97 <= b.toNat) (h2 : b.toNat <= 122) : nmL (b :: r) p = nmL r true := by
 show (if _ then _ else _) = _;rw [if_pos ⟨h1, h2⟩]
theorem nm_dot {b : UInt8} (r : List UInt8) (h : b.toNat = 46) : nmL (b :: r) true = nmL r false := by
 show (if _ then _ else _) = _;rw [if_neg (by omega), if_pos ⟨h, rfl⟩]
theorem nm_dots {b : UInt8} (r : List UInt8) (h : b.toNat = 46) : nmL (b :: r) false = false := by
 show (if _ then _ else _) = _;rw [if_neg (by omega), if_neg (by simp)]
theorem nm_other {b : UInt8} (r : List UInt8) (p : Bool) (h : ¬ (97 <= b.toNat /\ b.toNat <= 122)) (h2 : b.toNat ≠ 46) : nmL (b :: r) p = false := by
 show (if _ then _ else _) = _;rw [if_neg h, if_neg (fun q => h2 q.1)]
theorem drop_at (s : ByteArray) (k : Nat) (h : k < s.size) : s.data.toList.drop k = s[k] :: s.data.toList.drop (k + 1) := by
 rw [List.drop_eq_getElem_cons (by simpa using h)];rfl
theorem drop_end (s : ByteArray) (k : Nat) (h : ¬ k < s.size) : s.data.toList.drop k = [] := List.drop_eq_nil_of_le (by have e : s.data.toList.length = s.size := rfl; omega)
def ascG {α : Type} (lt : α -> α -> Bool) (d : α) (l : List α) : Bool := (List.range (l.length - 1)).all fun i => lt (l.getD i d) (l.getD (i + 1) d)
theorem asc_yes {α : Type} {lt : α -> α -> Bool} {d : α} {l : List α} (h : ∀ i, 0 < i -> i < l.length -> lt (l.getD (i - 1) d) (l.getD i d) = true) : ascG lt d l = true := by
 unfold ascG;rw [List.all_eq_true];intro i hi;rw [List.mem_range] at hi;exact h (i + 1) (by omega) (by omega)
theorem asc_no {α : Type} {lt : α -> α -> Bool} {d : α} {l : List α} (i : Nat) (h0 : 0 < i) (hi : i < l.length) (h : lt (l.getD (i - 1) d) (l.getD i d) = false) : ascG lt d l = false := by
 unfold ascG;rw [List.all_eq_false];refine ⟨i - 1, by rw [List.mem_range]; omega, ?_⟩;rw [show i - 1 + 1 = i by omega, h];simp
theorem all_yes {α : Type} {f : α -> Bool} {d : α} {l : List α} (h : ∀ i, i < l.length -> f (l.getD i d) = true) : l.all f = true := by
 rw [List.all_eq_true];intro x hx;obtain ⟨i, hi, rfl⟩ := List.getElem_of_mem hx;have := h i hi
 rwa [List.getD_eq_getElem?_getD, List.getElem?_eq_getElem hi] at this
theorem all_no {α : Type} {f : α -> Bool} {d : α} {l : List α} (i : Nat) (hi : i < l.length) (h : f (l.getD i d) = false) : l.all f = false := by
 rw [List.all_eq_false];refine ⟨l[i], List.getElem_mem hi, ?_⟩;rw [List.getD_eq_getElem?_getD, List.getElem?_eq_getElem hi] at h;simpa using h
def lsB (a b : ByteArray) : Bool := Op.bytesLess a.toList b.toList
def lsI (a b : Int) : Bool := decide (a < b)
def listOk {α : Type} (f : α -> Bool) (lt : α -> α -> Bool) (d : α) (l : List α) : Bool := decide (l.length <= 4) && l.all f && ascG lt d l
theorem ok_bad {α : Type} {f : α -> Bool} {lt : α -> α -> Bool} {d : α} {l : List α} (i : Nat) (hi : i < l.length) (h : f (l.getD i d) = false) : listOk f lt d l = false := by
 unfold listOk; rw [all_no i hi h]; simp
theorem ok_down {α : Type} {f : α -> Bool} {lt : α -> α -> Bool} {d : α} {l : List α} (i : Nat) (h0 : 0 < i) (hi : i < l.length) (h : lt (l.getD (i - 1) d) (l.getD i d) = false) : listOk f lt d l = false := by
 unfold listOk; rw [asc_no i h0 hi h]; simp
theorem ok_end {α : Type} {f : α -> Bool} {lt : α -> α -> Bool} {d : α} {l : List α} (h1 : ∀ i, i < l.length -> f (l.getD i d) = true) (h2 : ∀ i, 0 < i -> i < l.length -> lt (l.getD (i - 1) d) (l.getD i d) = true) : listOk f lt d l = decide (l.length <= 4) := by
 unfold listOk; rw [all_yes h1, asc_yes h2]; simp
theorem ok_long {α : Type} {f : α -> Bool} {lt : α -> α -> Bool} {d : α} {l : List α} (h : 4 < l.length) : listOk f lt d l = false := by
 unfold listOk; rw [decide_eq_false (by omega)]; simp
theorem ok_asc {α : Type} {f : α -> Bool} {lt : α -> α -> Bool} {d : α} {l : List α} (h1 : ∀ i, i < l.length -> f (l.getD i d) = true) (h : l.length <= 4) : listOk f lt d l = ascG lt d l := by
 unfold listOk; rw [all_yes h1, decide_eq_true h]; simp
def namesOk (l : List ByteArray) : Bool := listOk nameOk lsB ByteArray.empty l
def polIn (x : Int) : Bool := decide (0 <= x /\ x <= 99)
def polOk (l : List Int) : Bool := listOk polIn lsI 0 l
open Go.RowKit
theorem specName_any (s : ByteArray) (w : World) (hs : s.size <= 1000000000000) : Calls Tryz.prog 124 #[zG s] w fun e w' => e = .returned (.bool (nameOk s)) /\ w = w' := by
 go_enter Tryz.func124, Tryz.ntmps124
 go_wp2
 go_loopw [3, 4] (fun pv iv wr => ∃ k part : Nat, k <= s.size /\ part <= k /\ pv = zI part /\ iv = zI k /\ Hid (nmL (s.data.toList.drop k) (decide (0 < part)) = nmL s.data.toList false) /\ w = wr) (fun _ iv _ => s.size - (intOf iv).toNat)
 case atStart => exact ⟨0, 0, Nat.zero_le _, Nat.le_refl _, rfl, rfl, by show _ = _; simp, rfl⟩
 case round =>
  obtain ⟨k, part, hk, hp, rfl, rfl, HI, rfl⟩ := hrel;by_cases hlt : k < s.size
  ·have hki : (k : Int) < (s.size : Int) := by omega
   have hd := drop_at s k hlt;have hI := HI.out;rw [hd] at hI;clear HI hd;have hb := s[k].toNat_lt;by_cases hlet : 97 <= s[k].toNat /\ s[k].toNat <= 122
   ·rw [nm_letter _ _ hlet.1 hlet.2] at hI
    have HN : Hid (nmL (s.data.toList.drop (k + 1)) (decide (0 < part + 1)) = nmL s.data.toList false) := by show _ = _; rw [<- hI]; simp
    obtain ⟨h1, h2⟩ := hlet;have h1i : (97 : Int) <= (s[k].toNat : Int) := by omega
    have h2i : (s[k].toNat : Int) <= 122 := by omega
    clear hI
    go_wp2
    go_roundw
    case rel => exact ⟨k + 1, part + 1, by omega, by omega, by go_num, by go_num, HN, by first | rfl | trivial⟩
    case measure => simp [intOf]; omega
   ·by_cases hdot : s[k].toNat = 46
    ·have h1i : ¬ (97 : Int) <= (s[k].toNat : Int) := by omega
     have h46 : ((s[k].toNat : Int) == 46) = true := by simp; omega
     by_cases hp0 : 0 < part
     ·have hp0i : (0 : Int) < (part : Int) := by omega
      rw [decide_eq_true hp0, nm_dot _ hdot] at hI;have HN : Hid (nmL (s.data.toList.drop (k + 1)) (decide (0 < 0)) = nmL s.data.toList false) := by show _ = _; rw [<- hI]; simp
      clear hI
      go_wp2
      go_roundw
      case rel => exact ⟨k + 1, 0, by omega, by omega, rfl, by go_num, HN, by first | rfl | trivial⟩
      case measure => simp [intOf]; omega
     ·have hp0i : ¬ (0 : Int) < (part : Int) := by omega
      rw [decide_eq_false hp0, nm_dots _ hdot] at hI;have HF : Hid (nameOk s = false) := by show nameOk s = _; unfold nameOk; rw [<- hI]; simp
      clear hI
      go_wp2
      go_ret;exact ⟨by rw [HF.out]; rfl, rfl⟩
    ·rw [nm_other _ _ hlet hdot] at hI
     have HF : Hid (nameOk s = false) := by show nameOk s = _; unfold nameOk; rw [<- hI]; simp
     have h46 : ((s[k].toNat : Int) == 46) = false := by simp; omega
     clear hI;by_cases h1 : 97 <= s[k].toNat
     ·have h1i : (97 : Int) <= (s[k].toNat : Int) := by omega
      have h2i : ¬ (s[k].toNat : Int) <= 122 := by omega
      go_wp2
      go_ret;exact ⟨by rw [HF.out]; rfl, rfl⟩
     ·have h1i : ¬ (97 : Int) <= (s[k].toNat : Int) := by omega
      go_wp2
      go_ret;exact ⟨by rw [HF.out]; rfl, rfl⟩
  ·have hki : ¬ (k : Int) < (s.size : Int) := by omega
   have hI := HI.out;rw [drop_end s k hlt] at hI;change decide (0 < part) = _ at hI;clear HI;by_cases hin : 1 <= s.size /\ s.size <= 20
   ·have h1 : (1 : Int) <= (s.size : Int) := by omega
    have h2 : (s.size : Int) <= 20 := by omega
    by_cases hp0 : 0 < part
    ·have hp0i : (0 : Int) < (part : Int) := by omega
     have HF : Hid (nameOk s = true) := by show nameOk s = _; unfold nameOk; rw [<- hI, decide_eq_true hin.2, decide_eq_true hp0]; rfl
     clear hI;go_wp2_with (go_at_call 30; refine (in_yes _ _ _ _ h1 h2).mono ?_; rintro e w' ⟨rfl, rfl⟩);go_ret;exact ⟨by rw [HF.out]; rfl, rfl⟩
    ·have hp0i : ¬ (0 : Int) < (part : Int) := by omega
     have HF : Hid (nameOk s = false) := by show nameOk s = _; unfold nameOk; rw [<- hI, decide_eq_false hp0]; simp
     clear hI;go_wp2_with (go_at_call 30; refine (in_yes _ _ _ _ h1 h2).mono ?_; rintro e w' ⟨rfl, rfl⟩);go_ret;exact ⟨by rw [HF.out]; rfl, rfl⟩
   ·have HF : Hid (nameOk s = false) := by
     show nameOk s = _;unfold nameOk;rw [<- hI];by_cases h20 : s.size <= 20
     ·rw [decide_eq_false (show ¬ 0 < part by omega)]; simp
     ·rw [decide_eq_false h20]; simp
    have hno : (s.size : Int) < 1 ∨ (20 : Int) < (s.size : Int) := by omega
    clear hI;go_wp2_with (go_at_call 30; refine (in_no _ _ _ _ hno).mono ?_; rintro e w' ⟨rfl, rfl⟩);go_ret;exact ⟨by rw [HF.out]; rfl, rfl⟩
theorem implName_any (s : ByteArray) (w : World) (hs : s.size <= 1000000000000) : Calls Tryz.prog 136 #[zG s] w fun e w' => e = .returned (.bool (nameOk s)) /\ zW w w' := by
 by_cases h20 : 20 < s.size
 ·have h20i : (20 : Int) < (s.size : Int) := by omega
  have HF : Hid (nameOk s = false) := by show nameOk s = _; unfold nameOk; rw [decide_eq_false (by omega)]; rfl
  go_enter Tryz.func136, Tryz.ntmps136
  go_wp2
  go_ret;exact ⟨by rw [HF.out]; rfl, Below.refl _ _⟩
 have h20i : ¬ (20 : Int) < (s.size : Int) := by omega
 have hbl : ∀ pos, zW w (w.iter s pos) := fun pos => (Below.refl _ _).alloc (Nat.le_refl _) _
 have HB : Hid (∀ pos, zW w (w.iter s pos)) := hbl;clear hbl;go_enter Tryz.func136, Tryz.ntmps136
 go_wp2
 go_loopw [3] (fun bv wr => ∃ (pos : Nat) (p : Bool) (z : Int), bv = .int .i32 z /\ (z == 46) = !p /\ Hid (nmL (s.data.toList.drop pos) p = nmL s.data.toList false) /\ w.iter s pos = wr) (fun _ wr => s.size - wr.iterPos w.heap.size)
 case atStart => exact ⟨0, false, 46, rfl, rfl, by show _ = _; simp, rfl⟩
 case round =>
  obtain ⟨pos, p, z, rfl, hz, HI, rfl⟩ := hrel;by_cases hlt : pos < s.size
  ·have hd := drop_at s pos hlt
   have hI := HI.out;rw [hd] at hI;clear HI hd;by_cases hhi : 128 <= s[pos].toNat
   ·have hnx : ∀ ty, (Instr.next (.pointer (some ⟨w.heap.size, 0, none⟩)) true ty).run Tryz.prog (w.iter s pos) = _ := fun ty => run_next_any w s pos ty hlt
    have hdh := (decode_high s pos hlt hhi).1;rw [nm_other _ _ (by omega) (by omega)] at hI;have HF : Hid (nameOk s = false) := by show nameOk s = _; unfold nameOk; rw [<- hI]; simp
    clear hI;generalize (Utf8.decode s pos).1 = r at *;have q1 : ((r : Int) == 46) = false := by simp; omega
    have q2 : ¬ (r : Int) < 97 := by omega
    have q3 : (122 : Int) < (r : Int) := by omega
    go_wp2
    go_ret;exact ⟨by rw [HF.out]; rfl, HB.out _⟩
   ·have hnx : ∀ ty, (Instr.next (.pointer (some ⟨w.heap.size, 0, none⟩)) true ty).run Tryz.prog (w.iter s pos) = _ := fun ty => run_next_ascii w s pos ty hlt (by omega)
    by_cases hdot : s[pos].toNat = 46
    ·have q1 : ((s[pos].toNat : Int) == 46) = true := by simp; omega
     cases p with
     | false =>
      rw [nm_dots _ hdot] at hI;have HF : Hid (nameOk s = false) := by show nameOk s = _; unfold nameOk; rw [<- hI]; simp
      clear hI;simp only [Bool.not_false] at hz
      go_wp2
      go_ret;exact ⟨by rw [HF.out]; rfl, HB.out _⟩
     | true =>
      rw [nm_dot _ hdot] at hI;have HN : Hid (nmL (s.data.toList.drop (pos + 1)) false = nmL s.data.toList false) := hI;clear hI;simp only [Bool.not_true] at hz
      go_wp2
      go_roundw
      case rel => exact ⟨pos + 1, false, _, rfl, by first | (simp; done) | simpa using q1, HN, rfl⟩
      case measure => simp; omega
    ·have q1 : ((s[pos].toNat : Int) == 46) = false := by simp; omega
     by_cases hlet : 97 <= s[pos].toNat /\ s[pos].toNat <= 122
     ·rw [nm_letter _ _ hlet.1 hlet.2] at hI
      have HN : Hid (nmL (s.data.toList.drop (pos + 1)) true = nmL s.data.toList false) := hI;have q2 : ¬ (s[pos].toNat : Int) < 97 := by omega
      have q3 : ¬ (122 : Int) < (s[pos].toNat : Int) := by omega
      clear hI
      go_wp2
      go_roundw
      case rel => exact ⟨pos + 1, true, _, rfl, by first | (simp; done) | simpa using q1, HN, rfl⟩
      case measure => simp; omega
     ·rw [nm_other _ _ hlet hdot] at hI
      have HF : Hid (nameOk s = false) := by show nameOk s = _; unfold nameOk; rw [<- hI]; simp
      clear hI;by_cases h97 : s[pos].toNat < 97
      ·have q2 : (s[pos].toNat : Int) < 97 := by omega
       go_wp2
       go_ret;exact ⟨by rw [HF.out]; rfl, HB.out _⟩
      ·have q2 : ¬ (s[pos].toNat : Int) < 97 := by omega
       have q3 : (122 : Int) < (s[pos].toNat : Int) := by omega
       go_wp2
       go_ret;exact ⟨by rw [HF.out]; rfl, HB.out _⟩
  ·have hnx : ∀ ty, (Instr.next (.pointer (some ⟨w.heap.size, 0, none⟩)) true ty).run Tryz.prog (w.iter s pos) = _ := fun ty => run_next_end w s pos ty hlt
   have hI := HI.out;rw [drop_end s pos hlt] at hI;change p = _ at hI;have HF : Hid (nameOk s = p) := by show nameOk s = _; unfold nameOk; rw [<- hI, decide_eq_true (show s.size <= 20 by omega)]; rfl
   clear hI HI;have hz2 : (z != 46) = p := by show (!(z == 46)) = p; rw [hz]; simp
   go_wp2
   go_ret;refine ⟨?_, HB.out _⟩;rw [HF.out, <- hz2];rfl
end Go.Proofs.YtabfamhaihnccaaGreat
