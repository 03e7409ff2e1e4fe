/-
  Texts of the proof.
-/
import Derived.Test.YtagmnlmfoanelaaNB20
import Derived.Test.YtagmnlmfoanelaaNB21
set_option maxRecDepth 100000
set_option maxHeartbeats 25600000
namespace Go.Proofs.Ytagmnlmfoanelaa
open Go.RowKit
set_option linter.unusedVariables false
set_option linter.unusedSimpArgs false
theorem gotIs_any (c : Gt) (p : Value) (gd : Nat) (id : Int) (w : World) (hd : w.cell? ⟨gd, 0, none⟩ = some (.int .i64 id)) :
  Calls Try.prog 48 #[gtV c p, .pointer (some ⟨gd, 0, none⟩)] w fun e w' => e = .returned (.bool (decide (c.id = id))) /\ Below w.heap.size w w' := by
 have hlt := lt_of_cell hd
 obtain ⟨B, hB⟩ := zE (c.id)
 unfold gtV
 rw [hB]
 clear hB
 obtain ⟨V, hV⟩ : ∃ V, V = w.alloc (Obj.cells #[.int .i64 B, .string c.rp.hash, .int .i64 c.rp.nonce, .int .i64 c.rp.time, .int .i64 c.rp.next, .int .i64 c.rp.plan, .int .i64 c.rp.err, p, .string c.rp.sig] 55) := ⟨_, rfl⟩
 have HV : Hid (Below w.heap.size w V) := by rw [hV]; exact (Below.refl _ _).alloc (Nat.le_refl _) _
 have c0 : V.cell? ⟨w.heap.size, 0, none⟩ = some (.int .i64 B) := by rw [hV]; exact (Blk.new _ _ _).cell 0
 have d0 : V.cell? ⟨gd, 0, none⟩ = some (.int .i64 id) := (HV.out.cell (p := ⟨gd, 0, none⟩) hlt).trans hd
 clear hd hlt
 go_enter Try.func48, Try.ntmps48
 go_upto_region 1 with fail
 rw [<- hV]
 clear hV
 by_cases hz : B = id
 ·have hzb : (B == id) = true := beq_iff_eq.2 hz
  have HQ : Hid (decide (B = id) = true) := decide_eq_true hz
  clear hz
  go_wp2_with fail
  go_ret
  exact ⟨by rw [HQ.out]; first | rfl | simp [hzb], HV.out⟩
 ·have hzb : (B == id) = false := beq_eq_false_iff_ne.2 hz
  have HQ : Hid (decide (B = id) = false) := decide_eq_false hz
  clear hz
  go_wp2_with fail
  go_ret
  exact ⟨by rw [HQ.out]; first | rfl | simp [hzb], HV.out⟩
theorem indexGot_any (l : List Gt) (v : Value) (gd : Nat) (id : Int) (w : World) (hl : l.length <= 1000000000) (hd : w.cell? ⟨gd, 0, none⟩ = some (.int .i64 id)) (ha : AtX gtW w v l) :
  Calls Try.prog 47 #[v, .func (.func 48) #[] #[.pointer (some ⟨gd, 0, none⟩)]] w fun e w' => e = .returned (.int .i64 (idAt Gt.id l id 0)) /\ Below w.heap.size w w' := by
 obtain ⟨pa, pc, hpa⟩ := ha.shape
 obtain ⟨n, hn⟩ := zE (l.length)
 rw [hn] at hpa hl
 subst hpa
 obtain ⟨R, hR⟩ := zE (idAt Gt.id l id 0)
 have HT : Hid (AtX gtW w (.slice pa n pc) l /\ l.length = n) := ⟨ha, hn⟩
 have HR : Hid (idAt Gt.id (l.drop 0) id 0 = R) := hR
 have HCL : Hid (∀ (c : Gt) (p : Value) (W : World), Below w.heap.size w W -> Calls Try.prog 48 #[gtV c p, .pointer (some ⟨gd, 0, none⟩)] W fun e w' => e = .returned (.bool (decide (c.id = id))) /\ Below W.heap.size W w') := fun c p W hb => gotIs_any c p gd id W ((hb.cell (p := ⟨gd, 0, none⟩) (lt_of_cell hd)).trans hd)
 rw [hR]
 clear ha hn hR hd
 go_enter Try.func47, Try.ntmps47
 go_wp2_with fail
 go_loopw [8] (fun iv wr => ∃ k : Nat, k <= n /\ iv = .int .i64 k /\ Hid (idAt Gt.id (l.drop k) id k = R /\ Below w.heap.size w wr)) (fun iv _ => n - (intOf iv).toNat)
 case atStart => exact ⟨0, Nat.zero_le _, rfl, HR.out, Below.refl _ _⟩
 case round =>
  obtain ⟨k, hk, rfl, H⟩ := hrel
  by_cases hlt : k < n
  ·have hkl : k < l.length := by rw [HT.out.2]; exact hlt
   obtain ⟨b, off, u, hao, hbB, hPu, hus, hcell⟩ := HT.out.1.get hkl
   obtain ⟨pa, pc, hu⟩ := GtAt.shape hPu
   have hst := idAt_drop (f := Gt.id) (id := id) hkl
   obtain ⟨x, hx⟩ := zE (l[k])
   rw [hx] at hu hst
   obtain ⟨lp, hlp⟩ := zE (x.rp.ans.length)
   rw [hlp] at hu
   have hcb := fun i z (hz : u.cells[i]? = some z) => (H.out.2.cell (p := ⟨b, off + k * 9 + i, none⟩) (by show b < w.heap.size; exact hbB)).trans (hcell i z hz)
   subst hao hu
   have u0 : wr.cell? ⟨b, off + k * 9, none⟩ = some (.int .i64 x.id) := hcb 0 _ rfl
   have u1 : wr.cell? ⟨b, off + k * 9 + 1, none⟩ = some (.string x.rp.hash) := hcb 1 _ rfl
   have u2 : wr.cell? ⟨b, off + k * 9 + 2, none⟩ = some (.int .i64 x.rp.nonce) := hcb 2 _ rfl
   have u3 : wr.cell? ⟨b, off + k * 9 + 3, none⟩ = some (.int .i64 x.rp.time) := hcb 3 _ rfl
   have u4 : wr.cell? ⟨b, off + k * 9 + 4, none⟩ = some (.int .i64 x.rp.next) := hcb 4 _ rfl
   have u5 : wr.cell? ⟨b, off + k * 9 + 5, none⟩ = some (.int .i64 x.rp.plan) := hcb 5 _ rfl
   have u6 : wr.cell? ⟨b, off + k * 9 + 6, none⟩ = some (.int .i64 x.rp.err) := hcb 6 _ rfl
   have u7 : wr.cell? ⟨b, off + k * 9 + 7, none⟩ = some (.slice pa lp pc) := hcb 7 _ rfl
   have u8 : wr.cell? ⟨b, off + k * 9 + 8, none⟩ = some (.string x.rp.sig) := hcb 8 _ rfl
   have EA := HCL.out x (.slice pa lp pc) wr H.out.2
   obtain ⟨B, hB⟩ := zE (decide (x.id = id))
   rw [hB] at EA
   have HB : Hid (decide (x.id = id) = B) := hB
   rw [H.out.1] at hst
   have HS : Hid (R = if x.id = id then (k : Int) else idAt Gt.id (l.drop (k + 1)) id (k + 1)) := hst
   have HW : Hid (Below w.heap.size w wr) := H.out.2
   have hki : (k : Int) < (n : Int) := by omega
   have hk0 : (0 : Int) <= (k : Int) := by omega
   clear hcb hcell hPu hus hbB hx hB hst H hlp
   unfold gtV at EA
   go_wp2_with fail
   refine EA.mono ?_
   rintro e w2 ⟨rfl, hb⟩
   have G2 : Hid (Below w.heap.size w w2) := HW.out.trans (hb.mono HW.out.size)
   clear EA hb HW u0 u1 u2 u3 u4 u5 u6 u7 u8
   cases B with
   | true =>
    have HF : Hid (R = (k : Int)) := by show R = (k : Int); rw [HS.out, if_pos (of_decide_eq_true HB.out)]
    go_wp2_with fail
    go_ret
    exact ⟨by rw [HF.out]; rfl, G2.out⟩
   | false =>
    have HF : Hid (idAt Gt.id (l.drop (k + 1)) id (k + 1) = R) := by show _ = R; rw [HS.out, if_neg (of_decide_eq_false HB.out)]
    go_wp2_with fail
    go_roundw
    case rel => exact ⟨k + 1, by omega, by go_num, HF.out, G2.out⟩
    case measure => simp [intOf]; omega
  ·have hkl : n = k := by omega
   subst hkl
   have HF : Hid (R = -1) := by show R = -1; rw [<- H.out.1]; exact idAt_end (by rw [HT.out.2]; exact Nat.le_refl _)
   go_wp2_with fail
   go_ret
   exact ⟨by rw [HF.out]; rfl, H.out.2⟩
theorem gotOf_any (l : List Gt) (v : Value) (id : Int) (w : World) (hl : l.length <= 1000000000) (ha : AtX gtW w v l) :
  Calls Try.prog 34 #[v, .int .i64 id] w fun e w' => e = .returned (.int .i64 (idAt Gt.id l id 0)) /\ Below w.heap.size w w' := by
 have hmf : ∀ (fn : Fn) (first cap : Array Value) (w : World), (Instr.makeFunc fn first cap).run Try.prog w = .ok (.func fn first cap) w := fun _ _ _ _ => rfl
 obtain ⟨W0, hW0⟩ : ∃ V, V = w.alloc (Obj.cells #[.int .i64 id] 3) := ⟨_, rfl⟩
 have H0 : Hid (Below w.heap.size w W0) := by rw [hW0]; exact (Below.refl _ _).alloc (Nat.le_refl _) _
 have hd : Blk W0 w.heap.size 3 #[.int .i64 id] := by rw [hW0]; exact Blk.new _ _ _
 have EN := indexGot_any l v w.heap.size id W0 hl (hd.cell 0) (AtX.below ha H0.out)
 obtain ⟨pa, pc, hpa⟩ := ha.shape
 obtain ⟨n, hn⟩ := zE (l.length)
 rw [hn] at hpa
 subst hpa
 obtain ⟨R, hR⟩ := zE (idAt Gt.id l id 0)
 rw [hR] at EN |-
 clear hR hn ha hl hd
 go_enter Try.func34, Try.ntmps34
 go_upto_region 1 with fail
 rw [<- hW0]
 clear hW0
 go_wp2_with fail
 refine EN.mono ?_
 rintro e w3 ⟨rfl, hb⟩
 have H3 : Hid (Below w.heap.size w w3) := H0.out.trans (hb.mono H0.out.size)
 clear EN hb H0
 go_wp2_with fail
 go_ret
 exact ⟨rfl, H3.out⟩
theorem implGotOf_any (c : Cn) (v : Value) (id : Int) (w : World) (hz : wtCn c <= 1048576) (ha : CnAt w v c) :
  Calls Try.prog 13 #[v, .int .i64 id] w fun e w' => ∃ u fp, e = .returned (.tuple #[u, .bool (gotR c.gots id).2]) /\ OwnRW w' w.heap.size u (gotR c.gots id).1 fp /\ Below w.heap.size w w' := by
 obtain ⟨a1, c1, a2, c2, a3, c3, hv⟩ := ha.shape
 subst hv
 obtain ⟨-, hg, -⟩ := ha.rows
 have hz0 : wtGtS c.gots <= 1048576 := by unfold wtCn at hz; omega
 obtain ⟨n1, e1⟩ := zE (c.waits.length)
 obtain ⟨n2, e2⟩ := zE (c.gots.length)
 obtain ⟨n3, e3⟩ := zE (c.late.length)
 obtain ⟨R, hR⟩ := zE (gotR c.gots id)
 rw [hR]
 have hn2 : n2 <= 1048576 := by unfold wtGtS at hz0; omega
 rw [e1, e2, e3]
 rw [e2] at hg
 obtain ⟨n, hn⟩ := zE (idAt Gt.id c.gots id 0)
 have EG : Hid (∀ W, Below w.heap.size w W -> Calls Try.prog 34 #[.slice a2 n2 c2, .int .i64 id] W fun e w' => e = .returned (.int .i64 n) /\ Below W.heap.size W w') := fun W hb => by rw [<- hn]; exact gotOf_any c.gots _ id W (by omega) (AtX.below hg hb)
 have HX : Hid (AtX gtW w (.slice a2 n2 c2) c.gots /\ c.gots.length = n2 /\ wtGtS c.gots <= 1048576) := ⟨hg, e2, hz0⟩
 have HN : Hid ((n = -1 /\ R = (zeRp, false)) ∨ ∃ j, ∃ hj : j < c.gots.length, n = (j : Int) /\ R = (c.gots[j].rp, true)) := by
  rcases got_cases c.gots id 0 with ⟨h1, h2⟩ | ⟨j, hj, h1, h2⟩
  ·exact .inl ⟨hn.symm.trans h1, hR.symm.trans h2⟩
  ·exact .inr ⟨j, hj, by rw [<- hn, h1]; omega, hR.symm.trans h2⟩
 clear hg e1 e2 e3 hR hz hz0 hn
 go_enter Try.func13, Try.ntmps13
 go_upto_region 1 with fail
 obtain ⟨W0, hW0⟩ : ∃ V, V = (w.alloc (Obj.cells #[.string c.key, .int .i64 c.now, .slice a1 n1 c1, .slice a2 n2 c2, .slice a3 n3 c3] 26)).alloc (Obj.cells #[.string ⟨#[]⟩, .int .i64 0, .int .i64 0, .int .i64 0, .int .i64 0, .int .i64 0, .slice none 0 0, .string ⟨#[]⟩] 38) := ⟨_, rfl⟩
 rw [<- hW0]
 have H0 : Hid (Below w.heap.size w W0 /\ Blk W0 w.heap.size 26 #[.string c.key, .int .i64 c.now, .slice a1 n1 c1, .slice a2 n2 c2, .slice a3 n3 c3] /\ Blk W0 (w.heap.size + 1) 38 #[.string ⟨#[]⟩, .int .i64 0, .int .i64 0, .int .i64 0, .int .i64 0, .int .i64 0, .slice none 0 0, .string ⟨#[]⟩]) := by
  have e0 : (w.alloc (Obj.cells #[.string c.key, .int .i64 c.now, .slice a1 n1 c1, .slice a2 n2 c2, .slice a3 n3 c3] 26)).heap.size = w.heap.size + 1 := Array.size_push _
  have h := Blk.new (w.alloc (Obj.cells #[.string c.key, .int .i64 c.now, .slice a1 n1 c1, .slice a2 n2 c2, .slice a3 n3 c3] 26)) 38 #[.string ⟨#[]⟩, .int .i64 0, .int .i64 0, .int .i64 0, .int .i64 0, .int .i64 0, .slice none 0 0, .string ⟨#[]⟩]
  rw [e0] at h
  rw [hW0]
  exact ⟨((Below.refl _ _).alloc (Nat.le_refl _) _).alloc (by rw [e0]; omega) _, (Blk.new w _ _).alloc _, h⟩
 clear hW0
 have y3 := fun j => H0.out.2.1.cell j
 go_wp2_with fail
 clear y3
 refine (EG.out W0 H0.out.1).mono ?_
 rintro e wr ⟨rfl, hb⟩
 have HW := zH (zJ (H0.out.1.trans (hb.mono H0.out.1.size)) (zJ (H0.out.2.1.below hb H0.out.2.1.lt) (H0.out.2.2.below hb H0.out.2.2.lt)))
 clear hb H0 EG
 have y3 := fun j => HW.out.2.1.cell j
 rcases HN.out with ⟨h1, h2⟩ | ⟨k, hkl, h1, h2⟩
 ·have HF : Hid (R = (zeRp, false)) := h2
  subst h1
  clear h2 HN
  obtain ⟨V1, hV⟩ : ∃ V, V = wr.setCells (w.heap.size + 1) 0 (#[.string ⟨#[]⟩, .int .i64 0, .int .i64 0, .int .i64 0, .int .i64 0, .int .i64 0, .slice none 0 0, .string ⟨#[]⟩] : Array Value).toList := ⟨_, rfl⟩
  have hth : wr.there (w.heap.size + 1) 0 8 := HW.out.2.2.there (n := 8) rfl
  have H1 : Hid (Below w.heap.size w V1 /\ Blk V1 (w.heap.size + 1) 38 #[.string ⟨#[]⟩, .int .i64 0, .int .i64 0, .int .i64 0, .int .i64 0, .int .i64 0, .slice none 0 0, .string ⟨#[]⟩]) := by
   have ho := setCells_out (#[.string ⟨#[]⟩, .int .i64 0, .int .i64 0, .int .i64 0, .int .i64 0, .int .i64 0, .slice none 0 0, .string ⟨#[]⟩] : Array Value).toList wr (w.heap.size + 1) 0
   rw [hV]
   exact ⟨HW.out.1.trans (ho.below (fun b hb => by rw [List.mem_singleton.1 hb]; omega) HW.out.1.size), HW.out.2.2.setAll rfl⟩
  clear HW
  go_wp2_with (refine step_storeV rfl 38 _ _ rfl (w.heap.size + 1) 0 #[.string ⟨#[]⟩, .int .i64 0, .int .i64 0, .int .i64 0, .int .i64 0, .int .i64 0, .slice none 0 0, .string ⟨#[]⟩] rfl rfl hth (by kernel_rfl) (by simp [Value.oneCell']) hV ?_; clear hV hth)
  have r0 := fun j => H1.out.2.cell j
  refine bodyPost_ret (v := .tuple #[.agg #[.string ⟨#[]⟩, .int .i64 0, .int .i64 0, .int .i64 0, .int .i64 0, .int .i64 0, .slice none 0 0, .string ⟨#[]⟩], .bool false]) (by simp [results, Try.results13, go_sem, r0]) rfl ?_
  rw [HF.out]
  exact ⟨_, [], rfl, ⟨.slice none 0 0, rfl, [], rfl, World.ownsRow_nil _ _ _ _, fun j h => absurd h (Nat.not_lt_zero _), rfl, List.nodup_nil⟩, H1.out.1⟩
 ·have hlt : k < n2 := by rw [<- HX.out.2.1]; exact hkl
  subst h1
  obtain ⟨b, off, u, hao, hbB, hPu, hus, hcell⟩ := HX.out.1.get hkl
  have hwx := wtGtS_mem (List.getElem_mem hkl)
  obtain ⟨x, hx⟩ := zE (c.gots[k])
  rw [hx] at hPu h2 hwx
  have HF : Hid (R = (x.rp, true)) := h2
  obtain ⟨p, hu, hp⟩ := hPu
  obtain ⟨pa, pc, hpv⟩ := hp.shape
  obtain ⟨lp, hlp⟩ := zE (x.rp.ans.length)
  rw [hlp] at hpv
  have hcb := fun i z (hz : u.cells[i]? = some z) => (HW.out.1.cell (p := ⟨b, off + k * 9 + i, none⟩) (by show b < w.heap.size; exact hbB)).trans (hcell i z hz)
  subst hao hpv hu
  have hrg : wr.rangeAt b (off + k * 9 + 1) #[.string x.rp.hash, .int .i64 x.rp.nonce, .int .i64 x.rp.time, .int .i64 x.rp.next, .int .i64 x.rp.plan, .int .i64 x.rp.err, .slice pa lp pc, .string x.rp.sig].toList := fun j z hz => by
   have h := hcb (1 + j) z (by show (#[.int .i64 x.id, .string x.rp.hash, .int .i64 x.rp.nonce, .int .i64 x.rp.time, .int .i64 x.rp.next, .int .i64 x.rp.plan, .int .i64 x.rp.err, .slice pa lp pc, .string x.rp.sig] : Array Value)[1 + j]? = some z; rw [<- Array.getElem?_toList, Nat.add_comm]; exact hz)
   rw [<- Nat.add_assoc] at h
   exact h
  have HO := zH (zJ (⟨_, by unfold rpV; rfl, AtS.below hp HW.out.1⟩ : RpO wr (.agg #[.string x.rp.hash, .int .i64 x.rp.nonce, .int .i64 x.rp.time, .int .i64 x.rp.next, .int .i64 x.rp.plan, .int .i64 x.rp.err, .slice pa lp pc, .string x.rp.sig]) x.rp) (Nat.le_trans hwx HX.out.2.2))
  have u0 : wr.cell? ⟨b, off + k * 9, none⟩ = some (.int .i64 x.id) := hcb 0 _ rfl
  have hki : (k : Int) < (n2 : Int) := by omega
  have hk0 : ¬ (k : Int) < 0 := by omega
  have hk1 : (0 : Int) <= (k : Int) := by omega
  clear hcb hcell hus hbB hx hp hlp hwx h2 HN
  go_wp2_with (refine wpList_load_mid rfl 38 _ rfl b (off + k * 9 + 1) rfl _ _ hrg Try.underlying38 rfl (by kernel_rfl) ?_)
  clear u0 hrg y3
  have hsm := ans_few HO.out.2
  refine (ownReply_any x.rp _ wr hsm.1 hsm.2.1 hsm.2.2.1 hsm.2.2.2 HO.out.1).mono ?_
  rintro e w3 ⟨u3, rfl, ⟨fp, p3, rfl, ho3⟩, hb3⟩
  obtain ⟨qa, qc, hq⟩ := ho3.at.shape
  obtain ⟨lp, hlp⟩ := zE (x.rp.ans.length)
  rw [hlp] at hq
  subst hq
  have HW3 : Hid ((Below w.heap.size w w3 /\ Blk w3 w.heap.size 26 #[.string c.key, .int .i64 c.now, .slice a1 n1 c1, .slice (some ⟨b, off, none⟩) n2 c2, .slice a3 n3 c3] /\ Blk w3 (w.heap.size + 1) 38 #[.string ⟨#[]⟩, .int .i64 0, .int .i64 0, .int .i64 0, .int .i64 0, .int .i64 0, .slice none 0 0, .string ⟨#[]⟩]) /\ OwnS awWd w3 (w.heap.size + 2) (.slice qa lp qc) x.rp.ans fp) := ⟨⟨HW.out.1.trans (hb3.mono HW.out.1.size), HW.out.2.1.below hb3 HW.out.2.1.lt, HW.out.2.2.below hb3 HW.out.2.2.lt⟩, ho3.base (by have := HW.out.2.2.lt; omega)⟩
  clear ho3 hb3 HW HO hlp hsm
  unfold rpV
  obtain ⟨V1, hV⟩ : ∃ V, V = w3.setCells (w.heap.size + 1) 0 (#[.string x.rp.hash, .int .i64 x.rp.nonce, .int .i64 x.rp.time, .int .i64 x.rp.next, .int .i64 x.rp.plan, .int .i64 x.rp.err, .slice qa lp qc, .string x.rp.sig] : Array Value).toList := ⟨_, rfl⟩
  have hth : w3.there (w.heap.size + 1) 0 8 := HW3.out.1.2.2.there (n := 8) rfl
  have H1 : Hid (Below w.heap.size w V1 /\ Blk V1 (w.heap.size + 1) 38 #[.string x.rp.hash, .int .i64 x.rp.nonce, .int .i64 x.rp.time, .int .i64 x.rp.next, .int .i64 x.rp.plan, .int .i64 x.rp.err, .slice qa lp qc, .string x.rp.sig] /\ OwnS awWd V1 (w.heap.size + 2) (.slice qa lp qc) x.rp.ans fp) := by
   have ho := setCells_out (#[.string x.rp.hash, .int .i64 x.rp.nonce, .int .i64 x.rp.time, .int .i64 x.rp.next, .int .i64 x.rp.plan, .int .i64 x.rp.err, .slice qa lp qc, .string x.rp.sig] : Array Value).toList w3 (w.heap.size + 1) 0
   rw [hV]
   exact ⟨HW3.out.1.1.trans (ho.below (fun b hb => by rw [List.mem_singleton.1 hb]; omega) HW3.out.1.1.size), HW3.out.1.2.2.setAll rfl, HW3.out.2.out ho (fun b hb hm => by have := (HW3.out.2.lt b hb).1; have := List.mem_singleton.1 hm; omega)⟩
  clear HW3
  go_wp2_with (refine step_storeV rfl 38 _ _ rfl (w.heap.size + 1) 0 #[.string x.rp.hash, .int .i64 x.rp.nonce, .int .i64 x.rp.time, .int .i64 x.rp.next, .int .i64 x.rp.plan, .int .i64 x.rp.err, .slice qa lp qc, .string x.rp.sig] rfl rfl hth (by kernel_rfl) (by simp [Value.oneCell']) hV ?_; clear hV hth)
  have r0 := fun j => H1.out.2.1.cell j
  refine bodyPost_ret (v := .tuple #[.agg #[.string x.rp.hash, .int .i64 x.rp.nonce, .int .i64 x.rp.time, .int .i64 x.rp.next, .int .i64 x.rp.plan, .int .i64 x.rp.err, .slice qa lp qc, .string x.rp.sig], .bool true]) (by simp [results, Try.results13, go_sem, r0]) rfl ?_
  rw [HF.out]
  exact ⟨_, fp, rfl, ⟨_, rfl, H1.out.2.2.base (by omega)⟩, H1.out.1⟩
end Go.Proofs.Ytagmnlmfoanelaa
