/-
  Texts of the proof.
-/
import Derived.Test.YtagmnlmfoanelaaGreatSK15
set_option maxRecDepth 100000
set_option maxHeartbeats 25600000
namespace Go.Proofs.YtagmnlmfoanelaaGreat
open Go.RowKit
set_option linter.unusedVariables false
set_option linter.unusedSimpArgs false
theorem toGot_any (c : Gt) (v : Value) (B : Nat) (w : World) (hl : wtAS c.rp.ans <= 1048576) (hB : B <= w.heap.size) (ha : ArgGt B w v c) :
  Calls Tryz.prog 50 #[v] w fun e w' => ∃ u fp, e = .returned u /\ OwnGt awKd w' w.heap.size u c fp /\ Below w.heap.size w w' := by
 obtain ⟨pa, pc, rfl, h1⟩ := ha
 have HT : Hid (∀ W, Below w.heap.size w W -> Calls Tryz.prog 68 #[.agg #[.string c.rp.hash, .int .i64 c.rp.nonce, .int .i64 c.rp.time, .int .i64 c.rp.next, .int .i64 c.rp.plan, .int .i64 c.rp.err, .slice pa c.rp.ans.length pc, .string c.rp.sig]] W fun e w' => ∃ u fp, e = .returned u /\ OwnRp w' W.heap.size u c.rp fp /\ Below W.heap.size W w') := fun W hb => toReply_any c.rp _ B W hl (Nat.le_trans hB hb.size) ⟨pa, pc, rfl, h1.below (hb.mono hB) (Nat.le_refl _)⟩
 clear h1 hl
 unfold gtV
 go_enter Tryz.func50, Tryz.ntmps50
 go_upto_region 3 with fail
 obtain ⟨X0, hX0⟩ : ∃ W, W = (((w.alloc (Obj.cells #[.int .i64 c.id, .string c.rp.hash, .int .i64 c.rp.nonce, .int .i64 c.rp.time, .int .i64 c.rp.next, .int .i64 c.rp.plan, .int .i64 c.rp.err, .slice pa c.rp.ans.length pc, .string c.rp.sig] 76)).alloc (Obj.cells #[.int .i64 0, .string ⟨#[]⟩, .int .i64 0, .int .i64 0, .int .i64 0, .int .i64 0, .int .i64 0, .slice none 0 0, .string ⟨#[]⟩] 81)).alloc (Obj.cells #[.int .i64 c.id, .string ⟨#[]⟩, .int .i64 0, .int .i64 0, .int .i64 0, .int .i64 0, .int .i64 0, .slice none 0 0, .string ⟨#[]⟩] 81)) := ⟨_, rfl⟩
 change Code.wp _ _ _ _ (((w.alloc (Obj.cells #[.int .i64 c.id, .string c.rp.hash, .int .i64 c.rp.nonce, .int .i64 c.rp.time, .int .i64 c.rp.next, .int .i64 c.rp.plan, .int .i64 c.rp.err, .slice pa c.rp.ans.length pc, .string c.rp.sig] 76)).alloc (Obj.cells #[.int .i64 0, .string ⟨#[]⟩, .int .i64 0, .int .i64 0, .int .i64 0, .int .i64 0, .int .i64 0, .slice none 0 0, .string ⟨#[]⟩] 81)).alloc (Obj.cells #[.int .i64 c.id, .string ⟨#[]⟩, .int .i64 0, .int .i64 0, .int .i64 0, .int .i64 0, .int .i64 0, .slice none 0 0, .string ⟨#[]⟩] 81))
 rw [<- hX0]
 have e0 : (w.alloc (Obj.cells #[.int .i64 c.id, .string c.rp.hash, .int .i64 c.rp.nonce, .int .i64 c.rp.time, .int .i64 c.rp.next, .int .i64 c.rp.plan, .int .i64 c.rp.err, .slice pa c.rp.ans.length pc, .string c.rp.sig] 76)).heap.size = w.heap.size + 1 := Array.size_push _
 have e1 : ((w.alloc (Obj.cells #[.int .i64 c.id, .string c.rp.hash, .int .i64 c.rp.nonce, .int .i64 c.rp.time, .int .i64 c.rp.next, .int .i64 c.rp.plan, .int .i64 c.rp.err, .slice pa c.rp.ans.length pc, .string c.rp.sig] 76)).alloc (Obj.cells #[.int .i64 0, .string ⟨#[]⟩, .int .i64 0, .int .i64 0, .int .i64 0, .int .i64 0, .int .i64 0, .slice none 0 0, .string ⟨#[]⟩] 81)).heap.size = w.heap.size + 1 + 1 := by rw [size_alloc, e0]
 have Y0 : Hid ((Blk X0 w.heap.size 76 #[.int .i64 c.id, .string c.rp.hash, .int .i64 c.rp.nonce, .int .i64 c.rp.time, .int .i64 c.rp.next, .int .i64 c.rp.plan, .int .i64 c.rp.err, .slice pa c.rp.ans.length pc, .string c.rp.sig] /\ Blk X0 (w.heap.size + 1) 81 #[.int .i64 0, .string ⟨#[]⟩, .int .i64 0, .int .i64 0, .int .i64 0, .int .i64 0, .int .i64 0, .slice none 0 0, .string ⟨#[]⟩] /\ Blk X0 (w.heap.size + 1 + 1) 81 #[.int .i64 c.id, .string ⟨#[]⟩, .int .i64 0, .int .i64 0, .int .i64 0, .int .i64 0, .int .i64 0, .slice none 0 0, .string ⟨#[]⟩] /\ Below w.heap.size w X0) /\ w.heap.size + 1 + 1 + 1 <= X0.heap.size) := by
  rw [hX0]
  refine ⟨⟨((Blk.new w _ _).alloc _).alloc _, ?_, ?_, (((Below.refl _ _).alloc (Nat.le_refl _) _).alloc (by rw [e0]; omega) _).alloc (by rw [e1]; omega) _⟩, by rw [size_alloc, e1]; omega⟩
  ·have h := (Blk.new (w.alloc (Obj.cells #[.int .i64 c.id, .string c.rp.hash, .int .i64 c.rp.nonce, .int .i64 c.rp.time, .int .i64 c.rp.next, .int .i64 c.rp.plan, .int .i64 c.rp.err, .slice pa c.rp.ans.length pc, .string c.rp.sig] 76)) 81 #[.int .i64 0, .string ⟨#[]⟩, .int .i64 0, .int .i64 0, .int .i64 0, .int .i64 0, .int .i64 0, .slice none 0 0, .string ⟨#[]⟩]).alloc (Obj.cells #[.int .i64 c.id, .string ⟨#[]⟩, .int .i64 0, .int .i64 0, .int .i64 0, .int .i64 0, .int .i64 0, .slice none 0 0, .string ⟨#[]⟩] 81)
   rw [e0] at h
   exact h
  ·have h := Blk.new ((w.alloc (Obj.cells #[.int .i64 c.id, .string c.rp.hash, .int .i64 c.rp.nonce, .int .i64 c.rp.time, .int .i64 c.rp.next, .int .i64 c.rp.plan, .int .i64 c.rp.err, .slice pa c.rp.ans.length pc, .string c.rp.sig] 76)).alloc (Obj.cells #[.int .i64 0, .string ⟨#[]⟩, .int .i64 0, .int .i64 0, .int .i64 0, .int .i64 0, .int .i64 0, .slice none 0 0, .string ⟨#[]⟩] 81)) 81 #[.int .i64 c.id, .string ⟨#[]⟩, .int .i64 0, .int .i64 0, .int .i64 0, .int .i64 0, .int .i64 0, .slice none 0 0, .string ⟨#[]⟩]
   rw [e1] at h
   exact h
 clear hX0 e0 e1
 have a0 := fun j => Y0.out.1.1.cell j
 go_wp2_with fail
 clear a0
 refine (HT.out X0 Y0.out.1.2.2.2).mono ?_
 rintro e X1 ⟨u, fp, rfl, ⟨p, rfl, hp⟩, hb⟩
 have Y1 : Hid ((Blk X1 w.heap.size 76 #[.int .i64 c.id, .string c.rp.hash, .int .i64 c.rp.nonce, .int .i64 c.rp.time, .int .i64 c.rp.next, .int .i64 c.rp.plan, .int .i64 c.rp.err, .slice pa c.rp.ans.length pc, .string c.rp.sig] /\ Blk X1 (w.heap.size + 1) 81 #[.int .i64 0, .string ⟨#[]⟩, .int .i64 0, .int .i64 0, .int .i64 0, .int .i64 0, .int .i64 0, .slice none 0 0, .string ⟨#[]⟩] /\ Blk X1 (w.heap.size + 1 + 1) 81 #[.int .i64 c.id, .string ⟨#[]⟩, .int .i64 0, .int .i64 0, .int .i64 0, .int .i64 0, .int .i64 0, .slice none 0 0, .string ⟨#[]⟩] /\ Below w.heap.size w X1) /\ OwnS awKd X1 (w.heap.size + 1 + 1 + 1) p c.rp.ans fp) := by
  have hz := Y0.out.2
  exact ⟨⟨Y0.out.1.1.below hb (by omega), Y0.out.1.2.1.below hb (by omega), Y0.out.1.2.2.1.below hb (by omega), Y0.out.1.2.2.2.trans (hb.mono Y0.out.1.2.2.2.size)⟩, hp.base hz⟩
 clear hb hp Y0 HT
 obtain ⟨qp, mp, hsp⟩ : ∃ ao cap, p = .slice ao c.rp.ans.length cap := Y1.out.2.at.shape
 obtain ⟨lp, hlp⟩ := zE (c.rp.ans.length)
 rw [hlp] at hsp
 clear hlp
 subst hsp
 unfold rpV
 obtain ⟨V1, hV⟩ : ∃ V, V = X1.setCells (w.heap.size + 1 + 1) 1 (#[.string c.rp.hash, .int .i64 c.rp.nonce, .int .i64 c.rp.time, .int .i64 c.rp.next, .int .i64 c.rp.plan, .int .i64 c.rp.err, .slice qp lp mp, .string c.rp.sig] : Array Value).toList := ⟨_, rfl⟩
 have hth : X1.there (w.heap.size + 1 + 1) 1 8 := fun j hj => by
  have h := Y1.out.1.2.2.1.there (n := 9) rfl (1 + j) (by omega)
  rw [Nat.zero_add] at h
  exact h
 have G1 : Hid ((Blk V1 w.heap.size 76 #[.int .i64 c.id, .string c.rp.hash, .int .i64 c.rp.nonce, .int .i64 c.rp.time, .int .i64 c.rp.next, .int .i64 c.rp.plan, .int .i64 c.rp.err, .slice pa c.rp.ans.length pc, .string c.rp.sig] /\ Blk V1 (w.heap.size + 1) 81 #[.int .i64 0, .string ⟨#[]⟩, .int .i64 0, .int .i64 0, .int .i64 0, .int .i64 0, .int .i64 0, .slice none 0 0, .string ⟨#[]⟩] /\ Blk V1 (w.heap.size + 1 + 1) 81 #[.int .i64 c.id, .string c.rp.hash, .int .i64 c.rp.nonce, .int .i64 c.rp.time, .int .i64 c.rp.next, .int .i64 c.rp.plan, .int .i64 c.rp.err, .slice qp lp mp, .string c.rp.sig] /\ Below w.heap.size w V1) /\ OwnS awKd V1 (w.heap.size + 1 + 1 + 1) (.slice qp lp mp) c.rp.ans fp) := by
  have hbs : Below (w.heap.size + 1 + 1) X1 V1 := by rw [hV]; exact (setCells_out _ _ _ _).below (fun b hb => by rw [List.mem_singleton.1 hb]; exact Nat.le_refl _) (by have := Y1.out.1.2.2.1.lt; omega)
  refine ⟨⟨Y1.out.1.1.below hbs (by omega), Y1.out.1.2.1.below hbs (by omega), ?_, Y1.out.1.2.2.2.trans (hbs.mono (by omega))⟩, Y1.out.2.same fun b hb => ?_⟩
  ·rw [hV]
   exact Blk.setMany _ (vs := #[.int .i64 c.id, .string ⟨#[]⟩, .int .i64 0, .int .i64 0, .int .i64 0, .int .i64 0, .int .i64 0, .slice none 0 0, .string ⟨#[]⟩].toList) 1 Y1.out.1.2.2.1
  ·rw [hV]
   exact (setCells_out _ _ _ _).2.2.2.2 b (Y1.out.2.lt b hb).2 (fun hm => by have := (Y1.out.2.lt b hb).1; have := List.mem_singleton.1 hm; omega)
 clear Y1
 go_upto_region 4 with (refine step_storeV rfl 79 _ _ rfl (w.heap.size + 1 + 1) 1 #[.string c.rp.hash, .int .i64 c.rp.nonce, .int .i64 c.rp.time, .int .i64 c.rp.next, .int .i64 c.rp.plan, .int .i64 c.rp.err, .slice qp lp mp, .string c.rp.sig] rfl rfl hth (by kernel_rfl) (by simp [Value.oneCell']) hV ?_; clear hV hth)
 have f1 := fun j => G1.out.1.2.1.free j
 have c10 := fun j => G1.out.1.2.1.cell j
 have c20 := fun j => G1.out.1.2.2.1.cell j
 have c11 := fun j => G1.out.1.2.1.cell j
 have c21 := fun j => G1.out.1.2.2.1.cell j
 have c12 := fun j => G1.out.1.2.1.cell j
 have c22 := fun j => G1.out.1.2.2.1.cell j
 have c13 := fun j => G1.out.1.2.1.cell j
 have c23 := fun j => G1.out.1.2.2.1.cell j
 have c14 := fun j => G1.out.1.2.1.cell j
 have c24 := fun j => G1.out.1.2.2.1.cell j
 have c15 := fun j => G1.out.1.2.1.cell j
 have c25 := fun j => G1.out.1.2.2.1.cell j
 have c16 := fun j => G1.out.1.2.1.cell j
 have c26 := fun j => G1.out.1.2.2.1.cell j
 have c17 := fun j => G1.out.1.2.1.cell j
 have c27 := fun j => G1.out.1.2.2.1.cell j
 have c18 := fun j => G1.out.1.2.1.cell j
 have c28 := fun j => G1.out.1.2.2.1.cell j
 go_wp2_with fail
 refine bodyPost_ret (v := gtV c (.slice qp lp mp)) (by simp [results, Tryz.results50, go_sem, gtV, c10, c11, c12, c13, c14, c15, c16, c17, c18]) rfl ⟨_, fp, rfl, ⟨_, rfl, (G1.out.2.same ?far).base (by omega)⟩, ?bel⟩
 case far =>
  intro b hb
  have := (G1.out.2.lt b hb).1
  iterate 9 rw [heap_setCell_other _ _ _ _ (by show b ≠ w.heap.size + 1; omega)]
 case bel =>
  iterate 9 refine Below.setCell ?_ (by show w.heap.size <= w.heap.size + 1; omega) _
  exact G1.out.1.2.2.2
theorem toGotS_any (v : Value) (l : List Gt) (B : Nat) (w : World) (hl : wtGtS l <= 1048576) (hB : B <= w.heap.size) (ha : ArgGtS B w v l) :
  Calls Tryz.prog 25 #[v] w fun e w' => ∃ u fp, e = .returned u /\ OwnX gtK w' w.heap.size u l fp /\ Below w.heap.size w w' := by
 obtain ⟨i0, hi, hz0, hz1, hz2⟩ := info_parts infoGot
 obtain ⟨a0, cap, hv⟩ := ha.shape
 obtain ⟨len, hlen⟩ := zE (l.length)
 rw [hlen] at hv
 subst hv
 have hl20 : len <= 1048576 := by unfold wtGtS at hl; omega
 have HA : Hid (ArgGtS B w (.slice a0 len cap) l /\ l.length = len /\ wtGtS l <= 1048576) := ⟨ha, hlen, hl⟩
 clear ha hlen hl
 go_enter Tryz.func25, Tryz.ntmps25
 go_wp2_with (at_make; refine wpList_make_full _ rfl _ _ 33 rfl w.heap.size 81 i0 (.agg #[.int .i64 0, .string ⟨#[]⟩, .int .i64 0, .int .i64 0, .int .i64 0, .int .i64 0, .int .i64 0, .slice none 0 0, .string ⟨#[]⟩]) 9 Tryz.underlying33 hi hz0 hz1 .i64 .i64 _ _ len rfl rfl ?m0 ?m1 ?m2 ?m3 ?m4 ?_)
 case m0 => simp
 case m1 => simp
 case m2 => rw [hz2]; omega
 case m3 => unfold maxLen; omega
 case m4 => exact Nat.le_refl _
 intro w1 hown hgrow
 have HO : Hid (∃ fp, OwnX gtK w1 w.heap.size (.slice (some ⟨w.heap.size, 0, none⟩) len len) (l.take 0 ++ List.replicate (l.length - 0) zeGt) fp /\ Below w.heap.size w w1) := by
  refine ⟨[w.heap.size], ?_, (Below.refl _ _).grown hgrow (Nat.le_refl _) (fun j hj => by cases hj)⟩
  rw [List.take_zero, List.nil_append, Nat.sub_zero, HA.out.2.1]
  exact OwnX.zeros gtK (own_zeGt _ _ _) (by have h2 : (madeCells zeGtV.cells (len * 9)).toList = cellsV (List.replicate len zeGtV) := made_cellsV zeGtV len (by decide); rw [<- h2]; exact hown)
 clear hown hgrow
 go_wp2_with fail
 go_loopw [4] (fun iv wr => ∃ k : Nat, k <= len /\ iv = .int .i64 k /\ Hid (∃ fp, OwnX gtK wr w.heap.size (.slice (some ⟨w.heap.size, 0, none⟩) len len) (l.take k ++ List.replicate (l.length - k) zeGt) fp /\ Below w.heap.size w wr)) (fun iv _ => len - (intOf iv).toNat)
 case atStart => exact ⟨0, Nat.zero_le _, rfl, HO.out⟩
 case round =>
  obtain ⟨k, hk, rfl, H⟩ := hrel
  clear HO
  by_cases hkn : k < len
  ·have hkl : k < l.length := by rw [HA.out.2.1]; exact hkn
   obtain ⟨b, off, u, hao, hbB, hPu, hus, hcell⟩ := HA.out.1.get hkl
   obtain ⟨ap, aq, hu⟩ := hPu.shape
   subst hao
   obtain ⟨fp, hO, hBl⟩ := H.out
   have HP : Hid (ArgGt w.heap.size wr u l[k]) := (hPu.mono hB).below hBl
   have hcb := fun i x (hx : u.cells[i]? = some x) => (hBl.cell (p := ⟨b, off + k * 9 + i, none⟩) (by show b < w.heap.size; omega)).trans (hcell i x hx)
   obtain ⟨c, hc⟩ := zE (l[k])
   rw [hc] at HP hu
   have HR := toGot_any c u w.heap.size wr (by have h1 := wtGtS_mem (List.getElem_mem hkl); rw [hc] at h1; exact wtR_ans (Nat.le_trans h1 HA.out.2.2)) hBl.size HP.out
   subst hu
   have u0 : wr.cell? ⟨b, off + k * 9, none⟩ = some (.int .i64 c.id) := hcb 0 _ rfl
   have u1 : wr.cell? ⟨b, off + k * 9 + 1, none⟩ = some (.string c.rp.hash) := hcb 1 _ rfl
   have u2 : wr.cell? ⟨b, off + k * 9 + 2, none⟩ = some (.int .i64 c.rp.nonce) := hcb 2 _ rfl
   have u3 : wr.cell? ⟨b, off + k * 9 + 3, none⟩ = some (.int .i64 c.rp.time) := hcb 3 _ rfl
   have u4 : wr.cell? ⟨b, off + k * 9 + 4, none⟩ = some (.int .i64 c.rp.next) := hcb 4 _ rfl
   have u5 : wr.cell? ⟨b, off + k * 9 + 5, none⟩ = some (.int .i64 c.rp.plan) := hcb 5 _ rfl
   have u6 : wr.cell? ⟨b, off + k * 9 + 6, none⟩ = some (.int .i64 c.rp.err) := hcb 6 _ rfl
   have u7 : wr.cell? ⟨b, off + k * 9 + 7, none⟩ = some (.slice ap c.rp.ans.length aq) := hcb 7 _ rfl
   have u8 : wr.cell? ⟨b, off + k * 9 + 8, none⟩ = some (.string c.rp.sig) := hcb 8 _ rfl
   have HN : Hid (∀ (w3 : World) (p : Value) (f : List Nat), Below wr.heap.size wr w3 -> OwnGt awKd w3 wr.heap.size (gtV c p) c f -> ∃ fp, OwnX gtK (w3.setCells w.heap.size (k * 9) [.int .i64 c.id, .string c.rp.hash, .int .i64 c.rp.nonce, .int .i64 c.rp.time, .int .i64 c.rp.next, .int .i64 c.rp.plan, .int .i64 c.rp.err, p, .string c.rp.sig]) w.heap.size (.slice (some ⟨w.heap.size, 0, none⟩) len len) (l.take (k + 1) ++ List.replicate (l.length - (k + 1)) zeGt) fp /\ Below w.heap.size w (w3.setCells w.heap.size (k * 9) [.int .i64 c.id, .string c.rp.hash, .int .i64 c.rp.nonce, .int .i64 c.rp.time, .int .i64 c.rp.next, .int .i64 c.rp.plan, .int .i64 c.rp.err, p, .string c.rp.sig])) := fun w3 p f hb hop => by
    have hop2 : gtK.Own w3 wr.heap.size (gtV c p) c f := hop
    have h2 := (hO.stays hb).put (j := k) (by rw [fillGt_len (Nat.le_of_lt hkl)]; exact HA.out.2.1.symm) (by rw [fillGt_len (Nat.le_of_lt hkl)]; exact hkl) (gtK.base hop2 hBl.size) (fun y hy hm => by have h3 := gtK.lt hop2 y hy; have h4 := hO.lt y hm; omega)
    obtain ⟨fp', h2, _⟩ := h2
    rw [<- hc, fillGt_set hkl] at h2
    rw [<- hc]
    have e1 : w3.setCells w.heap.size (k * 9) [.int .i64 l[k].id, .string l[k].rp.hash, .int .i64 l[k].rp.nonce, .int .i64 l[k].rp.time, .int .i64 l[k].rp.next, .int .i64 l[k].rp.plan, .int .i64 l[k].rp.err, p, .string l[k].rp.sig] = putCells w3 w.heap.size (k * 9) (gtV l[k] p).cells.toList := (putCells_set _ _ _ _).symm
    rw [e1]
    refine ⟨fp', h2, ?_⟩
    exact (hBl.trans (hb.mono hBl.size)).trans ((putCells_out _ _ _ _).below (fun b hb => by rw [List.mem_singleton.1 hb]; exact Nat.le_refl _) (hBl.trans (hb.mono hBl.size)).size)
   have HC : Hid (∀ w3, Below wr.heap.size wr w3 -> w3.there w.heap.size (k * 9) 9) := fun w3 hb => by
    obtain ⟨⟨u, f, hu, hcs⟩, hfz⟩ := (hO.stays hb).cellsX (j := k) (by rw [fillGt_len (Nat.le_of_lt hkl)]; exact HA.out.2.1.symm) (by rw [fillGt_len (Nat.le_of_lt hkl)]; exact hkl)
    obtain ⟨p, rfl, _⟩ := hu
    intro j hj
    refine ⟨?_, hfz _⟩
    have h7 : j < (gtV ((l.take k ++ List.replicate (l.length - k) zeGt)[k]'(by rw [fillGt_len (Nat.le_of_lt hkl)]; exact hkl)) p).cells.size := hj
    have h8 := hcs j _ (Array.getElem?_eq_getElem h7)
    change w3.cell? ⟨w.heap.size, k * 9 + j, none⟩ = _ at h8
    rw [h8]
    rfl
   clear H hO hBl HP hcb hcell hPu hus hbB hc hkl
   have hki : (k : Int) < (len : Int) := by omega
   have hk0 : (0 : Int) <= (k : Int) := by omega
   unfold gtV at HR HN
   go_wp2_with fail
   refine HR.mono ?_
   rintro e w3 ⟨v3, f3, rfl, ⟨p3, rfl, ho3⟩, hb3⟩
   have hth := HC.out w3 hb3
   have HN3 := HN.out w3 p3 f3 hb3 ⟨p3, rfl, ho3⟩
   obtain ⟨qa, qc, hq3⟩ := ho3.at.shape
   subst hq3
   clear HN HC hb3 u0 u1 u2 u3 u4 u5 u6 u7 u8 HR ho3
   have HN : Hid _ := HN3
   clear HN3
   unfold gtV
   obtain ⟨VV, hVV⟩ : ∃ V, V = w3.setCells w.heap.size (k * 9) #[.int .i64 c.id, .string c.rp.hash, .int .i64 c.rp.nonce, .int .i64 c.rp.time, .int .i64 c.rp.next, .int .i64 c.rp.plan, .int .i64 c.rp.err, .slice qa c.rp.ans.length qc, .string c.rp.sig].toList := ⟨_, rfl⟩
   have HNV : Hid (∃ fp, OwnX gtK VV w.heap.size (.slice (some ⟨w.heap.size, 0, none⟩) len len) (l.take (k + 1) ++ List.replicate (l.length - (k + 1)) zeGt) fp /\ Below w.heap.size w VV) := by rw [hVV]; exact HN.out
   clear HN
   go_wp2_with (refine step_storeV rfl 81 _ _ rfl w.heap.size (k * 9) #[.int .i64 c.id, .string c.rp.hash, .int .i64 c.rp.nonce, .int .i64 c.rp.time, .int .i64 c.rp.next, .int .i64 c.rp.plan, .int .i64 c.rp.err, .slice qa c.rp.ans.length qc, .string c.rp.sig] rfl rfl hth (by kernel_rfl) (by simp [Value.oneCell']) hVV ?_; clear hVV hth)
   go_roundw
   case rel => exact ⟨k + 1, by omega, by go_num, HNV.out⟩
   case measure => simp [intOf]; omega
  ·have hkl : k = len := by omega
   subst hkl
   go_wp2
   go_ret
   obtain ⟨fp, hO, hBl⟩ := H.out
   refine ⟨_, fp, rfl, ?_, hBl⟩
   rw [<- HA.out.2.1, List.take_length, Nat.sub_self, List.replicate_zero, List.append_nil] at hO
   rw [<- HA.out.2.1]
   exact hO
end Go.Proofs.YtagmnlmfoanelaaGreat
namespace Go.Proofs.YtagmnlmfoanelaaGreat
open Go.RowKit
set_option linter.unusedVariables false
theorem Blk.out {w w' : World} {b : Nat} {t : TypeId} {vs : Array Value} {fp : List Nat} (h : Blk w b t vs) (ho : Out fp w w') (hn : b ∉ fp) : Blk w' b t vs := (ho.2.2.2.2 b h.lt hn).trans h
theorem Below.on {B : Nat} {w W W' : World} (h : Below B w W) (hb : Below W.heap.size W W') (hB : B <= W.heap.size) : Below B w W' := h.trans (hb.mono hB)
theorem Below.out {B : Nat} {w W W' : World} {fp : List Nat} (h : Below B w W) (ho : Out fp W W') (hf : ∀ b ∈ fp, B <= b) (hB : B <= W.heap.size) : Below B w W' := h.trans (ho.below hf hB)
end Go.Proofs.YtagmnlmfoanelaaGreat
namespace Go.Proofs.YtagmnlmfoanelaaGreat
open Go.RowKit Go.ChangeShapes
set_option linter.unusedVariables false
set_option linter.unusedSimpArgs false
theorem toClient_any (s : Cn) (v : Value) (B : Nat) (w : World) (hl : wtCn s <= 1048576) (hB : B <= w.heap.size) (ha : ArgCn B w v s) :
  Calls Tryz.prog 7 #[v] w fun e w' => ∃ u fp, e = .returned u /\ OwnCn false w' w.heap.size u s fp /\ Below w.heap.size w w' := by
 obtain ⟨a1, c1, a2, c2, a3, c3, rfl, h1, h2, h3⟩ := ha
 obtain ⟨n1, e1⟩ := zE (s.waits.length)
 obtain ⟨n2, e2⟩ := zE (s.gots.length)
 obtain ⟨n3, e3⟩ := zE (s.late.length)
 unfold wtCn at hl
 rw [e1, e2, e3]
 rw [e1] at h1
 rw [e2] at h2
 rw [e3] at h3
 have T1 : Hid (∀ W, Below w.heap.size w W -> Calls Tryz.prog 24 #[.slice a1 n1 c1] W fun e w' => ∃ q1 m1 fp, e = .returned (.slice q1 n1 m1) /\ OwnS waKd w' W.heap.size (.slice q1 n1 m1) s.waits fp /\ Below W.heap.size W w') := fun W hb => (toWaitS_any _ s.waits B W (by omega) (Nat.le_trans hB hb.size) (h1.below (hb.mono hB) (Nat.le_refl _))).mono fun e w' h => by
  obtain ⟨u, fp, rfl, ho, hb⟩ := h
  obtain ⟨q1, m1, hs⟩ := ho.at.shape
  rw [e1] at hs
  subst hs
  exact ⟨q1, m1, fp, rfl, ho, hb⟩
 have T2 : Hid (∀ W, Below w.heap.size w W -> Calls Tryz.prog 25 #[.slice a2 n2 c2] W fun e w' => ∃ q2 m2 fp, e = .returned (.slice q2 n2 m2) /\ OwnX gtK w' W.heap.size (.slice q2 n2 m2) s.gots fp /\ Below W.heap.size W w') := fun W hb => (toGotS_any _ s.gots B W (by omega) (Nat.le_trans hB hb.size) (h2.below (hb.mono hB) (Nat.le_refl _))).mono fun e w' h => by
  obtain ⟨u, fp, rfl, ho, hb⟩ := h
  obtain ⟨q2, m2, hs⟩ := ho.at.shape
  rw [e2] at hs
  subst hs
  exact ⟨q2, m2, fp, rfl, ho, hb⟩
 have T3 : Hid (∀ W, Below w.heap.size w W -> Calls Tryz.prog 26 #[.slice a3 n3 c3] W fun e w' => ∃ q3 m3 fp, e = .returned (.slice q3 n3 m3) /\ OwnIF w' W.heap.size (.slice q3 n3 m3) s.late fp /\ Below W.heap.size W w') := fun W hb => (toIntSF_any _ s.late B W (by omega) (Nat.le_trans hB hb.size) (h3.below (hb.mono hB) (Nat.le_refl _))).mono fun e w' h => by
  obtain ⟨u, fp, rfl, ho, hb⟩ := h
  obtain ⟨q3, m3, hs⟩ := ho.at.shape
  rw [e3] at hs
  subst hs
  exact ⟨q3, m3, fp, rfl, ho, hb⟩
 clear h1 h2 h3 hl hB e1 e2 e3
 go_enter Tryz.func7, Tryz.ntmps7
 go_wp2_with fail
 obtain ⟨W3, hW3⟩ : ∃ W, W = (((w.alloc (Obj.cells #[.string s.key, .int .i64 s.now, .slice a1 n1 c1, .slice a2 n2 c2, .slice a3 n3 c3] 26)).alloc (Obj.cells #[.string ⟨#[]⟩, .int .i64 0, .slice none 0 0, .slice none 0 0, .slice none 0 0] 35)).alloc (Obj.cells #[.string s.key, .int .i64 s.now, .slice none 0 0, .slice none 0 0, .slice none 0 0] 35)) := ⟨_, rfl⟩
 change Calls _ _ _ (((w.alloc (Obj.cells #[.string s.key, .int .i64 s.now, .slice a1 n1 c1, .slice a2 n2 c2, .slice a3 n3 c3] 26)).alloc (Obj.cells #[.string ⟨#[]⟩, .int .i64 0, .slice none 0 0, .slice none 0 0, .slice none 0 0] 35)).alloc (Obj.cells #[.string s.key, .int .i64 s.now, .slice none 0 0, .slice none 0 0, .slice none 0 0] 35)) _
 rw [<- hW3]
 have e0 : (w.alloc (Obj.cells #[.string s.key, .int .i64 s.now, .slice a1 n1 c1, .slice a2 n2 c2, .slice a3 n3 c3] 26)).heap.size = w.heap.size + 1 := Array.size_push _
 have e1 : ((w.alloc (Obj.cells #[.string s.key, .int .i64 s.now, .slice a1 n1 c1, .slice a2 n2 c2, .slice a3 n3 c3] 26)).alloc (Obj.cells #[.string ⟨#[]⟩, .int .i64 0, .slice none 0 0, .slice none 0 0, .slice none 0 0] 35)).heap.size = w.heap.size + 1 + 1 := by rw [size_alloc, e0]
 have HB : Hid (Below w.heap.size w W3) := by rw [hW3]; exact (((Below.refl _ _).alloc (Nat.le_refl _) _).alloc (by rw [e0]; omega) _).alloc (by rw [e1]; omega) _
 have HA : Hid (Blk W3 w.heap.size 26 #[.string s.key, .int .i64 s.now, .slice a1 n1 c1, .slice a2 n2 c2, .slice a3 n3 c3]) := by rw [hW3]; exact ((Blk.new w _ _).alloc _).alloc _
 have HZ : Hid (Blk W3 (w.heap.size + 1) 35 #[.string ⟨#[]⟩, .int .i64 0, .slice none 0 0, .slice none 0 0, .slice none 0 0]) := by
  have h := (Blk.new (w.alloc (Obj.cells #[.string s.key, .int .i64 s.now, .slice a1 n1 c1, .slice a2 n2 c2, .slice a3 n3 c3] 26)) 35 #[.string ⟨#[]⟩, .int .i64 0, .slice none 0 0, .slice none 0 0, .slice none 0 0]).alloc (Obj.cells #[.string s.key, .int .i64 s.now, .slice none 0 0, .slice none 0 0, .slice none 0 0] 35)
  rw [e0] at h
  rw [hW3]
  exact h
 have HO : Hid (Blk W3 (w.heap.size + 1 + 1) 35 #[.string s.key, .int .i64 s.now, .slice none 0 0, .slice none 0 0, .slice none 0 0]) := by
  have h := Blk.new ((w.alloc (Obj.cells #[.string s.key, .int .i64 s.now, .slice a1 n1 c1, .slice a2 n2 c2, .slice a3 n3 c3] 26)).alloc (Obj.cells #[.string ⟨#[]⟩, .int .i64 0, .slice none 0 0, .slice none 0 0, .slice none 0 0] 35)) 35 #[.string s.key, .int .i64 s.now, .slice none 0 0, .slice none 0 0, .slice none 0 0]
  rw [e1] at h
  rw [hW3]
  exact h
 have O0 : Hid (w.heap.size + 1 + 1 + 1 <= W3.heap.size) := by show _ <= _; rw [hW3, size_alloc, e1]; omega
 clear hW3 e0 e1
 have LG : Hid (∀ b ∈ [w.heap.size + 1 + 1], b = w.heap.size + 1 + 1) := fun b hb => List.mem_singleton.1 hb
 refine (T1.out W3 HB.out).mono ?_
 rintro e w1 ⟨q1, m1, f1, rfl, ho, hb⟩
 replace HB := zH (Below.on HB.out hb HB.out.size)
 replace HA := zH (HA.out.below hb HA.out.lt)
 replace HZ := zH (HZ.out.below hb HZ.out.lt)
 replace HO := zH (HO.out.below hb HO.out.lt)
 have O1 : Hid (W3.heap.size <= w1.heap.size) := hb.size
 have L1 : Hid (∀ b ∈ f1, W3.heap.size <= b /\ b < w1.heap.size) := ho.lt
 have P1 : Hid (OwnS waKd w1 W3.heap.size (.slice q1 n1 m1) s.waits f1) := ho
 clear ho hb
 have HBase1 : Hid (w.heap.size + 1 + 1 + 1 <= W3.heap.size) := by have := O0.out; have := O1.out; show _ <= _; omega
 have x0 := fun j => HA.out.cell j
 have y0 := fun j => HO.out.cell j
 have fr := fun j => HO.out.free j
 go_wp2_with fail
 clear x0 y0 fr
 obtain ⟨V1, hV1⟩ : ∃ V, V = (w1.setCell ⟨w.heap.size + 1 + 1, 2, none⟩ (.slice q1 n1 m1)) := ⟨_, rfl⟩
 rw [<- hV1]
 have hout : Out [w.heap.size + 1 + 1] w1 V1 := by
  rw [hV1]
  iterate 1 refine Out.setCell ?_ _ _ (by simp)
  exact Out.refl _ _
 have HOn : Hid (Blk V1 (w.heap.size + 1 + 1) 35 #[.string s.key, .int .i64 s.now, .slice q1 n1 m1, .slice none 0 0, .slice none 0 0]) := by rw [hV1]; exact (HO.out.set 2 _)
 clear hV1 HO
 replace HB := zH (Below.out HB.out hout (fun b hm => by have := LG.out b hm; have := O0.out; have := O1.out; omega) HB.out.size)
 have HAn : Hid (Blk V1 w.heap.size 26 #[.string s.key, .int .i64 s.now, .slice a1 n1 c1, .slice a2 n2 c2, .slice a3 n3 c3]) := HA.out.out hout (fun hm => by have := LG.out _ hm; have := O0.out; have := O1.out; omega)
 clear HA
 have HA := HAn
 clear HAn
 have HZn : Hid (Blk V1 (w.heap.size + 1) 35 #[.string ⟨#[]⟩, .int .i64 0, .slice none 0 0, .slice none 0 0, .slice none 0 0]) := HZ.out.out hout (fun hm => by have := LG.out _ hm; have := O0.out; have := O1.out; omega)
 clear HZ
 have HZ := HZn
 clear HZn
 replace P1 := zH (P1.out.out hout (fun b hb hm => by have := LG.out b hm; have := L1.out b hb; have := O0.out; have := O1.out; omega))
 have O2 : Hid (w1.heap.size <= V1.heap.size) := hout.2.2.2.1
 have HO := HOn
 clear HOn hout
 refine (T2.out V1 HB.out).mono ?_
 rintro e w2 ⟨q2, m2, f2, rfl, ho, hb⟩
 replace HB := zH (Below.on HB.out hb HB.out.size)
 replace HA := zH (HA.out.below hb HA.out.lt)
 replace HZ := zH (HZ.out.below hb HZ.out.lt)
 replace P1 := zH (P1.out.stays hb)
 replace HO := zH (HO.out.below hb HO.out.lt)
 have O3 : Hid (V1.heap.size <= w2.heap.size) := hb.size
 have L2 : Hid (∀ b ∈ f2, V1.heap.size <= b /\ b < w2.heap.size) := ho.lt
 have P2 : Hid (OwnX gtK w2 V1.heap.size (.slice q2 n2 m2) s.gots f2) := ho
 clear ho hb
 have HBase2 : Hid (w.heap.size + 1 + 1 + 1 <= V1.heap.size) := by have := O0.out; have := O1.out; have := O2.out; have := O3.out; show _ <= _; omega
 have x0 := fun j => HA.out.cell j
 have y0 := fun j => HO.out.cell j
 have fr := fun j => HO.out.free j
 go_wp2_with fail
 clear x0 y0 fr
 obtain ⟨V3, hV3⟩ : ∃ V, V = (w2.setCell ⟨w.heap.size + 1 + 1, 3, none⟩ (.slice q2 n2 m2)) := ⟨_, rfl⟩
 rw [<- hV3]
 have hout : Out [w.heap.size + 1 + 1] w2 V3 := by
  rw [hV3]
  iterate 1 refine Out.setCell ?_ _ _ (by simp)
  exact Out.refl _ _
 have HOn : Hid (Blk V3 (w.heap.size + 1 + 1) 35 #[.string s.key, .int .i64 s.now, .slice q1 n1 m1, .slice q2 n2 m2, .slice none 0 0]) := by rw [hV3]; exact (HO.out.set 3 _)
 clear hV3 HO
 replace HB := zH (Below.out HB.out hout (fun b hm => by have := LG.out b hm; have := O0.out; have := O1.out; have := O2.out; have := O3.out; omega) HB.out.size)
 have HAn : Hid (Blk V3 w.heap.size 26 #[.string s.key, .int .i64 s.now, .slice a1 n1 c1, .slice a2 n2 c2, .slice a3 n3 c3]) := HA.out.out hout (fun hm => by have := LG.out _ hm; have := O0.out; have := O1.out; have := O2.out; have := O3.out; omega)
 clear HA
 have HA := HAn
 clear HAn
 have HZn : Hid (Blk V3 (w.heap.size + 1) 35 #[.string ⟨#[]⟩, .int .i64 0, .slice none 0 0, .slice none 0 0, .slice none 0 0]) := HZ.out.out hout (fun hm => by have := LG.out _ hm; have := O0.out; have := O1.out; have := O2.out; have := O3.out; omega)
 clear HZ
 have HZ := HZn
 clear HZn
 replace P1 := zH (P1.out.out hout (fun b hb hm => by have := LG.out b hm; have := L1.out b hb; have := O0.out; have := O1.out; have := O2.out; have := O3.out; omega))
 replace P2 := zH (P2.out.out hout (fun b hb hm => by have := LG.out b hm; have := L2.out b hb; have := O0.out; have := O1.out; have := O2.out; have := O3.out; omega))
 have O4 : Hid (w2.heap.size <= V3.heap.size) := hout.2.2.2.1
 have HO := HOn
 clear HOn hout
 refine (T3.out V3 HB.out).mono ?_
 rintro e w3 ⟨q3, m3, f3, rfl, ho, hb⟩
 replace HB := zH (Below.on HB.out hb HB.out.size)
 replace HA := zH (HA.out.below hb HA.out.lt)
 replace HZ := zH (HZ.out.below hb HZ.out.lt)
 replace P1 := zH (P1.out.stays hb)
 replace P2 := zH (P2.out.stays hb)
 replace HO := zH (HO.out.below hb HO.out.lt)
 have O5 : Hid (V3.heap.size <= w3.heap.size) := hb.size
 have L3 : Hid (∀ b ∈ f3, V3.heap.size <= b /\ b < w3.heap.size) := ho.lt
 have P3 : Hid (OwnIF w3 V3.heap.size (.slice q3 n3 m3) s.late f3) := ho
 clear ho hb
 have HBase3 : Hid (w.heap.size + 1 + 1 + 1 <= V3.heap.size) := by have := O0.out; have := O1.out; have := O2.out; have := O3.out; have := O4.out; have := O5.out; show _ <= _; omega
 have x0 := fun j => HA.out.cell j
 have y0 := fun j => HO.out.cell j
 have fr := fun j => HO.out.free j
 go_upto_region 7 with fail
 clear x0 y0 fr
 obtain ⟨V5, hV5⟩ : ∃ V, V = (w3.setCell ⟨w.heap.size + 1 + 1, 4, none⟩ (.slice q3 n3 m3)) := ⟨_, rfl⟩
 rw [<- hV5]
 have hout : Out [w.heap.size + 1 + 1] w3 V5 := by
  rw [hV5]
  iterate 1 refine Out.setCell ?_ _ _ (by simp)
  exact Out.refl _ _
 have HOn : Hid (Blk V5 (w.heap.size + 1 + 1) 35 #[.string s.key, .int .i64 s.now, .slice q1 n1 m1, .slice q2 n2 m2, .slice q3 n3 m3]) := by rw [hV5]; exact (HO.out.set 4 _)
 clear hV5 HO
 replace HB := zH (Below.out HB.out hout (fun b hm => by have := LG.out b hm; have := O0.out; have := O1.out; have := O2.out; have := O3.out; have := O4.out; have := O5.out; omega) HB.out.size)
 have HAn : Hid (Blk V5 w.heap.size 26 #[.string s.key, .int .i64 s.now, .slice a1 n1 c1, .slice a2 n2 c2, .slice a3 n3 c3]) := HA.out.out hout (fun hm => by have := LG.out _ hm; have := O0.out; have := O1.out; have := O2.out; have := O3.out; have := O4.out; have := O5.out; omega)
 clear HA
 have HA := HAn
 clear HAn
 have HZn : Hid (Blk V5 (w.heap.size + 1) 35 #[.string ⟨#[]⟩, .int .i64 0, .slice none 0 0, .slice none 0 0, .slice none 0 0]) := HZ.out.out hout (fun hm => by have := LG.out _ hm; have := O0.out; have := O1.out; have := O2.out; have := O3.out; have := O4.out; have := O5.out; omega)
 clear HZ
 have HZ := HZn
 clear HZn
 replace P1 := zH (P1.out.out hout (fun b hb hm => by have := LG.out b hm; have := L1.out b hb; have := O0.out; have := O1.out; have := O2.out; have := O3.out; have := O4.out; have := O5.out; omega))
 replace P2 := zH (P2.out.out hout (fun b hb hm => by have := LG.out b hm; have := L2.out b hb; have := O0.out; have := O1.out; have := O2.out; have := O3.out; have := O4.out; have := O5.out; omega))
 replace P3 := zH (P3.out.out hout (fun b hb hm => by have := LG.out b hm; have := L3.out b hb; have := O0.out; have := O1.out; have := O2.out; have := O3.out; have := O4.out; have := O5.out; omega))
 have O6 : Hid (w3.heap.size <= V5.heap.size) := hout.2.2.2.1
 have HO := HOn
 clear HOn hout
 have r0 := fun j => HZ.out.cell j
 have y0 := fun j => HO.out.cell j
 have rf := fun j => HZ.out.free j
 go_wp2_with fail
 refine bodyPost_ret (v := .agg #[.string s.key, .int .i64 s.now, .slice q1 n1 m1, .slice q2 n2 m2, .slice q3 n3 m3]) (by simp [results, Tryz.results7, go_sem, r0]) rfl ⟨_, f1 ++ (f2 ++ (f3)), rfl, OwnCn.same (bb := false) (w := V5) ⟨_, _, _, f1, f2, f3, rfl, P1.out.base (by have := HBase1.out; omega), P2.out.base (by have := HBase2.out; omega), P3.out.base (by have := HBase3.out; omega), rfl, ?nd⟩ ?far, ?bel⟩
 case nd =>
  exact nodup_app P1.out.nodup (nodup_app P2.out.nodup (P3.out.nodup) (fun y h1 h2 => by
   have := L2.out y h1
   have := L3.out y h2; have := O0.out; have := O1.out; have := O2.out; have := O3.out; have := O4.out; have := O5.out; have := O6.out; omega)) (fun y h1 h2 => by
   have := L1.out y h1
   rcases List.mem_append.1 h2 with h2 | h2
   ·have := L2.out y h2; have := O0.out; have := O1.out; have := O2.out; have := O3.out; have := O4.out; have := O5.out; have := O6.out; omega
   ·have := L3.out y h2; have := O0.out; have := O1.out; have := O2.out; have := O3.out; have := O4.out; have := O5.out; have := O6.out; omega)
 case far =>
  intro b hb
  have hlt : w.heap.size + 1 + 1 + 1 <= b := by
   rcases List.mem_append.1 hb with hb | hb
   ·have := (P1.out.lt b hb).1; have := HBase1.out; omega
   rcases List.mem_append.1 hb with hb | hb
   ·have := (P2.out.lt b hb).1; have := HBase2.out; omega
   have := (P3.out.lt b hb).1
   have := HBase3.out
   omega
  iterate 5 rw [heap_setCell_other _ _ _ _ (by show b ≠ w.heap.size + 1; omega)]
 case bel =>
  iterate 5 refine Below.setCell ?_ (by show w.heap.size <= w.heap.size + 1; omega) _
  exact HB.out
end Go.Proofs.YtagmnlmfoanelaaGreat
