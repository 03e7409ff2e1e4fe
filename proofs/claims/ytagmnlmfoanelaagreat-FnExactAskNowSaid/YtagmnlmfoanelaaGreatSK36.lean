/-
  Texts of the proof.
-/
import Derived.Test.YtagmnlmfoanelaaGreatSK35
set_option maxRecDepth 100000
set_option maxHeartbeats 25600000
namespace Go.Proofs.YtagmnlmfoanelaaGreat
open Go.RowKit Der
set_option linter.unusedVariables false
set_option linter.unusedSimpArgs false
def OwnWS (w : World) (base : Nat) (v : Value) (l : List Aw) : Prop := ∃ fp, OwnS awWd w base v l fp
theorem OwnWS.shape {w : World} {base : Nat} {v : Value} {l : List Aw} (h : OwnWS w base v l) : ∃ ao cap, v = .slice ao l.length cap := by
 obtain ⟨fp, h⟩ := h
 obtain ⟨ao, cap, h, _⟩ := h.shape
 exact ⟨ao, cap, h⟩
theorem OwnWS.stays {w w' : World} {b : Nat} {v : Value} {l : List Aw} (h : OwnWS w b v l) (hb : Below w.heap.size w w') : OwnWS w' b v l := by
 obtain ⟨fp, h⟩ := h
 exact ⟨fp, h.stays hb⟩
theorem news_ww (w : World) (c : Aw) (p e : Value) : ∀ j u, (awV c p e).cells.toList[j]? = some u -> (w.alloc (.cells #[.int .i64 c.status, .int .i64 c.why, p, e] 103)).cell? ((⟨w.heap.size, 0, none⟩ : Addr).add j) = some u := by
 intro j u hj
 rw [Addr.add_lit, Nat.zero_add, World.cell?_alloc_mark w _ 103 _ j]
 simpa [awV, Value.cells] using hj
theorem infoAnsW : (Tryz.prog.info? 103).map (fun i => (i.zero, i.size, i.bytes)) = some (some (.agg #[.int .i64 0, .int .i64 0, .slice none 0 0, .slice none 0 0]), 4, 64) := by kernel_rfl
theorem wpList_append_ww {w : World} {ops : Array Oper} {rest : List Oper} {o : Oper} {a : Act} {Q : Exit -> Act -> World -> Prop} (hgd : o.guard = none) (p q : Operand) (ho : o.op = .call { callee := .builtin .append, args := #[p, q], argTypes := #[77, 77] })
  (base : Nat) (v : Value) (l : List Aw) (c : Aw) (pv ev : Value) (hp : a.eval p = v) (H : Nat) (hq : a.eval q = .slice (some ⟨H, 0, none⟩) 1 1) (hH : w.heap.size = H) (hO : ∃ fp, OwnS awWd w base v l fp /\ ∀ x ∈ fpW (awV c pv ev), x ∉ fp) (b2 : Nat) (hu : OwnW w b2 (awV c pv ev) c) (hb2 : base <= b2) (hbase : base <= w.heap.size) (hl : l.length <= 100000000)
  (h : ∀ g cap w', OwnWS w' base (.slice (some ⟨g, 0, none⟩) (l ++ [c]).length cap) (l ++ [c]) -> Below base w w' -> wpList Tryz.prog ops Q rest (a.put o.dst (.slice (some ⟨g, 0, none⟩) (l.length + 1) cap)) w') :
  wpList Tryz.prog ops Q (o :: rest) a (w.alloc (.cells #[.int .i64 c.status, .int .i64 c.why, pv, ev] 103)) := by
 subst hH
 obtain ⟨fp, hO, hd⟩ := hO
 replace hu : OwnW w base (awV c pv ev) c := OwnW.base hu hb2
 have hlt := hO.lt
 obtain ⟨vs, hvl, hro, he, rfl, hn⟩ := hO
 obtain ⟨i0, hi, hz0, hz1, hz2⟩ := info_parts infoAnsW
 have hb1 : Below w.heap.size w (w.alloc (.cells #[.int .i64 c.status, .int .i64 c.why, pv, ev] 103)) := (Below.refl _ _).alloc (Nat.le_refl _) _
 have hsz := size_alloc w (.cells #[.int .i64 c.status, .int .i64 c.why, pv, ev] 103)
 refine wpList_append_lies _ hgd p q 77 ho base 103 i0 (.agg #[.int .i64 0, .int .i64 0, .slice none 0 0, .slice none 0 0]) 4 64 Tryz.underlying77 hi hz0 hz1 hz2 rfl (by decide) v l.length (cellsV vs) hp (own_kept hro hb1) ⟨w.heap.size, 0, none⟩ 1 1 (awV c pv ev).cells.toList hq rfl (news_ww w c pv ev) (awWd.size (OwnW.stays hu hb1)).2 (by decide) (by unfold maxLen; omega) (by omega) (by omega) _ rfl ?_
 intro g cap w' hown hgrow hg hlt2
 obtain ⟨fp', hS, -⟩ := OwnS.snoc (k := awWd) (fp := []) (c := c) (u := awV c pv ev) hvl (own_kept hro hb1) (fun j a b => awWd.same (he j a b) fun y hy => hb1.block y (awWd.lt (he j a b) y hy).2) hn (OwnW.stays hu hb1) hd hown hgrow hg
 refine h g cap w' ⟨fp', hS⟩ ((hb1.mono hbase).grown hgrow (by rw [hsz]; omega) (fun b hb => (hlt b (List.mem_append_left _ (Option.mem_toList.2 hb))).1))
def OQ (w W : World) (cells : Array Value) : Prop := Blk W w.heap.size 79 cells /\ Blk W (w.heap.size + 1) 79 #[.string ⟨#[]⟩, .int .i64 0, .int .i64 0, .int .i64 0, .int .i64 0, .int .i64 0, .slice none 0 0, .string ⟨#[]⟩] /\ Below w.heap.size w W /\ w.heap.size + 2 <= W.heap.size
theorem OQ.below {w W W' : World} {cells : Array Value} (h : OQ w W cells) (hb : Below W.heap.size W W') : OQ w W' cells :=
 ⟨h.1.below hb h.1.lt, h.2.1.below hb h.2.1.lt, h.2.2.1.trans (hb.mono h.2.2.1.size), Nat.le_trans h.2.2.2 hb.size⟩
theorem OQ.low {w W W' : World} {cells : Array Value} (h : OQ w W cells) (hb : Below (w.heap.size + 2) W W') : OQ w W' cells :=
 ⟨h.1.below hb (by omega), h.2.1.below hb (by omega), h.2.2.1.trans (hb.mono (by omega)), Nat.le_trans h.2.2.2 hb.size⟩
theorem OQ.set {w W : World} {cells cells' : Array Value} (h : OQ w W cells) (j : Nat) (v : Value) (hc : cells.setIfInBounds j v = cells') : OQ w (W.setCell ⟨w.heap.size, j, none⟩ v) cells' :=
 ⟨by rw [<- hc]; exact h.1.set j v, h.2.1.other v (by show w.heap.size + 1 ≠ w.heap.size; omega), Below.setCell h.2.2.1 (Nat.le_refl _) _, by have := h.2.2.2; have e := ((Out.refl [w.heap.size] W).setCell ⟨w.heap.size, j, none⟩ v (by simp)).2.2.2.1; omega⟩
theorem ownReply_any (c : Rp) (v : Value) (w : World) (hl : c.ans.length <= 1048576) (hla : ∀ x ∈ c.ans, x.path.length + x.lst.length <= 1048576 /\ ∀ s ∈ x.path ++ x.lst, s.size <= 1000000000000) (hs1 : c.hash.size <= 1000000000000) (hs2 : c.sig.size <= 1000000000000) (ha : RpO w v c) :
  Calls Tryz.prog 57 #[v] w fun e w' => ∃ u, e = .returned u /\ (∃ fp, OwnRW w' w.heap.size u c fp) /\ Below w.heap.size w w' := by
 obtain ⟨pv, rfl, h1⟩ := ha
 obtain ⟨pa, pc, hpv⟩ := h1.shape
 obtain ⟨M, hM⟩ := zE (c.ans.length)
 rw [hM] at hpv
 subst hpv
 have HX : Hid (AtS awWd w (.slice pa M pc) c.ans /\ c.ans.length = M /\ M <= 1048576 /\ (∀ x ∈ c.ans, x.path.length + x.lst.length <= 1048576 /\ ∀ s ∈ x.path ++ x.lst, s.size <= 1000000000000)) := ⟨h1, hM, by rw [<- hM]; exact hl, hla⟩
 have hM9 : M <= 1048576 := HX.out.2.2.1
 clear h1 hM hl hla
 unfold rpV
 obtain ⟨W0, hW0⟩ : ∃ V, V = w.alloc (Obj.cells #[.string c.hash, .int .i64 c.nonce, .int .i64 c.time, .int .i64 c.next, .int .i64 c.plan, .int .i64 c.err, .slice pa M pc, .string c.sig] 79) := ⟨_, rfl⟩
 obtain ⟨W2, hW2⟩ : ∃ V, V = W0.alloc (Obj.cells #[.string ⟨#[]⟩, .int .i64 0, .int .i64 0, .int .i64 0, .int .i64 0, .int .i64 0, .slice none 0 0, .string ⟨#[]⟩] 79) := ⟨_, rfl⟩
 have hs0 : W0.heap.size = w.heap.size + 1 := by rw [hW0]; exact size_alloc _ _
 have H2 : Hid (OQ w W2 #[.string c.hash, .int .i64 c.nonce, .int .i64 c.time, .int .i64 c.next, .int .i64 c.plan, .int .i64 c.err, .slice pa M pc, .string c.sig]) := by
  have h1 := Blk.new W0 79 #[.string ⟨#[]⟩, .int .i64 0, .int .i64 0, .int .i64 0, .int .i64 0, .int .i64 0, .slice none 0 0, .string ⟨#[]⟩]
  rw [hs0] at h1
  rw [hW2]
  refine ⟨?_, h1, ?_, by rw [size_alloc]; omega⟩
  ·rw [hW0]
   exact (Blk.new _ _ _).alloc _
  ·rw [hW0]
   exact ((Below.refl _ _).alloc (Nat.le_refl _) _).alloc (by rw [size_alloc]; omega) _
 have wd1 : w.heap.size ≠ w.heap.size + 1 := by omega
 go_enter Tryz.func57, Tryz.ntmps57
 go_upto_region 1 with fail
 rw [<- hW0, <- hW2]
 try rw [hs0]
 clear hW0 hW2 hs0
 have a6 : W2.cell? ⟨w.heap.size, 6, none⟩ = some (.slice pa M pc) := H2.out.1.cell 6
 go_wp2_with fail
 clear a6
 go_loopw [3, 9] (fun av iv wr => ∃ k : Nat, k <= M /\ iv = .int .i64 k /\ Hid (OQ w wr #[.string c.hash, .int .i64 c.nonce, .int .i64 c.time, .int .i64 c.next, .int .i64 c.plan, .int .i64 c.err, .slice pa M pc, .string c.sig] /\ OwnWS wr (w.heap.size + 2) av (c.ans.take k))) (fun _ iv _ => M - (intOf iv).toNat)
 case atStart => exact ⟨0, Nat.zero_le _, rfl, H2.out, [], OwnS.nil awWd _ _⟩
 case round =>
  obtain ⟨k, hk, rfl, H⟩ := hrel
  clear H2
  by_cases hkn : k < M
  ·have hkl : k < c.ans.length := by rw [HX.out.2.1]; exact hkn
   obtain ⟨P, hP0⟩ : ∃ P, P = c.ans.take k := ⟨_, rfl⟩
   have HPL : Hid (P.length = k /\ P = c.ans.take k) := ⟨by rw [hP0, List.length_take]; omega, hP0⟩
   rw [<- hP0] at H
   clear hP0
   obtain ⟨la, lc, hlv⟩ := H.out.2.shape
   rw [HPL.out.1] at hlv
   subst hlv
   obtain ⟨g, o, u, hax, hg, hP, hs, hc⟩ := HX.out.1.get hkl
   obtain ⟨p1, q1, e1, r1, hu⟩ := AwO.shape hP
   subst hax
   have hki : (k : Int) < (M : Int) := by omega
   have hk0 : (0 : Int) <= (k : Int) := by omega
   obtain ⟨x, hxe⟩ := zE (c.ans[k])
   have hwx := HX.out.2.2.2 _ (List.getElem_mem hkl)
   have hrg0 := fun i y hy => (H.out.1.2.2.1.cell (p := ⟨g, o + k * 4 + i, none⟩) hg).trans (hc i y hy)
   rw [hxe] at hu hP hwx
   obtain ⟨n1, hn1⟩ := zE (x.path.length)
   obtain ⟨m1, hm1⟩ := zE (x.lst.length)
   have hrw : TxtO w (.slice p1 n1 q1) x.path /\ TxtO w (.slice e1 m1 r1) x.lst := by
    rw [hu, hn1, hm1] at hP
    exact AwO.rows hP
   rw [hn1, hm1] at hu
   unfold awV at hu
   subst hu
   have hrg : wr.rangeAt g (o + k * 4) #[.int .i64 x.status, .int .i64 x.why, .slice p1 n1 q1, .slice e1 m1 r1].toList := fun j y hy => hrg0 j y (by rw [<- hy]; exact Array.getElem?_toList.symm)
   obtain ⟨V, hV⟩ : ∃ V, V = (wr.alloc (Obj.cells #[.int .i64 0, .int .i64 0, .slice none 0 0, .slice none 0 0] 103)).setCells wr.heap.size 0 #[.int .i64 x.status, .int .i64 x.why, .slice p1 n1 q1, .slice e1 m1 r1].toList := ⟨_, rfl⟩
   have hBV : Below wr.heap.size wr V /\ Blk V wr.heap.size 103 #[.int .i64 x.status, .int .i64 x.why, .slice p1 n1 q1, .slice e1 m1 r1] := fresh_store hV rfl
   have hth := (Blk.new wr 103 #[.int .i64 0, .int .i64 0, .slice none 0 0, .slice none 0 0]).there (n := 4) rfl
   have HV : Hid ((OQ w V #[.string c.hash, .int .i64 c.nonce, .int .i64 c.time, .int .i64 c.next, .int .i64 c.plan, .int .i64 c.err, .slice (some ⟨g, o, none⟩) M pc, .string c.sig] /\ OwnWS V (w.heap.size + 2) (.slice la k lc) P) /\ Blk V wr.heap.size 103 #[.int .i64 x.status, .int .i64 x.why, .slice p1 n1 q1, .slice e1 m1 r1] /\ TxtO V (.slice p1 n1 q1) x.path /\ TxtO V (.slice e1 m1 r1) x.lst /\ x.path.length = n1 /\ x.lst.length = m1) := by
    have hwV : Below w.heap.size w V := H.out.1.2.2.1.trans (hBV.1.mono H.out.1.2.2.1.size)
    exact ⟨⟨H.out.1.below hBV.1, H.out.2.stays hBV.1⟩, hBV.2, hrw.1.below hwV, hrw.2.below hwV, hn1, hm1⟩
   have HN : Hid (c.ans.take (k + 1) = P ++ [x]) := by
    show c.ans.take (k + 1) = P ++ [x]
    rw [HPL.out.2, <- hxe]; exact List.take_succ_eq_append_getElem hkl
   have hgc2 : w.heap.size + 2 <= wr.heap.size := H.out.1.2.2.2
   clear hP hrg0 hs hc hxe hg H hBV hrw hn1 hm1 hkl
   go_upto_region 5 with (first | refine wpList_load_mid rfl 103 _ rfl g (o + k * 4) rfl _ _ hrg Tryz.underlying103 rfl (by kernel_rfl) ?_ | (refine step_storeV rfl 103 _ _ rfl wr.heap.size 0 #[.int .i64 x.status, .int .i64 x.why, .slice p1 n1 q1, .slice e1 m1 r1] rfl rfl hth (by kernel_rfl) (by simp [Value.oneCell']) hV ?_; clear hV hth))
   obtain ⟨gC, hgC⟩ := zE (wr.heap.size)
   rw [hgC] at HV hgc2 |-
   clear hgC
   have E3 := ownAnswer_any x p1 e1 n1 m1 q1 r1 V HV.out.2.2.2.2.1 HV.out.2.2.2.2.2 HV.out.2.2.1 HV.out.2.2.2.1 (by have h1 := hwx.1; have h2 := HV.out.2.2.2.2.1; have h3 := HV.out.2.2.2.2.2; omega) hwx.2
   have m0 := fun j => HV.out.2.1.cell j
   clear hrg hwx
   go_wp2_with fail
   refine E3.mono ?_
   rintro e w3 ⟨u3, rfl, ho3, hb3⟩
   obtain ⟨p3, q3, e3, r3, hu3⟩ := AwO.shape (OwnW.o ho3)
   rw [HV.out.2.2.2.2.1, HV.out.2.2.2.2.2] at hu3
   subst hu3
   have H4 : Hid ((∃ fp, OwnS awWd w3 (w.heap.size + 2) (.slice la k lc) P fp /\ ∀ z ∈ fpW (awV x (.slice p3 n1 q3) (.slice e3 m1 r3)), z ∉ fp) /\ OwnW w3 V.heap.size (awV x (.slice p3 n1 q3) (.slice e3 m1 r3)) x /\ OQ w w3 #[.string c.hash, .int .i64 c.nonce, .int .i64 c.time, .int .i64 c.next, .int .i64 c.plan, .int .i64 c.err, .slice (some ⟨g, o, none⟩) M pc, .string c.sig] /\ w.heap.size + 2 <= V.heap.size) := by
    refine ⟨?_, ho3, HV.out.1.1.below hb3, HV.out.1.1.2.2.2⟩
    obtain ⟨fp, hf⟩ := HV.out.1.2
    exact ⟨fp, hf.stays hb3, fun z hz hzf => by have h5 := (fpW_lt ho3 z hz).1; have := (hf.lt z hzf).2; omega⟩
   clear ho3 hb3 E3 HV m0
   unfold awV
   go_wp2_with (at_builtin; refine wpList_append_ww rfl _ _ rfl (w.heap.size + 2) (.slice la k lc) P x (.slice p3 n1 q3) (.slice e3 m1 r3) rfl w3.heap.size rfl rfl H4.out.1 V.heap.size H4.out.2.1 H4.out.2.2.2 H4.out.2.2.1.2.2.2 (by have := HPL.out.1; omega) ?_)
   intro g9 cap9 w9 ho9 hb9
   have e9 : P.length + 1 = k + 1 := by rw [HPL.out.1]
   have H9 : Hid (OQ w w9 #[.string c.hash, .int .i64 c.nonce, .int .i64 c.time, .int .i64 c.next, .int .i64 c.plan, .int .i64 c.err, .slice (some ⟨g, o, none⟩) M pc, .string c.sig] /\ OwnWS w9 (w.heap.size + 2) (.slice (some ⟨g9, 0, none⟩) (k + 1) cap9) (c.ans.take (k + 1))) := by
    refine ⟨H4.out.2.2.1.low hb9, ?_⟩
    rw [HN.out]
    have h := ho9
    first | (rw [List.length_append, List.length_singleton, e9] at h; exact h) | (rw [e9] at h; exact h)
   try rw [e9]
   clear ho9 hb9 H4 e9 HN HPL
   go_wp2_with fail
   exact ⟨⟨k + 1, by omega, by go_num, H9.out⟩, by simp [intOf]; omega⟩
  ·have hkM : M = k := by omega
   subst hkM
   obtain ⟨fp, hS⟩ := H.out.2
   rw [List.take_of_length_le (by rw [HX.out.2.1]; exact Nat.le_refl _)] at hS
   obtain ⟨la, lc, hlv, -⟩ := hS.shape
   rw [HX.out.2.1] at hlv
   subst hlv
   have HR := zH (zJ H.out.1 (hS : OwnS awWd wr (w.heap.size + 2) (.slice la M lc) c.ans fp))
   clear H hS
   have a0 : wr.cell? ⟨w.heap.size, 0, none⟩ = some (.string c.hash) := HR.out.1.1.cell 0
   have a6 : wr.cell? ⟨w.heap.size, 6, none⟩ = some (.slice pa M pc) := HR.out.1.1.cell 6
   have fz := fun i => HR.out.1.1.free i
   obtain ⟨V1, hV1⟩ : ∃ V, V = wr.setCell ⟨w.heap.size, 6, none⟩ (.slice la M lc) := ⟨_, rfl⟩
   have H1 : Hid (OQ w V1 #[.string c.hash, .int .i64 c.nonce, .int .i64 c.time, .int .i64 c.next, .int .i64 c.plan, .int .i64 c.err, .slice la M lc, .string c.sig] /\ OwnS awWd V1 (w.heap.size + 2) (.slice la M lc) c.ans fp) := by
    rw [hV1]
    exact ⟨HR.out.1.set 6 _ rfl, HR.out.2.same (fun b hb => heap_setCell_other _ _ _ _ (by have := (HR.out.2.lt b hb).1; show b ≠ w.heap.size; omega))⟩
   go_wp2_with fail
   rw [<- hV1]
   clear hV1 a0 a6 fz HR
   refine (cloneB_any c.hash V1 hs1).mono ?_
   rintro e w3 ⟨rfl, hb3⟩
   have H3 := zH (zJ (H1.out.1.below hb3) (H1.out.2.stays hb3))
   clear H1 hb3
   have a7 : w3.cell? ⟨w.heap.size, 7, none⟩ = some (.string c.sig) := H3.out.1.1.cell 7
   have a0 : w3.cell? ⟨w.heap.size, 0, none⟩ = some (.string c.hash) := H3.out.1.1.cell 0
   have fz := fun i => H3.out.1.1.free i
   obtain ⟨V3, hV3⟩ : ∃ V, V = w3.setCell ⟨w.heap.size, 0, none⟩ (.string c.hash) := ⟨_, rfl⟩
   have H4 : Hid (OQ w V3 #[.string c.hash, .int .i64 c.nonce, .int .i64 c.time, .int .i64 c.next, .int .i64 c.plan, .int .i64 c.err, .slice la M lc, .string c.sig] /\ OwnS awWd V3 (w.heap.size + 2) (.slice la M lc) c.ans fp) := by
    rw [hV3]
    exact ⟨H3.out.1.set 0 _ rfl, H3.out.2.same (fun b hb => heap_setCell_other _ _ _ _ (by have := (H3.out.2.lt b hb).1; show b ≠ w.heap.size; omega))⟩
   go_wp2_with fail
   rw [<- hV3]
   clear hV3 a0 a7 fz H3
   refine (cloneB_any c.sig V3 hs2).mono ?_
   rintro e w5 ⟨rfl, hb5⟩
   have H5 := zH (zJ (H4.out.1.below hb5) (H4.out.2.stays hb5))
   clear H4 hb5
   have d0 := fun j => H5.out.1.1.cell j
   have b0 := fun j => H5.out.1.2.1.cell j
   have fd := fun i => H5.out.1.1.free i
   have fb := fun i => H5.out.1.2.1.free i
   have HO : Hid (∀ W', (∀ b, w.heap.size + 2 <= b -> W'.heap[b]? = w5.heap[b]?) -> ∃ fp, OwnRW W' w.heap.size (.agg #[.string c.hash, .int .i64 c.nonce, .int .i64 c.time, .int .i64 c.next, .int .i64 c.plan, .int .i64 c.err, .slice la M lc, .string c.sig]) c fp) := fun W' h =>
    ⟨fp, _, rfl, (H5.out.2.same (fun b hb => h b (H5.out.2.lt b hb).1)).base (by omega)⟩
   have HBl : Hid (Below w.heap.size w w5) := H5.out.1.2.2.1
   clear H5
   go_wp2_with fail
   refine bodyPost_ret (v := .agg #[.string c.hash, .int .i64 c.nonce, .int .i64 c.time, .int .i64 c.next, .int .i64 c.plan, .int .i64 c.err, .slice la M lc, .string c.sig]) (by simp [results, Tryz.results57, go_sem, b0]) rfl ⟨_, rfl, HO.out _ ?far, ?bel⟩
   case far =>
    intro b hb
    iterate 9 rw [heap_setCell_other _ _ _ _ (by first | (show b ≠ w.heap.size + 1; omega) | (show b ≠ w.heap.size; omega))]
   case bel =>
    iterate 9 refine Below.setCell ?_ (by first | (show w.heap.size <= w.heap.size + 1; omega) | (show w.heap.size <= w.heap.size; omega)) _
    exact HBl.out
end Go.Proofs.YtagmnlmfoanelaaGreat
namespace Go.Proofs.YtagmnlmfoanelaaGreat
open Go.RowKit
set_option linter.unusedVariables false
set_option linter.unusedSimpArgs false
theorem gotIs_any (c : Gt) (p : Value) (gd : Nat) (id : Int) (w : World) (hd : w.cell? ⟨gd, 0, none⟩ = some (.int .i64 id)) :
  Calls Tryz.prog 86 #[gtV c p, .pointer (some ⟨gd, 0, none⟩)] w fun e w' => e = .returned (.bool (decide (c.id = id))) /\ Below w.heap.size w w' := by
 have hlt := lt_of_cell hd
 obtain ⟨B, hB⟩ := zE (c.id)
 unfold gtV
 rw [hB]
 clear hB
 obtain ⟨V, hV⟩ : ∃ V, V = w.alloc (Obj.cells #[.int .i64 B, .string c.rp.hash, .int .i64 c.rp.nonce, .int .i64 c.rp.time, .int .i64 c.rp.next, .int .i64 c.rp.plan, .int .i64 c.rp.err, p, .string c.rp.sig] 81) := ⟨_, rfl⟩
 have HV : Hid (Below w.heap.size w V) := by rw [hV]; exact (Below.refl _ _).alloc (Nat.le_refl _) _
 have c0 : V.cell? ⟨w.heap.size, 0, none⟩ = some (.int .i64 B) := by rw [hV]; exact (Blk.new _ _ _).cell 0
 have d0 : V.cell? ⟨gd, 0, none⟩ = some (.int .i64 id) := (HV.out.cell (p := ⟨gd, 0, none⟩) hlt).trans hd
 clear hd hlt
 go_enter Tryz.func86, Tryz.ntmps86
 go_upto_region 1 with fail
 rw [<- hV]
 clear hV
 by_cases hz : B = id
 ·have hzb : (B == id) = true := beq_iff_eq.2 hz
  have HQ : Hid (decide (B = id) = true) := decide_eq_true hz
  clear hz
  go_wp2_with fail
  go_ret
  exact ⟨by rw [HQ.out]; first | rfl | simp [hzb], HV.out⟩
 ·have hzb : (B == id) = false := beq_eq_false_iff_ne.2 hz
  have HQ : Hid (decide (B = id) = false) := decide_eq_false hz
  clear hz
  go_wp2_with fail
  go_ret
  exact ⟨by rw [HQ.out]; first | rfl | simp [hzb], HV.out⟩
theorem indexGot_any (l : List Gt) (v : Value) (gd : Nat) (id : Int) (w : World) (hl : l.length <= 1000000000) (hd : w.cell? ⟨gd, 0, none⟩ = some (.int .i64 id)) (ha : AtX gtW w v l) :
  Calls Tryz.prog 85 #[v, .func (.func 86) #[] #[.pointer (some ⟨gd, 0, none⟩)]] w fun e w' => e = .returned (.int .i64 (idAt Gt.id l id 0)) /\ Below w.heap.size w w' := by
 obtain ⟨pa, pc, hpa⟩ := ha.shape
 obtain ⟨n, hn⟩ := zE (l.length)
 rw [hn] at hpa hl
 subst hpa
 obtain ⟨R, hR⟩ := zE (idAt Gt.id l id 0)
 have HT : Hid (AtX gtW w (.slice pa n pc) l /\ l.length = n) := ⟨ha, hn⟩
 have HR : Hid (idAt Gt.id (l.drop 0) id 0 = R) := hR
 have HCL : Hid (∀ (c : Gt) (p : Value) (W : World), Below w.heap.size w W -> Calls Tryz.prog 86 #[gtV c p, .pointer (some ⟨gd, 0, none⟩)] W fun e w' => e = .returned (.bool (decide (c.id = id))) /\ Below W.heap.size W w') := fun c p W hb => gotIs_any c p gd id W ((hb.cell (p := ⟨gd, 0, none⟩) (lt_of_cell hd)).trans hd)
 rw [hR]
 clear ha hn hR hd
 go_enter Tryz.func85, Tryz.ntmps85
 go_wp2_with fail
 go_loopw [8] (fun iv wr => ∃ k : Nat, k <= n /\ iv = .int .i64 k /\ Hid (idAt Gt.id (l.drop k) id k = R /\ Below w.heap.size w wr)) (fun iv _ => n - (intOf iv).toNat)
 case atStart => exact ⟨0, Nat.zero_le _, rfl, HR.out, Below.refl _ _⟩
 case round =>
  obtain ⟨k, hk, rfl, H⟩ := hrel
  by_cases hlt : k < n
  ·have hkl : k < l.length := by rw [HT.out.2]; exact hlt
   obtain ⟨b, off, u, hao, hbB, hPu, hus, hcell⟩ := HT.out.1.get hkl
   obtain ⟨pa, pc, hu⟩ := GtAt.shape hPu
   have hst := idAt_drop (f := Gt.id) (id := id) hkl
   obtain ⟨x, hx⟩ := zE (l[k])
   rw [hx] at hu hst
   obtain ⟨lp, hlp⟩ := zE (x.rp.ans.length)
   rw [hlp] at hu
   have hcb := fun i z (hz : u.cells[i]? = some z) => (H.out.2.cell (p := ⟨b, off + k * 9 + i, none⟩) (by show b < w.heap.size; exact hbB)).trans (hcell i z hz)
   subst hao hu
   have u0 : wr.cell? ⟨b, off + k * 9, none⟩ = some (.int .i64 x.id) := hcb 0 _ rfl
   have u1 : wr.cell? ⟨b, off + k * 9 + 1, none⟩ = some (.string x.rp.hash) := hcb 1 _ rfl
   have u2 : wr.cell? ⟨b, off + k * 9 + 2, none⟩ = some (.int .i64 x.rp.nonce) := hcb 2 _ rfl
   have u3 : wr.cell? ⟨b, off + k * 9 + 3, none⟩ = some (.int .i64 x.rp.time) := hcb 3 _ rfl
   have u4 : wr.cell? ⟨b, off + k * 9 + 4, none⟩ = some (.int .i64 x.rp.next) := hcb 4 _ rfl
   have u5 : wr.cell? ⟨b, off + k * 9 + 5, none⟩ = some (.int .i64 x.rp.plan) := hcb 5 _ rfl
   have u6 : wr.cell? ⟨b, off + k * 9 + 6, none⟩ = some (.int .i64 x.rp.err) := hcb 6 _ rfl
   have u7 : wr.cell? ⟨b, off + k * 9 + 7, none⟩ = some (.slice pa lp pc) := hcb 7 _ rfl
   have u8 : wr.cell? ⟨b, off + k * 9 + 8, none⟩ = some (.string x.rp.sig) := hcb 8 _ rfl
   have EA := HCL.out x (.slice pa lp pc) wr H.out.2
   obtain ⟨B, hB⟩ := zE (decide (x.id = id))
   rw [hB] at EA
   have HB : Hid (decide (x.id = id) = B) := hB
   rw [H.out.1] at hst
   have HS : Hid (R = if x.id = id then (k : Int) else idAt Gt.id (l.drop (k + 1)) id (k + 1)) := hst
   have HW : Hid (Below w.heap.size w wr) := H.out.2
   have hki : (k : Int) < (n : Int) := by omega
   have hk0 : (0 : Int) <= (k : Int) := by omega
   clear hcb hcell hPu hus hbB hx hB hst H hlp
   unfold gtV at EA
   go_wp2_with fail
   refine EA.mono ?_
   rintro e w2 ⟨rfl, hb⟩
   have G2 : Hid (Below w.heap.size w w2) := HW.out.trans (hb.mono HW.out.size)
   clear EA hb HW u0 u1 u2 u3 u4 u5 u6 u7 u8
   cases B with
   | true =>
    have HF : Hid (R = (k : Int)) := by show R = (k : Int); rw [HS.out, if_pos (of_decide_eq_true HB.out)]
    go_wp2_with fail
    go_ret
    exact ⟨by rw [HF.out]; rfl, G2.out⟩
   | false =>
    have HF : Hid (idAt Gt.id (l.drop (k + 1)) id (k + 1) = R) := by show _ = R; rw [HS.out, if_neg (of_decide_eq_false HB.out)]
    go_wp2_with fail
    go_roundw
    case rel => exact ⟨k + 1, by omega, by go_num, HF.out, G2.out⟩
    case measure => simp [intOf]; omega
  ·have hkl : n = k := by omega
   subst hkl
   have HF : Hid (R = -1) := by show R = -1; rw [<- H.out.1]; exact idAt_end (by rw [HT.out.2]; exact Nat.le_refl _)
   go_wp2_with fail
   go_ret
   exact ⟨by rw [HF.out]; rfl, H.out.2⟩
theorem gotOf_any (l : List Gt) (v : Value) (id : Int) (w : World) (hl : l.length <= 1000000000) (ha : AtX gtW w v l) :
  Calls Tryz.prog 71 #[v, .int .i64 id] w fun e w' => e = .returned (.int .i64 (idAt Gt.id l id 0)) /\ Below w.heap.size w w' := by
 have hmf : ∀ (fn : Fn) (first cap : Array Value) (w : World), (Instr.makeFunc fn first cap).run Tryz.prog w = .ok (.func fn first cap) w := fun _ _ _ _ => rfl
 obtain ⟨W0, hW0⟩ : ∃ V, V = w.alloc (Obj.cells #[.int .i64 id] 3) := ⟨_, rfl⟩
 have H0 : Hid (Below w.heap.size w W0) := by rw [hW0]; exact (Below.refl _ _).alloc (Nat.le_refl _) _
 have hd : Blk W0 w.heap.size 3 #[.int .i64 id] := by rw [hW0]; exact Blk.new _ _ _
 have EN := indexGot_any l v w.heap.size id W0 hl (hd.cell 0) (AtX.below ha H0.out)
 obtain ⟨pa, pc, hpa⟩ := ha.shape
 obtain ⟨n, hn⟩ := zE (l.length)
 rw [hn] at hpa
 subst hpa
 obtain ⟨R, hR⟩ := zE (idAt Gt.id l id 0)
 rw [hR] at EN |-
 clear hR hn ha hl hd
 go_enter Tryz.func71, Tryz.ntmps71
 go_upto_region 1 with fail
 rw [<- hW0]
 clear hW0
 go_wp2_with fail
 refine EN.mono ?_
 rintro e w3 ⟨rfl, hb⟩
 have H3 : Hid (Below w.heap.size w w3) := H0.out.trans (hb.mono H0.out.size)
 clear EN hb H0
 go_wp2_with fail
 go_ret
 exact ⟨rfl, H3.out⟩
theorem isFree_any (c : Cn) (v1 v2 v3 : Value) (g : Nat) (id : Int) (w : World) (hl1 : c.waits.length <= 1000000000) (hl2 : c.gots.length <= 1000000000) (hk : Blk w g 35 #[.string c.key, .int .i64 c.now, v1, v2, v3]) (h1 : AtS waKd w v1 c.waits) (h2 : AtX gtW w v2 c.gots) :
  Calls Tryz.prog 51 #[.pointer (some ⟨g, 0, none⟩), .int .i64 id] w fun e w' => e = .returned (.bool (inB id 1 1000000000 && !knB c id)) /\ Below w.heap.size w w' := by
 obtain ⟨pa, qa, hpa⟩ := h1.shape
 obtain ⟨pb, qb, hpb⟩ := h2.shape
 obtain ⟨n1, e1⟩ := zE (c.waits.length)
 obtain ⟨n2, e2⟩ := zE (c.gots.length)
 rw [e1] at hpa
 rw [e2] at hpb
 subst hpa hpb
 obtain ⟨R, hR⟩ := zE ((inB id 1 1000000000 && !knB c id))
 obtain ⟨B1, hB1⟩ := zE (inB id 0 1000000000)
 obtain ⟨x1, hx1⟩ := zE (idAt Wa.id c.waits id 0)
 obtain ⟨x2, hx2⟩ := zE (idAt Gt.id c.gots id 0)
 have h0 := idAt_lo Wa.id c.waits id 0
 have h00 := idAt_lo Gt.id c.gots id 0
 rw [hx1] at h0
 rw [hx2] at h00
 have HR : Hid ((decide (1 <= id /\ id <= 1000000000) && (decide (x1 = -1) && decide (x2 = -1))) = R) := by
  rw [<- hR, <- hx1, <- hx2]
  unfold inB knB
  rw [Bool.not_not]
  exact rfl
 have HB : Hid (decide (0 <= id /\ id <= 1000000000) = B1) := hB1
 have EU : Hid (Calls Tryz.prog 69 #[.int .i64 1000000000, .int .i64 id] w fun e w' => e = .returned (.bool B1) /\ Below w.heap.size w w') := by rw [<- hB1]; exact upTo_any _ _ w
 have EW : Hid (∀ W : World, Below w.heap.size w W -> Calls Tryz.prog 70 #[.slice pa n1 qa, .int .i64 id] W fun e w' => e = .returned (.int .i64 x1) /\ Below W.heap.size W w') := fun W h => by rw [<- hx1]; exact waitOf_any c.waits _ id W hl1 (h1.below h)
 have EG : Hid (∀ W : World, Below w.heap.size w W -> Calls Tryz.prog 71 #[.slice pb n2 qb, .int .i64 id] W fun e w' => e = .returned (.int .i64 x2) /\ Below W.heap.size W w') := fun W h => by rw [<- hx2]; exact gotOf_any c.gots _ id W hl2 (AtX.below h2 h)
 have HK : Hid (Blk w g 35 #[.string c.key, .int .i64 c.now, .slice pa n1 qa, .slice pb n2 qb, v3]) := hk
 rw [hR]
 clear hk h1 h2 hR hB1 hx1 hx2 e1 e2 hl1 hl2
 by_cases hi : 0 < id
 rotate_left
 ·have HF : Hid (R = false) := by
   show R = false
   rw [<- HR.out, decide_eq_false (fun q => hi (by omega))]
   rfl
  clear h0 h00
  go_enter Tryz.func51, Tryz.ntmps51
  go_wp2_with fail
  go_ret
  exact ⟨by rw [HF.out]; first | rfl | simp [hi], Below.refl _ _⟩
 cases B1 with
 | false =>
  have HF : Hid (R = false) := by
   show R = false
   rw [<- HR.out, decide_eq_false (fun q => of_decide_eq_false HB.out (by omega))]
   rfl
  clear h0 h00
  go_enter Tryz.func51, Tryz.ntmps51
  go_wp2_with fail
  refine EU.out.mono ?_
  rintro e w1 ⟨rfl, hb⟩
  have G1 : Hid (Below w.heap.size w w1) := hb
  clear hb EU
  go_wp2_with fail
  go_ret
  exact ⟨by rw [HF.out]; first | rfl | simp [*], G1.out⟩
 | true =>
  have HT : Hid ((decide (x1 = -1) && decide (x2 = -1)) = R) := by
   show _ = R
   rw [<- HR.out, decide_eq_true (p := 1 <= id /\ id <= 1000000000) (by have := of_decide_eq_true HB.out; omega), Bool.true_and]
  clear HR HB
  go_enter Tryz.func51, Tryz.ntmps51
  go_wp2_with fail
  refine EU.out.mono ?_
  rintro e w1 ⟨rfl, hb⟩
  have G1 : Hid (Below w.heap.size w w1) := hb
  have y2 := fun j => (HK.out.below hb HK.out.lt).cell j
  clear hb EU
  go_wp2_with fail
  refine (EW.out w1 G1.out).mono ?_
  rintro e w2 ⟨rfl, hb⟩
  have G2 : Hid (Below w.heap.size w w2) := G1.out.trans (hb.mono G1.out.size)
  have y3 := fun j => (HK.out.below G2.out HK.out.lt).cell j
  clear hb EW G1 y2
  rcases h0 with rfl | h0
  rotate_left
  ·have h0n : ¬ x1 < 0 := by omega
   have HF : Hid (R = false) := by
    show R = false
    rw [<- HT.out, decide_eq_false (fun q => h0n (by omega))]
    rfl
   clear h00 h0
   go_wp2_with fail
   go_ret
   exact ⟨by rw [HF.out]; first | rfl | simp [*], G2.out⟩
  go_wp2_with fail
  refine (EG.out w2 G2.out).mono ?_
  rintro e w3 ⟨rfl, hb⟩
  have G3 : Hid (Below w.heap.size w w3) := G2.out.trans (hb.mono G2.out.size)
  clear hb EG G2 y3
  rcases h00 with rfl | h00
  ·have HF : Hid (R = true) := by
    show R = true
    rw [<- HT.out]
    rfl
   go_wp2_with fail
   go_ret
   exact ⟨by rw [HF.out]; first | rfl | simp [*], G3.out⟩
  ·have h0n : ¬ x2 < 0 := by omega
   have HF : Hid (R = false) := by
    show R = false
    rw [<- HT.out, decide_eq_false (p := x2 = -1) (fun q => h0n (by omega))]
    rfl
   clear h00
   go_wp2_with fail
   go_ret
   exact ⟨by rw [HF.out]; first | rfl | simp [*], G3.out⟩
theorem mayWait_any (c : Cn) (v1 v2 v3 : Value) (g : Nat) (span : Int) (w : World) (hk : Blk w g 35 #[.string c.key, .int .i64 c.now, v1, v2, v3]) (h1 : AtS waKd w v1 c.waits) :
  Calls Tryz.prog 52 #[.pointer (some ⟨g, 0, none⟩), .int .i64 span] w fun e w' => e = .returned (.bool (decide (c.waits.length < 4) && (inB span 1 999 && inB c.now 0 99999))) /\ Below w.heap.size w w' := by
 obtain ⟨pa, qa, hpa⟩ := h1.shape
 obtain ⟨n1, e1⟩ := zE (c.waits.length)
 rw [e1] at hpa |-
 subst hpa
 obtain ⟨R, hR⟩ := zE ((decide (n1 < 4) && (inB span 1 999 && inB c.now 0 99999)))
 obtain ⟨B1, hB1⟩ := zE (inB span 0 999)
 obtain ⟨B2, hB2⟩ := zE (inB c.now 0 99999)
 have HR : Hid ((decide (n1 < 4) && (decide (1 <= span /\ span <= 999) && B2)) = R) := by rw [<- hR, <- hB2]; rfl
 have HB : Hid (decide (0 <= span /\ span <= 999) = B1) := hB1
 have EU : Hid (∀ W : World, Calls Tryz.prog 69 #[.int .i64 999, .int .i64 span] W fun e w' => e = .returned (.bool B1) /\ Below W.heap.size W w') := fun W => by rw [<- hB1]; exact upTo_any _ _ W
 have EV : Hid (∀ W : World, Calls Tryz.prog 69 #[.int .i64 99999, .int .i64 c.now] W fun e w' => e = .returned (.bool B2) /\ Below W.heap.size W w') := fun W => by rw [<- hB2]; exact upTo_any _ _ W
 have HK : Hid (Blk w g 35 #[.string c.key, .int .i64 c.now, .slice pa n1 qa, v2, v3]) := hk
 have y2 := fun j => hk.cell j
 rw [hR]
 clear hk h1 hR hB1 hB2 e1
 by_cases hn : n1 < 4
 rotate_left
 ·have hni : ¬ (n1 : Int) < 4 := by omega
  have HF : Hid (R = false) := by
   show R = false
   rw [<- HR.out, decide_eq_false hn]
   rfl
  clear hn
  go_enter Tryz.func52, Tryz.ntmps52
  go_wp2_with fail
  go_ret
  exact ⟨by rw [HF.out]; first | rfl | simp [*], Below.refl _ _⟩
 have hni : (n1 : Int) < 4 := by omega
 by_cases hi : 0 < span
 rotate_left
 ·have HF : Hid (R = false) := by
   show R = false
   rw [<- HR.out, decide_eq_false (p := 1 <= span /\ span <= 999) (fun q => hi (by omega)), Bool.false_and, Bool.and_false]
  clear hn
  go_enter Tryz.func52, Tryz.ntmps52
  go_wp2_with fail
  go_ret
  exact ⟨by rw [HF.out]; first | rfl | simp [*], Below.refl _ _⟩
 cases B1 with
 | false =>
  have HF : Hid (R = false) := by
   show R = false
   rw [<- HR.out, decide_eq_false (p := 1 <= span /\ span <= 999) (fun q => of_decide_eq_false HB.out (by omega)), Bool.false_and, Bool.and_false]
  clear hn
  go_enter Tryz.func52, Tryz.ntmps52
  go_wp2_with fail
  refine (EU.out _).mono ?_
  rintro e w1 ⟨rfl, hb⟩
  have G1 : Hid (Below w.heap.size w w1) := hb
  clear hb EU
  go_wp2_with fail
  go_ret
  exact ⟨by rw [HF.out]; first | rfl | simp [*], G1.out⟩
 | true =>
  have HT : Hid (B2 = R) := by
   show _ = R
   rw [<- HR.out, decide_eq_true hn, decide_eq_true (p := 1 <= span /\ span <= 999) (by have := of_decide_eq_true HB.out; omega), Bool.true_and, Bool.true_and]
  clear HR HB hn
  go_enter Tryz.func52, Tryz.ntmps52
  go_wp2_with fail
  refine (EU.out _).mono ?_
  rintro e w1 ⟨rfl, hb⟩
  have G1 : Hid (Below w.heap.size w w1) := hb
  have y1 := fun j => (HK.out.below hb HK.out.lt).cell j
  clear hb EU y2
  go_wp2_with fail
  refine (EV.out w1).mono ?_
  rintro e w2 ⟨rfl, hb⟩
  have G2 : Hid (Below w.heap.size w w2) := G1.out.trans (hb.mono G1.out.size)
  clear hb EV G1 y1
  go_wp2_with fail
  go_ret
  exact ⟨by rw [HT.out]; rfl, G2.out⟩
theorem sentWith_any (a : Ak) (v : Value) (id : Int) (w : World) (ha : AkAt w v a) :
  Calls Tryz.prog 53 #[v, .int .i64 id] w fun e w' => e = .returned (.int .i64 (sentN a id)) /\ Below w.heap.size w w' := by
 obtain ⟨pt, rfl, -⟩ := ha
 obtain ⟨N, hN⟩ := zE (sentN a id)
 obtain ⟨B, hB⟩ := zE (a.cac)
 have HN : Hid ((if B = true then 0 else id) = N) := by rw [<- hB]; exact hN
 rw [hN]
 unfold akV
 rw [hB]
 clear hN hB
 cases B with
 | true =>
  have HF : Hid (N = 0) := HN.out.symm
  go_enter Tryz.func53, Tryz.ntmps53
  go_wp2_with fail
  go_ret
  exact ⟨by rw [HF.out]; rfl, by first | exact (Below.refl _ _).alloc (Nat.le_refl _) _ | exact Below.refl _ _⟩
 | false =>
  have HF : Hid (N = id) := HN.out.symm
  go_enter Tryz.func53, Tryz.ntmps53
  go_wp2_with fail
  go_ret
  exact ⟨by rw [HF.out]; rfl, by first | exact (Below.refl _ _).alloc (Nat.le_refl _) _ | exact Below.refl _ _⟩
end Go.Proofs.YtagmnlmfoanelaaGreat
