/-
  Texts of the proof.
-/
import Derived.Test.YtllmgjfffkhocaaPO13
set_option maxRecDepth 100000
set_option maxHeartbeats 25600000
namespace Go.Proofs.Ytllmgjfffkhocaa
open Go.RowKit Go.ChangeShapes
set_option linter.unusedVariables false
theorem pickA {n : Nat} {P : Nat -> An -> Prop} (h : ∀ j, j < n -> ∃ y, P j y) : ∃ l : List An, ∃ hl : l.length = n, ∀ j (hj : j < l.length), P j l[j] := by
 induction n with
 | zero => exact ⟨[], rfl, fun j hj => absurd hj (Nat.not_lt_zero _)⟩
 | succ n ih =>
  obtain ⟨l, hl, hP⟩ := ih fun j hj => h j (by omega)
  obtain ⟨y, hy⟩ := h n (by omega)
  refine ⟨l ++ [y], by simp [hl], fun j hj => ?_⟩
  by_cases e : j < l.length
  ·rw [List.getElem_append_left e]
   exact hP j e
  ·have e2 : j = l.length := by simp at hj; omega
   subst e2
   simpa [hl] using hy
theorem cellsAnchor : Try.prog.cellsOf 110 = 2 := by kernel_rfl
theorem anchor_of_trod {H : Type} {enc : TypeId × Value -> H} {W : World} {fuel : Nat} {cs : List Value} {x : DataW H × List MemPlace} (h : DataW.trod enc Try.prog W 0 (fun _ => true) true fuel 110 cs = some x) :
  ∃ a : An, Value.agg cs.toArray = anV a /\ WdA a := by
 obtain ⟨xs, m, rfl, hx, hl, hxl, hall⟩ := DataW.trod_struct Try.underlying110 h
 rw [cellsAnchor] at hl
 obtain ⟨x0, x1, rfl⟩ : ∃ x0 x1, xs = [x0, x1] := by
  match xs, hxl with
  | [x0, x1], _ => exact ⟨x0, x1, rfl⟩
 have f0 := hall 0 _ rfl
 change DataW.trod _ _ _ _ _ _ _ 9 ((cs.drop 0).take (Try.prog.cellsOf 9)) = some x0 at f0
 rw [cS] at f0
 obtain ⟨v0, h0, _, w0⟩ := DataW.trod_string Try.underlying9 f0
 have g0 := take_one h0
 have f1 := hall 1 _ rfl
 change DataW.trod _ _ _ _ _ _ _ 9 ((cs.drop 1).take (Try.prog.cellsOf 9)) = some x1 at f1
 rw [cS] at f1
 obtain ⟨v1, h1, _, w1⟩ := DataW.trod_string Try.underlying9 f1
 have g1 := take_one h1
 have hcs : cs = [.string v0, .string v1] := by
  match cs, hl with
  | [y0, y1], _ =>
   simp at g0 g1
   rw [g0, g1]
 refine ⟨⟨v0, v1⟩, by rw [hcs]; rfl, ?_⟩
 unfold maxLen at w0 w1
 exact ⟨w0, w1⟩
theorem anchors_in {H : Type} {enc : TypeId × Value -> H} {W : World} {fuel : Nat} {cs : List Value} {x : DataW H × List MemPlace} (h : DataW.trod enc Try.prog W 0 (fun _ => true) true fuel 25 cs = some x) :
  ∃ ao cap, ∃ l : List An, cs = [.slice ao l.length cap] /\ l.length <= maxLen /\ (∀ c ∈ l, WdA c) /\ ArgN W.heap.size W (.slice ao l.length cap) l := by
 rcases DataW.trod_slice Try.underlying25 h with ⟨h0, _⟩ | ⟨a, len, cap, elems, rest, q, hq, hc, _, hb, hlc, hcm, hel, helem, _, _⟩
 ·exact ⟨none, 0, [], h0, Nat.zero_le _, fun x hx => by simp at hx, none, 0, rfl, fun j hj => by simp at hj⟩
 ·have each : ∀ j, j < len -> ∃ c : An, ∃ u : Value, u = anV c /\ WdA c /\ u.cells.size = 2 /\ ∀ i x, u.cells[i]? = some x -> W.cell? (a.add (j * 2 + i)) = some x := by
   intro j hj
   have he := helem j hj
   rw [cellsAnchor] at he
   obtain ⟨z, hz⟩ : ∃ z, elems[j]? = some z := ⟨elems[j]'(by omega), by simp [show j < elems.length by omega]⟩
   rw [hz, Option.bind_eq_some_iff] at he
   obtain ⟨cs2, hcs2, htr⟩ := he
   obtain ⟨c, hv, hwd⟩ := anchor_of_trod htr
   have hsome := World.cells?_some hcs2
   refine ⟨c, anV c, rfl, hwd, rfl, fun i x hx => ?_⟩
   have hcl : (anV c).cells = cs2.toArray := by rw [<- hv]; rfl
   rw [hcl] at hx
   have hi : i < cs2.length := by have := (Array.getElem?_eq_some_iff.1 hx).1; simpa using this
   have h3 := hsome.2.2 i (by omega)
   rw [Addr.add_add] at h3
   rw [h3]
   simpa using hx
  obtain ⟨l, hl, hP⟩ := pickA each
  refine ⟨some a, cap, l, by rw [hl]; exact hc, by rw [hl]; exact Nat.le_trans hlc hcm, fun y hy => ?_, some a, cap, rfl, fun j hj => ?_⟩
  ·obtain ⟨j, hj, rfl⟩ := List.getElem_of_mem hy
   obtain ⟨u, _, h2, _⟩ := hP j hj
   exact h2
  ·obtain ⟨u, h1, h2, h3, h4⟩ := hP j hj
   obtain ⟨x0, hx0⟩ : ∃ x, u.cells[0]? = some x := ⟨u.cells[0]'(by omega), Array.getElem?_eq_getElem _⟩
   have c0 := h4 0 x0 hx0
   obtain ⟨u', _, _, g3, g4⟩ := hP 0 (by omega)
   obtain ⟨y0, hy0⟩ : ∃ x, u'.cells[0]? = some x := ⟨u'.cells[0]'(by omega), Array.getElem?_eq_getElem _⟩
   have d0 := g4 0 y0 hy0
   obtain ⟨b, off, spot⟩ := a
   have hspot : spot = none := by simpa [Addr.add] using World.cell?_spot d0
   subst hspot
   rw [Addr.add_lit] at c0
   refine ⟨b, off, u, rfl, lt_of_cell c0, h1, h3, fun i x hx => ?_⟩
   have := h4 i x hx
   rw [Addr.add_lit, <- Nat.add_assoc] at this
   exact this
end Go.Proofs.Ytllmgjfffkhocaa
namespace Go.Proofs.Ytllmgjfffkhocaa
open Go.RowKit
set_option linter.unusedVariables false
set_option linter.unusedSimpArgs false
theorem toCertS_any (v : Value) (l : List Ct) (B : Nat) (w : World) (hl : wtM l <= 1048576) (hB : B <= w.heap.size) (ha : ArgM B w v l) :
  Calls Try.prog 39 #[v] w fun e w' => ∃ u fp, e = .returned u /\ OwnS certKd w' w.heap.size u l fp /\ Below w.heap.size w w' := by
 obtain ⟨i0, hi, hz0, hz1, hz2⟩ := info_parts infoCert
 obtain ⟨a0, cap, hv⟩ := ha.shape
 obtain ⟨len, hlen⟩ := zE (l.length)
 rw [hlen] at hv
 subst hv
 have hl20 : len <= 1048576 := by unfold wtM at hl; omega
 have HA : Hid (ArgM B w (.slice a0 len cap) l /\ l.length = len /\ wtM l <= 1048576) := ⟨ha, hlen, hl⟩
 clear ha hlen hl
 go_enter Try.func39, Try.ntmps39
 go_wp2_with (at_make; refine wpList_make_full _ rfl _ _ 33 rfl w.heap.size 112 i0 (.agg #[.int .i64 0, .string ⟨#[]⟩, .string ⟨#[]⟩, .int .i64 0, .int .i64 0, .string ⟨#[]⟩, .bool false, .int .i64 0, .int .i64 0, .slice none 0 0, .slice none 0 0, .slice none 0 0, .string ⟨#[]⟩]) 13 Try.underlying33 hi hz0 hz1 .i64 .i64 _ _ len rfl rfl ?m0 ?m1 ?m2 ?m3 ?m4 ?_)
 case m0 => simp
 case m1 => simp
 case m2 => rw [hz2]; omega
 case m3 => unfold maxLen; omega
 case m4 => exact Nat.le_refl _
 intro w1 hown hgrow
 have HO : Hid (∃ fp, OwnS certKd w1 w.heap.size (.slice (some ⟨w.heap.size, 0, none⟩) len len) (l.take 0 ++ List.replicate (l.length - 0) zeC) fp /\ Below w.heap.size w w1) := by
  refine ⟨[w.heap.size], ?_, (Below.refl _ _).grown hgrow (Nat.le_refl _) (fun j hj => by cases hj)⟩
  rw [List.take_zero, List.nil_append, Nat.sub_zero, HA.out.2.1]
  exact OwnS.zeros certKd (own_zeC _ _) rfl (by have h2 : (madeCells zeCV.cells (len * 13)).toList = cellsV (List.replicate len zeCV) := made_cellsV zeCV len (by decide); rw [<- h2]; exact hown)
 clear hown hgrow
 go_wp2_with fail
 go_loopw [4] (fun iv wr => ∃ k : Nat, k <= len /\ iv = .int .i64 k /\ Hid (∃ fp, OwnS certKd wr w.heap.size (.slice (some ⟨w.heap.size, 0, none⟩) len len) (l.take k ++ List.replicate (l.length - k) zeC) fp /\ Below w.heap.size w wr)) (fun iv _ => len - (intOf iv).toNat)
 case atStart => exact ⟨0, Nat.zero_le _, rfl, HO.out⟩
 case round =>
  obtain ⟨k, hk, rfl, H⟩ := hrel
  clear HO
  by_cases hkn : k < len
  ·have hkl : k < l.length := by rw [HA.out.2.1]; exact hkn
   obtain ⟨b, off, u, hao, hbB, hPu, hus, hcell⟩ := HA.out.1.get hkl
   obtain ⟨ap, aq, ep, eq, dp, dq, hu⟩ := hPu.shape
   subst hao
   obtain ⟨fp, hO, hBl⟩ := H.out
   have HP : Hid (ArgC w.heap.size wr u l[k]) := (hPu.mono hB).below hBl
   have hcb := fun i x (hx : u.cells[i]? = some x) => (hBl.cell (p := ⟨b, off + k * 13 + i, none⟩) (by show b < w.heap.size; omega)).trans (hcell i x hx)
   obtain ⟨c, hc⟩ := zE (l[k])
   rw [hc] at HP hu
   have HR := toCert_any c u w.heap.size wr (by have h1 := wtM_mem (List.getElem_mem hkl); rw [hc] at h1; exact wt_lens (Nat.le_trans h1 HA.out.2.2)) hBl.size HP.out
   subst hu
   have u0 : wr.cell? ⟨b, off + k * 13, none⟩ = some (.int .i64 c.serial) := hcb 0 _ rfl
   have u1 : wr.cell? ⟨b, off + k * 13 + 1, none⟩ = some (.string c.issuer) := hcb 1 _ rfl
   have u2 : wr.cell? ⟨b, off + k * 13 + 2, none⟩ = some (.string c.subject) := hcb 2 _ rfl
   have u3 : wr.cell? ⟨b, off + k * 13 + 3, none⟩ = some (.int .i64 c.frm) := hcb 3 _ rfl
   have u4 : wr.cell? ⟨b, off + k * 13 + 4, none⟩ = some (.int .i64 c.upto) := hcb 4 _ rfl
   have u5 : wr.cell? ⟨b, off + k * 13 + 5, none⟩ = some (.string c.key) := hcb 5 _ rfl
   have u6 : wr.cell? ⟨b, off + k * 13 + 6, none⟩ = some (.bool c.ca) := hcb 6 _ rfl
   have u7 : wr.cell? ⟨b, off + k * 13 + 7, none⟩ = some (.int .i64 c.pathLen) := hcb 7 _ rfl
   have u8 : wr.cell? ⟨b, off + k * 13 + 8, none⟩ = some (.int .i64 c.usage) := hcb 8 _ rfl
   have u9 : wr.cell? ⟨b, off + k * 13 + 9, none⟩ = some (.slice ap c.pol.length aq) := hcb 9 _ rfl
   have u10 : wr.cell? ⟨b, off + k * 13 + 10, none⟩ = some (.slice ep c.per.length eq) := hcb 10 _ rfl
   have u11 : wr.cell? ⟨b, off + k * 13 + 11, none⟩ = some (.slice dp c.den.length dq) := hcb 11 _ rfl
   have u12 : wr.cell? ⟨b, off + k * 13 + 12, none⟩ = some (.string c.sig) := hcb 12 _ rfl
   have HN : Hid (∀ (w3 : World) (p e d : Value), Below wr.heap.size wr w3 -> OwnC w3 wr.heap.size (ctV c p e d) c -> ∃ fp, OwnS certKd (w3.setCells w.heap.size (k * 13) [.int .i64 c.serial, .string c.issuer, .string c.subject, .int .i64 c.frm, .int .i64 c.upto, .string c.key, .bool c.ca, .int .i64 c.pathLen, .int .i64 c.usage, p, e, d, .string c.sig]) w.heap.size (.slice (some ⟨w.heap.size, 0, none⟩) len len) (l.take (k + 1) ++ List.replicate (l.length - (k + 1)) zeC) fp /\ Below w.heap.size w (w3.setCells w.heap.size (k * 13) [.int .i64 c.serial, .string c.issuer, .string c.subject, .int .i64 c.frm, .int .i64 c.upto, .string c.key, .bool c.ca, .int .i64 c.pathLen, .int .i64 c.usage, p, e, d, .string c.sig])) := fun w3 p e d hb hop => by
    have h2 := (hO.stays hb).put (j := k) (by rw [fillM_len (Nat.le_of_lt hkl)]; exact HA.out.2.1.symm) (by rw [fillM_len (Nat.le_of_lt hkl)]; exact hkl) (hop.base hBl.size) (fun y hy hm => by have h3 := fpC_lt hop y hy; have h4 := hO.lt y hm; omega)
    obtain ⟨fp', h2, _⟩ := h2
    rw [<- hc, fillM_set hkl] at h2
    rw [<- hc]
    have e1 : w3.setCells w.heap.size (k * 13) [.int .i64 l[k].serial, .string l[k].issuer, .string l[k].subject, .int .i64 l[k].frm, .int .i64 l[k].upto, .string l[k].key, .bool l[k].ca, .int .i64 l[k].pathLen, .int .i64 l[k].usage, p, e, d, .string l[k].sig] = putCells w3 w.heap.size (k * 13) (ctV l[k] p e d).cells.toList := (putCells_set _ _ _ _).symm
    rw [e1]
    refine ⟨fp', h2, ?_⟩
    exact (hBl.trans (hb.mono hBl.size)).trans ((putCells_out _ _ _ _).below (fun b hb => by rw [List.mem_singleton.1 hb]; exact Nat.le_refl _) (hBl.trans (hb.mono hBl.size)).size)
   have HC : Hid (∀ w3, Below wr.heap.size wr w3 -> w3.there w.heap.size (k * 13) 13) := fun w3 hb => by
    obtain ⟨⟨u, hu, _, hcs⟩, hfz⟩ := (hO.stays hb).cellsM (j := k) (by rw [fillM_len (Nat.le_of_lt hkl)]; exact HA.out.2.1.symm) (by rw [fillM_len (Nat.le_of_lt hkl)]; exact hkl)
    obtain ⟨p, e, d, rfl, _⟩ := hu
    intro j hj
    refine ⟨?_, hfz _⟩
    have h13 : j < (ctV ((l.take k ++ List.replicate (l.length - k) zeC)[k]'(by rw [fillM_len (Nat.le_of_lt hkl)]; exact hkl)) p e d).cells.size := hj
    rw [hcs j _ (Array.getElem?_eq_getElem h13)]
    rfl
   clear H hO hBl HP hcb hcell hPu hus hbB hc hkl
   have hki : (k : Int) < (len : Int) := by omega
   have hk0 : (0 : Int) <= (k : Int) := by omega
   unfold ctV at HR HN
   go_wp2_with fail
   refine HR.mono ?_
   rintro e w3 ⟨v3, rfl, ⟨p3, e3, d3, rfl, ho3, ho4, ho5, hap⟩, hb3⟩
   have hth := HC.out w3 hb3
   have HN3 := HN.out w3 p3 e3 d3 hb3 ⟨p3, e3, d3, rfl, ho3, ho4, ho5, hap⟩
   obtain ⟨qa, qc, hq3, -⟩ := ho3.at
   obtain ⟨qe, qf, hq4, -⟩ := ho4.at
   obtain ⟨qg, qh, hq5, -⟩ := ho5.at
   subst hq3 hq4 hq5
   clear HN HC hb3 u0 u1 u2 u3 u4 u5 u6 u7 u8 u9 u10 u11 u12 HR ho3 ho4 ho5 hap
   have HN : Hid _ := HN3
   clear HN3
   unfold ctV
   obtain ⟨VV, hVV⟩ : ∃ V, V = w3.setCells w.heap.size (k * 13) #[.int .i64 c.serial, .string c.issuer, .string c.subject, .int .i64 c.frm, .int .i64 c.upto, .string c.key, .bool c.ca, .int .i64 c.pathLen, .int .i64 c.usage, .slice qa c.pol.length qc, .slice qe c.per.length qf, .slice qg c.den.length qh, .string c.sig].toList := ⟨_, rfl⟩
   have HNV : Hid (∃ fp, OwnS certKd VV w.heap.size (.slice (some ⟨w.heap.size, 0, none⟩) len len) (l.take (k + 1) ++ List.replicate (l.length - (k + 1)) zeC) fp /\ Below w.heap.size w VV) := by rw [hVV]; exact HN.out
   clear HN
   go_wp2_with (refine step_storeV rfl 112 _ _ rfl w.heap.size (k * 13) #[.int .i64 c.serial, .string c.issuer, .string c.subject, .int .i64 c.frm, .int .i64 c.upto, .string c.key, .bool c.ca, .int .i64 c.pathLen, .int .i64 c.usage, .slice qa c.pol.length qc, .slice qe c.per.length qf, .slice qg c.den.length qh, .string c.sig] rfl rfl hth (by kernel_rfl) (by simp [Value.oneCell']) hVV ?_; clear hVV hth)
   go_roundw
   case rel => exact ⟨k + 1, by omega, by go_num, HNV.out⟩
   case measure => simp [intOf]; omega
  ·have hkl : k = len := by omega
   subst hkl
   go_wp2
   go_ret
   obtain ⟨fp, hO, hBl⟩ := H.out
   refine ⟨_, fp, rfl, ?_, hBl⟩
   rw [<- HA.out.2.1, List.take_length, Nat.sub_self, List.replicate_zero, List.append_nil] at hO
   rw [<- HA.out.2.1]
   exact hO
theorem szCertS_any (v : Value) (l : List Ct) (left : Int) (w : World) (hm : l.length <= 9223372036854775807) (hwd : ∀ c ∈ l, WdC c) (h0 : 0 <= left) (hl : left <= 1048576) (ha : ArgM w.heap.size w v l) :
  Calls Try.prog 34 #[v, .int .i64 left] w fun e w' => e = .returned (.int .i64 (if (wtM l : Int) <= left then left - (wtM l : Int) else -1)) /\ Below w.heap.size w w' := by
 obtain ⟨a0, cap, hv⟩ := ha.shape
 obtain ⟨len, hlen⟩ := zE (l.length)
 rw [hlen] at hv hm
 subst hv
 obtain ⟨R, hR⟩ : ∃ r : Int, (if (wtM l : Int) <= left then left - (wtM l : Int) else -1) = r := ⟨_, rfl⟩
 rw [hR]
 have HA : Hid (ArgM w.heap.size w (.slice a0 len cap) l /\ l.length = len /\ (∀ c ∈ l, WdC c) /\ (if (wtM l : Int) <= left then left - (wtM l : Int) else -1) = R) := ⟨ha, hlen, hwd, hR⟩
 clear ha hlen hwd hR
 have w1 : IntKind.i64.wrap (left - (len : Int)) = left - (len : Int) := by rw [IntKind.wrap_i64]; omega
 by_cases hneg : left - (len : Int) < 0
 ·have HRR : Hid (R = -1) := by
   show R = -1
   rw [<- HA.out.2.2.2, if_neg]
   have h1 := HA.out.2.1
   unfold wtM
   omega
  go_enter Try.func34, Try.ntmps34
  go_wp2
  go_ret
  exact ⟨by rw [HRR.out]; rfl, Below.refl _ _⟩
 ·have hll : len <= 1048576 := by omega
  go_enter Try.func34, Try.ntmps34
  go_wp2_with fail
  go_loopw [1, 5] (fun lv iv wr => ∃ k : Nat, ∃ z : Int, k <= len /\ iv = .int .i64 k /\ lv = .int .i64 z /\ 0 <= z /\ z <= 1048576 /\ Hid (z = left - (len : Int) - ((((l.map wtC).take k).sum : Nat) : Int) /\ Below w.heap.size w wr)) (fun _ iv _ => len - (intOf iv).toNat)
  case atStart => exact ⟨0, _, Nat.zero_le _, rfl, rfl, by omega, by omega, by simp, Below.refl _ _⟩
  case round =>
   obtain ⟨k, z, hk, rfl, rfl, hz0, hz1, H⟩ := hrel
   by_cases hkn : k < len
   ·have hkl : k < l.length := by rw [HA.out.2.1]; exact hkn
    obtain ⟨b, off, u, hao, hbB, hPu, hus, hcell⟩ := HA.out.1.get hkl
    obtain ⟨ap, aq, ep, eq, dp, dq, hu⟩ := hPu.shape
    subst hao
    have hBl := H.out.2
    have hcb := fun i x (hx : u.cells[i]? = some x) => (hBl.cell (p := ⟨b, off + k * 13 + i, none⟩) hbB).trans (hcell i x hx)
    obtain ⟨c, hc⟩ := zE (l[k])
    have HP : ArgC wr.heap.size wr u c := by rw [<- hc]; exact (hPu.below hBl).mono hBl.size
    rw [hc] at hu
    have HR := szCert_any c u z wr (by rw [<- hc]; exact HA.out.2.2.1 _ (List.getElem_mem hkl)) hz0 hz1 HP
    subst hu
    have u0 : wr.cell? ⟨b, off + k * 13, none⟩ = some (.int .i64 c.serial) := hcb 0 _ rfl
    have u1 : wr.cell? ⟨b, off + k * 13 + 1, none⟩ = some (.string c.issuer) := hcb 1 _ rfl
    have u2 : wr.cell? ⟨b, off + k * 13 + 2, none⟩ = some (.string c.subject) := hcb 2 _ rfl
    have u3 : wr.cell? ⟨b, off + k * 13 + 3, none⟩ = some (.int .i64 c.frm) := hcb 3 _ rfl
    have u4 : wr.cell? ⟨b, off + k * 13 + 4, none⟩ = some (.int .i64 c.upto) := hcb 4 _ rfl
    have u5 : wr.cell? ⟨b, off + k * 13 + 5, none⟩ = some (.string c.key) := hcb 5 _ rfl
    have u6 : wr.cell? ⟨b, off + k * 13 + 6, none⟩ = some (.bool c.ca) := hcb 6 _ rfl
    have u7 : wr.cell? ⟨b, off + k * 13 + 7, none⟩ = some (.int .i64 c.pathLen) := hcb 7 _ rfl
    have u8 : wr.cell? ⟨b, off + k * 13 + 8, none⟩ = some (.int .i64 c.usage) := hcb 8 _ rfl
    have u9 : wr.cell? ⟨b, off + k * 13 + 9, none⟩ = some (.slice ap c.pol.length aq) := hcb 9 _ rfl
    have u10 : wr.cell? ⟨b, off + k * 13 + 10, none⟩ = some (.slice ep c.per.length eq) := hcb 10 _ rfl
    have u11 : wr.cell? ⟨b, off + k * 13 + 11, none⟩ = some (.slice dp c.den.length dq) := hcb 11 _ rfl
    have u12 : wr.cell? ⟨b, off + k * 13 + 12, none⟩ = some (.string c.sig) := hcb 12 _ rfl
    have HS : Hid ((((l.map wtC).take (k + 1)).sum = ((l.map wtC).take k).sum + wtC c) /\ ((l.map wtC).take (k + 1)).sum <= (l.map wtC).sum /\ wtM l = len + (l.map wtC).sum) := by
     refine ⟨?_, sumM_take_le _ _, by unfold wtM; rw [HA.out.2.1]⟩
     rw [sumM_take (by rw [List.length_map]; exact hkl), List.getElem_map, hc]
    have hki : (k : Int) < (len : Int) := by omega
    have hk0 : (0 : Int) <= (k : Int) := by omega
    clear hcb hcell hPu hus hbB hc hkl HP hBl
    obtain ⟨zz, hzz⟩ := zE (szC c z)
    rw [hzz] at HR
    unfold ctV at HR
    by_cases hfit : (wtC c : Int) <= z
    ·have hzv : zz = z - (wtC c : Int) := by rw [<- hzz]; unfold szC; rw [if_pos hfit]
     have hz0' : ¬ zz < 0 := by omega
     have HZ : Hid (zz = left - (len : Int) - ((((l.map wtC).take (k + 1)).sum : Nat) : Int) /\ 0 <= zz /\ zz <= 1048576) := ⟨by rw [HS.out.1, hzv, H.out.1]; omega, by omega, by omega⟩
     clear hzz hzv HS hfit
     go_wp2_with fail
     refine HR.mono ?_
     rintro e w3 ⟨rfl, hb3⟩
     clear u0 u1 u2 u3 u4 u5 u6 u7 u8 u9 u10 u11 u12 HR
     have HB3 : Hid (Below w.heap.size w w3) := H.out.2.trans (hb3.mono H.out.2.size)
     clear H hb3
     go_wp2_with fail
     go_roundw
     case rel => exact ⟨k + 1, zz, by omega, by go_num, rfl, HZ.out.2.1, HZ.out.2.2, HZ.out.1, HB3.out⟩
     case measure => simp [intOf]; omega
    ·have hzv : zz = -1 := by rw [<- hzz]; unfold szC; rw [if_neg hfit]
     subst hzv
     have HRR : Hid (R = -1) := by
      show R = -1
      rw [<- HA.out.2.2.2, if_neg]
      have h1 := HS.out
      have h2 := H.out.1
      omega
     clear HS hfit hzz
     go_wp2_with fail
     refine HR.mono ?_
     rintro e w3 ⟨rfl, hb3⟩
     clear u0 u1 u2 u3 u4 u5 u6 u7 u8 u9 u10 u11 u12 HR
     have HB3 : Hid (Below w.heap.size w w3) := H.out.2.trans (hb3.mono H.out.2.size)
     clear H hb3
     go_wp2
     go_ret
     exact ⟨by rw [HRR.out]; rfl, HB3.out⟩
   ·have hkl : k = len := by omega
    subst hkl
    have HRR : Hid (R = z) := by
     show R = z
     have h1 := H.out.1
     rw [List.take_of_length_le (by rw [List.length_map, HA.out.2.1]; exact Nat.le_refl _)] at h1
     have h2 := HA.out.2.1
     rw [<- HA.out.2.2.2, if_pos (by unfold wtM; omega)]
     unfold wtM
     omega
    go_wp2
    go_ret
    exact ⟨by rw [HRR.out]; rfl, H.out.2⟩
end Go.Proofs.Ytllmgjfffkhocaa
