/-
  Texts of the proof.
-/
import Derived.Deep.RegionHeld3
import Derived.Test.YtllmgjfffkhocaaTR10
set_option maxRecDepth 100000
set_option maxHeartbeats 25600000
namespace Go.Proofs.Ytllmgjfffkhocaa
open Go.RowKit
set_option linter.unusedVariables false
theorem eqCert_same (c : Ct) (a b : Value) (w : World) (hl : c.pol.length <= 1000000000 /\ c.per.length <= 1000000000 /\ c.den.length <= 1000000000) (ha : CtAt w a c) (hb : CtAt w b c) :
  Calls Try.prog 82 #[a, b] w fun e w' => e = .returned (.bool true) /\ Below w.heap.size w w' := by
 obtain ⟨pv, ev, dv, rfl, h1, h2, h3⟩ := ha
 obtain ⟨pu, eu, du, rfl, k1, k2, k3⟩ := hb
 have HQ : Hid (∀ W, Below w.heap.size w W -> Calls Try.prog 55 #[pv, pu] W (fun e w' => e = .returned (.bool true) /\ Below W.heap.size W w') /\ Calls Try.prog 56 #[ev, eu] W (fun e w' => e = .returned (.bool true) /\ Below W.heap.size W w') /\ Calls Try.prog 56 #[dv, du] W (fun e w' => e = .returned (.bool true) /\ Below W.heap.size W w')) :=
  fun W hb => ⟨eqIntS_same pv pu c.pol W hl.1 (h1.below hb) (k1.below hb), eqT_same ev eu c.per W hl.2.1 (h2.below hb) (k2.below hb), eqT_same dv du c.den W hl.2.2 (h3.below hb) (k3.below hb)⟩
 obtain ⟨lp, hlp⟩ := zE (c.pol.length)
 obtain ⟨le, hle⟩ := zE (c.per.length)
 obtain ⟨ld, hld⟩ := zE (c.den.length)
 obtain ⟨pa, pc, hpa, _⟩ := h1
 obtain ⟨ea, ec, hea, _⟩ := h2
 obtain ⟨da, dc, hda, _⟩ := h3
 obtain ⟨pb, qc, hpb, _⟩ := k1
 obtain ⟨eb, fc, heb, _⟩ := k2
 obtain ⟨db, gc, hdb, _⟩ := k3
 rw [hlp] at hpa hpb
 rw [hle] at hea heb
 rw [hld] at hda hdb
 subst hpa hea hda hpb heb hdb
 clear hlp hle hld hl
 unfold ctV
 go_enter Try.func82, Try.ntmps82
 go_wp2_with fail
 obtain ⟨V, hV⟩ : ∃ V, V = (w.alloc (Obj.cells #[.int .i64 c.serial, .string c.issuer, .string c.subject, .int .i64 c.frm, .int .i64 c.upto, .string c.key, .bool c.ca, .int .i64 c.pathLen, .int .i64 c.usage, .slice pa lp pc, .slice ea le ec, .slice da ld dc, .string c.sig] 112)).alloc (Obj.cells #[.int .i64 c.serial, .string c.issuer, .string c.subject, .int .i64 c.frm, .int .i64 c.upto, .string c.key, .bool c.ca, .int .i64 c.pathLen, .int .i64 c.usage, .slice pb lp qc, .slice eb le fc, .slice db ld gc, .string c.sig] 112) := ⟨_, rfl⟩
 rw [<- hV]
 have G : Hid (Blk V w.heap.size 112 #[.int .i64 c.serial, .string c.issuer, .string c.subject, .int .i64 c.frm, .int .i64 c.upto, .string c.key, .bool c.ca, .int .i64 c.pathLen, .int .i64 c.usage, .slice pa lp pc, .slice ea le ec, .slice da ld dc, .string c.sig] /\ Blk V (w.heap.size + 1) 112 #[.int .i64 c.serial, .string c.issuer, .string c.subject, .int .i64 c.frm, .int .i64 c.upto, .string c.key, .bool c.ca, .int .i64 c.pathLen, .int .i64 c.usage, .slice pb lp qc, .slice eb le fc, .slice db ld gc, .string c.sig] /\ Below w.heap.size w V /\ w.heap.size + 1 < V.heap.size) := by
  have e0 : (w.alloc (Obj.cells #[.int .i64 c.serial, .string c.issuer, .string c.subject, .int .i64 c.frm, .int .i64 c.upto, .string c.key, .bool c.ca, .int .i64 c.pathLen, .int .i64 c.usage, .slice pa lp pc, .slice ea le ec, .slice da ld dc, .string c.sig] 112)).heap.size = w.heap.size + 1 := Array.size_push _
  have h := Blk.new (w.alloc (Obj.cells #[.int .i64 c.serial, .string c.issuer, .string c.subject, .int .i64 c.frm, .int .i64 c.upto, .string c.key, .bool c.ca, .int .i64 c.pathLen, .int .i64 c.usage, .slice pa lp pc, .slice ea le ec, .slice da ld dc, .string c.sig] 112)) 112 #[.int .i64 c.serial, .string c.issuer, .string c.subject, .int .i64 c.frm, .int .i64 c.upto, .string c.key, .bool c.ca, .int .i64 c.pathLen, .int .i64 c.usage, .slice pb lp qc, .slice eb le fc, .slice db ld gc, .string c.sig]
  rw [e0] at h
  rw [hV]
  exact ⟨(Blk.new w _ _).alloc _, h, ((Below.refl _ _).alloc (Nat.le_refl _) _).alloc (by rw [e0]; omega) _, by rw [size_alloc, e0]; omega⟩
 clear hV
 refine ((HQ.out V G.out.2.2.1).1).mono ?_
 rintro e V0 ⟨rfl, hb⟩
 have G0 : Hid (Blk V0 w.heap.size 112 #[.int .i64 c.serial, .string c.issuer, .string c.subject, .int .i64 c.frm, .int .i64 c.upto, .string c.key, .bool c.ca, .int .i64 c.pathLen, .int .i64 c.usage, .slice pa lp pc, .slice ea le ec, .slice da ld dc, .string c.sig] /\ Blk V0 (w.heap.size + 1) 112 #[.int .i64 c.serial, .string c.issuer, .string c.subject, .int .i64 c.frm, .int .i64 c.upto, .string c.key, .bool c.ca, .int .i64 c.pathLen, .int .i64 c.usage, .slice pb lp qc, .slice eb le fc, .slice db ld gc, .string c.sig] /\ Below w.heap.size w V0 /\ w.heap.size + 1 < V0.heap.size) := ⟨G.out.1.below hb (by have := G.out.2.2.2; omega), G.out.2.1.below hb G.out.2.2.2, G.out.2.2.1.trans (hb.mono G.out.2.2.1.size), Nat.lt_of_lt_of_le G.out.2.2.2 hb.size⟩
 clear hb G
 have ca : V0.cell? ⟨w.heap.size, 10, none⟩ = some (.slice ea le ec) := G0.out.1.cell 10
 have cb : V0.cell? ⟨w.heap.size + 1, 10, none⟩ = some (.slice eb le fc) := G0.out.2.1.cell 10
 go_wp2_with fail
 clear ca cb
 refine ((HQ.out V0 G0.out.2.2.1).2.1).mono ?_
 rintro e V1 ⟨rfl, hb⟩
 have G1 : Hid (Blk V1 w.heap.size 112 #[.int .i64 c.serial, .string c.issuer, .string c.subject, .int .i64 c.frm, .int .i64 c.upto, .string c.key, .bool c.ca, .int .i64 c.pathLen, .int .i64 c.usage, .slice pa lp pc, .slice ea le ec, .slice da ld dc, .string c.sig] /\ Blk V1 (w.heap.size + 1) 112 #[.int .i64 c.serial, .string c.issuer, .string c.subject, .int .i64 c.frm, .int .i64 c.upto, .string c.key, .bool c.ca, .int .i64 c.pathLen, .int .i64 c.usage, .slice pb lp qc, .slice eb le fc, .slice db ld gc, .string c.sig] /\ Below w.heap.size w V1 /\ w.heap.size + 1 < V1.heap.size) := ⟨G0.out.1.below hb (by have := G0.out.2.2.2; omega), G0.out.2.1.below hb G0.out.2.2.2, G0.out.2.2.1.trans (hb.mono G0.out.2.2.1.size), Nat.lt_of_lt_of_le G0.out.2.2.2 hb.size⟩
 clear hb G0
 have ca : V1.cell? ⟨w.heap.size, 11, none⟩ = some (.slice da ld dc) := G1.out.1.cell 11
 have cb : V1.cell? ⟨w.heap.size + 1, 11, none⟩ = some (.slice db ld gc) := G1.out.2.1.cell 11
 go_wp2_with fail
 clear ca cb
 refine ((HQ.out V1 G1.out.2.2.1).2.2).mono ?_
 rintro e V2 ⟨rfl, hb⟩
 have G2 : Hid (Blk V2 w.heap.size 112 #[.int .i64 c.serial, .string c.issuer, .string c.subject, .int .i64 c.frm, .int .i64 c.upto, .string c.key, .bool c.ca, .int .i64 c.pathLen, .int .i64 c.usage, .slice pa lp pc, .slice ea le ec, .slice da ld dc, .string c.sig] /\ Blk V2 (w.heap.size + 1) 112 #[.int .i64 c.serial, .string c.issuer, .string c.subject, .int .i64 c.frm, .int .i64 c.upto, .string c.key, .bool c.ca, .int .i64 c.pathLen, .int .i64 c.usage, .slice pb lp qc, .slice eb le fc, .slice db ld gc, .string c.sig] /\ Below w.heap.size w V2 /\ w.heap.size + 1 < V2.heap.size) := ⟨G1.out.1.below hb (by have := G1.out.2.2.2; omega), G1.out.2.1.below hb G1.out.2.2.2, G1.out.2.2.1.trans (hb.mono G1.out.2.2.1.size), Nat.lt_of_lt_of_le G1.out.2.2.2 hb.size⟩
 clear hb G1
 have ca : V2.cell? ⟨w.heap.size, 12, none⟩ = some (.string c.sig) := G2.out.1.cell 12
 have cb : V2.cell? ⟨w.heap.size + 1, 12, none⟩ = some (.string c.sig) := G2.out.2.1.cell 12
 go_wp2_with fail
 go_ret
 exact ⟨rfl, G2.out.2.2.1⟩
theorem ArgC.mono {B B' : Nat} {w : World} {v : Value} {c : Ct} (h : ArgC B w v c) (hB : B <= B') : ArgC B' w v c := by
 obtain ⟨pa, pc, ea, ec, da, dc, hv, h1, h2, h3⟩ := h
 refine ⟨pa, pc, ea, ec, da, dc, hv, fun j hj => ?_, fun j hj => ?_, fun j hj => ?_⟩
 ·obtain ⟨b, off, e, hb, hc⟩ := h1 j hj; exact ⟨b, off, e, by omega, hc⟩
 ·obtain ⟨b, off, e, hb, hc⟩ := h2 j hj; exact ⟨b, off, e, by omega, hc⟩
 ·obtain ⟨b, off, e, hb, hc⟩ := h3 j hj; exact ⟨b, off, e, by omega, hc⟩
theorem wt_lens {c : Ct} (h : wtC c <= 1048576) : c.pol.length <= 1048576 /\ c.per.length <= 1048576 /\ c.den.length <= 1048576 := by
 obtain ⟨_, _, _, h4, h5, h6, _⟩ := wt_parts h
 exact ⟨h4, h5, h6⟩
theorem CtAt.shape {w : World} {v : Value} {c : Ct} (h : CtAt w v c) : ∃ p q e r d s, v = ctV c (.slice p c.pol.length q) (.slice e c.per.length r) (.slice d c.den.length s) := by
 obtain ⟨pv, ev, dv, hv, ⟨p, q, h1, _⟩, ⟨e, r, h2, _⟩, ⟨d, s, h3, _⟩⟩ := h
 exact ⟨p, q, e, r, d, s, by rw [hv, h1, h2, h3]⟩
end Go.Proofs.Ytllmgjfffkhocaa
namespace Go.Proofs.Ytllmgjfffkhocaa
open Go.RowKit
set_option linter.unusedVariables false
set_option linter.unusedSimpArgs false
theorem OwnC.same {w w' : World} {base : Nat} {v : Value} {c : Ct} (h : OwnC w base v c) (hs : ∀ g ∈ fpC v, w'.heap[g]? = w.heap[g]?) : OwnC w' base v c := by
 obtain ⟨p, e, d, rfl, h1, h2, h3, h4⟩ := h
 exact ⟨p, e, d, rfl, row_same h1 fun g hg => hs g (fpC_mem.2 (.inl hg)), row_same h2 fun g hg => hs g (fpC_mem.2 (.inr (.inl hg))), row_same h3 fun g hg => hs g (fpC_mem.2 (.inr (.inr hg))), h4⟩
theorem rowOne {w : World} {base t n : Nat} {s : Nat} {p : Value} {l : List Value} (h : w.ownsRow base t s p n l) : p.oneCell' = true := by
 rcases h.2 with ⟨rfl, _⟩ | ⟨g, cap, cur, rfl, _⟩ <;> rfl
theorem ap_ne {p e : Value} (h : Ap p e) {g : Nat} (h1 : p.ownBlock = some g) (h2 : e.ownBlock = some g) : False := by
 rcases h with h | h
 ·rw [h] at h1; cases h1
 ·exact h (h1.trans h2.symm)
theorem optNodup (o : Option Nat) : o.toList.Nodup := by cases o <;> simp
def certKd : Kd Ct where
 T := 112
 K := 13
 Own := OwnC
 At := CtAt
 fp := fpC
 pos := by decide
 size := fun h => by
  obtain ⟨p, e, d, rfl, h1, h2, h3, _⟩ := h
  refine ⟨rfl, fun x hx => ?_⟩
  change x ∈ [_, _, _, _, _, _, _, _, _, _, _, _, _] at hx
  simp only [List.mem_cons, List.not_mem_nil, or_false] at hx
  rcases hx with rfl | rfl | rfl | rfl | rfl | rfl | rfl | rfl | rfl | rfl | rfl | rfl | rfl
  all_goals first | rfl | exact rowOne h1 | exact rowOne h2 | exact rowOne h3
 same := OwnC.same
 lt := fpC_lt
 base := OwnC.base
 nodup := fun h => by
  obtain ⟨p, e, d, rfl, h1, h2, h3, h4, h5, h6⟩ := h
  show (p.ownBlock.toList ++ (e.ownBlock.toList ++ d.ownBlock.toList)).Nodup
  refine nodup_app (optNodup _) (nodup_app (optNodup _) (optNodup _) fun y h7 h8 => ap_ne h6.1 (Option.mem_toList.1 h7) (Option.mem_toList.1 h8)) fun y h7 h8 => ?_
  rcases List.mem_append.1 h8 with h8 | h8
  ·exact ap_ne h4.1 (Option.mem_toList.1 h7) (Option.mem_toList.1 h8)
  ·exact ap_ne h5.1 (Option.mem_toList.1 h7) (Option.mem_toList.1 h8)
 own_at := OwnC.at
 below := CtAt.below
def zeC : Ct := ⟨0, ⟨#[]⟩, ⟨#[]⟩, 0, 0, ⟨#[]⟩, false, 0, 0, [], [], [], ⟨#[]⟩⟩
def zeCV : Value := .agg #[.int .i64 0, .string ⟨#[]⟩, .string ⟨#[]⟩, .int .i64 0, .int .i64 0, .string ⟨#[]⟩, .bool false, .int .i64 0, .int .i64 0, .slice none 0 0, .slice none 0 0, .slice none 0 0, .string ⟨#[]⟩]
theorem own_zeC (w : World) (base : Nat) : OwnC w base zeCV zeC := ⟨.slice none 0 0, .slice none 0 0, .slice none 0 0, rfl, World.ownsRow_nil _ _ _ _, World.ownsRow_nil _ _ _ _, World.ownsRow_nil _ _ _ _, ⟨.inl rfl, .inl rfl⟩, ⟨.inl rfl, .inl rfl⟩, .inl rfl, .inl rfl⟩
theorem infoCert : (Try.prog.info? 112).map (fun i => (i.zero, i.size, i.bytes)) = some (some (.agg #[.int .i64 0, .string ⟨#[]⟩, .string ⟨#[]⟩, .int .i64 0, .int .i64 0, .string ⟨#[]⟩, .bool false, .int .i64 0, .int .i64 0, .slice none 0 0, .slice none 0 0, .slice none 0 0, .string ⟨#[]⟩]), 13, 184) := by kernel_rfl
def wtM (l : List Ct) : Nat := l.length + (l.map wtC).sum
theorem wtM_mem : ∀ {l : List Ct} {c : Ct}, c ∈ l -> wtC c <= wtM l
 | c :: l, d, h => by
  rcases List.mem_cons.1 h with rfl | h
  ·unfold wtM; simp; omega
  ·have := wtM_mem h
   unfold wtM at this |-
   simp
   omega
theorem sumM_take {l : List Nat} {k : Nat} (h : k < l.length) : (l.take (k + 1)).sum = (l.take k).sum + l[k] := by
 rw [List.take_add_one, List.sum_append, List.getElem?_eq_getElem h]
 simp
theorem sumM_take_le (l : List Nat) (k : Nat) : (l.take k).sum <= l.sum := by
 have h : (l.take k ++ l.drop k).sum = (l.take k).sum + (l.drop k).sum := List.sum_append
 rw [List.take_append_drop] at h
 omega
def ArgM (B : Nat) (w : World) (v : Value) (l : List Ct) : Prop := RowS 13 B (ArgC B w) w v l
theorem ArgM.below {B : Nat} {w w' : World} {v : Value} {l : List Ct} (h : ArgM B w v l) (hb : Below B w w') {B' : Nat} (hB : B <= B') : ArgM B' w' v l := RowS.below h hb (fun _ _ hP => (hP.below hb).mono hB) hB
theorem fillM_set {l : List Ct} {k : Nat} (hk : k < l.length) : (l.take k ++ List.replicate (l.length - k) zeC).set k l[k] = l.take (k + 1) ++ List.replicate (l.length - (k + 1)) zeC := by
 have e : (l.take k).length = k := by rw [List.length_take]; omega
 rw [List.set_append_right _ _ (by omega), e, Nat.sub_self, show l.length - k = (l.length - (k + 1)) + 1 by omega, List.replicate_succ, List.set_cons_zero, List.take_succ_eq_append_getElem hk, List.append_assoc]
 rfl
theorem fillM_len {l : List Ct} {k : Nat} (hk : k <= l.length) : (l.take k ++ List.replicate (l.length - k) zeC).length = l.length := by
 rw [List.length_append, List.length_take, List.length_replicate]
 omega
theorem OwnS.cellsM {w : World} {base g n cap : Nat} {l : List Ct} {fp : List Nat} (h : OwnS certKd w base (.slice (some ⟨g, 0, none⟩) n cap) l fp) (hn : n = l.length) {j : Nat} (hj : j < l.length) :
  (∃ u, OwnC w base u l[j] /\ (∀ b ∈ fpC u, b ∈ fp /\ b ≠ g) /\ ∀ i x, u.cells[i]? = some x -> w.cell? ⟨g, j * 13 + i, none⟩ = some x) /\ ∀ i, w.frozen? ⟨g, i, none⟩ = false := by
 subst hn
 obtain ⟨vs, hl, hr, he, rfl, hnd⟩ := h
 have hsz := OwnS.sizes hl he
 refine ⟨⟨vs[j]'(by omega), he j (by omega) hj, fun b hb => ⟨List.mem_append_right _ (mem_flat (by omega) hb), fun e => ?_⟩, fun i x hx => ?_⟩, fun i => World.ownsRow.frozenAt hr i⟩
 ·subst e
  exact (List.nodup_append.1 hnd).2.2 b (by simp [Value.ownBlock]) b (mem_flat (by omega) hb) rfl
 ·have hi : i < 13 := by
   have := (Array.getElem?_eq_some_iff.1 hx).1
   rw [hsz _ (List.getElem_mem _)] at this
   exact this
  rw [World.ownsRow.cellAt hr _ (by show j * 13 + i < l.length * 13; omega)]
  exact (cellsV_at hsz j (by omega) i hi).trans hx
theorem ArgC.shape {B : Nat} {w : World} {v : Value} {c : Ct} (h : ArgC B w v c) : ∃ p q e r d s, v = ctV c (.slice p c.pol.length q) (.slice e c.per.length r) (.slice d c.den.length s) := by
 obtain ⟨pa, pc, ea, ec, da, dc, hv, _⟩ := h
 exact ⟨pa, pc, ea, ec, da, dc, hv⟩
end Go.Proofs.Ytllmgjfffkhocaa
