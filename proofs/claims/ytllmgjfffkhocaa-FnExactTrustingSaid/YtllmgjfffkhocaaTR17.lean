/-
  Texts of the proof.
-/
import Derived.Laws.AppendOwnNone
import Derived.Test.YtllmgjfffkhocaaTR16
set_option maxRecDepth 100000
set_option maxHeartbeats 25600000
namespace Go.Proofs.Ytllmgjfffkhocaa
open Go.RowKit
set_option linter.unusedVariables false
set_option linter.unusedSimpArgs false
theorem pickV {n : Nat} {P : Nat -> Value -> Prop} (h : ∀ j, j < n -> ∃ y, P j y) : ∃ l : List Value, ∃ hl : l.length = n, ∀ j (hj : j < l.length), P j l[j] := by
 induction n with
 | zero => exact ⟨[], rfl, fun j hj => absurd hj (Nat.not_lt_zero _)⟩
 | succ n ih =>
  obtain ⟨l, hl, hP⟩ := ih fun j hj => h j (by omega)
  obtain ⟨y, hy⟩ := h n (by omega)
  refine ⟨l ++ [y], by simp [hl], fun j hj => ?_⟩
  by_cases e : j < l.length
  ·rw [List.getElem_append_left e]
   exact hP j e
  ·have e2 : j = l.length := by simp at hj; omega
   subst e2
   simpa [hl] using hy
theorem ShS.vals {α : Type} {k : Kd α} {w : World} {v : Value} {l : List α} (h : ShS k w v l) : ∃ us : List Value, ∃ hl : us.length = l.length, (∀ j (h1 : j < us.length) (h2 : j < l.length), k.Own w 0 us[j] l[j]) /\ ((v = .slice none 0 0 /\ l = []) ∨ ∃ ad cap, v = .slice (some ad) l.length cap /\ ∀ i x, (cellsV us)[i]? = some x -> w.cell? (ad.add i) = some x) := by
 obtain ⟨⟨ao, cap, rfl, hc⟩, hnil⟩ := h
 cases ao with
 | none =>
  have h0 : l = [] := List.eq_nil_of_length_eq_zero (by
   refine Nat.eq_zero_of_not_pos fun hp => ?_
   obtain ⟨_, _, _, h, _⟩ := hc 0 hp
   cases h)
  subst h0
  exact ⟨[], rfl, fun j h1 => absurd h1 (Nat.not_lt_zero _), .inl ⟨by rw [hnil _ _ rfl]; rfl, rfl⟩⟩
 | some ad =>
  obtain ⟨us, hl, hP⟩ := pickV (n := l.length) (P := fun j u => ∃ h2 : j < l.length, k.Own w 0 u l[j] /\ u.cells.size = k.K /\ ∀ i x, u.cells[i]? = some x -> w.cell? (ad.add (j * k.K + i)) = some x) (fun j hj => by
   obtain ⟨g, o, u, h1, _, h3, h4, h5⟩ := hc j hj
   injection h1 with h1
   refine ⟨u, hj, h3, h4, fun i x hx => ?_⟩
   rw [h1, Addr.add_lit, <- Nat.add_assoc]
   exact h5 i x hx)
  refine ⟨us, hl, fun j h1 h2 => (hP j h1).2.1, .inr ⟨ad, cap, rfl, fun i x hx => ?_⟩⟩
  have hsz : ∀ u ∈ us, u.cells.size = k.K := fun u hu => by
   obtain ⟨j, hj, rfl⟩ := List.getElem_of_mem hu
   exact (hP j hj).2.2.1
  have hil : i < us.length * k.K := by
   rw [<- cellsV_len hsz]
   exact (List.getElem?_eq_some_iff.1 hx).1
  have hd : i / k.K < us.length := Nat.div_lt_of_lt_mul (by rw [Nat.mul_comm]; exact hil)
  have hm : i % k.K < k.K := Nat.mod_lt _ k.pos
  have e : i = i / k.K * k.K + i % k.K := by rw [Nat.mul_comm]; exact (Nat.div_add_mod i k.K).symm
  have h2 := cellsV_at hsz (i / k.K) hd (i % k.K) hm
  rw [<- e, hx] at h2
  have := (hP _ hd).2.2.2 (i % k.K) x h2.symm
  rw [<- e] at this
  exact this
theorem ones_of {α : Type} {k : Kd α} {w : World} {us : List Value} {l : List α} (hl : us.length = l.length) (he : ∀ j (h1 : j < us.length) (h2 : j < l.length), k.Own w 0 us[j] l[j]) : ∀ x ∈ cellsV us, x.oneCell' = true := fun x hx => by
 obtain ⟨u, hu, hxu⟩ := List.mem_flatMap.1 hx
 obtain ⟨j, hj, rfl⟩ := List.getElem_of_mem hu
 exact (k.size (he j hj (by omega))).2 x hxu
theorem len_of {α : Type} {k : Kd α} {w : World} {us : List Value} {l : List α} (hl : us.length = l.length) (he : ∀ j (h1 : j < us.length) (h2 : j < l.length), k.Own w 0 us[j] l[j]) : (cellsV us).length = l.length * k.K := by
 rw [cellsV_len (K := k.K) (fun u hu => by
  obtain ⟨j, hj, rfl⟩ := List.getElem_of_mem hu
  exact (k.size (he j hj (by omega))).1), hl]
def SoSh (w : World) (v : Value) (s : So) : Prop := ∃ a1 c1 a2 c2 a3 c3, v = .agg #[.slice a1 s.certs.length c1, .slice a2 s.crls.length c2, .slice a3 s.ancs.length c3] /\ ShS certKd w (.slice a1 s.certs.length c1) s.certs /\ ShS crlKd w (.slice a2 s.crls.length c2) s.crls /\ ShS anKd w (.slice a3 s.ancs.length c3) s.ancs
theorem SoSh.mk {w : World} {p q r : Value} {s : So} (h1 : ShS certKd w p s.certs) (h2 : ShS crlKd w q s.crls) (h3 : ShS anKd w r s.ancs) : SoSh w (.agg #[p, q, r]) s := by
 obtain ⟨a1, c1, e1⟩ := h1.shape
 obtain ⟨a2, c2, e2⟩ := h2.shape
 obtain ⟨a3, c3, e3⟩ := h3.shape
 subst e1 e2 e3
 exact ⟨a1, c1, a2, c2, a3, c3, rfl, h1, h2, h3⟩
theorem OwnO.sh {w : World} {base : Nat} {v : Value} {s : So} {fp : List Nat} (h : OwnO w base v s fp) : SoSh w v s := by
 obtain ⟨p, q, r, f1, f2, f3, rfl, h1, h2, h3, _, _⟩ := h
 exact SoSh.mk h1.sh h2.sh h3.sh
theorem OwnO.base {w : World} {b b' : Nat} {v : Value} {s : So} {fp : List Nat} (h : OwnO w b v s fp) (hb : b' <= b) : OwnO w b' v s fp := by
 obtain ⟨p, q, r, f1, f2, f3, hv, h1, h2, h3, h4⟩ := h
 exact ⟨p, q, r, f1, f2, f3, hv, h1.base hb, h2.base hb, h3.base hb, h4⟩
theorem SoSh.below {w w' : World} {v : Value} {s : So} (h : SoSh w v s) (hb : Below w.heap.size w w') : SoSh w' v s := by
 obtain ⟨a1, c1, a2, c2, a3, c3, hv, h1, h2, h3⟩ := h
 exact ⟨a1, c1, a2, c2, a3, c3, hv, h1.below hb, h2.below hb, h3.below hb⟩
theorem ownSt {s : So} {v : Value} {w : World} (hok : OkO s) (h : SoSh w v s) : Calls Try.prog 62 #[v] w fun e w' => ∃ x1 y1 x2 y2 x3 y3 fp, e = .returned (.agg #[.slice x1 s.certs.length y1, .slice x2 s.crls.length y2, .slice x3 s.ancs.length y3]) /\ OwnO w' w.heap.size (.agg #[.slice x1 s.certs.length y1, .slice x2 s.crls.length y2, .slice x3 s.ancs.length y3]) s fp /\ Below w.heap.size w w' := by
 obtain ⟨a1, c1, a2, c2, a3, c3, rfl, h1, h2, h3⟩ := h
 refine (ownStore_any s _ _ _ w hok.1 ⟨fun c hc => (hok.2.1 c hc).1, fun c hc => (hok.2.2.1 c hc).1, hok.2.2.2⟩ h1 h2 h3).mono ?_
 rintro e w' ⟨u, fp, rfl, ho, hb⟩
 obtain ⟨x1, y1, x2, y2, x3, y3, hu⟩ := ho.at.shape
 subst hu
 exact ⟨x1, y1, x2, y2, x3, y3, fp, rfl, ho, hb⟩
theorem wpList_app {α : Type} (k : Kd α) {w : World} {ops : Array Oper} {rest : List Oper} {o : Oper} {a : Act} {Q : Exit -> Act -> World -> Prop} (hgd : o.guard = none) (p q : Operand) (t : TypeId) (ho : o.op = .call { callee := .builtin .append, args := #[p, q], argTypes := #[t, t] })
  (i0 : TypeInfo) (z : Value) (bytes : Nat) (ht : Try.prog.underlying t = some (.slice k.T)) (hi : Try.prog.info? k.T = some i0) (hz0 : i0.zero = some z) (hz1 : i0.size = k.K) (hz2 : i0.bytes = bytes) (hzs : z.cells.size = k.K) (hby : bytes <= 1000)
  (base : Nat) (v : Value) (l : List α) (fp : List Nat) (c : α) (u : Value) (hp : a.eval p = v) (g1 : Nat) (hq : a.eval q = .slice (some ⟨g1, 0, none⟩) 1 1) (hB : w.rangeAt g1 0 u.cells.toList) (hO : OwnS k w base v l fp) (hu : k.Own w base u c) (hd : ∀ b ∈ k.fp u, b ∉ fp) (hbase : base <= w.heap.size) (n : Nat) (hln : l.length = n) (hl : n <= 100000000)
  (h : ∀ g cap w' fp', OwnS k w' base (.slice (some ⟨g, 0, none⟩) (n + 1) cap) (l ++ [c]) fp' -> w.grownBy w' v.ownBlock -> (∀ b ∈ fp', b ∈ fp ∨ b ∈ k.fp u ∨ b = w.heap.size) -> wpList Try.prog ops Q rest (a.put o.dst (.slice (some ⟨g, 0, none⟩) (n + 1) cap)) w') : wpList Try.prog ops Q (o :: rest) a w := by
 subst hln
 obtain ⟨vs, hvl, hro, he, rfl, hn⟩ := hO
 refine wpList_append_lies _ hgd p q t ho base k.T i0 z k.K bytes ht hi hz0 hz1 hz2 hzs k.pos v l.length (cellsV vs) hp hro ⟨g1, 0, none⟩ 1 1 u.cells.toList hq (by rw [Array.length_toList, (k.size hu).1]; omega) (fun j x hx => by rw [Addr.add_lit, Nat.zero_add]; have := hB j x hx; rw [Nat.zero_add] at this; exact this) (k.size hu).2 (by decide) (by unfold maxLen; omega) (by have := Nat.mul_le_mul (show l.length + 1 <= 100000001 by omega) hby; omega) hbase _ rfl ?_
 intro g cap w' hown hgrow hg hlt2
 obtain ⟨fp', hS, hf⟩ := OwnS.snoc (k := k) (fp := []) (c := c) (u := u) hvl hro he hn hu hd hown hgrow hg
 rw [List.length_append] at hS
 exact h g cap w' fp' hS hgrow hf
theorem step_app_an {w : World} {ops : Array Oper} {o : Oper} {a : Act} {K : Act -> World -> Prop} {Q : Exit -> Act -> World -> Prop} {E : Prop} (hgd : o.guard = none) (p q : Operand) (ho : o.op = .call { callee := .builtin .append, args := #[p, q], argTypes := #[35, 35] })
  (base gB : Nat) (hp : a.eval p = .slice (some ⟨gB, 0, none⟩) 0 0) (hown : w.ownsRow base 97 2 (.slice (some ⟨gB, 0, none⟩) 0 0) 0 []) (u : Value) (l : List An) (hq : a.eval q = u) (hu : ShS anKd w u l) (n : Nat) (hn : l.length = n) (hl : n <= 10000000) (hbase : base <= w.heap.size)
  (h : ∀ g cap w', OwnS anKd w' base (.slice (some ⟨g, 0, none⟩) n cap) l [g] -> (g = gB ∨ g = w.heap.size) -> w.grownBy w' (some gB) -> K (a.put o.dst (.slice (some ⟨g, 0, none⟩) n cap)) w') :
  if Region.wanted o (yielded ops a.tmps) = true then Oper.wp Try.prog o a w K Q else E := by
 subst hn
 obtain ⟨i0, hi, hz0, hz1, hz2⟩ := info_parts infoAn
 obtain ⟨us, hul, he, hv⟩ := hu.vals
 have own : ∀ (w' : World) (g cap : Nat), w'.ownsRow base 97 2 (.slice (some ⟨g, 0, none⟩) l.length cap) l.length (cellsV us) -> OwnS anKd w' base (.slice (some ⟨g, 0, none⟩) l.length cap) l [g] := fun w' g cap hr => by
  refine ⟨us, hul, hr, fun j h1 h2 => he j h1 h2, ?_, by simp⟩
  have : us.flatMap anKd.fp = [] := by rw [List.flatMap_eq_nil_iff]; intro x hx; rfl
  rw [this]
  rfl
 by_cases h0 : l.length = 0
 ·have hle : l = [] := List.eq_nil_of_length_eq_zero h0
  subst hle
  have hue : us = [] := List.eq_nil_of_length_eq_zero hul
  subst hue
  have hsrc : Src Try.prog i0.size 35 u 0 [] w := by
   rcases hv with ⟨rfl, _⟩ | ⟨ad, cap, rfl, hc⟩
   ·exact Src.ofNil w Try.underlying35 0
   ·exact Src.ofSlice w Try.underlying35 ad 0 cap [] (by simp) (fun j x hx => by simp at hx) (fun x hx => by cases hx)
  have hr := run_append_room_src (P := Try.prog) w 35 35 o.type 97 i0 Try.underlying35 hi gB 0 0 0 u 0 [] hsrc (Nat.le_refl _) (fun j hj => by simp at hj) (fun j hj => by simp at hj)
  have hw : Region.wanted o (yielded ops a.tmps) = true := by simp [Region.wanted, hgd]
  rw [if_pos hw]
  unfold Oper.wp execOp
  simp only [ho, resolve, invoke, builtin, Sem.run_bind, Sem.run_pure, Result.andThen_ok, List.map_toArray, List.map_cons, List.map_nil, hp, hq, hr]
  exact h gB 0 w (own w gB 0 hown) (.inl rfl) (World.grownBy.refl _ _)
 ·rcases hv with ⟨_, rfl⟩ | ⟨ad, cap, rfl, hc⟩
  ·exact absurd rfl h0
  ·refine step_append_lies _ hgd p q 35 ho base 97 i0 (.agg #[.string ⟨#[]⟩, .string ⟨#[]⟩]) 2 32 Try.underlying35 hi hz0 hz1 hz2 rfl (by decide) _ 0 [] hp hown ad l.length cap (cellsV us) hq (len_of (k := anKd) hul he) hc (ones_of (k := anKd) hul he) (by omega) (by unfold maxLen; omega) (by omega) hbase _ rfl ?_
   intro g cap2 w' hown2 hgrow hg hlt
   rw [Nat.zero_add] at hown2 |-
   refine h g cap2 w' (own w' g cap2 hown2) ?_ hgrow
   rcases hg with hg | hg
   ·left
    simp [Value.ownBlock] at hg
    exact hg.symm
   ·exact .inr hg
theorem l13Certs_any (l : List Ct) (v : Value) (w : World) (hl : l.length <= 2000000) (hw : ∀ c ∈ l, wtC c <= 1048576) (ha : ShS certKd w v l) :
  Calls Try.prog 86 #[v] w fun e w' => ∃ g m f, e = .returned (.slice (some ⟨g, 0, none⟩) l.length m) /\ OwnS certKd w' w.heap.size (.slice (some ⟨g, 0, none⟩) l.length m) l f /\ Below w.heap.size w w' := by
 obtain ⟨i1, hi1, hz01, hz11, hz21⟩ := info_parts infoCert
 obtain ⟨a1, c1, hv⟩ := ha.shape
 obtain ⟨n, hn⟩ := zE (l.length)
 rw [hn] at hv hl |-
 subst hv
 have HX : Hid (ShS certKd w (.slice a1 n c1) l /\ l.length = n /\ (∀ c ∈ l, wtC c <= 1048576)) := ⟨ha, hn, hw⟩
 clear ha hn hw
 go_enter Try.func86, Try.ntmps86
 go_wp2_with fail
 go_loopw [3, 4] (fun ov iv wr => ∃ k : Nat, k <= n /\ iv = .int .i64 k /\ ∃ g m f, ov = .slice (some ⟨g, 0, none⟩) k m /\ Hid (Below w.heap.size w wr /\ OwnS certKd wr w.heap.size (.slice (some ⟨g, 0, none⟩) k m) (l.take k) f)) (fun _ iv _ => n - (intOf iv).toNat)
 case atStart => exact ⟨0, Nat.zero_le _, rfl, w.heap.size, 0, [w.heap.size], rfl, (Below.refl _ _).alloc (Nat.le_refl _) _, OwnS.made certKd w w.heap.size (Nat.le_refl _)⟩
 case round =>
  obtain ⟨k, hk, rfl, gR, mR, f, rfl, H⟩ := hrel
  by_cases hkn : k < n
  ·have hkl : k < l.length := by rw [HX.out.2.1]; exact hkn
   obtain ⟨g, o, u, hax, hg, hP, hs, hc⟩ := HX.out.1.get hkl
   obtain ⟨p1, q1, p2, q2, p3, q3, hu⟩ := CtAt.shape (OwnC.at hP)
   subst hax
   have hki : (k : Int) < (n : Int) := by omega
   have hk0 : (0 : Int) <= (k : Int) := by omega
   have hPw := certKd.same hP (fun y hy => H.out.1.block y (certKd.lt hP y hy).2)
   obtain ⟨c, hce⟩ := zE (l[k])
   have hwc := HX.out.2.2 _ (List.getElem_mem hkl)
   have hrg0 := fun i x hx => (H.out.1.cell (p := ⟨g, o + k * 13 + i, none⟩) hg).trans (hc i x hx)
   rw [hce] at hu hPw hwc
   subst hu
   have hrg : wr.rangeAt g (o + k * 13) #[.int .i64 c.serial, .string c.issuer, .string c.subject, .int .i64 c.frm, .int .i64 c.upto, .string c.key, .bool c.ca, .int .i64 c.pathLen, .int .i64 c.usage, .slice p1 c.pol.length q1, .slice p2 c.per.length q2, .slice p3 c.den.length q3, .string c.sig].toList := fun j x hx => hrg0 j x (by rw [<- hx]; exact Array.getElem?_toList.symm)
   have HN : Hid (l.take (k + 1) = l.take k ++ [c] /\ (l.take k).length = k) := ⟨by rw [<- hce]; exact List.take_succ_eq_append_getElem hkl, by rw [List.length_take]; omega⟩
   have E3 : Calls Try.prog 99 #[.agg #[.int .i64 c.serial, .string c.issuer, .string c.subject, .int .i64 c.frm, .int .i64 c.upto, .string c.key, .bool c.ca, .int .i64 c.pathLen, .int .i64 c.usage, .slice p1 c.pol.length q1, .slice p2 c.per.length q2, .slice p3 c.den.length q3, .string c.sig]] wr fun e w' => ∃ r1 t1 r2 t2 r3 t3, e = .returned (.agg #[.int .i64 c.serial, .string c.issuer, .string c.subject, .int .i64 c.frm, .int .i64 c.upto, .string c.key, .bool c.ca, .int .i64 c.pathLen, .int .i64 c.usage, .slice r1 c.pol.length t1, .slice r2 c.per.length t2, .slice r3 c.den.length t3, .string c.sig]) /\ OwnC w' wr.heap.size (.agg #[.int .i64 c.serial, .string c.issuer, .string c.subject, .int .i64 c.frm, .int .i64 c.upto, .string c.key, .bool c.ca, .int .i64 c.pathLen, .int .i64 c.usage, .slice r1 c.pol.length t1, .slice r2 c.per.length t2, .slice r3 c.den.length t3, .string c.sig]) c /\ Below wr.heap.size wr w' := by
    refine (certCopy_any c _ 0 wr (by have := wt_lens hwc; omega) hPw).mono ?_
    rintro e w' ⟨u, rfl, ho, hb⟩
    obtain ⟨r1, t1, r2, t2, r3, t3, hu3⟩ := CtAt.shape (OwnC.at ho)
    subst hu3
    exact ⟨r1, t1, r2, t2, r3, t3, rfl, ho, hb⟩
   clear hP hPw hrg0 hs hc hce hg hwc
   go_wp2_with (refine wpList_load_mid rfl 112 _ rfl g (o + k * 13) rfl _ _ hrg Try.underlying112 rfl (by kernel_rfl) ?_)
   refine E3.mono ?_
   rintro e w3 ⟨r1, t1, r2, t2, r3, t3, rfl, ho3, hb3⟩
   obtain ⟨W4, hW4⟩ : ∃ W, W = w3.alloc (Obj.cells #[.int .i64 c.serial, .string c.issuer, .string c.subject, .int .i64 c.frm, .int .i64 c.upto, .string c.key, .bool c.ca, .int .i64 c.pathLen, .int .i64 c.usage, .slice r1 c.pol.length t1, .slice r2 c.per.length t2, .slice r3 c.den.length t3, .string c.sig] 112) := ⟨_, rfl⟩
   have hb4 : Below wr.heap.size wr W4 := by rw [hW4]; exact hb3.alloc hb3.size _
   have H4 : Hid (OwnS certKd W4 w.heap.size (.slice (some ⟨gR, 0, none⟩) k mR) (l.take k) f /\ OwnC W4 w.heap.size (.agg #[.int .i64 c.serial, .string c.issuer, .string c.subject, .int .i64 c.frm, .int .i64 c.upto, .string c.key, .bool c.ca, .int .i64 c.pathLen, .int .i64 c.usage, .slice r1 c.pol.length t1, .slice r2 c.per.length t2, .slice r3 c.den.length t3, .string c.sig]) c /\ (∀ y ∈ fpC (.agg #[.int .i64 c.serial, .string c.issuer, .string c.subject, .int .i64 c.frm, .int .i64 c.upto, .string c.key, .bool c.ca, .int .i64 c.pathLen, .int .i64 c.usage, .slice r1 c.pol.length t1, .slice r2 c.per.length t2, .slice r3 c.den.length t3, .string c.sig]), y ∉ f) /\ Below w.heap.size w W4 /\ W4.rangeAt w3.heap.size 0 (Value.agg #[.int .i64 c.serial, .string c.issuer, .string c.subject, .int .i64 c.frm, .int .i64 c.upto, .string c.key, .bool c.ca, .int .i64 c.pathLen, .int .i64 c.usage, .slice r1 c.pol.length t1, .slice r2 c.per.length t2, .slice r3 c.den.length t3, .string c.sig]).cells.toList) := by
    refine ⟨H.out.2.stays hb4, certKd.base (certKd.same ho3 (fun y hy => ?_)) H.out.1.size, fun y h1 h2 => ?_, H.out.1.trans (hb4.mono H.out.1.size), by rw [hW4]; exact (Blk.new w3 112 #[.int .i64 c.serial, .string c.issuer, .string c.subject, .int .i64 c.frm, .int .i64 c.upto, .string c.key, .bool c.ca, .int .i64 c.pathLen, .int .i64 c.usage, .slice r1 c.pol.length t1, .slice r2 c.per.length t2, .slice r3 c.den.length t3, .string c.sig]).range⟩
    ·rw [hW4]; exact ((Below.refl w3.heap.size w3).alloc (Nat.le_refl _) _).block y (fpC_lt ho3 y hy).2
    ·have g1 := (fpC_lt ho3 y h1).1; have g2 := (H.out.2.lt y h2).2; omega
   clear hb4 hb3 ho3 H E3 hrg
   go_wp2_with (at_builtin; rw [<- hW4]; refine wpList_app certKd rfl _ _ 33 rfl i1 (.agg #[.int .i64 0, .string ⟨#[]⟩, .string ⟨#[]⟩, .int .i64 0, .int .i64 0, .string ⟨#[]⟩, .bool false, .int .i64 0, .int .i64 0, .slice none 0 0, .slice none 0 0, .slice none 0 0, .string ⟨#[]⟩]) 184 Try.underlying33 hi1 hz01 hz11 hz21 rfl (by decide) w.heap.size (.slice (some ⟨gR, 0, none⟩) k mR) (l.take k) f c (.agg #[.int .i64 c.serial, .string c.issuer, .string c.subject, .int .i64 c.frm, .int .i64 c.upto, .string c.key, .bool c.ca, .int .i64 c.pathLen, .int .i64 c.usage, .slice r1 c.pol.length t1, .slice r2 c.per.length t2, .slice r3 c.den.length t3, .string c.sig]) rfl w3.heap.size rfl H4.out.2.2.2.2 H4.out.1 H4.out.2.1 H4.out.2.2.1 H4.out.2.2.2.1.size k HN.out.2 (by omega) ?_; intro g6 cap6 w6 fp6 hG6 hgrow6 hf6)
   have H6 : Hid (Below w.heap.size w w6 /\ OwnS certKd w6 w.heap.size (.slice (some ⟨g6, 0, none⟩) (k + 1) cap6) (l.take (k + 1)) fp6) := by
    refine ⟨H4.out.2.2.2.1.grown hgrow6 H4.out.2.2.2.1.size (fun q e => ?_), by rw [HN.out.1]; exact hG6⟩
    obtain ⟨_, _, hr9, _⟩ := H4.out.1
    exact (hr9.lt q e).1
   clear hG6 hgrow6 hf6 H4 hW4
   go_wp2_with fail
   exact ⟨⟨k + 1, by omega, by go_num, g6, cap6, fp6, rfl, H6⟩, by simp [intOf]; omega⟩
  ·have hkl : n = k := by omega
   subst hkl
   have HE : Hid (Below w.heap.size w wr /\ OwnS certKd wr w.heap.size (.slice (some ⟨gR, 0, none⟩) n mR) l f) := by
    have h := H.out
    rw [List.take_of_length_le (by rw [HX.out.2.1]; exact Nat.le_refl _)] at h
    exact h
   go_wp2_with fail
   go_ret
   exact ⟨gR, mR, f, rfl, HE.out.2, HE.out.1⟩
end Go.Proofs.Ytllmgjfffkhocaa
