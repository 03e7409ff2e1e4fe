/-
  Texts of the proof.
-/
import Derived.Deep.RegionHeld3
import Derived.Deep.Cut
import Derived.Deep.AppendSrc
import Derived.Test.YtbiiihjohbnodaaMRV20
set_option maxRecDepth 100000
set_option maxHeartbeats 25600000
namespace Go.Proofs.Ytbiiihjohbnodaa
open Go.RowKit Der
set_option linter.unusedVariables false
set_option linter.unusedSimpArgs false
theorem step_storeR {ops : Array Oper} {rest : List Oper} {op : Oper} {a : Act} {w : World} {Q : Exit -> Act -> World -> Prop} {x y : Operand} (b : Nat) {t : TypeId} {a0 a1 a2 a3 a4 a5 a6 a7 : Value} (s0 : ByteArray) (i1 i2 i3 i4 i5 : Int) (p6 : Option Addr) (l6 c6 : Nat) (s7 : ByteArray)
  (h : Blk w b t #[a0, a1, a2, a3, a4, a5, a6, a7]) (hgd : op.guard = none) (hds : op.dst = none) (ho : op.op = .store 44 x y) (hx : a.eval x = .pointer (some ⟨b, 0, none⟩)) (hy : a.eval y = .agg #[.string s0, .int .i64 i1, .int .i64 i2, .int .i64 i3, .int .i64 i4, .int .i64 i5, .slice p6 l6 c6, .string s7])
  (hk : ∀ W, Out [b] w W -> Blk W b t #[.string s0, .int .i64 i1, .int .i64 i2, .int .i64 i3, .int .i64 i4, .int .i64 i5, .slice p6 l6 c6, .string s7] -> wpList Try.prog ops Q rest a W) : wpList Try.prog ops Q (op :: rest) a w :=
 wpList_plain hgd fun _ hK => by
  have k0 : w.cell? ⟨b, 0, none⟩ = some a0 := h.cell 0
  have k1 : w.cell? ⟨b, 1, none⟩ = some a1 := h.cell 1
  have k2 : w.cell? ⟨b, 2, none⟩ = some a2 := h.cell 2
  have k3 : w.cell? ⟨b, 3, none⟩ = some a3 := h.cell 3
  have k4 : w.cell? ⟨b, 4, none⟩ = some a4 := h.cell 4
  have k5 : w.cell? ⟨b, 5, none⟩ = some a5 := h.cell 5
  have k6 : w.cell? ⟨b, 6, none⟩ = some a6 := h.cell 6
  have k7 : w.cell? ⟨b, 7, none⟩ = some a7 := h.cell 7
  have fz := fun j => h.free j
  unfold Oper.wp execOp
  simp only [ho, hx, hy]
  simp [go_sem, k0, k1, k2, k3, k4, k5, k6, k7, fz]
  generalize hV : World.setCell _ { block := b, off := 7 } (Value.string s7) = V
  have ho1 : Out [b] w V := by
   rw [<- hV]
   iterate 8 refine Out.setCell ?_ _ _ (by simp)
   exact Out.refl _ _
  have hB1 : Blk V b t #[.string s0, .int .i64 i1, .int .i64 i2, .int .i64 i3, .int .i64 i4, .int .i64 i5, .slice p6 l6 c6, .string s7] := by rw [<- hV]; exact set8 h
  rw [hds]
  exact hK _ _ (hk V ho1 hB1)
theorem step_buildR {ops : Array Oper} {rest : List Oper} {op : Oper} {a : Act} {w : World} {Q : Exit -> Act -> World -> Prop} (hgd : op.guard = none) (ho : op.op = .build 44 #[]) (hk : wpList Try.prog ops Q rest (a.put op.dst (.agg #[.string ⟨#[]⟩, .int .i64 0, .int .i64 0, .int .i64 0, .int .i64 0, .int .i64 0, .slice none 0 0, .string ⟨#[]⟩])) w) : wpList Try.prog ops Q (op :: rest) a w :=
 wpList_plain hgd fun _ hK => by
  unfold Oper.wp execOp
  simp only [ho]
  simp [go_sem]
  exact hK _ _ hk
theorem step_loadR {ops : Array Oper} {rest : List Oper} {op : Oper} {a : Act} {w : World} {Q : Exit -> Act -> World -> Prop} {x : Operand} (b : Nat) {t : TypeId} (s0 : ByteArray) (i1 i2 i3 i4 i5 : Int) (p6 : Option Addr) (l6 c6 : Nat) (s7 : ByteArray)
  (h : Blk w b t #[.string s0, .int .i64 i1, .int .i64 i2, .int .i64 i3, .int .i64 i4, .int .i64 i5, .slice p6 l6 c6, .string s7]) (hgd : op.guard = none) (ho : op.op = .load 44 x) (hx : a.eval x = .pointer (some ⟨b, 0, none⟩)) (hk : wpList Try.prog ops Q rest (a.put op.dst (.agg #[.string s0, .int .i64 i1, .int .i64 i2, .int .i64 i3, .int .i64 i4, .int .i64 i5, .slice p6 l6 c6, .string s7])) w) : wpList Try.prog ops Q (op :: rest) a w :=
 wpList_plain hgd fun _ hK => by
  have k0 : w.cell? ⟨b, 0, none⟩ = some (.string s0) := h.cell 0
  have k1 : w.cell? ⟨b, 1, none⟩ = some (.int .i64 i1) := h.cell 1
  have k2 : w.cell? ⟨b, 2, none⟩ = some (.int .i64 i2) := h.cell 2
  have k3 : w.cell? ⟨b, 3, none⟩ = some (.int .i64 i3) := h.cell 3
  have k4 : w.cell? ⟨b, 4, none⟩ = some (.int .i64 i4) := h.cell 4
  have k5 : w.cell? ⟨b, 5, none⟩ = some (.int .i64 i5) := h.cell 5
  have k6 : w.cell? ⟨b, 6, none⟩ = some (.slice p6 l6 c6) := h.cell 6
  have k7 : w.cell? ⟨b, 7, none⟩ = some (.string s7) := h.cell 7
  unfold Oper.wp execOp
  simp only [ho, hx]
  simp [go_sem, k0, k1, k2, k3, k4, k5, k6, k7]
  exact hK _ _ hk
theorem step_assignR {P : Program} {ops : Array Oper} {rest : List Oper} {op : Oper} {a : Act} {w : World} {Q : Exit -> Act -> World -> Prop} {v : Value} (hgd : op.guard = none) (ho : op.op = .assign (.const v)) (hk : wpList P ops Q rest (a.put op.dst v) w) : wpList P ops Q (op :: rest) a w :=
 wpList_plain hgd fun _ hK => by
  unfold Oper.wp execOp
  simp only [ho]
  simp [go_sem]
  exact hK _ _ hk
def KM5 (w W : World) (a : Array Value) (kv : Value) : Prop := Below w.heap.size w W /\ Blk W w.heap.size 44 a /\ (∃ x y z, Blk3 W (w.heap.size + 1) x y z) /\ Blk3 W (w.heap.size + 1 + 1) (.int .i64 48) (.string ⟨#[]⟩) kv
theorem KM5.below {w W W' : World} {a : Array Value} {kv : Value} (h : KM5 w W a kv) (hb : Below W.heap.size W W') : KM5 w W' a kv := by
 obtain ⟨h1, h2, ⟨x, y, z, h3⟩, h4⟩ := h
 exact ⟨h1.trans (hb.mono h1.size), h2.below hb h2.lt, ⟨x, y, z, h3.below hb⟩, h4.below hb⟩
theorem KM5.size {w W : World} {a : Array Value} {kv : Value} (h : KM5 w W a kv) : w.heap.size + 3 <= W.heap.size := by
 have := h.2.2.2.lt
 omega
theorem KM5.grown {w W W' : World} {a : Array Value} {kv : Value} {row : Option Nat} (h : KM5 w W a kv) (hg : W.grownBy W' row) (hr : ∀ q, row = some q -> w.heap.size + 3 <= q) : KM5 w W' a kv := by
 obtain ⟨h1, h2, ⟨x, y, z, h3⟩, h4⟩ := h
 exact ⟨h1.grown hg h1.size (fun q hq => by have := hr q hq; omega), (hg.block _ h2.lt (fun e => by have := hr _ e.symm; omega)).trans h2, ⟨x, y, z, h3.grown hg (fun e => by have := hr _ e.symm; omega)⟩, h4.grown hg (fun e => by have := hr _ e.symm; omega)⟩
theorem KM5.laid {w W : World} {a : Array Value} {kv : Value} (h : KM5 w W a kv) (k : Value) : KM5 w (W.setCell ⟨w.heap.size + 1 + 1, 2, none⟩ k) a k := by
 obtain ⟨h1, h2, ⟨x, y, z, h3⟩, h4⟩ := h
 exact ⟨h1.setCell (p := ⟨w.heap.size + 1 + 1, 2, none⟩) (by show w.heap.size <= w.heap.size + 1 + 1; omega) _, h2.other (p := ⟨w.heap.size + 1 + 1, 2, none⟩) _ (by show w.heap.size ≠ w.heap.size + 1 + 1; omega), ⟨x, y, z, h3.other (p := ⟨w.heap.size + 1 + 1, 2, none⟩) (by show w.heap.size + 1 ≠ w.heap.size + 1 + 1; omega) _⟩, h4.set _⟩
theorem KM5.set {w W : World} {a : Array Value} {kv : Value} (h : KM5 w W a kv) (p q r : Value) : KM5 w (((W.setCell ⟨w.heap.size + 1, 0, none⟩ p).setCell ⟨w.heap.size + 1, 1, none⟩ q).setCell ⟨w.heap.size + 1, 2, none⟩ r) a kv := by
 obtain ⟨h1, h2, ⟨x, y, z, h3⟩, h4⟩ := h
 refine ⟨((h1.setCell (p := ⟨w.heap.size + 1, 0, none⟩) (Nat.le_succ _) _).setCell (p := ⟨w.heap.size + 1, 1, none⟩) (Nat.le_succ _) _).setCell (p := ⟨w.heap.size + 1, 2, none⟩) (Nat.le_succ _) _, ?_, ⟨p, q, r, ?_⟩, ?_⟩
 ·have ne : w.heap.size ≠ w.heap.size + 1 := by omega
  exact ((h2.other _ ne).other _ ne).other _ ne
 ·have e := (((show Blk W (w.heap.size + 1) 67 #[x, y, z] from h3).set 0 p).set 1 q).set 2 r
  exact e
 ·have ne : w.heap.size + 1 + 1 ≠ w.heap.size + 1 := by omega
  exact ((h4.other (p := ⟨w.heap.size + 1, 0, none⟩) ne _).other (p := ⟨w.heap.size + 1, 1, none⟩) ne _).other (p := ⟨w.heap.size + 1, 2, none⟩) ne _
theorem KM5.start (w : World) (a : Array Value) (W : World) (hW : W = ((w.alloc (Obj.cells a 44)).alloc (Obj.cells #[Value.int IntKind.i64 0, Value.string ⟨#[]⟩, Value.slice none 0 0] 67)).alloc (Obj.cells #[Value.int IntKind.i64 48, Value.string ⟨#[]⟩, Value.slice none 0 0] 67)) : KM5 w W a (.slice none 0 0) := by
 have e0 : (w.alloc (Obj.cells a 44)).heap.size = w.heap.size + 1 := Array.size_push _
 have e1 : ((w.alloc (Obj.cells a 44)).alloc (Obj.cells #[Value.int IntKind.i64 0, Value.string ⟨#[]⟩, Value.slice none 0 0] 67)).heap.size = w.heap.size + 1 + 1 := by rw [size_alloc, e0]
 refine ⟨by rw [hW]; exact (((Below.refl _ _).alloc (Nat.le_refl _) _).alloc (by rw [e0]; omega) _).alloc (by rw [e1]; omega) _, by rw [hW]; exact ((Blk.new w _ _).alloc _).alloc _, ⟨.int .i64 0, .string ⟨#[]⟩, .slice none 0 0, ?_⟩, ?_⟩
 ·have h := heap_alloc_new (w.alloc (Obj.cells a 44)) (Obj.cells #[Value.int IntKind.i64 0, Value.string ⟨#[]⟩, Value.slice none 0 0] 67)
  rw [e0] at h
  rw [hW]
  exact (heap_alloc_old _ _ (by rw [e1]; omega)).trans h
 ·have h := heap_alloc_new ((w.alloc (Obj.cells a 44)).alloc (Obj.cells #[Value.int IntKind.i64 0, Value.string ⟨#[]⟩, Value.slice none 0 0] 67)) (Obj.cells #[Value.int IntKind.i64 48, Value.string ⟨#[]⟩, Value.slice none 0 0] 67)
  rw [e1] at h
  rw [hW]
  exact h
def KX5 (w W : World) (a : Array Value) (g : Nat) (c : Array Value) : Prop := (∃ kv, KM5 w W a kv) /\ Blk W g 84 c
theorem KX5.below {w W W' : World} {a c : Array Value} {g : Nat} (h : KX5 w W a g c) (hb : Below W.heap.size W W') : KX5 w W' a g c := by
 obtain ⟨⟨kv, h⟩, h2⟩ := h
 exact ⟨⟨kv, h.below hb⟩, h2.below hb h2.lt⟩
theorem l15Item_any (c : Rp) (v : Value) (w : World) (hz : wtR c <= 20000000) (hw : WdRp c) (ha : RpAt w v c) : Calls Try.prog 64 #[v] w fun e w' => ToIt w 4 (bodyR c) e w' := by
 obtain ⟨pv, rfl, h1⟩ := ha
 obtain ⟨pa, pc, hpa⟩ := h1.shape
 obtain ⟨n, hn⟩ := zE (c.ans.length)
 rw [hn] at hpa
 subst hpa
 have HN : Hid ((-9223372036854775808 <= c.nonce /\ c.nonce <= 9223372036854775807) /\ (-9223372036854775808 <= c.time /\ c.time <= 9223372036854775807) /\ (-9223372036854775808 <= c.next /\ c.next <= 9223372036854775807) /\ (-9223372036854775808 <= c.plan /\ c.plan <= 9223372036854775807) /\ (-9223372036854775808 <= c.err /\ c.err <= 9223372036854775807)) := ⟨hw.1 c.nonce (by simp), hw.1 c.time (by simp), hw.1 c.next (by simp), hw.1 c.plan (by simp), hw.1 c.err (by simp)⟩
 have hzz : wtAS c.ans <= 20000000 := wtR_ans hz
 have hnl : n <= 20000000 := by have := wtAS_len c.ans; omega
 have HX : Hid (AtS awKd w (.slice pa n pc) c.ans /\ c.ans.length = n /\ wtAS c.ans <= 20000000 /\ ∀ x ∈ c.ans, WdAw x) := ⟨h1, hn, hzz, hw.2.2.1⟩
 clear h1 hn hw hz hzz
 obtain ⟨ks, hks⟩ : ∃ ks : List (It 3), c.ans.map ansI = ks := ⟨_, rfl⟩
 have HK0 : Hid (c.ans.map ansI = ks /\ ks.length = n) := ⟨hks, by rw [<- hks, List.length_map]; exact HX.out.2.1⟩
 clear hks
 unfold rpV
 go_enter Try.func64, Try.ntmps64
 go_wp2_with fail
 obtain ⟨W3, hW3⟩ : ∃ W, W = ((w.alloc (Obj.cells #[.string c.hash, .int .i64 c.nonce, .int .i64 c.time, .int .i64 c.next, .int .i64 c.plan, .int .i64 c.err, .slice pa n pc, .string c.sig] 44)).alloc (Obj.cells #[Value.int IntKind.i64 0, Value.string ⟨#[]⟩, Value.slice none 0 0] 67)).alloc (Obj.cells #[Value.int IntKind.i64 48, Value.string ⟨#[]⟩, Value.slice none 0 0] 67) := ⟨_, rfl⟩
 rw [<- hW3]
 have H3 : Hid (KM5 w W3 #[.string c.hash, .int .i64 c.nonce, .int .i64 c.time, .int .i64 c.next, .int .i64 c.plan, .int .i64 c.err, .slice pa n pc, .string c.sig] (.slice none 0 0)) := KM5.start w _ W3 hW3
 clear hW3
 go_loopw [4] (fun iv wr => ∃ k : Nat, k <= n /\ iv = .int .i64 k /\ Hid (∃ kv : Value, KM5 w wr #[.string c.hash, .int .i64 c.nonce, .int .i64 c.time, .int .i64 c.next, .int .i64 c.plan, .int .i64 c.err, .slice pa n pc, .string c.sig] (kv) /\ GrowK wr (w.heap.size + 3) 2 kv (ks.take k))) (fun iv _ => n - (intOf iv).toNat)
 case atStart => exact ⟨0, Nat.zero_le _, rfl, _, H3.out, GrowK.nil _ _ _⟩
 case round =>
  obtain ⟨k, hk, rfl, HR⟩ := hrel
  obtain ⟨kv, hr1, hrG⟩ := HR.out
  have HK : Hid (KM5 w wr #[.string c.hash, .int .i64 c.nonce, .int .i64 c.time, .int .i64 c.next, .int .i64 c.plan, .int .i64 c.err, .slice pa n pc, .string c.sig] (kv) /\ GrowK wr (w.heap.size + 3) 2 kv (ks.take k)) := ⟨hr1, hrG⟩
  clear HR hr1 hrG H3
  have y6 : wr.cell? ⟨w.heap.size, 6, none⟩ = some (.slice pa n pc) := HK.out.1.2.1.cell 6
  by_cases hlt : k < n
  ·have hlti : (k : Int) < (n : Int) := by omega
   have hk0 : (0 : Int) <= (k : Int) := by omega
   have hj0 : k < c.ans.length := by rw [HX.out.2.1]; exact hlt
   have hj1 : k < ks.length := by rw [HK0.out.2]; exact hlt
   obtain ⟨b, off, u, hao, hbB, hPu, hus, hcell⟩ := HX.out.1.get hj0
   obtain ⟨p1, q1, e1, r1, hu⟩ := AwAt.shape hPu
   obtain ⟨x, hxx⟩ := zE (c.ans[k])
   have hkx : ks[k] = ansI x := by
    have h := HK0.out.1
    subst h
    rw [List.getElem_map, hxx]
   have HT : Hid (It.tag ks[k] = 48 /\ (⟨(It.text ks[k]).toArray⟩ : ByteArray) = ⟨#[]⟩ /\ It.kids ks[k] = It.kids (ansI x)) := by
    rw [hkx]
    exact ⟨rfl, rfl, rfl⟩
   rw [hxx] at hu hPu
   have hmem : x ∈ c.ans := by rw [<- hxx]; exact List.getElem_mem _
   have hxz : wtAw x <= 20000000 := Nat.le_trans (wtAS_mem hmem) HX.out.2.2.1
   have hxw := HX.out.2.2.2 x hmem
   have hz1 : totT x.path <= 20000000 /\ totT x.lst <= 20000000 := by unfold wtAw at hxz; omega
   have HQ : Hid ((-9223372036854775808 <= x.status /\ x.status <= 9223372036854775807) /\ (-9223372036854775808 <= x.why /\ x.why <= 9223372036854775807)) := ⟨hxw.1 x.status (by simp), hxw.1 x.why (by simp)⟩
   have HW1 : Hid (x.path.length <= 20000000 /\ WdT x.path) := ⟨Nat.le_trans (tot_len _) hz1.1, fun s hs => Nat.le_trans (Nat.le_trans (tot_mem _ s hs) hz1.1) (by decide)⟩
   have HW2 : Hid (x.lst.length <= 20000000 /\ WdT x.lst) := ⟨Nat.le_trans (tot_len _) hz1.2, fun s hs => Nat.le_trans (Nat.le_trans (tot_mem _ s hs) hz1.2) (by decide)⟩
   have hcb := fun i z (hz : u.cells[i]? = some z) => (HK.out.1.1.cell (p := ⟨b, off + k * 4 + i, none⟩) (by show b < w.heap.size; exact hbB)).trans (hcell i z hz)
   subst hao hu
   have hrows := AwAt.rows hPu
   obtain ⟨n1, hn1⟩ := zE (x.path.length)
   obtain ⟨n2, hn2⟩ := zE (x.lst.length)
   have u0 : wr.cell? ⟨b, off + k * 4, none⟩ = some (.int .i64 x.status) := hcb 0 _ rfl
   have u1 : wr.cell? ⟨b, off + k * 4 + 1, none⟩ = some (.int .i64 x.why) := hcb 1 _ rfl
   have u2 : wr.cell? ⟨b, off + k * 4 + 2, none⟩ = some (.slice p1 n1 q1) := by rw [<- hn1]; exact hcb 2 _ rfl
   have u3 : wr.cell? ⟨b, off + k * 4 + 3, none⟩ = some (.slice e1 n2 r1) := by rw [<- hn2]; exact hcb 3 _ rfl
   rw [hn1, hn2] at hrows
   have HL : Hid (TxtAt w (.slice p1 n1 q1) x.path /\ TxtAt w (.slice e1 n2 r1) x.lst) := hrows
   have htl : (ks.take k).length = k := by rw [List.length_take]; omega
   have HG1 : Hid (w.heap.size + 3 <= wr.heap.size) := HK.out.1.size
   clear hcb hcell hPu hus hbB hmem hxz hxw hz1 hrows hkx hxx hn1 hn2
   obtain ⟨V2, hV⟩ : ∃ V, V = wr.alloc (Obj.cells #[.int .i64 x.status, .int .i64 x.why, .slice p1 n1 q1, .slice e1 n2 r1] 84) := ⟨_, rfl⟩
   have HS2 : Hid (KX5 w V2 #[.string c.hash, .int .i64 c.nonce, .int .i64 c.time, .int .i64 c.next, .int .i64 c.plan, .int .i64 c.err, .slice (some ⟨b, off, none⟩) n pc, .string c.sig] wr.heap.size #[.int .i64 x.status, .int .i64 x.why, .slice p1 n1 q1, .slice e1 n2 r1] /\ Below wr.heap.size wr V2) := by
    have hb : Below wr.heap.size wr V2 := by rw [hV]; exact (Below.refl _ _).alloc (Nat.le_refl _) _
    exact ⟨⟨⟨_, HK.out.1.below hb⟩, by rw [hV]; exact Blk.new wr _ _⟩, hb⟩
   go_upto_region 6 with fail
   rw [<- hV]
   clear hV u0 u1 u2 u3 y6
   have HB : Hid (Below wr.heap.size wr V2.drew) := HS2.out.2.trans ((Below.refl _ _).drew)
   have HG : Hid (Blk3 V2.drew (w.heap.size + 1 + 1) (.int .i64 48) (.string ⟨#[]⟩) kv) := (HK.out.1.2.2.2.below HS2.out.2).below ((Below.refl _ _).drew)
   refine wp_region_held_drew (S := fun W => KX5 w W #[.string c.hash, .int .i64 c.nonce, .int .i64 c.time, .int .i64 c.next, .int .i64 c.plan, .int .i64 c.err, .slice (some ⟨b, off, none⟩) n pc, .string c.sig] wr.heap.size #[.int .i64 x.status, .int .i64 x.why, .slice p1 n1 q1, .slice e1 n2 r1]) (by kernel_rfl) (KX5.below HS2.out.1 ((Below.refl _ _).drew)) (fun hHeld => ?_)
   clear HS2
   generalize V2.drew = Wd0 at hHeld HB HG |-
   refine zT 0 19 ?_ rfl (by rfl) ?_ hHeld ?_
   rotate_left
   ·intro W hSw
    go_simp
    try with_reducible rfl
   try simp only [Act.put, zA, zB, zC]
   refine zT 2 21 ?_ rfl (by rfl) ?_ hHeld ?_
   rotate_left
   ·intro W hSw
    go_simp
    try with_reducible rfl
   try simp only [Act.put, zA, zB, zC]
   refine zT 3 22 ?_ rfl (by rfl) ?_ hHeld ?_
   rotate_left
   ·intro W hSw
    have l0 : W.cell? ⟨wr.heap.size, 0, none⟩ = some (.int .i64 x.status) := hSw.2.cell 0
    go_simp
    try with_reducible rfl
   try simp only [Act.put, zA, zB, zC]
   refine zT 5 24 ?_ rfl (by rfl) ?_ hHeld ?_
   rotate_left
   ·intro W hSw
    go_simp
    try with_reducible rfl
   try simp only [Act.put, zA, zB, zC]
   refine zT 6 25 ?_ rfl (by rfl) ?_ hHeld ?_
   rotate_left
   ·intro W hSw
    have l0 : W.cell? ⟨wr.heap.size, 1, none⟩ = some (.int .i64 x.why) := hSw.2.cell 1
    go_simp
    try with_reducible rfl
   try simp only [Act.put, zA, zB, zC]
   refine zT 8 27 ?_ rfl (by rfl) ?_ hHeld ?_
   rotate_left
   ·intro W hSw
    go_simp
    try with_reducible rfl
   try simp only [Act.put, zA, zB, zC]
   refine zT 9 28 ?_ rfl (by rfl) ?_ hHeld ?_
   rotate_left
   ·intro W hSw
    have l0 : W.cell? ⟨wr.heap.size, 2, none⟩ = some (.slice p1 n1 q1) := hSw.2.cell 2
    go_simp
    try with_reducible rfl
   try simp only [Act.put, zA, zB, zC]
   refine zT 11 30 ?_ rfl (by rfl) ?_ hHeld ?_
   rotate_left
   ·intro W hSw
    go_simp
    try with_reducible rfl
   try simp only [Act.put, zA, zB, zC]
   refine zT 12 31 ?_ rfl (by rfl) ?_ hHeld ?_
   rotate_left
   ·intro W hSw
    have l0 : W.cell? ⟨wr.heap.size, 3, none⟩ = some (.slice e1 n2 r1) := hSw.2.cell 3
    go_simp
    try with_reducible rfl
   try simp only [Act.put, zA, zB, zC]
   refine wpAnyH_ready (rs := [1, 4]) (by kernel_rfl) (by simp) ?_
   refine AllReadyH.cons (o := ⟨some 20, _, _, _, _, _⟩) rfl (fun K hK => ?_) ?_
   rotate_left
   ·refine AllReadyH.cons (o := ⟨some 23, _, _, _, _, _⟩) rfl (fun K hK => ?_) AllReadyH.nil
    go_simp
    refine (specIntItem_any x.status _ HQ.out.1).mono ?_
    rintro e v1 ⟨rfl, hv⟩
    have hH := KX5.below hHeld hv
    replace HG := zH (HG.out.below hv)
    replace HB := zH (HB.out.trans ((hv).mono HB.out.size))
    go_wp2_with fail
    refine hK.out _ _ hH (fun hHeld => ?_)
    clear hK K hH hv
    try simp only [Act.put, zA, zB, zC]
    refine wpAnyH_ready (rs := [1, 7]) (by kernel_rfl) (by simp) ?_
    refine AllReadyH.cons (o := ⟨some 20, _, _, _, _, _⟩) rfl (fun K hK => ?_) ?_
    rotate_left
    ·refine AllReadyH.cons (o := ⟨some 26, _, _, _, _, _⟩) rfl (fun K hK => ?_) AllReadyH.nil
     go_simp
     refine (specIntItem_any x.why _ HQ.out.2).mono ?_
     rintro e v2 ⟨rfl, hv⟩
     have hH := KX5.below hHeld hv
     replace HG := zH (HG.out.below hv)
     replace HB := zH (HB.out.trans ((hv).mono HB.out.size))
     go_wp2_with fail
     refine hK.out _ _ hH (fun hHeld => ?_)
     clear hK K hH hv
     try simp only [Act.put, zA, zB, zC]
     refine wpAnyH_ready (rs := [1, 10]) (by kernel_rfl) (by simp) ?_
     refine AllReadyH.cons (o := ⟨some 20, _, _, _, _, _⟩) rfl (fun K hK => ?_) ?_
     rotate_left
     ·refine AllReadyH.cons (o := ⟨some 29, _, _, _, _, _⟩) rfl (fun K hK => ?_) AllReadyH.nil
      go_simp
      have hsz : wr.heap.size <= v2.heap.size := HB.out.size
      refine (bytsI_any 0 x.path _ _ HW1.out.1 HW1.out.2 ((HL.out.1.below HK.out.1.1).below HB.out)).mono ?_
      intro e v3 hto
      obtain ⟨aP, lP, cP, fP, rfl, hoT, hv⟩ := to_lst hto
      clear hto
      have hH := KX5.below hHeld hv
      replace HG := zH (HG.out.below hv)
      replace HB := zH (HB.out.trans ((hv).mono HB.out.size))
      have HP : Hid (OwnK v3 wr.heap.size 1 (.slice aP lP cP) (It.kids (n := 1) (lstJ (x.path.map bytJ))) fP) := OwnK.base hsz hoT
      clear hoT hsz
      go_wp2_with fail
      refine hK.out _ _ hH (fun hHeld => ?_)
      clear hK K hH hv
      try simp only [Act.put, zA, zB, zC]
      refine wpAnyH_ready (rs := [1, 13]) (by kernel_rfl) (by simp) ?_
      refine AllReadyH.cons (o := ⟨some 20, _, _, _, _, _⟩) rfl (fun K hK => ?_) ?_
      rotate_left
      ·refine AllReadyH.cons (o := ⟨some 32, _, _, _, _, _⟩) rfl (fun K hK => ?_) AllReadyH.nil
       go_simp
       have hsz : wr.heap.size <= v3.heap.size := HB.out.size
       refine (bytsI_any 0 x.lst _ _ HW2.out.1 HW2.out.2 ((HL.out.2.below HK.out.1.1).below HB.out)).mono ?_
       intro e v4 hto
       obtain ⟨aE, lE, cE, fE, rfl, hoT, hv⟩ := to_lst hto
       clear hto
       have hH := KX5.below hHeld hv
       have HD : Hid (∀ g ∈ fP, g ∉ fE) := fun g h1 h2 => by have := (OwnK.lt HP.out g h1).2; have := (OwnK.lt hoT g h2).1; omega
       replace HG := zH (HG.out.below hv)
       replace HB := zH (HB.out.trans ((hv).mono HB.out.size))
       replace HP := zH (HP.out.below hv (fun b hm => (OwnK.lt HP.out b hm).2))
       have HE : Hid (OwnK v4 wr.heap.size 1 (.slice aE lE cE) (It.kids (n := 1) (lstJ (x.lst.map bytJ))) fE) := OwnK.base hsz hoT
       clear hoT hsz
       go_wp2_with fail
       refine hK.out _ _ hH (fun hHeld => ?_)
       clear hK K hH hv
       try simp only [Act.put, zA, zB, zC]
       refine wpAnyH_ready (rs := [1, 14]) (by kernel_rfl) (by simp) ?_
       refine AllReadyH.cons (o := ⟨some 20, _, _, _, _, _⟩) rfl (fun K hK => ?_) ?_
       rotate_left
       ·refine AllReadyH.cons (o := ⟨some 33, _, _, _, _, _⟩) rfl (fun K hK => ?_) AllReadyH.nil
        obtain ⟨v5, hW3⟩ : ∃ W, W = v4.alloc (Obj.cells #[.int .i64 2, .string ⟨(intT (numN x.status)).toArray⟩, .slice none 0 0, .int .i64 2, .string ⟨(intT (numN x.why)).toArray⟩, .slice none 0 0, .int .i64 48, .string ⟨#[]⟩, .slice aP lP cP, .int .i64 48, .string ⟨#[]⟩, .slice aE lE cE] 67) := ⟨_, rfl⟩
        have hv : Below v4.heap.size v4 v5 := by rw [hW3]; exact (Below.refl _ _).alloc (Nat.le_refl _) _
        have HF0 : Hid (∃ fp, OwnK v5 wr.heap.size 2 (.slice (some ⟨v4.heap.size, 0, none⟩) 4 4) (It.kids ks[k]) fp) := by rw [HT.out.2.2]; exact ans_row HP.out HE.out HD.out HB.out.size hW3
        clear HP HE HD
        replace HG := zH (HG.out.below hv)
        replace HB := zH (HB.out.trans ((hv).mono HB.out.size))
        have hH := KX5.below hHeld hv
        go_simp
        rw [<- hW3]
        refine hK.out _ _ hH (fun hHeld => ?_)
        clear hK K hH hW3 hv
        try simp only [Act.put, zA, zB, zC]
        obtain ⟨q4, hq4⟩ := zE (v4.heap.size)
        rw [hq4] at HF0 |-
        clear hq4
        obtain ⟨f3, hf3⟩ := HF0.out
        have HF : Hid (OwnK v5 wr.heap.size 2 (.slice (some ⟨q4, 0, none⟩) 4 4) (It.kids ks[k]) f3) := hf3
        clear HF0 hf3
        refine zT 15 34 ?_ rfl (by rfl) ?_ hHeld ?_
        rotate_left
        ·intro W hSw
         go_simp
         try with_reducible rfl
        try simp only [Act.put, zA, zB, zC]
        refine wpAnyH_ready (rs := [1, 16]) (by kernel_rfl) (by simp) ?_
        refine AllReadyH.cons (o := ⟨some 20, _, _, _, _, _⟩) rfl (fun K hK => ?_) ?_
        rotate_left
        ·refine AllReadyH.cons (o := ⟨some 35, _, _, _, _, _⟩) rfl (fun K hK => ?_) AllReadyH.nil
         have hH := KX5.below hHeld ((Below.refl v5.heap.size v5).alloc (Nat.le_refl _) (Obj.cells #[.int .i64 48, .string ⟨#[]⟩, .slice (some ⟨q4, 0, none⟩) 4 4] 67))
         have HGn : Hid (Blk3 (v5.alloc (Obj.cells #[.int .i64 48, .string ⟨#[]⟩, .slice (some ⟨q4, 0, none⟩) 4 4] 67)) (w.heap.size + 1 + 1) (.int .i64 48) (.string ⟨#[]⟩) kv) := HG.out.below ((Below.refl _ _).alloc (Nat.le_refl _) _)
         clear HG
         have HG := HGn
         clear HGn
         go_simp
         refine hK.out _ _ hH (fun hHeld => ?_)
         clear hK K hH
         try simp only [Act.put, zA, zB, zC]
         refine wpAnyH_ready (rs := [1]) (by kernel_rfl) (by simp) ?_
         refine AllReadyH.cons (o := ⟨some 20, _, _, _, _, _⟩) rfl (fun K hK => ?_) AllReadyH.nil
         have lk : (v5.alloc (Obj.cells #[.int .i64 48, .string ⟨#[]⟩, .slice (some ⟨q4, 0, none⟩) 4 4] 67)).cell? ⟨w.heap.size + 1 + 1, 2, none⟩ = some kv := (cell_in HG.out).1.2.2
         go_simp
         refine hK.out _ _ hHeld (fun hHeld => ?_)
         clear hK K lk
         try simp only [Act.put, zA, zB, zC]
         refine wpAnyH_ready (rs := [17]) (by kernel_rfl) (by simp) ?_
         refine AllReadyH.cons (o := ⟨some 36, _, _, _, _, _⟩) rfl (fun K hK => ?_) AllReadyH.nil
         refine step_append_item0 (o := ⟨some 36, _, _, _, _, _⟩) rfl (.tmp 20) (.tmp 35) rfl (w.heap.size + 3) 2 kv (ks.take k) ks[k] 48 ⟨#[]⟩ (.slice (some ⟨q4, 0, none⟩) 4 4) f3 HT.out.1 HT.out.2.1 (by rfl) v5.heap.size (by rfl) rfl HK.out.2 HB.out HF.out HG1.out (by omega) ?_
         intro g cap w6 hG6 hgrow6
         have hm6 := (HK.out.1.below (HB.out.alloc HB.out.size (Obj.cells #[.int .i64 48, .string ⟨#[]⟩, .slice (some ⟨q4, 0, none⟩) 4 4] 67))).grown hgrow6 (fun q hq => (HK.out.2.lt q hq).1)
         have HY : Hid (Blk w6 wr.heap.size 84 #[.int .i64 x.status, .int .i64 x.why, .slice p1 n1 q1, .slice e1 n2 r1]) := (hgrow6.block _ hHeld.2.lt (fun e => by have := (HK.out.2.lt _ e.symm).2; omega)).trans hHeld.2
         have H6 : Hid (KM5 w w6 #[.string c.hash, .int .i64 c.nonce, .int .i64 c.time, .int .i64 c.next, .int .i64 c.plan, .int .i64 c.err, .slice (some ⟨b, off, none⟩) n pc, .string c.sig] kv /\ GrowK w6 (w.heap.size + 3) 2 (.slice (some ⟨g, 0, none⟩) (k + 1) cap) (ks.take (k + 1)) /\ wr.heap.size < w6.heap.size) := by
          have e := List.take_append_getElem hj1
          rw [htl, e] at hG6
          exact ⟨hm6, hG6, HY.out.lt⟩
         try rw [htl]
         clear hG6 hgrow6 hm6 HG HF HB
         refine hK.out _ _ ⟨⟨kv, H6.out.1⟩, HY.out⟩ (fun hHeld => ?_)
         clear hK K
         try simp only [Act.put, zA, zB, zC]
         refine zT 18 37 ?_ rfl (by rfl) ?_ hHeld ?_
         rotate_left
         ·intro W hSw
          go_simp
          try with_reducible rfl
         try simp only [Act.put, zA, zB, zC]
         refine wpAnyH_ready (rs := [19]) (by kernel_rfl) (by simp) ?_
         refine AllReadyH.cons (o := ⟨none, _, _, _, _, _⟩) rfl (fun K hK => ?_) AllReadyH.nil
         obtain ⟨⟨q0, q1, q2⟩, qf⟩ := cell_in H6.out.1.2.2.2
         have HZ9 : Hid (w.heap.size + 1 + 1 ≠ wr.heap.size) := by have := HG1.out; show w.heap.size + 1 + 1 ≠ wr.heap.size; omega
         go_simp
         refine hK.out _ _ ⟨⟨_, H6.out.1.laid _⟩, HY.out.other (p := ⟨w.heap.size + 1 + 1, 2, none⟩) _ (Ne.symm HZ9.out)⟩ (fun hHeld => ?_)
         clear hK K hHeld q0 q1 q2 qf
         try simp only [Act.put, zA, zB, zC]
         refine wpAnyH_done (by kernel_rfl) ?_ _
         go_wp2_with fail
         refine ⟨⟨k + 1, by omega, by go_num, .slice (some ⟨g, 0, none⟩) (k + 1) cap, H6.out.1.laid _, ?_⟩, by simp [intOf]; omega⟩
         exact H6.out.2.1.out fun b hb => heap_setCell_other _ _ _ _ (by show b ≠ w.heap.size + 1 + 1; omega)
        have lk : v5.cell? ⟨w.heap.size + 1 + 1, 2, none⟩ = some kv := (cell_in HG.out).1.2.2
        go_simp
        refine hK.out _ _ hHeld (fun hHeld => ?_)
        clear hK K lk
        try simp only [Act.put, zA, zB, zC]
        refine wpAnyH_ready (rs := [16]) (by kernel_rfl) (by simp) ?_
        refine AllReadyH.cons (o := ⟨some 35, _, _, _, _, _⟩) rfl (fun K hK => ?_) AllReadyH.nil
        have hH := KX5.below hHeld ((Below.refl v5.heap.size v5).alloc (Nat.le_refl _) (Obj.cells #[.int .i64 48, .string ⟨#[]⟩, .slice (some ⟨q4, 0, none⟩) 4 4] 67))
        have HGn : Hid (Blk3 (v5.alloc (Obj.cells #[.int .i64 48, .string ⟨#[]⟩, .slice (some ⟨q4, 0, none⟩) 4 4] 67)) (w.heap.size + 1 + 1) (.int .i64 48) (.string ⟨#[]⟩) kv) := HG.out.below ((Below.refl _ _).alloc (Nat.le_refl _) _)
        clear HG
        have HG := HGn
        clear HGn
        go_simp
        refine hK.out _ _ hH (fun hHeld => ?_)
        clear hK K hH
        try simp only [Act.put, zA, zB, zC]
        refine wpAnyH_ready (rs := [17]) (by kernel_rfl) (by simp) ?_
        refine AllReadyH.cons (o := ⟨some 36, _, _, _, _, _⟩) rfl (fun K hK => ?_) AllReadyH.nil
        refine step_append_item0 (o := ⟨some 36, _, _, _, _, _⟩) rfl (.tmp 20) (.tmp 35) rfl (w.heap.size + 3) 2 kv (ks.take k) ks[k] 48 ⟨#[]⟩ (.slice (some ⟨q4, 0, none⟩) 4 4) f3 HT.out.1 HT.out.2.1 (by rfl) v5.heap.size (by rfl) rfl HK.out.2 HB.out HF.out HG1.out (by omega) ?_
        intro g cap w6 hG6 hgrow6
        have hm6 := (HK.out.1.below (HB.out.alloc HB.out.size (Obj.cells #[.int .i64 48, .string ⟨#[]⟩, .slice (some ⟨q4, 0, none⟩) 4 4] 67))).grown hgrow6 (fun q hq => (HK.out.2.lt q hq).1)
        have HY : Hid (Blk w6 wr.heap.size 84 #[.int .i64 x.status, .int .i64 x.why, .slice p1 n1 q1, .slice e1 n2 r1]) := (hgrow6.block _ hHeld.2.lt (fun e => by have := (HK.out.2.lt _ e.symm).2; omega)).trans hHeld.2
        have H6 : Hid (KM5 w w6 #[.string c.hash, .int .i64 c.nonce, .int .i64 c.time, .int .i64 c.next, .int .i64 c.plan, .int .i64 c.err, .slice (some ⟨b, off, none⟩) n pc, .string c.sig] kv /\ GrowK w6 (w.heap.size + 3) 2 (.slice (some ⟨g, 0, none⟩) (k + 1) cap) (ks.take (k + 1)) /\ wr.heap.size < w6.heap.size) := by
         have e := List.take_append_getElem hj1
         rw [htl, e] at hG6
         exact ⟨hm6, hG6, HY.out.lt⟩
        try rw [htl]
        clear hG6 hgrow6 hm6 HG HF HB
        refine hK.out _ _ ⟨⟨kv, H6.out.1⟩, HY.out⟩ (fun hHeld => ?_)
        clear hK K
        try simp only [Act.put, zA, zB, zC]
        refine zT 18 37 ?_ rfl (by rfl) ?_ hHeld ?_
        rotate_left
        ·intro W hSw
         go_simp
         try with_reducible rfl
        try simp only [Act.put, zA, zB, zC]
        refine wpAnyH_ready (rs := [19]) (by kernel_rfl) (by simp) ?_
        refine AllReadyH.cons (o := ⟨none, _, _, _, _, _⟩) rfl (fun K hK => ?_) AllReadyH.nil
        obtain ⟨⟨q0, q1, q2⟩, qf⟩ := cell_in H6.out.1.2.2.2
        have HZ9 : Hid (w.heap.size + 1 + 1 ≠ wr.heap.size) := by have := HG1.out; show w.heap.size + 1 + 1 ≠ wr.heap.size; omega
        go_simp
        refine hK.out _ _ ⟨⟨_, H6.out.1.laid _⟩, HY.out.other (p := ⟨w.heap.size + 1 + 1, 2, none⟩) _ (Ne.symm HZ9.out)⟩ (fun hHeld => ?_)
        clear hK K hHeld q0 q1 q2 qf
        try simp only [Act.put, zA, zB, zC]
        refine wpAnyH_done (by kernel_rfl) ?_ _
        go_wp2_with fail
        refine ⟨⟨k + 1, by omega, by go_num, .slice (some ⟨g, 0, none⟩) (k + 1) cap, H6.out.1.laid _, ?_⟩, by simp [intOf]; omega⟩
        exact H6.out.2.1.out fun b hb => heap_setCell_other _ _ _ _ (by show b ≠ w.heap.size + 1 + 1; omega)
       have lk : v4.cell? ⟨w.heap.size + 1 + 1, 2, none⟩ = some kv := (cell_in HG.out).1.2.2
       go_simp
       refine hK.out _ _ hHeld (fun hHeld => ?_)
       clear hK K lk
       try simp only [Act.put, zA, zB, zC]
       refine wpAnyH_ready (rs := [14]) (by kernel_rfl) (by simp) ?_
       refine AllReadyH.cons (o := ⟨some 33, _, _, _, _, _⟩) rfl (fun K hK => ?_) AllReadyH.nil
       obtain ⟨v8, hW3⟩ : ∃ W, W = v4.alloc (Obj.cells #[.int .i64 2, .string ⟨(intT (numN x.status)).toArray⟩, .slice none 0 0, .int .i64 2, .string ⟨(intT (numN x.why)).toArray⟩, .slice none 0 0, .int .i64 48, .string ⟨#[]⟩, .slice aP lP cP, .int .i64 48, .string ⟨#[]⟩, .slice aE lE cE] 67) := ⟨_, rfl⟩
       have hv : Below v4.heap.size v4 v8 := by rw [hW3]; exact (Below.refl _ _).alloc (Nat.le_refl _) _
       have HF0 : Hid (∃ fp, OwnK v8 wr.heap.size 2 (.slice (some ⟨v4.heap.size, 0, none⟩) 4 4) (It.kids ks[k]) fp) := by rw [HT.out.2.2]; exact ans_row HP.out HE.out HD.out HB.out.size hW3
       clear HP HE HD
       replace HG := zH (HG.out.below hv)
       replace HB := zH (HB.out.trans ((hv).mono HB.out.size))
       have hH := KX5.below hHeld hv
       go_simp
       rw [<- hW3]
       refine hK.out _ _ hH (fun hHeld => ?_)
       clear hK K hH hW3 hv
       try simp only [Act.put, zA, zB, zC]
       obtain ⟨q4, hq4⟩ := zE (v4.heap.size)
       rw [hq4] at HF0 |-
       clear hq4
       obtain ⟨f3, hf3⟩ := HF0.out
       have HF : Hid (OwnK v8 wr.heap.size 2 (.slice (some ⟨q4, 0, none⟩) 4 4) (It.kids ks[k]) f3) := hf3
       clear HF0 hf3
       refine zT 15 34 ?_ rfl (by rfl) ?_ hHeld ?_
       rotate_left
       ·intro W hSw
        go_simp
        try with_reducible rfl
       try simp only [Act.put, zA, zB, zC]
       refine wpAnyH_ready (rs := [16]) (by kernel_rfl) (by simp) ?_
       refine AllReadyH.cons (o := ⟨some 35, _, _, _, _, _⟩) rfl (fun K hK => ?_) AllReadyH.nil
       have hH := KX5.below hHeld ((Below.refl v8.heap.size v8).alloc (Nat.le_refl _) (Obj.cells #[.int .i64 48, .string ⟨#[]⟩, .slice (some ⟨q4, 0, none⟩) 4 4] 67))
       have HGn : Hid (Blk3 (v8.alloc (Obj.cells #[.int .i64 48, .string ⟨#[]⟩, .slice (some ⟨q4, 0, none⟩) 4 4] 67)) (w.heap.size + 1 + 1) (.int .i64 48) (.string ⟨#[]⟩) kv) := HG.out.below ((Below.refl _ _).alloc (Nat.le_refl _) _)
       clear HG
       have HG := HGn
       clear HGn
       go_simp
       refine hK.out _ _ hH (fun hHeld => ?_)
       clear hK K hH
       try simp only [Act.put, zA, zB, zC]
       refine wpAnyH_ready (rs := [17]) (by kernel_rfl) (by simp) ?_
       refine AllReadyH.cons (o := ⟨some 36, _, _, _, _, _⟩) rfl (fun K hK => ?_) AllReadyH.nil
       refine step_append_item0 (o := ⟨some 36, _, _, _, _, _⟩) rfl (.tmp 20) (.tmp 35) rfl (w.heap.size + 3) 2 kv (ks.take k) ks[k] 48 ⟨#[]⟩ (.slice (some ⟨q4, 0, none⟩) 4 4) f3 HT.out.1 HT.out.2.1 (by rfl) v8.heap.size (by rfl) rfl HK.out.2 HB.out HF.out HG1.out (by omega) ?_
       intro g cap w6 hG6 hgrow6
       have hm6 := (HK.out.1.below (HB.out.alloc HB.out.size (Obj.cells #[.int .i64 48, .string ⟨#[]⟩, .slice (some ⟨q4, 0, none⟩) 4 4] 67))).grown hgrow6 (fun q hq => (HK.out.2.lt q hq).1)
       have HY : Hid (Blk w6 wr.heap.size 84 #[.int .i64 x.status, .int .i64 x.why, .slice p1 n1 q1, .slice e1 n2 r1]) := (hgrow6.block _ hHeld.2.lt (fun e => by have := (HK.out.2.lt _ e.symm).2; omega)).trans hHeld.2
       have H6 : Hid (KM5 w w6 #[.string c.hash, .int .i64 c.nonce, .int .i64 c.time, .int .i64 c.next, .int .i64 c.plan, .int .i64 c.err, .slice (some ⟨b, off, none⟩) n pc, .string c.sig] kv /\ GrowK w6 (w.heap.size + 3) 2 (.slice (some ⟨g, 0, none⟩) (k + 1) cap) (ks.take (k + 1)) /\ wr.heap.size < w6.heap.size) := by
        have e := List.take_append_getElem hj1
        rw [htl, e] at hG6
        exact ⟨hm6, hG6, HY.out.lt⟩
       try rw [htl]
       clear hG6 hgrow6 hm6 HG HF HB
       refine hK.out _ _ ⟨⟨kv, H6.out.1⟩, HY.out⟩ (fun hHeld => ?_)
       clear hK K
       try simp only [Act.put, zA, zB, zC]
       refine zT 18 37 ?_ rfl (by rfl) ?_ hHeld ?_
       rotate_left
       ·intro W hSw
        go_simp
        try with_reducible rfl
       try simp only [Act.put, zA, zB, zC]
       refine wpAnyH_ready (rs := [19]) (by kernel_rfl) (by simp) ?_
       refine AllReadyH.cons (o := ⟨none, _, _, _, _, _⟩) rfl (fun K hK => ?_) AllReadyH.nil
       obtain ⟨⟨q0, q1, q2⟩, qf⟩ := cell_in H6.out.1.2.2.2
       have HZ9 : Hid (w.heap.size + 1 + 1 ≠ wr.heap.size) := by have := HG1.out; show w.heap.size + 1 + 1 ≠ wr.heap.size; omega
       go_simp
       refine hK.out _ _ ⟨⟨_, H6.out.1.laid _⟩, HY.out.other (p := ⟨w.heap.size + 1 + 1, 2, none⟩) _ (Ne.symm HZ9.out)⟩ (fun hHeld => ?_)
       clear hK K hHeld q0 q1 q2 qf
       try simp only [Act.put, zA, zB, zC]
       refine wpAnyH_done (by kernel_rfl) ?_ _
       go_wp2_with fail
       refine ⟨⟨k + 1, by omega, by go_num, .slice (some ⟨g, 0, none⟩) (k + 1) cap, H6.out.1.laid _, ?_⟩, by simp [intOf]; omega⟩
       exact H6.out.2.1.out fun b hb => heap_setCell_other _ _ _ _ (by show b ≠ w.heap.size + 1 + 1; omega)
      have lk : v3.cell? ⟨w.heap.size + 1 + 1, 2, none⟩ = some kv := (cell_in HG.out).1.2.2
      go_simp
      refine hK.out _ _ hHeld (fun hHeld => ?_)
      clear hK K lk
      try simp only [Act.put, zA, zB, zC]
      refine wpAnyH_ready (rs := [13]) (by kernel_rfl) (by simp) ?_
      refine AllReadyH.cons (o := ⟨some 32, _, _, _, _, _⟩) rfl (fun K hK => ?_) AllReadyH.nil
      go_simp
      have hsz : wr.heap.size <= v3.heap.size := HB.out.size
      refine (bytsI_any 0 x.lst _ _ HW2.out.1 HW2.out.2 ((HL.out.2.below HK.out.1.1).below HB.out)).mono ?_
      intro e v10 hto
      obtain ⟨aE, lE, cE, fE, rfl, hoT, hv⟩ := to_lst hto
      clear hto
      have hH := KX5.below hHeld hv
      have HD : Hid (∀ g ∈ fP, g ∉ fE) := fun g h1 h2 => by have := (OwnK.lt HP.out g h1).2; have := (OwnK.lt hoT g h2).1; omega
      replace HG := zH (HG.out.below hv)
      replace HB := zH (HB.out.trans ((hv).mono HB.out.size))
      replace HP := zH (HP.out.below hv (fun b hm => (OwnK.lt HP.out b hm).2))
      have HE : Hid (OwnK v10 wr.heap.size 1 (.slice aE lE cE) (It.kids (n := 1) (lstJ (x.lst.map bytJ))) fE) := OwnK.base hsz hoT
      clear hoT hsz
      go_wp2_with fail
      refine hK.out _ _ hH (fun hHeld => ?_)
      clear hK K hH hv
      try simp only [Act.put, zA, zB, zC]
      refine wpAnyH_ready (rs := [14]) (by kernel_rfl) (by simp) ?_
      refine AllReadyH.cons (o := ⟨some 33, _, _, _, _, _⟩) rfl (fun K hK => ?_) AllReadyH.nil
      obtain ⟨v11, hW3⟩ : ∃ W, W = v10.alloc (Obj.cells #[.int .i64 2, .string ⟨(intT (numN x.status)).toArray⟩, .slice none 0 0, .int .i64 2, .string ⟨(intT (numN x.why)).toArray⟩, .slice none 0 0, .int .i64 48, .string ⟨#[]⟩, .slice aP lP cP, .int .i64 48, .string ⟨#[]⟩, .slice aE lE cE] 67) := ⟨_, rfl⟩
      have hv : Below v10.heap.size v10 v11 := by rw [hW3]; exact (Below.refl _ _).alloc (Nat.le_refl _) _
      have HF0 : Hid (∃ fp, OwnK v11 wr.heap.size 2 (.slice (some ⟨v10.heap.size, 0, none⟩) 4 4) (It.kids ks[k]) fp) := by rw [HT.out.2.2]; exact ans_row HP.out HE.out HD.out HB.out.size hW3
      clear HP HE HD
      replace HG := zH (HG.out.below hv)
      replace HB := zH (HB.out.trans ((hv).mono HB.out.size))
      have hH := KX5.below hHeld hv
      go_simp
      rw [<- hW3]
      refine hK.out _ _ hH (fun hHeld => ?_)
      clear hK K hH hW3 hv
      try simp only [Act.put, zA, zB, zC]
      obtain ⟨q4, hq4⟩ := zE (v10.heap.size)
      rw [hq4] at HF0 |-
      clear hq4
      obtain ⟨f3, hf3⟩ := HF0.out
      have HF : Hid (OwnK v11 wr.heap.size 2 (.slice (some ⟨q4, 0, none⟩) 4 4) (It.kids ks[k]) f3) := hf3
      clear HF0 hf3
      refine zT 15 34 ?_ rfl (by rfl) ?_ hHeld ?_
      rotate_left
      ·intro W hSw
       go_simp
       try with_reducible rfl
      try simp only [Act.put, zA, zB, zC]
      refine wpAnyH_ready (rs := [16]) (by kernel_rfl) (by simp) ?_
      refine AllReadyH.cons (o := ⟨some 35, _, _, _, _, _⟩) rfl (fun K hK => ?_) AllReadyH.nil
      have hH := KX5.below hHeld ((Below.refl v11.heap.size v11).alloc (Nat.le_refl _) (Obj.cells #[.int .i64 48, .string ⟨#[]⟩, .slice (some ⟨q4, 0, none⟩) 4 4] 67))
      have HGn : Hid (Blk3 (v11.alloc (Obj.cells #[.int .i64 48, .string ⟨#[]⟩, .slice (some ⟨q4, 0, none⟩) 4 4] 67)) (w.heap.size + 1 + 1) (.int .i64 48) (.string ⟨#[]⟩) kv) := HG.out.below ((Below.refl _ _).alloc (Nat.le_refl _) _)
      clear HG
      have HG := HGn
      clear HGn
      go_simp
      refine hK.out _ _ hH (fun hHeld => ?_)
      clear hK K hH
      try simp only [Act.put, zA, zB, zC]
      refine wpAnyH_ready (rs := [17]) (by kernel_rfl) (by simp) ?_
      refine AllReadyH.cons (o := ⟨some 36, _, _, _, _, _⟩) rfl (fun K hK => ?_) AllReadyH.nil
      refine step_append_item0 (o := ⟨some 36, _, _, _, _, _⟩) rfl (.tmp 20) (.tmp 35) rfl (w.heap.size + 3) 2 kv (ks.take k) ks[k] 48 ⟨#[]⟩ (.slice (some ⟨q4, 0, none⟩) 4 4) f3 HT.out.1 HT.out.2.1 (by rfl) v11.heap.size (by rfl) rfl HK.out.2 HB.out HF.out HG1.out (by omega) ?_
      intro g cap w6 hG6 hgrow6
      have hm6 := (HK.out.1.below (HB.out.alloc HB.out.size (Obj.cells #[.int .i64 48, .string ⟨#[]⟩, .slice (some ⟨q4, 0, none⟩) 4 4] 67))).grown hgrow6 (fun q hq => (HK.out.2.lt q hq).1)
      have HY : Hid (Blk w6 wr.heap.size 84 #[.int .i64 x.status, .int .i64 x.why, .slice p1 n1 q1, .slice e1 n2 r1]) := (hgrow6.block _ hHeld.2.lt (fun e => by have := (HK.out.2.lt _ e.symm).2; omega)).trans hHeld.2
      have H6 : Hid (KM5 w w6 #[.string c.hash, .int .i64 c.nonce, .int .i64 c.time, .int .i64 c.next, .int .i64 c.plan, .int .i64 c.err, .slice (some ⟨b, off, none⟩) n pc, .string c.sig] kv /\ GrowK w6 (w.heap.size + 3) 2 (.slice (some ⟨g, 0, none⟩) (k + 1) cap) (ks.take (k + 1)) /\ wr.heap.size < w6.heap.size) := by
       have e := List.take_append_getElem hj1
       rw [htl, e] at hG6
       exact ⟨hm6, hG6, HY.out.lt⟩
      try rw [htl]
      clear hG6 hgrow6 hm6 HG HF HB
      refine hK.out _ _ ⟨⟨kv, H6.out.1⟩, HY.out⟩ (fun hHeld => ?_)
      clear hK K
      try simp only [Act.put, zA, zB, zC]
      refine zT 18 37 ?_ rfl (by rfl) ?_ hHeld ?_
      rotate_left
      ·intro W hSw
       go_simp
       try with_reducible rfl
      try simp only [Act.put, zA, zB, zC]
      refine wpAnyH_ready (rs := [19]) (by kernel_rfl) (by simp) ?_
      refine AllReadyH.cons (o := ⟨none, _, _, _, _, _⟩) rfl (fun K hK => ?_) AllReadyH.nil
      obtain ⟨⟨q0, q1, q2⟩, qf⟩ := cell_in H6.out.1.2.2.2
      have HZ9 : Hid (w.heap.size + 1 + 1 ≠ wr.heap.size) := by have := HG1.out; show w.heap.size + 1 + 1 ≠ wr.heap.size; omega
      go_simp
      refine hK.out _ _ ⟨⟨_, H6.out.1.laid _⟩, HY.out.other (p := ⟨w.heap.size + 1 + 1, 2, none⟩) _ (Ne.symm HZ9.out)⟩ (fun hHeld => ?_)
      clear hK K hHeld q0 q1 q2 qf
      try simp only [Act.put, zA, zB, zC]
      refine wpAnyH_done (by kernel_rfl) ?_ _
      go_wp2_with fail
      refine ⟨⟨k + 1, by omega, by go_num, .slice (some ⟨g, 0, none⟩) (k + 1) cap, H6.out.1.laid _, ?_⟩, by simp [intOf]; omega⟩
      exact H6.out.2.1.out fun b hb => heap_setCell_other _ _ _ _ (by show b ≠ w.heap.size + 1 + 1; omega)
     have lk : v2.cell? ⟨w.heap.size + 1 + 1, 2, none⟩ = some kv := (cell_in HG.out).1.2.2
     go_simp
     refine hK.out _ _ hHeld (fun hHeld => ?_)
     clear hK K lk
     try simp only [Act.put, zA, zB, zC]
     refine wpAnyH_ready (rs := [10]) (by kernel_rfl) (by simp) ?_
     refine AllReadyH.cons (o := ⟨some 29, _, _, _, _, _⟩) rfl (fun K hK => ?_) AllReadyH.nil
     go_simp
     have hsz : wr.heap.size <= v2.heap.size := HB.out.size
     refine (bytsI_any 0 x.path _ _ HW1.out.1 HW1.out.2 ((HL.out.1.below HK.out.1.1).below HB.out)).mono ?_
     intro e v13 hto
     obtain ⟨aP, lP, cP, fP, rfl, hoT, hv⟩ := to_lst hto
     clear hto
     have hH := KX5.below hHeld hv
     replace HG := zH (HG.out.below hv)
     replace HB := zH (HB.out.trans ((hv).mono HB.out.size))
     have HP : Hid (OwnK v13 wr.heap.size 1 (.slice aP lP cP) (It.kids (n := 1) (lstJ (x.path.map bytJ))) fP) := OwnK.base hsz hoT
     clear hoT hsz
     go_wp2_with fail
     refine hK.out _ _ hH (fun hHeld => ?_)
     clear hK K hH hv
     try simp only [Act.put, zA, zB, zC]
     refine wpAnyH_ready (rs := [13]) (by kernel_rfl) (by simp) ?_
     refine AllReadyH.cons (o := ⟨some 32, _, _, _, _, _⟩) rfl (fun K hK => ?_) AllReadyH.nil
     go_simp
     have hsz : wr.heap.size <= v13.heap.size := HB.out.size
     refine (bytsI_any 0 x.lst _ _ HW2.out.1 HW2.out.2 ((HL.out.2.below HK.out.1.1).below HB.out)).mono ?_
     intro e v14 hto
     obtain ⟨aE, lE, cE, fE, rfl, hoT, hv⟩ := to_lst hto
     clear hto
     have hH := KX5.below hHeld hv
     have HD : Hid (∀ g ∈ fP, g ∉ fE) := fun g h1 h2 => by have := (OwnK.lt HP.out g h1).2; have := (OwnK.lt hoT g h2).1; omega
     replace HG := zH (HG.out.below hv)
     replace HB := zH (HB.out.trans ((hv).mono HB.out.size))
     replace HP := zH (HP.out.below hv (fun b hm => (OwnK.lt HP.out b hm).2))
     have HE : Hid (OwnK v14 wr.heap.size 1 (.slice aE lE cE) (It.kids (n := 1) (lstJ (x.lst.map bytJ))) fE) := OwnK.base hsz hoT
     clear hoT hsz
     go_wp2_with fail
     refine hK.out _ _ hH (fun hHeld => ?_)
     clear hK K hH hv
     try simp only [Act.put, zA, zB, zC]
     refine wpAnyH_ready (rs := [14]) (by kernel_rfl) (by simp) ?_
     refine AllReadyH.cons (o := ⟨some 33, _, _, _, _, _⟩) rfl (fun K hK => ?_) AllReadyH.nil
     obtain ⟨v15, hW3⟩ : ∃ W, W = v14.alloc (Obj.cells #[.int .i64 2, .string ⟨(intT (numN x.status)).toArray⟩, .slice none 0 0, .int .i64 2, .string ⟨(intT (numN x.why)).toArray⟩, .slice none 0 0, .int .i64 48, .string ⟨#[]⟩, .slice aP lP cP, .int .i64 48, .string ⟨#[]⟩, .slice aE lE cE] 67) := ⟨_, rfl⟩
     have hv : Below v14.heap.size v14 v15 := by rw [hW3]; exact (Below.refl _ _).alloc (Nat.le_refl _) _
     have HF0 : Hid (∃ fp, OwnK v15 wr.heap.size 2 (.slice (some ⟨v14.heap.size, 0, none⟩) 4 4) (It.kids ks[k]) fp) := by rw [HT.out.2.2]; exact ans_row HP.out HE.out HD.out HB.out.size hW3
     clear HP HE HD
     replace HG := zH (HG.out.below hv)
     replace HB := zH (HB.out.trans ((hv).mono HB.out.size))
     have hH := KX5.below hHeld hv
     go_simp
     rw [<- hW3]
     refine hK.out _ _ hH (fun hHeld => ?_)
     clear hK K hH hW3 hv
     try simp only [Act.put, zA, zB, zC]
     obtain ⟨q4, hq4⟩ := zE (v14.heap.size)
     rw [hq4] at HF0 |-
     clear hq4
     obtain ⟨f3, hf3⟩ := HF0.out
     have HF : Hid (OwnK v15 wr.heap.size 2 (.slice (some ⟨q4, 0, none⟩) 4 4) (It.kids ks[k]) f3) := hf3
     clear HF0 hf3
     refine zT 15 34 ?_ rfl (by rfl) ?_ hHeld ?_
     rotate_left
     ·intro W hSw
      go_simp
      try with_reducible rfl
     try simp only [Act.put, zA, zB, zC]
     refine wpAnyH_ready (rs := [16]) (by kernel_rfl) (by simp) ?_
     refine AllReadyH.cons (o := ⟨some 35, _, _, _, _, _⟩) rfl (fun K hK => ?_) AllReadyH.nil
     have hH := KX5.below hHeld ((Below.refl v15.heap.size v15).alloc (Nat.le_refl _) (Obj.cells #[.int .i64 48, .string ⟨#[]⟩, .slice (some ⟨q4, 0, none⟩) 4 4] 67))
     have HGn : Hid (Blk3 (v15.alloc (Obj.cells #[.int .i64 48, .string ⟨#[]⟩, .slice (some ⟨q4, 0, none⟩) 4 4] 67)) (w.heap.size + 1 + 1) (.int .i64 48) (.string ⟨#[]⟩) kv) := HG.out.below ((Below.refl _ _).alloc (Nat.le_refl _) _)
     clear HG
     have HG := HGn
     clear HGn
     go_simp
     refine hK.out _ _ hH (fun hHeld => ?_)
     clear hK K hH
     try simp only [Act.put, zA, zB, zC]
     refine wpAnyH_ready (rs := [17]) (by kernel_rfl) (by simp) ?_
     refine AllReadyH.cons (o := ⟨some 36, _, _, _, _, _⟩) rfl (fun K hK => ?_) AllReadyH.nil
     refine step_append_item0 (o := ⟨some 36, _, _, _, _, _⟩) rfl (.tmp 20) (.tmp 35) rfl (w.heap.size + 3) 2 kv (ks.take k) ks[k] 48 ⟨#[]⟩ (.slice (some ⟨q4, 0, none⟩) 4 4) f3 HT.out.1 HT.out.2.1 (by rfl) v15.heap.size (by rfl) rfl HK.out.2 HB.out HF.out HG1.out (by omega) ?_
     intro g cap w6 hG6 hgrow6
     have hm6 := (HK.out.1.below (HB.out.alloc HB.out.size (Obj.cells #[.int .i64 48, .string ⟨#[]⟩, .slice (some ⟨q4, 0, none⟩) 4 4] 67))).grown hgrow6 (fun q hq => (HK.out.2.lt q hq).1)
     have HY : Hid (Blk w6 wr.heap.size 84 #[.int .i64 x.status, .int .i64 x.why, .slice p1 n1 q1, .slice e1 n2 r1]) := (hgrow6.block _ hHeld.2.lt (fun e => by have := (HK.out.2.lt _ e.symm).2; omega)).trans hHeld.2
     have H6 : Hid (KM5 w w6 #[.string c.hash, .int .i64 c.nonce, .int .i64 c.time, .int .i64 c.next, .int .i64 c.plan, .int .i64 c.err, .slice (some ⟨b, off, none⟩) n pc, .string c.sig] kv /\ GrowK w6 (w.heap.size + 3) 2 (.slice (some ⟨g, 0, none⟩) (k + 1) cap) (ks.take (k + 1)) /\ wr.heap.size < w6.heap.size) := by
      have e := List.take_append_getElem hj1
      rw [htl, e] at hG6
      exact ⟨hm6, hG6, HY.out.lt⟩
     try rw [htl]
     clear hG6 hgrow6 hm6 HG HF HB
     refine hK.out _ _ ⟨⟨kv, H6.out.1⟩, HY.out⟩ (fun hHeld => ?_)
     clear hK K
     try simp only [Act.put, zA, zB, zC]
     refine zT 18 37 ?_ rfl (by rfl) ?_ hHeld ?_
     rotate_left
     ·intro W hSw
      go_simp
      try with_reducible rfl
     try simp only [Act.put, zA, zB, zC]
     refine wpAnyH_ready (rs := [19]) (by kernel_rfl) (by simp) ?_
     refine AllReadyH.cons (o := ⟨none, _, _, _, _, _⟩) rfl (fun K hK => ?_) AllReadyH.nil
     obtain ⟨⟨q0, q1, q2⟩, qf⟩ := cell_in H6.out.1.2.2.2
     have HZ9 : Hid (w.heap.size + 1 + 1 ≠ wr.heap.size) := by have := HG1.out; show w.heap.size + 1 + 1 ≠ wr.heap.size; omega
     go_simp
     refine hK.out _ _ ⟨⟨_, H6.out.1.laid _⟩, HY.out.other (p := ⟨w.heap.size + 1 + 1, 2, none⟩) _ (Ne.symm HZ9.out)⟩ (fun hHeld => ?_)
     clear hK K hHeld q0 q1 q2 qf
     try simp only [Act.put, zA, zB, zC]
     refine wpAnyH_done (by kernel_rfl) ?_ _
     go_wp2_with fail
     refine ⟨⟨k + 1, by omega, by go_num, .slice (some ⟨g, 0, none⟩) (k + 1) cap, H6.out.1.laid _, ?_⟩, by simp [intOf]; omega⟩
     exact H6.out.2.1.out fun b hb => heap_setCell_other _ _ _ _ (by show b ≠ w.heap.size + 1 + 1; omega)
    have lk : v1.cell? ⟨w.heap.size + 1 + 1, 2, none⟩ = some kv := (cell_in HG.out).1.2.2
    go_simp
    refine hK.out _ _ hHeld (fun hHeld => ?_)
    clear hK K lk
    try simp only [Act.put, zA, zB, zC]
    refine wpAnyH_ready (rs := [7]) (by kernel_rfl) (by simp) ?_
    refine AllReadyH.cons (o := ⟨some 26, _, _, _, _, _⟩) rfl (fun K hK => ?_) AllReadyH.nil
    go_simp
    refine (specIntItem_any x.why _ HQ.out.2).mono ?_
    rintro e v17 ⟨rfl, hv⟩
    have hH := KX5.below hHeld hv
    replace HG := zH (HG.out.below hv)
    replace HB := zH (HB.out.trans ((hv).mono HB.out.size))
    go_wp2_with fail
    refine hK.out _ _ hH (fun hHeld => ?_)
    clear hK K hH hv
    try simp only [Act.put, zA, zB, zC]
    refine wpAnyH_ready (rs := [10]) (by kernel_rfl) (by simp) ?_
    refine AllReadyH.cons (o := ⟨some 29, _, _, _, _, _⟩) rfl (fun K hK => ?_) AllReadyH.nil
    go_simp
    have hsz : wr.heap.size <= v17.heap.size := HB.out.size
    refine (bytsI_any 0 x.path _ _ HW1.out.1 HW1.out.2 ((HL.out.1.below HK.out.1.1).below HB.out)).mono ?_
    intro e v18 hto
    obtain ⟨aP, lP, cP, fP, rfl, hoT, hv⟩ := to_lst hto
    clear hto
    have hH := KX5.below hHeld hv
    replace HG := zH (HG.out.below hv)
    replace HB := zH (HB.out.trans ((hv).mono HB.out.size))
    have HP : Hid (OwnK v18 wr.heap.size 1 (.slice aP lP cP) (It.kids (n := 1) (lstJ (x.path.map bytJ))) fP) := OwnK.base hsz hoT
    clear hoT hsz
    go_wp2_with fail
    refine hK.out _ _ hH (fun hHeld => ?_)
    clear hK K hH hv
    try simp only [Act.put, zA, zB, zC]
    refine wpAnyH_ready (rs := [13]) (by kernel_rfl) (by simp) ?_
    refine AllReadyH.cons (o := ⟨some 32, _, _, _, _, _⟩) rfl (fun K hK => ?_) AllReadyH.nil
    go_simp
    have hsz : wr.heap.size <= v18.heap.size := HB.out.size
    refine (bytsI_any 0 x.lst _ _ HW2.out.1 HW2.out.2 ((HL.out.2.below HK.out.1.1).below HB.out)).mono ?_
    intro e v19 hto
    obtain ⟨aE, lE, cE, fE, rfl, hoT, hv⟩ := to_lst hto
    clear hto
    have hH := KX5.below hHeld hv
    have HD : Hid (∀ g ∈ fP, g ∉ fE) := fun g h1 h2 => by have := (OwnK.lt HP.out g h1).2; have := (OwnK.lt hoT g h2).1; omega
    replace HG := zH (HG.out.below hv)
    replace HB := zH (HB.out.trans ((hv).mono HB.out.size))
    replace HP := zH (HP.out.below hv (fun b hm => (OwnK.lt HP.out b hm).2))
    have HE : Hid (OwnK v19 wr.heap.size 1 (.slice aE lE cE) (It.kids (n := 1) (lstJ (x.lst.map bytJ))) fE) := OwnK.base hsz hoT
    clear hoT hsz
    go_wp2_with fail
    refine hK.out _ _ hH (fun hHeld => ?_)
    clear hK K hH hv
    try simp only [Act.put, zA, zB, zC]
    refine wpAnyH_ready (rs := [14]) (by kernel_rfl) (by simp) ?_
    refine AllReadyH.cons (o := ⟨some 33, _, _, _, _, _⟩) rfl (fun K hK => ?_) AllReadyH.nil
    obtain ⟨v20, hW3⟩ : ∃ W, W = v19.alloc (Obj.cells #[.int .i64 2, .string ⟨(intT (numN x.status)).toArray⟩, .slice none 0 0, .int .i64 2, .string ⟨(intT (numN x.why)).toArray⟩, .slice none 0 0, .int .i64 48, .string ⟨#[]⟩, .slice aP lP cP, .int .i64 48, .string ⟨#[]⟩, .slice aE lE cE] 67) := ⟨_, rfl⟩
    have hv : Below v19.heap.size v19 v20 := by rw [hW3]; exact (Below.refl _ _).alloc (Nat.le_refl _) _
    have HF0 : Hid (∃ fp, OwnK v20 wr.heap.size 2 (.slice (some ⟨v19.heap.size, 0, none⟩) 4 4) (It.kids ks[k]) fp) := by rw [HT.out.2.2]; exact ans_row HP.out HE.out HD.out HB.out.size hW3
    clear HP HE HD
    replace HG := zH (HG.out.below hv)
    replace HB := zH (HB.out.trans ((hv).mono HB.out.size))
    have hH := KX5.below hHeld hv
    go_simp
    rw [<- hW3]
    refine hK.out _ _ hH (fun hHeld => ?_)
    clear hK K hH hW3 hv
    try simp only [Act.put, zA, zB, zC]
    obtain ⟨q4, hq4⟩ := zE (v19.heap.size)
    rw [hq4] at HF0 |-
    clear hq4
    obtain ⟨f3, hf3⟩ := HF0.out
    have HF : Hid (OwnK v20 wr.heap.size 2 (.slice (some ⟨q4, 0, none⟩) 4 4) (It.kids ks[k]) f3) := hf3
    clear HF0 hf3
    refine zT 15 34 ?_ rfl (by rfl) ?_ hHeld ?_
    rotate_left
    ·intro W hSw
     go_simp
     try with_reducible rfl
    try simp only [Act.put, zA, zB, zC]
    refine wpAnyH_ready (rs := [16]) (by kernel_rfl) (by simp) ?_
    refine AllReadyH.cons (o := ⟨some 35, _, _, _, _, _⟩) rfl (fun K hK => ?_) AllReadyH.nil
    have hH := KX5.below hHeld ((Below.refl v20.heap.size v20).alloc (Nat.le_refl _) (Obj.cells #[.int .i64 48, .string ⟨#[]⟩, .slice (some ⟨q4, 0, none⟩) 4 4] 67))
    have HGn : Hid (Blk3 (v20.alloc (Obj.cells #[.int .i64 48, .string ⟨#[]⟩, .slice (some ⟨q4, 0, none⟩) 4 4] 67)) (w.heap.size + 1 + 1) (.int .i64 48) (.string ⟨#[]⟩) kv) := HG.out.below ((Below.refl _ _).alloc (Nat.le_refl _) _)
    clear HG
    have HG := HGn
    clear HGn
    go_simp
    refine hK.out _ _ hH (fun hHeld => ?_)
    clear hK K hH
    try simp only [Act.put, zA, zB, zC]
    refine wpAnyH_ready (rs := [17]) (by kernel_rfl) (by simp) ?_
    refine AllReadyH.cons (o := ⟨some 36, _, _, _, _, _⟩) rfl (fun K hK => ?_) AllReadyH.nil
    refine step_append_item0 (o := ⟨some 36, _, _, _, _, _⟩) rfl (.tmp 20) (.tmp 35) rfl (w.heap.size + 3) 2 kv (ks.take k) ks[k] 48 ⟨#[]⟩ (.slice (some ⟨q4, 0, none⟩) 4 4) f3 HT.out.1 HT.out.2.1 (by rfl) v20.heap.size (by rfl) rfl HK.out.2 HB.out HF.out HG1.out (by omega) ?_
    intro g cap w6 hG6 hgrow6
    have hm6 := (HK.out.1.below (HB.out.alloc HB.out.size (Obj.cells #[.int .i64 48, .string ⟨#[]⟩, .slice (some ⟨q4, 0, none⟩) 4 4] 67))).grown hgrow6 (fun q hq => (HK.out.2.lt q hq).1)
    have HY : Hid (Blk w6 wr.heap.size 84 #[.int .i64 x.status, .int .i64 x.why, .slice p1 n1 q1, .slice e1 n2 r1]) := (hgrow6.block _ hHeld.2.lt (fun e => by have := (HK.out.2.lt _ e.symm).2; omega)).trans hHeld.2
    have H6 : Hid (KM5 w w6 #[.string c.hash, .int .i64 c.nonce, .int .i64 c.time, .int .i64 c.next, .int .i64 c.plan, .int .i64 c.err, .slice (some ⟨b, off, none⟩) n pc, .string c.sig] kv /\ GrowK w6 (w.heap.size + 3) 2 (.slice (some ⟨g, 0, none⟩) (k + 1) cap) (ks.take (k + 1)) /\ wr.heap.size < w6.heap.size) := by
     have e := List.take_append_getElem hj1
     rw [htl, e] at hG6
     exact ⟨hm6, hG6, HY.out.lt⟩
    try rw [htl]
    clear hG6 hgrow6 hm6 HG HF HB
    refine hK.out _ _ ⟨⟨kv, H6.out.1⟩, HY.out⟩ (fun hHeld => ?_)
    clear hK K
    try simp only [Act.put, zA, zB, zC]
    refine zT 18 37 ?_ rfl (by rfl) ?_ hHeld ?_
    rotate_left
    ·intro W hSw
     go_simp
     try with_reducible rfl
    try simp only [Act.put, zA, zB, zC]
    refine wpAnyH_ready (rs := [19]) (by kernel_rfl) (by simp) ?_
    refine AllReadyH.cons (o := ⟨none, _, _, _, _, _⟩) rfl (fun K hK => ?_) AllReadyH.nil
    obtain ⟨⟨q0, q1, q2⟩, qf⟩ := cell_in H6.out.1.2.2.2
    have HZ9 : Hid (w.heap.size + 1 + 1 ≠ wr.heap.size) := by have := HG1.out; show w.heap.size + 1 + 1 ≠ wr.heap.size; omega
    go_simp
    refine hK.out _ _ ⟨⟨_, H6.out.1.laid _⟩, HY.out.other (p := ⟨w.heap.size + 1 + 1, 2, none⟩) _ (Ne.symm HZ9.out)⟩ (fun hHeld => ?_)
    clear hK K hHeld q0 q1 q2 qf
    try simp only [Act.put, zA, zB, zC]
    refine wpAnyH_done (by kernel_rfl) ?_ _
    go_wp2_with fail
    refine ⟨⟨k + 1, by omega, by go_num, .slice (some ⟨g, 0, none⟩) (k + 1) cap, H6.out.1.laid _, ?_⟩, by simp [intOf]; omega⟩
    exact H6.out.2.1.out fun b hb => heap_setCell_other _ _ _ _ (by show b ≠ w.heap.size + 1 + 1; omega)
   have lk : Wd0.cell? ⟨w.heap.size + 1 + 1, 2, none⟩ = some kv := (cell_in HG.out).1.2.2
   go_simp
   refine hK.out _ _ hHeld (fun hHeld => ?_)
   clear hK K lk
   try simp only [Act.put, zA, zB, zC]
   refine wpAnyH_ready (rs := [4]) (by kernel_rfl) (by simp) ?_
   refine AllReadyH.cons (o := ⟨some 23, _, _, _, _, _⟩) rfl (fun K hK => ?_) AllReadyH.nil
   go_simp
   refine (specIntItem_any x.status _ HQ.out.1).mono ?_
   rintro e v22 ⟨rfl, hv⟩
   have hH := KX5.below hHeld hv
   replace HG := zH (HG.out.below hv)
   replace HB := zH (HB.out.trans ((hv).mono HB.out.size))
   go_wp2_with fail
   refine hK.out _ _ hH (fun hHeld => ?_)
   clear hK K hH hv
   try simp only [Act.put, zA, zB, zC]
   refine wpAnyH_ready (rs := [7]) (by kernel_rfl) (by simp) ?_
   refine AllReadyH.cons (o := ⟨some 26, _, _, _, _, _⟩) rfl (fun K hK => ?_) AllReadyH.nil
   go_simp
   refine (specIntItem_any x.why _ HQ.out.2).mono ?_
   rintro e v23 ⟨rfl, hv⟩
   have hH := KX5.below hHeld hv
   replace HG := zH (HG.out.below hv)
   replace HB := zH (HB.out.trans ((hv).mono HB.out.size))
   go_wp2_with fail
   refine hK.out _ _ hH (fun hHeld => ?_)
   clear hK K hH hv
   try simp only [Act.put, zA, zB, zC]
   refine wpAnyH_ready (rs := [10]) (by kernel_rfl) (by simp) ?_
   refine AllReadyH.cons (o := ⟨some 29, _, _, _, _, _⟩) rfl (fun K hK => ?_) AllReadyH.nil
   go_simp
   have hsz : wr.heap.size <= v23.heap.size := HB.out.size
   refine (bytsI_any 0 x.path _ _ HW1.out.1 HW1.out.2 ((HL.out.1.below HK.out.1.1).below HB.out)).mono ?_
   intro e v24 hto
   obtain ⟨aP, lP, cP, fP, rfl, hoT, hv⟩ := to_lst hto
   clear hto
   have hH := KX5.below hHeld hv
   replace HG := zH (HG.out.below hv)
   replace HB := zH (HB.out.trans ((hv).mono HB.out.size))
   have HP : Hid (OwnK v24 wr.heap.size 1 (.slice aP lP cP) (It.kids (n := 1) (lstJ (x.path.map bytJ))) fP) := OwnK.base hsz hoT
   clear hoT hsz
   go_wp2_with fail
   refine hK.out _ _ hH (fun hHeld => ?_)
   clear hK K hH hv
   try simp only [Act.put, zA, zB, zC]
   refine wpAnyH_ready (rs := [13]) (by kernel_rfl) (by simp) ?_
   refine AllReadyH.cons (o := ⟨some 32, _, _, _, _, _⟩) rfl (fun K hK => ?_) AllReadyH.nil
   go_simp
   have hsz : wr.heap.size <= v24.heap.size := HB.out.size
   refine (bytsI_any 0 x.lst _ _ HW2.out.1 HW2.out.2 ((HL.out.2.below HK.out.1.1).below HB.out)).mono ?_
   intro e v25 hto
   obtain ⟨aE, lE, cE, fE, rfl, hoT, hv⟩ := to_lst hto
   clear hto
   have hH := KX5.below hHeld hv
   have HD : Hid (∀ g ∈ fP, g ∉ fE) := fun g h1 h2 => by have := (OwnK.lt HP.out g h1).2; have := (OwnK.lt hoT g h2).1; omega
   replace HG := zH (HG.out.below hv)
   replace HB := zH (HB.out.trans ((hv).mono HB.out.size))
   replace HP := zH (HP.out.below hv (fun b hm => (OwnK.lt HP.out b hm).2))
   have HE : Hid (OwnK v25 wr.heap.size 1 (.slice aE lE cE) (It.kids (n := 1) (lstJ (x.lst.map bytJ))) fE) := OwnK.base hsz hoT
   clear hoT hsz
   go_wp2_with fail
   refine hK.out _ _ hH (fun hHeld => ?_)
   clear hK K hH hv
   try simp only [Act.put, zA, zB, zC]
   refine wpAnyH_ready (rs := [14]) (by kernel_rfl) (by simp) ?_
   refine AllReadyH.cons (o := ⟨some 33, _, _, _, _, _⟩) rfl (fun K hK => ?_) AllReadyH.nil
   obtain ⟨v26, hW3⟩ : ∃ W, W = v25.alloc (Obj.cells #[.int .i64 2, .string ⟨(intT (numN x.status)).toArray⟩, .slice none 0 0, .int .i64 2, .string ⟨(intT (numN x.why)).toArray⟩, .slice none 0 0, .int .i64 48, .string ⟨#[]⟩, .slice aP lP cP, .int .i64 48, .string ⟨#[]⟩, .slice aE lE cE] 67) := ⟨_, rfl⟩
   have hv : Below v25.heap.size v25 v26 := by rw [hW3]; exact (Below.refl _ _).alloc (Nat.le_refl _) _
   have HF0 : Hid (∃ fp, OwnK v26 wr.heap.size 2 (.slice (some ⟨v25.heap.size, 0, none⟩) 4 4) (It.kids ks[k]) fp) := by rw [HT.out.2.2]; exact ans_row HP.out HE.out HD.out HB.out.size hW3
   clear HP HE HD
   replace HG := zH (HG.out.below hv)
   replace HB := zH (HB.out.trans ((hv).mono HB.out.size))
   have hH := KX5.below hHeld hv
   go_simp
   rw [<- hW3]
   refine hK.out _ _ hH (fun hHeld => ?_)
   clear hK K hH hW3 hv
   try simp only [Act.put, zA, zB, zC]
   obtain ⟨q4, hq4⟩ := zE (v25.heap.size)
   rw [hq4] at HF0 |-
   clear hq4
   obtain ⟨f3, hf3⟩ := HF0.out
   have HF : Hid (OwnK v26 wr.heap.size 2 (.slice (some ⟨q4, 0, none⟩) 4 4) (It.kids ks[k]) f3) := hf3
   clear HF0 hf3
   refine zT 15 34 ?_ rfl (by rfl) ?_ hHeld ?_
   rotate_left
   ·intro W hSw
    go_simp
    try with_reducible rfl
   try simp only [Act.put, zA, zB, zC]
   refine wpAnyH_ready (rs := [16]) (by kernel_rfl) (by simp) ?_
   refine AllReadyH.cons (o := ⟨some 35, _, _, _, _, _⟩) rfl (fun K hK => ?_) AllReadyH.nil
   have hH := KX5.below hHeld ((Below.refl v26.heap.size v26).alloc (Nat.le_refl _) (Obj.cells #[.int .i64 48, .string ⟨#[]⟩, .slice (some ⟨q4, 0, none⟩) 4 4] 67))
   have HGn : Hid (Blk3 (v26.alloc (Obj.cells #[.int .i64 48, .string ⟨#[]⟩, .slice (some ⟨q4, 0, none⟩) 4 4] 67)) (w.heap.size + 1 + 1) (.int .i64 48) (.string ⟨#[]⟩) kv) := HG.out.below ((Below.refl _ _).alloc (Nat.le_refl _) _)
   clear HG
   have HG := HGn
   clear HGn
   go_simp
   refine hK.out _ _ hH (fun hHeld => ?_)
   clear hK K hH
   try simp only [Act.put, zA, zB, zC]
   refine wpAnyH_ready (rs := [17]) (by kernel_rfl) (by simp) ?_
   refine AllReadyH.cons (o := ⟨some 36, _, _, _, _, _⟩) rfl (fun K hK => ?_) AllReadyH.nil
   refine step_append_item0 (o := ⟨some 36, _, _, _, _, _⟩) rfl (.tmp 20) (.tmp 35) rfl (w.heap.size + 3) 2 kv (ks.take k) ks[k] 48 ⟨#[]⟩ (.slice (some ⟨q4, 0, none⟩) 4 4) f3 HT.out.1 HT.out.2.1 (by rfl) v26.heap.size (by rfl) rfl HK.out.2 HB.out HF.out HG1.out (by omega) ?_
   intro g cap w6 hG6 hgrow6
   have hm6 := (HK.out.1.below (HB.out.alloc HB.out.size (Obj.cells #[.int .i64 48, .string ⟨#[]⟩, .slice (some ⟨q4, 0, none⟩) 4 4] 67))).grown hgrow6 (fun q hq => (HK.out.2.lt q hq).1)
   have HY : Hid (Blk w6 wr.heap.size 84 #[.int .i64 x.status, .int .i64 x.why, .slice p1 n1 q1, .slice e1 n2 r1]) := (hgrow6.block _ hHeld.2.lt (fun e => by have := (HK.out.2.lt _ e.symm).2; omega)).trans hHeld.2
   have H6 : Hid (KM5 w w6 #[.string c.hash, .int .i64 c.nonce, .int .i64 c.time, .int .i64 c.next, .int .i64 c.plan, .int .i64 c.err, .slice (some ⟨b, off, none⟩) n pc, .string c.sig] kv /\ GrowK w6 (w.heap.size + 3) 2 (.slice (some ⟨g, 0, none⟩) (k + 1) cap) (ks.take (k + 1)) /\ wr.heap.size < w6.heap.size) := by
    have e := List.take_append_getElem hj1
    rw [htl, e] at hG6
    exact ⟨hm6, hG6, HY.out.lt⟩
   try rw [htl]
   clear hG6 hgrow6 hm6 HG HF HB
   refine hK.out _ _ ⟨⟨kv, H6.out.1⟩, HY.out⟩ (fun hHeld => ?_)
   clear hK K
   try simp only [Act.put, zA, zB, zC]
   refine zT 18 37 ?_ rfl (by rfl) ?_ hHeld ?_
   rotate_left
   ·intro W hSw
    go_simp
    try with_reducible rfl
   try simp only [Act.put, zA, zB, zC]
   refine wpAnyH_ready (rs := [19]) (by kernel_rfl) (by simp) ?_
   refine AllReadyH.cons (o := ⟨none, _, _, _, _, _⟩) rfl (fun K hK => ?_) AllReadyH.nil
   obtain ⟨⟨q0, q1, q2⟩, qf⟩ := cell_in H6.out.1.2.2.2
   have HZ9 : Hid (w.heap.size + 1 + 1 ≠ wr.heap.size) := by have := HG1.out; show w.heap.size + 1 + 1 ≠ wr.heap.size; omega
   go_simp
   refine hK.out _ _ ⟨⟨_, H6.out.1.laid _⟩, HY.out.other (p := ⟨w.heap.size + 1 + 1, 2, none⟩) _ (Ne.symm HZ9.out)⟩ (fun hHeld => ?_)
   clear hK K hHeld q0 q1 q2 qf
   try simp only [Act.put, zA, zB, zC]
   refine wpAnyH_done (by kernel_rfl) ?_ _
   go_wp2_with fail
   refine ⟨⟨k + 1, by omega, by go_num, .slice (some ⟨g, 0, none⟩) (k + 1) cap, H6.out.1.laid _, ?_⟩, by simp [intOf]; omega⟩
   exact H6.out.2.1.out fun b hb => heap_setCell_other _ _ _ _ (by show b ≠ w.heap.size + 1 + 1; omega)
  ·have hlti : ¬ (k : Int) < (n : Int) := by omega
   have HE : Hid (∃ fp, OwnK wr (w.heap.size + 3) 3 kv (c.ans.map ansI) fp) := by
    have h := HK.out.2
    rw [List.take_of_length_le (by have := HK0.out.2; omega), <- HK0.out.1] at h
    exact h.own
   obtain ⟨axe, cape, hkv⟩ := HK.out.2.shape
   obtain ⟨le, hle⟩ := zE ((ks.take k).length)
   rw [hle] at hkv
   subst hkv
   clear hle
   have HM : Hid (KM5 w wr #[.string c.hash, .int .i64 c.nonce, .int .i64 c.time, .int .i64 c.next, .int .i64 c.plan, .int .i64 c.err, .slice pa n pc, .string c.sig] (.slice axe le cape)) := HK.out.1
   clear HK
   go_wp2_with fail
   clear y6
   refine wp_region_held_drew (S := fun W => KM5 w W #[.string c.hash, .int .i64 c.nonce, .int .i64 c.time, .int .i64 c.next, .int .i64 c.plan, .int .i64 c.err, .slice pa n pc, .string c.sig] (.slice axe le cape)) (by kernel_rfl) (KM5.below HM.out ((Below.refl _ _).drew)) (fun hHeld => ?_)
   have HE0 : Hid (∃ fp, OwnK wr.drew (w.heap.size + 3) 3 (.slice axe le cape) (c.ans.map ansI) fp) := by
    obtain ⟨fp, h⟩ := HE.out
    exact ⟨fp, h.below (Below.refl _ _).drew (fun b hb => (OwnK.lt h b hb).2)⟩
   clear HM HE
   generalize wr.drew = Wd0 at hHeld HE0 |-
   refine zT 0 38 ?_ rfl (by rfl) ?_ hHeld ?_
   rotate_left
   ·intro W hSw
    go_simp
    try with_reducible rfl
   try simp only [Act.put, zA, zB, zC]
   refine zT 1 39 ?_ rfl (by rfl) ?_ hHeld ?_
   rotate_left
   ·intro W hSw
    have l0 : W.cell? ⟨w.heap.size, 0, none⟩ = some (.string c.hash) := hSw.2.1.cell 0
    go_simp
    try with_reducible rfl
   try simp only [Act.put, zA, zB, zC]
   refine zT 3 41 ?_ rfl (by rfl) ?_ hHeld ?_
   rotate_left
   ·intro W hSw
    go_simp
    try with_reducible rfl
   try simp only [Act.put, zA, zB, zC]
   refine zT 4 42 ?_ rfl (by rfl) ?_ hHeld ?_
   rotate_left
   ·intro W hSw
    have l0 : W.cell? ⟨w.heap.size, 1, none⟩ = some (.int .i64 c.nonce) := hSw.2.1.cell 1
    go_simp
    try with_reducible rfl
   try simp only [Act.put, zA, zB, zC]
   refine zT 6 44 ?_ rfl (by rfl) ?_ hHeld ?_
   rotate_left
   ·intro W hSw
    go_simp
    try with_reducible rfl
   try simp only [Act.put, zA, zB, zC]
   refine zT 7 45 ?_ rfl (by rfl) ?_ hHeld ?_
   rotate_left
   ·intro W hSw
    have l0 : W.cell? ⟨w.heap.size, 2, none⟩ = some (.int .i64 c.time) := hSw.2.1.cell 2
    go_simp
    try with_reducible rfl
   try simp only [Act.put, zA, zB, zC]
   refine zT 9 47 ?_ rfl (by rfl) ?_ hHeld ?_
   rotate_left
   ·intro W hSw
    go_simp
    try with_reducible rfl
   try simp only [Act.put, zA, zB, zC]
   refine zT 10 48 ?_ rfl (by rfl) ?_ hHeld ?_
   rotate_left
   ·intro W hSw
    have l0 : W.cell? ⟨w.heap.size, 3, none⟩ = some (.int .i64 c.next) := hSw.2.1.cell 3
    go_simp
    try with_reducible rfl
   try simp only [Act.put, zA, zB, zC]
   refine zT 12 50 ?_ rfl (by rfl) ?_ hHeld ?_
   rotate_left
   ·intro W hSw
    go_simp
    try with_reducible rfl
   try simp only [Act.put, zA, zB, zC]
   refine zT 13 51 ?_ rfl (by rfl) ?_ hHeld ?_
   rotate_left
   ·intro W hSw
    have l0 : W.cell? ⟨w.heap.size, 4, none⟩ = some (.int .i64 c.plan) := hSw.2.1.cell 4
    go_simp
    try with_reducible rfl
   try simp only [Act.put, zA, zB, zC]
   refine zT 15 53 ?_ rfl (by rfl) ?_ hHeld ?_
   rotate_left
   ·intro W hSw
    go_simp
    try with_reducible rfl
   try simp only [Act.put, zA, zB, zC]
   refine zT 16 54 ?_ rfl (by rfl) ?_ hHeld ?_
   rotate_left
   ·intro W hSw
    have l0 : W.cell? ⟨w.heap.size, 5, none⟩ = some (.int .i64 c.err) := hSw.2.1.cell 5
    go_simp
    try with_reducible rfl
   try simp only [Act.put, zA, zB, zC]
   refine zT 18 56 ?_ rfl (by rfl) ?_ hHeld ?_
   rotate_left
   ·intro W hSw
    obtain ⟨⟨l0, l1, l2⟩, -⟩ := cell_in hSw.2.2.2
    go_simp
    try with_reducible rfl
   try simp only [Act.put, zA, zB, zC]
   refine wpAnyH_ready (rs := [2]) (by kernel_rfl) (by simp) ?_
   refine AllReadyH.cons (o := ⟨some 40, _, _, _, _, _⟩) rfl (fun K hK => ?_) AllReadyH.nil
   go_simp
   refine (bytes_any c.hash _).mono ?_
   rintro e v1 ⟨rfl, hv⟩
   have hH := KM5.below hHeld hv
   have HE1 : Hid (∃ fp, OwnK v1 (w.heap.size + 3) 3 (.slice axe le cape) (c.ans.map ansI) fp) := by
    obtain ⟨fp, h⟩ := HE0.out
    exact ⟨fp, h.below hv (fun b hb => (OwnK.lt h b hb).2)⟩
   clear HE0
   go_wp2_with fail
   refine hK.out _ _ hH (fun hHeld => ?_)
   clear hK K hH hv
   try simp only [Act.put, zA, zB, zC]
   refine wpAnyH_ready (rs := [5]) (by kernel_rfl) (by simp) ?_
   refine AllReadyH.cons (o := ⟨some 43, _, _, _, _, _⟩) rfl (fun K hK => ?_) AllReadyH.nil
   go_simp
   refine (specIntItem_any c.nonce _ HN.out.1).mono ?_
   rintro e v2 ⟨rfl, hv⟩
   have hH := KM5.below hHeld hv
   have HE2 : Hid (∃ fp, OwnK v2 (w.heap.size + 3) 3 (.slice axe le cape) (c.ans.map ansI) fp) := by
    obtain ⟨fp, h⟩ := HE1.out
    exact ⟨fp, h.below hv (fun b hb => (OwnK.lt h b hb).2)⟩
   clear HE1
   go_wp2_with fail
   refine hK.out _ _ hH (fun hHeld => ?_)
   clear hK K hH hv
   try simp only [Act.put, zA, zB, zC]
   refine wpAnyH_ready (rs := [8]) (by kernel_rfl) (by simp) ?_
   refine AllReadyH.cons (o := ⟨some 46, _, _, _, _, _⟩) rfl (fun K hK => ?_) AllReadyH.nil
   go_simp
   refine (specIntItem_any c.time _ HN.out.2.1).mono ?_
   rintro e v3 ⟨rfl, hv⟩
   have hH := KM5.below hHeld hv
   have HE3 : Hid (∃ fp, OwnK v3 (w.heap.size + 3) 3 (.slice axe le cape) (c.ans.map ansI) fp) := by
    obtain ⟨fp, h⟩ := HE2.out
    exact ⟨fp, h.below hv (fun b hb => (OwnK.lt h b hb).2)⟩
   clear HE2
   go_wp2_with fail
   refine hK.out _ _ hH (fun hHeld => ?_)
   clear hK K hH hv
   try simp only [Act.put, zA, zB, zC]
   refine wpAnyH_ready (rs := [11]) (by kernel_rfl) (by simp) ?_
   refine AllReadyH.cons (o := ⟨some 49, _, _, _, _, _⟩) rfl (fun K hK => ?_) AllReadyH.nil
   go_simp
   refine (specIntItem_any c.next _ HN.out.2.2.1).mono ?_
   rintro e v4 ⟨rfl, hv⟩
   have hH := KM5.below hHeld hv
   have HE4 : Hid (∃ fp, OwnK v4 (w.heap.size + 3) 3 (.slice axe le cape) (c.ans.map ansI) fp) := by
    obtain ⟨fp, h⟩ := HE3.out
    exact ⟨fp, h.below hv (fun b hb => (OwnK.lt h b hb).2)⟩
   clear HE3
   go_wp2_with fail
   refine hK.out _ _ hH (fun hHeld => ?_)
   clear hK K hH hv
   try simp only [Act.put, zA, zB, zC]
   refine wpAnyH_ready (rs := [14]) (by kernel_rfl) (by simp) ?_
   refine AllReadyH.cons (o := ⟨some 52, _, _, _, _, _⟩) rfl (fun K hK => ?_) AllReadyH.nil
   go_simp
   refine (specIntItem_any c.plan _ HN.out.2.2.2.1).mono ?_
   rintro e v5 ⟨rfl, hv⟩
   have hH := KM5.below hHeld hv
   have HE5 : Hid (∃ fp, OwnK v5 (w.heap.size + 3) 3 (.slice axe le cape) (c.ans.map ansI) fp) := by
    obtain ⟨fp, h⟩ := HE4.out
    exact ⟨fp, h.below hv (fun b hb => (OwnK.lt h b hb).2)⟩
   clear HE4
   go_wp2_with fail
   refine hK.out _ _ hH (fun hHeld => ?_)
   clear hK K hH hv
   try simp only [Act.put, zA, zB, zC]
   refine wpAnyH_ready (rs := [17]) (by kernel_rfl) (by simp) ?_
   refine AllReadyH.cons (o := ⟨some 55, _, _, _, _, _⟩) rfl (fun K hK => ?_) AllReadyH.nil
   go_simp
   refine (specIntItem_any c.err _ HN.out.2.2.2.2).mono ?_
   rintro e v6 ⟨rfl, hv⟩
   have hH := KM5.below hHeld hv
   have HE6 : Hid (∃ fp, OwnK v6 (w.heap.size + 3) 3 (.slice axe le cape) (c.ans.map ansI) fp) := by
    obtain ⟨fp, h⟩ := HE5.out
    exact ⟨fp, h.below hv (fun b hb => (OwnK.lt h b hb).2)⟩
   clear HE5
   go_wp2_with fail
   refine hK.out _ _ hH (fun hHeld => ?_)
   clear hK K hH hv
   try simp only [Act.put, zA, zB, zC]
   refine wpAnyH_ready (rs := [19]) (by kernel_rfl) (by simp) ?_
   refine AllReadyH.cons (o := ⟨some 57, _, _, _, _, _⟩) rfl (fun K hK => ?_) AllReadyH.nil
   have HF : Hid (∃ fq, OwnK (v6.alloc (Obj.cells #[.int .i64 4, .string c.hash, .slice none 0 0, .int .i64 2, .string ⟨(intT (numN c.nonce)).toArray⟩, .slice none 0 0, .int .i64 2, .string ⟨(intT (numN c.time)).toArray⟩, .slice none 0 0, .int .i64 2, .string ⟨(intT (numN c.next)).toArray⟩, .slice none 0 0, .int .i64 2, .string ⟨(intT (numN c.plan)).toArray⟩, .slice none 0 0, .int .i64 2, .string ⟨(intT (numN c.err)).toArray⟩, .slice none 0 0, .int .i64 48, .string ⟨#[]⟩, .slice axe le cape] 67)) (w.heap.size + 3) 4 (.slice (some ⟨v6.heap.size, 0, none⟩) 7 7) (It.kids (bodyR c)) fq) := by
    obtain ⟨fp, h⟩ := HE6.out
    exact bodyR_row h (KM5.size hHeld) rfl
   clear HE6
   go_simp
   refine hK.out _ _ (KM5.below hHeld ((Below.refl _ _).alloc (Nat.le_refl _) _)) (fun hHeld => ?_)
   clear hK K
   try simp only [Act.put, zA, zB, zC]
   refine zT 20 58 ?_ rfl (by rfl) ?_ hHeld ?_
   rotate_left
   ·intro W hSw
    go_simp
    try with_reducible rfl
   try simp only [Act.put, zA, zB, zC]
   refine wpAnyH_ready (rs := [21]) (by kernel_rfl) (by simp) ?_
   refine AllReadyH.cons (o := ⟨none, _, _, _, _, _⟩) rfl (fun K hK => ?_) AllReadyH.nil
   obtain ⟨W9, hW9⟩ : ∃ W, W = v6.alloc (Obj.cells #[.int .i64 4, .string c.hash, .slice none 0 0, .int .i64 2, .string ⟨(intT (numN c.nonce)).toArray⟩, .slice none 0 0, .int .i64 2, .string ⟨(intT (numN c.time)).toArray⟩, .slice none 0 0, .int .i64 2, .string ⟨(intT (numN c.next)).toArray⟩, .slice none 0 0, .int .i64 2, .string ⟨(intT (numN c.plan)).toArray⟩, .slice none 0 0, .int .i64 2, .string ⟨(intT (numN c.err)).toArray⟩, .slice none 0 0, .int .i64 48, .string ⟨#[]⟩, .slice axe le cape] 67) := ⟨_, rfl⟩
   obtain ⟨q9, hq9⟩ := zE (v6.heap.size)
   rw [<- hW9] at HF hHeld |-
   rw [hq9] at HF |-
   clear hW9 hq9
   obtain ⟨x9, y9, z9, hB9⟩ := hHeld.2.2.1
   obtain ⟨⟨r0, r1, r2⟩, rf⟩ := cell_in hB9
   go_simp
   refine hK.out _ _ (KM5.set hHeld _ _ _) (fun hHeld => ?_)
   clear hK K
   try simp only [Act.put, zA, zB, zC]
   refine wpAnyH_done (by kernel_rfl) ?_ _
   have HEND : Hid (Below w.heap.size w _) := hHeld.1
   clear hHeld
   go_wp2_with fail
   refine bodyPost_ret (v := .agg #[.int .i64 48, .string ⟨#[]⟩, .slice (some ⟨q9, 0, none⟩) 7 7]) (by simp [results, Try.results64, go_sem, r0, r1, r2]; try rfl) rfl ?_
   obtain ⟨fp, hfp⟩ := HF.out
   refine ⟨.slice (some ⟨q9, 0, none⟩) 7 7, fp, rfl, ?_, HEND.out⟩
   refine OwnK.base (base := w.heap.size + 3) (by omega) (hfp.same fun b hb => ?_)
   have h1 := (OwnK.lt hfp b hb).1
   rw [heap_setCell_other _ _ _ _ (by show b ≠ w.heap.size + 1; omega), heap_setCell_other _ _ _ _ (by show b ≠ w.heap.size + 1; omega), heap_setCell_other _ _ _ _ (by show b ≠ w.heap.size + 1; omega)]
end Go.Proofs.Ytbiiihjohbnodaa
namespace Go.Proofs.Ytbiiihjohbnodaa
open Go.RowKit Der
set_option linter.unusedVariables false
def rtxt (c : Rp) : Option (List UInt8) := if replyOk c = true then writeI 6 (replyI c) else none
theorem to_bodyR {w w' : World} {c : Rp} {e : Ending} (h : ToIt w 4 (bodyR c) e w') : ∃ (a : Option Addr) (l cx : Nat) (fp : List Nat), e = .returned (.agg #[.int .i64 48, .string ⟨#[]⟩, .slice a l cx]) /\ OwnK w' w.heap.size 4 (.slice a l cx) (It.kids (bodyR c)) fp /\ Below w.heap.size w w' := by
 obtain ⟨k, fp, rfl, ho, hb⟩ := h
 obtain ⟨a, cx, rfl⟩ := ho.shape
 exact ⟨a, _, cx, fp, rfl, ho, hb⟩
theorem reply_at {W W' : World} {b : Nat} {c : Rp} {k : Value} {fp : List Nat} (h : OwnK W b 4 k (It.kids (bodyR c)) fp) (hb : b <= W.heap.size)
  (hW : W' = W.alloc (.cells #[.int .i64 48, .string ⟨#[]⟩, k, .int .i64 4, .string c.sig, .slice none 0 0] 67)) : ItAt W' 6 (.agg #[.int .i64 48, .string ⟨#[]⟩, .slice (some ⟨W.heap.size, 0, none⟩) 2 2]) (replyI c) := by
 obtain ⟨fq, hq⟩ := reply_row h hb hW
 exact ⟨_, rfl, hq.at⟩
def KRb (w W : World) (a : Array Value) : Prop := Below w.heap.size w W /\ Blk W w.heap.size 44 a
theorem KRb.below {w W W' : World} {a : Array Value} (h : KRb w W a) (hb : Below W.heap.size W W') : KRb w W' a := ⟨h.1.trans (hb.mono h.1.size), h.2.below hb h.2.lt⟩
theorem KRb.start {w W : World} {a : Array Value} (hW : W = w.alloc (Obj.cells a 44)) : KRb w W a := by rw [hW]; exact ⟨(Below.refl _ _).alloc (Nat.le_refl _) _, Blk.new w _ _⟩
theorem specReplyText_of (LI : ∀ (c : Rp) (v : Value) (w : World), wtR c <= 20000000 -> WdRp c -> RpAt w v c -> Calls Try.prog 64 #[v] w fun e w' => ToIt w 4 (bodyR c) e w') (c : Rp) (v : Value) (w : World) (hz : wtR c <= 1048576) (hw : WdRp c) (ha : RpAt w v c) : Calls Try.prog 29 #[v] w fun e w' => e = .returned (.tuple #[.string ⟨((rtxt c).getD []).toArray⟩, .bool (rtxt c).isSome]) /\ Below w.heap.size w w' := by
 obtain ⟨pv, rfl, hrv⟩ := ha
 obtain ⟨pa, pc, hpv⟩ := hrv.shape
 obtain ⟨lp, hlp⟩ := zE (c.ans.length)
 rw [hlp] at hpv
 subst hpv
 have HC : Hid (RpAt w (rpV c (.slice pa lp pc)) c /\ AtS awKd w (.slice pa lp pc) c.ans) := ⟨⟨_, rfl, hrv⟩, hrv⟩
 clear hrv hlp
 unfold rpV at HC |-
 obtain ⟨T, hT⟩ : ∃ T : ByteArray, (⟨((rtxt c).getD []).toArray⟩ : ByteArray) = T := ⟨_, rfl⟩
 obtain ⟨okT, hok⟩ := zE ((rtxt c).isSome)
 rw [hT, hok]
 have HT : Hid ((⟨((rtxt c).getD []).toArray⟩ : ByteArray) = T /\ (rtxt c).isSome = okT) := ⟨hT, hok⟩
 have HZ : Hid (wtR c <= 1048576 /\ WdRp c) := ⟨hz, hw⟩
 clear hT hz hw hok
 obtain ⟨B, hB⟩ := zE (replyOk c)
 have HB : Hid (replyOk c = B) := hB
 go_enter Try.func29, Try.ntmps29
 go_wp2_with fail
 obtain ⟨W1, hW1⟩ : ∃ W, W = w.alloc (Obj.cells #[.string c.hash, .int .i64 c.nonce, .int .i64 c.time, .int .i64 c.next, .int .i64 c.plan, .int .i64 c.err, .slice pa lp pc, .string c.sig] 44) := ⟨_, rfl⟩
 rw [<- hW1]
 have H1 : Hid (KRb w W1 #[.string c.hash, .int .i64 c.nonce, .int .i64 c.time, .int .i64 c.next, .int .i64 c.plan, .int .i64 c.err, .slice pa lp pc, .string c.sig]) := KRb.start hW1
 clear hW1
 have E1 := specReplyOk_any c _ W1 (Nat.le_trans HZ.out.1 (by decide)) (HC.out.1.below H1.out.1)
 rw [hB] at E1
 clear hB
 refine E1.mono ?_
 rintro e w2 ⟨rfl, hb2⟩
 have H2 : Hid (KRb w w2 #[.string c.hash, .int .i64 c.nonce, .int .i64 c.time, .int .i64 c.next, .int .i64 c.plan, .int .i64 c.err, .slice pa lp pc, .string c.sig]) := H1.out.below hb2
 clear E1 H1 hb2
 cases B with
 | false =>
  have HN : Hid (T = ⟨#[]⟩ /\ okT = false) := by
   have e : rtxt c = none := by unfold rtxt; rw [HB.out]; rfl
   rw [<- HT.out.1, <- HT.out.2, e]
   exact ⟨rfl, rfl⟩
  go_wp2_with fail
  go_ret2
  exact ⟨by rw [HN.out.1, HN.out.2]; rfl, H2.out.1⟩
 | true =>
  have HE : Hid (rtxt c = writeI 6 (replyI c)) := by show rtxt c = _; unfold rtxt; rw [HB.out]; rfl
  go_wp2_with fail
  refine wp_region_held_drew (S := fun W => KRb w W #[.string c.hash, .int .i64 c.nonce, .int .i64 c.time, .int .i64 c.next, .int .i64 c.plan, .int .i64 c.err, .slice pa lp pc, .string c.sig]) (by kernel_rfl) (KRb.below H2.out ((Below.refl _ _).drew)) (fun hHeld => ?_)
  clear H2
  generalize w2.drew = Wd at hHeld |-
  refine zT 0 7 ?_ rfl (by rfl) ?_ hHeld ?_
  rotate_left
  ·intro W hSw
   have c0 : W.cell? ⟨w.heap.size, 0, none⟩ = some (.string c.hash) := hSw.2.cell 0
   have c1 : W.cell? ⟨w.heap.size, 1, none⟩ = some (.int .i64 c.nonce) := hSw.2.cell 1
   have c2 : W.cell? ⟨w.heap.size, 2, none⟩ = some (.int .i64 c.time) := hSw.2.cell 2
   have c3 : W.cell? ⟨w.heap.size, 3, none⟩ = some (.int .i64 c.next) := hSw.2.cell 3
   have c4 : W.cell? ⟨w.heap.size, 4, none⟩ = some (.int .i64 c.plan) := hSw.2.cell 4
   have c5 : W.cell? ⟨w.heap.size, 5, none⟩ = some (.int .i64 c.err) := hSw.2.cell 5
   have c6 : W.cell? ⟨w.heap.size, 6, none⟩ = some (.slice pa lp pc) := hSw.2.cell 6
   have c7 : W.cell? ⟨w.heap.size, 7, none⟩ = some (.string c.sig) := hSw.2.cell 7
   go_simp
   try with_reducible rfl
  try simp only [Act.put, zA, zB, zC]
  refine zT 2 9 ?_ rfl (by rfl) ?_ hHeld ?_
  rotate_left
  ·intro W hSw
   go_simp
   try with_reducible rfl
  try simp only [Act.put, zA, zB, zC]
  refine zT 3 10 ?_ rfl (by rfl) ?_ hHeld ?_
  rotate_left
  ·intro W hSw
   have c7 : W.cell? ⟨w.heap.size, 7, none⟩ = some (.string c.sig) := hSw.2.cell 7
   go_simp
   try with_reducible rfl
  try simp only [Act.put, zA, zB, zC]
  refine wpAnyH_ready (rs := [1]) (by kernel_rfl) (by simp) ?_
  refine AllReadyH.cons (o := ⟨some 8, _, _, _, _, _⟩) rfl (fun K hK => ?_) AllReadyH.nil
  go_simp
  refine (LI c _ _ (Nat.le_trans HZ.out.1 (by decide)) HZ.out.2 (HC.out.1.below hHeld.1)).mono ?_
  intro e v1 hto
  obtain ⟨a1, l1, x1, f1, rfl, ho1, hv⟩ := to_bodyR hto
  clear hto
  have hH := KRb.below hHeld hv
  have HO : Hid (OwnK v1 w.heap.size 4 (.slice a1 l1 x1) (It.kids (bodyR c)) f1) := OwnK.base hHeld.1.size ho1
  clear ho1
  go_wp2_with fail
  refine hK.out _ _ hH (fun hHeld => ?_)
  clear hK K hH hv
  try simp only [Act.put, zA, zB, zC]
  refine wpAnyH_ready (rs := [4]) (by kernel_rfl) (by simp) ?_
  refine AllReadyH.cons (o := ⟨some 11, _, _, _, _, _⟩) rfl (fun K hK => ?_) AllReadyH.nil
  go_simp
  refine (bytes_any c.sig _).mono ?_
  rintro e v2 ⟨rfl, hv⟩
  have hH := KRb.below hHeld hv
  have HO2 : Hid (OwnK v2 w.heap.size 4 (.slice a1 l1 x1) (It.kids (bodyR c)) f1) := HO.out.below hv (fun b hm => (OwnK.lt HO.out b hm).2)
  clear HO
  go_wp2_with fail
  refine hK.out _ _ hH (fun hHeld => ?_)
  clear hK K hH hv
  try simp only [Act.put, zA, zB, zC]
  refine wpAnyH_ready (rs := [5]) (by kernel_rfl) (by simp) ?_
  refine AllReadyH.cons (o := ⟨some 12, _, _, _, _, _⟩) rfl (fun K hK => ?_) AllReadyH.nil
  obtain ⟨W3, hW3⟩ : ∃ W, W = v2.alloc (Obj.cells #[.int .i64 48, .string ⟨#[]⟩, .slice a1 l1 x1, .int .i64 4, .string c.sig, .slice none 0 0] 67) := ⟨_, rfl⟩
  have HI : Hid (ItAt W3 6 (.agg #[.int .i64 48, .string ⟨#[]⟩, .slice (some ⟨v2.heap.size, 0, none⟩) 2 2]) (replyI c)) := reply_at HO2.out hHeld.1.size hW3
  have hH : KRb w W3 #[.string c.hash, .int .i64 c.nonce, .int .i64 c.time, .int .i64 c.next, .int .i64 c.plan, .int .i64 c.err, .slice pa lp pc, .string c.sig] := KRb.below hHeld (by rw [hW3]; exact (Below.refl _ _).alloc (Nat.le_refl _) _)
  go_simp
  rw [<- hW3]
  refine hK.out _ _ hH (fun hHeld => ?_)
  clear hK K hH hW3 HO2
  try simp only [Act.put, zA, zB, zC]
  refine zT 6 13 ?_ rfl (by rfl) ?_ hHeld ?_
  rotate_left
  ·intro W hSw
   go_simp
   try with_reducible rfl
  try simp only [Act.put, zA, zB, zC]
  refine wpAnyH_ready (rs := [7]) (by kernel_rfl) (by simp) ?_
  refine AllReadyH.cons (o := ⟨some 14, _, _, _, _, _⟩) rfl (fun K hK => ?_) AllReadyH.nil
  have E7 := specItemText_any 6 (replyI c) _ W3 HI.out (sz_replyI HZ.out.1)
  rw [<- HE.out, HT.out.1, HT.out.2] at E7
  go_simp
  refine E7.mono ?_
  rintro e v4 ⟨rfl, hv⟩
  have hH := KRb.below hHeld hv
  clear E7
  go_wp2_with fail
  refine hK.out _ _ hH (fun hHeld => ?_)
  clear hK K hH hv
  try simp only [Act.put, zA, zB, zC]
  refine zT 8 15 ?_ rfl (by rfl) ?_ hHeld ?_
  rotate_left
  ·intro W hSw
   go_simp
   try with_reducible rfl
  try simp only [Act.put, zA, zB, zC]
  refine zT 9 16 ?_ rfl (by rfl) ?_ hHeld ?_
  rotate_left
  ·intro W hSw
   go_simp
   try with_reducible rfl
  try simp only [Act.put, zA, zB, zC]
  refine zT 10 2 ?_ rfl (by rfl) ?_ hHeld ?_
  rotate_left
  ·intro W hSw
   go_simp
   try with_reducible rfl
  try simp only [Act.put, zA, zB, zC]
  refine zT 11 3 ?_ rfl (by rfl) ?_ hHeld ?_
  rotate_left
  ·intro W hSw
   go_simp
   try with_reducible rfl
  try simp only [Act.put, zA, zB, zC]
  refine wpAnyH_done (by kernel_rfl) ?_ _
  have HEND : Hid (Below w.heap.size w _) := hHeld.1
  clear hHeld
  go_wp2_with fail
  go_ret2
  exact ⟨rfl, HEND.out⟩
end Go.Proofs.Ytbiiihjohbnodaa
