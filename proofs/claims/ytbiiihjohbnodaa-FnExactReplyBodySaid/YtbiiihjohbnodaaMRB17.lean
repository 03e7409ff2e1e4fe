/-
  Texts of the proof.
-/
import Derived.Deep.RegionHeld3
import Derived.Deep.Cut
import Derived.Test.YtbiiihjohbnodaaMRB14
set_option maxRecDepth 100000
set_option maxHeartbeats 25600000
namespace Go.Proofs.Ytbiiihjohbnodaa
open Go.RowKit Der
set_option linter.unusedVariables false
set_option linter.unusedSimpArgs false
def KM5 (w W : World) (a : Array Value) (kv : Value) : Prop := Below w.heap.size w W /\ Blk W w.heap.size 44 a /\ (∃ x y z, Blk3 W (w.heap.size + 1) x y z) /\ Blk3 W (w.heap.size + 1 + 1) (.int .i64 48) (.string ⟨#[]⟩) kv
theorem KM5.below {w W W' : World} {a : Array Value} {kv : Value} (h : KM5 w W a kv) (hb : Below W.heap.size W W') : KM5 w W' a kv := by
 obtain ⟨h1, h2, ⟨x, y, z, h3⟩, h4⟩ := h
 exact ⟨h1.trans (hb.mono h1.size), h2.below hb h2.lt, ⟨x, y, z, h3.below hb⟩, h4.below hb⟩
theorem KM5.size {w W : World} {a : Array Value} {kv : Value} (h : KM5 w W a kv) : w.heap.size + 3 <= W.heap.size := by
 have := h.2.2.2.lt
 omega
theorem KM5.grown {w W W' : World} {a : Array Value} {kv : Value} {row : Option Nat} (h : KM5 w W a kv) (hg : W.grownBy W' row) (hr : ∀ q, row = some q -> w.heap.size + 3 <= q) : KM5 w W' a kv := by
 obtain ⟨h1, h2, ⟨x, y, z, h3⟩, h4⟩ := h
 exact ⟨h1.grown hg h1.size (fun q hq => by have := hr q hq; omega), (hg.block _ h2.lt (fun e => by have := hr _ e.symm; omega)).trans h2, ⟨x, y, z, h3.grown hg (fun e => by have := hr _ e.symm; omega)⟩, h4.grown hg (fun e => by have := hr _ e.symm; omega)⟩
theorem KM5.laid {w W : World} {a : Array Value} {kv : Value} (h : KM5 w W a kv) (k : Value) : KM5 w (W.setCell ⟨w.heap.size + 1 + 1, 2, none⟩ k) a k := by
 obtain ⟨h1, h2, ⟨x, y, z, h3⟩, h4⟩ := h
 exact ⟨h1.setCell (p := ⟨w.heap.size + 1 + 1, 2, none⟩) (by show w.heap.size <= w.heap.size + 1 + 1; omega) _, h2.other (p := ⟨w.heap.size + 1 + 1, 2, none⟩) _ (by show w.heap.size ≠ w.heap.size + 1 + 1; omega), ⟨x, y, z, h3.other (p := ⟨w.heap.size + 1 + 1, 2, none⟩) (by show w.heap.size + 1 ≠ w.heap.size + 1 + 1; omega) _⟩, h4.set _⟩
theorem KM5.set {w W : World} {a : Array Value} {kv : Value} (h : KM5 w W a kv) (p q r : Value) : KM5 w (((W.setCell ⟨w.heap.size + 1, 0, none⟩ p).setCell ⟨w.heap.size + 1, 1, none⟩ q).setCell ⟨w.heap.size + 1, 2, none⟩ r) a kv := by
 obtain ⟨h1, h2, ⟨x, y, z, h3⟩, h4⟩ := h
 refine ⟨((h1.setCell (p := ⟨w.heap.size + 1, 0, none⟩) (Nat.le_succ _) _).setCell (p := ⟨w.heap.size + 1, 1, none⟩) (Nat.le_succ _) _).setCell (p := ⟨w.heap.size + 1, 2, none⟩) (Nat.le_succ _) _, ?_, ⟨p, q, r, ?_⟩, ?_⟩
 ·have ne : w.heap.size ≠ w.heap.size + 1 := by omega
  exact ((h2.other _ ne).other _ ne).other _ ne
 ·have e := (((show Blk W (w.heap.size + 1) 67 #[x, y, z] from h3).set 0 p).set 1 q).set 2 r
  exact e
 ·have ne : w.heap.size + 1 + 1 ≠ w.heap.size + 1 := by omega
  exact ((h4.other (p := ⟨w.heap.size + 1, 0, none⟩) ne _).other (p := ⟨w.heap.size + 1, 1, none⟩) ne _).other (p := ⟨w.heap.size + 1, 2, none⟩) ne _
theorem KM5.start (w : World) (a : Array Value) (W : World) (hW : W = ((w.alloc (Obj.cells a 44)).alloc (Obj.cells #[Value.int IntKind.i64 0, Value.string ⟨#[]⟩, Value.slice none 0 0] 67)).alloc (Obj.cells #[Value.int IntKind.i64 48, Value.string ⟨#[]⟩, Value.slice none 0 0] 67)) : KM5 w W a (.slice none 0 0) := by
 have e0 : (w.alloc (Obj.cells a 44)).heap.size = w.heap.size + 1 := Array.size_push _
 have e1 : ((w.alloc (Obj.cells a 44)).alloc (Obj.cells #[Value.int IntKind.i64 0, Value.string ⟨#[]⟩, Value.slice none 0 0] 67)).heap.size = w.heap.size + 1 + 1 := by rw [size_alloc, e0]
 refine ⟨by rw [hW]; exact (((Below.refl _ _).alloc (Nat.le_refl _) _).alloc (by rw [e0]; omega) _).alloc (by rw [e1]; omega) _, by rw [hW]; exact ((Blk.new w _ _).alloc _).alloc _, ⟨.int .i64 0, .string ⟨#[]⟩, .slice none 0 0, ?_⟩, ?_⟩
 ·have h := heap_alloc_new (w.alloc (Obj.cells a 44)) (Obj.cells #[Value.int IntKind.i64 0, Value.string ⟨#[]⟩, Value.slice none 0 0] 67)
  rw [e0] at h
  rw [hW]
  exact (heap_alloc_old _ _ (by rw [e1]; omega)).trans h
 ·have h := heap_alloc_new ((w.alloc (Obj.cells a 44)).alloc (Obj.cells #[Value.int IntKind.i64 0, Value.string ⟨#[]⟩, Value.slice none 0 0] 67)) (Obj.cells #[Value.int IntKind.i64 48, Value.string ⟨#[]⟩, Value.slice none 0 0] 67)
  rw [e1] at h
  rw [hW]
  exact h
def KX5 (w W : World) (a : Array Value) (g : Nat) (c : Array Value) : Prop := (∃ kv, KM5 w W a kv) /\ Blk W g 84 c
theorem KX5.below {w W W' : World} {a c : Array Value} {g : Nat} (h : KX5 w W a g c) (hb : Below W.heap.size W W') : KX5 w W' a g c := by
 obtain ⟨⟨kv, h⟩, h2⟩ := h
 exact ⟨⟨kv, h.below hb⟩, h2.below hb h2.lt⟩
theorem l15Item_any (c : Rp) (v : Value) (w : World) (hz : wtR c <= 20000000) (hw : WdRp c) (ha : RpAt w v c) : Calls Try.prog 64 #[v] w fun e w' => ToIt w 4 (bodyR c) e w' := by
 obtain ⟨pv, rfl, h1⟩ := ha
 obtain ⟨pa, pc, hpa⟩ := h1.shape
 obtain ⟨n, hn⟩ := zE (c.ans.length)
 rw [hn] at hpa
 subst hpa
 have HN : Hid ((-9223372036854775808 <= c.nonce /\ c.nonce <= 9223372036854775807) /\ (-9223372036854775808 <= c.time /\ c.time <= 9223372036854775807) /\ (-9223372036854775808 <= c.next /\ c.next <= 9223372036854775807) /\ (-9223372036854775808 <= c.plan /\ c.plan <= 9223372036854775807) /\ (-9223372036854775808 <= c.err /\ c.err <= 9223372036854775807)) := ⟨hw.1 c.nonce (by simp), hw.1 c.time (by simp), hw.1 c.next (by simp), hw.1 c.plan (by simp), hw.1 c.err (by simp)⟩
 have hzz : wtAS c.ans <= 20000000 := wtR_ans hz
 have hnl : n <= 20000000 := by have := wtAS_len c.ans; omega
 have HX : Hid (AtS awKd w (.slice pa n pc) c.ans /\ c.ans.length = n /\ wtAS c.ans <= 20000000 /\ ∀ x ∈ c.ans, WdAw x) := ⟨h1, hn, hzz, hw.2.2.1⟩
 clear h1 hn hw hz hzz
 obtain ⟨ks, hks⟩ : ∃ ks : List (It 3), c.ans.map ansI = ks := ⟨_, rfl⟩
 have HK0 : Hid (c.ans.map ansI = ks /\ ks.length = n) := ⟨hks, by rw [<- hks, List.length_map]; exact HX.out.2.1⟩
 clear hks
 unfold rpV
 go_enter Try.func64, Try.ntmps64
 go_wp2_with fail
 obtain ⟨W3, hW3⟩ : ∃ W, W = ((w.alloc (Obj.cells #[.string c.hash, .int .i64 c.nonce, .int .i64 c.time, .int .i64 c.next, .int .i64 c.plan, .int .i64 c.err, .slice pa n pc, .string c.sig] 44)).alloc (Obj.cells #[Value.int IntKind.i64 0, Value.string ⟨#[]⟩, Value.slice none 0 0] 67)).alloc (Obj.cells #[Value.int IntKind.i64 48, Value.string ⟨#[]⟩, Value.slice none 0 0] 67) := ⟨_, rfl⟩
 rw [<- hW3]
 have H3 : Hid (KM5 w W3 #[.string c.hash, .int .i64 c.nonce, .int .i64 c.time, .int .i64 c.next, .int .i64 c.plan, .int .i64 c.err, .slice pa n pc, .string c.sig] (.slice none 0 0)) := KM5.start w _ W3 hW3
 clear hW3
 go_loopw [4] (fun iv wr => ∃ k : Nat, k <= n /\ iv = .int .i64 k /\ Hid (∃ kv : Value, KM5 w wr #[.string c.hash, .int .i64 c.nonce, .int .i64 c.time, .int .i64 c.next, .int .i64 c.plan, .int .i64 c.err, .slice pa n pc, .string c.sig] (kv) /\ GrowK wr (w.heap.size + 3) 2 kv (ks.take k))) (fun iv _ => n - (intOf iv).toNat)
 case atStart => exact ⟨0, Nat.zero_le _, rfl, _, H3.out, GrowK.nil _ _ _⟩
 case round =>
  obtain ⟨k, hk, rfl, HR⟩ := hrel
  obtain ⟨kv, hr1, hrG⟩ := HR.out
  have HK : Hid (KM5 w wr #[.string c.hash, .int .i64 c.nonce, .int .i64 c.time, .int .i64 c.next, .int .i64 c.plan, .int .i64 c.err, .slice pa n pc, .string c.sig] (kv) /\ GrowK wr (w.heap.size + 3) 2 kv (ks.take k)) := ⟨hr1, hrG⟩
  clear HR hr1 hrG H3
  have y6 : wr.cell? ⟨w.heap.size, 6, none⟩ = some (.slice pa n pc) := HK.out.1.2.1.cell 6
  by_cases hlt : k < n
  ·have hlti : (k : Int) < (n : Int) := by omega
   have hk0 : (0 : Int) <= (k : Int) := by omega
   have hj0 : k < c.ans.length := by rw [HX.out.2.1]; exact hlt
   have hj1 : k < ks.length := by rw [HK0.out.2]; exact hlt
   obtain ⟨b, off, u, hao, hbB, hPu, hus, hcell⟩ := HX.out.1.get hj0
   obtain ⟨p1, q1, e1, r1, hu⟩ := AwAt.shape hPu
   obtain ⟨x, hxx⟩ := zE (c.ans[k])
   have hkx : ks[k] = ansI x := by
    have h := HK0.out.1
    subst h
    rw [List.getElem_map, hxx]
   have HT : Hid (It.tag ks[k] = 48 /\ (⟨(It.text ks[k]).toArray⟩ : ByteArray) = ⟨#[]⟩ /\ It.kids ks[k] = It.kids (ansI x)) := by
    rw [hkx]
    exact ⟨rfl, rfl, rfl⟩
   rw [hxx] at hu hPu
   have hmem : x ∈ c.ans := by rw [<- hxx]; exact List.getElem_mem _
   have hxz : wtAw x <= 20000000 := Nat.le_trans (wtAS_mem hmem) HX.out.2.2.1
   have hxw := HX.out.2.2.2 x hmem
   have hz1 : totT x.path <= 20000000 /\ totT x.lst <= 20000000 := by unfold wtAw at hxz; omega
   have HQ : Hid ((-9223372036854775808 <= x.status /\ x.status <= 9223372036854775807) /\ (-9223372036854775808 <= x.why /\ x.why <= 9223372036854775807)) := ⟨hxw.1 x.status (by simp), hxw.1 x.why (by simp)⟩
   have HW1 : Hid (x.path.length <= 20000000 /\ WdT x.path) := ⟨Nat.le_trans (tot_len _) hz1.1, fun s hs => Nat.le_trans (Nat.le_trans (tot_mem _ s hs) hz1.1) (by decide)⟩
   have HW2 : Hid (x.lst.length <= 20000000 /\ WdT x.lst) := ⟨Nat.le_trans (tot_len _) hz1.2, fun s hs => Nat.le_trans (Nat.le_trans (tot_mem _ s hs) hz1.2) (by decide)⟩
   have hcb := fun i z (hz : u.cells[i]? = some z) => (HK.out.1.1.cell (p := ⟨b, off + k * 4 + i, none⟩) (by show b < w.heap.size; exact hbB)).trans (hcell i z hz)
   subst hao hu
   have hrows := AwAt.rows hPu
   obtain ⟨n1, hn1⟩ := zE (x.path.length)
   obtain ⟨n2, hn2⟩ := zE (x.lst.length)
   have u0 : wr.cell? ⟨b, off + k * 4, none⟩ = some (.int .i64 x.status) := hcb 0 _ rfl
   have u1 : wr.cell? ⟨b, off + k * 4 + 1, none⟩ = some (.int .i64 x.why) := hcb 1 _ rfl
   have u2 : wr.cell? ⟨b, off + k * 4 + 2, none⟩ = some (.slice p1 n1 q1) := by rw [<- hn1]; exact hcb 2 _ rfl
   have u3 : wr.cell? ⟨b, off + k * 4 + 3, none⟩ = some (.slice e1 n2 r1) := by rw [<- hn2]; exact hcb 3 _ rfl
   rw [hn1, hn2] at hrows
   have HL : Hid (TxtAt w (.slice p1 n1 q1) x.path /\ TxtAt w (.slice e1 n2 r1) x.lst) := hrows
   have htl : (ks.take k).length = k := by rw [List.length_take]; omega
   have HG1 : Hid (w.heap.size + 3 <= wr.heap.size) := HK.out.1.size
   clear hcb hcell hPu hus hbB hmem hxz hxw hz1 hrows hkx hxx hn1 hn2
   obtain ⟨V2, hV⟩ : ∃ V, V = wr.alloc (Obj.cells #[.int .i64 x.status, .int .i64 x.why, .slice p1 n1 q1, .slice e1 n2 r1] 84) := ⟨_, rfl⟩
   have HS2 : Hid (KX5 w V2 #[.string c.hash, .int .i64 c.nonce, .int .i64 c.time, .int .i64 c.next, .int .i64 c.plan, .int .i64 c.err, .slice (some ⟨b, off, none⟩) n pc, .string c.sig] wr.heap.size #[.int .i64 x.status, .int .i64 x.why, .slice p1 n1 q1, .slice e1 n2 r1] /\ Below wr.heap.size wr V2) := by
    have hb : Below wr.heap.size wr V2 := by rw [hV]; exact (Below.refl _ _).alloc (Nat.le_refl _) _
    exact ⟨⟨⟨_, HK.out.1.below hb⟩, by rw [hV]; exact Blk.new wr _ _⟩, hb⟩
   go_upto_region 6 with fail
   rw [<- hV]
   clear hV u0 u1 u2 u3 y6
   have HB : Hid (Below wr.heap.size wr V2.drew) := HS2.out.2.trans ((Below.refl _ _).drew)
   have HG : Hid (Blk3 V2.drew (w.heap.size + 1 + 1) (.int .i64 48) (.string ⟨#[]⟩) kv) := (HK.out.1.2.2.2.below HS2.out.2).below ((Below.refl _ _).drew)
   refine wp_region_held_drew (S := fun W => KX5 w W #[.string c.hash, .int .i64 c.nonce, .int .i64 c.time, .int .i64 c.next, .int .i64 c.plan, .int .i64 c.err, .slice (some ⟨b, off, none⟩) n pc, .string c.sig] wr.heap.size #[.int .i64 x.status, .int .i64 x.why, .slice p1 n1 q1, .slice e1 n2 r1]) (by kernel_rfl) (KX5.below HS2.out.1 ((Below.refl _ _).drew)) (fun hHeld => ?_)
   clear HS2
   generalize V2.drew = Wd0 at hHeld HB HG |-
   refine zT 0 19 ?_ rfl (by rfl) ?_ hHeld ?_
   rotate_left
   ·intro W hSw
    go_simp
    try with_reducible rfl
   try simp only [Act.put, zA, zB, zC]
   refine zT 2 21 ?_ rfl (by rfl) ?_ hHeld ?_
   rotate_left
   ·intro W hSw
    go_simp
    try with_reducible rfl
   try simp only [Act.put, zA, zB, zC]
   refine zT 3 22 ?_ rfl (by rfl) ?_ hHeld ?_
   rotate_left
   ·intro W hSw
    have l0 : W.cell? ⟨wr.heap.size, 0, none⟩ = some (.int .i64 x.status) := hSw.2.cell 0
    go_simp
    try with_reducible rfl
   try simp only [Act.put, zA, zB, zC]
   refine zT 5 24 ?_ rfl (by rfl) ?_ hHeld ?_
   rotate_left
   ·intro W hSw
    go_simp
    try with_reducible rfl
   try simp only [Act.put, zA, zB, zC]
   refine zT 6 25 ?_ rfl (by rfl) ?_ hHeld ?_
   rotate_left
   ·intro W hSw
    have l0 : W.cell? ⟨wr.heap.size, 1, none⟩ = some (.int .i64 x.why) := hSw.2.cell 1
    go_simp
    try with_reducible rfl
   try simp only [Act.put, zA, zB, zC]
   refine zT 8 27 ?_ rfl (by rfl) ?_ hHeld ?_
   rotate_left
   ·intro W hSw
    go_simp
    try with_reducible rfl
   try simp only [Act.put, zA, zB, zC]
   refine zT 9 28 ?_ rfl (by rfl) ?_ hHeld ?_
   rotate_left
   ·intro W hSw
    have l0 : W.cell? ⟨wr.heap.size, 2, none⟩ = some (.slice p1 n1 q1) := hSw.2.cell 2
    go_simp
    try with_reducible rfl
   try simp only [Act.put, zA, zB, zC]
   refine zT 11 30 ?_ rfl (by rfl) ?_ hHeld ?_
   rotate_left
   ·intro W hSw
    go_simp
    try with_reducible rfl
   try simp only [Act.put, zA, zB, zC]
   refine zT 12 31 ?_ rfl (by rfl) ?_ hHeld ?_
   rotate_left
   ·intro W hSw
    have l0 : W.cell? ⟨wr.heap.size, 3, none⟩ = some (.slice e1 n2 r1) := hSw.2.cell 3
    go_simp
    try with_reducible rfl
   try simp only [Act.put, zA, zB, zC]
   refine wpAnyH_ready (rs := [1, 4]) (by kernel_rfl) (by simp) ?_
   refine AllReadyH.cons (o := ⟨some 20, _, _, _, _, _⟩) rfl (fun K hK => ?_) ?_
   rotate_left
   ·refine AllReadyH.cons (o := ⟨some 23, _, _, _, _, _⟩) rfl (fun K hK => ?_) AllReadyH.nil
    go_simp
    refine (specIntItem_any x.status _ HQ.out.1).mono ?_
    rintro e v1 ⟨rfl, hv⟩
    have hH := KX5.below hHeld hv
    replace HG := zH (HG.out.below hv)
    replace HB := zH (HB.out.trans ((hv).mono HB.out.size))
    go_wp2_with fail
    refine hK.out _ _ hH (fun hHeld => ?_)
    clear hK K hH hv
    try simp only [Act.put, zA, zB, zC]
    refine wpAnyH_ready (rs := [1, 7]) (by kernel_rfl) (by simp) ?_
    refine AllReadyH.cons (o := ⟨some 20, _, _, _, _, _⟩) rfl (fun K hK => ?_) ?_
    rotate_left
    ·refine AllReadyH.cons (o := ⟨some 26, _, _, _, _, _⟩) rfl (fun K hK => ?_) AllReadyH.nil
     go_simp
     refine (specIntItem_any x.why _ HQ.out.2).mono ?_
     rintro e v2 ⟨rfl, hv⟩
     have hH := KX5.below hHeld hv
     replace HG := zH (HG.out.below hv)
     replace HB := zH (HB.out.trans ((hv).mono HB.out.size))
     go_wp2_with fail
     refine hK.out _ _ hH (fun hHeld => ?_)
     clear hK K hH hv
     try simp only [Act.put, zA, zB, zC]
     refine wpAnyH_ready (rs := [1, 10]) (by kernel_rfl) (by simp) ?_
     refine AllReadyH.cons (o := ⟨some 20, _, _, _, _, _⟩) rfl (fun K hK => ?_) ?_
     rotate_left
     ·refine AllReadyH.cons (o := ⟨some 29, _, _, _, _, _⟩) rfl (fun K hK => ?_) AllReadyH.nil
      go_simp
      have hsz : wr.heap.size <= v2.heap.size := HB.out.size
      refine (bytsI_any 0 x.path _ _ HW1.out.1 HW1.out.2 ((HL.out.1.below HK.out.1.1).below HB.out)).mono ?_
      intro e v3 hto
      obtain ⟨aP, lP, cP, fP, rfl, hoT, hv⟩ := to_lst hto
      clear hto
      have hH := KX5.below hHeld hv
      replace HG := zH (HG.out.below hv)
      replace HB := zH (HB.out.trans ((hv).mono HB.out.size))
      have HP : Hid (OwnK v3 wr.heap.size 1 (.slice aP lP cP) (It.kids (n := 1) (lstJ (x.path.map bytJ))) fP) := OwnK.base hsz hoT
      clear hoT hsz
      go_wp2_with fail
      refine hK.out _ _ hH (fun hHeld => ?_)
      clear hK K hH hv
      try simp only [Act.put, zA, zB, zC]
      refine wpAnyH_ready (rs := [1, 13]) (by kernel_rfl) (by simp) ?_
      refine AllReadyH.cons (o := ⟨some 20, _, _, _, _, _⟩) rfl (fun K hK => ?_) ?_
      rotate_left
      ·refine AllReadyH.cons (o := ⟨some 32, _, _, _, _, _⟩) rfl (fun K hK => ?_) AllReadyH.nil
       go_simp
       have hsz : wr.heap.size <= v3.heap.size := HB.out.size
       refine (bytsI_any 0 x.lst _ _ HW2.out.1 HW2.out.2 ((HL.out.2.below HK.out.1.1).below HB.out)).mono ?_
       intro e v4 hto
       obtain ⟨aE, lE, cE, fE, rfl, hoT, hv⟩ := to_lst hto
       clear hto
       have hH := KX5.below hHeld hv
       have HD : Hid (∀ g ∈ fP, g ∉ fE) := fun g h1 h2 => by have := (OwnK.lt HP.out g h1).2; have := (OwnK.lt hoT g h2).1; omega
       replace HG := zH (HG.out.below hv)
       replace HB := zH (HB.out.trans ((hv).mono HB.out.size))
       replace HP := zH (HP.out.below hv (fun b hm => (OwnK.lt HP.out b hm).2))
       have HE : Hid (OwnK v4 wr.heap.size 1 (.slice aE lE cE) (It.kids (n := 1) (lstJ (x.lst.map bytJ))) fE) := OwnK.base hsz hoT
       clear hoT hsz
       go_wp2_with fail
       refine hK.out _ _ hH (fun hHeld => ?_)
       clear hK K hH hv
       try simp only [Act.put, zA, zB, zC]
       refine wpAnyH_ready (rs := [1, 14]) (by kernel_rfl) (by simp) ?_
       refine AllReadyH.cons (o := ⟨some 20, _, _, _, _, _⟩) rfl (fun K hK => ?_) ?_
       rotate_left
       ·refine AllReadyH.cons (o := ⟨some 33, _, _, _, _, _⟩) rfl (fun K hK => ?_) AllReadyH.nil
        obtain ⟨v5, hW3⟩ : ∃ W, W = v4.alloc (Obj.cells #[.int .i64 2, .string ⟨(intT (numN x.status)).toArray⟩, .slice none 0 0, .int .i64 2, .string ⟨(intT (numN x.why)).toArray⟩, .slice none 0 0, .int .i64 48, .string ⟨#[]⟩, .slice aP lP cP, .int .i64 48, .string ⟨#[]⟩, .slice aE lE cE] 67) := ⟨_, rfl⟩
        have hv : Below v4.heap.size v4 v5 := by rw [hW3]; exact (Below.refl _ _).alloc (Nat.le_refl _) _
        have HF0 : Hid (∃ fp, OwnK v5 wr.heap.size 2 (.slice (some ⟨v4.heap.size, 0, none⟩) 4 4) (It.kids ks[k]) fp) := by rw [HT.out.2.2]; exact ans_row HP.out HE.out HD.out HB.out.size hW3
        clear HP HE HD
        replace HG := zH (HG.out.below hv)
        replace HB := zH (HB.out.trans ((hv).mono HB.out.size))
        have hH := KX5.below hHeld hv
        go_simp
        rw [<- hW3]
        refine hK.out _ _ hH (fun hHeld => ?_)
        clear hK K hH hW3 hv
        try simp only [Act.put, zA, zB, zC]
        obtain ⟨q4, hq4⟩ := zE (v4.heap.size)
        rw [hq4] at HF0 |-
        clear hq4
        obtain ⟨f3, hf3⟩ := HF0.out
        have HF : Hid (OwnK v5 wr.heap.size 2 (.slice (some ⟨q4, 0, none⟩) 4 4) (It.kids ks[k]) f3) := hf3
        clear HF0 hf3
        refine zT 15 34 ?_ rfl (by rfl) ?_ hHeld ?_
        rotate_left
        ·intro W hSw
         go_simp
         try with_reducible rfl
        try simp only [Act.put, zA, zB, zC]
        refine wpAnyH_ready (rs := [1, 16]) (by kernel_rfl) (by simp) ?_
        refine AllReadyH.cons (o := ⟨some 20, _, _, _, _, _⟩) rfl (fun K hK => ?_) ?_
        rotate_left
        ·refine AllReadyH.cons (o := ⟨some 35, _, _, _, _, _⟩) rfl (fun K hK => ?_) AllReadyH.nil
         have hH := KX5.below hHeld ((Below.refl v5.heap.size v5).alloc (Nat.le_refl _) (Obj.cells #[.int .i64 48, .string ⟨#[]⟩, .slice (some ⟨q4, 0, none⟩) 4 4] 67))
         have HGn : Hid (Blk3 (v5.alloc (Obj.cells #[.int .i64 48, .string ⟨#[]⟩, .slice (some ⟨q4, 0, none⟩) 4 4] 67)) (w.heap.size + 1 + 1) (.int .i64 48) (.string ⟨#[]⟩) kv) := HG.out.below ((Below.refl _ _).alloc (Nat.le_refl _) _)
         clear HG
         have HG := HGn
         clear HGn
         go_simp
         refine hK.out _ _ hH (fun hHeld => ?_)
         clear hK K hH
         try simp only [Act.put, zA, zB, zC]
         refine wpAnyH_ready (rs := [1]) (by kernel_rfl) (by simp) ?_
         refine AllReadyH.cons (o := ⟨some 20, _, _, _, _, _⟩) rfl (fun K hK => ?_) AllReadyH.nil
         have lk : (v5.alloc (Obj.cells #[.int .i64 48, .string ⟨#[]⟩, .slice (some ⟨q4, 0, none⟩) 4 4] 67)).cell? ⟨w.heap.size + 1 + 1, 2, none⟩ = some kv := (cell_in HG.out).1.2.2
         go_simp
         refine hK.out _ _ hHeld (fun hHeld => ?_)
         clear hK K lk
         try simp only [Act.put, zA, zB, zC]
         refine wpAnyH_ready (rs := [17]) (by kernel_rfl) (by simp) ?_
         refine AllReadyH.cons (o := ⟨some 36, _, _, _, _, _⟩) rfl (fun K hK => ?_) AllReadyH.nil
         refine step_append_item0 (o := ⟨some 36, _, _, _, _, _⟩) rfl (.tmp 20) (.tmp 35) rfl (w.heap.size + 3) 2 kv (ks.take k) ks[k] 48 ⟨#[]⟩ (.slice (some ⟨q4, 0, none⟩) 4 4) f3 HT.out.1 HT.out.2.1 (by rfl) v5.heap.size (by rfl) rfl HK.out.2 HB.out HF.out HG1.out (by omega) ?_
         intro g cap w6 hG6 hgrow6
         have hm6 := (HK.out.1.below (HB.out.alloc HB.out.size (Obj.cells #[.int .i64 48, .string ⟨#[]⟩, .slice (some ⟨q4, 0, none⟩) 4 4] 67))).grown hgrow6 (fun q hq => (HK.out.2.lt q hq).1)
         have HY : Hid (Blk w6 wr.heap.size 84 #[.int .i64 x.status, .int .i64 x.why, .slice p1 n1 q1, .slice e1 n2 r1]) := (hgrow6.block _ hHeld.2.lt (fun e => by have := (HK.out.2.lt _ e.symm).2; omega)).trans hHeld.2
         have H6 : Hid (KM5 w w6 #[.string c.hash, .int .i64 c.nonce, .int .i64 c.time, .int .i64 c.next, .int .i64 c.plan, .int .i64 c.err, .slice (some ⟨b, off, none⟩) n pc, .string c.sig] kv /\ GrowK w6 (w.heap.size + 3) 2 (.slice (some ⟨g, 0, none⟩) (k + 1) cap) (ks.take (k + 1)) /\ wr.heap.size < w6.heap.size) := by
          have e := List.take_append_getElem hj1
          rw [htl, e] at hG6
          exact ⟨hm6, hG6, HY.out.lt⟩
         try rw [htl]
         clear hG6 hgrow6 hm6 HG HF HB
         refine hK.out _ _ ⟨⟨kv, H6.out.1⟩, HY.out⟩ (fun hHeld => ?_)
         clear hK K
         try simp only [Act.put, zA, zB, zC]
         refine zT 18 37 ?_ rfl (by rfl) ?_ hHeld ?_
         rotate_left
         ·intro W hSw
          go_simp
          try with_reducible rfl
         try simp only [Act.put, zA, zB, zC]
         refine wpAnyH_ready (rs := [19]) (by kernel_rfl) (by simp) ?_
         refine AllReadyH.cons (o := ⟨none, _, _, _, _, _⟩) rfl (fun K hK => ?_) AllReadyH.nil
         obtain ⟨⟨q0, q1, q2⟩, qf⟩ := cell_in H6.out.1.2.2.2
         have HZ9 : Hid (w.heap.size + 1 + 1 ≠ wr.heap.size) := by have := HG1.out; show w.heap.size + 1 + 1 ≠ wr.heap.size; omega
         go_simp
         refine hK.out _ _ ⟨⟨_, H6.out.1.laid _⟩, HY.out.other (p := ⟨w.heap.size + 1 + 1, 2, none⟩) _ (Ne.symm HZ9.out)⟩ (fun hHeld => ?_)
         clear hK K hHeld q0 q1 q2 qf
         try simp only [Act.put, zA, zB, zC]
         refine wpAnyH_done (by kernel_rfl) ?_ _
         go_wp2_with fail
         refine ⟨⟨k + 1, by omega, by go_num, .slice (some ⟨g, 0, none⟩) (k + 1) cap, H6.out.1.laid _, ?_⟩, by simp [intOf]; omega⟩
         exact H6.out.2.1.out fun b hb => heap_setCell_other _ _ _ _ (by show b ≠ w.heap.size + 1 + 1; omega)
        have lk : v5.cell? ⟨w.heap.size + 1 + 1, 2, none⟩ = some kv := (cell_in HG.out).1.2.2
        go_simp
        refine hK.out _ _ hHeld (fun hHeld => ?_)
        clear hK K lk
        try simp only [Act.put, zA, zB, zC]
        refine wpAnyH_ready (rs := [16]) (by kernel_rfl) (by simp) ?_
        refine AllReadyH.cons (o := ⟨some 35, _, _, _, _, _⟩) rfl (fun K hK => ?_) AllReadyH.nil
        have hH := KX5.below hHeld ((Below.refl v5.heap.size v5).alloc (Nat.le_refl _) (Obj.cells #[.int .i64 48, .string ⟨#[]⟩, .slice (some ⟨q4, 0, none⟩) 4 4] 67))
        have HGn : Hid (Blk3 (v5.alloc (Obj.cells #[.int .i64 48, .string ⟨#[]⟩, .slice (some ⟨q4, 0, none⟩) 4 4] 67)) (w.heap.size + 1 + 1) (.int .i64 48) (.string ⟨#[]⟩) kv) := HG.out.below ((Below.refl _ _).alloc (Nat.le_refl _) _)
        clear HG
        have HG := HGn
        clear HGn
        go_simp
        refine hK.out _ _ hH (fun hHeld => ?_)
        clear hK K hH
        try simp only [Act.put, zA, zB, zC]
        refine wpAnyH_ready (rs := [17]) (by kernel_rfl) (by simp) ?_
        refine AllReadyH.cons (o := ⟨some 36, _, _, _, _, _⟩) rfl (fun K hK => ?_) AllReadyH.nil
        refine step_append_item0 (o := ⟨some 36, _, _, _, _, _⟩) rfl (.tmp 20) (.tmp 35) rfl (w.heap.size + 3) 2 kv (ks.take k) ks[k] 48 ⟨#[]⟩ (.slice (some ⟨q4, 0, none⟩) 4 4) f3 HT.out.1 HT.out.2.1 (by rfl) v5.heap.size (by rfl) rfl HK.out.2 HB.out HF.out HG1.out (by omega) ?_
        intro g cap w6 hG6 hgrow6
        have hm6 := (HK.out.1.below (HB.out.alloc HB.out.size (Obj.cells #[.int .i64 48, .string ⟨#[]⟩, .slice (some ⟨q4, 0, none⟩) 4 4] 67))).grown hgrow6 (fun q hq => (HK.out.2.lt q hq).1)
        have HY : Hid (Blk w6 wr.heap.size 84 #[.int .i64 x.status, .int .i64 x.why, .slice p1 n1 q1, .slice e1 n2 r1]) := (hgrow6.block _ hHeld.2.lt (fun e => by have := (HK.out.2.lt _ e.symm).2; omega)).trans hHeld.2
        have H6 : Hid (KM5 w w6 #[.string c.hash, .int .i64 c.nonce, .int .i64 c.time, .int .i64 c.next, .int .i64 c.plan, .int .i64 c.err, .slice (some ⟨b, off, none⟩) n pc, .string c.sig] kv /\ GrowK w6 (w.heap.size + 3) 2 (.slice (some ⟨g, 0, none⟩) (k + 1) cap) (ks.take (k + 1)) /\ wr.heap.size < w6.heap.size) := by
         have e := List.take_append_getElem hj1
         rw [htl, e] at hG6
         exact ⟨hm6, hG6, HY.out.lt⟩
        try rw [htl]
        clear hG6 hgrow6 hm6 HG HF HB
        refine hK.out _ _ ⟨⟨kv, H6.out.1⟩, HY.out⟩ (fun hHeld => ?_)
        clear hK K
        try simp only [Act.put, zA, zB, zC]
        refine zT 18 37 ?_ rfl (by rfl) ?_ hHeld ?_
        rotate_left
        ·intro W hSw
         go_simp
         try with_reducible rfl
        try simp only [Act.put, zA, zB, zC]
        refine wpAnyH_ready (rs := [19]) (by kernel_rfl) (by simp) ?_
        refine AllReadyH.cons (o := ⟨none, _, _, _, _, _⟩) rfl (fun K hK => ?_) AllReadyH.nil
        obtain ⟨⟨q0, q1, q2⟩, qf⟩ := cell_in H6.out.1.2.2.2
        have HZ9 : Hid (w.heap.size + 1 + 1 ≠ wr.heap.size) := by have := HG1.out; show w.heap.size + 1 + 1 ≠ wr.heap.size; omega
        go_simp
        refine hK.out _ _ ⟨⟨_, H6.out.1.laid _⟩, HY.out.other (p := ⟨w.heap.size + 1 + 1, 2, none⟩) _ (Ne.symm HZ9.out)⟩ (fun hHeld => ?_)
        clear hK K hHeld q0 q1 q2 qf
        try simp only [Act.put, zA, zB, zC]
        refine wpAnyH_done (by kernel_rfl) ?_ _
        go_wp2_with fail
        refine ⟨⟨k + 1, by omega, by go_num, .slice (some ⟨g, 0, none⟩) (k + 1) cap, H6.out.1.laid _, ?_⟩, by simp [intOf]; omega⟩
        exact H6.out.2.1.out fun b hb => heap_setCell_other _ _ _ _ (by show b ≠ w.heap.size + 1 + 1; omega)
       have lk : v4.cell? ⟨w.heap.size + 1 + 1, 2, none⟩ = some kv := (cell_in HG.out).1.2.2
       go_simp
       refine hK.out _ _ hHeld (fun hHeld => ?_)
       clear hK K lk
       try simp only [Act.put, zA, zB, zC]
       refine wpAnyH_ready (rs := [14]) (by kernel_rfl) (by simp) ?_
       refine AllReadyH.cons (o := ⟨some 33, _, _, _, _, _⟩) rfl (fun K hK => ?_) AllReadyH.nil
       obtain ⟨v8, hW3⟩ : ∃ W, W = v4.alloc (Obj.cells #[.int .i64 2, .string ⟨(intT (numN x.status)).toArray⟩, .slice none 0 0, .int .i64 2, .string ⟨(intT (numN x.why)).toArray⟩, .slice none 0 0, .int .i64 48, .string ⟨#[]⟩, .slice aP lP cP, .int .i64 48, .string ⟨#[]⟩, .slice aE lE cE] 67) := ⟨_, rfl⟩
       have hv : Below v4.heap.size v4 v8 := by rw [hW3]; exact (Below.refl _ _).alloc (Nat.le_refl _) _
       have HF0 : Hid (∃ fp, OwnK v8 wr.heap.size 2 (.slice (some ⟨v4.heap.size, 0, none⟩) 4 4) (It.kids ks[k]) fp) := by rw [HT.out.2.2]; exact ans_row HP.out HE.out HD.out HB.out.size hW3
       clear HP HE HD
       replace HG := zH (HG.out.below hv)
       replace HB := zH (HB.out.trans ((hv).mono HB.out.size))
       have hH := KX5.below hHeld hv
       go_simp
       rw [<- hW3]
       refine hK.out _ _ hH (fun hHeld => ?_)
       clear hK K hH hW3 hv
       try simp only [Act.put, zA, zB, zC]
       obtain ⟨q4, hq4⟩ := zE (v4.heap.size)
       rw [hq4] at HF0 |-
       clear hq4
       obtain ⟨f3, hf3⟩ := HF0.out
       have HF : Hid (OwnK v8 wr.heap.size 2 (.slice (some ⟨q4, 0, none⟩) 4 4) (It.kids ks[k]) f3) := hf3
       clear HF0 hf3
       refine zT 15 34 ?_ rfl (by rfl) ?_ hHeld ?_
       rotate_left
       ·intro W hSw
        go_simp
        try with_reducible rfl
       try simp only [Act.put, zA, zB, zC]
       refine wpAnyH_ready (rs := [16]) (by kernel_rfl) (by simp) ?_
       refine AllReadyH.cons (o := ⟨some 35, _, _, _, _, _⟩) rfl (fun K hK => ?_) AllReadyH.nil
       have hH := KX5.below hHeld ((Below.refl v8.heap.size v8).alloc (Nat.le_refl _) (Obj.cells #[.int .i64 48, .string ⟨#[]⟩, .slice (some ⟨q4, 0, none⟩) 4 4] 67))
       have HGn : Hid (Blk3 (v8.alloc (Obj.cells #[.int .i64 48, .string ⟨#[]⟩, .slice (some ⟨q4, 0, none⟩) 4 4] 67)) (w.heap.size + 1 + 1) (.int .i64 48) (.string ⟨#[]⟩) kv) := HG.out.below ((Below.refl _ _).alloc (Nat.le_refl _) _)
       clear HG
       have HG := HGn
       clear HGn
       go_simp
       refine hK.out _ _ hH (fun hHeld => ?_)
       clear hK K hH
       try simp only [Act.put, zA, zB, zC]
       refine wpAnyH_ready (rs := [17]) (by kernel_rfl) (by simp) ?_
       refine AllReadyH.cons (o := ⟨some 36, _, _, _, _, _⟩) rfl (fun K hK => ?_) AllReadyH.nil
       refine step_append_item0 (o := ⟨some 36, _, _, _, _, _⟩) rfl (.tmp 20) (.tmp 35) rfl (w.heap.size + 3) 2 kv (ks.take k) ks[k] 48 ⟨#[]⟩ (.slice (some ⟨q4, 0, none⟩) 4 4) f3 HT.out.1 HT.out.2.1 (by rfl) v8.heap.size (by rfl) rfl HK.out.2 HB.out HF.out HG1.out (by omega) ?_
       intro g cap w6 hG6 hgrow6
       have hm6 := (HK.out.1.below (HB.out.alloc HB.out.size (Obj.cells #[.int .i64 48, .string ⟨#[]⟩, .slice (some ⟨q4, 0, none⟩) 4 4] 67))).grown hgrow6 (fun q hq => (HK.out.2.lt q hq).1)
       have HY : Hid (Blk w6 wr.heap.size 84 #[.int .i64 x.status, .int .i64 x.why, .slice p1 n1 q1, .slice e1 n2 r1]) := (hgrow6.block _ hHeld.2.lt (fun e => by have := (HK.out.2.lt _ e.symm).2; omega)).trans hHeld.2
       have H6 : Hid (KM5 w w6 #[.string c.hash, .int .i64 c.nonce, .int .i64 c.time, .int .i64 c.next, .int .i64 c.plan, .int .i64 c.err, .slice (some ⟨b, off, none⟩) n pc, .string c.sig] kv /\ GrowK w6 (w.heap.size + 3) 2 (.slice (some ⟨g, 0, none⟩) (k + 1) cap) (ks.take (k + 1)) /\ wr.heap.size < w6.heap.size) := by
        have e := List.take_append_getElem hj1
        rw [htl, e] at hG6
        exact ⟨hm6, hG6, HY.out.lt⟩
       try rw [htl]
       clear hG6 hgrow6 hm6 HG HF HB
       refine hK.out _ _ ⟨⟨kv, H6.out.1⟩, HY.out⟩ (fun hHeld => ?_)
       clear hK K
       try simp only [Act.put, zA, zB, zC]
       refine zT 18 37 ?_ rfl (by rfl) ?_ hHeld ?_
       rotate_left
       ·intro W hSw
        go_simp
        try with_reducible rfl
       try simp only [Act.put, zA, zB, zC]
       refine wpAnyH_ready (rs := [19]) (by kernel_rfl) (by simp) ?_
       refine AllReadyH.cons (o := ⟨none, _, _, _, _, _⟩) rfl (fun K hK => ?_) AllReadyH.nil
       obtain ⟨⟨q0, q1, q2⟩, qf⟩ := cell_in H6.out.1.2.2.2
       have HZ9 : Hid (w.heap.size + 1 + 1 ≠ wr.heap.size) := by have := HG1.out; show w.heap.size + 1 + 1 ≠ wr.heap.size; omega
       go_simp
       refine hK.out _ _ ⟨⟨_, H6.out.1.laid _⟩, HY.out.other (p := ⟨w.heap.size + 1 + 1, 2, none⟩) _ (Ne.symm HZ9.out)⟩ (fun hHeld => ?_)
       clear hK K hHeld q0 q1 q2 qf
       try simp only [Act.put, zA, zB, zC]
       refine wpAnyH_done (by kernel_rfl) ?_ _
       go_wp2_with fail
       refine ⟨⟨k + 1, by omega, by go_num, .slice (some ⟨g, 0, none⟩) (k + 1) cap, H6.out.1.laid _, ?_⟩, by simp [intOf]; omega⟩
       exact H6.out.2.1.out fun b hb => heap_setCell_other _ _ _ _ (by show b ≠ w.heap.size + 1 + 1; omega)
      have lk : v3.cell? ⟨w.heap.size + 1 + 1, 2, none⟩ = some kv := (cell_in HG.out).1.2.2
      go_simp
      refine hK.out _ _ hHeld (fun hHeld => ?_)
      clear hK K lk
      try simp only [Act.put, zA, zB, zC]
      refine wpAnyH_ready (rs := [13]) (by kernel_rfl) (by simp) ?_
      refine AllReadyH.cons (o := ⟨some 32, _, _, _, _, _⟩) rfl (fun K hK => ?_) AllReadyH.nil
      go_simp
      have hsz : wr.heap.size <= v3.heap.size := HB.out.size
      refine (bytsI_any 0 x.lst _ _ HW2.out.1 HW2.out.2 ((HL.out.2.below HK.out.1.1).below HB.out)).mono ?_
      intro e v10 hto
      obtain ⟨aE, lE, cE, fE, rfl, hoT, hv⟩ := to_lst hto
      clear hto
      have hH := KX5.below hHeld hv
      have HD : Hid (∀ g ∈ fP, g ∉ fE) := fun g h1 h2 => by have := (OwnK.lt HP.out g h1).2; have := (OwnK.lt hoT g h2).1; omega
      replace HG := zH (HG.out.below hv)
      replace HB := zH (HB.out.trans ((hv).mono HB.out.size))
      replace HP := zH (HP.out.below hv (fun b hm => (OwnK.lt HP.out b hm).2))
      have HE : Hid (OwnK v10 wr.heap.size 1 (.slice aE lE cE) (It.kids (n := 1) (lstJ (x.lst.map bytJ))) fE) := OwnK.base hsz hoT
      clear hoT hsz
      go_wp2_with fail
      refine hK.out _ _ hH (fun hHeld => ?_)
      clear hK K hH hv
      try simp only [Act.put, zA, zB, zC]
      refine wpAnyH_ready (rs := [14]) (by kernel_rfl) (by simp) ?_
      refine AllReadyH.cons (o := ⟨some 33, _, _, _, _, _⟩) rfl (fun K hK => ?_) AllReadyH.nil
      obtain ⟨v11, hW3⟩ : ∃ W, W = v10.alloc (Obj.cells #[.int .i64 2, .string ⟨(intT (numN x.status)).toArray⟩, .slice none 0 0, .int .i64 2, .string ⟨(intT (numN x.why)).toArray⟩, .slice none 0 0, .int .i64 48, .string ⟨#[]⟩, .slice aP lP cP, .int .i64 48, .string ⟨#[]⟩, .slice aE lE cE] 67) := ⟨_, rfl⟩
      have hv : Below v10.heap.size v10 v11 := by rw [hW3]; exact (Below.refl _ _).alloc (Nat.le_refl _) _
      have HF0 : Hid (∃ fp, OwnK v11 wr.heap.size 2 (.slice (some ⟨v10.heap.size, 0, none⟩) 4 4) (It.kids ks[k]) fp) := by rw [HT.out.2.2]; exact ans_row HP.out HE.out HD.out HB.out.size hW3
      clear HP HE HD
      replace HG := zH (HG.out.below hv)
      replace HB := zH (HB.out.trans ((hv).mono HB.out.size))
      have hH := KX5.below hHeld hv
      go_simp
      rw [<- hW3]
      refine hK.out _ _ hH (fun hHeld => ?_)
      clear hK K hH hW3 hv
      try simp only [Act.put, zA, zB, zC]
      obtain ⟨q4, hq4⟩ := zE (v10.heap.size)
      rw [hq4] at HF0 |-
      clear hq4
      obtain ⟨f3, hf3⟩ := HF0.out
      have HF : Hid (OwnK v11 wr.heap.size 2 (.slice (some ⟨q4, 0, none⟩) 4 4) (It.kids ks[k]) f3) := hf3
      clear HF0 hf3
      refine zT 15 34 ?_ rfl (by rfl) ?_ hHeld ?_
      rotate_left
      ·intro W hSw
       go_simp
       try with_reducible rfl
      try simp only [Act.put, zA, zB, zC]
      refine wpAnyH_ready (rs := [16]) (by kernel_rfl) (by simp) ?_
      refine AllReadyH.cons (o := ⟨some 35, _, _, _, _, _⟩) rfl (fun K hK => ?_) AllReadyH.nil
      have hH := KX5.below hHeld ((Below.refl v11.heap.size v11).alloc (Nat.le_refl _) (Obj.cells #[.int .i64 48, .string ⟨#[]⟩, .slice (some ⟨q4, 0, none⟩) 4 4] 67))
      have HGn : Hid (Blk3 (v11.alloc (Obj.cells #[.int .i64 48, .string ⟨#[]⟩, .slice (some ⟨q4, 0, none⟩) 4 4] 67)) (w.heap.size + 1 + 1) (.int .i64 48) (.string ⟨#[]⟩) kv) := HG.out.below ((Below.refl _ _).alloc (Nat.le_refl _) _)
      clear HG
      have HG := HGn
      clear HGn
      go_simp
      refine hK.out _ _ hH (fun hHeld => ?_)
      clear hK K hH
      try simp only [Act.put, zA, zB, zC]
      refine wpAnyH_ready (rs := [17]) (by kernel_rfl) (by simp) ?_
      refine AllReadyH.cons (o := ⟨some 36, _, _, _, _, _⟩) rfl (fun K hK => ?_) AllReadyH.nil
      refine step_append_item0 (o := ⟨some 36, _, _, _, _, _⟩) rfl (.tmp 20) (.tmp 35) rfl (w.heap.size + 3) 2 kv (ks.take k) ks[k] 48 ⟨#[]⟩ (.slice (some ⟨q4, 0, none⟩) 4 4) f3 HT.out.1 HT.out.2.1 (by rfl) v11.heap.size (by rfl) rfl HK.out.2 HB.out HF.out HG1.out (by omega) ?_
      intro g cap w6 hG6 hgrow6
      have hm6 := (HK.out.1.below (HB.out.alloc HB.out.size (Obj.cells #[.int .i64 48, .string ⟨#[]⟩, .slice (some ⟨q4, 0, none⟩) 4 4] 67))).grown hgrow6 (fun q hq => (HK.out.2.lt q hq).1)
      have HY : Hid (Blk w6 wr.heap.size 84 #[.int .i64 x.status, .int .i64 x.why, .slice p1 n1 q1, .slice e1 n2 r1]) := (hgrow6.block _ hHeld.2.lt (fun e => by have := (HK.out.2.lt _ e.symm).2; omega)).trans hHeld.2
      have H6 : Hid (KM5 w w6 #[.string c.hash, .int .i64 c.nonce, .int .i64 c.time, .int .i64 c.next, .int .i64 c.plan, .int .i64 c.err, .slice (some ⟨b, off, none⟩) n pc, .string c.sig] kv /\ GrowK w6 (w.heap.size + 3) 2 (.slice (some ⟨g, 0, none⟩) (k + 1) cap) (ks.take (k + 1)) /\ wr.heap.size < w6.heap.size) := by
       have e := List.take_append_getElem hj1
       rw [htl, e] at hG6
       exact ⟨hm6, hG6, HY.out.lt⟩
      try rw [htl]
      clear hG6 hgrow6 hm6 HG HF HB
      refine hK.out _ _ ⟨⟨kv, H6.out.1⟩, HY.out⟩ (fun hHeld => ?_)
      clear hK K
      try simp only [Act.put, zA, zB, zC]
      refine zT 18 37 ?_ rfl (by rfl) ?_ hHeld ?_
      rotate_left
      ·intro W hSw
       go_simp
       try with_reducible rfl
      try simp only [Act.put, zA, zB, zC]
      refine wpAnyH_ready (rs := [19]) (by kernel_rfl) (by simp) ?_
      refine AllReadyH.cons (o := ⟨none, _, _, _, _, _⟩) rfl (fun K hK => ?_) AllReadyH.nil
      obtain ⟨⟨q0, q1, q2⟩, qf⟩ := cell_in H6.out.1.2.2.2
      have HZ9 : Hid (w.heap.size + 1 + 1 ≠ wr.heap.size) := by have := HG1.out; show w.heap.size + 1 + 1 ≠ wr.heap.size; omega
      go_simp
      refine hK.out _ _ ⟨⟨_, H6.out.1.laid _⟩, HY.out.other (p := ⟨w.heap.size + 1 + 1, 2, none⟩) _ (Ne.symm HZ9.out)⟩ (fun hHeld => ?_)
      clear hK K hHeld q0 q1 q2 qf
      try simp only [Act.put, zA, zB, zC]
      refine wpAnyH_done (by kernel_rfl) ?_ _
      go_wp2_with fail
      refine ⟨⟨k + 1, by omega, by go_num, .slice (some ⟨g, 0, none⟩) (k + 1) cap, H6.out.1.laid _, ?_⟩, by simp [intOf]; omega⟩
      exact H6.out.2.1.out fun b hb => heap_setCell_other _ _ _ _ (by show b ≠ w.heap.size + 1 + 1; omega)
     have lk : v2.cell? ⟨w.heap.size + 1 + 1, 2, none⟩ = some kv := (cell_in HG.out).1.2.2
     go_simp
     refine hK.out _ _ hHeld (fun hHeld => ?_)
     clear hK K lk
     try simp only [Act.put, zA, zB, zC]
     refine wpAnyH_ready (rs := [10]) (by kernel_rfl) (by simp) ?_
     refine AllReadyH.cons (o := ⟨some 29, _, _, _, _, _⟩) rfl (fun K hK => ?_) AllReadyH.nil
     go_simp
     have hsz : wr.heap.size <= v2.heap.size := HB.out.size
     refine (bytsI_any 0 x.path _ _ HW1.out.1 HW1.out.2 ((HL.out.1.below HK.out.1.1).below HB.out)).mono ?_
     intro e v13 hto
     obtain ⟨aP, lP, cP, fP, rfl, hoT, hv⟩ := to_lst hto
     clear hto
     have hH := KX5.below hHeld hv
     replace HG := zH (HG.out.below hv)
     replace HB := zH (HB.out.trans ((hv).mono HB.out.size))
     have HP : Hid (OwnK v13 wr.heap.size 1 (.slice aP lP cP) (It.kids (n := 1) (lstJ (x.path.map bytJ))) fP) := OwnK.base hsz hoT
     clear hoT hsz
     go_wp2_with fail
     refine hK.out _ _ hH (fun hHeld => ?_)
     clear hK K hH hv
     try simp only [Act.put, zA, zB, zC]
     refine wpAnyH_ready (rs := [13]) (by kernel_rfl) (by simp) ?_
     refine AllReadyH.cons (o := ⟨some 32, _, _, _, _, _⟩) rfl (fun K hK => ?_) AllReadyH.nil
     go_simp
     have hsz : wr.heap.size <= v13.heap.size := HB.out.size
     refine (bytsI_any 0 x.lst _ _ HW2.out.1 HW2.out.2 ((HL.out.2.below HK.out.1.1).below HB.out)).mono ?_
     intro e v14 hto
     obtain ⟨aE, lE, cE, fE, rfl, hoT, hv⟩ := to_lst hto
     clear hto
     have hH := KX5.below hHeld hv
     have HD : Hid (∀ g ∈ fP, g ∉ fE) := fun g h1 h2 => by have := (OwnK.lt HP.out g h1).2; have := (OwnK.lt hoT g h2).1; omega
     replace HG := zH (HG.out.below hv)
     replace HB := zH (HB.out.trans ((hv).mono HB.out.size))
     replace HP := zH (HP.out.below hv (fun b hm => (OwnK.lt HP.out b hm).2))
     have HE : Hid (OwnK v14 wr.heap.size 1 (.slice aE lE cE) (It.kids (n := 1) (lstJ (x.lst.map bytJ))) fE) := OwnK.base hsz hoT
     clear hoT hsz
     go_wp2_with fail
     refine hK.out _ _ hH (fun hHeld => ?_)
     clear hK K hH hv
     try simp only [Act.put, zA, zB, zC]
     refine wpAnyH_ready (rs := [14]) (by kernel_rfl) (by simp) ?_
     refine AllReadyH.cons (o := ⟨some 33, _, _, _, _, _⟩) rfl (fun K hK => ?_) AllReadyH.nil
     obtain ⟨v15, hW3⟩ : ∃ W, W = v14.alloc (Obj.cells #[.int .i64 2, .string ⟨(intT (numN x.status)).toArray⟩, .slice none 0 0, .int .i64 2, .string ⟨(intT (numN x.why)).toArray⟩, .slice none 0 0, .int .i64 48, .string ⟨#[]⟩, .slice aP lP cP, .int .i64 48, .string ⟨#[]⟩, .slice aE lE cE] 67) := ⟨_, rfl⟩
     have hv : Below v14.heap.size v14 v15 := by rw [hW3]; exact (Below.refl _ _).alloc (Nat.le_refl _) _
     have HF0 : Hid (∃ fp, OwnK v15 wr.heap.size 2 (.slice (some ⟨v14.heap.size, 0, none⟩) 4 4) (It.kids ks[k]) fp) := by rw [HT.out.2.2]; exact ans_row HP.out HE.out HD.out HB.out.size hW3
     clear HP HE HD
     replace HG := zH (HG.out.below hv)
     replace HB := zH (HB.out.trans ((hv).mono HB.out.size))
     have hH := KX5.below hHeld hv
     go_simp
     rw [<- hW3]
     refine hK.out _ _ hH (fun hHeld => ?_)
     clear hK K hH hW3 hv
     try simp only [Act.put, zA, zB, zC]
     obtain ⟨q4, hq4⟩ := zE (v14.heap.size)
     rw [hq4] at HF0 |-
     clear hq4
     obtain ⟨f3, hf3⟩ := HF0.out
     have HF : Hid (OwnK v15 wr.heap.size 2 (.slice (some ⟨q4, 0, none⟩) 4 4) (It.kids ks[k]) f3) := hf3
     clear HF0 hf3
     refine zT 15 34 ?_ rfl (by rfl) ?_ hHeld ?_
     rotate_left
     ·intro W hSw
      go_simp
      try with_reducible rfl
     try simp only [Act.put, zA, zB, zC]
     refine wpAnyH_ready (rs := [16]) (by kernel_rfl) (by simp) ?_
     refine AllReadyH.cons (o := ⟨some 35, _, _, _, _, _⟩) rfl (fun K hK => ?_) AllReadyH.nil
     have hH := KX5.below hHeld ((Below.refl v15.heap.size v15).alloc (Nat.le_refl _) (Obj.cells #[.int .i64 48, .string ⟨#[]⟩, .slice (some ⟨q4, 0, none⟩) 4 4] 67))
     have HGn : Hid (Blk3 (v15.alloc (Obj.cells #[.int .i64 48, .string ⟨#[]⟩, .slice (some ⟨q4, 0, none⟩) 4 4] 67)) (w.heap.size + 1 + 1) (.int .i64 48) (.string ⟨#[]⟩) kv) := HG.out.below ((Below.refl _ _).alloc (Nat.le_refl _) _)
     clear HG
     have HG := HGn
     clear HGn
     go_simp
     refine hK.out _ _ hH (fun hHeld => ?_)
     clear hK K hH
     try simp only [Act.put, zA, zB, zC]
     refine wpAnyH_ready (rs := [17]) (by kernel_rfl) (by simp) ?_
     refine AllReadyH.cons (o := ⟨some 36, _, _, _, _, _⟩) rfl (fun K hK => ?_) AllReadyH.nil
     refine step_append_item0 (o := ⟨some 36, _, _, _, _, _⟩) rfl (.tmp 20) (.tmp 35) rfl (w.heap.size + 3) 2 kv (ks.take k) ks[k] 48 ⟨#[]⟩ (.slice (some ⟨q4, 0, none⟩) 4 4) f3 HT.out.1 HT.out.2.1 (by rfl) v15.heap.size (by rfl) rfl HK.out.2 HB.out HF.out HG1.out (by omega) ?_
     intro g cap w6 hG6 hgrow6
     have hm6 := (HK.out.1.below (HB.out.alloc HB.out.size (Obj.cells #[.int .i64 48, .string ⟨#[]⟩, .slice (some ⟨q4, 0, none⟩) 4 4] 67))).grown hgrow6 (fun q hq => (HK.out.2.lt q hq).1)
     have HY : Hid (Blk w6 wr.heap.size 84 #[.int .i64 x.status, .int .i64 x.why, .slice p1 n1 q1, .slice e1 n2 r1]) := (hgrow6.block _ hHeld.2.lt (fun e => by have := (HK.out.2.lt _ e.symm).2; omega)).trans hHeld.2
     have H6 : Hid (KM5 w w6 #[.string c.hash, .int .i64 c.nonce, .int .i64 c.time, .int .i64 c.next, .int .i64 c.plan, .int .i64 c.err, .slice (some ⟨b, off, none⟩) n pc, .string c.sig] kv /\ GrowK w6 (w.heap.size + 3) 2 (.slice (some ⟨g, 0, none⟩) (k + 1) cap) (ks.take (k + 1)) /\ wr.heap.size < w6.heap.size) := by
      have e := List.take_append_getElem hj1
      rw [htl, e] at hG6
      exact ⟨hm6, hG6, HY.out.lt⟩
     try rw [htl]
     clear hG6 hgrow6 hm6 HG HF HB
     refine hK.out _ _ ⟨⟨kv, H6.out.1⟩, HY.out⟩ (fun hHeld => ?_)
     clear hK K
     try simp only [Act.put, zA, zB, zC]
     refine zT 18 37 ?_ rfl (by rfl) ?_ hHeld ?_
     rotate_left
     ·intro W hSw
      go_simp
      try with_reducible rfl
     try simp only [Act.put, zA, zB, zC]
     refine wpAnyH_ready (rs := [19]) (by kernel_rfl) (by simp) ?_
     refine AllReadyH.cons (o := ⟨none, _, _, _, _, _⟩) rfl (fun K hK => ?_) AllReadyH.nil
     obtain ⟨⟨q0, q1, q2⟩, qf⟩ := cell_in H6.out.1.2.2.2
     have HZ9 : Hid (w.heap.size + 1 + 1 ≠ wr.heap.size) := by have := HG1.out; show w.heap.size + 1 + 1 ≠ wr.heap.size; omega
     go_simp
     refine hK.out _ _ ⟨⟨_, H6.out.1.laid _⟩, HY.out.other (p := ⟨w.heap.size + 1 + 1, 2, none⟩) _ (Ne.symm HZ9.out)⟩ (fun hHeld => ?_)
     clear hK K hHeld q0 q1 q2 qf
     try simp only [Act.put, zA, zB, zC]
     refine wpAnyH_done (by kernel_rfl) ?_ _
     go_wp2_with fail
     refine ⟨⟨k + 1, by omega, by go_num, .slice (some ⟨g, 0, none⟩) (k + 1) cap, H6.out.1.laid _, ?_⟩, by simp [intOf]; omega⟩
     exact H6.out.2.1.out fun b hb => heap_setCell_other _ _ _ _ (by show b ≠ w.heap.size + 1 + 1; omega)
    have lk : v1.cell? ⟨w.heap.size + 1 + 1, 2, none⟩ = some kv := (cell_in HG.out).1.2.2
    go_simp
    refine hK.out _ _ hHeld (fun hHeld => ?_)
    clear hK K lk
    try simp only [Act.put, zA, zB, zC]
    refine wpAnyH_ready (rs := [7]) (by kernel_rfl) (by simp) ?_
    refine AllReadyH.cons (o := ⟨some 26, _, _, _, _, _⟩) rfl (fun K hK => ?_) AllReadyH.nil
    go_simp
    refine (specIntItem_any x.why _ HQ.out.2).mono ?_
    rintro e v17 ⟨rfl, hv⟩
    have hH := KX5.below hHeld hv
    replace HG := zH (HG.out.below hv)
    replace HB := zH (HB.out.trans ((hv).mono HB.out.size))
    go_wp2_with fail
    refine hK.out _ _ hH (fun hHeld => ?_)
    clear hK K hH hv
    try simp only [Act.put, zA, zB, zC]
    refine wpAnyH_ready (rs := [10]) (by kernel_rfl) (by simp) ?_
    refine AllReadyH.cons (o := ⟨some 29, _, _, _, _, _⟩) rfl (fun K hK => ?_) AllReadyH.nil
    go_simp
    have hsz : wr.heap.size <= v17.heap.size := HB.out.size
    refine (bytsI_any 0 x.path _ _ HW1.out.1 HW1.out.2 ((HL.out.1.below HK.out.1.1).below HB.out)).mono ?_
    intro e v18 hto
    obtain ⟨aP, lP, cP, fP, rfl, hoT, hv⟩ := to_lst hto
    clear hto
    have hH := KX5.below hHeld hv
    replace HG := zH (HG.out.below hv)
    replace HB := zH (HB.out.trans ((hv).mono HB.out.size))
    have HP : Hid (OwnK v18 wr.heap.size 1 (.slice aP lP cP) (It.kids (n := 1) (lstJ (x.path.map bytJ))) fP) := OwnK.base hsz hoT
    clear hoT hsz
    go_wp2_with fail
    refine hK.out _ _ hH (fun hHeld => ?_)
    clear hK K hH hv
    try simp only [Act.put, zA, zB, zC]
    refine wpAnyH_ready (rs := [13]) (by kernel_rfl) (by simp) ?_
    refine AllReadyH.cons (o := ⟨some 32, _, _, _, _, _⟩) rfl (fun K hK => ?_) AllReadyH.nil
    go_simp
    have hsz : wr.heap.size <= v18.heap.size := HB.out.size
    refine (bytsI_any 0 x.lst _ _ HW2.out.1 HW2.out.2 ((HL.out.2.below HK.out.1.1).below HB.out)).mono ?_
    intro e v19 hto
    obtain ⟨aE, lE, cE, fE, rfl, hoT, hv⟩ := to_lst hto
    clear hto
    have hH := KX5.below hHeld hv
    have HD : Hid (∀ g ∈ fP, g ∉ fE) := fun g h1 h2 => by have := (OwnK.lt HP.out g h1).2; have := (OwnK.lt hoT g h2).1; omega
    replace HG := zH (HG.out.below hv)
    replace HB := zH (HB.out.trans ((hv).mono HB.out.size))
    replace HP := zH (HP.out.below hv (fun b hm => (OwnK.lt HP.out b hm).2))
    have HE : Hid (OwnK v19 wr.heap.size 1 (.slice aE lE cE) (It.kids (n := 1) (lstJ (x.lst.map bytJ))) fE) := OwnK.base hsz hoT
    clear hoT hsz
    go_wp2_with fail
    refine hK.out _ _ hH (fun hHeld => ?_)
    clear hK K hH hv
    try simp only [Act.put, zA, zB, zC]
    refine wpAnyH_ready (rs := [14]) (by kernel_rfl) (by simp) ?_
    refine AllReadyH.cons (o := ⟨some 33, _, _, _, _, _⟩) rfl (fun K hK => ?_) AllReadyH.nil
    obtain ⟨v20, hW3⟩ : ∃ W, W = v19.alloc (Obj.cells #[.int .i64 2, .string ⟨(intT (numN x.status)).toArray⟩, .slice none 0 0, .int .i64 2, .string ⟨(intT (numN x.why)).toArray⟩, .slice none 0 0, .int .i64 48, .string ⟨#[]⟩, .slice aP lP cP, .int .i64 48, .string ⟨#[]⟩, .slice aE lE cE] 67) := ⟨_, rfl⟩
    have hv : Below v19.heap.size v19 v20 := by rw [hW3]; exact (Below.refl _ _).alloc (Nat.le_refl _) _
    have HF0 : Hid (∃ fp, OwnK v20 wr.heap.size 2 (.slice (some ⟨v19.heap.size, 0, none⟩) 4 4) (It.kids ks[k]) fp) := by rw [HT.out.2.2]; exact ans_row HP.out HE.out HD.out HB.out.size hW3
    clear HP HE HD
    replace HG := zH (HG.out.below hv)
    replace HB := zH (HB.out.trans ((hv).mono HB.out.size))
    have hH := KX5.below hHeld hv
    go_simp
    rw [<- hW3]
    refine hK.out _ _ hH (fun hHeld => ?_)
    clear hK K hH hW3 hv
    try simp only [Act.put, zA, zB, zC]
    obtain ⟨q4, hq4⟩ := zE (v19.heap.size)
    rw [hq4] at HF0 |-
    clear hq4
    obtain ⟨f3, hf3⟩ := HF0.out
    have HF : Hid (OwnK v20 wr.heap.size 2 (.slice (some ⟨q4, 0, none⟩) 4 4) (It.kids ks[k]) f3) := hf3
    clear HF0 hf3
    refine zT 15 34 ?_ rfl (by rfl) ?_ hHeld ?_
    rotate_left
    ·intro W hSw
     go_simp
     try with_reducible rfl
    try simp only [Act.put, zA, zB, zC]
    refine wpAnyH_ready (rs := [16]) (by kernel_rfl) (by simp) ?_
    refine AllReadyH.cons (o := ⟨some 35, _, _, _, _, _⟩) rfl (fun K hK => ?_) AllReadyH.nil
    have hH := KX5.below hHeld ((Below.refl v20.heap.size v20).alloc (Nat.le_refl _) (Obj.cells #[.int .i64 48, .string ⟨#[]⟩, .slice (some ⟨q4, 0, none⟩) 4 4] 67))
    have HGn : Hid (Blk3 (v20.alloc (Obj.cells #[.int .i64 48, .string ⟨#[]⟩, .slice (some ⟨q4, 0, none⟩) 4 4] 67)) (w.heap.size + 1 + 1) (.int .i64 48) (.string ⟨#[]⟩) kv) := HG.out.below ((Below.refl _ _).alloc (Nat.le_refl _) _)
    clear HG
    have HG := HGn
    clear HGn
    go_simp
    refine hK.out _ _ hH (fun hHeld => ?_)
    clear hK K hH
    try simp only [Act.put, zA, zB, zC]
    refine wpAnyH_ready (rs := [17]) (by kernel_rfl) (by simp) ?_
    refine AllReadyH.cons (o := ⟨some 36, _, _, _, _, _⟩) rfl (fun K hK => ?_) AllReadyH.nil
    refine step_append_item0 (o := ⟨some 36, _, _, _, _, _⟩) rfl (.tmp 20) (.tmp 35) rfl (w.heap.size + 3) 2 kv (ks.take k) ks[k] 48 ⟨#[]⟩ (.slice (some ⟨q4, 0, none⟩) 4 4) f3 HT.out.1 HT.out.2.1 (by rfl) v20.heap.size (by rfl) rfl HK.out.2 HB.out HF.out HG1.out (by omega) ?_
    intro g cap w6 hG6 hgrow6
    have hm6 := (HK.out.1.below (HB.out.alloc HB.out.size (Obj.cells #[.int .i64 48, .string ⟨#[]⟩, .slice (some ⟨q4, 0, none⟩) 4 4] 67))).grown hgrow6 (fun q hq => (HK.out.2.lt q hq).1)
    have HY : Hid (Blk w6 wr.heap.size 84 #[.int .i64 x.status, .int .i64 x.why, .slice p1 n1 q1, .slice e1 n2 r1]) := (hgrow6.block _ hHeld.2.lt (fun e => by have := (HK.out.2.lt _ e.symm).2; omega)).trans hHeld.2
    have H6 : Hid (KM5 w w6 #[.string c.hash, .int .i64 c.nonce, .int .i64 c.time, .int .i64 c.next, .int .i64 c.plan, .int .i64 c.err, .slice (some ⟨b, off, none⟩) n pc, .string c.sig] kv /\ GrowK w6 (w.heap.size + 3) 2 (.slice (some ⟨g, 0, none⟩) (k + 1) cap) (ks.take (k + 1)) /\ wr.heap.size < w6.heap.size) := by
     have e := List.take_append_getElem hj1
     rw [htl, e] at hG6
     exact ⟨hm6, hG6, HY.out.lt⟩
    try rw [htl]
    clear hG6 hgrow6 hm6 HG HF HB
    refine hK.out _ _ ⟨⟨kv, H6.out.1⟩, HY.out⟩ (fun hHeld => ?_)
    clear hK K
    try simp only [Act.put, zA, zB, zC]
    refine zT 18 37 ?_ rfl (by rfl) ?_ hHeld ?_
    rotate_left
    ·intro W hSw
     go_simp
     try with_reducible rfl
    try simp only [Act.put, zA, zB, zC]
    refine wpAnyH_ready (rs := [19]) (by kernel_rfl) (by simp) ?_
    refine AllReadyH.cons (o := ⟨none, _, _, _, _, _⟩) rfl (fun K hK => ?_) AllReadyH.nil
    obtain ⟨⟨q0, q1, q2⟩, qf⟩ := cell_in H6.out.1.2.2.2
    have HZ9 : Hid (w.heap.size + 1 + 1 ≠ wr.heap.size) := by have := HG1.out; show w.heap.size + 1 + 1 ≠ wr.heap.size; omega
    go_simp
    refine hK.out _ _ ⟨⟨_, H6.out.1.laid _⟩, HY.out.other (p := ⟨w.heap.size + 1 + 1, 2, none⟩) _ (Ne.symm HZ9.out)⟩ (fun hHeld => ?_)
    clear hK K hHeld q0 q1 q2 qf
    try simp only [Act.put, zA, zB, zC]
    refine wpAnyH_done (by kernel_rfl) ?_ _
    go_wp2_with fail
    refine ⟨⟨k + 1, by omega, by go_num, .slice (some ⟨g, 0, none⟩) (k + 1) cap, H6.out.1.laid _, ?_⟩, by simp [intOf]; omega⟩
    exact H6.out.2.1.out fun b hb => heap_setCell_other _ _ _ _ (by show b ≠ w.heap.size + 1 + 1; omega)
   have lk : Wd0.cell? ⟨w.heap.size + 1 + 1, 2, none⟩ = some kv := (cell_in HG.out).1.2.2
   go_simp
   refine hK.out _ _ hHeld (fun hHeld => ?_)
   clear hK K lk
   try simp only [Act.put, zA, zB, zC]
   refine wpAnyH_ready (rs := [4]) (by kernel_rfl) (by simp) ?_
   refine AllReadyH.cons (o := ⟨some 23, _, _, _, _, _⟩) rfl (fun K hK => ?_) AllReadyH.nil
   go_simp
   refine (specIntItem_any x.status _ HQ.out.1).mono ?_
   rintro e v22 ⟨rfl, hv⟩
   have hH := KX5.below hHeld hv
   replace HG := zH (HG.out.below hv)
   replace HB := zH (HB.out.trans ((hv).mono HB.out.size))
   go_wp2_with fail
   refine hK.out _ _ hH (fun hHeld => ?_)
   clear hK K hH hv
   try simp only [Act.put, zA, zB, zC]
   refine wpAnyH_ready (rs := [7]) (by kernel_rfl) (by simp) ?_
   refine AllReadyH.cons (o := ⟨some 26, _, _, _, _, _⟩) rfl (fun K hK => ?_) AllReadyH.nil
   go_simp
   refine (specIntItem_any x.why _ HQ.out.2).mono ?_
   rintro e v23 ⟨rfl, hv⟩
   have hH := KX5.below hHeld hv
   replace HG := zH (HG.out.below hv)
   replace HB := zH (HB.out.trans ((hv).mono HB.out.size))
   go_wp2_with fail
   refine hK.out _ _ hH (fun hHeld => ?_)
   clear hK K hH hv
   try simp only [Act.put, zA, zB, zC]
   refine wpAnyH_ready (rs := [10]) (by kernel_rfl) (by simp) ?_
   refine AllReadyH.cons (o := ⟨some 29, _, _, _, _, _⟩) rfl (fun K hK => ?_) AllReadyH.nil
   go_simp
   have hsz : wr.heap.size <= v23.heap.size := HB.out.size
   refine (bytsI_any 0 x.path _ _ HW1.out.1 HW1.out.2 ((HL.out.1.below HK.out.1.1).below HB.out)).mono ?_
   intro e v24 hto
   obtain ⟨aP, lP, cP, fP, rfl, hoT, hv⟩ := to_lst hto
   clear hto
   have hH := KX5.below hHeld hv
   replace HG := zH (HG.out.below hv)
   replace HB := zH (HB.out.trans ((hv).mono HB.out.size))
   have HP : Hid (OwnK v24 wr.heap.size 1 (.slice aP lP cP) (It.kids (n := 1) (lstJ (x.path.map bytJ))) fP) := OwnK.base hsz hoT
   clear hoT hsz
   go_wp2_with fail
   refine hK.out _ _ hH (fun hHeld => ?_)
   clear hK K hH hv
   try simp only [Act.put, zA, zB, zC]
   refine wpAnyH_ready (rs := [13]) (by kernel_rfl) (by simp) ?_
   refine AllReadyH.cons (o := ⟨some 32, _, _, _, _, _⟩) rfl (fun K hK => ?_) AllReadyH.nil
   go_simp
   have hsz : wr.heap.size <= v24.heap.size := HB.out.size
   refine (bytsI_any 0 x.lst _ _ HW2.out.1 HW2.out.2 ((HL.out.2.below HK.out.1.1).below HB.out)).mono ?_
   intro e v25 hto
   obtain ⟨aE, lE, cE, fE, rfl, hoT, hv⟩ := to_lst hto
   clear hto
   have hH := KX5.below hHeld hv
   have HD : Hid (∀ g ∈ fP, g ∉ fE) := fun g h1 h2 => by have := (OwnK.lt HP.out g h1).2; have := (OwnK.lt hoT g h2).1; omega
   replace HG := zH (HG.out.below hv)
   replace HB := zH (HB.out.trans ((hv).mono HB.out.size))
   replace HP := zH (HP.out.below hv (fun b hm => (OwnK.lt HP.out b hm).2))
   have HE : Hid (OwnK v25 wr.heap.size 1 (.slice aE lE cE) (It.kids (n := 1) (lstJ (x.lst.map bytJ))) fE) := OwnK.base hsz hoT
   clear hoT hsz
   go_wp2_with fail
   refine hK.out _ _ hH (fun hHeld => ?_)
   clear hK K hH hv
   try simp only [Act.put, zA, zB, zC]
   refine wpAnyH_ready (rs := [14]) (by kernel_rfl) (by simp) ?_
   refine AllReadyH.cons (o := ⟨some 33, _, _, _, _, _⟩) rfl (fun K hK => ?_) AllReadyH.nil
   obtain ⟨v26, hW3⟩ : ∃ W, W = v25.alloc (Obj.cells #[.int .i64 2, .string ⟨(intT (numN x.status)).toArray⟩, .slice none 0 0, .int .i64 2, .string ⟨(intT (numN x.why)).toArray⟩, .slice none 0 0, .int .i64 48, .string ⟨#[]⟩, .slice aP lP cP, .int .i64 48, .string ⟨#[]⟩, .slice aE lE cE] 67) := ⟨_, rfl⟩
   have hv : Below v25.heap.size v25 v26 := by rw [hW3]; exact (Below.refl _ _).alloc (Nat.le_refl _) _
   have HF0 : Hid (∃ fp, OwnK v26 wr.heap.size 2 (.slice (some ⟨v25.heap.size, 0, none⟩) 4 4) (It.kids ks[k]) fp) := by rw [HT.out.2.2]; exact ans_row HP.out HE.out HD.out HB.out.size hW3
   clear HP HE HD
   replace HG := zH (HG.out.below hv)
   replace HB := zH (HB.out.trans ((hv).mono HB.out.size))
   have hH := KX5.below hHeld hv
   go_simp
   rw [<- hW3]
   refine hK.out _ _ hH (fun hHeld => ?_)
   clear hK K hH hW3 hv
   try simp only [Act.put, zA, zB, zC]
   obtain ⟨q4, hq4⟩ := zE (v25.heap.size)
   rw [hq4] at HF0 |-
   clear hq4
   obtain ⟨f3, hf3⟩ := HF0.out
   have HF : Hid (OwnK v26 wr.heap.size 2 (.slice (some ⟨q4, 0, none⟩) 4 4) (It.kids ks[k]) f3) := hf3
   clear HF0 hf3
   refine zT 15 34 ?_ rfl (by rfl) ?_ hHeld ?_
   rotate_left
   ·intro W hSw
    go_simp
    try with_reducible rfl
   try simp only [Act.put, zA, zB, zC]
   refine wpAnyH_ready (rs := [16]) (by kernel_rfl) (by simp) ?_
   refine AllReadyH.cons (o := ⟨some 35, _, _, _, _, _⟩) rfl (fun K hK => ?_) AllReadyH.nil
   have hH := KX5.below hHeld ((Below.refl v26.heap.size v26).alloc (Nat.le_refl _) (Obj.cells #[.int .i64 48, .string ⟨#[]⟩, .slice (some ⟨q4, 0, none⟩) 4 4] 67))
   have HGn : Hid (Blk3 (v26.alloc (Obj.cells #[.int .i64 48, .string ⟨#[]⟩, .slice (some ⟨q4, 0, none⟩) 4 4] 67)) (w.heap.size + 1 + 1) (.int .i64 48) (.string ⟨#[]⟩) kv) := HG.out.below ((Below.refl _ _).alloc (Nat.le_refl _) _)
   clear HG
   have HG := HGn
   clear HGn
   go_simp
   refine hK.out _ _ hH (fun hHeld => ?_)
   clear hK K hH
   try simp only [Act.put, zA, zB, zC]
   refine wpAnyH_ready (rs := [17]) (by kernel_rfl) (by simp) ?_
   refine AllReadyH.cons (o := ⟨some 36, _, _, _, _, _⟩) rfl (fun K hK => ?_) AllReadyH.nil
   refine step_append_item0 (o := ⟨some 36, _, _, _, _, _⟩) rfl (.tmp 20) (.tmp 35) rfl (w.heap.size + 3) 2 kv (ks.take k) ks[k] 48 ⟨#[]⟩ (.slice (some ⟨q4, 0, none⟩) 4 4) f3 HT.out.1 HT.out.2.1 (by rfl) v26.heap.size (by rfl) rfl HK.out.2 HB.out HF.out HG1.out (by omega) ?_
   intro g cap w6 hG6 hgrow6
   have hm6 := (HK.out.1.below (HB.out.alloc HB.out.size (Obj.cells #[.int .i64 48, .string ⟨#[]⟩, .slice (some ⟨q4, 0, none⟩) 4 4] 67))).grown hgrow6 (fun q hq => (HK.out.2.lt q hq).1)
   have HY : Hid (Blk w6 wr.heap.size 84 #[.int .i64 x.status, .int .i64 x.why, .slice p1 n1 q1, .slice e1 n2 r1]) := (hgrow6.block _ hHeld.2.lt (fun e => by have := (HK.out.2.lt _ e.symm).2; omega)).trans hHeld.2
   have H6 : Hid (KM5 w w6 #[.string c.hash, .int .i64 c.nonce, .int .i64 c.time, .int .i64 c.next, .int .i64 c.plan, .int .i64 c.err, .slice (some ⟨b, off, none⟩) n pc, .string c.sig] kv /\ GrowK w6 (w.heap.size + 3) 2 (.slice (some ⟨g, 0, none⟩) (k + 1) cap) (ks.take (k + 1)) /\ wr.heap.size < w6.heap.size) := by
    have e := List.take_append_getElem hj1
    rw [htl, e] at hG6
    exact ⟨hm6, hG6, HY.out.lt⟩
   try rw [htl]
   clear hG6 hgrow6 hm6 HG HF HB
   refine hK.out _ _ ⟨⟨kv, H6.out.1⟩, HY.out⟩ (fun hHeld => ?_)
   clear hK K
   try simp only [Act.put, zA, zB, zC]
   refine zT 18 37 ?_ rfl (by rfl) ?_ hHeld ?_
   rotate_left
   ·intro W hSw
    go_simp
    try with_reducible rfl
   try simp only [Act.put, zA, zB, zC]
   refine wpAnyH_ready (rs := [19]) (by kernel_rfl) (by simp) ?_
   refine AllReadyH.cons (o := ⟨none, _, _, _, _, _⟩) rfl (fun K hK => ?_) AllReadyH.nil
   obtain ⟨⟨q0, q1, q2⟩, qf⟩ := cell_in H6.out.1.2.2.2
   have HZ9 : Hid (w.heap.size + 1 + 1 ≠ wr.heap.size) := by have := HG1.out; show w.heap.size + 1 + 1 ≠ wr.heap.size; omega
   go_simp
   refine hK.out _ _ ⟨⟨_, H6.out.1.laid _⟩, HY.out.other (p := ⟨w.heap.size + 1 + 1, 2, none⟩) _ (Ne.symm HZ9.out)⟩ (fun hHeld => ?_)
   clear hK K hHeld q0 q1 q2 qf
   try simp only [Act.put, zA, zB, zC]
   refine wpAnyH_done (by kernel_rfl) ?_ _
   go_wp2_with fail
   refine ⟨⟨k + 1, by omega, by go_num, .slice (some ⟨g, 0, none⟩) (k + 1) cap, H6.out.1.laid _, ?_⟩, by simp [intOf]; omega⟩
   exact H6.out.2.1.out fun b hb => heap_setCell_other _ _ _ _ (by show b ≠ w.heap.size + 1 + 1; omega)
  ·have hlti : ¬ (k : Int) < (n : Int) := by omega
   have HE : Hid (∃ fp, OwnK wr (w.heap.size + 3) 3 kv (c.ans.map ansI) fp) := by
    have h := HK.out.2
    rw [List.take_of_length_le (by have := HK0.out.2; omega), <- HK0.out.1] at h
    exact h.own
   obtain ⟨axe, cape, hkv⟩ := HK.out.2.shape
   obtain ⟨le, hle⟩ := zE ((ks.take k).length)
   rw [hle] at hkv
   subst hkv
   clear hle
   have HM : Hid (KM5 w wr #[.string c.hash, .int .i64 c.nonce, .int .i64 c.time, .int .i64 c.next, .int .i64 c.plan, .int .i64 c.err, .slice pa n pc, .string c.sig] (.slice axe le cape)) := HK.out.1
   clear HK
   go_wp2_with fail
   clear y6
   refine wp_region_held_drew (S := fun W => KM5 w W #[.string c.hash, .int .i64 c.nonce, .int .i64 c.time, .int .i64 c.next, .int .i64 c.plan, .int .i64 c.err, .slice pa n pc, .string c.sig] (.slice axe le cape)) (by kernel_rfl) (KM5.below HM.out ((Below.refl _ _).drew)) (fun hHeld => ?_)
   have HE0 : Hid (∃ fp, OwnK wr.drew (w.heap.size + 3) 3 (.slice axe le cape) (c.ans.map ansI) fp) := by
    obtain ⟨fp, h⟩ := HE.out
    exact ⟨fp, h.below (Below.refl _ _).drew (fun b hb => (OwnK.lt h b hb).2)⟩
   clear HM HE
   generalize wr.drew = Wd0 at hHeld HE0 |-
   refine zT 0 38 ?_ rfl (by rfl) ?_ hHeld ?_
   rotate_left
   ·intro W hSw
    go_simp
    try with_reducible rfl
   try simp only [Act.put, zA, zB, zC]
   refine zT 1 39 ?_ rfl (by rfl) ?_ hHeld ?_
   rotate_left
   ·intro W hSw
    have l0 : W.cell? ⟨w.heap.size, 0, none⟩ = some (.string c.hash) := hSw.2.1.cell 0
    go_simp
    try with_reducible rfl
   try simp only [Act.put, zA, zB, zC]
   refine zT 3 41 ?_ rfl (by rfl) ?_ hHeld ?_
   rotate_left
   ·intro W hSw
    go_simp
    try with_reducible rfl
   try simp only [Act.put, zA, zB, zC]
   refine zT 4 42 ?_ rfl (by rfl) ?_ hHeld ?_
   rotate_left
   ·intro W hSw
    have l0 : W.cell? ⟨w.heap.size, 1, none⟩ = some (.int .i64 c.nonce) := hSw.2.1.cell 1
    go_simp
    try with_reducible rfl
   try simp only [Act.put, zA, zB, zC]
   refine zT 6 44 ?_ rfl (by rfl) ?_ hHeld ?_
   rotate_left
   ·intro W hSw
    go_simp
    try with_reducible rfl
   try simp only [Act.put, zA, zB, zC]
   refine zT 7 45 ?_ rfl (by rfl) ?_ hHeld ?_
   rotate_left
   ·intro W hSw
    have l0 : W.cell? ⟨w.heap.size, 2, none⟩ = some (.int .i64 c.time) := hSw.2.1.cell 2
    go_simp
    try with_reducible rfl
   try simp only [Act.put, zA, zB, zC]
   refine zT 9 47 ?_ rfl (by rfl) ?_ hHeld ?_
   rotate_left
   ·intro W hSw
    go_simp
    try with_reducible rfl
   try simp only [Act.put, zA, zB, zC]
   refine zT 10 48 ?_ rfl (by rfl) ?_ hHeld ?_
   rotate_left
   ·intro W hSw
    have l0 : W.cell? ⟨w.heap.size, 3, none⟩ = some (.int .i64 c.next) := hSw.2.1.cell 3
    go_simp
    try with_reducible rfl
   try simp only [Act.put, zA, zB, zC]
   refine zT 12 50 ?_ rfl (by rfl) ?_ hHeld ?_
   rotate_left
   ·intro W hSw
    go_simp
    try with_reducible rfl
   try simp only [Act.put, zA, zB, zC]
   refine zT 13 51 ?_ rfl (by rfl) ?_ hHeld ?_
   rotate_left
   ·intro W hSw
    have l0 : W.cell? ⟨w.heap.size, 4, none⟩ = some (.int .i64 c.plan) := hSw.2.1.cell 4
    go_simp
    try with_reducible rfl
   try simp only [Act.put, zA, zB, zC]
   refine zT 15 53 ?_ rfl (by rfl) ?_ hHeld ?_
   rotate_left
   ·intro W hSw
    go_simp
    try with_reducible rfl
   try simp only [Act.put, zA, zB, zC]
   refine zT 16 54 ?_ rfl (by rfl) ?_ hHeld ?_
   rotate_left
   ·intro W hSw
    have l0 : W.cell? ⟨w.heap.size, 5, none⟩ = some (.int .i64 c.err) := hSw.2.1.cell 5
    go_simp
    try with_reducible rfl
   try simp only [Act.put, zA, zB, zC]
   refine zT 18 56 ?_ rfl (by rfl) ?_ hHeld ?_
   rotate_left
   ·intro W hSw
    obtain ⟨⟨l0, l1, l2⟩, -⟩ := cell_in hSw.2.2.2
    go_simp
    try with_reducible rfl
   try simp only [Act.put, zA, zB, zC]
   refine wpAnyH_ready (rs := [2]) (by kernel_rfl) (by simp) ?_
   refine AllReadyH.cons (o := ⟨some 40, _, _, _, _, _⟩) rfl (fun K hK => ?_) AllReadyH.nil
   go_simp
   refine (bytes_any c.hash _).mono ?_
   rintro e v1 ⟨rfl, hv⟩
   have hH := KM5.below hHeld hv
   have HE1 : Hid (∃ fp, OwnK v1 (w.heap.size + 3) 3 (.slice axe le cape) (c.ans.map ansI) fp) := by
    obtain ⟨fp, h⟩ := HE0.out
    exact ⟨fp, h.below hv (fun b hb => (OwnK.lt h b hb).2)⟩
   clear HE0
   go_wp2_with fail
   refine hK.out _ _ hH (fun hHeld => ?_)
   clear hK K hH hv
   try simp only [Act.put, zA, zB, zC]
   refine wpAnyH_ready (rs := [5]) (by kernel_rfl) (by simp) ?_
   refine AllReadyH.cons (o := ⟨some 43, _, _, _, _, _⟩) rfl (fun K hK => ?_) AllReadyH.nil
   go_simp
   refine (specIntItem_any c.nonce _ HN.out.1).mono ?_
   rintro e v2 ⟨rfl, hv⟩
   have hH := KM5.below hHeld hv
   have HE2 : Hid (∃ fp, OwnK v2 (w.heap.size + 3) 3 (.slice axe le cape) (c.ans.map ansI) fp) := by
    obtain ⟨fp, h⟩ := HE1.out
    exact ⟨fp, h.below hv (fun b hb => (OwnK.lt h b hb).2)⟩
   clear HE1
   go_wp2_with fail
   refine hK.out _ _ hH (fun hHeld => ?_)
   clear hK K hH hv
   try simp only [Act.put, zA, zB, zC]
   refine wpAnyH_ready (rs := [8]) (by kernel_rfl) (by simp) ?_
   refine AllReadyH.cons (o := ⟨some 46, _, _, _, _, _⟩) rfl (fun K hK => ?_) AllReadyH.nil
   go_simp
   refine (specIntItem_any c.time _ HN.out.2.1).mono ?_
   rintro e v3 ⟨rfl, hv⟩
   have hH := KM5.below hHeld hv
   have HE3 : Hid (∃ fp, OwnK v3 (w.heap.size + 3) 3 (.slice axe le cape) (c.ans.map ansI) fp) := by
    obtain ⟨fp, h⟩ := HE2.out
    exact ⟨fp, h.below hv (fun b hb => (OwnK.lt h b hb).2)⟩
   clear HE2
   go_wp2_with fail
   refine hK.out _ _ hH (fun hHeld => ?_)
   clear hK K hH hv
   try simp only [Act.put, zA, zB, zC]
   refine wpAnyH_ready (rs := [11]) (by kernel_rfl) (by simp) ?_
   refine AllReadyH.cons (o := ⟨some 49, _, _, _, _, _⟩) rfl (fun K hK => ?_) AllReadyH.nil
   go_simp
   refine (specIntItem_any c.next _ HN.out.2.2.1).mono ?_
   rintro e v4 ⟨rfl, hv⟩
   have hH := KM5.below hHeld hv
   have HE4 : Hid (∃ fp, OwnK v4 (w.heap.size + 3) 3 (.slice axe le cape) (c.ans.map ansI) fp) := by
    obtain ⟨fp, h⟩ := HE3.out
    exact ⟨fp, h.below hv (fun b hb => (OwnK.lt h b hb).2)⟩
   clear HE3
   go_wp2_with fail
   refine hK.out _ _ hH (fun hHeld => ?_)
   clear hK K hH hv
   try simp only [Act.put, zA, zB, zC]
   refine wpAnyH_ready (rs := [14]) (by kernel_rfl) (by simp) ?_
   refine AllReadyH.cons (o := ⟨some 52, _, _, _, _, _⟩) rfl (fun K hK => ?_) AllReadyH.nil
   go_simp
   refine (specIntItem_any c.plan _ HN.out.2.2.2.1).mono ?_
   rintro e v5 ⟨rfl, hv⟩
   have hH := KM5.below hHeld hv
   have HE5 : Hid (∃ fp, OwnK v5 (w.heap.size + 3) 3 (.slice axe le cape) (c.ans.map ansI) fp) := by
    obtain ⟨fp, h⟩ := HE4.out
    exact ⟨fp, h.below hv (fun b hb => (OwnK.lt h b hb).2)⟩
   clear HE4
   go_wp2_with fail
   refine hK.out _ _ hH (fun hHeld => ?_)
   clear hK K hH hv
   try simp only [Act.put, zA, zB, zC]
   refine wpAnyH_ready (rs := [17]) (by kernel_rfl) (by simp) ?_
   refine AllReadyH.cons (o := ⟨some 55, _, _, _, _, _⟩) rfl (fun K hK => ?_) AllReadyH.nil
   go_simp
   refine (specIntItem_any c.err _ HN.out.2.2.2.2).mono ?_
   rintro e v6 ⟨rfl, hv⟩
   have hH := KM5.below hHeld hv
   have HE6 : Hid (∃ fp, OwnK v6 (w.heap.size + 3) 3 (.slice axe le cape) (c.ans.map ansI) fp) := by
    obtain ⟨fp, h⟩ := HE5.out
    exact ⟨fp, h.below hv (fun b hb => (OwnK.lt h b hb).2)⟩
   clear HE5
   go_wp2_with fail
   refine hK.out _ _ hH (fun hHeld => ?_)
   clear hK K hH hv
   try simp only [Act.put, zA, zB, zC]
   refine wpAnyH_ready (rs := [19]) (by kernel_rfl) (by simp) ?_
   refine AllReadyH.cons (o := ⟨some 57, _, _, _, _, _⟩) rfl (fun K hK => ?_) AllReadyH.nil
   have HF : Hid (∃ fq, OwnK (v6.alloc (Obj.cells #[.int .i64 4, .string c.hash, .slice none 0 0, .int .i64 2, .string ⟨(intT (numN c.nonce)).toArray⟩, .slice none 0 0, .int .i64 2, .string ⟨(intT (numN c.time)).toArray⟩, .slice none 0 0, .int .i64 2, .string ⟨(intT (numN c.next)).toArray⟩, .slice none 0 0, .int .i64 2, .string ⟨(intT (numN c.plan)).toArray⟩, .slice none 0 0, .int .i64 2, .string ⟨(intT (numN c.err)).toArray⟩, .slice none 0 0, .int .i64 48, .string ⟨#[]⟩, .slice axe le cape] 67)) (w.heap.size + 3) 4 (.slice (some ⟨v6.heap.size, 0, none⟩) 7 7) (It.kids (bodyR c)) fq) := by
    obtain ⟨fp, h⟩ := HE6.out
    exact bodyR_row h (KM5.size hHeld) rfl
   clear HE6
   go_simp
   refine hK.out _ _ (KM5.below hHeld ((Below.refl _ _).alloc (Nat.le_refl _) _)) (fun hHeld => ?_)
   clear hK K
   try simp only [Act.put, zA, zB, zC]
   refine zT 20 58 ?_ rfl (by rfl) ?_ hHeld ?_
   rotate_left
   ·intro W hSw
    go_simp
    try with_reducible rfl
   try simp only [Act.put, zA, zB, zC]
   refine wpAnyH_ready (rs := [21]) (by kernel_rfl) (by simp) ?_
   refine AllReadyH.cons (o := ⟨none, _, _, _, _, _⟩) rfl (fun K hK => ?_) AllReadyH.nil
   obtain ⟨W9, hW9⟩ : ∃ W, W = v6.alloc (Obj.cells #[.int .i64 4, .string c.hash, .slice none 0 0, .int .i64 2, .string ⟨(intT (numN c.nonce)).toArray⟩, .slice none 0 0, .int .i64 2, .string ⟨(intT (numN c.time)).toArray⟩, .slice none 0 0, .int .i64 2, .string ⟨(intT (numN c.next)).toArray⟩, .slice none 0 0, .int .i64 2, .string ⟨(intT (numN c.plan)).toArray⟩, .slice none 0 0, .int .i64 2, .string ⟨(intT (numN c.err)).toArray⟩, .slice none 0 0, .int .i64 48, .string ⟨#[]⟩, .slice axe le cape] 67) := ⟨_, rfl⟩
   obtain ⟨q9, hq9⟩ := zE (v6.heap.size)
   rw [<- hW9] at HF hHeld |-
   rw [hq9] at HF |-
   clear hW9 hq9
   obtain ⟨x9, y9, z9, hB9⟩ := hHeld.2.2.1
   obtain ⟨⟨r0, r1, r2⟩, rf⟩ := cell_in hB9
   go_simp
   refine hK.out _ _ (KM5.set hHeld _ _ _) (fun hHeld => ?_)
   clear hK K
   try simp only [Act.put, zA, zB, zC]
   refine wpAnyH_done (by kernel_rfl) ?_ _
   have HEND : Hid (Below w.heap.size w _) := hHeld.1
   clear hHeld
   go_wp2_with fail
   refine bodyPost_ret (v := .agg #[.int .i64 48, .string ⟨#[]⟩, .slice (some ⟨q9, 0, none⟩) 7 7]) (by simp [results, Try.results64, go_sem, r0, r1, r2]; try rfl) rfl ?_
   obtain ⟨fp, hfp⟩ := HF.out
   refine ⟨.slice (some ⟨q9, 0, none⟩) 7 7, fp, rfl, ?_, HEND.out⟩
   refine OwnK.base (base := w.heap.size + 3) (by omega) (hfp.same fun b hb => ?_)
   have h1 := (OwnK.lt hfp b hb).1
   rw [heap_setCell_other _ _ _ _ (by show b ≠ w.heap.size + 1; omega), heap_setCell_other _ _ _ _ (by show b ≠ w.heap.size + 1; omega), heap_setCell_other _ _ _ _ (by show b ≠ w.heap.size + 1; omega)]
end Go.Proofs.Ytbiiihjohbnodaa
namespace Go.Proofs.Ytbiiihjohbnodaa
open Go.RowKit
set_option linter.unusedVariables false
set_option linter.unusedSimpArgs false
theorem toAnswer_any (c : Aw) (v : Value) (B : Nat) (w : World) (hl : c.path.length <= 1048576 /\ c.lst.length <= 1048576) (hB : B <= w.heap.size) (ha : ArgAw B w v c) :
  Calls Try.prog 74 #[v] w fun e w' => ∃ u, e = .returned u /\ OwnAw w' w.heap.size u c /\ Below w.heap.size w w' := by
 obtain ⟨pa, pc, ea, ec, rfl, h1, h2⟩ := ha
 have HA : Hid (ArgT B w pa c.path /\ ArgT B w ea c.lst /\ c.path.length <= 1048576 /\ c.lst.length <= 1048576) := ⟨h1, h2, hl⟩
 clear h1 h2 hl
 unfold awV
 go_enter Try.func74, Try.ntmps74
 go_wp2_with fail
 obtain ⟨W3, hW3⟩ : ∃ W, W = ((w.alloc (Obj.cells #[.int .i64 c.status, .int .i64 c.why, .slice pa c.path.length pc, .slice ea c.lst.length ec] 96)).alloc (Obj.cells #[.int .i64 0, .int .i64 0, .slice none 0 0, .slice none 0 0] 84)).alloc (Obj.cells #[.int .i64 c.status, .int .i64 c.why, .slice none 0 0, .slice none 0 0] 84) := ⟨_, rfl⟩
 change Calls _ _ _ (((w.alloc (Obj.cells #[.int .i64 c.status, .int .i64 c.why, .slice pa c.path.length pc, .slice ea c.lst.length ec] 96)).alloc (Obj.cells #[.int .i64 0, .int .i64 0, .slice none 0 0, .slice none 0 0] 84)).alloc (Obj.cells #[.int .i64 c.status, .int .i64 c.why, .slice none 0 0, .slice none 0 0] 84)) _
 rw [<- hW3]
 have e0 : (w.alloc (Obj.cells #[.int .i64 c.status, .int .i64 c.why, .slice pa c.path.length pc, .slice ea c.lst.length ec] 96)).heap.size = w.heap.size + 1 := Array.size_push _
 have e1 : ((w.alloc (Obj.cells #[.int .i64 c.status, .int .i64 c.why, .slice pa c.path.length pc, .slice ea c.lst.length ec] 96)).alloc (Obj.cells #[.int .i64 0, .int .i64 0, .slice none 0 0, .slice none 0 0] 84)).heap.size = w.heap.size + 1 + 1 := by rw [size_alloc, e0]
 have G0 : Hid ((Blk W3 w.heap.size 96 #[.int .i64 c.status, .int .i64 c.why, .slice pa c.path.length pc, .slice ea c.lst.length ec] /\ Blk W3 (w.heap.size + 1) 84 #[.int .i64 0, .int .i64 0, .slice none 0 0, .slice none 0 0] /\ Blk W3 (w.heap.size + 1 + 1) 84 #[.int .i64 c.status, .int .i64 c.why, .slice none 0 0, .slice none 0 0] /\ Below w.heap.size w W3) /\ w.heap.size + 1 + 1 + 1 <= W3.heap.size) := by
  rw [hW3]
  refine ⟨⟨((Blk.new w _ _).alloc _).alloc _, ?_, ?_, (((Below.refl _ _).alloc (Nat.le_refl _) _).alloc (by rw [e0]; omega) _).alloc (by rw [e1]; omega) _⟩, by rw [size_alloc, e1]; omega⟩
  ·have h := (Blk.new (w.alloc (Obj.cells #[.int .i64 c.status, .int .i64 c.why, .slice pa c.path.length pc, .slice ea c.lst.length ec] 96)) 84 #[.int .i64 0, .int .i64 0, .slice none 0 0, .slice none 0 0]).alloc (Obj.cells #[.int .i64 c.status, .int .i64 c.why, .slice none 0 0, .slice none 0 0] 84)
   rw [e0] at h
   exact h
  ·have h := Blk.new ((w.alloc (Obj.cells #[.int .i64 c.status, .int .i64 c.why, .slice pa c.path.length pc, .slice ea c.lst.length ec] 96)).alloc (Obj.cells #[.int .i64 0, .int .i64 0, .slice none 0 0, .slice none 0 0] 84)) 84 #[.int .i64 c.status, .int .i64 c.why, .slice none 0 0, .slice none 0 0]
   rw [e1] at h
   exact h
 clear hW3 e0 e1
 have wd1 : w.heap.size ≠ w.heap.size + 1 + 1 := by omega
 have wd2 : w.heap.size + 1 ≠ w.heap.size + 1 + 1 := by omega
 refine (toStringS_any pa c.path c.path.length pc B W3 rfl HA.out.2.2.1 (Nat.le_trans hB G0.out.1.2.2.2.size) (HA.out.1.below (G0.out.1.2.2.2.mono hB))).mono ?_
 rintro r u1 ⟨p, rfl, op, hb⟩
 have F1 : Hid ((Blk u1 w.heap.size 96 #[.int .i64 c.status, .int .i64 c.why, .slice pa c.path.length pc, .slice ea c.lst.length ec] /\ Blk u1 (w.heap.size + 1) 84 #[.int .i64 0, .int .i64 0, .slice none 0 0, .slice none 0 0] /\ Blk u1 (w.heap.size + 1 + 1) 84 #[.int .i64 c.status, .int .i64 c.why, .slice none 0 0, .slice none 0 0] /\ Below w.heap.size w u1) /\ w.heap.size + 1 + 1 + 1 <= u1.heap.size /\ OwnT u1 (w.heap.size + 1 + 1 + 1) p c.path) := by
  have hz := G0.out.2
  exact ⟨⟨G0.out.1.1.below hb (by omega), G0.out.1.2.1.below hb (by omega), G0.out.1.2.2.1.below hb (by omega), G0.out.1.2.2.2.trans (hb.mono G0.out.1.2.2.2.size)⟩, Nat.le_trans hz hb.size, op.base hz⟩
 clear op hb G0
 have fr := fun j => F1.out.1.2.2.1.free j
 obtain ⟨qp, mp, hsp⟩ : ∃ ao cap, p = .slice ao c.path.length cap := by obtain ⟨ao, cap, h, _⟩ := F1.out.2.2.at; exact ⟨ao, cap, h⟩
 obtain ⟨lp, hlp⟩ := zE (c.path.length)
 rw [hlp] at hsp
 clear hlp
 subst hsp
 have ca : u1.cell? ⟨w.heap.size, 3, none⟩ = some (.slice ea c.lst.length ec) := F1.out.1.1.cell 3
 have cg : u1.cell? ⟨w.heap.size + 1 + 1, 2, none⟩ = some (.slice none 0 0) := F1.out.1.2.2.1.cell 2
 go_wp2_with fail
 obtain ⟨V1, hV⟩ : ∃ V, V = u1.setCell ⟨w.heap.size + 1 + 1, 2, none⟩ (.slice qp lp mp) := ⟨_, rfl⟩
 rw [<- hV]
 have G1 : Hid ((Blk V1 w.heap.size 96 #[.int .i64 c.status, .int .i64 c.why, .slice pa c.path.length pc, .slice ea c.lst.length ec] /\ Blk V1 (w.heap.size + 1) 84 #[.int .i64 0, .int .i64 0, .slice none 0 0, .slice none 0 0] /\ Blk V1 (w.heap.size + 1 + 1) 84 #[.int .i64 c.status, .int .i64 c.why, .slice qp lp mp, .slice none 0 0] /\ Below w.heap.size w V1) /\ w.heap.size + 1 + 1 + 1 <= V1.heap.size /\ OwnT V1 (w.heap.size + 1 + 1 + 1) (.slice qp lp mp) c.path) := by
  have hbs : Below (w.heap.size + 1 + 1) u1 V1 := by rw [hV]; exact (Below.refl _ _).setCell (p := ⟨w.heap.size + 1 + 1, 2, none⟩) (Nat.le_refl _) _
  have hot : ∀ b, w.heap.size + 1 + 1 + 1 <= b -> V1.heap[b]? = u1.heap[b]? := fun b hb => by rw [hV]; exact heap_setCell_other _ _ _ _ (by show b ≠ w.heap.size + 1 + 1; omega)
  exact ⟨⟨F1.out.1.1.below hbs (by omega), F1.out.1.2.1.below hbs (by omega), by rw [hV]; exact F1.out.1.2.2.1.set 2 _, F1.out.1.2.2.2.trans (hbs.mono (by omega))⟩, Nat.le_trans F1.out.2.1 hbs.size, F1.out.2.2.block hot⟩
 clear hV F1 fr ca cg
 refine (toStringS_any ea c.lst c.lst.length ec B V1 rfl HA.out.2.2.2 (Nat.le_trans hB G1.out.1.2.2.2.size) (HA.out.2.1.below (G1.out.1.2.2.2.mono hB))).mono ?_
 rintro r u2 ⟨e, rfl, oe, hb⟩
 have F2 : Hid ((Blk u2 w.heap.size 96 #[.int .i64 c.status, .int .i64 c.why, .slice pa c.path.length pc, .slice ea c.lst.length ec] /\ Blk u2 (w.heap.size + 1) 84 #[.int .i64 0, .int .i64 0, .slice none 0 0, .slice none 0 0] /\ Blk u2 (w.heap.size + 1 + 1) 84 #[.int .i64 c.status, .int .i64 c.why, .slice qp lp mp, .slice none 0 0] /\ Below w.heap.size w u2) /\ w.heap.size + 1 + 1 + 1 <= u2.heap.size /\ OwnT u2 (w.heap.size + 1 + 1 + 1) (.slice qp lp mp) c.path /\ OwnT u2 (w.heap.size + 1 + 1 + 1) e c.lst /\ (Ap (.slice qp lp mp) e /\ Ap e (.slice qp lp mp))) := by
  have hz := G1.out.2.1
  exact ⟨⟨G1.out.1.1.below hb (by omega), G1.out.1.2.1.below hb (by omega), G1.out.1.2.2.1.below hb (by omega), G1.out.1.2.2.2.trans (hb.mono G1.out.1.2.2.2.size)⟩, Nat.le_trans hz hb.size, G1.out.2.2.stays hb, oe.base hz, rows_apart G1.out.2.2 oe (Nat.le_refl _)⟩
 clear oe hb G1
 have fr := fun j => F2.out.1.2.2.1.free j
 have f1 := fun j => F2.out.1.2.1.free j
 obtain ⟨qe, me, hse⟩ : ∃ ao cap, e = .slice ao c.lst.length cap := by obtain ⟨ao, cap, h, _⟩ := F2.out.2.2.2.1.at; exact ⟨ao, cap, h⟩
 obtain ⟨le, hle⟩ := zE (c.lst.length)
 rw [hle] at hse
 clear hle
 subst hse
 have c10 : u2.cell? ⟨w.heap.size + 1, 0, none⟩ = some (.int .i64 0) := F2.out.1.2.1.cell 0
 have c20 : u2.cell? ⟨w.heap.size + 1 + 1, 0, none⟩ = some (.int .i64 c.status) := F2.out.1.2.2.1.cell 0
 have c11 : u2.cell? ⟨w.heap.size + 1, 1, none⟩ = some (.int .i64 0) := F2.out.1.2.1.cell 1
 have c21 : u2.cell? ⟨w.heap.size + 1 + 1, 1, none⟩ = some (.int .i64 c.why) := F2.out.1.2.2.1.cell 1
 have c12 : u2.cell? ⟨w.heap.size + 1, 2, none⟩ = some (.slice none 0 0) := F2.out.1.2.1.cell 2
 have c22 : u2.cell? ⟨w.heap.size + 1 + 1, 2, none⟩ = some (.slice qp lp mp) := F2.out.1.2.2.1.cell 2
 have c13 : u2.cell? ⟨w.heap.size + 1, 3, none⟩ = some (.slice none 0 0) := F2.out.1.2.1.cell 3
 have c23 : u2.cell? ⟨w.heap.size + 1 + 1, 3, none⟩ = some (.slice none 0 0) := F2.out.1.2.2.1.cell 3
 go_wp2_with fail
 refine bodyPost_ret (v := awV c (.slice qp lp mp) (.slice qe le me)) (by simp [results, Try.results74, go_sem, awV, c10, c11, c12, c13]) rfl ⟨_, rfl, ⟨_, _, rfl, (F2.out.2.2.1.block ?far).base (by omega), (F2.out.2.2.2.1.block ?far).base (by omega), F2.out.2.2.2.2⟩, ?bel⟩
 case far =>
  intro b hb
  iterate 5 rw [heap_setCell_other _ _ _ _ (by first | (show b ≠ w.heap.size + 1; omega) | (show b ≠ w.heap.size + 1 + 1; omega))]
 case bel =>
  iterate 5 refine Below.setCell ?_ (by first | (show w.heap.size <= w.heap.size + 1; omega) | (show w.heap.size <= w.heap.size + 1 + 1; omega)) _
  exact F2.out.1.2.2.2
theorem szAnswer_any (c : Aw) (v : Value) (left : Int) (w : World) (hwd : WdAw c) (h0 : 0 <= left) (hl : left <= 1048576) (ha : ArgAw w.heap.size w v c) :
  Calls Try.prog 72 #[v, .int .i64 left] w fun e w' => e = .returned (.int .i64 (szAw c left)) /\ Below w.heap.size w w' := by
 obtain ⟨pa, pc, ea, ec, rfl, h1, h2⟩ := ha
 obtain ⟨_, hw1, hw2, hp1, hp2⟩ := hwd
 unfold awV
 obtain ⟨r1, hr1⟩ : ∃ r : Int, r = szT c.path left := ⟨_, rfl⟩
 have Z1 : Hid (∀ W, Below w.heap.size w W -> Calls Try.prog 40 #[.slice pa c.path.length pc, .int .i64 left] W fun e w' => e = .returned (.int .i64 r1) /\ Below W.heap.size W w') := fun W hb => by rw [hr1]; exact szStringS_any pa c.path c.path.length pc w.heap.size left W rfl hp1 hw1 (by omega) (by omega) hb.size (h1.below hb)
 by_cases g1 : r1 < 0
 ·have e1 : r1 = -1 := by unfold szT at hr1; split at hr1 <;> omega
  have HF : Hid (szAw c left = -1) := by
   show szAw c left = -1
   unfold szAw wtAw
   rw [if_neg (by unfold szT at hr1; split at hr1 <;> omega)]
  clear hr1 g1 h1 h2 hw1 hw2 hp1 hp2
  subst e1
  go_enter Try.func72, Try.ntmps72
  go_wp2_with fail
  obtain ⟨V, hV⟩ : ∃ V, V = w.alloc (Obj.cells #[.int .i64 c.status, .int .i64 c.why, .slice pa c.path.length pc, .slice ea c.lst.length ec] 96) := ⟨_, rfl⟩
  rw [<- hV]
  have G : Hid (Below w.heap.size w V) := by rw [hV]; exact (Below.refl _ _).alloc (Nat.le_refl _) _
  clear hV
  refine (Z1.out V G.out).mono ?_
  rintro e V2 ⟨rfl, hb⟩
  have G2 : Hid (Below w.heap.size w V2) := G.out.trans (hb.mono G.out.size)
  clear hb G
  go_wp2_with fail
  go_ret
  exact ⟨by rw [HF.out]; rfl, G2.out⟩
 ·have e1 : r1 = left - (totT c.path : Int) /\ (totT c.path : Int) <= left := by unfold szT at hr1; split at hr1 <;> omega
  obtain ⟨r2, hr2⟩ : ∃ r : Int, r = szT c.lst r1 := ⟨_, rfl⟩
  have Z2 : Hid (∀ W, Below w.heap.size w W -> Calls Try.prog 40 #[.slice ea c.lst.length ec, .int .i64 r1] W fun e w' => e = .returned (.int .i64 r2) /\ Below W.heap.size W w') := fun W hb => by rw [hr2]; exact szStringS_any ea c.lst c.lst.length ec w.heap.size r1 W rfl hp2 hw2 (by omega) (by omega) hb.size (h2.below hb)
  have HF : Hid (szAw c left = r2) := by
   show szAw c left = r2
   rw [hr2]
   unfold szAw wtAw szT
   by_cases q : ((totT c.path + totT c.lst : Nat) : Int) <= left
   ·rw [if_pos q, if_pos (by omega)]; omega
   ·rw [if_neg q, if_neg (by omega)]
  have g2 : r2 < 0 -> r2 = -1 := by unfold szT at hr2; split at hr2 <;> omega
  clear hr1 hr2 h1 h2 hw1 hw2 hp1 hp2 e1
  go_enter Try.func72, Try.ntmps72
  go_wp2_with fail
  obtain ⟨V, hV⟩ : ∃ V, V = w.alloc (Obj.cells #[.int .i64 c.status, .int .i64 c.why, .slice pa c.path.length pc, .slice ea c.lst.length ec] 96) := ⟨_, rfl⟩
  rw [<- hV]
  have G : Hid (Below w.heap.size w V /\ Blk V w.heap.size 96 #[.int .i64 c.status, .int .i64 c.why, .slice pa c.path.length pc, .slice ea c.lst.length ec]) := by rw [hV]; exact ⟨(Below.refl _ _).alloc (Nat.le_refl _) _, Blk.new w _ _⟩
  clear hV
  refine (Z1.out V G.out.1).mono ?_
  rintro e V2 ⟨rfl, hb⟩
  have G2 : Hid (Below w.heap.size w V2 /\ Blk V2 w.heap.size 96 #[.int .i64 c.status, .int .i64 c.why, .slice pa c.path.length pc, .slice ea c.lst.length ec]) := ⟨G.out.1.trans (hb.mono G.out.1.size), G.out.2.below hb G.out.2.lt⟩
  clear hb G
  have c3 : V2.cell? ⟨w.heap.size, 3, none⟩ = some (.slice ea c.lst.length ec) := G2.out.2.cell 3
  go_wp2_with fail
  refine (Z2.out V2 G2.out.1).mono ?_
  rintro e V3 ⟨rfl, hb⟩
  have G3 : Hid (Below w.heap.size w V3) := G2.out.1.trans (hb.mono G2.out.1.size)
  clear hb G2 c3
  by_cases q2 : r2 < 0
  ·obtain rfl := g2 q2
   go_wp2_with fail
   go_ret
   exact ⟨by rw [HF.out]; rfl, G3.out⟩
  ·go_wp2_with fail
   go_ret
   exact ⟨by rw [HF.out]; rfl, G3.out⟩
theorem eqAnswer_same (c : Aw) (a b : Value) (w : World) (hl : c.path.length <= 1000000000 /\ c.lst.length <= 1000000000) (ha : AwAt w a c) (hb : AwAt w b c) :
  Calls Try.prog 77 #[a, b] w fun e w' => e = .returned (.bool true) /\ Below w.heap.size w w' := by
 obtain ⟨pv, ev, rfl, h1, h2⟩ := ha
 obtain ⟨pu, eu, rfl, k1, k2⟩ := hb
 have HQ : Hid (∀ W, Below w.heap.size w W -> Calls Try.prog 46 #[pv, pu] W (fun e w' => e = .returned (.bool true) /\ Below W.heap.size W w')) := fun W hb => eqT_same pv pu c.path W hl.1 (h1.below hb) (k1.below hb)
 have HQ2 : Hid (∀ W, Below w.heap.size w W -> Calls Try.prog 46 #[ev, eu] W (fun e w' => e = .returned (.bool true) /\ Below W.heap.size W w')) := fun W hb => eqT_same ev eu c.lst W hl.2 (h2.below hb) (k2.below hb)
 obtain ⟨lp, hlp⟩ := zE (c.path.length)
 obtain ⟨le, hle⟩ := zE (c.lst.length)
 obtain ⟨pa, pc, hpa, _⟩ := h1
 obtain ⟨pb, qc, hpb, _⟩ := k1
 obtain ⟨ea, ec, hea, _⟩ := h2
 obtain ⟨eb, fc, heb, _⟩ := k2
 rw [hlp] at hpa hpb
 rw [hle] at hea heb
 subst hpa hpb hea heb
 clear hlp hle hl
 unfold awV
 go_enter Try.func77, Try.ntmps77
 go_wp2_with fail
 obtain ⟨V1, hV⟩ : ∃ V, V = (w.alloc (Obj.cells #[.int .i64 c.status, .int .i64 c.why, .slice pa lp pc, .slice ea le ec] 84)).alloc (Obj.cells #[.int .i64 c.status, .int .i64 c.why, .slice pb lp qc, .slice eb le fc] 84) := ⟨_, rfl⟩
 rw [<- hV]
 have G1 : Hid (Blk V1 w.heap.size 84 #[.int .i64 c.status, .int .i64 c.why, .slice pa lp pc, .slice ea le ec] /\ Blk V1 (w.heap.size + 1) 84 #[.int .i64 c.status, .int .i64 c.why, .slice pb lp qc, .slice eb le fc] /\ Below w.heap.size w V1 /\ w.heap.size + 1 < V1.heap.size) := by
  have e0 : (w.alloc (Obj.cells #[.int .i64 c.status, .int .i64 c.why, .slice pa lp pc, .slice ea le ec] 84)).heap.size = w.heap.size + 1 := Array.size_push _
  have h := Blk.new (w.alloc (Obj.cells #[.int .i64 c.status, .int .i64 c.why, .slice pa lp pc, .slice ea le ec] 84)) 84 #[.int .i64 c.status, .int .i64 c.why, .slice pb lp qc, .slice eb le fc]
  rw [e0] at h
  rw [hV]
  exact ⟨(Blk.new w _ _).alloc _, h, ((Below.refl _ _).alloc (Nat.le_refl _) _).alloc (by rw [e0]; omega) _, by rw [size_alloc, e0]; omega⟩
 clear hV
 refine (HQ.out V1 G1.out.2.2.1).mono ?_
 rintro e V2 ⟨rfl, hb⟩
 have G2 : Hid (Blk V2 w.heap.size 84 #[.int .i64 c.status, .int .i64 c.why, .slice pa lp pc, .slice ea le ec] /\ Blk V2 (w.heap.size + 1) 84 #[.int .i64 c.status, .int .i64 c.why, .slice pb lp qc, .slice eb le fc] /\ Below w.heap.size w V2 /\ w.heap.size + 1 < V2.heap.size) := ⟨G1.out.1.below hb (by have := G1.out.2.2.2; omega), G1.out.2.1.below hb G1.out.2.2.2, G1.out.2.2.1.trans (hb.mono G1.out.2.2.1.size), Nat.lt_of_lt_of_le G1.out.2.2.2 hb.size⟩
 clear hb G1
 have ca3 : V2.cell? ⟨w.heap.size, 3, none⟩ = some (.slice ea le ec) := G2.out.1.cell 3
 have cb3 : V2.cell? ⟨w.heap.size + 1, 3, none⟩ = some (.slice eb le fc) := G2.out.2.1.cell 3
 go_wp2_with fail
 clear ca3 cb3
 refine (HQ2.out V2 G2.out.2.2.1).mono ?_
 rintro e V3 ⟨rfl, hb⟩
 have G3 : Hid (Below w.heap.size w V3) := G2.out.2.2.1.trans (hb.mono G2.out.2.2.1.size)
 clear hb G2
 go_wp2_with fail
 go_ret
 exact ⟨rfl, G3.out⟩
theorem toAnswerS_any (v : Value) (l : List Aw) (B : Nat) (w : World) (hl : wtAS l <= 1048576) (hB : B <= w.heap.size) (ha : ArgAS B w v l) :
  Calls Try.prog 37 #[v] w fun e w' => ∃ u fp, e = .returned u /\ OwnS awKd w' w.heap.size u l fp /\ Below w.heap.size w w' := by
 obtain ⟨i0, hi, hz0, hz1, hz2⟩ := info_parts infoAns
 obtain ⟨a0, cap, hv⟩ := ha.shape
 obtain ⟨len, hlen⟩ := zE (l.length)
 rw [hlen] at hv
 subst hv
 have hl20 : len <= 1048576 := by unfold wtAS at hl; omega
 have HA : Hid (ArgAS B w (.slice a0 len cap) l /\ l.length = len /\ wtAS l <= 1048576) := ⟨ha, hlen, hl⟩
 clear ha hlen hl
 go_enter Try.func37, Try.ntmps37
 go_wp2_with (at_make; refine wpList_make_full _ rfl _ _ 42 rfl w.heap.size 84 i0 (.agg #[.int .i64 0, .int .i64 0, .slice none 0 0, .slice none 0 0]) 4 Try.underlying42 hi hz0 hz1 .i64 .i64 _ _ len rfl rfl ?m0 ?m1 ?m2 ?m3 ?m4 ?_)
 case m0 => simp
 case m1 => simp
 case m2 => rw [hz2]; omega
 case m3 => unfold maxLen; omega
 case m4 => exact Nat.le_refl _
 intro w1 hown hgrow
 have HO : Hid (∃ fp, OwnS awKd w1 w.heap.size (.slice (some ⟨w.heap.size, 0, none⟩) len len) (l.take 0 ++ List.replicate (l.length - 0) zeAw) fp /\ Below w.heap.size w w1) := by
  refine ⟨[w.heap.size], ?_, (Below.refl _ _).grown hgrow (Nat.le_refl _) (fun j hj => by cases hj)⟩
  rw [List.take_zero, List.nil_append, Nat.sub_zero, HA.out.2.1]
  exact OwnS.zeros awKd (own_zeAw _ _) rfl (by have h2 : (madeCells zeAwV.cells (len * 4)).toList = cellsV (List.replicate len zeAwV) := made_cellsV zeAwV len (by decide); rw [<- h2]; exact hown)
 clear hown hgrow
 go_wp2_with fail
 go_loopw [4] (fun iv wr => ∃ k : Nat, k <= len /\ iv = .int .i64 k /\ Hid (∃ fp, OwnS awKd wr w.heap.size (.slice (some ⟨w.heap.size, 0, none⟩) len len) (l.take k ++ List.replicate (l.length - k) zeAw) fp /\ Below w.heap.size w wr)) (fun iv _ => len - (intOf iv).toNat)
 case atStart => exact ⟨0, Nat.zero_le _, rfl, HO.out⟩
 case round =>
  obtain ⟨k, hk, rfl, H⟩ := hrel
  clear HO
  by_cases hkn : k < len
  ·have hkl : k < l.length := by rw [HA.out.2.1]; exact hkn
   obtain ⟨b, off, u, hao, hbB, hPu, hus, hcell⟩ := HA.out.1.get hkl
   obtain ⟨ap, aq, ep, eq, hu⟩ := hPu.shape
   subst hao
   obtain ⟨fp, hO, hBl⟩ := H.out
   have HP : Hid (ArgAw w.heap.size wr u l[k]) := (hPu.mono hB).below hBl
   have hcb := fun i x (hx : u.cells[i]? = some x) => (hBl.cell (p := ⟨b, off + k * 4 + i, none⟩) (by show b < w.heap.size; omega)).trans (hcell i x hx)
   obtain ⟨c, hc⟩ := zE (l[k])
   rw [hc] at HP hu
   have HR := toAnswer_any c u w.heap.size wr (by have h1 := wtAS_mem (List.getElem_mem hkl); rw [hc] at h1; exact wtAw_lens (Nat.le_trans h1 HA.out.2.2)) hBl.size HP.out
   subst hu
   have u0 : wr.cell? ⟨b, off + k * 4, none⟩ = some (.int .i64 c.status) := hcb 0 _ rfl
   have u1 : wr.cell? ⟨b, off + k * 4 + 1, none⟩ = some (.int .i64 c.why) := hcb 1 _ rfl
   have u2 : wr.cell? ⟨b, off + k * 4 + 2, none⟩ = some (.slice ap c.path.length aq) := hcb 2 _ rfl
   have u3 : wr.cell? ⟨b, off + k * 4 + 3, none⟩ = some (.slice ep c.lst.length eq) := hcb 3 _ rfl
   have HN : Hid (∀ (w3 : World) (p e : Value), Below wr.heap.size wr w3 -> OwnAw w3 wr.heap.size (awV c p e) c -> ∃ fp, OwnS awKd (w3.setCells w.heap.size (k * 4) [.int .i64 c.status, .int .i64 c.why, p, e]) w.heap.size (.slice (some ⟨w.heap.size, 0, none⟩) len len) (l.take (k + 1) ++ List.replicate (l.length - (k + 1)) zeAw) fp /\ Below w.heap.size w (w3.setCells w.heap.size (k * 4) [.int .i64 c.status, .int .i64 c.why, p, e])) := fun w3 p e hb hop => by
    have h2 := (hO.stays hb).put (j := k) (by rw [fillAw_len (Nat.le_of_lt hkl)]; exact HA.out.2.1.symm) (by rw [fillAw_len (Nat.le_of_lt hkl)]; exact hkl) (hop.base hBl.size) (fun y hy hm => by have h3 := fpAw_lt hop y hy; have h4 := hO.lt y hm; omega)
    obtain ⟨fp', h2, _⟩ := h2
    rw [<- hc, fillAw_set hkl] at h2
    rw [<- hc]
    have e1 : w3.setCells w.heap.size (k * 4) [.int .i64 l[k].status, .int .i64 l[k].why, p, e] = putCells w3 w.heap.size (k * 4) (awV l[k] p e).cells.toList := (putCells_set _ _ _ _).symm
    rw [e1]
    refine ⟨fp', h2, ?_⟩
    exact (hBl.trans (hb.mono hBl.size)).trans ((putCells_out _ _ _ _).below (fun b hb => by rw [List.mem_singleton.1 hb]; exact Nat.le_refl _) (hBl.trans (hb.mono hBl.size)).size)
   have HC : Hid (∀ w3, Below wr.heap.size wr w3 -> w3.there w.heap.size (k * 4) 4) := fun w3 hb => by
    obtain ⟨⟨u, hu, _, hcs⟩, hfz⟩ := (hO.stays hb).cellsAw (j := k) (by rw [fillAw_len (Nat.le_of_lt hkl)]; exact HA.out.2.1.symm) (by rw [fillAw_len (Nat.le_of_lt hkl)]; exact hkl)
    obtain ⟨p, e, rfl, _⟩ := hu
    intro j hj
    refine ⟨?_, hfz _⟩
    have h4 : j < (awV ((l.take k ++ List.replicate (l.length - k) zeAw)[k]'(by rw [fillAw_len (Nat.le_of_lt hkl)]; exact hkl)) p e).cells.size := hj
    rw [hcs j _ (Array.getElem?_eq_getElem h4)]
    rfl
   clear H hO hBl HP hcb hcell hPu hus hbB hc hkl
   have hki : (k : Int) < (len : Int) := by omega
   have hk0 : (0 : Int) <= (k : Int) := by omega
   unfold awV at HR HN
   go_wp2_with fail
   refine HR.mono ?_
   rintro e w3 ⟨v3, rfl, ⟨p3, e3, rfl, ho3, ho4, hap⟩, hb3⟩
   have hth := HC.out w3 hb3
   have HN3 := HN.out w3 p3 e3 hb3 ⟨p3, e3, rfl, ho3, ho4, hap⟩
   obtain ⟨qa, qc, hq3, -⟩ := ho3.at
   obtain ⟨qe, qf, hq4, -⟩ := ho4.at
   subst hq3 hq4
   clear HN HC hb3 u0 u1 u2 u3 HR ho3 ho4 hap
   have HN : Hid _ := HN3
   clear HN3
   unfold awV
   obtain ⟨VV, hVV⟩ : ∃ V, V = w3.setCells w.heap.size (k * 4) #[.int .i64 c.status, .int .i64 c.why, .slice qa c.path.length qc, .slice qe c.lst.length qf].toList := ⟨_, rfl⟩
   have HNV : Hid (∃ fp, OwnS awKd VV w.heap.size (.slice (some ⟨w.heap.size, 0, none⟩) len len) (l.take (k + 1) ++ List.replicate (l.length - (k + 1)) zeAw) fp /\ Below w.heap.size w VV) := by rw [hVV]; exact HN.out
   clear HN
   go_wp2_with (refine step_storeV rfl 84 _ _ rfl w.heap.size (k * 4) #[.int .i64 c.status, .int .i64 c.why, .slice qa c.path.length qc, .slice qe c.lst.length qf] rfl rfl hth (by kernel_rfl) (by simp [Value.oneCell']) hVV ?_; clear hVV hth)
   go_roundw
   case rel => exact ⟨k + 1, by omega, by go_num, HNV.out⟩
   case measure => simp [intOf]; omega
  ·have hkl : k = len := by omega
   subst hkl
   go_wp2
   go_ret
   obtain ⟨fp, hO, hBl⟩ := H.out
   refine ⟨_, fp, rfl, ?_, hBl⟩
   rw [<- HA.out.2.1, List.take_length, Nat.sub_self, List.replicate_zero, List.append_nil] at hO
   rw [<- HA.out.2.1]
   exact hO
end Go.Proofs.Ytbiiihjohbnodaa
