/-
  A question as an item; the program's askItem.
-/
import Derived.Test.YtbiiihjohbnodaaAkA
import Derived.Test.YtbiiihjohbnodaaAkR
import Derived.Test.YtbiiihjohbnodaaCrO
import Derived.Test.YtbiiihjohbnodaaSzP
import Derived.Deep.RegionHeld3
namespace Go.Proofs.Ytbiiihjohbnodaa
open Go.RowKit Der
set_option linter.unusedVariables false

/-- A question as an item. -/
def askI (c : Ak) : It 3 := lstJ [lstJ (c.tg.map bytJ), intI c.plan, intI c.want, intI c.nonce, intI c.time, flagJ c.cac]
theorem sz_byts {n : Nat} : ∀ l : List ByteArray, l.length + ((l.map (bytJ (n := n))).map (szI (n + 1))).sum = totT l
  | [] => rfl
  | x :: l => by
    have h1 := sz_byts (n := n) l
    have h2 := sz_byt (n := n) x
    simp only [List.map_cons, List.sum_cons, List.length_cons, totT]
    omega
theorem sz_ask {c : Ak} (h : wtAk c ≤ 1048576) : szI 3 (askI c) ≤ 8000000 := by
  unfold wtAk at h
  have a1 : szI 2 (intI c.plan) ≤ 5 := sz_int c.plan
  have a2 : szI 2 (intI c.want) ≤ 5 := sz_int c.want
  have a3 : szI 2 (intI c.nonce) ≤ 5 := sz_int c.nonce
  have a4 : szI 2 (intI c.time) ≤ 5 := sz_int c.time
  have a5 : szI 2 (flagJ c.cac) = 1 := rfl
  have e : c.tg.length + ((c.tg.map bytJ).map (szI 1)).sum = totT c.tg := sz_byts (n := 0) c.tg
  unfold askI
  rw [sz_lst]
  simp only [List.map_cons, List.map_nil, List.sum_cons, List.sum_nil, List.length_cons, List.length_nil]
  rw [sz_lst]
  simp only [List.length_map]
  omega
theorem ask_row {W W' : World} {b : Nat} {c : Ak} {kT : Value} {fT : List Nat} {FL : ByteArray} (hFL : FL = ⟨[if c.cac then 255 else 0].toArray⟩) (hT : OwnK W b 1 kT (It.kids (n := 1) (lstJ (c.tg.map bytJ))) fT) (hb : b ≤ W.heap.size)
    (hW : W' = W.alloc (.cells #[.int .i64 48, .string ⟨#[]⟩, kT, .int .i64 2, .string ⟨(intT (numN c.plan)).toArray⟩, .slice none 0 0, .int .i64 2, .string ⟨(intT (numN c.want)).toArray⟩, .slice none 0 0, .int .i64 2, .string ⟨(intT (numN c.nonce)).toArray⟩, .slice none 0 0, .int .i64 2, .string ⟨(intT (numN c.time)).toArray⟩, .slice none 0 0, .int .i64 1, .string FL, .slice none 0 0] 67)) :
    ∃ fp, OwnK W' b 2 (.slice (some ⟨W.heap.size, 0, none⟩) 6 6) (It.kids (askI c)) fp := by
  subst hFL
  have nn := own_none W b 1
  have R : RowsK W b 1 (It.kids (askI c)) [kT, .slice none 0 0, .slice none 0 0, .slice none 0 0, .slice none 0 0, .slice none 0 0] [fT, [], [], [], [], []] := ⟨hT, nn, nn, nn, nn, nn, trivial⟩
  refine (R.grow (cap := 6) hb (by have := hT.nodup; simpa using this) (by show 6 ≤ 1000; decide) rfl ?_).own
  rw [hW]
  rfl
/-- A question in a variable's block. -/
def KQ (w W : World) (a : Array Value) : Prop := Below w.heap.size w W ∧ Blk W w.heap.size 27 a
theorem KQ.below {w W W' : World} {a : Array Value} (h : KQ w W a) (hb : Below W.heap.size W W') : KQ w W' a := ⟨h.1.trans (hb.mono h.1.size), h.2.below hb h.2.lt⟩
theorem KQ.start {w W : World} {a : Array Value} (hW : W = w.alloc (Obj.cells a 27)) : KQ w W a := by rw [hW]; exact ⟨(Below.refl _ _).alloc (Nat.le_refl _) _, Blk.new w _ _⟩
/-- The same, with a result's cell behind it. -/
def KQ2 (w W : World) (a : Array Value) : Prop := Below w.heap.size w W ∧ Blk W w.heap.size 27 a ∧ ∃ x y z, Blk3 W (w.heap.size + 1) x y z
theorem KQ2.below {w W W' : World} {a : Array Value} (h : KQ2 w W a) (hb : Below W.heap.size W W') : KQ2 w W' a := by
  obtain ⟨h1, h2, x, y, z, h3⟩ := h
  exact ⟨h1.trans (hb.mono h1.size), h2.below hb h2.lt, x, y, z, h3.below hb⟩
theorem KQ2.size {w W : World} {a : Array Value} (h : KQ2 w W a) : w.heap.size + 2 ≤ W.heap.size := by
  obtain ⟨h1, h2, x, y, z, h3⟩ := h
  have := Blk.lt (show Blk W (w.heap.size + 1) 67 #[x, y, z] from h3)
  omega
theorem KQ2.set {w W : World} {a : Array Value} (h : KQ2 w W a) (p q r : Value) : KQ2 w (((W.setCell ⟨w.heap.size + 1, 0, none⟩ p).setCell ⟨w.heap.size + 1, 1, none⟩ q).setCell ⟨w.heap.size + 1, 2, none⟩ r) a := by
  obtain ⟨h1, h2, x, y, z, h3⟩ := h
  have ne : w.heap.size ≠ w.heap.size + 1 := by omega
  refine ⟨((h1.setCell (p := ⟨w.heap.size + 1, 0, none⟩) (by show w.heap.size ≤ w.heap.size + 1; omega) _).setCell (p := ⟨w.heap.size + 1, 1, none⟩) (by show w.heap.size ≤ w.heap.size + 1; omega) _).setCell (p := ⟨w.heap.size + 1, 2, none⟩) (by show w.heap.size ≤ w.heap.size + 1; omega) _, ((h2.other (p := ⟨w.heap.size + 1, 0, none⟩) _ ne).other (p := ⟨w.heap.size + 1, 1, none⟩) _ ne).other (p := ⟨w.heap.size + 1, 2, none⟩) _ ne, p, q, r, ?_⟩
  exact (((show Blk W (w.heap.size + 1) 67 #[x, y, z] from h3).set 0 p).set 1 q).set 2 r
theorem KQ2.start (w : World) (a : Array Value) (x y z : Value) (W : World) (hW : W = (w.alloc (Obj.cells a 27)).alloc (Obj.cells #[x, y, z] 67)) : KQ2 w W a := by
  have e : (w.alloc (Obj.cells a 27)).heap.size = w.heap.size + 1 := size_alloc _ _
  have h := Blk.new (w.alloc (Obj.cells a 27)) 67 #[x, y, z]
  rw [e] at h
  rw [hW]
  exact ⟨((Below.refl _ _).alloc (Nat.le_refl _) _).alloc (by rw [e]; omega) _, (Blk.new w _ _).alloc _, x, y, z, h⟩
theorem flagFK {P : Program} {f : Nat} {a : Array Value} {w : World} {c : Ak} {FL : ByteArray} (E : Calls P f a w fun e w' => e = .returned (.agg #[.int .i64 1, .string ⟨[if c.cac then 255 else 0].toArray⟩, .slice none 0 0]) ∧ Below w.heap.size w w') (h : FL = ⟨[if c.cac then 255 else 0].toArray⟩) :
    Calls P f a w fun e w' => e = .returned (.agg #[.int .i64 1, .string FL, .slice none 0 0]) ∧ Below w.heap.size w w' := by
  rw [h]; exact E
set_option maxHeartbeats 6400000 in
set_option maxRecDepth 100000 in
theorem implAskItem_any (c : Ak) (v : Value) (w : World) (hz : wtAk c ≤ 20000000) (hw : WdAk c) (ha : AkAt w v c) : Calls Try.prog 52 #[v] w fun e w' => ToIt w 2 (askI c) e w' := by
  obtain ⟨pv, rfl, h1⟩ := ha
  obtain ⟨k1, -⟩ := hw
  have w1 := k1 c.plan (by simp)
  have w2 := k1 c.want (by simp)
  have w3 := k1 c.nonce (by simp)
  have w4 := k1 c.time (by simp)
  have HN : Hid ((-9223372036854775808 ≤ c.plan ∧ c.plan ≤ 9223372036854775807) ∧ (-9223372036854775808 ≤ c.want ∧ c.want ≤ 9223372036854775807) ∧ (-9223372036854775808 ≤ c.nonce ∧ c.nonce ≤ 9223372036854775807) ∧ (-9223372036854775808 ≤ c.time ∧ c.time ≤ 9223372036854775807)) := ⟨w1, w2, w3, w4⟩
  have HW : Hid (c.tg.length ≤ 20000000 ∧ (∀ s ∈ c.tg, s.size ≤ 20000000) ∧ WdT c.tg) := ⟨Nat.le_trans (tot_len _) hz, fun s hs => Nat.le_trans (tot_mem _ s hs) hz, fun s hs => Nat.le_trans (Nat.le_trans (tot_mem _ s hs) hz) (by decide)⟩
  clear hz k1 w1 w2 w3 w4
  obtain ⟨pa, pc, hpa⟩ : ∃ ao cap, pv = .slice ao c.tg.length cap := by obtain ⟨ao, cap, h, _⟩ := h1; exact ⟨ao, cap, h⟩
  obtain ⟨lp, hlp⟩ : ∃ l, c.tg.length = l := ⟨_, rfl⟩
  rw [hlp] at hpa
  subst hpa
  clear hlp
  obtain ⟨FL, hFL⟩ : ∃ s : ByteArray, s = ⟨[if c.cac then 255 else 0].toArray⟩ := ⟨_, rfl⟩
  have HFL : Hid (FL = ⟨[if c.cac then 255 else 0].toArray⟩) := hFL
  have HL : Hid (TxtAt w (.slice pa lp pc) c.tg) := h1
  clear hFL h1
  unfold akV
  go_enter Try.func52, Try.ntmps52
  go_wp2_with fail
  obtain ⟨W0, hW0⟩ : ∃ W, W = (w.alloc (Obj.cells #[.slice pa lp pc, .int .i64 c.plan, .int .i64 c.want, .int .i64 c.nonce, .int .i64 c.time, .bool c.cac] 27)).alloc (Obj.cells #[Value.int IntKind.i64 0, Value.string ⟨#[]⟩, Value.slice none 0 0] 67) := ⟨_, rfl⟩
  rw [← hW0]
  have H0 : KQ2 w W0 #[.slice pa lp pc, .int .i64 c.plan, .int .i64 c.want, .int .i64 c.nonce, .int .i64 c.time, .bool c.cac] := KQ2.start w _ _ _ _ W0 hW0
  clear hW0
  refine wp_region_held_drew (S := fun W => KQ2 w W #[.slice pa lp pc, .int .i64 c.plan, .int .i64 c.want, .int .i64 c.nonce, .int .i64 c.time, .bool c.cac]) (by kernel_rfl) (KQ2.below H0 ((Below.refl _ _).drew)) (fun hHeld => ?_)
  clear H0
  generalize W0.drew = Wd0 at hHeld ⊢
  refine wpAnyH_take (i := 0) (oi := ⟨some 3, _, _, _, _, _⟩) (v := ?_) rfl (by kernel_rfl) (by kernel_rfl) (by kernel_rfl) (fun _ _ _ h => h) (Or.inl ⟨by rfl, ?_⟩) hHeld ?_
  rotate_left
  · intro W hSw
    go_simp
    try with_reducible rfl
  try simp only [Act.put, List.setIfInBounds_toArray, List.set_cons_zero, List.set_cons_succ]
  refine wpAnyH_take (i := 1) (oi := ⟨some 4, _, _, _, _, _⟩) (v := ?_) rfl (by kernel_rfl) (by kernel_rfl) (by kernel_rfl) (fun _ _ _ h => h) (Or.inl ⟨by rfl, ?_⟩) hHeld ?_
  rotate_left
  · intro W hSw
    have l0 : W.cell? ⟨w.heap.size, 0, none⟩ = some (.slice pa lp pc) := hSw.2.1.cell 0
    go_simp
    try with_reducible rfl
  try simp only [Act.put, List.setIfInBounds_toArray, List.set_cons_zero, List.set_cons_succ]
  refine wpAnyH_take (i := 3) (oi := ⟨some 6, _, _, _, _, _⟩) (v := ?_) rfl (by kernel_rfl) (by kernel_rfl) (by kernel_rfl) (fun _ _ _ h => h) (Or.inl ⟨by rfl, ?_⟩) hHeld ?_
  rotate_left
  · intro W hSw
    go_simp
    try with_reducible rfl
  try simp only [Act.put, List.setIfInBounds_toArray, List.set_cons_zero, List.set_cons_succ]
  refine wpAnyH_take (i := 4) (oi := ⟨some 7, _, _, _, _, _⟩) (v := ?_) rfl (by kernel_rfl) (by kernel_rfl) (by kernel_rfl) (fun _ _ _ h => h) (Or.inl ⟨by rfl, ?_⟩) hHeld ?_
  rotate_left
  · intro W hSw
    have l0 : W.cell? ⟨w.heap.size, 1, none⟩ = some (.int .i64 c.plan) := hSw.2.1.cell 1
    go_simp
    try with_reducible rfl
  try simp only [Act.put, List.setIfInBounds_toArray, List.set_cons_zero, List.set_cons_succ]
  refine wpAnyH_take (i := 6) (oi := ⟨some 9, _, _, _, _, _⟩) (v := ?_) rfl (by kernel_rfl) (by kernel_rfl) (by kernel_rfl) (fun _ _ _ h => h) (Or.inl ⟨by rfl, ?_⟩) hHeld ?_
  rotate_left
  · intro W hSw
    go_simp
    try with_reducible rfl
  try simp only [Act.put, List.setIfInBounds_toArray, List.set_cons_zero, List.set_cons_succ]
  refine wpAnyH_take (i := 7) (oi := ⟨some 10, _, _, _, _, _⟩) (v := ?_) rfl (by kernel_rfl) (by kernel_rfl) (by kernel_rfl) (fun _ _ _ h => h) (Or.inl ⟨by rfl, ?_⟩) hHeld ?_
  rotate_left
  · intro W hSw
    have l0 : W.cell? ⟨w.heap.size, 2, none⟩ = some (.int .i64 c.want) := hSw.2.1.cell 2
    go_simp
    try with_reducible rfl
  try simp only [Act.put, List.setIfInBounds_toArray, List.set_cons_zero, List.set_cons_succ]
  refine wpAnyH_take (i := 9) (oi := ⟨some 12, _, _, _, _, _⟩) (v := ?_) rfl (by kernel_rfl) (by kernel_rfl) (by kernel_rfl) (fun _ _ _ h => h) (Or.inl ⟨by rfl, ?_⟩) hHeld ?_
  rotate_left
  · intro W hSw
    go_simp
    try with_reducible rfl
  try simp only [Act.put, List.setIfInBounds_toArray, List.set_cons_zero, List.set_cons_succ]
  refine wpAnyH_take (i := 10) (oi := ⟨some 13, _, _, _, _, _⟩) (v := ?_) rfl (by kernel_rfl) (by kernel_rfl) (by kernel_rfl) (fun _ _ _ h => h) (Or.inl ⟨by rfl, ?_⟩) hHeld ?_
  rotate_left
  · intro W hSw
    have l0 : W.cell? ⟨w.heap.size, 3, none⟩ = some (.int .i64 c.nonce) := hSw.2.1.cell 3
    go_simp
    try with_reducible rfl
  try simp only [Act.put, List.setIfInBounds_toArray, List.set_cons_zero, List.set_cons_succ]
  refine wpAnyH_take (i := 12) (oi := ⟨some 15, _, _, _, _, _⟩) (v := ?_) rfl (by kernel_rfl) (by kernel_rfl) (by kernel_rfl) (fun _ _ _ h => h) (Or.inl ⟨by rfl, ?_⟩) hHeld ?_
  rotate_left
  · intro W hSw
    go_simp
    try with_reducible rfl
  try simp only [Act.put, List.setIfInBounds_toArray, List.set_cons_zero, List.set_cons_succ]
  refine wpAnyH_take (i := 13) (oi := ⟨some 16, _, _, _, _, _⟩) (v := ?_) rfl (by kernel_rfl) (by kernel_rfl) (by kernel_rfl) (fun _ _ _ h => h) (Or.inl ⟨by rfl, ?_⟩) hHeld ?_
  rotate_left
  · intro W hSw
    have l0 : W.cell? ⟨w.heap.size, 4, none⟩ = some (.int .i64 c.time) := hSw.2.1.cell 4
    go_simp
    try with_reducible rfl
  try simp only [Act.put, List.setIfInBounds_toArray, List.set_cons_zero, List.set_cons_succ]
  refine wpAnyH_take (i := 15) (oi := ⟨some 18, _, _, _, _, _⟩) (v := ?_) rfl (by kernel_rfl) (by kernel_rfl) (by kernel_rfl) (fun _ _ _ h => h) (Or.inl ⟨by rfl, ?_⟩) hHeld ?_
  rotate_left
  · intro W hSw
    go_simp
    try with_reducible rfl
  try simp only [Act.put, List.setIfInBounds_toArray, List.set_cons_zero, List.set_cons_succ]
  refine wpAnyH_take (i := 16) (oi := ⟨some 19, _, _, _, _, _⟩) (v := ?_) rfl (by kernel_rfl) (by kernel_rfl) (by kernel_rfl) (fun _ _ _ h => h) (Or.inl ⟨by rfl, ?_⟩) hHeld ?_
  rotate_left
  · intro W hSw
    have l0 : W.cell? ⟨w.heap.size, 5, none⟩ = some (.bool c.cac) := hSw.2.1.cell 5
    go_simp
    try with_reducible rfl
  try simp only [Act.put, List.setIfInBounds_toArray, List.set_cons_zero, List.set_cons_succ]
  refine wpAnyH_ready (rs := [2]) (by kernel_rfl) (by simp) ?_
  refine AllReadyH.cons (o := ⟨some 5, _, _, _, _, _⟩) rfl (fun K hK => ?_) AllReadyH.nil
  go_simp
  have hsz : w.heap.size + 2 ≤ _ := KQ2.size hHeld
  refine (rowByt_any 0 c.tg _ _ HW.out.1 HW.out.2.1 (HL.out.below hHeld.1)).mono ?_
  intro e v1 hto
  obtain ⟨aT, lT, cT, fT, rfl, hoT, hv⟩ := to_lst hto
  clear hto
  have hH := KQ2.below hHeld hv
  have HT : Hid (OwnK v1 (w.heap.size + 2) 1 (.slice aT lT cT) (It.kids (n := 1) (lstJ (c.tg.map bytJ))) fT) := OwnK.base hsz hoT
  clear hoT hsz
  go_wp2_with fail
  refine hK.out _ _ hH (fun hHeld => ?_)
  clear hK K hH hv
  try simp only [Act.put, List.setIfInBounds_toArray, List.set_cons_zero, List.set_cons_succ]
  refine wpAnyH_ready (rs := [5]) (by kernel_rfl) (by simp) ?_
  refine AllReadyH.cons (o := ⟨some 8, _, _, _, _, _⟩) rfl (fun K hK => ?_) AllReadyH.nil
  go_simp
  refine (implIntItem_any c.plan _ HN.out.1).mono ?_
  rintro e v2 ⟨rfl, hv⟩
  have hH := KQ2.below hHeld hv
  have HTn : Hid (OwnK v2 _ 1 (.slice aT lT cT) (It.kids (n := 1) (lstJ (c.tg.map bytJ))) fT) := HT.out.below hv (fun b hm => (OwnK.lt HT.out b hm).2)
  clear HT
  have HT := HTn
  clear HTn
  go_wp2_with fail
  refine hK.out _ _ hH (fun hHeld => ?_)
  clear hK K hH hv
  try simp only [Act.put, List.setIfInBounds_toArray, List.set_cons_zero, List.set_cons_succ]
  refine wpAnyH_ready (rs := [8]) (by kernel_rfl) (by simp) ?_
  refine AllReadyH.cons (o := ⟨some 11, _, _, _, _, _⟩) rfl (fun K hK => ?_) AllReadyH.nil
  go_simp
  refine (implIntItem_any c.want _ HN.out.2.1).mono ?_
  rintro e v3 ⟨rfl, hv⟩
  have hH := KQ2.below hHeld hv
  have HTn : Hid (OwnK v3 _ 1 (.slice aT lT cT) (It.kids (n := 1) (lstJ (c.tg.map bytJ))) fT) := HT.out.below hv (fun b hm => (OwnK.lt HT.out b hm).2)
  clear HT
  have HT := HTn
  clear HTn
  go_wp2_with fail
  refine hK.out _ _ hH (fun hHeld => ?_)
  clear hK K hH hv
  try simp only [Act.put, List.setIfInBounds_toArray, List.set_cons_zero, List.set_cons_succ]
  refine wpAnyH_ready (rs := [11]) (by kernel_rfl) (by simp) ?_
  refine AllReadyH.cons (o := ⟨some 14, _, _, _, _, _⟩) rfl (fun K hK => ?_) AllReadyH.nil
  go_simp
  refine (implIntItem_any c.nonce _ HN.out.2.2.1).mono ?_
  rintro e v4 ⟨rfl, hv⟩
  have hH := KQ2.below hHeld hv
  have HTn : Hid (OwnK v4 _ 1 (.slice aT lT cT) (It.kids (n := 1) (lstJ (c.tg.map bytJ))) fT) := HT.out.below hv (fun b hm => (OwnK.lt HT.out b hm).2)
  clear HT
  have HT := HTn
  clear HTn
  go_wp2_with fail
  refine hK.out _ _ hH (fun hHeld => ?_)
  clear hK K hH hv
  try simp only [Act.put, List.setIfInBounds_toArray, List.set_cons_zero, List.set_cons_succ]
  refine wpAnyH_ready (rs := [14]) (by kernel_rfl) (by simp) ?_
  refine AllReadyH.cons (o := ⟨some 17, _, _, _, _, _⟩) rfl (fun K hK => ?_) AllReadyH.nil
  go_simp
  refine (implIntItem_any c.time _ HN.out.2.2.2).mono ?_
  rintro e v5 ⟨rfl, hv⟩
  have hH := KQ2.below hHeld hv
  have HTn : Hid (OwnK v5 _ 1 (.slice aT lT cT) (It.kids (n := 1) (lstJ (c.tg.map bytJ))) fT) := HT.out.below hv (fun b hm => (OwnK.lt HT.out b hm).2)
  clear HT
  have HT := HTn
  clear HTn
  go_wp2_with fail
  refine hK.out _ _ hH (fun hHeld => ?_)
  clear hK K hH hv
  try simp only [Act.put, List.setIfInBounds_toArray, List.set_cons_zero, List.set_cons_succ]
  refine wpAnyH_ready (rs := [17]) (by kernel_rfl) (by simp) ?_
  refine AllReadyH.cons (o := ⟨some 20, _, _, _, _, _⟩) rfl (fun K hK => ?_) AllReadyH.nil
  go_simp
  refine (flagFK (boolItem_any c.cac _) HFL.out).mono ?_
  rintro e v6 ⟨rfl, hv⟩
  have hH := KQ2.below hHeld hv
  have HTn : Hid (OwnK v6 _ 1 (.slice aT lT cT) (It.kids (n := 1) (lstJ (c.tg.map bytJ))) fT) := HT.out.below hv (fun b hm => (OwnK.lt HT.out b hm).2)
  clear HT
  have HT := HTn
  clear HTn
  go_wp2_with fail
  refine hK.out _ _ hH (fun hHeld => ?_)
  clear hK K hH hv
  try simp only [Act.put, List.setIfInBounds_toArray, List.set_cons_zero, List.set_cons_succ]
  refine wpAnyH_ready (rs := [18]) (by kernel_rfl) (by simp) ?_
  refine AllReadyH.cons (o := ⟨some 21, _, _, _, _, _⟩) rfl (fun K hK => ?_) AllReadyH.nil
  obtain ⟨W3, hW3⟩ : ∃ W, W = v6.alloc (Obj.cells #[.int .i64 48, .string ⟨#[]⟩, .slice aT lT cT, .int .i64 2, .string ⟨(intT (numN c.plan)).toArray⟩, .slice none 0 0, .int .i64 2, .string ⟨(intT (numN c.want)).toArray⟩, .slice none 0 0, .int .i64 2, .string ⟨(intT (numN c.nonce)).toArray⟩, .slice none 0 0, .int .i64 2, .string ⟨(intT (numN c.time)).toArray⟩, .slice none 0 0, .int .i64 1, .string FL, .slice none 0 0] 67) := ⟨_, rfl⟩
  have HF : Hid (∃ fp, OwnK W3 (w.heap.size + 2) 2 (.slice (some ⟨v6.heap.size, 0, none⟩) 6 6) (It.kids (askI c)) fp) := ask_row HFL.out HT.out (KQ2.size hHeld) hW3
  have hH : KQ2 w W3 #[.slice pa lp pc, .int .i64 c.plan, .int .i64 c.want, .int .i64 c.nonce, .int .i64 c.time, .bool c.cac] := KQ2.below hHeld (by rw [hW3]; exact (Below.refl _ _).alloc (Nat.le_refl _) _)
  go_simp
  rw [← hW3]
  refine hK.out _ _ hH (fun hHeld => ?_)
  clear hK K hH hW3 HT
  try simp only [Act.put, List.setIfInBounds_toArray, List.set_cons_zero, List.set_cons_succ]
  obtain ⟨q9, hq9⟩ : ∃ q, v6.heap.size = q := ⟨_, rfl⟩
  rw [hq9] at HF ⊢
  clear hq9
  refine wpAnyH_ready (rs := [19]) (by kernel_rfl) (by simp) ?_
  refine AllReadyH.cons (o := ⟨some 22, _, _, _, _, _⟩) rfl (fun K hK => ?_) AllReadyH.nil
  go_simp
  refine (listOf_any (some ⟨q9, 0, none⟩) 6 6 _).mono ?_
  rintro e W9 ⟨rfl, hv⟩
  have hH := KQ2.below hHeld hv
  have HG : Hid (∃ fp, OwnK W9 (w.heap.size + 2) 2 (.slice (some ⟨q9, 0, none⟩) 6 6) (It.kids (askI c)) fp) := by
    obtain ⟨fp, h⟩ := HF.out
    exact ⟨fp, h.below hv (fun b hm => (OwnK.lt h b hm).2)⟩
  clear HF
  go_wp2_with fail
  refine hK.out _ _ hH (fun hHeld => ?_)
  clear hK K hH hv
  try simp only [Act.put, List.setIfInBounds_toArray, List.set_cons_zero, List.set_cons_succ]
  refine wpAnyH_ready (rs := [20]) (by kernel_rfl) (by simp) ?_
  refine AllReadyH.cons (o := ⟨none, _, _, _, _, _⟩) rfl (fun K hK => ?_) AllReadyH.nil
  obtain ⟨x9, y9, z9, hB9⟩ := hHeld.2.2
  obtain ⟨⟨r0, r1, r2⟩, rf⟩ := cell_in hB9
  go_simp
  refine hK.out _ _ (KQ2.set hHeld _ _ _) (fun hHeld => ?_)
  clear hK K
  try simp only [Act.put, List.setIfInBounds_toArray, List.set_cons_zero, List.set_cons_succ]
  refine wpAnyH_done (by kernel_rfl) ?_ _
  have HEND : Hid (Below w.heap.size w _) := hHeld.1
  clear hHeld
  go_wp2_with fail
  refine bodyPost_ret (v := .agg #[.int .i64 48, .string ⟨#[]⟩, .slice (some ⟨q9, 0, none⟩) 6 6]) (by simp [results, Try.results52, go_sem, r0, r1, r2]; try rfl) rfl ?_
  obtain ⟨fp, hfp⟩ := HG.out
  refine ⟨.slice (some ⟨q9, 0, none⟩) 6 6, fp, rfl, ?_, HEND.out⟩
  refine OwnK.base (base := w.heap.size + 2) (by omega) (hfp.same fun b hb => ?_)
  have h1 := (OwnK.lt hfp b hb).1
  rw [heap_setCell_other _ _ _ _ (by show b ≠ w.heap.size + 1; omega), heap_setCell_other _ _ _ _ (by show b ≠ w.heap.size + 1; omega), heap_setCell_other _ _ _ _ (by show b ≠ w.heap.size + 1; omega)]
end Go.Proofs.Ytbiiihjohbnodaa
