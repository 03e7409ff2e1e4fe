/-
  Texts of the proof.
-/
import Derived.Deep.RegionHeld3
import Derived.WalkKit
import Derived.Laws.RangeString
import Derived.Laws.RangeAny
import Derived.Deep.Cut
import Derived.Test.YtlbjhibolcgnoaaGreatDoorSR11
set_option maxRecDepth 100000
set_option maxHeartbeats 25600000
namespace Go.Proofs.YtlbjhibolcgnoaaGreatDoor
open Go.RowKit Der
set_option linter.unusedVariables false
theorem sz_byts {n : Nat} : ∀ l : List ByteArray, l.length + ((l.map (bytJ (n := n))).map (szI (n + 1))).sum = totT l
 | [] => rfl
 | x :: l => by
  have h1 := sz_byts (n := n) l
  have h2 := sz_byt (n := n) x
  simp only [List.map_cons, List.sum_cons, List.length_cons, totT]
  omega
def ansI (x : Aw) : It 3 := lstJ [intI x.status, intI x.why, lstJ (x.path.map bytJ), lstJ (x.lst.map bytJ)]
def bodyR (c : Rp) : It 5 := lstJ [bytJ c.hash, intI c.nonce, intI c.time, intI c.next, intI c.plan, intI c.err, lstJ (c.ans.map ansI)]
theorem sz_ans (x : Aw) : szI 3 (ansI x) <= 14 + wtAw x := by
 have a1 : szI 2 (intI x.status) <= 5 := sz_int x.status
 have a2 : szI 2 (intI x.why) <= 5 := sz_int x.why
 have e1 : x.path.length + ((x.path.map bytJ).map (szI 1)).sum = totT x.path := sz_byts (n := 0) x.path
 have e2 : x.lst.length + ((x.lst.map bytJ).map (szI 1)).sum = totT x.lst := sz_byts (n := 0) x.lst
 unfold ansI wtAw
 rw [sz_lst]
 simp only [List.map_cons, List.map_nil, List.sum_cons, List.sum_nil, List.length_cons, List.length_nil]
 rw [sz_lst, sz_lst]
 simp only [List.length_map]
 omega
theorem sz_anss : ∀ l : List Aw, l.length + ((l.map ansI).map (szI 3)).sum <= 15 * wtAS l
 | [] => by simp
 | x :: l => by
  have h1 := sz_anss l
  have h2 := sz_ans x
  unfold wtAS at h1 |-
  simp only [List.map_cons, List.sum_cons, List.length_cons]
  omega
theorem sz_bodyR {c : Rp} (h : wtR c <= 1048576) : szI 5 (bodyR c) <= 16000000 := by
 unfold wtR at h
 have a1 : szI 4 (intI c.nonce) <= 5 := sz_int c.nonce
 have a2 : szI 4 (intI c.time) <= 5 := sz_int c.time
 have a3 : szI 4 (intI c.next) <= 5 := sz_int c.next
 have a4 : szI 4 (intI c.plan) <= 5 := sz_int c.plan
 have a5 : szI 4 (intI c.err) <= 5 := sz_int c.err
 have a6 : szI 4 (bytJ c.hash) = c.hash.size := sz_byt c.hash
 have e := sz_anss c.ans
 unfold bodyR
 rw [sz_lst]
 simp only [List.map_cons, List.map_nil, List.sum_cons, List.sum_nil, List.length_cons, List.length_nil]
 rw [sz_lst]
 simp only [List.length_map]
 omega
theorem ans_row {W W' : World} {b : Nat} {x : Aw} {kP kE : Value} {fP fE : List Nat} (hP : OwnK W b 1 kP (It.kids (n := 1) (lstJ (x.path.map bytJ))) fP) (hE : OwnK W b 1 kE (It.kids (n := 1) (lstJ (x.lst.map bytJ))) fE) (hd : ∀ g ∈ fP, g ∉ fE) (hb : b <= W.heap.size)
  (hW : W' = W.alloc (.cells #[.int .i64 2, .string ⟨(intT (numN x.status)).toArray⟩, .slice none 0 0, .int .i64 2, .string ⟨(intT (numN x.why)).toArray⟩, .slice none 0 0, .int .i64 48, .string ⟨#[]⟩, kP, .int .i64 48, .string ⟨#[]⟩, kE] 57)) :
  ∃ fp, OwnK W' b 2 (.slice (some ⟨W.heap.size, 0, none⟩) 4 4) (It.kids (ansI x)) fp := by
 have nn := own_none W b 1
 have R : RowsK W b 1 (It.kids (ansI x)) [.slice none 0 0, .slice none 0 0, kP, kE] [[], [], fP, fE] := ⟨nn, nn, hP, hE, trivial⟩
 refine (R.grow (cap := 4) hb ?_ (by show 4 <= 1000; decide) rfl ?_).own
 ·have h1 := hP.nodup
  have h2 := hE.nodup
  have h3 : (fP ++ fE).Nodup := nodup_app h1 h2 fun y q1 q2 => hd y q1 q2
  simpa using h3
 ·rw [hW]
  rfl
theorem bodyR_row {W W' : World} {b : Nat} {c : Rp} {kv : Value} {fp : List Nat} (h : OwnK W b 3 kv (c.ans.map ansI) fp) (hb : b <= W.heap.size)
  (hW : W' = W.alloc (.cells #[.int .i64 4, .string c.hash, .slice none 0 0, .int .i64 2, .string ⟨(intT (numN c.nonce)).toArray⟩, .slice none 0 0, .int .i64 2, .string ⟨(intT (numN c.time)).toArray⟩, .slice none 0 0, .int .i64 2, .string ⟨(intT (numN c.next)).toArray⟩, .slice none 0 0, .int .i64 2, .string ⟨(intT (numN c.plan)).toArray⟩, .slice none 0 0, .int .i64 2, .string ⟨(intT (numN c.err)).toArray⟩, .slice none 0 0, .int .i64 48, .string ⟨#[]⟩, kv] 57)) :
  ∃ fq, OwnK W' b 4 (.slice (some ⟨W.heap.size, 0, none⟩) 7 7) (It.kids (bodyR c)) fq := by
 have nn := own_none W b 3
 have R : RowsK W b 3 (It.kids (bodyR c)) [.slice none 0 0, .slice none 0 0, .slice none 0 0, .slice none 0 0, .slice none 0 0, .slice none 0 0, kv] [[], [], [], [], [], [], fp] := ⟨nn, nn, nn, nn, nn, nn, h, trivial⟩
 refine (R.grow (cap := 7) hb (by have := h.nodup; simpa using this) (by show 7 <= 1000; decide) rfl ?_).own
 rw [hW]
 rfl
end Go.Proofs.YtlbjhibolcgnoaaGreatDoor
namespace Go.Proofs.YtlbjhibolcgnoaaGreatDoor
open Go.RowKit
set_option linter.unusedVariables false
set_option linter.unusedSimpArgs false
theorem AwAt.rows {w : World} {c : Aw} {p e : Value} (h : AwAt w (awV c p e) c) : TxtAt w p c.path /\ TxtAt w e c.lst := by
 obtain ⟨p', e', hv, h1, h2⟩ := h
 unfold awV at hv
 injection hv with hv
 have e2 : p = p' := by have := congrArg (·[2]?) hv; simpa using this
 have e3 : e = e' := by have := congrArg (·[3]?) hv; simpa using this
 rw [e2, e3]
 exact ⟨h1, h2⟩
end Go.Proofs.YtlbjhibolcgnoaaGreatDoor
namespace Go.Proofs.YtlbjhibolcgnoaaGreatDoor
open Go.RowKit Der
set_option linter.unusedVariables false
set_option linter.unusedSimpArgs false
def KV2 (T : TypeId) (w W : World) (a : Array Value) : Prop := Below w.heap.size w W /\ Blk W w.heap.size T a /\ ∃ x y z, Blk3 W (w.heap.size + 1) x y z
theorem KV2.below {T : TypeId} {w W W' : World} {a : Array Value} (h : KV2 T w W a) (hb : Below W.heap.size W W') : KV2 T w W' a := by
 obtain ⟨h1, h2, x, y, z, h3⟩ := h
 exact ⟨h1.trans (hb.mono h1.size), h2.below hb h2.lt, x, y, z, h3.below hb⟩
theorem KV2.size {T : TypeId} {w W : World} {a : Array Value} (h : KV2 T w W a) : w.heap.size + 2 <= W.heap.size := by
 obtain ⟨h1, h2, x, y, z, h3⟩ := h
 have := Blk.lt (show Blk W (w.heap.size + 1) 57 #[x, y, z] from h3)
 omega
theorem KV2.set {T : TypeId} {w W : World} {a : Array Value} (h : KV2 T w W a) (p q r : Value) : KV2 T w (((W.setCell ⟨w.heap.size + 1, 0, none⟩ p).setCell ⟨w.heap.size + 1, 1, none⟩ q).setCell ⟨w.heap.size + 1, 2, none⟩ r) a := by
 obtain ⟨h1, h2, x, y, z, h3⟩ := h
 have ne : w.heap.size ≠ w.heap.size + 1 := by omega
 refine ⟨((h1.setCell (p := ⟨w.heap.size + 1, 0, none⟩) (by show w.heap.size <= w.heap.size + 1; omega) _).setCell (p := ⟨w.heap.size + 1, 1, none⟩) (by show w.heap.size <= w.heap.size + 1; omega) _).setCell (p := ⟨w.heap.size + 1, 2, none⟩) (by show w.heap.size <= w.heap.size + 1; omega) _, ((h2.other (p := ⟨w.heap.size + 1, 0, none⟩) _ ne).other (p := ⟨w.heap.size + 1, 1, none⟩) _ ne).other (p := ⟨w.heap.size + 1, 2, none⟩) _ ne, p, q, r, ?_⟩
 exact (((show Blk W (w.heap.size + 1) 57 #[x, y, z] from h3).set 0 p).set 1 q).set 2 r
theorem KV2.start (T : TypeId) (w : World) (a : Array Value) (x y z : Value) (W : World) (hW : W = (w.alloc (Obj.cells a T)).alloc (Obj.cells #[x, y, z] 57)) : KV2 T w W a := by
 have e : (w.alloc (Obj.cells a T)).heap.size = w.heap.size + 1 := size_alloc _ _
 have h := Blk.new (w.alloc (Obj.cells a T)) 57 #[x, y, z]
 rw [e] at h
 rw [hW]
 exact ⟨((Below.refl _ _).alloc (Nat.le_refl _) _).alloc (by rw [e]; omega) _, (Blk.new w _ _).alloc _, x, y, z, h⟩
theorem to_ans {w w' : World} {x : Aw} {e : Ending} (h : ToIt w 2 (ansI x) e w') : ∃ (a : Option Addr) (l cx : Nat) (fp : List Nat), e = .returned (.agg #[.int .i64 48, .string ⟨#[]⟩, .slice a l cx]) /\ OwnK w' w.heap.size 2 (.slice a l cx) (It.kids (ansI x)) fp /\ Below w.heap.size w w' := by
 obtain ⟨k, fp, rfl, ho, hb⟩ := h
 obtain ⟨a, cx, rfl⟩ := ho.shape
 exact ⟨a, _, cx, fp, rfl, ho, hb⟩
theorem to_anss {w w' : World} {ks : List (It 3)} {e : Ending} (h : ToIt w 3 (lstJ ks) e w') : ∃ (a : Option Addr) (l cx : Nat) (fp : List Nat), e = .returned (.agg #[.int .i64 48, .string ⟨#[]⟩, .slice a l cx]) /\ OwnK w' w.heap.size 3 (.slice a l cx) ks fp /\ Below w.heap.size w w' := by
 obtain ⟨k, fp, rfl, ho, hb⟩ := h
 obtain ⟨a, cx, rfl⟩ := ho.shape
 exact ⟨a, _, cx, fp, rfl, ho, hb⟩
theorem answerItem_any (x : Aw) (v : Value) (w : World) (hz : wtAw x <= 20000000) (hw : Wd [x.status, x.why]) (ha : AwAt w v x) : Calls Tryz.prog 77 #[v] w fun e w' => ToIt w 2 (ansI x) e w' := by
 obtain ⟨p1, q1, e1, r1, hv⟩ := AwAt.shape ha
 subst hv
 have hrows := AwAt.rows ha
 obtain ⟨n1, hn1⟩ := zE (x.path.length)
 obtain ⟨n2, hn2⟩ := zE (x.lst.length)
 have hz1 : totT x.path <= 20000000 /\ totT x.lst <= 20000000 := by unfold wtAw at hz; omega
 have HN : Hid ((-9223372036854775808 <= x.status /\ x.status <= 9223372036854775807) /\ (-9223372036854775808 <= x.why /\ x.why <= 9223372036854775807)) := ⟨hw x.status (by simp), hw x.why (by simp)⟩
 have H1 : Hid (x.path.length <= 20000000 /\ (∀ s ∈ x.path, s.size <= 20000000)) := ⟨Nat.le_trans (tot_len _) hz1.1, fun s hs => Nat.le_trans (tot_mem _ s hs) hz1.1⟩
 have H2 : Hid (x.lst.length <= 20000000 /\ (∀ s ∈ x.lst, s.size <= 20000000)) := ⟨Nat.le_trans (tot_len _) hz1.2, fun s hs => Nat.le_trans (tot_mem _ s hs) hz1.2⟩
 unfold awV
 rw [hn1, hn2] at hrows |-
 have HL : Hid (TxtAt w (.slice p1 n1 q1) x.path /\ TxtAt w (.slice e1 n2 r1) x.lst) := hrows
 clear hrows ha hw hz hz1 hn1 hn2
 go_enter Tryz.func77, Tryz.ntmps77
 go_wp2_with fail
 obtain ⟨W0, hW0⟩ : ∃ W, W = (w.alloc (Obj.cells #[.int .i64 x.status, .int .i64 x.why, .slice p1 n1 q1, .slice e1 n2 r1] 45)).alloc (Obj.cells #[Value.int IntKind.i64 0, Value.string ⟨#[]⟩, Value.slice none 0 0] 57) := ⟨_, rfl⟩
 rw [<- hW0]
 have H0 : KV2 45 w W0 #[.int .i64 x.status, .int .i64 x.why, .slice p1 n1 q1, .slice e1 n2 r1] := KV2.start 45 w _ _ _ _ W0 hW0
 clear hW0
 refine wp_region_held_drew (S := fun W => KV2 45 w W #[.int .i64 x.status, .int .i64 x.why, .slice p1 n1 q1, .slice e1 n2 r1]) (by kernel_rfl) (KV2.below H0 ((Below.refl _ _).drew)) (fun hHeld => ?_)
 clear H0
 generalize W0.drew = Wd0 at hHeld |-
 refine zT 0 3 ?_ rfl (by rfl) ?_ hHeld ?_
 rotate_left
 ·intro W hSw
  go_simp
  try with_reducible rfl
 try simp only [Act.put, zA, zB, zC]
 refine zT 1 4 ?_ rfl (by rfl) ?_ hHeld ?_
 rotate_left
 ·intro W hSw
  have l0 : W.cell? ⟨w.heap.size, 0, none⟩ = some (.int .i64 x.status) := hSw.2.1.cell 0
  go_simp
  try with_reducible rfl
 try simp only [Act.put, zA, zB, zC]
 refine zT 3 6 ?_ rfl (by rfl) ?_ hHeld ?_
 rotate_left
 ·intro W hSw
  go_simp
  try with_reducible rfl
 try simp only [Act.put, zA, zB, zC]
 refine zT 4 7 ?_ rfl (by rfl) ?_ hHeld ?_
 rotate_left
 ·intro W hSw
  have l0 : W.cell? ⟨w.heap.size, 1, none⟩ = some (.int .i64 x.why) := hSw.2.1.cell 1
  go_simp
  try with_reducible rfl
 try simp only [Act.put, zA, zB, zC]
 refine zT 6 9 ?_ rfl (by rfl) ?_ hHeld ?_
 rotate_left
 ·intro W hSw
  go_simp
  try with_reducible rfl
 try simp only [Act.put, zA, zB, zC]
 refine zT 7 10 ?_ rfl (by rfl) ?_ hHeld ?_
 rotate_left
 ·intro W hSw
  have l0 : W.cell? ⟨w.heap.size, 2, none⟩ = some (.slice p1 n1 q1) := hSw.2.1.cell 2
  go_simp
  try with_reducible rfl
 try simp only [Act.put, zA, zB, zC]
 refine zT 9 12 ?_ rfl (by rfl) ?_ hHeld ?_
 rotate_left
 ·intro W hSw
  go_simp
  try with_reducible rfl
 try simp only [Act.put, zA, zB, zC]
 refine zT 10 13 ?_ rfl (by rfl) ?_ hHeld ?_
 rotate_left
 ·intro W hSw
  have l0 : W.cell? ⟨w.heap.size, 3, none⟩ = some (.slice e1 n2 r1) := hSw.2.1.cell 3
  go_simp
  try with_reducible rfl
 try simp only [Act.put, zA, zB, zC]
 refine wpAnyH_ready (rs := [2]) (by kernel_rfl) (by simp) ?_
 refine AllReadyH.cons (o := ⟨some 5, _, _, _, _, _⟩) rfl (fun K hK => ?_) AllReadyH.nil
 go_simp
 refine (implIntItem_any x.status _ HN.out.1).mono ?_
 rintro e v1 ⟨rfl, hv⟩
 have hH := KV2.below hHeld hv
 go_wp2_with fail
 refine hK.out _ _ hH (fun hHeld => ?_)
 clear hK K hH hv
 try simp only [Act.put, zA, zB, zC]
 refine wpAnyH_ready (rs := [5]) (by kernel_rfl) (by simp) ?_
 refine AllReadyH.cons (o := ⟨some 8, _, _, _, _, _⟩) rfl (fun K hK => ?_) AllReadyH.nil
 go_simp
 refine (implIntItem_any x.why _ HN.out.2).mono ?_
 rintro e v2 ⟨rfl, hv⟩
 have hH := KV2.below hHeld hv
 go_wp2_with fail
 refine hK.out _ _ hH (fun hHeld => ?_)
 clear hK K hH hv
 try simp only [Act.put, zA, zB, zC]
 refine wpAnyH_ready (rs := [8]) (by kernel_rfl) (by simp) ?_
 refine AllReadyH.cons (o := ⟨some 11, _, _, _, _, _⟩) rfl (fun K hK => ?_) AllReadyH.nil
 go_simp
 have hsz : w.heap.size + 2 <= _ := KV2.size hHeld
 refine (rowByt_any 0 x.path _ _ H1.out.1 H1.out.2 (HL.out.1.below hHeld.1)).mono ?_
 intro e v3 hto
 obtain ⟨aP, lP, cP, fP, rfl, hoT, hv⟩ := to_lst hto
 clear hto
 have hH := KV2.below hHeld hv
 have HP : Hid (OwnK v3 (w.heap.size + 2) 1 (.slice aP lP cP) (It.kids (n := 1) (lstJ (x.path.map bytJ))) fP) := OwnK.base hsz hoT
 clear hoT hsz
 go_wp2_with fail
 refine hK.out _ _ hH (fun hHeld => ?_)
 clear hK K hH hv
 try simp only [Act.put, zA, zB, zC]
 refine wpAnyH_ready (rs := [11]) (by kernel_rfl) (by simp) ?_
 refine AllReadyH.cons (o := ⟨some 14, _, _, _, _, _⟩) rfl (fun K hK => ?_) AllReadyH.nil
 go_simp
 have hsz : w.heap.size + 2 <= _ := KV2.size hHeld
 refine (rowByt_any 0 x.lst _ _ H2.out.1 H2.out.2 (HL.out.2.below hHeld.1)).mono ?_
 intro e v4 hto
 obtain ⟨aE, lE, cE, fE, rfl, hoT, hv⟩ := to_lst hto
 clear hto
 have hH := KV2.below hHeld hv
 have HPn : Hid (OwnK v4 (w.heap.size + 2) 1 (.slice aP lP cP) (It.kids (n := 1) (lstJ (x.path.map bytJ))) fP) := HP.out.below hv (fun b hm => (OwnK.lt HP.out b hm).2)
 have HD : Hid (∀ g ∈ fP, g ∉ fE) := fun g h1 h2 => by have := (OwnK.lt HP.out g h1).2; have := (OwnK.lt hoT g h2).1; omega
 clear HP
 have HP := HPn
 clear HPn
 have HE : Hid (OwnK v4 (w.heap.size + 2) 1 (.slice aE lE cE) (It.kids (n := 1) (lstJ (x.lst.map bytJ))) fE) := OwnK.base hsz hoT
 clear hoT hsz
 go_wp2_with fail
 refine hK.out _ _ hH (fun hHeld => ?_)
 clear hK K hH hv
 try simp only [Act.put, zA, zB, zC]
 refine wpAnyH_ready (rs := [12]) (by kernel_rfl) (by simp) ?_
 refine AllReadyH.cons (o := ⟨some 15, _, _, _, _, _⟩) rfl (fun K hK => ?_) AllReadyH.nil
 obtain ⟨W3, hW3⟩ : ∃ W, W = v4.alloc (Obj.cells #[.int .i64 2, .string ⟨(intT (numN x.status)).toArray⟩, .slice none 0 0, .int .i64 2, .string ⟨(intT (numN x.why)).toArray⟩, .slice none 0 0, .int .i64 48, .string ⟨#[]⟩, .slice aP lP cP, .int .i64 48, .string ⟨#[]⟩, .slice aE lE cE] 57) := ⟨_, rfl⟩
 have HF : Hid (∃ fp, OwnK W3 (w.heap.size + 2) 2 (.slice (some ⟨v4.heap.size, 0, none⟩) 4 4) (It.kids (ansI x)) fp) := ans_row HP.out HE.out HD.out (by have := KV2.size hHeld; omega) hW3
 have hH : KV2 45 w W3 #[.int .i64 x.status, .int .i64 x.why, .slice p1 n1 q1, .slice e1 n2 r1] := KV2.below hHeld (by rw [hW3]; exact (Below.refl _ _).alloc (Nat.le_refl _) _)
 go_simp
 rw [<- hW3]
 refine hK.out _ _ hH (fun hHeld => ?_)
 clear hK K hH hW3 HP HE HD
 try simp only [Act.put, zA, zB, zC]
 obtain ⟨q9, hq9⟩ := zE (v4.heap.size)
 rw [hq9] at HF |-
 clear hq9
 refine wpAnyH_ready (rs := [13]) (by kernel_rfl) (by simp) ?_
 refine AllReadyH.cons (o := ⟨some 16, _, _, _, _, _⟩) rfl (fun K hK => ?_) AllReadyH.nil
 go_simp
 refine (listOf_any (some ⟨q9, 0, none⟩) 4 4 _).mono ?_
 rintro e W9 ⟨rfl, hv⟩
 have hH := KV2.below hHeld hv
 have HG : Hid (∃ fp, OwnK W9 (w.heap.size + 2) 2 (.slice (some ⟨q9, 0, none⟩) 4 4) (It.kids (ansI x)) fp) := by
  obtain ⟨fp, h⟩ := HF.out
  exact ⟨fp, h.below hv (fun b hm => (OwnK.lt h b hm).2)⟩
 clear HF
 go_wp2_with fail
 refine hK.out _ _ hH (fun hHeld => ?_)
 clear hK K hH hv
 try simp only [Act.put, zA, zB, zC]
 refine wpAnyH_ready (rs := [14]) (by kernel_rfl) (by simp) ?_
 refine AllReadyH.cons (o := ⟨none, _, _, _, _, _⟩) rfl (fun K hK => ?_) AllReadyH.nil
 obtain ⟨x9, y9, z9, hB9⟩ := hHeld.2.2
 obtain ⟨⟨r0, r1, r2⟩, rf⟩ := cell_in hB9
 go_simp
 refine hK.out _ _ (KV2.set hHeld _ _ _) (fun hHeld => ?_)
 clear hK K
 try simp only [Act.put, zA, zB, zC]
 refine wpAnyH_done (by kernel_rfl) ?_ _
 have HEND : Hid (Below w.heap.size w _) := hHeld.1
 clear hHeld
 go_wp2_with fail
 refine bodyPost_ret (v := .agg #[.int .i64 48, .string ⟨#[]⟩, .slice (some ⟨q9, 0, none⟩) 4 4]) (by simp [results, Tryz.results77, go_sem, r0, r1, r2]; try rfl) rfl ?_
 obtain ⟨fp, hfp⟩ := HG.out
 refine ⟨.slice (some ⟨q9, 0, none⟩) 4 4, fp, rfl, ?_, HEND.out⟩
 refine OwnK.base (base := w.heap.size + 2) (by omega) (hfp.same fun b hb => ?_)
 have h1 := (OwnK.lt hfp b hb).1
 rw [heap_setCell_other _ _ _ _ (by show b ≠ w.heap.size + 1; omega), heap_setCell_other _ _ _ _ (by show b ≠ w.heap.size + 1; omega), heap_setCell_other _ _ _ _ (by show b ≠ w.heap.size + 1; omega)]
theorem rowAns_any (ls : List Aw) (v : Value) (w : World) (hz : wtAS ls <= 20000000) (hwd : ∀ x ∈ ls, Wd [x.status, x.why]) (hx : AtS awKd w v ls) :
  Calls Tryz.prog 76 #[v, .func (.func 77) #[] #[]] w fun e w' => ToIt w 3 (lstJ (ls.map ansI)) e w' := by
 obtain ⟨ax, cx, hax0⟩ := hx.shape
 obtain ⟨l, hle⟩ := zE (ls.length)
 rw [hle] at hax0
 subst hax0
 have HX : Hid (AtS awKd w (.slice ax l cx) ls /\ ls.length = l /\ (∀ x ∈ ls, Wd [x.status, x.why]) /\ wtAS ls <= 20000000) := ⟨hx, hle, hwd, hz⟩
 have hlb : l <= 20000000 := by have := wtAS_len ls; omega
 clear hz hle hwd hx
 obtain ⟨ks, hks⟩ : ∃ ks : List (It 3), ls.map ansI = ks := ⟨_, rfl⟩
 rw [hks]
 have HK0 : Hid (ls.map ansI = ks /\ ks.length = l) := ⟨hks, by rw [<- hks, List.length_map]; exact HX.out.2.1⟩
 clear hks
 go_enter Tryz.func76, Tryz.ntmps76
 go_wp2_with fail
 obtain ⟨W3, hW3⟩ : ∃ W, W = w.alloc (Obj.cells #[Value.int IntKind.i64 0, Value.string ⟨#[]⟩, Value.slice none 0 0] 57) := ⟨_, rfl⟩
 rw [<- hW3]
 have H3 : Hid (Below w.heap.size w W3 /\ W3.heap.size = w.heap.size + 1 /\ Blk3 W3 w.heap.size (.int .i64 0) (.string ⟨#[]⟩) (.slice none 0 0)) := by rw [hW3]; exact ⟨(Below.refl _ _).alloc (Nat.le_refl _) _, Array.size_push _, heap_alloc_new w _⟩
 clear hW3
 go_loopw [5, 10] (fun kv iv wr => ∃ k : Nat, k <= l /\ iv = .int .i64 k /\ Hid (Blk3 wr w.heap.size (.int .i64 0) (.string ⟨#[]⟩) (.slice none 0 0) /\ GrowK wr (w.heap.size + 1) 2 kv (ks.take k) /\ Below w.heap.size w wr /\ w.heap.size + 1 <= wr.heap.size)) (fun _ iv _ => l - (intOf iv).toNat)
 case atStart => exact ⟨0, Nat.zero_le _, rfl, H3.out.2.2, GrowK.nil _ _ _, H3.out.1, by rw [H3.out.2.1]; exact Nat.le_refl _⟩
 case round =>
  obtain ⟨k, hk, rfl, HK⟩ := hrel
  clear H3
  obtain ⟨axe, cape, hkv⟩ := HK.out.2.1.shape
  obtain ⟨le, hle⟩ := zE ((ks.take k).length)
  have hlek : le = k := by rw [<- hle, List.length_take]; have := HK0.out.2; omega
  rw [hle, hlek] at hkv
  subst hkv
  clear hle hlek
  by_cases hlt : k < l
  ·have hlti : (k : Int) < (l : Int) := by omega
   have hk0 : (0 : Int) <= (k : Int) := by omega
   have hj0 : k < ls.length := by rw [HX.out.2.1]; exact hlt
   have hj1 : k < ks.length := by rw [HK0.out.2]; exact hlt
   obtain ⟨g1, off, u, hao, hg1, hPu, hus, hcell⟩ := HX.out.1.get hj0
   obtain ⟨p1, q1, e1, r1, hu⟩ := AwAt.shape hPu
   obtain ⟨x, hxx⟩ := zE (ls[k])
   have hkx : ks[k] = ansI x := by
    have h := HK0.out.1
    subst h
    rw [List.getElem_map, hxx]
   rw [hxx] at hu
   have hcb := fun i z (hz : u.cells[i]? = some z) => (HK.out.2.2.1.cell (p := ⟨g1, off + k * 4 + i, none⟩) (by show g1 < w.heap.size; exact hg1)).trans (hcell i z hz)
   have hmem : x ∈ ls := by rw [<- hxx]; exact List.getElem_mem _
   have HXX : Hid (AwAt w u x /\ wtAw x <= 20000000 /\ Wd [x.status, x.why]) := ⟨by rw [<- hxx]; exact hPu, Nat.le_trans (wtAS_mem hmem) HX.out.2.2.2, HX.out.2.2.1 x hmem⟩
   subst hao hu
   have u0 : wr.cell? ⟨g1, off + k * 4, none⟩ = some (.int .i64 x.status) := hcb 0 _ rfl
   have u1 : wr.cell? ⟨g1, off + k * 4 + 1, none⟩ = some (.int .i64 x.why) := hcb 1 _ rfl
   have u2 : wr.cell? ⟨g1, off + k * 4 + 2, none⟩ = some (.slice p1 x.path.length q1) := hcb 2 _ rfl
   have u3 : wr.cell? ⟨g1, off + k * 4 + 3, none⟩ = some (.slice e1 x.lst.length r1) := hcb 3 _ rfl
   have HT : Hid (It.tag ks[k] = 48 /\ (⟨(It.text ks[k]).toArray⟩ : ByteArray) = ⟨#[]⟩ /\ It.kids ks[k] = It.kids (ansI x)) := by
    rw [hkx]
    exact ⟨rfl, rfl, rfl⟩
   have htl : (ks.take k).length = k := by rw [List.length_take]; omega
   clear hcb hcell hPu hus hg1 hkx hmem hxx
   obtain ⟨W1, hW1⟩ : ∃ W, W = wr.alloc (Obj.cells #[.int .i64 x.status, .int .i64 x.why, .slice p1 x.path.length q1, .slice e1 x.lst.length r1] 45) := ⟨_, rfl⟩
   have HB1 : Hid (Below wr.heap.size wr W1 /\ Blk W1 wr.heap.size 45 #[.int .i64 x.status, .int .i64 x.why, .slice p1 x.path.length q1, .slice e1 x.lst.length r1]) := by rw [hW1]; exact ⟨(Below.refl _ _).alloc (Nat.le_refl _) _, Blk.new wr _ _⟩
   go_upto_region 5 with fail
   rw [<- hW1]
   clear hW1 u0 u1 u2 u3
   have d0 : W1.cell? ⟨wr.heap.size, 0, none⟩ = some (.int .i64 x.status) := HB1.out.2.cell 0
   have d1 : W1.cell? ⟨wr.heap.size, 1, none⟩ = some (.int .i64 x.why) := HB1.out.2.cell 1
   have d2 : W1.cell? ⟨wr.heap.size, 2, none⟩ = some (.slice p1 x.path.length q1) := HB1.out.2.cell 2
   have d3 : W1.cell? ⟨wr.heap.size, 3, none⟩ = some (.slice e1 x.lst.length r1) := HB1.out.2.cell 3
   have EA := answerItem_any x _ W1 HXX.out.2.1 HXX.out.2.2 ((HXX.out.1.below HK.out.2.2.1).below HB1.out.1)
   unfold awV at EA
   go_wp2_with fail
   clear d0 d1 d2 d3
   refine EA.mono ?_
   intro e w3 hto
   obtain ⟨a3, l3, x3, f3, rfl, ho3, hb3⟩ := to_ans hto
   clear hto EA
   have H4 : Hid (Below wr.heap.size wr w3 /\ OwnK w3 wr.heap.size 2 (.slice a3 l3 x3) (It.kids ks[k]) f3) := ⟨HB1.out.1.trans (hb3.mono HB1.out.1.size), by rw [HT.out.2.2]; exact OwnK.base HB1.out.1.size ho3⟩
   clear ho3 hb3 HB1 HXX
   go_wp2_with (at_builtin; refine wpList_append_item rfl _ _ rfl (w.heap.size + 1) 2 (.slice axe k cape) (ks.take k) ks[k] 48 ⟨#[]⟩ (.slice a3 l3 x3) f3 HT.out.1 HT.out.2.1 rfl _ rfl (by simp) HK.out.2.1 H4.out.1 H4.out.2 HK.out.2.2.2 (by omega) ?_)
   intro g cap w6 hG6 hgrow6
   have H6 : Hid (Blk3 w6 w.heap.size (.int .i64 0) (.string ⟨#[]⟩) (.slice none 0 0) /\ GrowK w6 (w.heap.size + 1) 2 (.slice (some ⟨g, 0, none⟩) (k + 1) cap) (ks.take (k + 1)) /\ Below w.heap.size w w6 /\ w.heap.size + 1 <= w6.heap.size) := by
    have hb5 := H4.out.1.alloc H4.out.1.size (Obj.cells #[Value.int IntKind.i64 48, Value.string ⟨#[]⟩, Value.slice a3 l3 x3] 57)
    have hbw := HK.out.2.2.1.trans (hb5.mono HK.out.2.2.1.size)
    have e := List.take_append_getElem hj1
    have hkb := HK.out.2.1.lt
    try rw [htl] at hG6
    try rw [e] at hG6
    exact ⟨(HK.out.1.below hb5).grown hgrow6 (fun q => by have := (hkb _ q.symm).1; omega), hG6, hbw.grown hgrow6 hbw.size (fun q hq => by have := (hkb q hq).1; omega), Nat.le_trans HK.out.2.2.2 (Nat.le_trans hb5.size hgrow6.size)⟩
   try rw [htl]
   clear hG6 hgrow6 H4 HK
   go_wp2_with fail
   exact ⟨⟨k + 1, by omega, by go_num, H6⟩, by simp [intOf]; omega⟩
  ·have hlti : ¬ (k : Int) < (l : Int) := by omega
   obtain ⟨⟨r0, r1, r2⟩, rf⟩ := cell_in HK.out.1
   have HE : Hid (∃ fp, OwnK wr (w.heap.size + 1) 3 (.slice axe k cape) ks fp) := by
    have h := HK.out.2.1
    rw [List.take_of_length_le (by have := HK0.out.2; omega)] at h
    exact h.own
   go_wp2_with fail
   refine bodyPost_ret (v := .agg #[.int .i64 48, .string ⟨#[]⟩, .slice axe k cape]) (by simp [results, Tryz.results76, go_sem, r0, r1, r2]; try rfl) rfl ?_
   obtain ⟨fp, hfp⟩ := HE.out
   refine ⟨.slice axe k cape, fp, rfl, ?_, ?_⟩
   ·refine OwnK.base (base := w.heap.size + 1) (by omega) (hfp.same fun b hb => ?_)
    have h1 := (OwnK.lt hfp b hb).1
    rw [heap_setCell_other _ _ _ _ (by show b ≠ w.heap.size; omega), heap_setCell_other _ _ _ _ (by show b ≠ w.heap.size; omega), heap_setCell_other _ _ _ _ (by show b ≠ w.heap.size; omega)]
   ·exact ((HK.out.2.2.1.setCell (p := ⟨w.heap.size, 0, none⟩) (Nat.le_refl _) _).setCell (p := ⟨w.heap.size, 1, none⟩) (Nat.le_refl _) _).setCell (p := ⟨w.heap.size, 2, none⟩) (Nat.le_refl _) _
theorem replyItem_any (c : Rp) (v : Value) (w : World) (hz : wtR c <= 20000000) (hw : WdRp c) (ha : RpAt w v c) : Calls Tryz.prog 42 #[v] w fun e w' => ToIt w 4 (bodyR c) e w' := by
 obtain ⟨pv, rfl, h1⟩ := ha
 obtain ⟨pa, pc, hpa⟩ := h1.shape
 obtain ⟨n, hn⟩ := zE (c.ans.length)
 rw [hn] at hpa
 subst hpa
 have HN : Hid ((-9223372036854775808 <= c.nonce /\ c.nonce <= 9223372036854775807) /\ (-9223372036854775808 <= c.time /\ c.time <= 9223372036854775807) /\ (-9223372036854775808 <= c.next /\ c.next <= 9223372036854775807) /\ (-9223372036854775808 <= c.plan /\ c.plan <= 9223372036854775807) /\ (-9223372036854775808 <= c.err /\ c.err <= 9223372036854775807)) := ⟨hw.1 c.nonce (by simp), hw.1 c.time (by simp), hw.1 c.next (by simp), hw.1 c.plan (by simp), hw.1 c.err (by simp)⟩
 have HW : Hid (wtAS c.ans <= 20000000 /\ (∀ x ∈ c.ans, Wd [x.status, x.why]) /\ c.hash.size <= 20000000) := ⟨wtR_ans hz, fun x hx => (hw.2.2.1 x hx).1, by unfold wtR at hz; omega⟩
 have HL : Hid (AtS awKd w (.slice pa n pc) c.ans) := h1
 clear h1 hw hz hn
 unfold rpV
 go_enter Tryz.func42, Tryz.ntmps42
 go_wp2_with fail
 obtain ⟨W0, hW0⟩ : ∃ W, W = (w.alloc (Obj.cells #[.string c.hash, .int .i64 c.nonce, .int .i64 c.time, .int .i64 c.next, .int .i64 c.plan, .int .i64 c.err, .slice pa n pc, .string c.sig] 28)).alloc (Obj.cells #[Value.int IntKind.i64 0, Value.string ⟨#[]⟩, Value.slice none 0 0] 57) := ⟨_, rfl⟩
 rw [<- hW0]
 have H0 : KV2 28 w W0 #[.string c.hash, .int .i64 c.nonce, .int .i64 c.time, .int .i64 c.next, .int .i64 c.plan, .int .i64 c.err, .slice pa n pc, .string c.sig] := KV2.start 28 w _ _ _ _ W0 hW0
 clear hW0
 refine wp_region_held_drew (S := fun W => KV2 28 w W #[.string c.hash, .int .i64 c.nonce, .int .i64 c.time, .int .i64 c.next, .int .i64 c.plan, .int .i64 c.err, .slice pa n pc, .string c.sig]) (by kernel_rfl) (KV2.below H0 ((Below.refl _ _).drew)) (fun hHeld => ?_)
 clear H0
 generalize W0.drew = Wd0 at hHeld |-
 refine zT 0 3 ?_ rfl (by rfl) ?_ hHeld ?_
 rotate_left
 ·intro W hSw
  go_simp
  try with_reducible rfl
 try simp only [Act.put, zA, zB, zC]
 refine zT 1 4 ?_ rfl (by rfl) ?_ hHeld ?_
 rotate_left
 ·intro W hSw
  have l0 : W.cell? ⟨w.heap.size, 0, none⟩ = some (.string c.hash) := hSw.2.1.cell 0
  go_simp
  try with_reducible rfl
 try simp only [Act.put, zA, zB, zC]
 refine zT 3 6 ?_ rfl (by rfl) ?_ hHeld ?_
 rotate_left
 ·intro W hSw
  go_simp
  try with_reducible rfl
 try simp only [Act.put, zA, zB, zC]
 refine zT 4 7 ?_ rfl (by rfl) ?_ hHeld ?_
 rotate_left
 ·intro W hSw
  have l0 : W.cell? ⟨w.heap.size, 1, none⟩ = some (.int .i64 c.nonce) := hSw.2.1.cell 1
  go_simp
  try with_reducible rfl
 try simp only [Act.put, zA, zB, zC]
 refine zT 6 9 ?_ rfl (by rfl) ?_ hHeld ?_
 rotate_left
 ·intro W hSw
  go_simp
  try with_reducible rfl
 try simp only [Act.put, zA, zB, zC]
 refine zT 7 10 ?_ rfl (by rfl) ?_ hHeld ?_
 rotate_left
 ·intro W hSw
  have l0 : W.cell? ⟨w.heap.size, 2, none⟩ = some (.int .i64 c.time) := hSw.2.1.cell 2
  go_simp
  try with_reducible rfl
 try simp only [Act.put, zA, zB, zC]
 refine zT 9 12 ?_ rfl (by rfl) ?_ hHeld ?_
 rotate_left
 ·intro W hSw
  go_simp
  try with_reducible rfl
 try simp only [Act.put, zA, zB, zC]
 refine zT 10 13 ?_ rfl (by rfl) ?_ hHeld ?_
 rotate_left
 ·intro W hSw
  have l0 : W.cell? ⟨w.heap.size, 3, none⟩ = some (.int .i64 c.next) := hSw.2.1.cell 3
  go_simp
  try with_reducible rfl
 try simp only [Act.put, zA, zB, zC]
 refine zT 12 15 ?_ rfl (by rfl) ?_ hHeld ?_
 rotate_left
 ·intro W hSw
  go_simp
  try with_reducible rfl
 try simp only [Act.put, zA, zB, zC]
 refine zT 13 16 ?_ rfl (by rfl) ?_ hHeld ?_
 rotate_left
 ·intro W hSw
  have l0 : W.cell? ⟨w.heap.size, 4, none⟩ = some (.int .i64 c.plan) := hSw.2.1.cell 4
  go_simp
  try with_reducible rfl
 try simp only [Act.put, zA, zB, zC]
 refine zT 15 18 ?_ rfl (by rfl) ?_ hHeld ?_
 rotate_left
 ·intro W hSw
  go_simp
  try with_reducible rfl
 try simp only [Act.put, zA, zB, zC]
 refine zT 16 19 ?_ rfl (by rfl) ?_ hHeld ?_
 rotate_left
 ·intro W hSw
  have l0 : W.cell? ⟨w.heap.size, 5, none⟩ = some (.int .i64 c.err) := hSw.2.1.cell 5
  go_simp
  try with_reducible rfl
 try simp only [Act.put, zA, zB, zC]
 refine zT 18 21 ?_ rfl (by rfl) ?_ hHeld ?_
 rotate_left
 ·intro W hSw
  go_simp
  try with_reducible rfl
 try simp only [Act.put, zA, zB, zC]
 refine zT 19 22 ?_ rfl (by rfl) ?_ hHeld ?_
 rotate_left
 ·intro W hSw
  have l0 : W.cell? ⟨w.heap.size, 6, none⟩ = some (.slice pa n pc) := hSw.2.1.cell 6
  go_simp
  try with_reducible rfl
 try simp only [Act.put, zA, zB, zC]
 refine wpAnyH_ready (rs := [2]) (by kernel_rfl) (by simp) ?_
 refine AllReadyH.cons (o := ⟨some 5, _, _, _, _, _⟩) rfl (fun K hK => ?_) AllReadyH.nil
 go_simp
 refine (bytesItem_any c.hash _ HW.out.2.2).mono ?_
 rintro e v1 ⟨rfl, hv⟩
 have hH := KV2.below hHeld hv
 go_wp2_with fail
 refine hK.out _ _ hH (fun hHeld => ?_)
 clear hK K hH hv
 try simp only [Act.put, zA, zB, zC]
 refine wpAnyH_ready (rs := [5]) (by kernel_rfl) (by simp) ?_
 refine AllReadyH.cons (o := ⟨some 8, _, _, _, _, _⟩) rfl (fun K hK => ?_) AllReadyH.nil
 go_simp
 refine (implIntItem_any c.nonce _ HN.out.1).mono ?_
 rintro e v2 ⟨rfl, hv⟩
 have hH := KV2.below hHeld hv
 go_wp2_with fail
 refine hK.out _ _ hH (fun hHeld => ?_)
 clear hK K hH hv
 try simp only [Act.put, zA, zB, zC]
 refine wpAnyH_ready (rs := [8]) (by kernel_rfl) (by simp) ?_
 refine AllReadyH.cons (o := ⟨some 11, _, _, _, _, _⟩) rfl (fun K hK => ?_) AllReadyH.nil
 go_simp
 refine (implIntItem_any c.time _ HN.out.2.1).mono ?_
 rintro e v3 ⟨rfl, hv⟩
 have hH := KV2.below hHeld hv
 go_wp2_with fail
 refine hK.out _ _ hH (fun hHeld => ?_)
 clear hK K hH hv
 try simp only [Act.put, zA, zB, zC]
 refine wpAnyH_ready (rs := [11]) (by kernel_rfl) (by simp) ?_
 refine AllReadyH.cons (o := ⟨some 14, _, _, _, _, _⟩) rfl (fun K hK => ?_) AllReadyH.nil
 go_simp
 refine (implIntItem_any c.next _ HN.out.2.2.1).mono ?_
 rintro e v4 ⟨rfl, hv⟩
 have hH := KV2.below hHeld hv
 go_wp2_with fail
 refine hK.out _ _ hH (fun hHeld => ?_)
 clear hK K hH hv
 try simp only [Act.put, zA, zB, zC]
 refine wpAnyH_ready (rs := [14]) (by kernel_rfl) (by simp) ?_
 refine AllReadyH.cons (o := ⟨some 17, _, _, _, _, _⟩) rfl (fun K hK => ?_) AllReadyH.nil
 go_simp
 refine (implIntItem_any c.plan _ HN.out.2.2.2.1).mono ?_
 rintro e v5 ⟨rfl, hv⟩
 have hH := KV2.below hHeld hv
 go_wp2_with fail
 refine hK.out _ _ hH (fun hHeld => ?_)
 clear hK K hH hv
 try simp only [Act.put, zA, zB, zC]
 refine wpAnyH_ready (rs := [17]) (by kernel_rfl) (by simp) ?_
 refine AllReadyH.cons (o := ⟨some 20, _, _, _, _, _⟩) rfl (fun K hK => ?_) AllReadyH.nil
 go_simp
 refine (implIntItem_any c.err _ HN.out.2.2.2.2).mono ?_
 rintro e v6 ⟨rfl, hv⟩
 have hH := KV2.below hHeld hv
 go_wp2_with fail
 refine hK.out _ _ hH (fun hHeld => ?_)
 clear hK K hH hv
 try simp only [Act.put, zA, zB, zC]
 refine wpAnyH_ready (rs := [20]) (by kernel_rfl) (by simp) ?_
 refine AllReadyH.cons (o := ⟨some 23, _, _, _, _, _⟩) rfl (fun K hK => ?_) AllReadyH.nil
 go_simp
 have hsz : w.heap.size + 2 <= _ := KV2.size hHeld
 refine (rowAns_any c.ans _ _ HW.out.1 HW.out.2.1 (HL.out.below hHeld.1)).mono ?_
 intro e v7 hto
 obtain ⟨aK, lK, cK, fK, rfl, hoT, hv⟩ := to_anss hto
 clear hto
 have hH := KV2.below hHeld hv
 have HP : Hid (OwnK v7 (w.heap.size + 2) 3 (.slice aK lK cK) (c.ans.map ansI) fK) := OwnK.base hsz hoT
 clear hoT hsz
 go_wp2_with fail
 refine hK.out _ _ hH (fun hHeld => ?_)
 clear hK K hH hv
 try simp only [Act.put, zA, zB, zC]
 refine wpAnyH_ready (rs := [21]) (by kernel_rfl) (by simp) ?_
 refine AllReadyH.cons (o := ⟨some 24, _, _, _, _, _⟩) rfl (fun K hK => ?_) AllReadyH.nil
 obtain ⟨W3, hW3⟩ : ∃ W, W = v7.alloc (Obj.cells #[.int .i64 4, .string c.hash, .slice none 0 0, .int .i64 2, .string ⟨(intT (numN c.nonce)).toArray⟩, .slice none 0 0, .int .i64 2, .string ⟨(intT (numN c.time)).toArray⟩, .slice none 0 0, .int .i64 2, .string ⟨(intT (numN c.next)).toArray⟩, .slice none 0 0, .int .i64 2, .string ⟨(intT (numN c.plan)).toArray⟩, .slice none 0 0, .int .i64 2, .string ⟨(intT (numN c.err)).toArray⟩, .slice none 0 0, .int .i64 48, .string ⟨#[]⟩, .slice aK lK cK] 57) := ⟨_, rfl⟩
 have HF : Hid (∃ fp, OwnK W3 (w.heap.size + 2) 4 (.slice (some ⟨v7.heap.size, 0, none⟩) 7 7) (It.kids (bodyR c)) fp) := bodyR_row HP.out (by have := KV2.size hHeld; omega) hW3
 have hH : KV2 28 w W3 #[.string c.hash, .int .i64 c.nonce, .int .i64 c.time, .int .i64 c.next, .int .i64 c.plan, .int .i64 c.err, .slice pa n pc, .string c.sig] := KV2.below hHeld (by rw [hW3]; exact (Below.refl _ _).alloc (Nat.le_refl _) _)
 go_simp
 rw [<- hW3]
 refine hK.out _ _ hH (fun hHeld => ?_)
 clear hK K hH hW3 HP
 try simp only [Act.put, zA, zB, zC]
 obtain ⟨q9, hq9⟩ := zE (v7.heap.size)
 rw [hq9] at HF |-
 clear hq9
 refine wpAnyH_ready (rs := [22]) (by kernel_rfl) (by simp) ?_
 refine AllReadyH.cons (o := ⟨some 25, _, _, _, _, _⟩) rfl (fun K hK => ?_) AllReadyH.nil
 go_simp
 refine (listOf_any (some ⟨q9, 0, none⟩) 7 7 _).mono ?_
 rintro e W9 ⟨rfl, hv⟩
 have hH := KV2.below hHeld hv
 have HG : Hid (∃ fp, OwnK W9 (w.heap.size + 2) 4 (.slice (some ⟨q9, 0, none⟩) 7 7) (It.kids (bodyR c)) fp) := by
  obtain ⟨fp, h⟩ := HF.out
  exact ⟨fp, h.below hv (fun b hm => (OwnK.lt h b hm).2)⟩
 clear HF
 go_wp2_with fail
 refine hK.out _ _ hH (fun hHeld => ?_)
 clear hK K hH hv
 try simp only [Act.put, zA, zB, zC]
 refine wpAnyH_ready (rs := [23]) (by kernel_rfl) (by simp) ?_
 refine AllReadyH.cons (o := ⟨none, _, _, _, _, _⟩) rfl (fun K hK => ?_) AllReadyH.nil
 obtain ⟨x9, y9, z9, hB9⟩ := hHeld.2.2
 obtain ⟨⟨r0, r1, r2⟩, rf⟩ := cell_in hB9
 go_simp
 refine hK.out _ _ (KV2.set hHeld _ _ _) (fun hHeld => ?_)
 clear hK K
 try simp only [Act.put, zA, zB, zC]
 refine wpAnyH_done (by kernel_rfl) ?_ _
 have HEND : Hid (Below w.heap.size w _) := hHeld.1
 clear hHeld
 go_wp2_with fail
 refine bodyPost_ret (v := .agg #[.int .i64 48, .string ⟨#[]⟩, .slice (some ⟨q9, 0, none⟩) 7 7]) (by simp [results, Tryz.results42, go_sem, r0, r1, r2]; try rfl) rfl ?_
 obtain ⟨fp, hfp⟩ := HG.out
 refine ⟨.slice (some ⟨q9, 0, none⟩) 7 7, fp, rfl, ?_, HEND.out⟩
 refine OwnK.base (base := w.heap.size + 2) (by omega) (hfp.same fun b hb => ?_)
 have h1 := (OwnK.lt hfp b hb).1
 rw [heap_setCell_other _ _ _ _ (by show b ≠ w.heap.size + 1; omega), heap_setCell_other _ _ _ _ (by show b ≠ w.heap.size + 1; omega), heap_setCell_other _ _ _ _ (by show b ≠ w.heap.size + 1; omega)]
end Go.Proofs.YtlbjhibolcgnoaaGreatDoor
