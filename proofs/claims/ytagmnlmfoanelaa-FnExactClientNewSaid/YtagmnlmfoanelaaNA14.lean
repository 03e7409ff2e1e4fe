/-
  Texts of the proof.
-/
import Derived.Test.YtagmnlmfoanelaaNA13
set_option maxRecDepth 100000
set_option maxHeartbeats 25600000
namespace Go.Proofs.Ytagmnlmfoanelaa
open Go.RowKit
set_option linter.unusedVariables false
set_option linter.unusedSimpArgs false
def pcn1 (k : Nat) (s : Cn) : Nat := posG szMWa k s.waits s.waits.length
def pcn2 (k : Nat) (s : Cn) : Nat := posG szGM (pcn1 k s) s.gots s.gots.length
def pcn3 (k : Nat) (s : Cn) : Nat := (pcn2 k s) + s.late.length
def mkCn (k : Nat) (s : Cn) : Cn := { s with waits := mkG mkWa szMWa k s.waits, gots := mkG mkGt szGM (pcn1 k s) s.gots, late := mkI (pcn2 k s) s.late }
def LmCn (s : Cn) : Prop := (s.waits.length <= 1048577) /\ (wtGtS s.gots <= 1048577) /\ (s.late.length <= 1048577)
theorem pcn_le {k : Nat} {s : Cn} (hl : LmCn s) (hk : 1 <= k) : (1 <= pcn1 k s /\ pcn1 k s <= k + 4194308) /\ (1 <= pcn2 k s /\ pcn2 k s <= k + 14680078) /\ (1 <= pcn3 k s /\ pcn3 k s <= k + 15728655) := by
 have b0 : 1 <= pcn1 k s /\ pcn1 k s <= k + 4194308 := by
  have g1 : k <= pcn1 k s := Nat.le_add_right _ _
  have g2 : pcn1 k s <= k + (s.waits.map szMWa).sum := posG_le szMWa k s.waits s.waits.length
  have g3 := sum_szMWa s.waits
  have g4 : s.waits.length <= 1048577 := hl.1
  have g5 : 1 <= k := hk
  omega
 have b1 : 1 <= pcn2 k s /\ pcn2 k s <= (pcn1 k s) + 10485770 := by
  have g1 : (pcn1 k s) <= pcn2 k s := Nat.le_add_right _ _
  have g2 : pcn2 k s <= (pcn1 k s) + (s.gots.map szGM).sum := posG_le szGM (pcn1 k s) s.gots s.gots.length
  have g3 := sum_szGM s.gots
  have g4 : wtGtS s.gots <= 1048577 := hl.2.1
  have g5 : 1 <= (pcn1 k s) := b0.1
  have g6 : s.gots.length <= wtGtS s.gots := Nat.le_add_right _ _
  omega
 have b2 : 1 <= pcn3 k s /\ pcn3 k s <= (pcn2 k s) + 1048577 := by
  have g1 : pcn3 k s = (pcn2 k s) + s.late.length := rfl
  have g4 : s.late.length <= 1048577 := hl.2.2
  have g5 : 1 <= (pcn2 k s) := b1.1
  omega
 exact ⟨⟨b0.1, by have := b0.2;  omega⟩, ⟨b1.1, by have c0 := b0.2; have c1 := b1.2; omega⟩, ⟨b2.1, by have c0 := b0.2; have c1 := b1.2; have c2 := b2.2; omega⟩⟩
theorem markClient_out {bb : Bool} (s : Cn) (v : Value) (k base : Nat) (fp : List Nat) (w : World) (hl : LmCn s) (hk1 : 1 <= k) (hk : k <= 20000000) (ha : OwnCn bb w base v s fp) :
  Calls Try.prog 8 #[v, .int .i64 k] w fun e w' => e = .returned (.int .i64 ((pcn3 k s : Nat) : Int)) /\ OwnCn bb w' base v (mkCn k s) fp /\ Out fp w w' := by
 have hpo := pcn_le hl hk1
 obtain ⟨a1, c1, a2, c2, a3, c3, hv⟩ := ha.at.shape
 obtain ⟨v1, v2, v3, f1, f2, f3, hv2, h1, h2, h3, rfl, hnd⟩ := ha
 rw [hv] at hv2
 simp only [Value.agg.injEq, Array.mk.injEq, List.cons.injEq, and_true, true_and] at hv2
 obtain ⟨rfl, rfl, rfl⟩ := hv2
 subst hv
 obtain ⟨n1, e1⟩ := zE (s.waits.length)
 obtain ⟨n2, e2⟩ := zE (s.gots.length)
 obtain ⟨n3, e3⟩ := zE (s.late.length)
 obtain ⟨K1, hK1⟩ := zE (pcn1 k s)
 obtain ⟨K2, hK2⟩ := zE (pcn2 k s)
 obtain ⟨K3, hK3⟩ := zE (pcn3 k s)
 have hmk : mkCn k s = { s with waits := mkG mkWa szMWa k s.waits, gots := mkG mkGt szGM K1 s.gots, late := mkI K2 s.late } := by unfold mkCn; rw [hK1, hK2]
 rw [hmk, hK3]
 rw [hK1, hK2, hK3] at hpo
 rw [e1, e2, e3]
 rw [e1] at h1
 rw [e2] at h2
 rw [e3] at h3
 have m0 := List.nodup_append.1 hnd
 have m1 := List.nodup_append.1 m0.2.1
 have DD : Hid ((∀ b ∈ f1, b ∉ f2) /\ (∀ b ∈ f1, b ∉ f3) /\ (∀ b ∈ f2, b ∉ f3)) := ⟨fun b x y => m0.2.2 b x b (List.mem_append_left _ y) rfl, fun b x y => m0.2.2 b x b (List.mem_append_right _ (y)) rfl, fun b x y => m1.2.2 b x b (y) rfl⟩
 have HND : Hid ((f1 ++ (f2 ++ (f3))).Nodup) := hnd
 obtain ⟨V, hV⟩ : ∃ V, V = w.alloc (Obj.cells #[.string s.key, .int .i64 s.now, .slice a1 n1 c1, .slice a2 n2 c2, .slice a3 n3 c3] 26) := ⟨_, rfl⟩
 have hb0 : Below w.heap.size w V := by rw [hV]; exact (Below.refl _ _).alloc (Nat.le_refl _) _
 have LT : Hid ((∀ b ∈ f1, b < w.heap.size) /\ (∀ b ∈ f2, b < w.heap.size) /\ (∀ b ∈ f3, b < w.heap.size)) := ⟨fun b hb => (h1.lt b hb).2, fun b hb => (h2.lt b hb).2, fun b hb => (h3.lt b hb).2⟩
 have H0 : Hid ((OwnS waKd V base (.slice a1 n1 c1) (s.waits) f1 /\ OwnX (gtB bb) V base (.slice a2 n2 c2) (s.gots) f2 /\ OwnIF V base (.slice a3 n3 c3) (s.late) f3) /\ Blk V w.heap.size 26 #[.string s.key, .int .i64 s.now, .slice a1 n1 c1, .slice a2 n2 c2, .slice a3 n3 c3] /\ Out (f1 ++ (f2 ++ (f3))) w V) := ⟨⟨h1.stays hb0, h2.stays hb0, h3.stays hb0⟩, by rw [hV]; exact Blk.new w _ _, Out.of_below hb0⟩
 have X1 : Hid (∀ W, OwnS waKd W base (.slice a1 n1 c1) (s.waits) f1 -> Calls Try.prog 21 #[.slice a1 n1 c1, .int .i64 (k : Int)] W fun e w' => e = .returned (.int .i64 (K1 : Int)) /\ OwnS waKd w' base (.slice a1 n1 c1) (mkG mkWa szMWa k s.waits) f1 /\ Out f1 W w') := fun W h => by
  have h9 := markWaitS_out s.waits _ k base f1 W hl.1 (by omega) (by omega) h
  have e9 : posG szMWa k s.waits s.waits.length = K1 := by exact hK1
  rw [e9] at h9
  exact h9
 have X2 : Hid (∀ W, OwnX (gtB bb) W base (.slice a2 n2 c2) (s.gots) f2 -> Calls Try.prog 22 #[.slice a2 n2 c2, .int .i64 (K1 : Int)] W fun e w' => e = .returned (.int .i64 (K2 : Int)) /\ OwnX (gtB bb) w' base (.slice a2 n2 c2) (mkG mkGt szGM K1 s.gots) f2 /\ Out f2 W w') := fun W h => by
  have h9 := markGotS_out bb s.gots _ K1 base f2 W hl.2.1 (by omega) (by omega) h
  have e9 : posG szGM K1 s.gots s.gots.length = K2 := by rw [<- hK1]; exact hK2
  rw [e9] at h9
  exact h9
 have X3 : Hid (∀ W, OwnIF W base (.slice a3 n3 c3) (s.late) f3 -> Calls Try.prog 23 #[.slice a3 n3 c3, .int .i64 (K2 : Int)] W fun e w' => e = .returned (.int .i64 (K3 : Int)) /\ OwnIF w' base (.slice a3 n3 c3) (mkI K2 s.late) f3 /\ Out f3 W w') := fun W h => by
  have h9 := markIntSF_out s.late _ K2 base f3 W (Nat.le_trans hl.2.2 (by decide)) (by omega) h
  have e9 : K2 + s.late.length = K3 := by rw [<- hK2]; exact hK3
  rw [e9] at h9
  exact h9
 clear h1 h2 h3 hnd m0 m1 hb0 hK1 hK2 hK3 e1 e2 e3 hl hmk
 go_enter Try.func8, Try.ntmps8
 go_wp2_with fail
 rw [<- hV]
 clear hV
 refine (X1.out V (H0.out.1.1)).mono ?_
 rintro e w1 ⟨rfl, o1, t1⟩
 have H1 : Hid ((OwnS waKd w1 base (.slice a1 n1 c1) (mkG mkWa szMWa k s.waits) f1 /\ OwnX (gtB bb) w1 base (.slice a2 n2 c2) (s.gots) f2 /\ OwnIF w1 base (.slice a3 n3 c3) (s.late) f3) /\ Blk w1 w.heap.size 26 #[.string s.key, .int .i64 s.now, .slice a1 n1 c1, .slice a2 n2 c2, .slice a3 n3 c3] /\ Out (f1 ++ (f2 ++ (f3))) w w1) := ⟨⟨o1, (H0.out.1.2.1).out t1 (fun b x y => DD.out.1 b y x), (H0.out.1.2.2).out t1 (fun b x y => DD.out.2.1 b y x)⟩, (t1.2.2.2.2 _ H0.out.2.1.lt (fun hm => by have := LT.out.1 _ hm; omega)).trans H0.out.2.1, H0.out.2.2.trans (t1.mono fun b hb => List.mem_append_left _ hb)⟩
 clear o1 t1 H0
 have x1 := fun j => H1.out.2.1.cell j
 go_wp2_with fail
 clear x1
 refine (X2.out w1 (H1.out.1.2.1)).mono ?_
 rintro e w2 ⟨rfl, o1, t1⟩
 have H2 : Hid ((OwnS waKd w2 base (.slice a1 n1 c1) (mkG mkWa szMWa k s.waits) f1 /\ OwnX (gtB bb) w2 base (.slice a2 n2 c2) (mkG mkGt szGM K1 s.gots) f2 /\ OwnIF w2 base (.slice a3 n3 c3) (s.late) f3) /\ Blk w2 w.heap.size 26 #[.string s.key, .int .i64 s.now, .slice a1 n1 c1, .slice a2 n2 c2, .slice a3 n3 c3] /\ Out (f1 ++ (f2 ++ (f3))) w w2) := ⟨⟨(H1.out.1.1).out t1 (fun b x y => DD.out.1 b x y), o1, (H1.out.1.2.2).out t1 (fun b x y => DD.out.2.2 b y x)⟩, (t1.2.2.2.2 _ H1.out.2.1.lt (fun hm => by have := LT.out.2.1 _ hm; omega)).trans H1.out.2.1, H1.out.2.2.trans (t1.mono fun b hb => List.mem_append_right _ (List.mem_append_left _ hb))⟩
 clear o1 t1 H1
 have x1 := fun j => H2.out.2.1.cell j
 go_wp2_with fail
 clear x1
 refine (X3.out w2 (H2.out.1.2.2)).mono ?_
 rintro e w3 ⟨rfl, o1, t1⟩
 have H3 : Hid ((OwnS waKd w3 base (.slice a1 n1 c1) (mkG mkWa szMWa k s.waits) f1 /\ OwnX (gtB bb) w3 base (.slice a2 n2 c2) (mkG mkGt szGM K1 s.gots) f2 /\ OwnIF w3 base (.slice a3 n3 c3) (mkI K2 s.late) f3) /\ Blk w3 w.heap.size 26 #[.string s.key, .int .i64 s.now, .slice a1 n1 c1, .slice a2 n2 c2, .slice a3 n3 c3] /\ Out (f1 ++ (f2 ++ (f3))) w w3) := ⟨⟨(H2.out.1.1).out t1 (fun b x y => DD.out.2.1 b x y), (H2.out.1.2.1).out t1 (fun b x y => DD.out.2.2 b x y), o1⟩, (t1.2.2.2.2 _ H2.out.2.1.lt (fun hm => by have := LT.out.2.2 _ hm; omega)).trans H2.out.2.1, H2.out.2.2.trans (t1.mono fun b hb => List.mem_append_right _ (List.mem_append_right _ hb))⟩
 clear o1 t1 H2
 go_wp2_with fail
 go_ret
 exact ⟨rfl, ⟨_, _, _, f1, f2, f3, rfl, H3.out.1.1, H3.out.1.2.1, H3.out.1.2.2, rfl, HND.out⟩, H3.out.2.2⟩
theorem heldClient_same (s : Cn) (v : Value) (k : Nat) (w : World) (hl : LmCn s) (hk1 : 1 <= k) (hk : k <= 20000000) (ha : CnAt w v (mkCn k s)) :
  Calls Try.prog 9 #[v, .int .i64 k] w fun e w' => e = .returned (.int .i64 ((pcn3 k s : Nat) : Int)) /\ Below w.heap.size w w' := by
 have hpo := pcn_le hl hk1
 obtain ⟨a1, c1, a2, c2, a3, c3, hv⟩ := ha.shape
 subst hv
 obtain ⟨h1, h2, h3⟩ := ha.rows
 obtain ⟨n1, e1⟩ := zE ((mkCn k s).waits.length)
 obtain ⟨n2, e2⟩ := zE ((mkCn k s).gots.length)
 obtain ⟨n3, e3⟩ := zE ((mkCn k s).late.length)
 rw [e1, e2, e3]
 rw [e1] at h1
 rw [e2] at h2
 rw [e3] at h3
 obtain ⟨K1, hK1⟩ := zE (pcn1 k s)
 obtain ⟨K2, hK2⟩ := zE (pcn2 k s)
 obtain ⟨K3, hK3⟩ := zE (pcn3 k s)
 change AtS waKd w _ (mkG mkWa szMWa k s.waits) at h1
 change AtX gtW w _ (mkG mkGt szGM (pcn1 k s) s.gots) at h2
 change AtI w _ (mkI (pcn2 k s) s.late) at h3
 rw [hK1, hK2, hK3] at hpo
 rw [hK1] at h2
 rw [hK2] at h3
 rw [hK3]
 change Calls _ _ #[.agg #[.string s.key, .int .i64 s.now, .slice a1 n1 c1, .slice a2 n2 c2, .slice a3 n3 c3], _] _ _
 have X1 : Hid (∀ W, Below w.heap.size w W -> Calls Try.prog 24 #[.slice a1 n1 c1, .int .i64 (k : Int)] W fun e w' => e = .returned (.int .i64 (K1 : Int)) /\ Below W.heap.size W w') := fun W h => by
  have h9 := heldWaitS_same s.waits _ k W hl.1 (by omega) (by omega) (h1.below h)
  have e9 : posG szMWa k s.waits s.waits.length = K1 := by exact hK1
  rw [e9] at h9
  exact h9
 have X2 : Hid (∀ W, Below w.heap.size w W -> Calls Try.prog 25 #[.slice a2 n2 c2, .int .i64 (K1 : Int)] W fun e w' => e = .returned (.int .i64 (K2 : Int)) /\ Below W.heap.size W w') := fun W h => by
  have h9 := heldGotS_same s.gots _ K1 W hl.2.1 (by omega) (by omega) (h2.below h)
  have e9 : posG szGM K1 s.gots s.gots.length = K2 := by rw [<- hK1]; exact hK2
  rw [e9] at h9
  exact h9
 have X3 : Hid (∀ W, Below w.heap.size w W -> Calls Try.prog 26 #[.slice a3 n3 c3, .int .i64 (K2 : Int)] W fun e w' => e = .returned (.int .i64 (K3 : Int)) /\ Below W.heap.size W w') := fun W h => by
  have h9 := heldIntSF_same s.late _ K2 W (Nat.le_trans hl.2.2 (by decide)) (by omega) (h3.below h)
  have e9 : K2 + s.late.length = K3 := by rw [<- hK2]; exact hK3
  rw [e9] at h9
  exact h9
 have p1 : ¬ (K1 : Int) < 0 := by omega
 have p2 : ¬ (K2 : Int) < 0 := by omega
 have p3 : ¬ (K3 : Int) < 0 := by omega
 obtain ⟨V, hV⟩ : ∃ V, V = w.alloc (Obj.cells #[.string s.key, .int .i64 s.now, .slice a1 n1 c1, .slice a2 n2 c2, .slice a3 n3 c3] 26) := ⟨_, rfl⟩
 have H0 : Hid (Below w.heap.size w V /\ Blk V w.heap.size 26 #[.string s.key, .int .i64 s.now, .slice a1 n1 c1, .slice a2 n2 c2, .slice a3 n3 c3]) := by rw [hV]; exact ⟨(Below.refl _ _).alloc (Nat.le_refl _) _, Blk.new w _ _⟩
 clear h1 h2 h3 hK1 hK2 hK3 e1 e2 e3 hl ha hpo
 go_enter Try.func9, Try.ntmps9
 go_wp2_with fail
 rw [<- hV]
 clear hV
 refine (X1.out V H0.out.1).mono ?_
 rintro e w1 ⟨rfl, hb⟩
 have H1 : Hid (Below w.heap.size w w1 /\ Blk w1 w.heap.size 26 #[.string s.key, .int .i64 s.now, .slice a1 n1 c1, .slice a2 n2 c2, .slice a3 n3 c3]) := ⟨H0.out.1.trans (hb.mono H0.out.1.size), H0.out.2.below hb H0.out.2.lt⟩
 clear hb H0
 have x1 := fun j => H1.out.2.cell j
 go_wp2_with fail
 clear x1
 refine (X2.out w1 H1.out.1).mono ?_
 rintro e w2 ⟨rfl, hb⟩
 have H2 : Hid (Below w.heap.size w w2 /\ Blk w2 w.heap.size 26 #[.string s.key, .int .i64 s.now, .slice a1 n1 c1, .slice a2 n2 c2, .slice a3 n3 c3]) := ⟨H1.out.1.trans (hb.mono H1.out.1.size), H1.out.2.below hb H1.out.2.lt⟩
 clear hb H1
 have x1 := fun j => H2.out.2.cell j
 go_wp2_with fail
 clear x1
 refine (X3.out w2 H2.out.1).mono ?_
 rintro e w3 ⟨rfl, hb⟩
 have H3 : Hid (Below w.heap.size w w3 /\ Blk w3 w.heap.size 26 #[.string s.key, .int .i64 s.now, .slice a1 n1 c1, .slice a2 n2 c2, .slice a3 n3 c3]) := ⟨H2.out.1.trans (hb.mono H2.out.1.size), H2.out.2.below hb H2.out.2.lt⟩
 clear hb H2
 go_wp2_with fail
 go_ret
 exact ⟨rfl, H3.out.1⟩
theorem specClientNew_any (s : ByteArray) (w : World) : Calls Try.prog 5 #[.string s] w fun e w' => e = .returned (.agg #[.string s, .int .i64 0, .slice none 0 0, .slice none 0 0, .slice none 0 0]) /\ Below w.heap.size w w' := by
 go_enter Try.func5, Try.ntmps5
 go_upto_region 1 with fail
 obtain ⟨V, hV⟩ : ∃ V, V = w.alloc (Obj.cells #[.string ⟨#[]⟩, .int .i64 0, .slice none 0 0, .slice none 0 0, .slice none 0 0] 26) := ⟨_, rfl⟩
 rw [<- hV]
 have H0 : Hid (Below w.heap.size w V /\ Blk V w.heap.size 26 #[.string ⟨#[]⟩, .int .i64 0, .slice none 0 0, .slice none 0 0, .slice none 0 0]) := by rw [hV]; exact ⟨(Below.refl _ _).alloc (Nat.le_refl _) _, Blk.new _ _ _⟩
 clear hV
 have c0 : V.cell? ⟨w.heap.size, 0, none⟩ = some (.string ⟨#[]⟩) := H0.out.2.cell 0
 have c1 : V.cell? ⟨w.heap.size, 1, none⟩ = some (.int .i64 0) := H0.out.2.cell 1
 have c2 : V.cell? ⟨w.heap.size, 2, none⟩ = some (.slice none 0 0) := H0.out.2.cell 2
 have c3 : V.cell? ⟨w.heap.size, 3, none⟩ = some (.slice none 0 0) := H0.out.2.cell 3
 have c4 : V.cell? ⟨w.heap.size, 4, none⟩ = some (.slice none 0 0) := H0.out.2.cell 4
 have fz := fun j => H0.out.2.free j
 go_wp2_with fail
 refine bodyPost_ret (v := .agg #[.string s, .int .i64 0, .slice none 0 0, .slice none 0 0, .slice none 0 0]) (by simp [results, Try.results5, go_sem, c0, c1, c2, c3, c4]) rfl ⟨rfl, ?_⟩
 iterate 5 refine Below.setCell ?_ (by show w.heap.size <= w.heap.size; exact Nat.le_refl _) _
 exact H0.out.1
theorem implClientNew_any (s : ByteArray) (w : World) (hs : s.size <= 1000000000000) : Calls Try.prog 6 #[.string s] w fun e w' => e = .returned (.agg #[.string s, .int .i64 0, .slice none 0 0, .slice none 0 0, .slice none 0 0]) /\ Below w.heap.size w w' := by
 go_enter Try.func6, Try.ntmps6
 go_upto_region 1 with fail
 obtain ⟨V, hV⟩ : ∃ V, V = w.alloc (Obj.cells #[.string ⟨#[]⟩, .int .i64 0, .slice none 0 0, .slice none 0 0, .slice none 0 0] 26) := ⟨_, rfl⟩
 rw [<- hV]
 have H0 : Hid (Below w.heap.size w V /\ Blk V w.heap.size 26 #[.string ⟨#[]⟩, .int .i64 0, .slice none 0 0, .slice none 0 0, .slice none 0 0]) := by rw [hV]; exact ⟨(Below.refl _ _).alloc (Nat.le_refl _) _, Blk.new _ _ _⟩
 clear hV
 go_wp2_with fail
 refine (cloneB_any s V hs).mono ?_
 rintro e V1 ⟨rfl, hb⟩
 have H1 : Hid (Below w.heap.size w V1 /\ Blk V1 w.heap.size 26 #[.string ⟨#[]⟩, .int .i64 0, .slice none 0 0, .slice none 0 0, .slice none 0 0]) := ⟨H0.out.1.trans (hb.mono H0.out.1.size), H0.out.2.below hb H0.out.2.lt⟩
 clear hb H0
 have c0 : V1.cell? ⟨w.heap.size, 0, none⟩ = some (.string ⟨#[]⟩) := H1.out.2.cell 0
 have c1 : V1.cell? ⟨w.heap.size, 1, none⟩ = some (.int .i64 0) := H1.out.2.cell 1
 have c2 : V1.cell? ⟨w.heap.size, 2, none⟩ = some (.slice none 0 0) := H1.out.2.cell 2
 have c3 : V1.cell? ⟨w.heap.size, 3, none⟩ = some (.slice none 0 0) := H1.out.2.cell 3
 have c4 : V1.cell? ⟨w.heap.size, 4, none⟩ = some (.slice none 0 0) := H1.out.2.cell 4
 have fz := fun j => H1.out.2.free j
 go_wp2_with fail
 refine bodyPost_ret (v := .agg #[.string s, .int .i64 0, .slice none 0 0, .slice none 0 0, .slice none 0 0]) (by simp [results, Try.results6, go_sem, c0, c1, c2, c3, c4]) rfl ⟨rfl, ?_⟩
 iterate 5 refine Below.setCell ?_ (by show w.heap.size <= w.heap.size; exact Nat.le_refl _) _
 exact H1.out.1
def cn0 (s : ByteArray) : Cn := ⟨s, 0, [], [], []⟩
theorem own_cn0 (bb : Bool) (w : World) (base : Nat) (s : ByteArray) : OwnCn bb w base (.agg #[.string s, .int .i64 0, .slice none 0 0, .slice none 0 0, .slice none 0 0]) (cn0 s) [] :=
 ⟨.slice none 0 0, .slice none 0 0, .slice none 0 0, [], [], [], rfl, ⟨[], rfl, World.ownsRow_nil _ _ _ _, fun j h => absurd h (Nat.not_lt_zero _), rfl, List.nodup_nil⟩, OwnX.nil _ _ _, ⟨OwnI.nil _ _, rfl⟩, rfl, List.nodup_nil⟩
end Go.Proofs.Ytagmnlmfoanelaa
