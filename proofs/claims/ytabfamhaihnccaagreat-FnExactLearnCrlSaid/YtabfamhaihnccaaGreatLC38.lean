/-
  Texts of the proof.
-/
import Derived.Test.YtabfamhaihnccaaGreatLC33
import Derived.Test.YtabfamhaihnccaaGreatLC37
set_option linter.unusedVariables false
set_option linter.unusedSimpArgs false
set_option maxRecDepth 100000
set_option maxHeartbeats 25600000
namespace Go.Proofs.YtabfamhaihnccaaGreat
open Go.RowKit
def po1 (k : Nat) (s : So) : Nat := posG szM k s.certs s.certs.length
def po2 (k : Nat) (s : So) : Nat := posS (po1 k s) s.crls s.crls.length
def po3 (k : Nat) (s : So) : Nat := posG szA2 (po2 k s) s.ancs s.ancs.length
def mkO (k : Nat) (s : So) : So := ⟨mkG mkM szM k s.certs, mkS (po1 k s) s.crls, mkG mkA szA2 (po2 k s) s.ancs⟩
theorem po_le {k : Nat} {s : So} (hl : wtM s.certs <= 1048577 /\ wtS s.crls <= 1048577 /\ s.ancs.length <= 1048577) (hk : 1 <= k) : 1 <= po1 k s /\ po1 k s <= k + 10485770 /\ 1 <= po2 k s /\ po2 k s <= k + 10485770 + 6291462 /\ 1 <= po3 k s /\ po3 k s <= k + 20000000 := by
 have h1 := posG_le szM k s.certs s.certs.length;have h2 := sum_szM s.certs;have h3 := posS_le (po1 k s) s.crls s.crls.length;have h4 := posG_le szA2 (po2 k s) s.ancs s.ancs.length;have h5 := sum_szA s.ancs;have g1 : k <= po1 k s := Nat.le_add_right _ _;have g2 : po1 k s <= po2 k s := Nat.le_add_right _ _;have g3 : po2 k s <= po3 k s := Nat.le_add_right _ _;unfold po3 po2 po1 at *;omega
theorem markStore_out (s : So) (v : Value) (k base : Nat) (fp : List Nat) (w : World) (hl : wtM s.certs <= 1048577 /\ wtS s.crls <= 1048577 /\ s.ancs.length <= 1048577) (hk1 : 1 <= k) (hk : k <= 50000000) (ha : OwnO w base v s fp) :
  Calls Tryz.prog 54 #[v, zI k] w fun e w' => e = .returned (zI ((po3 k s : Nat) : Int)) /\ OwnO w' base v (mkO k s) fp /\ Out fp w w' := by
 have hpo := po_le hl hk1;obtain ⟨a1, c1, a2, c2, a3, c3, hv⟩ := ha.at.shape;obtain ⟨p, q, r, f1, f2, f3, hv2, h1, h2, h3, rfl, hnd⟩ := ha;subst hv;injection hv2 with hv2
 injection hv2 with hv2
 injection hv2 with e1 hv2
 injection hv2 with e2 hv2
 injection hv2 with e3 hv2
 subst e1 e2 e3;obtain ⟨n1, e1⟩ := zE (s.certs.length);obtain ⟨n2, e2⟩ := zE (s.crls.length);obtain ⟨n3, e3⟩ := zE (s.ancs.length);obtain ⟨K1, hK1⟩ := zE (po1 k s);obtain ⟨K2, hK2⟩ := zE (po2 k s);obtain ⟨K3, hK3⟩ := zE (po3 k s);have hmk : mkO k s = ⟨(mkG mkM szM k s.certs), (mkS K1 s.crls), (mkG mkA szA2 K2 s.ancs)⟩ := by unfold mkO; rw [hK1, hK2]
 rw [hmk, hK3];rw [hK1, hK2, hK3] at hpo;rw [e1] at h1 |-;rw [e2] at h2 |-;rw [e3] at h3 |-;have hnd2 := List.nodup_append.1 hnd;have hnd3 := List.nodup_append.1 hnd2.2.1;have D12 : Hid ((∀ b ∈ f1, b ∉ f2) /\ (∀ b ∈ f1, b ∉ f3) /\ (∀ b ∈ f2, b ∉ f3)) := ⟨fun b x y => hnd2.2.2 b x b (List.mem_append_left _ y) rfl, fun b x y => hnd2.2.2 b x b (List.mem_append_right _ y) rfl, fun b x y => hnd3.2.2 b x b y rfl⟩;have HND : Hid ((f1 ++ (f2 ++ f3)).Nodup) := hnd;have HL := hl;obtain ⟨V, hV⟩ : ∃ V, V = w.alloc (Obj.cells #[zS a1 n1 c1, zS a2 n2 c2, zS a3 n3 c3] 37) := ⟨_, rfl⟩;have hb0 : zW w V := by rw [hV]; exact (Below.refl _ _).alloc (Nat.le_refl _) _
 have LT : Hid (∀ b ∈ f1 ++ (f2 ++ f3), b < w.heap.size) := fun b hb => by
  rcases List.mem_append.1 hb with hb | hb
  ·exact (h1.lt b hb).2
  ·rcases List.mem_append.1 hb with hb | hb
   ·exact (h2.lt b hb).2
   ·exact (h3.lt b hb).2
 have H0 : Hid ((OwnS certKd V base (zS a1 n1 c1) s.certs f1 /\ OwnS crlKd V base (zS a2 n2 c2) s.crls f2 /\ OwnS anKd V base (zS a3 n3 c3) s.ancs f3) /\ Blk V w.heap.size 37 #[zS a1 n1 c1, zS a2 n2 c2, zS a3 n3 c3] /\ Out (f1 ++ (f2 ++ f3)) w V) := ⟨⟨h1.stays hb0, h2.stays hb0, h3.stays hb0⟩, by rw [hV]; exact Blk.new w _ _, Out.of_below hb0⟩;have X1 : Hid (∀ W, OwnS certKd W base (zS a1 n1 c1) s.certs f1 -> Calls Tryz.prog 104 #[zS a1 n1 c1, zI k] W fun e w' => e = .returned (zI (K1 : Int)) /\ OwnS certKd w' base (zS a1 n1 c1) (mkG mkM szM k s.certs) f1 /\ Out f1 W w') := fun W h => by rw [<- hK1]; exact markCertS_out s.certs _ k base f1 W hl.1 hk1 (by omega) h
 have X2 : Hid (∀ W, OwnS crlKd W base (zS a2 n2 c2) s.crls f2 -> Calls Tryz.prog 105 #[zS a2 n2 c2, zI (K1 : Int)] W fun e w' => e = .returned (zI (K2 : Int)) /\ OwnS crlKd w' base (zS a2 n2 c2) (mkS K1 s.crls) f2 /\ Out f2 W w') := fun W h => by
  have h9 := markCrlS_big s.crls _ K1 base f2 W hl.2.1 (by omega) (by omega) h;have e9 : posS K1 s.crls s.crls.length = K2 := by rw [<- hK1]; exact hK2
  rw [e9] at h9;exact h9
 have X3 : Hid (∀ W, OwnS anKd W base (zS a3 n3 c3) s.ancs f3 -> Calls Tryz.prog 106 #[zS a3 n3 c3, zI (K2 : Int)] W fun e w' => e = .returned (zI (K3 : Int)) /\ OwnS anKd w' base (zS a3 n3 c3) (mkG mkA szA2 K2 s.ancs) f3 /\ Out f3 W w') := fun W h => by
  have h9 := markAnchorS_out s.ancs _ K2 base f3 W hl.2.2 (by omega) (by omega) h;have e9 : posG szA2 K2 s.ancs s.ancs.length = K3 := by rw [<- hK2]; exact hK3
  rw [e9] at h9;exact h9
 clear h1 h2 h3 hnd hnd2 hnd3 hb0 hK1 hK2 hK3 e1 e2 e3 hl HL hmk;go_enter Tryz.func54, Tryz.ntmps54;go_wp2_with fail;rw [<- hV];clear hV;refine (X1.out V H0.1.1).mono ?_;rintro e w1 ⟨rfl, o1, t1⟩;have H1 : Hid ((OwnS certKd w1 base (zS a1 n1 c1) (mkG mkM szM k s.certs) f1 /\ OwnS crlKd w1 base (zS a2 n2 c2) s.crls f2 /\ OwnS anKd w1 base (zS a3 n3 c3) s.ancs f3) /\ Blk w1 w.heap.size 37 #[zS a1 n1 c1, zS a2 n2 c2, zS a3 n3 c3] /\ Out (f1 ++ (f2 ++ f3)) w w1) := ⟨⟨o1, H0.1.2.1.out t1 (fun b x y => D12.1 b y x), H0.1.2.2.out t1 (fun b x y => D12.2.1 b y x)⟩, (t1.2.2.2.2 _ H0.2.1.lt (fun hm => by have := LT.out _ (List.mem_append_left _ hm); omega)).trans H0.2.1, H0.2.2.trans (t1.mono fun b hb => List.mem_append_left _ hb)⟩;clear o1 t1 H0;have x1 : w1.cell? ⟨w.heap.size, 1, none⟩ = some (zS a2 n2 c2) := H1.2.1.cell 1;go_wp2_with fail;clear x1;refine (X2.out w1 H1.1.2.1).mono ?_;rintro e w2 ⟨rfl, o1, t1⟩;have H2 : Hid ((OwnS certKd w2 base (zS a1 n1 c1) (mkG mkM szM k s.certs) f1 /\ OwnS crlKd w2 base (zS a2 n2 c2) (mkS K1 s.crls) f2 /\ OwnS anKd w2 base (zS a3 n3 c3) s.ancs f3) /\ Blk w2 w.heap.size 37 #[zS a1 n1 c1, zS a2 n2 c2, zS a3 n3 c3] /\ Out (f1 ++ (f2 ++ f3)) w w2) := ⟨⟨H1.1.1.out t1 (fun b x y => D12.1 b x y), o1, H1.1.2.2.out t1 (fun b x y => D12.2.2 b y x)⟩, (t1.2.2.2.2 _ H1.2.1.lt (fun hm => by have := LT.out _ (List.mem_append_right _ (List.mem_append_left _ hm)); omega)).trans H1.2.1, H1.2.2.trans (t1.mono fun b hb => List.mem_append_right _ (List.mem_append_left _ hb))⟩
 clear o1 t1 H1;have x1 : w2.cell? ⟨w.heap.size, 2, none⟩ = some (zS a3 n3 c3) := H2.2.1.cell 2;go_wp2_with fail;clear x1;refine (X3.out w2 H2.1.2.2).mono ?_;rintro e w3 ⟨rfl, o1, t1⟩;have H3 : Hid ((OwnS certKd w3 base (zS a1 n1 c1) (mkG mkM szM k s.certs) f1 /\ OwnS crlKd w3 base (zS a2 n2 c2) (mkS K1 s.crls) f2 /\ OwnS anKd w3 base (zS a3 n3 c3) (mkG mkA szA2 K2 s.ancs) f3) /\ Out (f1 ++ (f2 ++ f3)) w w3) := ⟨⟨H2.1.1.out t1 (fun b x y => D12.2.1 b x y), H2.1.2.1.out t1 (fun b x y => D12.2.2 b x y), o1⟩, H2.2.2.trans (t1.mono fun b hb => List.mem_append_right _ (List.mem_append_right _ hb))⟩;clear o1 t1 H2;go_wp2_with fail;go_ret;exact ⟨rfl, ⟨_, _, _, f1, f2, f3, rfl, H3.1.1, H3.1.2.1, H3.1.2.2, rfl, HND.out⟩, H3.2⟩
theorem heldStore_same (s : So) (v : Value) (k : Nat) (w : World) (hl : wtM s.certs <= 1048577 /\ wtS s.crls <= 1048577 /\ s.ancs.length <= 1048577) (hk1 : 1 <= k) (hk : k <= 50000000) (ha : SoAt w v (mkO k s)) :
  Calls Tryz.prog 59 #[v, zI k] w fun e w' => e = .returned (zI ((po3 k s : Nat) : Int)) /\ zW w w' := by
 have hpo := po_le hl hk1;obtain ⟨a1, c1, a2, c2, a3, c3, hv⟩ := ha.shape;subst hv;obtain ⟨h1, h2, h3⟩ := ha.rows;obtain ⟨n1, e1⟩ := zE ((mkO k s).certs.length);obtain ⟨n2, e2⟩ := zE ((mkO k s).crls.length);obtain ⟨n3, e3⟩ := zE ((mkO k s).ancs.length);rw [e1] at h1 |-;rw [e2] at h2 |-;rw [e3] at h3 |-;obtain ⟨K1, hK1⟩ := zE (po1 k s);obtain ⟨K2, hK2⟩ := zE (po2 k s);obtain ⟨K3, hK3⟩ := zE (po3 k s);change AtS certKd w _ (mkG mkM szM k s.certs) at h1;change AtS crlKd w _ (mkS (po1 k s) s.crls) at h2;change AtS anKd w _ (mkG mkA szA2 (po2 k s) s.ancs) at h3;rw [hK1, hK2, hK3] at hpo;rw [hK1] at h2;rw [hK2] at h3;rw [hK3];have X1 : Hid (∀ W, zW w W -> Calls Tryz.prog 108 #[zS a1 n1 c1, zI k] W fun e w' => e = .returned (zI (K1 : Int)) /\ zW W w') := fun W h => by rw [<- hK1]; exact heldCertS_same s.certs _ k W hl.1 hk1 (by omega) (h1.below h)
 have X2 : Hid (∀ W, zW w W -> Calls Tryz.prog 109 #[zS a2 n2 c2, zI (K1 : Int)] W fun e w' => e = .returned (zI (K2 : Int)) /\ zW W w') := fun W h => by
  have h9 := heldCrlS_big s.crls _ K1 W hl.2.1 (by omega) (by omega) (h2.below h);have e9 : posS K1 s.crls s.crls.length = K2 := by rw [<- hK1]; exact hK2
  rw [e9] at h9;exact h9
 have X3 : Hid (∀ W, zW w W -> Calls Tryz.prog 110 #[zS a3 n3 c3, zI (K2 : Int)] W fun e w' => e = .returned (zI (K3 : Int)) /\ zW W w') := fun W h => by
  have h9 := heldAnchorS_same s.ancs _ K2 W hl.2.2 (by omega) (by omega) (h3.below h);have e9 : posG szA2 K2 s.ancs s.ancs.length = K3 := by rw [<- hK2]; exact hK3
  rw [e9] at h9;exact h9
 have p1 : ¬ (K1 : Int) < 0 := by omega
 have p2 : ¬ (K2 : Int) < 0 := by omega
 have p3 : ¬ (K3 : Int) < 0 := by omega
 obtain ⟨V, hV⟩ : ∃ V, V = w.alloc (Obj.cells #[zS a1 n1 c1, zS a2 n2 c2, zS a3 n3 c3] 37) := ⟨_, rfl⟩;have H0 : Hid (zW w V /\ Blk V w.heap.size 37 #[zS a1 n1 c1, zS a2 n2 c2, zS a3 n3 c3]) := by rw [hV]; exact ⟨(Below.refl _ _).alloc (Nat.le_refl _) _, Blk.new w _ _⟩
 clear h1 h2 h3 hK1 hK2 hK3 e1 e2 e3 hl ha hpo;go_enter Tryz.func59, Tryz.ntmps59;go_wp2_with fail;rw [<- hV];clear hV;refine (X1.out V H0.1).mono ?_;rintro e w1 ⟨rfl, hb⟩;have H1 : Hid (zW w w1 /\ Blk w1 w.heap.size 37 #[zS a1 n1 c1, zS a2 n2 c2, zS a3 n3 c3]) := ⟨H0.1.trans (hb.mono H0.1.size), H0.2.below hb H0.2.lt⟩;clear hb H0;have x1 : w1.cell? ⟨w.heap.size, 1, none⟩ = some (zS a2 n2 c2) := H1.2.cell 1;go_wp2_with fail;clear x1;refine (X2.out w1 H1.1).mono ?_;rintro e w2 ⟨rfl, hb⟩;have H2 : Hid (zW w w2 /\ Blk w2 w.heap.size 37 #[zS a1 n1 c1, zS a2 n2 c2, zS a3 n3 c3]) := ⟨H1.1.trans (hb.mono H1.1.size), H1.2.below hb H1.2.lt⟩;clear hb H1;have x1 : w2.cell? ⟨w.heap.size, 2, none⟩ = some (zS a3 n3 c3) := H2.2.cell 2;go_wp2_with fail;clear x1;refine (X3.out w2 H2.1).mono ?_;rintro e w3 ⟨rfl, hb⟩;have H3 : Hid (zW w w3) := H2.1.trans (hb.mono H2.1.size);clear hb H2;go_wp2_with fail;go_ret;exact ⟨rfl, H3.out⟩
def mkPl (k : Nat) (c : Pn) : Pn := ⟨(k : Int), marksI (k + 1) c.anc.length, ⟨(k : Int) + 1 + (c.anc.length : Int), marksI (k + 2 + c.anc.length) c.ru.pol.length, decide ((k + 2 + c.anc.length + c.ru.pol.length) % 3 = 0), decide ((k + 3 + c.anc.length + c.ru.pol.length) % 3 = 0), (k : Int) + 1 + (c.anc.length : Int) + 1 + (c.ru.pol.length : Int) + 1 + 1⟩⟩
def szPl (c : Pn) : Nat := 5 + c.anc.length + c.ru.pol.length
theorem sum_szPl : ∀ l : List Pn, (l.map szPl).sum <= 5 * wtPS l
 | [] => by simp
 | c :: l => by
  have := sum_szPl l;unfold wtPS at this |-;simp only [List.map_cons, List.sum_cons, List.length_cons];have h2 : szPl c = 5 + wtPn c := by unfold szPl wtPn; omega
  omega
def MkPl (w0 W : World) (base g n cap : Nat) (fq : List Nat) (X : List Value) (p e : Value) (P E : List Int) : Prop :=
 W.ownsRow base 127 7 (zS (some ⟨g, 0, none⟩) n cap) n X /\ (OwnI W base p P /\ OwnI W base e E) /\ Out fq w0 W /\ g ∈ fq /\ (∀ b, p.ownBlock = some b ∨ e.ownBlock = some b -> b ≠ g /\ b ∈ fq) /\ (Ap p e /\ Ap e p)
section
variable {w0 W W' : World} {base g n cap : Nat} {fq : List Nat} {X : List Value} {p e : Value} {P E P' E' : List Int}
theorem MkPl.put (h : MkPl w0 W base g n cap fq X p e P E) (i : Nat) (x : Value) : MkPl w0 (W.setCell ⟨g, i, none⟩ x) base g n cap fq (X.set i x) p e P E :=
 ⟨(h.1.stored i x).1, ⟨row_same h.2.1.1 (fun b hb => heap_setCell_other _ _ _ _ (h.2.2.2.2.1 b (.inl hb)).1), row_same h.2.1.2 (fun b hb => heap_setCell_other _ _ _ _ (h.2.2.2.2.1 b (.inr hb)).1)⟩, h.2.2.1.setCell _ _ h.2.2.2.1, h.2.2.2⟩
theorem MkPl.markP (h : MkPl w0 W base g n cap fq X p e P E) (ho : OwnI W' base p P') (hg : W.grownBy W' p.ownBlock) : MkPl w0 W' base g n cap fq X p e P' E :=
 ⟨h.1.kept hg (.inr fun e => (h.2.2.2.2.1 g (.inl e.symm)).1 rfl), ⟨ho, World.ownsRow.kept h.2.1.2 hg h.2.2.2.2.2.2⟩, h.2.2.1.grown hg (fun q hq => (h.2.2.2.2.1 q (.inl hq)).2), h.2.2.2⟩
theorem MkPl.markE (h : MkPl w0 W base g n cap fq X p e P E) (ho : OwnI W' base e E') (hg : W.grownBy W' e.ownBlock) : MkPl w0 W' base g n cap fq X p e P E' :=
 ⟨h.1.kept hg (.inr fun e => (h.2.2.2.2.1 g (.inr e.symm)).1 rfl), ⟨World.ownsRow.kept h.2.1.1 hg h.2.2.2.2.2.1, ho⟩, h.2.2.1.grown hg (fun q hq => (h.2.2.2.2.1 q (.inr hq)).2), h.2.2.2⟩
theorem MkPl.cell (h : MkPl w0 W base g n cap fq X p e P E) {i : Nat} (hi : i < n * 7) : ∃ x, W.cell? ⟨g, i, none⟩ = some x := by
 rw [World.ownsRow.cellAt h.1 i hi];exact ⟨X[i]'(by rw [h.1.1]; exact hi), List.getElem?_eq_getElem _⟩
theorem MkPl.at (h : MkPl w0 W base g n cap fq X p e P E) {i : Nat} (hi : i < n * 7) : W.cell? ⟨g, i, none⟩ = X[i]? := World.ownsRow.cellAt h.1 i hi
theorem MkPl.free (h : MkPl w0 W base g n cap fq X p e P E) (i : Nat) : W.frozen? ⟨g, i, none⟩ = false := World.ownsRow.frozenAt h.1 i
end
theorem markPlanS_out (l : List Pn) (v : Value) (k base : Nat) (fp : List Nat) (w : World) (hl : wtPS l <= 1048577) (hk1 : 1 <= k) (hk : k <= 100000000) (ha : OwnS pnKd w base v l fp) :
  Calls Tryz.prog 55 #[v, zI k] w fun e w' => e = .returned (zI ((posG szPl k l l.length : Nat) : Int)) /\ OwnS pnKd w' base v (mkG mkPl szPl k l) fp /\ Out fp w w' := by
 obtain ⟨ao, cap, hv, hg, -, -⟩ := ha.shape;obtain ⟨n, hn⟩ := zE (l.length);rw [hn] at hv hg;subst hv;obtain ⟨KK, hKK⟩ : ∃ q : Nat, posG szPl k l l.length = q := ⟨_, rfl⟩;rw [hKK];have HA : Hid (OwnS pnKd w base (zS ao n cap) l fp /\ l.length = n /\ wtPS l <= 1048577 /\ (0 < n -> ∃ g, ao = some ⟨g, 0, none⟩) /\ posG szPl k l l.length = KK) := ⟨ha, hn, hl, hg, hKK⟩;have hn20 : n <= 1048577 := by unfold wtPS at hl; omega
 clear ha hn hl hg hKK;go_enter Tryz.func55, Tryz.ntmps55;go_wp2_with fail
 go_loopw [1, 5] (fun kv iv wr => ∃ j q : Nat, j <= n /\ iv = zI j /\ kv = zI q /\ (1 <= q /\ q <= 200000000) /\ Hid (q = posG szPl k l j /\ OwnS pnKd wr base (zS ao n cap) ((mkG mkPl szPl k l).take j ++ l.drop j) fp /\ Out fp w wr)) (fun _ iv _ => n - (intOf iv).toNat)
 case atStart => exact ⟨0, k, Nat.zero_le _, rfl, rfl, ⟨hk1, by omega⟩, by simp [posG], by simpa using HA.1, Out.refl _ _⟩
 case round =>
  obtain ⟨j, q, hj, rfl, rfl, ⟨hq1, hq2⟩, H⟩ := hrel;by_cases hjn : j < n
  ·have hjl : j < l.length := by rw [HA.2.1]; exact hjn
   obtain ⟨g, hg⟩ := HA.2.2.2.1 (by omega);subst hg;obtain ⟨vs, hvl, hr, he, hfp, hnd⟩ := H.2.1;have hml := markG_len mkPl szPl (k := k) (Nat.le_of_lt hjl);have hjv : j < vs.length := by rw [hvl, hml]; exact hjl
   have hej : OwnPn wr base vs[j] ((mkG mkPl szPl k l).take j ++ l.drop j)[j] := he j hjv (by omega);rw [markG_get mkPl szPl hjl] at hej;obtain ⟨c, hc⟩ := zE (l[j]);rw [hc] at hej;obtain ⟨p, e, hup, hop, hoe, hap⟩ := hej;obtain ⟨lp, hlp⟩ := zE (c.anc.length);obtain ⟨le, hle⟩ := zE (c.ru.pol.length);obtain ⟨pa, pc, hpv⟩ : ∃ ao cap, p = zS ao c.anc.length cap := by obtain ⟨ao, cap, h, _⟩ := hop.at; exact ⟨ao, cap, h⟩
   obtain ⟨ea, ec, hev⟩ : ∃ ao cap, e = zS ao c.ru.pol.length cap := by obtain ⟨ao, cap, h, _⟩ := hoe.at; exact ⟨ao, cap, h⟩
   rw [hlp] at hpv;rw [hle] at hev;subst hpv hev;obtain ⟨X, hX⟩ := zE (cellsV vs);have HM : Hid (MkPl wr wr base g n cap (g :: fpPn vs[j]) X (zS pa lp pc) (zS ea le ec) c.anc c.ru.pol) := by
    refine ⟨by rw [<- hX]; rw [hml, HA.2.1] at hr; exact hr, ⟨hop, hoe⟩, Out.refl _ _, List.mem_cons_self .., fun b hb => ⟨fun e => ?_, List.mem_cons_of_mem _ (by rw [hup]; exact fpPn_mem.2 hb)⟩, hap⟩;subst e;refine (List.nodup_append.1 (hfp ▸ hnd)).2.2 b (by simp [Value.ownBlock]) b (mem_flat (k := fpPn) hjv (by rw [hup]; exact fpPn_mem.2 hb)) rfl
   have HX5 : Hid (∀ i, i < 7 -> X[j * 7 + i]? = (pnV c (zS pa lp pc) (zS ea le ec)).cells[i]?) := fun i hi => by
    rw [<- hX, <- hup];exact cellsV_at (OwnS.sizes (k := pnKd) hvl he) j hjv i hi
   obtain ⟨CA, hCA⟩ := zE (decide ((q + 2 + lp + le) % 3 = 0));have hCA2 : (((q : Int) + 1 + (lp : Int) + 1 + (le : Int)) % 3 == 0) = CA := by rw [<- hCA, Bool.eq_iff_iff, beq_iff_eq, decide_eq_true_eq]; omega
   obtain ⟨CB, hCB⟩ := zE (decide ((q + 3 + lp + le) % 3 = 0));have hCB2 : (((q : Int) + 1 + (lp : Int) + 1 + (le : Int) + 1) % 3 == 0) = CB := by rw [<- hCB, Bool.eq_iff_iff, beq_iff_eq, decide_eq_true_eq]; omega
   have HE : Hid (∀ (W : World), MkPl wr W base g n cap (g :: fpPn vs[j]) ((((((X.set (j * 7) (zI (q : Int))).set (j * 7 + 2) (zI ((q : Int) + 1 + (lp : Int)))).set (j * 7 + 4) (.bool CA)).set (j * 7 + 5) (.bool CB)).set (j * 7 + 6) (zI ((q : Int) + 1 + (lp : Int) + 1 + (le : Int) + 1 + 1)))) (zS pa lp pc) (zS ea le ec) (marksI (q + 1) lp) (marksI (q + 2 + lp) le) -> (q = posG szPl k l j -> OwnS pnKd W base (zS (some ⟨g, 0, none⟩) n cap) ((mkG mkPl szPl k l).take (j + 1) ++ l.drop (j + 1)) fp /\ Out fp w W)) := fun W hM hq => by
    have hset : cellsV (vs.set j (.agg #[zI (q : Int), zS pa lp pc, zI ((q : Int) + 1 + (lp : Int)), zS ea le ec, .bool CA, .bool CB, zI ((q : Int) + 1 + (lp : Int) + 1 + (le : Int) + 1 + 1)])) = ((((((X.set (j * 7) (zI (q : Int))).set (j * 7 + 2) (zI ((q : Int) + 1 + (lp : Int)))).set (j * 7 + 4) (.bool CA)).set (j * 7 + 5) (.bool CB)).set (j * 7 + 6) (zI ((q : Int) + 1 + (lp : Int) + 1 + (le : Int) + 1 + 1)))) := by
     rw [<- setMany_cells (K := 7) (OwnS.sizes (k := pnKd) hvl he) j _ hjv rfl, hX];show (((((((X.set (j * 7) (zI (q : Int))).set (j * 7 + 1) (zS pa lp pc)).set (j * 7 + 2) (zI ((q : Int) + 1 + (lp : Int)))).set (j * 7 + 3) (zS ea le ec)).set (j * 7 + 4) (.bool CA)).set (j * 7 + 5) (.bool CB)).set (j * 7 + 6) (zI ((q : Int) + 1 + (lp : Int) + 1 + (le : Int) + 1 + 1))) = _;have h1 : X[j * 7 + 1]? = some (zS pa lp pc) := HX5.out 1 (by decide);have h3 : X[j * 7 + 3]? = some (zS ea le ec) := HX5.out 3 (by decide);have s1 := set_selfG (l := (X.set (j * 7) (zI (q : Int)))) (i := j * 7 + 1) (a := zS pa lp pc) (by (iterate 1 rw [List.getElem?_set_ne (by omega)]); exact h1);have s3 := set_selfG (l := ((X.set (j * 7) (zI (q : Int))).set (j * 7 + 2) (zI ((q : Int) + 1 + (lp : Int))))) (i := j * 7 + 3) (a := zS ea le ec) (by (iterate 2 rw [List.getElem?_set_ne (by omega)]); exact h3);rw [s1, s3]
    have hmk : mkPl q c = ⟨(q : Int), marksI (q + 1) lp, ⟨(q : Int) + 1 + (lp : Int), marksI (q + 2 + lp) le, CA, CB, (q : Int) + 1 + (lp : Int) + 1 + (le : Int) + 1 + 1⟩⟩ := by unfold mkPl; rw [hlp, hle, hCA, hCB]
    have hT := OwnS.turnK pnKd (c' := mkPl q c) (cap := cap) (n := n) (j := j) (l := (mkG mkPl szPl k l).take j ++ l.drop j) (by omega) hvl he (hfp ▸ hnd) (u := .agg #[zI (q : Int), zS pa lp pc, zI ((q : Int) + 1 + (lp : Int)), zS ea le ec, .bool CA, .bool CB, zI ((q : Int) + 1 + (lp : Int) + 1 + (le : Int) + 1 + 1)]) (by rw [hup]; rfl) (by rw [hset, hml, HA.2.1]; exact hM.1) ⟨zS pa lp pc, zS ea le ec, by rw [hmk]; rfl, by rw [hmk]; exact hM.2.1.1, by rw [hmk]; exact hM.2.1.2, hM.2.2.2.2.2⟩ hM.2.2.1;refine ⟨?_, ?_⟩
    ·rw [hfp, <- markG_set mkPl szPl hjl, <- hq, hc]
     exact hT
    ·refine H.2.2.trans (hM.2.2.1.mono fun b hb => ?_)
     rw [hfp]
     rcases List.mem_cons.1 hb with rfl | hb
     ·exact List.mem_append_left _ (by simp [Value.ownBlock])
     ·exact List.mem_append_right _ (mem_flat (k := fpPn) hjv hb)
   have HL : Hid (c.anc.length = lp /\ c.ru.pol.length = le) := ⟨hlp, hle⟩;have HQ : Hid (q = posG szPl k l j /\ posG szPl k l (j + 1) = q + (5 + lp + le)) := ⟨H.1, by rw [posG_next szPl hjl, hc, <- H.1]; unfold szPl; rw [hlp, hle]⟩;have hqb : q + (5 + lp + le) <= 120000000 := by
    have h1 := posG_le szPl k l (j + 1);have h2 := sum_szPl l;have h3 := HQ.2;have h4 := HA.2.2.1;omega
   clear H hr he hfp hnd hvl hop hoe hap hX hml hCA hCB;have hki : (j : Int) < (n : Int) := by omega
   have hk0 : (0 : Int) <= (j : Int) := by omega
   generalize g :: fpPn vs[j] = fq at HM HE;clear hup hjv hc hlp hle;obtain ⟨y0, c0⟩ := HM.cell (i := j * 7) (by omega);have fz := fun i => HM.free i
   have c1 : wr.cell? ⟨g, j * 7 + 1, none⟩ = some (zS pa lp pc) := by
    rw [HM.at (by omega)];exact HX5.out 1 (by decide)
   go_wp2_with fail;clear c0 c1 fz;obtain ⟨V1, hV1⟩ : ∃ V, V = (wr.setCell ⟨g, j * 7, none⟩ (zI (q : Int))) := ⟨_, rfl⟩;rw [<- hV1];have HM1 : Hid (MkPl wr V1 base g n cap fq (X.set (j * 7) (zI (q : Int))) (zS pa lp pc) (zS ea le ec) c.anc c.ru.pol) := by rw [hV1]; exact (HM.out.put _ _)
   clear hV1 HM;have E5 := mark_any (zS pa lp pc) c.anc (q + 1) base V1 (by rw [HL.1]; omega) (by omega) HM1.2.1.1;rw [HL.1, show (((q + 1 : Nat)) : Int) = (q : Int) + 1 from by omega] at E5;refine E5.mono ?_;rintro e w2 ⟨rfl, ho5, hg5⟩;have HM2 : Hid (MkPl wr w2 base g n cap fq (X.set (j * 7) (zI (q : Int))) (zS pa lp pc) (zS ea le ec) (marksI (q + 1) lp) c.ru.pol) := HM1.out.markP ho5 hg5;clear HM1 E5 ho5 hg5;obtain ⟨y2, c2⟩ := HM2.cell (i := j * 7 + 2) (by omega);have fz := fun i => HM2.free i
   have c3 : w2.cell? ⟨g, j * 7 + 3, none⟩ = some (zS ea le ec) := by
    rw [HM2.at (by omega)]
    iterate 1 rw [List.getElem?_set_ne (by omega)]
    exact HX5.out 3 (by decide)
   go_wp2_with fail;clear c2 c3 fz;obtain ⟨V3, hV3⟩ : ∃ V, V = (w2.setCell ⟨g, j * 7 + 2, none⟩ (zI ((q : Int) + 1 + (lp : Int)))) := ⟨_, rfl⟩;rw [<- hV3];have HM3 : Hid (MkPl wr V3 base g n cap fq ((X.set (j * 7) (zI (q : Int))).set (j * 7 + 2) (zI ((q : Int) + 1 + (lp : Int)))) (zS pa lp pc) (zS ea le ec) (marksI (q + 1) lp) c.ru.pol) := by rw [hV3]; exact (HM2.out.put _ _)
   clear hV3 HM2;have E5 := mark_any (zS ea le ec) c.ru.pol (q + 2 + lp) base V3 (by rw [HL.2]; omega) (by omega) HM3.2.1.2;rw [HL.2, show (((q + 2 + lp : Nat)) : Int) = (q : Int) + 1 + (lp : Int) + 1 from by omega] at E5;refine E5.mono ?_;rintro e w4 ⟨rfl, ho5, hg5⟩;have HM4 : Hid (MkPl wr w4 base g n cap fq ((X.set (j * 7) (zI (q : Int))).set (j * 7 + 2) (zI ((q : Int) + 1 + (lp : Int)))) (zS pa lp pc) (zS ea le ec) (marksI (q + 1) lp) (marksI (q + 2 + lp) le)) := HM3.out.markE ho5 hg5;clear HM3 E5 ho5 hg5;obtain ⟨y4, c4⟩ := HM4.cell (i := j * 7 + 4) (by omega);obtain ⟨y5, c5⟩ := HM4.cell (i := j * 7 + 5) (by omega);obtain ⟨y6, c6⟩ := HM4.cell (i := j * 7 + 6) (by omega);have fz := fun i => HM4.free i
   go_wp2_with fail
   go_roundw
   case rel => exact ⟨j + 1, q + (5 + lp + le), by omega, by go_num, by go_num, ⟨by omega, by omega⟩, HQ.2.symm, HE.out _ (((HM4.out.put _ _).put _ _).put _ _) HQ.1⟩
   case measure => simp [intOf]; omega
  ·have hjl : n = j := by omega
   subst hjl;have HE : Hid (q = KK /\ (mkG mkPl szPl k l).take n ++ l.drop n = mkG mkPl szPl k l) := by
    have h1 := HA.2.1;refine ⟨?_, markG_all mkPl szPl (by omega)⟩;rw [<- HA.2.2.2.2, h1]; exact H.1
   go_wp2
   go_ret;refine ⟨by rw [HE.1]; rfl, ?_, H.2.2⟩;have h := H.2.1;rw [HE.2] at h;exact h
theorem heldPlanS_same (l : List Pn) (v : Value) (k : Nat) (w : World) (hl : wtPS l <= 1048577) (hk1 : 1 <= k) (hk : k <= 100000000) (ha : AtS pnKd w v (mkG mkPl szPl k l)) :
  Calls Tryz.prog 60 #[v, zI k] w fun e w' => e = .returned (zI ((posG szPl k l l.length : Nat) : Int)) /\ zW w w' := by
 obtain ⟨ao, cap, hv⟩ := ha.shape;obtain ⟨n, hn⟩ := zE (l.length);rw [mkG_len, hn] at hv;subst hv;obtain ⟨KK, hKK⟩ : ∃ q : Nat, posG szPl k l l.length = q := ⟨_, rfl⟩;rw [hKK];have HA : Hid (AtS pnKd w (zS ao n cap) (mkG mkPl szPl k l) /\ l.length = n /\ wtPS l <= 1048577 /\ posG szPl k l l.length = KK) := ⟨ha, hn, hl, hKK⟩;have hn20 : n <= 1048577 := by unfold wtPS at hl; omega
 clear ha hn hl hKK;go_enter Tryz.func60, Tryz.ntmps60;go_wp2_with fail
 go_loopw [1, 5] (fun kv iv wr => ∃ j q : Nat, j <= n /\ iv = zI j /\ kv = zI q /\ (1 <= q /\ q <= 200000000) /\ Hid (q = posG szPl k l j /\ zW w wr)) (fun _ iv _ => n - (intOf iv).toNat)
 case atStart => exact ⟨0, k, Nat.zero_le _, rfl, rfl, ⟨hk1, by omega⟩, by simp [posG], Below.refl _ _⟩
 case round =>
  obtain ⟨j, q, hj, rfl, rfl, ⟨hq1, hq2⟩, H⟩ := hrel;by_cases hjn : j < n
  ·have hjl : j < l.length := by rw [HA.2.1]; exact hjn
   have hjm : j < (mkG mkPl szPl k l).length := by rw [mkG_len]; exact hjl
   obtain ⟨g, off, u, hao, hgB, hPu, hus, hcell⟩ := HA.1.get hjm;rw [mkG_get mkPl szPl l k j hjl hjm, <- H.1] at hPu;obtain ⟨c, hc⟩ := zE (l[j]);rw [hc] at hPu;obtain ⟨lp, hlp⟩ := zE (c.anc.length);obtain ⟨le, hle⟩ := zE (c.ru.pol.length);obtain ⟨p, e, hup, h1, h2⟩ := hPu;change IntAt w p (marksI (q + 1) c.anc.length) at h1;change IntAt w e (marksI (q + 2 + c.anc.length) c.ru.pol.length) at h2;unfold mkPl pnV at hup;rw [hlp, hle] at hup;rw [hlp] at h1 h2;rw [hle] at h2;obtain ⟨pa, pc, hp, -⟩ := id h1;obtain ⟨ea, ec, he, -⟩ := id h2;rw [marksI_len] at hp he;subst hp he hao;obtain ⟨CA, hCA⟩ := zE (decide ((q + 2 + lp + le) % 3 = 0));have hCA2 : (((q : Int) + 1 + (lp : Int) + 1 + (le : Int)) % 3 == 0) = CA := by rw [<- hCA, Bool.eq_iff_iff, beq_iff_eq, decide_eq_true_eq]; omega
   obtain ⟨CB, hCB⟩ := zE (decide ((q + 3 + lp + le) % 3 = 0));have hCB2 : (((q : Int) + 1 + (lp : Int) + 1 + (le : Int) + 1) % 3 == 0) = CB := by rw [<- hCB, Bool.eq_iff_iff, beq_iff_eq, decide_eq_true_eq]; omega
   have HC : Hid (∀ (W : World), zW w W -> ∀ i x, (Value.agg #[zI (q : Int), zS pa lp pc, zI ((q : Int) + 1 + (lp : Int)), zS ea le ec, .bool CA, .bool CB, zI ((q : Int) + 1 + (lp : Int) + 1 + (le : Int) + 1 + 1)]).cells[i]? = some x -> W.cell? ⟨g, off + j * 7 + i, none⟩ = some x) := fun W hb i x hx => by
    refine (hb.cell (p := ⟨g, off + j * 7 + i, none⟩) hgB).trans (hcell i x ?_);rw [hup, hCA, hCB];exact hx
   have HRV : Hid (IntAt w (zS pa lp pc) (marksI (q + 1) lp) /\ IntAt w (zS ea le ec) (marksI (q + 2 + lp) le)) := ⟨h1, h2⟩;have HQ : Hid (posG szPl k l (j + 1) = q + (5 + lp + le)) := by show _ = _; rw [posG_next szPl hjl, hc, <- H.1]; unfold szPl; rw [hlp, hle]
   have hqb : q + (5 + lp + le) <= 120000000 := by
    have h1 := posG_le szPl k l (j + 1);have h2 := sum_szPl l;have h3 := HQ.out;have h4 := HA.2.2.1;omega
   have HB : Hid (zW w wr) := H.2;clear H hus hcell hup h1 h2 hc hlp hle hgB hjm hCA hCB;have hki : (j : Int) < (n : Int) := by omega
   have hk0 : (0 : Int) <= (j : Int) := by omega
   have c0 : wr.cell? ⟨g, off + j * 7, none⟩ = some (zI (q : Int)) := HC.out wr HB.out 0 _ rfl;have c1 : wr.cell? ⟨g, off + j * 7 + 1, none⟩ = some (zS pa lp pc) := HC.out wr HB.out 1 _ rfl;have E5 := held_int (zS pa lp pc) lp ((q : Int) + 1) wr (by omega) (by omega) (by rw [show ((q : Int) + 1).toNat = q + 1 from by omega]; exact HRV.1.below HB.out);go_wp2_with fail;clear c0 c1;refine E5.mono ?_;rintro e w6 ⟨rfl, hb4⟩;have HBn : Hid (zW w w6) := HB.trans (hb4.mono HB.size);clear HB hb4 E5;have HB := HBn;clear HBn;have hneg : ¬ ((q : Int) + 1 + (lp : Int)) < 0 := by omega
   have c2 : w6.cell? ⟨g, off + j * 7 + 2, none⟩ = some (zI ((q : Int) + 1 + (lp : Int))) := HC.out w6 HB.out 2 _ rfl;have c3 : w6.cell? ⟨g, off + j * 7 + 3, none⟩ = some (zS ea le ec) := HC.out w6 HB.out 3 _ rfl;have E5 := held_int (zS ea le ec) le ((q : Int) + 1 + (lp : Int) + 1) w6 (by omega) (by omega) (by rw [show ((q : Int) + 1 + (lp : Int) + 1).toNat = q + 2 + lp from by omega]; exact HRV.2.below HB.out);go_wp2_with fail;clear c2 c3 hneg;refine E5.mono ?_;rintro e w7 ⟨rfl, hb4⟩;have HBn : Hid (zW w w7) := HB.trans (hb4.mono HB.size);clear HB hb4 E5;have HB := HBn;clear HBn;have hneg : ¬ ((q : Int) + 1 + (lp : Int) + 1 + (le : Int)) < 0 := by omega
   have c4 : w7.cell? ⟨g, off + j * 7 + 4, none⟩ = some (.bool CA) := HC.out w7 HB.out 4 _ rfl;have c5 : w7.cell? ⟨g, off + j * 7 + 5, none⟩ = some (.bool CB) := HC.out w7 HB.out 5 _ rfl;have c6 : w7.cell? ⟨g, off + j * 7 + 6, none⟩ = some (zI ((q : Int) + 1 + (lp : Int) + 1 + (le : Int) + 1 + 1)) := HC.out w7 HB.out 6 _ rfl;go_wp2_with fail
   go_roundw
   case rel => exact ⟨j + 1, q + (5 + lp + le), by omega, by go_num, by go_num, ⟨by omega, by omega⟩, HQ.out.symm, HB.out⟩
   case measure => simp [intOf]; omega
  ·have hjl : n = j := by omega
   subst hjl;have HE : Hid (q = KK) := by
    show q = KK;rw [<- HA.2.2.2, HA.2.1];exact H.1
   go_wp2
   go_ret;exact ⟨by rw [HE.out]; rfl, H.2⟩
end Go.Proofs.YtabfamhaihnccaaGreat
